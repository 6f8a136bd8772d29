/- ValueTells: the walk. -/
import Derived.Test.YtnmbifoinponeaaGreatDoorJ3
import Derived.Test.YtnmbifoinponeaaGreatDoorG3
import Derived.Test.YtnmbifoinponeaaGreatDoorD3
import Derived.Test.YtnmbifoinponeaaGreatDoorB3
import Derived.Test.YtnmbifoinponeaaGreatDoorE3
import Derived.Test.YtnmbifoinponeaaGreatDoorP
import Derived.Test.YtnmbifoinponeaaGreatDoorY
import Derived.Test.YtnmbifoinponeaaGreatDoorJ2
import Derived.Test.YtnmbifoinponeaaGreatDoorQ2
import Derived.Test.YtnmbifoinponeaaGreatDoorP2
namespace Go.Proofs.YtnmbifoinponeaaGreatDoor
open Go.RowKit Go.Deep Go.Shelf
set_option linter.unusedVariables false
set_option linter.unusedSimpArgs false

theorem zeros_same (w : World) {p : Pg} {t : TyP} {h1 h2 : Hd} {z1 z2 : List Hd} (hR : rightB p = true) (a : ZeroIs p t h1 z1) (an : h1.n = z1.length) (av : VRd w h1.a z1) (b : ZeroIs p t h2 z2) (bn : h2.n = z2.length) (bv : VRd w h2.a z2) : Calls Tryz.prog 12 #[h1.v, h2.v] w fun e w' => e = .returned (.bool true) ∧ Below w.heap.size w w' := by
  have h := refSame 2 w (zT h1 z1) (zT h2 z2) (zero_rds hR a an av) (zero_rds hR b bn bv)
  rw [zT_hd, zT_hd, zero_cmp a b] at h
  exact h
set_option maxRecDepth 100000 in
set_option maxHeartbeats 4000000 in
theorem tells_go (w : World) (E : Env w) (pg : PH) (p : Pg) (dp : PRd w pg p) (k r : Int) (x1 x2 : Hd) (fs1 fs2 : List Hd) (gs1 gs2 : Nat → List Hd) (d1 : Deep w x1 fs1 gs1) (d2 : Deep w x2 fs2 gs2) :
    Calls Tryz.prog 3 #[pg.v, ty k r, x1.v, x2.v] w fun e w' => e = .returned (.bool true) ∧ Below w.heap.size w w' := by
  have K4 := hid (fun (w1 : World) (hb : Below w.heap.size w w1) => known_any w1 (E.below hb))
  have K5 := hid (fun (w1 : World) (hb : Below w.heap.size w w1) => plainP_any w1 pg p (dp.below (Nat.le_refl _) hb))
  have K61 := hid (fun (w1 : World) (hb : Below w.heap.size w w1) => small_txt w1 x1 fs1 gs1 (d1.below (Nat.le_refl _) hb))
  have K62 := hid (fun (w1 : World) (hb : Below w.heap.size w w1) => small_txt w1 x2 fs2 gs2 (d2.below (Nat.le_refl _) hb))
  have K7 := hid (fun (w1 : World) (hb : Below w.heap.size w w1) => right_any w1 pg p (dp.below (Nat.le_refl _) hb))
  have K8 := hid (fun (w1 : World) (hb : Below w.heap.size w w1) => refRight w1 pg p (dp.below (Nat.le_refl _) hb))
  have hnx1 := d1.n
  have K15 := hid (fun (w1 : World) (hb : Below w.heap.size w w1) => is_any w1 pg p (dp.below (Nat.le_refl _) hb) k r x1 fs1 d1.hin d1.n (d1.rd.below (Nat.le_refl _) hb) d1.fin)
  have K16 := hid (fun (w1 : World) (hb : Below w.heap.size w w1) (hR : rightB p = true) => refIs w1 pg p (dp.below (Nat.le_refl _) hb) hR k r x1 fs1 d1.hin d1.n (d1.rd.below (Nat.le_refl _) hb) d1.fin)
  have K17 := hid (fun (w1 : World) (hb : Below w.heap.size w w1) (hf : ∀ x ∈ p.recs, x.2.fields.length ≤ 12) => zero_any w1 pg p (dp.below (Nat.le_refl _) hb) hf k r)
  have K18 := hid (fun (w1 : World) (hb : Below w.heap.size w w1) (hR : rightB p = true) => refZero w1 pg p (dp.below (Nat.le_refl _) hb) hR k r)
  have K19 := hid (fun (w1 : World) (hb : Below w.heap.size w w1) => name_any w1 pg p (dp.below (Nat.le_refl _) hb) k r)
  have K20 := hid (fun (w1 : World) (hb : Below w.heap.size w w1) => refName w1 pg p (dp.below (Nat.le_refl _) hb) k r)
  have D1 := hid d1
  have D2 := hid d2
  have HE := hid E
  clear d1 d2 dp E hnx1
  obtain ⟨ra, rn, rc, ma, mn, mc, fa, fn, fc, ea, en, ec⟩ := pg
  obtain ⟨k1, i1, t1, r1, a1, m1, c1⟩ := x1
  obtain ⟨k2, i2, t2, r2, a2, m2, c2⟩ := x2
  simp only [PH.v, ty, Hd.v] at K5 K61 K62 K7 K8 K15 K16 K17 K18 K19 K20 ⊢
  obtain ⟨W0, hW0⟩ : ∃ W0, W0 = ((((w.alloc (.cells #[.slice ra rn rc, .slice ma mn mc, .slice fa fn fc, .slice ea en ec] 26)).alloc (.cells #[.int .i64 k, .int .i64 r] 28)).alloc (.cells #[.int .i64 k1, .int .i64 i1, .string t1, .int .i64 r1, .slice a1 m1 c1] 31)).alloc (.cells #[.int .i64 k2, .int .i64 i2, .string t2, .int .i64 r2, .slice a2 m2 c2] 31)) := ⟨_, rfl⟩
  have n0 := heap_alloc_new w (.cells #[.slice ra rn rc, .slice ma mn mc, .slice fa fn fc, .slice ea en ec] 26)
  have n1 := heap_alloc_new (w.alloc (.cells #[.slice ra rn rc, .slice ma mn mc, .slice fa fn fc, .slice ea en ec] 26)) (.cells #[.int .i64 k, .int .i64 r] 28)
  have n2 := heap_alloc_new ((w.alloc (.cells #[.slice ra rn rc, .slice ma mn mc, .slice fa fn fc, .slice ea en ec] 26)).alloc (.cells #[.int .i64 k, .int .i64 r] 28)) (.cells #[.int .i64 k1, .int .i64 i1, .string t1, .int .i64 r1, .slice a1 m1 c1] 31)
  have n3 := heap_alloc_new (((w.alloc (.cells #[.slice ra rn rc, .slice ma mn mc, .slice fa fn fc, .slice ea en ec] 26)).alloc (.cells #[.int .i64 k, .int .i64 r] 28)).alloc (.cells #[.int .i64 k1, .int .i64 i1, .string t1, .int .i64 r1, .slice a1 m1 c1] 31)) (.cells #[.int .i64 k2, .int .i64 i2, .string t2, .int .i64 r2, .slice a2 m2 c2] 31)
  simp only [World.size_alloc] at n1 n2 n3
  have pl' : ∀ {w : World} {o x : Obj} {k : Nat}, w.heap[k]? = some x → (w.alloc o).heap[k]? = some x := fun h => (Below.heap_alloc _ _ _ (Array.getElem?_eq_some_iff.1 h).1).trans h
  have b0 : W0.heap[w.heap.size]? = some (.cells #[.slice ra rn rc, .slice ma mn mc, .slice fa fn fc, .slice ea en ec] 26 (0, 0)) := by rw [hW0]; exact pl' (pl' (pl' (n0)))
  have b1 : W0.heap[w.heap.size + 1]? = some (.cells #[.int .i64 k, .int .i64 r] 28 (0, 0)) := by rw [hW0]; exact pl' (pl' (n1))
  have b2 : W0.heap[w.heap.size + 1 + 1]? = some (.cells #[.int .i64 k1, .int .i64 i1, .string t1, .int .i64 r1, .slice a1 m1 c1] 31 (0, 0)) := by rw [hW0]; exact pl' (n2)
  have b3 : W0.heap[w.heap.size + 1 + 1 + 1]? = some (.cells #[.int .i64 k2, .int .i64 i2, .string t2, .int .i64 r2, .slice a2 m2 c2] 31 (0, 0)) := by rw [hW0]; exact n3
  have hb0 : Below w.heap.size w W0 := by rw [hW0]; exact ((((Below.refl _ w).alloc (Nat.le_refl _) _).alloc (by simp) _).alloc (by simp; omega) _).alloc (by simp; omega) _
  clear n0 n1 n2 n3 pl'
  have FX : Hid (∀ w2 : World, Below W0.heap.size W0 w2 → (w2.cell? ⟨w.heap.size, 0, none⟩ = some (.slice ra rn rc) ∧ w2.cell? ⟨w.heap.size, 1, none⟩ = some (.slice ma mn mc) ∧ w2.cell? ⟨w.heap.size, 2, none⟩ = some (.slice fa fn fc) ∧ w2.cell? ⟨w.heap.size, 3, none⟩ = some (.slice ea en ec) ∧ w2.cell? ⟨w.heap.size + 1, 0, none⟩ = some (.int .i64 k) ∧ w2.cell? ⟨w.heap.size + 1, 1, none⟩ = some (.int .i64 r) ∧ w2.cell? ⟨w.heap.size + 1 + 1, 0, none⟩ = some (.int .i64 k1) ∧ w2.cell? ⟨w.heap.size + 1 + 1, 1, none⟩ = some (.int .i64 i1) ∧ w2.cell? ⟨w.heap.size + 1 + 1, 2, none⟩ = some (.string t1) ∧ w2.cell? ⟨w.heap.size + 1 + 1, 3, none⟩ = some (.int .i64 r1) ∧ w2.cell? ⟨w.heap.size + 1 + 1, 4, none⟩ = some (.slice a1 m1 c1) ∧ w2.cell? ⟨w.heap.size + 1 + 1 + 1, 0, none⟩ = some (.int .i64 k2) ∧ w2.cell? ⟨w.heap.size + 1 + 1 + 1, 1, none⟩ = some (.int .i64 i2) ∧ w2.cell? ⟨w.heap.size + 1 + 1 + 1, 2, none⟩ = some (.string t2) ∧ w2.cell? ⟨w.heap.size + 1 + 1 + 1, 3, none⟩ = some (.int .i64 r2) ∧ w2.cell? ⟨w.heap.size + 1 + 1 + 1, 4, none⟩ = some (.slice a2 m2 c2)) ∧ Below w.heap.size w w2) := hid (fun w2 hb => by
    have q0 := (hb.block _ (Array.getElem?_eq_some_iff.1 b0).1).trans b0
    have q1 := (hb.block _ (Array.getElem?_eq_some_iff.1 b1).1).trans b1
    have q2 := (hb.block _ (Array.getElem?_eq_some_iff.1 b2).1).trans b2
    have q3 := (hb.block _ (Array.getElem?_eq_some_iff.1 b3).1).trans b3
    exact ⟨⟨cellOf q0 0, cellOf q0 1, cellOf q0 2, cellOf q0 3, cellOf q1 0, cellOf q1 1, cellOf q2 0, cellOf q2 1, cellOf q2 2, cellOf q2 3, cellOf q2 4, cellOf q3 0, cellOf q3 1, cellOf q3 2, cellOf q3 3, cellOf q3 4⟩, hb0.trans (hb.mono hb0.size)⟩)
  have TR : Hid (∀ {x y : World}, Below W0.heap.size W0 x → Below x.heap.size x y → Below W0.heap.size W0 y) := hid (fun h1 h2 => h1.trans (h2.mono h1.size))
  have hb_0 := Below.refl W0.heap.size W0
  have bb_0 := hb0
  clear b0 b1 b2 b3 hb0
  go_enter Tryz.func3, Tryz.ntmps3
  go_wp2_with (first
    | (go_at_call 6; (have hno := hb_c; refine (Hid.out K62 _ bb_c).mono ?_; rintro e w_d ⟨⟨v_d, rfl, hs_d⟩, hb'_d⟩; have hb_d := TR.out hb_c hb'_d; obtain ⟨⟨nd0, nd1, nd2, nd3, nd4, nd5, nd6, nd7, nd8, nd9, nd10, nd11, nd12, nd13, nd14, nd15⟩, bb_d⟩ := FX.out w_d hb_d; have HS2 := hid hs_d; clear hs_d; cases v_d))
    | (go_at_call 6; (have hno := hb_b; refine (Hid.out K61 _ bb_b).mono ?_; rintro e w_c ⟨⟨v_c, rfl, hs_c⟩, hb'_c⟩; have hb_c := TR.out hb_b hb'_c; obtain ⟨⟨nc0, nc1, nc2, nc3, nc4, nc5, nc6, nc7, nc8, nc9, nc10, nc11, nc12, nc13, nc14, nc15⟩, bb_c⟩ := FX.out w_c hb_c; have HS1 := hid hs_c; clear hs_c; cases v_c))
    | (go_at_call 5; (have hno := hb_a; refine (Hid.out K5 _ bb_a).mono ?_; rintro e w_b ⟨v_b, rfl, hb'_b⟩; have hb_b := TR.out hb_a hb'_b; obtain ⟨⟨nb0, nb1, nb2, nb3, nb4, nb5, nb6, nb7, nb8, nb9, nb10, nb11, nb12, nb13, nb14, nb15⟩, bb_b⟩ := FX.out w_b hb_b; cases v_b))
    | (go_at_call 4; (rw [← hW0]; refine (Hid.out K4 _ bb_0).mono ?_; rintro e w_a ⟨rfl, hb'_a⟩; have hb_a := TR.out hb_0 hb'_a; obtain ⟨⟨na0, na1, na2, na3, na4, na5, na6, na7, na8, na9, na10, na11, na12, na13, na14, na15⟩, bb_a⟩ := FX.out w_a hb_a)))
  · go_ret
    exact ⟨rfl, bb_b⟩
  · go_ret
    exact ⟨rfl, bb_c⟩
  · go_ret
    exact ⟨rfl, bb_d⟩
  obtain ⟨ta, qa, ra', xa, fa'⟩ := tree_of2 D1.out (HS1.out (by first | rfl | trivial))
  obtain ⟨tb, qb, rb', xb, fb'⟩ := tree_of2 D2.out (HS2.out (by first | rfl | trivial))
  have C9 : Hid (∀ w1 : World, Below w.heap.size w w1 → Calls Tryz.prog 9 #[.agg #[.int .i64 k1, .int .i64 i1, .string t1, .int .i64 r1, .slice a1 m1 c1], .agg #[.int .i64 k2, .int .i64 i2, .string t2, .int .i64 r2, .slice a2 m2 c2]] w1 fun e w' => e = .returned (.int .i64 (cmpT 3 ta tb)) ∧ Below w1.heap.size w1 w') := hid (fun w1 hb => by
    have h := compare_any 3 w1 ta tb (Rds.below 3 ra' (Nat.le_refl _) hb) (Rds.below 3 rb' (Nat.le_refl _) hb)
    rw [qa, qb] at h; exact h)
  have C10 : Hid (∀ w1 : World, Below w.heap.size w w1 → Calls Tryz.prog 10 #[.agg #[.int .i64 k1, .int .i64 i1, .string t1, .int .i64 r1, .slice a1 m1 c1], .agg #[.int .i64 k2, .int .i64 i2, .string t2, .int .i64 r2, .slice a2 m2 c2]] w1 fun e w' => e = .returned (.int .i64 (cmpT 3 ta tb)) ∧ Below w1.heap.size w1 w') := hid (fun w1 hb => by
    have h := refCmp 3 w1 ta tb (Rds.below 3 ra' (Nat.le_refl _) hb) (Rds.below 3 rb' (Nat.le_refl _) hb)
    rw [qa, qb] at h; exact h)
  have C11 : Hid (∀ w1 : World, Below w.heap.size w w1 → Calls Tryz.prog 11 #[.agg #[.int .i64 k1, .int .i64 i1, .string t1, .int .i64 r1, .slice a1 m1 c1], .agg #[.int .i64 k2, .int .i64 i2, .string t2, .int .i64 r2, .slice a2 m2 c2]] w1 fun e w' => e = .returned (.bool (cmpT 3 ta tb == 0)) ∧ Below w1.heap.size w1 w') := hid (fun w1 hb => by
    have h := same_any 3 w1 ta tb (Rds.below 3 ra' (Nat.le_refl _) hb) (Rds.below 3 rb' (Nat.le_refl _) hb)
    rw [qa, qb] at h; exact h)
  have C12 : Hid (∀ w1 : World, Below w.heap.size w w1 → Calls Tryz.prog 12 #[.agg #[.int .i64 k1, .int .i64 i1, .string t1, .int .i64 r1, .slice a1 m1 c1], .agg #[.int .i64 k2, .int .i64 i2, .string t2, .int .i64 r2, .slice a2 m2 c2]] w1 fun e w' => e = .returned (.bool (cmpT 3 ta tb == 0)) ∧ Below w1.heap.size w1 w') := hid (fun w1 hb => by
    have h := refSame 3 w1 ta tb (Rds.below 3 ra' (Nat.le_refl _) hb) (Rds.below 3 rb' (Nat.le_refl _) hb)
    rw [qa, qb] at h; exact h)
  have C13 : Hid (∀ w1 : World, Below w.heap.size w w1 → Calls Tryz.prog 13 #[.agg #[.int .i64 k1, .int .i64 i1, .string t1, .int .i64 r1, .slice a1 m1 c1]] w1 fun e w' => e = .returned (.string ⟨(prT 3 ta).toArray⟩) ∧ Below w1.heap.size w1 w') := hid (fun w1 hb => by
    have h := print_any 3 w1 ta (Rds.below 3 ra' (Nat.le_refl _) hb) xa (HE.out.below hb) (by decide)
    rw [qa] at h; exact h)
  have C14 : Hid (∀ w1 : World, Below w.heap.size w w1 → Calls Tryz.prog 14 #[.agg #[.int .i64 k1, .int .i64 i1, .string t1, .int .i64 r1, .slice a1 m1 c1]] w1 fun e w' => e = .returned (.string ⟨(prT 3 ta).toArray⟩) ∧ Below w1.heap.size w1 w') := hid (fun w1 hb => by
    have h := refPrint 3 w1 ta (by decide) (Rds.below 3 ra' (Nat.le_refl _) hb) xa
    rw [qa] at h; exact h)
  generalize cmpT 3 ta tb = x at *
  generalize (⟨(prT 3 ta).toArray⟩ : ByteArray) = str at *
  clear qa qb ra' rb' xa xb fa' fb' D1 D2 HS1 HS2 K4 K5 K61 K62 HE
  clear na0 na1 na2 na3 na4 na5 na6 na7 na8 na9 na10 na11 na12 na13 na14 na15
  clear nb0 nb1 nb2 nb3 nb4 nb5 nb6 nb7 nb8 nb9 nb10 nb11 nb12 nb13 nb14 nb15
  clear nc0 nc1 nc2 nc3 nc4 nc5 nc6 nc7 nc8 nc9 nc10 nc11 nc12 nc13 nc14 nc15
  have HRR : Hid (rightB p = true → ∀ x ∈ p.recs, x.2.fields.length ≤ 12) := hid (fun h x hx => ((right_recs h).2 x hx).1)
  obtain ⟨rb, hrb⟩ : ∃ rb, rb = rightB p := ⟨_, rfl⟩
  rw [← hrb] at K7 K8
  have Hrb := hid hrb
  clear hrb
  obtain ⟨sb, hsb⟩ : ∃ sb, sb = (x == 0) := ⟨_, rfl⟩
  rw [← hsb] at C11 C12
  clear hsb
  have bq : (rb != rb) = false := by cases rb <;> rfl
  have bs : (sb != sb) = false := by cases sb <;> rfl
  go_wp2
  go_region_held3 (fun w2 => w2.cell? ⟨w.heap.size, 0, none⟩ = some (.slice ra rn rc) ∧ w2.cell? ⟨w.heap.size, 1, none⟩ = some (.slice ma mn mc) ∧ w2.cell? ⟨w.heap.size, 2, none⟩ = some (.slice fa fn fc) ∧ w2.cell? ⟨w.heap.size, 3, none⟩ = some (.slice ea en ec) ∧ w2.cell? ⟨w.heap.size + 1, 0, none⟩ = some (.int .i64 k) ∧ w2.cell? ⟨w.heap.size + 1, 1, none⟩ = some (.int .i64 r) ∧ w2.cell? ⟨w.heap.size + 1 + 1, 0, none⟩ = some (.int .i64 k1) ∧ w2.cell? ⟨w.heap.size + 1 + 1, 1, none⟩ = some (.int .i64 i1) ∧ w2.cell? ⟨w.heap.size + 1 + 1, 2, none⟩ = some (.string t1) ∧ w2.cell? ⟨w.heap.size + 1 + 1, 3, none⟩ = some (.int .i64 r1) ∧ w2.cell? ⟨w.heap.size + 1 + 1, 4, none⟩ = some (.slice a1 m1 c1) ∧ w2.cell? ⟨w.heap.size + 1 + 1 + 1, 0, none⟩ = some (.int .i64 k2) ∧ w2.cell? ⟨w.heap.size + 1 + 1 + 1, 1, none⟩ = some (.int .i64 i2) ∧ w2.cell? ⟨w.heap.size + 1 + 1 + 1, 2, none⟩ = some (.string t2) ∧ w2.cell? ⟨w.heap.size + 1 + 1 + 1, 3, none⟩ = some (.int .i64 r2) ∧ w2.cell? ⟨w.heap.size + 1 + 1 + 1, 4, none⟩ = some (.slice a2 m2 c2)) (first | exact S_l | exact S_k | exact S_j | exact S_i | exact S_h | exact S_g | exact S_f | exact S_e | go_keep) ((first
    | (go_at_call 7; (have hno := hb_d; refine (Hid.out K7 _ bb_d.drew).mono ?_; rintro e w_e ⟨rfl, hb'_e⟩; have hb_e := TR.out hb_d.drew hb'_e; obtain ⟨S_e, bb_e⟩ := FX.out w_e hb_e))
    | (go_at_call 8; (have hno := hb_e; refine (Hid.out K8 _ bb_e).mono ?_; rintro e w_f ⟨rfl, hb'_f⟩; have hb_f := TR.out hb_e hb'_f; obtain ⟨S_f, bb_f⟩ := FX.out w_f hb_f))
    | (go_at_call 9; (have hno := hb_f; refine (Hid.out C9 _ bb_f).mono ?_; rintro e w_g ⟨rfl, hb'_g⟩; have hb_g := TR.out hb_f hb'_g; obtain ⟨S_g, bb_g⟩ := FX.out w_g hb_g))
    | (go_at_call 10; (have hno := hb_g; refine (Hid.out C10 _ bb_g).mono ?_; rintro e w_h ⟨rfl, hb'_h⟩; have hb_h := TR.out hb_g hb'_h; obtain ⟨S_h, bb_h⟩ := FX.out w_h hb_h))
    | (go_at_call 11; (have hno := hb_h; refine (Hid.out C11 _ bb_h).mono ?_; rintro e w_i ⟨rfl, hb'_i⟩; have hb_i := TR.out hb_h hb'_i; obtain ⟨S_i, bb_i⟩ := FX.out w_i hb_i))
    | (go_at_call 12; (have hno := hb_i; refine (Hid.out C12 _ bb_i).mono ?_; rintro e w_j ⟨rfl, hb'_j⟩; have hb_j := TR.out hb_i hb'_j; obtain ⟨S_j, bb_j⟩ := FX.out w_j hb_j))
    | (go_at_call 13; (have hno := hb_j; refine (Hid.out C13 _ bb_j).mono ?_; rintro e w_k ⟨rfl, hb'_k⟩; have hb_k := TR.out hb_j hb'_k; obtain ⟨S_k, bb_k⟩ := FX.out w_k hb_k))
    | (go_at_call 14; (have hno := hb_k; refine (Hid.out C14 _ bb_k).mono ?_; rintro e w_l ⟨rfl, hb'_l⟩; have hb_l := TR.out hb_k hb'_l; obtain ⟨S_l, bb_l⟩ := FX.out w_l hb_l))))
  obtain ⟨nl0, nl1, nl2, nl3, nl4, nl5, nl6, nl7, nl8, nl9, nl10, nl11, nl12, nl13, nl14, nl15⟩ := S_l
  clear S_e S_f S_g S_h S_i S_j S_k
  clear nd0 nd1 nd2 nd3 nd4 nd5 nd6 nd7 nd8 nd9 nd10 nd11 nd12 nd13 nd14 nd15
  cases rb with
  | false =>
    go_wp2_with (go_at_call 8; (refine (Hid.out K8 _ bb_l).mono ?_; rintro e w_m ⟨rfl, hb'_m⟩; have hb_m := TR.out hb_l hb'_m; obtain ⟨⟨nm0, nm1, nm2, nm3, nm4, nm5, nm6, nm7, nm8, nm9, nm10, nm11, nm12, nm13, nm14, nm15⟩, bb_m⟩ := FX.out w_m hb_m))
    go_ret
    exact ⟨rfl, bb_m⟩
  | true =>
    have HRT : Hid (rightB p = true) := hid Hrb.out.symm
    generalize isB p (k, r) ⟨k1, i1, t1, r1, a1, m1, c1⟩ fs1 = ib at *
    generalize nameT p (k, r) = nm at *
    have be : (ib == ib) = true := by cases ib <;> rfl
    go_wp2_with (go_at_call 8; (refine (Hid.out K8 _ bb_l).mono ?_; rintro e w_m ⟨rfl, hb'_m⟩; have hb_m := TR.out hb_l hb'_m; obtain ⟨⟨nm0, nm1, nm2, nm3, nm4, nm5, nm6, nm7, nm8, nm9, nm10, nm11, nm12, nm13, nm14, nm15⟩, bb_m⟩ := FX.out w_m hb_m))
    clear nl0 nl1 nl2 nl3 nl4 nl5 nl6 nl7 nl8 nl9 nl10 nl11 nl12 nl13 nl14 nl15
    go_region_held3 (fun w2 => w2.cell? ⟨w.heap.size, 0, none⟩ = some (.slice ra rn rc) ∧ w2.cell? ⟨w.heap.size, 1, none⟩ = some (.slice ma mn mc) ∧ w2.cell? ⟨w.heap.size, 2, none⟩ = some (.slice fa fn fc) ∧ w2.cell? ⟨w.heap.size, 3, none⟩ = some (.slice ea en ec) ∧ w2.cell? ⟨w.heap.size + 1, 0, none⟩ = some (.int .i64 k) ∧ w2.cell? ⟨w.heap.size + 1, 1, none⟩ = some (.int .i64 r) ∧ w2.cell? ⟨w.heap.size + 1 + 1, 0, none⟩ = some (.int .i64 k1) ∧ w2.cell? ⟨w.heap.size + 1 + 1, 1, none⟩ = some (.int .i64 i1) ∧ w2.cell? ⟨w.heap.size + 1 + 1, 2, none⟩ = some (.string t1) ∧ w2.cell? ⟨w.heap.size + 1 + 1, 3, none⟩ = some (.int .i64 r1) ∧ w2.cell? ⟨w.heap.size + 1 + 1, 4, none⟩ = some (.slice a1 m1 c1) ∧ w2.cell? ⟨w.heap.size + 1 + 1 + 1, 0, none⟩ = some (.int .i64 k2) ∧ w2.cell? ⟨w.heap.size + 1 + 1 + 1, 1, none⟩ = some (.int .i64 i2) ∧ w2.cell? ⟨w.heap.size + 1 + 1 + 1, 2, none⟩ = some (.string t2) ∧ w2.cell? ⟨w.heap.size + 1 + 1 + 1, 3, none⟩ = some (.int .i64 r2) ∧ w2.cell? ⟨w.heap.size + 1 + 1 + 1, 4, none⟩ = some (.slice a2 m2 c2)) (first | exact S_y | exact S_v | exact S_u | exact S_t | exact S_s | exact S_q | exact S_o | go_keep) ((first
      | (go_at_call 15; (have hno := hb_m; refine (Hid.out K15 _ bb_m.drew).mono ?_; rintro e w_o ⟨rfl, hb'_o⟩; have hb_o := TR.out hb_m.drew hb'_o; obtain ⟨S_o, bb_o⟩ := FX.out w_o hb_o))
      | (go_at_call 16; (have hno := hb_o; refine (Hid.out K16 _ bb_o HRT.out).mono ?_; rintro e w_q ⟨rfl, hb'_q⟩; have hb_q := TR.out hb_o hb'_q; obtain ⟨S_q, bb_q⟩ := FX.out w_q hb_q))
      | (go_at_call 17; (have hno := hb_q; refine (Hid.out K17 _ bb_q (HRR.out HRT.out)).mono ?_; rintro e w_s ⟨h3, zs3, rfl, hb'_s, hzi3, hvr3, hzn3⟩; have hb_s := TR.out hb_q hb'_s; obtain ⟨S_s, bb_s⟩ := FX.out w_s hb_s; have Z3 := hid (And.intro hzi3 (And.intro hvr3 hzn3)); clear hzi3 hvr3 hzn3))
      | (go_at_call 18; (have hno := hb_s; refine (Hid.out K18 _ bb_s HRT.out).mono ?_; rintro e w_t ⟨h4, zs4, rfl, hb'_t, hzi4, hvr4, hzn4⟩; have hb_t := TR.out hb_s hb'_t; obtain ⟨S_t, bb_t⟩ := FX.out w_t hb_t; have C2 := hid (zeros_same w_t HRT.out Z3.out.1 Z3.out.2.2 (Z3.out.2.1.below (Nat.le_refl _) hb'_t) hzi4 hzn4 hvr4); clear hzi4 hvr4 hzn4))
      | (go_at_call 12; (have hno := hb_t; refine (Hid.out C2).mono ?_; rintro e w_u ⟨rfl, hb'_u⟩; have hb_u := TR.out hb_t hb'_u; obtain ⟨S_u, bb_u⟩ := FX.out w_u hb_u))
      | (go_at_call 19; (have hno := hb_u; refine (Hid.out K19 _ bb_u).mono ?_; rintro e w_v ⟨rfl, hb'_v⟩; have hb_v := TR.out hb_u hb'_v; obtain ⟨S_v, bb_v⟩ := FX.out w_v hb_v))
      | (go_at_call 20; (have hno := hb_v; refine (Hid.out K20 _ bb_v).mono ?_; rintro e w_y ⟨rfl, hb'_y⟩; have hb_y := TR.out hb_v hb'_y; obtain ⟨S_y, bb_y⟩ := FX.out w_y hb_y))))
    go_wp2
    go_ret
    exact ⟨rfl, bb_y⟩
end Go.Proofs.YtnmbifoinponeaaGreatDoor
