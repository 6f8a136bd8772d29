/- ValueOrder: the walk. -/
import Derived.Test.YtpkblggpifnlmaaDoorQ2
import Derived.Test.YtpkblggpifnlmaaDoorE2
import Derived.Test.YtpkblggpifnlmaaDoorJ2
import Derived.Test.YtpkblggpifnlmaaDoorY
namespace Go.Proofs.YtpkblggpifnlmaaDoor
open Go.RowKit Go.Deep Go.Shelf
set_option linter.unusedVariables false
set_option linter.unusedSimpArgs false

set_option maxRecDepth 100000 in
set_option maxHeartbeats 4000000 in
theorem order_go (w : World) (E : Env w) (pg : PH) (p : Pg) (dp : PRd w pg p) (k r : Int) (x1 x2 x3 : Hd) (fs1 fs2 fs3 : List Hd) (gs1 gs2 gs3 : Nat → List Hd) (d1 : Deep w x1 fs1 gs1) (d2 : Deep w x2 fs2 gs2) (d3 : Deep w x3 fs3 gs3) :
    Calls Tryd.prog 3 #[pg.v, ty k r, x1.v, x2.v, x3.v] w fun e w' => e = .returned (.bool true) ∧ Below w.heap.size w w' := by
  have K6 := hid (fun (w1 : World) (hb : Below w.heap.size w w1) => known_any w1 (E.below hb))
  have K7 := hid (fun (w1 : World) (hb : Below w.heap.size w w1) => plainP_any w1 pg p (dp.below (Nat.le_refl _) hb))
  have K81 := hid (fun (w1 : World) (hb : Below w.heap.size w w1) => small_txt w1 x1 fs1 gs1 (d1.below (Nat.le_refl _) hb))
  have K82 := hid (fun (w1 : World) (hb : Below w.heap.size w w1) => small_txt w1 x2 fs2 gs2 (d2.below (Nat.le_refl _) hb))
  have K83 := hid (fun (w1 : World) (hb : Below w.heap.size w w1) => small_txt w1 x3 fs3 gs3 (d3.below (Nat.le_refl _) hb))
  have K11 := hid (fun (w1 : World) (hb : Below w.heap.size w w1) => right_any w1 pg p (dp.below (Nat.le_refl _) hb))
  have K12 := hid (fun (w1 : World) (hb : Below w.heap.size w w1) => name_any w1 pg p (dp.below (Nat.le_refl _) hb) k r)
  have K14 := hid (fun (w1 : World) (hb : Below w.heap.size w w1) (hf : ∀ x ∈ p.recs, x.2.fields.length ≤ 12) => zero_any w1 pg p (dp.below (Nat.le_refl _) hb) hf k r)
  have K13 := hid (fun (w1 : World) (hb : Below w.heap.size w w1) (h : Hd) (zs : List Hd) (hin : h.In) (hn : h.n = zs.length) (hv : VRd w1 h.a zs) (hfs : ∀ f ∈ zs, f.In) => is_any w1 pg p (dp.below (Nat.le_refl _) hb) k r h zs hin hn hv hfs)
  have D1 := hid d1
  have D2 := hid d2
  have D3 := hid d3
  clear d1 d2 d3 dp E
  obtain ⟨ra, rn, rc, ma, mn, mc, fa, fn, fc, ea, en, ec⟩ := pg
  obtain ⟨k1, i1, t1, r1, a1, m1, c1⟩ := x1
  obtain ⟨k2, i2, t2, r2, a2, m2, c2⟩ := x2
  obtain ⟨k3, i3, t3, r3, a3, m3, c3⟩ := x3
  simp only [PH.v, ty, Hd.v] at K7 K81 K82 K83 K11 K12 K14 K13 ⊢
  obtain ⟨W0, hW0⟩ : ∃ W0, W0 = (((((w.alloc (.cells #[.slice ra rn rc, .slice ma mn mc, .slice fa fn fc, .slice ea en ec] 26)).alloc (.cells #[.int .i64 k, .int .i64 r] 28)).alloc (.cells #[.int .i64 k1, .int .i64 i1, .string t1, .int .i64 r1, .slice a1 m1 c1] 31)).alloc (.cells #[.int .i64 k2, .int .i64 i2, .string t2, .int .i64 r2, .slice a2 m2 c2] 31)).alloc (.cells #[.int .i64 k3, .int .i64 i3, .string t3, .int .i64 r3, .slice a3 m3 c3] 31)) := ⟨_, rfl⟩
  have n0 := heap_alloc_new w (.cells #[.slice ra rn rc, .slice ma mn mc, .slice fa fn fc, .slice ea en ec] 26)
  have n1 := heap_alloc_new (w.alloc (.cells #[.slice ra rn rc, .slice ma mn mc, .slice fa fn fc, .slice ea en ec] 26)) (.cells #[.int .i64 k, .int .i64 r] 28)
  have n2 := heap_alloc_new ((w.alloc (.cells #[.slice ra rn rc, .slice ma mn mc, .slice fa fn fc, .slice ea en ec] 26)).alloc (.cells #[.int .i64 k, .int .i64 r] 28)) (.cells #[.int .i64 k1, .int .i64 i1, .string t1, .int .i64 r1, .slice a1 m1 c1] 31)
  have n3 := heap_alloc_new (((w.alloc (.cells #[.slice ra rn rc, .slice ma mn mc, .slice fa fn fc, .slice ea en ec] 26)).alloc (.cells #[.int .i64 k, .int .i64 r] 28)).alloc (.cells #[.int .i64 k1, .int .i64 i1, .string t1, .int .i64 r1, .slice a1 m1 c1] 31)) (.cells #[.int .i64 k2, .int .i64 i2, .string t2, .int .i64 r2, .slice a2 m2 c2] 31)
  have n4 := heap_alloc_new ((((w.alloc (.cells #[.slice ra rn rc, .slice ma mn mc, .slice fa fn fc, .slice ea en ec] 26)).alloc (.cells #[.int .i64 k, .int .i64 r] 28)).alloc (.cells #[.int .i64 k1, .int .i64 i1, .string t1, .int .i64 r1, .slice a1 m1 c1] 31)).alloc (.cells #[.int .i64 k2, .int .i64 i2, .string t2, .int .i64 r2, .slice a2 m2 c2] 31)) (.cells #[.int .i64 k3, .int .i64 i3, .string t3, .int .i64 r3, .slice a3 m3 c3] 31)
  simp only [World.size_alloc] at n1 n2 n3 n4
  have pl' : ∀ {w : World} {o x : Obj} {k : Nat}, w.heap[k]? = some x → (w.alloc o).heap[k]? = some x := fun h => (Below.heap_alloc _ _ _ (Array.getElem?_eq_some_iff.1 h).1).trans h
  have b0 : W0.heap[w.heap.size]? = some (.cells #[.slice ra rn rc, .slice ma mn mc, .slice fa fn fc, .slice ea en ec] 26 (0, 0)) := by rw [hW0]; exact pl' (pl' (pl' (pl' (n0))))
  have b1 : W0.heap[w.heap.size + 1]? = some (.cells #[.int .i64 k, .int .i64 r] 28 (0, 0)) := by rw [hW0]; exact pl' (pl' (pl' (n1)))
  have b2 : W0.heap[w.heap.size + 1 + 1]? = some (.cells #[.int .i64 k1, .int .i64 i1, .string t1, .int .i64 r1, .slice a1 m1 c1] 31 (0, 0)) := by rw [hW0]; exact pl' (pl' (n2))
  have b3 : W0.heap[w.heap.size + 1 + 1 + 1]? = some (.cells #[.int .i64 k2, .int .i64 i2, .string t2, .int .i64 r2, .slice a2 m2 c2] 31 (0, 0)) := by rw [hW0]; exact pl' (n3)
  have b4 : W0.heap[w.heap.size + 1 + 1 + 1 + 1]? = some (.cells #[.int .i64 k3, .int .i64 i3, .string t3, .int .i64 r3, .slice a3 m3 c3] 31 (0, 0)) := by rw [hW0]; exact n4
  have hb0 : Below w.heap.size w W0 := by rw [hW0]; exact (((((Below.refl _ w).alloc (Nat.le_refl _) _).alloc (by simp) _).alloc (by simp; omega) _).alloc (by simp; omega) _).alloc (by simp; omega) _
  clear n0 n1 n2 n3 n4 pl'
  have FX : Hid (∀ w2 : World, Below W0.heap.size W0 w2 → (w2.cell? ⟨w.heap.size, 0, none⟩ = some (.slice ra rn rc) ∧ w2.cell? ⟨w.heap.size, 1, none⟩ = some (.slice ma mn mc) ∧ w2.cell? ⟨w.heap.size, 2, none⟩ = some (.slice fa fn fc) ∧ w2.cell? ⟨w.heap.size, 3, none⟩ = some (.slice ea en ec) ∧ w2.cell? ⟨w.heap.size + 1, 0, none⟩ = some (.int .i64 k) ∧ w2.cell? ⟨w.heap.size + 1, 1, none⟩ = some (.int .i64 r) ∧ w2.cell? ⟨w.heap.size + 1 + 1, 0, none⟩ = some (.int .i64 k1) ∧ w2.cell? ⟨w.heap.size + 1 + 1, 1, none⟩ = some (.int .i64 i1) ∧ w2.cell? ⟨w.heap.size + 1 + 1, 2, none⟩ = some (.string t1) ∧ w2.cell? ⟨w.heap.size + 1 + 1, 3, none⟩ = some (.int .i64 r1) ∧ w2.cell? ⟨w.heap.size + 1 + 1, 4, none⟩ = some (.slice a1 m1 c1) ∧ w2.cell? ⟨w.heap.size + 1 + 1 + 1, 0, none⟩ = some (.int .i64 k2) ∧ w2.cell? ⟨w.heap.size + 1 + 1 + 1, 1, none⟩ = some (.int .i64 i2) ∧ w2.cell? ⟨w.heap.size + 1 + 1 + 1, 2, none⟩ = some (.string t2) ∧ w2.cell? ⟨w.heap.size + 1 + 1 + 1, 3, none⟩ = some (.int .i64 r2) ∧ w2.cell? ⟨w.heap.size + 1 + 1 + 1, 4, none⟩ = some (.slice a2 m2 c2) ∧ w2.cell? ⟨w.heap.size + 1 + 1 + 1 + 1, 0, none⟩ = some (.int .i64 k3) ∧ w2.cell? ⟨w.heap.size + 1 + 1 + 1 + 1, 1, none⟩ = some (.int .i64 i3) ∧ w2.cell? ⟨w.heap.size + 1 + 1 + 1 + 1, 2, none⟩ = some (.string t3) ∧ w2.cell? ⟨w.heap.size + 1 + 1 + 1 + 1, 3, none⟩ = some (.int .i64 r3) ∧ w2.cell? ⟨w.heap.size + 1 + 1 + 1 + 1, 4, none⟩ = some (.slice a3 m3 c3)) ∧ Below w.heap.size w w2) := hid (fun w2 hb => by
    have q0 := (hb.block _ (Array.getElem?_eq_some_iff.1 b0).1).trans b0
    have q1 := (hb.block _ (Array.getElem?_eq_some_iff.1 b1).1).trans b1
    have q2 := (hb.block _ (Array.getElem?_eq_some_iff.1 b2).1).trans b2
    have q3 := (hb.block _ (Array.getElem?_eq_some_iff.1 b3).1).trans b3
    have q4 := (hb.block _ (Array.getElem?_eq_some_iff.1 b4).1).trans b4
    exact ⟨⟨cellOf q0 0, cellOf q0 1, cellOf q0 2, cellOf q0 3, cellOf q1 0, cellOf q1 1, cellOf q2 0, cellOf q2 1, cellOf q2 2, cellOf q2 3, cellOf q2 4, cellOf q3 0, cellOf q3 1, cellOf q3 2, cellOf q3 3, cellOf q3 4, cellOf q4 0, cellOf q4 1, cellOf q4 2, cellOf q4 3, cellOf q4 4⟩, hb0.trans (hb.mono hb0.size)⟩)
  have TR : Hid (∀ {x y : World}, Below W0.heap.size W0 x → Below x.heap.size x y → Below W0.heap.size W0 y) := hid (fun h1 h2 => h1.trans (h2.mono h1.size))
  have hb_0 := Below.refl W0.heap.size W0
  have bb_0 := hb0
  clear b0 b1 b2 b3 b4 hb0
  go_enter Tryd.func3, Tryd.ntmps3
  go_wp2_with (first
    | (go_at_call 8; (have hno := hb_d; refine (Hid.out K83 _ bb_d).mono ?_; rintro e w_e ⟨⟨v_e, rfl, hs_e⟩, hb'_e⟩; have hb_e := TR.out hb_d hb'_e; obtain ⟨⟨ne0, ne1, ne2, ne3, ne4, ne5, ne6, ne7, ne8, ne9, ne10, ne11, ne12, ne13, ne14, ne15, ne16, ne17, ne18, ne19, ne20⟩, bb_e⟩ := FX.out w_e hb_e; have HS3 := hid hs_e; clear hs_e; cases v_e))
    | (go_at_call 8; (have hno := hb_c; refine (Hid.out K82 _ bb_c).mono ?_; rintro e w_d ⟨⟨v_d, rfl, hs_d⟩, hb'_d⟩; have hb_d := TR.out hb_c hb'_d; obtain ⟨⟨nd0, nd1, nd2, nd3, nd4, nd5, nd6, nd7, nd8, nd9, nd10, nd11, nd12, nd13, nd14, nd15, nd16, nd17, nd18, nd19, nd20⟩, bb_d⟩ := FX.out w_d hb_d; have HS2 := hid hs_d; clear hs_d; cases v_d))
    | (go_at_call 8; (have hno := hb_b; refine (Hid.out K81 _ bb_b).mono ?_; rintro e w_c ⟨⟨v_c, rfl, hs_c⟩, hb'_c⟩; have hb_c := TR.out hb_b hb'_c; obtain ⟨⟨nc0, nc1, nc2, nc3, nc4, nc5, nc6, nc7, nc8, nc9, nc10, nc11, nc12, nc13, nc14, nc15, nc16, nc17, nc18, nc19, nc20⟩, bb_c⟩ := FX.out w_c hb_c; have HS1 := hid hs_c; clear hs_c; cases v_c))
    | (go_at_call 7; (have hno := hb_a; refine (Hid.out K7 _ bb_a).mono ?_; rintro e w_b ⟨v_b, rfl, hb'_b⟩; have hb_b := TR.out hb_a hb'_b; obtain ⟨⟨nb0, nb1, nb2, nb3, nb4, nb5, nb6, nb7, nb8, nb9, nb10, nb11, nb12, nb13, nb14, nb15, nb16, nb17, nb18, nb19, nb20⟩, bb_b⟩ := FX.out w_b hb_b; cases v_b))
    | (go_at_call 6; (rw [← hW0]; refine (Hid.out K6 _ bb_0).mono ?_; rintro e w_a ⟨rfl, hb'_a⟩; have hb_a := TR.out hb_0 hb'_a; obtain ⟨⟨na0, na1, na2, na3, na4, na5, na6, na7, na8, na9, na10, na11, na12, na13, na14, na15, na16, na17, na18, na19, na20⟩, bb_a⟩ := FX.out w_a hb_a)))
  · go_ret
    exact ⟨rfl, bb_b⟩
  · go_ret
    exact ⟨rfl, bb_c⟩
  · go_ret
    exact ⟨rfl, bb_d⟩
  · go_ret
    exact ⟨rfl, bb_e⟩
  obtain ⟨ta, qa, ra', xa, fa'⟩ := tree_of2 D1.out (HS1.out (by first | rfl | trivial))
  obtain ⟨tb, qb, rb', xb, fb'⟩ := tree_of2 D2.out (HS2.out (by first | rfl | trivial))
  obtain ⟨tc, qc, rc', xc, fc'⟩ := tree_of2 D3.out (HS3.out (by first | rfl | trivial))
  have C12 : Hid (∀ w1 : World, Below w.heap.size w w1 → Calls Tryd.prog 9 #[.agg #[.int .i64 k1, .int .i64 i1, .string t1, .int .i64 r1, .slice a1 m1 c1], .agg #[.int .i64 k2, .int .i64 i2, .string t2, .int .i64 r2, .slice a2 m2 c2]] w1 fun e w' => e = .returned (.int .i64 (cmpT 3 ta tb)) ∧ Below w1.heap.size w1 w') := hid (fun w1 hb => by
    have h := compare_any 3 w1 ta tb (Rds.below 3 ra' (Nat.le_refl _) hb) (Rds.below 3 rb' (Nat.le_refl _) hb)
    rw [qa, qb] at h; exact h)
  have C21 : Hid (∀ w1 : World, Below w.heap.size w w1 → Calls Tryd.prog 9 #[.agg #[.int .i64 k2, .int .i64 i2, .string t2, .int .i64 r2, .slice a2 m2 c2], .agg #[.int .i64 k1, .int .i64 i1, .string t1, .int .i64 r1, .slice a1 m1 c1]] w1 fun e w' => e = .returned (.int .i64 (cmpT 3 tb ta)) ∧ Below w1.heap.size w1 w') := hid (fun w1 hb => by
    have h := compare_any 3 w1 tb ta (Rds.below 3 rb' (Nat.le_refl _) hb) (Rds.below 3 ra' (Nat.le_refl _) hb)
    rw [qb, qa] at h; exact h)
  have C11 : Hid (∀ w1 : World, Below w.heap.size w w1 → Calls Tryd.prog 9 #[.agg #[.int .i64 k1, .int .i64 i1, .string t1, .int .i64 r1, .slice a1 m1 c1], .agg #[.int .i64 k1, .int .i64 i1, .string t1, .int .i64 r1, .slice a1 m1 c1]] w1 fun e w' => e = .returned (.int .i64 (cmpT 3 ta ta)) ∧ Below w1.heap.size w1 w') := hid (fun w1 hb => by
    have h := compare_any 3 w1 ta ta (Rds.below 3 ra' (Nat.le_refl _) hb) (Rds.below 3 ra' (Nat.le_refl _) hb)
    rw [qa] at h; exact h)
  have C23 : Hid (∀ w1 : World, Below w.heap.size w w1 → Calls Tryd.prog 9 #[.agg #[.int .i64 k2, .int .i64 i2, .string t2, .int .i64 r2, .slice a2 m2 c2], .agg #[.int .i64 k3, .int .i64 i3, .string t3, .int .i64 r3, .slice a3 m3 c3]] w1 fun e w' => e = .returned (.int .i64 (cmpT 3 tb tc)) ∧ Below w1.heap.size w1 w') := hid (fun w1 hb => by
    have h := compare_any 3 w1 tb tc (Rds.below 3 rb' (Nat.le_refl _) hb) (Rds.below 3 rc' (Nat.le_refl _) hb)
    rw [qb, qc] at h; exact h)
  have C13 : Hid (∀ w1 : World, Below w.heap.size w w1 → Calls Tryd.prog 9 #[.agg #[.int .i64 k1, .int .i64 i1, .string t1, .int .i64 r1, .slice a1 m1 c1], .agg #[.int .i64 k3, .int .i64 i3, .string t3, .int .i64 r3, .slice a3 m3 c3]] w1 fun e w' => e = .returned (.int .i64 (cmpT 3 ta tc)) ∧ Below w1.heap.size w1 w') := hid (fun w1 hb => by
    have h := compare_any 3 w1 ta tc (Rds.below 3 ra' (Nat.le_refl _) hb) (Rds.below 3 rc' (Nat.le_refl _) hb)
    rw [qa, qc] at h; exact h)
  have SM : Hid (∀ w1 : World, Below w.heap.size w w1 → Calls Tryd.prog 10 #[.agg #[.int .i64 k1, .int .i64 i1, .string t1, .int .i64 r1, .slice a1 m1 c1], .agg #[.int .i64 k2, .int .i64 i2, .string t2, .int .i64 r2, .slice a2 m2 c2]] w1 fun e w' => e = .returned (.bool (cmpT 3 ta tb == 0)) ∧ Below w1.heap.size w1 w') := hid (fun w1 hb => by
    have h := same_any 3 w1 ta tb (Rds.below 3 ra' (Nat.le_refl _) hb) (Rds.below 3 rb' (Nat.le_refl _) hb)
    rw [qa, qb] at h; exact h)
  have o1 := (ord_cmpT 3).anti ta tb
  have o2 := (ord_cmpT 3).self ta
  have o3 := (ord_cmpT 3).tr ta tb tc
  have o4 := cmpT_bnd 3 tb ta
  rw [o2] at C11
  generalize cmpT 3 ta tb = x at *
  generalize cmpT 3 tb ta = y at *
  generalize cmpT 3 tb tc = z at *
  generalize cmpT 3 ta tc = u at *
  clear qa qb qc ra' rb' rc' xa xb xc fa' fb' fc' D1 D2 D3 HS1 HS2 HS3 K6 K7 K81 K82 K83 o2
  have hwr : IntKind.i64.wrap (-y) = x := by rw [o1, IntKind.wrap_i64]; omega
  have HO1 := hid o1
  have HO4 := hid o4
  clear o1 o4
  clear na0 na1 na2 na3 na4 na5 na6 na7 na8 na9 na10 na11 na12 na13 na14 na15 na16 na17 na18 na19 na20
  clear nb0 nb1 nb2 nb3 nb4 nb5 nb6 nb7 nb8 nb9 nb10 nb11 nb12 nb13 nb14 nb15 nb16 nb17 nb18 nb19 nb20
  clear nc0 nc1 nc2 nc3 nc4 nc5 nc6 nc7 nc8 nc9 nc10 nc11 nc12 nc13 nc14 nc15 nc16 nc17 nc18 nc19 nc20
  clear nd0 nd1 nd2 nd3 nd4 nd5 nd6 nd7 nd8 nd9 nd10 nd11 nd12 nd13 nd14 nd15 nd16 nd17 nd18 nd19 nd20
  have HNT : Hid (rightB p = true → nameT p (k, r) ≠ noneS → typB p.rn (k, r) = true) := hid (fun _ h => by
    cases hq : typB p.rn (k, r) with
    | true => rfl
    | false => exact absurd (by unfold nameT; rw [if_pos hq]) h)
  have HRR : Hid (rightB p = true → ∀ x ∈ p.recs, x.2.fields.length ≤ 12) := hid (fun h x hx => ((right_recs h).2 x hx).1)
  have HZ : Hid (∀ (h : Hd) (zs : List Hd), rightB p = true → typB p.rn (k, r) = true → ZeroIs p (k, r) h zs → h.n = zs.length → isB p (k, r) h zs = true ∧ h.In ∧ ∀ f ∈ zs, f.In) := hid (fun h zs a b c d => zero_is a b c d)
  rcases Int.lt_or_le 0 x with hx | hx
  · have hx' : ¬ (x ≤ 0) := by omega
    cases hR : rightB p with
    | false =>
      rw [hR] at K11
      go_wp2_with (first
        | (go_at_call 11; (have hno := hb_i; refine (Hid.out K11 _ bb_i).mono ?_; rintro e w_R ⟨rfl, hb'_R⟩; have hb_R := TR.out hb_i hb'_R; obtain ⟨⟨nR0, nR1, nR2, nR3, nR4, nR5, nR6, nR7, nR8, nR9, nR10, nR11, nR12, nR13, nR14, nR15, nR16, nR17, nR18, nR19, nR20⟩, bb_R⟩ := FX.out w_R hb_R))
        | (go_at_call 10; (have hno := hb_h; refine (Hid.out SM _ bb_h).mono ?_; rintro e w_i ⟨rfl, hb'_i⟩; have hb_i := TR.out hb_h hb'_i; obtain ⟨⟨ni0, ni1, ni2, ni3, ni4, ni5, ni6, ni7, ni8, ni9, ni10, ni11, ni12, ni13, ni14, ni15, ni16, ni17, ni18, ni19, ni20⟩, bb_i⟩ := FX.out w_i hb_i))
        | (go_at_call 9; (have hno := hb_g; refine (Hid.out C11 _ bb_g).mono ?_; rintro e w_h ⟨rfl, hb'_h⟩; have hb_h := TR.out hb_g hb'_h; obtain ⟨⟨nh0, nh1, nh2, nh3, nh4, nh5, nh6, nh7, nh8, nh9, nh10, nh11, nh12, nh13, nh14, nh15, nh16, nh17, nh18, nh19, nh20⟩, bb_h⟩ := FX.out w_h hb_h))
        | (go_at_call 9; (have hno := hb_f; refine (Hid.out C21 _ bb_f).mono ?_; rintro e w_g ⟨rfl, hb'_g⟩; have hb_g := TR.out hb_f hb'_g; obtain ⟨⟨ng0, ng1, ng2, ng3, ng4, ng5, ng6, ng7, ng8, ng9, ng10, ng11, ng12, ng13, ng14, ng15, ng16, ng17, ng18, ng19, ng20⟩, bb_g⟩ := FX.out w_g hb_g))
        | (go_at_call 9; (have hno := hb_e; refine (Hid.out C12 _ bb_e).mono ?_; rintro e w_f ⟨rfl, hb'_f⟩; have hb_f := TR.out hb_e hb'_f; obtain ⟨⟨nf0, nf1, nf2, nf3, nf4, nf5, nf6, nf7, nf8, nf9, nf10, nf11, nf12, nf13, nf14, nf15, nf16, nf17, nf18, nf19, nf20⟩, bb_f⟩ := FX.out w_f hb_f)))
      go_ret
      exact ⟨rfl, bb_R⟩
    | true =>
      rw [hR] at K11
      have HRT := hid hR
      by_cases hN : nameT p (k, r) = noneS
      · rw [hN] at K12
        unfold noneS at K12
        go_wp2_with (first
          | (go_at_call 12; (have hno := hb_R; refine (Hid.out K12 _ bb_R).mono ?_; rintro e w_N ⟨rfl, hb'_N⟩; have hb_N := TR.out hb_R hb'_N; obtain ⟨⟨nN0, nN1, nN2, nN3, nN4, nN5, nN6, nN7, nN8, nN9, nN10, nN11, nN12, nN13, nN14, nN15, nN16, nN17, nN18, nN19, nN20⟩, bb_N⟩ := FX.out w_N hb_N))
          | (go_at_call 11; (have hno := hb_i; refine (Hid.out K11 _ bb_i).mono ?_; rintro e w_R ⟨rfl, hb'_R⟩; have hb_R := TR.out hb_i hb'_R; obtain ⟨⟨nR0, nR1, nR2, nR3, nR4, nR5, nR6, nR7, nR8, nR9, nR10, nR11, nR12, nR13, nR14, nR15, nR16, nR17, nR18, nR19, nR20⟩, bb_R⟩ := FX.out w_R hb_R))
          | (go_at_call 10; (have hno := hb_h; refine (Hid.out SM _ bb_h).mono ?_; rintro e w_i ⟨rfl, hb'_i⟩; have hb_i := TR.out hb_h hb'_i; obtain ⟨⟨ni0, ni1, ni2, ni3, ni4, ni5, ni6, ni7, ni8, ni9, ni10, ni11, ni12, ni13, ni14, ni15, ni16, ni17, ni18, ni19, ni20⟩, bb_i⟩ := FX.out w_i hb_i))
          | (go_at_call 9; (have hno := hb_g; refine (Hid.out C11 _ bb_g).mono ?_; rintro e w_h ⟨rfl, hb'_h⟩; have hb_h := TR.out hb_g hb'_h; obtain ⟨⟨nh0, nh1, nh2, nh3, nh4, nh5, nh6, nh7, nh8, nh9, nh10, nh11, nh12, nh13, nh14, nh15, nh16, nh17, nh18, nh19, nh20⟩, bb_h⟩ := FX.out w_h hb_h))
          | (go_at_call 9; (have hno := hb_f; refine (Hid.out C21 _ bb_f).mono ?_; rintro e w_g ⟨rfl, hb'_g⟩; have hb_g := TR.out hb_f hb'_g; obtain ⟨⟨ng0, ng1, ng2, ng3, ng4, ng5, ng6, ng7, ng8, ng9, ng10, ng11, ng12, ng13, ng14, ng15, ng16, ng17, ng18, ng19, ng20⟩, bb_g⟩ := FX.out w_g hb_g))
          | (go_at_call 9; (have hno := hb_e; refine (Hid.out C12 _ bb_e).mono ?_; rintro e w_f ⟨rfl, hb'_f⟩; have hb_f := TR.out hb_e hb'_f; obtain ⟨⟨nf0, nf1, nf2, nf3, nf4, nf5, nf6, nf7, nf8, nf9, nf10, nf11, nf12, nf13, nf14, nf15, nf16, nf17, nf18, nf19, nf20⟩, bb_f⟩ := FX.out w_f hb_f)))
        go_ret
        exact ⟨rfl, bb_N⟩
      · have HTT := hid (HNT.out hR hN)
        have hN2 : ((nameT p (k, r)).toList == (⟨#[110, 111, 110, 101]⟩ : ByteArray).toList) = false := by
          rw [ByteArray.toList_eq, ByteArray.toList_eq]
          have : ¬ (nameT p (k, r)).data.toList = noneS.data.toList := fun e => hN (byteArray_ext e)
          simpa [noneS] using this
        have hN3 : ¬ nameT p (k, r) = (⟨#[110, 111, 110, 101]⟩ : ByteArray) := hN
        generalize nameT p (k, r) = nm at *
        go_wp2_with (first
          | (go_at_call 12; (have hno := hb_R; refine (Hid.out K12 _ bb_R).mono ?_; rintro e w_N ⟨rfl, hb'_N⟩; have hb_N := TR.out hb_R hb'_N; obtain ⟨⟨nN0, nN1, nN2, nN3, nN4, nN5, nN6, nN7, nN8, nN9, nN10, nN11, nN12, nN13, nN14, nN15, nN16, nN17, nN18, nN19, nN20⟩, bb_N⟩ := FX.out w_N hb_N))
          | (go_at_call 11; (have hno := hb_i; refine (Hid.out K11 _ bb_i).mono ?_; rintro e w_R ⟨rfl, hb'_R⟩; have hb_R := TR.out hb_i hb'_R; obtain ⟨⟨nR0, nR1, nR2, nR3, nR4, nR5, nR6, nR7, nR8, nR9, nR10, nR11, nR12, nR13, nR14, nR15, nR16, nR17, nR18, nR19, nR20⟩, bb_R⟩ := FX.out w_R hb_R))
          | (go_at_call 10; (have hno := hb_h; refine (Hid.out SM _ bb_h).mono ?_; rintro e w_i ⟨rfl, hb'_i⟩; have hb_i := TR.out hb_h hb'_i; obtain ⟨⟨ni0, ni1, ni2, ni3, ni4, ni5, ni6, ni7, ni8, ni9, ni10, ni11, ni12, ni13, ni14, ni15, ni16, ni17, ni18, ni19, ni20⟩, bb_i⟩ := FX.out w_i hb_i))
          | (go_at_call 9; (have hno := hb_g; refine (Hid.out C11 _ bb_g).mono ?_; rintro e w_h ⟨rfl, hb'_h⟩; have hb_h := TR.out hb_g hb'_h; obtain ⟨⟨nh0, nh1, nh2, nh3, nh4, nh5, nh6, nh7, nh8, nh9, nh10, nh11, nh12, nh13, nh14, nh15, nh16, nh17, nh18, nh19, nh20⟩, bb_h⟩ := FX.out w_h hb_h))
          | (go_at_call 9; (have hno := hb_f; refine (Hid.out C21 _ bb_f).mono ?_; rintro e w_g ⟨rfl, hb'_g⟩; have hb_g := TR.out hb_f hb'_g; obtain ⟨⟨ng0, ng1, ng2, ng3, ng4, ng5, ng6, ng7, ng8, ng9, ng10, ng11, ng12, ng13, ng14, ng15, ng16, ng17, ng18, ng19, ng20⟩, bb_g⟩ := FX.out w_g hb_g))
          | (go_at_call 9; (have hno := hb_e; refine (Hid.out C12 _ bb_e).mono ?_; rintro e w_f ⟨rfl, hb'_f⟩; have hb_f := TR.out hb_e hb'_f; obtain ⟨⟨nf0, nf1, nf2, nf3, nf4, nf5, nf6, nf7, nf8, nf9, nf10, nf11, nf12, nf13, nf14, nf15, nf16, nf17, nf18, nf19, nf20⟩, bb_f⟩ := FX.out w_f hb_f)))
        · go_ret
          exact ⟨rfl, bb_N⟩
        clear nN6 nN7 nN8 nN9 nN10 nN11 nN12 nN13 nN14 nN15 nN16 nN17 nN18 nN19 nN20
        go_region_held3 (fun w2 => w2.cell? ⟨w.heap.size, 0, none⟩ = some (.slice ra rn rc) ∧ w2.cell? ⟨w.heap.size, 1, none⟩ = some (.slice ma mn mc) ∧ w2.cell? ⟨w.heap.size, 2, none⟩ = some (.slice fa fn fc) ∧ w2.cell? ⟨w.heap.size, 3, none⟩ = some (.slice ea en ec) ∧ w2.cell? ⟨w.heap.size + 1, 0, none⟩ = some (.int .i64 k) ∧ w2.cell? ⟨w.heap.size + 1, 1, none⟩ = some (.int .i64 r)) (first | exact SI | exact SZ | go_keep) ((first
          | (go_at_call 14; (refine (Hid.out K14 _ bb_N.drew (HRR.out HRT.out)).mono ?_; rintro e w_Z ⟨hh, zs, rfl, hb'_Z, hzi, hvr, hzn⟩; have hb_Z := TR.out hb_N.drew hb'_Z; obtain ⟨FZ, bb_Z⟩ := FX.out w_Z hb_Z; have SZ := And.intro FZ.1 (And.intro FZ.2.1 (And.intro FZ.2.2.1 (And.intro FZ.2.2.2.1 (And.intro FZ.2.2.2.2.1 FZ.2.2.2.2.2.1)))); obtain ⟨hz1, hz2, hz3⟩ := HZ.out hh zs HRT.out HTT.out hzi hzn; have Hz1 := hid hz1; have Hz2 := hid hz2; have Hz3 := hid hz3; have Hvr := hid hvr; have Hzn := hid hzn; clear hz1 hz2 hz3 hvr hzn hzi FZ))
          | (go_at_call 13; (have hno := hb_Z; refine (Hid.out K13 _ bb_Z hh zs Hz2.out Hzn.out Hvr.out Hz3.out).mono ?_; rintro e w_I ⟨rfl, hb'_I⟩; have hb_I := TR.out hb_Z hb'_I; obtain ⟨FI', bb_I⟩ := FX.out w_I hb_I; have SI := And.intro FI'.1 (And.intro FI'.2.1 (And.intro FI'.2.2.1 (And.intro FI'.2.2.2.1 (And.intro FI'.2.2.2.2.1 FI'.2.2.2.2.2.1)))); clear FI'))))
        go_wp2
        go_ret
        first | exact ⟨by rw [Hz1.out]; rfl, bb_I⟩ | exact ⟨by rw [Hz1.out], bb_I⟩
  · rcases Int.lt_or_le 0 z with hz | hz
    · have hz' : ¬ (z ≤ 0) := by omega
      cases hR : rightB p with
      | false =>
        rw [hR] at K11
        go_wp2_with (first
          | (go_at_call 11; (have hno := hb_j; refine (Hid.out K11 _ bb_j).mono ?_; rintro e w_R ⟨rfl, hb'_R⟩; have hb_R := TR.out hb_j hb'_R; obtain ⟨⟨nR0, nR1, nR2, nR3, nR4, nR5, nR6, nR7, nR8, nR9, nR10, nR11, nR12, nR13, nR14, nR15, nR16, nR17, nR18, nR19, nR20⟩, bb_R⟩ := FX.out w_R hb_R))
          | (go_at_call 9; (have hno := hb_i; refine (Hid.out C23 _ bb_i).mono ?_; rintro e w_j ⟨rfl, hb'_j⟩; have hb_j := TR.out hb_i hb'_j; obtain ⟨⟨nj0, nj1, nj2, nj3, nj4, nj5, nj6, nj7, nj8, nj9, nj10, nj11, nj12, nj13, nj14, nj15, nj16, nj17, nj18, nj19, nj20⟩, bb_j⟩ := FX.out w_j hb_j))
          | (go_at_call 10; (have hno := hb_h; refine (Hid.out SM _ bb_h).mono ?_; rintro e w_i ⟨rfl, hb'_i⟩; have hb_i := TR.out hb_h hb'_i; obtain ⟨⟨ni0, ni1, ni2, ni3, ni4, ni5, ni6, ni7, ni8, ni9, ni10, ni11, ni12, ni13, ni14, ni15, ni16, ni17, ni18, ni19, ni20⟩, bb_i⟩ := FX.out w_i hb_i))
          | (go_at_call 9; (have hno := hb_g; refine (Hid.out C11 _ bb_g).mono ?_; rintro e w_h ⟨rfl, hb'_h⟩; have hb_h := TR.out hb_g hb'_h; obtain ⟨⟨nh0, nh1, nh2, nh3, nh4, nh5, nh6, nh7, nh8, nh9, nh10, nh11, nh12, nh13, nh14, nh15, nh16, nh17, nh18, nh19, nh20⟩, bb_h⟩ := FX.out w_h hb_h))
          | (go_at_call 9; (have hno := hb_f; refine (Hid.out C21 _ bb_f).mono ?_; rintro e w_g ⟨rfl, hb'_g⟩; have hb_g := TR.out hb_f hb'_g; obtain ⟨⟨ng0, ng1, ng2, ng3, ng4, ng5, ng6, ng7, ng8, ng9, ng10, ng11, ng12, ng13, ng14, ng15, ng16, ng17, ng18, ng19, ng20⟩, bb_g⟩ := FX.out w_g hb_g))
          | (go_at_call 9; (have hno := hb_e; refine (Hid.out C12 _ bb_e).mono ?_; rintro e w_f ⟨rfl, hb'_f⟩; have hb_f := TR.out hb_e hb'_f; obtain ⟨⟨nf0, nf1, nf2, nf3, nf4, nf5, nf6, nf7, nf8, nf9, nf10, nf11, nf12, nf13, nf14, nf15, nf16, nf17, nf18, nf19, nf20⟩, bb_f⟩ := FX.out w_f hb_f)))
        go_ret
        exact ⟨rfl, bb_R⟩
      | true =>
        rw [hR] at K11
        have HRT := hid hR
        by_cases hN : nameT p (k, r) = noneS
        · rw [hN] at K12
          unfold noneS at K12
          go_wp2_with (first
            | (go_at_call 12; (have hno := hb_R; refine (Hid.out K12 _ bb_R).mono ?_; rintro e w_N ⟨rfl, hb'_N⟩; have hb_N := TR.out hb_R hb'_N; obtain ⟨⟨nN0, nN1, nN2, nN3, nN4, nN5, nN6, nN7, nN8, nN9, nN10, nN11, nN12, nN13, nN14, nN15, nN16, nN17, nN18, nN19, nN20⟩, bb_N⟩ := FX.out w_N hb_N))
            | (go_at_call 11; (have hno := hb_j; refine (Hid.out K11 _ bb_j).mono ?_; rintro e w_R ⟨rfl, hb'_R⟩; have hb_R := TR.out hb_j hb'_R; obtain ⟨⟨nR0, nR1, nR2, nR3, nR4, nR5, nR6, nR7, nR8, nR9, nR10, nR11, nR12, nR13, nR14, nR15, nR16, nR17, nR18, nR19, nR20⟩, bb_R⟩ := FX.out w_R hb_R))
            | (go_at_call 9; (have hno := hb_i; refine (Hid.out C23 _ bb_i).mono ?_; rintro e w_j ⟨rfl, hb'_j⟩; have hb_j := TR.out hb_i hb'_j; obtain ⟨⟨nj0, nj1, nj2, nj3, nj4, nj5, nj6, nj7, nj8, nj9, nj10, nj11, nj12, nj13, nj14, nj15, nj16, nj17, nj18, nj19, nj20⟩, bb_j⟩ := FX.out w_j hb_j))
            | (go_at_call 10; (have hno := hb_h; refine (Hid.out SM _ bb_h).mono ?_; rintro e w_i ⟨rfl, hb'_i⟩; have hb_i := TR.out hb_h hb'_i; obtain ⟨⟨ni0, ni1, ni2, ni3, ni4, ni5, ni6, ni7, ni8, ni9, ni10, ni11, ni12, ni13, ni14, ni15, ni16, ni17, ni18, ni19, ni20⟩, bb_i⟩ := FX.out w_i hb_i))
            | (go_at_call 9; (have hno := hb_g; refine (Hid.out C11 _ bb_g).mono ?_; rintro e w_h ⟨rfl, hb'_h⟩; have hb_h := TR.out hb_g hb'_h; obtain ⟨⟨nh0, nh1, nh2, nh3, nh4, nh5, nh6, nh7, nh8, nh9, nh10, nh11, nh12, nh13, nh14, nh15, nh16, nh17, nh18, nh19, nh20⟩, bb_h⟩ := FX.out w_h hb_h))
            | (go_at_call 9; (have hno := hb_f; refine (Hid.out C21 _ bb_f).mono ?_; rintro e w_g ⟨rfl, hb'_g⟩; have hb_g := TR.out hb_f hb'_g; obtain ⟨⟨ng0, ng1, ng2, ng3, ng4, ng5, ng6, ng7, ng8, ng9, ng10, ng11, ng12, ng13, ng14, ng15, ng16, ng17, ng18, ng19, ng20⟩, bb_g⟩ := FX.out w_g hb_g))
            | (go_at_call 9; (have hno := hb_e; refine (Hid.out C12 _ bb_e).mono ?_; rintro e w_f ⟨rfl, hb'_f⟩; have hb_f := TR.out hb_e hb'_f; obtain ⟨⟨nf0, nf1, nf2, nf3, nf4, nf5, nf6, nf7, nf8, nf9, nf10, nf11, nf12, nf13, nf14, nf15, nf16, nf17, nf18, nf19, nf20⟩, bb_f⟩ := FX.out w_f hb_f)))
          go_ret
          exact ⟨rfl, bb_N⟩
        · have HTT := hid (HNT.out hR hN)
          have hN2 : ((nameT p (k, r)).toList == (⟨#[110, 111, 110, 101]⟩ : ByteArray).toList) = false := by
            rw [ByteArray.toList_eq, ByteArray.toList_eq]
            have : ¬ (nameT p (k, r)).data.toList = noneS.data.toList := fun e => hN (byteArray_ext e)
            simpa [noneS] using this
          have hN3 : ¬ nameT p (k, r) = (⟨#[110, 111, 110, 101]⟩ : ByteArray) := hN
          generalize nameT p (k, r) = nm at *
          go_wp2_with (first
            | (go_at_call 12; (have hno := hb_R; refine (Hid.out K12 _ bb_R).mono ?_; rintro e w_N ⟨rfl, hb'_N⟩; have hb_N := TR.out hb_R hb'_N; obtain ⟨⟨nN0, nN1, nN2, nN3, nN4, nN5, nN6, nN7, nN8, nN9, nN10, nN11, nN12, nN13, nN14, nN15, nN16, nN17, nN18, nN19, nN20⟩, bb_N⟩ := FX.out w_N hb_N))
            | (go_at_call 11; (have hno := hb_j; refine (Hid.out K11 _ bb_j).mono ?_; rintro e w_R ⟨rfl, hb'_R⟩; have hb_R := TR.out hb_j hb'_R; obtain ⟨⟨nR0, nR1, nR2, nR3, nR4, nR5, nR6, nR7, nR8, nR9, nR10, nR11, nR12, nR13, nR14, nR15, nR16, nR17, nR18, nR19, nR20⟩, bb_R⟩ := FX.out w_R hb_R))
            | (go_at_call 9; (have hno := hb_i; refine (Hid.out C23 _ bb_i).mono ?_; rintro e w_j ⟨rfl, hb'_j⟩; have hb_j := TR.out hb_i hb'_j; obtain ⟨⟨nj0, nj1, nj2, nj3, nj4, nj5, nj6, nj7, nj8, nj9, nj10, nj11, nj12, nj13, nj14, nj15, nj16, nj17, nj18, nj19, nj20⟩, bb_j⟩ := FX.out w_j hb_j))
            | (go_at_call 10; (have hno := hb_h; refine (Hid.out SM _ bb_h).mono ?_; rintro e w_i ⟨rfl, hb'_i⟩; have hb_i := TR.out hb_h hb'_i; obtain ⟨⟨ni0, ni1, ni2, ni3, ni4, ni5, ni6, ni7, ni8, ni9, ni10, ni11, ni12, ni13, ni14, ni15, ni16, ni17, ni18, ni19, ni20⟩, bb_i⟩ := FX.out w_i hb_i))
            | (go_at_call 9; (have hno := hb_g; refine (Hid.out C11 _ bb_g).mono ?_; rintro e w_h ⟨rfl, hb'_h⟩; have hb_h := TR.out hb_g hb'_h; obtain ⟨⟨nh0, nh1, nh2, nh3, nh4, nh5, nh6, nh7, nh8, nh9, nh10, nh11, nh12, nh13, nh14, nh15, nh16, nh17, nh18, nh19, nh20⟩, bb_h⟩ := FX.out w_h hb_h))
            | (go_at_call 9; (have hno := hb_f; refine (Hid.out C21 _ bb_f).mono ?_; rintro e w_g ⟨rfl, hb'_g⟩; have hb_g := TR.out hb_f hb'_g; obtain ⟨⟨ng0, ng1, ng2, ng3, ng4, ng5, ng6, ng7, ng8, ng9, ng10, ng11, ng12, ng13, ng14, ng15, ng16, ng17, ng18, ng19, ng20⟩, bb_g⟩ := FX.out w_g hb_g))
            | (go_at_call 9; (have hno := hb_e; refine (Hid.out C12 _ bb_e).mono ?_; rintro e w_f ⟨rfl, hb'_f⟩; have hb_f := TR.out hb_e hb'_f; obtain ⟨⟨nf0, nf1, nf2, nf3, nf4, nf5, nf6, nf7, nf8, nf9, nf10, nf11, nf12, nf13, nf14, nf15, nf16, nf17, nf18, nf19, nf20⟩, bb_f⟩ := FX.out w_f hb_f)))
          · go_ret
            exact ⟨rfl, bb_N⟩
          clear nN6 nN7 nN8 nN9 nN10 nN11 nN12 nN13 nN14 nN15 nN16 nN17 nN18 nN19 nN20
          go_region_held3 (fun w2 => w2.cell? ⟨w.heap.size, 0, none⟩ = some (.slice ra rn rc) ∧ w2.cell? ⟨w.heap.size, 1, none⟩ = some (.slice ma mn mc) ∧ w2.cell? ⟨w.heap.size, 2, none⟩ = some (.slice fa fn fc) ∧ w2.cell? ⟨w.heap.size, 3, none⟩ = some (.slice ea en ec) ∧ w2.cell? ⟨w.heap.size + 1, 0, none⟩ = some (.int .i64 k) ∧ w2.cell? ⟨w.heap.size + 1, 1, none⟩ = some (.int .i64 r)) (first | exact SI | exact SZ | go_keep) ((first
            | (go_at_call 14; (refine (Hid.out K14 _ bb_N.drew (HRR.out HRT.out)).mono ?_; rintro e w_Z ⟨hh, zs, rfl, hb'_Z, hzi, hvr, hzn⟩; have hb_Z := TR.out hb_N.drew hb'_Z; obtain ⟨FZ, bb_Z⟩ := FX.out w_Z hb_Z; have SZ := And.intro FZ.1 (And.intro FZ.2.1 (And.intro FZ.2.2.1 (And.intro FZ.2.2.2.1 (And.intro FZ.2.2.2.2.1 FZ.2.2.2.2.2.1)))); obtain ⟨hz1, hz2, hz3⟩ := HZ.out hh zs HRT.out HTT.out hzi hzn; have Hz1 := hid hz1; have Hz2 := hid hz2; have Hz3 := hid hz3; have Hvr := hid hvr; have Hzn := hid hzn; clear hz1 hz2 hz3 hvr hzn hzi FZ))
            | (go_at_call 13; (have hno := hb_Z; refine (Hid.out K13 _ bb_Z hh zs Hz2.out Hzn.out Hvr.out Hz3.out).mono ?_; rintro e w_I ⟨rfl, hb'_I⟩; have hb_I := TR.out hb_Z hb'_I; obtain ⟨FI', bb_I⟩ := FX.out w_I hb_I; have SI := And.intro FI'.1 (And.intro FI'.2.1 (And.intro FI'.2.2.1 (And.intro FI'.2.2.2.1 (And.intro FI'.2.2.2.2.1 FI'.2.2.2.2.2.1)))); clear FI'))))
          go_wp2
          go_ret
          first | exact ⟨by rw [Hz1.out]; rfl, bb_I⟩ | exact ⟨by rw [Hz1.out], bb_I⟩
    · have hu := o3 hx hz
      have hu' : ¬ (0 < u) := by omega
      cases hR : rightB p with
      | false =>
        rw [hR] at K11
        go_wp2_with (first
          | (go_at_call 11; (have hno := hb_l; refine (Hid.out K11 _ bb_l).mono ?_; rintro e w_R ⟨rfl, hb'_R⟩; have hb_R := TR.out hb_l hb'_R; obtain ⟨⟨nR0, nR1, nR2, nR3, nR4, nR5, nR6, nR7, nR8, nR9, nR10, nR11, nR12, nR13, nR14, nR15, nR16, nR17, nR18, nR19, nR20⟩, bb_R⟩ := FX.out w_R hb_R))
          | (go_at_call 9; (have hno := hb_j; refine (Hid.out C13 _ bb_j).mono ?_; rintro e w_l ⟨rfl, hb'_l⟩; have hb_l := TR.out hb_j hb'_l; obtain ⟨⟨nl0, nl1, nl2, nl3, nl4, nl5, nl6, nl7, nl8, nl9, nl10, nl11, nl12, nl13, nl14, nl15, nl16, nl17, nl18, nl19, nl20⟩, bb_l⟩ := FX.out w_l hb_l))
          | (go_at_call 9; (have hno := hb_i; refine (Hid.out C23 _ bb_i).mono ?_; rintro e w_j ⟨rfl, hb'_j⟩; have hb_j := TR.out hb_i hb'_j; obtain ⟨⟨nj0, nj1, nj2, nj3, nj4, nj5, nj6, nj7, nj8, nj9, nj10, nj11, nj12, nj13, nj14, nj15, nj16, nj17, nj18, nj19, nj20⟩, bb_j⟩ := FX.out w_j hb_j))
          | (go_at_call 10; (have hno := hb_h; refine (Hid.out SM _ bb_h).mono ?_; rintro e w_i ⟨rfl, hb'_i⟩; have hb_i := TR.out hb_h hb'_i; obtain ⟨⟨ni0, ni1, ni2, ni3, ni4, ni5, ni6, ni7, ni8, ni9, ni10, ni11, ni12, ni13, ni14, ni15, ni16, ni17, ni18, ni19, ni20⟩, bb_i⟩ := FX.out w_i hb_i))
          | (go_at_call 9; (have hno := hb_g; refine (Hid.out C11 _ bb_g).mono ?_; rintro e w_h ⟨rfl, hb'_h⟩; have hb_h := TR.out hb_g hb'_h; obtain ⟨⟨nh0, nh1, nh2, nh3, nh4, nh5, nh6, nh7, nh8, nh9, nh10, nh11, nh12, nh13, nh14, nh15, nh16, nh17, nh18, nh19, nh20⟩, bb_h⟩ := FX.out w_h hb_h))
          | (go_at_call 9; (have hno := hb_f; refine (Hid.out C21 _ bb_f).mono ?_; rintro e w_g ⟨rfl, hb'_g⟩; have hb_g := TR.out hb_f hb'_g; obtain ⟨⟨ng0, ng1, ng2, ng3, ng4, ng5, ng6, ng7, ng8, ng9, ng10, ng11, ng12, ng13, ng14, ng15, ng16, ng17, ng18, ng19, ng20⟩, bb_g⟩ := FX.out w_g hb_g))
          | (go_at_call 9; (have hno := hb_e; refine (Hid.out C12 _ bb_e).mono ?_; rintro e w_f ⟨rfl, hb'_f⟩; have hb_f := TR.out hb_e hb'_f; obtain ⟨⟨nf0, nf1, nf2, nf3, nf4, nf5, nf6, nf7, nf8, nf9, nf10, nf11, nf12, nf13, nf14, nf15, nf16, nf17, nf18, nf19, nf20⟩, bb_f⟩ := FX.out w_f hb_f)))
        go_ret
        exact ⟨rfl, bb_R⟩
      | true =>
        rw [hR] at K11
        have HRT := hid hR
        by_cases hN : nameT p (k, r) = noneS
        · rw [hN] at K12
          unfold noneS at K12
          go_wp2_with (first
            | (go_at_call 12; (have hno := hb_R; refine (Hid.out K12 _ bb_R).mono ?_; rintro e w_N ⟨rfl, hb'_N⟩; have hb_N := TR.out hb_R hb'_N; obtain ⟨⟨nN0, nN1, nN2, nN3, nN4, nN5, nN6, nN7, nN8, nN9, nN10, nN11, nN12, nN13, nN14, nN15, nN16, nN17, nN18, nN19, nN20⟩, bb_N⟩ := FX.out w_N hb_N))
            | (go_at_call 11; (have hno := hb_l; refine (Hid.out K11 _ bb_l).mono ?_; rintro e w_R ⟨rfl, hb'_R⟩; have hb_R := TR.out hb_l hb'_R; obtain ⟨⟨nR0, nR1, nR2, nR3, nR4, nR5, nR6, nR7, nR8, nR9, nR10, nR11, nR12, nR13, nR14, nR15, nR16, nR17, nR18, nR19, nR20⟩, bb_R⟩ := FX.out w_R hb_R))
            | (go_at_call 9; (have hno := hb_j; refine (Hid.out C13 _ bb_j).mono ?_; rintro e w_l ⟨rfl, hb'_l⟩; have hb_l := TR.out hb_j hb'_l; obtain ⟨⟨nl0, nl1, nl2, nl3, nl4, nl5, nl6, nl7, nl8, nl9, nl10, nl11, nl12, nl13, nl14, nl15, nl16, nl17, nl18, nl19, nl20⟩, bb_l⟩ := FX.out w_l hb_l))
            | (go_at_call 9; (have hno := hb_i; refine (Hid.out C23 _ bb_i).mono ?_; rintro e w_j ⟨rfl, hb'_j⟩; have hb_j := TR.out hb_i hb'_j; obtain ⟨⟨nj0, nj1, nj2, nj3, nj4, nj5, nj6, nj7, nj8, nj9, nj10, nj11, nj12, nj13, nj14, nj15, nj16, nj17, nj18, nj19, nj20⟩, bb_j⟩ := FX.out w_j hb_j))
            | (go_at_call 10; (have hno := hb_h; refine (Hid.out SM _ bb_h).mono ?_; rintro e w_i ⟨rfl, hb'_i⟩; have hb_i := TR.out hb_h hb'_i; obtain ⟨⟨ni0, ni1, ni2, ni3, ni4, ni5, ni6, ni7, ni8, ni9, ni10, ni11, ni12, ni13, ni14, ni15, ni16, ni17, ni18, ni19, ni20⟩, bb_i⟩ := FX.out w_i hb_i))
            | (go_at_call 9; (have hno := hb_g; refine (Hid.out C11 _ bb_g).mono ?_; rintro e w_h ⟨rfl, hb'_h⟩; have hb_h := TR.out hb_g hb'_h; obtain ⟨⟨nh0, nh1, nh2, nh3, nh4, nh5, nh6, nh7, nh8, nh9, nh10, nh11, nh12, nh13, nh14, nh15, nh16, nh17, nh18, nh19, nh20⟩, bb_h⟩ := FX.out w_h hb_h))
            | (go_at_call 9; (have hno := hb_f; refine (Hid.out C21 _ bb_f).mono ?_; rintro e w_g ⟨rfl, hb'_g⟩; have hb_g := TR.out hb_f hb'_g; obtain ⟨⟨ng0, ng1, ng2, ng3, ng4, ng5, ng6, ng7, ng8, ng9, ng10, ng11, ng12, ng13, ng14, ng15, ng16, ng17, ng18, ng19, ng20⟩, bb_g⟩ := FX.out w_g hb_g))
            | (go_at_call 9; (have hno := hb_e; refine (Hid.out C12 _ bb_e).mono ?_; rintro e w_f ⟨rfl, hb'_f⟩; have hb_f := TR.out hb_e hb'_f; obtain ⟨⟨nf0, nf1, nf2, nf3, nf4, nf5, nf6, nf7, nf8, nf9, nf10, nf11, nf12, nf13, nf14, nf15, nf16, nf17, nf18, nf19, nf20⟩, bb_f⟩ := FX.out w_f hb_f)))
          go_ret
          exact ⟨rfl, bb_N⟩
        · have HTT := hid (HNT.out hR hN)
          have hN2 : ((nameT p (k, r)).toList == (⟨#[110, 111, 110, 101]⟩ : ByteArray).toList) = false := by
            rw [ByteArray.toList_eq, ByteArray.toList_eq]
            have : ¬ (nameT p (k, r)).data.toList = noneS.data.toList := fun e => hN (byteArray_ext e)
            simpa [noneS] using this
          have hN3 : ¬ nameT p (k, r) = (⟨#[110, 111, 110, 101]⟩ : ByteArray) := hN
          generalize nameT p (k, r) = nm at *
          go_wp2_with (first
            | (go_at_call 12; (have hno := hb_R; refine (Hid.out K12 _ bb_R).mono ?_; rintro e w_N ⟨rfl, hb'_N⟩; have hb_N := TR.out hb_R hb'_N; obtain ⟨⟨nN0, nN1, nN2, nN3, nN4, nN5, nN6, nN7, nN8, nN9, nN10, nN11, nN12, nN13, nN14, nN15, nN16, nN17, nN18, nN19, nN20⟩, bb_N⟩ := FX.out w_N hb_N))
            | (go_at_call 11; (have hno := hb_l; refine (Hid.out K11 _ bb_l).mono ?_; rintro e w_R ⟨rfl, hb'_R⟩; have hb_R := TR.out hb_l hb'_R; obtain ⟨⟨nR0, nR1, nR2, nR3, nR4, nR5, nR6, nR7, nR8, nR9, nR10, nR11, nR12, nR13, nR14, nR15, nR16, nR17, nR18, nR19, nR20⟩, bb_R⟩ := FX.out w_R hb_R))
            | (go_at_call 9; (have hno := hb_j; refine (Hid.out C13 _ bb_j).mono ?_; rintro e w_l ⟨rfl, hb'_l⟩; have hb_l := TR.out hb_j hb'_l; obtain ⟨⟨nl0, nl1, nl2, nl3, nl4, nl5, nl6, nl7, nl8, nl9, nl10, nl11, nl12, nl13, nl14, nl15, nl16, nl17, nl18, nl19, nl20⟩, bb_l⟩ := FX.out w_l hb_l))
            | (go_at_call 9; (have hno := hb_i; refine (Hid.out C23 _ bb_i).mono ?_; rintro e w_j ⟨rfl, hb'_j⟩; have hb_j := TR.out hb_i hb'_j; obtain ⟨⟨nj0, nj1, nj2, nj3, nj4, nj5, nj6, nj7, nj8, nj9, nj10, nj11, nj12, nj13, nj14, nj15, nj16, nj17, nj18, nj19, nj20⟩, bb_j⟩ := FX.out w_j hb_j))
            | (go_at_call 10; (have hno := hb_h; refine (Hid.out SM _ bb_h).mono ?_; rintro e w_i ⟨rfl, hb'_i⟩; have hb_i := TR.out hb_h hb'_i; obtain ⟨⟨ni0, ni1, ni2, ni3, ni4, ni5, ni6, ni7, ni8, ni9, ni10, ni11, ni12, ni13, ni14, ni15, ni16, ni17, ni18, ni19, ni20⟩, bb_i⟩ := FX.out w_i hb_i))
            | (go_at_call 9; (have hno := hb_g; refine (Hid.out C11 _ bb_g).mono ?_; rintro e w_h ⟨rfl, hb'_h⟩; have hb_h := TR.out hb_g hb'_h; obtain ⟨⟨nh0, nh1, nh2, nh3, nh4, nh5, nh6, nh7, nh8, nh9, nh10, nh11, nh12, nh13, nh14, nh15, nh16, nh17, nh18, nh19, nh20⟩, bb_h⟩ := FX.out w_h hb_h))
            | (go_at_call 9; (have hno := hb_f; refine (Hid.out C21 _ bb_f).mono ?_; rintro e w_g ⟨rfl, hb'_g⟩; have hb_g := TR.out hb_f hb'_g; obtain ⟨⟨ng0, ng1, ng2, ng3, ng4, ng5, ng6, ng7, ng8, ng9, ng10, ng11, ng12, ng13, ng14, ng15, ng16, ng17, ng18, ng19, ng20⟩, bb_g⟩ := FX.out w_g hb_g))
            | (go_at_call 9; (have hno := hb_e; refine (Hid.out C12 _ bb_e).mono ?_; rintro e w_f ⟨rfl, hb'_f⟩; have hb_f := TR.out hb_e hb'_f; obtain ⟨⟨nf0, nf1, nf2, nf3, nf4, nf5, nf6, nf7, nf8, nf9, nf10, nf11, nf12, nf13, nf14, nf15, nf16, nf17, nf18, nf19, nf20⟩, bb_f⟩ := FX.out w_f hb_f)))
          · go_ret
            exact ⟨rfl, bb_N⟩
          clear nN6 nN7 nN8 nN9 nN10 nN11 nN12 nN13 nN14 nN15 nN16 nN17 nN18 nN19 nN20
          go_region_held3 (fun w2 => w2.cell? ⟨w.heap.size, 0, none⟩ = some (.slice ra rn rc) ∧ w2.cell? ⟨w.heap.size, 1, none⟩ = some (.slice ma mn mc) ∧ w2.cell? ⟨w.heap.size, 2, none⟩ = some (.slice fa fn fc) ∧ w2.cell? ⟨w.heap.size, 3, none⟩ = some (.slice ea en ec) ∧ w2.cell? ⟨w.heap.size + 1, 0, none⟩ = some (.int .i64 k) ∧ w2.cell? ⟨w.heap.size + 1, 1, none⟩ = some (.int .i64 r)) (first | exact SI | exact SZ | go_keep) ((first
            | (go_at_call 14; (refine (Hid.out K14 _ bb_N.drew (HRR.out HRT.out)).mono ?_; rintro e w_Z ⟨hh, zs, rfl, hb'_Z, hzi, hvr, hzn⟩; have hb_Z := TR.out hb_N.drew hb'_Z; obtain ⟨FZ, bb_Z⟩ := FX.out w_Z hb_Z; have SZ := And.intro FZ.1 (And.intro FZ.2.1 (And.intro FZ.2.2.1 (And.intro FZ.2.2.2.1 (And.intro FZ.2.2.2.2.1 FZ.2.2.2.2.2.1)))); obtain ⟨hz1, hz2, hz3⟩ := HZ.out hh zs HRT.out HTT.out hzi hzn; have Hz1 := hid hz1; have Hz2 := hid hz2; have Hz3 := hid hz3; have Hvr := hid hvr; have Hzn := hid hzn; clear hz1 hz2 hz3 hvr hzn hzi FZ))
            | (go_at_call 13; (have hno := hb_Z; refine (Hid.out K13 _ bb_Z hh zs Hz2.out Hzn.out Hvr.out Hz3.out).mono ?_; rintro e w_I ⟨rfl, hb'_I⟩; have hb_I := TR.out hb_Z hb'_I; obtain ⟨FI', bb_I⟩ := FX.out w_I hb_I; have SI := And.intro FI'.1 (And.intro FI'.2.1 (And.intro FI'.2.2.1 (And.intro FI'.2.2.2.1 (And.intro FI'.2.2.2.2.1 FI'.2.2.2.2.2.1)))); clear FI'))))
          go_wp2
          go_ret
          first | exact ⟨by rw [Hz1.out]; rfl, bb_I⟩ | exact ⟨by rw [Hz1.out], bb_I⟩
end Go.Proofs.YtpkblggpifnlmaaDoor
