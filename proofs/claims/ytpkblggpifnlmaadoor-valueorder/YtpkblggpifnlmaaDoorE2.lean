/- Same; ValuePrints' walk. -/
import Derived.Test.YtpkblggpifnlmaaDoorB2
import Derived.Test.YtpkblggpifnlmaaDoorC2
import Derived.Test.YtpkblggpifnlmaaDoorZ
namespace Go.Proofs.YtpkblggpifnlmaaDoor
open Go.RowKit Go.Deep Go.Shelf
set_option linter.unusedVariables false
set_option linter.unusedSimpArgs false

theorem tx_mkV {k : Nat} {h : Hd} {l : List (VT k)} (h1 : h.text.size ≤ 1000000) (h2 : ∀ u ∈ l, Tx k u) : Tx (k + 1) (mkV k h l) := ⟨h1, h2⟩
theorem tree_of2 {w : World} {h : Hd} {fs : List Hd} {gs : Nat → List Hd} (d : Deep w h fs gs) (s : SmB2 h fs gs) : ∃ t : VT 3, hdT 3 t = h ∧ Rds 3 w t ∧ Tx 3 t ∧ t.2.map (hdT 2) = fs := by
  obtain ⟨n1, x1, n2, n3⟩ := s
  refine ⟨mkV 2 h ((List.range fs.length).map (fun j => mkV 1 (fs.getD j h) ((gs j).map (fun g => mkV 0 g [])))), rfl, rds_mkV d.hin (by simp [d.n]) (by omega) (by rw [map_two]; exact d.rd) ?_, tx_mkV (by omega) ?_, map_two _ _ _⟩
  · intro u hu
    simp only [List.mem_map, List.mem_range] at hu
    obtain ⟨j, hj, rfl⟩ := hu
    have hfj : fs[j]? = some fs[j] := by simp [hj]
    have hget : fs.getD j h = fs[j] := by simp [hj]
    rw [hget]
    refine rds_mkV (d.fin _ (List.getElem_mem hj)) (by rw [List.length_map]; exact d.gn j _ hfj) (by have := (n2 _ (List.getElem_mem hj)).1; omega) (by rw [map_leaf]; exact d.grd j _ hfj) ?_
    intro u hu
    simp only [List.mem_map] at hu
    obtain ⟨g, hg, rfl⟩ := hu
    have h0 := (n3 j hj g hg).1
    exact rds_mkV (d.gin j g hg) h0 (by omega) (fun i x hx => by simp at hx) (fun u hu => by cases hu)
  · intro u hu
    simp only [List.mem_map, List.mem_range] at hu
    obtain ⟨j, hj, rfl⟩ := hu
    have hget : fs.getD j h = fs[j] := by simp [hj]
    rw [hget]
    refine tx_mkV (by have := (n2 _ (List.getElem_mem hj)).2; omega) ?_
    intro u hu
    simp only [List.mem_map] at hu
    obtain ⟨g, hg, rfl⟩ := hu
    exact tx_mkV (by have := (n3 j hj g hg).2; omega) (fun u hu => by cases hu)

set_option maxHeartbeats 400000 in
theorem same_any (k : Nat) (w : World) (s t : VT k) (hs : Rds k w s) (ht : Rds k w t) : Calls Tryd.prog 10 #[(hdT k s).v, (hdT k t).v] w fun e w' => e = .returned (.bool (cmpT k s t == 0)) ∧ Below w.heap.size w w' := by
  have K := hid (fun (w1 : World) (hb : Below w.heap.size w w1) => compare_any k w1 s t (Rds.below k hs (Nat.le_refl _) hb) (Rds.below k ht (Nat.le_refl _) hb))
  clear hs ht
  generalize cmpT k s t = c at *
  generalize hdT k s = h at *
  generalize hdT k t = g at *
  obtain ⟨k1, i1, t1, r1, a1, m1, c1⟩ := h
  obtain ⟨k2, i2, t2, r2, a2, m2, c2⟩ := g
  simp only [Hd.v] at K ⊢
  have hb := two_boxes w #[.int .i64 k1, .int .i64 i1, .string t1, .int .i64 r1, .slice a1 m1 c1] #[.int .i64 k2, .int .i64 i2, .string t2, .int .i64 r2, .slice a2 m2 c2] 31 31
  have HB := hid hb
  clear hb
  go_enter Tryd.func10, Tryd.ntmps10
  go_wp2_with (go_at_call 9; (refine (Hid.out K _ HB.out).mono ?_; rintro e w1 ⟨rfl, hb1⟩))
  go_ret
  exact ⟨rfl, HB.out.trans (hb1.mono HB.out.size)⟩

set_option maxRecDepth 100000 in
set_option maxHeartbeats 2000000 in
theorem prints_go (w : World) (E : Env w) (h g : Hd) (fs gs : List Hd) (f2 g2 : Nat → List Hd) (dh : Deep w h fs f2) (dg : Deep w g gs g2) :
    Calls Tryd.prog 4 #[h.v, g.v] w fun e w' => e = .returned (.bool true) ∧ Below w.heap.size w w' := by
  have K0 := hid (fun (w1 : World) (hb : Below w.heap.size w w1) => known_any w1 (E.below hb))
  have K1 := hid (fun (w1 : World) (hb : Below w.heap.size w w1) => small_txt w1 h fs f2 (dh.below (Nat.le_refl _) hb))
  have K2 := hid (fun (w1 : World) (hb : Below w.heap.size w w1) => small_txt w1 g gs g2 (dg.below (Nat.le_refl _) hb))
  have K3 := hid (fun (w1 : World) (hb : Below w.heap.size w w1) => refPlain_any w1 h fs dh.hin dh.n (dh.rd.below (Nat.le_refl _) hb) dh.fin)
  have K4 := hid (fun (w1 : World) (hb : Below w.heap.size w w1) => refPlain_any w1 g gs dg.hin dg.n (dg.rd.below (Nat.le_refl _) hb) dg.fin)
  have HR := hid dh
  have HR2 := hid dg
  have HE := hid E
  clear dh dg E
  obtain ⟨pa, hpa⟩ : ∃ pa, pa = plainB h fs := ⟨_, rfl⟩
  obtain ⟨pb, hpb⟩ : ∃ pb, pb = plainB g gs := ⟨_, rfl⟩
  rw [← hpa] at K3
  rw [← hpb] at K4
  have HPA := hid hpa
  have HPB := hid hpb
  clear hpa hpb
  obtain ⟨k1, i1, t1, r1, a1, m1, c1⟩ := h
  obtain ⟨k2, i2, t2, r2, a2, m2, c2⟩ := g
  simp only [Hd.v] at K1 K2 K3 K4 ⊢
  obtain ⟨W0, hW0⟩ : ∃ W0, W0 = (w.alloc (.cells #[.int .i64 k1, .int .i64 i1, .string t1, .int .i64 r1, .slice a1 m1 c1] 31)).alloc (.cells #[.int .i64 k2, .int .i64 i2, .string t2, .int .i64 r2, .slice a2 m2 c2] 31) := ⟨_, rfl⟩
  have hb0 : Below w.heap.size w W0 := by rw [hW0]; exact two_boxes _ _ _ _ _
  have b1 : W0.heap[w.heap.size]? = some (.cells #[.int .i64 k1, .int .i64 i1, .string t1, .int .i64 r1, .slice a1 m1 c1] 31 (0, 0)) := by rw [hW0]; exact boxA _ _ _ _ _
  have b2 : W0.heap[w.heap.size + 1]? = some (.cells #[.int .i64 k2, .int .i64 i2, .string t2, .int .i64 r2, .slice a2 m2 c2] 31 (0, 0)) := by rw [hW0]; exact boxB _ _ _ _ _
  have FX : Hid (∀ w2 : World, Below W0.heap.size W0 w2 → (w2.cell? ⟨w.heap.size, 0, none⟩ = some (.int .i64 k1) ∧ w2.cell? ⟨w.heap.size, 1, none⟩ = some (.int .i64 i1) ∧ w2.cell? ⟨w.heap.size, 2, none⟩ = some (.string t1) ∧ w2.cell? ⟨w.heap.size, 3, none⟩ = some (.int .i64 r1) ∧ w2.cell? ⟨w.heap.size, 4, none⟩ = some (.slice a1 m1 c1) ∧ w2.cell? ⟨w.heap.size + 1, 0, none⟩ = some (.int .i64 k2) ∧ w2.cell? ⟨w.heap.size + 1, 1, none⟩ = some (.int .i64 i2) ∧ w2.cell? ⟨w.heap.size + 1, 2, none⟩ = some (.string t2) ∧ w2.cell? ⟨w.heap.size + 1, 3, none⟩ = some (.int .i64 r2) ∧ w2.cell? ⟨w.heap.size + 1, 4, none⟩ = some (.slice a2 m2 c2)) ∧ Below w.heap.size w w2) := hid (fun w2 hb => by
    have bx := (hb.block _ (Array.getElem?_eq_some_iff.1 b1).1).trans b1
    have by' := (hb.block _ (Array.getElem?_eq_some_iff.1 b2).1).trans b2
    exact ⟨⟨cellOf bx 0, cellOf bx 1, cellOf bx 2, cellOf bx 3, cellOf bx 4, cellOf by' 0, cellOf by' 1, cellOf by' 2, cellOf by' 3, cellOf by' 4⟩, hb0.trans (hb.mono hb0.size)⟩)
  have TR : Hid (∀ {x y : World}, Below W0.heap.size W0 x → Below x.heap.size x y → Below W0.heap.size W0 y) := hid (fun h1 h2 => h1.trans (h2.mono h1.size))
  have HB := hid hb0
  clear b1 b2 hb0
  cases pa with
  | false =>
    go_enter Tryd.func4, Tryd.ntmps4
    go_wp2_with (first
      | (go_at_call 6; (rw [← hW0]; refine (Hid.out K0 _ HB.out).mono ?_; rintro e w1 ⟨rfl, hb1⟩; obtain ⟨⟨p0, p1, p2, p3, p4, p5, p6, p7, p8, p9⟩, pbb⟩ := FX.out w1 hb1))
      | (go_at_call 8; (have hno := q0; refine (Hid.out K2 _ qbb).mono ?_; rintro e w3 ⟨⟨b3, rfl, hs3⟩, hb3'⟩; have hb3 := TR.out hb2 hb3'; obtain ⟨⟨s0, s1, s2, s3, s4, s5, s6, s7, s8, s9⟩, sbb⟩ := FX.out w3 hb3; have HS3 := hid hs3; clear hs3; cases b3))
      | (go_at_call 8; (refine (Hid.out K1 _ pbb).mono ?_; rintro e w2 ⟨⟨b2, rfl, hs2⟩, hb2'⟩; have hb2 := TR.out hb1 hb2'; obtain ⟨⟨q0, q1, q2, q3, q4, q5, q6, q7, q8, q9⟩, qbb⟩ := FX.out w2 hb2; have HS2 := hid hs2; clear hs2; cases b2))
      | (go_at_call 15; (refine (Hid.out K3 _ sbb).mono ?_; rintro e w4 ⟨rfl, hb4'⟩; have hb4 := TR.out hb3 hb4'; obtain ⟨⟨u0, u1, u2, u3, u4, u5, u6, u7, u8, u9⟩, ubb⟩ := FX.out w4 hb4)))
    all_goals
      go_ret
      first
        | exact ⟨rfl, ubb⟩
        | exact ⟨rfl, sbb⟩
        | exact ⟨rfl, qbb⟩
  | true =>
    cases pb with
    | false =>
      go_enter Tryd.func4, Tryd.ntmps4
      go_wp2_with (first
        | (go_at_call 6; (rw [← hW0]; refine (Hid.out K0 _ HB.out).mono ?_; rintro e w1 ⟨rfl, hb1⟩; obtain ⟨⟨p0, p1, p2, p3, p4, p5, p6, p7, p8, p9⟩, pbb⟩ := FX.out w1 hb1))
        | (go_at_call 8; (have hno := q0; refine (Hid.out K2 _ qbb).mono ?_; rintro e w3 ⟨⟨b3, rfl, hs3⟩, hb3'⟩; have hb3 := TR.out hb2 hb3'; obtain ⟨⟨s0, s1, s2, s3, s4, s5, s6, s7, s8, s9⟩, sbb⟩ := FX.out w3 hb3; have HS3 := hid hs3; clear hs3; cases b3))
        | (go_at_call 8; (refine (Hid.out K1 _ pbb).mono ?_; rintro e w2 ⟨⟨b2, rfl, hs2⟩, hb2'⟩; have hb2 := TR.out hb1 hb2'; obtain ⟨⟨q0, q1, q2, q3, q4, q5, q6, q7, q8, q9⟩, qbb⟩ := FX.out w2 hb2; have HS2 := hid hs2; clear hs2; cases b2))
        | (go_at_call 15; (have hno := u0; refine (Hid.out K4 _ ubb).mono ?_; rintro e w5 ⟨rfl, hb5'⟩; have hb5 := TR.out hb4 hb5'; obtain ⟨⟨v0, v1, v2, v3, v4, v5, v6, v7, v8, v9⟩, vbb⟩ := FX.out w5 hb5))
        | (go_at_call 15; (refine (Hid.out K3 _ sbb).mono ?_; rintro e w4 ⟨rfl, hb4'⟩; have hb4 := TR.out hb3 hb4'; obtain ⟨⟨u0, u1, u2, u3, u4, u5, u6, u7, u8, u9⟩, ubb⟩ := FX.out w4 hb4)))
      all_goals
        go_ret
        first
          | exact ⟨rfl, vbb⟩
          | exact ⟨rfl, sbb⟩
          | exact ⟨rfl, qbb⟩
    | true =>
      go_enter Tryd.func4, Tryd.ntmps4
      go_wp2_with (first
        | (go_at_call 6; (rw [← hW0]; refine (Hid.out K0 _ HB.out).mono ?_; rintro e w1 ⟨rfl, hb1⟩; obtain ⟨⟨p0, p1, p2, p3, p4, p5, p6, p7, p8, p9⟩, pbb⟩ := FX.out w1 hb1))
        | (go_at_call 8; (have hno := q0; refine (Hid.out K2 _ qbb).mono ?_; rintro e w3 ⟨⟨b3, rfl, hs3⟩, hb3'⟩; have hb3 := TR.out hb2 hb3'; obtain ⟨⟨s0, s1, s2, s3, s4, s5, s6, s7, s8, s9⟩, sbb⟩ := FX.out w3 hb3; have HS3 := hid hs3; clear hs3; cases b3))
        | (go_at_call 8; (refine (Hid.out K1 _ pbb).mono ?_; rintro e w2 ⟨⟨b2, rfl, hs2⟩, hb2'⟩; have hb2 := TR.out hb1 hb2'; obtain ⟨⟨q0, q1, q2, q3, q4, q5, q6, q7, q8, q9⟩, qbb⟩ := FX.out w2 hb2; have HS2 := hid hs2; clear hs2; cases b2))
        | (go_at_call 15; (have hno := u0; refine (Hid.out K4 _ ubb).mono ?_; rintro e w5 ⟨rfl, hb5'⟩; have hb5 := TR.out hb4 hb5'; obtain ⟨⟨v0, v1, v2, v3, v4, v5, v6, v7, v8, v9⟩, vbb⟩ := FX.out w5 hb5))
        | (go_at_call 15; (refine (Hid.out K3 _ sbb).mono ?_; rintro e w4 ⟨rfl, hb4'⟩; have hb4 := TR.out hb3 hb4'; obtain ⟨⟨u0, u1, u2, u3, u4, u5, u6, u7, u8, u9⟩, ubb⟩ := FX.out w4 hb4)))
      · go_ret
        exact ⟨rfl, qbb⟩
      · go_ret
        exact ⟨rfl, sbb⟩
      obtain ⟨ta, ea, ra, xa, fa⟩ := tree_of2 HR.out (HS2.out (by first | rfl | trivial))
      obtain ⟨tb, eb, rb, xb, fb'⟩ := tree_of2 HR2.out (HS3.out (by first | rfl | trivial))
      have P1 : Hid (∀ w1 : World, Below w.heap.size w w1 → Calls Tryd.prog 16 #[.agg #[.int .i64 k1, .int .i64 i1, .string t1, .int .i64 r1, .slice a1 m1 c1]] w1 fun e w' => e = .returned (.string ⟨(prT 3 ta).toArray⟩) ∧ Below w1.heap.size w1 w') := hid (fun w1 hb => by
        have := print_any 3 w1 ta (Rds.below 3 ra (Nat.le_refl _) hb) xa (HE.out.below hb) (by decide)
        rw [ea] at this; exact this)
      have P2 : Hid (∀ w1 : World, Below w.heap.size w w1 → Calls Tryd.prog 16 #[.agg #[.int .i64 k2, .int .i64 i2, .string t2, .int .i64 r2, .slice a2 m2 c2]] w1 fun e w' => e = .returned (.string ⟨(prT 3 tb).toArray⟩) ∧ Below w1.heap.size w1 w') := hid (fun w1 hb => by
        have := print_any 3 w1 tb (Rds.below 3 rb (Nat.le_refl _) hb) xb (HE.out.below hb) (by decide)
        rw [eb] at this; exact this)
      have P3 : Hid (∀ w1 : World, Below w.heap.size w w1 → Calls Tryd.prog 10 #[.agg #[.int .i64 k1, .int .i64 i1, .string t1, .int .i64 r1, .slice a1 m1 c1], .agg #[.int .i64 k2, .int .i64 i2, .string t2, .int .i64 r2, .slice a2 m2 c2]] w1 fun e w' => e = .returned (.bool (cmpT 3 ta tb == 0)) ∧ Below w1.heap.size w1 w') := hid (fun w1 hb => by
        have := same_any 3 w1 ta tb (Rds.below 3 ra (Nat.le_refl _) hb) (Rds.below 3 rb (Nat.le_refl _) hb)
        rw [ea, eb] at this; exact this)
      have hiff : (⟨(prT 3 ta).toArray⟩ : ByteArray) = ⟨(prT 3 tb).toArray⟩ ↔ cmpT 3 ta tb = 0 := by
        constructor
        · intro e
          have e' : prT 3 ta = prT 3 tb := by
            have := congrArg (fun b : ByteArray => b.data.toList) e
            simpa using this
          refine print_inj 2 w ta tb ra rb ?_ ?_ e'
          · rw [fa, show ta.1 = _ from ea]; exact HPA.out.symm
          · rw [fb', show tb.1 = _ from eb]; exact HPB.out.symm
        · intro e
          rw [print_same 3 ta tb e]
      generalize (⟨(prT 3 ta).toArray⟩ : ByteArray) = sa at *
      generalize (⟨(prT 3 tb).toArray⟩ : ByteArray) = sb at *
      generalize cmpT 3 ta tb = c at *
      clear ea eb ra rb xa xb fa fb' ta tb HR HR2 HE HS2 HS3 HPA HPB K0 K1 K2 K3 K4 p0 p1 p2 p3 p4 p5 p6 p7 p8 p9 q0 q1 q2 q3 q4 q5 q6 q7 q8 q9 s0 s1 s2 s3 s4 s5 s6 s7 s8 s9 u0 u1 u2 u3 u4 u5 u6 u7 u8 u9
      by_cases hc : c = 0
      · have hss : sa = sb := hiff.2 hc
        subst hc
        subst hss
        clear hiff
        go_region_held3 (fun w2 => w2.cell? ⟨w.heap.size, 0, none⟩ = some (.int .i64 k1) ∧ w2.cell? ⟨w.heap.size, 1, none⟩ = some (.int .i64 i1) ∧ w2.cell? ⟨w.heap.size, 2, none⟩ = some (.string t1) ∧ w2.cell? ⟨w.heap.size, 3, none⟩ = some (.int .i64 r1) ∧ w2.cell? ⟨w.heap.size, 4, none⟩ = some (.slice a1 m1 c1) ∧ w2.cell? ⟨w.heap.size + 1, 0, none⟩ = some (.int .i64 k2) ∧ w2.cell? ⟨w.heap.size + 1, 1, none⟩ = some (.int .i64 i2) ∧ w2.cell? ⟨w.heap.size + 1, 2, none⟩ = some (.string t2) ∧ w2.cell? ⟨w.heap.size + 1, 3, none⟩ = some (.int .i64 r2) ∧ w2.cell? ⟨w.heap.size + 1, 4, none⟩ = some (.slice a2 m2 c2)) (first | exact SC | exact SB | exact SA | go_keep) ((first
        | (go_at_call 16; (have hno := hbA; refine (Hid.out P2 _ xbA).mono ?_; rintro e w7 ⟨rfl, hb7⟩; have hbB := TR.out hbA hb7; obtain ⟨SB, xbB⟩ := FX.out w7 hbB))
        | (go_at_call 16; (refine (Hid.out P1 _ vbb.drew).mono ?_; rintro e w6 ⟨rfl, hb6⟩; have hbA := TR.out (hb5.drew) hb6; obtain ⟨SA, xbA⟩ := FX.out w6 hbA))
        | (go_at_call 10; (refine (Hid.out P3 _ xbB).mono ?_; rintro e w8 ⟨rfl, hb8⟩; have hbC := TR.out hbB hb8; obtain ⟨SC, xbC⟩ := FX.out w8 hbC))))
        go_wp2
        go_ret
        exact ⟨by simp, xbC⟩
      · have hss : ¬ sa = sb := fun e => hc (hiff.1 e)
        have hc' : (c == 0) = false := by simpa using hc
        have hs2 : (sa.toList == sb.toList) = false := by
          rw [ByteArray.toList_eq, ByteArray.toList_eq]
          have : ¬ sa.data.toList = sb.data.toList := fun e => hss (byteArray_ext e)
          simpa using this
        rw [hc'] at P3
        clear hiff
        go_region_held3 (fun w2 => w2.cell? ⟨w.heap.size, 0, none⟩ = some (.int .i64 k1) ∧ w2.cell? ⟨w.heap.size, 1, none⟩ = some (.int .i64 i1) ∧ w2.cell? ⟨w.heap.size, 2, none⟩ = some (.string t1) ∧ w2.cell? ⟨w.heap.size, 3, none⟩ = some (.int .i64 r1) ∧ w2.cell? ⟨w.heap.size, 4, none⟩ = some (.slice a1 m1 c1) ∧ w2.cell? ⟨w.heap.size + 1, 0, none⟩ = some (.int .i64 k2) ∧ w2.cell? ⟨w.heap.size + 1, 1, none⟩ = some (.int .i64 i2) ∧ w2.cell? ⟨w.heap.size + 1, 2, none⟩ = some (.string t2) ∧ w2.cell? ⟨w.heap.size + 1, 3, none⟩ = some (.int .i64 r2) ∧ w2.cell? ⟨w.heap.size + 1, 4, none⟩ = some (.slice a2 m2 c2)) (first | exact SC | exact SB | exact SA | go_keep) ((first
        | (go_at_call 16; (have hno := hbA; refine (Hid.out P2 _ xbA).mono ?_; rintro e w7 ⟨rfl, hb7⟩; have hbB := TR.out hbA hb7; obtain ⟨SB, xbB⟩ := FX.out w7 hbB))
        | (go_at_call 16; (refine (Hid.out P1 _ vbb.drew).mono ?_; rintro e w6 ⟨rfl, hb6⟩; have hbA := TR.out (hb5.drew) hb6; obtain ⟨SA, xbA⟩ := FX.out w6 hbA))
        | (go_at_call 10; (refine (Hid.out P3 _ xbB).mono ?_; rintro e w8 ⟨rfl, hb8⟩; have hbC := TR.out hbB hb8; obtain ⟨SC, xbC⟩ := FX.out w8 hbC))))
        go_wp2
        go_ret
        exact ⟨by simp [hss, hs2], xbC⟩
end Go.Proofs.YtpkblggpifnlmaaDoor
