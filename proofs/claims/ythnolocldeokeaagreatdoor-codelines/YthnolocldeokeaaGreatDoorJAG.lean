/- appendList's instances. -/
import Derived.Test.YthnolocldeokeaaGreatDoorJAF
namespace Go.Proofs.YthnolocldeokeaaGreatDoor
open Go.RowKit Go.Deep Go.Shelf
set_option linter.unusedVariables false
set_option linter.unusedSimpArgs false
set_option maxRecDepth 100000
theorem SRd.crd {w : World} {a : Option Addr} {ss : List ByteArray} (h : SRd w a ss) : CRd w a 1 (ss.map stc) := fun j r e => by
  rw [List.getElem?_map] at e
  obtain ⟨s, hs, rfl⟩ := Option.map_eq_some_iff.1 e
  obtain ⟨_, b, off, e1, hc⟩ := h j s hs
  refine ⟨b, off, e1, World.block_lt_of_cell? w _ hc, fun i hi => ?_⟩
  obtain rfl : i = 0 := by omega
  rw [Nat.mul_one]; exact hc
set_option maxHeartbeats 2000000 in
theorem appTexts_any (w0 w : World) (v : Value) (xs : List Nat) (a : Option Addr) (n cap : Nat) (l : List (ByteArray)) (en : ByteArray → List Nat)
    (hw : Below w0.heap.size w0 w) (h : Row w w0.heap.size v xs) (hn : n = l.length) (hnb : n ≤ 1000000) (hr : CRd w0 a 1 (l.map stc)) (hl : (xs ++ enc n ++ (l.map en).flatten).length ≤ 100000000)
    (one : ∀ (V : World) (u : Value) (ys : List Nat) (x : ByteArray), x ∈ l → Below w0.heap.size w0 V → Row V w0.heap.size u ys → (ys ++ en x).length ≤ 100000000 → Calls Tryz.prog 27 #[u, .string x] V (ApP V w0.heap.size u (ys ++ en x))) :
    Calls Tryz.prog 26 #[v, .slice a n cap, .func (.func 27) #[] #[]] w (ApP w w0.heap.size v (xs ++ enc n ++ (l.map en).flatten)) := by
  have K0 := hid (putUint_any w n (by omega))
  have hnI : (n : Int) ≤ 1000000 := by omega
  have hnw : IntKind.u64.wrap (n : Int) = (n : Int) := by rw [IntKind.wrap_u64]; omega
  have HN := hid hn
  have HR := hid hr
  have HW := hid hw
  have H := hid h
  have HL := hid hl
  have ONE := hid one
  have hB : w0.heap.size ≤ w.heap.size := hw.size
  have HE := hid (enc_le n (by omega))
  have HBy := hid (enc_byt n)
  have hxl : Hid (xs.length ≤ 100000000) := hid (by simp at hl; omega)
  clear hn hr hw h hl one
  go_enter Tryz.func26, Tryz.ntmps26
  go_upto_region 2 with (first
    | (go_at_call 52; (refine (Hid.out K0).mono ?_; rintro e w1 ⟨v1, rfl, hr1, hb1⟩; have HR1 := hid hr1; have HB1 := hid hb1; clear hr1 hb1))
    | (at_builtin; refine wpList_appR _ rfl _ _ rfl _ _ (by rfl) (by rfl) w0.heap.size xs _ (H.out.below (Nat.le_refl _) HB1.out) (HR1.out.rd HBy.out) HR1.out.nilOf (Nat.le_trans hB HB1.out.size) (by have := hxl.out; omega) (by have := HE.out; omega) ?_; intro v2 w2 h1 h2; have H1 := hid h1; have H2 := hid ((Grw.ofBelow v HB1.out).trans h2); clear h1 h2))
  clear K0 HR1 HB1
  go_wp2
  go_loopg [0, 17] n (fun g u x wr => ∃ j : Nat, j + g = n ∧ x = .int .i64 (j : Int) ∧ Row wr w0.heap.size u (xs ++ enc n ++ ((l.take j).map en).flatten) ∧ Grw w v wr u)
  case atStart => exact ⟨0, by omega, rfl, by simpa using H1.out, H2.out⟩
  case round =>
    obtain ⟨j, hj, rfl, hk, hg⟩ := hrel
    obtain ⟨u, hu⟩ : ∃ u, u = u0 := ⟨_, rfl⟩
    subst hu
    have hb : Below w0.heap.size w0 wr := HW.out.trans (hg.below H.out hB)
    cases gk with
    | zero =>
      have hjn : j = n := by omega
      subst hjn
      rw [show l.take j = l from by rw [HN.out, List.take_of_length_le (Nat.le_refl _)]] at hk
      have HK := hid hk
      have HG := hid hg
      clear hk hg hb
      go_wp2
      go_ret
      exact ⟨_, rfl, HK.out, HG.out⟩
    | succ g =>
      have hlj : j < l.length := by rw [← HN.out]; omega
      have hgj : l[j]? = some l[j] := List.getElem?_eq_getElem hlj
      have hm : l[j] ∈ l := List.getElem_mem hlj
      obtain ⟨b, off, ea1, hbl, hc⟩ := (HR.out.below (Nat.le_refl _) hb) j (stc l[j]) (by simp [hgj])
      have ht : Hid (xs ++ enc n ++ ((l.take (j + 1)).map en).flatten = xs ++ enc n ++ ((l.take j).map en).flatten ++ en l[j]) := hid (by rw [List.take_add_one, hgj, List.map_append, List.flatten_append]; simp only [Option.toList, List.map_cons, List.map_nil, List.flatten_cons, List.flatten_nil, List.append_nil, List.append_assoc])
      have hlen : (xs ++ enc n ++ ((l.take j).map en).flatten ++ en l[j]).length ≤ 100000000 := by
        have h1 := HL.out
        have h2 : l = l.take (j + 1) ++ l.drop (j + 1) := (List.take_append_drop _ _).symm
        rw [h2, List.map_append, List.flatten_append] at h1
        rw [← ht.out]
        simp only [List.length_append] at h1 ⊢
        omega
      generalize l[j] = xx at hgj hc hm ht hlen
      subst ea1
      obtain ⟨xd⟩ := xx
      have K := hid (ONE.out wr u (xs ++ enc n ++ ((l.take j).map en).flatten) _ hm hb hk hlen)
      have HB := hid hb
      have HG := hid hg
      have s0 := hc 0 (by omega)
      simp only [stc, List.getElem?_cons_zero, List.getElem?_cons_succ, Nat.add_zero, Nat.mul_one] at s0
      have hjI : (j : Int) < (n : Int) := by omega
      have hj0 : (0 : Int) ≤ (j : Int) := by omega
      clear hk hg hb hgj hc hbl hlj hlen hm
      go_wp2_with (go_at_call 27; (refine (Hid.out K).mono ?_; rintro e w1 ⟨u1, rfl, hr1, hg1⟩; have HR1 := hid hr1; have HG1 := hid hg1; clear hr1 hg1))
      go_roundg g
      case measure => omega
      exact ⟨j + 1, by omega, by go_num, by rw [ht.out]; exact HR1.out, HG.out.trans HG1.out⟩
set_option maxHeartbeats 2000000 in
theorem appInts_any (w0 w : World) (v : Value) (xs : List Nat) (a : Option Addr) (n cap : Nat) (l : List (Int)) (en : Int → List Nat)
    (hw : Below w0.heap.size w0 w) (h : Row w w0.heap.size v xs) (hn : n = l.length) (hnb : n ≤ 1000000) (hr : CRd w0 a 1 (l.map inc)) (hl : (xs ++ enc n ++ (l.map en).flatten).length ≤ 100000000)
    (one : ∀ (V : World) (u : Value) (ys : List Nat) (x : Int), x ∈ l → Below w0.heap.size w0 V → Row V w0.heap.size u ys → (ys ++ en x).length ≤ 100000000 → Calls Tryz.prog 25 #[u, .int .i64 x] V (ApP V w0.heap.size u (ys ++ en x))) :
    Calls Tryz.prog 24 #[v, .slice a n cap, .func (.func 25) #[] #[]] w (ApP w w0.heap.size v (xs ++ enc n ++ (l.map en).flatten)) := by
  have K0 := hid (putUint_any w n (by omega))
  have hnI : (n : Int) ≤ 1000000 := by omega
  have hnw : IntKind.u64.wrap (n : Int) = (n : Int) := by rw [IntKind.wrap_u64]; omega
  have HN := hid hn
  have HR := hid hr
  have HW := hid hw
  have H := hid h
  have HL := hid hl
  have ONE := hid one
  have hB : w0.heap.size ≤ w.heap.size := hw.size
  have HE := hid (enc_le n (by omega))
  have HBy := hid (enc_byt n)
  have hxl : Hid (xs.length ≤ 100000000) := hid (by simp at hl; omega)
  clear hn hr hw h hl one
  go_enter Tryz.func24, Tryz.ntmps24
  go_upto_region 2 with (first
    | (go_at_call 52; (refine (Hid.out K0).mono ?_; rintro e w1 ⟨v1, rfl, hr1, hb1⟩; have HR1 := hid hr1; have HB1 := hid hb1; clear hr1 hb1))
    | (at_builtin; refine wpList_appR _ rfl _ _ rfl _ _ (by rfl) (by rfl) w0.heap.size xs _ (H.out.below (Nat.le_refl _) HB1.out) (HR1.out.rd HBy.out) HR1.out.nilOf (Nat.le_trans hB HB1.out.size) (by have := hxl.out; omega) (by have := HE.out; omega) ?_; intro v2 w2 h1 h2; have H1 := hid h1; have H2 := hid ((Grw.ofBelow v HB1.out).trans h2); clear h1 h2))
  clear K0 HR1 HB1
  go_wp2
  go_loopg [0, 17] n (fun g u x wr => ∃ j : Nat, j + g = n ∧ x = .int .i64 (j : Int) ∧ Row wr w0.heap.size u (xs ++ enc n ++ ((l.take j).map en).flatten) ∧ Grw w v wr u)
  case atStart => exact ⟨0, by omega, rfl, by simpa using H1.out, H2.out⟩
  case round =>
    obtain ⟨j, hj, rfl, hk, hg⟩ := hrel
    obtain ⟨u, hu⟩ : ∃ u, u = u0 := ⟨_, rfl⟩
    subst hu
    have hb : Below w0.heap.size w0 wr := HW.out.trans (hg.below H.out hB)
    cases gk with
    | zero =>
      have hjn : j = n := by omega
      subst hjn
      rw [show l.take j = l from by rw [HN.out, List.take_of_length_le (Nat.le_refl _)]] at hk
      have HK := hid hk
      have HG := hid hg
      clear hk hg hb
      go_wp2
      go_ret
      exact ⟨_, rfl, HK.out, HG.out⟩
    | succ g =>
      have hlj : j < l.length := by rw [← HN.out]; omega
      have hgj : l[j]? = some l[j] := List.getElem?_eq_getElem hlj
      have hm : l[j] ∈ l := List.getElem_mem hlj
      obtain ⟨b, off, ea1, hbl, hc⟩ := (HR.out.below (Nat.le_refl _) hb) j (inc l[j]) (by simp [hgj])
      have ht : Hid (xs ++ enc n ++ ((l.take (j + 1)).map en).flatten = xs ++ enc n ++ ((l.take j).map en).flatten ++ en l[j]) := hid (by rw [List.take_add_one, hgj, List.map_append, List.flatten_append]; simp only [Option.toList, List.map_cons, List.map_nil, List.flatten_cons, List.flatten_nil, List.append_nil, List.append_assoc])
      have hlen : (xs ++ enc n ++ ((l.take j).map en).flatten ++ en l[j]).length ≤ 100000000 := by
        have h1 := HL.out
        have h2 : l = l.take (j + 1) ++ l.drop (j + 1) := (List.take_append_drop _ _).symm
        rw [h2, List.map_append, List.flatten_append] at h1
        rw [← ht.out]
        simp only [List.length_append] at h1 ⊢
        omega
      generalize l[j] = xx at hgj hc hm ht hlen
      subst ea1
      have K := hid (ONE.out wr u (xs ++ enc n ++ ((l.take j).map en).flatten) _ hm hb hk hlen)
      have HB := hid hb
      have HG := hid hg
      have s0 := hc 0 (by omega)
      simp only [inc, List.getElem?_cons_zero, List.getElem?_cons_succ, Nat.add_zero, Nat.mul_one] at s0
      have hjI : (j : Int) < (n : Int) := by omega
      have hj0 : (0 : Int) ≤ (j : Int) := by omega
      clear hk hg hb hgj hc hbl hlj hlen hm
      go_wp2_with (go_at_call 25; (refine (Hid.out K).mono ?_; rintro e w1 ⟨u1, rfl, hr1, hg1⟩; have HR1 := hid hr1; have HG1 := hid hg1; clear hr1 hg1))
      go_roundg g
      case measure => omega
      exact ⟨j + 1, by omega, by go_num, by rw [ht.out]; exact HR1.out, HG.out.trans HG1.out⟩
set_option maxHeartbeats 2000000 in
theorem appTypes_any (w0 w : World) (v : Value) (xs : List Nat) (a : Option Addr) (n cap : Nat) (l : List (TyP)) (en : TyP → List Nat)
    (hw : Below w0.heap.size w0 w) (h : Row w w0.heap.size v xs) (hn : n = l.length) (hnb : n ≤ 1000000) (hr : CRd w0 a 2 (l.map tyc)) (hl : (xs ++ enc n ++ (l.map en).flatten).length ≤ 100000000)
    (one : ∀ (V : World) (u : Value) (ys : List Nat) (x : TyP), x ∈ l → Below w0.heap.size w0 V → Row V w0.heap.size u ys → (ys ++ en x).length ≤ 100000000 → Calls Tryz.prog 54 #[u, .agg #[.int .i64 x.1, .int .i64 x.2]] V (ApP V w0.heap.size u (ys ++ en x))) :
    Calls Tryz.prog 53 #[v, .slice a n cap, .func (.func 54) #[] #[]] w (ApP w w0.heap.size v (xs ++ enc n ++ (l.map en).flatten)) := by
  have K0 := hid (putUint_any w n (by omega))
  have hnI : (n : Int) ≤ 1000000 := by omega
  have hnw : IntKind.u64.wrap (n : Int) = (n : Int) := by rw [IntKind.wrap_u64]; omega
  have HN := hid hn
  have HR := hid hr
  have HW := hid hw
  have H := hid h
  have HL := hid hl
  have ONE := hid one
  have hB : w0.heap.size ≤ w.heap.size := hw.size
  have HE := hid (enc_le n (by omega))
  have HBy := hid (enc_byt n)
  have hxl : Hid (xs.length ≤ 100000000) := hid (by simp at hl; omega)
  clear hn hr hw h hl one
  go_enter Tryz.func53, Tryz.ntmps53
  go_upto_region 2 with (first
    | (go_at_call 52; (refine (Hid.out K0).mono ?_; rintro e w1 ⟨v1, rfl, hr1, hb1⟩; have HR1 := hid hr1; have HB1 := hid hb1; clear hr1 hb1))
    | (at_builtin; refine wpList_appR _ rfl _ _ rfl _ _ (by rfl) (by rfl) w0.heap.size xs _ (H.out.below (Nat.le_refl _) HB1.out) (HR1.out.rd HBy.out) HR1.out.nilOf (Nat.le_trans hB HB1.out.size) (by have := hxl.out; omega) (by have := HE.out; omega) ?_; intro v2 w2 h1 h2; have H1 := hid h1; have H2 := hid ((Grw.ofBelow v HB1.out).trans h2); clear h1 h2))
  clear K0 HR1 HB1
  go_wp2
  go_loopg [0, 17] n (fun g u x wr => ∃ j : Nat, j + g = n ∧ x = .int .i64 (j : Int) ∧ Row wr w0.heap.size u (xs ++ enc n ++ ((l.take j).map en).flatten) ∧ Grw w v wr u)
  case atStart => exact ⟨0, by omega, rfl, by simpa using H1.out, H2.out⟩
  case round =>
    obtain ⟨j, hj, rfl, hk, hg⟩ := hrel
    obtain ⟨u, hu⟩ : ∃ u, u = u0 := ⟨_, rfl⟩
    subst hu
    have hb : Below w0.heap.size w0 wr := HW.out.trans (hg.below H.out hB)
    cases gk with
    | zero =>
      have hjn : j = n := by omega
      subst hjn
      rw [show l.take j = l from by rw [HN.out, List.take_of_length_le (Nat.le_refl _)]] at hk
      have HK := hid hk
      have HG := hid hg
      clear hk hg hb
      go_wp2
      go_ret
      exact ⟨_, rfl, HK.out, HG.out⟩
    | succ g =>
      have hlj : j < l.length := by rw [← HN.out]; omega
      have hgj : l[j]? = some l[j] := List.getElem?_eq_getElem hlj
      have hm : l[j] ∈ l := List.getElem_mem hlj
      obtain ⟨b, off, ea1, hbl, hc⟩ := (HR.out.below (Nat.le_refl _) hb) j (tyc l[j]) (by simp [hgj])
      have ht : Hid (xs ++ enc n ++ ((l.take (j + 1)).map en).flatten = xs ++ enc n ++ ((l.take j).map en).flatten ++ en l[j]) := hid (by rw [List.take_add_one, hgj, List.map_append, List.flatten_append]; simp only [Option.toList, List.map_cons, List.map_nil, List.flatten_cons, List.flatten_nil, List.append_nil, List.append_assoc])
      have hlen : (xs ++ enc n ++ ((l.take j).map en).flatten ++ en l[j]).length ≤ 100000000 := by
        have h1 := HL.out
        have h2 : l = l.take (j + 1) ++ l.drop (j + 1) := (List.take_append_drop _ _).symm
        rw [h2, List.map_append, List.flatten_append] at h1
        rw [← ht.out]
        simp only [List.length_append] at h1 ⊢
        omega
      generalize l[j] = xx at hgj hc hm ht hlen
      subst ea1
      obtain ⟨t1, t2⟩ := xx
      obtain ⟨A, hA⟩ : ∃ A, A = wr.alloc (.cells #[.int .i64 t1, .int .i64 t2] 32) := ⟨_, rfl⟩
      obtain ⟨Y, hY⟩ : ∃ Y, Y = wr.heap.size := ⟨_, rfl⟩
      have mY : A.heap[Y]? = some (.cells #[.int .i64 t1, .int .i64 t2] 32 (0, 0)) := by rw [hA, hY]; exact heap_alloc_new wr _
      have K := hid (ONE.out A u (xs ++ enc n ++ ((l.take j).map en).flatten) _ hm (by rw [hA]; exact hb.alloc hb.size _) (by rw [hA]; exact hk.alloc _) hlen)
      have GA : Hid (∀ (u1 : Value) (w1 : World), Grw A u w1 u1 → Grw wr u w1 u1) := hid (fun u1 w1 h => by rw [hA] at h; exact h.unalloc)
      have HB := hid hb
      have HG := hid hg
      have s0 := hc 0 (by omega)
      have s1 := hc 1 (by omega)
      simp only [tyc, List.getElem?_cons_zero, List.getElem?_cons_succ, Nat.add_zero, Nat.mul_one] at s0 s1
      have hjI : (j : Int) < (n : Int) := by omega
      have hj0 : (0 : Int) ≤ (j : Int) := by omega
      clear hk hg hb hgj hc hbl hlj hlen hm
      go_upto_region 5 with fail
      rw [← hA, ← hY]
      clear hA hY s0 s1
      have y0 := cellOf mY 0
      have y1 := cellOf mY 1
      simp only [List.getElem?_toArray, List.getElem?_cons_zero, List.getElem?_cons_succ] at y0 y1
      clear mY
      go_wp2_with (go_at_call 54; (refine (Hid.out K).mono ?_; rintro e w1 ⟨u1, rfl, hr1, hg1⟩; have HR1 := hid hr1; have HG1 := hid (GA.out u1 w1 hg1); clear hr1 hg1))
      go_roundg g
      case measure => omega
      exact ⟨j + 1, by omega, by go_num, by rw [ht.out]; exact HR1.out, HG.out.trans HG1.out⟩
set_option maxHeartbeats 2000000 in
theorem appSigs_any (w0 w : World) (v : Value) (xs : List Nat) (a : Option Addr) (n cap : Nat) (l : List (GH × Sg)) (en : GH × Sg → List Nat)
    (hw : Below w0.heap.size w0 w) (h : Row w w0.heap.size v xs) (hn : n = l.length) (hnb : n ≤ 1000000) (hr : CRd w0 a 4 (l.map (fun p => p.1.cs))) (hl : (xs ++ enc n ++ (l.map en).flatten).length ≤ 100000000)
    (one : ∀ (V : World) (u : Value) (ys : List Nat) (x : GH × Sg), x ∈ l → Below w0.heap.size w0 V → Row V w0.heap.size u ys → (ys ++ en x).length ≤ 100000000 → Calls Tryz.prog 23 #[u, .agg #[.string x.1.name, .slice x.1.pa x.1.pn x.1.pc, .int .i64 x.1.k, .int .i64 x.1.r]] V (ApP V w0.heap.size u (ys ++ en x))) :
    Calls Tryz.prog 22 #[v, .slice a n cap, .func (.func 23) #[] #[]] w (ApP w w0.heap.size v (xs ++ enc n ++ (l.map en).flatten)) := by
  have K0 := hid (putUint_any w n (by omega))
  have hnI : (n : Int) ≤ 1000000 := by omega
  have hnw : IntKind.u64.wrap (n : Int) = (n : Int) := by rw [IntKind.wrap_u64]; omega
  have HN := hid hn
  have HR := hid hr
  have HW := hid hw
  have H := hid h
  have HL := hid hl
  have ONE := hid one
  have hB : w0.heap.size ≤ w.heap.size := hw.size
  have HE := hid (enc_le n (by omega))
  have HBy := hid (enc_byt n)
  have hxl : Hid (xs.length ≤ 100000000) := hid (by simp at hl; omega)
  clear hn hr hw h hl one
  go_enter Tryz.func22, Tryz.ntmps22
  go_upto_region 2 with (first
    | (go_at_call 52; (refine (Hid.out K0).mono ?_; rintro e w1 ⟨v1, rfl, hr1, hb1⟩; have HR1 := hid hr1; have HB1 := hid hb1; clear hr1 hb1))
    | (at_builtin; refine wpList_appR _ rfl _ _ rfl _ _ (by rfl) (by rfl) w0.heap.size xs _ (H.out.below (Nat.le_refl _) HB1.out) (HR1.out.rd HBy.out) HR1.out.nilOf (Nat.le_trans hB HB1.out.size) (by have := hxl.out; omega) (by have := HE.out; omega) ?_; intro v2 w2 h1 h2; have H1 := hid h1; have H2 := hid ((Grw.ofBelow v HB1.out).trans h2); clear h1 h2))
  clear K0 HR1 HB1
  go_wp2
  go_loopg [0, 17] n (fun g u x wr => ∃ j : Nat, j + g = n ∧ x = .int .i64 (j : Int) ∧ Row wr w0.heap.size u (xs ++ enc n ++ ((l.take j).map en).flatten) ∧ Grw w v wr u)
  case atStart => exact ⟨0, by omega, rfl, by simpa using H1.out, H2.out⟩
  case round =>
    obtain ⟨j, hj, rfl, hk, hg⟩ := hrel
    obtain ⟨u, hu⟩ : ∃ u, u = u0 := ⟨_, rfl⟩
    subst hu
    have hb : Below w0.heap.size w0 wr := HW.out.trans (hg.below H.out hB)
    cases gk with
    | zero =>
      have hjn : j = n := by omega
      subst hjn
      rw [show l.take j = l from by rw [HN.out, List.take_of_length_le (Nat.le_refl _)]] at hk
      have HK := hid hk
      have HG := hid hg
      clear hk hg hb
      go_wp2
      go_ret
      exact ⟨_, rfl, HK.out, HG.out⟩
    | succ g =>
      have hlj : j < l.length := by rw [← HN.out]; omega
      have hgj : l[j]? = some l[j] := List.getElem?_eq_getElem hlj
      have hm : l[j] ∈ l := List.getElem_mem hlj
      obtain ⟨b, off, ea1, hbl, hc⟩ := (HR.out.below (Nat.le_refl _) hb) j ((fun p => p.1.cs) l[j]) (by simp [hgj])
      have ht : Hid (xs ++ enc n ++ ((l.take (j + 1)).map en).flatten = xs ++ enc n ++ ((l.take j).map en).flatten ++ en l[j]) := hid (by rw [List.take_add_one, hgj, List.map_append, List.flatten_append]; simp only [Option.toList, List.map_cons, List.map_nil, List.flatten_cons, List.flatten_nil, List.append_nil, List.append_assoc])
      have hlen : (xs ++ enc n ++ ((l.take j).map en).flatten ++ en l[j]).length ≤ 100000000 := by
        have h1 := HL.out
        have h2 : l = l.take (j + 1) ++ l.drop (j + 1) := (List.take_append_drop _ _).symm
        rw [h2, List.map_append, List.flatten_append] at h1
        rw [← ht.out]
        simp only [List.length_append] at h1 ⊢
        omega
      generalize l[j] = xx at hgj hc hm ht hlen
      subst ea1
      obtain ⟨⟨nm, pa, pn, pc, kd, rr⟩, sx⟩ := xx
      obtain ⟨A, hA⟩ : ∃ A, A = wr.alloc (.cells #[.string nm, .slice pa pn pc, .int .i64 kd, .int .i64 rr] 35) := ⟨_, rfl⟩
      obtain ⟨Y, hY⟩ : ∃ Y, Y = wr.heap.size := ⟨_, rfl⟩
      have mY : A.heap[Y]? = some (.cells #[.string nm, .slice pa pn pc, .int .i64 kd, .int .i64 rr] 35 (0, 0)) := by rw [hA, hY]; exact heap_alloc_new wr _
      have K := hid (ONE.out A u (xs ++ enc n ++ ((l.take j).map en).flatten) _ hm (by rw [hA]; exact hb.alloc hb.size _) (by rw [hA]; exact hk.alloc _) hlen)
      have GA : Hid (∀ (u1 : Value) (w1 : World), Grw A u w1 u1 → Grw wr u w1 u1) := hid (fun u1 w1 h => by rw [hA] at h; exact h.unalloc)
      have HB := hid hb
      have HG := hid hg
      have s0 := hc 0 (by omega)
      have s1 := hc 1 (by omega)
      have s2 := hc 2 (by omega)
      have s3 := hc 3 (by omega)
      simp only [GH.cs, List.getElem?_cons_zero, List.getElem?_cons_succ, Nat.add_zero, Nat.mul_one] at s0 s1 s2 s3
      have hjI : (j : Int) < (n : Int) := by omega
      have hj0 : (0 : Int) ≤ (j : Int) := by omega
      clear hk hg hb hgj hc hbl hlj hlen hm
      go_upto_region 5 with fail
      rw [← hA, ← hY]
      clear hA hY s0 s1 s2 s3
      have y0 := cellOf mY 0
      have y1 := cellOf mY 1
      have y2 := cellOf mY 2
      have y3 := cellOf mY 3
      simp only [List.getElem?_toArray, List.getElem?_cons_zero, List.getElem?_cons_succ] at y0 y1 y2 y3
      clear mY
      go_wp2_with (go_at_call 23; (refine (Hid.out K).mono ?_; rintro e w1 ⟨u1, rfl, hr1, hg1⟩; have HR1 := hid hr1; have HG1 := hid (GA.out u1 w1 hg1); clear hr1 hg1))
      go_roundg g
      case measure => omega
      exact ⟨j + 1, by omega, by go_num, by rw [ht.out]; exact HR1.out, HG.out.trans HG1.out⟩
set_option maxHeartbeats 2000000 in
theorem appMaps_any (w0 w : World) (v : Value) (xs : List Nat) (a : Option Addr) (n cap : Nat) (l : List (Mp)) (en : Mp → List Nat)
    (hw : Below w0.heap.size w0 w) (h : Row w w0.heap.size v xs) (hn : n = l.length) (hnb : n ≤ 1000000) (hr : CRd w0 a 5 (l.map Mp.cs)) (hl : (xs ++ enc n ++ (l.map en).flatten).length ≤ 100000000)
    (one : ∀ (V : World) (u : Value) (ys : List Nat) (x : Mp), x ∈ l → Below w0.heap.size w0 V → Row V w0.heap.size u ys → (ys ++ en x).length ≤ 100000000 → Calls Tryz.prog 21 #[u, .agg #[.string x.name, .int .i64 x.key.1, .int .i64 x.key.2, .int .i64 x.val.1, .int .i64 x.val.2]] V (ApP V w0.heap.size u (ys ++ en x))) :
    Calls Tryz.prog 20 #[v, .slice a n cap, .func (.func 21) #[] #[]] w (ApP w w0.heap.size v (xs ++ enc n ++ (l.map en).flatten)) := by
  have K0 := hid (putUint_any w n (by omega))
  have hnI : (n : Int) ≤ 1000000 := by omega
  have hnw : IntKind.u64.wrap (n : Int) = (n : Int) := by rw [IntKind.wrap_u64]; omega
  have HN := hid hn
  have HR := hid hr
  have HW := hid hw
  have H := hid h
  have HL := hid hl
  have ONE := hid one
  have hB : w0.heap.size ≤ w.heap.size := hw.size
  have HE := hid (enc_le n (by omega))
  have HBy := hid (enc_byt n)
  have hxl : Hid (xs.length ≤ 100000000) := hid (by simp at hl; omega)
  clear hn hr hw h hl one
  go_enter Tryz.func20, Tryz.ntmps20
  go_upto_region 2 with (first
    | (go_at_call 52; (refine (Hid.out K0).mono ?_; rintro e w1 ⟨v1, rfl, hr1, hb1⟩; have HR1 := hid hr1; have HB1 := hid hb1; clear hr1 hb1))
    | (at_builtin; refine wpList_appR _ rfl _ _ rfl _ _ (by rfl) (by rfl) w0.heap.size xs _ (H.out.below (Nat.le_refl _) HB1.out) (HR1.out.rd HBy.out) HR1.out.nilOf (Nat.le_trans hB HB1.out.size) (by have := hxl.out; omega) (by have := HE.out; omega) ?_; intro v2 w2 h1 h2; have H1 := hid h1; have H2 := hid ((Grw.ofBelow v HB1.out).trans h2); clear h1 h2))
  clear K0 HR1 HB1
  go_wp2
  go_loopg [0, 17] n (fun g u x wr => ∃ j : Nat, j + g = n ∧ x = .int .i64 (j : Int) ∧ Row wr w0.heap.size u (xs ++ enc n ++ ((l.take j).map en).flatten) ∧ Grw w v wr u)
  case atStart => exact ⟨0, by omega, rfl, by simpa using H1.out, H2.out⟩
  case round =>
    obtain ⟨j, hj, rfl, hk, hg⟩ := hrel
    obtain ⟨u, hu⟩ : ∃ u, u = u0 := ⟨_, rfl⟩
    subst hu
    have hb : Below w0.heap.size w0 wr := HW.out.trans (hg.below H.out hB)
    cases gk with
    | zero =>
      have hjn : j = n := by omega
      subst hjn
      rw [show l.take j = l from by rw [HN.out, List.take_of_length_le (Nat.le_refl _)]] at hk
      have HK := hid hk
      have HG := hid hg
      clear hk hg hb
      go_wp2
      go_ret
      exact ⟨_, rfl, HK.out, HG.out⟩
    | succ g =>
      have hlj : j < l.length := by rw [← HN.out]; omega
      have hgj : l[j]? = some l[j] := List.getElem?_eq_getElem hlj
      have hm : l[j] ∈ l := List.getElem_mem hlj
      obtain ⟨b, off, ea1, hbl, hc⟩ := (HR.out.below (Nat.le_refl _) hb) j (Mp.cs l[j]) (by simp [hgj])
      have ht : Hid (xs ++ enc n ++ ((l.take (j + 1)).map en).flatten = xs ++ enc n ++ ((l.take j).map en).flatten ++ en l[j]) := hid (by rw [List.take_add_one, hgj, List.map_append, List.flatten_append]; simp only [Option.toList, List.map_cons, List.map_nil, List.flatten_cons, List.flatten_nil, List.append_nil, List.append_assoc])
      have hlen : (xs ++ enc n ++ ((l.take j).map en).flatten ++ en l[j]).length ≤ 100000000 := by
        have h1 := HL.out
        have h2 : l = l.take (j + 1) ++ l.drop (j + 1) := (List.take_append_drop _ _).symm
        rw [h2, List.map_append, List.flatten_append] at h1
        rw [← ht.out]
        simp only [List.length_append] at h1 ⊢
        omega
      generalize l[j] = xx at hgj hc hm ht hlen
      subst ea1
      obtain ⟨nm, ⟨k1, k2⟩, ⟨v1, v2⟩⟩ := xx
      obtain ⟨A, hA⟩ : ∃ A, A = wr.alloc (.cells #[.string nm, .int .i64 k1, .int .i64 k2, .int .i64 v1, .int .i64 v2] 79) := ⟨_, rfl⟩
      obtain ⟨Y, hY⟩ : ∃ Y, Y = wr.heap.size := ⟨_, rfl⟩
      have mY : A.heap[Y]? = some (.cells #[.string nm, .int .i64 k1, .int .i64 k2, .int .i64 v1, .int .i64 v2] 79 (0, 0)) := by rw [hA, hY]; exact heap_alloc_new wr _
      have K := hid (ONE.out A u (xs ++ enc n ++ ((l.take j).map en).flatten) _ hm (by rw [hA]; exact hb.alloc hb.size _) (by rw [hA]; exact hk.alloc _) hlen)
      have GA : Hid (∀ (u1 : Value) (w1 : World), Grw A u w1 u1 → Grw wr u w1 u1) := hid (fun u1 w1 h => by rw [hA] at h; exact h.unalloc)
      have HB := hid hb
      have HG := hid hg
      have s0 := hc 0 (by omega)
      have s1 := hc 1 (by omega)
      have s2 := hc 2 (by omega)
      have s3 := hc 3 (by omega)
      have s4 := hc 4 (by omega)
      simp only [Mp.cs, List.getElem?_cons_zero, List.getElem?_cons_succ, Nat.add_zero, Nat.mul_one] at s0 s1 s2 s3 s4
      have hjI : (j : Int) < (n : Int) := by omega
      have hj0 : (0 : Int) ≤ (j : Int) := by omega
      clear hk hg hb hgj hc hbl hlj hlen hm
      go_upto_region 5 with fail
      rw [← hA, ← hY]
      clear hA hY s0 s1 s2 s3 s4
      have y0 := cellOf mY 0
      have y1 := cellOf mY 1
      have y2 := cellOf mY 2
      have y3 := cellOf mY 3
      have y4 := cellOf mY 4
      simp only [List.getElem?_toArray, List.getElem?_cons_zero, List.getElem?_cons_succ] at y0 y1 y2 y3 y4
      clear mY
      go_wp2_with (go_at_call 21; (refine (Hid.out K).mono ?_; rintro e w1 ⟨u1, rfl, hr1, hg1⟩; have HR1 := hid hr1; have HG1 := hid (GA.out u1 w1 hg1); clear hr1 hg1))
      go_roundg g
      case measure => omega
      exact ⟨j + 1, by omega, by go_num, by rw [ht.out]; exact HR1.out, HG.out.trans HG1.out⟩
set_option maxHeartbeats 2000000 in
theorem appRecords_any (w0 w : World) (v : Value) (xs : List Nat) (a : Option Addr) (n cap : Nat) (l : List (RH × Rc)) (en : RH × Rc → List Nat)
    (hw : Below w0.heap.size w0 w) (h : Row w w0.heap.size v xs) (hn : n = l.length) (hnb : n ≤ 1000000) (hr : CRd w0 a 3 (l.map (fun p => p.1.cs))) (hl : (xs ++ enc n ++ (l.map en).flatten).length ≤ 100000000)
    (one : ∀ (V : World) (u : Value) (ys : List Nat) (x : RH × Rc), x ∈ l → Below w0.heap.size w0 V → Row V w0.heap.size u ys → (ys ++ en x).length ≤ 100000000 → Calls Tryz.prog 19 #[u, .agg #[.string x.1.name, .slice x.1.fa x.1.fn x.1.fc, .slice x.1.ta x.1.tn x.1.tc]] V (ApP V w0.heap.size u (ys ++ en x))) :
    Calls Tryz.prog 18 #[v, .slice a n cap, .func (.func 19) #[] #[]] w (ApP w w0.heap.size v (xs ++ enc n ++ (l.map en).flatten)) := by
  have K0 := hid (putUint_any w n (by omega))
  have hnI : (n : Int) ≤ 1000000 := by omega
  have hnw : IntKind.u64.wrap (n : Int) = (n : Int) := by rw [IntKind.wrap_u64]; omega
  have HN := hid hn
  have HR := hid hr
  have HW := hid hw
  have H := hid h
  have HL := hid hl
  have ONE := hid one
  have hB : w0.heap.size ≤ w.heap.size := hw.size
  have HE := hid (enc_le n (by omega))
  have HBy := hid (enc_byt n)
  have hxl : Hid (xs.length ≤ 100000000) := hid (by simp at hl; omega)
  clear hn hr hw h hl one
  go_enter Tryz.func18, Tryz.ntmps18
  go_upto_region 2 with (first
    | (go_at_call 52; (refine (Hid.out K0).mono ?_; rintro e w1 ⟨v1, rfl, hr1, hb1⟩; have HR1 := hid hr1; have HB1 := hid hb1; clear hr1 hb1))
    | (at_builtin; refine wpList_appR _ rfl _ _ rfl _ _ (by rfl) (by rfl) w0.heap.size xs _ (H.out.below (Nat.le_refl _) HB1.out) (HR1.out.rd HBy.out) HR1.out.nilOf (Nat.le_trans hB HB1.out.size) (by have := hxl.out; omega) (by have := HE.out; omega) ?_; intro v2 w2 h1 h2; have H1 := hid h1; have H2 := hid ((Grw.ofBelow v HB1.out).trans h2); clear h1 h2))
  clear K0 HR1 HB1
  go_wp2
  go_loopg [0, 17] n (fun g u x wr => ∃ j : Nat, j + g = n ∧ x = .int .i64 (j : Int) ∧ Row wr w0.heap.size u (xs ++ enc n ++ ((l.take j).map en).flatten) ∧ Grw w v wr u)
  case atStart => exact ⟨0, by omega, rfl, by simpa using H1.out, H2.out⟩
  case round =>
    obtain ⟨j, hj, rfl, hk, hg⟩ := hrel
    obtain ⟨u, hu⟩ : ∃ u, u = u0 := ⟨_, rfl⟩
    subst hu
    have hb : Below w0.heap.size w0 wr := HW.out.trans (hg.below H.out hB)
    cases gk with
    | zero =>
      have hjn : j = n := by omega
      subst hjn
      rw [show l.take j = l from by rw [HN.out, List.take_of_length_le (Nat.le_refl _)]] at hk
      have HK := hid hk
      have HG := hid hg
      clear hk hg hb
      go_wp2
      go_ret
      exact ⟨_, rfl, HK.out, HG.out⟩
    | succ g =>
      have hlj : j < l.length := by rw [← HN.out]; omega
      have hgj : l[j]? = some l[j] := List.getElem?_eq_getElem hlj
      have hm : l[j] ∈ l := List.getElem_mem hlj
      obtain ⟨b, off, ea1, hbl, hc⟩ := (HR.out.below (Nat.le_refl _) hb) j ((fun p => p.1.cs) l[j]) (by simp [hgj])
      have ht : Hid (xs ++ enc n ++ ((l.take (j + 1)).map en).flatten = xs ++ enc n ++ ((l.take j).map en).flatten ++ en l[j]) := hid (by rw [List.take_add_one, hgj, List.map_append, List.flatten_append]; simp only [Option.toList, List.map_cons, List.map_nil, List.flatten_cons, List.flatten_nil, List.append_nil, List.append_assoc])
      have hlen : (xs ++ enc n ++ ((l.take j).map en).flatten ++ en l[j]).length ≤ 100000000 := by
        have h1 := HL.out
        have h2 : l = l.take (j + 1) ++ l.drop (j + 1) := (List.take_append_drop _ _).symm
        rw [h2, List.map_append, List.flatten_append] at h1
        rw [← ht.out]
        simp only [List.length_append] at h1 ⊢
        omega
      generalize l[j] = xx at hgj hc hm ht hlen
      subst ea1
      obtain ⟨⟨nm, fa, fn, fc, ta, tn, tc⟩, rx⟩ := xx
      obtain ⟨A, hA⟩ : ∃ A, A = wr.alloc (.cells #[.string nm, .slice fa fn fc, .slice ta tn tc] 75) := ⟨_, rfl⟩
      obtain ⟨Y, hY⟩ : ∃ Y, Y = wr.heap.size := ⟨_, rfl⟩
      have mY : A.heap[Y]? = some (.cells #[.string nm, .slice fa fn fc, .slice ta tn tc] 75 (0, 0)) := by rw [hA, hY]; exact heap_alloc_new wr _
      have K := hid (ONE.out A u (xs ++ enc n ++ ((l.take j).map en).flatten) _ hm (by rw [hA]; exact hb.alloc hb.size _) (by rw [hA]; exact hk.alloc _) hlen)
      have GA : Hid (∀ (u1 : Value) (w1 : World), Grw A u w1 u1 → Grw wr u w1 u1) := hid (fun u1 w1 h => by rw [hA] at h; exact h.unalloc)
      have HB := hid hb
      have HG := hid hg
      have s0 := hc 0 (by omega)
      have s1 := hc 1 (by omega)
      have s2 := hc 2 (by omega)
      simp only [RH.cs, List.getElem?_cons_zero, List.getElem?_cons_succ, Nat.add_zero, Nat.mul_one] at s0 s1 s2
      have hjI : (j : Int) < (n : Int) := by omega
      have hj0 : (0 : Int) ≤ (j : Int) := by omega
      clear hk hg hb hgj hc hbl hlj hlen hm
      go_upto_region 5 with fail
      rw [← hA, ← hY]
      clear hA hY s0 s1 s2
      have y0 := cellOf mY 0
      have y1 := cellOf mY 1
      have y2 := cellOf mY 2
      simp only [List.getElem?_toArray, List.getElem?_cons_zero, List.getElem?_cons_succ] at y0 y1 y2
      clear mY
      go_wp2_with (go_at_call 19; (refine (Hid.out K).mono ?_; rintro e w1 ⟨u1, rfl, hr1, hg1⟩; have HR1 := hid hr1; have HG1 := hid (GA.out u1 w1 hg1); clear hr1 hg1))
      go_roundg g
      case measure => omega
      exact ⟨j + 1, by omega, by go_num, by rw [ht.out]; exact HR1.out, HG.out.trans HG1.out⟩
set_option maxHeartbeats 2000000 in
theorem appOps_any (w0 w : World) (v : Value) (xs : List Nat) (a : Option Addr) (n cap : Nat) (l : List (Opx)) (en : Opx → List Nat)
    (hw : Below w0.heap.size w0 w) (h : Row w w0.heap.size v xs) (hn : n = l.length) (hnb : n ≤ 1000000) (hr : CRd w0 a 5 (l.map (fun o => o.cs.toList))) (hl : (xs ++ enc n ++ (l.map en).flatten).length ≤ 100000000)
    (one : ∀ (V : World) (u : Value) (ys : List Nat) (x : Opx), x ∈ l → Below w0.heap.size w0 V → Row V w0.heap.size u ys → (ys ++ en x).length ≤ 100000000 → Calls Tryz.prog 31 #[u, .agg #[.int .i64 x.c, .int .i64 x.d, .int .i64 x.a, .int .i64 x.b, .int .i64 x.k]] V (ApP V w0.heap.size u (ys ++ en x))) :
    Calls Tryz.prog 29 #[v, .slice a n cap, .func (.func 31) #[] #[]] w (ApP w w0.heap.size v (xs ++ enc n ++ (l.map en).flatten)) := by
  have K0 := hid (putUint_any w n (by omega))
  have hnI : (n : Int) ≤ 1000000 := by omega
  have hnw : IntKind.u64.wrap (n : Int) = (n : Int) := by rw [IntKind.wrap_u64]; omega
  have HN := hid hn
  have HR := hid hr
  have HW := hid hw
  have H := hid h
  have HL := hid hl
  have ONE := hid one
  have hB : w0.heap.size ≤ w.heap.size := hw.size
  have HE := hid (enc_le n (by omega))
  have HBy := hid (enc_byt n)
  have hxl : Hid (xs.length ≤ 100000000) := hid (by simp at hl; omega)
  clear hn hr hw h hl one
  go_enter Tryz.func29, Tryz.ntmps29
  go_upto_region 2 with (first
    | (go_at_call 52; (refine (Hid.out K0).mono ?_; rintro e w1 ⟨v1, rfl, hr1, hb1⟩; have HR1 := hid hr1; have HB1 := hid hb1; clear hr1 hb1))
    | (at_builtin; refine wpList_appR _ rfl _ _ rfl _ _ (by rfl) (by rfl) w0.heap.size xs _ (H.out.below (Nat.le_refl _) HB1.out) (HR1.out.rd HBy.out) HR1.out.nilOf (Nat.le_trans hB HB1.out.size) (by have := hxl.out; omega) (by have := HE.out; omega) ?_; intro v2 w2 h1 h2; have H1 := hid h1; have H2 := hid ((Grw.ofBelow v HB1.out).trans h2); clear h1 h2))
  clear K0 HR1 HB1
  go_wp2
  go_loopg [0, 17] n (fun g u x wr => ∃ j : Nat, j + g = n ∧ x = .int .i64 (j : Int) ∧ Row wr w0.heap.size u (xs ++ enc n ++ ((l.take j).map en).flatten) ∧ Grw w v wr u)
  case atStart => exact ⟨0, by omega, rfl, by simpa using H1.out, H2.out⟩
  case round =>
    obtain ⟨j, hj, rfl, hk, hg⟩ := hrel
    obtain ⟨u, hu⟩ : ∃ u, u = u0 := ⟨_, rfl⟩
    subst hu
    have hb : Below w0.heap.size w0 wr := HW.out.trans (hg.below H.out hB)
    cases gk with
    | zero =>
      have hjn : j = n := by omega
      subst hjn
      rw [show l.take j = l from by rw [HN.out, List.take_of_length_le (Nat.le_refl _)]] at hk
      have HK := hid hk
      have HG := hid hg
      clear hk hg hb
      go_wp2
      go_ret
      exact ⟨_, rfl, HK.out, HG.out⟩
    | succ g =>
      have hlj : j < l.length := by rw [← HN.out]; omega
      have hgj : l[j]? = some l[j] := List.getElem?_eq_getElem hlj
      have hm : l[j] ∈ l := List.getElem_mem hlj
      obtain ⟨b, off, ea1, hbl, hc⟩ := (HR.out.below (Nat.le_refl _) hb) j ((fun o => o.cs.toList) l[j]) (by simp [hgj])
      have ht : Hid (xs ++ enc n ++ ((l.take (j + 1)).map en).flatten = xs ++ enc n ++ ((l.take j).map en).flatten ++ en l[j]) := hid (by rw [List.take_add_one, hgj, List.map_append, List.flatten_append]; simp only [Option.toList, List.map_cons, List.map_nil, List.flatten_cons, List.flatten_nil, List.append_nil, List.append_assoc])
      have hlen : (xs ++ enc n ++ ((l.take j).map en).flatten ++ en l[j]).length ≤ 100000000 := by
        have h1 := HL.out
        have h2 : l = l.take (j + 1) ++ l.drop (j + 1) := (List.take_append_drop _ _).symm
        rw [h2, List.map_append, List.flatten_append] at h1
        rw [← ht.out]
        simp only [List.length_append] at h1 ⊢
        omega
      generalize l[j] = xx at hgj hc hm ht hlen
      subst ea1
      obtain ⟨oc, od, oa, ob, ok⟩ := xx
      obtain ⟨A, hA⟩ : ∃ A, A = wr.alloc (.cells #[.int .i64 oc, .int .i64 od, .int .i64 oa, .int .i64 ob, .int .i64 ok] 23) := ⟨_, rfl⟩
      obtain ⟨Y, hY⟩ : ∃ Y, Y = wr.heap.size := ⟨_, rfl⟩
      have mY : A.heap[Y]? = some (.cells #[.int .i64 oc, .int .i64 od, .int .i64 oa, .int .i64 ob, .int .i64 ok] 23 (0, 0)) := by rw [hA, hY]; exact heap_alloc_new wr _
      have K := hid (ONE.out A u (xs ++ enc n ++ ((l.take j).map en).flatten) _ hm (by rw [hA]; exact hb.alloc hb.size _) (by rw [hA]; exact hk.alloc _) hlen)
      have GA : Hid (∀ (u1 : Value) (w1 : World), Grw A u w1 u1 → Grw wr u w1 u1) := hid (fun u1 w1 h => by rw [hA] at h; exact h.unalloc)
      have HB := hid hb
      have HG := hid hg
      have s0 := hc 0 (by omega)
      have s1 := hc 1 (by omega)
      have s2 := hc 2 (by omega)
      have s3 := hc 3 (by omega)
      have s4 := hc 4 (by omega)
      simp only [Opx.cs, List.getElem?_cons_zero, List.getElem?_cons_succ, Nat.add_zero, Nat.mul_one] at s0 s1 s2 s3 s4
      have hjI : (j : Int) < (n : Int) := by omega
      have hj0 : (0 : Int) ≤ (j : Int) := by omega
      clear hk hg hb hgj hc hbl hlj hlen hm
      go_upto_region 5 with fail
      rw [← hA, ← hY]
      clear hA hY s0 s1 s2 s3 s4
      have y0 := cellOf mY 0
      have y1 := cellOf mY 1
      have y2 := cellOf mY 2
      have y3 := cellOf mY 3
      have y4 := cellOf mY 4
      simp only [List.getElem?_toArray, List.getElem?_cons_zero, List.getElem?_cons_succ] at y0 y1 y2 y3 y4
      clear mY
      go_wp2_with (go_at_call 31; (refine (Hid.out K).mono ?_; rintro e w1 ⟨u1, rfl, hr1, hg1⟩; have HR1 := hid hr1; have HG1 := hid (GA.out u1 w1 hg1); clear hr1 hg1))
      go_roundg g
      case measure => omega
      exact ⟨j + 1, by omega, by go_num, by rw [ht.out]; exact HR1.out, HG.out.trans HG1.out⟩
end Go.Proofs.YthnolocldeokeaaGreatDoor

namespace Go.Proofs.YthnolocldeokeaaGreatDoor
open Go.RowKit Go.Deep Go.Shelf
set_option linter.unusedVariables false
set_option linter.unusedSimpArgs false
set_option maxRecDepth 100000
def encTys (ts : List TyP) : List Nat := enc ts.length ++ (ts.map encTy).flatten
def encSs (ss : List ByteArray) : List Nat := enc ss.length ++ (ss.map encX).flatten
def encMp (m : Mp) : List Nat := encX m.name ++ encTy m.key ++ encTy m.val
def encSg (s : Sg) : List Nat := encX s.name ++ encTys s.params ++ encTy s.res
def encRc (r : Rc) : List Nat := encX r.name ++ encSs r.fields ++ encTys r.types
def inT (t : TyP) : Prop := inR t.1 ∧ inR t.2
theorem appTys_any (w0 w : World) (v : Value) (xs : List Nat) (a : Option Addr) (n cap : Nat) (ts : List TyP) (hw : Below w0.heap.size w0 w) (h : Row w w0.heap.size v xs) (hn : n = ts.length) (hnb : n ≤ 1000000) (hr : TRd w0 a ts) (hl : (xs ++ encTys ts).length ≤ 100000000) (hi : ∀ t ∈ ts, inT t) :
    Calls Tryz.prog 53 #[v, .slice a n cap, .func (.func 54) #[] #[]] w (ApP w w0.heap.size v (xs ++ encTys ts)) := by
  have := appTypes_any w0 w v xs a n cap ts encTy hw h hn hnb hr.crd (by rw [hn, List.append_assoc]; exact hl) (fun V u ys x hx hV hu hy => appType_any V w0.heap.size u ys x hu hV.size (by rw [List.length_append] at hy; omega) (hi x hx))
  rw [hn, List.append_assoc] at this
  rw [hn]; exact this
theorem appSs_any (w0 w : World) (v : Value) (xs : List Nat) (a : Option Addr) (n cap : Nat) (ss : List ByteArray) (hw : Below w0.heap.size w0 w) (h : Row w w0.heap.size v xs) (hn : n = ss.length) (hnb : n ≤ 1000000) (hr : SRd w0 a ss) (hl : (xs ++ encSs ss).length ≤ 100000000) (hi : ∀ s ∈ ss, s.size ≤ 1000000) :
    Calls Tryz.prog 26 #[v, .slice a n cap, .func (.func 27) #[] #[]] w (ApP w w0.heap.size v (xs ++ encSs ss)) := by
  have := appTexts_any w0 w v xs a n cap ss encX hw h hn hnb hr.crd (by rw [hn, List.append_assoc]; exact hl) (fun V u ys x hx hV hu hy => appText_any V w0.heap.size u ys x hu hV.size (by rw [List.length_append] at hy; omega) (hi x hx))
  rw [hn, List.append_assoc] at this
  rw [hn]; exact this
set_option maxHeartbeats 2000000 in
theorem appMap_x (w0 w : World) (v : Value) (xs : List Nat) (nm : ByteArray) (k1 k2 v1 v2 : Int) (hw : Below w0.heap.size w0 w) (h : Row w w0.heap.size v xs) (hl : (xs ++ (encX nm ++ encTy (k1, k2) ++ encTy (v1, v2))).length ≤ 100000000) (hnm : nm.size ≤ 1000000) (hk : inT (k1, k2)) (hv : inT (v1, v2)) :
    Calls Tryz.prog 21 #[v, .agg #[.string nm, .int .i64 k1, .int .i64 k2, .int .i64 v1, .int .i64 v2]] w (ApP w w0.heap.size v (xs ++ (encX nm ++ encTy (k1, k2) ++ encTy (v1, v2)))) := by
  obtain ⟨W0, hW0⟩ : ∃ W0, W0 = w.alloc (.cells #[.string nm, .int .i64 k1, .int .i64 k2, .int .i64 v1, .int .i64 v2] 79) := ⟨_, rfl⟩
  obtain ⟨X, hX⟩ : ∃ X, X = w.heap.size := ⟨_, rfl⟩
  have mX : W0.heap[X]? = some (.cells #[.string nm, .int .i64 k1, .int .i64 k2, .int .i64 v1, .int .i64 v2] 79 (0, 0)) := by rw [hW0, hX]; exact heap_alloc_new w _
  have r0 : Row W0 w0.heap.size v xs := by rw [hW0]; exact h.alloc _
  have bW : Below w0.heap.size w0 W0 := by rw [hW0]; exact hw.alloc hw.size _
  have hB0 : w0.heap.size ≤ W0.heap.size := bW.size
  have own : some X ≠ v.ownBlock := fun e => by have := (h.own X e.symm).2; omega
  have K1 := hid (fun (V : World) (u : Value) (hb : Below w0.heap.size w0 V) (hr : Row V w0.heap.size u (xs)) => (appText_any V w0.heap.size u (xs) nm hr hb.size (by simp only [List.length_append] at hl ⊢; omega) hnm : Calls Tryz.prog 27 #[u, .string nm] V (ApP V w0.heap.size u (xs ++ encX nm))))
  have K2 := hid (fun (V : World) (u : Value) (hb : Below w0.heap.size w0 V) (hr : Row V w0.heap.size u (xs ++ encX nm)) => (appType_any V w0.heap.size u (xs ++ encX nm) (k1, k2) hr hb.size (by simp only [List.length_append] at hl ⊢; omega) hk : Calls Tryz.prog 54 #[u, .agg #[.int .i64 k1, .int .i64 k2]] V (ApP V w0.heap.size u (xs ++ encX nm ++ encTy (k1, k2)))))
  have K3 := hid (fun (V : World) (u : Value) (hb : Below w0.heap.size w0 V) (hr : Row V w0.heap.size u (xs ++ encX nm ++ encTy (k1, k2))) => (appType_any V w0.heap.size u (xs ++ encX nm ++ encTy (k1, k2)) (v1, v2) hr hb.size (by simp only [List.length_append] at hl ⊢; omega) hv : Calls Tryz.prog 54 #[u, .agg #[.int .i64 v1, .int .i64 v2]] V (ApP V w0.heap.size u (xs ++ encX nm ++ encTy (k1, k2) ++ encTy (v1, v2)))))
  have ST : Hid (∀ (V : World) (u : Value), Grw W0 v V u → (V.cell? ⟨X, 0, none⟩ = some (.string nm) ∧ V.cell? ⟨X, 1, none⟩ = some (.int .i64 k1) ∧ V.cell? ⟨X, 2, none⟩ = some (.int .i64 k2) ∧ V.cell? ⟨X, 3, none⟩ = some (.int .i64 v1) ∧ V.cell? ⟨X, 4, none⟩ = some (.int .i64 v2)) ∧ Below w0.heap.size w0 V) := hid (fun V u hg => by
    have h2 := (hg.1.block X (lt_of_heap mX) own).trans mX
    exact ⟨⟨cellOf h2 0, cellOf h2 1, cellOf h2 2, cellOf h2 3, cellOf h2 4⟩, bW.trans (hg.below r0 hB0)⟩)
  have UN : Hid (∀ (V : World) (u : Value), Grw W0 v V u → Grw w v V u) := hid (fun V u hg => by rw [hW0] at hg; exact hg.unalloc)
  obtain ⟨⟨x0, x1, x2, x3, x4⟩, _⟩ := ST.out W0 v (Grw.refl _ _)
  have K1' := hid (K1.out W0.drew v bW.drew r0.drew)
  have HE : Hid (xs ++ (encX nm ++ encTy (k1, k2) ++ encTy (v1, v2)) = xs ++ encX nm ++ encTy (k1, k2) ++ encTy (v1, v2)) := hid (by simp [List.append_assoc])
  clear h r0 mX own hl hw bW
  clear hnm hk hv
  go_enter Tryz.func21, Tryz.ntmps21
  go_upto_region 1 with fail
  rw [← hX, ← hW0]
  clear hX hW0
  go_region_held3 (fun V => V.cell? ⟨X, 0, none⟩ = some (.string nm) ∧ V.cell? ⟨X, 1, none⟩ = some (.int .i64 k1) ∧ V.cell? ⟨X, 2, none⟩ = some (.int .i64 k2) ∧ V.cell? ⟨X, 3, none⟩ = some (.int .i64 v1) ∧ V.cell? ⟨X, 4, none⟩ = some (.int .i64 v2)) (first | exact s3 | exact s2 | exact s1 | go_keep) (first
    | (have hno := hs2; (go_at_call 54; (refine (K3.out w2 u2 (ST.out w2 u2 HG2.out).2 HR2.out).mono ?_; rintro e w3 ⟨u3, rfl, hr3, hg3⟩; have HR3 := hid hr3; have HG3 := hid (HG2.out.trans hg3); have s3 := (ST.out w3 u3 HG3.out).1; have hs3 := True.intro; clear hr3 hg3)))
    | (have hno := hs1; (go_at_call 54; (refine (K2.out w1 u1 (ST.out w1 u1 HG1.out).2 HR1.out).mono ?_; rintro e w2 ⟨u2, rfl, hr2, hg2⟩; have HR2 := hid hr2; have HG2 := hid (HG1.out.trans hg2); have s2 := (ST.out w2 u2 HG2.out).1; have hs2 := True.intro; clear hr2 hg2)))
    | (go_at_call 27; (refine (Hid.out K1').mono ?_; rintro e w1 ⟨u1, rfl, hr1, hg1⟩; have HR1 := hid hr1; have HG1 := hid hg1.undrew; have s1 := (ST.out w1 u1 HG1.out).1; have hs1 := True.intro; clear hr1 hg1)))
  go_wp2
  go_ret
  exact ⟨_, rfl, by rw [HE.out]; exact HR3.out, UN.out _ _ HG3.out⟩
set_option maxHeartbeats 2000000 in
theorem appSig_x (w0 w : World) (v : Value) (xs : List Nat) (nm : ByteArray) (pa : Option Addr) (pn pc : Nat) (ps : List TyP) (kd rr : Int) (hw : Below w0.heap.size w0 w) (h : Row w w0.heap.size v xs) (hl : (xs ++ (encX nm ++ encTys ps ++ encTy (kd, rr))).length ≤ 100000000) (hnm : nm.size ≤ 1000000) (hpn : pn = ps.length) (hpb : pn ≤ 1000000) (hpr : TRd w0 pa ps) (hpi : ∀ t ∈ ps, inT t) (hk : inT (kd, rr)) :
    Calls Tryz.prog 23 #[v, .agg #[.string nm, .slice pa pn pc, .int .i64 kd, .int .i64 rr]] w (ApP w w0.heap.size v (xs ++ (encX nm ++ encTys ps ++ encTy (kd, rr)))) := by
  obtain ⟨W0, hW0⟩ : ∃ W0, W0 = w.alloc (.cells #[.string nm, .slice pa pn pc, .int .i64 kd, .int .i64 rr] 35) := ⟨_, rfl⟩
  obtain ⟨X, hX⟩ : ∃ X, X = w.heap.size := ⟨_, rfl⟩
  have mX : W0.heap[X]? = some (.cells #[.string nm, .slice pa pn pc, .int .i64 kd, .int .i64 rr] 35 (0, 0)) := by rw [hW0, hX]; exact heap_alloc_new w _
  have r0 : Row W0 w0.heap.size v xs := by rw [hW0]; exact h.alloc _
  have bW : Below w0.heap.size w0 W0 := by rw [hW0]; exact hw.alloc hw.size _
  have hB0 : w0.heap.size ≤ W0.heap.size := bW.size
  have own : some X ≠ v.ownBlock := fun e => by have := (h.own X e.symm).2; omega
  have K1 := hid (fun (V : World) (u : Value) (hb : Below w0.heap.size w0 V) (hr : Row V w0.heap.size u (xs)) => (appText_any V w0.heap.size u (xs) nm hr hb.size (by simp only [List.length_append] at hl ⊢; omega) hnm : Calls Tryz.prog 27 #[u, .string nm] V (ApP V w0.heap.size u (xs ++ encX nm))))
  have K2 := hid (fun (V : World) (u : Value) (hb : Below w0.heap.size w0 V) (hr : Row V w0.heap.size u (xs ++ encX nm)) => (appTys_any w0 V u (xs ++ encX nm) pa pn pc ps hb hr hpn hpb hpr (by simp only [List.length_append] at hl ⊢; omega) hpi : Calls Tryz.prog 53 #[u, .slice pa pn pc, .func (.func 54) #[] #[]] V (ApP V w0.heap.size u (xs ++ encX nm ++ encTys ps))))
  have K3 := hid (fun (V : World) (u : Value) (hb : Below w0.heap.size w0 V) (hr : Row V w0.heap.size u (xs ++ encX nm ++ encTys ps)) => (appType_any V w0.heap.size u (xs ++ encX nm ++ encTys ps) (kd, rr) hr hb.size (by simp only [List.length_append] at hl ⊢; omega) hk : Calls Tryz.prog 54 #[u, .agg #[.int .i64 kd, .int .i64 rr]] V (ApP V w0.heap.size u (xs ++ encX nm ++ encTys ps ++ encTy (kd, rr)))))
  have ST : Hid (∀ (V : World) (u : Value), Grw W0 v V u → (V.cell? ⟨X, 0, none⟩ = some (.string nm) ∧ V.cell? ⟨X, 1, none⟩ = some (.slice pa pn pc) ∧ V.cell? ⟨X, 2, none⟩ = some (.int .i64 kd) ∧ V.cell? ⟨X, 3, none⟩ = some (.int .i64 rr)) ∧ Below w0.heap.size w0 V) := hid (fun V u hg => by
    have h2 := (hg.1.block X (lt_of_heap mX) own).trans mX
    exact ⟨⟨cellOf h2 0, cellOf h2 1, cellOf h2 2, cellOf h2 3⟩, bW.trans (hg.below r0 hB0)⟩)
  have UN : Hid (∀ (V : World) (u : Value), Grw W0 v V u → Grw w v V u) := hid (fun V u hg => by rw [hW0] at hg; exact hg.unalloc)
  obtain ⟨⟨x0, x1, x2, x3⟩, _⟩ := ST.out W0 v (Grw.refl _ _)
  have K1' := hid (K1.out W0.drew v bW.drew r0.drew)
  have HE : Hid (xs ++ (encX nm ++ encTys ps ++ encTy (kd, rr)) = xs ++ encX nm ++ encTys ps ++ encTy (kd, rr)) := hid (by simp [List.append_assoc])
  clear h r0 mX own hl hw bW
  clear hnm hpn hpr hpi hk hpb
  go_enter Tryz.func23, Tryz.ntmps23
  go_upto_region 1 with fail
  rw [← hX, ← hW0]
  clear hX hW0
  go_region_held3 (fun V => V.cell? ⟨X, 0, none⟩ = some (.string nm) ∧ V.cell? ⟨X, 1, none⟩ = some (.slice pa pn pc) ∧ V.cell? ⟨X, 2, none⟩ = some (.int .i64 kd) ∧ V.cell? ⟨X, 3, none⟩ = some (.int .i64 rr)) (first | exact s3 | exact s2 | exact s1 | go_keep) (first
    | (have hno := hs2; (go_at_call 54; (refine (K3.out w2 u2 (ST.out w2 u2 HG2.out).2 HR2.out).mono ?_; rintro e w3 ⟨u3, rfl, hr3, hg3⟩; have HR3 := hid hr3; have HG3 := hid (HG2.out.trans hg3); have s3 := (ST.out w3 u3 HG3.out).1; have hs3 := True.intro; clear hr3 hg3)))
    | (have hno := hs1; (go_at_call 53; (refine (K2.out w1 u1 (ST.out w1 u1 HG1.out).2 HR1.out).mono ?_; rintro e w2 ⟨u2, rfl, hr2, hg2⟩; have HR2 := hid hr2; have HG2 := hid (HG1.out.trans hg2); have s2 := (ST.out w2 u2 HG2.out).1; have hs2 := True.intro; clear hr2 hg2)))
    | (go_at_call 27; (refine (Hid.out K1').mono ?_; rintro e w1 ⟨u1, rfl, hr1, hg1⟩; have HR1 := hid hr1; have HG1 := hid hg1.undrew; have s1 := (ST.out w1 u1 HG1.out).1; have hs1 := True.intro; clear hr1 hg1)))
  go_wp2
  go_ret
  exact ⟨_, rfl, by rw [HE.out]; exact HR3.out, UN.out _ _ HG3.out⟩
set_option maxHeartbeats 2000000 in
theorem appRecord_x (w0 w : World) (v : Value) (xs : List Nat) (nm : ByteArray) (fa : Option Addr) (fn fc : Nat) (fs : List ByteArray) (ta : Option Addr) (tn tc : Nat) (ts : List TyP) (hw : Below w0.heap.size w0 w) (h : Row w w0.heap.size v xs) (hl : (xs ++ (encX nm ++ encSs fs ++ encTys ts)).length ≤ 100000000) (hnm : nm.size ≤ 1000000) (hfn : fn = fs.length) (hfb : fn ≤ 1000000) (hfr : SRd w0 fa fs) (hfs : ∀ s ∈ fs, s.size ≤ 1000000) (htn : tn = ts.length) (htb : tn ≤ 1000000) (htr : TRd w0 ta ts) (hti : ∀ t ∈ ts, inT t) :
    Calls Tryz.prog 19 #[v, .agg #[.string nm, .slice fa fn fc, .slice ta tn tc]] w (ApP w w0.heap.size v (xs ++ (encX nm ++ encSs fs ++ encTys ts))) := by
  obtain ⟨W0, hW0⟩ : ∃ W0, W0 = w.alloc (.cells #[.string nm, .slice fa fn fc, .slice ta tn tc] 75) := ⟨_, rfl⟩
  obtain ⟨X, hX⟩ : ∃ X, X = w.heap.size := ⟨_, rfl⟩
  have mX : W0.heap[X]? = some (.cells #[.string nm, .slice fa fn fc, .slice ta tn tc] 75 (0, 0)) := by rw [hW0, hX]; exact heap_alloc_new w _
  have r0 : Row W0 w0.heap.size v xs := by rw [hW0]; exact h.alloc _
  have bW : Below w0.heap.size w0 W0 := by rw [hW0]; exact hw.alloc hw.size _
  have hB0 : w0.heap.size ≤ W0.heap.size := bW.size
  have own : some X ≠ v.ownBlock := fun e => by have := (h.own X e.symm).2; omega
  have K1 := hid (fun (V : World) (u : Value) (hb : Below w0.heap.size w0 V) (hr : Row V w0.heap.size u (xs)) => (appText_any V w0.heap.size u (xs) nm hr hb.size (by simp only [List.length_append] at hl ⊢; omega) hnm : Calls Tryz.prog 27 #[u, .string nm] V (ApP V w0.heap.size u (xs ++ encX nm))))
  have K2 := hid (fun (V : World) (u : Value) (hb : Below w0.heap.size w0 V) (hr : Row V w0.heap.size u (xs ++ encX nm)) => (appSs_any w0 V u (xs ++ encX nm) fa fn fc fs hb hr hfn hfb hfr (by simp only [List.length_append] at hl ⊢; omega) hfs : Calls Tryz.prog 26 #[u, .slice fa fn fc, .func (.func 27) #[] #[]] V (ApP V w0.heap.size u (xs ++ encX nm ++ encSs fs))))
  have K3 := hid (fun (V : World) (u : Value) (hb : Below w0.heap.size w0 V) (hr : Row V w0.heap.size u (xs ++ encX nm ++ encSs fs)) => (appTys_any w0 V u (xs ++ encX nm ++ encSs fs) ta tn tc ts hb hr htn htb htr (by simp only [List.length_append] at hl ⊢; omega) hti : Calls Tryz.prog 53 #[u, .slice ta tn tc, .func (.func 54) #[] #[]] V (ApP V w0.heap.size u (xs ++ encX nm ++ encSs fs ++ encTys ts))))
  have ST : Hid (∀ (V : World) (u : Value), Grw W0 v V u → (V.cell? ⟨X, 0, none⟩ = some (.string nm) ∧ V.cell? ⟨X, 1, none⟩ = some (.slice fa fn fc) ∧ V.cell? ⟨X, 2, none⟩ = some (.slice ta tn tc)) ∧ Below w0.heap.size w0 V) := hid (fun V u hg => by
    have h2 := (hg.1.block X (lt_of_heap mX) own).trans mX
    exact ⟨⟨cellOf h2 0, cellOf h2 1, cellOf h2 2⟩, bW.trans (hg.below r0 hB0)⟩)
  have UN : Hid (∀ (V : World) (u : Value), Grw W0 v V u → Grw w v V u) := hid (fun V u hg => by rw [hW0] at hg; exact hg.unalloc)
  obtain ⟨⟨x0, x1, x2⟩, _⟩ := ST.out W0 v (Grw.refl _ _)
  have K1' := hid (K1.out W0.drew v bW.drew r0.drew)
  have HE : Hid (xs ++ (encX nm ++ encSs fs ++ encTys ts) = xs ++ encX nm ++ encSs fs ++ encTys ts) := hid (by simp [List.append_assoc])
  clear h r0 mX own hl hw bW
  clear hnm hfn hfb hfr hfs htn htb htr hti
  go_enter Tryz.func19, Tryz.ntmps19
  go_upto_region 1 with fail
  rw [← hX, ← hW0]
  clear hX hW0
  go_region_held3 (fun V => V.cell? ⟨X, 0, none⟩ = some (.string nm) ∧ V.cell? ⟨X, 1, none⟩ = some (.slice fa fn fc) ∧ V.cell? ⟨X, 2, none⟩ = some (.slice ta tn tc)) (first | exact s2 | exact s1 | go_keep) (first
    | (have hno := hs1; (go_at_call 26; (refine (K2.out w1 u1 (ST.out w1 u1 HG1.out).2 HR1.out).mono ?_; rintro e w2 ⟨u2, rfl, hr2, hg2⟩; have HR2 := hid hr2; have HG2 := hid (HG1.out.trans hg2); have s2 := (ST.out w2 u2 HG2.out).1; have hs2 := True.intro; clear hr2 hg2)))
    | (go_at_call 27; (refine (Hid.out K1').mono ?_; rintro e w1 ⟨u1, rfl, hr1, hg1⟩; have HR1 := hid hr1; have HG1 := hid hg1.undrew; have s1 := (ST.out w1 u1 HG1.out).1; have hs1 := True.intro; clear hr1 hg1)))
  obtain ⟨z0, z1, z2⟩ := s2
  go_wp2_with (first
    | (have hno := hs2; (go_at_call 53; (refine (K3.out w2 u2 (ST.out w2 u2 HG2.out).2 HR2.out).mono ?_; rintro e w3 ⟨u3, rfl, hr3, hg3⟩; have HR3 := hid hr3; have HG3 := hid (HG2.out.trans hg3); have s3 := (ST.out w3 u3 HG3.out).1; have hs3 := True.intro; clear hr3 hg3))))
  go_ret
  exact ⟨_, rfl, by rw [HE.out]; exact HR3.out, UN.out _ _ HG3.out⟩
end Go.Proofs.YthnolocldeokeaaGreatDoor

