/- appendList's instances. -/
import Derived.Test.YthnolocldeokeaaGreatJAE
namespace Go.Proofs.YthnolocldeokeaaGreat
open Go.RowKit Go.Deep Go.Shelf
set_option linter.unusedVariables false
set_option linter.unusedSimpArgs false
set_option maxRecDepth 100000
theorem SRd.crd {w : World} {a : Option Addr} {ss : List ByteArray} (h : SRd w a ss) : CRd w a 1 (ss.map stc) := fun j r e => by
  rw [List.getElem?_map] at e
  obtain ⟨s, hs, rfl⟩ := Option.map_eq_some_iff.1 e
  obtain ⟨_, b, off, e1, hc⟩ := h j s hs
  refine ⟨b, off, e1, World.block_lt_of_cell? w _ hc, fun i hi => ?_⟩
  obtain rfl : i = 0 := by omega
  rw [Nat.mul_one]; exact hc
set_option maxHeartbeats 2000000 in
theorem appTexts_any (w0 w : World) (v : Value) (xs : List Nat) (a : Option Addr) (n cap : Nat) (l : List (ByteArray)) (en : ByteArray → List Nat)
    (hw : Below w0.heap.size w0 w) (h : Row w w0.heap.size v xs) (hn : n = l.length) (hnb : n ≤ 1000000) (hr : CRd w0 a 1 (l.map stc)) (hl : (xs ++ enc n ++ (l.map en).flatten).length ≤ 100000000)
    (one : ∀ (V : World) (u : Value) (ys : List Nat) (x : ByteArray), x ∈ l → Below w0.heap.size w0 V → Row V w0.heap.size u ys → (ys ++ en x).length ≤ 100000000 → Calls Tryz.prog 29 #[u, .string x] V (ApP V w0.heap.size u (ys ++ en x))) :
    Calls Tryz.prog 28 #[v, .slice a n cap, .func (.func 29) #[] #[]] w (ApP w w0.heap.size v (xs ++ enc n ++ (l.map en).flatten)) := by
  have K0 := hid (putUint_any w n (by omega))
  have hnI : (n : Int) ≤ 1000000 := by omega
  have hnw : IntKind.u64.wrap (n : Int) = (n : Int) := by rw [IntKind.wrap_u64]; omega
  have HN := hid hn
  have HR := hid hr
  have HW := hid hw
  have H := hid h
  have HL := hid hl
  have ONE := hid one
  have hB : w0.heap.size ≤ w.heap.size := hw.size
  have HE := hid (enc_le n (by omega))
  have HBy := hid (enc_byt n)
  have hxl : Hid (xs.length ≤ 100000000) := hid (by simp at hl; omega)
  clear hn hr hw h hl one
  go_enter Tryz.func28, Tryz.ntmps28
  go_upto_region 2 with (first
    | (go_at_call 60; (refine (Hid.out K0).mono ?_; rintro e w1 ⟨v1, rfl, hr1, hb1⟩; have HR1 := hid hr1; have HB1 := hid hb1; clear hr1 hb1))
    | (at_builtin; refine wpList_appR _ rfl _ _ rfl _ _ (by rfl) (by rfl) w0.heap.size xs _ (H.out.below (Nat.le_refl _) HB1.out) (HR1.out.rd HBy.out) HR1.out.nilOf (Nat.le_trans hB HB1.out.size) (by have := hxl.out; omega) (by have := HE.out; omega) ?_; intro v2 w2 h1 h2; have H1 := hid h1; have H2 := hid ((Grw.ofBelow v HB1.out).trans h2); clear h1 h2))
  clear K0 HR1 HB1
  go_wp2
  go_loopg [0, 17] n (fun g u x wr => ∃ j : Nat, j + g = n ∧ x = .int .i64 (j : Int) ∧ Row wr w0.heap.size u (xs ++ enc n ++ ((l.take j).map en).flatten) ∧ Grw w v wr u)
  case atStart => exact ⟨0, by omega, rfl, by simpa using H1.out, H2.out⟩
  case round =>
    obtain ⟨j, hj, rfl, hk, hg⟩ := hrel
    obtain ⟨u, hu⟩ : ∃ u, u = u0 := ⟨_, rfl⟩
    subst hu
    have hb : Below w0.heap.size w0 wr := HW.out.trans (hg.below H.out hB)
    cases gk with
    | zero =>
      have hjn : j = n := by omega
      subst hjn
      rw [show l.take j = l from by rw [HN.out, List.take_of_length_le (Nat.le_refl _)]] at hk
      have HK := hid hk
      have HG := hid hg
      clear hk hg hb
      go_wp2
      go_ret
      exact ⟨_, rfl, HK.out, HG.out⟩
    | succ g =>
      have hlj : j < l.length := by rw [← HN.out]; omega
      have hgj : l[j]? = some l[j] := List.getElem?_eq_getElem hlj
      have hm : l[j] ∈ l := List.getElem_mem hlj
      obtain ⟨b, off, ea1, hbl, hc⟩ := (HR.out.below (Nat.le_refl _) hb) j (stc l[j]) (by simp [hgj])
      have ht : Hid (xs ++ enc n ++ ((l.take (j + 1)).map en).flatten = xs ++ enc n ++ ((l.take j).map en).flatten ++ en l[j]) := hid (by rw [List.take_add_one, hgj, List.map_append, List.flatten_append]; simp only [Option.toList, List.map_cons, List.map_nil, List.flatten_cons, List.flatten_nil, List.append_nil, List.append_assoc])
      have hlen : (xs ++ enc n ++ ((l.take j).map en).flatten ++ en l[j]).length ≤ 100000000 := by
        have h1 := HL.out
        have h2 : l = l.take (j + 1) ++ l.drop (j + 1) := (List.take_append_drop _ _).symm
        rw [h2, List.map_append, List.flatten_append] at h1
        rw [← ht.out]
        simp only [List.length_append] at h1 ⊢
        omega
      generalize l[j] = xx at hgj hc hm ht hlen
      subst ea1
      obtain ⟨xd⟩ := xx
      have K := hid (ONE.out wr u (xs ++ enc n ++ ((l.take j).map en).flatten) _ hm hb hk hlen)
      have HB := hid hb
      have HG := hid hg
      have s0 := hc 0 (by omega)
      simp only [stc, List.getElem?_cons_zero, List.getElem?_cons_succ, Nat.add_zero, Nat.mul_one] at s0
      have hjI : (j : Int) < (n : Int) := by omega
      have hj0 : (0 : Int) ≤ (j : Int) := by omega
      clear hk hg hb hgj hc hbl hlj hlen hm
      go_wp2_with (go_at_call 29; (refine (Hid.out K).mono ?_; rintro e w1 ⟨u1, rfl, hr1, hg1⟩; have HR1 := hid hr1; have HG1 := hid hg1; clear hr1 hg1))
      go_roundg g
      case measure => omega
      exact ⟨j + 1, by omega, by go_num, by rw [ht.out]; exact HR1.out, HG.out.trans HG1.out⟩
set_option maxHeartbeats 2000000 in
theorem appInts_any (w0 w : World) (v : Value) (xs : List Nat) (a : Option Addr) (n cap : Nat) (l : List (Int)) (en : Int → List Nat)
    (hw : Below w0.heap.size w0 w) (h : Row w w0.heap.size v xs) (hn : n = l.length) (hnb : n ≤ 1000000) (hr : CRd w0 a 1 (l.map inc)) (hl : (xs ++ enc n ++ (l.map en).flatten).length ≤ 100000000)
    (one : ∀ (V : World) (u : Value) (ys : List Nat) (x : Int), x ∈ l → Below w0.heap.size w0 V → Row V w0.heap.size u ys → (ys ++ en x).length ≤ 100000000 → Calls Tryz.prog 27 #[u, .int .i64 x] V (ApP V w0.heap.size u (ys ++ en x))) :
    Calls Tryz.prog 26 #[v, .slice a n cap, .func (.func 27) #[] #[]] w (ApP w w0.heap.size v (xs ++ enc n ++ (l.map en).flatten)) := by
  have K0 := hid (putUint_any w n (by omega))
  have hnI : (n : Int) ≤ 1000000 := by omega
  have hnw : IntKind.u64.wrap (n : Int) = (n : Int) := by rw [IntKind.wrap_u64]; omega
  have HN := hid hn
  have HR := hid hr
  have HW := hid hw
  have H := hid h
  have HL := hid hl
  have ONE := hid one
  have hB : w0.heap.size ≤ w.heap.size := hw.size
  have HE := hid (enc_le n (by omega))
  have HBy := hid (enc_byt n)
  have hxl : Hid (xs.length ≤ 100000000) := hid (by simp at hl; omega)
  clear hn hr hw h hl one
  go_enter Tryz.func26, Tryz.ntmps26
  go_upto_region 2 with (first
    | (go_at_call 60; (refine (Hid.out K0).mono ?_; rintro e w1 ⟨v1, rfl, hr1, hb1⟩; have HR1 := hid hr1; have HB1 := hid hb1; clear hr1 hb1))
    | (at_builtin; refine wpList_appR _ rfl _ _ rfl _ _ (by rfl) (by rfl) w0.heap.size xs _ (H.out.below (Nat.le_refl _) HB1.out) (HR1.out.rd HBy.out) HR1.out.nilOf (Nat.le_trans hB HB1.out.size) (by have := hxl.out; omega) (by have := HE.out; omega) ?_; intro v2 w2 h1 h2; have H1 := hid h1; have H2 := hid ((Grw.ofBelow v HB1.out).trans h2); clear h1 h2))
  clear K0 HR1 HB1
  go_wp2
  go_loopg [0, 17] n (fun g u x wr => ∃ j : Nat, j + g = n ∧ x = .int .i64 (j : Int) ∧ Row wr w0.heap.size u (xs ++ enc n ++ ((l.take j).map en).flatten) ∧ Grw w v wr u)
  case atStart => exact ⟨0, by omega, rfl, by simpa using H1.out, H2.out⟩
  case round =>
    obtain ⟨j, hj, rfl, hk, hg⟩ := hrel
    obtain ⟨u, hu⟩ : ∃ u, u = u0 := ⟨_, rfl⟩
    subst hu
    have hb : Below w0.heap.size w0 wr := HW.out.trans (hg.below H.out hB)
    cases gk with
    | zero =>
      have hjn : j = n := by omega
      subst hjn
      rw [show l.take j = l from by rw [HN.out, List.take_of_length_le (Nat.le_refl _)]] at hk
      have HK := hid hk
      have HG := hid hg
      clear hk hg hb
      go_wp2
      go_ret
      exact ⟨_, rfl, HK.out, HG.out⟩
    | succ g =>
      have hlj : j < l.length := by rw [← HN.out]; omega
      have hgj : l[j]? = some l[j] := List.getElem?_eq_getElem hlj
      have hm : l[j] ∈ l := List.getElem_mem hlj
      obtain ⟨b, off, ea1, hbl, hc⟩ := (HR.out.below (Nat.le_refl _) hb) j (inc l[j]) (by simp [hgj])
      have ht : Hid (xs ++ enc n ++ ((l.take (j + 1)).map en).flatten = xs ++ enc n ++ ((l.take j).map en).flatten ++ en l[j]) := hid (by rw [List.take_add_one, hgj, List.map_append, List.flatten_append]; simp only [Option.toList, List.map_cons, List.map_nil, List.flatten_cons, List.flatten_nil, List.append_nil, List.append_assoc])
      have hlen : (xs ++ enc n ++ ((l.take j).map en).flatten ++ en l[j]).length ≤ 100000000 := by
        have h1 := HL.out
        have h2 : l = l.take (j + 1) ++ l.drop (j + 1) := (List.take_append_drop _ _).symm
        rw [h2, List.map_append, List.flatten_append] at h1
        rw [← ht.out]
        simp only [List.length_append] at h1 ⊢
        omega
      generalize l[j] = xx at hgj hc hm ht hlen
      subst ea1
      have K := hid (ONE.out wr u (xs ++ enc n ++ ((l.take j).map en).flatten) _ hm hb hk hlen)
      have HB := hid hb
      have HG := hid hg
      have s0 := hc 0 (by omega)
      simp only [inc, List.getElem?_cons_zero, List.getElem?_cons_succ, Nat.add_zero, Nat.mul_one] at s0
      have hjI : (j : Int) < (n : Int) := by omega
      have hj0 : (0 : Int) ≤ (j : Int) := by omega
      clear hk hg hb hgj hc hbl hlj hlen hm
      go_wp2_with (go_at_call 27; (refine (Hid.out K).mono ?_; rintro e w1 ⟨u1, rfl, hr1, hg1⟩; have HR1 := hid hr1; have HG1 := hid hg1; clear hr1 hg1))
      go_roundg g
      case measure => omega
      exact ⟨j + 1, by omega, by go_num, by rw [ht.out]; exact HR1.out, HG.out.trans HG1.out⟩
set_option maxHeartbeats 2000000 in
theorem appTypes_any (w0 w : World) (v : Value) (xs : List Nat) (a : Option Addr) (n cap : Nat) (l : List (TyP)) (en : TyP → List Nat)
    (hw : Below w0.heap.size w0 w) (h : Row w w0.heap.size v xs) (hn : n = l.length) (hnb : n ≤ 1000000) (hr : CRd w0 a 2 (l.map tyc)) (hl : (xs ++ enc n ++ (l.map en).flatten).length ≤ 100000000)
    (one : ∀ (V : World) (u : Value) (ys : List Nat) (x : TyP), x ∈ l → Below w0.heap.size w0 V → Row V w0.heap.size u ys → (ys ++ en x).length ≤ 100000000 → Calls Tryz.prog 62 #[u, .agg #[.int .i64 x.1, .int .i64 x.2]] V (ApP V w0.heap.size u (ys ++ en x))) :
    Calls Tryz.prog 61 #[v, .slice a n cap, .func (.func 62) #[] #[]] w (ApP w w0.heap.size v (xs ++ enc n ++ (l.map en).flatten)) := by
  have K0 := hid (putUint_any w n (by omega))
  have hnI : (n : Int) ≤ 1000000 := by omega
  have hnw : IntKind.u64.wrap (n : Int) = (n : Int) := by rw [IntKind.wrap_u64]; omega
  have HN := hid hn
  have HR := hid hr
  have HW := hid hw
  have H := hid h
  have HL := hid hl
  have ONE := hid one
  have hB : w0.heap.size ≤ w.heap.size := hw.size
  have HE := hid (enc_le n (by omega))
  have HBy := hid (enc_byt n)
  have hxl : Hid (xs.length ≤ 100000000) := hid (by simp at hl; omega)
  clear hn hr hw h hl one
  go_enter Tryz.func61, Tryz.ntmps61
  go_upto_region 2 with (first
    | (go_at_call 60; (refine (Hid.out K0).mono ?_; rintro e w1 ⟨v1, rfl, hr1, hb1⟩; have HR1 := hid hr1; have HB1 := hid hb1; clear hr1 hb1))
    | (at_builtin; refine wpList_appR _ rfl _ _ rfl _ _ (by rfl) (by rfl) w0.heap.size xs _ (H.out.below (Nat.le_refl _) HB1.out) (HR1.out.rd HBy.out) HR1.out.nilOf (Nat.le_trans hB HB1.out.size) (by have := hxl.out; omega) (by have := HE.out; omega) ?_; intro v2 w2 h1 h2; have H1 := hid h1; have H2 := hid ((Grw.ofBelow v HB1.out).trans h2); clear h1 h2))
  clear K0 HR1 HB1
  go_wp2
  go_loopg [0, 17] n (fun g u x wr => ∃ j : Nat, j + g = n ∧ x = .int .i64 (j : Int) ∧ Row wr w0.heap.size u (xs ++ enc n ++ ((l.take j).map en).flatten) ∧ Grw w v wr u)
  case atStart => exact ⟨0, by omega, rfl, by simpa using H1.out, H2.out⟩
  case round =>
    obtain ⟨j, hj, rfl, hk, hg⟩ := hrel
    obtain ⟨u, hu⟩ : ∃ u, u = u0 := ⟨_, rfl⟩
    subst hu
    have hb : Below w0.heap.size w0 wr := HW.out.trans (hg.below H.out hB)
    cases gk with
    | zero =>
      have hjn : j = n := by omega
      subst hjn
      rw [show l.take j = l from by rw [HN.out, List.take_of_length_le (Nat.le_refl _)]] at hk
      have HK := hid hk
      have HG := hid hg
      clear hk hg hb
      go_wp2
      go_ret
      exact ⟨_, rfl, HK.out, HG.out⟩
    | succ g =>
      have hlj : j < l.length := by rw [← HN.out]; omega
      have hgj : l[j]? = some l[j] := List.getElem?_eq_getElem hlj
      have hm : l[j] ∈ l := List.getElem_mem hlj
      obtain ⟨b, off, ea1, hbl, hc⟩ := (HR.out.below (Nat.le_refl _) hb) j (tyc l[j]) (by simp [hgj])
      have ht : Hid (xs ++ enc n ++ ((l.take (j + 1)).map en).flatten = xs ++ enc n ++ ((l.take j).map en).flatten ++ en l[j]) := hid (by rw [List.take_add_one, hgj, List.map_append, List.flatten_append]; simp only [Option.toList, List.map_cons, List.map_nil, List.flatten_cons, List.flatten_nil, List.append_nil, List.append_assoc])
      have hlen : (xs ++ enc n ++ ((l.take j).map en).flatten ++ en l[j]).length ≤ 100000000 := by
        have h1 := HL.out
        have h2 : l = l.take (j + 1) ++ l.drop (j + 1) := (List.take_append_drop _ _).symm
        rw [h2, List.map_append, List.flatten_append] at h1
        rw [← ht.out]
        simp only [List.length_append] at h1 ⊢
        omega
      generalize l[j] = xx at hgj hc hm ht hlen
      subst ea1
      obtain ⟨t1, t2⟩ := xx
      obtain ⟨A, hA⟩ : ∃ A, A = wr.alloc (.cells #[.int .i64 t1, .int .i64 t2] 46) := ⟨_, rfl⟩
      obtain ⟨Y, hY⟩ : ∃ Y, Y = wr.heap.size := ⟨_, rfl⟩
      have mY : A.heap[Y]? = some (.cells #[.int .i64 t1, .int .i64 t2] 46 (0, 0)) := by rw [hA, hY]; exact heap_alloc_new wr _
      have K := hid (ONE.out A u (xs ++ enc n ++ ((l.take j).map en).flatten) _ hm (by rw [hA]; exact hb.alloc hb.size _) (by rw [hA]; exact hk.alloc _) hlen)
      have GA : Hid (∀ (u1 : Value) (w1 : World), Grw A u w1 u1 → Grw wr u w1 u1) := hid (fun u1 w1 h => by rw [hA] at h; exact h.unalloc)
      have HB := hid hb
      have HG := hid hg
      have s0 := hc 0 (by omega)
      have s1 := hc 1 (by omega)
      simp only [tyc, List.getElem?_cons_zero, List.getElem?_cons_succ, Nat.add_zero, Nat.mul_one] at s0 s1
      have hjI : (j : Int) < (n : Int) := by omega
      have hj0 : (0 : Int) ≤ (j : Int) := by omega
      clear hk hg hb hgj hc hbl hlj hlen hm
      go_upto_region 5 with fail
      rw [← hA, ← hY]
      clear hA hY s0 s1
      have y0 := cellOf mY 0
      have y1 := cellOf mY 1
      simp only [List.getElem?_toArray, List.getElem?_cons_zero, List.getElem?_cons_succ] at y0 y1
      clear mY
      go_wp2_with (go_at_call 62; (refine (Hid.out K).mono ?_; rintro e w1 ⟨u1, rfl, hr1, hg1⟩; have HR1 := hid hr1; have HG1 := hid (GA.out u1 w1 hg1); clear hr1 hg1))
      go_roundg g
      case measure => omega
      exact ⟨j + 1, by omega, by go_num, by rw [ht.out]; exact HR1.out, HG.out.trans HG1.out⟩
set_option maxHeartbeats 2000000 in
theorem appSigs_any (w0 w : World) (v : Value) (xs : List Nat) (a : Option Addr) (n cap : Nat) (l : List (GH × Sg)) (en : GH × Sg → List Nat)
    (hw : Below w0.heap.size w0 w) (h : Row w w0.heap.size v xs) (hn : n = l.length) (hnb : n ≤ 1000000) (hr : CRd w0 a 4 (l.map (fun p => p.1.cs))) (hl : (xs ++ enc n ++ (l.map en).flatten).length ≤ 100000000)
    (one : ∀ (V : World) (u : Value) (ys : List Nat) (x : GH × Sg), x ∈ l → Below w0.heap.size w0 V → Row V w0.heap.size u ys → (ys ++ en x).length ≤ 100000000 → Calls Tryz.prog 25 #[u, .agg #[.string x.1.name, .slice x.1.pa x.1.pn x.1.pc, .int .i64 x.1.k, .int .i64 x.1.r]] V (ApP V w0.heap.size u (ys ++ en x))) :
    Calls Tryz.prog 24 #[v, .slice a n cap, .func (.func 25) #[] #[]] w (ApP w w0.heap.size v (xs ++ enc n ++ (l.map en).flatten)) := by
  have K0 := hid (putUint_any w n (by omega))
  have hnI : (n : Int) ≤ 1000000 := by omega
  have hnw : IntKind.u64.wrap (n : Int) = (n : Int) := by rw [IntKind.wrap_u64]; omega
  have HN := hid hn
  have HR := hid hr
  have HW := hid hw
  have H := hid h
  have HL := hid hl
  have ONE := hid one
  have hB : w0.heap.size ≤ w.heap.size := hw.size
  have HE := hid (enc_le n (by omega))
  have HBy := hid (enc_byt n)
  have hxl : Hid (xs.length ≤ 100000000) := hid (by simp at hl; omega)
  clear hn hr hw h hl one
  go_enter Tryz.func24, Tryz.ntmps24
  go_upto_region 2 with (first
    | (go_at_call 60; (refine (Hid.out K0).mono ?_; rintro e w1 ⟨v1, rfl, hr1, hb1⟩; have HR1 := hid hr1; have HB1 := hid hb1; clear hr1 hb1))
    | (at_builtin; refine wpList_appR _ rfl _ _ rfl _ _ (by rfl) (by rfl) w0.heap.size xs _ (H.out.below (Nat.le_refl _) HB1.out) (HR1.out.rd HBy.out) HR1.out.nilOf (Nat.le_trans hB HB1.out.size) (by have := hxl.out; omega) (by have := HE.out; omega) ?_; intro v2 w2 h1 h2; have H1 := hid h1; have H2 := hid ((Grw.ofBelow v HB1.out).trans h2); clear h1 h2))
  clear K0 HR1 HB1
  go_wp2
  go_loopg [0, 17] n (fun g u x wr => ∃ j : Nat, j + g = n ∧ x = .int .i64 (j : Int) ∧ Row wr w0.heap.size u (xs ++ enc n ++ ((l.take j).map en).flatten) ∧ Grw w v wr u)
  case atStart => exact ⟨0, by omega, rfl, by simpa using H1.out, H2.out⟩
  case round =>
    obtain ⟨j, hj, rfl, hk, hg⟩ := hrel
    obtain ⟨u, hu⟩ : ∃ u, u = u0 := ⟨_, rfl⟩
    subst hu
    have hb : Below w0.heap.size w0 wr := HW.out.trans (hg.below H.out hB)
    cases gk with
    | zero =>
      have hjn : j = n := by omega
      subst hjn
      rw [show l.take j = l from by rw [HN.out, List.take_of_length_le (Nat.le_refl _)]] at hk
      have HK := hid hk
      have HG := hid hg
      clear hk hg hb
      go_wp2
      go_ret
      exact ⟨_, rfl, HK.out, HG.out⟩
    | succ g =>
      have hlj : j < l.length := by rw [← HN.out]; omega
      have hgj : l[j]? = some l[j] := List.getElem?_eq_getElem hlj
      have hm : l[j] ∈ l := List.getElem_mem hlj
      obtain ⟨b, off, ea1, hbl, hc⟩ := (HR.out.below (Nat.le_refl _) hb) j ((fun p => p.1.cs) l[j]) (by simp [hgj])
      have ht : Hid (xs ++ enc n ++ ((l.take (j + 1)).map en).flatten = xs ++ enc n ++ ((l.take j).map en).flatten ++ en l[j]) := hid (by rw [List.take_add_one, hgj, List.map_append, List.flatten_append]; simp only [Option.toList, List.map_cons, List.map_nil, List.flatten_cons, List.flatten_nil, List.append_nil, List.append_assoc])
      have hlen : (xs ++ enc n ++ ((l.take j).map en).flatten ++ en l[j]).length ≤ 100000000 := by
        have h1 := HL.out
        have h2 : l = l.take (j + 1) ++ l.drop (j + 1) := (List.take_append_drop _ _).symm
        rw [h2, List.map_append, List.flatten_append] at h1
        rw [← ht.out]
        simp only [List.length_append] at h1 ⊢
        omega
      generalize l[j] = xx at hgj hc hm ht hlen
      subst ea1
      obtain ⟨⟨nm, pa, pn, pc, kd, rr⟩, sx⟩ := xx
      obtain ⟨A, hA⟩ : ∃ A, A = wr.alloc (.cells #[.string nm, .slice pa pn pc, .int .i64 kd, .int .i64 rr] 49) := ⟨_, rfl⟩
      obtain ⟨Y, hY⟩ : ∃ Y, Y = wr.heap.size := ⟨_, rfl⟩
      have mY : A.heap[Y]? = some (.cells #[.string nm, .slice pa pn pc, .int .i64 kd, .int .i64 rr] 49 (0, 0)) := by rw [hA, hY]; exact heap_alloc_new wr _
      have K := hid (ONE.out A u (xs ++ enc n ++ ((l.take j).map en).flatten) _ hm (by rw [hA]; exact hb.alloc hb.size _) (by rw [hA]; exact hk.alloc _) hlen)
      have GA : Hid (∀ (u1 : Value) (w1 : World), Grw A u w1 u1 → Grw wr u w1 u1) := hid (fun u1 w1 h => by rw [hA] at h; exact h.unalloc)
      have HB := hid hb
      have HG := hid hg
      have s0 := hc 0 (by omega)
      have s1 := hc 1 (by omega)
      have s2 := hc 2 (by omega)
      have s3 := hc 3 (by omega)
      simp only [GH.cs, List.getElem?_cons_zero, List.getElem?_cons_succ, Nat.add_zero, Nat.mul_one] at s0 s1 s2 s3
      have hjI : (j : Int) < (n : Int) := by omega
      have hj0 : (0 : Int) ≤ (j : Int) := by omega
      clear hk hg hb hgj hc hbl hlj hlen hm
      go_upto_region 5 with fail
      rw [← hA, ← hY]
      clear hA hY s0 s1 s2 s3
      have y0 := cellOf mY 0
      have y1 := cellOf mY 1
      have y2 := cellOf mY 2
      have y3 := cellOf mY 3
      simp only [List.getElem?_toArray, List.getElem?_cons_zero, List.getElem?_cons_succ] at y0 y1 y2 y3
      clear mY
      go_wp2_with (go_at_call 25; (refine (Hid.out K).mono ?_; rintro e w1 ⟨u1, rfl, hr1, hg1⟩; have HR1 := hid hr1; have HG1 := hid (GA.out u1 w1 hg1); clear hr1 hg1))
      go_roundg g
      case measure => omega
      exact ⟨j + 1, by omega, by go_num, by rw [ht.out]; exact HR1.out, HG.out.trans HG1.out⟩
set_option maxHeartbeats 2000000 in
theorem appMaps_any (w0 w : World) (v : Value) (xs : List Nat) (a : Option Addr) (n cap : Nat) (l : List (Mp)) (en : Mp → List Nat)
    (hw : Below w0.heap.size w0 w) (h : Row w w0.heap.size v xs) (hn : n = l.length) (hnb : n ≤ 1000000) (hr : CRd w0 a 5 (l.map Mp.cs)) (hl : (xs ++ enc n ++ (l.map en).flatten).length ≤ 100000000)
    (one : ∀ (V : World) (u : Value) (ys : List Nat) (x : Mp), x ∈ l → Below w0.heap.size w0 V → Row V w0.heap.size u ys → (ys ++ en x).length ≤ 100000000 → Calls Tryz.prog 23 #[u, .agg #[.string x.name, .int .i64 x.key.1, .int .i64 x.key.2, .int .i64 x.val.1, .int .i64 x.val.2]] V (ApP V w0.heap.size u (ys ++ en x))) :
    Calls Tryz.prog 22 #[v, .slice a n cap, .func (.func 23) #[] #[]] w (ApP w w0.heap.size v (xs ++ enc n ++ (l.map en).flatten)) := by
  have K0 := hid (putUint_any w n (by omega))
  have hnI : (n : Int) ≤ 1000000 := by omega
  have hnw : IntKind.u64.wrap (n : Int) = (n : Int) := by rw [IntKind.wrap_u64]; omega
  have HN := hid hn
  have HR := hid hr
  have HW := hid hw
  have H := hid h
  have HL := hid hl
  have ONE := hid one
  have hB : w0.heap.size ≤ w.heap.size := hw.size
  have HE := hid (enc_le n (by omega))
  have HBy := hid (enc_byt n)
  have hxl : Hid (xs.length ≤ 100000000) := hid (by simp at hl; omega)
  clear hn hr hw h hl one
  go_enter Tryz.func22, Tryz.ntmps22
  go_upto_region 2 with (first
    | (go_at_call 60; (refine (Hid.out K0).mono ?_; rintro e w1 ⟨v1, rfl, hr1, hb1⟩; have HR1 := hid hr1; have HB1 := hid hb1; clear hr1 hb1))
    | (at_builtin; refine wpList_appR _ rfl _ _ rfl _ _ (by rfl) (by rfl) w0.heap.size xs _ (H.out.below (Nat.le_refl _) HB1.out) (HR1.out.rd HBy.out) HR1.out.nilOf (Nat.le_trans hB HB1.out.size) (by have := hxl.out; omega) (by have := HE.out; omega) ?_; intro v2 w2 h1 h2; have H1 := hid h1; have H2 := hid ((Grw.ofBelow v HB1.out).trans h2); clear h1 h2))
  clear K0 HR1 HB1
  go_wp2
  go_loopg [0, 17] n (fun g u x wr => ∃ j : Nat, j + g = n ∧ x = .int .i64 (j : Int) ∧ Row wr w0.heap.size u (xs ++ enc n ++ ((l.take j).map en).flatten) ∧ Grw w v wr u)
  case atStart => exact ⟨0, by omega, rfl, by simpa using H1.out, H2.out⟩
  case round =>
    obtain ⟨j, hj, rfl, hk, hg⟩ := hrel
    obtain ⟨u, hu⟩ : ∃ u, u = u0 := ⟨_, rfl⟩
    subst hu
    have hb : Below w0.heap.size w0 wr := HW.out.trans (hg.below H.out hB)
    cases gk with
    | zero =>
      have hjn : j = n := by omega
      subst hjn
      rw [show l.take j = l from by rw [HN.out, List.take_of_length_le (Nat.le_refl _)]] at hk
      have HK := hid hk
      have HG := hid hg
      clear hk hg hb
      go_wp2
      go_ret
      exact ⟨_, rfl, HK.out, HG.out⟩
    | succ g =>
      have hlj : j < l.length := by rw [← HN.out]; omega
      have hgj : l[j]? = some l[j] := List.getElem?_eq_getElem hlj
      have hm : l[j] ∈ l := List.getElem_mem hlj
      obtain ⟨b, off, ea1, hbl, hc⟩ := (HR.out.below (Nat.le_refl _) hb) j (Mp.cs l[j]) (by simp [hgj])
      have ht : Hid (xs ++ enc n ++ ((l.take (j + 1)).map en).flatten = xs ++ enc n ++ ((l.take j).map en).flatten ++ en l[j]) := hid (by rw [List.take_add_one, hgj, List.map_append, List.flatten_append]; simp only [Option.toList, List.map_cons, List.map_nil, List.flatten_cons, List.flatten_nil, List.append_nil, List.append_assoc])
      have hlen : (xs ++ enc n ++ ((l.take j).map en).flatten ++ en l[j]).length ≤ 100000000 := by
        have h1 := HL.out
        have h2 : l = l.take (j + 1) ++ l.drop (j + 1) := (List.take_append_drop _ _).symm
        rw [h2, List.map_append, List.flatten_append] at h1
        rw [← ht.out]
        simp only [List.length_append] at h1 ⊢
        omega
      generalize l[j] = xx at hgj hc hm ht hlen
      subst ea1
      obtain ⟨nm, ⟨k1, k2⟩, ⟨v1, v2⟩⟩ := xx
      obtain ⟨A, hA⟩ : ∃ A, A = wr.alloc (.cells #[.string nm, .int .i64 k1, .int .i64 k2, .int .i64 v1, .int .i64 v2] 67) := ⟨_, rfl⟩
      obtain ⟨Y, hY⟩ : ∃ Y, Y = wr.heap.size := ⟨_, rfl⟩
      have mY : A.heap[Y]? = some (.cells #[.string nm, .int .i64 k1, .int .i64 k2, .int .i64 v1, .int .i64 v2] 67 (0, 0)) := by rw [hA, hY]; exact heap_alloc_new wr _
      have K := hid (ONE.out A u (xs ++ enc n ++ ((l.take j).map en).flatten) _ hm (by rw [hA]; exact hb.alloc hb.size _) (by rw [hA]; exact hk.alloc _) hlen)
      have GA : Hid (∀ (u1 : Value) (w1 : World), Grw A u w1 u1 → Grw wr u w1 u1) := hid (fun u1 w1 h => by rw [hA] at h; exact h.unalloc)
      have HB := hid hb
      have HG := hid hg
      have s0 := hc 0 (by omega)
      have s1 := hc 1 (by omega)
      have s2 := hc 2 (by omega)
      have s3 := hc 3 (by omega)
      have s4 := hc 4 (by omega)
      simp only [Mp.cs, List.getElem?_cons_zero, List.getElem?_cons_succ, Nat.add_zero, Nat.mul_one] at s0 s1 s2 s3 s4
      have hjI : (j : Int) < (n : Int) := by omega
      have hj0 : (0 : Int) ≤ (j : Int) := by omega
      clear hk hg hb hgj hc hbl hlj hlen hm
      go_upto_region 5 with fail
      rw [← hA, ← hY]
      clear hA hY s0 s1 s2 s3 s4
      have y0 := cellOf mY 0
      have y1 := cellOf mY 1
      have y2 := cellOf mY 2
      have y3 := cellOf mY 3
      have y4 := cellOf mY 4
      simp only [List.getElem?_toArray, List.getElem?_cons_zero, List.getElem?_cons_succ] at y0 y1 y2 y3 y4
      clear mY
      go_wp2_with (go_at_call 23; (refine (Hid.out K).mono ?_; rintro e w1 ⟨u1, rfl, hr1, hg1⟩; have HR1 := hid hr1; have HG1 := hid (GA.out u1 w1 hg1); clear hr1 hg1))
      go_roundg g
      case measure => omega
      exact ⟨j + 1, by omega, by go_num, by rw [ht.out]; exact HR1.out, HG.out.trans HG1.out⟩
set_option maxHeartbeats 2000000 in
theorem appRecords_any (w0 w : World) (v : Value) (xs : List Nat) (a : Option Addr) (n cap : Nat) (l : List (RH × Rc)) (en : RH × Rc → List Nat)
    (hw : Below w0.heap.size w0 w) (h : Row w w0.heap.size v xs) (hn : n = l.length) (hnb : n ≤ 1000000) (hr : CRd w0 a 3 (l.map (fun p => p.1.cs))) (hl : (xs ++ enc n ++ (l.map en).flatten).length ≤ 100000000)
    (one : ∀ (V : World) (u : Value) (ys : List Nat) (x : RH × Rc), x ∈ l → Below w0.heap.size w0 V → Row V w0.heap.size u ys → (ys ++ en x).length ≤ 100000000 → Calls Tryz.prog 21 #[u, .agg #[.string x.1.name, .slice x.1.fa x.1.fn x.1.fc, .slice x.1.ta x.1.tn x.1.tc]] V (ApP V w0.heap.size u (ys ++ en x))) :
    Calls Tryz.prog 20 #[v, .slice a n cap, .func (.func 21) #[] #[]] w (ApP w w0.heap.size v (xs ++ enc n ++ (l.map en).flatten)) := by
  have K0 := hid (putUint_any w n (by omega))
  have hnI : (n : Int) ≤ 1000000 := by omega
  have hnw : IntKind.u64.wrap (n : Int) = (n : Int) := by rw [IntKind.wrap_u64]; omega
  have HN := hid hn
  have HR := hid hr
  have HW := hid hw
  have H := hid h
  have HL := hid hl
  have ONE := hid one
  have hB : w0.heap.size ≤ w.heap.size := hw.size
  have HE := hid (enc_le n (by omega))
  have HBy := hid (enc_byt n)
  have hxl : Hid (xs.length ≤ 100000000) := hid (by simp at hl; omega)
  clear hn hr hw h hl one
  go_enter Tryz.func20, Tryz.ntmps20
  go_upto_region 2 with (first
    | (go_at_call 60; (refine (Hid.out K0).mono ?_; rintro e w1 ⟨v1, rfl, hr1, hb1⟩; have HR1 := hid hr1; have HB1 := hid hb1; clear hr1 hb1))
    | (at_builtin; refine wpList_appR _ rfl _ _ rfl _ _ (by rfl) (by rfl) w0.heap.size xs _ (H.out.below (Nat.le_refl _) HB1.out) (HR1.out.rd HBy.out) HR1.out.nilOf (Nat.le_trans hB HB1.out.size) (by have := hxl.out; omega) (by have := HE.out; omega) ?_; intro v2 w2 h1 h2; have H1 := hid h1; have H2 := hid ((Grw.ofBelow v HB1.out).trans h2); clear h1 h2))
  clear K0 HR1 HB1
  go_wp2
  go_loopg [0, 17] n (fun g u x wr => ∃ j : Nat, j + g = n ∧ x = .int .i64 (j : Int) ∧ Row wr w0.heap.size u (xs ++ enc n ++ ((l.take j).map en).flatten) ∧ Grw w v wr u)
  case atStart => exact ⟨0, by omega, rfl, by simpa using H1.out, H2.out⟩
  case round =>
    obtain ⟨j, hj, rfl, hk, hg⟩ := hrel
    obtain ⟨u, hu⟩ : ∃ u, u = u0 := ⟨_, rfl⟩
    subst hu
    have hb : Below w0.heap.size w0 wr := HW.out.trans (hg.below H.out hB)
    cases gk with
    | zero =>
      have hjn : j = n := by omega
      subst hjn
      rw [show l.take j = l from by rw [HN.out, List.take_of_length_le (Nat.le_refl _)]] at hk
      have HK := hid hk
      have HG := hid hg
      clear hk hg hb
      go_wp2
      go_ret
      exact ⟨_, rfl, HK.out, HG.out⟩
    | succ g =>
      have hlj : j < l.length := by rw [← HN.out]; omega
      have hgj : l[j]? = some l[j] := List.getElem?_eq_getElem hlj
      have hm : l[j] ∈ l := List.getElem_mem hlj
      obtain ⟨b, off, ea1, hbl, hc⟩ := (HR.out.below (Nat.le_refl _) hb) j ((fun p => p.1.cs) l[j]) (by simp [hgj])
      have ht : Hid (xs ++ enc n ++ ((l.take (j + 1)).map en).flatten = xs ++ enc n ++ ((l.take j).map en).flatten ++ en l[j]) := hid (by rw [List.take_add_one, hgj, List.map_append, List.flatten_append]; simp only [Option.toList, List.map_cons, List.map_nil, List.flatten_cons, List.flatten_nil, List.append_nil, List.append_assoc])
      have hlen : (xs ++ enc n ++ ((l.take j).map en).flatten ++ en l[j]).length ≤ 100000000 := by
        have h1 := HL.out
        have h2 : l = l.take (j + 1) ++ l.drop (j + 1) := (List.take_append_drop _ _).symm
        rw [h2, List.map_append, List.flatten_append] at h1
        rw [← ht.out]
        simp only [List.length_append] at h1 ⊢
        omega
      generalize l[j] = xx at hgj hc hm ht hlen
      subst ea1
      obtain ⟨⟨nm, fa, fn, fc, ta, tn, tc⟩, rx⟩ := xx
      obtain ⟨A, hA⟩ : ∃ A, A = wr.alloc (.cells #[.string nm, .slice fa fn fc, .slice ta tn tc] 63) := ⟨_, rfl⟩
      obtain ⟨Y, hY⟩ : ∃ Y, Y = wr.heap.size := ⟨_, rfl⟩
      have mY : A.heap[Y]? = some (.cells #[.string nm, .slice fa fn fc, .slice ta tn tc] 63 (0, 0)) := by rw [hA, hY]; exact heap_alloc_new wr _
      have K := hid (ONE.out A u (xs ++ enc n ++ ((l.take j).map en).flatten) _ hm (by rw [hA]; exact hb.alloc hb.size _) (by rw [hA]; exact hk.alloc _) hlen)
      have GA : Hid (∀ (u1 : Value) (w1 : World), Grw A u w1 u1 → Grw wr u w1 u1) := hid (fun u1 w1 h => by rw [hA] at h; exact h.unalloc)
      have HB := hid hb
      have HG := hid hg
      have s0 := hc 0 (by omega)
      have s1 := hc 1 (by omega)
      have s2 := hc 2 (by omega)
      simp only [RH.cs, List.getElem?_cons_zero, List.getElem?_cons_succ, Nat.add_zero, Nat.mul_one] at s0 s1 s2
      have hjI : (j : Int) < (n : Int) := by omega
      have hj0 : (0 : Int) ≤ (j : Int) := by omega
      clear hk hg hb hgj hc hbl hlj hlen hm
      go_upto_region 5 with fail
      rw [← hA, ← hY]
      clear hA hY s0 s1 s2
      have y0 := cellOf mY 0
      have y1 := cellOf mY 1
      have y2 := cellOf mY 2
      simp only [List.getElem?_toArray, List.getElem?_cons_zero, List.getElem?_cons_succ] at y0 y1 y2
      clear mY
      go_wp2_with (go_at_call 21; (refine (Hid.out K).mono ?_; rintro e w1 ⟨u1, rfl, hr1, hg1⟩; have HR1 := hid hr1; have HG1 := hid (GA.out u1 w1 hg1); clear hr1 hg1))
      go_roundg g
      case measure => omega
      exact ⟨j + 1, by omega, by go_num, by rw [ht.out]; exact HR1.out, HG.out.trans HG1.out⟩
set_option maxHeartbeats 2000000 in
theorem appOps_any (w0 w : World) (v : Value) (xs : List Nat) (a : Option Addr) (n cap : Nat) (l : List (Opx)) (en : Opx → List Nat)
    (hw : Below w0.heap.size w0 w) (h : Row w w0.heap.size v xs) (hn : n = l.length) (hnb : n ≤ 1000000) (hr : CRd w0 a 5 (l.map (fun o => o.cs.toList))) (hl : (xs ++ enc n ++ (l.map en).flatten).length ≤ 100000000)
    (one : ∀ (V : World) (u : Value) (ys : List Nat) (x : Opx), x ∈ l → Below w0.heap.size w0 V → Row V w0.heap.size u ys → (ys ++ en x).length ≤ 100000000 → Calls Tryz.prog 33 #[u, .agg #[.int .i64 x.c, .int .i64 x.d, .int .i64 x.a, .int .i64 x.b, .int .i64 x.k]] V (ApP V w0.heap.size u (ys ++ en x))) :
    Calls Tryz.prog 31 #[v, .slice a n cap, .func (.func 33) #[] #[]] w (ApP w w0.heap.size v (xs ++ enc n ++ (l.map en).flatten)) := by
  have K0 := hid (putUint_any w n (by omega))
  have hnI : (n : Int) ≤ 1000000 := by omega
  have hnw : IntKind.u64.wrap (n : Int) = (n : Int) := by rw [IntKind.wrap_u64]; omega
  have HN := hid hn
  have HR := hid hr
  have HW := hid hw
  have H := hid h
  have HL := hid hl
  have ONE := hid one
  have hB : w0.heap.size ≤ w.heap.size := hw.size
  have HE := hid (enc_le n (by omega))
  have HBy := hid (enc_byt n)
  have hxl : Hid (xs.length ≤ 100000000) := hid (by simp at hl; omega)
  clear hn hr hw h hl one
  go_enter Tryz.func31, Tryz.ntmps31
  go_upto_region 2 with (first
    | (go_at_call 60; (refine (Hid.out K0).mono ?_; rintro e w1 ⟨v1, rfl, hr1, hb1⟩; have HR1 := hid hr1; have HB1 := hid hb1; clear hr1 hb1))
    | (at_builtin; refine wpList_appR _ rfl _ _ rfl _ _ (by rfl) (by rfl) w0.heap.size xs _ (H.out.below (Nat.le_refl _) HB1.out) (HR1.out.rd HBy.out) HR1.out.nilOf (Nat.le_trans hB HB1.out.size) (by have := hxl.out; omega) (by have := HE.out; omega) ?_; intro v2 w2 h1 h2; have H1 := hid h1; have H2 := hid ((Grw.ofBelow v HB1.out).trans h2); clear h1 h2))
  clear K0 HR1 HB1
  go_wp2
  go_loopg [0, 17] n (fun g u x wr => ∃ j : Nat, j + g = n ∧ x = .int .i64 (j : Int) ∧ Row wr w0.heap.size u (xs ++ enc n ++ ((l.take j).map en).flatten) ∧ Grw w v wr u)
  case atStart => exact ⟨0, by omega, rfl, by simpa using H1.out, H2.out⟩
  case round =>
    obtain ⟨j, hj, rfl, hk, hg⟩ := hrel
    obtain ⟨u, hu⟩ : ∃ u, u = u0 := ⟨_, rfl⟩
    subst hu
    have hb : Below w0.heap.size w0 wr := HW.out.trans (hg.below H.out hB)
    cases gk with
    | zero =>
      have hjn : j = n := by omega
      subst hjn
      rw [show l.take j = l from by rw [HN.out, List.take_of_length_le (Nat.le_refl _)]] at hk
      have HK := hid hk
      have HG := hid hg
      clear hk hg hb
      go_wp2
      go_ret
      exact ⟨_, rfl, HK.out, HG.out⟩
    | succ g =>
      have hlj : j < l.length := by rw [← HN.out]; omega
      have hgj : l[j]? = some l[j] := List.getElem?_eq_getElem hlj
      have hm : l[j] ∈ l := List.getElem_mem hlj
      obtain ⟨b, off, ea1, hbl, hc⟩ := (HR.out.below (Nat.le_refl _) hb) j ((fun o => o.cs.toList) l[j]) (by simp [hgj])
      have ht : Hid (xs ++ enc n ++ ((l.take (j + 1)).map en).flatten = xs ++ enc n ++ ((l.take j).map en).flatten ++ en l[j]) := hid (by rw [List.take_add_one, hgj, List.map_append, List.flatten_append]; simp only [Option.toList, List.map_cons, List.map_nil, List.flatten_cons, List.flatten_nil, List.append_nil, List.append_assoc])
      have hlen : (xs ++ enc n ++ ((l.take j).map en).flatten ++ en l[j]).length ≤ 100000000 := by
        have h1 := HL.out
        have h2 : l = l.take (j + 1) ++ l.drop (j + 1) := (List.take_append_drop _ _).symm
        rw [h2, List.map_append, List.flatten_append] at h1
        rw [← ht.out]
        simp only [List.length_append] at h1 ⊢
        omega
      generalize l[j] = xx at hgj hc hm ht hlen
      subst ea1
      obtain ⟨oc, od, oa, ob, ok⟩ := xx
      obtain ⟨A, hA⟩ : ∃ A, A = wr.alloc (.cells #[.int .i64 oc, .int .i64 od, .int .i64 oa, .int .i64 ob, .int .i64 ok] 54) := ⟨_, rfl⟩
      obtain ⟨Y, hY⟩ : ∃ Y, Y = wr.heap.size := ⟨_, rfl⟩
      have mY : A.heap[Y]? = some (.cells #[.int .i64 oc, .int .i64 od, .int .i64 oa, .int .i64 ob, .int .i64 ok] 54 (0, 0)) := by rw [hA, hY]; exact heap_alloc_new wr _
      have K := hid (ONE.out A u (xs ++ enc n ++ ((l.take j).map en).flatten) _ hm (by rw [hA]; exact hb.alloc hb.size _) (by rw [hA]; exact hk.alloc _) hlen)
      have GA : Hid (∀ (u1 : Value) (w1 : World), Grw A u w1 u1 → Grw wr u w1 u1) := hid (fun u1 w1 h => by rw [hA] at h; exact h.unalloc)
      have HB := hid hb
      have HG := hid hg
      have s0 := hc 0 (by omega)
      have s1 := hc 1 (by omega)
      have s2 := hc 2 (by omega)
      have s3 := hc 3 (by omega)
      have s4 := hc 4 (by omega)
      simp only [Opx.cs, List.getElem?_cons_zero, List.getElem?_cons_succ, Nat.add_zero, Nat.mul_one] at s0 s1 s2 s3 s4
      have hjI : (j : Int) < (n : Int) := by omega
      have hj0 : (0 : Int) ≤ (j : Int) := by omega
      clear hk hg hb hgj hc hbl hlj hlen hm
      go_upto_region 5 with fail
      rw [← hA, ← hY]
      clear hA hY s0 s1 s2 s3 s4
      have y0 := cellOf mY 0
      have y1 := cellOf mY 1
      have y2 := cellOf mY 2
      have y3 := cellOf mY 3
      have y4 := cellOf mY 4
      simp only [List.getElem?_toArray, List.getElem?_cons_zero, List.getElem?_cons_succ] at y0 y1 y2 y3 y4
      clear mY
      go_wp2_with (go_at_call 33; (refine (Hid.out K).mono ?_; rintro e w1 ⟨u1, rfl, hr1, hg1⟩; have HR1 := hid hr1; have HG1 := hid (GA.out u1 w1 hg1); clear hr1 hg1))
      go_roundg g
      case measure => omega
      exact ⟨j + 1, by omega, by go_num, by rw [ht.out]; exact HR1.out, HG.out.trans HG1.out⟩
end Go.Proofs.YthnolocldeokeaaGreat

namespace Go.Proofs.YthnolocldeokeaaGreat
open Go.RowKit Go.Deep Go.Shelf
set_option linter.unusedVariables false
set_option linter.unusedSimpArgs false
set_option maxRecDepth 100000
theorem streq2 {a b : ByteArray} (h : ¬ a = b) : (a.toList == b.toList) = false := by
  rw [ByteArray.toList_eq, ByteArray.toList_eq]
  have : ¬ a.data = b.data := fun e => h (by cases a; cases b; simp at e; simp [e])
  simp [this]
theorem neqO (w : World) {a b c d e a' b' c' d' e' : Int} (h : ¬ (⟨a, b, c, d, e⟩ : Opx) = ⟨a', b', c', d', e'⟩) : Sem.run Tryz.prog (binOp .neq 54 (.agg #[.int .i64 a, .int .i64 b, .int .i64 c, .int .i64 d, .int .i64 e]) (.agg #[.int .i64 a', .int .i64 b', .int .i64 c', .int .i64 d', .int .i64 e'])) w = .ok (.bool true) w := by
  by_cases h1 : a = a'
  · by_cases h2 : b = b'
    · by_cases h3 : c = c'
      · by_cases h4 : d = d'
        · by_cases h5 : e = e'
          · exact absurd (by rw [h1, h2, h3, h4, h5]) h
          · subst h1 h2 h3 h4
            have q : (e == e') = false := by simp [h5]
            simp [go_sem, Tryz.underlying54, Tryz.underlying3, q]
        · subst h1 h2 h3
          have q : (d == d') = false := by simp [h4]
          simp [go_sem, Tryz.underlying54, Tryz.underlying3, q]
      · subst h1 h2
        have q : (c == c') = false := by simp [h3]
        simp [go_sem, Tryz.underlying54, Tryz.underlying3, q]
    · subst h1
      have q : (b == b') = false := by simp [h2]
      simp [go_sem, Tryz.underlying54, Tryz.underlying3, q]
  · have q : (a == a') = false := by simp [h1]
    simp [go_sem, Tryz.underlying54, Tryz.underlying3, q]
theorem neqM (w : World) {n n' : ByteArray} {a b c d a' b' c' d' : Int} (h : ¬ (⟨n, (a, b), (c, d)⟩ : Mp) = ⟨n', (a', b'), (c', d')⟩) : Sem.run Tryz.prog (binOp .neq 67 (.agg #[.string n, .int .i64 a, .int .i64 b, .int .i64 c, .int .i64 d]) (.agg #[.string n', .int .i64 a', .int .i64 b', .int .i64 c', .int .i64 d'])) w = .ok (.bool true) w := by
  by_cases h1 : n = n'
  · by_cases h2 : a = a'
    · by_cases h3 : b = b'
      · by_cases h4 : c = c'
        · by_cases h5 : d = d'
          · exact absurd (by rw [h1, h2, h3, h4, h5]) h
          · subst h1 h2 h3 h4
            have q : (d == d') = false := by simp [h5]
            simp [go_sem, Tryz.underlying67, Tryz.underlying46, Tryz.underlying3, Tryz.underlying9, q]
        · subst h1 h2 h3
          have q : (c == c') = false := by simp [h4]
          simp [go_sem, Tryz.underlying67, Tryz.underlying46, Tryz.underlying3, Tryz.underlying9, q]
      · subst h1 h2
        have q : (b == b') = false := by simp [h3]
        simp [go_sem, Tryz.underlying67, Tryz.underlying46, Tryz.underlying3, Tryz.underlying9, q]
    · subst h1
      have q : (a == a') = false := by simp [h2]
      simp [go_sem, Tryz.underlying67, Tryz.underlying46, Tryz.underlying3, Tryz.underlying9, q]
  · have q := streq2 h1
    simp [go_sem, Tryz.underlying67, Tryz.underlying46, Tryz.underlying3, Tryz.underlying9, q]
set_option maxHeartbeats 2000000 in
theorem eqInts_any (w : World) (a b : Option Addr) (n m c1 c2 : Nat) (ts us : List Int) (hn : n = ts.length) (hm : m = us.length) (hnb : n ≤ 9223372036854775807) (hmb : m ≤ 9223372036854775807) (h1 : JRd w a ts) (h2 : JRd w b us) :
    Calls Tryz.prog 50 #[.slice a n c1, .slice b m c2] w (DcP w (ts = us)) := by
  have hnI : (n : Int) ≤ 9223372036854775807 := by omega
  have hmI : (m : Int) ≤ 9223372036854775807 := by omega
  have HN := hid hn
  have HM := hid hm
  have H1 := hid h1
  have H2 := hid h2
  obtain ⟨P, hP⟩ : ∃ P : Prop, P = (ts = us) := ⟨_, rfl⟩
  have HP := hid hP
  rw [← hP]
  clear hn hm h1 h2 hP
  go_enter Tryz.func50, Tryz.ntmps50
  by_cases hnm : n = m
  · subst hnm
    have nb : ((n : Int) != (n : Int)) = false := by simp
    go_wp2
    go_loopg [13] n (fun g x wr => ∃ j : Nat, j + g = n ∧ x = .int .i64 (j : Int) ∧ ts.take j = us.take j ∧ Below w.heap.size w wr)
    case atStart => exact ⟨0, by omega, rfl, by simp, Below.refl _ _⟩
    case round =>
      obtain ⟨j, hj, rfl, htk, hb⟩ := hrel
      cases gk with
      | zero =>
        have hjn : j = n := by omega
        subst hjn
        have HB := hid hb
        have HT := hid (take_all htk HN.out HM.out)
        clear hb htk
        go_wp2
        go_ret
        exact DcP.yes HB.out (by rw [HP.out]; exact HT.out)
      | succ g =>
        obtain ⟨t, ht⟩ : ∃ t, ts[j]? = some t := ⟨ts[j]'(by have := HN.out; omega), List.getElem?_eq_getElem _⟩
        obtain ⟨u, hu⟩ : ∃ u, us[j]? = some u := ⟨us[j]'(by have := HM.out; omega), List.getElem?_eq_getElem _⟩
        obtain ⟨b1, o1, rfl, _, z1⟩ := (CRd.below H1.out (Nat.le_refl _) hb) j (inc t) (by rw [List.getElem?_map, ht]; rfl)
        obtain ⟨b2, o2, rfl, _, z2⟩ := (CRd.below H2.out (Nat.le_refl _) hb) j (inc u) (by rw [List.getElem?_map, hu]; rfl)
        have x0 := z1 0 (by omega)
        have y0 := z2 0 (by omega)
        simp only [inc, List.getElem?_cons_zero, Nat.add_zero, Nat.mul_one] at x0 y0
        clear z1 z2
        have hjI : (j : Int) < (n : Int) := by omega
        have hj0 : (0 : Int) ≤ (j : Int) := by omega
        have HB := hid hb
        by_cases he : t = u
        · have HT := hid (take_same htk ht hu he)
          subst he
          have nbt : (t != t) = false := by simp
          clear hb ht hu htk
          go_wp2
          go_quiet (fail)
          go_wp2
          go_roundg g
          case measure => omega
          exact ⟨j + 1, by omega, by go_num, HT.out, bel_dN HB.out _⟩
        · have HT := hid (get_ne ht hu he)
          have nbt : (t != u) = true := by simp [he]
          clear hb ht hu htk he
          go_wp2
          go_quiet (fail)
          go_wp2
          go_ret
          exact DcP.no (bel_dN HB.out _) (by rw [HP.out]; exact HT.out)
  · have HNM := hid hnm
    have nb : ((n : Int) != (m : Int)) = true := by simp; omega
    clear hnm
    go_wp2
    go_ret
    exact DcP.no (Below.refl _ _) (by rw [HP.out]; exact fun e => HNM.out (by rw [HN.out, HM.out, e]))
set_option maxHeartbeats 2000000 in
theorem eqTexts_any (w : World) (a b : Option Addr) (n m c1 c2 : Nat) (ts us : List ByteArray) (hn : n = ts.length) (hm : m = us.length) (hnb : n ≤ 9223372036854775807) (hmb : m ≤ 9223372036854775807) (h1 : SRd w a ts) (h2 : SRd w b us) :
    Calls Tryz.prog 51 #[.slice a n c1, .slice b m c2] w (DcP w (ts = us)) := by
  have hnI : (n : Int) ≤ 9223372036854775807 := by omega
  have hmI : (m : Int) ≤ 9223372036854775807 := by omega
  have HN := hid hn
  have HM := hid hm
  have H1 := hid h1
  have H2 := hid h2
  obtain ⟨P, hP⟩ : ∃ P : Prop, P = (ts = us) := ⟨_, rfl⟩
  have HP := hid hP
  rw [← hP]
  clear hn hm h1 h2 hP
  go_enter Tryz.func51, Tryz.ntmps51
  by_cases hnm : n = m
  · subst hnm
    have nb : ((n : Int) != (n : Int)) = false := by simp
    go_wp2
    go_loopg [13] n (fun g x wr => ∃ j : Nat, j + g = n ∧ x = .int .i64 (j : Int) ∧ ts.take j = us.take j ∧ Below w.heap.size w wr)
    case atStart => exact ⟨0, by omega, rfl, by simp, Below.refl _ _⟩
    case round =>
      obtain ⟨j, hj, rfl, htk, hb⟩ := hrel
      cases gk with
      | zero =>
        have hjn : j = n := by omega
        subst hjn
        have HB := hid hb
        have HT := hid (take_all htk HN.out HM.out)
        clear hb htk
        go_wp2
        go_ret
        exact DcP.yes HB.out (by rw [HP.out]; exact HT.out)
      | succ g =>
        obtain ⟨t, ht⟩ : ∃ t, ts[j]? = some t := ⟨ts[j]'(by have := HN.out; omega), List.getElem?_eq_getElem _⟩
        obtain ⟨u, hu⟩ : ∃ u, us[j]? = some u := ⟨us[j]'(by have := HM.out; omega), List.getElem?_eq_getElem _⟩
        obtain ⟨_, b1, o1, rfl, x0⟩ := (H1.out.below (Nat.le_refl _) hb) j t ht
        obtain ⟨_, b2, o2, rfl, y0⟩ := (H2.out.below (Nat.le_refl _) hb) j u hu
        have hjI : (j : Int) < (n : Int) := by omega
        have hj0 : (0 : Int) ≤ (j : Int) := by omega
        have HB := hid hb
        by_cases he : t = u
        · have HT := hid (take_same htk ht hu he)
          subst he
          have nbt : (t.toList == t.toList) = true := by simp
          clear hb ht hu htk
          go_wp2
          go_quiet (fail)
          go_wp2
          go_roundg g
          case measure => omega
          exact ⟨j + 1, by omega, by go_num, HT.out, bel_dN HB.out _⟩
        · have HT := hid (get_ne ht hu he)
          have nbt := streq2 he
          clear hb ht hu htk he
          go_wp2
          go_quiet (fail)
          go_wp2
          go_ret
          exact DcP.no (bel_dN HB.out _) (by rw [HP.out]; exact HT.out)
  · have HNM := hid hnm
    have nb : ((n : Int) != (m : Int)) = true := by simp; omega
    clear hnm
    go_wp2
    go_ret
    exact DcP.no (Below.refl _ _) (by rw [HP.out]; exact fun e => HNM.out (by rw [HN.out, HM.out, e]))
set_option maxHeartbeats 2000000 in
theorem eqMaps_any (w : World) (a b : Option Addr) (n m c1 c2 : Nat) (ts us : List Mp) (hn : n = ts.length) (hm : m = us.length) (hnb : n ≤ 9223372036854775807) (hmb : m ≤ 9223372036854775807) (h1 : CRd w a 5 (ts.map Mp.cs)) (h2 : CRd w b 5 (us.map Mp.cs)) :
    Calls Tryz.prog 84 #[.slice a n c1, .slice b m c2] w (DcP w (ts = us)) := by
  have hnI : (n : Int) ≤ 9223372036854775807 := by omega
  have hmI : (m : Int) ≤ 9223372036854775807 := by omega
  have HN := hid hn
  have HM := hid hm
  have H1 := hid h1
  have H2 := hid h2
  obtain ⟨P, hP⟩ : ∃ P : Prop, P = (ts = us) := ⟨_, rfl⟩
  have HP := hid hP
  rw [← hP]
  clear hn hm h1 h2 hP
  go_enter Tryz.func84, Tryz.ntmps84
  by_cases hnm : n = m
  · subst hnm
    have nb : ((n : Int) != (n : Int)) = false := by simp
    go_wp2
    go_loopg [13] n (fun g x wr => ∃ j : Nat, j + g = n ∧ x = .int .i64 (j : Int) ∧ ts.take j = us.take j ∧ Below w.heap.size w wr)
    case atStart => exact ⟨0, by omega, rfl, by simp, Below.refl _ _⟩
    case round =>
      obtain ⟨j, hj, rfl, htk, hb⟩ := hrel
      cases gk with
      | zero =>
        have hjn : j = n := by omega
        subst hjn
        have HB := hid hb
        have HT := hid (take_all htk HN.out HM.out)
        clear hb htk
        go_wp2
        go_ret
        exact DcP.yes HB.out (by rw [HP.out]; exact HT.out)
      | succ g =>
        obtain ⟨t, ht⟩ : ∃ t, ts[j]? = some t := ⟨ts[j]'(by have := HN.out; omega), List.getElem?_eq_getElem _⟩
        obtain ⟨u, hu⟩ : ∃ u, us[j]? = some u := ⟨us[j]'(by have := HM.out; omega), List.getElem?_eq_getElem _⟩
        obtain ⟨b1, o1, rfl, _, z1⟩ := (CRd.below H1.out (Nat.le_refl _) hb) j (Mp.cs t) (by rw [List.getElem?_map, ht]; rfl)
        obtain ⟨b2, o2, rfl, _, z2⟩ := (CRd.below H2.out (Nat.le_refl _) hb) j (Mp.cs u) (by rw [List.getElem?_map, hu]; rfl)
        have x0 := z1 0 (by omega)
        have y0 := z2 0 (by omega)
        have x1 := z1 1 (by omega)
        have y1 := z2 1 (by omega)
        have x2 := z1 2 (by omega)
        have y2 := z2 2 (by omega)
        have x3 := z1 3 (by omega)
        have y3 := z2 3 (by omega)
        have x4 := z1 4 (by omega)
        have y4 := z2 4 (by omega)
        obtain ⟨tn, ⟨tk1, tk2⟩, ⟨tv1, tv2⟩⟩ := t
        obtain ⟨un, ⟨uk1, uk2⟩, ⟨uv1, uv2⟩⟩ := u
        simp only [Mp.cs, List.getElem?_cons_zero, List.getElem?_cons_succ, Nat.add_zero] at x0 y0 x1 y1 x2 y2 x3 y3 x4 y4
        clear z1 z2
        have hjI : (j : Int) < (n : Int) := by omega
        have hj0 : (0 : Int) ≤ (j : Int) := by omega
        have HB := hid hb
        by_cases he : (⟨tn, (tk1, tk2), (tv1, tv2)⟩ : Mp) = ⟨un, (uk1, uk2), (uv1, uv2)⟩
        · have HT := hid (take_same htk ht hu he)
          have ⟨q1, q2, q3⟩ := Mp.mk.inj he
          injection q2 with q4 q5
          injection q3 with q6 q7
          subst q1 q4 q5 q6 q7
          clear hb ht hu htk
          go_wp2
          go_quiet (fail)
          go_wp2
          go_roundg g
          case measure => omega
          exact ⟨j + 1, by omega, by go_num, HT.out, bel_dN HB.out _⟩
        · have HT := hid (get_ne ht hu he)
          have hn' := fun W : World => neqM W he
          clear hb ht hu htk he
          go_wp2
          go_quiet (fail)
          go_wp2
          go_ret
          exact DcP.no (bel_dN HB.out _) (by rw [HP.out]; exact HT.out)
  · have HNM := hid hnm
    have nb : ((n : Int) != (m : Int)) = true := by simp; omega
    clear hnm
    go_wp2
    go_ret
    exact DcP.no (Below.refl _ _) (by rw [HP.out]; exact fun e => HNM.out (by rw [HN.out, HM.out, e]))
set_option maxHeartbeats 2000000 in
theorem eqOps_any (w : World) (a b : Option Addr) (n m c1 c2 : Nat) (ts us : List Opx) (hn : n = ts.length) (hm : m = us.length) (hnb : n ≤ 9223372036854775807) (hmb : m ≤ 9223372036854775807) (h1 : ORd w a ts) (h2 : ORd w b us) :
    Calls Tryz.prog 87 #[.slice a n c1, .slice b m c2] w (DcP w (ts = us)) := by
  have hnI : (n : Int) ≤ 9223372036854775807 := by omega
  have hmI : (m : Int) ≤ 9223372036854775807 := by omega
  have HN := hid hn
  have HM := hid hm
  have H1 := hid h1
  have H2 := hid h2
  obtain ⟨P, hP⟩ : ∃ P : Prop, P = (ts = us) := ⟨_, rfl⟩
  have HP := hid hP
  rw [← hP]
  clear hn hm h1 h2 hP
  go_enter Tryz.func87, Tryz.ntmps87
  by_cases hnm : n = m
  · subst hnm
    have nb : ((n : Int) != (n : Int)) = false := by simp
    go_wp2
    go_loopg [13] n (fun g x wr => ∃ j : Nat, j + g = n ∧ x = .int .i64 (j : Int) ∧ ts.take j = us.take j ∧ Below w.heap.size w wr)
    case atStart => exact ⟨0, by omega, rfl, by simp, Below.refl _ _⟩
    case round =>
      obtain ⟨j, hj, rfl, htk, hb⟩ := hrel
      cases gk with
      | zero =>
        have hjn : j = n := by omega
        subst hjn
        have HB := hid hb
        have HT := hid (take_all htk HN.out HM.out)
        clear hb htk
        go_wp2
        go_ret
        exact DcP.yes HB.out (by rw [HP.out]; exact HT.out)
      | succ g =>
        obtain ⟨t, ht⟩ : ∃ t, ts[j]? = some t := ⟨ts[j]'(by have := HN.out; omega), List.getElem?_eq_getElem _⟩
        obtain ⟨u, hu⟩ : ∃ u, us[j]? = some u := ⟨us[j]'(by have := HM.out; omega), List.getElem?_eq_getElem _⟩
        obtain ⟨b1, o1, rfl, z1⟩ := (H1.out.below hb) j t ht
        obtain ⟨b2, o2, rfl, z2⟩ := (H2.out.below hb) j u hu
        have x0 := z1 0 (by omega)
        have y0 := z2 0 (by omega)
        have x1 := z1 1 (by omega)
        have y1 := z2 1 (by omega)
        have x2 := z1 2 (by omega)
        have y2 := z2 2 (by omega)
        have x3 := z1 3 (by omega)
        have y3 := z2 3 (by omega)
        have x4 := z1 4 (by omega)
        have y4 := z2 4 (by omega)
        obtain ⟨tc, td, ta, tb, tk⟩ := t
        obtain ⟨uc, ud, ua, ub, uk⟩ := u
        simp only [Opx.cs, List.getElem?_toArray, List.getElem?_cons_zero, List.getElem?_cons_succ, Nat.add_zero] at x0 y0 x1 y1 x2 y2 x3 y3 x4 y4
        clear z1 z2
        have hjI : (j : Int) < (n : Int) := by omega
        have hj0 : (0 : Int) ≤ (j : Int) := by omega
        have HB := hid hb
        by_cases he : (⟨tc, td, ta, tb, tk⟩ : Opx) = ⟨uc, ud, ua, ub, uk⟩
        · have HT := hid (take_same htk ht hu he)
          have ⟨q1, q2, q3, q4, q5⟩ := Opx.mk.inj he
          subst q1 q2 q3 q4 q5
          clear hb ht hu htk
          go_wp2
          go_quiet (fail)
          go_wp2
          go_roundg g
          case measure => omega
          exact ⟨j + 1, by omega, by go_num, HT.out, bel_dN HB.out _⟩
        · have HT := hid (get_ne ht hu he)
          have hn' := fun W : World => neqO W he
          clear hb ht hu htk he
          go_wp2
          go_quiet (fail)
          go_wp2
          go_ret
          exact DcP.no (bel_dN HB.out _) (by rw [HP.out]; exact HT.out)
  · have HNM := hid hnm
    have nb : ((n : Int) != (m : Int)) = true := by simp; omega
    clear hnm
    go_wp2
    go_ret
    exact DcP.no (Below.refl _ _) (by rw [HP.out]; exact fun e => HNM.out (by rw [HN.out, HM.out, e]))
set_option maxHeartbeats 2000000 in
theorem eqTypes_any (w : World) (a b : Option Addr) (n m c1 c2 : Nat) (ts us : List TyP) (hn : n = ts.length) (hm : m = us.length) (hnb : n ≤ 9223372036854775807) (hmb : m ≤ 9223372036854775807) (h1 : TRd w a ts) (h2 : TRd w b us) :
    Calls Tryz.prog 107 #[.slice a n c1, .slice b m c2] w (DcP w (ts = us)) := by
  have hnI : (n : Int) ≤ 9223372036854775807 := by omega
  have hmI : (m : Int) ≤ 9223372036854775807 := by omega
  have HN := hid hn
  have HM := hid hm
  have H1 := hid h1
  have H2 := hid h2
  obtain ⟨P, hP⟩ : ∃ P : Prop, P = (ts = us) := ⟨_, rfl⟩
  have HP := hid hP
  rw [← hP]
  clear hn hm h1 h2 hP
  go_enter Tryz.func107, Tryz.ntmps107
  by_cases hnm : n = m
  · subst hnm
    have nb : ((n : Int) != (n : Int)) = false := by simp
    go_wp2
    go_loopg [13] n (fun g x wr => ∃ j : Nat, j + g = n ∧ x = .int .i64 (j : Int) ∧ ts.take j = us.take j ∧ Below w.heap.size w wr)
    case atStart => exact ⟨0, by omega, rfl, by simp, Below.refl _ _⟩
    case round =>
      obtain ⟨j, hj, rfl, htk, hb⟩ := hrel
      cases gk with
      | zero =>
        have hjn : j = n := by omega
        subst hjn
        have HB := hid hb
        have HT := hid (take_all htk HN.out HM.out)
        clear hb htk
        go_wp2
        go_ret
        exact DcP.yes HB.out (by rw [HP.out]; exact HT.out)
      | succ g =>
        obtain ⟨t, ht⟩ : ∃ t, ts[j]? = some t := ⟨ts[j]'(by have := HN.out; omega), List.getElem?_eq_getElem _⟩
        obtain ⟨u, hu⟩ : ∃ u, us[j]? = some u := ⟨us[j]'(by have := HM.out; omega), List.getElem?_eq_getElem _⟩
        obtain ⟨b1, o1, rfl, x0, x1⟩ := (H1.out.below (Nat.le_refl _) hb) j t ht
        obtain ⟨b2, o2, rfl, y0, y1⟩ := (H2.out.below (Nat.le_refl _) hb) j u hu
        obtain ⟨tk, tr⟩ := t
        obtain ⟨uk, ur⟩ := u
        simp only at x0 x1 y0 y1
        have hjI : (j : Int) < (n : Int) := by omega
        have hj0 : (0 : Int) ≤ (j : Int) := by omega
        have HB := hid hb
        by_cases he : ((tk, tr) : TyP) = (uk, ur)
        · have HT := hid (take_same htk ht hu he)
          have ⟨q1, q2⟩ := Prod.mk.inj he
          subst q1 q2
          clear hb ht hu htk
          go_wp2
          go_quiet (fail)
          go_wp2
          go_roundg g
          case measure => omega
          exact ⟨j + 1, by omega, by go_num, HT.out, bel_dN HB.out _⟩
        · have HT := hid (get_ne ht hu he)
          have hn' := fun W : World => neqT W he
          clear hb ht hu htk he
          go_wp2
          go_quiet (fail)
          go_wp2
          go_ret
          exact DcP.no (bel_dN HB.out _) (by rw [HP.out]; exact HT.out)
  · have HNM := hid hnm
    have nb : ((n : Int) != (m : Int)) = true := by simp; omega
    clear hnm
    go_wp2
    go_ret
    exact DcP.no (Below.refl _ _) (by rw [HP.out]; exact fun e => HNM.out (by rw [HN.out, HM.out, e]))
end Go.Proofs.YthnolocldeokeaaGreat

