/- code.appendInt, appendNumber, appendText, appendType. -/
import Derived.Test.YtmhjnfibpngpmaaJAD
namespace Go.Proofs.Ytmhjnfibpngpmaa
open Go.RowKit Go.Deep Go.Shelf
set_option linter.unusedVariables false
set_option linter.unusedSimpArgs false
set_option maxRecDepth 100000
/- What is put behind a row of one's own. -/
def ApP (w : World) (B : Nat) (v : Value) (ys : List Nat) (e : Ending) (w' : World) : Prop := ∃ v', e = .returned v' ∧ Row w' B v' ys ∧ Grw w v w' v'
theorem Grw.ofBelow {w w' : World} (v : Value) (b : Below w.heap.size w w') : Grw w v w' v := ⟨⟨b.os, b.tape, b.output, b.size, fun j hj _ => b.block j hj⟩, .inl rfl⟩
theorem Grw.undrew {w w' : World} {v v' : Value} (h : Grw w.drew v w' v') : Grw w v w' v' := (Grw.ofBelow v (Below.refl _ w).drew).trans h
def inR (k : Int) : Prop := -9223372036854775808 ≤ k ∧ k ≤ 9223372036854775807
theorem putInt_lim (w : World) (k : Int) (hk : inR k) : Calls Try.prog 97 #[.int .i64 k] w fun e w' => ∃ v', e = .returned v' ∧ Row w' w.heap.size v' (enc (zz k)) ∧ Below w.heap.size w w' := putInt_any w k hk.1 hk.2
theorem enc_zz_le (k : Int) (hk : inR k) : (enc (zz k)).length ≤ 10 := enc_le _ (zz_lt k hk.1 hk.2)
set_option maxHeartbeats 1000000 in
theorem appInt_any (w : World) (B : Nat) (v : Value) (xs : List Nat) (k : Int) (h : Row w B v xs) (hB : B ≤ w.heap.size) (hl : xs.length ≤ 1000000000) (hk : inR k) :
    Calls Try.prog 51 #[v, .int .i64 k] w (ApP w B v (xs ++ enc (zz k))) := by
  have K := hid (putInt_lim w k hk)
  have H := hid h
  have HE := hid (enc_zz_le k hk)
  have HBy := hid (enc_byt (zz k))
  clear h hk
  go_enter Try.func51, Try.ntmps51
  go_wp2_with (first
    | (go_at_call 97; (refine (Hid.out K).mono ?_; rintro e w1 ⟨v1, rfl, hr, hb⟩; have HR := hid hr; have HB := hid hb; clear hr hb))
    | (at_builtin; refine wpList_appR _ rfl _ _ rfl _ _ (by rfl) (by rfl) B xs _ (H.out.below (Nat.le_refl _) HB.out) (HR.out.rd HBy.out) HR.out.nilOf (Nat.le_trans hB HB.out.size) (by omega) (by have := HE.out; omega) ?_; intro v2 w2 h1 h2; have H1 := hid h1; have H2 := hid h2; clear h1 h2))
  go_ret
  exact ⟨_, rfl, H1.out, (Grw.ofBelow v HB.out).trans H2.out⟩
set_option maxHeartbeats 1000000 in
theorem appText_any (w : World) (B : Nat) (v : Value) (xs : List Nat) (s : ByteArray) (h : Row w B v xs) (hB : B ≤ w.heap.size) (hl : xs.length ≤ 1000000000) (hs : s.size ≤ 1000000) :
    Calls Try.prog 53 #[v, .string s] w (ApP w B v (xs ++ encX s)) := by
  have K := hid (putText_any w s (by omega))
  have H := hid h
  have HE : Hid ((encX s).length ≤ 1000010) := hid (by unfold encX; rw [List.length_append, sb_length]; have := enc_le s.size (by omega); omega)
  have HBy := hid (encX_byt s)
  clear h hs
  go_enter Try.func53, Try.ntmps53
  go_wp2_with (first
    | (go_at_call 98; (refine (Hid.out K).mono ?_; rintro e w1 ⟨v1, rfl, hr, hb⟩; have HR := hid hr; have HB := hid hb; clear hr hb))
    | (at_builtin; refine wpList_appR _ rfl _ _ rfl _ _ (by rfl) (by rfl) B xs _ (H.out.below (Nat.le_refl _) HB.out) (HR.out.rd HBy.out) HR.out.nilOf (Nat.le_trans hB HB.out.size) (by omega) (by have := HE.out; omega) ?_; intro v2 w2 h1 h2; have H1 := hid h1; have H2 := hid h2; clear h1 h2))
  go_ret
  exact ⟨_, rfl, H1.out, (Grw.ofBelow v HB.out).trans H2.out⟩
set_option maxHeartbeats 1000000 in
theorem appNumber_any (w : World) (B : Nat) (v : Value) (xs : List Nat) (k : Int) (h : Row w B v xs) (hB : B ≤ w.heap.size) (hl : xs.length ≤ 1000000000) (hk : inR k) :
    Calls Try.prog 56 #[v, .int .i64 k] w (ApP w B v (xs ++ enc (zz k))) := by
  have K := hid (appInt_any w B v xs k h hB hl hk)
  clear h hk
  go_enter Try.func56, Try.ntmps56
  go_wp2_with (go_at_call 51; (refine (Hid.out K).mono ?_; rintro e w1 ⟨v1, rfl, hr, hb⟩; have HR := hid hr; have HB := hid hb; clear hr hb))
  go_ret
  exact ⟨_, rfl, HR.out, HB.out⟩
def encTy (t : TyP) : List Nat := enc (zz t.1) ++ enc (zz t.2)
set_option maxHeartbeats 1000000 in
theorem appType_any (w : World) (B : Nat) (v : Value) (xs : List Nat) (t : TyP) (h : Row w B v xs) (hB : B ≤ w.heap.size) (hl : xs.length ≤ 100000000) (hk : inR t.1 ∧ inR t.2) :
    Calls Try.prog 96 #[v, .agg #[.int .i64 t.1, .int .i64 t.2]] w (ApP w B v (xs ++ encTy t)) := by
  obtain ⟨t1, t2⟩ := t
  simp only at hk ⊢
  obtain ⟨W0, hW0⟩ : ∃ W0, W0 = w.alloc (.cells #[.int .i64 t1, .int .i64 t2] 24) := ⟨_, rfl⟩
  obtain ⟨X, hX⟩ : ∃ X, X = w.heap.size := ⟨_, rfl⟩
  have mX : W0.heap[X]? = some (.cells #[.int .i64 t1, .int .i64 t2] 24 (0, 0)) := by rw [hW0, hX]; exact heap_alloc_new w _
  have r0 : Row W0 B v xs := by rw [hW0]; exact h.alloc _
  have hB0 : B ≤ W0.heap.size := by rw [hW0, World.size_alloc]; omega
  have own : some X ≠ v.ownBlock := fun e => by have := (h.own X e.symm).2; omega
  have K1 := hid (appNumber_any W0.drew B v xs t1 r0.drew hB0 (by omega) hk.1)
  have K2 := hid (fun (V : World) (u : Value) (hr : Row V B u (xs ++ enc (zz t1))) (hb : B ≤ V.heap.size) => appNumber_any V B u (xs ++ enc (zz t1)) t2 hr hb (by rw [List.length_append]; have := enc_zz_le t1 hk.1; omega) hk.2)
  have ST : Hid (∀ (V : World) (u : Value), Grw W0 v V u → V.cell? ⟨X, 0, none⟩ = some (.int .i64 t1) ∧ V.cell? ⟨X, 1, none⟩ = some (.int .i64 t2)) := hid (fun V u hg => by
    have h2 := (hg.1.block X (lt_of_heap mX) own).trans mX
    exact ⟨cellOf h2 0, cellOf h2 1⟩)
  have UN : Hid (∀ (V : World) (u : Value), Grw W0 v V u → Grw w v V u) := hid (fun V u hg => by rw [hW0] at hg; exact hg.unalloc)
  obtain ⟨x0, x1⟩ := ST.out W0 v (Grw.refl _ _)
  have HE : Hid (xs ++ encTy (t1, t2) = xs ++ enc (zz t1) ++ enc (zz t2)) := hid (by simp [encTy])
  clear h r0 mX own hk
  go_enter Try.func96, Try.ntmps96
  go_upto_region 1 with fail
  rw [← hX, ← hW0]
  clear hX hW0
  go_region_held3 (fun V => V.cell? ⟨X, 0, none⟩ = some (.int .i64 t1) ∧ V.cell? ⟨X, 1, none⟩ = some (.int .i64 t2)) (first | exact s2 | exact s1 | go_keep) (first
    | (have hno := hs1; (go_at_call 56; (refine (K2.out w1 u1 HR1.out HB1.out).mono ?_; rintro e w2 ⟨u2, rfl, hr2, hg2⟩; have HR2 := hid hr2; have HG2 := hid (HG1.out.trans hg2); have s2 := ST.out w2 u2 HG2.out; clear hr2 hg2)))
    | (go_at_call 56; (refine (Hid.out K1).mono ?_; rintro e w1 ⟨u1, rfl, hr1, hg1⟩; have HR1 := hid hr1; have HG1 := hid hg1.undrew; have HB1 := hid (Nat.le_trans hB0 hg1.size); have s1 := ST.out w1 u1 HG1.out; have hs1 := True.intro; clear hr1 hg1)))
  go_wp2
  go_ret
  exact ⟨_, rfl, by rw [HE.out]; exact HR2.out, UN.out _ _ HG2.out⟩
end Go.Proofs.Ytmhjnfibpngpmaa

namespace Go.Proofs.Ytmhjnfibpngpmaa
open Go.RowKit Go.Deep Go.Shelf
set_option linter.unusedVariables false
set_option linter.unusedSimpArgs false
set_option maxRecDepth 100000
theorem SRd.crd {w : World} {a : Option Addr} {ss : List ByteArray} (h : SRd w a ss) : CRd w a 1 (ss.map stc) := fun j r e => by
  rw [List.getElem?_map] at e
  obtain ⟨s, hs, rfl⟩ := Option.map_eq_some_iff.1 e
  obtain ⟨_, b, off, e1, hc⟩ := h j s hs
  refine ⟨b, off, e1, World.block_lt_of_cell? w _ hc, fun i hi => ?_⟩
  obtain rfl : i = 0 := by omega
  rw [Nat.mul_one]; exact hc
set_option maxHeartbeats 2000000 in
theorem appTexts_any (w0 w : World) (v : Value) (xs : List Nat) (a : Option Addr) (n cap : Nat) (l : List (ByteArray)) (en : ByteArray → List Nat)
    (hw : Below w0.heap.size w0 w) (h : Row w w0.heap.size v xs) (hn : n = l.length) (hnb : n ≤ 1000000) (hr : CRd w0 a 1 (l.map stc)) (hl : (xs ++ enc n ++ (l.map en).flatten).length ≤ 100000000)
    (one : ∀ (V : World) (u : Value) (ys : List Nat) (x : ByteArray), x ∈ l → Below w0.heap.size w0 V → Row V w0.heap.size u ys → (ys ++ en x).length ≤ 100000000 → Calls Try.prog 53 #[u, .string x] V (ApP V w0.heap.size u (ys ++ en x))) :
    Calls Try.prog 52 #[v, .slice a n cap, .func (.func 53) #[] #[]] w (ApP w w0.heap.size v (xs ++ enc n ++ (l.map en).flatten)) := by
  have K0 := hid (putUint_any w n (by omega))
  have hnI : (n : Int) ≤ 1000000 := by omega
  have hnw : IntKind.u64.wrap (n : Int) = (n : Int) := by rw [IntKind.wrap_u64]; omega
  have HN := hid hn
  have HR := hid hr
  have HW := hid hw
  have H := hid h
  have HL := hid hl
  have ONE := hid one
  have hB : w0.heap.size ≤ w.heap.size := hw.size
  have HE := hid (enc_le n (by omega))
  have HBy := hid (enc_byt n)
  have hxl : Hid (xs.length ≤ 100000000) := hid (by simp at hl; omega)
  clear hn hr hw h hl one
  go_enter Try.func52, Try.ntmps52
  go_upto_region 2 with (first
    | (go_at_call 94; (refine (Hid.out K0).mono ?_; rintro e w1 ⟨v1, rfl, hr1, hb1⟩; have HR1 := hid hr1; have HB1 := hid hb1; clear hr1 hb1))
    | (at_builtin; refine wpList_appR _ rfl _ _ rfl _ _ (by rfl) (by rfl) w0.heap.size xs _ (H.out.below (Nat.le_refl _) HB1.out) (HR1.out.rd HBy.out) HR1.out.nilOf (Nat.le_trans hB HB1.out.size) (by have := hxl.out; omega) (by have := HE.out; omega) ?_; intro v2 w2 h1 h2; have H1 := hid h1; have H2 := hid ((Grw.ofBelow v HB1.out).trans h2); clear h1 h2))
  clear K0 HR1 HB1
  go_wp2
  go_loopg [0, 17] n (fun g u x wr => ∃ j : Nat, j + g = n ∧ x = .int .i64 (j : Int) ∧ Row wr w0.heap.size u (xs ++ enc n ++ ((l.take j).map en).flatten) ∧ Grw w v wr u)
  case atStart => exact ⟨0, by omega, rfl, by simpa using H1.out, H2.out⟩
  case round =>
    obtain ⟨j, hj, rfl, hk, hg⟩ := hrel
    obtain ⟨u, hu⟩ : ∃ u, u = u0 := ⟨_, rfl⟩
    subst hu
    have hb : Below w0.heap.size w0 wr := HW.out.trans (hg.below H.out hB)
    cases gk with
    | zero =>
      have hjn : j = n := by omega
      subst hjn
      rw [show l.take j = l from by rw [HN.out, List.take_of_length_le (Nat.le_refl _)]] at hk
      have HK := hid hk
      have HG := hid hg
      clear hk hg hb
      go_wp2
      go_ret
      exact ⟨_, rfl, HK.out, HG.out⟩
    | succ g =>
      have hlj : j < l.length := by rw [← HN.out]; omega
      have hgj : l[j]? = some l[j] := List.getElem?_eq_getElem hlj
      have hm : l[j] ∈ l := List.getElem_mem hlj
      obtain ⟨b, off, ea1, hbl, hc⟩ := (HR.out.below (Nat.le_refl _) hb) j (stc l[j]) (by simp [hgj])
      have ht : Hid (xs ++ enc n ++ ((l.take (j + 1)).map en).flatten = xs ++ enc n ++ ((l.take j).map en).flatten ++ en l[j]) := hid (by rw [List.take_add_one, hgj, List.map_append, List.flatten_append]; simp only [Option.toList, List.map_cons, List.map_nil, List.flatten_cons, List.flatten_nil, List.append_nil, List.append_assoc])
      have hlen : (xs ++ enc n ++ ((l.take j).map en).flatten ++ en l[j]).length ≤ 100000000 := by
        have h1 := HL.out
        have h2 : l = l.take (j + 1) ++ l.drop (j + 1) := (List.take_append_drop _ _).symm
        rw [h2, List.map_append, List.flatten_append] at h1
        rw [← ht.out]
        simp only [List.length_append] at h1 ⊢
        omega
      generalize l[j] = xx at hgj hc hm ht hlen
      subst ea1
      obtain ⟨xd⟩ := xx
      have K := hid (ONE.out wr u (xs ++ enc n ++ ((l.take j).map en).flatten) _ hm hb hk hlen)
      have HB := hid hb
      have HG := hid hg
      have s0 := hc 0 (by omega)
      simp only [stc, List.getElem?_cons_zero, List.getElem?_cons_succ, Nat.add_zero, Nat.mul_one] at s0
      have hjI : (j : Int) < (n : Int) := by omega
      have hj0 : (0 : Int) ≤ (j : Int) := by omega
      clear hk hg hb hgj hc hbl hlj hlen hm
      go_wp2_with (go_at_call 53; (refine (Hid.out K).mono ?_; rintro e w1 ⟨u1, rfl, hr1, hg1⟩; have HR1 := hid hr1; have HG1 := hid hg1; clear hr1 hg1))
      go_roundg g
      case measure => omega
      exact ⟨j + 1, by omega, by go_num, by rw [ht.out]; exact HR1.out, HG.out.trans HG1.out⟩
set_option maxHeartbeats 2000000 in
theorem appInts_any (w0 w : World) (v : Value) (xs : List Nat) (a : Option Addr) (n cap : Nat) (l : List (Int)) (en : Int → List Nat)
    (hw : Below w0.heap.size w0 w) (h : Row w w0.heap.size v xs) (hn : n = l.length) (hnb : n ≤ 1000000) (hr : CRd w0 a 1 (l.map inc)) (hl : (xs ++ enc n ++ (l.map en).flatten).length ≤ 100000000)
    (one : ∀ (V : World) (u : Value) (ys : List Nat) (x : Int), x ∈ l → Below w0.heap.size w0 V → Row V w0.heap.size u ys → (ys ++ en x).length ≤ 100000000 → Calls Try.prog 51 #[u, .int .i64 x] V (ApP V w0.heap.size u (ys ++ en x))) :
    Calls Try.prog 50 #[v, .slice a n cap, .func (.func 51) #[] #[]] w (ApP w w0.heap.size v (xs ++ enc n ++ (l.map en).flatten)) := by
  have K0 := hid (putUint_any w n (by omega))
  have hnI : (n : Int) ≤ 1000000 := by omega
  have hnw : IntKind.u64.wrap (n : Int) = (n : Int) := by rw [IntKind.wrap_u64]; omega
  have HN := hid hn
  have HR := hid hr
  have HW := hid hw
  have H := hid h
  have HL := hid hl
  have ONE := hid one
  have hB : w0.heap.size ≤ w.heap.size := hw.size
  have HE := hid (enc_le n (by omega))
  have HBy := hid (enc_byt n)
  have hxl : Hid (xs.length ≤ 100000000) := hid (by simp at hl; omega)
  clear hn hr hw h hl one
  go_enter Try.func50, Try.ntmps50
  go_upto_region 2 with (first
    | (go_at_call 94; (refine (Hid.out K0).mono ?_; rintro e w1 ⟨v1, rfl, hr1, hb1⟩; have HR1 := hid hr1; have HB1 := hid hb1; clear hr1 hb1))
    | (at_builtin; refine wpList_appR _ rfl _ _ rfl _ _ (by rfl) (by rfl) w0.heap.size xs _ (H.out.below (Nat.le_refl _) HB1.out) (HR1.out.rd HBy.out) HR1.out.nilOf (Nat.le_trans hB HB1.out.size) (by have := hxl.out; omega) (by have := HE.out; omega) ?_; intro v2 w2 h1 h2; have H1 := hid h1; have H2 := hid ((Grw.ofBelow v HB1.out).trans h2); clear h1 h2))
  clear K0 HR1 HB1
  go_wp2
  go_loopg [0, 17] n (fun g u x wr => ∃ j : Nat, j + g = n ∧ x = .int .i64 (j : Int) ∧ Row wr w0.heap.size u (xs ++ enc n ++ ((l.take j).map en).flatten) ∧ Grw w v wr u)
  case atStart => exact ⟨0, by omega, rfl, by simpa using H1.out, H2.out⟩
  case round =>
    obtain ⟨j, hj, rfl, hk, hg⟩ := hrel
    obtain ⟨u, hu⟩ : ∃ u, u = u0 := ⟨_, rfl⟩
    subst hu
    have hb : Below w0.heap.size w0 wr := HW.out.trans (hg.below H.out hB)
    cases gk with
    | zero =>
      have hjn : j = n := by omega
      subst hjn
      rw [show l.take j = l from by rw [HN.out, List.take_of_length_le (Nat.le_refl _)]] at hk
      have HK := hid hk
      have HG := hid hg
      clear hk hg hb
      go_wp2
      go_ret
      exact ⟨_, rfl, HK.out, HG.out⟩
    | succ g =>
      have hlj : j < l.length := by rw [← HN.out]; omega
      have hgj : l[j]? = some l[j] := List.getElem?_eq_getElem hlj
      have hm : l[j] ∈ l := List.getElem_mem hlj
      obtain ⟨b, off, ea1, hbl, hc⟩ := (HR.out.below (Nat.le_refl _) hb) j (inc l[j]) (by simp [hgj])
      have ht : Hid (xs ++ enc n ++ ((l.take (j + 1)).map en).flatten = xs ++ enc n ++ ((l.take j).map en).flatten ++ en l[j]) := hid (by rw [List.take_add_one, hgj, List.map_append, List.flatten_append]; simp only [Option.toList, List.map_cons, List.map_nil, List.flatten_cons, List.flatten_nil, List.append_nil, List.append_assoc])
      have hlen : (xs ++ enc n ++ ((l.take j).map en).flatten ++ en l[j]).length ≤ 100000000 := by
        have h1 := HL.out
        have h2 : l = l.take (j + 1) ++ l.drop (j + 1) := (List.take_append_drop _ _).symm
        rw [h2, List.map_append, List.flatten_append] at h1
        rw [← ht.out]
        simp only [List.length_append] at h1 ⊢
        omega
      generalize l[j] = xx at hgj hc hm ht hlen
      subst ea1
      have K := hid (ONE.out wr u (xs ++ enc n ++ ((l.take j).map en).flatten) _ hm hb hk hlen)
      have HB := hid hb
      have HG := hid hg
      have s0 := hc 0 (by omega)
      simp only [inc, List.getElem?_cons_zero, List.getElem?_cons_succ, Nat.add_zero, Nat.mul_one] at s0
      have hjI : (j : Int) < (n : Int) := by omega
      have hj0 : (0 : Int) ≤ (j : Int) := by omega
      clear hk hg hb hgj hc hbl hlj hlen hm
      go_wp2_with (go_at_call 51; (refine (Hid.out K).mono ?_; rintro e w1 ⟨u1, rfl, hr1, hg1⟩; have HR1 := hid hr1; have HG1 := hid hg1; clear hr1 hg1))
      go_roundg g
      case measure => omega
      exact ⟨j + 1, by omega, by go_num, by rw [ht.out]; exact HR1.out, HG.out.trans HG1.out⟩
set_option maxHeartbeats 2000000 in
theorem appTypes_any (w0 w : World) (v : Value) (xs : List Nat) (a : Option Addr) (n cap : Nat) (l : List (TyP)) (en : TyP → List Nat)
    (hw : Below w0.heap.size w0 w) (h : Row w w0.heap.size v xs) (hn : n = l.length) (hnb : n ≤ 1000000) (hr : CRd w0 a 2 (l.map tyc)) (hl : (xs ++ enc n ++ (l.map en).flatten).length ≤ 100000000)
    (one : ∀ (V : World) (u : Value) (ys : List Nat) (x : TyP), x ∈ l → Below w0.heap.size w0 V → Row V w0.heap.size u ys → (ys ++ en x).length ≤ 100000000 → Calls Try.prog 96 #[u, .agg #[.int .i64 x.1, .int .i64 x.2]] V (ApP V w0.heap.size u (ys ++ en x))) :
    Calls Try.prog 95 #[v, .slice a n cap, .func (.func 96) #[] #[]] w (ApP w w0.heap.size v (xs ++ enc n ++ (l.map en).flatten)) := by
  have K0 := hid (putUint_any w n (by omega))
  have hnI : (n : Int) ≤ 1000000 := by omega
  have hnw : IntKind.u64.wrap (n : Int) = (n : Int) := by rw [IntKind.wrap_u64]; omega
  have HN := hid hn
  have HR := hid hr
  have HW := hid hw
  have H := hid h
  have HL := hid hl
  have ONE := hid one
  have hB : w0.heap.size ≤ w.heap.size := hw.size
  have HE := hid (enc_le n (by omega))
  have HBy := hid (enc_byt n)
  have hxl : Hid (xs.length ≤ 100000000) := hid (by simp at hl; omega)
  clear hn hr hw h hl one
  go_enter Try.func95, Try.ntmps95
  go_upto_region 2 with (first
    | (go_at_call 94; (refine (Hid.out K0).mono ?_; rintro e w1 ⟨v1, rfl, hr1, hb1⟩; have HR1 := hid hr1; have HB1 := hid hb1; clear hr1 hb1))
    | (at_builtin; refine wpList_appR _ rfl _ _ rfl _ _ (by rfl) (by rfl) w0.heap.size xs _ (H.out.below (Nat.le_refl _) HB1.out) (HR1.out.rd HBy.out) HR1.out.nilOf (Nat.le_trans hB HB1.out.size) (by have := hxl.out; omega) (by have := HE.out; omega) ?_; intro v2 w2 h1 h2; have H1 := hid h1; have H2 := hid ((Grw.ofBelow v HB1.out).trans h2); clear h1 h2))
  clear K0 HR1 HB1
  go_wp2
  go_loopg [0, 17] n (fun g u x wr => ∃ j : Nat, j + g = n ∧ x = .int .i64 (j : Int) ∧ Row wr w0.heap.size u (xs ++ enc n ++ ((l.take j).map en).flatten) ∧ Grw w v wr u)
  case atStart => exact ⟨0, by omega, rfl, by simpa using H1.out, H2.out⟩
  case round =>
    obtain ⟨j, hj, rfl, hk, hg⟩ := hrel
    obtain ⟨u, hu⟩ : ∃ u, u = u0 := ⟨_, rfl⟩
    subst hu
    have hb : Below w0.heap.size w0 wr := HW.out.trans (hg.below H.out hB)
    cases gk with
    | zero =>
      have hjn : j = n := by omega
      subst hjn
      rw [show l.take j = l from by rw [HN.out, List.take_of_length_le (Nat.le_refl _)]] at hk
      have HK := hid hk
      have HG := hid hg
      clear hk hg hb
      go_wp2
      go_ret
      exact ⟨_, rfl, HK.out, HG.out⟩
    | succ g =>
      have hlj : j < l.length := by rw [← HN.out]; omega
      have hgj : l[j]? = some l[j] := List.getElem?_eq_getElem hlj
      have hm : l[j] ∈ l := List.getElem_mem hlj
      obtain ⟨b, off, ea1, hbl, hc⟩ := (HR.out.below (Nat.le_refl _) hb) j (tyc l[j]) (by simp [hgj])
      have ht : Hid (xs ++ enc n ++ ((l.take (j + 1)).map en).flatten = xs ++ enc n ++ ((l.take j).map en).flatten ++ en l[j]) := hid (by rw [List.take_add_one, hgj, List.map_append, List.flatten_append]; simp only [Option.toList, List.map_cons, List.map_nil, List.flatten_cons, List.flatten_nil, List.append_nil, List.append_assoc])
      have hlen : (xs ++ enc n ++ ((l.take j).map en).flatten ++ en l[j]).length ≤ 100000000 := by
        have h1 := HL.out
        have h2 : l = l.take (j + 1) ++ l.drop (j + 1) := (List.take_append_drop _ _).symm
        rw [h2, List.map_append, List.flatten_append] at h1
        rw [← ht.out]
        simp only [List.length_append] at h1 ⊢
        omega
      generalize l[j] = xx at hgj hc hm ht hlen
      subst ea1
      obtain ⟨t1, t2⟩ := xx
      obtain ⟨A, hA⟩ : ∃ A, A = wr.alloc (.cells #[.int .i64 t1, .int .i64 t2] 24) := ⟨_, rfl⟩
      obtain ⟨Y, hY⟩ : ∃ Y, Y = wr.heap.size := ⟨_, rfl⟩
      have mY : A.heap[Y]? = some (.cells #[.int .i64 t1, .int .i64 t2] 24 (0, 0)) := by rw [hA, hY]; exact heap_alloc_new wr _
      have K := hid (ONE.out A u (xs ++ enc n ++ ((l.take j).map en).flatten) _ hm (by rw [hA]; exact hb.alloc hb.size _) (by rw [hA]; exact hk.alloc _) hlen)
      have GA : Hid (∀ (u1 : Value) (w1 : World), Grw A u w1 u1 → Grw wr u w1 u1) := hid (fun u1 w1 h => by rw [hA] at h; exact h.unalloc)
      have HB := hid hb
      have HG := hid hg
      have s0 := hc 0 (by omega)
      have s1 := hc 1 (by omega)
      simp only [tyc, List.getElem?_cons_zero, List.getElem?_cons_succ, Nat.add_zero, Nat.mul_one] at s0 s1
      have hjI : (j : Int) < (n : Int) := by omega
      have hj0 : (0 : Int) ≤ (j : Int) := by omega
      clear hk hg hb hgj hc hbl hlj hlen hm
      go_upto_region 5 with fail
      rw [← hA, ← hY]
      clear hA hY s0 s1
      have y0 := cellOf mY 0
      have y1 := cellOf mY 1
      simp only [List.getElem?_toArray, List.getElem?_cons_zero, List.getElem?_cons_succ] at y0 y1
      clear mY
      go_wp2_with (go_at_call 96; (refine (Hid.out K).mono ?_; rintro e w1 ⟨u1, rfl, hr1, hg1⟩; have HR1 := hid hr1; have HG1 := hid (GA.out u1 w1 hg1); clear hr1 hg1))
      go_roundg g
      case measure => omega
      exact ⟨j + 1, by omega, by go_num, by rw [ht.out]; exact HR1.out, HG.out.trans HG1.out⟩
set_option maxHeartbeats 2000000 in
theorem appSigs_any (w0 w : World) (v : Value) (xs : List Nat) (a : Option Addr) (n cap : Nat) (l : List (GH × Sg)) (en : GH × Sg → List Nat)
    (hw : Below w0.heap.size w0 w) (h : Row w w0.heap.size v xs) (hn : n = l.length) (hnb : n ≤ 1000000) (hr : CRd w0 a 4 (l.map (fun p => p.1.cs))) (hl : (xs ++ enc n ++ (l.map en).flatten).length ≤ 100000000)
    (one : ∀ (V : World) (u : Value) (ys : List Nat) (x : GH × Sg), x ∈ l → Below w0.heap.size w0 V → Row V w0.heap.size u ys → (ys ++ en x).length ≤ 100000000 → Calls Try.prog 49 #[u, .agg #[.string x.1.name, .slice x.1.pa x.1.pn x.1.pc, .int .i64 x.1.k, .int .i64 x.1.r]] V (ApP V w0.heap.size u (ys ++ en x))) :
    Calls Try.prog 48 #[v, .slice a n cap, .func (.func 49) #[] #[]] w (ApP w w0.heap.size v (xs ++ enc n ++ (l.map en).flatten)) := by
  have K0 := hid (putUint_any w n (by omega))
  have hnI : (n : Int) ≤ 1000000 := by omega
  have hnw : IntKind.u64.wrap (n : Int) = (n : Int) := by rw [IntKind.wrap_u64]; omega
  have HN := hid hn
  have HR := hid hr
  have HW := hid hw
  have H := hid h
  have HL := hid hl
  have ONE := hid one
  have hB : w0.heap.size ≤ w.heap.size := hw.size
  have HE := hid (enc_le n (by omega))
  have HBy := hid (enc_byt n)
  have hxl : Hid (xs.length ≤ 100000000) := hid (by simp at hl; omega)
  clear hn hr hw h hl one
  go_enter Try.func48, Try.ntmps48
  go_upto_region 2 with (first
    | (go_at_call 94; (refine (Hid.out K0).mono ?_; rintro e w1 ⟨v1, rfl, hr1, hb1⟩; have HR1 := hid hr1; have HB1 := hid hb1; clear hr1 hb1))
    | (at_builtin; refine wpList_appR _ rfl _ _ rfl _ _ (by rfl) (by rfl) w0.heap.size xs _ (H.out.below (Nat.le_refl _) HB1.out) (HR1.out.rd HBy.out) HR1.out.nilOf (Nat.le_trans hB HB1.out.size) (by have := hxl.out; omega) (by have := HE.out; omega) ?_; intro v2 w2 h1 h2; have H1 := hid h1; have H2 := hid ((Grw.ofBelow v HB1.out).trans h2); clear h1 h2))
  clear K0 HR1 HB1
  go_wp2
  go_loopg [0, 17] n (fun g u x wr => ∃ j : Nat, j + g = n ∧ x = .int .i64 (j : Int) ∧ Row wr w0.heap.size u (xs ++ enc n ++ ((l.take j).map en).flatten) ∧ Grw w v wr u)
  case atStart => exact ⟨0, by omega, rfl, by simpa using H1.out, H2.out⟩
  case round =>
    obtain ⟨j, hj, rfl, hk, hg⟩ := hrel
    obtain ⟨u, hu⟩ : ∃ u, u = u0 := ⟨_, rfl⟩
    subst hu
    have hb : Below w0.heap.size w0 wr := HW.out.trans (hg.below H.out hB)
    cases gk with
    | zero =>
      have hjn : j = n := by omega
      subst hjn
      rw [show l.take j = l from by rw [HN.out, List.take_of_length_le (Nat.le_refl _)]] at hk
      have HK := hid hk
      have HG := hid hg
      clear hk hg hb
      go_wp2
      go_ret
      exact ⟨_, rfl, HK.out, HG.out⟩
    | succ g =>
      have hlj : j < l.length := by rw [← HN.out]; omega
      have hgj : l[j]? = some l[j] := List.getElem?_eq_getElem hlj
      have hm : l[j] ∈ l := List.getElem_mem hlj
      obtain ⟨b, off, ea1, hbl, hc⟩ := (HR.out.below (Nat.le_refl _) hb) j ((fun p => p.1.cs) l[j]) (by simp [hgj])
      have ht : Hid (xs ++ enc n ++ ((l.take (j + 1)).map en).flatten = xs ++ enc n ++ ((l.take j).map en).flatten ++ en l[j]) := hid (by rw [List.take_add_one, hgj, List.map_append, List.flatten_append]; simp only [Option.toList, List.map_cons, List.map_nil, List.flatten_cons, List.flatten_nil, List.append_nil, List.append_assoc])
      have hlen : (xs ++ enc n ++ ((l.take j).map en).flatten ++ en l[j]).length ≤ 100000000 := by
        have h1 := HL.out
        have h2 : l = l.take (j + 1) ++ l.drop (j + 1) := (List.take_append_drop _ _).symm
        rw [h2, List.map_append, List.flatten_append] at h1
        rw [← ht.out]
        simp only [List.length_append] at h1 ⊢
        omega
      generalize l[j] = xx at hgj hc hm ht hlen
      subst ea1
      obtain ⟨⟨nm, pa, pn, pc, kd, rr⟩, sx⟩ := xx
      obtain ⟨A, hA⟩ : ∃ A, A = wr.alloc (.cells #[.string nm, .slice pa pn pc, .int .i64 kd, .int .i64 rr] 29) := ⟨_, rfl⟩
      obtain ⟨Y, hY⟩ : ∃ Y, Y = wr.heap.size := ⟨_, rfl⟩
      have mY : A.heap[Y]? = some (.cells #[.string nm, .slice pa pn pc, .int .i64 kd, .int .i64 rr] 29 (0, 0)) := by rw [hA, hY]; exact heap_alloc_new wr _
      have K := hid (ONE.out A u (xs ++ enc n ++ ((l.take j).map en).flatten) _ hm (by rw [hA]; exact hb.alloc hb.size _) (by rw [hA]; exact hk.alloc _) hlen)
      have GA : Hid (∀ (u1 : Value) (w1 : World), Grw A u w1 u1 → Grw wr u w1 u1) := hid (fun u1 w1 h => by rw [hA] at h; exact h.unalloc)
      have HB := hid hb
      have HG := hid hg
      have s0 := hc 0 (by omega)
      have s1 := hc 1 (by omega)
      have s2 := hc 2 (by omega)
      have s3 := hc 3 (by omega)
      simp only [GH.cs, List.getElem?_cons_zero, List.getElem?_cons_succ, Nat.add_zero, Nat.mul_one] at s0 s1 s2 s3
      have hjI : (j : Int) < (n : Int) := by omega
      have hj0 : (0 : Int) ≤ (j : Int) := by omega
      clear hk hg hb hgj hc hbl hlj hlen hm
      go_upto_region 5 with fail
      rw [← hA, ← hY]
      clear hA hY s0 s1 s2 s3
      have y0 := cellOf mY 0
      have y1 := cellOf mY 1
      have y2 := cellOf mY 2
      have y3 := cellOf mY 3
      simp only [List.getElem?_toArray, List.getElem?_cons_zero, List.getElem?_cons_succ] at y0 y1 y2 y3
      clear mY
      go_wp2_with (go_at_call 49; (refine (Hid.out K).mono ?_; rintro e w1 ⟨u1, rfl, hr1, hg1⟩; have HR1 := hid hr1; have HG1 := hid (GA.out u1 w1 hg1); clear hr1 hg1))
      go_roundg g
      case measure => omega
      exact ⟨j + 1, by omega, by go_num, by rw [ht.out]; exact HR1.out, HG.out.trans HG1.out⟩
set_option maxHeartbeats 2000000 in
theorem appMaps_any (w0 w : World) (v : Value) (xs : List Nat) (a : Option Addr) (n cap : Nat) (l : List (Mp)) (en : Mp → List Nat)
    (hw : Below w0.heap.size w0 w) (h : Row w w0.heap.size v xs) (hn : n = l.length) (hnb : n ≤ 1000000) (hr : CRd w0 a 5 (l.map Mp.cs)) (hl : (xs ++ enc n ++ (l.map en).flatten).length ≤ 100000000)
    (one : ∀ (V : World) (u : Value) (ys : List Nat) (x : Mp), x ∈ l → Below w0.heap.size w0 V → Row V w0.heap.size u ys → (ys ++ en x).length ≤ 100000000 → Calls Try.prog 47 #[u, .agg #[.string x.name, .int .i64 x.key.1, .int .i64 x.key.2, .int .i64 x.val.1, .int .i64 x.val.2]] V (ApP V w0.heap.size u (ys ++ en x))) :
    Calls Try.prog 46 #[v, .slice a n cap, .func (.func 47) #[] #[]] w (ApP w w0.heap.size v (xs ++ enc n ++ (l.map en).flatten)) := by
  have K0 := hid (putUint_any w n (by omega))
  have hnI : (n : Int) ≤ 1000000 := by omega
  have hnw : IntKind.u64.wrap (n : Int) = (n : Int) := by rw [IntKind.wrap_u64]; omega
  have HN := hid hn
  have HR := hid hr
  have HW := hid hw
  have H := hid h
  have HL := hid hl
  have ONE := hid one
  have hB : w0.heap.size ≤ w.heap.size := hw.size
  have HE := hid (enc_le n (by omega))
  have HBy := hid (enc_byt n)
  have hxl : Hid (xs.length ≤ 100000000) := hid (by simp at hl; omega)
  clear hn hr hw h hl one
  go_enter Try.func46, Try.ntmps46
  go_upto_region 2 with (first
    | (go_at_call 94; (refine (Hid.out K0).mono ?_; rintro e w1 ⟨v1, rfl, hr1, hb1⟩; have HR1 := hid hr1; have HB1 := hid hb1; clear hr1 hb1))
    | (at_builtin; refine wpList_appR _ rfl _ _ rfl _ _ (by rfl) (by rfl) w0.heap.size xs _ (H.out.below (Nat.le_refl _) HB1.out) (HR1.out.rd HBy.out) HR1.out.nilOf (Nat.le_trans hB HB1.out.size) (by have := hxl.out; omega) (by have := HE.out; omega) ?_; intro v2 w2 h1 h2; have H1 := hid h1; have H2 := hid ((Grw.ofBelow v HB1.out).trans h2); clear h1 h2))
  clear K0 HR1 HB1
  go_wp2
  go_loopg [0, 17] n (fun g u x wr => ∃ j : Nat, j + g = n ∧ x = .int .i64 (j : Int) ∧ Row wr w0.heap.size u (xs ++ enc n ++ ((l.take j).map en).flatten) ∧ Grw w v wr u)
  case atStart => exact ⟨0, by omega, rfl, by simpa using H1.out, H2.out⟩
  case round =>
    obtain ⟨j, hj, rfl, hk, hg⟩ := hrel
    obtain ⟨u, hu⟩ : ∃ u, u = u0 := ⟨_, rfl⟩
    subst hu
    have hb : Below w0.heap.size w0 wr := HW.out.trans (hg.below H.out hB)
    cases gk with
    | zero =>
      have hjn : j = n := by omega
      subst hjn
      rw [show l.take j = l from by rw [HN.out, List.take_of_length_le (Nat.le_refl _)]] at hk
      have HK := hid hk
      have HG := hid hg
      clear hk hg hb
      go_wp2
      go_ret
      exact ⟨_, rfl, HK.out, HG.out⟩
    | succ g =>
      have hlj : j < l.length := by rw [← HN.out]; omega
      have hgj : l[j]? = some l[j] := List.getElem?_eq_getElem hlj
      have hm : l[j] ∈ l := List.getElem_mem hlj
      obtain ⟨b, off, ea1, hbl, hc⟩ := (HR.out.below (Nat.le_refl _) hb) j (Mp.cs l[j]) (by simp [hgj])
      have ht : Hid (xs ++ enc n ++ ((l.take (j + 1)).map en).flatten = xs ++ enc n ++ ((l.take j).map en).flatten ++ en l[j]) := hid (by rw [List.take_add_one, hgj, List.map_append, List.flatten_append]; simp only [Option.toList, List.map_cons, List.map_nil, List.flatten_cons, List.flatten_nil, List.append_nil, List.append_assoc])
      have hlen : (xs ++ enc n ++ ((l.take j).map en).flatten ++ en l[j]).length ≤ 100000000 := by
        have h1 := HL.out
        have h2 : l = l.take (j + 1) ++ l.drop (j + 1) := (List.take_append_drop _ _).symm
        rw [h2, List.map_append, List.flatten_append] at h1
        rw [← ht.out]
        simp only [List.length_append] at h1 ⊢
        omega
      generalize l[j] = xx at hgj hc hm ht hlen
      subst ea1
      obtain ⟨nm, ⟨k1, k2⟩, ⟨v1, v2⟩⟩ := xx
      obtain ⟨A, hA⟩ : ∃ A, A = wr.alloc (.cells #[.string nm, .int .i64 k1, .int .i64 k2, .int .i64 v1, .int .i64 v2] 120) := ⟨_, rfl⟩
      obtain ⟨Y, hY⟩ : ∃ Y, Y = wr.heap.size := ⟨_, rfl⟩
      have mY : A.heap[Y]? = some (.cells #[.string nm, .int .i64 k1, .int .i64 k2, .int .i64 v1, .int .i64 v2] 120 (0, 0)) := by rw [hA, hY]; exact heap_alloc_new wr _
      have K := hid (ONE.out A u (xs ++ enc n ++ ((l.take j).map en).flatten) _ hm (by rw [hA]; exact hb.alloc hb.size _) (by rw [hA]; exact hk.alloc _) hlen)
      have GA : Hid (∀ (u1 : Value) (w1 : World), Grw A u w1 u1 → Grw wr u w1 u1) := hid (fun u1 w1 h => by rw [hA] at h; exact h.unalloc)
      have HB := hid hb
      have HG := hid hg
      have s0 := hc 0 (by omega)
      have s1 := hc 1 (by omega)
      have s2 := hc 2 (by omega)
      have s3 := hc 3 (by omega)
      have s4 := hc 4 (by omega)
      simp only [Mp.cs, List.getElem?_cons_zero, List.getElem?_cons_succ, Nat.add_zero, Nat.mul_one] at s0 s1 s2 s3 s4
      have hjI : (j : Int) < (n : Int) := by omega
      have hj0 : (0 : Int) ≤ (j : Int) := by omega
      clear hk hg hb hgj hc hbl hlj hlen hm
      go_upto_region 5 with fail
      rw [← hA, ← hY]
      clear hA hY s0 s1 s2 s3 s4
      have y0 := cellOf mY 0
      have y1 := cellOf mY 1
      have y2 := cellOf mY 2
      have y3 := cellOf mY 3
      have y4 := cellOf mY 4
      simp only [List.getElem?_toArray, List.getElem?_cons_zero, List.getElem?_cons_succ] at y0 y1 y2 y3 y4
      clear mY
      go_wp2_with (go_at_call 47; (refine (Hid.out K).mono ?_; rintro e w1 ⟨u1, rfl, hr1, hg1⟩; have HR1 := hid hr1; have HG1 := hid (GA.out u1 w1 hg1); clear hr1 hg1))
      go_roundg g
      case measure => omega
      exact ⟨j + 1, by omega, by go_num, by rw [ht.out]; exact HR1.out, HG.out.trans HG1.out⟩
set_option maxHeartbeats 2000000 in
theorem appRecords_any (w0 w : World) (v : Value) (xs : List Nat) (a : Option Addr) (n cap : Nat) (l : List (RH × Rc)) (en : RH × Rc → List Nat)
    (hw : Below w0.heap.size w0 w) (h : Row w w0.heap.size v xs) (hn : n = l.length) (hnb : n ≤ 1000000) (hr : CRd w0 a 3 (l.map (fun p => p.1.cs))) (hl : (xs ++ enc n ++ (l.map en).flatten).length ≤ 100000000)
    (one : ∀ (V : World) (u : Value) (ys : List Nat) (x : RH × Rc), x ∈ l → Below w0.heap.size w0 V → Row V w0.heap.size u ys → (ys ++ en x).length ≤ 100000000 → Calls Try.prog 45 #[u, .agg #[.string x.1.name, .slice x.1.fa x.1.fn x.1.fc, .slice x.1.ta x.1.tn x.1.tc]] V (ApP V w0.heap.size u (ys ++ en x))) :
    Calls Try.prog 44 #[v, .slice a n cap, .func (.func 45) #[] #[]] w (ApP w w0.heap.size v (xs ++ enc n ++ (l.map en).flatten)) := by
  have K0 := hid (putUint_any w n (by omega))
  have hnI : (n : Int) ≤ 1000000 := by omega
  have hnw : IntKind.u64.wrap (n : Int) = (n : Int) := by rw [IntKind.wrap_u64]; omega
  have HN := hid hn
  have HR := hid hr
  have HW := hid hw
  have H := hid h
  have HL := hid hl
  have ONE := hid one
  have hB : w0.heap.size ≤ w.heap.size := hw.size
  have HE := hid (enc_le n (by omega))
  have HBy := hid (enc_byt n)
  have hxl : Hid (xs.length ≤ 100000000) := hid (by simp at hl; omega)
  clear hn hr hw h hl one
  go_enter Try.func44, Try.ntmps44
  go_upto_region 2 with (first
    | (go_at_call 94; (refine (Hid.out K0).mono ?_; rintro e w1 ⟨v1, rfl, hr1, hb1⟩; have HR1 := hid hr1; have HB1 := hid hb1; clear hr1 hb1))
    | (at_builtin; refine wpList_appR _ rfl _ _ rfl _ _ (by rfl) (by rfl) w0.heap.size xs _ (H.out.below (Nat.le_refl _) HB1.out) (HR1.out.rd HBy.out) HR1.out.nilOf (Nat.le_trans hB HB1.out.size) (by have := hxl.out; omega) (by have := HE.out; omega) ?_; intro v2 w2 h1 h2; have H1 := hid h1; have H2 := hid ((Grw.ofBelow v HB1.out).trans h2); clear h1 h2))
  clear K0 HR1 HB1
  go_wp2
  go_loopg [0, 17] n (fun g u x wr => ∃ j : Nat, j + g = n ∧ x = .int .i64 (j : Int) ∧ Row wr w0.heap.size u (xs ++ enc n ++ ((l.take j).map en).flatten) ∧ Grw w v wr u)
  case atStart => exact ⟨0, by omega, rfl, by simpa using H1.out, H2.out⟩
  case round =>
    obtain ⟨j, hj, rfl, hk, hg⟩ := hrel
    obtain ⟨u, hu⟩ : ∃ u, u = u0 := ⟨_, rfl⟩
    subst hu
    have hb : Below w0.heap.size w0 wr := HW.out.trans (hg.below H.out hB)
    cases gk with
    | zero =>
      have hjn : j = n := by omega
      subst hjn
      rw [show l.take j = l from by rw [HN.out, List.take_of_length_le (Nat.le_refl _)]] at hk
      have HK := hid hk
      have HG := hid hg
      clear hk hg hb
      go_wp2
      go_ret
      exact ⟨_, rfl, HK.out, HG.out⟩
    | succ g =>
      have hlj : j < l.length := by rw [← HN.out]; omega
      have hgj : l[j]? = some l[j] := List.getElem?_eq_getElem hlj
      have hm : l[j] ∈ l := List.getElem_mem hlj
      obtain ⟨b, off, ea1, hbl, hc⟩ := (HR.out.below (Nat.le_refl _) hb) j ((fun p => p.1.cs) l[j]) (by simp [hgj])
      have ht : Hid (xs ++ enc n ++ ((l.take (j + 1)).map en).flatten = xs ++ enc n ++ ((l.take j).map en).flatten ++ en l[j]) := hid (by rw [List.take_add_one, hgj, List.map_append, List.flatten_append]; simp only [Option.toList, List.map_cons, List.map_nil, List.flatten_cons, List.flatten_nil, List.append_nil, List.append_assoc])
      have hlen : (xs ++ enc n ++ ((l.take j).map en).flatten ++ en l[j]).length ≤ 100000000 := by
        have h1 := HL.out
        have h2 : l = l.take (j + 1) ++ l.drop (j + 1) := (List.take_append_drop _ _).symm
        rw [h2, List.map_append, List.flatten_append] at h1
        rw [← ht.out]
        simp only [List.length_append] at h1 ⊢
        omega
      generalize l[j] = xx at hgj hc hm ht hlen
      subst ea1
      obtain ⟨⟨nm, fa, fn, fc, ta, tn, tc⟩, rx⟩ := xx
      obtain ⟨A, hA⟩ : ∃ A, A = wr.alloc (.cells #[.string nm, .slice fa fn fc, .slice ta tn tc] 32) := ⟨_, rfl⟩
      obtain ⟨Y, hY⟩ : ∃ Y, Y = wr.heap.size := ⟨_, rfl⟩
      have mY : A.heap[Y]? = some (.cells #[.string nm, .slice fa fn fc, .slice ta tn tc] 32 (0, 0)) := by rw [hA, hY]; exact heap_alloc_new wr _
      have K := hid (ONE.out A u (xs ++ enc n ++ ((l.take j).map en).flatten) _ hm (by rw [hA]; exact hb.alloc hb.size _) (by rw [hA]; exact hk.alloc _) hlen)
      have GA : Hid (∀ (u1 : Value) (w1 : World), Grw A u w1 u1 → Grw wr u w1 u1) := hid (fun u1 w1 h => by rw [hA] at h; exact h.unalloc)
      have HB := hid hb
      have HG := hid hg
      have s0 := hc 0 (by omega)
      have s1 := hc 1 (by omega)
      have s2 := hc 2 (by omega)
      simp only [RH.cs, List.getElem?_cons_zero, List.getElem?_cons_succ, Nat.add_zero, Nat.mul_one] at s0 s1 s2
      have hjI : (j : Int) < (n : Int) := by omega
      have hj0 : (0 : Int) ≤ (j : Int) := by omega
      clear hk hg hb hgj hc hbl hlj hlen hm
      go_upto_region 5 with fail
      rw [← hA, ← hY]
      clear hA hY s0 s1 s2
      have y0 := cellOf mY 0
      have y1 := cellOf mY 1
      have y2 := cellOf mY 2
      simp only [List.getElem?_toArray, List.getElem?_cons_zero, List.getElem?_cons_succ] at y0 y1 y2
      clear mY
      go_wp2_with (go_at_call 45; (refine (Hid.out K).mono ?_; rintro e w1 ⟨u1, rfl, hr1, hg1⟩; have HR1 := hid hr1; have HG1 := hid (GA.out u1 w1 hg1); clear hr1 hg1))
      go_roundg g
      case measure => omega
      exact ⟨j + 1, by omega, by go_num, by rw [ht.out]; exact HR1.out, HG.out.trans HG1.out⟩
set_option maxHeartbeats 2000000 in
theorem appOps_any (w0 w : World) (v : Value) (xs : List Nat) (a : Option Addr) (n cap : Nat) (l : List (Opx)) (en : Opx → List Nat)
    (hw : Below w0.heap.size w0 w) (h : Row w w0.heap.size v xs) (hn : n = l.length) (hnb : n ≤ 1000000) (hr : CRd w0 a 5 (l.map (fun o => o.cs.toList))) (hl : (xs ++ enc n ++ (l.map en).flatten).length ≤ 100000000)
    (one : ∀ (V : World) (u : Value) (ys : List Nat) (x : Opx), x ∈ l → Below w0.heap.size w0 V → Row V w0.heap.size u ys → (ys ++ en x).length ≤ 100000000 → Calls Try.prog 57 #[u, .agg #[.int .i64 x.c, .int .i64 x.d, .int .i64 x.a, .int .i64 x.b, .int .i64 x.k]] V (ApP V w0.heap.size u (ys ++ en x))) :
    Calls Try.prog 55 #[v, .slice a n cap, .func (.func 57) #[] #[]] w (ApP w w0.heap.size v (xs ++ enc n ++ (l.map en).flatten)) := by
  have K0 := hid (putUint_any w n (by omega))
  have hnI : (n : Int) ≤ 1000000 := by omega
  have hnw : IntKind.u64.wrap (n : Int) = (n : Int) := by rw [IntKind.wrap_u64]; omega
  have HN := hid hn
  have HR := hid hr
  have HW := hid hw
  have H := hid h
  have HL := hid hl
  have ONE := hid one
  have hB : w0.heap.size ≤ w.heap.size := hw.size
  have HE := hid (enc_le n (by omega))
  have HBy := hid (enc_byt n)
  have hxl : Hid (xs.length ≤ 100000000) := hid (by simp at hl; omega)
  clear hn hr hw h hl one
  go_enter Try.func55, Try.ntmps55
  go_upto_region 2 with (first
    | (go_at_call 94; (refine (Hid.out K0).mono ?_; rintro e w1 ⟨v1, rfl, hr1, hb1⟩; have HR1 := hid hr1; have HB1 := hid hb1; clear hr1 hb1))
    | (at_builtin; refine wpList_appR _ rfl _ _ rfl _ _ (by rfl) (by rfl) w0.heap.size xs _ (H.out.below (Nat.le_refl _) HB1.out) (HR1.out.rd HBy.out) HR1.out.nilOf (Nat.le_trans hB HB1.out.size) (by have := hxl.out; omega) (by have := HE.out; omega) ?_; intro v2 w2 h1 h2; have H1 := hid h1; have H2 := hid ((Grw.ofBelow v HB1.out).trans h2); clear h1 h2))
  clear K0 HR1 HB1
  go_wp2
  go_loopg [0, 17] n (fun g u x wr => ∃ j : Nat, j + g = n ∧ x = .int .i64 (j : Int) ∧ Row wr w0.heap.size u (xs ++ enc n ++ ((l.take j).map en).flatten) ∧ Grw w v wr u)
  case atStart => exact ⟨0, by omega, rfl, by simpa using H1.out, H2.out⟩
  case round =>
    obtain ⟨j, hj, rfl, hk, hg⟩ := hrel
    obtain ⟨u, hu⟩ : ∃ u, u = u0 := ⟨_, rfl⟩
    subst hu
    have hb : Below w0.heap.size w0 wr := HW.out.trans (hg.below H.out hB)
    cases gk with
    | zero =>
      have hjn : j = n := by omega
      subst hjn
      rw [show l.take j = l from by rw [HN.out, List.take_of_length_le (Nat.le_refl _)]] at hk
      have HK := hid hk
      have HG := hid hg
      clear hk hg hb
      go_wp2
      go_ret
      exact ⟨_, rfl, HK.out, HG.out⟩
    | succ g =>
      have hlj : j < l.length := by rw [← HN.out]; omega
      have hgj : l[j]? = some l[j] := List.getElem?_eq_getElem hlj
      have hm : l[j] ∈ l := List.getElem_mem hlj
      obtain ⟨b, off, ea1, hbl, hc⟩ := (HR.out.below (Nat.le_refl _) hb) j ((fun o => o.cs.toList) l[j]) (by simp [hgj])
      have ht : Hid (xs ++ enc n ++ ((l.take (j + 1)).map en).flatten = xs ++ enc n ++ ((l.take j).map en).flatten ++ en l[j]) := hid (by rw [List.take_add_one, hgj, List.map_append, List.flatten_append]; simp only [Option.toList, List.map_cons, List.map_nil, List.flatten_cons, List.flatten_nil, List.append_nil, List.append_assoc])
      have hlen : (xs ++ enc n ++ ((l.take j).map en).flatten ++ en l[j]).length ≤ 100000000 := by
        have h1 := HL.out
        have h2 : l = l.take (j + 1) ++ l.drop (j + 1) := (List.take_append_drop _ _).symm
        rw [h2, List.map_append, List.flatten_append] at h1
        rw [← ht.out]
        simp only [List.length_append] at h1 ⊢
        omega
      generalize l[j] = xx at hgj hc hm ht hlen
      subst ea1
      obtain ⟨oc, od, oa, ob, ok⟩ := xx
      obtain ⟨A, hA⟩ : ∃ A, A = wr.alloc (.cells #[.int .i64 oc, .int .i64 od, .int .i64 oa, .int .i64 ob, .int .i64 ok] 41) := ⟨_, rfl⟩
      obtain ⟨Y, hY⟩ : ∃ Y, Y = wr.heap.size := ⟨_, rfl⟩
      have mY : A.heap[Y]? = some (.cells #[.int .i64 oc, .int .i64 od, .int .i64 oa, .int .i64 ob, .int .i64 ok] 41 (0, 0)) := by rw [hA, hY]; exact heap_alloc_new wr _
      have K := hid (ONE.out A u (xs ++ enc n ++ ((l.take j).map en).flatten) _ hm (by rw [hA]; exact hb.alloc hb.size _) (by rw [hA]; exact hk.alloc _) hlen)
      have GA : Hid (∀ (u1 : Value) (w1 : World), Grw A u w1 u1 → Grw wr u w1 u1) := hid (fun u1 w1 h => by rw [hA] at h; exact h.unalloc)
      have HB := hid hb
      have HG := hid hg
      have s0 := hc 0 (by omega)
      have s1 := hc 1 (by omega)
      have s2 := hc 2 (by omega)
      have s3 := hc 3 (by omega)
      have s4 := hc 4 (by omega)
      simp only [Opx.cs, List.getElem?_cons_zero, List.getElem?_cons_succ, Nat.add_zero, Nat.mul_one] at s0 s1 s2 s3 s4
      have hjI : (j : Int) < (n : Int) := by omega
      have hj0 : (0 : Int) ≤ (j : Int) := by omega
      clear hk hg hb hgj hc hbl hlj hlen hm
      go_upto_region 5 with fail
      rw [← hA, ← hY]
      clear hA hY s0 s1 s2 s3 s4
      have y0 := cellOf mY 0
      have y1 := cellOf mY 1
      have y2 := cellOf mY 2
      have y3 := cellOf mY 3
      have y4 := cellOf mY 4
      simp only [List.getElem?_toArray, List.getElem?_cons_zero, List.getElem?_cons_succ] at y0 y1 y2 y3 y4
      clear mY
      go_wp2_with (go_at_call 57; (refine (Hid.out K).mono ?_; rintro e w1 ⟨u1, rfl, hr1, hg1⟩; have HR1 := hid hr1; have HG1 := hid (GA.out u1 w1 hg1); clear hr1 hg1))
      go_roundg g
      case measure => omega
      exact ⟨j + 1, by omega, by go_num, by rw [ht.out]; exact HR1.out, HG.out.trans HG1.out⟩
end Go.Proofs.Ytmhjnfibpngpmaa

