/- The document's PutValue. -/
import Derived.Test.YtjfkcafocindjaaN2
import Derived.Test.YtjfkcafocindjaaT2
namespace Go.Proofs.Ytjfkcafocindjaa
open Go.RowKit Go.Deep
set_option linter.unusedVariables false
set_option linter.unusedSimpArgs false

theorem Row.lit {w : World} {b B x : Nat} {y : Int} (hy : y = x) (h : w.heap[b]? = some (.cells #[.int .u8 y] 5 (0, 0))) (hB : B ≤ b) : Row w B (.slice (some ⟨b, 0, none⟩) 1 1) [x] := by
  subst hy
  exact ⟨by simp [bv], .inr ⟨b, 1, _, rfl, hB, h, by simp, by unfold maxLen; omega, by simp, by simp [bv]⟩⟩
theorem lit_after {w1 w2 : World} {B x : Nat} {y : Int} (hy : y = x) (hB : B ≤ w1.heap.size) (hb : Below (w1.heap.size + 1) (w1.alloc (.cells #[.int .u8 y] 5)) w2) : Row w2 B (.slice (some ⟨w1.heap.size, 0, none⟩) 1 1) [x] :=
  Row.lit hy ((hb.block _ (by omega)).trans (heap_alloc_new w1 _)) hB
theorem step_appR {ops : Array Oper} {o : Oper} {a : Act} {w : World} {K : Act → World → Prop} {Q : Exit → Act → World → Prop} {E : Prop} (hgd : o.guard = none) (s x : Operand)
    (ho : o.op = .call { callee := .builtin .append, args := #[s, x], argTypes := #[23, 23] }) (v u : Value) (hs : a.eval s = v) (hx : a.eval x = u)
    (B : Nat) (xs ys : List Nat) (h : Row w B v xs) (hu : Rd w u ys) (hnil : u.ownBlock = none → u = .slice none 0 0) (hB : B ≤ w.heap.size) (hl : xs.length ≤ 1099511627776) (hl2 : ys.length ≤ 1099511627776)
    (k : ∀ v' w', Row w' B v' (xs ++ ys) → Grw w v w' v' → K (a.put o.dst v') w') :
    if Region.wanted o (yielded ops a.tmps) = true then Oper.wp Try.prog o a w K Q else E := by
  have hw : Region.wanted o (yielded ops a.tmps) = true := by simp [Region.wanted, hgd]
  rw [if_pos hw]
  obtain ⟨v', w', hr, h2, h3⟩ := run_appR w o.type B v u xs ys h hu hnil hB hl hl2
  unfold Oper.wp execOp
  simp only [ho, resolve, invoke, builtin, Sem.run_bind, Sem.run_pure, Result.andThen_ok, List.map_toArray, List.map_cons, List.map_nil, hs, hx, hr]
  exact k v' w' h2 h3

set_option maxRecDepth 10000 in
set_option maxHeartbeats 2000000 in
theorem refPut_simple (w : World) (h : Hd) (hin : h.In) (hk : h.kind ≠ 4) :
    Calls Try.prog 32 #[h.v] w fun e w' => Below w.heap.size w w' ∧ PutP w.heap.size (simpleB h) (encS h) e w' := by
  have K46 : Hid (Calls Try.prog 46 #[h.v] (w.alloc (.cells h.v.cells 45)) fun e w' => e = .returned (.bool (simpleB h)) ∧ Below (w.heap.size + 1) (w.alloc (.cells h.v.cells 45)) w') := by
    refine hid ((refPlain_simple (w.alloc (.cells h.v.cells 45)) h hin hk).mono ?_)
    rintro e w' ⟨rfl, rfl⟩
    exact ⟨rfl, (Below.refl _ _).alloc (by simp) _⟩
  have hB0 : Below w.heap.size w (w.alloc (.cells h.v.cells 45)) := (Below.refl _ _).alloc (Nat.le_refl _) _
  cases hs : simpleB h with
  | false =>
    rw [hs] at K46
    obtain ⟨kind, int, text, rc, a, n, cap⟩ := h
    simp only [Hd.v, Value.cells] at K46 hB0 ⊢
    clear hin hk hs
    go_enter Try.func32, Try.ntmps32
    go_wp2_with (go_at_call 46; (refine (Hid.out K46).mono ?_; rintro e w1 ⟨rfl, hb1⟩))
    go_ret2
    exact ⟨hB0.trans (hb1.mono (by omega)), .slice none 0 0, rfl, Row.nil _ _⟩
  | true =>
    rw [hs] at K46
    have hi0 := hin.i0
    have hi1 := hin.i1
    have ht0 := hin.t
    obtain ⟨h1, h2, h3⟩ := simpleB_cases hs
    obtain ⟨kind, int, text, rc, a, n, cap⟩ := h
    simp only [Hd.v, Value.cells] at K46 hB0 h1 h2 h3 hi0 hi1 ht0 ⊢
    clear hin hk hs
    subst h1 h2
    rcases h3 with ⟨rfl, rfl⟩ | ⟨rfl, rfl, ht⟩ | ⟨rfl, rfl, hi⟩
    · go_enter Try.func32, Try.ntmps32
      go_wp2_with (first
        | (go_at_call 46; (refine (Hid.out K46).mono ?_; rintro e w1 ⟨rfl, hb1⟩; have hbx := res_cells' hb1; have g0 := cellOf hbx 0; have g1 := cellOf hbx 1; simp only [List.getElem?_toArray, List.getElem?_cons_zero, List.getElem?_cons_succ] at g0 g1; clear hbx; have hsz : w.heap.size < w1.heap.size := (by have := hb1.size; simp at this; omega)))
        | (go_at_call 15; (refine (refPutInt_any _ int hi0 hi1).mono ?_; rintro e w2 ⟨v2, rfl, hr2, hb2⟩; have hz2 := hb2.size; simp only [World.size_alloc] at hr2 hb2 hz2))
        | (at_builtin; (refine wpList_appR _ rfl _ _ rfl _ _ (by rfl) (by rfl) w.heap.size [1] (enc (zz int)) (lit_after rfl (by omega) hb2) (hr2.rd (enc_byt _)) hr2.nilOf (by omega) (by simp) (by have := enc_le (zz int) (zz_lt _ hi0 hi1); omega) ?_; intro v3 w3 hr3 hg3)))
      go_ret2
      refine ⟨?_, v3, rfl, by simpa [encS] using hr3⟩
      exact ((hB0.trans (hb1.mono (by omega))).alloc (by omega) _).trans ((hb2.mono (by omega)).trans (hg3.below (lit_after rfl (by omega) hb2) (by omega)))
    · go_enter Try.func32, Try.ntmps32
      go_wp2_with (first
        | (go_at_call 46; (refine (Hid.out K46).mono ?_; rintro e w1 ⟨rfl, hb1⟩; have hbx := res_cells' hb1; have g0 := cellOf hbx 0; have g2 := cellOf hbx 2; simp only [List.getElem?_toArray, List.getElem?_cons_zero, List.getElem?_cons_succ] at g0 g2; clear hbx; have hsz : w.heap.size < w1.heap.size := (by have := hb1.size; simp at this; omega)))
        | (go_at_call 16; (refine (refPutText_any _ text (by omega)).mono ?_; rintro e w2 ⟨v2, rfl, hr2, hb2⟩; have hz2 := hb2.size; simp only [World.size_alloc] at hr2 hb2 hz2))
        | (at_builtin; (refine wpList_appR _ rfl _ _ rfl _ _ (by rfl) (by rfl) w.heap.size [2] (encT text) (lit_after rfl (by omega) hb2) (hr2.rd (encT_byt _)) hr2.nilOf (by omega) (by simp) (by have := enc_le text.size (by omega); simp [encT, sb_length]; omega) ?_; intro v3 w3 hr3 hg3)))
      go_ret2
      refine ⟨?_, v3, rfl, by simpa [encS] using hr3⟩
      exact ((hB0.trans (hb1.mono (by omega))).alloc (by omega) _).trans ((hb2.mono (by omega)).trans (hg3.below (lit_after rfl (by omega) hb2) (by omega)))
    · obtain ⟨m, rfl⟩ : ∃ m : Nat, int = (m : Int) := ⟨int.toNat, by omega⟩
      have hm : m ≤ 1 := by omega
      go_enter Try.func32, Try.ntmps32
      go_wp2_with (first
        | (go_at_call 46; (refine (Hid.out K46).mono ?_; rintro e w1 ⟨rfl, hb1⟩; have hbx := res_cells' hb1; have g0 := cellOf hbx 0; have g1 := cellOf hbx 1; simp only [List.getElem?_toArray, List.getElem?_cons_zero, List.getElem?_cons_succ] at g0 g1; clear hbx; have hsz : w.heap.size < w1.heap.size := (by have := hb1.size; simp at this; omega)))
        | (at_builtin; (refine wpList_app1 _ rfl _ _ rfl _ _ (by rfl) (by first | rfl | (rw [World.size_alloc]; rfl)) w.heap.size [3] m (by omega) (lit_after rfl (by omega) (Below.refl _ _)) (by simp; omega) (by simp) ?_; intro v3 w3 hr3 hg3)))
      go_ret2
      refine ⟨?_, v3, rfl, by simpa [encS] using hr3⟩
      exact ((hB0.trans (hb1.mono (by omega))).alloc (by omega) _).trans (hg3.below (lit_after rfl (by omega) (Below.refl _ _)) (by simp; omega))
end Go.Proofs.Ytjfkcafocindjaa
