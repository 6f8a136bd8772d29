/-
  CodecRows returns true for every row of values, and its argument reads behind the call as it read before.
  No condition.
-/
import Derived.Test.YtjfkcafocindjaaK2
import Derived.Test.YtjfkcafocindjaaO
namespace Go.Proofs.Ytjfkcafocindjaa
open Go.ChangeShapes Go.WideShapes Go.ChangeAt Go.RowKit Go.Deep
set_option linter.unusedVariables false
set_option linter.unusedSimpArgs false

theorem len_of {H : Type} {enc : TypeId × Value → H} {W : World} {a : Option Addr} {n cap : Nat} (h : Trd enc W a n cap) : n ≤ 9223372036854775807 := by
  obtain ⟨fuel, x, hf⟩ := h
  rcases open_slice Try.underlying43 hf with ⟨hcs, _⟩ | ⟨a, l, c, m, n', D, Pl, hcs, _, hl, hm', hm, _, hx⟩
  · simp at hcs
    omega
  · simp at hcs
    unfold maxLen at hm'
    omega
theorem deepAll_of {H : Type} {enc : TypeId × Value → H} {W : World} {a : Option Addr} {n cap : Nat} (h : Trd enc W a n cap) : ∃ hs : List Hd, n = hs.length ∧ VRd W a hs ∧ DeepAll W hs := by
  obtain ⟨hs, h1, h2, h3⟩ := row_of h
  exact ⟨hs, h1.symm, h2, fun j h e => deep_of (h3 h (List.mem_of_getElem? e)).1 (h3 h (List.mem_of_getElem? e)).2⟩

set_option maxRecDepth 100000 in
theorem rows_lifted (os : Os) (started : os.Started) (H : Type) (enc : TypeId × Value → H) :
    ReturnsInHanded {} Try.checked os 8 .any (Rows.codecRowsSpec.pre6 enc Try.prog Try.f8 Rows.codecRowsRow.domain false) (Rows.codecRowsSpec.post enc Try.prog Try.f8 false true false false) := by
  refine returnsInHanded_of_change (C := Try.checked) ownN started (by kernel_rfl) Try.func8
    (ChangeSpec.witness6 (enc := enc) (C := Try.checked) false ⟨#[], #[.slice none 0 0], []⟩ 8 (by kernel_rfl) (by kernel_rfl) (by kernel_rfl) (by kernel_rfl)) ?_
  intro W base args ds gs before hval0 hW hcnd _
  have hval : ∀ (j : Nat) t v, Try.f8.params[j]? = some t → args[j]? = some v → Value.okWide Try.prog W .any base t v := hval0
  have hW' := hW
  obtain ⟨p, q, hA0, hV, rfl, hfz, hnd⟩ := hW
  have hA : DataW.TrodAll enc Try.prog W 0 (fun _ => true) true Try.f8.params.toList args.toList ds p := hA0
  rw [Try.params8] at hA hval
  obtain ⟨v3, vs3, d3, ds3, p3, q3, hargs, rfl, rfl, h3, r3⟩ := trodAll_cons hA
  obtain ⟨rfl, rfl, rfl⟩ := trodAll_nil r3
  obtain rfl : args = #[v3] := by cases args; simp_all
  obtain ⟨rfl, rfl⟩ := trodVars_none hV
  obtain ⟨a3, len3, cap3, rfl⟩ := okWide_slice Try.underlying43 (hval 0 43 v3 rfl rfl)
  have lt3 : ∀ x ∈ p3, x.block < W.heap.size := by obtain ⟨m, hm⟩ := h3; exact DataW.trod_lt m _ _ _ hm
  have ht : Trd enc W a3 len3 cap3 := by obtain ⟨m, hm⟩ := h3; exact ⟨m, _, hm⟩
  obtain ⟨hs, hn, hv, hd⟩ := deepAll_of ht
  clear hA0 hval0
  refine (rows_any W a3 len3 cap3 hs hn (len_of ht) hv hd).mono fun e W' ⟨he, bel⟩ => ?_
  subst he
  exact ⟨_, rfl, _, _, _, [], _, [], hW', trodAll_mk1 (shut_bool Try.underlying4 _), (trodAll_cons_mk (Below.trod laidOut (by kernel_rfl) (of_decide_eq_true (by kernel_rfl)) h3 bel lt3) trodAll_mk0), rfl, bel.frame _, fun h => by cases h⟩

theorem codecRows_holds : Rows.CodecRowsSaid :=
  OpenClaim.holds_of_wide 8 Try.f8 rfl rfl rfl rfl rfl rfl rfl ⟨rfl, rfl, rfl, rfl, rfl⟩ rfl rfl rfl rfl rfl (by kernel_rfl) Try.func8 (by kernel_rfl)
    (of_decide_eq_true (by kernel_rfl)) (by unfold Func.isWrapper; first | (rw [if_pos (by decide +kernel)]; kernel_rfl) | (rw [if_neg (by decide +kernel)]; exact ⟨rfl, rfl⟩))
    (fun os started H enc _ => rows_lifted os started H enc)
#print axioms codecRows_holds
end Go.Proofs.Ytjfkcafocindjaa
