/-
  CodecBack returns true for every value, event and two rows of bytes, and its arguments read behind the call as they read before.
  No condition.
-/
import Derived.Test.YtjfkcafocindjaaR2
import Derived.Test.YtjfkcafocindjaaO
namespace Go.Proofs.Ytjfkcafocindjaa
open Go.ChangeShapes Go.WideShapes Go.ChangeAt Go.RowKit Go.Deep
set_option linter.unusedVariables false
set_option linter.unusedSimpArgs false

section
variable {H : Type} {enc : TypeId × Value → H} {W : World}
theorem len_trd {a : Option Addr} {n cap : Nat} (h : Trd enc W a n cap) : n ≤ 9223372036854775807 := by
  obtain ⟨fuel, x, hf⟩ := h
  rcases open_slice Try.underlying43 hf with ⟨hcs, _⟩ | ⟨a, l, c, m, n', D, Pl, hcs, _, hl, hm', hm, _, hx⟩
  · simp at hcs
    omega
  · simp at hcs
    unfold maxLen at hm'
    omega
theorem deepAll_trd {a : Option Addr} {n cap : Nat} (h : Trd enc W a n cap) : ∃ hs : List Hd, n = hs.length ∧ VRd W a hs ∧ DeepAll W hs := by
  obtain ⟨hs, h1, h2, h3⟩ := row_of h
  exact ⟨hs, h1.symm, h2, fun j h e => deep_of (h3 h (List.mem_of_getElem? e)).1 (h3 h (List.mem_of_getElem? e)).2⟩
theorem prd_of {a : Option Addr} {n cap : Nat} (h : Trd enc W a n cap) : ∃ ps : List (Hd × List Hd), n = ps.length ∧ PRd W a ps := by
  obtain ⟨hs, h1, h2, h3⟩ := row_of h
  have hF : ∀ h : Hd, ∃ fs : List Hd, h ∈ hs → fs.length = h.n ∧ VRd W h.a fs ∧ ∀ f ∈ fs, f.In := by
    intro h
    by_cases hm : h ∈ hs
    · obtain ⟨fs, g1, g2, g3⟩ := row_of (h3 h hm).2
      exact ⟨fs, fun _ => ⟨g1, g2, fun f hf => (g3 f hf).1⟩⟩
    · exact ⟨[], fun h => absurd h hm⟩
  refine ⟨hs.map (fun h => (h, Classical.choose (hF h))), by simp [h1], ?_, ?_, ?_, ?_, ?_⟩
  · have : (hs.map (fun h => (h, Classical.choose (hF h)))).map Prod.fst = hs := by simp [Function.comp_def]
    rw [this]
    exact h2
  all_goals
    intro p hp
    simp only [List.mem_map] at hp
    obtain ⟨h, hm, rfl⟩ := hp
  · exact (h3 h hm).1
  · exact (Classical.choose_spec (hF h) hm).1.symm
  · exact (Classical.choose_spec (hF h) hm).2.1
  · exact (Classical.choose_spec (hF h) hm).2.2
theorem cells52 : Try.prog.cellsOf 52 = 2 := by kernel_rfl
theorem event_of {fuel : Nat} {cs : List Value} {x : DataW H × List MemPlace} (h : DataW.trod enc Try.prog W 0 (fun _ => true) true fuel 52 cs = some x) :
    ∃ (s : ByteArray) (a : Option Addr) (n cap : Nat), cs = [.string s, .slice a n cap] ∧ Trd enc W a n cap := by
  obtain ⟨xs, n, _, rfl, hl, hlen, hf⟩ := DataW.trod_struct Try.underlying52 h
  rw [cells52] at hl
  match cs, hl with
  | [c0, c1], _ =>
    match xs, hlen with
    | [y0, y1], _ =>
      have h0 := hf 0 _ rfl
      have h1 := hf 1 _ rfl
      simp [cells9, cells43] at h0 h1
      obtain ⟨n0, e0, _, w0⟩ := DataW.trod_string Try.underlying9 h0
      simp at e0
      subst e0
      rcases open_slice Try.underlying43 h1 with ⟨hcs, _⟩ | ⟨a, l, c, m, n', D, Pl, hcs, _, hl, hm', hm, _, hx⟩
      · simp at hcs
        subst hcs
        exact ⟨n0, none, 0, 0, rfl, _, _, h1⟩
      · simp at hcs
        subst hcs
        exact ⟨n0, some a, l, c, rfl, _, _, h1⟩
theorem val_arg {v : Value} {base : Nat} {d : DataW H} {p : List MemPlace} (hv : Value.okWide Try.prog W .any base 45 v) (h : DataW.Trod enc Try.prog W 0 (fun _ => true) true 45 v d p) : ∃ h : Hd, v = h.v ∧ ∃ fs gs, Deep W h fs gs := by
  obtain ⟨cs, rfl, hs⟩ := okWide_struct Try.underlying45 hv
  obtain ⟨m, hm⟩ := h
  obtain ⟨h, e, hin, ht⟩ := val_of hm
  refine ⟨h, ?_, deep_of hin ht⟩
  have : cs.toList = h.cs := e
  have e2 : cs = h.cs.toArray := by rw [← this]
  rw [e2]
  rfl
theorem ev_arg {v : Value} {base : Nat} {d : DataW H} {p : List MemPlace} (hv : Value.okWide Try.prog W .any base 52 v) (h : DataW.Trod enc Try.prog W 0 (fun _ => true) true 52 v d p) : ∃ (s : ByteArray) (a : Option Addr) (n cap : Nat), v = .agg #[.string s, .slice a n cap] ∧ Trd enc W a n cap := by
  obtain ⟨cs, rfl, hs⟩ := okWide_struct Try.underlying52 hv
  obtain ⟨m, hm⟩ := h
  obtain ⟨s, a, n, cap, e, ht⟩ := event_of hm
  refine ⟨s, a, n, cap, ?_, ht⟩
  have : cs.toList = [.string s, .slice a n cap] := e
  have e2 : cs = #[.string s, .slice a n cap] := by
    have := congrArg List.toArray this
    simpa using this
  rw [e2]
end

theorem back_any (w : World) (h : Hd) (fs : List Hd) (gs : Nat → List Hd) (s : ByteArray) (a : Option Addr) (n cap : Nat) (hs : List Hd) (ps : List (Hd × List Hd)) (am : Option Addr) (nm cm : Nat) (ms : List Nat) (ab : Option Addr) (nb cb : Nat) (bs : List Nat)
    (I : BIn w h fs gs s a n cap hs ps am nm cm ms ab nb cb bs) :
    Calls Try.prog 6 #[h.v, .agg #[.string s, .slice a n cap], .slice am nm cm, .slice ab nb cb] w fun e w' => e = .returned (.bool true) ∧ Below w.heap.size w w' := by
  rcases Nat.lt_or_ge 100 s.size with h1 | h1
  · exact back_long w h fs gs s a n cap hs ps am nm cm ms ab nb cb bs I (.inl h1)
  · rcases Nat.lt_or_ge 200 nm with h2 | h2
    · exact back_long w h fs gs s a n cap hs ps am nm cm ms ab nb cb bs I (.inr (.inl ⟨h1, h2⟩))
    · rcases Nat.lt_or_ge 1500 nb with h3 | h3
      · exact back_long w h fs gs s a n cap hs ps am nm cm ms ab nb cb bs I (.inr (.inr ⟨h1, h2, h3⟩))
      · exact back_yes w h fs gs s a n cap hs ps am nm cm ms ab nb cb bs I h1 h2 h3

set_option maxRecDepth 100000 in
theorem back_lifted (os : Os) (started : os.Started) (H : Type) (enc : TypeId × Value → H) :
    ReturnsInHanded {} Try.checked os 6 .any (Rows.codecBackSpec.pre6 enc Try.prog Try.f6 Rows.codecBackRow.domain false) (Rows.codecBackSpec.post enc Try.prog Try.f6 false true false false) := by
  refine returnsInHanded_of_change (C := Try.checked) ownN started (by kernel_rfl) Try.func6
    (ChangeSpec.witness6 (enc := enc) (C := Try.checked) false ⟨#[], #[.agg #[.int .i64 0, .int .i64 0, .string ByteArray.empty, .int .i64 0, .slice none 0 0], .agg #[.string ByteArray.empty, .slice none 0 0], .slice none 0 0, .slice none 0 0], []⟩ 8 (by kernel_rfl) (by kernel_rfl) (by kernel_rfl) (by kernel_rfl)) ?_
  intro W base args ds gs before hval0 hW hcnd _
  have hval : ∀ (j : Nat) t v, Try.f6.params[j]? = some t → args[j]? = some v → Value.okWide Try.prog W .any base t v := hval0
  have hW' := hW
  obtain ⟨p, q, hA0, hV, rfl, hfz, hnd⟩ := hW
  have hA : DataW.TrodAll enc Try.prog W 0 (fun _ => true) true Try.f6.params.toList args.toList ds p := hA0
  rw [Try.params6] at hA hval
  obtain ⟨v0, vs0, d0, ds0, p0, q0, hargs, rfl, rfl, h0, r0⟩ := trodAll_cons hA
  obtain ⟨v1, vs1, d1, ds1, p1, q1, rfl, rfl, rfl, h1, r1⟩ := trodAll_cons r0
  obtain ⟨v2, vs2, d2, ds2, p2, q2, rfl, rfl, rfl, h2, r2⟩ := trodAll_cons r1
  obtain ⟨v3, vs3, d3, ds3, p3, q3, rfl, rfl, rfl, h3, r3⟩ := trodAll_cons r2
  obtain ⟨rfl, rfl, rfl⟩ := trodAll_nil r3
  obtain rfl : args = #[v0, v1, v2, v3] := by cases args; simp_all
  obtain ⟨rfl, rfl⟩ := trodVars_none hV
  obtain ⟨hd, rfl, fs, gs', dp⟩ := val_arg (hval 0 45 v0 rfl rfl) h0
  obtain ⟨s, a, n, cap, rfl, ht⟩ := ev_arg (hval 1 52 v1 rfl rfl) h1
  obtain ⟨a2, len2, cap2, rfl⟩ := okWide_slice Try.underlying23 (hval 2 23 v2 rfl rfl)
  obtain ⟨a3, len3, cap3, rfl⟩ := okWide_slice Try.underlying23 (hval 3 23 v3 rfl rfl)
  have lt0 : ∀ x ∈ p0, x.block < W.heap.size := by obtain ⟨m, hm⟩ := h0; exact DataW.trod_lt m _ _ _ hm
  have lt1 : ∀ x ∈ p1, x.block < W.heap.size := by obtain ⟨m, hm⟩ := h1; exact DataW.trod_lt m _ _ _ hm
  have lt2 : ∀ x ∈ p2, x.block < W.heap.size := by obtain ⟨m, hm⟩ := h2; exact DataW.trod_lt m _ _ _ hm
  have lt3 : ∀ x ∈ p3, x.block < W.heap.size := by obtain ⟨m, hm⟩ := h3; exact DataW.trod_lt m _ _ _ hm
  obtain ⟨ms, rfl, hmo, hnil⟩ := rd_of rfl h2
  obtain ⟨bs, rfl, hbo, _⟩ := rd_of rfl h3
  obtain ⟨hs, hn, hv, hdl⟩ := deepAll_trd ht
  obtain ⟨ps, hnp, hpr⟩ := prd_of ht
  clear hA0 hval0
  refine (back_any W hd fs gs' s a n cap hs ps a2 _ cap2 ms a3 _ cap3 bs ⟨dp, hn, len_trd ht, hv, hdl, hnp, hpr, hmo, hnil, hbo⟩).mono fun e W' ⟨he, bel⟩ => ?_
  subst he
  exact ⟨_, rfl, _, _, _, [], _, [], hW', trodAll_mk1 (shut_bool Try.underlying4 _), (trodAll_cons_mk (Below.trod laidOut (by kernel_rfl) (of_decide_eq_true (by kernel_rfl)) h0 bel lt0) (trodAll_cons_mk (Below.trod laidOut (by kernel_rfl) (of_decide_eq_true (by kernel_rfl)) h1 bel lt1) (trodAll_cons_mk (Below.trod laidOut (by kernel_rfl) (of_decide_eq_true (by kernel_rfl)) h2 bel lt2) (trodAll_cons_mk (Below.trod laidOut (by kernel_rfl) (of_decide_eq_true (by kernel_rfl)) h3 bel lt3) trodAll_mk0)))), rfl, bel.frame _, fun h => by cases h⟩

theorem codecBack_holds : Rows.CodecBackSaid :=
  OpenClaim.holds_of_wide 6 Try.f6 rfl rfl rfl rfl rfl rfl rfl ⟨rfl, rfl, rfl, rfl, rfl⟩ rfl rfl rfl rfl rfl (by kernel_rfl) Try.func6 (by kernel_rfl)
    (of_decide_eq_true (by kernel_rfl)) (by unfold Func.isWrapper; first | (rw [if_pos (by decide +kernel)]; kernel_rfl) | (rw [if_neg (by decide +kernel)]; exact ⟨rfl, rfl⟩))
    (fun os started H enc _ => back_lifted os started H enc)
#print axioms codecBack_holds
end Go.Proofs.Ytjfkcafocindjaa
