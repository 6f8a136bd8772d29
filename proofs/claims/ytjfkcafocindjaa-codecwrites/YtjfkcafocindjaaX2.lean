/-
  CodecWrites returns true for every value and event, and its arguments read behind the call as they read before.
  No condition.
-/
import Derived.Test.YtjfkcafocindjaaW2
import Derived.Test.YtjfkcafocindjaaS2
namespace Go.Proofs.Ytjfkcafocindjaa
open Go.ChangeShapes Go.WideShapes Go.ChangeAt Go.RowKit Go.Deep
set_option linter.unusedVariables false
set_option linter.unusedSimpArgs false

/- What came in. -/
structure WIn (w : World) (h : Hd) (fs : List Hd) (gs : Nat → List Hd) (a : Option Addr) (n cap : Nat) (hs : List Hd) (ps : List (Hd × List Hd)) : Prop where
  d : Deep w h fs gs
  nh : n = hs.length
  n2 : n ≤ 9223372036854775807
  vr : VRd w a hs
  dl : DeepAll w hs
  np : n = ps.length
  pr : PRd w a ps
theorem putP_eq {B : Nat} {b : Bool} {bs : List Nat} {e : Ending} {w' : World} (h : PutP B b bs e w') (hb : b = true → Byt bs) : ∃ v', e = .returned (.tuple #[v', .int .i64 (if b then 0 else 20)]) ∧ Rd w' v' (if b then bs else []) := by
  obtain ⟨v', h1, h2⟩ := h
  refine ⟨v', h1, h2.rd ?_⟩
  split
  · exact hb (by assumption)
  · intro x hx; cases hx

set_option maxRecDepth 100000 in
set_option maxHeartbeats 4000000 in
theorem writes_any (w : World) (h : Hd) (fs : List Hd) (gs : Nat → List Hd) (s : ByteArray) (a : Option Addr) (n cap : Nat) (hs : List Hd) (ps : List (Hd × List Hd)) (I : WIn w h fs gs a n cap hs ps) :
    Calls Try.prog 5 #[h.v, .agg #[.string s, .slice a n cap]] w fun e w' => e = .returned (.bool true) ∧ Below w.heap.size w w' := by
  have K29 : Hid (∀ w1 : World, Below w.heap.size w w1 → Calls Try.prog 29 #[h.v] w1 fun e w' => SomeB e ∧ Below w1.heap.size w1 w') := hid (fun w1 hb => small_any w1 h fs gs (I.d.below (Nat.le_refl _) hb))
  have K30 : Hid (∀ w1 : World, Below w.heap.size w w1 → Calls Try.prog 30 #[.slice a n cap] w1 fun e w' => SomeL n e ∧ Below w1.heap.size w1 w') := hid (fun w1 hb => smalls_any w1 a n cap hs I.nh I.n2 (I.vr.below (Nat.le_refl _) hb) (fun j h e => by obtain ⟨fs, gs, d⟩ := I.dl j h e; exact ⟨fs, gs, d.below (Nat.le_refl _) hb⟩))
  have hb1 : plainB h fs = true → Byt (encV h fs) := fun hp => pe_byt (p := (h, fs)) ⟨I.d.hin, I.d.n, I.d.fin, hp⟩
  have hb2 : evB s ps = true → Byt (encE s ps) := fun he => (encE_le he (I.pr.ok (by simp only [evB, Bool.and_eq_true] at he; exact he.2.2))).2
  have K31 : Hid (∀ w1 : World, Below w.heap.size w w1 → Calls Try.prog 31 #[h.v] w1 fun e w' => Below w1.heap.size w1 w' ∧ ∃ v', e = .returned (.tuple #[v', .int .i64 (if plainB h fs then 0 else 20)]) ∧ Rd w' v' (if plainB h fs then encV h fs else [])) := hid (fun w1 hb => (putValue_any w1 h fs I.d.hin I.d.n (I.d.rd.below (Nat.le_refl _) hb) I.d.fin).mono fun e w' ⟨h1, h2⟩ => ⟨h1, putP_eq h2 hb1⟩)
  have K32 : Hid (∀ w1 : World, Below w.heap.size w w1 → Calls Try.prog 32 #[h.v] w1 fun e w' => Below w1.heap.size w1 w' ∧ ∃ v', e = .returned (.tuple #[v', .int .i64 (if plainB h fs then 0 else 20)]) ∧ Rd w' v' (if plainB h fs then encV h fs else [])) := hid (fun w1 hb => (refPut_any w1 h fs I.d.hin I.d.n (I.d.rd.below (Nat.le_refl _) hb) I.d.fin).mono fun e w' ⟨h1, h2⟩ => ⟨h1, putP_eq h2 hb1⟩)
  have K33 : s.size ≤ 100 → Hid (∀ w1 : World, Below w.heap.size w w1 → Calls Try.prog 33 #[.agg #[.string s, .slice a n cap]] w1 fun e w' => Below w1.heap.size w1 w' ∧ ∃ v', e = .returned (.tuple #[v', .int .i64 (if evB s ps then 0 else 20)]) ∧ Rd w' v' (if evB s ps then encE s ps else [])) := fun hsz => hid (fun w1 hb => (putEvent_any w1 s a n cap ps I.np (by omega) I.n2 (I.pr.below (Nat.le_refl _) hb)).mono fun e w' ⟨h1, h2⟩ => ⟨h1, putP_eq h2 hb2⟩)
  have K34 : s.size ≤ 100 → Hid (∀ w1 : World, Below w.heap.size w w1 → Calls Try.prog 34 #[.agg #[.string s, .slice a n cap]] w1 fun e w' => Below w1.heap.size w1 w' ∧ ∃ v', e = .returned (.tuple #[v', .int .i64 (if evB s ps then 0 else 20)]) ∧ Rd w' v' (if evB s ps then encE s ps else [])) := fun hsz => hid (fun w1 hb => (refPutEvent_any w1 s a n cap ps I.np (by omega) I.n2 (I.pr.below (Nat.le_refl _) hb)).mono fun e w' ⟨h1, h2⟩ => ⟨h1, putP_eq h2 hb2⟩)
  clear I hb1 hb2
  generalize (if plainB h fs then encV h fs else []) = P at *
  generalize (if evB s ps then encE s ps else []) = E at *
  generalize (if plainB h fs then (0 : Int) else 20) = pc at *
  generalize (if evB s ps then (0 : Int) else 20) = ec at *
  obtain ⟨kind, int, text, rc, ha, hn, hc⟩ := h
  simp only [Hd.v] at K29 K31 K32 ⊢
  have J0 : Jb w #[.int .i64 kind, .int .i64 int, .string text, .int .i64 rc, .slice ha hn hc] #[.string s, .slice a n cap] ((w.alloc (.cells #[.int .i64 kind, .int .i64 int, .string text, .int .i64 rc, .slice ha hn hc] 45)).alloc (.cells #[.string s, .slice a n cap] 52)) := Below.refl _ _
  rcases Nat.lt_or_ge 100 s.size with hl | hl
  · clear K33 K34
    go_enter Try.func5, Try.ntmps5
    go_wp2_with (first
      | (go_at_call 9; (refine (known_any _).mono ?_; rintro e w1 ⟨rfl, hb1⟩; have J := J0.step hb1; obtain ⟨p0, p1, p2, p3, p4, q0, q1⟩ := J.cells))
      | (go_at_call 29; (refine (K29.out _ J.base).mono ?_; rintro e w2 ⟨⟨sb, rfl⟩, hb2⟩; clear p0 p1 p2 p3 p4 q0 q1; replace J := J.step hb2; obtain ⟨p0, p1, p2, p3, p4, q0, q1⟩ := J.cells; cases sb))
      | (go_at_call 30; (refine (K30.out _ J.base).mono ?_; rintro e w3 ⟨⟨tb, rfl, _⟩, hb3⟩; clear p0 p1 p2 p3 p4 q0 q1; replace J := J.step hb3; obtain ⟨p0, p1, p2, p3, p4, q0, q1⟩ := J.cells; cases tb)))
    all_goals
      go_ret
      exact ⟨rfl, J.base⟩
  · replace K33 := K33 hl
    replace K34 := K34 hl
    go_enter Try.func5, Try.ntmps5
    go_wp2_with (first
      | (go_at_call 9; (refine (known_any _).mono ?_; rintro e w1 ⟨rfl, hb1⟩; have J := J0.step hb1; obtain ⟨p0, p1, p2, p3, p4, q0, q1⟩ := J.cells))
      | (go_at_call 29; (refine (K29.out _ J.base).mono ?_; rintro e w2 ⟨⟨sb, rfl⟩, hb2⟩; clear p0 p1 p2 p3 p4 q0 q1; replace J := J.step hb2; obtain ⟨p0, p1, p2, p3, p4, q0, q1⟩ := J.cells; cases sb))
      | (go_at_call 30; (refine (K30.out _ J.base).mono ?_; rintro e w3 ⟨⟨tb, rfl, _⟩, hb3⟩; clear p0 p1 p2 p3 p4 q0 q1; replace J := J.step hb3; obtain ⟨p0, p1, p2, p3, p4, q0, q1⟩ := J.cells; cases tb))
      | (go_at_call 31; (refine (K31.out _ J.base).mono ?_; rintro e w4 ⟨hb4, v4, rfl, hr4⟩; clear p0 p1 p2 p3 p4 q0 q1; replace J := J.step hb4; obtain ⟨p0, p1, p2, p3, p4, q0, q1⟩ := J.cells))
      | (go_at_call 32; (refine (K32.out _ J.base).mono ?_; rintro e w5 ⟨hb5, v5, rfl, hr5⟩; clear p0 p1 p2 p3 p4 q0 q1; replace J := J.step hb5; obtain ⟨p0, p1, p2, p3, p4, q0, q1⟩ := J.cells; replace hr4 := hr4.below (Nat.le_refl _) hb5))
      | (go_at_call 33; (refine (K33.out _ J.base).mono ?_; rintro e w6 ⟨hb6, v6, rfl, hr6⟩; clear p0 p1 p2 p3 p4 q0 q1; replace J := J.step hb6; obtain ⟨p0, p1, p2, p3, p4, q0, q1⟩ := J.cells; replace hr4 := hr4.below (Nat.le_refl _) hb6; replace hr5 := hr5.below (Nat.le_refl _) hb6))
      | (go_at_call 34; (refine (K34.out _ J.base).mono ?_; rintro e w7 ⟨hb7, v7, rfl, hr7⟩; clear p0 p1 p2 p3 p4 q0 q1; replace J := J.step hb7; replace hr4 := hid (hr4.below (Nat.le_refl _) hb7); replace hr5 := hid (hr5.below (Nat.le_refl _) hb7); replace hr6 := hid (hr6.below (Nat.le_refl _) hb7); replace hr7 := hid hr7))
      | (go_at_call 13; have hno := h8; (refine (bytes_same _ _ _ E hr6.out hr7.out).mono ?_; rintro e w9 ⟨rfl, rfl⟩))
      | (go_at_call 13; (refine (bytes_same _ _ _ P hr4.out hr5.out).mono ?_; rintro e w8 ⟨rfl, rfl⟩; have h8 : True := trivial)))
    all_goals
      go_ret
      exact ⟨rfl, J.base⟩

set_option maxRecDepth 100000 in
theorem writes_lifted (os : Os) (started : os.Started) (H : Type) (enc : TypeId × Value → H) :
    ReturnsInHanded {} Try.checked os 5 .any (Rows.codecWritesSpec.pre6 enc Try.prog Try.f5 Rows.codecWritesRow.domain false) (Rows.codecWritesSpec.post enc Try.prog Try.f5 false true false false) := by
  refine returnsInHanded_of_change (C := Try.checked) ownN started (by kernel_rfl) Try.func5
    (ChangeSpec.witness6 (enc := enc) (C := Try.checked) false ⟨#[], #[.agg #[.int .i64 0, .int .i64 0, .string ByteArray.empty, .int .i64 0, .slice none 0 0], .agg #[.string ByteArray.empty, .slice none 0 0]], []⟩ 8 (by kernel_rfl) (by kernel_rfl) (by kernel_rfl) (by kernel_rfl)) ?_
  intro W base args ds gs before hval0 hW hcnd _
  have hval : ∀ (j : Nat) t v, Try.f5.params[j]? = some t → args[j]? = some v → Value.okWide Try.prog W .any base t v := hval0
  have hW' := hW
  obtain ⟨p, q, hA0, hV, rfl, hfz, hnd⟩ := hW
  have hA : DataW.TrodAll enc Try.prog W 0 (fun _ => true) true Try.f5.params.toList args.toList ds p := hA0
  rw [Try.params5] at hA hval
  obtain ⟨v0, vs0, d0, ds0, p0, q0, hargs, rfl, rfl, h0, r0⟩ := trodAll_cons hA
  obtain ⟨v1, vs1, d1, ds1, p1, q1, rfl, rfl, rfl, h1, r1⟩ := trodAll_cons r0
  obtain ⟨rfl, rfl, rfl⟩ := trodAll_nil r1
  obtain rfl : args = #[v0, v1] := by cases args; simp_all
  obtain ⟨rfl, rfl⟩ := trodVars_none hV
  obtain ⟨hd, rfl, fs, gs', dp⟩ := val_arg (hval 0 45 v0 rfl rfl) h0
  obtain ⟨s, a, n, cap, rfl, ht⟩ := ev_arg (hval 1 52 v1 rfl rfl) h1
  have lt0 : ∀ x ∈ p0, x.block < W.heap.size := by obtain ⟨m, hm⟩ := h0; exact DataW.trod_lt m _ _ _ hm
  have lt1 : ∀ x ∈ p1, x.block < W.heap.size := by obtain ⟨m, hm⟩ := h1; exact DataW.trod_lt m _ _ _ hm
  obtain ⟨hs, hn, hv, hdl⟩ := deepAll_trd ht
  obtain ⟨ps, hnp, hpr⟩ := prd_of ht
  clear hA0 hval0
  refine (writes_any W hd fs gs' s a n cap hs ps ⟨dp, hn, len_trd ht, hv, hdl, hnp, hpr⟩).mono fun e W' ⟨he, bel⟩ => ?_
  subst he
  exact ⟨_, rfl, _, _, _, [], _, [], hW', trodAll_mk1 (shut_bool Try.underlying4 _), (trodAll_cons_mk (Below.trod laidOut (by kernel_rfl) (of_decide_eq_true (by kernel_rfl)) h0 bel lt0) (trodAll_cons_mk (Below.trod laidOut (by kernel_rfl) (of_decide_eq_true (by kernel_rfl)) h1 bel lt1) trodAll_mk0)), rfl, bel.frame _, fun h => by cases h⟩

theorem codecWrites_holds : Rows.CodecWritesSaid :=
  OpenClaim.holds_of_wide 5 Try.f5 rfl rfl rfl rfl rfl rfl rfl ⟨rfl, rfl, rfl, rfl, rfl⟩ rfl rfl rfl rfl rfl (by kernel_rfl) Try.func5 (by kernel_rfl)
    (of_decide_eq_true (by kernel_rfl)) (by unfold Func.isWrapper; first | (rw [if_pos (by decide +kernel)]; kernel_rfl) | (rw [if_neg (by decide +kernel)]; exact ⟨rfl, rfl⟩))
    (fun os started H enc _ => writes_lifted os started H enc)
#print axioms codecWrites_holds
end Go.Proofs.Ytjfkcafocindjaa
