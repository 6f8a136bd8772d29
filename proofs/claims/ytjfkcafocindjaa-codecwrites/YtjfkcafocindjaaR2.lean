/- CodecBack: the walk, of arguments that are small. -/
import Derived.Test.YtjfkcafocindjaaP2
namespace Go.Proofs.Ytjfkcafocindjaa
open Go.RowKit Go.Deep
set_option linter.unusedVariables false
set_option linter.unusedSimpArgs false

set_option maxRecDepth 100000 in
set_option maxHeartbeats 4000000 in
theorem back_yes (w : World) (h : Hd) (fs : List Hd) (gs : Nat → List Hd) (s : ByteArray) (a : Option Addr) (n cap : Nat) (hs : List Hd) (ps : List (Hd × List Hd)) (am : Option Addr) (nm cm : Nat) (ms : List Nat) (ab : Option Addr) (nb cb : Nat) (bs : List Nat)
    (I : BIn w h fs gs s a n cap hs ps am nm cm ms ab nb cb bs) (l1 : s.size ≤ 100) (l2 : nm ≤ 200) (l3 : nb ≤ 1500) :
    Calls Try.prog 6 #[h.v, .agg #[.string s, .slice a n cap], .slice am nm cm, .slice ab nb cb] w fun e w' => e = .returned (.bool true) ∧ Below w.heap.size w w' := by
  have K29 : Hid (∀ w1 : World, Below w.heap.size w w1 → Calls Try.prog 29 #[h.v] w1 fun e w' => SomeB e ∧ Below w1.heap.size w1 w') := hid (fun w1 hb => small_any w1 h fs gs (I.d.below (Nat.le_refl _) hb))
  have K30 : Hid (∀ w1 : World, Below w.heap.size w w1 → Calls Try.prog 30 #[.slice a n cap] w1 fun e w' => SomeL n e ∧ Below w1.heap.size w1 w') := hid (fun w1 hb => smalls_any w1 a n cap hs I.nh I.n2 (I.vr.below (Nat.le_refl _) hb) (fun j h e => by obtain ⟨fs, gs, d⟩ := I.dl j h e; exact ⟨fs, gs, d.below (Nat.le_refl _) hb⟩))
  have K31 : Hid (∀ w1 : World, Below w.heap.size w w1 → Calls Try.prog 31 #[h.v] w1 fun e w' => Below w1.heap.size w1 w' ∧ PutP w1.heap.size (plainB h fs) (pe (h, fs)) e w') := hid (fun w1 hb => putValue_any w1 h fs I.d.hin I.d.n (I.d.rd.below (Nat.le_refl _) hb) I.d.fin)
  have K33 : Hid (∀ w1 : World, Below w.heap.size w w1 → Calls Try.prog 33 #[.agg #[.string s, .slice a n cap]] w1 fun e w' => Below w1.heap.size w1 w' ∧ PutP w1.heap.size (evB s ps) (encE s ps) e w') := hid (fun w1 hb => putEvent_any w1 s a n cap ps I.np (by omega) I.n2 (I.pr.below (Nat.le_refl _) hb))
  have HI := hid I
  have hml := I.md.cap.1
  have hbl := I.bd.cap.1
  have hmb : Hid (Byt ms) := by refine hid ?_; obtain ⟨_, _, _, _, hb, _⟩ := I.md; exact hb
  have Hnil := hid I.mnil
  have hmle : ms.length ≤ 200 := by omega
  have hok : plainB h fs = true → POk (h, fs) := fun hp => ⟨I.d.hin, I.d.n, I.d.fin, hp⟩
  have Hok := hid hok
  have Hml := hid hml
  have Hbl := hid hbl
  clear I hml hbl hok
  generalize hP : pe (h, fs) = P at *
  have HP := hid hP
  generalize hpb : plainB h fs = pb at *
  have Hpb := hid hpb
  clear hP hpb
  have Hx : Hid (pb = true → ∀ w1 : World, Below w.heap.size w w1 → RepL w1 (vlOf h fs) h) := hid (fun hp w1 hb => own_lax HI.out.d.n (by rw [Hpb.out]; exact hp) (HI.out.d.rd.below (Nat.le_refl _) hb))
  have Hx12 : Hid (pb = true → (vlOf h fs).fs.length ≤ 12) := by
    refine hid (fun hp => ?_)
    have h2 := HI.out.d.n
    have h1 := Hpb.out
    rw [hp] at h1
    simp only [vlOf]
    split
    · rename_i hk
      rw [plainB_rec hk] at h1
      simp only [Bool.and_eq_true, decide_eq_true_eq] at h1
      simp; omega
    · simp
  generalize hX : vlOf h fs = X at *
  have HX := hid hX
  clear hX
  have K25 : Hid (pb = true → ∀ (w1 : World) (hh : Hd), Below w.heap.size w w1 → Rep w1 X hh → Calls Try.prog 25 #[h.v, hh.v] w1 fun e w' => e = .returned (.bool true) ∧ Below w1.heap.size w1 w') := hid (fun hp w1 hh hb r => same_repL w1 X h hh (Hx12.out hp) (Hx.out hp w1 hb) (by have h1 := HX.out; subst h1; exact r.lax))
  have K23 : Hid (pb = true → ∀ (w1 : World) (v : Value), Rd w1 v (P ++ ms) → Calls Try.prog 23 #[v] w1 fun e w' => Below w1.heap.size w1 w' ∧ ∃ hh : Hd, e = .returned (.tuple #[hh.v, .int .i64 (P.length : Int), .int .i64 0]) ∧ Rep w' X hh) := by
    refine hid (fun hp w1 v hr => ?_)
    have h1 := HX.out
    have h2 := HP.out
    subst h1 h2
    exact value_pe w1 v (h, fs) ms (Hok.out hp) hr (by omega)
  have hPl : pb = true → P.length ≤ 1000 ∧ Byt P := by
    intro hp
    have h2 := HP.out
    subst h2
    exact ⟨pe_le (Hok.out hp), pe_byt (Hok.out hp)⟩
  have HPl := hid hPl
  clear hPl Hx Hx12 HX HP Hok
  have hpo : evB s ps = true → (∀ p ∈ ps, POk p) ∧ ps.all plB = true := by
    intro he
    simp only [evB, Bool.and_eq_true] at he
    exact ⟨HI.out.pr.ok he.2.2, he.2.2⟩
  have HE : Hid (evB s ps = true → (encE s ps).length ≤ 20000 ∧ Byt (encE s ps)) := hid (fun he => encE_le he (hpo he).1)
  have K26 : Hid (evB s ps = true → ∀ (w1 : World) (v : Value), Rd w1 v (encE s ps ++ ms) → Calls Try.prog 26 #[v] w1 fun e w' => Below w1.heap.size w1 w' ∧ ∃ (a' : Option Addr) (c' : Nat) (hs' : List Hd), e = .returned (.tuple #[.agg #[.string s, .slice a' n c'], .int .i64 ((encE s ps).length : Int), .int .i64 0]) ∧ VRd w' a' hs' ∧ Reps w' (ps.map vlP) hs') := by
    refine hid (fun he w1 v hr => ?_)
    refine (event_any w1 v _ hr (by have := (HE.out he).1; simp; omega)).mono ?_
    rintro e w' ⟨hb, hP⟩
    obtain ⟨a', c', hs', h1, h2, h3⟩ := evQ_eq hP
    have hev := evD_encE he (hpo he).1 ms
    rw [hev] at h1 h3
    simp only [xS, xX, xK, xE] at h1 h3
    rw [List.length_map, ← HI.out.np] at h1
    exact ⟨hb, a', c', hs', h1, h2, h3⟩
  have K28 : Hid (evB s ps = true → ∀ (w1 : World) (a' : Option Addr) (c' : Nat) (hs' : List Hd), Below w.heap.size w w1 → VRd w1 a' hs' → Reps w1 (ps.map vlP) hs' → Calls Try.prog 28 #[.slice a' n c', .slice a n cap] w1 fun e w' => e = .returned (.bool true) ∧ Below w1.heap.size w1 w') := by
    refine hid (fun he w1 a' c' hs' hb hv hr => ?_)
    have h12 : ps.length ≤ 12 := by
      simp only [evB, Bool.and_eq_true, decide_eq_true_eq] at he
      exact he.2.1
    refine all_repL w1 a' a n c' cap (ps.map vlP) hs' (ps.map Prod.fst) (by rw [List.length_map]; exact HI.out.np) (by have := HI.out.np; omega) ?_ hv (HI.out.pr.rd.below (Nat.le_refl _) hb) hr.lax (own_laxs (HI.out.pr.below (Nat.le_refl _) hb) (hpo he).2)
    intro x hx
    simp only [List.mem_map] at hx
    obtain ⟨p, hp, rfl⟩ := hx
    exact vlP_le ((hpo he).1 p hp)
  have hbb : Hid (Byt bs) := by refine hid ?_; obtain ⟨_, _, _, _, hb, _⟩ := HI.out.bd; exact hb
  have hbs : bs.length ≤ 1500 := by have := Hbl.out; omega
  have K23b : Hid (∀ w1 : World, Below w.heap.size w w1 → Calls Try.prog 23 #[.slice ab nb cb] w1 fun e w' => Below w1.heap.size w1 w' ∧ ∃ hh : Hd, e = .returned (.tuple #[hh.v, .int .i64 (wK (valD bs)), .int .i64 (wE (valD bs))]) ∧ Rep w' (wX (valD bs)) hh) := by
    refine hid (fun w1 hb => (value_any w1 _ bs (HI.out.bd.below (Nat.le_refl _) hb) (by omega)).mono ?_)
    rintro e w' ⟨hb', hP⟩
    exact ⟨hb', valQ_eq hP⟩
  have K26b : Hid (∀ w1 : World, Below w.heap.size w w1 → Calls Try.prog 26 #[.slice ab nb cb] w1 fun e w' => Below w1.heap.size w1 w' ∧ ∃ (a' : Option Addr) (c' : Nat) (hs' : List Hd), e = .returned (.tuple #[.agg #[.string (xS (evD bs)), .slice a' (xX (evD bs)).length c'], .int .i64 (xK (evD bs)), .int .i64 (xE (evD bs))]) ∧ VRd w' a' hs' ∧ Reps w' (xX (evD bs)) hs') := by
    refine hid (fun w1 hb => (event_any w1 _ bs (HI.out.bd.below (Nat.le_refl _) hb) (by omega)).mono ?_)
    rintro e w' ⟨hb', hP⟩
    exact ⟨hb', evQ_eq hP⟩
  have K31b : Hid (∀ x k, valD bs = some (x, k) → k ≤ nb ∧ ∀ (w1 : World) (hh : Hd), Rep w1 x hh → Calls Try.prog 31 #[hh.v] w1 fun e w' => Below w1.heap.size w1 w' ∧ ∃ a' c', e = .returned (.tuple #[.slice a' k c', .int .i64 0]) ∧ Row w' w1.heap.size (.slice a' k c') (bs.take k)) :=
    hid (fun x k e => ⟨by have := valD_le hbb.out e; have := Hbl.out; omega, fun w1 hh r => put_back w1 bs hbb.out x k e hh r⟩)
  have K33b : Hid (∀ s' xs k, evD bs = some ((s', xs), k) → k ≤ nb ∧ ∀ (w1 : World) (a' : Option Addr) (c' : Nat) (hs' : List Hd), VRd w1 a' hs' → Reps w1 xs hs' → Calls Try.prog 33 #[.agg #[.string s', .slice a' xs.length c']] w1 fun e w' => Below w1.heap.size w1 w' ∧ ∃ a2 c2, e = .returned (.tuple #[.slice a2 k c2, .int .i64 0]) ∧ Row w' w1.heap.size (.slice a2 k c2) (bs.take k)) :=
    hid (fun s' xs k e => ⟨by have := (evD_back hbb.out e).2.2.2.1; have := Hbl.out; omega, fun w1 a' c' hs' hv r => pute_back w1 bs hbb.out s' xs k e a' c' hs' hv r⟩)
  clear hpo
  generalize evB s ps = eb at *
  generalize encE s ps = E at *
  generalize valD bs = ov at *
  generalize evD bs = oe at *
  obtain ⟨kind, int, text, rc, ha, hn, hc⟩ := h
  simp only [Hd.v] at K29 K31 K25 K23b K31b K23 ⊢
  have J0 : Jb w #[.int .i64 kind, .int .i64 int, .string text, .int .i64 rc, .slice ha hn hc] #[.string s, .slice a n cap] ((w.alloc (.cells #[.int .i64 kind, .int .i64 int, .string text, .int .i64 rc, .slice ha hn hc] 45)).alloc (.cells #[.string s, .slice a n cap] 52)) := Below.refl _ _
  go_enter Try.func6, Try.ntmps6
  go_upto_if 54 with (first
      | (go_at_call 9; (refine (known_any _).mono ?_; rintro e w1 ⟨rfl, hb1⟩; have J := J0.step hb1; obtain ⟨p0, p1, p2, p3, p4, q0, q1⟩ := J.cells))
      | (go_at_call 29; (refine (K29.out _ J.base).mono ?_; rintro e w2 ⟨⟨sb, rfl⟩, hb2⟩; clear p0 p1 p2 p3 p4 q0 q1; replace J := J.step hb2; obtain ⟨p0, p1, p2, p3, p4, q0, q1⟩ := J.cells; cases sb))
      | (go_at_call 30; (refine (K30.out _ J.base).mono ?_; rintro e w3 ⟨⟨tb, rfl, _⟩, hb3⟩; clear p0 p1 p2 p3 p4 q0 q1; replace J := J.step hb3; obtain ⟨p0, p1, p2, p3, p4, q0, q1⟩ := J.cells; cases tb))
      | (go_at_call 31; (refine (K31.out _ J.base).mono ?_; rintro e w4 ⟨hb4, v4, rfl, hr4⟩; clear p0 p1 p2 p3 p4 q0 q1; replace J := J.step hb4)))
  · go_ret
    exact ⟨rfl, J.base⟩
  · go_ret
    exact ⟨rfl, J.base⟩
  go_cut [9, 10, 11, 12, 13] (fun _ _ _ _ _ wc => Jb w #[.int .i64 kind, .int .i64 int, .string text, .int .i64 rc, .slice ha hn hc] #[.string s, .slice a n cap] wc)
  case first =>
    cases pb with
    | false =>
      go_wp2
      go_meet
      case rel => exact J
    | true =>
      simp only [if_true] at hr4
      obtain ⟨hP1, hP2⟩ := HPl.out rfl
      obtain ⟨a4, c4, rfl, _⟩ := hr4.form
      have hP2' := hid hP2
      clear hP2
      go_wp2_with (first
        | (go_at_call 25; (refine (K25.out (by first | rfl | trivial) _ ⟨qk, qi, qt, qr, qa, qn, qc⟩ (J.alloc _).base (rep_below hr7 (Nat.le_refl _) ((Below.refl _ _).alloc (Nat.le_refl _) _))).mono ?_; rintro e w8 ⟨rfl, hb8⟩; replace J := (J.alloc _).step hb8; clear p0 p1 p2 p3 p4 q0 q1))
        | (go_at_call 23; (refine (K23.out (by first | rfl | trivial) _ _ (hr6.rd (hP2'.out.append hmb.out))).mono ?_; rintro e w7 ⟨hb7, hh, rfl, hr7⟩; replace J := J.step hb7; obtain ⟨p0, p1, p2, p3, p4, q0, q1⟩ := J.cells; have hz7 : w.heap.size < w7.heap.size := (by have := J.size; omega); obtain ⟨qk, qi, qt, qr, qa, qn, qc⟩ := hh; simp only))
        | (at_builtin; have hno := hg5; (refine wpList_appR _ rfl _ _ rfl _ _ (by rfl) (by rfl) (w.heap.size + 2) P ms hr5 (HI.out.md.below (Nat.le_refl _) J.base) Hnil.out J.size (by omega) (by omega) ?_; intro v6 w6 hr6 hg6; replace J := J.grw hg6 hr5))
        | (at_builtin; (refine wpList_appR _ rfl _ _ rfl _ _ (by rfl) (by rfl) (w.heap.size + 2) [] P (Row.nil _ _) (hr4.rd hP2'.out) hr4.nilOf J.size (by simp) (by omega) ?_; intro v5 w5 hr5 hg5; (try simp only [List.nil_append] at hr5); replace J := J.grw hg5 (Row.nil _ _))))
      go_meet
      case rel => exact J
  case rest =>
    clear J hr4 hb4 K31 K25 K23 HPl Hpb pb K29 K30
    have J := hcut
    obtain ⟨p0, p1, p2, p3, p4, q0, q1⟩ := J.cells
    go_upto_if 84 with (go_at_call 33; (refine (K33.out _ J.base).mono ?_; rintro e w4 ⟨hb4, v4, rfl, hr4⟩; clear p0 p1 p2 p3 p4 q0 q1; replace J := J.step hb4))
    go_cut [9, 10, 14, 15, 16] (fun _ _ _ _ _ wc => Jb w #[.int .i64 kind, .int .i64 int, .string text, .int .i64 rc, .slice ha hn hc] #[.string s, .slice a n cap] wc)
    case first =>
      cases eb with
      | false =>
        go_wp2
        go_meet
        case rel => exact J
      | true =>
        simp only [if_true] at hr4
        obtain ⟨hP1, hP2⟩ := HE.out rfl
        obtain ⟨a4, c4, rfl, _⟩ := hr4.form
        have hP2' := hid hP2
        clear hP2
        go_wp2_with (first
          | (go_at_call 28; (refine (K28.out (by first | rfl | trivial) _ a7 c7 hs7 (J.alloc _).base (hv7.below (Nat.le_refl _) ((Below.refl _ _).alloc (Nat.le_refl _) _)) (hr7.below (Nat.le_refl _) ((Below.refl _ _).alloc (Nat.le_refl _) _))).mono ?_; rintro e w8 ⟨rfl, hb8⟩; replace J := (J.alloc _).step hb8; clear p0 p1 p2 p3 p4 q0 q1))
          | (go_at_call 26; (refine (K26.out (by first | rfl | trivial) _ _ (hr6.rd (hP2'.out.append hmb.out))).mono ?_; rintro e w7 ⟨hb7, a7, c7, hs7, rfl, hv7, hr7⟩; replace J := J.step hb7; obtain ⟨p0, p1, p2, p3, p4, q0, q1⟩ := J.cells; have hz7 : w.heap.size + 1 < w7.heap.size := (by have := J.size; omega)))
          | (at_builtin; have hno := hg5; (refine wpList_appR _ rfl _ _ rfl _ _ (by rfl) (by rfl) (w.heap.size + 2) E ms hr5 (HI.out.md.below (Nat.le_refl _) J.base) Hnil.out J.size (by omega) (by omega) ?_; intro v6 w6 hr6 hg6; replace J := J.grw hg6 hr5))
          | (at_builtin; (refine wpList_appR _ rfl _ _ rfl _ _ (by rfl) (by rfl) (w.heap.size + 2) [] E (Row.nil _ _) (hr4.rd hP2'.out) hr4.nilOf J.size (by simp) (by omega) ?_; intro v5 w5 hr5 hg5; (try simp only [List.nil_append] at hr5); replace J := J.grw hg5 (Row.nil _ _))))
        go_meet
        case rel => exact J
    case rest =>
      clear J hr4 hb4 K33 K26 K28 HE eb
      have J := hcut
      go_upto_if 124 with (go_at_call 23; (refine (K23b.out _ J.base).mono ?_; rintro e w4 ⟨hb4, hh, rfl, hr4⟩; replace J := J.step hb4; have HR4 := hid hr4; clear hr4; obtain ⟨qk, qi, qt, qr, qa, qn, qc⟩ := hh; simp only))
      go_cut [9, 10, 17, 18, 19] (fun _ _ _ _ _ wc => Jb w #[.int .i64 kind, .int .i64 int, .string text, .int .i64 rc, .slice ha hn hc] #[.string s, .slice a n cap] wc)
      case first =>
        cases ov with
        | none =>
          simp only [wE, wK]
          go_wp2
          go_meet
          case rel => exact J.alloc _
        | some xk =>
          obtain ⟨x, k⟩ := xk
          obtain ⟨hkn, K⟩ := K31b.out x k rfl
          have K' := hid (K (w4.alloc (.cells #[.int .i64 qk, .int .i64 qi, .string qt, .int .i64 qr, .slice qa qn qc] 45)) ⟨qk, qi, qt, qr, qa, qn, qc⟩ (rep_below HR4.out (Nat.le_refl _) ((Below.refl _ _).alloc (Nat.le_refl _) _)))
          simp only [wE, wK] at K' ⊢
          have hcap : k ≤ cb := by have := HI.out.bd.cap; omega
          clear K
          go_wp2_with (first
            | (go_at_call 31; (refine (Hid.out K').mono ?_; rintro e w5 ⟨hb5, a5, c5, rfl, hr5⟩; replace J := (J.alloc _).step hb5))
            | (go_at_call 13; (refine (bytes_same _ _ _ (bs.take k) (hr5.rd (hbb.out.take k)) ((HI.out.bd.below (Nat.le_refl _) J.base).to k (by have := Hbl.out; omega))).mono ?_; rintro e w6 ⟨rfl, rfl⟩)))
          go_meet
          case rel => exact J
      case rest =>
        clear J hb4 HR4 K23b K31b ov
        have J := hcut
        go_upto_if 153 with (go_at_call 26; (refine (K26b.out _ J.base).mono ?_; rintro e w4 ⟨hb4, a4, c4, hs4, rfl, hv4, hr4⟩; replace J := J.step hb4; have HV4 := hid hv4; have HR4 := hid hr4; clear hr4 hv4))
        cases oe with
        | none =>
          simp only [xE, xK, xS, xX]
          go_wp2
          go_ret
          exact ⟨rfl, (J.alloc _).base⟩
        | some xk =>
          obtain ⟨⟨s', xs⟩, k⟩ := xk
          obtain ⟨hkn, K⟩ := K33b.out s' xs k rfl
          simp only [xE, xK, xS, xX] at HR4 ⊢
          have K' := hid (K (w4.alloc (.cells #[.string s', .slice a4 xs.length c4] 52)) a4 c4 hs4 (HV4.out.below (Nat.le_refl _) ((Below.refl _ _).alloc (Nat.le_refl _) _)) (HR4.out.below (Nat.le_refl _) ((Below.refl _ _).alloc (Nat.le_refl _) _)))
          have hcap : k ≤ cb := by have := HI.out.bd.cap; omega
          clear K
          go_wp2_with (first
            | (go_at_call 33; (refine (Hid.out K').mono ?_; rintro e w5 ⟨hb5, a5, c5, rfl, hr5⟩; replace J := (J.alloc _).step hb5))
            | (go_at_call 13; (refine (bytes_same _ _ _ (bs.take k) (hr5.rd (hbb.out.take k)) ((HI.out.bd.below (Nat.le_refl _) J.base).to k (by have := Hbl.out; omega))).mono ?_; rintro e w6 ⟨rfl, rfl⟩)))
          go_ret
          exact ⟨rfl, J.base⟩
end Go.Proofs.Ytjfkcafocindjaa
