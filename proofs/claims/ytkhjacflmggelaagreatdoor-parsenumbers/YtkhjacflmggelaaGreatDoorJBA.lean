/-
  ParseNumbers returns true for every number, every count of noughts and every text, and its arguments read behind the call as they read before.
  Its condition: the library's tables and its two errors hold at the call what the program's text lays there.
-/
import Derived.Test.YtkhjacflmggelaaGreatDoorJAZ
import Derived.Test.YtkhjacflmggelaaGreatDoorTie
import Derived.Test.YtkhjacflmggelaaGreatDoorCards
import Derived.LaidSub
import Derived.LaidLaws
import Derived.LaidHandle
import Derived.Stop.LaidErr
import Derived.Shelf.Vars
import Derived.Lib.LaidTab
import Derived.Handed
import Derived.HandedShaped
import Derived.ChangeSame
import Derived.ChangeAt
import Derived.ChangeVars
import Derived.JoinedOf
import Derived.RowKit
import Derived.RowKitTokens
import Derived.SevenTiedAt
import Derived.ProofKit
import Derived.OpenShut
import Derived.ChangeOld
import Derived.ChangeMaps5
import GoSem.PinnedTables
namespace Go.Proofs.YtkhjacflmggelaaGreatDoor
open Go Go.RowKit Go.Deep Go.Shelf
set_option linter.unusedVariables false
set_option linter.unusedSimpArgs false
set_option maxRecDepth 100000
def zrs (k : Nat) : Bsq := List.replicate k 48
theorem zrs_len (k : Nat) : (zrs k).length = k := List.length_replicate ..
theorem add_zr {k : Nat} (h : k ≤ 20) (V : World) : (Op.stringOp .add (bs (zrs k)) (bs [48])).run Tryz.prog V = .ok (.string (bs (zrs (k + 1)))) V := by
  have q := add_run (zrs k) [48] (by rw [zrs_len]; simp; omega) V
  rw [show zrs k ++ [48] = zrs (k + 1) from (List.replicate_succ').symm] at q
  exact q
theorem decD_len (u : Nat) (h : u ≤ 9223372036854775808) : (Lib.decDigits u).length ≤ 30 := by
  have h5 := Lib.itoa_length_le (-(u : Int)) (by omega) (by omega)
  unfold Lib.itoa at h5
  split at h5
  · simp at h5; omega
  · rename_i hnn
    have : u = 0 := by omega
    subst this
    rw [Lib.decDigits_one (by decide)]
    decide
theorem digits_any (n : Int) (h0 : -9223372036854775808 ≤ n) (h1 : n ≤ 9223372036854775807) (w : World) : Calls Tryz.prog 15 #[.int .i64 n] w fun e w' => e = .returned (.string (bs (Lib.itoa n))) ∧ Below w.heap.size w w' := Vx.refDigits n h0 h1 w
theorem zd_all (k u : Nat) : ∀ c ∈ zrs k ++ Lib.decDigits u, 48 ≤ c.toNat ∧ c.toNat ≤ 57 := by
  intro c hc
  rcases List.mem_append.1 hc with hc | hc
  · have : c = 48 := List.eq_of_mem_replicate hc
    subst this; decide
  · exact (dig_dec u).2.1 c hc
theorem zd_ne (k u : Nat) : zrs k ++ Lib.decDigits u ≠ [] := by
  have := (dig_dec u).2.2
  intro e
  exact this (List.append_eq_nil_iff.1 e).2
theorem zd_num (k u : Nat) : digN (zrs k ++ Lib.decDigits u) = u := (dig_zero k _).trans (dig_dec u).1
/- The literal of a number. -/
theorem read_pos (k u : Nat) (hk : k ≤ 20) (h : u ≤ 9223372036854775807) : parseT (preD ++ ((zrs k ++ Lib.decDigits u) ++ endD)) = .ok ⟨[], [], [], [⟨[101], [], [], [], [], [pkS (stN u)], 0⟩]⟩ := by
  have q := parse_pos (zrs k ++ Lib.decDigits u) (zd_ne k u) (zd_all k u) (by rw [List.length_append, zrs_len]; have := decD_len u (by omega); omega) (by rw [zd_num]; omega)
  rw [zd_num] at q
  exact q
theorem read_neg (k u : Nat) (hk : k ≤ 20) (h : u ≤ 9223372036854775808) : parseT (preD ++ ((45 :: 32 :: (zrs k ++ Lib.decDigits u)) ++ endD)) = .ok ⟨[], [], [], [⟨[101], [], [], [], [], [pkS (stN (-(u : Int)))], 0⟩]⟩ := by
  have q := parse_neg (zrs k ++ Lib.decDigits u) (zd_ne k u) (zd_all k u) (by rw [List.length_append, zrs_len]; have := decD_len u (by omega); omega) (by rw [zd_num]; omega)
  rw [zd_num] at q
  exact q
theorem read_great (k : Nat) (E : Bsq) (hk : k ≤ 20) (h1 : 20 ≤ E.length) (h2 : E.length ≤ 60) (h : ∀ c ∈ E, 49 ≤ c.toNat ∧ c.toNat ≤ 57) : parseT (preD ++ ((zrs k ++ E) ++ endD)) = .error (12, 73) := by
  refine parse_great (zrs k ++ E) ?_ ?_ (by rw [List.length_append, zrs_len]; omega) (by rw [show digN (zrs k ++ E) = digN E from dig_zero k E]; exact dig_great E h1 (fun c hc => (h c hc).1))
  · intro e
    have := (List.append_eq_nil_iff.1 e).2
    subst this
    simp at h1
  · intro c hc
    rcases List.mem_append.1 hc with hc | hc
    · have : c = 48 := List.eq_of_mem_replicate hc
      subst this; decide
    · have := h c hc; omega
theorem add_pre (X : Bsq) (h : X.length ≤ 1000) (V : World) : (Op.stringOp .add ⟨#[111, 110, 32, 101, 40, 41, 32, 123, 32, 100, 111, 32]⟩ (bs X)).run Tryz.prog V = .ok (.string (bs (preD ++ X))) V := add_run preD X (by simp [preD]; omega) V
theorem add_end (X : Bsq) (h : X.length ≤ 1000) (V : World) : (Op.stringOp .add (bs (preD ++ X)) ⟨#[59, 32, 125]⟩).run Tryz.prog V = .ok (.string (bs (preD ++ (X ++ endD)))) V := by
  have q := add_run (preD ++ X) endD (by simp [preD, endD]; omega) V
  rw [List.append_assoc] at q
  exact q
theorem bs_tail (c : UInt8) (U : Bsq) : (bs (c :: U)).extract 1 (U.length + 1) = bs U := by
  apply ByteArray.ext
  rw [ByteArray.data_extract]
  apply Array.toList_inj.1
  rw [Array.toList_extract]
  simp
theorem fin_num (X : Bsq) (h : X.length ≤ 1000) : (preD ++ (X ++ endD)).length ≤ 100000 := by simp [preD, endD]; omega
/- What the call tells of a literal's source. -/
theorem call_num (w : World) (l : Bsq) (m : Int) (h : parseT l = .ok ⟨[], [], [], [⟨[101], [], [], [], [], [pkS (stN m)], 0⟩]⟩) (hl : l.length ≤ 100000) (hm : Lx.MX w) (hG : Gl w) : Calls Tryz.prog 10 #[.string (bs l)] w fun e w' => ∃ (a0 a1 a2 : Option Addr) (n0 n1 n2 k0 k1 k2 g off cap g2 off2 cap2 g3 off3 cap3 : Nat), e = .returned (.tuple #[.agg #[.slice a0 n0 k0, .slice a1 n1 k1, .slice a2 n2 k2, .slice (some ⟨g, off, none⟩) 1 cap], .int .i64 0, .int .i64 0]) ∧ (1 : Int) ≤ (cap : Int) ∧ g < w'.heap.size ∧ w'.cell? ⟨g, off + 5, none⟩ = some (.slice (some ⟨g2, off2, none⟩) 1 cap2) ∧ (1 : Int) ≤ (cap2 : Int) ∧ g2 < w'.heap.size ∧ w'.cell? ⟨g2, off2 + 4, none⟩ = some (.slice (some ⟨g3, off3, none⟩) 1 cap3) ∧ (1 : Int) ≤ (cap3 : Int) ∧ g3 < w'.heap.size ∧ w'.cell? ⟨g3, off3, none⟩ = some (.int .i64 1) ∧ w'.cell? ⟨g3, off3 + 2, none⟩ = some (.int .i64 m) ∧ Below w.heap.size w w' := by
  refine (parse_any w _ (by show l.toArray.size ≤ _; rw [List.size_toArray]; omega) hm hG).mono ?_
  intro e w' h'
  rw [show parseT (bs l).data.toList = _ from h] at h'
  obtain ⟨v, rfl, hR, hb⟩ := h'
  obtain ⟨a0, a1, a2, n0, n1, n2, k0, k1, k2, g, off, cap, ab, cb, b, rfl, hc, hg, h5, hcb, hS, hB⟩ := ev_body hR rfl
  obtain ⟨g2, off2, cap2, av, bv, ev, xs, b', e', hv, hc2, hg2, ⟨hX, hXa⟩, _, _, hcell⟩ := body_one hS hB
  have h4 := hcell 4 (by omega)
  rw [hv] at h5
  have hx1 : ∃ x, xs = [x] ∧ pkE x = pkE ⟨1, 0, m, [], [], [], [], 12⟩ := by
    have hXa : [pkE ⟨1, 0, m, [], [], [], [], 12⟩] = xs.map pkE := hXa
    cases xs with
    | nil => simp at hXa
    | cons x r =>
      cases r with
      | nil => exact ⟨x, rfl, by simpa using hXa.symm⟩
      | cons y z => simp at hXa
  obtain ⟨x, rfl, hx⟩ := hx1
  obtain ⟨g3, off3, cap3, nv, av', ys, rfl, hc3, hg3, _, _, _, hcl⟩ := hX.at (j := 0) rfl
  obtain ⟨e1, e2, e3, _, _, _, _⟩ := pkE_eq hx
  have k0' := hcl 0 (by omega)
  have k2' := hcl 2 (by omega)
  rw [Nat.zero_mul, Nat.add_zero] at k0' k2'
  refine ⟨a0, a1, a2, n0, n1, n2, k0, k1, k2, g, off, cap, g2, off2, cap2, g3, off3, cap3, rfl, by omega, hg, h5, by omega, hg2, h4, by simp at hc3; omega, hg3, ?_, ?_, hb⟩
  · rw [k0', show (eC x nv av')[0]? = some (.int .i64 x.kind) from rfl, e1]
  · rw [k2', show (eC x nv av')[2]? = some (.int .i64 x.int) from rfl, e3]
set_option maxHeartbeats 4000000 in
theorem numbers_any (w : World) (n : Int) (b : Int) (s : ByteArray) (n0 : -9223372036854775808 ≤ n) (n1 : n ≤ 9223372036854775807) (b0 : 0 ≤ b) (b1 : b ≤ 255) (hs : s.size ≤ 9223372036854775807) (hm : Lx.MX w) (hG : Gl w) : Calls Tryz.prog 7 #[.int .i64 n, .int .u8 b, .string s] w fun e w' => e = .returned (.bool true) ∧ Below w.heap.size w w' := by
  have t0 := True.intro
  have H1 := hid hm
  have H2 := hid hG
  obtain ⟨k, hk⟩ : ∃ k : Nat, (k : Int) = b.tmod 20 := ⟨(b.tmod 20).toNat, by have := Int.tmod_nonneg 20 b0; omega⟩
  have hk20 : (k : Int) < 20 := by rw [hk]; exact Int.tmod_lt_of_pos b (by decide)
  have hbk : b.tmod 20 = (k : Int) := hk.symm
  have hwk : IntKind.i64.wrap (k : Int) = (k : Int) := wrap_small _ (by omega) (by omega)
  have hwu : IntKind.u8.wrap (k : Int) = (k : Int) := by simp [IntKind.wrap, IntKind.signed, IntKind.bits]; omega
  clear hk
  go_enter Tryz.func7, Tryz.ntmps7
  go_wp2_with ((have hno := t0; (go_at_call 9; (refine (known_any _ hm hG).mono ?_; rintro e w1 ⟨rfl, hb⟩; have hz1 := hid hb.size; have hb1 := hid hb; have t1 := True.intro; clear hb))))
  have hs0 : (Value.string ⟨#[]⟩) = .string (bs (zrs 0)) := rfl
  rw [hs0]
  have t2 := True.intro
  go_loopg [7, 8] k (fun g vs vi wr => ∃ i : Nat, i + g = k ∧ vs = .string (bs (zrs i)) ∧ vi = .int .i64 (i : Int) ∧ wr = w1)
  case atStart => exact ⟨0, by omega, rfl, rfl, rfl⟩
  case round =>
    obtain ⟨i, hig, rfl, rfl, rfl⟩ := hrel
    cases gk with
    | succ g =>
      have q1 : (i : Int) < (k : Int) := by omega
      have hw : IntKind.i64.wrap ((i : Int) + 1) = (i : Int) + 1 := wrap_small _ (by omega) (by omega)
      have ha : ∀ V : World, (Op.stringOp .add (bs (zrs i)) ⟨#[48]⟩).run Tryz.prog V = .ok (.string (bs (zrs (i + 1)))) V := fun V => add_zr (by omega) V
      go_wp2
      go_roundg g
      case measure => omega
      exact ⟨i + 1, by omega, rfl, by push_cast; rfl, rfl⟩
    | zero =>
      have hi : i = k := by omega
      subst hi
      have q1 : ¬ ((i : Int) < (i : Int)) := by omega
      have hi20 : i ≤ 20 := by omega
      have hE : ∃ E : Bsq, s = bs E := ⟨s.data.toList, by apply ByteArray.ext; simp⟩
      obtain ⟨E, rfl⟩ := hE
      have hsz := bs_size E
      have hEl : (E.length : Int) ≤ 9223372036854775807 := by rw [← hsz]; omega
      by_cases hn : n < 0
      · have hU : Lib.itoa n = 45 :: Lib.decDigits n.natAbs := by unfold Lib.itoa; rw [if_pos hn]
        obtain ⟨U, hUd⟩ : ∃ U, U = Lib.decDigits n.natAbs := ⟨_, rfl⟩
        have hUl : U.length ≤ 30 := by rw [hUd]; exact decD_len _ (by omega)
        rw [← hUd] at hU
        have hX : (45 :: 32 :: (zrs i ++ U)).length ≤ 1000 := by simp [zrs_len]; omega
        have hp := hid (show parseT (preD ++ ((45 :: 32 :: (zrs i ++ U)) ++ endD)) = .ok ⟨[], [], [], [⟨[101], [], [], [], [], [pkS (stN n)], 0⟩]⟩ by
          have q := read_neg i n.natAbs hi20 (by omega)
          rw [← hUd, show -((n.natAbs : Nat) : Int) = n by omega] at q
          exact q)
        have hln := hid (fin_num _ hX)
        have ha1 : ∀ V : World, (Op.stringOp .add ⟨#[45, 32]⟩ (bs (zrs i))).run Tryz.prog V = .ok (.string (bs (45 :: 32 :: zrs i))) V := fun V => add_run [45, 32] (zrs i) (by rw [zrs_len]; simp; omega) V
        have ha2 : ∀ V : World, (Op.stringOp .add (bs (45 :: 32 :: zrs i)) (bs U)).run Tryz.prog V = .ok (.string (bs (45 :: 32 :: (zrs i ++ U)))) V := fun V => add_run (45 :: 32 :: zrs i) U (by simp [zrs_len]; omega) V
        have ha3 := add_pre _ hX
        have ha4 := add_end _ hX
        have hext := bs_tail 45 U
        clear hUd hX
        generalize preD ++ ((45 :: 32 :: (zrs i ++ U)) ++ endD) = F at hp hln ha4
        generalize preD ++ (45 :: 32 :: (zrs i ++ U)) = F1 at ha3 ha4
        generalize 45 :: 32 :: (zrs i ++ U) = X at ha2 ha3
        generalize 45 :: 32 :: zrs i = X0 at ha1 ha2
        by_cases hs1 : (E.length : Int) < 20
        · go_wp2_with (first
            | (have hno := t3; (go_at_call 10; (refine (call_num _ _ _ hp.out hln.out (mx_below (mx_below H1.out hb1.out) hb2.out) (gl_below (gl_below H2.out hb1.out) hb2.out)).mono ?_; rintro e w3 ⟨a0, a1, a2, m0, m1, m2, k0, k1, k2, g, off, cap, g2, off2, cap2, g3, off3, cap3, rfl, hc, hg, h5, hc2, hg2, h4, hc3, hg3, h6, h7, hb⟩; have hb3 := hid hb; have t4 := True.intro; have c5 := cell_alloc hg h5; have c4 := cell_alloc hg2 h4; have c6 := cell_alloc hg3 h6; have c7 := cell_alloc hg3 h7; clear hb)))
            | (have hno := t2; (go_at_call 15; (refine (digits_any n n0 n1 _).mono ?_; rw [hU]; rintro e w2 ⟨rfl, hb⟩; have hb2 := hid hb; have t3 := True.intro; clear hb)))
            )
          refine bodyPost_ret (v := .bool true) (by simp [results, Tryz.results7, go_sem]) rfl ⟨rfl, ?_⟩
          exact ((hb1.out.trans (hb2.out.mono hz1.out)).trans (hb3.out.mono (Nat.le_trans hz1.out hb2.out.size))).alloc (by have := hz1.out; have := hb2.out.size; have := hb3.out.size; omega) _
        · by_cases hs2 : (60 : Int) < (E.length : Int)
          · go_wp2_with (first
              | (have hno := t3; (go_at_call 10; (refine (call_num _ _ _ hp.out hln.out (mx_below (mx_below H1.out hb1.out) hb2.out) (gl_below (gl_below H2.out hb1.out) hb2.out)).mono ?_; rintro e w3 ⟨a0, a1, a2, m0, m1, m2, k0, k1, k2, g, off, cap, g2, off2, cap2, g3, off3, cap3, rfl, hc, hg, h5, hc2, hg2, h4, hc3, hg3, h6, h7, hb⟩; have hb3 := hid hb; have t4 := True.intro; have c5 := cell_alloc hg h5; have c4 := cell_alloc hg2 h4; have c6 := cell_alloc hg3 h6; have c7 := cell_alloc hg3 h7; clear hb)))
              | (have hno := t2; (go_at_call 15; (refine (digits_any n n0 n1 _).mono ?_; rw [hU]; rintro e w2 ⟨rfl, hb⟩; have hb2 := hid hb; have t3 := True.intro; clear hb)))
              )
            refine bodyPost_ret (v := .bool true) (by simp [results, Tryz.results7, go_sem]) rfl ⟨rfl, ?_⟩
            exact ((hb1.out.trans (hb2.out.mono hz1.out)).trans (hb3.out.mono (Nat.le_trans hz1.out hb2.out.size))).alloc (by have := hz1.out; have := hb2.out.size; have := hb3.out.size; omega) _
          · go_wp2_with (first
              | (have hno := t3; (go_at_call 10; (refine (call_num _ _ _ hp.out hln.out (mx_below (mx_below H1.out hb1.out) hb2.out) (gl_below (gl_below H2.out hb1.out) hb2.out)).mono ?_; rintro e w3 ⟨a0, a1, a2, m0, m1, m2, k0, k1, k2, g, off, cap, g2, off2, cap2, g3, off3, cap3, rfl, hc, hg, h5, hc2, hg2, h4, hc3, hg3, h6, h7, hb⟩; have hb3 := hid hb; have t4 := True.intro; have c5 := cell_alloc hg h5; have c4 := cell_alloc hg2 h4; have c6 := cell_alloc hg3 h6; have c7 := cell_alloc hg3 h7; clear hb)))
              | (have hno := t2; (go_at_call 15; (refine (digits_any n n0 n1 _).mono ?_; rw [hU]; rintro e w2 ⟨rfl, hb⟩; have hb2 := hid hb; have t3 := True.intro; clear hb)))
              )
            have hBW : Below w.heap.size w (w3.alloc (.cells #[.slice a0 m0 k0, .slice a1 m1 k1, .slice a2 m2 k2, .slice (some ⟨g, off, none⟩) 1 cap] 25)) := by
              exact ((hb1.out.trans (hb2.out.mono hz1.out)).trans (hb3.out.mono (Nat.le_trans hz1.out hb2.out.size))).alloc (by have := hz1.out; have := hb2.out.size; have := hb3.out.size; omega) _
            have hBW := hid hBW
            generalize (w3.alloc (.cells #[.slice a0 m0 k0, .slice a1 m1 k1, .slice a2 m2 k2, .slice (some ⟨g, off, none⟩) 1 cap] 25)) = W4 at hBW ⊢
            clear c4 c5 c6 c7 h4 h5 h6 h7 hb3 hp hln ha3 ha4
            have t5 := True.intro
            go_loopg [13] E.length (fun gg vi wr => ∃ j : Nat, j + gg = E.length ∧ vi = .int .i64 (j : Int) ∧ wr = W4 ∧ ∀ c ∈ E.take j, 49 ≤ c.toNat ∧ c.toNat ≤ 57)
            case atStart => exact ⟨0, by omega, rfl, rfl, by simp⟩
            case round =>
              obtain ⟨j, hjg, rfl, rfl, hall⟩ := hrel
              cases gk with
              | succ gg =>
                have q1 : (j : Int) < (E.length : Int) := by omega
                have hjl : j < E.length := by omega
                have hw : IntKind.i64.wrap ((j : Int) + 1) = (j : Int) + 1 := wrap_small _ (by omega) (by omega)
                have hjs : j < (bs E).size := by show j < E.toArray.size; rw [List.size_toArray]; exact hjl
                have hej := hid (show (bs E)[j]'hjs = E[j]'hjl from rfl)
                by_cases hc1 : (((bs E)[j]'hjs).toNat : Int) < 49
                · go_wp2
                  refine bodyPost_ret (v := .bool true) (by simp [results, Tryz.results7, go_sem]) rfl ⟨rfl, ?_⟩
                  exact hBW.out
                · by_cases hc2 : (57 : Int) < (((bs E)[j]'hjs).toNat : Int)
                  · go_wp2
                    refine bodyPost_ret (v := .bool true) (by simp [results, Tryz.results7, go_sem]) rfl ⟨rfl, ?_⟩
                    exact hBW.out
                  · go_wp2
                    go_roundg gg
                    case measure => omega
                    refine ⟨j + 1, by omega, by push_cast; rfl, rfl, fun c hc => ?_⟩
                    rw [List.take_succ_eq_append_getElem hjl] at hc
                    rcases List.mem_append.1 hc with hc | hc
                    · exact hall c hc
                    · have : c = E[j]'hjl := by simpa using hc
                      rw [this, ← hej.out]
                      omega
              | zero =>
                have hj : j = E.length := by omega
                subst hj
                have q1 : ¬ ((E.length : Int) < (E.length : Int)) := by omega
                have hE20 : 20 ≤ E.length := by omega
                have hE60 : E.length ≤ 60 := by omega
                have hp := hid (read_great i E hi20 hE20 hE60 (by rw [List.take_length] at hall; exact hall))
                have hX : (zrs i ++ E).length ≤ 1000 := by simp [zrs_len]; omega
                have hln := hid (fin_num _ hX)
                have hb1' : ∀ V : World, (Op.stringOp .add ⟨#[111, 110, 32, 101, 40, 41, 32, 123, 32, 100, 111, 32]⟩ (bs (zrs i))).run Tryz.prog V = .ok (.string (bs (preD ++ zrs i))) V := add_pre (zrs i) (by rw [zrs_len]; omega)
                have hb2' : ∀ V : World, (Op.stringOp .add (bs (preD ++ zrs i)) (bs E)).run Tryz.prog V = .ok (.string (bs (preD ++ (zrs i ++ E)))) V := fun V => by
                  have q := add_run (preD ++ zrs i) E (by simp [preD, zrs_len]; omega) V
                  rw [List.append_assoc] at q
                  exact q
                have hb3' := add_end _ hX
                clear hX
                generalize preD ++ ((zrs i ++ E) ++ endD) = F at hp hln hb3'
                generalize preD ++ (zrs i ++ E) = F1 at hb2' hb3'
                generalize preD ++ zrs i = F0 at hb1' hb2'
                go_wp2_with (have hno := t5; (go_at_call 10; (refine (parse_no _ _ _ _ hp.out hln.out (mx_below H1.out hBW.out) (gl_below H2.out hBW.out)).mono ?_; rintro e w6 ⟨rfl, hb⟩; have hb6 := hid hb; clear hb)))
                refine bodyPost_ret (v := .bool true) (by simp [results, Tryz.results7, go_sem]) rfl ⟨rfl, ?_⟩
                exact (hBW.out.trans (hb6.out.mono hBW.out.size)).alloc (by have := hBW.out.size; have := hb6.out.size; omega) _
      · have hU : Lib.itoa n = Lib.decDigits n.toNat := by unfold Lib.itoa; rw [if_neg hn]
        obtain ⟨U, hUd⟩ : ∃ U, U = Lib.decDigits n.toNat := ⟨_, rfl⟩
        have hUl : U.length ≤ 30 := by rw [hUd]; exact decD_len _ (by omega)
        rw [← hUd] at hU
        have hX : (zrs i ++ U).length ≤ 1000 := by simp [zrs_len]; omega
        have hp := hid (show parseT (preD ++ ((zrs i ++ U) ++ endD)) = .ok ⟨[], [], [], [⟨[101], [], [], [], [], [pkS (stN n)], 0⟩]⟩ by
          have q := read_pos i n.toNat hi20 (by omega)
          rw [← hUd, show ((n.toNat : Nat) : Int) = n by omega] at q
          exact q)
        have hln := hid (fin_num _ hX)
        have ha2 : ∀ V : World, (Op.stringOp .add (bs (zrs i)) (bs U)).run Tryz.prog V = .ok (.string (bs (zrs i ++ U))) V := fun V => add_run (zrs i) U (by simp [zrs_len]; omega) V
        have ha3 := add_pre _ hX
        have ha4 := add_end _ hX
        clear hUd hX
        generalize preD ++ ((zrs i ++ U) ++ endD) = F at hp hln ha4
        generalize preD ++ (zrs i ++ U) = F1 at ha3 ha4
        generalize zrs i ++ U = X at ha2 ha3
        by_cases hs1 : (E.length : Int) < 20
        · go_wp2_with (first
            | (have hno := t3; (go_at_call 10; (refine (call_num _ _ _ hp.out hln.out (mx_below (mx_below H1.out hb1.out) hb2.out) (gl_below (gl_below H2.out hb1.out) hb2.out)).mono ?_; rintro e w3 ⟨a0, a1, a2, m0, m1, m2, k0, k1, k2, g, off, cap, g2, off2, cap2, g3, off3, cap3, rfl, hc, hg, h5, hc2, hg2, h4, hc3, hg3, h6, h7, hb⟩; have hb3 := hid hb; have t4 := True.intro; have c5 := cell_alloc hg h5; have c4 := cell_alloc hg2 h4; have c6 := cell_alloc hg3 h6; have c7 := cell_alloc hg3 h7; clear hb)))
            | (have hno := t2; (go_at_call 15; (refine (digits_any n n0 n1 _).mono ?_; rw [hU]; rintro e w2 ⟨rfl, hb⟩; have hb2 := hid hb; have t3 := True.intro; clear hb)))
            )
          refine bodyPost_ret (v := .bool true) (by simp [results, Tryz.results7, go_sem]) rfl ⟨rfl, ?_⟩
          exact ((hb1.out.trans (hb2.out.mono hz1.out)).trans (hb3.out.mono (Nat.le_trans hz1.out hb2.out.size))).alloc (by have := hz1.out; have := hb2.out.size; have := hb3.out.size; omega) _
        · by_cases hs2 : (60 : Int) < (E.length : Int)
          · go_wp2_with (first
              | (have hno := t3; (go_at_call 10; (refine (call_num _ _ _ hp.out hln.out (mx_below (mx_below H1.out hb1.out) hb2.out) (gl_below (gl_below H2.out hb1.out) hb2.out)).mono ?_; rintro e w3 ⟨a0, a1, a2, m0, m1, m2, k0, k1, k2, g, off, cap, g2, off2, cap2, g3, off3, cap3, rfl, hc, hg, h5, hc2, hg2, h4, hc3, hg3, h6, h7, hb⟩; have hb3 := hid hb; have t4 := True.intro; have c5 := cell_alloc hg h5; have c4 := cell_alloc hg2 h4; have c6 := cell_alloc hg3 h6; have c7 := cell_alloc hg3 h7; clear hb)))
              | (have hno := t2; (go_at_call 15; (refine (digits_any n n0 n1 _).mono ?_; rw [hU]; rintro e w2 ⟨rfl, hb⟩; have hb2 := hid hb; have t3 := True.intro; clear hb)))
              )
            refine bodyPost_ret (v := .bool true) (by simp [results, Tryz.results7, go_sem]) rfl ⟨rfl, ?_⟩
            exact ((hb1.out.trans (hb2.out.mono hz1.out)).trans (hb3.out.mono (Nat.le_trans hz1.out hb2.out.size))).alloc (by have := hz1.out; have := hb2.out.size; have := hb3.out.size; omega) _
          · go_wp2_with (first
              | (have hno := t3; (go_at_call 10; (refine (call_num _ _ _ hp.out hln.out (mx_below (mx_below H1.out hb1.out) hb2.out) (gl_below (gl_below H2.out hb1.out) hb2.out)).mono ?_; rintro e w3 ⟨a0, a1, a2, m0, m1, m2, k0, k1, k2, g, off, cap, g2, off2, cap2, g3, off3, cap3, rfl, hc, hg, h5, hc2, hg2, h4, hc3, hg3, h6, h7, hb⟩; have hb3 := hid hb; have t4 := True.intro; have c5 := cell_alloc hg h5; have c4 := cell_alloc hg2 h4; have c6 := cell_alloc hg3 h6; have c7 := cell_alloc hg3 h7; clear hb)))
              | (have hno := t2; (go_at_call 15; (refine (digits_any n n0 n1 _).mono ?_; rw [hU]; rintro e w2 ⟨rfl, hb⟩; have hb2 := hid hb; have t3 := True.intro; clear hb)))
              )
            have hBW : Below w.heap.size w (w3.alloc (.cells #[.slice a0 m0 k0, .slice a1 m1 k1, .slice a2 m2 k2, .slice (some ⟨g, off, none⟩) 1 cap] 25)) := by
              exact ((hb1.out.trans (hb2.out.mono hz1.out)).trans (hb3.out.mono (Nat.le_trans hz1.out hb2.out.size))).alloc (by have := hz1.out; have := hb2.out.size; have := hb3.out.size; omega) _
            have hBW := hid hBW
            generalize (w3.alloc (.cells #[.slice a0 m0 k0, .slice a1 m1 k1, .slice a2 m2 k2, .slice (some ⟨g, off, none⟩) 1 cap] 25)) = W4 at hBW ⊢
            clear c4 c5 c6 c7 h4 h5 h6 h7 hb3 hp hln ha3 ha4
            have t5 := True.intro
            go_loopg [13] E.length (fun gg vi wr => ∃ j : Nat, j + gg = E.length ∧ vi = .int .i64 (j : Int) ∧ wr = W4 ∧ ∀ c ∈ E.take j, 49 ≤ c.toNat ∧ c.toNat ≤ 57)
            case atStart => exact ⟨0, by omega, rfl, rfl, by simp⟩
            case round =>
              obtain ⟨j, hjg, rfl, rfl, hall⟩ := hrel
              cases gk with
              | succ gg =>
                have q1 : (j : Int) < (E.length : Int) := by omega
                have hjl : j < E.length := by omega
                have hw : IntKind.i64.wrap ((j : Int) + 1) = (j : Int) + 1 := wrap_small _ (by omega) (by omega)
                have hjs : j < (bs E).size := by show j < E.toArray.size; rw [List.size_toArray]; exact hjl
                have hej := hid (show (bs E)[j]'hjs = E[j]'hjl from rfl)
                by_cases hc1 : (((bs E)[j]'hjs).toNat : Int) < 49
                · go_wp2
                  refine bodyPost_ret (v := .bool true) (by simp [results, Tryz.results7, go_sem]) rfl ⟨rfl, ?_⟩
                  exact hBW.out
                · by_cases hc2 : (57 : Int) < (((bs E)[j]'hjs).toNat : Int)
                  · go_wp2
                    refine bodyPost_ret (v := .bool true) (by simp [results, Tryz.results7, go_sem]) rfl ⟨rfl, ?_⟩
                    exact hBW.out
                  · go_wp2
                    go_roundg gg
                    case measure => omega
                    refine ⟨j + 1, by omega, by push_cast; rfl, rfl, fun c hc => ?_⟩
                    rw [List.take_succ_eq_append_getElem hjl] at hc
                    rcases List.mem_append.1 hc with hc | hc
                    · exact hall c hc
                    · have : c = E[j]'hjl := by simpa using hc
                      rw [this, ← hej.out]
                      omega
              | zero =>
                have hj : j = E.length := by omega
                subst hj
                have q1 : ¬ ((E.length : Int) < (E.length : Int)) := by omega
                have hE20 : 20 ≤ E.length := by omega
                have hE60 : E.length ≤ 60 := by omega
                have hp := hid (read_great i E hi20 hE20 hE60 (by rw [List.take_length] at hall; exact hall))
                have hX : (zrs i ++ E).length ≤ 1000 := by simp [zrs_len]; omega
                have hln := hid (fin_num _ hX)
                have hb1' : ∀ V : World, (Op.stringOp .add ⟨#[111, 110, 32, 101, 40, 41, 32, 123, 32, 100, 111, 32]⟩ (bs (zrs i))).run Tryz.prog V = .ok (.string (bs (preD ++ zrs i))) V := add_pre (zrs i) (by rw [zrs_len]; omega)
                have hb2' : ∀ V : World, (Op.stringOp .add (bs (preD ++ zrs i)) (bs E)).run Tryz.prog V = .ok (.string (bs (preD ++ (zrs i ++ E)))) V := fun V => by
                  have q := add_run (preD ++ zrs i) E (by simp [preD, zrs_len]; omega) V
                  rw [List.append_assoc] at q
                  exact q
                have hb3' := add_end _ hX
                clear hX
                generalize preD ++ ((zrs i ++ E) ++ endD) = F at hp hln hb3'
                generalize preD ++ (zrs i ++ E) = F1 at hb2' hb3'
                generalize preD ++ zrs i = F0 at hb1' hb2'
                go_wp2_with (have hno := t5; (go_at_call 10; (refine (parse_no _ _ _ _ hp.out hln.out (mx_below H1.out hBW.out) (gl_below H2.out hBW.out)).mono ?_; rintro e w6 ⟨rfl, hb⟩; have hb6 := hid hb; clear hb)))
                refine bodyPost_ret (v := .bool true) (by simp [results, Tryz.results7, go_sem]) rfl ⟨rfl, ?_⟩
                exact (hBW.out.trans (hb6.out.mono hBW.out.size)).alloc (by have := hBW.out.size; have := hb6.out.size; omega) _
end Go.Proofs.YtkhjacflmggelaaGreatDoor

namespace Go.Proofs.YtkhjacflmggelaaGreatDoor
open Go.ChangeShapes Go.WideShapes Go.ChangeAt Go.RowKit Go.Deep Go.Shelf
set_option linter.unusedVariables false
set_option linter.unusedSimpArgs false
set_option maxRecDepth 100000
theorem ownN : ownKnob Tryz.prog.godebug = none := by kernel_rfl
theorem mx_of {W : World} (hs : W.ShapedOpen Tryz.prog) : Lx.MX W :=
  cell_of_shapedOpen_int hs (t := 3) (zero := #[.int .i64 0]) (of_decide_eq_true (by kernel_rfl)) (by kernel_rfl) rfl (by kernel_rfl) (by kernel_rfl) Tryz.underlying3
theorem starE : "*" ++ "errors.errorString" = "*errors.errorString" := by decide
theorem row254 (u : TypeId) (h : Tryz.prog.typeName? 3 u = some "*errors.errorString") : u = 254 :=
  typeName_ptr_named (nm := "errors.errorString") (by rw [starE]; kernel_rfl) (by kernel_rfl) (by decide) u (by rw [starE]; exact h)
def rngData : DataW Unit := .iface "*errors.errorString" (.ptr (.agg [.lit (.string [118, 97, 108, 117, 101, 32, 111, 117, 116, 32, 111, 102, 32, 114, 97, 110, 103, 101])]))
theorem gl_of {W : World} {laid : List (String × DataW Unit)} (hs : W.ShapedOpen Tryz.prog) (hL : laidMetH Tryz.prog laid W) (e : (laid.filter fun x => x.1 == "strconv.ErrRange") = [("strconv.ErrRange", rngData)]) : Gl W := by
  have h := hL.filter (fun x => x.1 == "strconv.ErrRange")
  rw [e] at h
  have h2 : laidMet Tryz.prog [("strconv.ErrRange", rngData)] W := (laidMetH_iff.1 h).1
  obtain ⟨a, s, hv, _, _, _⟩ := laid_sentinel h2 (g := 7) (ti := 179) (tp := 254) (te := 256) (ts := 9) (by kernel_rfl) (by kernel_rfl) Tryz.underlying179 row254 Tryz.underlying254 Tryz.underlying256 rfl rfl Tryz.underlying9 (by kernel_rfl) (by kernel_rfl)
  obtain ⟨cs, hh, hz, _⟩ := hs.1 7 #[.nilIface] 179 (of_decide_eq_true (by kernel_rfl)) (by kernel_rfl)
  have hc : W.cell? ⟨7, 0, none⟩ = some (.iface 254 (.pointer (some a))) := by simpa using World.var?_cell (P := Tryz.prog) (n := "strconv.ErrRange") (g := 7) (by kernel_rfl) hv 0
  have hc2 := (cellOf hh 0).symm.trans hc
  obtain ⟨l⟩ := cs
  match l, hz with
  | [x], _ =>
    have hx : x = .iface 254 (.pointer (some a)) := by simpa using hc2
    subst hx
    exact ⟨_, _, _, hh⟩
/- A contract under the row's conditions, the world's shape and the tables at hand. -/
theorem handed_laid {H : Type} {enc : TypeId × Value → H} {a : Assume} {C : Checked} {os : Os} {f : FuncId} {fn : Func} {s : ChangeSpec} {conds : List PathCond} {apart fresh handsOn again : Bool} {X : World → Array Value → Prop}
    (hX : ∀ (w w' : World) (args : Array Value), w.heap = w'.heap → X w args → X w' args)
    (own : ownKnob C.prog.godebug = none) (started : os.Started) (noInit : C.prog.inits.idxOf? f = none) (hfn : C.prog.funcs[f]? = some fn)
    (witness : ∃ (w : World) (tape : Tape) (i : Input), w.os = os ∧ (w.forCall tape i).Shaped C.prog ∧ i.vars = [] ∧ Input.okWide C.prog (w.forCall tape i) .any w.heap.size f i ∧
      ((s.pre enc C.prog fn conds apart (w.forCall tape i).memory i.args ∧ X (w.forCall tape i).memory i.args) ∧ sizedMet enc C.prog fn (OpenSpec.ofChange s) apart (w.forCall tape i).memory i.args) ∧ a.holds C.prog (lone (Frame.enter C.prog f i.args .normal) [] (w.forCall tape i)))
    (contract : ∀ (W : World) (base : Nat) (args : Array Value) (ds gs : List (DataW H)) (before : List MemPlace),
      (∀ (j : Nat) t v, fn.params[j]? = some t → args[j]? = some v → Value.okWide C.prog W .any base t v) →
      DataW.Whole enc C.prog fn.params.toList s.vars apart W args.toList ds gs before →
      (DataW.weightsEach C.prog (fn.params.toList ++ s.plain.varTypes C.prog) (ds ++ gs)).all (· ≤ reachBytes) = true → X W args → W.ShapedOpen C.prog →
      Calls C.prog f args W fun e W' => ∃ v, e = .returned v ∧ s.post enc C.prog fn apart fresh handsOn again W args v W') :
    ReturnsInHanded a C os f .any (fun w args => (s.pre enc C.prog fn conds apart w args ∧ X w args) ∧ sizedMet enc C.prog fn (OpenSpec.ofChange s) apart w args) (s.post enc C.prog fn apart fresh handsOn again) := by
  refine returnsInHanded_of_calls own started noInit witness ?_
  intro w tape i _ hsh _ hok hpre hholds
  obtain ⟨_, _, _, fn', hfn', _, _, _, _, hval⟩ := hok
  obtain rfl : fn' = fn := Option.some.inj (hfn'.symm.trans hfn)
  obtain ⟨⟨⟨ds, gs, before, hw, hc⟩, hx⟩, hz⟩ := hpre
  refine (contract (w.forCall tape i) w.heap.size i.args ds gs before hval (DataW.Whole.of_heap (w' := w.forCall tape i) (by rfl) hw) (hz.weights hw) (hX _ _ _ (by rfl) hx) hsh).mono fun e W' ⟨v, he, hp⟩ => ?_
  subst he
  exact ChangeSpec.post_blind hp
def cellsIn (c : Array Value) : Obj → Obj
  | .cells _ t frozen => .cells c t frozen
  | o => o
def firstCells : Array Value := (Go.Pinned.utf8FirstZ.map fun (x : Nat) => Value.int .u8 (x : Int)).toArray
def tables (h : Array Obj) : Array Obj := (((((((h.modify 1 (cellsIn firstCells)).modify 2 (cellsIn #[.int .u8 128, .int .u8 191, .int .u8 160, .int .u8 191, .int .u8 128, .int .u8 159, .int .u8 144, .int .u8 191, .int .u8 128, .int .u8 143, .int .u8 0, .int .u8 0, .int .u8 0, .int .u8 0, .int .u8 0, .int .u8 0, .int .u8 0, .int .u8 0, .int .u8 0, .int .u8 0, .int .u8 0, .int .u8 0, .int .u8 0, .int .u8 0, .int .u8 0, .int .u8 0, .int .u8 0, .int .u8 0, .int .u8 0, .int .u8 0, .int .u8 0, .int .u8 0])).modify 3 (cellsIn #[.int .u64 1, .int .u64 10, .int .u64 100, .int .u64 1000, .int .u64 10000, .int .u64 100000, .int .u64 1000000, .int .u64 10000000, .int .u64 100000000, .int .u64 1000000000, .int .u64 10000000000, .int .u64 100000000000, .int .u64 1000000000000, .int .u64 10000000000000, .int .u64 100000000000000, .int .u64 1000000000000000, .int .u64 10000000000000000, .int .u64 100000000000000000, .int .u64 1000000000000000000, .int .u64 10000000000000000000])).modify 4 (cellsIn #[.int .u8 0, .int .u8 1, .int .u8 28, .int .u8 2, .int .u8 29, .int .u8 14, .int .u8 24, .int .u8 3, .int .u8 30, .int .u8 22, .int .u8 20, .int .u8 15, .int .u8 25, .int .u8 17, .int .u8 4, .int .u8 8, .int .u8 31, .int .u8 27, .int .u8 13, .int .u8 23, .int .u8 21, .int .u8 19, .int .u8 16, .int .u8 7, .int .u8 26, .int .u8 12, .int .u8 18, .int .u8 6, .int .u8 11, .int .u8 5, .int .u8 10, .int .u8 9])).modify 5 (cellsIn #[.int .u8 0, .int .u8 1, .int .u8 56, .int .u8 2, .int .u8 57, .int .u8 49, .int .u8 28, .int .u8 3, .int .u8 61, .int .u8 58, .int .u8 42, .int .u8 50, .int .u8 38, .int .u8 29, .int .u8 17, .int .u8 4, .int .u8 62, .int .u8 47, .int .u8 59, .int .u8 36, .int .u8 45, .int .u8 43, .int .u8 51, .int .u8 22, .int .u8 53, .int .u8 39, .int .u8 33, .int .u8 30, .int .u8 24, .int .u8 18, .int .u8 12, .int .u8 5, .int .u8 63, .int .u8 55, .int .u8 48, .int .u8 27, .int .u8 60, .int .u8 41, .int .u8 37, .int .u8 16, .int .u8 46, .int .u8 35, .int .u8 44, .int .u8 21, .int .u8 52, .int .u8 32, .int .u8 23, .int .u8 11, .int .u8 54, .int .u8 26, .int .u8 40, .int .u8 15, .int .u8 34, .int .u8 20, .int .u8 31, .int .u8 10, .int .u8 25, .int .u8 14, .int .u8 19, .int .u8 9, .int .u8 13, .int .u8 8, .int .u8 7, .int .u8 6])).modify 6 (cellsIn #[.iface 254 (.pointer (some ⟨13, 0, none⟩))])).modify 7 (cellsIn #[.iface 254 (.pointer (some ⟨13 + 1, 0, none⟩))]))
def newErrs : Array Obj := #[.cells #[.string ⟨#[105, 110, 118, 97, 108, 105, 100, 32, 115, 121, 110, 116, 97, 120]⟩] 256, .cells #[.string ⟨#[118, 97, 108, 117, 101, 32, 111, 117, 116, 32, 111, 102, 32, 114, 97, 110, 103, 101]⟩] 256]
theorem laid_met {laid : List (String × DataW Unit)} (e : laid = Rows.parseManyRow.laid) (os : Os) (args : Array Value) : laidMetH Tryz.prog laid (({ World.holding Tryz.prog os ⟨newErrs, #[], []⟩ with heap := tables (World.holding Tryz.prog os ⟨newErrs, #[], []⟩).heap } : World).forCall (fun _ _ => 0) ⟨#[], args, []⟩).memory := by
  subst e
  exact laidMetH_of_parts3 (fuel := 8) (laidMet_of_run' 8 (by kernel_rfl) (by kernel_rfl)) (by kernel_rfl) (by kernel_rfl)
end Go.Proofs.YtkhjacflmggelaaGreatDoor

namespace Go.Proofs.YtkhjacflmggelaaGreatDoor
open Go.ChangeShapes Go.WideShapes Go.ChangeAt Go.RowKit Go.Deep Go.Shelf
set_option linter.unusedVariables false
set_option linter.unusedSimpArgs false
set_option maxRecDepth 100000
theorem parseNumbers_lifted (os : Os) (started : os.Started) (H : Type) (enc : TypeId × Value → H) :
    ReturnsInHanded {} Tryz.checked os 7 .any (fun w args => (Rows.parseNumbersSpec.pre enc Tryz.prog Tryz.f7 [] false w args ∧ laidMetH Tryz.prog Rows.parseNumbersRow.laid w) ∧ sizedMet enc Tryz.prog Tryz.f7 (OpenSpec.ofChange Rows.parseNumbersSpec) false w args)
      (Rows.parseNumbersSpec.post enc Tryz.prog Tryz.f7 false true false false) := by
  refine handed_laid (C := Tryz.checked) (X := fun w _ => laidMetH Tryz.prog Rows.parseNumbersRow.laid w) (fun _ _ _ hh h => h.of_heap hh) ownN started (by kernel_rfl) Tryz.func7
    (ChangeSpec.witness_at (enc := enc) (C := Tryz.checked) (os := os) (X := fun w _ => laidMetH Tryz.prog Rows.parseNumbersRow.laid w) false ({ World.holding Tryz.prog os ⟨newErrs, #[], []⟩ with heap := tables (World.holding Tryz.prog os ⟨newErrs, #[], []⟩).heap } : World) #[.int .i64 0, .int .u8 0, .string ByteArray.empty] 8 rfl (by kernel_rfl) (by kernel_rfl) (by kernel_rfl) (by kernel_rfl) (by kernel_rfl) (laid_met (by rfl) os _)) ?_
  intro W base args ds gs before hval0 hW _ hL hsh
  have hval : ∀ (j : Nat) t v, Tryz.f7.params[j]? = some t → args[j]? = some v → Value.okWide Tryz.prog W .any base t v := hval0
  have hW' := hW
  obtain ⟨p, q, hA0, hV, rfl, hfz, hnd⟩ := hW
  have hA : DataW.TrodAll enc Tryz.prog W 0 (fun _ => true) true Tryz.f7.params.toList args.toList ds p := hA0
  rw [Tryz.params7] at hA hval
  obtain ⟨v0, vs0, d0, ds0, p0, q0, hargs, rfl, rfl, h0, r0⟩ := trodAll_cons hA
  obtain ⟨v1, vs1, d1, ds1, p1, q1, rfl, rfl, rfl, h1, r1⟩ := trodAll_cons r0
  obtain ⟨v2, vs2, d2, ds2, p2, q2, rfl, rfl, rfl, h2, r2⟩ := trodAll_cons r1
  obtain ⟨rfl, rfl, rfl⟩ := trodAll_nil r2
  obtain rfl : args = #[v0, v1, v2] := by cases args; simp_all
  obtain ⟨rfl, rfl⟩ := trodVars_none hV
  obtain ⟨a0, rfl, rfl, rfl, w0⟩ := open_int Tryz.underlying2 (hval 0 2 v0 rfl rfl) h0
  obtain ⟨a1, rfl, rfl, rfl, w1⟩ := open_int Tryz.underlying5 (hval 1 5 v1 rfl rfl) h1
  obtain ⟨s2, rfl, rfl, rfl, w2⟩ := ChangeMaps.open_string Tryz.underlying9 (hval 2 9 v2 rfl rfl) h2
  have b0 : -9223372036854775808 ≤ a0 ∧ a0 ≤ 9223372036854775807 := by simpa [Lit.wf, IntKind.min, IntKind.max, IntKind.signed, IntKind.bits] using w0
  have b1 : 0 ≤ a1 ∧ a1 ≤ 255 := by simpa [Lit.wf, IntKind.min, IntKind.max, IntKind.signed, IntKind.bits] using w1
  have b2 : s2.size ≤ 9223372036854775807 := Nat.le_trans w2 (by decide)
  clear hA0 hval0
  refine (numbers_any W a0 a1 s2 b0.1 b0.2 b1.1 b1.2 b2 (mx_of hsh) (gl_of hsh hL (by kernel_rfl))).mono fun e W' ⟨he, bel⟩ => ?_
  subst he
  exact ⟨_, rfl, _, _, _, [], _, [], hW', trodAll_mk1 (shut_bool Tryz.underlying4 _), (trodAll_cons_mk (shut_int Tryz.underlying2 w0) (trodAll_cons_mk (shut_int Tryz.underlying5 w1) (trodAll_cons_mk (ChangeMaps.shut_string Tryz.underlying9 w2) trodAll_mk0))), rfl, bel.frame _, fun h => by cases h⟩
theorem parseNumbers_row : Rows.ParseNumbersSaid :=
  OpenClaim.holds_of_wide 7 Tryz.f7 rfl rfl rfl rfl rfl rfl rfl ⟨rfl, rfl, rfl, rfl, rfl⟩ rfl rfl rfl rfl rfl (by kernel_rfl) Tryz.func7 (by kernel_rfl)
    (of_decide_eq_true (by kernel_rfl)) (by unfold Func.isWrapper; first | (rw [if_pos (by decide +kernel)]; kernel_rfl) | (rw [if_neg (by decide +kernel)]; exact ⟨rfl, rfl⟩))
    (fun os started H enc _ => parseNumbers_lifted os started H enc)
theorem parseNumbers_card : Rows.ParseNumbersCardSaid :=
  Claim7.holds_tied_plain_at .later [] [.data, .data, .data, .data, .sentinel, .sentinel, .pinned] true (true, "5ef06d548210e40674650a4445350faf0454ce007da9a74f844f1c070e9d0176") true
    parseNumbers_row (fun _ h => by cases h) (by kernel_rfl) (fun _ h => by cases h) parseNumbers_row_tie rfl ⟨rfl, rfl⟩ (by kernel_rfl) rfl
    (fun f fn hf hfn => by
      obtain rfl : f = 7 := Option.some.inj ((show Tryz.prog.funcNamed "windlass/windlasslaw7.ParseNumbers" = some 7 by kernel_rfl).symm.trans hf) |>.symm
      obtain rfl : fn = Tryz.f7 := (Option.some.inj (Tryz.func7.symm.trans hfn)).symm
      exact ⟨by kernel_rfl, fun j t ht => by
        rw [Tryz.params7] at ht
        have hmem := List.mem_of_getElem? (l := [2, 5, 9]) (i := j) (a := t) (by simpa using ht)
        simp only [List.mem_cons, List.mem_nil_iff, or_false] at hmem
        rcases hmem with rfl | rfl | rfl <;> first | exact (show Tryz.prog.wantsStandIn 2 = false by kernel_rfl) | exact (show Tryz.prog.wantsStandIn 5 = false by kernel_rfl) | exact (show Tryz.prog.wantsStandIn 9 = false by kernel_rfl)⟩)
    (by kernel_rfl)
end Go.Proofs.YtkhjacflmggelaaGreatDoor

