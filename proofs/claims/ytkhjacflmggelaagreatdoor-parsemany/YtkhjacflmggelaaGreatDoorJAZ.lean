/- ParseMany's walk. -/
import Derived.Test.YtkhjacflmggelaaGreatDoorJAY
namespace Go.Proofs.YtkhjacflmggelaaGreatDoor
open Go Go.RowKit Go.Deep Go.Shelf
set_option linter.unusedVariables false
set_option linter.unusedSimpArgs false
set_option maxRecDepth 100000
theorem box3 (w : World) (b1 b2 b3 : Array Value) (T : TypeId) : Below w.heap.size w (((w.alloc (.cells b1 T)).alloc (.cells b2 T)).alloc (.cells b3 T)) ∧ Box (w.heap.size + 1) b2 T (((w.alloc (.cells b1 T)).alloc (.cells b2 T)).alloc (.cells b3 T)) ∧ Box (w.heap.size + 1 + 1) b3 T (((w.alloc (.cells b1 T)).alloc (.cells b2 T)).alloc (.cells b3 T)) := by
  refine ⟨(((Below.refl _ _).alloc (Nat.le_refl _) _).alloc (by rw [World.size_alloc]; omega) _).alloc (by rw [World.size_alloc, World.size_alloc]; omega) _, ?_, ?_⟩
  · have q := Box.new (w.alloc (.cells b1 T)) b2 T
    rw [World.size_alloc] at q
    exact q.alloc _
  · have q := Box.new ((w.alloc (.cells b1 T)).alloc (.cells b2 T)) b3 T
    rw [World.size_alloc, World.size_alloc] at q
    exact q
theorem bs_size (l : Bsq) : ((bs l).size : Int) = (l.length : Int) := by
  show ((l.toArray.size : Nat) : Int) = _
  rw [List.size_toArray]
theorem sM_succ (k i : Nat) (h : i ≠ 0) : sM k (i + 1) = (sM k i ++ [44, 32]) ++ elM k := by
  show scM (sM k i) i ++ elM k = _
  unfold scM
  rw [if_neg h]
theorem pl_lo {k i : Nat} (h : i < 12) : plM k (i + 1) = plM k i := by
  unfold plM; rw [if_neg (by omega), if_neg (by omega)]
theorem pl_hi {k i : Nat} (h : 12 < i) : plM k (i + 1) = plM k i := by
  unfold plM; rw [if_pos (by omega), if_pos (by omega)]
theorem pl_12 (k : Nat) : plM k (12 + 1) = ((sM k 12 ++ [44, 32]).length : Int) := by
  unfold plM; rw [if_pos (by omega)]; unfold scM; rw [if_neg (by omega)]
theorem p5_lo {i : Nat} (h : i < 16) : pl5 (i + 1) = pl5 i := by
  unfold pl5; rw [if_neg (by omega), if_neg (by omega)]
theorem p5_hi {i : Nat} (h : 16 < i) : pl5 (i + 1) = pl5 i := by
  unfold pl5; rw [if_pos (by omega), if_pos (by omega)]
theorem p5_16 : pl5 (16 + 1) = ((s5 16).length : Int) := by
  unfold pl5; rw [if_pos (by omega)]
theorem enM_len (k : Nat) : (enM k).length ≤ 10 := by unfold enM; split <;> decide
theorem elM_len (k : Nat) : (elM k).length ≤ 10 := by unfold elM; split <;> decide
theorem fin_len {k i : Nat} (h : i ≤ 30) : (sM k i ++ enM k).length ≤ 100000 := by
  have h1 := sM_len k i
  have h2 := enM_len k
  rw [List.length_append]
  omega
theorem add_en {k i : Nat} (h : i ≤ 30) (V : World) : (Op.stringOp .add (bs (sM k i)) (bs (enM k))).run Tryz.prog V = .ok (.string (bs (sM k i ++ enM k))) V := add_run _ _ (by have h1 := sM_len k i; have h2 := enM_len k; omega) V
theorem add_el {k i : Nat} (h : i ≤ 30) (V : World) : (Op.stringOp .add (bs (sM k i)) (bs (elM k))).run Tryz.prog V = .ok (.string (bs (sM k i ++ elM k))) V := add_run _ _ (by have h1 := sM_len k i; have h2 := elM_len k; omega) V
theorem add_cm {k i : Nat} (h : i ≤ 30) (V : World) : (Op.stringOp .add (bs (sM k i)) (bs [44, 32])).run Tryz.prog V = .ok (.string (bs (sM k i ++ [44, 32]))) V := add_run _ _ (by have h1 := sM_len k i; simp; omega) V
theorem add_ce {k i : Nat} (h : i ≤ 30) (V : World) : (Op.stringOp .add (bs (sM k i ++ [44, 32])) (bs (elM k))).run Tryz.prog V = .ok (.string (bs ((sM k i ++ [44, 32]) ++ elM k))) V := add_run _ _ (by have h1 := sM_len k i; have h2 := elM_len k; rw [List.length_append]; simp; omega) V
theorem add_s5 {i : Nat} (h : i ≤ 30) (V : World) : (Op.stringOp .add (bs (s5 i)) (bs [109, 97, 112, 32, 109, 58, 32, 105, 110, 116, 32, 45, 62, 32, 105, 110, 116, 59, 32])).run Tryz.prog V = .ok (.string (bs (s5 (i + 1)))) V := add_run _ _ (by have h1 := s5_len i; simp; omega) V
set_option maxHeartbeats 4000000 in
theorem many0 (w : World) (n : Nat) (what : Int) (r : Int) (hr : what.tmod 6 = r) (hr2 : IntKind.i64.wrap (r + 6) = r + 6) (hr3 : (r + 6).tmod 6 = 0) (h1 : 1 ≤ n) (h2 : n ≤ 30) (hm : Lx.MX w) (hG : Gl w) : Calls Tryz.prog 5 #[.int .i64 (n : Int), .int .i64 what] w fun e w' => e = .returned (.bool true) ∧ Below w.heap.size w w' := by
  have t0 := True.intro
  have H1 := hid hm
  have H2 := hid hG
  have g1 : ¬ ((n : Int) < 1) := by omega
  have g2 : ¬ ((30 : Int) < (n : Int)) := by omega
  have hn30 : (n : Int) ≤ 30 := by omega
  go_enter Tryz.func5, Tryz.ntmps5
  go_wp2_with ((have hno := t0; (go_at_call 9; (refine (known_any _ hm hG).mono ?_; rintro e w1 ⟨rfl, hb⟩; have hz1 := hid hb.size; have hb1 := hid hb; have t1 := True.intro; clear hb))))
  obtain ⟨bw, bx6, bx7⟩ := box3 w1 #[.string ⟨#[114, 101, 99, 111, 114, 100, 32, 80, 32, 123, 32]⟩, .string ⟨#[111, 110, 32, 101, 40]⟩, .string ⟨#[111, 110, 32, 101, 40, 41, 32, 123, 32, 100, 111, 32, 102, 40]⟩, .string ⟨#[111, 110, 32, 101, 40, 41, 32, 123, 32, 97, 102, 116, 101, 114, 32, 49, 32, 102, 40]⟩, .string ⟨#[111, 110, 32, 101, 40, 41, 32, 123, 32, 100, 111, 32, 80, 123]⟩] #[.string ⟨#[97, 58, 32, 105, 110, 116]⟩, .string ⟨#[97, 58, 32, 116, 101, 120, 116]⟩, .string ⟨#[49]⟩, .string ⟨#[120]⟩, .string ⟨#[97, 58, 32, 50]⟩] #[.string ⟨#[32, 125]⟩, .string ⟨#[41, 32, 123, 32, 125]⟩, .string ⟨#[41, 59, 32, 125]⟩, .string ⟨#[41, 59, 32, 125]⟩, .string ⟨#[125, 59, 32, 125]⟩] 38
  have c6 : (((w1.alloc (.cells #[.string ⟨#[114, 101, 99, 111, 114, 100, 32, 80, 32, 123, 32]⟩, .string ⟨#[111, 110, 32, 101, 40]⟩, .string ⟨#[111, 110, 32, 101, 40, 41, 32, 123, 32, 100, 111, 32, 102, 40]⟩, .string ⟨#[111, 110, 32, 101, 40, 41, 32, 123, 32, 97, 102, 116, 101, 114, 32, 49, 32, 102, 40]⟩, .string ⟨#[111, 110, 32, 101, 40, 41, 32, 123, 32, 100, 111, 32, 80, 123]⟩] 38)).alloc (.cells #[.string ⟨#[97, 58, 32, 105, 110, 116]⟩, .string ⟨#[97, 58, 32, 116, 101, 120, 116]⟩, .string ⟨#[49]⟩, .string ⟨#[120]⟩, .string ⟨#[97, 58, 32, 50]⟩] 38)).alloc (.cells #[.string ⟨#[32, 125]⟩, .string ⟨#[41, 32, 123, 32, 125]⟩, .string ⟨#[41, 59, 32, 125]⟩, .string ⟨#[41, 59, 32, 125]⟩, .string ⟨#[125, 59, 32, 125]⟩] 38)).cell? ⟨w1.heap.size + 1, 0, none⟩ = some (.string ⟨#[97, 58, 32, 105, 110, 116]⟩) := bx6.cell rfl
  have c7 : (((w1.alloc (.cells #[.string ⟨#[114, 101, 99, 111, 114, 100, 32, 80, 32, 123, 32]⟩, .string ⟨#[111, 110, 32, 101, 40]⟩, .string ⟨#[111, 110, 32, 101, 40, 41, 32, 123, 32, 100, 111, 32, 102, 40]⟩, .string ⟨#[111, 110, 32, 101, 40, 41, 32, 123, 32, 97, 102, 116, 101, 114, 32, 49, 32, 102, 40]⟩, .string ⟨#[111, 110, 32, 101, 40, 41, 32, 123, 32, 100, 111, 32, 80, 123]⟩] 38)).alloc (.cells #[.string ⟨#[97, 58, 32, 105, 110, 116]⟩, .string ⟨#[97, 58, 32, 116, 101, 120, 116]⟩, .string ⟨#[49]⟩, .string ⟨#[120]⟩, .string ⟨#[97, 58, 32, 50]⟩] 38)).alloc (.cells #[.string ⟨#[32, 125]⟩, .string ⟨#[41, 32, 123, 32, 125]⟩, .string ⟨#[41, 59, 32, 125]⟩, .string ⟨#[41, 59, 32, 125]⟩, .string ⟨#[125, 59, 32, 125]⟩] 38)).cell? ⟨w1.heap.size + 1 + 1, 0, none⟩ = some (.string ⟨#[32, 125]⟩) := bx7.cell rfl
  have bW := hid (hb1.out.trans (bw.mono hz1.out))
  clear bw bx6 bx7
  generalize (((w1.alloc (.cells #[.string ⟨#[114, 101, 99, 111, 114, 100, 32, 80, 32, 123, 32]⟩, .string ⟨#[111, 110, 32, 101, 40]⟩, .string ⟨#[111, 110, 32, 101, 40, 41, 32, 123, 32, 100, 111, 32, 102, 40]⟩, .string ⟨#[111, 110, 32, 101, 40, 41, 32, 123, 32, 97, 102, 116, 101, 114, 32, 49, 32, 102, 40]⟩, .string ⟨#[111, 110, 32, 101, 40, 41, 32, 123, 32, 100, 111, 32, 80, 123]⟩] 38)).alloc (.cells #[.string ⟨#[97, 58, 32, 105, 110, 116]⟩, .string ⟨#[97, 58, 32, 116, 101, 120, 116]⟩, .string ⟨#[49]⟩, .string ⟨#[120]⟩, .string ⟨#[97, 58, 32, 50]⟩] 38)).alloc (.cells #[.string ⟨#[32, 125]⟩, .string ⟨#[41, 32, 123, 32, 125]⟩, .string ⟨#[41, 59, 32, 125]⟩, .string ⟨#[41, 59, 32, 125]⟩, .string ⟨#[125, 59, 32, 125]⟩] 38)) = W at c6 c7 bW ⊢
  generalize w1.heap.size = z at c6 c7 ⊢
  have hs0 : (Value.string ⟨#[114, 101, 99, 111, 114, 100, 32, 80, 32, 123, 32]⟩) = .string (bs (sM 0 0)) := rfl
  rw [hs0]
  have t2 := True.intro
  go_loopg [9, 10, 15] n (fun g vs vp vi wr => ∃ i : Nat, i + g = n ∧ vs = .string (bs (sM 0 i)) ∧ vp = .int .i64 (plM 0 i) ∧ vi = .int .i64 (i : Int) ∧ wr = W)
  case atStart => exact ⟨0, by omega, rfl, rfl, rfl, rfl⟩
  case round =>
    obtain ⟨i, hig, rfl, rfl, rfl, rfl⟩ := hrel
    cases gk with
    | zero =>
      have hi : i = n := by omega
      subst hi
      have q1 : ¬ ((i : Int) < (i : Int)) := by omega
      have ha : ∀ V : World, (Op.stringOp .add (bs (sM 0 i)) ⟨#[32, 125]⟩).run Tryz.prog V = .ok (.string (bs (sM 0 i ++ enM 0))) V := fun V => add_en h2 V
      by_cases h12 : 12 < i
      · have hp := hid (many_over (k := 0) (by decide) h12 h2)
        have q2 : (12 : Int) < (i : Int) := by omega
        have hln := fin_len (k := 0) h2
        go_wp2_with (have hno := t2; (go_at_call 10; (refine (parse_no _ _ _ _ hp.out hln (mx_below H1.out bW.out) (gl_below H2.out bW.out)).mono ?_; rintro e w2 ⟨rfl, hb⟩; have hb2 := hid hb; clear hb)))
        refine bodyPost_ret (v := .bool true) (by simp [results, Tryz.results5, go_sem]) rfl ⟨rfl, ?_⟩
        exact (bW.out.trans (hb2.out.mono bW.out.size)).alloc (by have := bW.out.size; have := hb2.out.size; omega) _
      · obtain ⟨tt, hp⟩ := many_fits (k := 0) (by decide) h1 (show i ≤ 12 by omega)
        have hp := hid hp
        have q2 : ¬ ((12 : Int) < (i : Int)) := by omega
        have hln := fin_len (k := 0) h2
        go_wp2_with (have hno := t2; (go_at_call 10; (refine (parse_yes _ _ _ hp.out hln (mx_below H1.out bW.out) (gl_below H2.out bW.out)).mono ?_; rintro e w2 ⟨⟨a0, a1, a2, a3, n0, n1, n2, n3, k0, k1, k2, k3, rfl, hR⟩, hb⟩; have hb2 := hid hb; clear hb hR)))
        refine bodyPost_ret (v := .bool true) (by simp [results, Tryz.results5, go_sem]) rfl ⟨rfl, ?_⟩
        exact (bW.out.trans (hb2.out.mono bW.out.size)).alloc (by have := bW.out.size; have := hb2.out.size; omega) _
    | succ g =>
      have q1 : (i : Int) < (n : Int) := by omega
      have hi30 : (i : Int) ≤ 30 := by omega
      have hw : IntKind.i64.wrap ((i : Int) + 1) = (i : Int) + 1 := wrap_small _ (by omega) (by omega)
      by_cases h0 : i = 0
      · subst h0
        have ha : ∀ V : World, (Op.stringOp .add (bs (sM 0 0)) ⟨#[97, 58, 32, 105, 110, 116]⟩).run Tryz.prog V = .ok (.string (bs (sM 0 1))) V := fun V => add_el (k := 0) (i := 0) (by omega) V
        go_wp2
        go_roundg g
        case measure => omega
        exact ⟨1, by omega, rfl, rfl, rfl, rfl⟩
      · have q3 : (0 : Int) < (i : Int) := by omega
        have ha : ∀ V : World, (Op.stringOp .add (bs (sM 0 i)) ⟨#[44, 32]⟩).run Tryz.prog V = .ok (.string (bs (sM 0 i ++ [44, 32]))) V := fun V => add_cm (by omega) V
        have ha2 : ∀ V : World, (Op.stringOp .add (bs (sM 0 i ++ [44, 32])) ⟨#[97, 58, 32, 105, 110, 116]⟩).run Tryz.prog V = .ok (.string (bs ((sM 0 i ++ [44, 32]) ++ elM 0))) V := fun V => add_ce (by omega) V
        by_cases h12 : i = 12
        · subst h12
          have hbz := bs_size (sM 0 12 ++ [44, 32])
          go_wp2
          go_roundg g
          case measure => omega
          exact ⟨13, by omega, rfl, by rw [show (13 : Nat) = 12 + 1 from rfl, pl_12]; simp, rfl, rfl⟩
        · have q4 : ¬ ((i : Int) = 12) := by omega
          go_wp2
          go_roundg g
          case measure => omega
          exact ⟨i + 1, by omega, by rw [sM_succ 0 i h0]; simp, by rcases Nat.lt_or_gt_of_ne h12 with h | h; (rw [pl_lo h]); (rw [pl_hi h]), by push_cast; rfl, rfl⟩
set_option maxHeartbeats 4000000 in
theorem many1 (w : World) (n : Nat) (what : Int) (r : Int) (hr : what.tmod 6 = r) (hr2 : IntKind.i64.wrap (r + 6) = r + 6) (hr3 : (r + 6).tmod 6 = 1) (h1 : 1 ≤ n) (h2 : n ≤ 30) (hm : Lx.MX w) (hG : Gl w) : Calls Tryz.prog 5 #[.int .i64 (n : Int), .int .i64 what] w fun e w' => e = .returned (.bool true) ∧ Below w.heap.size w w' := by
  have t0 := True.intro
  have H1 := hid hm
  have H2 := hid hG
  have g1 : ¬ ((n : Int) < 1) := by omega
  have g2 : ¬ ((30 : Int) < (n : Int)) := by omega
  have hn30 : (n : Int) ≤ 30 := by omega
  go_enter Tryz.func5, Tryz.ntmps5
  go_wp2_with ((have hno := t0; (go_at_call 9; (refine (known_any _ hm hG).mono ?_; rintro e w1 ⟨rfl, hb⟩; have hz1 := hid hb.size; have hb1 := hid hb; have t1 := True.intro; clear hb))))
  obtain ⟨bw, bx6, bx7⟩ := box3 w1 #[.string ⟨#[114, 101, 99, 111, 114, 100, 32, 80, 32, 123, 32]⟩, .string ⟨#[111, 110, 32, 101, 40]⟩, .string ⟨#[111, 110, 32, 101, 40, 41, 32, 123, 32, 100, 111, 32, 102, 40]⟩, .string ⟨#[111, 110, 32, 101, 40, 41, 32, 123, 32, 97, 102, 116, 101, 114, 32, 49, 32, 102, 40]⟩, .string ⟨#[111, 110, 32, 101, 40, 41, 32, 123, 32, 100, 111, 32, 80, 123]⟩] #[.string ⟨#[97, 58, 32, 105, 110, 116]⟩, .string ⟨#[97, 58, 32, 116, 101, 120, 116]⟩, .string ⟨#[49]⟩, .string ⟨#[120]⟩, .string ⟨#[97, 58, 32, 50]⟩] #[.string ⟨#[32, 125]⟩, .string ⟨#[41, 32, 123, 32, 125]⟩, .string ⟨#[41, 59, 32, 125]⟩, .string ⟨#[41, 59, 32, 125]⟩, .string ⟨#[125, 59, 32, 125]⟩] 38
  have c6 : (((w1.alloc (.cells #[.string ⟨#[114, 101, 99, 111, 114, 100, 32, 80, 32, 123, 32]⟩, .string ⟨#[111, 110, 32, 101, 40]⟩, .string ⟨#[111, 110, 32, 101, 40, 41, 32, 123, 32, 100, 111, 32, 102, 40]⟩, .string ⟨#[111, 110, 32, 101, 40, 41, 32, 123, 32, 97, 102, 116, 101, 114, 32, 49, 32, 102, 40]⟩, .string ⟨#[111, 110, 32, 101, 40, 41, 32, 123, 32, 100, 111, 32, 80, 123]⟩] 38)).alloc (.cells #[.string ⟨#[97, 58, 32, 105, 110, 116]⟩, .string ⟨#[97, 58, 32, 116, 101, 120, 116]⟩, .string ⟨#[49]⟩, .string ⟨#[120]⟩, .string ⟨#[97, 58, 32, 50]⟩] 38)).alloc (.cells #[.string ⟨#[32, 125]⟩, .string ⟨#[41, 32, 123, 32, 125]⟩, .string ⟨#[41, 59, 32, 125]⟩, .string ⟨#[41, 59, 32, 125]⟩, .string ⟨#[125, 59, 32, 125]⟩] 38)).cell? ⟨w1.heap.size + 1, 1, none⟩ = some (.string ⟨#[97, 58, 32, 116, 101, 120, 116]⟩) := bx6.cell rfl
  have c7 : (((w1.alloc (.cells #[.string ⟨#[114, 101, 99, 111, 114, 100, 32, 80, 32, 123, 32]⟩, .string ⟨#[111, 110, 32, 101, 40]⟩, .string ⟨#[111, 110, 32, 101, 40, 41, 32, 123, 32, 100, 111, 32, 102, 40]⟩, .string ⟨#[111, 110, 32, 101, 40, 41, 32, 123, 32, 97, 102, 116, 101, 114, 32, 49, 32, 102, 40]⟩, .string ⟨#[111, 110, 32, 101, 40, 41, 32, 123, 32, 100, 111, 32, 80, 123]⟩] 38)).alloc (.cells #[.string ⟨#[97, 58, 32, 105, 110, 116]⟩, .string ⟨#[97, 58, 32, 116, 101, 120, 116]⟩, .string ⟨#[49]⟩, .string ⟨#[120]⟩, .string ⟨#[97, 58, 32, 50]⟩] 38)).alloc (.cells #[.string ⟨#[32, 125]⟩, .string ⟨#[41, 32, 123, 32, 125]⟩, .string ⟨#[41, 59, 32, 125]⟩, .string ⟨#[41, 59, 32, 125]⟩, .string ⟨#[125, 59, 32, 125]⟩] 38)).cell? ⟨w1.heap.size + 1 + 1, 1, none⟩ = some (.string ⟨#[41, 32, 123, 32, 125]⟩) := bx7.cell rfl
  have bW := hid (hb1.out.trans (bw.mono hz1.out))
  clear bw bx6 bx7
  generalize (((w1.alloc (.cells #[.string ⟨#[114, 101, 99, 111, 114, 100, 32, 80, 32, 123, 32]⟩, .string ⟨#[111, 110, 32, 101, 40]⟩, .string ⟨#[111, 110, 32, 101, 40, 41, 32, 123, 32, 100, 111, 32, 102, 40]⟩, .string ⟨#[111, 110, 32, 101, 40, 41, 32, 123, 32, 97, 102, 116, 101, 114, 32, 49, 32, 102, 40]⟩, .string ⟨#[111, 110, 32, 101, 40, 41, 32, 123, 32, 100, 111, 32, 80, 123]⟩] 38)).alloc (.cells #[.string ⟨#[97, 58, 32, 105, 110, 116]⟩, .string ⟨#[97, 58, 32, 116, 101, 120, 116]⟩, .string ⟨#[49]⟩, .string ⟨#[120]⟩, .string ⟨#[97, 58, 32, 50]⟩] 38)).alloc (.cells #[.string ⟨#[32, 125]⟩, .string ⟨#[41, 32, 123, 32, 125]⟩, .string ⟨#[41, 59, 32, 125]⟩, .string ⟨#[41, 59, 32, 125]⟩, .string ⟨#[125, 59, 32, 125]⟩] 38)) = W at c6 c7 bW ⊢
  generalize w1.heap.size = z at c6 c7 ⊢
  have hs0 : (Value.string ⟨#[111, 110, 32, 101, 40]⟩) = .string (bs (sM 1 0)) := rfl
  rw [hs0]
  have t2 := True.intro
  go_loopg [9, 10, 15] n (fun g vs vp vi wr => ∃ i : Nat, i + g = n ∧ vs = .string (bs (sM 1 i)) ∧ vp = .int .i64 (plM 1 i) ∧ vi = .int .i64 (i : Int) ∧ wr = W)
  case atStart => exact ⟨0, by omega, rfl, rfl, rfl, rfl⟩
  case round =>
    obtain ⟨i, hig, rfl, rfl, rfl, rfl⟩ := hrel
    cases gk with
    | zero =>
      have hi : i = n := by omega
      subst hi
      have q1 : ¬ ((i : Int) < (i : Int)) := by omega
      have ha : ∀ V : World, (Op.stringOp .add (bs (sM 1 i)) ⟨#[41, 32, 123, 32, 125]⟩).run Tryz.prog V = .ok (.string (bs (sM 1 i ++ enM 1))) V := fun V => add_en h2 V
      by_cases h12 : 12 < i
      · have hp := hid (many_over (k := 1) (by decide) h12 h2)
        have q2 : (12 : Int) < (i : Int) := by omega
        have hln := fin_len (k := 1) h2
        go_wp2_with (have hno := t2; (go_at_call 10; (refine (parse_no _ _ _ _ hp.out hln (mx_below H1.out bW.out) (gl_below H2.out bW.out)).mono ?_; rintro e w2 ⟨rfl, hb⟩; have hb2 := hid hb; clear hb)))
        refine bodyPost_ret (v := .bool true) (by simp [results, Tryz.results5, go_sem]) rfl ⟨rfl, ?_⟩
        exact (bW.out.trans (hb2.out.mono bW.out.size)).alloc (by have := bW.out.size; have := hb2.out.size; omega) _
      · obtain ⟨tt, hp⟩ := many_fits (k := 1) (by decide) h1 (show i ≤ 12 by omega)
        have hp := hid hp
        have q2 : ¬ ((12 : Int) < (i : Int)) := by omega
        have hln := fin_len (k := 1) h2
        go_wp2_with (have hno := t2; (go_at_call 10; (refine (parse_yes _ _ _ hp.out hln (mx_below H1.out bW.out) (gl_below H2.out bW.out)).mono ?_; rintro e w2 ⟨⟨a0, a1, a2, a3, n0, n1, n2, n3, k0, k1, k2, k3, rfl, hR⟩, hb⟩; have hb2 := hid hb; clear hb hR)))
        refine bodyPost_ret (v := .bool true) (by simp [results, Tryz.results5, go_sem]) rfl ⟨rfl, ?_⟩
        exact (bW.out.trans (hb2.out.mono bW.out.size)).alloc (by have := bW.out.size; have := hb2.out.size; omega) _
    | succ g =>
      have q1 : (i : Int) < (n : Int) := by omega
      have hi30 : (i : Int) ≤ 30 := by omega
      have hw : IntKind.i64.wrap ((i : Int) + 1) = (i : Int) + 1 := wrap_small _ (by omega) (by omega)
      by_cases h0 : i = 0
      · subst h0
        have ha : ∀ V : World, (Op.stringOp .add (bs (sM 1 0)) ⟨#[97, 58, 32, 116, 101, 120, 116]⟩).run Tryz.prog V = .ok (.string (bs (sM 1 1))) V := fun V => add_el (k := 1) (i := 0) (by omega) V
        go_wp2
        go_roundg g
        case measure => omega
        exact ⟨1, by omega, rfl, rfl, rfl, rfl⟩
      · have q3 : (0 : Int) < (i : Int) := by omega
        have ha : ∀ V : World, (Op.stringOp .add (bs (sM 1 i)) ⟨#[44, 32]⟩).run Tryz.prog V = .ok (.string (bs (sM 1 i ++ [44, 32]))) V := fun V => add_cm (by omega) V
        have ha2 : ∀ V : World, (Op.stringOp .add (bs (sM 1 i ++ [44, 32])) ⟨#[97, 58, 32, 116, 101, 120, 116]⟩).run Tryz.prog V = .ok (.string (bs ((sM 1 i ++ [44, 32]) ++ elM 1))) V := fun V => add_ce (by omega) V
        by_cases h12 : i = 12
        · subst h12
          have hbz := bs_size (sM 1 12 ++ [44, 32])
          go_wp2
          go_roundg g
          case measure => omega
          exact ⟨13, by omega, rfl, by rw [show (13 : Nat) = 12 + 1 from rfl, pl_12]; simp, rfl, rfl⟩
        · have q4 : ¬ ((i : Int) = 12) := by omega
          go_wp2
          go_roundg g
          case measure => omega
          exact ⟨i + 1, by omega, by rw [sM_succ 1 i h0]; simp, by rcases Nat.lt_or_gt_of_ne h12 with h | h; (rw [pl_lo h]); (rw [pl_hi h]), by push_cast; rfl, rfl⟩
set_option maxHeartbeats 4000000 in
theorem many2 (w : World) (n : Nat) (what : Int) (r : Int) (hr : what.tmod 6 = r) (hr2 : IntKind.i64.wrap (r + 6) = r + 6) (hr3 : (r + 6).tmod 6 = 2) (h1 : 1 ≤ n) (h2 : n ≤ 30) (hm : Lx.MX w) (hG : Gl w) : Calls Tryz.prog 5 #[.int .i64 (n : Int), .int .i64 what] w fun e w' => e = .returned (.bool true) ∧ Below w.heap.size w w' := by
  have t0 := True.intro
  have H1 := hid hm
  have H2 := hid hG
  have g1 : ¬ ((n : Int) < 1) := by omega
  have g2 : ¬ ((30 : Int) < (n : Int)) := by omega
  have hn30 : (n : Int) ≤ 30 := by omega
  go_enter Tryz.func5, Tryz.ntmps5
  go_wp2_with ((have hno := t0; (go_at_call 9; (refine (known_any _ hm hG).mono ?_; rintro e w1 ⟨rfl, hb⟩; have hz1 := hid hb.size; have hb1 := hid hb; have t1 := True.intro; clear hb))))
  obtain ⟨bw, bx6, bx7⟩ := box3 w1 #[.string ⟨#[114, 101, 99, 111, 114, 100, 32, 80, 32, 123, 32]⟩, .string ⟨#[111, 110, 32, 101, 40]⟩, .string ⟨#[111, 110, 32, 101, 40, 41, 32, 123, 32, 100, 111, 32, 102, 40]⟩, .string ⟨#[111, 110, 32, 101, 40, 41, 32, 123, 32, 97, 102, 116, 101, 114, 32, 49, 32, 102, 40]⟩, .string ⟨#[111, 110, 32, 101, 40, 41, 32, 123, 32, 100, 111, 32, 80, 123]⟩] #[.string ⟨#[97, 58, 32, 105, 110, 116]⟩, .string ⟨#[97, 58, 32, 116, 101, 120, 116]⟩, .string ⟨#[49]⟩, .string ⟨#[120]⟩, .string ⟨#[97, 58, 32, 50]⟩] #[.string ⟨#[32, 125]⟩, .string ⟨#[41, 32, 123, 32, 125]⟩, .string ⟨#[41, 59, 32, 125]⟩, .string ⟨#[41, 59, 32, 125]⟩, .string ⟨#[125, 59, 32, 125]⟩] 38
  have c6 : (((w1.alloc (.cells #[.string ⟨#[114, 101, 99, 111, 114, 100, 32, 80, 32, 123, 32]⟩, .string ⟨#[111, 110, 32, 101, 40]⟩, .string ⟨#[111, 110, 32, 101, 40, 41, 32, 123, 32, 100, 111, 32, 102, 40]⟩, .string ⟨#[111, 110, 32, 101, 40, 41, 32, 123, 32, 97, 102, 116, 101, 114, 32, 49, 32, 102, 40]⟩, .string ⟨#[111, 110, 32, 101, 40, 41, 32, 123, 32, 100, 111, 32, 80, 123]⟩] 38)).alloc (.cells #[.string ⟨#[97, 58, 32, 105, 110, 116]⟩, .string ⟨#[97, 58, 32, 116, 101, 120, 116]⟩, .string ⟨#[49]⟩, .string ⟨#[120]⟩, .string ⟨#[97, 58, 32, 50]⟩] 38)).alloc (.cells #[.string ⟨#[32, 125]⟩, .string ⟨#[41, 32, 123, 32, 125]⟩, .string ⟨#[41, 59, 32, 125]⟩, .string ⟨#[41, 59, 32, 125]⟩, .string ⟨#[125, 59, 32, 125]⟩] 38)).cell? ⟨w1.heap.size + 1, 2, none⟩ = some (.string ⟨#[49]⟩) := bx6.cell rfl
  have c7 : (((w1.alloc (.cells #[.string ⟨#[114, 101, 99, 111, 114, 100, 32, 80, 32, 123, 32]⟩, .string ⟨#[111, 110, 32, 101, 40]⟩, .string ⟨#[111, 110, 32, 101, 40, 41, 32, 123, 32, 100, 111, 32, 102, 40]⟩, .string ⟨#[111, 110, 32, 101, 40, 41, 32, 123, 32, 97, 102, 116, 101, 114, 32, 49, 32, 102, 40]⟩, .string ⟨#[111, 110, 32, 101, 40, 41, 32, 123, 32, 100, 111, 32, 80, 123]⟩] 38)).alloc (.cells #[.string ⟨#[97, 58, 32, 105, 110, 116]⟩, .string ⟨#[97, 58, 32, 116, 101, 120, 116]⟩, .string ⟨#[49]⟩, .string ⟨#[120]⟩, .string ⟨#[97, 58, 32, 50]⟩] 38)).alloc (.cells #[.string ⟨#[32, 125]⟩, .string ⟨#[41, 32, 123, 32, 125]⟩, .string ⟨#[41, 59, 32, 125]⟩, .string ⟨#[41, 59, 32, 125]⟩, .string ⟨#[125, 59, 32, 125]⟩] 38)).cell? ⟨w1.heap.size + 1 + 1, 2, none⟩ = some (.string ⟨#[41, 59, 32, 125]⟩) := bx7.cell rfl
  have bW := hid (hb1.out.trans (bw.mono hz1.out))
  clear bw bx6 bx7
  generalize (((w1.alloc (.cells #[.string ⟨#[114, 101, 99, 111, 114, 100, 32, 80, 32, 123, 32]⟩, .string ⟨#[111, 110, 32, 101, 40]⟩, .string ⟨#[111, 110, 32, 101, 40, 41, 32, 123, 32, 100, 111, 32, 102, 40]⟩, .string ⟨#[111, 110, 32, 101, 40, 41, 32, 123, 32, 97, 102, 116, 101, 114, 32, 49, 32, 102, 40]⟩, .string ⟨#[111, 110, 32, 101, 40, 41, 32, 123, 32, 100, 111, 32, 80, 123]⟩] 38)).alloc (.cells #[.string ⟨#[97, 58, 32, 105, 110, 116]⟩, .string ⟨#[97, 58, 32, 116, 101, 120, 116]⟩, .string ⟨#[49]⟩, .string ⟨#[120]⟩, .string ⟨#[97, 58, 32, 50]⟩] 38)).alloc (.cells #[.string ⟨#[32, 125]⟩, .string ⟨#[41, 32, 123, 32, 125]⟩, .string ⟨#[41, 59, 32, 125]⟩, .string ⟨#[41, 59, 32, 125]⟩, .string ⟨#[125, 59, 32, 125]⟩] 38)) = W at c6 c7 bW ⊢
  generalize w1.heap.size = z at c6 c7 ⊢
  have hs0 : (Value.string ⟨#[111, 110, 32, 101, 40, 41, 32, 123, 32, 100, 111, 32, 102, 40]⟩) = .string (bs (sM 2 0)) := rfl
  rw [hs0]
  have t2 := True.intro
  go_loopg [9, 10, 15] n (fun g vs vp vi wr => ∃ i : Nat, i + g = n ∧ vs = .string (bs (sM 2 i)) ∧ vp = .int .i64 (plM 2 i) ∧ vi = .int .i64 (i : Int) ∧ wr = W)
  case atStart => exact ⟨0, by omega, rfl, rfl, rfl, rfl⟩
  case round =>
    obtain ⟨i, hig, rfl, rfl, rfl, rfl⟩ := hrel
    cases gk with
    | zero =>
      have hi : i = n := by omega
      subst hi
      have q1 : ¬ ((i : Int) < (i : Int)) := by omega
      have ha : ∀ V : World, (Op.stringOp .add (bs (sM 2 i)) ⟨#[41, 59, 32, 125]⟩).run Tryz.prog V = .ok (.string (bs (sM 2 i ++ enM 2))) V := fun V => add_en h2 V
      by_cases h12 : 12 < i
      · have hp := hid (many_over (k := 2) (by decide) h12 h2)
        have q2 : (12 : Int) < (i : Int) := by omega
        have hln := fin_len (k := 2) h2
        go_wp2_with (have hno := t2; (go_at_call 10; (refine (parse_no _ _ _ _ hp.out hln (mx_below H1.out bW.out) (gl_below H2.out bW.out)).mono ?_; rintro e w2 ⟨rfl, hb⟩; have hb2 := hid hb; clear hb)))
        refine bodyPost_ret (v := .bool true) (by simp [results, Tryz.results5, go_sem]) rfl ⟨rfl, ?_⟩
        exact (bW.out.trans (hb2.out.mono bW.out.size)).alloc (by have := bW.out.size; have := hb2.out.size; omega) _
      · obtain ⟨tt, hp⟩ := many_fits (k := 2) (by decide) h1 (show i ≤ 12 by omega)
        have hp := hid hp
        have q2 : ¬ ((12 : Int) < (i : Int)) := by omega
        have hln := fin_len (k := 2) h2
        go_wp2_with (have hno := t2; (go_at_call 10; (refine (parse_yes _ _ _ hp.out hln (mx_below H1.out bW.out) (gl_below H2.out bW.out)).mono ?_; rintro e w2 ⟨⟨a0, a1, a2, a3, n0, n1, n2, n3, k0, k1, k2, k3, rfl, hR⟩, hb⟩; have hb2 := hid hb; clear hb hR)))
        refine bodyPost_ret (v := .bool true) (by simp [results, Tryz.results5, go_sem]) rfl ⟨rfl, ?_⟩
        exact (bW.out.trans (hb2.out.mono bW.out.size)).alloc (by have := bW.out.size; have := hb2.out.size; omega) _
    | succ g =>
      have q1 : (i : Int) < (n : Int) := by omega
      have hi30 : (i : Int) ≤ 30 := by omega
      have hw : IntKind.i64.wrap ((i : Int) + 1) = (i : Int) + 1 := wrap_small _ (by omega) (by omega)
      by_cases h0 : i = 0
      · subst h0
        have ha : ∀ V : World, (Op.stringOp .add (bs (sM 2 0)) ⟨#[49]⟩).run Tryz.prog V = .ok (.string (bs (sM 2 1))) V := fun V => add_el (k := 2) (i := 0) (by omega) V
        go_wp2
        go_roundg g
        case measure => omega
        exact ⟨1, by omega, rfl, rfl, rfl, rfl⟩
      · have q3 : (0 : Int) < (i : Int) := by omega
        have ha : ∀ V : World, (Op.stringOp .add (bs (sM 2 i)) ⟨#[44, 32]⟩).run Tryz.prog V = .ok (.string (bs (sM 2 i ++ [44, 32]))) V := fun V => add_cm (by omega) V
        have ha2 : ∀ V : World, (Op.stringOp .add (bs (sM 2 i ++ [44, 32])) ⟨#[49]⟩).run Tryz.prog V = .ok (.string (bs ((sM 2 i ++ [44, 32]) ++ elM 2))) V := fun V => add_ce (by omega) V
        by_cases h12 : i = 12
        · subst h12
          have hbz := bs_size (sM 2 12 ++ [44, 32])
          go_wp2
          go_roundg g
          case measure => omega
          exact ⟨13, by omega, rfl, by rw [show (13 : Nat) = 12 + 1 from rfl, pl_12]; simp, rfl, rfl⟩
        · have q4 : ¬ ((i : Int) = 12) := by omega
          go_wp2
          go_roundg g
          case measure => omega
          exact ⟨i + 1, by omega, by rw [sM_succ 2 i h0]; simp, by rcases Nat.lt_or_gt_of_ne h12 with h | h; (rw [pl_lo h]); (rw [pl_hi h]), by push_cast; rfl, rfl⟩
set_option maxHeartbeats 4000000 in
theorem many3 (w : World) (n : Nat) (what : Int) (r : Int) (hr : what.tmod 6 = r) (hr2 : IntKind.i64.wrap (r + 6) = r + 6) (hr3 : (r + 6).tmod 6 = 3) (h1 : 1 ≤ n) (h2 : n ≤ 30) (hm : Lx.MX w) (hG : Gl w) : Calls Tryz.prog 5 #[.int .i64 (n : Int), .int .i64 what] w fun e w' => e = .returned (.bool true) ∧ Below w.heap.size w w' := by
  have t0 := True.intro
  have H1 := hid hm
  have H2 := hid hG
  have g1 : ¬ ((n : Int) < 1) := by omega
  have g2 : ¬ ((30 : Int) < (n : Int)) := by omega
  have hn30 : (n : Int) ≤ 30 := by omega
  go_enter Tryz.func5, Tryz.ntmps5
  go_wp2_with ((have hno := t0; (go_at_call 9; (refine (known_any _ hm hG).mono ?_; rintro e w1 ⟨rfl, hb⟩; have hz1 := hid hb.size; have hb1 := hid hb; have t1 := True.intro; clear hb))))
  obtain ⟨bw, bx6, bx7⟩ := box3 w1 #[.string ⟨#[114, 101, 99, 111, 114, 100, 32, 80, 32, 123, 32]⟩, .string ⟨#[111, 110, 32, 101, 40]⟩, .string ⟨#[111, 110, 32, 101, 40, 41, 32, 123, 32, 100, 111, 32, 102, 40]⟩, .string ⟨#[111, 110, 32, 101, 40, 41, 32, 123, 32, 97, 102, 116, 101, 114, 32, 49, 32, 102, 40]⟩, .string ⟨#[111, 110, 32, 101, 40, 41, 32, 123, 32, 100, 111, 32, 80, 123]⟩] #[.string ⟨#[97, 58, 32, 105, 110, 116]⟩, .string ⟨#[97, 58, 32, 116, 101, 120, 116]⟩, .string ⟨#[49]⟩, .string ⟨#[120]⟩, .string ⟨#[97, 58, 32, 50]⟩] #[.string ⟨#[32, 125]⟩, .string ⟨#[41, 32, 123, 32, 125]⟩, .string ⟨#[41, 59, 32, 125]⟩, .string ⟨#[41, 59, 32, 125]⟩, .string ⟨#[125, 59, 32, 125]⟩] 38
  have c6 : (((w1.alloc (.cells #[.string ⟨#[114, 101, 99, 111, 114, 100, 32, 80, 32, 123, 32]⟩, .string ⟨#[111, 110, 32, 101, 40]⟩, .string ⟨#[111, 110, 32, 101, 40, 41, 32, 123, 32, 100, 111, 32, 102, 40]⟩, .string ⟨#[111, 110, 32, 101, 40, 41, 32, 123, 32, 97, 102, 116, 101, 114, 32, 49, 32, 102, 40]⟩, .string ⟨#[111, 110, 32, 101, 40, 41, 32, 123, 32, 100, 111, 32, 80, 123]⟩] 38)).alloc (.cells #[.string ⟨#[97, 58, 32, 105, 110, 116]⟩, .string ⟨#[97, 58, 32, 116, 101, 120, 116]⟩, .string ⟨#[49]⟩, .string ⟨#[120]⟩, .string ⟨#[97, 58, 32, 50]⟩] 38)).alloc (.cells #[.string ⟨#[32, 125]⟩, .string ⟨#[41, 32, 123, 32, 125]⟩, .string ⟨#[41, 59, 32, 125]⟩, .string ⟨#[41, 59, 32, 125]⟩, .string ⟨#[125, 59, 32, 125]⟩] 38)).cell? ⟨w1.heap.size + 1, 3, none⟩ = some (.string ⟨#[120]⟩) := bx6.cell rfl
  have c7 : (((w1.alloc (.cells #[.string ⟨#[114, 101, 99, 111, 114, 100, 32, 80, 32, 123, 32]⟩, .string ⟨#[111, 110, 32, 101, 40]⟩, .string ⟨#[111, 110, 32, 101, 40, 41, 32, 123, 32, 100, 111, 32, 102, 40]⟩, .string ⟨#[111, 110, 32, 101, 40, 41, 32, 123, 32, 97, 102, 116, 101, 114, 32, 49, 32, 102, 40]⟩, .string ⟨#[111, 110, 32, 101, 40, 41, 32, 123, 32, 100, 111, 32, 80, 123]⟩] 38)).alloc (.cells #[.string ⟨#[97, 58, 32, 105, 110, 116]⟩, .string ⟨#[97, 58, 32, 116, 101, 120, 116]⟩, .string ⟨#[49]⟩, .string ⟨#[120]⟩, .string ⟨#[97, 58, 32, 50]⟩] 38)).alloc (.cells #[.string ⟨#[32, 125]⟩, .string ⟨#[41, 32, 123, 32, 125]⟩, .string ⟨#[41, 59, 32, 125]⟩, .string ⟨#[41, 59, 32, 125]⟩, .string ⟨#[125, 59, 32, 125]⟩] 38)).cell? ⟨w1.heap.size + 1 + 1, 3, none⟩ = some (.string ⟨#[41, 59, 32, 125]⟩) := bx7.cell rfl
  have bW := hid (hb1.out.trans (bw.mono hz1.out))
  clear bw bx6 bx7
  generalize (((w1.alloc (.cells #[.string ⟨#[114, 101, 99, 111, 114, 100, 32, 80, 32, 123, 32]⟩, .string ⟨#[111, 110, 32, 101, 40]⟩, .string ⟨#[111, 110, 32, 101, 40, 41, 32, 123, 32, 100, 111, 32, 102, 40]⟩, .string ⟨#[111, 110, 32, 101, 40, 41, 32, 123, 32, 97, 102, 116, 101, 114, 32, 49, 32, 102, 40]⟩, .string ⟨#[111, 110, 32, 101, 40, 41, 32, 123, 32, 100, 111, 32, 80, 123]⟩] 38)).alloc (.cells #[.string ⟨#[97, 58, 32, 105, 110, 116]⟩, .string ⟨#[97, 58, 32, 116, 101, 120, 116]⟩, .string ⟨#[49]⟩, .string ⟨#[120]⟩, .string ⟨#[97, 58, 32, 50]⟩] 38)).alloc (.cells #[.string ⟨#[32, 125]⟩, .string ⟨#[41, 32, 123, 32, 125]⟩, .string ⟨#[41, 59, 32, 125]⟩, .string ⟨#[41, 59, 32, 125]⟩, .string ⟨#[125, 59, 32, 125]⟩] 38)) = W at c6 c7 bW ⊢
  generalize w1.heap.size = z at c6 c7 ⊢
  have hs0 : (Value.string ⟨#[111, 110, 32, 101, 40, 41, 32, 123, 32, 97, 102, 116, 101, 114, 32, 49, 32, 102, 40]⟩) = .string (bs (sM 3 0)) := rfl
  rw [hs0]
  have t2 := True.intro
  go_loopg [9, 10, 15] n (fun g vs vp vi wr => ∃ i : Nat, i + g = n ∧ vs = .string (bs (sM 3 i)) ∧ vp = .int .i64 (plM 3 i) ∧ vi = .int .i64 (i : Int) ∧ wr = W)
  case atStart => exact ⟨0, by omega, rfl, rfl, rfl, rfl⟩
  case round =>
    obtain ⟨i, hig, rfl, rfl, rfl, rfl⟩ := hrel
    cases gk with
    | zero =>
      have hi : i = n := by omega
      subst hi
      have q1 : ¬ ((i : Int) < (i : Int)) := by omega
      have ha : ∀ V : World, (Op.stringOp .add (bs (sM 3 i)) ⟨#[41, 59, 32, 125]⟩).run Tryz.prog V = .ok (.string (bs (sM 3 i ++ enM 3))) V := fun V => add_en h2 V
      by_cases h12 : 12 < i
      · have hp := hid (many_over (k := 3) (by decide) h12 h2)
        have q2 : (12 : Int) < (i : Int) := by omega
        have hln := fin_len (k := 3) h2
        go_wp2_with (have hno := t2; (go_at_call 10; (refine (parse_no _ _ _ _ hp.out hln (mx_below H1.out bW.out) (gl_below H2.out bW.out)).mono ?_; rintro e w2 ⟨rfl, hb⟩; have hb2 := hid hb; clear hb)))
        refine bodyPost_ret (v := .bool true) (by simp [results, Tryz.results5, go_sem]) rfl ⟨rfl, ?_⟩
        exact (bW.out.trans (hb2.out.mono bW.out.size)).alloc (by have := bW.out.size; have := hb2.out.size; omega) _
      · obtain ⟨tt, hp⟩ := many_fits (k := 3) (by decide) h1 (show i ≤ 12 by omega)
        have hp := hid hp
        have q2 : ¬ ((12 : Int) < (i : Int)) := by omega
        have hln := fin_len (k := 3) h2
        go_wp2_with (have hno := t2; (go_at_call 10; (refine (parse_yes _ _ _ hp.out hln (mx_below H1.out bW.out) (gl_below H2.out bW.out)).mono ?_; rintro e w2 ⟨⟨a0, a1, a2, a3, n0, n1, n2, n3, k0, k1, k2, k3, rfl, hR⟩, hb⟩; have hb2 := hid hb; clear hb hR)))
        refine bodyPost_ret (v := .bool true) (by simp [results, Tryz.results5, go_sem]) rfl ⟨rfl, ?_⟩
        exact (bW.out.trans (hb2.out.mono bW.out.size)).alloc (by have := bW.out.size; have := hb2.out.size; omega) _
    | succ g =>
      have q1 : (i : Int) < (n : Int) := by omega
      have hi30 : (i : Int) ≤ 30 := by omega
      have hw : IntKind.i64.wrap ((i : Int) + 1) = (i : Int) + 1 := wrap_small _ (by omega) (by omega)
      by_cases h0 : i = 0
      · subst h0
        have ha : ∀ V : World, (Op.stringOp .add (bs (sM 3 0)) ⟨#[120]⟩).run Tryz.prog V = .ok (.string (bs (sM 3 1))) V := fun V => add_el (k := 3) (i := 0) (by omega) V
        go_wp2
        go_roundg g
        case measure => omega
        exact ⟨1, by omega, rfl, rfl, rfl, rfl⟩
      · have q3 : (0 : Int) < (i : Int) := by omega
        have ha : ∀ V : World, (Op.stringOp .add (bs (sM 3 i)) ⟨#[44, 32]⟩).run Tryz.prog V = .ok (.string (bs (sM 3 i ++ [44, 32]))) V := fun V => add_cm (by omega) V
        have ha2 : ∀ V : World, (Op.stringOp .add (bs (sM 3 i ++ [44, 32])) ⟨#[120]⟩).run Tryz.prog V = .ok (.string (bs ((sM 3 i ++ [44, 32]) ++ elM 3))) V := fun V => add_ce (by omega) V
        by_cases h12 : i = 12
        · subst h12
          have hbz := bs_size (sM 3 12 ++ [44, 32])
          go_wp2
          go_roundg g
          case measure => omega
          exact ⟨13, by omega, rfl, by rw [show (13 : Nat) = 12 + 1 from rfl, pl_12]; simp, rfl, rfl⟩
        · have q4 : ¬ ((i : Int) = 12) := by omega
          go_wp2
          go_roundg g
          case measure => omega
          exact ⟨i + 1, by omega, by rw [sM_succ 3 i h0]; simp, by rcases Nat.lt_or_gt_of_ne h12 with h | h; (rw [pl_lo h]); (rw [pl_hi h]), by push_cast; rfl, rfl⟩
set_option maxHeartbeats 4000000 in
theorem many4 (w : World) (n : Nat) (what : Int) (r : Int) (hr : what.tmod 6 = r) (hr2 : IntKind.i64.wrap (r + 6) = r + 6) (hr3 : (r + 6).tmod 6 = 4) (h1 : 1 ≤ n) (h2 : n ≤ 30) (hm : Lx.MX w) (hG : Gl w) : Calls Tryz.prog 5 #[.int .i64 (n : Int), .int .i64 what] w fun e w' => e = .returned (.bool true) ∧ Below w.heap.size w w' := by
  have t0 := True.intro
  have H1 := hid hm
  have H2 := hid hG
  have g1 : ¬ ((n : Int) < 1) := by omega
  have g2 : ¬ ((30 : Int) < (n : Int)) := by omega
  have hn30 : (n : Int) ≤ 30 := by omega
  go_enter Tryz.func5, Tryz.ntmps5
  go_wp2_with ((have hno := t0; (go_at_call 9; (refine (known_any _ hm hG).mono ?_; rintro e w1 ⟨rfl, hb⟩; have hz1 := hid hb.size; have hb1 := hid hb; have t1 := True.intro; clear hb))))
  obtain ⟨bw, bx6, bx7⟩ := box3 w1 #[.string ⟨#[114, 101, 99, 111, 114, 100, 32, 80, 32, 123, 32]⟩, .string ⟨#[111, 110, 32, 101, 40]⟩, .string ⟨#[111, 110, 32, 101, 40, 41, 32, 123, 32, 100, 111, 32, 102, 40]⟩, .string ⟨#[111, 110, 32, 101, 40, 41, 32, 123, 32, 97, 102, 116, 101, 114, 32, 49, 32, 102, 40]⟩, .string ⟨#[111, 110, 32, 101, 40, 41, 32, 123, 32, 100, 111, 32, 80, 123]⟩] #[.string ⟨#[97, 58, 32, 105, 110, 116]⟩, .string ⟨#[97, 58, 32, 116, 101, 120, 116]⟩, .string ⟨#[49]⟩, .string ⟨#[120]⟩, .string ⟨#[97, 58, 32, 50]⟩] #[.string ⟨#[32, 125]⟩, .string ⟨#[41, 32, 123, 32, 125]⟩, .string ⟨#[41, 59, 32, 125]⟩, .string ⟨#[41, 59, 32, 125]⟩, .string ⟨#[125, 59, 32, 125]⟩] 38
  have c6 : (((w1.alloc (.cells #[.string ⟨#[114, 101, 99, 111, 114, 100, 32, 80, 32, 123, 32]⟩, .string ⟨#[111, 110, 32, 101, 40]⟩, .string ⟨#[111, 110, 32, 101, 40, 41, 32, 123, 32, 100, 111, 32, 102, 40]⟩, .string ⟨#[111, 110, 32, 101, 40, 41, 32, 123, 32, 97, 102, 116, 101, 114, 32, 49, 32, 102, 40]⟩, .string ⟨#[111, 110, 32, 101, 40, 41, 32, 123, 32, 100, 111, 32, 80, 123]⟩] 38)).alloc (.cells #[.string ⟨#[97, 58, 32, 105, 110, 116]⟩, .string ⟨#[97, 58, 32, 116, 101, 120, 116]⟩, .string ⟨#[49]⟩, .string ⟨#[120]⟩, .string ⟨#[97, 58, 32, 50]⟩] 38)).alloc (.cells #[.string ⟨#[32, 125]⟩, .string ⟨#[41, 32, 123, 32, 125]⟩, .string ⟨#[41, 59, 32, 125]⟩, .string ⟨#[41, 59, 32, 125]⟩, .string ⟨#[125, 59, 32, 125]⟩] 38)).cell? ⟨w1.heap.size + 1, 4, none⟩ = some (.string ⟨#[97, 58, 32, 50]⟩) := bx6.cell rfl
  have c7 : (((w1.alloc (.cells #[.string ⟨#[114, 101, 99, 111, 114, 100, 32, 80, 32, 123, 32]⟩, .string ⟨#[111, 110, 32, 101, 40]⟩, .string ⟨#[111, 110, 32, 101, 40, 41, 32, 123, 32, 100, 111, 32, 102, 40]⟩, .string ⟨#[111, 110, 32, 101, 40, 41, 32, 123, 32, 97, 102, 116, 101, 114, 32, 49, 32, 102, 40]⟩, .string ⟨#[111, 110, 32, 101, 40, 41, 32, 123, 32, 100, 111, 32, 80, 123]⟩] 38)).alloc (.cells #[.string ⟨#[97, 58, 32, 105, 110, 116]⟩, .string ⟨#[97, 58, 32, 116, 101, 120, 116]⟩, .string ⟨#[49]⟩, .string ⟨#[120]⟩, .string ⟨#[97, 58, 32, 50]⟩] 38)).alloc (.cells #[.string ⟨#[32, 125]⟩, .string ⟨#[41, 32, 123, 32, 125]⟩, .string ⟨#[41, 59, 32, 125]⟩, .string ⟨#[41, 59, 32, 125]⟩, .string ⟨#[125, 59, 32, 125]⟩] 38)).cell? ⟨w1.heap.size + 1 + 1, 4, none⟩ = some (.string ⟨#[125, 59, 32, 125]⟩) := bx7.cell rfl
  have bW := hid (hb1.out.trans (bw.mono hz1.out))
  clear bw bx6 bx7
  generalize (((w1.alloc (.cells #[.string ⟨#[114, 101, 99, 111, 114, 100, 32, 80, 32, 123, 32]⟩, .string ⟨#[111, 110, 32, 101, 40]⟩, .string ⟨#[111, 110, 32, 101, 40, 41, 32, 123, 32, 100, 111, 32, 102, 40]⟩, .string ⟨#[111, 110, 32, 101, 40, 41, 32, 123, 32, 97, 102, 116, 101, 114, 32, 49, 32, 102, 40]⟩, .string ⟨#[111, 110, 32, 101, 40, 41, 32, 123, 32, 100, 111, 32, 80, 123]⟩] 38)).alloc (.cells #[.string ⟨#[97, 58, 32, 105, 110, 116]⟩, .string ⟨#[97, 58, 32, 116, 101, 120, 116]⟩, .string ⟨#[49]⟩, .string ⟨#[120]⟩, .string ⟨#[97, 58, 32, 50]⟩] 38)).alloc (.cells #[.string ⟨#[32, 125]⟩, .string ⟨#[41, 32, 123, 32, 125]⟩, .string ⟨#[41, 59, 32, 125]⟩, .string ⟨#[41, 59, 32, 125]⟩, .string ⟨#[125, 59, 32, 125]⟩] 38)) = W at c6 c7 bW ⊢
  generalize w1.heap.size = z at c6 c7 ⊢
  have hs0 : (Value.string ⟨#[111, 110, 32, 101, 40, 41, 32, 123, 32, 100, 111, 32, 80, 123]⟩) = .string (bs (sM 4 0)) := rfl
  rw [hs0]
  have t2 := True.intro
  go_loopg [9, 10, 15] n (fun g vs vp vi wr => ∃ i : Nat, i + g = n ∧ vs = .string (bs (sM 4 i)) ∧ vp = .int .i64 (plM 4 i) ∧ vi = .int .i64 (i : Int) ∧ wr = W)
  case atStart => exact ⟨0, by omega, rfl, rfl, rfl, rfl⟩
  case round =>
    obtain ⟨i, hig, rfl, rfl, rfl, rfl⟩ := hrel
    cases gk with
    | zero =>
      have hi : i = n := by omega
      subst hi
      have q1 : ¬ ((i : Int) < (i : Int)) := by omega
      have ha : ∀ V : World, (Op.stringOp .add (bs (sM 4 i)) ⟨#[125, 59, 32, 125]⟩).run Tryz.prog V = .ok (.string (bs (sM 4 i ++ enM 4))) V := fun V => add_en h2 V
      by_cases h12 : 12 < i
      · have hp := hid (many_over (k := 4) (by decide) h12 h2)
        have q2 : (12 : Int) < (i : Int) := by omega
        have hln := fin_len (k := 4) h2
        go_wp2_with (have hno := t2; (go_at_call 10; (refine (parse_no _ _ _ _ hp.out hln (mx_below H1.out bW.out) (gl_below H2.out bW.out)).mono ?_; rintro e w2 ⟨rfl, hb⟩; have hb2 := hid hb; clear hb)))
        refine bodyPost_ret (v := .bool true) (by simp [results, Tryz.results5, go_sem]) rfl ⟨rfl, ?_⟩
        exact (bW.out.trans (hb2.out.mono bW.out.size)).alloc (by have := bW.out.size; have := hb2.out.size; omega) _
      · obtain ⟨tt, hp⟩ := many_fits (k := 4) (by decide) h1 (show i ≤ 12 by omega)
        have hp := hid hp
        have q2 : ¬ ((12 : Int) < (i : Int)) := by omega
        have hln := fin_len (k := 4) h2
        go_wp2_with (have hno := t2; (go_at_call 10; (refine (parse_yes _ _ _ hp.out hln (mx_below H1.out bW.out) (gl_below H2.out bW.out)).mono ?_; rintro e w2 ⟨⟨a0, a1, a2, a3, n0, n1, n2, n3, k0, k1, k2, k3, rfl, hR⟩, hb⟩; have hb2 := hid hb; clear hb hR)))
        refine bodyPost_ret (v := .bool true) (by simp [results, Tryz.results5, go_sem]) rfl ⟨rfl, ?_⟩
        exact (bW.out.trans (hb2.out.mono bW.out.size)).alloc (by have := bW.out.size; have := hb2.out.size; omega) _
    | succ g =>
      have q1 : (i : Int) < (n : Int) := by omega
      have hi30 : (i : Int) ≤ 30 := by omega
      have hw : IntKind.i64.wrap ((i : Int) + 1) = (i : Int) + 1 := wrap_small _ (by omega) (by omega)
      by_cases h0 : i = 0
      · subst h0
        have ha : ∀ V : World, (Op.stringOp .add (bs (sM 4 0)) ⟨#[97, 58, 32, 50]⟩).run Tryz.prog V = .ok (.string (bs (sM 4 1))) V := fun V => add_el (k := 4) (i := 0) (by omega) V
        go_wp2
        go_roundg g
        case measure => omega
        exact ⟨1, by omega, rfl, rfl, rfl, rfl⟩
      · have q3 : (0 : Int) < (i : Int) := by omega
        have ha : ∀ V : World, (Op.stringOp .add (bs (sM 4 i)) ⟨#[44, 32]⟩).run Tryz.prog V = .ok (.string (bs (sM 4 i ++ [44, 32]))) V := fun V => add_cm (by omega) V
        have ha2 : ∀ V : World, (Op.stringOp .add (bs (sM 4 i ++ [44, 32])) ⟨#[97, 58, 32, 50]⟩).run Tryz.prog V = .ok (.string (bs ((sM 4 i ++ [44, 32]) ++ elM 4))) V := fun V => add_ce (by omega) V
        by_cases h12 : i = 12
        · subst h12
          have hbz := bs_size (sM 4 12 ++ [44, 32])
          go_wp2
          go_roundg g
          case measure => omega
          exact ⟨13, by omega, rfl, by rw [show (13 : Nat) = 12 + 1 from rfl, pl_12]; simp, rfl, rfl⟩
        · have q4 : ¬ ((i : Int) = 12) := by omega
          go_wp2
          go_roundg g
          case measure => omega
          exact ⟨i + 1, by omega, by rw [sM_succ 4 i h0]; simp, by rcases Nat.lt_or_gt_of_ne h12 with h | h; (rw [pl_lo h]); (rw [pl_hi h]), by push_cast; rfl, rfl⟩
set_option maxHeartbeats 4000000 in
theorem many5 (w : World) (n : Nat) (what : Int) (r : Int) (hr : what.tmod 6 = r) (hr2 : IntKind.i64.wrap (r + 6) = r + 6) (hr3 : (r + 6).tmod 6 = 5) (h1 : 1 ≤ n) (h2 : n ≤ 30) (hm : Lx.MX w) (hG : Gl w) : Calls Tryz.prog 5 #[.int .i64 (n : Int), .int .i64 what] w fun e w' => e = .returned (.bool true) ∧ Below w.heap.size w w' := by
  have t0 := True.intro
  have H1 := hid hm
  have H2 := hid hG
  have g1 : ¬ ((n : Int) < 1) := by omega
  have g2 : ¬ ((30 : Int) < (n : Int)) := by omega
  have hn30 : (n : Int) ≤ 30 := by omega
  go_enter Tryz.func5, Tryz.ntmps5
  go_wp2_with ((have hno := t0; (go_at_call 9; (refine (known_any _ hm hG).mono ?_; rintro e w1 ⟨rfl, hb⟩; have hz1 := hid hb.size; have hb1 := hid hb; have t1 := True.intro; clear hb))))
  obtain ⟨bw, bx6, bx7⟩ := box3 w1 #[.string ⟨#[114, 101, 99, 111, 114, 100, 32, 80, 32, 123, 32]⟩, .string ⟨#[111, 110, 32, 101, 40]⟩, .string ⟨#[111, 110, 32, 101, 40, 41, 32, 123, 32, 100, 111, 32, 102, 40]⟩, .string ⟨#[111, 110, 32, 101, 40, 41, 32, 123, 32, 97, 102, 116, 101, 114, 32, 49, 32, 102, 40]⟩, .string ⟨#[111, 110, 32, 101, 40, 41, 32, 123, 32, 100, 111, 32, 80, 123]⟩] #[.string ⟨#[97, 58, 32, 105, 110, 116]⟩, .string ⟨#[97, 58, 32, 116, 101, 120, 116]⟩, .string ⟨#[49]⟩, .string ⟨#[120]⟩, .string ⟨#[97, 58, 32, 50]⟩] #[.string ⟨#[32, 125]⟩, .string ⟨#[41, 32, 123, 32, 125]⟩, .string ⟨#[41, 59, 32, 125]⟩, .string ⟨#[41, 59, 32, 125]⟩, .string ⟨#[125, 59, 32, 125]⟩] 38
  have bW := hid (hb1.out.trans (bw.mono hz1.out))
  clear bw bx6 bx7
  generalize (((w1.alloc (.cells #[.string ⟨#[114, 101, 99, 111, 114, 100, 32, 80, 32, 123, 32]⟩, .string ⟨#[111, 110, 32, 101, 40]⟩, .string ⟨#[111, 110, 32, 101, 40, 41, 32, 123, 32, 100, 111, 32, 102, 40]⟩, .string ⟨#[111, 110, 32, 101, 40, 41, 32, 123, 32, 97, 102, 116, 101, 114, 32, 49, 32, 102, 40]⟩, .string ⟨#[111, 110, 32, 101, 40, 41, 32, 123, 32, 100, 111, 32, 80, 123]⟩] 38)).alloc (.cells #[.string ⟨#[97, 58, 32, 105, 110, 116]⟩, .string ⟨#[97, 58, 32, 116, 101, 120, 116]⟩, .string ⟨#[49]⟩, .string ⟨#[120]⟩, .string ⟨#[97, 58, 32, 50]⟩] 38)).alloc (.cells #[.string ⟨#[32, 125]⟩, .string ⟨#[41, 32, 123, 32, 125]⟩, .string ⟨#[41, 59, 32, 125]⟩, .string ⟨#[41, 59, 32, 125]⟩, .string ⟨#[125, 59, 32, 125]⟩] 38)) = W at bW ⊢
  generalize w1.heap.size = z at ⊢
  have hs0 : (Value.string ⟨#[]⟩) = .string (bs (s5 0)) := rfl
  rw [hs0]
  have t2 := True.intro
  go_loopg [9, 10, 11] n (fun g vs vp vi wr => ∃ i : Nat, i + g = n ∧ vs = .string (bs (s5 i)) ∧ vp = .int .i64 (pl5 i) ∧ vi = .int .i64 (i : Int) ∧ wr = W)
  case atStart => exact ⟨0, by omega, rfl, rfl, rfl, rfl⟩
  case round =>
    obtain ⟨i, hig, rfl, rfl, rfl, rfl⟩ := hrel
    have hln : (s5 i).length ≤ 100000 := by have := s5_len i; omega
    cases gk with
    | zero =>
      have hi : i = n := by omega
      subst hi
      have q1 : ¬ ((i : Int) < (i : Int)) := by omega
      by_cases h12 : 16 < i
      · have hp := hid (five_over h12 h2)
        have q2 : (16 : Int) < (i : Int) := by omega
        go_wp2_with (have hno := t2; (go_at_call 10; (refine (parse_no _ _ _ _ hp.out hln (mx_below H1.out bW.out) (gl_below H2.out bW.out)).mono ?_; rintro e w2 ⟨rfl, hb⟩; have hb2 := hid hb; clear hb)))
        refine bodyPost_ret (v := .bool true) (by simp [results, Tryz.results5, go_sem]) rfl ⟨rfl, ?_⟩
        exact (bW.out.trans (hb2.out.mono bW.out.size)).alloc (by have := bW.out.size; have := hb2.out.size; omega) _
      · obtain ⟨tt, hp⟩ := five_fits h1 (show i ≤ 16 by omega)
        have hp := hid hp
        have q2 : ¬ ((16 : Int) < (i : Int)) := by omega
        go_wp2_with (have hno := t2; (go_at_call 10; (refine (parse_yes _ _ _ hp.out hln (mx_below H1.out bW.out) (gl_below H2.out bW.out)).mono ?_; rintro e w2 ⟨⟨a0, a1, a2, a3, n0, n1, n2, n3, k0, k1, k2, k3, rfl, hR⟩, hb⟩; have hb2 := hid hb; clear hb hR)))
        refine bodyPost_ret (v := .bool true) (by simp [results, Tryz.results5, go_sem]) rfl ⟨rfl, ?_⟩
        exact (bW.out.trans (hb2.out.mono bW.out.size)).alloc (by have := bW.out.size; have := hb2.out.size; omega) _
    | succ g =>
      have q1 : (i : Int) < (n : Int) := by omega
      have hi30 : (i : Int) ≤ 30 := by omega
      have hw : IntKind.i64.wrap ((i : Int) + 1) = (i : Int) + 1 := wrap_small _ (by omega) (by omega)
      have ha : ∀ V : World, (Op.stringOp .add (bs (s5 i)) ⟨#[109, 97, 112, 32, 109, 58, 32, 105, 110, 116, 32, 45, 62, 32, 105, 110, 116, 59, 32]⟩).run Tryz.prog V = .ok (.string (bs (s5 (i + 1)))) V := fun V => add_s5 (by omega) V
      by_cases h12 : i = 16
      · subst h12
        have hbz := bs_size (s5 16)
        go_wp2
        go_roundg g
        case measure => omega
        exact ⟨17, by omega, rfl, by rw [show (17 : Nat) = 16 + 1 from rfl, p5_16], rfl, rfl⟩
      · have q4 : ¬ ((i : Int) = 16) := by omega
        go_wp2
        go_roundg g
        case measure => omega
        exact ⟨i + 1, by omega, rfl, by rcases Nat.lt_or_gt_of_ne h12 with h | h; (rw [p5_lo h]); (rw [p5_hi h]), by push_cast; rfl, rfl⟩
end Go.Proofs.YtkhjacflmggelaaGreatDoor

namespace Go.Proofs.YtkhjacflmggelaaGreatDoor
open Go Go.RowKit Go.Deep Go.Shelf
set_option linter.unusedVariables false
set_option linter.unusedSimpArgs false
set_option maxRecDepth 100000
set_option maxHeartbeats 1000000 in
theorem many_out (w : World) (n what : Int) (h : n < 1 ∨ 30 < n) (hm : Lx.MX w) (hG : Gl w) : Calls Tryz.prog 5 #[.int .i64 n, .int .i64 what] w fun e w' => e = .returned (.bool true) ∧ Below w.heap.size w w' := by
  have t0 := True.intro
  have h2 : 1 ≤ n → 30 < n := fun q => by omega
  by_cases g1 : n < 1
  · go_enter Tryz.func5, Tryz.ntmps5
    go_wp2_with ((have hno := t0; (go_at_call 9; (refine (known_any _ hm hG).mono ?_; rintro e w1 ⟨rfl, hb⟩; have hz1 := hid hb.size; have hb1 := hid hb; have t1 := True.intro; clear hb))))
    refine bodyPost_ret (v := .bool true) (by simp [results, Tryz.results5, go_sem]) rfl ⟨rfl, hb1.out⟩
  · have g2 : 30 < n := by omega
    go_enter Tryz.func5, Tryz.ntmps5
    go_wp2_with ((have hno := t0; (go_at_call 9; (refine (known_any _ hm hG).mono ?_; rintro e w1 ⟨rfl, hb⟩; have hz1 := hid hb.size; have hb1 := hid hb; have t1 := True.intro; clear hb))))
    refine bodyPost_ret (v := .bool true) (by simp [results, Tryz.results5, go_sem]) rfl ⟨rfl, hb1.out⟩
theorem many_any (w : World) (n what : Int) (hm : Lx.MX w) (hG : Gl w) : Calls Tryz.prog 5 #[.int .i64 n, .int .i64 what] w fun e w' => e = .returned (.bool true) ∧ Below w.heap.size w w' := by
  by_cases h : n < 1 ∨ 30 < n
  · exact many_out w n what h hm hG
  · obtain ⟨N, rfl⟩ := Int.eq_ofNat_of_zero_le (show 0 ≤ n by omega)
    have h1 : 1 ≤ N := by omega
    have h2 : N ≤ 30 := by omega
    have b1 : what.tmod 6 < 6 := by
      have := Int.tmod_lt_of_pos what (show (0 : Int) < 6 by decide)
      exact this
    have b2 : -6 < what.tmod 6 := by
      have := Int.neg_tmod what 6
      have q := Int.tmod_lt_of_pos (-what) (show (0 : Int) < 6 by decide)
      omega
    have hw : IntKind.i64.wrap (what.tmod 6 + 6) = what.tmod 6 + 6 := wrap_small _ (by omega) (by omega)
    have hcase : what.tmod 6 = -5 ∨ what.tmod 6 = -4 ∨ what.tmod 6 = -3 ∨ what.tmod 6 = -2 ∨ what.tmod 6 = -1 ∨ what.tmod 6 = 0 ∨ what.tmod 6 = 1 ∨ what.tmod 6 = 2 ∨ what.tmod 6 = 3 ∨ what.tmod 6 = 4 ∨ what.tmod 6 = 5 := by omega
    have main : ∀ r : Int, what.tmod 6 = r → (r + 6).tmod 6 = 0 ∨ (r + 6).tmod 6 = 1 ∨ (r + 6).tmod 6 = 2 ∨ (r + 6).tmod 6 = 3 ∨ (r + 6).tmod 6 = 4 ∨ (r + 6).tmod 6 = 5 → Calls Tryz.prog 5 #[.int .i64 (N : Int), .int .i64 what] w fun e w' => e = .returned (.bool true) ∧ Below w.heap.size w w' := by
      intro r hr hc
      rcases hc with h | h | h | h | h | h
      · exact many0 w N what r hr (hr ▸ hw) h h1 h2 hm hG
      · exact many1 w N what r hr (hr ▸ hw) h h1 h2 hm hG
      · exact many2 w N what r hr (hr ▸ hw) h h1 h2 hm hG
      · exact many3 w N what r hr (hr ▸ hw) h h1 h2 hm hG
      · exact many4 w N what r hr (hr ▸ hw) h h1 h2 hm hG
      · exact many5 w N what r hr (hr ▸ hw) h h1 h2 hm hG
    rcases hcase with h | h | h | h | h | h | h | h | h | h | h <;> exact main _ h (by decide)
end Go.Proofs.YtkhjacflmggelaaGreatDoor

