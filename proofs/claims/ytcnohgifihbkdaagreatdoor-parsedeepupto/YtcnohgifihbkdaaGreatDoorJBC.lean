/- ParseDeep's walk. -/
import Derived.Test.YtcnohgifihbkdaaGreatDoorJBB
namespace Go.Proofs.YtcnohgifihbkdaaGreatDoor
open Go Go.RowKit Go.Deep Go.Shelf Go.IntWalk
set_option linter.unusedVariables false
set_option linter.unusedSimpArgs false
set_option maxRecDepth 100000
set_option maxHeartbeats 1000000 in
theorem deep_out (w : World) (n : Int) (a : Option Addr) (l c : Nat) (h : n < 0 ∨ 80 < n) (hE : Lx.EnvT w) (hG : Gl w) : Calls Tryz.prog 4 #[.int .i64 n, .slice a l c] w fun e w' => e = .returned (.bool true) ∧ Below w.heap.size w w' := by
  have t0 := True.intro
  by_cases g1 : n < 0
  · go_enter Tryz.func4, Tryz.ntmps4
    go_wp2_with ((have hno := t0; (go_at_call 8; (refine (known_any _ hE.mx hG).mono ?_; rintro e w1 ⟨rfl, hb⟩; have hz1 := hid hb.size; have hb1 := hid hb; have t1 := True.intro; clear hb))))
    refine bodyPost_ret (v := .bool true) (by simp [results, Tryz.results4, go_sem]) rfl ⟨rfl, hb1.out⟩
  · have g2 : 80 < n := by omega
    go_enter Tryz.func4, Tryz.ntmps4
    go_wp2_with ((have hno := t0; (go_at_call 8; (refine (known_any _ hE.mx hG).mono ?_; rintro e w1 ⟨rfl, hb⟩; have hz1 := hid hb.size; have hb1 := hid hb; have t1 := True.intro; clear hb))))
    refine bodyPost_ret (v := .bool true) (by simp [results, Tryz.results4, go_sem]) rfl ⟨rfl, hb1.out⟩
set_option maxHeartbeats 8000000 in
theorem deep_in (w : World) (n : Nat) (a : Option Addr) (c : Nat) (gs : List Nat) (hR : GRd w a gs) (hn : n ≤ 80) (hE : Lx.EnvT w) (hG : Gl w)
    (HDEP : ∀ (X : World) (A : Nat → Prop) (v : Value) (ks : List Nat), ks.length ≤ 39 → RTr X A v (tD ks) → Lx.EnvT X → Calls Tryz.prog 12 #[v] X fun e w' => ∃ m : Nat, e = .returned (.int .i64 (m : Int)) ∧ m ≤ 2 * ks.length + 1 ∧ Below X.heap.size X w') :
    Calls Tryz.prog 4 #[.int .i64 (n : Int), .slice a gs.length c] w fun e w' => e = .returned (.bool true) ∧ Below w.heap.size w w' := by
  have t0 := True.intro
  have H1 := hid hE
  have H2 := hid hG
  have HR := hid hR
  have HDP := hid HDEP
  clear HDEP hR
  have g1 : ¬ ((n : Int) < 0) := by omega
  have g2 : ¬ ((80 : Int) < (n : Int)) := by omega
  have hn80 : (n : Int) ≤ 80 := by omega
  go_enter Tryz.func4, Tryz.ntmps4
  go_wp2_with ((have hno := t0; (go_at_call 8; (refine (known_any _ hE.mx hG).mono ?_; rintro e w1 ⟨rfl, hb⟩; have hz1 := hid hb.size; have hb1 := hid hb; have t1 := True.intro; clear hb))))
  have t2 := True.intro
  have hwz : w.heap.size ≤ w1.heap.size := hz1.out
  obtain ⟨z, hz⟩ : ∃ z, z = w1.heap.size := ⟨_, rfl⟩
  have hwz' : w.heap.size ≤ z := by omega
  go_loopg [5, 6, 7, 8] n (fun g vs ve vp vi wr => ∃ i : Nat, i + g = n ∧ vs = .string (bs (sI gs i)) ∧ ve = .string (bs (eI gs i)) ∧ vi = .int .i64 (i : Int) ∧ Lst 3 1 LI wr (fun g => z ≤ g ∧ g < wr.heap.size) vp (psI gs i) ∧ Below w.heap.size w wr ∧ z ≤ wr.heap.size)
  case atStart => exact ⟨0, by omega, rfl, rfl, rfl, Lst.nil _ _ _ _ _, hb1.out, by omega⟩
  case round =>
    obtain ⟨i, hig, rfl, rfl, rfl, HS, HB, hzr⟩ := hrel
    clear hz hwz
    cases gk with
    | succ gk =>
      have q1 : (i : Int) < (n : Int) := by omega
      have hw : IntKind.i64.wrap ((i : Int) + 1) = (i : Int) + 1 := wrap_small _ (by omega) (by omega)
      have hl1 := bs_size (sI gs i)
      have e1 := sI_le gs i
      have e2 := eI_le gs i
      have e3 := plO_le (kD gs i)
      have e4 := kD_lt gs i
      have e5 := sI_le gs (i + 1)
      have e6 := eI_le gs (i + 1)
      have e7 := oSrc_len (kD gs i)
      have e8 := cSrc_len (kD gs i)
      have e9 : oLen (kD gs i) ≤ 2 := by unfold oLen; split <;> omega
      have ha : ∀ V : World, (Op.stringOp .add (bs (sI gs i)) (bs (oSrc (kD gs i)))).run Tryz.prog V = .ok (.string (bs (sI gs (i + 1)))) V := fun V => by rw [sI_succ]; exact run_cat _ _ (by omega) V
      have hc : ∀ V : World, (Op.stringOp .add (bs (cSrc (kD gs i))) (bs (eI gs i))).run Tryz.prog V = .ok (.string (bs (eI gs (i + 1)))) V := fun V => by rw [eI_succ]; exact run_cat _ _ (by omega) V
      have hi80 : (i : Int) ≤ 80 := by omega
      obtain ⟨ap, cp, rfl⟩ := HS.form
      rw [psI_len] at HS ⊢
      by_cases hh : i < gs.length
      · have hh1 : (i : Int) < (gs.length : Int) := by omega
        have hgi : gs[i]? = some (gs[i]'hh) := List.getElem?_eq_getElem hh
        obtain ⟨g255, b, off, rfl, hbW, hcell0⟩ := HR.out i _ hgi
        have hcell := cell_keep HB hbW hcell0
        have hkd : kD gs i = (gs[i]'hh) % 4 := by unfold kD; rw [List.getD_eq_getElem?_getD, hgi]; rfl
        generalize gs[i]'hh = g at hkd g255 hcell
        have hr1 : ((g : Nat) : Int).tmod 4 = ((kD gs i : Nat) : Int) := by rw [Int.tmod_eq_emod_of_nonneg (by omega), hkd]; omega
        have hq := plO_div e4
        have hk4 : ((kD gs i : Nat) : Int) < 4 := by omega
        have hwq : wrap64 ((plO (kD gs i) : Nat) : Int) = ((plO (kD gs i) : Nat) : Int) := plO_wrap gs i
        have hwE : wrap64 (((sI gs i).length : Int) + ((plO (kD gs i) : Nat) : Int)) = ((pI gs i : Nat) : Int) := pI_wrap gs i (by omega)
        clear hgi hcell0 hbW
        have HS3 := hid (HS.mv LI_mv (w' := (wr.alloc (.cells #[.string ⟨#[40]⟩, .string ⟨#[45, 32]⟩, .string ⟨#[102, 40]⟩, .string ⟨#[109, 91]⟩] 35)).alloc (.cells #[.string ⟨#[41]⟩, .string ⟨#[]⟩, .string ⟨#[41]⟩, .string ⟨#[93]⟩] 35)) (B := fun g => z ≤ g ∧ g < wr.heap.size) (Same.alloc (Same.alloc (Same.refl _ _) fun g h => h.2) fun g h => by rw [World.size_alloc]; have := h.2; omega) (fun g h => h))
        have HA3 : Hid (∀ g, (z ≤ g ∧ g < wr.heap.size) → g < ((wr.alloc (.cells #[.string ⟨#[40]⟩, .string ⟨#[45, 32]⟩, .string ⟨#[102, 40]⟩, .string ⟨#[109, 91]⟩] 35)).alloc (.cells #[.string ⟨#[41]⟩, .string ⟨#[]⟩, .string ⟨#[41]⟩, .string ⟨#[93]⟩] 35)).heap.size) := hid (fun g h => by rw [World.size_alloc, World.size_alloc]; have := h.2; omega)
        have KZ : Hid ((wr.heap.size < (((wr.alloc (.cells #[.string ⟨#[40]⟩, .string ⟨#[45, 32]⟩, .string ⟨#[102, 40]⟩, .string ⟨#[109, 91]⟩] 35)).alloc (.cells #[.string ⟨#[41]⟩, .string ⟨#[]⟩, .string ⟨#[41]⟩, .string ⟨#[93]⟩] 35)).alloc (.cells #[.int .i64 (pI gs i : Int)] 3)).heap.size) ∧ (some wr.heap.size ≠ (Value.slice ap i cp).ownBlock) ∧ (wr.heap.size + 1 < (((wr.alloc (.cells #[.string ⟨#[40]⟩, .string ⟨#[45, 32]⟩, .string ⟨#[102, 40]⟩, .string ⟨#[109, 91]⟩] 35)).alloc (.cells #[.string ⟨#[41]⟩, .string ⟨#[]⟩, .string ⟨#[41]⟩, .string ⟨#[93]⟩] 35)).alloc (.cells #[.int .i64 (pI gs i : Int)] 3)).heap.size) ∧ (some (wr.heap.size + 1) ≠ (Value.slice ap i cp).ownBlock)) := hid ⟨by rw [World.size_alloc, World.size_alloc, World.size_alloc]; omega, fun e => by have := (lst_own HS _ e.symm).2; omega, by rw [World.size_alloc, World.size_alloc, World.size_alloc]; omega, fun e => by have := (lst_own HS _ e.symm).2; omega⟩
        have KO : Hid (∀ w4 : World, w4.heap[wr.heap.size]? = (((wr.alloc (.cells #[.string ⟨#[40]⟩, .string ⟨#[45, 32]⟩, .string ⟨#[102, 40]⟩, .string ⟨#[109, 91]⟩] 35)).alloc (.cells #[.string ⟨#[41]⟩, .string ⟨#[]⟩, .string ⟨#[41]⟩, .string ⟨#[93]⟩] 35)).alloc (.cells #[.int .i64 (pI gs i : Int)] 3)).heap[wr.heap.size]? → w4.cell? ⟨wr.heap.size, kD gs i, none⟩ = some (.string (bs (oSrc (kD gs i))))) := hid (fun w4 h => by
          have hx : Box wr.heap.size oA 35 w4 := h.trans (((Box.new wr oA 35).alloc _).alloc _)
          have hy := hx.cell (arr_at (kD_lt gs i)).1
          exact hy)
        have KC : Hid (∀ w4 : World, w4.heap[wr.heap.size + 1]? = (((wr.alloc (.cells #[.string ⟨#[40]⟩, .string ⟨#[45, 32]⟩, .string ⟨#[102, 40]⟩, .string ⟨#[109, 91]⟩] 35)).alloc (.cells #[.string ⟨#[41]⟩, .string ⟨#[]⟩, .string ⟨#[41]⟩, .string ⟨#[93]⟩] 35)).alloc (.cells #[.int .i64 (pI gs i : Int)] 3)).heap[wr.heap.size + 1]? → w4.cell? ⟨wr.heap.size + 1, kD gs i, none⟩ = some (.string (bs (cSrc (kD gs i))))) := hid (fun w4 h => by
          have q := Box.new (wr.alloc (.cells oA 35)) cA 35
          rw [World.size_alloc] at q
          have hx : Box (wr.heap.size + 1) cA 35 w4 := h.trans (q.alloc _)
          have hy := hx.cell (arr_at (kD_lt gs i)).2
          exact hy)
        have HHS := hid HS
        have HHB := hid HB
        clear HS HB
        clear e1 e2 e3 e5 e6 e7 e8 e9 hkd
        go_wp2_with ((have hno := t2; (at_builtin; refine wpList_appI _ ((wr.alloc (.cells #[.string ⟨#[40]⟩, .string ⟨#[45, 32]⟩, .string ⟨#[102, 40]⟩, .string ⟨#[109, 91]⟩] 35)).alloc (.cells #[.string ⟨#[41]⟩, .string ⟨#[]⟩, .string ⟨#[41]⟩, .string ⟨#[93]⟩] 35)) (pI gs i : Int) _ rfl rfl rfl _ _ rfl rfl _ (.slice (some ⟨wr.heap.size + 1 + 1, 0, none⟩) 1 1) (by rfl) (by rfl) (by rw [World.size_alloc, World.size_alloc]) (fun g => z ≤ g ∧ g < wr.heap.size) _ HS3.out HA3.out (by rw [psI_len]; omega) ?_; intro v4 w4 m1 m2 m3; have co := KO.out w4 (m2.block _ KZ.out.1 KZ.out.2.1); have cc := KC.out w4 (m2.block _ KZ.out.2.2.1 KZ.out.2.2.2); have HM1 := hid m1; have HM2 := hid m2; have t3 := True.intro; clear m1 m2 m3)))
        go_roundg gk
        case measure => omega
        have hX : Below w.heap.size w (((wr.alloc (.cells #[.string ⟨#[40]⟩, .string ⟨#[45, 32]⟩, .string ⟨#[102, 40]⟩, .string ⟨#[109, 91]⟩] 35)).alloc (.cells #[.string ⟨#[41]⟩, .string ⟨#[]⟩, .string ⟨#[41]⟩, .string ⟨#[93]⟩] 35)).alloc (.cells #[.int .i64 (pI gs i : Int)] 3)) := ((HHB.out.alloc (by omega) _).alloc (by rw [World.size_alloc]; omega) _).alloc (by rw [World.size_alloc, World.size_alloc]; omega) _
        have hsz := HM2.out.size
        rw [World.size_alloc, World.size_alloc, World.size_alloc] at hsz
        refine ⟨i + 1, by omega, rfl, rfl, by push_cast; rfl, ?_, ?_, by omega⟩
        · rw [psI_succ]
          refine HM1.out.mv LI_mv (w' := w4) (B := fun g => z ≤ g ∧ g < w4.heap.size) (Same.refl _ _) ?_
          rintro g ((hg | hg) | hg)
          · exact ⟨hg.1, by have := hg.2; omega⟩
          · rw [World.size_alloc, World.size_alloc] at hg
            exact ⟨by omega, by omega⟩
          · rw [World.size_alloc, World.size_alloc] at hg
            exact ⟨by omega, hg.2⟩
        · exact bgrowr hX (by rw [World.size_alloc, World.size_alloc, World.size_alloc]; omega) HM2.out (fun r e => by have := (lst_own HHS.out r e).1; omega)
      · have hh1 : ¬ ((i : Int) < (gs.length : Int)) := by omega
        have hk0 : kD gs i = 0 := by unfold kD; rw [List.getD_eq_getElem?_getD, List.getElem?_eq_none (by omega)]; rfl
        have hw0 : wrap64 0 = 0 := wrap64_0
        have hwE : wrap64 ((sI gs i).length : Int) = ((pI gs i : Nat) : Int) := pI_wrap0 gs i (by omega) hk0
        have HS3 := hid (HS.mv LI_mv (w' := (wr.alloc (.cells #[.string ⟨#[40]⟩, .string ⟨#[45, 32]⟩, .string ⟨#[102, 40]⟩, .string ⟨#[109, 91]⟩] 35)).alloc (.cells #[.string ⟨#[41]⟩, .string ⟨#[]⟩, .string ⟨#[41]⟩, .string ⟨#[93]⟩] 35)) (B := fun g => z ≤ g ∧ g < wr.heap.size) (Same.alloc (Same.alloc (Same.refl _ _) fun g h => h.2) fun g h => by rw [World.size_alloc]; have := h.2; omega) (fun g h => h))
        have HA3 : Hid (∀ g, (z ≤ g ∧ g < wr.heap.size) → g < ((wr.alloc (.cells #[.string ⟨#[40]⟩, .string ⟨#[45, 32]⟩, .string ⟨#[102, 40]⟩, .string ⟨#[109, 91]⟩] 35)).alloc (.cells #[.string ⟨#[41]⟩, .string ⟨#[]⟩, .string ⟨#[41]⟩, .string ⟨#[93]⟩] 35)).heap.size) := hid (fun g h => by rw [World.size_alloc, World.size_alloc]; have := h.2; omega)
        have KZ : Hid ((wr.heap.size < (((wr.alloc (.cells #[.string ⟨#[40]⟩, .string ⟨#[45, 32]⟩, .string ⟨#[102, 40]⟩, .string ⟨#[109, 91]⟩] 35)).alloc (.cells #[.string ⟨#[41]⟩, .string ⟨#[]⟩, .string ⟨#[41]⟩, .string ⟨#[93]⟩] 35)).alloc (.cells #[.int .i64 (pI gs i : Int)] 3)).heap.size) ∧ (some wr.heap.size ≠ (Value.slice ap i cp).ownBlock) ∧ (wr.heap.size + 1 < (((wr.alloc (.cells #[.string ⟨#[40]⟩, .string ⟨#[45, 32]⟩, .string ⟨#[102, 40]⟩, .string ⟨#[109, 91]⟩] 35)).alloc (.cells #[.string ⟨#[41]⟩, .string ⟨#[]⟩, .string ⟨#[41]⟩, .string ⟨#[93]⟩] 35)).alloc (.cells #[.int .i64 (pI gs i : Int)] 3)).heap.size) ∧ (some (wr.heap.size + 1) ≠ (Value.slice ap i cp).ownBlock)) := hid ⟨by rw [World.size_alloc, World.size_alloc, World.size_alloc]; omega, fun e => by have := (lst_own HS _ e.symm).2; omega, by rw [World.size_alloc, World.size_alloc, World.size_alloc]; omega, fun e => by have := (lst_own HS _ e.symm).2; omega⟩
        have KO : Hid (∀ w4 : World, w4.heap[wr.heap.size]? = (((wr.alloc (.cells #[.string ⟨#[40]⟩, .string ⟨#[45, 32]⟩, .string ⟨#[102, 40]⟩, .string ⟨#[109, 91]⟩] 35)).alloc (.cells #[.string ⟨#[41]⟩, .string ⟨#[]⟩, .string ⟨#[41]⟩, .string ⟨#[93]⟩] 35)).alloc (.cells #[.int .i64 (pI gs i : Int)] 3)).heap[wr.heap.size]? → w4.cell? ⟨wr.heap.size, 0, none⟩ = some (.string (bs (oSrc (kD gs i))))) := hid (fun w4 h => by
          have hx : Box wr.heap.size oA 35 w4 := h.trans (((Box.new wr oA 35).alloc _).alloc _)
          have hy := hx.cell (arr_at (kD_lt gs i)).1
          rw [hk0] at hy ⊢
          exact hy)
        have KC : Hid (∀ w4 : World, w4.heap[wr.heap.size + 1]? = (((wr.alloc (.cells #[.string ⟨#[40]⟩, .string ⟨#[45, 32]⟩, .string ⟨#[102, 40]⟩, .string ⟨#[109, 91]⟩] 35)).alloc (.cells #[.string ⟨#[41]⟩, .string ⟨#[]⟩, .string ⟨#[41]⟩, .string ⟨#[93]⟩] 35)).alloc (.cells #[.int .i64 (pI gs i : Int)] 3)).heap[wr.heap.size + 1]? → w4.cell? ⟨wr.heap.size + 1, 0, none⟩ = some (.string (bs (cSrc (kD gs i))))) := hid (fun w4 h => by
          have q := Box.new (wr.alloc (.cells oA 35)) cA 35
          rw [World.size_alloc] at q
          have hx : Box (wr.heap.size + 1) cA 35 w4 := h.trans (q.alloc _)
          have hy := hx.cell (arr_at (kD_lt gs i)).2
          rw [hk0] at hy ⊢
          exact hy)
        have HHS := hid HS
        have HHB := hid HB
        clear HS HB
        clear e1 e2 e3 e5 e6 e7 e8 e9 hk0
        go_wp2_with ((have hno := t2; (at_builtin; refine wpList_appI _ ((wr.alloc (.cells #[.string ⟨#[40]⟩, .string ⟨#[45, 32]⟩, .string ⟨#[102, 40]⟩, .string ⟨#[109, 91]⟩] 35)).alloc (.cells #[.string ⟨#[41]⟩, .string ⟨#[]⟩, .string ⟨#[41]⟩, .string ⟨#[93]⟩] 35)) (pI gs i : Int) _ rfl rfl rfl _ _ rfl rfl _ (.slice (some ⟨wr.heap.size + 1 + 1, 0, none⟩) 1 1) (by rfl) (by rfl) (by rw [World.size_alloc, World.size_alloc]) (fun g => z ≤ g ∧ g < wr.heap.size) _ HS3.out HA3.out (by rw [psI_len]; omega) ?_; intro v4 w4 m1 m2 m3; have co := KO.out w4 (m2.block _ KZ.out.1 KZ.out.2.1); have cc := KC.out w4 (m2.block _ KZ.out.2.2.1 KZ.out.2.2.2); have HM1 := hid m1; have HM2 := hid m2; have t3 := True.intro; clear m1 m2 m3)))
        go_roundg gk
        case measure => omega
        have hX : Below w.heap.size w (((wr.alloc (.cells #[.string ⟨#[40]⟩, .string ⟨#[45, 32]⟩, .string ⟨#[102, 40]⟩, .string ⟨#[109, 91]⟩] 35)).alloc (.cells #[.string ⟨#[41]⟩, .string ⟨#[]⟩, .string ⟨#[41]⟩, .string ⟨#[93]⟩] 35)).alloc (.cells #[.int .i64 (pI gs i : Int)] 3)) := ((HHB.out.alloc (by omega) _).alloc (by rw [World.size_alloc]; omega) _).alloc (by rw [World.size_alloc, World.size_alloc]; omega) _
        have hsz := HM2.out.size
        rw [World.size_alloc, World.size_alloc, World.size_alloc] at hsz
        refine ⟨i + 1, by omega, rfl, rfl, by push_cast; rfl, ?_, ?_, by omega⟩
        · rw [psI_succ]
          refine HM1.out.mv LI_mv (w' := w4) (B := fun g => z ≤ g ∧ g < w4.heap.size) (Same.refl _ _) ?_
          rintro g ((hg | hg) | hg)
          · exact ⟨hg.1, by have := hg.2; omega⟩
          · rw [World.size_alloc, World.size_alloc] at hg
            exact ⟨by omega, by omega⟩
          · rw [World.size_alloc, World.size_alloc] at hg
            exact ⟨by omega, hg.2⟩
        · exact bgrowr hX (by rw [World.size_alloc, World.size_alloc, World.size_alloc]; omega) HM2.out (fun r e => by have := (lst_own HHS.out r e).1; omega)
    | zero =>
      have hi : i = n := by omega
      subst hi
      have q1 : ¬ ((i : Int) < (i : Int)) := by omega
      have e1 := sI_le gs i
      have e2 := eI_le gs i
      have ad1 : ∀ V : World, (Op.stringOp .add (bs (sI gs i)) ⟨#[97]⟩).run Tryz.prog V = .ok (.string (bs (sX gs i))) V := fun V => run_cat _ [97] (by simp only [List.length_cons, List.length_nil]; omega) V
      have l1 : (sX gs i).length ≤ 300 := by unfold sX; rw [List.length_append]; simp only [List.length_cons, List.length_nil]; omega
      have ad2 : ∀ V : World, (Op.stringOp .add (bs (sX gs i)) (bs (eI gs i))).run Tryz.prog V = .ok (.string (bs (sY gs i))) V := fun V => run_cat _ _ (by omega) V
      have l2 : (sY gs i).length ≤ 400 := by unfold sY; rw [List.length_append]; omega
      have ad3 : ∀ V : World, (Op.stringOp .add (bs (sY gs i)) ⟨#[59, 32, 125]⟩).run Tryz.prog V = .ok (.string (bs (srcD (ksD gs i)))) V := fun V => by rw [← sY_src]; exact run_cat _ [59, 32, 125] (by simp only [List.length_cons, List.length_nil]; omega) V
      obtain ⟨ap, cp, rfl⟩ := HS.form
      rw [psI_len] at HS ⊢
      have HHS := hid HS
      have HHB := hid HB
      have hEr := hid (H1.out.below HB)
      have hGr := hid (gl_below H2.out HB)
      clear HB l1 l2 e1 e2
      have hk := ks_len gs i
      by_cases h39 : 39 < i
      · have q2 : (39 : Int) < (i : Int) := by omega
        have hp9 := pl_39 gs i h39
        obtain ⟨g5, off5, cap5, r5, hv5, hc5, hg5, hA5, hr5, hcell5⟩ := HS.at (ps_39 gs i h39)
        rw [psI_len] at hv5 hc5
        cases hv5
        have hx5 : r5 = [.int .i64 (pI gs 39 : Int)] := hr5
        subst hx5
        have hy5 := hcell5 0 (by decide)
        have hy5 : wr.cell? ⟨g5, off5 + 39, none⟩ = some (.int .i64 (pI gs 39 : Int)) := by simpa using hy5
        clear hcell5 hr5 HS
        have hc5' : (i : Int) ≤ (cp : Int) := by omega
        go_wp2_with ((have hno := t2; (go_at_call 9; (refine (deep_noW _ _ (by rw [hk]; exact h39) (by rw [hk]; exact hn) hEr.out.mx hGr.out).mono ?_; rintro e w2 ⟨rfl, hb⟩; rw [hp9]; have hy6 := cell_keep hb hg5 hy5; have hy7 := cell_alloc (by have := hb.size; omega) hy6; have hb2 := hid hb; have t3 := True.intro; clear hb))))
        refine bodyPost_ret (v := .bool true) (by simp [results, Tryz.results4, go_sem]) rfl ⟨rfl, ?_⟩
        exact (HHB.out.trans (hb2.out.mono HHB.out.size)).alloc (Nat.le_trans HHB.out.size hb2.out.size) _
      · have q2 : ¬ ((39 : Int) < (i : Int)) := by omega
        have hm1 : IntKind.i64.wrap (2 * (i : Int)) = 2 * (i : Int) := wrap_small _ (by omega) (by omega)
        have hm2 : IntKind.i64.wrap (2 * (i : Int) + 1) = 2 * (i : Int) + 1 := wrap_small _ (by omega) (by omega)
        go_wp2_with (first
          | (have hno := t3; (go_at_call 12; (refine (HDP.out _ _ _ _ (by rw [hk]; omega) HRT.out HEX.out).mono ?_; rintro e w5 ⟨m, rfl, hm, hb⟩; have hm5 : (m : Int) ≤ 2 * (i : Int) + 1 := (by rw [hk] at hm; omega); have hb5 := hid hb; have t5 := True.intro; clear hb)))
          | (have hno := t2; (go_at_call 9; (refine (deep_yesW _ _ (by rw [hk]; omega) hEr.out.mx hGr.out).mono ?_; rintro e w2 ⟨a0, a1, a2, a3, k0, k1, k2, k3, rfl, hRT, hb⟩; have HX : Below w.heap.size w (w2.alloc (.cells #[.slice a0 0 k0, .slice a1 0 k1, .slice a2 0 k2, .slice a3 1 k3] 25)) := (HHB.out.trans (hb.mono HHB.out.size)).alloc (Nat.le_trans HHB.out.size hb.size) _; have HEX := hid (H1.out.below HX); have HRT := hid (RTr.mv (w' := w2.alloc (.cells #[.slice a0 0 k0, .slice a1 0 k1, .slice a2 0 k2, .slice a3 1 k3] 25)) hRT (Same.alloc (Same.refl _ _) fun g h => h.2) fun g h => h); have hb2 := hid hb; have HXX := hid HX; have t3 := True.intro; clear hb hRT HX))))
        refine bodyPost_ret (v := .bool true) (by simp [results, Tryz.results4, go_sem]) rfl ⟨rfl, ?_⟩
        exact HXX.out.trans (hb5.out.mono HXX.out.size)
end Go.Proofs.YtcnohgifihbkdaaGreatDoor

namespace Go.Proofs.YtcnohgifihbkdaaGreatDoor
open Go Go.RowKit Go.Deep Go.Shelf
set_option linter.unusedVariables false
set_option linter.unusedSimpArgs false
set_option maxRecDepth 100000
def nmX (q : UInt8) (p : Int) : PEx := ⟨4, 0, 0, [], [q], [], [], p⟩
end Go.Proofs.YtcnohgifihbkdaaGreatDoor

namespace Go.Proofs.YtcnohgifihbkdaaGreatDoor
open Go Go.RowKit Go.Deep Go.Shelf
set_option linter.unusedVariables false
set_option linter.unusedSimpArgs false
set_option maxRecDepth 100000
theorem pkE_names {a b : PEx} (h : pkE a = pkE b) (e : b.names = []) : a.names = [] := by
  unfold pkE pkN at h
  rw [e] at h
  simp only [Value.agg.injEq, Array.mk.injEq, List.cons.injEq, true_and, and_true, List.map_nil] at h
  obtain ⟨_, _, _, _, _, h6, _⟩ := h
  have h6 : a.names.map (fun n => Value.string (bs n)) = [] := by simpa using h6
  exact List.map_eq_nil_iff.1 h6
theorem mapE_one {l : List PEx} {a : PEx} (h : [pkE a] = l.map pkE) : ∃ x, l = [x] ∧ pkE x = pkE a := by
  cases l with
  | nil => simp at h
  | cons x l =>
    cases l with
    | nil =>
      simp only [List.map_cons, List.map_nil, List.cons.injEq, and_true] at h
      exact ⟨x, rfl, h.symm⟩
    | cons y r => simp at h
/- An element of a row of expressions, its arguments as they lie. -/
theorem node_of {w : World} {A : Nat → Prop} {v : Value} {l : List PEx} {j : Nat} {x : PEx} (h : XsR w A v l) (hj : l[j]? = some x) (hi : x.int = 0) (ht : x.text.length ≤ 100) (hn : x.name.length ≤ 100) (hs : x.names = []) :
    ∃ (g off cap : Nat) (aa : Option Addr) (ac : Nat) (xs : List PEx), v = .slice (some ⟨g, off, none⟩) l.length cap ∧ l.length ≤ cap ∧ g < w.heap.size ∧ XsR w A (.slice aa xs.length ac) xs ∧ x.args = xs.map pkE ∧
      ∀ (m : Nat) (kids : List (Lx.ET m)), kids.length = xs.length → kids.length ≤ 1000000 → Lx.LiesAt 8 aa (Lx.eAt m) kids → (∀ u ∈ kids, Lx.ERd m w u) →
        ∃ u : Lx.EH, Lx.ERd (m + 1) w (u, kids) ∧ u.b = g ∧ u.o = off + j * 8 ∧ u.kind = x.kind ∧ u.op = x.op ∧ u.int = 0 ∧ u.text = bs x.text ∧ u.name = bs x.name ∧ u.names = [] ∧ u.nn = 0 ∧ u.an = kids.length ∧ ∀ i, i < 8 → w.cell? ⟨g, off + j * 8 + i, none⟩ = u.cs[i]? := by
  obtain ⟨g, off, cap, nv, av, xs, rfl, hc, hg, hA, hN, ⟨hX, hx⟩, hcell⟩ := h.at hj
  obtain ⟨aa, ac, rfl, hac⟩ := hX.slice
  rw [hs] at hN
  obtain ⟨na, nc, rfl, _, _⟩ := hN.1.rd
  refine ⟨g, off, cap, aa, ac, xs, rfl, hc, hg, hX, hx, fun m kids hl hl2 hL hE => ?_⟩
  refine ⟨{ b := g, o := off + j * 8, kind := x.kind, op := x.op, int := x.int, text := bs x.text, name := bs x.name, na := na, nn := 0, nc := nc, aa := aa, an := xs.length, ac := ac, pos := x.pos, names := [] }, ⟨?_, hl.symm, hL, hE⟩, rfl, rfl, rfl, rfl, hi, rfl, rfl, rfl, rfl, hl.symm, ?_⟩
  · have c0 := hcell 0 (by omega)
    have c1 := hcell 1 (by omega)
    have c2 := hcell 2 (by omega)
    have c3 := hcell 3 (by omega)
    have c4 := hcell 4 (by omega)
    have c5 := hcell 5 (by omega)
    have c6 := hcell 6 (by omega)
    have c7 := hcell 7 (by omega)
    have tl : (bs x.text).size ≤ 9223372036854775807 := by rw [show (bs x.text).size = x.text.length from List.size_toArray]; omega
    have nl : (bs x.name).size ≤ 9223372036854775807 := by rw [show (bs x.name).size = x.name.length from List.size_toArray]; omega
    exact ⟨c0, c1, c2, c3, c4, c5, c6, c7, by show _ ≤ x.int; omega, by show x.int ≤ _; omega, tl, nl, rfl, Nat.zero_le _, fun s hs => by simp at hs, fun i s e => by simp at e, by show xs.length ≤ _; omega⟩
  · intro i hi'
    rw [hcell i hi']
    simp only [Lx.EH.cs, eC, List.getElem?_toArray]
    rfl
def LeafB (q : UInt8) (h : Lx.EH) : Prop := h.kind = 4 ∧ h.op = 0 ∧ h.int = 0 ∧ h.text = Lx.emp ∧ h.name = ⟨#[q]⟩ ∧ h.names = [] ∧ h.nn = 0 ∧ h.an = 0
theorem leaf_of {w : World} {A : Nat → Prop} {v : Value} {l : List PEx} {j : Nat} {x : PEx} {q : UInt8} {p : Int} (h : XsR w A v l) (hj : l[j]? = some x) (hx : pkE x = pkE (nmX q p)) (m : Nat) :
    ∃ (g off cap : Nat) (u : Lx.EH), v = .slice (some ⟨g, off, none⟩) l.length cap ∧ Lx.ERd (m + 1) w ((u, []) : Lx.EH × List (Lx.ET m)) ∧ u.b = g ∧ u.o = off + j * 8 ∧ LeafB q u := by
  obtain ⟨e1, e2, e3, e4, e5, e6, e7⟩ := pkE_eq hx
  obtain ⟨g, off, cap, aa, ac, xs, hv, _, _, hX, hargs, K⟩ := node_of h hj (by rw [e3]; rfl) (by rw [e4]; show (0 : Nat) ≤ 100; omega) (by rw [e5]; show (1 : Nat) ≤ 100; omega) (pkE_names hx rfl)
  have hxs : xs = [] := by
    have : xs.map pkE = [] := by rw [← hargs, e6]; rfl
    exact List.map_eq_nil_iff.1 this
  subst hxs
  obtain ⟨u, h1, h2, h3, h4, h5, h6, h7, h8, h9, h10, h11, _⟩ := K m [] rfl (Nat.zero_le _) (fun i t e => by simp at e) (fun u hu => by simp at hu)
  exact ⟨g, off, cap, u, hv, h1, h2, h3, h4.trans e1, h5.trans e2, h6, by rw [h7, e4]; rfl, by rw [h8, e5]; rfl, h9, h10, h11⟩
/- One with two arguments, which are had by K. -/
end Go.Proofs.YtcnohgifihbkdaaGreatDoor

namespace Go.Proofs.YtcnohgifihbkdaaGreatDoor.Lx
open Go.RowKit Go.Deep
set_option linter.unusedVariables false
set_option linter.unusedSimpArgs false
def kX (h : EH) : Prop := h.kind = 4 ∨ h.kind = 5 ∨ h.kind = 9 ∨ h.kind = 11
theorem isRightE_X (w : World) (h : EH) (d : EHr w h) (hm : MX w) (hk : kX h) : Calls Tryz.prog 127 #[.pointer (some ⟨h.b, h.o, none⟩)] w fun e w' => e = .returned (.bool (rightE h)) ∧ Below w.heap.size w w' := by
  rcases hk with hk | hk | hk | hk
  · exact isRightE_4 w h d hm hk
  · exact isRightE_5 w h d hm hk
  · exact isRightE_9 w h d hm hk
  · exact isRightE_11 w h d hm hk
def PartK : Part → Prop
  | .inl (.inl _) => True
  | .inl (.inr h) => h.sort = wOn
  | .inr (.inl h) => h.kind = 13
  | .inr (.inr h) => kX h
section
attribute [local go_sem] as58_58 as105_58 as101_58 as67_58 as58_105 as105_105 as101_105 as67_105 as58_101 as105_101 as101_101 as67_101 as58_67 as105_67 as101_67 as67_67
set_option maxRecDepth 100000 in
set_option maxHeartbeats 1000000 in
theorem isRightK_any (w : World) (p : Part) (d : PRds w p) (hs : PartK p) (hm : MX w) : Calls Tryz.prog 95 #[labP p] w fun e w' => e = .returned (.bool (rightP p)) ∧ Below w.heap.size w w' := by
  rcases p with (h | h) | (h | h)
  · have K := hid (isRightT_any w h d)
    simp only [labP, rightP]
    generalize rightT h = r at *
    clear d hs hm
    go_enter Tryz.func95, Tryz.ntmps95
    go_wp2_with (go_at_call 124; (refine (Hid.out K).mono ?_; rintro e w1 ⟨rfl, hb⟩))
    go_ret
    exact ⟨rfl, hb⟩
  · have hb0 := (Below.refl w.heap.size w).alloc (Nat.le_refl _) (.cells #[.string h.sort, .pointer (some ⟨h.b, h.o, none⟩)] 159)
    have K := hid (isRightD_On (w.alloc (.cells #[.string h.sort, .pointer (some ⟨h.b, h.o, none⟩)] 159)) h (DHr.below d (Nat.le_refl _) hb0) (hm.below hm.lt hb0) hs)
    have HB := hid hb0
    simp only [labP, rightP]
    generalize rightD h = r at *
    clear d hs hm hb0
    go_enter Tryz.func95, Tryz.ntmps95
    go_wp2_with (go_at_call 125; (refine (Hid.out K).mono ?_; rintro e w1 ⟨rfl, hb⟩; have HB1 := hid (HB.out.trans (hb.mono HB.out.size)); clear hb))
    go_ret
    exact ⟨rfl, HB1.out⟩
  · have K := hid (isRightS_13 w h d hm hs)
    simp only [labP, rightP]
    generalize rightS h = r at *
    clear d hs hm
    go_enter Tryz.func95, Tryz.ntmps95
    go_wp2_with (go_at_call 126; (refine (Hid.out K).mono ?_; rintro e w1 ⟨rfl, hb⟩))
    go_ret
    exact ⟨rfl, hb⟩
  · have K := hid (isRightE_X w h d hm hs)
    simp only [labP, rightP]
    generalize rightE h = r at *
    clear d hs hm
    go_enter Tryz.func95, Tryz.ntmps95
    go_wp2_with (go_at_call 127; (refine (Hid.out K).mono ?_; rintro e w1 ⟨rfl, hb⟩))
    go_ret
    exact ⟨rfl, hb⟩
end
def okX (k : Nat) (t : ET k) : Prop := ∀ p ∈ ptE k t, ∃ h, p = .inr (.inr h) ∧ rightE h = true ∧ kX h
theorem exprK_all : ∀ k, PrSaid k (prE k) (dpE k) (okX k)
  | 0 => fun w0 t => Empty.elim t
  | k + 1 => by
    have ih := exprK_all k
    intro w0 t B b l op mo w hrd hok hE h0 hb hB hp hl ho hm hmo
    obtain ⟨h, ts⟩ := t
    obtain ⟨dh, hn, dl, hr⟩ := hrd
    simp only at dh hn dl hr
    obtain ⟨h', e, hR, hk⟩ := hok (.inr (.inr h)) (List.mem_cons_self ..)
    cases e
    have hok' : ∀ u ∈ ts, okX k u := fun u hu p hp => hok p (List.mem_cons_of_mem _ (List.mem_flatMap.2 ⟨u, hu, hp⟩))
    rcases hk with hk | hk | hk | hk
    · exact expr_4 k _ _ _ ih w0 h ts hk dh hn dl hr hok' hR B b l op mo w hE h0 hb hB hp hl ho hm hmo
    · exact expr_5 k _ _ _ ih w0 h ts hk dh hn dl hr hok' hR B b l op mo w hE h0 hb hB hp hl ho hm hmo
    · exact expr_9 k _ _ _ ih w0 h ts hk dh hn dl hr hok' hR B b l op mo w hE h0 hb hB hp hl ho hm hmo
    · exact expr_11 k _ _ _ ih w0 h ts hk dh hn dl hr hok' hR B b l op mo w hE h0 hb hB hp hl ho hm hmo
section
set_option maxRecDepth 100000 in
set_option maxHeartbeats 1000000 in
theorem simple_13X (k : Nat) (w0 : World) (h : SH) (ts : List (ET k)) (hk : h.kind = 13) (dh : SHr w0 h) (hn : h.an = ts.length) (dl : LiesAt 8 h.aa (eAt k) ts) (hr : ∀ u ∈ ts, ERd k w0 u) (hok : ∀ u ∈ ts, okX k u) (hR : rightS h = true) (B b : Nat) (l : List UInt8) (op mo : Nat) (w : World) (hE : EnvT w0) (h0 : w0.heap.size ≤ B) (hb : Below w0.heap.size w0 w) (hB : B ≤ w.heap.size) (hp : Prn w B b l op mo)
    (hl : l.length + (smB h (ts.map (prE k))).length ≤ 900000000) (ho : op + smD h (ts.map (dpE k)) ≤ 900000000) (hm : mo ≤ 900000000) (hmo : op ≤ mo) :
    Calls Tryz.prog 212 #[.pointer (some ⟨b, 0, none⟩), .pointer (some ⟨h.b, h.o, none⟩)] w (PrP w B b (l ++ smB h (ts.map (prE k))) op (max mo (op + smD h (ts.map (dpE k))))) := by
  have hO := okS_of hR
  unfold okS at hO
  have dw := dh.below (Nat.le_refl _) hb
  have c0 := dw.c0
  have ih := exprK_all k
  simp only [hk] at hO
  simp at hO
  obtain ⟨t, rfl⟩ := one_of hn (by omega)
  have e1 : smB h ([t].map (prE k)) = catL [sDo] ++ prE k t := by unfold smB; simp [hk, h1]
  have e2 : smD h ([t].map (dpE k)) = dpE k t := by unfold smD; simp [hk, h1]
  rw [e1] at hl ⊢
  rw [e2] at ho ⊢
  rw [List.length_append] at hl
  have hanI : h.an = 1 := by omega
  obtain ⟨ab, aoff, eaa, hat⟩ := dl 0 t rfl
  simp only [eAt, Prod.mk.injEq] at hat
  have c1 := dw.c1
  have K1 := hid (write_new w B b l op mo hp [sDo] 1 rfl (by omega) hB (by omega))
  simp only [List.map_cons, List.map_nil, sDo] at K1
  have K2 := hid (fun (w1 : World) (h1 : Below B w w1) (hp1 : Prn w1 B b (l ++ catL [sDo]) op mo) => ih w0 t B b _ op mo w1 (hr t (by simp)) (hok t (by simp)) hE h0 (hb.trans (h1.mono h0)) (Nat.le_trans hB h1.size) hp1 (by rw [List.length_append]; omega) ho hm hmo)
  simp only [hat.1, hat.2, sDo] at K2
  have C4 := hid (fun (w1 : World) (h1 : Below B w w1) => (dh.below (Nat.le_refl _) (hb.trans (h1.mono h0))).c4)
  rw [eaa, hanI] at C4
  clear ih dh hn dl hr hok hR hE h0 hb hp hl ho hm dw hO e1 e2 eaa hat hanI hmo
  go_enter Tryz.func212, Tryz.ntmps212
  go_wp2_with (first
    | (go_at_call 129; (refine (Hid.out K1).mono ?_; rintro e w1 ⟨rfl, hp1, hk1⟩; have d4 := C4.out w1 hk1.1; have K2' := hid (K2.out w1 hk1.1 hp1); have HK1 := hid hk1; clear hp1 hk1))
    | (go_at_call 97; (refine (Hid.out K2').mono ?_; rintro e w2 ⟨rfl, hp2, hk2⟩)))
  go_end0
  exact ⟨rfl, hp2.eq (by simp [sDo]) rfl, HK1.out.trans hk2⟩

end
section
set_option maxRecDepth 100000 in
set_option maxHeartbeats 1000000 in
theorem stmt_13X (k : Nat) (pr : ST k → List UInt8) (dp : ST k → Nat) (w0 : World) (h : SH) (ts : List (ET k)) (bt et : List (ST k)) (hk : h.kind = 13) (dh : SHr w0 h) (hn : h.an = ts.length) (hnb : h.bn = bt.length) (hne : h.en = et.length) (dl : LiesAt 8 h.aa (eAt k) ts) (dlb : LiesAt 8 h.ba (sAt k) bt) (dle : LiesAt 8 h.ea (sAt k) et) (hr : ∀ u ∈ ts, ERd k w0 u) (hrb : ∀ u ∈ bt, SRds k w0 u) (hre : ∀ u ∈ et, SRds k w0 u) (hok : ∀ u ∈ ts, okX k u) (hR : rightS h = true) (B b : Nat) (l : List UInt8) (op mo : Nat) (w : World) (hE : EnvT w0) (h0 : w0.heap.size ≤ B) (hb : Below w0.heap.size w0 w) (hB : B ≤ w.heap.size) (hp : Prn w B b l op mo)
    (hl : l.length + (stB h (ts.map (prE k)) (bt.map pr) (et.map pr)).length ≤ 900000000) (ho : op + stD h (ts.map (dpE k)) (bt.map dp) (et.map dp) ≤ 900000000) (hm : mo ≤ 900000000) (hmo : op ≤ mo) :
    Calls Tryz.prog 191 #[.pointer (some ⟨b, 0, none⟩), .pointer (some ⟨h.b, h.o, none⟩)] w (PrP w B b (l ++ stB h (ts.map (prE k)) (bt.map pr) (et.map pr)) op (max mo (op + stD h (ts.map (dpE k)) (bt.map dp) (et.map dp)))) := by
  have hO := okS_of hR
  unfold okS at hO
  have dw := dh.below (Nat.le_refl _) hb
  have c0 := dw.c0
  have e1 : stB h (ts.map (prE k)) (bt.map pr) (et.map pr) = smB h (ts.map (prE k)) ++ [59] := by unfold stB; rw [if_neg (by omega), if_neg (by omega), if_neg (by omega)]
  have e2 : stD h (ts.map (dpE k)) (bt.map dp) (et.map dp) = smD h (ts.map (dpE k)) := by unfold stD; rw [if_neg (by omega), if_neg (by omega), if_neg (by omega)]
  rw [e1] at hl ⊢
  rw [e2] at ho ⊢
  simp only [List.length_append, List.length_cons, List.length_nil] at hl
  have K1 := hid (simple_13X k w0 h ts hk dh hn dl hr hok hR B b l op mo w hE h0 hb hB hp (by omega) ho hm hmo)
  have ec : catL [⟨#[59]⟩] = [59] := by simp [catL]
  have K2 := hid (fun (w1 : World) (h1 : Below B w w1) (hp1 : Prn w1 B b (l ++ smB h (ts.map (prE k))) op (max mo (op + smD h (ts.map (dpE k))))) => write_new w1 B b _ op _ hp1 [⟨#[59]⟩] 1 rfl (by omega) (Nat.le_trans hB h1.size) (by rw [ec]; simp only [List.length_append, List.length_cons, List.length_nil]; omega))
  simp only [ec, List.map_cons, List.map_nil] at K2
  have n5 : ¬ h.kind = 5 := by omega
  have n6 : ¬ h.kind = 6 := by omega
  have n7 : ¬ h.kind = 7 := by omega
  clear hk
  clear dh hn dl hr hok hR hE h0 hb hp hl ho hm dw hO e1 e2 ec hmo hnb hne dlb dle hrb hre
  go_enter Tryz.func191, Tryz.ntmps191
  go_wp2_with (first
    | (go_at_call 212; (refine (Hid.out K1).mono ?_; rintro e w1 ⟨rfl, hp1, hk1⟩; have K2' := hid (K2.out w1 hk1.1 hp1); have HK1 := hid hk1; clear hp1 hk1))
    | (go_at_call 129; (refine (Hid.out K2').mono ?_; rintro e w2 ⟨rfl, hp2, hk2⟩)))
  go_end0
  exact ⟨rfl, hp2.eq (by simp) rfl, HK1.out.trans hk2⟩

end
def okSX : (k : Nat) → ST k → Prop
  | 0, _ => False
  | k + 1, t => rightS t.1 = true ∧ t.1.kind = 13 ∧ ∀ u ∈ t.2.1, okX k u
theorem stmtX_all : ∀ k, StSaid k (prS k) (dpS k) (okSX k)
  | 0 => fun w0 t => Empty.elim t
  | k + 1 => by
    intro w0 t B b l op mo w hrd hok hE h0 hb hB hp hl ho hm hmo
    obtain ⟨h, ts, bt, et⟩ := t
    obtain ⟨dh, ⟨hn, hnb, hne⟩, ⟨dl, dlb, dle⟩, hr, hrb, hre⟩ := hrd
    obtain ⟨hR, hk, hoka⟩ := hok
    simp only at dh hn hnb hne dl dlb dle hr hrb hre hR hk hoka
    exact stmt_13X k _ _ w0 h ts bt et hk dh hn hnb hne dl dlb dle hr hrb hre hoka hR B b l op mo w hE h0 hb hB hp hl ho hm hmo
def okDX (k : Nat) (t : DT k) : Prop := t.1.sort = wOn ∧ t.1.result.toList = [] ∧ ∀ v ∈ t.2, okSX k v
section
set_option maxRecDepth 100000 in
set_option maxHeartbeats 1000000 in
theorem declsX (k : Nat) (w0 : World) (s : ByteArray) (aa : Option Addr) (an ac : Nat) (ts : List (DT k)) (han : an ≤ 1000000) (dd : DLs k w0 s aa an ts) (hok : ∀ t ∈ ts, okDX k t) (B b : Nat) (l : List UInt8) (op mo : Nat) (w : World) (hE : EnvT w0) (h0 : w0.heap.size ≤ B) (hb : Below w0.heap.size w0 w) (hB : B ≤ w.heap.size) (hp : Prn w B b l op mo)
    (hl : l.length + (lnB (ts.map (prD k))).length ≤ 900000000) (ho : op + mxL (ts.map (dpD k)) ≤ 900000000) (hm : mo ≤ 900000000) (hmo : op ≤ mo) :
    Calls Tryz.prog 96 #[.pointer (some ⟨b, 0, none⟩), .string s, .slice aa an ac] w (PrP w B b (l ++ lnB (ts.map (prD k))) op (max mo (op + mxL (ts.map (dpD k))))) := by
  have hanI : (an : Int) ≤ 1000000 := by omega
  have K1 := hid (fun (i : Nat) (t : DT k) (ht : ts[i]? = some t) (w1 : World) (h1 : Below B w w1) (hp1 : Prn w1 B b (l ++ lnB ((ts.take i).map (prD k))) op (max mo (op + mxL ((ts.take i).map (dpD k))))) => by
    have d := dd.e t (List.mem_of_getElem? ht)
    have ho3 := hok t (List.mem_of_getElem? ht)
    have es := dd.s t (List.mem_of_getElem? ht)
    have hq := decl_OnN k (prS k) (dpS k) (okSX k) (stmtX_all k) w0 t.1 t.2 ho3.1 ho3.2.1 d.h d.n d.l d.e ho3.2.2 B b _ op _ w1 hE h0 (hb.trans (h1.mono h0)) (Nat.le_trans hB h1.size) hp1 (by
      have h2 := ln_pre (prD k) ts (i + 1)
      rw [ln_take (prD k) ht] at h2
      simp only [List.length_append, List.length_cons, List.length_nil, prD] at h2 hl ⊢
      omega) (by
      have h2 := mx_pre (dpD k) ts (i + 1)
      rw [mx_take (dpD k) ht] at h2
      simp only [dpD] at h2 ho ⊢
      omega) (by
      have h2 := mx_pre (dpD k) ts i
      omega) (by omega)
    rw [← ho3.1, es] at hq
    exact hq)
  have hc2 : catL [⟨#[10]⟩] = [10] := by simp [catL]
  have K2 := hid (fun (i : Nat) (t : DT k) (ht : ts[i]? = some t) (w1 : World) (h1 : Below B w w1) (mo1 : Nat) (hp1 : Prn w1 B b (l ++ lnB ((ts.take i).map (prD k)) ++ prD k t) op mo1) => write_new w1 B b _ op mo1 hp1 [⟨#[10]⟩] 1 rfl (by omega) (Nat.le_trans hB h1.size) (by
    have h2 := ln_pre (prD k) ts (i + 1)
    rw [ln_take (prD k) ht] at h2
    rw [hc2]
    simp only [List.length_append, List.length_cons, List.length_nil] at h2 ⊢
    omega))
  simp only [hc2, List.map_cons, List.map_nil] at K2
  have HM0 : Hid (max mo (op + 0) = mo) := hid (by omega)
  have HN := hid dd.n
  have DL := hid dd.l
  have HP := hid hp
  clear hok hE h0 hb hp hl ho hm hc2 dd hmo
  go_enter Tryz.func96, Tryz.ntmps96
  go_wp2
  go_loopg [9] an (fun g x wr => ∃ i : Nat, i + g = an ∧ x = .int .i64 (i : Int) ∧ Prn wr B b (l ++ lnB ((ts.take i).map (prD k))) op (max mo (op + mxL ((ts.take i).map (dpD k)))) ∧ Kpt B b w wr)
  case atStart => exact ⟨0, by omega, rfl, HP.out.eq (by simp [lnB]) (by have := HM0.out; simpa [mxL] using this.symm), Kpt.refl _ _ _⟩
  case round =>
    obtain ⟨i, hi, rfl, hp2, hk2⟩ := hrel
    cases gk with
    | zero =>
      have hin : i = an := by omega
      subst hin
      rw [HN.out, List.take_of_length_le (Nat.le_refl _)] at hp2
      have HP2 := hid hp2
      have HK2 := hid hk2
      clear hi hp2 hk2
      go_wp2
      go_end0
      exact ⟨rfl, HP2.out, HK2.out⟩
    | succ g =>
      have hil : (i : Int) < (an : Int) := by omega
      have hi0 : (0 : Int) ≤ (i : Int) := by omega
      obtain ⟨t, ht⟩ : ∃ t, ts[i]? = some t := ⟨ts[i]'(by rw [← HN.out]; omega), List.getElem?_eq_getElem _⟩
      obtain ⟨ab, aoff, eaa, hat⟩ := DL.out i t ht
      subst eaa
      simp only [dAt, Prod.mk.injEq] at hat
      have K1' := hid (K1.out i t ht wr hk2.1 hp2)
      simp only [hat.1, hat.2] at K1'
      have K2' := hid (K2.out i t ht)
      have HJ := hid (ln_take (prD k) ht)
      have HM := hid (mx_take (dpD k) ht)
      have HK2 := hid hk2
      have Hi := hid hi
      clear hp2 hk2 hat ht hi
      go_wp2_with (first
        | (go_at_call 128; (refine (Hid.out K1').mono ?_; rintro e w2 ⟨rfl, hp3, hk3⟩; have HK3 := hid (HK2.out.trans hk3); have K4 := hid (K2'.out w2 HK3.out.1 _ hp3); clear hp3 hk3))
        | (go_at_call 129; (refine (Hid.out K4).mono ?_; rintro e w3 ⟨rfl, hp4, hk4⟩)))
      go_roundg g
      case measure => omega
      case rel => exact ⟨i + 1, by have := Hi.out; omega, by go_num, hp4.eq (by rw [HJ.out]; simp [prD]) (by rw [HM.out]; simp only [dpD]; omega), HK3.out.trans hk4⟩
end
section
attribute [local go_sem] as58_58 as105_58 as101_58 as67_58 as58_105 as105_105 as101_105 as67_105 as58_101 as105_101 as101_101 as67_101 as58_67 as105_67 as101_67 as67_67
attribute [local go_sem] Oper.semAt_some
structure okTX (k : Nat) (t : TT k) : Prop where
  rs : ∀ u ∈ t.rs, okDX k u
  ms : ∀ u ∈ t.ms, okDX k u
  fs : ∀ u ∈ t.fs, okDX k u
  es : ∀ u ∈ t.es, okDX k u
set_option maxRecDepth 100000 in
set_option maxHeartbeats 1000000 in
theorem wholeTreeX (k : Nat) (w0 : World) (t : TT k) (dt : TRds k w0 t) (hok : okTX k t) (B b : Nat) (l : List UInt8) (op mo : Nat) (w : World) (hE : EnvT w0) (h0 : w0.heap.size ≤ B) (hb : Below w0.heap.size w0 w) (hB : B ≤ w.heap.size) (hp : Prn w B b l op mo)
    (hl : l.length + (prT k t).length ≤ 900000000) (ho : op + dpT k t ≤ 900000000) (hm : mo ≤ 900000000) (hmo : op ≤ mo) :
    Calls Tryz.prog 62 #[.pointer (some ⟨b, 0, none⟩), .iface 83 (.pointer (some ⟨t.h.b, t.h.o, none⟩))] w (PrP w B b (l ++ prT k t) op (max mo (op + dpT k t))) := by
  unfold prT at hl ⊢
  unfold dpT at ho ⊢
  simp only [List.length_append] at hl
  have K1 := hid (fun (w1 : World) (h1 : Below B w w1) (hp1 : Prn w1 B b (l) op (mo)) => declsX k w0 wRec t.h.ra t.h.rn t.h.rc t.rs dt.h.rb dt.rs hok.rs B b _ op _ w1 hE h0 (hb.trans (h1.mono h0)) (Nat.le_trans hB h1.size) hp1 (by (try simp only [List.length_append]); omega) (by omega) (by omega) (by omega))
  simp only [wRec] at K1
  have C0 := hid (fun (w1 : World) (h1 : Below B w w1) => (dt.h.below (Nat.le_refl _) (hb.trans (h1.mono h0))).c0)
  have K2 := hid (fun (w1 : World) (h1 : Below B w w1) (hp1 : Prn w1 B b (l ++ lnB (t.rs.map (prD k))) op (max (mo) (op + mxL (t.rs.map (dpD k))))) => declsX k w0 wMap t.h.ma t.h.mn t.h.mc t.ms dt.h.mb dt.ms hok.ms B b _ op _ w1 hE h0 (hb.trans (h1.mono h0)) (Nat.le_trans hB h1.size) hp1 (by (try simp only [List.length_append]); omega) (by omega) (by omega) (by omega))
  simp only [wMap] at K2
  have C1 := hid (fun (w1 : World) (h1 : Below B w w1) => (dt.h.below (Nat.le_refl _) (hb.trans (h1.mono h0))).c1)
  have K3 := hid (fun (w1 : World) (h1 : Below B w w1) (hp1 : Prn w1 B b (l ++ lnB (t.rs.map (prD k)) ++ lnB (t.ms.map (prD k))) op (max (max (mo) (op + mxL (t.rs.map (dpD k)))) (op + mxL (t.ms.map (dpD k))))) => declsX k w0 wFn t.h.fa t.h.fn t.h.fc t.fs dt.h.fb dt.fs hok.fs B b _ op _ w1 hE h0 (hb.trans (h1.mono h0)) (Nat.le_trans hB h1.size) hp1 (by (try simp only [List.length_append]); omega) (by omega) (by omega) (by omega))
  simp only [wFn] at K3
  have C2 := hid (fun (w1 : World) (h1 : Below B w w1) => (dt.h.below (Nat.le_refl _) (hb.trans (h1.mono h0))).c2)
  have K4 := hid (fun (w1 : World) (h1 : Below B w w1) (hp1 : Prn w1 B b (l ++ lnB (t.rs.map (prD k)) ++ lnB (t.ms.map (prD k)) ++ lnB (t.fs.map (prD k))) op (max (max (max (mo) (op + mxL (t.rs.map (dpD k)))) (op + mxL (t.ms.map (dpD k)))) (op + mxL (t.fs.map (dpD k))))) => declsX k w0 wOn t.h.ea t.h.en t.h.ec t.es dt.h.eb dt.es hok.es B b _ op _ w1 hE h0 (hb.trans (h1.mono h0)) (Nat.le_trans hB h1.size) hp1 (by (try simp only [List.length_append]); omega) (by omega) (by omega) (by omega))
  simp only [wOn] at K4
  have C3 := hid (fun (w1 : World) (h1 : Below B w w1) => (dt.h.below (Nat.le_refl _) (hb.trans (h1.mono h0))).c3)
  have HF : Hid (max (max (max (max (mo) (op + mxL (t.rs.map (dpD k)))) (op + mxL (t.ms.map (dpD k)))) (op + mxL (t.fs.map (dpD k)))) (op + mxL (t.es.map (dpD k))) = max mo (op + max (max (max (mxL (t.rs.map (dpD k))) (mxL (t.ms.map (dpD k)))) (mxL (t.fs.map (dpD k)))) (mxL (t.es.map (dpD k))))) := hid (by omega)
  have c0 := C0.out w (Below.refl _ _)
  have K1' := hid (K1.out w (Below.refl _ _) hp)
  clear dt hok hE h0 hb hB hp hl ho hm hmo
  go_enter Tryz.func62, Tryz.ntmps62
  go_wp2_with (first
    | (go_at_call 96; (have hno := K4'; refine (Hid.out K4').mono ?_; rintro e w4 ⟨rfl, hp4, hk4⟩))
    | (go_at_call 96; (have hno := K3'; refine (Hid.out K3').mono ?_; rintro e w3 ⟨rfl, hp3, hk3⟩; have HK3 := hid (HK2.out.trans hk3); have c3 := C3.out w3 HK3.out.1; have K4' := hid (K4.out w3 HK3.out.1 hp3); clear hp3 hk3 K3'))
    | (go_at_call 96; (have hno := K2'; refine (Hid.out K2').mono ?_; rintro e w2 ⟨rfl, hp2, hk2⟩; have HK2 := hid (HK1.out.trans hk2); have c2 := C2.out w2 HK2.out.1; have K3' := hid (K3.out w2 HK2.out.1 hp2); clear hp2 hk2 K2'))
    | (go_at_call 96; (refine (Hid.out K1').mono ?_; rintro e w1 ⟨rfl, hp1, hk1⟩; have HK1 := hid hk1; have c1 := C1.out w1 hk1.1; have K2' := hid (K2.out w1 hk1.1 hp1); clear hp1 hk1 K1')))
  go_end0
  exact ⟨rfl, hp4.eq (by simp) HF.out, HK3.out.trans hk4⟩
end
attribute [local go_sem] Oper.semAt_some
theorem PRds.belowP {w w' : World} {B : Nat} (hB : w.heap.size ≤ B) (h : Below B w w') : ∀ {p : Part}, PRds w p → PRds w' p
  | .inl (.inl _), d => THr.below d hB h
  | .inl (.inr _), d => DHr.below d hB h
  | .inr (.inl _), d => SHr.below d hB h
  | .inr (.inr _), d => EHr.below d hB h
set_option maxRecDepth 100000 in
set_option maxHeartbeats 1000000 in
theorem depthX (k : Nat) (w : World) (t : TT k) (d : TVs k w t) (hok : okTX k t) (hpk : ∀ p ∈ inT t, PartK p) (hall : okT t = true) (hE : EnvT w) (hl : (prT k t).length ≤ 900000000) (ho : dpT k t ≤ 900000000) :
    Calls Tryz.prog 12 #[.agg t.h.cs] w fun e w' => e = .returned (.int .i64 (dpT k t : Nat)) ∧ Below w.heap.size w w' := by
  obtain ⟨W, hW⟩ : ∃ W, W = w.alloc (.cells t.h.cs 25) := ⟨_, rfl⟩
  have hbw : Below w.heap.size w W := by rw [hW]; exact (Below.refl _ w).alloc (Nat.le_refl _) _
  have hb : W.heap[w.heap.size]? = some (.cells t.h.cs 25 (0, 0)) := by rw [hW]; exact heap_alloc_new _ _
  have dW := d.below (Nat.le_refl _) hbw
  have dB := dW.box hb
  have K1 := hid (printedX_of W (.inl (.inl (t.atB w.heap.size).h)) (ptT (t.atB w.heap.size)) (fun w1 h1 => whole_tree (dB.below (Nat.le_refl _) h1)) (fun p hp w1 h1 => isRightK_any w1 p (PRds.belowP (Nat.le_refl _) h1 (ptT_rd dB p hp)) (by rw [ptT_at] at hp; exact (List.mem_cons.1 hp).elim (fun e => by rw [e]; trivial) (fun e => hpk p e)) ((hE.below hbw).mx.below (hE.below hbw).mx.lt h1)) ((okT_at t _).trans hall) (hE.below hbw) (prT k t) (dpT k t) (fun w1 h1 hs hp => (wholeTreeX k W (t.atB w.heap.size) dB ⟨hok.rs, hok.ms, hok.fs, hok.es⟩ W.heap.size W.heap.size [] 0 0 w1 (hE.below hbw) (Nat.le_refl _) h1 hs hp (by show 0 + (prT k t).length ≤ _; omega) (by show 0 + dpT k t ≤ _; omega) (by omega) (by omega)).mono (fun e w' h' => ⟨h'.1, h'.2.1.eq rfl (show max 0 (0 + dpT k t) = dpT k t by omega), h'.2.2⟩)))
  have HW := hid hbw
  simp only [TT.atB, labP] at K1
  simp only [TH.cs] at hW ⊢
  generalize dpT k t = D at *
  clear d hok hpk hall hE hl ho hbw hb dW dB
  go_enter Tryz.func12, Tryz.ntmps12
  go_wp2_with (go_at_call 35; (rw [← hW]; refine (Hid.out K1).mono ?_; rintro e w1 ⟨rfl, hp1, hb1⟩; obtain ⟨_, p, v, _, hbx, _⟩ := hp1; have c3 := cellT hbx 3; simp only [List.getElem?_toArray, List.getElem?_cons_zero, List.getElem?_cons_succ] at c3; have HB := hid hb1; clear hb1 hW hbx))
  go_ret
  exact ⟨rfl, HW.out.trans (HB.out.mono HW.out.size)⟩
end Go.Proofs.YtcnohgifihbkdaaGreatDoor.Lx

namespace Go.Proofs.YtcnohgifihbkdaaGreatDoor
open Go Go.RowKit Go.Deep Go.Shelf
set_option linter.unusedVariables false
set_option linter.unusedSimpArgs false
set_option maxRecDepth 100000
def OneB (kd op : Int) (nm : ByteArray) (h : Lx.EH) : Prop := h.kind = kd ∧ h.op = op ∧ h.int = 0 ∧ h.text = Lx.emp ∧ h.name = nm ∧ h.names = [] ∧ h.nn = 0 ∧ h.an = 1
/- One with one argument, which is had by K. -/
theorem oneB_of {w : World} {A : Nat → Prop} {v : Value} {l : List PEx} {j : Nat} {x a : PEx} {kd op : Int} {nm : Bsq} {p : Int} {m : Nat} {P : Lx.ET m → Prop} (h : XsR w A v l) (hj : l[j]? = some x) (hnm : nm.length ≤ 100) (hx : pkE x = pkE ⟨kd, op, 0, [], nm, [], [pkE a], p⟩)
    (K : ∀ (v' : Value) (xa : PEx), XsR w A v' [xa] → pkE xa = pkE a → ∃ (g off cap : Nat) (ua : Lx.ET m), v' = .slice (some ⟨g, off, none⟩) 1 cap ∧ Lx.ERd m w ua ∧ Lx.eAt m ua = (g, off) ∧ P ua) :
    ∃ (g off cap : Nat) (u : Lx.EH) (ua : Lx.ET m), v = .slice (some ⟨g, off, none⟩) l.length cap ∧ l.length ≤ cap ∧ g < w.heap.size ∧ Lx.ERd (m + 1) w ((u, [ua]) : Lx.EH × List (Lx.ET m)) ∧ u.b = g ∧ u.o = off + j * 8 ∧ OneB kd op (bs nm) u ∧ P ua := by
  obtain ⟨e1, e2, e3, e4, e5, e6, e7⟩ := pkE_eq hx
  obtain ⟨g, off, cap, aa, ac, xs, hv, hle, hg, hX, hargs, KN⟩ := node_of h hj (by rw [e3]) (by rw [e4]; show (0 : Nat) ≤ 100; omega) (by rw [e5]; exact hnm) (pkE_names hx rfl)
  obtain ⟨xa, rfl, ha⟩ := mapE_one (show [pkE a] = xs.map pkE by rw [← hargs, e6])
  obtain ⟨g2, off2, cap2, ua, hv2, d1, l1, hP⟩ := K _ xa hX ha
  have haa : aa = some ⟨g2, off2, none⟩ := by
    simp only [Value.slice.injEq] at hv2
    exact hv2.1
  obtain ⟨u, h1, h2, h3, h4, h5, h6, h7, h8, h9, h10, h11, hc⟩ := KN m [ua] rfl (by show (1 : Nat) ≤ 1000000; omega) (fun i t e => by
    refine ⟨g2, off2, haa, ?_⟩
    match i, e with
    | 0, e => simp at e; subst e; rw [l1]; simp
    | i + 1, e => simp at e) (fun t ht => by
    simp only [List.mem_cons, List.not_mem_nil, or_false] at ht
    subst ht
    exact d1)
  exact ⟨g, off, cap, u, ua, hv, hle, hg, h1, h2, h3, ⟨h4.trans e1, h5.trans e2, h6, by rw [h7, e4]; rfl, by rw [h8, e5], h9, h10, h11⟩, hP⟩
/- What is asked of a nest of so many. -/
def NestB (n m : Nat) (u : Lx.ET (m + 1)) : Prop := Lx.okX (m + 1) u ∧ Lx.dpE (m + 1) u ≤ 2 * n ∧ (Lx.prE (m + 1) u).length ≤ 4 * n + 1
theorem argB_len (h a : Lx.EH) (p : List UInt8) : (Lx.argB h a p).length ≤ p.length + 2 := by
  unfold Lx.argB
  split
  · simp
  · omega
theorem argD_le (h a : Lx.EH) (d : Nat) : Lx.argD h a d ≤ 1 + d := by
  unfold Lx.argD; split <;> omega
theorem nest_leaf {m : Nat} {u : Lx.EH} (l : LeafB 97 u) : NestB 0 m ((u, []) : Lx.EH × List (Lx.ET m)) := by
  obtain ⟨h1, h2, h3, h4, h5, h6, h7, h8⟩ := l
  refine ⟨fun p hp => ?_, ?_, ?_⟩
  · rcases List.mem_cons.1 hp with rfl | hp
    · have hq : Lx.smallB ⟨#[97]⟩ = true := by kernel_rfl
      refine ⟨u, rfl, ?_, .inl h1⟩
      simp [Lx.rightE, Lx.okE, Lx.alikeE, Lx.meantE, h1, h2, h3, h4, h5, h6, h7, h8, hq]
    · simp at hp
  · show Lx.dpH u _ _ ≤ 0
    simp [Lx.dpH, h1]
  · show (Lx.prH u _ _).length ≤ 1
    simp [Lx.prH, h1, h5, Lx.bs]
theorem nest_one {n m : Nat} {u : Lx.EH} {ua : Lx.ET (m + 1)} {kd op : Int} {nm : ByteArray} (hk : (kd = 5 ∧ op = 18 ∧ nm = ⟨#[]⟩) ∨ (kd = 11 ∧ op = 0 ∧ nm = ⟨#[102]⟩) ∨ (kd = 9 ∧ op = 0 ∧ nm = ⟨#[109]⟩)) (l : OneB kd op nm u) (ha : NestB n m ua) : NestB (n + 1) (m + 1) ((u, [ua]) : Lx.EH × List (Lx.ET (m + 1))) := by
  obtain ⟨h1, h2, h3, h4, h5, h6, h7, h8⟩ := l
  obtain ⟨q1, q2, q3⟩ := ha
  have hf : Lx.smallB ⟨#[102]⟩ = true := by kernel_rfl
  have hm : Lx.smallB ⟨#[109]⟩ = true := by kernel_rfl
  have r1 := argD_le u ua.1 (Lx.dpE (m + 1) ua)
  have r2 := argB_len u ua.1 (Lx.prE (m + 1) ua)
  have he : (⟨#[]⟩ : ByteArray) = Lx.emp := rfl
  refine ⟨fun p hp => ?_, ?_, ?_⟩
  · rcases List.mem_cons.1 hp with rfl | hp
    · refine ⟨u, rfl, ?_, by unfold Lx.kX; rcases hk with ⟨rfl, _⟩ | ⟨rfl, _⟩ | ⟨rfl, _⟩ <;> simp [h1]⟩
      rcases hk with ⟨rfl, rfl, rfl⟩ | ⟨rfl, rfl, rfl⟩ | ⟨rfl, rfl, rfl⟩ <;> simp [Lx.rightE, Lx.okE, Lx.alikeE, Lx.meantE, h1, h2, h3, h4, h5, h6, h7, h8, hf, hm, he]
    · have : p ∈ Lx.ptE (m + 1) ua := by simpa using hp
      exact q1 p this
  · show Lx.dpH u [ua.1] [Lx.dpE (m + 1) ua] ≤ 2 * (n + 1)
    rcases hk with ⟨rfl, rfl, rfl⟩ | ⟨rfl, rfl, rfl⟩ | ⟨rfl, rfl, rfl⟩
    · simp [Lx.dpH, h1, h2, Lx.on1, Lx.unD]; omega
    · simp [Lx.dpH, h1, Lx.mxL]; omega
    · simp [Lx.dpH, h1, Lx.on1]; omega
  · show (Lx.prH u [ua.1] [Lx.prE (m + 1) ua]).length ≤ 4 * (n + 1) + 1
    rcases hk with ⟨rfl, rfl, rfl⟩ | ⟨rfl, rfl, rfl⟩ | ⟨rfl, rfl, rfl⟩
    · simp [Lx.prH, h1, h2, Lx.on1, Lx.unB]; omega
    · simp [Lx.prH, h1, h5, Lx.jn, Lx.commaB, Lx.bs]; omega
    · simp [Lx.prH, h1, h5, Lx.on1, Lx.bs]; omega
theorem NestB.le {n n' m : Nat} {u : Lx.ET (m + 1)} (h : NestB n m u) (hn : n ≤ n') : NestB n' m u := ⟨h.1, by have := h.2.1; omega, by have := h.2.2; omega⟩
theorem nest_of {w : World} {A : Nat → Prop} : ∀ (ks : List Nat) (m p : Nat) (v : Value) (x : PEx), ks.length ≤ m → XsR w A v [x] → pkE x = pkE (eD ks p) → ∃ (g off cap : Nat) (u : Lx.ET (m + 1)), v = .slice (some ⟨g, off, none⟩) 1 cap ∧ Lx.ERd (m + 1) w u ∧ Lx.eAt (m + 1) u = (g, off) ∧ NestB ks.length m u
  | [], m, p, v, x, hm, h, hx => by
    obtain ⟨g, off, cap, u, hv, d, b, o, L⟩ := leaf_of h (j := 0) rfl (hx.trans (show pkE (eD [] p) = pkE (nmX 97 (p : Int)) from rfl)) m
    exact ⟨g, off, cap, (u, []), hv, d, Prod.ext b (o.trans (by omega)), nest_leaf L⟩
  | k :: ks, 0, p, v, x, hm, h, hx => by simp at hm
  | 0 :: ks, m + 1, p, v, x, hm, h, hx => by
    obtain ⟨g, off, cap, u, hv, d, e, N⟩ := nest_of ks (m + 1) (p + 1) v x (by simp at hm; omega) h hx
    exact ⟨g, off, cap, u, hv, d, e, N.le (by simp)⟩
  | 1 :: ks, m + 1, p, v, x, hm, h, hx => by
    obtain ⟨g, off, cap, u, ua, hv, _, _, d, b, o, L, N⟩ := oneB_of (m := m + 1) (P := NestB ks.length m) h (j := 0) rfl (nm := []) (by show (0 : Nat) ≤ 100; omega) (hx.trans (show pkE (eD (1 :: ks) p) = pkE ⟨5, 18, 0, [], [], [], [pkE (eD ks (p + 2))], (p : Int)⟩ from rfl)) (fun v' xa hX ha => nest_of ks m (p + 2) v' xa (by simp at hm; omega) hX ha)
    exact ⟨g, off, cap, (u, [ua]), hv, d, Prod.ext b (o.trans (by omega)), nest_one (.inl ⟨rfl, rfl, rfl⟩) L N⟩
  | 2 :: ks, m + 1, p, v, x, hm, h, hx => by
    obtain ⟨g, off, cap, u, ua, hv, _, _, d, b, o, L, N⟩ := oneB_of (m := m + 1) (P := NestB ks.length m) h (j := 0) rfl (nm := [102]) (by show (1 : Nat) ≤ 100; omega) (hx.trans (show pkE (eD (2 :: ks) p) = pkE ⟨11, 0, 0, [], [102], [], [pkE (eD ks (p + 2))], (p : Int)⟩ from rfl)) (fun v' xa hX ha => nest_of ks m (p + 2) v' xa (by simp at hm; omega) hX ha)
    exact ⟨g, off, cap, (u, [ua]), hv, d, Prod.ext b (o.trans (by omega)), nest_one (.inr (.inl ⟨rfl, rfl, rfl⟩)) L N⟩
  | (k + 3) :: ks, m + 1, p, v, x, hm, h, hx => by
    obtain ⟨g, off, cap, u, ua, hv, _, _, d, b, o, L, N⟩ := oneB_of (m := m + 1) (P := NestB ks.length m) h (j := 0) rfl (nm := [109]) (by show (1 : Nat) ≤ 100; omega) (hx.trans (show pkE (eD ((k + 3) :: ks) p) = pkE ⟨9, 0, 0, [], [109], [], [pkE (eD ks (p + 2))], (p : Int)⟩ from rfl)) (fun v' xa hX ha => nest_of ks m (p + 2) v' xa (by simp at hm; omega) hX ha)
    exact ⟨g, off, cap, (u, [ua]), hv, d, Prod.ext b (o.trans (by omega)), nest_one (.inr (.inr ⟨rfl, rfl, rfl⟩)) L N⟩
end Go.Proofs.YtcnohgifihbkdaaGreatDoor

