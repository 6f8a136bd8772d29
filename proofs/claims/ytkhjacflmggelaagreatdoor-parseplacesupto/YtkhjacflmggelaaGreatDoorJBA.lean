/-
  ParsePlaces returns true for every row of gaps, and the row reads behind the call as it read before.
  Its conditions: the library's tables and its two errors hold at the call what the program's text lays there; the row and those variables are together of bulk at most 1048576.
-/
import Derived.Test.YtkhjacflmggelaaGreatDoorJAZ
import Derived.Test.YtkhjacflmggelaaGreatDoorTie
import Derived.Test.YtkhjacflmggelaaGreatDoorCards
import Derived.LaidSub
import Derived.LaidLaws
import Derived.LaidHandle
import Derived.Stop.LaidErr
import Derived.Shelf.Vars
import Derived.Lib.LaidTab
import Derived.Handed
import Derived.HandedShaped
import Derived.ChangeSame
import Derived.ChangeAt
import Derived.ChangeVars
import Derived.JoinedOf
import Derived.RowKit
import Derived.RowKitTokens
import Derived.SevenTiedAt
import Derived.ProofKit
import Derived.OpenShut
import Derived.ChangeOld
import Derived.ChangeMaps5
import GoSem.PinnedTables
import Derived.Deep.DeepHandedRow
import Derived.Deep.Slices
import Derived.Carry
namespace Go.Proofs.YtkhjacflmggelaaGreatDoor
open Go Go.RowKit Go.Deep Go.Shelf
set_option linter.unusedVariables false
set_option linter.unusedSimpArgs false
set_option maxRecDepth 100000
def dsP (gs : List Nat) (i : Nat) : List Int := (List.range i).map fun j => (dpP gs j : Int)
def ssP (gs : List Nat) (i : Nat) : List Int := (List.range i).map fun j => (spP gs j : Int)
theorem dsP_succ (gs : List Nat) (i : Nat) : dsP gs (i + 1) = dsP gs i ++ [(dpP gs i : Int)] := by unfold dsP; rw [List.range_succ, List.map_append]; rfl
theorem ssP_succ (gs : List Nat) (i : Nat) : ssP gs (i + 1) = ssP gs i ++ [(spP gs i : Int)] := by unfold ssP; rw [List.range_succ, List.map_append]; rfl
theorem dsP_len (gs : List Nat) (i : Nat) : (dsP gs i).length = i := by unfold dsP; rw [List.length_map, List.length_range]
theorem ssP_len (gs : List Nat) (i : Nat) : (ssP gs i).length = i := by unfold ssP; rw [List.length_map, List.length_range]
/- What a slice of bytes reads. -/
def GRd (w : World) (a : Option Addr) (gs : List Nat) : Prop := ∀ (j g : Nat), gs[j]? = some g → g ≤ 255 ∧ ∃ b off, a = some ⟨b, off, none⟩ ∧ b < w.heap.size ∧ w.cell? ⟨b, off + j, none⟩ = some (.int .u8 (g : Int))
theorem GRd.below {w w' : World} {a : Option Addr} {gs : List Nat} (h : GRd w a gs) (k : Below w.heap.size w w') : GRd w' a gs := fun j g e => by
  obtain ⟨h1, b, off, rfl, h2, h3⟩ := h j g e
  exact ⟨h1, b, off, rfl, by have := k.size; omega, cell_keep k h2 h3⟩
theorem blk_cell {w : World} {z : Nat} (HB : Box z #[.string ⟨#[32]⟩, .string ⟨#[10]⟩, .string ⟨#[32, 35, 32, 110, 111, 116, 101, 10]⟩, .string ⟨#[32, 32, 32]⟩] 35 w) (g : Nat) : w.cell? ⟨z, g % 4, none⟩ = some (.string (bs (blP g))) := by
  unfold blP
  have h : g % 4 = 0 ∨ g % 4 = 1 ∨ g % 4 = 2 ∨ g % 4 = 3 := by omega
  rcases h with h | h | h | h <;> rw [h] <;> exact HB.cell rfl
theorem bgrowr {w W W' : World} {B : Nat} {row : Option Nat} (h : Below B w W) (hB : B ≤ W.heap.size) (k : W.grownBy W' row) (hr : ∀ r, row = some r → B ≤ r) : Below B w W' := h.trans ⟨k.os, k.tape, k.output, k.size, fun j hj => k.block j (by omega) (fun e => by have := hr j e.symm; omega)⟩
def EvAt (w : World) (a3 : Option Addr) (n k3 : Nat) (gs : List Nat) (j : Nat) : Prop := ∃ (g off g2 off2 cap2 : Nat), a3 = some ⟨g, off, none⟩ ∧ n ≤ k3 ∧ g < w.heap.size ∧ w.cell? ⟨g, off + j * 7 + 6, none⟩ = some (.int .i64 (dpP gs j : Int)) ∧ w.cell? ⟨g, off + j * 7 + 5, none⟩ = some (.slice (some ⟨g2, off2, none⟩) 1 cap2) ∧ 1 ≤ cap2 ∧ g2 < w.heap.size ∧ w.cell? ⟨g2, off2 + 7, none⟩ = some (.int .i64 (spP gs j : Int))
theorem call_pl (w : World) (gs : List Nat) (n : Nat) (hn : gs.length = n) (h : n ≤ 16) (hm : Lx.MX w) (hG : Gl w) : Calls Tryz.prog 10 #[.string (bs (pfP gs n))] w fun e w' => ∃ (a0 a1 a2 a3 : Option Addr) (n0 n1 n2 k0 k1 k2 k3 : Nat), e = .returned (.tuple #[.agg #[.slice a0 n0 k0, .slice a1 n1 k1, .slice a2 n2 k2, .slice a3 n k3], .int .i64 0, .int .i64 0]) ∧ (∀ j, j < n → EvAt w' a3 n k3 gs j) ∧ Below w.heap.size w w' := by
  subst hn
  have hlen := pf_le gs gs.length (Nat.le_refl _) h
  have hp : parseT (pfP gs gs.length) = .ok ⟨[], [], [], evP 0 0 gs⟩ := by rw [pf_all]; exact parse_places gs h
  generalize pfP gs gs.length = l at hlen hp
  refine (parse_any w _ (by show l.toArray.size ≤ _; rw [List.size_toArray]; omega) hm hG).mono ?_
  intro e w' h'
  rw [show parseT (bs l).data.toList = _ from hp] at h'
  obtain ⟨v, rfl, ⟨v0, v1, v2, v3, rfl, L0, L1, L2, L3⟩, hb⟩ := h'
  obtain ⟨a0, k0, rfl⟩ := L0.form
  obtain ⟨a1, k1, rfl⟩ := L1.form
  obtain ⟨a2, k2, rfl⟩ := L2.form
  obtain ⟨a3, k3, rfl⟩ := L3.form
  have L3 : Lst 53 7 LD w' (fun g => w.heap.size ≤ g ∧ g < w'.heap.size) (.slice a3 (evP 0 0 gs).length k3) (evP 0 0 gs) := L3
  refine ⟨a0, a1, a2, a3, _, _, _, k0, k1, k2, k3, by rw [← ev_len gs 0 0], fun j hj => ?_, hb⟩
  obtain ⟨g, off, cap, r, he, hc, hg, hA, ⟨pv, bv, b, rfl, hpm, hs, hbd⟩, hcell⟩ := L3.at (ev_at gs j hj)
  cases he
  have h5 := hcell 5 (by omega)
  have h6 := hcell 6 (by omega)
  obtain ⟨g2, off2, cap2, av, bv', ev, xs, b', e', hv, hc2, hg2, _, _, _, hcl⟩ := body_one hs hbd
  have h7 := hcl 7 (by omega)
  subst hv
  exact ⟨g, off, g2, off2, cap2, rfl, by rw [← ev_len gs 0 0]; exact hc, hg, h6, h5, hc2, hg2, h7⟩
theorem lst_cell {w : World} {A : Nat → Prop} {a : Option Addr} {n c : Nat} {l : List Int} (h : Lst 3 1 LI w A (.slice a n c) l) {j : Nat} {x : Int} (hj : l[j]? = some x) : ∃ (g off : Nat), a = some ⟨g, off, none⟩ ∧ n ≤ c ∧ g < w.heap.size ∧ w.cell? ⟨g, off + j, none⟩ = some (.int .i64 x) := by
  obtain ⟨g, off, cap, r, he, hc, hg, hA, hr, hcell⟩ := h.at hj
  cases he
  have h0 := hcell 0 (by omega)
  rw [Nat.mul_one, Nat.add_zero] at h0
  exact ⟨g, off, rfl, hc, hg, by rw [h0, show r = [.int .i64 x] from hr]; rfl⟩
theorem dsP_get (gs : List Nat) (n j : Nat) (h : j < n) : (dsP gs n)[j]? = some (dpP gs j : Int) := by
  unfold dsP
  rw [List.getElem?_map, List.getElem?_range h]
  rfl
theorem ssP_get (gs : List Nat) (n j : Nat) (h : j < n) : (ssP gs n)[j]? = some (spP gs j : Int) := by
  unfold ssP
  rw [List.getElem?_map, List.getElem?_range h]
  rfl
set_option maxHeartbeats 4000000 in
theorem places_loop (w : World) (a : Option Addr) (n c : Nat) (gs : List Nat) (hn : gs.length = n) (h30 : n ≤ 30) (hR : GRd w a gs) (hm : Lx.MX w) (hG : Gl w) : Calls Tryz.prog 8 #[.slice a n c] w fun e w' => e = .returned (.bool true) ∧ Below w.heap.size w w' := by
  have t0 := True.intro
  have H1 := hid hm
  have H2 := hid hG
  have g1 : ¬ ((30 : Int) < (n : Int)) := by omega
  have hn30 : (n : Int) ≤ 30 := by omega
  obtain ⟨N, hN⟩ : ∃ N, N = min n 16 := ⟨_, rfl⟩
  have hN16 : N ≤ 16 := by omega
  have hNn : N ≤ n := by omega
  obtain ⟨gg, hgg⟩ : ∃ gg, gg = gs.take N := ⟨_, rfl⟩
  have hgl : gg.length = N := by rw [hgg, List.length_take]; omega
  have HN := hid hN
  have HGG := hid hgg
  have HGL := hid hgl
  have HR := hid hR
  clear hN hgg hgl hR
  go_enter Tryz.func8, Tryz.ntmps8
  go_wp2_with ((have hno := t0; (go_at_call 9; (refine (known_any _ hm hG).mono ?_; rintro e w1 ⟨rfl, hb⟩; have hz1 := hid hb.size; have hb1 := hid hb; have t1 := True.intro; clear hb))))
  have bx : Box w1.heap.size #[.string ⟨#[32]⟩, .string ⟨#[10]⟩, .string ⟨#[32, 35, 32, 110, 111, 116, 101, 10]⟩, .string ⟨#[32, 32, 32]⟩] 35 (w1.alloc (.cells #[.string ⟨#[32]⟩, .string ⟨#[10]⟩, .string ⟨#[32, 35, 32, 110, 111, 116, 101, 10]⟩, .string ⟨#[32, 32, 32]⟩] 35)) := Box.new _ _ _
  have bw : Below w.heap.size w (w1.alloc (.cells #[.string ⟨#[32]⟩, .string ⟨#[10]⟩, .string ⟨#[32, 35, 32, 110, 111, 116, 101, 10]⟩, .string ⟨#[32, 32, 32]⟩] 35)) := hb1.out.alloc hz1.out _
  have hsz : (w1.alloc (.cells #[.string ⟨#[32]⟩, .string ⟨#[10]⟩, .string ⟨#[32, 35, 32, 110, 111, 116, 101, 10]⟩, .string ⟨#[32, 32, 32]⟩] 35)).heap.size = w1.heap.size + 1 := World.size_alloc _ _
  generalize (w1.alloc (.cells #[.string ⟨#[32]⟩, .string ⟨#[10]⟩, .string ⟨#[32, 35, 32, 110, 111, 116, 101, 10]⟩, .string ⟨#[32, 32, 32]⟩] 35)) = W at bx bw hsz ⊢
  have hzz : w.heap.size ≤ w1.heap.size := hz1.out
  generalize w1.heap.size = z at bx hsz hzz ⊢
  have hs0 : (Value.string ⟨#[]⟩) = .string (bs (pfP gg 0)) := rfl
  rw [hs0]
  have t2 := True.intro
  have hsz := hid hsz
  go_loopg [4, 5, 6, 7] N (fun g vs vd vt vi wr => ∃ (i : Nat) (A1 A2 : Nat → Prop), i + g = N ∧ vs = .string (bs (pfP gg i)) ∧ vi = .int .i64 (i : Int) ∧ Lst 3 1 LI wr A1 vd (dsP gg i) ∧ Lst 3 1 LI wr A2 vt (ssP gg i) ∧ (∀ g, A1 g → z < g ∧ g < wr.heap.size) ∧ (∀ g, A2 g → z < g ∧ g < wr.heap.size) ∧ (∀ g, A1 g → ¬ A2 g) ∧ Box z #[.string ⟨#[32]⟩, .string ⟨#[10]⟩, .string ⟨#[32, 35, 32, 110, 111, 116, 101, 10]⟩, .string ⟨#[32, 32, 32]⟩] 35 wr ∧ Below w.heap.size w wr)
  case atStart => exact ⟨0, fun _ => False, fun _ => False, by omega, rfl, rfl, Lst.nil _ _ _ _ _, Lst.nil _ _ _ _ _, fun g h => h.elim, fun g h => h.elim, fun g h => h.elim, bx, bw⟩
  case round =>
    obtain ⟨i, A1, A2, hig, rfl, rfl, HD, HS, hA1, hA2, hAA, HB, hbr⟩ := hrel
    cases gk with
    | succ gk =>
      have hiN : i < N := by omega
      have hin : i < gs.length := by omega
      have hgi : gs[i]? = some (gs[i]'hin) := List.getElem?_eq_getElem hin
      obtain ⟨g255, b, off, rfl, hbW, hcell0⟩ := HR.out i _ hgi
      have hcell := cell_keep hbr hbW hcell0
      have hbw : b < wr.heap.size := by have := hbr.size; omega
      clear hcell0
      generalize hg : gs[i]'hin = g at hgi g255 hcell
      have hgd : gg.getD i 0 = g := by
        rw [HGG.out, List.getD_eq_getElem?_getD, List.getElem?_take_of_lt hiN, hgi]
        rfl
      have q1 : (i : Int) < (n : Int) := by omega
      have q2 : (i : Int) < 16 := by omega
      have hw : IntKind.i64.wrap ((i : Int) + 1) = (i : Int) + 1 := wrap_small _ (by omega) (by omega)
      have r4 : g % 4 < 4 := Nat.mod_lt _ (by decide)
      have hr1 : ((g : Nat) : Int).tmod 4 = ((g % 4 : Nat) : Int) := by rw [Int.tmod_eq_emod_of_nonneg (by omega)]; omega
      have hr2 : ((g : Nat) : Int).tdiv 4 = ((g / 4 : Nat) : Int) := by rw [Int.tdiv_eq_ediv_of_nonneg (by omega)]; omega
      have hr3 : ((g / 4 : Nat) : Int).tmod 4 = ((g / 4 % 4 : Nat) : Int) := by rw [Int.tmod_eq_emod_of_nonneg (by omega)]; omega
      have r44 : g / 4 % 4 < 4 := Nat.mod_lt _ (by decide)
      have hbl : wr.cell? ⟨z, g % 4, none⟩ = some (.string (bs (blP g))) := blk_cell HB g
      have hpl : (pfP gg i).length ≤ 640 := pf_le gg i (by rw [HGL.out]; omega) (by rw [HGL.out]; omega)
      have hb8 := bl_len g
      have ha1 : ∀ V : World, (Op.stringOp .add (bs (pfP gg i)) (bs (blP g))).run Tryz.prog V = .ok (.string (bs (pfP gg i ++ blP g))) V := fun V => add_run _ _ (by omega) V
      have hd1 : dpP gg i = (pfP gg i ++ blP g).length := by rw [dp_is gg i (by rw [HGL.out]; exact hiN), hgd]
      have hl1 := bs_size (pfP gg i ++ blP g)
      have hl1b : ((pfP gg i ++ blP g).length : Int) ≤ 1000 := by rw [List.length_append]; omega
      clear hl1
      have hi16 : (i : Int) ≤ 16 := by omega
      obtain ⟨ad, cd, rfl⟩ := HD.form
      obtain ⟨at2, ct2, rfl⟩ := HS.form
      rw [dsP_len] at HD ⊢
      rw [ssP_len] at HS ⊢
      have HHD := hid HD
      have HHS := hid HS
      have HA1 := hid hA1
      have HA2 := hid hA2
      have HHAA := hid hAA
      have HHB := hid HB
      have Hbr := hid hbr
      have Hd1 := hid hd1
      have Hd1' : (dpP gg i : Int) = ((pfP gg i ++ blP g).length : Int) := by rw [hd1]
      have hzw := hid (show w.heap.size ≤ wr.heap.size from hbr.size)
      have hbz := hid (show b < w.heap.size from hbW)
      have hzz := hid hzz
      have t3 := True.intro
      clear HD HS hA1 hA2 hAA hd1
      generalize hL1 : pfP gg i ++ blP g = L1 at ha1 hl1b Hd1'
      have HL1 := hid hL1
      clear hL1
      go_wp2_with (first
        | (have hno := t3; (at_builtin; refine wpList_appI _ wr (L1.length : Int) _ rfl rfl rfl _ _ rfl rfl _ _ (by rfl) (by rfl) (by rfl) A1 _ HHD.out (fun g h => (HA1.out g h).2) (by rw [dsP_len]; omega) ?_; intro v2 w2 k1 k2 k3; rw [← Hd1', ← dsP_succ] at k1; obtain ⟨ad2, cd2, rfl⟩ := k1.form; rw [dsP_len] at k1 ⊢; have hz2 := k2.size; rw [World.size_alloc] at hz2; have hrow : ∀ r, (Value.slice ad i cd).ownBlock = some r → z < r ∧ r < wr.heap.size ∧ A1 r := (fun r e => ⟨(HA1.out r (lst_own HHD.out r e)).1, (HA1.out r (lst_own HHD.out r e)).2, lst_own HHD.out r e⟩); have Hbr2 := hid (bgrowr (Hbr.out.alloc (Nat.le_trans hzw.out (Nat.le_refl _)) (.cells #[.int .i64 (L1.length : Int)] 3)) (by rw [World.size_alloc]; have := hzw.out; omega) k2 (fun r e => by have := (hrow r e).1; have := hzz.out; omega)); have hgb := Below.refl 0 w2; have HB2 := hid ((HHB.out.alloc (.cells #[.int .i64 (L1.length : Int)] 3)).row k2 (fun e => by have := (hrow z e).1; omega)); have HS2 := hid (HHS.out.mv LI_mv (w' := w2) (B := A2) (fun g hg => (k2.block g (by rw [World.size_alloc]; have := (HA2.out g hg).2; omega) (fun e => HHAA.out g (hrow g e.symm).2.2 hg)).trans (((Below.refl wr.heap.size wr).alloc (Nat.le_refl _) _).block g (HA2.out g hg).2)) (fun g h => h)); have c2 := hid (show w2.cell? ⟨b, off + i, none⟩ = some (.int .u8 (g : Int)) from (World.cell?_of_block (k2.block b (by rw [World.size_alloc]; omega) (fun e => by have := (hrow b e.symm).1; have := hbz.out; omega))).trans (cell_alloc hbw hcell _)); have k1 := hid k1; have hz2 := hid hz2; have t4 := True.intro; clear k2 k3 hrow hgb))
        )
      have c2p := c2.out
      have cbp := blk_cell HB2.out (g / 4)
      obtain ⟨q, hq⟩ : ∃ q, q = g / 4 := ⟨_, rfl⟩
      obtain ⟨r, hr⟩ : ∃ r, r = g / 4 % 4 := ⟨_, rfl⟩
      have hrl : r < 4 := by omega
      have hrl2 : (r : Int) < 4 := by omega
      have hrl0 : (0 : Int) ≤ (r : Int) := by omega
      rw [← hr] at hr3 cbp
      rw [← hq] at hr2 hr3
      have hwq : IntKind.u8.wrap (q : Int) = (q : Int) := by simp [IntKind.wrap, IntKind.signed, IntKind.bits]; omega
      have hwr : IntKind.u8.wrap (r : Int) = (r : Int) := by simp [IntKind.wrap, IntKind.signed, IntKind.bits]; omega
      have Hq := hid hq
      have Hr := hid hr
      clear hq hr r44
      obtain ⟨di, hdi⟩ : ∃ di, di = dgP i := ⟨_, rfl⟩
      have hdl : di.length ≤ 2 := by rw [hdi]; exact dg_len i
      have hb4 := bl_len (g / 4)
      have hl1c : L1.length ≤ 1000 := by omega
      obtain ⟨L2, e2⟩ : ∃ L2, L2 = L1 ++ [111, 110, 32, 101] := ⟨_, rfl⟩
      obtain ⟨L3, e3⟩ : ∃ L3, L3 = L2 ++ di := ⟨_, rfl⟩
      obtain ⟨L4, e4⟩ : ∃ L4, L4 = L3 ++ [40, 41, 32, 123] := ⟨_, rfl⟩
      obtain ⟨B4, eb4⟩ : ∃ B4, B4 = blP (g / 4) := ⟨_, rfl⟩
      rw [← eb4] at cbp hb4
      obtain ⟨L5, e5⟩ : ∃ L5, L5 = L4 ++ B4 := ⟨_, rfl⟩
      obtain ⟨L6, e6⟩ : ∃ L6, L6 = L5 ++ tlP := ⟨_, rfl⟩
      have l2 : L2.length ≤ 1004 := by rw [e2, List.length_append]; simp; omega
      have l3 : L3.length ≤ 1006 := by rw [e3, List.length_append]; omega
      have l4 : L4.length ≤ 1010 := by rw [e4, List.length_append]; simp; omega
      have l5 : L5.length ≤ 1018 := by rw [e5, List.length_append]; omega
      have s2 : ∀ V : World, (Op.stringOp .add (bs L1) ⟨#[111, 110, 32, 101]⟩).run Tryz.prog V = .ok (.string (bs L2)) V := fun V => by rw [e2]; exact add_run L1 [111, 110, 32, 101] (by simp; omega) V
      have s3 : ∀ V : World, (Op.stringOp .add (bs L2) (bs di)).run Tryz.prog V = .ok (.string (bs L3)) V := fun V => by rw [e3]; exact add_run L2 di (by omega) V
      have s4 : ∀ V : World, (Op.stringOp .add (bs L3) ⟨#[40, 41, 32, 123]⟩).run Tryz.prog V = .ok (.string (bs L4)) V := fun V => by rw [e4]; exact add_run L3 [40, 41, 32, 123] (by simp; omega) V
      have s5 : ∀ V : World, (Op.stringOp .add (bs L4) (bs B4)).run Tryz.prog V = .ok (.string (bs L5)) V := fun V => by rw [e5]; exact add_run L4 B4 (by omega) V
      have s6 : ∀ V : World, (Op.stringOp .add (bs L5) ⟨#[98, 114, 101, 97, 107, 59, 32, 125]⟩).run Tryz.prog V = .ok (.string (bs L6)) V := fun V => by rw [e6]; exact add_run L5 tlP (by simp [tlP]; omega) V
      have eL5 : L5 = pfP gg i ++ (blP g ++ (hdP i ++ blP (g / 4))) := by
        rw [e5, e4, e3, e2, ← HL1.out, eb4, hdi]
        unfold hdP
        simp only [List.append_assoc]
      have eL6 : L6 = pfP gg (i + 1) := by
        rw [e6, eL5]
        show _ = pfP gg i ++ (blP (gg.getD i 0) ++ (hdP i ++ (blP (gg.getD i 0 / 4) ++ tlP)))
        rw [hgd]
        simp only [List.append_assoc]
      have Hs5 : (spP gg i : Int) = (L5.length : Int) := by
        rw [sp_is gg i (by rw [HGL.out]; exact hiN), hgd, eL5]
      have EL6 := hid eL6
      clear eL5 eL6
      have E2 := hid e2
      have E3 := hid e3
      have E4 := hid e4
      have E5 := hid e5
      have E6 := hid e6
      have hdi' : Lib.itoa (i : Int) = di := by rw [hdi]; exact dg_itoa i (by omega)
      have Edi := hid hdi
      have EB4 := hid eb4
      have hbl5 := bs_size L5
      have hl5i : (L5.length : Int) ≤ 1018 := by omega
      have hzl := hid HB2.out.lt
      have hbl2 := hid (show b < w2.heap.size by have := hz2.out; omega)
      clear e2 e3 e4 e5 e6 hdi eb4 hbl hcell ha1
      go_region_held3 (fun V => V.cell? ⟨b, off + i, none⟩ = some (.int .u8 (g : Int)) ∧ V.cell? ⟨z, r, none⟩ = some (.string (bs B4))) (first | exact ⟨c2p, cbp⟩ | exact ⟨c3p, cb3⟩ | go_keep) ((first
        | (have hno := t4; (go_at_call 15; (refine (digits_any (i : Int) (by omega) (by omega) _).mono ?_; rintro e w3 ⟨rfl, hb3⟩; rw [hdi']; have c3p := cell_keep hb3 hbl2.out c2p; have cb3 := cell_keep hb3 hzl.out cbp; have hb3 := hid hb3; have t5 := True.intro)))))
      have hz3 := hid hb3.out.size
      have hz23 := hz2.out
      have hz33 : w2.heap.size ≤ w3.heap.size := hb3.out.size
      have HA23 : Hid (∀ g, A2 g → g < w3.heap.size) := hid (fun g h => by have := (HA2.out g h).2; omega)
      have HS3 := hid (HS2.out.mv LI_mv (w' := w3) (B := A2) (fun g hg => hb3.out.block g (show g < w2.heap.size by have := (HA2.out g hg).2; omega)) (fun g h => h))
      go_wp2_with (first
        | (have hno := t5; (at_builtin; refine wpList_appI _ w3 (L5.length : Int) _ rfl rfl rfl _ _ rfl rfl _ _ (by rfl) (by rfl) (by rfl) A2 _ HS3.out HA23.out (by rw [ssP_len]; omega) ?_; intro v4 w4 m1 m2 m3; rw [← Hs5, ← ssP_succ] at m1; have t6 := True.intro))
        )
      go_roundg gk
      case measure => omega
      have hm4 : w3.heap.size + 1 ≤ w4.heap.size := by have := m2.size; rwa [World.size_alloc] at this
      have hz20 : wr.heap.size + 1 ≤ w2.heap.size := hz23
      have hz33' : w2.heap.size ≤ w3.heap.size := hz33
      have hzw' := hzw.out
      have hzr : z < wr.heap.size := HHB.out.lt
      have hzl' := hzl.out
      have kk : ∀ g, g < w2.heap.size → ¬ A2 g → w4.heap[g]? = w2.heap[g]? := fun g hg hA =>
        (m2.block g (by rw [World.size_alloc]; omega) (fun e => hA (lst_own HS3.out g e.symm))).trans ((((Below.refl w3.heap.size w3).alloc (Nat.le_refl _) _).block g (by omega)).trans (hb3.out.block g hg))
      have hA1x := HA1.out
      have hA2x := HA2.out
      have hAAx := HHAA.out
      have nA : ∀ g, wr.heap.size ≤ g → ¬ A2 g := fun g h q => by have := (hA2x g q).2; omega
      refine ⟨i + 1, _, _, by omega, by rw [EL6.out], by push_cast; rfl, k1.out.mv LI_mv (w' := w4) (B := fun g => (A1 g ∨ g = wr.heap.size) ∨ (wr.heap.size + 1 ≤ g ∧ g < w2.heap.size)) (fun g hg => ?_) (fun g h => h), m1, ?_, ?_, ?_, ?_, ?_⟩
      · rcases hg with (hg | hg) | hg
        · exact kk g (by have := (hA1x g hg).2; omega) (hAAx g hg)
        · exact kk g (by omega) (nA g (by omega))
        · exact kk g hg.2 (nA g (by omega))
      · rintro g ((hg | hg) | hg)
        · have := hA1x g hg
          exact ⟨this.1, by omega⟩
        · exact ⟨by omega, by omega⟩
        · exact ⟨by omega, by omega⟩
      · rintro g ((hg | hg) | hg)
        · have := hA2x g hg
          exact ⟨this.1, by omega⟩
        · exact ⟨by omega, by omega⟩
        · exact ⟨by omega, by omega⟩
      · rintro g ((hg | hg) | hg) ((hq | hq) | hq)
        · exact hAAx g hg hq
        · have := (hA1x g hg).2
          omega
        · have := (hA1x g hg).2
          omega
        · exact nA g (by omega) hq
        · omega
        · omega
        · exact nA g (by omega) hq
        · omega
        · omega
      · exact (kk z hzl' (fun h => Nat.lt_irrefl _ (hA2x z h).1)).trans HB2.out
      · exact bgrowr ((Hbr2.out.drew.trans (hb3.out.mono (show w.heap.size ≤ w2.heap.size by omega))).alloc (by omega) _) (by rw [World.size_alloc]; omega) m2 (fun r e => by have := (hA2x r (lst_own HS3.out r e)).1; have := hzz.out; omega)
    | zero =>
      have hi : N = i := by omega
      subst hi
      have hi16 : (N : Int) ≤ 16 := by omega
      obtain ⟨ad, cd, rfl⟩ := HD.form
      obtain ⟨at2, ct2, rfl⟩ := HS.form
      rw [dsP_len] at HD ⊢
      rw [ssP_len] at HS ⊢
      have HHD := hid HD
      have HHS := hid HS
      have hbrw := hid hbr
      have HC := hid (call_pl wr gg N HGL.out hN16 (mx_below H1.out hbr) (gl_below H2.out hbr))
      generalize pfP gg N = F at HC ⊢
      clear HD HS hA1 hA2 hAA HB hbr
      by_cases h16 : n ≤ 16
      · have q1 : ¬ ((N : Int) < (n : Int)) := by have := HN.out; omega
        go_wp2_with ((have hno := t2; (go_at_call 10; (refine HC.out.mono ?_; rintro e w2 ⟨a0, a1, a2, a3, n0, n1, n2, k0, k1, k2, k3, rfl, hev, hb⟩; have hb2 := hid hb; have HEV := hid hev; have t3 := True.intro; clear hb hev))))
        have hW : Below w.heap.size w (w2.alloc (.cells #[.slice a0 n0 k0, .slice a1 n1 k1, .slice a2 n2 k2, .slice a3 N k3] 25)) := (hbrw.out.trans (hb2.out.mono hbrw.out.size)).alloc (by have := hbrw.out.size; have := hb2.out.size; omega) _
        have hW2 : Below wr.heap.size wr (w2.alloc (.cells #[.slice a0 n0 k0, .slice a1 n1 k1, .slice a2 n2 k2, .slice a3 N k3] 25)) := hb2.out.alloc hb2.out.size _
        have hW3 : Below w2.heap.size w2 (w2.alloc (.cells #[.slice a0 n0 k0, .slice a1 n1 k1, .slice a2 n2 k2, .slice a3 N k3] 25)) := (Below.refl _ _).alloc (Nat.le_refl _) _
        have hc3 : (w2.alloc (.cells #[.slice a0 n0 k0, .slice a1 n1 k1, .slice a2 n2 k2, .slice a3 N k3] 25)).cell? ⟨w2.heap.size, 3, none⟩ = some (.slice a3 N k3) := (Box.new w2 _ 25).cell rfl
        generalize (w2.alloc (.cells #[.slice a0 n0 k0, .slice a1 n1 k1, .slice a2 n2 k2, .slice a3 N k3] 25)) = W4 at hW hW2 hW3 hc3 ⊢
        have HC3 := hid hc3
        have HW := hid hW
        have HW2 := hid hW2
        have HW3 := hid hW3
        clear hc3 hW hW2 hW3
        generalize hz2e : w2.heap.size = z2 at HC3 ⊢
        clear hz2e
        have t5 := True.intro
        go_loopg [11] N (fun gx vi wx => ∃ j : Nat, j + gx = N ∧ vi = .int .i64 (j : Int) ∧ wx.heap = W4.heap ∧ Below w.heap.size w wx)
        case atStart => exact ⟨0, by omega, rfl, rfl, HW.out⟩
        case round =>
          obtain ⟨j, hjg, rfl, hh, hbx⟩ := hrel
          have HH := hid hh
          have HBX := hid hbx
          clear hh hbx
          cases gk with
          | succ gx =>
            have r1 : (j : Int) < (N : Int) := by omega
            have hjN : j < N := by omega
            have hw : IntKind.i64.wrap ((j : Int) + 1) = (j : Int) + 1 := wrap_small _ (by omega) (by omega)
            obtain ⟨ge, oe, g2, off2, cap2, rfl, hk3, hge, c6, c5, hk2, hg2, c7⟩ := HEV.out j hjN
            obtain ⟨gd, od, rfl, hkd, hgd, cd0⟩ := lst_cell HHD.out (dsP_get gg N j hjN)
            obtain ⟨gt, ot, rfl, hkt, hgt, ct0⟩ := lst_cell HHS.out (ssP_get gg N j hjN)
            have c6 := (World.cell?_of_block (w' := wr) (by rw [HH.out])).trans (cell_keep HW3.out hge c6)
            have c5 := (World.cell?_of_block (w' := wr) (by rw [HH.out])).trans (cell_keep HW3.out hge c5)
            have c7 := (World.cell?_of_block (w' := wr) (by rw [HH.out])).trans (cell_keep HW3.out hg2 c7)
            have cd0 := (World.cell?_of_block (w' := wr) (by rw [HH.out])).trans (cell_keep HW2.out hgd cd0)
            have ct0 := (World.cell?_of_block (w' := wr) (by rw [HH.out])).trans (cell_keep HW2.out hgt ct0)
            have hk3' : (N : Int) ≤ (k3 : Int) := by omega
            have hk2' : (1 : Int) ≤ (cap2 : Int) := by omega
            have hkd' : (N : Int) ≤ (cd : Int) := by omega
            have hkt' : (N : Int) ≤ (ct2 : Int) := by omega
            have hc3 := (World.cell?_of_block (w' := wr) (by rw [HH.out])).trans HC3.out
            generalize (dpP gg j : Int) = dx at c6 cd0
            generalize (spP gg j : Int) = sx at c7 ct0
            clear hk3 hk2 hkd hkt hge hg2 hgd hgt
            go_wp2
            go_region_held3 (fun V => V.cell? ⟨z2, 3, none⟩ = some (.slice (some ⟨ge, oe, none⟩) N k3) ∧ V.cell? ⟨ge, oe + j * 7 + 6, none⟩ = some (.int .i64 dx) ∧ V.cell? ⟨ge, oe + j * 7 + 5, none⟩ = some (.slice (some ⟨g2, off2, none⟩) 1 cap2) ∧ V.cell? ⟨g2, off2 + 7, none⟩ = some (.int .i64 sx) ∧ V.cell? ⟨gd, od + j, none⟩ = some (.int .i64 dx) ∧ V.cell? ⟨gt, ot + j, none⟩ = some (.int .i64 sx)) (first | exact ⟨hc3, c6, c5, c7, cd0, ct0⟩ | go_keep) (fail)
            go_wp2
            go_roundg gx
            case measure => omega
            exact ⟨j + 1, by omega, by push_cast; rfl, HH.out, HBX.out.drew⟩
          | zero =>
            have hj : j = N := by omega
            subst hj
            have r1 : ¬ ((j : Int) < (j : Int)) := by omega
            go_wp2
            refine bodyPost_ret (v := .bool true) (by simp [results, Tryz.results8, go_sem]) rfl ⟨rfl, ?_⟩
            exact HBX.out
      · have q1 : (N : Int) < (n : Int) := by have := HN.out; omega
        have q2 : ¬ ((N : Int) < 16) := by have := HN.out; omega
        go_wp2_with ((have hno := t2; (go_at_call 10; (refine HC.out.mono ?_; rintro e w2 ⟨a0, a1, a2, a3, n0, n1, n2, k0, k1, k2, k3, rfl, hev, hb⟩; have hb2 := hid hb; have HEV := hid hev; have t3 := True.intro; clear hb hev))))
        have hW : Below w.heap.size w (w2.alloc (.cells #[.slice a0 n0 k0, .slice a1 n1 k1, .slice a2 n2 k2, .slice a3 N k3] 25)) := (hbrw.out.trans (hb2.out.mono hbrw.out.size)).alloc (by have := hbrw.out.size; have := hb2.out.size; omega) _
        have hW2 : Below wr.heap.size wr (w2.alloc (.cells #[.slice a0 n0 k0, .slice a1 n1 k1, .slice a2 n2 k2, .slice a3 N k3] 25)) := hb2.out.alloc hb2.out.size _
        have hW3 : Below w2.heap.size w2 (w2.alloc (.cells #[.slice a0 n0 k0, .slice a1 n1 k1, .slice a2 n2 k2, .slice a3 N k3] 25)) := (Below.refl _ _).alloc (Nat.le_refl _) _
        have hc3 : (w2.alloc (.cells #[.slice a0 n0 k0, .slice a1 n1 k1, .slice a2 n2 k2, .slice a3 N k3] 25)).cell? ⟨w2.heap.size, 3, none⟩ = some (.slice a3 N k3) := (Box.new w2 _ 25).cell rfl
        generalize (w2.alloc (.cells #[.slice a0 n0 k0, .slice a1 n1 k1, .slice a2 n2 k2, .slice a3 N k3] 25)) = W4 at hW hW2 hW3 hc3 ⊢
        have HC3 := hid hc3
        have HW := hid hW
        have HW2 := hid hW2
        have HW3 := hid hW3
        clear hc3 hW hW2 hW3
        generalize hz2e : w2.heap.size = z2 at HC3 ⊢
        clear hz2e
        have t5 := True.intro
        go_loopg [11] N (fun gx vi wx => ∃ j : Nat, j + gx = N ∧ vi = .int .i64 (j : Int) ∧ wx.heap = W4.heap ∧ Below w.heap.size w wx)
        case atStart => exact ⟨0, by omega, rfl, rfl, HW.out⟩
        case round =>
          obtain ⟨j, hjg, rfl, hh, hbx⟩ := hrel
          have HH := hid hh
          have HBX := hid hbx
          clear hh hbx
          cases gk with
          | succ gx =>
            have r1 : (j : Int) < (N : Int) := by omega
            have hjN : j < N := by omega
            have hw : IntKind.i64.wrap ((j : Int) + 1) = (j : Int) + 1 := wrap_small _ (by omega) (by omega)
            obtain ⟨ge, oe, g2, off2, cap2, rfl, hk3, hge, c6, c5, hk2, hg2, c7⟩ := HEV.out j hjN
            obtain ⟨gd, od, rfl, hkd, hgd, cd0⟩ := lst_cell HHD.out (dsP_get gg N j hjN)
            obtain ⟨gt, ot, rfl, hkt, hgt, ct0⟩ := lst_cell HHS.out (ssP_get gg N j hjN)
            have c6 := (World.cell?_of_block (w' := wr) (by rw [HH.out])).trans (cell_keep HW3.out hge c6)
            have c5 := (World.cell?_of_block (w' := wr) (by rw [HH.out])).trans (cell_keep HW3.out hge c5)
            have c7 := (World.cell?_of_block (w' := wr) (by rw [HH.out])).trans (cell_keep HW3.out hg2 c7)
            have cd0 := (World.cell?_of_block (w' := wr) (by rw [HH.out])).trans (cell_keep HW2.out hgd cd0)
            have ct0 := (World.cell?_of_block (w' := wr) (by rw [HH.out])).trans (cell_keep HW2.out hgt ct0)
            have hk3' : (N : Int) ≤ (k3 : Int) := by omega
            have hk2' : (1 : Int) ≤ (cap2 : Int) := by omega
            have hkd' : (N : Int) ≤ (cd : Int) := by omega
            have hkt' : (N : Int) ≤ (ct2 : Int) := by omega
            have hc3 := (World.cell?_of_block (w' := wr) (by rw [HH.out])).trans HC3.out
            generalize (dpP gg j : Int) = dx at c6 cd0
            generalize (spP gg j : Int) = sx at c7 ct0
            clear hk3 hk2 hkd hkt hge hg2 hgd hgt
            go_wp2
            go_region_held3 (fun V => V.cell? ⟨z2, 3, none⟩ = some (.slice (some ⟨ge, oe, none⟩) N k3) ∧ V.cell? ⟨ge, oe + j * 7 + 6, none⟩ = some (.int .i64 dx) ∧ V.cell? ⟨ge, oe + j * 7 + 5, none⟩ = some (.slice (some ⟨g2, off2, none⟩) 1 cap2) ∧ V.cell? ⟨g2, off2 + 7, none⟩ = some (.int .i64 sx) ∧ V.cell? ⟨gd, od + j, none⟩ = some (.int .i64 dx) ∧ V.cell? ⟨gt, ot + j, none⟩ = some (.int .i64 sx)) (first | exact ⟨hc3, c6, c5, c7, cd0, ct0⟩ | go_keep) (fail)
            go_wp2
            go_roundg gx
            case measure => omega
            exact ⟨j + 1, by omega, by push_cast; rfl, HH.out, HBX.out.drew⟩
          | zero =>
            have hj : j = N := by omega
            subst hj
            have r1 : ¬ ((j : Int) < (j : Int)) := by omega
            go_wp2
            refine bodyPost_ret (v := .bool true) (by simp [results, Tryz.results8, go_sem]) rfl ⟨rfl, ?_⟩
            exact HBX.out
end Go.Proofs.YtkhjacflmggelaaGreatDoor

namespace Go.Proofs.YtkhjacflmggelaaGreatDoor
open Go.ChangeShapes Go.WideShapes Go.ChangeAt Go.RowKit Go.Deep Go.Shelf
set_option linter.unusedVariables false
set_option linter.unusedSimpArgs false
set_option maxRecDepth 100000
theorem ownN : ownKnob Tryz.prog.godebug = none := by kernel_rfl
theorem mx_of {W : World} (hs : W.ShapedOpen Tryz.prog) : Lx.MX W :=
  cell_of_shapedOpen_int hs (t := 3) (zero := #[.int .i64 0]) (of_decide_eq_true (by kernel_rfl)) (by kernel_rfl) rfl (by kernel_rfl) (by kernel_rfl) Tryz.underlying3
theorem starE : "*" ++ "errors.errorString" = "*errors.errorString" := by decide
theorem row254 (u : TypeId) (h : Tryz.prog.typeName? 3 u = some "*errors.errorString") : u = 254 :=
  typeName_ptr_named (nm := "errors.errorString") (by rw [starE]; kernel_rfl) (by kernel_rfl) (by decide) u (by rw [starE]; exact h)
def rngData : DataW Unit := .iface "*errors.errorString" (.ptr (.agg [.lit (.string [118, 97, 108, 117, 101, 32, 111, 117, 116, 32, 111, 102, 32, 114, 97, 110, 103, 101])]))
theorem gl_of {W : World} {laid : List (String × DataW Unit)} (hs : W.ShapedOpen Tryz.prog) (hL : laidMetH Tryz.prog laid W) (e : (laid.filter fun x => x.1 == "strconv.ErrRange") = [("strconv.ErrRange", rngData)]) : Gl W := by
  have h := hL.filter (fun x => x.1 == "strconv.ErrRange")
  rw [e] at h
  have h2 : laidMet Tryz.prog [("strconv.ErrRange", rngData)] W := (laidMetH_iff.1 h).1
  obtain ⟨a, s, hv, _, _, _⟩ := laid_sentinel h2 (g := 7) (ti := 179) (tp := 254) (te := 256) (ts := 9) (by kernel_rfl) (by kernel_rfl) Tryz.underlying179 row254 Tryz.underlying254 Tryz.underlying256 rfl rfl Tryz.underlying9 (by kernel_rfl) (by kernel_rfl)
  obtain ⟨cs, hh, hz, _⟩ := hs.1 7 #[.nilIface] 179 (of_decide_eq_true (by kernel_rfl)) (by kernel_rfl)
  have hc : W.cell? ⟨7, 0, none⟩ = some (.iface 254 (.pointer (some a))) := by simpa using World.var?_cell (P := Tryz.prog) (n := "strconv.ErrRange") (g := 7) (by kernel_rfl) hv 0
  have hc2 := (cellOf hh 0).symm.trans hc
  obtain ⟨l⟩ := cs
  match l, hz with
  | [x], _ =>
    have hx : x = .iface 254 (.pointer (some a)) := by simpa using hc2
    subst hx
    exact ⟨_, _, _, hh⟩
/- A contract under the row's conditions, the world's shape and the tables at hand. -/
def cellsIn (c : Array Value) : Obj → Obj
  | .cells _ t frozen => .cells c t frozen
  | o => o
def firstCells : Array Value := (Go.Pinned.utf8FirstZ.map fun (x : Nat) => Value.int .u8 (x : Int)).toArray
def tables (h : Array Obj) : Array Obj := (((((((h.modify 1 (cellsIn firstCells)).modify 2 (cellsIn #[.int .u8 128, .int .u8 191, .int .u8 160, .int .u8 191, .int .u8 128, .int .u8 159, .int .u8 144, .int .u8 191, .int .u8 128, .int .u8 143, .int .u8 0, .int .u8 0, .int .u8 0, .int .u8 0, .int .u8 0, .int .u8 0, .int .u8 0, .int .u8 0, .int .u8 0, .int .u8 0, .int .u8 0, .int .u8 0, .int .u8 0, .int .u8 0, .int .u8 0, .int .u8 0, .int .u8 0, .int .u8 0, .int .u8 0, .int .u8 0, .int .u8 0, .int .u8 0])).modify 3 (cellsIn #[.int .u64 1, .int .u64 10, .int .u64 100, .int .u64 1000, .int .u64 10000, .int .u64 100000, .int .u64 1000000, .int .u64 10000000, .int .u64 100000000, .int .u64 1000000000, .int .u64 10000000000, .int .u64 100000000000, .int .u64 1000000000000, .int .u64 10000000000000, .int .u64 100000000000000, .int .u64 1000000000000000, .int .u64 10000000000000000, .int .u64 100000000000000000, .int .u64 1000000000000000000, .int .u64 10000000000000000000])).modify 4 (cellsIn #[.int .u8 0, .int .u8 1, .int .u8 28, .int .u8 2, .int .u8 29, .int .u8 14, .int .u8 24, .int .u8 3, .int .u8 30, .int .u8 22, .int .u8 20, .int .u8 15, .int .u8 25, .int .u8 17, .int .u8 4, .int .u8 8, .int .u8 31, .int .u8 27, .int .u8 13, .int .u8 23, .int .u8 21, .int .u8 19, .int .u8 16, .int .u8 7, .int .u8 26, .int .u8 12, .int .u8 18, .int .u8 6, .int .u8 11, .int .u8 5, .int .u8 10, .int .u8 9])).modify 5 (cellsIn #[.int .u8 0, .int .u8 1, .int .u8 56, .int .u8 2, .int .u8 57, .int .u8 49, .int .u8 28, .int .u8 3, .int .u8 61, .int .u8 58, .int .u8 42, .int .u8 50, .int .u8 38, .int .u8 29, .int .u8 17, .int .u8 4, .int .u8 62, .int .u8 47, .int .u8 59, .int .u8 36, .int .u8 45, .int .u8 43, .int .u8 51, .int .u8 22, .int .u8 53, .int .u8 39, .int .u8 33, .int .u8 30, .int .u8 24, .int .u8 18, .int .u8 12, .int .u8 5, .int .u8 63, .int .u8 55, .int .u8 48, .int .u8 27, .int .u8 60, .int .u8 41, .int .u8 37, .int .u8 16, .int .u8 46, .int .u8 35, .int .u8 44, .int .u8 21, .int .u8 52, .int .u8 32, .int .u8 23, .int .u8 11, .int .u8 54, .int .u8 26, .int .u8 40, .int .u8 15, .int .u8 34, .int .u8 20, .int .u8 31, .int .u8 10, .int .u8 25, .int .u8 14, .int .u8 19, .int .u8 9, .int .u8 13, .int .u8 8, .int .u8 7, .int .u8 6])).modify 6 (cellsIn #[.iface 254 (.pointer (some ⟨13, 0, none⟩))])).modify 7 (cellsIn #[.iface 254 (.pointer (some ⟨13 + 1, 0, none⟩))]))
def newErrs : Array Obj := #[.cells #[.string ⟨#[105, 110, 118, 97, 108, 105, 100, 32, 115, 121, 110, 116, 97, 120]⟩] 256, .cells #[.string ⟨#[118, 97, 108, 117, 101, 32, 111, 117, 116, 32, 111, 102, 32, 114, 97, 110, 103, 101]⟩] 256]
theorem laid_met {laid : List (String × DataW Unit)} (e : laid = Rows.parseManyRow.laid) (os : Os) (args : Array Value) : laidMetH Tryz.prog laid (({ World.holding Tryz.prog os ⟨newErrs, #[], []⟩ with heap := tables (World.holding Tryz.prog os ⟨newErrs, #[], []⟩).heap } : World).forCall (fun _ _ => 0) ⟨#[], args, []⟩).memory := by
  subst e
  exact laidMetH_of_parts3 (fuel := 8) (laidMet_of_run' 8 (by kernel_rfl) (by kernel_rfl)) (by kernel_rfl) (by kernel_rfl)
end Go.Proofs.YtkhjacflmggelaaGreatDoor

namespace Go.Proofs.YtkhjacflmggelaaGreatDoor
open Go.ChangeShapes Go.WideShapes Go.ChangeAt Go.RowKit Go.Deep Go.Shelf
set_option linter.unusedVariables false
set_option linter.unusedSimpArgs false
set_option maxRecDepth 100000
theorem laidPx : laidOutB Tryz.prog = true := by kernel_rfl
theorem cells5x : Tryz.prog.cellsOf 5 = 1 := by kernel_rfl
theorem gaps_of {H : Type} {enc : TypeId × Value → H} {W : World} {d : DataW H} {ps : List MemPlace} {a0 : Option Addr} {len cap : Nat} (h : DataW.Trod enc Tryz.prog W 0 (fun _ => true) true 33 (.slice a0 len cap) d ps) : ∃ gs : List Nat, gs.length = len ∧ GRd W a0 gs := by
  obtain ⟨fuel, hf⟩ := h
  rcases open_slice1 Tryz.underlying33 cells5x hf with ⟨hcs, _⟩ | ⟨a, l, c, m, n, V, D, Pl, hcs, _, hl, _, hm, _, hx⟩
  · simp [Value.cells] at hcs
    obtain ⟨rfl, rfl, rfl⟩ := hcs
    exact ⟨[], rfl, fun j g e => by simp at e⟩
  · simp [Value.cells] at hcs
    obtain ⟨rfl, rfl, rfl⟩ := hcs
    simp at hm
    subst hm
    have hs : ∀ j, j < len → ∃ g : Nat, g ≤ 255 ∧ W.cell? (a.add j) = some (.int .u8 (g : Int)) := by
      intro j hj
      obtain ⟨h1, h2⟩ := hx j (by omega)
      obtain ⟨n0, e0, _, w0⟩ := DataW.trod_int Tryz.underlying5 h2
      have b0 : 0 ≤ n0 ∧ n0 ≤ 255 := by simpa [Lit.wf, IntKind.min, IntKind.max, IntKind.signed, IntKind.bits] using w0
      simp at e0
      refine ⟨n0.toNat, by omega, ?_⟩
      rw [h1, e0, Int.toNat_of_nonneg b0.1]
    refine ⟨(List.range len).map fun j => if hj : j < len then Classical.choose (hs j hj) else 0, by simp, fun j g e => ?_⟩
    rw [List.getElem?_map, Option.map_eq_some_iff] at e
    obtain ⟨i, hi, rfl⟩ := e
    obtain ⟨hjl, rfl⟩ := List.getElem?_eq_some_iff.1 hi
    rw [List.length_range] at hjl
    rw [List.getElem_range]
    simp only [hjl, dif_pos]
    obtain ⟨q1, q2⟩ := Classical.choose_spec (hs j hjl)
    generalize Classical.choose (hs j hjl) = g at q1 q2
    refine ⟨q1, ?_⟩
    obtain ⟨b, off, spot⟩ := a
    have hspot : spot = none := by
      obtain ⟨_, _, h0⟩ := hs 0 (by omega)
      simpa [Addr.add] using World.cell?_spot h0
    subst hspot
    rw [Addr.add_lit] at q2
    exact ⟨b, off, rfl, World.block_lt_of_cell? W _ q2, q2⟩
set_option maxHeartbeats 1000000 in
theorem places_great (w : World) (a : Option Addr) (n c : Nat) (h30 : (30 : Int) < (n : Int)) (hm : Lx.MX w) (hG : Gl w) : Calls Tryz.prog 8 #[.slice a n c] w fun e w' => e = .returned (.bool true) ∧ Below w.heap.size w w' := by
  have t0 := True.intro
  go_enter Tryz.func8, Tryz.ntmps8
  go_wp2_with ((have hno := t0; (go_at_call 9; (refine (known_any _ hm hG).mono ?_; rintro e w1 ⟨rfl, hb⟩; have hz1 := hid hb.size; have hb1 := hid hb; have t1 := True.intro; clear hb))))
  refine bodyPost_ret (v := .bool true) (by simp [results, Tryz.results8, go_sem]) rfl ⟨rfl, ?_⟩
  exact hb1.out
theorem places_any (w : World) (a : Option Addr) (n c : Nat) (gs : List Nat) (hn : gs.length = n) (hR : GRd w a gs) (hm : Lx.MX w) (hG : Gl w) : Calls Tryz.prog 8 #[.slice a n c] w fun e w' => e = .returned (.bool true) ∧ Below w.heap.size w w' := by
  by_cases h : n ≤ 30
  · exact places_loop w a n c gs hn h hR hm hG
  · exact places_great w a n c (by omega) hm hG
theorem places_contract (H : Type) (enc : TypeId × Value → H) (W : World) (base : Nat) (args : Array Value) (ds gs : List (DataW H)) (before : List MemPlace)
    (hval0 : ∀ (j : Nat) t v, Tryz.f8.params[j]? = some t → args[j]? = some v → Value.okWide Tryz.prog W .any base t v)
    (hW : DataW.Whole enc Tryz.prog Tryz.f8.params.toList Rows.parsePlacesSpec.vars false W args.toList ds gs before) (hL : laidMetH Tryz.prog Rows.parsePlacesRow.laid W) (hsh : W.ShapedOpen Tryz.prog) :
    Calls Tryz.prog 8 args W fun e W' => ∃ v, e = .returned v ∧ Rows.parsePlacesSpec.post enc Tryz.prog Tryz.f8 false true false false W args v W' := by
  have hval := hval0
  have hW' := hW
  obtain ⟨p, q, hA0, hV, rfl, hfz, hnd⟩ := hW
  have hA : DataW.TrodAll enc Tryz.prog W 0 (fun _ => true) true Tryz.f8.params.toList args.toList ds p := hA0
  rw [Tryz.params8] at hA hval
  obtain ⟨v0, vs0, d0, ds0, p0, q0, hargs, rfl, rfl, h0, r0⟩ := trodAll_cons hA
  obtain ⟨rfl, rfl, rfl⟩ := trodAll_nil r0
  obtain rfl : args = #[v0] := by cases args; simp_all
  obtain ⟨rfl, rfl⟩ := trodVars_none hV
  obtain ⟨a0, len0, cap0, rfl⟩ := okWide_slice Tryz.underlying33 (hval 0 33 v0 rfl rfl)
  have lt0 : ∀ x ∈ p0, x.block < W.heap.size := by obtain ⟨m, hm⟩ := h0; exact DataW.trod_lt m _ _ _ hm
  obtain ⟨g, hgl, hg⟩ := gaps_of h0
  clear hA0 hval0
  refine (places_any W a0 len0 cap0 g hgl hg (mx_of hsh) (gl_of hsh hL (by kernel_rfl))).mono fun e W' ⟨he, bel⟩ => ?_
  subst he
  exact ⟨_, rfl, _, _, _, [], _, [], hW', trodAll_mk1 (shut_bool Tryz.underlying4 _), (trodAll_cons_mk (Below.trod laidPx (by kernel_rfl) (of_decide_eq_true (by kernel_rfl)) h0 bel lt0) trodAll_mk0), rfl, bel.frame _, fun h => by cases h⟩
theorem pl_reads (os : Os) {H : Type} (enc : TypeId × Value → H) : ∃ places, DataW.whole enc Tryz.prog (({ World.holding Tryz.prog os ⟨newErrs, #[], []⟩ with heap := tables (World.holding Tryz.prog os ⟨newErrs, #[], []⟩).heap } : World).forCall (fun _ _ => 0) ⟨#[], #[.slice none 0 0], []⟩).memory Tryz.f8.params.toList Rows.parsePlacesSpec.vars false #[Value.slice none 0 0].toList 8 = some ([.nil], [], places) :=
  ⟨[], by kernel_rfl⟩
theorem placesUpto_lifted (os : Os) (started : os.Started) (H : Type) (enc : TypeId × Value → H) (F : Stop.Interp) :
    ReturnsInHanded {} Tryz.checked os 8 .any ((Rows.OpenSpec.upto Rows.parsePlacesSpec).preRow enc Tryz.prog Tryz.f8 Rows.parsePlacesUptoRow.domain false Rows.parsePlacesUptoRow.laid) (((Rows.OpenSpec.upto Rows.parsePlacesSpec).at F).post enc Tryz.prog Tryz.f8 false true false false) := by
  obtain ⟨places, hx⟩ := pl_reads os enc
  refine returnsInHanded_of_row (C := Tryz.checked) (s := Rows.OpenSpec.upto Rows.parsePlacesSpec) ownN started (by kernel_rfl) Tryz.func8
    (witness_row_at (enc := enc) (C := Tryz.checked) false ({ World.holding Tryz.prog os ⟨newErrs, #[], []⟩ with heap := tables (World.holding Tryz.prog os ⟨newErrs, #[], []⟩).heap } : World) #[.slice none 0 0] rfl (by kernel_rfl) (by kernel_rfl) (by kernel_rfl)
      (OpenSpec.preRow_of_cond 8 hx (by kernel_rfl) (fun k hk => by cases hk; kernel_rfl) (by kernel_rfl) (laid_met (by rfl) os _))) ?_
  intro W base args ds gs before hval hW _ _ _ hL hsh _
  exact places_contract H enc W base args ds gs before hval hW hL hsh
theorem parsePlacesUpto_row : Rows.ParsePlacesUptoSaid :=
  OpenClaim.holds_of_cond 8 Tryz.f8 rfl rfl rfl rfl rfl rfl rfl ⟨rfl, rfl, rfl, rfl, rfl⟩ rfl rfl rfl rfl rfl (by kernel_rfl) Tryz.func8 (by kernel_rfl)
    (of_decide_eq_true (by kernel_rfl)) (by unfold Func.isWrapper; first | (rw [if_pos (by decide +kernel)]; kernel_rfl) | (rw [if_neg (by decide +kernel)]; exact ⟨rfl, rfl⟩))
    (fun os started H enc _ F => by rw [OpenClaim.pre_eq_preRow]; exact placesUpto_lifted os started H enc F)
theorem parsePlacesUpto_card : Rows.ParsePlacesUptoCardSaid :=
  Claim7.holds_tied_plain_at .later [] [.data, .data, .data, .data, .sentinel, .sentinel, .pinned] true (true, "5ef06d548210e40674650a4445350faf0454ce007da9a74f844f1c070e9d0176") true
    parsePlacesUpto_row (fun _ h => by cases h) (by kernel_rfl) (fun _ h => by cases h) parsePlacesUpto_row_tie rfl ⟨rfl, rfl⟩ (by kernel_rfl) rfl
    (fun f fn hf hfn => by
      obtain rfl : f = 8 := Option.some.inj ((show Tryz.prog.funcNamed "windlass/windlasslaw7.ParsePlaces" = some 8 by kernel_rfl).symm.trans hf) |>.symm
      obtain rfl : fn = Tryz.f8 := (Option.some.inj (Tryz.func8.symm.trans hfn)).symm
      exact ⟨by kernel_rfl, fun j t ht => by
        rw [Tryz.params8] at ht
        have hmem := List.mem_of_getElem? (l := [33]) (i := j) (a := t) (by simpa using ht)
        simp only [List.mem_cons, List.mem_nil_iff, or_false] at hmem
        rcases hmem with rfl
        exact (show Tryz.prog.wantsStandIn 33 = false by kernel_rfl)⟩)
    (by kernel_rfl)
end Go.Proofs.YtkhjacflmggelaaGreatDoor

