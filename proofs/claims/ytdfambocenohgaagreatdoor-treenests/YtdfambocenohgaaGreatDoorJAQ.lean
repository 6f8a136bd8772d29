/- TreeNests: for every row of bytes and every number of blocks the call returns true. -/
import Derived.Test.YtdfambocenohgaaGreatDoorJAP
import Derived.Test.YtdfambocenohgaaGreatDoorTie
import Derived.Test.YtdfambocenohgaaGreatDoorCards
import Derived.LaidSub
import Derived.LaidLaws
import Derived.LaidHandle
import Derived.Shelf.Vars
import Derived.Lib.LaidTab
import Derived.Handed
import Derived.ChangeSame
import Derived.ChangeAt
import Derived.OpenShut
import Derived.ProofKit
import Derived.ChangeMaps5
import Derived.ChangeOld
import Derived.ChangeVars
import Derived.JoinedOf
import Derived.RowKit
import Derived.RowKitTokens
import Derived.SevenTiedAt
import Derived.Deep.Slices
import GoSem.PinnedTables
namespace Go.Proofs.YtdfambocenohgaaGreatDoor
open Go.RowKit Go.Deep
set_option linter.unusedVariables false
set_option linter.unusedSimpArgs false
attribute [local go_sem] Oper.semAt_some
/- What stands between two rounds. -/
def NbR (w : World) (n i B : Nat) (wr : World) : Prop := ∃ (j : Nat) (s : ST (j + 2)), SRds (j + 2) wr s ∧ sAt (j + 2) s = (B, 0) ∧ Bod j i n s ∧ Below w.heap.size w wr
theorem NbR.up {w wr : World} {n i B : Nat} (h : NbR w n i B wr) : NbR w n (i + 1) (wr.heap.size + 1) ((wr.alloc (.cells (EH.cs { zE with b := wr.heap.size, kind := 3, int := 1 }) 28)).alloc (.cells (wS wr.heap.size (wr.heap.size + 1) B).cs 49)) := by
  obtain ⟨j, s, d, hB, hb, bw⟩ := h
  have b0 : Below wr.heap.size wr (wr.alloc (.cells (EH.cs { zE with b := wr.heap.size, kind := 3, int := 1 }) 28)) := (Below.refl _ _).alloc (Nat.le_refl _) _
  have b1 : Below (wr.heap.size + 1) (wr.alloc (.cells (EH.cs { zE with b := wr.heap.size, kind := 3, int := 1 }) 28)) ((wr.alloc (.cells (EH.cs { zE with b := wr.heap.size, kind := 3, int := 1 }) 28)).alloc (.cells (wS wr.heap.size (wr.heap.size + 1) B).cs 49)) := (Below.refl _ _).alloc (by rw [World.size_alloc]; exact Nat.le_refl _) _
  have m0 := heap_alloc_new wr (.cells (EH.cs { zE with b := wr.heap.size, kind := 3, int := 1 }) 28)
  have m1 := heap_alloc_new (wr.alloc (.cells (EH.cs { zE with b := wr.heap.size, kind := 3, int := 1 }) 28)) (.cells (wS wr.heap.size (wr.heap.size + 1) B).cs 49)
  rw [World.size_alloc] at m1
  have b01 := b0.trans (b1.mono (by omega))
  exact ⟨j + 1, bUp s wr.heap.size (wr.heap.size + 1) B, bUp_rd (SRds.below (j + 2) d (Nat.le_refl _) b01) hB ((b1.block _ (by omega)).trans m0) m1, rfl, hb.up _ _ _, bw.trans (b01.mono bw.size)⟩
set_option maxRecDepth 100000 in
set_option maxHeartbeats 2000000 in
theorem nests_any (w : World) (hE : EnvT w) (a : Option Addr) (n c : Nat) (xs : List Nat) (hn : n = xs.length) (hm : n ≤ 9223372036854775807) (hr : KU8 w a xs) (bl : Nat) (hbl : bl < 256) :
    Calls Tryz.prog 5 #[.slice a n c, .int .u8 (bl : Int)] w fun e w' => e = .returned (.bool true) ∧ Below w.heap.size w w' := by
  have K1 := hid (known_any w hE)
  by_cases h60 : n ≤ 60
  · have K2 := hid (fun (w1 : World) (h1 : Below w.heap.size w w1) => nested_any w1 a n c xs hn h60 (hr.below h1))
    have HEv := hid (fun (w1 : World) (h1 : Below w.heap.size w w1) => hE.below h1)
    have hnI : (n : Int) ≤ 60 := by omega
    have hn0 : (0 : Int) ≤ (n : Int) := by omega
    have hbI : (bl : Int) < 256 := by omega
    have hb0 : (0 : Int) ≤ (bl : Int) := by omega
    obtain ⟨v, k, hk, rfl⟩ : ∃ v k : Nat, k < 20 ∧ bl = 20 * v + k := ⟨bl / 20, bl % 20, by omega, by omega⟩
    have hr20 : ((20 * v + k : Nat) : Int) % 20 = (k : Int) := by omega
    have hkI : (k : Int) < 20 := by omega
    have hk0 : (0 : Int) ≤ (k : Int) := by omega
    have hkm : (k : Int) % 20 = (k : Int) := by omega
    clear hn hm hr hE hbl
    go_enter Tryz.func5, Tryz.ntmps5
    go_upto_region 7 with (first
      | (go_at_call 6; (refine (Hid.out K1).mono ?_; rintro e w1 ⟨rfl, hb1⟩; have HB1 := hid hb1; have K2' := hid (K2.out w1 hb1); clear hb1))
      | (go_at_call 23; (refine (Hid.out K2').mono ?_; rintro e w2 ⟨k2, ⟨⟨b, o, kind, op, int, text, name, na, nn, nc, aa, an, ac, pos, names⟩, ts⟩, rfl, hv2, hns2, hb2⟩; simp only [EH.cs]; have HV2 := hid hv2; have HN2 := hid hns2; have HB2 := hid (HB1.out.trans (hb2.mono HB1.out.size)); clear hv2 hns2 hb2)))
    obtain ⟨X, hX⟩ : ∃ X, X = w2.heap.size := ⟨_, rfl⟩
    obtain ⟨V0, hV0⟩ : ∃ V0, V0 = w2.alloc (.cells (EH.cs ⟨b, o, kind, op, int, text, name, na, nn, nc, aa, an, ac, pos, names⟩) 28) := ⟨_, rfl⟩
    obtain ⟨V1, hV1⟩ : ∃ V1, V1 = V0.alloc (.cells (EH.cs ⟨b, o, kind, op, int, text, name, na, nn, nc, aa, an, ac, pos, names⟩) 28) := ⟨_, rfl⟩
    obtain ⟨V2, hV2⟩ : ∃ V2, V2 = V1.alloc (.cells (oS (X + 1) (X + 1 + 1)).cs 49) := ⟨_, rfl⟩
    have z0 : V0.heap.size = X + 1 := by rw [hV0, hX]; simp
    have z1 : V1.heap.size = X + 1 + 1 := by rw [hV1]; simp [z0]
    have b0 : Below w2.heap.size w2 V0 := by rw [hV0]; exact (Below.refl _ _).alloc (Nat.le_refl _) _
    have b1 : Below V0.heap.size V0 V1 := by rw [hV1]; exact (Below.refl _ _).alloc (Nat.le_refl _) _
    have b2 : Below V1.heap.size V1 V2 := by rw [hV2]; exact (Below.refl _ _).alloc (Nat.le_refl _) _
    have m1 : V1.heap[X + 1]? = some (.cells (EH.cs ⟨b, o, kind, op, int, text, name, na, nn, nc, aa, an, ac, pos, names⟩) 28 (0, 0)) := by rw [← z0, hV1]; exact heap_alloc_new _ _
    have m2 : V2.heap[X + 1 + 1]? = some (.cells (oS (X + 1) (X + 1 + 1)).cs 49 (0, 0)) := by rw [← z1, hV2]; exact heap_alloc_new _ _
    have b02 : Below w2.heap.size w2 V2 := b0.trans ((b1.trans (b2.mono b1.size)).mono b0.size)
    have HS : Hid (NbR w n 0 (X + 1 + 1) V2) := hid ⟨k2, bS0 (⟨b, o, kind, op, int, text, name, na, nn, nc, aa, an, ac, pos, names⟩, ts) (X + 1) (X + 1 + 1), bS0_rd (HV2.out.below (Nat.le_refl _) b02) ((b2.block _ (by omega)).trans m1) m2, rfl, Bod.zero HN2.out _ _, HB2.out.trans (b02.mono HB2.out.size)⟩
    clear z0 z1 b0 b1 b2 m1 m2 b02 K2 K1 K2' HV2 HN2 HB1
    simp only [EH.cs, oS, zS, emp, SH.cs] at hV0 hV1 hV2
    rw [← hX, ← hV0, ← hV1, ← hV2]
    clear hX hV0 hV1 hV2 HB2
    go_wp2
    go_loopg [7, 9] k (fun g x y wr => ∃ i B : Nat, i + g = k ∧ y = .int .i64 (i : Int) ∧ x = .slice (some ⟨B, 0, none⟩) 1 1 ∧ NbR w n i B wr)
    case atStart => exact ⟨0, _, by omega, rfl, rfl, HS.out⟩
    case round =>
      obtain ⟨i, B, hi, rfl, rfl, hNb⟩ := hrel
      cases gk with
      | zero =>
        have hik : i = k := by omega
        subst hik
        obtain ⟨j, s, dS, hBs, hbod, hbw⟩ := hNb
        obtain ⟨Y, hY⟩ : ∃ Y, Y = wr.heap.size := ⟨_, rfl⟩
        obtain ⟨W3, hW3⟩ : ∃ W3, W3 = wr.alloc (.cells (nD B Y).cs 52) := ⟨_, rfl⟩
        obtain ⟨W4, hW4⟩ : ∃ W4, W4 = W3.alloc (.cells (nT s B Y).h.cs 24) := ⟨_, rfl⟩
        have z3 : W3.heap.size = Y + 1 := by rw [hW3, hY]; simp
        have z4 : W4.heap.size = Y + 1 + 1 := by rw [hW4]; simp [z3]
        have b3 : Below wr.heap.size wr W3 := by rw [hW3]; exact (Below.refl _ _).alloc (Nat.le_refl _) _
        have b4 : Below W3.heap.size W3 W4 := by rw [hW4]; exact (Below.refl _ _).alloc (Nat.le_refl _) _
        have m3 : W3.heap[Y]? = some (.cells (nD B Y).cs 52 (0, 0)) := by rw [hW3, hY]; exact heap_alloc_new _ _
        have m4 : W4.heap[Y + 1]? = some (.cells (nT s B Y).h.cs 24 (0, 0)) := by rw [← z3, hW4]; exact heap_alloc_new _ _
        have b34 : Below wr.heap.size wr W4 := b3.trans (b4.mono b3.size)
        have bw4 : Below w.heap.size w W4 := hbw.trans (b34.mono hbw.size)
        have dT : TVs (j + 2) W4 (nT s B Y) := nT_vs (SRds.below (j + 2) dS (Nat.le_refl _) b34) hBs ((b4.block Y (by omega)).trans m3)
        have hE4 := HEv.out W4 bw4
        have hpr := nT_pr hbod B Y
        have hdp := nT_dp hbod B Y
        have hct := nT_cnt hbod B Y
        have hln := nT_len hbod B Y
        have P1 := hid (print_any (j + 2) W4 (nT s B Y) dT (nT_tr hbod B Y) (nT_okT hbod B Y) hE4 (by omega) (by intro e; rw [e] at hpr; simp at hpr) (by omega))
        have P2 := hid (fun (w5 : World) (h : Below W4.heap.size W4 w5) => isTree_any (j + 2) w5 (nT s B Y) (dT.below (Nat.le_refl _) h) (hE4.below h).mx)
        have P3 := hid (fun (w5 : World) (h : Below W4.heap.size W4 w5) => depth_any (j + 2) w5 (nT s B Y) (dT.below (Nat.le_refl _) h) (nT_tr hbod B Y) (nT_okT hbod B Y) (hE4.below h) (by omega) (by omega))
        have P4 := hid (fun (w5 : World) (h : Below W4.heap.size W4 w5) => size_any (j + 2) w5 (nT s B Y) (dT.below (Nat.le_refl _) h) (by omega))
        have ed : ((dpT (j + 2) (nT s B Y) : Nat) : Int) = 1 + (i : Int) + (n : Int) := by omega
        have ec : ((cnt (inT (nT s B Y)) : Nat) : Int) = 2 * (i : Int) + 1 + (n : Int) + 1 := by omega
        simp only [nT_okT hbod B Y] at P2
        simp only [ed] at P3
        simp only [ec] at P4
        have hsz : n < (⟨(prT (j + 2) (nT s B Y)).toArray⟩ : ByteArray).size ∧ (⟨(prT (j + 2) (nT s B Y)).toArray⟩ : ByteArray).size ≤ 20 * n + 40 * i + 60 := by
          rw [show (⟨(prT (j + 2) (nT s B Y)).toArray⟩ : ByteArray).size = (prT (j + 2) (nT s B Y)).length from by simp [ByteArray.size]]
          exact hpr
        generalize (⟨(prT (j + 2) (nT s B Y)).toArray⟩ : ByteArray) = S at P1 hsz
        have hS1 : (n : Int) < (S.size : Int) := by omega
        have hS2 : (S.size : Int) ≤ 10000 := by omega
        have QB := hid (fun (w5 : World) (h : Below W4.heap.size W4 w5) => cellT ((h.block (Y + 1) (by omega)).trans m4))
        have HB4 := hid bw4
        have q := QB.out W4 (Below.refl _ _)
        have q0 := q 0
        have q1 := q 1
        have q2 := q 2
        have q3 := q 3
        simp only [nT, nD, zD, emp, DH.cs, TH.cs, List.getElem?_toArray, List.getElem?_cons_zero, List.getElem?_cons_succ] at q0 q1 q2 q3 P1 P2 P3 P4 hW3 hW4
        clear hi z3 z4 b3 b4 m3 m4 b34 bw4 dT hE4 hpr hdp hct hln ed ec hsz q dS hBs hbod hbw HEv HS hkm hk0 hkI hr20
        have hi0 : (0 : Int) ≤ (i : Int) := by omega
        have hi1 : (i : Int) < 20 := by omega
        go_upto_region 13 with fail
        rw [← hY, ← hW3, ← hW4]
        clear hW3 hW4 hY
        go_wp2_with (first
          | (go_at_call 9; (refine (Hid.out P1).mono ?_; rintro e w5 ⟨rfl, hb5⟩; have s5 := QB.out w5 hb5; have s0 := s5 0; have s1 := s5 1; have s2 := s5 2; have s3 := s5 3; simp only [nT, TH.cs, List.getElem?_toArray, List.getElem?_cons_zero, List.getElem?_cons_succ] at s0 s1 s2 s3; have P2' := hid (P2.out w5 hb5); have HB5 := hid hb5; clear hb5 s5 q0 q1 q2 q3))
          | (go_at_call 13; (refine (Hid.out P2').mono ?_; rintro e w6 ⟨rfl, hb6⟩; have HB6 := hid (HB5.out.trans (hb6.mono HB5.out.size)); have s6 := QB.out w6 HB6.out; have r0 := s6 0; have r1 := s6 1; have r2 := s6 2; have r3 := s6 3; simp only [nT, TH.cs, List.getElem?_toArray, List.getElem?_cons_zero, List.getElem?_cons_succ] at r0 r1 r2 r3; have P3' := hid (P3.out w6 HB6.out); clear hb6 s6 s0 s1 s2 s3))
          | (go_at_call 15; (refine (Hid.out P3').mono ?_; rintro e w7 ⟨rfl, hb7⟩; have HB7 := hid (HB6.out.trans (hb7.mono HB6.out.size)); have s7 := QB.out w7 HB7.out; have y0 := s7 0; have y1 := s7 1; have y2 := s7 2; have y3 := s7 3; simp only [nT, TH.cs, List.getElem?_toArray, List.getElem?_cons_zero, List.getElem?_cons_succ] at y0 y1 y2 y3; have P4' := hid (P4.out w7 HB7.out); clear hb7 s7 r0 r1 r2 r3))
          | (go_at_call 17; (refine (Hid.out P4').mono ?_; rintro e w8 ⟨rfl, hb8⟩)))
        go_ret
        have h8 := HB7.out.trans (hb8.mono HB7.out.size)
        exact ⟨rfl, HB4.out.trans (h8.mono HB4.out.size)⟩
      | succ g =>
        have HK := hid hNb
        have hil : (i : Int) < (k : Int) := by omega
        have hi0 : (0 : Int) ≤ (i : Int) := by omega
        clear hNb HS
        go_wp2
        go_roundg g
        case measure => omega
        exact ⟨i + 1, _, by omega, by go_num, rfl, HK.out.up⟩
  · have h60' : (60 : Int) < (n : Int) := by omega
    have hmI : (n : Int) ≤ 9223372036854775807 := by omega
    clear hn hm hr hE hbl
    go_enter Tryz.func5, Tryz.ntmps5
    go_wp2_with (go_at_call 6; (refine (Hid.out K1).mono ?_; rintro e w1 ⟨rfl, hb1⟩))
    go_ret
    exact ⟨rfl, hb1⟩
end Go.Proofs.YtdfambocenohgaaGreatDoor

namespace Go.Proofs.YtdfambocenohgaaGreatDoor
open Go.ChangeShapes Go.WideShapes Go.ChangeAt Go.RowKit Go.Deep Go.Shelf
set_option linter.unusedVariables false
set_option linter.unusedSimpArgs false

theorem pow_named : Tryz.prog.globalNamed "internal/strconv.uint64pow10" = some 0 := by kernel_rfl
theorem env_of {W : World} (hL : laidMetH Tryz.prog Rows.treeNestsRow.laid W) (hs : W.ShapedOpen Tryz.prog) : EnvT W := by
  constructor
  · have h := hL.filter (fun x => x.1 == "internal/strconv.uint64pow10")
    have e : (Rows.treeNestsRow.laid.filter fun x => x.1 == "internal/strconv.uint64pow10") = [("internal/strconv.uint64pow10", Lib.tabData .u64 Lib.pow10Tab)] := by kernel_rfl
    rw [e] at h
    have h2 : laidMet Tryz.prog [("internal/strconv.uint64pow10", Lib.tabData .u64 Lib.pow10Tab)] W := (laidMetH_iff.1 h).1
    exact Lib.tabIs_of_head (t := 176) (e := 125) (n := 20) pow_named (by kernel_rfl) (by kernel_rfl) (by kernel_rfl) (by kernel_rfl) (by kernel_rfl) h2
  · exact cell_of_shapedOpen_int hs (t := 3) (zero := #[.int .i64 0]) (of_decide_eq_true (by kernel_rfl)) (by kernel_rfl) rfl (by kernel_rfl) (by kernel_rfl) Tryz.underlying3

/- A contract under the row's conditions, the world's shape and the tables at hand. -/
theorem handed_laid {H : Type} {enc : TypeId × Value → H} {a : Assume} {C : Checked} {os : Os} {f : FuncId} {fn : Func} {s : ChangeSpec} {conds : List PathCond} {apart fresh handsOn again : Bool} {X : World → Array Value → Prop}
    (hX : ∀ (w w' : World) (args : Array Value), w.heap = w'.heap → X w args → X w' args)
    (own : ownKnob C.prog.godebug = none) (started : os.Started) (noInit : C.prog.inits.idxOf? f = none) (hfn : C.prog.funcs[f]? = some fn)
    (witness : ∃ (w : World) (tape : Tape) (i : Input), w.os = os ∧ (w.forCall tape i).Shaped C.prog ∧ i.vars = [] ∧ Input.okWide C.prog (w.forCall tape i) .any w.heap.size f i ∧
      ((s.pre enc C.prog fn conds apart (w.forCall tape i).memory i.args ∧ X (w.forCall tape i).memory i.args) ∧ sizedMet enc C.prog fn (OpenSpec.ofChange s) apart (w.forCall tape i).memory i.args) ∧ a.holds C.prog (lone (Frame.enter C.prog f i.args .normal) [] (w.forCall tape i)))
    (contract : ∀ (W : World) (base : Nat) (args : Array Value) (ds gs : List (DataW H)) (before : List MemPlace),
      (∀ (j : Nat) t v, fn.params[j]? = some t → args[j]? = some v → Value.okWide C.prog W .any base t v) →
      DataW.Whole enc C.prog fn.params.toList s.vars apart W args.toList ds gs before →
      (DataW.weightsEach C.prog (fn.params.toList ++ s.plain.varTypes C.prog) (ds ++ gs)).all (· ≤ reachBytes) = true → X W args → W.ShapedOpen C.prog →
      Calls C.prog f args W fun e W' => ∃ v, e = .returned v ∧ s.post enc C.prog fn apart fresh handsOn again W args v W') :
    ReturnsInHanded a C os f .any (fun w args => (s.pre enc C.prog fn conds apart w args ∧ X w args) ∧ sizedMet enc C.prog fn (OpenSpec.ofChange s) apart w args) (s.post enc C.prog fn apart fresh handsOn again) := by
  refine returnsInHanded_of_calls own started noInit witness ?_
  intro w tape i _ hsh _ hok hpre hholds
  obtain ⟨_, _, _, fn', hfn', _, _, _, _, hval⟩ := hok
  obtain rfl : fn' = fn := Option.some.inj (hfn'.symm.trans hfn)
  obtain ⟨⟨⟨ds, gs, before, hw, hc⟩, hx⟩, hz⟩ := hpre
  refine (contract (w.forCall tape i) w.heap.size i.args ds gs before hval (DataW.Whole.of_heap (w' := w.forCall tape i) (by rfl) hw) (hz.weights hw) (hX _ _ _ (by rfl) hx) hsh).mono fun e W' ⟨v, he, hp⟩ => ?_
  subst he
  exact ChangeSpec.post_blind hp
theorem ownN : ownKnob Tryz.prog.godebug = none := by kernel_rfl
theorem laidOut : laidOutB Tryz.prog = true := by kernel_rfl
def cellsIn (c : Array Value) : Obj → Obj
  | .cells _ t frozen => .cells c t frozen
  | o => o
def firstCells : Array Value := (Go.Pinned.utf8FirstZ.map fun (x : Nat) => Value.int .u8 (x : Int)).toArray
def tables (h : Array Obj) : Array Obj := ((((h.modify 0 (cellsIn #[.int .u64 1, .int .u64 10, .int .u64 100, .int .u64 1000, .int .u64 10000, .int .u64 100000, .int .u64 1000000, .int .u64 10000000, .int .u64 100000000, .int .u64 1000000000, .int .u64 10000000000, .int .u64 100000000000, .int .u64 1000000000000, .int .u64 10000000000000, .int .u64 100000000000000, .int .u64 1000000000000000, .int .u64 10000000000000000, .int .u64 100000000000000000, .int .u64 1000000000000000000, .int .u64 10000000000000000000])).modify 4 (cellsIn firstCells)).modify 5 (cellsIn #[.int .u8 128, .int .u8 191, .int .u8 160, .int .u8 191, .int .u8 128, .int .u8 159, .int .u8 144, .int .u8 191, .int .u8 128, .int .u8 143, .int .u8 0, .int .u8 0, .int .u8 0, .int .u8 0, .int .u8 0, .int .u8 0, .int .u8 0, .int .u8 0, .int .u8 0, .int .u8 0, .int .u8 0, .int .u8 0, .int .u8 0, .int .u8 0, .int .u8 0, .int .u8 0, .int .u8 0, .int .u8 0, .int .u8 0, .int .u8 0, .int .u8 0, .int .u8 0])).modify 1 (cellsIn #[.int .u8 0, .int .u8 1, .int .u8 28, .int .u8 2, .int .u8 29, .int .u8 14, .int .u8 24, .int .u8 3, .int .u8 30, .int .u8 22, .int .u8 20, .int .u8 15, .int .u8 25, .int .u8 17, .int .u8 4, .int .u8 8, .int .u8 31, .int .u8 27, .int .u8 13, .int .u8 23, .int .u8 21, .int .u8 19, .int .u8 16, .int .u8 7, .int .u8 26, .int .u8 12, .int .u8 18, .int .u8 6, .int .u8 11, .int .u8 5, .int .u8 10, .int .u8 9])).modify 2 (cellsIn #[.int .u8 0, .int .u8 1, .int .u8 56, .int .u8 2, .int .u8 57, .int .u8 49, .int .u8 28, .int .u8 3, .int .u8 61, .int .u8 58, .int .u8 42, .int .u8 50, .int .u8 38, .int .u8 29, .int .u8 17, .int .u8 4, .int .u8 62, .int .u8 47, .int .u8 59, .int .u8 36, .int .u8 45, .int .u8 43, .int .u8 51, .int .u8 22, .int .u8 53, .int .u8 39, .int .u8 33, .int .u8 30, .int .u8 24, .int .u8 18, .int .u8 12, .int .u8 5, .int .u8 63, .int .u8 55, .int .u8 48, .int .u8 27, .int .u8 60, .int .u8 41, .int .u8 37, .int .u8 16, .int .u8 46, .int .u8 35, .int .u8 44, .int .u8 21, .int .u8 52, .int .u8 32, .int .u8 23, .int .u8 11, .int .u8 54, .int .u8 26, .int .u8 40, .int .u8 15, .int .u8 34, .int .u8 20, .int .u8 31, .int .u8 10, .int .u8 25, .int .u8 14, .int .u8 19, .int .u8 9, .int .u8 13, .int .u8 8, .int .u8 7, .int .u8 6])
/- A world for the witness is the settled one, the tables holding what is listed. -/
set_option maxRecDepth 100000 in
theorem laid_met (os : Os) (args : Array Value) : laidMetH Tryz.prog Rows.treeNestsRow.laid (({ World.holding Tryz.prog os ⟨#[], #[], []⟩ with heap := tables (World.holding Tryz.prog os ⟨#[], #[], []⟩).heap } : World).forCall (fun _ _ => 0) ⟨#[], args, []⟩).memory :=
  laidMetH_of_parts3 (fuel := 8) (laidMet_of_run' 8 (by kernel_rfl) (by kernel_rfl)) (by kernel_rfl) (by kernel_rfl)

end Go.Proofs.YtdfambocenohgaaGreatDoor

namespace Go.Proofs.YtdfambocenohgaaGreatDoor
open Go.ChangeShapes Go.WideShapes Go.ChangeAt Go.RowKit Go.Deep
set_option linter.unusedVariables false
set_option linter.unusedSimpArgs false

theorem cells5 : Tryz.prog.cellsOf 5 = 1 := by kernel_rfl
theorem ku8_of {H : Type} {enc : TypeId × Value → H} {W : World} {v : Value} {d : DataW H} {ps : List MemPlace} {a0 : Option Addr} {len cap : Nat} (hv : v = .slice a0 len cap) (h : DataW.Trod enc Tryz.prog W 0 (fun _ => true) true 44 v d ps) :
    ∃ bs : List Nat, len = bs.length ∧ KU8 W a0 bs ∧ len ≤ 9223372036854775807 := by
  subst hv
  obtain ⟨fuel, hf⟩ := h
  rcases open_ints Tryz.underlying44 Tryz.underlying5 cells5 hf with ⟨hcs, _⟩ | ⟨a, l, c, zs, hcs, _, hl, hm, hz, _, hc, hwf⟩
  · simp [Value.cells] at hcs
    obtain ⟨rfl, rfl, rfl⟩ := hcs
    exact ⟨[], rfl, fun j c h => by simp at h, by omega⟩
  · simp [Value.cells] at hcs
    obtain ⟨rfl, rfl, rfl⟩ := hcs
    simp at hz
    have hzl : ((zs.take len).map fun z => z.toNat).length = len := by simp; omega
    have hby : ∀ z ∈ zs, 0 ≤ z ∧ z ≤ 255 := fun z hz => by simpa [Lit.wf, IntKind.min, IntKind.max, IntKind.signed, IntKind.bits] using hwf z hz
    refine ⟨(zs.take len).map fun z => z.toNat, hzl.symm, ?_, by unfold maxLen at hm; omega⟩
    intro j x hx
    simp only [List.getElem?_map, Option.map_eq_some_iff] at hx
    obtain ⟨z, hz', rfl⟩ := hx
    have hz2 := List.mem_of_getElem? hz'
    rw [List.getElem?_take] at hz'
    split at hz'
    · rename_i hjl
      have h0 := hc 0 (by omega)
      have hj := hc j (by omega)
      have hspot := World.cell?_spot h0
      obtain ⟨b, off, spot⟩ := a
      simp [Addr.add] at hspot
      subst hspot
      have := hby z (List.mem_of_mem_take hz2)
      refine ⟨by omega, b, off, rfl, ?_⟩
      rw [Addr.add_lit] at hj
      rw [hj]
      have e : zs.getD j 0 = z := by simp [List.getD, hz']
      rw [e]
      congr 2
      omega
    · cases hz'
theorem byte_of {H : Type} {enc : TypeId × Value → H} {W : World} {x : Int} {d : DataW H} {ps : List MemPlace} (h : DataW.Trod enc Tryz.prog W 0 (fun _ => true) true 5 (.int .u8 x) d ps) : ∃ n : Nat, x = (n : Int) ∧ n < 256 := by
  obtain ⟨fuel, hf⟩ := h
  obtain ⟨n, e, _, w⟩ := DataW.trod_int Tryz.underlying5 hf
  simp [Value.cells] at e
  subst e
  have : 0 ≤ x ∧ x ≤ 255 := by simpa [Lit.wf, IntKind.min, IntKind.max, IntKind.signed, IntKind.bits] using w
  exact ⟨x.toNat, by omega, by omega⟩
set_option maxRecDepth 100000 in
theorem nests_lifted (os : Os) (started : os.Started) (H : Type) (enc : TypeId × Value → H) :
    ReturnsInHanded {} Tryz.checked os 5 .any (fun w args => (Rows.treeNestsSpec.pre enc Tryz.prog Tryz.f5 [] false w args ∧ laidMetH Tryz.prog Rows.treeNestsRow.laid w) ∧ sizedMet enc Tryz.prog Tryz.f5 (OpenSpec.ofChange Rows.treeNestsSpec) false w args)
      (Rows.treeNestsSpec.post enc Tryz.prog Tryz.f5 false true false false) := by
  refine handed_laid (C := Tryz.checked) (X := fun w _ => laidMetH Tryz.prog Rows.treeNestsRow.laid w) (fun _ _ _ hh h => h.of_heap hh) ownN started (by kernel_rfl) Tryz.func5
    (ChangeSpec.witness_at (enc := enc) (C := Tryz.checked) (os := os) (X := fun w _ => laidMetH Tryz.prog Rows.treeNestsRow.laid w) false ({ World.holding Tryz.prog os ⟨#[], #[], []⟩ with heap := tables (World.holding Tryz.prog os ⟨#[], #[], []⟩).heap } : World) #[.slice none 0 0, .int .u8 0] 8 rfl (by kernel_rfl) (by kernel_rfl) (by kernel_rfl) (by kernel_rfl) (by kernel_rfl) (laid_met os _)) ?_
  intro W base args ds gs before hval0 hW _ hL hsh
  have hval : ∀ (j : Nat) t v, Tryz.f5.params[j]? = some t → args[j]? = some v → Value.okWide Tryz.prog W .any base t v := hval0
  have hW' := hW
  obtain ⟨p, q, hA0, hV, rfl, hfz, hnd⟩ := hW
  have hA : DataW.TrodAll enc Tryz.prog W 0 (fun _ => true) true Tryz.f5.params.toList args.toList ds p := hA0
  rw [Tryz.params5] at hA hval
  obtain ⟨v0, vs0, d0, ds0, p0, q0, hargs, rfl, rfl, h0, r0⟩ := trodAll_cons hA
  obtain ⟨v1, vs1, d1, ds1, p1, q1, rfl, rfl, rfl, h1, r1⟩ := trodAll_cons r0
  obtain ⟨rfl, rfl, rfl⟩ := trodAll_nil r1
  obtain rfl : args = #[v0, v1] := by cases args; simp_all
  obtain ⟨rfl, rfl⟩ := trodVars_none hV
  obtain ⟨a0, len0, cap0, rfl⟩ := okWide_slice Tryz.underlying44 (hval 0 44 v0 rfl rfl)
  obtain ⟨x1, rfl⟩ := okWide_int Tryz.underlying5 (hval 1 5 v1 rfl rfl)
  have lt0 : ∀ x ∈ p0, x.block < W.heap.size := by obtain ⟨m, hm⟩ := h0; exact DataW.trod_lt m _ _ _ hm
  have lt1 : ∀ x ∈ p1, x.block < W.heap.size := by obtain ⟨m, hm⟩ := h1; exact DataW.trod_lt m _ _ _ hm
  obtain ⟨bs0, hl0, hb0, hm0⟩ := ku8_of rfl h0
  obtain ⟨b1, rfl, hb1⟩ := byte_of h1
  clear hA0 hval0
  refine (nests_any W (env_of hL hsh) a0 len0 cap0 bs0 hl0 hm0 hb0 b1 hb1).mono fun e W' ⟨he, bel⟩ => ?_
  subst he
  exact ⟨_, rfl, _, _, _, [], _, [], hW', trodAll_mk1 (shut_bool Tryz.underlying4 _), (trodAll_cons_mk (Below.trod laidOut (by kernel_rfl) (of_decide_eq_true (by kernel_rfl)) h0 bel lt0) (trodAll_cons_mk (Below.trod laidOut (by kernel_rfl) (of_decide_eq_true (by kernel_rfl)) h1 bel lt1) trodAll_mk0)), rfl, bel.frame _, fun h => by cases h⟩

set_option maxRecDepth 100000 in
theorem treeNests_row : Rows.TreeNestsSaid :=
  OpenClaim.holds_of_wide 5 Tryz.f5 rfl rfl rfl rfl rfl rfl rfl ⟨rfl, rfl, rfl, rfl, rfl⟩ rfl rfl rfl rfl rfl (by kernel_rfl) Tryz.func5 (by kernel_rfl)
    (of_decide_eq_true (by kernel_rfl)) (by unfold Func.isWrapper; first | (rw [if_pos (by decide +kernel)]; kernel_rfl) | (rw [if_neg (by decide +kernel)]; exact ⟨rfl, rfl⟩))
    (fun os started H enc _ => nests_lifted os started H enc)

theorem treeNests_card : Rows.TreeNestsCardSaid :=
  Claim7.holds_tied_plain_at .later [] [.data, .data, .data, .data, .pinned] true (true, "9d5df9ef5482f6532202ed0312d6d44dae45128e7a6f8fd6bc4d301eec3a37a8") true
    treeNests_row (fun _ h => by cases h) (by kernel_rfl) (fun _ h => by cases h) treeNests_row_tie rfl ⟨rfl, rfl⟩ (by kernel_rfl) rfl
    (fun f fn hf hfn => by
      obtain rfl : f = 5 := Option.some.inj ((show Tryz.prog.funcNamed "windlass/windlasslaw6.TreeNests" = some 5 by kernel_rfl).symm.trans hf) |>.symm
      obtain rfl : fn = Tryz.f5 := (Option.some.inj (Tryz.func5.symm.trans hfn)).symm
      exact ⟨by kernel_rfl, fun j t ht => by
        rw [Tryz.params5] at ht
        rcases j with _ | _ | j
        · obtain rfl : t = 44 := by simpa using ht.symm
          exact (show Tryz.prog.wantsStandIn 44 = false by kernel_rfl)
        · obtain rfl : t = 5 := by simpa using ht.symm
          exact (show Tryz.prog.wantsStandIn 5 = false by kernel_rfl)
        · simp at ht⟩)
    (by kernel_rfl)
end Go.Proofs.YtdfambocenohgaaGreatDoor

