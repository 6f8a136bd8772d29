/-
  ParseDeep returns true for every number and every row of bytes, and the row reads behind the call as it read before.
  Its conditions: the library's tables and its two errors hold at the call what the program's text lays there; the number, the row and those variables are together of bulk at most 1048576.
-/
import Derived.Test.YtcnohgifihbkdaaGreatDoorJBC
import Derived.Test.YtcnohgifihbkdaaGreatDoorTie
import Derived.Test.YtcnohgifihbkdaaGreatDoorCards
import Derived.LaidSub
import Derived.LaidLaws
import Derived.LaidHandle
import Derived.Stop.LaidErr
import Derived.Shelf.Vars
import Derived.Lib.LaidTab
import Derived.Handed
import Derived.HandedShaped
import Derived.ChangeSame
import Derived.ChangeAt
import Derived.ChangeVars
import Derived.JoinedOf
import Derived.RowKit
import Derived.RowKitTokens
import Derived.SevenTiedAt
import Derived.ProofKit
import Derived.OpenShut
import Derived.ChangeOld
import Derived.ChangeMaps5
import GoSem.PinnedTables
import Derived.Deep.DeepHandedRow
import Derived.Deep.Slices
import Derived.Carry
namespace Go.Proofs.YtcnohgifihbkdaaGreatDoor
open Go Go.RowKit Go.Deep Go.Shelf
set_option linter.unusedVariables false
set_option linter.unusedSimpArgs false
set_option maxRecDepth 100000
theorem SsR.none {w : World} {A : Nat → Prop} {v : Value} {b : List PSt} (h : SsR w A v b) (hb : [] = b.map pkS) : ∃ (a : Option Addr) (c : Nat), v = .slice a 0 c := by
  obtain rfl : b = [] := List.map_eq_nil_iff.1 hb.symm
  obtain ⟨a, c, rfl, _⟩ := h.slice
  exact ⟨a, c, rfl⟩
def shD (g off : Nat) (aa : Option Addr) (ac : Nat) (ba : Option Addr) (bc : Nat) (ea : Option Addr) (ec : Nat) : Lx.SH := { b := g, o := off, kind := 13, name := Lx.emp, label := Lx.emp, var := Lx.emp, aa := aa, an := 1, ac := ac, ba := ba, bn := 0, bc := bc, ea := ea, en := 0, ec := ec, pos := 9 }
def dhD (g off : Nat) (pa : Option Addr) (pc : Nat) (ba : Option Addr) (bc : Nat) : Lx.DH := { sort := Lx.wOn, b := g, o := off, name := ⟨#[101]⟩, pa := pa, pn := 0, pc := pc, key := Lx.emp, value := Lx.emp, result := Lx.emp, ba := ba, bn := 1, bc := bc, pos := 0, params := [] }
theorem right_sh (g off : Nat) (aa : Option Addr) (ac : Nat) (ba : Option Addr) (bc : Nat) (ea : Option Addr) (ec : Nat) : Lx.rightS (shD g off aa ac ba bc ea ec) = true := by
  simp [Lx.rightS, Lx.okS, Lx.alikeS, Lx.meantS, shD]
theorem right_dh (g off : Nat) (pa : Option Addr) (pc : Nat) (ba : Option Addr) (bc : Nat) : Lx.rightD (dhD g off pa pc ba bc) = true := by
  have h1 : Lx.smallB ⟨#[101]⟩ = true := by kernel_rfl
  have h2 : Lx.paramsB Lx.typB [] = true := by kernel_rfl
  have n1 : ¬ Lx.wOn = Lx.wRec := by decide
  have n2 : ¬ Lx.wOn = Lx.wMap := by decide
  have n3 : ¬ Lx.wOn = Lx.wFn := by decide
  simp [Lx.rightD, Lx.okD, Lx.alikeD, Lx.meantD, dhD, n1, n2, n3, h1, h2]
set_option maxHeartbeats 1000000 in
theorem depth_deep (X : World) (A : Nat → Prop) (v : Value) (ks : List Nat) (h : ks.length ≤ 39) (hR : RTr X A v (tD ks)) (hE : Lx.EnvT X) : Calls Tryz.prog 12 #[v] X fun e w' => ∃ m : Nat, e = .returned (.int .i64 (m : Int)) ∧ m ≤ 2 * ks.length + 1 ∧ Below X.heap.size X w' := by
  obtain ⟨v0, v1, v2, v3, rfl, L0, L1, L2, L3⟩ := hR
  obtain ⟨a0, k0, rfl⟩ := L0.form
  obtain ⟨a1, k1, rfl⟩ := L1.form
  obtain ⟨a2, k2, rfl⟩ := L2.form
  obtain ⟨g, off, cap, r, rfl, hc, hg, hA, ⟨pv, bv, b, rfl, hp, hs, hb⟩, hcell⟩ := L3.at (j := 0) rfl
  obtain ⟨pa, pc, rfl, _⟩ := hp.1.rd
  obtain ⟨s', rfl, hs'⟩ := map_one (show [pkS (stX (eD ks 12))] = b.map pkS from hb)
  obtain ⟨g2, off2, cap2, av, bv2, ev, xs, b2, e2, rfl, hc2, hg2, _, ⟨qx, q1⟩, ⟨qb, q2⟩, ⟨qe, q3⟩, hcell2⟩ := hs.at (j := 0) rfl
  obtain ⟨_, _, _, _, p5, p6, p7, _⟩ := pkS_eq hs'
  obtain ⟨ba, bc, rfl⟩ := qb.none (show [] = b2.map pkS by rw [← q2, p6]; rfl)
  obtain ⟨ea, ec, rfl⟩ := qe.none (show [] = e2.map pkS by rw [← q3, p7]; rfl)
  obtain ⟨x, rfl, hx⟩ := mapE_one (show [pkE (eD ks 12)] = xs.map pkE by rw [← q1, p5]; rfl)
  obtain ⟨g3, off3, cap3, u, rfl, hu, hat, hN⟩ := nest_of ks ks.length 12 _ x (Nat.le_refl _) qx hx
  have S := fun i hi => (hcell2 i hi).trans (by rw [sC_eq hs'])
  have D0 := hcell 0 (by omega)
  have D1 := hcell 1 (by omega)
  have D2 := hcell 2 (by omega)
  have D3 := hcell 3 (by omega)
  have D4 := hcell 4 (by omega)
  have D5 := hcell 5 (by omega)
  have D6 := hcell 6 (by omega)
  have S0 := S 0 (by omega)
  have S1 := S 1 (by omega)
  have S2 := S 2 (by omega)
  have S3 := S 3 (by omega)
  have S4 := S 4 (by omega)
  have S5 := S 5 (by omega)
  have S6 := S 6 (by omega)
  have S7 := S 7 (by omega)
  rw [Nat.zero_mul, Nat.add_zero] at D0 D1 D2 D3 D4 D5 D6 S0 S1 S2 S3 S4 S5 S6 S7
  have e0 : Lx.emp.size ≤ 9223372036854775807 := by decide
  have hsr : Lx.SHr X (shD g2 off2 (some ⟨g3, off3, none⟩) cap3 ba bc ea ec) := ⟨S0, S1, S2, S3, S4, S5, S6, S7, e0, e0, e0, by show (1 : Nat) ≤ 1000000; omega, Nat.zero_le _, Nat.zero_le _⟩
  have hst : Lx.SRds (ks.length + 2) X ((shD g2 off2 (some ⟨g3, off3, none⟩) cap3 ba bc ea ec, [u], [], []) : Lx.SH × List (Lx.ET (ks.length + 1)) × List (Lx.ST (ks.length + 1)) × List (Lx.ST (ks.length + 1))) :=
    ⟨hsr, ⟨rfl, rfl, rfl⟩, ⟨fun i t e => by
      match i, e with
      | 0, e => simp at e; subst e; exact ⟨g3, off3, rfl, by rw [hat]; simp⟩
      | i + 1, e => simp at e, fun i t e => by simp at e, fun i t e => by simp at e⟩, fun t ht => by
      simp only [List.mem_cons, List.not_mem_nil, or_false] at ht
      subst ht
      exact hu, fun t ht => by simp at ht, fun t ht => by simp at ht⟩
  have hdr : Lx.DHr X (dhD g off pa pc (some ⟨g2, off2, none⟩) cap2) := ⟨D0, D1, D2, D3, D4, D5, D6, by show (1 : Nat) ≤ _; omega, e0, e0, e0, rfl, Nat.zero_le _, fun s hs => by simp [dhD] at hs, fun i s e => by simp [dhD] at e, by show (1 : Nat) ≤ 1000000; omega⟩
  obtain ⟨st, hstd⟩ : ∃ st : Lx.ST (ks.length + 2), st = ((shD g2 off2 (some ⟨g3, off3, none⟩) cap3 ba bc ea ec, [u], [], []) : Lx.SH × List (Lx.ET (ks.length + 1)) × List (Lx.ST (ks.length + 1)) × List (Lx.ST (ks.length + 1))) := ⟨_, rfl⟩
  have hdd : Lx.DRds (ks.length + 2) X ((dhD g off pa pc (some ⟨g2, off2, none⟩) cap2, [st]) : Lx.DH × List (Lx.ST (ks.length + 2))) := ⟨hdr, rfl, fun i t e => by
      match i, e with
      | 0, e => simp at e; subst e; exact ⟨g2, off2, rfl, by rw [hstd]; show (g2, off2) = _; simp⟩
      | i + 1, e => simp at e, fun t ht => by
      have ht : t = st := by simpa using ht
      subst ht
      rw [hstd]
      exact hst⟩
  have hrd : Lx.rightD (dhD g off pa pc (some ⟨g2, off2, none⟩) cap2) = true := right_dh ..
  have hrs : Lx.rightS (shD g2 off2 (some ⟨g3, off3, none⟩) cap3 ba bc ea ec) = true := right_sh ..
  have hos : Lx.okSX (ks.length + 2) st := by
    rw [hstd]
    exact ⟨hrs, rfl, fun t ht => by
      simp only [List.mem_cons, List.not_mem_nil, or_false] at ht
      subst ht
      exact hN.1⟩
  have hds : Lx.dpS (ks.length + 2) st ≤ 2 * ks.length := by
    rw [hstd]
    show Lx.stD (shD g2 off2 (some ⟨g3, off3, none⟩) cap3 ba bc ea ec) [Lx.dpE (ks.length + 1) u] [] [] ≤ _
    simp [Lx.stD, Lx.smD, shD, Lx.h1]
    exact hN.2.1
  have hps : (Lx.prS (ks.length + 2) st).length ≤ 4 * ks.length + 10 := by
    rw [hstd]
    show (Lx.stB (shD g2 off2 (some ⟨g3, off3, none⟩) cap3 ba bc ea ec) [Lx.prE (ks.length + 1) u] [] []).length ≤ _
    have := hN.2.2
    simp [Lx.stB, Lx.smB, shD, Lx.h1, Lx.catL, Lx.sDo]
    omega
  have hpt : ∀ p ∈ Lx.ptS (ks.length + 2) st, Lx.rightP p = true ∧ Lx.PartK p := by
    rw [hstd]
    intro p hp
    rcases List.mem_cons.1 hp with rfl | hp
    · exact ⟨hrs, rfl⟩
    · have : p ∈ Lx.ptE (ks.length + 1) u := by simpa using hp
      obtain ⟨x, rfl, q1, q2⟩ := hN.1 p this
      exact ⟨q1, q2⟩
  obtain ⟨T, hT⟩ : ∃ T : Lx.TT (ks.length + 2), T = ⟨{ b := 0, o := 0, ra := a0, rn := 0, rc := k0, ma := a1, mn := 0, mc := k1, fa := a2, fn := 0, fc := k2, ea := some ⟨g, off, none⟩, en := 1, ec := cap }, [], [], [], [((dhD g off pa pc (some ⟨g2, off2, none⟩) cap2, [st]) : Lx.DH × List (Lx.ST (ks.length + 2)))]⟩ := ⟨_, rfl⟩
  have nilD : ∀ (s : ByteArray) (a : Option Addr), Lx.DLs (ks.length + 2) X s a 0 [] := fun s a => ⟨rfl, fun i t e => by simp at e, fun t ht => by simp at ht, fun t ht => by simp at ht⟩
  have hV : Lx.TVs (ks.length + 2) X T := by
    rw [hT]
    refine ⟨nilD _ _, nilD _ _, nilD _ _, ⟨rfl, fun i t e => ?_, fun t ht => ?_, fun t ht => ?_⟩, Nat.zero_le _, Nat.zero_le _, Nat.zero_le _, by show (1 : Nat) ≤ 1000000; omega⟩
    · match i, e with
      | 0, e => obtain rfl := Option.some.inj e; exact ⟨g, off, rfl, by show (g, off) = _; simp⟩
      | i + 1, e => cases (show (none : Option (Lx.DT (ks.length + 2))) = some t from e)
    · have ht := (List.mem_singleton (a := t) (b := (((dhD g off pa pc (some ⟨g2, off2, none⟩) cap2, [st]) : Lx.DH × List (Lx.ST (ks.length + 2))) : Lx.DT (ks.length + 2)))).1 ht
      subst ht
      exact hdd
    · have ht := (List.mem_singleton (a := t) (b := (((dhD g off pa pc (some ⟨g2, off2, none⟩) cap2, [st]) : Lx.DH × List (Lx.ST (ks.length + 2))) : Lx.DT (ks.length + 2)))).1 ht
      subst ht
      rfl
  have hok : Lx.okTX (ks.length + 2) T := by
    rw [hT]
    refine ⟨fun t ht => by simp at ht, fun t ht => by simp at ht, fun t ht => by simp at ht, fun t ht => ?_⟩
    have ht := (List.mem_singleton (a := t) (b := (((dhD g off pa pc (some ⟨g2, off2, none⟩) cap2, [st]) : Lx.DH × List (Lx.ST (ks.length + 2))) : Lx.DT (ks.length + 2)))).1 ht
    subst ht
    refine ⟨rfl, by show Lx.emp.toList = []; kernel_rfl, fun q hq => ?_⟩
    have : q = st := by simpa using hq
    subst this
    exact hos
  have hin : ∀ p ∈ Lx.inT T, Lx.rightP p = true ∧ Lx.PartK p := by
    rw [hT]
    intro p hp
    have hp2 := hp
    simp [Lx.inT] at hp2
    obtain ⟨q, hq, hp⟩ := hp2
    obtain rfl := List.mem_singleton.1 hq
    rcases List.mem_cons.1 hp with rfl | hp
    · exact ⟨hrd, rfl⟩
    · have : p ∈ Lx.ptS (ks.length + 2) st := by simpa using hp
      exact hpt p this
  have hall : Lx.okT T = true := by
    unfold Lx.okT
    rw [Bool.and_eq_true]
    refine ⟨by rw [hT]; rfl, List.all_eq_true.2 fun p hp => (hin p hp).1⟩
  have n1 : ¬ Lx.wOn = Lx.wRec := by decide
  have n2 : ¬ Lx.wOn = Lx.wMap := by decide
  have hdp : Lx.dpT (ks.length + 2) T ≤ 2 * ks.length + 1 := by
    rw [hT]
    have e : Lx.dcD (dhD g off pa pc (some ⟨g2, off2, none⟩) cap2) [Lx.dpS (ks.length + 2) st] = 1 + max (Lx.dpS (ks.length + 2) st) 0 := by
      simp [Lx.dcD, dhD, n1, n2, Lx.mxL]
    show max (max (max 0 0) 0) (max (Lx.dcD (dhD g off pa pc (some ⟨g2, off2, none⟩) cap2) [Lx.dpS (ks.length + 2) st]) 0) ≤ _
    rw [e]
    omega
  have hpl : (Lx.prT (ks.length + 2) T).length ≤ 4 * ks.length + 100 := by
    rw [hT]
    have l4 : Lx.emp.toList = [] := by kernel_rfl
    have e : (Lx.dcB (dhD g off pa pc (some ⟨g2, off2, none⟩) cap2) [Lx.prS (ks.length + 2) st]).length ≤ (Lx.prS (ks.length + 2) st).length + 50 := by
      unfold Lx.dcB
      rw [if_neg (show ¬ (dhD g off pa pc (some ⟨g2, off2, none⟩) cap2).sort = Lx.wRec from n1), if_neg (show ¬ (dhD g off pa pc (some ⟨g2, off2, none⟩) cap2).sort = Lx.wMap from n2)]
      have r1 : Lx.rsB (dhD g off pa pc (some ⟨g2, off2, none⟩) cap2).result = [] := by show (if Lx.emp.toList = [] then _ else _) = _; exact if_pos l4
      have r2 : (Lx.catL [(dhD g off pa pc (some ⟨g2, off2, none⟩) cap2).sort, Lx.sSp, (dhD g off pa pc (some ⟨g2, off2, none⟩) cap2).name] ++ Lx.catL [Lx.sPar] ++ Lx.jn ((dhD g off pa pc (some ⟨g2, off2, none⟩) cap2).params.map Lx.pmB) ++ [41]).length = 6 := rfl
      have r3 : (Lx.bkB [Lx.prS (ks.length + 2) st]).length = (Lx.prS (ks.length + 2) st).length + 5 := by simp [Lx.bkB]
      rw [r1, List.append_nil, List.length_append, r2, r3]
      omega
    show (Lx.lnB [] ++ Lx.lnB [] ++ Lx.lnB [] ++ Lx.lnB [Lx.dcB (dhD g off pa pc (some ⟨g2, off2, none⟩) cap2) [Lx.prS (ks.length + 2) st]]).length ≤ _
    have e0 : (Lx.lnB []) = [] := rfl
    have e1 : (Lx.lnB [Lx.dcB (dhD g off pa pc (some ⟨g2, off2, none⟩) cap2) [Lx.prS (ks.length + 2) st]]).length = (Lx.dcB (dhD g off pa pc (some ⟨g2, off2, none⟩) cap2) [Lx.prS (ks.length + 2) st]).length + 1 := by simp [Lx.lnB]
    rw [e0, List.nil_append, List.nil_append, List.nil_append, e1]
    omega
  have K := (Lx.depthX (ks.length + 2) X T hV hok (fun p hp => (hin p hp).2) hall hE (by omega) (by omega)).mono (fun e w' q => (⟨_, q.1, hdp, q.2⟩ : ∃ m : Nat, e = .returned (.int .i64 (m : Int)) ∧ m ≤ 2 * ks.length + 1 ∧ Below X.heap.size X w'))
  rw [hT] at K
  exact K
end Go.Proofs.YtcnohgifihbkdaaGreatDoor

namespace Go.Proofs.YtcnohgifihbkdaaGreatDoor
open Go.ChangeShapes Go.WideShapes Go.ChangeAt Go.RowKit Go.Deep Go.Shelf
set_option linter.unusedVariables false
set_option linter.unusedSimpArgs false
set_option maxRecDepth 100000
theorem ownN : ownKnob Tryz.prog.godebug = none := by kernel_rfl
theorem mx_of {W : World} (hs : W.ShapedOpen Tryz.prog) : Lx.MX W :=
  cell_of_shapedOpen_int hs (t := 3) (zero := #[.int .i64 0]) (of_decide_eq_true (by kernel_rfl)) (by kernel_rfl) rfl (by kernel_rfl) (by kernel_rfl) Tryz.underlying3
theorem starE : "*" ++ "errors.errorString" = "*errors.errorString" := by decide
theorem row254 (u : TypeId) (h : Tryz.prog.typeName? 3 u = some "*errors.errorString") : u = 252 :=
  typeName_ptr_named (nm := "errors.errorString") (by rw [starE]; kernel_rfl) (by kernel_rfl) (by decide) u (by rw [starE]; exact h)
def rngData : DataW Unit := .iface "*errors.errorString" (.ptr (.agg [.lit (.string [118, 97, 108, 117, 101, 32, 111, 117, 116, 32, 111, 102, 32, 114, 97, 110, 103, 101])]))
theorem gl_of {W : World} {laid : List (String × DataW Unit)} (hs : W.ShapedOpen Tryz.prog) (hL : laidMetH Tryz.prog laid W) (e : (laid.filter fun x => x.1 == "strconv.ErrRange") = [("strconv.ErrRange", rngData)]) : Gl W := by
  have h := hL.filter (fun x => x.1 == "strconv.ErrRange")
  rw [e] at h
  have h2 : laidMet Tryz.prog [("strconv.ErrRange", rngData)] W := (laidMetH_iff.1 h).1
  obtain ⟨a, s, hv, _, _, _⟩ := laid_sentinel h2 (g := 7) (ti := 176) (tp := 252) (te := 254) (ts := 9) (by kernel_rfl) (by kernel_rfl) Tryz.underlying176 row254 Tryz.underlying252 Tryz.underlying254 rfl rfl Tryz.underlying9 (by kernel_rfl) (by kernel_rfl)
  obtain ⟨cs, hh, hz, _⟩ := hs.1 7 #[.nilIface] 176 (of_decide_eq_true (by kernel_rfl)) (by kernel_rfl)
  have hc : W.cell? ⟨7, 0, none⟩ = some (.iface 252 (.pointer (some a))) := by simpa using World.var?_cell (P := Tryz.prog) (n := "strconv.ErrRange") (g := 7) (by kernel_rfl) hv 0
  have hc2 := (cellOf hh 0).symm.trans hc
  obtain ⟨l⟩ := cs
  match l, hz with
  | [x], _ =>
    have hx : x = .iface 252 (.pointer (some a)) := by simpa using hc2
    subst hx
    exact ⟨_, _, _, hh⟩
/- A contract under the row's conditions, the world's shape and the tables at hand. -/
def cellsIn (c : Array Value) : Obj → Obj
  | .cells _ t frozen => .cells c t frozen
  | o => o
def firstCells : Array Value := (Go.Pinned.utf8FirstZ.map fun (x : Nat) => Value.int .u8 (x : Int)).toArray
def tables (h : Array Obj) : Array Obj := (((((((h.modify 1 (cellsIn firstCells)).modify 2 (cellsIn #[.int .u8 128, .int .u8 191, .int .u8 160, .int .u8 191, .int .u8 128, .int .u8 159, .int .u8 144, .int .u8 191, .int .u8 128, .int .u8 143, .int .u8 0, .int .u8 0, .int .u8 0, .int .u8 0, .int .u8 0, .int .u8 0, .int .u8 0, .int .u8 0, .int .u8 0, .int .u8 0, .int .u8 0, .int .u8 0, .int .u8 0, .int .u8 0, .int .u8 0, .int .u8 0, .int .u8 0, .int .u8 0, .int .u8 0, .int .u8 0, .int .u8 0, .int .u8 0])).modify 3 (cellsIn #[.int .u64 1, .int .u64 10, .int .u64 100, .int .u64 1000, .int .u64 10000, .int .u64 100000, .int .u64 1000000, .int .u64 10000000, .int .u64 100000000, .int .u64 1000000000, .int .u64 10000000000, .int .u64 100000000000, .int .u64 1000000000000, .int .u64 10000000000000, .int .u64 100000000000000, .int .u64 1000000000000000, .int .u64 10000000000000000, .int .u64 100000000000000000, .int .u64 1000000000000000000, .int .u64 10000000000000000000])).modify 4 (cellsIn #[.int .u8 0, .int .u8 1, .int .u8 28, .int .u8 2, .int .u8 29, .int .u8 14, .int .u8 24, .int .u8 3, .int .u8 30, .int .u8 22, .int .u8 20, .int .u8 15, .int .u8 25, .int .u8 17, .int .u8 4, .int .u8 8, .int .u8 31, .int .u8 27, .int .u8 13, .int .u8 23, .int .u8 21, .int .u8 19, .int .u8 16, .int .u8 7, .int .u8 26, .int .u8 12, .int .u8 18, .int .u8 6, .int .u8 11, .int .u8 5, .int .u8 10, .int .u8 9])).modify 5 (cellsIn #[.int .u8 0, .int .u8 1, .int .u8 56, .int .u8 2, .int .u8 57, .int .u8 49, .int .u8 28, .int .u8 3, .int .u8 61, .int .u8 58, .int .u8 42, .int .u8 50, .int .u8 38, .int .u8 29, .int .u8 17, .int .u8 4, .int .u8 62, .int .u8 47, .int .u8 59, .int .u8 36, .int .u8 45, .int .u8 43, .int .u8 51, .int .u8 22, .int .u8 53, .int .u8 39, .int .u8 33, .int .u8 30, .int .u8 24, .int .u8 18, .int .u8 12, .int .u8 5, .int .u8 63, .int .u8 55, .int .u8 48, .int .u8 27, .int .u8 60, .int .u8 41, .int .u8 37, .int .u8 16, .int .u8 46, .int .u8 35, .int .u8 44, .int .u8 21, .int .u8 52, .int .u8 32, .int .u8 23, .int .u8 11, .int .u8 54, .int .u8 26, .int .u8 40, .int .u8 15, .int .u8 34, .int .u8 20, .int .u8 31, .int .u8 10, .int .u8 25, .int .u8 14, .int .u8 19, .int .u8 9, .int .u8 13, .int .u8 8, .int .u8 7, .int .u8 6])).modify 6 (cellsIn #[.iface 252 (.pointer (some ⟨13, 0, none⟩))])).modify 7 (cellsIn #[.iface 252 (.pointer (some ⟨13 + 1, 0, none⟩))]))
def newErrs : Array Obj := #[.cells #[.string ⟨#[105, 110, 118, 97, 108, 105, 100, 32, 115, 121, 110, 116, 97, 120]⟩] 254, .cells #[.string ⟨#[118, 97, 108, 117, 101, 32, 111, 117, 116, 32, 111, 102, 32, 114, 97, 110, 103, 101]⟩] 254]
theorem laid_met {laid : List (String × DataW Unit)} (e : laid = Rows.parseElsesRow.laid) (os : Os) (args : Array Value) : laidMetH Tryz.prog laid (({ World.holding Tryz.prog os ⟨newErrs, #[], []⟩ with heap := tables (World.holding Tryz.prog os ⟨newErrs, #[], []⟩).heap } : World).forCall (fun _ _ => 0) ⟨#[], args, []⟩).memory := by
  subst e
  exact laidMetH_of_parts3 (fuel := 8) (laidMet_of_run' 8 (by kernel_rfl) (by kernel_rfl)) (by kernel_rfl) (by kernel_rfl)
end Go.Proofs.YtcnohgifihbkdaaGreatDoor

namespace Go.Proofs.YtcnohgifihbkdaaGreatDoor
open Go.ChangeShapes Go.WideShapes Go.ChangeAt Go.RowKit Go.Deep Go.Shelf
set_option linter.unusedVariables false
set_option linter.unusedSimpArgs false
set_option maxRecDepth 100000
theorem laidPx : laidOutB Tryz.prog = true := by kernel_rfl
theorem cells5x : Tryz.prog.cellsOf 5 = 1 := by kernel_rfl
theorem gaps_of {H : Type} {enc : TypeId × Value → H} {W : World} {d : DataW H} {ps : List MemPlace} {a0 : Option Addr} {len cap : Nat} (h : DataW.Trod enc Tryz.prog W 0 (fun _ => true) true 33 (.slice a0 len cap) d ps) : ∃ gs : List Nat, gs.length = len ∧ GRd W a0 gs := by
  obtain ⟨fuel, hf⟩ := h
  rcases open_slice1 Tryz.underlying33 cells5x hf with ⟨hcs, _⟩ | ⟨a, l, c, m, n, V, D, Pl, hcs, _, hl, _, hm, _, hx⟩
  · simp [Value.cells] at hcs
    obtain ⟨rfl, rfl, rfl⟩ := hcs
    exact ⟨[], rfl, fun j g e => by simp at e⟩
  · simp [Value.cells] at hcs
    obtain ⟨rfl, rfl, rfl⟩ := hcs
    simp at hm
    subst hm
    have hs : ∀ j, j < len → ∃ g : Nat, g ≤ 255 ∧ W.cell? (a.add j) = some (.int .u8 (g : Int)) := by
      intro j hj
      obtain ⟨h1, h2⟩ := hx j (by omega)
      obtain ⟨n0, e0, _, w0⟩ := DataW.trod_int Tryz.underlying5 h2
      have b0 : 0 ≤ n0 ∧ n0 ≤ 255 := by simpa [Lit.wf, IntKind.min, IntKind.max, IntKind.signed, IntKind.bits] using w0
      simp at e0
      refine ⟨n0.toNat, by omega, ?_⟩
      rw [h1, e0, Int.toNat_of_nonneg b0.1]
    refine ⟨(List.range len).map fun j => if hj : j < len then Classical.choose (hs j hj) else 0, by simp, fun j g e => ?_⟩
    rw [List.getElem?_map, Option.map_eq_some_iff] at e
    obtain ⟨i, hi, rfl⟩ := e
    obtain ⟨hjl, rfl⟩ := List.getElem?_eq_some_iff.1 hi
    rw [List.length_range] at hjl
    rw [List.getElem_range]
    simp only [hjl, dif_pos]
    obtain ⟨q1, q2⟩ := Classical.choose_spec (hs j hjl)
    generalize Classical.choose (hs j hjl) = g at q1 q2
    refine ⟨q1, ?_⟩
    obtain ⟨b, off, spot⟩ := a
    have hspot : spot = none := by
      obtain ⟨_, _, h0⟩ := hs 0 (by omega)
      simpa [Addr.add] using World.cell?_spot h0
    subst hspot
    rw [Addr.add_lit] at q2
    exact ⟨b, off, rfl, World.block_lt_of_cell? W _ q2, q2⟩
theorem deep_any (w : World) (n : Int) (a : Option Addr) (l c : Nat) (gs : List Nat) (hn : gs.length = l) (hR : GRd w a gs) (hE : Lx.EnvT w) (hG : Gl w) : Calls Tryz.prog 4 #[.int .i64 n, .slice a l c] w fun e w' => e = .returned (.bool true) ∧ Below w.heap.size w w' := by
  by_cases h : n < 0 ∨ 80 < n
  · exact deep_out w n a l c h hE hG
  · obtain ⟨N, rfl⟩ := Int.eq_ofNat_of_zero_le (show 0 ≤ n by omega)
    subst hn
    exact deep_in w N a c gs hR (by omega) hE hG depth_deep
theorem pow_namedD : Tryz.prog.globalNamed "internal/strconv.uint64pow10" = some 3 := by kernel_rfl
theorem env_ofD {W : World} {laid : List (String × DataW Unit)} (hL : laidMetH Tryz.prog laid W) (hs : W.ShapedOpen Tryz.prog) (e : (laid.filter fun x => x.1 == "internal/strconv.uint64pow10") = [("internal/strconv.uint64pow10", Lib.tabData .u64 Lib.pow10Tab)]) : Lx.EnvT W := by
  constructor
  · have h := hL.filter (fun x => x.1 == "internal/strconv.uint64pow10")
    rw [e] at h
    have h2 : laidMet Tryz.prog [("internal/strconv.uint64pow10", Lib.tabData .u64 Lib.pow10Tab)] W := (laidMetH_iff.1 h).1
    exact Lib.tabIs_of_head (t := 212) (e := 196) (n := 20) pow_namedD (by kernel_rfl) (by kernel_rfl) (by kernel_rfl) (by kernel_rfl) (by kernel_rfl) h2
  · exact mx_of hs
theorem deep_contract (H : Type) (enc : TypeId × Value → H) (W : World) (base : Nat) (args : Array Value) (ds gs : List (DataW H)) (before : List MemPlace)
    (hval0 : ∀ (j : Nat) t v, Tryz.f4.params[j]? = some t → args[j]? = some v → Value.okWide Tryz.prog W .any base t v)
    (hW : DataW.Whole enc Tryz.prog Tryz.f4.params.toList Rows.parseDeepSpec.vars false W args.toList ds gs before) (hL : laidMetH Tryz.prog Rows.parseDeepRow.laid W) (hsh : W.ShapedOpen Tryz.prog) :
    Calls Tryz.prog 4 args W fun e W' => ∃ v, e = .returned v ∧ Rows.parseDeepSpec.post enc Tryz.prog Tryz.f4 false true false false W args v W' := by
  have hval := hval0
  have hW' := hW
  obtain ⟨p, q, hA0, hV, rfl, hfz, hnd⟩ := hW
  have hA : DataW.TrodAll enc Tryz.prog W 0 (fun _ => true) true Tryz.f4.params.toList args.toList ds p := hA0
  rw [Tryz.params4] at hA hval
  obtain ⟨v0, vs0, d0, ds0, p0, q0, hargs, rfl, rfl, h0, r0⟩ := trodAll_cons hA
  obtain ⟨v1, vs1, d1, ds1, p1, q1, rfl, rfl, rfl, h1, r1⟩ := trodAll_cons r0
  obtain ⟨rfl, rfl, rfl⟩ := trodAll_nil r1
  obtain rfl : args = #[v0, v1] := by cases args; simp_all
  obtain ⟨rfl, rfl⟩ := trodVars_none hV
  obtain ⟨a0, rfl, rfl, rfl, w0⟩ := open_int Tryz.underlying3 (hval 0 3 v0 rfl rfl) h0
  obtain ⟨a1, len1, cap1, rfl⟩ := okWide_slice Tryz.underlying33 (hval 1 33 v1 rfl rfl)
  have lt1 : ∀ x ∈ p1, x.block < W.heap.size := by obtain ⟨m, hm⟩ := h1; exact DataW.trod_lt m _ _ _ hm
  obtain ⟨g, hgl, hg⟩ := gaps_of h1
  clear hA0 hval0
  refine (deep_any W a0 a1 len1 cap1 g hgl hg (env_ofD hL hsh (by kernel_rfl)) (gl_of hsh hL (by kernel_rfl))).mono fun e W' ⟨he, bel⟩ => ?_
  subst he
  exact ⟨_, rfl, _, _, _, [], _, [], hW', trodAll_mk1 (shut_bool Tryz.underlying4 _), (trodAll_cons_mk (shut_int Tryz.underlying3 w0) (trodAll_cons_mk (Below.trod laidPx (by kernel_rfl) (of_decide_eq_true (by kernel_rfl)) h1 bel lt1) trodAll_mk0)), rfl, bel.frame _, fun h => by cases h⟩
theorem dp_reads (os : Os) {H : Type} (enc : TypeId × Value → H) : ∃ places, DataW.whole enc Tryz.prog (({ World.holding Tryz.prog os ⟨newErrs, #[], []⟩ with heap := tables (World.holding Tryz.prog os ⟨newErrs, #[], []⟩).heap } : World).forCall (fun _ _ => 0) ⟨#[], #[.int .i64 0, .slice none 0 0], []⟩).memory Tryz.f4.params.toList Rows.parseDeepSpec.vars false #[Value.int .i64 0, Value.slice none 0 0].toList 8 = some ([.lit (.int .i64 0), .nil], [], places) :=
  ⟨[], by kernel_rfl⟩
theorem deepUpto_lifted (os : Os) (started : os.Started) (H : Type) (enc : TypeId × Value → H) (F : Stop.Interp) :
    ReturnsInHanded {} Tryz.checked os 4 .any ((Rows.OpenSpec.upto Rows.parseDeepSpec).preRow enc Tryz.prog Tryz.f4 Rows.parseDeepUptoRow.domain false Rows.parseDeepUptoRow.laid) (((Rows.OpenSpec.upto Rows.parseDeepSpec).at F).post enc Tryz.prog Tryz.f4 false true false false) := by
  obtain ⟨places, hx⟩ := dp_reads os enc
  refine returnsInHanded_of_row (C := Tryz.checked) (s := Rows.OpenSpec.upto Rows.parseDeepSpec) ownN started (by kernel_rfl) Tryz.func4
    (witness_row_at (enc := enc) (C := Tryz.checked) false ({ World.holding Tryz.prog os ⟨newErrs, #[], []⟩ with heap := tables (World.holding Tryz.prog os ⟨newErrs, #[], []⟩).heap } : World) #[.int .i64 0, .slice none 0 0] rfl (by kernel_rfl) (by kernel_rfl) (by kernel_rfl)
      (OpenSpec.preRow_of_cond 8 hx (by kernel_rfl) (fun k hk => by cases hk; kernel_rfl) (by kernel_rfl) (laid_met (by rfl) os _))) ?_
  intro W base args ds gs before hval hW _ _ _ hL hsh _
  exact deep_contract H enc W base args ds gs before hval hW hL hsh
theorem parseDeepUpto_row : Rows.ParseDeepUptoSaid :=
  OpenClaim.holds_of_cond 4 Tryz.f4 rfl rfl rfl rfl rfl rfl rfl ⟨rfl, rfl, rfl, rfl, rfl⟩ rfl rfl rfl rfl rfl (by kernel_rfl) Tryz.func4 (by kernel_rfl)
    (of_decide_eq_true (by kernel_rfl)) (by unfold Func.isWrapper; first | (rw [if_pos (by decide +kernel)]; kernel_rfl) | (rw [if_neg (by decide +kernel)]; exact ⟨rfl, rfl⟩))
    (fun os started H enc _ F => by rw [OpenClaim.pre_eq_preRow]; exact deepUpto_lifted os started H enc F)
theorem parseDeepUpto_card : Rows.ParseDeepUptoCardSaid :=
  Claim7.holds_tied_plain_at .later [] [.data, .data, .data, .data, .sentinel, .sentinel, .pinned] true (true, "2af5a9e7df016a1072651139e68cb1b512803276da2c1de720d49070802bd75f") true
    parseDeepUpto_row (fun _ h => by cases h) (by kernel_rfl) (fun _ h => by cases h) parseDeepUpto_row_tie rfl ⟨rfl, rfl⟩ (by kernel_rfl) rfl
    (fun f fn hf hfn => by
      obtain rfl : f = 4 := Option.some.inj ((show Tryz.prog.funcNamed "windlass/windlasslaw7.ParseDeep" = some 4 by kernel_rfl).symm.trans hf) |>.symm
      obtain rfl : fn = Tryz.f4 := (Option.some.inj (Tryz.func4.symm.trans hfn)).symm
      exact ⟨by kernel_rfl, fun j t ht => by
        rw [Tryz.params4] at ht
        have hmem := List.mem_of_getElem? (l := [3, 33]) (i := j) (a := t) (by simpa using ht)
        simp only [List.mem_cons, List.mem_nil_iff, or_false] at hmem
        rcases hmem with rfl | rfl
        · exact (show Tryz.prog.wantsStandIn 3 = false by kernel_rfl)
        · exact (show Tryz.prog.wantsStandIn 33 = false by kernel_rfl)⟩)
    (by kernel_rfl)
end Go.Proofs.YtcnohgifihbkdaaGreatDoor

