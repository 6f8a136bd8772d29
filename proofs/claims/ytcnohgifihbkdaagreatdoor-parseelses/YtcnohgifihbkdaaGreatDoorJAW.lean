/-
  ParseElses returns true for every number and every truth, and its arguments read behind the call as they read before.
  Its condition: the library's tables and its two errors hold at the call what the program's text lays there.
-/
import Derived.Test.YtcnohgifihbkdaaGreatDoorJAV
import Derived.Test.YtcnohgifihbkdaaGreatDoorTie
import Derived.Test.YtcnohgifihbkdaaGreatDoorCards
import Derived.LaidSub
import Derived.LaidLaws
import Derived.LaidHandle
import Derived.Stop.LaidErr
import Derived.Shelf.Vars
import Derived.Lib.LaidTab
import Derived.Handed
import Derived.HandedShaped
import Derived.ChangeSame
import Derived.ChangeAt
import Derived.ChangeVars
import Derived.JoinedOf
import Derived.RowKit
import Derived.RowKitTokens
import Derived.SevenTiedAt
import Derived.ProofKit
import Derived.OpenShut
import Derived.ChangeOld
import Derived.ChangeMaps5
import GoSem.PinnedTables
namespace Go.Proofs.YtcnohgifihbkdaaGreatDoor
open Go Go.RowKit Go.Deep Go.Shelf
set_option linter.unusedVariables false
set_option linter.unusedSimpArgs false
set_option maxRecDepth 100000
set_option maxHeartbeats 1000000 in
theorem elses_out (w : World) (n : Int) (last : Bool) (h : n < 1 ∨ 60 < n) (hm : Lx.MX w) (hG : Gl w) : Calls Tryz.prog 6 #[.int .i64 n, .bool last] w fun e w' => e = .returned (.bool true) ∧ Below w.heap.size w w' := by
  have t0 := True.intro
  by_cases g1 : n < 1
  · go_enter Tryz.func6, Tryz.ntmps6
    go_wp2_with ((have hno := t0; (go_at_call 8; (refine (known_any _ hm hG).mono ?_; rintro e w1 ⟨rfl, hb⟩; have hz1 := hid hb.size; have hb1 := hid hb; have t1 := True.intro; clear hb))))
    refine bodyPost_ret (v := .bool true) (by simp [results, Tryz.results6, go_sem]) rfl ⟨rfl, hb1.out⟩
  · have g2 : 60 < n := by omega
    go_enter Tryz.func6, Tryz.ntmps6
    go_wp2_with ((have hno := t0; (go_at_call 8; (refine (known_any _ hm hG).mono ?_; rintro e w1 ⟨rfl, hb⟩; have hz1 := hid hb.size; have hb1 := hid hb; have t1 := True.intro; clear hb))))
    refine bodyPost_ret (v := .bool true) (by simp [results, Tryz.results6, go_sem]) rfl ⟨rfl, hb1.out⟩
set_option maxHeartbeats 4000000 in
theorem elses_in (w : World) (n : Nat) (last : Bool) (h1 : 1 ≤ n) (h2 : n ≤ 60) (hm : Lx.MX w) (hG : Gl w) : Calls Tryz.prog 6 #[.int .i64 (n : Int), .bool last] w fun e w' => e = .returned (.bool true) ∧ Below w.heap.size w w' := by
  have t0 := True.intro
  have H1 := hid hm
  have H2 := hid hG
  have g1 : ¬ ((n : Int) < 1) := by omega
  have g2 : ¬ ((60 : Int) < (n : Int)) := by omega
  go_enter Tryz.func6, Tryz.ntmps6
  go_wp2_with ((have hno := t0; (go_at_call 8; (refine (known_any _ hm hG).mono ?_; rintro e w1 ⟨rfl, hb⟩; have hz1 := hid hb.size; have hb1 := hid hb; have t1 := True.intro; clear hb))))
  have hs0 : (Value.string ⟨#[111, 110, 32, 101, 40, 41, 32, 123, 32]⟩) = .string (bs (sE 0)) := rfl
  rw [hs0]
  have t2 := True.intro
  go_loopg [5, 6] n (fun g vs vi wr => ∃ i : Nat, i + g = n ∧ vs = .string (bs (sE i)) ∧ vi = .int .i64 (i : Int) ∧ wr = w1)
  case atStart => exact ⟨0, by omega, rfl, rfl, rfl⟩
  case round =>
    obtain ⟨i, hig, rfl, rfl, rfl⟩ := hrel
    cases gk with
    | zero =>
      have hi : i = n := by omega
      subst hi
      have q1 : ¬ ((i : Int) < (i : Int)) := by omega
      have hln := sE_len i
      have ha : ∀ V : World, (Op.stringOp .add (bs (sE i)) ⟨#[32, 101, 108, 115, 101, 32, 123, 32, 99, 111, 110, 116, 105, 110, 117, 101, 59, 32, 125]⟩).run Tryz.prog V = .ok (.string (bs (sE i ++ ctB))) V := fun V => run_cat _ ctB (by have : ctB.length = 19 := rfl; omega) V
      have hb0 : ∀ V : World, last = true → (Op.stringOp .add (bs (sE i ++ ctB)) ⟨#[32, 125]⟩).run Tryz.prog V = .ok (.string (bs (srcE i last))) V := fun V e => by subst e; exact run_cat _ [32, 125] (by have : ctB.length = 19 := rfl; rw [List.length_append]; simp only [List.length_cons, List.length_nil]; omega) V
      have hb9 : ∀ V : World, last = false → (Op.stringOp .add (bs (sE i)) ⟨#[32, 125]⟩).run Tryz.prog V = .ok (.string (bs (srcE i last))) V := fun V e => by subst e; exact run_cat _ [32, 125] (by simp only [List.length_cons, List.length_nil]; omega) V
      have AFTER : True := True.intro
      cases last with
      | true =>
        have hc := fun V => hb0 V rfl
        clear hb0 hb9
        go_wp2_with ((have hno := t2; (go_at_call 9; (refine (elses_parse _ _ _ h1 h2 (mx_below H1.out hb1.out) (gl_below H2.out hb1.out)).mono ?_; rintro e w2 ⟨a0, a1, a2, n0, n1, n2, k0, k1, k2, g, off, cap, ab, cb, b, rfl, hcap, hg, h5, hcb, hS0, hch0, hb⟩; have hb2 := hid hb; have hz2 := hid hb.size; have k5 := cell_alloc hg h5; have t3 := True.intro; clear hb h5))))
        have t4 := True.intro
        go_loopg [10, 11] i (fun g vl vi wq => ∃ (j : Nat) (ll : List PSt) (a : Option Addr) (c : Nat), j + g = i ∧ vi = .int .i64 (j : Int) ∧ vl = .slice a ll.length c ∧ ll.length ≤ c ∧ SsR wq (fun g => wr.heap.size ≤ g ∧ g < w2.heap.size) vl ll ∧ chn g true (ll.map pkS) = true ∧ Below w.heap.size w wq)
        case atStart => exact ⟨0, b, ab, cb, by omega, rfl, rfl, hcb, hS0.mv (Same.alloc (Same.refl _ _) fun g h => h.2) (fun g h => h), hch0, (hb1.out.trans (hb2.out.mono hz1.out)).alloc (Nat.le_trans hz1.out hz2.out) _⟩
        case round =>
          obtain ⟨j, ll, a, c, hjg, rfl, rfl, hlc, hSS, hch, hB⟩ := hrel
          have HB := hid hB
          clear hB hch0 hS0
          cases gk with
          | zero =>
            have hji : j = i := by omega
            subst hji
            have r1 : ¬ ((j : Int) < (j : Int)) := by omega
            obtain ⟨s, rfl, hk⟩ := chn_last hch
            obtain ⟨g', off', cap', av, bv, ev, xs, b', e', hv, hc', hg', hA, q1, q2, q3, hcell⟩ := hSS.at (j := 0) rfl
            cases hv
            have c0 := hcell 0 (by omega)
            rw [Nat.zero_mul, Nat.add_zero] at c0
            simp only [sC, List.getElem?_cons_zero, hk, Nat.add_zero] at c0
            have hc1 : (1 : Int) ≤ (c : Int) := by simp only [List.length_cons, List.length_nil] at hc'; omega
            clear q1 q2 q3 hcell hSS hch hlc
            go_wp2
            refine bodyPost_ret (v := .bool true) (by simp [results, Tryz.results6, go_sem]) rfl ⟨rfl, ?_⟩
            exact HB.out
          | succ gk =>
            have r1 : (j : Int) < (i : Int) := by omega
            have hw : IntKind.i64.wrap ((j : Int) + 1) = (j : Int) + 1 := wrap_small _ (by omega) (by omega)
            obtain ⟨s, rfl, hk, hbl, hch2⟩ := chn_succ hch
            obtain ⟨g', off', cap', av, bv, ev, xs, b', e', hv, hc', hg', hA, q1, ⟨q2, q3⟩, ⟨q4, q5⟩, hcell⟩ := hSS.at (j := 0) rfl
            cases hv
            obtain ⟨ba, bc, rfl, hbc⟩ := q2.slice
            obtain ⟨ea, ec, rfl, hec⟩ := q4.slice
            have hb1' : b'.length = 1 := by rw [q3, List.length_map] at hbl; exact hbl
            have c0 := hcell 0 (by omega)
            have c5 := hcell 5 (by omega)
            have c6 := hcell 6 (by omega)
            rw [Nat.zero_mul, Nat.add_zero] at c0 c5 c6
            simp only [sC, List.getElem?_cons_zero, List.getElem?_cons_succ, hk, hb1', Nat.add_zero] at c0 c5 c6
            have hc1 : (1 : Int) ≤ (c : Int) := by simp only [List.length_cons, List.length_nil] at hc'; omega
            have HQ := hid q4
            have HE := hid hec
            rw [q5] at hch2
            clear q1 q2 q3 q4 q5 hcell hSS hch hec hbc hlc
            go_wp2
            go_roundg gk
            case measure => omega
            exact ⟨j + 1, e', ea, ec, by omega, by push_cast; rfl, rfl, HE.out, HQ.out, hch2, HB.out⟩
      | false =>
        have hc := fun V => hb9 V rfl
        clear hb0 hb9
        go_wp2_with ((have hno := t2; (go_at_call 9; (refine (elses_parse _ _ _ h1 h2 (mx_below H1.out hb1.out) (gl_below H2.out hb1.out)).mono ?_; rintro e w2 ⟨a0, a1, a2, n0, n1, n2, k0, k1, k2, g, off, cap, ab, cb, b, rfl, hcap, hg, h5, hcb, hS0, hch0, hb⟩; have hb2 := hid hb; have hz2 := hid hb.size; have k5 := cell_alloc hg h5; have t3 := True.intro; clear hb h5))))
        have t4 := True.intro
        go_loopg [10, 11] i (fun g vl vi wq => ∃ (j : Nat) (ll : List PSt) (a : Option Addr) (c : Nat), j + g = i ∧ vi = .int .i64 (j : Int) ∧ vl = .slice a ll.length c ∧ ll.length ≤ c ∧ SsR wq (fun g => wr.heap.size ≤ g ∧ g < w2.heap.size) vl ll ∧ chn g false (ll.map pkS) = true ∧ Below w.heap.size w wq)
        case atStart => exact ⟨0, b, ab, cb, by omega, rfl, rfl, hcb, hS0.mv (Same.alloc (Same.refl _ _) fun g h => h.2) (fun g h => h), hch0, (hb1.out.trans (hb2.out.mono hz1.out)).alloc (Nat.le_trans hz1.out hz2.out) _⟩
        case round =>
          obtain ⟨j, ll, a, c, hjg, rfl, rfl, hlc, hSS, hch, hB⟩ := hrel
          have HB := hid hB
          clear hB hch0 hS0
          cases gk with
          | zero =>
            have hji : j = i := by omega
            subst hji
            have r1 : ¬ ((j : Int) < (j : Int)) := by omega
            obtain rfl := chn_nil hch
            clear hSS hch
            go_wp2
            refine bodyPost_ret (v := .bool true) (by simp [results, Tryz.results6, go_sem]) rfl ⟨rfl, ?_⟩
            exact HB.out
          | succ gk =>
            have r1 : (j : Int) < (i : Int) := by omega
            have hw : IntKind.i64.wrap ((j : Int) + 1) = (j : Int) + 1 := wrap_small _ (by omega) (by omega)
            obtain ⟨s, rfl, hk, hbl, hch2⟩ := chn_succ hch
            obtain ⟨g', off', cap', av, bv, ev, xs, b', e', hv, hc', hg', hA, q1, ⟨q2, q3⟩, ⟨q4, q5⟩, hcell⟩ := hSS.at (j := 0) rfl
            cases hv
            obtain ⟨ba, bc, rfl, hbc⟩ := q2.slice
            obtain ⟨ea, ec, rfl, hec⟩ := q4.slice
            have hb1' : b'.length = 1 := by rw [q3, List.length_map] at hbl; exact hbl
            have c0 := hcell 0 (by omega)
            have c5 := hcell 5 (by omega)
            have c6 := hcell 6 (by omega)
            rw [Nat.zero_mul, Nat.add_zero] at c0 c5 c6
            simp only [sC, List.getElem?_cons_zero, List.getElem?_cons_succ, hk, hb1', Nat.add_zero] at c0 c5 c6
            have hc1 : (1 : Int) ≤ (c : Int) := by simp only [List.length_cons, List.length_nil] at hc'; omega
            have HQ := hid q4
            have HE := hid hec
            rw [q5] at hch2
            clear q1 q2 q3 q4 q5 hcell hSS hch hec hbc hlc
            go_wp2
            go_roundg gk
            case measure => omega
            exact ⟨j + 1, e', ea, ec, by omega, by push_cast; rfl, rfl, HE.out, HQ.out, hch2, HB.out⟩
    | succ g =>
      have q1 : (i : Int) < (n : Int) := by omega
      have hi30 : (i : Int) ≤ 60 := by omega
      have hw : IntKind.i64.wrap ((i : Int) + 1) = (i : Int) + 1 := wrap_small _ (by omega) (by omega)
      have hln := sE_len i
      have l3 : elB.length = 6 := rfl
      have l4 : ifB.length = 18 := rfl
      by_cases h0 : i = 0
      · subst h0
        have ha : ∀ V : World, (Op.stringOp .add (bs (sE 0)) ⟨#[105, 102, 32, 116, 114, 117, 101, 32, 123, 32, 98, 114, 101, 97, 107, 59, 32, 125]⟩).run Tryz.prog V = .ok (.string (bs (sE 1))) V := fun V => run_cat _ ifB (by omega) V
        go_wp2
        go_roundg g
        case measure => omega
        exact ⟨1, by omega, rfl, rfl, rfl⟩
      · have q3 : (0 : Int) < (i : Int) := by omega
        have ha : ∀ V : World, (Op.stringOp .add (bs (sE i)) ⟨#[32, 101, 108, 115, 101, 32]⟩).run Tryz.prog V = .ok (.string (bs (sE i ++ elB))) V := fun V => run_cat _ elB (by omega) V
        have ha2 : ∀ V : World, (Op.stringOp .add (bs (sE i ++ elB)) ⟨#[105, 102, 32, 116, 114, 117, 101, 32, 123, 32, 98, 114, 101, 97, 107, 59, 32, 125]⟩).run Tryz.prog V = .ok (.string (bs ((sE i ++ elB) ++ ifB))) V := fun V => run_cat _ ifB (by rw [List.length_append]; omega) V
        go_wp2
        go_roundg g
        case measure => omega
        exact ⟨i + 1, by omega, by rw [sE_succ h0]; simp, by push_cast; rfl, rfl⟩
end Go.Proofs.YtcnohgifihbkdaaGreatDoor

namespace Go.Proofs.YtcnohgifihbkdaaGreatDoor
open Go Go.RowKit Go.Deep Go.Shelf
set_option maxRecDepth 100000
theorem elses_any (w : World) (n : Int) (last : Bool) (hm : Lx.MX w) (hG : Gl w) : Calls Tryz.prog 6 #[.int .i64 n, .bool last] w fun e w' => e = .returned (.bool true) ∧ Below w.heap.size w w' := by
  by_cases h : n < 1 ∨ 60 < n
  · exact elses_out w n last h hm hG
  · obtain ⟨N, rfl⟩ := Int.eq_ofNat_of_zero_le (show 0 ≤ n by omega)
    exact elses_in w N last (by omega) (by omega) hm hG
end Go.Proofs.YtcnohgifihbkdaaGreatDoor

namespace Go.Proofs.YtcnohgifihbkdaaGreatDoor
open Go.ChangeShapes Go.WideShapes Go.ChangeAt Go.RowKit Go.Deep Go.Shelf
set_option linter.unusedVariables false
set_option linter.unusedSimpArgs false
set_option maxRecDepth 100000
theorem ownN : ownKnob Tryz.prog.godebug = none := by kernel_rfl
theorem mx_of {W : World} (hs : W.ShapedOpen Tryz.prog) : Lx.MX W :=
  cell_of_shapedOpen_int hs (t := 3) (zero := #[.int .i64 0]) (of_decide_eq_true (by kernel_rfl)) (by kernel_rfl) rfl (by kernel_rfl) (by kernel_rfl) Tryz.underlying3
theorem starE : "*" ++ "errors.errorString" = "*errors.errorString" := by decide
theorem row254 (u : TypeId) (h : Tryz.prog.typeName? 3 u = some "*errors.errorString") : u = 252 :=
  typeName_ptr_named (nm := "errors.errorString") (by rw [starE]; kernel_rfl) (by kernel_rfl) (by decide) u (by rw [starE]; exact h)
def rngData : DataW Unit := .iface "*errors.errorString" (.ptr (.agg [.lit (.string [118, 97, 108, 117, 101, 32, 111, 117, 116, 32, 111, 102, 32, 114, 97, 110, 103, 101])]))
theorem gl_of {W : World} {laid : List (String × DataW Unit)} (hs : W.ShapedOpen Tryz.prog) (hL : laidMetH Tryz.prog laid W) (e : (laid.filter fun x => x.1 == "strconv.ErrRange") = [("strconv.ErrRange", rngData)]) : Gl W := by
  have h := hL.filter (fun x => x.1 == "strconv.ErrRange")
  rw [e] at h
  have h2 : laidMet Tryz.prog [("strconv.ErrRange", rngData)] W := (laidMetH_iff.1 h).1
  obtain ⟨a, s, hv, _, _, _⟩ := laid_sentinel h2 (g := 7) (ti := 176) (tp := 252) (te := 254) (ts := 9) (by kernel_rfl) (by kernel_rfl) Tryz.underlying176 row254 Tryz.underlying252 Tryz.underlying254 rfl rfl Tryz.underlying9 (by kernel_rfl) (by kernel_rfl)
  obtain ⟨cs, hh, hz, _⟩ := hs.1 7 #[.nilIface] 176 (of_decide_eq_true (by kernel_rfl)) (by kernel_rfl)
  have hc : W.cell? ⟨7, 0, none⟩ = some (.iface 252 (.pointer (some a))) := by simpa using World.var?_cell (P := Tryz.prog) (n := "strconv.ErrRange") (g := 7) (by kernel_rfl) hv 0
  have hc2 := (cellOf hh 0).symm.trans hc
  obtain ⟨l⟩ := cs
  match l, hz with
  | [x], _ =>
    have hx : x = .iface 252 (.pointer (some a)) := by simpa using hc2
    subst hx
    exact ⟨_, _, _, hh⟩
/- A contract under the row's conditions, the world's shape and the tables at hand. -/
theorem handed_laid {H : Type} {enc : TypeId × Value → H} {a : Assume} {C : Checked} {os : Os} {f : FuncId} {fn : Func} {s : ChangeSpec} {conds : List PathCond} {apart fresh handsOn again : Bool} {X : World → Array Value → Prop}
    (hX : ∀ (w w' : World) (args : Array Value), w.heap = w'.heap → X w args → X w' args)
    (own : ownKnob C.prog.godebug = none) (started : os.Started) (noInit : C.prog.inits.idxOf? f = none) (hfn : C.prog.funcs[f]? = some fn)
    (witness : ∃ (w : World) (tape : Tape) (i : Input), w.os = os ∧ (w.forCall tape i).Shaped C.prog ∧ i.vars = [] ∧ Input.okWide C.prog (w.forCall tape i) .any w.heap.size f i ∧
      ((s.pre enc C.prog fn conds apart (w.forCall tape i).memory i.args ∧ X (w.forCall tape i).memory i.args) ∧ sizedMet enc C.prog fn (OpenSpec.ofChange s) apart (w.forCall tape i).memory i.args) ∧ a.holds C.prog (lone (Frame.enter C.prog f i.args .normal) [] (w.forCall tape i)))
    (contract : ∀ (W : World) (base : Nat) (args : Array Value) (ds gs : List (DataW H)) (before : List MemPlace),
      (∀ (j : Nat) t v, fn.params[j]? = some t → args[j]? = some v → Value.okWide C.prog W .any base t v) →
      DataW.Whole enc C.prog fn.params.toList s.vars apart W args.toList ds gs before →
      (DataW.weightsEach C.prog (fn.params.toList ++ s.plain.varTypes C.prog) (ds ++ gs)).all (· ≤ reachBytes) = true → X W args → W.ShapedOpen C.prog →
      Calls C.prog f args W fun e W' => ∃ v, e = .returned v ∧ s.post enc C.prog fn apart fresh handsOn again W args v W') :
    ReturnsInHanded a C os f .any (fun w args => (s.pre enc C.prog fn conds apart w args ∧ X w args) ∧ sizedMet enc C.prog fn (OpenSpec.ofChange s) apart w args) (s.post enc C.prog fn apart fresh handsOn again) := by
  refine returnsInHanded_of_calls own started noInit witness ?_
  intro w tape i _ hsh _ hok hpre hholds
  obtain ⟨_, _, _, fn', hfn', _, _, _, _, hval⟩ := hok
  obtain rfl : fn' = fn := Option.some.inj (hfn'.symm.trans hfn)
  obtain ⟨⟨⟨ds, gs, before, hw, hc⟩, hx⟩, hz⟩ := hpre
  refine (contract (w.forCall tape i) w.heap.size i.args ds gs before hval (DataW.Whole.of_heap (w' := w.forCall tape i) (by rfl) hw) (hz.weights hw) (hX _ _ _ (by rfl) hx) hsh).mono fun e W' ⟨v, he, hp⟩ => ?_
  subst he
  exact ChangeSpec.post_blind hp
def cellsIn (c : Array Value) : Obj → Obj
  | .cells _ t frozen => .cells c t frozen
  | o => o
def firstCells : Array Value := (Go.Pinned.utf8FirstZ.map fun (x : Nat) => Value.int .u8 (x : Int)).toArray
def tables (h : Array Obj) : Array Obj := (((((((h.modify 1 (cellsIn firstCells)).modify 2 (cellsIn #[.int .u8 128, .int .u8 191, .int .u8 160, .int .u8 191, .int .u8 128, .int .u8 159, .int .u8 144, .int .u8 191, .int .u8 128, .int .u8 143, .int .u8 0, .int .u8 0, .int .u8 0, .int .u8 0, .int .u8 0, .int .u8 0, .int .u8 0, .int .u8 0, .int .u8 0, .int .u8 0, .int .u8 0, .int .u8 0, .int .u8 0, .int .u8 0, .int .u8 0, .int .u8 0, .int .u8 0, .int .u8 0, .int .u8 0, .int .u8 0, .int .u8 0, .int .u8 0])).modify 3 (cellsIn #[.int .u64 1, .int .u64 10, .int .u64 100, .int .u64 1000, .int .u64 10000, .int .u64 100000, .int .u64 1000000, .int .u64 10000000, .int .u64 100000000, .int .u64 1000000000, .int .u64 10000000000, .int .u64 100000000000, .int .u64 1000000000000, .int .u64 10000000000000, .int .u64 100000000000000, .int .u64 1000000000000000, .int .u64 10000000000000000, .int .u64 100000000000000000, .int .u64 1000000000000000000, .int .u64 10000000000000000000])).modify 4 (cellsIn #[.int .u8 0, .int .u8 1, .int .u8 28, .int .u8 2, .int .u8 29, .int .u8 14, .int .u8 24, .int .u8 3, .int .u8 30, .int .u8 22, .int .u8 20, .int .u8 15, .int .u8 25, .int .u8 17, .int .u8 4, .int .u8 8, .int .u8 31, .int .u8 27, .int .u8 13, .int .u8 23, .int .u8 21, .int .u8 19, .int .u8 16, .int .u8 7, .int .u8 26, .int .u8 12, .int .u8 18, .int .u8 6, .int .u8 11, .int .u8 5, .int .u8 10, .int .u8 9])).modify 5 (cellsIn #[.int .u8 0, .int .u8 1, .int .u8 56, .int .u8 2, .int .u8 57, .int .u8 49, .int .u8 28, .int .u8 3, .int .u8 61, .int .u8 58, .int .u8 42, .int .u8 50, .int .u8 38, .int .u8 29, .int .u8 17, .int .u8 4, .int .u8 62, .int .u8 47, .int .u8 59, .int .u8 36, .int .u8 45, .int .u8 43, .int .u8 51, .int .u8 22, .int .u8 53, .int .u8 39, .int .u8 33, .int .u8 30, .int .u8 24, .int .u8 18, .int .u8 12, .int .u8 5, .int .u8 63, .int .u8 55, .int .u8 48, .int .u8 27, .int .u8 60, .int .u8 41, .int .u8 37, .int .u8 16, .int .u8 46, .int .u8 35, .int .u8 44, .int .u8 21, .int .u8 52, .int .u8 32, .int .u8 23, .int .u8 11, .int .u8 54, .int .u8 26, .int .u8 40, .int .u8 15, .int .u8 34, .int .u8 20, .int .u8 31, .int .u8 10, .int .u8 25, .int .u8 14, .int .u8 19, .int .u8 9, .int .u8 13, .int .u8 8, .int .u8 7, .int .u8 6])).modify 6 (cellsIn #[.iface 252 (.pointer (some ⟨13, 0, none⟩))])).modify 7 (cellsIn #[.iface 252 (.pointer (some ⟨13 + 1, 0, none⟩))]))
def newErrs : Array Obj := #[.cells #[.string ⟨#[105, 110, 118, 97, 108, 105, 100, 32, 115, 121, 110, 116, 97, 120]⟩] 254, .cells #[.string ⟨#[118, 97, 108, 117, 101, 32, 111, 117, 116, 32, 111, 102, 32, 114, 97, 110, 103, 101]⟩] 254]
theorem laid_met {laid : List (String × DataW Unit)} (e : laid = Rows.parseElsesRow.laid) (os : Os) (args : Array Value) : laidMetH Tryz.prog laid (({ World.holding Tryz.prog os ⟨newErrs, #[], []⟩ with heap := tables (World.holding Tryz.prog os ⟨newErrs, #[], []⟩).heap } : World).forCall (fun _ _ => 0) ⟨#[], args, []⟩).memory := by
  subst e
  exact laidMetH_of_parts3 (fuel := 8) (laidMet_of_run' 8 (by kernel_rfl) (by kernel_rfl)) (by kernel_rfl) (by kernel_rfl)
end Go.Proofs.YtcnohgifihbkdaaGreatDoor

namespace Go.Proofs.YtcnohgifihbkdaaGreatDoor
open Go.ChangeShapes Go.WideShapes Go.ChangeAt Go.RowKit Go.Deep Go.Shelf
set_option linter.unusedVariables false
set_option linter.unusedSimpArgs false
set_option maxRecDepth 100000
theorem parseElses_lifted (os : Os) (started : os.Started) (H : Type) (enc : TypeId × Value → H) :
    ReturnsInHanded {} Tryz.checked os 6 .any (fun w args => (Rows.parseElsesSpec.pre enc Tryz.prog Tryz.f6 [] false w args ∧ laidMetH Tryz.prog Rows.parseElsesRow.laid w) ∧ sizedMet enc Tryz.prog Tryz.f6 (OpenSpec.ofChange Rows.parseElsesSpec) false w args)
      (Rows.parseElsesSpec.post enc Tryz.prog Tryz.f6 false true false false) := by
  refine handed_laid (C := Tryz.checked) (X := fun w _ => laidMetH Tryz.prog Rows.parseElsesRow.laid w) (fun _ _ _ hh h => h.of_heap hh) ownN started (by kernel_rfl) Tryz.func6
    (ChangeSpec.witness_at (enc := enc) (C := Tryz.checked) (os := os) (X := fun w _ => laidMetH Tryz.prog Rows.parseElsesRow.laid w) false ({ World.holding Tryz.prog os ⟨newErrs, #[], []⟩ with heap := tables (World.holding Tryz.prog os ⟨newErrs, #[], []⟩).heap } : World) #[.int .i64 0, .bool false] 8 rfl (by kernel_rfl) (by kernel_rfl) (by kernel_rfl) (by kernel_rfl) (by kernel_rfl) (laid_met (by rfl) os _)) ?_
  intro W base args ds gs before hval0 hW _ hL hsh
  have hval : ∀ (j : Nat) t v, Tryz.f6.params[j]? = some t → args[j]? = some v → Value.okWide Tryz.prog W .any base t v := hval0
  have hW' := hW
  obtain ⟨p, q, hA0, hV, rfl, hfz, hnd⟩ := hW
  have hA : DataW.TrodAll enc Tryz.prog W 0 (fun _ => true) true Tryz.f6.params.toList args.toList ds p := hA0
  rw [Tryz.params6] at hA hval
  obtain ⟨v0, vs0, d0, ds0, p0, q0, hargs, rfl, rfl, h0, r0⟩ := trodAll_cons hA
  obtain ⟨v1, vs1, d1, ds1, p1, q1, rfl, rfl, rfl, h1, r1⟩ := trodAll_cons r0
  obtain ⟨rfl, rfl, rfl⟩ := trodAll_nil r1
  obtain rfl : args = #[v0, v1] := by cases args; simp_all
  obtain ⟨rfl, rfl⟩ := trodVars_none hV
  obtain ⟨a0, rfl, rfl, rfl, w0⟩ := open_int Tryz.underlying3 (hval 0 3 v0 rfl rfl) h0
  obtain ⟨a1, rfl, rfl, rfl⟩ := open_bool Tryz.underlying4 (hval 1 4 v1 rfl rfl) h1
  clear hA0 hval0
  refine (elses_any W a0 a1 (mx_of hsh) (gl_of hsh hL (by kernel_rfl))).mono fun e W' ⟨he, bel⟩ => ?_
  subst he
  exact ⟨_, rfl, _, _, _, [], _, [], hW', trodAll_mk1 (shut_bool Tryz.underlying4 _), (trodAll_cons_mk (shut_int Tryz.underlying3 w0) (trodAll_cons_mk (shut_bool Tryz.underlying4 _) trodAll_mk0)), rfl, bel.frame _, fun h => by cases h⟩
theorem parseElses_row : Rows.ParseElsesSaid :=
  OpenClaim.holds_of_wide 6 Tryz.f6 rfl rfl rfl rfl rfl rfl rfl ⟨rfl, rfl, rfl, rfl, rfl⟩ rfl rfl rfl rfl rfl (by kernel_rfl) Tryz.func6 (by kernel_rfl)
    (of_decide_eq_true (by kernel_rfl)) (by unfold Func.isWrapper; first | (rw [if_pos (by decide +kernel)]; kernel_rfl) | (rw [if_neg (by decide +kernel)]; exact ⟨rfl, rfl⟩))
    (fun os started H enc _ => parseElses_lifted os started H enc)
theorem parseElses_card : Rows.ParseElsesCardSaid :=
  Claim7.holds_tied_plain_at .later [] [.data, .data, .data, .data, .sentinel, .sentinel, .pinned] true (true, "2af5a9e7df016a1072651139e68cb1b512803276da2c1de720d49070802bd75f") true
    parseElses_row (fun _ h => by cases h) (by kernel_rfl) (fun _ h => by cases h) parseElses_row_tie rfl ⟨rfl, rfl⟩ (by kernel_rfl) rfl
    (fun f fn hf hfn => by
      obtain rfl : f = 6 := Option.some.inj ((show Tryz.prog.funcNamed "windlass/windlasslaw7.ParseElses" = some 6 by kernel_rfl).symm.trans hf) |>.symm
      obtain rfl : fn = Tryz.f6 := (Option.some.inj (Tryz.func6.symm.trans hfn)).symm
      exact ⟨by kernel_rfl, fun j t ht => by
        rw [Tryz.params6] at ht
        have hmem := List.mem_of_getElem? (l := [3, 4]) (i := j) (a := t) (by simpa using ht)
        simp only [List.mem_cons, List.mem_nil_iff, or_false] at hmem
        rcases hmem with rfl | rfl <;> first | exact (show Tryz.prog.wantsStandIn 3 = false by kernel_rfl) | exact (show Tryz.prog.wantsStandIn 4 = false by kernel_rfl)⟩)
    (by kernel_rfl)
end Go.Proofs.YtcnohgifihbkdaaGreatDoor

