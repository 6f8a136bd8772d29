/- The pure parser: what it refuses it tells at a token of the row. -/
import Derived.Test.YtcnohgifihbkdaaGreatDoorJAD
import Derived.WalkKit
import Derived.WalkSpells
import Derived.WalkLawsBesides
import Derived.WalkMore
import Derived.Deep.OwnRows
import Derived.Deep.AppendLies
import Derived.Deep.LoopGhost
import Derived.Deep.RegionHeld3
import Derived.Deep.CutBlock
import Derived.Deep.DeepCutAuto
import Derived.Below
import Derived.BigQuiet
import Derived.Maps.AppendAt
import Derived.Lib.AppendStr
import Derived.Shelf.Abstract
import Derived.Shelf.RegionOpen
namespace Go.Proofs.YtcnohgifihbkdaaGreatDoor
open Go.RowKit
set_option linter.unusedVariables false
variable {N : Nat}
def Bnd (N : Nat) (s : PS) : Prop := ∀ p ∈ s.toks, p.pos ≤ (N : Int)
def BR {α : Type} (N : Nat) (r : Except Flt (α × PS)) : Prop := match r with
  | .error e => e.1 ≤ (N : Int) ∧ (e.2 ≠ 50 ∧ e.2 ≠ 0)
  | .ok (_, s) => Bnd N s
def BX {α : Type} (N : Nat) (x : Pr α) : Prop := ∀ s, Bnd N s → BR N (x s)
theorem nxt_b {s : PS} (h : Bnd N s) : (nxt s).pos ≤ (N : Int) := by
  unfold nxt
  cases ht : s.toks with
  | nil => show (0 : Int) ≤ _; omega
  | cons a t => exact h a (by rw [ht]; exact List.mem_cons_self ..)
theorem ret_b {α : Type} (a : α) : BX N (ret a) := fun s h => h
theorem wrong_b {α : Type} : BX N (wrong : Pr α) := fun s h => ⟨nxt_b h, ⟨by show (70 : Int) ≠ 50; decide, by show (70 : Int) ≠ 0; decide⟩⟩
theorem fuel_b {α : Type} : BX N (fuelOut : Pr α) := fun s h => ⟨by show (-1 : Int) ≤ _; omega, ⟨by show (-1 : Int) ≠ 50; decide, by show (-1 : Int) ≠ 0; decide⟩⟩
theorem bds_b {α β : Type} {x : Pr α} {f : PS → α → Pr β} (h : BX N x) (g : ∀ s a, BX N (f s a)) : BX N (fun s => bd x (f s) s) := fun s hs => by
  have h1 := h s hs
  show BR N (bd x (f s) s)
  unfold bd
  rcases hx : x s with e | ⟨a, s'⟩
  · rw [hx] at h1; exact h1
  · rw [hx] at h1; exact g s a s' h1
theorem bd_b {α β : Type} {x : Pr α} {f : α → Pr β} (h : BX N x) (g : ∀ a, BX N (f a)) : BX N (bd x f) := bds_b (f := fun _ => f) h fun _ => g
theorem if_b {α : Type} {g : PS → Prop} [DecidablePred g] {x y : Pr α} (hx : BX N x) (hy : BX N y) : BX N (fun s => if g s then x s else y s) := fun s hs => by
  show BR N (if g s then x s else y s)
  split
  · exact hx s hs
  · exact hy s hs
theorem take_b : BX N take := fun s hs => by
  unfold take
  split
  · exact ⟨nxt_b hs, ⟨by show (74 : Int) ≠ 50; decide, by show (74 : Int) ≠ 0; decide⟩⟩
  · split
    · exact ⟨nxt_b hs, ⟨by show (72 : Int) ≠ 50; decide, by show (72 : Int) ≠ 0; decide⟩⟩
    · exact fun p hp => hs p (List.mem_of_mem_tail hp)
theorem enter_b : BX N enter := fun s hs => by
  unfold enter bd
  have h1 := take_b s hs
  rcases hx : take s with e | ⟨t, s'⟩
  · rw [hx] at h1; exact h1
  · rw [hx] at h1
    have ht : t = nxt s := by
      unfold take at hx
      split at hx
      · cases hx
      · split at hx
        · cases hx
        · cases hx; rfl
    show BR N (if s'.opn = 40 then _ else _)
    split
    · exact ⟨by show t.pos ≤ _; rw [ht]; exact nxt_b hs, ⟨by show (71 : Int) ≠ 50; decide, by show (71 : Int) ≠ 0; decide⟩⟩
    · exact h1
theorem leave_b : BX N leave := fun s h => h
theorem maybe_b (q : Bsq) : BX N (maybe q) := if_b (g := fun s => isS q s = true) (bd_b take_b fun _ => ret_b _) (ret_b false)
theorem want_b (q : Bsq) : BX N (want q) := bd_b (maybe_b q) fun b => by
  split
  · exact ret_b _
  · exact wrong_b
theorem oneOf_b : ∀ l : List Bsq, BX N (oneOf l)
  | [] => wrong_b
  | q :: l => if_b (g := fun s => isS q s = true) (bd_b take_b fun _ => ret_b _) (oneOf_b l)
theorem small_b : BX N small := if_b (g := fun s => isSmall s = true) (bd_b take_b fun _ => ret_b _) wrong_b
theorem great_b : BX N great := if_b (g := fun s => isGreat s = true) (bd_b take_b fun _ => ret_b _) wrong_b
theorem between_b {α : Type} {f t : Bsq} {i : Pr α} (h : BX N i) : BX N (between f t i) := if_b (g := fun s => isS f s = true) (bd_b enter_b fun _ => bd_b h fun x => bd_b (want_b t) fun _ => bd_b leave_b fun _ => ret_b _) wrong_b
theorem number_b (neg : Bool) : BX N (number neg) := fun s hs => by
  unfold number
  by_cases hb : (if neg = true then digN (nxt s).text > 9223372036854775808 else digN (nxt s).text > 9223372036854775807)
  · show BR N (if _ then _ else _)
    rw [if_pos hb]; exact ⟨nxt_b hs, ⟨by show (73 : Int) ≠ 50; decide, by show (73 : Int) ≠ 0; decide⟩⟩
  · show BR N (if _ then _ else _)
    rw [if_neg hb]; exact bd_b take_b (fun _ => ret_b _) s hs
theorem rowL_b {α : Type} {el : Pr α} (h : BX N el) : ∀ (n : Nat) (l : List α), BX N (rowL el n l)
  | 0, l => fuel_b
  | n + 1, l => by
    have K : BX N (bd el fun x => bd (maybe [44]) fun b => if b = true then rowL el n (l ++ [x]) else ret (l ++ [x])) := bd_b h fun x => bd_b (maybe_b _) fun b => by
      split
      · exact rowL_b h n _
      · exact ret_b _
    exact fun s hs => K { s with sur := decide (l.length = 12) } hs
theorem rowBt_b {α : Type} {f t : Bsq} {el : Pr α} (h : BX N el) (n : Nat) : BX N (rowBetween n f t el) := between_b (rowL_b h n [])
theorem rowOr_b {α : Type} {f t : Bsq} {el : Pr α} (h : BX N el) (n : Nat) : BX N (rowOrNone n f t el) := between_b (if_b (g := fun s => isS t s = true) (ret_b []) (rowL_b h n []))
theorem operator_b (lv : Int) : BX N (operator lv) :=
  if_b (g := fun s => ((nxt s).kind == 2 || (nxt s).kind == 5) = true) (if_b (g := fun s => (opOf (nxt s).text).2 = lv) (bds_b (f := fun s _ => ret (opOf (nxt s).text).1) take_b fun _ _ => ret_b _) (ret_b 0)) (ret_b 0)
theorem leftL_b {lv : Int} {p : Pr PEx} (h : BX N p) : ∀ (n : Nat) (e : PEx), BX N (leftL lv p n e)
  | 0, e => fuel_b
  | n + 1, e => bd_b (operator_b lv) fun op => by
    split
    · exact ret_b _
    · exact bd_b h fun b => leftL_b h n _
theorem leftward_b {lv : Int} {p : Pr PEx} (h : BX N p) (n : Nat) : BX N (leftward n lv p) := bd_b h fun e => leftL_b h n e
theorem unary_b {op : Int} {a : Pr PEx} (h : BX N a) : BX N (unary op a) := bd_b enter_b fun t => bd_b h fun x => bd_b leave_b fun _ => ret_b _
theorem postL_b : ∀ (n : Nat) (e : PEx), BX N (postL n e)
  | 0, e => fuel_b
  | n + 1, e => bd_b (maybe_b _) fun b => by
    split
    · exact bd_b small_b fun nm => postL_b n _
    · exact ret_b _
theorem one_b {e : Pr PEx} (h : BX N e) : BX N (one e) := bd_b h fun _ => ret_b _
theorem inBr_b {e : Pr PEx} (h : BX N e) : BX N (inBr e) := between_b (one_b h)
theorem keyP_b {e : Pr PEx} (h : BX N e) : BX N (keyP e) := between_b (one_b h)
theorem argsP_b {e : Pr PEx} (h : BX N e) (n : Nat) : BX N (argsP n e) := rowOr_b h n
theorem partP_b {e : Pr PEx} (h : BX N e) : BX N (partP e) := bd_b small_b fun _ => bd_b (want_b _) fun _ => bd_b h fun _ => ret_b _
theorem newRec_b {e : Pr PEx} (h : BX N e) (n : Nat) : BX N (newRec n e) := bd_b great_b fun _ => bd_b (rowBt_b (partP_b h) n) fun _ => ret_b _
theorem namedEx_b {e : Pr PEx} (h : BX N e) (n : Nat) : BX N (namedEx n e) :=
  if_b (g := fun s => isGreat s = true) (newRec_b h n) (bd_b small_b fun nm => if_b (g := fun s => isS [40] s = true) (bd_b (argsP_b h n) fun _ => ret_b _) (if_b (g := fun s => isS [91] s = true) (bd_b (keyP_b h) fun _ => ret_b _) (ret_b _)))
theorem wordEx_b {e : Pr PEx} (h : BX N e) : BX N (wordEx e) := by
  unfold wordEx
  refine bd_b (maybe_b _) fun b => ?_
  split
  · exact ret_b _
  refine bd_b (maybe_b _) fun b => ?_
  split
  · exact ret_b _
  refine bd_b (maybe_b _) fun b => ?_
  split
  · exact bd_b (inBr_b h) fun _ => ret_b _
  refine bd_b (maybe_b _) fun b => ?_
  split
  · exact bd_b (inBr_b h) fun _ => ret_b _
  refine bd_b (maybe_b _) fun b => ?_
  split
  · exact bd_b small_b fun _ => bd_b (keyP_b h) fun _ => ret_b _
  refine bd_b (maybe_b _) fun b => ?_
  split
  · exact bd_b small_b fun _ => bd_b (inBr_b h) fun _ => ret_b _
  exact wrong_b
theorem anyPrim_b {e : Pr PEx} (h : BX N e) (n : Nat) : BX N (anyPrim n e) :=
  if_b (g := fun s => (nxt s).kind = 3) (bd_b (number_b _) fun _ => ret_b _) (if_b (g := fun s => (nxt s).kind = 4) (bd_b take_b fun _ => ret_b _) (if_b (g := fun s => (nxt s).kind = 1) (namedEx_b h n) (wordEx_b h)))
theorem prim_b {e : Pr PEx} (h : BX N e) (n : Nat) : BX N (prim n e) :=
  if_b (g := fun s => isS [40] s = true) (between_b h) (bds_b (f := fun s x => ret (x.setAt (nxt s).pos)) (anyPrim_b h n) fun _ _ => ret_b _)
theorem post_b {e : Pr PEx} (h : BX N e) (n : Nat) : BX N (post n e) := bd_b (prim_b h n) fun x => postL_b n x
theorem facP_b {l : Lay} (h : BX N l.fac) (hx : BX N l.expr) (n : Nat) : BX N (facP n l) :=
  if_b (g := fun s => isS [45] s = true) (if_b (g := fun s => (second s).kind = 3) (bd_b take_b fun _ => bd_b (number_b _) fun _ => ret_b _) (unary_b h)) (post_b hx n)
theorem sumP_b {l : Lay} (h : BX N l.fac) (hx : BX N l.expr) (n : Nat) : BX N (sumP n l) := leftward_b (leftward_b (facP_b h hx n) n) n
theorem testP_b {l : Lay} (h : BX N l.fac) (hx : BX N l.expr) (n : Nat) : BX N (testP n l) := bd_b (sumP_b h hx n) fun e => bd_b (operator_b 3) fun op => by
  split
  · exact ret_b _
  · exact bd_b (sumP_b h hx n) fun b => ret_b _
theorem negP_b {l : Lay} (h : BX N l.fac) (hg : BX N l.neg) (hx : BX N l.expr) (n : Nat) : BX N (negP n l) := if_b (g := fun s => isS [110, 111, 116] s = true) (unary_b hg) (testP_b h hx n)
theorem lay_b : ∀ n : Nat, BX N (lay n).expr ∧ BX N (lay n).neg ∧ BX N (lay n).fac
  | 0 => ⟨fuel_b, fuel_b, fuel_b⟩
  | n + 1 => by
    obtain ⟨a, b, c⟩ := lay_b n
    exact ⟨leftward_b (leftward_b (negP_b c b a n) n) n, negP_b c b a n, facP_b c a n⟩
theorem expr_b (n : Nat) : BX N (expr n) := (lay_b n).1
theorem blockL_b {st : Pr PSt} (h : BX N st) : ∀ (n : Nat) (l : List PSt), BX N (blockL st n l)
  | 0, l => fuel_b
  | n + 1, l => if_b (g := fun s => isS [125] s = true) (ret_b l) (bd_b h fun x => blockL_b h n _)
theorem blockP_b {st : Pr PSt} (h : BX N st) (n : Nat) : BX N (blockP n st) := between_b (blockL_b h n [])
theorem targetP_b : BX N targetP := if_b (g := fun s => isS [59] s = true) (ret_b []) small_b
theorem resultP_b {e : Pr PEx} (h : BX N e) : BX N (resultP e) := if_b (g := fun s => isS [59] s = true) (ret_b []) (one_b h)
theorem simpleP_b {e : Pr PEx} (h : BX N e) (n : Nat) : BX N (simpleP n e) := by
  unfold simpleP
  refine bd_b (maybe_b _) fun b => ?_
  split
  · exact bd_b small_b fun _ => bd_b (want_b _) fun _ => bd_b (one_b h) fun _ => ret_b _
  refine bd_b (maybe_b _) fun b => ?_
  split
  · exact bd_b small_b fun _ => bd_b (keyP_b h) fun _ => ret_b _
  refine bd_b (maybe_b _) fun b => ?_
  split
  · exact bd_b targetP_b fun _ => ret_b _
  refine bd_b (maybe_b _) fun b => ?_
  split
  · exact bd_b targetP_b fun _ => ret_b _
  refine bd_b (maybe_b _) fun b => ?_
  split
  · exact bd_b (resultP_b h) fun _ => ret_b _
  refine bd_b (maybe_b _) fun b => ?_
  split
  · exact bd_b (one_b h) fun _ => ret_b _
  refine bd_b (maybe_b _) fun b => ?_
  split
  · exact bd_b (one_b h) fun _ => bd_b small_b fun _ => bd_b (argsP_b h n) fun _ => ret_b _
  refine bd_b (maybe_b _) fun b => ?_
  split
  · exact bd_b (one_b h) fun _ => ret_b _
  exact wrong_b
theorem loopP_b {e : Pr PEx} {st : Pr PSt} (h : BX N e) (hs : BX N st) (n : Nat) : BX N (loopP n e st) := by
  unfold loopP
  refine bd_b (maybe_b _) fun b => ?_
  split
  · exact bd_b (one_b h) fun _ => bd_b (blockP_b hs n) fun _ => ret_b _
  · exact bd_b (want_b _) fun _ => bd_b small_b fun _ => bd_b (want_b _) fun _ => bd_b small_b fun _ => bd_b (blockP_b hs n) fun _ => ret_b _
theorem namedSt_b {e : Pr PEx} {st : Pr PSt} (h : BX N e) (hs : BX N st) (n : Nat) : BX N (namedSt n e st) := by
  unfold namedSt
  refine bd_b small_b fun nm => bd_b (maybe_b _) fun b => ?_
  split
  · exact bd_b (loopP_b h hs n) fun _ => ret_b _
  · exact if_b (g := fun s => isS [91] s = true) (bd_b (keyP_b h) fun _ => bd_b (want_b _) fun _ => bd_b h fun _ => bd_b (want_b _) fun _ => ret_b _) (bd_b (want_b _) fun _ => bd_b h fun _ => bd_b (want_b _) fun _ => ret_b _)
theorem otherP_b {st : Pr PSt} (hs : BX N st) (n : Nat) : BX N (otherP n st) := if_b (g := fun s => isS [105, 102] s = true) (bd_b hs fun _ => ret_b _) (blockP_b hs n)
theorem choiceP_b {e : Pr PEx} {st : Pr PSt} (h : BX N e) (hs : BX N st) (n : Nat) : BX N (choiceP n e st) := by
  unfold choiceP
  refine bd_b (want_b _) fun _ => bd_b (one_b h) fun _ => bd_b (blockP_b hs n) fun _ => bd_b (maybe_b _) fun b => ?_
  split
  · exact bd_b (otherP_b hs n) fun _ => ret_b _
  · exact ret_b _
theorem anySt_b {e : Pr PEx} {st : Pr PSt} (h : BX N e) (hs : BX N st) (n : Nat) : BX N (anySt n e st) :=
  if_b (g := fun s => isS [105, 102] s = true) (choiceP_b h hs n) (if_b (g := fun s => isS [119, 104, 105, 108, 101] s = true ∨ isS [101, 97, 99, 104] s = true) (loopP_b h hs n) (if_b (g := fun s => isSmall s = true) (namedSt_b h hs n) (bd_b (simpleP_b h n) fun _ => bd_b (want_b _) fun _ => ret_b _)))
theorem stmt_b : ∀ n, BX N (stmt n)
  | 0 => fuel_b
  | n + 1 => bds_b (f := fun s (x : PSt) => ret (x.setAt (nxt s).pos)) (anySt_b (expr_b n) (stmt_b n) n) fun _ _ => ret_b _
theorem kindP_b : BX N kindP := if_b (g := fun s => isGreat s = true) great_b (oneOf_b _)
theorem fieldP_b : BX N fieldP := bd_b small_b fun _ => bd_b (want_b _) fun _ => bd_b (oneOf_b _) fun _ => ret_b _
theorem paramP_b : BX N paramP := bd_b small_b fun _ => bd_b (want_b _) fun _ => bd_b kindP_b fun _ => ret_b _
theorem recordP_b (n : Nat) : BX N (recordP n) := bd_b great_b fun _ => bd_b (rowBt_b fieldP_b n) fun _ => ret_b _
theorem tableP_b : BX N tableP := bd_b small_b fun _ => bd_b (want_b _) fun _ => bd_b (oneOf_b _) fun _ => bd_b (want_b _) fun _ => bd_b kindP_b fun _ => bd_b (want_b _) fun _ => ret_b _
theorem functionP_b (n : Nat) : BX N (functionP n) := by
  unfold functionP
  refine bd_b small_b fun nm => bd_b (rowOr_b paramP_b n) fun _ => bd_b (maybe_b _) fun b => ?_
  split
  · exact bd_b kindP_b fun _ => bd_b (blockP_b (stmt_b n) n) fun _ => ret_b _
  · exact bd_b (blockP_b (stmt_b n) n) fun _ => ret_b _
theorem handlerP_b (n : Nat) : BX N (handlerP n) := bd_b small_b fun _ => bd_b (rowOr_b paramP_b n) fun _ => bd_b (blockP_b (stmt_b n) n) fun _ => ret_b _
theorem declare_b {l : List PDc} {rest : Pr PDc} (h : BX N rest) : BX N (declare l rest) := fun s hs =>
  bd_b (f := fun (w : PTok) => bd rest fun d => ret (l ++ [d.setAt w.pos])) take_b (fun w => bd_b h fun _ => ret_b _) { s with sur := decide (l.length = 16) } hs
theorem sourceL_b (m : Nat) : ∀ (n : Nat) (t : PTr), BX N (sourceL m n t)
  | 0, t => fuel_b
  | n + 1, t => if_b (g := fun s => (nxt s).kind = 0) (ret_b t) (if_b (g := fun s => isS [114, 101, 99, 111, 114, 100] s = true) (bd_b (declare_b (recordP_b m)) fun _ => sourceL_b m n _) (if_b (g := fun s => isS [109, 97, 112] s = true) (bd_b (declare_b tableP_b) fun _ => sourceL_b m n _)
    (if_b (g := fun s => isS [102, 110] s = true) (bd_b (declare_b (functionP_b m)) fun _ => sourceL_b m n _) (if_b (g := fun s => isS [111, 110] s = true) (bd_b (declare_b (handlerP_b m)) fun _ => sourceL_b m n _) wrong_b))))
theorem source_b (m : Nat) (toks : List PTok) (h : ∀ p ∈ toks, p.pos ≤ (N : Int)) {e : Flt} (he : source m toks = .error e) : e.1 ≤ (N : Int) ∧ (e.2 ≠ 50 ∧ e.2 ≠ 0) := by
  have K := sourceL_b (N := N) m m ⟨[], [], [], []⟩ ⟨toks, 0, false⟩ h
  unfold source at he
  rcases hx : sourceL m m ⟨[], [], [], []⟩ ⟨toks, 0, false⟩ with e1 | ⟨a, s⟩
  · rw [hx] at he K; cases he; exact K
  · rw [hx] at he; cases he
end Go.Proofs.YtcnohgifihbkdaaGreatDoor

namespace Go.Proofs.YtcnohgifihbkdaaGreatDoor
open Go.RowKit Go.Deep Go.Shelf
set_option linter.unusedVariables false
set_option linter.unusedSimpArgs false
theorem hid {p : Prop} (h : p) : Hid p := h
theorem cellOf {w : World} {b : Nat} {c : Array Value} {e : TypeId} {f : Nat × Nat} (h : w.heap[b]? = some (.cells c e f)) (i : Nat) : w.cell? ⟨b, i, none⟩ = c[i]? := by
  simp [World.cell?, h]
theorem freeOf {w : World} {b : Nat} {c : Array Value} {e : TypeId} (h : w.heap[b]? = some (.cells c e (0, 0))) (i : Nat) : w.frozen? ⟨b, i, none⟩ = false := by
  simp [World.frozen?, h]

theorem heap_set_at {w : World} {b : Nat} {c : Array Value} {e : TypeId} {f : Nat × Nat} (h : w.heap[b]? = some (.cells c e f)) (i : Nat) (u : Value) :
    (w.setCell ⟨b, i, none⟩ u).heap[b]? = some (.cells (c.setIfInBounds i u) e f) := by
  simp [World.setCell, Array.getElem?_modify, h]
theorem lt_of_heap {w : World} {b : Nat} {o : Obj} (h : w.heap[b]? = some o) : b < w.heap.size := (Array.getElem?_eq_some_iff.1 h).1

def CRd (w : World) (a : Option Addr) (k : Nat) (rows : List (List Value)) : Prop := ∀ (j : Nat) (r : List Value), rows[j]? = some r → ∃ b off, a = some ⟨b, off, none⟩ ∧ b < w.heap.size ∧ ∀ i, i < k → w.cell? ⟨b, off + j * k + i, none⟩ = r[i]?
theorem CRd.below {w w' : World} {a : Option Addr} {k : Nat} {rows : List (List Value)} {B : Nat} (h : CRd w a k rows) (hB : w.heap.size ≤ B) (kk : Below B w w') : CRd w' a k rows := by
  intro j r e
  obtain ⟨b, off, rfl, hb, hc⟩ := h j r e
  exact ⟨b, off, rfl, Nat.lt_of_lt_of_le hb kk.size, fun i hi => (kk.cell (p := ⟨b, off + j * k + i, none⟩) (Nat.lt_of_lt_of_le hb hB)).trans (hc i hi)⟩

structure Rk (k : Nat) (rows : List (List Value)) : Prop where
  len : ∀ r ∈ rows, r.length = k
  one : ∀ r ∈ rows, ∀ u ∈ r, u.oneCell' = true
theorem Rk.app {k : Nat} {l m : List (List Value)} (h : Rk k l) (g : Rk k m) : Rk k (l ++ m) := ⟨fun r hr => (List.mem_append.1 hr).elim (h.len r) (g.len r), fun r hr => (List.mem_append.1 hr).elim (h.one r) (g.one r)⟩
theorem flat_len {k : Nat} : ∀ {rows : List (List Value)}, (∀ r ∈ rows, r.length = k) → rows.flatten.length = rows.length * k
  | [], _ => by simp
  | r :: l, h => by
    have h1 := flat_len (rows := l) (fun x hx => h x (List.mem_cons_of_mem _ hx))
    have h2 := h r (List.mem_cons_self ..)
    rw [List.flatten_cons, List.length_append, h1, h2, List.length_cons, Nat.add_mul]; omega
theorem flat_at {k : Nat} : ∀ {rows : List (List Value)}, (∀ r ∈ rows, r.length = k) → ∀ (j : Nat) (r : List Value), rows[j]? = some r → ∀ i, i < k → rows.flatten[j * k + i]? = r[i]?
  | [], _, j, r, e => by simp at e
  | p :: l, h, 0, r, e => fun i hi => by
    simp at e; subst e
    rw [List.flatten_cons, Nat.zero_mul, Nat.zero_add, List.getElem?_append_left (by rw [h p (List.mem_cons_self ..)]; exact hi)]
  | p :: l, h, j + 1, r, e => fun i hi => by
    have h1 : l[j]? = some r := by simpa using e
    have h2 := flat_at (rows := l) (fun x hx => h x (List.mem_cons_of_mem _ hx)) j r h1 i hi
    have hp := h p (List.mem_cons_self ..)
    have he : (j + 1) * k + i - p.length = j * k + i := by rw [hp, Nat.add_mul]; omega
    rw [List.flatten_cons, List.getElem?_append_right (by rw [hp, Nat.add_mul]; omega), he]; exact h2
theorem flat_of {k : Nat} (k0 : 0 < k) {rows : List (List Value)} (h : ∀ r ∈ rows, r.length = k) {q : Nat} {u : Value} (e : rows.flatten[q]? = some u) : ∃ r, rows[q / k]? = some r ∧ r[q % k]? = some u := by
  have hq : q < rows.length * k := by rw [← flat_len h]; exact (List.getElem?_eq_some_iff.1 e).1
  have hj : q / k < rows.length := (Nat.div_lt_iff_lt_mul k0).2 hq
  refine ⟨rows[q / k], List.getElem?_eq_getElem hj, ?_⟩
  rw [← flat_at h (q / k) _ (List.getElem?_eq_getElem hj) (q % k) (Nat.mod_lt _ k0), show q / k * k + q % k = q by rw [Nat.mul_comm]; exact Nat.div_add_mod q k]
  exact e
def KR (E : TypeId) (k : Nat) (w : World) (B : Nat) (v : Value) (rows : List (List Value)) : Prop := w.ownsRow B E k v rows.length rows.flatten ∧ Rk k rows
theorem KR.nil (E : TypeId) (k : Nat) (w : World) (B : Nat) : KR E k w B (.slice none 0 0) [] := ⟨⟨by simp, .inl ⟨rfl, rfl⟩⟩, ⟨fun r hr => by simp at hr, fun r hr => by simp at hr⟩⟩
theorem KR.keep {E : TypeId} {k : Nat} {w w' : World} {B : Nat} {v : Value} {l : List (List Value)} (h : KR E k w B v l) (e : ∀ g, v.ownBlock = some g → w'.heap[g]? = w.heap[g]?) : KR E k w' B v l := by
  refine ⟨⟨h.1.1, ?_⟩, h.2⟩
  rcases h.1.2 with h2 | ⟨g, cap, cur, rfl, h3, h4, h5⟩
  · exact .inl h2
  · exact .inr ⟨g, cap, cur, rfl, h3, (e g rfl).trans h4, h5⟩
theorem KR.own {E : TypeId} {k : Nat} {w : World} {B : Nat} {v : Value} {l : List (List Value)} (h : KR E k w B v l) {g : Nat} (e : v.ownBlock = some g) : B ≤ g ∧ g < w.heap.size := by
  rcases h.1.2 with ⟨rfl, _⟩ | ⟨g', cap, cur, rfl, h3, h4, h5⟩
  · cases e
  · cases e; exact ⟨h3, lt_of_heap h4⟩
theorem KR.below {E : TypeId} {k : Nat} {w w' : World} {B C : Nat} {v : Value} {l : List (List Value)} (h : KR E k w B v l) (hC : w.heap.size ≤ C) (q : Below C w w') : KR E k w' B v l := h.keep fun g e => q.block g (by have := (h.own e).2; omega)
theorem KR.lower {E : TypeId} {k : Nat} {w : World} {B C : Nat} {v : Value} {l : List (List Value)} (h : KR E k w B v l) (hC : C ≤ B) : KR E k w C v l := by
  refine ⟨⟨h.1.1, ?_⟩, h.2⟩
  rcases h.1.2 with h2 | ⟨g, cap, cur, rfl, h3, h4⟩
  · exact .inl h2
  · exact .inr ⟨g, cap, cur, rfl, by omega, h4⟩
theorem KR.rd {E : TypeId} {k : Nat} {w : World} {B : Nat} {v : Value} {l : List (List Value)} (h : KR E k w B v l) : ∃ a cap, v = .slice a l.length cap ∧ l.length ≤ cap ∧ CRd w a k l ∧ (a = none → cap = 0) ∧ ∀ x : Addr, a = some x → B ≤ x.block := by
  rcases h.1.2 with ⟨rfl, h2⟩ | ⟨g, cap, cur, rfl, h3, h4, h5, h6, h7, h8⟩
  · have : l = [] := List.eq_nil_of_length_eq_zero h2
    subst this
    exact ⟨none, 0, rfl, by simp, fun j x hx => by simp at hx, fun _ => rfl, fun x e => by cases e⟩
  · refine ⟨_, cap, rfl, h5, fun j r hr => ⟨g, 0, rfl, lt_of_heap h4, fun i hi => ?_⟩, (fun e => by cases e), (fun x e => by cases e; exact h3)⟩
    have hj := (List.getElem?_eq_some_iff.1 hr).1
    have hlt : j * k + i < l.length * k := by
      have : (j + 1) * k ≤ l.length * k := Nat.mul_le_mul_right k hj
      rw [Nat.add_mul] at this; omega
    rw [cellOf h4, ← flat_at h.2.len j r hr i hi, ← h8, List.getElem?_take, if_pos hlt, Nat.zero_add]
    simp
theorem KR.one {E : TypeId} {k : Nat} (w : World) (r : List Value) (hr : r.length = k) (h1 : ∀ u ∈ r, u.oneCell' = true) : KR E k (w.alloc (.cells r.toArray E)) w.heap.size (.slice (some ⟨w.heap.size, 0, none⟩) 1 1) [r] := by
  refine ⟨⟨by simp [hr], .inr ⟨w.heap.size, 1, r.toArray, rfl, Nat.le_refl _, heap_alloc_new w _, Nat.le_refl _, by unfold maxLen; omega, by simp [hr], ?_⟩⟩, ⟨fun x hx => by simp at hx; rw [hx]; exact hr, fun x hx => by simp at hx; rw [hx]; exact h1⟩⟩
  simp [← hr]
theorem crd_one (E : TypeId) (w : World) (r : List Value) (k : Nat) (hk : r.length = k) : CRd (w.alloc (.cells r.toArray E)) (some ⟨w.heap.size, 0, none⟩) k [r] := fun j x e => by
  cases j with
  | succ j => simp at e
  | zero =>
    simp at e; subst e
    refine ⟨w.heap.size, 0, rfl, by rw [World.size_alloc]; omega, fun i hi => ?_⟩
    rw [cellOf (heap_alloc_new w _)]
    simp
theorem gtrans {w w1 w2 : World} {row : Option Nat} (h : w.grownBy w1 row) (k : w1.grownBy w2 row) : w.grownBy w2 row := ⟨k.os.trans h.os, k.tape.trans h.tape, k.output.trans h.output, Nat.le_trans h.size k.size, fun j hj hne => (k.block j (by have := h.size; omega) hne).trans (h.block j hj hne)⟩
theorem bgrown {w w' : World} (h : Below w.heap.size w w') (row : Option Nat) : w.grownBy w' row := ⟨h.os, h.tape, h.output, h.size, fun k hk _ => h.block k hk⟩
theorem gbelow {w w1 w2 : World} {row : Option Nat} (h : w.grownBy w1 row) (k : Below w1.heap.size w1 w2) : w.grownBy w2 row := gtrans h (bgrown k row)
theorem grown_set (w : World) (R i : Nat) (v : Value) : w.grownBy (w.setCell ⟨R, i, none⟩ v) (some R) := ⟨rfl, rfl, rfl, by simp, fun k _ hne => Below.heap_setCell _ ⟨R, i, none⟩ _ _ (show k ≠ R from fun e => hne (by rw [e]))⟩
theorem KR.form {E : TypeId} {k : Nat} {w : World} {B : Nat} {v : Value} {l : List (List Value)} (h : KR E k w B v l) : ∃ a n c, v = .slice a n c := by
  obtain ⟨a, cap, e, _⟩ := h.rd
  exact ⟨a, _, cap, e⟩
theorem KR.cells {E : TypeId} {k : Nat} {w : World} {B : Nat} {v : Value} {l : List (List Value)} (h : KR E k w B v l) {g : Nat} (e : v.ownBlock = some g) : ∃ cur, w.heap[g]? = some (.cells cur E (0, 0)) := by
  rcases h.1.2 with ⟨rfl, _⟩ | ⟨g', cap, cur, rfl, _, h4, _⟩
  · cases e
  · cases e; exact ⟨cur, h4⟩
theorem grown_new {w w1 w2 : World} {R b : Nat} (h : w.grownBy w1 (some R)) (k : w1.grownBy w2 (some b)) (hb : w.heap.size ≤ b) : w.grownBy w2 (some R) := ⟨k.os.trans h.os, k.tape.trans h.tape, k.output.trans h.output, Nat.le_trans h.size k.size, fun j hj hne => (k.block j (by have := h.size; omega) (fun e => by cases e; omega)).trans (h.block j hj hne)⟩
end Go.Proofs.YtcnohgifihbkdaaGreatDoor

namespace Go.Proofs.YtcnohgifihbkdaaGreatDoor
open Go.RowKit Go.Deep Go.Shelf
set_option linter.unusedVariables false
set_option linter.unusedSimpArgs false
structure okTk (t : PTok) : Prop where
  k0 : 0 ≤ t.kind
  k5 : t.kind ≤ 5
  nm : t.kind = 1 → t.text ≠ []
  nu : t.kind = 3 → t.text ≠ [] ∧ ∀ c ∈ t.text, 48 ≤ c.toNat ∧ c.toNat ≤ 57
  tl : t.text.length ≤ 5000
  p0 : 0 ≤ t.pos
  p1 : t.pos ≤ 5000
def okL : List PTok → Prop
  | [] => False
  | t :: r => okTk t ∧ (t.kind = 0 → r = []) ∧ (t.kind ≠ 0 → okL r)
theorem okL.ne : ∀ {l : List PTok}, okL l → ∃ t r, l = t :: r ∧ okTk t
  | [], h => h.elim
  | t :: r, h => ⟨t, r, rfl, h.1⟩
def tokV (t : PTok) : Value := .agg #[.int .i64 t.kind, .string (bs t.text), .int .i64 t.pos]
def fltV (f : Flt) : PanicEntry := { v := .iface 92 (.agg #[.int .i64 f.1, .int .i64 f.2]), recovered := false }
/- What strconv reads of its own. -/
def Gl (w : World) : Prop := ∃ (tp : TypeId) (p : Value) (T : TypeId), w.heap[7]? = some (.cells #[.iface tp p] T (0, 0))
/- The parser's box, its tokens and what strconv reads lie below D; no other function turns the box. -/
structure Pst (w : World) (P D : Nat) (s : PS) : Prop where
  ex : ∃ (g off c : Nat) (cs : Array Value), w.heap[P]? = some (.cells #[.slice (some ⟨g, off, none⟩) s.toks.length c, .int .i64 s.opn, .bool s.sur] 61 (0, 0)) ∧ s.toks.length ≤ c ∧ w.heap[g]? = some (.cells cs 69 (0, 0)) ∧ g < D ∧ ∀ (j : Nat) (t : PTok), s.toks[j]? = some t → cs[off + j * 3]? = some (.int .i64 t.kind) ∧ cs[off + j * 3 + 1]? = some (.string (bs t.text)) ∧ cs[off + j * 3 + 2]? = some (.int .i64 t.pos)
  ok : okL s.toks
  ln : s.toks.length ≤ 5000
  gl : Gl w
  pd : P < D
  d7 : 7 < P
  dw : D ≤ w.heap.size
theorem Pst.keep {w w' : World} {P D : Nat} {s : PS} (h : Pst w P D s) (hz : w.heap.size ≤ w'.heap.size) (k : ∀ g, g < D → w'.heap[g]? = w.heap[g]?) : Pst w' P D s := by
  obtain ⟨⟨g, off, c, cs, h1, h2, h3, h3', h4⟩, h5, h6, ⟨tp, p, T, h7⟩, h8, h9, h10⟩ := h
  exact ⟨⟨g, off, c, cs, (k P h8).trans h1, h2, (k g h3').trans h3, h3', h4⟩, h5, h6, ⟨tp, p, T, (k 7 (by omega)).trans h7⟩, h8, h9, by omega⟩
theorem Pst.below {w w' : World} {P D : Nat} {s : PS} (h : Pst w P D s) (k : Below w.heap.size w w') : Pst w' P D s := h.keep k.size fun g hg => k.block g (by have := h.dw; omega)
theorem Pst.alloc {w : World} {P D : Nat} {s : PS} (h : Pst w P D s) (o : Obj) : Pst (w.alloc o) P D s := h.below ((Below.refl _ _).alloc (Nat.le_refl _) _)
theorem Pst.set {w : World} {P D b i : Nat} {s : PS} {v : Value} (h : Pst w P D s) (hb : D ≤ b) : Pst (w.setCell ⟨b, i, none⟩ v) P D s := h.keep (by simp) fun g hg => Below.heap_setCell _ ⟨b, i, none⟩ _ _ (show g ≠ b by omega)
theorem Pst.drew {w : World} {P D : Nat} {s : PS} (h : Pst w P D s) (n : Nat) : Pst (w.drewN n) P D s := h.below (below_drewN (Below.refl _ _) n)
/- What a call leaves as it was. -/
theorem grown_alloc {w w' : World} {P : Nat} (h : w.grownBy w' (some P)) (o : Obj) : w.grownBy (w'.alloc o) (some P) := gtrans h (World.grownBy_alloc w' o (some P))
theorem grown_set' {w w' : World} {P b i : Nat} {v : Value} (h : w.grownBy w' (some P)) (hb : w.heap.size ≤ b) : w.grownBy (w'.setCell ⟨b, i, none⟩ v) (some P) := grown_new h (grown_set w' b i v) hb
theorem some_ne {a b : Nat} (h : b < a) : some a ≠ some b := fun e => by
  have : a = b := Option.some.inj e
  omega
theorem gcell {W w1 : World} {P : Nat} (hg : W.grownBy w1 (some P)) : (∀ b o, P < b → b < W.heap.size → w1.cell? ⟨b, o, none⟩ = W.cell? ⟨b, o, none⟩) ∧ (∀ b o, P < b → b < W.heap.size → w1.frozen? ⟨b, o, none⟩ = W.frozen? ⟨b, o, none⟩) :=
  ⟨fun b o h1 h2 => World.grownBy.cell_far hg ⟨b, o, none⟩ h2 (some_ne h1), fun b o h1 h2 => World.grownBy.frozen_far hg ⟨b, o, none⟩ h2 (some_ne h1)⟩
/- Blocks that stay as they are. -/
def Same (A : Nat → Prop) (w w' : World) : Prop := ∀ g, A g → w'.heap[g]? = w.heap[g]?
theorem Same.refl (A : Nat → Prop) (w : World) : Same A w w := fun _ _ => rfl
theorem Same.trans {A : Nat → Prop} {w w1 w2 : World} (h : Same A w w1) (k : Same A w1 w2) : Same A w w2 := fun g hg => (k g hg).trans (h g hg)
theorem Same.alloc {A : Nat → Prop} {w w1 : World} {o : Obj} (h : Same A w w1) (hA : ∀ g, A g → g < w1.heap.size) : Same A w (w1.alloc o) := h.trans fun g hg => ((Below.refl w1.heap.size w1).alloc (Nat.le_refl _) o).block g (hA g hg)
theorem Same.set {A : Nat → Prop} {w w1 : World} {b i : Nat} {v : Value} (h : Same A w w1) (hA : ¬ A b) : Same A w (w1.setCell ⟨b, i, none⟩ v) := h.trans fun g hg => Below.heap_setCell _ ⟨b, i, none⟩ _ _ (show g ≠ b from fun e => hA (e ▸ hg))
theorem Same.call {A : Nat → Prop} {w w1 w2 : World} {P : Nat} (hg : w1.grownBy w2 (some P)) (h : Same A w w1) (hA : ∀ g, A g → g < w1.heap.size) (hP : ¬ A P) : Same A w w2 := h.trans fun g h2 => hg.block g (hA g h2) (fun e => hP (by cases e; exact h2))
theorem Same.below {A : Nat → Prop} {w w1 w2 : World} (hg : Below w1.heap.size w1 w2) (h : Same A w w1) (hA : ∀ g, A g → g < w1.heap.size) : Same A w w2 := h.trans fun g h2 => hg.block g (hA g h2)
/- Rows that lie in blocks of A. -/
def Rws (E : TypeId) (n : Nat) (w : World) (A : Nat → Prop) (v : Value) (rows : List (List Value)) : Prop := KR E n w 0 v rows ∧ ∀ g, v.ownBlock = some g → A g
theorem Rws.nil (E : TypeId) (n : Nat) (w : World) (A : Nat → Prop) : Rws E n w A (.slice none 0 0) [] := ⟨KR.nil _ _ _ _, fun g e => by cases e⟩
theorem Rws.mv {E : TypeId} {n : Nat} {w w' : World} {A B : Nat → Prop} {v : Value} {rows : List (List Value)} (h : Rws E n w A v rows) (k : Same A w w') (hAB : ∀ g, A g → B g) : Rws E n w' B v rows := ⟨h.1.keep fun g e => k g (h.2 g e), fun g e => hAB g (h.2 g e)⟩
theorem Rws.form {E : TypeId} {n : Nat} {w : World} {A : Nat → Prop} {v : Value} {rows : List (List Value)} (h : Rws E n w A v rows) : ∃ a m c, v = .slice a m c := h.1.form
def nmR (l : List Bsq) : List (List Value) := l.map fun q => [.string (bs q)]
def pmR (l : List PPm) : List (List Value) := l.map fun p => [.string (bs p.name), .string (bs p.type)]
def All2 {α β : Type} (R : α → β → Prop) (l : List α) (m : List β) : Prop := l.length = m.length ∧ ∀ (j : Nat) (a : α) (b : β), l[j]? = some a → m[j]? = some b → R a b
theorem All2.nil {α β : Type} (R : α → β → Prop) : All2 R [] [] := ⟨rfl, fun j a b e => by simp at e⟩
theorem All2.one {α β : Type} {R : α → β → Prop} {a : α} {b : β} (h : R a b) : All2 R [a] [b] := ⟨rfl, fun j x y e f => by
  cases j with
  | zero => simp at e f; subst e; subst f; exact h
  | succ j => simp at e⟩
theorem All2.app {α β : Type} {R : α → β → Prop} {l l' : List α} {m m' : List β} (h : All2 R l m) (k : All2 R l' m') : All2 R (l ++ l') (m ++ m') := ⟨by rw [List.length_append, List.length_append, h.1, k.1], fun j x y e f => by
  by_cases hj : j < l.length
  · rw [List.getElem?_append_left hj] at e
    rw [List.getElem?_append_left (by rw [← h.1]; exact hj)] at f
    exact h.2 j x y e f
  · rw [List.getElem?_append_right (by omega)] at e
    rw [List.getElem?_append_right (by rw [← h.1]; omega), ← h.1] at f
    exact k.2 _ x y e f⟩
theorem All2.imp {α β : Type} {R S : α → β → Prop} {l : List α} {m : List β} (h : All2 R l m) (k : ∀ a b, R a b → S a b) : All2 S l m := ⟨h.1, fun j a b e f => k a b (h.2 j a b e f)⟩
/- Expressions: eight cells. -/
def eC (e : PEx) (nv av : Value) : List Value := [.int .i64 e.kind, .int .i64 e.op, .int .i64 e.int, .string (bs e.text), .string (bs e.name), nv, av, .int .i64 e.pos]
def Er : Nat → World → (Nat → Prop) → List Value → PEx → Prop
  | 0, _, _, _, _ => False
  | k + 1, w, A, r, e => ∃ (nv av : Value) (rows : List (List Value)) (es : List PEx), r = eC e nv av ∧ Rws 9 1 w A nv (nmR e.names) ∧ Rws 45 8 w A av rows ∧ e.args = es.map pkE ∧ All2 (Er k w A) rows es
theorem Er.mv : ∀ (k : Nat) {w w' : World} {A B : Nat → Prop} {r : List Value} {e : PEx}, Er k w A r e → Same A w w' → (∀ g, A g → B g) → Er k w' B r e
  | 0, _, _, _, _, _, _, h, _, _ => h.elim
  | k + 1, _, _, _, _, _, _, ⟨nv, av, rows, es, h1, h2, h3, h4, h5⟩, s, i => ⟨nv, av, rows, es, h1, h2.mv s i, h3.mv s i, h4, h5.imp fun a b h => Er.mv k h s i⟩
theorem Er.more : ∀ (k : Nat) {w : World} {A : Nat → Prop} {r : List Value} {e : PEx}, Er k w A r e → Er (k + 1) w A r e
  | 0, _, _, _, _, h => h.elim
  | k + 1, _, _, _, _, ⟨nv, av, rows, es, h1, h2, h3, h4, h5⟩ => ⟨nv, av, rows, es, h1, h2, h3, h4, h5.imp fun a b h => Er.more k h⟩
theorem Er.le {k m : Nat} {w : World} {A : Nat → Prop} {r : List Value} {e : PEx} (h : Er k w A r e) (hm : k ≤ m) : Er m w A r e := by
  obtain ⟨d, rfl⟩ : ∃ d, m = k + d := ⟨m - k, by omega⟩
  clear hm
  induction d with
  | zero => exact h
  | succ d ih => exact Er.more _ ih
/- A slice of expressions. -/
def XsR (w : World) (A : Nat → Prop) (v : Value) (es : List PEx) : Prop := ∃ (k : Nat) (rows : List (List Value)), Rws 45 8 w A v rows ∧ All2 (Er k w A) rows es
theorem XsR.nil (w : World) (A : Nat → Prop) : XsR w A (.slice none 0 0) [] := ⟨0, [], Rws.nil _ _ _ _, All2.nil _⟩
theorem XsR.mv {w w' : World} {A B : Nat → Prop} {v : Value} {es : List PEx} (h : XsR w A v es) (s : Same A w w') (i : ∀ g, A g → B g) : XsR w' B v es := by
  obtain ⟨k, rows, h1, h2⟩ := h
  exact ⟨k, rows, h1.mv s i, h2.imp fun a b h => Er.mv k h s i⟩
theorem XsR.form {w : World} {A : Nat → Prop} {v : Value} {es : List PEx} (h : XsR w A v es) : ∃ a m c, v = .slice a m c := by
  obtain ⟨k, rows, h1, h2⟩ := h
  exact h1.form
/- An expression as a value. -/
def RE (w : World) (A : Nat → Prop) (v : Value) (e : PEx) : Prop := ∃ (k : Nat) (r : List Value), v = .agg r.toArray ∧ Er k w A r e
theorem RE.mv {w w' : World} {A B : Nat → Prop} {v : Value} {e : PEx} (h : RE w A v e) (s : Same A w w') (i : ∀ g, A g → B g) : RE w' B v e := by
  obtain ⟨k, r, h1, h2⟩ := h
  exact ⟨k, r, h1, Er.mv k h2 s i⟩
theorem RE.parts {w : World} {A : Nat → Prop} {v : Value} {e : PEx} (h : RE w A v e) : ∃ (na : Option Addr) (nn nc : Nat) (aa : Option Addr) (an ac : Nat) (es : List PEx), v = .agg #[.int .i64 e.kind, .int .i64 e.op, .int .i64 e.int, .string (bs e.text), .string (bs e.name), .slice na nn nc, .slice aa an ac, .int .i64 e.pos] ∧ Rws 9 1 w A (.slice na nn nc) (nmR e.names) ∧ XsR w A (.slice aa an ac) es ∧ e.args = es.map pkE := by
  obtain ⟨k, r, rfl, h⟩ := h
  cases k with
  | zero => exact h.elim
  | succ k =>
    obtain ⟨nv, av, rows, es, rfl, h2, h3, h4, h5⟩ := h
    obtain ⟨na, nn, nc, rfl⟩ := h2.form
    obtain ⟨aa, an, ac, rfl⟩ := h3.form
    exact ⟨na, nn, nc, aa, an, ac, es, rfl, h2, ⟨k, rows, h3, h5⟩, h4⟩
theorem RE.mk {w : World} {A : Nat → Prop} {e : PEx} {nv av : Value} {es : List PEx} (h1 : Rws 9 1 w A nv (nmR e.names)) (h2 : XsR w A av es) (h3 : e.args = es.map pkE) : RE w A (.agg #[.int .i64 e.kind, .int .i64 e.op, .int .i64 e.int, .string (bs e.text), .string (bs e.name), nv, av, .int .i64 e.pos]) e := by
  obtain ⟨k, rows, h4, h5⟩ := h2
  exact ⟨k + 1, eC e nv av, rfl, nv, av, rows, es, rfl, h1, h4, h3, h5⟩
theorem Rws.oneCell {E : TypeId} {n : Nat} {w : World} {A : Nat → Prop} {v : Value} {rows : List (List Value)} (h : Rws E n w A v rows) : v.oneCell' = true := by
  obtain ⟨a, m, c, rfl⟩ := h.form
  rfl
theorem Er.row {k : Nat} {w : World} {A : Nat → Prop} {r : List Value} {e : PEx} (h : Er k w A r e) : r.length = 8 ∧ ∀ u ∈ r, u.oneCell' = true := by
  cases k with
  | zero => exact h.elim
  | succ k =>
    obtain ⟨nv, av, rows, es, rfl, h2, h3, h4, h5⟩ := h
    have q1 := h2.oneCell
    have q2 := h3.oneCell
    refine ⟨rfl, fun u hu => ?_⟩
    simp [eC] at hu
    rcases hu with rfl | rfl | rfl | rfl | rfl | rfl | rfl | rfl <;> first | rfl | assumption
/- One expression in a new block. -/
theorem XsR.one {w : World} {A B : Nat → Prop} {cs : Array Value} {e : PEx} (h : RE w A (.agg cs) e) (hA : ∀ g, A g → g < w.heap.size) (hAB : ∀ g, A g → B g) (hB : B w.heap.size) : XsR (w.alloc (.cells cs 45)) B (.slice (some ⟨w.heap.size, 0, none⟩) 1 1) [e] := by
  obtain ⟨k, r, hr, h2⟩ := h
  cases hr
  obtain ⟨q1, q2⟩ := h2.row
  exact ⟨k, [r], ⟨(KR.one w r q1 q2).lower (Nat.zero_le _), fun g e => by cases e; exact hB⟩, All2.one (Er.mv k h2 ((Same.refl _ _).alloc hA) hAB)⟩
/- A statement: eight cells. -/
def sC (s : PSt) (av bv ev : Value) : List Value := [.int .i64 s.kind, .string (bs s.name), .string (bs s.label), .string (bs s.var), av, bv, ev, .int .i64 s.pos]
def Sr : Nat → World → (Nat → Prop) → List Value → PSt → Prop
  | 0, _, _, _, _ => False
  | k + 1, w, A, r, s => ∃ (av bv ev : Value) (xs : List PEx) (rb re : List (List Value)) (bd' el : List PSt), r = sC s av bv ev ∧ (XsR w A av xs ∧ s.args = xs.map pkE) ∧ (Rws 48 8 w A bv rb ∧ s.body = bd'.map pkS ∧ All2 (Sr k w A) rb bd') ∧ (Rws 48 8 w A ev re ∧ s.els = el.map pkS ∧ All2 (Sr k w A) re el)
theorem Sr.mv : ∀ (k : Nat) {w w' : World} {A B : Nat → Prop} {r : List Value} {e : PSt}, Sr k w A r e → Same A w w' → (∀ g, A g → B g) → Sr k w' B r e
  | 0, _, _, _, _, _, _, h, _, _ => h.elim
  | k + 1, _, _, _, _, _, _, ⟨av, bv, ev, xs, rb, re, bd', el, h1, ⟨h2, h3⟩, ⟨h4, h5, h6⟩, h7, h8, h9⟩, s, i => ⟨av, bv, ev, xs, rb, re, bd', el, h1, ⟨h2.mv s i, h3⟩, ⟨h4.mv s i, h5, h6.imp fun a b h => Sr.mv k h s i⟩, h7.mv s i, h8, h9.imp fun a b h => Sr.mv k h s i⟩
theorem Sr.more : ∀ (k : Nat) {w : World} {A : Nat → Prop} {r : List Value} {e : PSt}, Sr k w A r e → Sr (k + 1) w A r e
  | 0, _, _, _, _, h => h.elim
  | k + 1, _, _, _, _, ⟨av, bv, ev, xs, rb, re, bd', el, h1, h2, ⟨h4, h5, h6⟩, h7, h8, h9⟩ => ⟨av, bv, ev, xs, rb, re, bd', el, h1, h2, ⟨h4, h5, h6.imp fun a b h => Sr.more k h⟩, h7, h8, h9.imp fun a b h => Sr.more k h⟩
theorem Sr.le {k m : Nat} {w : World} {A : Nat → Prop} {r : List Value} {e : PSt} (h : Sr k w A r e) (hm : k ≤ m) : Sr m w A r e := by
  obtain ⟨d, rfl⟩ : ∃ d, m = k + d := ⟨m - k, by omega⟩
  clear hm
  induction d with
  | zero => exact h
  | succ d ih => exact Sr.more _ ih
def SsR (w : World) (A : Nat → Prop) (v : Value) (l : List PSt) : Prop := ∃ (k : Nat) (rows : List (List Value)), Rws 48 8 w A v rows ∧ All2 (Sr k w A) rows l
theorem SsR.nil (w : World) (A : Nat → Prop) : SsR w A (.slice none 0 0) [] := ⟨0, [], Rws.nil _ _ _ _, All2.nil _⟩
theorem SsR.mv {w w' : World} {A B : Nat → Prop} {v : Value} {es : List PSt} (h : SsR w A v es) (s : Same A w w') (i : ∀ g, A g → B g) : SsR w' B v es := by
  obtain ⟨k, rows, h1, h2⟩ := h
  exact ⟨k, rows, h1.mv s i, h2.imp fun a b h => Sr.mv k h s i⟩
theorem SsR.form {w : World} {A : Nat → Prop} {v : Value} {es : List PSt} (h : SsR w A v es) : ∃ a m c, v = .slice a m c := by
  obtain ⟨k, rows, h1, h2⟩ := h
  exact h1.form
def RSt (w : World) (A : Nat → Prop) (v : Value) (s : PSt) : Prop := ∃ (k : Nat) (r : List Value), v = .agg r.toArray ∧ Sr k w A r s
theorem RSt.mv {w w' : World} {A B : Nat → Prop} {v : Value} {e : PSt} (h : RSt w A v e) (s : Same A w w') (i : ∀ g, A g → B g) : RSt w' B v e := by
  obtain ⟨k, r, h1, h2⟩ := h
  exact ⟨k, r, h1, Sr.mv k h2 s i⟩
theorem RSt.parts {w : World} {A : Nat → Prop} {v : Value} {s : PSt} (h : RSt w A v s) : ∃ (aa : Option Addr) (an ac : Nat) (ba : Option Addr) (bn bc : Nat) (ea : Option Addr) (en ec : Nat) (xs : List PEx) (b l : List PSt), v = .agg #[.int .i64 s.kind, .string (bs s.name), .string (bs s.label), .string (bs s.var), .slice aa an ac, .slice ba bn bc, .slice ea en ec, .int .i64 s.pos] ∧ XsR w A (.slice aa an ac) xs ∧ SsR w A (.slice ba bn bc) b ∧ SsR w A (.slice ea en ec) l ∧ s.args = xs.map pkE ∧ s.body = b.map pkS ∧ s.els = l.map pkS := by
  obtain ⟨k, r, rfl, h⟩ := h
  cases k with
  | zero => exact h.elim
  | succ k =>
    obtain ⟨av, bv, ev, xs, rb, re, bd', el, rfl, ⟨h2, h3⟩, ⟨h4, h5, h6⟩, h7, h8, h9⟩ := h
    obtain ⟨aa, an, ac, rfl⟩ := h2.form
    obtain ⟨ba, bn, bc, rfl⟩ := h4.form
    obtain ⟨ea, en, ec, rfl⟩ := h7.form
    exact ⟨aa, an, ac, ba, bn, bc, ea, en, ec, xs, bd', el, rfl, h2, ⟨k, rb, h4, h6⟩, ⟨k, re, h7, h9⟩, h3, h5, h8⟩
theorem RSt.mk {w : World} {A : Nat → Prop} {s : PSt} {av bv ev : Value} {xs : List PEx} {b l : List PSt} (h1 : XsR w A av xs) (h2 : SsR w A bv b) (h3 : SsR w A ev l) (q1 : s.args = xs.map pkE) (q2 : s.body = b.map pkS) (q3 : s.els = l.map pkS) : RSt w A (.agg #[.int .i64 s.kind, .string (bs s.name), .string (bs s.label), .string (bs s.var), av, bv, ev, .int .i64 s.pos]) s := by
  obtain ⟨k, rb, h4, h5⟩ := h2
  obtain ⟨m, re, h6, h7⟩ := h3
  exact ⟨max k m + 1, sC s av bv ev, rfl, av, bv, ev, xs, rb, re, b, l, rfl, ⟨h1, q1⟩, ⟨h4, q2, h5.imp fun a b h => h.le (Nat.le_max_left _ _)⟩, h6, q3, h7.imp fun a b h => h.le (Nat.le_max_right _ _)⟩
theorem Sr.row {k : Nat} {w : World} {A : Nat → Prop} {r : List Value} {e : PSt} (h : Sr k w A r e) : r.length = 8 ∧ ∀ u ∈ r, u.oneCell' = true := by
  cases k with
  | zero => exact h.elim
  | succ k =>
    obtain ⟨av, bv, ev, xs, rb, re, bd', el, rfl, ⟨h2, h3⟩, ⟨h4, h5, h6⟩, h7, h8, h9⟩ := h
    obtain ⟨aa, an, ac, rfl⟩ := h2.form
    obtain ⟨ba, bn, bc, rfl⟩ := h4.form
    obtain ⟨ea, en, ec, rfl⟩ := h7.form
    refine ⟨rfl, fun u hu => ?_⟩
    simp [sC] at hu
    rcases hu with rfl | rfl | rfl | rfl | rfl | rfl | rfl | rfl <;> rfl
theorem SsR.one {w : World} {A B : Nat → Prop} {cs : Array Value} {e : PSt} (h : RSt w A (.agg cs) e) (hA : ∀ g, A g → g < w.heap.size) (hAB : ∀ g, A g → B g) (hB : B w.heap.size) : SsR (w.alloc (.cells cs 48)) B (.slice (some ⟨w.heap.size, 0, none⟩) 1 1) [e] := by
  obtain ⟨k, r, hr, h2⟩ := h
  cases hr
  obtain ⟨q1, q2⟩ := h2.row
  exact ⟨k, [r], ⟨(KR.one w r q1 q2).lower (Nat.zero_le _), fun g e => by cases e; exact hB⟩, All2.one (Sr.mv k h2 ((Same.refl _ _).alloc hA) hAB)⟩
/- A slice of params; a declaration: seven cells. -/
def PmR (w : World) (A : Nat → Prop) (v : Value) (l : List PPm) : Prop := Rws 112 2 w A v (pmR l)
def RDc (w : World) (A : Nat → Prop) (v : Value) (d : PDc) : Prop := ∃ (pv bv : Value) (b : List PSt), v = .agg #[.string (bs d.name), pv, .string (bs d.key), .string (bs d.value), .string (bs d.result), bv, .int .i64 d.pos] ∧ PmR w A pv d.params ∧ SsR w A bv b ∧ d.body = b.map pkS
theorem RDc.mv {w w' : World} {A B : Nat → Prop} {v : Value} {e : PDc} (h : RDc w A v e) (s : Same A w w') (i : ∀ g, A g → B g) : RDc w' B v e := by
  obtain ⟨pv, bv, b, h1, h2, h3, h4⟩ := h
  exact ⟨pv, bv, b, h1, h2.mv s i, h3.mv s i, h4⟩
/- What a function answers: its fault, or its value and the box as it is then. -/
def Rt {α : Type} (R : World → (Nat → Prop) → Value → α → Prop) (P D : Nat) (w : World) (r : Except Flt (α × PS)) (e : Ending) (w' : World) : Prop := match r with
  | .error f => e = .panicked [fltV f] ∧ w.grownBy w' (some P)
  | .ok (a, s') => ∃ v, e = .returned v ∧ R w' (fun g => w.heap.size ≤ g ∧ g < w'.heap.size) v a ∧ Pst w' P D s' ∧ w.grownBy w' (some P)
theorem Rt.err {α : Type} {R : World → (Nat → Prop) → Value → α → Prop} {P D : Nat} {w w' : World} {r : Except Flt (α × PS)} {f : Flt} (h : r = .error f) (hg : w.grownBy w' (some P)) : Rt R P D w r (.panicked [fltV f]) w' := by
  rw [h]; exact ⟨rfl, hg⟩
theorem Rt.ok {α : Type} {R : World → (Nat → Prop) → Value → α → Prop} {P D : Nat} {w w' : World} {r : Except Flt (α × PS)} {a : α} {s' : PS} {v : Value} (h : r = .ok (a, s')) (hv : R w' (fun g => w.heap.size ≤ g ∧ g < w'.heap.size) v a) (hs : Pst w' P D s') (hg : w.grownBy w' (some P)) : Rt R P D w r (.returned v) w' := by
  rw [h]; exact ⟨v, rfl, hv, hs, hg⟩
theorem Rt.cases {α : Type} {R : World → (Nat → Prop) → Value → α → Prop} {P D : Nat} {w w' : World} {r : Except Flt (α × PS)} {e : Ending} (h : Rt R P D w r e w') : (∃ f, r = .error f ∧ e = .panicked [fltV f] ∧ w.grownBy w' (some P)) ∨ (∃ a s' v, r = .ok (a, s') ∧ e = .returned v ∧ R w' (fun g => w.heap.size ≤ g ∧ g < w'.heap.size) v a ∧ Pst w' P D s' ∧ w.grownBy w' (some P)) := by
  unfold Rt at h
  split at h
  · exact .inl ⟨_, rfl, h⟩
  · obtain ⟨v, h⟩ := h
    exact .inr ⟨_, _, v, rfl, h⟩
/- Plain answers. -/
def RS (w : World) (A : Nat → Prop) (v : Value) (q : Bsq) : Prop := v = .string (bs q)
def RB (w : World) (A : Nat → Prop) (v : Value) (b : Bool) : Prop := v = .bool b
def RI (w : World) (A : Nat → Prop) (v : Value) (n : Int) : Prop := v = .int .i64 n
def RU (w : World) (A : Nat → Prop) (v : Value) (n : Unit) : Prop := v = .tuple #[]
def RT (w : World) (A : Nat → Prop) (v : Value) (t : PTok) : Prop := v = tokV t
def RP (w : World) (A : Nat → Prop) (v : Value) (p : PPm) : Prop := v = .agg #[.string (bs p.name), .string (bs p.type)]
/- Fuel is left. -/
def Fed {α : Type} (r : Except Flt (α × PS)) : Prop := r ≠ .error (-1, -1)
/- What the walks read of the box. -/
theorem Pst.open {w : World} {P D : Nat} {s : PS} (h : Pst w P D s) : ∃ (g off n c : Nat), P < w.heap.size ∧ g < w.heap.size ∧ w.cell? ⟨P, 0, none⟩ = some (.slice (some ⟨g, off, none⟩) n c) ∧ w.cell? ⟨P, 1, none⟩ = some (.int .i64 s.opn) ∧ w.cell? ⟨P, 2, none⟩ = some (.bool s.sur) ∧ w.frozen? ⟨P, 0, none⟩ = false ∧ w.frozen? ⟨P, 1, none⟩ = false ∧ w.frozen? ⟨P, 2, none⟩ = false ∧ n = s.toks.length ∧ (0 : Int) < (n : Int) ∧ (n : Int) ≤ 5000 ∧ (n : Int) ≤ (c : Int) ∧ w.cell? ⟨g, off, none⟩ = some (.int .i64 (nxt s).kind) ∧ w.cell? ⟨g, off + 1, none⟩ = some (.string (bs (nxt s).text)) ∧ w.cell? ⟨g, off + 2, none⟩ = some (.int .i64 (nxt s).pos) := by
  obtain ⟨⟨g, off, c, cs, h1, h2, h3, h3', h4⟩, h5, h6, h7⟩ := h
  obtain ⟨t, r, e, ht⟩ := h5.ne
  obtain ⟨a1, a2, a3⟩ := h4 0 t (by rw [e]; rfl)
  have hn : nxt s = t := by unfold nxt; rw [e]; rfl
  have hl : s.toks.length = r.length + 1 := by rw [e]; rfl
  refine ⟨g, off, s.toks.length, c, lt_of_heap h1, lt_of_heap h3, cellOf h1 0, cellOf h1 1, cellOf h1 2, freeOf h1 0, freeOf h1 1, freeOf h1 2, rfl, by omega, by omega, by omega, ?_, ?_, ?_⟩
  · rw [cellOf h3, hn]; simpa using a1
  · rw [cellOf h3, hn]; simpa using a2
  · rw [cellOf h3, hn]; simpa using a3
theorem nxt_ok {s : PS} (h : okL s.toks) : okTk (nxt s) := by
  obtain ⟨t, r, e, ht⟩ := h.ne
  unfold nxt; rw [e]; exact ht
set_option maxHeartbeats 1000000 in
theorem next_any (w : World) (P D : Nat) (s : PS) (h : Pst w P D s) : Calls Tryz.prog 41 #[.pointer (some ⟨P, 0, none⟩)] w fun e w' => e = .returned (tokV (nxt s)) ∧ Below w.heap.size w w' := by
  obtain ⟨g, off, n, c, hP, hg, c0, c1, c2, f0, f1, f2, hn, n0, n1, nc, t0, t1, t2⟩ := h.open
  clear h hn
  go_enter Tryz.func41, Tryz.ntmps41
  go_wp2
  exact bodyPost_ret (v := tokV (nxt s)) (by simp [results, Tryz.results41, go_sem, tokV, *]) rfl ⟨rfl, (Below.refl _ _).alloc (Nat.le_refl _) _⟩
theorem gA {w w' : World} {P : Nat} {o : Obj} (h : w.grownBy w' (some P)) : w.grownBy (w'.alloc o) (some P) := grown_alloc h o
theorem gS {w w' : World} {P b i : Nat} {v : Value} (hb : w.heap.size ≤ b) (h : w.grownBy w' (some P)) : w.grownBy (w'.setCell ⟨b, i, none⟩ v) (some P) := grown_set' h hb
theorem pA {w : World} {P D : Nat} {s : PS} {o : Obj} (h : Pst w P D s) : Pst (w.alloc o) P D s := h.alloc o
theorem pS {w : World} {P D b i : Nat} {s : PS} {v : Value} (hb : D ≤ b) (h : Pst w P D s) : Pst (w.setCell ⟨b, i, none⟩ v) P D s := h.set hb
theorem Rt.go {α : Type} {R : World → (Nat → Prop) → Value → α → Prop} {P D : Nat} {w w' : World} {r : Except Flt (α × PS)} {e : Ending} (h : Rt R P D w r e w') {W : World} (g : W.grownBy w (some P)) : (∃ f, r = .error f ∧ e = .panicked [fltV f] ∧ W.grownBy w' (some P)) ∨ (∃ a s' v, r = .ok (a, s') ∧ e = .returned v ∧ R w' (fun g => w.heap.size ≤ g ∧ g < w'.heap.size) v a ∧ Pst w' P D s' ∧ w.grownBy w' (some P) ∧ W.grownBy w' (some P) ∧ (∀ b o, P < b → b < w.heap.size → w'.cell? ⟨b, o, none⟩ = w.cell? ⟨b, o, none⟩) ∧ (∀ b o, P < b → b < w.heap.size → w'.frozen? ⟨b, o, none⟩ = w.frozen? ⟨b, o, none⟩) ∧ w.heap.size ≤ w'.heap.size ∧ P < w'.heap.size) := by
  rcases h.cases with ⟨f, hx, he, hg⟩ | ⟨a, s', v, hx, he, hv, hs, hg⟩
  · exact .inl ⟨f, hx, he, gtrans g hg⟩
  · exact .inr ⟨a, s', v, hx, he, hv, hs, hg, gtrans g hg, (gcell hg).1, (gcell hg).2, hg.size, (by obtain ⟨_, _, _, _, hp, _⟩ := hs.open; exact hp)⟩
theorem le1 (a b : World) (h : a.heap.size ≤ b.heap.size) : a.heap.size ≤ b.heap.size := h
theorem lt1 (a b : World) (h : a.heap.size < b.heap.size) : a.heap.size < b.heap.size := h
theorem szA (w : World) (o : Obj) : (w.alloc o).heap.size = w.heap.size + 1 := by simp
theorem szS (w : World) (a : Addr) (v : Value) : (w.setCell a v).heap.size = w.heap.size := by simp
end Go.Proofs.YtcnohgifihbkdaaGreatDoor

namespace Go.Proofs.YtcnohgifihbkdaaGreatDoor
open Go.RowKit Go.Deep Go.Shelf
set_option linter.unusedVariables false
set_option maxRecDepth 100000
set_option linter.unusedSimpArgs false
@[go_sem] theorem fld_0 (a b c : Value) (W : World) : (Instr.field 69 (.agg #[a, b, c]) 0).run Tryz.prog W = .ok a W := by kernel_rfl
@[go_sem] theorem fld_1 (a b c : Value) (W : World) : (Instr.field 69 (.agg #[a, b, c]) 1).run Tryz.prog W = .ok b W := by kernel_rfl
@[go_sem] theorem fld_2 (a b c : Value) (W : World) : (Instr.field 69 (.agg #[a, b, c]) 2).run Tryz.prog W = .ok c W := by kernel_rfl
theorem bcell {W w1 : World} (hb : Below W.heap.size W w1) : (∀ b o, b < W.heap.size → w1.cell? ⟨b, o, none⟩ = W.cell? ⟨b, o, none⟩) ∧ (∀ b o, b < W.heap.size → w1.frozen? ⟨b, o, none⟩ = W.frozen? ⟨b, o, none⟩) :=
  ⟨fun b o h => hb.cell (p := ⟨b, o, none⟩) h, fun b o h => hb.frozen (p := ⟨b, o, none⟩) h⟩
theorem bs_inj {a b : Bsq} (h : bs a = bs b) : a = b := by
  have h1 := congrArg ByteArray.data h
  have h2 : a.toArray = b.toArray := h1
  simpa using h2
set_option maxHeartbeats 1000000 in
theorem is_any (w : World) (P D : Nat) (s : PS) (q : Bsq) (h : Pst w P D s) : Calls Tryz.prog 42 #[.pointer (some ⟨P, 0, none⟩), .string (bs q)] w fun e w' => e = .returned (.bool (isS q s)) ∧ Below w.heap.size w w' := by
  have K := hid (next_any w P D s h)
  unfold isS
  unfold tokV at K
  generalize (nxt s).kind = kd at *
  generalize (nxt s).text = tx at *
  clear h
  go_enter Tryz.func42, Tryz.ntmps42
  go_wp2_with (go_at_call 41; (refine (Hid.out K).mono ?_; rintro e w1 ⟨rfl, hb⟩; have HB := hid hb; clear hb))
  all_goals
    go_ret
    refine ⟨?_, (HB.out.trans ((Below.refl _ _).alloc HB.out.size _))⟩
    first | rfl | (congr 2; simp_all)
set_option maxHeartbeats 1000000 in
theorem isLong_any (w : World) (t : PTok) (ht : t.text.length ≤ 5000) : Calls Tryz.prog 107 #[tokV t] w fun e w' => e = .returned (.bool (isLong t)) ∧ Below w.heap.size w w' := by
  unfold isLong tokV
  generalize t.kind = kd at *
  generalize t.text = tx at *
  go_enter Tryz.func107, Tryz.ntmps107
  go_wp2
  all_goals
    go_ret
    refine ⟨?_, ((Below.refl _ _).alloc (Nat.le_refl _) _)⟩
    simp_all <;> omega
set_option maxHeartbeats 1000000 in
theorem isGreat_any (w : World) (P D : Nat) (s : PS) (h : Pst w P D s) : Calls Tryz.prog 108 #[.pointer (some ⟨P, 0, none⟩)] w fun e w' => e = .returned (.bool (isGreat s)) ∧ Below w.heap.size w w' := by
  have K := hid (next_any w P D s h)
  have hk := nxt_ok h.ok
  have h1 := hk.nm
  have h2 := hk.tl
  unfold isGreat
  unfold tokV at K
  generalize (nxt s).kind = kd at *
  generalize (nxt s).text = tx at *
  clear h hk
  have h0 : kd = 1 → ∃ c r, tx = c :: r := fun e => by
    cases tx with
    | nil => exact absurd rfl (h1 e)
    | cons c r => exact ⟨c, r, rfl⟩
  clear h1
  by_cases hk : kd = 1
  · obtain ⟨c, r, rfl⟩ := h0 hk
    subst hk
    clear h0
    have hz : (bs (c :: r))[0]'(by simp [bs, ByteArray.size]) = c := rfl
    have hn : (0 : Int) < ((c :: r).length : Int) := by simp
    have q1 : decide (65 ≤ (c :: r).headD 0) = decide ((65 : Int) ≤ (c.toNat : Int)) := by simp [UInt8.le_iff_toNat_le]; try omega
    have q2 : decide ((c :: r).headD 0 ≤ 90) = decide ((c.toNat : Int) ≤ (90 : Int)) := by simp [UInt8.le_iff_toNat_le]; try omega
    rw [q1, q2]
    clear q1 q2
    go_enter Tryz.func108, Tryz.ntmps108
    go_wp2_with (go_at_call 41; (refine (Hid.out K).mono ?_; rintro e w1 ⟨rfl, hb⟩; have HB := hid hb; clear hb))
    all_goals
      go_ret
      refine ⟨?_, (HB.out.trans ((Below.refl _ _).alloc HB.out.size _))⟩
      first | (simp_all; done) | (simp_all; intros; omega)
  · have hkf : (kd == 1) = false := by simp [hk]
    rw [hkf]
    clear h0
    go_enter Tryz.func108, Tryz.ntmps108
    go_wp2_with (go_at_call 41; (refine (Hid.out K).mono ?_; rintro e w1 ⟨rfl, hb⟩; have HB := hid hb; clear hb))
    all_goals
      go_ret
      refine ⟨?_, (HB.out.trans ((Below.refl _ _).alloc HB.out.size _))⟩
      first | (simp_all; done) | (simp_all; intros; omega)
set_option maxHeartbeats 1000000 in
theorem wrong_any (w : World) (P D : Nat) (s : PS) (h : Pst w P D s) : Calls Tryz.prog 48 #[.pointer (some ⟨P, 0, none⟩)] w fun e w' => e = .returned (.agg #[.int .i64 (nxt s).pos, .int .i64 70]) ∧ Below w.heap.size w w' := by
  have K := hid (fun (V : World) (hV : Pst V P D s) => next_any V P D s hV)
  unfold tokV at K
  go_enter Tryz.func48, Tryz.ntmps48
  go_wp2_with (go_at_call 41; (refine (Hid.out K _ (h.alloc _)).mono ?_; rintro e w1 ⟨rfl, hb⟩; have HB := hid hb; obtain ⟨hc, hf⟩ := bcell hb; have hz := hb.size; simp only [World.size_alloc] at hz; clear hb))
  exact bodyPost_ret (v := .agg #[.int .i64 (nxt s).pos, .int .i64 70]) (by simp [results, Tryz.results48, go_sem, hc, hf]) rfl ⟨rfl, ((((Below.refl _ _).alloc (Nat.le_refl _) _).trans (HB.out.mono (by simp))).setCell (Nat.le_refl _) _).setCell (Nat.le_refl _) _⟩
end Go.Proofs.YtcnohgifihbkdaaGreatDoor

