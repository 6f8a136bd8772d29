/- The pure parser on two rows of tokens that begin alike: its small words, rows, operators. -/
import Derived.Test.YtcnohgifihbkdaaGreatDoorJAA
import Derived.Lib.TrimUEq
import Derived.Laws.RangeAny
import Derived.Test.YtcnohgifihbkdaaGreatDoorChecked
import Derived.WalkKit
import Derived.WalkSpells
import Derived.WalkLawsBesides
import Derived.Deep.OwnRows
import Derived.Maps.AppendAt
import Derived.Deep.AppendLies
import Derived.Lib.AppendStr
import Derived.Deep.LoopGhost
import Derived.Below
import Derived.Lib.OthersKept
import Derived.Lib.TrimU
import Derived.Shelf.Abstract
namespace Go.Proofs.YtcnohgifihbkdaaGreatDoor
open Go.RowKit
set_option linter.unusedVariables false
variable {T : Tl}
def isT (q : Bsq) (p : PTok) : Bool := (p.kind == 2 || p.kind == 5) && p.text == q
theorem isT0 (q : Bsq) (p : PTok) (h : p.kind = 0) : ¬ isT q p = true := by
  unfold isT; rw [h]; simp
def isG (p : PTok) : Bool := p.kind == 1 && decide (65 ≤ p.text.headD 0) && decide (p.text.headD 0 ≤ 90)
def isM (p : PTok) : Bool := p.kind == 1 && !isG p
theorem isG0 (p : PTok) (h : p.kind = 0) : ¬ isG p = true := by
  unfold isG; rw [h]; simp
theorem isM0 (p : PTok) (h : p.kind = 0) : ¬ isM p = true := by
  unfold isM; rw [h]; simp
theorem tkS {α : Type} {c : Bool} {q : Bsq} {f1 f2 : PTok → Pr α} {y1 y2 : Pr α} (he : ∀ a, EX T (f2 a)) (hs : ∀ a, SX T c (f1 a) (f2 a)) (hy : QX T c y1 y2) : QX T c (fun s => if isS q s = true then bd take f1 s else y1 s) (fun s => if isS q s = true then bd take f2 s else y2 s) :=
  tk_q (g := fun p => isT q p = true) (isT0 q) he hs hy
theorem ifS {α : Type} {c : Bool} {q : Bsq} {x1 x2 y1 y2 : Pr α} (hx : QX T c x1 x2) (hy : QX T c y1 y2) : QX T c (fun s => if isS q s = true then x1 s else y1 s) (fun s => if isS q s = true then x2 s else y2 s) :=
  if_q (g := fun p => isT q p = true) hx hy
theorem ifG {α : Type} {c : Bool} {x1 x2 y1 y2 : Pr α} (hx : QX T c x1 x2) (hy : QX T c y1 y2) : QX T c (fun s => if isGreat s = true then x1 s else y1 s) (fun s => if isGreat s = true then x2 s else y2 s) :=
  if_q (g := fun p => isG p = true) hx hy
theorem ifM {α : Type} {c : Bool} {x1 x2 y1 y2 : Pr α} (hx : QX T c x1 x2) (hy : QX T c y1 y2) : QX T c (fun s => if isSmall s = true then x1 s else y1 s) (fun s => if isSmall s = true then x2 s else y2 s) :=
  if_q (g := fun p => isM p = true) hx hy
theorem maybe_q (q : Bsq) : QX T false (maybe q) (maybe q) :=
  tkS (f1 := fun _ => ret true) (f2 := fun _ => ret true) (y1 := ret false) (y2 := ret false) (fun _ => ret_e _) (fun _ => ret_s _) (ret_q _)
theorem bd_maybe_eq {β : Type} (q : Bsq) (f : Bool → Pr β) : bd (maybe q) f = fun s => if isS q s = true then bd take (fun _ => f true) s else f false s := by
  funext s
  by_cases h : isS q s = true
  · rw [if_pos h]
    have e : maybe q s = bd take (fun _ => ret true) s := by unfold maybe; rw [if_pos h]
    unfold bd; rw [e]; unfold bd
    rcases take s with e | ⟨a, s'⟩ <;> rfl
  · rw [if_neg h]
    have e : maybe q s = .ok (false, s) := by unfold maybe; rw [if_neg h]
    unfold bd; rw [e]
theorem bd_mb {β : Type} {c : Bool} {q : Bsq} {f1 f2 : Bool → Pr β} (he : EX T (f2 true)) (hs : SX T c (f1 true) (f2 true)) (h0 : QX T c (f1 false) (f2 false)) : QX T c (bd (maybe q) f1) (bd (maybe q) f2) := by
  rw [bd_maybe_eq, bd_maybe_eq]
  exact tkS (fun _ => he) (fun _ => hs) h0
theorem want_q (q : Bsq) : QX T true (want q) (want q) := bd_mb (by rw [if_pos rfl]; exact ret_e _) (by rw [if_pos rfl]; exact ret_s _) (by rw [if_neg (by decide)]; exact wrong_q)
theorem oneOf_q : ∀ l : List Bsq, QX T true (oneOf l) (oneOf l)
  | [] => wrong_q
  | q :: l => tkS (f1 := fun t => ret t.text) (f2 := fun t => ret t.text) (fun _ => ret_e _) (fun _ => ret_s _) (oneOf_q l)
theorem small_q : QX T true small small := tk_q (g := fun p => isM p = true) (f1 := fun t => ret t.text) (f2 := fun t => ret t.text) isM0 (fun _ => ret_e _) (fun _ => ret_s _) wrong_q
theorem great_q : QX T true great great := tk_q (g := fun p => isG p = true) (f1 := fun t => ret t.text) (f2 := fun t => ret t.text) isG0 (fun _ => ret_e _) (fun _ => ret_s _) wrong_q
theorem bd_assoc {α β γ : Type} (x : Pr α) (f : α → Pr β) (g : β → Pr γ) : bd (bd x f) g = bd x fun a => bd (f a) g := by
  funext s
  unfold bd
  rcases x s with e | ⟨a, s'⟩ <;> rfl
def opG (p : PTok) : Pr PTok := fun s => if s.opn = 40 then .error (p.pos, 71) else .ok (p, { s with opn := wrap64 (s.opn + 1) })
theorem opG_q (p : PTok) : QX T false (opG p) (opG p) := by
  refine ⟨fun o b => ?_, fun o => ?_, fun t o => ?_⟩
  · by_cases h : o = 40
    · have : opG p ⟨[T.z], o, b⟩ = .error (p.pos, 71) := if_pos h
      rw [this]; show (71 : Int) ≠ 72; decide
    · have : opG p ⟨[T.z], o, b⟩ = .ok (p, ⟨[T.z], wrap64 (o + 1), b⟩) := if_neg h
      rw [this]
  · by_cases h : o = 40
    · have : opG p ⟨T.v, o, false⟩ = .error (p.pos, 71) := if_pos h
      rw [this]; show (71 : Int) ≠ 72; decide
    · have : opG p ⟨T.v, o, false⟩ = .ok (p, ⟨T.v, wrap64 (o + 1), false⟩) := if_neg h
      rw [this]; exact .inr ⟨rfl, rfl, rfl⟩
  · by_cases h : o = 40
    · have : opG p ⟨t ++ T.u, o, false⟩ = .error (p.pos, 71) := if_pos h
      rw [this]; trivial
    · have h1 : opG p ⟨t ++ T.u, o, false⟩ = .ok (p, ⟨t ++ T.u, wrap64 (o + 1), false⟩) := if_neg h
      have h2 : opG p ⟨t ++ T.v, o, false⟩ = .ok (p, ⟨t ++ T.v, wrap64 (o + 1), false⟩) := if_neg h
      rw [h1, h2]; exact .inl ⟨t, _, rfl, rfl, rfl⟩
theorem leave_e : EX T leave := fun o b => rfl
theorem leave_s {c : Bool} : SX T c leave leave := fun t o => .inl ⟨t, _, rfl, rfl, rfl⟩
theorem leave_q : QX T false leave leave := ⟨leave_e, fun o => .inr ⟨rfl, rfl, rfl⟩, leave_s⟩
theorem close_q {α : Type} (t : Bsq) (x : α) : QX T true (bd (want t) fun _ => bd leave fun _ => ret x) (bd (want t) fun _ => bd leave fun _ => ret x) :=
  bd_qc (want_q t) (fun _ => bd_e leave_e fun _ => ret_e _) fun _ => bd_st leave_s (fun _ => ret_e _) fun _ => ret_s _
theorem between_eq {α : Type} (f t : Bsq) (i : Pr α) : between f t i = fun s => if isS f s = true then bd take (fun p => bd (opG p) fun _ => bd i fun x => bd (want t) fun _ => bd leave fun _ => ret x) s else wrong s := by
  funext s
  unfold between enter
  rw [bd_assoc]
  rfl
theorem between_q {α : Type} {f t : Bsq} {i1 i2 : Pr α} (h : QX T false i1 i2) : QX T true (between f t i1) (between f t i2) := by
  have K := fun p => bd_q (T := T) (opG_q p) fun _ => bd_q h fun x => close_q t x
  rw [between_eq, between_eq]
  exact tkS (fun p => (K p).e) (fun p => (K p).s) wrong_q
/- A thing that takes a token at once is refused where the next one is one too many. -/
def NX {α : Type} (x : Pr α) : Prop := ∀ s : PS, s.sur = true → ∃ e, x s = .error e
theorem rowL_e {α : Type} {el : Pr α} (h : EX T el) : ∀ (n : Nat) (l : List α), EX T (rowL el n l)
  | 0, l => (fuel_q (c := false) fuelOut).e
  | n + 1, l => by
    have K : EX T (bd el fun x => bd (maybe [44]) fun b => if b = true then rowL el n (l ++ [x]) else ret (l ++ [x])) := bd_e h fun x => bd_e (maybe_q _).e fun b => by
      split
      · exact rowL_e h n _
      · exact ret_e _
    exact fun o b => K o _
theorem rowG_q {α : Type} {n1 n2 : Nat} {el1 el2 : Pr α} (h : EX T el2) (hs : ∀ l, SX T false (rowL el1 n1 l) (rowL el2 n2 l)) (l : List α) : QX T false (bd (maybe [44]) fun b => if b = true then rowL el1 n1 l else ret l) (bd (maybe [44]) fun b => if b = true then rowL el2 n2 l else ret l) :=
  bd_mb (by rw [if_pos rfl]; exact rowL_e h n2 _) (by rw [if_pos rfl, if_pos rfl]; exact hs _) (by rw [if_neg (by decide), if_neg (by decide)]; exact ret_q _)
theorem rowL_s {α : Type} {el1 el2 : Pr α} (h : QX T false el1 el2) (hn : NX el1) : ∀ (n2 n1 : Nat) (l : List α), SX T false (rowL el1 n1 l) (rowL el2 n2 l)
  | 0, n1, l => (fuel_q _).s
  | n2 + 1, 0, l => fun t o => trivial
  | n2 + 1, n1 + 1, l => fun t o => by
    by_cases hl : l.length = 12
    · obtain ⟨e, he⟩ := hn ⟨t ++ T.u, o, decide (l.length = 12)⟩ (by simp [hl])
      have : rowL el1 (n1 + 1) l ⟨t ++ T.u, o, false⟩ = .error e := by
        show bd el1 _ ⟨t ++ T.u, o, decide (l.length = 12)⟩ = _
        unfold bd; rw [he]
      rw [this]; trivial
    · have K := bd_q (T := T) h fun x => rowG_q h.e (fun l => rowL_s h hn n2 n1 l) (l ++ [x])
      have := K.s t o
      have e : decide (l.length = 12) = false := by simp [hl]
      show SR T false (bd el1 _ ⟨t ++ T.u, o, decide (l.length = 12)⟩) (bd el2 _ ⟨t ++ T.v, o, decide (l.length = 12)⟩)
      rw [e]; exact this
theorem rowL_q {α : Type} {el1 el2 : Pr α} (h : QX T false el1 el2) (hn : NX el1) (n1 : Nat) : ∀ n2 : Nat, QX T false (rowL el1 n1 []) (rowL el2 n2 [])
  | 0 => fuel_q _
  | n2 + 1 => by
    have K : ∀ m, QX T false (rowL el1 (m + 1) []) (rowL el2 (n2 + 1) []) := fun m => ⟨rowL_e h.e _ _, fun o => (bd_q (T := T) h fun x => rowG_q h.e (fun l => rowL_s h hn n2 m l) ([] ++ [x])).v o, rowL_s h hn _ _ _⟩
    cases n1 with
    | zero => exact (K 0).fuel
    | succ m => exact K m
theorem rowBt_q {α : Type} {f t : Bsq} {el1 el2 : Pr α} (h : QX T false el1 el2) (hn : NX el1) (n1 n2 : Nat) : QX T true (rowBetween n1 f t el1) (rowBetween n2 f t el2) := between_q (rowL_q h hn n1 n2)
theorem rowOr_q {α : Type} {f t : Bsq} {el1 el2 : Pr α} (h : QX T false el1 el2) (hn : NX el1) (n1 n2 : Nat) : QX T true (rowOrNone n1 f t el1) (rowOrNone n2 f t el2) :=
  between_q (ifS (x1 := ret []) (x2 := ret []) (ret_q _) (rowL_q h hn n1 n2))
/- Operators. -/
def isO (lv : Int) (p : PTok) : Bool := (p.kind == 2 || p.kind == 5) && decide ((opOf p.text).2 = lv)
theorem isO0 (lv : Int) (p : PTok) (h : p.kind = 0) : ¬ isO lv p = true := by
  unfold isO; rw [h]; simp
theorem operator_eq (lv : Int) : operator lv = fun s => if isO lv (nxt s) = true then bd take (fun t => ret (opOf t.text).1) s else .ok (0, s) := by
  funext s
  unfold operator isO
  by_cases h1 : ((nxt s).kind == 2 || (nxt s).kind == 5) = true
  · rw [if_pos h1, h1]
    by_cases h2 : (opOf (nxt s).text).2 = lv
    · rw [if_pos h2, if_pos (by simp [h2])]
      by_cases hL : isLong (nxt s) = true
      · have e : take s = .error ((nxt s).pos, 74) := by unfold take; rw [if_pos hL]
        simp only [bd, e]
      · by_cases hS : s.sur = true
        · have e : take s = .error ((nxt s).pos, 72) := by unfold take; rw [if_neg hL, if_pos hS]
          simp only [bd, e]
        · have e : take s = .ok (nxt s, { s with toks := s.toks.tail }) := by unfold take; rw [if_neg hL, if_neg hS]
          simp only [bd, e]
    · rw [if_neg h2, if_neg (by simp [h2])]
  · rw [if_neg h1, if_neg (by simp only [Bool.and_eq_true]; exact fun h => h1 h.1)]
theorem operator_q (lv : Int) : QX T false (operator lv) (operator lv) := by
  rw [operator_eq]
  exact tk_q (g := fun p => isO lv p = true) (y1 := ret 0) (y2 := ret 0) (isO0 lv) (fun _ => ret_e _) (fun _ => ret_s _) (ret_q _)
theorem leftL_q {lv : Int} {p1 p2 : Pr PEx} (h : QX T false p1 p2) : ∀ (n2 n1 : Nat) (e : PEx), QX T false (leftL lv p1 n1 e) (leftL lv p2 n2 e)
  | 0, n1, e => fuel_q _
  | n2 + 1, n1, e => by
    have K : ∀ m, QX T false (leftL lv p1 (m + 1) e) (leftL lv p2 (n2 + 1) e) := fun m => bd_q (operator_q lv) fun op => by
      split
      · exact ret_q _
      · exact bd_q h fun b => leftL_q h n2 m _
    cases n1 with
    | zero => exact (K 0).fuel
    | succ m => exact K m
theorem leftward_q {lv : Int} {p1 p2 : Pr PEx} (h : QX T false p1 p2) (n1 n2 : Nat) : QX T false (leftward n1 lv p1) (leftward n2 lv p2) := bd_q h fun e => leftL_q h n2 n1 e
theorem postL_q : ∀ (n2 n1 : Nat) (e : PEx), QX T false (postL n1 e) (postL n2 e)
  | 0, n1, e => fuel_q _
  | n2 + 1, n1, e => by
    have K : ∀ m, QX T false (postL (m + 1) e) (postL (n2 + 1) e) := fun m => bd_q (maybe_q _) fun b => by
      split
      · exact bd_q (small_q.weak _) fun nm => postL_q n2 m _
      · exact ret_q _
    cases n1 with
    | zero => exact (K 0).fuel
    | succ m => exact K m
end Go.Proofs.YtcnohgifihbkdaaGreatDoor

namespace Go.Proofs.YtcnohgifihbkdaaGreatDoor
open Go.RowKit
set_option linter.unusedVariables false
variable {T : Tl}
/- What takes at once is refused where one is too many. -/
theorem take_n : NX take := fun s h => by
  unfold take
  split
  · exact ⟨_, rfl⟩
  · exact ⟨_, rfl⟩
theorem bd_n {α β : Type} {x : Pr α} {f : α → Pr β} (h : NX x) : NX (bd x f) := fun s hs => by
  obtain ⟨e, he⟩ := h s hs
  exact ⟨e, by unfold bd; rw [he]⟩
theorem wrong_n {α : Type} : NX (wrong : Pr α) := fun s hs => ⟨_, rfl⟩
theorem fuel_n {α : Type} : NX (fuelOut : Pr α) := fun s hs => ⟨_, rfl⟩
theorem if_n {α : Type} {g : PS → Prop} [DecidablePred g] {x y : Pr α} (hx : NX x) (hy : NX y) : NX (fun s => if g s then x s else y s) := fun s hs => by
  show ∃ e, (if g s then x s else y s) = .error e
  split
  · exact hx s hs
  · exact hy s hs
theorem bd_mn {β : Type} {q : Bsq} {f : Bool → Pr β} (h : NX (f false)) : NX (bd (maybe q) f) := by
  rw [bd_maybe_eq]
  exact if_n (g := fun s => isS q s = true) (bd_n take_n) h
theorem small_n : NX small := if_n (g := fun s => isSmall s = true) (bd_n take_n) wrong_n
theorem great_n : NX great := if_n (g := fun s => isGreat s = true) (bd_n take_n) wrong_n
theorem enter_n : NX enter := bd_n take_n
theorem between_n {α : Type} (f t : Bsq) (i : Pr α) : NX (between f t i) := if_n (g := fun s => isS f s = true) (bd_n enter_n) wrong_n
theorem number_n (neg : Bool) : NX (number neg) := fun s hs => by
  unfold number
  by_cases hb : (if neg = true then digN (nxt s).text > 9223372036854775808 else digN (nxt s).text > 9223372036854775807)
  · exact ⟨_, if_pos hb⟩
  · obtain ⟨e, he⟩ := bd_n (f := fun _ => ret (if neg = true then -(digN (nxt s).text : Int) else (digN (nxt s).text : Int))) take_n s hs
    exact ⟨e, (if_neg hb).trans he⟩
theorem newRec_n (n : Nat) (e : Pr PEx) : NX (newRec n e) := bd_n great_n
theorem namedEx_n (n : Nat) (e : Pr PEx) : NX (namedEx n e) := if_n (g := fun s => isGreat s = true) (newRec_n n e) (bd_n small_n)
theorem wordEx_n (e : Pr PEx) : NX (wordEx e) := by
  unfold wordEx
  refine bd_mn ?_
  rw [if_neg (by decide)]
  refine bd_mn ?_
  rw [if_neg (by decide)]
  refine bd_mn ?_
  rw [if_neg (by decide)]
  refine bd_mn ?_
  rw [if_neg (by decide)]
  refine bd_mn ?_
  rw [if_neg (by decide)]
  refine bd_mn ?_
  rw [if_neg (by decide)]
  exact wrong_n
theorem anyPrim_n (n : Nat) (e : Pr PEx) : NX (anyPrim n e) :=
  if_n (g := fun s => (nxt s).kind = 3) (bd_n (number_n _)) (if_n (g := fun s => (nxt s).kind = 4) (bd_n take_n) (if_n (g := fun s => (nxt s).kind = 1) (namedEx_n n e) (wordEx_n e)))
theorem prim_n (n : Nat) (e : Pr PEx) : NX (prim n e) := fun s hs => by
  unfold prim
  split
  · exact between_n _ _ _ s hs
  · exact bd_n (anyPrim_n n e) s hs
theorem post_n (n : Nat) (e : Pr PEx) : NX (post n e) := bd_n (prim_n n e)
theorem unary_n (op : Int) (x : Pr PEx) : NX (unary op x) := bd_n enter_n
theorem facP_n (n : Nat) (l : Lay) : NX (facP n l) :=
  if_n (g := fun s => isS [45] s = true) (if_n (g := fun s => (second s).kind = 3) (bd_n take_n) (unary_n _ _)) (post_n n l.expr)
theorem sumP_n (n : Nat) (l : Lay) : NX (sumP n l) := bd_n (bd_n (facP_n n l))
theorem negP_n (n : Nat) (l : Lay) : NX (negP n l) := if_n (g := fun s => isS [110, 111, 116] s = true) (unary_n _ _) (bd_n (sumP_n n l))
theorem exprP_n (n : Nat) (l : Lay) : NX (exprP n l) := bd_n (bd_n (negP_n n l))
theorem expr_n : ∀ n, NX (expr n)
  | 0 => fuel_n
  | n + 1 => exprP_n n (lay n)
theorem partP_n (e : Pr PEx) : NX (partP e) := bd_n small_n
/- Both ways. -/
theorem one_q {c : Bool} {e1 e2 : Pr PEx} (h : QX T c e1 e2) : QX T c (one e1) (one e2) := bd_qr h
theorem inBr_q {e1 e2 : Pr PEx} (h : QX T false e1 e2) : QX T true (inBr e1) (inBr e2) := between_q (one_q h)
theorem keyP_q {e1 e2 : Pr PEx} (h : QX T false e1 e2) : QX T true (keyP e1) (keyP e2) := between_q (one_q h)
theorem argsP_q {e1 e2 : Pr PEx} (h : QX T false e1 e2) (hn : NX e1) (n1 n2 : Nat) : QX T true (argsP n1 e1) (argsP n2 e2) := rowOr_q h hn n1 n2
theorem partP_q {e1 e2 : Pr PEx} (h : QX T false e1 e2) : QX T false (partP e1) (partP e2) := bd_q (small_q.weak _) fun nm => bd_q ((want_q _).weak _) fun _ => bd_qr h
theorem newRec_q {e1 e2 : Pr PEx} (h : QX T false e1 e2) (n1 n2 : Nat) : QX T true (newRec n1 e1) (newRec n2 e2) := bd_q (great_q.weak _) fun nm => bd_qr (rowBt_q (partP_q h) (partP_n e1) n1 n2)
theorem namedEx_q {e1 e2 : Pr PEx} (h : QX T false e1 e2) (hn : NX e1) (n1 n2 : Nat) : QX T false (namedEx n1 e1) (namedEx n2 e2) :=
  ifG ((newRec_q h n1 n2).weak _) (bd_q (small_q.weak _) fun nm => ifS ((bd_qr (argsP_q h hn n1 n2)).weak _) (ifS ((bd_qr (keyP_q h)).weak _) (ret_q _)))
theorem wordEx_q {e1 e2 : Pr PEx} (h : QX T false e1 e2) : QX T false (wordEx e1) (wordEx e2) := by
  unfold wordEx
  refine bd_q (maybe_q _) fun b => ?_
  split
  · exact ret_q _
  refine bd_q (maybe_q _) fun b => ?_
  split
  · exact ret_q _
  refine bd_q (maybe_q _) fun b => ?_
  split
  · exact (bd_qr (inBr_q h)).weak _
  refine bd_q (maybe_q _) fun b => ?_
  split
  · exact (bd_qr (inBr_q h)).weak _
  refine bd_q (maybe_q _) fun b => ?_
  split
  · exact bd_q (small_q.weak _) fun nm => (bd_qr (keyP_q h)).weak _
  refine bd_q (maybe_q _) fun b => ?_
  split
  · exact bd_q (small_q.weak _) fun nm => (bd_qr (inBr_q h)).weak _
  exact wrong_q
/- A number, taken or too great. -/
theorem num_q {α : Type} {c : Bool} {neg : Bool} {f1 f2 : Int → Pr α} {y1 y2 : Pr α} (he : ∀ a, EX T (f2 a)) (hs : ∀ a, SX T c (f1 a) (f2 a)) (hy : QX T c y1 y2) : QX T c (fun s => if (nxt s).kind = 3 then bd (number neg) f1 s else y1 s) (fun s => if (nxt s).kind = 3 then bd (number neg) f2 s else y2 s) := by
  have e1 : ∀ (f : Int → Pr α) (y : Pr α), (fun s => if (nxt s).kind = 3 then bd (number neg) f s else y s) = fun s => if (nxt s).kind = 3 ∧ ¬ (if neg then digN (nxt s).text > 9223372036854775808 else digN (nxt s).text > 9223372036854775807) then bd take (fun t => f (if neg then -(digN t.text : Int) else (digN t.text : Int))) s else (if (nxt s).kind = 3 then (fun s => .error ((nxt s).pos, 73) : Pr α) s else y s) := by
    intro f y
    funext s
    by_cases h : (nxt s).kind = 3
    · rw [if_pos h]
      by_cases hb : (if neg then digN (nxt s).text > 9223372036854775808 else digN (nxt s).text > 9223372036854775807)
      · rw [if_neg (fun q => q.2 hb), if_pos h]
        have e : number neg s = .error ((nxt s).pos, 73) := by unfold number; exact if_pos hb
        unfold bd; rw [e]
      · rw [if_pos ⟨h, hb⟩]
        have e : number neg s = bd take (fun _ => ret (if neg then -(digN (nxt s).text : Int) else (digN (nxt s).text : Int))) s := by unfold number; exact if_neg hb
        unfold bd; rw [e]
        by_cases hL : isLong (nxt s) = true
        · have e : take s = .error ((nxt s).pos, 74) := by unfold take; rw [if_pos hL]
          simp only [bd, e]
        · by_cases hS : s.sur = true
          · have e : take s = .error ((nxt s).pos, 72) := by unfold take; rw [if_neg hL, if_pos hS]
            simp only [bd, e]
          · have e : take s = .ok (nxt s, { s with toks := s.toks.tail }) := by unfold take; rw [if_neg hL, if_neg hS]
            simp only [bd, e, ret]
    · rw [if_neg h, if_neg (fun q => h q.1), if_neg h]
  rw [e1 f1 y1, e1 f2 y2]
  refine tk_q (g := fun p => p.kind = 3 ∧ ¬ (if neg then digN p.text > 9223372036854775808 else digN p.text > 9223372036854775807)) (fun p h q => by rw [h] at q; exact absurd q.1 (by decide)) (fun t => he _) (fun t => hs _) (if_q (g := fun p => p.kind = 3) ⟨fun o b => by show (73 : Int) ≠ 72; decide, fun o => by show (73 : Int) ≠ 72; decide, fun t o => trivial⟩ hy)
theorem anyPrim_q {e1 e2 : Pr PEx} (h : QX T false e1 e2) (hn : NX e1) (n1 n2 : Nat) : QX T false (anyPrim n1 e1) (anyPrim n2 e2) :=
  num_q (fun _ => ret_e _) (fun _ => ret_s _) (tk_q (g := fun p => p.kind = 4) (fun p h q => by rw [h] at q; exact absurd q (by decide)) (fun _ => ret_e _) (fun _ => ret_s _)
    (if_q (g := fun p => p.kind = 1) (namedEx_q h hn n1 n2) (wordEx_q h)))
/- What is made bears the place of the token that it began at. -/
theorem setAt_q {α β : Type} {c : Bool} {f : PTok → α → β} {x1 x2 : Pr α} (h : QX T c x1 x2) : QX T c (fun s => bd x1 (fun a => ret (f (nxt s) a)) s) (fun s => bd x2 (fun a => ret (f (nxt s) a)) s) := by
  have hv : VX T c (fun s => bd x2 (fun a => ret (f (nxt s) a)) s) := fun o => (bd_qr (f := f (nxt ⟨T.v, o, false⟩)) h).v o
  refine ⟨fun o b => (bd_qr (f := f T.z) h).e o b, hv, fun t o => ?_⟩
  cases t with
  | nil => exact (hv o).sr _
  | cons a t => exact (bd_qr (f := f a) h).s (a :: t) o
theorem prim_q {e1 e2 : Pr PEx} (h : QX T false e1 e2) (hn : NX e1) (n1 n2 : Nat) : QX T false (prim n1 e1) (prim n2 e2) :=
  ifS ((between_q h).weak _) (setAt_q (f := fun p x => x.setAt p.pos) (anyPrim_q h hn n1 n2))
theorem post_q {e1 e2 : Pr PEx} (h : QX T false e1 e2) (hn : NX e1) (n1 n2 : Nat) : QX T false (post n1 e1) (post n2 e2) := bd_q (prim_q h hn n1 n2) fun x => postL_q n2 n1 x
def una (op : Int) (a : Pr PEx) (t : PTok) : Pr PEx := bd (opG t) fun p => bd a fun x => bd leave fun _ => ret ⟨5, op, 0, [], [], [], [pkE x], p.pos⟩
theorem unary_eq (op : Int) (a : Pr PEx) : unary op a = bd take (una op a) := by
  unfold unary enter
  rw [bd_assoc]
  rfl
theorem una_q {op : Int} {a1 a2 : Pr PEx} (h : QX T false a1 a2) (t : PTok) : QX T false (una op a1 t) (una op a2 t) := bd_q (opG_q t) fun p => bd_q h fun x => bd_q leave_q fun _ => ret_q _
theorem facP_eq (n : Nat) (l : Lay) : facP n l = fun s => if isS [45] s = true then bd take (fun t s' => if (nxt s').kind = 3 then bd (number true) (fun m => ret ⟨1, 0, m, [], [], [], [], t.pos⟩) s' else una 18 l.fac t s') s else post n l.expr s := by
  funext s
  unfold facP
  by_cases h : isS [45] s = true
  · rw [if_pos h, if_pos h, unary_eq]
    by_cases hL : isLong (nxt s) = true
    · have e : take s = .error ((nxt s).pos, 74) := by unfold take; rw [if_pos hL]
      simp only [bd, e]
      split <;> rfl
    · by_cases hS : s.sur = true
      · have e : take s = .error ((nxt s).pos, 72) := by unfold take; rw [if_neg hL, if_pos hS]
        simp only [bd, e]
        split <;> rfl
      · have e : take s = .ok (nxt s, { s with toks := s.toks.tail }) := by unfold take; rw [if_neg hL, if_neg hS]
        have e3 : nxt { s with toks := s.toks.tail } = second s := rfl
        by_cases h3 : (second s).kind = 3
        · rw [if_pos h3]
          unfold bd
          rw [e]
          show _ = (if (nxt { s with toks := s.toks.tail }).kind = 3 then _ else _)
          rw [e3, if_pos h3]
        · rw [if_neg h3]
          unfold bd
          rw [e]
          show _ = (if (nxt { s with toks := s.toks.tail }).kind = 3 then _ else _)
          rw [e3, if_neg h3]
  · rw [if_neg h, if_neg h]
theorem facP_q {l1 l2 : Lay} (h : QX T false l1.fac l2.fac) (hx : QX T false l1.expr l2.expr) (hn : NX l1.expr) (n1 n2 : Nat) : QX T false (facP n1 l1) (facP n2 l2) := by
  rw [facP_eq, facP_eq]
  have K := fun (t : PTok) => num_q (T := T) (neg := true) (f1 := fun m => ret (⟨1, 0, m, [], [], [], [], t.pos⟩ : PEx)) (f2 := fun m => ret (⟨1, 0, m, [], [], [], [], t.pos⟩ : PEx)) (fun _ => ret_e _) (fun _ => ret_s _) (una_q (op := 18) h t)
  exact tkS (fun t => (K t).e) (fun t => (K t).s) (post_q hx hn n1 n2)
theorem sumP_q {l1 l2 : Lay} (h : QX T false l1.fac l2.fac) (hx : QX T false l1.expr l2.expr) (hn : NX l1.expr) (n1 n2 : Nat) : QX T false (sumP n1 l1) (sumP n2 l2) := leftward_q (leftward_q (facP_q h hx hn n1 n2) n1 n2) n1 n2
theorem testP_q {l1 l2 : Lay} (h : QX T false l1.fac l2.fac) (hx : QX T false l1.expr l2.expr) (hn : NX l1.expr) (n1 n2 : Nat) : QX T false (testP n1 l1) (testP n2 l2) :=
  bd_q (sumP_q h hx hn n1 n2) fun e => bd_q (operator_q 3) fun op => by
    split
    · exact ret_q _
    · exact bd_q (sumP_q h hx hn n1 n2) fun b => ret_q _
theorem negP_q {l1 l2 : Lay} (h : QX T false l1.fac l2.fac) (hg : QX T false l1.neg l2.neg) (hx : QX T false l1.expr l2.expr) (hn : NX l1.expr) (n1 n2 : Nat) : QX T false (negP n1 l1) (negP n2 l2) := by
  have e : ∀ n l, negP n l = fun s => if isS [110, 111, 116] s = true then bd take (una 19 l.neg) s else testP n l s := fun n l => by unfold negP; rw [unary_eq]
  rw [e, e]
  exact tkS (fun t => (una_q hg t).e) (fun t => (una_q hg t).s) (testP_q h hx hn n1 n2)
theorem exprP_q {l1 l2 : Lay} (h : QX T false l1.fac l2.fac) (hg : QX T false l1.neg l2.neg) (hx : QX T false l1.expr l2.expr) (hn : NX l1.expr) (n1 n2 : Nat) : QX T false (exprP n1 l1) (exprP n2 l2) := leftward_q (leftward_q (negP_q h hg hx hn n1 n2) n1 n2) n1 n2
theorem lay_q : ∀ n2 n1 : Nat, QX T false (lay n1).expr (lay n2).expr ∧ QX T false (lay n1).neg (lay n2).neg ∧ QX T false (lay n1).fac (lay n2).fac
  | 0, n1 => ⟨fuel_q _, fuel_q _, fuel_q _⟩
  | n2 + 1, n1 => by
    have K : ∀ m, QX T false (lay (m + 1)).expr (lay (n2 + 1)).expr ∧ QX T false (lay (m + 1)).neg (lay (n2 + 1)).neg ∧ QX T false (lay (m + 1)).fac (lay (n2 + 1)).fac := fun m => by
      obtain ⟨a, b, c⟩ := lay_q n2 m
      exact ⟨exprP_q c b a (expr_n m) m n2, negP_q c b a (expr_n m) m n2, facP_q c a (expr_n m) m n2⟩
    cases n1 with
    | zero => exact ⟨(K 0).1.fuel, (K 0).2.1.fuel, (K 0).2.2.fuel⟩
    | succ m => exact K m
theorem expr_q (n1 n2 : Nat) : QX T false (expr n1) (expr n2) := (lay_q n2 n1).1
end Go.Proofs.YtcnohgifihbkdaaGreatDoor

namespace Go.Proofs.YtcnohgifihbkdaaGreatDoor
open Go.RowKit
set_option linter.unusedVariables false
variable {T : Tl}
theorem blockL_q {s1 s2 : Pr PSt} (h : QX T false s1 s2) : ∀ (n2 n1 : Nat) (l : List PSt), QX T false (blockL s1 n1 l) (blockL s2 n2 l)
  | 0, n1, l => fuel_q _
  | n2 + 1, n1, l => by
    have K : ∀ m, QX T false (blockL s1 (m + 1) l) (blockL s2 (n2 + 1) l) := fun m => ifS (x1 := ret l) (x2 := ret l) (ret_q _) (bd_q h fun x => blockL_q h n2 m _)
    cases n1 with
    | zero => exact (K 0).fuel
    | succ m => exact K m
theorem blockP_q {s1 s2 : Pr PSt} (h : QX T false s1 s2) (n1 n2 : Nat) : QX T true (blockP n1 s1) (blockP n2 s2) := between_q (blockL_q h n2 n1 [])
theorem targetP_q : QX T false targetP targetP := ifS (x1 := ret []) (x2 := ret []) (ret_q _) (small_q.weak _)
theorem resultP_q {e1 e2 : Pr PEx} (h : QX T false e1 e2) : QX T false (resultP e1) (resultP e2) := ifS (x1 := ret []) (x2 := ret []) (ret_q _) (one_q h)
theorem simpleP_q {e1 e2 : Pr PEx} (h : QX T false e1 e2) (hn : NX e1) (n1 n2 : Nat) : QX T false (simpleP n1 e1) (simpleP n2 e2) := by
  unfold simpleP
  refine bd_q (maybe_q _) fun b => ?_
  split
  · exact bd_q (small_q.weak _) fun nm => bd_q ((want_q _).weak _) fun _ => bd_qr (one_q h)
  refine bd_q (maybe_q _) fun b => ?_
  split
  · exact bd_q (small_q.weak _) fun nm => (bd_qr (keyP_q h)).weak _
  refine bd_q (maybe_q _) fun b => ?_
  split
  · exact bd_qr targetP_q
  refine bd_q (maybe_q _) fun b => ?_
  split
  · exact bd_qr targetP_q
  refine bd_q (maybe_q _) fun b => ?_
  split
  · exact bd_qr (resultP_q h)
  refine bd_q (maybe_q _) fun b => ?_
  split
  · exact bd_qr (one_q h)
  refine bd_q (maybe_q _) fun b => ?_
  split
  · exact bd_q (one_q h) fun xs => bd_q (small_q.weak _) fun nm => (bd_qr (argsP_q h hn n1 n2)).weak _
  refine bd_q (maybe_q _) fun b => ?_
  split
  · exact bd_qr (one_q h)
  exact wrong_q
theorem loopP_q {e1 e2 : Pr PEx} {s1 s2 : Pr PSt} (h : QX T false e1 e2) (hs : QX T false s1 s2) (n1 n2 : Nat) : QX T false (loopP n1 e1 s1) (loopP n2 e2 s2) := by
  unfold loopP
  refine bd_q (maybe_q _) fun b => ?_
  split
  · exact bd_q (one_q h) fun xs => (bd_qr (blockP_q hs n1 n2)).weak _
  · exact bd_q ((want_q _).weak _) fun _ => bd_q (small_q.weak _) fun v => bd_q ((want_q _).weak _) fun _ => bd_q (small_q.weak _) fun nm => (bd_qr (blockP_q hs n1 n2)).weak _
theorem namedSt_q {e1 e2 : Pr PEx} {s1 s2 : Pr PSt} (h : QX T false e1 e2) (hs : QX T false s1 s2) (n1 n2 : Nat) : QX T false (namedSt n1 e1 s1) (namedSt n2 e2 s2) := by
  unfold namedSt
  refine bd_q (small_q.weak _) fun nm => bd_q (maybe_q _) fun b => ?_
  split
  · exact bd_qr (loopP_q h hs n1 n2)
  · exact ifS (bd_q ((keyP_q h).weak _) fun xs => bd_q ((want_q _).weak _) fun _ => bd_q h fun x => (bd_qr (want_q _)).weak _) (bd_q ((want_q _).weak _) fun _ => bd_q h fun x => (bd_qr (want_q _)).weak _)
theorem otherP_q {s1 s2 : Pr PSt} (hs : QX T false s1 s2) (n1 n2 : Nat) : QX T false (otherP n1 s1) (otherP n2 s2) := ifS (bd_qr hs) ((blockP_q hs n1 n2).weak _)
theorem choiceP_q {e1 e2 : Pr PEx} {s1 s2 : Pr PSt} (h : QX T false e1 e2) (hs : QX T false s1 s2) (n1 n2 : Nat) : QX T false (choiceP n1 e1 s1) (choiceP n2 e2 s2) := by
  unfold choiceP
  refine bd_q ((want_q _).weak _) fun _ => bd_q (one_q h) fun xs => bd_q ((blockP_q hs n1 n2).weak _) fun bl => bd_q (maybe_q _) fun b => ?_
  split
  · exact bd_qr (otherP_q hs n1 n2)
  · exact ret_q _
theorem anySt_q {e1 e2 : Pr PEx} {s1 s2 : Pr PSt} (h : QX T false e1 e2) (hn : NX e1) (hs : QX T false s1 s2) (n1 n2 : Nat) : QX T false (anySt n1 e1 s1) (anySt n2 e2 s2) :=
  ifS (choiceP_q h hs n1 n2) (if_q (g := fun p => isT [119, 104, 105, 108, 101] p = true ∨ isT [101, 97, 99, 104] p = true) (loopP_q h hs n1 n2) (ifM (namedSt_q h hs n1 n2) (bd_q (simpleP_q h hn n1 n2) fun x => (bd_qr (want_q _)).weak _)))
theorem stmt_q : ∀ n2 n1 : Nat, QX T false (stmt n1) (stmt n2)
  | 0, n1 => fuel_q _
  | n2 + 1, n1 => by
    have K : ∀ m, QX T false (stmt (m + 1)) (stmt (n2 + 1)) := fun m => setAt_q (f := fun p (x : PSt) => x.setAt p.pos) (anySt_q (expr_q m n2) (expr_n m) (stmt_q n2 m) m n2)
    cases n1 with
    | zero => exact (K 0).fuel
    | succ m => exact K m
theorem simpleKind_q : QX T true simpleKind simpleKind := oneOf_q _
theorem kindP_q : QX T true kindP kindP := ifG great_q simpleKind_q
theorem fieldP_q : QX T false fieldP fieldP := bd_q (small_q.weak _) fun nm => bd_q ((want_q _).weak _) fun _ => (bd_qr simpleKind_q).weak _
theorem fieldP_n : NX fieldP := bd_n small_n
theorem paramP_q : QX T false paramP paramP := bd_q (small_q.weak _) fun nm => bd_q ((want_q _).weak _) fun _ => (bd_qr kindP_q).weak _
theorem paramP_n : NX paramP := bd_n small_n
theorem recordP_q (n1 n2 : Nat) : QX T true (recordP n1) (recordP n2) := bd_q (great_q.weak _) fun nm => bd_qr (rowBt_q fieldP_q fieldP_n n1 n2)
theorem tableP_q : QX T true tableP tableP := bd_q (small_q.weak _) fun nm => bd_q ((want_q _).weak _) fun _ => bd_q ((oneOf_q _).weak _) fun k => bd_q ((want_q _).weak _) fun _ => bd_q (kindP_q.weak _) fun v => bd_qr (want_q _)
theorem functionP_q (n1 n2 : Nat) : QX T true (functionP n1) (functionP n2) := by
  unfold functionP
  refine bd_q (small_q.weak _) fun nm => bd_q ((rowOr_q paramP_q paramP_n n1 n2).weak _) fun ps => bd_q (maybe_q _) fun b => ?_
  split
  · exact bd_q (kindP_q.weak _) fun r => bd_qr (blockP_q (stmt_q n2 n1) n1 n2)
  · exact bd_qr (blockP_q (stmt_q n2 n1) n1 n2)
theorem handlerP_q (n1 n2 : Nat) : QX T true (handlerP n1) (handlerP n2) :=
  bd_q (small_q.weak _) fun nm => bd_q ((rowOr_q paramP_q paramP_n n1 n2).weak _) fun ps => bd_qr (blockP_q (stmt_q n2 n1) n1 n2)
end Go.Proofs.YtcnohgifihbkdaaGreatDoor

namespace Go.Proofs.YtcnohgifihbkdaaGreatDoor
open Go.RowKit
set_option linter.unusedVariables false
variable {T : Tl}
theorem sr_bd {α β : Type} {c : Bool} {x1 x2 : Pr α} {f1 f2 : α → Pr β} {s1 s2 : PS} (h1 : SR T true (x1 s1) (x2 s2)) (ge : ∀ a, EX T (f2 a)) (gs : ∀ a, SX T c (f1 a) (f2 a)) : SR T c (bd x1 f1 s1) (bd x2 f2 s2) := by
  unfold bd
  rcases hx : x1 s1 with e | ⟨a, s1'⟩
  · trivial
  rcases hy : x2 s2 with e | ⟨a', t2, o2, b2⟩
  · rw [hx, hy] at h1; exact SR.err2 _ h1
  rw [hx, hy] at h1
  rcases h1 with ⟨t', o', rfl, rfl, h1⟩ | h1 | ⟨h1, _⟩
  · rw [h1]; exact gs _ t' o'
  · obtain rfl : t2 = [T.z] := h1
    exact ((ge a').vr o2 b2).sr _
  · cases h1
theorem vr_bd {α β : Type} {c : Bool} {x : Pr α} {f : α → Pr β} {s : PS} (h1 : VR T true (x s)) (ge : ∀ a, EX T (f a)) : VR T c (bd x f s) := by
  unfold bd
  rcases hx : x s with e | ⟨a, t, o', b'⟩
  · rw [hx] at h1; exact h1
  · rw [hx] at h1
    rcases h1 with h1 | ⟨h1, _⟩
    · obtain rfl : t = [T.z] := h1
      exact (ge a).vr o' b'
    · cases h1
def kw (p : PTok) : Nat := if isT [114, 101, 99, 111, 114, 100] p = true then 1 else if isT [109, 97, 112] p = true then 2 else if isT [102, 110] p = true then 3 else if isT [111, 110] p = true then 4 else 0
def brn (m n : Nat) (t : PTr) (k : Nat) : Pr PTr :=
  if k = 1 then bd (declare t.recs (recordP m)) fun l => sourceL m n { t with recs := l }
  else if k = 2 then bd (declare t.maps tableP) fun l => sourceL m n { t with maps := l }
  else if k = 3 then bd (declare t.funcs (functionP m)) fun l => sourceL m n { t with funcs := l }
  else if k = 4 then bd (declare t.events (handlerP m)) fun l => sourceL m n { t with events := l }
  else wrong
theorem sourceL_eq (m n : Nat) (t : PTr) (s : PS) : sourceL m (n + 1) t s = if (nxt s).kind = 0 then .ok (t, s) else brn m n t (kw (nxt s)) s := by
  show (if (nxt s).kind = 0 then _ else if isT [114, 101, 99, 111, 114, 100] (nxt s) = true then _ else if isT [109, 97, 112] (nxt s) = true then _ else if isT [102, 110] (nxt s) = true then _ else if isT [111, 110] (nxt s) = true then _ else _) = _
  by_cases h0 : (nxt s).kind = 0
  · rw [if_pos h0, if_pos h0]
  rw [if_neg h0, if_neg h0]
  unfold kw
  by_cases h1 : isT [114, 101, 99, 111, 114, 100] (nxt s) = true
  · rw [if_pos h1, if_pos h1]; rfl
  rw [if_neg h1, if_neg h1]
  by_cases h2 : isT [109, 97, 112] (nxt s) = true
  · rw [if_pos h2, if_pos h2]; rfl
  rw [if_neg h2, if_neg h2]
  by_cases h3 : isT [102, 110] (nxt s) = true
  · rw [if_pos h3, if_pos h3]; rfl
  rw [if_neg h3, if_neg h3]
  by_cases h4 : isT [111, 110] (nxt s) = true
  · rw [if_pos h4, if_pos h4]; rfl
  rw [if_neg h4, if_neg h4]; rfl
theorem dec_full {l : List PDc} (rest : Pr PDc) (hl : l.length = 16) (s : PS) : ∃ e, declare l rest s = .error e :=
  bd_n (f := fun (w : PTok) => bd rest fun d => ret (l ++ [d.setAt w.pos])) take_n { s with sur := decide (l.length = 16) } (by simp [hl])
theorem dec_v {l : List PDc} {rest : Pr PDc} (hl : ¬ l.length = 16) (h : EX T rest) {a : PTok} (hv : T.v = [a, T.z]) (o : Int) : VR T true (declare l rest ⟨T.v, o, false⟩) := by
  show VR T true (bd take (fun w => bd rest fun d => ret (l ++ [d.setAt w.pos])) ⟨T.v, o, decide (l.length = 16)⟩)
  rw [hv, show decide (l.length = 16) = false by simp [hl]]
  by_cases hL : isLong a = true
  · have e : take ⟨[a, T.z], o, false⟩ = .error (a.pos, 74) := if_pos hL
    have e2 : bd take (fun w => bd rest fun d => ret (l ++ [d.setAt w.pos])) ⟨[a, T.z], o, false⟩ = .error (a.pos, 74) := by unfold bd; rw [e]
    rw [e2]; show (74 : Int) ≠ 72; decide
  · have e : take ⟨[a, T.z], o, false⟩ = .ok (a, ⟨[T.z], o, false⟩) := if_neg hL
    have e2 : bd take (fun w => bd rest fun d => ret (l ++ [d.setAt w.pos])) ⟨[a, T.z], o, false⟩ = bd rest (fun d => ret (l ++ [d.setAt a.pos])) ⟨[T.z], o, false⟩ := by simp only [bd, e]
    rw [e2]; exact (bd_e h fun d => ret_e _).vr o false
theorem dec_s {l : List PDc} {r1 r2 : Pr PDc} (h : QX T true r1 r2) (a : PTok) (t : List PTok) (o : Int) : SR T true (declare l r1 ⟨a :: t ++ T.u, o, false⟩) (declare l r2 ⟨a :: t ++ T.v, o, false⟩) := by
  by_cases hl : l.length = 16
  · obtain ⟨e, he⟩ := dec_full r1 hl ⟨a :: t ++ T.u, o, false⟩
    rw [he]; trivial
  show SR T true (bd take (fun w => bd r1 fun d => ret (l ++ [d.setAt w.pos])) ⟨a :: t ++ T.u, o, decide (l.length = 16)⟩) (bd take (fun w => bd r2 fun d => ret (l ++ [d.setAt w.pos])) ⟨a :: t ++ T.v, o, decide (l.length = 16)⟩)
  rw [show decide (l.length = 16) = false by simp [hl]]
  by_cases hL : isLong a = true
  · have e : take ⟨a :: t ++ T.u, o, false⟩ = .error (a.pos, 74) := if_pos hL
    have e2 : bd take (fun w => bd r1 fun d => ret (l ++ [d.setAt w.pos])) ⟨a :: t ++ T.u, o, false⟩ = .error (a.pos, 74) := by unfold bd; rw [e]
    rw [e2]; trivial
  · have e : ∀ w, take ⟨a :: t ++ w, o, false⟩ = .ok (a, ⟨t ++ w, o, false⟩) := fun w => if_neg hL
    have e2 : ∀ w (r : Pr PDc), bd take (fun w => bd r fun d => ret (l ++ [d.setAt w.pos])) ⟨a :: t ++ w, o, false⟩ = bd r (fun d => ret (l ++ [d.setAt a.pos])) ⟨t ++ w, o, false⟩ := fun w r => by simp only [bd, e]
    rw [e2, e2]; exact (bd_qr (f := fun d => l ++ [d.setAt a.pos]) h).s t o
theorem sourceL_e (m : Nat) : ∀ (n : Nat) (t : PTr), EX T (sourceL m n t)
  | 0, t => (fuel_q (c := false) fuelOut).e
  | n + 1, t => fun o b => by
    have e : sourceL m (n + 1) t ⟨[T.z], o, b⟩ = .ok (t, ⟨[T.z], o, b⟩) := by rw [sourceL_eq]; exact if_pos T.hz
    rw [e]
/- What is asked of the tails: a keyword at which the one cut short goes on is one of the other's, or the other one cannot go on. -/
def KwOk (T : Tl) : Prop := ∀ a, T.v = [a, T.z] → kw a = 0 ∨ (kw (T.u.headD ⟨0, [], 0⟩) = kw a ∨ kw (T.u.headD ⟨0, [], 0⟩) = 0) ∧ (T.u.headD ⟨0, [], 0⟩).kind ≠ 0
theorem brn_s {m1 m2 n1 n2 : Nat} (ih : ∀ t, SX T false (sourceL m1 n1 t) (sourceL m2 n2 t)) (tr : PTr) (k : Nat) (a : PTok) (t : List PTok) (o : Int) : SR T false (brn m1 n1 tr k ⟨a :: t ++ T.u, o, false⟩) (brn m2 n2 tr k ⟨a :: t ++ T.v, o, false⟩) := by
  unfold brn
  split
  · exact sr_bd (dec_s (recordP_q m1 m2) a t o) (fun l => sourceL_e m2 n2 _) fun l => ih _
  split
  · exact sr_bd (dec_s tableP_q a t o) (fun l => sourceL_e m2 n2 _) fun l => ih _
  split
  · exact sr_bd (dec_s (functionP_q m1 m2) a t o) (fun l => sourceL_e m2 n2 _) fun l => ih _
  split
  · exact sr_bd (dec_s (handlerP_q m1 m2) a t o) (fun l => sourceL_e m2 n2 _) fun l => ih _
  · trivial
/- At the tails themselves: one answer or the other stands. -/
theorem brn_v {m1 m2 n1 n2 : Nat} (tr : PTr) (k : Nat) (a : PTok) (hv : T.v = [a, T.z]) (s : PS) (o : Int) : (∃ e, brn m1 n1 tr k s = .error e) ∨ VR T false (brn m2 n2 tr k ⟨T.v, o, false⟩) := by
  unfold brn
  split
  · by_cases hl : tr.recs.length = 16
    · exact .inl (by obtain ⟨e, he⟩ := dec_full (recordP m1) hl s; exact ⟨e, by unfold bd; rw [he]⟩)
    · exact .inr (vr_bd (dec_v hl (recordP_q m2 m2).e hv o) fun l => sourceL_e m2 n2 _)
  split
  · by_cases hl : tr.maps.length = 16
    · exact .inl (by obtain ⟨e, he⟩ := dec_full tableP hl s; exact ⟨e, by unfold bd; rw [he]⟩)
    · exact .inr (vr_bd (dec_v hl tableP_q.e hv o) fun l => sourceL_e m2 n2 _)
  split
  · by_cases hl : tr.funcs.length = 16
    · exact .inl (by obtain ⟨e, he⟩ := dec_full (functionP m1) hl s; exact ⟨e, by unfold bd; rw [he]⟩)
    · exact .inr (vr_bd (dec_v hl (functionP_q m2 m2).e hv o) fun l => sourceL_e m2 n2 _)
  split
  · by_cases hl : tr.events.length = 16
    · exact .inl (by obtain ⟨e, he⟩ := dec_full (handlerP m1) hl s; exact ⟨e, by unfold bd; rw [he]⟩)
    · exact .inr (vr_bd (dec_v hl (handlerP_q m2 m2).e hv o) fun l => sourceL_e m2 n2 _)
  · exact .inl ⟨_, rfl⟩
theorem sourceL_s (hk : KwOk T) (m1 m2 : Nat) : ∀ (n2 n1 : Nat) (tr : PTr), SX T false (sourceL m1 n1 tr) (sourceL m2 n2 tr)
  | 0, n1, tr => (fuel_q _).s
  | n2 + 1, 0, tr => fun t o => trivial
  | n2 + 1, n1 + 1, tr => fun t o => by
    rw [sourceL_eq, sourceL_eq]
    cases t with
    | cons a t =>
      show SR T false (if a.kind = 0 then _ else brn m1 n1 tr (kw a) _) (if a.kind = 0 then _ else brn m2 n2 tr (kw a) _)
      by_cases h0 : a.kind = 0
      · rw [if_pos h0, if_pos h0]; exact .inl ⟨a :: t, o, rfl, rfl, rfl⟩
      · rw [if_neg h0, if_neg h0]; exact brn_s (fun t => sourceL_s hk m1 m2 n2 n1 t) tr (kw a) a t o
    | nil =>
      rcases T.hv with h | ⟨a, h⟩
      · have e : (nxt ⟨[] ++ T.v, o, false⟩).kind = 0 := by
          show (T.v.headD ⟨0, [], 0⟩).kind = 0
          rw [h]; exact T.hz
        rw [if_pos e]
        exact VR.sr (r2 := .ok (tr, ⟨T.v, o, false⟩)) (.inr ⟨rfl, rfl, rfl⟩) _
      · have en : nxt ⟨[] ++ T.v, o, false⟩ = a := by
          show T.v.headD ⟨0, [], 0⟩ = a
          rw [h]; rfl
        have eu : nxt ⟨[] ++ T.u, o, false⟩ = T.u.headD ⟨0, [], 0⟩ := rfl
        rw [en, eu]
        by_cases h0 : a.kind = 0
        · rw [if_pos h0]
          exact VR.sr (r2 := .ok (tr, ⟨T.v, o, false⟩)) (.inr ⟨rfl, rfl, rfl⟩) _
        rw [if_neg h0]
        rcases hk a h with hz | ⟨hz | hz, hn⟩
        · rw [hz]; exact SR.err2 _ (by show (70 : Int) ≠ 72; decide)
        · rw [if_neg hn, hz]
          rcases brn_v (m1 := m1) (m2 := m2) (n1 := n1) (n2 := n2) tr (kw a) a h ⟨[] ++ T.u, o, false⟩ o with ⟨e, he⟩ | hv
          · rw [he]; trivial
          · exact hv.sr _
        · rw [if_neg hn, hz]; trivial
theorem cut_many (hk : KwOk T) (m1 m2 : Nat) (t : List PTok) {tr : PTr} (h : source m1 (t ++ T.u) = .ok tr) {e : Flt} (h2 : source m2 (t ++ T.v) = .error e) : e.2 ≠ 72 := by
  have K := sourceL_s hk m1 m2 m2 m1 ⟨[], [], [], []⟩ t 0
  unfold source at h h2
  rcases hx : sourceL m1 m1 ⟨[], [], [], []⟩ ⟨t ++ T.u, 0, false⟩ with e1 | ⟨a, s⟩
  · rw [hx] at h; cases h
  rcases hy : sourceL m2 m2 ⟨[], [], [], []⟩ ⟨t ++ T.v, 0, false⟩ with e2 | ⟨a', s'⟩
  · rw [hy] at h2
    rw [hx, hy] at K
    cases h2
    exact K
  · rw [hy] at h2; cases h2
end Go.Proofs.YtcnohgifihbkdaaGreatDoor

namespace Go.Proofs.YtcnohgifihbkdaaGreatDoor.Lx
set_option linter.unusedVariables false
set_option maxRecDepth 100000
set_option linter.unusedSimpArgs false

abbrev Bs := List UInt8
structure LTok where
  kind : Nat
  text : Bs
  pos : Nat
def isBl (c : UInt8) : Bool := c == 32 || c == 9 || c == 10 || c == 13
def isLt (c : UInt8) : Bool := (decide (97 ≤ c.toNat) && decide (c.toNat ≤ 122)) || (decide (65 ≤ c.toNat) && decide (c.toNat ≤ 90)) || decide (c.toNat = 95)
def isDg (c : UInt8) : Bool := decide (48 ≤ c.toNat) && decide (c.toNat ≤ 57)
def isPt (c : UInt8) : Bool := isLt c || isDg c
def runF (p : UInt8 → Bool) : Bs → Nat
  | [] => 0
  | c :: t => if p c then runF p t + 1 else 0
def textF : Bool → Bs → Option Nat
  | e, [] => if e then some 0 else none
  | e, c :: t => if c = 34 then (textF (!e) t).map (· + 1) else if e then some 0 else (textF false t).map (· + 1)
def sg2 (a b : UInt8) : Bool := (b == 61 && (a == 61 || a == 33 || a == 60 || a == 62)) || (b == 37 && (a == 43 || a == 45 || a == 42)) || (a == 45 && b == 62)
def sg1s : Bs := [123, 125, 40, 41, 91, 93, 44, 59, 58, 46, 61, 60, 62, 43, 45, 42, 47, 37, 38]
def sg1 (a : UInt8) : Bool := sg1s.contains a
def signF : Bs → Nat
  | [] => 0
  | [a] => if sg1 a then 1 else 0
  | a :: b :: _ => if sg2 a b then 2 else if sg1 a then 1 else 0
def wordsL : List Bs := [[97, 102, 116, 101, 114], [97, 110, 100], [97, 115, 107], [98, 111, 111, 108], [98, 114, 101, 97, 107], [99, 111, 110, 116, 105, 110, 117, 101], [100, 101, 108], [100, 111], [101, 97, 99, 104], [101, 108, 115, 101], [101, 109, 105, 116], [102, 97, 108, 115, 101], [102, 110], [104, 97, 115], [105, 102], [105, 110], [105, 110, 116], [108, 101, 110], [108, 101, 116], [109, 97, 112], [110, 111, 116], [111, 110], [111, 114], [114, 101, 99, 111, 114, 100], [114, 101, 116, 117, 114, 110], [115, 116, 114], [116, 101, 120, 116], [116, 114, 117, 101], [119, 104, 105, 108, 101]]
def isWd (l : Bs) : Bool := wordsL.contains l
/- The kind and the size of the first token, or the error. -/
def firstF : Bs → Nat × Nat × Nat
  | [] => (0, 0, 51)
  | c :: t =>
    if isLt c then (if isWd ((c :: t).take (runF isPt (c :: t))) then 2 else 1, runF isPt (c :: t), 0)
    else if isDg c then (3, runF isDg (c :: t), 0)
    else if c = 34 then (match textF false t with | some n => (4, n + 1, 0) | none => (0, 0, 52))
    else if signF (c :: t) = 0 then (0, 0, 51) else (5, signF (c :: t), 0)
def unq : Bs → Bs
  | [] => []
  | [c] => [c]
  | c :: d :: t => if c = 34 ∧ d = 34 then 34 :: unq t else c :: unq (d :: t)
def tokText (kind : Nat) (p : Bs) : Bs :=
  if kind = 3 then (p.take (p.length - 1)).dropWhile (· == 48) ++ p.drop (p.length - 1)
  else if kind = 4 then unq ((p.take (p.length - 1)).drop 1) else p
def noteF (l : Bs) : Nat := runF (fun c => !(c == 10)) l
/- skip: how many bytes belong to what was told already. -/
def lexG : Nat → Nat → Bs → Except (Nat × Nat) (List LTok)
  | _, at', [] => .ok [⟨0, [], at'⟩]
  | skip + 1, at', _ :: t => lexG skip (at' + 1) t
  | 0, at', c :: t =>
    if isBl c then lexG 0 (at' + 1) t
    else if c = 35 then lexG (noteF (c :: t) - 1) (at' + 1) t
    else if (firstF (c :: t)).2.2 ≠ 0 then .error (at', (firstF (c :: t)).2.2)
    else match lexG ((firstF (c :: t)).2.1 - 1) (at' + 1) t with
      | .error e => .error e
      | .ok ts => .ok (⟨(firstF (c :: t)).1, tokText (firstF (c :: t)).1 ((c :: t).take (firstF (c :: t)).2.1), at'⟩ :: ts)
def lexT (l : Bs) : Except (Nat × Nat) (List LTok) := if 4096 < l.length then .error (0, 50) else lexG 0 0 l

/- A rune that stands at a place. -/
structure Rune (l : Bs) (pos r wd : Nat) : Prop where
  one : 1 ≤ wd
  fit : pos + wd ≤ l.length
  low : ∀ c, l[pos]? = some c → c.toNat < 128 → r = c.toNat ∧ wd = 1
  high : ∀ c, l[pos]? = some c → 128 ≤ c.toNat → 128 ≤ r
  all : ∀ c, l[pos]? = some c → 128 ≤ c.toNat → ∀ k c', k < wd → l[pos + k]? = some c' → 128 ≤ c'.toNat
  le : r ≤ 2147483647

theorem rune_at (s : ByteArray) (pos : Nat) (h : pos < s.size) : Rune s.data.toList pos (Utf8.decode s pos).1 (Utf8.decode s pos).2 := by
  rw [Lib.decode_N]
  have hl : pos < s.data.toList.length := by rw [← Lib.size_eq]; exact h
  have hle := decode_le s pos
  rw [Lib.decode_N] at hle
  generalize s.data.toList = l at *
  have hb : ∀ k, (l.getD k 0).toNat < 256 := fun k => (l.getD k 0).toNat_lt
  have h0 := hb pos; have h1 := hb (pos + 1); have h2 := hb (pos + 2); have h3 := hb (pos + 3)
  have g : ∀ k c, l[k]? = some c → l.getD k 0 = c := fun k c e => by rw [List.getD_eq_getElem?_getD, e]; rfl
  have e0 : l[pos]? = some (l.getD pos 0) := by rw [List.getD_eq_getElem?_getD, List.getElem?_eq_getElem hl]; rfl
  by_cases ha : (l.getD pos 0).toNat < 128
  · rw [Lib.decodeN_ascii _ _ _ _ _ ha] at hle ⊢
    exact ⟨by simp, by simp; omega, fun c e _ => by rw [g _ _ e]; exact ⟨rfl, rfl⟩, fun c e h => by rw [g _ _ e] at ha; omega, fun c e h => by rw [g _ _ e] at ha; omega, hle⟩
  · have key : 1 ≤ (Lib.decodeN (l.length - pos) (l.getD pos 0).toNat (l.getD (pos + 1) 0).toNat (l.getD (pos + 2) 0).toNat (l.getD (pos + 3) 0).toNat).2 ∧
        (Lib.decodeN (l.length - pos) (l.getD pos 0).toNat (l.getD (pos + 1) 0).toNat (l.getD (pos + 2) 0).toNat (l.getD (pos + 3) 0).toNat).2 ≤ l.length - pos ∧
        128 ≤ (Lib.decodeN (l.length - pos) (l.getD pos 0).toNat (l.getD (pos + 1) 0).toNat (l.getD (pos + 2) 0).toNat (l.getD (pos + 3) 0).toNat).1 ∧
        ∀ k, k < (Lib.decodeN (l.length - pos) (l.getD pos 0).toNat (l.getD (pos + 1) 0).toNat (l.getD (pos + 2) 0).toNat (l.getD (pos + 3) 0).toNat).2 → 128 ≤ (l.getD (pos + k) 0).toNat := by
      generalize hb0 : (l.getD pos 0).toNat = b0 at *
      generalize hb1 : (l.getD (pos + 1) 0).toNat = b1 at *
      generalize hb2 : (l.getD (pos + 2) 0).toNat = b2 at *
      generalize hb3 : (l.getD (pos + 3) 0).toNat = b3 at *
      have hk : ∀ wd, wd ≤ 4 → (1 ≤ wd → 128 ≤ b0) → (2 ≤ wd → 128 ≤ b1) → (3 ≤ wd → 128 ≤ b2) → (4 ≤ wd → 128 ≤ b3) → ∀ k, k < wd → 128 ≤ (l.getD (pos + k) 0).toNat := by
        intro wd hw k0 k1 k2 k3 k hk
        match k, hk with
        | 0, hk => rw [Nat.add_zero, hb0]; exact k0 (by omega)
        | 1, hk => rw [hb1]; exact k1 (by omega)
        | 2, hk => rw [hb2]; exact k2 (by omega)
        | 3, hk => rw [hb3]; exact k3 (by omega)
        | n + 4, hk => omega
      simp only [Lib.decodeN]
      repeat' split
      all_goals simp_all [Utf8.runeError]
      all_goals first
        | omega
        | (refine ⟨by omega, by omega, hk _ (by omega) ?_ ?_ ?_⟩ <;> intro _ <;> omega)
        | (refine ⟨by omega, hk _ (by omega) ?_ ?_ ?_⟩ <;> intro _ <;> omega)
        | (refine hk _ (by omega) ?_ ?_ ?_ <;> intro _ <;> omega)
        | skip
    exact ⟨key.1, by omega, fun c e h => by rw [← g _ _ e] at h; exact absurd h ha, fun c e h => key.2.2.1, fun c e h k c' hk e' => by rw [← g _ _ e']; exact key.2.2.2 k hk, hle⟩
end Go.Proofs.YtcnohgifihbkdaaGreatDoor.Lx

namespace Go.Proofs.YtcnohgifihbkdaaGreatDoor.Lx
open Go.RowKit Go.Deep
set_option linter.unusedVariables false
set_option maxRecDepth 100000
set_option linter.unusedSimpArgs false

theorem hid {p : Prop} (h : p) : Hid p := h
theorem ret_bool {a b : Bool} (h : a = true ↔ b = true) : Ending.returned (.bool a) = .returned (.bool b) := congrArg _ (congrArg _ (Bool.eq_iff_iff.2 h))
def blI (r : Int) : Bool := decide (r = 32) || decide (r = 9) || decide (r = 10) || decide (r = 13)
def ltI (r : Int) : Bool := (decide (97 ≤ r) && decide (r ≤ 122)) || (decide (65 ≤ r) && decide (r ≤ 90)) || decide (r = 95)
def dgI (r : Int) : Bool := decide (48 ≤ r) && decide (r ≤ 57)
def ptI (r : Int) : Bool := ltI r || dgI r

theorem isBlank_any (r : Int) (w : World) : Calls Tryz.prog 37 #[.int .i32 r] w fun e w' => e = .returned (.bool (blI r)) ∧ w' = w := by
  go_enter Tryz.func37, Tryz.ntmps37
  go_wp2
  all_goals (go_ret; refine ⟨ret_bool ?_, rfl⟩; simp [blI]; try omega)
theorem isLetter_any (r : Int) (w : World) : Calls Tryz.prog 65 #[.int .i32 r] w fun e w' => e = .returned (.bool (ltI r)) ∧ w' = w := by
  go_enter Tryz.func65, Tryz.ntmps65
  go_wp2
  all_goals (go_ret; refine ⟨ret_bool ?_, rfl⟩; simp [ltI]; try omega)
theorem isDigit_any (r : Int) (w : World) : Calls Tryz.prog 69 #[.int .i32 r] w fun e w' => e = .returned (.bool (dgI r)) ∧ w' = w := by
  go_enter Tryz.func69, Tryz.ntmps69
  go_wp2
  all_goals (go_ret; refine ⟨ret_bool ?_, rfl⟩; simp [dgI]; try omega)
theorem isPart_any (r : Int) (w : World) : Calls Tryz.prog 66 #[.int .i32 r] w fun e w' => e = .returned (.bool (ptI r)) ∧ w' = w := by
  have h1 := isLetter_any r
  have h2 := isDigit_any r
  cases e1 : ltI r
  · simp only [e1] at h1
    go_enter Tryz.func66, Tryz.ntmps66
    go_wp2_with (first | (go_at_call 65; refine (h1 _).mono ?_; rintro e w ⟨rfl, rfl⟩) | (go_at_call 69; refine (h2 _).mono ?_; rintro e w ⟨rfl, rfl⟩))
    all_goals (go_ret; exact ⟨by simp [ptI, e1], rfl⟩)
  · simp only [e1] at h1
    go_enter Tryz.func66, Tryz.ntmps66
    go_wp2_with (first | (go_at_call 65; refine (h1 _).mono ?_; rintro e w ⟨rfl, rfl⟩) | (go_at_call 69; refine (h2 _).mono ?_; rintro e w ⟨rfl, rfl⟩))
    all_goals (go_ret; exact ⟨by simp [ptI, e1], rfl⟩)
theorem notNl_any (r : Int) (w : World) : Calls Tryz.prog 64 #[.int .i32 r] w fun e w' => e = .returned (.bool (!decide (r = 10))) ∧ w' = w := by
  go_enter Tryz.func64, Tryz.ntmps64
  go_wp2
  all_goals (go_ret; refine ⟨ret_bool ?_, rfl⟩; simp; try omega)
end Go.Proofs.YtcnohgifihbkdaaGreatDoor.Lx

namespace Go.Proofs.YtcnohgifihbkdaaGreatDoor.Lx
open Go.RowKit Go.Deep
set_option linter.unusedVariables false
set_option linter.unusedSimpArgs false

theorem runF_all (p : UInt8 → Bool) : ∀ (n : Nat) (l : Bs), n ≤ l.length → (∀ k c, k < n → l[k]? = some c → p c = true) → runF p l = n + runF p (l.drop n)
  | 0, l, _, _ => by simp
  | n + 1, [], h, _ => by simp at h
  | n + 1, c :: t, h, hc => by
    have h0 := hc 0 c (by omega) rfl
    have := runF_all p n t (by simpa using h) (fun k d hk e => hc (k + 1) d (by omega) e)
    simp only [runF, h0, if_true, this, List.drop_succ_cons]
    omega
theorem runF_le (p : UInt8 → Bool) : ∀ l, runF p l ≤ l.length
  | [] => Nat.le_refl _
  | c :: t => by
    have := runF_le p t
    simp only [runF]
    split <;> simp <;> omega
theorem Rune.lt {l : Bs} {pos r wd : Nat} (R : Rune l pos r wd) : pos < l.length := by have := R.one; have := R.fit; omega
theorem Rune.at {l : Bs} {pos r wd : Nat} (R : Rune l pos r wd) : ∃ c, l[pos]? = some c ∧ l.drop pos = c :: l.drop (pos + 1) :=
  ⟨l[pos]'R.lt, List.getElem?_eq_getElem R.lt, List.drop_eq_getElem_cons R.lt⟩
theorem runF_step {l : Bs} {pos r wd : Nat} (R : Rune l pos r wd) (q : Int → Bool) (hh : ∀ a b : Int, 128 ≤ a → 128 ≤ b → q a = q b) :
    (q r = true → runF (fun c => q c.toNat) (l.drop pos) = wd + runF (fun c => q c.toNat) (l.drop (pos + wd))) ∧ (q r = false → runF (fun c => q c.toNat) (l.drop pos) = 0) := by
  obtain ⟨c, e, hd⟩ := R.at
  have hqc : q r = q c.toNat := by
    by_cases hc : c.toNat < 128
    · rw [(R.low c e hc).1]
    · exact hh _ _ (by have := R.high c e (by omega); omega) (by omega)
  constructor
  · intro h
    have hall := runF_all (fun c => q c.toNat) wd (l.drop pos) (by rw [List.length_drop]; have := R.fit; omega) (fun k d hk ek => by
      rw [List.getElem?_drop] at ek
      show q d.toNat = true
      by_cases hc : c.toNat < 128
      · have := (R.low c e hc).2
        have hk0 : k = 0 := by omega
        subst hk0
        rw [Nat.add_zero, e] at ek; cases ek
        rw [← hqc]; exact h
      · have := R.all c e (by omega) k d hk ek
        rw [hh _ (c.toNat : Int) (by omega) (by omega), ← hqc]; exact h)
    rw [hall, List.drop_drop]
  · intro h
    rw [hd]
    have : q c.toNat = false := by rw [← hqc]; exact h
    simp [runF, this]

set_option maxRecDepth 100000 in
theorem run_any (s : ByteArray) (g : Nat) (lb : Array Value) (q : Int → Bool) (hs : s.size ≤ 9223372036854775807) (hh : ∀ a b : Int, 128 ≤ a → 128 ≤ b → q a = q b) (eg : ∀ args w, (callFunc g args).run Tryz.prog w = .ok (.enter g args) w)
    (hg : ∀ (r : Int) (w : World), Calls Tryz.prog g (#[.int .i32 r] ++ lb) w fun e w' => e = .returned (.bool (q r)) ∧ w' = w) (w : World) :
    Calls Tryz.prog 63 #[.string s, .func (.func g) #[] lb] w fun e w' => e = .returned (.int .i64 (runF (fun c => q c.toNat) s.data.toList : Nat)) ∧ Below w.heap.size w w' := by
  go_enter Tryz.func63, Tryz.ntmps63
  go_wp2
  go_loopg [] s.size (fun gf wx => ∃ pos : Nat, wx.heap[w.heap.size]? = some (.stringIter s pos) ∧ Below w.heap.size w wx ∧ pos + runF (fun c => q c.toNat) (s.data.toList.drop pos) = runF (fun c => q c.toNat) s.data.toList ∧ s.size ≤ pos + gf ∧ pos ≤ s.size)
  case atStart => exact ⟨0, World.iter_heap w s 0, (Below.refl _ w).alloc (Nat.le_refl _) _, by simp, by omega, by omega⟩
  case round =>
    obtain ⟨pos, hit, hbw, hleft, hfu, hle⟩ := hrel
    by_cases hps : pos < s.size
    · obtain ⟨g', rfl⟩ : ∃ g', gk = g' + 1 := ⟨gk - 1, by omega⟩
      have hnx : ∀ ty, (Instr.next (.pointer (some ⟨w.heap.size, 0, none⟩)) true ty).run Tryz.prog wr = _ := fun ty => Lib.run_next_any_at wr w.heap.size s pos ty hit hps
      have hR := rune_at s pos hps
      obtain ⟨R, hRe⟩ : ∃ R, (Utf8.decode s pos).1 = R := ⟨_, rfl⟩
      obtain ⟨K, hK⟩ : ∃ K, (Utf8.decode s pos).2 = K := ⟨_, rfl⟩
      rw [hRe, hK] at hnx hR
      have hit2 := Lib.iterAt_heap wr w.heap.size s pos (pos + K) hit
      have hbw2 := Lib.below_iterAt hbw (k := w.heap.size) (Nat.le_refl _) s (pos + K)
      obtain ⟨W, hWd⟩ : ∃ W, wr.iterAt w.heap.size s (pos + K) = W := ⟨_, rfl⟩
      rw [hWd] at hnx hit2 hbw2
      have hst := runF_step hR q hh
      have h1 := hR.one
      have h2 := hR.fit
      rw [← Lib.size_eq] at h2
      have cS := hg R W
      cases hsp : q R <;> rw [hsp] at cS
      · have h3 := hst.2 hsp
        have HX := hid hleft
        clear hg hR hst hleft
        go_wp2_with (go_at_fn g; refine cS.mono ?_; rintro e W' ⟨rfl, rfl⟩)
        go_ret
        refine ⟨?_, hbw2⟩
        rw [← HX.out, h3]; rfl
      · have h3 := hst.1 hsp
        have HX := hid hleft
        have H3 := hid h3
        clear hg hR hst hleft h3
        go_wp2_with (go_at_fn g; refine cS.mono ?_; rintro e W' ⟨rfl, rfl⟩)
        go_roundg g'
        case measure => omega
        case rel => exact ⟨pos + K, hit2, hbw2, by have := HX.out; have := H3.out; omega, by omega, by omega⟩
    · have hnx : ∀ ty, (Instr.next (.pointer (some ⟨w.heap.size, 0, none⟩)) true ty).run Tryz.prog wr = _ := fun ty => Lib.run_next_end_at wr w.heap.size s pos ty hit hps
      have HX := hid hleft
      have : pos = s.size := by omega
      have hn : s.data.toList.drop pos = [] := List.drop_eq_nil_of_le (by rw [← Lib.size_eq]; omega)
      have HN := hid hn
      have HP := hid this
      clear hg hleft hn this
      go_wp2
      go_ret
      refine ⟨?_, hbw⟩
      rw [← HX.out, HN.out, HP.out]; simp [runF]
end Go.Proofs.YtcnohgifihbkdaaGreatDoor.Lx

