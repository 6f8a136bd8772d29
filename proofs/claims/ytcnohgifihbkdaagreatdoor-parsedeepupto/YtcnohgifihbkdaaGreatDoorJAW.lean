/- Brackets within brackets: what is parsed. -/
import Derived.Test.YtcnohgifihbkdaaGreatDoorJAV
namespace Go.Proofs.YtcnohgifihbkdaaGreatDoor
open Go Go.RowKit Go.Deep Go.Shelf
set_option linter.unusedVariables false
set_option linter.unusedSimpArgs false
set_option maxRecDepth 100000
/- Sorts of brackets: 0 round, 1 a minus, 2 a call, 3 a key. -/
def oTok : Nat → Nat → List PTok
  | 0, p => [⟨5, [40], (p : Int)⟩]
  | 1, p => [⟨5, [45], (p : Int)⟩]
  | 2, p => [⟨1, [102], (p : Int)⟩, ⟨5, [40], ((p + 1 : Nat) : Int)⟩]
  | _, p => [⟨1, [109], (p : Int)⟩, ⟨5, [91], ((p + 1 : Nat) : Int)⟩]
def cTok : Nat → Nat → List PTok
  | 0, q => [⟨5, [41], (q : Int)⟩]
  | 1, _ => []
  | 2, q => [⟨5, [41], (q : Int)⟩]
  | _, q => [⟨5, [93], (q : Int)⟩]
def oLen : Nat → Nat
  | 0 => 1
  | _ => 2
def cLen : Nat → Nat
  | 1 => 0
  | _ => 1
def enD : List Nat → Nat → Nat
  | [], p => p + 1
  | k :: ks, p => enD ks (p + oLen k) + cLen k
def tkD : List Nat → Nat → List PTok
  | [], p => [⟨1, [97], (p : Int)⟩]
  | k :: ks, p => oTok k p ++ (tkD ks (p + oLen k) ++ cTok k (enD ks (p + oLen k)))
def upD (k : Nat) (x : PEx) (p : Nat) : PEx := match k with
  | 0 => x
  | 1 => ⟨5, 18, 0, [], [], [], [pkE x], (p : Int)⟩
  | 2 => ⟨11, 0, 0, [], [102], [], [pkE x], (p : Int)⟩
  | _ => ⟨9, 0, 0, [], [109], [], [pkE x], (p : Int)⟩
def eD : List Nat → Nat → PEx
  | [], p => ⟨4, 0, 0, [], [97], [], [], (p : Int)⟩
  | k :: ks, p => upD k (eD ks (p + oLen k)) p
/- Where number j opens. -/
def plO : Nat → Nat
  | 0 => 0
  | 1 => 0
  | _ => 1
def plD : List Nat → Nat → Nat → Nat
  | [], _, _ => 0
  | k :: _, p, 0 => p + plO k
  | k :: ks, p, j + 1 => plD ks (p + oLen k) j
/- What stands behind an expression. -/
def Cls (R : List PTok) : Prop := ∃ (t : Bsq) (q : Int) (R' : List PTok), R = ⟨5, t, q⟩ :: R' ∧ (t = [41] ∨ t = [93] ∨ t = [59])
section
variable {n : Nat} {e : PEx} {R : List PTok} {d : Int}
theorem l_post (h : Cls R) : postL (n + 1) e ⟨R, d, false⟩ = .ok (e, ⟨R, d, false⟩) := by
  obtain ⟨t, q, R', rfl, rfl | rfl | rfl⟩ := h <;> rfl
theorem l_left (lv : Int) (hl : lv = 5 ∨ lv = 4 ∨ lv = 2 ∨ lv = 1) (part : Pr PEx) (h : Cls R) : leftL lv part (n + 1) e ⟨R, d, false⟩ = .ok (e, ⟨R, d, false⟩) := by
  obtain ⟨t, q, R', rfl, rfl | rfl | rfl⟩ := h <;> rcases hl with rfl | rfl | rfl | rfl <;> rfl
theorem l_leftward (lv : Int) (hl : lv = 5 ∨ lv = 4 ∨ lv = 2 ∨ lv = 1) (part : Pr PEx) (s : PS) (hR : Cls R) (h : part s = .ok (e, ⟨R, d, false⟩)) : leftward (n + 1) lv part s = .ok (e, ⟨R, d, false⟩) := (bd_ok h).trans (l_left lv hl part hR)
theorem l_test (l : Lay) (s : PS) (hR : Cls R) (h : sumP (n + 1) l s = .ok (e, ⟨R, d, false⟩)) : testP (n + 1) l s = .ok (e, ⟨R, d, false⟩) := by
  refine (bd_ok h).trans ?_
  obtain ⟨t, q, R', rfl, rfl | rfl | rfl⟩ := hR <;> rfl
theorem l_expr (l : Lay) (s : PS) (hR : Cls R) (h19 : isS [110, 111, 116] s = false) (h : facP (n + 1) l s = .ok (e, ⟨R, d, false⟩)) : exprP (n + 1) l s = .ok (e, ⟨R, d, false⟩) := by
  have h1 := l_leftward 5 (by decide) (facP (n + 1) l) (n := n) s hR h
  have h2 := l_leftward 4 (by decide) (prodP (n + 1) l) (n := n) s hR h1
  have h3 := l_test l s hR h2
  have h4 : negP (n + 1) l s = .ok (e, ⟨R, d, false⟩) := by
    show (if isS [110, 111, 116] s = true then _ else _) = _
    rw [h19]
    exact h3
  have h5 := l_leftward 2 (by decide) (negP (n + 1) l) (n := n) s hR h4
  exact l_leftward 1 (by decide) (conjP (n + 1) l) (n := n) s hR h5
theorem l_expr_no (l : Lay) (s : PS) (f : Flt) (h19 : isS [110, 111, 116] s = false) (h : facP n l s = .error f) : exprP n l s = .error f := by
  have h1 : prodP n l s = .error f := bd_err h
  have h2 : sumP n l s = .error f := bd_err h1
  have h3 : testP n l s = .error f := bd_err h2
  have h4 : negP n l s = .error f := by
    show (if isS [110, 111, 116] s = true then _ else _) = _
    rw [h19]
    exact h3
  have h5 : conjP n l s = .error f := bd_err h4
  exact bd_err h5
end
theorem l_enter (t : PTok) (ht : isLong t = false) (X : List PTok) (d : Nat) (h : d < 40) : enter ⟨t :: X, (d : Int), false⟩ = .ok (t, ⟨X, ((d + 1 : Nat) : Int), false⟩) := by
  have h1 : take ⟨t :: X, (d : Int), false⟩ = .ok (t, ⟨X, (d : Int), false⟩) := by
    show (if isLong t = true then _ else _) = _
    rw [ht]
    rfl
  refine (bd_ok h1).trans ?_
  show (if (d : Int) = 40 then _ else _) = _
  rw [if_neg (by omega)]
  show Except.ok (t, (⟨X, wrap64 ((d : Int) + 1), false⟩ : PS)) = _
  rw [show wrap64 ((d : Int) + 1) = ((d + 1 : Nat) : Int) by unfold wrap64; omega]
theorem l_enter_no (t : PTok) (ht : isLong t = false) (X : List PTok) : enter ⟨t :: X, (40 : Nat), false⟩ = .error (t.pos, 71) := by
  have h1 : take ⟨t :: X, ((40 : Nat) : Int), false⟩ = .ok (t, ⟨X, ((40 : Nat) : Int), false⟩) := by
    show (if isLong t = true then _ else _) = _
    rw [ht]
    rfl
  exact (bd_ok h1).trans rfl
theorem l_leave (X : List PTok) (d : Nat) (h : d < 41) : leave ⟨X, ((d + 1 : Nat) : Int), false⟩ = .ok ((), ⟨X, (d : Int), false⟩) := by
  show Except.ok ((), (⟨X, wrap64 (((d + 1 : Nat) : Int) - 1), false⟩ : PS)) = _
  rw [show wrap64 (((d + 1 : Nat) : Int) - 1) = (d : Int) by unfold wrap64; omega]
/- What stands in brackets, behind the opening one. -/
def inP {α : Type} (c : Bsq) (inner : Pr α) : Pr α := bd inner fun x => bd (want c) fun _ => bd leave fun _ => ret x
theorem l_close {α : Type} {c : Bsq} (hc : c = [41] ∨ c = [93]) {inner : Pr α} {s : PS} {x : α} {q : Int} {R : List PTok} {d : Nat} (hd : d < 41) (h : inner s = .ok (x, ⟨⟨5, c, q⟩ :: R, ((d + 1 : Nat) : Int), false⟩)) : inP c inner s = .ok (x, ⟨R, (d : Int), false⟩) := by
  have h1 : want c ⟨⟨5, c, q⟩ :: R, ((d + 1 : Nat) : Int), false⟩ = .ok ((), ⟨R, ((d + 1 : Nat) : Int), false⟩) := by
    rcases hc with rfl | rfl <;> rfl
  exact (bd_ok h).trans ((bd_ok h1).trans (bd_ok (l_leave R d hd)))
theorem l_betw {α : Type} {f c : Bsq} {inner : Pr α} {t : PTok} {X : List PTok} {d : Nat} (hf : isS f ⟨t :: X, (d : Int), false⟩ = true) (ht : isLong t = false) (h : d < 40) : between f c inner ⟨t :: X, (d : Int), false⟩ = inP c inner ⟨X, ((d + 1 : Nat) : Int), false⟩ := by
  show (if isS f ⟨t :: X, (d : Int), false⟩ = true then _ else _) = _
  rw [if_pos hf]
  exact bd_ok (l_enter t ht X d h)
theorem l_betw_no {α : Type} {f c : Bsq} {inner : Pr α} {t : PTok} {X : List PTok} (hf : isS f ⟨t :: X, ((40 : Nat) : Int), false⟩ = true) (ht : isLong t = false) : between f c inner ⟨t :: X, ((40 : Nat) : Int), false⟩ = .error (t.pos, 71) := by
  show (if isS f ⟨t :: X, ((40 : Nat) : Int), false⟩ = true then _ else _) = _
  rw [if_pos hf]
  exact bd_err (l_enter_no t ht X)
/- The first token of an expression. -/
theorem l_first : ∀ (ks : List Nat) (p : Nat) (R : List PTok) (d : Int), isS [110, 111, 116] ⟨tkD ks p ++ R, d, false⟩ = false ∧ isS [41] ⟨tkD ks p ++ R, d, false⟩ = false ∧ ((tkD ks p ++ R).headD ⟨0, [], 0⟩).kind ≠ 3
  | [], p, R, d => ⟨rfl, rfl, by show (1 : Int) ≠ 3; decide⟩
  | 0 :: ks, p, R, d => ⟨rfl, rfl, by show (5 : Int) ≠ 3; decide⟩
  | 1 :: ks, p, R, d => ⟨rfl, rfl, by show (5 : Int) ≠ 3; decide⟩
  | 2 :: ks, p, R, d => ⟨rfl, rfl, by show (1 : Int) ≠ 3; decide⟩
  | (k + 3) :: ks, p, R, d => ⟨rfl, rfl, by show (1 : Int) ≠ 3; decide⟩
end Go.Proofs.YtcnohgifihbkdaaGreatDoor

namespace Go.Proofs.YtcnohgifihbkdaaGreatDoor
open Go Go.RowKit Go.Deep Go.Shelf
set_option linter.unusedVariables false
set_option linter.unusedSimpArgs false
set_option maxRecDepth 100000
section
variable (n : Nat) (l : Lay) (X : List PTok) (d p : Nat)
theorem f_par : facP n l ⟨⟨5, [40], (p : Int)⟩ :: X, (d : Int), false⟩ = bd (between [40] [41] l.expr) (fun x => postL n x) ⟨⟨5, [40], (p : Int)⟩ :: X, (d : Int), false⟩ := rfl
theorem f_neg (h : (X.headD ⟨0, [], 0⟩).kind ≠ 3) : facP n l ⟨⟨5, [45], (p : Int)⟩ :: X, (d : Int), false⟩ = unary 18 l.fac ⟨⟨5, [45], (p : Int)⟩ :: X, (d : Int), false⟩ := by
  show (if (X.headD ⟨0, [], 0⟩).kind = 3 then _ else _) = _
  rw [if_neg h]
theorem f_call : facP n l ⟨⟨1, [102], (p : Int)⟩ :: ⟨5, [40], ((p + 1 : Nat) : Int)⟩ :: X, (d : Int), false⟩ = bd (bd (bd (argsP n l.expr) fun xs => ret (⟨11, 0, 0, [], [102], [], xs.map pkE, 0⟩ : PEx)) fun x => ret (x.setAt (p : Int))) (fun x => postL n x) ⟨⟨5, [40], ((p + 1 : Nat) : Int)⟩ :: X, (d : Int), false⟩ := rfl
theorem f_key : facP n l ⟨⟨1, [109], (p : Int)⟩ :: ⟨5, [91], ((p + 1 : Nat) : Int)⟩ :: X, (d : Int), false⟩ = bd (bd (bd (keyP l.expr) fun xs => ret (⟨9, 0, 0, [], [109], [], xs.map pkE, 0⟩ : PEx)) fun x => ret (x.setAt (p : Int))) (fun x => postL n x) ⟨⟨5, [91], ((p + 1 : Nat) : Int)⟩ :: X, (d : Int), false⟩ := rfl
end
theorem f_leaf (n : Nat) (l : Lay) (p : Nat) (R : List PTok) (d : Nat) (hR : Cls R) : facP (n + 1) l ⟨⟨1, [97], (p : Int)⟩ :: R, (d : Int), false⟩ = .ok (⟨4, 0, 0, [], [97], [], [], (p : Int)⟩, ⟨R, (d : Int), false⟩) := by
  refine Eq.trans (b := postL (n + 1) ⟨4, 0, 0, [], [97], [], [], (p : Int)⟩ ⟨R, (d : Int), false⟩) ?_ (l_post hR)
  obtain ⟨t, q, R', rfl, rfl | rfl | rfl⟩ := hR <;> rfl
/- The arguments of a call of one argument. -/
theorem l_args {n : Nat} {E : Pr PEx} {X : List PTok} {x : PEx} {q : Int} {R : List PTok} {D : Int} (h0 : isS [41] ⟨X, D, false⟩ = false) (h : E ⟨X, D, false⟩ = .ok (x, ⟨⟨5, [41], q⟩ :: R, D, false⟩)) : (fun s => if isS [41] s = true then Except.ok ([], s) else rowL E (n + 1) [] s : Pr (List PEx)) ⟨X, D, false⟩ = .ok ([x], ⟨⟨5, [41], q⟩ :: R, D, false⟩) := by
  show (if isS [41] ⟨X, D, false⟩ = true then _ else _) = _
  rw [h0]
  show (bd E fun x => bd (maybe [44]) fun b => if b = true then rowL E n ([] ++ [x]) else ret ([] ++ [x])) ⟨X, D, false⟩ = _
  exact (bd_ok h).trans rfl
theorem l_args_no {n : Nat} {E : Pr PEx} {X : List PTok} {f : Flt} {D : Int} (h0 : isS [41] ⟨X, D, false⟩ = false) (h : E ⟨X, D, false⟩ = .error f) : (fun s => if isS [41] s = true then Except.ok ([], s) else rowL E (n + 1) [] s : Pr (List PEx)) ⟨X, D, false⟩ = .error f := by
  show (if isS [41] ⟨X, D, false⟩ = true then _ else _) = _
  rw [h0]
  show (bd E fun x => bd (maybe [44]) fun b => if b = true then rowL E n ([] ++ [x]) else ret ([] ++ [x])) ⟨X, D, false⟩ = _
  exact bd_err h
theorem args_eq (n : Nat) (e : Pr PEx) (s : PS) : argsP n e s = between [40] [41] (fun s => if isS [41] s = true then Except.ok ([], s) else rowL e n [] s) s := rfl
theorem cls_41 (q : Int) (R : List PTok) : Cls (⟨5, [41], q⟩ :: R) := ⟨_, _, _, rfl, .inl rfl⟩
theorem cls_93 (q : Int) (R : List PTok) : Cls (⟨5, [93], q⟩ :: R) := ⟨_, _, _, rfl, .inr (.inl rfl)⟩
theorem deep_ok : ∀ (ks : List Nat) (j p d : Nat) (R : List PTok), Cls R → ks.length ≤ j → d + ks.length ≤ 40 → facP (j + 1) (lay (j + 1)) ⟨tkD ks p ++ R, (d : Int), false⟩ = .ok (eD ks p, ⟨R, (d : Int), false⟩)
  | [], j, p, d, R, hR, _, _ => f_leaf j _ p R d hR
  | k :: ks, 0, p, d, R, hR, hj, hd => by simp at hj
  | k :: ks, i + 1, p, d, R, hR, hj, hd => by
    simp only [List.length_cons] at hj hd
    have hd1 : d < 40 := by omega
    have hd2 : d < 41 := by omega
    have IH := fun (R' : List PTok) (h' : Cls R') => deep_ok ks i (p + oLen k) (d + 1) R' h' (by omega) (by omega)
    have IE := fun (R' : List PTok) (h' : Cls R') => l_expr (n := i) (lay (i + 1)) _ h' (l_first ks (p + oLen k) R' ((d + 1 : Nat) : Int)).1 (IH R' h')
    match k with
    | 0 =>
      have e : tkD (0 :: ks) p ++ R = ⟨5, [40], (p : Int)⟩ :: (tkD ks (p + 1) ++ (⟨5, [41], ((enD ks (p + 1) : Nat) : Int)⟩ :: R)) := by
        show ([⟨5, [40], (p : Int)⟩] ++ (tkD ks (p + 1) ++ [⟨5, [41], ((enD ks (p + 1) : Nat) : Int)⟩])) ++ R = _
        simp
      rw [e, f_par]
      have h1 : between [40] [41] (lay (i + 2)).expr ⟨⟨5, [40], (p : Int)⟩ :: (tkD ks (p + 1) ++ (⟨5, [41], ((enD ks (p + 1) : Nat) : Int)⟩ :: R)), (d : Int), false⟩ = .ok (eD ks (p + 1), ⟨R, (d : Int), false⟩) :=
        (l_betw rfl rfl hd1).trans (l_close (.inl rfl) hd2 (IE _ (cls_41 _ _)))
      exact (bd_ok h1).trans (l_post hR)
    | 1 =>
      have e : tkD (1 :: ks) p ++ R = ⟨5, [45], (p : Int)⟩ :: (tkD ks (p + 2) ++ R) := by
        show ([⟨5, [45], (p : Int)⟩] ++ (tkD ks (p + 2) ++ [])) ++ R = _
        simp
      rw [e, f_neg _ _ _ _ _ (l_first ks (p + 2) R 0).2.2]
      refine (bd_ok (l_enter _ rfl _ d hd1)).trans ?_
      exact (bd_ok (IH R hR)).trans ((bd_ok (l_leave R d hd2)).trans rfl)
    | 2 =>
      have e : tkD (2 :: ks) p ++ R = ⟨1, [102], (p : Int)⟩ :: ⟨5, [40], ((p + 1 : Nat) : Int)⟩ :: (tkD ks (p + 2) ++ (⟨5, [41], ((enD ks (p + 2) : Nat) : Int)⟩ :: R)) := by
        show ([⟨1, [102], (p : Int)⟩, ⟨5, [40], ((p + 1 : Nat) : Int)⟩] ++ (tkD ks (p + 2) ++ [⟨5, [41], ((enD ks (p + 2) : Nat) : Int)⟩])) ++ R = _
        simp
      rw [e, f_call]
      have h1 : argsP (i + 2) (lay (i + 2)).expr ⟨⟨5, [40], ((p + 1 : Nat) : Int)⟩ :: (tkD ks (p + 2) ++ (⟨5, [41], ((enD ks (p + 2) : Nat) : Int)⟩ :: R)), (d : Int), false⟩ = .ok ([eD ks (p + 2)], ⟨R, (d : Int), false⟩) :=
        (args_eq _ _ _).trans ((l_betw rfl rfl hd1).trans (l_close (.inl rfl) hd2 (l_args (n := i + 1) (E := (lay (i + 2)).expr) (l_first ks (p + 2) _ _).2.1 (IE _ (cls_41 _ _)))))
      exact (bd_ok ((bd_ok ((bd_ok h1).trans rfl)).trans rfl)).trans (l_post hR)
    | k + 3 =>
      have e : tkD ((k + 3) :: ks) p ++ R = ⟨1, [109], (p : Int)⟩ :: ⟨5, [91], ((p + 1 : Nat) : Int)⟩ :: (tkD ks (p + 2) ++ (⟨5, [93], ((enD ks (p + 2) : Nat) : Int)⟩ :: R)) := by
        show ([⟨1, [109], (p : Int)⟩, ⟨5, [91], ((p + 1 : Nat) : Int)⟩] ++ (tkD ks (p + 2) ++ [⟨5, [93], ((enD ks (p + 2) : Nat) : Int)⟩])) ++ R = _
        simp
      rw [e, f_key]
      have h1 : keyP (lay (i + 2)).expr ⟨⟨5, [91], ((p + 1 : Nat) : Int)⟩ :: (tkD ks (p + 2) ++ (⟨5, [93], ((enD ks (p + 2) : Nat) : Int)⟩ :: R)), (d : Int), false⟩ = .ok ([eD ks (p + 2)], ⟨R, (d : Int), false⟩) :=
        (l_betw rfl rfl hd1).trans (l_close (.inr rfl) hd2 ((bd_ok (IE _ (cls_93 _ _))).trans rfl))
      exact (bd_ok ((bd_ok ((bd_ok h1).trans rfl)).trans rfl)).trans (l_post hR)
theorem deep_no : ∀ (ks : List Nat) (j p d : Nat) (R : List PTok), ks.length ≤ j → d ≤ 40 → 40 < d + ks.length → facP (j + 1) (lay (j + 1)) ⟨tkD ks p ++ R, (d : Int), false⟩ = .error (((plD ks p (40 - d) : Nat) : Int), 71)
  | [], j, p, d, R, _, h1, h2 => by simp at h2; omega
  | k :: ks, 0, p, d, R, hj, _, _ => by simp at hj
  | k :: ks, i + 1, p, d, R, hj, h1, h2 => by
    simp only [List.length_cons] at hj h2
    rcases Nat.lt_or_ge d 40 with hd1 | hd1
    · have IH := fun (R' : List PTok) => deep_no ks i (p + oLen k) (d + 1) R' (by omega) (by omega) (by omega)
      have IE := fun (R' : List PTok) => l_expr_no (n := i + 1) (lay (i + 1)) _ _ (l_first ks (p + oLen k) R' ((d + 1 : Nat) : Int)).1 (IH R')
      have ep : plD (k :: ks) p (40 - d) = plD ks (p + oLen k) (40 - (d + 1)) := by
        rw [show 40 - d = (40 - (d + 1)) + 1 by omega]
        rfl
      rw [ep]
      match k with
      | 0 =>
        have e : tkD (0 :: ks) p ++ R = ⟨5, [40], (p : Int)⟩ :: (tkD ks (p + 1) ++ (⟨5, [41], ((enD ks (p + 1) : Nat) : Int)⟩ :: R)) := by
          show ([⟨5, [40], (p : Int)⟩] ++ (tkD ks (p + 1) ++ [⟨5, [41], ((enD ks (p + 1) : Nat) : Int)⟩])) ++ R = _
          simp
        rw [e, f_par]
        exact bd_err ((l_betw rfl rfl hd1).trans (bd_err (IE _)))
      | 1 =>
        have e : tkD (1 :: ks) p ++ R = ⟨5, [45], (p : Int)⟩ :: (tkD ks (p + 2) ++ R) := by
          show ([⟨5, [45], (p : Int)⟩] ++ (tkD ks (p + 2) ++ [])) ++ R = _
          simp
        rw [e, f_neg _ _ _ _ _ (l_first ks (p + 2) R 0).2.2]
        exact (bd_ok (l_enter _ rfl _ d hd1)).trans (bd_err (IH R))
      | 2 =>
        have e : tkD (2 :: ks) p ++ R = ⟨1, [102], (p : Int)⟩ :: ⟨5, [40], ((p + 1 : Nat) : Int)⟩ :: (tkD ks (p + 2) ++ (⟨5, [41], ((enD ks (p + 2) : Nat) : Int)⟩ :: R)) := by
          show ([⟨1, [102], (p : Int)⟩, ⟨5, [40], ((p + 1 : Nat) : Int)⟩] ++ (tkD ks (p + 2) ++ [⟨5, [41], ((enD ks (p + 2) : Nat) : Int)⟩])) ++ R = _
          simp
        rw [e, f_call]
        exact bd_err (bd_err (bd_err ((args_eq _ _ _).trans ((l_betw rfl rfl hd1).trans (bd_err (l_args_no (n := i + 1) (E := (lay (i + 2)).expr) (l_first ks (p + 2) _ _).2.1 (IE _)))))))
      | k + 3 =>
        have e : tkD ((k + 3) :: ks) p ++ R = ⟨1, [109], (p : Int)⟩ :: ⟨5, [91], ((p + 1 : Nat) : Int)⟩ :: (tkD ks (p + 2) ++ (⟨5, [93], ((enD ks (p + 2) : Nat) : Int)⟩ :: R)) := by
          show ([⟨1, [109], (p : Int)⟩, ⟨5, [91], ((p + 1 : Nat) : Int)⟩] ++ (tkD ks (p + 2) ++ [⟨5, [93], ((enD ks (p + 2) : Nat) : Int)⟩])) ++ R = _
          simp
        rw [e, f_key]
        exact bd_err (bd_err (bd_err ((l_betw rfl rfl hd1).trans (bd_err (bd_err (IE _))))))
    · obtain rfl : d = 40 := by omega
      match k with
      | 0 =>
        rw [show tkD (0 :: ks) p ++ R = ⟨5, [40], (p : Int)⟩ :: (tkD ks (p + 1) ++ [⟨5, [41], ((enD ks (p + 1) : Nat) : Int)⟩] ++ R) from rfl, f_par]
        exact bd_err (l_betw_no rfl rfl)
      | 1 =>
        have e : tkD (1 :: ks) p ++ R = ⟨5, [45], (p : Int)⟩ :: (tkD ks (p + 2) ++ R) := by
          show ([⟨5, [45], (p : Int)⟩] ++ (tkD ks (p + 2) ++ [])) ++ R = _
          simp
        rw [e, f_neg _ _ _ _ _ (l_first ks (p + 2) R 0).2.2]
        exact bd_err (l_enter_no _ rfl _)
      | 2 =>
        rw [show tkD (2 :: ks) p ++ R = ⟨1, [102], (p : Int)⟩ :: ⟨5, [40], ((p + 1 : Nat) : Int)⟩ :: (tkD ks (p + 2) ++ [⟨5, [41], ((enD ks (p + 2) : Nat) : Int)⟩] ++ R) from rfl, f_call]
        exact bd_err (bd_err (bd_err ((args_eq _ _ _).trans (l_betw_no rfl rfl))))
      | k + 3 =>
        rw [show tkD ((k + 3) :: ks) p ++ R = ⟨1, [109], (p : Int)⟩ :: ⟨5, [91], ((p + 1 : Nat) : Int)⟩ :: (tkD ks (p + 2) ++ [⟨5, [93], ((enD ks (p + 2) : Nat) : Int)⟩] ++ R) from rfl, f_key]
        exact bd_err (bd_err (bd_err (l_betw_no rfl rfl)))
end Go.Proofs.YtcnohgifihbkdaaGreatDoor

namespace Go.Proofs.YtcnohgifihbkdaaGreatDoor
open Go Go.RowKit Go.Deep Go.Shelf
set_option linter.unusedVariables false
set_option linter.unusedSimpArgs false
set_option maxRecDepth 100000
open Lx in
def cons1 (t : LTok) (r : Except (Nat × Nat) (List LTok)) : Except (Nat × Nat) (List LTok) := match r with
  | .error e => .error e
  | .ok ts => .ok (t :: ts)
theorem lex_pre (X : Bsq) : Lx.lexG 0 0 (111 :: 110 :: 32 :: 101 :: 40 :: 41 :: 32 :: 123 :: 32 :: 100 :: 111 :: 32 :: X) = cons1 ⟨2, [111, 110], 0⟩ (cons1 ⟨1, [101], 3⟩ (cons1 ⟨5, [40], 4⟩ (cons1 ⟨5, [41], 5⟩ (cons1 ⟨5, [123], 7⟩ (cons1 ⟨2, [100, 111], 9⟩ (Lx.lexG 0 12 X)))))) := by kernel_rfl
theorem lex_end (p : Nat) : Lx.lexG 0 p [59, 32, 125] = .ok [⟨5, [59], p⟩, ⟨5, [125], p + 2⟩, ⟨0, [], p + 3⟩] := by kernel_rfl
theorem lx_r (d : UInt8) (hd : d = 97 ∨ d = 40 ∨ d = 45 ∨ d = 102 ∨ d = 109) (X : Bsq) (p : Nat) : Lx.lexG 0 p (40 :: d :: X) = cons1 ⟨5, [40], p⟩ (Lx.lexG 0 (p + 1) (d :: X)) := by
  rcases hd with rfl | rfl | rfl | rfl | rfl <;> kernel_rfl
theorem lx_k (d : UInt8) (hd : d = 97 ∨ d = 40 ∨ d = 45 ∨ d = 102 ∨ d = 109) (X : Bsq) (p : Nat) : Lx.lexG 0 p (91 :: d :: X) = cons1 ⟨5, [91], p⟩ (Lx.lexG 0 (p + 1) (d :: X)) := by
  rcases hd with rfl | rfl | rfl | rfl | rfl <;> kernel_rfl
theorem lx_f (X : Bsq) (p : Nat) : Lx.lexG 0 p (102 :: 40 :: X) = cons1 ⟨1, [102], p⟩ (Lx.lexG 0 (p + 1) (40 :: X)) := by kernel_rfl
theorem lx_m (X : Bsq) (p : Nat) : Lx.lexG 0 p (109 :: 91 :: X) = cons1 ⟨1, [109], p⟩ (Lx.lexG 0 (p + 1) (91 :: X)) := by kernel_rfl
theorem lx_n (X : Bsq) (p : Nat) : Lx.lexG 0 p (45 :: 32 :: X) = cons1 ⟨5, [45], p⟩ (Lx.lexG 0 (p + 2) X) := by kernel_rfl
theorem lx_a (c : UInt8) (hc : c = 41 ∨ c = 93 ∨ c = 59) (X : Bsq) (p : Nat) : Lx.lexG 0 p (97 :: c :: X) = cons1 ⟨1, [97], p⟩ (Lx.lexG 0 (p + 1) (c :: X)) := by
  rcases hc with rfl | rfl | rfl <;> kernel_rfl
theorem lx_cr (c : UInt8) (hc : c = 41 ∨ c = 93 ∨ c = 59) (X : Bsq) (p : Nat) : Lx.lexG 0 p (41 :: c :: X) = cons1 ⟨5, [41], p⟩ (Lx.lexG 0 (p + 1) (c :: X)) := by
  rcases hc with rfl | rfl | rfl <;> kernel_rfl
theorem lx_ck (c : UInt8) (hc : c = 41 ∨ c = 93 ∨ c = 59) (X : Bsq) (p : Nat) : Lx.lexG 0 p (93 :: c :: X) = cons1 ⟨5, [93], p⟩ (Lx.lexG 0 (p + 1) (c :: X)) := by
  rcases hc with rfl | rfl | rfl <;> kernel_rfl
def oSrc : Nat → Bsq
  | 0 => [40]
  | 1 => [45, 32]
  | 2 => [102, 40]
  | _ => [109, 91]
def cSrc : Nat → Bsq
  | 0 => [41]
  | 1 => []
  | 2 => [41]
  | _ => [93]
def mdD : List Nat → Bsq
  | [] => [97]
  | k :: ks => oSrc k ++ (mdD ks ++ cSrc k)
def oL : Nat → Nat → List Lx.LTok
  | 0, p => [⟨5, [40], p⟩]
  | 1, p => [⟨5, [45], p⟩]
  | 2, p => [⟨1, [102], p⟩, ⟨5, [40], p + 1⟩]
  | _, p => [⟨1, [109], p⟩, ⟨5, [91], p + 1⟩]
def cL : Nat → Nat → List Lx.LTok
  | 0, q => [⟨5, [41], q⟩]
  | 1, _ => []
  | 2, q => [⟨5, [41], q⟩]
  | _, q => [⟨5, [93], q⟩]
def lkD : List Nat → Nat → List Lx.LTok
  | [], p => [⟨1, [97], p⟩]
  | k :: ks, p => oL k p ++ (lkD ks (p + oLen k) ++ cL k (enD ks (p + oLen k)))
def consL (l : List Lx.LTok) (r : Except (Nat × Nat) (List Lx.LTok)) : Except (Nat × Nat) (List Lx.LTok) := l.foldr cons1 r
theorem consL_app (a b : List Lx.LTok) (r : Except (Nat × Nat) (List Lx.LTok)) : consL (a ++ b) r = consL a (consL b r) := by unfold consL; rw [List.foldr_append]
theorem consL_ok : ∀ (a : List Lx.LTok) (r : List Lx.LTok), consL a (.ok r) = .ok (a ++ r)
  | [], r => rfl
  | t :: a, r => by show cons1 t (consL a (.ok r)) = _; rw [consL_ok a r]; rfl
theorem md_head : ∀ (ks : List Nat) (X : Bsq), ∃ d Y, mdD ks ++ X = d :: Y ∧ (d = 97 ∨ d = 40 ∨ d = 45 ∨ d = 102 ∨ d = 109)
  | [], X => ⟨_, _, rfl, .inl rfl⟩
  | 0 :: ks, X => ⟨_, _, rfl, .inr (.inl rfl)⟩
  | 1 :: ks, X => ⟨_, _, rfl, .inr (.inr (.inl rfl))⟩
  | 2 :: ks, X => ⟨_, _, rfl, .inr (.inr (.inr (.inl rfl)))⟩
  | (k + 3) :: ks, X => ⟨_, _, rfl, .inr (.inr (.inr (.inr rfl)))⟩
theorem lex_md : ∀ (ks : List Nat) (p : Nat) (c : UInt8) (X : Bsq), (c = 41 ∨ c = 93 ∨ c = 59) → Lx.lexG 0 p (mdD ks ++ (c :: X)) = consL (lkD ks p) (Lx.lexG 0 (enD ks p) (c :: X))
  | [], p, c, X, hc => lx_a c hc X p
  | 0 :: ks, p, c, X, hc => by
    have e : mdD (0 :: ks) ++ (c :: X) = 40 :: (mdD ks ++ (41 :: c :: X)) := by
      show ([40] ++ (mdD ks ++ [41])) ++ (c :: X) = _
      simp
    obtain ⟨d, Y, hY, hd⟩ := md_head ks (41 :: c :: X)
    rw [e, hY, lx_r d hd, ← hY, lex_md ks (p + 1) 41 (c :: X) (.inl rfl), lx_cr c hc]
    show _ = consL ([⟨5, [40], p⟩] ++ (lkD ks (p + 1) ++ [⟨5, [41], enD ks (p + 1)⟩])) (Lx.lexG 0 (enD ks (p + 1) + 1) (c :: X))
    rw [consL_app, consL_app]
    rfl
  | 1 :: ks, p, c, X, hc => by
    have e : mdD (1 :: ks) ++ (c :: X) = 45 :: 32 :: (mdD ks ++ (c :: X)) := by
      show ([45, 32] ++ (mdD ks ++ [])) ++ (c :: X) = _
      simp
    rw [e, lx_n, lex_md ks (p + 2) c X hc]
    show _ = consL ([⟨5, [45], p⟩] ++ (lkD ks (p + 2) ++ [])) (Lx.lexG 0 (enD ks (p + 2) + 0) (c :: X))
    rw [consL_app, List.append_nil]
    rfl
  | 2 :: ks, p, c, X, hc => by
    have e : mdD (2 :: ks) ++ (c :: X) = 102 :: 40 :: (mdD ks ++ (41 :: c :: X)) := by
      show ([102, 40] ++ (mdD ks ++ [41])) ++ (c :: X) = _
      simp
    obtain ⟨d, Y, hY, hd⟩ := md_head ks (41 :: c :: X)
    rw [e, lx_f, hY, lx_r d hd, ← hY, lex_md ks (p + 1 + 1) 41 (c :: X) (.inl rfl), lx_cr c hc]
    show _ = consL ([⟨1, [102], p⟩, ⟨5, [40], p + 1⟩] ++ (lkD ks (p + 2) ++ [⟨5, [41], enD ks (p + 2)⟩])) (Lx.lexG 0 (enD ks (p + 2) + 1) (c :: X))
    rw [consL_app, consL_app]
    rfl
  | (k + 3) :: ks, p, c, X, hc => by
    have e : mdD ((k + 3) :: ks) ++ (c :: X) = 109 :: 91 :: (mdD ks ++ (93 :: c :: X)) := by
      show ([109, 91] ++ (mdD ks ++ [93])) ++ (c :: X) = _
      simp
    obtain ⟨d, Y, hY, hd⟩ := md_head ks (93 :: c :: X)
    rw [e, lx_m, hY, lx_k d hd, ← hY, lex_md ks (p + 1 + 1) 93 (c :: X) (.inr (.inl rfl)), lx_ck c hc]
    show _ = consL ([⟨1, [109], p⟩, ⟨5, [91], p + 1⟩] ++ (lkD ks (p + 2) ++ [⟨5, [93], enD ks (p + 2)⟩])) (Lx.lexG 0 (enD ks (p + 2) + 1) (c :: X))
    rw [consL_app, consL_app]
    rfl
theorem lk_toP : ∀ (ks : List Nat) (p : Nat), (lkD ks p).map toP = tkD ks p
  | [], p => rfl
  | 0 :: ks, p => by
    show (([⟨5, [40], p⟩] : List Lx.LTok) ++ (lkD ks (p + 1) ++ ([⟨5, [41], enD ks (p + 1)⟩] : List Lx.LTok))).map toP = [⟨5, [40], (p : Int)⟩] ++ (tkD ks (p + 1) ++ [⟨5, [41], ((enD ks (p + 1) : Nat) : Int)⟩])
    rw [List.map_append, List.map_append, lk_toP ks (p + 1)]
    rfl
  | 1 :: ks, p => by
    show (([⟨5, [45], p⟩] : List Lx.LTok) ++ (lkD ks (p + 2) ++ [])).map toP = [⟨5, [45], (p : Int)⟩] ++ (tkD ks (p + 2) ++ [])
    rw [List.map_append, List.map_append, lk_toP ks (p + 2)]
    rfl
  | 2 :: ks, p => by
    show (([⟨1, [102], p⟩, ⟨5, [40], p + 1⟩] : List Lx.LTok) ++ (lkD ks (p + 2) ++ ([⟨5, [41], enD ks (p + 2)⟩] : List Lx.LTok))).map toP = [⟨1, [102], (p : Int)⟩, ⟨5, [40], ((p + 1 : Nat) : Int)⟩] ++ (tkD ks (p + 2) ++ [⟨5, [41], ((enD ks (p + 2) : Nat) : Int)⟩])
    rw [List.map_append, List.map_append, lk_toP ks (p + 2)]
    rfl
  | (k + 3) :: ks, p => by
    show (([⟨1, [109], p⟩, ⟨5, [91], p + 1⟩] : List Lx.LTok) ++ (lkD ks (p + 2) ++ ([⟨5, [93], enD ks (p + 2)⟩] : List Lx.LTok))).map toP = [⟨1, [109], (p : Int)⟩, ⟨5, [91], ((p + 1 : Nat) : Int)⟩] ++ (tkD ks (p + 2) ++ [⟨5, [93], ((enD ks (p + 2) : Nat) : Int)⟩])
    rw [List.map_append, List.map_append, lk_toP ks (p + 2)]
    rfl
theorem md_len : ∀ ks : List Nat, (mdD ks).length ≤ 3 * ks.length + 1
  | [] => Nat.le_refl _
  | 0 :: ks => by have := md_len ks; show ([40] ++ (mdD ks ++ [41])).length ≤ _; simp only [List.length_append, List.length_cons, List.length_nil]; omega
  | 1 :: ks => by have := md_len ks; show ([45, 32] ++ (mdD ks ++ [])).length ≤ _; simp only [List.length_append, List.length_cons, List.length_nil]; omega
  | 2 :: ks => by have := md_len ks; show ([102, 40] ++ (mdD ks ++ [41])).length ≤ _; simp only [List.length_append, List.length_cons, List.length_nil]; omega
  | (k + 3) :: ks => by have := md_len ks; show ([109, 91] ++ (mdD ks ++ [93])).length ≤ _; simp only [List.length_append, List.length_cons, List.length_nil]; omega
end Go.Proofs.YtcnohgifihbkdaaGreatDoor

namespace Go.Proofs.YtcnohgifihbkdaaGreatDoor
open Go Go.RowKit Go.Deep Go.Shelf
set_option linter.unusedVariables false
set_option linter.unusedSimpArgs false
set_option maxRecDepth 100000
theorem c_simple (n : Nat) (e : Pr PEx) (R : List PTok) : simpleP n e ⟨⟨2, [100, 111], 9⟩ :: R, 1, false⟩ = bd (one e) (fun xs => ret ⟨13, [], [], [], xs.map pkE, [], [], 0⟩) ⟨R, 1, false⟩ := by kernel_rfl
theorem c_any (n : Nat) (e : Pr PEx) (st : Pr PSt) (R : List PTok) : anySt n e st ⟨⟨2, [100, 111], 9⟩ :: R, 1, false⟩ = bd (simpleP n e) (fun x => bd (want [59]) fun _ => ret x) ⟨⟨2, [100, 111], 9⟩ :: R, 1, false⟩ := by
  have h : ∀ (a b c d : Pr PSt) (s : PS), isS [105, 102] s = false → isS [119, 104, 105, 108, 101] s = false → isS [101, 97, 99, 104] s = false → isSmall s = false → (if isS [105, 102] s = true then a s else if isS [119, 104, 105, 108, 101] s = true ∨ isS [101, 97, 99, 104] s = true then b s else if isSmall s = true then c s else d s) = d s := fun a b c d s h1 h2 h3 h4 => by rw [h1, h2, h3, h4]; simp
  exact h _ _ _ _ _ rfl rfl rfl rfl
theorem c_block (st : Pr PSt) (n : Nat) (R : List PTok) : blockL st (n + 1) [] ⟨⟨2, [100, 111], 9⟩ :: R, 1, false⟩ = bd st (fun x => blockL st n [x]) ⟨⟨2, [100, 111], 9⟩ :: R, 1, false⟩ := by kernel_rfl
theorem c_blend (st : Pr PSt) (n : Nat) (x : PSt) (q r : Int) : blockL st (n + 1) [x] ⟨[⟨5, [125], q⟩, ⟨0, [], r⟩], 1, false⟩ = .ok ([x], ⟨[⟨5, [125], q⟩, ⟨0, [], r⟩], 1, false⟩) := by kernel_rfl
theorem c_betw {α : Type} (inner : Pr α) (R : List PTok) : between [123] [125] inner ⟨⟨5, [123], 7⟩ :: R, 0, false⟩ = bd inner (fun x => bd (want [125]) fun _ => bd leave fun _ => ret x) ⟨R, 1, false⟩ := by kernel_rfl
theorem c_hand (m : Nat) (R : List PTok) : handlerP m ⟨⟨1, [101], 3⟩ :: ⟨5, [40], 4⟩ :: ⟨5, [41], 5⟩ :: R, 0, false⟩ = bd (blockP m (stmt m)) (fun bl => ret ⟨[101], [], [], [], [], bl.map pkS, 0⟩) ⟨R, 0, false⟩ := by kernel_rfl
theorem c_decl (rest : Pr PDc) (R : List PTok) : declare [] rest ⟨⟨2, [111, 110], 0⟩ :: R, 0, false⟩ = bd rest (fun d => ret [d.setAt 0]) ⟨R, 0, false⟩ := by kernel_rfl
theorem c_src (m n : Nat) (R : List PTok) : sourceL m (n + 1) ⟨[], [], [], []⟩ ⟨⟨2, [111, 110], 0⟩ :: R, 0, false⟩ = bd (declare [] (handlerP m)) (fun l => sourceL m n ⟨[], [], [], l⟩) ⟨⟨2, [111, 110], 0⟩ :: R, 0, false⟩ := by kernel_rfl
theorem c_end (m n : Nat) (t : PTr) (r : Int) : sourceL m (n + 1) t ⟨[⟨0, [], r⟩], 0, false⟩ = .ok (t, ⟨[⟨0, [], r⟩], 0, false⟩) := by kernel_rfl
/- The tokens around an expression. -/
def tkA : List PTok := [⟨2, [111, 110], 0⟩, ⟨1, [101], 3⟩, ⟨5, [40], 4⟩, ⟨5, [41], 5⟩, ⟨5, [123], 7⟩, ⟨2, [100, 111], 9⟩]
section
variable (p q r : Int)
abbrev tkZ (p q r : Int) : List PTok := [⟨5, [59], p⟩, ⟨5, [125], q⟩, ⟨0, [], r⟩]
def stX (e : PEx) : PSt := ⟨13, [], [], [], [pkE e], [], [], 9⟩
theorem src_ok (X : List PTok) (e : PEx) (h : expr 4999 ⟨X ++ tkZ p q r, 1, false⟩ = .ok (e, ⟨tkZ p q r, 1, false⟩)) : source 5000 (tkA ++ (X ++ tkZ p q r)) = .ok ⟨[], [], [], [⟨[101], [], [], [], [], [pkS (stX e)], 0⟩]⟩ := by
  generalize hR : X ++ tkZ p q r = R at h ⊢
  have h1 : simpleP 4999 (expr 4999) ⟨⟨2, [100, 111], 9⟩ :: R, 1, false⟩ = .ok (⟨13, [], [], [], [pkE e], [], [], 0⟩, ⟨tkZ p q r, 1, false⟩) :=
    Eq.trans (b := bd (one (expr 4999)) (fun xs => ret (⟨13, [], [], [], xs.map pkE, [], [], 0⟩ : PSt)) ⟨R, 1, false⟩) (c_simple _ _ _) ((bd_ok ((bd_ok h).trans rfl)).trans rfl)
  have h2 : anySt 4999 (expr 4999) (stmt 4999) ⟨⟨2, [100, 111], 9⟩ :: R, 1, false⟩ = .ok (⟨13, [], [], [], [pkE e], [], [], 0⟩, ⟨[⟨5, [125], q⟩, ⟨0, [], r⟩], 1, false⟩) := (c_any _ _ _ _).trans ((bd_ok h1).trans rfl)
  have h3 : stmt 5000 ⟨⟨2, [100, 111], 9⟩ :: R, 1, false⟩ = .ok (stX e, ⟨[⟨5, [125], q⟩, ⟨0, [], r⟩], 1, false⟩) := (bd_ok h2).trans rfl
  have h4 : blockL (stmt 5000) 5000 [] ⟨⟨2, [100, 111], 9⟩ :: R, 1, false⟩ = .ok ([stX e], ⟨[⟨5, [125], q⟩, ⟨0, [], r⟩], 1, false⟩) := (c_block _ 4999 _).trans ((bd_ok h3).trans (c_blend _ 4998 _ _ _))
  have h5 : blockP 5000 (stmt 5000) ⟨⟨5, [123], 7⟩ :: ⟨2, [100, 111], 9⟩ :: R, 0, false⟩ = .ok ([stX e], ⟨[⟨0, [], r⟩], 0, false⟩) := (c_betw _ _).trans ((bd_ok h4).trans (by kernel_rfl))
  have h6 : handlerP 5000 ⟨⟨1, [101], 3⟩ :: ⟨5, [40], 4⟩ :: ⟨5, [41], 5⟩ :: ⟨5, [123], 7⟩ :: ⟨2, [100, 111], 9⟩ :: R, 0, false⟩ = .ok (⟨[101], [], [], [], [], [pkS (stX e)], 0⟩, ⟨[⟨0, [], r⟩], 0, false⟩) := (c_hand 5000 _).trans ((bd_ok h5).trans rfl)
  have h7 : declare [] (handlerP 5000) ⟨⟨2, [111, 110], 0⟩ :: ⟨1, [101], 3⟩ :: ⟨5, [40], 4⟩ :: ⟨5, [41], 5⟩ :: ⟨5, [123], 7⟩ :: ⟨2, [100, 111], 9⟩ :: R, 0, false⟩ = .ok ([⟨[101], [], [], [], [], [pkS (stX e)], 0⟩], ⟨[⟨0, [], r⟩], 0, false⟩) := (c_decl _ _).trans ((bd_ok h6).trans rfl)
  have h8 : sourceL 5000 5000 ⟨[], [], [], []⟩ ⟨⟨2, [111, 110], 0⟩ :: ⟨1, [101], 3⟩ :: ⟨5, [40], 4⟩ :: ⟨5, [41], 5⟩ :: ⟨5, [123], 7⟩ :: ⟨2, [100, 111], 9⟩ :: R, 0, false⟩ = .ok (⟨[], [], [], [⟨[101], [], [], [], [], [pkS (stX e)], 0⟩]⟩, ⟨[⟨0, [], r⟩], 0, false⟩) := (c_src 5000 4999 _).trans ((bd_ok h7).trans (c_end 5000 4998 _ _))
  show (match sourceL 5000 5000 ⟨[], [], [], []⟩ ⟨⟨2, [111, 110], 0⟩ :: ⟨1, [101], 3⟩ :: ⟨5, [40], 4⟩ :: ⟨5, [41], 5⟩ :: ⟨5, [123], 7⟩ :: ⟨2, [100, 111], 9⟩ :: R, 0, false⟩ with | .error e => Except.error e | .ok (t, _) => Except.ok t) = _
  rw [h8]
theorem src_no (R : List PTok) (f : Flt) (h : expr 4999 ⟨R, 1, false⟩ = .error f) : source 5000 (tkA ++ R) = .error f := by
  have h1 : simpleP 4999 (expr 4999) ⟨⟨2, [100, 111], 9⟩ :: R, 1, false⟩ = .error f :=
    Eq.trans (b := bd (one (expr 4999)) (fun xs => ret (⟨13, [], [], [], xs.map pkE, [], [], 0⟩ : PSt)) ⟨R, 1, false⟩) (c_simple _ _ _) (bd_err (bd_err h))
  have h2 : anySt 4999 (expr 4999) (stmt 4999) ⟨⟨2, [100, 111], 9⟩ :: R, 1, false⟩ = .error f := (c_any _ _ _ _).trans (bd_err h1)
  have h3 : stmt 5000 ⟨⟨2, [100, 111], 9⟩ :: R, 1, false⟩ = .error f := bd_err h2
  have h4 : blockL (stmt 5000) 5000 [] ⟨⟨2, [100, 111], 9⟩ :: R, 1, false⟩ = .error f := (c_block _ 4999 _).trans (bd_err h3)
  have h5 : blockP 5000 (stmt 5000) ⟨⟨5, [123], 7⟩ :: ⟨2, [100, 111], 9⟩ :: R, 0, false⟩ = .error f := (c_betw _ _).trans (bd_err h4)
  have h6 : handlerP 5000 ⟨⟨1, [101], 3⟩ :: ⟨5, [40], 4⟩ :: ⟨5, [41], 5⟩ :: ⟨5, [123], 7⟩ :: ⟨2, [100, 111], 9⟩ :: R, 0, false⟩ = .error f := (c_hand 5000 _).trans (bd_err h5)
  have h7 : declare [] (handlerP 5000) ⟨⟨2, [111, 110], 0⟩ :: ⟨1, [101], 3⟩ :: ⟨5, [40], 4⟩ :: ⟨5, [41], 5⟩ :: ⟨5, [123], 7⟩ :: ⟨2, [100, 111], 9⟩ :: R, 0, false⟩ = .error f := (c_decl _ _).trans (bd_err h6)
  have h8 : sourceL 5000 5000 ⟨[], [], [], []⟩ ⟨⟨2, [111, 110], 0⟩ :: ⟨1, [101], 3⟩ :: ⟨5, [40], 4⟩ :: ⟨5, [41], 5⟩ :: ⟨5, [123], 7⟩ :: ⟨2, [100, 111], 9⟩ :: R, 0, false⟩ = .error f := (c_src 5000 4999 _).trans (bd_err h7)
  show (match sourceL 5000 5000 ⟨[], [], [], []⟩ ⟨⟨2, [111, 110], 0⟩ :: ⟨1, [101], 3⟩ :: ⟨5, [40], 4⟩ :: ⟨5, [41], 5⟩ :: ⟨5, [123], 7⟩ :: ⟨2, [100, 111], 9⟩ :: R, 0, false⟩ with | .error e => Except.error e | .ok (t, _) => Except.ok t) = _
  rw [h8]
end
def hdD : Bsq := [111, 110, 32, 101, 40, 41, 32, 123, 32, 100, 111, 32]
def srcD (ks : List Nat) : Bsq := hdD ++ (mdD ks ++ [59, 32, 125])
theorem srcD_len (ks : List Nat) (h : ks.length ≤ 80) : (srcD ks).length ≤ 300 := by
  have := md_len ks
  unfold srcD hdD
  simp only [List.length_append, List.length_cons, List.length_nil]
  omega
theorem lex_srcD (ks : List Nat) (h : ks.length ≤ 80) : Lx.lexT (srcD ks) = .ok (([⟨2, [111, 110], 0⟩, ⟨1, [101], 3⟩, ⟨5, [40], 4⟩, ⟨5, [41], 5⟩, ⟨5, [123], 7⟩, ⟨2, [100, 111], 9⟩] : List Lx.LTok) ++ (lkD ks 12 ++ ([⟨5, [59], enD ks 12⟩, ⟨5, [125], enD ks 12 + 2⟩, ⟨0, [], enD ks 12 + 3⟩] : List Lx.LTok))) := by
  have hl := srcD_len ks h
  unfold Lx.lexT
  rw [if_neg (by omega)]
  show Lx.lexG 0 0 (111 :: 110 :: 32 :: 101 :: 40 :: 41 :: 32 :: 123 :: 32 :: 100 :: 111 :: 32 :: (mdD ks ++ [59, 32, 125])) = _
  rw [lex_pre, lex_md ks 12 59 [32, 125] (.inr (.inr rfl)), lex_end, consL_ok]
  rfl
theorem toks_srcD (ks : List Nat) : ((([⟨2, [111, 110], 0⟩, ⟨1, [101], 3⟩, ⟨5, [40], 4⟩, ⟨5, [41], 5⟩, ⟨5, [123], 7⟩, ⟨2, [100, 111], 9⟩] : List Lx.LTok) ++ (lkD ks 12 ++ ([⟨5, [59], enD ks 12⟩, ⟨5, [125], enD ks 12 + 2⟩, ⟨0, [], enD ks 12 + 3⟩] : List Lx.LTok))).map toP) = tkA ++ (tkD ks 12 ++ tkZ ((enD ks 12 : Nat) : Int) ((enD ks 12 + 2 : Nat) : Int) ((enD ks 12 + 3 : Nat) : Int)) := by
  rw [List.map_append, List.map_append, lk_toP]
  rfl
theorem cls_Z (p q r : Int) : Cls (tkZ p q r) := ⟨_, _, _, rfl, .inr (.inr rfl)⟩
/- Up to thirty-nine deep it is parsed. -/
theorem deep_parsed (ks : List Nat) (h : ks.length ≤ 39) : parseT (srcD ks) = .ok ⟨[], [], [], [⟨[101], [], [], [], [], [pkS (stX (eD ks 12))], 0⟩]⟩ := by
  unfold parseT
  rw [lex_srcD ks (by omega)]
  show source 5000 (List.map toP _) = _
  rw [toks_srcD]
  refine src_ok _ _ _ (tkD ks 12) (eD ks 12) ?_
  exact l_expr (n := 4997) (lay 4998) _ (cls_Z _ _ _) (l_first ks 12 _ _).1 (deep_ok ks 4997 12 1 _ (cls_Z _ _ _) (by omega) (by omega))
/- The fortieth is refused where it opens. -/
theorem deep_refused (ks : List Nat) (h : 39 < ks.length) (h2 : ks.length ≤ 80) : parseT (srcD ks) = .error (((plD ks 12 39 : Nat) : Int), 71) := by
  unfold parseT
  rw [lex_srcD ks h2]
  show source 5000 (List.map toP _) = _
  rw [toks_srcD]
  refine src_no _ _ ?_
  exact l_expr_no (n := 4998) (lay 4998) _ _ (l_first ks 12 _ _).1 (deep_no ks 4997 12 1 _ (by omega) (by omega) (by omega))
end Go.Proofs.YtcnohgifihbkdaaGreatDoor

namespace Go.Proofs.YtcnohgifihbkdaaGreatDoor
open Go Go.RowKit Go.Deep Go.Shelf
set_option linter.unusedVariables false
set_option linter.unusedSimpArgs false
set_option maxRecDepth 100000
theorem run_cat (a b : Bsq) (h : a.length + b.length ≤ 100000) (W : World) : (Op.stringOp .add (bs a) (bs b)).run Tryz.prog W = .ok (.string (bs (a ++ b))) W := by
  have q := run_string_add_sum (P := Tryz.prog) W (bs a) (bs b) (by
    show a.toArray.size + b.toArray.size ≤ 9223372036854775807
    rw [List.size_toArray, List.size_toArray]; omega)
  rw [bs_cat] at q
  exact q
end Go.Proofs.YtcnohgifihbkdaaGreatDoor

namespace Go.Proofs.YtcnohgifihbkdaaGreatDoor
open Go Go.RowKit Go.Deep Go.Shelf
set_option linter.unusedVariables false
set_option linter.unusedSimpArgs false
set_option maxRecDepth 100000
def LI (w : World) (A : Nat → Prop) (r : List Value) (x : Int) : Prop := r = [.int .i64 x]
theorem LI_mv : Mv LI := fun w w' A B r x h s i => h
theorem LI_row : Rw 1 LI := fun w A r x h => by
  subst h
  exact ⟨rfl, fun u hu => by simp at hu; subst hu; rfl⟩
theorem infoI : (Tryz.prog.info? 3).map (fun i => (i.zero, i.size, i.bytes)) = some (some (.int .i64 0), 1, 8) := by kernel_rfl
theorem lst_own {α : Type} {E : TypeId} {k : Nat} {R : World → (Nat → Prop) → List Value → α → Prop} {w : World} {A : Nat → Prop} {v : Value} {l : List α} (h : Lst E k R w A v l) : ∀ g, v.ownBlock = some g → A g := by
  obtain ⟨rows, ⟨_, q⟩, _⟩ := h
  exact q
theorem wpList_appI {ops : Array Oper} {rest : List Oper} {o : Oper} {act : Act} {Q : Exit → Act → World → Prop} (X W : World) (e : Int) (cs : Array Value) (hcs : cs = #[.int .i64 e]) (hX : X = W.alloc (.cells cs 3)) (hgd : o.guard = none) (s x : Operand)
    (ho : o.op = .call { callee := .builtin .append, args := #[s, x], argTypes := #[34, 34] }) (hty : o.type = 34) (v u : Value) (hs : act.eval s = v) (hx : act.eval x = u) (hu : u = .slice (some ⟨W.heap.size, 0, none⟩) 1 1) (A : Nat → Prop) (l : List Int) (h : Lst 3 1 LI W A v l) (hA : ∀ g, A g → g < W.heap.size) (hl : l.length ≤ 100000)
    (kk : ∀ v' w', Lst 3 1 LI w' (fun g => (A g ∨ g = W.heap.size) ∨ (W.heap.size + 1 ≤ g ∧ g < w'.heap.size)) v' (l ++ [e]) → X.grownBy w' v.ownBlock → (v'.ownBlock = v.ownBlock ∨ v'.ownBlock = some (W.heap.size + 1)) → wpList Tryz.prog ops Q rest (act.put o.dst v') w') :
    wpList Tryz.prog ops Q (o :: rest) act X := by
  refine wpList_plain hgd fun K hK => ?_
  subst hu
  subst hX
  subst hcs
  have hsz : (W.alloc (.cells #[.int .i64 e] 3)).heap.size = W.heap.size + 1 := World.size_alloc _ _
  have hL : Lst 3 1 LI (W.alloc (.cells #[.int .i64 e] 3)) A v l := h.mv LI_mv (Same.alloc (Same.refl _ _) hA) (fun g h => h)
  have hU : ∃ rows2, Rws 3 1 (W.alloc (.cells #[.int .i64 e] 3)) (fun g => g = W.heap.size) (.slice (some ⟨W.heap.size, 0, none⟩) 1 1) rows2 ∧ All2 (LI (W.alloc (.cells #[.int .i64 e] 3)) (fun g => g = W.heap.size)) rows2 [e] :=
    ⟨[[.int .i64 e]], ⟨(KR.one W [.int .i64 e] rfl (fun u hu => by simp at hu; subst hu; rfl)).lower (Nat.zero_le _), fun g q => by cases q; rfl⟩, All2.one rfl⟩
  obtain ⟨v', w', hrun, h2, h3, h4⟩ := run_appN LI_mv LI_row Tryz.underlying34 infoI rfl (by decide) (by decide) _ o.type A (fun g => g = W.heap.size) (fun g => A g ∨ g = W.heap.size) v _ l [e] hL hU (fun g hg => by rw [hsz]; have := hA g hg; omega) (fun g hg => by rw [hsz]; omega) (fun g hg q => by have := hA g (lst_own hL g q); omega) (fun g q => .inl q) (fun g q => .inr q) (by omega) (by simp)
  rw [hsz] at h2 h4
  rw [hty] at hrun
  unfold Oper.wp execOp
  simp only [ho, resolve, invoke, builtin, Sem.run_bind, Sem.run_pure, Result.andThen_ok, List.map_toArray, List.map_cons, List.map_nil, hs, hx, hty, hrun]
  exact hK _ _ (kk v' w' h2 h3 h4)
def GRd (w : World) (a : Option Addr) (gs : List Nat) : Prop := ∀ (j g : Nat), gs[j]? = some g → g ≤ 255 ∧ ∃ b off, a = some ⟨b, off, none⟩ ∧ b < w.heap.size ∧ w.cell? ⟨b, off + j, none⟩ = some (.int .u8 (g : Int))
theorem GRd.below {w w' : World} {a : Option Addr} {gs : List Nat} (h : GRd w a gs) (k : Below w.heap.size w w') : GRd w' a gs := fun j g e => by
  obtain ⟨h1, b, off, rfl, h2, h3⟩ := h j g e
  exact ⟨h1, b, off, rfl, by have := k.size; omega, cell_keep k h2 h3⟩
theorem bgrowr {w W W' : World} {B : Nat} {row : Option Nat} (h : Below B w W) (hB : B ≤ W.heap.size) (k : W.grownBy W' row) (hr : ∀ r, row = some r → B ≤ r) : Below B w W' := h.trans ⟨k.os, k.tape, k.output, k.size, fun j hj => k.block j (by omega) (fun e => by have := hr j e.symm; omega)⟩
theorem bs_size (l : Bsq) : ((bs l).size : Int) = (l.length : Int) := by
  show ((l.toArray.size : Nat) : Int) = _
  rw [List.size_toArray]
def opS : List Nat → Bsq
  | [] => []
  | k :: ks => oSrc k ++ opS ks
def clS : List Nat → Bsq
  | [] => []
  | k :: ks => clS ks ++ cSrc k
theorem md_split : ∀ ks : List Nat, mdD ks = opS ks ++ ([97] ++ clS ks)
  | [] => rfl
  | k :: ks => by
    show oSrc k ++ (mdD ks ++ cSrc k) = (oSrc k ++ opS ks) ++ ([97] ++ (clS ks ++ cSrc k))
    rw [md_split ks]
    simp
theorem opS_snoc (k : Nat) : ∀ ks : List Nat, opS (ks ++ [k]) = opS ks ++ oSrc k
  | [] => by show oSrc k ++ [] = [] ++ oSrc k; simp
  | x :: ks => by
    show oSrc x ++ opS (ks ++ [k]) = (oSrc x ++ opS ks) ++ oSrc k
    rw [opS_snoc k ks, List.append_assoc]
theorem clS_snoc (k : Nat) : ∀ ks : List Nat, clS (ks ++ [k]) = cSrc k ++ clS ks
  | [] => by show [] ++ cSrc k = cSrc k ++ []; simp
  | x :: ks => by
    show clS (ks ++ [k]) ++ cSrc x = cSrc k ++ (clS ks ++ cSrc x)
    rw [clS_snoc k ks, List.append_assoc]
theorem oSrc_len : ∀ k : Nat, (oSrc k).length = oLen k
  | 0 => rfl
  | 1 => rfl
  | 2 => rfl
  | k + 3 => rfl
theorem cSrc_len : ∀ k : Nat, (cSrc k).length ≤ 1
  | 0 => by decide
  | 1 => by decide
  | 2 => by decide
  | k + 3 => Nat.le_refl _
theorem plD_is : ∀ (ks : List Nat) (p j : Nat), j < ks.length → plD ks p j = p + (opS (ks.take j)).length + plO (ks.getD j 0)
  | [], p, j, h => by simp at h
  | k :: ks, p, 0, h => by show p + plO k = p + 0 + plO k; omega
  | k :: ks, p, j + 1, h => by
    show plD ks (p + oLen k) j = p + (oSrc k ++ opS (ks.take j)).length + plO (ks.getD j 0)
    rw [plD_is ks (p + oLen k) j (by simpa using h), List.length_append, oSrc_len]
    omega
/- What the bytes ask for. -/
def kD (gs : List Nat) (i : Nat) : Nat := gs.getD i 0 % 4
def ksD (gs : List Nat) (i : Nat) : List Nat := (List.range i).map (kD gs)
theorem ks_succ (gs : List Nat) (i : Nat) : ksD gs (i + 1) = ksD gs i ++ [kD gs i] := by unfold ksD; rw [List.range_succ, List.map_append]; rfl
theorem ks_len (gs : List Nat) (i : Nat) : (ksD gs i).length = i := by unfold ksD; simp
theorem kD_lt (gs : List Nat) (i : Nat) : kD gs i < 4 := Nat.mod_lt _ (by decide)
def sI (gs : List Nat) (i : Nat) : Bsq := hdD ++ opS (ksD gs i)
def eI (gs : List Nat) (i : Nat) : Bsq := clS (ksD gs i)
def pI (gs : List Nat) (i : Nat) : Nat := (sI gs i).length + plO (kD gs i)
def psI (gs : List Nat) (i : Nat) : List Int := (List.range i).map fun j => (pI gs j : Int)
theorem sI_succ (gs : List Nat) (i : Nat) : sI gs (i + 1) = sI gs i ++ oSrc (kD gs i) := by unfold sI; rw [ks_succ, opS_snoc, List.append_assoc]
theorem eI_succ (gs : List Nat) (i : Nat) : eI gs (i + 1) = cSrc (kD gs i) ++ eI gs i := by unfold eI; rw [ks_succ, clS_snoc]
theorem psI_succ (gs : List Nat) (i : Nat) : psI gs (i + 1) = psI gs i ++ [(pI gs i : Int)] := by unfold psI; rw [List.range_succ, List.map_append]; rfl
theorem psI_len (gs : List Nat) (i : Nat) : (psI gs i).length = i := by unfold psI; simp
theorem sI_le (gs : List Nat) : ∀ i, (sI gs i).length ≤ 12 + 2 * i
  | 0 => Nat.le_of_eq rfl
  | i + 1 => by
    have h := sI_le gs i
    have h2 : ∀ k, oLen k ≤ 2 := fun k => by unfold oLen; split <;> omega
    have := h2 (kD gs i)
    rw [sI_succ, List.length_append, oSrc_len]
    omega
theorem eI_le (gs : List Nat) : ∀ i, (eI gs i).length ≤ i
  | 0 => Nat.le_of_eq rfl
  | i + 1 => by
    have h := eI_le gs i
    have := cSrc_len (kD gs i)
    rw [eI_succ, List.length_append]
    omega
theorem plO_le (k : Nat) : plO k ≤ 1 := by unfold plO; split <;> omega
theorem plO_div {k : Nat} (h : k < 4) : ((k : Nat) : Int).tdiv 2 = ((plO k : Nat) : Int) := by
  match k, h with
  | 0, _ => rfl
  | 1, _ => rfl
  | 2, _ => rfl
  | 3, _ => rfl
  | k + 4, h => exact absurd h (by omega)
theorem src_is (gs : List Nat) (n : Nat) : ((sI gs n ++ [97]) ++ eI gs n) ++ [59, 32, 125] = srcD (ksD gs n) := by
  unfold srcD sI eI
  rw [md_split]
  simp
theorem pl_39 (gs : List Nat) (n : Nat) (h : 39 < n) : plD (ksD gs n) 12 39 = pI gs 39 := by
  rw [plD_is _ _ _ (by rw [ks_len]; exact h)]
  have e1 : (ksD gs n).take 39 = ksD gs 39 := by
    unfold ksD
    rw [← List.map_take, List.take_range, Nat.min_eq_left (by omega)]
  have e2 : (ksD gs n).getD 39 0 = kD gs 39 := by
    unfold ksD
    rw [List.getD_eq_getElem?_getD, List.getElem?_map, List.getElem?_range h]
    rfl
  rw [e1, e2]
  unfold pI sI hdD
  rw [List.length_append]
  rfl
theorem ps_39 (gs : List Nat) (n : Nat) (h : 39 < n) : (psI gs n)[39]? = some (pI gs 39 : Int) := by
  unfold psI
  rw [List.getElem?_map, List.getElem?_range h]
  rfl
def oA : Array Value := #[.string ⟨#[40]⟩, .string ⟨#[45, 32]⟩, .string ⟨#[102, 40]⟩, .string ⟨#[109, 91]⟩]
def cA : Array Value := #[.string ⟨#[41]⟩, .string ⟨#[]⟩, .string ⟨#[41]⟩, .string ⟨#[93]⟩]
theorem arr_at {k : Nat} (h : k < 4) : oA[k]? = some (.string (bs (oSrc k))) ∧ cA[k]? = some (.string (bs (cSrc k))) := by
  match k, h with
  | 0, _ => exact ⟨rfl, rfl⟩
  | 1, _ => exact ⟨rfl, rfl⟩
  | 2, _ => exact ⟨rfl, rfl⟩
  | 3, _ => exact ⟨rfl, rfl⟩
  | k + 4, h => exact absurd h (by omega)
end Go.Proofs.YtcnohgifihbkdaaGreatDoor

