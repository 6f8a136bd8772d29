/- A parser over tokens, pure: what parse.Parse does once lex.Tokens has answered. What it makes: expressions and statements packed as values without addresses. -/
import Derived.Test.YtcnohgifihbkdaaGreatDoorChecked
import Derived.WalkKit
namespace Go.Proofs.YtcnohgifihbkdaaGreatDoor
open Go.RowKit
set_option linter.unusedVariables false
abbrev Bsq := List UInt8
abbrev bs (l : Bsq) : ByteArray := ⟨l.toArray⟩
structure PTok where
  kind : Int
  text : Bsq
  pos : Int
structure PEx where
  kind : Int
  op : Int
  int : Int
  text : Bsq
  name : Bsq
  names : List Bsq
  args : List Value
  pos : Int
structure PSt where
  kind : Int
  name : Bsq
  label : Bsq
  var : Bsq
  args : List Value
  body : List Value
  els : List Value
  pos : Int
structure PPm where
  name : Bsq
  type : Bsq
structure PDc where
  name : Bsq
  params : List PPm
  key : Bsq
  value : Bsq
  result : Bsq
  body : List Value
  pos : Int
structure PTr where
  recs : List PDc
  maps : List PDc
  funcs : List PDc
  events : List PDc
/- Packed: what lies within another. -/
def pkN (l : List Bsq) : Value := .agg (l.map fun n => Value.string (bs n)).toArray
def pkE (e : PEx) : Value := .agg #[.int .i64 e.kind, .int .i64 e.op, .int .i64 e.int, .string (bs e.text), .string (bs e.name), pkN e.names, .agg e.args.toArray, .int .i64 e.pos]
def pkS (s : PSt) : Value := .agg #[.int .i64 s.kind, .string (bs s.name), .string (bs s.label), .string (bs s.var), .agg s.args.toArray, .agg s.body.toArray, .agg s.els.toArray, .int .i64 s.pos]
def PEx.at (e : PEx) : Int := e.pos
def PEx.setAt (e : PEx) (q : Int) : PEx := { e with pos := q }
def PSt.setAt (s : PSt) (q : Int) : PSt := { s with pos := q }
def PSt.setLabel (s : PSt) (q : Bsq) : PSt := { s with label := q }
def PDc.setAt (d : PDc) (q : Int) : PDc := { d with pos := q }
/- The parser's box: what is left of the tokens, how many are open, whether the next one is one too many. -/
structure PS where
  toks : List PTok
  opn : Int
  sur : Bool
/- A fault: its place, its number. -/
abbrev Flt := Int × Int
abbrev Pr (α : Type) := PS → Except Flt (α × PS)
def ret {α : Type} (a : α) : Pr α := fun s => .ok (a, s)
def bd {α β : Type} (x : Pr α) (f : α → Pr β) : Pr β := fun s => match x s with
  | .error e => .error e
  | .ok (a, s') => f a s'
def fuelOut {α : Type} : Pr α := fun _ => .error (-1, -1)
def nxt (s : PS) : PTok := s.toks.headD ⟨0, [], 0⟩
def wrong {α : Type} : Pr α := fun s => .error ((nxt s).pos, 70)
def isS (q : Bsq) (s : PS) : Bool := ((nxt s).kind == 2 || (nxt s).kind == 5) && (nxt s).text == q
def isGreat (s : PS) : Bool := (nxt s).kind == 1 && decide (65 ≤ (nxt s).text.headD 0) && decide ((nxt s).text.headD 0 ≤ 90)
def isSmall (s : PS) : Bool := (nxt s).kind == 1 && !isGreat s
def isLong (t : PTok) : Bool := (t.kind == 1 && decide (t.text.length > 20)) || (t.kind == 4 && decide (t.text.length > 64))
def take : Pr PTok := fun s =>
  if isLong (nxt s) = true then .error ((nxt s).pos, 74)
  else if s.sur = true then .error ((nxt s).pos, 72)
  else .ok (nxt s, { s with toks := s.toks.tail })
def enter : Pr PTok := bd take fun t s => if s.opn = 40 then .error (t.pos, 71) else .ok (t, { s with opn := wrap64 (s.opn + 1) })
def leave : Pr Unit := fun s => .ok ((), { s with opn := wrap64 (s.opn - 1) })
/- Digits xs strconv.ParseInt reads them, of tokens that are digits alone. -/
def digN (l : Bsq) : Nat := l.foldl (fun a b => a * 10 + (b.toNat - 48)) 0
def number (neg : Bool) : Pr Int := fun s =>
  let m := digN (nxt s).text
  if (if neg then m > 9223372036854775808 else m > 9223372036854775807) then .error ((nxt s).pos, 73)
  else (bd take fun _ => ret (if neg then -(m : Int) else (m : Int))) s
def maybe (q : Bsq) : Pr Bool := fun s => if isS q s = true then (bd take fun _ => ret true) s else .ok (false, s)
def want (q : Bsq) : Pr Unit := bd (maybe q) fun b => if b = true then ret () else wrong
def oneOf : List Bsq → Pr Bsq
  | [] => wrong
  | q :: l => fun s => if isS q s = true then (bd take fun t => ret t.text) s else oneOf l s
def small : Pr Bsq := fun s => if isSmall s = true then (bd take fun t => ret t.text) s else wrong s
def great : Pr Bsq := fun s => if isGreat s = true then (bd take fun t => ret t.text) s else wrong s
def between {α : Type} (f t : Bsq) (inner : Pr α) : Pr α := fun s =>
  if isS f s = true then (bd enter fun _ => bd inner fun x => bd (want t) fun _ => bd leave fun _ => ret x) s else wrong s
def rowL {α : Type} (el : Pr α) : Nat → List α → Pr (List α)
  | 0, _ => fuelOut
  | n + 1, l => fun s => (bd el fun x => bd (maybe [44]) fun b => if b = true then rowL el n (l ++ [x]) else ret (l ++ [x])) { s with sur := decide (l.length = 12) }
def rowBetween {α : Type} (n : Nat) (f t : Bsq) (el : Pr α) : Pr (List α) := between f t (rowL el n [])
def rowOrNone {α : Type} (n : Nat) (f t : Bsq) (el : Pr α) : Pr (List α) := between f t fun s => if isS t s = true then .ok ([], s) else rowL el n [] s
/- Operators and their levels. -/
def opOf (q : Bsq) : Int × Int :=
  if q = [111, 114] then (17, 1) else if q = [97, 110, 100] then (16, 2)
  else if q = [61, 61] then (10, 3) else if q = [33, 61] then (11, 3) else if q = [60] then (12, 3) else if q = [60, 61] then (13, 3) else if q = [62] then (14, 3) else if q = [62, 61] then (15, 3)
  else if q = [43] then (1, 4) else if q = [45] then (2, 4) else if q = [43, 37] then (4, 4) else if q = [45, 37] then (5, 4) else if q = [38] then (9, 4)
  else if q = [42] then (3, 5) else if q = [42, 37] then (6, 5) else if q = [47] then (7, 5) else if q = [37] then (8, 5) else (0, 0)
def operator (lv : Int) : Pr Int := fun s =>
  if ((nxt s).kind == 2 || (nxt s).kind == 5) = true then
    if (opOf (nxt s).text).2 = lv then (bd take fun _ => ret (opOf (nxt s).text).1) s else .ok (0, s)
  else .ok (0, s)
def binary (op : Int) (a b : PEx) : PEx := ⟨6, op, 0, [], [], [], [pkE a, pkE b], a.at⟩
def leftL (lv : Int) (part : Pr PEx) : Nat → PEx → Pr PEx
  | 0, _ => fuelOut
  | n + 1, e => bd (operator lv) fun op => if op = 0 then ret e else bd part fun b => leftL lv part n (binary op e b)
def leftward (n : Nat) (lv : Int) (part : Pr PEx) : Pr PEx := bd part fun e => leftL lv part n e
def unary (op : Int) (arg : Pr PEx) : Pr PEx := bd enter fun t => bd arg fun x => bd leave fun _ => ret ⟨5, op, 0, [], [], [], [pkE x], t.pos⟩
def postL : Nat → PEx → Pr PEx
  | 0, _ => fuelOut
  | n + 1, e => bd (maybe [46]) fun b => if b = true then bd small fun nm => postL n ⟨7, 0, 0, [], nm, [], [pkE e], e.at⟩ else ret e
/- Expressions, by fuel: 'ex' is all of them at one fuel less. -/
structure Lay where
  expr : Pr PEx
  neg : Pr PEx
  fac : Pr PEx
def one (e : Pr PEx) : Pr (List PEx) := bd e fun x => ret [x]
def inBr (e : Pr PEx) : Pr (List PEx) := between [40] [41] (one e)
def keyP (e : Pr PEx) : Pr (List PEx) := between [91] [93] (one e)
def argsP (n : Nat) (e : Pr PEx) : Pr (List PEx) := rowOrNone n [40] [41] e
def partP (e : Pr PEx) : Pr (Bsq × PEx) := bd small fun nm => bd (want [58]) fun _ => bd e fun x => ret (nm, x)
def newRec (n : Nat) (e : Pr PEx) : Pr PEx := bd great fun nm => bd (rowBetween n [123] [125] (partP e)) fun l => ret ⟨8, 0, 0, [], nm, l.map (·.1), l.map (fun x => pkE x.2), 0⟩
def namedEx (n : Nat) (e : Pr PEx) : Pr PEx := fun s =>
  if isGreat s = true then newRec n e s
  else (bd small fun nm s => if isS [40] s = true then (bd (argsP n e) fun xs => ret ⟨11, 0, 0, [], nm, [], xs.map pkE, 0⟩) s
    else if isS [91] s = true then (bd (keyP e) fun xs => ret ⟨9, 0, 0, [], nm, [], xs.map pkE, 0⟩) s
    else .ok (⟨4, 0, 0, [], nm, [], [], 0⟩, s)) s
def wordEx (e : Pr PEx) : Pr PEx :=
  bd (maybe [116, 114, 117, 101]) fun b => if b = true then ret ⟨3, 0, 1, [], [], [], [], 0⟩ else
  bd (maybe [102, 97, 108, 115, 101]) fun b => if b = true then ret ⟨3, 0, 0, [], [], [], [], 0⟩ else
  bd (maybe [108, 101, 110]) fun b => if b = true then bd (inBr e) fun xs => ret ⟨5, 20, 0, [], [], [], xs.map pkE, 0⟩ else
  bd (maybe [115, 116, 114]) fun b => if b = true then bd (inBr e) fun xs => ret ⟨5, 21, 0, [], [], [], xs.map pkE, 0⟩ else
  bd (maybe [104, 97, 115]) fun b => if b = true then bd small fun nm => bd (keyP e) fun xs => ret ⟨10, 0, 0, [], nm, [], xs.map pkE, 0⟩ else
  bd (maybe [97, 115, 107]) fun b => if b = true then bd small fun nm => bd (inBr e) fun xs => ret ⟨12, 0, 0, [], nm, [], xs.map pkE, 0⟩ else wrong
def anyPrim (n : Nat) (e : Pr PEx) : Pr PEx := fun s =>
  if (nxt s).kind = 3 then (bd (number false) fun m => ret ⟨1, 0, m, [], [], [], [], 0⟩) s
  else if (nxt s).kind = 4 then (bd take fun t => ret ⟨2, 0, 0, t.text, [], [], [], 0⟩) s
  else if (nxt s).kind = 1 then namedEx n e s else wordEx e s
def prim (n : Nat) (e : Pr PEx) : Pr PEx := fun s =>
  if isS [40] s = true then between [40] [41] e s
  else (bd (anyPrim n e) fun x => ret (x.setAt (nxt s).pos)) s
def post (n : Nat) (e : Pr PEx) : Pr PEx := bd (prim n e) fun x => postL n x
def second (s : PS) : PTok := s.toks.tail.headD ⟨0, [], 0⟩
def facP (n : Nat) (l : Lay) : Pr PEx := fun s =>
  if isS [45] s = true then
    if (second s).kind = 3 then (bd take fun t => bd (number true) fun m => ret ⟨1, 0, m, [], [], [], [], t.pos⟩) s
    else unary 18 l.fac s
  else post n l.expr s
def prodP (n : Nat) (l : Lay) : Pr PEx := leftward n 5 (facP n l)
def sumP (n : Nat) (l : Lay) : Pr PEx := leftward n 4 (prodP n l)
def testP (n : Nat) (l : Lay) : Pr PEx := bd (sumP n l) fun e => bd (operator 3) fun op => if op = 0 then ret e else bd (sumP n l) fun b => ret (binary op e b)
def negP (n : Nat) (l : Lay) : Pr PEx := fun s => if isS [110, 111, 116] s = true then unary 19 l.neg s else testP n l s
def conjP (n : Nat) (l : Lay) : Pr PEx := leftward n 2 (negP n l)
def exprP (n : Nat) (l : Lay) : Pr PEx := leftward n 1 (conjP n l)
def lay : Nat → Lay
  | 0 => ⟨fuelOut, fuelOut, fuelOut⟩
  | n + 1 => ⟨exprP n (lay n), negP n (lay n), facP n (lay n)⟩
def expr (n : Nat) : Pr PEx := (lay n).expr
/- Statements, by fuel. -/
def blockL (st : Pr PSt) : Nat → List PSt → Pr (List PSt)
  | 0, _ => fuelOut
  | n + 1, l => fun s => if isS [125] s = true then .ok (l, s) else (bd st fun x => blockL st n (l ++ [x])) s
def blockP (n : Nat) (st : Pr PSt) : Pr (List PSt) := between [123] [125] (blockL st n [])
def targetP : Pr Bsq := fun s => if isS [59] s = true then .ok ([], s) else small s
def resultP (e : Pr PEx) : Pr (List PEx) := fun s => if isS [59] s = true then .ok ([], s) else one e s
def simpleP (n : Nat) (e : Pr PEx) : Pr PSt :=
  bd (maybe [108, 101, 116]) fun b => if b = true then bd small fun nm => bd (want [61]) fun _ => bd (one e) fun xs => ret ⟨1, nm, [], [], xs.map pkE, [], [], 0⟩ else
  bd (maybe [100, 101, 108]) fun b => if b = true then bd small fun nm => bd (keyP e) fun xs => ret ⟨4, nm, [], [], xs.map pkE, [], [], 0⟩ else
  bd (maybe [98, 114, 101, 97, 107]) fun b => if b = true then bd targetP fun nm => ret ⟨8, nm, [], [], [], [], [], 0⟩ else
  bd (maybe [99, 111, 110, 116, 105, 110, 117, 101]) fun b => if b = true then bd targetP fun nm => ret ⟨9, nm, [], [], [], [], [], 0⟩ else
  bd (maybe [114, 101, 116, 117, 114, 110]) fun b => if b = true then bd (resultP e) fun xs => ret ⟨10, [], [], [], xs.map pkE, [], [], 0⟩ else
  bd (maybe [101, 109, 105, 116]) fun b => if b = true then bd (one e) fun xs => ret ⟨11, [], [], [], xs.map pkE, [], [], 0⟩ else
  bd (maybe [97, 102, 116, 101, 114]) fun b => if b = true then bd (one e) fun xs => bd small fun nm => bd (argsP n e) fun cs => ret ⟨12, nm, [], [], (xs ++ cs).map pkE, [], [], 0⟩ else
  bd (maybe [100, 111]) fun b => if b = true then bd (one e) fun xs => ret ⟨13, [], [], [], xs.map pkE, [], [], 0⟩ else wrong
def loopP (n : Nat) (e : Pr PEx) (st : Pr PSt) : Pr PSt :=
  bd (maybe [119, 104, 105, 108, 101]) fun b => if b = true then bd (one e) fun xs => bd (blockP n st) fun bl => ret ⟨6, [], [], [], xs.map pkE, bl.map pkS, [], 0⟩ else
  bd (want [101, 97, 99, 104]) fun _ => bd small fun v => bd (want [105, 110]) fun _ => bd small fun nm => bd (blockP n st) fun bl => ret ⟨7, nm, [], v, [], bl.map pkS, [], 0⟩
def namedSt (n : Nat) (e : Pr PEx) (st : Pr PSt) : Pr PSt := bd small fun nm => bd (maybe [58]) fun b =>
  if b = true then bd (loopP n e st) fun x => ret (x.setLabel nm)
  else fun s => if isS [91] s = true then (bd (keyP e) fun xs => bd (want [61]) fun _ => bd e fun x => bd (want [59]) fun _ => ret ⟨3, nm, [], [], (xs ++ [x]).map pkE, [], [], 0⟩) s
    else (bd (want [61]) fun _ => bd e fun x => bd (want [59]) fun _ => ret ⟨2, nm, [], [], [x].map pkE, [], [], 0⟩) s
def otherP (n : Nat) (st : Pr PSt) : Pr (List PSt) := fun s => if isS [105, 102] s = true then (bd st fun x => ret [x]) s else blockP n st s
def choiceP (n : Nat) (e : Pr PEx) (st : Pr PSt) : Pr PSt := bd (want [105, 102]) fun _ => bd (one e) fun xs => bd (blockP n st) fun bl => bd (maybe [101, 108, 115, 101]) fun b =>
  if b = true then bd (otherP n st) fun el => ret ⟨5, [], [], [], xs.map pkE, bl.map pkS, el.map pkS, 0⟩ else ret ⟨5, [], [], [], xs.map pkE, bl.map pkS, [], 0⟩
def anySt (n : Nat) (e : Pr PEx) (st : Pr PSt) : Pr PSt := fun s =>
  if isS [105, 102] s = true then choiceP n e st s
  else if isS [119, 104, 105, 108, 101] s = true ∨ isS [101, 97, 99, 104] s = true then loopP n e st s
  else if isSmall s = true then namedSt n e st s
  else (bd (simpleP n e) fun x => bd (want [59]) fun _ => ret x) s
def stmt : Nat → Pr PSt
  | 0 => fuelOut
  | n + 1 => fun s => (bd (anySt n (expr n) (stmt n)) fun x => ret (x.setAt (nxt s).pos)) s
/- Declarations. -/
def simpleKind : Pr Bsq := oneOf [[105, 110, 116], [116, 101, 120, 116], [98, 111, 111, 108]]
def kindP : Pr Bsq := fun s => if isGreat s = true then great s else simpleKind s
def fieldP : Pr PPm := bd small fun nm => bd (want [58]) fun _ => bd simpleKind fun t => ret ⟨nm, t⟩
def paramP : Pr PPm := bd small fun nm => bd (want [58]) fun _ => bd kindP fun t => ret ⟨nm, t⟩
def recordP (n : Nat) : Pr PDc := bd great fun nm => bd (rowBetween n [123] [125] fieldP) fun ps => ret ⟨nm, ps, [], [], [], [], 0⟩
def tableP : Pr PDc := bd small fun nm => bd (want [58]) fun _ => bd (oneOf [[105, 110, 116], [116, 101, 120, 116]]) fun k => bd (want [45, 62]) fun _ => bd kindP fun v => bd (want [59]) fun _ => ret ⟨nm, [], k, v, [], [], 0⟩
def functionP (n : Nat) : Pr PDc := bd small fun nm => bd (rowOrNone n [40] [41] paramP) fun ps => bd (maybe [45, 62]) fun b =>
  if b = true then bd kindP fun r => bd (blockP n (stmt n)) fun bl => ret ⟨nm, ps, [], [], r, bl.map pkS, 0⟩ else bd (blockP n (stmt n)) fun bl => ret ⟨nm, ps, [], [], [], bl.map pkS, 0⟩
def handlerP (n : Nat) : Pr PDc := bd small fun nm => bd (rowOrNone n [40] [41] paramP) fun ps => bd (blockP n (stmt n)) fun bl => ret ⟨nm, ps, [], [], [], bl.map pkS, 0⟩
def declare (l : List PDc) (rest : Pr PDc) : Pr (List PDc) := fun s => (bd take fun w => bd rest fun d => ret (l ++ [d.setAt w.pos])) { s with sur := decide (l.length = 16) }
def sourceL (m : Nat) : Nat → PTr → Pr PTr
  | 0, _ => fuelOut
  | n + 1, t => fun s =>
    if (nxt s).kind = 0 then .ok (t, s)
    else if isS [114, 101, 99, 111, 114, 100] s = true then (bd (declare t.recs (recordP m)) fun l => sourceL m n { t with recs := l }) s
    else if isS [109, 97, 112] s = true then (bd (declare t.maps tableP) fun l => sourceL m n { t with maps := l }) s
    else if isS [102, 110] s = true then (bd (declare t.funcs (functionP m)) fun l => sourceL m n { t with funcs := l }) s
    else if isS [111, 110] s = true then (bd (declare t.events (handlerP m)) fun l => sourceL m n { t with events := l }) s
    else wrong s
def source (m : Nat) (toks : List PTok) : Except Flt PTr := match sourceL m m ⟨[], [], [], []⟩ ⟨toks, 0, false⟩ with
  | .error e => .error e
  | .ok (t, _) => .ok t
end Go.Proofs.YtcnohgifihbkdaaGreatDoor

namespace Go.Proofs.YtcnohgifihbkdaaGreatDoor
set_option linter.unusedVariables false
def NF {α : Type} (k : Nat) (r : Except Flt (α × PS)) : Prop := match r with
  | .error e => e.2 ≠ -1
  | .ok (_, s) => s.toks.length ≤ k
def NC {α : Type} (k : Nat) (r : Except Flt (α × PS)) : Prop := match r with
  | .error e => e.2 ≠ -1
  | .ok (_, s) => s.toks.length < k
/- Of fewer than n tokens: it ends; D: and takes one at least. -/
def WK {α : Type} (n : Nat) (p : Pr α) : Prop := ∀ s : PS, s.toks.length < n → NF s.toks.length (p s)
def DK {α : Type} (n : Nat) (p : Pr α) : Prop := ∀ s : PS, s.toks.length < n → NC s.toks.length (p s)
theorem NC.nf {α : Type} {k : Nat} {r : Except Flt (α × PS)} (h : NC k r) : NF k r := by
  cases r with
  | error e => exact h
  | ok x => exact Nat.le_of_lt h
theorem DK.wk {α : Type} {n : Nat} {p : Pr α} (h : DK n p) : WK n p := fun s hs => (h s hs).nf
theorem DK.mono {α : Type} {m n : Nat} {p : Pr α} (h : DK n p) (hm : m ≤ n) : DK m p := fun s hs => h s (by omega)
theorem WK.mono {α : Type} {m n : Nat} {p : Pr α} (h : WK n p) (hm : m ≤ n) : WK m p := fun s hs => h s (by omega)
theorem ret_w {α : Type} (n : Nat) (a : α) : WK n (ret a) := fun s _ => Nat.le_refl _
theorem wrong_d {α : Type} (n : Nat) : DK n (wrong : Pr α) := fun s _ => by show (70 : Int) ≠ -1; decide
theorem bd_w {α β : Type} {n : Nat} {x : Pr α} {f : α → Pr β} (h : WK n x) (g : ∀ a, WK n (f a)) : WK n (bd x f) := fun s hs => by
  have h1 := h s hs
  unfold bd
  rcases hx : x s with e | ⟨a, s'⟩
  · rw [hx] at h1; exact h1
  · rw [hx] at h1
    have h1' : s'.toks.length ≤ s.toks.length := h1
    have h2 := g a s' (by omega)
    show NF _ (f a s')
    rcases hy : f a s' with e | ⟨b, t⟩
    · rw [hy] at h2; exact h2
    · rw [hy] at h2
      have h2' : t.toks.length ≤ s'.toks.length := h2
      show t.toks.length ≤ _; omega
theorem bd_d {α β : Type} {n : Nat} {x : Pr α} {f : α → Pr β} (h : DK (n + 1) x) (g : ∀ a, WK n (f a)) : DK (n + 1) (bd x f) := fun s hs => by
  have h1 := h s hs
  unfold bd
  rcases hx : x s with e | ⟨a, s'⟩
  · rw [hx] at h1; exact h1
  · rw [hx] at h1
    have h1' : s'.toks.length < s.toks.length := h1
    have h2 := g a s' (by omega)
    show NC _ (f a s')
    rcases hy : f a s' with e | ⟨b, t⟩
    · rw [hy] at h2; exact h2
    · rw [hy] at h2
      have h2' : t.toks.length ≤ s'.toks.length := h2
      show t.toks.length < _; omega
theorem bd_d0 {α β : Type} {n : Nat} {x : Pr α} {f : α → Pr β} (h : DK n x) (g : ∀ a, WK n (f a)) : DK n (bd x f) := by
  cases n with
  | zero => exact fun s hs => absurd hs (by omega)
  | succ n => exact bd_d h fun a => (g a).mono (by omega)
theorem nxt_pos {s : PS} (h : (nxt s).kind ≠ 0) : s.toks.tail.length < s.toks.length := by
  unfold nxt at h
  cases ht : s.toks with
  | nil => rw [ht] at h; exact absurd rfl h
  | cons a l => simp
theorem take_at {s : PS} (h : (nxt s).kind ≠ 0) : NC s.toks.length (take s) := by
  unfold take
  split
  · show (74 : Int) ≠ -1; decide
  · split
    · show (72 : Int) ≠ -1; decide
    · exact nxt_pos h
theorem bd_at {α β : Type} {x : Pr α} {f : α → Pr β} {n : Nat} {s : PS} (hs : s.toks.length < n + 1) (h : NC s.toks.length (x s)) (g : ∀ a, WK n (f a)) : NC s.toks.length (bd x f s) := by
  unfold bd
  rcases hx : x s with e | ⟨a, s'⟩
  · rw [hx] at h; exact h
  · rw [hx] at h
    have h1' : s'.toks.length < s.toks.length := h
    have h2 := g a s' (by omega)
    show NC _ (f a s')
    rcases hy : f a s' with e | ⟨b, t⟩
    · rw [hy] at h2; exact h2
    · rw [hy] at h2
      have h2' : t.toks.length ≤ s'.toks.length := h2
      show t.toks.length < _; omega
theorem isS_kind {q : Bsq} {s : PS} (h : isS q s = true) : (nxt s).kind ≠ 0 := by
  unfold isS at h
  simp only [Bool.and_eq_true, Bool.or_eq_true, beq_iff_eq] at h
  intro e; rcases h.1 with h | h <;> rw [e] at h <;> cases h
theorem great_kind {s : PS} (h : isGreat s = true) : (nxt s).kind ≠ 0 := by
  unfold isGreat at h
  simp only [Bool.and_eq_true, beq_iff_eq] at h
  intro e; rw [e] at h; cases h.1.1
theorem small_kind {s : PS} (h : isSmall s = true) : (nxt s).kind ≠ 0 := by
  unfold isSmall at h
  simp only [Bool.and_eq_true, beq_iff_eq] at h
  intro e; rw [e] at h; cases h.1
theorem enter_at {s : PS} (h : (nxt s).kind ≠ 0) : NC s.toks.length (enter s) := by
  unfold enter
  refine bd_at (n := s.toks.length) (by omega) (take_at h) fun t s' hs' => ?_
  show NF _ (if s'.opn = 40 then _ else _)
  split
  · show (71 : Int) ≠ -1; decide
  · exact Nat.le_refl _
theorem leave_w (n : Nat) : WK n leave := fun s _ => Nat.le_refl _
theorem maybe_w (n : Nat) (q : Bsq) : WK n (maybe q) := fun s hs => by
  unfold maybe
  split
  · rename_i h
    exact (bd_at (n := s.toks.length) (by omega) (take_at (isS_kind h)) fun _ => ret_w _ _).nf
  · exact Nat.le_refl _
/- What follows a word that stands there has one token less. -/
theorem bd_maybe {β : Type} {n : Nat} {q : Bsq} {f : Bool → Pr β} (h1 : WK n (f true)) (h2 : DK (n + 1) (f false)) : DK (n + 1) (bd (maybe q) f) := fun s hs => by
  by_cases h : isS q s = true
  · have e : maybe q s = bd take (fun _ => ret true) s := by unfold maybe; rw [if_pos h]
    have e2 : bd (maybe q) f s = bd take (fun _ => f true) s := by
      unfold bd; rw [e]; unfold bd
      rcases take s with e | ⟨a, s'⟩ <;> rfl
    rw [e2]
    exact bd_at hs (take_at (isS_kind h)) fun _ => h1
  · have e : maybe q s = .ok (false, s) := by unfold maybe; rw [if_neg h]
    have e2 : bd (maybe q) f s = f false s := by unfold bd; rw [e]
    rw [e2]; exact h2 s hs
theorem bd_maybe_w {β : Type} {n : Nat} {q : Bsq} {f : Bool → Pr β} (h1 : WK n (f true)) (h2 : WK (n + 1) (f false)) : WK (n + 1) (bd (maybe q) f) := fun s hs => by
  by_cases h : isS q s = true
  · have e : maybe q s = bd take (fun _ => ret true) s := by unfold maybe; rw [if_pos h]
    have e2 : bd (maybe q) f s = bd take (fun _ => f true) s := by
      unfold bd; rw [e]; unfold bd
      rcases take s with e | ⟨a, s'⟩ <;> rfl
    rw [e2]
    exact (bd_at hs (take_at (isS_kind h)) fun _ => h1).nf
  · have e : maybe q s = .ok (false, s) := by unfold maybe; rw [if_neg h]
    have e2 : bd (maybe q) f s = f false s := by unfold bd; rw [e]
    rw [e2]; exact h2 s hs
theorem want_d (n : Nat) (q : Bsq) : DK n (want q) := by
  cases n with
  | zero => exact fun s hs => absurd hs (by omega)
  | succ n => exact bd_maybe (ret_w _ _) (wrong_d _)
theorem at_d {α : Type} {n : Nat} {c : PS → Bool} {x y : Pr α} (hx : ∀ s, s.toks.length < n → c s = true → NC s.toks.length (x s)) (hy : DK n y) : DK n (fun s => if c s = true then x s else y s) := fun s hs => by
  show NC _ (if c s = true then x s else y s)
  split
  · rename_i h; exact hx s hs h
  · exact hy s hs
theorem at_w {α : Type} {n : Nat} {c : PS → Bool} {x y : Pr α} (hx : ∀ s, s.toks.length < n → c s = true → NF s.toks.length (x s)) (hy : WK n y) : WK n (fun s => if c s = true then x s else y s) := fun s hs => by
  show NF _ (if c s = true then x s else y s)
  split
  · rename_i h; exact hx s hs h
  · exact hy s hs
theorem oneOf_d (n : Nat) : ∀ l : List Bsq, DK n (oneOf l)
  | [] => wrong_d n
  | q :: l => at_d (c := isS q) (fun s hs h => bd_at (n := s.toks.length) (by omega) (take_at (isS_kind h)) fun _ => ret_w _ _) (oneOf_d n l)
theorem small_d (n : Nat) : DK n small := at_d (c := isSmall) (fun s hs h => bd_at (n := s.toks.length) (by omega) (take_at (small_kind h)) fun _ => ret_w _ _) (wrong_d n)
theorem great_d (n : Nat) : DK n great := at_d (c := isGreat) (fun s hs h => bd_at (n := s.toks.length) (by omega) (take_at (great_kind h)) fun _ => ret_w _ _) (wrong_d n)
theorem between_d {α : Type} {n : Nat} {f t : Bsq} {inner : Pr α} (h : WK n inner) : DK (n + 1) (between f t inner) :=
  at_d (c := isS f) (fun s hs hc => bd_at hs (enter_at (isS_kind hc)) fun _ => bd_w h fun _ => bd_w (want_d _ _).wk fun _ => bd_w (leave_w _) fun _ => ret_w _ _) (wrong_d _)
theorem number_at (neg : Bool) {s : PS} (h : (nxt s).kind ≠ 0) : NC s.toks.length (number neg s) := by
  unfold number
  show NC _ (if _ then _ else _)
  by_cases hc : (if neg = true then digN (nxt s).text > 9223372036854775808 else digN (nxt s).text > 9223372036854775807)
  · rw [if_pos hc]; show (73 : Int) ≠ -1; decide
  · rw [if_neg hc]; exact bd_at (n := s.toks.length) (by omega) (take_at h) fun _ => ret_w _ _
theorem sur_w {α : Type} {n : Nat} {p : Pr α} {b : PS → Bool} (h : DK n p) : DK n (fun s => p { s with sur := b s }) := fun s hs => h { s with sur := b s } hs
theorem rowL_d {α : Type} {n : Nat} {el : Pr α} (h : DK n el) : ∀ (m : Nat), m ≤ n → ∀ l, DK m (rowL el m l)
  | 0, _, l => fun s hs => absurd hs (by omega)
  | m + 1, hm, l => by
    have h1 : DK (m + 1) (bd el fun x => bd (maybe [44]) fun b => if b = true then rowL el m (l ++ [x]) else ret (l ++ [x])) :=
      bd_d (h.mono hm) fun x => bd_w (maybe_w _ _) fun b => by
        split
        · exact (rowL_d h m (by omega) _).wk
        · exact ret_w _ _
    exact sur_w (b := fun _ => decide (l.length = 12)) h1
theorem operator_w (n : Nat) (lv : Int) : WK n (operator lv) := fun s hs => by
  unfold operator
  by_cases hc : ((nxt s).kind == 2 || (nxt s).kind == 5) = true
  · rw [if_pos hc]
    have hk : (nxt s).kind ≠ 0 := by
      simp only [Bool.or_eq_true, beq_iff_eq] at hc
      intro e; rcases hc with h | h <;> rw [e] at h <;> cases h
    split
    · exact (bd_at (n := s.toks.length) (by omega) (take_at hk) fun _ => ret_w _ _).nf
    · exact Nat.le_refl _
  · rw [if_neg hc]; exact Nat.le_refl _
end Go.Proofs.YtcnohgifihbkdaaGreatDoor

namespace Go.Proofs.YtcnohgifihbkdaaGreatDoor
set_option linter.unusedVariables false
theorem bd_op {β : Type} {n : Nat} {lv : Int} {f : Int → Pr β} (h1 : ∀ op, WK n (f op)) (h2 : WK (n + 1) (f 0)) : WK (n + 1) (bd (operator lv) f) := fun s hs => by
  by_cases hc : ((nxt s).kind == 2 || (nxt s).kind == 5) = true
  · have hk : (nxt s).kind ≠ 0 := by
      simp only [Bool.or_eq_true, beq_iff_eq] at hc
      intro e; rcases hc with h | h <;> rw [e] at h <;> cases h
    by_cases hl : (opOf (nxt s).text).2 = lv
    · have e : operator lv s = bd take (fun _ => ret (opOf (nxt s).text).1) s := by unfold operator; rw [if_pos hc, if_pos hl]
      have e2 : bd (operator lv) f s = bd take (fun _ => f (opOf (nxt s).text).1) s := by
        unfold bd; rw [e]; unfold bd
        rcases take s with e | ⟨a, s'⟩ <;> rfl
      rw [e2]
      exact (bd_at hs (take_at hk) fun _ => h1 _).nf
    · have e : operator lv s = .ok (0, s) := by unfold operator; rw [if_pos hc, if_neg hl]
      have e2 : bd (operator lv) f s = f 0 s := by unfold bd; rw [e]
      rw [e2]; exact h2 s hs
  · have e : operator lv s = .ok (0, s) := by unfold operator; rw [if_neg hc]
    have e2 : bd (operator lv) f s = f 0 s := by unfold bd; rw [e]
    rw [e2]; exact h2 s hs
theorem leftL_w {n : Nat} {lv : Int} {part : Pr PEx} (h : DK n part) : ∀ (m : Nat), m ≤ n → ∀ e, WK m (leftL lv part m e)
  | 0, _, e => fun s hs => absurd hs (by omega)
  | m + 1, hm, e => by
    unfold leftL
    refine bd_op (fun op => ?_) ?_
    · split
      · exact ret_w _ _
      · exact bd_w (h.mono (by omega)).wk fun b => leftL_w h m (by omega) _
    · rw [if_pos rfl]; exact ret_w _ _
theorem leftward_d {n : Nat} {lv : Int} {part : Pr PEx} (h : DK (n + 1) part) : DK (n + 1) (leftward n lv part) := bd_d h fun e => leftL_w h n (by omega) e
theorem postL_w : ∀ (m : Nat) (e : PEx), WK m (postL m e)
  | 0, e => fun s hs => absurd hs (by omega)
  | m + 1, e => by
    unfold postL
    refine bd_maybe_w ?_ ?_
    · rw [if_pos rfl]; exact bd_w (small_d _).wk fun nm => postL_w m _
    · rw [if_neg (by decide)]; exact ret_w _ _
theorem one_d {n : Nat} {e : Pr PEx} (h : DK n e) : DK n (one e) := bd_d0 h fun _ => ret_w _ _
theorem inBr_d {n : Nat} {e : Pr PEx} (h : DK n e) : DK (n + 1) (inBr e) := between_d (one_d h).wk
theorem keyP_d {n : Nat} {e : Pr PEx} (h : DK n e) : DK (n + 1) (keyP e) := between_d (one_d h).wk
theorem rowOr_d {α : Type} {n : Nat} {f t : Bsq} {el : Pr α} (h : DK n el) : DK (n + 1) (rowOrNone n f t el) :=
  between_d (at_w (c := isS t) (x := fun s => .ok ([], s)) (fun s hs hc => Nat.le_refl _) (rowL_d h n (Nat.le_refl _) []).wk)
theorem rowBt_d {α : Type} {n : Nat} {f t : Bsq} {el : Pr α} (h : DK n el) : DK (n + 1) (rowBetween n f t el) := between_d (rowL_d h n (Nat.le_refl _) []).wk
theorem argsP_d {n : Nat} {e : Pr PEx} (h : DK n e) : DK (n + 1) (argsP n e) := rowOr_d h
theorem partP_d {n : Nat} {e : Pr PEx} (h : DK n e) : DK n (partP e) := bd_d0 (small_d _) fun _ => bd_w (want_d _ _).wk fun _ => bd_w h.wk fun _ => ret_w _ _
theorem newRec_d {n : Nat} {e : Pr PEx} (h : DK n e) : DK (n + 1) (newRec n e) := bd_d (great_d _) fun _ => bd_w ((rowBt_d (partP_d h)).mono (by omega)).wk fun _ => ret_w _ _
theorem namedEx_d {n : Nat} {e : Pr PEx} (h : DK n e) : DK (n + 1) (namedEx n e) :=
  at_d (c := isGreat) (fun s hs _ => newRec_d h s hs) (bd_d (small_d _) fun nm => at_w (c := isS [40]) (fun s hs _ => bd_w ((argsP_d h).mono (by omega)).wk (fun _ => ret_w _ _) s hs)
    (at_w (c := isS [91]) (fun s hs _ => bd_w ((keyP_d h).mono (by omega)).wk (fun _ => ret_w _ _) s hs) (fun s hs => Nat.le_refl _)))
theorem wordEx_d {n : Nat} {e : Pr PEx} (h : DK n e) : DK (n + 1) (wordEx e) := by
  unfold wordEx
  refine bd_maybe (by rw [if_pos rfl]; exact ret_w _ _) ?_
  rw [if_neg (by decide)]
  refine bd_maybe (by rw [if_pos rfl]; exact ret_w _ _) ?_
  rw [if_neg (by decide)]
  refine bd_maybe (by rw [if_pos rfl]; exact bd_w ((inBr_d h).mono (by omega)).wk fun _ => ret_w _ _) ?_
  rw [if_neg (by decide)]
  refine bd_maybe (by rw [if_pos rfl]; exact bd_w ((inBr_d h).mono (by omega)).wk fun _ => ret_w _ _) ?_
  rw [if_neg (by decide)]
  refine bd_maybe (by rw [if_pos rfl]; exact bd_w (small_d _).wk fun _ => bd_w ((keyP_d h).mono (by omega)).wk fun _ => ret_w _ _) ?_
  rw [if_neg (by decide)]
  refine bd_maybe (by rw [if_pos rfl]; exact bd_w (small_d _).wk fun _ => bd_w ((inBr_d h).mono (by omega)).wk fun _ => ret_w _ _) ?_
  rw [if_neg (by decide)]
  exact wrong_d _
theorem anyPrim_d {n : Nat} {e : Pr PEx} (h : DK n e) : DK (n + 1) (anyPrim n e) := fun s hs => by
  unfold anyPrim
  by_cases h3 : (nxt s).kind = 3
  · rw [if_pos h3]; exact bd_at hs (number_at false (by rw [h3]; decide)) fun _ => ret_w _ _
  rw [if_neg h3]
  by_cases h4 : (nxt s).kind = 4
  · rw [if_pos h4]; exact bd_at hs (take_at (by rw [h4]; decide)) fun _ => ret_w _ _
  rw [if_neg h4]
  by_cases h1 : (nxt s).kind = 1
  · rw [if_pos h1]; exact namedEx_d h s hs
  · rw [if_neg h1]; exact wordEx_d h s hs
theorem prim_d {n : Nat} {e : Pr PEx} (h : DK n e) : DK (n + 1) (prim n e) := fun s hs => by
  unfold prim
  split
  · exact between_d h.wk s hs
  · exact bd_at hs (anyPrim_d h s hs) fun _ => ret_w _ _
theorem post_d {n : Nat} {e : Pr PEx} (h : DK n e) : DK (n + 1) (post n e) := bd_d (prim_d h) fun x => postL_w n x
structure LayD (n : Nat) (l : Lay) : Prop where
  ee : DK n l.expr
  nn : DK n l.neg
  ff : DK n l.fac
theorem unary_at {n : Nat} {op : Int} {arg : Pr PEx} (h : WK n arg) {s : PS} (hs : s.toks.length < n + 1) (hk : (nxt s).kind ≠ 0) : NC s.toks.length (unary op arg s) :=
  bd_at hs (enter_at hk) fun _ => bd_w h fun _ => bd_w (leave_w _) fun _ => ret_w _ _
theorem facP_d {n : Nat} {l : Lay} (h : LayD n l) : DK (n + 1) (facP n l) := fun s hs => by
  unfold facP
  by_cases hm : isS [45] s = true
  · rw [if_pos hm]
    split
    · rename_i h3
      unfold bd
      have ht := take_at (isS_kind hm)
      rcases hx : take s with e | ⟨a, s'⟩
      · rw [hx] at ht; exact ht
      · rw [hx] at ht
        have ht' : s'.toks.length < s.toks.length := ht
        have hs2 : s'.toks = s.toks.tail := by
          unfold take at hx
          split at hx
          · cases hx
          · split at hx
            · cases hx
            · cases hx; rfl
        have hk : (nxt s').kind ≠ 0 := by unfold nxt; rw [hs2]; unfold second at h3; rw [h3]; decide
        have h5 := bd_at (x := number true) (f := fun m => ret (PEx.mk 1 0 m [] [] [] [] a.pos)) (n := s'.toks.length) (by omega) (number_at true hk) fun _ => ret_w _ _
        show NC _ (bd (number true) (fun m => ret (PEx.mk 1 0 m [] [] [] [] a.pos)) s')
        rcases hy : bd (number true) (fun m => ret (PEx.mk 1 0 m [] [] [] [] a.pos)) s' with e | ⟨b, t⟩
        · rw [hy] at h5; exact h5
        · rw [hy] at h5
          have h6 : t.toks.length < s'.toks.length := h5
          show t.toks.length < _; omega
    · exact unary_at h.ff.wk hs (isS_kind hm)
  · rw [if_neg hm]; exact post_d h.ee s hs
theorem prodP_d {n : Nat} {l : Lay} (h : LayD n l) : DK (n + 1) (prodP n l) := leftward_d (facP_d h)
theorem sumP_d {n : Nat} {l : Lay} (h : LayD n l) : DK (n + 1) (sumP n l) := leftward_d (prodP_d h)
theorem testP_d {n : Nat} {l : Lay} (h : LayD n l) : DK (n + 1) (testP n l) := bd_d (sumP_d h) fun e => bd_w (operator_w _ _) fun op => by
  split
  · exact ret_w _ _
  · exact bd_w ((sumP_d h).mono (by omega)).wk fun _ => ret_w _ _
theorem negP_d {n : Nat} {l : Lay} (h : LayD n l) : DK (n + 1) (negP n l) := at_d (c := isS [110, 111, 116]) (fun s hs hc => unary_at h.nn.wk hs (isS_kind hc)) (testP_d h)
theorem conjP_d {n : Nat} {l : Lay} (h : LayD n l) : DK (n + 1) (conjP n l) := leftward_d (negP_d h)
theorem exprP_d {n : Nat} {l : Lay} (h : LayD n l) : DK (n + 1) (exprP n l) := leftward_d (conjP_d h)
theorem lay_d : ∀ n, LayD n (lay n)
  | 0 => ⟨fun s hs => absurd hs (by omega), fun s hs => absurd hs (by omega), fun s hs => absurd hs (by omega)⟩
  | n + 1 => ⟨exprP_d (lay_d n), negP_d (lay_d n), facP_d (lay_d n)⟩
theorem expr_d (n : Nat) : DK n (expr n) := (lay_d n).ee
/- Statements. -/
theorem blockL_w {n : Nat} {st : Pr PSt} (h : DK n st) : ∀ (m : Nat), m ≤ n → ∀ l, WK m (blockL st m l)
  | 0, _, l => fun s hs => absurd hs (by omega)
  | m + 1, hm, l => at_w (c := isS [125]) (x := fun s => .ok (l, s)) (fun s hs hc => Nat.le_refl _) ((bd_d (h.mono hm) fun x => blockL_w h m (by omega) _).wk)
theorem blockP_d {n : Nat} {st : Pr PSt} (h : DK n st) : DK (n + 1) (blockP n st) := between_d (blockL_w h n (Nat.le_refl _) [])
theorem targetP_w (n : Nat) : WK n targetP := at_w (c := isS [59]) (x := fun s => .ok ([], s)) (fun s hs hc => Nat.le_refl _) (small_d n).wk
theorem resultP_w {n : Nat} {e : Pr PEx} (h : DK n e) : WK n (resultP e) := at_w (c := isS [59]) (x := fun s => .ok ([], s)) (fun s hs hc => Nat.le_refl _) (one_d h).wk
theorem simpleP_d {n : Nat} {e : Pr PEx} (h : DK n e) : DK (n + 1) (simpleP n e) := by
  unfold simpleP
  refine bd_maybe (by rw [if_pos rfl]; exact bd_w (small_d _).wk fun _ => bd_w (want_d _ _).wk fun _ => bd_w (one_d h).wk fun _ => ret_w _ _) ?_
  rw [if_neg (by decide)]
  refine bd_maybe (by rw [if_pos rfl]; exact bd_w (small_d _).wk fun _ => bd_w ((keyP_d h).mono (by omega)).wk fun _ => ret_w _ _) ?_
  rw [if_neg (by decide)]
  refine bd_maybe (by rw [if_pos rfl]; exact bd_w (targetP_w _) fun _ => ret_w _ _) ?_
  rw [if_neg (by decide)]
  refine bd_maybe (by rw [if_pos rfl]; exact bd_w (targetP_w _) fun _ => ret_w _ _) ?_
  rw [if_neg (by decide)]
  refine bd_maybe (by rw [if_pos rfl]; exact bd_w (resultP_w h) fun _ => ret_w _ _) ?_
  rw [if_neg (by decide)]
  refine bd_maybe (by rw [if_pos rfl]; exact bd_w (one_d h).wk fun _ => ret_w _ _) ?_
  rw [if_neg (by decide)]
  refine bd_maybe (by rw [if_pos rfl]; exact bd_w (one_d h).wk fun _ => bd_w (small_d _).wk fun _ => bd_w ((argsP_d h).mono (by omega)).wk fun _ => ret_w _ _) ?_
  rw [if_neg (by decide)]
  refine bd_maybe (by rw [if_pos rfl]; exact bd_w (one_d h).wk fun _ => ret_w _ _) ?_
  rw [if_neg (by decide)]
  exact wrong_d _
theorem loopP_d {n : Nat} {e : Pr PEx} {st : Pr PSt} (h : DK n e) (g : DK n st) : DK (n + 1) (loopP n e st) := by
  unfold loopP
  have hb := ((blockP_d g).mono (show n ≤ n + 1 by omega)).wk
  refine bd_maybe (by rw [if_pos rfl]; exact bd_w (one_d h).wk fun _ => bd_w hb fun _ => ret_w _ _) ?_
  rw [if_neg (by decide)]
  exact bd_d (want_d _ _) fun _ => bd_w (small_d _).wk fun _ => bd_w (want_d _ _).wk fun _ => bd_w (small_d _).wk fun _ => bd_w hb fun _ => ret_w _ _
theorem namedSt_d {n : Nat} {e : Pr PEx} {st : Pr PSt} (h : DK n e) (g : DK n st) : DK (n + 1) (namedSt n e st) := bd_d (small_d _) fun nm => bd_w (maybe_w _ _) fun b => by
  split
  · exact bd_w ((loopP_d h g).mono (by omega)).wk fun _ => ret_w _ _
  · exact at_w (c := isS [91]) (fun s hs _ => bd_w ((keyP_d h).mono (by omega)).wk (fun _ => bd_w (want_d _ _).wk fun _ => bd_w h.wk fun _ => bd_w (want_d _ _).wk fun _ => ret_w _ _) s hs)
      (bd_w (want_d _ _).wk fun _ => bd_w h.wk fun _ => bd_w (want_d _ _).wk fun _ => ret_w _ _)
theorem otherP_w {n : Nat} {st : Pr PSt} (g : DK n st) : WK n (otherP n st) := at_w (c := isS [105, 102]) (fun s hs _ => bd_w g.wk (fun _ => ret_w _ _) s hs) ((blockP_d g).mono (by omega)).wk
theorem choiceP_d {n : Nat} {e : Pr PEx} {st : Pr PSt} (h : DK n e) (g : DK n st) : DK (n + 1) (choiceP n e st) :=
  bd_d (want_d _ _) fun _ => bd_w (one_d h).wk fun _ => bd_w ((blockP_d g).mono (by omega)).wk fun _ => bd_w (maybe_w _ _) fun b => by
    split
    · exact bd_w (otherP_w g) fun _ => ret_w _ _
    · exact ret_w _ _
theorem anySt_d {n : Nat} {e : Pr PEx} {st : Pr PSt} (h : DK n e) (g : DK n st) : DK (n + 1) (anySt n e st) := fun s hs => by
  unfold anySt
  split
  · exact choiceP_d h g s hs
  split
  · exact loopP_d h g s hs
  split
  · exact namedSt_d h g s hs
  · exact bd_d (simpleP_d h) (fun _ => bd_w (want_d _ _).wk fun _ => ret_w _ _) s hs
theorem stmt_d : ∀ n, DK n (stmt n)
  | 0 => fun s hs => absurd hs (by omega)
  | n + 1 => fun s hs => bd_at hs (anySt_d (expr_d n) (stmt_d n) s hs) fun _ => ret_w _ _
/- Declarations, sources. -/
theorem simpleKind_d (n : Nat) : DK n simpleKind := oneOf_d n _
theorem kindP_d (n : Nat) : DK n kindP := at_d (c := isGreat) (fun s hs _ => great_d n s hs) (simpleKind_d n)
theorem fieldP_d (n : Nat) : DK n fieldP := bd_d0 (small_d _) fun _ => bd_w (want_d _ _).wk fun _ => bd_w (simpleKind_d _).wk fun _ => ret_w _ _
theorem paramP_d (n : Nat) : DK n paramP := bd_d0 (small_d _) fun _ => bd_w (want_d _ _).wk fun _ => bd_w (kindP_d _).wk fun _ => ret_w _ _
theorem recordP_w (n : Nat) : WK n (recordP n) := bd_w (great_d _).wk fun _ => bd_w ((rowBt_d (fieldP_d n)).mono (by omega)).wk fun _ => ret_w _ _
theorem tableP_w (n : Nat) : WK n tableP := bd_w (small_d _).wk fun _ => bd_w (want_d _ _).wk fun _ => bd_w (oneOf_d _ _).wk fun _ => bd_w (want_d _ _).wk fun _ => bd_w (kindP_d _).wk fun _ => bd_w (want_d _ _).wk fun _ => ret_w _ _
theorem functionP_w (n : Nat) : WK n (functionP n) := bd_w (small_d _).wk fun _ => bd_w ((rowOr_d (paramP_d n)).mono (by omega)).wk fun _ => bd_w (maybe_w _ _) fun b => by
  have hb := ((blockP_d (stmt_d n)).mono (show n ≤ n + 1 by omega)).wk
  split
  · exact bd_w (kindP_d _).wk fun _ => bd_w hb fun _ => ret_w _ _
  · exact bd_w hb fun _ => ret_w _ _
theorem handlerP_w (n : Nat) : WK n (handlerP n) := bd_w (small_d _).wk fun _ => bd_w ((rowOr_d (paramP_d n)).mono (by omega)).wk fun _ => bd_w ((blockP_d (stmt_d n)).mono (by omega)).wk fun _ => ret_w _ _
theorem declare_at {n : Nat} {l : List PDc} {rest : Pr PDc} (h : WK n rest) {s : PS} (hs : s.toks.length < n + 1) (hk : (nxt s).kind ≠ 0) : NC s.toks.length (declare l rest s) :=
  bd_at (s := { s with sur := decide (l.length = 16) }) hs (take_at hk) fun w => bd_w h fun d => ret_w _ _
theorem sourceL_w {m : Nat} : ∀ (n : Nat), n ≤ m → ∀ t, WK n (sourceL m n t)
  | 0, _, t => fun s hs => absurd hs (by omega)
  | n + 1, hn, t => fun s hs => by
    unfold sourceL
    split
    · exact Nat.le_refl _
    split
    · rename_i hc; exact (bd_at hs (declare_at ((recordP_w m).mono (show n ≤ m by omega)) hs (isS_kind hc)) fun l => sourceL_w n (by omega) _).nf
    split
    · rename_i hc; exact (bd_at hs (declare_at ((tableP_w m).mono (show n ≤ m by omega)) hs (isS_kind hc)) fun l => sourceL_w n (by omega) _).nf
    split
    · rename_i hc; exact (bd_at hs (declare_at ((functionP_w m).mono (show n ≤ m by omega)) hs (isS_kind hc)) fun l => sourceL_w n (by omega) _).nf
    split
    · rename_i hc; exact (bd_at hs (declare_at ((handlerP_w m).mono (show n ≤ m by omega)) hs (isS_kind hc)) fun l => sourceL_w n (by omega) _).nf
    · exact (wrong_d (n + 1) s hs).nf
/- A source of fewer tokens than there is fuel is read, or refused by a fault of its own. -/
theorem source_ends {m : Nat} {toks : List PTok} (h : toks.length < m) : ∀ e, source m toks = .error e → e.2 ≠ -1 := fun e he => by
  have h1 := sourceL_w m (Nat.le_refl _) ⟨[], [], [], []⟩ ⟨toks, 0, false⟩ h
  unfold source at he
  rcases hx : sourceL m m ⟨[], [], [], []⟩ ⟨toks, 0, false⟩ with e' | ⟨t, s⟩
  · rw [hx] at he h1; cases he; exact h1
  · rw [hx] at he; cases he
end Go.Proofs.YtcnohgifihbkdaaGreatDoor

namespace Go.Proofs.YtcnohgifihbkdaaGreatDoor
set_option linter.unusedVariables false
/- The tails: of the whole source; of the one cut short: its end alone, or one token and its end. -/
structure Tl where
  u : List PTok
  v : List PTok
  z : PTok
  hz : z.kind = 0
  hv : v = [z] ∨ ∃ a, v = [a, z]
def EX {α : Type} (T : Tl) (x : Pr α) : Prop := ∀ o b, match x ⟨[T.z], o, b⟩ with
  | .error e => e.2 ≠ 72
  | .ok (_, s) => s.toks = [T.z]
def VR {α : Type} (T : Tl) (c : Bool) (r : Except Flt (α × PS)) : Prop := match r with
  | .error e => e.2 ≠ 72
  | .ok (_, s) => s.toks = [T.z] ∨ (c = false ∧ s.toks = T.v ∧ s.sur = false)
def VX {α : Type} (T : Tl) (c : Bool) (x : Pr α) : Prop := ∀ o, VR T c (x ⟨T.v, o, false⟩)
def SR {α : Type} (T : Tl) (c : Bool) (r1 r2 : Except Flt (α × PS)) : Prop := match r1, r2 with
  | .error _, _ => True
  | .ok _, .error e => e.2 ≠ 72
  | .ok (a, s1), .ok (a', s2) => (∃ t o, a' = a ∧ s1 = ⟨t ++ T.u, o, false⟩ ∧ s2 = ⟨t ++ T.v, o, false⟩) ∨ s2.toks = [T.z] ∨ (c = false ∧ s2.toks = T.v ∧ s2.sur = false)
def SX {α : Type} (T : Tl) (c : Bool) (x y : Pr α) : Prop := ∀ t o, SR T c (x ⟨t ++ T.u, o, false⟩) (y ⟨t ++ T.v, o, false⟩)
structure QX {α : Type} (T : Tl) (c : Bool) (x y : Pr α) : Prop where
  e : EX T y
  v : VX T c y
  s : SX T c x y
variable {T : Tl}
theorem VR.sr {α : Type} {c : Bool} {r2 : Except Flt (α × PS)} (h : VR T c r2) (r1 : Except Flt (α × PS)) : SR T c r1 r2 := by
  rcases r1 with e | ⟨a, s⟩
  · trivial
  · rcases r2 with e | ⟨a', s'⟩
    · exact h
    · exact .inr h
theorem SR.err {α : Type} {c : Bool} (e : Flt) (r2 : Except Flt (α × PS)) : SR T c (.error e) r2 := trivial
theorem SR.err2 {α : Type} {c : Bool} (r1 : Except Flt (α × PS)) {e : Flt} (h : e.2 ≠ 72) : SR T c r1 (.error e) := by
  rcases r1 with e' | ⟨a, s⟩
  · trivial
  · exact h
theorem VR.weak {α : Type} {r : Except Flt (α × PS)} (h : VR T true r) (c : Bool) : VR T c r := by
  rcases r with e | ⟨a, s⟩
  · exact h
  · rcases h with h | ⟨h, _⟩
    · exact .inl h
    · cases h
theorem SR.weak {α : Type} {r1 r2 : Except Flt (α × PS)} (h : SR T true r1 r2) (c : Bool) : SR T c r1 r2 := by
  rcases r1 with e | ⟨a, s⟩
  · trivial
  · rcases r2 with e | ⟨a', s'⟩
    · exact h
    · rcases h with h | h | ⟨h, _⟩
      · exact .inl h
      · exact .inr (.inl h)
      · cases h
theorem QX.weak {α : Type} {x y : Pr α} (h : QX T true x y) (c : Bool) : QX T c x y := ⟨h.e, fun o => (h.v o).weak c, fun t o => (h.s t o).weak c⟩
theorem QX.fuel {α : Type} {c : Bool} {x y : Pr α} (h : QX T c x y) : QX T c fuelOut y := ⟨h.e, h.v, fun t o => trivial⟩
theorem fuel_q {α : Type} {c : Bool} (x : Pr α) : QX T c x fuelOut := ⟨fun o b => by show (-1 : Int) ≠ 72; decide, fun o => by show (-1 : Int) ≠ 72; decide, fun t o => SR.err2 _ (by show (-1 : Int) ≠ 72; decide)⟩
theorem wrong_q {α : Type} {c : Bool} : QX T c (wrong : Pr α) wrong := ⟨fun o b => by show (70 : Int) ≠ 72; decide, fun o => by show (70 : Int) ≠ 72; decide, fun t o => trivial⟩
theorem ret_e {α : Type} (a : α) : EX T (ret a) := fun o b => rfl
theorem ret_s {α : Type} {c : Bool} (a : α) : SX T c (ret a) (ret a) := fun t o => .inl ⟨t, o, rfl, rfl, rfl⟩
theorem ret_q {α : Type} (a : α) : QX T false (ret a) (ret a) := ⟨ret_e a, fun o => .inr ⟨rfl, rfl, rfl⟩, ret_s a⟩
theorem bd_e {α β : Type} {x : Pr α} {f : α → Pr β} (h : EX T x) (g : ∀ a, EX T (f a)) : EX T (bd x f) := fun o b => by
  have h1 := h o b
  unfold bd
  rcases hx : x ⟨[T.z], o, b⟩ with e | ⟨a, t, o', b'⟩
  · rw [hx] at h1; exact h1
  · rw [hx] at h1
    obtain rfl : t = [T.z] := h1
    exact g a o' b'
theorem bd_v {α β : Type} {c : Bool} {x : Pr α} {f : α → Pr β} (h : VX T false x) (ge : ∀ a, EX T (f a)) (gv : ∀ a, VX T c (f a)) : VX T c (bd x f) := fun o => by
  have h1 := h o
  unfold bd
  rcases hx : x ⟨T.v, o, false⟩ with e | ⟨a, t, o', b'⟩
  · rw [hx] at h1; exact h1
  · rw [hx] at h1
    rcases h1 with h1 | ⟨_, h1, h2⟩
    · obtain rfl : t = [T.z] := h1
      have h3 := ge a o' b'
      show VR T c (f a ⟨[T.z], o', b'⟩)
      rcases hy : f a ⟨[T.z], o', b'⟩ with e | ⟨b, s⟩
      · rw [hy] at h3; exact h3
      · rw [hy] at h3; exact .inl h3
    · obtain rfl : t = T.v := h1
      obtain rfl : b' = false := h2
      exact gv a o'
theorem EX.vr {α : Type} {c : Bool} {x : Pr α} (h : EX T x) (o : Int) (b : Bool) : VR T c (x ⟨[T.z], o, b⟩) := by
  have h3 := h o b
  rcases hy : x ⟨[T.z], o, b⟩ with e | ⟨a, s⟩
  · rw [hy] at h3; exact h3
  · rw [hy] at h3; exact .inl h3
theorem bd_vt {α β : Type} {c : Bool} {x : Pr α} {f : α → Pr β} (h : VX T true x) (ge : ∀ a, EX T (f a)) : VX T c (bd x f) := fun o => by
  have h1 := h o
  unfold bd
  rcases hx : x ⟨T.v, o, false⟩ with e | ⟨a, t, o', b'⟩
  · rw [hx] at h1; exact h1
  · rw [hx] at h1
    rcases h1 with h1 | ⟨h1, _⟩
    · obtain rfl : t = [T.z] := h1
      exact (ge a).vr o' b'
    · cases h1
theorem bd_s {α β : Type} {c : Bool} {x1 x2 : Pr α} {f1 f2 : α → Pr β} (h : SX T false x1 x2) (ge : ∀ a, EX T (f2 a)) (gv : ∀ a, VX T c (f2 a)) (gs : ∀ a, SX T c (f1 a) (f2 a)) : SX T c (bd x1 f1) (bd x2 f2) := fun t o => by
  have h1 := h t o
  unfold bd
  rcases hx : x1 ⟨t ++ T.u, o, false⟩ with e | ⟨a, s1⟩
  · trivial
  rcases hy : x2 ⟨t ++ T.v, o, false⟩ with e | ⟨a', t2, o2, b2⟩
  · rw [hx, hy] at h1; exact SR.err2 _ h1
  rw [hx, hy] at h1
  rcases h1 with ⟨t', o', rfl, rfl, h1⟩ | h1 | ⟨_, h1, h2⟩
  · rw [h1]; exact gs _ t' o'
  · obtain rfl : t2 = [T.z] := h1
    exact ((ge a').vr o2 b2).sr _
  · obtain rfl : t2 = T.v := h1
    obtain rfl : b2 = false := h2
    exact (gv a' o2).sr _
theorem bd_st {α β : Type} {c : Bool} {x1 x2 : Pr α} {f1 f2 : α → Pr β} (h : SX T true x1 x2) (ge : ∀ a, EX T (f2 a)) (gs : ∀ a, SX T c (f1 a) (f2 a)) : SX T c (bd x1 f1) (bd x2 f2) := fun t o => by
  have h1 := h t o
  unfold bd
  rcases hx : x1 ⟨t ++ T.u, o, false⟩ with e | ⟨a, s1⟩
  · trivial
  rcases hy : x2 ⟨t ++ T.v, o, false⟩ with e | ⟨a', t2, o2, b2⟩
  · rw [hx, hy] at h1; exact SR.err2 _ h1
  rw [hx, hy] at h1
  rcases h1 with ⟨t', o', rfl, rfl, h1⟩ | h1 | ⟨h1, _⟩
  · rw [h1]; exact gs _ t' o'
  · obtain rfl : t2 = [T.z] := h1
    exact ((ge a').vr o2 b2).sr _
  · cases h1
theorem bd_q {α β : Type} {c : Bool} {x1 x2 : Pr α} {f1 f2 : α → Pr β} (h : QX T false x1 x2) (g : ∀ a, QX T c (f1 a) (f2 a)) : QX T c (bd x1 f1) (bd x2 f2) :=
  ⟨bd_e h.e fun a => (g a).e, bd_v h.v (fun a => (g a).e) fun a => (g a).v, bd_s h.s (fun a => (g a).e) (fun a => (g a).v) fun a => (g a).s⟩
/- Behind what ends at a token of its own. -/
theorem bd_qc {α β : Type} {c : Bool} {x1 x2 : Pr α} {f1 f2 : α → Pr β} (h : QX T true x1 x2) (ge : ∀ a, EX T (f2 a)) (gs : ∀ a, SX T c (f1 a) (f2 a)) : QX T c (bd x1 f1) (bd x2 f2) :=
  ⟨bd_e h.e ge, bd_vt h.v ge, bd_st h.s ge gs⟩
theorem bd_qr {α β : Type} {c : Bool} {x1 x2 : Pr α} {f : α → β} (h : QX T c x1 x2) : QX T c (bd x1 fun a => ret (f a)) (bd x2 fun a => ret (f a)) := by
  cases c with
  | false => exact bd_q h fun a => ret_q _
  | true => exact bd_qc h (fun a => ret_e _) fun a => ret_s _
theorem if_q {α : Type} {c : Bool} {g : PTok → Prop} [DecidablePred g] {x1 x2 y1 y2 : Pr α} (hx : QX T c x1 x2) (hy : QX T c y1 y2) : QX T c (fun s => if g (nxt s) then x1 s else y1 s) (fun s => if g (nxt s) then x2 s else y2 s) := by
  have hv : VX T c (fun s => if g (nxt s) then x2 s else y2 s) := fun o => by
    show VR T c (if _ then _ else _)
    split
    · exact hx.v o
    · exact hy.v o
  refine ⟨fun o b => ?_, hv, fun t o => ?_⟩
  · have e1 := hx.e o b
    have e2 := hy.e o b
    show (match (if g (nxt ⟨[T.z], o, b⟩) then x2 _ else y2 _) with | .error e => e.2 ≠ 72 | .ok (_, s) => s.toks = [T.z])
    split
    · rename_i h; split at h <;> (rename_i q; first | (rw [h] at e1; exact e1) | (rw [h] at e2; exact e2))
    · rename_i h; split at h <;> (rename_i q; first | (rw [h] at e1; exact e1) | (rw [h] at e2; exact e2))
  · cases t with
    | nil => exact (hv o).sr _
    | cons a t =>
      by_cases h : g a
      · have h1 : g (nxt ⟨a :: t ++ T.u, o, false⟩) := h
        have h2 : g (nxt ⟨a :: t ++ T.v, o, false⟩) := h
        rw [if_pos h1, if_pos h2]; exact hx.s (a :: t) o
      · have h1 : ¬ g (nxt ⟨a :: t ++ T.u, o, false⟩) := h
        have h2 : ¬ g (nxt ⟨a :: t ++ T.v, o, false⟩) := h
        rw [if_neg h1, if_neg h2]; exact hy.s (a :: t) o
theorem tk_q {α : Type} {c : Bool} {g : PTok → Prop} [DecidablePred g] {f1 f2 : PTok → Pr α} {y1 y2 : Pr α} (hg : ∀ p, p.kind = 0 → ¬ g p) (he : ∀ a, EX T (f2 a)) (hs : ∀ a, SX T c (f1 a) (f2 a)) (hy : QX T c y1 y2) : QX T c (fun s => if g (nxt s) then bd take f1 s else y1 s) (fun s => if g (nxt s) then bd take f2 s else y2 s) := by
  have hz : ¬ g T.z := hg _ T.hz
  have hv : VX T c (fun s => if g (nxt s) then bd take f2 s else y2 s) := fun o => by
    have v2 := hy.v o
    rcases T.hv with h | ⟨a, h⟩
    · show VR T c (if g (nxt ⟨T.v, o, false⟩) then _ else _)
      rw [if_neg (by rw [h]; exact hz)]; exact v2
    · show VR T c (if g (nxt ⟨T.v, o, false⟩) then _ else _)
      split
      · show VR T c (bd take f2 ⟨T.v, o, false⟩)
        rw [h]
        unfold bd take
        by_cases hl : isLong a = true
        · rw [if_pos (show isLong (nxt ⟨[a, T.z], o, false⟩) = true from hl)]; show (74 : Int) ≠ 72; decide
        · rw [if_neg (show ¬ isLong (nxt ⟨[a, T.z], o, false⟩) = true from hl)]; exact (he a).vr o false
      · exact v2
  refine ⟨fun o b => ?_, hv, fun t o => ?_⟩
  · have e2 := hy.e o b
    show (match (if g (nxt ⟨[T.z], o, b⟩) then _ else y2 _) with | .error e => e.2 ≠ 72 | .ok (_, s) => s.toks = [T.z])
    rw [if_neg (show ¬ g (nxt ⟨[T.z], o, b⟩) from hz)]; exact e2
  · cases t with
    | nil => exact (hv o).sr _
    | cons a t =>
      by_cases h : g a
      · have h1 : g (nxt ⟨a :: t ++ T.u, o, false⟩) := h
        have h2 : g (nxt ⟨a :: t ++ T.v, o, false⟩) := h
        rw [if_pos h1, if_pos h2]
        unfold bd take
        by_cases hl : isLong a = true
        · rw [if_pos (show isLong (nxt ⟨a :: t ++ T.u, o, false⟩) = true from hl)]; trivial
        · rw [if_neg (show ¬ isLong (nxt ⟨a :: t ++ T.u, o, false⟩) = true from hl), if_neg (show ¬ isLong (nxt ⟨a :: t ++ T.v, o, false⟩) = true from hl)]; exact hs a t o
      · have h1 : ¬ g (nxt ⟨a :: t ++ T.u, o, false⟩) := h
        have h2 : ¬ g (nxt ⟨a :: t ++ T.v, o, false⟩) := h
        rw [if_neg h1, if_neg h2]; exact hy.s (a :: t) o
end Go.Proofs.YtcnohgifihbkdaaGreatDoor

