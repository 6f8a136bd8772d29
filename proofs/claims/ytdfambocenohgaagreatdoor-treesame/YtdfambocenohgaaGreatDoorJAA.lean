/- The document's words as functions on bytes: tokens, runs, texts, signs. -/
import Derived.Lib.TrimUEq
import Derived.Laws.RangeAny
import Derived.Test.YtdfambocenohgaaGreatDoorRows
import Derived.WalkKit
import Derived.WalkSpells
import Derived.WalkLawsBesides
import Derived.Deep.OwnRows
import Derived.Maps.AppendAt
import Derived.Deep.AppendLies
import Derived.Lib.AppendStr
import Derived.Deep.LoopGhost
import Derived.Below
import Derived.RangeFuncNested
import Derived.RangeFuncBound
import Derived.RangeFuncCalls
import Derived.RangeFuncLeaves
import Derived.BigQuiet
import Derived.Deep.RegionHeld3
import Derived.LoopIn
import Derived.LoopNIn
import Derived.OwnWalkIn
import Derived.Shelf.Abstract
import Derived.Shelf.RegionOpen
import Derived.TacticsInMore
import Derived.BigRegionIn
namespace Go.Proofs.YtdfambocenohgaaGreatDoor
set_option maxRecDepth 100000
set_option linter.unusedVariables false
set_option linter.unusedSimpArgs false

abbrev Bs := List UInt8
structure LTok where
  kind : Nat
  text : Bs
  pos : Nat
def isBl (c : UInt8) : Bool := c == 32 || c == 9 || c == 10 || c == 13
def isLt (c : UInt8) : Bool := (decide (97 ≤ c.toNat) && decide (c.toNat ≤ 122)) || (decide (65 ≤ c.toNat) && decide (c.toNat ≤ 90)) || decide (c.toNat = 95)
def isDg (c : UInt8) : Bool := decide (48 ≤ c.toNat) && decide (c.toNat ≤ 57)
def isPt (c : UInt8) : Bool := isLt c || isDg c
def runF (p : UInt8 → Bool) : Bs → Nat
  | [] => 0
  | c :: t => if p c then runF p t + 1 else 0
def textF : Bool → Bs → Option Nat
  | e, [] => if e then some 0 else none
  | e, c :: t => if c = 34 then (textF (!e) t).map (· + 1) else if e then some 0 else (textF false t).map (· + 1)
def sg2 (a b : UInt8) : Bool := (b == 61 && (a == 61 || a == 33 || a == 60 || a == 62)) || (b == 37 && (a == 43 || a == 45 || a == 42)) || (a == 45 && b == 62)
def sg1s : Bs := [123, 125, 40, 41, 91, 93, 44, 59, 58, 46, 61, 60, 62, 43, 45, 42, 47, 37, 38]
def sg1 (a : UInt8) : Bool := sg1s.contains a
def signF : Bs → Nat
  | [] => 0
  | [a] => if sg1 a then 1 else 0
  | a :: b :: _ => if sg2 a b then 2 else if sg1 a then 1 else 0
def wordsL : List Bs := [[97, 102, 116, 101, 114], [97, 110, 100], [97, 115, 107], [98, 111, 111, 108], [98, 114, 101, 97, 107], [99, 111, 110, 116, 105, 110, 117, 101], [100, 101, 108], [100, 111], [101, 97, 99, 104], [101, 108, 115, 101], [101, 109, 105, 116], [102, 97, 108, 115, 101], [102, 110], [104, 97, 115], [105, 102], [105, 110], [105, 110, 116], [108, 101, 110], [108, 101, 116], [109, 97, 112], [110, 111, 116], [111, 110], [111, 114], [114, 101, 99, 111, 114, 100], [114, 101, 116, 117, 114, 110], [115, 116, 114], [116, 101, 120, 116], [116, 114, 117, 101], [119, 104, 105, 108, 101]]
def isWd (l : Bs) : Bool := wordsL.contains l
/- The kind and the size of the first token, or the error. -/
def firstF : Bs → Nat × Nat × Nat
  | [] => (0, 0, 51)
  | c :: t =>
    if isLt c then (if isWd ((c :: t).take (runF isPt (c :: t))) then 2 else 1, runF isPt (c :: t), 0)
    else if isDg c then (3, runF isDg (c :: t), 0)
    else if c = 34 then (match textF false t with | some n => (4, n + 1, 0) | none => (0, 0, 52))
    else if signF (c :: t) = 0 then (0, 0, 51) else (5, signF (c :: t), 0)
def unq : Bs → Bs
  | [] => []
  | [c] => [c]
  | c :: d :: t => if c = 34 ∧ d = 34 then 34 :: unq t else c :: unq (d :: t)
def tokText (kind : Nat) (p : Bs) : Bs :=
  if kind = 3 then (p.take (p.length - 1)).dropWhile (· == 48) ++ p.drop (p.length - 1)
  else if kind = 4 then unq ((p.take (p.length - 1)).drop 1) else p
def noteF (l : Bs) : Nat := runF (fun c => !(c == 10)) l
/- skip: how many bytes belong to what was told already. -/
def lexG : Nat → Nat → Bs → Except (Nat × Nat) (List LTok)
  | _, at', [] => .ok [⟨0, [], at'⟩]
  | skip + 1, at', _ :: t => lexG skip (at' + 1) t
  | 0, at', c :: t =>
    if isBl c then lexG 0 (at' + 1) t
    else if c = 35 then lexG (noteF (c :: t) - 1) (at' + 1) t
    else if (firstF (c :: t)).2.2 ≠ 0 then .error (at', (firstF (c :: t)).2.2)
    else match lexG ((firstF (c :: t)).2.1 - 1) (at' + 1) t with
      | .error e => .error e
      | .ok ts => .ok (⟨(firstF (c :: t)).1, tokText (firstF (c :: t)).1 ((c :: t).take (firstF (c :: t)).2.1), at'⟩ :: ts)
def lexT (l : Bs) : Except (Nat × Nat) (List LTok) := if 4096 < l.length then .error (0, 50) else lexG 0 0 l

/- A rune that stands at a place. -/
structure Rune (l : Bs) (pos r wd : Nat) : Prop where
  one : 1 ≤ wd
  fit : pos + wd ≤ l.length
  low : ∀ c, l[pos]? = some c → c.toNat < 128 → r = c.toNat ∧ wd = 1
  high : ∀ c, l[pos]? = some c → 128 ≤ c.toNat → 128 ≤ r
  all : ∀ c, l[pos]? = some c → 128 ≤ c.toNat → ∀ k c', k < wd → l[pos + k]? = some c' → 128 ≤ c'.toNat
  le : r ≤ 2147483647

theorem rune_at (s : ByteArray) (pos : Nat) (h : pos < s.size) : Rune s.data.toList pos (Utf8.decode s pos).1 (Utf8.decode s pos).2 := by
  rw [Lib.decode_N]
  have hl : pos < s.data.toList.length := by rw [← Lib.size_eq]; exact h
  have hle := decode_le s pos
  rw [Lib.decode_N] at hle
  generalize s.data.toList = l at *
  have hb : ∀ k, (l.getD k 0).toNat < 256 := fun k => (l.getD k 0).toNat_lt
  have h0 := hb pos; have h1 := hb (pos + 1); have h2 := hb (pos + 2); have h3 := hb (pos + 3)
  have g : ∀ k c, l[k]? = some c → l.getD k 0 = c := fun k c e => by rw [List.getD_eq_getElem?_getD, e]; rfl
  have e0 : l[pos]? = some (l.getD pos 0) := by rw [List.getD_eq_getElem?_getD, List.getElem?_eq_getElem hl]; rfl
  by_cases ha : (l.getD pos 0).toNat < 128
  · rw [Lib.decodeN_ascii _ _ _ _ _ ha] at hle ⊢
    exact ⟨by simp, by simp; omega, fun c e _ => by rw [g _ _ e]; exact ⟨rfl, rfl⟩, fun c e h => by rw [g _ _ e] at ha; omega, fun c e h => by rw [g _ _ e] at ha; omega, hle⟩
  · have key : 1 ≤ (Lib.decodeN (l.length - pos) (l.getD pos 0).toNat (l.getD (pos + 1) 0).toNat (l.getD (pos + 2) 0).toNat (l.getD (pos + 3) 0).toNat).2 ∧
        (Lib.decodeN (l.length - pos) (l.getD pos 0).toNat (l.getD (pos + 1) 0).toNat (l.getD (pos + 2) 0).toNat (l.getD (pos + 3) 0).toNat).2 ≤ l.length - pos ∧
        128 ≤ (Lib.decodeN (l.length - pos) (l.getD pos 0).toNat (l.getD (pos + 1) 0).toNat (l.getD (pos + 2) 0).toNat (l.getD (pos + 3) 0).toNat).1 ∧
        ∀ k, k < (Lib.decodeN (l.length - pos) (l.getD pos 0).toNat (l.getD (pos + 1) 0).toNat (l.getD (pos + 2) 0).toNat (l.getD (pos + 3) 0).toNat).2 → 128 ≤ (l.getD (pos + k) 0).toNat := by
      generalize hb0 : (l.getD pos 0).toNat = b0 at *
      generalize hb1 : (l.getD (pos + 1) 0).toNat = b1 at *
      generalize hb2 : (l.getD (pos + 2) 0).toNat = b2 at *
      generalize hb3 : (l.getD (pos + 3) 0).toNat = b3 at *
      have hk : ∀ wd, wd ≤ 4 → (1 ≤ wd → 128 ≤ b0) → (2 ≤ wd → 128 ≤ b1) → (3 ≤ wd → 128 ≤ b2) → (4 ≤ wd → 128 ≤ b3) → ∀ k, k < wd → 128 ≤ (l.getD (pos + k) 0).toNat := by
        intro wd hw k0 k1 k2 k3 k hk
        match k, hk with
        | 0, hk => rw [Nat.add_zero, hb0]; exact k0 (by omega)
        | 1, hk => rw [hb1]; exact k1 (by omega)
        | 2, hk => rw [hb2]; exact k2 (by omega)
        | 3, hk => rw [hb3]; exact k3 (by omega)
        | n + 4, hk => omega
      simp only [Lib.decodeN]
      repeat' split
      all_goals simp_all [Utf8.runeError]
      all_goals first
        | omega
        | (refine ⟨by omega, by omega, hk _ (by omega) ?_ ?_ ?_⟩ <;> intro _ <;> omega)
        | (refine ⟨by omega, hk _ (by omega) ?_ ?_ ?_⟩ <;> intro _ <;> omega)
        | (refine hk _ (by omega) ?_ ?_ ?_ <;> intro _ <;> omega)
        | skip
    exact ⟨key.1, by omega, fun c e h => by rw [← g _ _ e] at h; exact absurd h ha, fun c e h => key.2.2.1, fun c e h k c' hk e' => by rw [← g _ _ e']; exact key.2.2.2 k hk, hle⟩
end Go.Proofs.YtdfambocenohgaaGreatDoor

namespace Go.Proofs.YtdfambocenohgaaGreatDoor
set_option maxRecDepth 100000
open Go.RowKit Go.Deep
set_option linter.unusedVariables false
set_option linter.unusedSimpArgs false

theorem hid {p : Prop} (h : p) : Hid p := h
theorem ret_bool {a b : Bool} (h : a = true ↔ b = true) : Ending.returned (.bool a) = .returned (.bool b) := congrArg _ (congrArg _ (Bool.eq_iff_iff.2 h))
def blI (r : Int) : Bool := decide (r = 32) || decide (r = 9) || decide (r = 10) || decide (r = 13)
def ltI (r : Int) : Bool := (decide (97 ≤ r) && decide (r ≤ 122)) || (decide (65 ≤ r) && decide (r ≤ 90)) || decide (r = 95)
def dgI (r : Int) : Bool := decide (48 ≤ r) && decide (r ≤ 57)
def ptI (r : Int) : Bool := ltI r || dgI r

theorem isBlank_any (r : Int) (w : World) : Calls Tryz.prog 148 #[.int .i32 r] w fun e w' => e = .returned (.bool (blI r)) ∧ w' = w := by
  go_enter Tryz.func148, Tryz.ntmps148
  go_wp2
  all_goals (go_ret; refine ⟨ret_bool ?_, rfl⟩; simp [blI]; try omega)
theorem isLetter_any (r : Int) (w : World) : Calls Tryz.prog 162 #[.int .i32 r] w fun e w' => e = .returned (.bool (ltI r)) ∧ w' = w := by
  go_enter Tryz.func162, Tryz.ntmps162
  go_wp2
  all_goals (go_ret; refine ⟨ret_bool ?_, rfl⟩; simp [ltI]; try omega)
theorem isDigit_any (r : Int) (w : World) : Calls Tryz.prog 166 #[.int .i32 r] w fun e w' => e = .returned (.bool (dgI r)) ∧ w' = w := by
  go_enter Tryz.func166, Tryz.ntmps166
  go_wp2
  all_goals (go_ret; refine ⟨ret_bool ?_, rfl⟩; simp [dgI]; try omega)
theorem isPart_any (r : Int) (w : World) : Calls Tryz.prog 163 #[.int .i32 r] w fun e w' => e = .returned (.bool (ptI r)) ∧ w' = w := by
  have h1 := isLetter_any r
  have h2 := isDigit_any r
  cases e1 : ltI r
  · simp only [e1] at h1
    go_enter Tryz.func163, Tryz.ntmps163
    go_wp2_with (first | (go_at_call 162; refine (h1 _).mono ?_; rintro e w ⟨rfl, rfl⟩) | (go_at_call 166; refine (h2 _).mono ?_; rintro e w ⟨rfl, rfl⟩))
    all_goals (go_ret; exact ⟨by simp [ptI, e1], rfl⟩)
  · simp only [e1] at h1
    go_enter Tryz.func163, Tryz.ntmps163
    go_wp2_with (first | (go_at_call 162; refine (h1 _).mono ?_; rintro e w ⟨rfl, rfl⟩) | (go_at_call 166; refine (h2 _).mono ?_; rintro e w ⟨rfl, rfl⟩))
    all_goals (go_ret; exact ⟨by simp [ptI, e1], rfl⟩)
theorem notNl_any (r : Int) (w : World) : Calls Tryz.prog 161 #[.int .i32 r] w fun e w' => e = .returned (.bool (!decide (r = 10))) ∧ w' = w := by
  go_enter Tryz.func161, Tryz.ntmps161
  go_wp2
  all_goals (go_ret; refine ⟨ret_bool ?_, rfl⟩; simp; try omega)
end Go.Proofs.YtdfambocenohgaaGreatDoor

namespace Go.Proofs.YtdfambocenohgaaGreatDoor
open Go.RowKit Go.Deep
set_option linter.unusedVariables false
set_option linter.unusedSimpArgs false

theorem cellT {w : World} {b : Nat} {c : Array Value} {e : TypeId} {f : Nat × Nat} (h : w.heap[b]? = some (.cells c e f)) (i : Nat) : w.cell? ⟨b, i, none⟩ = c[i]? := by
  simp [World.cell?, h]
theorem freeT {w : World} {b : Nat} {c : Array Value} {e : TypeId} (h : w.heap[b]? = some (.cells c e (0, 0))) (i : Nat) : w.frozen? ⟨b, i, none⟩ = false := by
  simp [World.frozen?, h]
theorem belowCell {w w' : World} {B b o : Nat} {v : Value} (h : w.cell? ⟨b, o, none⟩ = some v) (hB : w.heap.size ≤ B) (k : Below B w w') : w'.cell? ⟨b, o, none⟩ = some v := by
  have hb : b < w.heap.size := World.block_lt_of_cell? w _ h
  exact (k.cell (p := ⟨b, o, none⟩) (by show b < B; omega)).trans h

/- A row of texts that a slice reads. -/
def SLs (w : World) (a : Option Addr) (l : List ByteArray) : Prop := ∀ (j : Nat) (s : ByteArray), l[j]? = some s → ∃ b off, a = some ⟨b, off, none⟩ ∧ w.cell? ⟨b, off + j, none⟩ = some (.string s)
theorem SLs.below {w w' : World} {a : Option Addr} {l : List ByteArray} {B : Nat} (h : SLs w a l) (hB : w.heap.size ≤ B) (k : Below B w w') : SLs w' a l := fun j s e => by
  obtain ⟨b, off, ea, hc⟩ := h j s e
  exact ⟨b, off, ea, belowCell hc hB k⟩
/- A row of params: two texts each. -/
def PLs (w : World) (a : Option Addr) (l : List (ByteArray × ByteArray)) : Prop := ∀ (j : Nat) (s : ByteArray × ByteArray), l[j]? = some s → ∃ b off, a = some ⟨b, off, none⟩ ∧ w.cell? ⟨b, off + j * 2, none⟩ = some (.string s.1) ∧ w.cell? ⟨b, off + j * 2 + 1, none⟩ = some (.string s.2)
theorem PLs.below {w w' : World} {a : Option Addr} {l : List (ByteArray × ByteArray)} {B : Nat} (h : PLs w a l) (hB : w.heap.size ≤ B) (k : Below B w w') : PLs w' a l := fun j s e => by
  obtain ⟨b, off, ea, h1, h2⟩ := h j s e
  exact ⟨b, off, ea, belowCell h1 hB k, belowCell h2 hB k⟩

/- An expression's cells, and where they lie. -/
structure EH where
  b : Nat
  o : Nat
  kind : Int
  op : Int
  int : Int
  text : ByteArray
  name : ByteArray
  na : Option Addr
  nn : Nat
  nc : Nat
  aa : Option Addr
  an : Nat
  ac : Nat
  pos : Int
  names : List ByteArray
structure EHr (w : World) (h : EH) : Prop where
  c0 : w.cell? ⟨h.b, h.o, none⟩ = some (.int .i64 h.kind)
  c1 : w.cell? ⟨h.b, h.o + 1, none⟩ = some (.int .i64 h.op)
  c2 : w.cell? ⟨h.b, h.o + 2, none⟩ = some (.int .i64 h.int)
  c3 : w.cell? ⟨h.b, h.o + 3, none⟩ = some (.string h.text)
  c4 : w.cell? ⟨h.b, h.o + 4, none⟩ = some (.string h.name)
  c5 : w.cell? ⟨h.b, h.o + 5, none⟩ = some (.slice h.na h.nn h.nc)
  c6 : w.cell? ⟨h.b, h.o + 6, none⟩ = some (.slice h.aa h.an h.ac)
  c7 : w.cell? ⟨h.b, h.o + 7, none⟩ = some (.int .i64 h.pos)
  i0 : -9223372036854775808 ≤ h.int
  i1 : h.int ≤ 9223372036854775807
  t : h.text.size ≤ 9223372036854775807
  n : h.name.size ≤ 9223372036854775807
  nl : h.nn = h.names.length
  nb : h.nn ≤ 1000000
  ns : ∀ s ∈ h.names, s.size ≤ 9223372036854775807
  nr : SLs w h.na h.names
  ab : h.an ≤ 1000000
theorem EHr.below {w w' : World} {h : EH} {B : Nat} (d : EHr w h) (hB : w.heap.size ≤ B) (k : Below B w w') : EHr w' h :=
  ⟨belowCell d.c0 hB k, belowCell d.c1 hB k, belowCell d.c2 hB k, belowCell d.c3 hB k, belowCell d.c4 hB k, belowCell d.c5 hB k, belowCell d.c6 hB k, belowCell d.c7 hB k, d.i0, d.i1, d.t, d.n, d.nl, d.nb, d.ns, d.nr.below hB k, d.ab⟩
/- A statement's. -/
structure SH where
  b : Nat
  o : Nat
  kind : Int
  name : ByteArray
  label : ByteArray
  var : ByteArray
  aa : Option Addr
  an : Nat
  ac : Nat
  ba : Option Addr
  bn : Nat
  bc : Nat
  ea : Option Addr
  en : Nat
  ec : Nat
  pos : Int
structure SHr (w : World) (h : SH) : Prop where
  c0 : w.cell? ⟨h.b, h.o, none⟩ = some (.int .i64 h.kind)
  c1 : w.cell? ⟨h.b, h.o + 1, none⟩ = some (.string h.name)
  c2 : w.cell? ⟨h.b, h.o + 2, none⟩ = some (.string h.label)
  c3 : w.cell? ⟨h.b, h.o + 3, none⟩ = some (.string h.var)
  c4 : w.cell? ⟨h.b, h.o + 4, none⟩ = some (.slice h.aa h.an h.ac)
  c5 : w.cell? ⟨h.b, h.o + 5, none⟩ = some (.slice h.ba h.bn h.bc)
  c6 : w.cell? ⟨h.b, h.o + 6, none⟩ = some (.slice h.ea h.en h.ec)
  c7 : w.cell? ⟨h.b, h.o + 7, none⟩ = some (.int .i64 h.pos)
  n : h.name.size ≤ 9223372036854775807
  l : h.label.size ≤ 9223372036854775807
  v : h.var.size ≤ 9223372036854775807
  ab : h.an ≤ 1000000
  bb : h.bn ≤ 1000000
  eb : h.en ≤ 1000000
theorem SHr.below {w w' : World} {h : SH} {B : Nat} (d : SHr w h) (hB : w.heap.size ≤ B) (k : Below B w w') : SHr w' h :=
  ⟨belowCell d.c0 hB k, belowCell d.c1 hB k, belowCell d.c2 hB k, belowCell d.c3 hB k, belowCell d.c4 hB k, belowCell d.c5 hB k, belowCell d.c6 hB k, belowCell d.c7 hB k, d.n, d.l, d.v, d.ab, d.bb, d.eb⟩
/- A declaration's, with its sort. -/
structure DH where
  sort : ByteArray
  b : Nat
  o : Nat
  name : ByteArray
  pa : Option Addr
  pn : Nat
  pc : Nat
  key : ByteArray
  value : ByteArray
  result : ByteArray
  ba : Option Addr
  bn : Nat
  bc : Nat
  pos : Int
  params : List (ByteArray × ByteArray)
structure DHr (w : World) (h : DH) : Prop where
  c0 : w.cell? ⟨h.b, h.o, none⟩ = some (.string h.name)
  c1 : w.cell? ⟨h.b, h.o + 1, none⟩ = some (.slice h.pa h.pn h.pc)
  c2 : w.cell? ⟨h.b, h.o + 2, none⟩ = some (.string h.key)
  c3 : w.cell? ⟨h.b, h.o + 3, none⟩ = some (.string h.value)
  c4 : w.cell? ⟨h.b, h.o + 4, none⟩ = some (.string h.result)
  c5 : w.cell? ⟨h.b, h.o + 5, none⟩ = some (.slice h.ba h.bn h.bc)
  c6 : w.cell? ⟨h.b, h.o + 6, none⟩ = some (.int .i64 h.pos)
  n : h.name.size ≤ 9223372036854775807
  k : h.key.size ≤ 9223372036854775807
  v : h.value.size ≤ 9223372036854775807
  r : h.result.size ≤ 9223372036854775807
  pl : h.pn = h.params.length
  pb : h.pn ≤ 1000000
  ps : ∀ s ∈ h.params, s.1.size ≤ 9223372036854775807 ∧ s.2.size ≤ 9223372036854775807
  pr : PLs w h.pa h.params
  bb : h.bn ≤ 1000000
theorem DHr.below {w w' : World} {h : DH} {B : Nat} (d : DHr w h) (hB : w.heap.size ≤ B) (k : Below B w w') : DHr w' h :=
  ⟨belowCell d.c0 hB k, belowCell d.c1 hB k, belowCell d.c2 hB k, belowCell d.c3 hB k, belowCell d.c4 hB k, belowCell d.c5 hB k, belowCell d.c6 hB k, d.n, d.k, d.v, d.r, d.pl, d.pb, d.ps, d.pr.below hB k, d.bb⟩
/- A tree's. -/
structure TH where
  b : Nat
  o : Nat
  ra : Option Addr
  rn : Nat
  rc : Nat
  ma : Option Addr
  mn : Nat
  mc : Nat
  fa : Option Addr
  fn : Nat
  fc : Nat
  ea : Option Addr
  en : Nat
  ec : Nat
structure THr (w : World) (h : TH) : Prop where
  c0 : w.cell? ⟨h.b, h.o, none⟩ = some (.slice h.ra h.rn h.rc)
  c1 : w.cell? ⟨h.b, h.o + 1, none⟩ = some (.slice h.ma h.mn h.mc)
  c2 : w.cell? ⟨h.b, h.o + 2, none⟩ = some (.slice h.fa h.fn h.fc)
  c3 : w.cell? ⟨h.b, h.o + 3, none⟩ = some (.slice h.ea h.en h.ec)
  rb : h.rn ≤ 1000000
  mb : h.mn ≤ 1000000
  fb : h.fn ≤ 1000000
  eb : h.en ≤ 1000000
theorem THr.below {w w' : World} {h : TH} {B : Nat} (d : THr w h) (hB : w.heap.size ≤ B) (k : Below B w w') : THr w' h :=
  ⟨belowCell d.c0 hB k, belowCell d.c1 hB k, belowCell d.c2 hB k, belowCell d.c3 hB k, d.rb, d.mb, d.fb, d.eb⟩

/- Where the elements of a row lie: each of z cells. -/
def LiesAt {α : Type} (z : Nat) (a : Option Addr) (at' : α → Nat × Nat) (ts : List α) : Prop := ∀ (j : Nat) (t : α), ts[j]? = some t → ∃ b off, a = some ⟨b, off, none⟩ ∧ at' t = (b, off + j * z)
def ET : Nat → Type
  | 0 => Empty
  | k + 1 => EH × List (ET k)
def eH : (k : Nat) → ET k → EH
  | 0, t => Empty.elim t
  | _ + 1, t => t.1
def eAt (k : Nat) (t : ET k) : Nat × Nat := ((eH k t).b, (eH k t).o)
def ERd : (k : Nat) → World → ET k → Prop
  | 0, _, _ => False
  | k + 1, w, t => EHr w t.1 ∧ t.1.an = t.2.length ∧ LiesAt 8 t.1.aa (eAt k) t.2 ∧ ∀ u ∈ t.2, ERd k w u
theorem ERd.below : ∀ (k : Nat) {w w' : World} {t : ET k} {B : Nat}, ERd k w t → w.heap.size ≤ B → Below B w w' → ERd k w' t
  | 0, _, _, _, _, d, _, _ => d.elim
  | k + 1, _, _, _, _, d, hB, h => ⟨d.1.below hB h, d.2.1, d.2.2.1, fun u hu => ERd.below k (d.2.2.2 u hu) hB h⟩
theorem ERd.h : ∀ {k : Nat} {w : World} {t : ET k}, ERd k w t → EHr w (eH k t)
  | 0, _, _, d => d.elim
  | _ + 1, _, _, d => d.1
def ST : Nat → Type
  | 0 => Empty
  | k + 1 => SH × List (ET k) × List (ST k) × List (ST k)
def sH : (k : Nat) → ST k → SH
  | 0, t => Empty.elim t
  | _ + 1, t => t.1
def sAt (k : Nat) (t : ST k) : Nat × Nat := ((sH k t).b, (sH k t).o)
def SRds : (k : Nat) → World → ST k → Prop
  | 0, _, _ => False
  | k + 1, w, t => SHr w t.1 ∧ (t.1.an = t.2.1.length ∧ t.1.bn = t.2.2.1.length ∧ t.1.en = t.2.2.2.length) ∧ (LiesAt 8 t.1.aa (eAt k) t.2.1 ∧ LiesAt 8 t.1.ba (sAt k) t.2.2.1 ∧ LiesAt 8 t.1.ea (sAt k) t.2.2.2) ∧ (∀ u ∈ t.2.1, ERd k w u) ∧ (∀ u ∈ t.2.2.1, SRds k w u) ∧ ∀ u ∈ t.2.2.2, SRds k w u
theorem SRds.below : ∀ (k : Nat) {w w' : World} {t : ST k} {B : Nat}, SRds k w t → w.heap.size ≤ B → Below B w w' → SRds k w' t
  | 0, _, _, _, _, d, _, _ => d.elim
  | k + 1, _, _, _, _, d, hB, h => ⟨d.1.below hB h, d.2.1, d.2.2.1, fun u hu => ERd.below k (d.2.2.2.1 u hu) hB h, fun u hu => SRds.below k (d.2.2.2.2.1 u hu) hB h, fun u hu => SRds.below k (d.2.2.2.2.2 u hu) hB h⟩
theorem SRds.h : ∀ {k : Nat} {w : World} {t : ST k}, SRds k w t → SHr w (sH k t)
  | 0, _, _, d => d.elim
  | _ + 1, _, _, d => d.1
def DT (k : Nat) : Type := DH × List (ST k)
def dAt {k : Nat} (t : DT k) : Nat × Nat := (t.1.b, t.1.o)
structure DRds (k : Nat) (w : World) (t : DT k) : Prop where
  h : DHr w t.1
  n : t.1.bn = t.2.length
  l : LiesAt 8 t.1.ba (sAt k) t.2
  e : ∀ u ∈ t.2, SRds k w u
theorem DRds.below {k : Nat} {w w' : World} {t : DT k} {B : Nat} (d : DRds k w t) (hB : w.heap.size ≤ B) (h : Below B w w') : DRds k w' t := ⟨d.h.below hB h, d.n, d.l, fun u hu => SRds.below k (d.e u hu) hB h⟩
def wRec : ByteArray := ⟨#[114, 101, 99, 111, 114, 100]⟩
def wMap : ByteArray := ⟨#[109, 97, 112]⟩
def wFn : ByteArray := ⟨#[102, 110]⟩
def wOn : ByteArray := ⟨#[111, 110]⟩
/- A row of declarations of one sort. -/
structure DLs (k : Nat) (w : World) (s : ByteArray) (a : Option Addr) (n : Nat) (ts : List (DT k)) : Prop where
  n : n = ts.length
  l : LiesAt 7 a dAt ts
  e : ∀ u ∈ ts, DRds k w u
  s : ∀ u ∈ ts, u.1.sort = s
theorem DLs.below {k : Nat} {w w' : World} {s : ByteArray} {a : Option Addr} {n : Nat} {ts : List (DT k)} {B : Nat} (d : DLs k w s a n ts) (hB : w.heap.size ≤ B) (h : Below B w w') : DLs k w' s a n ts := ⟨d.n, d.l, fun u hu => (d.e u hu).below hB h, d.s⟩
structure TT (k : Nat) where
  h : TH
  rs : List (DT k)
  ms : List (DT k)
  fs : List (DT k)
  es : List (DT k)
structure TRds (k : Nat) (w : World) (t : TT k) : Prop where
  h : THr w t.h
  rs : DLs k w wRec t.h.ra t.h.rn t.rs
  ms : DLs k w wMap t.h.ma t.h.mn t.ms
  fs : DLs k w wFn t.h.fa t.h.fn t.fs
  es : DLs k w wOn t.h.ea t.h.en t.es
theorem TRds.below {k : Nat} {w w' : World} {t : TT k} {B : Nat} (d : TRds k w t) (hB : w.heap.size ≤ B) (h : Below B w w') : TRds k w' t := ⟨d.h.below hB h, d.rs.below hB h, d.ms.below hB h, d.fs.below hB h, d.es.below hB h⟩

/- The parts, each ahead of what is within it. -/
abbrev Part := Sum (Sum TH DH) (Sum SH EH)
def labP : Part → Value
  | .inl (.inl h) => .iface 58 (.pointer (some ⟨h.b, h.o, none⟩))
  | .inl (.inr h) => .iface 105 (.agg #[.string h.sort, .pointer (some ⟨h.b, h.o, none⟩)])
  | .inr (.inl h) => .iface 101 (.pointer (some ⟨h.b, h.o, none⟩))
  | .inr (.inr h) => .iface 67 (.pointer (some ⟨h.b, h.o, none⟩))
def PRds (w : World) : Part → Prop
  | .inl (.inl h) => THr w h
  | .inl (.inr h) => DHr w h
  | .inr (.inl h) => SHr w h
  | .inr (.inr h) => EHr w h
def ptE : (k : Nat) → ET k → List Part
  | 0, _ => []
  | k + 1, t => .inr (.inr t.1) :: t.2.flatMap (ptE k)
def ptS : (k : Nat) → ST k → List Part
  | 0, _ => []
  | k + 1, t => .inr (.inl t.1) :: (t.2.1.flatMap (ptE k) ++ (t.2.2.1.flatMap (ptS k) ++ t.2.2.2.flatMap (ptS k)))
def ptD {k : Nat} (t : DT k) : List Part := .inl (.inr t.1) :: t.2.flatMap (ptS k)
def ptT {k : Nat} (t : TT k) : List Part := .inl (.inl t.h) :: (t.rs.flatMap ptD ++ (t.ms.flatMap ptD ++ (t.fs.flatMap ptD ++ t.es.flatMap ptD)))
theorem ptE_rd : ∀ (k : Nat) {w : World} {t : ET k}, ERd k w t → ∀ p ∈ ptE k t, PRds w p
  | 0, _, _, d, _, _ => d.elim
  | k + 1, _, _, d, p, hp => by
    rcases List.mem_cons.1 hp with rfl | hp
    · exact d.1
    · obtain ⟨u, hu, hp⟩ := List.mem_flatMap.1 hp
      exact ptE_rd k (d.2.2.2 u hu) p hp
theorem ptS_rd : ∀ (k : Nat) {w : World} {t : ST k}, SRds k w t → ∀ p ∈ ptS k t, PRds w p
  | 0, _, _, d, _, _ => d.elim
  | k + 1, _, _, d, p, hp => by
    rcases List.mem_cons.1 hp with rfl | hp
    · exact d.1
    · rcases List.mem_append.1 hp with hp | hp
      · obtain ⟨u, hu, hp⟩ := List.mem_flatMap.1 hp
        exact ptE_rd k (d.2.2.2.1 u hu) p hp
      · rcases List.mem_append.1 hp with hp | hp
        · obtain ⟨u, hu, hp⟩ := List.mem_flatMap.1 hp
          exact ptS_rd k (d.2.2.2.2.1 u hu) p hp
        · obtain ⟨u, hu, hp⟩ := List.mem_flatMap.1 hp
          exact ptS_rd k (d.2.2.2.2.2 u hu) p hp
theorem ptD_rd {k : Nat} {w : World} {t : DT k} (d : DRds k w t) : ∀ p ∈ ptD t, PRds w p := fun p hp => by
  rcases List.mem_cons.1 hp with rfl | hp
  · exact d.h
  · obtain ⟨u, hu, hp⟩ := List.mem_flatMap.1 hp
    exact ptS_rd k (d.e u hu) p hp
theorem ptT_rd {k : Nat} {w : World} {t : TT k} (d : TRds k w t) : ∀ p ∈ ptT t, PRds w p := fun p hp => by
  rcases List.mem_cons.1 hp with rfl | hp
  · exact d.h
  · rcases List.mem_append.1 hp with hp | hp
    · obtain ⟨u, hu, hp⟩ := List.mem_flatMap.1 hp
      exact ptD_rd (d.rs.e u hu) p hp
    · rcases List.mem_append.1 hp with hp | hp
      · obtain ⟨u, hu, hp⟩ := List.mem_flatMap.1 hp
        exact ptD_rd (d.ms.e u hu) p hp
      · rcases List.mem_append.1 hp with hp | hp
        · obtain ⟨u, hu, hp⟩ := List.mem_flatMap.1 hp
          exact ptD_rd (d.fs.e u hu) p hp
        · obtain ⟨u, hu, hp⟩ := List.mem_flatMap.1 hp
          exact ptD_rd (d.es.e u hu) p hp
/- Which type an interface holds. -/
theorem as58_58 (v : Value) (w : World) : (Instr.typeAssert (.iface 58 v) 20 58 true).run Tryz.prog w = .ok (.tuple #[v, .bool true]) w := by kernel_rfl
theorem as105_58 (v : Value) (w : World) : (Instr.typeAssert (.iface 105 v) 20 58 true).run Tryz.prog w = .ok (.tuple #[.pointer none, .bool false]) w := by kernel_rfl
theorem as101_58 (v : Value) (w : World) : (Instr.typeAssert (.iface 101 v) 20 58 true).run Tryz.prog w = .ok (.tuple #[.pointer none, .bool false]) w := by kernel_rfl
theorem as67_58 (v : Value) (w : World) : (Instr.typeAssert (.iface 67 v) 20 58 true).run Tryz.prog w = .ok (.tuple #[.pointer none, .bool false]) w := by kernel_rfl
theorem as58_105 (v : Value) (w : World) : (Instr.typeAssert (.iface 58 v) 20 105 true).run Tryz.prog w = .ok (.tuple #[.agg #[.string ⟨#[]⟩, .pointer none], .bool false]) w := by kernel_rfl
theorem as105_105 (v : Value) (w : World) : (Instr.typeAssert (.iface 105 v) 20 105 true).run Tryz.prog w = .ok (.tuple #[v, .bool true]) w := by kernel_rfl
theorem as101_105 (v : Value) (w : World) : (Instr.typeAssert (.iface 101 v) 20 105 true).run Tryz.prog w = .ok (.tuple #[.agg #[.string ⟨#[]⟩, .pointer none], .bool false]) w := by kernel_rfl
theorem as67_105 (v : Value) (w : World) : (Instr.typeAssert (.iface 67 v) 20 105 true).run Tryz.prog w = .ok (.tuple #[.agg #[.string ⟨#[]⟩, .pointer none], .bool false]) w := by kernel_rfl
theorem as58_101 (v : Value) (w : World) : (Instr.typeAssert (.iface 58 v) 20 101 true).run Tryz.prog w = .ok (.tuple #[.pointer none, .bool false]) w := by kernel_rfl
theorem as105_101 (v : Value) (w : World) : (Instr.typeAssert (.iface 105 v) 20 101 true).run Tryz.prog w = .ok (.tuple #[.pointer none, .bool false]) w := by kernel_rfl
theorem as101_101 (v : Value) (w : World) : (Instr.typeAssert (.iface 101 v) 20 101 true).run Tryz.prog w = .ok (.tuple #[v, .bool true]) w := by kernel_rfl
theorem as67_101 (v : Value) (w : World) : (Instr.typeAssert (.iface 67 v) 20 101 true).run Tryz.prog w = .ok (.tuple #[.pointer none, .bool false]) w := by kernel_rfl
theorem as58_67 (v : Value) (w : World) : (Instr.typeAssert (.iface 58 v) 20 67 true).run Tryz.prog w = .ok (.tuple #[.pointer none, .bool false]) w := by kernel_rfl
theorem as105_67 (v : Value) (w : World) : (Instr.typeAssert (.iface 105 v) 20 67 true).run Tryz.prog w = .ok (.tuple #[.pointer none, .bool false]) w := by kernel_rfl
theorem as101_67 (v : Value) (w : World) : (Instr.typeAssert (.iface 101 v) 20 67 true).run Tryz.prog w = .ok (.tuple #[.pointer none, .bool false]) w := by kernel_rfl
theorem as67_67 (v : Value) (w : World) : (Instr.typeAssert (.iface 67 v) 20 67 true).run Tryz.prog w = .ok (.tuple #[v, .bool true]) w := by kernel_rfl
attribute [local go_sem] as58_58 as105_58 as101_58 as67_58 as58_105 as105_105 as101_105 as67_105 as58_101 as105_101 as101_101 as67_101 as58_67 as105_67 as101_67 as67_67
def szP : Part → Bool
  | .inl _ => false
  | .inr _ => true
set_option maxRecDepth 100000 in
theorem hasSize_any (w : World) (p : Part) : Calls Tryz.prog 39 #[labP p] w fun e w' => e = .returned (.bool (szP p)) ∧ w' = w := by
  rcases p with (h | h) | (h | h) <;> simp only [labP, szP]
  all_goals
    go_enter Tryz.func39, Tryz.ntmps39
    go_wp2
    go_ret
    exact ⟨rfl, rfl⟩
end Go.Proofs.YtdfambocenohgaaGreatDoor

namespace Go.Proofs.YtdfambocenohgaaGreatDoor
open Go.RowKit Go.Deep
set_option linter.unusedVariables false
set_option linter.unusedSimpArgs false
attribute [local go_sem] as58_58 as105_58 as101_58 as67_58 as58_105 as105_105 as101_105 as67_105 as58_101 as105_101 as101_101 as67_101 as58_67 as105_67 as101_67 as67_67
attribute [local go_sem] Oper.semAt_some

/- What is asked of whoever takes the parts. -/
structure Hy (w0 : World) (l : Nat) (N : Nat) (lab : Fin N → Value) (J Jx : List (Fin N) → World → Prop) (B : Nat) : Prop where
  y : ∀ (i : Nat) (hi : i < N) (W : World), J ((List.finRange N).take i) W → YieldAt Fence.wide 0 Tryz.prog l #[lab ⟨i, hi⟩] W fun e W' =>
      (e = .returned (.bool true) ∧ J ((List.finRange N).take (i + 1)) W' ∧ Below w0.heap.size W W') ∨ (e = .returned (.bool false) ∧ Jx ((List.finRange N).take (i + 1)) W')
  a : AbidesFrom B J
def Seg (N : Nat) (lab : Fin N → Value) (i : Nat) (ps : List Part) : Prop := ∀ (j : Nat) (p : Part), ps[j]? = some p → ∃ h : i + j < N, lab ⟨i + j, h⟩ = labP p
theorem Seg.left {N : Nat} {lab : Fin N → Value} {i : Nat} {a b : List Part} (h : Seg N lab i (a ++ b)) : Seg N lab i a := fun j p e => h j p (by
  rw [List.getElem?_append_left (List.getElem?_eq_some_iff.1 e).1]; exact e)
theorem Seg.right {N : Nat} {lab : Fin N → Value} {i : Nat} {a b : List Part} (h : Seg N lab i (a ++ b)) : Seg N lab (i + a.length) b := fun j p e => by
  obtain ⟨h1, h2⟩ := h (a.length + j) p (by rw [List.getElem?_append_right (by omega), Nat.add_sub_cancel_left]; exact e)
  have e2 : i + a.length + j = i + (a.length + j) := by omega
  exact ⟨by omega, by simp only [e2]; exact h2⟩
theorem Seg.head {N : Nat} {lab : Fin N → Value} {i : Nat} {p : Part} {b : List Part} (h : Seg N lab i (p :: b)) : ∃ h : i < N, lab ⟨i, h⟩ = labP p := h 0 p rfl
theorem Seg.tail {N : Nat} {lab : Fin N → Value} {i : Nat} {p : Part} {b : List Part} (h : Seg N lab i (p :: b)) : Seg N lab (i + 1) b := fun j q e => by
  obtain ⟨h1, h2⟩ := h (j + 1) q (by simpa using e)
  have e2 : i + 1 + j = i + (j + 1) := by omega
  exact ⟨by omega, by simp only [e2]; exact h2⟩
/- What is told behind handing on so many parts from place i on. -/
def HoP (w0 : World) (N : Nat) (J Jx : List (Fin N) → World → Prop) (i m : Nat) (e : Ending) (W' : World) : Prop :=
  (e = .returned (.bool true) ∧ J ((List.finRange N).take (i + m)) W' ∧ Below w0.heap.size w0 W') ∨ (e = .returned (.bool false) ∧ ∃ i', i' ≤ N ∧ Jx ((List.finRange N).take i') W')
def HandE (k : Nat) : Prop := ∀ (w0 : World) (l N : Nat) (lab : Fin N → Value) (J Jx : List (Fin N) → World → Prop) (B : Nat) (hy : Hy w0 l N lab J Jx B) (t : ET k) (i : Nat) (W : World), ERd k w0 t → Seg N lab i (ptE k t) → Below w0.heap.size w0 W → J ((List.finRange N).take i) W →
    CallsIn Fence.wide 0 Tryz.prog 62 #[labP (.inr (.inr (eH k t))), .func (.yield l) #[] #[]] W (HoP w0 N J Jx i (ptE k t).length)
def HandEs (k : Nat) : Prop := ∀ (w0 : World) (l N : Nat) (lab : Fin N → Value) (J Jx : List (Fin N) → World → Prop) (B : Nat) (hy : Hy w0 l N lab J Jx B) (a : Option Addr) (n c : Nat) (ts : List (ET k)) (i : Nat) (W : World), n = ts.length → n ≤ 1000000 → LiesAt 8 a (eAt k) ts → (∀ u ∈ ts, ERd k w0 u) → Seg N lab i (ts.flatMap (ptE k)) → Below w0.heap.size w0 W → J ((List.finRange N).take i) W →
    CallsIn Fence.wide 0 Tryz.prog 91 #[.slice a n c, .func (.yield l) #[] #[]] W (HoP w0 N J Jx i (ts.flatMap (ptE k)).length)
def HandS (k : Nat) : Prop := ∀ (w0 : World) (l N : Nat) (lab : Fin N → Value) (J Jx : List (Fin N) → World → Prop) (B : Nat) (hy : Hy w0 l N lab J Jx B) (t : ST k) (i : Nat) (W : World), SRds k w0 t → Seg N lab i (ptS k t) → Below w0.heap.size w0 W → J ((List.finRange N).take i) W →
    CallsIn Fence.wide 0 Tryz.prog 62 #[labP (.inr (.inl (sH k t))), .func (.yield l) #[] #[]] W (HoP w0 N J Jx i (ptS k t).length)
def HandSs (k : Nat) : Prop := ∀ (w0 : World) (l N : Nat) (lab : Fin N → Value) (J Jx : List (Fin N) → World → Prop) (B : Nat) (hy : Hy w0 l N lab J Jx B) (a : Option Addr) (n c : Nat) (ts : List (ST k)) (i : Nat) (W : World), n = ts.length → n ≤ 1000000 → LiesAt 8 a (sAt k) ts → (∀ u ∈ ts, SRds k w0 u) → Seg N lab i (ts.flatMap (ptS k)) → Below w0.heap.size w0 W → J ((List.finRange N).take i) W →
    CallsIn Fence.wide 0 Tryz.prog 90 #[.slice a n c, .func (.yield l) #[] #[]] W (HoP w0 N J Jx i (ts.flatMap (ptS k)).length)
theorem flat_at {α : Type} (f : α → List Part) (ts : List α) (j : Nat) (t : α) (h : ts[j]? = some t) : ts.flatMap f = (ts.take j).flatMap f ++ (f t ++ (ts.drop (j + 1)).flatMap f) := by
  obtain ⟨h1, h2⟩ := List.getElem?_eq_some_iff.1 h
  have e : ts = ts.take j ++ (t :: ts.drop (j + 1)) := by
    rw [← h2, ← List.drop_eq_getElem_cons h1, List.take_append_drop]
  conv => lhs; rw [e]
  rw [List.flatMap_append, List.flatMap_cons]
theorem flat_next {α : Type} (f : α → List Part) (ts : List α) (j : Nat) (t : α) (h : ts[j]? = some t) : ((ts.take (j + 1)).flatMap f).length = ((ts.take j).flatMap f).length + (f t).length := by
  rw [List.take_add_one, h, List.flatMap_append]; simp

set_option maxRecDepth 100000 in
set_option maxHeartbeats 1000000 in
theorem handEs_of (k : Nat) (ih : HandE k) : HandEs k := by
  intro w0 l N lab J Jx B hy a n c ts i W hn hb hl hr hs hW hJ
  refine callsIn_of_wp Tryz.func91 rfl trivial ?_ rfl
  simp only [Tryz.ntmps91, List.size_toArray, List.length_cons, List.length_nil, Nat.reduceAdd, Nat.reduceSub, Array.replicate_succ, Array.replicate_zero, List.push_toArray, List.append_toArray, List.nil_append, List.cons_append]
  have hbI : (n : Int) ≤ 1000000 := by omega
  have HJ := hid hJ
  have HW := hid hW
  have HS := hid hs
  have HN := hid hn
  have HR := hid hr
  have HL := hid hl
  clear hJ hW hs hn hr hl hb
  gi_wp2
  gi_loopw [8] (fun x wr => ∃ j : Nat, j ≤ n ∧ x = .int .i64 j ∧ J ((List.finRange N).take (i + ((ts.take j).flatMap (ptE k)).length)) wr ∧ Below w0.heap.size w0 wr)
    (fun x _ => n - (intOf x).toNat)
  case atStart => exact ⟨0, Nat.zero_le _, rfl, by simpa using HJ.out, HW.out⟩
  case round =>
    obtain ⟨j, hj, rfl, hJs, hbs⟩ := hrel
    by_cases hlt : j < n
    · have hlt' : (j : Int) < (n : Int) := by omega
      have hj0 : (0 : Int) ≤ (j : Int) := by omega
      obtain ⟨t, ht⟩ : ∃ t, ts[j]? = some t := ⟨ts[j]'(by rw [← HN.out]; exact hlt), List.getElem?_eq_getElem _⟩
      obtain ⟨b, off, ea, hat⟩ := HL.out j t ht
      subst ea
      have K := hid (ih w0 l N lab J Jx B hy t (i + ((ts.take j).flatMap (ptE k)).length) wr (HR.out t (List.mem_of_getElem? ht)) (by
        have := HS.out
        rw [flat_at _ _ _ _ ht] at this
        exact this.right.left) hbs hJs)
      simp only [eAt, Prod.mk.injEq] at hat
      simp only [labP, hat.1, hat.2] at K
      have HF := hid (flat_next (ptE k) ts j t ht)
      clear hat ht hJs hbs
      gi_wp2_with (refine ⟨trivial, rfl, ?_⟩; gi_at_call 62; refine (Hid.out K).mono ?_; rintro e w1 (⟨rfl, hj1, hb1⟩ | ⟨rfl, hx1⟩))
      · refine ⟨⟨j + 1, by omega, by go_num, ?_, hb1⟩, by simp [intOf]; omega⟩
        have := HF.out
        rw [this, ← Nat.add_assoc]
        exact hj1
      · go_ret
        exact .inr ⟨rfl, hx1⟩
    · obtain rfl : j = n := by omega
      gi_wp2
      go_ret
      refine .inl ⟨rfl, ?_, hbs⟩
      rw [HN.out, List.take_of_length_le (Nat.le_refl _)] at hJs
      exact hJs
set_option maxRecDepth 100000 in
set_option maxHeartbeats 1000000 in
theorem handSs_of (k : Nat) (ih : HandS k) : HandSs k := by
  intro w0 l N lab J Jx B hy a n c ts i W hn hb hl hr hs hW hJ
  refine callsIn_of_wp Tryz.func90 rfl trivial ?_ rfl
  simp only [Tryz.ntmps90, List.size_toArray, List.length_cons, List.length_nil, Nat.reduceAdd, Nat.reduceSub, Array.replicate_succ, Array.replicate_zero, List.push_toArray, List.append_toArray, List.nil_append, List.cons_append]
  have hbI : (n : Int) ≤ 1000000 := by omega
  have HJ := hid hJ
  have HW := hid hW
  have HS := hid hs
  have HN := hid hn
  have HR := hid hr
  have HL := hid hl
  clear hJ hW hs hn hr hl hb
  gi_wp2
  gi_loopw [8] (fun x wr => ∃ j : Nat, j ≤ n ∧ x = .int .i64 j ∧ J ((List.finRange N).take (i + ((ts.take j).flatMap (ptS k)).length)) wr ∧ Below w0.heap.size w0 wr)
    (fun x _ => n - (intOf x).toNat)
  case atStart => exact ⟨0, Nat.zero_le _, rfl, by simpa using HJ.out, HW.out⟩
  case round =>
    obtain ⟨j, hj, rfl, hJs, hbs⟩ := hrel
    by_cases hlt : j < n
    · have hlt' : (j : Int) < (n : Int) := by omega
      have hj0 : (0 : Int) ≤ (j : Int) := by omega
      obtain ⟨t, ht⟩ : ∃ t, ts[j]? = some t := ⟨ts[j]'(by rw [← HN.out]; exact hlt), List.getElem?_eq_getElem _⟩
      obtain ⟨b, off, ea, hat⟩ := HL.out j t ht
      subst ea
      have K := hid (ih w0 l N lab J Jx B hy t (i + ((ts.take j).flatMap (ptS k)).length) wr (HR.out t (List.mem_of_getElem? ht)) (by
        have := HS.out
        rw [flat_at _ _ _ _ ht] at this
        exact this.right.left) hbs hJs)
      simp only [sAt, Prod.mk.injEq] at hat
      simp only [labP, hat.1, hat.2] at K
      have HF := hid (flat_next (ptS k) ts j t ht)
      clear hat ht hJs hbs
      gi_wp2_with (refine ⟨trivial, rfl, ?_⟩; gi_at_call 62; refine (Hid.out K).mono ?_; rintro e w1 (⟨rfl, hj1, hb1⟩ | ⟨rfl, hx1⟩))
      · refine ⟨⟨j + 1, by omega, by go_num, ?_, hb1⟩, by simp [intOf]; omega⟩
        have := HF.out
        rw [this, ← Nat.add_assoc]
        exact hj1
      · go_ret
        exact .inr ⟨rfl, hx1⟩
    · obtain rfl : j = n := by omega
      gi_wp2
      go_ret
      refine .inl ⟨rfl, ?_, hbs⟩
      rw [HN.out, List.take_of_length_le (Nat.le_refl _)] at hJs
      exact hJs
end Go.Proofs.YtdfambocenohgaaGreatDoor

namespace Go.Proofs.YtdfambocenohgaaGreatDoor
open Go.RowKit Go.Deep
set_option linter.unusedVariables false
set_option linter.unusedSimpArgs false
attribute [local go_sem] as58_58 as105_58 as101_58 as67_58 as58_105 as105_105 as101_105 as67_105 as58_101 as105_101 as101_101 as67_101 as58_67 as105_67 as101_67 as67_67
attribute [local go_sem] Oper.semAt_some

set_option maxRecDepth 100000 in
set_option maxHeartbeats 1000000 in
theorem handE_succ (k : Nat) (ih : HandEs k) : HandE (k + 1) := by
  intro w0 l N lab J Jx B hy t i W hr hs hW hJ
  obtain ⟨h, ts⟩ := t
  obtain ⟨hn, hlb⟩ := Seg.head hs
  obtain ⟨fn', tmps, assign, body, hyr, hRd⟩ := hy.y i hn W hJ
  rw [hlb] at hyr
  obtain ⟨dh, dn, dl, de⟩ := hr
  simp only at dh dn dl de
  have hRd' : RoundIn Fence.wide 0 Tryz.prog l fn' tmps assign body W (fun e W' => ∃ b : Bool, e = .returned (.bool b) ∧ ((b = true → J ((List.finRange N).take (i + 1)) W' ∧ Below w0.heap.size W W') ∧ (b = false → Jx ((List.finRange N).take (i + 1)) W'))) := by
    refine hRd.mono ?_
    rintro e W' (⟨rfl, h1, h2⟩ | ⟨rfl, h1⟩)
    · exact ⟨true, rfl, ⟨fun _ => ⟨h1, h2⟩, fun h => (by cases h)⟩⟩
    · exact ⟨false, rfl, ⟨fun h => (by cases h), fun _ => h1⟩⟩
  have HRd := hid hRd'
  have HW := hid hW
  have HS := hid hs.tail
  have K := hid (fun (W1 : World) (hb1 : Below w0.heap.size w0 W1) (hj1 : J ((List.finRange N).take (i + 1)) W1) => ih w0 l N lab J Jx B hy h.aa h.an h.ac ts (i + 1) W1 dn dh.ab dl de hs.tail hb1 hj1)
  have HD := hid (fun (W1 : World) (hb1 : Below w0.heap.size w0 W1) => (dh.below (Nat.le_refl _) hb1).c6)
  have HN := hid hn
  clear hRd hRd' hs hJ hlb dh dn dl de hW ih
  refine callsIn_of_wp Tryz.func62 rfl trivial ?_ rfl
  simp only [Tryz.ntmps62, List.size_toArray, List.length_cons, List.length_nil, Nat.reduceAdd, Nat.reduceSub, Array.replicate_succ, Array.replicate_zero, List.push_toArray, List.append_toArray, List.nil_append, List.cons_append]
  simp only [labP, eH] at hyr ⊢
  gi_wp2
  refine ⟨rfl, (Hid.out HRd).mono ?_⟩
  rintro e W3 ⟨bb, rfl, hor⟩
  cases bb with
  | true =>
    obtain ⟨hj1, hb1⟩ := hor.1 rfl
    have hb3 := HW.out.trans hb1
    have K3 := hid (Hid.out K W3 hb3 hj1)
    have c6 := Hid.out HD W3 hb3
    clear hor hj1 hb1
    gi_wp2_with (refine ⟨trivial, rfl, ?_⟩; gi_at_call 91; refine (Hid.out K3).mono ?_; rintro e w1 (⟨rfl, hj1, hb1⟩ | ⟨rfl, hx1⟩))
    · go_ret
      refine .inl ⟨rfl, ?_, hb1⟩
      show J ((List.finRange N).take (i + ((ts.flatMap (ptE k)).length + 1))) _
      rw [Nat.add_comm _ 1, ← Nat.add_assoc]
      exact hj1
    · go_ret
      exact .inr ⟨rfl, hx1⟩
  | false =>
    have hx1 := hor.2 rfl
    gi_wp2
    go_ret
    exact .inr ⟨rfl, i + 1, HN.out, hx1⟩
set_option maxRecDepth 100000 in
set_option maxHeartbeats 1000000 in
theorem handS_succ (k : Nat) (ihe : HandEs k) (ih : HandSs k) : HandS (k + 1) := by
  intro w0 l N lab J Jx B hy t i W hr hs hW hJ
  obtain ⟨h, xs, bs, es⟩ := t
  obtain ⟨hn, hlb⟩ := Seg.head hs
  obtain ⟨fn', tmps, assign, body, hyr, hRd⟩ := hy.y i hn W hJ
  rw [hlb] at hyr
  obtain ⟨dh, ⟨dn1, dn2, dn3⟩, ⟨dl1, dl2, dl3⟩, de1, de2, de3⟩ := hr
  simp only at dh dn1 dn2 dn3 dl1 dl2 dl3 de1 de2 de3
  have hRd' : RoundIn Fence.wide 0 Tryz.prog l fn' tmps assign body W (fun e W' => ∃ b : Bool, e = .returned (.bool b) ∧ ((b = true → J ((List.finRange N).take (i + 1)) W' ∧ Below w0.heap.size W W') ∧ (b = false → Jx ((List.finRange N).take (i + 1)) W'))) := by
    refine hRd.mono ?_
    rintro e W' (⟨rfl, h1, h2⟩ | ⟨rfl, h1⟩)
    · exact ⟨true, rfl, ⟨fun _ => ⟨h1, h2⟩, fun h => (by cases h)⟩⟩
    · exact ⟨false, rfl, ⟨fun h => (by cases h), fun _ => h1⟩⟩
  have HRd := hid hRd'
  have HW := hid hW
  have hs1 : Seg N lab (i + 1) (xs.flatMap (ptE k) ++ (bs.flatMap (ptS k) ++ es.flatMap (ptS k))) := hs.tail
  have KA := hid (fun (W1 : World) (hb1 : Below w0.heap.size w0 W1) (hj1 : J ((List.finRange N).take (i + 1)) W1) => ihe w0 l N lab J Jx B hy h.aa h.an h.ac xs (i + 1) W1 dn1 dh.ab dl1 de1 hs1.left hb1 hj1)
  have KB := hid (fun (W1 : World) (hb1 : Below w0.heap.size w0 W1) (hj1 : J ((List.finRange N).take (i + 1 + (xs.flatMap (ptE k)).length)) W1) => ih w0 l N lab J Jx B hy h.ba h.bn h.bc bs _ W1 dn2 dh.bb dl2 de2 hs1.right.left hb1 hj1)
  have KC := hid (fun (W1 : World) (hb1 : Below w0.heap.size w0 W1) (hj1 : J ((List.finRange N).take (i + 1 + (xs.flatMap (ptE k)).length + (bs.flatMap (ptS k)).length)) W1) => ih w0 l N lab J Jx B hy h.ea h.en h.ec es _ W1 dn3 dh.eb dl3 de3 hs1.right.right hb1 hj1)
  have HD := hid (fun (W1 : World) (hb1 : Below w0.heap.size w0 W1) => dh.below (Nat.le_refl _) hb1)
  have HN := hid hn
  clear hRd hRd' hs hs1 hJ hlb dh dn1 dn2 dn3 dl1 dl2 dl3 de1 de2 de3 hW ih ihe
  refine callsIn_of_wp Tryz.func62 rfl trivial ?_ rfl
  simp only [Tryz.ntmps62, List.size_toArray, List.length_cons, List.length_nil, Nat.reduceAdd, Nat.reduceSub, Array.replicate_succ, Array.replicate_zero, List.push_toArray, List.append_toArray, List.nil_append, List.cons_append]
  simp only [labP, sH] at hyr ⊢
  gi_wp2
  refine ⟨rfl, (Hid.out HRd).mono ?_⟩
  rintro e W3 ⟨bb, rfl, hor⟩
  cases bb with
  | true =>
    obtain ⟨hj1, hb1⟩ := hor.1 rfl
    have hb3 := HW.out.trans hb1
    have KA3 := hid (Hid.out KA W3 hb3 hj1)
    have c4 := (Hid.out HD W3 hb3).c4
    have c5 := (Hid.out HD W3 hb3).c5
    have c6 := (Hid.out HD W3 hb3).c6
    have HZ := hid (show i + ((xs.flatMap (ptE k) ++ (bs.flatMap (ptS k) ++ es.flatMap (ptS k))).length + 1) = i + 1 + (xs.flatMap (ptE k)).length + (bs.flatMap (ptS k)).length + (es.flatMap (ptS k)).length by simp; omega)
    clear hor hj1 hb1
    gi_wp2_with (first
      | (refine ⟨trivial, rfl, ?_⟩; gi_at_call 91; refine (Hid.out KA3).mono ?_; rintro e w1 (⟨rfl, hj1, hb1⟩ | ⟨rfl, hx1⟩); all_goals (try (have KB3 := hid (Hid.out KB w1 hb1 hj1); have d4 := (Hid.out HD w1 hb1).c5; have HB1 := hid hb1; clear c4 c5 c6 hj1 hb1)))
      | (refine ⟨trivial, rfl, ?_⟩; gi_at_call 90; have hno := KC3; refine (Hid.out KC3).mono ?_; rintro e w3 (⟨rfl, hj3, hb3⟩ | ⟨rfl, hx1⟩))
      | (refine ⟨trivial, rfl, ?_⟩; gi_at_call 90; refine (Hid.out KB3).mono ?_; rintro e w2 (⟨rfl, hj2, hb2⟩ | ⟨rfl, hx1⟩); all_goals (try (have KC3 := hid (Hid.out KC w2 hb2 hj2); have d5 := (Hid.out HD w2 hb2).c6; have HB2 := hid hb2; clear hj2 hb2 d4))))
    all_goals (try (refine ⟨trivial, ?_⟩; gi_wp2))
    all_goals (try (refine ⟨trivial, ?_⟩; gi_wp2))
    all_goals go_ret
    all_goals first
      | exact .inr ⟨rfl, hx1⟩
      | (refine .inl ⟨rfl, ?_, hb3⟩; show J ((List.finRange N).take (i + ((xs.flatMap (ptE k) ++ (bs.flatMap (ptS k) ++ es.flatMap (ptS k))).length + 1))) _; rw [HZ.out]; exact hj3)
  | false =>
    have hx1 := hor.2 rfl
    gi_wp2
    go_ret
    exact .inr ⟨rfl, i + 1, HN.out, hx1⟩
end Go.Proofs.YtdfambocenohgaaGreatDoor

namespace Go.Proofs.YtdfambocenohgaaGreatDoor
open Go.RowKit Go.Deep
set_option linter.unusedVariables false
set_option linter.unusedSimpArgs false
attribute [local go_sem] as58_58 as105_58 as101_58 as67_58 as58_105 as105_105 as101_105 as67_105 as58_101 as105_101 as101_101 as67_101 as58_67 as105_67 as101_67 as67_67
attribute [local go_sem] Oper.semAt_some


theorem hand_all : ∀ k, HandE k
  | 0 => fun w0 l N lab J Jx B hy t => Empty.elim t
  | k + 1 => handE_succ k (handEs_of k (hand_all k))
theorem hands_all : ∀ k, HandS k
  | 0 => fun w0 l N lab J Jx B hy t => Empty.elim t
  | k + 1 => handS_succ k (handEs_of k (hand_all k)) (handSs_of k (hands_all k))
def HandD (k : Nat) : Prop := ∀ (w0 : World) (l N : Nat) (lab : Fin N → Value) (J Jx : List (Fin N) → World → Prop) (B : Nat) (hy : Hy w0 l N lab J Jx B) (t : DT k) (i : Nat) (W : World), DRds k w0 t → Seg N lab i (ptD t) → Below w0.heap.size w0 W → J ((List.finRange N).take i) W →
    CallsIn Fence.wide 0 Tryz.prog 62 #[labP (.inl (.inr t.1)), .func (.yield l) #[] #[]] W (HoP w0 N J Jx i (ptD t).length)
def HandDs (k : Nat) : Prop := ∀ (w0 : World) (l N : Nat) (lab : Fin N → Value) (J Jx : List (Fin N) → World → Prop) (B : Nat) (hy : Hy w0 l N lab J Jx B) (s : ByteArray) (a : Option Addr) (n c : Nat) (ts : List (DT k)) (i : Nat) (W : World), n ≤ 1000000 → DLs k w0 s a n ts → Seg N lab i (ts.flatMap ptD) → Below w0.heap.size w0 W → J ((List.finRange N).take i) W →
    CallsIn Fence.wide 0 Tryz.prog 89 #[.string s, .slice a n c, .func (.yield l) #[] #[]] W (HoP w0 N J Jx i (ts.flatMap ptD).length)
set_option maxRecDepth 100000 in
set_option maxHeartbeats 1000000 in
theorem handD_of (k : Nat) (ih : HandSs k) : HandD k := by
  intro w0 l N lab J Jx B hy t i W hr hs hW hJ
  obtain ⟨h, ts⟩ := t
  obtain ⟨hn, hlb⟩ := Seg.head hs
  obtain ⟨fn', tmps, assign, body, hyr, hRd⟩ := hy.y i hn W hJ
  rw [hlb] at hyr
  obtain ⟨dh, dn, dl, de⟩ := hr
  simp only at dh dn dl de
  have hRd' : RoundIn Fence.wide 0 Tryz.prog l fn' tmps assign body W (fun e W' => ∃ b : Bool, e = .returned (.bool b) ∧ ((b = true → J ((List.finRange N).take (i + 1)) W' ∧ Below w0.heap.size W W') ∧ (b = false → Jx ((List.finRange N).take (i + 1)) W'))) := by
    refine hRd.mono ?_
    rintro e W' (⟨rfl, h1, h2⟩ | ⟨rfl, h1⟩)
    · exact ⟨true, rfl, ⟨fun _ => ⟨h1, h2⟩, fun h => (by cases h)⟩⟩
    · exact ⟨false, rfl, ⟨fun h => (by cases h), fun _ => h1⟩⟩
  have HRd := hid hRd'
  have HW := hid hW
  have HS := hid hs.tail
  have K := hid (fun (W1 : World) (hb1 : Below w0.heap.size w0 W1) (hj1 : J ((List.finRange N).take (i + 1)) W1) => ih w0 l N lab J Jx B hy h.ba h.bn h.bc ts (i + 1) W1 dn dh.bb dl de hs.tail hb1 hj1)
  have HD := hid (fun (W1 : World) (hb1 : Below w0.heap.size w0 W1) => (dh.below (Nat.le_refl _) hb1).c5)
  have HN := hid hn
  clear hRd hRd' hs hJ hlb dh dn dl de hW ih
  refine callsIn_of_wp Tryz.func62 rfl trivial ?_ rfl
  simp only [Tryz.ntmps62, List.size_toArray, List.length_cons, List.length_nil, Nat.reduceAdd, Nat.reduceSub, Array.replicate_succ, Array.replicate_zero, List.push_toArray, List.append_toArray, List.nil_append, List.cons_append]
  simp only [labP] at hyr ⊢
  gi_wp2
  refine ⟨rfl, (Hid.out HRd).mono ?_⟩
  rintro e W3 ⟨bb, rfl, hor⟩
  cases bb with
  | true =>
    obtain ⟨hj1, hb1⟩ := hor.1 rfl
    have hb3 := HW.out.trans hb1
    have hb4 := hb3.alloc hb3.size (.cells #[.string h.sort, .pointer (some ⟨h.b, h.o, none⟩)] 105)
    have K3 := hid (Hid.out K (W3.alloc (.cells #[.string h.sort, .pointer (some ⟨h.b, h.o, none⟩)] 105)) hb4 (hy.a _ _ _ none hj1 (World.grownBy_alloc _ _ _) (by simp)))
    have c6 := Hid.out HD _ hb4
    have HB4 := hid hb4
    clear hb4 hb3
    clear hor hj1 hb1
    gi_wp2_with (refine ⟨trivial, rfl, ?_⟩; gi_at_call 90; refine (Hid.out K3).mono ?_; rintro e w1 (⟨rfl, hj1, hb1⟩ | ⟨rfl, hx1⟩))
    · go_ret
      refine .inl ⟨rfl, ?_, hb1⟩
      show J ((List.finRange N).take (i + ((ts.flatMap (ptS k)).length + 1))) _
      rw [Nat.add_comm _ 1, ← Nat.add_assoc]
      exact hj1
    · go_ret
      exact .inr ⟨rfl, hx1⟩
  | false =>
    have hx1 := hor.2 rfl
    gi_wp2
    go_ret
    exact .inr ⟨rfl, i + 1, HN.out, hx1⟩
set_option maxRecDepth 100000 in
set_option maxHeartbeats 1000000 in
theorem handDs_of (k : Nat) (ih : HandD k) : HandDs k := by
  intro w0 l N lab J Jx B hy s a n c ts i W hb hd hs hW hJ
  obtain ⟨hn, hl, hr, hss⟩ := hd
  refine callsIn_of_wp Tryz.func89 rfl trivial ?_ rfl
  simp only [Tryz.ntmps89, List.size_toArray, List.length_cons, List.length_nil, Nat.reduceAdd, Nat.reduceSub, Array.replicate_succ, Array.replicate_zero, List.push_toArray, List.append_toArray, List.nil_append, List.cons_append]
  have hbI : (n : Int) ≤ 1000000 := by omega
  have HJ := hid hJ
  have HW := hid hW
  have HS := hid hs
  have HN := hid hn
  have HR := hid hr
  have HL := hid hl
  have HSS := hid hss
  clear hJ hW hs hn hr hl hb hss
  gi_wp2
  gi_loopw [10] (fun x wr => ∃ j : Nat, j ≤ n ∧ x = .int .i64 j ∧ J ((List.finRange N).take (i + ((ts.take j).flatMap (ptD)).length)) wr ∧ Below w0.heap.size w0 wr)
    (fun x _ => n - (intOf x).toNat)
  case atStart => exact ⟨0, Nat.zero_le _, rfl, by simpa using HJ.out, HW.out⟩
  case round =>
    obtain ⟨j, hj, rfl, hJs, hbs⟩ := hrel
    by_cases hlt : j < n
    · have hlt' : (j : Int) < (n : Int) := by omega
      have hj0 : (0 : Int) ≤ (j : Int) := by omega
      obtain ⟨t, ht⟩ : ∃ t, ts[j]? = some t := ⟨ts[j]'(by rw [← HN.out]; exact hlt), List.getElem?_eq_getElem _⟩
      obtain ⟨b, off, ea, hat⟩ := HL.out j t ht
      subst ea
      have K := hid (ih w0 l N lab J Jx B hy t (i + ((ts.take j).flatMap (ptD)).length) wr (HR.out t (List.mem_of_getElem? ht)) (by
        have := HS.out
        rw [flat_at _ _ _ _ ht] at this
        exact this.right.left) hbs hJs)
      simp only [dAt, Prod.mk.injEq] at hat
      simp only [labP, hat.1, hat.2, HSS.out t (List.mem_of_getElem? ht)] at K
      have HF := hid (flat_next (ptD) ts j t ht)
      clear hat ht hJs hbs
      gi_wp2_with (refine ⟨trivial, rfl, ?_⟩; gi_at_call 62; refine (Hid.out K).mono ?_; rintro e w1 (⟨rfl, hj1, hb1⟩ | ⟨rfl, hx1⟩))
      · refine ⟨⟨j + 1, by omega, by go_num, ?_, hb1⟩, by simp [intOf]; omega⟩
        have := HF.out
        rw [this, ← Nat.add_assoc]
        exact hj1
      · go_ret
        exact .inr ⟨rfl, hx1⟩
    · obtain rfl : j = n := by omega
      gi_wp2
      go_ret
      refine .inl ⟨rfl, ?_, hbs⟩
      rw [HN.out, List.take_of_length_le (Nat.le_refl _)] at hJs
      exact hJs
end Go.Proofs.YtdfambocenohgaaGreatDoor

