/- The document's words as functions on bytes: tokens, runs, texts, signs. -/
import Derived.Lib.TrimUEq
import Derived.Laws.RangeAny
namespace Go.Proofs.YtebhmalegdpibaaDoor
set_option linter.unusedVariables false
set_option linter.unusedSimpArgs false

abbrev Bs := List UInt8
structure LTok where
  kind : Nat
  text : Bs
  pos : Nat
def isBl (c : UInt8) : Bool := c == 32 || c == 9 || c == 10 || c == 13
def isLt (c : UInt8) : Bool := (decide (97 ≤ c.toNat) && decide (c.toNat ≤ 122)) || (decide (65 ≤ c.toNat) && decide (c.toNat ≤ 90)) || decide (c.toNat = 95)
def isDg (c : UInt8) : Bool := decide (48 ≤ c.toNat) && decide (c.toNat ≤ 57)
def isPt (c : UInt8) : Bool := isLt c || isDg c
def runF (p : UInt8 → Bool) : Bs → Nat
  | [] => 0
  | c :: t => if p c then runF p t + 1 else 0
def textF : Bool → Bs → Option Nat
  | e, [] => if e then some 0 else none
  | e, c :: t => if c = 34 then (textF (!e) t).map (· + 1) else if e then some 0 else (textF false t).map (· + 1)
def sg2 (a b : UInt8) : Bool := (b == 61 && (a == 61 || a == 33 || a == 60 || a == 62)) || (b == 37 && (a == 43 || a == 45 || a == 42)) || (a == 45 && b == 62)
def sg1s : Bs := [123, 125, 40, 41, 91, 93, 44, 59, 58, 46, 61, 60, 62, 43, 45, 42, 47, 37, 38]
def sg1 (a : UInt8) : Bool := sg1s.contains a
def signF : Bs → Nat
  | [] => 0
  | [a] => if sg1 a then 1 else 0
  | a :: b :: _ => if sg2 a b then 2 else if sg1 a then 1 else 0
def wordsL : List Bs := [[97, 102, 116, 101, 114], [97, 110, 100], [97, 115, 107], [98, 111, 111, 108], [98, 114, 101, 97, 107], [99, 111, 110, 116, 105, 110, 117, 101], [100, 101, 108], [100, 111], [101, 97, 99, 104], [101, 108, 115, 101], [101, 109, 105, 116], [102, 97, 108, 115, 101], [102, 110], [104, 97, 115], [105, 102], [105, 110], [105, 110, 116], [108, 101, 110], [108, 101, 116], [109, 97, 112], [110, 111, 116], [111, 110], [111, 114], [114, 101, 99, 111, 114, 100], [114, 101, 116, 117, 114, 110], [115, 116, 114], [116, 101, 120, 116], [116, 114, 117, 101], [119, 104, 105, 108, 101]]
def isWd (l : Bs) : Bool := wordsL.contains l
/- The kind and the size of the first token, or the error. -/
def firstF : Bs → Nat × Nat × Nat
  | [] => (0, 0, 51)
  | c :: t =>
    if isLt c then (if isWd ((c :: t).take (runF isPt (c :: t))) then 2 else 1, runF isPt (c :: t), 0)
    else if isDg c then (3, runF isDg (c :: t), 0)
    else if c = 34 then (match textF false t with | some n => (4, n + 1, 0) | none => (0, 0, 52))
    else if signF (c :: t) = 0 then (0, 0, 51) else (5, signF (c :: t), 0)
def unq : Bs → Bs
  | [] => []
  | [c] => [c]
  | c :: d :: t => if c = 34 ∧ d = 34 then 34 :: unq t else c :: unq (d :: t)
def tokText (kind : Nat) (p : Bs) : Bs :=
  if kind = 3 then (p.take (p.length - 1)).dropWhile (· == 48) ++ p.drop (p.length - 1)
  else if kind = 4 then unq ((p.take (p.length - 1)).drop 1) else p
def noteF (l : Bs) : Nat := runF (fun c => !(c == 10)) l
/- skip: how many bytes belong to what was told already. -/
def lexG : Nat → Nat → Bs → Except (Nat × Nat) (List LTok)
  | _, at', [] => .ok [⟨0, [], at'⟩]
  | skip + 1, at', _ :: t => lexG skip (at' + 1) t
  | 0, at', c :: t =>
    if isBl c then lexG 0 (at' + 1) t
    else if c = 35 then lexG (noteF (c :: t) - 1) (at' + 1) t
    else if (firstF (c :: t)).2.2 ≠ 0 then .error (at', (firstF (c :: t)).2.2)
    else match lexG ((firstF (c :: t)).2.1 - 1) (at' + 1) t with
      | .error e => .error e
      | .ok ts => .ok (⟨(firstF (c :: t)).1, tokText (firstF (c :: t)).1 ((c :: t).take (firstF (c :: t)).2.1), at'⟩ :: ts)
def lexT (l : Bs) : Except (Nat × Nat) (List LTok) := if 4096 < l.length then .error (0, 50) else lexG 0 0 l

/- A rune that stands at a place. -/
structure Rune (l : Bs) (pos r wd : Nat) : Prop where
  one : 1 ≤ wd
  fit : pos + wd ≤ l.length
  low : ∀ c, l[pos]? = some c → c.toNat < 128 → r = c.toNat ∧ wd = 1
  high : ∀ c, l[pos]? = some c → 128 ≤ c.toNat → 128 ≤ r
  all : ∀ c, l[pos]? = some c → 128 ≤ c.toNat → ∀ k c', k < wd → l[pos + k]? = some c' → 128 ≤ c'.toNat
  le : r ≤ 2147483647

theorem rune_at (s : ByteArray) (pos : Nat) (h : pos < s.size) : Rune s.data.toList pos (Utf8.decode s pos).1 (Utf8.decode s pos).2 := by
  rw [Lib.decode_N]
  have hl : pos < s.data.toList.length := by rw [← Lib.size_eq]; exact h
  have hle := decode_le s pos
  rw [Lib.decode_N] at hle
  generalize s.data.toList = l at *
  have hb : ∀ k, (l.getD k 0).toNat < 256 := fun k => (l.getD k 0).toNat_lt
  have h0 := hb pos; have h1 := hb (pos + 1); have h2 := hb (pos + 2); have h3 := hb (pos + 3)
  have g : ∀ k c, l[k]? = some c → l.getD k 0 = c := fun k c e => by rw [List.getD_eq_getElem?_getD, e]; rfl
  have e0 : l[pos]? = some (l.getD pos 0) := by rw [List.getD_eq_getElem?_getD, List.getElem?_eq_getElem hl]; rfl
  by_cases ha : (l.getD pos 0).toNat < 128
  · rw [Lib.decodeN_ascii _ _ _ _ _ ha] at hle ⊢
    exact ⟨by simp, by simp; omega, fun c e _ => by rw [g _ _ e]; exact ⟨rfl, rfl⟩, fun c e h => by rw [g _ _ e] at ha; omega, fun c e h => by rw [g _ _ e] at ha; omega, hle⟩
  · have key : 1 ≤ (Lib.decodeN (l.length - pos) (l.getD pos 0).toNat (l.getD (pos + 1) 0).toNat (l.getD (pos + 2) 0).toNat (l.getD (pos + 3) 0).toNat).2 ∧
        (Lib.decodeN (l.length - pos) (l.getD pos 0).toNat (l.getD (pos + 1) 0).toNat (l.getD (pos + 2) 0).toNat (l.getD (pos + 3) 0).toNat).2 ≤ l.length - pos ∧
        128 ≤ (Lib.decodeN (l.length - pos) (l.getD pos 0).toNat (l.getD (pos + 1) 0).toNat (l.getD (pos + 2) 0).toNat (l.getD (pos + 3) 0).toNat).1 ∧
        ∀ k, k < (Lib.decodeN (l.length - pos) (l.getD pos 0).toNat (l.getD (pos + 1) 0).toNat (l.getD (pos + 2) 0).toNat (l.getD (pos + 3) 0).toNat).2 → 128 ≤ (l.getD (pos + k) 0).toNat := by
      generalize hb0 : (l.getD pos 0).toNat = b0 at *
      generalize hb1 : (l.getD (pos + 1) 0).toNat = b1 at *
      generalize hb2 : (l.getD (pos + 2) 0).toNat = b2 at *
      generalize hb3 : (l.getD (pos + 3) 0).toNat = b3 at *
      have hk : ∀ wd, wd ≤ 4 → (1 ≤ wd → 128 ≤ b0) → (2 ≤ wd → 128 ≤ b1) → (3 ≤ wd → 128 ≤ b2) → (4 ≤ wd → 128 ≤ b3) → ∀ k, k < wd → 128 ≤ (l.getD (pos + k) 0).toNat := by
        intro wd hw k0 k1 k2 k3 k hk
        match k, hk with
        | 0, hk => rw [Nat.add_zero, hb0]; exact k0 (by omega)
        | 1, hk => rw [hb1]; exact k1 (by omega)
        | 2, hk => rw [hb2]; exact k2 (by omega)
        | 3, hk => rw [hb3]; exact k3 (by omega)
        | n + 4, hk => omega
      simp only [Lib.decodeN]
      repeat' split
      all_goals simp_all [Utf8.runeError]
      all_goals first
        | omega
        | (refine ⟨by omega, by omega, hk _ (by omega) ?_ ?_ ?_⟩ <;> intro _ <;> omega)
        | (refine ⟨by omega, hk _ (by omega) ?_ ?_ ?_⟩ <;> intro _ <;> omega)
        | (refine hk _ (by omega) ?_ ?_ ?_ <;> intro _ <;> omega)
        | skip
    exact ⟨key.1, by omega, fun c e h => by rw [← g _ _ e] at h; exact absurd h ha, fun c e h => key.2.2.1, fun c e h k c' hk e' => by rw [← g _ _ e']; exact key.2.2.2 k hk, hle⟩
end Go.Proofs.YtebhmalegdpibaaDoor
