/- What a value holds, apart from where it lies (for the Heap statements). -/
import Derived.Test.YtenfgahedbeekaaI
import Derived.Test.YtenfgahedbeekaaC
import Derived.Test.YtenfgahedbeekaaG
namespace Go.Proofs.Ytenfgahedbeekaa
open Go.RowKit Go.Deep Go.Shelf
set_option linter.unusedVariables false
set_option linter.unusedSimpArgs false

theorem byteArray_ext {a b : ByteArray} (h : a.data.toList = b.data.toList) : a = b := by
  cases a; cases b
  simp only at h
  rw [ByteArray.mk.injEq]
  exact Array.toList_inj.1 h

/- Two simple prints with something behind each: the same, if all is the same. -/
def HEq4 (h g : Hd) : Prop := h.kind = g.kind ∧ h.int = g.int ∧ h.text = g.text ∧ h.rc = g.rc
theorem ci_self (a : Int) : ci a a = 0 := ord_ci.self a
theorem ci_zero {a b : Int} (h : ci a b = 0) : a = b := by
  unfold ci at h; split at h
  · omega
  · split at h <;> omega
theorem cS_zero {s t : ByteArray} (h : cS s t = 0) : s = t := by
  unfold cS cB at h
  split at h
  · omega
  · split at h
    · rename_i h2
      have := beq_iff_eq.1 h2
      rw [ByteArray.toList_eq, ByteArray.toList_eq] at this
      exact byteArray_ext this
    · omega
theorem cH_iff (h g : Hd) : cH h g = 0 ↔ HEq4 h g := by
  constructor
  · intro e
    unfold cH at e
    simp only [orL] at e
    by_cases h1 : ci h.kind g.kind = 0
    · rw [if_pos h1] at e
      by_cases h2 : ci h.int g.int = 0
      · rw [if_pos h2] at e
        by_cases h3 : cS h.text g.text = 0
        · rw [if_pos h3] at e
          by_cases h4 : ci h.rc g.rc = 0
          · exact ⟨ci_zero h1, ci_zero h2, cS_zero h3, ci_zero h4⟩
          · rw [if_neg h4] at e; exact absurd e h4
        · rw [if_neg h3] at e; exact absurd e h3
      · rw [if_neg h2] at e; exact absurd e h2
    · rw [if_neg h1] at e; exact absurd e h1
  · rintro ⟨h1, h2, h3, h4⟩
    unfold cH
    rw [h1, h2, h3, h4, ci_self, ci_self, ci_self, ord_cS.self]
    rfl
structure C4 where
  kind : Int
  int : Int
  text : ByteArray
  rc : Int
def CT : Nat → Type
  | 0 => Empty
  | k + 1 => C4 × List (CT k)
def ofH (h : Hd) : C4 := ⟨h.kind, h.int, h.text, h.rc⟩
def ofT : (k : Nat) → VT k → CT k
  | 0, t => Empty.elim t
  | k + 1, t => (ofH t.1, t.2.map (ofT k))
def cC (a b : C4) : Int := orL [ci a.kind b.kind, ci a.int b.int, cS a.text b.text, ci a.rc b.rc]
def cmpC : (k : Nat) → CT k → CT k → Int
  | 0, _, _ => 0
  | k + 1, s, t => if cC s.1 t.1 = 0 then cmpL (cmpC k) s.2 t.2 else cC s.1 t.1
theorem cmpL_map {α β : Type} {f : α → α → Int} {g : β → β → Int} {m : α → β} (h : ∀ a b, g (m a) (m b) = f a b) : ∀ (l k : List α), cmpL g (l.map m) (k.map m) = cmpL f l k
  | [], [] => rfl
  | [], _ :: _ => rfl
  | _ :: _, [] => rfl
  | a :: l, b :: k => by simp only [List.map_cons, cmpL, h, cmpL_map h l k]
theorem cmpC_of : ∀ (k : Nat) (s t : VT k), cmpC k (ofT k s) (ofT k t) = cmpT k s t
  | 0, _, _ => rfl
  | k + 1, s, t => by
    show (if cC (ofH s.1) (ofH t.1) = 0 then cmpL (cmpC k) (s.2.map (ofT k)) (t.2.map (ofT k)) else cC (ofH s.1) (ofH t.1)) = (if cH s.1 t.1 = 0 then cmpL (cmpT k) s.2 t.2 else cH s.1 t.1)
    rw [cmpL_map (cmpC_of k)]; rfl
theorem ord_cC : Ord3 cC :=
  ⟨fun a b => ord_cH.anti ⟨a.kind, a.int, a.text, a.rc, none, 0, 0⟩ ⟨b.kind, b.int, b.text, b.rc, none, 0, 0⟩, fun a b c => ord_cH.tr ⟨a.kind, a.int, a.text, a.rc, none, 0, 0⟩ ⟨b.kind, b.int, b.text, b.rc, none, 0, 0⟩ ⟨c.kind, c.int, c.text, c.rc, none, 0, 0⟩⟩
/- Contents as trees: each is some tree's. -/
def toT : (k : Nat) → CT k → VT k
  | 0, c => Empty.elim c
  | k + 1, c => (⟨c.1.kind, c.1.int, c.1.text, c.1.rc, none, c.2.length, c.2.length⟩, c.2.map (toT k))
theorem of_toT : ∀ (k : Nat) (c : CT k), ofT k (toT k c) = c
  | 0, c => Empty.elim c
  | k + 1, c => by
    obtain ⟨⟨a, b, t, r⟩, l⟩ := c
    show ((⟨a, b, t, r⟩ : C4), (l.map (toT k)).map (ofT k)) = ((⟨a, b, t, r⟩ : C4), l)
    rw [List.map_map]
    have : (ofT k ∘ toT k) = id := by funext c; exact of_toT k c
    rw [this, List.map_id]
theorem ord_cmpC (k : Nat) : Ord3 (cmpC k) :=
  ⟨fun a b => by have h := (ord_cmpT k).anti (toT k a) (toT k b); rw [← cmpC_of, ← cmpC_of, of_toT, of_toT] at h; exact h,
   fun a b c => by have h := (ord_cmpT k).tr (toT k a) (toT k b) (toT k c); rw [← cmpC_of, ← cmpC_of, ← cmpC_of, of_toT, of_toT, of_toT] at h; exact h⟩
theorem cmpL_eq {α : Type} {f : α → α → Int} (h : ∀ a b, f a b = 0 → a = b) : ∀ (l m : List α), cmpL f l m = 0 → l = m
  | [], [], _ => rfl
  | [], _ :: _, e => by simp [cmpL] at e
  | _ :: _, [], e => by simp [cmpL] at e
  | a :: l, b :: m, e => by
    simp only [cmpL] at e
    split at e
    · rename_i h0
      rw [h a b h0, cmpL_eq h l m e]
    · rename_i h0
      exact absurd e h0
theorem cC_zero {a b : C4} (h : cC a b = 0) : a = b := by
  obtain ⟨a1, a2, a3, a4⟩ := a
  obtain ⟨b1, b2, b3, b4⟩ := b
  have e := (cH_iff ⟨a1, a2, a3, a4, none, 0, 0⟩ ⟨b1, b2, b3, b4, none, 0, 0⟩).1 h
  unfold HEq4 at e
  obtain ⟨e1, e2, e3, e4⟩ := e
  simp only at e1 e2 e3 e4
  subst e1 e2 e3 e4
  rfl
theorem cmpC_zero : ∀ (k : Nat) (a b : CT k), cmpC k a b = 0 → a = b
  | 0, a, _, _ => Empty.elim a
  | k + 1, a, b, h => by
    obtain ⟨a1, a2⟩ := a
    obtain ⟨b1, b2⟩ := b
    change (if cC a1 b1 = 0 then cmpL (cmpC k) a2 b2 else cC a1 b1) = 0 at h
    split at h
    · rename_i h0
      rw [cC_zero h0, cmpL_eq (cmpC_zero k) a2 b2 h]
    · rename_i h0
      exact absurd h h0
theorem cmpC_iff (k : Nat) (a b : CT k) : cmpC k a b = 0 ↔ a = b := ⟨cmpC_zero k a b, fun h => by rw [h]; exact (ord_cmpC k).self b⟩
/- A value that reads as a content. -/
def RdC (k : Nat) (w : World) (h : Hd) (c : CT k) : Prop := ∃ t : VT k, hdT k t = h ∧ Rds k w t ∧ ofT k t = c
theorem RdC.below {k : Nat} {w w' : World} {h : Hd} {c : CT k} {B : Nat} (d : RdC k w h c) (hB : w.heap.size ≤ B) (hb : Below B w w') : RdC k w' h c := by
  obtain ⟨t, h1, h2, h3⟩ := d
  exact ⟨t, h1, Rds.below k h2 hB hb, h3⟩
theorem compare_c (k : Nat) (w : World) (h g : Hd) (c e : CT k) (dc : RdC k w h c) (de : RdC k w g e) :
    Calls Try.prog 47 #[h.v, g.v] w fun x w' => x = .returned (.int .i64 (cmpC k c e)) ∧ Below w.heap.size w w' := by
  obtain ⟨s, rfl, s2, rfl⟩ := dc
  obtain ⟨t, rfl, t2, rfl⟩ := de
  rw [cmpC_of]
  exact compare_any k w s t s2 t2
end Go.Proofs.Ytenfgahedbeekaa
