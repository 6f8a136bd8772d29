/- Values among the arguments and in rows of the call's own. -/
import Derived.Test.YtenfgahedbeekaaRows
import Derived.WalkKit
import Derived.WalkSpells
import Derived.WalkLawsBesides
import Derived.Deep.OwnRows
import Derived.Maps.AppendAt
import Derived.Deep.AppendLies
import Derived.Lib.AppendStr
import Derived.Deep.LoopGhost
import Derived.Below
import Derived.RangeFuncNested
import Derived.RangeFuncBound
import Derived.RangeFuncCalls
import Derived.RangeFuncLeaves
import Derived.Shelf.Abstract
import Derived.Shelf.RegionOpen
import Derived.OwnWalkIn
import Derived.TacticsInMore
import Derived.LoopNIn
import Derived.LoopIn
import Derived.Deep.RegionHeld3
namespace Go.Proofs.Ytenfgahedbeekaa
open Go.RowKit Go.Deep
set_option linter.unusedVariables false
set_option linter.unusedSimpArgs false

theorem hid {p : Prop} (h : p) : Hid p := h
theorem cellOf {w : World} {b : Nat} {c : Array Value} {e : TypeId} {f : Nat × Nat} (h : w.heap[b]? = some (.cells c e f)) (i : Nat) : w.cell? ⟨b, i, none⟩ = c[i]? := by
  simp [World.cell?, h]
theorem freeOf {w : World} {b : Nat} {c : Array Value} {e : TypeId} (h : w.heap[b]? = some (.cells c e (0, 0))) (i : Nat) : w.frozen? ⟨b, i, none⟩ = false := by
  simp [World.frozen?, h]

theorem alloc_grown {w : World} {o : Obj} {w' : World} {row : Option Nat} (h : (w.alloc o).grownBy w' row) : w.grownBy w' row :=
  (World.grownBy_alloc w o row).trans h

/- Between w and w' nothing old has turned but v's own row; and the row is v's still, or new. -/
def Grw (w : World) (v : Value) (w' : World) (v' : Value) : Prop := w.grownBy w' v.ownBlock ∧ (v'.ownBlock = v.ownBlock ∨ ∃ g, v'.ownBlock = some g ∧ w.heap.size ≤ g)
theorem Grw.refl (w : World) (v : Value) : Grw w v w v := ⟨⟨rfl, rfl, rfl, Nat.le_refl _, fun _ _ _ => rfl⟩, .inl rfl⟩
theorem Grw.trans {w w1 w2 : World} {v v1 v2 : Value} (h : Grw w v w1 v1) (k : Grw w1 v1 w2 v2) : Grw w v w2 v2 := by
  obtain ⟨h1, h2⟩ := h
  obtain ⟨k1, k2⟩ := k
  refine ⟨⟨k1.os.trans h1.os, k1.tape.trans h1.tape, k1.output.trans h1.output, Nat.le_trans h1.size k1.size, fun j hj hne => ?_⟩, ?_⟩
  · refine (k1.block j (Nat.lt_of_lt_of_le hj h1.size) ?_).trans (h1.block j hj hne)
    rcases h2 with h2 | ⟨g, h2, hg⟩
    · rw [h2]; exact hne
    · rw [h2]; intro e; cases e; omega
  · rcases k2 with k2 | ⟨g, k2, hg⟩
    · rcases h2 with h2 | h2
      · exact .inl (k2.trans h2)
      · obtain ⟨g, h2, hg⟩ := h2; exact .inr ⟨g, k2.trans h2, hg⟩
    · exact .inr ⟨g, k2, Nat.le_trans h1.size hg⟩
theorem Grw.unalloc {w w' : World} {v v' : Value} {o : Obj} (h : Grw (w.alloc o) v w' v') : Grw w v w' v' :=
  ⟨(World.grownBy_alloc w o _).trans h.1, by
    rcases h.2 with h | ⟨g, h, hg⟩
    · exact .inl h
    · exact .inr ⟨g, h, by simp at hg; omega⟩⟩
theorem Grw.old {w w' : World} {v v' : Value} (h : Grw w v w' v') {j : Nat} (hj : j < w.heap.size) (hne : some j ≠ v.ownBlock) : w'.heap[j]? = w.heap[j]? := h.1.block j hj hne
theorem Grw.size {w w' : World} {v v' : Value} (h : Grw w v w' v') : w.heap.size ≤ w'.heap.size := h.1.size

/- A value's five cells: its fields as a slice. -/
structure Hd where
  kind : Int
  int : Int
  text : ByteArray
  rc : Int
  a : Option Addr
  n : Nat
  cap : Nat
def Hd.v (h : Hd) : Value := .agg #[.int .i64 h.kind, .int .i64 h.int, .string h.text, .int .i64 h.rc, .slice h.a h.n h.cap]
structure Hd.In (h : Hd) : Prop where
  i0 : -9223372036854775808 ≤ h.int
  i1 : h.int ≤ 9223372036854775807
  k0 : -9223372036854775808 ≤ h.kind
  k1 : h.kind ≤ 9223372036854775807
  r0 : -9223372036854775808 ≤ h.rc
  r1 : h.rc ≤ 9223372036854775807
  t : h.text.size ≤ 9223372036854775807
  n : h.n ≤ 9223372036854775807

theorem stremp (t : ByteArray) : t.toList.isEmpty = decide (t = ByteArray.empty) := by
  rw [ByteArray.toList_eq]
  by_cases h : t = ByteArray.empty
  · subst h; simp
  · have : ¬ t.data = #[] := fun e => h (by cases t; simp at e; simp [e]; rfl)
    simp [h, this]

def Hd.cs (h : Hd) : List Value := [.int .i64 h.kind, .int .i64 h.int, .string h.text, .int .i64 h.rc, .slice h.a h.n h.cap]
def vv (hs : List Hd) : List Value := hs.flatMap Hd.cs
theorem vv_length (hs : List Hd) : (vv hs).length = hs.length * 5 := by
  induction hs with
  | nil => rfl
  | cons h r ih => simp [vv, Hd.cs] at ih ⊢; omega
theorem vv_snoc (hs : List Hd) (h : Hd) : vv (hs ++ [h]) = vv hs ++ h.cs := by simp [vv]
theorem vv_at (hs : List Hd) : ∀ (j : Nat) (h : Hd), hs[j]? = some h → ∀ i, i < 5 → (vv hs)[j * 5 + i]? = h.cs[i]? := by
  induction hs with
  | nil => intro j h e; simp at e
  | cons x r ih =>
    intro j h e i hi
    have hx : (Hd.cs x).length = 5 := rfl
    cases j with
    | zero =>
      simp at e; subst e
      simp only [vv, List.flatMap_cons]
      rw [List.getElem?_append_left (by omega)]
      simp
    | succ j =>
      simp at e
      simp only [vv, List.flatMap_cons]
      rw [List.getElem?_append_right (by omega), hx, show (j + 1) * 5 + i - 5 = j * 5 + i from by omega]
      exact ih j h e i hi

/- A row of values that is the call's own. -/
def VRow (w : World) (B : Nat) (v : Value) (hs : List Hd) : Prop := w.ownsRow B 31 5 v hs.length (vv hs)
theorem VRow.nil (w : World) (B : Nat) : VRow w B (.slice none 0 0) [] := World.ownsRow_nil w B 31 5
theorem VRow.own {w B v hs} (h : VRow w B v hs) : ∀ k, v.ownBlock = some k → B ≤ k ∧ k < w.heap.size := World.ownsRow.lt h
theorem VRow.same {w w' : World} {B v xs} (h : VRow w B v xs) (e : ∀ g, v.ownBlock = some g → w'.heap[g]? = w.heap[g]?) : VRow w' B v xs := by
  refine ⟨h.1, ?_⟩
  rcases h.2 with hn | ⟨g, cap, cur, rfl, hb, hgg, rest⟩
  · exact .inl hn
  · exact .inr ⟨g, cap, cur, rfl, hb, (e g rfl).trans hgg, rest⟩
theorem VRow.below {w w' : World} {B C v xs} (h : VRow w B v xs) (hC : w.heap.size ≤ C) (k : Below C w w') : VRow w' B v xs :=
  h.same fun g e => k.block g (by have := (h.own g e).2; omega)
theorem VRow.mono {w : World} {B C v xs} (h : VRow w B v xs) (hC : C ≤ B) : VRow w C v xs := by
  refine ⟨h.1, ?_⟩
  rcases h.2 with hn | ⟨g, cap, cur, rfl, hb, rest⟩
  · exact .inl hn
  · exact .inr ⟨g, cap, cur, rfl, by omega, rest⟩
theorem VRow.form {w B v xs} (h : VRow w B v xs) : ∃ a cap, v = .slice a xs.length cap ∧ xs.length ≤ cap := by
  rcases h.2 with ⟨rfl, hn⟩ | ⟨g, cap, cur, rfl, hb, hgg, hc, rest⟩
  · exact ⟨none, 0, by rw [hn], by omega⟩
  · exact ⟨_, _, rfl, hc⟩

/- Values that a slice reads: each its five cells. -/
def VRd (w : World) (a : Option Addr) (hs : List Hd) : Prop := ∀ (j : Nat) (h : Hd), hs[j]? = some h → ∃ b off, a = some ⟨b, off, none⟩ ∧ ∀ i, i < 5 → w.cell? ⟨b, off + j * 5 + i, none⟩ = h.cs[i]?
theorem VRow.rd {w : World} {B a n cap hs} (h : VRow w B (.slice a n cap) hs) : VRd w a hs := by
  intro j x hx
  rcases h.2 with ⟨e, hn⟩ | ⟨g, cap', cur, e, hb, hgg, hc, hm, hs', ht⟩
  · have : hs = [] := List.eq_nil_of_length_eq_zero hn
    subst this; simp at hx
  · cases e
    refine ⟨g, 0, rfl, fun i hi => ?_⟩
    have hv := vv_at hs j x hx i hi
    have hj : j < hs.length := (List.getElem?_eq_some_iff.1 hx).1
    rw [← hv, Nat.zero_add]
    have hlt : j * 5 + i < (vv hs).length := by rw [vv_length]; omega
    obtain ⟨u, hu⟩ : ∃ u, (vv hs)[j * 5 + i]? = some u := ⟨_, List.getElem?_eq_getElem hlt⟩
    have := World.ownsRow.cells h (g := g) rfl _ u hu
    rw [Addr.add_lit, Nat.zero_add] at this
    rw [this, hu]
theorem VRd.below {w w' : World} {a hs B} (h : VRd w a hs) (hB : w.heap.size ≤ B) (k : Below B w w') : VRd w' a hs := by
  intro j x hx
  obtain ⟨b, off, rfl, hc⟩ := h j x hx
  refine ⟨b, off, rfl, fun i hi => ?_⟩
  have h0 := hc 0 (by omega)
  have hb : b < w.heap.size := World.block_lt_of_cell? w _ (h0.trans (show x.cs[0]? = some (.int .i64 x.kind) from rfl))
  rw [World.cell?_of_block (w := w) (k.block b (by omega))]
  exact hc i hi

def zeroV : Value := .agg #[.int .i64 0, .int .i64 0, .string ⟨#[]⟩, .int .i64 0, .slice none 0 0]
theorem info31 : (Try.prog.info? 31).map (fun i => (i.zero, i.size, i.bytes)) = some (some zeroV, 5, 64) := by kernel_rfl
theorem cs_one (h : Hd) : ∀ u ∈ h.cs, u.oneCell' = true := by
  intro u hu
  simp only [Hd.cs, List.mem_cons, List.mem_nil_iff, or_false] at hu
  rcases hu with rfl | rfl | rfl | rfl | rfl <;> rfl


/- Three levels of fields. -/
structure Deep (w : World) (h : Hd) (fs : List Hd) (gs : Nat → List Hd) : Prop where
  hin : h.In
  n : h.n = fs.length
  rd : VRd w h.a fs
  fin : ∀ f ∈ fs, f.In
  gn : ∀ (j : Nat) (f : Hd), fs[j]? = some f → f.n = (gs j).length
  grd : ∀ (j : Nat) (f : Hd), fs[j]? = some f → VRd w f.a (gs j)
  gin : ∀ (j : Nat) (g : Hd), g ∈ gs j → g.In
theorem Deep.below {w w' : World} {h fs gs} {B : Nat} (d : Deep w h fs gs) (hB : w.heap.size ≤ B) (k : Below B w w') : Deep w' h fs gs :=
  ⟨d.hin, d.n, d.rd.below hB k, d.fin, d.gn, fun j f e => (d.grd j f e).below hB k, d.gin⟩
/- A value that isn't great: nothing stands within its fields' fields. -/
def SmB (h : Hd) (fs : List Hd) (gs : Nat → List Hd) : Prop := h.n ≤ 20 ∧ (∀ f ∈ fs, f.n ≤ 3) ∧ ∀ (j : Nat), j < fs.length → ∀ g ∈ gs j, g.n = 0
def Sm (w : World) (h : Hd) : Prop := ∃ fs gs, Deep w h fs gs ∧ SmB h fs gs
theorem Sm.below {w w' : World} {h : Hd} {B : Nat} (d : Sm w h) (hB : w.heap.size ≤ B) (k : Below B w w') : Sm w' h := by
  obtain ⟨fs, gs, d1, d2⟩ := d
  exact ⟨fs, gs, d1.below hB k, d2⟩
def AccA (fs : List Hd) (gs : Nat → List Hd) (i : Nat) : Prop := ∀ (j : Nat) (f : Hd), j < i → fs[j]? = some f → f.n ≤ 3 ∧ ∀ g ∈ gs j, g.n = 0
def AccB (l : List Hd) (k : Nat) : Prop := ∀ (j : Nat) (q : Hd), j < k → l[j]? = some q → q.n = 0
theorem AccB.snoc {l : List Hd} {k : Nat} {q : Hd} (h : AccB l k) (e : l[k]? = some q) (hq : q.n = 0) : AccB l (k + 1) := fun j x hj ex => by
  rcases Nat.lt_or_ge j k with h1 | h1
  · exact h j x h1 ex
  · obtain rfl : j = k := by omega
    rw [e] at ex; cases ex; exact hq
theorem AccB.all {l : List Hd} (h : AccB l l.length) : ∀ g ∈ l, g.n = 0 := fun g hg => by
  obtain ⟨j, hj⟩ := List.getElem?_of_mem hg
  exact h j g (List.getElem?_eq_some_iff.1 hj).1 hj
theorem AccA.snoc {fs : List Hd} {gs : Nat → List Hd} {i : Nat} {f : Hd} (h : AccA fs gs i) (e : fs[i]? = some f) (h1 : f.n ≤ 3) (h2 : ∀ g ∈ gs i, g.n = 0) : AccA fs gs (i + 1) := fun j x hj ex => by
  rcases Nat.lt_or_ge j i with h3 | h3
  · exact h j x h3 ex
  · obtain rfl : j = i := by omega
    rw [e] at ex; cases ex; exact ⟨h1, h2⟩
theorem AccA.all {fs : List Hd} {gs : Nat → List Hd} (h : AccA fs gs fs.length) : (∀ f ∈ fs, f.n ≤ 3) ∧ ∀ (j : Nat), j < fs.length → ∀ g ∈ gs j, g.n = 0 := by
  constructor
  · intro f hf
    obtain ⟨j, hj⟩ := List.getElem?_of_mem hf
    exact (h j f (List.getElem?_eq_some_iff.1 hj).1 hj).1
  · intro j hj
    exact (h j fs[j] hj (by simp [hj])).2

end Go.Proofs.Ytenfgahedbeekaa

namespace Go.Proofs.Ytenfgahedbeekaa
open Go.RowKit Go.Deep
set_option linter.unusedVariables false
set_option linter.unusedSimpArgs false

structure Ord3 {α : Type} (f : α → α → Int) : Prop where
  anti : ∀ a b, f a b = - f b a
  tr : ∀ a b c, f a b ≤ 0 → f b c ≤ 0 → f a c ≤ 0
theorem Ord3.self {α : Type} {f : α → α → Int} (h : Ord3 f) (a : α) : f a a = 0 := by have := h.anti a a; omega
def lex {α : Type} (f g : α → α → Int) (a b : α) : Int := if f a b = 0 then g a b else f a b
/- What one step of a comparing by steps says of three. -/
theorem lex_step {x y z x' y' z' p q r : Int} (h1 : (if x = 0 then p else x) ≤ 0) (h2 : (if y = 0 then q else y) ≤ 0) (hz : x ≤ 0 → y ≤ 0 → z ≤ 0) (hx : x = -x') (hy : y = -y') (hz' : z = -z') (hy' : z' ≤ 0 → x ≤ 0 → y' ≤ 0) (hx' : y ≤ 0 → z' ≤ 0 → x' ≤ 0) (hr : x = 0 → y = 0 → z = 0 → p ≤ 0 → q ≤ 0 → r ≤ 0) : (if z = 0 then r else z) ≤ 0 := by
  have hx0 : x ≤ 0 := by split at h1 <;> omega
  have hy0 : y ≤ 0 := by split at h2 <;> omega
  have hz0 := hz hx0 hy0
  split
  · rename_i hzz
    have a1 := hy' (by omega) hx0
    have a2 := hx' hy0 (by omega)
    have e1 : x = 0 := by omega
    have e2 : y = 0 := by omega
    rw [if_pos e1] at h1
    rw [if_pos e2] at h2
    exact hr e1 e2 hzz h1 h2
  · exact hz0
theorem ord_lex {α : Type} {f g : α → α → Int} (hf : Ord3 f) (hg : Ord3 g) : Ord3 (lex f g) := by
  constructor
  · intro a b
    unfold lex
    have h1 := hf.anti a b
    have h2 := hg.anti a b
    by_cases h : f a b = 0
    · rw [if_pos h, if_pos (by omega)]; exact h2
    · rw [if_neg h, if_neg (by omega)]; exact h1
  · intro a b c h1 h2
    unfold lex at h1 h2 ⊢
    exact lex_step h1 h2 (hf.tr a b c) (hf.anti a b) (hf.anti b c) (hf.anti a c) (hf.tr c a b) (hf.tr b c a) (fun _ _ _ => hg.tr a b c)
theorem ord_on {α β : Type} {f : β → β → Int} (hf : Ord3 f) (p : α → β) : Ord3 (fun a b => f (p a) (p b)) := ⟨fun a b => hf.anti _ _, fun a b c => hf.tr _ _ _⟩
def ci (a b : Int) : Int := if a < b then -1 else if b < a then 1 else 0
theorem ord_ci : Ord3 ci := by
  constructor
  · intro a b; unfold ci; split <;> split <;> (try split) <;> omega
  · intro a b c; unfold ci; intro h1 h2; (repeat' split at h1) <;> (repeat' split at h2) <;> (repeat' split) <;> omega
def cmpL {α : Type} (f : α → α → Int) : List α → List α → Int
  | [], [] => 0
  | [], _ :: _ => -1
  | _ :: _, [] => 1
  | a :: l, b :: m => if f a b = 0 then cmpL f l m else f a b
theorem ord_cmpL {α : Type} {f : α → α → Int} (hf : Ord3 f) : Ord3 (cmpL f) := by
  constructor
  · intro a
    induction a with
    | nil => intro b; cases b <;> rfl
    | cons x l ih =>
      intro b
      cases b with
      | nil => rfl
      | cons y m =>
        simp only [cmpL]
        have h1 := hf.anti x y
        have h2 := ih m
        by_cases h : f x y = 0
        · rw [if_pos h, if_pos (by omega)]; exact h2
        · rw [if_neg h, if_neg (by omega)]; exact h1
  · intro a
    induction a with
    | nil => intro b c h1 h2; cases c <;> simp [cmpL]
    | cons x l ih =>
      intro b c h1 h2
      cases b with
      | nil => simp [cmpL] at h1
      | cons y m =>
        cases c with
        | nil => simp [cmpL] at h2
        | cons z k =>
          simp only [cmpL] at h1 h2 ⊢
          exact lex_step h1 h2 (hf.tr x y z) (hf.anti x y) (hf.anti y z) (hf.anti x z) (hf.tr z x y) (hf.tr y z x) (fun _ _ _ => ih m k)
def cB (l m : List UInt8) : Int := if Op.bytesLess l m then -1 else if l == m then 0 else 1
def cS (s t : ByteArray) : Int := cB s.toList t.toList
theorem cB_eq : ∀ (l m : List UInt8), cB l m = cmpL (fun a b : UInt8 => ci a.toNat b.toNat) l m
  | [], [] => rfl
  | [], _ :: _ => rfl
  | _ :: _, [] => rfl
  | a :: l, b :: m => by
    have ih := cB_eq l m
    simp only [cmpL, ← ih]
    simp only [cB, Op.bytesLess, ci]
    rcases Nat.lt_trichotomy a.toNat b.toNat with h | h | h
    · have h1 : a < b := UInt8.lt_iff_toNat_lt.2 h
      have h2 : ((a.toNat : Int) < (b.toNat : Int)) := by omega
      simp [h1, h2]
    · have h1 : a = b := UInt8.toNat_inj.1 h
      subst h1
      have h2 : ¬ ((a.toNat : Int) < (a.toNat : Int)) := by omega
      simp
    · have h1 : ¬ a < b := fun e => by have := UInt8.lt_iff_toNat_lt.1 e; omega
      have h2 : ((b.toNat : Int) < (a.toNat : Int)) := by omega
      have h3 : ¬ ((a.toNat : Int) < (b.toNat : Int)) := by omega
      have h4 : ¬ a = b := fun e => by subst e; omega
      simp [h1, h2, h3, h4]
theorem ord_cS : Ord3 cS := by
  have : cS = fun s t => cmpL (fun a b : UInt8 => ci a.toNat b.toNat) s.toList t.toList := by
    funext s t; exact cB_eq _ _
  rw [this]
  exact ord_on (ord_cmpL (ord_on ord_ci (fun a : UInt8 => (a.toNat : Int)))) _

set_option maxHeartbeats 400000 in
theorem nan_i (w : World) (x : Int) : Calls Try.prog 89 #[.int .i64 x] w fun e w' => e = .returned (.bool false) ∧ w' = w := by
  go_enter Try.func89, Try.ntmps89
  go_wp2
  go_ret
  exact ⟨by simp, rfl⟩
set_option maxHeartbeats 400000 in
theorem nan_i2 (w : World) (x : Int) : Calls Try.prog 90 #[.int .i64 x] w fun e w' => e = .returned (.bool false) ∧ w' = w := by
  go_enter Try.func90, Try.ntmps90
  go_wp2
  go_ret
  exact ⟨by simp, rfl⟩
set_option maxHeartbeats 400000 in
theorem nan_s (w : World) (x : ByteArray) : Calls Try.prog 91 #[.string x] w fun e w' => e = .returned (.bool false) ∧ w' = w := by
  go_enter Try.func91, Try.ntmps91
  go_wp2
  go_ret
  exact ⟨by simp, rfl⟩
set_option maxHeartbeats 400000 in
theorem cmp_i (w : World) (a b : Int) : Calls Try.prog 65 #[.int .i64 a, .int .i64 b] w fun e w' => e = .returned (.int .i64 (ci a b)) ∧ w' = w := by
  have K := hid (fun w x => nan_i w x)
  unfold ci
  by_cases h1 : a < b
  · rw [if_pos h1]
    go_enter Try.func65, Try.ntmps65
    go_wp2_with (go_at_call 89; (refine (Hid.out K _ _).mono ?_; rintro e w1 ⟨rfl, rfl⟩))
    go_ret
    exact ⟨rfl, rfl⟩
  · rw [if_neg h1]
    by_cases h2 : b < a
    · rw [if_pos h2]
      go_enter Try.func65, Try.ntmps65
      go_wp2_with (go_at_call 89; (refine (Hid.out K _ _).mono ?_; rintro e w1 ⟨rfl, rfl⟩))
      go_ret
      exact ⟨rfl, rfl⟩
    · rw [if_neg h2]
      go_enter Try.func65, Try.ntmps65
      go_wp2_with (go_at_call 89; (refine (Hid.out K _ _).mono ?_; rintro e w1 ⟨rfl, rfl⟩))
      go_ret
      exact ⟨rfl, rfl⟩
set_option maxHeartbeats 400000 in
theorem cmp_i2 (w : World) (a b : Int) : Calls Try.prog 66 #[.int .i64 a, .int .i64 b] w fun e w' => e = .returned (.int .i64 (ci a b)) ∧ w' = w := by
  have K := hid (fun w x => nan_i2 w x)
  unfold ci
  by_cases h1 : a < b
  · rw [if_pos h1]
    go_enter Try.func66, Try.ntmps66
    go_wp2_with (go_at_call 90; (refine (Hid.out K _ _).mono ?_; rintro e w1 ⟨rfl, rfl⟩))
    go_ret
    exact ⟨rfl, rfl⟩
  · rw [if_neg h1]
    by_cases h2 : b < a
    · rw [if_pos h2]
      go_enter Try.func66, Try.ntmps66
      go_wp2_with (go_at_call 90; (refine (Hid.out K _ _).mono ?_; rintro e w1 ⟨rfl, rfl⟩))
      go_ret
      exact ⟨rfl, rfl⟩
    · rw [if_neg h2]
      go_enter Try.func66, Try.ntmps66
      go_wp2_with (go_at_call 90; (refine (Hid.out K _ _).mono ?_; rintro e w1 ⟨rfl, rfl⟩))
      go_ret
      exact ⟨rfl, rfl⟩
set_option maxHeartbeats 400000 in
theorem cmp_s (w : World) (a b : ByteArray) : Calls Try.prog 67 #[.string a, .string b] w fun e w' => e = .returned (.int .i64 (cS a b)) ∧ w' = w := by
  have K := hid (fun w x => nan_s w x)
  unfold cS cB
  cases h1 : Op.bytesLess a.toList b.toList with
  | true =>
    go_enter Try.func67, Try.ntmps67
    go_wp2_with (go_at_call 91; (refine (Hid.out K _ _).mono ?_; rintro e w1 ⟨rfl, rfl⟩))
    go_ret
    exact ⟨rfl, rfl⟩
  | false =>
    cases h2 : a.toList == b.toList with
    | true =>
      go_enter Try.func67, Try.ntmps67
      go_wp2_with (go_at_call 91; (refine (Hid.out K _ _).mono ?_; rintro e w1 ⟨rfl, rfl⟩))
      go_ret
      exact ⟨rfl, rfl⟩
    | false =>
      go_enter Try.func67, Try.ntmps67
      go_wp2_with (go_at_call 91; (refine (Hid.out K _ _).mono ?_; rintro e w1 ⟨rfl, rfl⟩))
      go_ret
      exact ⟨rfl, rfl⟩
def orL : List Int → Int
  | [] => 0
  | x :: l => if x = 0 then orL l else x
theorem orL_drop {l : List Int} {i : Nat} {x : Int} (h : l[i]? = some x) : orL (l.drop i) = if x = 0 then orL (l.drop (i + 1)) else x := by
  have hlt : i < l.length := (List.getElem?_eq_some_iff.1 h).1
  rw [List.drop_eq_getElem_cons hlt]
  have : l[i] = x := by simpa [hlt] using h
  rw [this]; rfl
set_option maxHeartbeats 1000000 in
theorem or_any (w : World) (b0 n : Nat) (l : List Int) (hn : n = l.length) (hn2 : n ≤ 1000) (hc : ∀ (j : Nat) (x : Int), l[j]? = some x → w.cell? ⟨b0, j, none⟩ = some (.int .i64 x)) :
    Calls Try.prog 64 #[.slice (some ⟨b0, 0, none⟩) n n] w fun e w' => e = .returned (.int .i64 (orL l)) ∧ w' = w := by
  have Hn := hid hn
  have Hc := hid hc
  clear hn hc
  go_enter Try.func64, Try.ntmps64
  go_wp2
  go_loopg [8] n (fun g ii wr => ∃ i : Nat, i + g = n ∧ ii = .int .i64 (i : Int) ∧ wr = w ∧ orL l = orL (l.drop i))
  case atStart => exact ⟨0, by omega, rfl, rfl, rfl⟩
  case round =>
    obtain ⟨i, hi, rfl, rfl, ho⟩ := hrel
    have Hi := hid hi
    have Ho := hid ho
    clear ho
    cases gk with
    | zero =>
      have hin' : i = n := by omega
      clear hi
      subst hin'
      go_wp2
      go_ret
      refine ⟨?_, rfl⟩
      rw [Ho.out, Hn.out, List.drop_length]; rfl
    | succ g =>
      have hlt : i < n := by omega
      clear hi
      obtain ⟨x, hx⟩ : ∃ x, l[i]? = some x := ⟨l[i]'(by rw [← Hn.out]; exact hlt), by rw [List.getElem?_eq_getElem]⟩
      have x0 := Hc.out i x hx
      have hd := hid (orL_drop hx)
      clear hx
      by_cases h0 : x = 0
      · subst h0
        go_wp2
        go_roundg g
        case measure => omega
        case rel => exact ⟨i + 1, by have := Hi.out; omega, by go_num, rfl, by rw [Ho.out, hd.out]; rfl⟩
      · have h0' : (x != 0) = true := by simpa using h0
        go_wp2
        go_ret
        refine ⟨?_, rfl⟩
        rw [Ho.out, hd.out, if_neg h0]; rfl
end Go.Proofs.Ytenfgahedbeekaa

namespace Go.Proofs.Ytenfgahedbeekaa
open Go.RowKit Go.Deep
set_option linter.unusedVariables false
set_option linter.unusedSimpArgs false

def VT : Nat → Type
  | 0 => Empty
  | k + 1 => Hd × List (VT k)
def hdT : (k : Nat) → VT k → Hd
  | 0, t => Empty.elim t
  | _ + 1, t => t.1
def Rds : (k : Nat) → World → VT k → Prop
  | 0, _, _ => False
  | k + 1, w, t => t.1.In ∧ t.1.n = t.2.length ∧ t.1.n ≤ 1000 ∧ VRd w t.1.a (t.2.map (hdT k)) ∧ ∀ u ∈ t.2, Rds k w u
theorem Rds.below : ∀ (k : Nat) {w w' : World} {t : VT k} {B : Nat}, Rds k w t → w.heap.size ≤ B → Below B w w' → Rds k w' t
  | 0, _, _, _, _, h, _, _ => h.elim
  | k + 1, w, w', t, B, h, hB, kk => ⟨h.1, h.2.1, h.2.2.1, h.2.2.2.1.below hB kk, fun u hu => Rds.below k (h.2.2.2.2 u hu) hB kk⟩
def cH (a b : Hd) : Int := orL [ci a.kind b.kind, ci a.int b.int, cS a.text b.text, ci a.rc b.rc]
def cmpT : (k : Nat) → VT k → VT k → Int
  | 0, _, _ => 0
  | k + 1, s, t => if cH s.1 t.1 = 0 then cmpL (cmpT k) s.2 t.2 else cH s.1 t.1
theorem ord_cH : Ord3 cH := by
  have e : cH = lex (fun a b : Hd => ci a.kind b.kind) (lex (fun a b : Hd => ci a.int b.int) (lex (fun a b : Hd => cS a.text b.text) (fun a b : Hd => ci a.rc b.rc))) := by
    funext a b
    simp only [cH, orL, lex]
    by_cases h : ci a.rc b.rc = 0
    · simp [h]
    · simp [h]
  rw [e]
  exact ord_lex (ord_on ord_ci _) (ord_lex (ord_on ord_ci _) (ord_lex (ord_on ord_cS _) (ord_on ord_ci _)))
theorem ord_cmpT : ∀ k, Ord3 (cmpT k)
  | 0 => ⟨fun _ _ => rfl, fun _ _ _ _ _ => Int.le_refl _⟩
  | k + 1 => by
    have e : cmpT (k + 1) = lex (fun s t : VT (k + 1) => cH s.1 t.1) (fun s t : VT (k + 1) => cmpL (cmpT k) s.2 t.2) := by
      funext s t; rfl
    rw [e]
    exact ord_lex (ord_on ord_cH _) (ord_on (ord_cmpL (ord_cmpT k)) _)
theorem cmpL_zip {α : Type} (f : α → α → Int) : ∀ (l m : List α), cmpL f l m = if orL ((l.zip m).map fun p => f p.1 p.2) = 0 then ci l.length m.length else orL ((l.zip m).map fun p => f p.1 p.2)
  | [], [] => rfl
  | [], _ :: m => by simp only [cmpL, List.zip_nil_left, List.map_nil, orL, if_true, ci, List.length_nil, List.length_cons]; rw [if_pos (by omega)]
  | _ :: l, [] => by simp only [cmpL, List.zip_nil_right, List.map_nil, orL, if_true, ci, List.length_nil, List.length_cons]; rw [if_neg (by omega), if_pos (by omega)]
  | a :: l, b :: m => by
    have ih := cmpL_zip f l m
    have e : ci ((l.length + 1 : Nat) : Int) ((m.length + 1 : Nat) : Int) = ci (l.length : Int) (m.length : Int) := by
      unfold ci
      have h1 : (((l.length + 1 : Nat) : Int) < ((m.length + 1 : Nat) : Int)) ↔ ((l.length : Int) < (m.length : Int)) := by omega
      have h2 : (((m.length + 1 : Nat) : Int) < ((l.length + 1 : Nat) : Int)) ↔ ((m.length : Int) < (l.length : Int)) := by omega
      simp only [h1, h2]
    simp only [cmpL, List.zip_cons_cons, List.map_cons, orL, List.length_cons]
    rw [e]
    by_cases h : f a b = 0
    · rw [if_pos h, if_pos h]; exact ih
    · rw [if_neg h, if_neg h, if_neg h]
theorem orL_zeros {l : List Int} (h : ∀ x ∈ l, x = 0) : orL l = 0 := by
  induction l with
  | nil => rfl
  | cons x l ih => rw [orL, if_pos (h x (by simp))]; exact ih (fun y hy => h y (by simp [hy]))
theorem orL_at {p q : List Int} {x : Int} (h : ∀ y ∈ p, y = 0) (hx : x ≠ 0) : orL (p ++ x :: q) = x := by
  induction p with
  | nil => rw [List.nil_append, orL, if_neg hx]
  | cons y p ih => rw [List.cons_append, orL, if_pos (h y (by simp))]; exact ih (fun z hz => h z (by simp [hz]))

/- Pairs that read in a world. -/
abbrev Pr (k : Nat) (w : World) := { x : VT k × VT k // Rds k w x.1 ∧ Rds k w x.2 }
def prs (k : Nat) (w : World) : (l m : List (VT k)) → (∀ u ∈ l, Rds k w u) → (∀ u ∈ m, Rds k w u) → List (Pr k w)
  | [], _, _, _ => []
  | _ :: _, [], _, _ => []
  | a :: l, b :: m, h1, h2 => ⟨(a, b), h1 a (by simp), h2 b (by simp)⟩ :: prs k w l m (fun u hu => h1 u (by simp [hu])) (fun u hu => h2 u (by simp [hu]))
theorem prs_zip (k : Nat) (w : World) : ∀ (l m : List (VT k)) (h1 : ∀ u ∈ l, Rds k w u) (h2 : ∀ u ∈ m, Rds k w u), (prs k w l m h1 h2).map (fun x => x.1) = l.zip m
  | [], _, _, _ => by simp [prs]
  | _ :: _, [], _, _ => by simp [prs]
  | a :: l, b :: m, h1, h2 => by simp only [prs, List.map_cons, List.zip_cons_cons]; rw [prs_zip k w l m]
theorem prs_length (k : Nat) (w : World) (l m : List (VT k)) (h1 : ∀ u ∈ l, Rds k w u) (h2 : ∀ u ∈ m, Rds k w u) : (prs k w l m h1 h2).length = min l.length m.length := by
  have := congrArg List.length (prs_zip k w l m h1 h2)
  simpa using this
/- What reads a row reads its beginning. -/
theorem VRd.pre {w : World} {a : Option Addr} {l m : List Hd} (h : VRd w a l) (hp : ∀ (j : Nat) (x : Hd), m[j]? = some x → l[j]? = some x) : VRd w a m := fun j x hx => h j x (hp j x hx)
theorem prs_left {k : Nat} {w : World} {l m : List (VT k)} {h1 : ∀ u ∈ l, Rds k w u} {h2 : ∀ u ∈ m, Rds k w u} (j : Nat) (x : Hd) (h : ((prs k w l m h1 h2).map fun x => hdT k x.1.1)[j]? = some x) : (l.map (hdT k))[j]? = some x := by
  have e : (prs k w l m h1 h2).map (fun x => hdT k x.1.1) = (l.zip m).map (fun p => hdT k p.1) := by rw [← prs_zip k w l m h1 h2, List.map_map]; rfl
  rw [e] at h
  simp only [List.getElem?_map, List.getElem?_zip_eq_some, Option.map_eq_some_iff] at h ⊢
  obtain ⟨p, hp, rfl⟩ := h
  exact ⟨_, hp.1, rfl⟩
theorem prs_right {k : Nat} {w : World} {l m : List (VT k)} {h1 : ∀ u ∈ l, Rds k w u} {h2 : ∀ u ∈ m, Rds k w u} (j : Nat) (x : Hd) (h : ((prs k w l m h1 h2).map fun x => hdT k x.1.2)[j]? = some x) : (m.map (hdT k))[j]? = some x := by
  have e : (prs k w l m h1 h2).map (fun x => hdT k x.1.2) = (l.zip m).map (fun p => hdT k p.2) := by rw [← prs_zip k w l m h1 h2, List.map_map]; rfl
  rw [e] at h
  simp only [List.getElem?_map, List.getElem?_zip_eq_some, Option.map_eq_some_iff] at h ⊢
  obtain ⟨p, hp, rfl⟩ := h
  exact ⟨_, hp.2, rfl⟩
end Go.Proofs.Ytenfgahedbeekaa

namespace Go.Proofs.Ytenfgahedbeekaa
open Go.RowKit Go.Deep Go.Shelf
set_option linter.unusedVariables false
set_option linter.unusedSimpArgs false
attribute [local go_sem] Oper.semAt_some

def encP {α : Type} (f g : α → Hd) (x : α) : Array Value := #[(f x).v, (g x).v]
/- What the iterator does. -/
def PairsSaid : Prop := ∀ {α : Type} (f g : α → Hd) (Z : List α) (n : Nat) (hn : 1 ≤ n) (B1 B2 n₀ : Nat) (a1 a2 : Option Addr) (n1 c1 n2 c2 : Nat) (hz : Z.length = min n1 n2) (l1 : n1 ≤ 1000) (l2 : n2 ≤ 1000) (w : World)
    (hn0 : n₀ ≤ w.heap.size) (hb1 : B1 < n₀) (hb2 : B2 < n₀) (hB1 : w.cell? ⟨B1, 0, none⟩ = some (.slice a1 n1 c1)) (hB2 : w.cell? ⟨B2, 0, none⟩ = some (.slice a2 n2 c2))
    (hr1 : VRd w a1 (Z.map f)) (hr2 : VRd w a2 (Z.map g)) (hl1 : Z ≠ [] → ∀ b off, a1 = some ⟨b, off, none⟩ → b < n₀) (hl2 : Z ≠ [] → ∀ b off, a2 = some ⟨b, off, none⟩ → b < n₀),
    SeqStopsK Fence.wide n Try.prog 92 #[.pointer (some ⟨B1, 0, none⟩), .pointer (some ⟨B2, 0, none⟩)] (encP f g) (Below n₀) (fun ys => ys = Z) (fun pre => ∃ k, k ≤ Z.length ∧ pre = Z.take k) Z.length w

set_option maxHeartbeats 400000 in
theorem pairs_in (F : Fence) (n : Nat) (h22 : F.fn 68) (hro : F.round = none) (a1 a2 : Option Addr) (n1 c1 n2 c2 : Nat) (w : World) :
    CallsIn F n Try.prog 68 #[.slice a1 n1 c1, .slice a2 n2 c2] w fun e w' => e = .returned (.func (.func 92) #[] #[.pointer (some ⟨w.heap.size, 0, none⟩), .pointer (some ⟨w.heap.size + 1, 0, none⟩)]) ∧ w' = (w.alloc (.cells #[.slice a1 n1 c1] 29)).alloc (.cells #[.slice a2 n2 c2] 29) := by
  refine callsIn_of_wp Try.func68 rfl h22 ?_ hro
  simp only [Try.ntmps68, List.size_toArray, List.length_cons, List.length_nil, Nat.reduceAdd, Nat.reduceSub, Array.replicate_succ, Array.replicate_zero, List.push_toArray, List.append_toArray, List.nil_append, List.cons_append]
  gi_wp2
  go_ret
  exact ⟨rfl, rfl⟩

theorem or4_cells (w : World) (a b c d : Int) (j : Nat) (x : Int) (hx : [a, b, c, d][j]? = some x) : (w.alloc (.cells #[.int .i64 a, .int .i64 b, .int .i64 c, .int .i64 d] 3)).cell? ⟨w.heap.size, j, none⟩ = some (.int .i64 x) := by
  refine (cellOf (heap_alloc_new w _) j).trans ?_
  match j, hx with
  | 0, hx => cases hx; rfl
  | 1, hx => cases hx; rfl
  | 2, hx => cases hx; rfl
  | 3, hx => cases hx; rfl
  | n + 4, hx => simp at hx

/- Between two rounds: the boxes, and all that lay there ahead of the call. -/
def CI (w : World) (c1 c2 : Array Value) {α : Type} (cm : α → Int) (pre : List α) (W : World) : Prop :=
  (W.heap[w.heap.size]? = some (.cells c1 31 (0, 0)) ∧ W.heap[w.heap.size + 1]? = some (.cells c2 31 (0, 0)) ∧ W.heap[w.heap.size + 2]? = some (.cells #[.int .i64 0] 3 (0, 0))) ∧ (∀ x ∈ pre, cm x = 0) ∧ Below w.heap.size w W ∧ w.heap.size + 6 ≤ W.heap.size
theorem keep_cells {W W' : World} {row : Option Nat} {B b : Nat} {c : Array Value} {t : TypeId} (hs : W.heap[b]? = some (.cells c t (0, 0))) (hg : W.grownBy W' row) (hr : ∀ r, row = some r → B ≤ r ∧ ∃ o : Obj, W.heap[r]? = some o ∧ o.isCells = false) : W'.heap[b]? = some (.cells c t (0, 0)) := by
  rw [hg.block b (Array.getElem?_eq_some_iff.1 hs).1 (fun e => by
    obtain ⟨_, o, ho, hc⟩ := hr b e.symm
    rw [hs] at ho; cases ho; cases hc)]
  exact hs
theorem CI_own (w : World) (c1 c2 : Array Value) {α : Type} (cm : α → Int) {B : Nat} (hB : w.heap.size ≤ B) : OwnFrom B (CI w c1 c2 cm) := fun s A A' row hs hg hr =>
  ⟨⟨keep_cells hs.1.1 hg hr, keep_cells hs.1.2.1 hg hr, keep_cells hs.1.2.2 hg hr⟩, hs.2.1, ownFrom_below (β := Unit) (Nat.le_refl _) hB () A A' row hs.2.2.1 hg hr, Nat.le_trans hs.2.2.2 hg.size⟩
theorem CI.below {w W W' : World} {c1 c2 : Array Value} {α : Type} {cm : α → Int} {pre : List α} (h : CI w c1 c2 cm pre W) (k : Below W.heap.size W W') : CI w c1 c2 cm pre W' := by
  have hl : ∀ {b : Nat} {o : Obj}, W.heap[b]? = some o → W'.heap[b]? = some o := fun e => (k.block _ (Array.getElem?_eq_some_iff.1 e).1).trans e
  exact ⟨⟨hl h.1.1, hl h.1.2.1, hl h.1.2.2⟩, h.2.1, h.2.2.1.trans (k.mono h.2.2.1.size), Nat.le_trans h.2.2.2 k.size⟩
theorem CI.snoc {w W : World} {c1 c2 : Array Value} {α : Type} {cm : α → Int} {pre : List α} {x : α} (h : CI w c1 c2 cm pre W) (hx : cm x = 0) : CI w c1 c2 cm (pre ++ [x]) W := ⟨h.1, fun y hy => by
  rcases List.mem_append.1 hy with hy | hy
  · exact h.2.1 y hy
  · simp at hy; subst hy; exact hx, h.2.2⟩
def CX (w : World) {α : Type} (cm : α → Int) (c : Code) (pre : List α) (W : World) : Prop :=
  c = .ret ∧ ∃ q x, pre = q ++ [x] ∧ (∀ y ∈ q, cm y = 0) ∧ cm x ≠ 0 ∧ W.heap[w.heap.size + 2]? = some (.cells #[.int .i64 (cm x)] 3 (0, 0)) ∧ Below w.heap.size w W
theorem CX_own (w : World) {α : Type} (cm : α → Int) (c : Code) {B : Nat} (hB : w.heap.size ≤ B) : OwnFrom B (CX w cm c) := fun s A A' row hs hg hr => by
  obtain ⟨h1, q, x, h2, h3, h4, h5, h6⟩ := hs
  exact ⟨h1, q, x, h2, h3, h4, keep_cells h5 hg hr, ownFrom_below (β := Unit) (Nat.le_refl _) hB () A A' row h6 hg hr⟩
theorem keepsFrom_below {B : Nat} {W W' : World} (k : Below W.heap.size W W') : KeepsFrom B W W' := ⟨k.size, fun j o _ hj _ => (k.block j (Array.getElem?_eq_some_iff.1 hj).1).trans hj⟩
theorem heap_setCell_at {w : World} {b : Nat} {c : Array Value} {e : TypeId} {f : Nat × Nat} (h : w.heap[b]? = some (.cells c e f)) (i : Nat) (u : Value) :
    (w.setCell ⟨b, i, none⟩ u).heap[b]? = some (.cells (c.setIfInBounds i u) e f) := by
  simp [World.setCell, Array.getElem?_modify, h]
theorem set_cells {W : World} {b : Nat} {v0 : Value} {t : TypeId} (h : W.heap[b]? = some (.cells #[v0] t (0, 0))) (v : Value) : (W.setCell ⟨b, 0, none⟩ v).heap[b]? = some (.cells #[v] t (0, 0)) := by
  have := heap_setCell_at h 0 v
  simpa using this

set_option maxRecDepth 100000 in
set_option maxHeartbeats 2000000 in
theorem compare_step (hpairs : PairsSaid) (k : Nat) (ih : ∀ (w : World) (s t : VT k), Rds k w s → Rds k w t → Calls Try.prog 47 #[(hdT k s).v, (hdT k t).v] w fun e w' => e = .returned (.int .i64 (cmpT k s t)) ∧ Below w.heap.size w w')
    (w : World) (s t : VT (k + 1)) (hs : Rds (k + 1) w s) (ht : Rds (k + 1) w t) :
    Calls Try.prog 47 #[s.1.v, t.1.v] w fun e w' => e = .returned (.int .i64 (cmpT (k + 1) s t)) ∧ Below w.heap.size w w' := by
  obtain ⟨h1, l1⟩ := s
  obtain ⟨h2, l2⟩ := t
  obtain ⟨in1, n1, le1, rd1, fs1⟩ := hs
  obtain ⟨in2, n2, le2, rd2, fs2⟩ := ht
  simp only at in1 n1 le1 rd1 fs1 in2 n2 le2 rd2 fs2
  have hcmp : cmpT (k + 1) (h1, l1) (h2, l2) = if cH h1 h2 = 0 then cmpL (cmpT k) l1 l2 else cH h1 h2 := rfl
  rw [hcmp]
  have Hc0 : Hid (cH h1 h2 = orL [ci h1.kind h2.kind, ci h1.int h2.int, cS h1.text h2.text, ci h1.rc h2.rc]) := hid rfl
  obtain ⟨k1, i1, t1, r1, a1, m1, c1⟩ := h1
  obtain ⟨k2, i2, t2, r2, a2, m2, c2⟩ := h2
  simp only [Hd.v] at Hc0 n1 n2 le1 le2 rd1 rd2 ⊢
  generalize hch : cH ⟨k1, i1, t1, r1, a1, m1, c1⟩ ⟨k2, i2, t2, r2, a2, m2, c2⟩ = ch at *
  have Hn1 := hid n1
  have Hn2 := hid n2
  clear n1 n2 hch hcmp
  have hro : Fence.wide.round = none := rfl
  have hB3 : Below w.heap.size w (((w.alloc (.cells #[.int .i64 k1, .int .i64 i1, .string t1, .int .i64 r1, .slice a1 m1 c1] 31)).alloc (.cells #[.int .i64 k2, .int .i64 i2, .string t2, .int .i64 r2, .slice a2 m2 c2] 31)).alloc (.cells #[.int .i64 0] 3)) := (((Below.refl _ _).alloc (Nat.le_refl _) _).alloc (by simp) _).alloc (by simp; omega) _
  refine (callsIn_wide (n := 6)).1 ?_
  refine callsIn_of_wp_marks Try.func47 rfl trivial ?_ hro
  simp only [Try.ntmps47, List.size_toArray, List.length_cons, List.length_nil, Nat.reduceAdd, Nat.reduceSub, Array.replicate_succ, Array.replicate_zero, List.push_toArray, List.append_toArray, List.nil_append, List.cons_append]
  gi_wp2
  refine wpIn_wide.2 ?_
  obtain ⟨W0, hW0⟩ : ∃ W0, W0 = (((w.alloc (.cells #[.int .i64 k1, .int .i64 i1, .string t1, .int .i64 r1, .slice a1 m1 c1] 31)).alloc (.cells #[.int .i64 k2, .int .i64 i2, .string t2, .int .i64 r2, .slice a2 m2 c2] 31)).alloc (.cells #[.int .i64 0] 3)) := ⟨_, rfl⟩
  rw [← hW0] at hB3 ⊢
  have hz0 : W0.heap.size = w.heap.size + 3 := by rw [hW0]; simp
  have b1 : W0.heap[w.heap.size]? = some (.cells #[.int .i64 k1, .int .i64 i1, .string t1, .int .i64 r1, .slice a1 m1 c1] 31 (0, 0)) := by
    rw [hW0, Below.heap_alloc _ _ _ (by simp; omega), Below.heap_alloc _ _ _ (by simp)]; exact heap_alloc_new w _
  have b2 : W0.heap[w.heap.size + 1]? = some (.cells #[.int .i64 k2, .int .i64 i2, .string t2, .int .i64 r2, .slice a2 m2 c2] 31 (0, 0)) := by
    rw [hW0, Below.heap_alloc _ _ _ (by simp)]
    have := heap_alloc_new (w.alloc (.cells #[.int .i64 k1, .int .i64 i1, .string t1, .int .i64 r1, .slice a1 m1 c1] 31)) (.cells #[.int .i64 k2, .int .i64 i2, .string t2, .int .i64 r2, .slice a2 m2 c2] 31)
    rw [World.size_alloc] at this
    exact this
  have b3 : W0.heap[w.heap.size + 2]? = some (.cells #[.int .i64 0] 3 (0, 0)) := by
    have := heap_alloc_new ((w.alloc (.cells #[.int .i64 k1, .int .i64 i1, .string t1, .int .i64 r1, .slice a1 m1 c1] 31)).alloc (.cells #[.int .i64 k2, .int .i64 i2, .string t2, .int .i64 r2, .slice a2 m2 c2] 31)) (.cells #[.int .i64 0] 3)
    rw [World.size_alloc, World.size_alloc, ← hW0] at this
    exact this
  clear hW0
  have x0 : W0.cell? ⟨w.heap.size, 0, none⟩ = some (.int .i64 k1) := cellOf b1 0
  have x1 : W0.cell? ⟨w.heap.size, 1, none⟩ = some (.int .i64 i1) := cellOf b1 1
  have x2 : W0.cell? ⟨w.heap.size, 2, none⟩ = some (.string t1) := cellOf b1 2
  have x3 : W0.cell? ⟨w.heap.size, 3, none⟩ = some (.int .i64 r1) := cellOf b1 3
  have y0 : W0.cell? ⟨w.heap.size + 1, 0, none⟩ = some (.int .i64 k2) := cellOf b2 0
  have y1 : W0.cell? ⟨w.heap.size + 1, 1, none⟩ = some (.int .i64 i2) := cellOf b2 1
  have y2 : W0.cell? ⟨w.heap.size + 1, 2, none⟩ = some (.string t2) := cellOf b2 2
  have y3 : W0.cell? ⟨w.heap.size + 1, 3, none⟩ = some (.int .i64 r2) := cellOf b2 3
  have Hb1 := hid b1
  have Hb2 := hid b2
  have Hb3 := hid b3
  have HB3 := hid hB3
  have Hcell : Hid (∀ (j : Nat) (x : Int), [ci k1 k2, ci i1 i2, cS t1 t2, ci r1 r2][j]? = some x → (W0.alloc (.cells #[.int .i64 (ci k1 k2), .int .i64 (ci i1 i2), .int .i64 (cS t1 t2), .int .i64 (ci r1 r2)] 3)).drew.cell? ⟨w.heap.size + 3, j, none⟩ = some (.int .i64 x)) := by
    rw [← hz0]
    exact hid (or4_cells W0 (ci k1 k2) (ci i1 i2) (cS t1 t2) (ci r1 r2))
  clear b1 b2 b3 hB3
  go_region_held3 (fun w2 => w2.cell? ⟨w.heap.size, 0, none⟩ = some (.int .i64 k1) ∧ w2.cell? ⟨w.heap.size, 1, none⟩ = some (.int .i64 i1) ∧ w2.cell? ⟨w.heap.size, 2, none⟩ = some (.string t1) ∧ w2.cell? ⟨w.heap.size, 3, none⟩ = some (.int .i64 r1) ∧ w2.cell? ⟨w.heap.size + 1, 0, none⟩ = some (.int .i64 k2) ∧ w2.cell? ⟨w.heap.size + 1, 1, none⟩ = some (.int .i64 i2) ∧ w2.cell? ⟨w.heap.size + 1, 2, none⟩ = some (.string t2) ∧ w2.cell? ⟨w.heap.size + 1, 3, none⟩ = some (.int .i64 r2)) (go_keep) ((first
    | (go_at_call 65; (refine (cmp_i _ _ _).mono ?_; rintro e w5 ⟨rfl, rfl⟩))
    | (go_at_call 66; (refine (cmp_i2 _ _ _).mono ?_; rintro e w5 ⟨rfl, rfl⟩))
    | (go_at_call 67; (refine (cmp_s _ _ _).mono ?_; rintro e w5 ⟨rfl, rfl⟩))
    | (go_at_call 64; (refine (or_any _ (w.heap.size + 3) 4 [ci k1 k2, ci i1 i2, cS t1 t2, ci r1 r2] rfl (by omega) Hcell.out).mono ?_; rintro e w5 ⟨rfl, rfl⟩))))
  rw [← Hc0.out]
  obtain ⟨W1, hW1⟩ : ∃ W1, W1 = (W0.alloc (.cells #[.int .i64 (ci k1 k2), .int .i64 (ci i1 i2), .int .i64 (cS t1 t2), .int .i64 (ci r1 r2)] 3)).drew := ⟨_, rfl⟩
  rw [← hW1]
  have hz1 : W1.heap.size = w.heap.size + 4 := by rw [hW1]; show (W0.alloc _).heap.size = _; simp; omega
  have hold : ∀ b, b < w.heap.size + 3 → W1.heap[b]? = W0.heap[b]? := fun b hb => by rw [hW1]; exact Below.heap_alloc W0 _ b (by omega)
  have d1 := (hold w.heap.size (by omega)).trans Hb1.out
  have d2 := (hold (w.heap.size + 1) (by omega)).trans Hb2.out
  have d3 := (hold (w.heap.size + 2) (by omega)).trans Hb3.out
  have hBw : Below w.heap.size w W1 := by rw [hW1]; exact (HB3.out.alloc (by omega) _).drew
  have q1 : W1.cell? ⟨w.heap.size, 4, none⟩ = some (.slice a1 m1 c1) := cellOf d1 4
  have q2 : W1.cell? ⟨w.heap.size + 1, 4, none⟩ = some (.slice a2 m2 c2) := cellOf d2 4
  have q3 : W1.cell? ⟨w.heap.size + 1 + 1, 0, none⟩ = some (.int .i64 0) := cellOf d3 0
  have q4 : W1.frozen? ⟨w.heap.size + 1 + 1, 0, none⟩ = false := freeOf d3 0
  have D1 := hid d1
  have D2 := hid d2
  have D3 := hid d3
  have HBw := hid hBw
  clear d1 d2 d3 hBw hold hW1 Hb1 Hb2 Hb3 HB3 Hcell x0 x1 x2 x3 y0 y1 y2 y3 Hc0 hz0
  by_cases hch : ch = 0
  · subst hch
    gi_wp2_with (refine ⟨trivial, ?_⟩; gi_at_call 68; refine (pairs_in _ _ trivial hro _ _ _ _ _ _ _).mono ?_; rintro e w2 ⟨rfl, rfl⟩)
    have hcut : ∀ (u : VT k), u ∈ l1 → Rds k w u := fs1
    obtain ⟨Z, hZ⟩ : ∃ Z, Z = prs k w l1 l2 fs1 fs2 := ⟨_, rfl⟩
    have hzl : Z.length = min m1 m2 := by rw [hZ, prs_length, Hn1.out, Hn2.out]
    have hzz : Z.map (fun x => x.1) = l1.zip l2 := by rw [hZ]; exact prs_zip _ _ _ _ _ _
    obtain ⟨W2, hW2⟩ : ∃ W2, W2 = (W1.alloc (.cells #[.slice a1 m1 c1] 29)).alloc (.cells #[.slice a2 m2 c2] 29) := ⟨_, rfl⟩
    rw [← hW2]
    have hz2 : W2.heap.size = w.heap.size + 6 := by rw [hW2]; simp; omega
    have hB12 : Below W1.heap.size W1 W2 := by rw [hW2]; exact ((Below.refl _ _).alloc (Nat.le_refl _) _).alloc (by simp) _
    have e4 : W2.cell? ⟨w.heap.size + 4, 0, none⟩ = some (.slice a1 m1 c1) := by
      have := heap_alloc_new W1 (.cells #[.slice a1 m1 c1] 29)
      rw [hz1] at this
      rw [hW2, World.cell?_of_block (w := W1.alloc (.cells #[.slice a1 m1 c1] 29)) (Below.heap_alloc _ _ _ (by simp; omega))]
      exact cellOf this 0
    have e5 : W2.cell? ⟨w.heap.size + 4 + 1, 0, none⟩ = some (.slice a2 m2 c2) := by
      have := heap_alloc_new (W1.alloc (.cells #[.slice a1 m1 c1] 29)) (.cells #[.slice a2 m2 c2] 29)
      rw [World.size_alloc, hz1, ← hW2] at this
      exact cellOf this 0
    have hBw2 : Below w.heap.size w W2 := HBw.out.trans (hB12.mono (by omega))
    have o1 := (hB12.block _ (by omega)).trans D1.out
    have o2 := (hB12.block _ (by omega)).trans D2.out
    have o3 := (hB12.block _ (by omega)).trans D3.out
    have hvr1 : VRd W2 a1 (Z.map fun x => hdT k x.1.1) := (rd1.below (Nat.le_refl _) hBw2).pre (fun j x h => by rw [hZ] at h; exact prs_left j x h)
    have hvr2 : VRd W2 a2 (Z.map fun x => hdT k x.1.2) := (rd2.below (Nat.le_refl _) hBw2).pre (fun j x h => by rw [hZ] at h; exact prs_right j x h)
    have hlt1 : Z ≠ [] → ∀ b off, a1 = some ⟨b, off, none⟩ → b < W2.heap.size := fun hne b off e => by
      obtain ⟨x, hx⟩ : ∃ x, Z[0]? = some x := by
        cases hc : Z with
        | nil => exact absurd hc hne
        | cons y r => exact ⟨y, rfl⟩
      obtain ⟨b', off', e', hc⟩ := hvr1 0 (hdT k x.1.1) (by simp [hx])
      rw [e] at e'; cases e'
      exact World.block_lt_of_cell? W2 _ ((hc 0 (by omega)).trans rfl)
    have hlt2 : Z ≠ [] → ∀ b off, a2 = some ⟨b, off, none⟩ → b < W2.heap.size := fun hne b off e => by
      obtain ⟨x, hx⟩ : ∃ x, Z[0]? = some x := by
        cases hc : Z with
        | nil => exact absurd hc hne
        | cons y r => exact ⟨y, rfl⟩
      obtain ⟨b', off', e', hc⟩ := hvr2 0 (hdT k x.1.2) (by simp [hx])
      rw [e] at e'; cases e'
      exact World.block_lt_of_cell? W2 _ ((hc 0 (by omega)).trans rfl)
    have hseq := hpairs (fun x : Pr k w => hdT k x.1.1) (fun x : Pr k w => hdT k x.1.2) Z 5 (by omega) (w.heap.size + 4) (w.heap.size + 4 + 1) W2.heap.size a1 a2 m1 c1 m2 c2 hzl le1 le2 W2 (Nat.le_refl _) (by omega) (by omega) e4 e5 hvr1 hvr2 hlt1 hlt2
    have hs2 : w.heap.size ≤ W2.heap.size := by omega
    clear hW2 hvr1 hvr2 hlt1 hlt2 e4 e5 q1 q2 q3 q4 hcut
    refine wpIn_rangeFunc_ownH hro (by omega) (gf := 92) (lb := #[.pointer (some ⟨w.heap.size + 4, 0, none⟩), .pointer (some ⟨w.heap.size + 4 + 1, 0, none⟩)]) rfl trivial (enters_of Try.func92 (by kernel_rfl) rfl) hseq belowK_t (belowK_b (Nat.le_refl _)) (Below.refl _ _) (fun _ => rfl)
      (CI w #[.int .i64 k1, .int .i64 i1, .string t1, .int .i64 r1, .slice a1 m1 c1] #[.int .i64 k2, .int .i64 i2, .string t2, .int .i64 r2, .slice a2 m2 c2] (fun x : Pr k w => cmpT k x.1.1 x.1.2)) (CX w (fun x : Pr k w => cmpT k x.1.1 x.1.2)) (CI_own w _ _ _ hs2) (fun c => CX_own w _ c hs2)
      ⟨⟨o1, o2, o3⟩, by simp, hBw2, by omega⟩
      (fun x a' W => ∃ X1 X2, W.heap[X1]? = some (.cells #[.int .i64 (hdT k x.1.1).kind, .int .i64 (hdT k x.1.1).int, .string (hdT k x.1.1).text, .int .i64 (hdT k x.1.1).rc, .slice (hdT k x.1.1).a (hdT k x.1.1).n (hdT k x.1.1).cap] 31 (0, 0)) ∧ W.heap[X2]? = some (.cells #[.int .i64 (hdT k x.1.2).kind, .int .i64 (hdT k x.1.2).int, .string (hdT k x.1.2).text, .int .i64 (hdT k x.1.2).rc, .slice (hdT k x.1.2).a (hdT k x.1.2).n (hdT k x.1.2).cap] 31 (0, 0)) ∧ a' = { tmps := #[.agg #[.int .i64 k1, .int .i64 i1, .string t1, .int .i64 r1, .slice a1 m1 c1], .agg #[.int .i64 k2, .int .i64 i2, .string t2, .int .i64 r2, .slice a2 m2 c2], .pointer (some ⟨w.heap.size, 0, none⟩), .pointer (some ⟨w.heap.size + 1, 0, none⟩), .pointer (some ⟨w.heap.size + 1 + 1, 0, none⟩), .int .i64 0, .pointer (some ⟨X1, 0, none⟩), .pointer (some ⟨X2, 0, none⟩), undef, .pointer (some ⟨w.heap.size, 0, none⟩), .int .i64 k1, .pointer (some ⟨w.heap.size + 1, 0, none⟩), .int .i64 k2, .int .i64 (ci k1 k2), .pointer (some ⟨w.heap.size, 1, none⟩), .int .i64 i1, .pointer (some ⟨w.heap.size + 1, 1, none⟩), .int .i64 i2, .int .i64 (ci i1 i2), .pointer (some ⟨w.heap.size, 2, none⟩), .string t1, .pointer (some ⟨w.heap.size + 1, 2, none⟩), .string t2, .int .i64 (cS t1 t2), .pointer (some ⟨w.heap.size, 3, none⟩), .int .i64 r1, .pointer (some ⟨w.heap.size + 1, 3, none⟩), .int .i64 r2, .int .i64 (ci r1 r2), .slice (some ⟨w.heap.size + 3, 0, none⟩) 4 4, .int .i64 0, .int .i64 0, .bool false, undef, .pointer (some ⟨w.heap.size, 4, none⟩), .slice a1 m1 c1, .pointer (some ⟨w.heap.size + 1, 4, none⟩), .slice a2 m2 c2, .func (.func 92) #[] #[.pointer (some ⟨w.heap.size + 4, 0, none⟩), .pointer (some ⟨w.heap.size + 4 + 1, 0, none⟩)], .agg #[.int .i64 (hdT k x.1.1).kind, .int .i64 (hdT k x.1.1).int, .string (hdT k x.1.1).text, .int .i64 (hdT k x.1.1).rc, .slice (hdT k x.1.1).a (hdT k x.1.1).n (hdT k x.1.1).cap], .agg #[.int .i64 (hdT k x.1.2).kind, .int .i64 (hdT k x.1.2).int, .string (hdT k x.1.2).text, .int .i64 (hdT k x.1.2).rc, .slice (hdT k x.1.2).a (hdT k x.1.2).n (hdT k x.1.2).cap], undef, undef, undef, undef, undef, undef, undef, undef, undef, undef, undef, undef, undef], defers := [] })
      (fun x a' u A B row hs hg hr => by
        obtain ⟨X1, X2, h2, h3, h4⟩ := hs
        exact ⟨X1, X2, keep_cells h2 hg hr, keep_cells h3 hg hr, h4⟩)
      ?assign ?body ?done ?stop
    case assign =>
      rintro l pre x W K hi hK
      simp only [encP, Hd.v]
      gi_wp2
      have hz := hi.2.2.2
      exact hK _ _ (((KeepsOthers.alloc _ _).trans (KeepsOthers.alloc _ _)).from _) (((Below.refl _ W).alloc (by omega) _).alloc (by simp; omega) _) (((CI_own w _ _ _ hs2).alloc _ ((CI_own w _ _ _ hs2).alloc _ hi))) ⟨W.heap.size, W.heap.size + 1, (Below.heap_alloc _ _ _ (by simp)).trans (heap_alloc_new W _), by have := heap_alloc_new (W.alloc (.cells #[.int .i64 (hdT k x.1.1).kind, .int .i64 (hdT k x.1.1).int, .string (hdT k x.1.1).text, .int .i64 (hdT k x.1.1).rc, .slice (hdT k x.1.1).a (hdT k x.1.1).n (hdT k x.1.1).cap] 31)) (.cells #[.int .i64 (hdT k x.1.2).kind, .int .i64 (hdT k x.1.2).int, .string (hdT k x.1.2).text, .int .i64 (hdT k x.1.2).rc, .slice (hdT k x.1.2).a (hdT k x.1.2).n (hdT k x.1.2).cap] 31); rw [World.size_alloc] at this; exact this, rfl⟩
    case body =>
      rintro l pre x a' W hl ⟨r, hr⟩ hi ⟨X1, X2, hx1, hx2, rfl⟩ hlt
      have hi' := hid hi
      have hR := x.2
      have hc := hid (ih W x.1.1 x.1.2 (Rds.below k hR.1 (Nat.le_refl _) hi.2.2.1) (Rds.below k hR.2 (Nat.le_refl _) hi.2.2.1))
      have g3 : W.cell? ⟨w.heap.size + 1 + 1, 0, none⟩ = some (.int .i64 0) := cellOf hi.1.2.2 0
      have x0 := cellOf hx1 0
      have x1 := cellOf hx1 1
      have x2 := cellOf hx1 2
      have x3 := cellOf hx1 3
      have x4 := cellOf hx1 4
      have y0 := cellOf hx2 0
      have y1 := cellOf hx2 1
      have y2 := cellOf hx2 2
      have y3 := cellOf hx2 3
      have y4 := cellOf hx2 4
      simp only [List.getElem?_toArray, List.getElem?_cons_zero, List.getElem?_cons_succ] at x0 x1 x2 x3 x4 y0 y1 y2 y3 y4
      generalize hcm : cmpT k x.1.1 x.1.2 = cm at hc
      have Hcm := hid hcm
      clear hcm
      simp only [Hd.v] at hc
      generalize hdT k x.1.1 = u at *
      generalize hdT k x.1.2 = v at *
      clear hi hr hseq hx1 hx2 D1 D2 D3 o1 o2 o3
      by_cases hz : cm = 0
      · subst hz
        gi_wp2_with (refine ⟨trivial, ?_⟩; gi_at_call 47; refine (CallsIn.inRound l (callsIn_wide.2 (Hid.out hc))).mono ?_; rintro e w5 ⟨rfl, hb5⟩)
        exact ⟨keepsFrom_below hb5, hb5.mono (by have := hi'.out.2.2.2; omega), (hi'.out.below hb5).snoc Hcm.out⟩
      · have hz' : (cm != 0) = true := by simpa using hz
        gi_wp2_with (refine ⟨trivial, ?_⟩; gi_at_call 47; refine (CallsIn.inRound l (callsIn_wide.2 (Hid.out hc))).mono ?_; rintro e w5 ⟨rfl, hb5⟩; have g5 := ((hi'.out.below hb5).1.2.2); have g6 : w5.cell? ⟨w.heap.size + 1 + 1, 0, none⟩ = some (.int .i64 0) := cellOf g5 0; have g7 : w5.frozen? ⟨w.heap.size + 1 + 1, 0, none⟩ = false := freeOf g5 0)
        refine ⟨(keepsFrom_below hb5).trans ((KeepsOthers.setCell _ _ _).from _), rfl, pre, x, rfl, hi'.out.2.1, ?_, ?_, ?_⟩
        · show cmpT k x.1.1 x.1.2 ≠ 0
          rw [Hcm.out]; exact hz
        · show _ = some (Obj.cells #[Value.int .i64 (cmpT k x.1.1 x.1.2)] 3 (0, 0))
          rw [Hcm.out]; exact set_cells g5 _
        · exact (hi'.out.2.2.1.trans (hb5.mono hi'.out.2.2.1.size)).setCell (p := ⟨w.heap.size + 1 + 1, 0, none⟩) (by show w.heap.size ≤ w.heap.size + 1 + 1; omega) _
    case done =>
      rintro D ys W hD rfl hI hK
      have q1 : W.cell? ⟨w.heap.size, 4, none⟩ = some (.slice a1 m1 c1) := cellOf hI.1.1 4
      have q2 : W.cell? ⟨w.heap.size + 1, 4, none⟩ = some (.slice a2 m2 c2) := cellOf hI.1.2.1 4
      have q3 : W.cell? ⟨w.heap.size + 1 + 1, 0, none⟩ = some (.int .i64 0) := cellOf hI.1.2.2 0
      have q4 : W.frozen? ⟨w.heap.size + 1 + 1, 0, none⟩ = false := freeOf hI.1.2.2 0
      have hval : cmpL (cmpT k) l1 l2 = ci (m1 : Int) (m2 : Int) := by
        rw [cmpL_zip, Hn1.out, Hn2.out, if_pos]
        rw [← hzz, List.map_map]
        refine orL_zeros fun y hy => ?_
        simp only [List.mem_map] at hy
        obtain ⟨x, hx, rfl⟩ := hy
        exact hI.2.1 x hx
      have Hval := hid hval
      have HI := hid hI
      have HK := hid hK
      clear hseq D1 D2 D3 o1 o2 o3 hval hI hK
      gi_wp2_with (refine ⟨trivial, ?_⟩; gi_at_call 65; refine (callsIn_wide.2 (cmp_i _ _ _)).mono ?_; rintro e w5 ⟨rfl, rfl⟩)
      have hK' : (w5.setCell ⟨w.heap.size + 1 + 1, 0, none⟩ (.int .i64 (ci (m1 : Int) (m2 : Int)))).heap[D]? = some (.deferred (some [])) := (Below.heap_setCell _ _ _ _ (by show D ≠ w.heap.size + 1 + 1; omega)).trans HK.out
      have h9 := keep_cells (B := 0) (set_cells HI.out.1.2.2 (.int .i64 (ci (m1 : Int) (m2 : Int)))) (grownBy_putObj' _ D (.deferred none)) (fun r e => by cases e; exact ⟨Nat.zero_le _, _, hK', rfl⟩)
      have h10 : Below w.heap.size w ((w5.setCell ⟨w.heap.size + 1 + 1, 0, none⟩ (.int .i64 (ci (m1 : Int) (m2 : Int)))).putObj D (.deferred none)) := ownFrom_below (β := Unit) (Nat.le_refl _) (Nat.le_refl _) () _ _ _ (HI.out.2.2.1.setCell (p := ⟨w.heap.size + 1 + 1, 0, none⟩) (by show w.heap.size ≤ w.heap.size + 1 + 1; omega) _) (grownBy_putObj' _ D (.deferred none)) (fun r e => by cases e; exact ⟨by omega, _, hK', rfl⟩)
      have q5 := cellOf h9 0
      simp only [List.getElem?_toArray, List.getElem?_cons_zero] at q5
      refine ⟨by simp, .inl ⟨_, _, rfl, run_takeDeferred hK', ?_⟩⟩
      refine ⟨_, by simp [results, Try.results47, go_sem, q5]; rfl, ?_⟩
      exact ⟨by rw [Hval.out], h10⟩
    case stop =>
      rintro D c pre W hD ⟨kk, hkk, rfl⟩ ⟨rfl, q, x, hq, hq0, hx0, h5, h6⟩ hK
      have hval : cmpL (cmpT k) l1 l2 = cmpT k x.1.1 x.1.2 := by
        have e1 : (l1.zip l2).map (fun p => cmpT k p.1 p.2) = Z.map (fun x => cmpT k x.1.1 x.1.2) := by rw [← hzz, List.map_map]; rfl
        have e2 : Z.map (fun x => cmpT k x.1.1 x.1.2) = q.map (fun x => cmpT k x.1.1 x.1.2) ++ cmpT k x.1.1 x.1.2 :: (Z.drop kk).map (fun x => cmpT k x.1.1 x.1.2) := by
          conv => lhs; rw [← List.take_append_drop kk Z, hq]
          simp
        have e3 : orL ((l1.zip l2).map (fun p => cmpT k p.1 p.2)) = cmpT k x.1.1 x.1.2 := by
          rw [e1, e2]
          exact orL_at (fun y hy => by simp only [List.mem_map] at hy; obtain ⟨z, hz, rfl⟩ := hy; exact hq0 z hz) hx0
        rw [cmpL_zip, e3, if_neg hx0]
      have Hval := hid hval
      have HK := hid hK
      clear hseq D1 D2 D3 o1 o2 o3 hval
      gi_wp2
      have h9 := keep_cells (B := 0) h5 (grownBy_putObj' _ D (.deferred none)) (fun r e => by cases e; exact ⟨Nat.zero_le _, _, HK.out, rfl⟩)
      have h10 : Below w.heap.size w (W.putObj D (.deferred none)) := ownFrom_below (β := Unit) (Nat.le_refl _) (Nat.le_refl _) () _ _ _ h6 (grownBy_putObj' _ D (.deferred none)) (fun r e => by cases e; exact ⟨by omega, _, HK.out, rfl⟩)
      have q5 := cellOf h9 0
      simp only [List.getElem?_toArray, List.getElem?_cons_zero] at q5
      refine ⟨by simp, .inl ⟨_, _, rfl, run_takeDeferred HK.out, ?_⟩⟩
      refine ⟨_, by simp [results, Try.results47, go_sem, q5]; rfl, ?_⟩
      exact ⟨by rw [Hval.out], h10⟩
  · have hch' : (ch != 0) = true := by simpa using hch
    gi_wp2
    have q5 : (W1.setCell ⟨w.heap.size + 1 + 1, 0, none⟩ (.int .i64 ch)).cell? ⟨w.heap.size + 1 + 1, 0, none⟩ = some (.int .i64 ch) := World.cell?_setCell_same' _ _ _ (by rw [q3]; rfl)
    refine ⟨_, by simp [results, Try.results47, go_sem, q5]; rfl, ?_⟩
    exact ⟨rfl, HBw.out.setCell (p := ⟨w.heap.size + 1 + 1, 0, none⟩) (by show w.heap.size ≤ w.heap.size + 1 + 1; omega) _⟩
end Go.Proofs.Ytenfgahedbeekaa

