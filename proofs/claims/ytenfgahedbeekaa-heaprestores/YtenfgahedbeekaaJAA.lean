/- Values among the arguments and in rows of the call's own. -/
import Derived.Test.YtenfgahedbeekaaRows
import Derived.WalkKit
import Derived.WalkSpells
import Derived.WalkLawsBesides
import Derived.Deep.OwnRows
import Derived.Maps.AppendAt
import Derived.Deep.AppendLies
import Derived.Lib.AppendStr
import Derived.Deep.LoopGhost
import Derived.Below
namespace Go.Proofs.Ytenfgahedbeekaa
open Go.RowKit Go.Deep
set_option linter.unusedVariables false
set_option linter.unusedSimpArgs false

theorem hid {p : Prop} (h : p) : Hid p := h
theorem cellOf {w : World} {b : Nat} {c : Array Value} {e : TypeId} {f : Nat × Nat} (h : w.heap[b]? = some (.cells c e f)) (i : Nat) : w.cell? ⟨b, i, none⟩ = c[i]? := by
  simp [World.cell?, h]
theorem freeOf {w : World} {b : Nat} {c : Array Value} {e : TypeId} (h : w.heap[b]? = some (.cells c e (0, 0))) (i : Nat) : w.frozen? ⟨b, i, none⟩ = false := by
  simp [World.frozen?, h]

theorem alloc_grown {w : World} {o : Obj} {w' : World} {row : Option Nat} (h : (w.alloc o).grownBy w' row) : w.grownBy w' row :=
  (World.grownBy_alloc w o row).trans h

/- Between w and w' nothing old has turned but v's own row; and the row is v's still, or new. -/
def Grw (w : World) (v : Value) (w' : World) (v' : Value) : Prop := w.grownBy w' v.ownBlock ∧ (v'.ownBlock = v.ownBlock ∨ ∃ g, v'.ownBlock = some g ∧ w.heap.size ≤ g)
theorem Grw.refl (w : World) (v : Value) : Grw w v w v := ⟨⟨rfl, rfl, rfl, Nat.le_refl _, fun _ _ _ => rfl⟩, .inl rfl⟩
theorem Grw.trans {w w1 w2 : World} {v v1 v2 : Value} (h : Grw w v w1 v1) (k : Grw w1 v1 w2 v2) : Grw w v w2 v2 := by
  obtain ⟨h1, h2⟩ := h
  obtain ⟨k1, k2⟩ := k
  refine ⟨⟨k1.os.trans h1.os, k1.tape.trans h1.tape, k1.output.trans h1.output, Nat.le_trans h1.size k1.size, fun j hj hne => ?_⟩, ?_⟩
  · refine (k1.block j (Nat.lt_of_lt_of_le hj h1.size) ?_).trans (h1.block j hj hne)
    rcases h2 with h2 | ⟨g, h2, hg⟩
    · rw [h2]; exact hne
    · rw [h2]; intro e; cases e; omega
  · rcases k2 with k2 | ⟨g, k2, hg⟩
    · rcases h2 with h2 | h2
      · exact .inl (k2.trans h2)
      · obtain ⟨g, h2, hg⟩ := h2; exact .inr ⟨g, k2.trans h2, hg⟩
    · exact .inr ⟨g, k2, Nat.le_trans h1.size hg⟩
theorem Grw.unalloc {w w' : World} {v v' : Value} {o : Obj} (h : Grw (w.alloc o) v w' v') : Grw w v w' v' :=
  ⟨(World.grownBy_alloc w o _).trans h.1, by
    rcases h.2 with h | ⟨g, h, hg⟩
    · exact .inl h
    · exact .inr ⟨g, h, by simp at hg; omega⟩⟩
theorem Grw.old {w w' : World} {v v' : Value} (h : Grw w v w' v') {j : Nat} (hj : j < w.heap.size) (hne : some j ≠ v.ownBlock) : w'.heap[j]? = w.heap[j]? := h.1.block j hj hne
theorem Grw.size {w w' : World} {v v' : Value} (h : Grw w v w' v') : w.heap.size ≤ w'.heap.size := h.1.size

/- A value's five cells: its fields as a slice. -/
structure Hd where
  kind : Int
  int : Int
  text : ByteArray
  rc : Int
  a : Option Addr
  n : Nat
  cap : Nat
def Hd.v (h : Hd) : Value := .agg #[.int .i64 h.kind, .int .i64 h.int, .string h.text, .int .i64 h.rc, .slice h.a h.n h.cap]
structure Hd.In (h : Hd) : Prop where
  i0 : -9223372036854775808 ≤ h.int
  i1 : h.int ≤ 9223372036854775807
  k0 : -9223372036854775808 ≤ h.kind
  k1 : h.kind ≤ 9223372036854775807
  r0 : -9223372036854775808 ≤ h.rc
  r1 : h.rc ≤ 9223372036854775807
  t : h.text.size ≤ 9223372036854775807
  n : h.n ≤ 9223372036854775807

theorem stremp (t : ByteArray) : t.toList.isEmpty = decide (t = ByteArray.empty) := by
  rw [ByteArray.toList_eq]
  by_cases h : t = ByteArray.empty
  · subst h; simp
  · have : ¬ t.data = #[] := fun e => h (by cases t; simp at e; simp [e]; rfl)
    simp [h, this]

def Hd.cs (h : Hd) : List Value := [.int .i64 h.kind, .int .i64 h.int, .string h.text, .int .i64 h.rc, .slice h.a h.n h.cap]
def vv (hs : List Hd) : List Value := hs.flatMap Hd.cs
theorem vv_length (hs : List Hd) : (vv hs).length = hs.length * 5 := by
  induction hs with
  | nil => rfl
  | cons h r ih => simp [vv, Hd.cs] at ih ⊢; omega
theorem vv_snoc (hs : List Hd) (h : Hd) : vv (hs ++ [h]) = vv hs ++ h.cs := by simp [vv]
theorem vv_at (hs : List Hd) : ∀ (j : Nat) (h : Hd), hs[j]? = some h → ∀ i, i < 5 → (vv hs)[j * 5 + i]? = h.cs[i]? := by
  induction hs with
  | nil => intro j h e; simp at e
  | cons x r ih =>
    intro j h e i hi
    have hx : (Hd.cs x).length = 5 := rfl
    cases j with
    | zero =>
      simp at e; subst e
      simp only [vv, List.flatMap_cons]
      rw [List.getElem?_append_left (by omega)]
      simp
    | succ j =>
      simp at e
      simp only [vv, List.flatMap_cons]
      rw [List.getElem?_append_right (by omega), hx, show (j + 1) * 5 + i - 5 = j * 5 + i from by omega]
      exact ih j h e i hi

/- A row of values that is the call's own. -/
def VRow (w : World) (B : Nat) (v : Value) (hs : List Hd) : Prop := w.ownsRow B 31 5 v hs.length (vv hs)
theorem VRow.nil (w : World) (B : Nat) : VRow w B (.slice none 0 0) [] := World.ownsRow_nil w B 31 5
theorem VRow.own {w B v hs} (h : VRow w B v hs) : ∀ k, v.ownBlock = some k → B ≤ k ∧ k < w.heap.size := World.ownsRow.lt h
theorem VRow.same {w w' : World} {B v xs} (h : VRow w B v xs) (e : ∀ g, v.ownBlock = some g → w'.heap[g]? = w.heap[g]?) : VRow w' B v xs := by
  refine ⟨h.1, ?_⟩
  rcases h.2 with hn | ⟨g, cap, cur, rfl, hb, hgg, rest⟩
  · exact .inl hn
  · exact .inr ⟨g, cap, cur, rfl, hb, (e g rfl).trans hgg, rest⟩
theorem VRow.below {w w' : World} {B C v xs} (h : VRow w B v xs) (hC : w.heap.size ≤ C) (k : Below C w w') : VRow w' B v xs :=
  h.same fun g e => k.block g (by have := (h.own g e).2; omega)
theorem VRow.mono {w : World} {B C v xs} (h : VRow w B v xs) (hC : C ≤ B) : VRow w C v xs := by
  refine ⟨h.1, ?_⟩
  rcases h.2 with hn | ⟨g, cap, cur, rfl, hb, rest⟩
  · exact .inl hn
  · exact .inr ⟨g, cap, cur, rfl, by omega, rest⟩
theorem VRow.form {w B v xs} (h : VRow w B v xs) : ∃ a cap, v = .slice a xs.length cap ∧ xs.length ≤ cap := by
  rcases h.2 with ⟨rfl, hn⟩ | ⟨g, cap, cur, rfl, hb, hgg, hc, rest⟩
  · exact ⟨none, 0, by rw [hn], by omega⟩
  · exact ⟨_, _, rfl, hc⟩

/- Values that a slice reads: each its five cells. -/
def VRd (w : World) (a : Option Addr) (hs : List Hd) : Prop := ∀ (j : Nat) (h : Hd), hs[j]? = some h → ∃ b off, a = some ⟨b, off, none⟩ ∧ ∀ i, i < 5 → w.cell? ⟨b, off + j * 5 + i, none⟩ = h.cs[i]?
theorem VRow.rd {w : World} {B a n cap hs} (h : VRow w B (.slice a n cap) hs) : VRd w a hs := by
  intro j x hx
  rcases h.2 with ⟨e, hn⟩ | ⟨g, cap', cur, e, hb, hgg, hc, hm, hs', ht⟩
  · have : hs = [] := List.eq_nil_of_length_eq_zero hn
    subst this; simp at hx
  · cases e
    refine ⟨g, 0, rfl, fun i hi => ?_⟩
    have hv := vv_at hs j x hx i hi
    have hj : j < hs.length := (List.getElem?_eq_some_iff.1 hx).1
    rw [← hv, Nat.zero_add]
    have hlt : j * 5 + i < (vv hs).length := by rw [vv_length]; omega
    obtain ⟨u, hu⟩ : ∃ u, (vv hs)[j * 5 + i]? = some u := ⟨_, List.getElem?_eq_getElem hlt⟩
    have := World.ownsRow.cells h (g := g) rfl _ u hu
    rw [Addr.add_lit, Nat.zero_add] at this
    rw [this, hu]
theorem VRd.below {w w' : World} {a hs B} (h : VRd w a hs) (hB : w.heap.size ≤ B) (k : Below B w w') : VRd w' a hs := by
  intro j x hx
  obtain ⟨b, off, rfl, hc⟩ := h j x hx
  refine ⟨b, off, rfl, fun i hi => ?_⟩
  have h0 := hc 0 (by omega)
  have hb : b < w.heap.size := World.block_lt_of_cell? w _ (h0.trans (show x.cs[0]? = some (.int .i64 x.kind) from rfl))
  rw [World.cell?_of_block (w := w) (k.block b (by omega))]
  exact hc i hi

def zeroV : Value := .agg #[.int .i64 0, .int .i64 0, .string ⟨#[]⟩, .int .i64 0, .slice none 0 0]
theorem info31 : (Try.prog.info? 31).map (fun i => (i.zero, i.size, i.bytes)) = some (some zeroV, 5, 64) := by kernel_rfl
theorem cs_one (h : Hd) : ∀ u ∈ h.cs, u.oneCell' = true := by
  intro u hu
  simp only [Hd.cs, List.mem_cons, List.mem_nil_iff, or_false] at hu
  rcases hu with rfl | rfl | rfl | rfl | rfl <;> rfl


/- Three levels of fields. -/
structure Deep (w : World) (h : Hd) (fs : List Hd) (gs : Nat → List Hd) : Prop where
  hin : h.In
  n : h.n = fs.length
  rd : VRd w h.a fs
  fin : ∀ f ∈ fs, f.In
  gn : ∀ (j : Nat) (f : Hd), fs[j]? = some f → f.n = (gs j).length
  grd : ∀ (j : Nat) (f : Hd), fs[j]? = some f → VRd w f.a (gs j)
  gin : ∀ (j : Nat) (g : Hd), g ∈ gs j → g.In
theorem Deep.below {w w' : World} {h fs gs} {B : Nat} (d : Deep w h fs gs) (hB : w.heap.size ≤ B) (k : Below B w w') : Deep w' h fs gs :=
  ⟨d.hin, d.n, d.rd.below hB k, d.fin, d.gn, fun j f e => (d.grd j f e).below hB k, d.gin⟩
/- A value that isn't great: nothing stands within its fields' fields. -/
def SmB (h : Hd) (fs : List Hd) (gs : Nat → List Hd) : Prop := h.n ≤ 20 ∧ (∀ f ∈ fs, f.n ≤ 3) ∧ ∀ (j : Nat), j < fs.length → ∀ g ∈ gs j, g.n = 0
def Sm (w : World) (h : Hd) : Prop := ∃ fs gs, Deep w h fs gs ∧ SmB h fs gs
theorem Sm.below {w w' : World} {h : Hd} {B : Nat} (d : Sm w h) (hB : w.heap.size ≤ B) (k : Below B w w') : Sm w' h := by
  obtain ⟨fs, gs, d1, d2⟩ := d
  exact ⟨fs, gs, d1.below hB k, d2⟩
def SmP (h : Hd) (fs : List Hd) (gs : Nat → List Hd) (e : Ending) : Prop := ∃ b, e = .returned (.bool b) ∧ (b = true → SmB h fs gs)

def AccA (fs : List Hd) (gs : Nat → List Hd) (i : Nat) : Prop := ∀ (j : Nat) (f : Hd), j < i → fs[j]? = some f → f.n ≤ 3 ∧ ∀ g ∈ gs j, g.n = 0
def AccB (l : List Hd) (k : Nat) : Prop := ∀ (j : Nat) (q : Hd), j < k → l[j]? = some q → q.n = 0
theorem AccB.snoc {l : List Hd} {k : Nat} {q : Hd} (h : AccB l k) (e : l[k]? = some q) (hq : q.n = 0) : AccB l (k + 1) := fun j x hj ex => by
  rcases Nat.lt_or_ge j k with h1 | h1
  · exact h j x h1 ex
  · obtain rfl : j = k := by omega
    rw [e] at ex; cases ex; exact hq
theorem AccB.all {l : List Hd} (h : AccB l l.length) : ∀ g ∈ l, g.n = 0 := fun g hg => by
  obtain ⟨j, hj⟩ := List.getElem?_of_mem hg
  exact h j g (List.getElem?_eq_some_iff.1 hj).1 hj
theorem AccA.snoc {fs : List Hd} {gs : Nat → List Hd} {i : Nat} {f : Hd} (h : AccA fs gs i) (e : fs[i]? = some f) (h1 : f.n ≤ 3) (h2 : ∀ g ∈ gs i, g.n = 0) : AccA fs gs (i + 1) := fun j x hj ex => by
  rcases Nat.lt_or_ge j i with h3 | h3
  · exact h j x h3 ex
  · obtain rfl : j = i := by omega
    rw [e] at ex; cases ex; exact ⟨h1, h2⟩
theorem AccA.all {fs : List Hd} {gs : Nat → List Hd} (h : AccA fs gs fs.length) : (∀ f ∈ fs, f.n ≤ 3) ∧ ∀ (j : Nat), j < fs.length → ∀ g ∈ gs j, g.n = 0 := by
  constructor
  · intro f hf
    obtain ⟨j, hj⟩ := List.getElem?_of_mem hf
    exact (h j f (List.getElem?_eq_some_iff.1 hj).1 hj).1
  · intro j hj
    exact (h j fs[j] hj (by simp [hj])).2

set_option maxRecDepth 10000 in
set_option maxHeartbeats 1000000 in
theorem small_any (w : World) (h : Hd) (fs : List Hd) (gs : Nat → List Hd) (d : Deep w h fs gs) :
    Calls Try.prog 37 #[h.v] w fun e w' => SmP h fs gs e ∧ Below w.heap.size w w' := by
  have hbx : Below w.heap.size w (w.alloc (.cells h.v.cells 31)) := (Below.refl _ _).alloc (Nat.le_refl _) _
  have D := hid (d.below (Nat.le_refl _) hbx)
  have D0 := hid d
  have ht := d.hin.t
  have hn := d.hin.n
  obtain ⟨kind, int, text, rc, a, n, cap⟩ := h
  simp only [Hd.v, Value.cells] at D ht hn ⊢
  have hBW := hid hbx
  simp only [Hd.v, Value.cells] at hBW
  clear d hbx
  rcases Nat.lt_or_ge 300 text.size with t1 | t1
  · go_enter Try.func37, Try.ntmps37
    go_wp2
    go_ret
    exact ⟨⟨false, rfl, fun h => by cases h⟩, hBW.out⟩
  · rcases Nat.lt_or_ge 20 n with n1 | n1
    · go_enter Try.func37, Try.ntmps37
      go_wp2
      go_ret
      exact ⟨⟨false, rfl, fun h => by cases h⟩, hBW.out⟩
    · have s4 : (w.alloc (.cells #[.int .i64 kind, .int .i64 int, .string text, .int .i64 rc, .slice a n cap] 31)).cell? ⟨w.heap.size, 4, none⟩ = some (.slice a n cap) := cellOf (heap_alloc_new w _) 4
      go_enter Try.func37, Try.ntmps37
      go_wp2
      generalize (w.alloc (.cells #[.int .i64 kind, .int .i64 int, .string text, .int .i64 rc, .slice a n cap] 31)) = W at *
      go_loopg [3] n (fun g ii wr => ∃ i : Nat, i + g = n ∧ ii = .int .i64 (i : Int) ∧ wr = W ∧ AccA fs gs i)
      case atStart => exact ⟨0, by omega, rfl, rfl, fun j f hj => by omega⟩
      case round =>
        obtain ⟨i, hi, rfl, rfl, hAc⟩ := hrel
        have HAc := hid hAc
        clear hAc
        have Hi := hid hi
        cases gk with
        | zero =>
          have hin' : i = n := by omega
          clear hi
          subst hin'
          go_wp2
          go_ret
          refine ⟨⟨true, rfl, fun _ => ⟨n1, ?_⟩⟩, hBW.out⟩
          have hA := HAc.out
          rw [show i = fs.length from D0.out.n] at hA
          exact hA.all
        | succ g =>
          have hlt : i < n := by omega
          clear hi
          obtain ⟨f, hfi⟩ : ∃ f, fs[i]? = some f := ⟨fs[i]'(by have := D.out.n; simp only at this; omega), by rw [List.getElem?_eq_getElem]⟩
          obtain ⟨b1, o1, ea, e1⟩ := D.out.rd i f hfi
          simp only at ea
          subst ea
          have fin := D.out.fin f (List.mem_of_getElem? hfi)
          have gn := hid (D.out.gn i f hfi)
          have grd := hid (D.out.grd i f hfi)
          have gin := hid (D.out.gin i)
          have x2 := e1 2 (by omega)
          have x4 := e1 4 (by omega)
          obtain ⟨fk, fi, ft, fr, fa, fn, fc⟩ := f
          have ft1 := fin.t
          have fn1 := fin.n
          simp only [Hd.cs, List.getElem?_cons_zero, List.getElem?_cons_succ, Nat.add_zero] at x2 x4 ft1 fn1
          have Hfi := hid hfi
          clear e1 hfi fin
          rcases Nat.lt_or_ge 300 ft.size with t2 | t2
          · go_wp2
            go_ret
            exact ⟨⟨false, rfl, fun h => by cases h⟩, hBW.out⟩
          · rcases Nat.lt_or_ge 3 fn with n2 | n2
            · go_wp2
              go_ret
              exact ⟨⟨false, rfl, fun h => by cases h⟩, hBW.out⟩
            · go_wp2
              go_loopg [4] fn (fun g2 kk wr2 => ∃ k : Nat, k + g2 = fn ∧ kk = .int .i64 (k : Int) ∧ wr2 = wr ∧ AccB (gs i) k)
              case atStart => exact ⟨0, by omega, rfl, rfl, fun j f hj => by omega⟩
              case round =>
                obtain ⟨k, hk, rfl, rfl, hAb⟩ := hrel
                have HAb := hid hAb
                clear hAb
                have Hk := hid hk
                cases gk with
                | zero =>
                  have hk' : k = fn := by omega
                  clear hk
                  subst hk'
                  go_wp2
                  go_roundg g
                  case measure => omega
                  case rel => exact ⟨i + 1, by have := Hi.out; omega, by go_num, rfl, HAc.out.snoc Hfi.out n2 (by have hB := HAb.out; rw [show k = (gs i).length from gn.out] at hB; exact hB.all)⟩
                | succ g2 =>
                  have hlt2 : k < fn := by omega
                  clear hk
                  obtain ⟨q, hq⟩ : ∃ q, (gs i)[k]? = some q := ⟨(gs i)[k]'(by have := gn.out; (try simp only at this); omega), by rw [List.getElem?_eq_getElem]⟩
                  obtain ⟨b2, o2, ea2, e2⟩ := grd.out k q hq
                  (try simp only at ea2)
                  subst ea2
                  have qin := gin.out q (List.mem_of_getElem? hq)
                  have y2 := e2 2 (by omega)
                  have y4 := e2 4 (by omega)
                  obtain ⟨qk, qi, qt, qr, qa, qn, qc⟩ := q
                  have qt1 := qin.t
                  have qn1 := qin.n
                  simp only [Hd.cs, List.getElem?_cons_zero, List.getElem?_cons_succ, Nat.add_zero] at y2 y4 qt1 qn1
                  have Hq := hid hq
                  clear e2 hq qin
                  rcases Nat.lt_or_ge 0 qn with n3 | n3
                  · go_wp2
                    go_ret
                    exact ⟨⟨false, rfl, fun h => by cases h⟩, hBW.out⟩
                  · rcases Nat.lt_or_ge 300 qt.size with t3 | t3
                    · go_wp2
                      go_ret
                      exact ⟨⟨false, rfl, fun h => by cases h⟩, hBW.out⟩
                    · go_wp2
                      go_roundg g2
                      case measure => omega
                      case rel => exact ⟨k + 1, by have := Hk.out; omega, by go_num, rfl, HAb.out.snoc Hq.out (by simp only; omega)⟩

end Go.Proofs.Ytenfgahedbeekaa

namespace Go.Proofs.Ytenfgahedbeekaa
open Go.RowKit Go.Deep
set_option linter.unusedVariables false
set_option linter.unusedSimpArgs false

def simpleB (h : Hd) : Bool := decide (h.rc = 0) && decide (h.n = 0) &&
  (decide (h.kind = 1) && decide (h.text = ByteArray.empty) || decide (h.kind = 2) && decide (h.int = 0) && decide (h.text.size ≤ 64) || decide (h.kind = 3) && decide (h.text = ByteArray.empty) && (decide (h.int = 0) || decide (h.int = 1)))

def plainB (h : Hd) (fs : List Hd) : Bool := if h.kind = 4 then decide (h.int = 0) && decide (h.text = ByteArray.empty) && decide (0 ≤ h.rc) && decide (h.rc ≤ 15) && decide (h.n ≤ 12) && fs.all simpleB else simpleB h
theorem plainB_rec {h : Hd} {fs : List Hd} (hk : h.kind = 4) : plainB h fs = (decide (h.int = 0) && decide (h.text = ByteArray.empty) && decide (0 ≤ h.rc) && decide (h.rc ≤ 15) && decide (h.n ≤ 12) && fs.all simpleB) := by unfold plainB; rw [if_pos hk]

theorem res_cells {w w2 : World} {c : Array Value} (h : Below (w.heap.size + 1) (w.alloc (.cells c 31)) w2) : w2.heap[w.heap.size]? = some (.cells c 31 (0, 0)) := by
  rw [h.block _ (by omega)]; exact heap_alloc_new w _
theorem all_drop {fs : List Hd} {i : Nat} {f : Hd} (h : fs[i]? = some f) : (fs.drop i).all simpleB = (simpleB f && (fs.drop (i + 1)).all simpleB) := by
  have hlt : i < fs.length := (List.getElem?_eq_some_iff.1 h).1
  rw [List.drop_eq_getElem_cons hlt]
  have : fs[i] = f := by simpa [hlt] using h
  rw [this]; rfl

theorem simpleB_cases {h : Hd} (hs : simpleB h = true) : h.rc = 0 ∧ h.n = 0 ∧ ((h.kind = 1 ∧ h.text = ByteArray.empty) ∨ (h.kind = 2 ∧ h.int = 0 ∧ h.text.size ≤ 64) ∨ (h.kind = 3 ∧ h.text = ByteArray.empty ∧ (h.int = 0 ∨ h.int = 1))) := by
  simp only [simpleB, Bool.and_eq_true, Bool.or_eq_true, decide_eq_true_eq] at hs
  obtain ⟨⟨h1, h2⟩, (⟨h3, h4⟩ | ⟨⟨h3, h4⟩, h5⟩) | ⟨⟨h3, h4⟩, h5⟩⟩ := hs
  · exact ⟨h1, h2, .inl ⟨h3, h4⟩⟩
  · exact ⟨h1, h2, .inr (.inl ⟨h3, h4, h5⟩)⟩
  · exact ⟨h1, h2, .inr (.inr ⟨h3, h4, h5⟩)⟩
end Go.Proofs.Ytenfgahedbeekaa

