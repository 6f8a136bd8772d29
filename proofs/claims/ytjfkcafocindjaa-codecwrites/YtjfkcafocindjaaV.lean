/- The statement's Same and All, at values that are alike. -/
import Derived.Test.YtjfkcafocindjaaU
import Derived.Deep.RegionHeld3
import Derived.BigQuiet
namespace Go.Proofs.Ytjfkcafocindjaa
open Go.RowKit Go.Deep
set_option linter.unusedVariables false
set_option linter.unusedSimpArgs false

theorem bytesLess_self : ∀ l : List UInt8, Op.bytesLess l l = false
  | [] => rfl
  | a :: l => by simp [Op.bytesLess, bytesLess_self l]

set_option maxHeartbeats 400000 in
theorem order_ff (w : World) : Calls Try.prog 49 #[.bool false, .bool false] w fun e w' => e = .returned (.int .i64 0) ∧ w' = w := by
  go_enter Try.func49, Try.ntmps49
  go_wp2
  go_ret
  exact ⟨rfl, rfl⟩

set_option maxRecDepth 10000 in
set_option maxHeartbeats 1000000 in
theorem compare_flat (w : World) (kind int rc : Int) (text : ByteArray) (a1 a2 : Option Addr) (c1 c2 : Nat) :
    Calls Try.prog 42 #[Hd.v ⟨kind, int, text, rc, a1, 0, c1⟩, Hd.v ⟨kind, int, text, rc, a2, 0, c2⟩] w fun e w' => e = .returned (.int .i64 0) ∧ Below w.heap.size w w' := by
  simp only [Hd.v]
  have hb := bytesLess_self text.toList
  have ho := hid (fun w => order_ff w)
  go_enter Try.func42, Try.ntmps42
  go_wp2_with (go_at_call 49; (refine (Hid.out ho _).mono ?_; rintro e w2 ⟨rfl, rfl⟩))
  refine wp_loop_rounds 1 ?_
  rw [rounds_succ]
  go_wp2_with (go_at_call 49; (refine (Hid.out ho _).mono ?_; rintro e w2 ⟨rfl, rfl⟩))
  go_ret
  exact ⟨rfl, ((Below.refl _ _).alloc (Nat.le_refl _) _).alloc (by simp) _⟩

theorem box_pair {w wr : World} {c1 c2 : Array Value} (h : Below (w.heap.size + 2) ((w.alloc (.cells c1 45)).alloc (.cells c2 45)) wr) : wr.heap[w.heap.size]? = some (.cells c1 45 (0, 0)) ∧ wr.heap[w.heap.size + 1]? = some (.cells c2 45 (0, 0)) := by
  constructor
  · rw [h.block _ (by omega), Below.heap_alloc _ _ _ (by simp)]; exact heap_alloc_new w _
  · rw [h.block _ (by omega)]
    have := heap_alloc_new (w.alloc (.cells c1 45)) (.cells c2 45)
    rw [World.size_alloc] at this
    exact this

set_option maxRecDepth 10000 in
set_option maxHeartbeats 1000000 in
theorem compare_alike (w : World) (kind int rc : Int) (text : ByteArray) (a1 a2 : Option Addr) (n c1 c2 : Nat) (fs : List Hd) (hn : n = fs.length) (hn2 : n ≤ 1000) (r1 : VRd w a1 fs) (r2 : VRd w a2 fs) (hf : ∀ f ∈ fs, f.n = 0) :
    Calls Try.prog 42 #[Hd.v ⟨kind, int, text, rc, a1, n, c1⟩, Hd.v ⟨kind, int, text, rc, a2, n, c2⟩] w fun e w' => e = .returned (.int .i64 0) ∧ Below w.heap.size w w' := by
  simp only [Hd.v]
  have hb := bytesLess_self text.toList
  have ho := hid (fun w => order_ff w)
  have hc := hid (fun w k i t r a b c d => compare_flat w k i r t a b c d)
  have Hn := hid hn
  clear hn
  have hB0 : Below w.heap.size w ((w.alloc (.cells #[.int .i64 kind, .int .i64 int, .string text, .int .i64 rc, .slice a1 n c1] 45)).alloc (.cells #[.int .i64 kind, .int .i64 int, .string text, .int .i64 rc, .slice a2 n c2] 45)) := ((Below.refl _ _).alloc (Nat.le_refl _) _).alloc (by simp) _
  go_enter Try.func42, Try.ntmps42
  go_wp2_with (go_at_call 49; (refine (Hid.out ho _).mono ?_; rintro e w2 ⟨rfl, rfl⟩))
  go_loopg [5, 6] n (fun g cc ii wr => ∃ i : Nat, i + g = n ∧ cc = .int .i64 0 ∧ ii = .int .i64 (i : Int) ∧ Below (w.heap.size + 2) ((w.alloc (.cells #[.int .i64 kind, .int .i64 int, .string text, .int .i64 rc, .slice a1 n c1] 45)).alloc (.cells #[.int .i64 kind, .int .i64 int, .string text, .int .i64 rc, .slice a2 n c2] 45)) wr)
  case atStart => exact ⟨0, by omega, rfl, rfl, Below.refl _ _⟩
  case round =>
    obtain ⟨i, hi, rfl, rfl, hbel⟩ := hrel
    have Hi := hid hi
    have Hbel := hid hbel
    obtain ⟨p1, p2⟩ := box_pair hbel
    have s14 := cellOf p1 4
    have s24 := cellOf p2 4
    simp only [List.getElem?_toArray, List.getElem?_cons_zero, List.getElem?_cons_succ] at s14 s24
    have q1 := hid (r1.below (Nat.le_refl _) (hB0.trans (hbel.mono (by omega))))
    have q2 := hid (r2.below (Nat.le_refl _) (hB0.trans (hbel.mono (by omega))))
    clear p1 p2 hbel
    cases gk with
    | zero =>
      have hin : i = n := by omega
      clear hi
      subst hin
      go_wp2_with (go_at_call 49; (refine (Hid.out ho _).mono ?_; rintro e w2 ⟨rfl, rfl⟩))
      go_ret
      exact ⟨rfl, hB0.trans (Hbel.out.mono (by omega))⟩
    | succ g =>
      have hin : i < n := by omega
      clear hi
      obtain ⟨f, hfi⟩ : ∃ f, fs[i]? = some f := ⟨fs[i]'(by rw [← Hn.out]; exact hin), by rw [List.getElem?_eq_getElem]⟩
      have hf0 := hf f (List.mem_of_getElem? hfi)
      obtain ⟨b1, o1, rfl, e1⟩ := q1.out i f hfi
      obtain ⟨b2, o2, rfl, e2⟩ := q2.out i f hfi
      obtain ⟨fk, fi, ft, fr, fa, fn, fc⟩ := f
      simp only at hf0
      subst hf0
      have x0 := e1 0 (by omega)
      have x1 := e1 1 (by omega)
      have x2 := e1 2 (by omega)
      have x3 := e1 3 (by omega)
      have x4 := e1 4 (by omega)
      have y0 := e2 0 (by omega)
      have y1 := e2 1 (by omega)
      have y2 := e2 2 (by omega)
      have y3 := e2 3 (by omega)
      have y4 := e2 4 (by omega)
      simp only [Hd.cs, List.getElem?_cons_zero, List.getElem?_cons_succ, Nat.add_zero] at x0 x1 x2 x3 x4 y0 y1 y2 y3 y4
      have hc' := hid (fun w => Hid.out hc w fk fi ft fr fa fa fc fc)
      simp only [Hd.v] at hc'
      clear e1 e2 hfi q1 q2 hc
      go_wp2_with fail
      go_region_held3 (fun w2 => w2.cell? ⟨w.heap.size, 4, none⟩ = some (.slice (some ⟨b1, o1, none⟩) n c1) ∧ w2.cell? ⟨w.heap.size + 1, 4, none⟩ = some (.slice (some ⟨b2, o2, none⟩) n c2) ∧ w2.cell? ⟨b1, o1 + i * 5, none⟩ = some (.int .i64 fk) ∧ w2.cell? ⟨b1, o1 + i * 5 + 1, none⟩ = some (.int .i64 fi) ∧ w2.cell? ⟨b1, o1 + i * 5 + 2, none⟩ = some (.string ft) ∧ w2.cell? ⟨b1, o1 + i * 5 + 3, none⟩ = some (.int .i64 fr) ∧ w2.cell? ⟨b1, o1 + i * 5 + 4, none⟩ = some (.slice fa 0 fc) ∧ w2.cell? ⟨b2, o2 + i * 5, none⟩ = some (.int .i64 fk) ∧ w2.cell? ⟨b2, o2 + i * 5 + 1, none⟩ = some (.int .i64 fi) ∧ w2.cell? ⟨b2, o2 + i * 5 + 2, none⟩ = some (.string ft) ∧ w2.cell? ⟨b2, o2 + i * 5 + 3, none⟩ = some (.int .i64 fr) ∧ w2.cell? ⟨b2, o2 + i * 5 + 4, none⟩ = some (.slice fa 0 fc)) (first | exact ⟨tt _ _ s14, tt _ _ s24, tt _ _ x0, tt _ _ x1, tt _ _ x2, tt _ _ x3, tt _ _ x4, tt _ _ y0, tt _ _ y1, tt _ _ y2, tt _ _ y3, tt _ _ y4⟩ | go_keep) ((go_at_call 42; (refine (Hid.out hc' _).mono ?_; rintro e w9 ⟨rfl, hB9⟩; have tt : ∀ (p : Addr) (v : Value), wr.cell? p = some v → w9.cell? p = some v := fun p v h => (hB9.cell (p := p) (World.block_lt_of_cell? wr p h)).trans h)))
      have Htt := hid tt
      clear tt
      go_wp2
      go_roundg g
      case measure => omega
      case rel => exact ⟨i + 1, by have := Hi.out; omega, rfl, by go_num, (Hbel.out.drew).trans (hB9.mono (by have := Hbel.out.size; simp at this; exact this))⟩

theorem simpD_n {bs : List Nat} {h : Hd} {k : Nat} (e : simpD bs = some (h, k)) : h.n = 0 := (simpD_flat e).1
theorem goD_flat {bs : List Nat} : ∀ (c i : Nat) (acc xs : List Hd) (k : Nat), (∀ f ∈ acc, f.n = 0) → goD simpD bs c i acc = some (xs, k) → (∀ f ∈ xs, f.n = 0) ∧ xs.length = acc.length + c
  | 0, i, acc, xs, k, ha, e => by simp only [goD] at e; cases e; exact ⟨ha, rfl⟩
  | c + 1, i, acc, xs, k, ha, e => by
    simp only [goD] at e
    split at e
    · cases e
    · rename_i x q hd
      have := goD_flat c (i + q) (acc ++ [x]) xs k (fun f hf => by
        rcases List.mem_append.1 hf with hf | hf
        · exact ha f hf
        · simp at hf; subst hf; exact simpD_n hd) e
      exact ⟨this.1, by simp at this; omega⟩
theorem rowD_flat {bs : List Nat} {xs : List Hd} {k : Nat} (e : rowD simpD bs = some (xs, k)) : (∀ f ∈ xs, f.n = 0) ∧ xs.length ≤ 12 := by
  unfold rowD at e
  split at e
  · cases e
  · split at e
    · cases e
    · have := goD_flat _ _ [] xs k (fun f hf => by cases hf) e
      exact ⟨this.1, by simp at this; omega⟩
def Flat (x : Vl) : Prop := (∀ f ∈ x.fs, f.n = 0) ∧ x.fs.length ≤ 12
theorem valD_flat {bs : List Nat} {x : Vl} {k : Nat} (e : valD bs = some (x, k)) : Flat x := by
  cases bs with
  | nil => cases e
  | cons c r =>
    simp only [valD] at e
    split at e
    · split at e
      · cases e
      · split at e
        · cases e
        · split at e
          · cases e
          · rename_i fs k' hrd
            cases e
            exact rowD_flat hrd
    · split at e
      · cases e
      · cases e
        exact ⟨fun f hf => (by cases hf), by simp [vl]⟩

theorem compare_rep (w : World) (x : Vl) (h1 h2 : Hd) (hx : Flat x) (r1 : Rep w x h1) (r2 : Rep w x h2) :
    Calls Try.prog 42 #[h1.v, h2.v] w fun e w' => e = .returned (.int .i64 0) ∧ Below w.heap.size w w' := by
  obtain ⟨k1, i1, t1, c1, a1, n1, p1⟩ := h1
  obtain ⟨k2, i2, t2, c2, a2, n2, p2⟩ := h2
  obtain ⟨e1, e2, e3, e4, e5, e6⟩ := r1
  obtain ⟨g1, g2, g3, g4, g5, g6⟩ := r2
  simp only at e1 e2 e3 e4 e5 e6 g1 g2 g3 g4 g5 g6
  subst e1 e2 e3 e4 e5
  subst g1 g2 g3 g4 g5
  have := hx.2
  exact compare_alike w _ _ _ _ a1 a2 _ p1 p2 x.fs rfl (by omega) e6 g6 hx.1

set_option maxHeartbeats 400000 in
theorem same_rep (w : World) (x : Vl) (h1 h2 : Hd) (hx : Flat x) (r1 : Rep w x h1) (r2 : Rep w x h2) :
    Calls Try.prog 25 #[h1.v, h2.v] w fun e w' => e = .returned (.bool true) ∧ Below w.heap.size w w' := by
  have hB0 : Below w.heap.size w ((w.alloc (.cells h1.v.cells 45)).alloc (.cells h2.v.cells 45)) := ((Below.refl _ _).alloc (Nat.le_refl _) _).alloc (by simp) _
  have hc := hid (compare_rep ((w.alloc (.cells h1.v.cells 45)).alloc (.cells h2.v.cells 45)) x h1 h2 hx (r1.below (Nat.le_refl _) hB0) (r2.below (Nat.le_refl _) hB0))
  obtain ⟨k1, i1, t1, c1, a1, n1, p1⟩ := h1
  obtain ⟨k2, i2, t2, c2, a2, n2, p2⟩ := h2
  simp only [Hd.v, Value.cells] at hc hB0 ⊢
  clear r1 r2 hx
  go_enter Try.func25, Try.ntmps25
  go_wp2_with (go_at_call 42; (refine (Hid.out hc).mono ?_; rintro e w9 ⟨rfl, hB9⟩))
  go_ret
  exact ⟨rfl, hB0.trans (hB9.mono (by simp; omega))⟩

set_option maxHeartbeats 1000000 in
theorem all_rep (w : World) (a1 a2 : Option Addr) (n c1 c2 : Nat) (xs : List Vl) (hs1 hs2 : List Hd) (hn : n = xs.length) (hn2 : n ≤ 1000) (hx : ∀ x ∈ xs, Flat x) (v1 : VRd w a1 hs1) (v2 : VRd w a2 hs2) (r1 : Reps w xs hs1) (r2 : Reps w xs hs2) :
    Calls Try.prog 28 #[.slice a1 n c1, .slice a2 n c2] w fun e w' => e = .returned (.bool true) ∧ Below w.heap.size w w' := by
  have Hn := hid hn
  have hs := hid (fun w x h1 h2 hx r1 r2 => same_rep w x h1 h2 hx r1 r2)
  clear hn
  go_enter Try.func28, Try.ntmps28
  go_wp2
  go_loopg [5] n (fun g ii wr => ∃ i : Nat, i + g = n ∧ ii = .int .i64 (i : Int) ∧ Below w.heap.size w wr)
  case atStart => exact ⟨0, by omega, rfl, Below.refl _ _⟩
  case round =>
    obtain ⟨i, hi, rfl, hbel⟩ := hrel
    have Hi := hid hi
    have Hbel := hid hbel
    cases gk with
    | zero =>
      have hin : i = n := by omega
      clear hi
      subst hin
      go_wp2
      go_ret
      exact ⟨rfl, Hbel.out⟩
    | succ g =>
      have hin : i < n := by omega
      clear hi
      have hl1 := r1.len
      have hl2 := r2.len
      obtain ⟨x, hxi⟩ : ∃ x, xs[i]? = some x := ⟨xs[i]'(by rw [← Hn.out]; exact hin), by rw [List.getElem?_eq_getElem]⟩
      obtain ⟨f1, hf1⟩ : ∃ f, hs1[i]? = some f := ⟨hs1[i]'(by rw [hl1, ← Hn.out]; exact hin), by rw [List.getElem?_eq_getElem]⟩
      obtain ⟨f2, hf2⟩ : ∃ f, hs2[i]? = some f := ⟨hs2[i]'(by rw [hl2, ← Hn.out]; exact hin), by rw [List.getElem?_eq_getElem]⟩
      have hc' := hid (Hid.out hs wr.drew x f1 f2 (hx x (List.mem_of_getElem? hxi)) ((r1.each i x f1 hxi hf1).below (Nat.le_refl _) hbel.drew) ((r2.each i x f2 hxi hf2).below (Nat.le_refl _) hbel.drew))
      obtain ⟨b1, o1, rfl, e1⟩ := (v1.below (Nat.le_refl _) hbel) i f1 hf1
      obtain ⟨b2, o2, rfl, e2⟩ := (v2.below (Nat.le_refl _) hbel) i f2 hf2
      obtain ⟨k1, i1, t1, r1', fa1, fn1, fc1⟩ := f1
      obtain ⟨k2, i2, t2, r2', fa2, fn2, fc2⟩ := f2
      have x0 := e1 0 (by omega)
      have x1 := e1 1 (by omega)
      have x2 := e1 2 (by omega)
      have x3 := e1 3 (by omega)
      have x4 := e1 4 (by omega)
      have y0 := e2 0 (by omega)
      have y1 := e2 1 (by omega)
      have y2 := e2 2 (by omega)
      have y3 := e2 3 (by omega)
      have y4 := e2 4 (by omega)
      simp only [Hd.cs, List.getElem?_cons_zero, List.getElem?_cons_succ, Nat.add_zero] at x0 x1 x2 x3 x4 y0 y1 y2 y3 y4
      simp only [Hd.v] at hc'
      clear e1 e2 hxi hf1 hf2 hl1 hl2 hs hbel
      go_wp2_with fail
      go_region_held3 (fun w2 => w2.cell? ⟨b1, o1 + i * 5, none⟩ = some (.int .i64 k1) ∧ w2.cell? ⟨b1, o1 + i * 5 + 1, none⟩ = some (.int .i64 i1) ∧ w2.cell? ⟨b1, o1 + i * 5 + 2, none⟩ = some (.string t1) ∧ w2.cell? ⟨b1, o1 + i * 5 + 3, none⟩ = some (.int .i64 r1') ∧ w2.cell? ⟨b1, o1 + i * 5 + 4, none⟩ = some (.slice fa1 fn1 fc1) ∧ w2.cell? ⟨b2, o2 + i * 5, none⟩ = some (.int .i64 k2) ∧ w2.cell? ⟨b2, o2 + i * 5 + 1, none⟩ = some (.int .i64 i2) ∧ w2.cell? ⟨b2, o2 + i * 5 + 2, none⟩ = some (.string t2) ∧ w2.cell? ⟨b2, o2 + i * 5 + 3, none⟩ = some (.int .i64 r2') ∧ w2.cell? ⟨b2, o2 + i * 5 + 4, none⟩ = some (.slice fa2 fn2 fc2)) (first | exact ⟨tt _ _ x0, tt _ _ x1, tt _ _ x2, tt _ _ x3, tt _ _ x4, tt _ _ y0, tt _ _ y1, tt _ _ y2, tt _ _ y3, tt _ _ y4⟩ | go_keep) ((go_at_call 25; (refine (Hid.out hc').mono ?_; rintro e w9 ⟨rfl, hB9⟩; have tt : ∀ (p : Addr) (v : Value), wr.cell? p = some v → w9.cell? p = some v := fun p v h => (hB9.cell (p := p) (World.block_lt_of_cell? wr p h)).trans h)))
      have Htt := hid tt
      clear tt
      go_wp2
      go_roundg g
      case measure => omega
      case rel => exact ⟨i + 1, by have := Hi.out; omega, by go_num, (Hbel.out.drew).trans (hB9.mono (by have := Hbel.out.size; exact this))⟩
end Go.Proofs.Ytjfkcafocindjaa
