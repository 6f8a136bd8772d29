/- Values that are alike but for what their fields' own empty fields are. -/
import Derived.Test.YtjfkcafocindjaaV
import Derived.Test.YtjfkcafocindjaaH2
namespace Go.Proofs.Ytjfkcafocindjaa
open Go.RowKit Go.Deep
set_option linter.unusedVariables false
set_option linter.unusedSimpArgs false

set_option maxRecDepth 10000 in
set_option maxHeartbeats 1000000 in
theorem compare_like (w : World) (kind int rc : Int) (text : ByteArray) (a1 a2 : Option Addr) (n c1 c2 : Nat) (fs gs : List Hd) (hn : n = fs.length) (hn2 : n ≤ 1000) (r1 : VRd w a1 fs) (r2 : VRd w a2 gs) (hf : ∀ f ∈ fs, f.n = 0 ∧ f.rc = 0) (hg : ∀ f ∈ gs, f.n = 0 ∧ f.rc = 0) (hfg : gs.map flatH = fs.map flatH) :
    Calls Try.prog 42 #[Hd.v ⟨kind, int, text, rc, a1, n, c1⟩, Hd.v ⟨kind, int, text, rc, a2, n, c2⟩] w fun e w' => e = .returned (.int .i64 0) ∧ Below w.heap.size w w' := by
  simp only [Hd.v]
  have hb := bytesLess_self text.toList
  have ho := hid (fun w => order_ff w)
  have hc := hid (fun w k i t r a b c d => compare_flat w k i r t a b c d)
  have Hn := hid hn
  clear hn
  have hB0 : Below w.heap.size w ((w.alloc (.cells #[.int .i64 kind, .int .i64 int, .string text, .int .i64 rc, .slice a1 n c1] 45)).alloc (.cells #[.int .i64 kind, .int .i64 int, .string text, .int .i64 rc, .slice a2 n c2] 45)) := ((Below.refl _ _).alloc (Nat.le_refl _) _).alloc (by simp) _
  go_enter Try.func42, Try.ntmps42
  go_wp2_with (go_at_call 49; (refine (Hid.out ho _).mono ?_; rintro e w2 ⟨rfl, rfl⟩))
  go_loopg [5, 6] n (fun g cc ii wr => ∃ i : Nat, i + g = n ∧ cc = .int .i64 0 ∧ ii = .int .i64 (i : Int) ∧ Below (w.heap.size + 2) ((w.alloc (.cells #[.int .i64 kind, .int .i64 int, .string text, .int .i64 rc, .slice a1 n c1] 45)).alloc (.cells #[.int .i64 kind, .int .i64 int, .string text, .int .i64 rc, .slice a2 n c2] 45)) wr)
  case atStart => exact ⟨0, by omega, rfl, rfl, Below.refl _ _⟩
  case round =>
    obtain ⟨i, hi, rfl, rfl, hbel⟩ := hrel
    have Hi := hid hi
    have Hbel := hid hbel
    obtain ⟨p1, p2⟩ := box_pair hbel
    have s14 := cellOf p1 4
    have s24 := cellOf p2 4
    simp only [List.getElem?_toArray, List.getElem?_cons_zero, List.getElem?_cons_succ] at s14 s24
    have q1 := hid (r1.below (Nat.le_refl _) (hB0.trans (hbel.mono (by omega))))
    have q2 := hid (r2.below (Nat.le_refl _) (hB0.trans (hbel.mono (by omega))))
    clear p1 p2 hbel
    cases gk with
    | zero =>
      have hin : i = n := by omega
      clear hi
      subst hin
      go_wp2_with (go_at_call 49; (refine (Hid.out ho _).mono ?_; rintro e w2 ⟨rfl, rfl⟩))
      go_ret
      exact ⟨rfl, hB0.trans (Hbel.out.mono (by omega))⟩
    | succ g =>
      have hin : i < n := by omega
      clear hi
      obtain ⟨f, hfi⟩ : ∃ f, fs[i]? = some f := ⟨fs[i]'(by rw [← Hn.out]; exact hin), by rw [List.getElem?_eq_getElem]⟩
      obtain ⟨g', hgi⟩ : ∃ g', gs[i]? = some g' := ⟨gs[i]'(by have := congrArg List.length hfg; simp only [List.length_map] at this; rw [this, ← Hn.out]; exact hin), by rw [List.getElem?_eq_getElem]⟩
      have hf0 := hf f (List.mem_of_getElem? hfi)
      have hg0 := hg g' (List.mem_of_getElem? hgi)
      have hef := congrArg (fun l => l[i]?) hfg
      simp only [List.getElem?_map, hfi, hgi, Option.map_some, Option.some.injEq] at hef
      obtain ⟨b1, o1, rfl, e1⟩ := q1.out i f hfi
      obtain ⟨b2, o2, rfl, e2⟩ := q2.out i g' hgi
      obtain ⟨fk, fi, ft, fr, fa, fn, fc⟩ := f
      obtain ⟨gk', gi, gt, gr, ga, gn, gc⟩ := g'
      simp only [flatH, Hd.mk.injEq] at hf0 hg0 hef
      obtain ⟨rfl, rfl⟩ := hf0
      obtain ⟨rfl, rfl⟩ := hg0
      obtain ⟨rfl, rfl, rfl, -⟩ := hef
      have x0 := e1 0 (by omega)
      have x1 := e1 1 (by omega)
      have x2 := e1 2 (by omega)
      have x3 := e1 3 (by omega)
      have x4 := e1 4 (by omega)
      have y0 := e2 0 (by omega)
      have y1 := e2 1 (by omega)
      have y2 := e2 2 (by omega)
      have y3 := e2 3 (by omega)
      have y4 := e2 4 (by omega)
      simp only [Hd.cs, List.getElem?_cons_zero, List.getElem?_cons_succ, Nat.add_zero] at x0 x1 x2 x3 x4 y0 y1 y2 y3 y4
      have hc' := hid (fun w => Hid.out hc w gk' gi gt 0 fa ga fc gc)
      simp only [Hd.v] at hc'
      clear e1 e2 hfi hgi q1 q2 hc
      go_wp2_with fail
      go_region_held3 (fun w2 => w2.cell? ⟨w.heap.size, 4, none⟩ = some (.slice (some ⟨b1, o1, none⟩) n c1) ∧ w2.cell? ⟨w.heap.size + 1, 4, none⟩ = some (.slice (some ⟨b2, o2, none⟩) n c2) ∧ w2.cell? ⟨b1, o1 + i * 5, none⟩ = some (.int .i64 gk') ∧ w2.cell? ⟨b1, o1 + i * 5 + 1, none⟩ = some (.int .i64 gi) ∧ w2.cell? ⟨b1, o1 + i * 5 + 2, none⟩ = some (.string gt) ∧ w2.cell? ⟨b1, o1 + i * 5 + 3, none⟩ = some (.int .i64 0) ∧ w2.cell? ⟨b1, o1 + i * 5 + 4, none⟩ = some (.slice fa 0 fc) ∧ w2.cell? ⟨b2, o2 + i * 5, none⟩ = some (.int .i64 gk') ∧ w2.cell? ⟨b2, o2 + i * 5 + 1, none⟩ = some (.int .i64 gi) ∧ w2.cell? ⟨b2, o2 + i * 5 + 2, none⟩ = some (.string gt) ∧ w2.cell? ⟨b2, o2 + i * 5 + 3, none⟩ = some (.int .i64 0) ∧ w2.cell? ⟨b2, o2 + i * 5 + 4, none⟩ = some (.slice ga 0 gc)) (first | exact ⟨tt _ _ s14, tt _ _ s24, tt _ _ x0, tt _ _ x1, tt _ _ x2, tt _ _ x3, tt _ _ x4, tt _ _ y0, tt _ _ y1, tt _ _ y2, tt _ _ y3, tt _ _ y4⟩ | go_keep) ((go_at_call 42; (refine (Hid.out hc' _).mono ?_; rintro e w9 ⟨rfl, hB9⟩; have tt : ∀ (p : Addr) (v : Value), wr.cell? p = some v → w9.cell? p = some v := fun p v h => (hB9.cell (p := p) (World.block_lt_of_cell? wr p h)).trans h)))
      have Htt := hid tt
      clear tt
      go_wp2
      go_roundg g
      case measure => omega
      case rel => exact ⟨i + 1, by have := Hi.out; omega, rfl, by go_num, (Hbel.out.drew).trans (hB9.mono (by have := Hbel.out.size; simp at this; exact this))⟩

structure RepL (w : World) (x : Vl) (h : Hd) : Prop where
  kind : h.kind = x.kind
  int : h.int = x.int
  text : h.text = x.text
  rc : h.rc = x.rc
  n : h.n = x.fs.length
  fs : ∃ gs, VRd w h.a gs ∧ gs.map flatH = x.fs ∧ ∀ g ∈ gs, g.n = 0 ∧ g.rc = 0
theorem RepL.below {w w' : World} {x : Vl} {h : Hd} {B : Nat} (r : RepL w x h) (hB : w.heap.size ≤ B) (k : Below B w w') : RepL w' x h := by
  obtain ⟨h1, h2, h3, h4, h5, gs, h6, h7⟩ := r
  exact ⟨h1, h2, h3, h4, h5, gs, h6.below hB k, h7⟩
structure RepsL (w : World) (xs : List Vl) (hs : List Hd) : Prop where
  len : hs.length = xs.length
  each : ∀ (j : Nat) (x : Vl) (h : Hd), xs[j]? = some x → hs[j]? = some h → RepL w x h
theorem RepsL.below {w w' : World} {xs : List Vl} {hs : List Hd} {B : Nat} (r : RepsL w xs hs) (hB : w.heap.size ≤ B) (k : Below B w w') : RepsL w' xs hs := ⟨r.len, fun j x h e1 e2 => (r.each j x h e1 e2).below hB k⟩
theorem flatH_flat (l : List Hd) : (l.map flatH).map flatH = l.map flatH := by simp [flatH]
theorem vlOf_flat (h : Hd) (fs : List Hd) : ∀ g ∈ (vlOf h fs).fs, g.n = 0 ∧ g.rc = 0 := by
  intro g hg
  simp only [vlOf] at hg
  split at hg
  · simp only [List.mem_map] at hg
    obtain ⟨f, _, rfl⟩ := hg
    exact ⟨rfl, rfl⟩
  · cases hg
theorem vlOf_map (h : Hd) (fs : List Hd) : (vlOf h fs).fs.map flatH = (vlOf h fs).fs := by
  simp only [vlOf]
  split
  · exact flatH_flat fs
  · rfl
theorem Rep.lax {w : World} {h hh : Hd} {fs : List Hd} (r : Rep w (vlOf h fs) hh) : RepL w (vlOf h fs) hh :=
  ⟨r.kind, r.int, r.text, r.rc, r.n, (vlOf h fs).fs, r.fs, vlOf_map h fs, vlOf_flat h fs⟩
theorem own_lax {w : World} {h : Hd} {fs : List Hd} (hn : h.n = fs.length) (hp : plainB h fs = true) (r : VRd w h.a fs) : RepL w (vlOf h fs) h := by
  by_cases hk : h.kind = 4
  · rw [plainB_rec hk] at hp
    simp only [Bool.and_eq_true, decide_eq_true_eq] at hp
    refine ⟨rfl, rfl, rfl, rfl, by simp [vlOf, hk, hn], fs, r, by simp [vlOf, hk], fun g hg => ?_⟩
    have := simpleB_cases (List.all_eq_true.1 hp.2 g hg)
    exact ⟨this.2.1, this.1⟩
  · unfold plainB at hp
    rw [if_neg hk] at hp
    have := simpleB_cases hp
    exact ⟨rfl, rfl, rfl, rfl, by simp [vlOf, hk, this.2.1], [], fun j x hx => by simp at hx, by simp [vlOf, hk], fun g hg => by cases hg⟩
theorem compare_repL (w : World) (x : Vl) (h1 h2 : Hd) (hx : x.fs.length ≤ 12) (r1 : RepL w x h1) (r2 : RepL w x h2) :
    Calls Try.prog 42 #[h1.v, h2.v] w fun e w' => e = .returned (.int .i64 0) ∧ Below w.heap.size w w' := by
  obtain ⟨k1, i1, t1, c1, a1, n1, p1⟩ := h1
  obtain ⟨k2, i2, t2, c2, a2, n2, p2⟩ := h2
  obtain ⟨e1, e2, e3, e4, e5, fs, e6, e7, e8⟩ := r1
  obtain ⟨g1, g2, g3, g4, g5, gs, g6, g7, g8⟩ := r2
  simp only at e1 e2 e3 e4 e5 e6 g1 g2 g3 g4 g5 g6
  subst e1 e2 e3 e4 e5
  subst g1 g2 g3 g4 g5
  have hl : x.fs.length = fs.length := by rw [← e7, List.length_map]
  exact compare_like w _ _ _ _ a1 a2 _ p1 p2 fs gs hl (by omega) e6 g6 e8 g8 (by rw [e7, g7])

set_option maxHeartbeats 400000 in
theorem same_repL (w : World) (x : Vl) (h1 h2 : Hd) (hx : x.fs.length ≤ 12) (r1 : RepL w x h1) (r2 : RepL w x h2) :
    Calls Try.prog 25 #[h1.v, h2.v] w fun e w' => e = .returned (.bool true) ∧ Below w.heap.size w w' := by
  have hB0 : Below w.heap.size w ((w.alloc (.cells h1.v.cells 45)).alloc (.cells h2.v.cells 45)) := ((Below.refl _ _).alloc (Nat.le_refl _) _).alloc (by simp) _
  have hc := hid (compare_repL ((w.alloc (.cells h1.v.cells 45)).alloc (.cells h2.v.cells 45)) x h1 h2 hx (r1.below (Nat.le_refl _) hB0) (r2.below (Nat.le_refl _) hB0))
  obtain ⟨k1, i1, t1, c1, a1, n1, p1⟩ := h1
  obtain ⟨k2, i2, t2, c2, a2, n2, p2⟩ := h2
  simp only [Hd.v, Value.cells] at hc hB0 ⊢
  clear r1 r2 hx
  go_enter Try.func25, Try.ntmps25
  go_wp2_with (go_at_call 42; (refine (Hid.out hc).mono ?_; rintro e w9 ⟨rfl, hB9⟩))
  go_ret
  exact ⟨rfl, hB0.trans (hB9.mono (by simp; omega))⟩

set_option maxHeartbeats 1000000 in
theorem all_repL (w : World) (a1 a2 : Option Addr) (n c1 c2 : Nat) (xs : List Vl) (hs1 hs2 : List Hd) (hn : n = xs.length) (hn2 : n ≤ 1000) (hx : ∀ x ∈ xs, x.fs.length ≤ 12) (v1 : VRd w a1 hs1) (v2 : VRd w a2 hs2) (r1 : RepsL w xs hs1) (r2 : RepsL w xs hs2) :
    Calls Try.prog 28 #[.slice a1 n c1, .slice a2 n c2] w fun e w' => e = .returned (.bool true) ∧ Below w.heap.size w w' := by
  have Hn := hid hn
  have hs := hid (fun w x h1 h2 hx r1 r2 => same_repL w x h1 h2 hx r1 r2)
  clear hn
  go_enter Try.func28, Try.ntmps28
  go_wp2
  go_loopg [5] n (fun g ii wr => ∃ i : Nat, i + g = n ∧ ii = .int .i64 (i : Int) ∧ Below w.heap.size w wr)
  case atStart => exact ⟨0, by omega, rfl, Below.refl _ _⟩
  case round =>
    obtain ⟨i, hi, rfl, hbel⟩ := hrel
    have Hi := hid hi
    have Hbel := hid hbel
    cases gk with
    | zero =>
      have hin : i = n := by omega
      clear hi
      subst hin
      go_wp2
      go_ret
      exact ⟨rfl, Hbel.out⟩
    | succ g =>
      have hin : i < n := by omega
      clear hi
      have hl1 := r1.len
      have hl2 := r2.len
      obtain ⟨x, hxi⟩ : ∃ x, xs[i]? = some x := ⟨xs[i]'(by rw [← Hn.out]; exact hin), by rw [List.getElem?_eq_getElem]⟩
      obtain ⟨f1, hf1⟩ : ∃ f, hs1[i]? = some f := ⟨hs1[i]'(by rw [hl1, ← Hn.out]; exact hin), by rw [List.getElem?_eq_getElem]⟩
      obtain ⟨f2, hf2⟩ : ∃ f, hs2[i]? = some f := ⟨hs2[i]'(by rw [hl2, ← Hn.out]; exact hin), by rw [List.getElem?_eq_getElem]⟩
      have hc' := hid (Hid.out hs wr.drew x f1 f2 (hx x (List.mem_of_getElem? hxi)) ((r1.each i x f1 hxi hf1).below (Nat.le_refl _) hbel.drew) ((r2.each i x f2 hxi hf2).below (Nat.le_refl _) hbel.drew))
      obtain ⟨b1, o1, rfl, e1⟩ := (v1.below (Nat.le_refl _) hbel) i f1 hf1
      obtain ⟨b2, o2, rfl, e2⟩ := (v2.below (Nat.le_refl _) hbel) i f2 hf2
      obtain ⟨k1, i1, t1, r1', fa1, fn1, fc1⟩ := f1
      obtain ⟨k2, i2, t2, r2', fa2, fn2, fc2⟩ := f2
      have x0 := e1 0 (by omega)
      have x1 := e1 1 (by omega)
      have x2 := e1 2 (by omega)
      have x3 := e1 3 (by omega)
      have x4 := e1 4 (by omega)
      have y0 := e2 0 (by omega)
      have y1 := e2 1 (by omega)
      have y2 := e2 2 (by omega)
      have y3 := e2 3 (by omega)
      have y4 := e2 4 (by omega)
      simp only [Hd.cs, List.getElem?_cons_zero, List.getElem?_cons_succ, Nat.add_zero] at x0 x1 x2 x3 x4 y0 y1 y2 y3 y4
      simp only [Hd.v] at hc'
      clear e1 e2 hxi hf1 hf2 hl1 hl2 hs hbel
      go_wp2_with fail
      go_region_held3 (fun w2 => w2.cell? ⟨b1, o1 + i * 5, none⟩ = some (.int .i64 k1) ∧ w2.cell? ⟨b1, o1 + i * 5 + 1, none⟩ = some (.int .i64 i1) ∧ w2.cell? ⟨b1, o1 + i * 5 + 2, none⟩ = some (.string t1) ∧ w2.cell? ⟨b1, o1 + i * 5 + 3, none⟩ = some (.int .i64 r1') ∧ w2.cell? ⟨b1, o1 + i * 5 + 4, none⟩ = some (.slice fa1 fn1 fc1) ∧ w2.cell? ⟨b2, o2 + i * 5, none⟩ = some (.int .i64 k2) ∧ w2.cell? ⟨b2, o2 + i * 5 + 1, none⟩ = some (.int .i64 i2) ∧ w2.cell? ⟨b2, o2 + i * 5 + 2, none⟩ = some (.string t2) ∧ w2.cell? ⟨b2, o2 + i * 5 + 3, none⟩ = some (.int .i64 r2') ∧ w2.cell? ⟨b2, o2 + i * 5 + 4, none⟩ = some (.slice fa2 fn2 fc2)) (first | exact ⟨tt _ _ x0, tt _ _ x1, tt _ _ x2, tt _ _ x3, tt _ _ x4, tt _ _ y0, tt _ _ y1, tt _ _ y2, tt _ _ y3, tt _ _ y4⟩ | go_keep) ((go_at_call 25; (refine (Hid.out hc').mono ?_; rintro e w9 ⟨rfl, hB9⟩; have tt : ∀ (p : Addr) (v : Value), wr.cell? p = some v → w9.cell? p = some v := fun p v h => (hB9.cell (p := p) (World.block_lt_of_cell? wr p h)).trans h)))
      have Htt := hid tt
      clear tt
      go_wp2
      go_roundg g
      case measure => omega
      case rel => exact ⟨i + 1, by have := Hi.out; omega, by go_num, (Hbel.out.drew).trans (hB9.mono (by have := Hbel.out.size; exact this))⟩end Go.Proofs.Ytjfkcafocindjaa
