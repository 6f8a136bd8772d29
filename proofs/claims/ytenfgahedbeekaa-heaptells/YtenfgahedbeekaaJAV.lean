/- Snapshot of both sides, of whatever program and state. -/
import Derived.Test.YtenfgahedbeekaaJAU
import Derived.Deep.RegionHeld3
import Derived.BigQuiet
import Derived.Deep.DeepCutAuto
namespace Go.Proofs.Ytenfgahedbeekaa
open Go.RowKit Go.Deep Go.Shelf
set_option linter.unusedVariables false
set_option linter.unusedSimpArgs false

theorem stV_pl {k : Nat} {p : Pg} {ms : List (Sl × Rw (k + 2))} (h : stV k p (ms.map (·.2)) = true) : ∀ m ∈ ms, m.2.length ≤ 24 ∧ ∀ q ∈ m.2, plV k q.1 = true ∧ plV k q.2 = true := by
  intro m hm
  unfold stV at h
  simp only [Bool.and_eq_true, decide_eq_true_eq, List.all_eq_true, List.mem_range] at h
  obtain ⟨⟨_, hl⟩, ha⟩ := h
  obtain ⟨i, hi, hmi⟩ := List.mem_iff_getElem.1 hm
  have hi2 : i < p.maps.length := by rw [← hl, List.length_map]; exact hi
  have h1 := ha i hi2
  unfold mpV at h1
  rw [List.getElem?_eq_getElem hi2, List.getElem?_map, List.getElem?_eq_getElem hi, hmi] at h1
  simp only [Option.map_some] at h1
  unfold mapV at h1
  simp only [Bool.and_eq_true, decide_eq_true_eq, List.all_eq_true, List.mem_range] at h1
  refine ⟨h1.1, fun q hq => ?_⟩
  obtain ⟨j, hj, hqj⟩ := List.mem_iff_getElem.1 hq
  have h2 := h1.2 j hj
  unfold entV at h2
  rw [List.getElem?_eq_getElem hj, hqj] at h2
  simp only [Bool.and_eq_true] at h2
  obtain ⟨⟨a, b⟩, _⟩ := h2
  unfold isV isB at a b
  simp only [Bool.and_eq_true] at a b
  exact ⟨a.1.1.2, b.1.1.2⟩
def SnP (k : Nat) (w : World) (p : Pg) (ms : List (Sl × Rw (k + 2))) (e : Ending) (w' : World) : Prop :=
  Below w.heap.size w w' ∧ ∃ v', e = .returned (.tuple #[v', .int .i64 (if stV k p (ms.map (·.2)) then 0 else 40)]) ∧ Row w' w.heap.size v' (if stV k p (ms.map (·.2)) then encSt k (ms.map (·.2)) else [])
theorem heapSnap_any (k : Nat) (w : World) (g : PH) (p : Pg) (d : PRd w g p) (sa : Option Addr) (sn sc : Nat) (ms : List (Sl × Rw (k + 2))) (hs : StR (k + 2) w sa sn ms) :
    Calls Try.prog 31 #[g.v, .agg #[.slice sa sn sc]] w (SnP k w p ms) := by
  obtain ⟨ra, rn, rc, ma, mn, mc, fa, fn, fc, ea, en, ec⟩ := g
  exact snap31 k w ra ma fa ea sa rn rc mn mc fn fc en ec sn sc ms hs _ (fun w1 hb => heapIs_any k w1 _ p (d.below (Nat.le_refl _) hb) sa sn sc ms (hs.below (Nat.le_refl _) hb)) stV_pl
theorem refSnap_any (k : Nat) (w : World) (g : PH) (p : Pg) (d : PRd w g p) (sa : Option Addr) (sn sc : Nat) (ms : List (Sl × Rw (k + 2))) (hs : StR (k + 2) w sa sn ms) :
    Calls Try.prog 32 #[g.v, .agg #[.slice sa sn sc]] w (SnP k w p ms) := by
  obtain ⟨ra, rn, rc, ma, mn, mc, fa, fn, fc, ea, en, ec⟩ := g
  exact snap32 k w ra ma fa ea sa rn rc mn mc fn fc en ec sn sc ms hs _ (fun w1 hb => refStIs_any k w1 _ p (d.below (Nat.le_refl _) hb) sa sn sc ms (hs.below (Nat.le_refl _) hb)) stV_pl
theorem encN_byt {k : Nat} {q : VT (k + 2) × VT (k + 2)} (h : plV k q.1 = true ∧ plV k q.2 = true) : Byt (encN k q) := (encW_byt h.1).append (encW_byt h.2)
theorem encSt_byt {k : Nat} {p : Pg} {ms : List (Sl × Rw (k + 2))} (h : stV k p (ms.map (·.2)) = true) : Byt (encSt k (ms.map (·.2))) := by
  have h1 := stV_pl h
  intro x hx
  simp only [encSt, List.mem_flatMap, List.mem_map] at hx
  obtain ⟨r, ⟨m, hm, rfl⟩, hx⟩ := hx
  unfold encRw at hx
  rcases List.mem_append.1 hx with hx | hx
  · exact enc_byt _ x hx
  · simp only [List.mem_flatMap] at hx
    obtain ⟨q, hq, hx⟩ := hx
    exact encN_byt ((h1 m hm).2 q hq) x hx
end Go.Proofs.Ytenfgahedbeekaa

namespace Go.Proofs.Ytenfgahedbeekaa
open Go.ChangeShapes Go.WideShapes Go.ChangeAt Go.RowKit Go.Deep
set_option linter.unusedVariables false
set_option linter.unusedSimpArgs false

structure Sp where
  what : Int
  m : Int
  key : Hd
  val : Hd
def Sp.cs (x : Sp) : List Value := [.int .i64 x.what, .int .i64 x.m, .int .i64 x.key.kind, .int .i64 x.key.int, .string x.key.text, .int .i64 x.key.rc, .slice x.key.a x.key.n x.key.cap, .int .i64 x.val.kind, .int .i64 x.val.int, .string x.val.text, .int .i64 x.val.rc, .slice x.val.a x.val.n x.val.cap]
def SpRd (w : World) (a : Option Addr) (ss : List Sp) : Prop := ∀ (j : Nat) (x : Sp), ss[j]? = some x → ∃ b off, a = some ⟨b, off, none⟩ ∧ ∀ i, i < 12 → w.cell? ⟨b, off + j * 12 + i, none⟩ = x.cs[i]?
theorem SpRd.below {w w' : World} {a ss B} (h : SpRd w a ss) (hB : w.heap.size ≤ B) (k : Below B w w') : SpRd w' a ss := by
  intro j x e
  obtain ⟨b, off, rfl, hc⟩ := h j x e
  refine ⟨b, off, rfl, fun i hi => ?_⟩
  have h1 := hc i hi
  have hl : x.cs.length = 12 := rfl
  have : ∃ v, x.cs[i]? = some v := ⟨x.cs[i]'(by omega), List.getElem?_eq_getElem _⟩
  obtain ⟨v, hv⟩ := this
  rw [hv] at h1 ⊢
  exact (k.cell (p := ⟨b, off + j * 12 + i, none⟩) (Nat.lt_of_lt_of_le (World.block_lt_of_cell? w _ h1) hB)).trans h1
def SpIn (w : World) (ss : List Sp) : Prop := ∀ x ∈ ss, (∃ fs gs, Deep w x.key fs gs) ∧ (∃ fs gs, Deep w x.val fs gs) ∧ -9223372036854775808 ≤ x.m ∧ x.m ≤ 9223372036854775807 ∧ -9223372036854775808 ≤ x.what ∧ x.what ≤ 9223372036854775807
def FwP (w : World) (ss : List Sp) (e : Ending) : Prop := ∃ b, e = .returned (.bool b) ∧ (b = true → ss.length ≤ 60 ∧ ∀ x ∈ ss, Sm w x.key ∧ Sm w x.val)

set_option maxRecDepth 10000 in
set_option maxHeartbeats 1000000 in
theorem few_any (w : World) (a : Option Addr) (n cap : Nat) (ss : List Sp) (hn : n = ss.length) (hn2 : n ≤ 9223372036854775807) (hv : SpRd w a ss) (hd : SpIn w ss) :
    Calls Try.prog 10 #[.slice a n cap] w fun e w' => FwP w ss e ∧ Below w.heap.size w w' := by
  have Hn := hid hn
  have HD := hid hd
  have hS := hid (fun w h fs gs d => small_any w h fs gs d)
  clear hn hd
  go_enter Try.func10, Try.ntmps10
  go_wp2
  go_loopg [3] n (fun g ii wr => ∃ i : Nat, i + g = n ∧ ii = .int .i64 (i : Int) ∧ Below w.heap.size w wr ∧ ∀ x ∈ ss.take i, Sm w x.key ∧ Sm w x.val)
  case atStart => exact ⟨0, by omega, rfl, Below.refl _ _, fun h hh => by simp at hh⟩
  case round =>
    obtain ⟨i, hi, rfl, hbel, hacc⟩ := hrel
    have Hacc := hid hacc
    clear hacc
    have Hi := hid hi
    cases gk with
    | zero =>
      have hin' : i = n := by omega
      clear hi
      subst hin'
      go_wp2
      go_ret
      refine ⟨⟨_, rfl, fun h => ⟨by simp at h; rw [← Hn.out]; omega, ?_⟩⟩, hbel⟩
      have hA := Hacc.out
      rw [Hn.out, List.take_length] at hA
      exact hA
    | succ g =>
      have hlt : i < n := by omega
      clear hi
      obtain ⟨f, hfi⟩ : ∃ f, ss[i]? = some f := ⟨ss[i]'(by rw [← Hn.out]; exact hlt), by rw [List.getElem?_eq_getElem]⟩
      obtain ⟨b1, o1, rfl, e1⟩ := (hv.below (Nat.le_refl _) hbel) i f hfi
      obtain ⟨⟨fs, gs, dd⟩, ⟨fs2, gs2, dd2⟩, _⟩ := HD.out f (List.mem_of_getElem? hfi)
      have hc : Hid (∀ w1, Below w.heap.size w w1 → Calls Try.prog 37 #[f.key.v] w1 fun e w' => (∃ b, e = .returned (.bool b) ∧ (b = true → Sm w f.key)) ∧ Below w1.heap.size w1 w') := by
        refine hid (fun w1 hb1 => (Hid.out hS w1 f.key fs gs (dd.below (Nat.le_refl _) hb1)).mono ?_)
        rintro e w' ⟨⟨b, rfl, hb⟩, h2⟩
        exact ⟨⟨b, rfl, fun h => ⟨fs, gs, dd, hb h⟩⟩, h2⟩
      have hc2 : Hid (∀ w1, Below w.heap.size w w1 → Calls Try.prog 37 #[f.val.v] w1 fun e w' => (∃ b, e = .returned (.bool b) ∧ (b = true → Sm w f.val)) ∧ Below w1.heap.size w1 w') := by
        refine hid (fun w1 hb1 => (Hid.out hS w1 f.val fs2 gs2 (dd2.below (Nat.le_refl _) hb1)).mono ?_)
        rintro e w' ⟨⟨b, rfl, hb⟩, h2⟩
        exact ⟨⟨b, rfl, fun h => ⟨fs2, gs2, dd2, hb h⟩⟩, h2⟩
      have Hfi := hid hfi
      have hi0 : (0 : Int) ≤ (i : Int) := by omega
      have hi1 : (i : Int) < (n : Int) := by omega
      have hn3 : (n : Int) ≤ 9223372036854775807 := by omega
      have x2 := e1 2 (by omega)
      have x3 := e1 3 (by omega)
      have x4 := e1 4 (by omega)
      have x5 := e1 5 (by omega)
      have x6 := e1 6 (by omega)
      have x7 := e1 7 (by omega)
      have x8 := e1 8 (by omega)
      have x9 := e1 9 (by omega)
      have x10 := e1 10 (by omega)
      have x11 := e1 11 (by omega)
      obtain ⟨fw, fm, ⟨kk, ki, kx, kr, ka, kn, kc⟩, ⟨vk, vi, vx, vr, va, vn, vc⟩⟩ := f
      simp only [Sp.cs, List.getElem?_cons_zero, List.getElem?_cons_succ, Nat.add_zero] at x2 x3 x4 x5 x6 x7 x8 x9 x10 x11
      simp only [Hd.v] at hc hc2
      clear e1 hfi dd dd2 hS
      go_wp2_with (first
        | (go_at_call 37; (refine (Hid.out hc wr hbel).mono ?_; rintro e w9 ⟨⟨sb, rfl, hsb⟩, hB9⟩; have Hsb := hid hsb; clear hsb hc; have hbel9 := hid (hbel.trans (hB9.mono hbel.size)); have y7 := (hB9.cell (World.block_lt_of_cell? wr _ x7)).trans x7; have y8 := (hB9.cell (World.block_lt_of_cell? wr _ x8)).trans x8; have y9 := (hB9.cell (World.block_lt_of_cell? wr _ x9)).trans x9; have y10 := (hB9.cell (World.block_lt_of_cell? wr _ x10)).trans x10; have y11 := (hB9.cell (World.block_lt_of_cell? wr _ x11)).trans x11; clear x2 x3 x4 x5 x6 x7 x8 x9 x10 x11 hB9; cases sb))
        | (go_at_call 37; (refine (Hid.out hc2 w9 hbel9.out).mono ?_; rintro e w10 ⟨⟨sb2, rfl, hsb2⟩, hB10⟩; have Hsb2 := hid hsb2; clear hsb2; cases sb2)))
      · go_ret
        exact ⟨⟨false, rfl, fun h => by cases h⟩, hbel9.out⟩
      · go_ret
        exact ⟨⟨false, rfl, fun h => by cases h⟩, hbel9.out.trans (hB10.mono hbel9.out.size)⟩
      · go_roundg g
        case measure => omega
        case rel => exact ⟨i + 1, by have := Hi.out; omega, by go_num, hbel9.out.trans (hB10.mono hbel9.out.size), fun h hh => by
          rw [List.take_add_one, Hfi.out] at hh
          rcases List.mem_append.1 hh with hh | hh
          · exact Hacc.out h hh
          · simp at hh; subst hh; exact ⟨Hsb.out (by first | rfl | trivial), Hsb2.out (by first | rfl | trivial)⟩⟩
theorem cells33 : Try.prog.cellsOf 33 = 12 := by kernel_rfl
section
variable {H : Type} {enc : TypeId × Value → H} {W : World}
def SpT (enc : TypeId × Value → H) (W : World) (x : Sp) : Prop := (x.key.In ∧ Trd enc W x.key.a x.key.n x.key.cap) ∧ (x.val.In ∧ Trd enc W x.val.a x.val.n x.val.cap) ∧ -9223372036854775808 ≤ x.m ∧ x.m ≤ 9223372036854775807 ∧ -9223372036854775808 ≤ x.what ∧ x.what ≤ 9223372036854775807
set_option maxRecDepth 100000 in
theorem sp_of {fuel : Nat} {cs : List Value} {x : DataW H × List MemPlace} (h : DataW.trod enc Try.prog W 0 (fun _ => true) true fuel 33 cs = some x) :
    ∃ s : Sp, cs = s.cs ∧ SpT enc W s := by
  obtain ⟨xs, n, _, rfl, hl, hlen, hf⟩ := DataW.trod_struct Try.underlying33 h
  rw [cells33] at hl
  match cs, hl with
  | [c0, c1, c2, c3, c4, c5, c6, c7, c8, c9, c10, c11], _ =>
    match xs, hlen with
    | [y0, y1, y2, y3], _ =>
      have h0 := hf 0 _ rfl
      have h1 := hf 1 _ rfl
      have h2 := hf 2 _ rfl
      have h3 := hf 3 _ rfl
      simp [cells3, cells31] at h0 h1 h2 h3
      obtain ⟨n0, e0, _, w0⟩ := DataW.trod_int Try.underlying3 h0
      obtain ⟨n1, e1, _, w1⟩ := DataW.trod_int Try.underlying3 h1
      obtain ⟨k, e2, k1, k2⟩ := val_of h2
      obtain ⟨v, e3, v1, v2⟩ := val_of h3
      have b0 : -9223372036854775808 ≤ n0 ∧ n0 ≤ 9223372036854775807 := by simpa [Lit.wf, IntKind.min, IntKind.max, IntKind.signed, IntKind.bits] using w0
      have b1 : -9223372036854775808 ≤ n1 ∧ n1 ≤ 9223372036854775807 := by simpa [Lit.wf, IntKind.min, IntKind.max, IntKind.signed, IntKind.bits] using w1
      simp [Hd.cs] at e0 e1 e2 e3
      obtain ⟨rfl, rfl, rfl, rfl, rfl⟩ := e2
      obtain ⟨rfl, rfl, rfl, rfl, rfl⟩ := e3
      subst e0 e1
      exact ⟨⟨n0, n1, k, v⟩, rfl, ⟨k1, k2⟩, ⟨v1, v2⟩, b1.1, b1.2, b0.1, b0.2⟩
set_option maxRecDepth 100000 in
theorem steps_of {a0 : Option Addr} {len cap : Nat} {d : DataW H} {ps : List MemPlace} (h : DataW.Trod enc Try.prog W 0 (fun _ => true) true 22 (.slice a0 len cap) d ps) : ∃ ss : List Sp, len = ss.length ∧ len ≤ 9223372036854775807 ∧ SpRd W a0 ss ∧ SpIn W ss := by
  obtain ⟨fuel, hf⟩ := h
  rcases open_slice Try.underlying22 hf with ⟨hcs, _⟩ | ⟨a, l, c, m, n, D, Pl, hcs, _, hl, hm', hm, _, hx⟩
  · simp [Value.cells] at hcs
    obtain ⟨rfl, rfl, rfl⟩ := hcs
    exact ⟨[], rfl, by omega, fun j x hx => by simp at hx, fun h hh => by simp at hh⟩
  · simp [Value.cells] at hcs
    obtain ⟨rfl, rfl, rfl⟩ := hcs
    simp at hm
    subst hm
    have hs : ∀ j, j < len → ∃ s : Sp, (∃ b off, some a = some ⟨b, off, none⟩ ∧ ∀ i, i < 12 → W.cell? ⟨b, off + j * 12 + i, none⟩ = s.cs[i]?) ∧ SpT enc W s := by
      intro j hj
      obtain ⟨cs, h1, h2⟩ := hx j (by omega)
      obtain ⟨s, rfl, h3⟩ := sp_of h2
      rw [cells33] at h1
      obtain ⟨_, _, h4⟩ := World.cells?_some h1
      obtain ⟨b, off, spot⟩ := a
      have hspot : spot = none := by
        obtain ⟨cs', h1', h2'⟩ := hx 0 (by omega)
        rw [cells33] at h1'
        obtain ⟨s', rfl, _⟩ := sp_of h2'
        obtain ⟨_, _, h4'⟩ := World.cells?_some h1'
        have := h4' 0 (by omega)
        simpa [Addr.add] using World.cell?_spot (v := .int .i64 s'.what) (this.trans rfl)
      subst hspot
      refine ⟨s, ⟨b, off, rfl, fun i hi => ?_⟩, h3⟩
      have := h4 i hi
      simp only [Addr.add_lit] at this
      exact this
    refine ⟨(List.range len).map (fun j => if hj : j < len then Classical.choose (hs j hj) else ⟨0, 0, ⟨0, 0, ByteArray.empty, 0, none, 0, 0⟩, ⟨0, 0, ByteArray.empty, 0, none, 0, 0⟩⟩), by simp, by unfold maxLen at hm'; omega, ?_, ?_⟩
    · intro j h hjh
      simp only [List.getElem?_map, Option.map_eq_some_iff] at hjh
      obtain ⟨j', hj', rfl⟩ := hjh
      have hj : j < len := by have := (List.getElem?_eq_some_iff.1 hj').1; simpa using this
      have : j' = j := by simpa [hj] using hj'.symm
      subst this
      simp only [hj, dif_pos]
      exact (Classical.choose_spec (hs j' hj)).1
    · intro h hh
      simp only [List.mem_map, List.mem_range] at hh
      obtain ⟨j, hj, rfl⟩ := hh
      simp only [hj, dif_pos]
      have := (Classical.choose_spec (hs j hj)).2
      exact ⟨deep_of this.1.1 this.1.2, deep_of this.2.1.1 this.2.1.2, this.2.2⟩
end
end Go.Proofs.Ytenfgahedbeekaa

namespace Go.Proofs.Ytenfgahedbeekaa
open Go.RowKit Go.Deep Go.Shelf
set_option linter.unusedVariables false
set_option linter.unusedSimpArgs false

/- A state that came in. -/
structure EnD (w : World) (m : Sl × List En) : Prop where
  n1 : m.1.n = m.2.length
  n2 : m.1.n ≤ 9223372036854775807
  cap : m.1.n ≤ m.1.cap
  rd : ERd w m.1.a m.2
  el : ∀ e ∈ m.2, (∃ fs gs, Deep w e.key fs gs) ∧ (∃ fs gs, Deep w e.val fs gs)
structure StD (w : World) (a : Option Addr) (n : Nat) (ms : List (Sl × List En)) : Prop where
  n1 : n = ms.length
  n2 : n ≤ 9223372036854775807
  rd : MRd w a (ms.map (·.1))
  el : ∀ m ∈ ms, EnD w m
theorem EnD.below {w w' : World} {m : Sl × List En} {B : Nat} (h : EnD w m) (hB : w.heap.size ≤ B) (hb : Below B w w') : EnD w' m :=
  ⟨h.n1, h.n2, h.cap, h.rd.below hB hb, fun e he => by
    obtain ⟨⟨fs, gs, d⟩, ⟨fs2, gs2, d2⟩⟩ := h.el e he
    exact ⟨⟨fs, gs, d.below hB hb⟩, ⟨fs2, gs2, d2.below hB hb⟩⟩⟩
theorem StD.below {w w' : World} {a : Option Addr} {n : Nat} {ms : List (Sl × List En)} {B : Nat} (h : StD w a n ms) (hB : w.heap.size ≤ B) (hb : Below B w w') : StD w' a n ms :=
  ⟨h.n1, h.n2, h.rd.below hB hb, fun m hm => (h.el m hm).below hB hb⟩
def EnS (w : World) (m : Sl × List En) : Prop := m.2.length ≤ 30 ∧ ∀ e ∈ m.2, Sm w e.key ∧ Sm w e.val
def FsP (w : World) (ms : List (Sl × List En)) (e : Ending) : Prop := ∃ b, e = .returned (.bool b) ∧ (b = true → ms.length ≤ 20 ∧ ∀ m ∈ ms, EnS w m)
set_option maxRecDepth 100000 in
set_option maxHeartbeats 2000000 in
theorem fewS_any (w : World) (a : Option Addr) (n cap : Nat) (ms : List (Sl × List En)) (hd : StD w a n ms) :
    Calls Try.prog 26 #[.agg #[.slice a n cap]] w fun e w' => FsP w ms e ∧ Below w.heap.size w w' := by
  have Hn := hid hd.n1
  have hn2 := hd.n2
  have hnI : (n : Int) ≤ 9223372036854775807 := by omega
  have hn0 : (0 : Int) ≤ (n : Int) := by omega
  have D := hid hd
  have hS := hid (fun w h fs gs d => small_any w h fs gs d)
  clear hd
  obtain ⟨W0, hW0⟩ : ∃ W0, W0 = w.alloc (.cells #[.slice a n cap] 27) := ⟨_, rfl⟩
  have q1 : W0.heap[w.heap.size]? = some (.cells #[.slice a n cap] 27 (0, 0)) := by rw [hW0]; exact heap_alloc_new w _
  have hb0 : Below w.heap.size w W0 := by rw [hW0]; exact (Below.refl _ w).alloc (Nat.le_refl _) _
  have FX : Hid (∀ w2 : World, Below W0.heap.size W0 w2 → w2.cell? ⟨w.heap.size, 0, none⟩ = some (.slice a n cap) ∧ Below w.heap.size w w2) := hid (fun w2 hb => ⟨cellOf ((hb.block _ (Array.getElem?_eq_some_iff.1 q1).1).trans q1) 0, hb0.trans (hb.mono hb0.size)⟩)
  have TR : Hid (∀ {Z x y : World}, Below Z.heap.size Z x → Below x.heap.size x y → Below Z.heap.size Z y) := hid (fun h1 h2 => h1.trans (h2.mono h1.size))
  have f0 := (FX.out W0 (Below.refl _ _)).1
  have HB0 := hid hb0
  clear q1 hb0
  by_cases h20 : 20 < n
  · have h20' : (20 : Int) < (n : Int) := by omega
    go_enter Try.func26, Try.ntmps26
    go_upto_region 1 with fail
    rw [← hW0]
    clear hW0
    go_wp2
    go_ret
    exact ⟨⟨false, rfl, fun h => by cases h⟩, HB0.out⟩
  · have h20' : ¬ (20 : Int) < (n : Int) := by omega
    go_enter Try.func26, Try.ntmps26
    go_upto_region 1 with fail
    rw [← hW0]
    clear hW0
    go_wp2
    go_loopg [3] n (fun g ii wr => ∃ i : Nat, i + g = n ∧ ii = .int .i64 (i : Int) ∧ Below W0.heap.size W0 wr ∧ ∀ m ∈ ms.take i, EnS w m)
    case atStart => exact ⟨0, by omega, rfl, Below.refl _ _, fun m hm => by simp at hm⟩
    case round =>
      obtain ⟨i, hi', rfl, hbr, hacc⟩ := hrel
      have Hbr := hid hbr
      have Hacc := hid hacc
      have Hi := hid hi'
      clear hacc f0
      obtain ⟨f0, hbw⟩ := FX.out wr hbr
      cases gk with
      | zero =>
        have hin2 : i = n := by omega
        subst hin2
        clear hi' hbr
        go_wp2
        go_ret
        refine ⟨⟨true, rfl, fun _ => ⟨by rw [← Hn.out]; omega, ?_⟩⟩, hbw⟩
        have hA := Hacc.out
        rw [Hn.out, List.take_length] at hA
        exact hA
      | succ gi =>
        have hlt0 : i < n := by omega
        have hlt : (i : Int) < (n : Int) := by omega
        have hi00 : (0 : Int) ≤ (i : Int) := by omega
        obtain ⟨x, hx⟩ : ∃ x, ms[i]? = some x := ⟨ms[i]'(by rw [← Hn.out]; exact hlt0), List.getElem?_eq_getElem _⟩
        have Hx := hid hx
        have HX : Hid (∀ W', Below W0.heap.size W0 W' → EnD W' x) := hid (fun W' hb => (D.out.below (Nat.le_refl _) (FX.out W' hb).2).el x (List.mem_of_getElem? hx))
        have HD0 : Hid (EnD w x) := hid (D.out.el x (List.mem_of_getElem? hx))
        obtain ⟨b1, o1, ea1, dc⟩ := (D.out.below (Nat.le_refl _) hbw).rd i x.1 (by rw [List.getElem?_map, hx]; rfl)
        subst ea1
        have HC : Hid (∀ W', Below W0.heap.size W0 W' → W'.cell? ⟨b1, o1 + i, none⟩ = some x.1.v) := hid (fun W' hb => by
          obtain ⟨b9, o9, e9, d9⟩ := (D.out.below (Nat.le_refl _) (FX.out W' hb).2).rd i x.1 (by rw [List.getElem?_map, hx]; rfl)
          cases e9
          exact d9)
        obtain ⟨⟨la, ln, lc⟩, lr⟩ := x
        simp only [Sl.v] at dc HC
        try simp only at Hln hln2
        have Hln := hid HD0.out.n1
        have hln2 := HD0.out.n2
        simp only at Hln hln2
        have hlnI : (ln : Int) ≤ 9223372036854775807 := by omega
        have hln0 : (0 : Int) ≤ (ln : Int) := by omega
        clear hx hi' hbr hbw
        by_cases h30 : 30 < ln
        · have h30' : (30 : Int) < (ln : Int) := by omega
          go_wp2
          go_ret
          exact ⟨⟨false, rfl, fun h => by cases h⟩, (FX.out _ Hbr.out).2⟩
        · have h30' : ¬ (30 : Int) < (ln : Int) := by omega
          go_wp2
          clear f0 dc
          go_loopg [4] ln (fun g2 jj wr2 => ∃ j : Nat, j + g2 = ln ∧ jj = .int .i64 (j : Int) ∧ Below W0.heap.size W0 wr2 ∧ ∀ e ∈ lr.take j, Sm w e.key ∧ Sm w e.val)
          case atStart => exact ⟨0, by omega, rfl, Hbr.out, fun e he => by simp at he⟩
          case round =>
            obtain ⟨j, hj', rfl, hbr2, hacc2⟩ := hrel
            have Hbr2 := hid hbr2
            have Hacc2 := hid hacc2
            have Hj := hid hj'
            clear hacc2
            have f0 := (FX.out _ hbr2).1
            have dc := HC.out _ hbr2
            cases gk with
            | zero =>
              have hin2 : j = ln := by omega
              subst hin2
              clear hj' hbr2
              go_wp2
              go_roundg gi
              case measure => omega
              case rel => exact ⟨i + 1, by have := Hi.out; omega, by go_num, Hbr2.out, fun m hm => by
                rw [List.take_add_one, Hx.out] at hm
                rcases List.mem_append.1 hm with hm | hm
                · exact Hacc.out m hm
                · simp at hm
                  subst hm
                  refine ⟨by show lr.length ≤ 30; rw [← Hln.out]; omega, ?_⟩
                  have hA := Hacc2.out
                  rw [Hln.out, List.take_length] at hA
                  exact hA⟩
            | succ gj =>
              have hjt0 : j < ln := by omega
              have hjt : (j : Int) < (ln : Int) := by omega
              have hj00 : (0 : Int) ≤ (j : Int) := by omega
              clear hj'
              obtain ⟨q, hq⟩ : ∃ q, lr[j]? = some q := ⟨lr[j]'(by rw [← Hln.out]; exact hjt0), List.getElem?_eq_getElem _⟩
              have Hq := hid hq
              obtain ⟨b3, o3, ea3, dh⟩ := (HX.out _ hbr2).rd j q hq
              subst ea3
              obtain ⟨⟨fs, gs, dd⟩, ⟨fs2, gs2, dd2⟩⟩ := HD0.out.el q (List.mem_of_getElem? hq)
              have hc : Hid (∀ w1, Below W0.heap.size W0 w1 → Calls Try.prog 37 #[q.key.v] w1 fun e w' => (∃ b, e = .returned (.bool b) ∧ (b = true → Sm w q.key)) ∧ Below w1.heap.size w1 w') := by
                refine hid (fun w1 hb1 => (Hid.out hS w1 q.key fs gs (dd.below (Nat.le_refl _) (FX.out w1 hb1).2)).mono ?_)
                rintro e w' ⟨⟨b, rfl, hb⟩, h2⟩
                exact ⟨⟨b, rfl, fun h => ⟨fs, gs, dd, hb h⟩⟩, h2⟩
              have hc2 : Hid (∀ w1, Below W0.heap.size W0 w1 → Calls Try.prog 37 #[q.val.v] w1 fun e w' => (∃ b, e = .returned (.bool b) ∧ (b = true → Sm w q.val)) ∧ Below w1.heap.size w1 w') := by
                refine hid (fun w1 hb1 => (Hid.out hS w1 q.val fs2 gs2 (dd2.below (Nat.le_refl _) (FX.out w1 hb1).2)).mono ?_)
                rintro e w' ⟨⟨b, rfl, hb⟩, h2⟩
                exact ⟨⟨b, rfl, fun h => ⟨fs2, gs2, dd2, hb h⟩⟩, h2⟩
              have d0 := dh 0 (by omega)
              have d1 := dh 1 (by omega)
              have d2 := dh 2 (by omega)
              have d3 := dh 3 (by omega)
              have d4 := dh 4 (by omega)
              have d5 := dh 5 (by omega)
              have d6 := dh 6 (by omega)
              have d7 := dh 7 (by omega)
              have d8 := dh 8 (by omega)
              have d9 := dh 9 (by omega)
              obtain ⟨⟨xk, xi, xt, xr, xa, xn, xc⟩, ⟨yk, yi, yt, yr, ya, yn, yc⟩⟩ := q
              simp only [En.cs, List.getElem?_cons_zero, List.getElem?_cons_succ, Nat.add_zero] at d0 d1 d2 d3 d4 d5 d6 d7 d8 d9
              simp only [Hd.v] at hc hc2
              have GE : Hid (∀ W' : World, Below wr.heap.size wr W' → W'.cell? ⟨w.heap.size, 0, none⟩ = some (.slice (some ⟨b1, o1, none⟩) n cap) ∧ W'.cell? ⟨b1, o1 + i, none⟩ = some (.slice (some ⟨b3, o3, none⟩) ln lc) ∧ W'.cell? ⟨b3, o3 + j * 10 + 5, none⟩ = some (.int .i64 yk) ∧ W'.cell? ⟨b3, o3 + j * 10 + 6, none⟩ = some (.int .i64 yi) ∧ W'.cell? ⟨b3, o3 + j * 10 + 7, none⟩ = some (.string yt) ∧ W'.cell? ⟨b3, o3 + j * 10 + 8, none⟩ = some (.int .i64 yr) ∧ W'.cell? ⟨b3, o3 + j * 10 + 9, none⟩ = some (.slice ya yn yc)) := hid (fun W' hb => by
                have ge : ∀ (p : Addr) (v : Value), wr.cell? p = some v → W'.cell? p = some v := fun p v e => (hb.cell (World.block_lt_of_cell? wr _ e)).trans e
                exact ⟨ge _ _ f0, ge _ _ dc, ge _ _ d5, ge _ _ d6, ge _ _ d7, ge _ _ d8, ge _ _ d9⟩)
              clear dh hq dd dd2 hbr2 d5 d6 d7 d8 d9
              go_wp2_with (first
                | (go_at_call 37; (refine (Hid.out hc _ Hbr2.out).mono ?_; rintro e w9 ⟨⟨sb, rfl, hsb⟩, hB9⟩; have Hsb := hid hsb; have B9 := hid (TR.out Hbr2.out hB9); clear f0 dc d0 d1 d2 d3 d4; obtain ⟨f0, dc, d5, d6, d7, d8, d9⟩ := GE.out w9 hB9; clear hsb hc hB9; cases sb))
                | (go_at_call 37; (refine (Hid.out hc2 _ B9.out).mono ?_; rintro e w10 ⟨⟨sb2, rfl, hsb2⟩, hB10⟩; have Hsb2 := hid hsb2; have B10 := hid (TR.out B9.out hB10); clear hsb2 hB10; cases sb2)))
              · go_ret
                exact ⟨⟨false, rfl, fun h => by cases h⟩, (FX.out _ B9.out).2⟩
              · go_ret
                exact ⟨⟨false, rfl, fun h => by cases h⟩, (FX.out _ B10.out).2⟩
              · go_roundg gj
                case measure => omega
                case rel => exact ⟨j + 1, by have := Hj.out; omega, by go_num, B10.out, fun e he => by
                  rw [List.take_add_one, Hq.out] at he
                  rcases List.mem_append.1 he with he | he
                  · exact Hacc2.out e he
                  · simp at he; subst he; exact ⟨Hsb.out (by first | rfl | trivial), Hsb2.out (by first | rfl | trivial)⟩⟩
end Go.Proofs.Ytenfgahedbeekaa

namespace Go.Proofs.Ytenfgahedbeekaa
open Go.ChangeShapes Go.WideShapes Go.ChangeAt Go.RowKit Go.Deep
set_option linter.unusedVariables false
set_option linter.unusedSimpArgs false

theorem cells81 : Try.prog.cellsOf 81 = 10 := by kernel_rfl
theorem cells70 : Try.prog.cellsOf 70 = 1 := by kernel_rfl
theorem cells25 : Try.prog.cellsOf 25 = 1 := by kernel_rfl
theorem cells27 : Try.prog.cellsOf 27 = 1 := by kernel_rfl
section
variable {H : Type} {enc : TypeId × Value → H} {W : World}
def EnT' (enc : TypeId × Value → H) (W : World) (e : En) : Prop := (e.key.In ∧ Trd enc W e.key.a e.key.n e.key.cap) ∧ (e.val.In ∧ Trd enc W e.val.a e.val.n e.val.cap)
set_option maxRecDepth 100000 in
theorem en_of {fuel : Nat} {cs : List Value} {x : DataW H × List MemPlace} (h : DataW.trod enc Try.prog W 0 (fun _ => true) true fuel 81 cs = some x) :
    ∃ s : En, cs = s.cs ∧ EnT' enc W s := by
  obtain ⟨xs, n, _, rfl, hl, hlen, hf⟩ := DataW.trod_struct Try.underlying81 h
  rw [cells81] at hl
  match cs, hl with
  | [c0, c1, c2, c3, c4, c5, c6, c7, c8, c9], _ =>
    match xs, hlen with
    | [y0, y1], _ =>
      have h0 := hf 0 _ rfl
      have h1 := hf 1 _ rfl
      simp [cells31] at h0 h1
      obtain ⟨k, e2, k1, k2⟩ := val_of h0
      obtain ⟨v, e3, v1, v2⟩ := val_of h1
      simp [Hd.cs] at e2 e3
      obtain ⟨rfl, rfl, rfl, rfl, rfl⟩ := e2
      obtain ⟨rfl, rfl, rfl, rfl, rfl⟩ := e3
      exact ⟨⟨k, v⟩, rfl, ⟨k1, k2⟩, ⟨v1, v2⟩⟩
set_option maxRecDepth 100000 in
theorem enrow_of {fuel : Nat} {v : Value} {x : DataW H × List MemPlace} (h : DataW.trod enc Try.prog W 0 (fun _ => true) true fuel 70 [v] = some x) : ∃ (s : Sl) (es : List En), v = s.v ∧ EnD W (s, es) := by
  rcases open_slice Try.underlying70 h with ⟨hcs, _⟩ | ⟨a, l, c, m, n, D, Pl, hcs, _, hl, hm', hm, _, hx⟩
  · simp at hcs
    subst hcs
    exact ⟨⟨none, 0, 0⟩, [], rfl, ⟨rfl, by show (0 : Nat) ≤ _; omega, Nat.le_refl _, fun j x hx => by simp at hx, fun e he => by cases he⟩⟩
  · simp at hcs
    subst hcs
    simp at hm
    subst hm
    have hs : ∀ j, j < l → ∃ s : En, (∃ b off, some a = some ⟨b, off, none⟩ ∧ ∀ i, i < 10 → W.cell? ⟨b, off + j * 10 + i, none⟩ = s.cs[i]?) ∧ EnT' enc W s := by
      intro j hj
      obtain ⟨cs, h1, h2⟩ := hx j (by omega)
      obtain ⟨s, rfl, h3⟩ := en_of h2
      rw [cells81] at h1
      obtain ⟨_, _, h4⟩ := World.cells?_some h1
      obtain ⟨b, off, spot⟩ := a
      have hspot : spot = none := by
        obtain ⟨cs', h1', h2'⟩ := hx 0 (by omega)
        rw [cells81] at h1'
        obtain ⟨s', rfl, _⟩ := en_of h2'
        obtain ⟨_, _, h4'⟩ := World.cells?_some h1'
        have := h4' 0 (by omega)
        simpa [Addr.add] using World.cell?_spot (v := .int .i64 s'.key.kind) (this.trans rfl)
      subst hspot
      refine ⟨s, ⟨b, off, rfl, fun i hi => ?_⟩, h3⟩
      have := h4 i hi
      simp only [Addr.add_lit] at this
      exact this
    refine ⟨⟨some a, l, _⟩, (List.range l).map (fun j => if hj : j < l then Classical.choose (hs j hj) else ⟨⟨0, 0, ByteArray.empty, 0, none, 0, 0⟩, ⟨0, 0, ByteArray.empty, 0, none, 0, 0⟩⟩), rfl, ⟨by simp, by show l ≤ _; unfold maxLen at hm'; omega, by show l ≤ _; omega, ?_, ?_⟩⟩
    · intro j h hjh
      simp only [List.getElem?_map, Option.map_eq_some_iff] at hjh
      obtain ⟨j', hj', rfl⟩ := hjh
      have hj : j < l := by have := (List.getElem?_eq_some_iff.1 hj').1; simpa using this
      have : j' = j := by simpa [hj] using hj'.symm
      subst this
      simp only [hj, dif_pos]
      exact (Classical.choose_spec (hs j' hj)).1
    · intro h hh
      simp only [List.mem_map, List.mem_range] at hh
      obtain ⟨j, hj, rfl⟩ := hh
      simp only [hj, dif_pos]
      have := (Classical.choose_spec (hs j hj)).2
      exact ⟨deep_of this.1.1 this.1.2, deep_of this.2.1 this.2.2⟩
set_option maxRecDepth 100000 in
theorem state_of {a0 : Option Addr} {len cap : Nat} {d : DataW H} {ps : List MemPlace} (h : DataW.Trod enc Try.prog W 0 (fun _ => true) true 27 (.agg #[.slice a0 len cap]) d ps) : ∃ ms : List (Sl × List En), StD W a0 len ms ∧ len ≤ cap := by
  obtain ⟨fuel, hf0⟩ := h
  obtain ⟨xs, n, _, _, hl0, hlen0, hf⟩ := DataW.trod_struct Try.underlying27 hf0
  match xs, hlen0 with
  | [y0], _ =>
    have h0 := hf 0 _ rfl
    simp [cells25, Value.cells] at h0
    rcases open_slice Try.underlying25 h0 with ⟨hcs, _⟩ | ⟨a, l, c, m, n, D, Pl, hcs, _, hl, hm', hm, _, hx⟩
    · simp at hcs
      obtain ⟨rfl, rfl, rfl⟩ := hcs
      exact ⟨[], ⟨rfl, by omega, fun j x hx => by simp at hx, fun m hm => by cases hm⟩, Nat.le_refl _⟩
    · simp at hcs
      obtain ⟨rfl, rfl, rfl⟩ := hcs
      simp at hm
      subst hm
      have hs : ∀ j, j < len → ∃ s : Sl × List En, (∃ b off, some a = some ⟨b, off, none⟩ ∧ W.cell? ⟨b, off + j, none⟩ = some s.1.v) ∧ EnD W s := by
        intro j hj
        obtain ⟨cs, h1, h2⟩ := hx j (by omega)
        rw [cells70] at h1
        obtain ⟨hsz, _, h4⟩ := World.cells?_some h1
        obtain ⟨v, rfl⟩ : ∃ v, cs = [v] := by
          match cs, hsz with
          | [v], _ => exact ⟨v, rfl⟩
        obtain ⟨s, es, rfl, h3⟩ := enrow_of h2
        have h5 := h4 0 (by omega)
        obtain ⟨b, off, spot⟩ := a
        have hspot : spot = none := by
          obtain ⟨cs', h1', h2'⟩ := hx 0 (by omega)
          rw [cells70] at h1'
          obtain ⟨hsz', _, h4'⟩ := World.cells?_some h1'
          obtain ⟨v', rfl⟩ : ∃ v, cs' = [v] := by
            match cs', hsz' with
            | [v], _ => exact ⟨v, rfl⟩
          have := h4' 0 (by omega)
          simpa [Addr.add] using World.cell?_spot (v := v') (this.trans rfl)
        subst hspot
        refine ⟨(s, es), ⟨b, off, rfl, ?_⟩, h3⟩
        simp only [Addr.add_lit, Nat.mul_one, Nat.add_zero] at h5
        exact h5
      refine ⟨(List.range len).map (fun j => if hj : j < len then Classical.choose (hs j hj) else (⟨none, 0, 0⟩, [])), ⟨by simp, by unfold maxLen at hm'; omega, ?_, ?_⟩, by omega⟩
      · intro j h hjh
        simp only [List.getElem?_map, Option.map_eq_some_iff] at hjh
        obtain ⟨y, ⟨j', hj', rfl⟩, rfl⟩ := hjh
        have hj : j < len := by have := (List.getElem?_eq_some_iff.1 hj').1; simpa using this
        have : j' = j := by simpa [hj] using hj'.symm
        subst this
        simp only [hj, dif_pos]
        exact (Classical.choose_spec (hs j' hj)).1
      · intro h hh
        simp only [List.mem_map, List.mem_range] at hh
        obtain ⟨j, hj, rfl⟩ := hh
        simp only [hj, dif_pos]
        exact (Classical.choose_spec (hs j hj)).2
end
/- What isn't great, as trees. -/
theorem entries_of {w : World} : ∀ (es : List En), (∀ e ∈ es, Sm w e.key ∧ Sm w e.val) → ∃ ps : Rw 3, ps.map (enT 3) = es ∧ ∀ p ∈ ps, Rds 3 w p.1 ∧ Rds 3 w p.2 := by
  intro es hs
  induction es with
  | nil => exact ⟨[], rfl, fun p hp => by cases hp⟩
  | cons e r ih =>
    obtain ⟨t, h1, h2⟩ := tree_of (hs e (by simp)).1
    obtain ⟨u, g1, g2⟩ := tree_of (hs e (by simp)).2
    obtain ⟨ps, h3, h4⟩ := ih (fun x hx => hs x (by simp [hx]))
    refine ⟨(t, u) :: ps, by simp [enT, h1, g1, h3], fun p hp => ?_⟩
    rcases List.mem_cons.1 hp with rfl | hp
    · exact ⟨h2, g2⟩
    · exact h4 p hp
theorem rows_small {w : World} : ∀ (ms : List (Sl × List En)), (∀ m ∈ ms, EnD w m) → (∀ m ∈ ms, EnS w m) → ∃ rs : List (Sl × Rw 3), rs.map (·.1) = ms.map (·.1) ∧ ∀ r ∈ rs, RwR 3 w r.1.a r.1.n r.2 ∧ r.1.n ≤ r.1.cap := by
  intro ms hd hs
  induction ms with
  | nil => exact ⟨[], rfl, fun r hr => by cases hr⟩
  | cons m r ih =>
    obtain ⟨ps, h1, h2⟩ := entries_of m.2 (hs m (by simp)).2
    obtain ⟨rs, h3, h4⟩ := ih (fun x hx => hd x (by simp [hx])) (fun x hx => hs x (by simp [hx]))
    have dm := hd m (by simp)
    have hl : ps.length = m.2.length := by rw [← h1, List.length_map]
    refine ⟨(m.1, ps) :: rs, by simp [h3], fun x hx => ?_⟩
    rcases List.mem_cons.1 hx with rfl | hx
    · exact ⟨⟨by show m.1.n = ps.length; rw [hl]; exact dm.n1, by show m.1.n ≤ 1000; have := (hs m (by simp)).1; have := dm.n1; omega, by show ERd w m.1.a (ps.map (enT 3)); rw [h1]; exact dm.rd, h2⟩, dm.cap⟩
    · exact h4 x hx
theorem small_state {w : World} {a : Option Addr} {n : Nat} {ms : List (Sl × List En)} (d : StD w a n ms) (h20 : ms.length ≤ 20) (h : ∀ m ∈ ms, EnS w m) : ∃ rs : List (Sl × Rw 3), StR 3 w a n rs := by
  obtain ⟨rs, h1, h2⟩ := rows_small ms d.el h
  have hl : rs.length = ms.length := by have := congrArg List.length h1; simpa using this
  exact ⟨rs, by rw [hl]; exact d.n1, by have := d.n1; omega, by rw [h1]; exact d.rd, h2⟩
end Go.Proofs.Ytenfgahedbeekaa

