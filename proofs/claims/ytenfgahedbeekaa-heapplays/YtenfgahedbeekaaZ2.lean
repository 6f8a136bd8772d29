/- Rows of steps; few. -/
import Derived.Test.YtenfgahedbeekaaG
import Derived.Deep.RegionHeld3
import Derived.BigQuiet
namespace Go.Proofs.Ytenfgahedbeekaa
open Go.ChangeShapes Go.WideShapes Go.ChangeAt Go.RowKit Go.Deep
set_option linter.unusedVariables false
set_option linter.unusedSimpArgs false

structure Sp where
  what : Int
  m : Int
  key : Hd
  val : Hd
def Sp.cs (x : Sp) : List Value := [.int .i64 x.what, .int .i64 x.m, .int .i64 x.key.kind, .int .i64 x.key.int, .string x.key.text, .int .i64 x.key.rc, .slice x.key.a x.key.n x.key.cap, .int .i64 x.val.kind, .int .i64 x.val.int, .string x.val.text, .int .i64 x.val.rc, .slice x.val.a x.val.n x.val.cap]
def SpRd (w : World) (a : Option Addr) (ss : List Sp) : Prop := ∀ (j : Nat) (x : Sp), ss[j]? = some x → ∃ b off, a = some ⟨b, off, none⟩ ∧ ∀ i, i < 12 → w.cell? ⟨b, off + j * 12 + i, none⟩ = x.cs[i]?
theorem SpRd.below {w w' : World} {a ss B} (h : SpRd w a ss) (hB : w.heap.size ≤ B) (k : Below B w w') : SpRd w' a ss := by
  intro j x e
  obtain ⟨b, off, rfl, hc⟩ := h j x e
  refine ⟨b, off, rfl, fun i hi => ?_⟩
  have h1 := hc i hi
  have hl : x.cs.length = 12 := rfl
  have : ∃ v, x.cs[i]? = some v := ⟨x.cs[i]'(by omega), List.getElem?_eq_getElem _⟩
  obtain ⟨v, hv⟩ := this
  rw [hv] at h1 ⊢
  exact (k.cell (p := ⟨b, off + j * 12 + i, none⟩) (Nat.lt_of_lt_of_le (World.block_lt_of_cell? w _ h1) hB)).trans h1
def SpIn (w : World) (ss : List Sp) : Prop := ∀ x ∈ ss, (∃ fs gs, Deep w x.key fs gs) ∧ (∃ fs gs, Deep w x.val fs gs) ∧ -9223372036854775808 ≤ x.m ∧ x.m ≤ 9223372036854775807 ∧ -9223372036854775808 ≤ x.what ∧ x.what ≤ 9223372036854775807
def FwP (w : World) (ss : List Sp) (e : Ending) : Prop := ∃ b, e = .returned (.bool b) ∧ (b = true → ss.length ≤ 60 ∧ ∀ x ∈ ss, Sm w x.key ∧ Sm w x.val)

set_option maxRecDepth 10000 in
set_option maxHeartbeats 1000000 in
theorem few_any (w : World) (a : Option Addr) (n cap : Nat) (ss : List Sp) (hn : n = ss.length) (hn2 : n ≤ 9223372036854775807) (hv : SpRd w a ss) (hd : SpIn w ss) :
    Calls Try.prog 10 #[.slice a n cap] w fun e w' => FwP w ss e ∧ Below w.heap.size w w' := by
  have Hn := hid hn
  have HD := hid hd
  have hS := hid (fun w h fs gs d => small_any w h fs gs d)
  clear hn hd
  go_enter Try.func10, Try.ntmps10
  go_wp2
  go_loopg [3] n (fun g ii wr => ∃ i : Nat, i + g = n ∧ ii = .int .i64 (i : Int) ∧ Below w.heap.size w wr ∧ ∀ x ∈ ss.take i, Sm w x.key ∧ Sm w x.val)
  case atStart => exact ⟨0, by omega, rfl, Below.refl _ _, fun h hh => by simp at hh⟩
  case round =>
    obtain ⟨i, hi, rfl, hbel, hacc⟩ := hrel
    have Hacc := hid hacc
    clear hacc
    have Hi := hid hi
    cases gk with
    | zero =>
      have hin' : i = n := by omega
      clear hi
      subst hin'
      go_wp2
      go_ret
      refine ⟨⟨_, rfl, fun h => ⟨by simp at h; rw [← Hn.out]; omega, ?_⟩⟩, hbel⟩
      have hA := Hacc.out
      rw [Hn.out, List.take_length] at hA
      exact hA
    | succ g =>
      have hlt : i < n := by omega
      clear hi
      obtain ⟨f, hfi⟩ : ∃ f, ss[i]? = some f := ⟨ss[i]'(by rw [← Hn.out]; exact hlt), by rw [List.getElem?_eq_getElem]⟩
      obtain ⟨b1, o1, rfl, e1⟩ := (hv.below (Nat.le_refl _) hbel) i f hfi
      obtain ⟨⟨fs, gs, dd⟩, ⟨fs2, gs2, dd2⟩, _⟩ := HD.out f (List.mem_of_getElem? hfi)
      have hc : Hid (∀ w1, Below w.heap.size w w1 → Calls Try.prog 37 #[f.key.v] w1 fun e w' => (∃ b, e = .returned (.bool b) ∧ (b = true → Sm w f.key)) ∧ Below w1.heap.size w1 w') := by
        refine hid (fun w1 hb1 => (Hid.out hS w1 f.key fs gs (dd.below (Nat.le_refl _) hb1)).mono ?_)
        rintro e w' ⟨⟨b, rfl, hb⟩, h2⟩
        exact ⟨⟨b, rfl, fun h => ⟨fs, gs, dd, hb h⟩⟩, h2⟩
      have hc2 : Hid (∀ w1, Below w.heap.size w w1 → Calls Try.prog 37 #[f.val.v] w1 fun e w' => (∃ b, e = .returned (.bool b) ∧ (b = true → Sm w f.val)) ∧ Below w1.heap.size w1 w') := by
        refine hid (fun w1 hb1 => (Hid.out hS w1 f.val fs2 gs2 (dd2.below (Nat.le_refl _) hb1)).mono ?_)
        rintro e w' ⟨⟨b, rfl, hb⟩, h2⟩
        exact ⟨⟨b, rfl, fun h => ⟨fs2, gs2, dd2, hb h⟩⟩, h2⟩
      have Hfi := hid hfi
      have hi0 : (0 : Int) ≤ (i : Int) := by omega
      have hi1 : (i : Int) < (n : Int) := by omega
      have hn3 : (n : Int) ≤ 9223372036854775807 := by omega
      have x2 := e1 2 (by omega)
      have x3 := e1 3 (by omega)
      have x4 := e1 4 (by omega)
      have x5 := e1 5 (by omega)
      have x6 := e1 6 (by omega)
      have x7 := e1 7 (by omega)
      have x8 := e1 8 (by omega)
      have x9 := e1 9 (by omega)
      have x10 := e1 10 (by omega)
      have x11 := e1 11 (by omega)
      obtain ⟨fw, fm, ⟨kk, ki, kx, kr, ka, kn, kc⟩, ⟨vk, vi, vx, vr, va, vn, vc⟩⟩ := f
      simp only [Sp.cs, List.getElem?_cons_zero, List.getElem?_cons_succ, Nat.add_zero] at x2 x3 x4 x5 x6 x7 x8 x9 x10 x11
      simp only [Hd.v] at hc hc2
      clear e1 hfi dd dd2 hS
      go_wp2_with (first
        | (go_at_call 37; (refine (Hid.out hc wr hbel).mono ?_; rintro e w9 ⟨⟨sb, rfl, hsb⟩, hB9⟩; have Hsb := hid hsb; clear hsb hc; have hbel9 := hid (hbel.trans (hB9.mono hbel.size)); have y7 := (hB9.cell (World.block_lt_of_cell? wr _ x7)).trans x7; have y8 := (hB9.cell (World.block_lt_of_cell? wr _ x8)).trans x8; have y9 := (hB9.cell (World.block_lt_of_cell? wr _ x9)).trans x9; have y10 := (hB9.cell (World.block_lt_of_cell? wr _ x10)).trans x10; have y11 := (hB9.cell (World.block_lt_of_cell? wr _ x11)).trans x11; clear x2 x3 x4 x5 x6 x7 x8 x9 x10 x11 hB9; cases sb))
        | (go_at_call 37; (refine (Hid.out hc2 w9 hbel9.out).mono ?_; rintro e w10 ⟨⟨sb2, rfl, hsb2⟩, hB10⟩; have Hsb2 := hid hsb2; clear hsb2; cases sb2)))
      · go_ret
        exact ⟨⟨false, rfl, fun h => by cases h⟩, hbel9.out⟩
      · go_ret
        exact ⟨⟨false, rfl, fun h => by cases h⟩, hbel9.out.trans (hB10.mono hbel9.out.size)⟩
      · go_roundg g
        case measure => omega
        case rel => exact ⟨i + 1, by have := Hi.out; omega, by go_num, hbel9.out.trans (hB10.mono hbel9.out.size), fun h hh => by
          rw [List.take_add_one, Hfi.out] at hh
          rcases List.mem_append.1 hh with hh | hh
          · exact Hacc.out h hh
          · simp at hh; subst hh; exact ⟨Hsb.out (by first | rfl | trivial), Hsb2.out (by first | rfl | trivial)⟩⟩
theorem cells33 : Try.prog.cellsOf 33 = 12 := by kernel_rfl
section
variable {H : Type} {enc : TypeId × Value → H} {W : World}
def SpT (enc : TypeId × Value → H) (W : World) (x : Sp) : Prop := (x.key.In ∧ Trd enc W x.key.a x.key.n x.key.cap) ∧ (x.val.In ∧ Trd enc W x.val.a x.val.n x.val.cap) ∧ -9223372036854775808 ≤ x.m ∧ x.m ≤ 9223372036854775807 ∧ -9223372036854775808 ≤ x.what ∧ x.what ≤ 9223372036854775807
set_option maxRecDepth 100000 in
theorem sp_of {fuel : Nat} {cs : List Value} {x : DataW H × List MemPlace} (h : DataW.trod enc Try.prog W 0 (fun _ => true) true fuel 33 cs = some x) :
    ∃ s : Sp, cs = s.cs ∧ SpT enc W s := by
  obtain ⟨xs, n, _, rfl, hl, hlen, hf⟩ := DataW.trod_struct Try.underlying33 h
  rw [cells33] at hl
  match cs, hl with
  | [c0, c1, c2, c3, c4, c5, c6, c7, c8, c9, c10, c11], _ =>
    match xs, hlen with
    | [y0, y1, y2, y3], _ =>
      have h0 := hf 0 _ rfl
      have h1 := hf 1 _ rfl
      have h2 := hf 2 _ rfl
      have h3 := hf 3 _ rfl
      simp [cells3, cells31] at h0 h1 h2 h3
      obtain ⟨n0, e0, _, w0⟩ := DataW.trod_int Try.underlying3 h0
      obtain ⟨n1, e1, _, w1⟩ := DataW.trod_int Try.underlying3 h1
      obtain ⟨k, e2, k1, k2⟩ := val_of h2
      obtain ⟨v, e3, v1, v2⟩ := val_of h3
      have b0 : -9223372036854775808 ≤ n0 ∧ n0 ≤ 9223372036854775807 := by simpa [Lit.wf, IntKind.min, IntKind.max, IntKind.signed, IntKind.bits] using w0
      have b1 : -9223372036854775808 ≤ n1 ∧ n1 ≤ 9223372036854775807 := by simpa [Lit.wf, IntKind.min, IntKind.max, IntKind.signed, IntKind.bits] using w1
      simp [Hd.cs] at e0 e1 e2 e3
      obtain ⟨rfl, rfl, rfl, rfl, rfl⟩ := e2
      obtain ⟨rfl, rfl, rfl, rfl, rfl⟩ := e3
      subst e0 e1
      exact ⟨⟨n0, n1, k, v⟩, rfl, ⟨k1, k2⟩, ⟨v1, v2⟩, b1.1, b1.2, b0.1, b0.2⟩
set_option maxRecDepth 100000 in
theorem steps_of {a0 : Option Addr} {len cap : Nat} {d : DataW H} {ps : List MemPlace} (h : DataW.Trod enc Try.prog W 0 (fun _ => true) true 22 (.slice a0 len cap) d ps) : ∃ ss : List Sp, len = ss.length ∧ len ≤ 9223372036854775807 ∧ SpRd W a0 ss ∧ SpIn W ss := by
  obtain ⟨fuel, hf⟩ := h
  rcases open_slice Try.underlying22 hf with ⟨hcs, _⟩ | ⟨a, l, c, m, n, D, Pl, hcs, _, hl, hm', hm, _, hx⟩
  · simp [Value.cells] at hcs
    obtain ⟨rfl, rfl, rfl⟩ := hcs
    exact ⟨[], rfl, by omega, fun j x hx => by simp at hx, fun h hh => by simp at hh⟩
  · simp [Value.cells] at hcs
    obtain ⟨rfl, rfl, rfl⟩ := hcs
    simp at hm
    subst hm
    have hs : ∀ j, j < len → ∃ s : Sp, (∃ b off, some a = some ⟨b, off, none⟩ ∧ ∀ i, i < 12 → W.cell? ⟨b, off + j * 12 + i, none⟩ = s.cs[i]?) ∧ SpT enc W s := by
      intro j hj
      obtain ⟨cs, h1, h2⟩ := hx j (by omega)
      obtain ⟨s, rfl, h3⟩ := sp_of h2
      rw [cells33] at h1
      obtain ⟨_, _, h4⟩ := World.cells?_some h1
      obtain ⟨b, off, spot⟩ := a
      have hspot : spot = none := by
        obtain ⟨cs', h1', h2'⟩ := hx 0 (by omega)
        rw [cells33] at h1'
        obtain ⟨s', rfl, _⟩ := sp_of h2'
        obtain ⟨_, _, h4'⟩ := World.cells?_some h1'
        have := h4' 0 (by omega)
        simpa [Addr.add] using World.cell?_spot (v := .int .i64 s'.what) (this.trans rfl)
      subst hspot
      refine ⟨s, ⟨b, off, rfl, fun i hi => ?_⟩, h3⟩
      have := h4 i hi
      simp only [Addr.add_lit] at this
      exact this
    refine ⟨(List.range len).map (fun j => if hj : j < len then Classical.choose (hs j hj) else ⟨0, 0, ⟨0, 0, ByteArray.empty, 0, none, 0, 0⟩, ⟨0, 0, ByteArray.empty, 0, none, 0, 0⟩⟩), by simp, by unfold maxLen at hm'; omega, ?_, ?_⟩
    · intro j h hjh
      simp only [List.getElem?_map, Option.map_eq_some_iff] at hjh
      obtain ⟨j', hj', rfl⟩ := hjh
      have hj : j < len := by have := (List.getElem?_eq_some_iff.1 hj').1; simpa using this
      have : j' = j := by simpa [hj] using hj'.symm
      subst this
      simp only [hj, dif_pos]
      exact (Classical.choose_spec (hs j' hj)).1
    · intro h hh
      simp only [List.mem_map, List.mem_range] at hh
      obtain ⟨j, hj, rfl⟩ := hh
      simp only [hj, dif_pos]
      have := (Classical.choose_spec (hs j hj)).2
      exact ⟨deep_of this.1.1 this.1.2, deep_of this.2.1.1 this.2.1.2, this.2.2⟩
end
end Go.Proofs.Ytenfgahedbeekaa
