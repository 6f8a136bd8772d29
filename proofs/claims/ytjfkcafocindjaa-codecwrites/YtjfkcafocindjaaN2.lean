/- appendRow over plain values; PutEvent. -/
import Derived.Test.YtjfkcafocindjaaJ2
import Derived.Test.YtjfkcafocindjaaU
import Derived.Deep.RegionHeld3
import Derived.Deep.LoopGhost
namespace Go.Proofs.Ytjfkcafocindjaa
open Go.RowKit Go.Deep
set_option linter.unusedVariables false
set_option linter.unusedSimpArgs false

structure PRd (w : World) (a : Option Addr) (ps : List (Hd × List Hd)) : Prop where
  rd : VRd w a (ps.map Prod.fst)
  hin : ∀ p ∈ ps, p.1.In
  n : ∀ p ∈ ps, p.1.n = p.2.length
  frd : ∀ p ∈ ps, VRd w p.1.a p.2
  fin : ∀ p ∈ ps, ∀ f ∈ p.2, f.In
theorem PRd.below {w w' : World} {a : Option Addr} {ps} {B : Nat} (h : PRd w a ps) (hB : w.heap.size ≤ B) (k : Below B w w') : PRd w' a ps :=
  ⟨h.rd.below hB k, h.hin, h.n, fun p hp => (h.frd p hp).below hB k, h.fin⟩
theorem PRd.drew {w : World} {a : Option Addr} {ps} (h : PRd w a ps) : PRd w.drew a ps := ⟨h.rd, h.hin, h.n, h.frd, h.fin⟩
def plB (p : Hd × List Hd) : Bool := plainB p.1 p.2
theorem PRd.ok {w : World} {a : Option Addr} {ps} (h : PRd w a ps) (hp : ps.all plB = true) : ∀ p ∈ ps, POk p := fun p hm => ⟨h.hin p hm, h.n p hm, h.fin p hm, List.all_eq_true.1 hp p hm⟩

set_option maxRecDepth 10000 in
set_option maxHeartbeats 1000000 in
theorem appendRowV_any (w0 w : World) (B : Nat) (v : Value) (xs : List Nat) (a : Option Addr) (n cap : Nat) (ps : List (Hd × List Hd)) (hn : n = ps.length) (hn2 : n ≤ 1000) (hP : PRd w0 a ps) (h0 : w0.heap.size ≤ B) (hb0 : Below B w0 w) (hpl : ps.all plB = true)
    (hr : Row w B v xs) (hB : B ≤ w.heap.size) (hl : xs.length ≤ 1000000) :
    Calls Try.prog 47 #[v, .slice a n cap] w fun e w' => ∃ v', e = .returned v' ∧ Row w' B v' (xs ++ enc n ++ pes ps) ∧ Grw w v w' v' := by
  have Hn := hid hn
  have hT : (xs ++ enc n ++ pes ps).length ≤ 10000000 := by
    have := enc_le n (by omega)
    have := pes_le (hP.ok hpl)
    simp; omega
  have hTl := hid hT
  clear hT
  go_enter Try.func47, Try.ntmps47
  go_wp2_with (go_at_call 35; (refine (appendUint_int w B v xs _ n (by omega) hr hB (by omega) (by omega)).mono ?_; rintro e w1 ⟨v1, rfl, hr1, hg1⟩))
  go_loopg [0, 14] n (fun g vv ii wr => ∃ (i : Nat) (ys : List Nat), i + g = n ∧ ii = .int .i64 (i : Int) ∧ Row wr B vv ys ∧ Grw w v wr vv ∧ ys ++ pes (ps.drop i) = xs ++ enc n ++ pes ps)
  case atStart => exact ⟨0, xs ++ enc n, by omega, rfl, hr1, hg1, rfl⟩
  case round =>
    obtain ⟨i, ys, hi, rfl, hry, hgy, hT⟩ := hrel
    have Hi := hid hi
    have HT := hid hT
    clear hT
    cases gk with
    | zero =>
      have hin' : i = n := by omega
      clear hi
      subst hin'
      go_wp2
      go_ret
      refine ⟨_, rfl, ?_, hgy⟩
      rw [← HT.out, Hn.out, List.drop_length]
      simpa [pes] using hry
    | succ g =>
      have hlt : i < n := by omega
      clear hi
      obtain ⟨p, hpi⟩ : ∃ p, ps[i]? = some p := ⟨ps[i]'(by rw [← Hn.out]; exact hlt), by rw [List.getElem?_eq_getElem]⟩
      have hmem := List.mem_of_getElem? hpi
      have hbw := hid (hgy.below hr hB)
      obtain ⟨b1, o1, rfl, e1⟩ := (hP.rd.below h0 (hb0.trans hbw.out)) i p.1 (by simp [hpi])
      have hd := hid (pes_drop hpi)
      have hys : ys.length ≤ 10000000 := by
        have h1 := congrArg List.length HT.out
        have h2 := hTl.out
        rw [List.length_append] at h1
        omega
      have hb1 := World.block_lt_of_cell? wr ⟨b1, o1 + i * 5 + 0, none⟩ ((e1 0 (by omega)).trans (show p.1.cs[0]? = some (.int .i64 p.1.kind) from rfl))
      simp only at hb1
      have hBw : B ≤ wr.heap.size := by have := hbw.out.size; omega
      have hc := hid (appendValue_any w0 (wr.alloc (.cells p.1.v.cells 45)) B _ ys p.1 p.2 (hP.hin p hmem) (hP.n p hmem) (hP.frd p hmem) h0 ((hb0.trans hbw.out).alloc hBw _) (hP.fin p hmem) (List.all_eq_true.1 hpl p hmem) (hry.alloc _) (by simp; omega) (by omega))
      have hpe : encV p.1 p.2 = pe p := rfl
      rw [hpe] at hc
      have x0 := e1 0 (by omega)
      have x1 := e1 1 (by omega)
      have x2 := e1 2 (by omega)
      have x3 := e1 3 (by omega)
      have x4 := e1 4 (by omega)
      generalize hE : pe p = E at *
      obtain ⟨⟨fk, fi, ft, fr, fa, fn, fc⟩, fs⟩ := p
      simp only [Hd.cs, List.getElem?_cons_zero, List.getElem?_cons_succ, Nat.add_zero] at x0 x1 x2 x3 x4
      simp only [Hd.v, Value.cells] at hc
      clear e1 hpi hmem hE hpe
      go_wp2_with (go_at_call 45; (refine (Hid.out hc).mono ?_; rintro e w9 ⟨v9, rfl, hr9, hg9⟩))
      go_roundg g
      case measure => omega
      case rel => exact ⟨i + 1, ys ++ E, by have := Hi.out; omega, by go_num, hr9, hgy.trans hg9.unalloc, by rw [← HT.out, hd.out]; simp⟩

def evB (s : ByteArray) (ps : List (Hd × List Hd)) : Bool := (decide (1 ≤ s.size) && decide (s.size ≤ 20)) && (decide (ps.length ≤ 12) && ps.all plB)
def encE (s : ByteArray) (ps : List (Hd × List Hd)) : List Nat := encT s ++ enc ps.length ++ pes ps
def PutP (B : Nat) (b : Bool) (bs : List Nat) (e : Ending) (w' : World) : Prop := ∃ v', e = .returned (.tuple #[v', .int .i64 (if b then 0 else 20)]) ∧ Row w' B v' (if b then bs else [])

theorem all_dropP {ps : List (Hd × List Hd)} {i : Nat} {p : Hd × List Hd} (h : ps[i]? = some p) : (ps.drop i).all plB = (plB p && (ps.drop (i + 1)).all plB) := by
  have hlt : i < ps.length := (List.getElem?_eq_some_iff.1 h).1
  rw [List.drop_eq_getElem_cons hlt]
  have : ps[i] = p := by simpa [hlt] using h
  rw [this]; rfl

set_option maxRecDepth 10000 in
set_option maxHeartbeats 1000000 in
theorem putEvent_no (w : World) (s : ByteArray) (a : Option Addr) (n cap : Nat) (hs : s.size ≤ 1000000000000) (hn2 : n ≤ 9223372036854775807) (h : ¬ ((1 ≤ s.size ∧ s.size ≤ 20) ∧ n ≤ 12)) :
    Calls Try.prog 33 #[.agg #[.string s, .slice a n cap]] w fun e w' => Below w.heap.size w w' ∧ PutP w.heap.size false [] e w' := by
  have hi := hid (fun w => isName_any w s hs)
  by_cases hnm : 1 ≤ s.size ∧ s.size ≤ 20
  · have h1 : (decide (1 ≤ s.size) && decide (s.size ≤ 20)) = true := by simp [hnm.1, hnm.2]
    rw [h1] at hi
    have h2 : 12 < n := by omega
    clear h hs hnm h1
    go_enter Try.func33, Try.ntmps33
    go_wp2_with (go_at_call 43; (refine (Hid.out hi _).mono ?_; rintro e w1 ⟨rfl, rfl⟩))
    go_ret2
    exact ⟨(Below.refl _ _).alloc (Nat.le_refl _) _, _, rfl, Row.nil _ _⟩
  · have h1 : (decide (1 ≤ s.size) && decide (s.size ≤ 20)) = false := by
      simp only [Bool.and_eq_false_iff, decide_eq_false_iff_not]
      omega
    rw [h1] at hi
    clear h hs hnm h1
    go_enter Try.func33, Try.ntmps33
    go_wp2_with (go_at_call 43; (refine (Hid.out hi _).mono ?_; rintro e w1 ⟨rfl, rfl⟩))
    go_ret2
    exact ⟨(Below.refl _ _).alloc (Nat.le_refl _) _, _, rfl, Row.nil _ _⟩

set_option maxRecDepth 10000 in
set_option maxHeartbeats 1000000 in
theorem putEvent_go (w : World) (s : ByteArray) (a : Option Addr) (n cap : Nat) (ps : List (Hd × List Hd)) (hn : n = ps.length) (hs : s.size ≤ 1000000000000) (h1 : (decide (1 ≤ s.size) && decide (s.size ≤ 20)) = true) (h2 : n ≤ 12) (hP : PRd w a ps) :
    Calls Try.prog 33 #[.agg #[.string s, .slice a n cap]] w fun e w' => Below w.heap.size w w' ∧ PutP w.heap.size (ps.all plB) (encT s ++ enc n ++ pes ps) e w' := by
  have hi := hid (fun w => isName_any w s hs)
  rw [h1] at hi
  have Hn := hid hn
  have hB1 : Below w.heap.size w (w.alloc (.cells #[.string s, .slice a n cap] 52)) := (Below.refl _ _).alloc (Nat.le_refl _) _
  have hszs : s.size ≤ 20 := by simp at h1; exact h1.2
  clear hn h1
  go_enter Try.func33, Try.ntmps33
  go_wp2_with (go_at_call 43; (refine (Hid.out hi _).mono ?_; rintro e w1 ⟨rfl, rfl⟩))
  go_loopg [19] n (fun g ii wr => ∃ i : Nat, i + g = n ∧ ii = .int .i64 (i : Int) ∧ Below (w.heap.size + 1) (w.alloc (.cells #[.string s, .slice a n cap] 52)) wr ∧ ps.all plB = (ps.drop i).all plB)
  case atStart => exact ⟨0, by omega, rfl, Below.refl _ _, rfl⟩
  case round =>
    obtain ⟨i, hi, rfl, hbel, hall⟩ := hrel
    have Hi := hid hi
    have Hall := hid hall
    have hBw : Below w.heap.size w wr := hB1.trans (hbel.mono (by omega))
    have Hbw := hid hBw
    have hsz : w.heap.size + 1 ≤ wr.heap.size := by have := hbel.size; simp at this; exact this
    have hbx := res2_cells hbel
    have g0 := cellOf hbx 0
    have g1 := cellOf hbx 1
    simp only [List.getElem?_toArray, List.getElem?_cons_zero, List.getElem?_cons_succ] at g0 g1
    have HP := hid (hP.below (Nat.le_refl _) hBw)
    have Hbel := hid hbel
    clear hall hbx hbel hBw
    cases gk with
    | zero =>
      have hin' : i = n := by omega
      clear hi
      subst hin'
      have hpl : ps.all plB = true := by rw [Hall.out, Hn.out, List.drop_length]; rfl
      have Hpl := hid hpl
      clear hpl
      have hts : (encT s).length ≤ 100 := by
        have := enc_le s.size (by omega)
        simp [encT, sb_length]; omega
      go_wp2_with fail
      go_region_held3 (fun w2 => w2.cell? ⟨w.heap.size, 0, none⟩ = some (.string s) ∧ w2.cell? ⟨w.heap.size, 1, none⟩ = some (.slice a i cap)) (first | exact ⟨u0, u1⟩ | exact ⟨tt _ _ g0, tt _ _ g1⟩ | go_keep) ((first
        | (go_at_call 47; (refine (appendRowV_any _ w2 _ v2 _ a i cap ps Hn.out (by omega) HP.out.drew (Nat.le_refl _) hb2 Hpl.out hr2 hb2.size (by omega)).mono ?_; rintro e w3 ⟨v3, rfl, hr3, hg3⟩; have hb3 := hg3.below hr2 hb2.size; have u0 := (hb3.cell (p := ⟨w.heap.size, 0, none⟩) (show w.heap.size < wr.heap.size by omega)).trans (tt _ _ g0); have u1 := (hb3.cell (p := ⟨w.heap.size, 1, none⟩) (show w.heap.size < wr.heap.size by omega)).trans (tt _ _ g1)))
        | (go_at_call 12; (refine (putText_any _ s (by omega)).mono ?_; rintro e w2 ⟨v2, rfl, hr2, hb2⟩; have tt : ∀ (p : Addr) (v : Value), wr.cell? p = some v → w2.cell? p = some v := fun p v h => (hb2.cell (p := p) (World.block_lt_of_cell? wr p h)).trans h))))
      go_wp2
      go_ret2
      refine ⟨(Hbw.out.drew.trans (hb2.mono Hbw.out.size)).trans (hb3.mono Hbw.out.size), v3, ?_, ?_⟩
      · rw [Hpl.out]; rfl
      · rw [Hpl.out]; exact hr3.mono Hbw.out.size
    | succ g =>
      have hlt : i < n := by omega
      clear hi
      obtain ⟨p, hpi⟩ : ∃ p, ps[i]? = some p := ⟨ps[i]'(by rw [← Hn.out]; exact hlt), by rw [List.getElem?_eq_getElem]⟩
      have hmem := List.mem_of_getElem? hpi
      obtain ⟨b1, o1, rfl, e1⟩ := HP.out.rd i p.1 (by simp [hpi])
      have hd := hid (all_dropP hpi)
      have hb1 := World.block_lt_of_cell? wr ⟨b1, o1 + i * 5 + 0, none⟩ ((e1 0 (by omega)).trans (show p.1.cs[0]? = some (.int .i64 p.1.kind) from rfl))
      simp only at hb1
      have hc := hid (isPlain_any (wr.alloc (.cells p.1.v.cells 45)) p.1 p.2 (hP.hin p hmem) (hP.n p hmem) ((HP.out.frd p hmem).below (Nat.le_refl _) ((Below.refl _ _).alloc (Nat.le_refl _) _)) (hP.fin p hmem))
      have hpe : plainB p.1 p.2 = plB p := rfl
      rw [hpe] at hc
      have x0 := e1 0 (by omega)
      have x1 := e1 1 (by omega)
      have x2 := e1 2 (by omega)
      have x3 := e1 3 (by omega)
      have x4 := e1 4 (by omega)
      generalize hE : plB p = E at *
      obtain ⟨⟨fk, fi, ft, fr, fa, fn, fc⟩, fs⟩ := p
      simp only [Hd.cs, List.getElem?_cons_zero, List.getElem?_cons_succ, Nat.add_zero] at x0 x1 x2 x3 x4
      simp only [Hd.v, Value.cells] at hc
      clear e1 hpi hmem hE hpe
      cases E with
      | false =>
        go_wp2_with (go_at_call 44; (refine (Hid.out hc).mono ?_; rintro e w9 ⟨rfl, hb9⟩))
        go_ret2
        refine ⟨(Hbw.out.alloc Hbw.out.size _).trans (hb9.mono (by have := Hbw.out.size; simp; omega)), .slice none 0 0, ?_, ?_⟩
        · rw [Hall.out, hd.out]; rfl
        · rw [Hall.out, hd.out]; exact Row.nil _ _
      | true =>
        go_wp2_with (go_at_call 44; (refine (Hid.out hc).mono ?_; rintro e w9 ⟨rfl, hb9⟩))
        go_roundg g
        case measure => omega
        case rel => exact ⟨i + 1, by have := Hi.out; omega, by go_num, (Hbel.out.alloc hsz _).trans (hb9.mono (by simp; omega)), by rw [Hall.out, hd.out]; rfl⟩
theorem putEvent_any (w : World) (s : ByteArray) (a : Option Addr) (n cap : Nat) (ps : List (Hd × List Hd)) (hn : n = ps.length) (hs : s.size ≤ 1000000000000) (hn2 : n ≤ 9223372036854775807) (hP : PRd w a ps) :
    Calls Try.prog 33 #[.agg #[.string s, .slice a n cap]] w fun e w' => Below w.heap.size w w' ∧ PutP w.heap.size (evB s ps) (encE s ps) e w' := by
  by_cases h : (1 ≤ s.size ∧ s.size ≤ 20) ∧ n ≤ 12
  · have h1 : (decide (1 ≤ s.size) && decide (s.size ≤ 20)) = true := by simp [h.1.1, h.1.2]
    have e1 : evB s ps = ps.all plB := by
      unfold evB
      rw [h1, ← hn]
      simp [h.2]
    rw [e1]
    unfold encE
    rw [← hn]
    exact putEvent_go w s a n cap ps hn hs h1 h.2 hP
  · have e1 : evB s ps = false := by
      unfold evB
      rw [← hn]
      by_cases h1 : 1 ≤ s.size ∧ s.size ≤ 20
      · have : ¬ n ≤ 12 := fun h2 => h ⟨h1, h2⟩
        simp [this]
      · by_cases h2 : 1 ≤ s.size
        · have : ¬ s.size ≤ 20 := fun h3 => h1 ⟨h2, h3⟩
          simp [this]
        · simp [h2]
    rw [e1]
    refine (putEvent_no w s a n cap hs hn2 h).mono ?_
    rintro e w' ⟨hb, v', he, hr⟩
    exact ⟨hb, v', he, hr⟩
end Go.Proofs.Ytjfkcafocindjaa
