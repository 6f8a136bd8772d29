/- The document's PutEvent. -/
import Derived.Test.YtjfkcafocindjaaV2
namespace Go.Proofs.Ytjfkcafocindjaa
open Go.RowKit Go.Deep
set_option linter.unusedVariables false
set_option linter.unusedSimpArgs false

theorem take_snoc {ps : List (Hd × List Hd)} {i : Nat} {p : Hd × List Hd} (h : ps[i]? = some p) : ps.take (i + 1) = ps.take i ++ [p] := by
  have hlt : i < ps.length := (List.getElem?_eq_some_iff.1 h).1
  rw [List.take_add_one, h]; rfl
theorem all_no {ps : List (Hd × List Hd)} {i : Nat} {p : Hd × List Hd} (h : ps[i]? = some p) (hp : plB p = false) : ps.all plB = false := by
  cases hq : ps.all plB with
  | false => rfl
  | true =>
    have := List.all_eq_true.1 hq p (List.mem_of_getElem? h)
    rw [hp] at this
    cases this
theorem box01 {w wr : World} {c0 c1 : Value} (h : Below (w.heap.size + 1) (w.alloc (.cells #[c0, c1] 52)) wr) : wr.cell? ⟨w.heap.size, 0, none⟩ = some c0 ∧ wr.cell? ⟨w.heap.size, 1, none⟩ = some c1 :=
  ⟨cellOf (res2_cells h) 0, cellOf (res2_cells h) 1⟩

set_option maxRecDepth 10000 in
set_option maxHeartbeats 1000000 in
theorem refPutEvent_no (w : World) (s : ByteArray) (a : Option Addr) (n cap : Nat) (hs : s.size ≤ 1000000000000) (hn2 : n ≤ 9223372036854775807) (h : s.size < 1 ∨ (1 ≤ s.size ∧ 20 < s.size) ∨ (1 ≤ s.size ∧ s.size ≤ 20 ∧ 12 < n)) :
    Calls Try.prog 34 #[.agg #[.string s, .slice a n cap]] w fun e w' => Below w.heap.size w w' ∧ PutP w.heap.size false [] e w' := by
  rcases h with h | ⟨h, h1⟩ | ⟨h, h1, h2⟩
  all_goals
    go_enter Try.func34, Try.ntmps34
    go_wp2
    go_ret2
    exact ⟨(Below.refl _ _).alloc (Nat.le_refl _) _, .slice none 0 0, rfl, Row.nil _ _⟩

set_option maxRecDepth 10000 in
set_option maxHeartbeats 2000000 in
theorem refPutEvent_go (w : World) (s : ByteArray) (a : Option Addr) (n cap : Nat) (ps : List (Hd × List Hd)) (hn : n = ps.length) (h0 : 1 ≤ s.size) (h1 : s.size ≤ 20) (h2 : n ≤ 12) (hP : PRd w a ps) :
    Calls Try.prog 34 #[.agg #[.string s, .slice a n cap]] w fun e w' => Below w.heap.size w w' ∧ PutP w.heap.size (ps.all plB) (encT s ++ enc n ++ pes ps) e w' := by
  have Hn := hid hn
  have hB0 : Below w.heap.size w (w.alloc (.cells #[.string s, .slice a n cap] 52)) := (Below.refl _ _).alloc (Nat.le_refl _) _
  have hts : (encT s).length ≤ 100 := by
    have := enc_le s.size (by omega)
    simp [encT, sb_length]; omega
  have hle2 := enc_le n (by omega)
  have by1 := hid (encT_byt s)
  have by2 := hid (enc_byt n)
  have hS := hid (fun w h fs a b c d => refPut_any w h fs a b c d)
  clear hn
  obtain ⟨W, hWe⟩ : ∃ W, W = w.alloc (.cells #[.string s, .slice a n cap] 52) := ⟨_, rfl⟩
  have hW : Below (w.heap.size + 1) (w.alloc (.cells #[.string s, .slice a n cap] 52)) W := by rw [hWe]; exact Below.refl _ _
  obtain ⟨g0, g1⟩ := box01 hW
  go_enter Try.func34, Try.ntmps34
  go_wp2_with fail
  rw [← hWe]
  clear hWe
  go_region_held3 (fun w2 => w2.cell? ⟨w.heap.size, 0, none⟩ = some (.string s) ∧ w2.cell? ⟨w.heap.size, 1, none⟩ = some (.slice a n cap)) (first | exact s5 | exact s4 | exact s3 | go_keep) ((first
    | (have hno := hr4; (refine step_appR (by rfl) _ _ (by rfl) _ _ (by rfl) (by rfl) (w.heap.size + 1) (encT s) (enc n) hr3' (hr4.rd by2.out) hr4.nilOf (by have := J4.size; simp at this; omega) (by omega) (by omega) ?_; intro v5 w5 hr5 hg5; have J5 := J4.trans (hg5.below hr3' (by have := J4.size; simp at this; omega)); have s5 := box01 J5))
    | (go_at_call 14; (refine (refPutUint_any _ _ n (by first | omega | (rw [IntKind.wrap_u64]; omega)) (by omega)).mono ?_; rintro e w4 ⟨v4, rfl, hr4, hg4⟩; have J4 := J3.trans (hg4.nil.mono (by have := J3.size; simp at this; omega)); have hr3' := hr3.below (Nat.le_refl _) hg4.nil; have s4 := box01 J4))
    | (go_at_call 16; (refine (refPutText_any _ s (by omega)).mono ?_; rintro e w3 ⟨v3, rfl, hr3, hb3⟩; have hz : w.heap.size + 1 ≤ W.heap.size := (by have := hW.size; simp at this; omega); replace hr3 := hr3.mono (C := w.heap.size + 1) hz; have J3 := hW.drew.trans (hb3.mono hz); have s3 := box01 J3))))
  have hwn : IntKind.u64.wrap (n : Int) = (n : Int) := by rw [IntKind.wrap_u64]; omega
  rw [hwn]
  clear hwn
  have HJ5 := hid J5
  clear s3 s4 s5 J3 J4 J5 hr3 hr4 hr3' hg4 hg5 hb3 hW g0 g1
  go_wp2
  go_loopg [4, 5] n (fun g vb ii wr => ∃ i : Nat, i + g = n ∧ ii = .int .i64 (i : Int) ∧ Row wr (w.heap.size + 1) vb (encT s ++ enc n ++ pes (ps.take i)) ∧ Below (w.heap.size + 1) (w.alloc (.cells #[.string s, .slice a n cap] 52)) wr ∧ (ps.take i).all plB = true)
  case atStart => exact ⟨0, by omega, rfl, by simpa [pes] using hr5, HJ5.out, rfl⟩
  case round =>
    obtain ⟨i, hi, rfl, hry, hbel, hall⟩ := hrel
    have Hi := hid hi
    have Hall := hid hall
    have hBw : Below w.heap.size w wr := hB0.trans (hbel.mono (by omega))
    have Hbw := hid hBw
    have hsz : w.heap.size + 1 ≤ wr.heap.size := by have := hbel.size; simp at this; exact this
    have g1 := (box01 hbel).2
    have Hbel := hid hbel
    have HP := hid (hP.below (Nat.le_refl _) hBw)
    have hys : (encT s ++ enc n ++ pes (ps.take i)).length ≤ 100000 := by
      have h3 := pes_le (ps := ps.take i) (fun p hm => ⟨hP.hin p (List.mem_of_mem_take hm), hP.n p (List.mem_of_mem_take hm), hP.fin p (List.mem_of_mem_take hm), List.all_eq_true.1 hall p hm⟩)
      rw [List.length_take] at h3
      simp only [List.length_append]
      omega
    generalize hYS : encT s ++ enc n ++ pes (ps.take i) = ys at *
    have HYS := hid hYS
    have Hry := hid hry
    clear hall hbel hBw hYS
    cases gk with
    | zero =>
      have hin' : i = n := by omega
      clear hi
      subst hin'
      go_wp2
      go_ret2
      have hta : ps.take i = ps := by rw [Hn.out, List.take_length]
      have hpa := Hall.out
      have hyy := HYS.out
      rw [hta] at hpa hyy
      rw [hpa]
      exact ⟨Hbw.out, _, rfl, by rw [if_pos rfl, hyy]; exact Hry.out.mono (by omega)⟩
    | succ g =>
      have hlt : i < n := by omega
      clear hi
      obtain ⟨p, hpi⟩ : ∃ p, ps[i]? = some p := ⟨ps[i]'(by rw [← Hn.out]; exact hlt), by rw [List.getElem?_eq_getElem]⟩
      have hmem := List.mem_of_getElem? hpi
      obtain ⟨b1, o1, rfl, e1⟩ := HP.out.rd i p.1 (by simp [hpi])
      have hc := hid (Hid.out hS wr p.1 p.2 (hP.hin p hmem) (hP.n p hmem) (HP.out.frd p hmem) (hP.fin p hmem))
      have hpe : plainB p.1 p.2 = plB p := rfl
      have hpe2 : encV p.1 p.2 = pe p := rfl
      rw [hpe, hpe2] at hc
      have x0 := e1 0 (by omega)
      have x1 := e1 1 (by omega)
      have x2 := e1 2 (by omega)
      have x3 := e1 3 (by omega)
      have x4 := e1 4 (by omega)
      have hno := hid (fun (h : plB p = false) => all_no hpi h)
      have hyes := hid (take_snoc hpi)
      have hok : Hid (plB p = true → POk p) := hid (fun h => ⟨hP.hin p hmem, hP.n p hmem, hP.fin p hmem, h⟩)
      have hpl : Hid (plB p = true → (pe p).length ≤ 1000 ∧ Byt (pe p)) := hid (fun h => ⟨pe_le (hok.out h), pe_byt (hok.out h)⟩)
      generalize hB : plB p = b at *
      generalize hE : pe p = E at *
      have HB := hid hB
      have HE := hid hE
      obtain ⟨⟨fk, fi, ft, fr, fa, fn, fc⟩, fs⟩ := p
      simp only [Hd.cs, List.getElem?_cons_zero, List.getElem?_cons_succ, Nat.add_zero] at x0 x1 x2 x3 x4
      simp only [Hd.v, Value.cells] at hc
      clear e1 hpi hmem hE hpe hpe2 hB hry hS
      cases b with
      | false =>
        go_wp2_with (go_at_call 32; (refine (Hid.out hc).mono ?_; rintro e w9 ⟨hb9, v9, rfl, hr9⟩))
        go_ret2
        rw [hno.out (by first | rfl | trivial)]
        exact ⟨Hbw.out.trans (hb9.mono Hbw.out.size), .slice none 0 0, rfl, Row.nil _ _⟩
      | true =>
        obtain ⟨hl1, hby1⟩ := hpl.out rfl
        have Hby1 := hid hby1
        clear hby1
        go_wp2_with (first
          | (go_at_call 32; (refine (Hid.out hc).mono ?_; rintro e w9 ⟨hb9, v9, rfl, hr9⟩; simp only [if_true] at hr9))
          | (at_builtin; (refine wpList_appR _ rfl _ _ rfl _ _ (by rfl) (by rfl) (w.heap.size + 1) ys E (Hry.out.below (Nat.le_refl _) hb9) (hr9.rd Hby1.out) hr9.nilOf (by have := hb9.size; omega) (by omega) (by omega) ?_; intro v10 w10 hr10 hg10)))
        go_roundg g
        case measure => omega
        case rel => exact ⟨i + 1, by have := Hi.out; omega, by go_num, by rw [hyes.out, pes_snoc, HE.out, ← List.append_assoc, HYS.out]; exact hr10, (Hbel.out.trans (hb9.mono hsz)).trans (hg10.below (Hry.out.below (Nat.le_refl _) hb9) (by have := hb9.size; omega)), by rw [hyes.out, List.all_append, Hall.out]; simp [HB.out]⟩
theorem refPutEvent_any (w : World) (s : ByteArray) (a : Option Addr) (n cap : Nat) (ps : List (Hd × List Hd)) (hn : n = ps.length) (hs : s.size ≤ 1000000000000) (hn2 : n ≤ 9223372036854775807) (hP : PRd w a ps) :
    Calls Try.prog 34 #[.agg #[.string s, .slice a n cap]] w fun e w' => Below w.heap.size w w' ∧ PutP w.heap.size (evB s ps) (encE s ps) e w' := by
  by_cases h : (1 ≤ s.size ∧ s.size ≤ 20) ∧ n ≤ 12
  · have e1 : evB s ps = ps.all plB := by
      unfold evB
      rw [← hn]
      simp [h.2, h.1.1, h.1.2]
    rw [e1]
    unfold encE
    rw [← hn]
    exact refPutEvent_go w s a n cap ps hn h.1.1 h.1.2 h.2 hP
  · have e1 : evB s ps = false := by
      unfold evB
      rw [← hn]
      by_cases h1 : 1 ≤ s.size ∧ s.size ≤ 20
      · have : ¬ n ≤ 12 := fun h2 => h ⟨h1, h2⟩
        simp [this]
      · by_cases h2 : 1 ≤ s.size
        · have : ¬ s.size ≤ 20 := fun h3 => h1 ⟨h2, h3⟩
          simp [this]
        · simp [h2]
    rw [e1]
    refine (refPutEvent_no w s a n cap hs hn2 (by omega)).mono ?_
    rintro e w' ⟨hb, v', he, hr⟩
    exact ⟨hb, v', he, hr⟩
end Go.Proofs.Ytjfkcafocindjaa
