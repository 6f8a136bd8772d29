/- The document's side: Name; rows held against each other. -/
import Derived.Test.YtebhmalegdpibaaDoorN2
namespace Go.Proofs.YtebhmalegdpibaaDoor
open Go.RowKit Go.Deep
set_option linter.unusedVariables false
set_option linter.unusedSimpArgs false

theorem nv_more {g : Bool} {l : Bs} {j : Nat} (h : 0 < j) : nvOk g l j = vOk l j := by
  unfold nvOk vOk isPt
  rw [decide_eq_true h]
  simp
theorem nv_zero (g : Bool) (l : Bs) : nvOk g l 0 = (if g then isBg (l.getD 0 0) else isSm (l.getD 0 0)) := by
  unfold nvOk isPt
  rw [isLt_sb]
  cases g <;> cases isSm (l.getD 0 0) <;> cases isBg (l.getD 0 0) <;> simp
theorem v_zero (l : Bs) : vOk l 0 = (isSm (l.getD 0 0) || isBg (l.getD 0 0)) := by
  unfold vOk
  rw [isLt_sb]
  simp
theorem nv_or (l : Bs) (n : Nat) (hn : 1 ≤ n) : (nvF false l n || nvF true l n) = vF l n := by
  rw [Bool.eq_iff_iff, Bool.or_eq_true, nvF_iff, nvF_iff, vF_iff]
  constructor
  · rintro (h | h) j hj
    · cases j with
      | zero => have := h 0 hj; rw [nv_zero, if_neg (by decide)] at this; rw [v_zero, this]; rfl
      | succ j => rw [← nv_more (g := false) (by omega)]; exact h _ hj
    · cases j with
      | zero => have := h 0 hj; rw [nv_zero, if_pos rfl] at this; rw [v_zero, this]; simp
      | succ j => rw [← nv_more (g := true) (by omega)]; exact h _ hj
  · intro h
    have h0 := h 0 (by omega)
    rw [v_zero, Bool.or_eq_true] at h0
    rcases h0 with h0 | h0
    · refine .inl fun j hj => ?_
      cases j with
      | zero => rw [nv_zero, if_neg (by decide)]; exact h0
      | succ j => rw [nv_more (by omega)]; exact h _ hj
    · refine .inr fun j hj => ?_
      cases j with
      | zero => rw [nv_zero, if_pos rfl]; exact h0
      | succ j => rw [nv_more (by omega)]; exact h _ hj
theorem nmR_or (l : Bs) : ((nmR false l || nmR true l) && !isWd l) = nameB l := by
  rw [nameB_eq, nm_eq]
  congr 1
  unfold nmR okB
  by_cases h : 1 ≤ l.length
  · rw [decide_eq_true h, ← nv_or l l.length h]
    cases decide (l.length ≤ 20) <;> simp
  · rw [decide_eq_false h]; simp
set_option maxRecDepth 100000 in
theorem refName (s : ByteArray) (w : World) : Calls Tryd.prog 17 #[.string s] w fun e w' => e = .returned (.bool (nameB s.data.toList)) ∧ Below w.heap.size w w' := by
  rw [← nmR_or]
  have CN := hid (fun (g : Bool) (W : World) => refNamed s g W)
  have c3 := refWord s w
  obtain ⟨l, hl⟩ : ∃ l, l = s.data.toList := ⟨_, rfl⟩
  rw [← hl] at CN c3 ⊢
  clear hl
  cases h1 : nmR false l <;> cases h2 : nmR true l <;> cases h3 : isWd l <;> rw [h3] at c3 <;>
    (go_enter Tryd.func17, Tryd.ntmps17
     go_wp2_with (first | (go_at_call 29; refine (CN.out _ _).mono ?_; rintro e w ⟨rfl, rfl⟩) | (go_at_call 26; refine c3.mono ?_; rintro e w2 ⟨rfl, hb⟩))
     go_ret
     first | exact ⟨rfl, hb⟩ | exact ⟨rfl, Below.refl _ _⟩)
theorem same_none (w : World) : Calls Tryd.prog 12 #[.slice none 0 0, .slice none 0 0] w fun e w' => e = .returned (.bool true) ∧ Below w.heap.size w w' := by
  go_enter Tryd.func12, Tryd.ntmps12
  go_wp2
  go_loopg [5] 0 (fun g ii wr => ii = .int .i64 0 ∧ wr = w)
  case atStart => exact ⟨rfl, rfl⟩
  case round =>
    obtain ⟨rfl, rfl⟩ := hrel
    go_wp2
    go_ret
    exact ⟨rfl, Below.refl _ _⟩
set_option maxRecDepth 100000 in
theorem same_tokens (b1 b2 cap1 cap2 : Nat) (ts : List LTok) (hn : ts.length ≤ 1000000) (w : World) (h1 : TRd w (some ⟨b1, 0, none⟩) ts) (h2 : TRd w (some ⟨b2, 0, none⟩) ts) :
    Calls Tryd.prog 12 #[.slice (some ⟨b1, 0, none⟩) ts.length cap1, .slice (some ⟨b2, 0, none⟩) ts.length cap2] w fun e w' => e = .returned (.bool true) ∧ Below w.heap.size w w' := by
  have hn' : (ts.length : Int) ≤ 1000000 := by omega
  have H1 := hid h1
  have H2 := hid h2
  clear h1 h2
  go_enter Tryd.func12, Tryd.ntmps12
  go_wp2
  go_loopg [5] ts.length (fun g ii wr => ∃ i : Nat, i + g = ts.length ∧ ii = .int .i64 (i : Int) ∧ Below w.heap.size w wr)
  case atStart => exact ⟨0, by omega, rfl, Below.refl _ _⟩
  case round =>
    obtain ⟨i, hi, rfl, hbr⟩ := hrel
    cases gk with
    | zero =>
      have hin : i = ts.length := by omega
      subst hin
      have HB := hid hbr
      clear hi hbr
      go_wp2
      go_ret
      exact ⟨rfl, HB.out⟩
    | succ g =>
      have hlt0 : i < ts.length := by omega
      have hlt : (i : Int) < (ts.length : Int) := by omega
      obtain ⟨t, ht⟩ : ∃ t, ts[i]? = some t := ⟨ts[i], List.getElem?_eq_getElem hlt0⟩
      obtain ⟨b', o', eb, hc⟩ := (H1.out.below (Nat.le_refl _) hbr) i t ht
      cases eb
      obtain ⟨b', o', eb, hd⟩ := (H2.out.below (Nat.le_refl _) hbr) i t ht
      cases eb
      have c0 := hc 0 (by omega)
      have c1 := hc 1 (by omega)
      have c2 := hc 2 (by omega)
      have d0 := hd 0 (by omega)
      have d1 := hd 1 (by omega)
      have d2 := hd 2 (by omega)
      rw [Nat.zero_add] at c0 c1 c2 d0 d1 d2
      simp only [LTok.cs, List.getElem?_cons_zero, List.getElem?_cons_succ, Nat.add_zero] at c0 c1 c2 d0 d1 d2
      obtain ⟨x, hx⟩ : ∃ z, z = ofB t.text := ⟨_, rfl⟩
      obtain ⟨kk, hkk⟩ : ∃ z : Int, z = (t.kind : Int) := ⟨_, rfl⟩
      obtain ⟨pp, hpp⟩ : ∃ z : Int, z = (t.pos : Int) := ⟨_, rfl⟩
      rw [← hx] at c1 d1
      rw [← hkk] at c0 d0
      rw [← hpp] at c2 d2
      have Hi := hid hi
      have HB := hid hbr
      clear hi hbr hc hd ht hx hkk hpp hlt0
      go_wp2
      go_region_held3 (fun w2 => w2.cell? ⟨b1, i * 3, none⟩ = some (.int .i64 kk) ∧ w2.cell? ⟨b1, i * 3 + 1, none⟩ = some (.string x) ∧ w2.cell? ⟨b1, i * 3 + 2, none⟩ = some (.int .i64 pp) ∧ w2.cell? ⟨b2, i * 3, none⟩ = some (.int .i64 kk) ∧ w2.cell? ⟨b2, i * 3 + 1, none⟩ = some (.string x) ∧ w2.cell? ⟨b2, i * 3 + 2, none⟩ = some (.int .i64 pp)) (first | go_keep) (fail)
      go_wp2
      go_roundg g
      case measure => omega
      case rel => exact ⟨i + 1, by have := Hi.out; omega, by go_num, HB.out.trans (((Below.refl _ wr).drew).mono HB.out.size)⟩
set_option maxRecDepth 100000 in
theorem same_words (b1 b2 : Nat) (w : World) (h1 : w.heap[b1]? = some (.cells wordsV 9 (0, 0))) (h2 : w.heap[b2]? = some (.cells wordsV 9 (0, 0))) :
    Calls Tryd.prog 13 #[.slice (some ⟨b1, 0, none⟩) 29 29, .slice (some ⟨b2, 0, none⟩) 29 29] w fun e w' => e = .returned (.bool true) ∧ Below w.heap.size w w' := by
  have hb1 : b1 < w.heap.size := (Array.getElem?_eq_some_iff.1 h1).1
  have hb2 : b2 < w.heap.size := (Array.getElem?_eq_some_iff.1 h2).1
  have H1 := hid h1
  have H2 := hid h2
  clear h1 h2
  go_enter Tryd.func13, Tryd.ntmps13
  go_wp2
  go_loopg [5] 29 (fun g ii wr => ∃ i : Nat, i + g = 29 ∧ ii = .int .i64 (i : Int) ∧ Below w.heap.size w wr)
  case atStart => exact ⟨0, by omega, rfl, Below.refl _ _⟩
  case round =>
    obtain ⟨i, hi, rfl, hbr⟩ := hrel
    cases gk with
    | zero =>
      have hin : i = 29 := by omega
      subst hin
      have HB := hid hbr
      clear hi hbr
      go_wp2
      go_ret
      exact ⟨rfl, HB.out⟩
    | succ g =>
      have hlt0 : i < 29 := by omega
      have hlt : (i : Int) < 29 := by omega
      obtain ⟨x, hx⟩ : ∃ x, wordsS[i]? = some x := ⟨wordsS[i]'(show i < 29 from hlt0), List.getElem?_eq_getElem (show i < 29 from hlt0)⟩
      have c0 : wr.cell? ⟨b1, i, none⟩ = some (.string x) := by
        rw [cellOf ((hbr.block b1 hb1).trans H1.out) i]; simp [wordsV, hx]
      have d0 : wr.cell? ⟨b2, i, none⟩ = some (.string x) := by
        rw [cellOf ((hbr.block b2 hb2).trans H2.out) i]; simp [wordsV, hx]
      have Hi := hid hi
      have HB := hid hbr
      clear hi hbr hx hlt0
      go_wp2
      go_region_held3 (fun w2 => w2.cell? ⟨b1, i, none⟩ = some (.string x) ∧ w2.cell? ⟨b2, i, none⟩ = some (.string x)) (first | go_keep) (fail)
      go_wp2
      go_roundg g
      case measure => omega
      case rel => exact ⟨i + 1, by have := Hi.out; omega, by go_num, HB.out.trans (((Below.refl _ wr).drew).mono HB.out.size)⟩
end Go.Proofs.YtebhmalegdpibaaDoor
