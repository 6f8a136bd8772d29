/- Plain records: isPlain. -/
import Derived.Test.YtjfkcafocindjaaQ
namespace Go.Proofs.Ytjfkcafocindjaa
open Go.RowKit Go.Deep
set_option linter.unusedVariables false
set_option linter.unusedSimpArgs false

def plainB (h : Hd) (fs : List Hd) : Bool := if h.kind = 4 then decide (h.int = 0) && decide (h.text = ByteArray.empty) && decide (0 ≤ h.rc) && decide (h.rc ≤ 15) && decide (h.n ≤ 12) && fs.all simpleB else simpleB h
theorem plainB_rec {h : Hd} {fs : List Hd} (hk : h.kind = 4) : plainB h fs = (decide (h.int = 0) && decide (h.text = ByteArray.empty) && decide (0 ≤ h.rc) && decide (h.rc ≤ 15) && decide (h.n ≤ 12) && fs.all simpleB) := by unfold plainB; rw [if_pos hk]

set_option maxRecDepth 10000 in
set_option maxHeartbeats 1000000 in
theorem isPlain_no (w : World) (int rc : Int) (text : ByteArray) (a : Option Addr) (n cap : Nat) (hn : n ≤ 9223372036854775807) (hx : ¬ (int = 0 ∧ text = ByteArray.empty ∧ 0 ≤ rc ∧ rc ≤ 15 ∧ n ≤ 12)) :
    Calls Try.prog 44 #[Hd.v ⟨4, int, text, rc, a, n, cap⟩] w fun e w' => e = .returned (.bool false) ∧ Below w.heap.size w w' := by
  simp only [Hd.v]
  by_cases i0 : int = 0
  · subst i0
    by_cases ht : text = ByteArray.empty
    · subst ht
      by_cases r0 : rc < 0
      · clear hx
        go_enter Try.func44, Try.ntmps44
        go_wp2
        go_ret
        exact ⟨rfl, (Below.refl _ _).alloc (Nat.le_refl _) _⟩
      · by_cases r1 : 15 < rc
        · clear hx
          go_enter Try.func44, Try.ntmps44
          go_wp2
          go_ret
          exact ⟨rfl, (Below.refl _ _).alloc (Nat.le_refl _) _⟩
        · have n1 : 12 < n := by
            rcases Nat.lt_or_ge 12 n with h | h
            · exact h
            · exact absurd ⟨rfl, rfl, by omega, by omega, h⟩ hx
          clear hx
          go_enter Try.func44, Try.ntmps44
          go_wp2
          go_ret
          exact ⟨rfl, (Below.refl _ _).alloc (Nat.le_refl _) _⟩
    · have hs := stremp text
      simp only [ht, decide_false] at hs
      clear hx ht
      go_enter Try.func44, Try.ntmps44
      go_wp2
      go_ret
      exact ⟨rfl, (Below.refl _ _).alloc (Nat.le_refl _) _⟩
  · have i0' : (int != 0) = true := by simpa using i0
    clear hx i0
    go_enter Try.func44, Try.ntmps44
    go_wp2
    go_ret
    exact ⟨rfl, (Below.refl _ _).alloc (Nat.le_refl _) _⟩

theorem all_drop {fs : List Hd} {i : Nat} {f : Hd} (h : fs[i]? = some f) : (fs.drop i).all simpleB = (simpleB f && (fs.drop (i + 1)).all simpleB) := by
  have hlt : i < fs.length := (List.getElem?_eq_some_iff.1 h).1
  rw [List.drop_eq_getElem_cons hlt]
  have : fs[i] = f := by simpa [hlt] using h
  rw [this]; rfl

set_option maxRecDepth 10000 in
set_option maxHeartbeats 1000000 in
theorem isPlain_fields (w : World) (rc : Int) (a : Option Addr) (n cap : Nat) (fs : List Hd) (hn : n = fs.length) (r0 : 0 ≤ rc) (r1 : rc ≤ 15) (n1 : n ≤ 12) (hv : VRd w a fs) (hin : ∀ f ∈ fs, f.In) :
    Calls Try.prog 44 #[Hd.v ⟨4, 0, ByteArray.empty, rc, a, n, cap⟩] w fun e w' => e = .returned (.bool (fs.all simpleB)) ∧ Below w.heap.size w w' := by
  simp only [Hd.v]
  have Hn := hid hn
  have hS := hid (fun w f h => isSimple_any w f h)
  clear hn
  go_enter Try.func44, Try.ntmps44
  go_wp2
  go_loopg [37] n (fun g ii wr => ∃ i : Nat, i + g = n ∧ ii = .int .i64 (i : Int) ∧ Below w.heap.size w wr ∧ fs.all simpleB = (fs.drop i).all simpleB)
  case atStart => exact ⟨0, by omega, rfl, (Below.refl _ _).alloc (Nat.le_refl _) _, rfl⟩
  case round =>
    obtain ⟨i, hi, rfl, hbel, hall⟩ := hrel
    have Hi := hid hi
    have Hall := hid hall
    clear hall
    cases gk with
    | zero =>
      have hin' : i = n := by omega
      clear hi
      subst hin'
      go_wp2
      go_ret
      refine ⟨?_, hbel⟩
      rw [Hall.out, Hn.out, List.drop_length]
      rfl
    | succ g =>
      have hlt : i < n := by omega
      clear hi
      obtain ⟨f, hfi⟩ : ∃ f, fs[i]? = some f := ⟨fs[i]'(by rw [← Hn.out]; exact hlt), by rw [List.getElem?_eq_getElem]⟩
      have hfin := hin f (List.mem_of_getElem? hfi)
      obtain ⟨b1, o1, rfl, e1⟩ := (hv.below (Nat.le_refl _) hbel) i f hfi
      have hd := all_drop hfi
      have hb1 := World.block_lt_of_cell? wr ⟨b1, o1 + i * 5 + 0, none⟩ ((e1 0 (by omega)).trans (show f.cs[0]? = some (.int .i64 f.kind) from rfl))
      simp only at hb1
      have hsf := hid (fun w => Hid.out hS w f hfin)
      have x0 := e1 0 (by omega)
      have x1 := e1 1 (by omega)
      have x2 := e1 2 (by omega)
      have x3 := e1 3 (by omega)
      have x4 := e1 4 (by omega)
      obtain ⟨fk, fi, ft, fr, fa, fn, fc⟩ := f
      simp only [Hd.cs, List.getElem?_cons_zero, List.getElem?_cons_succ, Nat.add_zero] at x0 x1 x2 x3 x4
      generalize hsb : simpleB ⟨fk, fi, ft, fr, fa, fn, fc⟩ = sb at *
      simp only [Hd.v, Value.cells] at hsf
      have Hd' := hid hd
      clear e1 hfi hS hfin hsb hd
      cases sb with
      | false =>
        go_wp2_with (go_at_call 50; (refine (Hid.out hsf _).mono ?_; rintro e w9 ⟨rfl, rfl⟩))
        go_ret
        refine ⟨?_, ?_⟩
        · rw [Hall.out, Hd'.out]; rfl
        · exact (hbel.alloc hbel.size _).alloc (by have := hbel.size; simp; omega) _
      | true =>
        go_wp2_with (go_at_call 50; (refine (Hid.out hsf _).mono ?_; rintro e w9 ⟨rfl, rfl⟩))
        go_roundg g
        case measure => omega
        case rel => exact ⟨i + 1, by have := Hi.out; omega, by go_num, (hbel.alloc hbel.size _).alloc (by have := hbel.size; simp; omega) _, by rw [Hall.out, Hd'.out]; rfl⟩

theorem isPlain_any (w : World) (h : Hd) (fs : List Hd) (hin : h.In) (hn : h.n = fs.length) (hv : VRd w h.a fs) (hfs : ∀ f ∈ fs, f.In) :
    Calls Try.prog 44 #[h.v] w fun e w' => e = .returned (.bool (plainB h fs)) ∧ Below w.heap.size w w' := by
  by_cases hk : h.kind = 4
  · rw [plainB_rec hk]
    obtain ⟨kind, int, text, rc, a, n, cap⟩ := h
    simp only at hk hn hv ⊢
    subst hk
    by_cases hx : int = 0 ∧ text = ByteArray.empty ∧ 0 ≤ rc ∧ rc ≤ 15 ∧ n ≤ 12
    · obtain ⟨rfl, rfl, h1, h2, h3⟩ := hx
      refine (isPlain_fields w rc a n cap fs hn h1 h2 h3 hv hfs).mono ?_
      rintro e w' ⟨rfl, hb⟩
      exact ⟨by simp [h1, h2, h3], hb⟩
    · refine (isPlain_no w int rc text a n cap hin.n hx).mono ?_
      rintro e w' ⟨rfl, hb⟩
      refine ⟨?_, hb⟩
      congr 2
      symm
      simp only [Bool.and_eq_false_iff, decide_eq_false_iff_not]
      by_cases i0 : int = 0
      · by_cases ht : text = ByteArray.empty
        · by_cases r0 : 0 ≤ rc
          · by_cases r1 : rc ≤ 15
            · exact .inl (.inr fun n1 => hx ⟨i0, ht, r0, r1, n1⟩)
            · exact .inl (.inl (.inr r1))
          · exact .inl (.inl (.inl (.inr r0)))
        · exact .inl (.inl (.inl (.inl (.inr ht))))
      · exact .inl (.inl (.inl (.inl (.inl i0))))
  · have : plainB h fs = simpleB h := by unfold plainB; rw [if_neg hk]
    rw [this]
    refine (isPlain_simple w h hin hk).mono ?_
    rintro e w' ⟨rfl, rfl⟩
    exact ⟨rfl, ((Below.refl _ _).alloc (Nat.le_refl _) _).alloc (by simp) _⟩
end Go.Proofs.Ytjfkcafocindjaa
