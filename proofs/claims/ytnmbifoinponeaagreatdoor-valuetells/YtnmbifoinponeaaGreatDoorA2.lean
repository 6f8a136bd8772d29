/- Plain values: the document's Plain. -/
import Derived.Test.YtnmbifoinponeaaGreatDoorA1
import Derived.Deep.LoopGhost
namespace Go.Proofs.YtnmbifoinponeaaGreatDoor
open Go.RowKit Go.Deep
set_option linter.unusedVariables false
set_option linter.unusedSimpArgs false

set_option maxRecDepth 10000 in
set_option maxHeartbeats 2000000 in
theorem refPlain_simple (w : World) (h : Hd) (hin : h.In) (hk : h.kind ≠ 4) :
    Calls Tryz.prog 43 #[h.v] w fun e w' => e = .returned (.bool (simpleB h)) ∧ w' = w.alloc (.cells h.v.cells 31) := by
  obtain ⟨kind, int, text, rc, a, n, cap⟩ := h
  have h1 := hin.t
  have h2 := hin.n
  simp only [Hd.v]
  simp only at h1 h2 hk
  have k4 : (kind == 4) = false := by simpa using hk
  clear hin
  by_cases hal : rc = 0 ∧ n = 0
  · obtain ⟨rfl, rfl⟩ := hal
    by_cases k1 : kind = 1
    · subst k1
      go_enter Tryz.func43, Tryz.ntmps43
      go_wp2
      go_ret
      exact ⟨by simp [simpleB, stremp, *]; try omega, rfl⟩
    · have k1' : (kind == 1) = false := by simpa using k1
      by_cases k2 : kind = 2
      · subst k2
        by_cases i0 : int = 0
        · subst i0
          go_enter Tryz.func43, Tryz.ntmps43
          go_wp2
          go_ret
          exact ⟨by simp [simpleB, stremp, *]; try omega, rfl⟩
        · have i0' : (int == 0) = false := by simpa using i0
          go_enter Tryz.func43, Tryz.ntmps43
          go_wp2
          go_ret
          exact ⟨by simp [simpleB, stremp, *]; try omega, rfl⟩
      · have k2' : (kind == 2) = false := by simpa using k2
        by_cases k3 : kind = 3
        · subst k3
          have hs := stremp text
          by_cases ht : text = ByteArray.empty
          · subst ht
            by_cases i0 : int = 0
            · subst i0
              go_enter Tryz.func43, Tryz.ntmps43
              go_wp2
              go_ret
              exact ⟨by simp [simpleB], rfl⟩
            · have i0' : (int == 0) = false := by simpa using i0
              go_enter Tryz.func43, Tryz.ntmps43
              go_wp2
              go_ret
              exact ⟨by simp [simpleB, i0]; try rfl, rfl⟩
          · simp only [ht, decide_false] at hs
            go_enter Tryz.func43, Tryz.ntmps43
            go_wp2
            go_ret
            exact ⟨by simp [simpleB, ht], rfl⟩
        · have k3' : (kind == 3) = false := by simpa using k3
          go_enter Tryz.func43, Tryz.ntmps43
          go_wp2
          go_ret
          exact ⟨by simp [simpleB, k1, k2, k3], rfl⟩
  · have hS : simpleB ⟨kind, int, text, rc, a, n, cap⟩ = false := by
      simp only [simpleB, Bool.and_eq_false_iff, decide_eq_false_iff_not]
      left
      by_cases hr : rc = 0
      · right; intro hn; exact hal ⟨hr, hn⟩
      · left; exact hr
    have HS := hid hS
    clear hS
    have hq : (rc == 0) = false ∨ (rc = 0 ∧ (n : Int) ≠ 0) := by
      by_cases hr : rc = 0
      · right; exact ⟨hr, by omega⟩
      · left; simpa using hr
    clear hal
    rcases hq with hq | ⟨rfl, hq⟩
    · by_cases k1 : kind = 1
      · subst k1
        go_enter Tryz.func43, Tryz.ntmps43
        go_wp2
        go_ret
        exact ⟨by rw [HS.out]; rfl, rfl⟩
      · have k1' : (kind == 1) = false := by simpa using k1
        by_cases k2 : kind = 2
        · subst k2
          go_enter Tryz.func43, Tryz.ntmps43
          go_wp2
          go_ret
          exact ⟨by rw [HS.out]; rfl, rfl⟩
        · have k2' : (kind == 2) = false := by simpa using k2
          by_cases k3 : kind = 3
          · subst k3
            go_enter Tryz.func43, Tryz.ntmps43
            go_wp2
            go_ret
            exact ⟨by rw [HS.out]; rfl, rfl⟩
          · have k3' : (kind == 3) = false := by simpa using k3
            go_enter Tryz.func43, Tryz.ntmps43
            go_wp2
            go_ret
            exact ⟨by rw [HS.out]; rfl, rfl⟩
    · have hq' : ((n : Int) == 0) = false := by simpa using hq
      by_cases k1 : kind = 1
      · subst k1
        go_enter Tryz.func43, Tryz.ntmps43
        go_wp2
        go_ret
        exact ⟨by rw [HS.out]; rfl, rfl⟩
      · have k1' : (kind == 1) = false := by simpa using k1
        by_cases k2 : kind = 2
        · subst k2
          go_enter Tryz.func43, Tryz.ntmps43
          go_wp2
          go_ret
          exact ⟨by rw [HS.out]; rfl, rfl⟩
        · have k2' : (kind == 2) = false := by simpa using k2
          by_cases k3 : kind = 3
          · subst k3
            go_enter Tryz.func43, Tryz.ntmps43
            go_wp2
            go_ret
            exact ⟨by rw [HS.out]; rfl, rfl⟩
          · have k3' : (kind == 3) = false := by simpa using k3
            go_enter Tryz.func43, Tryz.ntmps43
            go_wp2
            go_ret
            exact ⟨by rw [HS.out]; rfl, rfl⟩

set_option maxRecDepth 10000 in
set_option maxHeartbeats 1000000 in
theorem refPlain_no (w : World) (int rc : Int) (text : ByteArray) (a : Option Addr) (n cap : Nat) (hn : n ≤ 9223372036854775807) (hx : ¬ (int = 0 ∧ text = ByteArray.empty ∧ 0 ≤ rc ∧ rc ≤ 15 ∧ n ≤ 12)) :
    Calls Tryz.prog 43 #[Hd.v ⟨4, int, text, rc, a, n, cap⟩] w fun e w' => e = .returned (.bool false) ∧ Below w.heap.size w w' := by
  simp only [Hd.v]
  cases hal1 : (rc == 0) <;> cases hal2 : ((n : Int) == 0)
  all_goals
   by_cases i0 : int = 0
   · subst i0
     by_cases ht : text = ByteArray.empty
     · subst ht
       by_cases r0 : rc < 0
       · clear hx
         go_enter Tryz.func43, Tryz.ntmps43
         go_wp2
         go_ret
         exact ⟨rfl, (Below.refl _ _).alloc (Nat.le_refl _) _⟩
       · by_cases r1 : 15 < rc
         · clear hx
           go_enter Tryz.func43, Tryz.ntmps43
           go_wp2
           go_ret
           exact ⟨rfl, (Below.refl _ _).alloc (Nat.le_refl _) _⟩
         · have n1 : 12 < n := by
             rcases Nat.lt_or_ge 12 n with h | h
             · exact h
             · exact absurd ⟨rfl, rfl, by omega, by omega, h⟩ hx
           clear hx
           go_enter Tryz.func43, Tryz.ntmps43
           go_wp2
           go_ret
           exact ⟨rfl, (Below.refl _ _).alloc (Nat.le_refl _) _⟩
     · have hs := stremp text
       simp only [ht, decide_false] at hs
       clear hx ht
       go_enter Tryz.func43, Tryz.ntmps43
       go_wp2
       go_ret
       exact ⟨rfl, (Below.refl _ _).alloc (Nat.le_refl _) _⟩
   · have i0' : (int != 0) = true := by simpa using i0
     clear hx i0
     go_enter Tryz.func43, Tryz.ntmps43
     go_wp2
     go_ret
     exact ⟨rfl, (Below.refl _ _).alloc (Nat.le_refl _) _⟩

set_option maxRecDepth 10000 in
set_option maxHeartbeats 2000000 in
theorem refPlain_fields (w : World) (rc : Int) (a : Option Addr) (n cap : Nat) (fs : List Hd) (hn : n = fs.length) (r0 : 0 ≤ rc) (r1 : rc ≤ 15) (n1 : n ≤ 12) (hv : VRd w a fs) (hin : ∀ f ∈ fs, f.In) :
    Calls Tryz.prog 43 #[Hd.v ⟨4, 0, ByteArray.empty, rc, a, n, cap⟩] w fun e w' => e = .returned (.bool (fs.all simpleB)) ∧ Below w.heap.size w w' := by
  simp only [Hd.v]
  have Hn := hid hn
  have hS := hid (fun w f h k => refPlain_simple w f h k)
  clear hn
  have hB1 : Below w.heap.size w (w.alloc (.cells #[.int .i64 4, .int .i64 0, .string ByteArray.empty, .int .i64 rc, .slice a n cap] 31)) := (Below.refl _ _).alloc (Nat.le_refl _) _
  cases hal1 : (rc == 0) <;> cases hal2 : ((n : Int) == 0)
  all_goals
    go_enter Tryz.func43, Tryz.ntmps43
    go_wp2
    go_loopg [4] n (fun g ii wr => ∃ i : Nat, i + g = n ∧ ii = .int .i64 (i : Int) ∧ Below (w.heap.size + 1) (w.alloc (.cells #[.int .i64 4, .int .i64 0, .string ByteArray.empty, .int .i64 rc, .slice a n cap] 31)) wr ∧ fs.all simpleB = (fs.drop i).all simpleB)
    case atStart => exact ⟨0, by omega, rfl, Below.refl _ _, rfl⟩
    case round =>
      obtain ⟨i, hi, rfl, hbel, hall⟩ := hrel
      have Hi := hid hi
      have Hall := hid hall
      have hBw : Below w.heap.size w wr := hB1.trans (hbel.mono (by omega))
      have Hbw := hid hBw
      have hsz : w.heap.size + 1 ≤ wr.heap.size := by have := hbel.size; simp at this; exact this
      have g4 := cellOf (res_cells hbel) 4
      simp only [List.getElem?_toArray, List.getElem?_cons_zero, List.getElem?_cons_succ] at g4
      have Hbel := hid hbel
      clear hall hbel
      cases gk with
      | zero =>
        have hin' : i = n := by omega
        clear hi
        subst hin'
        go_wp2
        go_ret
        refine ⟨?_, Hbw.out⟩
        rw [Hall.out, Hn.out, List.drop_length]
        rfl
      | succ g =>
        have hlt : i < n := by omega
        clear hi
        obtain ⟨f, hfi⟩ : ∃ f, fs[i]? = some f := ⟨fs[i]'(by rw [← Hn.out]; exact hlt), by rw [List.getElem?_eq_getElem]⟩
        have hfin := hin f (List.mem_of_getElem? hfi)
        obtain ⟨b1, o1, rfl, e1⟩ := (hv.below (Nat.le_refl _) hBw) i f hfi
        have hd := all_drop hfi
        have x0 := e1 0 (by omega)
        have x1 := e1 1 (by omega)
        have x2 := e1 2 (by omega)
        have x3 := e1 3 (by omega)
        have x4 := e1 4 (by omega)
        clear hBw
        by_cases hk : f.kind = 4
        · have hsb : simpleB f = false := by
            cases hs : simpleB f with
            | false => rfl
            | true => exact absurd (simpleB_cases hs).2.2 (by omega)
          rw [hsb] at hd
          have Hd' := hid hd
          obtain ⟨fk, fi, ft, fr, fa, fn, fc⟩ := f
          simp only at hk
          subst hk
          simp only [Hd.cs, List.getElem?_cons_zero, List.getElem?_cons_succ, Nat.add_zero] at x0 x1 x2 x3 x4
          clear e1 hfi hS hfin hsb hd
          go_wp2
          go_ret
          refine ⟨?_, Hbw.out⟩
          rw [Hall.out, Hd'.out]; rfl
        · have hsf := hid (fun w => Hid.out hS w f hfin hk)
          obtain ⟨fk, fi, ft, fr, fa, fn, fc⟩ := f
          have hk' : (fk == 4) = false := by simpa using hk
          simp only [Hd.cs, List.getElem?_cons_zero, List.getElem?_cons_succ, Nat.add_zero] at x0 x1 x2 x3 x4
          generalize hsb : simpleB ⟨fk, fi, ft, fr, fa, fn, fc⟩ = sb at *
          simp only [Hd.v, Value.cells] at hsf
          have Hd' := hid hd
          clear e1 hfi hS hfin hsb hd hk
          cases sb with
          | false =>
            go_wp2_with (go_at_call 43; (refine (Hid.out hsf _).mono ?_; rintro e w9 ⟨rfl, rfl⟩))
            go_ret
            refine ⟨?_, ?_⟩
            · rw [Hall.out, Hd'.out]; rfl
            · exact Hbw.out.alloc Hbw.out.size _
          | true =>
            go_wp2_with (go_at_call 43; (refine (Hid.out hsf _).mono ?_; rintro e w9 ⟨rfl, rfl⟩))
            go_roundg g
            case measure => omega
            case rel => exact ⟨i + 1, by have := Hi.out; omega, by go_num, Hbel.out.alloc hsz _, by rw [Hall.out, Hd'.out]; rfl⟩

theorem refPlain_any (w : World) (h : Hd) (fs : List Hd) (hin : h.In) (hn : h.n = fs.length) (hv : VRd w h.a fs) (hfs : ∀ f ∈ fs, f.In) :
    Calls Tryz.prog 43 #[h.v] w fun e w' => e = .returned (.bool (plainB h fs)) ∧ Below w.heap.size w w' := by
  by_cases hk : h.kind = 4
  · rw [plainB_rec hk]
    obtain ⟨kind, int, text, rc, a, n, cap⟩ := h
    simp only at hk hn hv ⊢
    subst hk
    by_cases hx : int = 0 ∧ text = ByteArray.empty ∧ 0 ≤ rc ∧ rc ≤ 15 ∧ n ≤ 12
    · obtain ⟨rfl, rfl, h1, h2, h3⟩ := hx
      refine (refPlain_fields w rc a n cap fs hn h1 h2 h3 hv hfs).mono ?_
      rintro e w' ⟨rfl, hb⟩
      exact ⟨by simp [h1, h2, h3], hb⟩
    · refine (refPlain_no w int rc text a n cap hin.n hx).mono ?_
      rintro e w' ⟨rfl, hb⟩
      refine ⟨?_, hb⟩
      congr 2
      symm
      simp only [Bool.and_eq_false_iff, decide_eq_false_iff_not]
      by_cases i0 : int = 0
      · by_cases ht : text = ByteArray.empty
        · by_cases r0 : 0 ≤ rc
          · by_cases r1 : rc ≤ 15
            · exact .inl (.inr fun n1 => hx ⟨i0, ht, r0, r1, n1⟩)
            · exact .inl (.inl (.inr r1))
          · exact .inl (.inl (.inl (.inr r0)))
        · exact .inl (.inl (.inl (.inl (.inr ht))))
      · exact .inl (.inl (.inl (.inl (.inl i0))))
  · have : plainB h fs = simpleB h := by unfold plainB; rw [if_neg hk]
    rw [this]
    refine (refPlain_simple w h hin hk).mono ?_
    rintro e w' ⟨rfl, rfl⟩
    exact ⟨rfl, (Below.refl _ _).alloc (Nat.le_refl _) _⟩
end Go.Proofs.YtnmbifoinponeaaGreatDoor
