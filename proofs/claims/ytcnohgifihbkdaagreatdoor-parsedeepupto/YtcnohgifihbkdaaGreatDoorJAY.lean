/- Rows of texts and of params: alike; each a small name. -/
import Derived.Test.YtcnohgifihbkdaaGreatDoorJAX
namespace Go.Proofs.YtcnohgifihbkdaaGreatDoor.Lx
open Go.RowKit Go.Deep
set_option linter.unusedVariables false
set_option linter.unusedSimpArgs false

theorem bne_str {s t : ByteArray} (h : ¬ s = t) : ¬ s.toList = t.toList := fun e => h (by
  rw [ByteArray.toList_eq, ByteArray.toList_eq] at e
  cases s; cases t; simp at e; simp [e])
theorem eq_take {α : Type} {a b : List α} {i : Nat} {x y : α} (hl : a.length = b.length) (hx : a[i]? = some x) (hy : b[i]? = some y) (h : a.take i = b.take i) (e : x = y) : a.take (i + 1) = b.take (i + 1) := by
  rw [List.take_add_one, List.take_add_one, h, hx, hy, e]
theorem bel_drewN {B : Nat} {w0 w : World} (h : Below B w0 w) : ∀ n, Below B w0 (w.drewN n)
  | 0 => h
  | n + 1 => (bel_drewN h n).drew
theorem drewN_more {w wr : World} (h : ∃ m, wr = w.drewN m) : ∃ m, wr.drew = w.drewN m := by
  obtain ⟨m, rfl⟩ := h
  exact ⟨m + 1, rfl⟩
set_option maxRecDepth 100000 in
set_option maxHeartbeats 1000000 in
theorem equalS_any (w : World) (a1 : Option Addr) (n1 c1 : Nat) (l1 : List ByteArray) (h1 : n1 = l1.length) (b1 : n1 ≤ 1000000) (r1 : SLs w a1 l1) (a2 : Option Addr) (n2 c2 : Nat) (l2 : List ByteArray) (h2 : n2 = l2.length) (b2 : n2 ≤ 1000000) (r2 : SLs w a2 l2) :
    Calls Tryz.prog 190 #[.slice a1 n1 c1, .slice a2 n2 c2] w fun e w' => e = .returned (.bool (decide (l1 = l2))) ∧ ∃ m, w' = w.drewN m := by
  have hb1 : (n1 : Int) ≤ 1000000 := by omega
  have hb2 : (n2 : Int) ≤ 1000000 := by omega
  have R1 := hid r1
  have R2 := hid r2
  have H1 := hid h1
  have H2 := hid h2
  clear r1 r2
  by_cases hn : n1 = n2
  · subst hn
    clear h1 h2 b1 b2
    go_enter Tryz.func190, Tryz.ntmps190
    go_wp2
    go_loopg [13] n1 (fun g x wr => ∃ i : Nat, i + g = n1 ∧ x = .int .i64 (i : Int) ∧ (∃ m, wr = w.drewN m) ∧ l1.take i = l2.take i)
    case atStart => exact ⟨0, by omega, rfl, ⟨0, rfl⟩, rfl⟩
    case round =>
      obtain ⟨i, hi, rfl, hb, ht⟩ := hrel
      have HT := hid ht
      have HB0 := hid hb
      have HB : Hid (Below w.heap.size w wr) := hid (by obtain ⟨m, rfl⟩ := HB0.out; exact bel_drewN (Below.refl _ w) m)
      clear ht hb
      cases gk with
      | zero =>
        have hin : i = n1 := by omega
        subst hin
        have he : l1 = l2 := by
          have := HT.out
          rwa [List.take_of_length_le (by rw [← H1.out]; exact Nat.le_refl _), List.take_of_length_le (by rw [← H2.out]; exact Nat.le_refl _)] at this
        clear hi
        go_wp2
        go_ret
        exact ⟨by rw [decide_eq_true he]; rfl, HB0.out⟩
      | succ g =>
        have hil : (i : Int) < (n1 : Int) := by omega
        have hi0 : (0 : Int) ≤ (i : Int) := by omega
        obtain ⟨s, hs⟩ : ∃ s, l1[i]? = some s := ⟨l1[i]'(by rw [← H1.out]; omega), List.getElem?_eq_getElem _⟩
        obtain ⟨t, ht⟩ : ∃ t, l2[i]? = some t := ⟨l2[i]'(by rw [← H2.out]; omega), List.getElem?_eq_getElem _⟩
        obtain ⟨b, off, ea, hc1⟩ := (R1.out.below (Nat.le_refl _) HB.out) i s hs
        obtain ⟨b', off', ea', hc2⟩ := (R2.out.below (Nat.le_refl _) HB.out) i t ht
        subst ea
        subst ea'
        have HSs := hid hs
        have HTs := hid ht
        have Hi := hid hi
        clear hs ht hi
        by_cases hst : s = t
        · subst hst
          have hls : (s.toList == s.toList) = true := by simp
          go_upto_region 6 with fail
          go_region_held3 (fun w2 => w2.cell? ⟨b, off + i, none⟩ = some (.string s) ∧ w2.cell? ⟨b', off' + i, none⟩ = some (.string s)) (first | go_keep) (fail)
          go_wp2
          go_roundg g
          case measure => omega
          case rel => exact ⟨i + 1, by have := Hi.out; omega, by go_num, drewN_more HB0.out, eq_take (by rw [← H1.out, ← H2.out]) HSs.out HTs.out HT.out rfl⟩
        · have hls := bne_str hst
          have hlb : (s.toList == t.toList) = false := by simpa using hls
          have hld : ¬ l1 = l2 := by
            intro e
            have h := HSs.out
            rw [e, HTs.out] at h
            exact hst (by injection h with h; exact h.symm)
          go_upto_region 6 with fail
          go_region_held3 (fun w2 => w2.cell? ⟨b, off + i, none⟩ = some (.string s) ∧ w2.cell? ⟨b', off' + i, none⟩ = some (.string t)) (first | go_keep) (fail)
          go_wp2
          go_ret
          exact ⟨by rw [decide_eq_false hld]; rfl, drewN_more HB0.out⟩
  · have hnI : ¬ (n1 : Int) = (n2 : Int) := by omega
    have hld : ¬ l1 = l2 := by rintro rfl; omega
    rw [decide_eq_false hld]
    clear h1 h2 hn hld
    go_enter Tryz.func190, Tryz.ntmps190
    go_wp2
    go_ret
    exact ⟨rfl, 0, rfl⟩
end Go.Proofs.YtcnohgifihbkdaaGreatDoor.Lx

namespace Go.Proofs.YtcnohgifihbkdaaGreatDoor.Lx
open Go.RowKit Go.Deep
set_option linter.unusedVariables false
set_option linter.unusedSimpArgs false

theorem bool_eq_agg2 {s t s' t' : ByteArray} : ((s, t) = (s', t')) ↔ (s.toList = s'.toList ∧ t.toList = t'.toList) := by
  constructor
  · rintro ⟨rfl, rfl⟩; exact ⟨rfl, rfl⟩
  · rintro ⟨h1, h2⟩
    rw [Classical.byContradiction fun h => bne_str h h1, Classical.byContradiction fun h => bne_str h h2]
set_option maxRecDepth 100000 in
set_option maxHeartbeats 1000000 in
theorem equalP_any (w : World) (a1 : Option Addr) (n1 c1 : Nat) (l1 : List (ByteArray × ByteArray)) (h1 : n1 = l1.length) (b1 : n1 ≤ 1000000) (r1 : PLs w a1 l1) (a2 : Option Addr) (n2 c2 : Nat) (l2 : List (ByteArray × ByteArray)) (h2 : n2 = l2.length) (b2 : n2 ≤ 1000000) (r2 : PLs w a2 l2) :
    Calls Tryz.prog 189 #[.slice a1 n1 c1, .slice a2 n2 c2] w fun e w' => e = .returned (.bool (decide (l1 = l2))) ∧ ∃ m, w' = w.drewN m := by
  have hb1 : (n1 : Int) ≤ 1000000 := by omega
  have hb2 : (n2 : Int) ≤ 1000000 := by omega
  have R1 := hid r1
  have R2 := hid r2
  have H1 := hid h1
  have H2 := hid h2
  clear r1 r2
  by_cases hn : n1 = n2
  · subst hn
    clear h1 h2 b1 b2
    go_enter Tryz.func189, Tryz.ntmps189
    go_wp2
    go_loopg [13] n1 (fun g x wr => ∃ i : Nat, i + g = n1 ∧ x = .int .i64 (i : Int) ∧ (∃ m, wr = w.drewN m) ∧ l1.take i = l2.take i)
    case atStart => exact ⟨0, by omega, rfl, ⟨0, rfl⟩, rfl⟩
    case round =>
      obtain ⟨i, hi, rfl, hb, ht⟩ := hrel
      have HT := hid ht
      have HB0 := hid hb
      have HB : Hid (Below w.heap.size w wr) := hid (by obtain ⟨m, rfl⟩ := HB0.out; exact bel_drewN (Below.refl _ w) m)
      clear ht hb
      cases gk with
      | zero =>
        have hin : i = n1 := by omega
        subst hin
        have he : l1 = l2 := by
          have := HT.out
          rwa [List.take_of_length_le (by rw [← H1.out]; exact Nat.le_refl _), List.take_of_length_le (by rw [← H2.out]; exact Nat.le_refl _)] at this
        clear hi
        go_wp2
        go_ret
        exact ⟨by rw [decide_eq_true he]; rfl, HB0.out⟩
      | succ g =>
        have hil : (i : Int) < (n1 : Int) := by omega
        have hi0 : (0 : Int) ≤ (i : Int) := by omega
        obtain ⟨s, hs⟩ : ∃ s, l1[i]? = some s := ⟨l1[i]'(by rw [← H1.out]; omega), List.getElem?_eq_getElem _⟩
        obtain ⟨t, ht⟩ : ∃ t, l2[i]? = some t := ⟨l2[i]'(by rw [← H2.out]; omega), List.getElem?_eq_getElem _⟩
        obtain ⟨b, off, ea, hc1, hd1⟩ := (R1.out.below (Nat.le_refl _) HB.out) i s hs
        obtain ⟨b', off', ea', hc2, hd2⟩ := (R2.out.below (Nat.le_refl _) HB.out) i t ht
        subst ea
        subst ea'
        obtain ⟨s1, s2⟩ := s
        obtain ⟨t1, t2⟩ := t
        simp only at hc1 hc2 hd1 hd2
        have HSs := hid hs
        have HTs := hid ht
        have Hi := hid hi
        clear hs ht hi
        by_cases hst : (s1, s2) = (t1, t2)
        · have hst' := bool_eq_agg2.1 hst
          have HST := hid hst
          have hl1 : (s1.toList == t1.toList) = true := by simpa using hst'.1
          have hl2 : (s2.toList == t2.toList) = true := by simpa using hst'.2
          clear hst hst'
          go_upto_region 6 with fail
          go_region_held3 (fun w2 => w2.cell? ⟨b, off + i * 2, none⟩ = some (.string s1) ∧ w2.cell? ⟨b, off + i * 2 + 1, none⟩ = some (.string s2) ∧ w2.cell? ⟨b', off' + i * 2, none⟩ = some (.string t1) ∧ w2.cell? ⟨b', off' + i * 2 + 1, none⟩ = some (.string t2)) (first | go_keep) (fail)
          go_wp2
          go_roundg g
          case measure => omega
          case rel => exact ⟨i + 1, by have := Hi.out; omega, by go_num, drewN_more HB0.out, eq_take (by rw [← H1.out, ← H2.out]) HSs.out HTs.out HT.out HST.out⟩
        · have hld : ¬ l1 = l2 := by
            intro e
            have h := HSs.out
            rw [e, HTs.out] at h
            exact hst (by injection h with h; exact h.symm)
          have HLD := hid hld
          have hor : ¬ s1.toList = t1.toList ∨ (s1.toList = t1.toList ∧ ¬ s2.toList = t2.toList) := by
            by_cases h : s1.toList = t1.toList
            · exact .inr ⟨h, fun h2 => hst (bool_eq_agg2.2 ⟨h, h2⟩)⟩
            · exact .inl h
          clear hst hld
          rcases hor with h1 | ⟨h1, h2⟩
          · have hl1 : (s1.toList == t1.toList) = false := by simpa using h1
            go_upto_region 6 with fail
            go_region_held3 (fun w2 => w2.cell? ⟨b, off + i * 2, none⟩ = some (.string s1) ∧ w2.cell? ⟨b, off + i * 2 + 1, none⟩ = some (.string s2) ∧ w2.cell? ⟨b', off' + i * 2, none⟩ = some (.string t1) ∧ w2.cell? ⟨b', off' + i * 2 + 1, none⟩ = some (.string t2)) (first | go_keep) (fail)
            go_wp2
            go_ret
            exact ⟨by rw [decide_eq_false HLD.out]; rfl, drewN_more HB0.out⟩
          · have hl1 : (s1.toList == t1.toList) = true := by simpa using h1
            have hl2 : (s2.toList == t2.toList) = false := by simpa using h2
            go_upto_region 6 with fail
            go_region_held3 (fun w2 => w2.cell? ⟨b, off + i * 2, none⟩ = some (.string s1) ∧ w2.cell? ⟨b, off + i * 2 + 1, none⟩ = some (.string s2) ∧ w2.cell? ⟨b', off' + i * 2, none⟩ = some (.string t1) ∧ w2.cell? ⟨b', off' + i * 2 + 1, none⟩ = some (.string t2)) (first | go_keep) (fail)
            go_wp2
            go_ret
            exact ⟨by rw [decide_eq_false HLD.out]; rfl, drewN_more HB0.out⟩
  · have hnI : ¬ (n1 : Int) = (n2 : Int) := by omega
    have hld : ¬ l1 = l2 := by rintro rfl; omega
    rw [decide_eq_false hld]
    clear h1 h2 hn hld
    go_enter Tryz.func189, Tryz.ntmps189
    go_wp2
    go_ret
    exact ⟨rfl, 0, rfl⟩

def fieldsB (l : List ByteArray) : Bool := decide (1 ≤ l.length) && decide (l.length ≤ 12) && l.all smallB
theorem all_take {α : Type} {q : α → Bool} {l : List α} {i : Nat} {x : α} (hx : l[i]? = some x) (h : (l.take i).all q = true) (e : q x = true) : (l.take (i + 1)).all q = true := by
  rw [List.take_add_one, hx, List.all_append, h]; simpa using e
theorem all_not {α : Type} {q : α → Bool} {l : List α} {i : Nat} {x : α} (hx : l[i]? = some x) (e : q x = false) : l.all q = false := by
  rw [List.all_eq_false]; exact ⟨x, List.mem_of_getElem? hx, by simp [e]⟩
set_option maxRecDepth 100000 in
set_option maxHeartbeats 1000000 in
theorem areFields_any (w : World) (a : Option Addr) (n c : Nat) (l : List ByteArray) (hn : n = l.length) (hb : n ≤ 1000000) (hr : SLs w a l) (hz : ∀ s ∈ l, s.size ≤ 9223372036854775807) (hm : MX w) :
    Calls Tryz.prog 167 #[.slice a n c] w fun e w' => e = .returned (.bool (fieldsB l)) ∧ Below w.heap.size w w' := by
  have HN := hid hn
  have HR := hid hr
  have HM := hid hm
  have HZ := hid hz
  have TR : Hid (∀ {Z x y : World}, Below Z.heap.size Z x → Below x.heap.size x y → Below Z.heap.size Z y) := hid (fun h1 h2 => h1.trans (h2.mono h1.size))
  clear hr hm hz
  by_cases h1 : n < 1
  · have h1' : (n : Int) < 1 := by omega
    have hx : fieldsB l = false := by unfold fieldsB; rw [decide_eq_false (show ¬ 1 ≤ l.length by omega)]; rfl
    rw [hx]
    clear hx hn
    go_enter Tryz.func167, Tryz.ntmps167
    go_wp2
    go_ret
    exact ⟨rfl, Below.refl _ _⟩
  · by_cases h2 : 12 < n
    · have h1' : ¬ (n : Int) < 1 := by omega
      have h2' : (12 : Int) < (n : Int) := by omega
      have hnI : (n : Int) ≤ 1000000 := by omega
      have hx : fieldsB l = false := by unfold fieldsB; rw [decide_eq_false (show ¬ l.length ≤ 12 by omega)]; simp
      rw [hx]
      clear hx hn
      go_enter Tryz.func167, Tryz.ntmps167
      go_wp2
      go_ret
      exact ⟨rfl, Below.refl _ _⟩
    · have h1' : ¬ (n : Int) < 1 := by omega
      have h2' : ¬ (12 : Int) < (n : Int) := by omega
      have hnI : (n : Int) ≤ 1000000 := by omega
      have hx : fieldsB l = l.all smallB := by unfold fieldsB; rw [decide_eq_true (show 1 ≤ l.length by omega), decide_eq_true (show l.length ≤ 12 by omega)]; simp
      rw [hx]
      clear hx hn
      go_enter Tryz.func167, Tryz.ntmps167
      go_wp2
      go_loopg [15] n (fun g x wr => ∃ i : Nat, i + g = n ∧ x = .int .i64 (i : Int) ∧ Below w.heap.size w wr ∧ (l.take i).all smallB = true)
      case atStart => exact ⟨0, by omega, rfl, Below.refl _ _, rfl⟩
      case round =>
        obtain ⟨i, hi, rfl, hb, ht⟩ := hrel
        have HT := hid ht
        have HB := hid hb
        clear ht hb
        cases gk with
        | zero =>
          have hin : i = n := by omega
          subst hin
          clear hi
          go_wp2
          go_ret
          have := HT.out
          rw [List.take_of_length_le (by rw [← HN.out]; exact Nat.le_refl _)] at this
          exact ⟨by rw [this]; rfl, HB.out⟩
        | succ g =>
          have hil : (i : Int) < (n : Int) := by omega
          have hi0 : (0 : Int) ≤ (i : Int) := by omega
          obtain ⟨s, hs⟩ : ∃ s, l[i]? = some s := ⟨l[i]'(by rw [← HN.out]; omega), List.getElem?_eq_getElem _⟩
          obtain ⟨b, off, ea, hc1⟩ := (HR.out.below (Nat.le_refl _) HB.out) i s hs
          subst ea
          have K := hid (isSmall_any s (HZ.out s (List.mem_of_getElem? hs)) wr (HM.out.below HM.out.lt HB.out))
          have HS := hid hs
          have Hi := hid hi
          clear hs hi
          cases hq : smallB s with
          | true =>
            rw [hq] at K
            have HQ := hid hq
            clear hq
            go_wp2_with (go_at_call 161; (refine (Hid.out K).mono ?_; rintro e w1 ⟨rfl, hb1⟩))
            go_roundg g
            case measure => omega
            case rel => exact ⟨i + 1, by have := Hi.out; omega, by go_num, TR.out HB.out hb1, all_take HS.out HT.out HQ.out⟩
          | false =>
            rw [hq] at K
            have HQ := hid hq
            clear hq
            go_wp2_with (go_at_call 161; (refine (Hid.out K).mono ?_; rintro e w1 ⟨rfl, hb1⟩))
            go_ret
            exact ⟨by rw [all_not HS.out HQ.out]; rfl, TR.out HB.out hb1⟩
def paramsB (q : ByteArray → Bool) (l : List (ByteArray × ByteArray)) : Bool := decide (l.length ≤ 12) && l.all fun p => smallB p.1 && q p.2
set_option maxRecDepth 100000 in
set_option maxHeartbeats 1000000 in
theorem params_any (g : Nat) (q : ByteArray → Bool) (eg : ∀ args w, (callFunc g args).run Tryz.prog w = .ok (.enter g args) w)
    (hg : ∀ (s : ByteArray) (w : World), s.size ≤ 9223372036854775807 → MX w → Calls Tryz.prog g #[.string s] w fun e w' => e = .returned (.bool (q s)) ∧ Below w.heap.size w w')
    (w : World) (a : Option Addr) (n c : Nat) (l : List (ByteArray × ByteArray)) (hn : n = l.length) (hb : n ≤ 1000000) (hr : PLs w a l) (hz : ∀ s ∈ l, s.1.size ≤ 9223372036854775807 ∧ s.2.size ≤ 9223372036854775807) (hm : MX w) :
    Calls Tryz.prog 159 #[.slice a n c, .func (.func g) #[] #[]] w fun e w' => e = .returned (.bool (paramsB q l)) ∧ Below w.heap.size w w' := by
  have HN := hid hn
  have HR := hid hr
  have HM := hid hm
  have HZ := hid hz
  have HG := hid hg
  have TR : Hid (∀ {Z x y : World}, Below Z.heap.size Z x → Below x.heap.size x y → Below Z.heap.size Z y) := hid (fun h1 h2 => h1.trans (h2.mono h1.size))
  clear hr hm hz hg
  by_cases h2 : 12 < n
  · have h2' : (12 : Int) < (n : Int) := by omega
    have hnI : (n : Int) ≤ 1000000 := by omega
    have hx : paramsB q l = false := by unfold paramsB; rw [decide_eq_false (show ¬ l.length ≤ 12 by omega)]; simp
    rw [hx]
    clear hx hn
    go_enter Tryz.func159, Tryz.ntmps159
    go_wp2
    go_ret
    exact ⟨rfl, Below.refl _ _⟩
  · have h2' : ¬ (12 : Int) < (n : Int) := by omega
    have hnI : (n : Int) ≤ 1000000 := by omega
    have hx : paramsB q l = l.all fun p => smallB p.1 && q p.2 := by unfold paramsB; rw [decide_eq_true (show l.length ≤ 12 by omega)]; simp
    rw [hx]
    clear hx hn
    go_enter Tryz.func159, Tryz.ntmps159
    go_wp2
    go_loopg [12] n (fun g x wr => ∃ i : Nat, i + g = n ∧ x = .int .i64 (i : Int) ∧ Below w.heap.size w wr ∧ ((l.take i).all fun p => smallB p.1 && q p.2) = true)
    case atStart => exact ⟨0, by omega, rfl, Below.refl _ _, rfl⟩
    case round =>
      obtain ⟨i, hi, rfl, hb, ht⟩ := hrel
      have HT := hid ht
      have HB := hid hb
      clear ht hb
      cases gk with
      | zero =>
        have hin : i = n := by omega
        subst hin
        clear hi
        go_wp2
        go_ret
        have := HT.out
        rw [List.take_of_length_le (by rw [← HN.out]; exact Nat.le_refl _)] at this
        exact ⟨by rw [this]; rfl, HB.out⟩
      | succ gg =>
        have hil : (i : Int) < (n : Int) := by omega
        have hi0 : (0 : Int) ≤ (i : Int) := by omega
        obtain ⟨⟨s, u⟩, hs⟩ : ∃ s, l[i]? = some s := ⟨l[i]'(by rw [← HN.out]; omega), List.getElem?_eq_getElem _⟩
        obtain ⟨b, off, ea, hc1, hc2⟩ := (HR.out.below (Nat.le_refl _) HB.out) i (s, u) hs
        subst ea
        simp only at hc1 hc2
        have hsz := HZ.out (s, u) (List.mem_of_getElem? hs)
        obtain ⟨W, hW⟩ : ∃ W, W = wr.alloc (.cells #[.string s, .string u] 112) := ⟨_, rfl⟩
        have hbW : Below w.heap.size w W := by rw [hW]; exact HB.out.alloc HB.out.size _
        have hbox : W.heap[wr.heap.size]? = some (.cells #[.string s, .string u] 112 (0, 0)) := by rw [hW]; exact heap_alloc_new _ _
        have K := hid (isSmall_any s hsz.1 W (HM.out.below HM.out.lt hbW))
        have KQ := hid (fun (w1 : World) (h : Below w.heap.size w w1) => HG.out u w1 hsz.2 (HM.out.below HM.out.lt h))
        have HX := hid (fun (w1 : World) (h : Below W.heap.size W w1) => ((h.block _ (Array.getElem?_eq_some_iff.1 hbox).1).trans hbox))
        have y0 := cellT hbox 0
        have y1 := cellT hbox 1
        simp only [List.getElem?_toArray, List.getElem?_cons_zero, List.getElem?_cons_succ] at y0 y1
        have HBW := hid hbW
        have HS := hid hs
        have Hi := hid hi
        clear hs hi hsz hbW hbox
        go_upto_region 6 with fail
        try rw [← hW]
        clear hW
        cases hq : smallB s with
        | false =>
          rw [hq] at K
          have HQ := hid hq
          clear hq
          go_wp2_with (go_at_call 161; (refine (Hid.out K).mono ?_; rintro e w1 ⟨rfl, hb1⟩))
          go_ret
          exact ⟨by rw [all_not HS.out (show (smallB s && q u) = false by rw [HQ.out]; rfl)]; rfl, TR.out HBW.out hb1⟩
        | true =>
          rw [hq] at K
          have HQ := hid hq
          clear hq
          cases hr : q u with
          | true =>
            simp only [hr] at KQ
            have HQ2 := hid hr
            clear hr
            go_wp2_with (first
              | (go_at_call 161; (refine (Hid.out K).mono ?_; rintro e w1 ⟨rfl, hb1⟩; have hx := HX.out w1 hb1; have z1 := cellT hx 1; simp only [List.getElem?_toArray, List.getElem?_cons_zero, List.getElem?_cons_succ] at z1; have HB1 := hid (TR.out HBW.out hb1); clear y0 y1 hb1 hx))
              | (go_at_fn g; (refine (KQ.out w1 HB1.out).mono ?_; rintro e w2 ⟨rfl, hb2⟩; have HB2 := hid (TR.out HB1.out hb2); clear hb2)))
            go_roundg gg
            case measure => omega
            case rel => exact ⟨i + 1, by have := Hi.out; omega, by go_num, HB2.out, all_take HS.out HT.out (show (smallB s && q u) = true by rw [HQ.out, HQ2.out]; rfl)⟩
          | false =>
            simp only [hr] at KQ
            have HQ2 := hid hr
            clear hr
            go_wp2_with (first
              | (go_at_call 161; (refine (Hid.out K).mono ?_; rintro e w1 ⟨rfl, hb1⟩; have hx := HX.out w1 hb1; have z1 := cellT hx 1; simp only [List.getElem?_toArray, List.getElem?_cons_zero, List.getElem?_cons_succ] at z1; have HB1 := hid (TR.out HBW.out hb1); clear y0 y1 hb1 hx))
              | (go_at_fn g; (refine (KQ.out w1 HB1.out).mono ?_; rintro e w2 ⟨rfl, hb2⟩; have HB2 := hid (TR.out HB1.out hb2); clear hb2)))
            go_ret
            exact ⟨by rw [all_not HS.out (show (smallB s && q u) = false by rw [HQ.out, HQ2.out]; rfl)]; rfl, HB2.out⟩
end Go.Proofs.YtcnohgifihbkdaaGreatDoor.Lx

namespace Go.Proofs.YtcnohgifihbkdaaGreatDoor.Lx
open Go.RowKit Go.Deep
set_option linter.unusedVariables false
set_option linter.unusedSimpArgs false

theorem beqL {s t : ByteArray} (h : s = t) : (s.toList == t.toList) = true := by rw [h]; simp
theorem bneL {s t : ByteArray} (h : ¬ s = t) : (s.toList == t.toList) = false := by simpa using bne_str h
theorem SLs.drewN {w : World} {a : Option Addr} {l : List ByteArray} (h : SLs w a l) (n : Nat) : SLs (w.drewN n) a l := h
theorem PLs.drewN {w : World} {a : Option Addr} {l : List (ByteArray × ByteArray)} (h : PLs w a l) (n : Nat) : PLs (w.drewN n) a l := h
end Go.Proofs.YtcnohgifihbkdaaGreatDoor.Lx

namespace Go.Proofs.YtcnohgifihbkdaaGreatDoor.Lx
open Go.RowKit Go.Deep
set_option linter.unusedVariables false
set_option linter.unusedSimpArgs false

def alikeE (a b : EH) : Bool := decide (a.kind = b.kind) && decide (a.op = b.op) && decide (a.int = b.int) && decide (a.text = b.text) && decide (a.name = b.name) && decide (a.names = b.names) && decide (a.an = b.an)
set_option maxRecDepth 100000 in
set_option maxHeartbeats 1000000 in
theorem alikeE_any (w : World) (a b : EH) (da : EHr w a) (db : EHr w b) : Calls Tryz.prog 168 #[.pointer (some ⟨a.b, a.o, none⟩), .pointer (some ⟨b.b, b.o, none⟩)] w fun e w' => e = .returned (.bool (alikeE a b)) ∧ ∃ m, w' = w.drewN m := by
  have x0 := da.c0
  have y0 := db.c0
  have x1 := da.c1
  have y1 := db.c1
  have x2 := da.c2
  have y2 := db.c2
  have x3 := da.c3
  have y3 := db.c3
  have x4 := da.c4
  have y4 := db.c4
  have x5 := da.c5
  have y5 := db.c5
  have x6 := da.c6
  have y6 := db.c6
  have KR := hid (fun (n : Nat) => equalS_any (w.drewN n) a.na a.nn a.nc a.names da.nl da.nb (da.nr.drewN n) b.na b.nn b.nc b.names db.nl db.nb (db.nr.drewN n))
  have z1 : (a.an : Int) ≤ 1000000 := by have := da.ab; omega
  have z2 : (b.an : Int) ≤ 1000000 := by have := db.ab; omega
  unfold alikeE
  clear da db
  go_enter Tryz.func168, Tryz.ntmps168
  go_wp2_with fail
  dsimp only [List.append]
  refine wp_region_quiet_lit (by kernel_rfl) (by kernel_rfl) ?_
  by_cases h0 : a.kind = b.kind
  case neg =>
    have g0 : (a.kind == b.kind) = false := by simpa using h0
    repeat (go_big_quiet_step (first | (go_at_call 190; exact Calls.quiet_of (KR.out _)) | (go_at_call 189; exact Calls.quiet_of (KR.out _))))
    refine wpQuiet_nil ?_
    intro _ hw'
    obtain ⟨nq, rfl⟩ := hw'
    go_wp2_with fail
    go_ret
    exact ⟨ret_bool (by simp_all), nq, rfl⟩
  have g0 : (a.kind == b.kind) = true := by simpa using h0
  by_cases h1 : a.op = b.op
  case neg =>
    have g1 : (a.op == b.op) = false := by simpa using h1
    repeat (go_big_quiet_step (first | (go_at_call 190; exact Calls.quiet_of (KR.out _)) | (go_at_call 189; exact Calls.quiet_of (KR.out _))))
    refine wpQuiet_nil ?_
    intro _ hw'
    obtain ⟨nq, rfl⟩ := hw'
    go_wp2_with fail
    go_ret
    exact ⟨ret_bool (by simp_all), nq, rfl⟩
  have g1 : (a.op == b.op) = true := by simpa using h1
  by_cases h2 : a.int = b.int
  case neg =>
    have g2 : (a.int == b.int) = false := by simpa using h2
    repeat (go_big_quiet_step (first | (go_at_call 190; exact Calls.quiet_of (KR.out _)) | (go_at_call 189; exact Calls.quiet_of (KR.out _))))
    refine wpQuiet_nil ?_
    intro _ hw'
    obtain ⟨nq, rfl⟩ := hw'
    go_wp2_with fail
    go_ret
    exact ⟨ret_bool (by simp_all), nq, rfl⟩
  have g2 : (a.int == b.int) = true := by simpa using h2
  by_cases h3 : a.text = b.text
  case neg =>
    have g3 := bneL h3
    have k3 := bne_str h3
    repeat (go_big_quiet_step (first | (go_at_call 190; exact Calls.quiet_of (KR.out _)) | (go_at_call 189; exact Calls.quiet_of (KR.out _))))
    refine wpQuiet_nil ?_
    intro _ hw'
    obtain ⟨nq, rfl⟩ := hw'
    go_wp2_with fail
    go_ret
    exact ⟨ret_bool (by simp_all), nq, rfl⟩
  have g3 := beqL h3
  by_cases h4 : a.name = b.name
  case neg =>
    have g4 := bneL h4
    have k4 := bne_str h4
    repeat (go_big_quiet_step (first | (go_at_call 190; exact Calls.quiet_of (KR.out _)) | (go_at_call 189; exact Calls.quiet_of (KR.out _))))
    refine wpQuiet_nil ?_
    intro _ hw'
    obtain ⟨nq, rfl⟩ := hw'
    go_wp2_with fail
    go_ret
    exact ⟨ret_bool (by simp_all), nq, rfl⟩
  have g4 := beqL h4
  by_cases h5 : a.names = b.names
  case neg =>
    simp only [decide_eq_false h5] at KR
    repeat (go_big_quiet_step (first | (go_at_call 190; exact Calls.quiet_of (KR.out _)) | (go_at_call 189; exact Calls.quiet_of (KR.out _))))
    refine wpQuiet_nil ?_
    intro _ hw'
    obtain ⟨nq, rfl⟩ := hw'
    go_wp2_with fail
    go_ret
    exact ⟨ret_bool (by simp_all), nq, rfl⟩
  simp only [decide_eq_true h5] at KR
  by_cases h6 : a.an = b.an
  case neg =>
    have g6 : ¬ (a.an : Int) = (b.an : Int) := by omega
    repeat (go_big_quiet_step (first | (go_at_call 190; exact Calls.quiet_of (KR.out _)) | (go_at_call 189; exact Calls.quiet_of (KR.out _))))
    refine wpQuiet_nil ?_
    intro _ hw'
    obtain ⟨nq, rfl⟩ := hw'
    go_wp2_with fail
    go_ret
    exact ⟨ret_bool (by simp_all), nq, rfl⟩
  have g6 : (a.an : Int) = (b.an : Int) := by omega
  repeat (go_big_quiet_step (first | (go_at_call 190; exact Calls.quiet_of (KR.out _)) | (go_at_call 189; exact Calls.quiet_of (KR.out _))))
  refine wpQuiet_nil ?_
  intro _ hw'
  obtain ⟨nq, rfl⟩ := hw'
  go_wp2_with fail
  go_ret
  exact ⟨ret_bool (by simp_all), nq, rfl⟩
end Go.Proofs.YtcnohgifihbkdaaGreatDoor.Lx

namespace Go.Proofs.YtcnohgifihbkdaaGreatDoor.Lx
open Go.RowKit Go.Deep
set_option linter.unusedVariables false
set_option linter.unusedSimpArgs false

def emp : ByteArray := ⟨#[]⟩
def EH.cs (m : EH) : Array Value := #[.int .i64 m.kind, .int .i64 m.op, .int .i64 m.int, .string m.text, .string m.name, .slice m.na m.nn m.nc, .slice m.aa m.an m.ac, .int .i64 m.pos]
/- What e's kind has a meaning for. -/
def meantE (h : EH) : EH := { h with op := if h.kind = 5 ∨ h.kind = 6 then h.op else 0, int := if h.kind = 1 ∨ h.kind = 3 then h.int else 0, text := if h.kind = 2 then h.text else emp, name := if h.kind = 4 ∨ h.kind = 7 ∨ h.kind = 8 ∨ h.kind = 9 ∨ h.kind = 10 ∨ h.kind = 11 ∨ h.kind = 12 then h.name else emp, na := if h.kind = 8 then h.na else none, nn := if h.kind = 8 then h.nn else 0, nc := if h.kind = 8 then h.nc else 0, names := if h.kind = 8 then h.names else [], pos := 0 }
def okE (h : EH) : Bool :=
  if h.kind = 1 then decide (h.an = 0) else
  if h.kind = 2 then decide (h.text.size ≤ 64) && decide (h.an = 0) else
  if h.kind = 3 then (decide (h.int = 0) || decide (h.int = 1)) && decide (h.an = 0) else
  if h.kind = 4 then smallB h.name && decide (h.an = 0) else
  if h.kind = 5 then decide (18 ≤ h.op) && decide (h.op ≤ 21) && decide (h.an = 1) else
  if h.kind = 6 then decide (1 ≤ h.op) && decide (h.op ≤ 17) && decide (h.an = 2) else
  if h.kind = 8 then greatB h.name && fieldsB h.names && decide (h.an = h.nn) else
  if h.kind = 11 then smallB h.name && decide (h.an ≤ 12) else
  if h.kind = 7 ∨ h.kind = 9 ∨ h.kind = 10 ∨ h.kind = 12 then smallB h.name && decide (h.an = 1) else false
def rightE (h : EH) : Bool := okE h && alikeE h (meantE h)
theorem boxE {W : World} {h m : EH} {M : Nat} (d : EHr W h) (hb : W.heap[M]? = some (.cells m.cs 45 (0, 0))) (hi : m.int = h.int ∨ m.int = 0) (ht : m.text = h.text ∨ m.text = emp) (hn : m.name = h.name ∨ m.name = emp) (hr : (m.na = h.na ∧ m.nn = h.nn ∧ m.names = h.names) ∨ (m.nn = 0 ∧ m.names = [])) (ha : m.an = h.an) : EHr W { m with b := M, o := 0 } := by
  have c := cellT hb
  have e0 : emp.size ≤ 9223372036854775807 := by decide
  refine ⟨c 0, c 1, c 2, c 3, c 4, c 5, c 6, c 7, ?_, ?_, ?_, ?_, ?_, ?_, ?_, ?_, ?_⟩
  · rcases hi with e | e
    · show -9223372036854775808 ≤ m.int; rw [e]; exact d.i0
    · show -9223372036854775808 ≤ m.int; rw [e]; decide
  · rcases hi with e | e
    · show m.int ≤ 9223372036854775807; rw [e]; exact d.i1
    · show m.int ≤ 9223372036854775807; rw [e]; decide
  · rcases ht with e | e
    · show m.text.size ≤ _; rw [e]; exact d.t
    · show m.text.size ≤ _; rw [e]; exact e0
  · rcases hn with e | e
    · show m.name.size ≤ _; rw [e]; exact d.n
    · show m.name.size ≤ _; rw [e]; exact e0
  · rcases hr with ⟨e1, e2, e3⟩ | ⟨e2, e3⟩
    · show m.nn = m.names.length; rw [e2, e3]; exact d.nl
    · show m.nn = m.names.length; rw [e2, e3]; rfl
  · rcases hr with ⟨e1, e2, e3⟩ | ⟨e2, e3⟩
    · show m.nn ≤ _; rw [e2]; exact d.nb
    · show m.nn ≤ _; rw [e2]; decide
  · rcases hr with ⟨e1, e2, e3⟩ | ⟨e2, e3⟩
    · show ∀ s ∈ m.names, _; rw [e3]; exact d.ns
    · show ∀ s ∈ m.names, _; rw [e3]; intro s hs; cases hs
  · rcases hr with ⟨e1, e2, e3⟩ | ⟨e2, e3⟩
    · show SLs W m.na m.names; rw [e1, e3]; exact d.nr
    · show SLs W m.na m.names; rw [e3]; intro j s hs; simp at hs
  · show m.an ≤ _; rw [ha]; exact d.ab
end Go.Proofs.YtcnohgifihbkdaaGreatDoor.Lx

namespace Go.Proofs.YtcnohgifihbkdaaGreatDoor.Lx
open Go.RowKit Go.Deep
set_option linter.unusedVariables false
set_option linter.unusedSimpArgs false


set_option maxRecDepth 100000 in
set_option maxHeartbeats 4000000 in
theorem isRightE_4 (w : World) (h : EH) (d : EHr w h) (hm : MX w) (hk : h.kind = 4) : Calls Tryz.prog 127 #[.pointer (some ⟨h.b, h.o, none⟩)] w fun e w' => e = .returned (.bool (rightE h)) ∧ Below w.heap.size w w' := by
  have TR : Hid (∀ {Z x y : World}, Below Z.heap.size Z x → Below x.heap.size x y → Below Z.heap.size Z y) := hid (fun h1 h2 => h1.trans (h2.mono h1.size))
  have ha : (h.an : Int) ≤ 1000000 := by have := d.ab; omega
  have hnn : (h.nn : Int) ≤ 1000000 := by have := d.nb; omega
  have htx : (h.text.size : Int) ≤ 9223372036854775807 := by have := d.t; omega
  have cell : ∀ {p : Addr} {v : Value} (o : Obj), w.cell? p = some v → (w.alloc o).cell? p = some v := fun o hc => (((Below.refl w.heap.size w).alloc (Nat.le_refl _) o).cell (World.block_lt_of_cell? w _ hc)).trans hc
  have c0 := d.c0
  have c6 := d.c6
  have C0 := fun o => cell o d.c0
  have C1 := fun o => cell o d.c1
  have C2 := fun o => cell o d.c2
  have C3 := fun o => cell o d.c3
  have C4 := fun o => cell o d.c4
  have C5 := fun o => cell o d.c5
  have C6 := fun o => cell o d.c6
  obtain ⟨W, hW⟩ : ∃ W, W = ((w.alloc (.cells #[.int .i64 4, .int .i64 0, .int .i64 0, .string ⟨#[]⟩, .string h.name, .slice none 0 0, .slice h.aa h.an h.ac, .int .i64 0] 45)).drew : World) := ⟨_, rfl⟩
  have hb : W.heap[w.heap.size]? = some (.cells (meantE h).cs 45 (0, 0)) := by
    rw [hW]
    refine (heap_alloc_new w _).trans ?_
    simp [meantE, EH.cs, emp, hk]
  have hbw : Below w.heap.size w W := by rw [hW]; exact ((Below.refl _ w).alloc (Nat.le_refl _) _).drew
  have KA : Hid (∀ w1 : World, Below W.heap.size W w1 → Calls Tryz.prog 168 #[.pointer (some ⟨h.b, h.o, none⟩), .pointer (some ⟨w.heap.size, 0, none⟩)] w1 fun e w' => e = .returned (.bool (alikeE h (meantE h))) ∧ ∃ m, w' = w1.drewN m) := hid (fun w1 hb1 => by
    have dd := d.below (Nat.le_refl _) (hbw.trans (hb1.mono hbw.size))
    exact alikeE_any w1 h { meantE h with b := w.heap.size, o := 0 } dd (boxE dd ((hb1.block _ (Array.getElem?_eq_some_iff.1 hb).1).trans hb) (by simp [meantE, hk]) (by simp [meantE, hk]) (by simp [meantE, hk]) (by simp [meantE, hk]) rfl))
  have HW := hid hbw
  have KS : Hid (∀ w1 : World, Below w.heap.size w w1 → Calls Tryz.prog 161 #[.string h.name] w1 fun e w' => e = .returned (.bool (smallB h.name)) ∧ Below w1.heap.size w1 w') := hid (fun w1 hb1 => isSmall_any h.name d.n w1 (hm.below hm.lt hb1))
  have KG : Hid (∀ w1 : World, Below w.heap.size w w1 → Calls Tryz.prog 158 #[.string h.name] w1 fun e w' => e = .returned (.bool (greatB h.name)) ∧ Below w1.heap.size w1 w') := hid (fun w1 hb1 => isGreat_any h.name d.n w1 (hm.below hm.lt hb1))
  have KF : Hid (∀ w1 : World, Below w.heap.size w w1 → Calls Tryz.prog 167 #[.slice h.na h.nn h.nc] w1 fun e w' => e = .returned (.bool (fieldsB h.names)) ∧ Below w1.heap.size w1 w') := hid (fun w1 hb1 => areFields_any w1 h.na h.nn h.nc h.names d.nl d.nb (d.nr.below (Nat.le_refl _) hb1) d.ns (hm.below hm.lt hb1))
  have CN : Hid (∀ w1 : World, Below w.heap.size w w1 → w1.cell? ⟨h.b, h.o + 5, none⟩ = some (.slice h.na h.nn h.nc)) := hid (fun w1 hb1 => belowCell d.c5 (Nat.le_refl _) hb1)
  have HR : Hid (rightE h = ((smallB h.name && decide (h.an = 0)) && alikeE h (meantE h))) := hid (by unfold rightE okE; simp [hk])
  have fin : Hid (∀ (w1 : World) (m : Nat), Below w.heap.size w w1 → Below w.heap.size w (w1.drewN m)) := hid (fun w1 m hb => bel_drewN hb m)
  generalize alikeE h (meantE h) = al at *
  generalize rightE h = res at *
  generalize smallB h.name = sm at *
  generalize greatB h.name = gr at *
  generalize fieldsB h.names = fi at *
  clear d hm hb hbw cell
  obtain ⟨b, o, kind, op, int, text, name, na, nn, nc, aa, an, ac, pos, names⟩ := h
  simp only at c0 c6 C0 C1 C2 C3 C4 C5 C6 hW KA KS KG KF CN HR hk ha hnn htx ⊢
  subst hk
  cases sm
  case false =>
    go_enter Tryz.func127, Tryz.ntmps127
    go_wp2
    go_region_held3 (fun w2 => w2.cell? ⟨b, o, none⟩ = some (.int .i64 4) ∧ w2.cell? ⟨b, o + 6, none⟩ = some (.slice aa an ac)) (first | go_keep) (fail)
    go_wp2_with (first
      | (go_at_call 161; (rw [← hW]; clear hW; refine (KS.out W HW.out).mono ?_; rintro e w1 ⟨rfl, hb1⟩; have HB1 := hid hb1; clear hb1))
      | (go_at_call 168; (have hno := HB1; refine (KA.out w1 HB1.out).mono ?_; rintro e w2 ⟨rfl, m, rfl⟩; have HB2 := hid (fin.out w1 m (TR.out HW.out HB1.out))))
      | (go_at_call 168; (rw [← hW]; clear hW; refine (KA.out W (Below.refl _ _)).mono ?_; rintro e w2 ⟨rfl, m, rfl⟩; have HB2 := hid (fin.out W m HW.out))))
    go_ret
    refine ⟨?_, ?_⟩
    · rw [HR.out]; exact ret_bool (by first | (simp; done) | (simp <;> intros <;> omega))
    · first | exact HB2.out | exact TR.out HW.out HB1.out | (rw [← hW]; exact HW.out)
  case true =>
    by_cases q1 : an = 0
    case pos =>
      subst q1
      go_enter Tryz.func127, Tryz.ntmps127
      go_wp2
      go_region_held3 (fun w2 => w2.cell? ⟨b, o, none⟩ = some (.int .i64 4) ∧ w2.cell? ⟨b, o + 6, none⟩ = some (.slice aa 0 ac)) (first | go_keep) (fail)
      go_wp2_with (first
        | (go_at_call 161; (rw [← hW]; clear hW; refine (KS.out W HW.out).mono ?_; rintro e w1 ⟨rfl, hb1⟩; have HB1 := hid hb1; clear hb1))
        | (go_at_call 168; (have hno := HB1; refine (KA.out w1 HB1.out).mono ?_; rintro e w2 ⟨rfl, m, rfl⟩; have HB2 := hid (fin.out w1 m (TR.out HW.out HB1.out))))
        | (go_at_call 168; (rw [← hW]; clear hW; refine (KA.out W (Below.refl _ _)).mono ?_; rintro e w2 ⟨rfl, m, rfl⟩; have HB2 := hid (fin.out W m HW.out))))
      go_ret
      refine ⟨?_, ?_⟩
      · rw [HR.out]; exact ret_bool (by first | (simp; done) | (simp <;> intros <;> omega))
      · first | exact HB2.out | exact TR.out HW.out HB1.out | (rw [← hW]; exact HW.out)
    case neg =>
      have q1' : ¬ (an : Int) = 0 := by omega
      go_enter Tryz.func127, Tryz.ntmps127
      go_wp2
      go_region_held3 (fun w2 => w2.cell? ⟨b, o, none⟩ = some (.int .i64 4) ∧ w2.cell? ⟨b, o + 6, none⟩ = some (.slice aa an ac)) (first | go_keep) (fail)
      go_wp2_with (first
        | (go_at_call 161; (rw [← hW]; clear hW; refine (KS.out W HW.out).mono ?_; rintro e w1 ⟨rfl, hb1⟩; have HB1 := hid hb1; clear hb1))
        | (go_at_call 168; (have hno := HB1; refine (KA.out w1 HB1.out).mono ?_; rintro e w2 ⟨rfl, m, rfl⟩; have HB2 := hid (fin.out w1 m (TR.out HW.out HB1.out))))
        | (go_at_call 168; (rw [← hW]; clear hW; refine (KA.out W (Below.refl _ _)).mono ?_; rintro e w2 ⟨rfl, m, rfl⟩; have HB2 := hid (fin.out W m HW.out))))
      go_ret
      refine ⟨?_, ?_⟩
      · rw [HR.out]; exact ret_bool (by first | (simp [q1]; done) | (simp <;> intros <;> omega))
      · first | exact HB2.out | exact TR.out HW.out HB1.out | (rw [← hW]; exact HW.out)
end Go.Proofs.YtcnohgifihbkdaaGreatDoor.Lx

namespace Go.Proofs.YtcnohgifihbkdaaGreatDoor.Lx
open Go.RowKit Go.Deep
set_option linter.unusedVariables false
set_option linter.unusedSimpArgs false


set_option maxRecDepth 100000 in
set_option maxHeartbeats 4000000 in
theorem isRightE_5 (w : World) (h : EH) (d : EHr w h) (hm : MX w) (hk : h.kind = 5) : Calls Tryz.prog 127 #[.pointer (some ⟨h.b, h.o, none⟩)] w fun e w' => e = .returned (.bool (rightE h)) ∧ Below w.heap.size w w' := by
  have TR : Hid (∀ {Z x y : World}, Below Z.heap.size Z x → Below x.heap.size x y → Below Z.heap.size Z y) := hid (fun h1 h2 => h1.trans (h2.mono h1.size))
  have ha : (h.an : Int) ≤ 1000000 := by have := d.ab; omega
  have hnn : (h.nn : Int) ≤ 1000000 := by have := d.nb; omega
  have htx : (h.text.size : Int) ≤ 9223372036854775807 := by have := d.t; omega
  have cell : ∀ {p : Addr} {v : Value} (o : Obj), w.cell? p = some v → (w.alloc o).cell? p = some v := fun o hc => (((Below.refl w.heap.size w).alloc (Nat.le_refl _) o).cell (World.block_lt_of_cell? w _ hc)).trans hc
  have c0 := d.c0
  have c6 := d.c6
  have C0 := fun o => cell o d.c0
  have C1 := fun o => cell o d.c1
  have C2 := fun o => cell o d.c2
  have C3 := fun o => cell o d.c3
  have C4 := fun o => cell o d.c4
  have C5 := fun o => cell o d.c5
  have C6 := fun o => cell o d.c6
  obtain ⟨W, hW⟩ : ∃ W, W = ((w.alloc (.cells #[.int .i64 5, .int .i64 h.op, .int .i64 0, .string ⟨#[]⟩, .string ⟨#[]⟩, .slice none 0 0, .slice h.aa h.an h.ac, .int .i64 0] 45)).drew : World) := ⟨_, rfl⟩
  have hb : W.heap[w.heap.size]? = some (.cells (meantE h).cs 45 (0, 0)) := by
    rw [hW]
    refine (heap_alloc_new w _).trans ?_
    simp [meantE, EH.cs, emp, hk]
  have hbw : Below w.heap.size w W := by rw [hW]; exact ((Below.refl _ w).alloc (Nat.le_refl _) _).drew
  have KA : Hid (∀ w1 : World, Below W.heap.size W w1 → Calls Tryz.prog 168 #[.pointer (some ⟨h.b, h.o, none⟩), .pointer (some ⟨w.heap.size, 0, none⟩)] w1 fun e w' => e = .returned (.bool (alikeE h (meantE h))) ∧ ∃ m, w' = w1.drewN m) := hid (fun w1 hb1 => by
    have dd := d.below (Nat.le_refl _) (hbw.trans (hb1.mono hbw.size))
    exact alikeE_any w1 h { meantE h with b := w.heap.size, o := 0 } dd (boxE dd ((hb1.block _ (Array.getElem?_eq_some_iff.1 hb).1).trans hb) (by simp [meantE, hk]) (by simp [meantE, hk]) (by simp [meantE, hk]) (by simp [meantE, hk]) rfl))
  have HW := hid hbw
  have KS : Hid (∀ w1 : World, Below w.heap.size w w1 → Calls Tryz.prog 161 #[.string h.name] w1 fun e w' => e = .returned (.bool (smallB h.name)) ∧ Below w1.heap.size w1 w') := hid (fun w1 hb1 => isSmall_any h.name d.n w1 (hm.below hm.lt hb1))
  have KG : Hid (∀ w1 : World, Below w.heap.size w w1 → Calls Tryz.prog 158 #[.string h.name] w1 fun e w' => e = .returned (.bool (greatB h.name)) ∧ Below w1.heap.size w1 w') := hid (fun w1 hb1 => isGreat_any h.name d.n w1 (hm.below hm.lt hb1))
  have KF : Hid (∀ w1 : World, Below w.heap.size w w1 → Calls Tryz.prog 167 #[.slice h.na h.nn h.nc] w1 fun e w' => e = .returned (.bool (fieldsB h.names)) ∧ Below w1.heap.size w1 w') := hid (fun w1 hb1 => areFields_any w1 h.na h.nn h.nc h.names d.nl d.nb (d.nr.below (Nat.le_refl _) hb1) d.ns (hm.below hm.lt hb1))
  have CN : Hid (∀ w1 : World, Below w.heap.size w w1 → w1.cell? ⟨h.b, h.o + 5, none⟩ = some (.slice h.na h.nn h.nc)) := hid (fun w1 hb1 => belowCell d.c5 (Nat.le_refl _) hb1)
  have HR : Hid (rightE h = ((decide (18 ≤ h.op) && decide (h.op ≤ 21) && decide (h.an = 1)) && alikeE h (meantE h))) := hid (by unfold rightE okE; simp [hk])
  have fin : Hid (∀ (w1 : World) (m : Nat), Below w.heap.size w w1 → Below w.heap.size w (w1.drewN m)) := hid (fun w1 m hb => bel_drewN hb m)
  generalize alikeE h (meantE h) = al at *
  generalize rightE h = res at *
  generalize smallB h.name = sm at *
  generalize greatB h.name = gr at *
  generalize fieldsB h.names = fi at *
  clear d hm hb hbw cell
  obtain ⟨b, o, kind, op, int, text, name, na, nn, nc, aa, an, ac, pos, names⟩ := h
  simp only at c0 c6 C0 C1 C2 C3 C4 C5 C6 hW KA KS KG KF CN HR hk ha hnn htx ⊢
  subst hk
  by_cases q3 : 18 ≤ op
  case pos =>
    by_cases q2 : op ≤ 21
    case pos =>
      by_cases q1 : an = 1
      case pos =>
        subst q1
        go_enter Tryz.func127, Tryz.ntmps127
        go_wp2
        go_region_held3 (fun w2 => w2.cell? ⟨b, o, none⟩ = some (.int .i64 5) ∧ w2.cell? ⟨b, o + 6, none⟩ = some (.slice aa 1 ac)) (first | go_keep) (fail)
        go_wp2_with (go_at_call 168; (rw [← hW]; clear hW; refine (KA.out W (Below.refl _ _)).mono ?_; rintro e w2 ⟨rfl, m, rfl⟩; have HB2 := hid (fin.out W m HW.out)))
        go_ret
        refine ⟨?_, ?_⟩
        · rw [HR.out]; exact ret_bool (by first | (simp [q3, q2]; done) | (simp <;> intros <;> omega))
        · first | exact HB2.out | exact TR.out HW.out HB1.out | (rw [← hW]; exact HW.out)
      case neg =>
        have q1' : ¬ (an : Int) = 1 := by omega
        go_enter Tryz.func127, Tryz.ntmps127
        go_wp2
        go_region_held3 (fun w2 => w2.cell? ⟨b, o, none⟩ = some (.int .i64 5) ∧ w2.cell? ⟨b, o + 6, none⟩ = some (.slice aa an ac)) (first | go_keep) (fail)
        go_wp2_with (go_at_call 168; (rw [← hW]; clear hW; refine (KA.out W (Below.refl _ _)).mono ?_; rintro e w2 ⟨rfl, m, rfl⟩; have HB2 := hid (fin.out W m HW.out)))
        go_ret
        refine ⟨?_, ?_⟩
        · rw [HR.out]; exact ret_bool (by first | (simp [q3, q2, q1]; done) | (simp <;> intros <;> omega))
        · first | exact HB2.out | exact TR.out HW.out HB1.out | (rw [← hW]; exact HW.out)
    case neg =>
      go_enter Tryz.func127, Tryz.ntmps127
      go_wp2
      go_region_held3 (fun w2 => w2.cell? ⟨b, o, none⟩ = some (.int .i64 5) ∧ w2.cell? ⟨b, o + 6, none⟩ = some (.slice aa an ac)) (first | go_keep) (fail)
      go_wp2_with (go_at_call 168; (rw [← hW]; clear hW; refine (KA.out W (Below.refl _ _)).mono ?_; rintro e w2 ⟨rfl, m, rfl⟩; have HB2 := hid (fin.out W m HW.out)))
      go_ret
      refine ⟨?_, ?_⟩
      · rw [HR.out]; exact ret_bool (by first | (simp [q3, q2]; done) | (simp <;> intros <;> omega))
      · first | exact HB2.out | exact TR.out HW.out HB1.out | (rw [← hW]; exact HW.out)
  case neg =>
    go_enter Tryz.func127, Tryz.ntmps127
    go_wp2
    go_region_held3 (fun w2 => w2.cell? ⟨b, o, none⟩ = some (.int .i64 5) ∧ w2.cell? ⟨b, o + 6, none⟩ = some (.slice aa an ac)) (first | go_keep) (fail)
    go_wp2_with (go_at_call 168; (rw [← hW]; clear hW; refine (KA.out W (Below.refl _ _)).mono ?_; rintro e w2 ⟨rfl, m, rfl⟩; have HB2 := hid (fin.out W m HW.out)))
    go_ret
    refine ⟨?_, ?_⟩
    · rw [HR.out]; exact ret_bool (by first | (simp [q3]; done) | (simp <;> intros <;> omega))
    · first | exact HB2.out | exact TR.out HW.out HB1.out | (rw [← hW]; exact HW.out)

end Go.Proofs.YtcnohgifihbkdaaGreatDoor.Lx

namespace Go.Proofs.YtcnohgifihbkdaaGreatDoor.Lx
open Go.RowKit Go.Deep
set_option linter.unusedVariables false
set_option linter.unusedSimpArgs false


set_option maxRecDepth 100000 in
set_option maxHeartbeats 4000000 in
theorem isRightE_9 (w : World) (h : EH) (d : EHr w h) (hm : MX w) (hk : h.kind = 9) : Calls Tryz.prog 127 #[.pointer (some ⟨h.b, h.o, none⟩)] w fun e w' => e = .returned (.bool (rightE h)) ∧ Below w.heap.size w w' := by
  have TR : Hid (∀ {Z x y : World}, Below Z.heap.size Z x → Below x.heap.size x y → Below Z.heap.size Z y) := hid (fun h1 h2 => h1.trans (h2.mono h1.size))
  have ha : (h.an : Int) ≤ 1000000 := by have := d.ab; omega
  have hnn : (h.nn : Int) ≤ 1000000 := by have := d.nb; omega
  have htx : (h.text.size : Int) ≤ 9223372036854775807 := by have := d.t; omega
  have cell : ∀ {p : Addr} {v : Value} (o : Obj), w.cell? p = some v → (w.alloc o).cell? p = some v := fun o hc => (((Below.refl w.heap.size w).alloc (Nat.le_refl _) o).cell (World.block_lt_of_cell? w _ hc)).trans hc
  have c0 := d.c0
  have c6 := d.c6
  have C0 := fun o => cell o d.c0
  have C1 := fun o => cell o d.c1
  have C2 := fun o => cell o d.c2
  have C3 := fun o => cell o d.c3
  have C4 := fun o => cell o d.c4
  have C5 := fun o => cell o d.c5
  have C6 := fun o => cell o d.c6
  obtain ⟨W, hW⟩ : ∃ W, W = ((w.alloc (.cells #[.int .i64 9, .int .i64 0, .int .i64 0, .string ⟨#[]⟩, .string h.name, .slice none 0 0, .slice h.aa h.an h.ac, .int .i64 0] 45)).drew : World) := ⟨_, rfl⟩
  have hb : W.heap[w.heap.size]? = some (.cells (meantE h).cs 45 (0, 0)) := by
    rw [hW]
    refine (heap_alloc_new w _).trans ?_
    simp [meantE, EH.cs, emp, hk]
  have hbw : Below w.heap.size w W := by rw [hW]; exact ((Below.refl _ w).alloc (Nat.le_refl _) _).drew
  have KA : Hid (∀ w1 : World, Below W.heap.size W w1 → Calls Tryz.prog 168 #[.pointer (some ⟨h.b, h.o, none⟩), .pointer (some ⟨w.heap.size, 0, none⟩)] w1 fun e w' => e = .returned (.bool (alikeE h (meantE h))) ∧ ∃ m, w' = w1.drewN m) := hid (fun w1 hb1 => by
    have dd := d.below (Nat.le_refl _) (hbw.trans (hb1.mono hbw.size))
    exact alikeE_any w1 h { meantE h with b := w.heap.size, o := 0 } dd (boxE dd ((hb1.block _ (Array.getElem?_eq_some_iff.1 hb).1).trans hb) (by simp [meantE, hk]) (by simp [meantE, hk]) (by simp [meantE, hk]) (by simp [meantE, hk]) rfl))
  have HW := hid hbw
  have KS : Hid (∀ w1 : World, Below w.heap.size w w1 → Calls Tryz.prog 161 #[.string h.name] w1 fun e w' => e = .returned (.bool (smallB h.name)) ∧ Below w1.heap.size w1 w') := hid (fun w1 hb1 => isSmall_any h.name d.n w1 (hm.below hm.lt hb1))
  have KG : Hid (∀ w1 : World, Below w.heap.size w w1 → Calls Tryz.prog 158 #[.string h.name] w1 fun e w' => e = .returned (.bool (greatB h.name)) ∧ Below w1.heap.size w1 w') := hid (fun w1 hb1 => isGreat_any h.name d.n w1 (hm.below hm.lt hb1))
  have KF : Hid (∀ w1 : World, Below w.heap.size w w1 → Calls Tryz.prog 167 #[.slice h.na h.nn h.nc] w1 fun e w' => e = .returned (.bool (fieldsB h.names)) ∧ Below w1.heap.size w1 w') := hid (fun w1 hb1 => areFields_any w1 h.na h.nn h.nc h.names d.nl d.nb (d.nr.below (Nat.le_refl _) hb1) d.ns (hm.below hm.lt hb1))
  have CN : Hid (∀ w1 : World, Below w.heap.size w w1 → w1.cell? ⟨h.b, h.o + 5, none⟩ = some (.slice h.na h.nn h.nc)) := hid (fun w1 hb1 => belowCell d.c5 (Nat.le_refl _) hb1)
  have HR : Hid (rightE h = ((smallB h.name && decide (h.an = 1)) && alikeE h (meantE h))) := hid (by unfold rightE okE; simp [hk])
  have fin : Hid (∀ (w1 : World) (m : Nat), Below w.heap.size w w1 → Below w.heap.size w (w1.drewN m)) := hid (fun w1 m hb => bel_drewN hb m)
  generalize alikeE h (meantE h) = al at *
  generalize rightE h = res at *
  generalize smallB h.name = sm at *
  generalize greatB h.name = gr at *
  generalize fieldsB h.names = fi at *
  clear d hm hb hbw cell
  obtain ⟨b, o, kind, op, int, text, name, na, nn, nc, aa, an, ac, pos, names⟩ := h
  simp only at c0 c6 C0 C1 C2 C3 C4 C5 C6 hW KA KS KG KF CN HR hk ha hnn htx ⊢
  subst hk
  cases sm
  case false =>
    go_enter Tryz.func127, Tryz.ntmps127
    go_wp2
    go_region_held3 (fun w2 => w2.cell? ⟨b, o, none⟩ = some (.int .i64 9) ∧ w2.cell? ⟨b, o + 6, none⟩ = some (.slice aa an ac)) (first | go_keep) (fail)
    go_wp2_with (first
      | (go_at_call 161; (rw [← hW]; clear hW; refine (KS.out W HW.out).mono ?_; rintro e w1 ⟨rfl, hb1⟩; have HB1 := hid hb1; clear hb1))
      | (go_at_call 168; (have hno := HB1; refine (KA.out w1 HB1.out).mono ?_; rintro e w2 ⟨rfl, m, rfl⟩; have HB2 := hid (fin.out w1 m (TR.out HW.out HB1.out))))
      | (go_at_call 168; (rw [← hW]; clear hW; refine (KA.out W (Below.refl _ _)).mono ?_; rintro e w2 ⟨rfl, m, rfl⟩; have HB2 := hid (fin.out W m HW.out))))
    go_ret
    refine ⟨?_, ?_⟩
    · rw [HR.out]; exact ret_bool (by simp)
    · first | exact HB2.out | exact TR.out HW.out HB1.out | (rw [← hW]; exact HW.out)
  case true =>
    by_cases q1 : an = 1
    case pos =>
      subst q1
      go_enter Tryz.func127, Tryz.ntmps127
      go_wp2
      go_region_held3 (fun w2 => w2.cell? ⟨b, o, none⟩ = some (.int .i64 9) ∧ w2.cell? ⟨b, o + 6, none⟩ = some (.slice aa 1 ac)) (first | go_keep) (fail)
      go_wp2_with (first
        | (go_at_call 161; (rw [← hW]; clear hW; refine (KS.out W HW.out).mono ?_; rintro e w1 ⟨rfl, hb1⟩; have HB1 := hid hb1; clear hb1))
        | (go_at_call 168; (have hno := HB1; refine (KA.out w1 HB1.out).mono ?_; rintro e w2 ⟨rfl, m, rfl⟩; have HB2 := hid (fin.out w1 m (TR.out HW.out HB1.out))))
        | (go_at_call 168; (rw [← hW]; clear hW; refine (KA.out W (Below.refl _ _)).mono ?_; rintro e w2 ⟨rfl, m, rfl⟩; have HB2 := hid (fin.out W m HW.out))))
      go_ret
      refine ⟨?_, ?_⟩
      · rw [HR.out]; exact ret_bool (by simp)
      · first | exact HB2.out | exact TR.out HW.out HB1.out | (rw [← hW]; exact HW.out)
    case neg =>
      have q1' : ¬ (an : Int) = 1 := by omega
      go_enter Tryz.func127, Tryz.ntmps127
      go_wp2
      go_region_held3 (fun w2 => w2.cell? ⟨b, o, none⟩ = some (.int .i64 9) ∧ w2.cell? ⟨b, o + 6, none⟩ = some (.slice aa an ac)) (first | go_keep) (fail)
      go_wp2_with (first
        | (go_at_call 161; (rw [← hW]; clear hW; refine (KS.out W HW.out).mono ?_; rintro e w1 ⟨rfl, hb1⟩; have HB1 := hid hb1; clear hb1))
        | (go_at_call 168; (have hno := HB1; refine (KA.out w1 HB1.out).mono ?_; rintro e w2 ⟨rfl, m, rfl⟩; have HB2 := hid (fin.out w1 m (TR.out HW.out HB1.out))))
        | (go_at_call 168; (rw [← hW]; clear hW; refine (KA.out W (Below.refl _ _)).mono ?_; rintro e w2 ⟨rfl, m, rfl⟩; have HB2 := hid (fin.out W m HW.out))))
      go_ret
      refine ⟨?_, ?_⟩
      · rw [HR.out]; exact ret_bool (by simp [q1])
      · first | exact HB2.out | exact TR.out HW.out HB1.out | (rw [← hW]; exact HW.out)

set_option maxRecDepth 100000 in
set_option maxHeartbeats 4000000 in
theorem isRightE_11 (w : World) (h : EH) (d : EHr w h) (hm : MX w) (hk : h.kind = 11) : Calls Tryz.prog 127 #[.pointer (some ⟨h.b, h.o, none⟩)] w fun e w' => e = .returned (.bool (rightE h)) ∧ Below w.heap.size w w' := by
  have TR : Hid (∀ {Z x y : World}, Below Z.heap.size Z x → Below x.heap.size x y → Below Z.heap.size Z y) := hid (fun h1 h2 => h1.trans (h2.mono h1.size))
  have ha : (h.an : Int) ≤ 1000000 := by have := d.ab; omega
  have hnn : (h.nn : Int) ≤ 1000000 := by have := d.nb; omega
  have htx : (h.text.size : Int) ≤ 9223372036854775807 := by have := d.t; omega
  have cell : ∀ {p : Addr} {v : Value} (o : Obj), w.cell? p = some v → (w.alloc o).cell? p = some v := fun o hc => (((Below.refl w.heap.size w).alloc (Nat.le_refl _) o).cell (World.block_lt_of_cell? w _ hc)).trans hc
  have c0 := d.c0
  have c6 := d.c6
  have C0 := fun o => cell o d.c0
  have C1 := fun o => cell o d.c1
  have C2 := fun o => cell o d.c2
  have C3 := fun o => cell o d.c3
  have C4 := fun o => cell o d.c4
  have C5 := fun o => cell o d.c5
  have C6 := fun o => cell o d.c6
  obtain ⟨W, hW⟩ : ∃ W, W = ((w.alloc (.cells #[.int .i64 11, .int .i64 0, .int .i64 0, .string ⟨#[]⟩, .string h.name, .slice none 0 0, .slice h.aa h.an h.ac, .int .i64 0] 45)).drew : World) := ⟨_, rfl⟩
  have hb : W.heap[w.heap.size]? = some (.cells (meantE h).cs 45 (0, 0)) := by
    rw [hW]
    refine (heap_alloc_new w _).trans ?_
    simp [meantE, EH.cs, emp, hk]
  have hbw : Below w.heap.size w W := by rw [hW]; exact ((Below.refl _ w).alloc (Nat.le_refl _) _).drew
  have KA : Hid (∀ w1 : World, Below W.heap.size W w1 → Calls Tryz.prog 168 #[.pointer (some ⟨h.b, h.o, none⟩), .pointer (some ⟨w.heap.size, 0, none⟩)] w1 fun e w' => e = .returned (.bool (alikeE h (meantE h))) ∧ ∃ m, w' = w1.drewN m) := hid (fun w1 hb1 => by
    have dd := d.below (Nat.le_refl _) (hbw.trans (hb1.mono hbw.size))
    exact alikeE_any w1 h { meantE h with b := w.heap.size, o := 0 } dd (boxE dd ((hb1.block _ (Array.getElem?_eq_some_iff.1 hb).1).trans hb) (by simp [meantE, hk]) (by simp [meantE, hk]) (by simp [meantE, hk]) (by simp [meantE, hk]) rfl))
  have HW := hid hbw
  have KS : Hid (∀ w1 : World, Below w.heap.size w w1 → Calls Tryz.prog 161 #[.string h.name] w1 fun e w' => e = .returned (.bool (smallB h.name)) ∧ Below w1.heap.size w1 w') := hid (fun w1 hb1 => isSmall_any h.name d.n w1 (hm.below hm.lt hb1))
  have KG : Hid (∀ w1 : World, Below w.heap.size w w1 → Calls Tryz.prog 158 #[.string h.name] w1 fun e w' => e = .returned (.bool (greatB h.name)) ∧ Below w1.heap.size w1 w') := hid (fun w1 hb1 => isGreat_any h.name d.n w1 (hm.below hm.lt hb1))
  have KF : Hid (∀ w1 : World, Below w.heap.size w w1 → Calls Tryz.prog 167 #[.slice h.na h.nn h.nc] w1 fun e w' => e = .returned (.bool (fieldsB h.names)) ∧ Below w1.heap.size w1 w') := hid (fun w1 hb1 => areFields_any w1 h.na h.nn h.nc h.names d.nl d.nb (d.nr.below (Nat.le_refl _) hb1) d.ns (hm.below hm.lt hb1))
  have CN : Hid (∀ w1 : World, Below w.heap.size w w1 → w1.cell? ⟨h.b, h.o + 5, none⟩ = some (.slice h.na h.nn h.nc)) := hid (fun w1 hb1 => belowCell d.c5 (Nat.le_refl _) hb1)
  have HR : Hid (rightE h = ((smallB h.name && decide (h.an ≤ 12)) && alikeE h (meantE h))) := hid (by unfold rightE okE; simp [hk])
  have fin : Hid (∀ (w1 : World) (m : Nat), Below w.heap.size w w1 → Below w.heap.size w (w1.drewN m)) := hid (fun w1 m hb => bel_drewN hb m)
  generalize alikeE h (meantE h) = al at *
  generalize rightE h = res at *
  generalize smallB h.name = sm at *
  generalize greatB h.name = gr at *
  generalize fieldsB h.names = fi at *
  clear d hm hb hbw cell
  obtain ⟨b, o, kind, op, int, text, name, na, nn, nc, aa, an, ac, pos, names⟩ := h
  simp only at c0 c6 C0 C1 C2 C3 C4 C5 C6 hW KA KS KG KF CN HR hk ha hnn htx ⊢
  subst hk
  cases sm
  case false =>
    go_enter Tryz.func127, Tryz.ntmps127
    go_wp2
    go_region_held3 (fun w2 => w2.cell? ⟨b, o, none⟩ = some (.int .i64 11) ∧ w2.cell? ⟨b, o + 6, none⟩ = some (.slice aa an ac)) (first | go_keep) (fail)
    go_wp2_with (first
      | (go_at_call 161; (rw [← hW]; clear hW; refine (KS.out W HW.out).mono ?_; rintro e w1 ⟨rfl, hb1⟩; have HB1 := hid hb1; clear hb1))
      | (go_at_call 168; (have hno := HB1; refine (KA.out w1 HB1.out).mono ?_; rintro e w2 ⟨rfl, m, rfl⟩; have HB2 := hid (fin.out w1 m (TR.out HW.out HB1.out))))
      | (go_at_call 168; (rw [← hW]; clear hW; refine (KA.out W (Below.refl _ _)).mono ?_; rintro e w2 ⟨rfl, m, rfl⟩; have HB2 := hid (fin.out W m HW.out))))
    go_ret
    refine ⟨?_, ?_⟩
    · rw [HR.out]; exact ret_bool (by simp)
    · first | exact HB2.out | exact TR.out HW.out HB1.out | (rw [← hW]; exact HW.out)
  case true =>
    by_cases q1 : an ≤ 12
    case pos =>
      have q1' : (an : Int) ≤ 12 := by omega
      go_enter Tryz.func127, Tryz.ntmps127
      go_wp2
      go_region_held3 (fun w2 => w2.cell? ⟨b, o, none⟩ = some (.int .i64 11) ∧ w2.cell? ⟨b, o + 6, none⟩ = some (.slice aa an ac)) (first | go_keep) (fail)
      go_wp2_with (first
        | (go_at_call 161; (rw [← hW]; clear hW; refine (KS.out W HW.out).mono ?_; rintro e w1 ⟨rfl, hb1⟩; have HB1 := hid hb1; clear hb1))
        | (go_at_call 168; (have hno := HB1; refine (KA.out w1 HB1.out).mono ?_; rintro e w2 ⟨rfl, m, rfl⟩; have HB2 := hid (fin.out w1 m (TR.out HW.out HB1.out))))
        | (go_at_call 168; (rw [← hW]; clear hW; refine (KA.out W (Below.refl _ _)).mono ?_; rintro e w2 ⟨rfl, m, rfl⟩; have HB2 := hid (fin.out W m HW.out))))
      go_ret
      refine ⟨?_, ?_⟩
      · rw [HR.out]; exact ret_bool (by simp [q1])
      · first | exact HB2.out | exact TR.out HW.out HB1.out | (rw [← hW]; exact HW.out)
    case neg =>
      have q1' : ¬ (an : Int) ≤ 12 := by omega
      go_enter Tryz.func127, Tryz.ntmps127
      go_wp2
      go_region_held3 (fun w2 => w2.cell? ⟨b, o, none⟩ = some (.int .i64 11) ∧ w2.cell? ⟨b, o + 6, none⟩ = some (.slice aa an ac)) (first | go_keep) (fail)
      go_wp2_with (first
        | (go_at_call 161; (rw [← hW]; clear hW; refine (KS.out W HW.out).mono ?_; rintro e w1 ⟨rfl, hb1⟩; have HB1 := hid hb1; clear hb1))
        | (go_at_call 168; (have hno := HB1; refine (KA.out w1 HB1.out).mono ?_; rintro e w2 ⟨rfl, m, rfl⟩; have HB2 := hid (fin.out w1 m (TR.out HW.out HB1.out))))
        | (go_at_call 168; (rw [← hW]; clear hW; refine (KA.out W (Below.refl _ _)).mono ?_; rintro e w2 ⟨rfl, m, rfl⟩; have HB2 := hid (fin.out W m HW.out))))
      go_ret
      refine ⟨?_, ?_⟩
      · rw [HR.out]; exact ret_bool (by simp [q1])
      · first | exact HB2.out | exact TR.out HW.out HB1.out | (rw [← hW]; exact HW.out)

end Go.Proofs.YtcnohgifihbkdaaGreatDoor.Lx

