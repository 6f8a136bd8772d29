/- Rows of names. -/
import Derived.Test.YtnmbifoinponeaaGreatDoorQ
namespace Go.Proofs.YtnmbifoinponeaaGreatDoor
open Go.RowKit Go.Deep Go.Shelf
set_option linter.unusedVariables false
set_option linter.unusedSimpArgs false

/- Texts that a slice reads. -/
def SRd (w : World) (a : Option Addr) (ss : List ByteArray) : Prop := ∀ (j : Nat) (s : ByteArray), ss[j]? = some s → s.size ≤ 9223372036854775807 ∧ ∃ b off, a = some ⟨b, off, none⟩ ∧ w.cell? ⟨b, off + j, none⟩ = some (.string s)
theorem SRd.below {w w' : World} {a : Option Addr} {ss : List ByteArray} {B : Nat} (h : SRd w a ss) (hB : w.heap.size ≤ B) (k : Below B w w') : SRd w' a ss := by
  intro j s e
  obtain ⟨hz, b, off, rfl, hc⟩ := h j s e
  exact ⟨hz, b, off, rfl, (k.cell (p := ⟨b, off + j, none⟩) (Nat.lt_of_lt_of_le (World.block_lt_of_cell? w _ hc) hB)).trans hc⟩
def okAt (f : Int → Bool) (ss : List ByteArray) (i : Nat) : Bool := match ss[i]? with
  | some s => nameB s && f (s.data.toList.getD 0 0).toNat && !(Lib.containsS (ss.take i) s)
  | none => true
def namesB (f : Int → Bool) (ss : List ByteArray) : Bool := (List.range ss.length).all (okAt f ss)
theorem okAt_some {f : Int → Bool} {ss : List ByteArray} {i : Nat} {s : ByteArray} (e : ss[i]? = some s) : okAt f ss i = (nameB s && f (s.data.toList.getD 0 0).toNat && !(Lib.containsS (ss.take i) s)) := by
  unfold okAt; rw [e]
theorem namesB_no {f : Int → Bool} {ss : List ByteArray} {i : Nat} (hi : i < ss.length) (h : okAt f ss i = false) : namesB f ss = false := by
  unfold namesB; rw [List.all_eq_false]
  exact ⟨i, List.mem_range.2 hi, by simp [h]⟩
theorem namesB_yes {f : Int → Bool} {ss : List ByteArray} (h : ∀ j, j < ss.length → okAt f ss j = true) : namesB f ss = true := by
  unfold namesB; rw [List.all_eq_true]
  exact fun j hj => h j (List.mem_range.1 hj)
theorem acc_snoc {p : Nat → Bool} {i : Nat} (h : ∀ j, j < i → p j = true) (hi : p i = true) : ∀ j, j < i + 1 → p j = true := fun j hj => by
  rcases Nat.lt_or_ge j i with h1 | h1
  · exact h j h1
  · obtain rfl : j = i := by omega
    exact hi
theorem nameB_size {s : ByteArray} (h : nameB s = true) : 1 ≤ s.size := by
  unfold nameB at h
  simp only [Bool.and_eq_true, decide_eq_true_eq] at h
  exact h.1.1
theorem srd_getD {w : World} {b off : Nat} {ss : List ByteArray} (h : SRd w (some ⟨b, off, none⟩) ss) : ∀ j, j < ss.length → w.cell? ⟨b, off + j, none⟩ = some (.string (ss.getD j ByteArray.empty)) := fun j hj => by
  obtain ⟨_, b', off', e, hc⟩ := h j ss[j] (List.getElem?_eq_getElem hj)
  cases e
  rw [hc, List.getD_eq_getElem?_getD, List.getElem?_eq_getElem hj]; rfl
theorem fb (s : ByteArray) (h : 0 < s.size) : ((s[0]'h).toNat : Int) = ((s.data.toList.getD 0 0).toNat : Int) := by
  have h' : 0 < s.data.toList.length := by rw [Array.length_toList]; exact h
  have e : s.data.toList.getD 0 0 = s[0]'h := by
    rw [List.getD_eq_getElem?_getD, List.getElem?_eq_getElem h', Option.getD_some, Array.getElem_toList]
    rfl
  rw [e]

set_option maxRecDepth 10000 in
set_option maxHeartbeats 1000000 in
theorem rightNames_42 (w : World) (a : Option Addr) (n cap : Nat) (ss : List ByteArray) (hn : n = ss.length) (hn2 : n ≤ 9223372036854775807) (hcap : n ≤ cap) (hr : SRd w a ss) :
    Calls Tryz.prog 46 #[.slice a n cap, .func (.func 49) #[] #[]] w fun e w' => e = .returned (.bool (namesB smB ss)) ∧ Below w.heap.size w w' := by
  have Hn := hid hn
  have Hr := hid hr
  clear hn hr
  obtain ⟨res, hres⟩ : ∃ res, res = namesB smB ss := ⟨_, rfl⟩
  rw [← hres]
  have Hres := hid hres
  clear hres
  go_enter Tryz.func46, Tryz.ntmps46
  go_wp2
  go_loopg [9] n (fun g ii wr => ∃ i : Nat, i + g = n ∧ ii = .int .i64 (i : Int) ∧ Below w.heap.size w wr ∧ ∀ j, j < i → okAt smB ss j = true)
  case atStart => exact ⟨0, by omega, rfl, Below.refl _ _, fun j hj => by omega⟩
  case round =>
    obtain ⟨i, hi, rfl, hbe, hAc⟩ := hrel
    have HAc := hid hAc
    have Hi := hid hi
    have Hbe := hid hbe
    clear hAc hbe
    cases gk with
    | zero =>
      have hin : i = n := by omega
      clear hi
      subst hin
      go_wp2
      go_ret
      exact ⟨by rw [Hres.out, namesB_yes (by rw [← Hn.out]; exact HAc.out)]; rfl, Hbe.out⟩
    | succ g =>
      have hlt : i < n := by omega
      clear hi
      obtain ⟨s, hs⟩ : ∃ s, ss[i]? = some s := ⟨ss[i]'(by rw [← Hn.out]; exact hlt), by rw [List.getElem?_eq_getElem]⟩
      obtain ⟨hz, b, off, rfl, hc⟩ := (Hr.out.below (Nat.le_refl _) Hbe.out) i s hs
      have hc1 : wr.cell? ⟨b, off + i, none⟩ = some (.string s) := hc
      have Hok := hid (okAt_some (f := smB) hs)
      have Hz := hid hz
      have K1 := hid (fun w => isName_any w s hz)
      clear hc hs hz
      have hicap : ((i : Int) ≤ (cap : Int)) := by omega
      cases q1 : nameB s with
      | false =>
        rw [q1] at K1
        go_wp2_with (go_at_call 64; (refine (Hid.out K1 _).mono ?_; rintro e w2 ⟨rfl, hb2⟩))
        go_ret
        exact ⟨by rw [Hres.out, namesB_no (i := i) (by rw [← Hn.out]; exact hlt) (by rw [Hok.out, q1]; rfl)]; rfl, Hbe.out.trans (hb2.mono Hbe.out.size)⟩
      | true =>
        rw [q1] at K1
        have hs1 := nameB_size q1
        have hs1' : (0 : Int) < (s.size : Int) := by omega
        obtain ⟨c, hcc⟩ : ∃ c : Int, c = (s.data.toList.getD 0 0).toNat := ⟨_, rfl⟩
        have Hcc := hid hcc
        have K2 : Hid (∀ (w : World) (x : Int), x = c → Calls Tryz.prog 49 #[.int .u8 x] w fun e w' => e = .returned (.bool (smB c)) ∧ w' = w) := hid (fun w x hx => by rw [hx]; exact isSmall_any w c)
        clear hcc
        cases q2 : smB c with
        | false =>
          rw [q2] at K2
          go_wp2_with (first
            | (go_at_call 64; (refine (Hid.out K1 _).mono ?_; rintro e w2 ⟨rfl, hb2⟩))
            | (go_at_call 49; (refine (Hid.out K2 _ _ (by rw [Hcc.out]; exact fb _ _)).mono ?_; rintro e w3 ⟨rfl, rfl⟩)))
          go_ret
          exact ⟨by rw [Hres.out, namesB_no (i := i) (by rw [← Hn.out]; exact hlt) (by rw [Hok.out, q1, ← Hcc.out, q2]; rfl)]; rfl, Hbe.out.trans (hb2.mono Hbe.out.size)⟩
        | true =>
          rw [q2] at K2
          have K3 : Hid (∀ w2 : World, Below wr.heap.size wr w2 → Calls Tryz.prog 65 #[.slice (some ⟨b, off, none⟩) i cap, .string s] w2 fun e w' => e = .returned (.bool (Lib.containsS (ss.take i) s)) ∧ w' = w2) := hid (fun w2 hb => Tryz.slices_Contains_string b off i cap ss s w2 (by rw [← Hn.out]; omega) (by omega) (srd_getD (Hr.out.below (Nat.le_refl _) (Hbe.out.trans (hb.mono Hbe.out.size)))))
          cases q3 : Lib.containsS (ss.take i) s with
          | true =>
            rw [q3] at K3
            go_wp2_with (first
              | (go_at_call 64; (refine (Hid.out K1 _).mono ?_; rintro e w2 ⟨rfl, hb2⟩))
              | (go_at_call 49; (refine (Hid.out K2 _ _ (by rw [Hcc.out]; exact fb _ _)).mono ?_; rintro e w3 ⟨rfl, rfl⟩))
              | (go_at_call 65; (refine (Hid.out K3 _ hb2).mono ?_; rintro e w4 ⟨rfl, rfl⟩)))
            go_ret
            exact ⟨by rw [Hres.out, namesB_no (i := i) (by rw [← Hn.out]; exact hlt) (by rw [Hok.out, q1, ← Hcc.out, q2, q3]; rfl)]; rfl, Hbe.out.trans (hb2.mono Hbe.out.size)⟩
          | false =>
            rw [q3] at K3
            go_wp2_with (first
              | (go_at_call 64; (refine (Hid.out K1 _).mono ?_; rintro e w2 ⟨rfl, hb2⟩))
              | (go_at_call 49; (refine (Hid.out K2 _ _ (by rw [Hcc.out]; exact fb _ _)).mono ?_; rintro e w3 ⟨rfl, rfl⟩))
              | (go_at_call 65; (refine (Hid.out K3 _ hb2).mono ?_; rintro e w4 ⟨rfl, rfl⟩)))
            go_roundg g
            case measure => omega
            case rel => exact ⟨i + 1, by have := Hi.out; omega, by go_num, Hbe.out.trans (hb2.mono Hbe.out.size), acc_snoc HAc.out (by rw [Hok.out, q1, ← Hcc.out, q2, q3]; rfl)⟩

set_option maxRecDepth 10000 in
set_option maxHeartbeats 1000000 in
theorem rightNames_40 (w : World) (a : Option Addr) (n cap : Nat) (ss : List ByteArray) (hn : n = ss.length) (hn2 : n ≤ 9223372036854775807) (hcap : n ≤ cap) (hr : SRd w a ss) :
    Calls Tryz.prog 46 #[.slice a n cap, .func (.func 47) #[] #[]] w fun e w' => e = .returned (.bool (namesB grB ss)) ∧ Below w.heap.size w w' := by
  have Hn := hid hn
  have Hr := hid hr
  clear hn hr
  obtain ⟨res, hres⟩ : ∃ res, res = namesB grB ss := ⟨_, rfl⟩
  rw [← hres]
  have Hres := hid hres
  clear hres
  go_enter Tryz.func46, Tryz.ntmps46
  go_wp2
  go_loopg [9] n (fun g ii wr => ∃ i : Nat, i + g = n ∧ ii = .int .i64 (i : Int) ∧ Below w.heap.size w wr ∧ ∀ j, j < i → okAt grB ss j = true)
  case atStart => exact ⟨0, by omega, rfl, Below.refl _ _, fun j hj => by omega⟩
  case round =>
    obtain ⟨i, hi, rfl, hbe, hAc⟩ := hrel
    have HAc := hid hAc
    have Hi := hid hi
    have Hbe := hid hbe
    clear hAc hbe
    cases gk with
    | zero =>
      have hin : i = n := by omega
      clear hi
      subst hin
      go_wp2
      go_ret
      exact ⟨by rw [Hres.out, namesB_yes (by rw [← Hn.out]; exact HAc.out)]; rfl, Hbe.out⟩
    | succ g =>
      have hlt : i < n := by omega
      clear hi
      obtain ⟨s, hs⟩ : ∃ s, ss[i]? = some s := ⟨ss[i]'(by rw [← Hn.out]; exact hlt), by rw [List.getElem?_eq_getElem]⟩
      obtain ⟨hz, b, off, rfl, hc⟩ := (Hr.out.below (Nat.le_refl _) Hbe.out) i s hs
      have hc1 : wr.cell? ⟨b, off + i, none⟩ = some (.string s) := hc
      have Hok := hid (okAt_some (f := grB) hs)
      have Hz := hid hz
      have K1 := hid (fun w => isName_any w s hz)
      clear hc hs hz
      have hicap : ((i : Int) ≤ (cap : Int)) := by omega
      cases q1 : nameB s with
      | false =>
        rw [q1] at K1
        go_wp2_with (go_at_call 64; (refine (Hid.out K1 _).mono ?_; rintro e w2 ⟨rfl, hb2⟩))
        go_ret
        exact ⟨by rw [Hres.out, namesB_no (i := i) (by rw [← Hn.out]; exact hlt) (by rw [Hok.out, q1]; rfl)]; rfl, Hbe.out.trans (hb2.mono Hbe.out.size)⟩
      | true =>
        rw [q1] at K1
        have hs1 := nameB_size q1
        have hs1' : (0 : Int) < (s.size : Int) := by omega
        obtain ⟨c, hcc⟩ : ∃ c : Int, c = (s.data.toList.getD 0 0).toNat := ⟨_, rfl⟩
        have Hcc := hid hcc
        have K2 : Hid (∀ (w : World) (x : Int), x = c → Calls Tryz.prog 47 #[.int .u8 x] w fun e w' => e = .returned (.bool (grB c)) ∧ w' = w) := hid (fun w x hx => by rw [hx]; exact isGreat_any w c)
        clear hcc
        cases q2 : grB c with
        | false =>
          rw [q2] at K2
          go_wp2_with (first
            | (go_at_call 64; (refine (Hid.out K1 _).mono ?_; rintro e w2 ⟨rfl, hb2⟩))
            | (go_at_call 47; (refine (Hid.out K2 _ _ (by rw [Hcc.out]; exact fb _ _)).mono ?_; rintro e w3 ⟨rfl, rfl⟩)))
          go_ret
          exact ⟨by rw [Hres.out, namesB_no (i := i) (by rw [← Hn.out]; exact hlt) (by rw [Hok.out, q1, ← Hcc.out, q2]; rfl)]; rfl, Hbe.out.trans (hb2.mono Hbe.out.size)⟩
        | true =>
          rw [q2] at K2
          have K3 : Hid (∀ w2 : World, Below wr.heap.size wr w2 → Calls Tryz.prog 65 #[.slice (some ⟨b, off, none⟩) i cap, .string s] w2 fun e w' => e = .returned (.bool (Lib.containsS (ss.take i) s)) ∧ w' = w2) := hid (fun w2 hb => Tryz.slices_Contains_string b off i cap ss s w2 (by rw [← Hn.out]; omega) (by omega) (srd_getD (Hr.out.below (Nat.le_refl _) (Hbe.out.trans (hb.mono Hbe.out.size)))))
          cases q3 : Lib.containsS (ss.take i) s with
          | true =>
            rw [q3] at K3
            go_wp2_with (first
              | (go_at_call 64; (refine (Hid.out K1 _).mono ?_; rintro e w2 ⟨rfl, hb2⟩))
              | (go_at_call 47; (refine (Hid.out K2 _ _ (by rw [Hcc.out]; exact fb _ _)).mono ?_; rintro e w3 ⟨rfl, rfl⟩))
              | (go_at_call 65; (refine (Hid.out K3 _ hb2).mono ?_; rintro e w4 ⟨rfl, rfl⟩)))
            go_ret
            exact ⟨by rw [Hres.out, namesB_no (i := i) (by rw [← Hn.out]; exact hlt) (by rw [Hok.out, q1, ← Hcc.out, q2, q3]; rfl)]; rfl, Hbe.out.trans (hb2.mono Hbe.out.size)⟩
          | false =>
            rw [q3] at K3
            go_wp2_with (first
              | (go_at_call 64; (refine (Hid.out K1 _).mono ?_; rintro e w2 ⟨rfl, hb2⟩))
              | (go_at_call 47; (refine (Hid.out K2 _ _ (by rw [Hcc.out]; exact fb _ _)).mono ?_; rintro e w3 ⟨rfl, rfl⟩))
              | (go_at_call 65; (refine (Hid.out K3 _ hb2).mono ?_; rintro e w4 ⟨rfl, rfl⟩)))
            go_roundg g
            case measure => omega
            case rel => exact ⟨i + 1, by have := Hi.out; omega, by go_num, Hbe.out.trans (hb2.mono Hbe.out.size), acc_snoc HAc.out (by rw [Hok.out, q1, ← Hcc.out, q2, q3]; rfl)⟩
end Go.Proofs.YtnmbifoinponeaaGreatDoor
