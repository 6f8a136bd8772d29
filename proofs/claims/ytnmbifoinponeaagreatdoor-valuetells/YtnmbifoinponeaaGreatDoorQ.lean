/- Names. -/
import Derived.Test.YtnmbifoinponeaaGreatDoorA
import Derived.Test.YtnmbifoinponeaaGreatDoorShelf
import Derived.Lib.AtoiErrMem
namespace Go.Proofs.YtnmbifoinponeaaGreatDoor
open Go.RowKit Go.Deep Go.Shelf
set_option linter.unusedVariables false
set_option linter.unusedSimpArgs false

def smB (c : Int) : Bool := (decide (97 ≤ c) && decide (c ≤ 122)) || decide (c = 95)
def grB (c : Int) : Bool := decide (65 ≤ c) && decide (c ≤ 90)
def nmB (c : Int) : Bool := smB c || grB c || (decide (48 ≤ c) && decide (c ≤ 57))
def nameB (s : ByteArray) : Bool := decide (1 ≤ s.size) && decide (s.size ≤ 20) && s.data.toList.all fun c => nmB c.toNat

set_option maxHeartbeats 400000 in
theorem isSmall_any (w : World) (c : Int) : Calls Tryz.prog 49 #[.int .u8 c] w fun e w' => e = .returned (.bool (smB c)) ∧ w' = w := by
  rcases Int.lt_or_le c 97 with h1 | h1
  · have h1' : ¬ (97 ≤ c) := by omega
    by_cases h3 : c = 95
    · subst h3
      go_enter Tryz.func49, Tryz.ntmps49
      go_wp2
      go_ret
      exact ⟨by simp [smB], rfl⟩
    · have h3' : (c == 95) = false := by simpa using h3
      go_enter Tryz.func49, Tryz.ntmps49
      go_wp2
      go_ret
      exact ⟨by simp [smB, h3]; omega, rfl⟩
  · rcases Int.lt_or_le 122 c with h2 | h2
    · have h2' : ¬ (c ≤ 122) := by omega
      have h3 : ¬ c = 95 := by omega
      have h3' : (c == 95) = false := by simpa using h3
      go_enter Tryz.func49, Tryz.ntmps49
      go_wp2
      go_ret
      exact ⟨by simp [smB, h2', h3], rfl⟩
    · go_enter Tryz.func49, Tryz.ntmps49
      go_wp2
      go_ret
      exact ⟨by simp [smB, h1, h2], rfl⟩
set_option maxHeartbeats 400000 in
theorem isGreat_any (w : World) (c : Int) : Calls Tryz.prog 47 #[.int .u8 c] w fun e w' => e = .returned (.bool (grB c)) ∧ w' = w := by
  rcases Int.lt_or_le c 65 with h1 | h1
  · have h1' : ¬ (65 ≤ c) := by omega
    go_enter Tryz.func47, Tryz.ntmps47
    go_wp2
    go_ret
    exact ⟨by simp [grB]; omega, rfl⟩
  · rcases Int.lt_or_le 90 c with h2 | h2
    · have h2' : ¬ (c ≤ 90) := by omega
      go_enter Tryz.func47, Tryz.ntmps47
      go_wp2
      go_ret
      exact ⟨by simp [grB, h2'], rfl⟩
    · go_enter Tryz.func47, Tryz.ntmps47
      go_wp2
      go_ret
      exact ⟨by simp [grB, h1, h2], rfl⟩

theorem all_take_snoc {p : UInt8 → Bool} {l : List UInt8} {i : Nat} {c : UInt8} (h : (l.take i).all p = true) (e : l[i]? = some c) (hc : p c = true) : (l.take (i + 1)).all p = true := by
  rw [List.take_add_one, e]; simp [h, hc]
theorem all_not {p : UInt8 → Bool} {l : List UInt8} {i : Nat} {c : UInt8} (e : l[i]? = some c) (hc : p c = false) : l.all p = false := by
  rw [List.all_eq_false]
  exact ⟨c, List.mem_of_getElem? e, by simp [hc]⟩

set_option maxRecDepth 10000 in
set_option maxHeartbeats 1000000 in
theorem isName_any (w : World) (s : ByteArray) (hs : s.size ≤ 9223372036854775807) : Calls Tryz.prog 64 #[.string s] w fun e w' => e = .returned (.bool (nameB s)) ∧ Below w.heap.size w w' := by
  rcases Nat.lt_or_ge s.size 1 with h1 | h1
  · have h1' : ¬ (1 ≤ s.size) := by omega
    have hn : nameB s = false := by simp [nameB, h1']
    rw [hn]
    go_enter Tryz.func64, Tryz.ntmps64
    go_wp2
    go_ret
    exact ⟨rfl, Below.refl _ _⟩
  · rcases Nat.lt_or_ge 20 s.size with h2 | h2
    · have h2' : ¬ (s.size ≤ 20) := by omega
      have hn : nameB s = false := by simp [nameB, h2']
      rw [hn]
      go_enter Tryz.func64, Tryz.ntmps64
      go_wp2
      go_ret
      exact ⟨rfl, Below.refl _ _⟩
    · have hn : nameB s = s.data.toList.all fun c => nmB c.toNat := by simp [nameB, h1, h2]
      rw [hn]
      obtain ⟨C, WW, hconv, hcell, hbw⟩ : ∃ (C : Nat) (WW : World), (convert 9 66 (.string s)).run Tryz.prog w = .ok (.slice (some ⟨w.heap.size, 0, none⟩) s.size C) WW ∧ (∀ j, j < s.size → WW.cell? ⟨w.heap.size, j, none⟩ = some (.int .u8 (s.data.toList.getD j 0).toNat)) ∧ Below w.heap.size w WW :=
        ⟨_, _, Lib.run_convert_string_bytes (P := Tryz.prog) w 9 66 5 s Tryz.underlying9 Tryz.underlying66 Tryz.underlying5, fun j hj => Lib.bytesWorld_cell w 5 s j hj, Lib.bytesWorld_below _ _ _⟩
      have Hs : Hid (s.data.toList.length = s.size) := hid Array.length_toList
      have Hcell := hid hcell
      clear hcell hn
      go_enter Tryz.func64, Tryz.ntmps64
      go_wp2
      go_loopg [16] s.size (fun g ii wr => ∃ i : Nat, i + g = s.size ∧ ii = .int .i64 (i : Int) ∧ wr = WW ∧ (s.data.toList.take i).all (fun c => nmB c.toNat) = true)
      case atStart => exact ⟨0, by omega, rfl, rfl, rfl⟩
      case round =>
        obtain ⟨i, hi, rfl, rfl, hAc⟩ := hrel
        have HAc := hid hAc
        have Hi := hid hi
        clear hAc
        cases gk with
        | zero =>
          have hin : i = s.size := by omega
          clear hi
          subst hin
          go_wp2
          go_ret
          have := HAc.out
          rw [← Hs.out, List.take_length] at this
          exact ⟨by rw [this]; rfl, hbw⟩
        | succ g =>
          have hlt : i < s.size := by omega
          clear hi
          obtain ⟨c, hc⟩ : ∃ c, s.data.toList[i]? = some c := ⟨s.data.toList[i]'(by rw [Hs.out]; omega), by rw [List.getElem?_eq_getElem]⟩
          have xc := Hcell.out i hlt
          rw [List.getD_eq_getElem?_getD, hc, Option.getD_some] at xc
          have Hc := hid hc
          clear hc
          have K1 := hid (fun w => isSmall_any w c.toNat)
          have K2 := hid (fun w => isGreat_any w c.toNat)
          cases q1 : smB c.toNat with
          | true =>
            rw [q1] at K1
            go_wp2_with (go_at_call 49; (refine (Hid.out K1 _).mono ?_; rintro e w2 ⟨rfl, rfl⟩))
            go_roundg g
            case measure => omega
            case rel => exact ⟨i + 1, by have := Hi.out; omega, by go_num, rfl, all_take_snoc HAc.out Hc.out (by simp [nmB, q1])⟩
          | false =>
            rw [q1] at K1
            cases q2 : grB c.toNat with
            | true =>
              rw [q2] at K2
              go_wp2_with (first
                | (go_at_call 49; (refine (Hid.out K1 _).mono ?_; rintro e w2 ⟨rfl, rfl⟩))
                | (go_at_call 47; (refine (Hid.out K2 _).mono ?_; rintro e w2 ⟨rfl, rfl⟩)))
              go_roundg g
              case measure => omega
              case rel => exact ⟨i + 1, by have := Hi.out; omega, by go_num, rfl, all_take_snoc HAc.out Hc.out (by simp [nmB, q2])⟩
            | false =>
              rw [q2] at K2
              rcases Int.lt_or_le (c.toNat : Int) 48 with d1 | d1
              · have d1' : ¬ ((48 : Int) ≤ (c.toNat : Int)) := by omega
                have hno := all_not (p := fun c => nmB c.toNat) Hc.out (by simp [nmB, q1, q2]; omega)
                go_wp2_with (first
                  | (go_at_call 49; (refine (Hid.out K1 _).mono ?_; rintro e w2 ⟨rfl, rfl⟩))
                  | (go_at_call 47; (refine (Hid.out K2 _).mono ?_; rintro e w2 ⟨rfl, rfl⟩)))
                go_ret
                exact ⟨by rw [hno]; rfl, hbw⟩
              · rcases Int.lt_or_le 57 (c.toNat : Int) with d2 | d2
                · have hno := all_not (p := fun c => nmB c.toNat) Hc.out (by simp [nmB, q1, q2]; omega)
                  go_wp2_with (first
                    | (go_at_call 49; (refine (Hid.out K1 _).mono ?_; rintro e w2 ⟨rfl, rfl⟩))
                    | (go_at_call 47; (refine (Hid.out K2 _).mono ?_; rintro e w2 ⟨rfl, rfl⟩)))
                  go_ret
                  exact ⟨by rw [hno]; rfl, hbw⟩
                · go_wp2_with (first
                    | (go_at_call 49; (refine (Hid.out K1 _).mono ?_; rintro e w2 ⟨rfl, rfl⟩))
                    | (go_at_call 47; (refine (Hid.out K2 _).mono ?_; rintro e w2 ⟨rfl, rfl⟩)))
                  go_roundg g
                  case measure => omega
                  case rel => exact ⟨i + 1, by have := Hi.out; omega, by go_num, rfl, all_take_snoc HAc.out Hc.out (by simp [nmB]; omega)⟩
end Go.Proofs.YtnmbifoinponeaaGreatDoor
