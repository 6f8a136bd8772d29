/- The document's side: signs; names; rows held against each other. -/
import Derived.Test.YtebhmalegdpibaaDoorL2
namespace Go.Proofs.YtebhmalegdpibaaDoor
open Go.RowKit Go.Deep
set_option linter.unusedVariables false
set_option linter.unusedSimpArgs false

theorem slice_mid (X : ByteArray) (a b : Nat) (h1 : a ≤ b) (h2 : b ≤ X.size) (W : World) : (Instr.slice 9 (.string X) (some (.int .i64 (a : Int))) (some (.int .i64 (b : Int))) none).run Tryd.prog W = .ok (.string (X.extract a b)) W := by
  have : (b : Int) ≤ (X.size : Int) := by omega
  have : (a : Int) ≤ (b : Int) := by omega
  go_simp
theorem eight_cells (w : World) (i : Nat) (p : Bs) (hp : sg2L[i]? = some p) : (w.alloc (.cells #[.string ⟨#[61, 61]⟩, .string ⟨#[33, 61]⟩, .string ⟨#[60, 61]⟩, .string ⟨#[62, 61]⟩, .string ⟨#[43, 37]⟩, .string ⟨#[45, 37]⟩, .string ⟨#[42, 37]⟩, .string ⟨#[45, 62]⟩] 59)).cell? ⟨w.heap.size, i, none⟩ = some (.string (ofB p)) := by
  rw [cellOf (heap_alloc_new w _) i]
  match i, hp with
  | 0, hp => cases hp; rfl
  | 1, hp => cases hp; rfl
  | 2, hp => cases hp; rfl
  | 3, hp => cases hp; rfl
  | 4, hp => cases hp; rfl
  | 5, hp => cases hp; rfl
  | 6, hp => cases hp; rfl
  | 7, hp => cases hp; rfl
  | n + 8, hp => simp [sg2L] at hp
def sgT (l : Bs) : Bs := l.take (signF l)
theorem sg1_iff (a : UInt8) : sg1 a = true ↔ a ∈ sg1s := by unfold sg1; rw [List.contains_iff_mem]
theorem sg1_not {c : UInt8} (h : ¬ sg1 c = true) (k : UInt8) (hk : sg1 k = true) : ((c.toNat : Int) == (k.toNat : Int)) = false := by
  rw [beq_eq_false_iff_ne]
  intro e
  exact h (by rw [UInt8.toNat_inj.1 (show c.toNat = k.toNat by omega)]; exact hk)
theorem sgT_one (c : UInt8) : sgT [c] = if sg1 c then [c] else [] := by
  have e : signF [c] = if sg1 c then 1 else 0 := rfl
  unfold sgT
  rw [e]
  cases sg1 c <;> rfl
theorem sgT_miss (a : UInt8) (t : Bs) (h : ∀ p ∈ sg2L, p.isPrefixOf (a :: t) = false) : sgT (a :: t) = if sg1 a then [a] else [] := by
  unfold sgT
  rw [sign_miss a t h]
  cases sg1 a <;> rfl
theorem ext_one (s : ByteArray) (pos : Nat) (c : UInt8) (t : Bs) (hl : s.data.toList.drop pos = c :: t) : s.extract pos (pos + 1) = ofB [c] := by
  refine eq_ofB ?_
  rw [extract_toList, List.drop_take, hl, show pos + 1 - pos = 1 by omega]
  rfl
theorem ext_two (s : ByteArray) (pos : Nat) (c d : UInt8) (t : Bs) (hl : s.data.toList.drop pos = c :: d :: t) : s.extract pos (pos + 2) = ofB [c, d] := by
  refine eq_ofB ?_
  rw [extract_toList, List.drop_take, hl, show pos + 2 - pos = 2 by omega]
  rfl
set_option maxRecDepth 100000 in
set_option maxHeartbeats 1000000 in
theorem refSignA (s : ByteArray) (pos : Nat) (c : UInt8) (hs : s.size ≤ 4096) (hp : pos + 1 = s.size) (hl : s.data.toList.drop pos = [c]) (w : World) : Calls Tryd.prog 28 #[.string s, .int .i64 (pos : Int)] w fun e w' => e = .returned (.string (ofB (sgT [c]))) ∧ Below w.heap.size w w' := by
  have hp0 : (pos : Int) < (s.size : Int) := by omega
  have hp1 : ¬ (pos : Int) + 1 < (s.size : Int) := by omega
  have hx := ext_one s pos c [] hl
  rw [hp] at hx
  have hpp : pos < s.size := by omega
  obtain ⟨c', hc, _, hdr⟩ := at_list s pos hpp
  rw [hl] at hdr
  obtain ⟨rfl, _⟩ := List.cons.inj hdr
  clear hdr
  by_cases hsg : sg1 c = true
  · rw [sgT_one, if_pos hsg]
    obtain ⟨Y, hY⟩ : ∃ Y, Y = ofB [c] := ⟨_, rfl⟩
    rw [← hY] at hx ⊢
    clear hY hl
    rw [sg1_iff] at hsg
    simp only [sg1s, List.mem_cons, List.mem_nil_iff, or_false] at hsg
    rcases hsg with rfl | rfl | rfl | rfl | rfl | rfl | rfl | rfl | rfl | rfl | rfl | rfl | rfl | rfl | rfl | rfl | rfl | rfl | rfl <;>
      (go_enter Tryd.func28, Tryd.ntmps28
       go_wp2
       go_ret
       exact ⟨rfl, Below.refl _ _⟩)
  · rw [sgT_one, if_neg hsg]
    have hn := sg1_not hsg
    have n1 : ((c.toNat : Int) == 123) = false := hn 123 (by decide)
    have n2 : ((c.toNat : Int) == 125) = false := hn 125 (by decide)
    have n3 : ((c.toNat : Int) == 40) = false := hn 40 (by decide)
    have n4 : ((c.toNat : Int) == 41) = false := hn 41 (by decide)
    have n5 : ((c.toNat : Int) == 91) = false := hn 91 (by decide)
    have n6 : ((c.toNat : Int) == 93) = false := hn 93 (by decide)
    have n7 : ((c.toNat : Int) == 44) = false := hn 44 (by decide)
    have n8 : ((c.toNat : Int) == 59) = false := hn 59 (by decide)
    have n9 : ((c.toNat : Int) == 58) = false := hn 58 (by decide)
    have n10 : ((c.toNat : Int) == 46) = false := hn 46 (by decide)
    have n11 : ((c.toNat : Int) == 61) = false := hn 61 (by decide)
    have n12 : ((c.toNat : Int) == 60) = false := hn 60 (by decide)
    have n13 : ((c.toNat : Int) == 62) = false := hn 62 (by decide)
    have n14 : ((c.toNat : Int) == 43) = false := hn 43 (by decide)
    have n15 : ((c.toNat : Int) == 45) = false := hn 45 (by decide)
    have n16 : ((c.toNat : Int) == 42) = false := hn 42 (by decide)
    have n17 : ((c.toNat : Int) == 47) = false := hn 47 (by decide)
    have n18 : ((c.toNat : Int) == 37) = false := hn 37 (by decide)
    have n19 : ((c.toNat : Int) == 38) = false := hn 38 (by decide)
    clear hn hsg hl hx
    go_enter Tryd.func28, Tryd.ntmps28
    go_wp2
    go_ret
    exact ⟨rfl, Below.refl _ _⟩
set_option maxRecDepth 100000 in
set_option maxHeartbeats 2000000 in
theorem refSignB (s : ByteArray) (pos : Nat) (c d : UInt8) (t : Bs) (hs : s.size ≤ 4096) (hp : pos + 1 < s.size) (hl : s.data.toList.drop pos = c :: d :: t) (w : World) : Calls Tryd.prog 28 #[.string s, .int .i64 (pos : Int)] w fun e w' => e = .returned (.string (ofB (sgT (c :: d :: t)))) ∧ Below w.heap.size w w' := by
  have hp0 : (pos : Int) < (s.size : Int) := by omega
  have hp1 : (pos : Int) + 1 < (s.size : Int) := by omega
  have hp2 : ¬ (s.size : Int) < (pos : Int) + 2 := by omega
  have hx1 := ext_one s pos c _ hl
  have hx2 := ext_two s pos c d t hl
  have hpp : pos < s.size := by omega
  obtain ⟨c', hc, _, hdr⟩ := at_list s pos hpp
  rw [hl] at hdr
  obtain ⟨rfl, _⟩ := List.cons.inj hdr
  clear hdr hl
  obtain ⟨T, hT⟩ : ∃ T, T = ofB [c, d] := ⟨_, rfl⟩
  rw [← hT] at hx2
  have HT := hid hT
  have Hx1 := hid hx1
  clear hT hx1
  have HB := hid ((Below.refl _ w).alloc (Nat.le_refl _) (.cells #[.string ⟨#[61, 61]⟩, .string ⟨#[33, 61]⟩, .string ⟨#[60, 61]⟩, .string ⟨#[62, 61]⟩, .string ⟨#[43, 37]⟩, .string ⟨#[45, 37]⟩, .string ⟨#[42, 37]⟩, .string ⟨#[45, 62]⟩] 59))
  have HC := hid (eight_cells w)
  go_enter Tryd.func28, Tryd.ntmps28
  go_wp2
  generalize (w.alloc (.cells #[.string ⟨#[61, 61]⟩, .string ⟨#[33, 61]⟩, .string ⟨#[60, 61]⟩, .string ⟨#[62, 61]⟩, .string ⟨#[43, 37]⟩, .string ⟨#[45, 37]⟩, .string ⟨#[42, 37]⟩, .string ⟨#[45, 62]⟩] 59)) = W at *
  go_loopg [7] 8 (fun g ii wr => ∃ i : Nat, i + g = 8 ∧ ii = .int .i64 (i : Int) ∧ wr = W ∧ ∀ (j : Nat) (p : Bs), j < i → sg2L[j]? = some p → p.isPrefixOf (c :: d :: t) = false)
  case atStart => exact ⟨0, by omega, rfl, rfl, fun j p hj => by omega⟩
  case round =>
    obtain ⟨i, hi, rfl, rfl, hno⟩ := hrel
    have HN := hid hno
    clear hno
    cases gk with
    | zero =>
      have hi8 : i = 8 := by omega
      subst hi8
      clear hi
      have hm : ∀ p ∈ sg2L, p.isPrefixOf (c :: d :: t) = false := fun p hp => by
        obtain ⟨j, hj⟩ := List.getElem?_of_mem hp
        exact HN.out j p (by have := (List.getElem?_eq_some_iff.1 hj).1; exact this) hj
      have hsm := sgT_miss c (d :: t) hm
      have hx1 := Hx1.out
      clear hm HN
      by_cases hsg : sg1 c = true
      · rw [if_pos hsg] at hsm
        obtain ⟨Y, hY⟩ : ∃ Y, Y = ofB [c] := ⟨_, rfl⟩
        rw [← hY] at hx1
        have HY := hid hY
        have Hsm := hid hsm
        clear hY hsm HT Hx1 HC
        rw [sg1_iff] at hsg
        simp only [sg1s, List.mem_cons, List.mem_nil_iff, or_false] at hsg
        rcases hsg with rfl | rfl | rfl | rfl | rfl | rfl | rfl | rfl | rfl | rfl | rfl | rfl | rfl | rfl | rfl | rfl | rfl | rfl | rfl <;>
          (go_wp2
           go_ret
           refine ⟨?_, HB.out⟩
           rw [Hsm.out, ← HY.out]
           rfl)
      · rw [if_neg hsg] at hsm
        have Hsm := hid hsm
        have hn := sg1_not hsg
        have n1 : ((c.toNat : Int) == 123) = false := hn 123 (by decide)
        have n2 : ((c.toNat : Int) == 125) = false := hn 125 (by decide)
        have n3 : ((c.toNat : Int) == 40) = false := hn 40 (by decide)
        have n4 : ((c.toNat : Int) == 41) = false := hn 41 (by decide)
        have n5 : ((c.toNat : Int) == 91) = false := hn 91 (by decide)
        have n6 : ((c.toNat : Int) == 93) = false := hn 93 (by decide)
        have n7 : ((c.toNat : Int) == 44) = false := hn 44 (by decide)
        have n8 : ((c.toNat : Int) == 59) = false := hn 59 (by decide)
        have n9 : ((c.toNat : Int) == 58) = false := hn 58 (by decide)
        have n10 : ((c.toNat : Int) == 46) = false := hn 46 (by decide)
        have n11 : ((c.toNat : Int) == 61) = false := hn 61 (by decide)
        have n12 : ((c.toNat : Int) == 60) = false := hn 60 (by decide)
        have n13 : ((c.toNat : Int) == 62) = false := hn 62 (by decide)
        have n14 : ((c.toNat : Int) == 43) = false := hn 43 (by decide)
        have n15 : ((c.toNat : Int) == 45) = false := hn 45 (by decide)
        have n16 : ((c.toNat : Int) == 42) = false := hn 42 (by decide)
        have n17 : ((c.toNat : Int) == 47) = false := hn 47 (by decide)
        have n18 : ((c.toNat : Int) == 37) = false := hn 37 (by decide)
        have n19 : ((c.toNat : Int) == 38) = false := hn 38 (by decide)
        clear hn hsg hsm HT Hx1 HC hx1
        go_wp2
        go_ret
        refine ⟨?_, HB.out⟩
        rw [Hsm.out]
        rfl
    | succ g =>
      have hlt : i < 8 := by omega
      have hlt' : (i : Int) < 8 := by omega
      obtain ⟨p, hp⟩ : ∃ p, sg2L[i]? = some p := ⟨sg2L[i]'hlt, List.getElem?_eq_getElem hlt⟩
      have hcl := HC.out i p hp
      obtain ⟨x, y, hxy⟩ := two_of p (List.mem_of_getElem? hp)
      have hpm := hid (List.mem_of_getElem? hp)
      have Hp := hid hp
      have Hi := hid hi
      have Hxy := hid hxy
      obtain ⟨Z, hZ⟩ : ∃ Z, Z = ofB p := ⟨_, rfl⟩
      rw [← hZ] at hcl
      have hZT : (Z.toList == T.toList) = p.isPrefixOf (c :: d :: t) := by
        rw [ByteArray.toList_eq, ByteArray.toList_eq, hZ, HT.out, ofB_list, ofB_list, hxy, Bool.eq_iff_iff]
        simp [List.isPrefixOf]
      clear hp hi hZ hxy
      cases hpx : p.isPrefixOf (c :: d :: t) <;> rw [hpx] at hZT
      · have Hpx := hid hpx
        clear hpx
        go_wp2
        go_roundg g
        case measure => omega
        case rel => exact ⟨i + 1, by have := Hi.out; omega, by go_num, rfl, fun j q hj hq => by
          rcases Nat.lt_or_ge j i with h1 | h1
          · exact HN.out j q h1 hq
          · obtain rfl : j = i := by omega
            rw [Hp.out] at hq; cases hq; exact Hpx.out⟩
      · have Hpx := hid hpx
        clear hpx
        go_wp2
        go_ret
        refine ⟨?_, HB.out⟩
        have : sgT (c :: d :: t) = [c, d] := by
          unfold sgT
          rw [sign_hit p _ hpm.out Hpx.out]
          rfl
        rw [this, ← HT.out]
        rfl
theorem refSign (s : ByteArray) (pos : Nat) (c : UInt8) (t : Bs) (hs : s.size ≤ 4096) (hp : pos < s.size) (hl : s.data.toList.drop pos = c :: t) (w : World) : Calls Tryd.prog 28 #[.string s, .int .i64 (pos : Int)] w fun e w' => e = .returned (.string (ofB (sgT (c :: t)))) ∧ Below w.heap.size w w' := by
  have hlen := congrArg List.length hl
  rw [List.length_drop, ← Lib.size_eq] at hlen
  cases t with
  | nil => exact refSignA s pos c hs (by simp at hlen; omega) hl w
  | cons d t => exact refSignB s pos c d t hs (by simp at hlen; omega) hl w
end Go.Proofs.YtebhmalegdpibaaDoor
