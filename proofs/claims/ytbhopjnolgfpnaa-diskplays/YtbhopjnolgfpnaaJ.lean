/- known: the document's example. -/
import Derived.Test.YtbhopjnolgfpnaaI
namespace Go.Proofs.Ytbhopjnolgfpnaa
open Go.RowKit Go.Deep
set_option linter.unusedVariables false
set_option linter.unusedSimpArgs false

theorem new_at (w : World) (b : Int) (n : Nat) (hb : b = (n : Int)) (h0 : 1 ≤ n) (h1 : n ≤ 16384) :
    Calls Try.prog 5 #[.int .i64 b] w fun e w' => ∃ bd bf bn cn, e = .returned (.tuple #[.pointer (some ⟨bd, 0, none⟩), .int .i64 0]) ∧ w.heap.size ≤ bd ∧ w.heap.size ≤ bn ∧ w.heap.size ≤ bf ∧
      Disk w' bd bf n bn cn (.slice none 0 0) (List.replicate n zeroS) (List.replicate n zeroS) [] (-1) ∧ Below w.heap.size w w' := by
  subst hb; exact new_yes w n h0 h1

theorem write_at (w : World) {bd bf cf bn cn : Nat} {vr : Value} {F N : List ByteArray} {R : List (Nat × ByteArray)} {left : Int} (h : Disk w bd bf cf bn cn vr F N R left) (i : Int) (k : Nat) (hi : i = (k : Int)) (hk : k < F.length) (hl : left ≠ 0)
    (b cap : Nat) (ns : List Int) (hb : By w b 256 ns) (hR : R.length ≤ 1000) (hlm : left ≤ 9223372036854775807) :
    Calls Try.prog 7 #[.pointer (some ⟨bd, 0, none⟩), .int .i64 i, .slice (some ⟨b, 0, none⟩) 256 cap] w fun e w' => e = .returned (.int .i64 0) ∧
      ∃ vr', Disk w' bd bf cf bn cn vr' F (N.set k (mkStr ns)) (R ++ [(k, mkStr ns)]) (decLeft left) ∧ (vr'.ownBlock = vr.ownBlock ∨ ∃ g, vr'.ownBlock = some g ∧ w.heap.size ≤ g) ∧
        w.heap.size ≤ w'.heap.size ∧ (∀ j, j < w.heap.size → j ≠ bd → j ≠ bn → some j ≠ vr.ownBlock → w'.heap[j]? = w.heap[j]?) ∧ Below 0 w w' := by
  subst hi; exact write_yes w h k hk hl b cap ns hb hR hlm

theorem block_at (w : World) (fill : Int) (hf0 : 0 ≤ fill) (hf1 : fill ≤ 255) :
    Calls Try.prog 6 #[.int .u8 fill, .bool false] w fun e w' => e = .returned (.slice (some ⟨w.heap.size, 0, none⟩) 256 256) ∧ By w' w.heap.size 256 (blkList fill 256) ∧ Below w.heap.size w w' ∧ w'.heap.size = w.heap.size + 1 := by
  refine (block_any w fill false 256 rfl hf0 hf1).mono ?_
  rintro e w' ⟨h1, h2, h3, h4⟩
  exact ⟨h1, By.of_block h2, h3, h4⟩

theorem below_of_far {B : Nat} {w w' : World} {bd bn : Nat} {vr : Value} (hz : Below 0 w w') (hf : ∀ j, j < w.heap.size → j ≠ bd → j ≠ bn → some j ≠ vr.ownBlock → w'.heap[j]? = w.heap[j]?) (hB : B ≤ w.heap.size) (h1 : B ≤ bd) (h2 : B ≤ bn) (h3 : ∀ g, vr.ownBlock = some g → B ≤ g) : Below B w w' :=
  ⟨hz.os, hz.tape, hz.output, hz.size, fun k hk => hf k (by omega) (by omega) (by omega) (fun e => by have := h3 k e.symm; omega)⟩

theorem Disk.vrIs {w : World} {bd bf cf bn cn vr F N R left} (h : Disk w bd bf cf bn cn vr F N R left) : ∃ ar cr, vr = .slice ar R.length cr := by
  rcases h.r.2 with ⟨rfl, e⟩ | ⟨g, c, cur, rfl, _⟩
  · exact ⟨none, 0, by rw [e]⟩
  · exact ⟨_, _, rfl⟩
theorem writes_at (w : World) {bd bf cf bn cn : Nat} {vr : Value} {F N : List ByteArray} {R : List (Nat × ByteArray)} {left : Int} (h : Disk w bd bf cf bn cn vr F N R left) (k : Int) (hk : (R.length : Int) = k) :
    Calls Try.prog 13 #[.pointer (some ⟨bd, 0, none⟩)] w fun e w' => e = .returned (.int .i64 k) ∧ w' = w := by
  obtain ⟨ar, cr, rfl⟩ := h.vrIs
  subst hk
  exact writes_any w bd _ _ _ _ _ _ h.dk
theorem blocks_at (w : World) {bd bf cf bn cn : Nat} {vr : Value} {F N : List ByteArray} {R : List (Nat × ByteArray)} {left : Int} (h : Disk w bd bf cf bn cn vr F N R left) (k : Int) (hk : (F.length : Int) = k) :
    Calls Try.prog 14 #[.pointer (some ⟨bd, 0, none⟩)] w fun e w' => e = .returned (.int .i64 k) ∧ w' = w := by
  subst hk
  exact blocks_any w bd _ _ _ _ _ _ h.dk
theorem at_at (w : World) {bd bf cf bn cn : Nat} {vr : Value} {F N : List ByteArray} {R : List (Nat × ByteArray)} {left : Int} (h : Disk w bd bf cf bn cn vr F N R left) (i : Int) (m : Nat) (hi : i = (m : Int)) (hm : m ≤ R.length) (hR : R.length ≤ 1000) :
    Calls Try.prog 15 #[.pointer (some ⟨bd, 0, none⟩), .int .i64 i] w fun e w' => ∃ bd' bf' cf' bn' cn', e = .returned (.tuple #[.pointer (some ⟨bd', 0, none⟩), .int .i64 0]) ∧ w.heap.size ≤ bd' ∧ w.heap.size ≤ bn' ∧ w.heap.size ≤ bf' ∧
      Disk w' bd' bf' cf' bn' cn' (.slice none 0 0) (replay F (R.take m)) (replay F (R.take m)) [] (-1) ∧ Below w.heap.size w w' := by
  subst hi; exact at_yes w h m hm hR
theorem read_at (w : World) {bd bf cf bn cn : Nat} {vr : Value} {F N : List ByteArray} {R : List (Nat × ByteArray)} {left : Int} (h : Disk w bd bf cf bn cn vr F N R left) (i : Int) (k : Nat) (hi : i = (k : Int)) (s : ByteArray) (hk : N[k]? = some s) (hl : left ≠ 0) (n : Nat) (hn : s.size = n) :
    Calls Try.prog 11 #[.pointer (some ⟨bd, 0, none⟩), .int .i64 i] w fun e w' => ∃ cap, e = .returned (.tuple #[.slice (some ⟨w.heap.size, 0, none⟩) n cap, .int .i64 0]) ∧
      By w' w.heap.size n (strNs s) ∧ Below w.heap.size w w' ∧ w'.heap.size = w.heap.size + 1 := by
  subst hi; subst hn; exact read_yes w h k s hk hl

def blkS (fill : Int) : ByteArray := mkStr (blkList fill 256)
theorem blkS_size (fill : Int) : (blkS fill).size = 256 := by rw [blkS, size_mkStr]; simp [blkList]

theorem mkStr_data (ns : List Int) : mkStr ns = ⟨(ns.map (fun n => UInt8.ofNat n.toNat)).toArray⟩ := by
  unfold mkStr
  rw [← List.foldl_map (f := fun (n : Int) => UInt8.ofNat n.toNat) (g := fun (r : ByteArray) u => r.push u), foldl_push]
  simp
theorem strNs_mkStr (ns : List Int) (h : ∀ x, x ∈ ns → 0 ≤ x ∧ x ≤ 255) : strNs (mkStr ns) = ns := by
  rw [mkStr_data]
  unfold strNs
  simp only [List.map_map]
  conv => rhs; rw [← List.map_id ns]
  apply List.map_congr_left
  intro x hx
  have := h x hx
  simp [UInt8.toNat_ofNat']
  omega
theorem blkList_range (fill : Int) (n : Nat) : ∀ x, x ∈ blkList fill n → 0 ≤ x ∧ x ≤ 255 := by
  intro x hx
  simp only [blkList, List.mem_map] at hx
  obtain ⟨i, _, rfl⟩ := hx
  unfold blkAt; omega
theorem strNs_blkS (fill : Int) : strNs (blkS fill) = blkList fill 256 := strNs_mkStr _ (blkList_range _ _)
theorem blk_first : (blkList 1 256).getD 0 0 = 1 := by
  simp [blkList, blkAt]

set_option maxHeartbeats 1000000 in
theorem known_any (w : World) : Calls Try.prog 4 #[] w fun e w' => e = .returned (.bool true) ∧ Below w.heap.size w w' := by
  go_enter Try.func4, Try.ntmps4
  go_wp2_with fail
  refine (new_at w 2 2 rfl (by omega) (by omega)).mono ?_
  rintro e w1 ⟨bd, bf, bn, cn, rfl, h1, h2, h3, hD, hB⟩
  go_wp2_with fail
  refine (block_at w1 1 (by omega) (by omega)).mono ?_
  rintro e w2 ⟨rfl, hy2, hB2, hz2⟩
  have hD2 := hD.below hB2
  have Hz2 := hid hz2
  clear hz2
  go_wp2_with fail
  refine (write_at w2 hD2 0 0 rfl (by simp) (by omega) w1.heap.size 256 _ hy2 (by simp) (by omega)).mono ?_
  rintro e w3 ⟨rfl, vr3, hD3, hv3, hz3, hf3, hb3⟩
  go_wp2_with fail
  refine (block_at w3 2 (by omega) (by omega)).mono ?_
  rintro e w4 ⟨rfl, hy4, hB4, hz4⟩
  have hD4 := hD3.below hB4
  have Hz4 := hid hz4
  clear hz4
  go_wp2_with fail
  refine (write_at w4 hD4 0 0 rfl (by simp) (by simp [decLeft]) w3.heap.size 256 _ hy4 (by simp) (by simp [decLeft])).mono ?_
  rintro e w5 ⟨rfl, vr5, hD5, hv5, hz5, hf5, hb5⟩
  go_wp2_with fail
  refine (writes_at w5 hD5 2 (by simp)).mono ?_
  rintro e w5' ⟨rfl, rfl⟩
  go_wp2_with fail
  refine (at_at w5' hD5 1 1 rfl (by simp) (by simp)).mono ?_
  rintro e w6 ⟨bd6, bf6, cf6, bn6, cn6, rfl, h61, h62, h63, hD6, hB6⟩
  go_wp2_with fail
  refine (read_at w6 hD6 0 0 rfl (blkS 1) ?_ (by omega) 256 (blkS_size 1)).mono ?_
  · simp [replay, blkS]
  rintro e w7 ⟨cap7, rfl, hy7, hB7, hz7⟩
  have c7 := hy7.cell (j := 0) (by omega)
  rw [strNs_blkS, blk_first] at c7
  go_wp2
  go_ret
  refine ⟨rfl, ?_⟩
  have s1 := hB.size
  have s2 := hB2.size
  have s4 := hB4.size
  have k3 : Below w.heap.size w2 w3 := below_of_far hb3 hf3 (by omega) h1 h2 (fun g e => by cases e)
  have o3 : ∀ g, vr3.ownBlock = some g → w.heap.size ≤ g := fun g e => by
    rcases hv3 with h | ⟨g', h, hg⟩
    · rw [h] at e; cases e
    · rw [h] at e; cases e; omega
  have k5 : Below w.heap.size w4 w5' := below_of_far hb5 hf5 (by omega) h1 h2 o3
  have s6 := hB6.size
  exact (((((hB.trans (hB2.mono s1)).trans k3).trans (hB4.mono (by omega))).trans k5).trans (hB6.mono (by omega))).trans (hB7.mono (by omega))
end Go.Proofs.Ytbhopjnolgfpnaa
