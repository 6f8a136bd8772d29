/- slices.Repeat at strings. -/
import Derived.Test.YtbhopjnolgfpnaaC
import Derived.Laws.CopyOwn
import Derived.Deep.RegionLaw
namespace Go.Proofs.Ytbhopjnolgfpnaa
open Go.RowKit Go.Deep
set_option linter.unusedVariables false
set_option linter.unusedSimpArgs false

theorem size9 : (Try.prog.info? 9).map (·.size) = some 1 := by kernel_rfl

/- The first k of m places hold s, the others nothing. -/
def repTo (s : ByteArray) (m k : Nat) : List Value := List.replicate k (.string s) ++ List.replicate (m - k) (.string ByteArray.empty)

theorem mk_strs (s : ByteArray) (m : Nat) (h : m ≤ 16384) (w : World) : (Instr.makeSlice 43 (.int .i64 (m : Int)) (.int .i64 (m : Int))).run Try.prog w =
    .ok (.slice (some ⟨w.heap.size, 0, none⟩) m m) (w.alloc (.cells (repTo s m 0).toArray 9)) := by
  have e : (repTo s m 0).toArray = madeCells #[.string ByteArray.empty] m := by
    apply Array.ext
    · simp [madeCells, repTo]
    · intro i h1 h2
      simp [madeCells, repTo, Nat.mod_one]
  rw [e]
  exact run_make_row' 43 9 (.string ByteArray.empty) 16 Try.underlying43 info9 rfl .i64 .i64 m (by omega) (by omega) w

theorem repTo_step (s : ByteArray) (m k c : Nat) : (repTo s m k).take k ++ List.replicate c (.string s) ++ (repTo s m k).drop (k + c) = repTo s m (k + c) := by
  have e1 : (repTo s m k).take k = List.replicate k (.string s) := by simp [repTo]
  have e2 : (repTo s m k).drop (k + c) = List.replicate (m - (k + c)) (.string ByteArray.empty) := by
    simp [repTo, List.drop_append]
    omega
  rw [e1, e2]
  simp [repTo, List.replicate_append_replicate]

theorem repTo_length (s : ByteArray) (m k : Nat) (h : k ≤ m) : (repTo s m k).length = m := by simp [repTo]; omega

set_option maxHeartbeats 400000 in
theorem repeat_any (w : World) (bx m : Nat) (s : ByteArray) (hx : w.heap[bx]? = some (.cells #[.string s] 9 (0, 0))) (hm0 : 0 < m) (hm : m ≤ 16384) :
    Calls Try.prog 17 #[.slice (some ⟨bx, 0, none⟩) 1 1, .int .i64 (m : Int)] w fun e w' => ∃ g, e = .returned (.slice (some ⟨g, 0, none⟩) m m) ∧ w.heap.size ≤ g ∧
      w'.heap[g]? = some (.cells (repTo s m m).toArray 9 (0, 0)) ∧ Below w.heap.size w w' := by
  have hmk := mk_strs s m hm
  have hcx : w.cell? ⟨bx, 0, none⟩ = some (.string s) := by rw [cellOf hx]; rfl
  have hbx : bx < w.heap.size := (Array.getElem?_eq_some_iff.1 hx).1
  have hcp : (Builtin.copy_ #[43, 43] 3 #[.slice (some ⟨w.heap.size, 0, none⟩) m m, .slice (some ⟨bx, 0, none⟩) 1 1]).run Try.prog (w.alloc (.cells (repTo s m 0).toArray 9)) =
      .ok (.int .i64 1) ((w.alloc (.cells (repTo s m 0).toArray 9)).setRow w.heap.size (repTo s m 1).toArray) := by
    have hh : (w.alloc (.cells (repTo s m 0).toArray 9)).heap[w.heap.size]? = some (.cells (repTo s m 0).toArray 9 (0, 0)) := heap_alloc_new w _
    have h := run_copy_row (P := Try.prog) _ 43 43 3 9 w.heap.size 0 m m ⟨bx, 0, none⟩ 1 1 (repTo s m 0).toArray 9 [.string s] Try.underlying43 size9 hh
      (by show 1 = min 1 m; omega) (fun j v hv => by
        match j, hv with
        | 0, hv => simp at hv; subst hv; rw [Addr.add_lit, World.cell?_of_block (w := w) (Below.heap_alloc w _ _ hbx)]; exact hcx
        | j + 1, hv => simp at hv) (by simp [repTo]; omega) (by simp [Value.oneCell'])
    rw [h]
    have e : (repTo s m 0).toArray.toList.take 0 ++ [Value.string s] ++ (repTo s m 0).toArray.toList.drop (0 + [Value.string s].length) = repTo s m 1 := by simp [repTo]
    rw [e]; rfl
  have Hx : Hid _ := hx
  clear hx
  go_enter Try.func17, Try.ntmps17
  go_wp2_with (go_at_call 21; refine (mul_any _ _ (by omega) (by omega)).mono ?_; rintro e w' ⟨rfl, rfl⟩)
  clear hmk hcp
  go_loopw [8] (fun i wr => ∃ k : Nat, 0 < k ∧ k ≤ m ∧ i = .int .i64 k ∧ wr.heap[w'.heap.size]? = some (.cells (repTo s m k).toArray 9 (0, 0)) ∧ Below w'.heap.size w' wr) (fun i _ => m - (intOf i).toNat)
  case atStart => exact ⟨1, by omega, by omega, rfl, setRow_heap _ _ _ _ 9 (0, 0) (heap_alloc_new w' _), below_setRow ((Below.refl _ _).alloc (Nat.le_refl _) _) (Nat.le_refl _) _⟩
  case round =>
    obtain ⟨k, hk0, hk, rfl, hb, hB⟩ := hrel
    by_cases hlt : k < m
    · have hcp2 : (Builtin.copy_ #[43, 43] 3 #[.slice (some ⟨w'.heap.size, k, none⟩) (m - k) (m - k), .slice (some ⟨w'.heap.size, 0, none⟩) k m]).run Try.prog wr.drew =
          .ok (.int .i64 ((min k (m - k) : Nat) : Int)) (wr.drew.setRow w'.heap.size (repTo s m (k + min k (m - k))).toArray) := by
        have h := run_copy_row (P := Try.prog) wr.drew 43 43 3 9 w'.heap.size k (m - k) (m - k) ⟨w'.heap.size, 0, none⟩ k m (repTo s m k).toArray 9 (List.replicate (min k (m - k)) (.string s)) Try.underlying43 size9 hb
          (by show _ = min k (m - k); simp) (fun j v hv => by
            have hj : j < min k (m - k) := by have := (List.getElem?_eq_some_iff.1 hv).1; simpa using this
            rw [List.getElem?_replicate, if_pos hj] at hv
            rw [Addr.add_lit, Nat.zero_add]
            show wr.cell? _ = _
            rw [cellOf hb, ← hv]
            simp [repTo, List.getElem?_append, show j < k from by omega]) (by simp [repTo]; omega) (by intro v hv; rw [List.mem_replicate] at hv; rw [hv.2]; rfl)
        rw [h]
        have e : (repTo s m k).toArray.toList.take k ++ List.replicate (min k (m - k)) (Value.string s) ++ (repTo s m k).toArray.toList.drop (k + (List.replicate (min k (m - k)) (Value.string s)).length) = repTo s m (k + min k (m - k)) := by
          rw [List.length_replicate]; exact repTo_step s m k _
        rw [e]; simp [goInt]
      have Hb : Hid _ := hb
      clear hb
      go_wp2
      go_region
      go_wp2
      go_roundw
      case rel => exact ⟨k + min k (m - k), by omega, by omega, by go_num, setRow_heap _ _ _ _ 9 (0, 0) Hb.out, below_setRow hB.drew (Nat.le_refl _) _⟩
      case measure => simp [intOf]; omega
    · have hke : k = m := by omega
      subst hke
      go_wp2
      go_ret
      exact ⟨_, rfl, Nat.le_refl _, hb, hB⟩
end Go.Proofs.Ytbhopjnolgfpnaa
