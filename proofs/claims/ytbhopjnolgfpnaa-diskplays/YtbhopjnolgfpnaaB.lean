/- The statement's helps: block, Spoil, Bytes. -/
import Derived.Test.YtbhopjnolgfpnaaA
import Derived.Deep.OwnRows
namespace Go.Proofs.Ytbhopjnolgfpnaa
open Go.RowKit Go.Deep
set_option linter.unusedVariables false
set_option linter.unusedSimpArgs false

def blkAt (fill : Int) (i : Nat) : Int := (fill + (i : Int) % 7) % 256
def blkList (fill : Int) (n : Nat) : List Int := (List.range n).map (blkAt fill)
def fillTo (fill : Int) (n k : Nat) : Array Value := ((List.range n).map (fun i => Value.int .u8 (if i < k then blkAt fill i else 0))).toArray

theorem fillTo_size (fill : Int) (n k : Nat) : (fillTo fill n k).size = n := by simp [fillTo]
theorem fillTo_get (fill : Int) (n k i : Nat) (h : i < n) : (fillTo fill n k)[i]? = some (.int .u8 (if i < k then blkAt fill i else 0)) := by
  simp [fillTo, h]
theorem fillTo_set (fill : Int) (n k : Nat) : (fillTo fill n k).setIfInBounds k (.int .u8 (blkAt fill k)) = fillTo fill n (k + 1) := by
  apply Array.ext
  · simp [fillTo_size]
  · intro i h1 h2
    simp [fillTo_size] at h1
    simp only [fillTo, List.getElem_toArray, List.getElem_map, List.getElem_range]
    by_cases e : k = i
    · subst e; simp
    · have : (i < k) ↔ (i < k + 1) := by omega
      simp [e, this]
theorem fillTo_all (fill : Int) (n : Nat) : fillTo fill n n = ((blkList fill n).map (Value.int .u8)).toArray := by
  unfold fillTo blkList
  simp only [List.map_map]
  congr 1
  apply List.map_congr_left
  intro i hi
  simp at hi
  simp [hi]
theorem fillTo_none (fill : Int) (n : Nat) : fillTo fill n 0 = Array.replicate n (.int .u8 0) := by
  apply Array.ext
  · simp [fillTo_size]
  · intro i h1 h2
    simp [fillTo]

theorem heap_setCell_at {w : World} {b : Nat} {c : Array Value} {e : TypeId} {f : Nat × Nat} (h : w.heap[b]? = some (.cells c e f)) (i : Nat) (u : Value) :
    (w.setCell ⟨b, i, none⟩ u).heap[b]? = some (.cells (c.setIfInBounds i u) e f) := by
  simp [World.setCell, Array.getElem?_modify, h]

theorem made_u8 (n : Nat) : madeCells #[.int .u8 0] n = Array.replicate n (.int .u8 0) := by
  apply Array.ext
  · simp [madeCells]
  · intro i h1 h2
    simp [madeCells, Nat.mod_one]

theorem info5 : (Try.prog.info? 5).map (fun i => (i.zero, i.size, i.bytes)) = some (some (.int .u8 0), 1, 1) := by kernel_rfl

theorem mk_bytes (fill : Int) (n : Nat) (h : n ≤ 256) (w : World) : (Instr.makeSlice 30 (.int .i64 (n : Int)) (.int .i64 (n : Int))).run Try.prog w =
    .ok (.slice (some ⟨w.heap.size, 0, none⟩) n n) (w.alloc (.cells (fillTo fill n 0) 5)) := by
  rw [fillTo_none, ← made_u8]
  exact run_make_row' 30 5 (.int .u8 0) 1 Try.underlying30 info5 rfl .i64 .i64 n (by omega) (by omega) w

set_option maxHeartbeats 400000 in
set_option maxRecDepth 10000 in
theorem block_any (w : World) (fill : Int) (short : Bool) (n : Nat) (hn : n = if short then 255 else 256) (hf0 : 0 ≤ fill) (hf1 : fill ≤ 255) :
    Calls Try.prog 6 #[.int .u8 fill, .bool short] w fun e w' => e = .returned (.slice (some ⟨w.heap.size, 0, none⟩) n n) ∧
      w'.heap[w.heap.size]? = some (.cells ((blkList fill n).map (Value.int .u8)).toArray 5 (0, 0)) ∧ Below w.heap.size w w' ∧ w'.heap.size = w.heap.size + 1 := by
  cases short
  · simp at hn; subst hn
    have hmk := mk_bytes fill 256 (by omega)
    rw [show ((256 : Nat) : Int) = 256 from rfl] at hmk
    go_enter Try.func6, Try.ntmps6
    go_wp2
    clear hmk
    go_loopw [7] (fun i wr => ∃ k : Nat, k ≤ 256 ∧ i = .int .i64 k ∧ wr.heap[w.heap.size]? = some (.cells (fillTo fill 256 k) 5 (0, 0)) ∧ Below w.heap.size w wr ∧ wr.heap.size = w.heap.size + 1) (fun i _ => 256 - (intOf i).toNat)
    case atStart => exact ⟨0, by omega, rfl, heap_alloc_new w _, (Below.refl _ _).alloc (Nat.le_refl _) _, by simp⟩
    case round =>
      obtain ⟨k, hk, rfl, hb, hB, hz⟩ := hrel
      by_cases hlt : k < 256
      · have hc : wr.cell? ⟨w.heap.size, k, none⟩ = some (.int .u8 (if k < k then blkAt fill k else 0)) := by rw [cellOf hb, fillTo_get _ _ _ _ hlt]
        have hf := freeOf hb k
        have Hb : Hid _ := hb; have Hz : Hid _ := hz; clear hb hz
        go_wp2
        go_roundw
        case rel => exact ⟨k + 1, by omega, by go_num, by rw [heap_setCell_at Hb.out]; exact congrArg (fun x => some (Obj.cells x 5 (0, 0))) (fillTo_set fill _ k), hB.setCell (Nat.le_refl _) _, by simpa [World.setCell] using Hz.out⟩
        case measure => simp [intOf]; omega
      · have hke : k = 256 := by omega
        subst hke
        go_wp2
        go_ret
        exact ⟨rfl, by rw [hb, fillTo_all], hB, hz⟩
  · simp at hn; subst hn
    have hmk := mk_bytes fill 255 (by omega)
    rw [show ((255 : Nat) : Int) = 255 from rfl] at hmk
    go_enter Try.func6, Try.ntmps6
    go_wp2
    clear hmk
    go_loopw [7] (fun i wr => ∃ k : Nat, k ≤ 255 ∧ i = .int .i64 k ∧ wr.heap[w.heap.size]? = some (.cells (fillTo fill 255 k) 5 (0, 0)) ∧ Below w.heap.size w wr ∧ wr.heap.size = w.heap.size + 1) (fun i _ => 255 - (intOf i).toNat)
    case atStart => exact ⟨0, by omega, rfl, heap_alloc_new w _, (Below.refl _ _).alloc (Nat.le_refl _) _, by simp⟩
    case round =>
      obtain ⟨k, hk, rfl, hb, hB, hz⟩ := hrel
      by_cases hlt : k < 255
      · have hc : wr.cell? ⟨w.heap.size, k, none⟩ = some (.int .u8 (if k < k then blkAt fill k else 0)) := by rw [cellOf hb, fillTo_get _ _ _ _ hlt]
        have hf := freeOf hb k
        have Hb : Hid _ := hb; have Hz : Hid _ := hz; clear hb hz
        go_wp2
        go_roundw
        case rel => exact ⟨k + 1, by omega, by go_num, by rw [heap_setCell_at Hb.out]; exact congrArg (fun x => some (Obj.cells x 5 (0, 0))) (fillTo_set fill _ k), hB.setCell (Nat.le_refl _) _, by simpa [World.setCell] using Hz.out⟩
        case measure => simp [intOf]; omega
      · have hke : k = 255 := by omega
        subst hke
        go_wp2
        go_ret
        exact ⟨rfl, by rw [hb, fillTo_all], hB, hz⟩

/- A row of bytes at the head of block b: its first n cells. -/
def By (w : World) (b n : Nat) (ns : List Int) : Prop := ns.length = n ∧ ∃ (c : Array Value) (f : Nat × Nat), w.heap[b]? = some (.cells c 5 f) ∧ n ≤ c.size ∧ (∀ j, j < n → c[j]? = some (.int .u8 (ns.getD j 0))) ∧ (∀ i, i < n → (decide (f.1 ≤ i) && decide (i < f.2)) = false)
def mkStr (ns : List Int) : ByteArray := ns.foldl (fun r n => r.push (UInt8.ofNat n.toNat)) ByteArray.empty

theorem By.cell {w b n ns} (h : By w b n ns) {j : Nat} (hj : j < n) : w.cell? ⟨b, j, none⟩ = some (.int .u8 (ns.getD j 0)) := by
  obtain ⟨_, c, f, hb, _, hc, _⟩ := h
  rw [cellOf hb, hc j hj]
theorem By.free {w b n ns} (h : By w b n ns) {j : Nat} (hj : j < n) : w.frozen? ⟨b, j, none⟩ = false := by
  obtain ⟨_, c, f, hb, _, _, hf⟩ := h
  simpa [World.frozen?, hb] using hf j hj
theorem By.lt {w b n ns} (h : By w b n ns) : b < w.heap.size := by
  obtain ⟨_, c, f, hb, _, _, hf⟩ := h
  exact (Array.getElem?_eq_some_iff.1 hb).1
theorem By.kept {w w' b n ns} (h : By w b n ns) (e : w'.heap[b]? = w.heap[b]?) : By w' b n ns := by
  obtain ⟨h0, c, f, hb, h1, h2, h3⟩ := h
  exact ⟨h0, c, f, by rw [e, hb], h1, h2, h3⟩
theorem By.conv {w b n ns} (h : By w b n ns) (cap : Nat) : (convert 30 9 (.slice (some ⟨b, 0, none⟩) n cap)).run Try.prog w = .ok (.string (mkStr ns)) w := by
  rw [run_convert_bytes_string w 30 9 5 _ _ _ Try.underlying30 Try.underlying5 Try.underlying9]
  refine run_bytesToString w _ n cap ns ?_
  have hl := run_loadCells_list (P := Try.prog) w ⟨b, 0, none⟩ (ns.map (Value.int .u8)) ?_
  · rw [← h.1]; simpa using hl
  · intro j v hv
    have hj : j < ns.length := by have := (List.getElem?_eq_some_iff.1 hv).1; simpa using this
    have hc := h.cell (j := j) (by rw [← h.1]; exact hj)
    rw [Addr.add_lit, Nat.zero_add, hc]
    rw [← hv]; simp [List.getElem?_map, List.getElem?_eq_getElem hj]
theorem By.nil_conv (w : World) : (convert 30 9 (.slice none 0 0)).run Try.prog w = .ok (.string ByteArray.empty) w := by
  kernel_rfl

theorem By.of_block {w' : World} {fill : Int} {b n : Nat} (h : w'.heap[b]? = some (.cells ((blkList fill n).map (Value.int .u8)).toArray 5 (0, 0))) : By w' b n (blkList fill n) := by
  refine ⟨by simp [blkList], _, _, h, by simp [blkList], fun j hj => ?_, fun i _ => by simp⟩
  simp [blkList, hj]

set_option maxHeartbeats 400000 in
theorem bytes_same (w : World) (b1 n1 c1 b2 n2 c2 : Nat) (ns1 ns2 : List Int) (h1 : By w b1 n1 ns1) (h2 : By w b2 n2 ns2) (hs : mkStr ns1 = mkStr ns2) :
    Calls Try.prog 12 #[.slice (some ⟨b1, 0, none⟩) n1 c1, .slice (some ⟨b2, 0, none⟩) n2 c2] w fun e w' => e = .returned (.bool true) ∧ w' = w := by
  have e1 := h1.conv c1
  have e2 := h2.conv c2
  rw [hs] at e1
  clear h1 h2 hs
  go_enter Try.func12, Try.ntmps12
  go_wp2
  go_ret
  exact ⟨by simp, rfl⟩

theorem grownBy_refl (w : World) (row : Option Nat) : w.grownBy w row := ⟨rfl, rfl, rfl, Nat.le_refl _, fun _ _ _ => rfl⟩
theorem grownBy_set {w w1 : World} {b : Nat} (h : w.grownBy w1 (some b)) (i : Nat) (u : Value) : w.grownBy (w1.setCell ⟨b, i, none⟩ u) (some b) :=
  ⟨h.os, h.tape, h.output, by simpa [World.setCell] using h.size, fun k hk hne => by rw [Below.heap_setCell _ _ _ _ (by intro e; subst e; exact hne rfl)]; exact h.block k hk hne⟩

set_option maxHeartbeats 400000 in
theorem spoil_any (w : World) (b n cap : Nat) (ns : List Int) (h : By w b n ns) (hn : n ≤ 1000) :
    Calls Try.prog 8 #[.slice (some ⟨b, 0, none⟩) n cap] w fun e w' => e = .returned (.tuple #[]) ∧ w.grownBy w' (some b) ∧ w'.heap.size = w.heap.size := by
  go_enter Try.func8, Try.ntmps8
  go_wp2
  go_loopw [2] (fun i wr => ∃ k : Nat, k ≤ n ∧ i = .int .i64 k ∧ (∃ ns', By wr b n ns') ∧ w.grownBy wr (some b) ∧ wr.heap.size = w.heap.size) (fun i _ => n - (intOf i).toNat)
  case atStart => exact ⟨0, by omega, rfl, ⟨ns, h⟩, grownBy_refl _ _, rfl⟩
  case round =>
    obtain ⟨k, hk, rfl, ⟨ns', hb⟩, hg, hz⟩ := hrel
    have Hz : Hid _ := hz
    clear hz
    by_cases hlt : k < n
    · have hc := hb.cell hlt
      have hf := hb.free hlt
      go_wp2
      go_roundw
      case rel =>
        refine ⟨k + 1, by omega, by go_num, ⟨ns'.set k 238, ?_⟩, grownBy_set hg _ _, by simpa [World.setCell] using Hz.out⟩
        obtain ⟨h0, c, f, hbb, h1, h2, h3⟩ := hb
        refine ⟨by simpa using h0, _, f, heap_setCell_at hbb k _, by simpa using h1, fun j hj => ?_, h3⟩
        rw [Array.getElem?_setIfInBounds]
        have hjn : j < ns'.length := by omega
        by_cases e : k = j
        · subst e; simp [hjn, show k < c.size from by omega]
        · simp only [e, if_false]
          rw [h2 j hj]
          simp [List.getElem?_set, e]
      case measure => simp [intOf]; omega
    · go_wp2
      go_end0
      exact ⟨rfl, hg, Hz.out⟩

set_option maxHeartbeats 400000 in
theorem spoil_nil (w : World) :
    Calls Try.prog 8 #[.slice none 0 0] w fun e w' => e = .returned (.tuple #[]) ∧ w' = w := by
  go_enter Try.func8, Try.ntmps8
  go_wp2
  refine wp_loop_rounds 1 ?_
  rw [rounds_succ]
  go_wp2
  go_end0
  exact ⟨rfl, rfl⟩
end Go.Proofs.Ytbhopjnolgfpnaa
