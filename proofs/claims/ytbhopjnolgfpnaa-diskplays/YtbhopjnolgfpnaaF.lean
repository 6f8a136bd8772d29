/- Read. -/
import Derived.Test.YtbhopjnolgfpnaaE
namespace Go.Proofs.Ytbhopjnolgfpnaa
open Go.RowKit Go.Deep
set_option linter.unusedVariables false
set_option linter.unusedSimpArgs false

theorem hid {p : Prop} (h : p) : Hid p := h

theorem foldl_push (l : List UInt8) (b : ByteArray) : l.foldl (fun r n => r.push n) b = ⟨b.data ++ l.toArray⟩ := by
  induction l generalizing b with
  | nil => simp
  | cons x l ih => rw [List.foldl_cons, ih]; simp [ByteArray.push]
def strNs (s : ByteArray) : List Int := s.data.toList.map (fun u => (u.toNat : Int))
theorem mkStr_strNs (s : ByteArray) : mkStr (strNs s) = s := by
  unfold mkStr strNs
  rw [List.foldl_map]
  have : (fun (r : ByteArray) (u : UInt8) => r.push (UInt8.ofNat ((u.toNat : Int)).toNat)) = fun r u => r.push u := by
    funext r u; simp
  rw [this, foldl_push]
  simp
theorem strNs_length (s : ByteArray) : (strNs s).length = s.size := by simp [strNs]
theorem size_mkStr (ns : List Int) : (mkStr ns).size = ns.length := by
  have h : ∀ (ns : List Int) (b : ByteArray), (ns.foldl (fun r n => r.push (UInt8.ofNat n.toNat)) b).size = b.size + ns.length := by
    intro ns
    induction ns with
    | nil => simp
    | cons x l ih => intro b; rw [List.foldl_cons, ih, ByteArray.size_push]; simp; omega
  simpa [mkStr] using h ns ByteArray.empty

theorem bytesRow_size (s : ByteArray) (cap : Nat) : s.size ≤ (bytesRow s cap).size := by
  have : s.data.size = s.size := rfl
  simp [bytesRow]
theorem by_conv (w : World) (s : ByteArray) (cap : Nat) : By (w.drew.alloc (.cells (bytesRow s cap) 5 ((bytesRow s cap).size, (bytesRow s cap).size + 1))) w.heap.size s.size (strNs s) := by
  have hz := bytesRow_size s cap
  refine ⟨strNs_length s, _, _, heap_alloc_new w.drew _, hz, fun j hj => ?_, fun i hi => ?_⟩
  · rw [bytesRow_at s cap j hj]
    have hq : s.data[j]? = some s.data[j] := Array.getElem?_eq_getElem hj
    simp [strNs, hq]
  · simp; omega

theorem Disk.ncell {w : World} {bd bf cf bn cn vr F N R left} (h : Disk w bd bf cf bn cn vr F N R left) {k : Nat} {s : ByteArray} (hk : N[k]? = some s) : w.cell? ⟨bn, k, none⟩ = some (.string s) := by
  have := h.n.cells (g := bn) rfl k (.string s) (by simp [strs, hk])
  rwa [Addr.add_lit, Nat.zero_add] at this

set_option maxHeartbeats 400000 in
theorem read_no (w : World) {bd bf cf bn cn : Nat} {vr : Value} {F N : List ByteArray} {R : List (Nat × ByteArray)} {left : Int} (h : Disk w bd bf cf bn cn vr F N R left) (i : Int) (c : Int) (hc : reachB left i F.length = c) (hne : (c != 0) = true) :
    Calls Try.prog 11 #[.pointer (some ⟨bd, 0, none⟩), .int .i64 i] w fun e w' => e = .returned (.tuple #[.slice none 0 0, .int .i64 c]) ∧ w' = w := by
  have hr := reach_any w bd _ _ _ _ _ _ i h.dk
  rw [hc] at hr
  have Hr := hid hr
  clear hr hc h
  go_enter Try.func11, Try.ntmps11
  go_wp2_with (go_at_call 18; refine (Hid.out Hr).mono ?_; rintro e w' ⟨rfl, rfl⟩)
  go_ret2
  exact ⟨rfl, rfl⟩

set_option maxHeartbeats 400000 in
theorem read_yes (w : World) {bd bf cf bn cn : Nat} {vr : Value} {F N : List ByteArray} {R : List (Nat × ByteArray)} {left : Int} (h : Disk w bd bf cf bn cn vr F N R left) (k : Nat) (s : ByteArray) (hk : N[k]? = some s) (hl : left ≠ 0) :
    Calls Try.prog 11 #[.pointer (some ⟨bd, 0, none⟩), .int .i64 (k : Int)] w fun e w' => ∃ cap, e = .returned (.tuple #[.slice (some ⟨w.heap.size, 0, none⟩) s.size cap, .int .i64 0]) ∧
      By w' w.heap.size s.size (strNs s) ∧ Below w.heap.size w w' ∧ w'.heap.size = w.heap.size + 1 := by
  have hkn : k < F.length := by rw [← h.nlen]; exact (List.getElem?_eq_some_iff.1 hk).1
  have hr := reach_any w bd _ _ _ _ _ _ (k : Int) h.dk
  rw [show reachB left (k : Int) F.length = 0 from by simp [reachB, hl]; omega] at hr
  have Hr := hid hr
  have c1 := h.dk.c1
  have ck := h.ncell hk
  have hcv := run_bytes_of_string (P := Try.prog) w 9 30 5 s Try.underlying9 Try.underlying30 Try.underlying5
  have hsm := h.small
  clear hr h
  go_enter Try.func11, Try.ntmps11
  go_wp2_with (go_at_call 18; refine (Hid.out Hr).mono ?_; rintro e w' ⟨rfl, rfl⟩)
  go_ret2
  refine ⟨_, rfl, ?_, ((Below.refl _ _).drew).alloc (Nat.le_refl _) _, by simp⟩
  exact by_conv w' s _
end Go.Proofs.Ytbhopjnolgfpnaa
