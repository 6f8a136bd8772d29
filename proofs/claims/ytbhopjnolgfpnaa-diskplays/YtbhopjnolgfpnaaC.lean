/- slices.Clone, slices.Repeat at strings; holding, New. -/
import Derived.Test.YtbhopjnolgfpnaaB
namespace Go.Proofs.Ytbhopjnolgfpnaa
open Go.RowKit Go.Deep
set_option linter.unusedVariables false
set_option linter.unusedSimpArgs false

def strs (ss : List ByteArray) : List Value := ss.map Value.string
theorem strs_length (ss : List ByteArray) : (strs ss).length = ss.length := by simp [strs]
theorem strs_one (ss : List ByteArray) : ∀ u ∈ strs ss, u.oneCell' = true := by
  intro u hu; simp [strs] at hu; obtain ⟨s, _, rfl⟩ := hu; rfl

theorem info9 : (Try.prog.info? 9).map (fun i => (i.zero, i.size, i.bytes)) = some (some (.string ByteArray.empty), 1, 16) := by kernel_rfl

set_option maxHeartbeats 400000 in
theorem clone_any (w : World) (g n cap : Nat) (ss : List ByteArray) (hn : ss.length = n) (h : w.ownsRow 0 9 1 (.slice (some ⟨g, 0, none⟩) n cap) n (strs ss)) (hpos : 0 < n) (hsz : n ≤ 16384) :
    Calls Try.prog 20 #[.slice (some ⟨g, 0, none⟩) n cap] w fun e w' => ∃ g' cap', e = .returned (.slice (some ⟨g', 0, none⟩) n cap') ∧ w.heap.size ≤ g' ∧ w'.ownsRow w.heap.size 9 1 (.slice (some ⟨g', 0, none⟩) n cap') n (strs ss) ∧ Below w.heap.size w w' := by
  obtain ⟨i0, hi, hz0, hz1, hz2⟩ := info_parts info9
  have hcells := h.cells (g := g) rfl
  have hg : g < w.heap.size := (h.lt g rfl).2
  have heq := fun w => Lib.run_eql_slice_nil (P := Try.prog) w 43 9 (some ⟨g, 0, none⟩) n cap 0 0 Try.underlying43
  go_enter Try.func20, Try.ntmps20
  go_wp2_with (at_builtin; refine wpList_append_own _ rfl _ _ 43 rfl w.heap.size 9 i0 (.string ByteArray.empty) 1 16 Try.underlying43 hi hz0 hz1 hz2 rfl (by decide) _ 0 [] rfl ?c0 ⟨g, 0, none⟩ n cap (strs ss) rfl ?c1 ?c2 ?c3 ?c4 ?c5 ?c6 ?_)
  case c0 => exact World.ownsRow_made w #[] 0 (Nat.le_refl _) (by unfold maxLen; omega) rfl
  case c1 => rw [strs_length]; omega
  case c2 => intro j u hu; have e := hcells j u hu; rw [Addr.add_lit] at e ⊢; rw [World.cell?_of_block (w := w) (Below.heap_alloc w _ _ hg)]; exact e
  case c3 => exact strs_one ss
  case c4 => unfold maxLen; omega
  case c5 => omega
  case c6 => simp
  · intro v' w1 hown hgr hne
    clear hcells h
    rcases hown.2 with ⟨rfl, _⟩ | ⟨g', cap', cur, rfl, hgb, hh, hr⟩
    · exact absurd rfl hne
    · go_wp2
      go_ret
      refine ⟨g', cap', rfl, hgb, hown, ?_⟩
      exact ((Below.refl _ _).alloc (Nat.le_refl _) _).grown hgr (by simp) (fun k hk => by simp [Value.ownBlock] at hk; omega)

theorem mask32 (m : Int) (h0 : 0 ≤ m) (h1 : m ≤ 16384) : bits .and .u64 m 4294967295 = m := by
  have h := bits_mask .u64 63 (by decide) (fun n a b => by rw [IntKind.wrap_u64]; have : (2 : Int) ^ 63 = 9223372036854775808 := by decide
                                                           omega) 32 (by decide) m h0 (by have : (2 : Int) ^ 63 = 9223372036854775808 := by decide
                                                                                          omega)
  have e : ((2 : Int) ^ 32 - 1) = 4294967295 := by decide
  have e2 : ((2 : Int) ^ 32) = 4294967296 := by decide
  rw [e, e2] at h
  rw [h]
  omega

set_option maxHeartbeats 400000 in
theorem mul64_any (w : World) (m : Int) (h0 : 0 ≤ m) (h1 : m ≤ 16384) :
    Calls Try.prog 24 #[.int .u64 1, .int .u64 m] w fun e w' => e = .returned (.tuple #[.int .u64 0, .int .u64 m]) ∧ w' = w := by
  have b1 := mask32 1 (by omega) (by omega)
  have b0 := mask32 0 (by omega) (by omega)
  have bm := mask32 m h0 h1
  have bq : m / 4294967296 = 0 := by omega
  go_enter Try.func24, Try.ntmps24
  go_wp2
  go_ret2
  exact ⟨rfl, rfl⟩

set_option maxHeartbeats 400000 in
theorem mul_any (w : World) (m : Int) (h0 : 0 ≤ m) (h1 : m ≤ 16384) :
    Calls Try.prog 21 #[.int .u64 1, .int .u64 m] w fun e w' => e = .returned (.tuple #[.int .u64 0, .int .u64 m]) ∧ w' = w := by
  go_enter Try.func21, Try.ntmps21
  go_wp2_with (go_at_call 24; refine (mul64_any _ _ h0 h1).mono ?_; rintro e w' ⟨rfl, rfl⟩)
  go_ret2
  exact ⟨rfl, rfl⟩
end Go.Proofs.Ytbhopjnolgfpnaa
