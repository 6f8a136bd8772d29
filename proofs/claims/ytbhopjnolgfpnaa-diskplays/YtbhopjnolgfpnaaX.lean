/-
  DiskPlays returns true for every number of blocks and every row of steps, and its arguments read behind the call as they read before.
  No condition.
-/
import Derived.Test.YtbhopjnolgfpnaaV
import Derived.ProofKit
import Derived.OpenShut
import Derived.ChangeOld
import Derived.Below
import Derived.Deep.Slices
namespace Go.Proofs.Ytbhopjnolgfpnaa
open Go.ChangeShapes Go.WideShapes Go.ChangeAt Go.RowKit Go.Deep
set_option linter.unusedVariables false
set_option linter.unusedSimpArgs false

theorem own : ownKnob Try.prog.godebug = none := by kernel_rfl
theorem laidOut : laidOutB Try.prog = true := by kernel_rfl
theorem cells32 : Try.prog.cellsOf 32 = 5 := by kernel_rfl
theorem cells3 : Try.prog.cellsOf 3 = 1 := by kernel_rfl
theorem cells5 : Try.prog.cellsOf 5 = 1 := by kernel_rfl
theorem cells4 : Try.prog.cellsOf 4 = 1 := by kernel_rfl

theorem plays_any (w : World) (blocks : Int) (a0 : Option Addr) (len cap : Nat) (st : Nat → Stp) (hst : StIn w a0 len w.heap.size st) :
    Calls Try.prog 3 #[.int .i64 blocks, .slice a0 len cap] w fun e w' => e = .returned (.bool true) ∧ Below w.heap.size w w' := by
  by_cases h : 50 < len
  · exact plays_long w blocks a0 len cap h
  · rcases (show (blocks < 1 ∨ 16384 < blocks) ∨ (20 < blocks ∧ blocks ≤ 16384) ∨ (1 ≤ blocks ∧ blocks ≤ 20) from by omega) with hb | ⟨hb, hb'⟩ | ⟨hb, hb'⟩
    · exact plays_none w blocks a0 len cap (by omega) hb
    · exact plays_many w blocks a0 len cap (by omega) hb hb'
    · obtain ⟨n, rfl⟩ := Int.eq_ofNat_of_zero_le (show 0 ≤ blocks by omega)
      exact plays_yes w n a0 len cap (by omega) (by omega) (by omega) st hst

section
variable {H : Type} {enc : TypeId × Value → H} {W : World} {base : Nat} {spare : Nat → Bool} {held : Bool}

theorem step_of {fuel : Nat} {cs : List Value} {x : DataW H × List MemPlace} (h : DataW.trod enc Try.prog W base spare held fuel 32 cs = some x) :
    ∃ s : Stp, cs = [.int .i64 s.what, .int .i64 s.i, .int .i64 s.n, .int .u8 s.fill, .bool s.short] ∧ -9223372036854775808 ≤ s.n ∧ s.n ≤ 9223372036854775807 ∧ 0 ≤ s.fill ∧ s.fill ≤ 255 := by
  obtain ⟨xs, n, _, rfl, hl, hlen, hf⟩ := DataW.trod_struct Try.underlying32 h
  rw [cells32] at hl
  match cs, hl with
  | [c0, c1, c2, c3, c4], _ =>
    match xs, hlen with
    | [y0, y1, y2, y3, y4], _ =>
      have h0 := hf 0 _ rfl
      have h1 := hf 1 _ rfl
      have h2 := hf 2 _ rfl
      have h3 := hf 3 _ rfl
      have h4 := hf 4 _ rfl
      simp [cells3, cells5, cells4] at h0 h1 h2 h3 h4
      obtain ⟨n0, e0, _, _⟩ := DataW.trod_int Try.underlying3 h0
      obtain ⟨n1, e1, _, _⟩ := DataW.trod_int Try.underlying3 h1
      obtain ⟨n2, e2, _, w2⟩ := DataW.trod_int Try.underlying3 h2
      obtain ⟨n3, e3, _, w3⟩ := DataW.trod_int Try.underlying5 h3
      obtain ⟨n4, e4, _⟩ := DataW.trod_bool Try.underlying4 h4
      have b2 : -9223372036854775808 ≤ n2 ∧ n2 ≤ 9223372036854775807 := by simpa [Lit.wf, IntKind.min, IntKind.max, IntKind.signed, IntKind.bits] using w2
      have b3 : 0 ≤ n3 ∧ n3 ≤ 255 := by simpa [Lit.wf, IntKind.min, IntKind.max, IntKind.signed, IntKind.bits] using w3
      simp at e0 e1 e2 e3 e4
      subst e0 e1 e2 e3 e4
      exact ⟨⟨n0, n1, n2, n3, n4⟩, rfl, b2.1, b2.2, b3.1, b3.2⟩
end

theorem steps_of {H : Type} {enc : TypeId × Value → H} {W : World} {v : Value} {d : DataW H} {ps : List MemPlace} {a0 : Option Addr} {len cap : Nat} (hv : v = .slice a0 len cap) (h : DataW.Trod enc Try.prog W 0 (fun _ => true) true 22 v d ps) : ∃ st, StIn W a0 len W.heap.size st := by
  subst hv
  obtain ⟨fuel, hf⟩ := h
  rcases open_slice Try.underlying22 hf with ⟨hcs, _⟩ | ⟨a, l, c, m, n, D, Pl, hcs, _, hl, _, hm, _, hx⟩
  · simp [Value.cells] at hcs
    obtain ⟨rfl, rfl, rfl⟩ := hcs
    exact ⟨fun _ => ⟨0, 0, 0, 0, false⟩, fun j hj => by omega⟩
  · simp [Value.cells] at hcs
    obtain ⟨rfl, rfl, rfl⟩ := hcs
    simp at hm
    subst hm
    have hs : ∀ j, j < len → ∃ s : Stp, ∃ b off, some a = some ⟨b, off, none⟩ ∧ b < W.heap.size ∧ W.cell? ⟨b, off + j * 5, none⟩ = some (.int .i64 s.what) ∧ W.cell? ⟨b, off + j * 5 + 1, none⟩ = some (.int .i64 s.i) ∧
      W.cell? ⟨b, off + j * 5 + 2, none⟩ = some (.int .i64 s.n) ∧ W.cell? ⟨b, off + j * 5 + 3, none⟩ = some (.int .u8 s.fill) ∧ W.cell? ⟨b, off + j * 5 + 4, none⟩ = some (.bool s.short) ∧
      -9223372036854775808 ≤ s.n ∧ s.n ≤ 9223372036854775807 ∧ 0 ≤ s.fill ∧ s.fill ≤ 255 := by
      intro j hj
      obtain ⟨cs, h1, h2⟩ := hx j (by omega)
      obtain ⟨s, rfl, h3⟩ := step_of h2
      rw [cells32] at h1
      obtain ⟨_, _, h4⟩ := World.cells?_some h1
      obtain ⟨b, off, spot⟩ := a
      have c0 := h4 0 (by omega)
      have c1 := h4 1 (by omega)
      have c2 := h4 2 (by omega)
      have c3 := h4 3 (by omega)
      have c4 := h4 4 (by omega)
      have hspot : spot = none := by
        obtain ⟨cs', h1', h2'⟩ := hx 0 (by omega)
        rw [cells32] at h1'
        obtain ⟨s', rfl, _⟩ := step_of h2'
        obtain ⟨_, _, h4'⟩ := World.cells?_some h1'
        simpa [Addr.add] using World.cell?_spot (h4' 0 (by omega))
      subst hspot
      simp only [Addr.add_lit] at c0 c1 c2 c3 c4
      refine ⟨s, b, off, rfl, ?_, c0, c1, c2, c3, c4, h3⟩
      exact World.block_lt_of_cell? W _ c0
    refine ⟨fun j => if hj : j < len then Classical.choose (hs j hj) else ⟨0, 0, 0, 0, false⟩, fun j hj => ?_⟩
    simp only [hj, dif_pos]
    exact Classical.choose_spec (hs j hj)

set_option maxRecDepth 100000 in
theorem lifted (os : Os) (started : os.Started) (H : Type) (enc : TypeId × Value → H) :
    ReturnsInHanded {} Try.checked os 3 .any (Rows.diskPlaysSpec.pre6 enc Try.prog Try.f3 Rows.diskPlaysRow.domain false) (Rows.diskPlaysSpec.post enc Try.prog Try.f3 false true false false) := by
  refine returnsInHanded_of_change (C := Try.checked) own started (by kernel_rfl) Try.func3
    (ChangeSpec.witness6 (enc := enc) (C := Try.checked) false ⟨#[], #[.int .i64 0, .slice none 0 0], []⟩ 8 (by kernel_rfl) (by kernel_rfl) (by kernel_rfl) (by kernel_rfl)) ?_
  intro W base args ds gs before hval0 hW hcnd _
  have hval : ∀ (j : Nat) t v, Try.f3.params[j]? = some t → args[j]? = some v → Value.okWide Try.prog W .any base t v := hval0
  have hW' := hW
  obtain ⟨p, q, hA0, hV, rfl, hfz, hnd⟩ := hW
  have hA : DataW.TrodAll enc Try.prog W 0 (fun _ => true) true Try.f3.params.toList args.toList ds p := hA0
  rw [Try.params3] at hA hval
  obtain ⟨v0, vs0, d0, ds0, p0, q0, hargs, rfl, rfl, h0, r0⟩ := trodAll_cons hA
  obtain ⟨v1, vs1, d1, ds1, p1, q1, rfl, rfl, rfl, h1, r1⟩ := trodAll_cons r0
  obtain ⟨rfl, rfl, rfl⟩ := trodAll_nil r1
  obtain rfl : args = #[v0, v1] := by cases args; simp_all
  obtain ⟨rfl, rfl⟩ := trodVars_none hV
  obtain ⟨a0, rfl, rfl, rfl, w0⟩ := open_int Try.underlying3 (hval 0 3 v0 rfl rfl) h0
  obtain ⟨a1, len1, cap1, rfl⟩ := okWide_slice Try.underlying22 (hval 1 22 v1 rfl rfl)
  have lt1 : ∀ x ∈ p1, x.block < W.heap.size := by obtain ⟨m, hm⟩ := h1; exact DataW.trod_lt m _ _ _ hm
  obtain ⟨st, hst⟩ := steps_of rfl h1
  clear hA0 hval0
  refine (plays_any W a0 a1 len1 cap1 st hst).mono fun e W' ⟨he, bel⟩ => ?_
  subst he
  exact ⟨_, rfl, _, _, _, [], _, [], hW', trodAll_mk1 (shut_bool Try.underlying4 _), (trodAll_cons_mk (shut_int Try.underlying3 w0) (trodAll_cons_mk (Below.trod laidOut (by kernel_rfl) (of_decide_eq_true (by kernel_rfl)) h1 bel lt1) trodAll_mk0)), rfl, bel.frame _, fun h => by cases h⟩

theorem over : Rows.diskPlaysRow.holds Try.pinned (OpenSpec.ofChange Rows.diskPlaysSpec) :=
  OpenClaim.holds_of_wide 3 Try.f3 rfl rfl rfl rfl rfl rfl rfl ⟨rfl, rfl, rfl, rfl, rfl⟩ rfl rfl rfl rfl rfl (by kernel_rfl) Try.func3 (by kernel_rfl)
    (of_decide_eq_true (by kernel_rfl)) (by unfold Func.isWrapper; first | (rw [if_pos (by decide +kernel)]; kernel_rfl) | (rw [if_neg (by decide +kernel)]; exact ⟨rfl, rfl⟩))
    (fun os started H enc _ => lifted os started H enc)

theorem diskPlays_holds : Rows.DiskPlaysSaid := over
#print axioms diskPlays_holds
end Go.Proofs.Ytbhopjnolgfpnaa
