/- Pairs of fields, told by ranging over a function. -/
import Derived.Test.YtenfgahedbeekaaJAC
import Derived.RangeFuncNested
import Derived.RangeFuncBound
import Derived.RangeFuncCalls
import Derived.RangeFuncLeaves
import Derived.Shelf.Abstract
import Derived.Shelf.RegionOpen
import Derived.WalkKit
import Derived.OwnWalkIn
import Derived.TacticsInMore
import Derived.LoopNIn
import Derived.LoopIn
import Derived.BigRegionIn
import Derived.ProofKit
import Derived.OpenShut
import Derived.ChangeOld
import Derived.ChangeMaps5
import Derived.Deep.Slices
import Derived.Deep.RegionHeld3
import Derived.Deep.LoopGhost
namespace Go.Proofs.Ytenfgahedbeekaa
open Go.RowKit Go.Deep Go.Shelf
set_option linter.unusedVariables false
set_option linter.unusedSimpArgs false
attribute [local go_sem] Oper.semAt_some


set_option maxRecDepth 100000 in
set_option maxHeartbeats 1000000 in
theorem pairs1_in {α : Type} (f g : α → Hd) (Z : List α) (F : Fence) (n : Nat) (h37 : F.fn 92) (hro : F.round = none) (hn : 1 ≤ n) (l B1 B2 n₀ : Nat) (a1 a2 : Option Addr) (n1 c1 n2 c2 : Nat) (hz : Z.length = min n1 n2) (l1 : n1 ≤ 1000) (l2 : n2 ≤ 1000)
    (J Jx : List α → World → Prop)
    (hY : ∀ pre x W, J pre W → pre.length < Z.length → YieldAt F (n - 1) Try.prog l (encP f g x) W fun e W' =>
      (e = .returned (.bool true) ∧ J (pre ++ [x]) W' ∧ Below n₀ W W') ∨ (e = .returned (.bool false) ∧ Jx (pre ++ [x]) W'))
    (W : World) (hn0 : n₀ ≤ W.heap.size) (hb1 : B1 < n₀) (hb2 : B2 < n₀) (hB1 : W.cell? ⟨B1, 0, none⟩ = some (.slice a1 n1 c1)) (hB2 : W.cell? ⟨B2, 0, none⟩ = some (.slice a2 n2 c2))
    (hJa : AbidesFrom W.heap.size J) (hr1 : VRd W a1 (Z.map f)) (hr2 : VRd W a2 (Z.map g)) (hl1 : Z ≠ [] → ∀ b off, a1 = some ⟨b, off, none⟩ → b < n₀) (hl2 : Z ≠ [] → ∀ b off, a2 = some ⟨b, off, none⟩ → b < n₀) (h0 : J [] W) :
    CallsIn F n Try.prog 92 #[.func (.yield l) #[] #[], .pointer (some ⟨B1, 0, none⟩), .pointer (some ⟨B2, 0, none⟩)] W fun e W' => (∃ v, e = .returned v) ∧
      ((∃ ys, ys = Z ∧ J ys W') ∨ (∃ pre, (∃ k, k ≤ Z.length ∧ pre = Z.take k) ∧ Jx pre W')) := by
  refine callsIn_of_wp Try.func92 rfl h37 ?_ hro
  simp only [Try.ntmps92, List.size_toArray, List.length_cons, List.length_nil, Nat.reduceAdd, Nat.reduceSub, Array.replicate_succ, Array.replicate_zero, List.push_toArray, List.append_toArray, List.nil_append, List.cons_append]
  generalize hm : Z.length = m at *
  have Hm := hid hm
  have hcase : (m < n1 ∧ n2 = m) ∨ (m ≤ n2 ∧ n1 = m) := by omega
  clear hm hz
  rcases hcase with ⟨hlt12, rfl⟩ | ⟨hle12, rfl⟩
  · gi_wp2
    gi_loopw [10] (fun i wr => ∃ k : Nat, k ≤ n2 ∧ i = .int .i64 k ∧ J (Z.take k) wr ∧ Below n₀ W wr)
      (fun i _ => n2 - (intOf i).toNat)
    case atStart => exact ⟨0, Nat.zero_le _, rfl, h0, Below.refl _ _⟩
    case round =>
      obtain ⟨k, hk, rfl, hJs, hnx⟩ := hrel
      by_cases hlt : k < n2
      · obtain ⟨x, hx⟩ : ∃ x, Z[k]? = some x := ⟨Z[k]'(by rw [Hm.out]; exact hlt), by rw [List.getElem?_eq_getElem]⟩
        have hne : Z ≠ [] := by rintro rfl; simp at hx
        obtain ⟨b1, o1, rfl, e1⟩ := hr1 k (f x) (by simp [hx])
        obtain ⟨b2, o2, rfl, e2⟩ := hr2 k (g x) (by simp [hx])
        have q1 : b1 < n₀ := hl1 hne _ _ rfl
        have q2 : b2 < n₀ := hl2 hne _ _ rfl
        have hc1 := (hnx.cell (p := ⟨B1, 0, none⟩) hb1).trans hB1
        have hc2 := (hnx.cell (p := ⟨B2, 0, none⟩) hb2).trans hB2
        have x0 := (hnx.cell (p := ⟨b1, o1 + k * 5 + 0, none⟩) q1).trans (e1 0 (by omega))
        have x1 := (hnx.cell (p := ⟨b1, o1 + k * 5 + 1, none⟩) q1).trans (e1 1 (by omega))
        have x2 := (hnx.cell (p := ⟨b1, o1 + k * 5 + 2, none⟩) q1).trans (e1 2 (by omega))
        have x3 := (hnx.cell (p := ⟨b1, o1 + k * 5 + 3, none⟩) q1).trans (e1 3 (by omega))
        have x4 := (hnx.cell (p := ⟨b1, o1 + k * 5 + 4, none⟩) q1).trans (e1 4 (by omega))
        have y0 := (hnx.cell (p := ⟨b2, o2 + k * 5 + 0, none⟩) q2).trans (e2 0 (by omega))
        have y1 := (hnx.cell (p := ⟨b2, o2 + k * 5 + 1, none⟩) q2).trans (e2 1 (by omega))
        have y2 := (hnx.cell (p := ⟨b2, o2 + k * 5 + 2, none⟩) q2).trans (e2 2 (by omega))
        have y3 := (hnx.cell (p := ⟨b2, o2 + k * 5 + 3, none⟩) q2).trans (e2 3 (by omega))
        have y4 := (hnx.cell (p := ⟨b2, o2 + k * 5 + 4, none⟩) q2).trans (e2 4 (by omega))
        obtain ⟨fn, tmps, assign, body, hy, hRd⟩ := hY _ x wr.drew (hJa _ _ _ none hJs ⟨rfl, rfl, rfl, Nat.le_refl _, fun _ _ _ => rfl⟩ (by simp)) (by rw [List.length_take, Hm.out]; omega)
        have Htk : Hid (Z.take (k + 1) = Z.take k ++ [x]) := by refine hid ?_; rw [List.take_add_one, hx]; rfl
        have hRd' : RoundIn F (n - 1) Try.prog l fn tmps assign body wr.drew (fun e W' => ∃ b : Bool, e = .returned (.bool b) ∧ ((b = true → J (Z.take k ++ [x]) W' ∧ Below n₀ wr.drew W') ∧ (b = false → Jx (Z.take k ++ [x]) W'))) := by
          refine hRd.mono ?_
          rintro e W' (⟨rfl, h1, h2⟩ | ⟨rfl, h1⟩)
          · exact ⟨true, rfl, ⟨fun _ => ⟨h1, h2⟩, fun h => (by cases h)⟩⟩
          · exact ⟨false, rfl, ⟨fun h => (by cases h), fun _ => h1⟩⟩
        clear hRd
        simp only [encP, Hd.v] at hy
        generalize f x = fx at *
        generalize g x = gx at *
        simp only [Hd.cs, List.getElem?_cons_zero, List.getElem?_cons_succ, Nat.add_zero] at x0 x1 x2 x3 x4 y0 y1 y2 y3 y4
        have HRd := hid hRd'
        have Hnx := hid hnx
        have kn1 : k < n1 := by omega
        have kn2 : k < n2 := by omega
        clear e1 e2 hr1 hr2 hl1 hl2 hY hRd' hnx hJs hJa h0 hx hne hB1 hB2 q1 q2
        gi_wp2
        refine wpIn_region_any (by kernel_rfl) ?_
        change wpAnyIn _ _ _ _ pops _ _ _ _ (World.drew _)
        refine pops_reads F n hro wr.drew l B1 B2 k b1 o1 n1 c1 b2 o2 n2 c2 fx gx _ _ _ _ _ _ _ _ _ _ _ hc1 hc2 kn1 kn2 l1 l2 x0 x1 x2 x3 x4 y0 y1 y2 y3 y4 ?hend 11 false false false false false false false false false _ _ _ _ _ _ _ _ _ _ _ (fun h => (by cases h)) (fun h => (by cases h)) (fun h => (by cases h)) (fun h => (by cases h)) (fun h => (by cases h)) (fun h => (by cases h)) (fun h => (by cases h)) (fun h => (by cases h)) (fun h => (by cases h)) (fun h => (by cases h)) (fun h => (by cases h)) (fun h => (by cases h)) (fun h => (by cases h)) rfl
        case hend =>
          intro v22 v23
          clear x0 x1 x2 x3 x4 y0 y1 y2 y3 y4 hc1 hc2
          refine wpAnyIn_ready (rs := [9]) (by kernel_rfl) (by simp) (AllReadyIn.cons rfl (fun K hK => ?_) AllReadyIn.nil)
          go_simp
          refine (Hid.out HRd).mono ?_
          rintro e W3 ⟨bb, rfl, hor⟩
          refine hK _ _ ?_
          clear hK K
          refine wpAnyIn_ready (rs := [10]) (by kernel_rfl) (by simp) (AllReadyIn.cons rfl (fun K hK => ?_) AllReadyIn.nil)
          go_simp
          refine hK _ _ ?_
          clear hK K
          refine wpAnyIn_done (by kernel_rfl) ?_ 0
          cases bb with
          | true =>
            have hor' := hor.1 rfl
            gi_wp2
            go_roundw
            case rel => exact ⟨k + 1, by omega, by go_num, by rw [Htk.out]; exact hor'.1, Hnx.out.drew.trans hor'.2⟩
            case measure => simp [intOf]; omega
          | false =>
            have hor' := hor.2 rfl
            gi_wp2
            refine bodyPost_ret (results_none rfl _ _ _) rfl ?_
            exact ⟨⟨_, rfl⟩, .inr ⟨_, ⟨k + 1, by omega, Htk.out.symm⟩, hor'⟩⟩
      · obtain rfl : k = n2 := by omega
        gi_wp2
        go_end0
        exact ⟨⟨_, rfl⟩, .inl ⟨_, rfl, by rw [← Hm.out, List.take_length] at hJs; exact hJs⟩⟩
  · gi_wp2
    gi_loopw [10] (fun i wr => ∃ k : Nat, k ≤ n1 ∧ i = .int .i64 k ∧ J (Z.take k) wr ∧ Below n₀ W wr)
      (fun i _ => n1 - (intOf i).toNat)
    case atStart => exact ⟨0, Nat.zero_le _, rfl, h0, Below.refl _ _⟩
    case round =>
      obtain ⟨k, hk, rfl, hJs, hnx⟩ := hrel
      by_cases hlt : k < n1
      · obtain ⟨x, hx⟩ : ∃ x, Z[k]? = some x := ⟨Z[k]'(by rw [Hm.out]; exact hlt), by rw [List.getElem?_eq_getElem]⟩
        have hne : Z ≠ [] := by rintro rfl; simp at hx
        obtain ⟨b1, o1, rfl, e1⟩ := hr1 k (f x) (by simp [hx])
        obtain ⟨b2, o2, rfl, e2⟩ := hr2 k (g x) (by simp [hx])
        have q1 : b1 < n₀ := hl1 hne _ _ rfl
        have q2 : b2 < n₀ := hl2 hne _ _ rfl
        have hc1 := (hnx.cell (p := ⟨B1, 0, none⟩) hb1).trans hB1
        have hc2 := (hnx.cell (p := ⟨B2, 0, none⟩) hb2).trans hB2
        have x0 := (hnx.cell (p := ⟨b1, o1 + k * 5 + 0, none⟩) q1).trans (e1 0 (by omega))
        have x1 := (hnx.cell (p := ⟨b1, o1 + k * 5 + 1, none⟩) q1).trans (e1 1 (by omega))
        have x2 := (hnx.cell (p := ⟨b1, o1 + k * 5 + 2, none⟩) q1).trans (e1 2 (by omega))
        have x3 := (hnx.cell (p := ⟨b1, o1 + k * 5 + 3, none⟩) q1).trans (e1 3 (by omega))
        have x4 := (hnx.cell (p := ⟨b1, o1 + k * 5 + 4, none⟩) q1).trans (e1 4 (by omega))
        have y0 := (hnx.cell (p := ⟨b2, o2 + k * 5 + 0, none⟩) q2).trans (e2 0 (by omega))
        have y1 := (hnx.cell (p := ⟨b2, o2 + k * 5 + 1, none⟩) q2).trans (e2 1 (by omega))
        have y2 := (hnx.cell (p := ⟨b2, o2 + k * 5 + 2, none⟩) q2).trans (e2 2 (by omega))
        have y3 := (hnx.cell (p := ⟨b2, o2 + k * 5 + 3, none⟩) q2).trans (e2 3 (by omega))
        have y4 := (hnx.cell (p := ⟨b2, o2 + k * 5 + 4, none⟩) q2).trans (e2 4 (by omega))
        obtain ⟨fn, tmps, assign, body, hy, hRd⟩ := hY _ x wr.drew (hJa _ _ _ none hJs ⟨rfl, rfl, rfl, Nat.le_refl _, fun _ _ _ => rfl⟩ (by simp)) (by rw [List.length_take, Hm.out]; omega)
        have Htk : Hid (Z.take (k + 1) = Z.take k ++ [x]) := by refine hid ?_; rw [List.take_add_one, hx]; rfl
        have hRd' : RoundIn F (n - 1) Try.prog l fn tmps assign body wr.drew (fun e W' => ∃ b : Bool, e = .returned (.bool b) ∧ ((b = true → J (Z.take k ++ [x]) W' ∧ Below n₀ wr.drew W') ∧ (b = false → Jx (Z.take k ++ [x]) W'))) := by
          refine hRd.mono ?_
          rintro e W' (⟨rfl, h1, h2⟩ | ⟨rfl, h1⟩)
          · exact ⟨true, rfl, ⟨fun _ => ⟨h1, h2⟩, fun h => (by cases h)⟩⟩
          · exact ⟨false, rfl, ⟨fun h => (by cases h), fun _ => h1⟩⟩
        clear hRd
        simp only [encP, Hd.v] at hy
        generalize f x = fx at *
        generalize g x = gx at *
        simp only [Hd.cs, List.getElem?_cons_zero, List.getElem?_cons_succ, Nat.add_zero] at x0 x1 x2 x3 x4 y0 y1 y2 y3 y4
        have HRd := hid hRd'
        have Hnx := hid hnx
        have kn1 : k < n1 := by omega
        have kn2 : k < n2 := by omega
        clear e1 e2 hr1 hr2 hl1 hl2 hY hRd' hnx hJs hJa h0 hx hne hB1 hB2 q1 q2
        gi_wp2
        refine wpIn_region_any (by kernel_rfl) ?_
        change wpAnyIn _ _ _ _ pops _ _ _ _ (World.drew _)
        refine pops_reads F n hro wr.drew l B1 B2 k b1 o1 n1 c1 b2 o2 n2 c2 fx gx _ _ _ _ _ _ _ _ _ _ _ hc1 hc2 kn1 kn2 l1 l2 x0 x1 x2 x3 x4 y0 y1 y2 y3 y4 ?hend 11 false false false false false false false false false _ _ _ _ _ _ _ _ _ _ _ (fun h => (by cases h)) (fun h => (by cases h)) (fun h => (by cases h)) (fun h => (by cases h)) (fun h => (by cases h)) (fun h => (by cases h)) (fun h => (by cases h)) (fun h => (by cases h)) (fun h => (by cases h)) (fun h => (by cases h)) (fun h => (by cases h)) (fun h => (by cases h)) (fun h => (by cases h)) rfl
        case hend =>
          intro v22 v23
          clear x0 x1 x2 x3 x4 y0 y1 y2 y3 y4 hc1 hc2
          refine wpAnyIn_ready (rs := [9]) (by kernel_rfl) (by simp) (AllReadyIn.cons rfl (fun K hK => ?_) AllReadyIn.nil)
          go_simp
          refine (Hid.out HRd).mono ?_
          rintro e W3 ⟨bb, rfl, hor⟩
          refine hK _ _ ?_
          clear hK K
          refine wpAnyIn_ready (rs := [10]) (by kernel_rfl) (by simp) (AllReadyIn.cons rfl (fun K hK => ?_) AllReadyIn.nil)
          go_simp
          refine hK _ _ ?_
          clear hK K
          refine wpAnyIn_done (by kernel_rfl) ?_ 0
          cases bb with
          | true =>
            have hor' := hor.1 rfl
            gi_wp2
            go_roundw
            case rel => exact ⟨k + 1, by omega, by go_num, by rw [Htk.out]; exact hor'.1, Hnx.out.drew.trans hor'.2⟩
            case measure => simp [intOf]; omega
          | false =>
            have hor' := hor.2 rfl
            gi_wp2
            refine bodyPost_ret (results_none rfl _ _ _) rfl ?_
            exact ⟨⟨_, rfl⟩, .inr ⟨_, ⟨k + 1, by omega, Htk.out.symm⟩, hor'⟩⟩
      · obtain rfl : k = n1 := by omega
        gi_wp2
        go_end0
        exact ⟨⟨_, rfl⟩, .inl ⟨_, rfl, by rw [← Hm.out, List.take_length] at hJs; exact hJs⟩⟩

theorem pairs_said : PairsSaid := fun f g Z n hn B1 B2 n₀ a1 a2 n1 c1 n2 c2 hz l1 l2 w hn0 hb1 hb2 hB1 hB2 hr1 hr2 hl1 hl2 => fun l J Jx W hW hJa _ hY h0 =>
  pairs1_in f g Z Fence.wide n trivial rfl hn l B1 B2 n₀ a1 a2 n1 c1 n2 c2 hz l1 l2 J Jx hY W (Nat.le_trans hn0 hW.size) hb1 hb2 ((hW.cell (p := ⟨B1, 0, none⟩) (Nat.lt_of_lt_of_le hb1 hn0)).trans hB1) ((hW.cell (p := ⟨B2, 0, none⟩) (Nat.lt_of_lt_of_le hb2 hn0)).trans hB2) hJa (hr1.below (Nat.le_refl _) hW) (hr2.below (Nat.le_refl _) hW) hl1 hl2 h0
theorem compare_any : ∀ (k : Nat) (w : World) (s t : VT k), Rds k w s → Rds k w t → Calls Try.prog 47 #[(hdT k s).v, (hdT k t).v] w fun e w' => e = .returned (.int .i64 (cmpT k s t)) ∧ Below w.heap.size w w'
  | 0, _, _, _, h, _ => h.elim
  | k + 1, w, s, t, hs, ht => compare_step pairs_said k (compare_any k) w s t hs ht
end Go.Proofs.Ytenfgahedbeekaa

namespace Go.Proofs.Ytenfgahedbeekaa
open Go.ChangeShapes Go.WideShapes Go.ChangeAt Go.RowKit Go.Deep
set_option linter.unusedVariables false
set_option linter.unusedSimpArgs false

theorem cells31 : Try.prog.cellsOf 31 = 5 := by kernel_rfl
theorem cells3 : Try.prog.cellsOf 3 = 1 := by kernel_rfl
theorem cells2 : Try.prog.cellsOf 2 = 1 := by kernel_rfl
theorem cells9 : Try.prog.cellsOf 9 = 1 := by kernel_rfl
theorem cells29 : Try.prog.cellsOf 29 = 1 := by kernel_rfl

section
variable {H : Type} {enc : TypeId × Value → H} {W : World}

/- What the reading of a slice of values tells. -/
def Trd (enc : TypeId × Value → H) (W : World) (a : Option Addr) (n cap : Nat) : Prop := ∃ fuel x, DataW.trod enc Try.prog W 0 (fun _ => true) true fuel 29 [.slice a n cap] = some x

set_option maxRecDepth 100000 in
theorem val_of {fuel : Nat} {cs : List Value} {x : DataW H × List MemPlace} (h : DataW.trod enc Try.prog W 0 (fun _ => true) true fuel 31 cs = some x) :
    ∃ h : Hd, cs = h.cs ∧ h.In ∧ Trd enc W h.a h.n h.cap := by
  obtain ⟨xs, n, _, rfl, hl, hlen, hf⟩ := DataW.trod_struct Try.underlying31 h
  rw [cells31] at hl
  match cs, hl with
  | [c0, c1, c2, c3, c4], _ =>
    match xs, hlen with
    | [y0, y1, y2, y3, y4], _ =>
      have h0 := hf 0 _ rfl
      have h1 := hf 1 _ rfl
      have h2 := hf 2 _ rfl
      have h3 := hf 3 _ rfl
      have h4 := hf 4 _ rfl
      simp [cells3, cells2, cells9, cells29] at h0 h1 h2 h3 h4
      obtain ⟨n0, e0, _, w0⟩ := DataW.trod_int Try.underlying3 h0
      obtain ⟨n1, e1, _, w1⟩ := DataW.trod_int Try.underlying2 h1
      obtain ⟨n2, e2, _, w2⟩ := DataW.trod_string Try.underlying9 h2
      obtain ⟨n3, e3, _, w3⟩ := DataW.trod_int Try.underlying3 h3
      have b0 : -9223372036854775808 ≤ n0 ∧ n0 ≤ 9223372036854775807 := by simpa [Lit.wf, IntKind.min, IntKind.max, IntKind.signed, IntKind.bits] using w0
      have b1 : -9223372036854775808 ≤ n1 ∧ n1 ≤ 9223372036854775807 := by simpa [Lit.wf, IntKind.min, IntKind.max, IntKind.signed, IntKind.bits] using w1
      have b3 : -9223372036854775808 ≤ n3 ∧ n3 ≤ 9223372036854775807 := by simpa [Lit.wf, IntKind.min, IntKind.max, IntKind.signed, IntKind.bits] using w3
      simp at e0 e1 e2 e3
      subst e0 e1 e2 e3
      have ht : n2.size ≤ 9223372036854775807 := by unfold maxLen at w2; omega
      rcases open_slice Try.underlying29 h4 with ⟨hcs, _⟩ | ⟨a, l, c, m, n', D, Pl, hcs, _, hl, hm', hm, _, hx⟩
      · simp at hcs
        subst hcs
        exact ⟨⟨n0, n1, n2, n3, none, 0, 0⟩, rfl, ⟨b1.1, b1.2, b0.1, b0.2, b3.1, b3.2, ht, by simp⟩, _, _, h4⟩
      · simp at hcs
        subst hcs
        refine ⟨⟨n0, n1, n2, n3, some a, l, c⟩, rfl, ⟨b1.1, b1.2, b0.1, b0.2, b3.1, b3.2, ht, ?_⟩, _, _, h4⟩
        simp only
        unfold maxLen at hm'
        omega

set_option maxRecDepth 100000 in
theorem row_of {a0 : Option Addr} {len cap : Nat} (h : Trd enc W a0 len cap) : ∃ hs : List Hd, hs.length = len ∧ VRd W a0 hs ∧ ∀ h ∈ hs, h.In ∧ Trd enc W h.a h.n h.cap := by
  obtain ⟨fuel, x, hf⟩ := h
  rcases open_slice Try.underlying29 hf with ⟨hcs, _⟩ | ⟨a, l, c, m, n, D, Pl, hcs, _, hl, _, hm, _, hx⟩
  · simp at hcs
    obtain ⟨rfl, rfl, rfl⟩ := hcs
    exact ⟨[], rfl, fun j x hx => by simp at hx, fun h hh => by simp at hh⟩
  · simp at hcs
    obtain ⟨rfl, rfl, rfl⟩ := hcs
    simp at hm
    subst hm
    have hs : ∀ j, j < len → ∃ h : Hd, (∃ b off, some a = some ⟨b, off, none⟩ ∧ ∀ i, i < 5 → W.cell? ⟨b, off + j * 5 + i, none⟩ = h.cs[i]?) ∧ h.In ∧ Trd enc W h.a h.n h.cap := by
      intro j hj
      obtain ⟨cs, h1, h2⟩ := hx j (by omega)
      obtain ⟨s, rfl, h3, h3'⟩ := val_of h2
      rw [cells31] at h1
      obtain ⟨_, _, h4⟩ := World.cells?_some h1
      obtain ⟨b, off, spot⟩ := a
      have hspot : spot = none := by
        obtain ⟨cs', h1', h2'⟩ := hx 0 (by omega)
        rw [cells31] at h1'
        obtain ⟨s', rfl, _⟩ := val_of h2'
        obtain ⟨_, _, h4'⟩ := World.cells?_some h1'
        have := h4' 0 (by omega)
        simpa [Addr.add] using World.cell?_spot (v := .int .i64 s'.kind) (this.trans rfl)
      subst hspot
      refine ⟨s, ⟨b, off, rfl, fun i hi => ?_⟩, h3, h3'⟩
      have := h4 i hi
      simp only [Addr.add_lit] at this
      exact this
    refine ⟨(List.range len).map (fun j => if hj : j < len then Classical.choose (hs j hj) else ⟨0, 0, ByteArray.empty, 0, none, 0, 0⟩), by simp, ?_, ?_⟩
    · intro j h hjh
      simp only [List.getElem?_map, Option.map_eq_some_iff] at hjh
      obtain ⟨j', hj', rfl⟩ := hjh
      have hj : j < len := by have := (List.getElem?_eq_some_iff.1 hj').1; simpa using this
      have : j' = j := by simpa [hj] using hj'.symm
      subst this
      simp only [hj, dif_pos]
      exact (Classical.choose_spec (hs j' hj)).1
    · intro h hh
      simp only [List.mem_map, List.mem_range] at hh
      obtain ⟨j, hj, rfl⟩ := hh
      simp only [hj, dif_pos]
      exact (Classical.choose_spec (hs j hj)).2

theorem deep_of {h : Hd} (hin : h.In) (ht : Trd enc W h.a h.n h.cap) : ∃ fs gs, Deep W h fs gs := by
  obtain ⟨fs, h1, h2, h3⟩ := row_of ht
  have hg : ∀ j : Nat, ∃ g : List Hd, ∀ f, fs[j]? = some f → (f.n = g.length ∧ VRd W f.a g ∧ ∀ q ∈ g, q.In) := by
    intro j
    cases hj : fs[j]? with
    | none => exact ⟨[], fun f e => by cases e⟩
    | some f =>
      obtain ⟨g, g1, g2, g3⟩ := row_of (h3 f (List.mem_of_getElem? hj)).2
      exact ⟨g, fun f' e => by cases e; exact ⟨g1.symm, g2, fun q hq => (g3 q hq).1⟩⟩
  refine ⟨fs, fun j => if hj : j < fs.length then Classical.choose (hg j) else [], hin, h1.symm, h2, fun f hf => (h3 f hf).1, ?_, ?_, ?_⟩
  · intro j f e
    have hj : j < fs.length := (List.getElem?_eq_some_iff.1 e).1
    simp only [hj, dif_pos]
    exact (Classical.choose_spec (hg j) f e).1
  · intro j f e
    have hj : j < fs.length := (List.getElem?_eq_some_iff.1 e).1
    simp only [hj, dif_pos]
    exact (Classical.choose_spec (hg j) f e).2.1
  · intro j g hg'
    by_cases hj : j < fs.length
    · simp only [hj, dif_pos] at hg'
      exact (Classical.choose_spec (hg j) fs[j] (by simp [hj])).2.2 g hg'
    · simp [hj] at hg'
end

/- A value that isn't great, as a tree of three levels. -/
def mkV (k : Nat) (h : Hd) (l : List (VT k)) : VT (k + 1) := (h, l)
theorem hd_mkV (k : Nat) (h : Hd) (l : List (VT k)) : hdT (k + 1) (mkV k h l) = h := rfl
theorem rds_mkV {k : Nat} {w : World} {h : Hd} {l : List (VT k)} (h1 : h.In) (h2 : h.n = l.length) (h3 : h.n ≤ 1000) (h4 : VRd w h.a (l.map (hdT k))) (h5 : ∀ u ∈ l, Rds k w u) : Rds (k + 1) w (mkV k h l) := ⟨h1, h2, h3, h4, h5⟩
theorem map_leaf (l : List Hd) : (l.map (fun g => mkV 0 g [])).map (hdT 1) = l := by
  induction l with
  | nil => rfl
  | cons x l ih => simp only [List.map_cons, hd_mkV, ih]
theorem map_two (fs : List Hd) (d : Hd) (f : Nat → List (VT 1)) : ((List.range fs.length).map (fun j => mkV 1 (fs.getD j d) (f j))).map (hdT 2) = fs := by
  apply List.ext_getElem?
  intro j
  simp only [List.getElem?_map]
  by_cases hj : j < fs.length
  · simp [hj, hd_mkV]
  · simp [hj]
theorem tree_of {w : World} {h : Hd} (s : Sm w h) : ∃ t : VT 3, hdT 3 t = h ∧ Rds 3 w t := by
  obtain ⟨fs, gs, d, n1, n2, n3⟩ := s
  refine ⟨mkV 2 h ((List.range fs.length).map (fun j => mkV 1 (fs.getD j h) ((gs j).map (fun g => mkV 0 g [])))), rfl, rds_mkV d.hin (by simp [d.n]) (by omega) (by rw [map_two]; exact d.rd) ?_⟩
  intro u hu
  simp only [List.mem_map, List.mem_range] at hu
  obtain ⟨j, hj, rfl⟩ := hu
  have hfj : fs[j]? = some fs[j] := by simp [hj]
  have hget : fs.getD j h = fs[j] := by simp [hj]
  rw [hget]
  refine rds_mkV (d.fin _ (List.getElem_mem hj)) (by rw [List.length_map]; exact d.gn j _ hfj) (by have := n2 _ (List.getElem_mem hj); omega) (by rw [map_leaf]; exact d.grd j _ hfj) ?_
  intro u hu
  simp only [List.mem_map] at hu
  obtain ⟨g, hg, rfl⟩ := hu
  have h0 := n3 j hj g hg
  exact rds_mkV (d.gin j g hg) h0 (by omega) (fun i x hx => by simp at hx) (fun u hu => by cases hu)
end Go.Proofs.Ytenfgahedbeekaa

namespace Go.Proofs.Ytenfgahedbeekaa
open Go.RowKit Go.Deep
set_option linter.unusedVariables false
set_option linter.unusedSimpArgs false


/- A row of values that lies whole in a block. -/
def SRow (W : World) (g : Nat) (hs : List Hd) : Prop := ∃ cur, W.heap[g]? = some (.cells cur 31 (0, 0)) ∧ ∀ (j : Nat) (h : Hd), hs[j]? = some h → ∀ i, i < 5 → cur[j * 5 + i]? = h.cs[i]?
theorem SRow.cell {W : World} {g : Nat} {hs : List Hd} (s : SRow W g hs) {j : Nat} {h : Hd} (e : hs[j]? = some h) (i : Nat) (hi : i < 5) : W.cell? ⟨g, j * 5 + i, none⟩ = h.cs[i]? := by
  obtain ⟨cur, h1, h2⟩ := s
  rw [cellOf h1]; exact h2 j h e i hi
theorem SRow.below {W W' : World} {g : Nat} {hs : List Hd} (s : SRow W g hs) (k : Below W.heap.size W W') : SRow W' g hs := by
  obtain ⟨cur, h1, h2⟩ := s
  exact ⟨cur, (k.block g (Array.getElem?_eq_some_iff.1 h1).1).trans h1, h2⟩
theorem SRow.lt {W : World} {g : Nat} {hs : List Hd} (s : SRow W g hs) : g < W.heap.size := by
  obtain ⟨cur, h1, h2⟩ := s
  exact (Array.getElem?_eq_some_iff.1 h1).1
theorem VRow.srow {W : World} {B : Nat} {v : Value} {hs : List Hd} (h : VRow W B v hs) (hne : hs ≠ []) : ∃ g cap, v = .slice (some ⟨g, 0, none⟩) hs.length cap ∧ hs.length ≤ cap ∧ B ≤ g ∧ SRow W g hs := by
  rcases h.2 with ⟨_, e⟩ | ⟨g, cap, cur, rfl, hb, hgg, hc, hm, hs', ht⟩
  · exact absurd (List.eq_nil_of_length_eq_zero e) hne
  · refine ⟨g, cap, rfl, hc, hb, cur, hgg, fun j x e i hi => ?_⟩
    have hj : j < hs.length := (List.getElem?_eq_some_iff.1 e).1
    have hv := vv_at hs j x e i hi
    rw [← hv, ← ht, List.getElem?_take, if_pos (by omega)]
    simp
/- Five cells of a row written. -/
def five (w : World) (b o : Nat) (h : Hd) : World := ((((w.setCell ⟨b, o, none⟩ (.int .i64 h.kind)).setCell ⟨b, o + 1, none⟩ (.int .i64 h.int)).setCell ⟨b, o + 2, none⟩ (.string h.text)).setCell ⟨b, o + 3, none⟩ (.int .i64 h.rc)).setCell ⟨b, o + 4, none⟩ (.slice h.a h.n h.cap)
theorem heap_set_at {w : World} {b : Nat} {c : Array Value} {e : TypeId} {f : Nat × Nat} (h : w.heap[b]? = some (.cells c e f)) (i : Nat) (u : Value) :
    (w.setCell ⟨b, i, none⟩ u).heap[b]? = some (.cells (c.setIfInBounds i u) e f) := by
  simp [World.setCell, Array.getElem?_modify, h]
theorem SRow.five {W : World} {g : Nat} {hs : List Hd} (s : SRow W g hs) {k : Nat} (hk : k < hs.length) (x : Hd) : SRow (five W g (k * 5) x) g (hs.set k x) := by
  obtain ⟨cur, h1, h2⟩ := s
  refine ⟨_, heap_set_at (heap_set_at (heap_set_at (heap_set_at (heap_set_at h1 _ _) _ _) _ _) _ _) _ _, fun j y e i hi => ?_⟩
  have hsz : ∀ i, i < 5 → k * 5 + i < cur.size := fun i hi => by
    have := h2 k hs[k] (by simp [hk]) i hi
    rw [show (hs[k]).cs[i]? = some ((hs[k]).cs[i]'(by simp [Hd.cs]; omega)) from by simp [Hd.cs]] at this
    exact (Array.getElem?_eq_some_iff.1 this).1
  have s0 := hsz 0 (by omega)
  have s1 := hsz 1 (by omega)
  have s2 := hsz 2 (by omega)
  have s3 := hsz 3 (by omega)
  have s4 := hsz 4 (by omega)
  simp only [Array.getElem?_setIfInBounds, Array.size_setIfInBounds]
  by_cases hjk : j = k
  · subst hjk
    rw [List.getElem?_set_self hk] at e
    cases e
    match i, hi with
    | 0, _ => simp [Hd.cs]; omega
    | 1, _ => simp [Hd.cs]; omega
    | 2, _ => simp [Hd.cs]; omega
    | 3, _ => simp [Hd.cs]; omega
    | 4, _ => simp [Hd.cs]; omega
  · rw [List.getElem?_set_ne (fun e => hjk e.symm)] at e
    rw [if_neg (by omega), if_neg (by omega), if_neg (by omega), if_neg (by omega), if_neg (by omega)]
    exact h2 j y e i hi
theorem five_below {B : Nat} {w0 w : World} (hb : Below B w0 w) {b o : Nat} (hB : B ≤ b) (h : Hd) : Below B w0 (five w b o h) := by
  unfold Go.Proofs.Ytenfgahedbeekaa.five
  exact ((((hb.setCell hB _).setCell hB _).setCell hB _).setCell hB _).setCell hB _

/- In order, but for the one at k. -/
end Go.Proofs.Ytenfgahedbeekaa

namespace Go.Proofs.Ytenfgahedbeekaa
open Go.RowKit Go.Deep Go.Shelf
set_option linter.unusedVariables false
set_option linter.unusedSimpArgs false

theorem five_heap (w : World) (b o : Nat) (h : Hd) {k : Nat} (hk : k ≠ b) : (five w b o h).heap[k]? = w.heap[k]? := by
  unfold Go.Proofs.Ytenfgahedbeekaa.five
  rw [Below.heap_setCell _ _ _ _ hk, Below.heap_setCell _ _ _ _ hk, Below.heap_setCell _ _ _ _ hk, Below.heap_setCell _ _ _ _ hk, Below.heap_setCell _ _ _ _ hk]
theorem VRow.five {w : World} {B : Nat} {v : Value} {hs : List Hd} {g : Nat} (h : VRow w B v hs) (hg : v.ownBlock = some g) {k : Nat} (hk : k < hs.length) (x : Hd) : VRow (five w g (k * 5) x) B v (hs.set k x) := by
  have h1 := h.1
  rcases h.2 with ⟨rfl, _⟩ | ⟨g', cap, cur, rfl, hb, hgg, hc, hm, hs', ht⟩
  · cases hg
  · cases hg
    have hS : SRow w g' hs := ⟨cur, hgg, fun j y e i hi => by
      have hj : j < hs.length := (List.getElem?_eq_some_iff.1 e).1
      rw [← vv_at hs j y e i hi, ← ht, List.getElem?_take, if_pos (by omega)]; simp⟩
    obtain ⟨cur', h2, h3⟩ := hS.five hk x
    have h4 := heap_set_at (heap_set_at (heap_set_at (heap_set_at (heap_set_at hgg (k * 5) (.int .i64 x.kind)) (k * 5 + 1) (.int .i64 x.int)) (k * 5 + 2) (.string x.text)) (k * 5 + 3) (.int .i64 x.rc)) (k * 5 + 4) (.slice x.a x.n x.cap)
    have h5 := h2
    unfold Go.Proofs.Ytenfgahedbeekaa.five at h5
    rw [h4] at h5
    have hsz : cur'.size = cur.size := by
      simp only [Option.some.injEq, Obj.cells.injEq] at h5
      rw [← h5.1]; simp
    refine ⟨by rw [vv_length], .inr ⟨g', cap, cur', by rw [List.length_set], hb, h2, by rw [List.length_set]; exact hc, hm, by rw [hsz]; exact hs', ?_⟩⟩
    rw [List.length_set]
    refine List.ext_getElem? fun j => ?_
    rw [List.getElem?_take]
    split
    · rename_i hj
      have hlt : j / 5 < (hs.set k x).length := by rw [List.length_set]; omega
      have e := h3 (j / 5) (hs.set k x)[j / 5] (by rw [List.getElem?_eq_getElem hlt]) (j % 5) (by omega)
      have e2 := vv_at (hs.set k x) (j / 5) (hs.set k x)[j / 5] (by rw [List.getElem?_eq_getElem hlt]) (j % 5) (by omega)
      rw [show j / 5 * 5 + j % 5 = j from by omega] at e e2
      rw [e2, ← e]; simp
    · rw [List.getElem?_eq_none (by rw [vv_length, List.length_set]; omega)]

theorem run_appV (w : World) (ty : TypeId) (B : Nat) (v : Value) (hs : List Hd) (h : Hd) (g : Nat) (hr : VRow w B v hs) (hg : w.heap[g]? = some (.cells h.cs.toArray 31 (0, 0))) (hB : B ≤ w.heap.size) (hl : hs.length ≤ 1000000) :
    ∃ v' w', (Builtin.append_ #[29, 29] ty #[v, .slice (some ⟨g, 0, none⟩) 1 1]).run Try.prog w = .ok v' w' ∧ VRow w' B v' (hs ++ [h]) ∧ Grw w v w' v' := by
  obtain ⟨i0, hi, hz0, hz1, hz2⟩ := info_parts info31
  obtain ⟨v', w', hrun, hown, hgr, _, hat⟩ := run_append_own_at (P := Try.prog) w B 29 ty 31 i0 zeroV 5 64 Try.underlying29 hi hz0 hz1 hz2 rfl (by decide) v hs.length (vv hs) hr ⟨g, 0, none⟩ 1 1 h.cs rfl (by
    intro j u hu
    exact World.news_of_block hg j u (by simpa using hu)) (cs_one h) (by unfold maxLen; omega) (by omega) hB
  refine ⟨v', w', hrun, ?_, hgr, ?_⟩
  · unfold VRow
    rw [vv_snoc, List.length_append]
    exact hown
  · rcases hat with hat | hat
    · exact .inl hat
    · exact .inr ⟨_, hat, Nat.le_refl _⟩

/- What stays: all but one block and a row. -/
structure Okp (Z : Nat) (v : Value) (W W' : World) : Prop where
  os : W'.os = W.os
  tape : W'.tape = W.tape
  output : W'.output = W.output
  size : W.heap.size ≤ W'.heap.size
  block : ∀ j, j < W.heap.size → j ≠ Z → v.ownBlock ≠ some j → W'.heap[j]? = W.heap[j]?
theorem Okp.set {Z : Nat} {v : Value} {W w : World} (h : Okp Z v W w) (i : Nat) (u : Value) : Okp Z v W (w.setCell ⟨Z, i, none⟩ u) :=
  ⟨h.os, h.tape, h.output, by simpa [World.setCell] using h.size, fun j h1 h2 h3 => (Below.heap_setCell _ _ _ _ h2).trans (h.block j h1 h2 h3)⟩
theorem Okp.five {Z : Nat} {v : Value} {W w : World} (h : Okp Z v W w) (r o : Nat) (hr : v.ownBlock = some r ∨ W.heap.size ≤ r) (x : Hd) : Okp Z v W (five w r o x) :=
  have k := five_below (B := 0) (Below.refl 0 w) (b := r) (o := o) (Nat.zero_le _) x
  ⟨k.os.trans h.os, k.tape.trans h.tape, k.output.trans h.output, Nat.le_trans h.size k.size, fun j h1 h2 h3 => (five_heap _ _ _ _ (fun e => by subst e; rcases hr with hr | hr; exact h3 hr; omega)).trans (h.block j h1 h2 h3)⟩
end Go.Proofs.Ytenfgahedbeekaa

namespace Go.Proofs.Ytenfgahedbeekaa
open Go.RowKit Go.Deep Go.Shelf
set_option linter.unusedVariables false
set_option linter.unusedSimpArgs false

theorem byteArray_ext {a b : ByteArray} (h : a.data.toList = b.data.toList) : a = b := by
  cases a; cases b
  simp only at h
  rw [ByteArray.mk.injEq]
  exact Array.toList_inj.1 h

/- Two simple prints with something behind each: the same, if all is the same. -/
def HEq4 (h g : Hd) : Prop := h.kind = g.kind ∧ h.int = g.int ∧ h.text = g.text ∧ h.rc = g.rc
theorem ci_self (a : Int) : ci a a = 0 := ord_ci.self a
theorem ci_zero {a b : Int} (h : ci a b = 0) : a = b := by
  unfold ci at h; split at h
  · omega
  · split at h <;> omega
theorem cS_zero {s t : ByteArray} (h : cS s t = 0) : s = t := by
  unfold cS cB at h
  split at h
  · omega
  · split at h
    · rename_i h2
      have := beq_iff_eq.1 h2
      rw [ByteArray.toList_eq, ByteArray.toList_eq] at this
      exact byteArray_ext this
    · omega
theorem cH_iff (h g : Hd) : cH h g = 0 ↔ HEq4 h g := by
  constructor
  · intro e
    unfold cH at e
    simp only [orL] at e
    by_cases h1 : ci h.kind g.kind = 0
    · rw [if_pos h1] at e
      by_cases h2 : ci h.int g.int = 0
      · rw [if_pos h2] at e
        by_cases h3 : cS h.text g.text = 0
        · rw [if_pos h3] at e
          by_cases h4 : ci h.rc g.rc = 0
          · exact ⟨ci_zero h1, ci_zero h2, cS_zero h3, ci_zero h4⟩
          · rw [if_neg h4] at e; exact absurd e h4
        · rw [if_neg h3] at e; exact absurd e h3
      · rw [if_neg h2] at e; exact absurd e h2
    · rw [if_neg h1] at e; exact absurd e h1
  · rintro ⟨h1, h2, h3, h4⟩
    unfold cH
    rw [h1, h2, h3, h4, ci_self, ci_self, ci_self, ord_cS.self]
    rfl
structure C4 where
  kind : Int
  int : Int
  text : ByteArray
  rc : Int
def CT : Nat → Type
  | 0 => Empty
  | k + 1 => C4 × List (CT k)
def ofH (h : Hd) : C4 := ⟨h.kind, h.int, h.text, h.rc⟩
def ofT : (k : Nat) → VT k → CT k
  | 0, t => Empty.elim t
  | k + 1, t => (ofH t.1, t.2.map (ofT k))
def cC (a b : C4) : Int := orL [ci a.kind b.kind, ci a.int b.int, cS a.text b.text, ci a.rc b.rc]
def cmpC : (k : Nat) → CT k → CT k → Int
  | 0, _, _ => 0
  | k + 1, s, t => if cC s.1 t.1 = 0 then cmpL (cmpC k) s.2 t.2 else cC s.1 t.1
theorem cmpL_map {α β : Type} {f : α → α → Int} {g : β → β → Int} {m : α → β} (h : ∀ a b, g (m a) (m b) = f a b) : ∀ (l k : List α), cmpL g (l.map m) (k.map m) = cmpL f l k
  | [], [] => rfl
  | [], _ :: _ => rfl
  | _ :: _, [] => rfl
  | a :: l, b :: k => by simp only [List.map_cons, cmpL, h, cmpL_map h l k]
theorem cmpC_of : ∀ (k : Nat) (s t : VT k), cmpC k (ofT k s) (ofT k t) = cmpT k s t
  | 0, _, _ => rfl
  | k + 1, s, t => by
    show (if cC (ofH s.1) (ofH t.1) = 0 then cmpL (cmpC k) (s.2.map (ofT k)) (t.2.map (ofT k)) else cC (ofH s.1) (ofH t.1)) = (if cH s.1 t.1 = 0 then cmpL (cmpT k) s.2 t.2 else cH s.1 t.1)
    rw [cmpL_map (cmpC_of k)]; rfl
/- Contents as trees: each is some tree's. -/
def toT : (k : Nat) → CT k → VT k
  | 0, c => Empty.elim c
  | k + 1, c => (⟨c.1.kind, c.1.int, c.1.text, c.1.rc, none, c.2.length, c.2.length⟩, c.2.map (toT k))
theorem of_toT : ∀ (k : Nat) (c : CT k), ofT k (toT k c) = c
  | 0, c => Empty.elim c
  | k + 1, c => by
    obtain ⟨⟨a, b, t, r⟩, l⟩ := c
    show ((⟨a, b, t, r⟩ : C4), (l.map (toT k)).map (ofT k)) = ((⟨a, b, t, r⟩ : C4), l)
    rw [List.map_map]
    have : (ofT k ∘ toT k) = id := by funext c; exact of_toT k c
    rw [this, List.map_id]
theorem ord_cmpC (k : Nat) : Ord3 (cmpC k) :=
  ⟨fun a b => by have h := (ord_cmpT k).anti (toT k a) (toT k b); rw [← cmpC_of, ← cmpC_of, of_toT, of_toT] at h; exact h,
   fun a b c => by have h := (ord_cmpT k).tr (toT k a) (toT k b) (toT k c); rw [← cmpC_of, ← cmpC_of, ← cmpC_of, of_toT, of_toT, of_toT] at h; exact h⟩
theorem cmpL_eq {α : Type} {f : α → α → Int} (h : ∀ a b, f a b = 0 → a = b) : ∀ (l m : List α), cmpL f l m = 0 → l = m
  | [], [], _ => rfl
  | [], _ :: _, e => by simp [cmpL] at e
  | _ :: _, [], e => by simp [cmpL] at e
  | a :: l, b :: m, e => by
    simp only [cmpL] at e
    split at e
    · rename_i h0
      rw [h a b h0, cmpL_eq h l m e]
    · rename_i h0
      exact absurd e h0
theorem cC_zero {a b : C4} (h : cC a b = 0) : a = b := by
  obtain ⟨a1, a2, a3, a4⟩ := a
  obtain ⟨b1, b2, b3, b4⟩ := b
  have e := (cH_iff ⟨a1, a2, a3, a4, none, 0, 0⟩ ⟨b1, b2, b3, b4, none, 0, 0⟩).1 h
  unfold HEq4 at e
  obtain ⟨e1, e2, e3, e4⟩ := e
  simp only at e1 e2 e3 e4
  subst e1 e2 e3 e4
  rfl
theorem cmpC_zero : ∀ (k : Nat) (a b : CT k), cmpC k a b = 0 → a = b
  | 0, a, _, _ => Empty.elim a
  | k + 1, a, b, h => by
    obtain ⟨a1, a2⟩ := a
    obtain ⟨b1, b2⟩ := b
    change (if cC a1 b1 = 0 then cmpL (cmpC k) a2 b2 else cC a1 b1) = 0 at h
    split at h
    · rename_i h0
      rw [cC_zero h0, cmpL_eq (cmpC_zero k) a2 b2 h]
    · rename_i h0
      exact absurd h h0
theorem cmpC_iff (k : Nat) (a b : CT k) : cmpC k a b = 0 ↔ a = b := ⟨cmpC_zero k a b, fun h => by rw [h]; exact (ord_cmpC k).self b⟩
/- A value that reads as a content. -/
def RdC (k : Nat) (w : World) (h : Hd) (c : CT k) : Prop := ∃ t : VT k, hdT k t = h ∧ Rds k w t ∧ ofT k t = c
theorem RdC.below {k : Nat} {w w' : World} {h : Hd} {c : CT k} {B : Nat} (d : RdC k w h c) (hB : w.heap.size ≤ B) (hb : Below B w w') : RdC k w' h c := by
  obtain ⟨t, h1, h2, h3⟩ := d
  exact ⟨t, h1, Rds.below k h2 hB hb, h3⟩
end Go.Proofs.Ytenfgahedbeekaa

namespace Go.Proofs.Ytenfgahedbeekaa
open Go.RowKit Go.Deep Go.Shelf
set_option linter.unusedVariables false
set_option linter.unusedSimpArgs false

theorem five_new {W : World} {g : Nat} {a0 a1 a2 a3 a4 : Value} (h : W.heap[g]? = some (.cells #[a0, a1, a2, a3, a4] 31 (0, 0))) (x : Hd) : (five W g 0 x).heap[g]? = some (.cells #[.int .i64 x.kind, .int .i64 x.int, .string x.text, .int .i64 x.rc, .slice x.a x.n x.cap] 31 (0, 0)) := by
  have h1 := heap_set_at (heap_set_at (heap_set_at (heap_set_at (heap_set_at h 0 (.int .i64 x.kind)) 1 (.int .i64 x.int)) 2 (.string x.text)) 3 (.int .i64 x.rc)) 4 (.slice x.a x.n x.cap)
  exact h1
/- A tree of values whose rows lie in blocks of A. -/
def RdP : (k : Nat) → World → (Nat → Prop) → VT k → Prop
  | 0, _, _, _ => False
  | k + 1, w, A, t => t.1.In ∧ t.1.n = t.2.length ∧ t.1.n ≤ 1000 ∧ VRd w t.1.a (t.2.map (hdT k)) ∧ (∀ x : Addr, t.1.a = some x → t.2 ≠ [] → A x.block) ∧ ∀ u ∈ t.2, RdP k w A u
theorem RdP.rds : ∀ (k : Nat) {w : World} {A : Nat → Prop} {t : VT k}, RdP k w A t → Rds k w t
  | 0, _, _, _, h => h.elim
  | k + 1, w, A, t, h => ⟨h.1, h.2.1, h.2.2.1, h.2.2.2.1, fun u hu => RdP.rds k (h.2.2.2.2.2 u hu)⟩
theorem RdP.imp : ∀ (k : Nat) {w : World} {A B : Nat → Prop} {t : VT k}, RdP k w A t → (∀ b, A b → B b) → RdP k w B t
  | 0, _, _, _, _, h, _ => h.elim
  | k + 1, w, A, B, t, h, i => ⟨h.1, h.2.1, h.2.2.1, h.2.2.2.1, fun x e ne => i _ (h.2.2.2.2.1 x e ne), fun u hu => RdP.imp k (h.2.2.2.2.2 u hu) i⟩
theorem VRd.keep {w w' : World} {a : Option Addr} {hs : List Hd} (h : VRd w a hs) (e : ∀ x : Addr, a = some x → hs ≠ [] → w'.heap[x.block]? = w.heap[x.block]?) : VRd w' a hs := by
  intro j x hx
  obtain ⟨b, off, rfl, hc⟩ := h j x hx
  refine ⟨b, off, rfl, fun i hi => ?_⟩
  rw [← hc i hi]
  exact World.cell?_of_block (a := ⟨b, off + j * 5 + i, none⟩) (show w'.heap[b]? = w.heap[b]? from e ⟨b, off, none⟩ rfl (fun h0 => by rw [h0] at hx; simp at hx))
theorem RdP.keep : ∀ (k : Nat) {w w' : World} {A : Nat → Prop} {t : VT k}, RdP k w A t → (∀ b, A b → w'.heap[b]? = w.heap[b]?) → RdP k w' A t
  | 0, _, _, _, _, h, _ => h.elim
  | k + 1, w, w', A, t, h, e => ⟨h.1, h.2.1, h.2.2.1, h.2.2.2.1.keep (fun x ex ne => e _ (h.2.2.2.2.1 x ex (fun h0 => ne (by rw [h0]; rfl)))), h.2.2.2.2.1, fun u hu => RdP.keep k (h.2.2.2.2.2 u hu) e⟩

/- What stands at the head of a round. -/
structure CpL (k : Nat) (w wr : World) (h : Hd) (us : List (VT k)) (i : Nat) (fa : Option Addr) (fn fc : Nat) (vs : List (VT k)) : Prop where
  bel : Below w.heap.size w wr
  b1 : wr.heap[w.heap.size]? = some (.cells #[.int .i64 h.kind, .int .i64 h.int, .string h.text, .int .i64 h.rc, .slice h.a h.n h.cap] 31 (0, 0))
  b2 : wr.heap[w.heap.size + 1]? = some (.cells #[.int .i64 0, .int .i64 0, .string ⟨#[]⟩, .int .i64 0, .slice none 0 0] 31 (0, 0))
  row : VRow wr (w.heap.size + 2) (.slice fa fn fc) (vs.map (hdT k))
  rd : ∀ v ∈ vs, RdP k wr (fun b => w.heap.size + 2 ≤ b ∧ b < wr.heap.size ∧ (Value.slice fa fn fc).ownBlock ≠ some b) v
  same : vs.map (ofT k) = (us.take i).map (ofT k)
theorem CpL.sz {k : Nat} {w wr : World} {h : Hd} {us : List (VT k)} {i : Nat} {fa : Option Addr} {fn fc : Nat} {vs : List (VT k)} (c : CpL k w wr h us i fa fn fc vs) : w.heap.size + 2 ≤ wr.heap.size := (Array.getElem?_eq_some_iff.1 c.b2).1
/- One more: a copy made (wr to w9), a box (w9.alloc), the row grown (to w10). -/
theorem CpL.more {k : Nat} {w wr w9 w10 : World} {h : Hd} {us : List (VT k)} {i : Nat} {fa : Option Addr} {fn fc : Nat} {vs : List (VT k)} {v2 : Value} {u v : VT k} {o o2 : Obj} (c : CpL k w wr h us i fa fn fc vs) (hu : us[i]? = some u)
    (h9 : Below (wr.alloc o).heap.size (wr.alloc o) w9) (hv : RdP k w9 (fun b => (wr.alloc o).heap.size ≤ b ∧ b < w9.heap.size) v) (he : ofT k v = ofT k u)
    (hr : VRow w10 (w.heap.size + 2) v2 (vs.map (hdT k) ++ [hdT k v])) (hg : Grw (w9.alloc o2) (.slice fa fn fc) w10 v2) :
    ∃ fa2 fn2 fc2, v2 = .slice fa2 fn2 fc2 ∧ CpL k w w10 h us (i + 1) fa2 fn2 fc2 (vs ++ [v]) := by
  obtain ⟨fa2, fc2, e, _⟩ := hr.form
  have hsz := c.sz
  have hA : Below wr.heap.size wr (w9.alloc o2) := by
    have h1 : Below wr.heap.size wr (wr.alloc o) := (Below.refl _ wr).alloc (Nat.le_refl _) _
    have h2 := h1.trans (h9.mono h1.size)
    exact h2.alloc h2.size _
  have own : ∀ b, (Value.slice fa fn fc).ownBlock = some b → w.heap.size + 2 ≤ b ∧ b < wr.heap.size := fun b e => c.row.own b e
  have blk : ∀ b, b < wr.heap.size → (Value.slice fa fn fc).ownBlock ≠ some b → w10.heap[b]? = wr.heap[b]? := fun b hb hne => (hg.1.block b (Nat.lt_of_lt_of_le hb hA.size) (fun e => hne e.symm)).trans (hA.block b hb)
  have own2 : ∀ b, v2.ownBlock = some b → (Value.slice fa fn fc).ownBlock = some b ∨ (w9.alloc o2).heap.size ≤ b := fun b e => by
    rcases hg.2 with h1 | ⟨g, h1, h2⟩
    · exact .inl (h1 ▸ e)
    · rw [h1] at e; cases e; exact .inr h2
  have s10 : wr.heap.size ≤ w10.heap.size := Nat.le_trans hA.size hg.1.size
  have s9 : (wr.alloc o).heap.size ≤ w9.heap.size := h9.size
  have sA : (w9.alloc o2).heap.size = w9.heap.size + 1 := by simp
  have sB : (wr.alloc o).heap.size = wr.heap.size + 1 := by simp
  have s11 : (w9.alloc o2).heap.size ≤ w10.heap.size := hg.1.size
  subst e
  refine ⟨fa2, _, fc2, rfl, ⟨?_, ?_, ?_, ?_, ?_, ?_⟩⟩
  · refine ⟨(hg.1.os.trans hA.os).trans c.bel.os, (hg.1.tape.trans hA.tape).trans c.bel.tape, (hg.1.output.trans hA.output).trans c.bel.output, Nat.le_trans c.bel.size s10, fun j hj => ?_⟩
    exact (blk j (by omega) (fun e => by have := (own j e).1; omega)).trans (c.bel.block j hj)
  · exact (blk _ (by omega) (fun e => by have := (own _ e).1; omega)).trans c.b1
  · exact (blk _ (by omega) (fun e => by have := (own _ e).1; omega)).trans c.b2
  · rw [List.map_append]; exact hr
  · intro x hx
    rcases List.mem_append.1 hx with hx | hx
    · have h1 := (c.rd x hx).keep k (w' := w10) (fun b hb => blk b hb.2.1 hb.2.2)
      refine h1.imp k (fun b hb => ⟨hb.1, by omega, fun e => ?_⟩)
      rcases own2 b e with h | h
      · exact hb.2.2 h
      · omega
    · obtain rfl : x = v := by simpa using hx
      have h1 := hv.keep k (w' := w10) (fun b hb => (hg.1.block b (by omega) (fun e => by have := (own b e.symm).2; omega)).trans (Below.heap_alloc _ _ _ hb.2))
      refine h1.imp k (fun b hb => ⟨by omega, by omega, fun e => ?_⟩)
      rcases own2 b e with h | h
      · have := (own b h).2; omega
      · omega
  · rw [List.map_append, c.same, List.take_add_one, hu]
    simp [he]
theorem wpList_appV {ops : Array Oper} {rest : List Oper} {o : Oper} {a : Act} {Q : Exit → Act → World → Prop} (w : World) (hgd : o.guard = none) (sl x : Operand)
    (ho : o.op = .call { callee := .builtin .append, args := #[sl, x], argTypes := #[29, 29] }) (v : Value) (h : Hd) (hs : a.eval sl = v) (hx : a.eval x = .slice (some ⟨w.heap.size, 0, none⟩) 1 1)
    (B : Nat) (ss : List Hd) (hr : VRow w B v ss) (hB : B ≤ w.heap.size) (hl : ss.length ≤ 1000000)
    (k : ∀ v' w', VRow w' B v' (ss ++ [h]) → Grw (w.alloc (.cells #[.int .i64 h.kind, .int .i64 h.int, .string h.text, .int .i64 h.rc, .slice h.a h.n h.cap] 31)) v w' v' → wpList Try.prog ops Q rest (a.put o.dst v') w') :
    wpList Try.prog ops Q (o :: rest) a (w.alloc (.cells #[.int .i64 h.kind, .int .i64 h.int, .string h.text, .int .i64 h.rc, .slice h.a h.n h.cap] 31)) := by
  refine wpList_plain hgd fun K hK => ?_
  have hr' : VRow (w.alloc (.cells #[.int .i64 h.kind, .int .i64 h.int, .string h.text, .int .i64 h.rc, .slice h.a h.n h.cap] 31)) B v ss := hr.below (Nat.le_refl _) ((Below.refl _ w).alloc (Nat.le_refl _) _)
  obtain ⟨v', w', hrun, h2, h3⟩ := run_appV _ o.type B v ss h w.heap.size hr' (heap_alloc_new w _) (by simp; omega) hl
  unfold Oper.wp execOp
  simp only [ho, resolve, invoke, builtin, Sem.run_bind, Sem.run_pure, Result.andThen_ok, List.map_toArray, List.map_cons, List.map_nil, hs, hx, hrun]
  exact hK _ _ (k v' w' h2 h3)

def CpP (k : Nat) (w : World) (t : VT k) (e : Ending) (w' : World) : Prop := ∃ t' : VT k, e = .returned (hdT k t').v ∧ Below w.heap.size w w' ∧ RdP k w' (fun b => w.heap.size ≤ b ∧ b < w'.heap.size) t' ∧ ofT k t' = ofT k t
set_option maxRecDepth 100000 in
set_option maxHeartbeats 2000000 in
theorem copy_step (k : Nat) (ih : ∀ (w : World) (t : VT k), Rds k w t → Calls Try.prog 46 #[(hdT k t).v] w (CpP k w t)) (w : World) (t : VT (k + 1)) (ht : Rds (k + 1) w t) :
    Calls Try.prog 46 #[(hdT (k + 1) t).v] w (CpP (k + 1) w t) := by
  obtain ⟨⟨kind, int, text, rc, a, n, cap⟩, us⟩ := t
  obtain ⟨hin, hn, hle, hv, hu⟩ := ht
  have IH := hid ih
  have Hin := hid hin
  have Hn : Hid (n = us.length) := hid hn
  have HV := hid hv
  have HU := hid hu
  have hle' : n ≤ 1000 := hle
  have hle2 : (n : Int) ≤ 1000 := by omega
  have hn0 : (0 : Int) ≤ (n : Int) := by omega
  clear ih hin hn hv hu hle
  show Calls Try.prog 46 #[(⟨kind, int, text, rc, a, n, cap⟩ : Hd).v] w _
  simp only [Hd.v]
  obtain ⟨W0, hW0⟩ : ∃ W0, W0 = (w.alloc (.cells #[.int .i64 kind, .int .i64 int, .string text, .int .i64 rc, .slice a n cap] 31)).alloc (.cells #[.int .i64 0, .int .i64 0, .string ⟨#[]⟩, .int .i64 0, .slice none 0 0] 31) := ⟨_, rfl⟩
  have c0 : CpL k w W0 ⟨kind, int, text, rc, a, n, cap⟩ us 0 none 0 0 [] := by
    refine ⟨by rw [hW0]; exact ((Below.refl _ w).alloc (Nat.le_refl _) _).alloc (by simp) _, ?_, ?_, by simpa using VRow.nil _ _, fun v hv => by simp at hv, rfl⟩
    · rw [hW0]; exact (Below.heap_alloc _ _ _ (by simp)).trans (heap_alloc_new w _)
    · have := heap_alloc_new (w.alloc (.cells #[.int .i64 kind, .int .i64 int, .string text, .int .i64 rc, .slice a n cap] 31)) (.cells #[.int .i64 0, .int .i64 0, .string ⟨#[]⟩, .int .i64 0, .slice none 0 0] 31)
      rw [World.size_alloc] at this
      rw [hW0]; exact this
  have C0 := hid c0
  have g4 : W0.cell? ⟨w.heap.size, 4, none⟩ = some (.slice a n cap) := cellOf c0.b1 4
  clear c0
  go_enter Try.func46, Try.ntmps46
  go_wp2
  rw [← hW0]
  clear hW0
  go_loopg [3, 9] n (fun g fv ii wr => ∃ i : Nat, i + g = n ∧ ii = .int .i64 (i : Int) ∧ ∃ fa fn fc vs, fv = .slice fa fn fc ∧ CpL k w wr ⟨kind, int, text, rc, a, n, cap⟩ us i fa fn fc vs)
  case atStart => exact ⟨0, by omega, rfl, none, 0, 0, [], rfl, C0.out⟩
  case round =>
    obtain ⟨i, hi', rfl, fa, fn, fc, vs, rfl, hc⟩ := hrel
    have HC := hid hc
    cases gk with
    | zero =>
      have hin2 : i = n := by omega
      subst hin2
      have k0 := cellOf hc.b1 0
      have k1 := cellOf hc.b1 1
      have k2 := cellOf hc.b1 2
      have k3 := cellOf hc.b1 3
      have k4 := cellOf hc.b1 4
      have m4 := freeOf hc.b1 4
      have e0 := cellOf hc.b2 0
      have e1 := cellOf hc.b2 1
      have e2 := cellOf hc.b2 2
      have e3 := cellOf hc.b2 3
      have e4 := cellOf hc.b2 4
      have f0 := freeOf hc.b2 0
      have f1 := freeOf hc.b2 1
      have f2 := freeOf hc.b2 2
      have f3 := freeOf hc.b2 3
      have f4 := freeOf hc.b2 4
      simp only [List.getElem?_toArray, List.getElem?_cons_zero, List.getElem?_cons_succ] at k0 k1 k2 k3 k4 e0 e1 e2 e3 e4
      clear hi' hc g4
      go_wp2
      have hb2 : (wr.setCell ⟨w.heap.size, 4, none⟩ (.slice fa fn fc)).heap[w.heap.size + 1]? = some (.cells #[.int .i64 0, .int .i64 0, .string ⟨#[]⟩, .int .i64 0, .slice none 0 0] 31 (0, 0)) := (Below.heap_setCell _ _ _ _ (by show w.heap.size + 1 ≠ w.heap.size; omega)).trans HC.out.b2
      have hbl : Below w.heap.size w (wr.setCell ⟨w.heap.size, 4, none⟩ (.slice fa fn fc)) := HC.out.bel.setCell (Nat.le_refl _) _
      have hkp : ∀ b, w.heap.size + 2 ≤ b → (five (wr.setCell ⟨w.heap.size, 4, none⟩ (.slice fa fn fc)) (w.heap.size + 1) 0 ⟨kind, int, text, rc, fa, fn, fc⟩).heap[b]? = wr.heap[b]? := fun b hb => (five_heap _ _ _ _ (by omega)).trans (Below.heap_setCell _ _ _ _ (by show b ≠ w.heap.size; omega))
      have h5 := five_new hb2 ⟨kind, int, text, rc, fa, fn, fc⟩
      have hb5 := five_below hbl (b := w.heap.size + 1) (o := 0) (by omega) ⟨kind, int, text, rc, fa, fn, fc⟩
      have hs5 : wr.heap.size ≤ (five (wr.setCell ⟨w.heap.size, 4, none⟩ (.slice fa fn fc)) (w.heap.size + 1) 0 ⟨kind, int, text, rc, fa, fn, fc⟩).heap.size := by simp [five, World.setCell]
      change bodyPost _ _ _ _ _ (five (wr.setCell ⟨w.heap.size, 4, none⟩ (.slice fa fn fc)) (w.heap.size + 1) 0 ⟨kind, int, text, rc, fa, fn, fc⟩)
      generalize five (wr.setCell ⟨w.heap.size, 4, none⟩ (.slice fa fn fc)) (w.heap.size + 1) 0 ⟨kind, int, text, rc, fa, fn, fc⟩ = W5 at *
      have q0 := cellOf h5 0
      have q1 := cellOf h5 1
      have q2 := cellOf h5 2
      have q3 := cellOf h5 3
      have q4 := cellOf h5 4
      simp only [List.getElem?_toArray, List.getElem?_cons_zero, List.getElem?_cons_succ] at q0 q1 q2 q3 q4
      have hlen : vs.length = i := by
        have := congrArg List.length HC.out.same
        rw [List.length_map, List.length_map, List.length_take, ← Hn.out] at this
        omega
      have hfn : fn = vs.length := by
        obtain ⟨a9, c9, e9, _⟩ := HC.out.row.form
        cases e9; simp
      have hta : us.take i = us := List.take_of_length_le (by rw [← Hn.out]; exact Nat.le_refl _)
      have row5 := HC.out.row.same (w' := W5) (fun q e => hkp q (HC.out.row.own q e).1)
      refine bodyPost_ret (v := .agg #[.int .i64 kind, .int .i64 int, .string text, .int .i64 rc, .slice fa fn fc]) (by simp [results, Try.results46, go_sem, q0, q1, q2, q3, q4]) rfl ⟨mkV k ⟨kind, int, text, rc, fa, fn, fc⟩ vs, rfl, hb5, ?_, ?_⟩
      · refine ⟨⟨Hin.out.i0, Hin.out.i1, Hin.out.k0, Hin.out.k1, Hin.out.r0, Hin.out.r1, Hin.out.t, by show fn ≤ _; omega⟩, hfn, by show fn ≤ _; omega, row5.rd, ?_, ?_⟩
        · intro x ex ne
          have hrow := HC.out.row.srow (by intro h0; exact ne (List.map_eq_nil_iff.1 h0))
          obtain ⟨g, cap', e', _, hg, _⟩ := hrow
          have ex' : fa = some x := ex
          cases e'
          cases ex'
          have := HC.out.row.own g rfl
          exact ⟨by show w.heap.size ≤ g; omega, by show g < _; omega⟩
        · intro v hv
          exact ((HC.out.rd v hv).keep k (fun b hb => hkp b hb.1)).imp k (fun b hb => ⟨by omega, by omega⟩)
      · show (ofH ⟨kind, int, text, rc, fa, fn, fc⟩, vs.map (ofT k)) = (ofH ⟨kind, int, text, rc, a, i, cap⟩, us.map (ofT k))
        rw [HC.out.same, hta]; rfl
    | succ gi =>
      have hlt0 : i < n := by omega
      have hlt : (i : Int) < (n : Int) := by omega
      have hi00 : (0 : Int) ≤ (i : Int) := by omega
      obtain ⟨u, hu⟩ : ∃ u, us[i]? = some u := ⟨us[i]'(by rw [← Hn.out]; exact hlt0), List.getElem?_eq_getElem _⟩
      obtain ⟨b, off, ea, dh⟩ := (HV.out.below (Nat.le_refl _) hc.bel) i (hdT k u) (by rw [List.getElem?_map, hu]; rfl)
      have ea' : a = some ⟨b, off, none⟩ := ea
      subst ea'
      have hru := Rds.below k (HU.out u (List.mem_of_getElem? hu)) (Nat.le_refl _) hc.bel
      have d0 := dh 0 (by omega)
      have d1 := dh 1 (by omega)
      have d2 := dh 2 (by omega)
      have d3 := dh 3 (by omega)
      have d4 := dh 4 (by omega)
      simp only [Hd.cs, List.getElem?_cons_zero, List.getElem?_cons_succ, Nat.add_zero] at d0 d1 d2 d3 d4
      have C46 := hid (fun o => IH.out (wr.alloc o) u (Rds.below k hru (Nat.le_refl _) ((Below.refl _ wr).alloc (Nat.le_refl _) o)))
      generalize hdT k u = hd0 at *
      obtain ⟨yk, yi, yt, yr, ya, yn, yc⟩ := hd0
      simp only [Hd.v] at C46 d0 d1 d2 d3 d4
      have Hu := hid hu
      have Hi := hid hi'
      have hlv : (vs.map (hdT k)).length ≤ 1000000 := by
        have := congrArg List.length hc.same
        rw [List.length_map, List.length_map, List.length_take] at this
        rw [List.length_map]; omega
      have Hlv := hid hlv
      clear hc dh hu hru hlv hi' g4 ea HV HU IH
      go_wp2_with (first
        | (go_at_call 46; (refine (C46.out _).mono ?_; rintro e w9 ⟨v, rfl, hb9, hrv, hev⟩; simp only [Hd.v]; have Hb9 := hid hb9; have Hrv := hid hrv; have Hev := hid hev; clear hb9 hrv hev))
        | (at_builtin; refine wpList_appV w9 rfl _ _ rfl _ (hdT k v) (by rfl) (by rfl) (w.heap.size + 2) (vs.map (hdT k)) ((HC.out.row.below (Nat.le_refl _) ((Below.refl _ wr).alloc (Nat.le_refl _) _)).below (Nat.le_refl _) Hb9.out) (Nat.le_trans HC.out.sz (by have := Hb9.out.size; simp at this; omega)) Hlv.out ?_; intro v4 w4 hr4 hg4; obtain ⟨fa2, fn2, fc2, rfl, hc2⟩ := HC.out.more Hu.out Hb9.out Hrv.out Hev.out hr4 hg4; have HC2 := hid hc2; clear hc2 hr4 hg4))
      go_roundg gi
      case measure => omega
      case rel => exact ⟨i + 1, by have := Hi.out; omega, by go_num, fa2, fn2, fc2, _, rfl, HC2.out⟩
theorem copy_any : ∀ (k : Nat) (w : World) (t : VT k), Rds k w t → Calls Try.prog 46 #[(hdT k t).v] w (CpP k w t)
  | 0, _, _, h => h.elim
  | k + 1, w, t, h => copy_step k (copy_any k) w t h
end Go.Proofs.Ytenfgahedbeekaa

namespace Go.Proofs.Ytenfgahedbeekaa
open Go.RowKit Go.Deep Go.Shelf
set_option linter.unusedVariables false
set_option linter.unusedSimpArgs false

structure En where
  key : Hd
  val : Hd
def En.cs (e : En) : List Value := [.int .i64 e.key.kind, .int .i64 e.key.int, .string e.key.text, .int .i64 e.key.rc, .slice e.key.a e.key.n e.key.cap, .int .i64 e.val.kind, .int .i64 e.val.int, .string e.val.text, .int .i64 e.val.rc, .slice e.val.a e.val.n e.val.cap]
def En.v (e : En) : Value := .agg e.cs.toArray
def ee (es : List En) : List Value := es.flatMap En.cs
theorem ee_length (es : List En) : (ee es).length = es.length * 10 := by
  induction es with
  | nil => rfl
  | cons h r ih => simp [ee, En.cs] at ih ⊢; omega
theorem ee_snoc (es : List En) (h : En) : ee (es ++ [h]) = ee es ++ h.cs := by simp [ee]
theorem ee_at (es : List En) : ∀ (j : Nat) (h : En), es[j]? = some h → ∀ i, i < 10 → (ee es)[j * 10 + i]? = h.cs[i]? := by
  induction es with
  | nil => intro j h e; simp at e
  | cons x r ih =>
    intro j h e i hi
    have hx : (En.cs x).length = 10 := rfl
    cases j with
    | zero =>
      simp at e; subst e
      simp only [ee, List.flatMap_cons]
      rw [List.getElem?_append_left (by omega)]
      simp
    | succ j =>
      simp at e
      simp only [ee, List.flatMap_cons]
      rw [List.getElem?_append_right (by omega), hx, show (j + 1) * 10 + i - 10 = j * 10 + i from by omega]
      exact ih j h e i hi
def ERow (w : World) (B : Nat) (v : Value) (es : List En) : Prop := w.ownsRow B 81 10 v es.length (ee es)
theorem ERow.nil (w : World) (B : Nat) : ERow w B (.slice none 0 0) [] := World.ownsRow_nil w B 81 10
theorem ERow.own {w B v es} (h : ERow w B v es) : ∀ k, v.ownBlock = some k → B ≤ k ∧ k < w.heap.size := World.ownsRow.lt h
theorem ERow.same {w w' : World} {B v xs} (h : ERow w B v xs) (e : ∀ g, v.ownBlock = some g → w'.heap[g]? = w.heap[g]?) : ERow w' B v xs := by
  refine ⟨h.1, ?_⟩
  rcases h.2 with hn | ⟨g, cap, cur, rfl, hb, hgg, rest⟩
  · exact .inl hn
  · exact .inr ⟨g, cap, cur, rfl, hb, (e g rfl).trans hgg, rest⟩
theorem ERow.below {w w' : World} {B C v xs} (h : ERow w B v xs) (hC : w.heap.size ≤ C) (k : Below C w w') : ERow w' B v xs :=
  h.same fun g e => k.block g (by have := (h.own g e).2; omega)
theorem ERow.mono {w : World} {B C v xs} (h : ERow w B v xs) (hC : C ≤ B) : ERow w C v xs := by
  refine ⟨h.1, ?_⟩
  rcases h.2 with hn | ⟨g, cap, cur, rfl, hb, rest⟩
  · exact .inl hn
  · exact .inr ⟨g, cap, cur, rfl, by omega, rest⟩
theorem ERow.form {w B v xs} (h : ERow w B v xs) : ∃ a cap, v = .slice a xs.length cap ∧ xs.length ≤ cap := by
  rcases h.2 with ⟨rfl, hn⟩ | ⟨g, cap, cur, rfl, hb, hgg, hc, rest⟩
  · exact ⟨none, 0, by rw [hn], by omega⟩
  · exact ⟨_, _, rfl, hc⟩
def ERd (w : World) (a : Option Addr) (es : List En) : Prop := ∀ (j : Nat) (h : En), es[j]? = some h → ∃ b off, a = some ⟨b, off, none⟩ ∧ ∀ i, i < 10 → w.cell? ⟨b, off + j * 10 + i, none⟩ = h.cs[i]?
theorem ERow.rd {w : World} {B a n cap es} (h : ERow w B (.slice a n cap) es) : ERd w a es := by
  intro j x hx
  rcases h.2 with ⟨e, hn⟩ | ⟨g, cap', cur, e, hb, hgg, hc, hm, hs', ht⟩
  · have : es = [] := List.eq_nil_of_length_eq_zero hn
    subst this; simp at hx
  · cases e
    refine ⟨g, 0, rfl, fun i hi => ?_⟩
    have hv := ee_at es j x hx i hi
    have hj : j < es.length := (List.getElem?_eq_some_iff.1 hx).1
    rw [← hv, Nat.zero_add]
    have hlt : j * 10 + i < (ee es).length := by rw [ee_length]; omega
    rw [cellOf hgg (j * 10 + i)]
    rw [← ht, List.getElem?_take, if_pos (by omega)]
    simp
theorem ERd.keep {w w' : World} {a : Option Addr} {es : List En} (h : ERd w a es) (e : ∀ x : Addr, a = some x → es ≠ [] → w'.heap[x.block]? = w.heap[x.block]?) : ERd w' a es := by
  intro j x hx
  obtain ⟨b, off, rfl, hc⟩ := h j x hx
  refine ⟨b, off, rfl, fun i hi => ?_⟩
  rw [← hc i hi]
  exact World.cell?_of_block (a := ⟨b, off + j * 10 + i, none⟩) (show w'.heap[b]? = w.heap[b]? from e ⟨b, off, none⟩ rfl (fun h0 => by rw [h0] at hx; simp at hx))
theorem ERd.below {w w' : World} {a : Option Addr} {es : List En} {B : Nat} (h : ERd w a es) (hB : w.heap.size ≤ B) (k : Below B w w') : ERd w' a es := by
  intro j x hx
  obtain ⟨b, off, rfl, hc⟩ := h j x hx
  refine ⟨b, off, rfl, fun i hi => ?_⟩
  have h0 := hc 0 (by omega)
  have hb : b < w.heap.size := World.block_lt_of_cell? w _ (h0.trans (show x.cs[0]? = some (.int .i64 x.key.kind) from rfl))
  rw [← hc i hi]
  exact k.cell (p := ⟨b, off + j * 10 + i, none⟩) (Nat.lt_of_lt_of_le hb hB)
def zeroE : Value := .agg #[.int .i64 0, .int .i64 0, .string ⟨#[]⟩, .int .i64 0, .slice none 0 0, .int .i64 0, .int .i64 0, .string ⟨#[]⟩, .int .i64 0, .slice none 0 0]
theorem info81 : (Try.prog.info? 81).map (fun i => (i.zero, i.size, i.bytes)) = some (some zeroE, 10, 128) := by kernel_rfl
theorem ecs_one (h : En) : ∀ u ∈ h.cs, u.oneCell' = true := by
  intro u hu
  simp only [En.cs, List.mem_cons, List.not_mem_nil, or_false] at hu
  rcases hu with rfl | rfl | rfl | rfl | rfl | rfl | rfl | rfl | rfl | rfl <;> rfl
theorem run_appE (w : World) (ty : TypeId) (B : Nat) (v : Value) (es : List En) (h : En) (g : Nat) (hr : ERow w B v es) (hg : w.heap[g]? = some (.cells h.cs.toArray 81 (0, 0))) (hB : B ≤ w.heap.size) (hl : es.length ≤ 1000000) :
    ∃ v' w', (Builtin.append_ #[70, 70] ty #[v, .slice (some ⟨g, 0, none⟩) 1 1]).run Try.prog w = .ok v' w' ∧ ERow w' B v' (es ++ [h]) ∧ Grw w v w' v' := by
  obtain ⟨i0, hi, hz0, hz1, hz2⟩ := info_parts info81
  obtain ⟨v', w', hrun, hown, hgr, _, hat⟩ := run_append_own_at (P := Try.prog) w B 70 ty 81 i0 zeroE 10 128 Try.underlying70 hi hz0 hz1 hz2 rfl (by decide) v es.length (ee es) hr ⟨g, 0, none⟩ 1 1 h.cs rfl (by
    intro j u hu
    exact World.news_of_block hg j u (by simpa using hu)) (ecs_one h) (by unfold maxLen; omega) (by omega) hB
  refine ⟨v', w', hrun, ?_, hgr, ?_⟩
  · unfold ERow
    rw [ee_snoc, List.length_append]
    exact hown
  · rcases hat with hat | hat
    · exact .inl hat
    · exact .inr ⟨_, hat, Nat.le_refl _⟩
end Go.Proofs.Ytenfgahedbeekaa

