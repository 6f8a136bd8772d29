/- Pairs of fields, told by ranging over a function. -/
import Derived.RangeFuncNested
import Derived.RangeFuncBound
import Derived.RangeFuncCalls
import Derived.RangeFuncLeaves
import Derived.Shelf.Abstract
import Derived.Shelf.RegionOpen
import Derived.WalkKit
import Derived.OwnWalkIn
import Derived.TacticsInMore
import Derived.LoopNIn
import Derived.LoopIn
import Derived.BigRegionIn
import Derived.Test.YtenfgahedbeekaaE
import Derived.Test.YtenfgahedbeekaaF
namespace Go.Proofs.Ytenfgahedbeekaa
open Go.RowKit Go.Deep Go.Shelf
set_option linter.unusedVariables false
set_option linter.unusedSimpArgs false
attribute [local go_sem] Oper.semAt_some


set_option maxRecDepth 100000 in
set_option maxHeartbeats 1000000 in
theorem pairs1_in {α : Type} (f g : α → Hd) (Z : List α) (F : Fence) (n : Nat) (h37 : F.fn 92) (hro : F.round = none) (hn : 1 ≤ n) (l B1 B2 n₀ : Nat) (a1 a2 : Option Addr) (n1 c1 n2 c2 : Nat) (hz : Z.length = min n1 n2) (l1 : n1 ≤ 1000) (l2 : n2 ≤ 1000)
    (J Jx : List α → World → Prop)
    (hY : ∀ pre x W, J pre W → pre.length < Z.length → YieldAt F (n - 1) Try.prog l (encP f g x) W fun e W' =>
      (e = .returned (.bool true) ∧ J (pre ++ [x]) W' ∧ Below n₀ W W') ∨ (e = .returned (.bool false) ∧ Jx (pre ++ [x]) W'))
    (W : World) (hn0 : n₀ ≤ W.heap.size) (hb1 : B1 < n₀) (hb2 : B2 < n₀) (hB1 : W.cell? ⟨B1, 0, none⟩ = some (.slice a1 n1 c1)) (hB2 : W.cell? ⟨B2, 0, none⟩ = some (.slice a2 n2 c2))
    (hJa : AbidesFrom W.heap.size J) (hr1 : VRd W a1 (Z.map f)) (hr2 : VRd W a2 (Z.map g)) (hl1 : Z ≠ [] → ∀ b off, a1 = some ⟨b, off, none⟩ → b < n₀) (hl2 : Z ≠ [] → ∀ b off, a2 = some ⟨b, off, none⟩ → b < n₀) (h0 : J [] W) :
    CallsIn F n Try.prog 92 #[.func (.yield l) #[] #[], .pointer (some ⟨B1, 0, none⟩), .pointer (some ⟨B2, 0, none⟩)] W fun e W' => (∃ v, e = .returned v) ∧
      ((∃ ys, ys = Z ∧ J ys W') ∨ (∃ pre, (∃ k, k ≤ Z.length ∧ pre = Z.take k) ∧ Jx pre W')) := by
  refine callsIn_of_wp Try.func92 rfl h37 ?_ hro
  simp only [Try.ntmps92, List.size_toArray, List.length_cons, List.length_nil, Nat.reduceAdd, Nat.reduceSub, Array.replicate_succ, Array.replicate_zero, List.push_toArray, List.append_toArray, List.nil_append, List.cons_append]
  generalize hm : Z.length = m at *
  have Hm := hid hm
  have hcase : (m < n1 ∧ n2 = m) ∨ (m ≤ n2 ∧ n1 = m) := by omega
  clear hm hz
  rcases hcase with ⟨hlt12, rfl⟩ | ⟨hle12, rfl⟩
  · gi_wp2
    gi_loopw [10] (fun i wr => ∃ k : Nat, k ≤ n2 ∧ i = .int .i64 k ∧ J (Z.take k) wr ∧ Below n₀ W wr)
      (fun i _ => n2 - (intOf i).toNat)
    case atStart => exact ⟨0, Nat.zero_le _, rfl, h0, Below.refl _ _⟩
    case round =>
      obtain ⟨k, hk, rfl, hJs, hnx⟩ := hrel
      by_cases hlt : k < n2
      · obtain ⟨x, hx⟩ : ∃ x, Z[k]? = some x := ⟨Z[k]'(by rw [Hm.out]; exact hlt), by rw [List.getElem?_eq_getElem]⟩
        have hne : Z ≠ [] := by rintro rfl; simp at hx
        obtain ⟨b1, o1, rfl, e1⟩ := hr1 k (f x) (by simp [hx])
        obtain ⟨b2, o2, rfl, e2⟩ := hr2 k (g x) (by simp [hx])
        have q1 : b1 < n₀ := hl1 hne _ _ rfl
        have q2 : b2 < n₀ := hl2 hne _ _ rfl
        have hc1 := (hnx.cell (p := ⟨B1, 0, none⟩) hb1).trans hB1
        have hc2 := (hnx.cell (p := ⟨B2, 0, none⟩) hb2).trans hB2
        have x0 := (hnx.cell (p := ⟨b1, o1 + k * 5 + 0, none⟩) q1).trans (e1 0 (by omega))
        have x1 := (hnx.cell (p := ⟨b1, o1 + k * 5 + 1, none⟩) q1).trans (e1 1 (by omega))
        have x2 := (hnx.cell (p := ⟨b1, o1 + k * 5 + 2, none⟩) q1).trans (e1 2 (by omega))
        have x3 := (hnx.cell (p := ⟨b1, o1 + k * 5 + 3, none⟩) q1).trans (e1 3 (by omega))
        have x4 := (hnx.cell (p := ⟨b1, o1 + k * 5 + 4, none⟩) q1).trans (e1 4 (by omega))
        have y0 := (hnx.cell (p := ⟨b2, o2 + k * 5 + 0, none⟩) q2).trans (e2 0 (by omega))
        have y1 := (hnx.cell (p := ⟨b2, o2 + k * 5 + 1, none⟩) q2).trans (e2 1 (by omega))
        have y2 := (hnx.cell (p := ⟨b2, o2 + k * 5 + 2, none⟩) q2).trans (e2 2 (by omega))
        have y3 := (hnx.cell (p := ⟨b2, o2 + k * 5 + 3, none⟩) q2).trans (e2 3 (by omega))
        have y4 := (hnx.cell (p := ⟨b2, o2 + k * 5 + 4, none⟩) q2).trans (e2 4 (by omega))
        obtain ⟨fn, tmps, assign, body, hy, hRd⟩ := hY _ x wr.drew (hJa _ _ _ none hJs ⟨rfl, rfl, rfl, Nat.le_refl _, fun _ _ _ => rfl⟩ (by simp)) (by rw [List.length_take, Hm.out]; omega)
        have Htk : Hid (Z.take (k + 1) = Z.take k ++ [x]) := by refine hid ?_; rw [List.take_add_one, hx]; rfl
        have hRd' : RoundIn F (n - 1) Try.prog l fn tmps assign body wr.drew (fun e W' => ∃ b : Bool, e = .returned (.bool b) ∧ ((b = true → J (Z.take k ++ [x]) W' ∧ Below n₀ wr.drew W') ∧ (b = false → Jx (Z.take k ++ [x]) W'))) := by
          refine hRd.mono ?_
          rintro e W' (⟨rfl, h1, h2⟩ | ⟨rfl, h1⟩)
          · exact ⟨true, rfl, ⟨fun _ => ⟨h1, h2⟩, fun h => (by cases h)⟩⟩
          · exact ⟨false, rfl, ⟨fun h => (by cases h), fun _ => h1⟩⟩
        clear hRd
        simp only [encP, Hd.v] at hy
        generalize f x = fx at *
        generalize g x = gx at *
        simp only [Hd.cs, List.getElem?_cons_zero, List.getElem?_cons_succ, Nat.add_zero] at x0 x1 x2 x3 x4 y0 y1 y2 y3 y4
        have HRd := hid hRd'
        have Hnx := hid hnx
        have kn1 : k < n1 := by omega
        have kn2 : k < n2 := by omega
        clear e1 e2 hr1 hr2 hl1 hl2 hY hRd' hnx hJs hJa h0 hx hne hB1 hB2 q1 q2
        gi_wp2
        refine wpIn_region_any (by kernel_rfl) ?_
        change wpAnyIn _ _ _ _ pops _ _ _ _ (World.drew _)
        refine pops_reads F n hro wr.drew l B1 B2 k b1 o1 n1 c1 b2 o2 n2 c2 fx gx _ _ _ _ _ _ _ _ _ _ _ hc1 hc2 kn1 kn2 l1 l2 x0 x1 x2 x3 x4 y0 y1 y2 y3 y4 ?hend 11 false false false false false false false false false _ _ _ _ _ _ _ _ _ _ _ (fun h => (by cases h)) (fun h => (by cases h)) (fun h => (by cases h)) (fun h => (by cases h)) (fun h => (by cases h)) (fun h => (by cases h)) (fun h => (by cases h)) (fun h => (by cases h)) (fun h => (by cases h)) (fun h => (by cases h)) (fun h => (by cases h)) (fun h => (by cases h)) (fun h => (by cases h)) rfl
        case hend =>
          intro v22 v23
          clear x0 x1 x2 x3 x4 y0 y1 y2 y3 y4 hc1 hc2
          refine wpAnyIn_ready (rs := [9]) (by kernel_rfl) (by simp) (AllReadyIn.cons rfl (fun K hK => ?_) AllReadyIn.nil)
          go_simp
          refine (Hid.out HRd).mono ?_
          rintro e W3 ⟨bb, rfl, hor⟩
          refine hK _ _ ?_
          clear hK K
          refine wpAnyIn_ready (rs := [10]) (by kernel_rfl) (by simp) (AllReadyIn.cons rfl (fun K hK => ?_) AllReadyIn.nil)
          go_simp
          refine hK _ _ ?_
          clear hK K
          refine wpAnyIn_done (by kernel_rfl) ?_ 0
          cases bb with
          | true =>
            have hor' := hor.1 rfl
            gi_wp2
            go_roundw
            case rel => exact ⟨k + 1, by omega, by go_num, by rw [Htk.out]; exact hor'.1, Hnx.out.drew.trans hor'.2⟩
            case measure => simp [intOf]; omega
          | false =>
            have hor' := hor.2 rfl
            gi_wp2
            refine bodyPost_ret (results_none rfl _ _ _) rfl ?_
            exact ⟨⟨_, rfl⟩, .inr ⟨_, ⟨k + 1, by omega, Htk.out.symm⟩, hor'⟩⟩
      · obtain rfl : k = n2 := by omega
        gi_wp2
        go_end0
        exact ⟨⟨_, rfl⟩, .inl ⟨_, rfl, by rw [← Hm.out, List.take_length] at hJs; exact hJs⟩⟩
  · gi_wp2
    gi_loopw [10] (fun i wr => ∃ k : Nat, k ≤ n1 ∧ i = .int .i64 k ∧ J (Z.take k) wr ∧ Below n₀ W wr)
      (fun i _ => n1 - (intOf i).toNat)
    case atStart => exact ⟨0, Nat.zero_le _, rfl, h0, Below.refl _ _⟩
    case round =>
      obtain ⟨k, hk, rfl, hJs, hnx⟩ := hrel
      by_cases hlt : k < n1
      · obtain ⟨x, hx⟩ : ∃ x, Z[k]? = some x := ⟨Z[k]'(by rw [Hm.out]; exact hlt), by rw [List.getElem?_eq_getElem]⟩
        have hne : Z ≠ [] := by rintro rfl; simp at hx
        obtain ⟨b1, o1, rfl, e1⟩ := hr1 k (f x) (by simp [hx])
        obtain ⟨b2, o2, rfl, e2⟩ := hr2 k (g x) (by simp [hx])
        have q1 : b1 < n₀ := hl1 hne _ _ rfl
        have q2 : b2 < n₀ := hl2 hne _ _ rfl
        have hc1 := (hnx.cell (p := ⟨B1, 0, none⟩) hb1).trans hB1
        have hc2 := (hnx.cell (p := ⟨B2, 0, none⟩) hb2).trans hB2
        have x0 := (hnx.cell (p := ⟨b1, o1 + k * 5 + 0, none⟩) q1).trans (e1 0 (by omega))
        have x1 := (hnx.cell (p := ⟨b1, o1 + k * 5 + 1, none⟩) q1).trans (e1 1 (by omega))
        have x2 := (hnx.cell (p := ⟨b1, o1 + k * 5 + 2, none⟩) q1).trans (e1 2 (by omega))
        have x3 := (hnx.cell (p := ⟨b1, o1 + k * 5 + 3, none⟩) q1).trans (e1 3 (by omega))
        have x4 := (hnx.cell (p := ⟨b1, o1 + k * 5 + 4, none⟩) q1).trans (e1 4 (by omega))
        have y0 := (hnx.cell (p := ⟨b2, o2 + k * 5 + 0, none⟩) q2).trans (e2 0 (by omega))
        have y1 := (hnx.cell (p := ⟨b2, o2 + k * 5 + 1, none⟩) q2).trans (e2 1 (by omega))
        have y2 := (hnx.cell (p := ⟨b2, o2 + k * 5 + 2, none⟩) q2).trans (e2 2 (by omega))
        have y3 := (hnx.cell (p := ⟨b2, o2 + k * 5 + 3, none⟩) q2).trans (e2 3 (by omega))
        have y4 := (hnx.cell (p := ⟨b2, o2 + k * 5 + 4, none⟩) q2).trans (e2 4 (by omega))
        obtain ⟨fn, tmps, assign, body, hy, hRd⟩ := hY _ x wr.drew (hJa _ _ _ none hJs ⟨rfl, rfl, rfl, Nat.le_refl _, fun _ _ _ => rfl⟩ (by simp)) (by rw [List.length_take, Hm.out]; omega)
        have Htk : Hid (Z.take (k + 1) = Z.take k ++ [x]) := by refine hid ?_; rw [List.take_add_one, hx]; rfl
        have hRd' : RoundIn F (n - 1) Try.prog l fn tmps assign body wr.drew (fun e W' => ∃ b : Bool, e = .returned (.bool b) ∧ ((b = true → J (Z.take k ++ [x]) W' ∧ Below n₀ wr.drew W') ∧ (b = false → Jx (Z.take k ++ [x]) W'))) := by
          refine hRd.mono ?_
          rintro e W' (⟨rfl, h1, h2⟩ | ⟨rfl, h1⟩)
          · exact ⟨true, rfl, ⟨fun _ => ⟨h1, h2⟩, fun h => (by cases h)⟩⟩
          · exact ⟨false, rfl, ⟨fun h => (by cases h), fun _ => h1⟩⟩
        clear hRd
        simp only [encP, Hd.v] at hy
        generalize f x = fx at *
        generalize g x = gx at *
        simp only [Hd.cs, List.getElem?_cons_zero, List.getElem?_cons_succ, Nat.add_zero] at x0 x1 x2 x3 x4 y0 y1 y2 y3 y4
        have HRd := hid hRd'
        have Hnx := hid hnx
        have kn1 : k < n1 := by omega
        have kn2 : k < n2 := by omega
        clear e1 e2 hr1 hr2 hl1 hl2 hY hRd' hnx hJs hJa h0 hx hne hB1 hB2 q1 q2
        gi_wp2
        refine wpIn_region_any (by kernel_rfl) ?_
        change wpAnyIn _ _ _ _ pops _ _ _ _ (World.drew _)
        refine pops_reads F n hro wr.drew l B1 B2 k b1 o1 n1 c1 b2 o2 n2 c2 fx gx _ _ _ _ _ _ _ _ _ _ _ hc1 hc2 kn1 kn2 l1 l2 x0 x1 x2 x3 x4 y0 y1 y2 y3 y4 ?hend 11 false false false false false false false false false _ _ _ _ _ _ _ _ _ _ _ (fun h => (by cases h)) (fun h => (by cases h)) (fun h => (by cases h)) (fun h => (by cases h)) (fun h => (by cases h)) (fun h => (by cases h)) (fun h => (by cases h)) (fun h => (by cases h)) (fun h => (by cases h)) (fun h => (by cases h)) (fun h => (by cases h)) (fun h => (by cases h)) (fun h => (by cases h)) rfl
        case hend =>
          intro v22 v23
          clear x0 x1 x2 x3 x4 y0 y1 y2 y3 y4 hc1 hc2
          refine wpAnyIn_ready (rs := [9]) (by kernel_rfl) (by simp) (AllReadyIn.cons rfl (fun K hK => ?_) AllReadyIn.nil)
          go_simp
          refine (Hid.out HRd).mono ?_
          rintro e W3 ⟨bb, rfl, hor⟩
          refine hK _ _ ?_
          clear hK K
          refine wpAnyIn_ready (rs := [10]) (by kernel_rfl) (by simp) (AllReadyIn.cons rfl (fun K hK => ?_) AllReadyIn.nil)
          go_simp
          refine hK _ _ ?_
          clear hK K
          refine wpAnyIn_done (by kernel_rfl) ?_ 0
          cases bb with
          | true =>
            have hor' := hor.1 rfl
            gi_wp2
            go_roundw
            case rel => exact ⟨k + 1, by omega, by go_num, by rw [Htk.out]; exact hor'.1, Hnx.out.drew.trans hor'.2⟩
            case measure => simp [intOf]; omega
          | false =>
            have hor' := hor.2 rfl
            gi_wp2
            refine bodyPost_ret (results_none rfl _ _ _) rfl ?_
            exact ⟨⟨_, rfl⟩, .inr ⟨_, ⟨k + 1, by omega, Htk.out.symm⟩, hor'⟩⟩
      · obtain rfl : k = n1 := by omega
        gi_wp2
        go_end0
        exact ⟨⟨_, rfl⟩, .inl ⟨_, rfl, by rw [← Hm.out, List.take_length] at hJs; exact hJs⟩⟩

theorem pairs_said : PairsSaid := fun f g Z n hn B1 B2 n₀ a1 a2 n1 c1 n2 c2 hz l1 l2 w hn0 hb1 hb2 hB1 hB2 hr1 hr2 hl1 hl2 => fun l J Jx W hW hJa _ hY h0 =>
  pairs1_in f g Z Fence.wide n trivial rfl hn l B1 B2 n₀ a1 a2 n1 c1 n2 c2 hz l1 l2 J Jx hY W (Nat.le_trans hn0 hW.size) hb1 hb2 ((hW.cell (p := ⟨B1, 0, none⟩) (Nat.lt_of_lt_of_le hb1 hn0)).trans hB1) ((hW.cell (p := ⟨B2, 0, none⟩) (Nat.lt_of_lt_of_le hb2 hn0)).trans hB2) hJa (hr1.below (Nat.le_refl _) hW) (hr2.below (Nat.le_refl _) hW) hl1 hl2 h0
theorem compare_any : ∀ (k : Nat) (w : World) (s t : VT k), Rds k w s → Rds k w t → Calls Try.prog 47 #[(hdT k s).v, (hdT k t).v] w fun e w' => e = .returned (.int .i64 (cmpT k s t)) ∧ Below w.heap.size w w'
  | 0, _, _, _, h, _ => h.elim
  | k + 1, w, s, t, hs, ht => compare_step pairs_said k (compare_any k) w s t hs ht
end Go.Proofs.Ytenfgahedbeekaa
