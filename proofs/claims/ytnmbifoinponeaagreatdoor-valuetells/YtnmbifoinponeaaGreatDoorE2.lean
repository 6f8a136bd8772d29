/- Same; ValuePrints' walk. -/
import Derived.Test.YtnmbifoinponeaaGreatDoorB2
import Derived.Test.YtnmbifoinponeaaGreatDoorC2
import Derived.Test.YtnmbifoinponeaaGreatDoorZ
namespace Go.Proofs.YtnmbifoinponeaaGreatDoor
open Go.RowKit Go.Deep Go.Shelf
set_option linter.unusedVariables false
set_option linter.unusedSimpArgs false

theorem tx_mkV {k : Nat} {h : Hd} {l : List (VT k)} (h1 : h.text.size ≤ 1000000) (h2 : ∀ u ∈ l, Tx k u) : Tx (k + 1) (mkV k h l) := ⟨h1, h2⟩
theorem tree_of2 {w : World} {h : Hd} {fs : List Hd} {gs : Nat → List Hd} (d : Deep w h fs gs) (s : SmB2 h fs gs) : ∃ t : VT 3, hdT 3 t = h ∧ Rds 3 w t ∧ Tx 3 t ∧ t.2.map (hdT 2) = fs := by
  obtain ⟨n1, x1, n2, n3⟩ := s
  refine ⟨mkV 2 h ((List.range fs.length).map (fun j => mkV 1 (fs.getD j h) ((gs j).map (fun g => mkV 0 g [])))), rfl, rds_mkV d.hin (by simp [d.n]) (by omega) (by rw [map_two]; exact d.rd) ?_, tx_mkV (by omega) ?_, map_two _ _ _⟩
  · intro u hu
    simp only [List.mem_map, List.mem_range] at hu
    obtain ⟨j, hj, rfl⟩ := hu
    have hfj : fs[j]? = some fs[j] := by simp [hj]
    have hget : fs.getD j h = fs[j] := by simp [hj]
    rw [hget]
    refine rds_mkV (d.fin _ (List.getElem_mem hj)) (by rw [List.length_map]; exact d.gn j _ hfj) (by have := (n2 _ (List.getElem_mem hj)).1; omega) (by rw [map_leaf]; exact d.grd j _ hfj) ?_
    intro u hu
    simp only [List.mem_map] at hu
    obtain ⟨g, hg, rfl⟩ := hu
    have h0 := (n3 j hj g hg).1
    exact rds_mkV (d.gin j g hg) h0 (by omega) (fun i x hx => by simp at hx) (fun u hu => by cases hu)
  · intro u hu
    simp only [List.mem_map, List.mem_range] at hu
    obtain ⟨j, hj, rfl⟩ := hu
    have hget : fs.getD j h = fs[j] := by simp [hj]
    rw [hget]
    refine tx_mkV (by have := (n2 _ (List.getElem_mem hj)).2; omega) ?_
    intro u hu
    simp only [List.mem_map] at hu
    obtain ⟨g, hg, rfl⟩ := hu
    exact tx_mkV (by have := (n3 j hj g hg).2; omega) (fun u hu => by cases hu)

set_option maxHeartbeats 400000 in
theorem same_any (k : Nat) (w : World) (s t : VT k) (hs : Rds k w s) (ht : Rds k w t) : Calls Tryz.prog 11 #[(hdT k s).v, (hdT k t).v] w fun e w' => e = .returned (.bool (cmpT k s t == 0)) ∧ Below w.heap.size w w' := by
  have K := hid (fun (w1 : World) (hb : Below w.heap.size w w1) => compare_any k w1 s t (Rds.below k hs (Nat.le_refl _) hb) (Rds.below k ht (Nat.le_refl _) hb))
  clear hs ht
  generalize cmpT k s t = c at *
  generalize hdT k s = h at *
  generalize hdT k t = g at *
  obtain ⟨k1, i1, t1, r1, a1, m1, c1⟩ := h
  obtain ⟨k2, i2, t2, r2, a2, m2, c2⟩ := g
  simp only [Hd.v] at K ⊢
  have hb := two_boxes w #[.int .i64 k1, .int .i64 i1, .string t1, .int .i64 r1, .slice a1 m1 c1] #[.int .i64 k2, .int .i64 i2, .string t2, .int .i64 r2, .slice a2 m2 c2] 31 31
  have HB := hid hb
  clear hb
  go_enter Tryz.func11, Tryz.ntmps11
  go_wp2_with (go_at_call 9; (refine (Hid.out K _ HB.out).mono ?_; rintro e w1 ⟨rfl, hb1⟩))
  go_ret
  exact ⟨rfl, HB.out.trans (hb1.mono HB.out.size)⟩

end Go.Proofs.YtnmbifoinponeaaGreatDoor
