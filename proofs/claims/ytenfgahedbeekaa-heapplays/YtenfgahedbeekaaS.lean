/- value.Same, sameEntry. -/
import Derived.Test.YtenfgahedbeekaaR
namespace Go.Proofs.Ytenfgahedbeekaa
open Go.RowKit Go.Deep Go.Shelf
set_option linter.unusedVariables false
set_option linter.unusedSimpArgs false

theorem boxes2 (w : World) (a b : Array Value) (s t : TypeId) : Below w.heap.size w ((w.alloc (.cells a s)).alloc (.cells b t)) := ((Below.refl _ w).alloc (Nat.le_refl _) _).alloc (by simp) _
set_option maxHeartbeats 400000 in
theorem same_any (k : Nat) (w : World) (s t : VT k) (hs : Rds k w s) (ht : Rds k w t) : Calls Try.prog 45 #[(hdT k s).v, (hdT k t).v] w fun e w' => e = .returned (.bool (cmpT k s t == 0)) ∧ Below w.heap.size w w' := by
  have K := hid (fun (w1 : World) (hb : Below w.heap.size w w1) => compare_any k w1 s t (Rds.below k hs (Nat.le_refl _) hb) (Rds.below k ht (Nat.le_refl _) hb))
  clear hs ht
  generalize cmpT k s t = c at *
  generalize hdT k s = h at *
  generalize hdT k t = g at *
  obtain ⟨k1, i1, t1, r1, a1, m1, c1⟩ := h
  obtain ⟨k2, i2, t2, r2, a2, m2, c2⟩ := g
  simp only [Hd.v] at K ⊢
  have hb := boxes2 w #[.int .i64 k1, .int .i64 i1, .string t1, .int .i64 r1, .slice a1 m1 c1] #[.int .i64 k2, .int .i64 i2, .string t2, .int .i64 r2, .slice a2 m2 c2] 31 31
  have HB := hid hb
  clear hb
  go_enter Try.func45, Try.ntmps45
  go_wp2_with (go_at_call 47; (refine (Hid.out K _ HB.out).mono ?_; rintro e w1 ⟨rfl, hb1⟩))
  go_ret
  exact ⟨rfl, HB.out.trans (hb1.mono HB.out.size)⟩
def entB (k : Nat) (p q : VT k × VT k) : Bool := cmpT k p.1 q.1 == 0 && cmpT k p.2 q.2 == 0
set_option maxRecDepth 100000 in
set_option maxHeartbeats 1000000 in
theorem sameEntry_any (k : Nat) (w : World) (p q : VT k × VT k) (p1 : Rds k w p.1) (p2 : Rds k w p.2) (q1 : Rds k w q.1) (q2 : Rds k w q.2) :
    Calls Try.prog 71 #[(enT k p).v, (enT k q).v] w fun e w' => e = .returned (.bool (entB k p q)) ∧ Below w.heap.size w w' := by
  have KA := hid (fun (w1 : World) (hb : Below w.heap.size w w1) => same_any k w1 p.1 q.1 (Rds.below k p1 (Nat.le_refl _) hb) (Rds.below k q1 (Nat.le_refl _) hb))
  have KB := hid (fun (w1 : World) (hb : Below w.heap.size w w1) => same_any k w1 p.2 q.2 (Rds.below k p2 (Nat.le_refl _) hb) (Rds.below k q2 (Nat.le_refl _) hb))
  clear p1 p2 q1 q2
  unfold entB
  obtain ⟨A, hA⟩ : ∃ A, A = (cmpT k p.1 q.1 == 0) := ⟨_, rfl⟩
  obtain ⟨B, hB⟩ : ∃ B, B = (cmpT k p.2 q.2 == 0) := ⟨_, rfl⟩
  rw [← hA, ← hB]
  rw [← hA] at KA
  rw [← hB] at KB
  clear hA hB
  unfold enT
  generalize hdT k p.1 = h1 at *
  generalize hdT k p.2 = h2 at *
  generalize hdT k q.1 = h3 at *
  generalize hdT k q.2 = h4 at *
  obtain ⟨yk, yi, yt, yr, ya, yn, yc⟩ := h1
  obtain ⟨zk, zi, zt, zr, za, zn, zc⟩ := h2
  obtain ⟨uk, ui, ut, ur, ua, un, uc⟩ := h3
  obtain ⟨vk, vi, vt, vr, va, vn, vc⟩ := h4
  simp only [Hd.v, En.v, En.cs] at KA KB ⊢
  obtain ⟨W0, hW0⟩ : ∃ W0, W0 = (w.alloc (.cells #[.int .i64 yk, .int .i64 yi, .string yt, .int .i64 yr, .slice ya yn yc, .int .i64 zk, .int .i64 zi, .string zt, .int .i64 zr, .slice za zn zc] 81)).alloc (.cells #[.int .i64 uk, .int .i64 ui, .string ut, .int .i64 ur, .slice ua un uc, .int .i64 vk, .int .i64 vi, .string vt, .int .i64 vr, .slice va vn vc] 81) := ⟨_, rfl⟩
  have b0 : W0.heap[w.heap.size]? = some (.cells #[.int .i64 yk, .int .i64 yi, .string yt, .int .i64 yr, .slice ya yn yc, .int .i64 zk, .int .i64 zi, .string zt, .int .i64 zr, .slice za zn zc] 81 (0, 0)) := by rw [hW0]; exact (Below.heap_alloc _ _ _ (by simp)).trans (heap_alloc_new w _)
  have b1 : W0.heap[w.heap.size + 1]? = some (.cells #[.int .i64 uk, .int .i64 ui, .string ut, .int .i64 ur, .slice ua un uc, .int .i64 vk, .int .i64 vi, .string vt, .int .i64 vr, .slice va vn vc] 81 (0, 0)) := by
    have := heap_alloc_new (w.alloc (.cells #[.int .i64 yk, .int .i64 yi, .string yt, .int .i64 yr, .slice ya yn yc, .int .i64 zk, .int .i64 zi, .string zt, .int .i64 zr, .slice za zn zc] 81)) (.cells #[.int .i64 uk, .int .i64 ui, .string ut, .int .i64 ur, .slice ua un uc, .int .i64 vk, .int .i64 vi, .string vt, .int .i64 vr, .slice va vn vc] 81)
    rw [World.size_alloc] at this
    rw [hW0]; exact this
  have hb0 : Below w.heap.size w W0 := by rw [hW0]; exact boxes2 _ _ _ _ _
  have FX : Hid (∀ w2 : World, Below W0.heap.size W0 w2 → (w2.cell? ⟨w.heap.size, 0, none⟩ = some (.int .i64 yk) ∧ w2.cell? ⟨w.heap.size, 1, none⟩ = some (.int .i64 yi) ∧ w2.cell? ⟨w.heap.size, 2, none⟩ = some (.string yt) ∧ w2.cell? ⟨w.heap.size, 3, none⟩ = some (.int .i64 yr) ∧ w2.cell? ⟨w.heap.size, 4, none⟩ = some (.slice ya yn yc) ∧ w2.cell? ⟨w.heap.size, 5, none⟩ = some (.int .i64 zk) ∧ w2.cell? ⟨w.heap.size, 6, none⟩ = some (.int .i64 zi) ∧ w2.cell? ⟨w.heap.size, 7, none⟩ = some (.string zt) ∧ w2.cell? ⟨w.heap.size, 8, none⟩ = some (.int .i64 zr) ∧ w2.cell? ⟨w.heap.size, 9, none⟩ = some (.slice za zn zc) ∧ w2.cell? ⟨w.heap.size + 1, 0, none⟩ = some (.int .i64 uk) ∧ w2.cell? ⟨w.heap.size + 1, 1, none⟩ = some (.int .i64 ui) ∧ w2.cell? ⟨w.heap.size + 1, 2, none⟩ = some (.string ut) ∧ w2.cell? ⟨w.heap.size + 1, 3, none⟩ = some (.int .i64 ur) ∧ w2.cell? ⟨w.heap.size + 1, 4, none⟩ = some (.slice ua un uc) ∧ w2.cell? ⟨w.heap.size + 1, 5, none⟩ = some (.int .i64 vk) ∧ w2.cell? ⟨w.heap.size + 1, 6, none⟩ = some (.int .i64 vi) ∧ w2.cell? ⟨w.heap.size + 1, 7, none⟩ = some (.string vt) ∧ w2.cell? ⟨w.heap.size + 1, 8, none⟩ = some (.int .i64 vr) ∧ w2.cell? ⟨w.heap.size + 1, 9, none⟩ = some (.slice va vn vc)) ∧ Below w.heap.size w w2) := hid (fun w2 hb => by
    have q0 := (hb.block _ (Array.getElem?_eq_some_iff.1 b0).1).trans b0
    have q1 := (hb.block _ (Array.getElem?_eq_some_iff.1 b1).1).trans b1
    exact ⟨⟨cellOf q0 0, cellOf q0 1, cellOf q0 2, cellOf q0 3, cellOf q0 4, cellOf q0 5, cellOf q0 6, cellOf q0 7, cellOf q0 8, cellOf q0 9, cellOf q1 0, cellOf q1 1, cellOf q1 2, cellOf q1 3, cellOf q1 4, cellOf q1 5, cellOf q1 6, cellOf q1 7, cellOf q1 8, cellOf q1 9⟩, hb0.trans (hb.mono hb0.size)⟩)
  obtain ⟨⟨n0, n1, n2, n3, n4, n5, n6, n7, n8, n9, n10, n11, n12, n13, n14, n15, n16, n17, n18, n19⟩, _⟩ := FX.out W0 (Below.refl _ _)
  have HB0 := hid hb0
  clear b0 b1 hb0
  cases A with
  | false =>
    go_enter Try.func71, Try.ntmps71
    go_wp2_with (go_at_call 45; (rw [← hW0]; refine (Hid.out KA _ HB0.out).mono ?_; rintro e w1 ⟨rfl, hb1⟩; obtain ⟨⟨k0, k1, k2, k3, k4, k5, k6, k7, k8, k9, k10, k11, k12, k13, k14, k15, k16, k17, k18, k19⟩, bb1⟩ := FX.out w1 hb1))
    go_ret
    exact ⟨rfl, bb1⟩
  | true =>
    go_enter Try.func71, Try.ntmps71
    go_wp2_with (first
      | (go_at_call 45; (have hno := bb1; refine (Hid.out KB _ bb1).mono ?_; rintro e w2 ⟨rfl, hb2⟩))
      | (go_at_call 45; (rw [← hW0]; refine (Hid.out KA _ HB0.out).mono ?_; rintro e w1 ⟨rfl, hb1⟩; obtain ⟨⟨k0, k1, k2, k3, k4, k5, k6, k7, k8, k9, k10, k11, k12, k13, k14, k15, k16, k17, k18, k19⟩, bb1⟩ := FX.out w1 hb1)))
    go_ret
    exact ⟨by simp, bb1.trans (hb2.mono bb1.size)⟩
end Go.Proofs.Ytenfgahedbeekaa
