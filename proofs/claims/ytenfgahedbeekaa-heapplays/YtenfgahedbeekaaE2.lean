/- known. -/
import Derived.Test.YtenfgahedbeekaaD2
import Derived.Deep.CutBlock
import Derived.Deep.DeepCutAuto
namespace Go.Proofs.Ytenfgahedbeekaa
open Go.RowKit Go.Deep Go.Shelf
set_option linter.unusedVariables false
set_option linter.unusedSimpArgs false

theorem made_n (n : Nat) : madeCells (Value.slice none 0 0).cells (n * 1) = (List.replicate n (Value.slice none 0 0)).toArray := by
  have := toList_madeCells_one (.slice none 0 0) n
  rw [Nat.mul_one]
  exact Array.toList_inj.1 (by rw [List.toList_toArray]; exact this)
theorem run_mk (w : World) (n : Nat) (h : n ≤ 1000) : (Instr.makeSlice 25 (.int .i64 (n : Int)) (.int .i64 (n : Int))).run Try.prog w = .ok (.slice (some ⟨w.heap.size, 0, none⟩) n n) (w.alloc (.cells (List.replicate n (.slice none 0 0)).toArray 70)) := by
  obtain ⟨i0, hi, hz0, hz1, hz2⟩ := info_parts info70
  have := run_make (P := Try.prog) w 25 70 i0 (.slice none 0 0) Try.underlying25 hi hz0 .i64 .i64 (n : Int) (n : Int) (by omega) (Int.le_refl _) (by rw [hz2]; omega) (by omega)
  rw [hz1, Int.toNat_natCast, made_n n] at this
  exact this
theorem one {SS : List NL} {L : NL} (h : SS = [L]) : SS[0]? = some L := by rw [h]; rfl
set_option maxRecDepth 100000 in
set_option maxHeartbeats 2000000 in
theorem known_any (w : World) : Calls Try.prog 9 #[] w fun e w' => e = .returned (.bool true) ∧ Below w.heap.size w w' := by
  obtain ⟨W1, hW1⟩ : ∃ W1, W1 = (w.alloc (.cells #[.slice none 0 0] 70)).alloc (.cells #[.slice (some ⟨w.heap.size, 0, none⟩) 1 1] 27) := ⟨_, rfl⟩
  have q1 : W1.heap[w.heap.size]? = some (.cells #[.slice none 0 0] 70 (0, 0)) := by rw [hW1]; exact (Below.heap_alloc _ _ _ (by simp)).trans (heap_alloc_new w _)
  have q2 : W1.heap[w.heap.size + 1]? = some (.cells #[.slice (some ⟨w.heap.size, 0, none⟩) 1 1] 27 (0, 0)) := by
    have := heap_alloc_new (w.alloc (.cells #[.slice none 0 0] 70)) (.cells #[.slice (some ⟨w.heap.size, 0, none⟩) 1 1] 27)
    rw [World.size_alloc] at this
    rw [hW1]; exact this
  have hb1 : Below w.heap.size w W1 := by rw [hW1]; exact ((Below.refl _ w).alloc (Nat.le_refl _) _).alloc (by simp) _
  have hz1 : W1.heap.size = w.heap.size + 1 + 1 := by rw [hW1]; simp
  have st1 : StCP 1 W1 (fun b => w.heap.size ≤ b) (some ⟨w.heap.size, 0, none⟩) 1 (([[]] : List NL).map rowN) := st_make (n := 1) q1 (Nat.le_refl _) (by omega)
  have K36 := hid (fun (n : Int) (W : World) => num_any W n)
  have K12a : Hid (∀ W : World, Below W1.heap.size W1 W → Calls Try.prog 12 #[.agg #[.slice (some ⟨w.heap.size, 0, none⟩) 1 1], .int .i64 0, .agg #[.int .i64 1, .int .i64 2, .string ⟨#[]⟩, .int .i64 0, .slice none 0 0], .agg #[.int .i64 1, .int .i64 5, .string ⟨#[]⟩, .int .i64 0, .slice none 0 0]] W (PutTold 1 W (([[(2, 5)]] : List NL).map rowN))) := hid (fun W hb => put_n W _ 1 1 [[]] (st1.cr.below (Nat.le_refl _) hb) 0 [] rfl 2 5 (by unfold In64; omega) (by unfold In64; omega) (.inr (by simp)))
  have HS1 : Hid (∀ W : World, Below W1.heap.size W1 W → W.cell? ⟨w.heap.size + 1, 0, none⟩ = some (.slice (some ⟨w.heap.size, 0, none⟩) 1 1)) := hid (fun W hb => cellOf ((hb.block _ (Array.getElem?_eq_some_iff.1 q2).1).trans q2) 0)
  have HQ2 : Hid (∀ W : World, Below W1.heap.size W1 W → W.heap[w.heap.size + 1]? = some (.cells #[.slice (some ⟨w.heap.size, 0, none⟩) 1 1] 27 (0, 0))) := hid (fun W hb => (hb.block _ (Array.getElem?_eq_some_iff.1 q2).1).trans q2)
  have mk1 : (Instr.makeSlice 25 (.int .i64 1) (.int .i64 1)).run Try.prog w = .ok (.slice (some ⟨w.heap.size, 0, none⟩) 1 1) (w.alloc (.cells #[.slice none 0 0] 70)) := run_mk w 1 (by omega)
  have TR : Hid (∀ {Z x y : World}, Below Z.heap.size Z x → Below x.heap.size x y → Below Z.heap.size Z y) := hid (fun h1 h2 => h1.trans (h2.mono h1.size))
  have HB1 := hid hb1
  have c1 := HS1.out W1 (Below.refl _ _)
  have B0 := hid ((Below.refl W1.heap.size W1).drew)
  clear q1 q2 hb1 st1
  have K12b : Hid (∀ (W2 : World) (fa : Option Addr) (fn fc : Nat), StCR 1 W2 fa fn (([[(2, 5)]] : List NL).map rowN) → ∀ W : World, Below W2.heap.size W2 W → Calls Try.prog 12 #[.agg #[.slice fa fn fc], .int .i64 0, .agg #[.int .i64 1, .int .i64 1, .string ⟨#[]⟩, .int .i64 0, .slice none 0 0], .agg #[.int .i64 1, .int .i64 6, .string ⟨#[]⟩, .int .i64 0, .slice none 0 0]] W (PutTold 1 W (([[(1, 6), (2, 5)]] : List NL).map rowN))) := hid (fun W2 fa fn fc hs W hb => put_n W _ fn fc [[(2, 5)]] (hs.below (Nat.le_refl _) hb) 0 [(2, 5)] rfl 1 6 (by unfold In64; omega) (by unfold In64; omega) (.inr (by simp)))
  have K21 : Hid (∀ (W : World) (fa : Option Addr) (fn fc : Nat), StCR 1 W fa fn (([[(1, 6), (2, 5)]] : List NL).map rowN) → Calls Try.prog 21 #[.agg #[.slice fa fn fc], .int .i64 0] W (MbP 1 W (some (numC 1)))) := hid (fun W fa fn fc hs => first_n W _ fn fc [[(1, 6), (2, 5)]] hs 0 [(1, 6), (2, 5)] rfl)
  have K19 : Hid (∀ (W2 : World) (fa : Option Addr) (fn fc : Nat), StCR 1 W2 fa fn (([[(1, 6), (2, 5)]] : List NL).map rowN) → ∀ W : World, Below W2.heap.size W2 W → Calls Try.prog 19 #[.agg #[.slice fa fn fc], .int .i64 0, .agg #[.int .i64 1, .int .i64 1, .string ⟨#[]⟩, .int .i64 0, .slice none 0 0]] W (MbP 1 W (some (numC 2)))) := hid (fun W2 fa fn fc hs W hb => next_n W _ fn fc [[(1, 6), (2, 5)]] (hs.below (Nat.le_refl _) hb) 0 [(1, 6), (2, 5)] rfl (numH 1) 1 (num_rd W 1 (by omega) (by omega)))
  go_enter Try.func9, Try.ntmps9
  go_upto_region 2 with fail
  rw [← hW1]
  clear hW1
  go_cut [2] from 11 to 17 (fun v2 wc => v2 = .int .i64 0 ∧ ∃ fa fn fc, wc.heap[w.heap.size + 1]? = some (.cells #[.slice fa fn fc] 27 (0, 0)) ∧ StCP 1 wc (fun b => w.heap.size + 2 ≤ b) fa fn (([[(2, 5)]] : List NL).map rowN) ∧ Below w.heap.size w wc ∧ w.heap.size + 2 ≤ wc.heap.size)
  case first =>
    refine wp_region_noPanic ?_
    go_region_with ((first
      | (go_at_call 12; (have hno := B2; refine (K12a.out w3 B2.out).mono ?_; rintro e w4 ⟨fa, fn, fc, rfl, hb4, hfc, hst⟩; have B3 := hid (TR.out B2.out hb4); have ST := hid hst; have HB4 := hid hb4; have y1 := cellOf (HQ2.out _ B3.out) 0; have y2 := freeOf (HQ2.out _ B3.out) 0; simp only [List.getElem?_toArray, List.getElem?_cons_zero] at y1; clear hst hb4))
      | (go_at_call 36; (have hno := B1; refine (K36.out _ w2).mono ?_; rintro e w3 ⟨rfl, hb3⟩; have B2 := hid (TR.out B1.out hb3); have x3 := HS1.out _ B2.out; clear hb3))
      | (go_at_call 36; (refine (K36.out _ _).mono ?_; rintro e w2 ⟨rfl, hb2⟩; have B1 := hid (TR.out B0.out hb2); have x2 := HS1.out _ B1.out; clear hb2))))
    all_goals refine NoPanic.normal ?_
    all_goals
      go_wp2_with fail
      go_meet
    all_goals
      have s2 := B2.out.size
      have s3 := B3.out.size
      refine ⟨rfl, fa, fn, fc, set_cells (HQ2.out _ B3.out) _, (ST.out.keep (fun b hb => Below.heap_setCell _ _ _ _ (by show b ≠ w.heap.size + 1; omega))).imp (fun b hb => by omega), ((HB1.out.trans (B3.out.mono HB1.out.size))).setCell (p := ⟨w.heap.size + 1, 0, none⟩) (by show w.heap.size ≤ w.heap.size + 1; omega) _, by simp [World.setCell]; omega⟩
  case rest =>
    obtain ⟨rfl, fa, fn, fc, q2, st2, hbw, hsz⟩ := hcut
    obtain ⟨wA, hwA⟩ : ∃ wA, wA = wc := ⟨_, rfl⟩
    subst hwA
    have HS2 : Hid (∀ W : World, Below wA.heap.size wA W → W.cell? ⟨w.heap.size + 1, 0, none⟩ = some (.slice fa fn fc)) := hid (fun W hb => cellOf ((hb.block _ (Array.getElem?_eq_some_iff.1 q2).1).trans q2) 0)
    have K12c := hid (K12b.out wA fa fn fc st2.cr)
    have Q2 := hid q2
    have ST2 := hid st2
    have HBW := hid hbw
    have c2 := HS2.out wA (Below.refl _ _)
    have C0 := hid ((Below.refl wA.heap.size wA).drew)
    clear q2 st2 hbw c1 HS1 HQ2 K12a K12b mk1 B0
    go_upto_region 3 with fail
    go_cut [3, 4] from 18 to 24 (fun v3 v4 wd => v4 = .int .i64 0 ∧ ∃ X ga gn gc, v3 = .pointer (some ⟨X, 0, none⟩) ∧ wd.heap[X]? = some (.cells #[.slice ga gn gc] 27 (0, 0)) ∧ StCR 1 wd ga gn (([[(1, 6), (2, 5)]] : List NL).map rowN) ∧ Below wA.heap.size wA wd)
    case first =>
      go_region_held3 (fun W' => W'.cell? ⟨w.heap.size + 1, 0, none⟩ = some (.slice fa fn fc)) (first | exact HS2.out _ (CC03.out.alloc CC03.out.size _) | exact HS2.out _ CC03.out | exact HS2.out _ (CC03.out.setCell (by first | exact Nat.le_refl _ | exact CC01.out.size | exact CC02.out.size) _) | exact HS2.out _ CC02.out | exact HS2.out _ (CC02.out.alloc CC02.out.size _) | exact HS2.out _ CC01.out | exact HS2.out _ (CC01.out.alloc CC01.out.size _) | exact HS2.out _ C0.out | exact HS2.out _ (C0.out.alloc C0.out.size _) | go_keep) ((first
        | (go_at_call 12; (have hno := CC02; refine (K12c.out _ (by first | exact CC02.out | exact CC02.out.alloc CC02.out.size _)).mono ?_; rintro e wC03 ⟨ga, gn, gc, rfl, hbC03, hfc, hst⟩; (first | (have CC03 := hid (TR.out CC02.out hbC03); try have zzC03 := (hbC03.block _ (Array.getElem?_eq_some_iff.1 zzC02).1).trans zzC02) | (have CC03 := hid (TR.out (CC02.out.alloc CC02.out.size _) hbC03); have zzC03 : wC03.heap[wC02.heap.size]? = some (.cells #[.slice none 0 0] 27 (0, 0)) := (hbC03.block _ (by simp)).trans (heap_alloc_new _ (.cells #[.slice none 0 0] 27)))); (try (have y0 := cellOf zzC03 0; have v0 := freeOf zzC03 0; simp only [List.getElem?_toArray, List.getElem?_cons_zero, List.getElem?_cons_succ] at y0)); have ST := hid hst; clear hst; clear hbC03))
        | (go_at_call 36; (have hno := CC01; refine (K36.out _ _).mono ?_; rintro e wC02 ⟨rfl, hbC02⟩; (first | (have CC02 := hid (TR.out CC01.out hbC02); try have zzC02 := (hbC02.block _ (Array.getElem?_eq_some_iff.1 zzC01).1).trans zzC01) | (have CC02 := hid (TR.out (CC01.out.alloc CC01.out.size _) hbC02); have zzC02 : wC02.heap[wC01.heap.size]? = some (.cells #[.slice none 0 0] 27 (0, 0)) := (hbC02.block _ (by simp)).trans (heap_alloc_new _ (.cells #[.slice none 0 0] 27)))); have HXwC02 := CC02; clear hbC02))
        | (go_at_call 36; (refine (K36.out _ _).mono ?_; rintro e wC01 ⟨rfl, hbC01⟩; (first | (have CC01 := hid (TR.out C0.out hbC01); try have zzC01 := (hbC01.block _ (Array.getElem?_eq_some_iff.1 zzC00).1).trans zzC00) | (have CC01 := hid (TR.out (C0.out.alloc C0.out.size _) hbC01); have zzC01 : wC01.heap[wA.heap.size]? = some (.cells #[.slice none 0 0] 27 (0, 0)) := (hbC01.block _ (by simp)).trans (heap_alloc_new _ (.cells #[.slice none 0 0] 27)))); have HXwC01 := CC01; clear hbC01))))
      all_goals
        go_wp2_with fail
        go_meet
        first
          | exact ⟨rfl, _, ga, gn, gc, rfl, set_cells zzC03 _, (ST.out.keep (fun b hb => Below.heap_setCell _ _ _ _ (by have h1 := CC01.out.size; have h2 := CC02.out.size; (try have h3 := (Array.getElem?_eq_some_iff.1 zzC02).1); (try have h4 := (Array.getElem?_eq_some_iff.1 zzC01).1); intro e; simp at hb e; (try simp at h3); (try simp at h4); omega))).cr, CC03.out.setCell (by first | exact Nat.le_refl _ | exact CC01.out.size | exact CC02.out.size) _⟩
          | exact ⟨rfl, wC03.heap.size, ga, gn, gc, rfl, heap_alloc_new wC03 _, (ST.out.cr).below (Nat.le_refl _) ((Below.refl _ wC03).alloc (Nat.le_refl _) _), CC03.out.alloc CC03.out.size _⟩
    case rest =>
      obtain ⟨rfl, X, ga, gn, gc, rfl, q3, st3, hbd⟩ := hcut
      obtain ⟨wB, hwB⟩ : ∃ wB, wB = wc := ⟨_, rfl⟩
      subst hwB
      have K21a := hid (K21.out wB ga gn gc st3)
      have c3 := cellOf q3 0
      simp only [List.getElem?_toArray, List.getElem?_cons_zero] at c3
      have Q3 := hid q3
      have ST3 := hid st3
      have HBD := hid hbd
      clear q3 st3 hbd c2 C0 K12c HS2 K21
      go_upto_region 5 with (go_at_call 21; (refine (K21a.out).mono ?_; rintro e w5 ⟨hb5, t5, rfl, hrt, het⟩; obtain ⟨i1, i2, i3, i4, i5⟩ := told_num hrt het; have B5 := hid hb5; clear hb5 hrt het; generalize hdT 1 t5 = g5 at i1 i2 i3 i4 i5 ⊢; obtain ⟨p1, p2, p3, p4, p5, p6, p7⟩ := g5; simp only at i1 i2 i3 i4 i5; subst i1 i2 i3 i4 i5; simp only [Hd.v]))
      obtain ⟨wE, hwE⟩ : ∃ wE, wE = w5.alloc (.cells #[.int .i64 1, .int .i64 1, .string ⟨#[]⟩, .int .i64 0, .slice p5 0 p7] 31) := ⟨_, rfl⟩
      have hk1 : wE.cell? ⟨w5.heap.size, 1, none⟩ = some (.int .i64 1) := by rw [hwE]; exact cellOf (heap_alloc_new w5 _) 1
      have hbE : Below w5.heap.size w5 wE := by rw [hwE]; exact (Below.refl _ w5).alloc (Nat.le_refl _) _
      have hzE : wE.heap.size = w5.heap.size + 1 := by rw [hwE]; simp
      rw [← hwE]
      clear hwE
      have hbB : Below wB.heap.size wB wE := B5.out.trans (hbE.mono B5.out.size)
      have hbA : Below wA.heap.size wA wE := HBD.out.trans (hbB.mono HBD.out.size)
      have KN := hid (fun (W : World) (hb : Below wE.heap.size wE W) => K19.out wB ga gn gc ST3.out W (hbB.trans (hb.mono hbB.size)))
      have HS5 : Hid (∀ W : World, Below wE.heap.size wE W → W.cell? ⟨X, 0, none⟩ = some (.slice ga gn gc)) := hid (fun W hb => ((hbB.trans (hb.mono hbB.size)).cell (p := ⟨X, 0, none⟩) (Array.getElem?_eq_some_iff.1 Q3.out).1).trans c3)
      have c5 := HS5.out wE (Below.refl _ _)
      have E0 := hid ((Below.refl wE.heap.size wE).drew)
      have HBA := hid hbA
      have HBB := hid hbB
      have HK1 := hid hk1
      have HzE := hid hzE
      clear hbE hbB hbA hk1 K19 hzE
      go_cut [7, 8] from 30 to 35 (fun v7 v8 wd => v8 = .bool true ∧ ∃ Y, v7 = .pointer (some ⟨Y, 0, none⟩) ∧ wd.cell? ⟨Y, 1, none⟩ = some (.int .i64 2) ∧ Below wE.heap.size wE wd)
      case first =>
        go_region_held3 (fun W' => W'.cell? ⟨X, 0, none⟩ = some (.slice ga gn gc)) (first | with_reducible exact HS5.out _ (CE02.out.alloc CE02.out.size _) | with_reducible exact HS5.out _ CE02.out | with_reducible exact HS5.out _ (((((CE02.out.setCell (by first | exact Nat.le_refl _ | exact CE01.out.size) _).setCell (by first | exact Nat.le_refl _ | exact CE01.out.size) _).setCell (by first | exact Nat.le_refl _ | exact CE01.out.size) _).setCell (by first | exact Nat.le_refl _ | exact CE01.out.size) _).setCell (by first | exact Nat.le_refl _ | exact CE01.out.size) _) | with_reducible exact HS5.out _ CE01.out | with_reducible exact HS5.out _ (CE01.out.alloc CE01.out.size _) | with_reducible exact HS5.out _ E0.out | with_reducible exact HS5.out _ (E0.out.alloc E0.out.size _) | go_keep) ((first
        | (go_at_call 19; (have hno := CE01; refine (KN.out _ (by first | exact CE01.out | exact CE01.out.alloc CE01.out.size _)).mono ?_; rintro e wE02 ⟨hbE02, t7, rfl, hrt, het⟩; (first | (have CE02 := hid (TR.out CE01.out hbE02); try have zzE02 := (hbE02.block _ (Array.getElem?_eq_some_iff.1 zzE01).1).trans zzE01) | (have CE02 := hid (TR.out (CE01.out.alloc CE01.out.size _) hbE02); have zzE02 : wE02.heap[wE01.heap.size]? = some (.cells #[.int .i64 0, .int .i64 0, .string ⟨#[]⟩, .int .i64 0, .slice none 0 0] 31 (0, 0)) := (hbE02.block _ (by simp)).trans (heap_alloc_new _ (.cells #[.int .i64 0, .int .i64 0, .string ⟨#[]⟩, .int .i64 0, .slice none 0 0] 31)))); (try (have y0 := cellOf zzE02 0; have v0 := freeOf zzE02 0; have y1 := cellOf zzE02 1; have v1 := freeOf zzE02 1; have y2 := cellOf zzE02 2; have v2 := freeOf zzE02 2; have y3 := cellOf zzE02 3; have v3 := freeOf zzE02 3; have y4 := cellOf zzE02 4; have v4 := freeOf zzE02 4; simp only [List.getElem?_toArray, List.getElem?_cons_zero, List.getElem?_cons_succ] at y0 y1 y2 y3 y4)); obtain ⟨j1, j2, j3, j4, j5⟩ := told_num hrt het; clear hrt het; generalize hdT 1 t7 = h7 at j1 j2 j3 j4 j5 ⊢; obtain ⟨h1, h2, h3, h4, h5, h6, h7⟩ := h7; simp only at j1 j2 j3 j4 j5; subst j1 j2 j3 j4 j5; simp only [Hd.v]; clear hbE02))
        | (go_at_call 36; (refine (K36.out _ _).mono ?_; rintro e wE01 ⟨rfl, hbE01⟩; (first | (have CE01 := hid (TR.out E0.out hbE01); try have zzE01 := (hbE01.block _ (Array.getElem?_eq_some_iff.1 zzE00).1).trans zzE00) | (have CE01 := hid (TR.out (E0.out.alloc E0.out.size _) hbE01); have zzE01 : wE01.heap[wE.heap.size]? = some (.cells #[.int .i64 0, .int .i64 0, .string ⟨#[]⟩, .int .i64 0, .slice none 0 0] 31 (0, 0)) := (hbE01.block _ (by simp)).trans (heap_alloc_new _ (.cells #[.int .i64 0, .int .i64 0, .string ⟨#[]⟩, .int .i64 0, .slice none 0 0] 31)))); have xwE01 := HS5.out _ CE01.out; have xawE01 := fun o => HS5.out _ (CE01.out.alloc CE01.out.size o); clear hbE01))))
        all_goals
          go_wp2_with fail
          go_meet
          first
            | exact ⟨rfl, _, rfl, cellOf (five_new zzE02 ⟨1, 2, ⟨#[]⟩, 0, h5, 0, h7⟩) 1, five_below CE02.out (by first | exact Nat.le_refl _ | exact CE01.out.size) ⟨1, 2, ⟨#[]⟩, 0, h5, 0, h7⟩⟩
            | exact ⟨rfl, wE02.heap.size, rfl, cellOf (heap_alloc_new wE02 _) 1, CE02.out.alloc CE02.out.size _⟩
      case rest =>
        obtain ⟨rfl, Y, rfl, c7, hbl⟩ := hcut
        have b1 := hbl.cell (p := ⟨w5.heap.size, 1, none⟩) (by show w5.heap.size < _; rw [HzE.out]; omega)
        rw [HK1.out] at b1
        have hA := HBA.out.trans (hbl.mono HBA.out.size)
        have hB := HBB.out.trans (hbl.mono HBB.out.size)
        have b2 := (hA.cell (p := ⟨w.heap.size + 1, 0, none⟩) (Array.getElem?_eq_some_iff.1 Q2.out).1).trans (cellOf Q2.out 0)
        have b3 := (hB.cell (p := ⟨X, 0, none⟩) (Array.getElem?_eq_some_iff.1 Q3.out).1).trans (cellOf Q3.out 0)
        obtain ⟨d1, o1, ra, rn, rc, e1, hc1, hrn, _⟩ := ST2.out.cr.at (i := 0) (row := rowN [(2, 5)]) rfl
        obtain ⟨d2, o2, ra2, rn2, rc2, e2, hc2, hrn2, _⟩ := ST3.out.at (i := 0) (row := rowN [(1, 6), (2, 5)]) rfl
        subst e1
        subst e2
        have hrn' : rn = 1 := hrn
        have hrn2' : rn2 = 2 := hrn2
        subst hrn'
        subst hrn2'
        have hfn : fn = 1 := ST2.out.cr.len.1
        have hgn : gn = 1 := ST3.out.len.1
        subst hfn
        subst hgn
        have b4 := (hA.cell (p := ⟨d1, o1 + 0, none⟩) (World.block_lt_of_cell? _ _ hc1)).trans hc1
        have b5 := (hB.cell (p := ⟨d2, o2 + 0, none⟩) (World.block_lt_of_cell? _ _ hc2)).trans hc2
        simp only [List.getElem?_toArray, List.getElem?_cons_zero, Nat.add_zero] at b2 b3 b4 b5
        have HF := hid (HBW.out.trans (hA.mono HBW.out.size))
        clear hA hB hbl hc1 hc2 hrn hrn2 ST2 ST3 Q2 Q3 HBA HBB HK1 c3 c5 KN HS5 E0
        go_wp2
        go_ret
        exact ⟨rfl, HF.out⟩
end Go.Proofs.Ytenfgahedbeekaa
