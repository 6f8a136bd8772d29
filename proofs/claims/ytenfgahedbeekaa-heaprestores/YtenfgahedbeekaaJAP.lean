/- known. -/
import Derived.Test.YtenfgahedbeekaaJAO
import Derived.Deep.CutBlock
import Derived.Deep.DeepCutAuto
import Derived.BigQuiet
namespace Go.Proofs.Ytenfgahedbeekaa
open Go.RowKit Go.Deep Go.Shelf
set_option linter.unusedVariables false
set_option linter.unusedSimpArgs false

theorem made_n (n : Nat) : madeCells (Value.slice none 0 0).cells (n * 1) = (List.replicate n (Value.slice none 0 0)).toArray := by
  have := toList_madeCells_one (.slice none 0 0) n
  rw [Nat.mul_one]
  exact Array.toList_inj.1 (by rw [List.toList_toArray]; exact this)
theorem run_mk (w : World) (n : Nat) (h : n ≤ 1000) : (Instr.makeSlice 25 (.int .i64 (n : Int)) (.int .i64 (n : Int))).run Try.prog w = .ok (.slice (some ⟨w.heap.size, 0, none⟩) n n) (w.alloc (.cells (List.replicate n (.slice none 0 0)).toArray 70)) := by
  obtain ⟨i0, hi, hz0, hz1, hz2⟩ := info_parts info70
  have := run_make (P := Try.prog) w 25 70 i0 (.slice none 0 0) Try.underlying25 hi hz0 .i64 .i64 (n : Int) (n : Int) (by omega) (Int.le_refl _) (by rw [hz2]; omega) (by omega)
  rw [hz1, Int.toNat_natCast, made_n n] at this
  exact this
set_option maxRecDepth 100000 in
set_option maxHeartbeats 2000000 in
theorem known_any (w : World) : Calls Try.prog 9 #[] w fun e w' => e = .returned (.bool true) ∧ Below w.heap.size w w' := by
  obtain ⟨W1, hW1⟩ : ∃ W1, W1 = (w.alloc (.cells #[.slice none 0 0] 70)).alloc (.cells #[.slice (some ⟨w.heap.size, 0, none⟩) 1 1] 27) := ⟨_, rfl⟩
  have q1 : W1.heap[w.heap.size]? = some (.cells #[.slice none 0 0] 70 (0, 0)) := by rw [hW1]; exact (Below.heap_alloc _ _ _ (by simp)).trans (heap_alloc_new w _)
  have q2 : W1.heap[w.heap.size + 1]? = some (.cells #[.slice (some ⟨w.heap.size, 0, none⟩) 1 1] 27 (0, 0)) := by
    have := heap_alloc_new (w.alloc (.cells #[.slice none 0 0] 70)) (.cells #[.slice (some ⟨w.heap.size, 0, none⟩) 1 1] 27)
    rw [World.size_alloc] at this
    rw [hW1]; exact this
  have hb1 : Below w.heap.size w W1 := by rw [hW1]; exact ((Below.refl _ w).alloc (Nat.le_refl _) _).alloc (by simp) _
  have hz1 : W1.heap.size = w.heap.size + 1 + 1 := by rw [hW1]; simp
  have st1 : StCP 1 W1 (fun b => w.heap.size ≤ b) (some ⟨w.heap.size, 0, none⟩) 1 (([[]] : List NL).map rowN) := st_make (n := 1) q1 (Nat.le_refl _) (by omega)
  have K36 := hid (fun (n : Int) (W : World) => num_any W n)
  have K12a : Hid (∀ W : World, Below W1.heap.size W1 W → Calls Try.prog 12 #[.agg #[.slice (some ⟨w.heap.size, 0, none⟩) 1 1], .int .i64 0, .agg #[.int .i64 1, .int .i64 2, .string ⟨#[]⟩, .int .i64 0, .slice none 0 0], .agg #[.int .i64 1, .int .i64 5, .string ⟨#[]⟩, .int .i64 0, .slice none 0 0]] W (PutTold 1 W (([[(2, 5)]] : List NL).map rowN))) := hid (fun W hb => put_n W _ 1 1 [[]] (st1.cr.below (Nat.le_refl _) hb) 0 [] rfl 2 5 (by unfold In64; omega) (by unfold In64; omega) (.inr (by simp)))
  have HS1 : Hid (∀ W : World, Below W1.heap.size W1 W → W.cell? ⟨w.heap.size + 1, 0, none⟩ = some (.slice (some ⟨w.heap.size, 0, none⟩) 1 1)) := hid (fun W hb => cellOf ((hb.block _ (Array.getElem?_eq_some_iff.1 q2).1).trans q2) 0)
  have HQ2 : Hid (∀ W : World, Below W1.heap.size W1 W → W.heap[w.heap.size + 1]? = some (.cells #[.slice (some ⟨w.heap.size, 0, none⟩) 1 1] 27 (0, 0))) := hid (fun W hb => (hb.block _ (Array.getElem?_eq_some_iff.1 q2).1).trans q2)
  have mk1 : (Instr.makeSlice 25 (.int .i64 1) (.int .i64 1)).run Try.prog w = .ok (.slice (some ⟨w.heap.size, 0, none⟩) 1 1) (w.alloc (.cells #[.slice none 0 0] 70)) := run_mk w 1 (by omega)
  have TR : Hid (∀ {Z x y : World}, Below Z.heap.size Z x → Below x.heap.size x y → Below Z.heap.size Z y) := hid (fun h1 h2 => h1.trans (h2.mono h1.size))
  have HB1 := hid hb1
  have c1 := HS1.out W1 (Below.refl _ _)
  have B0 := hid ((Below.refl W1.heap.size W1).drew)
  clear q1 q2 hb1 st1
  have K12b : Hid (∀ (W2 : World) (fa : Option Addr) (fn fc : Nat), StCR 1 W2 fa fn (([[(2, 5)]] : List NL).map rowN) → ∀ W : World, Below W2.heap.size W2 W → Calls Try.prog 12 #[.agg #[.slice fa fn fc], .int .i64 0, .agg #[.int .i64 1, .int .i64 1, .string ⟨#[]⟩, .int .i64 0, .slice none 0 0], .agg #[.int .i64 1, .int .i64 6, .string ⟨#[]⟩, .int .i64 0, .slice none 0 0]] W (PutTold 1 W (([[(1, 6), (2, 5)]] : List NL).map rowN))) := hid (fun W2 fa fn fc hs W hb => put_n W _ fn fc [[(2, 5)]] (hs.below (Nat.le_refl _) hb) 0 [(2, 5)] rfl 1 6 (by unfold In64; omega) (by unfold In64; omega) (.inr (by simp)))
  have K21 : Hid (∀ (W : World) (fa : Option Addr) (fn fc : Nat), StCR 1 W fa fn (([[(1, 6), (2, 5)]] : List NL).map rowN) → Calls Try.prog 21 #[.agg #[.slice fa fn fc], .int .i64 0] W (MbP 1 W (some (numC 1)))) := hid (fun W fa fn fc hs => first_n W _ fn fc [[(1, 6), (2, 5)]] hs 0 [(1, 6), (2, 5)] rfl)
  have K19 : Hid (∀ (W2 : World) (fa : Option Addr) (fn fc : Nat), StCR 1 W2 fa fn (([[(1, 6), (2, 5)]] : List NL).map rowN) → ∀ W : World, Below W2.heap.size W2 W → Calls Try.prog 19 #[.agg #[.slice fa fn fc], .int .i64 0, .agg #[.int .i64 1, .int .i64 1, .string ⟨#[]⟩, .int .i64 0, .slice none 0 0]] W (MbP 1 W (some (numC 2)))) := hid (fun W2 fa fn fc hs W hb => next_n W _ fn fc [[(1, 6), (2, 5)]] (hs.below (Nat.le_refl _) hb) 0 [(1, 6), (2, 5)] rfl (numH 1) 1 (num_rd W 1 (by omega) (by omega)))
  go_enter Try.func9, Try.ntmps9
  go_upto_region 2 with fail
  rw [← hW1]
  clear hW1
  go_cut [2] from 11 to 17 (fun v2 wc => v2 = .int .i64 0 ∧ ∃ fa fn fc, wc.heap[w.heap.size + 1]? = some (.cells #[.slice fa fn fc] 27 (0, 0)) ∧ StCP 1 wc (fun b => w.heap.size + 2 ≤ b) fa fn (([[(2, 5)]] : List NL).map rowN) ∧ Below w.heap.size w wc ∧ w.heap.size + 2 ≤ wc.heap.size)
  case first =>
    refine wp_region_noPanic ?_
    go_region_with ((first
      | (go_at_call 12; (have hno := B2; refine (K12a.out w3 B2.out).mono ?_; rintro e w4 ⟨fa, fn, fc, rfl, hb4, hfc, hst⟩; have B3 := hid (TR.out B2.out hb4); have ST := hid hst; have HB4 := hid hb4; have y1 := cellOf (HQ2.out _ B3.out) 0; have y2 := freeOf (HQ2.out _ B3.out) 0; simp only [List.getElem?_toArray, List.getElem?_cons_zero] at y1; clear hst hb4))
      | (go_at_call 36; (have hno := B1; refine (K36.out _ w2).mono ?_; rintro e w3 ⟨rfl, hb3⟩; have B2 := hid (TR.out B1.out hb3); have x3 := HS1.out _ B2.out; clear hb3))
      | (go_at_call 36; (refine (K36.out _ _).mono ?_; rintro e w2 ⟨rfl, hb2⟩; have B1 := hid (TR.out B0.out hb2); have x2 := HS1.out _ B1.out; clear hb2))))
    all_goals refine NoPanic.normal ?_
    all_goals
      go_wp2_with fail
      go_meet
    all_goals
      have s2 := B2.out.size
      have s3 := B3.out.size
      refine ⟨rfl, fa, fn, fc, set_cells (HQ2.out _ B3.out) _, (ST.out.keep (fun b hb => Below.heap_setCell _ _ _ _ (by show b ≠ w.heap.size + 1; omega))).imp (fun b hb => by omega), ((HB1.out.trans (B3.out.mono HB1.out.size))).setCell (p := ⟨w.heap.size + 1, 0, none⟩) (by show w.heap.size ≤ w.heap.size + 1; omega) _, by simp [World.setCell]; omega⟩
  case rest =>
    obtain ⟨rfl, fa, fn, fc, q2, st2, hbw, hsz⟩ := hcut
    obtain ⟨wA, hwA⟩ : ∃ wA, wA = wc := ⟨_, rfl⟩
    subst hwA
    have HS2 : Hid (∀ W : World, Below wA.heap.size wA W → W.cell? ⟨w.heap.size + 1, 0, none⟩ = some (.slice fa fn fc)) := hid (fun W hb => cellOf ((hb.block _ (Array.getElem?_eq_some_iff.1 q2).1).trans q2) 0)
    have K12c := hid (K12b.out wA fa fn fc st2.cr)
    have Q2 := hid q2
    have ST2 := hid st2
    have HBW := hid hbw
    have c2 := HS2.out wA (Below.refl _ _)
    have C0 := hid ((Below.refl wA.heap.size wA).drew)
    clear q2 st2 hbw c1 HS1 HQ2 K12a K12b mk1 B0
    go_upto_region 3 with fail
    go_cut [3, 4] from 18 to 24 (fun v3 v4 wd => v4 = .int .i64 0 ∧ ∃ X ga gn gc, v3 = .pointer (some ⟨X, 0, none⟩) ∧ wd.heap[X]? = some (.cells #[.slice ga gn gc] 27 (0, 0)) ∧ StCR 1 wd ga gn (([[(1, 6), (2, 5)]] : List NL).map rowN) ∧ Below wA.heap.size wA wd)
    case first =>
      go_region_held3 (fun W' => W'.cell? ⟨w.heap.size + 1, 0, none⟩ = some (.slice fa fn fc)) (first | exact HS2.out _ (CC03.out.alloc CC03.out.size _) | exact HS2.out _ CC03.out | exact HS2.out _ (CC03.out.setCell (by first | exact Nat.le_refl _ | exact CC01.out.size | exact CC02.out.size) _) | exact HS2.out _ CC02.out | exact HS2.out _ (CC02.out.alloc CC02.out.size _) | exact HS2.out _ CC01.out | exact HS2.out _ (CC01.out.alloc CC01.out.size _) | exact HS2.out _ C0.out | exact HS2.out _ (C0.out.alloc C0.out.size _) | go_keep) ((first
        | (go_at_call 12; (have hno := CC02; refine (K12c.out _ (by first | exact CC02.out | exact CC02.out.alloc CC02.out.size _)).mono ?_; rintro e wC03 ⟨ga, gn, gc, rfl, hbC03, hfc, hst⟩; (first | (have CC03 := hid (TR.out CC02.out hbC03); try have zzC03 := (hbC03.block _ (Array.getElem?_eq_some_iff.1 zzC02).1).trans zzC02) | (have CC03 := hid (TR.out (CC02.out.alloc CC02.out.size _) hbC03); have zzC03 : wC03.heap[wC02.heap.size]? = some (.cells #[.slice none 0 0] 27 (0, 0)) := (hbC03.block _ (by simp)).trans (heap_alloc_new _ (.cells #[.slice none 0 0] 27)))); (try (have y0 := cellOf zzC03 0; have v0 := freeOf zzC03 0; simp only [List.getElem?_toArray, List.getElem?_cons_zero, List.getElem?_cons_succ] at y0)); have ST := hid hst; clear hst; clear hbC03))
        | (go_at_call 36; (have hno := CC01; refine (K36.out _ _).mono ?_; rintro e wC02 ⟨rfl, hbC02⟩; (first | (have CC02 := hid (TR.out CC01.out hbC02); try have zzC02 := (hbC02.block _ (Array.getElem?_eq_some_iff.1 zzC01).1).trans zzC01) | (have CC02 := hid (TR.out (CC01.out.alloc CC01.out.size _) hbC02); have zzC02 : wC02.heap[wC01.heap.size]? = some (.cells #[.slice none 0 0] 27 (0, 0)) := (hbC02.block _ (by simp)).trans (heap_alloc_new _ (.cells #[.slice none 0 0] 27)))); have HXwC02 := CC02; clear hbC02))
        | (go_at_call 36; (refine (K36.out _ _).mono ?_; rintro e wC01 ⟨rfl, hbC01⟩; (first | (have CC01 := hid (TR.out C0.out hbC01); try have zzC01 := (hbC01.block _ (Array.getElem?_eq_some_iff.1 zzC00).1).trans zzC00) | (have CC01 := hid (TR.out (C0.out.alloc C0.out.size _) hbC01); have zzC01 : wC01.heap[wA.heap.size]? = some (.cells #[.slice none 0 0] 27 (0, 0)) := (hbC01.block _ (by simp)).trans (heap_alloc_new _ (.cells #[.slice none 0 0] 27)))); have HXwC01 := CC01; clear hbC01))))
      all_goals
        go_wp2_with fail
        go_meet
        first
          | exact ⟨rfl, _, ga, gn, gc, rfl, set_cells zzC03 _, (ST.out.keep (fun b hb => Below.heap_setCell _ _ _ _ (by have h1 := CC01.out.size; have h2 := CC02.out.size; (try have h3 := (Array.getElem?_eq_some_iff.1 zzC02).1); (try have h4 := (Array.getElem?_eq_some_iff.1 zzC01).1); intro e; simp at hb e; (try simp at h3); (try simp at h4); omega))).cr, CC03.out.setCell (by first | exact Nat.le_refl _ | exact CC01.out.size | exact CC02.out.size) _⟩
          | exact ⟨rfl, wC03.heap.size, ga, gn, gc, rfl, heap_alloc_new wC03 _, (ST.out.cr).below (Nat.le_refl _) ((Below.refl _ wC03).alloc (Nat.le_refl _) _), CC03.out.alloc CC03.out.size _⟩
    case rest =>
      obtain ⟨rfl, X, ga, gn, gc, rfl, q3, st3, hbd⟩ := hcut
      obtain ⟨wB, hwB⟩ : ∃ wB, wB = wc := ⟨_, rfl⟩
      subst hwB
      have K21a := hid (K21.out wB ga gn gc st3)
      have c3 := cellOf q3 0
      simp only [List.getElem?_toArray, List.getElem?_cons_zero] at c3
      have Q3 := hid q3
      have ST3 := hid st3
      have HBD := hid hbd
      clear q3 st3 hbd c2 C0 K12c HS2 K21
      go_upto_region 5 with (go_at_call 21; (refine (K21a.out).mono ?_; rintro e w5 ⟨hb5, t5, rfl, hrt, het⟩; obtain ⟨i1, i2, i3, i4, i5⟩ := told_num hrt het; have B5 := hid hb5; clear hb5 hrt het; generalize hdT 1 t5 = g5 at i1 i2 i3 i4 i5 ⊢; obtain ⟨p1, p2, p3, p4, p5, p6, p7⟩ := g5; simp only at i1 i2 i3 i4 i5; subst i1 i2 i3 i4 i5; simp only [Hd.v]))
      obtain ⟨wE, hwE⟩ : ∃ wE, wE = w5.alloc (.cells #[.int .i64 1, .int .i64 1, .string ⟨#[]⟩, .int .i64 0, .slice p5 0 p7] 31) := ⟨_, rfl⟩
      have hk1 : wE.cell? ⟨w5.heap.size, 1, none⟩ = some (.int .i64 1) := by rw [hwE]; exact cellOf (heap_alloc_new w5 _) 1
      have hbE : Below w5.heap.size w5 wE := by rw [hwE]; exact (Below.refl _ w5).alloc (Nat.le_refl _) _
      have hzE : wE.heap.size = w5.heap.size + 1 := by rw [hwE]; simp
      rw [← hwE]
      clear hwE
      have hbB : Below wB.heap.size wB wE := B5.out.trans (hbE.mono B5.out.size)
      have hbA : Below wA.heap.size wA wE := HBD.out.trans (hbB.mono HBD.out.size)
      have KN := hid (fun (W : World) (hb : Below wE.heap.size wE W) => K19.out wB ga gn gc ST3.out W (hbB.trans (hb.mono hbB.size)))
      have HS5 : Hid (∀ W : World, Below wE.heap.size wE W → W.cell? ⟨X, 0, none⟩ = some (.slice ga gn gc)) := hid (fun W hb => ((hbB.trans (hb.mono hbB.size)).cell (p := ⟨X, 0, none⟩) (Array.getElem?_eq_some_iff.1 Q3.out).1).trans c3)
      have c5 := HS5.out wE (Below.refl _ _)
      have E0 := hid ((Below.refl wE.heap.size wE).drew)
      have HBA := hid hbA
      have HBB := hid hbB
      have HK1 := hid hk1
      have HzE := hid hzE
      clear hbE hbB hbA hk1 K19 hzE
      go_cut [7, 8] from 30 to 35 (fun v7 v8 wd => v8 = .bool true ∧ ∃ Y, v7 = .pointer (some ⟨Y, 0, none⟩) ∧ wd.cell? ⟨Y, 1, none⟩ = some (.int .i64 2) ∧ Below wE.heap.size wE wd)
      case first =>
        go_region_held3 (fun W' => W'.cell? ⟨X, 0, none⟩ = some (.slice ga gn gc)) (first | with_reducible exact HS5.out _ (CE02.out.alloc CE02.out.size _) | with_reducible exact HS5.out _ CE02.out | with_reducible exact HS5.out _ (((((CE02.out.setCell (by first | exact Nat.le_refl _ | exact CE01.out.size) _).setCell (by first | exact Nat.le_refl _ | exact CE01.out.size) _).setCell (by first | exact Nat.le_refl _ | exact CE01.out.size) _).setCell (by first | exact Nat.le_refl _ | exact CE01.out.size) _).setCell (by first | exact Nat.le_refl _ | exact CE01.out.size) _) | with_reducible exact HS5.out _ CE01.out | with_reducible exact HS5.out _ (CE01.out.alloc CE01.out.size _) | with_reducible exact HS5.out _ E0.out | with_reducible exact HS5.out _ (E0.out.alloc E0.out.size _) | go_keep) ((first
        | (go_at_call 19; (have hno := CE01; refine (KN.out _ (by first | exact CE01.out | exact CE01.out.alloc CE01.out.size _)).mono ?_; rintro e wE02 ⟨hbE02, t7, rfl, hrt, het⟩; (first | (have CE02 := hid (TR.out CE01.out hbE02); try have zzE02 := (hbE02.block _ (Array.getElem?_eq_some_iff.1 zzE01).1).trans zzE01) | (have CE02 := hid (TR.out (CE01.out.alloc CE01.out.size _) hbE02); have zzE02 : wE02.heap[wE01.heap.size]? = some (.cells #[.int .i64 0, .int .i64 0, .string ⟨#[]⟩, .int .i64 0, .slice none 0 0] 31 (0, 0)) := (hbE02.block _ (by simp)).trans (heap_alloc_new _ (.cells #[.int .i64 0, .int .i64 0, .string ⟨#[]⟩, .int .i64 0, .slice none 0 0] 31)))); (try (have y0 := cellOf zzE02 0; have v0 := freeOf zzE02 0; have y1 := cellOf zzE02 1; have v1 := freeOf zzE02 1; have y2 := cellOf zzE02 2; have v2 := freeOf zzE02 2; have y3 := cellOf zzE02 3; have v3 := freeOf zzE02 3; have y4 := cellOf zzE02 4; have v4 := freeOf zzE02 4; simp only [List.getElem?_toArray, List.getElem?_cons_zero, List.getElem?_cons_succ] at y0 y1 y2 y3 y4)); obtain ⟨j1, j2, j3, j4, j5⟩ := told_num hrt het; clear hrt het; generalize hdT 1 t7 = h7 at j1 j2 j3 j4 j5 ⊢; obtain ⟨h1, h2, h3, h4, h5, h6, h7⟩ := h7; simp only at j1 j2 j3 j4 j5; subst j1 j2 j3 j4 j5; simp only [Hd.v]; clear hbE02))
        | (go_at_call 36; (refine (K36.out _ _).mono ?_; rintro e wE01 ⟨rfl, hbE01⟩; (first | (have CE01 := hid (TR.out E0.out hbE01); try have zzE01 := (hbE01.block _ (Array.getElem?_eq_some_iff.1 zzE00).1).trans zzE00) | (have CE01 := hid (TR.out (E0.out.alloc E0.out.size _) hbE01); have zzE01 : wE01.heap[wE.heap.size]? = some (.cells #[.int .i64 0, .int .i64 0, .string ⟨#[]⟩, .int .i64 0, .slice none 0 0] 31 (0, 0)) := (hbE01.block _ (by simp)).trans (heap_alloc_new _ (.cells #[.int .i64 0, .int .i64 0, .string ⟨#[]⟩, .int .i64 0, .slice none 0 0] 31)))); have xwE01 := HS5.out _ CE01.out; have xawE01 := fun o => HS5.out _ (CE01.out.alloc CE01.out.size o); clear hbE01))))
        all_goals
          go_wp2_with fail
          go_meet
          first
            | exact ⟨rfl, _, rfl, cellOf (five_new zzE02 ⟨1, 2, ⟨#[]⟩, 0, h5, 0, h7⟩) 1, five_below CE02.out (by first | exact Nat.le_refl _ | exact CE01.out.size) ⟨1, 2, ⟨#[]⟩, 0, h5, 0, h7⟩⟩
            | exact ⟨rfl, wE02.heap.size, rfl, cellOf (heap_alloc_new wE02 _) 1, CE02.out.alloc CE02.out.size _⟩
      case rest =>
        obtain ⟨rfl, Y, rfl, c7, hbl⟩ := hcut
        have b1 := hbl.cell (p := ⟨w5.heap.size, 1, none⟩) (by show w5.heap.size < _; rw [HzE.out]; omega)
        rw [HK1.out] at b1
        have hA := HBA.out.trans (hbl.mono HBA.out.size)
        have hB := HBB.out.trans (hbl.mono HBB.out.size)
        have b2 := (hA.cell (p := ⟨w.heap.size + 1, 0, none⟩) (Array.getElem?_eq_some_iff.1 Q2.out).1).trans (cellOf Q2.out 0)
        have b3 := (hB.cell (p := ⟨X, 0, none⟩) (Array.getElem?_eq_some_iff.1 Q3.out).1).trans (cellOf Q3.out 0)
        obtain ⟨d1, o1, ra, rn, rc, e1, hc1, hrn, _⟩ := ST2.out.cr.at (i := 0) (row := rowN [(2, 5)]) rfl
        obtain ⟨d2, o2, ra2, rn2, rc2, e2, hc2, hrn2, _⟩ := ST3.out.at (i := 0) (row := rowN [(1, 6), (2, 5)]) rfl
        subst e1
        subst e2
        have hrn' : rn = 1 := hrn
        have hrn2' : rn2 = 2 := hrn2
        subst hrn'
        subst hrn2'
        have hfn : fn = 1 := ST2.out.cr.len.1
        have hgn : gn = 1 := ST3.out.len.1
        subst hfn
        subst hgn
        have b4 := (hA.cell (p := ⟨d1, o1 + 0, none⟩) (World.block_lt_of_cell? _ _ hc1)).trans hc1
        have b5 := (hB.cell (p := ⟨d2, o2 + 0, none⟩) (World.block_lt_of_cell? _ _ hc2)).trans hc2
        simp only [List.getElem?_toArray, List.getElem?_cons_zero, Nat.add_zero] at b2 b3 b4 b5
        have HF := hid (HBW.out.trans (hA.mono HBW.out.size))
        clear hA hB hbl hc1 hc2 hrn hrn2 ST2 ST3 Q2 Q3 HBA HBB HK1 c3 c5 KN HS5 E0
        go_wp2
        go_ret
        exact ⟨rfl, HF.out⟩
end Go.Proofs.Ytenfgahedbeekaa

namespace Go.Proofs.Ytenfgahedbeekaa
open Go.RowKit Go.Deep Go.Shelf
set_option linter.unusedVariables false
set_option linter.unusedSimpArgs false

def NwP (k : Nat) (w : World) (p : Pg) (e : Ending) (w' : World) : Prop := Below w.heap.size w w' ∧ ((rightB p = false ∧ e = .returned (.tuple #[.agg #[.slice none 0 0], .int .i64 40])) ∨ (rightB p = true ∧ ∃ g, e = .returned (.tuple #[.agg #[.slice (some ⟨g, 0, none⟩) p.maps.length p.maps.length], .int .i64 0]) ∧ StCP k w' (fun b => w.heap.size ≤ b ∧ b < w'.heap.size) (some ⟨g, 0, none⟩) p.maps.length (List.replicate p.maps.length [])))
theorem right_maps {p : Pg} (h : rightB p = true) : p.maps.length ≤ 16 := by
  simp only [rightB, mapsB, Bool.and_eq_true, decide_eq_true_eq] at h
  exact h.1.1.1.2.1.1
theorem al1N {W : World} {b : Nat} {c : Array Value} {t : TypeId} (h : W.heap[b]? = some (.cells c t (0, 0))) (o : Obj) : (W.alloc o).heap[b]? = some (.cells c t (0, 0)) := (Below.heap_alloc _ _ _ (Array.getElem?_eq_some_iff.1 h).1).trans h

end Go.Proofs.Ytenfgahedbeekaa

namespace Go.Proofs.Ytenfgahedbeekaa
open Go.RowKit Go.Deep Go.Shelf
set_option linter.unusedVariables false
set_option linter.unusedSimpArgs false

/- Whether a tree of values is of a type. -/
def isV (k : Nat) (p : Pg) (t : TyP) (v : VT (k + 2)) : Bool := isB p t v.1 (v.2.map (hdT (k + 1)))
theorem isV_any (k : Nat) (w : World) (g : PH) (p : Pg) (d : PRd w g p) (a r : Int) (v : VT (k + 2)) (hv : Rds (k + 2) w v) :
    Calls Try.prog 80 #[g.v, ty a r, (hdT (k + 2) v).v] w fun e w' => e = .returned (.bool (isV k p (a, r) v)) ∧ Below w.heap.size w w' :=
  is_any w g p d a r v.1 (v.2.map (hdT (k + 1))) hv.1 (by rw [List.length_map]; exact hv.2.1) hv.2.2.2.1 (fun f hf => by
    simp only [List.mem_map] at hf
    obtain ⟨u, hu, rfl⟩ := hf
    exact (hv.2.2.2.2 u hu).1)
/- Whether an entry may stand where it does. -/
def entV (k : Nat) (p : Pg) (m : Mp) (row : Rw (k + 2)) (i : Nat) : Bool :=
  match row[i]? with
  | none => true
  | some q => isV k p m.key q.1 && isV k p m.val q.2 && (decide (i = 0) || ((row[i - 1]?).map fun o => decide (cmpT (k + 2) o.1 q.1 < 0)).getD true)
def mapV (k : Nat) (p : Pg) (m : Mp) (row : Rw (k + 2)) : Bool := decide (row.length ≤ 24) && (List.range row.length).all (entV k p m row)
theorem mapV_no {k : Nat} {p : Pg} {m : Mp} {row : Rw (k + 2)} {i : Nat} (hi : i < row.length) (h : entV k p m row i = false) : mapV k p m row = false := by
  unfold mapV
  have : (List.range row.length).all (entV k p m row) = false := by
    rw [List.all_eq_false]
    exact ⟨i, List.mem_range.2 hi, by simp [h]⟩
  rw [this]
  simp
theorem mapV_yes {k : Nat} {p : Pg} {m : Mp} {row : Rw (k + 2)} (hl : row.length ≤ 24) (h : ∀ i, i < row.length → entV k p m row i = true) : mapV k p m row = true := by
  unfold mapV
  have : (List.range row.length).all (entV k p m row) = true := by
    rw [List.all_eq_true]
    exact fun i hi => h i (List.mem_range.1 hi)
  rw [this]
  simp [hl]
def mtV (m : Mp) : Value := .agg #[.string m.name, .int .i64 m.key.1, .int .i64 m.key.2, .int .i64 m.val.1, .int .i64 m.val.2]
set_option maxRecDepth 100000 in
set_option maxHeartbeats 2000000 in
theorem isMap_any (k : Nat) (w : World) (g : PH) (p : Pg) (d : PRd w g p) (m : Mp) (a : Option Addr) (n cap : Nat) (row : Rw (k + 2)) (hr : RwR (k + 2) w a n row) :
    Calls Try.prog 53 #[g.v, mtV m, .slice a n cap] w fun e w' => e = .returned (.bool (mapV k p m row)) ∧ Below w.heap.size w w' := by
  have Hn := hid hr.n1
  have hle := hr.n2
  have hle2 : (n : Int) ≤ 1000 := by omega
  have hn0 : (0 : Int) ≤ (n : Int) := by omega
  have R := hid hr
  have K80 := hid (fun (w1 : World) (hb : Below w.heap.size w w1) (x y : Int) (v : VT (k + 2)) (hv : Rds (k + 2) w1 v) => isV_any k w1 g p (d.below (Nat.le_refl _) hb) x y v hv)
  obtain ⟨ra, rn, rc, ma, mn, mc, fa, fn, fc, ea, en, ec⟩ := g
  obtain ⟨nm, ⟨k1, k2⟩, ⟨v1, v2⟩⟩ := m
  simp only [PH.v, mtV, ty] at K80 ⊢
  clear d hr
  obtain ⟨W0, hW0⟩ : ∃ W0, W0 = (w.alloc (.cells #[.slice ra rn rc, .slice ma mn mc, .slice fa fn fc, .slice ea en ec] 50)).alloc (.cells #[.string nm, .int .i64 k1, .int .i64 k2, .int .i64 v1, .int .i64 v2] 75) := ⟨_, rfl⟩
  have q1 : W0.heap[w.heap.size]? = some (.cells #[.slice ra rn rc, .slice ma mn mc, .slice fa fn fc, .slice ea en ec] 50 (0, 0)) := by rw [hW0]; exact (Below.heap_alloc _ _ _ (by simp)).trans (heap_alloc_new w _)
  have q2 : W0.heap[w.heap.size + 1]? = some (.cells #[.string nm, .int .i64 k1, .int .i64 k2, .int .i64 v1, .int .i64 v2] 75 (0, 0)) := by
    have := heap_alloc_new (w.alloc (.cells #[.slice ra rn rc, .slice ma mn mc, .slice fa fn fc, .slice ea en ec] 50)) (.cells #[.string nm, .int .i64 k1, .int .i64 k2, .int .i64 v1, .int .i64 v2] 75)
    rw [World.size_alloc] at this
    rw [hW0]; exact this
  have hb0 : Below w.heap.size w W0 := by rw [hW0]; exact boxes2 _ _ _ _ _
  have FX : Hid (∀ w2 : World, Below W0.heap.size W0 w2 → (w2.cell? ⟨w.heap.size, 0, none⟩ = some (.slice ra rn rc) ∧ w2.cell? ⟨w.heap.size, 1, none⟩ = some (.slice ma mn mc) ∧ w2.cell? ⟨w.heap.size, 2, none⟩ = some (.slice fa fn fc) ∧ w2.cell? ⟨w.heap.size, 3, none⟩ = some (.slice ea en ec) ∧ w2.cell? ⟨w.heap.size + 1, 1, none⟩ = some (.int .i64 k1) ∧ w2.cell? ⟨w.heap.size + 1, 2, none⟩ = some (.int .i64 k2) ∧ w2.cell? ⟨w.heap.size + 1, 3, none⟩ = some (.int .i64 v1) ∧ w2.cell? ⟨w.heap.size + 1, 4, none⟩ = some (.int .i64 v2)) ∧ Below w.heap.size w w2) := hid (fun w2 hb => by
    have bx := (hb.block _ (Array.getElem?_eq_some_iff.1 q1).1).trans q1
    have bz := (hb.block _ (Array.getElem?_eq_some_iff.1 q2).1).trans q2
    exact ⟨⟨cellOf bx 0, cellOf bx 1, cellOf bx 2, cellOf bx 3, cellOf bz 1, cellOf bz 2, cellOf bz 3, cellOf bz 4⟩, hb0.trans (hb.mono hb0.size)⟩)
  have TR : Hid (∀ {Z x y : World}, Below Z.heap.size Z x → Below x.heap.size x y → Below Z.heap.size Z y) := hid (fun h1 h2 => h1.trans (h2.mono h1.size))
  have HB0 := hid hb0
  clear q1 q2 hb0
  by_cases h24 : 24 < n
  · have h24' : (24 : Int) < (n : Int) := by omega
    have HF : Hid (mapV k p ⟨nm, (k1, k2), (v1, v2)⟩ row = false) := hid (by unfold mapV; rw [decide_eq_false (by rw [← Hn.out]; omega)]; rfl)
    go_enter Try.func53, Try.ntmps53
    go_wp2
    rw [← hW0]
    go_ret
    exact ⟨by rw [HF.out]; rfl, HB0.out⟩
  · have h24' : ¬ (24 : Int) < (n : Int) := by omega
    go_enter Try.func53, Try.ntmps53
    go_wp2
    rw [← hW0]
    clear hW0
    go_loopg [14] n (fun gg ii wr => ∃ i : Nat, i + gg = n ∧ ii = .int .i64 (i : Int) ∧ Below W0.heap.size W0 wr ∧ ∀ j, j < i → entV k p ⟨nm, (k1, k2), (v1, v2)⟩ row j = true)
    case atStart => exact ⟨0, by omega, rfl, Below.refl _ _, fun j hj => by omega⟩
    case round =>
      obtain ⟨i, hi', rfl, hbr, hacc⟩ := hrel
      have Hbr := hid hbr
      have Hacc := hid hacc
      clear hacc
      cases gk with
      | zero =>
        have hin2 : i = n := by omega
        subst hin2
        clear hi' hbr
        have HT : Hid (mapV k p ⟨nm, (k1, k2), (v1, v2)⟩ row = true) := hid (mapV_yes (by rw [← Hn.out]; omega) (by rw [← Hn.out]; exact Hacc.out))
        go_wp2
        go_ret
        exact ⟨by rw [HT.out]; rfl, (FX.out _ Hbr.out).2⟩
      | succ gi =>
        have hlt0 : i < n := by omega
        have hlt : (i : Int) < (n : Int) := by omega
        have hi00 : (0 : Int) ≤ (i : Int) := by omega
        have Hi := hid hi'
        obtain ⟨q, hq⟩ : ∃ q, row[i]? = some q := ⟨row[i]'(by rw [← Hn.out]; exact hlt0), List.getElem?_eq_getElem _⟩
        have Hq := hid hq
        obtain ⟨⟨f0, f1, f2, f3, f4, f5, f6, f7⟩, hbw⟩ := FX.out wr hbr
        have hR := R.out.below (Nat.le_refl _) hbw
        obtain ⟨b1, o1, ea', dh⟩ := hR.rd i (enT (k + 2) q) (by rw [List.getElem?_map, hq]; rfl)
        subst ea'
        have HK : Hid (∀ W', Below W0.heap.size W0 W' → Rds (k + 2) W' q.1 ∧ Rds (k + 2) W' q.2) := hid (fun W' hb => (R.out.below (Nat.le_refl _) (FX.out W' hb).2).el q (List.mem_of_getElem? Hq.out))
        have C1 := hid (fun (W' : World) (hb : Below W0.heap.size W0 W') => K80.out W' (FX.out W' hb).2 k1 k2 q.1 (HK.out W' hb).1)
        have C2 := hid (fun (W' : World) (hb : Below W0.heap.size W0 W') => K80.out W' (FX.out W' hb).2 v1 v2 q.2 (HK.out W' hb).2)
        have d0 := dh 0 (by omega)
        have d1 := dh 1 (by omega)
        have d2 := dh 2 (by omega)
        have d3 := dh 3 (by omega)
        have d4 := dh 4 (by omega)
        have d5 := dh 5 (by omega)
        have d6 := dh 6 (by omega)
        have d7 := dh 7 (by omega)
        have d8 := dh 8 (by omega)
        have d9 := dh 9 (by omega)
        simp only [En.cs, enT, List.getElem?_cons_zero, List.getElem?_cons_succ, Nat.add_zero] at d0 d1 d2 d3 d4 d5 d6 d7 d8 d9
        have HE : Hid (entV k p ⟨nm, (k1, k2), (v1, v2)⟩ row i = (isV k p (k1, k2) q.1 && isV k p (v1, v2) q.2 && (decide (i = 0) || ((row[i - 1]?).map fun o => decide (cmpT (k + 2) o.1 q.1 < 0)).getD true))) := hid (by unfold entV; rw [Hq.out])
        have HNO : Hid (entV k p ⟨nm, (k1, k2), (v1, v2)⟩ row i = false → mapV k p ⟨nm, (k1, k2), (v1, v2)⟩ row = false) := hid (fun h => mapV_no (by rw [← Hn.out]; exact hlt0) h)
        have PV : Hid (∀ (o : VT (k + 2) × VT (k + 2)), row[i - 1]? = some o → ∀ W', Below W0.heap.size W0 W' → Calls Try.prog 47 #[(hdT (k + 2) o.1).v, (hdT (k + 2) q.1).v] W' fun e w' => e = .returned (.int .i64 (cmpT (k + 2) o.1 q.1)) ∧ Below W'.heap.size W' w') := hid (fun o ho W' hb => compare_any (k + 2) W' o.1 q.1 (((R.out.below (Nat.le_refl _) (FX.out W' hb).2).el o (List.mem_of_getElem? ho)).1) (HK.out W' hb).1)
        obtain ⟨E1, hE1⟩ : ∃ E, E = isV k p (k1, k2) q.1 := ⟨_, rfl⟩
        obtain ⟨E2, hE2⟩ : ∃ E, E = isV k p (v1, v2) q.2 := ⟨_, rfl⟩
        rw [← hE1] at C1 HE
        rw [← hE2] at C2 HE
        clear hE1 hE2 hR hbw dh hi' hq K80
        obtain ⟨hq1, ehq1⟩ : ∃ h, h = hdT (k + 2) q.1 := ⟨_, rfl⟩
        have HQ1 := hid ehq1
        rw [← ehq1] at C1 PV d0 d1 d2 d3 d4
        clear ehq1
        generalize hdT (k + 2) q.2 = hq2 at *
        obtain ⟨xk, xi, xt, xr, xa, xn, xc⟩ := hq1
        obtain ⟨yk, yi, yt, yr, ya, yn, yc⟩ := hq2
        simp only [Hd.v] at C1 C2 PV d0 d1 d2 d3 d4 d5 d6 d7 d8 d9
        obtain ⟨W1, hW1⟩ : ∃ W1, W1 = wr.alloc (.cells #[.int .i64 xk, .int .i64 xi, .string xt, .int .i64 xr, .slice xa xn xc, .int .i64 yk, .int .i64 yi, .string yt, .int .i64 yr, .slice ya yn yc] 81) := ⟨_, rfl⟩
        have n1 : W1.heap[wr.heap.size]? = some (.cells #[.int .i64 xk, .int .i64 xi, .string xt, .int .i64 xr, .slice xa xn xc, .int .i64 yk, .int .i64 yi, .string yt, .int .i64 yr, .slice ya yn yc] 81 (0, 0)) := by rw [hW1]; exact heap_alloc_new wr _
        have b1' : Below wr.heap.size wr W1 := by rw [hW1]; exact (Below.refl _ wr).alloc (Nat.le_refl _) _
        have B1 := hid (TR.out Hbr.out b1')
        have FY : Hid (∀ w2 : World, Below W1.heap.size W1 w2 → (w2.cell? ⟨wr.heap.size, 0, none⟩ = some (.int .i64 xk) ∧ w2.cell? ⟨wr.heap.size, 1, none⟩ = some (.int .i64 xi) ∧ w2.cell? ⟨wr.heap.size, 2, none⟩ = some (.string xt) ∧ w2.cell? ⟨wr.heap.size, 3, none⟩ = some (.int .i64 xr) ∧ w2.cell? ⟨wr.heap.size, 4, none⟩ = some (.slice xa xn xc) ∧ w2.cell? ⟨wr.heap.size, 5, none⟩ = some (.int .i64 yk) ∧ w2.cell? ⟨wr.heap.size, 6, none⟩ = some (.int .i64 yi) ∧ w2.cell? ⟨wr.heap.size, 7, none⟩ = some (.string yt) ∧ w2.cell? ⟨wr.heap.size, 8, none⟩ = some (.int .i64 yr) ∧ w2.cell? ⟨wr.heap.size, 9, none⟩ = some (.slice ya yn yc))) := hid (fun w2 hb => by
          have bx := (hb.block _ (Array.getElem?_eq_some_iff.1 n1).1).trans n1
          exact ⟨cellOf bx 0, cellOf bx 1, cellOf bx 2, cellOf bx 3, cellOf bx 4, cellOf bx 5, cellOf bx 6, cellOf bx 7, cellOf bx 8, cellOf bx 9⟩)
        clear n1 b1' f0 f1 f2 f3 f4 f5 f6 f7
        go_upto_region 6 with fail
        rw [← hW1]
        clear hW1 d0 d1 d2 d3 d4 d5 d6 d7 d8 d9
        obtain ⟨⟨f0, f1, f2, f3, f4, f5, f6, f7⟩, _⟩ := FX.out W1 B1.out
        obtain ⟨y0, y1, y2, y3, y4, y5, y6, y7, y8, y9⟩ := FY.out W1 (Below.refl _ _)
        cases E1 with
        | false =>
          have HF := hid (HNO.out (by rw [HE.out]; rfl))
          go_wp2_with (go_at_call 80; (refine (C1.out _ B1.out).mono ?_; rintro e w2 ⟨rfl, hb2⟩; have B2 := hid (TR.out B1.out hb2); clear hb2))
          go_ret
          exact ⟨by rw [HF.out]; rfl, (FX.out _ B2.out).2⟩
        | true =>
          cases E2 with
          | false =>
            have HF := hid (HNO.out (by rw [HE.out]; rfl))
            go_wp2_with (first
              | (go_at_call 80; (refine (C1.out _ B1.out).mono ?_; rintro e w2 ⟨rfl, hb2⟩; have B2 := hid (TR.out B1.out hb2); have H2 := hid hb2; clear hb2 C1 f0 f1 f2 f3 f4 f5 f6 f7 y0 y1 y2 y3 y4 y5 y6 y7 y8 y9; obtain ⟨⟨f0, f1, f2, f3, f4, f5, f6, f7⟩, _⟩ := FX.out w2 B2.out; obtain ⟨y0, y1, y2, y3, y4, y5, y6, y7, y8, y9⟩ := FY.out w2 H2.out))
              | (go_at_call 80; (refine (C2.out _ B2.out).mono ?_; rintro e w3 ⟨rfl, hb3⟩; have B3 := hid (TR.out B2.out hb3); clear hb3)))
            go_ret
            exact ⟨by rw [HF.out]; rfl, (FX.out _ B3.out).2⟩
          | true =>
            go_upto_region 8 with (first
              | (go_at_call 80; (refine (C1.out _ B1.out).mono ?_; rintro e w2 ⟨rfl, hb2⟩; have B2 := hid (TR.out B1.out hb2); have H2 := hid hb2; clear hb2 C1 f0 f1 f2 f3 f4 f5 f6 f7 y0 y1 y2 y3 y4 y5 y6 y7 y8 y9; obtain ⟨⟨f0, f1, f2, f3, f4, f5, f6, f7⟩, _⟩ := FX.out w2 B2.out; obtain ⟨y0, y1, y2, y3, y4, y5, y6, y7, y8, y9⟩ := FY.out w2 H2.out))
              | (go_at_call 80; (refine (C2.out _ B2.out).mono ?_; rintro e w3 ⟨rfl, hb3⟩; have B3 := hid (TR.out B2.out hb3); have H3 := hid (TR.out H2.out hb3); clear hb3 f0 f1 f2 f3 f4 f5 f6 f7 y0 y1 y2 y3 y4 y5 y6 y7 y8 y9)))
            by_cases hi0 : i = 0
            · subst hi0
              have HT := hid (show entV k p ⟨nm, (k1, k2), (v1, v2)⟩ row 0 = true from by rw [HE.out]; rfl)
              go_quiet (fail)
              go_wp2
              go_roundg gi
              case measure => omega
              case rel => exact ⟨1, by have := Hi.out; omega, rfl, B3.out.trans ⟨rfl, rfl, rfl, Nat.le_refl _, fun _ _ => rfl⟩, fun j hj => by
                obtain rfl : j = 0 := by omega
                exact HT.out⟩
            · obtain ⟨i0, hi0'⟩ : ∃ i0, i0 = i - 1 := ⟨_, rfl⟩
              have Hi0 := hid hi0'
              have hsub : IntKind.i64.wrap ((i : Int) - 1) = (i0 : Int) := by rw [IntKind.wrap_i64]; omega
              have hgt : (0 : Int) < (i : Int) := by omega
              have hgtb : decide (0 < i) = true := decide_eq_true (by omega)
              have hs0 : (0 : Int) ≤ (i0 : Int) := by omega
              have hs1 : (i0 : Int) < (n : Int) := by omega
              have hs2 : i0 < n := by omega
              clear hi0'
              obtain ⟨o, ho⟩ : ∃ o, row[i0]? = some o := ⟨row[i0]'(by rw [← Hn.out]; exact hs2), List.getElem?_eq_getElem _⟩
              have CP := hid (PV.out o (by rw [← Hi0.out]; exact ho))
              obtain ⟨b2, o2, ea2, gh⟩ := (R.out.below (Nat.le_refl _) (FX.out w3 B3.out).2).rd i0 (enT (k + 2) o) (by rw [List.getElem?_map, ho]; rfl)
              cases ea2
              have z0 := gh 0 (by omega)
              have z1 := gh 1 (by omega)
              have z2 := gh 2 (by omega)
              have z3 := gh 3 (by omega)
              have z4 := gh 4 (by omega)
              simp only [En.cs, enT, List.getElem?_cons_zero, List.getElem?_cons_succ, Nat.add_zero] at z0 z1 z2 z3 z4
              have HE2 : Hid (entV k p ⟨nm, (k1, k2), (v1, v2)⟩ row i = decide (cmpT (k + 2) o.1 q.1 < 0)) := hid (by rw [HE.out, ← Hi0.out, ho, decide_eq_false hi0]; simp)
              obtain ⟨cv, hcv⟩ : ∃ cv, cv = cmpT (k + 2) o.1 q.1 := ⟨_, rfl⟩
              rw [← hcv] at CP HE2
              clear hcv gh ho PV
              generalize hdT (k + 2) o.1 = ho1 at *
              obtain ⟨zk, zi, zt, zr, za, zn, zc⟩ := ho1
              simp only [Hd.v] at CP z0 z1 z2 z3 z4
              obtain ⟨y0, y1, y2, y3, y4, _⟩ := FY.out w3 H3.out
              have SE : Hid (∀ W' : World, Below W0.heap.size W0 W' → Below w3.heap.size w3 W' → (W'.cell? ⟨b1, o1 + i0 * 10, none⟩ = some (.int .i64 zk) ∧ W'.cell? ⟨b1, o1 + i0 * 10 + 1, none⟩ = some (.int .i64 zi) ∧ W'.cell? ⟨b1, o1 + i0 * 10 + 2, none⟩ = some (.string zt) ∧ W'.cell? ⟨b1, o1 + i0 * 10 + 3, none⟩ = some (.int .i64 zr) ∧ W'.cell? ⟨b1, o1 + i0 * 10 + 4, none⟩ = some (.slice za zn zc) ∧ W'.cell? ⟨wr.heap.size, 0, none⟩ = some (.int .i64 xk) ∧ W'.cell? ⟨wr.heap.size, 1, none⟩ = some (.int .i64 xi) ∧ W'.cell? ⟨wr.heap.size, 2, none⟩ = some (.string xt) ∧ W'.cell? ⟨wr.heap.size, 3, none⟩ = some (.int .i64 xr) ∧ W'.cell? ⟨wr.heap.size, 4, none⟩ = some (.slice xa xn xc))) := hid (fun W' _ hb => by
                have ge : ∀ (p : Addr) (v : Value), w3.cell? p = some v → W'.cell? p = some v := fun p v e => (hb.cell (World.block_lt_of_cell? w3 _ e)).trans e
                exact ⟨ge _ _ z0, ge _ _ z1, ge _ _ z2, ge _ _ z3, ge _ _ z4, ge _ _ y0, ge _ _ y1, ge _ _ y2, ge _ _ y3, ge _ _ y4⟩)
              have R3 := hid ((Below.refl w3.heap.size w3).drew)
              have D3 := hid B3.out.drew
              by_cases hc : cv < 0
              · have hc' : ¬ (0 ≤ cv) := by omega
                have HT := hid (show entV k p ⟨nm, (k1, k2), (v1, v2)⟩ row i = true from by rw [HE2.out]; exact decide_eq_true hc)
                go_region_held3 (fun W' => W'.cell? ⟨b1, o1 + i0 * 10, none⟩ = some (.int .i64 zk) ∧ W'.cell? ⟨b1, o1 + i0 * 10 + 1, none⟩ = some (.int .i64 zi) ∧ W'.cell? ⟨b1, o1 + i0 * 10 + 2, none⟩ = some (.string zt) ∧ W'.cell? ⟨b1, o1 + i0 * 10 + 3, none⟩ = some (.int .i64 zr) ∧ W'.cell? ⟨b1, o1 + i0 * 10 + 4, none⟩ = some (.slice za zn zc) ∧ W'.cell? ⟨wr.heap.size, 0, none⟩ = some (.int .i64 xk) ∧ W'.cell? ⟨wr.heap.size, 1, none⟩ = some (.int .i64 xi) ∧ W'.cell? ⟨wr.heap.size, 2, none⟩ = some (.string xt) ∧ W'.cell? ⟨wr.heap.size, 3, none⟩ = some (.int .i64 xr) ∧ W'.cell? ⟨wr.heap.size, 4, none⟩ = some (.slice xa xn xc)) (first | with_reducible exact SE.out _ D3.out R3.out | with_reducible exact SE.out _ D4.out R4.out | go_keep) ((first
                  | (go_at_call 47; (refine (CP.out _ D3.out).mono ?_; rintro e w4 ⟨rfl, hb4⟩; have D4 := hid (TR.out D3.out hb4); have R4 := hid (TR.out R3.out hb4); clear hb4))))
                go_wp2
                go_roundg gi
                case measure => omega
                case rel => exact ⟨i + 1, by have := Hi.out; omega, by go_num, D4.out, fun j hj => by
                  rcases Nat.lt_or_ge j i with h | h
                  · exact Hacc.out j h
                  · obtain rfl : j = i := by omega
                    exact HT.out⟩
              · have hc' : 0 ≤ cv := by omega
                have HF := hid (HNO.out (by rw [HE2.out]; exact decide_eq_false hc))
                go_region_held3 (fun W' => W'.cell? ⟨b1, o1 + i0 * 10, none⟩ = some (.int .i64 zk) ∧ W'.cell? ⟨b1, o1 + i0 * 10 + 1, none⟩ = some (.int .i64 zi) ∧ W'.cell? ⟨b1, o1 + i0 * 10 + 2, none⟩ = some (.string zt) ∧ W'.cell? ⟨b1, o1 + i0 * 10 + 3, none⟩ = some (.int .i64 zr) ∧ W'.cell? ⟨b1, o1 + i0 * 10 + 4, none⟩ = some (.slice za zn zc) ∧ W'.cell? ⟨wr.heap.size, 0, none⟩ = some (.int .i64 xk) ∧ W'.cell? ⟨wr.heap.size, 1, none⟩ = some (.int .i64 xi) ∧ W'.cell? ⟨wr.heap.size, 2, none⟩ = some (.string xt) ∧ W'.cell? ⟨wr.heap.size, 3, none⟩ = some (.int .i64 xr) ∧ W'.cell? ⟨wr.heap.size, 4, none⟩ = some (.slice xa xn xc)) (first | with_reducible exact SE.out _ D3.out R3.out | with_reducible exact SE.out _ D4.out R4.out | go_keep) ((first
                  | (go_at_call 47; (refine (CP.out _ D3.out).mono ?_; rintro e w4 ⟨rfl, hb4⟩; have D4 := hid (TR.out D3.out hb4); have R4 := hid (TR.out R3.out hb4); clear hb4))))
                go_wp2
                go_ret
                exact ⟨by rw [HF.out]; rfl, (FX.out _ D4.out).2⟩
end Go.Proofs.Ytenfgahedbeekaa

namespace Go.Proofs.Ytenfgahedbeekaa
open Go.RowKit Go.Deep Go.Shelf
set_option linter.unusedVariables false
set_option linter.unusedSimpArgs false

def mpV (k : Nat) (p : Pg) (rows : List (Rw (k + 2))) (i : Nat) : Bool :=
  match p.maps[i]?, rows[i]? with
  | some m, some r => mapV k p m r
  | _, _ => true
def stV (k : Nat) (p : Pg) (rows : List (Rw (k + 2))) : Bool := rightB p && decide (rows.length = p.maps.length) && (List.range p.maps.length).all (mpV k p rows)
set_option maxRecDepth 100000 in
set_option maxHeartbeats 2000000 in
theorem heapIs_any (k : Nat) (w : World) (g : PH) (p : Pg) (d : PRd w g p) (sa : Option Addr) (sn sc : Nat) (ms : List (Sl × Rw (k + 2))) (hs : StR (k + 2) w sa sn ms) :
    Calls Try.prog 29 #[g.v, .agg #[.slice sa sn sc]] w fun e w' => e = .returned (.bool (stV k p (ms.map (·.2)))) ∧ Below w.heap.size w w' := by
  have Hs := hid hs.n1
  have hle := hs.n2
  have hle2 : (sn : Int) ≤ 1000 := by omega
  have hn0 : (0 : Int) ≤ (sn : Int) := by omega
  have R := hid hs
  have Hm := hid d.m.n1
  have hm2 := d.m.n2
  have DM := hid d.m
  have K51 := hid (fun (w1 : World) (hb : Below w.heap.size w w1) => right_any w1 g p (d.below (Nat.le_refl _) hb))
  have K53 := hid (fun (w1 : World) (hb : Below w.heap.size w w1) (m : Mp) (a : Option Addr) (n cap : Nat) (row : Rw (k + 2)) (hr : RwR (k + 2) w1 a n row) => isMap_any k w1 g p (d.below (Nat.le_refl _) hb) m a n cap row hr)
  obtain ⟨ra, rn, rc, ma, mn, mc, fa, fn, fc, ea, en, ec⟩ := g
  simp only [PH.v] at K51 K53 Hm hm2 DM ⊢
  have hmI : (mn : Int) ≤ 9223372036854775807 := by omega
  clear d hs
  obtain ⟨W0, hW0⟩ : ∃ W0, W0 = (w.alloc (.cells #[.slice ra rn rc, .slice ma mn mc, .slice fa fn fc, .slice ea en ec] 50)).alloc (.cells #[.slice sa sn sc] 27) := ⟨_, rfl⟩
  have q1 : W0.heap[w.heap.size]? = some (.cells #[.slice ra rn rc, .slice ma mn mc, .slice fa fn fc, .slice ea en ec] 50 (0, 0)) := by rw [hW0]; exact (Below.heap_alloc _ _ _ (by simp)).trans (heap_alloc_new w _)
  have q2 : W0.heap[w.heap.size + 1]? = some (.cells #[.slice sa sn sc] 27 (0, 0)) := by
    have := heap_alloc_new (w.alloc (.cells #[.slice ra rn rc, .slice ma mn mc, .slice fa fn fc, .slice ea en ec] 50)) (.cells #[.slice sa sn sc] 27)
    rw [World.size_alloc] at this
    rw [hW0]; exact this
  have hb0 : Below w.heap.size w W0 := by rw [hW0]; exact boxes2 _ _ _ _ _
  have FX : Hid (∀ w2 : World, Below W0.heap.size W0 w2 → (w2.cell? ⟨w.heap.size, 0, none⟩ = some (.slice ra rn rc) ∧ w2.cell? ⟨w.heap.size, 1, none⟩ = some (.slice ma mn mc) ∧ w2.cell? ⟨w.heap.size, 2, none⟩ = some (.slice fa fn fc) ∧ w2.cell? ⟨w.heap.size, 3, none⟩ = some (.slice ea en ec) ∧ w2.cell? ⟨w.heap.size + 1, 0, none⟩ = some (.slice sa sn sc)) ∧ Below w.heap.size w w2) := hid (fun w2 hb => by
    have bx := (hb.block _ (Array.getElem?_eq_some_iff.1 q1).1).trans q1
    have bz := (hb.block _ (Array.getElem?_eq_some_iff.1 q2).1).trans q2
    exact ⟨⟨cellOf bx 0, cellOf bx 1, cellOf bx 2, cellOf bx 3, cellOf bz 0⟩, hb0.trans (hb.mono hb0.size)⟩)
  have TR : Hid (∀ {Z x y : World}, Below Z.heap.size Z x → Below x.heap.size x y → Below Z.heap.size Z y) := hid (fun h1 h2 => h1.trans (h2.mono h1.size))
  have HB0 := hid hb0
  obtain ⟨⟨f0, f1, f2, f3, f4⟩, _⟩ := FX.out W0 (Below.refl _ _)
  clear q1 q2 hb0
  have HL : Hid ((ms.map (·.2)).length = sn) := hid (by rw [List.length_map]; exact Hs.out.symm)
  have A51 : Hid (Calls Try.prog 51 #[.agg #[.slice ra rn rc, .slice ma mn mc, .slice fa fn fc, .slice ea en ec]] W0 fun e w' => e = .returned (.bool (rightB p)) ∧ Below W0.heap.size W0 w') := hid (K51.out W0 HB0.out)
  cases hR : rightB p with
  | false =>
    rw [hR] at A51
    have HF : Hid (stV k p (ms.map (·.2)) = false) := hid (by unfold stV; rw [hR]; rfl)
    go_enter Try.func29, Try.ntmps29
    go_upto_region 1 with fail
    rw [← hW0]
    clear hW0
    go_wp2_with (go_at_call 51; (refine (A51.out).mono ?_; rintro e w1 ⟨rfl, hb1⟩; have B1 := hid hb1; clear hb1))
    go_ret
    exact ⟨by rw [HF.out]; rfl, (FX.out _ B1.out).2⟩
  | true =>
    rw [hR] at A51
    by_cases hl : sn = mn
    · subst hl
      go_enter Try.func29, Try.ntmps29
      go_upto_region 1 with fail
      rw [← hW0]
      clear hW0
      go_wp2_with (go_at_call 51; (refine (A51.out).mono ?_; rintro e w1 ⟨rfl, hb1⟩; have B1 := hid hb1; clear f0 f1 f2 f3 f4 hb1; obtain ⟨⟨f0, f1, f2, f3, f4⟩, _⟩ := FX.out w1 B1.out))
      have hsI : (sn : Int) ≤ 1000 := hle2
      go_loopg [22] sn (fun gg ii wr => ∃ i : Nat, i + gg = sn ∧ ii = .int .i64 (i : Int) ∧ Below W0.heap.size W0 wr ∧ ∀ j, j < i → mpV k p (ms.map (·.2)) j = true)
      case atStart => exact ⟨0, by omega, rfl, B1.out, fun j hj => by omega⟩
      case round =>
        obtain ⟨i, hi', rfl, hbr, hacc⟩ := hrel
        have Hbr := hid hbr
        have Hacc := hid hacc
        clear hacc f0 f1 f2 f3 f4
        cases gk with
        | zero =>
          have hin2 : i = sn := by omega
          subst hin2
          clear hi' hbr
          have HT : Hid (stV k p (ms.map (·.2)) = true) := hid (by
            unfold stV
            rw [hR, decide_eq_true (by rw [HL.out, ← Hm.out])]
            simp only [Bool.true_and]
            rw [List.all_eq_true]
            intro j hj
            exact Hacc.out j (by rw [Hm.out]; exact List.mem_range.1 hj))
          go_wp2
          go_ret
          exact ⟨by rw [HT.out]; rfl, (FX.out _ Hbr.out).2⟩
        | succ gi =>
          have hlt0 : i < sn := by omega
          have hlt : (i : Int) < (sn : Int) := by omega
          have hi00 : (0 : Int) ≤ (i : Int) := by omega
          have Hi := hid hi'
          obtain ⟨⟨f0, f1, f2, f3, f4⟩, hbw⟩ := FX.out wr hbr
          obtain ⟨m, hm⟩ : ∃ m, p.maps[i]? = some m := ⟨p.maps[i]'(by rw [← Hm.out]; exact hlt0), List.getElem?_eq_getElem _⟩
          obtain ⟨x, hx⟩ : ∃ x, ms[i]? = some x := ⟨ms[i]'(by rw [← Hs.out]; exact hlt0), List.getElem?_eq_getElem _⟩
          obtain ⟨b2, o2, ea2, _, dm⟩ := (DM.out.below (Nat.le_refl _) hbw).rd i m.cs (by rw [List.getElem?_map, hm]; rfl)
          subst ea2
          obtain ⟨b1, o1, ea1, dc⟩ := (R.out.below (Nat.le_refl _) hbw).rd i x.1 (by rw [List.getElem?_map, hx]; rfl)
          subst ea1
          have hrow := ((R.out.below (Nat.le_refl _) hbw).el x (List.mem_of_getElem? hx)).1
          have HRow := hid hrow
          have HMp : Hid (mpV k p (ms.map (·.2)) i = mapV k p m x.2) := hid (by unfold mpV; rw [hm, List.getElem?_map, hx]; rfl)
          have HNO : Hid (mpV k p (ms.map (·.2)) i = false → stV k p (ms.map (·.2)) = false) := hid (fun h => by
            unfold stV
            have : (List.range p.maps.length).all (mpV k p (ms.map (·.2))) = false := by
              rw [List.all_eq_false]
              exact ⟨i, List.mem_range.2 (by rw [← Hm.out]; exact hlt0), by simp [h]⟩
            rw [this]
            simp)
          have m0 := dm 0 (by omega)
          have m1 := dm 1 (by omega)
          have m2 := dm 2 (by omega)
          have m3 := dm 3 (by omega)
          have m4 := dm 4 (by omega)
          obtain ⟨⟨xa, xn, xc⟩, xr⟩ := x
          obtain ⟨nm, ⟨k1, k2⟩, ⟨v1, v2⟩⟩ := m
          simp only [Mp.cs, List.getElem?_cons_zero, List.getElem?_cons_succ, Nat.add_zero] at m0 m1 m2 m3 m4
          simp only [Sl.v] at dc
          simp only at HRow HMp
          obtain ⟨W1, hW1⟩ : ∃ W1, W1 = wr.alloc (.cells #[.string nm, .int .i64 k1, .int .i64 k2, .int .i64 v1, .int .i64 v2] 75) := ⟨_, rfl⟩
          have n1 : W1.heap[wr.heap.size]? = some (.cells #[.string nm, .int .i64 k1, .int .i64 k2, .int .i64 v1, .int .i64 v2] 75 (0, 0)) := by rw [hW1]; exact heap_alloc_new wr _
          have b1' : Below wr.heap.size wr W1 := by rw [hW1]; exact (Below.refl _ wr).alloc (Nat.le_refl _) _
          have B1' := hid (TR.out Hbr.out b1')
          have SE : Hid (∀ W' : World, Below W1.heap.size W1 W' → (W'.cell? ⟨w.heap.size, 0, none⟩ = some (.slice ra rn rc) ∧ W'.cell? ⟨w.heap.size, 1, none⟩ = some (.slice (some ⟨b2, o2, none⟩) sn mc) ∧ W'.cell? ⟨w.heap.size, 2, none⟩ = some (.slice fa fn fc) ∧ W'.cell? ⟨w.heap.size, 3, none⟩ = some (.slice ea en ec) ∧ W'.cell? ⟨w.heap.size + 1, 0, none⟩ = some (.slice (some ⟨b1, o1, none⟩) sn sc) ∧ W'.cell? ⟨b1, o1 + i, none⟩ = some (.slice xa xn xc) ∧ W'.cell? ⟨wr.heap.size, 0, none⟩ = some (.string nm) ∧ W'.cell? ⟨wr.heap.size, 1, none⟩ = some (.int .i64 k1) ∧ W'.cell? ⟨wr.heap.size, 2, none⟩ = some (.int .i64 k2) ∧ W'.cell? ⟨wr.heap.size, 3, none⟩ = some (.int .i64 v1) ∧ W'.cell? ⟨wr.heap.size, 4, none⟩ = some (.int .i64 v2))) := hid (fun W' hb => by
            have hbb := TR.out b1' hb
            have ge : ∀ (p : Addr) (v : Value), wr.cell? p = some v → W'.cell? p = some v := fun p v e => (hbb.cell (World.block_lt_of_cell? wr _ e)).trans e
            have bx := (hb.block _ (Array.getElem?_eq_some_iff.1 n1).1).trans n1
            exact ⟨ge _ _ f0, ge _ _ f1, ge _ _ f2, ge _ _ f3, ge _ _ f4, ge _ _ dc, cellOf bx 0, cellOf bx 1, cellOf bx 2, cellOf bx 3, cellOf bx 4⟩)
          have R3 := hid ((Below.refl W1.heap.size W1).drew)
          have D3 := hid (TR.out B1'.out R3.out)
          have CP := hid (K53.out W1.drew (FX.out _ D3.out).2 ⟨nm, (k1, k2), (v1, v2)⟩ xa xn xc xr (((R.out.below (Nat.le_refl _) (FX.out _ D3.out).2).el (⟨xa, xn, xc⟩, xr) (List.mem_of_getElem? hx)).1))
          obtain ⟨E, hE⟩ : ∃ E, E = mapV k p ⟨nm, (k1, k2), (v1, v2)⟩ xr := ⟨_, rfl⟩
          rw [← hE] at CP HMp
          simp only [mtV] at CP
          clear hE n1 b1' hm hx dm hrow hi' hbw
          go_upto_region 6 with fail
          rw [← hW1]
          clear hW1 m0 m1 m2 m3 m4
          obtain ⟨g0, g1, g2, g3, g4, g5, g6, g7, g8, g9, g10⟩ := SE.out W1 (Below.refl _ _)
          cases E with
          | false =>
            have HF := hid (HNO.out HMp.out)
            go_region_held3 (fun W' => W'.cell? ⟨w.heap.size, 0, none⟩ = some (.slice ra rn rc) ∧ W'.cell? ⟨w.heap.size, 1, none⟩ = some (.slice (some ⟨b2, o2, none⟩) sn mc) ∧ W'.cell? ⟨w.heap.size, 2, none⟩ = some (.slice fa fn fc) ∧ W'.cell? ⟨w.heap.size, 3, none⟩ = some (.slice ea en ec) ∧ W'.cell? ⟨w.heap.size + 1, 0, none⟩ = some (.slice (some ⟨b1, o1, none⟩) sn sc) ∧ W'.cell? ⟨b1, o1 + i, none⟩ = some (.slice xa xn xc) ∧ W'.cell? ⟨wr.heap.size, 0, none⟩ = some (.string nm) ∧ W'.cell? ⟨wr.heap.size, 1, none⟩ = some (.int .i64 k1) ∧ W'.cell? ⟨wr.heap.size, 2, none⟩ = some (.int .i64 k2) ∧ W'.cell? ⟨wr.heap.size, 3, none⟩ = some (.int .i64 v1) ∧ W'.cell? ⟨wr.heap.size, 4, none⟩ = some (.int .i64 v2)) (first | with_reducible exact SE.out _ R3.out | with_reducible exact SE.out _ R4.out | go_keep) ((first
              | (go_at_call 53; (refine (CP.out).mono ?_; rintro e w4 ⟨rfl, hb4⟩; have R4 := hid (TR.out R3.out hb4); clear hb4))))
            go_wp2
            go_ret
            exact ⟨by rw [HF.out]; rfl, (FX.out _ (TR.out B1'.out R4.out)).2⟩
          | true =>
            go_region_held3 (fun W' => W'.cell? ⟨w.heap.size, 0, none⟩ = some (.slice ra rn rc) ∧ W'.cell? ⟨w.heap.size, 1, none⟩ = some (.slice (some ⟨b2, o2, none⟩) sn mc) ∧ W'.cell? ⟨w.heap.size, 2, none⟩ = some (.slice fa fn fc) ∧ W'.cell? ⟨w.heap.size, 3, none⟩ = some (.slice ea en ec) ∧ W'.cell? ⟨w.heap.size + 1, 0, none⟩ = some (.slice (some ⟨b1, o1, none⟩) sn sc) ∧ W'.cell? ⟨b1, o1 + i, none⟩ = some (.slice xa xn xc) ∧ W'.cell? ⟨wr.heap.size, 0, none⟩ = some (.string nm) ∧ W'.cell? ⟨wr.heap.size, 1, none⟩ = some (.int .i64 k1) ∧ W'.cell? ⟨wr.heap.size, 2, none⟩ = some (.int .i64 k2) ∧ W'.cell? ⟨wr.heap.size, 3, none⟩ = some (.int .i64 v1) ∧ W'.cell? ⟨wr.heap.size, 4, none⟩ = some (.int .i64 v2)) (first | with_reducible exact SE.out _ R3.out | with_reducible exact SE.out _ R4.out | go_keep) ((first
              | (go_at_call 53; (refine (CP.out).mono ?_; rintro e w4 ⟨rfl, hb4⟩; have R4 := hid (TR.out R3.out hb4); clear hb4))))
            go_wp2
            go_roundg gi
            case measure => omega
            case rel => exact ⟨i + 1, by have := Hi.out; omega, by go_num, TR.out B1'.out R4.out, fun j hj => by
              rcases Nat.lt_or_ge j i with h | h
              · exact Hacc.out j h
              · obtain rfl : j = i := by omega
                exact HMp.out⟩
    · have hl' : ¬ (sn : Int) = (mn : Int) := by omega
      have hlb : ((sn : Int) == (mn : Int)) = false := by simpa using hl'
      have hlc : ((sn : Int) != (mn : Int)) = true := by simp [hl']
      have HF : Hid (stV k p (ms.map (·.2)) = false) := hid (by unfold stV; rw [hR, decide_eq_false (by rw [HL.out, ← Hm.out]; exact hl)]; rfl)
      go_enter Try.func29, Try.ntmps29
      go_upto_region 1 with fail
      rw [← hW0]
      clear hW0
      go_wp2_with (go_at_call 51; (refine (A51.out).mono ?_; rintro e w1 ⟨rfl, hb1⟩; have B1 := hid hb1; clear f0 f1 f2 f3 f4 hb1; obtain ⟨⟨f0, f1, f2, f3, f4⟩, _⟩ := FX.out w1 B1.out))
      go_ret
      exact ⟨by rw [HF.out]; rfl, (FX.out _ B1.out).2⟩
end Go.Proofs.Ytenfgahedbeekaa

