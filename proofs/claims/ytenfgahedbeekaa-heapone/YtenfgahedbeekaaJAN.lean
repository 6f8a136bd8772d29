/- heap.New. -/
import Derived.Test.YtenfgahedbeekaaJAM
import Derived.BigQuiet
namespace Go.Proofs.Ytenfgahedbeekaa
open Go.RowKit Go.Deep Go.Shelf
set_option linter.unusedVariables false
set_option linter.unusedSimpArgs false

def NwP (k : Nat) (w : World) (p : Pg) (e : Ending) (w' : World) : Prop := Below w.heap.size w w' ∧ ((rightB p = false ∧ e = .returned (.tuple #[.agg #[.slice none 0 0], .int .i64 40])) ∨ (rightB p = true ∧ ∃ g, e = .returned (.tuple #[.agg #[.slice (some ⟨g, 0, none⟩) p.maps.length p.maps.length], .int .i64 0]) ∧ StCP k w' (fun b => w.heap.size ≤ b ∧ b < w'.heap.size) (some ⟨g, 0, none⟩) p.maps.length (List.replicate p.maps.length [])))
theorem right_maps {p : Pg} (h : rightB p = true) : p.maps.length ≤ 16 := by
  simp only [rightB, mapsB, Bool.and_eq_true, decide_eq_true_eq] at h
  exact h.1.1.1.2.1.1
theorem al1N {W : World} {b : Nat} {c : Array Value} {t : TypeId} (h : W.heap[b]? = some (.cells c t (0, 0))) (o : Obj) : (W.alloc o).heap[b]? = some (.cells c t (0, 0)) := (Below.heap_alloc _ _ _ (Array.getElem?_eq_some_iff.1 h).1).trans h

set_option maxRecDepth 100000 in
set_option maxHeartbeats 1000000 in
theorem heapNew_any (k : Nat) (w : World) (h : PH) (p : Pg) (d : PRd w h p) : Calls Try.prog 27 #[h.v] w (NwP k w p) := by
  have hmn := d.m.n1
  have K51 := hid (fun (w1 : World) (hb : Below w.heap.size w w1) => right_any w1 h p (d.below (Nat.le_refl _) hb))
  have H16 : Hid (rightB p = true → p.maps.length ≤ 16) := hid right_maps
  obtain ⟨n, hn⟩ : ∃ n, n = p.maps.length := ⟨_, rfl⟩
  unfold NwP
  rw [← hn] at hmn H16 ⊢
  clear hn d
  obtain ⟨ra, rn, rc, ma, mn, mc, fa, fn, fc, ea, en, ec⟩ := h
  simp only [PH.v] at K51 hmn ⊢
  subst hmn
  obtain ⟨W0, hW0⟩ : ∃ W0, W0 = (w.alloc (.cells #[.slice ra rn rc, .slice ma mn mc, .slice fa fn fc, .slice ea en ec] 50)).alloc (.cells #[.slice none 0 0] 27) := ⟨_, rfl⟩
  have q1 : W0.heap[w.heap.size]? = some (.cells #[.slice ra rn rc, .slice ma mn mc, .slice fa fn fc, .slice ea en ec] 50 (0, 0)) := by rw [hW0]; exact (Below.heap_alloc _ _ _ (by simp)).trans (heap_alloc_new w _)
  have q2 : W0.heap[w.heap.size + 1]? = some (.cells #[.slice none 0 0] 27 (0, 0)) := by
    have := heap_alloc_new (w.alloc (.cells #[.slice ra rn rc, .slice ma mn mc, .slice fa fn fc, .slice ea en ec] 50)) (.cells #[.slice none 0 0] 27)
    rw [World.size_alloc] at this
    rw [hW0]; exact this
  have hb0 : Below w.heap.size w W0 := by rw [hW0]; exact boxes2 _ _ _ _ _
  have FX : Hid (∀ w2 : World, Below W0.heap.size W0 w2 → w2.cell? ⟨w.heap.size, 1, none⟩ = some (.slice ma mn mc) ∧ w2.heap[w.heap.size + 1]? = some (.cells #[.slice none 0 0] 27 (0, 0)) ∧ Below w.heap.size w w2) := hid (fun w2 hb => ⟨cellOf ((hb.block _ (Array.getElem?_eq_some_iff.1 q1).1).trans q1) 1, (hb.block _ (Array.getElem?_eq_some_iff.1 q2).1).trans q2, hb0.trans (hb.mono hb0.size)⟩)
  have HB0 := hid hb0
  have HZ := hid (Array.getElem?_eq_some_iff.1 q2).1
  clear q1 q2 hb0
  cases hr : rightB p with
  | false =>
    rw [hr] at K51
    go_enter Try.func27, Try.ntmps27
    go_wp2_with (go_at_call 51; (rw [← hW0]; refine (K51.out _ HB0.out).mono ?_; rintro e w1 ⟨rfl, hb1⟩; obtain ⟨_, g2, bb⟩ := FX.out w1 hb1; have e0 := cellOf g2 0; have f0 := freeOf g2 0; simp only [List.getElem?_toArray, List.getElem?_cons_zero] at e0; have G2 := hid g2; have BB := hid bb; clear g2 hb1 bb))
    have h5 := set_cells G2.out (.slice none 0 0)
    have r0 := cellOf h5 0
    simp only [List.getElem?_toArray, List.getElem?_cons_zero] at r0
    have hb5 := BB.out.setCell (p := ⟨w.heap.size + 1, 0, none⟩) (by show w.heap.size ≤ w.heap.size + 1; omega) (.slice none 0 0)
    generalize w1.setCell ⟨w.heap.size + 1, 0, none⟩ (.slice none 0 0) = W5 at *
    exact bodyPost_ret (v := .tuple #[.agg #[.slice none 0 0], .int .i64 40]) (by simp [results, Try.results27, go_sem, r0]) rfl ⟨hb5, .inl ⟨trivial, rfl⟩⟩
  | true =>
    have h16 := H16.out hr
    rw [hr] at K51
    have hI : (mn : Int) ≤ 16 := by omega
    have hI0 : (0 : Int) ≤ (mn : Int) := by omega
    have MK := hid (fun W : World => run_mk W mn (by omega))
    go_enter Try.func27, Try.ntmps27
    go_wp2_with (go_at_call 51; (rw [← hW0]; refine (K51.out _ HB0.out).mono ?_; rintro e w1 ⟨rfl, hb1⟩; obtain ⟨c1, g2, bb⟩ := FX.out w1 hb1; have mk := MK.out w1; have e0 := fun o => cellOf (al1N g2 o) 0; have f0 := fun o => freeOf (al1N g2 o) 0; simp only [List.getElem?_toArray, List.getElem?_cons_zero] at e0; have G2 := hid g2; have BB := hid bb; have B1 := hid hb1; clear g2 hb1 bb))
    have al := heap_alloc_new w1 (.cells (List.replicate mn (.slice none 0 0)).toArray 70)
    rw [List.toArray_replicate] at al
    have h5 := set_cells (al1N G2.out (.cells (Array.replicate mn (.slice none 0 0)) 70)) (.slice (some ⟨w1.heap.size, 0, none⟩) mn mn)
    have r0 := cellOf h5 0
    simp only [List.getElem?_toArray, List.getElem?_cons_zero] at r0
    have hlt : w.heap.size + 1 < w1.heap.size := (Array.getElem?_eq_some_iff.1 G2.out).1
    have hb5 := (BB.out.alloc BB.out.size (.cells (Array.replicate mn (.slice none 0 0)) 70)).setCell (p := ⟨w.heap.size + 1, 0, none⟩) (by show w.heap.size ≤ w.heap.size + 1; omega) (.slice (some ⟨w1.heap.size, 0, none⟩) mn mn)
    have hg5 : ((w1.alloc (.cells (Array.replicate mn (.slice none 0 0)) 70)).setCell ⟨w.heap.size + 1, 0, none⟩ (.slice (some ⟨w1.heap.size, 0, none⟩) mn mn)).heap[w1.heap.size]? = some (.cells (Array.replicate mn (.slice none 0 0)) 70 (0, 0)) := (Below.heap_setCell _ _ _ _ (by show w1.heap.size ≠ w.heap.size + 1; omega)).trans al
    generalize (w1.alloc (.cells (Array.replicate mn (.slice none 0 0)) 70)).setCell ⟨w.heap.size + 1, 0, none⟩ (.slice (some ⟨w1.heap.size, 0, none⟩) mn mn) = W5 at *
    have hs5 := (Array.getElem?_eq_some_iff.1 hg5).1
    exact bodyPost_ret (v := .tuple #[.agg #[.slice (some ⟨w1.heap.size, 0, none⟩) mn mn], .int .i64 0]) (by simp [results, Try.results27, go_sem, r0]) rfl ⟨hb5, .inr ⟨trivial, w1.heap.size, rfl, st_make (by rw [List.toArray_replicate]; exact hg5) ⟨by omega, hs5⟩ (by omega)⟩⟩
end Go.Proofs.Ytenfgahedbeekaa

namespace Go.Proofs.Ytenfgahedbeekaa
open Go.RowKit Go.Deep Go.Shelf
set_option linter.unusedVariables false
set_option linter.unusedSimpArgs false

/- Whether a tree of values is of a type. -/
def isV (k : Nat) (p : Pg) (t : TyP) (v : VT (k + 2)) : Bool := isB p t v.1 (v.2.map (hdT (k + 1)))
theorem isV_any (k : Nat) (w : World) (g : PH) (p : Pg) (d : PRd w g p) (a r : Int) (v : VT (k + 2)) (hv : Rds (k + 2) w v) :
    Calls Try.prog 80 #[g.v, ty a r, (hdT (k + 2) v).v] w fun e w' => e = .returned (.bool (isV k p (a, r) v)) ∧ Below w.heap.size w w' :=
  is_any w g p d a r v.1 (v.2.map (hdT (k + 1))) hv.1 (by rw [List.length_map]; exact hv.2.1) hv.2.2.2.1 (fun f hf => by
    simp only [List.mem_map] at hf
    obtain ⟨u, hu, rfl⟩ := hf
    exact (hv.2.2.2.2 u hu).1)
/- Whether an entry may stand where it does. -/
def entV (k : Nat) (p : Pg) (m : Mp) (row : Rw (k + 2)) (i : Nat) : Bool :=
  match row[i]? with
  | none => true
  | some q => isV k p m.key q.1 && isV k p m.val q.2 && (decide (i = 0) || ((row[i - 1]?).map fun o => decide (cmpT (k + 2) o.1 q.1 < 0)).getD true)
def mapV (k : Nat) (p : Pg) (m : Mp) (row : Rw (k + 2)) : Bool := decide (row.length ≤ 24) && (List.range row.length).all (entV k p m row)
theorem mapV_no {k : Nat} {p : Pg} {m : Mp} {row : Rw (k + 2)} {i : Nat} (hi : i < row.length) (h : entV k p m row i = false) : mapV k p m row = false := by
  unfold mapV
  have : (List.range row.length).all (entV k p m row) = false := by
    rw [List.all_eq_false]
    exact ⟨i, List.mem_range.2 hi, by simp [h]⟩
  rw [this]
  simp
theorem mapV_yes {k : Nat} {p : Pg} {m : Mp} {row : Rw (k + 2)} (hl : row.length ≤ 24) (h : ∀ i, i < row.length → entV k p m row i = true) : mapV k p m row = true := by
  unfold mapV
  have : (List.range row.length).all (entV k p m row) = true := by
    rw [List.all_eq_true]
    exact fun i hi => h i (List.mem_range.1 hi)
  rw [this]
  simp [hl]
def mtV (m : Mp) : Value := .agg #[.string m.name, .int .i64 m.key.1, .int .i64 m.key.2, .int .i64 m.val.1, .int .i64 m.val.2]
set_option maxRecDepth 100000 in
set_option maxHeartbeats 2000000 in
theorem isMap_any (k : Nat) (w : World) (g : PH) (p : Pg) (d : PRd w g p) (m : Mp) (a : Option Addr) (n cap : Nat) (row : Rw (k + 2)) (hr : RwR (k + 2) w a n row) :
    Calls Try.prog 53 #[g.v, mtV m, .slice a n cap] w fun e w' => e = .returned (.bool (mapV k p m row)) ∧ Below w.heap.size w w' := by
  have Hn := hid hr.n1
  have hle := hr.n2
  have hle2 : (n : Int) ≤ 1000 := by omega
  have hn0 : (0 : Int) ≤ (n : Int) := by omega
  have R := hid hr
  have K80 := hid (fun (w1 : World) (hb : Below w.heap.size w w1) (x y : Int) (v : VT (k + 2)) (hv : Rds (k + 2) w1 v) => isV_any k w1 g p (d.below (Nat.le_refl _) hb) x y v hv)
  obtain ⟨ra, rn, rc, ma, mn, mc, fa, fn, fc, ea, en, ec⟩ := g
  obtain ⟨nm, ⟨k1, k2⟩, ⟨v1, v2⟩⟩ := m
  simp only [PH.v, mtV, ty] at K80 ⊢
  clear d hr
  obtain ⟨W0, hW0⟩ : ∃ W0, W0 = (w.alloc (.cells #[.slice ra rn rc, .slice ma mn mc, .slice fa fn fc, .slice ea en ec] 50)).alloc (.cells #[.string nm, .int .i64 k1, .int .i64 k2, .int .i64 v1, .int .i64 v2] 75) := ⟨_, rfl⟩
  have q1 : W0.heap[w.heap.size]? = some (.cells #[.slice ra rn rc, .slice ma mn mc, .slice fa fn fc, .slice ea en ec] 50 (0, 0)) := by rw [hW0]; exact (Below.heap_alloc _ _ _ (by simp)).trans (heap_alloc_new w _)
  have q2 : W0.heap[w.heap.size + 1]? = some (.cells #[.string nm, .int .i64 k1, .int .i64 k2, .int .i64 v1, .int .i64 v2] 75 (0, 0)) := by
    have := heap_alloc_new (w.alloc (.cells #[.slice ra rn rc, .slice ma mn mc, .slice fa fn fc, .slice ea en ec] 50)) (.cells #[.string nm, .int .i64 k1, .int .i64 k2, .int .i64 v1, .int .i64 v2] 75)
    rw [World.size_alloc] at this
    rw [hW0]; exact this
  have hb0 : Below w.heap.size w W0 := by rw [hW0]; exact boxes2 _ _ _ _ _
  have FX : Hid (∀ w2 : World, Below W0.heap.size W0 w2 → (w2.cell? ⟨w.heap.size, 0, none⟩ = some (.slice ra rn rc) ∧ w2.cell? ⟨w.heap.size, 1, none⟩ = some (.slice ma mn mc) ∧ w2.cell? ⟨w.heap.size, 2, none⟩ = some (.slice fa fn fc) ∧ w2.cell? ⟨w.heap.size, 3, none⟩ = some (.slice ea en ec) ∧ w2.cell? ⟨w.heap.size + 1, 1, none⟩ = some (.int .i64 k1) ∧ w2.cell? ⟨w.heap.size + 1, 2, none⟩ = some (.int .i64 k2) ∧ w2.cell? ⟨w.heap.size + 1, 3, none⟩ = some (.int .i64 v1) ∧ w2.cell? ⟨w.heap.size + 1, 4, none⟩ = some (.int .i64 v2)) ∧ Below w.heap.size w w2) := hid (fun w2 hb => by
    have bx := (hb.block _ (Array.getElem?_eq_some_iff.1 q1).1).trans q1
    have bz := (hb.block _ (Array.getElem?_eq_some_iff.1 q2).1).trans q2
    exact ⟨⟨cellOf bx 0, cellOf bx 1, cellOf bx 2, cellOf bx 3, cellOf bz 1, cellOf bz 2, cellOf bz 3, cellOf bz 4⟩, hb0.trans (hb.mono hb0.size)⟩)
  have TR : Hid (∀ {Z x y : World}, Below Z.heap.size Z x → Below x.heap.size x y → Below Z.heap.size Z y) := hid (fun h1 h2 => h1.trans (h2.mono h1.size))
  have HB0 := hid hb0
  clear q1 q2 hb0
  by_cases h24 : 24 < n
  · have h24' : (24 : Int) < (n : Int) := by omega
    have HF : Hid (mapV k p ⟨nm, (k1, k2), (v1, v2)⟩ row = false) := hid (by unfold mapV; rw [decide_eq_false (by rw [← Hn.out]; omega)]; rfl)
    go_enter Try.func53, Try.ntmps53
    go_wp2
    rw [← hW0]
    go_ret
    exact ⟨by rw [HF.out]; rfl, HB0.out⟩
  · have h24' : ¬ (24 : Int) < (n : Int) := by omega
    go_enter Try.func53, Try.ntmps53
    go_wp2
    rw [← hW0]
    clear hW0
    go_loopg [14] n (fun gg ii wr => ∃ i : Nat, i + gg = n ∧ ii = .int .i64 (i : Int) ∧ Below W0.heap.size W0 wr ∧ ∀ j, j < i → entV k p ⟨nm, (k1, k2), (v1, v2)⟩ row j = true)
    case atStart => exact ⟨0, by omega, rfl, Below.refl _ _, fun j hj => by omega⟩
    case round =>
      obtain ⟨i, hi', rfl, hbr, hacc⟩ := hrel
      have Hbr := hid hbr
      have Hacc := hid hacc
      clear hacc
      cases gk with
      | zero =>
        have hin2 : i = n := by omega
        subst hin2
        clear hi' hbr
        have HT : Hid (mapV k p ⟨nm, (k1, k2), (v1, v2)⟩ row = true) := hid (mapV_yes (by rw [← Hn.out]; omega) (by rw [← Hn.out]; exact Hacc.out))
        go_wp2
        go_ret
        exact ⟨by rw [HT.out]; rfl, (FX.out _ Hbr.out).2⟩
      | succ gi =>
        have hlt0 : i < n := by omega
        have hlt : (i : Int) < (n : Int) := by omega
        have hi00 : (0 : Int) ≤ (i : Int) := by omega
        have Hi := hid hi'
        obtain ⟨q, hq⟩ : ∃ q, row[i]? = some q := ⟨row[i]'(by rw [← Hn.out]; exact hlt0), List.getElem?_eq_getElem _⟩
        have Hq := hid hq
        obtain ⟨⟨f0, f1, f2, f3, f4, f5, f6, f7⟩, hbw⟩ := FX.out wr hbr
        have hR := R.out.below (Nat.le_refl _) hbw
        obtain ⟨b1, o1, ea', dh⟩ := hR.rd i (enT (k + 2) q) (by rw [List.getElem?_map, hq]; rfl)
        subst ea'
        have HK : Hid (∀ W', Below W0.heap.size W0 W' → Rds (k + 2) W' q.1 ∧ Rds (k + 2) W' q.2) := hid (fun W' hb => (R.out.below (Nat.le_refl _) (FX.out W' hb).2).el q (List.mem_of_getElem? Hq.out))
        have C1 := hid (fun (W' : World) (hb : Below W0.heap.size W0 W') => K80.out W' (FX.out W' hb).2 k1 k2 q.1 (HK.out W' hb).1)
        have C2 := hid (fun (W' : World) (hb : Below W0.heap.size W0 W') => K80.out W' (FX.out W' hb).2 v1 v2 q.2 (HK.out W' hb).2)
        have d0 := dh 0 (by omega)
        have d1 := dh 1 (by omega)
        have d2 := dh 2 (by omega)
        have d3 := dh 3 (by omega)
        have d4 := dh 4 (by omega)
        have d5 := dh 5 (by omega)
        have d6 := dh 6 (by omega)
        have d7 := dh 7 (by omega)
        have d8 := dh 8 (by omega)
        have d9 := dh 9 (by omega)
        simp only [En.cs, enT, List.getElem?_cons_zero, List.getElem?_cons_succ, Nat.add_zero] at d0 d1 d2 d3 d4 d5 d6 d7 d8 d9
        have HE : Hid (entV k p ⟨nm, (k1, k2), (v1, v2)⟩ row i = (isV k p (k1, k2) q.1 && isV k p (v1, v2) q.2 && (decide (i = 0) || ((row[i - 1]?).map fun o => decide (cmpT (k + 2) o.1 q.1 < 0)).getD true))) := hid (by unfold entV; rw [Hq.out])
        have HNO : Hid (entV k p ⟨nm, (k1, k2), (v1, v2)⟩ row i = false → mapV k p ⟨nm, (k1, k2), (v1, v2)⟩ row = false) := hid (fun h => mapV_no (by rw [← Hn.out]; exact hlt0) h)
        have PV : Hid (∀ (o : VT (k + 2) × VT (k + 2)), row[i - 1]? = some o → ∀ W', Below W0.heap.size W0 W' → Calls Try.prog 47 #[(hdT (k + 2) o.1).v, (hdT (k + 2) q.1).v] W' fun e w' => e = .returned (.int .i64 (cmpT (k + 2) o.1 q.1)) ∧ Below W'.heap.size W' w') := hid (fun o ho W' hb => compare_any (k + 2) W' o.1 q.1 (((R.out.below (Nat.le_refl _) (FX.out W' hb).2).el o (List.mem_of_getElem? ho)).1) (HK.out W' hb).1)
        obtain ⟨E1, hE1⟩ : ∃ E, E = isV k p (k1, k2) q.1 := ⟨_, rfl⟩
        obtain ⟨E2, hE2⟩ : ∃ E, E = isV k p (v1, v2) q.2 := ⟨_, rfl⟩
        rw [← hE1] at C1 HE
        rw [← hE2] at C2 HE
        clear hE1 hE2 hR hbw dh hi' hq K80
        obtain ⟨hq1, ehq1⟩ : ∃ h, h = hdT (k + 2) q.1 := ⟨_, rfl⟩
        have HQ1 := hid ehq1
        rw [← ehq1] at C1 PV d0 d1 d2 d3 d4
        clear ehq1
        generalize hdT (k + 2) q.2 = hq2 at *
        obtain ⟨xk, xi, xt, xr, xa, xn, xc⟩ := hq1
        obtain ⟨yk, yi, yt, yr, ya, yn, yc⟩ := hq2
        simp only [Hd.v] at C1 C2 PV d0 d1 d2 d3 d4 d5 d6 d7 d8 d9
        obtain ⟨W1, hW1⟩ : ∃ W1, W1 = wr.alloc (.cells #[.int .i64 xk, .int .i64 xi, .string xt, .int .i64 xr, .slice xa xn xc, .int .i64 yk, .int .i64 yi, .string yt, .int .i64 yr, .slice ya yn yc] 81) := ⟨_, rfl⟩
        have n1 : W1.heap[wr.heap.size]? = some (.cells #[.int .i64 xk, .int .i64 xi, .string xt, .int .i64 xr, .slice xa xn xc, .int .i64 yk, .int .i64 yi, .string yt, .int .i64 yr, .slice ya yn yc] 81 (0, 0)) := by rw [hW1]; exact heap_alloc_new wr _
        have b1' : Below wr.heap.size wr W1 := by rw [hW1]; exact (Below.refl _ wr).alloc (Nat.le_refl _) _
        have B1 := hid (TR.out Hbr.out b1')
        have FY : Hid (∀ w2 : World, Below W1.heap.size W1 w2 → (w2.cell? ⟨wr.heap.size, 0, none⟩ = some (.int .i64 xk) ∧ w2.cell? ⟨wr.heap.size, 1, none⟩ = some (.int .i64 xi) ∧ w2.cell? ⟨wr.heap.size, 2, none⟩ = some (.string xt) ∧ w2.cell? ⟨wr.heap.size, 3, none⟩ = some (.int .i64 xr) ∧ w2.cell? ⟨wr.heap.size, 4, none⟩ = some (.slice xa xn xc) ∧ w2.cell? ⟨wr.heap.size, 5, none⟩ = some (.int .i64 yk) ∧ w2.cell? ⟨wr.heap.size, 6, none⟩ = some (.int .i64 yi) ∧ w2.cell? ⟨wr.heap.size, 7, none⟩ = some (.string yt) ∧ w2.cell? ⟨wr.heap.size, 8, none⟩ = some (.int .i64 yr) ∧ w2.cell? ⟨wr.heap.size, 9, none⟩ = some (.slice ya yn yc))) := hid (fun w2 hb => by
          have bx := (hb.block _ (Array.getElem?_eq_some_iff.1 n1).1).trans n1
          exact ⟨cellOf bx 0, cellOf bx 1, cellOf bx 2, cellOf bx 3, cellOf bx 4, cellOf bx 5, cellOf bx 6, cellOf bx 7, cellOf bx 8, cellOf bx 9⟩)
        clear n1 b1' f0 f1 f2 f3 f4 f5 f6 f7
        go_upto_region 6 with fail
        rw [← hW1]
        clear hW1 d0 d1 d2 d3 d4 d5 d6 d7 d8 d9
        obtain ⟨⟨f0, f1, f2, f3, f4, f5, f6, f7⟩, _⟩ := FX.out W1 B1.out
        obtain ⟨y0, y1, y2, y3, y4, y5, y6, y7, y8, y9⟩ := FY.out W1 (Below.refl _ _)
        cases E1 with
        | false =>
          have HF := hid (HNO.out (by rw [HE.out]; rfl))
          go_wp2_with (go_at_call 80; (refine (C1.out _ B1.out).mono ?_; rintro e w2 ⟨rfl, hb2⟩; have B2 := hid (TR.out B1.out hb2); clear hb2))
          go_ret
          exact ⟨by rw [HF.out]; rfl, (FX.out _ B2.out).2⟩
        | true =>
          cases E2 with
          | false =>
            have HF := hid (HNO.out (by rw [HE.out]; rfl))
            go_wp2_with (first
              | (go_at_call 80; (refine (C1.out _ B1.out).mono ?_; rintro e w2 ⟨rfl, hb2⟩; have B2 := hid (TR.out B1.out hb2); have H2 := hid hb2; clear hb2 C1 f0 f1 f2 f3 f4 f5 f6 f7 y0 y1 y2 y3 y4 y5 y6 y7 y8 y9; obtain ⟨⟨f0, f1, f2, f3, f4, f5, f6, f7⟩, _⟩ := FX.out w2 B2.out; obtain ⟨y0, y1, y2, y3, y4, y5, y6, y7, y8, y9⟩ := FY.out w2 H2.out))
              | (go_at_call 80; (refine (C2.out _ B2.out).mono ?_; rintro e w3 ⟨rfl, hb3⟩; have B3 := hid (TR.out B2.out hb3); clear hb3)))
            go_ret
            exact ⟨by rw [HF.out]; rfl, (FX.out _ B3.out).2⟩
          | true =>
            go_upto_region 8 with (first
              | (go_at_call 80; (refine (C1.out _ B1.out).mono ?_; rintro e w2 ⟨rfl, hb2⟩; have B2 := hid (TR.out B1.out hb2); have H2 := hid hb2; clear hb2 C1 f0 f1 f2 f3 f4 f5 f6 f7 y0 y1 y2 y3 y4 y5 y6 y7 y8 y9; obtain ⟨⟨f0, f1, f2, f3, f4, f5, f6, f7⟩, _⟩ := FX.out w2 B2.out; obtain ⟨y0, y1, y2, y3, y4, y5, y6, y7, y8, y9⟩ := FY.out w2 H2.out))
              | (go_at_call 80; (refine (C2.out _ B2.out).mono ?_; rintro e w3 ⟨rfl, hb3⟩; have B3 := hid (TR.out B2.out hb3); have H3 := hid (TR.out H2.out hb3); clear hb3 f0 f1 f2 f3 f4 f5 f6 f7 y0 y1 y2 y3 y4 y5 y6 y7 y8 y9)))
            by_cases hi0 : i = 0
            · subst hi0
              have HT := hid (show entV k p ⟨nm, (k1, k2), (v1, v2)⟩ row 0 = true from by rw [HE.out]; rfl)
              go_quiet (fail)
              go_wp2
              go_roundg gi
              case measure => omega
              case rel => exact ⟨1, by have := Hi.out; omega, rfl, B3.out.trans ⟨rfl, rfl, rfl, Nat.le_refl _, fun _ _ => rfl⟩, fun j hj => by
                obtain rfl : j = 0 := by omega
                exact HT.out⟩
            · obtain ⟨i0, hi0'⟩ : ∃ i0, i0 = i - 1 := ⟨_, rfl⟩
              have Hi0 := hid hi0'
              have hsub : IntKind.i64.wrap ((i : Int) - 1) = (i0 : Int) := by rw [IntKind.wrap_i64]; omega
              have hgt : (0 : Int) < (i : Int) := by omega
              have hgtb : decide (0 < i) = true := decide_eq_true (by omega)
              have hs0 : (0 : Int) ≤ (i0 : Int) := by omega
              have hs1 : (i0 : Int) < (n : Int) := by omega
              have hs2 : i0 < n := by omega
              clear hi0'
              obtain ⟨o, ho⟩ : ∃ o, row[i0]? = some o := ⟨row[i0]'(by rw [← Hn.out]; exact hs2), List.getElem?_eq_getElem _⟩
              have CP := hid (PV.out o (by rw [← Hi0.out]; exact ho))
              obtain ⟨b2, o2, ea2, gh⟩ := (R.out.below (Nat.le_refl _) (FX.out w3 B3.out).2).rd i0 (enT (k + 2) o) (by rw [List.getElem?_map, ho]; rfl)
              cases ea2
              have z0 := gh 0 (by omega)
              have z1 := gh 1 (by omega)
              have z2 := gh 2 (by omega)
              have z3 := gh 3 (by omega)
              have z4 := gh 4 (by omega)
              simp only [En.cs, enT, List.getElem?_cons_zero, List.getElem?_cons_succ, Nat.add_zero] at z0 z1 z2 z3 z4
              have HE2 : Hid (entV k p ⟨nm, (k1, k2), (v1, v2)⟩ row i = decide (cmpT (k + 2) o.1 q.1 < 0)) := hid (by rw [HE.out, ← Hi0.out, ho, decide_eq_false hi0]; simp)
              obtain ⟨cv, hcv⟩ : ∃ cv, cv = cmpT (k + 2) o.1 q.1 := ⟨_, rfl⟩
              rw [← hcv] at CP HE2
              clear hcv gh ho PV
              generalize hdT (k + 2) o.1 = ho1 at *
              obtain ⟨zk, zi, zt, zr, za, zn, zc⟩ := ho1
              simp only [Hd.v] at CP z0 z1 z2 z3 z4
              obtain ⟨y0, y1, y2, y3, y4, _⟩ := FY.out w3 H3.out
              have SE : Hid (∀ W' : World, Below W0.heap.size W0 W' → Below w3.heap.size w3 W' → (W'.cell? ⟨b1, o1 + i0 * 10, none⟩ = some (.int .i64 zk) ∧ W'.cell? ⟨b1, o1 + i0 * 10 + 1, none⟩ = some (.int .i64 zi) ∧ W'.cell? ⟨b1, o1 + i0 * 10 + 2, none⟩ = some (.string zt) ∧ W'.cell? ⟨b1, o1 + i0 * 10 + 3, none⟩ = some (.int .i64 zr) ∧ W'.cell? ⟨b1, o1 + i0 * 10 + 4, none⟩ = some (.slice za zn zc) ∧ W'.cell? ⟨wr.heap.size, 0, none⟩ = some (.int .i64 xk) ∧ W'.cell? ⟨wr.heap.size, 1, none⟩ = some (.int .i64 xi) ∧ W'.cell? ⟨wr.heap.size, 2, none⟩ = some (.string xt) ∧ W'.cell? ⟨wr.heap.size, 3, none⟩ = some (.int .i64 xr) ∧ W'.cell? ⟨wr.heap.size, 4, none⟩ = some (.slice xa xn xc))) := hid (fun W' _ hb => by
                have ge : ∀ (p : Addr) (v : Value), w3.cell? p = some v → W'.cell? p = some v := fun p v e => (hb.cell (World.block_lt_of_cell? w3 _ e)).trans e
                exact ⟨ge _ _ z0, ge _ _ z1, ge _ _ z2, ge _ _ z3, ge _ _ z4, ge _ _ y0, ge _ _ y1, ge _ _ y2, ge _ _ y3, ge _ _ y4⟩)
              have R3 := hid ((Below.refl w3.heap.size w3).drew)
              have D3 := hid B3.out.drew
              by_cases hc : cv < 0
              · have hc' : ¬ (0 ≤ cv) := by omega
                have HT := hid (show entV k p ⟨nm, (k1, k2), (v1, v2)⟩ row i = true from by rw [HE2.out]; exact decide_eq_true hc)
                go_region_held3 (fun W' => W'.cell? ⟨b1, o1 + i0 * 10, none⟩ = some (.int .i64 zk) ∧ W'.cell? ⟨b1, o1 + i0 * 10 + 1, none⟩ = some (.int .i64 zi) ∧ W'.cell? ⟨b1, o1 + i0 * 10 + 2, none⟩ = some (.string zt) ∧ W'.cell? ⟨b1, o1 + i0 * 10 + 3, none⟩ = some (.int .i64 zr) ∧ W'.cell? ⟨b1, o1 + i0 * 10 + 4, none⟩ = some (.slice za zn zc) ∧ W'.cell? ⟨wr.heap.size, 0, none⟩ = some (.int .i64 xk) ∧ W'.cell? ⟨wr.heap.size, 1, none⟩ = some (.int .i64 xi) ∧ W'.cell? ⟨wr.heap.size, 2, none⟩ = some (.string xt) ∧ W'.cell? ⟨wr.heap.size, 3, none⟩ = some (.int .i64 xr) ∧ W'.cell? ⟨wr.heap.size, 4, none⟩ = some (.slice xa xn xc)) (first | with_reducible exact SE.out _ D3.out R3.out | with_reducible exact SE.out _ D4.out R4.out | go_keep) ((first
                  | (go_at_call 47; (refine (CP.out _ D3.out).mono ?_; rintro e w4 ⟨rfl, hb4⟩; have D4 := hid (TR.out D3.out hb4); have R4 := hid (TR.out R3.out hb4); clear hb4))))
                go_wp2
                go_roundg gi
                case measure => omega
                case rel => exact ⟨i + 1, by have := Hi.out; omega, by go_num, D4.out, fun j hj => by
                  rcases Nat.lt_or_ge j i with h | h
                  · exact Hacc.out j h
                  · obtain rfl : j = i := by omega
                    exact HT.out⟩
              · have hc' : 0 ≤ cv := by omega
                have HF := hid (HNO.out (by rw [HE2.out]; exact decide_eq_false hc))
                go_region_held3 (fun W' => W'.cell? ⟨b1, o1 + i0 * 10, none⟩ = some (.int .i64 zk) ∧ W'.cell? ⟨b1, o1 + i0 * 10 + 1, none⟩ = some (.int .i64 zi) ∧ W'.cell? ⟨b1, o1 + i0 * 10 + 2, none⟩ = some (.string zt) ∧ W'.cell? ⟨b1, o1 + i0 * 10 + 3, none⟩ = some (.int .i64 zr) ∧ W'.cell? ⟨b1, o1 + i0 * 10 + 4, none⟩ = some (.slice za zn zc) ∧ W'.cell? ⟨wr.heap.size, 0, none⟩ = some (.int .i64 xk) ∧ W'.cell? ⟨wr.heap.size, 1, none⟩ = some (.int .i64 xi) ∧ W'.cell? ⟨wr.heap.size, 2, none⟩ = some (.string xt) ∧ W'.cell? ⟨wr.heap.size, 3, none⟩ = some (.int .i64 xr) ∧ W'.cell? ⟨wr.heap.size, 4, none⟩ = some (.slice xa xn xc)) (first | with_reducible exact SE.out _ D3.out R3.out | with_reducible exact SE.out _ D4.out R4.out | go_keep) ((first
                  | (go_at_call 47; (refine (CP.out _ D3.out).mono ?_; rintro e w4 ⟨rfl, hb4⟩; have D4 := hid (TR.out D3.out hb4); have R4 := hid (TR.out R3.out hb4); clear hb4))))
                go_wp2
                go_ret
                exact ⟨by rw [HF.out]; rfl, (FX.out _ D4.out).2⟩
end Go.Proofs.Ytenfgahedbeekaa

namespace Go.Proofs.Ytenfgahedbeekaa
open Go.RowKit Go.Deep Go.Shelf
set_option linter.unusedVariables false
set_option linter.unusedSimpArgs false

def mpV (k : Nat) (p : Pg) (rows : List (Rw (k + 2))) (i : Nat) : Bool :=
  match p.maps[i]?, rows[i]? with
  | some m, some r => mapV k p m r
  | _, _ => true
def stV (k : Nat) (p : Pg) (rows : List (Rw (k + 2))) : Bool := rightB p && decide (rows.length = p.maps.length) && (List.range p.maps.length).all (mpV k p rows)
set_option maxRecDepth 100000 in
set_option maxHeartbeats 2000000 in
theorem heapIs_any (k : Nat) (w : World) (g : PH) (p : Pg) (d : PRd w g p) (sa : Option Addr) (sn sc : Nat) (ms : List (Sl × Rw (k + 2))) (hs : StR (k + 2) w sa sn ms) :
    Calls Try.prog 29 #[g.v, .agg #[.slice sa sn sc]] w fun e w' => e = .returned (.bool (stV k p (ms.map (·.2)))) ∧ Below w.heap.size w w' := by
  have Hs := hid hs.n1
  have hle := hs.n2
  have hle2 : (sn : Int) ≤ 1000 := by omega
  have hn0 : (0 : Int) ≤ (sn : Int) := by omega
  have R := hid hs
  have Hm := hid d.m.n1
  have hm2 := d.m.n2
  have DM := hid d.m
  have K51 := hid (fun (w1 : World) (hb : Below w.heap.size w w1) => right_any w1 g p (d.below (Nat.le_refl _) hb))
  have K53 := hid (fun (w1 : World) (hb : Below w.heap.size w w1) (m : Mp) (a : Option Addr) (n cap : Nat) (row : Rw (k + 2)) (hr : RwR (k + 2) w1 a n row) => isMap_any k w1 g p (d.below (Nat.le_refl _) hb) m a n cap row hr)
  obtain ⟨ra, rn, rc, ma, mn, mc, fa, fn, fc, ea, en, ec⟩ := g
  simp only [PH.v] at K51 K53 Hm hm2 DM ⊢
  have hmI : (mn : Int) ≤ 9223372036854775807 := by omega
  clear d hs
  obtain ⟨W0, hW0⟩ : ∃ W0, W0 = (w.alloc (.cells #[.slice ra rn rc, .slice ma mn mc, .slice fa fn fc, .slice ea en ec] 50)).alloc (.cells #[.slice sa sn sc] 27) := ⟨_, rfl⟩
  have q1 : W0.heap[w.heap.size]? = some (.cells #[.slice ra rn rc, .slice ma mn mc, .slice fa fn fc, .slice ea en ec] 50 (0, 0)) := by rw [hW0]; exact (Below.heap_alloc _ _ _ (by simp)).trans (heap_alloc_new w _)
  have q2 : W0.heap[w.heap.size + 1]? = some (.cells #[.slice sa sn sc] 27 (0, 0)) := by
    have := heap_alloc_new (w.alloc (.cells #[.slice ra rn rc, .slice ma mn mc, .slice fa fn fc, .slice ea en ec] 50)) (.cells #[.slice sa sn sc] 27)
    rw [World.size_alloc] at this
    rw [hW0]; exact this
  have hb0 : Below w.heap.size w W0 := by rw [hW0]; exact boxes2 _ _ _ _ _
  have FX : Hid (∀ w2 : World, Below W0.heap.size W0 w2 → (w2.cell? ⟨w.heap.size, 0, none⟩ = some (.slice ra rn rc) ∧ w2.cell? ⟨w.heap.size, 1, none⟩ = some (.slice ma mn mc) ∧ w2.cell? ⟨w.heap.size, 2, none⟩ = some (.slice fa fn fc) ∧ w2.cell? ⟨w.heap.size, 3, none⟩ = some (.slice ea en ec) ∧ w2.cell? ⟨w.heap.size + 1, 0, none⟩ = some (.slice sa sn sc)) ∧ Below w.heap.size w w2) := hid (fun w2 hb => by
    have bx := (hb.block _ (Array.getElem?_eq_some_iff.1 q1).1).trans q1
    have bz := (hb.block _ (Array.getElem?_eq_some_iff.1 q2).1).trans q2
    exact ⟨⟨cellOf bx 0, cellOf bx 1, cellOf bx 2, cellOf bx 3, cellOf bz 0⟩, hb0.trans (hb.mono hb0.size)⟩)
  have TR : Hid (∀ {Z x y : World}, Below Z.heap.size Z x → Below x.heap.size x y → Below Z.heap.size Z y) := hid (fun h1 h2 => h1.trans (h2.mono h1.size))
  have HB0 := hid hb0
  obtain ⟨⟨f0, f1, f2, f3, f4⟩, _⟩ := FX.out W0 (Below.refl _ _)
  clear q1 q2 hb0
  have HL : Hid ((ms.map (·.2)).length = sn) := hid (by rw [List.length_map]; exact Hs.out.symm)
  have A51 : Hid (Calls Try.prog 51 #[.agg #[.slice ra rn rc, .slice ma mn mc, .slice fa fn fc, .slice ea en ec]] W0 fun e w' => e = .returned (.bool (rightB p)) ∧ Below W0.heap.size W0 w') := hid (K51.out W0 HB0.out)
  cases hR : rightB p with
  | false =>
    rw [hR] at A51
    have HF : Hid (stV k p (ms.map (·.2)) = false) := hid (by unfold stV; rw [hR]; rfl)
    go_enter Try.func29, Try.ntmps29
    go_upto_region 1 with fail
    rw [← hW0]
    clear hW0
    go_wp2_with (go_at_call 51; (refine (A51.out).mono ?_; rintro e w1 ⟨rfl, hb1⟩; have B1 := hid hb1; clear hb1))
    go_ret
    exact ⟨by rw [HF.out]; rfl, (FX.out _ B1.out).2⟩
  | true =>
    rw [hR] at A51
    by_cases hl : sn = mn
    · subst hl
      go_enter Try.func29, Try.ntmps29
      go_upto_region 1 with fail
      rw [← hW0]
      clear hW0
      go_wp2_with (go_at_call 51; (refine (A51.out).mono ?_; rintro e w1 ⟨rfl, hb1⟩; have B1 := hid hb1; clear f0 f1 f2 f3 f4 hb1; obtain ⟨⟨f0, f1, f2, f3, f4⟩, _⟩ := FX.out w1 B1.out))
      have hsI : (sn : Int) ≤ 1000 := hle2
      go_loopg [22] sn (fun gg ii wr => ∃ i : Nat, i + gg = sn ∧ ii = .int .i64 (i : Int) ∧ Below W0.heap.size W0 wr ∧ ∀ j, j < i → mpV k p (ms.map (·.2)) j = true)
      case atStart => exact ⟨0, by omega, rfl, B1.out, fun j hj => by omega⟩
      case round =>
        obtain ⟨i, hi', rfl, hbr, hacc⟩ := hrel
        have Hbr := hid hbr
        have Hacc := hid hacc
        clear hacc f0 f1 f2 f3 f4
        cases gk with
        | zero =>
          have hin2 : i = sn := by omega
          subst hin2
          clear hi' hbr
          have HT : Hid (stV k p (ms.map (·.2)) = true) := hid (by
            unfold stV
            rw [hR, decide_eq_true (by rw [HL.out, ← Hm.out])]
            simp only [Bool.true_and]
            rw [List.all_eq_true]
            intro j hj
            exact Hacc.out j (by rw [Hm.out]; exact List.mem_range.1 hj))
          go_wp2
          go_ret
          exact ⟨by rw [HT.out]; rfl, (FX.out _ Hbr.out).2⟩
        | succ gi =>
          have hlt0 : i < sn := by omega
          have hlt : (i : Int) < (sn : Int) := by omega
          have hi00 : (0 : Int) ≤ (i : Int) := by omega
          have Hi := hid hi'
          obtain ⟨⟨f0, f1, f2, f3, f4⟩, hbw⟩ := FX.out wr hbr
          obtain ⟨m, hm⟩ : ∃ m, p.maps[i]? = some m := ⟨p.maps[i]'(by rw [← Hm.out]; exact hlt0), List.getElem?_eq_getElem _⟩
          obtain ⟨x, hx⟩ : ∃ x, ms[i]? = some x := ⟨ms[i]'(by rw [← Hs.out]; exact hlt0), List.getElem?_eq_getElem _⟩
          obtain ⟨b2, o2, ea2, _, dm⟩ := (DM.out.below (Nat.le_refl _) hbw).rd i m.cs (by rw [List.getElem?_map, hm]; rfl)
          subst ea2
          obtain ⟨b1, o1, ea1, dc⟩ := (R.out.below (Nat.le_refl _) hbw).rd i x.1 (by rw [List.getElem?_map, hx]; rfl)
          subst ea1
          have hrow := ((R.out.below (Nat.le_refl _) hbw).el x (List.mem_of_getElem? hx)).1
          have HRow := hid hrow
          have HMp : Hid (mpV k p (ms.map (·.2)) i = mapV k p m x.2) := hid (by unfold mpV; rw [hm, List.getElem?_map, hx]; rfl)
          have HNO : Hid (mpV k p (ms.map (·.2)) i = false → stV k p (ms.map (·.2)) = false) := hid (fun h => by
            unfold stV
            have : (List.range p.maps.length).all (mpV k p (ms.map (·.2))) = false := by
              rw [List.all_eq_false]
              exact ⟨i, List.mem_range.2 (by rw [← Hm.out]; exact hlt0), by simp [h]⟩
            rw [this]
            simp)
          have m0 := dm 0 (by omega)
          have m1 := dm 1 (by omega)
          have m2 := dm 2 (by omega)
          have m3 := dm 3 (by omega)
          have m4 := dm 4 (by omega)
          obtain ⟨⟨xa, xn, xc⟩, xr⟩ := x
          obtain ⟨nm, ⟨k1, k2⟩, ⟨v1, v2⟩⟩ := m
          simp only [Mp.cs, List.getElem?_cons_zero, List.getElem?_cons_succ, Nat.add_zero] at m0 m1 m2 m3 m4
          simp only [Sl.v] at dc
          simp only at HRow HMp
          obtain ⟨W1, hW1⟩ : ∃ W1, W1 = wr.alloc (.cells #[.string nm, .int .i64 k1, .int .i64 k2, .int .i64 v1, .int .i64 v2] 75) := ⟨_, rfl⟩
          have n1 : W1.heap[wr.heap.size]? = some (.cells #[.string nm, .int .i64 k1, .int .i64 k2, .int .i64 v1, .int .i64 v2] 75 (0, 0)) := by rw [hW1]; exact heap_alloc_new wr _
          have b1' : Below wr.heap.size wr W1 := by rw [hW1]; exact (Below.refl _ wr).alloc (Nat.le_refl _) _
          have B1' := hid (TR.out Hbr.out b1')
          have SE : Hid (∀ W' : World, Below W1.heap.size W1 W' → (W'.cell? ⟨w.heap.size, 0, none⟩ = some (.slice ra rn rc) ∧ W'.cell? ⟨w.heap.size, 1, none⟩ = some (.slice (some ⟨b2, o2, none⟩) sn mc) ∧ W'.cell? ⟨w.heap.size, 2, none⟩ = some (.slice fa fn fc) ∧ W'.cell? ⟨w.heap.size, 3, none⟩ = some (.slice ea en ec) ∧ W'.cell? ⟨w.heap.size + 1, 0, none⟩ = some (.slice (some ⟨b1, o1, none⟩) sn sc) ∧ W'.cell? ⟨b1, o1 + i, none⟩ = some (.slice xa xn xc) ∧ W'.cell? ⟨wr.heap.size, 0, none⟩ = some (.string nm) ∧ W'.cell? ⟨wr.heap.size, 1, none⟩ = some (.int .i64 k1) ∧ W'.cell? ⟨wr.heap.size, 2, none⟩ = some (.int .i64 k2) ∧ W'.cell? ⟨wr.heap.size, 3, none⟩ = some (.int .i64 v1) ∧ W'.cell? ⟨wr.heap.size, 4, none⟩ = some (.int .i64 v2))) := hid (fun W' hb => by
            have hbb := TR.out b1' hb
            have ge : ∀ (p : Addr) (v : Value), wr.cell? p = some v → W'.cell? p = some v := fun p v e => (hbb.cell (World.block_lt_of_cell? wr _ e)).trans e
            have bx := (hb.block _ (Array.getElem?_eq_some_iff.1 n1).1).trans n1
            exact ⟨ge _ _ f0, ge _ _ f1, ge _ _ f2, ge _ _ f3, ge _ _ f4, ge _ _ dc, cellOf bx 0, cellOf bx 1, cellOf bx 2, cellOf bx 3, cellOf bx 4⟩)
          have R3 := hid ((Below.refl W1.heap.size W1).drew)
          have D3 := hid (TR.out B1'.out R3.out)
          have CP := hid (K53.out W1.drew (FX.out _ D3.out).2 ⟨nm, (k1, k2), (v1, v2)⟩ xa xn xc xr (((R.out.below (Nat.le_refl _) (FX.out _ D3.out).2).el (⟨xa, xn, xc⟩, xr) (List.mem_of_getElem? hx)).1))
          obtain ⟨E, hE⟩ : ∃ E, E = mapV k p ⟨nm, (k1, k2), (v1, v2)⟩ xr := ⟨_, rfl⟩
          rw [← hE] at CP HMp
          simp only [mtV] at CP
          clear hE n1 b1' hm hx dm hrow hi' hbw
          go_upto_region 6 with fail
          rw [← hW1]
          clear hW1 m0 m1 m2 m3 m4
          obtain ⟨g0, g1, g2, g3, g4, g5, g6, g7, g8, g9, g10⟩ := SE.out W1 (Below.refl _ _)
          cases E with
          | false =>
            have HF := hid (HNO.out HMp.out)
            go_region_held3 (fun W' => W'.cell? ⟨w.heap.size, 0, none⟩ = some (.slice ra rn rc) ∧ W'.cell? ⟨w.heap.size, 1, none⟩ = some (.slice (some ⟨b2, o2, none⟩) sn mc) ∧ W'.cell? ⟨w.heap.size, 2, none⟩ = some (.slice fa fn fc) ∧ W'.cell? ⟨w.heap.size, 3, none⟩ = some (.slice ea en ec) ∧ W'.cell? ⟨w.heap.size + 1, 0, none⟩ = some (.slice (some ⟨b1, o1, none⟩) sn sc) ∧ W'.cell? ⟨b1, o1 + i, none⟩ = some (.slice xa xn xc) ∧ W'.cell? ⟨wr.heap.size, 0, none⟩ = some (.string nm) ∧ W'.cell? ⟨wr.heap.size, 1, none⟩ = some (.int .i64 k1) ∧ W'.cell? ⟨wr.heap.size, 2, none⟩ = some (.int .i64 k2) ∧ W'.cell? ⟨wr.heap.size, 3, none⟩ = some (.int .i64 v1) ∧ W'.cell? ⟨wr.heap.size, 4, none⟩ = some (.int .i64 v2)) (first | with_reducible exact SE.out _ R3.out | with_reducible exact SE.out _ R4.out | go_keep) ((first
              | (go_at_call 53; (refine (CP.out).mono ?_; rintro e w4 ⟨rfl, hb4⟩; have R4 := hid (TR.out R3.out hb4); clear hb4))))
            go_wp2
            go_ret
            exact ⟨by rw [HF.out]; rfl, (FX.out _ (TR.out B1'.out R4.out)).2⟩
          | true =>
            go_region_held3 (fun W' => W'.cell? ⟨w.heap.size, 0, none⟩ = some (.slice ra rn rc) ∧ W'.cell? ⟨w.heap.size, 1, none⟩ = some (.slice (some ⟨b2, o2, none⟩) sn mc) ∧ W'.cell? ⟨w.heap.size, 2, none⟩ = some (.slice fa fn fc) ∧ W'.cell? ⟨w.heap.size, 3, none⟩ = some (.slice ea en ec) ∧ W'.cell? ⟨w.heap.size + 1, 0, none⟩ = some (.slice (some ⟨b1, o1, none⟩) sn sc) ∧ W'.cell? ⟨b1, o1 + i, none⟩ = some (.slice xa xn xc) ∧ W'.cell? ⟨wr.heap.size, 0, none⟩ = some (.string nm) ∧ W'.cell? ⟨wr.heap.size, 1, none⟩ = some (.int .i64 k1) ∧ W'.cell? ⟨wr.heap.size, 2, none⟩ = some (.int .i64 k2) ∧ W'.cell? ⟨wr.heap.size, 3, none⟩ = some (.int .i64 v1) ∧ W'.cell? ⟨wr.heap.size, 4, none⟩ = some (.int .i64 v2)) (first | with_reducible exact SE.out _ R3.out | with_reducible exact SE.out _ R4.out | go_keep) ((first
              | (go_at_call 53; (refine (CP.out).mono ?_; rintro e w4 ⟨rfl, hb4⟩; have R4 := hid (TR.out R3.out hb4); clear hb4))))
            go_wp2
            go_roundg gi
            case measure => omega
            case rel => exact ⟨i + 1, by have := Hi.out; omega, by go_num, TR.out B1'.out R4.out, fun j hj => by
              rcases Nat.lt_or_ge j i with h | h
              · exact Hacc.out j h
              · obtain rfl : j = i := by omega
                exact HMp.out⟩
    · have hl' : ¬ (sn : Int) = (mn : Int) := by omega
      have hlb : ((sn : Int) == (mn : Int)) = false := by simpa using hl'
      have hlc : ((sn : Int) != (mn : Int)) = true := by simp [hl']
      have HF : Hid (stV k p (ms.map (·.2)) = false) := hid (by unfold stV; rw [hR, decide_eq_false (by rw [HL.out, ← Hm.out]; exact hl)]; rfl)
      go_enter Try.func29, Try.ntmps29
      go_upto_region 1 with fail
      rw [← hW0]
      clear hW0
      go_wp2_with (go_at_call 51; (refine (A51.out).mono ?_; rintro e w1 ⟨rfl, hb1⟩; have B1 := hid hb1; clear f0 f1 f2 f3 f4 hb1; obtain ⟨⟨f0, f1, f2, f3, f4⟩, _⟩ := FX.out w1 B1.out))
      go_ret
      exact ⟨by rw [HF.out]; rfl, (FX.out _ B1.out).2⟩
end Go.Proofs.Ytenfgahedbeekaa

namespace Go.Proofs.Ytenfgahedbeekaa
open Go.RowKit Go.Deep Go.Shelf
set_option linter.unusedVariables false
set_option linter.unusedSimpArgs false

structure RsI (w wr : World) (pc : Array Value) (X : List (List (Vl × Vl))) (fa : Option Addr) (fn fc : Nat) (ns : List (Sl × Rw 3)) : Prop where
  bel : Below w.heap.size w wr
  b0 : wr.heap[w.heap.size]? = some (.cells pc 50 (0, 0))
  b1 : wr.heap[w.heap.size + 1]? = some (.cells #[.slice none 0 0] 27 (0, 0))
  b2 : wr.heap[w.heap.size + 1 + 1]? = some (.cells #[.slice fa fn fc] 27 (0, 0))
  row : MRow wr (w.heap.size + 3) (.slice fa fn fc) (ns.map (·.1))
  rd : ∀ q ∈ ns, RwP 3 wr (fun b => w.heap.size + 3 ≤ b ∧ b < wr.heap.size ∧ (Value.slice fa fn fc).ownBlock ≠ some b) q.1.a q.1.n q.2 ∧ q.1.n ≤ q.1.cap
  same : ns.map (fun q => q.2.map nrmP) = X.map (fun r => r.map tvlP)
theorem RsI.sz {w wr : World} {pc : Array Value} {X : List (List (Vl × Vl))} {fa : Option Addr} {fn fc : Nat} {ns : List (Sl × Rw 3)} (c : RsI w wr pc X fa fn fc ns) : w.heap.size + 3 ≤ wr.heap.size := (Array.getElem?_eq_some_iff.1 c.b2).1
theorem RsI.grown {w wr w9 w10 : World} {pc : Array Value} {X : List (List (Vl × Vl))} {fa : Option Addr} {fn fc : Nat} {ns : List (Sl × Rw 3)} {v2 : Value} {o2 : Obj} (c : RsI w wr pc X fa fn fc ns) (h9 : Below wr.heap.size wr w9) (hg : Grw (w9.alloc o2) (.slice fa fn fc) w10 v2) :
    w10.heap[w.heap.size + 1 + 1]? = some (.cells #[.slice fa fn fc] 27 (0, 0)) := by
  have hs := c.sz
  have bA : Below wr.heap.size wr (w9.alloc o2) := h9.alloc h9.size _
  exact ((hg.1.block _ (by have := bA.size; omega) (fun e => by have := (c.row.own _ e.symm).1; omega)).trans (bA.block _ (by omega))).trans c.b2
theorem RsI.more {w wr w9 w10 : World} {pc : Array Value} {X : List (List (Vl × Vl))} {fa : Option Addr} {fn fc : Nat} {ns : List (Sl × Rw 3)} {o2 : Obj} {xa : Option Addr} {xn xc : Nat} {qs : Rw 3} {f2 : Option Addr} {n2 c2 : Nat} (c : RsI w wr pc X fa fn fc ns)
    (h9 : Below wr.heap.size wr w9) (hx : RwP 3 w9 (fun b => wr.heap.size ≤ b ∧ b < w9.heap.size) xa xn qs) (hxc : xn ≤ xc) {Y : List (Vl × Vl)} (he : qs.map nrmP = Y.map tvlP)
    (hr : MRow w10 (w.heap.size + 3) (.slice f2 n2 c2) (ns.map (·.1) ++ [⟨xa, xn, xc⟩])) (hg : Grw (w9.alloc o2) (.slice fa fn fc) w10 (.slice f2 n2 c2)) :
    RsI w (w10.setCell ⟨w.heap.size + 1 + 1, 0, none⟩ (.slice f2 n2 c2)) pc (X ++ [Y]) f2 n2 c2 (ns ++ [(⟨xa, xn, xc⟩, qs)]) := by
  have hs0 := c.sz
  have s9 := h9.size
  have bA : Below wr.heap.size wr (w9.alloc o2) := h9.alloc h9.size _
  have own : ∀ b, (Value.slice fa fn fc).ownBlock = some b → w.heap.size + 3 ≤ b ∧ b < wr.heap.size := fun b e => c.row.own b e
  have blk : ∀ b, b < wr.heap.size → (Value.slice fa fn fc).ownBlock ≠ some b → w10.heap[b]? = wr.heap[b]? := fun b hb hne => (hg.1.block b (Nat.lt_of_lt_of_le hb bA.size) (fun e => hne e.symm)).trans (bA.block b hb)
  have blk9 : ∀ b, wr.heap.size ≤ b → b < w9.heap.size → w10.heap[b]? = w9.heap[b]? := fun b hb hb2 => (hg.1.block b (by simp; omega) (fun e => by have := (own b e.symm).2; omega)).trans (Below.heap_alloc _ _ _ hb2)
  have own2 : ∀ b, (Value.slice f2 n2 c2).ownBlock = some b → (Value.slice fa fn fc).ownBlock = some b ∨ (w9.alloc o2).heap.size ≤ b := fun b e => by
    rcases hg.2 with h1 | ⟨g, h1, h2⟩
    · exact .inl (h1 ▸ e)
    · rw [h1] at e; cases e; exact .inr h2
  have sB : (w9.alloc o2).heap.size = w9.heap.size + 1 := by simp
  have s11 : (w9.alloc o2).heap.size ≤ w10.heap.size := hg.1.size
  have st : ∀ b, b ≠ w.heap.size + 1 + 1 → (w10.setCell ⟨w.heap.size + 1 + 1, 0, none⟩ (.slice f2 n2 c2)).heap[b]? = w10.heap[b]? := fun b hb => Below.heap_setCell _ _ _ _ hb
  have ss : (w10.setCell ⟨w.heap.size + 1 + 1, 0, none⟩ (.slice f2 n2 c2)).heap.size = w10.heap.size := by simp [World.setCell]
  have h2 := heap_set_at (c.grown h9 hg) 0 (.slice f2 n2 c2)
  refine ⟨?_, ?_, ?_, by simpa using h2, ?_, ?_, ?_⟩
  · refine ⟨(hg.1.os.trans bA.os).trans c.bel.os, (hg.1.tape.trans bA.tape).trans c.bel.tape, (hg.1.output.trans bA.output).trans c.bel.output, by rw [ss]; omega, fun j hj => ?_⟩
    exact (st j (by omega)).trans ((blk j (by omega) (fun e => by have := (own j e).1; omega)).trans (c.bel.block j hj))
  · exact (st _ (by omega)).trans ((blk _ (by omega) (fun e => by have := (own _ e).1; omega)).trans c.b0)
  · exact (st _ (by omega)).trans ((blk _ (by omega) (fun e => by have := (own _ e).1; omega)).trans c.b1)
  · rw [List.map_append]
    exact hr.same (fun q e => st q (by have := (hr.own q e).1; omega))
  · intro q hq
    rcases List.mem_append.1 hq with hq | hq
    · refine ⟨((c.rd q hq).1.keep (fun b hb => (st b (by omega)).trans (blk b hb.2.1 hb.2.2))).imp (fun b hb => ⟨hb.1, by rw [ss]; omega, fun e => ?_⟩), (c.rd q hq).2⟩
      rcases own2 b e with h | h
      · exact hb.2.2 h
      · omega
    · obtain rfl : q = (⟨xa, xn, xc⟩, qs) := by simpa using hq
      refine ⟨(hx.keep (fun b hb => (st b (by omega)).trans (blk9 b hb.1 hb.2))).imp (fun b hb => ⟨by omega, by rw [ss]; omega, fun e => ?_⟩), hxc⟩
      rcases own2 b e with h | h
      · have := (own b h).2; omega
      · omega
  · rw [List.map_append, List.map_append, c.same]
    simp only [List.map_cons, List.map_nil, he]
theorem RsI.out {w wr : World} {pc : Array Value} {X : List (List (Vl × Vl))} {fa : Option Addr} {fn fc : Nat} {ns : List (Sl × Rw 3)} (h : RsI w wr pc X fa fn fc ns) (hl : X.length ≤ 1000) : StP 3 wr (fun b => w.heap.size + 3 ≤ b ∧ b < wr.heap.size) fa fn ns ∧ fn ≤ fc := by
  have hln : ns.length = X.length := by have := congrArg List.length h.same; simpa using this
  obtain ⟨a9, c9, e9, h9⟩ := h.row.form
  cases e9
  rw [List.length_map] at h9 ⊢
  refine ⟨⟨rfl, by omega, h.row.rd, fun x e ne => ?_, fun q hq => ⟨(h.rd q hq).1.imp (fun b hA => ⟨hA.1, hA.2.1⟩), (h.rd q hq).2⟩⟩, h9⟩
  exact h.row.own x.block (by rw [e]; rfl)
end Go.Proofs.Ytenfgahedbeekaa

namespace Go.Proofs.Ytenfgahedbeekaa
open Go.RowKit Go.Deep Go.Shelf
set_option linter.unusedVariables false
set_option linter.unusedSimpArgs false

/- A name that begins as it must. -/
/- Whether a name comes twice. -/
theorem toList_inj {x y : ByteArray} : (x.toList == y.toList) = decide (x = y) := by
  rw [Bool.eq_iff_iff, beq_iff_eq, decide_eq_true_eq, ByteArray.toList_eq, ByteArray.toList_eq]
  constructor
  · intro h; cases x; cases y; simp_all
  · rintro rfl; rfl
end Go.Proofs.Ytenfgahedbeekaa

namespace Go.Proofs.Ytenfgahedbeekaa
open Go.RowKit Go.Deep Go.Shelf
set_option linter.unusedVariables false
set_option linter.unusedSimpArgs false

theorem stV_pl {k : Nat} {p : Pg} {ms : List (Sl × Rw (k + 2))} (h : stV k p (ms.map (·.2)) = true) : ∀ m ∈ ms, m.2.length ≤ 24 ∧ ∀ q ∈ m.2, plV k q.1 = true ∧ plV k q.2 = true := by
  intro m hm
  unfold stV at h
  simp only [Bool.and_eq_true, decide_eq_true_eq, List.all_eq_true, List.mem_range] at h
  obtain ⟨⟨_, hl⟩, ha⟩ := h
  obtain ⟨i, hi, hmi⟩ := List.mem_iff_getElem.1 hm
  have hi2 : i < p.maps.length := by rw [← hl, List.length_map]; exact hi
  have h1 := ha i hi2
  unfold mpV at h1
  rw [List.getElem?_eq_getElem hi2, List.getElem?_map, List.getElem?_eq_getElem hi, hmi] at h1
  simp only [Option.map_some] at h1
  unfold mapV at h1
  simp only [Bool.and_eq_true, decide_eq_true_eq, List.all_eq_true, List.mem_range] at h1
  refine ⟨h1.1, fun q hq => ?_⟩
  obtain ⟨j, hj, hqj⟩ := List.mem_iff_getElem.1 hq
  have h2 := h1.2 j hj
  unfold entV at h2
  rw [List.getElem?_eq_getElem hj, hqj] at h2
  simp only [Bool.and_eq_true] at h2
  obtain ⟨⟨a, b⟩, _⟩ := h2
  unfold isV isB at a b
  simp only [Bool.and_eq_true] at a b
  exact ⟨a.1.1.2, b.1.1.2⟩
def SnP (k : Nat) (w : World) (p : Pg) (ms : List (Sl × Rw (k + 2))) (e : Ending) (w' : World) : Prop :=
  Below w.heap.size w w' ∧ ∃ v', e = .returned (.tuple #[v', .int .i64 (if stV k p (ms.map (·.2)) then 0 else 40)]) ∧ Row w' w.heap.size v' (if stV k p (ms.map (·.2)) then encSt k (ms.map (·.2)) else [])
theorem heapSnap_any (k : Nat) (w : World) (g : PH) (p : Pg) (d : PRd w g p) (sa : Option Addr) (sn sc : Nat) (ms : List (Sl × Rw (k + 2))) (hs : StR (k + 2) w sa sn ms) :
    Calls Try.prog 31 #[g.v, .agg #[.slice sa sn sc]] w (SnP k w p ms) := by
  obtain ⟨ra, rn, rc, ma, mn, mc, fa, fn, fc, ea, en, ec⟩ := g
  exact snap31 k w ra ma fa ea sa rn rc mn mc fn fc en ec sn sc ms hs _ (fun w1 hb => heapIs_any k w1 _ p (d.below (Nat.le_refl _) hb) sa sn sc ms (hs.below (Nat.le_refl _) hb)) stV_pl
theorem encN_byt {k : Nat} {q : VT (k + 2) × VT (k + 2)} (h : plV k q.1 = true ∧ plV k q.2 = true) : Byt (encN k q) := (encW_byt h.1).append (encW_byt h.2)
theorem encSt_byt {k : Nat} {p : Pg} {ms : List (Sl × Rw (k + 2))} (h : stV k p (ms.map (·.2)) = true) : Byt (encSt k (ms.map (·.2))) := by
  have h1 := stV_pl h
  intro x hx
  simp only [encSt, List.mem_flatMap, List.mem_map] at hx
  obtain ⟨r, ⟨m, hm, rfl⟩, hx⟩ := hx
  unfold encRw at hx
  rcases List.mem_append.1 hx with hx | hx
  · exact enc_byt _ x hx
  · simp only [List.mem_flatMap] at hx
    obtain ⟨q, hq, hx⟩ := hx
    exact encN_byt ((h1 m hm).2 q hq) x hx
end Go.Proofs.Ytenfgahedbeekaa

namespace Go.Proofs.Ytenfgahedbeekaa
open Go.RowKit Go.Deep Go.Shelf
set_option linter.unusedVariables false
set_option linter.unusedSimpArgs false

def pj (h : Hd) : Hd := ⟨h.kind, h.int, h.text, h.rc, none, h.n, h.n⟩
theorem all_pj (fs : List Hd) : (fs.map pj).all simpleB = fs.all simpleB := by
  rw [List.all_map]; rfl
theorem fieldsAre_pj (r : Rc) (fs : List Hd) : fieldsAre r (fs.map pj) = fieldsAre r fs := by
  unfold fieldsAre
  rw [List.length_map]
  congr 1
  refine congrArg (fun f => (List.range r.fields.length).all f) (funext fun i => ?_)
  rw [List.getElem?_map, Option.map_map]; rfl
theorem plainB_pj (h : Hd) (fs : List Hd) : plainB (pj h) (fs.map pj) = plainB h fs := by
  unfold plainB
  rw [all_pj]; rfl
theorem isB_pj (p : Pg) (t : TyP) (h : Hd) (fs : List Hd) : isB p t (pj h) (fs.map pj) = isB p t h fs := by
  unfold isB
  rw [plainB_pj]
  congr 1
  split
  · congr 1
    congr 1
    funext x
    exact fieldsAre_pj x.2 fs
  · rfl
theorem encV_pj (h : Hd) (fs : List Hd) : encV (pj h) (fs.map pj) = encV h fs := by
  unfold encV encR
  rw [List.flatMap_map]; rfl
structure WF (v : VT 3) : Prop where
  n : v.1.n = v.2.length
  c : ∀ u ∈ v.2, (hdT 2 u).n = u.2.length
def can (v : VT 3) : VT 3 := toT 3 (ofT 3 v)
theorem can_hd (v : VT 3) (h : v.1.n = v.2.length) : (can v).1 = pj v.1 := by
  show (⟨v.1.kind, v.1.int, v.1.text, v.1.rc, none, (v.2.map (ofT 2)).length, (v.2.map (ofT 2)).length⟩ : Hd) = pj v.1
  rw [List.length_map, ← h]; rfl
theorem can_fs (v : VT 3) (h : ∀ u ∈ v.2, (hdT 2 u).n = u.2.length) : (can v).2.map (hdT 2) = (v.2.map (hdT 2)).map pj := by
  show ((v.2.map (ofT 2)).map (toT 2)).map (hdT 2) = (v.2.map (hdT 2)).map pj
  rw [List.map_map, List.map_map, List.map_map]
  refine List.map_congr_left (fun u hu => ?_)
  show (⟨u.1.kind, u.1.int, u.1.text, u.1.rc, none, (u.2.map (ofT 1)).length, (u.2.map (ofT 1)).length⟩ : Hd) = pj u.1
  rw [List.length_map, ← h u hu]; rfl
theorem isV_can (p : Pg) (t : TyP) (v : VT 3) (h : WF v) : isV 1 p t (can v) = isV 1 p t v := by
  show isB p t (can v).1 ((can v).2.map (hdT 2)) = isB p t v.1 (v.2.map (hdT 2))
  rw [can_hd v h.n, can_fs v h.c, isB_pj]
theorem encW_can (v : VT 3) (h : WF v) : encW 1 (can v) = encW 1 v := by
  show encV (can v).1 ((can v).2.map (hdT 2)) = encV v.1 (v.2.map (hdT 2))
  rw [can_hd v h.n, can_fs v h.c, encV_pj]
theorem cmp_can (s t : VT 3) : cmpT 3 (can s) (can t) = cmpT 3 s t := by
  unfold can
  rw [← cmpC_of, of_toT, of_toT, cmpC_of]
def canP (q : VT 3 × VT 3) : VT 3 × VT 3 := (can q.1, can q.2)
def WFr (r : Rw 3) : Prop := ∀ q ∈ r, WF q.1 ∧ WF q.2
def WFs (rows : List (Rw 3)) : Prop := ∀ r ∈ rows, WFr r
theorem entV_can (p : Pg) (m : Mp) (row : Rw 3) (h : WFr row) (i : Nat) : entV 1 p m (row.map canP) i = entV 1 p m row i := by
  unfold entV
  rw [List.getElem?_map]
  cases h1 : row[i]? with
  | none => rfl
  | some q =>
    have hq := h q (List.mem_of_getElem? h1)
    simp only [Option.map_some, canP, isV_can _ _ _ hq.1, isV_can _ _ _ hq.2]
    rw [List.getElem?_map]
    cases h2 : row[i - 1]? with
    | none => rfl
    | some o =>
      simp only [Option.map_some, canP]
      rw [show cmpT (1 + 2) (can o.1) (can q.1) = cmpT (1 + 2) o.1 q.1 from cmp_can _ _]
theorem mapV_can (p : Pg) (m : Mp) (row : Rw 3) (h : WFr row) : mapV 1 p m (row.map canP) = mapV 1 p m row := by
  unfold mapV
  rw [List.length_map]
  congr 1
  exact congrArg (fun f => (List.range row.length).all f) (funext (entV_can p m row h))
theorem stV_can (p : Pg) (rows : List (Rw 3)) (h : WFs rows) : stV 1 p (rows.map fun r => r.map canP) = stV 1 p rows := by
  unfold stV
  rw [List.length_map]
  congr 1
  refine congrArg (fun f => (List.range p.maps.length).all f) (funext fun i => ?_)
  unfold mpV
  rw [List.getElem?_map]
  cases h1 : p.maps[i]? with
  | none => rfl
  | some m =>
    cases h2 : rows[i]? with
    | none => rfl
    | some r => simp only [Option.map_some, mapV_can p m r (h r (List.mem_of_getElem? h2))]
theorem encN_can (q : VT 3 × VT 3) (h : WF q.1 ∧ WF q.2) : encN 1 (canP q) = encN 1 q := by
  unfold encN canP
  simp only
  rw [encW_can _ h.1, encW_can _ h.2]
theorem flat_can : ∀ (r : Rw 3), WFr r → (r.map canP).flatMap (encN 1) = r.flatMap (encN 1)
  | [], _ => rfl
  | q :: r, h => by
    rw [List.map_cons, List.flatMap_cons, List.flatMap_cons, encN_can q (h q (List.mem_cons_self ..)), flat_can r (fun q hq => h q (List.mem_cons_of_mem _ hq))]
theorem encRw_can (r : Rw 3) (h : WFr r) : encRw 1 (r.map canP) = encRw 1 r := by
  unfold encRw
  rw [List.length_map, flat_can r h]
theorem encSt_can : ∀ (rows : List (Rw 3)), WFs rows → encSt 1 (rows.map fun r => r.map canP) = encSt 1 rows
  | [], _ => rfl
  | r :: rows, h => by
    have ih := encSt_can rows (fun r hr => h r (List.mem_cons_of_mem _ hr))
    unfold encSt at ih ⊢
    rw [List.map_cons, List.flatMap_cons, List.flatMap_cons, encRw_can r (h r (List.mem_cons_self ..)), ih]
/- What a state holds tells its bytes, and whether it is one. -/
def ctS (rows : List (Rw 3)) : List (RC 3) := rows.map (rowC 3)
def toS (C : List (RC 3)) : List (Rw 3) := C.map fun r => r.map fun c => (toT 3 c.1, toT 3 c.2)
theorem toS_ct (rows : List (Rw 3)) : toS (ctS rows) = rows.map fun r => r.map canP := by
  unfold toS ctS
  rw [List.map_map]
  refine List.map_congr_left (fun r _ => ?_)
  show ((r.map (ofP 3)).map fun c => (toT 3 c.1, toT 3 c.2)) = r.map canP
  rw [List.map_map]; rfl
theorem enc_ct {rows rows' : List (Rw 3)} (h : WFs rows) (h' : WFs rows') (e : ctS rows = ctS rows') : encSt 1 rows = encSt 1 rows' := by
  rw [← encSt_can rows h, ← encSt_can rows' h', ← toS_ct, ← toS_ct, e]
theorem stV_ct {p : Pg} {rows rows' : List (Rw 3)} (h : WFs rows) (h' : WFs rows') (e : ctS rows = ctS rows') : stV 1 p rows = stV 1 p rows' := by
  rw [← stV_can p rows h, ← stV_can p rows' h', ← toS_ct, ← toS_ct, e]
theorem Rds.wf {w : World} {v : VT 3} (h : Rds 3 w v) : WF v := ⟨h.2.1, fun u hu => (h.2.2.2.2 u hu).2.1⟩
theorem StR.wf {w : World} {a : Option Addr} {n : Nat} {ms : List (Sl × Rw 3)} (h : StR 3 w a n ms) : WFs (ms.map (·.2)) := fun r hr q hq => by
  simp only [List.mem_map] at hr
  obtain ⟨m, hm, rfl⟩ := hr
  exact ⟨((h.el m hm).1.el q hq).1.wf, ((h.el m hm).1.el q hq).2.wf⟩
/- Back: what was read has just these bytes. -/
end Go.Proofs.Ytenfgahedbeekaa

