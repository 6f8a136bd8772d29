/- heap.isMap. -/
import Derived.Test.YtenfgahedbeekaaJAR
import Derived.BigQuiet
namespace Go.Proofs.Ytenfgahedbeekaa
open Go.RowKit Go.Deep Go.Shelf
set_option linter.unusedVariables false
set_option linter.unusedSimpArgs false

/- Whether a tree of values is of a type. -/
def isV (k : Nat) (p : Pg) (t : TyP) (v : VT (k + 2)) : Bool := isB p t v.1 (v.2.map (hdT (k + 1)))
theorem isV_any (k : Nat) (w : World) (g : PH) (p : Pg) (d : PRd w g p) (a r : Int) (v : VT (k + 2)) (hv : Rds (k + 2) w v) :
    Calls Try.prog 80 #[g.v, ty a r, (hdT (k + 2) v).v] w fun e w' => e = .returned (.bool (isV k p (a, r) v)) ∧ Below w.heap.size w w' :=
  is_any w g p d a r v.1 (v.2.map (hdT (k + 1))) hv.1 (by rw [List.length_map]; exact hv.2.1) hv.2.2.2.1 (fun f hf => by
    simp only [List.mem_map] at hf
    obtain ⟨u, hu, rfl⟩ := hf
    exact (hv.2.2.2.2 u hu).1)
/- Whether an entry may stand where it does. -/
def entV (k : Nat) (p : Pg) (m : Mp) (row : Rw (k + 2)) (i : Nat) : Bool :=
  match row[i]? with
  | none => true
  | some q => isV k p m.key q.1 && isV k p m.val q.2 && (decide (i = 0) || ((row[i - 1]?).map fun o => decide (cmpT (k + 2) o.1 q.1 < 0)).getD true)
def mapV (k : Nat) (p : Pg) (m : Mp) (row : Rw (k + 2)) : Bool := decide (row.length ≤ 24) && (List.range row.length).all (entV k p m row)
theorem mapV_no {k : Nat} {p : Pg} {m : Mp} {row : Rw (k + 2)} {i : Nat} (hi : i < row.length) (h : entV k p m row i = false) : mapV k p m row = false := by
  unfold mapV
  have : (List.range row.length).all (entV k p m row) = false := by
    rw [List.all_eq_false]
    exact ⟨i, List.mem_range.2 hi, by simp [h]⟩
  rw [this]
  simp
theorem mapV_yes {k : Nat} {p : Pg} {m : Mp} {row : Rw (k + 2)} (hl : row.length ≤ 24) (h : ∀ i, i < row.length → entV k p m row i = true) : mapV k p m row = true := by
  unfold mapV
  have : (List.range row.length).all (entV k p m row) = true := by
    rw [List.all_eq_true]
    exact fun i hi => h i (List.mem_range.1 hi)
  rw [this]
  simp [hl]
def mtV (m : Mp) : Value := .agg #[.string m.name, .int .i64 m.key.1, .int .i64 m.key.2, .int .i64 m.val.1, .int .i64 m.val.2]
set_option maxRecDepth 100000 in
set_option maxHeartbeats 2000000 in
theorem isMap_any (k : Nat) (w : World) (g : PH) (p : Pg) (d : PRd w g p) (m : Mp) (a : Option Addr) (n cap : Nat) (row : Rw (k + 2)) (hr : RwR (k + 2) w a n row) :
    Calls Try.prog 53 #[g.v, mtV m, .slice a n cap] w fun e w' => e = .returned (.bool (mapV k p m row)) ∧ Below w.heap.size w w' := by
  have Hn := hid hr.n1
  have hle := hr.n2
  have hle2 : (n : Int) ≤ 1000 := by omega
  have hn0 : (0 : Int) ≤ (n : Int) := by omega
  have R := hid hr
  have K80 := hid (fun (w1 : World) (hb : Below w.heap.size w w1) (x y : Int) (v : VT (k + 2)) (hv : Rds (k + 2) w1 v) => isV_any k w1 g p (d.below (Nat.le_refl _) hb) x y v hv)
  obtain ⟨ra, rn, rc, ma, mn, mc, fa, fn, fc, ea, en, ec⟩ := g
  obtain ⟨nm, ⟨k1, k2⟩, ⟨v1, v2⟩⟩ := m
  simp only [PH.v, mtV, ty] at K80 ⊢
  clear d hr
  obtain ⟨W0, hW0⟩ : ∃ W0, W0 = (w.alloc (.cells #[.slice ra rn rc, .slice ma mn mc, .slice fa fn fc, .slice ea en ec] 50)).alloc (.cells #[.string nm, .int .i64 k1, .int .i64 k2, .int .i64 v1, .int .i64 v2] 75) := ⟨_, rfl⟩
  have q1 : W0.heap[w.heap.size]? = some (.cells #[.slice ra rn rc, .slice ma mn mc, .slice fa fn fc, .slice ea en ec] 50 (0, 0)) := by rw [hW0]; exact (Below.heap_alloc _ _ _ (by simp)).trans (heap_alloc_new w _)
  have q2 : W0.heap[w.heap.size + 1]? = some (.cells #[.string nm, .int .i64 k1, .int .i64 k2, .int .i64 v1, .int .i64 v2] 75 (0, 0)) := by
    have := heap_alloc_new (w.alloc (.cells #[.slice ra rn rc, .slice ma mn mc, .slice fa fn fc, .slice ea en ec] 50)) (.cells #[.string nm, .int .i64 k1, .int .i64 k2, .int .i64 v1, .int .i64 v2] 75)
    rw [World.size_alloc] at this
    rw [hW0]; exact this
  have hb0 : Below w.heap.size w W0 := by rw [hW0]; exact boxes2 _ _ _ _ _
  have FX : Hid (∀ w2 : World, Below W0.heap.size W0 w2 → (w2.cell? ⟨w.heap.size, 0, none⟩ = some (.slice ra rn rc) ∧ w2.cell? ⟨w.heap.size, 1, none⟩ = some (.slice ma mn mc) ∧ w2.cell? ⟨w.heap.size, 2, none⟩ = some (.slice fa fn fc) ∧ w2.cell? ⟨w.heap.size, 3, none⟩ = some (.slice ea en ec) ∧ w2.cell? ⟨w.heap.size + 1, 1, none⟩ = some (.int .i64 k1) ∧ w2.cell? ⟨w.heap.size + 1, 2, none⟩ = some (.int .i64 k2) ∧ w2.cell? ⟨w.heap.size + 1, 3, none⟩ = some (.int .i64 v1) ∧ w2.cell? ⟨w.heap.size + 1, 4, none⟩ = some (.int .i64 v2)) ∧ Below w.heap.size w w2) := hid (fun w2 hb => by
    have bx := (hb.block _ (Array.getElem?_eq_some_iff.1 q1).1).trans q1
    have bz := (hb.block _ (Array.getElem?_eq_some_iff.1 q2).1).trans q2
    exact ⟨⟨cellOf bx 0, cellOf bx 1, cellOf bx 2, cellOf bx 3, cellOf bz 1, cellOf bz 2, cellOf bz 3, cellOf bz 4⟩, hb0.trans (hb.mono hb0.size)⟩)
  have TR : Hid (∀ {Z x y : World}, Below Z.heap.size Z x → Below x.heap.size x y → Below Z.heap.size Z y) := hid (fun h1 h2 => h1.trans (h2.mono h1.size))
  have HB0 := hid hb0
  clear q1 q2 hb0
  by_cases h24 : 24 < n
  · have h24' : (24 : Int) < (n : Int) := by omega
    have HF : Hid (mapV k p ⟨nm, (k1, k2), (v1, v2)⟩ row = false) := hid (by unfold mapV; rw [decide_eq_false (by rw [← Hn.out]; omega)]; rfl)
    go_enter Try.func53, Try.ntmps53
    go_wp2
    rw [← hW0]
    go_ret
    exact ⟨by rw [HF.out]; rfl, HB0.out⟩
  · have h24' : ¬ (24 : Int) < (n : Int) := by omega
    go_enter Try.func53, Try.ntmps53
    go_wp2
    rw [← hW0]
    clear hW0
    go_loopg [14] n (fun gg ii wr => ∃ i : Nat, i + gg = n ∧ ii = .int .i64 (i : Int) ∧ Below W0.heap.size W0 wr ∧ ∀ j, j < i → entV k p ⟨nm, (k1, k2), (v1, v2)⟩ row j = true)
    case atStart => exact ⟨0, by omega, rfl, Below.refl _ _, fun j hj => by omega⟩
    case round =>
      obtain ⟨i, hi', rfl, hbr, hacc⟩ := hrel
      have Hbr := hid hbr
      have Hacc := hid hacc
      clear hacc
      cases gk with
      | zero =>
        have hin2 : i = n := by omega
        subst hin2
        clear hi' hbr
        have HT : Hid (mapV k p ⟨nm, (k1, k2), (v1, v2)⟩ row = true) := hid (mapV_yes (by rw [← Hn.out]; omega) (by rw [← Hn.out]; exact Hacc.out))
        go_wp2
        go_ret
        exact ⟨by rw [HT.out]; rfl, (FX.out _ Hbr.out).2⟩
      | succ gi =>
        have hlt0 : i < n := by omega
        have hlt : (i : Int) < (n : Int) := by omega
        have hi00 : (0 : Int) ≤ (i : Int) := by omega
        have Hi := hid hi'
        obtain ⟨q, hq⟩ : ∃ q, row[i]? = some q := ⟨row[i]'(by rw [← Hn.out]; exact hlt0), List.getElem?_eq_getElem _⟩
        have Hq := hid hq
        obtain ⟨⟨f0, f1, f2, f3, f4, f5, f6, f7⟩, hbw⟩ := FX.out wr hbr
        have hR := R.out.below (Nat.le_refl _) hbw
        obtain ⟨b1, o1, ea', dh⟩ := hR.rd i (enT (k + 2) q) (by rw [List.getElem?_map, hq]; rfl)
        subst ea'
        have HK : Hid (∀ W', Below W0.heap.size W0 W' → Rds (k + 2) W' q.1 ∧ Rds (k + 2) W' q.2) := hid (fun W' hb => (R.out.below (Nat.le_refl _) (FX.out W' hb).2).el q (List.mem_of_getElem? Hq.out))
        have C1 := hid (fun (W' : World) (hb : Below W0.heap.size W0 W') => K80.out W' (FX.out W' hb).2 k1 k2 q.1 (HK.out W' hb).1)
        have C2 := hid (fun (W' : World) (hb : Below W0.heap.size W0 W') => K80.out W' (FX.out W' hb).2 v1 v2 q.2 (HK.out W' hb).2)
        have d0 := dh 0 (by omega)
        have d1 := dh 1 (by omega)
        have d2 := dh 2 (by omega)
        have d3 := dh 3 (by omega)
        have d4 := dh 4 (by omega)
        have d5 := dh 5 (by omega)
        have d6 := dh 6 (by omega)
        have d7 := dh 7 (by omega)
        have d8 := dh 8 (by omega)
        have d9 := dh 9 (by omega)
        simp only [En.cs, enT, List.getElem?_cons_zero, List.getElem?_cons_succ, Nat.add_zero] at d0 d1 d2 d3 d4 d5 d6 d7 d8 d9
        have HE : Hid (entV k p ⟨nm, (k1, k2), (v1, v2)⟩ row i = (isV k p (k1, k2) q.1 && isV k p (v1, v2) q.2 && (decide (i = 0) || ((row[i - 1]?).map fun o => decide (cmpT (k + 2) o.1 q.1 < 0)).getD true))) := hid (by unfold entV; rw [Hq.out])
        have HNO : Hid (entV k p ⟨nm, (k1, k2), (v1, v2)⟩ row i = false → mapV k p ⟨nm, (k1, k2), (v1, v2)⟩ row = false) := hid (fun h => mapV_no (by rw [← Hn.out]; exact hlt0) h)
        have PV : Hid (∀ (o : VT (k + 2) × VT (k + 2)), row[i - 1]? = some o → ∀ W', Below W0.heap.size W0 W' → Calls Try.prog 47 #[(hdT (k + 2) o.1).v, (hdT (k + 2) q.1).v] W' fun e w' => e = .returned (.int .i64 (cmpT (k + 2) o.1 q.1)) ∧ Below W'.heap.size W' w') := hid (fun o ho W' hb => compare_any (k + 2) W' o.1 q.1 (((R.out.below (Nat.le_refl _) (FX.out W' hb).2).el o (List.mem_of_getElem? ho)).1) (HK.out W' hb).1)
        obtain ⟨E1, hE1⟩ : ∃ E, E = isV k p (k1, k2) q.1 := ⟨_, rfl⟩
        obtain ⟨E2, hE2⟩ : ∃ E, E = isV k p (v1, v2) q.2 := ⟨_, rfl⟩
        rw [← hE1] at C1 HE
        rw [← hE2] at C2 HE
        clear hE1 hE2 hR hbw dh hi' hq K80
        obtain ⟨hq1, ehq1⟩ : ∃ h, h = hdT (k + 2) q.1 := ⟨_, rfl⟩
        have HQ1 := hid ehq1
        rw [← ehq1] at C1 PV d0 d1 d2 d3 d4
        clear ehq1
        generalize hdT (k + 2) q.2 = hq2 at *
        obtain ⟨xk, xi, xt, xr, xa, xn, xc⟩ := hq1
        obtain ⟨yk, yi, yt, yr, ya, yn, yc⟩ := hq2
        simp only [Hd.v] at C1 C2 PV d0 d1 d2 d3 d4 d5 d6 d7 d8 d9
        obtain ⟨W1, hW1⟩ : ∃ W1, W1 = wr.alloc (.cells #[.int .i64 xk, .int .i64 xi, .string xt, .int .i64 xr, .slice xa xn xc, .int .i64 yk, .int .i64 yi, .string yt, .int .i64 yr, .slice ya yn yc] 81) := ⟨_, rfl⟩
        have n1 : W1.heap[wr.heap.size]? = some (.cells #[.int .i64 xk, .int .i64 xi, .string xt, .int .i64 xr, .slice xa xn xc, .int .i64 yk, .int .i64 yi, .string yt, .int .i64 yr, .slice ya yn yc] 81 (0, 0)) := by rw [hW1]; exact heap_alloc_new wr _
        have b1' : Below wr.heap.size wr W1 := by rw [hW1]; exact (Below.refl _ wr).alloc (Nat.le_refl _) _
        have B1 := hid (TR.out Hbr.out b1')
        have FY : Hid (∀ w2 : World, Below W1.heap.size W1 w2 → (w2.cell? ⟨wr.heap.size, 0, none⟩ = some (.int .i64 xk) ∧ w2.cell? ⟨wr.heap.size, 1, none⟩ = some (.int .i64 xi) ∧ w2.cell? ⟨wr.heap.size, 2, none⟩ = some (.string xt) ∧ w2.cell? ⟨wr.heap.size, 3, none⟩ = some (.int .i64 xr) ∧ w2.cell? ⟨wr.heap.size, 4, none⟩ = some (.slice xa xn xc) ∧ w2.cell? ⟨wr.heap.size, 5, none⟩ = some (.int .i64 yk) ∧ w2.cell? ⟨wr.heap.size, 6, none⟩ = some (.int .i64 yi) ∧ w2.cell? ⟨wr.heap.size, 7, none⟩ = some (.string yt) ∧ w2.cell? ⟨wr.heap.size, 8, none⟩ = some (.int .i64 yr) ∧ w2.cell? ⟨wr.heap.size, 9, none⟩ = some (.slice ya yn yc))) := hid (fun w2 hb => by
          have bx := (hb.block _ (Array.getElem?_eq_some_iff.1 n1).1).trans n1
          exact ⟨cellOf bx 0, cellOf bx 1, cellOf bx 2, cellOf bx 3, cellOf bx 4, cellOf bx 5, cellOf bx 6, cellOf bx 7, cellOf bx 8, cellOf bx 9⟩)
        clear n1 b1' f0 f1 f2 f3 f4 f5 f6 f7
        go_upto_region 6 with fail
        rw [← hW1]
        clear hW1 d0 d1 d2 d3 d4 d5 d6 d7 d8 d9
        obtain ⟨⟨f0, f1, f2, f3, f4, f5, f6, f7⟩, _⟩ := FX.out W1 B1.out
        obtain ⟨y0, y1, y2, y3, y4, y5, y6, y7, y8, y9⟩ := FY.out W1 (Below.refl _ _)
        cases E1 with
        | false =>
          have HF := hid (HNO.out (by rw [HE.out]; rfl))
          go_wp2_with (go_at_call 80; (refine (C1.out _ B1.out).mono ?_; rintro e w2 ⟨rfl, hb2⟩; have B2 := hid (TR.out B1.out hb2); clear hb2))
          go_ret
          exact ⟨by rw [HF.out]; rfl, (FX.out _ B2.out).2⟩
        | true =>
          cases E2 with
          | false =>
            have HF := hid (HNO.out (by rw [HE.out]; rfl))
            go_wp2_with (first
              | (go_at_call 80; (refine (C1.out _ B1.out).mono ?_; rintro e w2 ⟨rfl, hb2⟩; have B2 := hid (TR.out B1.out hb2); have H2 := hid hb2; clear hb2 C1 f0 f1 f2 f3 f4 f5 f6 f7 y0 y1 y2 y3 y4 y5 y6 y7 y8 y9; obtain ⟨⟨f0, f1, f2, f3, f4, f5, f6, f7⟩, _⟩ := FX.out w2 B2.out; obtain ⟨y0, y1, y2, y3, y4, y5, y6, y7, y8, y9⟩ := FY.out w2 H2.out))
              | (go_at_call 80; (refine (C2.out _ B2.out).mono ?_; rintro e w3 ⟨rfl, hb3⟩; have B3 := hid (TR.out B2.out hb3); clear hb3)))
            go_ret
            exact ⟨by rw [HF.out]; rfl, (FX.out _ B3.out).2⟩
          | true =>
            go_upto_region 8 with (first
              | (go_at_call 80; (refine (C1.out _ B1.out).mono ?_; rintro e w2 ⟨rfl, hb2⟩; have B2 := hid (TR.out B1.out hb2); have H2 := hid hb2; clear hb2 C1 f0 f1 f2 f3 f4 f5 f6 f7 y0 y1 y2 y3 y4 y5 y6 y7 y8 y9; obtain ⟨⟨f0, f1, f2, f3, f4, f5, f6, f7⟩, _⟩ := FX.out w2 B2.out; obtain ⟨y0, y1, y2, y3, y4, y5, y6, y7, y8, y9⟩ := FY.out w2 H2.out))
              | (go_at_call 80; (refine (C2.out _ B2.out).mono ?_; rintro e w3 ⟨rfl, hb3⟩; have B3 := hid (TR.out B2.out hb3); have H3 := hid (TR.out H2.out hb3); clear hb3 f0 f1 f2 f3 f4 f5 f6 f7 y0 y1 y2 y3 y4 y5 y6 y7 y8 y9)))
            by_cases hi0 : i = 0
            · subst hi0
              have HT := hid (show entV k p ⟨nm, (k1, k2), (v1, v2)⟩ row 0 = true from by rw [HE.out]; rfl)
              go_quiet (fail)
              go_wp2
              go_roundg gi
              case measure => omega
              case rel => exact ⟨1, by have := Hi.out; omega, rfl, B3.out.trans ⟨rfl, rfl, rfl, Nat.le_refl _, fun _ _ => rfl⟩, fun j hj => by
                obtain rfl : j = 0 := by omega
                exact HT.out⟩
            · obtain ⟨i0, hi0'⟩ : ∃ i0, i0 = i - 1 := ⟨_, rfl⟩
              have Hi0 := hid hi0'
              have hsub : IntKind.i64.wrap ((i : Int) - 1) = (i0 : Int) := by rw [IntKind.wrap_i64]; omega
              have hgt : (0 : Int) < (i : Int) := by omega
              have hgtb : decide (0 < i) = true := decide_eq_true (by omega)
              have hs0 : (0 : Int) ≤ (i0 : Int) := by omega
              have hs1 : (i0 : Int) < (n : Int) := by omega
              have hs2 : i0 < n := by omega
              clear hi0'
              obtain ⟨o, ho⟩ : ∃ o, row[i0]? = some o := ⟨row[i0]'(by rw [← Hn.out]; exact hs2), List.getElem?_eq_getElem _⟩
              have CP := hid (PV.out o (by rw [← Hi0.out]; exact ho))
              obtain ⟨b2, o2, ea2, gh⟩ := (R.out.below (Nat.le_refl _) (FX.out w3 B3.out).2).rd i0 (enT (k + 2) o) (by rw [List.getElem?_map, ho]; rfl)
              cases ea2
              have z0 := gh 0 (by omega)
              have z1 := gh 1 (by omega)
              have z2 := gh 2 (by omega)
              have z3 := gh 3 (by omega)
              have z4 := gh 4 (by omega)
              simp only [En.cs, enT, List.getElem?_cons_zero, List.getElem?_cons_succ, Nat.add_zero] at z0 z1 z2 z3 z4
              have HE2 : Hid (entV k p ⟨nm, (k1, k2), (v1, v2)⟩ row i = decide (cmpT (k + 2) o.1 q.1 < 0)) := hid (by rw [HE.out, ← Hi0.out, ho, decide_eq_false hi0]; simp)
              obtain ⟨cv, hcv⟩ : ∃ cv, cv = cmpT (k + 2) o.1 q.1 := ⟨_, rfl⟩
              rw [← hcv] at CP HE2
              clear hcv gh ho PV
              generalize hdT (k + 2) o.1 = ho1 at *
              obtain ⟨zk, zi, zt, zr, za, zn, zc⟩ := ho1
              simp only [Hd.v] at CP z0 z1 z2 z3 z4
              obtain ⟨y0, y1, y2, y3, y4, _⟩ := FY.out w3 H3.out
              have SE : Hid (∀ W' : World, Below W0.heap.size W0 W' → Below w3.heap.size w3 W' → (W'.cell? ⟨b1, o1 + i0 * 10, none⟩ = some (.int .i64 zk) ∧ W'.cell? ⟨b1, o1 + i0 * 10 + 1, none⟩ = some (.int .i64 zi) ∧ W'.cell? ⟨b1, o1 + i0 * 10 + 2, none⟩ = some (.string zt) ∧ W'.cell? ⟨b1, o1 + i0 * 10 + 3, none⟩ = some (.int .i64 zr) ∧ W'.cell? ⟨b1, o1 + i0 * 10 + 4, none⟩ = some (.slice za zn zc) ∧ W'.cell? ⟨wr.heap.size, 0, none⟩ = some (.int .i64 xk) ∧ W'.cell? ⟨wr.heap.size, 1, none⟩ = some (.int .i64 xi) ∧ W'.cell? ⟨wr.heap.size, 2, none⟩ = some (.string xt) ∧ W'.cell? ⟨wr.heap.size, 3, none⟩ = some (.int .i64 xr) ∧ W'.cell? ⟨wr.heap.size, 4, none⟩ = some (.slice xa xn xc))) := hid (fun W' _ hb => by
                have ge : ∀ (p : Addr) (v : Value), w3.cell? p = some v → W'.cell? p = some v := fun p v e => (hb.cell (World.block_lt_of_cell? w3 _ e)).trans e
                exact ⟨ge _ _ z0, ge _ _ z1, ge _ _ z2, ge _ _ z3, ge _ _ z4, ge _ _ y0, ge _ _ y1, ge _ _ y2, ge _ _ y3, ge _ _ y4⟩)
              have R3 := hid ((Below.refl w3.heap.size w3).drew)
              have D3 := hid B3.out.drew
              by_cases hc : cv < 0
              · have hc' : ¬ (0 ≤ cv) := by omega
                have HT := hid (show entV k p ⟨nm, (k1, k2), (v1, v2)⟩ row i = true from by rw [HE2.out]; exact decide_eq_true hc)
                go_region_held3 (fun W' => W'.cell? ⟨b1, o1 + i0 * 10, none⟩ = some (.int .i64 zk) ∧ W'.cell? ⟨b1, o1 + i0 * 10 + 1, none⟩ = some (.int .i64 zi) ∧ W'.cell? ⟨b1, o1 + i0 * 10 + 2, none⟩ = some (.string zt) ∧ W'.cell? ⟨b1, o1 + i0 * 10 + 3, none⟩ = some (.int .i64 zr) ∧ W'.cell? ⟨b1, o1 + i0 * 10 + 4, none⟩ = some (.slice za zn zc) ∧ W'.cell? ⟨wr.heap.size, 0, none⟩ = some (.int .i64 xk) ∧ W'.cell? ⟨wr.heap.size, 1, none⟩ = some (.int .i64 xi) ∧ W'.cell? ⟨wr.heap.size, 2, none⟩ = some (.string xt) ∧ W'.cell? ⟨wr.heap.size, 3, none⟩ = some (.int .i64 xr) ∧ W'.cell? ⟨wr.heap.size, 4, none⟩ = some (.slice xa xn xc)) (first | with_reducible exact SE.out _ D3.out R3.out | with_reducible exact SE.out _ D4.out R4.out | go_keep) ((first
                  | (go_at_call 47; (refine (CP.out _ D3.out).mono ?_; rintro e w4 ⟨rfl, hb4⟩; have D4 := hid (TR.out D3.out hb4); have R4 := hid (TR.out R3.out hb4); clear hb4))))
                go_wp2
                go_roundg gi
                case measure => omega
                case rel => exact ⟨i + 1, by have := Hi.out; omega, by go_num, D4.out, fun j hj => by
                  rcases Nat.lt_or_ge j i with h | h
                  · exact Hacc.out j h
                  · obtain rfl : j = i := by omega
                    exact HT.out⟩
              · have hc' : 0 ≤ cv := by omega
                have HF := hid (HNO.out (by rw [HE2.out]; exact decide_eq_false hc))
                go_region_held3 (fun W' => W'.cell? ⟨b1, o1 + i0 * 10, none⟩ = some (.int .i64 zk) ∧ W'.cell? ⟨b1, o1 + i0 * 10 + 1, none⟩ = some (.int .i64 zi) ∧ W'.cell? ⟨b1, o1 + i0 * 10 + 2, none⟩ = some (.string zt) ∧ W'.cell? ⟨b1, o1 + i0 * 10 + 3, none⟩ = some (.int .i64 zr) ∧ W'.cell? ⟨b1, o1 + i0 * 10 + 4, none⟩ = some (.slice za zn zc) ∧ W'.cell? ⟨wr.heap.size, 0, none⟩ = some (.int .i64 xk) ∧ W'.cell? ⟨wr.heap.size, 1, none⟩ = some (.int .i64 xi) ∧ W'.cell? ⟨wr.heap.size, 2, none⟩ = some (.string xt) ∧ W'.cell? ⟨wr.heap.size, 3, none⟩ = some (.int .i64 xr) ∧ W'.cell? ⟨wr.heap.size, 4, none⟩ = some (.slice xa xn xc)) (first | with_reducible exact SE.out _ D3.out R3.out | with_reducible exact SE.out _ D4.out R4.out | go_keep) ((first
                  | (go_at_call 47; (refine (CP.out _ D3.out).mono ?_; rintro e w4 ⟨rfl, hb4⟩; have D4 := hid (TR.out D3.out hb4); have R4 := hid (TR.out R3.out hb4); clear hb4))))
                go_wp2
                go_ret
                exact ⟨by rw [HF.out]; rfl, (FX.out _ D4.out).2⟩
end Go.Proofs.Ytenfgahedbeekaa

namespace Go.Proofs.Ytenfgahedbeekaa
open Go.RowKit Go.Deep Go.Shelf
set_option linter.unusedVariables false
set_option linter.unusedSimpArgs false

def mpV (k : Nat) (p : Pg) (rows : List (Rw (k + 2))) (i : Nat) : Bool :=
  match p.maps[i]?, rows[i]? with
  | some m, some r => mapV k p m r
  | _, _ => true
def stV (k : Nat) (p : Pg) (rows : List (Rw (k + 2))) : Bool := rightB p && decide (rows.length = p.maps.length) && (List.range p.maps.length).all (mpV k p rows)
set_option maxRecDepth 100000 in
set_option maxHeartbeats 2000000 in
theorem heapIs_any (k : Nat) (w : World) (g : PH) (p : Pg) (d : PRd w g p) (sa : Option Addr) (sn sc : Nat) (ms : List (Sl × Rw (k + 2))) (hs : StR (k + 2) w sa sn ms) :
    Calls Try.prog 29 #[g.v, .agg #[.slice sa sn sc]] w fun e w' => e = .returned (.bool (stV k p (ms.map (·.2)))) ∧ Below w.heap.size w w' := by
  have Hs := hid hs.n1
  have hle := hs.n2
  have hle2 : (sn : Int) ≤ 1000 := by omega
  have hn0 : (0 : Int) ≤ (sn : Int) := by omega
  have R := hid hs
  have Hm := hid d.m.n1
  have hm2 := d.m.n2
  have DM := hid d.m
  have K51 := hid (fun (w1 : World) (hb : Below w.heap.size w w1) => right_any w1 g p (d.below (Nat.le_refl _) hb))
  have K53 := hid (fun (w1 : World) (hb : Below w.heap.size w w1) (m : Mp) (a : Option Addr) (n cap : Nat) (row : Rw (k + 2)) (hr : RwR (k + 2) w1 a n row) => isMap_any k w1 g p (d.below (Nat.le_refl _) hb) m a n cap row hr)
  obtain ⟨ra, rn, rc, ma, mn, mc, fa, fn, fc, ea, en, ec⟩ := g
  simp only [PH.v] at K51 K53 Hm hm2 DM ⊢
  have hmI : (mn : Int) ≤ 9223372036854775807 := by omega
  clear d hs
  obtain ⟨W0, hW0⟩ : ∃ W0, W0 = (w.alloc (.cells #[.slice ra rn rc, .slice ma mn mc, .slice fa fn fc, .slice ea en ec] 50)).alloc (.cells #[.slice sa sn sc] 27) := ⟨_, rfl⟩
  have q1 : W0.heap[w.heap.size]? = some (.cells #[.slice ra rn rc, .slice ma mn mc, .slice fa fn fc, .slice ea en ec] 50 (0, 0)) := by rw [hW0]; exact (Below.heap_alloc _ _ _ (by simp)).trans (heap_alloc_new w _)
  have q2 : W0.heap[w.heap.size + 1]? = some (.cells #[.slice sa sn sc] 27 (0, 0)) := by
    have := heap_alloc_new (w.alloc (.cells #[.slice ra rn rc, .slice ma mn mc, .slice fa fn fc, .slice ea en ec] 50)) (.cells #[.slice sa sn sc] 27)
    rw [World.size_alloc] at this
    rw [hW0]; exact this
  have hb0 : Below w.heap.size w W0 := by rw [hW0]; exact boxes2 _ _ _ _ _
  have FX : Hid (∀ w2 : World, Below W0.heap.size W0 w2 → (w2.cell? ⟨w.heap.size, 0, none⟩ = some (.slice ra rn rc) ∧ w2.cell? ⟨w.heap.size, 1, none⟩ = some (.slice ma mn mc) ∧ w2.cell? ⟨w.heap.size, 2, none⟩ = some (.slice fa fn fc) ∧ w2.cell? ⟨w.heap.size, 3, none⟩ = some (.slice ea en ec) ∧ w2.cell? ⟨w.heap.size + 1, 0, none⟩ = some (.slice sa sn sc)) ∧ Below w.heap.size w w2) := hid (fun w2 hb => by
    have bx := (hb.block _ (Array.getElem?_eq_some_iff.1 q1).1).trans q1
    have bz := (hb.block _ (Array.getElem?_eq_some_iff.1 q2).1).trans q2
    exact ⟨⟨cellOf bx 0, cellOf bx 1, cellOf bx 2, cellOf bx 3, cellOf bz 0⟩, hb0.trans (hb.mono hb0.size)⟩)
  have TR : Hid (∀ {Z x y : World}, Below Z.heap.size Z x → Below x.heap.size x y → Below Z.heap.size Z y) := hid (fun h1 h2 => h1.trans (h2.mono h1.size))
  have HB0 := hid hb0
  obtain ⟨⟨f0, f1, f2, f3, f4⟩, _⟩ := FX.out W0 (Below.refl _ _)
  clear q1 q2 hb0
  have HL : Hid ((ms.map (·.2)).length = sn) := hid (by rw [List.length_map]; exact Hs.out.symm)
  have A51 : Hid (Calls Try.prog 51 #[.agg #[.slice ra rn rc, .slice ma mn mc, .slice fa fn fc, .slice ea en ec]] W0 fun e w' => e = .returned (.bool (rightB p)) ∧ Below W0.heap.size W0 w') := hid (K51.out W0 HB0.out)
  cases hR : rightB p with
  | false =>
    rw [hR] at A51
    have HF : Hid (stV k p (ms.map (·.2)) = false) := hid (by unfold stV; rw [hR]; rfl)
    go_enter Try.func29, Try.ntmps29
    go_upto_region 1 with fail
    rw [← hW0]
    clear hW0
    go_wp2_with (go_at_call 51; (refine (A51.out).mono ?_; rintro e w1 ⟨rfl, hb1⟩; have B1 := hid hb1; clear hb1))
    go_ret
    exact ⟨by rw [HF.out]; rfl, (FX.out _ B1.out).2⟩
  | true =>
    rw [hR] at A51
    by_cases hl : sn = mn
    · subst hl
      go_enter Try.func29, Try.ntmps29
      go_upto_region 1 with fail
      rw [← hW0]
      clear hW0
      go_wp2_with (go_at_call 51; (refine (A51.out).mono ?_; rintro e w1 ⟨rfl, hb1⟩; have B1 := hid hb1; clear f0 f1 f2 f3 f4 hb1; obtain ⟨⟨f0, f1, f2, f3, f4⟩, _⟩ := FX.out w1 B1.out))
      have hsI : (sn : Int) ≤ 1000 := hle2
      go_loopg [22] sn (fun gg ii wr => ∃ i : Nat, i + gg = sn ∧ ii = .int .i64 (i : Int) ∧ Below W0.heap.size W0 wr ∧ ∀ j, j < i → mpV k p (ms.map (·.2)) j = true)
      case atStart => exact ⟨0, by omega, rfl, B1.out, fun j hj => by omega⟩
      case round =>
        obtain ⟨i, hi', rfl, hbr, hacc⟩ := hrel
        have Hbr := hid hbr
        have Hacc := hid hacc
        clear hacc f0 f1 f2 f3 f4
        cases gk with
        | zero =>
          have hin2 : i = sn := by omega
          subst hin2
          clear hi' hbr
          have HT : Hid (stV k p (ms.map (·.2)) = true) := hid (by
            unfold stV
            rw [hR, decide_eq_true (by rw [HL.out, ← Hm.out])]
            simp only [Bool.true_and]
            rw [List.all_eq_true]
            intro j hj
            exact Hacc.out j (by rw [Hm.out]; exact List.mem_range.1 hj))
          go_wp2
          go_ret
          exact ⟨by rw [HT.out]; rfl, (FX.out _ Hbr.out).2⟩
        | succ gi =>
          have hlt0 : i < sn := by omega
          have hlt : (i : Int) < (sn : Int) := by omega
          have hi00 : (0 : Int) ≤ (i : Int) := by omega
          have Hi := hid hi'
          obtain ⟨⟨f0, f1, f2, f3, f4⟩, hbw⟩ := FX.out wr hbr
          obtain ⟨m, hm⟩ : ∃ m, p.maps[i]? = some m := ⟨p.maps[i]'(by rw [← Hm.out]; exact hlt0), List.getElem?_eq_getElem _⟩
          obtain ⟨x, hx⟩ : ∃ x, ms[i]? = some x := ⟨ms[i]'(by rw [← Hs.out]; exact hlt0), List.getElem?_eq_getElem _⟩
          obtain ⟨b2, o2, ea2, _, dm⟩ := (DM.out.below (Nat.le_refl _) hbw).rd i m.cs (by rw [List.getElem?_map, hm]; rfl)
          subst ea2
          obtain ⟨b1, o1, ea1, dc⟩ := (R.out.below (Nat.le_refl _) hbw).rd i x.1 (by rw [List.getElem?_map, hx]; rfl)
          subst ea1
          have hrow := ((R.out.below (Nat.le_refl _) hbw).el x (List.mem_of_getElem? hx)).1
          have HRow := hid hrow
          have HMp : Hid (mpV k p (ms.map (·.2)) i = mapV k p m x.2) := hid (by unfold mpV; rw [hm, List.getElem?_map, hx]; rfl)
          have HNO : Hid (mpV k p (ms.map (·.2)) i = false → stV k p (ms.map (·.2)) = false) := hid (fun h => by
            unfold stV
            have : (List.range p.maps.length).all (mpV k p (ms.map (·.2))) = false := by
              rw [List.all_eq_false]
              exact ⟨i, List.mem_range.2 (by rw [← Hm.out]; exact hlt0), by simp [h]⟩
            rw [this]
            simp)
          have m0 := dm 0 (by omega)
          have m1 := dm 1 (by omega)
          have m2 := dm 2 (by omega)
          have m3 := dm 3 (by omega)
          have m4 := dm 4 (by omega)
          obtain ⟨⟨xa, xn, xc⟩, xr⟩ := x
          obtain ⟨nm, ⟨k1, k2⟩, ⟨v1, v2⟩⟩ := m
          simp only [Mp.cs, List.getElem?_cons_zero, List.getElem?_cons_succ, Nat.add_zero] at m0 m1 m2 m3 m4
          simp only [Sl.v] at dc
          simp only at HRow HMp
          obtain ⟨W1, hW1⟩ : ∃ W1, W1 = wr.alloc (.cells #[.string nm, .int .i64 k1, .int .i64 k2, .int .i64 v1, .int .i64 v2] 75) := ⟨_, rfl⟩
          have n1 : W1.heap[wr.heap.size]? = some (.cells #[.string nm, .int .i64 k1, .int .i64 k2, .int .i64 v1, .int .i64 v2] 75 (0, 0)) := by rw [hW1]; exact heap_alloc_new wr _
          have b1' : Below wr.heap.size wr W1 := by rw [hW1]; exact (Below.refl _ wr).alloc (Nat.le_refl _) _
          have B1' := hid (TR.out Hbr.out b1')
          have SE : Hid (∀ W' : World, Below W1.heap.size W1 W' → (W'.cell? ⟨w.heap.size, 0, none⟩ = some (.slice ra rn rc) ∧ W'.cell? ⟨w.heap.size, 1, none⟩ = some (.slice (some ⟨b2, o2, none⟩) sn mc) ∧ W'.cell? ⟨w.heap.size, 2, none⟩ = some (.slice fa fn fc) ∧ W'.cell? ⟨w.heap.size, 3, none⟩ = some (.slice ea en ec) ∧ W'.cell? ⟨w.heap.size + 1, 0, none⟩ = some (.slice (some ⟨b1, o1, none⟩) sn sc) ∧ W'.cell? ⟨b1, o1 + i, none⟩ = some (.slice xa xn xc) ∧ W'.cell? ⟨wr.heap.size, 0, none⟩ = some (.string nm) ∧ W'.cell? ⟨wr.heap.size, 1, none⟩ = some (.int .i64 k1) ∧ W'.cell? ⟨wr.heap.size, 2, none⟩ = some (.int .i64 k2) ∧ W'.cell? ⟨wr.heap.size, 3, none⟩ = some (.int .i64 v1) ∧ W'.cell? ⟨wr.heap.size, 4, none⟩ = some (.int .i64 v2))) := hid (fun W' hb => by
            have hbb := TR.out b1' hb
            have ge : ∀ (p : Addr) (v : Value), wr.cell? p = some v → W'.cell? p = some v := fun p v e => (hbb.cell (World.block_lt_of_cell? wr _ e)).trans e
            have bx := (hb.block _ (Array.getElem?_eq_some_iff.1 n1).1).trans n1
            exact ⟨ge _ _ f0, ge _ _ f1, ge _ _ f2, ge _ _ f3, ge _ _ f4, ge _ _ dc, cellOf bx 0, cellOf bx 1, cellOf bx 2, cellOf bx 3, cellOf bx 4⟩)
          have R3 := hid ((Below.refl W1.heap.size W1).drew)
          have D3 := hid (TR.out B1'.out R3.out)
          have CP := hid (K53.out W1.drew (FX.out _ D3.out).2 ⟨nm, (k1, k2), (v1, v2)⟩ xa xn xc xr (((R.out.below (Nat.le_refl _) (FX.out _ D3.out).2).el (⟨xa, xn, xc⟩, xr) (List.mem_of_getElem? hx)).1))
          obtain ⟨E, hE⟩ : ∃ E, E = mapV k p ⟨nm, (k1, k2), (v1, v2)⟩ xr := ⟨_, rfl⟩
          rw [← hE] at CP HMp
          simp only [mtV] at CP
          clear hE n1 b1' hm hx dm hrow hi' hbw
          go_upto_region 6 with fail
          rw [← hW1]
          clear hW1 m0 m1 m2 m3 m4
          obtain ⟨g0, g1, g2, g3, g4, g5, g6, g7, g8, g9, g10⟩ := SE.out W1 (Below.refl _ _)
          cases E with
          | false =>
            have HF := hid (HNO.out HMp.out)
            go_region_held3 (fun W' => W'.cell? ⟨w.heap.size, 0, none⟩ = some (.slice ra rn rc) ∧ W'.cell? ⟨w.heap.size, 1, none⟩ = some (.slice (some ⟨b2, o2, none⟩) sn mc) ∧ W'.cell? ⟨w.heap.size, 2, none⟩ = some (.slice fa fn fc) ∧ W'.cell? ⟨w.heap.size, 3, none⟩ = some (.slice ea en ec) ∧ W'.cell? ⟨w.heap.size + 1, 0, none⟩ = some (.slice (some ⟨b1, o1, none⟩) sn sc) ∧ W'.cell? ⟨b1, o1 + i, none⟩ = some (.slice xa xn xc) ∧ W'.cell? ⟨wr.heap.size, 0, none⟩ = some (.string nm) ∧ W'.cell? ⟨wr.heap.size, 1, none⟩ = some (.int .i64 k1) ∧ W'.cell? ⟨wr.heap.size, 2, none⟩ = some (.int .i64 k2) ∧ W'.cell? ⟨wr.heap.size, 3, none⟩ = some (.int .i64 v1) ∧ W'.cell? ⟨wr.heap.size, 4, none⟩ = some (.int .i64 v2)) (first | with_reducible exact SE.out _ R3.out | with_reducible exact SE.out _ R4.out | go_keep) ((first
              | (go_at_call 53; (refine (CP.out).mono ?_; rintro e w4 ⟨rfl, hb4⟩; have R4 := hid (TR.out R3.out hb4); clear hb4))))
            go_wp2
            go_ret
            exact ⟨by rw [HF.out]; rfl, (FX.out _ (TR.out B1'.out R4.out)).2⟩
          | true =>
            go_region_held3 (fun W' => W'.cell? ⟨w.heap.size, 0, none⟩ = some (.slice ra rn rc) ∧ W'.cell? ⟨w.heap.size, 1, none⟩ = some (.slice (some ⟨b2, o2, none⟩) sn mc) ∧ W'.cell? ⟨w.heap.size, 2, none⟩ = some (.slice fa fn fc) ∧ W'.cell? ⟨w.heap.size, 3, none⟩ = some (.slice ea en ec) ∧ W'.cell? ⟨w.heap.size + 1, 0, none⟩ = some (.slice (some ⟨b1, o1, none⟩) sn sc) ∧ W'.cell? ⟨b1, o1 + i, none⟩ = some (.slice xa xn xc) ∧ W'.cell? ⟨wr.heap.size, 0, none⟩ = some (.string nm) ∧ W'.cell? ⟨wr.heap.size, 1, none⟩ = some (.int .i64 k1) ∧ W'.cell? ⟨wr.heap.size, 2, none⟩ = some (.int .i64 k2) ∧ W'.cell? ⟨wr.heap.size, 3, none⟩ = some (.int .i64 v1) ∧ W'.cell? ⟨wr.heap.size, 4, none⟩ = some (.int .i64 v2)) (first | with_reducible exact SE.out _ R3.out | with_reducible exact SE.out _ R4.out | go_keep) ((first
              | (go_at_call 53; (refine (CP.out).mono ?_; rintro e w4 ⟨rfl, hb4⟩; have R4 := hid (TR.out R3.out hb4); clear hb4))))
            go_wp2
            go_roundg gi
            case measure => omega
            case rel => exact ⟨i + 1, by have := Hi.out; omega, by go_num, TR.out B1'.out R4.out, fun j hj => by
              rcases Nat.lt_or_ge j i with h | h
              · exact Hacc.out j h
              · obtain rfl : j = i := by omega
                exact HMp.out⟩
    · have hl' : ¬ (sn : Int) = (mn : Int) := by omega
      have hlb : ((sn : Int) == (mn : Int)) = false := by simpa using hl'
      have hlc : ((sn : Int) != (mn : Int)) = true := by simp [hl']
      have HF : Hid (stV k p (ms.map (·.2)) = false) := hid (by unfold stV; rw [hR, decide_eq_false (by rw [HL.out, ← Hm.out]; exact hl)]; rfl)
      go_enter Try.func29, Try.ntmps29
      go_upto_region 1 with fail
      rw [← hW0]
      clear hW0
      go_wp2_with (go_at_call 51; (refine (A51.out).mono ?_; rintro e w1 ⟨rfl, hb1⟩; have B1 := hid hb1; clear f0 f1 f2 f3 f4 hb1; obtain ⟨⟨f0, f1, f2, f3, f4⟩, _⟩ := FX.out w1 B1.out))
      go_ret
      exact ⟨by rw [HF.out]; rfl, (FX.out _ B1.out).2⟩
end Go.Proofs.Ytenfgahedbeekaa

namespace Go.Proofs.Ytenfgahedbeekaa
open Go.RowKit Go.Deep Go.Shelf
set_option linter.unusedVariables false
set_option linter.unusedSimpArgs false

set_option maxRecDepth 100000 in
set_option maxHeartbeats 1000000 in
theorem readRow_any (w : World) (a : Option Addr) (cap : Nat) (bs : List Nat) (h : Rd w (.slice a bs.length cap) bs) (hl : bs.length ≤ 1000000000) :
    Calls Try.prog 59 #[.slice a bs.length cap] w (RrP w (rwD bs)) := by
  have K1 := hid (uint_any w _ bs h (by omega))
  have hby : Byt bs := by obtain ⟨_, _, _, _, hb, _⟩ := h; exact hb
  cases hd : dec bs with
  | none =>
    have hr : rwD bs = none := by unfold rwD; rw [hd]
    have Hr := hid hr
    rw [hd] at K1
    simp only [uintV] at K1
    clear h hby hd hr
    go_enter Try.func59, Try.ntmps59
    go_wp2_with (go_at_call 86; (refine (Hid.out K1).mono ?_; rintro e w1 ⟨rfl, rfl⟩))
    refine bodyPost_ret (v := .tuple #[.slice none 0 0, .int .i64 0, .bool false]) (by simp [results, Try.results59, go_sem]) rfl ?_
    rw [Hr.out]
    exact ⟨Below.refl _ _, rfl⟩
  | some r =>
    obtain ⟨c, i⟩ := r
    have hc64 := (dec_back hby hd).2.1
    by_cases hc : 24 < c
    · have hr : rwD bs = none := by unfold rwD; rw [hd]; simp only; rw [if_pos hc]
      have Hr := hid hr
      rw [hd] at K1
      simp only [uintV] at K1
      have hcI : (24 : Int) < (c : Int) := by omega
      clear h hby hd hr
      go_enter Try.func59, Try.ntmps59
      go_wp2_with (go_at_call 86; (refine (Hid.out K1).mono ?_; rintro e w1 ⟨rfl, rfl⟩))
      refine bodyPost_ret (v := .tuple #[.slice none 0 0, .int .i64 0, .bool false]) (by simp [results, Try.results59, go_sem]) rfl ?_
      rw [Hr.out]
      exact ⟨Below.refl _ _, rfl⟩
    · have hr : rwD bs = goD entD bs c i [] := by unfold rwD; rw [hd]; simp only; rw [if_neg hc]
      rw [hr]
      exact readRow_go w a cap bs (hid (fun w2 hb => h.below (Nat.le_refl _) hb)) hl c i hd (by omega)
theorem wpList_appM {ops : Array Oper} {rest : List Oper} {o : Oper} {a : Act} {Q : Exit → Act → World → Prop} (w : World) (hgd : o.guard = none) (sl x : Operand)
    (ho : o.op = .call { callee := .builtin .append, args := #[sl, x], argTypes := #[25, 25] }) (v : Value) (h : Sl) (hs : a.eval sl = v) (hx : a.eval x = .slice (some ⟨w.heap.size, 0, none⟩) 1 1)
    (B : Nat) (ss : List Sl) (hr : MRow w B v ss) (hB : B ≤ w.heap.size) (hl : ss.length ≤ 1000000)
    (k : ∀ v' w', MRow w' B v' (ss ++ [h]) → Grw (w.alloc (.cells #[h.v] 70)) v w' v' → wpList Try.prog ops Q rest (a.put o.dst v') w') :
    wpList Try.prog ops Q (o :: rest) a (w.alloc (.cells #[h.v] 70)) := by
  refine wpList_plain hgd fun K hK => ?_
  have hr' : MRow (w.alloc (.cells #[h.v] 70)) B v ss := hr.below (Nat.le_refl _) ((Below.refl _ w).alloc (Nat.le_refl _) _)
  obtain ⟨v', w', hrun, h2, h3⟩ := run_appM _ o.type B v ss h w.heap.size hr' (heap_alloc_new w _) (by simp; omega) hl
  unfold Oper.wp execOp
  simp only [ho, resolve, invoke, builtin, Sem.run_bind, Sem.run_pure, Result.andThen_ok, List.map_toArray, List.map_cons, List.map_nil, hs, hx, hrun]
  exact hK _ _ (k v' w' h2 h3)
theorem readRow_v (w : World) (v : Value) (bs : List Nat) (h : Rd w v bs) (hl : bs.length ≤ 1000000000) : Calls Try.prog 59 #[v] w (RrP w (rwD bs)) := by
  obtain ⟨a, cap, rfl⟩ := h.len
  exact readRow_any w a cap bs h hl
theorem isV_nrm (p : Pg) (t : TyP) (v : VT 3) : isV 1 p t (nrm v) = isV 1 p t v := rfl
theorem cmp_nrm (s t : VT 3) : cmpT 3 (nrm s) (nrm t) = cmpT 3 s t := rfl
theorem entV_nrm (p : Pg) (m : Mp) (row : Rw 3) (i : Nat) : entV 1 p m (row.map nrmP) i = entV 1 p m row i := by
  unfold entV
  rw [List.getElem?_map]
  cases h : row[i]? with
  | none => rfl
  | some q =>
    simp only [Option.map_some, nrmP, isV_nrm]
    rw [List.getElem?_map]
    cases h2 : row[i - 1]? with
    | none => rfl
    | some o => rfl
theorem mapV_nrm (p : Pg) (m : Mp) (row : Rw 3) : mapV 1 p m (row.map nrmP) = mapV 1 p m row := by
  unfold mapV
  rw [List.length_map]
  congr 1
  exact congrArg (fun f => (List.range row.length).all f) (funext (entV_nrm p m row))
theorem stV_nrm (p : Pg) (rows : List (Rw 3)) : stV 1 p (rows.map fun r => r.map nrmP) = stV 1 p rows := by
  unfold stV
  rw [List.length_map]
  congr 1
  refine congrArg (fun f => (List.range p.maps.length).all f) (funext fun i => ?_)
  unfold mpV
  rw [List.getElem?_map]
  cases h1 : p.maps[i]? with
  | none => rfl
  | some m =>
    cases h2 : rows[i]? with
    | none => rfl
    | some r => simp only [Option.map_some, mapV_nrm]
def rowsT (X : List (List (Vl × Vl))) : List (Rw 3) := X.map fun r => r.map tvlP
theorem stV_of {p : Pg} {ns : List (Sl × Rw 3)} {X : List (List (Vl × Vl))} (h : ns.map (fun q => q.2.map nrmP) = X.map (fun r => r.map tvlP)) : stV 1 p (ns.map (·.2)) = stV 1 p (rowsT X) := by
  rw [← stV_nrm, List.map_map]
  unfold rowsT
  rw [← h]
  rfl
def resOf (p : Pg) (n : Nat) (o : Option (List (List (Vl × Vl)) × Nat)) : Option (List (List (Vl × Vl))) := match o with
  | none => none
  | some (X, k) => if k = n ∧ stV 1 p (rowsT X) = true then some X else none
def resD (p : Pg) (bs : List Nat) : Option (List (List (Vl × Vl))) := resOf p bs.length (goD rwD bs p.maps.length 0 [])
def ReP (w : World) (p : Pg) (bs : List Nat) (e : Ending) (w' : World) : Prop := Below w.heap.size w w' ∧ match resD p bs with
  | none => e = .returned (.tuple #[.agg #[.slice none 0 0], .int .i64 40])
  | some X => ∃ aa an ac ns, e = .returned (.tuple #[.agg #[.slice aa an ac], .int .i64 0]) ∧ StP 3 w' (fun b => w.heap.size ≤ b ∧ b < w'.heap.size) aa an ns ∧ an ≤ ac ∧ ns.map (fun q => q.2.map nrmP) = X.map (fun r => r.map tvlP)
theorem goD_size {α : Type} {D : List Nat → Option (α × Nat)} {bs : List Nat} : ∀ (c i : Nat) (acc xs : List α) (k : Nat), goD D bs c i acc = some (xs, k) → xs.length = acc.length + c
  | 0, i, acc, xs, k, h => by simp only [goD] at h; cases h; rfl
  | c + 1, i, acc, xs, k, h => by
    simp only [goD] at h
    cases hd : D (bs.drop i) with
    | none => rw [hd] at h; cases h
    | some r =>
      obtain ⟨x, j⟩ := r
      rw [hd] at h
      have := goD_size c _ _ _ _ h
      rw [this, List.length_append]
      simp; omega
theorem rwD_le {bs : List Nat} (hb : Byt bs) {r : List (Vl × Vl)} {k : Nat} (h : rwD bs = some (r, k)) : k ≤ bs.length := by
  unfold rwD at h
  cases hd : dec bs with
  | none => rw [hd] at h; cases h
  | some x =>
    obtain ⟨c, i⟩ := x
    rw [hd] at h
    simp only at h
    split at h
    · cases h
    · exact goD_le (fun bs x k hb e => entD_le hb e) hb c i [] r k (dec_back hb hd).2.2.1 h
structure RsI (w wr : World) (pc : Array Value) (X : List (List (Vl × Vl))) (fa : Option Addr) (fn fc : Nat) (ns : List (Sl × Rw 3)) : Prop where
  bel : Below w.heap.size w wr
  b0 : wr.heap[w.heap.size]? = some (.cells pc 50 (0, 0))
  b1 : wr.heap[w.heap.size + 1]? = some (.cells #[.slice none 0 0] 27 (0, 0))
  b2 : wr.heap[w.heap.size + 1 + 1]? = some (.cells #[.slice fa fn fc] 27 (0, 0))
  row : MRow wr (w.heap.size + 3) (.slice fa fn fc) (ns.map (·.1))
  rd : ∀ q ∈ ns, RwP 3 wr (fun b => w.heap.size + 3 ≤ b ∧ b < wr.heap.size ∧ (Value.slice fa fn fc).ownBlock ≠ some b) q.1.a q.1.n q.2 ∧ q.1.n ≤ q.1.cap
  same : ns.map (fun q => q.2.map nrmP) = X.map (fun r => r.map tvlP)
theorem RsI.sz {w wr : World} {pc : Array Value} {X : List (List (Vl × Vl))} {fa : Option Addr} {fn fc : Nat} {ns : List (Sl × Rw 3)} (c : RsI w wr pc X fa fn fc ns) : w.heap.size + 3 ≤ wr.heap.size := (Array.getElem?_eq_some_iff.1 c.b2).1
theorem RsI.grown {w wr w9 w10 : World} {pc : Array Value} {X : List (List (Vl × Vl))} {fa : Option Addr} {fn fc : Nat} {ns : List (Sl × Rw 3)} {v2 : Value} {o2 : Obj} (c : RsI w wr pc X fa fn fc ns) (h9 : Below wr.heap.size wr w9) (hg : Grw (w9.alloc o2) (.slice fa fn fc) w10 v2) :
    w10.heap[w.heap.size + 1 + 1]? = some (.cells #[.slice fa fn fc] 27 (0, 0)) := by
  have hs := c.sz
  have bA : Below wr.heap.size wr (w9.alloc o2) := h9.alloc h9.size _
  exact ((hg.1.block _ (by have := bA.size; omega) (fun e => by have := (c.row.own _ e.symm).1; omega)).trans (bA.block _ (by omega))).trans c.b2
theorem RsI.more {w wr w9 w10 : World} {pc : Array Value} {X : List (List (Vl × Vl))} {fa : Option Addr} {fn fc : Nat} {ns : List (Sl × Rw 3)} {o2 : Obj} {xa : Option Addr} {xn xc : Nat} {qs : Rw 3} {f2 : Option Addr} {n2 c2 : Nat} (c : RsI w wr pc X fa fn fc ns)
    (h9 : Below wr.heap.size wr w9) (hx : RwP 3 w9 (fun b => wr.heap.size ≤ b ∧ b < w9.heap.size) xa xn qs) (hxc : xn ≤ xc) {Y : List (Vl × Vl)} (he : qs.map nrmP = Y.map tvlP)
    (hr : MRow w10 (w.heap.size + 3) (.slice f2 n2 c2) (ns.map (·.1) ++ [⟨xa, xn, xc⟩])) (hg : Grw (w9.alloc o2) (.slice fa fn fc) w10 (.slice f2 n2 c2)) :
    RsI w (w10.setCell ⟨w.heap.size + 1 + 1, 0, none⟩ (.slice f2 n2 c2)) pc (X ++ [Y]) f2 n2 c2 (ns ++ [(⟨xa, xn, xc⟩, qs)]) := by
  have hs0 := c.sz
  have s9 := h9.size
  have bA : Below wr.heap.size wr (w9.alloc o2) := h9.alloc h9.size _
  have own : ∀ b, (Value.slice fa fn fc).ownBlock = some b → w.heap.size + 3 ≤ b ∧ b < wr.heap.size := fun b e => c.row.own b e
  have blk : ∀ b, b < wr.heap.size → (Value.slice fa fn fc).ownBlock ≠ some b → w10.heap[b]? = wr.heap[b]? := fun b hb hne => (hg.1.block b (Nat.lt_of_lt_of_le hb bA.size) (fun e => hne e.symm)).trans (bA.block b hb)
  have blk9 : ∀ b, wr.heap.size ≤ b → b < w9.heap.size → w10.heap[b]? = w9.heap[b]? := fun b hb hb2 => (hg.1.block b (by simp; omega) (fun e => by have := (own b e.symm).2; omega)).trans (Below.heap_alloc _ _ _ hb2)
  have own2 : ∀ b, (Value.slice f2 n2 c2).ownBlock = some b → (Value.slice fa fn fc).ownBlock = some b ∨ (w9.alloc o2).heap.size ≤ b := fun b e => by
    rcases hg.2 with h1 | ⟨g, h1, h2⟩
    · exact .inl (h1 ▸ e)
    · rw [h1] at e; cases e; exact .inr h2
  have sB : (w9.alloc o2).heap.size = w9.heap.size + 1 := by simp
  have s11 : (w9.alloc o2).heap.size ≤ w10.heap.size := hg.1.size
  have st : ∀ b, b ≠ w.heap.size + 1 + 1 → (w10.setCell ⟨w.heap.size + 1 + 1, 0, none⟩ (.slice f2 n2 c2)).heap[b]? = w10.heap[b]? := fun b hb => Below.heap_setCell _ _ _ _ hb
  have ss : (w10.setCell ⟨w.heap.size + 1 + 1, 0, none⟩ (.slice f2 n2 c2)).heap.size = w10.heap.size := by simp [World.setCell]
  have h2 := heap_set_at (c.grown h9 hg) 0 (.slice f2 n2 c2)
  refine ⟨?_, ?_, ?_, by simpa using h2, ?_, ?_, ?_⟩
  · refine ⟨(hg.1.os.trans bA.os).trans c.bel.os, (hg.1.tape.trans bA.tape).trans c.bel.tape, (hg.1.output.trans bA.output).trans c.bel.output, by rw [ss]; omega, fun j hj => ?_⟩
    exact (st j (by omega)).trans ((blk j (by omega) (fun e => by have := (own j e).1; omega)).trans (c.bel.block j hj))
  · exact (st _ (by omega)).trans ((blk _ (by omega) (fun e => by have := (own _ e).1; omega)).trans c.b0)
  · exact (st _ (by omega)).trans ((blk _ (by omega) (fun e => by have := (own _ e).1; omega)).trans c.b1)
  · rw [List.map_append]
    exact hr.same (fun q e => st q (by have := (hr.own q e).1; omega))
  · intro q hq
    rcases List.mem_append.1 hq with hq | hq
    · refine ⟨((c.rd q hq).1.keep (fun b hb => (st b (by omega)).trans (blk b hb.2.1 hb.2.2))).imp (fun b hb => ⟨hb.1, by rw [ss]; omega, fun e => ?_⟩), (c.rd q hq).2⟩
      rcases own2 b e with h | h
      · exact hb.2.2 h
      · omega
    · obtain rfl : q = (⟨xa, xn, xc⟩, qs) := by simpa using hq
      refine ⟨(hx.keep (fun b hb => (st b (by omega)).trans (blk9 b hb.1 hb.2))).imp (fun b hb => ⟨by omega, by rw [ss]; omega, fun e => ?_⟩), hxc⟩
      rcases own2 b e with h | h
      · have := (own b h).2; omega
      · omega
  · rw [List.map_append, List.map_append, c.same]
    simp only [List.map_cons, List.map_nil, he]
theorem goD_from {α : Type} {D : List Nat → Option (α × Nat)} {bs : List Nat} : ∀ (c i : Nat) (acc xs : List α) (k : Nat), goD D bs c i acc = some (xs, k) → i ≤ k
  | 0, i, acc, xs, k, h => by simp only [goD] at h; cases h; exact Nat.le_refl _
  | c + 1, i, acc, xs, k, h => by
    simp only [goD] at h
    cases hd : D (bs.drop i) with
    | none => rw [hd] at h; cases h
    | some r =>
      obtain ⟨x, j⟩ := r
      rw [hd] at h
      have := goD_from c _ _ _ _ h
      omega
theorem RsI.out {w wr : World} {pc : Array Value} {X : List (List (Vl × Vl))} {fa : Option Addr} {fn fc : Nat} {ns : List (Sl × Rw 3)} (h : RsI w wr pc X fa fn fc ns) (hl : X.length ≤ 1000) : StP 3 wr (fun b => w.heap.size + 3 ≤ b ∧ b < wr.heap.size) fa fn ns ∧ fn ≤ fc := by
  have hln : ns.length = X.length := by have := congrArg List.length h.same; simpa using this
  obtain ⟨a9, c9, e9, h9⟩ := h.row.form
  cases e9
  rw [List.length_map] at h9 ⊢
  refine ⟨⟨rfl, by omega, h.row.rd, fun x e ne => ?_, fun q hq => ⟨(h.rd q hq).1.imp (fun b hA => ⟨hA.1, hA.2.1⟩), (h.rd q hq).2⟩⟩, h9⟩
  exact h.row.own x.block (by rw [e]; rfl)
set_option maxRecDepth 100000 in
set_option maxHeartbeats 2000000 in
theorem restore_any (w : World) (g : PH) (p : Pg) (d : PRd w g p) (hmp : p.maps.length ≤ 30) (a : Option Addr) (cap : Nat) (bs : List Nat) (h : Rd w (.slice a bs.length cap) bs) (hl : bs.length ≤ 1000000) :
    Calls Try.prog 34 #[g.v, .slice a bs.length cap] w (ReP w p bs) := by
  have hby : Byt bs := by obtain ⟨_, _, _, _, hb, _⟩ := h; exact hb
  have hcap : bs.length ≤ cap := by obtain ⟨_, _, e, hc, _⟩ := h; cases e; exact hc
  have HBy := hid hby
  have H := hid h
  have hmn : g.mn ≤ 30 := by rw [d.m.n1]; exact hmp
  have Hm := hid d.m.n1
  have KI := hid (fun (w1 : World) (hb : Below w.heap.size w w1) (sa : Option Addr) (sn sc : Nat) (ns : List (Sl × Rw 3)) (hs : StR 3 w1 sa sn ns) => heapIs_any 1 w1 g p (d.below (Nat.le_refl _) hb) sa sn sc ns hs)
  obtain ⟨ra, rn, rc, ma, mn, mc, fa, fn, fc, ea, en, ec⟩ := g
  simp only [PH.v] at KI hmn Hm ⊢
  obtain ⟨RES, hRES⟩ : ∃ RES, RES = goD rwD bs mn 0 [] := ⟨_, rfl⟩
  have HRES := hid hRES
  have HRD : Hid (resD p bs = resOf p bs.length RES) := hid (by unfold resD; rw [hRES, Hm.out])
  clear d h hby hRES hmp
  have hmI : (mn : Int) ≤ 30 := by omega
  have hlI : (bs.length : Int) ≤ (cap : Int) := by omega
  have hlJ : (bs.length : Int) ≤ 1000000 := by omega
  obtain ⟨W0, hW0⟩ : ∃ W0, W0 = ((w.alloc (.cells #[.slice ra rn rc, .slice ma mn mc, .slice fa fn fc, .slice ea en ec] 50)).alloc (.cells #[.slice none 0 0] 27)).alloc (.cells #[.slice none 0 0] 27) := ⟨_, rfl⟩
  have n1 := heap_alloc_new w (.cells #[.slice ra rn rc, .slice ma mn mc, .slice fa fn fc, .slice ea en ec] 50)
  have n2 := heap_alloc_new (w.alloc (.cells #[.slice ra rn rc, .slice ma mn mc, .slice fa fn fc, .slice ea en ec] 50)) (.cells #[.slice none 0 0] 27)
  have n3 := heap_alloc_new ((w.alloc (.cells #[.slice ra rn rc, .slice ma mn mc, .slice fa fn fc, .slice ea en ec] 50)).alloc (.cells #[.slice none 0 0] 27)) (.cells #[.slice none 0 0] 27)
  simp only [World.size_alloc] at n2 n3
  have I0 : RsI w W0 #[.slice ra rn rc, .slice ma mn mc, .slice fa fn fc, .slice ea en ec] [] none 0 0 [] := by
    refine ⟨?_, ?_, ?_, ?_, MRow.nil _ _, (fun q hq => by cases hq), rfl⟩
    · rw [hW0]; exact (boxes2 _ _ _ _ _).alloc (by simp; omega) _
    · rw [hW0]; exact alN (alN n1 _) _
    · rw [hW0]; exact alN n2 _
    · rw [hW0]; exact n3
  have HI0 := hid I0
  clear n1 n2 n3 I0
  go_enter Try.func34, Try.ntmps34
  go_wp2
  rw [← hW0]
  clear hW0
  go_loopg [7, 14] mn (fun gg v7 v14 wr => ∃ (j at' gn gc : Nat) (ga : Option Addr) (ns : List (Sl × Rw 3)) (X : List (List (Vl × Vl))), j + gg = mn ∧ X.length = j ∧ v14 = .int .i64 (j : Int) ∧ v7 = .int .i64 (at' : Int) ∧ at' ≤ bs.length ∧ RES = goD rwD bs gg at' X ∧ RsI w wr #[.slice ra rn rc, .slice ma mn mc, .slice fa fn fc, .slice ea en ec] X ga gn gc ns)
  case atStart => exact ⟨0, 0, 0, 0, none, [], [], by omega, rfl, rfl, rfl, Nat.zero_le _, HRES.out, HI0.out⟩
  case round =>
    obtain ⟨j, at', gn, gc, ga, ns, X, hj, hX, rfl, rfl, hat, hres, hI⟩ := hrel
    have HI := hid hI
    have HX := hid hX
    have q1 := cellOf hI.b1 0
    have y1 := freeOf hI.b1 0
    have q2 := cellOf hI.b2 0
    have y2 := freeOf hI.b2 0
    have r0 := cellOf hI.b0 0
    have r1 := cellOf hI.b0 1
    have r2 := cellOf hI.b0 2
    have r3 := cellOf hI.b0 3
    simp only [List.getElem?_toArray, List.getElem?_cons_zero, List.getElem?_cons_succ] at q1 q2 r0 r1 r2 r3
    have hsz := hI.sz
    clear hI hX
    cases gk with
    | zero =>
      have hjm : j = mn := by omega
      subst hjm
      have Hres : Hid (RES = some (X, at')) := hid hres
      clear hres hj
      obtain ⟨hst, hgc⟩ := HI.out.out (by have := HX.out; omega)
      have HST := hid hst
      have HB := hid HI.out.bel
      have hstr := HST.out.str
      have KJ := hid (KI.out wr HB.out ga gn gc ns hstr)
      rw [stV_of HI.out.same] at KJ
      obtain ⟨S, hS⟩ : ∃ S, S = stV 1 p (rowsT X) := ⟨_, rfl⟩
      rw [← hS] at KJ
      have HS := hid hS
      have Hgc := hid hgc
      have FW : Hid (∀ w2 : World, Below wr.heap.size wr w2 → w2.cell? ⟨w.heap.size + 1, 0, none⟩ = some (.slice none 0 0) ∧ w2.frozen? ⟨w.heap.size + 1, 0, none⟩ = false ∧ w2.cell? ⟨w.heap.size + 1 + 1, 0, none⟩ = some (.slice ga gn gc) ∧ w2.heap[w.heap.size + 1]? = some (.cells #[.slice none 0 0] 27 (0, 0)) ∧ StP 3 w2 (fun b => w.heap.size + 3 ≤ b ∧ b < wr.heap.size) ga gn ns ∧ Below w.heap.size w w2) := hid (fun w2 hb => by
        have b1 := (hb.block _ (Array.getElem?_eq_some_iff.1 HI.out.b1).1).trans HI.out.b1
        have b2 := (hb.block _ (Array.getElem?_eq_some_iff.1 HI.out.b2).1).trans HI.out.b2
        exact ⟨cellOf b1 0, freeOf b1 0, cellOf b2 0, b1, HST.out.keep (fun b hA => hb.block b hA.2), HB.out.trans (hb.mono HB.out.size)⟩)
      clear hst hgc hstr hS KI
      by_cases hlt : at' < bs.length
      · have hltI : (at' : Int) < (bs.length : Int) := by omega
        have HN : Hid (resD p bs = none) := hid (by rw [HRD.out, Hres.out]; unfold resOf; simp only; rw [if_neg (by omega)])
        go_wp2
        have t0 := cellOf (set_cells HI.out.b1 (.slice none 0 0)) 0
        simp only [List.getElem?_toArray, List.getElem?_cons_zero] at t0
        refine bodyPost_ret (v := .tuple #[.agg #[.slice none 0 0], .int .i64 40]) (by simp [results, Try.results34, go_sem, t0]) rfl ⟨HB.out.setCell (p := ⟨w.heap.size + 1, 0, none⟩) (by show w.heap.size ≤ w.heap.size + 1; omega) _, by rw [HN.out]⟩
      · have hltI : ¬ (at' : Int) < (bs.length : Int) := by omega
        cases S with
        | false =>
          have HN : Hid (resD p bs = none) := hid (by rw [HRD.out, Hres.out]; unfold resOf; simp only; rw [if_neg (by rw [← HS.out]; simp)])
          go_wp2_with (go_at_call 29; (refine (Hid.out KJ).mono ?_; rintro e w2 ⟨rfl, hb2⟩; obtain ⟨c1, c2, c3, c4, c5, c6⟩ := FW.out w2 hb2; have C4 := hid c4; have C6 := hid c6; clear hb2 c4 c5 c6 q1 y1 q2 y2))
          have t0 := cellOf (set_cells C4.out (.slice none 0 0)) 0
          simp only [List.getElem?_toArray, List.getElem?_cons_zero] at t0
          refine bodyPost_ret (v := .tuple #[.agg #[.slice none 0 0], .int .i64 40]) (by simp [results, Try.results34, go_sem, t0]) rfl ⟨C6.out.setCell (p := ⟨w.heap.size + 1, 0, none⟩) (by show w.heap.size ≤ w.heap.size + 1; omega) _, by rw [HN.out]⟩
        | true =>
          have HY : Hid (resD p bs = some X) := hid (by rw [HRD.out, Hres.out]; unfold resOf; simp only; rw [if_pos ⟨by omega, HS.out.symm⟩])
          go_wp2_with (go_at_call 29; (refine (Hid.out KJ).mono ?_; rintro e w2 ⟨rfl, hb2⟩; obtain ⟨c1, c2, c3, c4, c5, c6⟩ := FW.out w2 hb2; have C4 := hid c4; have C5 := hid c5; have C6 := hid c6; have hs2 := hb2.size; clear hb2 c4 c5 c6 q1 y1 q2 y2))
          have t0 := cellOf (set_cells C4.out (.slice ga gn gc)) 0
          simp only [List.getElem?_toArray, List.getElem?_cons_zero] at t0
          refine bodyPost_ret (v := .tuple #[.agg #[.slice ga gn gc], .int .i64 0]) (by simp [results, Try.results34, go_sem, t0]) rfl ⟨C6.out.setCell (p := ⟨w.heap.size + 1, 0, none⟩) (by show w.heap.size ≤ w.heap.size + 1; omega) _, ?_⟩
          rw [HY.out]
          have hs3 : (w2.setCell ⟨w.heap.size + 1, 0, none⟩ (.slice ga gn gc)).heap.size = w2.heap.size := by simp [World.setCell]
          exact ⟨ga, gn, gc, ns, rfl, (C5.out.keep (fun b hA => Below.heap_setCell _ _ _ _ (by show b ≠ w.heap.size + 1; omega))).imp (fun b hA => ⟨by omega, by rw [hs3]; omega⟩), Hgc.out, HI.out.same⟩
    | succ gi =>
      have hjc : (j : Int) < (mn : Int) := by omega
      have hj0 : (0 : Int) ≤ (j : Int) := by omega
      have hatI : (at' : Int) ≤ (bs.length : Int) := by omega
      have hat0 : (0 : Int) ≤ (at' : Int) := by omega
      have Hj := hid hj
      have Hr0 := hid hres
      have HB := hid HI.out.bel
      have hRd := H.out.below (Nat.le_refl _) HB.out
      have hnl : ns.length = X.length := by have := congrArg List.length HI.out.same; simpa using this
      have hrl : (ns.map (·.1)).length ≤ 1000000 := by rw [List.length_map, hnl, HX.out]; omega
      have FW : Hid (∀ w2 : World, Below wr.heap.size wr w2 → w2.cell? ⟨w.heap.size + 1, 0, none⟩ = some (.slice none 0 0) ∧ w2.frozen? ⟨w.heap.size + 1, 0, none⟩ = false ∧ w2.cell? ⟨w.heap.size + 1 + 1, 0, none⟩ = some (.slice ga gn gc) ∧ w2.heap[w.heap.size + 1]? = some (.cells #[.slice none 0 0] 27 (0, 0)) ∧ MRow w2 (w.heap.size + 3) (.slice ga gn gc) (ns.map (·.1)) ∧ Below w.heap.size w w2) := hid (fun w2 hb => by
        have b1 := (hb.block _ (Array.getElem?_eq_some_iff.1 HI.out.b1).1).trans HI.out.b1
        have b2 := (hb.block _ (Array.getElem?_eq_some_iff.1 HI.out.b2).1).trans HI.out.b2
        exact ⟨cellOf b1 0, freeOf b1 0, cellOf b2 0, b1, HI.out.row.below (Nat.le_refl _) hb, HB.out.trans (hb.mono HB.out.size)⟩)
      clear hres hj hnl
      by_cases hcc : cap = at'
      · have hcc' := hcc.symm
        subst hcc'
        clear hcc
        have hnil : rwD (bs.drop at') = none := by rw [List.drop_of_length_le hcap]; rfl
        have K59 := hid (readRow_v wr _ _ hRd.slA (by rw [List.length_drop]; omega))
        rw [hnil] at K59
        have HN : Hid (resD p bs = none) := hid (by rw [HRD.out, Hr0.out]; simp only [goD, hnil]; rfl)
        clear hRd hnil
        go_wp2_with (go_at_call 59; (refine (Hid.out K59).mono ?_; rintro e w2 ⟨hb2, rfl⟩; obtain ⟨c1, c2, c3, c4, c5, c6⟩ := FW.out w2 hb2; have C4 := hid c4; have C6 := hid c6; clear hb2 c4 c5 c6 q1 y1 q2 y2))
        have t0 := cellOf (set_cells C4.out (.slice none 0 0)) 0
        simp only [List.getElem?_toArray, List.getElem?_cons_zero] at t0
        refine bodyPost_ret (v := .tuple #[.agg #[.slice none 0 0], .int .i64 40]) (by simp [results, Try.results34, go_sem, t0]) rfl ⟨C6.out.setCell (p := ⟨w.heap.size + 1, 0, none⟩) (by show w.heap.size ≤ w.heap.size + 1; omega) _, by rw [HN.out]⟩
      · have K59 := hid (readRow_v wr _ _ (hRd.slB hat hcc) (by rw [List.length_drop]; omega))
        cases hv : rwD (bs.drop at') with
        | none =>
          rw [hv] at K59
          have HN : Hid (resD p bs = none) := hid (by rw [HRD.out, Hr0.out]; simp only [goD, hv]; rfl)
          clear hRd hv
          go_wp2_with (go_at_call 59; (refine (Hid.out K59).mono ?_; rintro e w2 ⟨hb2, rfl⟩; obtain ⟨c1, c2, c3, c4, c5, c6⟩ := FW.out w2 hb2; have C4 := hid c4; have C6 := hid c6; clear hb2 c4 c5 c6 q1 y1 q2 y2))
          have t0 := cellOf (set_cells C4.out (.slice none 0 0)) 0
          simp only [List.getElem?_toArray, List.getElem?_cons_zero] at t0
          refine bodyPost_ret (v := .tuple #[.agg #[.slice none 0 0], .int .i64 40]) (by simp [results, Try.results34, go_sem, t0]) rfl ⟨C6.out.setCell (p := ⟨w.heap.size + 1, 0, none⟩) (by show w.heap.size ≤ w.heap.size + 1; omega) _, by rw [HN.out]⟩
        | some r =>
          obtain ⟨Y, k2⟩ := r
          rw [hv] at K59
          have hk2 := rwD_le (HBy.out.drop at') hv
          rw [List.length_drop] at hk2
          have Hres : Hid (RES = goD rwD bs gi (at' + k2) (X ++ [Y])) := hid (by rw [Hr0.out]; simp only [goD, hv])
          clear hRd hv
          go_wp2_with (first
            | (go_at_call 59; (refine (Hid.out K59).mono ?_; rintro e w2 ⟨hb2, xa, xn, xc, qs, rfl, hx, hxc, he⟩; obtain ⟨c1, c2, c3, c4, c5, c6⟩ := FW.out w2 hb2; have C5 := hid c5; have HX2 := hid hx; have HXC := hid hxc; have HE := hid he; have HB2 := hid hb2; have hs2 := hb2.size; clear hb2 c1 c2 c4 c5 c6 hx hxc he q1 y1 q2 y2))
            | (at_builtin; (refine wpList_appM w2 rfl _ _ rfl (.slice ga gn gc) ⟨xa, xn, xc⟩ (by rfl) (by rfl) (w.heap.size + 3) (ns.map (·.1)) C5.out (by omega) hrl ?_; intro v10 w10 hr10 hg10; obtain ⟨va, vc, e4, _⟩ := hr10.form; obtain ⟨vn, hvn⟩ : ∃ vn, vn = (ns.map (·.1) ++ [(⟨xa, xn, xc⟩ : Sl)]).length := ⟨_, rfl⟩; rw [← hvn] at e4; subst e4; have hgr := HI.out.grown HB2.out hg10; have z10 := cellOf hgr 0; have f10 := freeOf hgr 0; simp only [List.getElem?_toArray, List.getElem?_cons_zero] at z10; have HM := hid (HI.out.more HB2.out HX2.out HXC.out HE.out hr10 hg10); clear hr10 hg10 hvn hgr c3)))
          go_roundg gi
          case measure => omega
          case rel => exact ⟨j + 1, at' + k2, _, _, _, _, _, by have := Hj.out; omega, by rw [List.length_append, HX.out]; rfl, by go_num, by go_num, by omega, Hres.out, HM.out⟩
end Go.Proofs.Ytenfgahedbeekaa

