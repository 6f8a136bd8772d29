/- heap.isMap. -/
import Derived.Test.YtenfgahedbeekaaJAQ
import Derived.BigQuiet
namespace Go.Proofs.Ytenfgahedbeekaa
open Go.RowKit Go.Deep Go.Shelf
set_option linter.unusedVariables false
set_option linter.unusedSimpArgs false

/- Whether a tree of values is of a type. -/
def isV (k : Nat) (p : Pg) (t : TyP) (v : VT (k + 2)) : Bool := isB p t v.1 (v.2.map (hdT (k + 1)))
theorem isV_any (k : Nat) (w : World) (g : PH) (p : Pg) (d : PRd w g p) (a r : Int) (v : VT (k + 2)) (hv : Rds (k + 2) w v) :
    Calls Try.prog 80 #[g.v, ty a r, (hdT (k + 2) v).v] w fun e w' => e = .returned (.bool (isV k p (a, r) v)) ∧ Below w.heap.size w w' :=
  is_any w g p d a r v.1 (v.2.map (hdT (k + 1))) hv.1 (by rw [List.length_map]; exact hv.2.1) hv.2.2.2.1 (fun f hf => by
    simp only [List.mem_map] at hf
    obtain ⟨u, hu, rfl⟩ := hf
    exact (hv.2.2.2.2 u hu).1)
/- Whether an entry may stand where it does. -/
def entV (k : Nat) (p : Pg) (m : Mp) (row : Rw (k + 2)) (i : Nat) : Bool :=
  match row[i]? with
  | none => true
  | some q => isV k p m.key q.1 && isV k p m.val q.2 && (decide (i = 0) || ((row[i - 1]?).map fun o => decide (cmpT (k + 2) o.1 q.1 < 0)).getD true)
def mapV (k : Nat) (p : Pg) (m : Mp) (row : Rw (k + 2)) : Bool := decide (row.length ≤ 24) && (List.range row.length).all (entV k p m row)
theorem mapV_no {k : Nat} {p : Pg} {m : Mp} {row : Rw (k + 2)} {i : Nat} (hi : i < row.length) (h : entV k p m row i = false) : mapV k p m row = false := by
  unfold mapV
  have : (List.range row.length).all (entV k p m row) = false := by
    rw [List.all_eq_false]
    exact ⟨i, List.mem_range.2 hi, by simp [h]⟩
  rw [this]
  simp
theorem mapV_yes {k : Nat} {p : Pg} {m : Mp} {row : Rw (k + 2)} (hl : row.length ≤ 24) (h : ∀ i, i < row.length → entV k p m row i = true) : mapV k p m row = true := by
  unfold mapV
  have : (List.range row.length).all (entV k p m row) = true := by
    rw [List.all_eq_true]
    exact fun i hi => h i (List.mem_range.1 hi)
  rw [this]
  simp [hl]
def mtV (m : Mp) : Value := .agg #[.string m.name, .int .i64 m.key.1, .int .i64 m.key.2, .int .i64 m.val.1, .int .i64 m.val.2]
set_option maxRecDepth 100000 in
set_option maxHeartbeats 2000000 in
theorem isMap_any (k : Nat) (w : World) (g : PH) (p : Pg) (d : PRd w g p) (m : Mp) (a : Option Addr) (n cap : Nat) (row : Rw (k + 2)) (hr : RwR (k + 2) w a n row) :
    Calls Try.prog 53 #[g.v, mtV m, .slice a n cap] w fun e w' => e = .returned (.bool (mapV k p m row)) ∧ Below w.heap.size w w' := by
  have Hn := hid hr.n1
  have hle := hr.n2
  have hle2 : (n : Int) ≤ 1000 := by omega
  have hn0 : (0 : Int) ≤ (n : Int) := by omega
  have R := hid hr
  have K80 := hid (fun (w1 : World) (hb : Below w.heap.size w w1) (x y : Int) (v : VT (k + 2)) (hv : Rds (k + 2) w1 v) => isV_any k w1 g p (d.below (Nat.le_refl _) hb) x y v hv)
  obtain ⟨ra, rn, rc, ma, mn, mc, fa, fn, fc, ea, en, ec⟩ := g
  obtain ⟨nm, ⟨k1, k2⟩, ⟨v1, v2⟩⟩ := m
  simp only [PH.v, mtV, ty] at K80 ⊢
  clear d hr
  obtain ⟨W0, hW0⟩ : ∃ W0, W0 = (w.alloc (.cells #[.slice ra rn rc, .slice ma mn mc, .slice fa fn fc, .slice ea en ec] 50)).alloc (.cells #[.string nm, .int .i64 k1, .int .i64 k2, .int .i64 v1, .int .i64 v2] 75) := ⟨_, rfl⟩
  have q1 : W0.heap[w.heap.size]? = some (.cells #[.slice ra rn rc, .slice ma mn mc, .slice fa fn fc, .slice ea en ec] 50 (0, 0)) := by rw [hW0]; exact (Below.heap_alloc _ _ _ (by simp)).trans (heap_alloc_new w _)
  have q2 : W0.heap[w.heap.size + 1]? = some (.cells #[.string nm, .int .i64 k1, .int .i64 k2, .int .i64 v1, .int .i64 v2] 75 (0, 0)) := by
    have := heap_alloc_new (w.alloc (.cells #[.slice ra rn rc, .slice ma mn mc, .slice fa fn fc, .slice ea en ec] 50)) (.cells #[.string nm, .int .i64 k1, .int .i64 k2, .int .i64 v1, .int .i64 v2] 75)
    rw [World.size_alloc] at this
    rw [hW0]; exact this
  have hb0 : Below w.heap.size w W0 := by rw [hW0]; exact boxes2 _ _ _ _ _
  have FX : Hid (∀ w2 : World, Below W0.heap.size W0 w2 → (w2.cell? ⟨w.heap.size, 0, none⟩ = some (.slice ra rn rc) ∧ w2.cell? ⟨w.heap.size, 1, none⟩ = some (.slice ma mn mc) ∧ w2.cell? ⟨w.heap.size, 2, none⟩ = some (.slice fa fn fc) ∧ w2.cell? ⟨w.heap.size, 3, none⟩ = some (.slice ea en ec) ∧ w2.cell? ⟨w.heap.size + 1, 1, none⟩ = some (.int .i64 k1) ∧ w2.cell? ⟨w.heap.size + 1, 2, none⟩ = some (.int .i64 k2) ∧ w2.cell? ⟨w.heap.size + 1, 3, none⟩ = some (.int .i64 v1) ∧ w2.cell? ⟨w.heap.size + 1, 4, none⟩ = some (.int .i64 v2)) ∧ Below w.heap.size w w2) := hid (fun w2 hb => by
    have bx := (hb.block _ (Array.getElem?_eq_some_iff.1 q1).1).trans q1
    have bz := (hb.block _ (Array.getElem?_eq_some_iff.1 q2).1).trans q2
    exact ⟨⟨cellOf bx 0, cellOf bx 1, cellOf bx 2, cellOf bx 3, cellOf bz 1, cellOf bz 2, cellOf bz 3, cellOf bz 4⟩, hb0.trans (hb.mono hb0.size)⟩)
  have TR : Hid (∀ {Z x y : World}, Below Z.heap.size Z x → Below x.heap.size x y → Below Z.heap.size Z y) := hid (fun h1 h2 => h1.trans (h2.mono h1.size))
  have HB0 := hid hb0
  clear q1 q2 hb0
  by_cases h24 : 24 < n
  · have h24' : (24 : Int) < (n : Int) := by omega
    have HF : Hid (mapV k p ⟨nm, (k1, k2), (v1, v2)⟩ row = false) := hid (by unfold mapV; rw [decide_eq_false (by rw [← Hn.out]; omega)]; rfl)
    go_enter Try.func53, Try.ntmps53
    go_wp2
    rw [← hW0]
    go_ret
    exact ⟨by rw [HF.out]; rfl, HB0.out⟩
  · have h24' : ¬ (24 : Int) < (n : Int) := by omega
    go_enter Try.func53, Try.ntmps53
    go_wp2
    rw [← hW0]
    clear hW0
    go_loopg [14] n (fun gg ii wr => ∃ i : Nat, i + gg = n ∧ ii = .int .i64 (i : Int) ∧ Below W0.heap.size W0 wr ∧ ∀ j, j < i → entV k p ⟨nm, (k1, k2), (v1, v2)⟩ row j = true)
    case atStart => exact ⟨0, by omega, rfl, Below.refl _ _, fun j hj => by omega⟩
    case round =>
      obtain ⟨i, hi', rfl, hbr, hacc⟩ := hrel
      have Hbr := hid hbr
      have Hacc := hid hacc
      clear hacc
      cases gk with
      | zero =>
        have hin2 : i = n := by omega
        subst hin2
        clear hi' hbr
        have HT : Hid (mapV k p ⟨nm, (k1, k2), (v1, v2)⟩ row = true) := hid (mapV_yes (by rw [← Hn.out]; omega) (by rw [← Hn.out]; exact Hacc.out))
        go_wp2
        go_ret
        exact ⟨by rw [HT.out]; rfl, (FX.out _ Hbr.out).2⟩
      | succ gi =>
        have hlt0 : i < n := by omega
        have hlt : (i : Int) < (n : Int) := by omega
        have hi00 : (0 : Int) ≤ (i : Int) := by omega
        have Hi := hid hi'
        obtain ⟨q, hq⟩ : ∃ q, row[i]? = some q := ⟨row[i]'(by rw [← Hn.out]; exact hlt0), List.getElem?_eq_getElem _⟩
        have Hq := hid hq
        obtain ⟨⟨f0, f1, f2, f3, f4, f5, f6, f7⟩, hbw⟩ := FX.out wr hbr
        have hR := R.out.below (Nat.le_refl _) hbw
        obtain ⟨b1, o1, ea', dh⟩ := hR.rd i (enT (k + 2) q) (by rw [List.getElem?_map, hq]; rfl)
        subst ea'
        have HK : Hid (∀ W', Below W0.heap.size W0 W' → Rds (k + 2) W' q.1 ∧ Rds (k + 2) W' q.2) := hid (fun W' hb => (R.out.below (Nat.le_refl _) (FX.out W' hb).2).el q (List.mem_of_getElem? Hq.out))
        have C1 := hid (fun (W' : World) (hb : Below W0.heap.size W0 W') => K80.out W' (FX.out W' hb).2 k1 k2 q.1 (HK.out W' hb).1)
        have C2 := hid (fun (W' : World) (hb : Below W0.heap.size W0 W') => K80.out W' (FX.out W' hb).2 v1 v2 q.2 (HK.out W' hb).2)
        have d0 := dh 0 (by omega)
        have d1 := dh 1 (by omega)
        have d2 := dh 2 (by omega)
        have d3 := dh 3 (by omega)
        have d4 := dh 4 (by omega)
        have d5 := dh 5 (by omega)
        have d6 := dh 6 (by omega)
        have d7 := dh 7 (by omega)
        have d8 := dh 8 (by omega)
        have d9 := dh 9 (by omega)
        simp only [En.cs, enT, List.getElem?_cons_zero, List.getElem?_cons_succ, Nat.add_zero] at d0 d1 d2 d3 d4 d5 d6 d7 d8 d9
        have HE : Hid (entV k p ⟨nm, (k1, k2), (v1, v2)⟩ row i = (isV k p (k1, k2) q.1 && isV k p (v1, v2) q.2 && (decide (i = 0) || ((row[i - 1]?).map fun o => decide (cmpT (k + 2) o.1 q.1 < 0)).getD true))) := hid (by unfold entV; rw [Hq.out])
        have HNO : Hid (entV k p ⟨nm, (k1, k2), (v1, v2)⟩ row i = false → mapV k p ⟨nm, (k1, k2), (v1, v2)⟩ row = false) := hid (fun h => mapV_no (by rw [← Hn.out]; exact hlt0) h)
        have PV : Hid (∀ (o : VT (k + 2) × VT (k + 2)), row[i - 1]? = some o → ∀ W', Below W0.heap.size W0 W' → Calls Try.prog 47 #[(hdT (k + 2) o.1).v, (hdT (k + 2) q.1).v] W' fun e w' => e = .returned (.int .i64 (cmpT (k + 2) o.1 q.1)) ∧ Below W'.heap.size W' w') := hid (fun o ho W' hb => compare_any (k + 2) W' o.1 q.1 (((R.out.below (Nat.le_refl _) (FX.out W' hb).2).el o (List.mem_of_getElem? ho)).1) (HK.out W' hb).1)
        obtain ⟨E1, hE1⟩ : ∃ E, E = isV k p (k1, k2) q.1 := ⟨_, rfl⟩
        obtain ⟨E2, hE2⟩ : ∃ E, E = isV k p (v1, v2) q.2 := ⟨_, rfl⟩
        rw [← hE1] at C1 HE
        rw [← hE2] at C2 HE
        clear hE1 hE2 hR hbw dh hi' hq K80
        obtain ⟨hq1, ehq1⟩ : ∃ h, h = hdT (k + 2) q.1 := ⟨_, rfl⟩
        have HQ1 := hid ehq1
        rw [← ehq1] at C1 PV d0 d1 d2 d3 d4
        clear ehq1
        generalize hdT (k + 2) q.2 = hq2 at *
        obtain ⟨xk, xi, xt, xr, xa, xn, xc⟩ := hq1
        obtain ⟨yk, yi, yt, yr, ya, yn, yc⟩ := hq2
        simp only [Hd.v] at C1 C2 PV d0 d1 d2 d3 d4 d5 d6 d7 d8 d9
        obtain ⟨W1, hW1⟩ : ∃ W1, W1 = wr.alloc (.cells #[.int .i64 xk, .int .i64 xi, .string xt, .int .i64 xr, .slice xa xn xc, .int .i64 yk, .int .i64 yi, .string yt, .int .i64 yr, .slice ya yn yc] 81) := ⟨_, rfl⟩
        have n1 : W1.heap[wr.heap.size]? = some (.cells #[.int .i64 xk, .int .i64 xi, .string xt, .int .i64 xr, .slice xa xn xc, .int .i64 yk, .int .i64 yi, .string yt, .int .i64 yr, .slice ya yn yc] 81 (0, 0)) := by rw [hW1]; exact heap_alloc_new wr _
        have b1' : Below wr.heap.size wr W1 := by rw [hW1]; exact (Below.refl _ wr).alloc (Nat.le_refl _) _
        have B1 := hid (TR.out Hbr.out b1')
        have FY : Hid (∀ w2 : World, Below W1.heap.size W1 w2 → (w2.cell? ⟨wr.heap.size, 0, none⟩ = some (.int .i64 xk) ∧ w2.cell? ⟨wr.heap.size, 1, none⟩ = some (.int .i64 xi) ∧ w2.cell? ⟨wr.heap.size, 2, none⟩ = some (.string xt) ∧ w2.cell? ⟨wr.heap.size, 3, none⟩ = some (.int .i64 xr) ∧ w2.cell? ⟨wr.heap.size, 4, none⟩ = some (.slice xa xn xc) ∧ w2.cell? ⟨wr.heap.size, 5, none⟩ = some (.int .i64 yk) ∧ w2.cell? ⟨wr.heap.size, 6, none⟩ = some (.int .i64 yi) ∧ w2.cell? ⟨wr.heap.size, 7, none⟩ = some (.string yt) ∧ w2.cell? ⟨wr.heap.size, 8, none⟩ = some (.int .i64 yr) ∧ w2.cell? ⟨wr.heap.size, 9, none⟩ = some (.slice ya yn yc))) := hid (fun w2 hb => by
          have bx := (hb.block _ (Array.getElem?_eq_some_iff.1 n1).1).trans n1
          exact ⟨cellOf bx 0, cellOf bx 1, cellOf bx 2, cellOf bx 3, cellOf bx 4, cellOf bx 5, cellOf bx 6, cellOf bx 7, cellOf bx 8, cellOf bx 9⟩)
        clear n1 b1' f0 f1 f2 f3 f4 f5 f6 f7
        go_upto_region 6 with fail
        rw [← hW1]
        clear hW1 d0 d1 d2 d3 d4 d5 d6 d7 d8 d9
        obtain ⟨⟨f0, f1, f2, f3, f4, f5, f6, f7⟩, _⟩ := FX.out W1 B1.out
        obtain ⟨y0, y1, y2, y3, y4, y5, y6, y7, y8, y9⟩ := FY.out W1 (Below.refl _ _)
        cases E1 with
        | false =>
          have HF := hid (HNO.out (by rw [HE.out]; rfl))
          go_wp2_with (go_at_call 80; (refine (C1.out _ B1.out).mono ?_; rintro e w2 ⟨rfl, hb2⟩; have B2 := hid (TR.out B1.out hb2); clear hb2))
          go_ret
          exact ⟨by rw [HF.out]; rfl, (FX.out _ B2.out).2⟩
        | true =>
          cases E2 with
          | false =>
            have HF := hid (HNO.out (by rw [HE.out]; rfl))
            go_wp2_with (first
              | (go_at_call 80; (refine (C1.out _ B1.out).mono ?_; rintro e w2 ⟨rfl, hb2⟩; have B2 := hid (TR.out B1.out hb2); have H2 := hid hb2; clear hb2 C1 f0 f1 f2 f3 f4 f5 f6 f7 y0 y1 y2 y3 y4 y5 y6 y7 y8 y9; obtain ⟨⟨f0, f1, f2, f3, f4, f5, f6, f7⟩, _⟩ := FX.out w2 B2.out; obtain ⟨y0, y1, y2, y3, y4, y5, y6, y7, y8, y9⟩ := FY.out w2 H2.out))
              | (go_at_call 80; (refine (C2.out _ B2.out).mono ?_; rintro e w3 ⟨rfl, hb3⟩; have B3 := hid (TR.out B2.out hb3); clear hb3)))
            go_ret
            exact ⟨by rw [HF.out]; rfl, (FX.out _ B3.out).2⟩
          | true =>
            go_upto_region 8 with (first
              | (go_at_call 80; (refine (C1.out _ B1.out).mono ?_; rintro e w2 ⟨rfl, hb2⟩; have B2 := hid (TR.out B1.out hb2); have H2 := hid hb2; clear hb2 C1 f0 f1 f2 f3 f4 f5 f6 f7 y0 y1 y2 y3 y4 y5 y6 y7 y8 y9; obtain ⟨⟨f0, f1, f2, f3, f4, f5, f6, f7⟩, _⟩ := FX.out w2 B2.out; obtain ⟨y0, y1, y2, y3, y4, y5, y6, y7, y8, y9⟩ := FY.out w2 H2.out))
              | (go_at_call 80; (refine (C2.out _ B2.out).mono ?_; rintro e w3 ⟨rfl, hb3⟩; have B3 := hid (TR.out B2.out hb3); have H3 := hid (TR.out H2.out hb3); clear hb3 f0 f1 f2 f3 f4 f5 f6 f7 y0 y1 y2 y3 y4 y5 y6 y7 y8 y9)))
            by_cases hi0 : i = 0
            · subst hi0
              have HT := hid (show entV k p ⟨nm, (k1, k2), (v1, v2)⟩ row 0 = true from by rw [HE.out]; rfl)
              go_quiet (fail)
              go_wp2
              go_roundg gi
              case measure => omega
              case rel => exact ⟨1, by have := Hi.out; omega, rfl, B3.out.trans ⟨rfl, rfl, rfl, Nat.le_refl _, fun _ _ => rfl⟩, fun j hj => by
                obtain rfl : j = 0 := by omega
                exact HT.out⟩
            · obtain ⟨i0, hi0'⟩ : ∃ i0, i0 = i - 1 := ⟨_, rfl⟩
              have Hi0 := hid hi0'
              have hsub : IntKind.i64.wrap ((i : Int) - 1) = (i0 : Int) := by rw [IntKind.wrap_i64]; omega
              have hgt : (0 : Int) < (i : Int) := by omega
              have hgtb : decide (0 < i) = true := decide_eq_true (by omega)
              have hs0 : (0 : Int) ≤ (i0 : Int) := by omega
              have hs1 : (i0 : Int) < (n : Int) := by omega
              have hs2 : i0 < n := by omega
              clear hi0'
              obtain ⟨o, ho⟩ : ∃ o, row[i0]? = some o := ⟨row[i0]'(by rw [← Hn.out]; exact hs2), List.getElem?_eq_getElem _⟩
              have CP := hid (PV.out o (by rw [← Hi0.out]; exact ho))
              obtain ⟨b2, o2, ea2, gh⟩ := (R.out.below (Nat.le_refl _) (FX.out w3 B3.out).2).rd i0 (enT (k + 2) o) (by rw [List.getElem?_map, ho]; rfl)
              cases ea2
              have z0 := gh 0 (by omega)
              have z1 := gh 1 (by omega)
              have z2 := gh 2 (by omega)
              have z3 := gh 3 (by omega)
              have z4 := gh 4 (by omega)
              simp only [En.cs, enT, List.getElem?_cons_zero, List.getElem?_cons_succ, Nat.add_zero] at z0 z1 z2 z3 z4
              have HE2 : Hid (entV k p ⟨nm, (k1, k2), (v1, v2)⟩ row i = decide (cmpT (k + 2) o.1 q.1 < 0)) := hid (by rw [HE.out, ← Hi0.out, ho, decide_eq_false hi0]; simp)
              obtain ⟨cv, hcv⟩ : ∃ cv, cv = cmpT (k + 2) o.1 q.1 := ⟨_, rfl⟩
              rw [← hcv] at CP HE2
              clear hcv gh ho PV
              generalize hdT (k + 2) o.1 = ho1 at *
              obtain ⟨zk, zi, zt, zr, za, zn, zc⟩ := ho1
              simp only [Hd.v] at CP z0 z1 z2 z3 z4
              obtain ⟨y0, y1, y2, y3, y4, _⟩ := FY.out w3 H3.out
              have SE : Hid (∀ W' : World, Below W0.heap.size W0 W' → Below w3.heap.size w3 W' → (W'.cell? ⟨b1, o1 + i0 * 10, none⟩ = some (.int .i64 zk) ∧ W'.cell? ⟨b1, o1 + i0 * 10 + 1, none⟩ = some (.int .i64 zi) ∧ W'.cell? ⟨b1, o1 + i0 * 10 + 2, none⟩ = some (.string zt) ∧ W'.cell? ⟨b1, o1 + i0 * 10 + 3, none⟩ = some (.int .i64 zr) ∧ W'.cell? ⟨b1, o1 + i0 * 10 + 4, none⟩ = some (.slice za zn zc) ∧ W'.cell? ⟨wr.heap.size, 0, none⟩ = some (.int .i64 xk) ∧ W'.cell? ⟨wr.heap.size, 1, none⟩ = some (.int .i64 xi) ∧ W'.cell? ⟨wr.heap.size, 2, none⟩ = some (.string xt) ∧ W'.cell? ⟨wr.heap.size, 3, none⟩ = some (.int .i64 xr) ∧ W'.cell? ⟨wr.heap.size, 4, none⟩ = some (.slice xa xn xc))) := hid (fun W' _ hb => by
                have ge : ∀ (p : Addr) (v : Value), w3.cell? p = some v → W'.cell? p = some v := fun p v e => (hb.cell (World.block_lt_of_cell? w3 _ e)).trans e
                exact ⟨ge _ _ z0, ge _ _ z1, ge _ _ z2, ge _ _ z3, ge _ _ z4, ge _ _ y0, ge _ _ y1, ge _ _ y2, ge _ _ y3, ge _ _ y4⟩)
              have R3 := hid ((Below.refl w3.heap.size w3).drew)
              have D3 := hid B3.out.drew
              by_cases hc : cv < 0
              · have hc' : ¬ (0 ≤ cv) := by omega
                have HT := hid (show entV k p ⟨nm, (k1, k2), (v1, v2)⟩ row i = true from by rw [HE2.out]; exact decide_eq_true hc)
                go_region_held3 (fun W' => W'.cell? ⟨b1, o1 + i0 * 10, none⟩ = some (.int .i64 zk) ∧ W'.cell? ⟨b1, o1 + i0 * 10 + 1, none⟩ = some (.int .i64 zi) ∧ W'.cell? ⟨b1, o1 + i0 * 10 + 2, none⟩ = some (.string zt) ∧ W'.cell? ⟨b1, o1 + i0 * 10 + 3, none⟩ = some (.int .i64 zr) ∧ W'.cell? ⟨b1, o1 + i0 * 10 + 4, none⟩ = some (.slice za zn zc) ∧ W'.cell? ⟨wr.heap.size, 0, none⟩ = some (.int .i64 xk) ∧ W'.cell? ⟨wr.heap.size, 1, none⟩ = some (.int .i64 xi) ∧ W'.cell? ⟨wr.heap.size, 2, none⟩ = some (.string xt) ∧ W'.cell? ⟨wr.heap.size, 3, none⟩ = some (.int .i64 xr) ∧ W'.cell? ⟨wr.heap.size, 4, none⟩ = some (.slice xa xn xc)) (first | with_reducible exact SE.out _ D3.out R3.out | with_reducible exact SE.out _ D4.out R4.out | go_keep) ((first
                  | (go_at_call 47; (refine (CP.out _ D3.out).mono ?_; rintro e w4 ⟨rfl, hb4⟩; have D4 := hid (TR.out D3.out hb4); have R4 := hid (TR.out R3.out hb4); clear hb4))))
                go_wp2
                go_roundg gi
                case measure => omega
                case rel => exact ⟨i + 1, by have := Hi.out; omega, by go_num, D4.out, fun j hj => by
                  rcases Nat.lt_or_ge j i with h | h
                  · exact Hacc.out j h
                  · obtain rfl : j = i := by omega
                    exact HT.out⟩
              · have hc' : 0 ≤ cv := by omega
                have HF := hid (HNO.out (by rw [HE2.out]; exact decide_eq_false hc))
                go_region_held3 (fun W' => W'.cell? ⟨b1, o1 + i0 * 10, none⟩ = some (.int .i64 zk) ∧ W'.cell? ⟨b1, o1 + i0 * 10 + 1, none⟩ = some (.int .i64 zi) ∧ W'.cell? ⟨b1, o1 + i0 * 10 + 2, none⟩ = some (.string zt) ∧ W'.cell? ⟨b1, o1 + i0 * 10 + 3, none⟩ = some (.int .i64 zr) ∧ W'.cell? ⟨b1, o1 + i0 * 10 + 4, none⟩ = some (.slice za zn zc) ∧ W'.cell? ⟨wr.heap.size, 0, none⟩ = some (.int .i64 xk) ∧ W'.cell? ⟨wr.heap.size, 1, none⟩ = some (.int .i64 xi) ∧ W'.cell? ⟨wr.heap.size, 2, none⟩ = some (.string xt) ∧ W'.cell? ⟨wr.heap.size, 3, none⟩ = some (.int .i64 xr) ∧ W'.cell? ⟨wr.heap.size, 4, none⟩ = some (.slice xa xn xc)) (first | with_reducible exact SE.out _ D3.out R3.out | with_reducible exact SE.out _ D4.out R4.out | go_keep) ((first
                  | (go_at_call 47; (refine (CP.out _ D3.out).mono ?_; rintro e w4 ⟨rfl, hb4⟩; have D4 := hid (TR.out D3.out hb4); have R4 := hid (TR.out R3.out hb4); clear hb4))))
                go_wp2
                go_ret
                exact ⟨by rw [HF.out]; rfl, (FX.out _ D4.out).2⟩
end Go.Proofs.Ytenfgahedbeekaa

namespace Go.Proofs.Ytenfgahedbeekaa
open Go.RowKit Go.Deep Go.Shelf
set_option linter.unusedVariables false
set_option linter.unusedSimpArgs false

def mpV (k : Nat) (p : Pg) (rows : List (Rw (k + 2))) (i : Nat) : Bool :=
  match p.maps[i]?, rows[i]? with
  | some m, some r => mapV k p m r
  | _, _ => true
def stV (k : Nat) (p : Pg) (rows : List (Rw (k + 2))) : Bool := rightB p && decide (rows.length = p.maps.length) && (List.range p.maps.length).all (mpV k p rows)
set_option maxRecDepth 100000 in
set_option maxHeartbeats 2000000 in
theorem heapIs_any (k : Nat) (w : World) (g : PH) (p : Pg) (d : PRd w g p) (sa : Option Addr) (sn sc : Nat) (ms : List (Sl × Rw (k + 2))) (hs : StR (k + 2) w sa sn ms) :
    Calls Try.prog 29 #[g.v, .agg #[.slice sa sn sc]] w fun e w' => e = .returned (.bool (stV k p (ms.map (·.2)))) ∧ Below w.heap.size w w' := by
  have Hs := hid hs.n1
  have hle := hs.n2
  have hle2 : (sn : Int) ≤ 1000 := by omega
  have hn0 : (0 : Int) ≤ (sn : Int) := by omega
  have R := hid hs
  have Hm := hid d.m.n1
  have hm2 := d.m.n2
  have DM := hid d.m
  have K51 := hid (fun (w1 : World) (hb : Below w.heap.size w w1) => right_any w1 g p (d.below (Nat.le_refl _) hb))
  have K53 := hid (fun (w1 : World) (hb : Below w.heap.size w w1) (m : Mp) (a : Option Addr) (n cap : Nat) (row : Rw (k + 2)) (hr : RwR (k + 2) w1 a n row) => isMap_any k w1 g p (d.below (Nat.le_refl _) hb) m a n cap row hr)
  obtain ⟨ra, rn, rc, ma, mn, mc, fa, fn, fc, ea, en, ec⟩ := g
  simp only [PH.v] at K51 K53 Hm hm2 DM ⊢
  have hmI : (mn : Int) ≤ 9223372036854775807 := by omega
  clear d hs
  obtain ⟨W0, hW0⟩ : ∃ W0, W0 = (w.alloc (.cells #[.slice ra rn rc, .slice ma mn mc, .slice fa fn fc, .slice ea en ec] 50)).alloc (.cells #[.slice sa sn sc] 27) := ⟨_, rfl⟩
  have q1 : W0.heap[w.heap.size]? = some (.cells #[.slice ra rn rc, .slice ma mn mc, .slice fa fn fc, .slice ea en ec] 50 (0, 0)) := by rw [hW0]; exact (Below.heap_alloc _ _ _ (by simp)).trans (heap_alloc_new w _)
  have q2 : W0.heap[w.heap.size + 1]? = some (.cells #[.slice sa sn sc] 27 (0, 0)) := by
    have := heap_alloc_new (w.alloc (.cells #[.slice ra rn rc, .slice ma mn mc, .slice fa fn fc, .slice ea en ec] 50)) (.cells #[.slice sa sn sc] 27)
    rw [World.size_alloc] at this
    rw [hW0]; exact this
  have hb0 : Below w.heap.size w W0 := by rw [hW0]; exact boxes2 _ _ _ _ _
  have FX : Hid (∀ w2 : World, Below W0.heap.size W0 w2 → (w2.cell? ⟨w.heap.size, 0, none⟩ = some (.slice ra rn rc) ∧ w2.cell? ⟨w.heap.size, 1, none⟩ = some (.slice ma mn mc) ∧ w2.cell? ⟨w.heap.size, 2, none⟩ = some (.slice fa fn fc) ∧ w2.cell? ⟨w.heap.size, 3, none⟩ = some (.slice ea en ec) ∧ w2.cell? ⟨w.heap.size + 1, 0, none⟩ = some (.slice sa sn sc)) ∧ Below w.heap.size w w2) := hid (fun w2 hb => by
    have bx := (hb.block _ (Array.getElem?_eq_some_iff.1 q1).1).trans q1
    have bz := (hb.block _ (Array.getElem?_eq_some_iff.1 q2).1).trans q2
    exact ⟨⟨cellOf bx 0, cellOf bx 1, cellOf bx 2, cellOf bx 3, cellOf bz 0⟩, hb0.trans (hb.mono hb0.size)⟩)
  have TR : Hid (∀ {Z x y : World}, Below Z.heap.size Z x → Below x.heap.size x y → Below Z.heap.size Z y) := hid (fun h1 h2 => h1.trans (h2.mono h1.size))
  have HB0 := hid hb0
  obtain ⟨⟨f0, f1, f2, f3, f4⟩, _⟩ := FX.out W0 (Below.refl _ _)
  clear q1 q2 hb0
  have HL : Hid ((ms.map (·.2)).length = sn) := hid (by rw [List.length_map]; exact Hs.out.symm)
  have A51 : Hid (Calls Try.prog 51 #[.agg #[.slice ra rn rc, .slice ma mn mc, .slice fa fn fc, .slice ea en ec]] W0 fun e w' => e = .returned (.bool (rightB p)) ∧ Below W0.heap.size W0 w') := hid (K51.out W0 HB0.out)
  cases hR : rightB p with
  | false =>
    rw [hR] at A51
    have HF : Hid (stV k p (ms.map (·.2)) = false) := hid (by unfold stV; rw [hR]; rfl)
    go_enter Try.func29, Try.ntmps29
    go_upto_region 1 with fail
    rw [← hW0]
    clear hW0
    go_wp2_with (go_at_call 51; (refine (A51.out).mono ?_; rintro e w1 ⟨rfl, hb1⟩; have B1 := hid hb1; clear hb1))
    go_ret
    exact ⟨by rw [HF.out]; rfl, (FX.out _ B1.out).2⟩
  | true =>
    rw [hR] at A51
    by_cases hl : sn = mn
    · subst hl
      go_enter Try.func29, Try.ntmps29
      go_upto_region 1 with fail
      rw [← hW0]
      clear hW0
      go_wp2_with (go_at_call 51; (refine (A51.out).mono ?_; rintro e w1 ⟨rfl, hb1⟩; have B1 := hid hb1; clear f0 f1 f2 f3 f4 hb1; obtain ⟨⟨f0, f1, f2, f3, f4⟩, _⟩ := FX.out w1 B1.out))
      have hsI : (sn : Int) ≤ 1000 := hle2
      go_loopg [22] sn (fun gg ii wr => ∃ i : Nat, i + gg = sn ∧ ii = .int .i64 (i : Int) ∧ Below W0.heap.size W0 wr ∧ ∀ j, j < i → mpV k p (ms.map (·.2)) j = true)
      case atStart => exact ⟨0, by omega, rfl, B1.out, fun j hj => by omega⟩
      case round =>
        obtain ⟨i, hi', rfl, hbr, hacc⟩ := hrel
        have Hbr := hid hbr
        have Hacc := hid hacc
        clear hacc f0 f1 f2 f3 f4
        cases gk with
        | zero =>
          have hin2 : i = sn := by omega
          subst hin2
          clear hi' hbr
          have HT : Hid (stV k p (ms.map (·.2)) = true) := hid (by
            unfold stV
            rw [hR, decide_eq_true (by rw [HL.out, ← Hm.out])]
            simp only [Bool.true_and]
            rw [List.all_eq_true]
            intro j hj
            exact Hacc.out j (by rw [Hm.out]; exact List.mem_range.1 hj))
          go_wp2
          go_ret
          exact ⟨by rw [HT.out]; rfl, (FX.out _ Hbr.out).2⟩
        | succ gi =>
          have hlt0 : i < sn := by omega
          have hlt : (i : Int) < (sn : Int) := by omega
          have hi00 : (0 : Int) ≤ (i : Int) := by omega
          have Hi := hid hi'
          obtain ⟨⟨f0, f1, f2, f3, f4⟩, hbw⟩ := FX.out wr hbr
          obtain ⟨m, hm⟩ : ∃ m, p.maps[i]? = some m := ⟨p.maps[i]'(by rw [← Hm.out]; exact hlt0), List.getElem?_eq_getElem _⟩
          obtain ⟨x, hx⟩ : ∃ x, ms[i]? = some x := ⟨ms[i]'(by rw [← Hs.out]; exact hlt0), List.getElem?_eq_getElem _⟩
          obtain ⟨b2, o2, ea2, _, dm⟩ := (DM.out.below (Nat.le_refl _) hbw).rd i m.cs (by rw [List.getElem?_map, hm]; rfl)
          subst ea2
          obtain ⟨b1, o1, ea1, dc⟩ := (R.out.below (Nat.le_refl _) hbw).rd i x.1 (by rw [List.getElem?_map, hx]; rfl)
          subst ea1
          have hrow := ((R.out.below (Nat.le_refl _) hbw).el x (List.mem_of_getElem? hx)).1
          have HRow := hid hrow
          have HMp : Hid (mpV k p (ms.map (·.2)) i = mapV k p m x.2) := hid (by unfold mpV; rw [hm, List.getElem?_map, hx]; rfl)
          have HNO : Hid (mpV k p (ms.map (·.2)) i = false → stV k p (ms.map (·.2)) = false) := hid (fun h => by
            unfold stV
            have : (List.range p.maps.length).all (mpV k p (ms.map (·.2))) = false := by
              rw [List.all_eq_false]
              exact ⟨i, List.mem_range.2 (by rw [← Hm.out]; exact hlt0), by simp [h]⟩
            rw [this]
            simp)
          have m0 := dm 0 (by omega)
          have m1 := dm 1 (by omega)
          have m2 := dm 2 (by omega)
          have m3 := dm 3 (by omega)
          have m4 := dm 4 (by omega)
          obtain ⟨⟨xa, xn, xc⟩, xr⟩ := x
          obtain ⟨nm, ⟨k1, k2⟩, ⟨v1, v2⟩⟩ := m
          simp only [Mp.cs, List.getElem?_cons_zero, List.getElem?_cons_succ, Nat.add_zero] at m0 m1 m2 m3 m4
          simp only [Sl.v] at dc
          simp only at HRow HMp
          obtain ⟨W1, hW1⟩ : ∃ W1, W1 = wr.alloc (.cells #[.string nm, .int .i64 k1, .int .i64 k2, .int .i64 v1, .int .i64 v2] 75) := ⟨_, rfl⟩
          have n1 : W1.heap[wr.heap.size]? = some (.cells #[.string nm, .int .i64 k1, .int .i64 k2, .int .i64 v1, .int .i64 v2] 75 (0, 0)) := by rw [hW1]; exact heap_alloc_new wr _
          have b1' : Below wr.heap.size wr W1 := by rw [hW1]; exact (Below.refl _ wr).alloc (Nat.le_refl _) _
          have B1' := hid (TR.out Hbr.out b1')
          have SE : Hid (∀ W' : World, Below W1.heap.size W1 W' → (W'.cell? ⟨w.heap.size, 0, none⟩ = some (.slice ra rn rc) ∧ W'.cell? ⟨w.heap.size, 1, none⟩ = some (.slice (some ⟨b2, o2, none⟩) sn mc) ∧ W'.cell? ⟨w.heap.size, 2, none⟩ = some (.slice fa fn fc) ∧ W'.cell? ⟨w.heap.size, 3, none⟩ = some (.slice ea en ec) ∧ W'.cell? ⟨w.heap.size + 1, 0, none⟩ = some (.slice (some ⟨b1, o1, none⟩) sn sc) ∧ W'.cell? ⟨b1, o1 + i, none⟩ = some (.slice xa xn xc) ∧ W'.cell? ⟨wr.heap.size, 0, none⟩ = some (.string nm) ∧ W'.cell? ⟨wr.heap.size, 1, none⟩ = some (.int .i64 k1) ∧ W'.cell? ⟨wr.heap.size, 2, none⟩ = some (.int .i64 k2) ∧ W'.cell? ⟨wr.heap.size, 3, none⟩ = some (.int .i64 v1) ∧ W'.cell? ⟨wr.heap.size, 4, none⟩ = some (.int .i64 v2))) := hid (fun W' hb => by
            have hbb := TR.out b1' hb
            have ge : ∀ (p : Addr) (v : Value), wr.cell? p = some v → W'.cell? p = some v := fun p v e => (hbb.cell (World.block_lt_of_cell? wr _ e)).trans e
            have bx := (hb.block _ (Array.getElem?_eq_some_iff.1 n1).1).trans n1
            exact ⟨ge _ _ f0, ge _ _ f1, ge _ _ f2, ge _ _ f3, ge _ _ f4, ge _ _ dc, cellOf bx 0, cellOf bx 1, cellOf bx 2, cellOf bx 3, cellOf bx 4⟩)
          have R3 := hid ((Below.refl W1.heap.size W1).drew)
          have D3 := hid (TR.out B1'.out R3.out)
          have CP := hid (K53.out W1.drew (FX.out _ D3.out).2 ⟨nm, (k1, k2), (v1, v2)⟩ xa xn xc xr (((R.out.below (Nat.le_refl _) (FX.out _ D3.out).2).el (⟨xa, xn, xc⟩, xr) (List.mem_of_getElem? hx)).1))
          obtain ⟨E, hE⟩ : ∃ E, E = mapV k p ⟨nm, (k1, k2), (v1, v2)⟩ xr := ⟨_, rfl⟩
          rw [← hE] at CP HMp
          simp only [mtV] at CP
          clear hE n1 b1' hm hx dm hrow hi' hbw
          go_upto_region 6 with fail
          rw [← hW1]
          clear hW1 m0 m1 m2 m3 m4
          obtain ⟨g0, g1, g2, g3, g4, g5, g6, g7, g8, g9, g10⟩ := SE.out W1 (Below.refl _ _)
          cases E with
          | false =>
            have HF := hid (HNO.out HMp.out)
            go_region_held3 (fun W' => W'.cell? ⟨w.heap.size, 0, none⟩ = some (.slice ra rn rc) ∧ W'.cell? ⟨w.heap.size, 1, none⟩ = some (.slice (some ⟨b2, o2, none⟩) sn mc) ∧ W'.cell? ⟨w.heap.size, 2, none⟩ = some (.slice fa fn fc) ∧ W'.cell? ⟨w.heap.size, 3, none⟩ = some (.slice ea en ec) ∧ W'.cell? ⟨w.heap.size + 1, 0, none⟩ = some (.slice (some ⟨b1, o1, none⟩) sn sc) ∧ W'.cell? ⟨b1, o1 + i, none⟩ = some (.slice xa xn xc) ∧ W'.cell? ⟨wr.heap.size, 0, none⟩ = some (.string nm) ∧ W'.cell? ⟨wr.heap.size, 1, none⟩ = some (.int .i64 k1) ∧ W'.cell? ⟨wr.heap.size, 2, none⟩ = some (.int .i64 k2) ∧ W'.cell? ⟨wr.heap.size, 3, none⟩ = some (.int .i64 v1) ∧ W'.cell? ⟨wr.heap.size, 4, none⟩ = some (.int .i64 v2)) (first | with_reducible exact SE.out _ R3.out | with_reducible exact SE.out _ R4.out | go_keep) ((first
              | (go_at_call 53; (refine (CP.out).mono ?_; rintro e w4 ⟨rfl, hb4⟩; have R4 := hid (TR.out R3.out hb4); clear hb4))))
            go_wp2
            go_ret
            exact ⟨by rw [HF.out]; rfl, (FX.out _ (TR.out B1'.out R4.out)).2⟩
          | true =>
            go_region_held3 (fun W' => W'.cell? ⟨w.heap.size, 0, none⟩ = some (.slice ra rn rc) ∧ W'.cell? ⟨w.heap.size, 1, none⟩ = some (.slice (some ⟨b2, o2, none⟩) sn mc) ∧ W'.cell? ⟨w.heap.size, 2, none⟩ = some (.slice fa fn fc) ∧ W'.cell? ⟨w.heap.size, 3, none⟩ = some (.slice ea en ec) ∧ W'.cell? ⟨w.heap.size + 1, 0, none⟩ = some (.slice (some ⟨b1, o1, none⟩) sn sc) ∧ W'.cell? ⟨b1, o1 + i, none⟩ = some (.slice xa xn xc) ∧ W'.cell? ⟨wr.heap.size, 0, none⟩ = some (.string nm) ∧ W'.cell? ⟨wr.heap.size, 1, none⟩ = some (.int .i64 k1) ∧ W'.cell? ⟨wr.heap.size, 2, none⟩ = some (.int .i64 k2) ∧ W'.cell? ⟨wr.heap.size, 3, none⟩ = some (.int .i64 v1) ∧ W'.cell? ⟨wr.heap.size, 4, none⟩ = some (.int .i64 v2)) (first | with_reducible exact SE.out _ R3.out | with_reducible exact SE.out _ R4.out | go_keep) ((first
              | (go_at_call 53; (refine (CP.out).mono ?_; rintro e w4 ⟨rfl, hb4⟩; have R4 := hid (TR.out R3.out hb4); clear hb4))))
            go_wp2
            go_roundg gi
            case measure => omega
            case rel => exact ⟨i + 1, by have := Hi.out; omega, by go_num, TR.out B1'.out R4.out, fun j hj => by
              rcases Nat.lt_or_ge j i with h | h
              · exact Hacc.out j h
              · obtain rfl : j = i := by omega
                exact HMp.out⟩
    · have hl' : ¬ (sn : Int) = (mn : Int) := by omega
      have hlb : ((sn : Int) == (mn : Int)) = false := by simpa using hl'
      have hlc : ((sn : Int) != (mn : Int)) = true := by simp [hl']
      have HF : Hid (stV k p (ms.map (·.2)) = false) := hid (by unfold stV; rw [hR, decide_eq_false (by rw [HL.out, ← Hm.out]; exact hl)]; rfl)
      go_enter Try.func29, Try.ntmps29
      go_upto_region 1 with fail
      rw [← hW0]
      clear hW0
      go_wp2_with (go_at_call 51; (refine (A51.out).mono ?_; rintro e w1 ⟨rfl, hb1⟩; have B1 := hid hb1; clear f0 f1 f2 f3 f4 hb1; obtain ⟨⟨f0, f1, f2, f3, f4⟩, _⟩ := FX.out w1 B1.out))
      go_ret
      exact ⟨by rw [HF.out]; rfl, (FX.out _ B1.out).2⟩
end Go.Proofs.Ytenfgahedbeekaa

namespace Go.Proofs.Ytenfgahedbeekaa
open Go.RowKit Go.Deep Go.Shelf
set_option linter.unusedVariables false
set_option linter.unusedSimpArgs false

theorem ret_boolP {a b : Bool} (h : a = true ↔ b = true) : Ending.returned (.bool a) = .returned (.bool b) := congrArg _ (congrArg _ (Bool.eq_iff_iff.2 h))
def ordIp (a b : Bool) : Int := if a then -1 else if b then 1 else 0
theorem refOrderP (a b : Bool) (w : World) : Calls Try.prog 69 #[.bool a, .bool b] w fun e w' => e = .returned (.int .i64 (ordIp a b)) ∧ w' = w := by
  cases a <;> cases b <;>
    (go_enter Try.func69, Try.ntmps69
     go_wp2
     go_ret
     exact ⟨rfl, rfl⟩)
theorem atS (s : ByteArray) (pos : Nat) (h : pos < s.size) : ∃ c, s[pos]'h = c ∧ s.data.toList[pos]? = some c := by
  have hl : pos < s.data.toList.length := by rw [Array.length_toList]; exact h
  refine ⟨s.data.toList[pos], ?_, List.getElem?_eq_getElem hl⟩
  simp
  rfl
def nvOk (g : Bool) (l : List UInt8) (j : Nat) : Bool := nmB (l.getD j 0).toNat && (decide (0 < j) || (if g then grB (l.getD j 0).toNat else smB (l.getD j 0).toNat))
def nvF (g : Bool) (l : List UInt8) : Nat → Bool
  | 0 => true
  | i + 1 => nvF g l i && nvOk g l i
theorem nvF_iff (g : Bool) (l : List UInt8) : ∀ n, nvF g l n = true ↔ ∀ j, j < n → nvOk g l j = true
  | 0 => by simp [nvF]
  | n + 1 => by
    simp only [nvF, Bool.and_eq_true, nvF_iff g l n]
    constructor
    · rintro ⟨h1, h2⟩ j hj
      rcases Nat.lt_or_ge j n with h | h
      · exact h1 j h
      · obtain rfl : j = n := by omega
        exact h2
    · intro h
      exact ⟨fun j hj => h j (by omega), h n (by omega)⟩
theorem nvF_no {g : Bool} {l : List UInt8} {i n : Nat} (hi : i < n) (h : nvOk g l i = false) : nvF g l n = false := by
  cases hx : nvF g l n
  · rfl
  · rw [(nvF_iff g l n).1 hx i hi] at h; cases h
theorem nvOk_pos {g : Bool} {l : List UInt8} {i : Nat} {c : UInt8} (h : 0 < i) (e : l[i]? = some c) : nvOk g l i = nmB c.toNat := by
  unfold nvOk
  rw [List.getD_eq_getElem?_getD, e, Option.getD_some, decide_eq_true h]
  simp
theorem nvOk_zero {g : Bool} {l : List UInt8} {c : UInt8} (e : l[0]? = some c) : nvOk g l 0 = (if g then grB c.toNat else smB c.toNat) := by
  unfold nvOk nmB
  rw [List.getD_eq_getElem?_getD, e, Option.getD_some]
  cases g <;> cases smB (c.toNat : Int) <;> cases grB (c.toNat : Int) <;> simp
/- A name that begins as it must. -/
def nmdB (g : Bool) (s : ByteArray) : Bool := nameB s && (if g then grB else smB) (s.data.toList.getD 0 0).toNat
theorem nmd_eq (g : Bool) (s : ByteArray) (h1 : 1 ≤ s.size) (h2 : s.size ≤ 20) : nmdB g s = nvF g s.data.toList s.size := by
  have hl : s.data.toList.length = s.size := Array.length_toList
  rw [Bool.eq_iff_iff, nvF_iff]
  unfold nmdB nameB
  rw [decide_eq_true h1, decide_eq_true h2]
  simp only [Bool.true_and, Bool.and_eq_true, List.all_eq_true]
  obtain ⟨c, hc⟩ : ∃ c, s.data.toList[0]? = some c := ⟨s.data.toList[0]'(by omega), List.getElem?_eq_getElem _⟩
  constructor
  · rintro ⟨ha, hf⟩ j hj
    obtain ⟨d, hd⟩ : ∃ d, s.data.toList[j]? = some d := ⟨s.data.toList[j]'(by omega), List.getElem?_eq_getElem _⟩
    cases j with
    | zero =>
      rw [nvOk_zero hd]
      rw [List.getD_eq_getElem?_getD, hd, Option.getD_some] at hf
      cases g <;> simpa using hf
    | succ j => rw [nvOk_pos (by omega) hd]; exact ha d (List.mem_of_getElem? hd)
  · intro h
    have h0 := h 0 (by omega)
    rw [nvOk_zero hc] at h0
    refine ⟨fun x hx => ?_, ?_⟩
    · obtain ⟨j, hj⟩ := List.getElem?_of_mem hx
      have hjl : j < s.size := by rw [← hl]; exact (List.getElem?_eq_some_iff.1 hj).1
      have := h j hjl
      unfold nvOk at this
      rw [List.getD_eq_getElem?_getD, hj, Option.getD_some, Bool.and_eq_true] at this
      exact this.1
    · rw [List.getD_eq_getElem?_getD, hc, Option.getD_some]
      cases g <;> simpa using h0
set_option maxRecDepth 100000 in
set_option maxHeartbeats 2000000 in
theorem refNamed (s : ByteArray) (g : Bool) (w : World) : Calls Try.prog 76 #[.string s, .bool g] w fun e w' => e = .returned (.bool (nmdB g s)) ∧ w' = w := by
  by_cases h1 : s.size < 1
  · have h1' : (s.size : Int) < 1 := by omega
    have hx : nmdB g s = false := by unfold nmdB nameB; rw [decide_eq_false (show ¬ 1 ≤ s.size by omega)]; rfl
    rw [hx]
    clear hx
    go_enter Try.func76, Try.ntmps76
    go_wp2
    go_ret
    exact ⟨rfl, rfl⟩
  · by_cases h2 : 20 < s.size
    · have h1' : ¬ (s.size : Int) < 1 := by omega
      have h2' : (20 : Int) < (s.size : Int) := by omega
      have hx : nmdB g s = false := by unfold nmdB nameB; rw [decide_eq_false (show ¬ s.size ≤ 20 by omega)]; simp
      rw [hx]
      clear hx
      go_enter Try.func76, Try.ntmps76
      go_wp2
      go_ret
      exact ⟨rfl, rfl⟩
    · have h1' : ¬ (s.size : Int) < 1 := by omega
      have h2' : ¬ (20 : Int) < (s.size : Int) := by omega
      rw [nmd_eq g s (by omega) (by omega)]
      have hnz : (nvF g s.data.toList 0) = true := rfl
      go_enter Try.func76, Try.ntmps76
      go_wp2
      go_loopg [5] s.size (fun gf ii wr => ∃ i : Nat, i + gf = s.size ∧ ii = .int .i64 (i : Int) ∧ wr = w ∧ nvF g s.data.toList i = true)
      case atStart => exact ⟨0, by omega, rfl, rfl, hnz⟩
      case round =>
        obtain ⟨i, hi, rfl, rfl, hok⟩ := hrel
        have HOK := hid hok
        clear hok hnz
        cases gk with
        | zero =>
          have hin : i = s.size := by omega
          subst hin
          clear hi
          go_wp2
          go_ret
          exact ⟨by rw [HOK.out]; rfl, rfl⟩
        | succ gf =>
          have hil : i < s.size := by omega
          have hil' : (i : Int) < (s.size : Int) := by omega
          obtain ⟨c, hc, hc1⟩ := atS s i hil
          have HC1 := hid hc1
          have Hi := hid hi
          clear hc1 hi
          have HIL := hid hil
          by_cases h95 : c.toNat = 95
          · have g1 : ((c.toNat : Int) == 95) = true := by simp; omega
            have g2 : (c.toNat : Int) = 95 := by omega
            by_cases hi0 : i = 0
            · subst hi0
              cases g
              · have Hv := hid (nvOk_zero (g := false) HC1.out)
                rw [if_neg (by decide)] at Hv
                go_wp2
                all_goals first
                  | (go_roundg gf
                     case measure => omega
                     case rel => exact ⟨0 + 1, by have := Hi.out; omega, by go_num, rfl, by rw [nvF, HOK.out, Hv.out, Bool.true_and]; simp [nmB, smB, grB]; omega⟩)
                  | (go_ret; exact ⟨by rw [nvF_no HIL.out (by rw [Hv.out]; simp [nmB, smB, grB]; omega)]; rfl, rfl⟩)
              · have Hv := hid (nvOk_zero (g := true) HC1.out)
                rw [if_pos rfl] at Hv
                go_wp2
                all_goals first
                  | (go_roundg gf
                     case measure => omega
                     case rel => exact ⟨0 + 1, by have := Hi.out; omega, by go_num, rfl, by rw [nvF, HOK.out, Hv.out, Bool.true_and]; simp [nmB, smB, grB]; omega⟩)
                  | (go_ret; exact ⟨by rw [nvF_no HIL.out (by rw [Hv.out]; simp [nmB, smB, grB]; omega)]; rfl, rfl⟩)
            · have Hv := hid (nvOk_pos (g := g) (Nat.pos_of_ne_zero hi0) HC1.out)
              have hi0' : ¬ (i : Int) = 0 := by omega
              go_wp2
              all_goals first
                | (go_roundg gf
                   case measure => omega
                   case rel => exact ⟨i + 1, by have := Hi.out; omega, by go_num, rfl, by rw [nvF, HOK.out, Hv.out, Bool.true_and]; simp [nmB, smB, grB]; omega⟩)
                | (go_ret; exact ⟨by rw [nvF_no HIL.out (by rw [Hv.out]; simp [nmB, smB, grB]; omega)]; rfl, rfl⟩)
          · have g1 : ((c.toNat : Int) == 95) = false := by simp; omega
            have g2 : ¬ (c.toNat : Int) = 95 := by omega
            by_cases hi0 : i = 0
            · subst hi0
              cases g
              · have Hv := hid (nvOk_zero (g := false) HC1.out)
                rw [if_neg (by decide)] at Hv
                go_wp2
                all_goals first
                  | (go_roundg gf
                     case measure => omega
                     case rel => exact ⟨0 + 1, by have := Hi.out; omega, by go_num, rfl, by rw [nvF, HOK.out, Hv.out, Bool.true_and]; simp [nmB, smB, grB]; omega⟩)
                  | (go_ret; exact ⟨by rw [nvF_no HIL.out (by rw [Hv.out]; simp [nmB, smB, grB]; omega)]; rfl, rfl⟩)
              · have Hv := hid (nvOk_zero (g := true) HC1.out)
                rw [if_pos rfl] at Hv
                go_wp2
                all_goals first
                  | (go_roundg gf
                     case measure => omega
                     case rel => exact ⟨0 + 1, by have := Hi.out; omega, by go_num, rfl, by rw [nvF, HOK.out, Hv.out, Bool.true_and]; simp [nmB, smB, grB]; omega⟩)
                  | (go_ret; exact ⟨by rw [nvF_no HIL.out (by rw [Hv.out]; simp [nmB, smB, grB]; omega)]; rfl, rfl⟩)
            · have Hv := hid (nvOk_pos (g := g) (Nat.pos_of_ne_zero hi0) HC1.out)
              have hi0' : ¬ (i : Int) = 0 := by omega
              go_wp2
              all_goals first
                | (go_roundg gf
                   case measure => omega
                   case rel => exact ⟨i + 1, by have := Hi.out; omega, by go_num, rfl, by rw [nvF, HOK.out, Hv.out, Bool.true_and]; simp [nmB, smB, grB]; omega⟩)
                | (go_ret; exact ⟨by rw [nvF_no HIL.out (by rw [Hv.out]; simp [nmB, smB, grB]; omega)]; rfl, rfl⟩)
/- Whether a name comes twice. -/
def dupB (ss : List ByteArray) : Bool := (List.range ss.length).any fun i => Lib.containsS (ss.take i) (ss.getD i ByteArray.empty)
theorem dupB_no {ss : List ByteArray} (h : ∀ i s, ss[i]? = some s → Lib.containsS (ss.take i) s = false) : dupB ss = false := by
  unfold dupB
  rw [List.any_eq_false]
  intro i hi
  have hl := List.mem_range.1 hi
  rw [List.getD_eq_getElem?_getD, List.getElem?_eq_getElem hl, Option.getD_some, h i _ (List.getElem?_eq_getElem hl)]
  simp
theorem dupB_yes {ss : List ByteArray} {i : Nat} {s : ByteArray} (e : ss[i]? = some s) (h : Lib.containsS (ss.take i) s = true) : dupB ss = true := by
  unfold dupB
  rw [List.any_eq_true]
  refine ⟨i, List.mem_range.2 (List.getElem?_eq_some_iff.1 e).1, ?_⟩
  rw [List.getD_eq_getElem?_getD, e]
  exact h
theorem namesB_split (g : Bool) (ss : List ByteArray) : namesB (if g then grB else smB) ss = (ss.all (nmdB g) && !dupB ss) := by
  rw [Bool.eq_iff_iff]
  constructor
  · intro h
    unfold namesB at h
    rw [List.all_eq_true] at h
    have h2 : ∀ i s, ss[i]? = some s → nmdB g s = true ∧ Lib.containsS (ss.take i) s = false := fun i s e => by
      have := h i (List.mem_range.2 (List.getElem?_eq_some_iff.1 e).1)
      rw [okAt_some e] at this
      simp only [Bool.and_eq_true, Bool.not_eq_true'] at this
      exact ⟨by unfold nmdB; rw [this.1.1, this.1.2]; rfl, this.2⟩
    rw [Bool.and_eq_true, List.all_eq_true, dupB_no (fun i s e => (h2 i s e).2)]
    refine ⟨fun s hs => ?_, rfl⟩
    obtain ⟨i, hi⟩ := List.getElem?_of_mem hs
    exact (h2 i s hi).1
  · intro h
    rw [Bool.and_eq_true, List.all_eq_true, Bool.not_eq_true'] at h
    refine namesB_yes fun j hj => ?_
    rw [okAt_some (List.getElem?_eq_getElem hj)]
    have h1 := h.1 _ (List.getElem_mem hj)
    have h2 : Lib.containsS (ss.take j) ss[j] = false := by
      cases hx : Lib.containsS (ss.take j) ss[j]
      · rfl
      · rw [dupB_yes (List.getElem?_eq_getElem hj) hx] at h; simp at h
    unfold nmdB at h1
    rw [h1, h2]
    rfl
theorem contains_take {ss : List ByteArray} {i : Nat} {s x : ByteArray} (e : ss[i]? = some s) : Lib.containsS (ss.take (i + 1)) x = (Lib.containsS (ss.take i) x || decide (x = s)) := by
  rw [Bool.eq_iff_iff, Bool.or_eq_true, Lib.containsS_iff, Lib.containsS_iff, List.take_add_one, e]
  simp
theorem toList_inj {x y : ByteArray} : (x.toList == y.toList) = decide (x = y) := by
  rw [Bool.eq_iff_iff, beq_iff_eq, decide_eq_true_eq, ByteArray.toList_eq, ByteArray.toList_eq]
  constructor
  · intro h; cases x; cases y; simp_all
  · rintro rfl; rfl
set_option maxRecDepth 100000 in
set_option maxHeartbeats 1000000 in
theorem refTwice (w : World) (a : Option Addr) (n cap : Nat) (ss : List ByteArray) (hn : n = ss.length) (hn2 : n ≤ 1000000) (d : SRd w a ss) : Calls Try.prog 77 #[.slice a n cap] w fun e w' => e = .returned (.bool (dupB ss)) ∧ Below w.heap.size w w' := by
  have hn2' : (n : Int) ≤ 1000000 := by omega
  have D := hid d
  have Hn := hid hn
  clear hn d
  go_enter Try.func77, Try.ntmps77
  go_wp2
  go_loopg [3] n (fun g ii wr => ∃ i : Nat, i + g = n ∧ ii = .int .i64 (i : Int) ∧ Below w.heap.size w wr ∧ ∀ j s, j < i → ss[j]? = some s → Lib.containsS (ss.take j) s = false)
  case atStart => exact ⟨0, by omega, rfl, Below.refl _ _, fun j s h => by omega⟩
  case round =>
    obtain ⟨i, hi, rfl, hbr, hno⟩ := hrel
    obtain ⟨wo, hwo⟩ : ∃ wo, wo = wr := ⟨_, rfl⟩
    subst hwo
    have HB := hid hbr
    have HN := hid hno
    clear hbr hno
    cases gk with
    | zero =>
      have hin : i = n := by omega
      subst hin
      clear hi
      go_wp2
      go_ret
      refine ⟨?_, HB.out⟩
      rw [dupB_no (fun j s e => HN.out j s (by rw [Hn.out]; exact (List.getElem?_eq_some_iff.1 e).1) e)]
      rfl
    | succ gi =>
      have hlt0 : i < n := by omega
      have hlt : (i : Int) < (n : Int) := by omega
      obtain ⟨s, hs⟩ : ∃ s, ss[i]? = some s := ⟨ss[i]'(by rw [← Hn.out]; exact hlt0), List.getElem?_eq_getElem _⟩
      have Hs := hid hs
      have Hi := hid hi
      clear hs hi
      go_wp2
      go_loopg [4] i (fun g kk wx => ∃ k : Nat, k + g = i ∧ kk = .int .i64 (k : Int) ∧ Below w.heap.size w wx ∧ Lib.containsS (ss.take k) s = false)
      case atStart => exact ⟨0, by omega, rfl, HB.out, rfl⟩
      case round =>
        obtain ⟨k, hk, rfl, hbk, hck⟩ := hrel
        have HCK := hid hck
        have HBK := hid hbk
        clear hck
        cases gk with
        | zero =>
          have hki : k = i := by omega
          subst hki
          clear hk hbk
          go_wp2
          go_roundg gi
          case measure => omega
          case rel => exact ⟨k + 1, by have := Hi.out; omega, by go_num, HBK.out, fun j s' hj e => by
            rcases Nat.lt_or_ge j k with h | h
            · exact HN.out j s' h e
            · obtain rfl : j = k := by omega
              rw [Hs.out] at e; cases e; exact HCK.out⟩
        | succ gj =>
          have hklt : k < i := by omega
          have hklt' : (k : Int) < (i : Int) := by omega
          have hkn : (k : Int) < (n : Int) := by omega
          obtain ⟨t, ht⟩ : ∃ t, ss[k]? = some t := ⟨ss[k]'(by rw [← Hn.out]; omega), List.getElem?_eq_getElem _⟩
          obtain ⟨_, b, off, ea, hc1⟩ := (D.out.below (Nat.le_refl _) hbk) i s Hs.out
          subst ea
          obtain ⟨_, b', off', ea, hc2⟩ := (D.out.below (Nat.le_refl _) hbk) k t ht
          cases ea
          have hmore := contains_take (x := s) ht
          have Hk := hid hk
          have HMo := hid hmore
          have Ht := hid ht
          clear hk hbk hmore ht
          cases heq : (s.toList == t.toList)
          · have Heq := hid heq
            go_wp2
            go_region_held3 (fun w2 => w2.cell? ⟨b, off + i, none⟩ = some (.string s) ∧ w2.cell? ⟨b, off + k, none⟩ = some (.string t)) (first | go_keep) (fail)
            go_wp2
            go_roundg gj
            case measure => omega
            case rel => exact ⟨k + 1, by have := Hk.out; omega, by go_num, HBK.out.trans (((Below.refl _ wr).drew).mono HBK.out.size), by rw [HMo.out, HCK.out, ← toList_inj, Heq.out]; rfl⟩
          · have Heq := hid heq
            have Hkl := hid hklt
            go_wp2
            go_region_held3 (fun w2 => w2.cell? ⟨b, off + i, none⟩ = some (.string s) ∧ w2.cell? ⟨b, off + k, none⟩ = some (.string t)) (first | go_keep) (fail)
            go_wp2
            go_ret
            refine ⟨?_, HBK.out.trans (((Below.refl _ wr).drew).mono HBK.out.size)⟩
            rw [dupB_yes Hs.out (by
              rw [Lib.containsS_iff]
              have e2 := Heq.out
              rw [toList_inj, decide_eq_true_eq] at e2
              rw [e2]
              exact List.mem_of_getElem? (i := k) (by rw [List.getElem?_take, if_pos Hkl.out]; exact Ht.out))]
            rfl
set_option maxRecDepth 100000 in
theorem refIsType (w : World) (h : PH) (k r : Int) (hn : h.rn ≤ 9223372036854775807) :
    Calls Try.prog 78 #[h.v, ty k r] w fun e w' => e = .returned (.bool (typB h.rn (k, r))) ∧ Below w.heap.size w w' := by
  obtain ⟨ra, rn, rc, ma, mn, mc, fa, fn, fc, ea, en, ec⟩ := h
  simp only [PH.v, ty] at hn ⊢
  have hb := two_boxes w #[.slice ra rn rc, .slice ma mn mc, .slice fa fn fc, .slice ea en ec] #[.int .i64 k, .int .i64 r] 50 73
  by_cases h4 : k = 4
  · subst h4
    have ht : typB rn (4, r) = (decide (0 ≤ r) && decide (r < (rn : Int))) := by simp [typB]
    rw [ht]
    clear ht
    go_enter Try.func78, Try.ntmps78
    go_wp2
    all_goals (go_ret; exact ⟨ret_boolP (by simp; try omega), hb⟩)
  · have ht : typB rn (k, r) = simB (k, r) := by simp [typB, h4]
    rw [ht]
    clear ht
    by_cases h1 : 1 ≤ k
    · by_cases h3 : k ≤ 3
      · by_cases hr : r = 0
        · subst hr
          go_enter Try.func78, Try.ntmps78
          go_wp2
          all_goals (go_ret; exact ⟨ret_boolP (by simp [simB]; try omega), hb⟩)
        · have hr' : (r == 0) = false := by simpa using hr
          go_enter Try.func78, Try.ntmps78
          go_wp2
          all_goals (go_ret; exact ⟨ret_boolP (by simp [simB]; try omega), hb⟩)
      · go_enter Try.func78, Try.ntmps78
        go_wp2
        all_goals (go_ret; exact ⟨ret_boolP (by simp [simB]; try omega), hb⟩)
    · go_enter Try.func78, Try.ntmps78
      go_wp2
      all_goals (go_ret; exact ⟨ret_boolP (by simp [simB]; try omega), hb⟩)
end Go.Proofs.Ytenfgahedbeekaa

