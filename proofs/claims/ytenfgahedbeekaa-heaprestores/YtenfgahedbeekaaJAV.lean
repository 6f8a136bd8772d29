/- The document's Is, of a state. -/
import Derived.Test.YtenfgahedbeekaaJAU
import Derived.BigQuiet
namespace Go.Proofs.Ytenfgahedbeekaa
open Go.RowKit Go.Deep Go.Shelf
set_option linter.unusedVariables false
set_option linter.unusedSimpArgs false

theorem refIsV (k : Nat) (w : World) (g : PH) (p : Pg) (d : PRd w g p) (hR : rightB p = true) (a r : Int) (v : VT (k + 2)) (hv : Rds (k + 2) w v) :
    Calls Try.prog 54 #[g.v, ty a r, (hdT (k + 2) v).v] w fun e w' => e = .returned (.bool (isV k p (a, r) v)) ∧ Below w.heap.size w w' :=
  refIs w g p d hR a r v.1 (v.2.map (hdT (k + 1))) hv.1 (by rw [List.length_map]; exact hv.2.1) hv.2.2.2.1 (fun f hf => by
    simp only [List.mem_map] at hf
    obtain ⟨u, hu, rfl⟩ := hf
    exact (hv.2.2.2.2 u hu).1)
set_option maxRecDepth 100000 in
set_option maxHeartbeats 2000000 in
theorem refStIs_any (k : Nat) (w : World) (g : PH) (p : Pg) (d : PRd w g p) (sa : Option Addr) (sn sc : Nat) (ms : List (Sl × Rw (k + 2))) (hs : StR (k + 2) w sa sn ms) :
    Calls Try.prog 30 #[g.v, .agg #[.slice sa sn sc]] w fun e w' => e = .returned (.bool (stV k p (ms.map (·.2)))) ∧ Below w.heap.size w w' := by
  have Hs := hid hs.n1
  have hle := hs.n2
  have hle2 : (sn : Int) ≤ 1000 := by omega
  have hn0 : (0 : Int) ≤ (sn : Int) := by omega
  have R := hid hs
  have Hm := hid d.m.n1
  have hm2 := d.m.n2
  have DM := hid d.m
  have K51 := hid (fun (w1 : World) (hb : Below w.heap.size w w1) => refRight w1 g p (d.below (Nat.le_refl _) hb))
  have K54 := hid (fun (hR : rightB p = true) (w1 : World) (hb : Below w.heap.size w w1) (x y : Int) (v : VT (k + 2)) (hv : Rds (k + 2) w1 v) => refIsV k w1 g p (d.below (Nat.le_refl _) hb) hR x y v hv)
  obtain ⟨ra, rn, rc, ma, mn, mc, fa, fn, fc, ea, en, ec⟩ := g
  simp only [PH.v, ty] at K51 K54 Hm hm2 DM ⊢
  have hmI : (mn : Int) ≤ 9223372036854775807 := by omega
  clear d hs
  obtain ⟨W0, hW0⟩ : ∃ W0, W0 = (w.alloc (.cells #[.slice ra rn rc, .slice ma mn mc, .slice fa fn fc, .slice ea en ec] 50)).alloc (.cells #[.slice sa sn sc] 27) := ⟨_, rfl⟩
  have q1 : W0.heap[w.heap.size]? = some (.cells #[.slice ra rn rc, .slice ma mn mc, .slice fa fn fc, .slice ea en ec] 50 (0, 0)) := by rw [hW0]; exact (Below.heap_alloc _ _ _ (by simp)).trans (heap_alloc_new w _)
  have q2 : W0.heap[w.heap.size + 1]? = some (.cells #[.slice sa sn sc] 27 (0, 0)) := by
    have := heap_alloc_new (w.alloc (.cells #[.slice ra rn rc, .slice ma mn mc, .slice fa fn fc, .slice ea en ec] 50)) (.cells #[.slice sa sn sc] 27)
    rw [World.size_alloc] at this
    rw [hW0]; exact this
  have hb0 : Below w.heap.size w W0 := by rw [hW0]; exact boxes2 _ _ _ _ _
  have FX : Hid (∀ w2 : World, Below W0.heap.size W0 w2 → (w2.cell? ⟨w.heap.size, 0, none⟩ = some (.slice ra rn rc) ∧ w2.cell? ⟨w.heap.size, 1, none⟩ = some (.slice ma mn mc) ∧ w2.cell? ⟨w.heap.size, 2, none⟩ = some (.slice fa fn fc) ∧ w2.cell? ⟨w.heap.size, 3, none⟩ = some (.slice ea en ec) ∧ w2.cell? ⟨w.heap.size + 1, 0, none⟩ = some (.slice sa sn sc)) ∧ Below w.heap.size w w2) := hid (fun w2 hb => by
    have bx := (hb.block _ (Array.getElem?_eq_some_iff.1 q1).1).trans q1
    have bz := (hb.block _ (Array.getElem?_eq_some_iff.1 q2).1).trans q2
    exact ⟨⟨cellOf bx 0, cellOf bx 1, cellOf bx 2, cellOf bx 3, cellOf bz 0⟩, hb0.trans (hb.mono hb0.size)⟩)
  have TR : Hid (∀ {Z x y : World}, Below Z.heap.size Z x → Below x.heap.size x y → Below Z.heap.size Z y) := hid (fun h1 h2 => h1.trans (h2.mono h1.size))
  have HB0 := hid hb0
  obtain ⟨⟨f0, f1, f2, f3, f4⟩, _⟩ := FX.out W0 (Below.refl _ _)
  clear q1 q2 hb0
  have HL : Hid ((ms.map (·.2)).length = sn) := hid (by rw [List.length_map]; exact Hs.out.symm)
  have A51 : Hid (Calls Try.prog 52 #[.agg #[.slice ra rn rc, .slice ma mn mc, .slice fa fn fc, .slice ea en ec]] W0 fun e w' => e = .returned (.bool (rightB p)) ∧ Below W0.heap.size W0 w') := hid (K51.out W0 HB0.out)
  cases hR : rightB p with
  | false =>
    rw [hR] at A51
    have HF : Hid (stV k p (ms.map (·.2)) = false) := hid (by unfold stV; rw [hR]; rfl)
    go_enter Try.func30, Try.ntmps30
    go_upto_region 1 with fail
    rw [← hW0]
    clear hW0
    go_wp2_with (go_at_call 52; (refine (A51.out).mono ?_; rintro e w1 ⟨rfl, hb1⟩; have B1 := hid hb1; clear hb1))
    go_ret
    exact ⟨by rw [HF.out]; rfl, (FX.out _ B1.out).2⟩
  | true =>
    rw [hR] at A51
    by_cases hl : sn = mn
    · subst hl
      go_enter Try.func30, Try.ntmps30
      go_upto_region 1 with fail
      rw [← hW0]
      clear hW0
      go_wp2_with (go_at_call 52; (refine (A51.out).mono ?_; rintro e w1 ⟨rfl, hb1⟩; have B1 := hid hb1; clear f0 f1 f2 f3 f4 hb1; obtain ⟨⟨f0, f1, f2, f3, f4⟩, _⟩ := FX.out w1 B1.out))
      have KI := hid (K54.out hR)
      clear K54
      go_loopg [5] sn (fun gg ii wr => ∃ i : Nat, i + gg = sn ∧ ii = .int .i64 (i : Int) ∧ Below W0.heap.size W0 wr ∧ ∀ j, j < i → mpV k p (ms.map (·.2)) j = true)
      case atStart => exact ⟨0, by omega, rfl, B1.out, fun j hj => by omega⟩
      case round =>
        obtain ⟨i, hi', rfl, hbr, hacc⟩ := hrel
        have Hbr := hid hbr
        have Hacc := hid hacc
        clear hacc f0 f1 f2 f3 f4
        obtain ⟨⟨f0, f1, f2, f3, f4⟩, hbw⟩ := FX.out wr hbr
        cases gk with
        | zero =>
          have hin2 : i = sn := by omega
          subst hin2
          clear hi' hbr
          have HT : Hid (stV k p (ms.map (·.2)) = true) := hid (by
            unfold stV
            rw [hR, decide_eq_true (by rw [HL.out, ← Hm.out])]
            simp only [Bool.true_and]
            rw [List.all_eq_true]
            intro j hj
            exact Hacc.out j (by rw [Hm.out]; exact List.mem_range.1 hj))
          go_wp2
          go_ret
          exact ⟨by rw [HT.out]; rfl, (FX.out _ Hbr.out).2⟩
        | succ gi =>
          have hlt0 : i < sn := by omega
          have hlt : (i : Int) < (sn : Int) := by omega
          have hi00 : (0 : Int) ≤ (i : Int) := by omega
          have Hi := hid hi'
          obtain ⟨m, hm⟩ : ∃ m, p.maps[i]? = some m := ⟨p.maps[i]'(by rw [← Hm.out]; exact hlt0), List.getElem?_eq_getElem _⟩
          obtain ⟨x, hx⟩ : ∃ x, ms[i]? = some x := ⟨ms[i]'(by rw [← Hs.out]; exact hlt0), List.getElem?_eq_getElem _⟩
          obtain ⟨b2, o2, ea2, _, dm⟩ := (DM.out.below (Nat.le_refl _) hbw).rd i m.cs (by rw [List.getElem?_map, hm]; rfl)
          subst ea2
          obtain ⟨b1, o1, ea1, dc⟩ := (R.out.below (Nat.le_refl _) hbw).rd i x.1 (by rw [List.getElem?_map, hx]; rfl)
          subst ea1
          have HMp : Hid (mpV k p (ms.map (·.2)) i = mapV k p m x.2) := hid (by unfold mpV; rw [hm, List.getElem?_map, hx]; rfl)
          have HNO : Hid (mpV k p (ms.map (·.2)) i = false → stV k p (ms.map (·.2)) = false) := hid (fun h => by
            unfold stV
            have : (List.range p.maps.length).all (mpV k p (ms.map (·.2))) = false := by
              rw [List.all_eq_false]
              exact ⟨i, List.mem_range.2 (by rw [← Hm.out]; exact hlt0), by simp [h]⟩
            rw [this]
            simp)
          have HX : Hid (∀ W', Below W0.heap.size W0 W' → RwR (k + 2) W' x.1.a x.1.n x.2) := hid (fun W' hb => ((R.out.below (Nat.le_refl _) (FX.out W' hb).2).el x (List.mem_of_getElem? hx)).1)
          have GM : Hid (∀ W' : World, Below W0.heap.size W0 W' → W'.cell? ⟨b2, o2 + i * 5 + 1, none⟩ = some (.int .i64 m.key.1) ∧ W'.cell? ⟨b2, o2 + i * 5 + 2, none⟩ = some (.int .i64 m.key.2) ∧ W'.cell? ⟨b2, o2 + i * 5 + 3, none⟩ = some (.int .i64 m.val.1) ∧ W'.cell? ⟨b2, o2 + i * 5 + 4, none⟩ = some (.int .i64 m.val.2)) := hid (fun W' hb => by
            obtain ⟨b9, o9, e9, _, dm9⟩ := (DM.out.below (Nat.le_refl _) (FX.out W' hb).2).rd i m.cs (by rw [List.getElem?_map, hm]; rfl)
            cases e9
            exact ⟨dm9 1 (by omega), dm9 2 (by omega), dm9 3 (by omega), dm9 4 (by omega)⟩)
          obtain ⟨⟨la, ln, lc⟩, lr⟩ := x
          obtain ⟨nm, ⟨k1, k2⟩, ⟨v1, v2⟩⟩ := m
          simp only at GM
          simp only [Sl.v] at dc
          simp only at HX HMp
          have Hln := hid (HX.out wr hbr).n1
          have hln2 := (HX.out wr hbr).n2
          have hlnI : (ln : Int) ≤ 1000 := by omega
          have hln0 : (0 : Int) ≤ (ln : Int) := by omega
          clear hm hx dm hi'
          by_cases h24 : 24 < ln
          · have h24' : (24 : Int) < (ln : Int) := by omega
            have HF := hid (HNO.out (by rw [HMp.out]; unfold mapV; rw [decide_eq_false (by rw [← Hln.out]; omega)]; rfl))
            go_wp2
            go_ret
            exact ⟨by rw [HF.out]; rfl, (FX.out _ Hbr.out).2⟩
          · have h24' : ¬ (24 : Int) < (ln : Int) := by omega
            have HFE : Hid (∀ j, j < ln → entV k p ⟨nm, (k1, k2), (v1, v2)⟩ lr j = false → stV k p (ms.map (·.2)) = false) := hid (fun j hj h => HNO.out (by rw [HMp.out]; exact mapV_no (by rw [← Hln.out]; exact hj) h))
            go_wp2
            go_loopg [7] ln (fun gg jj wr2 => ∃ j : Nat, j + gg = ln ∧ jj = .int .i64 (j : Int) ∧ Below W0.heap.size W0 wr2 ∧ ∀ t, t < j → entV k p ⟨nm, (k1, k2), (v1, v2)⟩ lr t = true)
            case atStart => exact ⟨0, by omega, rfl, Hbr.out, fun j hj => by omega⟩
            case round =>
              obtain ⟨j, hj', rfl, hbr2, hacc2⟩ := hrel
              have Hbr2 := hid hbr2
              have Hacc2 := hid hacc2
              have Hj := hid hj'
              clear hacc2
              cases gk with
              | zero =>
                have hin2 : j = ln := by omega
                subst hin2
                clear hj' hbr2
                have HT := hid (show mpV k p (ms.map (·.2)) i = true from by rw [HMp.out]; exact mapV_yes (by rw [← Hln.out]; omega) (by rw [← Hln.out]; exact Hacc2.out))
                go_wp2
                go_roundg gi
                case measure => omega
                case rel => exact ⟨i + 1, by have := Hi.out; omega, by go_num, Hbr2.out, fun t ht => by
                  rcases Nat.lt_or_ge t i with h | h
                  · exact Hacc.out t h
                  · obtain rfl : t = i := by omega
                    exact HT.out⟩
              | succ gj =>
                have hjt0 : j < ln := by omega
                have hjt : (j : Int) < (ln : Int) := by omega
                have hj00 : (0 : Int) ≤ (j : Int) := by omega
                clear hj'
                obtain ⟨q, hq⟩ : ∃ q, lr[j]? = some q := ⟨lr[j]'(by rw [← Hln.out]; exact hjt0), List.getElem?_eq_getElem _⟩
                have Hq := hid hq
                obtain ⟨b3, o3, ea3, dh⟩ := (HX.out _ hbr2).rd j (enT (k + 2) q) (by rw [List.getElem?_map, hq]; rfl)
                subst ea3
                have d0 := dh 0 (by omega)
                have d1 := dh 1 (by omega)
                have d2 := dh 2 (by omega)
                have d3 := dh 3 (by omega)
                have d4 := dh 4 (by omega)
                have d5 := dh 5 (by omega)
                have d6 := dh 6 (by omega)
                have d7 := dh 7 (by omega)
                have d8 := dh 8 (by omega)
                have d9 := dh 9 (by omega)
                simp only [En.cs, enT, List.getElem?_cons_zero, List.getElem?_cons_succ, Nat.add_zero] at d0 d1 d2 d3 d4 d5 d6 d7 d8 d9
                have HE : Hid (entV k p ⟨nm, (k1, k2), (v1, v2)⟩ lr j = (isV k p (k1, k2) q.1 && isV k p (v1, v2) q.2 && (decide (j = 0) || ((lr[j - 1]?).map fun o => decide (cmpT (k + 2) o.1 q.1 < 0)).getD true))) := hid (by unfold entV; rw [Hq.out])
                have HNJ := hid (HFE.out j hjt0)
                have HK : Hid (∀ W', Below W0.heap.size W0 W' → Rds (k + 2) W' q.1 ∧ Rds (k + 2) W' q.2) := hid (fun W' hb => (HX.out W' hb).el q (List.mem_of_getElem? Hq.out))
                have C1 := hid (fun (W' : World) (hb : Below W0.heap.size W0 W') => KI.out W' (FX.out W' hb).2 k1 k2 q.1 (HK.out W' hb).1)
                have C2 := hid (fun (W' : World) (hb : Below W0.heap.size W0 W') => KI.out W' (FX.out W' hb).2 v1 v2 q.2 (HK.out W' hb).2)
                have PV : Hid (∀ (o : VT (k + 2) × VT (k + 2)), lr[j - 1]? = some o → ∀ W', Below W0.heap.size W0 W' → Calls Try.prog 48 #[(hdT (k + 2) o.1).v, (hdT (k + 2) q.1).v] W' fun e w' => e = .returned (.int .i64 (cmpT (k + 2) o.1 q.1)) ∧ Below W'.heap.size W' w') := hid (fun o ho W' hb => refCmp (k + 2) W' o.1 q.1 (((HX.out W' hb).el o (List.mem_of_getElem? ho)).1) (HK.out W' hb).1)
                obtain ⟨E1, hE1⟩ : ∃ E, E = isV k p (k1, k2) q.1 := ⟨_, rfl⟩
                obtain ⟨E2, hE2⟩ : ∃ E, E = isV k p (v1, v2) q.2 := ⟨_, rfl⟩
                rw [← hE1] at C1 HE
                rw [← hE2] at C2 HE
                clear hE1 hE2 dh hq
                generalize hdT (k + 2) q.1 = hq1 at *
                generalize hdT (k + 2) q.2 = hq2 at *
                obtain ⟨xk, xi, xt, xr, xa, xn, xc⟩ := hq1
                obtain ⟨yk, yi, yt, yr, ya, yn, yc⟩ := hq2
                simp only [Hd.v] at C1 C2 PV d0 d1 d2 d3 d4 d5 d6 d7 d8 d9
                obtain ⟨⟨f0, f1, f2, f3, f4⟩, hbw2⟩ := FX.out _ hbr2
                obtain ⟨g1, g2, g3, g4⟩ := GM.out _ hbr2
                have SE : Hid (∀ W' : World, Below wr.heap.size wr W' → (W'.cell? ⟨w.heap.size, 0, none⟩ = some (.slice ra rn rc) ∧ W'.cell? ⟨w.heap.size, 1, none⟩ = some (.slice (some ⟨b2, o2, none⟩) sn mc) ∧ W'.cell? ⟨w.heap.size, 2, none⟩ = some (.slice fa fn fc) ∧ W'.cell? ⟨w.heap.size, 3, none⟩ = some (.slice ea en ec) ∧ W'.cell? ⟨b2, o2 + i * 5 + 1, none⟩ = some (.int .i64 k1) ∧ W'.cell? ⟨b2, o2 + i * 5 + 2, none⟩ = some (.int .i64 k2) ∧ W'.cell? ⟨b2, o2 + i * 5 + 3, none⟩ = some (.int .i64 v1) ∧ W'.cell? ⟨b2, o2 + i * 5 + 4, none⟩ = some (.int .i64 v2) ∧ W'.cell? ⟨b3, o3 + j * 10, none⟩ = some (.int .i64 xk) ∧ W'.cell? ⟨b3, o3 + j * 10 + 1, none⟩ = some (.int .i64 xi) ∧ W'.cell? ⟨b3, o3 + j * 10 + 2, none⟩ = some (.string xt) ∧ W'.cell? ⟨b3, o3 + j * 10 + 3, none⟩ = some (.int .i64 xr) ∧ W'.cell? ⟨b3, o3 + j * 10 + 4, none⟩ = some (.slice xa xn xc) ∧ W'.cell? ⟨b3, o3 + j * 10 + 5, none⟩ = some (.int .i64 yk) ∧ W'.cell? ⟨b3, o3 + j * 10 + 6, none⟩ = some (.int .i64 yi) ∧ W'.cell? ⟨b3, o3 + j * 10 + 7, none⟩ = some (.string yt) ∧ W'.cell? ⟨b3, o3 + j * 10 + 8, none⟩ = some (.int .i64 yr) ∧ W'.cell? ⟨b3, o3 + j * 10 + 9, none⟩ = some (.slice ya yn yc))) := hid (fun W' hb => by
                  have ge : ∀ (p : Addr) (v : Value), wr.cell? p = some v → W'.cell? p = some v := fun p v e => (hb.cell (World.block_lt_of_cell? wr _ e)).trans e
                  exact ⟨ge _ _ f0, ge _ _ f1, ge _ _ f2, ge _ _ f3, ge _ _ g1, ge _ _ g2, ge _ _ g3, ge _ _ g4, ge _ _ d0, ge _ _ d1, ge _ _ d2, ge _ _ d3, ge _ _ d4, ge _ _ d5, ge _ _ d6, ge _ _ d7, ge _ _ d8, ge _ _ d9⟩)
                have R0 := hid ((Below.refl wr.heap.size wr).drew)
                have QW : Hid (∀ W' : World, Below wr.heap.size wr W' → Below W0.heap.size W0 W') := hid (fun W' hb => TR.out Hbr2.out hb)
                clear hbw2 hbr2
                go_upto_region 12 with fail
                cases E1 with
                | false =>
                  have HF := hid (HNJ.out (by rw [HE.out]; rfl))
                  refine wp_region_held_drew (S := fun W' => W'.cell? ⟨w.heap.size, 0, none⟩ = some (.slice ra rn rc) ∧ W'.cell? ⟨w.heap.size, 1, none⟩ = some (.slice (some ⟨b2, o2, none⟩) sn mc) ∧ W'.cell? ⟨w.heap.size, 2, none⟩ = some (.slice fa fn fc) ∧ W'.cell? ⟨w.heap.size, 3, none⟩ = some (.slice ea en ec) ∧ W'.cell? ⟨b2, o2 + i * 5 + 1, none⟩ = some (.int .i64 k1) ∧ W'.cell? ⟨b2, o2 + i * 5 + 2, none⟩ = some (.int .i64 k2) ∧ W'.cell? ⟨b2, o2 + i * 5 + 3, none⟩ = some (.int .i64 v1) ∧ W'.cell? ⟨b2, o2 + i * 5 + 4, none⟩ = some (.int .i64 v2) ∧ W'.cell? ⟨b3, o3 + j * 10, none⟩ = some (.int .i64 xk) ∧ W'.cell? ⟨b3, o3 + j * 10 + 1, none⟩ = some (.int .i64 xi) ∧ W'.cell? ⟨b3, o3 + j * 10 + 2, none⟩ = some (.string xt) ∧ W'.cell? ⟨b3, o3 + j * 10 + 3, none⟩ = some (.int .i64 xr) ∧ W'.cell? ⟨b3, o3 + j * 10 + 4, none⟩ = some (.slice xa xn xc) ∧ W'.cell? ⟨b3, o3 + j * 10 + 5, none⟩ = some (.int .i64 yk) ∧ W'.cell? ⟨b3, o3 + j * 10 + 6, none⟩ = some (.int .i64 yi) ∧ W'.cell? ⟨b3, o3 + j * 10 + 7, none⟩ = some (.string yt) ∧ W'.cell? ⟨b3, o3 + j * 10 + 8, none⟩ = some (.int .i64 yr) ∧ W'.cell? ⟨b3, o3 + j * 10 + 9, none⟩ = some (.slice ya yn yc)) (by kernel_rfl) (SE.out _ R0.out) (fun hHeld => ?_)
                  refine wpAnyH_take (i := 0) (oi := { dst := some 41, op := Op.load 50 (Operand.tmp 2), type := 50, pos := "windlassref4.go:36", after := #[], guard := none }) (v := .agg #[.slice ra rn rc, .slice (some ⟨b2, o2, none⟩) sn mc, .slice fa fn fc, .slice ea en ec]) rfl (by kernel_rfl) (by kernel_rfl) (by kernel_rfl) (fun _ _ _ h => h) (Or.inl ⟨by rfl, ?_⟩) (by assumption) ?_
                  · intro w hSw; (try dsimp only at hSw); go_simp
                  try simp only [Act.put, List.setIfInBounds_toArray, List.set_cons_zero, List.set_cons_succ]
                  refine wpAnyH_take (i := 1) (oi := { dst := some 42, op := Op.fieldAddr 50 (Operand.tmp 2) 1, type := 0, pos := "windlassref4.go:36", after := #[], guard := none }) (v := .pointer (some ⟨w.heap.size, 1, none⟩)) rfl (by kernel_rfl) (by kernel_rfl) (by kernel_rfl) (fun _ _ _ h => h) (Or.inl ⟨by rfl, ?_⟩) (by assumption) ?_
                  · intro w hSw; (try dsimp only at hSw); go_simp
                  try simp only [Act.put, List.setIfInBounds_toArray, List.set_cons_zero, List.set_cons_succ]
                  refine wpAnyH_take (i := 2) (oi := { dst := some 43, op := Op.load 47 (Operand.tmp 42), type := 47, pos := "windlassref4.go:36", after := #[{ on := 1, ground := Ground.data }], guard := none }) (v := .slice (some ⟨b2, o2, none⟩) sn mc) rfl (by kernel_rfl) (by kernel_rfl) (by kernel_rfl) (fun _ _ _ h => h) (Or.inl ⟨by rfl, ?_⟩) (by assumption) ?_
                  · intro w hSw; (try dsimp only at hSw); go_simp
                  try simp only [Act.put, List.setIfInBounds_toArray, List.set_cons_zero, List.set_cons_succ]
                  refine wpAnyH_take (i := 3) (oi := { dst := some 44, op := Op.move (Operand.tmp 5), type := 3, pos := "windlassref4.go:36", after := #[], guard := none }) (v := .int .i64 (i : Int)) rfl (by kernel_rfl) (by kernel_rfl) (by kernel_rfl) (fun _ _ _ h => h) (Or.inl ⟨by rfl, ?_⟩) (by assumption) ?_
                  · intro w hSw; (try dsimp only at hSw); go_simp
                  try simp only [Act.put, List.setIfInBounds_toArray, List.set_cons_zero, List.set_cons_succ]
                  refine wpAnyH_take (i := 4) (oi := { dst := some 45, op := Op.indexAddr 47 (Operand.tmp 43) (Operand.tmp 44), type := 0, pos := "windlassref4.go:36", after := #[{ on := 2, ground := Ground.data }, { on := 3, ground := Ground.data }], guard := none }) (v := .pointer (some ⟨b2, o2 + i * 5, none⟩)) rfl (by kernel_rfl) (by kernel_rfl) (by kernel_rfl) (fun _ _ _ h => h) (Or.inl ⟨by rfl, ?_⟩) (by assumption) ?_
                  · intro w hSw; (try dsimp only at hSw); go_simp
                  try simp only [Act.put, List.setIfInBounds_toArray, List.set_cons_zero, List.set_cons_succ]
                  refine wpAnyH_take (i := 5) (oi := { dst := some 46, op := Op.fieldAddr 75 (Operand.tmp 45) 1, type := 0, pos := "windlassref4.go:36", after := #[{ on := 4, ground := Ground.data }], guard := none }) (v := .pointer (some ⟨b2, o2 + i * 5 + 1, none⟩)) rfl (by kernel_rfl) (by kernel_rfl) (by kernel_rfl) (fun _ _ _ h => h) (Or.inl ⟨by rfl, ?_⟩) (by assumption) ?_
                  · intro w hSw; (try dsimp only at hSw); go_simp
                  try simp only [Act.put, List.setIfInBounds_toArray, List.set_cons_zero, List.set_cons_succ]
                  refine wpAnyH_take (i := 6) (oi := { dst := some 47, op := Op.load 73 (Operand.tmp 46), type := 73, pos := "windlassref4.go:36", after := #[{ on := 5, ground := Ground.data }], guard := none }) (v := .agg #[.int .i64 k1, .int .i64 k2]) rfl (by kernel_rfl) (by kernel_rfl) (by kernel_rfl) (fun _ _ _ h => h) (Or.inl ⟨by rfl, ?_⟩) (by assumption) ?_
                  · intro w hSw; (try dsimp only at hSw); go_simp
                  try simp only [Act.put, List.setIfInBounds_toArray, List.set_cons_zero, List.set_cons_succ]
                  refine wpAnyH_take (i := 7) (oi := { dst := some 48, op := Op.move (Operand.tmp 6), type := 70, pos := "windlassref4.go:36", after := #[], guard := none }) (v := .slice (some ⟨b3, o3, none⟩) ln lc) rfl (by kernel_rfl) (by kernel_rfl) (by kernel_rfl) (fun _ _ _ h => h) (Or.inl ⟨by rfl, ?_⟩) (by assumption) ?_
                  · intro w hSw; (try dsimp only at hSw); go_simp
                  try simp only [Act.put, List.setIfInBounds_toArray, List.set_cons_zero, List.set_cons_succ]
                  refine wpAnyH_take (i := 8) (oi := { dst := some 49, op := Op.move (Operand.tmp 7), type := 3, pos := "windlassref4.go:36", after := #[], guard := none }) (v := .int .i64 (j : Int)) rfl (by kernel_rfl) (by kernel_rfl) (by kernel_rfl) (fun _ _ _ h => h) (Or.inl ⟨by rfl, ?_⟩) (by assumption) ?_
                  · intro w hSw; (try dsimp only at hSw); go_simp
                  try simp only [Act.put, List.setIfInBounds_toArray, List.set_cons_zero, List.set_cons_succ]
                  refine wpAnyH_take (i := 9) (oi := { dst := some 50, op := Op.indexAddr 70 (Operand.tmp 48) (Operand.tmp 49), type := 0, pos := "windlassref4.go:36", after := #[{ on := 7, ground := Ground.data }, { on := 8, ground := Ground.data }], guard := none }) (v := .pointer (some ⟨b3, o3 + j * 10, none⟩)) rfl (by kernel_rfl) (by kernel_rfl) (by kernel_rfl) (fun _ _ _ h => h) (Or.inl ⟨by rfl, ?_⟩) (by assumption) ?_
                  · intro w hSw; (try dsimp only at hSw); go_simp
                  try simp only [Act.put, List.setIfInBounds_toArray, List.set_cons_zero, List.set_cons_succ]
                  refine wpAnyH_take (i := 10) (oi := { dst := some 51, op := Op.fieldAddr 81 (Operand.tmp 50) 0, type := 0, pos := "windlassref4.go:36", after := #[{ on := 9, ground := Ground.data }], guard := none }) (v := .pointer (some ⟨b3, o3 + j * 10, none⟩)) rfl (by kernel_rfl) (by kernel_rfl) (by kernel_rfl) (fun _ _ _ h => h) (Or.inl ⟨by rfl, ?_⟩) (by assumption) ?_
                  · intro w hSw; (try dsimp only at hSw); go_simp
                  try simp only [Act.put, List.setIfInBounds_toArray, List.set_cons_zero, List.set_cons_succ]
                  refine wpAnyH_take (i := 11) (oi := { dst := some 52, op := Op.load 31 (Operand.tmp 51), type := 31, pos := "windlassref4.go:36", after := #[{ on := 10, ground := Ground.data }], guard := none }) (v := .agg #[.int .i64 xk, .int .i64 xi, .string xt, .int .i64 xr, .slice xa xn xc]) rfl (by kernel_rfl) (by kernel_rfl) (by kernel_rfl) (fun _ _ _ h => h) (Or.inl ⟨by rfl, ?_⟩) (by assumption) ?_
                  · intro w hSw; (try dsimp only at hSw); go_simp
                  try simp only [Act.put, List.setIfInBounds_toArray, List.set_cons_zero, List.set_cons_succ]
                  refine wpAnyH_ready (rs := [12]) (by kernel_rfl) (by simp) ?_
                  refine AllReadyH.cons (o := { dst := some 53, op := Op.call { callee := Callee.value (Operand.func 54), args := #[Operand.tmp 41, Operand.tmp 47, Operand.tmp 52], argTypes := #[50, 73, 31] }, type := 4, pos := "windlassref4.go:36", after := #[{ on := 0, ground := Ground.data }, { on := 6, ground := Ground.data }, { on := 11, ground := Ground.data }], guard := none }) rfl (fun K hK => ?_) AllReadyH.nil
                  go_simp
                  refine (C1.out _ (QW.out _ R0.out)).mono ?_
                  rintro e u1 ⟨rfl, hb1⟩
                  have R1 := hid (TR.out R0.out hb1)
                  clear hb1
                  go_wp2_with fail
                  refine hK.out _ _ (SE.out _ R1.out) (fun hHeldN => ?_)
                  clear hK K hHeld
                  have hHeld := hHeldN
                  clear hHeldN
                  try simp only [Act.put, List.setIfInBounds_toArray, List.set_cons_zero, List.set_cons_succ]
                  refine wpAnyH_take (i := 13) (oi := { dst := some 54, op := Op.unOp UnOp.not 4 (Operand.tmp 53), type := 4, pos := "windlassref4.go:36", after := #[{ on := 12, ground := Ground.data }], guard := none }) (v := .bool true) rfl (by kernel_rfl) (by kernel_rfl) (by kernel_rfl) (fun _ _ _ h => h) (Or.inl ⟨by rfl, ?_⟩) (by assumption) ?_
                  · intro w hSw; (try dsimp only at hSw); go_simp
                  try simp only [Act.put, List.setIfInBounds_toArray, List.set_cons_zero, List.set_cons_succ]
                  refine wpAnyH_take (i := 14) (oi := { dst := some 55, op := Op.move (Operand.tmp 54), type := 4, pos := "windlassref4.go:36", after := #[{ on := 13, ground := Ground.data }, { on := 12, ground := Ground.chain }], guard := none }) (v := .bool true) rfl (by kernel_rfl) (by kernel_rfl) (by kernel_rfl) (fun _ _ _ h => h) (Or.inl ⟨by rfl, ?_⟩) (by assumption) ?_
                  · intro w hSw; (try dsimp only at hSw); go_simp
                  try simp only [Act.put, List.setIfInBounds_toArray, List.set_cons_zero, List.set_cons_succ]
                  refine wpAnyH_take (i := 15) (oi := { dst := some 56, op := Op.load 50 (Operand.tmp 2), type := 50, pos := "windlassref4.go:36", after := #[{ on := 14, ground := Ground.guard }], guard := some (14, false) }) (v := undef) rfl (by kernel_rfl) (by kernel_rfl) (by kernel_rfl) (fun _ _ _ h => h) (Or.inr ⟨by rfl, rfl⟩) (by assumption) ?_
                  try simp only [Act.put, List.setIfInBounds_toArray, List.set_cons_zero, List.set_cons_succ]
                  refine wpAnyH_take (i := 16) (oi := { dst := some 57, op := Op.fieldAddr 50 (Operand.tmp 2) 1, type := 0, pos := "windlassref4.go:36", after := #[{ on := 14, ground := Ground.guard }], guard := some (14, false) }) (v := undef) rfl (by kernel_rfl) (by kernel_rfl) (by kernel_rfl) (fun _ _ _ h => h) (Or.inr ⟨by rfl, rfl⟩) (by assumption) ?_
                  try simp only [Act.put, List.setIfInBounds_toArray, List.set_cons_zero, List.set_cons_succ]
                  refine wpAnyH_take (i := 17) (oi := { dst := some 58, op := Op.load 47 (Operand.tmp 57), type := 47, pos := "windlassref4.go:36", after := #[{ on := 16, ground := Ground.data }, { on := 14, ground := Ground.guard }], guard := some (14, false) }) (v := undef) rfl (by kernel_rfl) (by kernel_rfl) (by kernel_rfl) (fun _ _ _ h => h) (Or.inr ⟨by rfl, rfl⟩) (by assumption) ?_
                  try simp only [Act.put, List.setIfInBounds_toArray, List.set_cons_zero, List.set_cons_succ]
                  refine wpAnyH_take (i := 18) (oi := { dst := some 59, op := Op.move (Operand.tmp 5), type := 3, pos := "windlassref4.go:36", after := #[{ on := 14, ground := Ground.guard }], guard := some (14, false) }) (v := undef) rfl (by kernel_rfl) (by kernel_rfl) (by kernel_rfl) (fun _ _ _ h => h) (Or.inr ⟨by rfl, rfl⟩) (by assumption) ?_
                  try simp only [Act.put, List.setIfInBounds_toArray, List.set_cons_zero, List.set_cons_succ]
                  refine wpAnyH_take (i := 19) (oi := { dst := some 60, op := Op.indexAddr 47 (Operand.tmp 58) (Operand.tmp 59), type := 0, pos := "windlassref4.go:36", after := #[{ on := 17, ground := Ground.data }, { on := 18, ground := Ground.data }, { on := 14, ground := Ground.guard }], guard := some (14, false) }) (v := undef) rfl (by kernel_rfl) (by kernel_rfl) (by kernel_rfl) (fun _ _ _ h => h) (Or.inr ⟨by rfl, rfl⟩) (by assumption) ?_
                  try simp only [Act.put, List.setIfInBounds_toArray, List.set_cons_zero, List.set_cons_succ]
                  refine wpAnyH_take (i := 20) (oi := { dst := some 61, op := Op.fieldAddr 75 (Operand.tmp 60) 2, type := 0, pos := "windlassref4.go:36", after := #[{ on := 19, ground := Ground.data }, { on := 14, ground := Ground.guard }], guard := some (14, false) }) (v := undef) rfl (by kernel_rfl) (by kernel_rfl) (by kernel_rfl) (fun _ _ _ h => h) (Or.inr ⟨by rfl, rfl⟩) (by assumption) ?_
                  try simp only [Act.put, List.setIfInBounds_toArray, List.set_cons_zero, List.set_cons_succ]
                  refine wpAnyH_take (i := 21) (oi := { dst := some 62, op := Op.load 73 (Operand.tmp 61), type := 73, pos := "windlassref4.go:36", after := #[{ on := 20, ground := Ground.data }, { on := 14, ground := Ground.guard }], guard := some (14, false) }) (v := undef) rfl (by kernel_rfl) (by kernel_rfl) (by kernel_rfl) (fun _ _ _ h => h) (Or.inr ⟨by rfl, rfl⟩) (by assumption) ?_
                  try simp only [Act.put, List.setIfInBounds_toArray, List.set_cons_zero, List.set_cons_succ]
                  refine wpAnyH_take (i := 22) (oi := { dst := some 63, op := Op.move (Operand.tmp 6), type := 70, pos := "windlassref4.go:36", after := #[{ on := 14, ground := Ground.guard }], guard := some (14, false) }) (v := undef) rfl (by kernel_rfl) (by kernel_rfl) (by kernel_rfl) (fun _ _ _ h => h) (Or.inr ⟨by rfl, rfl⟩) (by assumption) ?_
                  try simp only [Act.put, List.setIfInBounds_toArray, List.set_cons_zero, List.set_cons_succ]
                  refine wpAnyH_take (i := 23) (oi := { dst := some 64, op := Op.move (Operand.tmp 7), type := 3, pos := "windlassref4.go:36", after := #[{ on := 14, ground := Ground.guard }], guard := some (14, false) }) (v := undef) rfl (by kernel_rfl) (by kernel_rfl) (by kernel_rfl) (fun _ _ _ h => h) (Or.inr ⟨by rfl, rfl⟩) (by assumption) ?_
                  try simp only [Act.put, List.setIfInBounds_toArray, List.set_cons_zero, List.set_cons_succ]
                  refine wpAnyH_take (i := 24) (oi := { dst := some 65, op := Op.indexAddr 70 (Operand.tmp 63) (Operand.tmp 64), type := 0, pos := "windlassref4.go:36", after := #[{ on := 22, ground := Ground.data }, { on := 23, ground := Ground.data }, { on := 14, ground := Ground.guard }], guard := some (14, false) }) (v := undef) rfl (by kernel_rfl) (by kernel_rfl) (by kernel_rfl) (fun _ _ _ h => h) (Or.inr ⟨by rfl, rfl⟩) (by assumption) ?_
                  try simp only [Act.put, List.setIfInBounds_toArray, List.set_cons_zero, List.set_cons_succ]
                  refine wpAnyH_take (i := 25) (oi := { dst := some 66, op := Op.fieldAddr 81 (Operand.tmp 65) 1, type := 0, pos := "windlassref4.go:36", after := #[{ on := 24, ground := Ground.data }, { on := 14, ground := Ground.guard }], guard := some (14, false) }) (v := undef) rfl (by kernel_rfl) (by kernel_rfl) (by kernel_rfl) (fun _ _ _ h => h) (Or.inr ⟨by rfl, rfl⟩) (by assumption) ?_
                  try simp only [Act.put, List.setIfInBounds_toArray, List.set_cons_zero, List.set_cons_succ]
                  refine wpAnyH_take (i := 26) (oi := { dst := some 67, op := Op.load 31 (Operand.tmp 66), type := 31, pos := "windlassref4.go:36", after := #[{ on := 25, ground := Ground.data }, { on := 14, ground := Ground.guard }], guard := some (14, false) }) (v := undef) rfl (by kernel_rfl) (by kernel_rfl) (by kernel_rfl) (fun _ _ _ h => h) (Or.inr ⟨by rfl, rfl⟩) (by assumption) ?_
                  try simp only [Act.put, List.setIfInBounds_toArray, List.set_cons_zero, List.set_cons_succ]
                  refine wpAnyH_take (i := 27) (oi := { dst := some 68, op := Op.call { callee := Callee.value (Operand.func 54), args := #[Operand.tmp 56, Operand.tmp 62, Operand.tmp 67], argTypes := #[50, 73, 31] }, type := 4, pos := "windlassref4.go:36", after := #[{ on := 15, ground := Ground.data }, { on := 21, ground := Ground.data }, { on := 26, ground := Ground.data }, { on := 14, ground := Ground.chain }, { on := 14, ground := Ground.guard }], guard := some (14, false) }) (v := undef) rfl (by kernel_rfl) (by kernel_rfl) (by kernel_rfl) (fun _ _ _ h => h) (Or.inr ⟨by rfl, rfl⟩) (by assumption) ?_
                  try simp only [Act.put, List.setIfInBounds_toArray, List.set_cons_zero, List.set_cons_succ]
                  refine wpAnyH_take (i := 28) (oi := { dst := some 69, op := Op.unOp UnOp.not 4 (Operand.tmp 68), type := 4, pos := "windlassref4.go:36", after := #[{ on := 27, ground := Ground.data }, { on := 14, ground := Ground.guard }], guard := some (14, false) }) (v := undef) rfl (by kernel_rfl) (by kernel_rfl) (by kernel_rfl) (fun _ _ _ h => h) (Or.inr ⟨by rfl, rfl⟩) (by assumption) ?_
                  try simp only [Act.put, List.setIfInBounds_toArray, List.set_cons_zero, List.set_cons_succ]
                  refine wpAnyH_take (i := 29) (oi := { dst := some 70, op := Op.pick (Operand.tmp 55) (Operand.const (Value.bool true)) (Operand.tmp 69), type := 4, pos := "windlassref4.go:36", after := #[{ on := 14, ground := Ground.data }, { on := 28, ground := Ground.data }], guard := none }) (v := .bool true) rfl (by kernel_rfl) (by kernel_rfl) (by kernel_rfl) (fun _ _ _ h => h) (Or.inl ⟨by rfl, ?_⟩) (by assumption) ?_
                  · intro w hSw; (try dsimp only at hSw); go_simp
                  try simp only [Act.put, List.setIfInBounds_toArray, List.set_cons_zero, List.set_cons_succ]
                  refine wpAnyH_take (i := 30) (oi := { dst := some 71, op := Op.move (Operand.tmp 70), type := 4, pos := "windlassref4.go:36", after := #[{ on := 29, ground := Ground.data }, { on := 27, ground := Ground.chain }], guard := none }) (v := .bool true) rfl (by kernel_rfl) (by kernel_rfl) (by kernel_rfl) (fun _ _ _ h => h) (Or.inl ⟨by rfl, ?_⟩) (by assumption) ?_
                  · intro w hSw; (try dsimp only at hSw); go_simp
                  try simp only [Act.put, List.setIfInBounds_toArray, List.set_cons_zero, List.set_cons_succ]
                  refine wpAnyH_take (i := 31) (oi := { dst := some 72, op := Op.move (Operand.tmp 7), type := 3, pos := "windlassref4.go:36", after := #[{ on := 30, ground := Ground.guard }], guard := some (30, false) }) (v := undef) rfl (by kernel_rfl) (by kernel_rfl) (by kernel_rfl) (fun _ _ _ h => h) (Or.inr ⟨by rfl, rfl⟩) (by assumption) ?_
                  try simp only [Act.put, List.setIfInBounds_toArray, List.set_cons_zero, List.set_cons_succ]
                  refine wpAnyH_take (i := 32) (oi := { dst := some 73, op := Op.binOp BinOp.gtr 3 (Operand.tmp 72) (Operand.const (Value.int IntKind.i64 0)) 3, type := 4, pos := "windlassref4.go:36", after := #[{ on := 31, ground := Ground.data }, { on := 30, ground := Ground.guard }], guard := some (30, false) }) (v := undef) rfl (by kernel_rfl) (by kernel_rfl) (by kernel_rfl) (fun _ _ _ h => h) (Or.inr ⟨by rfl, rfl⟩) (by assumption) ?_
                  try simp only [Act.put, List.setIfInBounds_toArray, List.set_cons_zero, List.set_cons_succ]
                  refine wpAnyH_take (i := 33) (oi := { dst := some 74, op := Op.move (Operand.tmp 73), type := 4, pos := "windlassref4.go:36", after := #[{ on := 32, ground := Ground.data }, { on := 30, ground := Ground.chain }, { on := 30, ground := Ground.guard }], guard := some (30, false) }) (v := undef) rfl (by kernel_rfl) (by kernel_rfl) (by kernel_rfl) (fun _ _ _ h => h) (Or.inr ⟨by rfl, rfl⟩) (by assumption) ?_
                  try simp only [Act.put, List.setIfInBounds_toArray, List.set_cons_zero, List.set_cons_succ]
                  refine wpAnyH_take (i := 34) (oi := { dst := some 75, op := Op.move (Operand.tmp 6), type := 70, pos := "windlassref4.go:36", after := #[{ on := 33, ground := Ground.guard }], guard := some (33, true) }) (v := undef) rfl (by kernel_rfl) (by kernel_rfl) (by kernel_rfl) (fun _ _ _ h => h) (Or.inr ⟨by rfl, rfl⟩) (by assumption) ?_
                  try simp only [Act.put, List.setIfInBounds_toArray, List.set_cons_zero, List.set_cons_succ]
                  refine wpAnyH_take (i := 35) (oi := { dst := some 76, op := Op.move (Operand.tmp 7), type := 3, pos := "windlassref4.go:36", after := #[{ on := 33, ground := Ground.guard }], guard := some (33, true) }) (v := undef) rfl (by kernel_rfl) (by kernel_rfl) (by kernel_rfl) (fun _ _ _ h => h) (Or.inr ⟨by rfl, rfl⟩) (by assumption) ?_
                  try simp only [Act.put, List.setIfInBounds_toArray, List.set_cons_zero, List.set_cons_succ]
                  refine wpAnyH_take (i := 36) (oi := { dst := some 77, op := Op.binOp BinOp.sub 3 (Operand.tmp 76) (Operand.const (Value.int IntKind.i64 1)) 3, type := 3, pos := "windlassref4.go:36", after := #[{ on := 35, ground := Ground.data }, { on := 33, ground := Ground.guard }], guard := some (33, true) }) (v := undef) rfl (by kernel_rfl) (by kernel_rfl) (by kernel_rfl) (fun _ _ _ h => h) (Or.inr ⟨by rfl, rfl⟩) (by assumption) ?_
                  try simp only [Act.put, List.setIfInBounds_toArray, List.set_cons_zero, List.set_cons_succ]
                  refine wpAnyH_take (i := 37) (oi := { dst := some 78, op := Op.indexAddr 70 (Operand.tmp 75) (Operand.tmp 77), type := 0, pos := "windlassref4.go:36", after := #[{ on := 34, ground := Ground.data }, { on := 36, ground := Ground.data }, { on := 33, ground := Ground.guard }], guard := some (33, true) }) (v := undef) rfl (by kernel_rfl) (by kernel_rfl) (by kernel_rfl) (fun _ _ _ h => h) (Or.inr ⟨by rfl, rfl⟩) (by assumption) ?_
                  try simp only [Act.put, List.setIfInBounds_toArray, List.set_cons_zero, List.set_cons_succ]
                  refine wpAnyH_take (i := 38) (oi := { dst := some 79, op := Op.fieldAddr 81 (Operand.tmp 78) 0, type := 0, pos := "windlassref4.go:36", after := #[{ on := 37, ground := Ground.data }, { on := 33, ground := Ground.guard }], guard := some (33, true) }) (v := undef) rfl (by kernel_rfl) (by kernel_rfl) (by kernel_rfl) (fun _ _ _ h => h) (Or.inr ⟨by rfl, rfl⟩) (by assumption) ?_
                  try simp only [Act.put, List.setIfInBounds_toArray, List.set_cons_zero, List.set_cons_succ]
                  refine wpAnyH_take (i := 39) (oi := { dst := some 80, op := Op.load 31 (Operand.tmp 79), type := 31, pos := "windlassref4.go:36", after := #[{ on := 38, ground := Ground.data }, { on := 33, ground := Ground.guard }], guard := some (33, true) }) (v := undef) rfl (by kernel_rfl) (by kernel_rfl) (by kernel_rfl) (fun _ _ _ h => h) (Or.inr ⟨by rfl, rfl⟩) (by assumption) ?_
                  try simp only [Act.put, List.setIfInBounds_toArray, List.set_cons_zero, List.set_cons_succ]
                  refine wpAnyH_take (i := 40) (oi := { dst := some 81, op := Op.move (Operand.tmp 6), type := 70, pos := "windlassref4.go:36", after := #[{ on := 33, ground := Ground.guard }], guard := some (33, true) }) (v := undef) rfl (by kernel_rfl) (by kernel_rfl) (by kernel_rfl) (fun _ _ _ h => h) (Or.inr ⟨by rfl, rfl⟩) (by assumption) ?_
                  try simp only [Act.put, List.setIfInBounds_toArray, List.set_cons_zero, List.set_cons_succ]
                  refine wpAnyH_take (i := 41) (oi := { dst := some 82, op := Op.move (Operand.tmp 7), type := 3, pos := "windlassref4.go:36", after := #[{ on := 33, ground := Ground.guard }], guard := some (33, true) }) (v := undef) rfl (by kernel_rfl) (by kernel_rfl) (by kernel_rfl) (fun _ _ _ h => h) (Or.inr ⟨by rfl, rfl⟩) (by assumption) ?_
                  try simp only [Act.put, List.setIfInBounds_toArray, List.set_cons_zero, List.set_cons_succ]
                  refine wpAnyH_take (i := 42) (oi := { dst := some 83, op := Op.indexAddr 70 (Operand.tmp 81) (Operand.tmp 82), type := 0, pos := "windlassref4.go:36", after := #[{ on := 40, ground := Ground.data }, { on := 41, ground := Ground.data }, { on := 33, ground := Ground.guard }], guard := some (33, true) }) (v := undef) rfl (by kernel_rfl) (by kernel_rfl) (by kernel_rfl) (fun _ _ _ h => h) (Or.inr ⟨by rfl, rfl⟩) (by assumption) ?_
                  try simp only [Act.put, List.setIfInBounds_toArray, List.set_cons_zero, List.set_cons_succ]
                  refine wpAnyH_take (i := 43) (oi := { dst := some 84, op := Op.fieldAddr 81 (Operand.tmp 83) 0, type := 0, pos := "windlassref4.go:36", after := #[{ on := 42, ground := Ground.data }, { on := 33, ground := Ground.guard }], guard := some (33, true) }) (v := undef) rfl (by kernel_rfl) (by kernel_rfl) (by kernel_rfl) (fun _ _ _ h => h) (Or.inr ⟨by rfl, rfl⟩) (by assumption) ?_
                  try simp only [Act.put, List.setIfInBounds_toArray, List.set_cons_zero, List.set_cons_succ]
                  refine wpAnyH_take (i := 44) (oi := { dst := some 85, op := Op.load 31 (Operand.tmp 84), type := 31, pos := "windlassref4.go:36", after := #[{ on := 43, ground := Ground.data }, { on := 33, ground := Ground.guard }], guard := some (33, true) }) (v := undef) rfl (by kernel_rfl) (by kernel_rfl) (by kernel_rfl) (fun _ _ _ h => h) (Or.inr ⟨by rfl, rfl⟩) (by assumption) ?_
                  try simp only [Act.put, List.setIfInBounds_toArray, List.set_cons_zero, List.set_cons_succ]
                  refine wpAnyH_take (i := 45) (oi := { dst := some 86, op := Op.call { callee := Callee.value (Operand.func 48), args := #[Operand.tmp 80, Operand.tmp 85], argTypes := #[31, 31] }, type := 3, pos := "windlassref4.go:36", after := #[{ on := 39, ground := Ground.data }, { on := 44, ground := Ground.data }, { on := 33, ground := Ground.chain }, { on := 33, ground := Ground.guard }], guard := some (33, true) }) (v := undef) rfl (by kernel_rfl) (by kernel_rfl) (by kernel_rfl) (fun _ _ _ h => h) (Or.inr ⟨by rfl, rfl⟩) (by assumption) ?_
                  try simp only [Act.put, List.setIfInBounds_toArray, List.set_cons_zero, List.set_cons_succ]
                  refine wpAnyH_take (i := 46) (oi := { dst := some 87, op := Op.binOp BinOp.geq 3 (Operand.tmp 86) (Operand.const (Value.int IntKind.i64 0)) 3, type := 4, pos := "windlassref4.go:36", after := #[{ on := 45, ground := Ground.data }, { on := 33, ground := Ground.guard }], guard := some (33, true) }) (v := undef) rfl (by kernel_rfl) (by kernel_rfl) (by kernel_rfl) (fun _ _ _ h => h) (Or.inr ⟨by rfl, rfl⟩) (by assumption) ?_
                  try simp only [Act.put, List.setIfInBounds_toArray, List.set_cons_zero, List.set_cons_succ]
                  refine wpAnyH_take (i := 47) (oi := { dst := some 88, op := Op.pick (Operand.tmp 74) (Operand.tmp 87) (Operand.const (Value.bool false)), type := 4, pos := "windlassref4.go:36", after := #[{ on := 33, ground := Ground.data }, { on := 46, ground := Ground.data }, { on := 30, ground := Ground.guard }], guard := some (30, false) }) (v := undef) rfl (by kernel_rfl) (by kernel_rfl) (by kernel_rfl) (fun _ _ _ h => h) (Or.inr ⟨by rfl, rfl⟩) (by assumption) ?_
                  try simp only [Act.put, List.setIfInBounds_toArray, List.set_cons_zero, List.set_cons_succ]
                  refine wpAnyH_take (i := 48) (oi := { dst := some 89, op := Op.pick (Operand.tmp 71) (Operand.const (Value.bool true)) (Operand.tmp 88), type := 4, pos := "windlassref4.go:36", after := #[{ on := 30, ground := Ground.data }, { on := 47, ground := Ground.data }], guard := none }) (v := .bool true) rfl (by kernel_rfl) (by kernel_rfl) (by kernel_rfl) (fun _ _ _ h => h) (Or.inl ⟨by rfl, ?_⟩) (by assumption) ?_
                  · intro w hSw; (try dsimp only at hSw); go_simp
                  try simp only [Act.put, List.setIfInBounds_toArray, List.set_cons_zero, List.set_cons_succ]
                  refine wpAnyH_done (by kernel_rfl) ?_ _
                  go_wp2
                  go_ret
                  exact ⟨by rw [HF.out]; rfl, (FX.out _ (QW.out _ R1.out)).2⟩
                | true =>
                  cases E2 with
                  | false =>
                    have HF := hid (HNJ.out (by rw [HE.out]; rfl))
                    refine wp_region_held_drew (S := fun W' => W'.cell? ⟨w.heap.size, 0, none⟩ = some (.slice ra rn rc) ∧ W'.cell? ⟨w.heap.size, 1, none⟩ = some (.slice (some ⟨b2, o2, none⟩) sn mc) ∧ W'.cell? ⟨w.heap.size, 2, none⟩ = some (.slice fa fn fc) ∧ W'.cell? ⟨w.heap.size, 3, none⟩ = some (.slice ea en ec) ∧ W'.cell? ⟨b2, o2 + i * 5 + 1, none⟩ = some (.int .i64 k1) ∧ W'.cell? ⟨b2, o2 + i * 5 + 2, none⟩ = some (.int .i64 k2) ∧ W'.cell? ⟨b2, o2 + i * 5 + 3, none⟩ = some (.int .i64 v1) ∧ W'.cell? ⟨b2, o2 + i * 5 + 4, none⟩ = some (.int .i64 v2) ∧ W'.cell? ⟨b3, o3 + j * 10, none⟩ = some (.int .i64 xk) ∧ W'.cell? ⟨b3, o3 + j * 10 + 1, none⟩ = some (.int .i64 xi) ∧ W'.cell? ⟨b3, o3 + j * 10 + 2, none⟩ = some (.string xt) ∧ W'.cell? ⟨b3, o3 + j * 10 + 3, none⟩ = some (.int .i64 xr) ∧ W'.cell? ⟨b3, o3 + j * 10 + 4, none⟩ = some (.slice xa xn xc) ∧ W'.cell? ⟨b3, o3 + j * 10 + 5, none⟩ = some (.int .i64 yk) ∧ W'.cell? ⟨b3, o3 + j * 10 + 6, none⟩ = some (.int .i64 yi) ∧ W'.cell? ⟨b3, o3 + j * 10 + 7, none⟩ = some (.string yt) ∧ W'.cell? ⟨b3, o3 + j * 10 + 8, none⟩ = some (.int .i64 yr) ∧ W'.cell? ⟨b3, o3 + j * 10 + 9, none⟩ = some (.slice ya yn yc)) (by kernel_rfl) (SE.out _ R0.out) (fun hHeld => ?_)
                    refine wpAnyH_take (i := 0) (oi := { dst := some 41, op := Op.load 50 (Operand.tmp 2), type := 50, pos := "windlassref4.go:36", after := #[], guard := none }) (v := .agg #[.slice ra rn rc, .slice (some ⟨b2, o2, none⟩) sn mc, .slice fa fn fc, .slice ea en ec]) rfl (by kernel_rfl) (by kernel_rfl) (by kernel_rfl) (fun _ _ _ h => h) (Or.inl ⟨by rfl, ?_⟩) (by assumption) ?_
                    · intro w hSw; (try dsimp only at hSw); go_simp
                    try simp only [Act.put, List.setIfInBounds_toArray, List.set_cons_zero, List.set_cons_succ]
                    refine wpAnyH_take (i := 1) (oi := { dst := some 42, op := Op.fieldAddr 50 (Operand.tmp 2) 1, type := 0, pos := "windlassref4.go:36", after := #[], guard := none }) (v := .pointer (some ⟨w.heap.size, 1, none⟩)) rfl (by kernel_rfl) (by kernel_rfl) (by kernel_rfl) (fun _ _ _ h => h) (Or.inl ⟨by rfl, ?_⟩) (by assumption) ?_
                    · intro w hSw; (try dsimp only at hSw); go_simp
                    try simp only [Act.put, List.setIfInBounds_toArray, List.set_cons_zero, List.set_cons_succ]
                    refine wpAnyH_take (i := 2) (oi := { dst := some 43, op := Op.load 47 (Operand.tmp 42), type := 47, pos := "windlassref4.go:36", after := #[{ on := 1, ground := Ground.data }], guard := none }) (v := .slice (some ⟨b2, o2, none⟩) sn mc) rfl (by kernel_rfl) (by kernel_rfl) (by kernel_rfl) (fun _ _ _ h => h) (Or.inl ⟨by rfl, ?_⟩) (by assumption) ?_
                    · intro w hSw; (try dsimp only at hSw); go_simp
                    try simp only [Act.put, List.setIfInBounds_toArray, List.set_cons_zero, List.set_cons_succ]
                    refine wpAnyH_take (i := 3) (oi := { dst := some 44, op := Op.move (Operand.tmp 5), type := 3, pos := "windlassref4.go:36", after := #[], guard := none }) (v := .int .i64 (i : Int)) rfl (by kernel_rfl) (by kernel_rfl) (by kernel_rfl) (fun _ _ _ h => h) (Or.inl ⟨by rfl, ?_⟩) (by assumption) ?_
                    · intro w hSw; (try dsimp only at hSw); go_simp
                    try simp only [Act.put, List.setIfInBounds_toArray, List.set_cons_zero, List.set_cons_succ]
                    refine wpAnyH_take (i := 4) (oi := { dst := some 45, op := Op.indexAddr 47 (Operand.tmp 43) (Operand.tmp 44), type := 0, pos := "windlassref4.go:36", after := #[{ on := 2, ground := Ground.data }, { on := 3, ground := Ground.data }], guard := none }) (v := .pointer (some ⟨b2, o2 + i * 5, none⟩)) rfl (by kernel_rfl) (by kernel_rfl) (by kernel_rfl) (fun _ _ _ h => h) (Or.inl ⟨by rfl, ?_⟩) (by assumption) ?_
                    · intro w hSw; (try dsimp only at hSw); go_simp
                    try simp only [Act.put, List.setIfInBounds_toArray, List.set_cons_zero, List.set_cons_succ]
                    refine wpAnyH_take (i := 5) (oi := { dst := some 46, op := Op.fieldAddr 75 (Operand.tmp 45) 1, type := 0, pos := "windlassref4.go:36", after := #[{ on := 4, ground := Ground.data }], guard := none }) (v := .pointer (some ⟨b2, o2 + i * 5 + 1, none⟩)) rfl (by kernel_rfl) (by kernel_rfl) (by kernel_rfl) (fun _ _ _ h => h) (Or.inl ⟨by rfl, ?_⟩) (by assumption) ?_
                    · intro w hSw; (try dsimp only at hSw); go_simp
                    try simp only [Act.put, List.setIfInBounds_toArray, List.set_cons_zero, List.set_cons_succ]
                    refine wpAnyH_take (i := 6) (oi := { dst := some 47, op := Op.load 73 (Operand.tmp 46), type := 73, pos := "windlassref4.go:36", after := #[{ on := 5, ground := Ground.data }], guard := none }) (v := .agg #[.int .i64 k1, .int .i64 k2]) rfl (by kernel_rfl) (by kernel_rfl) (by kernel_rfl) (fun _ _ _ h => h) (Or.inl ⟨by rfl, ?_⟩) (by assumption) ?_
                    · intro w hSw; (try dsimp only at hSw); go_simp
                    try simp only [Act.put, List.setIfInBounds_toArray, List.set_cons_zero, List.set_cons_succ]
                    refine wpAnyH_take (i := 7) (oi := { dst := some 48, op := Op.move (Operand.tmp 6), type := 70, pos := "windlassref4.go:36", after := #[], guard := none }) (v := .slice (some ⟨b3, o3, none⟩) ln lc) rfl (by kernel_rfl) (by kernel_rfl) (by kernel_rfl) (fun _ _ _ h => h) (Or.inl ⟨by rfl, ?_⟩) (by assumption) ?_
                    · intro w hSw; (try dsimp only at hSw); go_simp
                    try simp only [Act.put, List.setIfInBounds_toArray, List.set_cons_zero, List.set_cons_succ]
                    refine wpAnyH_take (i := 8) (oi := { dst := some 49, op := Op.move (Operand.tmp 7), type := 3, pos := "windlassref4.go:36", after := #[], guard := none }) (v := .int .i64 (j : Int)) rfl (by kernel_rfl) (by kernel_rfl) (by kernel_rfl) (fun _ _ _ h => h) (Or.inl ⟨by rfl, ?_⟩) (by assumption) ?_
                    · intro w hSw; (try dsimp only at hSw); go_simp
                    try simp only [Act.put, List.setIfInBounds_toArray, List.set_cons_zero, List.set_cons_succ]
                    refine wpAnyH_take (i := 9) (oi := { dst := some 50, op := Op.indexAddr 70 (Operand.tmp 48) (Operand.tmp 49), type := 0, pos := "windlassref4.go:36", after := #[{ on := 7, ground := Ground.data }, { on := 8, ground := Ground.data }], guard := none }) (v := .pointer (some ⟨b3, o3 + j * 10, none⟩)) rfl (by kernel_rfl) (by kernel_rfl) (by kernel_rfl) (fun _ _ _ h => h) (Or.inl ⟨by rfl, ?_⟩) (by assumption) ?_
                    · intro w hSw; (try dsimp only at hSw); go_simp
                    try simp only [Act.put, List.setIfInBounds_toArray, List.set_cons_zero, List.set_cons_succ]
                    refine wpAnyH_take (i := 10) (oi := { dst := some 51, op := Op.fieldAddr 81 (Operand.tmp 50) 0, type := 0, pos := "windlassref4.go:36", after := #[{ on := 9, ground := Ground.data }], guard := none }) (v := .pointer (some ⟨b3, o3 + j * 10, none⟩)) rfl (by kernel_rfl) (by kernel_rfl) (by kernel_rfl) (fun _ _ _ h => h) (Or.inl ⟨by rfl, ?_⟩) (by assumption) ?_
                    · intro w hSw; (try dsimp only at hSw); go_simp
                    try simp only [Act.put, List.setIfInBounds_toArray, List.set_cons_zero, List.set_cons_succ]
                    refine wpAnyH_take (i := 11) (oi := { dst := some 52, op := Op.load 31 (Operand.tmp 51), type := 31, pos := "windlassref4.go:36", after := #[{ on := 10, ground := Ground.data }], guard := none }) (v := .agg #[.int .i64 xk, .int .i64 xi, .string xt, .int .i64 xr, .slice xa xn xc]) rfl (by kernel_rfl) (by kernel_rfl) (by kernel_rfl) (fun _ _ _ h => h) (Or.inl ⟨by rfl, ?_⟩) (by assumption) ?_
                    · intro w hSw; (try dsimp only at hSw); go_simp
                    try simp only [Act.put, List.setIfInBounds_toArray, List.set_cons_zero, List.set_cons_succ]
                    refine wpAnyH_ready (rs := [12]) (by kernel_rfl) (by simp) ?_
                    refine AllReadyH.cons (o := { dst := some 53, op := Op.call { callee := Callee.value (Operand.func 54), args := #[Operand.tmp 41, Operand.tmp 47, Operand.tmp 52], argTypes := #[50, 73, 31] }, type := 4, pos := "windlassref4.go:36", after := #[{ on := 0, ground := Ground.data }, { on := 6, ground := Ground.data }, { on := 11, ground := Ground.data }], guard := none }) rfl (fun K hK => ?_) AllReadyH.nil
                    go_simp
                    refine (C1.out _ (QW.out _ R0.out)).mono ?_
                    rintro e u1 ⟨rfl, hb1⟩
                    have R1 := hid (TR.out R0.out hb1)
                    clear hb1
                    go_wp2_with fail
                    refine hK.out _ _ (SE.out _ R1.out) (fun hHeldN => ?_)
                    clear hK K hHeld
                    have hHeld := hHeldN
                    clear hHeldN
                    try simp only [Act.put, List.setIfInBounds_toArray, List.set_cons_zero, List.set_cons_succ]
                    refine wpAnyH_take (i := 13) (oi := { dst := some 54, op := Op.unOp UnOp.not 4 (Operand.tmp 53), type := 4, pos := "windlassref4.go:36", after := #[{ on := 12, ground := Ground.data }], guard := none }) (v := .bool false) rfl (by kernel_rfl) (by kernel_rfl) (by kernel_rfl) (fun _ _ _ h => h) (Or.inl ⟨by rfl, ?_⟩) (by assumption) ?_
                    · intro w hSw; (try dsimp only at hSw); go_simp
                    try simp only [Act.put, List.setIfInBounds_toArray, List.set_cons_zero, List.set_cons_succ]
                    refine wpAnyH_take (i := 14) (oi := { dst := some 55, op := Op.move (Operand.tmp 54), type := 4, pos := "windlassref4.go:36", after := #[{ on := 13, ground := Ground.data }, { on := 12, ground := Ground.chain }], guard := none }) (v := .bool false) rfl (by kernel_rfl) (by kernel_rfl) (by kernel_rfl) (fun _ _ _ h => h) (Or.inl ⟨by rfl, ?_⟩) (by assumption) ?_
                    · intro w hSw; (try dsimp only at hSw); go_simp
                    try simp only [Act.put, List.setIfInBounds_toArray, List.set_cons_zero, List.set_cons_succ]
                    refine wpAnyH_take (i := 15) (oi := { dst := some 56, op := Op.load 50 (Operand.tmp 2), type := 50, pos := "windlassref4.go:36", after := #[{ on := 14, ground := Ground.guard }], guard := some (14, false) }) (v := .agg #[.slice ra rn rc, .slice (some ⟨b2, o2, none⟩) sn mc, .slice fa fn fc, .slice ea en ec]) rfl (by kernel_rfl) (by kernel_rfl) (by kernel_rfl) (fun _ _ _ h => h) (Or.inl ⟨by rfl, ?_⟩) (by assumption) ?_
                    · intro w hSw; (try dsimp only at hSw); go_simp
                    try simp only [Act.put, List.setIfInBounds_toArray, List.set_cons_zero, List.set_cons_succ]
                    refine wpAnyH_take (i := 16) (oi := { dst := some 57, op := Op.fieldAddr 50 (Operand.tmp 2) 1, type := 0, pos := "windlassref4.go:36", after := #[{ on := 14, ground := Ground.guard }], guard := some (14, false) }) (v := .pointer (some ⟨w.heap.size, 1, none⟩)) rfl (by kernel_rfl) (by kernel_rfl) (by kernel_rfl) (fun _ _ _ h => h) (Or.inl ⟨by rfl, ?_⟩) (by assumption) ?_
                    · intro w hSw; (try dsimp only at hSw); go_simp
                    try simp only [Act.put, List.setIfInBounds_toArray, List.set_cons_zero, List.set_cons_succ]
                    refine wpAnyH_take (i := 17) (oi := { dst := some 58, op := Op.load 47 (Operand.tmp 57), type := 47, pos := "windlassref4.go:36", after := #[{ on := 16, ground := Ground.data }, { on := 14, ground := Ground.guard }], guard := some (14, false) }) (v := .slice (some ⟨b2, o2, none⟩) sn mc) rfl (by kernel_rfl) (by kernel_rfl) (by kernel_rfl) (fun _ _ _ h => h) (Or.inl ⟨by rfl, ?_⟩) (by assumption) ?_
                    · intro w hSw; (try dsimp only at hSw); go_simp
                    try simp only [Act.put, List.setIfInBounds_toArray, List.set_cons_zero, List.set_cons_succ]
                    refine wpAnyH_take (i := 18) (oi := { dst := some 59, op := Op.move (Operand.tmp 5), type := 3, pos := "windlassref4.go:36", after := #[{ on := 14, ground := Ground.guard }], guard := some (14, false) }) (v := .int .i64 (i : Int)) rfl (by kernel_rfl) (by kernel_rfl) (by kernel_rfl) (fun _ _ _ h => h) (Or.inl ⟨by rfl, ?_⟩) (by assumption) ?_
                    · intro w hSw; (try dsimp only at hSw); go_simp
                    try simp only [Act.put, List.setIfInBounds_toArray, List.set_cons_zero, List.set_cons_succ]
                    refine wpAnyH_take (i := 19) (oi := { dst := some 60, op := Op.indexAddr 47 (Operand.tmp 58) (Operand.tmp 59), type := 0, pos := "windlassref4.go:36", after := #[{ on := 17, ground := Ground.data }, { on := 18, ground := Ground.data }, { on := 14, ground := Ground.guard }], guard := some (14, false) }) (v := .pointer (some ⟨b2, o2 + i * 5, none⟩)) rfl (by kernel_rfl) (by kernel_rfl) (by kernel_rfl) (fun _ _ _ h => h) (Or.inl ⟨by rfl, ?_⟩) (by assumption) ?_
                    · intro w hSw; (try dsimp only at hSw); go_simp
                    try simp only [Act.put, List.setIfInBounds_toArray, List.set_cons_zero, List.set_cons_succ]
                    refine wpAnyH_take (i := 20) (oi := { dst := some 61, op := Op.fieldAddr 75 (Operand.tmp 60) 2, type := 0, pos := "windlassref4.go:36", after := #[{ on := 19, ground := Ground.data }, { on := 14, ground := Ground.guard }], guard := some (14, false) }) (v := .pointer (some ⟨b2, o2 + i * 5 + 3, none⟩)) rfl (by kernel_rfl) (by kernel_rfl) (by kernel_rfl) (fun _ _ _ h => h) (Or.inl ⟨by rfl, ?_⟩) (by assumption) ?_
                    · intro w hSw; (try dsimp only at hSw); go_simp
                    try simp only [Act.put, List.setIfInBounds_toArray, List.set_cons_zero, List.set_cons_succ]
                    refine wpAnyH_take (i := 21) (oi := { dst := some 62, op := Op.load 73 (Operand.tmp 61), type := 73, pos := "windlassref4.go:36", after := #[{ on := 20, ground := Ground.data }, { on := 14, ground := Ground.guard }], guard := some (14, false) }) (v := .agg #[.int .i64 v1, .int .i64 v2]) rfl (by kernel_rfl) (by kernel_rfl) (by kernel_rfl) (fun _ _ _ h => h) (Or.inl ⟨by rfl, ?_⟩) (by assumption) ?_
                    · intro w hSw; (try dsimp only at hSw); go_simp
                    try simp only [Act.put, List.setIfInBounds_toArray, List.set_cons_zero, List.set_cons_succ]
                    refine wpAnyH_take (i := 22) (oi := { dst := some 63, op := Op.move (Operand.tmp 6), type := 70, pos := "windlassref4.go:36", after := #[{ on := 14, ground := Ground.guard }], guard := some (14, false) }) (v := .slice (some ⟨b3, o3, none⟩) ln lc) rfl (by kernel_rfl) (by kernel_rfl) (by kernel_rfl) (fun _ _ _ h => h) (Or.inl ⟨by rfl, ?_⟩) (by assumption) ?_
                    · intro w hSw; (try dsimp only at hSw); go_simp
                    try simp only [Act.put, List.setIfInBounds_toArray, List.set_cons_zero, List.set_cons_succ]
                    refine wpAnyH_take (i := 23) (oi := { dst := some 64, op := Op.move (Operand.tmp 7), type := 3, pos := "windlassref4.go:36", after := #[{ on := 14, ground := Ground.guard }], guard := some (14, false) }) (v := .int .i64 (j : Int)) rfl (by kernel_rfl) (by kernel_rfl) (by kernel_rfl) (fun _ _ _ h => h) (Or.inl ⟨by rfl, ?_⟩) (by assumption) ?_
                    · intro w hSw; (try dsimp only at hSw); go_simp
                    try simp only [Act.put, List.setIfInBounds_toArray, List.set_cons_zero, List.set_cons_succ]
                    refine wpAnyH_take (i := 24) (oi := { dst := some 65, op := Op.indexAddr 70 (Operand.tmp 63) (Operand.tmp 64), type := 0, pos := "windlassref4.go:36", after := #[{ on := 22, ground := Ground.data }, { on := 23, ground := Ground.data }, { on := 14, ground := Ground.guard }], guard := some (14, false) }) (v := .pointer (some ⟨b3, o3 + j * 10, none⟩)) rfl (by kernel_rfl) (by kernel_rfl) (by kernel_rfl) (fun _ _ _ h => h) (Or.inl ⟨by rfl, ?_⟩) (by assumption) ?_
                    · intro w hSw; (try dsimp only at hSw); go_simp
                    try simp only [Act.put, List.setIfInBounds_toArray, List.set_cons_zero, List.set_cons_succ]
                    refine wpAnyH_take (i := 25) (oi := { dst := some 66, op := Op.fieldAddr 81 (Operand.tmp 65) 1, type := 0, pos := "windlassref4.go:36", after := #[{ on := 24, ground := Ground.data }, { on := 14, ground := Ground.guard }], guard := some (14, false) }) (v := .pointer (some ⟨b3, o3 + j * 10 + 5, none⟩)) rfl (by kernel_rfl) (by kernel_rfl) (by kernel_rfl) (fun _ _ _ h => h) (Or.inl ⟨by rfl, ?_⟩) (by assumption) ?_
                    · intro w hSw; (try dsimp only at hSw); go_simp
                    try simp only [Act.put, List.setIfInBounds_toArray, List.set_cons_zero, List.set_cons_succ]
                    refine wpAnyH_take (i := 26) (oi := { dst := some 67, op := Op.load 31 (Operand.tmp 66), type := 31, pos := "windlassref4.go:36", after := #[{ on := 25, ground := Ground.data }, { on := 14, ground := Ground.guard }], guard := some (14, false) }) (v := .agg #[.int .i64 yk, .int .i64 yi, .string yt, .int .i64 yr, .slice ya yn yc]) rfl (by kernel_rfl) (by kernel_rfl) (by kernel_rfl) (fun _ _ _ h => h) (Or.inl ⟨by rfl, ?_⟩) (by assumption) ?_
                    · intro w hSw; (try dsimp only at hSw); go_simp
                    try simp only [Act.put, List.setIfInBounds_toArray, List.set_cons_zero, List.set_cons_succ]
                    refine wpAnyH_ready (rs := [27]) (by kernel_rfl) (by simp) ?_
                    refine AllReadyH.cons (o := { dst := some 68, op := Op.call { callee := Callee.value (Operand.func 54), args := #[Operand.tmp 56, Operand.tmp 62, Operand.tmp 67], argTypes := #[50, 73, 31] }, type := 4, pos := "windlassref4.go:36", after := #[{ on := 15, ground := Ground.data }, { on := 21, ground := Ground.data }, { on := 26, ground := Ground.data }, { on := 14, ground := Ground.chain }, { on := 14, ground := Ground.guard }], guard := some (14, false) }) rfl (fun K hK => ?_) AllReadyH.nil
                    go_simp
                    refine (C2.out _ (QW.out _ R1.out)).mono ?_
                    rintro e u2 ⟨rfl, hb1⟩
                    have R2 := hid (TR.out R1.out hb1)
                    clear hb1
                    go_wp2_with fail
                    refine hK.out _ _ (SE.out _ R2.out) (fun hHeldN => ?_)
                    clear hK K hHeld
                    have hHeld := hHeldN
                    clear hHeldN
                    try simp only [Act.put, List.setIfInBounds_toArray, List.set_cons_zero, List.set_cons_succ]
                    refine wpAnyH_take (i := 28) (oi := { dst := some 69, op := Op.unOp UnOp.not 4 (Operand.tmp 68), type := 4, pos := "windlassref4.go:36", after := #[{ on := 27, ground := Ground.data }, { on := 14, ground := Ground.guard }], guard := some (14, false) }) (v := .bool true) rfl (by kernel_rfl) (by kernel_rfl) (by kernel_rfl) (fun _ _ _ h => h) (Or.inl ⟨by rfl, ?_⟩) (by assumption) ?_
                    · intro w hSw; (try dsimp only at hSw); go_simp
                    try simp only [Act.put, List.setIfInBounds_toArray, List.set_cons_zero, List.set_cons_succ]
                    refine wpAnyH_take (i := 29) (oi := { dst := some 70, op := Op.pick (Operand.tmp 55) (Operand.const (Value.bool true)) (Operand.tmp 69), type := 4, pos := "windlassref4.go:36", after := #[{ on := 14, ground := Ground.data }, { on := 28, ground := Ground.data }], guard := none }) (v := .bool true) rfl (by kernel_rfl) (by kernel_rfl) (by kernel_rfl) (fun _ _ _ h => h) (Or.inl ⟨by rfl, ?_⟩) (by assumption) ?_
                    · intro w hSw; (try dsimp only at hSw); go_simp
                    try simp only [Act.put, List.setIfInBounds_toArray, List.set_cons_zero, List.set_cons_succ]
                    refine wpAnyH_take (i := 30) (oi := { dst := some 71, op := Op.move (Operand.tmp 70), type := 4, pos := "windlassref4.go:36", after := #[{ on := 29, ground := Ground.data }, { on := 27, ground := Ground.chain }], guard := none }) (v := .bool true) rfl (by kernel_rfl) (by kernel_rfl) (by kernel_rfl) (fun _ _ _ h => h) (Or.inl ⟨by rfl, ?_⟩) (by assumption) ?_
                    · intro w hSw; (try dsimp only at hSw); go_simp
                    try simp only [Act.put, List.setIfInBounds_toArray, List.set_cons_zero, List.set_cons_succ]
                    refine wpAnyH_take (i := 31) (oi := { dst := some 72, op := Op.move (Operand.tmp 7), type := 3, pos := "windlassref4.go:36", after := #[{ on := 30, ground := Ground.guard }], guard := some (30, false) }) (v := undef) rfl (by kernel_rfl) (by kernel_rfl) (by kernel_rfl) (fun _ _ _ h => h) (Or.inr ⟨by rfl, rfl⟩) (by assumption) ?_
                    try simp only [Act.put, List.setIfInBounds_toArray, List.set_cons_zero, List.set_cons_succ]
                    refine wpAnyH_take (i := 32) (oi := { dst := some 73, op := Op.binOp BinOp.gtr 3 (Operand.tmp 72) (Operand.const (Value.int IntKind.i64 0)) 3, type := 4, pos := "windlassref4.go:36", after := #[{ on := 31, ground := Ground.data }, { on := 30, ground := Ground.guard }], guard := some (30, false) }) (v := undef) rfl (by kernel_rfl) (by kernel_rfl) (by kernel_rfl) (fun _ _ _ h => h) (Or.inr ⟨by rfl, rfl⟩) (by assumption) ?_
                    try simp only [Act.put, List.setIfInBounds_toArray, List.set_cons_zero, List.set_cons_succ]
                    refine wpAnyH_take (i := 33) (oi := { dst := some 74, op := Op.move (Operand.tmp 73), type := 4, pos := "windlassref4.go:36", after := #[{ on := 32, ground := Ground.data }, { on := 30, ground := Ground.chain }, { on := 30, ground := Ground.guard }], guard := some (30, false) }) (v := undef) rfl (by kernel_rfl) (by kernel_rfl) (by kernel_rfl) (fun _ _ _ h => h) (Or.inr ⟨by rfl, rfl⟩) (by assumption) ?_
                    try simp only [Act.put, List.setIfInBounds_toArray, List.set_cons_zero, List.set_cons_succ]
                    refine wpAnyH_take (i := 34) (oi := { dst := some 75, op := Op.move (Operand.tmp 6), type := 70, pos := "windlassref4.go:36", after := #[{ on := 33, ground := Ground.guard }], guard := some (33, true) }) (v := undef) rfl (by kernel_rfl) (by kernel_rfl) (by kernel_rfl) (fun _ _ _ h => h) (Or.inr ⟨by rfl, rfl⟩) (by assumption) ?_
                    try simp only [Act.put, List.setIfInBounds_toArray, List.set_cons_zero, List.set_cons_succ]
                    refine wpAnyH_take (i := 35) (oi := { dst := some 76, op := Op.move (Operand.tmp 7), type := 3, pos := "windlassref4.go:36", after := #[{ on := 33, ground := Ground.guard }], guard := some (33, true) }) (v := undef) rfl (by kernel_rfl) (by kernel_rfl) (by kernel_rfl) (fun _ _ _ h => h) (Or.inr ⟨by rfl, rfl⟩) (by assumption) ?_
                    try simp only [Act.put, List.setIfInBounds_toArray, List.set_cons_zero, List.set_cons_succ]
                    refine wpAnyH_take (i := 36) (oi := { dst := some 77, op := Op.binOp BinOp.sub 3 (Operand.tmp 76) (Operand.const (Value.int IntKind.i64 1)) 3, type := 3, pos := "windlassref4.go:36", after := #[{ on := 35, ground := Ground.data }, { on := 33, ground := Ground.guard }], guard := some (33, true) }) (v := undef) rfl (by kernel_rfl) (by kernel_rfl) (by kernel_rfl) (fun _ _ _ h => h) (Or.inr ⟨by rfl, rfl⟩) (by assumption) ?_
                    try simp only [Act.put, List.setIfInBounds_toArray, List.set_cons_zero, List.set_cons_succ]
                    refine wpAnyH_take (i := 37) (oi := { dst := some 78, op := Op.indexAddr 70 (Operand.tmp 75) (Operand.tmp 77), type := 0, pos := "windlassref4.go:36", after := #[{ on := 34, ground := Ground.data }, { on := 36, ground := Ground.data }, { on := 33, ground := Ground.guard }], guard := some (33, true) }) (v := undef) rfl (by kernel_rfl) (by kernel_rfl) (by kernel_rfl) (fun _ _ _ h => h) (Or.inr ⟨by rfl, rfl⟩) (by assumption) ?_
                    try simp only [Act.put, List.setIfInBounds_toArray, List.set_cons_zero, List.set_cons_succ]
                    refine wpAnyH_take (i := 38) (oi := { dst := some 79, op := Op.fieldAddr 81 (Operand.tmp 78) 0, type := 0, pos := "windlassref4.go:36", after := #[{ on := 37, ground := Ground.data }, { on := 33, ground := Ground.guard }], guard := some (33, true) }) (v := undef) rfl (by kernel_rfl) (by kernel_rfl) (by kernel_rfl) (fun _ _ _ h => h) (Or.inr ⟨by rfl, rfl⟩) (by assumption) ?_
                    try simp only [Act.put, List.setIfInBounds_toArray, List.set_cons_zero, List.set_cons_succ]
                    refine wpAnyH_take (i := 39) (oi := { dst := some 80, op := Op.load 31 (Operand.tmp 79), type := 31, pos := "windlassref4.go:36", after := #[{ on := 38, ground := Ground.data }, { on := 33, ground := Ground.guard }], guard := some (33, true) }) (v := undef) rfl (by kernel_rfl) (by kernel_rfl) (by kernel_rfl) (fun _ _ _ h => h) (Or.inr ⟨by rfl, rfl⟩) (by assumption) ?_
                    try simp only [Act.put, List.setIfInBounds_toArray, List.set_cons_zero, List.set_cons_succ]
                    refine wpAnyH_take (i := 40) (oi := { dst := some 81, op := Op.move (Operand.tmp 6), type := 70, pos := "windlassref4.go:36", after := #[{ on := 33, ground := Ground.guard }], guard := some (33, true) }) (v := undef) rfl (by kernel_rfl) (by kernel_rfl) (by kernel_rfl) (fun _ _ _ h => h) (Or.inr ⟨by rfl, rfl⟩) (by assumption) ?_
                    try simp only [Act.put, List.setIfInBounds_toArray, List.set_cons_zero, List.set_cons_succ]
                    refine wpAnyH_take (i := 41) (oi := { dst := some 82, op := Op.move (Operand.tmp 7), type := 3, pos := "windlassref4.go:36", after := #[{ on := 33, ground := Ground.guard }], guard := some (33, true) }) (v := undef) rfl (by kernel_rfl) (by kernel_rfl) (by kernel_rfl) (fun _ _ _ h => h) (Or.inr ⟨by rfl, rfl⟩) (by assumption) ?_
                    try simp only [Act.put, List.setIfInBounds_toArray, List.set_cons_zero, List.set_cons_succ]
                    refine wpAnyH_take (i := 42) (oi := { dst := some 83, op := Op.indexAddr 70 (Operand.tmp 81) (Operand.tmp 82), type := 0, pos := "windlassref4.go:36", after := #[{ on := 40, ground := Ground.data }, { on := 41, ground := Ground.data }, { on := 33, ground := Ground.guard }], guard := some (33, true) }) (v := undef) rfl (by kernel_rfl) (by kernel_rfl) (by kernel_rfl) (fun _ _ _ h => h) (Or.inr ⟨by rfl, rfl⟩) (by assumption) ?_
                    try simp only [Act.put, List.setIfInBounds_toArray, List.set_cons_zero, List.set_cons_succ]
                    refine wpAnyH_take (i := 43) (oi := { dst := some 84, op := Op.fieldAddr 81 (Operand.tmp 83) 0, type := 0, pos := "windlassref4.go:36", after := #[{ on := 42, ground := Ground.data }, { on := 33, ground := Ground.guard }], guard := some (33, true) }) (v := undef) rfl (by kernel_rfl) (by kernel_rfl) (by kernel_rfl) (fun _ _ _ h => h) (Or.inr ⟨by rfl, rfl⟩) (by assumption) ?_
                    try simp only [Act.put, List.setIfInBounds_toArray, List.set_cons_zero, List.set_cons_succ]
                    refine wpAnyH_take (i := 44) (oi := { dst := some 85, op := Op.load 31 (Operand.tmp 84), type := 31, pos := "windlassref4.go:36", after := #[{ on := 43, ground := Ground.data }, { on := 33, ground := Ground.guard }], guard := some (33, true) }) (v := undef) rfl (by kernel_rfl) (by kernel_rfl) (by kernel_rfl) (fun _ _ _ h => h) (Or.inr ⟨by rfl, rfl⟩) (by assumption) ?_
                    try simp only [Act.put, List.setIfInBounds_toArray, List.set_cons_zero, List.set_cons_succ]
                    refine wpAnyH_take (i := 45) (oi := { dst := some 86, op := Op.call { callee := Callee.value (Operand.func 48), args := #[Operand.tmp 80, Operand.tmp 85], argTypes := #[31, 31] }, type := 3, pos := "windlassref4.go:36", after := #[{ on := 39, ground := Ground.data }, { on := 44, ground := Ground.data }, { on := 33, ground := Ground.chain }, { on := 33, ground := Ground.guard }], guard := some (33, true) }) (v := undef) rfl (by kernel_rfl) (by kernel_rfl) (by kernel_rfl) (fun _ _ _ h => h) (Or.inr ⟨by rfl, rfl⟩) (by assumption) ?_
                    try simp only [Act.put, List.setIfInBounds_toArray, List.set_cons_zero, List.set_cons_succ]
                    refine wpAnyH_take (i := 46) (oi := { dst := some 87, op := Op.binOp BinOp.geq 3 (Operand.tmp 86) (Operand.const (Value.int IntKind.i64 0)) 3, type := 4, pos := "windlassref4.go:36", after := #[{ on := 45, ground := Ground.data }, { on := 33, ground := Ground.guard }], guard := some (33, true) }) (v := undef) rfl (by kernel_rfl) (by kernel_rfl) (by kernel_rfl) (fun _ _ _ h => h) (Or.inr ⟨by rfl, rfl⟩) (by assumption) ?_
                    try simp only [Act.put, List.setIfInBounds_toArray, List.set_cons_zero, List.set_cons_succ]
                    refine wpAnyH_take (i := 47) (oi := { dst := some 88, op := Op.pick (Operand.tmp 74) (Operand.tmp 87) (Operand.const (Value.bool false)), type := 4, pos := "windlassref4.go:36", after := #[{ on := 33, ground := Ground.data }, { on := 46, ground := Ground.data }, { on := 30, ground := Ground.guard }], guard := some (30, false) }) (v := undef) rfl (by kernel_rfl) (by kernel_rfl) (by kernel_rfl) (fun _ _ _ h => h) (Or.inr ⟨by rfl, rfl⟩) (by assumption) ?_
                    try simp only [Act.put, List.setIfInBounds_toArray, List.set_cons_zero, List.set_cons_succ]
                    refine wpAnyH_take (i := 48) (oi := { dst := some 89, op := Op.pick (Operand.tmp 71) (Operand.const (Value.bool true)) (Operand.tmp 88), type := 4, pos := "windlassref4.go:36", after := #[{ on := 30, ground := Ground.data }, { on := 47, ground := Ground.data }], guard := none }) (v := .bool true) rfl (by kernel_rfl) (by kernel_rfl) (by kernel_rfl) (fun _ _ _ h => h) (Or.inl ⟨by rfl, ?_⟩) (by assumption) ?_
                    · intro w hSw; (try dsimp only at hSw); go_simp
                    try simp only [Act.put, List.setIfInBounds_toArray, List.set_cons_zero, List.set_cons_succ]
                    refine wpAnyH_done (by kernel_rfl) ?_ _
                    go_wp2
                    go_ret
                    exact ⟨by rw [HF.out]; rfl, (FX.out _ (QW.out _ R2.out)).2⟩
                  | true =>
                    by_cases hj0 : j = 0
                    · have Hj0 := hid hj0
                      have HT := hid (show entV k p ⟨nm, (k1, k2), (v1, v2)⟩ lr j = true from by rw [HE.out, decide_eq_true hj0]; rfl)
                      have hjb : decide (0 < j) = false := decide_eq_false (by omega)
                      have hjn : ¬ 0 < j := by omega
                      clear hj0
                      refine wp_region_held_drew (S := fun W' => W'.cell? ⟨w.heap.size, 0, none⟩ = some (.slice ra rn rc) ∧ W'.cell? ⟨w.heap.size, 1, none⟩ = some (.slice (some ⟨b2, o2, none⟩) sn mc) ∧ W'.cell? ⟨w.heap.size, 2, none⟩ = some (.slice fa fn fc) ∧ W'.cell? ⟨w.heap.size, 3, none⟩ = some (.slice ea en ec) ∧ W'.cell? ⟨b2, o2 + i * 5 + 1, none⟩ = some (.int .i64 k1) ∧ W'.cell? ⟨b2, o2 + i * 5 + 2, none⟩ = some (.int .i64 k2) ∧ W'.cell? ⟨b2, o2 + i * 5 + 3, none⟩ = some (.int .i64 v1) ∧ W'.cell? ⟨b2, o2 + i * 5 + 4, none⟩ = some (.int .i64 v2) ∧ W'.cell? ⟨b3, o3 + j * 10, none⟩ = some (.int .i64 xk) ∧ W'.cell? ⟨b3, o3 + j * 10 + 1, none⟩ = some (.int .i64 xi) ∧ W'.cell? ⟨b3, o3 + j * 10 + 2, none⟩ = some (.string xt) ∧ W'.cell? ⟨b3, o3 + j * 10 + 3, none⟩ = some (.int .i64 xr) ∧ W'.cell? ⟨b3, o3 + j * 10 + 4, none⟩ = some (.slice xa xn xc) ∧ W'.cell? ⟨b3, o3 + j * 10 + 5, none⟩ = some (.int .i64 yk) ∧ W'.cell? ⟨b3, o3 + j * 10 + 6, none⟩ = some (.int .i64 yi) ∧ W'.cell? ⟨b3, o3 + j * 10 + 7, none⟩ = some (.string yt) ∧ W'.cell? ⟨b3, o3 + j * 10 + 8, none⟩ = some (.int .i64 yr) ∧ W'.cell? ⟨b3, o3 + j * 10 + 9, none⟩ = some (.slice ya yn yc)) (by kernel_rfl) (SE.out _ R0.out) (fun hHeld => ?_)
                      refine wpAnyH_take (i := 0) (oi := { dst := some 41, op := Op.load 50 (Operand.tmp 2), type := 50, pos := "windlassref4.go:36", after := #[], guard := none }) (v := .agg #[.slice ra rn rc, .slice (some ⟨b2, o2, none⟩) sn mc, .slice fa fn fc, .slice ea en ec]) rfl (by kernel_rfl) (by kernel_rfl) (by kernel_rfl) (fun _ _ _ h => h) (Or.inl ⟨by rfl, ?_⟩) (by assumption) ?_
                      · intro w hSw; (try dsimp only at hSw); go_simp
                      try simp only [Act.put, List.setIfInBounds_toArray, List.set_cons_zero, List.set_cons_succ]
                      refine wpAnyH_take (i := 1) (oi := { dst := some 42, op := Op.fieldAddr 50 (Operand.tmp 2) 1, type := 0, pos := "windlassref4.go:36", after := #[], guard := none }) (v := .pointer (some ⟨w.heap.size, 1, none⟩)) rfl (by kernel_rfl) (by kernel_rfl) (by kernel_rfl) (fun _ _ _ h => h) (Or.inl ⟨by rfl, ?_⟩) (by assumption) ?_
                      · intro w hSw; (try dsimp only at hSw); go_simp
                      try simp only [Act.put, List.setIfInBounds_toArray, List.set_cons_zero, List.set_cons_succ]
                      refine wpAnyH_take (i := 2) (oi := { dst := some 43, op := Op.load 47 (Operand.tmp 42), type := 47, pos := "windlassref4.go:36", after := #[{ on := 1, ground := Ground.data }], guard := none }) (v := .slice (some ⟨b2, o2, none⟩) sn mc) rfl (by kernel_rfl) (by kernel_rfl) (by kernel_rfl) (fun _ _ _ h => h) (Or.inl ⟨by rfl, ?_⟩) (by assumption) ?_
                      · intro w hSw; (try dsimp only at hSw); go_simp
                      try simp only [Act.put, List.setIfInBounds_toArray, List.set_cons_zero, List.set_cons_succ]
                      refine wpAnyH_take (i := 3) (oi := { dst := some 44, op := Op.move (Operand.tmp 5), type := 3, pos := "windlassref4.go:36", after := #[], guard := none }) (v := .int .i64 (i : Int)) rfl (by kernel_rfl) (by kernel_rfl) (by kernel_rfl) (fun _ _ _ h => h) (Or.inl ⟨by rfl, ?_⟩) (by assumption) ?_
                      · intro w hSw; (try dsimp only at hSw); go_simp
                      try simp only [Act.put, List.setIfInBounds_toArray, List.set_cons_zero, List.set_cons_succ]
                      refine wpAnyH_take (i := 4) (oi := { dst := some 45, op := Op.indexAddr 47 (Operand.tmp 43) (Operand.tmp 44), type := 0, pos := "windlassref4.go:36", after := #[{ on := 2, ground := Ground.data }, { on := 3, ground := Ground.data }], guard := none }) (v := .pointer (some ⟨b2, o2 + i * 5, none⟩)) rfl (by kernel_rfl) (by kernel_rfl) (by kernel_rfl) (fun _ _ _ h => h) (Or.inl ⟨by rfl, ?_⟩) (by assumption) ?_
                      · intro w hSw; (try dsimp only at hSw); go_simp
                      try simp only [Act.put, List.setIfInBounds_toArray, List.set_cons_zero, List.set_cons_succ]
                      refine wpAnyH_take (i := 5) (oi := { dst := some 46, op := Op.fieldAddr 75 (Operand.tmp 45) 1, type := 0, pos := "windlassref4.go:36", after := #[{ on := 4, ground := Ground.data }], guard := none }) (v := .pointer (some ⟨b2, o2 + i * 5 + 1, none⟩)) rfl (by kernel_rfl) (by kernel_rfl) (by kernel_rfl) (fun _ _ _ h => h) (Or.inl ⟨by rfl, ?_⟩) (by assumption) ?_
                      · intro w hSw; (try dsimp only at hSw); go_simp
                      try simp only [Act.put, List.setIfInBounds_toArray, List.set_cons_zero, List.set_cons_succ]
                      refine wpAnyH_take (i := 6) (oi := { dst := some 47, op := Op.load 73 (Operand.tmp 46), type := 73, pos := "windlassref4.go:36", after := #[{ on := 5, ground := Ground.data }], guard := none }) (v := .agg #[.int .i64 k1, .int .i64 k2]) rfl (by kernel_rfl) (by kernel_rfl) (by kernel_rfl) (fun _ _ _ h => h) (Or.inl ⟨by rfl, ?_⟩) (by assumption) ?_
                      · intro w hSw; (try dsimp only at hSw); go_simp
                      try simp only [Act.put, List.setIfInBounds_toArray, List.set_cons_zero, List.set_cons_succ]
                      refine wpAnyH_take (i := 7) (oi := { dst := some 48, op := Op.move (Operand.tmp 6), type := 70, pos := "windlassref4.go:36", after := #[], guard := none }) (v := .slice (some ⟨b3, o3, none⟩) ln lc) rfl (by kernel_rfl) (by kernel_rfl) (by kernel_rfl) (fun _ _ _ h => h) (Or.inl ⟨by rfl, ?_⟩) (by assumption) ?_
                      · intro w hSw; (try dsimp only at hSw); go_simp
                      try simp only [Act.put, List.setIfInBounds_toArray, List.set_cons_zero, List.set_cons_succ]
                      refine wpAnyH_take (i := 8) (oi := { dst := some 49, op := Op.move (Operand.tmp 7), type := 3, pos := "windlassref4.go:36", after := #[], guard := none }) (v := .int .i64 (j : Int)) rfl (by kernel_rfl) (by kernel_rfl) (by kernel_rfl) (fun _ _ _ h => h) (Or.inl ⟨by rfl, ?_⟩) (by assumption) ?_
                      · intro w hSw; (try dsimp only at hSw); go_simp
                      try simp only [Act.put, List.setIfInBounds_toArray, List.set_cons_zero, List.set_cons_succ]
                      refine wpAnyH_take (i := 9) (oi := { dst := some 50, op := Op.indexAddr 70 (Operand.tmp 48) (Operand.tmp 49), type := 0, pos := "windlassref4.go:36", after := #[{ on := 7, ground := Ground.data }, { on := 8, ground := Ground.data }], guard := none }) (v := .pointer (some ⟨b3, o3 + j * 10, none⟩)) rfl (by kernel_rfl) (by kernel_rfl) (by kernel_rfl) (fun _ _ _ h => h) (Or.inl ⟨by rfl, ?_⟩) (by assumption) ?_
                      · intro w hSw; (try dsimp only at hSw); go_simp
                      try simp only [Act.put, List.setIfInBounds_toArray, List.set_cons_zero, List.set_cons_succ]
                      refine wpAnyH_take (i := 10) (oi := { dst := some 51, op := Op.fieldAddr 81 (Operand.tmp 50) 0, type := 0, pos := "windlassref4.go:36", after := #[{ on := 9, ground := Ground.data }], guard := none }) (v := .pointer (some ⟨b3, o3 + j * 10, none⟩)) rfl (by kernel_rfl) (by kernel_rfl) (by kernel_rfl) (fun _ _ _ h => h) (Or.inl ⟨by rfl, ?_⟩) (by assumption) ?_
                      · intro w hSw; (try dsimp only at hSw); go_simp
                      try simp only [Act.put, List.setIfInBounds_toArray, List.set_cons_zero, List.set_cons_succ]
                      refine wpAnyH_take (i := 11) (oi := { dst := some 52, op := Op.load 31 (Operand.tmp 51), type := 31, pos := "windlassref4.go:36", after := #[{ on := 10, ground := Ground.data }], guard := none }) (v := .agg #[.int .i64 xk, .int .i64 xi, .string xt, .int .i64 xr, .slice xa xn xc]) rfl (by kernel_rfl) (by kernel_rfl) (by kernel_rfl) (fun _ _ _ h => h) (Or.inl ⟨by rfl, ?_⟩) (by assumption) ?_
                      · intro w hSw; (try dsimp only at hSw); go_simp
                      try simp only [Act.put, List.setIfInBounds_toArray, List.set_cons_zero, List.set_cons_succ]
                      refine wpAnyH_ready (rs := [12]) (by kernel_rfl) (by simp) ?_
                      refine AllReadyH.cons (o := { dst := some 53, op := Op.call { callee := Callee.value (Operand.func 54), args := #[Operand.tmp 41, Operand.tmp 47, Operand.tmp 52], argTypes := #[50, 73, 31] }, type := 4, pos := "windlassref4.go:36", after := #[{ on := 0, ground := Ground.data }, { on := 6, ground := Ground.data }, { on := 11, ground := Ground.data }], guard := none }) rfl (fun K hK => ?_) AllReadyH.nil
                      go_simp
                      refine (C1.out _ (QW.out _ R0.out)).mono ?_
                      rintro e u1 ⟨rfl, hb1⟩
                      have R1 := hid (TR.out R0.out hb1)
                      clear hb1
                      go_wp2_with fail
                      refine hK.out _ _ (SE.out _ R1.out) (fun hHeldN => ?_)
                      clear hK K hHeld
                      have hHeld := hHeldN
                      clear hHeldN
                      try simp only [Act.put, List.setIfInBounds_toArray, List.set_cons_zero, List.set_cons_succ]
                      refine wpAnyH_take (i := 13) (oi := { dst := some 54, op := Op.unOp UnOp.not 4 (Operand.tmp 53), type := 4, pos := "windlassref4.go:36", after := #[{ on := 12, ground := Ground.data }], guard := none }) (v := .bool false) rfl (by kernel_rfl) (by kernel_rfl) (by kernel_rfl) (fun _ _ _ h => h) (Or.inl ⟨by rfl, ?_⟩) (by assumption) ?_
                      · intro w hSw; (try dsimp only at hSw); go_simp
                      try simp only [Act.put, List.setIfInBounds_toArray, List.set_cons_zero, List.set_cons_succ]
                      refine wpAnyH_take (i := 14) (oi := { dst := some 55, op := Op.move (Operand.tmp 54), type := 4, pos := "windlassref4.go:36", after := #[{ on := 13, ground := Ground.data }, { on := 12, ground := Ground.chain }], guard := none }) (v := .bool false) rfl (by kernel_rfl) (by kernel_rfl) (by kernel_rfl) (fun _ _ _ h => h) (Or.inl ⟨by rfl, ?_⟩) (by assumption) ?_
                      · intro w hSw; (try dsimp only at hSw); go_simp
                      try simp only [Act.put, List.setIfInBounds_toArray, List.set_cons_zero, List.set_cons_succ]
                      refine wpAnyH_take (i := 15) (oi := { dst := some 56, op := Op.load 50 (Operand.tmp 2), type := 50, pos := "windlassref4.go:36", after := #[{ on := 14, ground := Ground.guard }], guard := some (14, false) }) (v := .agg #[.slice ra rn rc, .slice (some ⟨b2, o2, none⟩) sn mc, .slice fa fn fc, .slice ea en ec]) rfl (by kernel_rfl) (by kernel_rfl) (by kernel_rfl) (fun _ _ _ h => h) (Or.inl ⟨by rfl, ?_⟩) (by assumption) ?_
                      · intro w hSw; (try dsimp only at hSw); go_simp
                      try simp only [Act.put, List.setIfInBounds_toArray, List.set_cons_zero, List.set_cons_succ]
                      refine wpAnyH_take (i := 16) (oi := { dst := some 57, op := Op.fieldAddr 50 (Operand.tmp 2) 1, type := 0, pos := "windlassref4.go:36", after := #[{ on := 14, ground := Ground.guard }], guard := some (14, false) }) (v := .pointer (some ⟨w.heap.size, 1, none⟩)) rfl (by kernel_rfl) (by kernel_rfl) (by kernel_rfl) (fun _ _ _ h => h) (Or.inl ⟨by rfl, ?_⟩) (by assumption) ?_
                      · intro w hSw; (try dsimp only at hSw); go_simp
                      try simp only [Act.put, List.setIfInBounds_toArray, List.set_cons_zero, List.set_cons_succ]
                      refine wpAnyH_take (i := 17) (oi := { dst := some 58, op := Op.load 47 (Operand.tmp 57), type := 47, pos := "windlassref4.go:36", after := #[{ on := 16, ground := Ground.data }, { on := 14, ground := Ground.guard }], guard := some (14, false) }) (v := .slice (some ⟨b2, o2, none⟩) sn mc) rfl (by kernel_rfl) (by kernel_rfl) (by kernel_rfl) (fun _ _ _ h => h) (Or.inl ⟨by rfl, ?_⟩) (by assumption) ?_
                      · intro w hSw; (try dsimp only at hSw); go_simp
                      try simp only [Act.put, List.setIfInBounds_toArray, List.set_cons_zero, List.set_cons_succ]
                      refine wpAnyH_take (i := 18) (oi := { dst := some 59, op := Op.move (Operand.tmp 5), type := 3, pos := "windlassref4.go:36", after := #[{ on := 14, ground := Ground.guard }], guard := some (14, false) }) (v := .int .i64 (i : Int)) rfl (by kernel_rfl) (by kernel_rfl) (by kernel_rfl) (fun _ _ _ h => h) (Or.inl ⟨by rfl, ?_⟩) (by assumption) ?_
                      · intro w hSw; (try dsimp only at hSw); go_simp
                      try simp only [Act.put, List.setIfInBounds_toArray, List.set_cons_zero, List.set_cons_succ]
                      refine wpAnyH_take (i := 19) (oi := { dst := some 60, op := Op.indexAddr 47 (Operand.tmp 58) (Operand.tmp 59), type := 0, pos := "windlassref4.go:36", after := #[{ on := 17, ground := Ground.data }, { on := 18, ground := Ground.data }, { on := 14, ground := Ground.guard }], guard := some (14, false) }) (v := .pointer (some ⟨b2, o2 + i * 5, none⟩)) rfl (by kernel_rfl) (by kernel_rfl) (by kernel_rfl) (fun _ _ _ h => h) (Or.inl ⟨by rfl, ?_⟩) (by assumption) ?_
                      · intro w hSw; (try dsimp only at hSw); go_simp
                      try simp only [Act.put, List.setIfInBounds_toArray, List.set_cons_zero, List.set_cons_succ]
                      refine wpAnyH_take (i := 20) (oi := { dst := some 61, op := Op.fieldAddr 75 (Operand.tmp 60) 2, type := 0, pos := "windlassref4.go:36", after := #[{ on := 19, ground := Ground.data }, { on := 14, ground := Ground.guard }], guard := some (14, false) }) (v := .pointer (some ⟨b2, o2 + i * 5 + 3, none⟩)) rfl (by kernel_rfl) (by kernel_rfl) (by kernel_rfl) (fun _ _ _ h => h) (Or.inl ⟨by rfl, ?_⟩) (by assumption) ?_
                      · intro w hSw; (try dsimp only at hSw); go_simp
                      try simp only [Act.put, List.setIfInBounds_toArray, List.set_cons_zero, List.set_cons_succ]
                      refine wpAnyH_take (i := 21) (oi := { dst := some 62, op := Op.load 73 (Operand.tmp 61), type := 73, pos := "windlassref4.go:36", after := #[{ on := 20, ground := Ground.data }, { on := 14, ground := Ground.guard }], guard := some (14, false) }) (v := .agg #[.int .i64 v1, .int .i64 v2]) rfl (by kernel_rfl) (by kernel_rfl) (by kernel_rfl) (fun _ _ _ h => h) (Or.inl ⟨by rfl, ?_⟩) (by assumption) ?_
                      · intro w hSw; (try dsimp only at hSw); go_simp
                      try simp only [Act.put, List.setIfInBounds_toArray, List.set_cons_zero, List.set_cons_succ]
                      refine wpAnyH_take (i := 22) (oi := { dst := some 63, op := Op.move (Operand.tmp 6), type := 70, pos := "windlassref4.go:36", after := #[{ on := 14, ground := Ground.guard }], guard := some (14, false) }) (v := .slice (some ⟨b3, o3, none⟩) ln lc) rfl (by kernel_rfl) (by kernel_rfl) (by kernel_rfl) (fun _ _ _ h => h) (Or.inl ⟨by rfl, ?_⟩) (by assumption) ?_
                      · intro w hSw; (try dsimp only at hSw); go_simp
                      try simp only [Act.put, List.setIfInBounds_toArray, List.set_cons_zero, List.set_cons_succ]
                      refine wpAnyH_take (i := 23) (oi := { dst := some 64, op := Op.move (Operand.tmp 7), type := 3, pos := "windlassref4.go:36", after := #[{ on := 14, ground := Ground.guard }], guard := some (14, false) }) (v := .int .i64 (j : Int)) rfl (by kernel_rfl) (by kernel_rfl) (by kernel_rfl) (fun _ _ _ h => h) (Or.inl ⟨by rfl, ?_⟩) (by assumption) ?_
                      · intro w hSw; (try dsimp only at hSw); go_simp
                      try simp only [Act.put, List.setIfInBounds_toArray, List.set_cons_zero, List.set_cons_succ]
                      refine wpAnyH_take (i := 24) (oi := { dst := some 65, op := Op.indexAddr 70 (Operand.tmp 63) (Operand.tmp 64), type := 0, pos := "windlassref4.go:36", after := #[{ on := 22, ground := Ground.data }, { on := 23, ground := Ground.data }, { on := 14, ground := Ground.guard }], guard := some (14, false) }) (v := .pointer (some ⟨b3, o3 + j * 10, none⟩)) rfl (by kernel_rfl) (by kernel_rfl) (by kernel_rfl) (fun _ _ _ h => h) (Or.inl ⟨by rfl, ?_⟩) (by assumption) ?_
                      · intro w hSw; (try dsimp only at hSw); go_simp
                      try simp only [Act.put, List.setIfInBounds_toArray, List.set_cons_zero, List.set_cons_succ]
                      refine wpAnyH_take (i := 25) (oi := { dst := some 66, op := Op.fieldAddr 81 (Operand.tmp 65) 1, type := 0, pos := "windlassref4.go:36", after := #[{ on := 24, ground := Ground.data }, { on := 14, ground := Ground.guard }], guard := some (14, false) }) (v := .pointer (some ⟨b3, o3 + j * 10 + 5, none⟩)) rfl (by kernel_rfl) (by kernel_rfl) (by kernel_rfl) (fun _ _ _ h => h) (Or.inl ⟨by rfl, ?_⟩) (by assumption) ?_
                      · intro w hSw; (try dsimp only at hSw); go_simp
                      try simp only [Act.put, List.setIfInBounds_toArray, List.set_cons_zero, List.set_cons_succ]
                      refine wpAnyH_take (i := 26) (oi := { dst := some 67, op := Op.load 31 (Operand.tmp 66), type := 31, pos := "windlassref4.go:36", after := #[{ on := 25, ground := Ground.data }, { on := 14, ground := Ground.guard }], guard := some (14, false) }) (v := .agg #[.int .i64 yk, .int .i64 yi, .string yt, .int .i64 yr, .slice ya yn yc]) rfl (by kernel_rfl) (by kernel_rfl) (by kernel_rfl) (fun _ _ _ h => h) (Or.inl ⟨by rfl, ?_⟩) (by assumption) ?_
                      · intro w hSw; (try dsimp only at hSw); go_simp
                      try simp only [Act.put, List.setIfInBounds_toArray, List.set_cons_zero, List.set_cons_succ]
                      refine wpAnyH_ready (rs := [27]) (by kernel_rfl) (by simp) ?_
                      refine AllReadyH.cons (o := { dst := some 68, op := Op.call { callee := Callee.value (Operand.func 54), args := #[Operand.tmp 56, Operand.tmp 62, Operand.tmp 67], argTypes := #[50, 73, 31] }, type := 4, pos := "windlassref4.go:36", after := #[{ on := 15, ground := Ground.data }, { on := 21, ground := Ground.data }, { on := 26, ground := Ground.data }, { on := 14, ground := Ground.chain }, { on := 14, ground := Ground.guard }], guard := some (14, false) }) rfl (fun K hK => ?_) AllReadyH.nil
                      go_simp
                      refine (C2.out _ (QW.out _ R1.out)).mono ?_
                      rintro e u2 ⟨rfl, hb1⟩
                      have R2 := hid (TR.out R1.out hb1)
                      clear hb1
                      go_wp2_with fail
                      refine hK.out _ _ (SE.out _ R2.out) (fun hHeldN => ?_)
                      clear hK K hHeld
                      have hHeld := hHeldN
                      clear hHeldN
                      try simp only [Act.put, List.setIfInBounds_toArray, List.set_cons_zero, List.set_cons_succ]
                      refine wpAnyH_take (i := 28) (oi := { dst := some 69, op := Op.unOp UnOp.not 4 (Operand.tmp 68), type := 4, pos := "windlassref4.go:36", after := #[{ on := 27, ground := Ground.data }, { on := 14, ground := Ground.guard }], guard := some (14, false) }) (v := .bool false) rfl (by kernel_rfl) (by kernel_rfl) (by kernel_rfl) (fun _ _ _ h => h) (Or.inl ⟨by rfl, ?_⟩) (by assumption) ?_
                      · intro w hSw; (try dsimp only at hSw); go_simp
                      try simp only [Act.put, List.setIfInBounds_toArray, List.set_cons_zero, List.set_cons_succ]
                      refine wpAnyH_take (i := 29) (oi := { dst := some 70, op := Op.pick (Operand.tmp 55) (Operand.const (Value.bool true)) (Operand.tmp 69), type := 4, pos := "windlassref4.go:36", after := #[{ on := 14, ground := Ground.data }, { on := 28, ground := Ground.data }], guard := none }) (v := .bool false) rfl (by kernel_rfl) (by kernel_rfl) (by kernel_rfl) (fun _ _ _ h => h) (Or.inl ⟨by rfl, ?_⟩) (by assumption) ?_
                      · intro w hSw; (try dsimp only at hSw); go_simp
                      try simp only [Act.put, List.setIfInBounds_toArray, List.set_cons_zero, List.set_cons_succ]
                      refine wpAnyH_take (i := 30) (oi := { dst := some 71, op := Op.move (Operand.tmp 70), type := 4, pos := "windlassref4.go:36", after := #[{ on := 29, ground := Ground.data }, { on := 27, ground := Ground.chain }], guard := none }) (v := .bool false) rfl (by kernel_rfl) (by kernel_rfl) (by kernel_rfl) (fun _ _ _ h => h) (Or.inl ⟨by rfl, ?_⟩) (by assumption) ?_
                      · intro w hSw; (try dsimp only at hSw); go_simp
                      try simp only [Act.put, List.setIfInBounds_toArray, List.set_cons_zero, List.set_cons_succ]
                      refine wpAnyH_take (i := 31) (oi := { dst := some 72, op := Op.move (Operand.tmp 7), type := 3, pos := "windlassref4.go:36", after := #[{ on := 30, ground := Ground.guard }], guard := some (30, false) }) (v := .int .i64 (j : Int)) rfl (by kernel_rfl) (by kernel_rfl) (by kernel_rfl) (fun _ _ _ h => h) (Or.inl ⟨by rfl, ?_⟩) (by assumption) ?_
                      · intro w hSw; (try dsimp only at hSw); go_simp
                      try simp only [Act.put, List.setIfInBounds_toArray, List.set_cons_zero, List.set_cons_succ]
                      refine wpAnyH_take (i := 32) (oi := { dst := some 73, op := Op.binOp BinOp.gtr 3 (Operand.tmp 72) (Operand.const (Value.int IntKind.i64 0)) 3, type := 4, pos := "windlassref4.go:36", after := #[{ on := 31, ground := Ground.data }, { on := 30, ground := Ground.guard }], guard := some (30, false) }) (v := .bool false) rfl (by kernel_rfl) (by kernel_rfl) (by kernel_rfl) (fun _ _ _ h => h) (Or.inl ⟨by rfl, ?_⟩) (by assumption) ?_
                      · intro w hSw; (try dsimp only at hSw); go_simp
                      try simp only [Act.put, List.setIfInBounds_toArray, List.set_cons_zero, List.set_cons_succ]
                      refine wpAnyH_take (i := 33) (oi := { dst := some 74, op := Op.move (Operand.tmp 73), type := 4, pos := "windlassref4.go:36", after := #[{ on := 32, ground := Ground.data }, { on := 30, ground := Ground.chain }, { on := 30, ground := Ground.guard }], guard := some (30, false) }) (v := .bool false) rfl (by kernel_rfl) (by kernel_rfl) (by kernel_rfl) (fun _ _ _ h => h) (Or.inl ⟨by rfl, ?_⟩) (by assumption) ?_
                      · intro w hSw; (try dsimp only at hSw); go_simp
                      try simp only [Act.put, List.setIfInBounds_toArray, List.set_cons_zero, List.set_cons_succ]
                      refine wpAnyH_take (i := 34) (oi := { dst := some 75, op := Op.move (Operand.tmp 6), type := 70, pos := "windlassref4.go:36", after := #[{ on := 33, ground := Ground.guard }], guard := some (33, true) }) (v := undef) rfl (by kernel_rfl) (by kernel_rfl) (by kernel_rfl) (fun _ _ _ h => h) (Or.inr ⟨by rfl, rfl⟩) (by assumption) ?_
                      try simp only [Act.put, List.setIfInBounds_toArray, List.set_cons_zero, List.set_cons_succ]
                      refine wpAnyH_take (i := 35) (oi := { dst := some 76, op := Op.move (Operand.tmp 7), type := 3, pos := "windlassref4.go:36", after := #[{ on := 33, ground := Ground.guard }], guard := some (33, true) }) (v := undef) rfl (by kernel_rfl) (by kernel_rfl) (by kernel_rfl) (fun _ _ _ h => h) (Or.inr ⟨by rfl, rfl⟩) (by assumption) ?_
                      try simp only [Act.put, List.setIfInBounds_toArray, List.set_cons_zero, List.set_cons_succ]
                      refine wpAnyH_take (i := 36) (oi := { dst := some 77, op := Op.binOp BinOp.sub 3 (Operand.tmp 76) (Operand.const (Value.int IntKind.i64 1)) 3, type := 3, pos := "windlassref4.go:36", after := #[{ on := 35, ground := Ground.data }, { on := 33, ground := Ground.guard }], guard := some (33, true) }) (v := undef) rfl (by kernel_rfl) (by kernel_rfl) (by kernel_rfl) (fun _ _ _ h => h) (Or.inr ⟨by rfl, rfl⟩) (by assumption) ?_
                      try simp only [Act.put, List.setIfInBounds_toArray, List.set_cons_zero, List.set_cons_succ]
                      refine wpAnyH_take (i := 37) (oi := { dst := some 78, op := Op.indexAddr 70 (Operand.tmp 75) (Operand.tmp 77), type := 0, pos := "windlassref4.go:36", after := #[{ on := 34, ground := Ground.data }, { on := 36, ground := Ground.data }, { on := 33, ground := Ground.guard }], guard := some (33, true) }) (v := undef) rfl (by kernel_rfl) (by kernel_rfl) (by kernel_rfl) (fun _ _ _ h => h) (Or.inr ⟨by rfl, rfl⟩) (by assumption) ?_
                      try simp only [Act.put, List.setIfInBounds_toArray, List.set_cons_zero, List.set_cons_succ]
                      refine wpAnyH_take (i := 38) (oi := { dst := some 79, op := Op.fieldAddr 81 (Operand.tmp 78) 0, type := 0, pos := "windlassref4.go:36", after := #[{ on := 37, ground := Ground.data }, { on := 33, ground := Ground.guard }], guard := some (33, true) }) (v := undef) rfl (by kernel_rfl) (by kernel_rfl) (by kernel_rfl) (fun _ _ _ h => h) (Or.inr ⟨by rfl, rfl⟩) (by assumption) ?_
                      try simp only [Act.put, List.setIfInBounds_toArray, List.set_cons_zero, List.set_cons_succ]
                      refine wpAnyH_take (i := 39) (oi := { dst := some 80, op := Op.load 31 (Operand.tmp 79), type := 31, pos := "windlassref4.go:36", after := #[{ on := 38, ground := Ground.data }, { on := 33, ground := Ground.guard }], guard := some (33, true) }) (v := undef) rfl (by kernel_rfl) (by kernel_rfl) (by kernel_rfl) (fun _ _ _ h => h) (Or.inr ⟨by rfl, rfl⟩) (by assumption) ?_
                      try simp only [Act.put, List.setIfInBounds_toArray, List.set_cons_zero, List.set_cons_succ]
                      refine wpAnyH_take (i := 40) (oi := { dst := some 81, op := Op.move (Operand.tmp 6), type := 70, pos := "windlassref4.go:36", after := #[{ on := 33, ground := Ground.guard }], guard := some (33, true) }) (v := undef) rfl (by kernel_rfl) (by kernel_rfl) (by kernel_rfl) (fun _ _ _ h => h) (Or.inr ⟨by rfl, rfl⟩) (by assumption) ?_
                      try simp only [Act.put, List.setIfInBounds_toArray, List.set_cons_zero, List.set_cons_succ]
                      refine wpAnyH_take (i := 41) (oi := { dst := some 82, op := Op.move (Operand.tmp 7), type := 3, pos := "windlassref4.go:36", after := #[{ on := 33, ground := Ground.guard }], guard := some (33, true) }) (v := undef) rfl (by kernel_rfl) (by kernel_rfl) (by kernel_rfl) (fun _ _ _ h => h) (Or.inr ⟨by rfl, rfl⟩) (by assumption) ?_
                      try simp only [Act.put, List.setIfInBounds_toArray, List.set_cons_zero, List.set_cons_succ]
                      refine wpAnyH_take (i := 42) (oi := { dst := some 83, op := Op.indexAddr 70 (Operand.tmp 81) (Operand.tmp 82), type := 0, pos := "windlassref4.go:36", after := #[{ on := 40, ground := Ground.data }, { on := 41, ground := Ground.data }, { on := 33, ground := Ground.guard }], guard := some (33, true) }) (v := undef) rfl (by kernel_rfl) (by kernel_rfl) (by kernel_rfl) (fun _ _ _ h => h) (Or.inr ⟨by rfl, rfl⟩) (by assumption) ?_
                      try simp only [Act.put, List.setIfInBounds_toArray, List.set_cons_zero, List.set_cons_succ]
                      refine wpAnyH_take (i := 43) (oi := { dst := some 84, op := Op.fieldAddr 81 (Operand.tmp 83) 0, type := 0, pos := "windlassref4.go:36", after := #[{ on := 42, ground := Ground.data }, { on := 33, ground := Ground.guard }], guard := some (33, true) }) (v := undef) rfl (by kernel_rfl) (by kernel_rfl) (by kernel_rfl) (fun _ _ _ h => h) (Or.inr ⟨by rfl, rfl⟩) (by assumption) ?_
                      try simp only [Act.put, List.setIfInBounds_toArray, List.set_cons_zero, List.set_cons_succ]
                      refine wpAnyH_take (i := 44) (oi := { dst := some 85, op := Op.load 31 (Operand.tmp 84), type := 31, pos := "windlassref4.go:36", after := #[{ on := 43, ground := Ground.data }, { on := 33, ground := Ground.guard }], guard := some (33, true) }) (v := undef) rfl (by kernel_rfl) (by kernel_rfl) (by kernel_rfl) (fun _ _ _ h => h) (Or.inr ⟨by rfl, rfl⟩) (by assumption) ?_
                      try simp only [Act.put, List.setIfInBounds_toArray, List.set_cons_zero, List.set_cons_succ]
                      refine wpAnyH_take (i := 45) (oi := { dst := some 86, op := Op.call { callee := Callee.value (Operand.func 48), args := #[Operand.tmp 80, Operand.tmp 85], argTypes := #[31, 31] }, type := 3, pos := "windlassref4.go:36", after := #[{ on := 39, ground := Ground.data }, { on := 44, ground := Ground.data }, { on := 33, ground := Ground.chain }, { on := 33, ground := Ground.guard }], guard := some (33, true) }) (v := undef) rfl (by kernel_rfl) (by kernel_rfl) (by kernel_rfl) (fun _ _ _ h => h) (Or.inr ⟨by rfl, rfl⟩) (by assumption) ?_
                      try simp only [Act.put, List.setIfInBounds_toArray, List.set_cons_zero, List.set_cons_succ]
                      refine wpAnyH_take (i := 46) (oi := { dst := some 87, op := Op.binOp BinOp.geq 3 (Operand.tmp 86) (Operand.const (Value.int IntKind.i64 0)) 3, type := 4, pos := "windlassref4.go:36", after := #[{ on := 45, ground := Ground.data }, { on := 33, ground := Ground.guard }], guard := some (33, true) }) (v := undef) rfl (by kernel_rfl) (by kernel_rfl) (by kernel_rfl) (fun _ _ _ h => h) (Or.inr ⟨by rfl, rfl⟩) (by assumption) ?_
                      try simp only [Act.put, List.setIfInBounds_toArray, List.set_cons_zero, List.set_cons_succ]
                      refine wpAnyH_take (i := 47) (oi := { dst := some 88, op := Op.pick (Operand.tmp 74) (Operand.tmp 87) (Operand.const (Value.bool false)), type := 4, pos := "windlassref4.go:36", after := #[{ on := 33, ground := Ground.data }, { on := 46, ground := Ground.data }, { on := 30, ground := Ground.guard }], guard := some (30, false) }) (v := .bool false) rfl (by kernel_rfl) (by kernel_rfl) (by kernel_rfl) (fun _ _ _ h => h) (Or.inl ⟨by rfl, ?_⟩) (by assumption) ?_
                      · intro w hSw; (try dsimp only at hSw); go_simp
                      try simp only [Act.put, List.setIfInBounds_toArray, List.set_cons_zero, List.set_cons_succ]
                      refine wpAnyH_take (i := 48) (oi := { dst := some 89, op := Op.pick (Operand.tmp 71) (Operand.const (Value.bool true)) (Operand.tmp 88), type := 4, pos := "windlassref4.go:36", after := #[{ on := 30, ground := Ground.data }, { on := 47, ground := Ground.data }], guard := none }) (v := .bool false) rfl (by kernel_rfl) (by kernel_rfl) (by kernel_rfl) (fun _ _ _ h => h) (Or.inl ⟨by rfl, ?_⟩) (by assumption) ?_
                      · intro w hSw; (try dsimp only at hSw); go_simp
                      try simp only [Act.put, List.setIfInBounds_toArray, List.set_cons_zero, List.set_cons_succ]
                      refine wpAnyH_done (by kernel_rfl) ?_ _
                      go_wp2
                      go_roundg gj
                      case measure => omega
                      case rel => exact ⟨j + 1, by have := Hj.out; omega, by go_num, QW.out _ R2.out, fun t ht => by
                        obtain rfl : t = j := by have := Hj0.out; omega
                        exact HT.out⟩
                    · have HT0 := hid hj0
                      obtain ⟨j0, hj0'⟩ : ∃ j0, j0 = j - 1 := ⟨_, rfl⟩
                      have Hj0 := hid hj0'
                      have hsub : IntKind.i64.wrap ((j : Int) - 1) = (j0 : Int) := by rw [IntKind.wrap_i64]; omega
                      have hgt : (0 : Int) < (j : Int) := by omega
                      have hgtb : decide (0 < j) = true := decide_eq_true (by omega)
                      have hs0 : (0 : Int) ≤ (j0 : Int) := by omega
                      have hs1 : (j0 : Int) < (ln : Int) := by omega
                      have hs2 : j0 < ln := by omega
                      clear hj0' hj0
                      obtain ⟨o, ho⟩ : ∃ o, lr[j0]? = some o := ⟨lr[j0]'(by rw [← Hln.out]; exact hs2), List.getElem?_eq_getElem _⟩
                      have CP := hid (PV.out o (by rw [← Hj0.out]; exact ho))
                      obtain ⟨b4, o4, ea4, gh⟩ := (HX.out _ Hbr2.out).rd j0 (enT (k + 2) o) (by rw [List.getElem?_map, ho]; rfl)
                      cases ea4
                      have z0 := gh 0 (by omega)
                      have z1 := gh 1 (by omega)
                      have z2 := gh 2 (by omega)
                      have z3 := gh 3 (by omega)
                      have z4 := gh 4 (by omega)
                      simp only [En.cs, enT, List.getElem?_cons_zero, List.getElem?_cons_succ, Nat.add_zero] at z0 z1 z2 z3 z4
                      have HE2 : Hid (entV k p ⟨nm, (k1, k2), (v1, v2)⟩ lr j = decide (cmpT (k + 2) o.1 q.1 < 0)) := hid (by rw [HE.out, ← Hj0.out, ho, decide_eq_false HT0.out]; simp)
                      obtain ⟨cv, hcv⟩ : ∃ cv, cv = cmpT (k + 2) o.1 q.1 := ⟨_, rfl⟩
                      rw [← hcv] at CP HE2
                      clear hcv gh ho PV
                      generalize hdT (k + 2) o.1 = ho1 at *
                      obtain ⟨zk, zi, zt, zr, za, zn, zc⟩ := ho1
                      simp only [Hd.v] at CP z0 z1 z2 z3 z4
                      have SE2 : Hid (∀ W' : World, Below wr.heap.size wr W' → (W'.cell? ⟨w.heap.size, 0, none⟩ = some (.slice ra rn rc) ∧ W'.cell? ⟨w.heap.size, 1, none⟩ = some (.slice (some ⟨b2, o2, none⟩) sn mc) ∧ W'.cell? ⟨w.heap.size, 2, none⟩ = some (.slice fa fn fc) ∧ W'.cell? ⟨w.heap.size, 3, none⟩ = some (.slice ea en ec) ∧ W'.cell? ⟨b2, o2 + i * 5 + 1, none⟩ = some (.int .i64 k1) ∧ W'.cell? ⟨b2, o2 + i * 5 + 2, none⟩ = some (.int .i64 k2) ∧ W'.cell? ⟨b2, o2 + i * 5 + 3, none⟩ = some (.int .i64 v1) ∧ W'.cell? ⟨b2, o2 + i * 5 + 4, none⟩ = some (.int .i64 v2) ∧ W'.cell? ⟨b3, o3 + j * 10, none⟩ = some (.int .i64 xk) ∧ W'.cell? ⟨b3, o3 + j * 10 + 1, none⟩ = some (.int .i64 xi) ∧ W'.cell? ⟨b3, o3 + j * 10 + 2, none⟩ = some (.string xt) ∧ W'.cell? ⟨b3, o3 + j * 10 + 3, none⟩ = some (.int .i64 xr) ∧ W'.cell? ⟨b3, o3 + j * 10 + 4, none⟩ = some (.slice xa xn xc) ∧ W'.cell? ⟨b3, o3 + j * 10 + 5, none⟩ = some (.int .i64 yk) ∧ W'.cell? ⟨b3, o3 + j * 10 + 6, none⟩ = some (.int .i64 yi) ∧ W'.cell? ⟨b3, o3 + j * 10 + 7, none⟩ = some (.string yt) ∧ W'.cell? ⟨b3, o3 + j * 10 + 8, none⟩ = some (.int .i64 yr) ∧ W'.cell? ⟨b3, o3 + j * 10 + 9, none⟩ = some (.slice ya yn yc) ∧ W'.cell? ⟨b3, o3 + j0 * 10, none⟩ = some (.int .i64 zk) ∧ W'.cell? ⟨b3, o3 + j0 * 10 + 1, none⟩ = some (.int .i64 zi) ∧ W'.cell? ⟨b3, o3 + j0 * 10 + 2, none⟩ = some (.string zt) ∧ W'.cell? ⟨b3, o3 + j0 * 10 + 3, none⟩ = some (.int .i64 zr) ∧ W'.cell? ⟨b3, o3 + j0 * 10 + 4, none⟩ = some (.slice za zn zc))) := hid (fun W' hb => by
                        have ge : ∀ (p : Addr) (v : Value), wr.cell? p = some v → W'.cell? p = some v := fun p v e => (hb.cell (World.block_lt_of_cell? wr _ e)).trans e
                        exact ⟨ge _ _ f0, ge _ _ f1, ge _ _ f2, ge _ _ f3, ge _ _ g1, ge _ _ g2, ge _ _ g3, ge _ _ g4, ge _ _ d0, ge _ _ d1, ge _ _ d2, ge _ _ d3, ge _ _ d4, ge _ _ d5, ge _ _ d6, ge _ _ d7, ge _ _ d8, ge _ _ d9, ge _ _ z0, ge _ _ z1, ge _ _ z2, ge _ _ z3, ge _ _ z4⟩)
                      by_cases hc : cv < 0
                      · have hc' : ¬ (0 ≤ cv) := by omega
                        have HT := hid (show entV k p ⟨nm, (k1, k2), (v1, v2)⟩ lr j = true from by rw [HE2.out]; exact decide_eq_true hc)
                        go_region_held3 (fun W' => W'.cell? ⟨w.heap.size, 0, none⟩ = some (.slice ra rn rc) ∧ W'.cell? ⟨w.heap.size, 1, none⟩ = some (.slice (some ⟨b2, o2, none⟩) sn mc) ∧ W'.cell? ⟨w.heap.size, 2, none⟩ = some (.slice fa fn fc) ∧ W'.cell? ⟨w.heap.size, 3, none⟩ = some (.slice ea en ec) ∧ W'.cell? ⟨b2, o2 + i * 5 + 1, none⟩ = some (.int .i64 k1) ∧ W'.cell? ⟨b2, o2 + i * 5 + 2, none⟩ = some (.int .i64 k2) ∧ W'.cell? ⟨b2, o2 + i * 5 + 3, none⟩ = some (.int .i64 v1) ∧ W'.cell? ⟨b2, o2 + i * 5 + 4, none⟩ = some (.int .i64 v2) ∧ W'.cell? ⟨b3, o3 + j * 10, none⟩ = some (.int .i64 xk) ∧ W'.cell? ⟨b3, o3 + j * 10 + 1, none⟩ = some (.int .i64 xi) ∧ W'.cell? ⟨b3, o3 + j * 10 + 2, none⟩ = some (.string xt) ∧ W'.cell? ⟨b3, o3 + j * 10 + 3, none⟩ = some (.int .i64 xr) ∧ W'.cell? ⟨b3, o3 + j * 10 + 4, none⟩ = some (.slice xa xn xc) ∧ W'.cell? ⟨b3, o3 + j * 10 + 5, none⟩ = some (.int .i64 yk) ∧ W'.cell? ⟨b3, o3 + j * 10 + 6, none⟩ = some (.int .i64 yi) ∧ W'.cell? ⟨b3, o3 + j * 10 + 7, none⟩ = some (.string yt) ∧ W'.cell? ⟨b3, o3 + j * 10 + 8, none⟩ = some (.int .i64 yr) ∧ W'.cell? ⟨b3, o3 + j * 10 + 9, none⟩ = some (.slice ya yn yc) ∧ W'.cell? ⟨b3, o3 + j0 * 10, none⟩ = some (.int .i64 zk) ∧ W'.cell? ⟨b3, o3 + j0 * 10 + 1, none⟩ = some (.int .i64 zi) ∧ W'.cell? ⟨b3, o3 + j0 * 10 + 2, none⟩ = some (.string zt) ∧ W'.cell? ⟨b3, o3 + j0 * 10 + 3, none⟩ = some (.int .i64 zr) ∧ W'.cell? ⟨b3, o3 + j0 * 10 + 4, none⟩ = some (.slice za zn zc)) (first | with_reducible exact SE2.out _ R0.out | with_reducible exact SE2.out _ R1.out | with_reducible exact SE2.out _ R2.out | with_reducible exact SE2.out _ R3.out | go_keep) ((first
                          | (go_at_call 48; (refine (CP.out _ (QW.out _ R2.out)).mono ?_; rintro e w3 ⟨rfl, hb3⟩; have R3 := hid (TR.out R2.out hb3); clear hb3))
                          | (go_at_call 54; (have hno := R1; refine (C2.out _ (QW.out _ R1.out)).mono ?_; rintro e w2 ⟨rfl, hb2⟩; have R2 := hid (TR.out R1.out hb2); clear hb2))
                          | (go_at_call 54; (refine (C1.out _ (QW.out _ R0.out)).mono ?_; rintro e w1' ⟨rfl, hb1⟩; have R1 := hid (TR.out R0.out hb1); clear hb1))))
                        go_wp2
                        go_roundg gj
                        case measure => omega
                        case rel => exact ⟨j + 1, by have := Hj.out; omega, by go_num, QW.out _ R3.out, fun t ht => by
                          rcases Nat.lt_or_ge t j with h | h
                          · exact Hacc2.out t h
                          · obtain rfl : t = j := by omega
                            exact HT.out⟩
                      · have hc' : 0 ≤ cv := by omega
                        have HF := hid (HNJ.out (by rw [HE2.out]; exact decide_eq_false hc))
                        go_region_held3 (fun W' => W'.cell? ⟨w.heap.size, 0, none⟩ = some (.slice ra rn rc) ∧ W'.cell? ⟨w.heap.size, 1, none⟩ = some (.slice (some ⟨b2, o2, none⟩) sn mc) ∧ W'.cell? ⟨w.heap.size, 2, none⟩ = some (.slice fa fn fc) ∧ W'.cell? ⟨w.heap.size, 3, none⟩ = some (.slice ea en ec) ∧ W'.cell? ⟨b2, o2 + i * 5 + 1, none⟩ = some (.int .i64 k1) ∧ W'.cell? ⟨b2, o2 + i * 5 + 2, none⟩ = some (.int .i64 k2) ∧ W'.cell? ⟨b2, o2 + i * 5 + 3, none⟩ = some (.int .i64 v1) ∧ W'.cell? ⟨b2, o2 + i * 5 + 4, none⟩ = some (.int .i64 v2) ∧ W'.cell? ⟨b3, o3 + j * 10, none⟩ = some (.int .i64 xk) ∧ W'.cell? ⟨b3, o3 + j * 10 + 1, none⟩ = some (.int .i64 xi) ∧ W'.cell? ⟨b3, o3 + j * 10 + 2, none⟩ = some (.string xt) ∧ W'.cell? ⟨b3, o3 + j * 10 + 3, none⟩ = some (.int .i64 xr) ∧ W'.cell? ⟨b3, o3 + j * 10 + 4, none⟩ = some (.slice xa xn xc) ∧ W'.cell? ⟨b3, o3 + j * 10 + 5, none⟩ = some (.int .i64 yk) ∧ W'.cell? ⟨b3, o3 + j * 10 + 6, none⟩ = some (.int .i64 yi) ∧ W'.cell? ⟨b3, o3 + j * 10 + 7, none⟩ = some (.string yt) ∧ W'.cell? ⟨b3, o3 + j * 10 + 8, none⟩ = some (.int .i64 yr) ∧ W'.cell? ⟨b3, o3 + j * 10 + 9, none⟩ = some (.slice ya yn yc) ∧ W'.cell? ⟨b3, o3 + j0 * 10, none⟩ = some (.int .i64 zk) ∧ W'.cell? ⟨b3, o3 + j0 * 10 + 1, none⟩ = some (.int .i64 zi) ∧ W'.cell? ⟨b3, o3 + j0 * 10 + 2, none⟩ = some (.string zt) ∧ W'.cell? ⟨b3, o3 + j0 * 10 + 3, none⟩ = some (.int .i64 zr) ∧ W'.cell? ⟨b3, o3 + j0 * 10 + 4, none⟩ = some (.slice za zn zc)) (first | with_reducible exact SE2.out _ R0.out | with_reducible exact SE2.out _ R1.out | with_reducible exact SE2.out _ R2.out | with_reducible exact SE2.out _ R3.out | go_keep) ((first
                          | (go_at_call 48; (refine (CP.out _ (QW.out _ R2.out)).mono ?_; rintro e w3 ⟨rfl, hb3⟩; have R3 := hid (TR.out R2.out hb3); clear hb3))
                          | (go_at_call 54; (have hno := R1; refine (C2.out _ (QW.out _ R1.out)).mono ?_; rintro e w2 ⟨rfl, hb2⟩; have R2 := hid (TR.out R1.out hb2); clear hb2))
                          | (go_at_call 54; (refine (C1.out _ (QW.out _ R0.out)).mono ?_; rintro e w1' ⟨rfl, hb1⟩; have R1 := hid (TR.out R0.out hb1); clear hb1))))
                        go_wp2
                        go_ret
                        exact ⟨by rw [HF.out]; rfl, (FX.out _ (QW.out _ R3.out)).2⟩
    · have hl' : ¬ (sn : Int) = (mn : Int) := by omega
      have hlb : ((sn : Int) == (mn : Int)) = false := by simpa using hl'
      have hlc : ((sn : Int) != (mn : Int)) = true := by simp [hl']
      have HF : Hid (stV k p (ms.map (·.2)) = false) := hid (by unfold stV; rw [hR, decide_eq_false (by rw [HL.out, ← Hm.out]; exact hl)]; rfl)
      go_enter Try.func30, Try.ntmps30
      go_upto_region 1 with fail
      rw [← hW0]
      clear hW0
      go_wp2_with (go_at_call 52; (refine (A51.out).mono ?_; rintro e w1 ⟨rfl, hb1⟩; have B1 := hid hb1; clear f0 f1 f2 f3 f4 hb1; obtain ⟨⟨f0, f1, f2, f3, f4⟩, _⟩ := FX.out w1 B1.out))
      go_ret
      exact ⟨by rw [HF.out]; rfl, (FX.out _ B1.out).2⟩
end Go.Proofs.Ytenfgahedbeekaa

