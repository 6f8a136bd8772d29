/- windlassref4.Snapshot. -/
import Derived.Test.YtenfgahedbeekaaJAN
import Derived.ArgAppend
namespace Go.Proofs.Ytenfgahedbeekaa
open Go.RowKit Go.Deep Go.Shelf
set_option linter.unusedVariables false
set_option linter.unusedSimpArgs false

set_option maxRecDepth 100000 in
set_option maxHeartbeats 2000000 in
theorem snap32 (k : Nat) (w : World) (ra ma fa ea sa : Option Addr) (rn rc mn mc fn fc en ec sn sc : Nat) (ms : List (Sl × Rw (k + 2))) (hs : StR (k + 2) w sa sn ms) (b : Bool)
    (K30 : ∀ w1, Below w.heap.size w w1 → Calls Try.prog 30 #[.agg #[.slice ra rn rc, .slice ma mn mc, .slice fa fn fc, .slice ea en ec], .agg #[.slice sa sn sc]] w1 fun e w' => e = .returned (.bool b) ∧ Below w1.heap.size w1 w')
    (hpl : b = true → ∀ m ∈ ms, m.2.length ≤ 24 ∧ ∀ q ∈ m.2, plV k q.1 = true ∧ plV k q.2 = true) :
    Calls Try.prog 32 #[.agg #[.slice ra rn rc, .slice ma mn mc, .slice fa fn fc, .slice ea en ec], .agg #[.slice sa sn sc]] w fun e w' => Below w.heap.size w w' ∧ ∃ v', e = .returned (.tuple #[v', .int .i64 (if b then 0 else 40)]) ∧ Row w' w.heap.size v' (if b then encSt k (ms.map (·.2)) else []) := by
  obtain ⟨W0, hW0⟩ : ∃ W0, W0 = (w.alloc (.cells #[.slice ra rn rc, .slice ma mn mc, .slice fa fn fc, .slice ea en ec] 50)).alloc (.cells #[.slice sa sn sc] 27) := ⟨_, rfl⟩
  have q1 : W0.heap[w.heap.size]? = some (.cells #[.slice ra rn rc, .slice ma mn mc, .slice fa fn fc, .slice ea en ec] 50 (0, 0)) := by rw [hW0]; exact (Below.heap_alloc _ _ _ (by simp)).trans (heap_alloc_new w _)
  have q2 : W0.heap[w.heap.size + 1]? = some (.cells #[.slice sa sn sc] 27 (0, 0)) := by
    have := heap_alloc_new (w.alloc (.cells #[.slice ra rn rc, .slice ma mn mc, .slice fa fn fc, .slice ea en ec] 50)) (.cells #[.slice sa sn sc] 27)
    rw [World.size_alloc] at this
    rw [hW0]; exact this
  have hb0 : Below w.heap.size w W0 := by rw [hW0]; exact boxes2 _ _ _ _ _
  have K0 := hid (K30 W0 hb0)
  have HB0 := hid hb0
  cases b with
  | false =>
    go_enter Try.func32, Try.ntmps32
    go_wp2_with (go_at_call 30; rw [← hW0]; (refine (Hid.out K0).mono ?_; rintro e w1 ⟨rfl, hb1⟩))
    refine bodyPost_ret (v := .tuple #[.slice none 0 0, .int .i64 40]) (by simp [results, Try.results32, go_sem]) rfl ⟨hb0.trans (hb1.mono hb0.size), _, rfl, Row.nil _ _⟩
  | true =>
    have HPL := hid (hpl rfl)
    have R := hid hs
    have Hsn := hid hs.n1
    have hle := hs.n2
    have hle2 : (sn : Int) ≤ 1000 := by omega
    have hn0 : (0 : Int) ≤ (sn : Int) := by omega
    have Q1 := hid q1
    have Q2 := hid q2
    have FX : Hid (∀ w2 : World, Below W0.heap.size W0 w2 → w2.cell? ⟨w.heap.size + 1, 0, none⟩ = some (.slice sa sn sc) ∧ Below w.heap.size w w2) := hid (fun w2 hb => by
      have bz := (hb.block _ (Array.getElem?_eq_some_iff.1 q2).1).trans q2
      exact ⟨cellOf bz 0, hb0.trans (hb.mono hb0.size)⟩)
    have HG : Hid (∀ r ∈ ms.map (·.2), (encRw k r).length ≤ 50000) := hid (fun r hr => by
      simp only [List.mem_map] at hr
      obtain ⟨m, hm, rfl⟩ := hr
      exact encRw_le (w := w) (hpl rfl m hm).1 (fun q hq => ⟨(hs.el m hm).1.el q hq, (hpl rfl m hm).2 q hq⟩))
    clear hpl hs q1 q2 hb0 K30
    go_enter Try.func32, Try.ntmps32
    go_wp2_with (go_at_call 30; rw [← hW0]; (refine (Hid.out K0).mono ?_; rintro e w1 ⟨rfl, hb1⟩; obtain ⟨f0, _⟩ := FX.out w1 hb1; have HB1 := hid hb1; clear hb1))
    go_loopg [6, 7] sn (fun gg vv ii wr => ∃ i : Nat, i + gg = sn ∧ ii = .int .i64 (i : Int) ∧ Row wr w1.heap.size vv (encSt k ((ms.map (·.2)).take i)) ∧ Below w1.heap.size w1 wr)
    case atStart => exact ⟨0, by omega, rfl, by simpa [encSt] using Row.nil _ _, Below.refl _ _⟩
    case round =>
      obtain ⟨i, hi', rfl, hrw, hbel⟩ := hrel
      have HBw : Hid (Below w.heap.size w wr) := hid ((FX.out wr (HB1.out.trans (hbel.mono HB1.out.size))).2)
      obtain ⟨g0, _⟩ := FX.out wr (HB1.out.trans (hbel.mono HB1.out.size))
      have Hrw := hid hrw
      have Hbel := hid hbel
      have hsz1 := hbel.size
      clear f0 hrw hbel
      cases gk with
      | zero =>
        obtain rfl : i = sn := by omega
        have hall : encSt k ((ms.map (·.2)).take i) = encSt k (ms.map (·.2)) := by rw [List.take_of_length_le (by rw [List.length_map, ← Hsn.out]; exact Nat.le_refl _)]
        have Hall := hid hall
        clear hall
        go_wp2
        refine bodyPost_ret (v := .tuple #[_, .int .i64 0]) (by simp [results, Try.results32, go_sem]; rfl) rfl ⟨HBw.out, _, rfl, ?_⟩
        have := Hrw.out
        rw [Hall.out] at this
        exact this.mono (by have h2 := HB0.out.size; have h3 := HB1.out.size; omega)
      | succ gi =>
        have hin : i < sn := by omega
        have hin' : (i : Int) < (sn : Int) := by omega
        have hi0 : (0 : Int) ≤ (i : Int) := by omega
        have Hi := hid hi'
        obtain ⟨p, hp⟩ : ∃ p, ms[i]? = some p := ⟨ms[i]'(by rw [← Hsn.out]; exact hin), List.getElem?_eq_getElem _⟩
        obtain ⟨b2, o2, ea2, dc⟩ := (R.out.below (Nat.le_refl _) HBw.out).rd i p.1 (by rw [List.getElem?_map, hp]; rfl)
        subst ea2
        have hel := (R.out.below (Nat.le_refl _) HBw.out).el p (List.mem_of_getElem? hp)
        obtain ⟨⟨xa, xn, xc⟩, row⟩ := p
        simp only [Sl.v] at dc
        simp only at hel
        have hxn := hel.1.n2
        have hxn1 := hid hel.1.n1
        have hxn2 : (xn : Int) ≤ 1000 := by omega
        have hxn3 : (0 : Int) ≤ (xn : Int) := by omega
        have HDC : Hid (∀ W, Below w.heap.size w W → W.cell? ⟨b2, o2 + i, none⟩ = some (.slice xa xn xc)) := hid (fun W hb => by
          obtain ⟨b3, o3, e3, h3⟩ := (R.out.below (Nat.le_refl _) hb).rd i ⟨xa, xn, xc⟩ (by rw [List.getElem?_map, hp]; rfl)
          cases e3
          exact h3)
        have HR : Hid (∀ (W : World), Below w.heap.size w W → RwR (k + 2) W xa xn row) := hid (fun (W : World) (hb : Below w.heap.size w W) => ((R.out.below (Nat.le_refl _) hb).el _ (List.mem_of_getElem? hp)).1)
        have HPR : Hid (row.length ≤ 24 ∧ ∀ q ∈ row, plV k q.1 = true ∧ plV k q.2 = true) := hid (HPL.out _ (List.mem_of_getElem? hp))
        have Hp := hid hp
        have hwu : IntKind.u64.wrap (xn : Int) = (xn : Int) := by rw [IntKind.wrap_u64]; omega
        have Hlx := hid (show (encSt k ((ms.map (·.2)).take i)).length ≤ 1099511627776 from Nat.le_trans (encSt_take HG.out i (by omega)) (by decide))
        have Hle := hid (show (enc xn).length ≤ 1099511627776 from Nat.le_trans (enc_le xn (by omega)) (by decide))
        have C57 := hid (refPutUint_any wr (xn : Int) xn rfl (by omega))
        clear hel hp hi'
        go_wp2_with (first
          | (go_at_call 57; (refine (C57.out).mono ?_; rintro e w3 ⟨u, rfl, hu, hg3⟩; have Hu := hid hu; have HB3 := hid hg3.nil; have Hrw3 := hid (Hrw.out.below (Nat.le_refl _) hg3.nil); have hs3 := hg3.nil.size; clear hu hg3))
          | (at_builtin; refine wpList_appR _ rfl _ _ rfl _ _ (by rfl) (by rfl) w1.heap.size _ (enc xn) Hrw3.out (Hu.out.rd (enc_byt _)) Hu.out.nilOf (by omega) Hlx.out Hle.out ?_))
        intro v4 w4 hr4 hg4
        have hg5 := (Grw.ofBelow HB3.out _).trans hg4
        have hbel4 : Below w1.heap.size w1 w4 := Hbel.out.trans (hg5.below Hrw.out hsz1)
        obtain ⟨xs0, hxs0⟩ : ∃ xs0, xs0 = encSt k ((ms.map (·.2)).take i) ++ enc xn := ⟨_, rfl⟩
        rw [← hxs0] at hr4
        have hl0 : xs0.length ≤ 60000000 := by
          rw [hxs0, List.length_append]
          have h1 := encSt_take HG.out i (by omega)
          have h2 := enc_le xn (by omega)
          omega
        have Hxs0 := hid hxs0
        have Hr4 := hid hr4
        have Hb4 := hid hbel4
        obtain ⟨g4, _⟩ := FX.out w4 (HB1.out.trans (hbel4.mono HB1.out.size))
        clear hxs0 hr4 hg4 hg5 hbel4 g0 dc C57 Hlx Hle Hu HB3 Hrw3 Hrw Hbel hs3 hsz1
        go_wp2
        have dc4 := HDC.out w4 (FX.out w4 (HB1.out.trans (Hb4.out.mono HB1.out.size))).2
        obtain ⟨wo, hwo⟩ : ∃ wo, wo = wr := ⟨_, rfl⟩
        subst hwo
        clear hwu
        go_loopg [6, 8] xn (fun gg vv jj wr => ∃ j : Nat, j + gg = xn ∧ jj = .int .i64 (j : Int) ∧ Row wr w1.heap.size vv (xs0 ++ (row.take j).flatMap (encN k)) ∧ Below w1.heap.size w1 wr)
        case atStart => exact ⟨0, by omega, rfl, by simpa using Hr4.out, Hb4.out⟩
        case round =>
          obtain ⟨j, hj', rfl, hrw, hbel⟩ := hrel
          have hbW : Below w.heap.size w wr := (FX.out wr (HB1.out.trans (hbel.mono HB1.out.size))).2
          obtain ⟨g6, _⟩ := FX.out wr (HB1.out.trans (hbel.mono HB1.out.size))
          have dc6 := HDC.out wr hbW
          have Hrw := hid hrw
          have Hbel := hid hbel
          have hsz1 := hbel.size
          clear hrw hbel g4 dc4
          cases gk with
          | zero =>
            obtain rfl : j = xn := by omega
            have hall : xs0 ++ (row.take j).flatMap (encN k) = encSt k ((ms.map (·.2)).take (i + 1)) := by
              rw [List.take_of_length_le (by rw [← hxn1.out]; exact Nat.le_refl _), encSt_snoc (r := row) (by rw [List.getElem?_map, Hp.out]; rfl), Hxs0.out, hxn1.out]
              unfold encRw
              rw [List.append_assoc]
            have Hall := hid hall
            clear hall hbW
            go_wp2
            go_roundg gi
            case measure => omega
            case rel => exact ⟨i + 1, by have := Hi.out; omega, by go_num, by rw [← Hall.out]; exact Hrw.out, Hbel.out⟩
          | succ gj =>
            have hjn : j < xn := by omega
            have hjn' : (j : Int) < (xn : Int) := by omega
            have hj0 : (0 : Int) ≤ (j : Int) := by omega
            have Hj := hid hj'
            obtain ⟨q, hq⟩ : ∃ q, row[j]? = some q := ⟨row[j]'(by rw [← hxn1.out]; exact hjn), List.getElem?_eq_getElem _⟩
            have hqm := List.mem_of_getElem? hq
            have hpl := HPR.out.2 q hqm
            have hrd := HR.out wr hbW
            obtain ⟨b5, o5, ea5, de⟩ := hrd.rd j (enT (k + 2) q) (by rw [List.getElem?_map, hq]; rfl)
            subst ea5
            have d0 := de 0 (by omega)
            have d1 := de 1 (by omega)
            have d2 := de 2 (by omega)
            have d3 := de 3 (by omega)
            have d4 := de 4 (by omega)
            have d5 := de 5 (by omega)
            have d6 := de 6 (by omega)
            have d7 := de 7 (by omega)
            have d8 := de 8 (by omega)
            have d9 := de 9 (by omega)
            simp only [En.cs, enT, List.getElem?_cons_zero, List.getElem?_cons_succ, Nat.add_zero] at d0 d1 d2 d3 d4 d5 d6 d7 d8 d9
            have K1 := hid (refPutT_any k wr q.1 (hrd.el q hqm).1)
            have K2 := hid (fun (W : World) (hb : Below w.heap.size w W) => refPutT_any k W q.2 ((HR.out W hb).el q hqm).2)
            have hlk := encW_le (hrd.el q hqm).1 hpl.1
            have hlz := encW_le (hrd.el q hqm).2 hpl.2
            have byk := hid (encW_byt hpl.1)
            have byz := hid (encW_byt hpl.2)
            rw [hpl.1] at K1
            simp only [hpl.2] at K2
            have Hsn2 : Hid (xs0 ++ (row.take j).flatMap (encN k) ++ encW k q.1 ++ encW k q.2 = xs0 ++ (row.take (j + 1)).flatMap (encN k)) := hid (by rw [List.take_add_one, hq]; simp [encN])
            have hlp : (xs0 ++ (row.take j).flatMap (encN k)).length ≤ 900000000 := by
              rw [List.length_append]
              have h1 := preE_le (w := wr) (row := row) (fun q hq => ⟨hrd.el q hq, HPR.out.2 q hq⟩) ((List.finRange row.length).take j)
              have h2 : preE k row ((List.finRange row.length).take j) = (row.take j).flatMap (encN k) := by
                unfold preE
                rw [← List.flatMap_map (fun x : Fin row.length => row[x]) (encN k), List.map_take, finRange_map]
              rw [h2] at h1
              have h3 : ((List.finRange row.length).take j).length ≤ j := by rw [List.length_take]; omega
              omega
            obtain ⟨bk, hbk⟩ : ∃ bk, bk = encW k q.1 := ⟨_, rfl⟩
            obtain ⟨bz, hbz⟩ : ∃ bz, bz = encW k q.2 := ⟨_, rfl⟩
            simp only [← hbk] at K1 hlk byk Hsn2
            simp only [← hbz] at K2 hlz byz Hsn2
            obtain ⟨h1, eh1⟩ : ∃ h1, h1 = hdT (k + 2) q.1 := ⟨_, rfl⟩
            obtain ⟨h2, eh2⟩ : ∃ h2, h2 = hdT (k + 2) q.2 := ⟨_, rfl⟩
            rw [← eh1] at d0 d1 d2 d3 d4
            rw [← eh2] at d5 d6 d7 d8 d9
            simp only [← eh1] at K1
            simp only [← eh2] at K2
            obtain ⟨yk, yi, yt, yr, ya, yn, yc⟩ := h1
            obtain ⟨zk, zi, zt, zr, za, zn, zc⟩ := h2
            simp only [Hd.v] at K1 K2 d0 d1 d2 d3 d4 d5 d6 d7 d8 d9
            have FC : Hid (∀ W : World, Below wr.heap.size wr W → W.cell? ⟨w.heap.size + 1, 0, none⟩ = some (.slice (some ⟨b2, o2, none⟩) sn sc) ∧ W.cell? ⟨b2, o2 + i, none⟩ = some (.slice (some ⟨b5, o5, none⟩) xn xc) ∧ W.cell? ⟨b5, o5 + j * 10, none⟩ = some (.int .i64 yk) ∧ W.cell? ⟨b5, o5 + j * 10 + 1, none⟩ = some (.int .i64 yi) ∧ W.cell? ⟨b5, o5 + j * 10 + 2, none⟩ = some (.string yt) ∧ W.cell? ⟨b5, o5 + j * 10 + 3, none⟩ = some (.int .i64 yr) ∧ W.cell? ⟨b5, o5 + j * 10 + 4, none⟩ = some (.slice ya yn yc) ∧ W.cell? ⟨b5, o5 + j * 10 + 5, none⟩ = some (.int .i64 zk) ∧ W.cell? ⟨b5, o5 + j * 10 + 6, none⟩ = some (.int .i64 zi) ∧ W.cell? ⟨b5, o5 + j * 10 + 7, none⟩ = some (.string zt) ∧ W.cell? ⟨b5, o5 + j * 10 + 8, none⟩ = some (.int .i64 zr) ∧ W.cell? ⟨b5, o5 + j * 10 + 9, none⟩ = some (.slice za zn zc)) := hid (fun W hb => by
              have ge : ∀ (p : Addr) (v : Value), wr.cell? p = some v → W.cell? p = some v := fun p v e => (hb.cell (World.block_lt_of_cell? wr _ e)).trans e
              exact ⟨ge _ _ g6, ge _ _ dc6, ge _ _ d0, ge _ _ d1, ge _ _ d2, ge _ _ d3, ge _ _ d4, ge _ _ d5, ge _ _ d6, ge _ _ d7, ge _ _ d8, ge _ _ d9⟩)
            have HbW := hid hbW
            obtain ⟨xs1, hxs1⟩ : ∃ xs1, xs1 = xs0 ++ (row.take j).flatMap (encN k) := ⟨_, rfl⟩
            rw [← hxs1] at hlp Hrw Hsn2
            have hl1 : xs1.length ≤ 1099511627776 := by omega
            have hl2 : (xs1 ++ bk).length ≤ 1099511627776 := by rw [List.length_append]; omega
            have hl3 : bk.length ≤ 1099511627776 := by omega
            have hl4 : bz.length ≤ 1099511627776 := by omega
            clear hrd de hq hqm hpl eh1 eh2 hbk hbz hxs1 hbW hlp hlk hlz hj' hl0
            go_wp2_with (first
              | (have hno := Hr8; go_at_call 58; (refine (K2.out w8 HW8.out).mono ?_; rintro e w9 ⟨hb9, v9, rfl, hr9⟩; have Hr9 := hid hr9; have HB9 := hid (HB8.out.trans (hb9.mono HB8.out.size)); have Hr89 := hid (Hr8.out.below (Nat.le_refl _) hb9); have Hrw9 := hid (Hrw.out.below (Nat.le_refl _) HB9.out); have hs9 := HB9.out.size; clear hr9 hb9 Hr8))
              | (have hno := K1; go_at_call 58; (refine (K1.out).mono ?_; rintro e w8 ⟨hb8, v8, rfl, hr8⟩; have Hr8 := hid hr8; have HB8 := hid hb8; have HW8 := hid (HbW.out.trans (hb8.mono HbW.out.size)); clear hr8 hb8 K1 g6 dc6 d0 d1 d2 d3 d4 d5 d6 d7 d8 d9; obtain ⟨g6, dc6, d0, d1, d2, d3, d4, d5, d6, d7, d8, d9⟩ := FC.out w8 HB8.out))
              | (have hno := Hr10; at_builtin; refine wpList_appR _ rfl _ _ rfl _ _ (by rfl) (by rfl) w1.heap.size _ bz Hr10.out (Hr910.out.rd byz.out) Hr910.out.nilOf (by omega) hl2 hl4 ?_; intro v11 w11 hr11 hg11)
              | (at_builtin; refine wpList_appR _ rfl _ _ rfl _ _ (by rfl) (by rfl) w1.heap.size _ bk Hrw9.out (Hr89.out.rd byk.out) Hr89.out.nilOf (by omega) hl1 hl3 ?_; intro v10 w10 hr10 hg10; have Hr10 := hid hr10; have Hg10 := hid hg10; have hs10 := hg10.size; have Hr910 := hid (Hr9.out.same (fun g e => hg10.old (Hr9.out.own g e).2 (fun e2 => by have h1 := (Hrw.out.own g e2.symm).2; have h2 := (Hr9.out.own g e).1; have h3 := HB8.out.size; omega))); clear hr10 hg10))
            have hbE : Below w1.heap.size w1 w11 := ((Hbel.out.trans (HB9.out.mono hsz1)).trans (Hg10.out.below Hrw9.out (by omega))).trans (hg11.below Hr10.out (by omega))
            rw [Hsn2.out] at hr11
            have HrE := hid hr11
            have HbE := hid hbE
            clear hr11 hg11 hbE
            go_wp2
            go_roundg gj
            case measure => omega
            case rel => exact ⟨j + 1, by have := Hj.out; omega, by go_num, HrE.out, HbE.out⟩
end Go.Proofs.Ytenfgahedbeekaa

namespace Go.Proofs.Ytenfgahedbeekaa
open Go.RowKit Go.Deep Go.Shelf
set_option linter.unusedVariables false
set_option linter.unusedSimpArgs false

theorem ee_get (es : List En) (j : Nat) (u : Value) (h : (ee es)[j]? = some u) : ∃ x, es[j / 10]? = some x ∧ x.cs[j % 10]? = some u := by
  have hl : j < (ee es).length := (List.getElem?_eq_some_iff.1 h).1
  rw [ee_length] at hl
  have hq : j / 10 < es.length := by omega
  refine ⟨es[j / 10], List.getElem?_eq_getElem hq, ?_⟩
  have := ee_at es (j / 10) es[j / 10] (List.getElem?_eq_getElem hq) (j % 10) (by omega)
  rw [← this, show j / 10 * 10 + j % 10 = j from by omega]
  exact h
theorem ERd.cells_at {w : World} {ad : Addr} {es : List En} (h : ERd w (some ad) es) (d : Nat) : ∀ j u, (ee (es.drop d))[j]? = some u → w.cell? ((ad.add (d * 10)).add j) = some u := by
  intro j u hu
  obtain ⟨x, hx, hc⟩ := ee_get _ j u hu
  rw [List.getElem?_drop] at hx
  obtain ⟨b, off, e, hh⟩ := h _ x hx
  cases e
  rw [Addr.add_lit, Addr.add_lit]
  rw [← hc, ← hh (j % 10) (by omega)]
  congr 2
  omega
theorem ERd.cells_0 {w : World} {ad : Addr} {es : List En} (h : ERd w (some ad) es) : ∀ j u, (ee es)[j]? = some u → w.cell? (ad.add j) = some u := by
  intro j u hu
  obtain ⟨x, hx, hc⟩ := ee_get _ j u hu
  obtain ⟨b, off, e, hh⟩ := h _ x hx
  cases e
  rw [Addr.add_lit]
  rw [← hc, ← hh (j % 10) (by omega)]
  congr 2
  omega
theorem ee_one (es : List En) : ∀ u ∈ ee es, u.oneCell' = true := by
  intro u hu
  simp only [ee, List.mem_flatMap] at hu
  obtain ⟨x, _, hx⟩ := hu
  exact ecs_one x u hx
theorem ee_append (a b : List En) : ee (a ++ b) = ee a ++ ee b := by simp [ee]
theorem ERd.take {w : World} {a : Option Addr} {es : List En} (h : ERd w a es) (n : Nat) : ERd w a (es.take n) := by
  intro j x hx
  rw [List.getElem?_take] at hx
  split at hx
  · exact h j x hx
  · cases hx
/- A head that has no room, and one more: a new row. -/
theorem run_appT (w : World) (ty : TypeId) (ta : Option Addr) (n : Nat) (es : List En) (hn : n = es.length) (hle : n ≤ 1000) (hrd : ERd w ta es) (h : En) (g : Nat) (hg : w.heap[g]? = some (.cells h.cs.toArray 81 (0, 0))) :
    ∃ v' w', (Builtin.append_ #[70, 70] ty #[.slice ta n n, .slice (some ⟨g, 0, none⟩) 1 1]).run Try.prog w = .ok v' w' ∧ ERow w' w.heap.size v' (es ++ [h]) ∧ w.grownBy w' none := by
  cases ta with
  | none =>
    have hes : es = [] := by
      cases es with
      | nil => rfl
      | cons x r => obtain ⟨b, off, e, _⟩ := hrd 0 x rfl; cases e
    subst hes
    subst hn
    obtain ⟨v', w', hrun, h1, h2⟩ := run_appE w ty w.heap.size (.slice none 0 0) [] h g (ERow.nil _ _) hg (Nat.le_refl _) (by simp)
    exact ⟨v', w', hrun, h1, h2.1⟩
  | some ad =>
    obtain ⟨i0, hi, hz0, hz1, hz2⟩ := info_parts info81
    obtain ⟨v', w', hrun, hown, hgr⟩ := run_append_arg_grows (P := Try.prog) w 70 ty 81 i0 zeroE 10 128 Try.underlying70 hi hz0 hz1 hz2 rfl (by decide) ad n n (ee es) (by rw [ee_length, hn]) hrd.cells_0 ⟨g, 0, none⟩ 1 1 h.cs rfl (by
      intro j u hu
      exact World.news_of_block hg j u (by simpa using hu)) (by omega) (by unfold maxLen; omega) (by omega)
    refine ⟨v', w', hrun, ?_, hgr⟩
    unfold ERow
    rw [ee_append, List.length_append, ← hn]
    simpa [ee] using hown
theorem run_app_none (w : World) (ty : TypeId) (B : Nat) (v : Value) (es : List En) (hr : ERow w B v es) (c : Nat) : (Builtin.append_ #[70, 70] ty #[v, .slice none 0 c]).run Try.prog w = .ok v w := by
  obtain ⟨i0, hi, hz0, hz1, hz2⟩ := info_parts info81
  rcases hr.2 with ⟨rfl, _⟩ | ⟨g, cap, cur, rfl, _, _, hnc, _⟩
  · simp [Builtin.append_, run_underlying Try.underlying70, sizeOf, typeInfo, hi, Builtin.lenOf, Builtin.firstCells]
  · simp [Builtin.append_, run_underlying Try.underlying70, sizeOf, typeInfo, hi, Builtin.lenOf, Builtin.firstCells, hnc, storeCells]
theorem run_appX (w : World) (ty : TypeId) (B : Nat) (v : Value) (es : List En) (hr : ERow w B v es) (hB : B ≤ w.heap.size) (ma : Option Addr) (mn mc d : Nat) (ps : List En) (hn : mn = ps.length) (hle : mn ≤ 1000) (hd : d ≤ mn) (hc : mn ≤ mc) (hrd : ERd w ma ps) (hl : es.length ≤ 1000000) :
    ∃ v' w', (Builtin.append_ #[70, 70] ty #[v, sliced ma d mn mc 10]).run Try.prog w = .ok v' w' ∧ ERow w' B v' (es ++ ps.drop d) ∧ Grw w v w' v' := by
  obtain ⟨i0, hi, hz0, hz1, hz2⟩ := info_parts info81
  have grw : Grw w v w v := ⟨⟨rfl, rfl, rfl, Nat.le_refl _, fun _ _ _ => rfl⟩, .inl rfl⟩
  unfold sliced
  cases ma with
  | none =>
    have hps : ps = [] := by
      cases ps with
      | nil => rfl
      | cons x r => obtain ⟨b, off, e, _⟩ := hrd 0 x rfl; cases e
    subst hps
    simp only [List.length_nil] at hn
    subst hn
    have hd0 : d = 0 := by omega
    subst hd0
    refine ⟨v, w, ?_, by simpa using hr, grw⟩
    have := run_app_none w ty B v es hr (mc - 0)
    simpa using this
  | some ad =>
    have fin : ∀ (a2 : Addr) (c2 : Nat), (∀ j u, (ee (ps.drop d))[j]? = some u → w.cell? (a2.add j) = some u) → ∃ v' w', (Builtin.append_ #[70, 70] ty #[v, .slice (some a2) (mn - d) c2]).run Try.prog w = .ok v' w' ∧ ERow w' B v' (es ++ ps.drop d) ∧ Grw w v w' v' := by
      intro a2 c2 hcell
      have hln : (ps.drop d).length = mn - d := by rw [List.length_drop, hn]
      obtain ⟨v', w', hrun, hown, hgr, _, hat⟩ := run_append_own_at (P := Try.prog) w B 70 ty 81 i0 zeroE 10 128 Try.underlying70 hi hz0 hz1 hz2 rfl (by decide) v es.length (ee es) hr a2 (mn - d) c2 (ee (ps.drop d)) (by rw [ee_length, hln]) hcell (ee_one _) (by unfold maxLen; omega) (by omega) hB
      refine ⟨v', w', hrun, ?_, hgr, ?_⟩
      · unfold ERow
        rw [ee_append, List.length_append, hln]
        exact hown
      · rcases hat with hat | hat
        · exact .inl hat
        · exact .inr ⟨_, hat, Nat.le_refl _⟩
    by_cases hmd : mc = d
    · rw [if_pos hmd]
      refine fin ad _ ?_
      have : ps.drop d = [] := List.drop_of_length_le (by omega)
      rw [this]
      intro j u hu
      simp [ee] at hu
    · rw [if_neg hmd]
      exact fin _ _ (hrd.cells_at d)
theorem step_appT {ops : Array Oper} {o : Oper} {a : Act} {w : World} {K : Act → World → Prop} {Q : Exit → Act → World → Prop} {E : Prop} (hgd : o.guard = none) (s x : Operand)
    (ho : o.op = .call { callee := .builtin .append, args := #[s, x], argTypes := #[70, 70] }) (sv : Value) (hs : a.eval s = sv) (g : Nat) (h : En) (hx : a.eval x = .slice (some ⟨g, 0, none⟩) 1 1)
    (ta : Option Addr) (n : Nat) (hsv : sv = .slice ta n n) (es : List En) (hn : n = es.length) (hle : n ≤ 1000) (hrd : ERd w ta es) (hg : w.heap[g]? = some (.cells h.cs.toArray 81 (0, 0)))
    (k : ∀ v' w', ERow w' w.heap.size v' (es ++ [h]) → w.grownBy w' none → K (a.put o.dst v') w') :
    if Region.wanted o (yielded ops a.tmps) = true then Oper.wp Try.prog o a w K Q else E := by
  have hw : Region.wanted o (yielded ops a.tmps) = true := by simp [Region.wanted, hgd]
  rw [if_pos hw]
  subst hsv
  obtain ⟨v', w', hr, h2, h3⟩ := run_appT w o.type ta n es hn hle hrd h g hg
  unfold Oper.wp execOp
  simp only [ho, resolve, invoke, builtin, Sem.run_bind, Sem.run_pure, Result.andThen_ok, List.map_toArray, List.map_cons, List.map_nil, hs, hx, hr]
  exact k v' w' h2 h3
theorem step_appX {ops : Array Oper} {o : Oper} {a : Act} {w : World} {K : Act → World → Prop} {Q : Exit → Act → World → Prop} {E : Prop} (hgd : o.guard = none) (s x : Operand)
    (ho : o.op = .call { callee := .builtin .append, args := #[s, x], argTypes := #[70, 70] }) (v : Value) (hs : a.eval s = v) (xv : Value) (hx : a.eval x = xv)
    (B : Nat) (es : List En) (hr : ERow w B v es) (hB : B ≤ w.heap.size) (ma : Option Addr) (mn mc d : Nat) (hxv : xv = sliced ma d mn mc 10) (ps : List En) (hn : mn = ps.length) (hle : mn ≤ 1000) (hd : d ≤ mn) (hc : mn ≤ mc) (hrd : ERd w ma ps) (hl : es.length ≤ 1000000)
    (k : ∀ v' w', ERow w' B v' (es ++ ps.drop d) → Grw w v w' v' → K (a.put o.dst v') w') :
    if Region.wanted o (yielded ops a.tmps) = true then Oper.wp Try.prog o a w K Q else E := by
  have hw : Region.wanted o (yielded ops a.tmps) = true := by simp [Region.wanted, hgd]
  rw [if_pos hw]
  subst hxv
  obtain ⟨v', w', hr, h2, h3⟩ := run_appX w o.type B v es hr hB ma mn mc d ps hn hle hd hc hrd hl
  unfold Oper.wp execOp
  simp only [ho, resolve, invoke, builtin, Sem.run_bind, Sem.run_pure, Result.andThen_ok, List.map_toArray, List.map_cons, List.map_nil, hs, hx, hr]
  exact k v' w' h2 h3
theorem placeR_le {α : Type} (c : α → Int) (l : List α) : (placeR c l).1 ≤ l.length := List.findIdx_le_length
theorem placeR_lt {α : Type} (c : α → Int) (l : List α) (h : (placeR c l).2 = true) : (placeR c l).1 < l.length := by
  unfold placeR at h ⊢
  simp only at h ⊢
  cases hf : l.find? (plQ c) with
  | none => rw [hf] at h; simp at h
  | some a => exact List.findIdx_lt_length_of_exists ⟨a, List.mem_of_find?_eq_some hf, List.find?_some hf⟩
end Go.Proofs.Ytenfgahedbeekaa

