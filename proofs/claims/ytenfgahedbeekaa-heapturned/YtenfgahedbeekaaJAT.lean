/- windlassref4.Snapshot. -/
import Derived.Test.YtenfgahedbeekaaJAS
namespace Go.Proofs.Ytenfgahedbeekaa
open Go.RowKit Go.Deep Go.Shelf
set_option linter.unusedVariables false
set_option linter.unusedSimpArgs false

set_option maxRecDepth 100000 in
set_option maxHeartbeats 2000000 in
theorem snap32 (k : Nat) (w : World) (ra ma fa ea sa : Option Addr) (rn rc mn mc fn fc en ec sn sc : Nat) (ms : List (Sl × Rw (k + 2))) (hs : StR (k + 2) w sa sn ms) (b : Bool)
    (K30 : ∀ w1, Below w.heap.size w w1 → Calls Try.prog 30 #[.agg #[.slice ra rn rc, .slice ma mn mc, .slice fa fn fc, .slice ea en ec], .agg #[.slice sa sn sc]] w1 fun e w' => e = .returned (.bool b) ∧ Below w1.heap.size w1 w')
    (hpl : b = true → ∀ m ∈ ms, m.2.length ≤ 24 ∧ ∀ q ∈ m.2, plV k q.1 = true ∧ plV k q.2 = true) :
    Calls Try.prog 32 #[.agg #[.slice ra rn rc, .slice ma mn mc, .slice fa fn fc, .slice ea en ec], .agg #[.slice sa sn sc]] w fun e w' => Below w.heap.size w w' ∧ ∃ v', e = .returned (.tuple #[v', .int .i64 (if b then 0 else 40)]) ∧ Row w' w.heap.size v' (if b then encSt k (ms.map (·.2)) else []) := by
  obtain ⟨W0, hW0⟩ : ∃ W0, W0 = (w.alloc (.cells #[.slice ra rn rc, .slice ma mn mc, .slice fa fn fc, .slice ea en ec] 50)).alloc (.cells #[.slice sa sn sc] 27) := ⟨_, rfl⟩
  have q1 : W0.heap[w.heap.size]? = some (.cells #[.slice ra rn rc, .slice ma mn mc, .slice fa fn fc, .slice ea en ec] 50 (0, 0)) := by rw [hW0]; exact (Below.heap_alloc _ _ _ (by simp)).trans (heap_alloc_new w _)
  have q2 : W0.heap[w.heap.size + 1]? = some (.cells #[.slice sa sn sc] 27 (0, 0)) := by
    have := heap_alloc_new (w.alloc (.cells #[.slice ra rn rc, .slice ma mn mc, .slice fa fn fc, .slice ea en ec] 50)) (.cells #[.slice sa sn sc] 27)
    rw [World.size_alloc] at this
    rw [hW0]; exact this
  have hb0 : Below w.heap.size w W0 := by rw [hW0]; exact boxes2 _ _ _ _ _
  have K0 := hid (K30 W0 hb0)
  have HB0 := hid hb0
  cases b with
  | false =>
    go_enter Try.func32, Try.ntmps32
    go_wp2_with (go_at_call 30; rw [← hW0]; (refine (Hid.out K0).mono ?_; rintro e w1 ⟨rfl, hb1⟩))
    refine bodyPost_ret (v := .tuple #[.slice none 0 0, .int .i64 40]) (by simp [results, Try.results32, go_sem]) rfl ⟨hb0.trans (hb1.mono hb0.size), _, rfl, Row.nil _ _⟩
  | true =>
    have HPL := hid (hpl rfl)
    have R := hid hs
    have Hsn := hid hs.n1
    have hle := hs.n2
    have hle2 : (sn : Int) ≤ 1000 := by omega
    have hn0 : (0 : Int) ≤ (sn : Int) := by omega
    have Q1 := hid q1
    have Q2 := hid q2
    have FX : Hid (∀ w2 : World, Below W0.heap.size W0 w2 → w2.cell? ⟨w.heap.size + 1, 0, none⟩ = some (.slice sa sn sc) ∧ Below w.heap.size w w2) := hid (fun w2 hb => by
      have bz := (hb.block _ (Array.getElem?_eq_some_iff.1 q2).1).trans q2
      exact ⟨cellOf bz 0, hb0.trans (hb.mono hb0.size)⟩)
    have HG : Hid (∀ r ∈ ms.map (·.2), (encRw k r).length ≤ 50000) := hid (fun r hr => by
      simp only [List.mem_map] at hr
      obtain ⟨m, hm, rfl⟩ := hr
      exact encRw_le (w := w) (hpl rfl m hm).1 (fun q hq => ⟨(hs.el m hm).1.el q hq, (hpl rfl m hm).2 q hq⟩))
    clear hpl hs q1 q2 hb0 K30
    go_enter Try.func32, Try.ntmps32
    go_wp2_with (go_at_call 30; rw [← hW0]; (refine (Hid.out K0).mono ?_; rintro e w1 ⟨rfl, hb1⟩; obtain ⟨f0, _⟩ := FX.out w1 hb1; have HB1 := hid hb1; clear hb1))
    go_loopg [6, 7] sn (fun gg vv ii wr => ∃ i : Nat, i + gg = sn ∧ ii = .int .i64 (i : Int) ∧ Row wr w1.heap.size vv (encSt k ((ms.map (·.2)).take i)) ∧ Below w1.heap.size w1 wr)
    case atStart => exact ⟨0, by omega, rfl, by simpa [encSt] using Row.nil _ _, Below.refl _ _⟩
    case round =>
      obtain ⟨i, hi', rfl, hrw, hbel⟩ := hrel
      have HBw : Hid (Below w.heap.size w wr) := hid ((FX.out wr (HB1.out.trans (hbel.mono HB1.out.size))).2)
      obtain ⟨g0, _⟩ := FX.out wr (HB1.out.trans (hbel.mono HB1.out.size))
      have Hrw := hid hrw
      have Hbel := hid hbel
      have hsz1 := hbel.size
      clear f0 hrw hbel
      cases gk with
      | zero =>
        obtain rfl : i = sn := by omega
        have hall : encSt k ((ms.map (·.2)).take i) = encSt k (ms.map (·.2)) := by rw [List.take_of_length_le (by rw [List.length_map, ← Hsn.out]; exact Nat.le_refl _)]
        have Hall := hid hall
        clear hall
        go_wp2
        refine bodyPost_ret (v := .tuple #[_, .int .i64 0]) (by simp [results, Try.results32, go_sem]; rfl) rfl ⟨HBw.out, _, rfl, ?_⟩
        have := Hrw.out
        rw [Hall.out] at this
        exact this.mono (by have h2 := HB0.out.size; have h3 := HB1.out.size; omega)
      | succ gi =>
        have hin : i < sn := by omega
        have hin' : (i : Int) < (sn : Int) := by omega
        have hi0 : (0 : Int) ≤ (i : Int) := by omega
        have Hi := hid hi'
        obtain ⟨p, hp⟩ : ∃ p, ms[i]? = some p := ⟨ms[i]'(by rw [← Hsn.out]; exact hin), List.getElem?_eq_getElem _⟩
        obtain ⟨b2, o2, ea2, dc⟩ := (R.out.below (Nat.le_refl _) HBw.out).rd i p.1 (by rw [List.getElem?_map, hp]; rfl)
        subst ea2
        have hel := (R.out.below (Nat.le_refl _) HBw.out).el p (List.mem_of_getElem? hp)
        obtain ⟨⟨xa, xn, xc⟩, row⟩ := p
        simp only [Sl.v] at dc
        simp only at hel
        have hxn := hel.1.n2
        have hxn1 := hid hel.1.n1
        have hxn2 : (xn : Int) ≤ 1000 := by omega
        have hxn3 : (0 : Int) ≤ (xn : Int) := by omega
        have HDC : Hid (∀ W, Below w.heap.size w W → W.cell? ⟨b2, o2 + i, none⟩ = some (.slice xa xn xc)) := hid (fun W hb => by
          obtain ⟨b3, o3, e3, h3⟩ := (R.out.below (Nat.le_refl _) hb).rd i ⟨xa, xn, xc⟩ (by rw [List.getElem?_map, hp]; rfl)
          cases e3
          exact h3)
        have HR : Hid (∀ (W : World), Below w.heap.size w W → RwR (k + 2) W xa xn row) := hid (fun (W : World) (hb : Below w.heap.size w W) => ((R.out.below (Nat.le_refl _) hb).el _ (List.mem_of_getElem? hp)).1)
        have HPR : Hid (row.length ≤ 24 ∧ ∀ q ∈ row, plV k q.1 = true ∧ plV k q.2 = true) := hid (HPL.out _ (List.mem_of_getElem? hp))
        have Hp := hid hp
        have hwu : IntKind.u64.wrap (xn : Int) = (xn : Int) := by rw [IntKind.wrap_u64]; omega
        have Hlx := hid (show (encSt k ((ms.map (·.2)).take i)).length ≤ 1099511627776 from Nat.le_trans (encSt_take HG.out i (by omega)) (by decide))
        have Hle := hid (show (enc xn).length ≤ 1099511627776 from Nat.le_trans (enc_le xn (by omega)) (by decide))
        have C57 := hid (refPutUint_any wr (xn : Int) xn rfl (by omega))
        clear hel hp hi'
        go_wp2_with (first
          | (go_at_call 57; (refine (C57.out).mono ?_; rintro e w3 ⟨u, rfl, hu, hg3⟩; have Hu := hid hu; have HB3 := hid hg3.nil; have Hrw3 := hid (Hrw.out.below (Nat.le_refl _) hg3.nil); have hs3 := hg3.nil.size; clear hu hg3))
          | (at_builtin; refine wpList_appR _ rfl _ _ rfl _ _ (by rfl) (by rfl) w1.heap.size _ (enc xn) Hrw3.out (Hu.out.rd (enc_byt _)) Hu.out.nilOf (by omega) Hlx.out Hle.out ?_))
        intro v4 w4 hr4 hg4
        have hg5 := (Grw.ofBelow HB3.out _).trans hg4
        have hbel4 : Below w1.heap.size w1 w4 := Hbel.out.trans (hg5.below Hrw.out hsz1)
        obtain ⟨xs0, hxs0⟩ : ∃ xs0, xs0 = encSt k ((ms.map (·.2)).take i) ++ enc xn := ⟨_, rfl⟩
        rw [← hxs0] at hr4
        have hl0 : xs0.length ≤ 60000000 := by
          rw [hxs0, List.length_append]
          have h1 := encSt_take HG.out i (by omega)
          have h2 := enc_le xn (by omega)
          omega
        have Hxs0 := hid hxs0
        have Hr4 := hid hr4
        have Hb4 := hid hbel4
        obtain ⟨g4, _⟩ := FX.out w4 (HB1.out.trans (hbel4.mono HB1.out.size))
        clear hxs0 hr4 hg4 hg5 hbel4 g0 dc C57 Hlx Hle Hu HB3 Hrw3 Hrw Hbel hs3 hsz1
        go_wp2
        have dc4 := HDC.out w4 (FX.out w4 (HB1.out.trans (Hb4.out.mono HB1.out.size))).2
        obtain ⟨wo, hwo⟩ : ∃ wo, wo = wr := ⟨_, rfl⟩
        subst hwo
        clear hwu
        go_loopg [6, 8] xn (fun gg vv jj wr => ∃ j : Nat, j + gg = xn ∧ jj = .int .i64 (j : Int) ∧ Row wr w1.heap.size vv (xs0 ++ (row.take j).flatMap (encN k)) ∧ Below w1.heap.size w1 wr)
        case atStart => exact ⟨0, by omega, rfl, by simpa using Hr4.out, Hb4.out⟩
        case round =>
          obtain ⟨j, hj', rfl, hrw, hbel⟩ := hrel
          have hbW : Below w.heap.size w wr := (FX.out wr (HB1.out.trans (hbel.mono HB1.out.size))).2
          obtain ⟨g6, _⟩ := FX.out wr (HB1.out.trans (hbel.mono HB1.out.size))
          have dc6 := HDC.out wr hbW
          have Hrw := hid hrw
          have Hbel := hid hbel
          have hsz1 := hbel.size
          clear hrw hbel g4 dc4
          cases gk with
          | zero =>
            obtain rfl : j = xn := by omega
            have hall : xs0 ++ (row.take j).flatMap (encN k) = encSt k ((ms.map (·.2)).take (i + 1)) := by
              rw [List.take_of_length_le (by rw [← hxn1.out]; exact Nat.le_refl _), encSt_snoc (r := row) (by rw [List.getElem?_map, Hp.out]; rfl), Hxs0.out, hxn1.out]
              unfold encRw
              rw [List.append_assoc]
            have Hall := hid hall
            clear hall hbW
            go_wp2
            go_roundg gi
            case measure => omega
            case rel => exact ⟨i + 1, by have := Hi.out; omega, by go_num, by rw [← Hall.out]; exact Hrw.out, Hbel.out⟩
          | succ gj =>
            have hjn : j < xn := by omega
            have hjn' : (j : Int) < (xn : Int) := by omega
            have hj0 : (0 : Int) ≤ (j : Int) := by omega
            have Hj := hid hj'
            obtain ⟨q, hq⟩ : ∃ q, row[j]? = some q := ⟨row[j]'(by rw [← hxn1.out]; exact hjn), List.getElem?_eq_getElem _⟩
            have hqm := List.mem_of_getElem? hq
            have hpl := HPR.out.2 q hqm
            have hrd := HR.out wr hbW
            obtain ⟨b5, o5, ea5, de⟩ := hrd.rd j (enT (k + 2) q) (by rw [List.getElem?_map, hq]; rfl)
            subst ea5
            have d0 := de 0 (by omega)
            have d1 := de 1 (by omega)
            have d2 := de 2 (by omega)
            have d3 := de 3 (by omega)
            have d4 := de 4 (by omega)
            have d5 := de 5 (by omega)
            have d6 := de 6 (by omega)
            have d7 := de 7 (by omega)
            have d8 := de 8 (by omega)
            have d9 := de 9 (by omega)
            simp only [En.cs, enT, List.getElem?_cons_zero, List.getElem?_cons_succ, Nat.add_zero] at d0 d1 d2 d3 d4 d5 d6 d7 d8 d9
            have K1 := hid (refPutT_any k wr q.1 (hrd.el q hqm).1)
            have K2 := hid (fun (W : World) (hb : Below w.heap.size w W) => refPutT_any k W q.2 ((HR.out W hb).el q hqm).2)
            have hlk := encW_le (hrd.el q hqm).1 hpl.1
            have hlz := encW_le (hrd.el q hqm).2 hpl.2
            have byk := hid (encW_byt hpl.1)
            have byz := hid (encW_byt hpl.2)
            rw [hpl.1] at K1
            simp only [hpl.2] at K2
            have Hsn2 : Hid (xs0 ++ (row.take j).flatMap (encN k) ++ encW k q.1 ++ encW k q.2 = xs0 ++ (row.take (j + 1)).flatMap (encN k)) := hid (by rw [List.take_add_one, hq]; simp [encN])
            have hlp : (xs0 ++ (row.take j).flatMap (encN k)).length ≤ 900000000 := by
              rw [List.length_append]
              have h1 := preE_le (w := wr) (row := row) (fun q hq => ⟨hrd.el q hq, HPR.out.2 q hq⟩) ((List.finRange row.length).take j)
              have h2 : preE k row ((List.finRange row.length).take j) = (row.take j).flatMap (encN k) := by
                unfold preE
                rw [← List.flatMap_map (fun x : Fin row.length => row[x]) (encN k), List.map_take, finRange_map]
              rw [h2] at h1
              have h3 : ((List.finRange row.length).take j).length ≤ j := by rw [List.length_take]; omega
              omega
            obtain ⟨bk, hbk⟩ : ∃ bk, bk = encW k q.1 := ⟨_, rfl⟩
            obtain ⟨bz, hbz⟩ : ∃ bz, bz = encW k q.2 := ⟨_, rfl⟩
            simp only [← hbk] at K1 hlk byk Hsn2
            simp only [← hbz] at K2 hlz byz Hsn2
            obtain ⟨h1, eh1⟩ : ∃ h1, h1 = hdT (k + 2) q.1 := ⟨_, rfl⟩
            obtain ⟨h2, eh2⟩ : ∃ h2, h2 = hdT (k + 2) q.2 := ⟨_, rfl⟩
            rw [← eh1] at d0 d1 d2 d3 d4
            rw [← eh2] at d5 d6 d7 d8 d9
            simp only [← eh1] at K1
            simp only [← eh2] at K2
            obtain ⟨yk, yi, yt, yr, ya, yn, yc⟩ := h1
            obtain ⟨zk, zi, zt, zr, za, zn, zc⟩ := h2
            simp only [Hd.v] at K1 K2 d0 d1 d2 d3 d4 d5 d6 d7 d8 d9
            have FC : Hid (∀ W : World, Below wr.heap.size wr W → W.cell? ⟨w.heap.size + 1, 0, none⟩ = some (.slice (some ⟨b2, o2, none⟩) sn sc) ∧ W.cell? ⟨b2, o2 + i, none⟩ = some (.slice (some ⟨b5, o5, none⟩) xn xc) ∧ W.cell? ⟨b5, o5 + j * 10, none⟩ = some (.int .i64 yk) ∧ W.cell? ⟨b5, o5 + j * 10 + 1, none⟩ = some (.int .i64 yi) ∧ W.cell? ⟨b5, o5 + j * 10 + 2, none⟩ = some (.string yt) ∧ W.cell? ⟨b5, o5 + j * 10 + 3, none⟩ = some (.int .i64 yr) ∧ W.cell? ⟨b5, o5 + j * 10 + 4, none⟩ = some (.slice ya yn yc) ∧ W.cell? ⟨b5, o5 + j * 10 + 5, none⟩ = some (.int .i64 zk) ∧ W.cell? ⟨b5, o5 + j * 10 + 6, none⟩ = some (.int .i64 zi) ∧ W.cell? ⟨b5, o5 + j * 10 + 7, none⟩ = some (.string zt) ∧ W.cell? ⟨b5, o5 + j * 10 + 8, none⟩ = some (.int .i64 zr) ∧ W.cell? ⟨b5, o5 + j * 10 + 9, none⟩ = some (.slice za zn zc)) := hid (fun W hb => by
              have ge : ∀ (p : Addr) (v : Value), wr.cell? p = some v → W.cell? p = some v := fun p v e => (hb.cell (World.block_lt_of_cell? wr _ e)).trans e
              exact ⟨ge _ _ g6, ge _ _ dc6, ge _ _ d0, ge _ _ d1, ge _ _ d2, ge _ _ d3, ge _ _ d4, ge _ _ d5, ge _ _ d6, ge _ _ d7, ge _ _ d8, ge _ _ d9⟩)
            have HbW := hid hbW
            obtain ⟨xs1, hxs1⟩ : ∃ xs1, xs1 = xs0 ++ (row.take j).flatMap (encN k) := ⟨_, rfl⟩
            rw [← hxs1] at hlp Hrw Hsn2
            have hl1 : xs1.length ≤ 1099511627776 := by omega
            have hl2 : (xs1 ++ bk).length ≤ 1099511627776 := by rw [List.length_append]; omega
            have hl3 : bk.length ≤ 1099511627776 := by omega
            have hl4 : bz.length ≤ 1099511627776 := by omega
            clear hrd de hq hqm hpl eh1 eh2 hbk hbz hxs1 hbW hlp hlk hlz hj' hl0
            go_wp2_with (first
              | (have hno := Hr8; go_at_call 58; (refine (K2.out w8 HW8.out).mono ?_; rintro e w9 ⟨hb9, v9, rfl, hr9⟩; have Hr9 := hid hr9; have HB9 := hid (HB8.out.trans (hb9.mono HB8.out.size)); have Hr89 := hid (Hr8.out.below (Nat.le_refl _) hb9); have Hrw9 := hid (Hrw.out.below (Nat.le_refl _) HB9.out); have hs9 := HB9.out.size; clear hr9 hb9 Hr8))
              | (have hno := K1; go_at_call 58; (refine (K1.out).mono ?_; rintro e w8 ⟨hb8, v8, rfl, hr8⟩; have Hr8 := hid hr8; have HB8 := hid hb8; have HW8 := hid (HbW.out.trans (hb8.mono HbW.out.size)); clear hr8 hb8 K1 g6 dc6 d0 d1 d2 d3 d4 d5 d6 d7 d8 d9; obtain ⟨g6, dc6, d0, d1, d2, d3, d4, d5, d6, d7, d8, d9⟩ := FC.out w8 HB8.out))
              | (have hno := Hr10; at_builtin; refine wpList_appR _ rfl _ _ rfl _ _ (by rfl) (by rfl) w1.heap.size _ bz Hr10.out (Hr910.out.rd byz.out) Hr910.out.nilOf (by omega) hl2 hl4 ?_; intro v11 w11 hr11 hg11)
              | (at_builtin; refine wpList_appR _ rfl _ _ rfl _ _ (by rfl) (by rfl) w1.heap.size _ bk Hrw9.out (Hr89.out.rd byk.out) Hr89.out.nilOf (by omega) hl1 hl3 ?_; intro v10 w10 hr10 hg10; have Hr10 := hid hr10; have Hg10 := hid hg10; have hs10 := hg10.size; have Hr910 := hid (Hr9.out.same (fun g e => hg10.old (Hr9.out.own g e).2 (fun e2 => by have h1 := (Hrw.out.own g e2.symm).2; have h2 := (Hr9.out.own g e).1; have h3 := HB8.out.size; omega))); clear hr10 hg10))
            have hbE : Below w1.heap.size w1 w11 := ((Hbel.out.trans (HB9.out.mono hsz1)).trans (Hg10.out.below Hrw9.out (by omega))).trans (hg11.below Hr10.out (by omega))
            rw [Hsn2.out] at hr11
            have HrE := hid hr11
            have HbE := hid hbE
            clear hr11 hg11 hbE
            go_wp2
            go_roundg gj
            case measure => omega
            case rel => exact ⟨j + 1, by have := Hj.out; omega, by go_num, HrE.out, HbE.out⟩
end Go.Proofs.Ytenfgahedbeekaa

namespace Go.Proofs.Ytenfgahedbeekaa
open Go.RowKit Go.Deep Go.Shelf
set_option linter.unusedVariables false
set_option linter.unusedSimpArgs false

theorem ret_boolP {a b : Bool} (h : a = true ↔ b = true) : Ending.returned (.bool a) = .returned (.bool b) := congrArg _ (congrArg _ (Bool.eq_iff_iff.2 h))
def ordIp (a b : Bool) : Int := if a then -1 else if b then 1 else 0
theorem refOrderP (a b : Bool) (w : World) : Calls Try.prog 69 #[.bool a, .bool b] w fun e w' => e = .returned (.int .i64 (ordIp a b)) ∧ w' = w := by
  cases a <;> cases b <;>
    (go_enter Try.func69, Try.ntmps69
     go_wp2
     go_ret
     exact ⟨rfl, rfl⟩)
theorem atS (s : ByteArray) (pos : Nat) (h : pos < s.size) : ∃ c, s[pos]'h = c ∧ s.data.toList[pos]? = some c := by
  have hl : pos < s.data.toList.length := by rw [Array.length_toList]; exact h
  refine ⟨s.data.toList[pos], ?_, List.getElem?_eq_getElem hl⟩
  simp
  rfl
def nvOk (g : Bool) (l : List UInt8) (j : Nat) : Bool := nmB (l.getD j 0).toNat && (decide (0 < j) || (if g then grB (l.getD j 0).toNat else smB (l.getD j 0).toNat))
def nvF (g : Bool) (l : List UInt8) : Nat → Bool
  | 0 => true
  | i + 1 => nvF g l i && nvOk g l i
theorem nvF_iff (g : Bool) (l : List UInt8) : ∀ n, nvF g l n = true ↔ ∀ j, j < n → nvOk g l j = true
  | 0 => by simp [nvF]
  | n + 1 => by
    simp only [nvF, Bool.and_eq_true, nvF_iff g l n]
    constructor
    · rintro ⟨h1, h2⟩ j hj
      rcases Nat.lt_or_ge j n with h | h
      · exact h1 j h
      · obtain rfl : j = n := by omega
        exact h2
    · intro h
      exact ⟨fun j hj => h j (by omega), h n (by omega)⟩
theorem nvF_no {g : Bool} {l : List UInt8} {i n : Nat} (hi : i < n) (h : nvOk g l i = false) : nvF g l n = false := by
  cases hx : nvF g l n
  · rfl
  · rw [(nvF_iff g l n).1 hx i hi] at h; cases h
theorem nvOk_pos {g : Bool} {l : List UInt8} {i : Nat} {c : UInt8} (h : 0 < i) (e : l[i]? = some c) : nvOk g l i = nmB c.toNat := by
  unfold nvOk
  rw [List.getD_eq_getElem?_getD, e, Option.getD_some, decide_eq_true h]
  simp
theorem nvOk_zero {g : Bool} {l : List UInt8} {c : UInt8} (e : l[0]? = some c) : nvOk g l 0 = (if g then grB c.toNat else smB c.toNat) := by
  unfold nvOk nmB
  rw [List.getD_eq_getElem?_getD, e, Option.getD_some]
  cases g <;> cases smB (c.toNat : Int) <;> cases grB (c.toNat : Int) <;> simp
/- A name that begins as it must. -/
def nmdB (g : Bool) (s : ByteArray) : Bool := nameB s && (if g then grB else smB) (s.data.toList.getD 0 0).toNat
theorem nmd_eq (g : Bool) (s : ByteArray) (h1 : 1 ≤ s.size) (h2 : s.size ≤ 20) : nmdB g s = nvF g s.data.toList s.size := by
  have hl : s.data.toList.length = s.size := Array.length_toList
  rw [Bool.eq_iff_iff, nvF_iff]
  unfold nmdB nameB
  rw [decide_eq_true h1, decide_eq_true h2]
  simp only [Bool.true_and, Bool.and_eq_true, List.all_eq_true]
  obtain ⟨c, hc⟩ : ∃ c, s.data.toList[0]? = some c := ⟨s.data.toList[0]'(by omega), List.getElem?_eq_getElem _⟩
  constructor
  · rintro ⟨ha, hf⟩ j hj
    obtain ⟨d, hd⟩ : ∃ d, s.data.toList[j]? = some d := ⟨s.data.toList[j]'(by omega), List.getElem?_eq_getElem _⟩
    cases j with
    | zero =>
      rw [nvOk_zero hd]
      rw [List.getD_eq_getElem?_getD, hd, Option.getD_some] at hf
      cases g <;> simpa using hf
    | succ j => rw [nvOk_pos (by omega) hd]; exact ha d (List.mem_of_getElem? hd)
  · intro h
    have h0 := h 0 (by omega)
    rw [nvOk_zero hc] at h0
    refine ⟨fun x hx => ?_, ?_⟩
    · obtain ⟨j, hj⟩ := List.getElem?_of_mem hx
      have hjl : j < s.size := by rw [← hl]; exact (List.getElem?_eq_some_iff.1 hj).1
      have := h j hjl
      unfold nvOk at this
      rw [List.getD_eq_getElem?_getD, hj, Option.getD_some, Bool.and_eq_true] at this
      exact this.1
    · rw [List.getD_eq_getElem?_getD, hc, Option.getD_some]
      cases g <;> simpa using h0
set_option maxRecDepth 100000 in
set_option maxHeartbeats 2000000 in
theorem refNamed (s : ByteArray) (g : Bool) (w : World) : Calls Try.prog 76 #[.string s, .bool g] w fun e w' => e = .returned (.bool (nmdB g s)) ∧ w' = w := by
  by_cases h1 : s.size < 1
  · have h1' : (s.size : Int) < 1 := by omega
    have hx : nmdB g s = false := by unfold nmdB nameB; rw [decide_eq_false (show ¬ 1 ≤ s.size by omega)]; rfl
    rw [hx]
    clear hx
    go_enter Try.func76, Try.ntmps76
    go_wp2
    go_ret
    exact ⟨rfl, rfl⟩
  · by_cases h2 : 20 < s.size
    · have h1' : ¬ (s.size : Int) < 1 := by omega
      have h2' : (20 : Int) < (s.size : Int) := by omega
      have hx : nmdB g s = false := by unfold nmdB nameB; rw [decide_eq_false (show ¬ s.size ≤ 20 by omega)]; simp
      rw [hx]
      clear hx
      go_enter Try.func76, Try.ntmps76
      go_wp2
      go_ret
      exact ⟨rfl, rfl⟩
    · have h1' : ¬ (s.size : Int) < 1 := by omega
      have h2' : ¬ (20 : Int) < (s.size : Int) := by omega
      rw [nmd_eq g s (by omega) (by omega)]
      have hnz : (nvF g s.data.toList 0) = true := rfl
      go_enter Try.func76, Try.ntmps76
      go_wp2
      go_loopg [5] s.size (fun gf ii wr => ∃ i : Nat, i + gf = s.size ∧ ii = .int .i64 (i : Int) ∧ wr = w ∧ nvF g s.data.toList i = true)
      case atStart => exact ⟨0, by omega, rfl, rfl, hnz⟩
      case round =>
        obtain ⟨i, hi, rfl, rfl, hok⟩ := hrel
        have HOK := hid hok
        clear hok hnz
        cases gk with
        | zero =>
          have hin : i = s.size := by omega
          subst hin
          clear hi
          go_wp2
          go_ret
          exact ⟨by rw [HOK.out]; rfl, rfl⟩
        | succ gf =>
          have hil : i < s.size := by omega
          have hil' : (i : Int) < (s.size : Int) := by omega
          obtain ⟨c, hc, hc1⟩ := atS s i hil
          have HC1 := hid hc1
          have Hi := hid hi
          clear hc1 hi
          have HIL := hid hil
          by_cases h95 : c.toNat = 95
          · have g1 : ((c.toNat : Int) == 95) = true := by simp; omega
            have g2 : (c.toNat : Int) = 95 := by omega
            by_cases hi0 : i = 0
            · subst hi0
              cases g
              · have Hv := hid (nvOk_zero (g := false) HC1.out)
                rw [if_neg (by decide)] at Hv
                go_wp2
                all_goals first
                  | (go_roundg gf
                     case measure => omega
                     case rel => exact ⟨0 + 1, by have := Hi.out; omega, by go_num, rfl, by rw [nvF, HOK.out, Hv.out, Bool.true_and]; simp [nmB, smB, grB]; omega⟩)
                  | (go_ret; exact ⟨by rw [nvF_no HIL.out (by rw [Hv.out]; simp [nmB, smB, grB]; omega)]; rfl, rfl⟩)
              · have Hv := hid (nvOk_zero (g := true) HC1.out)
                rw [if_pos rfl] at Hv
                go_wp2
                all_goals first
                  | (go_roundg gf
                     case measure => omega
                     case rel => exact ⟨0 + 1, by have := Hi.out; omega, by go_num, rfl, by rw [nvF, HOK.out, Hv.out, Bool.true_and]; simp [nmB, smB, grB]; omega⟩)
                  | (go_ret; exact ⟨by rw [nvF_no HIL.out (by rw [Hv.out]; simp [nmB, smB, grB]; omega)]; rfl, rfl⟩)
            · have Hv := hid (nvOk_pos (g := g) (Nat.pos_of_ne_zero hi0) HC1.out)
              have hi0' : ¬ (i : Int) = 0 := by omega
              go_wp2
              all_goals first
                | (go_roundg gf
                   case measure => omega
                   case rel => exact ⟨i + 1, by have := Hi.out; omega, by go_num, rfl, by rw [nvF, HOK.out, Hv.out, Bool.true_and]; simp [nmB, smB, grB]; omega⟩)
                | (go_ret; exact ⟨by rw [nvF_no HIL.out (by rw [Hv.out]; simp [nmB, smB, grB]; omega)]; rfl, rfl⟩)
          · have g1 : ((c.toNat : Int) == 95) = false := by simp; omega
            have g2 : ¬ (c.toNat : Int) = 95 := by omega
            by_cases hi0 : i = 0
            · subst hi0
              cases g
              · have Hv := hid (nvOk_zero (g := false) HC1.out)
                rw [if_neg (by decide)] at Hv
                go_wp2
                all_goals first
                  | (go_roundg gf
                     case measure => omega
                     case rel => exact ⟨0 + 1, by have := Hi.out; omega, by go_num, rfl, by rw [nvF, HOK.out, Hv.out, Bool.true_and]; simp [nmB, smB, grB]; omega⟩)
                  | (go_ret; exact ⟨by rw [nvF_no HIL.out (by rw [Hv.out]; simp [nmB, smB, grB]; omega)]; rfl, rfl⟩)
              · have Hv := hid (nvOk_zero (g := true) HC1.out)
                rw [if_pos rfl] at Hv
                go_wp2
                all_goals first
                  | (go_roundg gf
                     case measure => omega
                     case rel => exact ⟨0 + 1, by have := Hi.out; omega, by go_num, rfl, by rw [nvF, HOK.out, Hv.out, Bool.true_and]; simp [nmB, smB, grB]; omega⟩)
                  | (go_ret; exact ⟨by rw [nvF_no HIL.out (by rw [Hv.out]; simp [nmB, smB, grB]; omega)]; rfl, rfl⟩)
            · have Hv := hid (nvOk_pos (g := g) (Nat.pos_of_ne_zero hi0) HC1.out)
              have hi0' : ¬ (i : Int) = 0 := by omega
              go_wp2
              all_goals first
                | (go_roundg gf
                   case measure => omega
                   case rel => exact ⟨i + 1, by have := Hi.out; omega, by go_num, rfl, by rw [nvF, HOK.out, Hv.out, Bool.true_and]; simp [nmB, smB, grB]; omega⟩)
                | (go_ret; exact ⟨by rw [nvF_no HIL.out (by rw [Hv.out]; simp [nmB, smB, grB]; omega)]; rfl, rfl⟩)
/- Whether a name comes twice. -/
def dupB (ss : List ByteArray) : Bool := (List.range ss.length).any fun i => Lib.containsS (ss.take i) (ss.getD i ByteArray.empty)
theorem dupB_no {ss : List ByteArray} (h : ∀ i s, ss[i]? = some s → Lib.containsS (ss.take i) s = false) : dupB ss = false := by
  unfold dupB
  rw [List.any_eq_false]
  intro i hi
  have hl := List.mem_range.1 hi
  rw [List.getD_eq_getElem?_getD, List.getElem?_eq_getElem hl, Option.getD_some, h i _ (List.getElem?_eq_getElem hl)]
  simp
theorem dupB_yes {ss : List ByteArray} {i : Nat} {s : ByteArray} (e : ss[i]? = some s) (h : Lib.containsS (ss.take i) s = true) : dupB ss = true := by
  unfold dupB
  rw [List.any_eq_true]
  refine ⟨i, List.mem_range.2 (List.getElem?_eq_some_iff.1 e).1, ?_⟩
  rw [List.getD_eq_getElem?_getD, e]
  exact h
theorem namesB_split (g : Bool) (ss : List ByteArray) : namesB (if g then grB else smB) ss = (ss.all (nmdB g) && !dupB ss) := by
  rw [Bool.eq_iff_iff]
  constructor
  · intro h
    unfold namesB at h
    rw [List.all_eq_true] at h
    have h2 : ∀ i s, ss[i]? = some s → nmdB g s = true ∧ Lib.containsS (ss.take i) s = false := fun i s e => by
      have := h i (List.mem_range.2 (List.getElem?_eq_some_iff.1 e).1)
      rw [okAt_some e] at this
      simp only [Bool.and_eq_true, Bool.not_eq_true'] at this
      exact ⟨by unfold nmdB; rw [this.1.1, this.1.2]; rfl, this.2⟩
    rw [Bool.and_eq_true, List.all_eq_true, dupB_no (fun i s e => (h2 i s e).2)]
    refine ⟨fun s hs => ?_, rfl⟩
    obtain ⟨i, hi⟩ := List.getElem?_of_mem hs
    exact (h2 i s hi).1
  · intro h
    rw [Bool.and_eq_true, List.all_eq_true, Bool.not_eq_true'] at h
    refine namesB_yes fun j hj => ?_
    rw [okAt_some (List.getElem?_eq_getElem hj)]
    have h1 := h.1 _ (List.getElem_mem hj)
    have h2 : Lib.containsS (ss.take j) ss[j] = false := by
      cases hx : Lib.containsS (ss.take j) ss[j]
      · rfl
      · rw [dupB_yes (List.getElem?_eq_getElem hj) hx] at h; simp at h
    unfold nmdB at h1
    rw [h1, h2]
    rfl
theorem contains_take {ss : List ByteArray} {i : Nat} {s x : ByteArray} (e : ss[i]? = some s) : Lib.containsS (ss.take (i + 1)) x = (Lib.containsS (ss.take i) x || decide (x = s)) := by
  rw [Bool.eq_iff_iff, Bool.or_eq_true, Lib.containsS_iff, Lib.containsS_iff, List.take_add_one, e]
  simp
theorem toList_inj {x y : ByteArray} : (x.toList == y.toList) = decide (x = y) := by
  rw [Bool.eq_iff_iff, beq_iff_eq, decide_eq_true_eq, ByteArray.toList_eq, ByteArray.toList_eq]
  constructor
  · intro h; cases x; cases y; simp_all
  · rintro rfl; rfl
set_option maxRecDepth 100000 in
set_option maxHeartbeats 1000000 in
theorem refTwice (w : World) (a : Option Addr) (n cap : Nat) (ss : List ByteArray) (hn : n = ss.length) (hn2 : n ≤ 1000000) (d : SRd w a ss) : Calls Try.prog 77 #[.slice a n cap] w fun e w' => e = .returned (.bool (dupB ss)) ∧ Below w.heap.size w w' := by
  have hn2' : (n : Int) ≤ 1000000 := by omega
  have D := hid d
  have Hn := hid hn
  clear hn d
  go_enter Try.func77, Try.ntmps77
  go_wp2
  go_loopg [3] n (fun g ii wr => ∃ i : Nat, i + g = n ∧ ii = .int .i64 (i : Int) ∧ Below w.heap.size w wr ∧ ∀ j s, j < i → ss[j]? = some s → Lib.containsS (ss.take j) s = false)
  case atStart => exact ⟨0, by omega, rfl, Below.refl _ _, fun j s h => by omega⟩
  case round =>
    obtain ⟨i, hi, rfl, hbr, hno⟩ := hrel
    obtain ⟨wo, hwo⟩ : ∃ wo, wo = wr := ⟨_, rfl⟩
    subst hwo
    have HB := hid hbr
    have HN := hid hno
    clear hbr hno
    cases gk with
    | zero =>
      have hin : i = n := by omega
      subst hin
      clear hi
      go_wp2
      go_ret
      refine ⟨?_, HB.out⟩
      rw [dupB_no (fun j s e => HN.out j s (by rw [Hn.out]; exact (List.getElem?_eq_some_iff.1 e).1) e)]
      rfl
    | succ gi =>
      have hlt0 : i < n := by omega
      have hlt : (i : Int) < (n : Int) := by omega
      obtain ⟨s, hs⟩ : ∃ s, ss[i]? = some s := ⟨ss[i]'(by rw [← Hn.out]; exact hlt0), List.getElem?_eq_getElem _⟩
      have Hs := hid hs
      have Hi := hid hi
      clear hs hi
      go_wp2
      go_loopg [4] i (fun g kk wx => ∃ k : Nat, k + g = i ∧ kk = .int .i64 (k : Int) ∧ Below w.heap.size w wx ∧ Lib.containsS (ss.take k) s = false)
      case atStart => exact ⟨0, by omega, rfl, HB.out, rfl⟩
      case round =>
        obtain ⟨k, hk, rfl, hbk, hck⟩ := hrel
        have HCK := hid hck
        have HBK := hid hbk
        clear hck
        cases gk with
        | zero =>
          have hki : k = i := by omega
          subst hki
          clear hk hbk
          go_wp2
          go_roundg gi
          case measure => omega
          case rel => exact ⟨k + 1, by have := Hi.out; omega, by go_num, HBK.out, fun j s' hj e => by
            rcases Nat.lt_or_ge j k with h | h
            · exact HN.out j s' h e
            · obtain rfl : j = k := by omega
              rw [Hs.out] at e; cases e; exact HCK.out⟩
        | succ gj =>
          have hklt : k < i := by omega
          have hklt' : (k : Int) < (i : Int) := by omega
          have hkn : (k : Int) < (n : Int) := by omega
          obtain ⟨t, ht⟩ : ∃ t, ss[k]? = some t := ⟨ss[k]'(by rw [← Hn.out]; omega), List.getElem?_eq_getElem _⟩
          obtain ⟨_, b, off, ea, hc1⟩ := (D.out.below (Nat.le_refl _) hbk) i s Hs.out
          subst ea
          obtain ⟨_, b', off', ea, hc2⟩ := (D.out.below (Nat.le_refl _) hbk) k t ht
          cases ea
          have hmore := contains_take (x := s) ht
          have Hk := hid hk
          have HMo := hid hmore
          have Ht := hid ht
          clear hk hbk hmore ht
          cases heq : (s.toList == t.toList)
          · have Heq := hid heq
            go_wp2
            go_region_held3 (fun w2 => w2.cell? ⟨b, off + i, none⟩ = some (.string s) ∧ w2.cell? ⟨b, off + k, none⟩ = some (.string t)) (first | go_keep) (fail)
            go_wp2
            go_roundg gj
            case measure => omega
            case rel => exact ⟨k + 1, by have := Hk.out; omega, by go_num, HBK.out.trans (((Below.refl _ wr).drew).mono HBK.out.size), by rw [HMo.out, HCK.out, ← toList_inj, Heq.out]; rfl⟩
          · have Heq := hid heq
            have Hkl := hid hklt
            go_wp2
            go_region_held3 (fun w2 => w2.cell? ⟨b, off + i, none⟩ = some (.string s) ∧ w2.cell? ⟨b, off + k, none⟩ = some (.string t)) (first | go_keep) (fail)
            go_wp2
            go_ret
            refine ⟨?_, HBK.out.trans (((Below.refl _ wr).drew).mono HBK.out.size)⟩
            rw [dupB_yes Hs.out (by
              rw [Lib.containsS_iff]
              have e2 := Heq.out
              rw [toList_inj, decide_eq_true_eq] at e2
              rw [e2]
              exact List.mem_of_getElem? (i := k) (by rw [List.getElem?_take, if_pos Hkl.out]; exact Ht.out))]
            rfl
set_option maxRecDepth 100000 in
theorem refIsType (w : World) (h : PH) (k r : Int) (hn : h.rn ≤ 9223372036854775807) :
    Calls Try.prog 78 #[h.v, ty k r] w fun e w' => e = .returned (.bool (typB h.rn (k, r))) ∧ Below w.heap.size w w' := by
  obtain ⟨ra, rn, rc, ma, mn, mc, fa, fn, fc, ea, en, ec⟩ := h
  simp only [PH.v, ty] at hn ⊢
  have hb := two_boxes w #[.slice ra rn rc, .slice ma mn mc, .slice fa fn fc, .slice ea en ec] #[.int .i64 k, .int .i64 r] 50 73
  by_cases h4 : k = 4
  · subst h4
    have ht : typB rn (4, r) = (decide (0 ≤ r) && decide (r < (rn : Int))) := by simp [typB]
    rw [ht]
    clear ht
    go_enter Try.func78, Try.ntmps78
    go_wp2
    all_goals (go_ret; exact ⟨ret_boolP (by simp; try omega), hb⟩)
  · have ht : typB rn (k, r) = simB (k, r) := by simp [typB, h4]
    rw [ht]
    clear ht
    by_cases h1 : 1 ≤ k
    · by_cases h3 : k ≤ 3
      · by_cases hr : r = 0
        · subst hr
          go_enter Try.func78, Try.ntmps78
          go_wp2
          all_goals (go_ret; exact ⟨ret_boolP (by simp [simB]; try omega), hb⟩)
        · have hr' : (r == 0) = false := by simpa using hr
          go_enter Try.func78, Try.ntmps78
          go_wp2
          all_goals (go_ret; exact ⟨ret_boolP (by simp [simB]; try omega), hb⟩)
      · go_enter Try.func78, Try.ntmps78
        go_wp2
        all_goals (go_ret; exact ⟨ret_boolP (by simp [simB]; try omega), hb⟩)
    · go_enter Try.func78, Try.ntmps78
      go_wp2
      all_goals (go_ret; exact ⟨ret_boolP (by simp [simB]; try omega), hb⟩)
end Go.Proofs.Ytenfgahedbeekaa

namespace Go.Proofs.Ytenfgahedbeekaa
open Go.RowKit Go.Deep Go.Shelf
set_option linter.unusedVariables false
set_option linter.unusedSimpArgs false

theorem right_recs {p : Pg} (h : rightB p = true) : p.recs.length ≤ 16 ∧ ∀ x ∈ p.recs, x.2.fields.length ≤ 12 ∧ x.2.fields.length = x.2.types.length ∧ x.2.types.all simB = true := by
  unfold rightB recordsB at h
  simp only [Bool.and_eq_true, decide_eq_true_eq, List.length_map] at h
  refine ⟨h.1.1.1.1.1.1, fun x hx => ?_⟩
  have h2 := (List.all_eq_true.1 h.1.1.1.1.1.2) x.2 (List.mem_map.2 ⟨x, hx, rfl⟩)
  unfold fieldsB at h2
  simp only [Bool.and_eq_true, decide_eq_true_eq] at h2
  exact ⟨h2.1.1.1.2, h2.1.1.2, h2.1.2⟩

/- Of a right program: a field's type has no record's number, a plain value's field none either. -/
theorem fieldsAre_kinds {r : Rc} {fs : List Hd} (hl : r.fields.length = r.types.length) (ht : r.types.all simB = true) (hf : fs.all simpleB = true) : fieldsAre r fs = (decide (fs.length = r.types.length) && (List.range r.types.length).all fun i => decide (((fs[i]?).map fun f => f.kind) = some (r.types.getD i (0, 0)).1)) := by
  unfold fieldsAre
  rw [hl]
  by_cases hn : fs.length = r.types.length
  · rw [decide_eq_true hn, Bool.true_and, Bool.true_and, Bool.eq_iff_iff, List.all_eq_true, List.all_eq_true]
    refine forall_congr' fun i => ?_
    refine imp_congr_right fun hi => ?_
    have hil := List.mem_range.1 hi
    have h1 := (List.all_eq_true.1 hf) fs[i] (List.getElem_mem (by omega))
    have h2 := (List.all_eq_true.1 ht) r.types[i] (List.getElem_mem hil)
    unfold simpleB at h1
    unfold simB at h2
    simp only [Bool.and_eq_true, decide_eq_true_eq] at h1 h2
    rw [List.getD_eq_getElem?_getD, List.getElem?_eq_getElem hil, List.getElem?_eq_getElem (show i < fs.length by omega)]
    simp only [Option.map_some, Option.getD_some, Option.some.injEq, decide_eq_true_eq]
    generalize r.types[i] = q at *
    obtain ⟨a, b⟩ := q
    simp only at h2
    simp only [Prod.mk.injEq, h1.1.1, h2.1, and_true]
  · rw [decide_eq_false hn]; rfl
theorem three_boxes (w : World) (c1 c2 c3 : Array Value) (t1 t2 t3 : TypeId) : ∀ W0, W0 = (((w.alloc (.cells c1 t1)).alloc (.cells c2 t2)).alloc (.cells c3 t3)) → Below w.heap.size w W0 ∧ W0.heap[w.heap.size]? = some (.cells c1 t1 (0, 0)) ∧ W0.heap[w.heap.size + 1]? = some (.cells c2 t2 (0, 0)) ∧ W0.heap[w.heap.size + 1 + 1]? = some (.cells c3 t3 (0, 0)) := by
  rintro W0 rfl
  refine ⟨(((Below.refl _ w).alloc (Nat.le_refl _) _).alloc (by simp) _).alloc (by simp; omega) _, ?_, ?_, ?_⟩
  · rw [Below.heap_alloc _ _ _ (by simp; omega), Below.heap_alloc _ _ _ (by simp)]; exact heap_alloc_new w _
  · rw [Below.heap_alloc _ _ _ (by simp)]; have := heap_alloc_new (w.alloc (.cells c1 t1)) (.cells c2 t2); simpa using this
  · have := heap_alloc_new ((w.alloc (.cells c1 t1)).alloc (.cells c2 t2)) (.cells c3 t3); simpa using this
def kindsB (ts : List TyP) (fs : List Hd) (i : Nat) : Bool := decide (((fs[i]?).map fun f => f.kind) = some (ts.getD i (0, 0)).1)
set_option maxRecDepth 100000 in
set_option maxHeartbeats 2000000 in
theorem refIs (w : World) (g : PH) (p : Pg) (d : PRd w g p) (hR : rightB p = true) (k r : Int) (h : Hd) (fs : List Hd) (hin : h.In) (hn : h.n = fs.length) (hv : VRd w h.a fs) (hfs : ∀ f ∈ fs, f.In) :
    Calls Try.prog 54 #[g.v, ty k r, h.v] w fun e w' => e = .returned (.bool (isB p (k, r) h fs)) ∧ Below w.heap.size w w' := by
  obtain ⟨hl16, hrecs⟩ := right_recs hR
  have K27 := hid (fun w' => refIsType w' g k r d.r.n2)
  have e0 : g.rn = p.rn := d.r.n1
  rw [e0] at K27
  have K43 := hid (fun (w1 : World) (hb : Below w.heap.size w w1) => refPlain_any w1 h fs hin hn (hv.below (Nat.le_refl _) hb) hfs)
  obtain ⟨res, hres⟩ : ∃ res, res = isB p (k, r) h fs := ⟨_, rfl⟩
  rw [← hres]
  unfold isB at hres
  simp only at hres
  have Dr := hid d.r
  have HV := hid hv
  have E0 := hid e0
  have Hrecs := hid hrecs
  have hn9 := hin.n
  have hg9 := d.r.n2
  clear d hv hrecs e0 hR hfs hin
  obtain ⟨ra, rn, rc, ma, mn, mc, fa, fn, fc, ea, en, ec⟩ := g
  obtain ⟨hk, hi, ht, hr, ha, hm, hc⟩ := h
  simp only at hn hres hn9 hg9
  simp only [PH.v, ty, Hd.v] at K27 K43 ⊢
  obtain ⟨W0, hW0⟩ : ∃ W0, W0 = (((w.alloc (.cells #[.slice ra rn rc, .slice ma mn mc, .slice fa fn fc, .slice ea en ec] 50)).alloc (.cells #[.int .i64 k, .int .i64 r] 73)).alloc (.cells #[.int .i64 hk, .int .i64 hi, .string ht, .int .i64 hr, .slice ha hm hc] 31)) := ⟨_, rfl⟩
  obtain ⟨hb0, b1, b2, b3⟩ := three_boxes w _ _ _ 50 73 31 W0 hW0
  have FX : Hid (∀ w2 : World, Below W0.heap.size W0 w2 → w2.cell? ⟨w.heap.size, 0, none⟩ = some (.slice ra rn rc) ∧ w2.cell? ⟨w.heap.size + 1, 0, none⟩ = some (.int .i64 k) ∧ w2.cell? ⟨w.heap.size + 1, 1, none⟩ = some (.int .i64 r) ∧ w2.cell? ⟨w.heap.size + 1 + 1, 0, none⟩ = some (.int .i64 hk) ∧ w2.cell? ⟨w.heap.size + 1 + 1, 1, none⟩ = some (.int .i64 hi) ∧ w2.cell? ⟨w.heap.size + 1 + 1, 2, none⟩ = some (.string ht) ∧ w2.cell? ⟨w.heap.size + 1 + 1, 3, none⟩ = some (.int .i64 hr) ∧ w2.cell? ⟨w.heap.size + 1 + 1, 4, none⟩ = some (.slice ha hm hc) ∧ Below w.heap.size w w2) := hid (fun w2 hb => by
    have q1 := (hb.block _ (Array.getElem?_eq_some_iff.1 b1).1).trans b1
    have q2 := (hb.block _ (Array.getElem?_eq_some_iff.1 b2).1).trans b2
    have q3 := (hb.block _ (Array.getElem?_eq_some_iff.1 b3).1).trans b3
    exact ⟨cellOf q1 0, cellOf q2 0, cellOf q2 1, cellOf q3 0, cellOf q3 1, cellOf q3 2, cellOf q3 3, cellOf q3 4, hb0.trans (hb.mono hb0.size)⟩)
  have Hres := hid hres
  have Hn := hid hn
  clear b1 b2 b3 hb0 hres hn
  cases q1 : typB p.rn (k, r) with
  | false =>
    simp only [q1] at K27
    have HV2 : Hid (res = false) := hid (by rw [Hres.out, q1]; rfl)
    go_enter Try.func54, Try.ntmps54
    go_wp2_with (go_at_call 78; (rw [← hW0]; refine (Hid.out K27 _).mono ?_; rintro e w1 ⟨rfl, hb1⟩; obtain ⟨p0, p1, p2, p3, p4, p5, p6, p7, pb⟩ := FX.out w1 hb1))
    go_ret
    exact ⟨by rw [HV2.out]; rfl, pb⟩
  | true =>
    simp only [q1] at K27
    cases q2 : plainB ⟨hk, hi, ht, hr, ha, hm, hc⟩ fs with
    | false =>
      simp only [q2] at K43
      have HV2 : Hid (res = false) := hid (by rw [Hres.out, q1, q2]; rfl)
      go_enter Try.func54, Try.ntmps54
      go_wp2_with (first
        | (go_at_call 78; (rw [← hW0]; refine (Hid.out K27 _).mono ?_; rintro e w1 ⟨rfl, hb1⟩; obtain ⟨p0, p1, p2, p3, p4, p5, p6, p7, pb⟩ := FX.out w1 hb1))
        | (go_at_call 81; (refine (Hid.out K43 _ pb).mono ?_; rintro e w2 ⟨rfl, hb2⟩)))
      go_ret
      exact ⟨by rw [HV2.out]; rfl, pb.trans (hb2.mono pb.size)⟩
    | true =>
      simp only [q2] at K43
      by_cases q3 : hk = k
      · subst q3
        by_cases q4 : hk = 4
        · subst q4
          have hrr : 0 ≤ r ∧ r < (rn : Int) := by
            have q := q1
            unfold typB at q
            simp only [if_true, Bool.and_eq_true, decide_eq_true_eq] at q
            have e00 : rn = p.rn := E0.out
            rw [← e00] at q
            exact q
          obtain ⟨ri, rfl⟩ : ∃ ri : Nat, r = (ri : Int) := ⟨r.toNat, by omega⟩
          have hri : ri < rn := by omega
          obtain ⟨x, hx⟩ : ∃ x, p.recs[ri]? = some x := ⟨p.recs[ri]'(by have e00 : rn = p.rn := E0.out; unfold Pg.rn at e00; omega), by rw [List.getElem?_eq_getElem]⟩
          obtain ⟨hf12, hft, hts⟩ := Hrecs.out x (List.mem_of_getElem? hx)
          have hpl := q2
          rw [plainB_rec rfl] at hpl
          simp only [Bool.and_eq_true, decide_eq_true_eq] at hpl
          have HV2 : Hid (res = (decide (hr = (ri : Int)) && (decide (fs.length = x.2.types.length) && (List.range x.2.types.length).all (kindsB x.2.types fs)))) := hid (by
            rw [Hres.out, q1, q2]
            simp only [if_true, Int.toNat_natCast, hx, Option.map_some, Option.getD_some, decide_true, Bool.true_and]
            rw [fieldsAre_kinds hft hts hpl.2]
            rfl)
          obtain ⟨b1, o1, ea', hb1', e1⟩ := Dr.out.rd ri x.1.cs (by simp [hx])
          subst ea'
          have hc0 := e1 0 (by omega)
          have hc1 := e1 1 (by omega)
          have hc2 := e1 2 (by omega)
          simp only [RH.cs, List.getElem?_cons_zero, List.getElem?_cons_succ, Nat.add_zero] at hc0 hc1 hc2
          have hrc := Dr.out.el x (List.mem_of_getElem? hx)
          have HT := hid hrc.tr
          have Htn := hid hrc.tn
          obtain ⟨⟨nm, ga, gn, gc, ta, tn, tc⟩, rcx⟩ := x
          simp only at hc0 hc1 hc2 HV2 HT Htn hf12 hft
          have Hc := hid (show _ ∧ _ ∧ _ from ⟨hc0, hc1, hc2⟩)
          have Hb1 := hid hb1'
          have htn12 : tn ≤ 12 := by have := Htn.out; omega
          have htn12' : (tn : Int) ≤ 12 := by omega
          have hi0 : (0 : Int) ≤ (ri : Int) := by omega
          have hi1 : (ri : Int) < (rn : Int) := by omega
          have hm12 : (hm : Int) ≤ 12 := by have := hpl.1.2; omega
          clear e1 hx hc0 hc1 hc2 hb1' hrc hpl hrr q1 q2 hts hft hf12
          by_cases q5 : hr = (ri : Int)
          · subst q5
            by_cases q6 : hm = tn
            · subst q6
              have HV3 : Hid (res = (List.range hm).all (kindsB rcx.types fs)) := hid (by
                rw [HV2.out, ← Htn.out, ← Hn.out]; simp)
              clear HV2
              go_enter Try.func54, Try.ntmps54
              go_wp2_with (first
                | (go_at_call 78; (rw [← hW0]; refine (Hid.out K27 _).mono ?_; rintro e w1 ⟨rfl, hb1⟩; obtain ⟨p0, p1, p2, p3, p4, p5, p6, p7, pb⟩ := FX.out w1 hb1))
                | (go_at_call 81; (refine (Hid.out K43 _ pb).mono ?_; rintro e w2 ⟨rfl, hb2⟩; obtain ⟨P0, P1, P2, P3, P4, P5, P6, P7, PB2⟩ := FX.out w2 (hb1.trans (hb2.mono hb1.size)); have HB12 := hid (hb1.trans (hb2.mono hb1.size)); have PA := fun o => FX.out (w2.alloc o) ((hb1.trans (hb2.mono hb1.size)).alloc (Nat.le_trans hb1.size hb2.size) o); have A1 : ∀ o, (w2.alloc o).cell? ⟨w.heap.size + 1, 1, none⟩ = some (.int .i64 (ri : Int)) := fun o => (PA o).2.2.1; have A3 : ∀ o, (w2.alloc o).cell? ⟨w.heap.size + 1 + 1, 3, none⟩ = some (.int .i64 (ri : Int)) := fun o => (PA o).2.2.2.2.2.2.1; have A4 : ∀ o, (w2.alloc o).cell? ⟨w.heap.size + 1 + 1, 4, none⟩ = some (.slice ha hm hc) := fun o => (PA o).2.2.2.2.2.2.2.1; clear PA; have z0 := (PB2.cell (p := ⟨b1, o1 + ri * 3, none⟩) Hb1.out).trans Hc.out.1; have z1 := (PB2.cell (p := ⟨b1, o1 + ri * 3 + 1, none⟩) Hb1.out).trans Hc.out.2.1; have z2 := (PB2.cell (p := ⟨b1, o1 + ri * 3 + 2, none⟩) Hb1.out).trans Hc.out.2.2)))
              obtain ⟨W2, hW2⟩ : ∃ W2, W2 = w2.alloc (.cells #[.string nm, .slice ga gn gc, .slice ta hm tc] 95) := ⟨_, rfl⟩
              have hbx : W2.heap[w2.heap.size]? = some (.cells #[.string nm, .slice ga gn gc, .slice ta hm tc] 95 (0, 0)) := by rw [hW2]; exact heap_alloc_new w2 _
              have h02 : Below W0.heap.size W0 W2 := by rw [hW2]; exact HB12.out.alloc HB12.out.size _
              rw [← hW2]
              have Hbx := hid hbx
              have H02 := hid h02
              clear hbx h02 hW2 A1 A3 A4 z0 z1 z2 P0 P1 P2 P3 P4 P5 P6 P7 p0 p1 p2 p3 p4 p5 p6 p7 K27 K43
              go_loopg [8] hm (fun g ii wr => ∃ i : Nat, i + g = hm ∧ ii = .int .i64 (i : Int) ∧ Below W2.heap.size W2 wr ∧ ∀ j, j < i → kindsB rcx.types fs j = true)
              case atStart => exact ⟨0, by omega, rfl, Below.refl _ _, fun j hj => by omega⟩
              case round =>
                obtain ⟨i, hi', rfl, hbr, hacc⟩ := hrel
                have h0r : Below W0.heap.size W0 wr := H02.out.trans (hbr.mono H02.out.size)
                obtain ⟨P0, P1, P2, P3, P4, P5, P6, P7, PB3⟩ := FX.out wr h0r
                have hbx2 := (hbr.block _ (Array.getElem?_eq_some_iff.1 Hbx.out).1).trans Hbx.out
                have y2 := cellOf hbx2 2
                simp only [List.getElem?_toArray, List.getElem?_cons_zero, List.getElem?_cons_succ] at y2
                have Hacc := hid hacc
                have Hbr := hid hbr
                have HPB := hid PB3
                cases gk with
                | zero =>
                  have hin : i = hm := by omega
                  subst hin
                  clear hi' hacc hbr h0r hbx2
                  go_wp2
                  go_ret
                  refine ⟨?_, HPB.out⟩
                  have : res = true := by
                    rw [HV3.out, List.all_eq_true]
                    exact fun j hj => Hacc.out j (List.mem_range.1 hj)
                  rw [this]
                  rfl
                | succ gi =>
                  have hlt0 : i < hm := by omega
                  have hlt : (i : Int) < (hm : Int) := by omega
                  obtain ⟨f, hf⟩ : ∃ f, fs[i]? = some f := ⟨fs[i]'(by rw [← Hn.out]; exact hlt0), List.getElem?_eq_getElem _⟩
                  obtain ⟨t, ht⟩ : ∃ t, rcx.types[i]? = some t := ⟨rcx.types[i]'(by rw [← Htn.out]; exact hlt0), List.getElem?_eq_getElem _⟩
                  obtain ⟨fb, fo, ea', df⟩ := (HV.out.below (Nat.le_refl _) PB3) i f hf
                  subst ea'
                  obtain ⟨tb, to', ea', dt1, dt2⟩ := (HT.out.below (Nat.le_refl _) PB3) i t ht
                  subst ea'
                  have f0 := df 0 (by omega)
                  simp only [Hd.cs, List.getElem?_cons_zero, Nat.add_zero] at f0
                  have hkd : kindsB rcx.types fs i = decide (f.kind = t.1) := by
                    unfold kindsB
                    rw [hf, List.getD_eq_getElem?_getD, ht]
                    simp
                  obtain ⟨fk, hfk⟩ : ∃ z, z = f.kind := ⟨_, rfl⟩
                  obtain ⟨tk, htk⟩ : ∃ z, z = t.1 := ⟨_, rfl⟩
                  rw [← hfk] at f0 hkd
                  rw [← htk] at dt1 hkd
                  have Hkd := hid hkd
                  have Hi := hid hi'
                  have Hlt := hid hlt0
                  clear hi' hacc hbr h0r hbx2 df dt2 hf ht hkd hfk htk PB3 hlt0
                  by_cases hq : fk = tk
                  · subst hq
                    go_wp2
                    go_region_held3 (fun wz => wz.cell? ⟨w.heap.size + 1 + 1, 4, none⟩ = some (.slice (some ⟨fb, fo, none⟩) hm hc) ∧ wz.cell? ⟨fb, fo + i * 5, none⟩ = some (.int .i64 fk) ∧ wz.cell? ⟨w2.heap.size, 2, none⟩ = some (.slice (some ⟨tb, to', none⟩) hm tc) ∧ wz.cell? ⟨tb, to' + i * 2, none⟩ = some (.int .i64 fk)) (first | go_keep) (fail)
                    go_wp2
                    go_roundg gi
                    case measure => omega
                    case rel => exact ⟨i + 1, by have := Hi.out; omega, by go_num, Hbr.out.trans (((Below.refl _ wr).drew).mono Hbr.out.size), fun j hj => by
                      rcases Nat.lt_or_ge j i with h | h
                      · exact Hacc.out j h
                      · obtain rfl : j = i := by omega
                        rw [Hkd.out]; simp⟩
                  · have hq' : (fk == tk) = false := by simpa using hq
                    have hq2 : (fk != tk) = true := by simp [bne, hq']
                    go_wp2
                    go_region_held3 (fun wz => wz.cell? ⟨w.heap.size + 1 + 1, 4, none⟩ = some (.slice (some ⟨fb, fo, none⟩) hm hc) ∧ wz.cell? ⟨fb, fo + i * 5, none⟩ = some (.int .i64 fk) ∧ wz.cell? ⟨w2.heap.size, 2, none⟩ = some (.slice (some ⟨tb, to', none⟩) hm tc) ∧ wz.cell? ⟨tb, to' + i * 2, none⟩ = some (.int .i64 tk)) (first | go_keep) (fail)
                    go_wp2
                    go_ret
                    refine ⟨?_, HPB.out.trans (((Below.refl _ wr).drew).mono HPB.out.size)⟩
                    have : res = false := by
                      rw [HV3.out, List.all_eq_false]
                      exact ⟨i, List.mem_range.2 Hlt.out, by rw [Hkd.out]; simp [hq]⟩
                    rw [this]
                    rfl
            · have q6' : ¬ (hm : Int) = (tn : Int) := by omega
              have q6b : ((hm : Int) == (tn : Int)) = false := by simpa using q6'
              have HV3 : Hid (res = false) := hid (by rw [HV2.out, ← Htn.out, ← Hn.out, decide_eq_false q6]; simp)
              clear HV2
              go_enter Try.func54, Try.ntmps54
              go_wp2_with (first
                | (go_at_call 78; (rw [← hW0]; refine (Hid.out K27 _).mono ?_; rintro e w1 ⟨rfl, hb1⟩; obtain ⟨p0, p1, p2, p3, p4, p5, p6, p7, pb⟩ := FX.out w1 hb1))
                | (go_at_call 81; (refine (Hid.out K43 _ pb).mono ?_; rintro e w2 ⟨rfl, hb2⟩; obtain ⟨P0, P1, P2, P3, P4, P5, P6, P7, PB2⟩ := FX.out w2 (hb1.trans (hb2.mono hb1.size)); have HB12 := hid (hb1.trans (hb2.mono hb1.size)); have PA := fun o => FX.out (w2.alloc o) ((hb1.trans (hb2.mono hb1.size)).alloc (Nat.le_trans hb1.size hb2.size) o); have A1 : ∀ o, (w2.alloc o).cell? ⟨w.heap.size + 1, 1, none⟩ = some (.int .i64 (ri : Int)) := fun o => (PA o).2.2.1; have A3 : ∀ o, (w2.alloc o).cell? ⟨w.heap.size + 1 + 1, 3, none⟩ = some (.int .i64 (ri : Int)) := fun o => (PA o).2.2.2.2.2.2.1; have A4 : ∀ o, (w2.alloc o).cell? ⟨w.heap.size + 1 + 1, 4, none⟩ = some (.slice ha hm hc) := fun o => (PA o).2.2.2.2.2.2.2.1; clear PA; have z0 := (PB2.cell (p := ⟨b1, o1 + ri * 3, none⟩) Hb1.out).trans Hc.out.1; have z1 := (PB2.cell (p := ⟨b1, o1 + ri * 3 + 1, none⟩) Hb1.out).trans Hc.out.2.1; have z2 := (PB2.cell (p := ⟨b1, o1 + ri * 3 + 2, none⟩) Hb1.out).trans Hc.out.2.2)))
              go_ret
              exact ⟨by rw [HV3.out]; rfl, PB2.alloc PB2.size _⟩
          · have q5b : (hr == (ri : Int)) = false := by simpa using q5
            have HV3 : Hid (res = false) := hid (by rw [HV2.out, decide_eq_false q5]; rfl)
            clear HV2
            go_enter Try.func54, Try.ntmps54
            go_wp2_with (first
              | (go_at_call 78; (rw [← hW0]; refine (Hid.out K27 _).mono ?_; rintro e w1 ⟨rfl, hb1⟩; obtain ⟨p0, p1, p2, p3, p4, p5, p6, p7, pb⟩ := FX.out w1 hb1))
              | (go_at_call 81; (refine (Hid.out K43 _ pb).mono ?_; rintro e w2 ⟨rfl, hb2⟩; obtain ⟨P0, P1, P2, P3, P4, P5, P6, P7, PB2⟩ := FX.out w2 (hb1.trans (hb2.mono hb1.size)); have HB12 := hid (hb1.trans (hb2.mono hb1.size)); have PA := fun o => FX.out (w2.alloc o) ((hb1.trans (hb2.mono hb1.size)).alloc (Nat.le_trans hb1.size hb2.size) o); have A1 : ∀ o, (w2.alloc o).cell? ⟨w.heap.size + 1, 1, none⟩ = some (.int .i64 (ri : Int)) := fun o => (PA o).2.2.1; have A3 : ∀ o, (w2.alloc o).cell? ⟨w.heap.size + 1 + 1, 3, none⟩ = some (.int .i64 hr) := fun o => (PA o).2.2.2.2.2.2.1; have A4 : ∀ o, (w2.alloc o).cell? ⟨w.heap.size + 1 + 1, 4, none⟩ = some (.slice ha hm hc) := fun o => (PA o).2.2.2.2.2.2.2.1; clear PA; have z0 := (PB2.cell (p := ⟨b1, o1 + ri * 3, none⟩) Hb1.out).trans Hc.out.1; have z1 := (PB2.cell (p := ⟨b1, o1 + ri * 3 + 1, none⟩) Hb1.out).trans Hc.out.2.1; have z2 := (PB2.cell (p := ⟨b1, o1 + ri * 3 + 2, none⟩) Hb1.out).trans Hc.out.2.2)))
            go_ret
            exact ⟨by rw [HV3.out]; rfl, PB2.alloc PB2.size _⟩
        · have HV2 : Hid (res = true) := hid (by
            rw [Hres.out, q1, q2]
            have h1 := q1
            have h2 := q2
            unfold typB at h1
            unfold plainB at h2
            simp only [q4, if_false] at h1 h2
            unfold simB at h1
            unfold simpleB at h2
            simp only [Bool.and_eq_true, decide_eq_true_eq] at h1 h2
            simp [q4, h1.1, h2.1.1])
          go_enter Try.func54, Try.ntmps54
          go_wp2_with (first
            | (go_at_call 78; (rw [← hW0]; refine (Hid.out K27 _).mono ?_; rintro e w1 ⟨rfl, hb1⟩; obtain ⟨p0, p1, p2, p3, p4, p5, p6, p7, pb⟩ := FX.out w1 hb1))
            | (go_at_call 81; (refine (Hid.out K43 _ pb).mono ?_; rintro e w2 ⟨rfl, hb2⟩; obtain ⟨P0, P1, P2, P3, P4, P5, P6, P7, PB2⟩ := FX.out w2 (hb1.trans (hb2.mono hb1.size)))))
          go_ret
          exact ⟨by rw [HV2.out]; rfl, PB2⟩
      · have q3' : (hk == k) = false := by simpa using q3
        have HV2 : Hid (res = false) := hid (by rw [Hres.out, q1, q2, decide_eq_false q3]; simp)
        go_enter Try.func54, Try.ntmps54
        go_wp2_with (first
          | (go_at_call 78; (rw [← hW0]; refine (Hid.out K27 _).mono ?_; rintro e w1 ⟨rfl, hb1⟩; obtain ⟨p0, p1, p2, p3, p4, p5, p6, p7, pb⟩ := FX.out w1 hb1))
          | (go_at_call 81; (refine (Hid.out K43 _ pb).mono ?_; rintro e w2 ⟨rfl, hb2⟩; obtain ⟨P0, P1, P2, P3, P4, P5, P6, P7, PB2⟩ := FX.out w2 (hb1.trans (hb2.mono hb1.size)))))
        go_ret
        exact ⟨by rw [HV2.out]; rfl, PB2⟩
end Go.Proofs.Ytenfgahedbeekaa

