/- The document's comparing of trees: declarations, trees. -/
import Derived.Test.YtdfambocenohgaaGreatDoorJAO
import Derived.Deep.CutBlock
import Derived.Deep.DeepCutAuto
import Derived.WalkMore
import Derived.Maps.AppendAt
namespace Go.Proofs.YtdfambocenohgaaGreatDoor
open Go.RowKit Go.Deep Go.Shelf
set_option linter.unusedVariables false
set_option linter.unusedSimpArgs false
def SamD (k1 k2 : Nat) (t : DT k1) (u : DT k2) : Prop := alikeD t.1 u.1 = true ∧ AllP (SamS k1 k2) t.2 u.2
def ChD (k1 k2 : Nat) (w : World) (t : DT k1) (u : DT k2) : Prop := ∃ C : Prop, (SamD k1 k2 t u ↔ alikeD t.1 u.1 = true ∧ C) ∧ (C → t.1.bn = u.1.bn) ∧ ∀ w', Below w.heap.size w w' → Calls Tryz.prog 64 #[.slice t.1.ba t.1.bn t.1.bc, .slice u.1.ba u.1.bn u.1.bc, .bool false] w' (DcP w' C)
theorem ne_dn {a b : DH} (h : ¬ a.name = b.name ∨ ¬ a.key = b.key ∨ ¬ a.value = b.value ∨ ¬ a.result = b.result ∨ ¬ a.params = b.params) : ¬ alikeD a b = true := fun e => by
  simp only [alikeD, Bool.and_eq_true, decide_eq_true_eq] at e
  obtain ⟨⟨⟨⟨⟨e1, e2⟩, e3⟩, e4⟩, e5⟩, e6⟩ := e
  rcases h with h | h | h | h | h
  · exact h e1
  · exact h e3
  · exact h e4
  · exact h e5
  · exact h e2
set_option maxRecDepth 100000 in
set_option maxHeartbeats 4000000 in
theorem rows41 (k1 k2 : Nat) (w : World) (a a' : Option Addr) (n n' c c' : Nat) (ts : List (DT k1)) (us : List (DT k2)) (hn : n = ts.length) (hn' : n' = us.length) (hb : n ≤ 1000000) (hb' : n' ≤ 1000000) (hl : LiesAt 7 a (dAt) ts) (hl' : LiesAt 7 a' (dAt) us) (hr : ∀ t ∈ ts, DRds k1 w t) (hr' : ∀ u ∈ us, DRds k2 w u) (hch : ∀ t ∈ ts, ∀ u ∈ us, ChD k1 k2 w t u) :
    Calls Tryz.prog 41 #[.slice a n c, .slice a' n' c', .bool false] w (DcP w (AllP (SamD k1 k2) ts us)) := by
  have HL := hid hl
  have HL' := hid hl'
  have HR := hid hr
  have HR' := hid hr'
  have HN := hid hn
  have HN' := hid hn'
  have HCH := hid hch
  have nI : (n : Int) ≤ 1000000 := by omega
  have nI' : (n' : Int) ≤ 1000000 := by omega
  have HP : Hid (ts.length = us.length → (∀ (j : Nat) (x : DT k1) (y : DT k2), j < n → ts[j]? = some x → us[j]? = some y → SamD k1 k2 x y) → AllP (SamD k1 k2) ts us) := hid (fun h1 h2 => ⟨h1, fun j x y e1 e2 => h2 j x y (by have := (List.getElem?_eq_some_iff.1 e1).1; omega) e1 e2⟩)
  have HQ : Hid (∀ (j : Nat) (x : DT k1) (y : DT k2), ts[j]? = some x → us[j]? = some y → ¬ SamD k1 k2 x y → ¬ AllP (SamD k1 k2) ts us) := hid (fun j x y e1 e2 h3 h => h3 (h.2 j x y e1 e2))
  have HZ : Hid (¬ n = n' → ¬ AllP (SamD k1 k2) ts us) := hid (fun h1 h => h1 (by rw [hn, hn']; exact h.1))
  obtain ⟨P, hP⟩ : ∃ P : Prop, P = AllP (SamD k1 k2) ts us := ⟨_, rfl⟩
  rw [← hP] at HP HQ HZ ⊢
  clear hl hl' hr hr' hn hn' hb hb' hch hP
  go_enter Tryz.func41, Tryz.ntmps41
  by_cases hnn : n = n'
  case neg =>
    have nb : ((n : Int) != (n' : Int)) = true := by simp; omega
    have HNN := hid hnn
    clear hnn
    go_wp2
    go_ret
    exact DcP.no (Below.refl _ _) (HZ.out HNN.out)
  subst hnn
  have nb : ((n : Int) != (n : Int)) = false := by simp
  go_wp2
  go_loopg [7] n (fun g x wr => ∃ i : Nat, i + g = n ∧ x = .int .i64 (i : Int) ∧ Below w.heap.size w wr ∧ ∀ (j : Nat) (x : DT k1) (y : DT k2), j < i → ts[j]? = some x → us[j]? = some y → SamD k1 k2 x y)
  case atStart => exact ⟨0, by omega, rfl, Below.refl _ _, fun j x y h => by omega⟩
  case round =>
    obtain ⟨i, hi, rfl, hbw, hpre⟩ := hrel
    have HB := hid hbw
    have HI := hid hi
    have HPR := hid hpre
    clear hpre
    cases gk with
    | zero =>
      have hin : i = n := by omega
      subst hin
      clear hi hbw
      go_wp2
      go_ret
      exact DcP.yes HB.out (HP.out (by rw [← HN.out, ← HN'.out]) HPR.out)
    | succ g =>
      have hil : (i : Int) < (n : Int) := by omega
      have hi0 : (0 : Int) ≤ (i : Int) := by omega
      have l1 := HN.out
      have l2 := HN'.out
      obtain ⟨t, ht⟩ : ∃ t, ts[i]? = some t := ⟨ts[i]'(by omega), List.getElem?_eq_getElem _⟩
      obtain ⟨u, hu⟩ : ∃ u, us[i]? = some u := ⟨us[i]'(by omega), List.getElem?_eq_getElem _⟩
      obtain ⟨b1, o1, ea1, hat1⟩ := HL.out i t ht
      obtain ⟨b2, o2, ea2, hat2⟩ := HL'.out i u hu
      subst ea1
      subst ea2
      have d1 := (HR.out t (List.mem_of_getElem? ht)).h
      have d2 := (HR'.out u (List.mem_of_getElem? hu)).h
      obtain ⟨C, hC, han, hcall⟩ := HCH.out t (List.mem_of_getElem? ht) u (List.mem_of_getElem? hu)
      have HST : Hid (SamD k1 k2 t u → ∀ (j : Nat) (x : DT k1) (y : DT k2), j < i + 1 → ts[j]? = some x → us[j]? = some y → SamD k1 k2 x y) := hid (fun h => allP_step HPR.out ht hu h)
      have HNO : Hid (¬ SamD k1 k2 t u → ¬ P) := hid (HQ.out i t u ht hu)
      rw [hC] at HST HNO
      simp only [dAt, Prod.mk.injEq] at hat1 hat2
      obtain ⟨q1, q2⟩ := hat1
      obtain ⟨q3, q4⟩ := hat2
      generalize t.1 = h1 at d1 hcall han q1 q2 HST HNO
      generalize u.1 = h2 at d2 hcall han q3 q4 HST HNO
      clear hC ht hu l1 l2 HPR hi
      have e1 := d1.below (Nat.le_refl _) hbw
      have e2 := d2.below (Nat.le_refl _) hbw
      clear d1 d2
      obtain ⟨sort1, hb1, ho1, name1, pa1, pn1, pc1, key1, value1, result1, ba1, bn1, bc1, pos1, params1⟩ := h1
      obtain ⟨sort2, hb2, ho2, name2, pa2, pn2, pc2, key2, value2, result2, ba2, bn2, bc2, pos2, params2⟩ := h2
      simp only at q1 q2 q3 q4 hcall han
      have HAN := hid han
      clear han
      subst q1 q2 q3 q4
      have E1 := hid e1
      have E2 := hid e2
      have x0 := e1.c0
      have y0 := e2.c0
      have x1 := e1.c1
      have y1 := e2.c1
      have x2 := e1.c2
      have y2 := e2.c2
      have x3 := e1.c3
      have y3 := e2.c3
      have x4 := e1.c4
      have y4 := e2.c4
      have x5 := e1.c5
      have y5 := e2.c5
      have x6 := e1.c6
      have y6 := e2.c6
      simp only at x0 x1 x2 x3 x4 x5 x6 y0 y1 y2 y3 y4 y5 y6
      have HCALL := hid hcall
      obtain ⟨wo, hwo⟩ : ∃ wo, wo = wr := ⟨_, rfl⟩
      subst hwo
      clear e1 e2 hbw hcall
      go_upto_region 6 with fail
      go_cut [8, 9] from 22 to 29 (fun s6 s7 wx => ∃ X Y : Nat, s6 = .pointer (some ⟨X, 0, none⟩) ∧ s7 = .pointer (some ⟨Y, 0, none⟩) ∧ wx.heap[X]? = some (.cells #[.string name1, .slice pa1 pn1 pc1, .string key1, .string value1, .string result1, .slice ba1 bn1 bc1, .int .i64 pos1] 52 (0, 0)) ∧ wx.heap[Y]? = some (.cells #[.string name2, .slice pa2 pn2 pc2, .string key2, .string value2, .string result2, .slice ba2 bn2 bc2, .int .i64 pos2] 52 (0, 0)) ∧ Below wo.heap.size wo wx)
      case first =>
        go_region_held3 (fun v => v.cell? ⟨hb1, o1 + i * 7, none⟩ = some (.string name1) ∧ v.cell? ⟨hb1, o1 + i * 7 + 1, none⟩ = some (.slice pa1 pn1 pc1) ∧ v.cell? ⟨hb1, o1 + i * 7 + 2, none⟩ = some (.string key1) ∧ v.cell? ⟨hb1, o1 + i * 7 + 3, none⟩ = some (.string value1) ∧ v.cell? ⟨hb1, o1 + i * 7 + 4, none⟩ = some (.string result1) ∧ v.cell? ⟨hb1, o1 + i * 7 + 5, none⟩ = some (.slice ba1 bn1 bc1) ∧ v.cell? ⟨hb1, o1 + i * 7 + 6, none⟩ = some (.int .i64 pos1) ∧ v.cell? ⟨hb2, o2 + i * 7, none⟩ = some (.string name2) ∧ v.cell? ⟨hb2, o2 + i * 7 + 1, none⟩ = some (.slice pa2 pn2 pc2) ∧ v.cell? ⟨hb2, o2 + i * 7 + 2, none⟩ = some (.string key2) ∧ v.cell? ⟨hb2, o2 + i * 7 + 3, none⟩ = some (.string value2) ∧ v.cell? ⟨hb2, o2 + i * 7 + 4, none⟩ = some (.string result2) ∧ v.cell? ⟨hb2, o2 + i * 7 + 5, none⟩ = some (.slice ba2 bn2 bc2) ∧ v.cell? ⟨hb2, o2 + i * 7 + 6, none⟩ = some (.int .i64 pos2)) (first | go_keep) (fail)
        all_goals (go_wp2_with fail)
        all_goals go_meet
        · exact ⟨_, _, rfl, rfl, (two_al _ _ _ _).1, (two_al _ _ _ _).2.1, (two_al _ _ _ _).2.2⟩
        · exact ⟨_, _, rfl, rfl, (two_al _ _ _ _).2.1, (two_al _ _ _ _).1, (two_al _ _ _ _).2.2⟩
      case rest =>
        obtain ⟨X, Y, rfl, rfl, mX, mY, bx⟩ := hcut
        have BX := hid (HB.out.trans (bx.mono HB.out.size))
        have HBX := hid bx
        have CB := hid (fun (V : World) (hV : Below wc.heap.size wc V) => (by
          have g1 := (hV.block _ (heap_lt mX)).trans mX
          have g2 := (hV.block _ (heap_lt mY)).trans mY
          exact ⟨⟨cellT g1 0, cellT g1 1, cellT g1 2, cellT g1 3, cellT g1 4, cellT g1 5, cellT g1 6⟩, cellT g2 0, cellT g2 1, cellT g2 2, cellT g2 3, cellT g2 4, cellT g2 5, cellT g2 6⟩ : (V.cell? ⟨X, 0, none⟩ = some (.string name1) ∧ V.cell? ⟨X, 1, none⟩ = some (.slice pa1 pn1 pc1) ∧ V.cell? ⟨X, 2, none⟩ = some (.string key1) ∧ V.cell? ⟨X, 3, none⟩ = some (.string value1) ∧ V.cell? ⟨X, 4, none⟩ = some (.string result1) ∧ V.cell? ⟨X, 5, none⟩ = some (.slice ba1 bn1 bc1) ∧ V.cell? ⟨X, 6, none⟩ = some (.int .i64 pos1)) ∧ V.cell? ⟨Y, 0, none⟩ = some (.string name2) ∧ V.cell? ⟨Y, 1, none⟩ = some (.slice pa2 pn2 pc2) ∧ V.cell? ⟨Y, 2, none⟩ = some (.string key2) ∧ V.cell? ⟨Y, 3, none⟩ = some (.string value2) ∧ V.cell? ⟨Y, 4, none⟩ = some (.string result2) ∧ V.cell? ⟨Y, 5, none⟩ = some (.slice ba2 bn2 bc2) ∧ V.cell? ⟨Y, 6, none⟩ = some (.int .i64 pos2)))
        clear x0 x1 x2 x3 x4 x5 x6 y0 y1 y2 y3 y4 y5 y6 mX mY bx HB
        obtain ⟨⟨x0, x1, x2, x3, x4, x5, x6⟩, y0, y1, y2, y3, y4, y5, y6⟩ := CB.out wc (Below.refl _ _)
        by_cases hq : name1 = name2
        case neg =>
          have n1 := bneL hq
          have HQQ := hid hq
          clear hq
          go_wp2
          go_ret
          exact DcP.no BX.out (HNO.out (fun h => ne_dn (.inl HQQ.out) h.1))
        subst hq
        have n_name : (name1.toList == name1.toList) = true := by simp
        by_cases hq : key1 = key2
        case neg =>
          have n1 := bneL hq
          have HQQ := hid hq
          clear hq
          go_wp2
          go_ret
          exact DcP.no BX.out (HNO.out (fun h => ne_dn (.inr (.inl HQQ.out)) h.1))
        subst hq
        have n_key : (key1.toList == key1.toList) = true := by simp
        by_cases hq : value1 = value2
        case neg =>
          have n1 := bneL hq
          have HQQ := hid hq
          clear hq
          go_wp2
          go_ret
          exact DcP.no BX.out (HNO.out (fun h => ne_dn (.inr (.inr (.inl HQQ.out))) h.1))
        subst hq
        have n_value : (value1.toList == value1.toList) = true := by simp
        by_cases hq : result1 = result2
        case neg =>
          have n1 := bneL hq
          have HQQ := hid hq
          clear hq
          go_wp2
          go_ret
          exact DcP.no BX.out (HNO.out (fun h => ne_dn (.inr (.inr (.inr (.inl HQQ.out)))) h.1))
        subst hq
        have n_result : (result1.toList == result1.toList) = true := by simp
        have pnI1 : (pn1 : Int) ≤ 1000000 := by have : pn1 ≤ 1000000 := E1.out.pb; omega
        have pnI2 : (pn2 : Int) ≤ 1000000 := by have : pn2 ≤ 1000000 := E2.out.pb; omega
        have NL1 : Hid (pn1 = params1.length) := hid E1.out.pl
        have NL2 : Hid (pn2 = params2.length) := hid E2.out.pl
        have NR1 := hid (PLs.below (E1.out.pr) (Nat.le_refl _) HBX.out)
        have NR2 := hid (PLs.below (E2.out.pr) (Nat.le_refl _) HBX.out)
        simp only at NR1 NR2
        by_cases hq : pn1 = pn2
        case neg =>
          have n1 : ((pn1 : Int) != (pn2 : Int)) = true := by simp; omega
          have HQQ : Hid (¬ params1 = params2) := hid (fun e => hq (by rw [NL1.out, NL2.out, e]))
          clear hq E1 E2
          go_wp2
          go_ret
          exact DcP.no BX.out (HNO.out (fun h => ne_dn (.inr (.inr (.inr (.inr HQQ.out)))) h.1))
        subst hq
        have n_nn : ((pn1 : Int) != (pn1 : Int)) = false := by simp
        have K := hid (HCALL.out wc BX.out)
        clear E1 E2 HCALL
        go_upto_region 9 with (go_at_call 64; (refine (Hid.out K).mono ?_; rintro e w4 ⟨hb4, b4, rfl, hi4⟩; have HC := hid hb4; have HI4 := hid hi4; clear x0 x1 x2 x3 x4 x5 x6 y0 y1 y2 y3 y4 y5 y6 hb4 hi4; cases b4))
        · go_ret
          exact DcP.no (BX.out.trans (HC.out.mono BX.out.size)) (HNO.out (fun h => by have := HI4.out.2 h.2; cases this))
        have HCC : Hid C := hid (HI4.out.1 (by first | rfl | trivial))
        clear HI4 K n_name n_key n_value n_result n_nn
        obtain ⟨⟨x0, x1, x2, x3, x4, x5, x6⟩, y0, y1, y2, y3, y4, y5, y6⟩ := CB.out w4 HC.out
        go_wp2
        go_loopg [10] pn1 (fun g2 x wr2 => ∃ i2 : Nat, i2 + g2 = pn1 ∧ x = .int .i64 (i2 : Int) ∧ params1.take i2 = params2.take i2 ∧ Below wc.heap.size wc wr2)
        case atStart => exact ⟨0, by omega, rfl, by simp, HC.out⟩
        case round =>
          obtain ⟨i2, hi2, rfl, htk, hb3⟩ := hrel
          clear x0 x1 x2 x3 x4 x5 x6 y0 y1 y2 y3 y4 y5 y6
          obtain ⟨⟨x0, x1, x2, x3, x4, x5, x6⟩, y0, y1, y2, y3, y4, y5, y6⟩ := CB.out wr hb3
          have H3 := hid hb3
          cases gk with
          | zero =>
            have hin : i2 = pn1 := by omega
            subst hin
            have hnm : params1 = params2 := by rwa [List.take_of_length_le (by rw [NL1.out]; exact Nat.le_refl _), List.take_of_length_le (by rw [NL2.out]; exact Nat.le_refl _)] at htk
            have HNM := hid hnm
            clear hb3 htk hnm hi2
            go_wp2
            go_roundg g
            case measure => omega
            case rel => exact ⟨i + 1, by have := HI.out; omega, by go_num, BX.out.trans (H3.out.mono BX.out.size), HST.out ⟨by simp [alikeD, HNM.out, HAN.out HCC.out], HCC.out⟩⟩
          | succ g2 =>
            obtain ⟨s, hs⟩ : ∃ s, params1[i2]? = some s := ⟨params1[i2]'(by have := NL1.out; omega), List.getElem?_eq_getElem _⟩
            obtain ⟨s', hs'⟩ : ∃ s, params2[i2]? = some s := ⟨params2[i2]'(by have := NL2.out; omega), List.getElem?_eq_getElem _⟩
            obtain ⟨p1, u1, rfl, z1, z2⟩ := (NR1.out.below (Nat.le_refl _) hb3) i2 s hs
            obtain ⟨p2, u2, rfl, z3, z4⟩ := (NR2.out.below (Nat.le_refl _) hb3) i2 s' hs'
            obtain ⟨s1, s2⟩ := s
            obtain ⟨t1, t2⟩ := s'
            simp only at z1 z2 z3 z4
            have hiI : (i2 : Int) < (pn1 : Int) := by omega
            have hi0' : (0 : Int) ≤ (i2 : Int) := by omega
            have HI2 := hid hi2
            by_cases he : (s1, s2) = (t1, t2)
            · have HT3 := hid (eq_take (by rw [← NL1.out, ← NL2.out]) hs hs' htk he)
              obtain ⟨rfl, rfl⟩ := Prod.mk.inj he
              have nbs : (s1.toList == s1.toList) = true := by simp
              have nbs2 : (s2.toList == s2.toList) = true := by simp
              clear hb3 hs hs' htk hi2 he
              go_wp2
              go_quiet (fail)
              go_wp2
              go_roundg g2
              case measure => omega
              case rel => exact ⟨i2 + 1, by have := HI2.out; omega, by go_num, HT3.out, bel_drewN H3.out _⟩
            · have HT3 : Hid (¬ params1 = params2) := hid (fun e => he (by rw [e, hs'] at hs; injection hs with hs; exact hs.symm))
              have hor : (s1.toList == t1.toList) = false ∨ ((s1.toList == t1.toList) = true ∧ (s2.toList == t2.toList) = false) := by
                by_cases h : s1 = t1
                · exact .inr ⟨beqL h, bneL (fun h2 => he (by rw [h, h2]))⟩
                · exact .inl (bneL h)
              clear hb3 hs hs' htk he hi2
              rcases hor with nbs | ⟨nbs, nbs2⟩
              · go_wp2
                go_quiet (fail)
                go_wp2
                go_ret
                exact DcP.no (BX.out.trans ((bel_drewN H3.out _).mono BX.out.size)) (HNO.out (fun h => ne_dn (.inr (.inr (.inr (.inr HT3.out)))) h.1))
              · go_wp2
                go_quiet (fail)
                go_wp2
                go_ret
                exact DcP.no (BX.out.trans ((bel_drewN H3.out _).mono BX.out.size)) (HNO.out (fun h => ne_dn (.inr (.inr (.inr (.inr HT3.out)))) h.1))
theorem chD (k1 k2 : Nat) (w : World) (t : DT k1) (u : DT k2) (d : DRds k1 w t) (e : DRds k2 w u) : ChD k1 k2 w t u :=
  ⟨AllP (SamS k1 k2) t.2 u.2, Iff.rfl, fun h => by rw [d.n, e.n]; exact h.1, fun w' hw => rows64 k1 k2 w' _ _ _ _ _ _ t.2 u.2 d.n e.n d.h.bb e.h.bb d.l e.l (fun x hx => SRds.below k1 (d.e x hx) (Nat.le_refl _) hw) (fun x hx => SRds.below k2 (e.e x hx) (Nat.le_refl _) hw) (fun x hx y hy => chS k1 k2 w' x y (SRds.below k1 (d.e x hx) (Nat.le_refl _) hw) (SRds.below k2 (e.e y hy) (Nat.le_refl _) hw))⟩
theorem decls41 (k1 k2 : Nat) (w : World) (s s' : ByteArray) (a a' : Option Addr) (n n' c c' : Nat) (ts : List (DT k1)) (us : List (DT k2)) (d : DLs k1 w s a n ts) (e : DLs k2 w s' a' n' us) (hb : n ≤ 1000000) (hb' : n' ≤ 1000000) :
    Calls Tryz.prog 41 #[.slice a n c, .slice a' n' c', .bool false] w (DcP w (AllP (SamD k1 k2) ts us)) :=
  rows41 k1 k2 w a a' n n' c c' ts us d.n e.n hb hb' d.l e.l d.e e.e (fun x hx y hy => chD k1 k2 w x y (d.e x hx) (e.e y hy))
def SamT {k1 k2 : Nat} (t : TT k1) (u : TT k2) : Prop := AllP (SamD k1 k2) t.rs u.rs ∧ AllP (SamD k1 k2) t.ms u.ms ∧ AllP (SamD k1 k2) t.fs u.fs ∧ AllP (SamD k1 k2) t.es u.es
set_option maxRecDepth 100000 in
set_option maxHeartbeats 4000000 in
theorem refAlike_any (k1 k2 : Nat) (w : World) (t : TT k1) (u : TT k2) (d : TVs k1 w t) (e : TVs k2 w u) : Calls Tryz.prog 19 #[.agg t.h.cs, .agg u.h.cs, .bool false] w (DcP w (SamT t u)) := by
  obtain ⟨A, hA⟩ : ∃ A, A = w.alloc (.cells t.h.cs 24) := ⟨_, rfl⟩
  obtain ⟨W, hW⟩ : ∃ W, W = A.alloc (.cells u.h.cs 24) := ⟨_, rfl⟩
  obtain ⟨X, hX⟩ : ∃ X, X = w.heap.size := ⟨_, rfl⟩
  have zA : A.heap.size = X + 1 := by rw [hA, hX]; simp
  have bA : Below w.heap.size w A := by rw [hA]; exact (Below.refl _ w).alloc (Nat.le_refl _) _
  have bW : Below w.heap.size w W := by rw [hW]; exact bA.alloc bA.size _
  have m1 : W.heap[X]? = some (.cells t.h.cs 24 (0, 0)) := by rw [hW, Below.heap_alloc _ _ _ (by omega), hA, hX]; exact heap_alloc_new w _
  have m2 : W.heap[X + 1]? = some (.cells u.h.cs 24 (0, 0)) := by rw [hW, ← zA]; exact heap_alloc_new A _
  have KA := hid (fun (V : World) (hV : Below w.heap.size w V) => decls41 k1 k2 V wRec wRec t.h.ra u.h.ra t.h.rn u.h.rn t.h.rc u.h.rc t.rs u.rs (d.rs.below (Nat.le_refl _) hV) (e.rs.below (Nat.le_refl _) hV) d.rb e.rb)
  have KB := hid (fun (V : World) (hV : Below w.heap.size w V) => decls41 k1 k2 V wMap wMap t.h.ma u.h.ma t.h.mn u.h.mn t.h.mc u.h.mc t.ms u.ms (d.ms.below (Nat.le_refl _) hV) (e.ms.below (Nat.le_refl _) hV) d.mb e.mb)
  have KC := hid (fun (V : World) (hV : Below w.heap.size w V) => decls41 k1 k2 V wFn wFn t.h.fa u.h.fa t.h.fn u.h.fn t.h.fc u.h.fc t.fs u.fs (d.fs.below (Nat.le_refl _) hV) (e.fs.below (Nat.le_refl _) hV) d.fb e.fb)
  have KD := hid (fun (V : World) (hV : Below w.heap.size w V) => decls41 k1 k2 V wOn wOn t.h.ea u.h.ea t.h.en u.h.en t.h.ec u.h.ec t.es u.es (d.es.below (Nat.le_refl _) hV) (e.es.below (Nat.le_refl _) hV) d.eb e.eb)
  obtain ⟨P, hP⟩ : ∃ P, P = SamT t u := ⟨_, rfl⟩
  have HP : Hid (P ↔ AllP (SamD k1 k2) t.rs u.rs ∧ AllP (SamD k1 k2) t.ms u.ms ∧ AllP (SamD k1 k2) t.fs u.fs ∧ AllP (SamD k1 k2) t.es u.es) := hid (by rw [hP]; exact Iff.rfl)
  rw [← hP]
  generalize AllP (SamD k1 k2) t.rs u.rs = P1 at *
  generalize AllP (SamD k1 k2) t.ms u.ms = P2 at *
  generalize AllP (SamD k1 k2) t.fs u.fs = P3 at *
  generalize AllP (SamD k1 k2) t.es u.es = P4 at *
  have CB := hid (fun (V : World) (hV : Below W.heap.size W V) => (show (V.cell? ⟨X, 0, none⟩ = some (.slice t.h.ra t.h.rn t.h.rc) ∧ V.cell? ⟨X, 1, none⟩ = some (.slice t.h.ma t.h.mn t.h.mc) ∧ V.cell? ⟨X, 2, none⟩ = some (.slice t.h.fa t.h.fn t.h.fc) ∧ V.cell? ⟨X, 3, none⟩ = some (.slice t.h.ea t.h.en t.h.ec)) ∧ V.cell? ⟨X + 1, 0, none⟩ = some (.slice u.h.ra u.h.rn u.h.rc) ∧ V.cell? ⟨X + 1, 1, none⟩ = some (.slice u.h.ma u.h.mn u.h.mc) ∧ V.cell? ⟨X + 1, 2, none⟩ = some (.slice u.h.fa u.h.fn u.h.fc) ∧ V.cell? ⟨X + 1, 3, none⟩ = some (.slice u.h.ea u.h.en u.h.ec) from by
    have g1 := (hV.block _ (heap_lt m1)).trans m1
    have g2 := (hV.block _ (heap_lt m2)).trans m2
    exact ⟨⟨cellT g1 0, cellT g1 1, cellT g1 2, cellT g1 3⟩, cellT g2 0, cellT g2 1, cellT g2 2, cellT g2 3⟩))
  have BW := hid bW
  have K1 := hid (KA.out W bW)
  simp only [TH.cs] at hA hW ⊢
  subst hX
  obtain ⟨⟨x0, x1, x2, x3⟩, y0, y1, y2, y3⟩ := CB.out W (Below.refl _ _)
  clear d e zA bA bW m1 m2 hP KA
  go_enter Tryz.func19, Tryz.ntmps19
  go_upto_region 1 with fail
  rw [← hA, ← hW]
  clear hA hW
  go_wp2_with (first
    | (have hno := K4; go_at_call 41; refine (Hid.out K4).mono ?_; rintro e v4 ⟨hb4, b4, rfl, hi4⟩; have HB4 := hid (HB3.out.trans (hb4.mono HB3.out.size)); have HI4 := hid hi4; clear hb4 hi4 K4 x0 x1 x2 x3 y0 y1 y2 y3; cases b4)
    | (have hno := K3; go_at_call 41; refine (Hid.out K3).mono ?_; rintro e v3 ⟨hb3, b3, rfl, hi3⟩; have HB3 := hid (HB2.out.trans (hb3.mono HB2.out.size)); have HI3 := hid hi3; have K4 := hid (KD.out v3 (BW.out.trans (HB3.out.mono BW.out.size))); clear hb3 hi3 K3 x0 x1 x2 x3 y0 y1 y2 y3; obtain ⟨⟨x0, x1, x2, x3⟩, y0, y1, y2, y3⟩ := CB.out v3 HB3.out; cases b3)
    | (have hno := K2; go_at_call 41; refine (Hid.out K2).mono ?_; rintro e v2 ⟨hb2, b2, rfl, hi2⟩; have HB2 := hid (HB1.out.trans (hb2.mono HB1.out.size)); have HI2 := hid hi2; have K3 := hid (KC.out v2 (BW.out.trans (HB2.out.mono BW.out.size))); clear hb2 hi2 K2 x0 x1 x2 x3 y0 y1 y2 y3; obtain ⟨⟨x0, x1, x2, x3⟩, y0, y1, y2, y3⟩ := CB.out v2 HB2.out; cases b2)
    | (go_at_call 41; refine (Hid.out K1).mono ?_; rintro e v1 ⟨hb1, b1, rfl, hi1⟩; have HB1 := hid hb1; have HI1 := hid hi1; have K2 := hid (KB.out v1 (BW.out.trans (HB1.out.mono BW.out.size))); clear hb1 hi1 K1 x0 x1 x2 x3 y0 y1 y2 y3; obtain ⟨⟨x0, x1, x2, x3⟩, y0, y1, y2, y3⟩ := CB.out v1 HB1.out; cases b1))
  · go_ret
    exact DcP.no (BW.out.trans (HB1.out.mono BW.out.size)) (fun h => by have := HI1.out.2 (HP.out.1 h).1; cases this)
  · go_ret
    exact DcP.no (BW.out.trans (HB2.out.mono BW.out.size)) (fun h => by have := HI2.out.2 (HP.out.1 h).2.1; cases this)
  · go_ret
    exact DcP.no (BW.out.trans (HB3.out.mono BW.out.size)) (fun h => by have := HI3.out.2 (HP.out.1 h).2.2.1; cases this)
  · go_ret
    exact DcP.no (BW.out.trans (HB4.out.mono BW.out.size)) (fun h => by have := HI4.out.2 (HP.out.1 h).2.2.2; cases this)
  · go_ret
    exact DcP.yes (BW.out.trans (HB4.out.mono BW.out.size)) (HP.out.2 ⟨HI1.out.1 (by first | rfl | trivial), HI2.out.1 (by first | rfl | trivial), HI3.out.1 (by first | rfl | trivial), HI4.out.1 (by first | rfl | trivial)⟩)
end Go.Proofs.YtdfambocenohgaaGreatDoor

namespace Go.Proofs.YtdfambocenohgaaGreatDoor
open Go.RowKit Go.Deep
set_option linter.unusedVariables false
set_option linter.unusedSimpArgs false
attribute [local go_sem] as58_58 as105_58 as101_58 as67_58 as58_105 as105_105 as101_105 as67_105 as58_101 as105_101 as101_101 as67_101 as58_67 as105_67 as101_67 as67_67
def alikeT (a b : TH) : Bool := decide (a.rn = b.rn) && decide (a.mn = b.mn) && decide (a.fn = b.fn) && decide (a.en = b.en)
set_option maxRecDepth 100000 in
set_option maxHeartbeats 1000000 in
theorem alikeT_any (w : World) (a b : TH) (da : THr w a) (db : THr w b) : Calls Tryz.prog 73 #[.pointer (some ⟨a.b, a.o, none⟩), .pointer (some ⟨b.b, b.o, none⟩)] w fun e w' => e = .returned (.bool (alikeT a b)) ∧ ∃ m, w' = w.drewN m := by
  have x0 := da.c0
  have y0 := db.c0
  have x1 := da.c1
  have y1 := db.c1
  have x2 := da.c2
  have y2 := db.c2
  have x3 := da.c3
  have y3 := db.c3
  have z1 : (a.rn : Int) ≤ 1000000 := by have := da.rb; omega
  have z2 : (b.rn : Int) ≤ 1000000 := by have := db.rb; omega
  have z3 : (a.mn : Int) ≤ 1000000 := by have := da.mb; omega
  have z4 : (b.mn : Int) ≤ 1000000 := by have := db.mb; omega
  have z5 : (a.fn : Int) ≤ 1000000 := by have := da.fb; omega
  have z6 : (b.fn : Int) ≤ 1000000 := by have := db.fb; omega
  have z7 : (a.en : Int) ≤ 1000000 := by have := da.eb; omega
  have z8 : (b.en : Int) ≤ 1000000 := by have := db.eb; omega
  unfold alikeT
  clear da db
  go_enter Tryz.func73, Tryz.ntmps73
  go_wp2_with fail
  try dsimp only [List.append]
  refine wp_region_quiet_lit (by kernel_rfl) (by kernel_rfl) ?_
  by_cases h0 : a.rn = b.rn
  case neg =>
    have g0 : ¬ (a.rn : Int) = (b.rn : Int) := by omega
    have k0 : ((a.rn : Int) == (b.rn : Int)) = false := by simpa using g0
    have j0 : (a.rn == b.rn) = false := by simpa using h0
    repeat (go_big_quiet_step (fail))
    refine wpQuiet_nil ?_
    intro _ hw'
    obtain ⟨nq, rfl⟩ := hw'
    go_wp2_with fail
    go_ret
    exact ⟨ret_bool (by simp_all), nq, rfl⟩
  have g0 : (a.rn : Int) = (b.rn : Int) := by omega
  have k0 : ((a.rn : Int) == (b.rn : Int)) = true := by simpa using g0
  by_cases h1 : a.mn = b.mn
  case neg =>
    have g1 : ¬ (a.mn : Int) = (b.mn : Int) := by omega
    have k1 : ((a.mn : Int) == (b.mn : Int)) = false := by simpa using g1
    have j1 : (a.mn == b.mn) = false := by simpa using h1
    repeat (go_big_quiet_step (fail))
    refine wpQuiet_nil ?_
    intro _ hw'
    obtain ⟨nq, rfl⟩ := hw'
    go_wp2_with fail
    go_ret
    exact ⟨ret_bool (by simp_all), nq, rfl⟩
  have g1 : (a.mn : Int) = (b.mn : Int) := by omega
  have k1 : ((a.mn : Int) == (b.mn : Int)) = true := by simpa using g1
  by_cases h2 : a.fn = b.fn
  case neg =>
    have g2 : ¬ (a.fn : Int) = (b.fn : Int) := by omega
    have k2 : ((a.fn : Int) == (b.fn : Int)) = false := by simpa using g2
    have j2 : (a.fn == b.fn) = false := by simpa using h2
    repeat (go_big_quiet_step (fail))
    refine wpQuiet_nil ?_
    intro _ hw'
    obtain ⟨nq, rfl⟩ := hw'
    go_wp2_with fail
    go_ret
    exact ⟨ret_bool (by simp_all), nq, rfl⟩
  have g2 : (a.fn : Int) = (b.fn : Int) := by omega
  have k2 : ((a.fn : Int) == (b.fn : Int)) = true := by simpa using g2
  by_cases h3 : a.en = b.en
  case neg =>
    have g3 : ¬ (a.en : Int) = (b.en : Int) := by omega
    have k3 : ((a.en : Int) == (b.en : Int)) = false := by simpa using g3
    have j3 : (a.en == b.en) = false := by simpa using h3
    repeat (go_big_quiet_step (fail))
    refine wpQuiet_nil ?_
    intro _ hw'
    obtain ⟨nq, rfl⟩ := hw'
    go_wp2_with fail
    go_ret
    exact ⟨ret_bool (by simp_all), nq, rfl⟩
  have g3 : (a.en : Int) = (b.en : Int) := by omega
  have k3 : ((a.en : Int) == (b.en : Int)) = true := by simpa using g3
  repeat (go_big_quiet_step (fail))
  refine wpQuiet_nil ?_
  intro _ hw'
  obtain ⟨nq, rfl⟩ := hw'
  go_wp2_with fail
  go_ret
  exact ⟨ret_bool (by simp_all), nq, rfl⟩
def alikeP : Part → Part → Bool
  | .inl (.inl a), .inl (.inl b) => alikeT a b
  | .inl (.inr a), .inl (.inr b) => alikeD a b
  | .inr (.inl a), .inr (.inl b) => alikeS a b
  | .inr (.inr a), .inr (.inr b) => alikeE a b
  | _, _ => false
theorem drewN_below {w w' : World} (h : ∃ m, w' = w.drewN m) : Below w.heap.size w w' := by
  obtain ⟨m, rfl⟩ := h
  exact bel_drewN (Below.refl _ w) m
set_option maxRecDepth 100000 in
set_option maxHeartbeats 2000000 in
theorem alike_any (w : World) (p q : Part) (d1 : PRds w p) (d2 : PRds w q) : Calls Tryz.prog 45 #[labP p, labP q] w fun e w' => e = .returned (.bool (alikeP p q)) ∧ Below w.heap.size w w' := by
  rcases p with (a | a) | (a | a) <;> rcases q with (b | b) | (b | b)
  · have K := hid (alikeT_any w a b d1 d2)
    clear d1 d2
    simp only [labP, alikeP]
    go_enter Tryz.func45, Tryz.ntmps45
    go_wp2_with (go_at_call 73; (refine (Hid.out K).mono ?_; rintro e w1 ⟨rfl, hb⟩; have HB := hid (drewN_below hb); clear hb))
    go_ret
    exact ⟨rfl, HB.out⟩
  · clear d1 d2
    simp only [labP, alikeP]
    go_enter Tryz.func45, Tryz.ntmps45
    go_wp2
    go_ret
    exact ⟨rfl, Below.refl _ _⟩
  · clear d1 d2
    simp only [labP, alikeP]
    go_enter Tryz.func45, Tryz.ntmps45
    go_wp2
    go_ret
    exact ⟨rfl, Below.refl _ _⟩
  · clear d1 d2
    simp only [labP, alikeP]
    go_enter Tryz.func45, Tryz.ntmps45
    go_wp2
    go_ret
    exact ⟨rfl, Below.refl _ _⟩
  · clear d1 d2
    simp only [labP, alikeP]
    go_enter Tryz.func45, Tryz.ntmps45
    go_wp2
    go_ret
    exact ⟨rfl, ((Below.refl _ w).alloc (Nat.le_refl _) _).alloc (by simp) _⟩
  · obtain ⟨W, hW⟩ : ∃ W, W = (w.alloc (.cells #[.string a.sort, .pointer (some ⟨a.b, a.o, none⟩)] 105)).alloc (.cells #[.string b.sort, .pointer (some ⟨b.b, b.o, none⟩)] 105) := ⟨_, rfl⟩
    have hbW : Below w.heap.size w W := by rw [hW]; exact ((Below.refl _ w).alloc (Nat.le_refl _) _).alloc (by simp) _
    have K := hid (alikeD_any W a b (DHr.below d1 (Nat.le_refl _) hbW) (DHr.below d2 (Nat.le_refl _) hbW))
    have HW := hid hbW
    clear d1 d2 hbW
    simp only [labP, alikeP]
    go_enter Tryz.func45, Tryz.ntmps45
    go_wp2_with (go_at_call 74; (rw [← hW]; refine (Hid.out K).mono ?_; rintro e w1 ⟨rfl, hb⟩; have HB := hid (HW.out.trans ((drewN_below hb).mono HW.out.size)); clear hb))
    go_ret
    exact ⟨rfl, HB.out⟩
  · clear d1 d2
    simp only [labP, alikeP]
    go_enter Tryz.func45, Tryz.ntmps45
    go_wp2
    go_ret
    exact ⟨rfl, ((Below.refl _ w).alloc (Nat.le_refl _) _).alloc (by simp) _⟩
  · clear d1 d2
    simp only [labP, alikeP]
    go_enter Tryz.func45, Tryz.ntmps45
    go_wp2
    go_ret
    exact ⟨rfl, ((Below.refl _ w).alloc (Nat.le_refl _) _).alloc (by simp) _⟩
  · clear d1 d2
    simp only [labP, alikeP]
    go_enter Tryz.func45, Tryz.ntmps45
    go_wp2
    go_ret
    exact ⟨rfl, Below.refl _ _⟩
  · clear d1 d2
    simp only [labP, alikeP]
    go_enter Tryz.func45, Tryz.ntmps45
    go_wp2
    go_ret
    exact ⟨rfl, Below.refl _ _⟩
  · have K := hid (alikeS_any w a b d1 d2)
    clear d1 d2
    simp only [labP, alikeP]
    go_enter Tryz.func45, Tryz.ntmps45
    go_wp2_with (go_at_call 75; (refine (Hid.out K).mono ?_; rintro e w1 ⟨rfl, hb⟩; have HB := hid (drewN_below hb); clear hb))
    go_ret
    exact ⟨rfl, HB.out⟩
  · clear d1 d2
    simp only [labP, alikeP]
    go_enter Tryz.func45, Tryz.ntmps45
    go_wp2
    go_ret
    exact ⟨rfl, Below.refl _ _⟩
  · clear d1 d2
    simp only [labP, alikeP]
    go_enter Tryz.func45, Tryz.ntmps45
    go_wp2
    go_ret
    exact ⟨rfl, Below.refl _ _⟩
  · clear d1 d2
    simp only [labP, alikeP]
    go_enter Tryz.func45, Tryz.ntmps45
    go_wp2
    go_ret
    exact ⟨rfl, Below.refl _ _⟩
  · clear d1 d2
    simp only [labP, alikeP]
    go_enter Tryz.func45, Tryz.ntmps45
    go_wp2
    go_ret
    exact ⟨rfl, Below.refl _ _⟩
  · have K := hid (alikeE_any w a b d1 d2)
    clear d1 d2
    simp only [labP, alikeP]
    go_enter Tryz.func45, Tryz.ntmps45
    go_wp2_with (go_at_call 76; (refine (Hid.out K).mono ?_; rintro e w1 ⟨rfl, hb⟩; have HB := hid (drewN_below hb); clear hb))
    go_ret
    exact ⟨rfl, HB.out⟩
end Go.Proofs.YtdfambocenohgaaGreatDoor

namespace Go.Proofs.YtdfambocenohgaaGreatDoor
open Go.RowKit Go.Deep
set_option linter.unusedVariables false
set_option linter.unusedSimpArgs false
attribute [local go_sem] Oper.semAt_some
theorem infoE20 : (Tryz.prog.info? 20).map (fun i => (i.zero, i.size, i.bytes)) = some (some .nilIface, 1, 16) := by kernel_rfl
/- A row of parts that a call owns. -/
def OwR (B : Nat) (w : World) (v : Value) (xs : List Value) : Prop := w.ownsRow B 20 1 v xs.length xs
theorem OwR.rd {B : Nat} {w : World} {v : Value} {xs : List Value} (h : OwR B w v xs) : ∃ a c, v = .slice a xs.length c ∧ NRd w a xs ∧ xs.length ≤ c := by
  rcases h.2 with ⟨rfl, h2⟩ | ⟨g, cap, cur, rfl, h3, h4, h5, h6, h7, h8⟩
  · have h2 : xs.length = 0 := h2
    exact ⟨none, 0, by rw [h2], ⟨fun j u e => (by have := (List.getElem?_eq_some_iff.1 e).1; omega), by omega⟩⟩
  · refine ⟨_, cap, rfl, ⟨fun j u e => ⟨g, 0, rfl, ?_⟩, h5⟩⟩
    have hj := (List.getElem?_eq_some_iff.1 e).1
    rw [Nat.zero_add, cellT h4, ← Array.getElem?_toList]
    have e2 : (cur.toList.take xs.length)[j]? = some u := by
      have : cur.toList.take xs.length = xs := by simpa using h8
      rw [this]; exact e
    rw [List.getElem?_take, if_pos hj] at e2
    exact e2
theorem OwR.keep {B : Nat} {w w' : World} {v : Value} {xs : List Value} (h : OwR B w v xs) (k : ∀ g c t, B ≤ g → w.heap[g]? = some (.cells c t (0, 0)) → w'.heap[g]? = some (.cells c t (0, 0))) : OwR B w' v xs := by
  refine ⟨h.1, ?_⟩
  rcases h.2 with h2 | ⟨g, cap, cur, rfl, h3, h4, h5⟩
  · exact .inl h2
  · exact .inr ⟨g, cap, cur, rfl, h3, k g _ _ h3 h4, h5⟩
theorem OwR.row {B : Nat} {w : World} {v : Value} {xs : List Value} (h : OwR B w v xs) : ∀ g, v.ownBlock = some g → B ≤ g ∧ ∃ c t, w.heap[g]? = some (.cells c t (0, 0)) := fun g e => by
  rcases h.2 with ⟨rfl, _⟩ | ⟨g', cap, cur, rfl, h3, h4, h5⟩
  · cases e
  · cases e; exact ⟨h3, _, _, h4⟩
theorem wpListIn_own1 {F : Fence} {fn : Nat} {ops : Array Oper} {rest : List Oper} {o : Oper} {a : Act} {Q : Exit → Act → World → Prop} (w : World) (hgd : o.guard = none) (s x : Operand)
    (ho : o.op = .call { callee := .builtin .append, args := #[s, x], argTypes := #[82, 82] }) (v : Value) (y : Value) (hs : a.eval s = v) (hx : a.eval x = .slice (some ⟨w.heap.size, 0, none⟩) 1 1)
    (B : Nat) (xs : List Value) (hr : OwR B w v xs) (h1 : y.oneCell' = true) (hn : xs.length ≤ 1000000) (hB : B ≤ w.heap.size)
    (k : ∀ v' w', OwR B w' v' (xs ++ [y]) → (w.alloc (.cells #[y] 20)).grownBy w' v.ownBlock → wpListIn F fn Tryz.prog ops Q rest (a.put o.dst v') w') :
    wpListIn F fn Tryz.prog ops Q (o :: rest) a (w.alloc (.cells #[y] 20)) := by
  refine wpListIn_plain hgd fun K hK => ?_
  obtain ⟨i0, hi, hz0, hz1, hz2⟩ := info_parts infoE20
  have hr' : OwR B (w.alloc (.cells #[y] 20)) v xs := hr.keep fun g c t _ hg => (Below.heap_alloc _ _ _ (heap_lt hg)).trans hg
  obtain ⟨v', w', hrun, hown, hgr, _, hat⟩ := run_append_own_at (P := Tryz.prog) (w.alloc (.cells #[y] 20)) B 82 o.type 20 i0 .nilIface 1 16 Tryz.underlying82 hi hz0 hz1 hz2 rfl (by decide) v xs.length xs hr' ⟨w.heap.size, 0, none⟩ 1 1 [y] (by simp) (cell_one_new w y 20) (by intro u hu; simp at hu; subst hu; exact h1) (by unfold maxLen; omega) (by omega) (by simp; omega)
  unfold Oper.wpIn
  refine ⟨?_, ?_⟩
  · simp [Oper.about, ho, resolve, Target.leads, Sem.run_pure]
  · rw [Oper.semAt_plain F _ _ (by rw [ho]; intro c hc'; cases hc')]
    simp [execOp, ho, resolve, invoke, builtin, hs, hx, hrun, Result.andThen]
    refine hK _ _ (k v' w' ?_ hgr)
    have := hown
    unfold OwR
    rw [List.length_append]
    exact this
def CI (w : World) (ps : List Part) (pre : List (Fin ps.length)) (W : World) : Prop :=
  ∃ v, W.heap[w.heap.size]? = some (.cells #[v] 82 (0, 0)) ∧ OwR (w.heap.size + 1) W v (pre.map fun x => labP ps[x]) ∧ Below w.heap.size w W ∧ w.heap.size + 1 ≤ W.heap.size
theorem CI_own (w : World) (ps : List Part) {B : Nat} (hB : w.heap.size ≤ B) : OwnFrom B (CI w ps) := fun s A A' row ⟨v, h1, h2, h3, h4⟩ hg hr =>
  ⟨v, keep_cells h1 hg hr, h2.keep (fun g c t _ hc => keep_cells hc hg hr), ownFrom_below (β := Unit) (Nat.le_refl _) hB () A A' row h3 hg hr, Nat.le_trans h4 hg.size⟩
def CZ {n : Nat} (c : Code) (pre : List (Fin n)) (W : World) : Prop := False
theorem labP_if (p : Part) : ∃ k v, labP p = .iface k v := by rcases p with (q | q) | (q | q) <;> exact ⟨_, _, rfl⟩
theorem labP_one (p : Part) : (labP p).oneCell' = true := by rcases p with (q | q) | (q | q) <;> rfl
theorem map_fin' (ps : List Part) : (List.finRange ps.length).map (fun x => ps[x]) = ps := by
  apply List.ext_getElem?
  intro i
  simp only [List.getElem?_map]
  by_cases h : i < ps.length
  · rw [List.getElem?_eq_getElem (by simpa using h), List.getElem?_eq_getElem h]; simp
  · rw [List.getElem?_eq_none (by simpa using h), List.getElem?_eq_none (by omega)]; rfl
set_option maxRecDepth 100000 in
set_option maxHeartbeats 1000000 in
theorem appendSeq_any (w0 : World) (root : Part) (ps : List Part) (h : Whole w0 root ps) (Bx : Nat) (w : World) (hb : Below w0.heap.size w0 w) (hBx : w.heap[Bx]? = some (.cells #[labP root] 20 (0, 0))) (hlen : ps.length ≤ 1000000) :
    Calls Tryz.prog 72 #[.slice none 0 0, .func (.func 61) #[] #[.pointer (some ⟨Bx, 0, none⟩)]] w fun e w' => ∃ a c, e = .returned (.slice a ps.length c) ∧ Below w.heap.size w w' ∧ NRd w' a (ps.map labP) ∧ ps.length ≤ c := by
  have hro : Fence.wide.round = none := rfl
  obtain ⟨W1, hW1⟩ : ∃ W1, W1 = w.alloc (.cells #[.slice none 0 0] 82) := ⟨_, rfl⟩
  have hz1 : W1.heap.size = w.heap.size + 1 := by rw [hW1]; simp
  have hb1 : Below w.heap.size w W1 := by rw [hW1]; exact (Below.refl _ w).alloc (Nat.le_refl _) _
  have n0 : W1.heap[w.heap.size]? = some (.cells #[.slice none 0 0] 82 (0, 0)) := by rw [hW1]; exact heap_alloc_new _ _
  have hB2 := (hb1.block Bx (heap_lt hBx)).trans hBx
  have hseq := parts_stops h 5 Bx W1 (hb.trans (hb1.mono hb.size)) hB2
  have h70 : CI w ps [] W1 := ⟨_, n0, ⟨by simp, .inl ⟨rfl, rfl⟩⟩, hb1, by omega⟩
  have hC : w.heap.size ≤ W1.heap.size := by omega
  have h0 := hb.size
  clear n0 hb1 hB2 hBx hb h
  refine (callsIn_wide (n := 6)).1 ?_
  refine callsIn_of_wp_marks Tryz.func72 rfl trivial ?_ hro
  simp only [Tryz.ntmps72, List.size_toArray, List.length_cons, List.length_nil, Nat.reduceAdd, Nat.reduceSub, Array.replicate_succ, Array.replicate_zero, List.push_toArray, List.append_toArray, List.nil_append, List.cons_append]
  gi_wp2
  rw [← hW1]
  clear hW1
  refine wpIn_rangeFunc_ownH hro (by omega) (gf := 61) (lb := #[.pointer (some ⟨Bx, 0, none⟩)]) rfl trivial (enters_of Tryz.func61 (by kernel_rfl) rfl) hseq belowK_t (belowK_b (by omega)) (Below.refl _ _) (fun _ => rfl)
      (CI w ps) (fun c => CZ c) (CI_own w ps hC) (fun c s A A' row hs hg hr => hs)
      h70
      (fun (x : Fin ps.length) (a' : Act) (W : World) => a' = { tmps := #[.slice none 0 0, .func (.func 61) #[] #[.pointer (some ⟨Bx, 0, none⟩)], .pointer (some ⟨w.heap.size, 0, none⟩), undef, .slice none 0 0, labP ps[x], .func (.func 61) #[] #[.pointer (some ⟨Bx, 0, none⟩)], labP ps[x], undef, undef, undef, undef, undef], defers := [] })
      (fun x a' u A B rw' hs hg hr => hs)
      ?assign ?body ?done ?stop
  case assign =>
    rintro ll pre x W K hi hK
    simp only [encP] at hK ⊢
    generalize labP ps[x] = lp at *
    gi_wp2
    exact hK _ _ (keepsFrom_below (Below.refl _ _)) (Below.refl _ _) hi rfl
  case body =>
    rintro ll pre x a' W hll ⟨rr, hrr⟩ ⟨v, g1, g2, g3, g4⟩ rfl hlt
    have c0 := cellT g1 0
    have f0 := freeT g1 0
    simp only [List.getElem?_toArray, List.getElem?_cons_zero] at c0
    have HM : Hid ((pre ++ [x]).map (fun x => labP ps[x]) = pre.map (fun x => labP ps[x]) ++ [labP ps[x]]) := hid (by simp)
    have HL : Hid ((pre.map fun x => labP ps[x]).length ≤ 1000000) := hid (by rw [List.length_map]; omega)
    have HO := hid (labP_one ps[x])
    have hif := labP_if ps[x]
    obtain ⟨va, vc, hv, _, _⟩ := g2.rd
    subst hv
    have G1 := hid g1
    have G2 := hid g2
    have G3 := hid g3
    have G4 := hid g4
    generalize (pre.map fun x => labP ps[x]) = xs at *
    generalize hX : xs.length = nx at *
    have HX := hid hX
    clear hseq h70 g1 g2 g3 g4 hrr hX
    generalize labP ps[x] = lp at *
    obtain ⟨lk, lv, rfl⟩ := hif
    have hG1 := G1.out
    have hG4 := G4.out
    gi_wp2_with (gi_at_builtin; refine wpListIn_own1 W rfl _ _ rfl (.slice va nx vc) (.iface lk lv) (by rfl) (by rfl) (w.heap.size + 1) xs G2.out HO.out (by rw [HX.out]; exact HL.out) hG4 ?_; intro v2 W2 hown hgr; obtain ⟨va2, vc2, hv2, hrd2, _⟩ := hown.rd; subst hv2; have HOW := hid hown; have HGR := hid hgr; have hq := (hgr.block w.heap.size (by rw [World.size_alloc]; omega) (fun e => by have := (OwR.row G2.out _ e.symm).1; omega)).trans ((Below.heap_alloc _ _ _ (heap_lt hG1)).trans hG1); have HQ := hid hq; have y0 := cellT hq 0; have y1 := freeT hq 0; simp only [List.getElem?_toArray, List.getElem?_cons_zero] at y0; clear hown hgr hrd2 hq c0 f0)
    have b1 : Below w.heap.size w W2 := (G3.out.alloc G3.out.size (.cells #[.iface lk lv] 20)).grown HGR.out (by rw [World.size_alloc]; omega) (fun g e => by have := (OwR.row G2.out g e).1; omega)
    have b0 : Below w0.heap.size W W2 := ((Below.refl w0.heap.size W).alloc (by omega) (.cells #[.iface lk lv] 20)).grown HGR.out (by rw [World.size_alloc]; omega) (fun g e => by have := (OwR.row G2.out g e).1; omega)
    refine ⟨⟨?_, fun j o hj ho hoc => ?_⟩, b0.setCell (p := ⟨w.heap.size, 0, none⟩) h0 _, _, set_at HQ.out 0 _, ?_, b1.setCell (p := ⟨w.heap.size, 0, none⟩) (Nat.le_refl _) _, ?_⟩
    · have := HGR.out.size
      rw [World.size_alloc] at this
      simp [World.setCell]; omega
    · have hne : j ≠ w.heap.size := fun e => by subst e; rw [hG1] at ho; cases ho; cases hoc
      refine (Below.heap_setCell _ _ _ _ hne).trans ((HGR.out.block j (by rw [World.size_alloc]; have := heap_lt ho; omega) (fun e => ?_)).trans ((Below.heap_alloc _ _ _ (heap_lt ho)).trans ho))
      obtain ⟨_, c, T, hc⟩ := OwR.row G2.out j e.symm
      rw [hc] at ho; cases ho; cases hoc
    · rw [HM.out]
      have how := HOW.out
      simp only [List.length_append, List.length_cons, List.length_nil, Nat.zero_add] at how
      exact how.keep fun g c T hg hc => (Below.heap_setCell W2 ⟨w.heap.size, 0, none⟩ _ g (by show g ≠ w.heap.size; omega)).trans hc
    · have := b1.size
      have := HGR.out.size
      rw [World.size_alloc] at this
      simp [World.setCell]; omega
  case done =>
    rintro D' ys W hD rfl ⟨v, g1, g2, g3, g4⟩ hK
    have hmap : ((List.finRange ps.length).map fun x => labP ps[x]) = ps.map labP := by
      conv => rhs; rw [← map_fin' ps]
      rw [List.map_map]; rfl
    rw [hmap] at g2
    have y0 := cellT g1 0
    simp only [List.getElem?_toArray, List.getElem?_cons_zero] at y0
    obtain ⟨va, vc, hv, hrd, hle⟩ := g2.rd
    subst hv
    rw [List.length_map] at y0 g1 hle
    have HLE := hid hle
    have HR := hid hrd
    have HK := hid hK
    have h10 : Below w.heap.size w (W.putObj D' (.deferred none)) := ownFrom_below (β := Unit) (Nat.le_refl _) (Nat.le_refl _) () _ _ _ g3 (grownBy_putObj' _ D' (.deferred none)) (fun r e => by cases e; exact ⟨by omega, _, hK, rfl⟩)
    have H10 := hid h10
    have hrd5 : NRd (W.putObj D' (.deferred none)) va (ps.map labP) := fun j u e => by
      obtain ⟨b, off, ea, hc⟩ := hrd j u e
      refine ⟨b, off, ea, ?_⟩
      have hb := World.block_lt_of_cell? W _ hc
      have hne : b ≠ D' := fun e2 => by
        subst e2
        simp [World.cell?, hK] at hc
      rw [World.cell?_of_block (w := W) (w' := W.putObj D' (.deferred none)) (a := ⟨b, off + j, none⟩) (World.putObj_heap_other hne)]
      exact hc
    have HR5 := hid hrd5
    clear hseq h70 g1 g2 g3 g4 hK hrd h10 hrd5 hmap hle
    gi_wp2
    refine ⟨by simp, .inl ⟨_, _, rfl, run_takeDeferred HK.out, ?_⟩⟩
    exact ⟨.slice va ps.length vc, by simp [results, Tryz.results72, go_sem], va, vc, rfl, H10.out, HR5.out, HLE.out⟩
  case stop =>
    rintro D' c pre W hD hp hF hK
    exact hF.elim
set_option maxRecDepth 100000 in
theorem collect_any (w0 : World) (root : Part) (ps : List Part) (h : Whole w0 root ps) (Bx : Nat) (w : World) (hb : Below w0.heap.size w0 w) (hBx : w.heap[Bx]? = some (.cells #[labP root] 20 (0, 0))) (hlen : ps.length ≤ 1000000) :
    Calls Tryz.prog 44 #[.func (.func 61) #[] #[.pointer (some ⟨Bx, 0, none⟩)]] w fun e w' => ∃ a c, e = .returned (.slice a ps.length c) ∧ Below w.heap.size w w' ∧ NRd w' a (ps.map labP) ∧ ps.length ≤ c := by
  have K := hid (appendSeq_any w0 root ps h Bx w hb hBx hlen)
  clear h hb hBx hlen
  go_enter Tryz.func44, Tryz.ntmps44
  go_wp2_with (go_at_call 72; (refine (Hid.out K).mono ?_; rintro e w1 ⟨a, c, rfl, hb1, hr, hle⟩; have HB := hid hb1; have HR := hid hr; have HLE := hid hle; clear hb1 hr hle))
  go_ret
  exact ⟨a, c, rfl, HB.out, HR.out, HLE.out⟩
end Go.Proofs.YtdfambocenohgaaGreatDoor

