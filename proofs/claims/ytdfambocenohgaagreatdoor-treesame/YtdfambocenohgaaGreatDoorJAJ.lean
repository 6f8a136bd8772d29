/- The document's comparing of trees: statements. -/
import Derived.Test.YtdfambocenohgaaGreatDoorJAI
import Derived.Deep.CutBlock
import Derived.Deep.DeepCutAuto
import Derived.WalkMore
namespace Go.Proofs.YtdfambocenohgaaGreatDoor
open Go.RowKit Go.Deep Go.Shelf
set_option linter.unusedVariables false
set_option linter.unusedSimpArgs false
def SamS : (k1 k2 : Nat) → ST k1 → ST k2 → Prop
  | 0, _, _, _ => False
  | _ + 1, 0, _, _ => False
  | k1 + 1, k2 + 1, t, u => alikeS t.1 u.1 = true ∧ AllP (SamE k1 k2) t.2.1 u.2.1 ∧ AllP (SamS k1 k2) t.2.2.1 u.2.2.1 ∧ AllP (SamS k1 k2) t.2.2.2 u.2.2.2
def ChS (k1 k2 : Nat) (w : World) (t : ST k1) (u : ST k2) : Prop := ∃ C1 C2 C3 : Prop, (SamS k1 k2 t u ↔ alikeS (sH k1 t) (sH k2 u) = true ∧ C1 ∧ C2 ∧ C3) ∧ ((C1 → (sH k1 t).an = (sH k2 u).an) ∧ (C2 → (sH k1 t).bn = (sH k2 u).bn) ∧ (C3 → (sH k1 t).en = (sH k2 u).en)) ∧ ∀ w', Below w.heap.size w w' → Calls Tryz.prog 93 #[.slice (sH k1 t).aa (sH k1 t).an (sH k1 t).ac, .slice (sH k2 u).aa (sH k2 u).an (sH k2 u).ac, .bool false] w' (DcP w' C1) ∧ Calls Tryz.prog 64 #[.slice (sH k1 t).ba (sH k1 t).bn (sH k1 t).bc, .slice (sH k2 u).ba (sH k2 u).bn (sH k2 u).bc, .bool false] w' (DcP w' C2) ∧ Calls Tryz.prog 64 #[.slice (sH k1 t).ea (sH k1 t).en (sH k1 t).ec, .slice (sH k2 u).ea (sH k2 u).en (sH k2 u).ec, .bool false] w' (DcP w' C3)
theorem ne_sn {a b : SH} (h : ¬ a.kind = b.kind ∨ ¬ a.name = b.name ∨ ¬ a.label = b.label ∨ ¬ a.var = b.var) : ¬ alikeS a b = true := fun e => by
  simp only [alikeS, Bool.and_eq_true, decide_eq_true_eq] at e
  obtain ⟨⟨⟨⟨⟨⟨e1, e2⟩, e3⟩, e4⟩, e5⟩, e6⟩, e7⟩ := e
  rcases h with h | h | h | h
  · exact h e1
  · exact h e2
  · exact h e3
  · exact h e4
set_option maxRecDepth 100000 in
set_option maxHeartbeats 4000000 in
theorem rows64 (k1 k2 : Nat) (w : World) (a a' : Option Addr) (n n' c c' : Nat) (ts : List (ST k1)) (us : List (ST k2)) (hn : n = ts.length) (hn' : n' = us.length) (hb : n ≤ 1000000) (hb' : n' ≤ 1000000) (hl : LiesAt 8 a (sAt k1) ts) (hl' : LiesAt 8 a' (sAt k2) us) (hr : ∀ t ∈ ts, SRds k1 w t) (hr' : ∀ u ∈ us, SRds k2 w u) (hch : ∀ t ∈ ts, ∀ u ∈ us, ChS k1 k2 w t u) :
    Calls Tryz.prog 64 #[.slice a n c, .slice a' n' c', .bool false] w (DcP w (AllP (SamS k1 k2) ts us)) := by
  have HL := hid hl
  have HL' := hid hl'
  have HR := hid hr
  have HR' := hid hr'
  have HN := hid hn
  have HN' := hid hn'
  have HCH := hid hch
  have nI : (n : Int) ≤ 1000000 := by omega
  have nI' : (n' : Int) ≤ 1000000 := by omega
  have HP : Hid (ts.length = us.length → (∀ (j : Nat) (x : ST k1) (y : ST k2), j < n → ts[j]? = some x → us[j]? = some y → SamS k1 k2 x y) → AllP (SamS k1 k2) ts us) := hid (fun h1 h2 => ⟨h1, fun j x y e1 e2 => h2 j x y (by have := (List.getElem?_eq_some_iff.1 e1).1; omega) e1 e2⟩)
  have HQ : Hid (∀ (j : Nat) (x : ST k1) (y : ST k2), ts[j]? = some x → us[j]? = some y → ¬ SamS k1 k2 x y → ¬ AllP (SamS k1 k2) ts us) := hid (fun j x y e1 e2 h3 h => h3 (h.2 j x y e1 e2))
  have HZ : Hid (¬ n = n' → ¬ AllP (SamS k1 k2) ts us) := hid (fun h1 h => h1 (by rw [hn, hn']; exact h.1))
  obtain ⟨P, hP⟩ : ∃ P : Prop, P = AllP (SamS k1 k2) ts us := ⟨_, rfl⟩
  rw [← hP] at HP HQ HZ ⊢
  clear hl hl' hr hr' hn hn' hb hb' hch hP
  go_enter Tryz.func64, Tryz.ntmps64
  by_cases hnn : n = n'
  case neg =>
    have nb : ((n : Int) != (n' : Int)) = true := by simp; omega
    have HNN := hid hnn
    clear hnn
    go_wp2
    go_ret
    exact DcP.no (Below.refl _ _) (HZ.out HNN.out)
  subst hnn
  have nb : ((n : Int) != (n : Int)) = false := by simp
  go_wp2
  go_loopg [7] n (fun g x wr => ∃ i : Nat, i + g = n ∧ x = .int .i64 (i : Int) ∧ Below w.heap.size w wr ∧ ∀ (j : Nat) (x : ST k1) (y : ST k2), j < i → ts[j]? = some x → us[j]? = some y → SamS k1 k2 x y)
  case atStart => exact ⟨0, by omega, rfl, Below.refl _ _, fun j x y h => by omega⟩
  case round =>
    obtain ⟨i, hi, rfl, hbw, hpre⟩ := hrel
    have HB := hid hbw
    have HI := hid hi
    have HPR := hid hpre
    clear hpre
    cases gk with
    | zero =>
      have hin : i = n := by omega
      subst hin
      clear hi hbw
      go_wp2
      go_ret
      exact DcP.yes HB.out (HP.out (by rw [← HN.out, ← HN'.out]) HPR.out)
    | succ g =>
      have hil : (i : Int) < (n : Int) := by omega
      have hi0 : (0 : Int) ≤ (i : Int) := by omega
      have l1 := HN.out
      have l2 := HN'.out
      obtain ⟨t, ht⟩ : ∃ t, ts[i]? = some t := ⟨ts[i]'(by omega), List.getElem?_eq_getElem _⟩
      obtain ⟨u, hu⟩ : ∃ u, us[i]? = some u := ⟨us[i]'(by omega), List.getElem?_eq_getElem _⟩
      obtain ⟨b1, o1, ea1, hat1⟩ := HL.out i t ht
      obtain ⟨b2, o2, ea2, hat2⟩ := HL'.out i u hu
      subst ea1
      subst ea2
      have d1 := (HR.out t (List.mem_of_getElem? ht)).h
      have d2 := (HR'.out u (List.mem_of_getElem? hu)).h
      obtain ⟨C1, C2, C3, hC, han, hcall⟩ := HCH.out t (List.mem_of_getElem? ht) u (List.mem_of_getElem? hu)
      have HST : Hid (SamS k1 k2 t u → ∀ (j : Nat) (x : ST k1) (y : ST k2), j < i + 1 → ts[j]? = some x → us[j]? = some y → SamS k1 k2 x y) := hid (fun h => allP_step HPR.out ht hu h)
      have HNO : Hid (¬ SamS k1 k2 t u → ¬ P) := hid (HQ.out i t u ht hu)
      rw [hC] at HST HNO
      simp only [sAt, Prod.mk.injEq] at hat1 hat2
      obtain ⟨q1, q2⟩ := hat1
      obtain ⟨q3, q4⟩ := hat2
      generalize sH k1 t = h1 at d1 hcall han q1 q2 HST HNO
      generalize sH k2 u = h2 at d2 hcall han q3 q4 HST HNO
      clear hC ht hu l1 l2 HPR hi
      have e1 := d1.below (Nat.le_refl _) hbw
      have e2 := d2.below (Nat.le_refl _) hbw
      clear d1 d2
      obtain ⟨hb1, ho1, kind1, name1, label1, var1, aa1, an1, ac1, ba1, bn1, bc1, ea1, en1, ec1, pos1⟩ := h1
      obtain ⟨hb2, ho2, kind2, name2, label2, var2, aa2, an2, ac2, ba2, bn2, bc2, ea2, en2, ec2, pos2⟩ := h2
      simp only at q1 q2 q3 q4 hcall han
      have HAN := hid han
      clear han
      subst q1 q2 q3 q4
      have E1 := hid e1
      have E2 := hid e2
      have x0 := e1.c0
      have y0 := e2.c0
      have x1 := e1.c1
      have y1 := e2.c1
      have x2 := e1.c2
      have y2 := e2.c2
      have x3 := e1.c3
      have y3 := e2.c3
      have x4 := e1.c4
      have y4 := e2.c4
      have x5 := e1.c5
      have y5 := e2.c5
      have x6 := e1.c6
      have y6 := e2.c6
      have x7 := e1.c7
      have y7 := e2.c7
      simp only at x0 x1 x2 x3 x4 x5 x6 x7 y0 y1 y2 y3 y4 y5 y6 y7
      have HCALL := hid hcall
      obtain ⟨wo, hwo⟩ : ∃ wo, wo = wr := ⟨_, rfl⟩
      subst hwo
      clear e1 e2 hbw hcall
      go_upto_region 6 with fail
      go_cut [8, 9] from 21 to 28 (fun s6 s7 wx => ∃ X Y : Nat, s6 = .pointer (some ⟨X, 0, none⟩) ∧ s7 = .pointer (some ⟨Y, 0, none⟩) ∧ wx.heap[X]? = some (.cells #[.int .i64 kind1, .string name1, .string label1, .string var1, .slice aa1 an1 ac1, .slice ba1 bn1 bc1, .slice ea1 en1 ec1, .int .i64 pos1] 49 (0, 0)) ∧ wx.heap[Y]? = some (.cells #[.int .i64 kind2, .string name2, .string label2, .string var2, .slice aa2 an2 ac2, .slice ba2 bn2 bc2, .slice ea2 en2 ec2, .int .i64 pos2] 49 (0, 0)) ∧ Below wo.heap.size wo wx)
      case first =>
        go_region_held3 (fun v => v.cell? ⟨hb1, o1 + i * 8, none⟩ = some (.int .i64 kind1) ∧ v.cell? ⟨hb1, o1 + i * 8 + 1, none⟩ = some (.string name1) ∧ v.cell? ⟨hb1, o1 + i * 8 + 2, none⟩ = some (.string label1) ∧ v.cell? ⟨hb1, o1 + i * 8 + 3, none⟩ = some (.string var1) ∧ v.cell? ⟨hb1, o1 + i * 8 + 4, none⟩ = some (.slice aa1 an1 ac1) ∧ v.cell? ⟨hb1, o1 + i * 8 + 5, none⟩ = some (.slice ba1 bn1 bc1) ∧ v.cell? ⟨hb1, o1 + i * 8 + 6, none⟩ = some (.slice ea1 en1 ec1) ∧ v.cell? ⟨hb1, o1 + i * 8 + 7, none⟩ = some (.int .i64 pos1) ∧ v.cell? ⟨hb2, o2 + i * 8, none⟩ = some (.int .i64 kind2) ∧ v.cell? ⟨hb2, o2 + i * 8 + 1, none⟩ = some (.string name2) ∧ v.cell? ⟨hb2, o2 + i * 8 + 2, none⟩ = some (.string label2) ∧ v.cell? ⟨hb2, o2 + i * 8 + 3, none⟩ = some (.string var2) ∧ v.cell? ⟨hb2, o2 + i * 8 + 4, none⟩ = some (.slice aa2 an2 ac2) ∧ v.cell? ⟨hb2, o2 + i * 8 + 5, none⟩ = some (.slice ba2 bn2 bc2) ∧ v.cell? ⟨hb2, o2 + i * 8 + 6, none⟩ = some (.slice ea2 en2 ec2) ∧ v.cell? ⟨hb2, o2 + i * 8 + 7, none⟩ = some (.int .i64 pos2)) (first | go_keep) (fail)
        all_goals (go_wp2_with fail)
        all_goals go_meet
        · exact ⟨_, _, rfl, rfl, (two_al _ _ _ _).1, (two_al _ _ _ _).2.1, (two_al _ _ _ _).2.2⟩
        · exact ⟨_, _, rfl, rfl, (two_al _ _ _ _).2.1, (two_al _ _ _ _).1, (two_al _ _ _ _).2.2⟩
      case rest =>
        obtain ⟨X, Y, rfl, rfl, mX, mY, bx⟩ := hcut
        have BX := hid (HB.out.trans (bx.mono HB.out.size))
        have HBX := hid bx
        have CB := hid (fun (V : World) (hV : Below wc.heap.size wc V) => (by
          have g1 := (hV.block _ (heap_lt mX)).trans mX
          have g2 := (hV.block _ (heap_lt mY)).trans mY
          exact ⟨⟨cellT g1 0, cellT g1 1, cellT g1 2, cellT g1 3, cellT g1 4, cellT g1 5, cellT g1 6, cellT g1 7⟩, cellT g2 0, cellT g2 1, cellT g2 2, cellT g2 3, cellT g2 4, cellT g2 5, cellT g2 6, cellT g2 7⟩ : (V.cell? ⟨X, 0, none⟩ = some (.int .i64 kind1) ∧ V.cell? ⟨X, 1, none⟩ = some (.string name1) ∧ V.cell? ⟨X, 2, none⟩ = some (.string label1) ∧ V.cell? ⟨X, 3, none⟩ = some (.string var1) ∧ V.cell? ⟨X, 4, none⟩ = some (.slice aa1 an1 ac1) ∧ V.cell? ⟨X, 5, none⟩ = some (.slice ba1 bn1 bc1) ∧ V.cell? ⟨X, 6, none⟩ = some (.slice ea1 en1 ec1) ∧ V.cell? ⟨X, 7, none⟩ = some (.int .i64 pos1)) ∧ V.cell? ⟨Y, 0, none⟩ = some (.int .i64 kind2) ∧ V.cell? ⟨Y, 1, none⟩ = some (.string name2) ∧ V.cell? ⟨Y, 2, none⟩ = some (.string label2) ∧ V.cell? ⟨Y, 3, none⟩ = some (.string var2) ∧ V.cell? ⟨Y, 4, none⟩ = some (.slice aa2 an2 ac2) ∧ V.cell? ⟨Y, 5, none⟩ = some (.slice ba2 bn2 bc2) ∧ V.cell? ⟨Y, 6, none⟩ = some (.slice ea2 en2 ec2) ∧ V.cell? ⟨Y, 7, none⟩ = some (.int .i64 pos2)))
        clear x0 x1 x2 x3 x4 x5 x6 x7 y0 y1 y2 y3 y4 y5 y6 y7 mX mY bx HB
        obtain ⟨⟨x0, x1, x2, x3, x4, x5, x6, x7⟩, y0, y1, y2, y3, y4, y5, y6, y7⟩ := CB.out wc (Below.refl _ _)
        by_cases hq : kind1 = kind2
        case neg =>
          have n1 : (kind1 != kind2) = true := by simpa using hq
          have n2 : (kind1 == kind2) = false := by simpa using hq
          have HQQ := hid hq
          clear hq
          go_wp2
          go_ret
          exact DcP.no BX.out (HNO.out (fun h => ne_sn (.inl HQQ.out) h.1))
        subst hq
        have n_kind : (kind1 != kind1) = false := by simp
        by_cases hq : name1 = name2
        case neg =>
          have n1 := bneL hq
          have HQQ := hid hq
          clear hq
          go_wp2
          go_ret
          exact DcP.no BX.out (HNO.out (fun h => ne_sn (.inr (.inl HQQ.out)) h.1))
        subst hq
        have n_name : (name1.toList == name1.toList) = true := by simp
        by_cases hq : label1 = label2
        case neg =>
          have n1 := bneL hq
          have HQQ := hid hq
          clear hq
          go_wp2
          go_ret
          exact DcP.no BX.out (HNO.out (fun h => ne_sn (.inr (.inr (.inl HQQ.out))) h.1))
        subst hq
        have n_label : (label1.toList == label1.toList) = true := by simp
        by_cases hq : var1 = var2
        case neg =>
          have n1 := bneL hq
          have HQQ := hid hq
          clear hq
          go_wp2
          go_ret
          exact DcP.no BX.out (HNO.out (fun h => ne_sn (.inr (.inr (.inr (HQQ.out)))) h.1))
        subst hq
        have n_var : (var1.toList == var1.toList) = true := by simp
        have KA := hid (HCALL.out wc BX.out).1
        have HC0 := hid (Below.refl wc.heap.size wc)
        clear E1 E2
        go_wp2_with (first
          | (go_at_call 93; (refine (Hid.out KA).mono ?_; rintro e w4 ⟨hb4, b4, rfl, hi4⟩; have HC4 := hid hb4; have HI4 := hid hi4; clear x0 x1 x2 x3 x4 x5 x6 x7 y0 y1 y2 y3 y4 y5 y6 y7 hb4 hi4; obtain ⟨⟨x0, x1, x2, x3, x4, x5, x6, x7⟩, y0, y1, y2, y3, y4, y5, y6, y7⟩ := CB.out w4 HC4.out; have KB := hid (HCALL.out w4 (BX.out.trans (HC4.out.mono BX.out.size))).2.1; clear KA; cases b4))
          | (have hno := KC; go_at_call 64; (refine (Hid.out KC).mono ?_; rintro e w6 ⟨hb6, b6, rfl, hi6⟩; have HC6 := hid (HC5.out.trans (hb6.mono HC5.out.size)); have HI6 := hid hi6; clear x0 x1 x2 x3 x4 x5 x6 x7 y0 y1 y2 y3 y4 y5 y6 y7 hb6 hi6; clear KC; cases b6))
          | (go_at_call 64; (refine (Hid.out KB).mono ?_; rintro e w5 ⟨hb5, b5, rfl, hi5⟩; have HC5 := hid (HC4.out.trans (hb5.mono HC4.out.size)); have HI5 := hid hi5; clear x0 x1 x2 x3 x4 x5 x6 x7 y0 y1 y2 y3 y4 y5 y6 y7 hb5 hi5; obtain ⟨⟨x0, x1, x2, x3, x4, x5, x6, x7⟩, y0, y1, y2, y3, y4, y5, y6, y7⟩ := CB.out w5 HC5.out; have KC := hid (HCALL.out w5 (BX.out.trans (HC5.out.mono BX.out.size))).2.2; clear KB; cases b5)))
        · go_ret
          exact DcP.no (BX.out.trans (HC4.out.mono BX.out.size)) (HNO.out (fun h => by have := HI4.out.2 h.2.1; cases this))
        · go_ret
          exact DcP.no (BX.out.trans (HC5.out.mono BX.out.size)) (HNO.out (fun h => by have := HI5.out.2 h.2.2.1; cases this))
        · go_ret
          exact DcP.no (BX.out.trans (HC6.out.mono BX.out.size)) (HNO.out (fun h => by have := HI6.out.2 h.2.2.2; cases this))
        · go_roundg g
          case measure => omega
          case rel =>
            have c1 := HI4.out.1 (by first | rfl | trivial)
            have c2 := HI5.out.1 (by first | rfl | trivial)
            have c3 := HI6.out.1 (by first | rfl | trivial)
            exact ⟨i + 1, by have := HI.out; omega, by go_num, BX.out.trans (HC6.out.mono BX.out.size), HST.out ⟨by simp [alikeS, HAN.out.1 c1, HAN.out.2.1 c2, HAN.out.2.2 c3], c1, c2, c3⟩⟩
theorem chS : ∀ (k1 k2 : Nat) (w : World) (t : ST k1) (u : ST k2), SRds k1 w t → SRds k2 w u → ChS k1 k2 w t u
  | 0, _, _, t, _, _, _ => Empty.elim t
  | _ + 1, 0, _, _, u, _, _ => Empty.elim u
  | k1 + 1, k2 + 1, w, t, u, ⟨d1, ⟨dn1, dn2, dn3⟩, ⟨dl1, dl2, dl3⟩, d4, d5, d6⟩, ⟨e1, ⟨en1, en2, en3⟩, ⟨el1, el2, el3⟩, e4, e5, e6⟩ => ⟨AllP (SamE k1 k2) t.2.1 u.2.1, AllP (SamS k1 k2) t.2.2.1 u.2.2.1, AllP (SamS k1 k2) t.2.2.2 u.2.2.2, Iff.rfl, ⟨fun h => by show t.1.an = u.1.an; rw [dn1, en1]; exact h.1, fun h => by show t.1.bn = u.1.bn; rw [dn2, en2]; exact h.1, fun h => by show t.1.en = u.1.en; rw [dn3, en3]; exact h.1⟩, fun w' hw => ⟨rows93 k1 k2 w' _ _ _ _ _ _ t.2.1 u.2.1 dn1 en1 d1.ab e1.ab dl1 el1 (fun x hx => ERd.below k1 (d4 x hx) (Nat.le_refl _) hw) (fun x hx => ERd.below k2 (e4 x hx) (Nat.le_refl _) hw) (fun x hx y hy => chE k1 k2 w' x y (ERd.below k1 (d4 x hx) (Nat.le_refl _) hw) (ERd.below k2 (e4 y hy) (Nat.le_refl _) hw)), rows64 k1 k2 w' _ _ _ _ _ _ t.2.2.1 u.2.2.1 dn2 en2 d1.bb e1.bb dl2 el2 (fun x hx => SRds.below k1 (d5 x hx) (Nat.le_refl _) hw) (fun x hx => SRds.below k2 (e5 x hx) (Nat.le_refl _) hw) (fun x hx y hy => chS k1 k2 w' x y (SRds.below k1 (d5 x hx) (Nat.le_refl _) hw) (SRds.below k2 (e5 y hy) (Nat.le_refl _) hw)), rows64 k1 k2 w' _ _ _ _ _ _ t.2.2.2 u.2.2.2 dn3 en3 d1.eb e1.eb dl3 el3 (fun x hx => SRds.below k1 (d6 x hx) (Nat.le_refl _) hw) (fun x hx => SRds.below k2 (e6 x hx) (Nat.le_refl _) hw) (fun x hx y hy => chS k1 k2 w' x y (SRds.below k1 (d6 x hx) (Nat.le_refl _) hw) (SRds.below k2 (e6 y hy) (Nat.le_refl _) hw))⟩⟩
end Go.Proofs.YtdfambocenohgaaGreatDoor

namespace Go.Proofs.YtdfambocenohgaaGreatDoor
open Go.RowKit Go.Deep
set_option linter.unusedVariables false
set_option linter.unusedSimpArgs false

def emp : ByteArray := ⟨#[]⟩
def EH.cs (m : EH) : Array Value := #[.int .i64 m.kind, .int .i64 m.op, .int .i64 m.int, .string m.text, .string m.name, .slice m.na m.nn m.nc, .slice m.aa m.an m.ac, .int .i64 m.pos]
/- What e's kind has a meaning for. -/
def meantE (h : EH) : EH := { h with op := if h.kind = 5 ∨ h.kind = 6 then h.op else 0, int := if h.kind = 1 ∨ h.kind = 3 then h.int else 0, text := if h.kind = 2 then h.text else emp, name := if h.kind = 4 ∨ h.kind = 7 ∨ h.kind = 8 ∨ h.kind = 9 ∨ h.kind = 10 ∨ h.kind = 11 ∨ h.kind = 12 then h.name else emp, na := if h.kind = 8 then h.na else none, nn := if h.kind = 8 then h.nn else 0, nc := if h.kind = 8 then h.nc else 0, names := if h.kind = 8 then h.names else [], pos := 0 }
def okE (h : EH) : Bool :=
  if h.kind = 1 then decide (h.an = 0) else
  if h.kind = 2 then decide (h.text.size ≤ 64) && decide (h.an = 0) else
  if h.kind = 3 then (decide (h.int = 0) || decide (h.int = 1)) && decide (h.an = 0) else
  if h.kind = 4 then smallB h.name && decide (h.an = 0) else
  if h.kind = 5 then decide (18 ≤ h.op) && decide (h.op ≤ 21) && decide (h.an = 1) else
  if h.kind = 6 then decide (1 ≤ h.op) && decide (h.op ≤ 17) && decide (h.an = 2) else
  if h.kind = 8 then greatB h.name && fieldsB h.names && decide (h.an = h.nn) else
  if h.kind = 11 then smallB h.name && decide (h.an ≤ 12) else
  if h.kind = 7 ∨ h.kind = 9 ∨ h.kind = 10 ∨ h.kind = 12 then smallB h.name && decide (h.an = 1) else false
def rightE (h : EH) : Bool := okE h && alikeE h (meantE h)
theorem boxE {W : World} {h m : EH} {M : Nat} (d : EHr W h) (hb : W.heap[M]? = some (.cells m.cs 28 (0, 0))) (hi : m.int = h.int ∨ m.int = 0) (ht : m.text = h.text ∨ m.text = emp) (hn : m.name = h.name ∨ m.name = emp) (hr : (m.na = h.na ∧ m.nn = h.nn ∧ m.names = h.names) ∨ (m.nn = 0 ∧ m.names = [])) (ha : m.an = h.an) : EHr W { m with b := M, o := 0 } := by
  have c := cellT hb
  have e0 : emp.size ≤ 9223372036854775807 := by decide
  refine ⟨c 0, c 1, c 2, c 3, c 4, c 5, c 6, c 7, ?_, ?_, ?_, ?_, ?_, ?_, ?_, ?_, ?_⟩
  · rcases hi with e | e
    · show -9223372036854775808 ≤ m.int; rw [e]; exact d.i0
    · show -9223372036854775808 ≤ m.int; rw [e]; decide
  · rcases hi with e | e
    · show m.int ≤ 9223372036854775807; rw [e]; exact d.i1
    · show m.int ≤ 9223372036854775807; rw [e]; decide
  · rcases ht with e | e
    · show m.text.size ≤ _; rw [e]; exact d.t
    · show m.text.size ≤ _; rw [e]; exact e0
  · rcases hn with e | e
    · show m.name.size ≤ _; rw [e]; exact d.n
    · show m.name.size ≤ _; rw [e]; exact e0
  · rcases hr with ⟨e1, e2, e3⟩ | ⟨e2, e3⟩
    · show m.nn = m.names.length; rw [e2, e3]; exact d.nl
    · show m.nn = m.names.length; rw [e2, e3]; rfl
  · rcases hr with ⟨e1, e2, e3⟩ | ⟨e2, e3⟩
    · show m.nn ≤ _; rw [e2]; exact d.nb
    · show m.nn ≤ _; rw [e2]; decide
  · rcases hr with ⟨e1, e2, e3⟩ | ⟨e2, e3⟩
    · show ∀ s ∈ m.names, _; rw [e3]; exact d.ns
    · show ∀ s ∈ m.names, _; rw [e3]; intro s hs; cases hs
  · rcases hr with ⟨e1, e2, e3⟩ | ⟨e2, e3⟩
    · show SLs W m.na m.names; rw [e1, e3]; exact d.nr
    · show SLs W m.na m.names; rw [e3]; intro j s hs; simp at hs
  · show m.an ≤ _; rw [ha]; exact d.ab
end Go.Proofs.YtdfambocenohgaaGreatDoor

namespace Go.Proofs.YtdfambocenohgaaGreatDoor
open Go.RowKit Go.Deep
set_option linter.unusedVariables false
set_option linter.unusedSimpArgs false


set_option maxRecDepth 100000 in
set_option maxHeartbeats 4000000 in
theorem isRightE_1 (w : World) (h : EH) (d : EHr w h) (hm : MX w) (hk : h.kind = 1) : Calls Tryz.prog 86 #[.pointer (some ⟨h.b, h.o, none⟩)] w fun e w' => e = .returned (.bool (rightE h)) ∧ Below w.heap.size w w' := by
  have TR : Hid (∀ {Z x y : World}, Below Z.heap.size Z x → Below x.heap.size x y → Below Z.heap.size Z y) := hid (fun h1 h2 => h1.trans (h2.mono h1.size))
  have ha : (h.an : Int) ≤ 1000000 := by have := d.ab; omega
  have hnn : (h.nn : Int) ≤ 1000000 := by have := d.nb; omega
  have htx : (h.text.size : Int) ≤ 9223372036854775807 := by have := d.t; omega
  have cell : ∀ {p : Addr} {v : Value} (o : Obj), w.cell? p = some v → (w.alloc o).cell? p = some v := fun o hc => (((Below.refl w.heap.size w).alloc (Nat.le_refl _) o).cell (World.block_lt_of_cell? w _ hc)).trans hc
  have c0 := d.c0
  have c6 := d.c6
  have C0 := fun o => cell o d.c0
  have C1 := fun o => cell o d.c1
  have C2 := fun o => cell o d.c2
  have C3 := fun o => cell o d.c3
  have C4 := fun o => cell o d.c4
  have C5 := fun o => cell o d.c5
  have C6 := fun o => cell o d.c6
  obtain ⟨W, hW⟩ : ∃ W, W = ((w.alloc (.cells #[.int .i64 1, .int .i64 0, .int .i64 h.int, .string ⟨#[]⟩, .string ⟨#[]⟩, .slice none 0 0, .slice h.aa h.an h.ac, .int .i64 0] 28)).drew : World) := ⟨_, rfl⟩
  have hb : W.heap[w.heap.size]? = some (.cells (meantE h).cs 28 (0, 0)) := by
    rw [hW]
    refine (heap_alloc_new w _).trans ?_
    simp [meantE, EH.cs, emp, hk]
  have hbw : Below w.heap.size w W := by rw [hW]; exact ((Below.refl _ w).alloc (Nat.le_refl _) _).drew
  have KA : Hid (∀ w1 : World, Below W.heap.size W w1 → Calls Tryz.prog 76 #[.pointer (some ⟨h.b, h.o, none⟩), .pointer (some ⟨w.heap.size, 0, none⟩)] w1 fun e w' => e = .returned (.bool (alikeE h (meantE h))) ∧ ∃ m, w' = w1.drewN m) := hid (fun w1 hb1 => by
    have dd := d.below (Nat.le_refl _) (hbw.trans (hb1.mono hbw.size))
    exact alikeE_any w1 h { meantE h with b := w.heap.size, o := 0 } dd (boxE dd ((hb1.block _ (Array.getElem?_eq_some_iff.1 hb).1).trans hb) (by simp [meantE, hk]) (by simp [meantE, hk]) (by simp [meantE, hk]) (by simp [meantE, hk]) rfl))
  have HW := hid hbw
  have KS : Hid (∀ w1 : World, Below w.heap.size w w1 → Calls Tryz.prog 114 #[.string h.name] w1 fun e w' => e = .returned (.bool (smallB h.name)) ∧ Below w1.heap.size w1 w') := hid (fun w1 hb1 => isSmall_any h.name d.n w1 (hm.below hm.lt hb1))
  have KG : Hid (∀ w1 : World, Below w.heap.size w w1 → Calls Tryz.prog 111 #[.string h.name] w1 fun e w' => e = .returned (.bool (greatB h.name)) ∧ Below w1.heap.size w1 w') := hid (fun w1 hb1 => isGreat_any h.name d.n w1 (hm.below hm.lt hb1))
  have KF : Hid (∀ w1 : World, Below w.heap.size w w1 → Calls Tryz.prog 118 #[.slice h.na h.nn h.nc] w1 fun e w' => e = .returned (.bool (fieldsB h.names)) ∧ Below w1.heap.size w1 w') := hid (fun w1 hb1 => areFields_any w1 h.na h.nn h.nc h.names d.nl d.nb (d.nr.below (Nat.le_refl _) hb1) d.ns (hm.below hm.lt hb1))
  have CN : Hid (∀ w1 : World, Below w.heap.size w w1 → w1.cell? ⟨h.b, h.o + 5, none⟩ = some (.slice h.na h.nn h.nc)) := hid (fun w1 hb1 => belowCell d.c5 (Nat.le_refl _) hb1)
  have HR : Hid (rightE h = (decide (h.an = 0) && alikeE h (meantE h))) := hid (by unfold rightE okE; simp [hk])
  have fin : Hid (∀ (w1 : World) (m : Nat), Below w.heap.size w w1 → Below w.heap.size w (w1.drewN m)) := hid (fun w1 m hb => bel_drewN hb m)
  generalize alikeE h (meantE h) = al at *
  generalize rightE h = res at *
  generalize smallB h.name = sm at *
  generalize greatB h.name = gr at *
  generalize fieldsB h.names = fi at *
  clear d hm hb hbw cell
  obtain ⟨b, o, kind, op, int, text, name, na, nn, nc, aa, an, ac, pos, names⟩ := h
  simp only at c0 c6 C0 C1 C2 C3 C4 C5 C6 hW KA KS KG KF CN HR hk ha hnn htx ⊢
  subst hk
  by_cases q1 : an = 0
  case pos =>
    subst q1
    go_enter Tryz.func86, Tryz.ntmps86
    go_wp2
    go_region_held3 (fun w2 => w2.cell? ⟨b, o, none⟩ = some (.int .i64 1) ∧ w2.cell? ⟨b, o + 6, none⟩ = some (.slice aa 0 ac)) (first | go_keep) (fail)
    go_wp2_with (go_at_call 76; (rw [← hW]; clear hW; refine (KA.out W (Below.refl _ _)).mono ?_; rintro e w2 ⟨rfl, m, rfl⟩; have HB2 := hid (fin.out W m HW.out)))
    go_ret
    refine ⟨?_, ?_⟩
    · rw [HR.out]; exact ret_bool (by first | (simp; done) | (simp <;> intros <;> omega))
    · first | exact HB2.out | exact TR.out HW.out HB1.out | (rw [← hW]; exact HW.out)
  case neg =>
    have q1' : ¬ (an : Int) = 0 := by omega
    go_enter Tryz.func86, Tryz.ntmps86
    go_wp2
    go_region_held3 (fun w2 => w2.cell? ⟨b, o, none⟩ = some (.int .i64 1) ∧ w2.cell? ⟨b, o + 6, none⟩ = some (.slice aa an ac)) (first | go_keep) (fail)
    go_wp2_with (go_at_call 76; (rw [← hW]; clear hW; refine (KA.out W (Below.refl _ _)).mono ?_; rintro e w2 ⟨rfl, m, rfl⟩; have HB2 := hid (fin.out W m HW.out)))
    go_ret
    refine ⟨?_, ?_⟩
    · rw [HR.out]; exact ret_bool (by first | (simp [q1]; done) | (simp <;> intros <;> omega))
    · first | exact HB2.out | exact TR.out HW.out HB1.out | (rw [← hW]; exact HW.out)

set_option maxRecDepth 100000 in
set_option maxHeartbeats 4000000 in
theorem isRightE_2 (w : World) (h : EH) (d : EHr w h) (hm : MX w) (hk : h.kind = 2) : Calls Tryz.prog 86 #[.pointer (some ⟨h.b, h.o, none⟩)] w fun e w' => e = .returned (.bool (rightE h)) ∧ Below w.heap.size w w' := by
  have TR : Hid (∀ {Z x y : World}, Below Z.heap.size Z x → Below x.heap.size x y → Below Z.heap.size Z y) := hid (fun h1 h2 => h1.trans (h2.mono h1.size))
  have ha : (h.an : Int) ≤ 1000000 := by have := d.ab; omega
  have hnn : (h.nn : Int) ≤ 1000000 := by have := d.nb; omega
  have htx : (h.text.size : Int) ≤ 9223372036854775807 := by have := d.t; omega
  have cell : ∀ {p : Addr} {v : Value} (o : Obj), w.cell? p = some v → (w.alloc o).cell? p = some v := fun o hc => (((Below.refl w.heap.size w).alloc (Nat.le_refl _) o).cell (World.block_lt_of_cell? w _ hc)).trans hc
  have c0 := d.c0
  have c6 := d.c6
  have C0 := fun o => cell o d.c0
  have C1 := fun o => cell o d.c1
  have C2 := fun o => cell o d.c2
  have C3 := fun o => cell o d.c3
  have C4 := fun o => cell o d.c4
  have C5 := fun o => cell o d.c5
  have C6 := fun o => cell o d.c6
  obtain ⟨W, hW⟩ : ∃ W, W = ((w.alloc (.cells #[.int .i64 2, .int .i64 0, .int .i64 0, .string h.text, .string ⟨#[]⟩, .slice none 0 0, .slice h.aa h.an h.ac, .int .i64 0] 28)).drew : World) := ⟨_, rfl⟩
  have hb : W.heap[w.heap.size]? = some (.cells (meantE h).cs 28 (0, 0)) := by
    rw [hW]
    refine (heap_alloc_new w _).trans ?_
    simp [meantE, EH.cs, emp, hk]
  have hbw : Below w.heap.size w W := by rw [hW]; exact ((Below.refl _ w).alloc (Nat.le_refl _) _).drew
  have KA : Hid (∀ w1 : World, Below W.heap.size W w1 → Calls Tryz.prog 76 #[.pointer (some ⟨h.b, h.o, none⟩), .pointer (some ⟨w.heap.size, 0, none⟩)] w1 fun e w' => e = .returned (.bool (alikeE h (meantE h))) ∧ ∃ m, w' = w1.drewN m) := hid (fun w1 hb1 => by
    have dd := d.below (Nat.le_refl _) (hbw.trans (hb1.mono hbw.size))
    exact alikeE_any w1 h { meantE h with b := w.heap.size, o := 0 } dd (boxE dd ((hb1.block _ (Array.getElem?_eq_some_iff.1 hb).1).trans hb) (by simp [meantE, hk]) (by simp [meantE, hk]) (by simp [meantE, hk]) (by simp [meantE, hk]) rfl))
  have HW := hid hbw
  have KS : Hid (∀ w1 : World, Below w.heap.size w w1 → Calls Tryz.prog 114 #[.string h.name] w1 fun e w' => e = .returned (.bool (smallB h.name)) ∧ Below w1.heap.size w1 w') := hid (fun w1 hb1 => isSmall_any h.name d.n w1 (hm.below hm.lt hb1))
  have KG : Hid (∀ w1 : World, Below w.heap.size w w1 → Calls Tryz.prog 111 #[.string h.name] w1 fun e w' => e = .returned (.bool (greatB h.name)) ∧ Below w1.heap.size w1 w') := hid (fun w1 hb1 => isGreat_any h.name d.n w1 (hm.below hm.lt hb1))
  have KF : Hid (∀ w1 : World, Below w.heap.size w w1 → Calls Tryz.prog 118 #[.slice h.na h.nn h.nc] w1 fun e w' => e = .returned (.bool (fieldsB h.names)) ∧ Below w1.heap.size w1 w') := hid (fun w1 hb1 => areFields_any w1 h.na h.nn h.nc h.names d.nl d.nb (d.nr.below (Nat.le_refl _) hb1) d.ns (hm.below hm.lt hb1))
  have CN : Hid (∀ w1 : World, Below w.heap.size w w1 → w1.cell? ⟨h.b, h.o + 5, none⟩ = some (.slice h.na h.nn h.nc)) := hid (fun w1 hb1 => belowCell d.c5 (Nat.le_refl _) hb1)
  have HR : Hid (rightE h = ((decide (h.text.size ≤ 64) && decide (h.an = 0)) && alikeE h (meantE h))) := hid (by unfold rightE okE; simp [hk])
  have fin : Hid (∀ (w1 : World) (m : Nat), Below w.heap.size w w1 → Below w.heap.size w (w1.drewN m)) := hid (fun w1 m hb => bel_drewN hb m)
  generalize alikeE h (meantE h) = al at *
  generalize rightE h = res at *
  generalize smallB h.name = sm at *
  generalize greatB h.name = gr at *
  generalize fieldsB h.names = fi at *
  clear d hm hb hbw cell
  obtain ⟨b, o, kind, op, int, text, name, na, nn, nc, aa, an, ac, pos, names⟩ := h
  simp only at c0 c6 C0 C1 C2 C3 C4 C5 C6 hW KA KS KG KF CN HR hk ha hnn htx ⊢
  subst hk
  by_cases q2 : text.size ≤ 64
  case pos =>
    have q2' : (text.size : Int) ≤ 64 := by omega
    by_cases q1 : an = 0
    case pos =>
      subst q1
      go_enter Tryz.func86, Tryz.ntmps86
      go_wp2
      go_region_held3 (fun w2 => w2.cell? ⟨b, o, none⟩ = some (.int .i64 2) ∧ w2.cell? ⟨b, o + 6, none⟩ = some (.slice aa 0 ac)) (first | go_keep) (fail)
      go_wp2_with (go_at_call 76; (rw [← hW]; clear hW; refine (KA.out W (Below.refl _ _)).mono ?_; rintro e w2 ⟨rfl, m, rfl⟩; have HB2 := hid (fin.out W m HW.out)))
      go_ret
      refine ⟨?_, ?_⟩
      · rw [HR.out]; exact ret_bool (by first | (simp [q2]; done) | (simp <;> intros <;> omega))
      · first | exact HB2.out | exact TR.out HW.out HB1.out | (rw [← hW]; exact HW.out)
    case neg =>
      have q1' : ¬ (an : Int) = 0 := by omega
      go_enter Tryz.func86, Tryz.ntmps86
      go_wp2
      go_region_held3 (fun w2 => w2.cell? ⟨b, o, none⟩ = some (.int .i64 2) ∧ w2.cell? ⟨b, o + 6, none⟩ = some (.slice aa an ac)) (first | go_keep) (fail)
      go_wp2_with (go_at_call 76; (rw [← hW]; clear hW; refine (KA.out W (Below.refl _ _)).mono ?_; rintro e w2 ⟨rfl, m, rfl⟩; have HB2 := hid (fin.out W m HW.out)))
      go_ret
      refine ⟨?_, ?_⟩
      · rw [HR.out]; exact ret_bool (by first | (simp [q2, q1]; done) | (simp <;> intros <;> omega))
      · first | exact HB2.out | exact TR.out HW.out HB1.out | (rw [← hW]; exact HW.out)
  case neg =>
    have q2' : ¬ (text.size : Int) ≤ 64 := by omega
    go_enter Tryz.func86, Tryz.ntmps86
    go_wp2
    go_region_held3 (fun w2 => w2.cell? ⟨b, o, none⟩ = some (.int .i64 2) ∧ w2.cell? ⟨b, o + 6, none⟩ = some (.slice aa an ac)) (first | go_keep) (fail)
    go_wp2_with (go_at_call 76; (rw [← hW]; clear hW; refine (KA.out W (Below.refl _ _)).mono ?_; rintro e w2 ⟨rfl, m, rfl⟩; have HB2 := hid (fin.out W m HW.out)))
    go_ret
    refine ⟨?_, ?_⟩
    · rw [HR.out]; exact ret_bool (by first | (simp [q2]; done) | (simp <;> intros <;> omega))
    · first | exact HB2.out | exact TR.out HW.out HB1.out | (rw [← hW]; exact HW.out)

set_option maxRecDepth 100000 in
set_option maxHeartbeats 4000000 in
theorem isRightE_3 (w : World) (h : EH) (d : EHr w h) (hm : MX w) (hk : h.kind = 3) : Calls Tryz.prog 86 #[.pointer (some ⟨h.b, h.o, none⟩)] w fun e w' => e = .returned (.bool (rightE h)) ∧ Below w.heap.size w w' := by
  have TR : Hid (∀ {Z x y : World}, Below Z.heap.size Z x → Below x.heap.size x y → Below Z.heap.size Z y) := hid (fun h1 h2 => h1.trans (h2.mono h1.size))
  have ha : (h.an : Int) ≤ 1000000 := by have := d.ab; omega
  have hnn : (h.nn : Int) ≤ 1000000 := by have := d.nb; omega
  have htx : (h.text.size : Int) ≤ 9223372036854775807 := by have := d.t; omega
  have cell : ∀ {p : Addr} {v : Value} (o : Obj), w.cell? p = some v → (w.alloc o).cell? p = some v := fun o hc => (((Below.refl w.heap.size w).alloc (Nat.le_refl _) o).cell (World.block_lt_of_cell? w _ hc)).trans hc
  have c0 := d.c0
  have c6 := d.c6
  have C0 := fun o => cell o d.c0
  have C1 := fun o => cell o d.c1
  have C2 := fun o => cell o d.c2
  have C3 := fun o => cell o d.c3
  have C4 := fun o => cell o d.c4
  have C5 := fun o => cell o d.c5
  have C6 := fun o => cell o d.c6
  obtain ⟨W, hW⟩ : ∃ W, W = ((w.alloc (.cells #[.int .i64 3, .int .i64 0, .int .i64 h.int, .string ⟨#[]⟩, .string ⟨#[]⟩, .slice none 0 0, .slice h.aa h.an h.ac, .int .i64 0] 28)).drew : World) := ⟨_, rfl⟩
  have hb : W.heap[w.heap.size]? = some (.cells (meantE h).cs 28 (0, 0)) := by
    rw [hW]
    refine (heap_alloc_new w _).trans ?_
    simp [meantE, EH.cs, emp, hk]
  have hbw : Below w.heap.size w W := by rw [hW]; exact ((Below.refl _ w).alloc (Nat.le_refl _) _).drew
  have KA : Hid (∀ w1 : World, Below W.heap.size W w1 → Calls Tryz.prog 76 #[.pointer (some ⟨h.b, h.o, none⟩), .pointer (some ⟨w.heap.size, 0, none⟩)] w1 fun e w' => e = .returned (.bool (alikeE h (meantE h))) ∧ ∃ m, w' = w1.drewN m) := hid (fun w1 hb1 => by
    have dd := d.below (Nat.le_refl _) (hbw.trans (hb1.mono hbw.size))
    exact alikeE_any w1 h { meantE h with b := w.heap.size, o := 0 } dd (boxE dd ((hb1.block _ (Array.getElem?_eq_some_iff.1 hb).1).trans hb) (by simp [meantE, hk]) (by simp [meantE, hk]) (by simp [meantE, hk]) (by simp [meantE, hk]) rfl))
  have HW := hid hbw
  have KS : Hid (∀ w1 : World, Below w.heap.size w w1 → Calls Tryz.prog 114 #[.string h.name] w1 fun e w' => e = .returned (.bool (smallB h.name)) ∧ Below w1.heap.size w1 w') := hid (fun w1 hb1 => isSmall_any h.name d.n w1 (hm.below hm.lt hb1))
  have KG : Hid (∀ w1 : World, Below w.heap.size w w1 → Calls Tryz.prog 111 #[.string h.name] w1 fun e w' => e = .returned (.bool (greatB h.name)) ∧ Below w1.heap.size w1 w') := hid (fun w1 hb1 => isGreat_any h.name d.n w1 (hm.below hm.lt hb1))
  have KF : Hid (∀ w1 : World, Below w.heap.size w w1 → Calls Tryz.prog 118 #[.slice h.na h.nn h.nc] w1 fun e w' => e = .returned (.bool (fieldsB h.names)) ∧ Below w1.heap.size w1 w') := hid (fun w1 hb1 => areFields_any w1 h.na h.nn h.nc h.names d.nl d.nb (d.nr.below (Nat.le_refl _) hb1) d.ns (hm.below hm.lt hb1))
  have CN : Hid (∀ w1 : World, Below w.heap.size w w1 → w1.cell? ⟨h.b, h.o + 5, none⟩ = some (.slice h.na h.nn h.nc)) := hid (fun w1 hb1 => belowCell d.c5 (Nat.le_refl _) hb1)
  have HR : Hid (rightE h = (((decide (h.int = 0) || decide (h.int = 1)) && decide (h.an = 0)) && alikeE h (meantE h))) := hid (by unfold rightE okE; simp [hk])
  have fin : Hid (∀ (w1 : World) (m : Nat), Below w.heap.size w w1 → Below w.heap.size w (w1.drewN m)) := hid (fun w1 m hb => bel_drewN hb m)
  generalize alikeE h (meantE h) = al at *
  generalize rightE h = res at *
  generalize smallB h.name = sm at *
  generalize greatB h.name = gr at *
  generalize fieldsB h.names = fi at *
  clear d hm hb hbw cell
  obtain ⟨b, o, kind, op, int, text, name, na, nn, nc, aa, an, ac, pos, names⟩ := h
  simp only at c0 c6 C0 C1 C2 C3 C4 C5 C6 hW KA KS KG KF CN HR hk ha hnn htx ⊢
  subst hk
  by_cases q3 : int = 0
  case pos =>
    subst q3
    by_cases q1 : an = 0
    case pos =>
      subst q1
      go_enter Tryz.func86, Tryz.ntmps86
      go_wp2
      go_region_held3 (fun w2 => w2.cell? ⟨b, o, none⟩ = some (.int .i64 3) ∧ w2.cell? ⟨b, o + 6, none⟩ = some (.slice aa 0 ac)) (first | go_keep) (fail)
      go_wp2_with (go_at_call 76; (rw [← hW]; clear hW; refine (KA.out W (Below.refl _ _)).mono ?_; rintro e w2 ⟨rfl, m, rfl⟩; have HB2 := hid (fin.out W m HW.out)))
      go_ret
      refine ⟨?_, ?_⟩
      · rw [HR.out]; exact ret_bool (by first | (simp; done) | (simp <;> intros <;> omega))
      · first | exact HB2.out | exact TR.out HW.out HB1.out | (rw [← hW]; exact HW.out)
    case neg =>
      have q1' : ¬ (an : Int) = 0 := by omega
      go_enter Tryz.func86, Tryz.ntmps86
      go_wp2
      go_region_held3 (fun w2 => w2.cell? ⟨b, o, none⟩ = some (.int .i64 3) ∧ w2.cell? ⟨b, o + 6, none⟩ = some (.slice aa an ac)) (first | go_keep) (fail)
      go_wp2_with (go_at_call 76; (rw [← hW]; clear hW; refine (KA.out W (Below.refl _ _)).mono ?_; rintro e w2 ⟨rfl, m, rfl⟩; have HB2 := hid (fin.out W m HW.out)))
      go_ret
      refine ⟨?_, ?_⟩
      · rw [HR.out]; exact ret_bool (by first | (simp [q1]; done) | (simp <;> intros <;> omega))
      · first | exact HB2.out | exact TR.out HW.out HB1.out | (rw [← hW]; exact HW.out)
  case neg =>
    have q3' : (int == 0) = false := by simpa using q3
    by_cases q2 : int = 1
    case pos =>
      subst q2
      by_cases q1 : an = 0
      case pos =>
        subst q1
        go_enter Tryz.func86, Tryz.ntmps86
        go_wp2
        go_region_held3 (fun w2 => w2.cell? ⟨b, o, none⟩ = some (.int .i64 3) ∧ w2.cell? ⟨b, o + 6, none⟩ = some (.slice aa 0 ac)) (first | go_keep) (fail)
        go_wp2_with (go_at_call 76; (rw [← hW]; clear hW; refine (KA.out W (Below.refl _ _)).mono ?_; rintro e w2 ⟨rfl, m, rfl⟩; have HB2 := hid (fin.out W m HW.out)))
        go_ret
        refine ⟨?_, ?_⟩
        · rw [HR.out]; exact ret_bool (by first | (simp [q3]; done) | (simp <;> intros <;> omega))
        · first | exact HB2.out | exact TR.out HW.out HB1.out | (rw [← hW]; exact HW.out)
      case neg =>
        have q1' : ¬ (an : Int) = 0 := by omega
        go_enter Tryz.func86, Tryz.ntmps86
        go_wp2
        go_region_held3 (fun w2 => w2.cell? ⟨b, o, none⟩ = some (.int .i64 3) ∧ w2.cell? ⟨b, o + 6, none⟩ = some (.slice aa an ac)) (first | go_keep) (fail)
        go_wp2_with (go_at_call 76; (rw [← hW]; clear hW; refine (KA.out W (Below.refl _ _)).mono ?_; rintro e w2 ⟨rfl, m, rfl⟩; have HB2 := hid (fin.out W m HW.out)))
        go_ret
        refine ⟨?_, ?_⟩
        · rw [HR.out]; exact ret_bool (by first | (simp [q3, q1]; done) | (simp <;> intros <;> omega))
        · first | exact HB2.out | exact TR.out HW.out HB1.out | (rw [← hW]; exact HW.out)
    case neg =>
      have q2' : (int == 1) = false := by simpa using q2
      go_enter Tryz.func86, Tryz.ntmps86
      go_wp2
      go_region_held3 (fun w2 => w2.cell? ⟨b, o, none⟩ = some (.int .i64 3) ∧ w2.cell? ⟨b, o + 6, none⟩ = some (.slice aa an ac)) (first | go_keep) (fail)
      go_wp2_with (go_at_call 76; (rw [← hW]; clear hW; refine (KA.out W (Below.refl _ _)).mono ?_; rintro e w2 ⟨rfl, m, rfl⟩; have HB2 := hid (fin.out W m HW.out)))
      go_ret
      refine ⟨?_, ?_⟩
      · rw [HR.out]; exact ret_bool (by first | (simp [q3, q2]; done) | (simp <;> intros <;> omega))
      · first | exact HB2.out | exact TR.out HW.out HB1.out | (rw [← hW]; exact HW.out)

set_option maxRecDepth 100000 in
set_option maxHeartbeats 4000000 in
theorem isRightE_4 (w : World) (h : EH) (d : EHr w h) (hm : MX w) (hk : h.kind = 4) : Calls Tryz.prog 86 #[.pointer (some ⟨h.b, h.o, none⟩)] w fun e w' => e = .returned (.bool (rightE h)) ∧ Below w.heap.size w w' := by
  have TR : Hid (∀ {Z x y : World}, Below Z.heap.size Z x → Below x.heap.size x y → Below Z.heap.size Z y) := hid (fun h1 h2 => h1.trans (h2.mono h1.size))
  have ha : (h.an : Int) ≤ 1000000 := by have := d.ab; omega
  have hnn : (h.nn : Int) ≤ 1000000 := by have := d.nb; omega
  have htx : (h.text.size : Int) ≤ 9223372036854775807 := by have := d.t; omega
  have cell : ∀ {p : Addr} {v : Value} (o : Obj), w.cell? p = some v → (w.alloc o).cell? p = some v := fun o hc => (((Below.refl w.heap.size w).alloc (Nat.le_refl _) o).cell (World.block_lt_of_cell? w _ hc)).trans hc
  have c0 := d.c0
  have c6 := d.c6
  have C0 := fun o => cell o d.c0
  have C1 := fun o => cell o d.c1
  have C2 := fun o => cell o d.c2
  have C3 := fun o => cell o d.c3
  have C4 := fun o => cell o d.c4
  have C5 := fun o => cell o d.c5
  have C6 := fun o => cell o d.c6
  obtain ⟨W, hW⟩ : ∃ W, W = ((w.alloc (.cells #[.int .i64 4, .int .i64 0, .int .i64 0, .string ⟨#[]⟩, .string h.name, .slice none 0 0, .slice h.aa h.an h.ac, .int .i64 0] 28)).drew : World) := ⟨_, rfl⟩
  have hb : W.heap[w.heap.size]? = some (.cells (meantE h).cs 28 (0, 0)) := by
    rw [hW]
    refine (heap_alloc_new w _).trans ?_
    simp [meantE, EH.cs, emp, hk]
  have hbw : Below w.heap.size w W := by rw [hW]; exact ((Below.refl _ w).alloc (Nat.le_refl _) _).drew
  have KA : Hid (∀ w1 : World, Below W.heap.size W w1 → Calls Tryz.prog 76 #[.pointer (some ⟨h.b, h.o, none⟩), .pointer (some ⟨w.heap.size, 0, none⟩)] w1 fun e w' => e = .returned (.bool (alikeE h (meantE h))) ∧ ∃ m, w' = w1.drewN m) := hid (fun w1 hb1 => by
    have dd := d.below (Nat.le_refl _) (hbw.trans (hb1.mono hbw.size))
    exact alikeE_any w1 h { meantE h with b := w.heap.size, o := 0 } dd (boxE dd ((hb1.block _ (Array.getElem?_eq_some_iff.1 hb).1).trans hb) (by simp [meantE, hk]) (by simp [meantE, hk]) (by simp [meantE, hk]) (by simp [meantE, hk]) rfl))
  have HW := hid hbw
  have KS : Hid (∀ w1 : World, Below w.heap.size w w1 → Calls Tryz.prog 114 #[.string h.name] w1 fun e w' => e = .returned (.bool (smallB h.name)) ∧ Below w1.heap.size w1 w') := hid (fun w1 hb1 => isSmall_any h.name d.n w1 (hm.below hm.lt hb1))
  have KG : Hid (∀ w1 : World, Below w.heap.size w w1 → Calls Tryz.prog 111 #[.string h.name] w1 fun e w' => e = .returned (.bool (greatB h.name)) ∧ Below w1.heap.size w1 w') := hid (fun w1 hb1 => isGreat_any h.name d.n w1 (hm.below hm.lt hb1))
  have KF : Hid (∀ w1 : World, Below w.heap.size w w1 → Calls Tryz.prog 118 #[.slice h.na h.nn h.nc] w1 fun e w' => e = .returned (.bool (fieldsB h.names)) ∧ Below w1.heap.size w1 w') := hid (fun w1 hb1 => areFields_any w1 h.na h.nn h.nc h.names d.nl d.nb (d.nr.below (Nat.le_refl _) hb1) d.ns (hm.below hm.lt hb1))
  have CN : Hid (∀ w1 : World, Below w.heap.size w w1 → w1.cell? ⟨h.b, h.o + 5, none⟩ = some (.slice h.na h.nn h.nc)) := hid (fun w1 hb1 => belowCell d.c5 (Nat.le_refl _) hb1)
  have HR : Hid (rightE h = ((smallB h.name && decide (h.an = 0)) && alikeE h (meantE h))) := hid (by unfold rightE okE; simp [hk])
  have fin : Hid (∀ (w1 : World) (m : Nat), Below w.heap.size w w1 → Below w.heap.size w (w1.drewN m)) := hid (fun w1 m hb => bel_drewN hb m)
  generalize alikeE h (meantE h) = al at *
  generalize rightE h = res at *
  generalize smallB h.name = sm at *
  generalize greatB h.name = gr at *
  generalize fieldsB h.names = fi at *
  clear d hm hb hbw cell
  obtain ⟨b, o, kind, op, int, text, name, na, nn, nc, aa, an, ac, pos, names⟩ := h
  simp only at c0 c6 C0 C1 C2 C3 C4 C5 C6 hW KA KS KG KF CN HR hk ha hnn htx ⊢
  subst hk
  cases sm
  case false =>
    go_enter Tryz.func86, Tryz.ntmps86
    go_wp2
    go_region_held3 (fun w2 => w2.cell? ⟨b, o, none⟩ = some (.int .i64 4) ∧ w2.cell? ⟨b, o + 6, none⟩ = some (.slice aa an ac)) (first | go_keep) (fail)
    go_wp2_with (first
      | (go_at_call 114; (rw [← hW]; clear hW; refine (KS.out W HW.out).mono ?_; rintro e w1 ⟨rfl, hb1⟩; have HB1 := hid hb1; clear hb1))
      | (go_at_call 76; (have hno := HB1; refine (KA.out w1 HB1.out).mono ?_; rintro e w2 ⟨rfl, m, rfl⟩; have HB2 := hid (fin.out w1 m (TR.out HW.out HB1.out))))
      | (go_at_call 76; (rw [← hW]; clear hW; refine (KA.out W (Below.refl _ _)).mono ?_; rintro e w2 ⟨rfl, m, rfl⟩; have HB2 := hid (fin.out W m HW.out))))
    go_ret
    refine ⟨?_, ?_⟩
    · rw [HR.out]; exact ret_bool (by first | (simp; done) | (simp <;> intros <;> omega))
    · first | exact HB2.out | exact TR.out HW.out HB1.out | (rw [← hW]; exact HW.out)
  case true =>
    by_cases q1 : an = 0
    case pos =>
      subst q1
      go_enter Tryz.func86, Tryz.ntmps86
      go_wp2
      go_region_held3 (fun w2 => w2.cell? ⟨b, o, none⟩ = some (.int .i64 4) ∧ w2.cell? ⟨b, o + 6, none⟩ = some (.slice aa 0 ac)) (first | go_keep) (fail)
      go_wp2_with (first
        | (go_at_call 114; (rw [← hW]; clear hW; refine (KS.out W HW.out).mono ?_; rintro e w1 ⟨rfl, hb1⟩; have HB1 := hid hb1; clear hb1))
        | (go_at_call 76; (have hno := HB1; refine (KA.out w1 HB1.out).mono ?_; rintro e w2 ⟨rfl, m, rfl⟩; have HB2 := hid (fin.out w1 m (TR.out HW.out HB1.out))))
        | (go_at_call 76; (rw [← hW]; clear hW; refine (KA.out W (Below.refl _ _)).mono ?_; rintro e w2 ⟨rfl, m, rfl⟩; have HB2 := hid (fin.out W m HW.out))))
      go_ret
      refine ⟨?_, ?_⟩
      · rw [HR.out]; exact ret_bool (by first | (simp; done) | (simp <;> intros <;> omega))
      · first | exact HB2.out | exact TR.out HW.out HB1.out | (rw [← hW]; exact HW.out)
    case neg =>
      have q1' : ¬ (an : Int) = 0 := by omega
      go_enter Tryz.func86, Tryz.ntmps86
      go_wp2
      go_region_held3 (fun w2 => w2.cell? ⟨b, o, none⟩ = some (.int .i64 4) ∧ w2.cell? ⟨b, o + 6, none⟩ = some (.slice aa an ac)) (first | go_keep) (fail)
      go_wp2_with (first
        | (go_at_call 114; (rw [← hW]; clear hW; refine (KS.out W HW.out).mono ?_; rintro e w1 ⟨rfl, hb1⟩; have HB1 := hid hb1; clear hb1))
        | (go_at_call 76; (have hno := HB1; refine (KA.out w1 HB1.out).mono ?_; rintro e w2 ⟨rfl, m, rfl⟩; have HB2 := hid (fin.out w1 m (TR.out HW.out HB1.out))))
        | (go_at_call 76; (rw [← hW]; clear hW; refine (KA.out W (Below.refl _ _)).mono ?_; rintro e w2 ⟨rfl, m, rfl⟩; have HB2 := hid (fin.out W m HW.out))))
      go_ret
      refine ⟨?_, ?_⟩
      · rw [HR.out]; exact ret_bool (by first | (simp [q1]; done) | (simp <;> intros <;> omega))
      · first | exact HB2.out | exact TR.out HW.out HB1.out | (rw [← hW]; exact HW.out)
end Go.Proofs.YtdfambocenohgaaGreatDoor

