/- The document's tokens: the walk. -/
import Derived.Test.YtebhmalegdpibaaDoorP2
namespace Go.Proofs.YtebhmalegdpibaaDoor
open Go.RowKit Go.Deep
set_option linter.unusedVariables false
set_option linter.unusedSimpArgs false

theorem nbl {c : UInt8} (h : isBl c = false) : ((c.toNat : Int) == 32) = false ∧ ((c.toNat : Int) == 9) = false ∧ ((c.toNat : Int) == 10) = false ∧ ((c.toNat : Int) == 13) = false := by
  have e : ∀ k : UInt8, isBl k = true → ((c.toNat : Int) == (k.toNat : Int)) = false := fun k hk => by
    rw [beq_eq_false_iff_ne]
    intro e
    rw [UInt8.toNat_inj.1 (show c.toNat = k.toNat by omega), hk] at h
    cases h
  exact ⟨e 32 (by decide), e 9 (by decide), e 10 (by decide), e 13 (by decide)⟩
theorem neK {c : UInt8} (k : UInt8) (h : ¬ c = k) : ((c.toNat : Int) == (k.toNat : Int)) = false := by
  rw [beq_eq_false_iff_ne]
  exact fun e => h (UInt8.toNat_inj.1 (show c.toNat = k.toNat by omega))
theorem letterIs {c : UInt8} {b : Bool} (h : isLt c = b) (W : World) : Calls Tryd.prog 24 #[.int .u8 (c.toNat : Int)] W fun e w' => e = .returned (.bool b) ∧ w' = W := by
  rw [← h]; exact refLetter c W
theorem digitIs {c : UInt8} {b : Bool} (h : isDg c = b) (W : World) : Calls Tryd.prog 25 #[.int .u8 (c.toNat : Int)] W fun e w' => e = .returned (.bool b) ∧ w' = W := by
  rw [← h]; exact refDigit c W
theorem isPt_of {c : UInt8} : isPt c = (isLt c || isDg c) := rfl
set_option maxRecDepth 100000 in
set_option maxHeartbeats 4000000 in
theorem refTokens_walk (s : ByteArray) (hs : s.size ≤ 4096) (w : World) : Calls Tryd.prog 11 #[.string s] w fun e w' => TokP w.heap.size (lexG 0 0 s.data.toList) e w' ∧ Below w.heap.size w w' := by
  have hz : ¬ (4096 : Int) < (s.size : Int) := by omega
  have hsL : s.data.toList.length = s.size := by rw [← Lib.size_eq]
  have HSL := hid hsL
  clear hsL
  go_enter Tryd.func11, Tryd.ntmps11
  go_wp2
  go_loopg [5, 6] s.size (fun gf v ii wx => ∃ (pos : Nat) (acc : List LTok), ii = .int .i64 (pos : Int) ∧ RInv w s gf pos v acc wx)
  case atStart => exact ⟨0, [], rfl, ⟨Below.refl _ w, TRow.nil _ _, by rw [catE_nil]; rfl, by omega, by omega, by simp⟩⟩
  case round =>
    obtain ⟨pos, acc, rfl, I⟩ := hrel
    obtain ⟨wo, hwo⟩ : ∃ wo, wo = wr := ⟨_, rfl⟩
    subst hwo
    have hB1 : w.heap.size ≤ wo.heap.size := I.bel.size
    have Hrow := hid I.row
    have Hal : Hid (acc.length ≤ 1000000) := hid (by have := I.al; have := I.le; omega)
    have HI := hid I
    clear I
    by_cases hps : pos < s.size
    · obtain ⟨g', rfl⟩ : ∃ g', gk = g' + 1 := ⟨gk - 1, by have := HI.out.fuel; omega⟩
      have hps' : (pos : Int) < (s.size : Int) := by omega
      obtain ⟨c, hc, hc1, hdr⟩ := at_list s pos hps
      obtain ⟨T, hT⟩ : ∃ T, T = s.data.toList.drop (pos + 1) := ⟨_, rfl⟩
      rw [← hT] at hdr
      have HD := hid hdr
      have HT := hid hT
      have hlen : pos + (T.length + 1) = s.size := by have := congrArg List.length hdr; rw [List.length_drop, List.length_cons, HSL.out] at this; omega
      have HLN := hid hlen
      clear hc1 hdr hT hlen
      cases hbl : isBl c
      · obtain ⟨b1, b2, b3, b4⟩ := nbl hbl
        have Hbl := hid hbl
        clear hbl
        by_cases hn : c = 35
        · subst hn
          have hN1 : 1 ≤ noteF (35 :: T) := runF_pos _ _ _ (by decide)
          have hN2 : noteF (35 :: T) ≤ T.length + 1 := runF_le _ _
          have hz0 := RunI.zero (fun c => !(c == 10)) s.data.toList pos s.size (by omega)
          rw [HD.out] at hz0
          have HZ : Hid (RunI (fun c => !(c == 10)) s.data.toList pos (noteF (35 :: T)) s.size pos s.size) := hid hz0
          obtain ⟨N, hN⟩ : ∃ N, N = noteF (35 :: T) := ⟨_, rfl⟩
          rw [← hN] at HZ hN1 hN2
          have HN := hid hN
          clear hN hz0
          go_wp2
          go_loopg [6] s.size (fun g ii wx => ∃ j : Nat, ii = .int .i64 (j : Int) ∧ wx = wo ∧ RunI (fun c => !(c == 10)) s.data.toList pos N s.size j g)
          case atStart => exact ⟨pos, rfl, rfl, HZ.out⟩
          case round =>
            obtain ⟨j, rfl, rfl, J⟩ := hrel
            have HJ := hid J
            have hj2 : (j : Int) ≤ (s.size : Int) := by have := J.b; omega
            clear J
            have Hfin : Hid (j = pos + N → RInv w s g' j u5 acc wr) := hid (fun e => by
              subst e
              exact HI.out.next (by omega) (by have := HLN.out; omega) HI.out.bel Hrow.out (by rw [HD.out, lexG_noteN _ _ Hbl.out rfl, ← HN.out, ← List.drop_drop, HD.out]) (by omega))
            by_cases hj : j < s.size
            · have hj' : (j : Int) < (s.size : Int) := by omega
              obtain ⟨g2, rfl⟩ : ∃ g2, gk = g2 + 1 := ⟨gk - 1, by have := HJ.out.c; omega⟩
              obtain ⟨d, hd, hd1, hdr⟩ := at_list s j hj
              have HD2 := hid hdr
              clear hd1 hdr
              by_cases hd10 : d = 10
              · have hx : ((d.toNat : Int) != 10) = false := by subst hd10; rfl
                have hx2 : (d.toNat : Int) = 10 := by subst hd10; rfl
                have Hx := hid hd10
                clear hd10
                go_wp2
                go_roundg g'
                case measure => omega
                case rel => exact ⟨j, acc, rfl, Hfin.out (HJ.out.stop HD2.out (by rw [Hx.out]; rfl))⟩
              · have hx : ((d.toNat : Int) != 10) = true := by have := neK 10 hd10; simpa [bne] using this
                have hx2 : ¬ (d.toNat : Int) = 10 := by have := neK 10 hd10; simpa using this
                have Hx := hid hd10
                clear hd10
                go_wp2
                go_roundg g2
                case measure => omega
                case rel => exact ⟨j + 1, by go_num, rfl, HJ.out.step hj HD2.out (by have := Hx.out; simpa using this)⟩
            · have hj' : ¬ (j : Int) < (s.size : Int) := by omega
              go_wp2
              go_roundg g'
              case measure => omega
              case rel => exact ⟨j, acc, rfl, Hfin.out (HJ.out.ends hj HSL.out)⟩
        · have b5 : ((c.toNat : Int) == 35) = false := neK 35 hn
          have Hn := hid hn
          clear hn
          cases hlt : isLt c
          · have cl := letterIs hlt
            have Hlt := hid hlt
            clear hlt
            cases hdg : isDg c
            · have cd := digitIs hdg
              have Hdg := hid hdg
              clear hdg
              by_cases hq : c = 34
              · subst hq
                have hm := refText s pos hs hps wo
                rw [← HT.out] at hm
                cases htx : txR T with
                | none =>
                  rw [htx] at hm
                  have Hf := hid (first_none T htx)
                  clear htx
                  go_wp2_with (first
                    | (go_at_call 24; refine (cl _).mono ?_; rintro e wo ⟨rfl, rfl⟩)
                    | (go_at_call 25; refine (cd _).mono ?_; rintro e wo ⟨rfl, rfl⟩)
                    | (go_at_call 27; refine hm.mono ?_; rintro e w2 ⟨rfl, hb2⟩))
                  refine bodyPost_ret (v := .tuple #[.slice none 0 0, .int .i64 (pos : Int), .int .i64 52]) (by simp [results, Tryd.results11, go_sem]) rfl ⟨?_, HI.out.bel.trans (hb2.mono HI.out.bel.size)⟩
                  rw [← HI.out.eq, HD.out, lexG_err _ _ Hbl.out Hn.out (by rw [Hf.out]; decide), Hf.out]
                  rfl
                | some p =>
                  obtain ⟨x, m⟩ := p
                  rw [htx] at hm
                  obtain ⟨f1, f2, f3⟩ := first_some T x m htx
                  obtain ⟨y, hy⟩ : ∃ y, y = ofB x := ⟨_, rfl⟩
                  obtain ⟨E, hE⟩ : ∃ E, E = pos + 1 + m := ⟨_, rfl⟩
                  have hm2 : Calls Tryd.prog 27 #[.string s, .int .i64 (pos : Int)] wo fun e w' => e = .returned (.tuple #[.string y, .int .i64 (E : Int), .bool true]) ∧ Below wo.heap.size wo w' := by rw [hy, hE]; exact hm
                  have Hf1 := hid f1
                  have Hf2 := hid f2
                  have Hf3 := hid f3
                  have HY := hid hy
                  have HE := hid hE
                  clear htx hm f1 f2 f3 hy hE
                  go_wp2_with (first
                    | (go_at_call 24; refine (cl _).mono ?_; rintro e wo ⟨rfl, rfl⟩)
                    | (go_at_call 25; refine (cd _).mono ?_; rintro e wo ⟨rfl, rfl⟩)
                    | (go_at_call 27; refine hm2.mono ?_; rintro e w2 ⟨rfl, hb2⟩)
                    | (at_builtin; refine wpList_appX w2 rfl _ _ rfl _ _ _ _ ⟨4, x, pos⟩ rfl HY.out rfl (by rfl) (by rfl) w.heap.size acc (Hrow.out.below (Nat.le_refl _) hb2) (Nat.le_trans hB1 hb2.size) Hal.out ?_; intro v4 w4 hr4 hg4))
                  go_roundg g'
                  case measure => omega
                  case rel =>
                    refine ⟨E, _, rfl, HI.out.next (by have := HE.out; omega) (by have := HE.out; have := Hf3.out; have := HLN.out; omega) (hg4.below (HI.out.bel.trans (hb2.mono HI.out.bel.size)) (fun k e => (Hrow.out.own k e).1) (Nat.le_trans hB1 hb2.size)) hr4 ?_ (by simp)⟩
                    rw [HE.out, show pos + 1 + m = pos + (m + 1) by omega]
                    exact step_tok acc HD.out Hbl.out Hn.out Hf1.out Hf2.out
              · have b6 : ((c.toNat : Int) == 34) = false := neK 34 hq
                have Hq := hid hq
                clear hq
                have cs := refSign s pos c T hs hps HD.out wo
                have hlen := sgT_len (c :: T)
                obtain ⟨y, hy⟩ : ∃ y, y = ofB (sgT (c :: T)) := ⟨_, rfl⟩
                rw [← hy] at cs
                have hys : y.size = signF (c :: T) := by rw [hy, ofB_size, hlen]
                have hle := signF_le (c :: T)
                by_cases hz0 : signF (c :: T) = 0
                · have hf : firstF (c :: T) = (0, 0, 51) := by simp only [firstF, Hlt.out, Hdg.out, Hq.out, hz0, if_true, Bool.false_eq_true, if_false]
                  have hy0 : (y.toList == []) = true := by
                    rw [hz0] at hlen
                    rw [ByteArray.toList_eq, hy, ofB_list, List.eq_nil_of_length_eq_zero hlen]; rfl
                  have Hf := hid hf
                  clear hf hz0 hlen hys hle hy
                  go_wp2_with (first
                    | (go_at_call 24; refine (cl _).mono ?_; rintro e wo ⟨rfl, rfl⟩)
                    | (go_at_call 25; refine (cd _).mono ?_; rintro e wo ⟨rfl, rfl⟩)
                    | (go_at_call 28; refine cs.mono ?_; rintro e w2 ⟨rfl, hb2⟩))
                  refine bodyPost_ret (v := .tuple #[.slice none 0 0, .int .i64 (pos : Int), .int .i64 51]) (by simp [results, Tryd.results11, go_sem]) rfl ⟨?_, HI.out.bel.trans (hb2.mono HI.out.bel.size)⟩
                  rw [← HI.out.eq, HD.out, lexG_err _ _ Hbl.out Hn.out (by rw [Hf.out]; decide), Hf.out]
                  rfl
                · have hf := first_sg c T Hlt.out Hdg.out Hq.out hz0
                  have hy0 : (y.toList == []) = false := by
                    rw [beq_eq_false_iff_ne]
                    intro e
                    rw [ByteArray.toList_eq] at e
                    have := congrArg List.length e
                    rw [← Lib.size_eq, hys] at this
                    exact hz0 this
                  have hyb : (y.size : Int) ≤ (s.size : Int) := by have := HLN.out; rw [List.length_cons] at hle; omega
                  have hpy : (pos : Int) + (y.size : Int) ≤ (s.size : Int) := by have := HLN.out; rw [List.length_cons] at hle; omega
                  have Hf := hid hf
                  have HY := hid hy
                  have HYS := hid hys
                  have Hz0 := hid hz0
                  clear hf hz0 hlen hys hle hy
                  go_wp2_with (first
                    | (go_at_call 24; refine (cl _).mono ?_; rintro e wo ⟨rfl, rfl⟩)
                    | (go_at_call 25; refine (cd _).mono ?_; rintro e wo ⟨rfl, rfl⟩)
                    | (go_at_call 28; refine cs.mono ?_; rintro e w2 ⟨rfl, hb2⟩)
                    | (at_builtin; refine wpList_appX w2 rfl _ _ rfl _ _ _ _ ⟨5, sgT (c :: T), pos⟩ rfl HY.out rfl (by rfl) (by rfl) w.heap.size acc (Hrow.out.below (Nat.le_refl _) hb2) (Nat.le_trans hB1 hb2.size) Hal.out ?_; intro v4 w4 hr4 hg4))
                  go_roundg g'
                  case measure => omega
                  case rel =>
                    refine ⟨pos + signF (c :: T), _, by have := HYS.out; go_num, HI.out.next (by have := Hz0.out; omega) (by have := HYS.out; omega) (hg4.below (HI.out.bel.trans (hb2.mono HI.out.bel.size)) (fun k e => (Hrow.out.own k e).1) (Nat.le_trans hB1 hb2.size)) hr4 ?_ (by simp)⟩
                    exact step_tok acc HD.out Hbl.out Hn.out Hf.out rfl
            · have cd := digitIs hdg
              have Hdg := hid hdg
              clear hdg
              have hN1 : 1 ≤ runF isDg (c :: T) := runF_pos _ _ _ Hdg.out
              have hN2 : runF isDg (c :: T) ≤ T.length + 1 := runF_le _ _
              have hz0 := RunI.zero isDg s.data.toList pos s.size (by omega)
              rw [HD.out] at hz0
              have hf := first_int c T Hlt.out Hdg.out
              obtain ⟨N, hN⟩ : ∃ N, N = runF isDg (c :: T) := ⟨_, rfl⟩
              rw [← hN] at hz0 hN1 hN2 hf
              have HZ := hid hz0
              have Hf := hid hf
              clear hN hz0 hf
              go_wp2_with (first
                | (go_at_call 24; refine (cl _).mono ?_; rintro e wo ⟨rfl, rfl⟩)
                | (go_at_call 25; refine (cd _).mono ?_; rintro e wo ⟨rfl, rfl⟩))
              go_loopg [6] s.size (fun g ii wx => ∃ j : Nat, ii = .int .i64 (j : Int) ∧ wx = wo ∧ RunI isDg s.data.toList pos N s.size j g)
              case atStart => exact ⟨pos, rfl, rfl, HZ.out⟩
              case round =>
                obtain ⟨j, rfl, rfl, J⟩ := hrel
                have HJ := hid J
                have hj2 : (j : Int) ≤ (s.size : Int) := by have := J.b; omega
                have hj1 : (pos : Int) ≤ (j : Int) := by have := J.a; omega
                clear J
                by_cases hend : j = pos + N
                · have hstop : ¬ j < s.size ∨ ∃ d, (∃ h : j < s.size, s[j]'h = d) ∧ isDg d = false := by
                    by_cases hj : j < s.size
                    · obtain ⟨d, hd, hd1, hdr⟩ := at_list s j hj
                      refine .inr ⟨d, ⟨hj, hd⟩, ?_⟩
                      have h := HJ.out.d
                      rw [hdr] at h
                      cases hp : isDg d
                      · rfl
                      · simp only [runF, hp, if_true] at h; have := HJ.out.a; omega
                    · exact .inl hj
                  have Hend := hid hend
                  have HPl : Hid (((c :: T).take N).length = N) := hid (by rw [List.length_take, List.length_cons]; omega)
                  have HPat : Hid (∀ (i : Nat) (x : UInt8), pos ≤ i → i < pos + N → s.data.toList[i]? = some x → ((c :: T).take N)[i - pos]? = some x) := hid (fun i x h1 h2 h3 => by
                    rw [List.getElem?_take, if_pos (by omega), ← HD.out, List.getElem?_drop, show pos + (i - pos) = i by omega]; exact h3)
                  obtain ⟨P, hP⟩ : ∃ P, P = (c :: T).take N := ⟨_, rfl⟩
                  rw [← hP] at HPl HPat
                  have HP := hid hP
                  have hjN : (j : Int) = (pos : Int) + (N : Int) := by omega
                  clear hend hP
                  have HJN := hid hjN
                  clear hjN
                  have hzz := ZI.zero P pos s.size (by rw [HPl.out]; have := HLN.out; omega)
                  have HZZ := hid hzz
                  clear hzz
                  have hgo : True := trivial
                  rcases hstop with hj | ⟨d, ⟨hj, hd⟩, e2⟩
                  · have hj' : ¬ (j : Int) < (s.size : Int) := by omega
                    go_wp2
                    obtain ⟨wz, hwz⟩ : ∃ wz, wz = wr := ⟨_, rfl⟩
                    subst hwz
                    go_loopg [10] s.size (fun g ii wx => ∃ k : Nat, ii = .int .i64 (k : Int) ∧ wx = wz ∧ ZI P pos k g)
                    case atStart => exact ⟨pos, rfl, rfl, HZZ.out⟩
                    case round =>
                      obtain ⟨k, rfl, rfl, K⟩ := hrel
                      have hk1 : pos ≤ k := K.a
                      have hk2 : k < j := by have := K.a; have := K.b; have := HPl.out; have := HJN.out; omega
                      have hk2' : (k : Int) < (j : Int) := by omega
                      have hks : k < s.size := by omega
                      have hks' : (k : Int) < (s.size : Int) := by omega
                      obtain ⟨x, hx, hx1, _⟩ := at_list s k hks
                      have hxP := HPat.out k x hk1 (by have := HJN.out; omega) hx1
                      have HK := hid K
                      have HxP := hid hxP
                      have hsl := slice_mid s k j (by omega) (by omega)
                      obtain ⟨Y, hY⟩ : ∃ Y, Y = s.extract k j := ⟨_, rfl⟩
                      rw [← hY] at hsl
                      have HY : Hid (k = pos + zN P → Y = ofB (P.drop (zN P))) := hid (fun e => eq_ofB (by
                        have h2 := ext_list s pos N (zN P) (by have := zN_le P; have := HPl.out; omega)
                        rw [HD.out, ← HP.out] at h2
                        rw [hY, e, show j = pos + N by have := HJN.out; omega]; exact h2))
                      clear K hx1 hxP hY
                      have Hfin : Hid (∀ (v4 : Value) (w4 : World), TRow w4 w.heap.size v4 (acc ++ [⟨3, P.drop (zN P), pos⟩]) → Grw wr u5 w4 v4 → RInv w s g' j v4 (acc ++ [⟨3, P.drop (zN P), pos⟩]) w4) := hid (fun v4 w4 hr hg => by
                        have ej : j = pos + N := by have := HJN.out; omega
                        rw [ej]
                        exact HI.out.next (by omega) (by have := HLN.out; omega) (hg.below HI.out.bel (fun k e => (Hrow.out.own k e).1) hB1) hr (step_tok acc HD.out Hbl.out Hn.out Hf.out (by rw [← HP.out, int_text])) (by simp))
                      by_cases hkj : k + 1 < j
                      · have hkj' : (k : Int) + 1 < (j : Int) := by omega
                        by_cases hx48 : x = 48
                        · have h48 : (x.toNat : Int) = 48 := by rw [hx48]; rfl
                          have h48b : ((x.toNat : Int) == 48) = true := by rw [hx48]; rfl
                          obtain ⟨g3, rfl⟩ : ∃ g3, gk = g3 + 1 := ⟨gk - 1, by have := HK.out.c; have := HPl.out; have := HJN.out; omega⟩
                          have Hst := hid (HK.out.step (by have := HPl.out; have := HJN.out; omega) (by rw [← hx48]; exact HxP.out))
                          clear hx48 hsl HY Hfin
                          go_wp2
                          go_roundg g3
                          case measure => omega
                          case rel => exact ⟨k + 1, by go_num, rfl, Hst.out⟩
                        · have h48 : ¬ (x.toNat : Int) = 48 := by have := neK 48 hx48; simpa using this
                          have h48b : ((x.toNat : Int) == 48) = false := neK 48 hx48
                          have HY2 := hid (HY.out (HK.out.stop (by have := HPl.out; have := HJN.out; omega) HxP.out hx48))
                          clear hx48 HY
                          go_wp2_with (at_builtin; refine wpList_appX wr rfl _ _ rfl _ _ _ _ ⟨3, P.drop (zN P), pos⟩ rfl HY2.out rfl (by rfl) (by rfl) w.heap.size acc Hrow.out hB1 Hal.out ?_; intro v4 w4 hr4 hg4)
                          go_roundg g'
                          case measure => omega
                          case rel => exact ⟨j, _, rfl, Hfin.out v4 w4 hr4 hg4⟩
                      · have hkj' : ¬ (k : Int) + 1 < (j : Int) := by omega
                        have HY2 := hid (HY.out (HK.out.ends (by have := HPl.out; have := HJN.out; omega)))
                        clear HY
                        go_wp2_with (at_builtin; refine wpList_appX wr rfl _ _ rfl _ _ _ _ ⟨3, P.drop (zN P), pos⟩ rfl HY2.out rfl (by rfl) (by rfl) w.heap.size acc Hrow.out hB1 Hal.out ?_; intro v4 w4 hr4 hg4)
                        go_roundg g'
                        case measure => omega
                        case rel => exact ⟨j, _, rfl, Hfin.out v4 w4 hr4 hg4⟩
                  · have hj' : (j : Int) < (s.size : Int) := by omega
                    have cd2 := digitIs e2
                    go_wp2_with (go_at_call 25; refine (cd2 _).mono ?_; rintro e wr ⟨rfl, rfl⟩)
                    obtain ⟨wz, hwz⟩ : ∃ wz, wz = wr := ⟨_, rfl⟩
                    subst hwz
                    go_loopg [10] s.size (fun g ii wx => ∃ k : Nat, ii = .int .i64 (k : Int) ∧ wx = wz ∧ ZI P pos k g)
                    case atStart => exact ⟨pos, rfl, rfl, HZZ.out⟩
                    case round =>
                      obtain ⟨k, rfl, rfl, K⟩ := hrel
                      have hk1 : pos ≤ k := K.a
                      have hk2 : k < j := by have := K.a; have := K.b; have := HPl.out; have := HJN.out; omega
                      have hk2' : (k : Int) < (j : Int) := by omega
                      have hks : k < s.size := by omega
                      have hks' : (k : Int) < (s.size : Int) := by omega
                      obtain ⟨x, hx, hx1, _⟩ := at_list s k hks
                      have hxP := HPat.out k x hk1 (by have := HJN.out; omega) hx1
                      have HK := hid K
                      have HxP := hid hxP
                      have hsl := slice_mid s k j (by omega) (by omega)
                      obtain ⟨Y, hY⟩ : ∃ Y, Y = s.extract k j := ⟨_, rfl⟩
                      rw [← hY] at hsl
                      have HY : Hid (k = pos + zN P → Y = ofB (P.drop (zN P))) := hid (fun e => eq_ofB (by
                        have h2 := ext_list s pos N (zN P) (by have := zN_le P; have := HPl.out; omega)
                        rw [HD.out, ← HP.out] at h2
                        rw [hY, e, show j = pos + N by have := HJN.out; omega]; exact h2))
                      clear K hx1 hxP hY
                      have Hfin : Hid (∀ (v4 : Value) (w4 : World), TRow w4 w.heap.size v4 (acc ++ [⟨3, P.drop (zN P), pos⟩]) → Grw wr u5 w4 v4 → RInv w s g' j v4 (acc ++ [⟨3, P.drop (zN P), pos⟩]) w4) := hid (fun v4 w4 hr hg => by
                        have ej : j = pos + N := by have := HJN.out; omega
                        rw [ej]
                        exact HI.out.next (by omega) (by have := HLN.out; omega) (hg.below HI.out.bel (fun k e => (Hrow.out.own k e).1) hB1) hr (step_tok acc HD.out Hbl.out Hn.out Hf.out (by rw [← HP.out, int_text])) (by simp))
                      by_cases hkj : k + 1 < j
                      · have hkj' : (k : Int) + 1 < (j : Int) := by omega
                        by_cases hx48 : x = 48
                        · have h48 : (x.toNat : Int) = 48 := by rw [hx48]; rfl
                          have h48b : ((x.toNat : Int) == 48) = true := by rw [hx48]; rfl
                          obtain ⟨g3, rfl⟩ : ∃ g3, gk = g3 + 1 := ⟨gk - 1, by have := HK.out.c; have := HPl.out; have := HJN.out; omega⟩
                          have Hst := hid (HK.out.step (by have := HPl.out; have := HJN.out; omega) (by rw [← hx48]; exact HxP.out))
                          clear hx48 hsl HY Hfin
                          go_wp2
                          go_roundg g3
                          case measure => omega
                          case rel => exact ⟨k + 1, by go_num, rfl, Hst.out⟩
                        · have h48 : ¬ (x.toNat : Int) = 48 := by have := neK 48 hx48; simpa using this
                          have h48b : ((x.toNat : Int) == 48) = false := neK 48 hx48
                          have HY2 := hid (HY.out (HK.out.stop (by have := HPl.out; have := HJN.out; omega) HxP.out hx48))
                          clear hx48 HY
                          go_wp2_with (at_builtin; refine wpList_appX wr rfl _ _ rfl _ _ _ _ ⟨3, P.drop (zN P), pos⟩ rfl HY2.out rfl (by rfl) (by rfl) w.heap.size acc Hrow.out hB1 Hal.out ?_; intro v4 w4 hr4 hg4)
                          go_roundg g'
                          case measure => omega
                          case rel => exact ⟨j, _, rfl, Hfin.out v4 w4 hr4 hg4⟩
                      · have hkj' : ¬ (k : Int) + 1 < (j : Int) := by omega
                        have HY2 := hid (HY.out (HK.out.ends (by have := HPl.out; have := HJN.out; omega)))
                        clear HY
                        go_wp2_with (at_builtin; refine wpList_appX wr rfl _ _ rfl _ _ _ _ ⟨3, P.drop (zN P), pos⟩ rfl HY2.out rfl (by rfl) (by rfl) w.heap.size acc Hrow.out hB1 Hal.out ?_; intro v4 w4 hr4 hg4)
                        go_roundg g'
                        case measure => omega
                        case rel => exact ⟨j, _, rfl, Hfin.out v4 w4 hr4 hg4⟩
                · have hj : j < s.size := by
                    rcases Nat.lt_or_ge j s.size with h | h
                    · exact h
                    · exact absurd (HJ.out.ends (by omega) HSL.out) hend
                  have hj' : (j : Int) < (s.size : Int) := by omega
                  obtain ⟨g2, rfl⟩ : ∃ g2, gk = g2 + 1 := ⟨gk - 1, by have := HJ.out.c; omega⟩
                  obtain ⟨d, hd, hd1, hdr⟩ := at_list s j hj
                  have hpt : isDg d = true := by
                    cases hp : isDg d
                    · exact absurd (HJ.out.stop hdr hp) hend
                    · rfl
                  have Hst := hid (HJ.out.step hj hdr hpt)
                  have cd2 := digitIs hpt
                  clear hend hdr hd1 hpt
                  go_wp2_with (go_at_call 25; refine (cd2 _).mono ?_; rintro e wr ⟨rfl, rfl⟩)
                  go_roundg g2
                  case measure => omega
                  case rel => exact ⟨j + 1, by go_num, rfl, Hst.out⟩
          · have cl := letterIs hlt
            have Hlt := hid hlt
            clear hlt
            have hN1 : 1 ≤ runF isPt (c :: T) := runF_pos _ _ _ (isLt_plain Hlt.out).2.2
            have hN2 : runF isPt (c :: T) ≤ T.length + 1 := runF_le _ _
            have hz0 := RunI.zero isPt s.data.toList pos s.size (by omega)
            rw [HD.out] at hz0
            have hf := first_word c T Hlt.out
            obtain ⟨N, hN⟩ : ∃ N, N = runF isPt (c :: T) := ⟨_, rfl⟩
            rw [← hN] at hz0 hN1 hN2 hf
            have HZ := hid hz0
            have Hf := hid hf
            clear hN hz0 hf
            go_wp2_with (go_at_call 24; refine (cl _).mono ?_; rintro e wo ⟨rfl, rfl⟩)
            go_loopg [6] s.size (fun g ii wx => ∃ j : Nat, ii = .int .i64 (j : Int) ∧ wx = wo ∧ RunI isPt s.data.toList pos N s.size j g)
            case atStart => exact ⟨pos, rfl, rfl, HZ.out⟩
            case round =>
              obtain ⟨j, rfl, rfl, J⟩ := hrel
              have HJ := hid J
              have hj2 : (j : Int) ≤ (s.size : Int) := by have := J.b; omega
              have hj1 : (pos : Int) ≤ (j : Int) := by have := J.a; omega
              have hsl := slice_mid s pos j (by omega) (by omega)
              obtain ⟨X, hX⟩ : ∃ X, X = s.extract pos j := ⟨_, rfl⟩
              rw [← hX] at hsl
              have HX : Hid (j = pos + N → X = ofB ((c :: T).take N)) := hid (fun e => eq_ofB (by
                have := ext_list s pos N 0 (by omega)
                rw [HD.out] at this
                rw [hX, e]; simpa using this))
              clear J hX
              have hfin : ∀ (k : Nat) (v4 : Value) (w4 : World), k = (if isWd ((c :: T).take N) then 2 else 1) → TRow w4 w.heap.size v4 (acc ++ [⟨k, (c :: T).take N, pos⟩]) → Below w.heap.size w w4 → j = pos + N → RInv w s g' j v4 (acc ++ [⟨k, (c :: T).take N, pos⟩]) w4 := fun k v4 w4 hk hr hb e => by
                subst e
                have h1 := isLt_plain Hlt.out
                exact HI.out.next (by omega) (by have := HLN.out; omega) hb hr (step_tok acc HD.out Hbl.out Hn.out (by rw [Hf.out, hk]) (tokText_name _ _ (by rw [hk]; split <;> decide) (by rw [hk]; split <;> decide))) (by simp)
              have Hfin := hid hfin
              clear hfin
              by_cases hend : j = pos + N
              · have hX2 := HX.out hend
                have cw := refWord X wr
                rw [hX2, ofB_list, ← hX2] at cw
                have hstop : ¬ j < s.size ∨ ∃ d, (∃ h : j < s.size, s[j]'h = d) ∧ isLt d = false ∧ isDg d = false := by
                  by_cases hj : j < s.size
                  · obtain ⟨d, hd, hd1, hdr⟩ := at_list s j hj
                    refine .inr ⟨d, ⟨hj, hd⟩, ?_⟩
                    have h := HJ.out.d
                    rw [hdr] at h
                    cases hp : isPt d
                    · unfold isPt at hp; simpa using hp
                    · simp only [runF, hp, if_true] at h; have := HJ.out.a; omega
                  · exact .inl hj
                have Hend := hid hend
                have HX2 := hid hX2
                clear hend hX2 HX
                have harm : ∀ b : Bool, isWd ((c :: T).take N) = b → True := fun _ _ => trivial
                cases hwd : isWd ((c :: T).take N) <;> rw [hwd] at cw
                all_goals
                  have Hwd := hid hwd
                  clear hwd harm
                  rcases hstop with hj | ⟨d, ⟨hj, hd⟩, e1, e2⟩
                  · have hj' : ¬ (j : Int) < (s.size : Int) := by omega
                    go_wp2_with (first
                      | (go_at_call 26; refine cw.mono ?_; rintro e w2 ⟨rfl, hb2⟩)
                      | (at_builtin; refine wpList_appX w2 rfl _ _ rfl _ _ _ _ ⟨if isWd ((c :: T).take N) then 2 else 1, (c :: T).take N, pos⟩ (by rw [Hwd.out]; rfl) HX2.out rfl (by rfl) (by rfl) w.heap.size acc (Hrow.out.below (Nat.le_refl _) hb2) (Nat.le_trans hB1 hb2.size) Hal.out ?_; intro v4 w4 hr4 hg4))
                    go_roundg g'
                    case measure => omega
                    case rel => exact ⟨j, _, rfl, Hfin.out _ v4 w4 rfl hr4 (hg4.below (HI.out.bel.trans (hb2.mono HI.out.bel.size)) (fun k e => (Hrow.out.own k e).1) (Nat.le_trans hB1 hb2.size)) Hend.out⟩
                  · have hj' : (j : Int) < (s.size : Int) := by omega
                    have cl2 := letterIs e1
                    have cd2 := digitIs e2
                    go_wp2_with (first
                      | (go_at_call 24; refine (cl2 _).mono ?_; rintro e wr ⟨rfl, rfl⟩)
                      | (go_at_call 25; refine (cd2 _).mono ?_; rintro e wr ⟨rfl, rfl⟩)
                      | (go_at_call 26; refine cw.mono ?_; rintro e w2 ⟨rfl, hb2⟩)
                      | (at_builtin; refine wpList_appX w2 rfl _ _ rfl _ _ _ _ ⟨if isWd ((c :: T).take N) then 2 else 1, (c :: T).take N, pos⟩ (by rw [Hwd.out]; rfl) HX2.out rfl (by rfl) (by rfl) w.heap.size acc (Hrow.out.below (Nat.le_refl _) hb2) (Nat.le_trans hB1 hb2.size) Hal.out ?_; intro v4 w4 hr4 hg4))
                    go_roundg g'
                    case measure => omega
                    case rel => exact ⟨j, _, rfl, Hfin.out _ v4 w4 rfl hr4 (hg4.below (HI.out.bel.trans (hb2.mono HI.out.bel.size)) (fun k e => (Hrow.out.own k e).1) (Nat.le_trans hB1 hb2.size)) Hend.out⟩
              · have hj : j < s.size := by
                  rcases Nat.lt_or_ge j s.size with h | h
                  · exact h
                  · exact absurd (HJ.out.ends (by omega) HSL.out) hend
                have hj' : (j : Int) < (s.size : Int) := by omega
                obtain ⟨g2, rfl⟩ : ∃ g2, gk = g2 + 1 := ⟨gk - 1, by have := HJ.out.c; omega⟩
                obtain ⟨d, hd, hd1, hdr⟩ := at_list s j hj
                have hpt : isPt d = true := by
                  cases hp : isPt d
                  · exact absurd (HJ.out.stop hdr hp) hend
                  · rfl
                have Hst := hid (HJ.out.step hj hdr hpt)
                clear hend hsl HX hdr hd1
                cases e1 : isLt d
                · have e2 : isDg d = true := by unfold isPt at hpt; rw [e1] at hpt; simpa using hpt
                  have cl2 := letterIs e1
                  have cd2 := digitIs e2
                  clear hpt e1 e2
                  go_wp2_with (first
                    | (go_at_call 24; refine (cl2 _).mono ?_; rintro e wr ⟨rfl, rfl⟩)
                    | (go_at_call 25; refine (cd2 _).mono ?_; rintro e wr ⟨rfl, rfl⟩))
                  go_roundg g2
                  case measure => omega
                  case rel => exact ⟨j + 1, by go_num, rfl, Hst.out⟩
                · have cl2 := letterIs e1
                  clear hpt e1
                  go_wp2_with (go_at_call 24; refine (cl2 _).mono ?_; rintro e wr ⟨rfl, rfl⟩)
                  go_roundg g2
                  case measure => omega
                  case rel => exact ⟨j + 1, by go_num, rfl, Hst.out⟩
      · have Hbl := hid hbl
        have hb : c = 32 ∨ c = 9 ∨ c = 10 ∨ c = 13 := by
          unfold isBl at hbl
          simp only [Bool.or_eq_true, beq_iff_eq] at hbl
          rcases hbl with ((h | h) | h) | h <;> simp [h]
        clear hbl
        rcases hb with rfl | rfl | rfl | rfl <;>
          (go_wp2
           go_roundg g'
           case measure => omega
           case rel => exact ⟨pos + 1, acc, by go_num, HI.out.next (Nat.le_refl _) (by omega) HI.out.bel Hrow.out (by rw [HD.out, lexG_blank _ _ Hbl.out, HT.out]) (by omega)⟩)
    · have hps' : ¬ (pos : Int) < (s.size : Int) := by omega
      have hpe : pos = s.size := by have := HI.out.le; omega
      have Hpe := hid hpe
      clear hpe hps
      go_wp2_with (at_builtin; refine wpList_appX wo rfl _ _ rfl _ _ _ _ ⟨0, [], s.size⟩ rfl (by rfl) rfl (by rfl) (by rfl) w.heap.size acc Hrow.out hB1 Hal.out ?_; intro v4 w4 hr4 hg4)
      refine bodyPost_ret (v := .tuple #[v4, .int .i64 0, .int .i64 0]) (by simp [results, Tryd.results11, go_sem]) rfl ⟨?_, hg4.below HI.out.bel (fun k e => (Hrow.out.own k e).1) hB1⟩
      rw [← HI.out.eq, Hpe.out, List.drop_eq_nil_of_le (by rw [HSL.out]; exact Nat.le_refl _), lexG]
      exact ⟨v4, rfl, hr4⟩
end Go.Proofs.YtebhmalegdpibaaDoor
