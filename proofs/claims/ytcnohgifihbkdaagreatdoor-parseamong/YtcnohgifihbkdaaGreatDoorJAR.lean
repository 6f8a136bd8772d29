/- The parser: statements that open with a name. -/
import Derived.Test.YtcnohgifihbkdaaGreatDoorJAQ
namespace Go.Proofs.YtcnohgifihbkdaaGreatDoor
open Go Go.RowKit Go.Deep Go.Shelf
set_option linter.unusedVariables false
set_option linter.unusedSimpArgs false
set_option maxRecDepth 100000
theorem key_len {e : Pr PEx} {s s' : PS} {l : List PEx} (h : keyP e s = .ok (l, s')) : l.length ≤ 1000000 := by
  obtain ⟨u, u', hu⟩ := between_inner (show between [91] [93] (one e) s = .ok (l, s') from h)
  obtain ⟨x, t', _, h2⟩ := bd_inv (show bd e (fun x => ret [x]) u = .ok (l, u') from hu)
  cases h2
  simp
theorem XlR.nil (w : World) (A : Nat → Prop) : XlR w A (.slice none 0 0) [] := Lst.nil _ _ _ _ _
set_option maxHeartbeats 8000000 in
theorem namedSt_any (w : World) (P D n : Nat) (s : PS) (e : Pr PEx) (st : Pr PSt) (HP : Pst w P D s) (hn : n ≤ 10000) (J : ∀ (V : World) (t : PS), Pst V P D t → w.grownBy V (some P) → Fed (e t) → Calls Tryz.prog 205 #[.pointer (some ⟨P, 0, none⟩)] V (Rt RE P D V (e t))) (KL : ∀ (V : World) (t : PS), Pst V P D t → w.grownBy V (some P) → Fed (loopP n e st t) → Calls Tryz.prog 183 #[.pointer (some ⟨P, 0, none⟩)] V (Rt RSt P D V (loopP n e st t))) (HF : Fed (namedSt n e st s)) : Calls Tryz.prog 184 #[.pointer (some ⟨P, 0, none⟩)] w (Rt RSt P D w (namedSt n e st s)) := by
  have HG := World.grownBy.refl w (some P)
  have hPw := HP.lt
  have hD := HP.dw
  have hPD := HP.pd
  have t0 := True.intro
  have hmf : ∀ (fn : Fn) (first cap : Array Value) (w : World), (Instr.makeFunc fn first cap).run Tryz.prog w = .ok (.func fn first cap) w := fun _ _ _ _ => rfl
  have H := hid (show namedSt n e st s = bd small (fun nm => bd (maybe [58]) fun b => if b = true then bd (loopP n e st) fun x => ret (x.setLabel nm) else fun s => if isS [91] s = true then (bd (keyP e) fun xs => bd (want [61]) fun _ => bd e fun x => bd (want [59]) fun _ => ret ⟨3, nm, [], [], (xs ++ [x]).map pkE, [], [], 0⟩) s
    else (bd (want [61]) fun _ => bd e fun x => bd (want [59]) fun _ => ret ⟨2, nm, [], [], [x].map pkE, [], [], 0⟩) s) s from rfl)
  have HF := hid HF
  have J := hid J
  have KL := hid KL
  go_enter Tryz.func184, Tryz.ntmps184
  go_wp2_with (first
    | (have hno := k4; (go_at_call 80; (refine (want_any _ _ D _ _ (Pst.to HP (by intro HP; with_reducible repeat first | exact HP | apply pA | refine pS (by omega) ?_))).mono ?_; intro e w5 hrt; rcases hrt.cases with ⟨f, hx, rfl, hg⟩ | ⟨u5, s4, v, hx, rfl, hv, hs, hg⟩; (focus (exact ⟨rfl, Rt.err (H.out.trans (bd_err hx)) (gtrans (Gw.to HG (by intro HG; with_reducible repeat first | exact HG | apply gA | apply gB | refine gS (by omega) ?_)) hg)⟩)); (have hv2 : v = .tuple #[] := hv; subst hv2); have H := hid (H.out.trans (bd_ok hx)); obtain ⟨hcw5, hfw5⟩ := gcell hg; have hzw5 := hg.size; (try simp only [szA, szS] at hzw5); have hPw5 := hs.lt; have hleww5 := le1 w w5 (by omega); (try have hltww5 := lt1 w w5 (by omega)); have hlew1w5 := le1 w1 w5 (by omega); (try have hltw1w5 := lt1 w1 w5 (by omega)); have hlew2w5 := le1 w2 w5 (by omega); (try have hltw2w5 := lt1 w2 w5 (by omega)); have hlew3w5 := le1 w3 w5 (by omega); (try have hltw3w5 := lt1 w3 w5 (by omega)); have hlew4w5 := le1 w4 w5 (by omega); (try have hltw4w5 := lt1 w4 w5 (by omega)); have HG := gtrans (Gw.to HG (by intro HG; with_reducible repeat first | exact HG | apply gA | apply gB | refine gS (by omega) ?_)) hg; have HP := hs; have hGw5 := hg; have k5 := True.intro; (try clear hg hs))))
    | (have hno := t3; (go_at_call 204; (refine (key_anyL _ _ D _ _ (Pst.to HP (by intro HP; with_reducible repeat first | exact HP | apply pA | refine pS (by omega) ?_)) (fun X u hX hVX => J.out X u hX (gtrans (Gw.to HG (by intro HG; with_reducible repeat first | exact HG | apply gA | apply gB | refine gS (by omega) ?_)) hVX)) (fun h => HF.out (H.out.trans (bd_err h)))).mono ?_; intro e w4 hrt; rcases hrt.cases with ⟨f, hx, rfl, hg⟩ | ⟨xs, s3, v, hx, rfl, hv, hs, hg⟩; (focus (exact ⟨rfl, Rt.err (H.out.trans (bd_err hx)) (gtrans (Gw.to HG (by intro HG; with_reducible repeat first | exact HG | apply gA | apply gB | refine gS (by omega) ?_)) hg)⟩)); (obtain ⟨ax, mx, cx, rfl⟩ := hv.form; have hE := hv); have hlx := key_len hx; have H := hid (H.out.trans (bd_ok hx)); obtain ⟨hcw4, hfw4⟩ := gcell hg; have hzw4 := hg.size; (try simp only [szA, szS] at hzw4); have hPw4 := hs.lt; have hleww4 := le1 w w4 (by omega); (try have hltww4 := lt1 w w4 (by omega)); have hlew1w4 := le1 w1 w4 (by omega); (try have hltw1w4 := lt1 w1 w4 (by omega)); have hlew2w4 := le1 w2 w4 (by omega); (try have hltw2w4 := lt1 w2 w4 (by omega)); have hlew3w4 := le1 w3 w4 (by omega); (try have hltw3w4 := lt1 w3 w4 (by omega)); have HG := gtrans (Gw.to HG (by intro HG; with_reducible repeat first | exact HG | apply gA | apply gB | refine gS (by omega) ?_)) hg; have HP := hs; have hGw4 := hg; have k4 := True.intro; (try clear hg hs))))
    | (have hno := t3; (go_at_call 80; (refine (want_any _ _ D _ _ (Pst.to HP (by intro HP; with_reducible repeat first | exact HP | apply pA | refine pS (by omega) ?_))).mono ?_; intro e w4 hrt; rcases hrt.go (W := w) (Gw.to HG (by intro HG; with_reducible repeat first | exact HG | apply gA | apply gB | refine gS (by omega) ?_)) with ⟨f, hx, rfl, hg⟩ | ⟨u4, s3, v, hx, rfl, hv, HP, hGw4, HG, hcw4, hfw4, hzw4, hPw4⟩; exact ⟨rfl, Rt.err (H.out.trans (bd_err hx)) hg⟩; (have hv2 : v = .tuple #[] := hv; subst hv2); have H := hid (H.out.trans (bd_ok hx)); (try simp only [szA, szS] at hzw4); have hleww4 := le1 w w4 (by omega); (try have hltww4 := lt1 w w4 (by omega)); have hlew1w4 := le1 w1 w4 (by omega); (try have hltw1w4 := lt1 w1 w4 (by omega)); have hlew2w4 := le1 w2 w4 (by omega); (try have hltw2w4 := lt1 w2 w4 (by omega)); have hlew3w4 := le1 w3 w4 (by omega); (try have hltw3w4 := lt1 w3 w4 (by omega)); have t4 := True.intro)))
    | (have hno := t2; (go_at_call 42; (refine (is_any _ _ D _ [91] (Pst.to HP (by intro HP; with_reducible repeat first | exact HP | apply pA | refine pS (by omega) ?_))).mono ?_; rintro e w3 ⟨rfl, hb⟩; have hg := bgrown hb (some P); have hs := Pst.below (Pst.to HP (by intro HP; with_reducible repeat first | exact HP | apply pA | refine pS (by omega) ?_)) hb; obtain ⟨hcw3, hfw3⟩ := gcell hg; have hzw3 := hg.size; (try simp only [szA, szS] at hzw3); have hPw3 := hs.lt; have hleww3 := le1 w w3 (by omega); (try have hltww3 := lt1 w w3 (by omega)); have hlew1w3 := le1 w1 w3 (by omega); (try have hltw1w3 := lt1 w1 w3 (by omega)); have hlew2w3 := le1 w2 w3 (by omega); (try have hltw2w3 := lt1 w2 w3 (by omega)); have HG := gtrans (Gw.to HG (by intro HG; with_reducible repeat first | exact HG | apply gA | apply gB | refine gS (by omega) ?_)) hg; have HP := hs; have hGw3 := hg; have t3 := True.intro; (try clear hg hs); rcases Bool.eq_false_or_eq_true (isS [91] s2) with hbw3 | hbw3; all_goals (first | (have H := hid (H.out.trans (if_pos hbw3)); simp only [hbw3]) | (have H := hid (H.out.trans (if_neg (by rw [hbw3]; decide))); simp only [hbw3])))))
    | (have hno := t2; (go_at_call 183; (refine (KL.out _ _ (Pst.to HP (by intro HP; with_reducible repeat first | exact HP | apply pA | refine pS (by omega) ?_)) (Gw.to HG (by intro HG; with_reducible repeat first | exact HG | apply gA | apply gB | refine gS (by omega) ?_)) (fun h => HF.out (H.out.trans (bd_err h)))).mono ?_; intro e w3 hrt; rcases hrt.cases with ⟨f, hx, rfl, hg⟩ | ⟨x, s3, v, hx, rfl, hv, hs, hg⟩; (focus (exact ⟨rfl, Rt.err (H.out.trans (bd_err hx)) (gtrans (Gw.to HG (by intro HG; with_reducible repeat first | exact HG | apply gA | apply gB | refine gS (by omega) ?_)) hg)⟩)); (obtain ⟨saa, san, sac, sba, sbn, sbc, sea, sen, sec, sxs, sb, sl, rfl, hX1, hX2, hX3, hq1, hq2, hq3⟩ := hv.parts; have hE := hv); have H := hid (H.out.trans (bd_ok hx)); obtain ⟨hcw3, hfw3⟩ := gcell hg; have hzw3 := hg.size; (try simp only [szA, szS] at hzw3); have hPw3 := hs.lt; have hleww3 := le1 w w3 (by omega); (try have hltww3 := lt1 w w3 (by omega)); have hlew1w3 := le1 w1 w3 (by omega); (try have hltw1w3 := lt1 w1 w3 (by omega)); have hlew2w3 := le1 w2 w3 (by omega); (try have hltw2w3 := lt1 w2 w3 (by omega)); have HG := gtrans (Gw.to HG (by intro HG; with_reducible repeat first | exact HG | apply gA | apply gB | refine gS (by omega) ?_)) hg; have HP := hs; have hGw3 := hg; have u3 := True.intro; (try clear hg hs))))
    | (have hno := t1; (go_at_call 85; (refine (maybe_any _ _ D _ _ (Pst.to HP (by intro HP; with_reducible repeat first | exact HP | apply pA | refine pS (by omega) ?_))).mono ?_; intro e w2 hrt; rcases hrt.go (W := w) (Gw.to HG (by intro HG; with_reducible repeat first | exact HG | apply gA | apply gB | refine gS (by omega) ?_)) with ⟨f, hx, rfl, hg⟩ | ⟨b, s2, v, hx, rfl, hv, HP, hGw2, HG, hcw2, hfw2, hzw2, hPw2⟩; exact ⟨rfl, Rt.err (H.out.trans (bd_err hx)) hg⟩; (have hv2 : v = .bool b := hv; subst hv2); have H := hid (H.out.trans (bd_ok hx)); (try simp only [szA, szS] at hzw2); have hleww2 := le1 w w2 (by omega); (try have hltww2 := lt1 w w2 (by omega)); have hlew1w2 := le1 w1 w2 (by omega); (try have hltw1w2 := lt1 w1 w2 (by omega)); have t2 := True.intro; skip; cases b)))
    | (have hno := t0; (go_at_call 79; (refine (small_any _ _ D _ (Pst.to HP (by intro HP; with_reducible repeat first | exact HP | apply pA | refine pS (by omega) ?_))).mono ?_; intro e w1 hrt; rcases hrt.go (W := w) (Gw.to HG (by intro HG; with_reducible repeat first | exact HG | apply gA | apply gB | refine gS (by omega) ?_)) with ⟨f, hx, rfl, hg⟩ | ⟨nm, s1, v, hx, rfl, hv, HP, hGw1, HG, hcw1, hfw1, hzw1, hPw1⟩; exact ⟨rfl, Rt.err (H.out.trans (bd_err hx)) hg⟩; (have hv2 : v = .string (bs nm) := hv; subst hv2); have H := hid (H.out.trans (bd_ok hx)); (try simp only [szA, szS] at hzw1); have hleww1 := le1 w w1 (by omega); (try have hltww1 := lt1 w w1 (by omega)); have t1 := True.intro)))
    )
  · have HB : Box w2.heap.size #[.int .i64 3, .string (bs nm), .string ⟨#[]⟩, .string ⟨#[]⟩, .slice ax mx cx, .slice none 0 0, .slice none 0 0, .int .i64 0] 48 w5 := Box.call (Bx.put8 ⟨_, rfl, Box.call (Box.call (Box.new w2 #[.int .i64 2, .string (bs nm), .string ⟨#[]⟩, .string ⟨#[]⟩, .slice none 0 0, .slice none 0 0, .slice none 0 0, .int .i64 0] 48) hGw3 (by omega)) hGw4 (by omega)⟩) hGw5 (by omega)
    have HX : Bx 8 w.heap.size 48 w5 := (by repeat (first | (with_reducible apply Box.alloc) | ((with_reducible refine Box.set ?_ ?_); rotate_left; omega) | ((with_reducible refine Bx.new _ _ _ ?_); rfl) | (with_reducible apply Bx.alloc) | (with_reducible apply Bx.set) | ((with_reducible refine Bx.call hGw1 ?_ ?_); omega) | ((with_reducible refine Bx.call hGw2 ?_ ?_); omega) | ((with_reducible refine Bx.call hGw3 ?_ ?_); omega) | ((with_reducible refine Bx.call hGw4 ?_ ?_); omega) | ((with_reducible refine Bx.call hGw5 ?_ ?_); omega)))
    have HE := XlR.mv hE (w' := w5) (B := fun g => w2.heap.size + 1 ≤ g ∧ g < w5.heap.size) (show Same (fun g => w3.heap.size ≤ g ∧ g < w4.heap.size) w4 w5 from (by repeat (first | (with_reducible exact Same.refl _ _) | ((with_reducible apply Same.alloc); rotate_left; (rintro g ⟨q1, q2⟩; (try simp only [szA, szS]); omega)) | ((with_reducible apply Same.set); rotate_left; (rintro ⟨q1, q2⟩; omega)) | ((with_reducible refine Same.call hGw5 ?_ ?_ ?_); rotate_left; (rintro g ⟨q1, q2⟩; (try simp only [szA, szS]); omega); (rintro ⟨q1, q2⟩; omega))))) (by rintro g ⟨q1, q2⟩; exact ⟨by omega, by omega⟩)
    have ST : ∀ v : World, Box w2.heap.size #[.int .i64 3, .string (bs nm), .string ⟨#[]⟩, .string ⟨#[]⟩, .slice ax mx cx, .slice none 0 0, .slice none 0 0, .int .i64 0] 48 v → v.cell? ⟨w2.heap.size, 4, none⟩ = some (.slice ax mx cx) := fun v hv => hv.cell rfl
    have hzd : w5.drew.heap.size = w5.heap.size := rfl
    have HE := hid HE
    refine wp_region_I 7 (fun v : World => v.cell? ⟨w2.heap.size, 4, none⟩ = some (.slice ax mx cx)) (by kernel_rfl) (ST _ HB.drw) (fun hHeld => ?_)
    refine wpAnyI_take (i := 0) (oi := { dst := some 25, op := Go.Op.fieldAddr 48 (Go.Operand.tmp 5) 4, type := 0, pos := "stmt.go:81", after := #[], guard := none }) (v := ?_) [7] rfl (by kernel_rfl) (by kernel_rfl) (by kernel_rfl) (by kernel_rfl) (fun _ _ _ h => h) (Or.inl ⟨by rfl, ?_⟩) (by assumption) ?_
    rotate_left
    · (intro w hSw; (try dsimp only at hSw); go_simp; (try with_reducible rfl))
    (try simp only [Act.put, List.setIfInBounds_toArray, List.set_cons_zero, List.set_cons_succ])
    refine wpAnyI_take (i := 1) (oi := { dst := some 26, op := Go.Op.load 43 (Go.Operand.tmp 25), type := 43, pos := "stmt.go:81", after := #[{ on := 0, ground := Go.Ground.data }], guard := none }) (v := ?_) [7] rfl (by kernel_rfl) (by kernel_rfl) (by kernel_rfl) (by kernel_rfl) (fun _ _ _ h => h) (Or.inl ⟨by rfl, ?_⟩) (by assumption) ?_
    rotate_left
    · (intro w hSw; (try dsimp only at hSw); go_simp; (try with_reducible rfl))
    (try simp only [Act.put, List.setIfInBounds_toArray, List.set_cons_zero, List.set_cons_succ])
    refine wpAnyI_take (i := 2) (oi := { dst := some 27, op := Go.Op.move (Go.Operand.tmp 0), type := 99, pos := "stmt.go:81", after := #[], guard := none }) (v := ?_) [7] rfl (by kernel_rfl) (by kernel_rfl) (by kernel_rfl) (by kernel_rfl) (fun _ _ _ h => h) (Or.inl ⟨by rfl, ?_⟩) (by assumption) ?_
    rotate_left
    · (intro w hSw; (try dsimp only at hSw); go_simp; (try with_reducible rfl))
    (try simp only [Act.put, List.setIfInBounds_toArray, List.set_cons_zero, List.set_cons_succ])
    refine wpAnyI_one (i := 3) (o := { dst := some 28, op := Go.Op.call { callee := Go.Callee.value (Go.Operand.func 205), args := #[Go.Operand.tmp 27], argTypes := #[99] }, type := 45, pos := "stmt.go:81", after := #[{ on := 2, ground := Go.Ground.data }], guard := none }) (by kernel_rfl) rfl (fun K hK => ?_)
    go_simp
    (refine (J.out w5.drew s4 HP.drw (grown_drew HG) (fun h => HF.out (H.out.trans (bd_err h)))).mono ?_; intro e4 wa hrt; rcases hrt.cases with ⟨f, hx, rfl, hg⟩ | ⟨x, s5, v, hx, rfl, hv, hs, hg⟩; (focus (exact ⟨rfl, Rt.err (H.out.trans (bd_err hx)) (gtrans (grown_drew HG) hg)⟩)); (obtain ⟨na, nn, nc, aa, an, ac, es, rfl, hN, hX, hA⟩ := hv.parts; have hE := hv); have H := hid (H.out.trans (bd_ok hx)); have hza := hg.size; have HBa := HB.drw.call hg (by omega); have HXa := HX.drw.call' hg (by omega); have HEa := XlR.mv HE.out (w' := wa) (B := (fun g => w2.heap.size + 1 ≤ g ∧ g < w5.heap.size)) (Same.call hg (Same.refl _ _) (by rintro g ⟨q1, q2⟩; omega) (by rintro ⟨q1, q2⟩; omega)) (fun g h => h); have HVa := RE.mv hE (Same.refl _ _) (B := fun g => w5.heap.size ≤ g ∧ g < wa.heap.size) (by rintro g ⟨q1, q2⟩; exact ⟨q1, q2⟩); have HGa := gtrans (grown_drew HG) hg; have HPa := hs; clear hg hs hE)
    have HXF := XsR.one HVa (B := fun g => w5.heap.size ≤ g ∧ g < wa.heap.size + 1) (by rintro g ⟨q1, q2⟩; exact q2) (by rintro g ⟨q1, q2⟩; exact ⟨q1, by omega⟩) ⟨by omega, by omega⟩
    have HXF := hid HXF
    clear HVa
    try go_wp2_with fail
    refine hK.out _ _ (ST _ HBa) (fun hHeldN => ?_)
    clear hK K hHeld; have hHeld := hHeldN; clear hHeldN; (try simp only [Act.put, List.setIfInBounds_toArray, List.set_cons_zero, List.set_cons_succ])
    refine wpAnyI_one (i := 4) (o := { dst := some 29, op := Go.Op.buildSlice 43 1 #[(0, Go.Operand.tmp 28)], type := 43, pos := "stmt.go:81", after := #[{ on := 3, ground := Go.Ground.data }], guard := none }) (by kernel_rfl) rfl (fun K hK => ?_)
    go_simp
    refine hK.out _ _ (ST _ (HBa.alloc _)) (fun hHeldN => ?_)
    clear hK K hHeld; have hHeld := hHeldN; clear hHeldN; (try simp only [Act.put, List.setIfInBounds_toArray, List.set_cons_zero, List.set_cons_succ])
    have hsz : ∀ o, (wa.alloc o).heap.size = wa.heap.size + 1 := fun o => World.size_alloc _ _
    obtain ⟨v5, wb, HRUN, HV5, HR5⟩ := run_appX2 (wa.alloc _) 43 (fun g => w2.heap.size + 1 ≤ g ∧ g < w5.heap.size) (fun g => w5.heap.size ≤ g ∧ g < wa.heap.size + 1) (fun g => w2.heap.size + 1 ≤ g ∧ g < wa.heap.size + 1) _ _ _ _ (XlR.mv HEa ((Same.refl _ _).alloc (by rintro g ⟨q1, q2⟩; omega)) (fun g h => h)) HXF.out (by rintro g ⟨q1, q2⟩; rw [hsz]; omega) (by rintro g ⟨q1, q2⟩; rw [hsz]; omega) (by rintro g ⟨q1, q2⟩ ⟨q3, q4⟩; omega) (by rintro g ⟨q1, q2⟩; exact ⟨q1, by omega⟩) (by rintro g ⟨q1, q2⟩; exact ⟨by omega, by omega⟩) hlx (by simp)
    have HO := HEa.own
    obtain ⟨a5, m5, c5, rfl⟩ := HV5.form
    have hz5 := HR5.size
    rw [hsz] at hz5
    have HV5 := XsR.mv HV5 (Same.refl _ _) (B := fun g => w2.heap.size + 1 ≤ g ∧ g < wb.heap.size) (by rintro g (⟨q1, q2⟩ | ⟨q1, q2⟩); (exact ⟨by omega, by omega⟩); (rw [hsz] at q1; exact ⟨by omega, by omega⟩))
    have HV5 := hid HV5
    have HB5 := (HBa.alloc _).row HR5 (fun e => by have := HO _ e; omega)
    have HX5 : Bx 8 w.heap.size 48 wb := by obtain ⟨l, q1, q2⟩ := HXa; exact ⟨l, q1, (q2.alloc _).row HR5 (fun e => by have := HO _ e; omega)⟩
    have HP5 := (HPa.alloc _).grown HR5 (fun g e => by have := HO g e; omega)
    have HG5 := grown_row (grown_alloc HGa _) HR5 (fun g e => by have := HO g e; omega)
    refine wpAnyI_one (i := 5) (o := { dst := some 30, op := Go.Op.call { callee := Go.Callee.builtin Go.Builtin.append, args := #[Go.Operand.tmp 26, Go.Operand.tmp 29], argTypes := #[43, 43] }, type := 43, pos := "stmt.go:81", after := #[{ on := 1, ground := Go.Ground.data }, { on := 4, ground := Go.Ground.data }, { on := 3, ground := Go.Ground.chain }], guard := none }) (by kernel_rfl) rfl (fun K hK => ?_)
    refine app_step (by rfl) rfl rfl rfl rfl HRUN ?_
    refine hK.out _ _ (ST _ HB5) (fun hHeldN => ?_)
    clear hK K hHeld; have hHeld := hHeldN; clear hHeldN; (try simp only [Act.put, List.setIfInBounds_toArray, List.set_cons_zero, List.set_cons_succ])
    refine wpAnyI_one (i := 6) (o := { dst := some 31, op := Go.Op.fieldAddr 48 (Go.Operand.tmp 5) 4, type := 0, pos := "stmt.go:81", after := #[{ on := 0, ground := Go.Ground.phase }, { on := 1, ground := Go.Ground.phase }, { on := 2, ground := Go.Ground.phase }, { on := 3, ground := Go.Ground.phase }, { on := 4, ground := Go.Ground.phase }, { on := 5, ground := Go.Ground.phase }], guard := none }) (by kernel_rfl) rfl (fun K hK => ?_)
    go_simp
    refine hK.out _ _ (ST _ HB5) (fun hHeldN => ?_)
    clear hK K hHeld; have hHeld := hHeldN; clear hHeldN; (try simp only [Act.put, List.setIfInBounds_toArray, List.set_cons_zero, List.set_cons_succ])
    have yf : ∀ o, wb.frozen? ⟨w2.heap.size, o, none⟩ = false := fun o => freeOf HB5 o
    have xf : ∀ o, wb.frozen? ⟨w.heap.size, o, none⟩ = false := fun o => by obtain ⟨l, q1, q2⟩ := HX5; exact freeOf q2 o
    have hb5 := HB5.lt
    have hltwb : w.heap.size < wb.heap.size := by omega
    have j0 := HB5.cell (i := 0) rfl
    have j1 := HB5.cell (i := 1) rfl
    have j2 := HB5.cell (i := 2) rfl
    have j3 := HB5.cell (i := 3) rfl
    have j4 := HB5.cell (i := 4) rfl
    have j5 := HB5.cell (i := 5) rfl
    have j6 := HB5.cell (i := 6) rfl
    have j7 := HB5.cell (i := 7) rfl
    obtain ⟨⟨l6⟩, hl6, hX6⟩ := HX5
    obtain ⟨z0, z1, z2, z3, z4, z5, z6, z7, rfl⟩ := eight_of l6 hl6
    have x0 := hX6.cell (i := 0) rfl
    have x1 := hX6.cell (i := 1) rfl
    have x2 := hX6.cell (i := 2) rfl
    have x3 := hX6.cell (i := 3) rfl
    have x4 := hX6.cell (i := 4) rfl
    have x5 := hX6.cell (i := 5) rfl
    have x6 := hX6.cell (i := 6) rfl
    have x7 := hX6.cell (i := 7) rfl
    refine wpAnyI_last (o := { dst := none, op := Go.Op.store 43 (Go.Operand.tmp 31) (Go.Operand.tmp 30), type := 0, pos := "stmt.go:81", after := #[{ on := 6, ground := Go.Ground.data }, { on := 5, ground := Go.Ground.data }, { on := 5, ground := Go.Ground.chain }, { on := 0, ground := Go.Ground.phase }, { on := 1, ground := Go.Ground.phase }, { on := 2, ground := Go.Ground.phase }, { on := 3, ground := Go.Ground.phase }, { on := 4, ground := Go.Ground.phase }, { on := 5, ground := Go.Ground.phase }], guard := none }) (by kernel_rfl) rfl (by kernel_rfl) (fun K hK => ?_)
    go_simp
    refine hK.out _ _ ?_
    clear hK K hHeld
    (try simp only [Act.put, List.setIfInBounds_toArray, List.set_cons_zero, List.set_cons_succ])
    have tR := True.intro
    have HP := HP5
    have HG := HG5
    go_wp2_with ((have hno := tR; (go_at_call 80; (refine (want_any _ _ D _ _ (Pst.to HP (by intro HP; with_reducible repeat first | exact HP | apply pA | refine pS (by omega) ?_))).mono ?_; intro e w8 hrt; rcases hrt.cases with ⟨f, hx, rfl, hg⟩ | ⟨uz, sz, v, hx, rfl, hv, hs, hg⟩; (focus (exact ⟨rfl, Rt.err (H.out.trans (bd_err hx)) (gtrans (Gw.to HG (by intro HG; with_reducible repeat first | exact HG | apply gA | apply gB | refine gS (by omega) ?_)) hg)⟩)); (have hv2 : v = .tuple #[] := hv; subst hv2); have H := hid (H.out.trans (bd_ok hx)); obtain ⟨hcw8, hfw8⟩ := gcell hg; have hzw8 := hg.size; (try simp only [szA, szS] at hzw8); have hPw8 := hs.lt; have hleww8 := le1 w w8 (by omega); (try have hltww8 := lt1 w w8 (by omega)); have hlew1w8 := le1 w1 w8 (by omega); (try have hltw1w8 := lt1 w1 w8 (by omega)); have hlew2w8 := le1 w2 w8 (by omega); (try have hltw2w8 := lt1 w2 w8 (by omega)); have hlew3w8 := le1 w3 w8 (by omega); (try have hltw3w8 := lt1 w3 w8 (by omega)); have hlew4w8 := le1 w4 w8 (by omega); (try have hltw4w8 := lt1 w4 w8 (by omega)); have hlew5w8 := le1 w5 w8 (by omega); (try have hltw5w8 := lt1 w5 w8 (by omega)); have hlewaw8 := le1 wa w8 (by omega); (try have hltwaw8 := lt1 wa w8 (by omega)); have hlewbw8 := le1 wb w8 (by omega); (try have hltwbw8 := lt1 wb w8 (by omega)); have HG := gtrans (Gw.to HG (by intro HG; with_reducible repeat first | exact HG | apply gA | apply gB | refine gS (by omega) ?_)) hg; have HP := hs; have hGw8 := hg; have tS := True.intro; (try clear hg hs)))))
    refine ret8s Tryz.results184 rfl (Bx.put8 (Bx.call hGw8 (by omega) (Bx.set ⟨_, rfl, hX6⟩))) rfl ?_
    refine Rt.ok (H.out.trans rfl) ?_ (Pst.to HP (by intro HP; with_reducible repeat first | exact HP | apply pA | refine pS (by omega) ?_)) (Gw.to HG (by intro HG; with_reducible repeat first | exact HG | apply gA | apply gB | refine gS (by omega) ?_))
    refine RSt.mk2 (xs := xs ++ [x]) (b := []) (l := []) rfl (XsR.mv HV5.out (show Same (fun g => w2.heap.size + 1 ≤ g ∧ g < wb.heap.size) wb _ from ?_) ?_) (SsR.nil _ _) (SsR.nil _ _) rfl rfl rfl
    · exact (by repeat (first | (with_reducible exact Same.refl _ _) | ((with_reducible apply Same.alloc); rotate_left; (rintro g ⟨q1, q2⟩; (try simp only [szA, szS]); omega)) | ((with_reducible apply Same.set); rotate_left; (rintro ⟨q1, q2⟩; omega)) | ((with_reducible refine Same.call hGw8 ?_ ?_ ?_); rotate_left; (rintro g ⟨q1, q2⟩; (try simp only [szA, szS]); omega); (rintro ⟨q1, q2⟩; omega))))
    · rintro g ⟨q1, q2⟩; (try simp only [szA, szS]); exact ⟨by omega, by omega⟩
  · have HB : Box w2.heap.size #[.int .i64 2, .string (bs nm), .string ⟨#[]⟩, .string ⟨#[]⟩, .slice none 0 0, .slice none 0 0, .slice none 0 0, .int .i64 0] 48 w4 := Box.call (Box.call (Box.new w2 #[.int .i64 2, .string (bs nm), .string ⟨#[]⟩, .string ⟨#[]⟩, .slice none 0 0, .slice none 0 0, .slice none 0 0, .int .i64 0] 48) hGw3 (by omega)) hGw4 (by omega)
    have HX : Bx 8 w.heap.size 48 w4 := (by repeat (first | (with_reducible apply Box.alloc) | ((with_reducible refine Box.set ?_ ?_); rotate_left; omega) | ((with_reducible refine Bx.new _ _ _ ?_); rfl) | (with_reducible apply Bx.alloc) | (with_reducible apply Bx.set) | ((with_reducible refine Bx.call hGw1 ?_ ?_); omega) | ((with_reducible refine Bx.call hGw2 ?_ ?_); omega) | ((with_reducible refine Bx.call hGw3 ?_ ?_); omega) | ((with_reducible refine Bx.call hGw4 ?_ ?_); omega)))
    have HE : XlR w4 (fun g => w2.heap.size + 1 ≤ g ∧ g < w4.heap.size) (.slice none 0 0) [] := XlR.nil _ _
    have hlx : ([] : List PEx).length ≤ 1000000 := by simp
    have ST : ∀ v : World, Box w2.heap.size #[.int .i64 2, .string (bs nm), .string ⟨#[]⟩, .string ⟨#[]⟩, .slice none 0 0, .slice none 0 0, .slice none 0 0, .int .i64 0] 48 v → v.cell? ⟨w2.heap.size, 4, none⟩ = some (.slice none 0 0) := fun v hv => hv.cell rfl
    have hzd : w4.drew.heap.size = w4.heap.size := rfl
    have HE := hid HE
    refine wp_region_I 7 (fun v : World => v.cell? ⟨w2.heap.size, 4, none⟩ = some (.slice none 0 0)) (by kernel_rfl) (ST _ HB.drw) (fun hHeld => ?_)
    refine wpAnyI_take (i := 0) (oi := { dst := some 25, op := Go.Op.fieldAddr 48 (Go.Operand.tmp 5) 4, type := 0, pos := "stmt.go:81", after := #[], guard := none }) (v := ?_) [7] rfl (by kernel_rfl) (by kernel_rfl) (by kernel_rfl) (by kernel_rfl) (fun _ _ _ h => h) (Or.inl ⟨by rfl, ?_⟩) (by assumption) ?_
    rotate_left
    · (intro w hSw; (try dsimp only at hSw); go_simp; (try with_reducible rfl))
    (try simp only [Act.put, List.setIfInBounds_toArray, List.set_cons_zero, List.set_cons_succ])
    refine wpAnyI_take (i := 1) (oi := { dst := some 26, op := Go.Op.load 43 (Go.Operand.tmp 25), type := 43, pos := "stmt.go:81", after := #[{ on := 0, ground := Go.Ground.data }], guard := none }) (v := ?_) [7] rfl (by kernel_rfl) (by kernel_rfl) (by kernel_rfl) (by kernel_rfl) (fun _ _ _ h => h) (Or.inl ⟨by rfl, ?_⟩) (by assumption) ?_
    rotate_left
    · (intro w hSw; (try dsimp only at hSw); go_simp; (try with_reducible rfl))
    (try simp only [Act.put, List.setIfInBounds_toArray, List.set_cons_zero, List.set_cons_succ])
    refine wpAnyI_take (i := 2) (oi := { dst := some 27, op := Go.Op.move (Go.Operand.tmp 0), type := 99, pos := "stmt.go:81", after := #[], guard := none }) (v := ?_) [7] rfl (by kernel_rfl) (by kernel_rfl) (by kernel_rfl) (by kernel_rfl) (fun _ _ _ h => h) (Or.inl ⟨by rfl, ?_⟩) (by assumption) ?_
    rotate_left
    · (intro w hSw; (try dsimp only at hSw); go_simp; (try with_reducible rfl))
    (try simp only [Act.put, List.setIfInBounds_toArray, List.set_cons_zero, List.set_cons_succ])
    refine wpAnyI_one (i := 3) (o := { dst := some 28, op := Go.Op.call { callee := Go.Callee.value (Go.Operand.func 205), args := #[Go.Operand.tmp 27], argTypes := #[99] }, type := 45, pos := "stmt.go:81", after := #[{ on := 2, ground := Go.Ground.data }], guard := none }) (by kernel_rfl) rfl (fun K hK => ?_)
    go_simp
    (refine (J.out w4.drew s3 HP.drw (grown_drew HG) (fun h => HF.out (H.out.trans (bd_err h)))).mono ?_; intro e4 wa hrt; rcases hrt.cases with ⟨f, hx, rfl, hg⟩ | ⟨x, s4, v, hx, rfl, hv, hs, hg⟩; (focus (exact ⟨rfl, Rt.err (H.out.trans (bd_err hx)) (gtrans (grown_drew HG) hg)⟩)); (obtain ⟨na, nn, nc, aa, an, ac, es, rfl, hN, hX, hA⟩ := hv.parts; have hE := hv); have H := hid (H.out.trans (bd_ok hx)); have hza := hg.size; have HBa := HB.drw.call hg (by omega); have HXa := HX.drw.call' hg (by omega); have HEa := XlR.mv HE.out (w' := wa) (B := (fun g => w2.heap.size + 1 ≤ g ∧ g < w4.heap.size)) (Same.call hg (Same.refl _ _) (by rintro g ⟨q1, q2⟩; omega) (by rintro ⟨q1, q2⟩; omega)) (fun g h => h); have HVa := RE.mv hE (Same.refl _ _) (B := fun g => w4.heap.size ≤ g ∧ g < wa.heap.size) (by rintro g ⟨q1, q2⟩; exact ⟨q1, q2⟩); have HGa := gtrans (grown_drew HG) hg; have HPa := hs; clear hg hs hE)
    have HXF := XsR.one HVa (B := fun g => w4.heap.size ≤ g ∧ g < wa.heap.size + 1) (by rintro g ⟨q1, q2⟩; exact q2) (by rintro g ⟨q1, q2⟩; exact ⟨q1, by omega⟩) ⟨by omega, by omega⟩
    have HXF := hid HXF
    clear HVa
    try go_wp2_with fail
    refine hK.out _ _ (ST _ HBa) (fun hHeldN => ?_)
    clear hK K hHeld; have hHeld := hHeldN; clear hHeldN; (try simp only [Act.put, List.setIfInBounds_toArray, List.set_cons_zero, List.set_cons_succ])
    refine wpAnyI_one (i := 4) (o := { dst := some 29, op := Go.Op.buildSlice 43 1 #[(0, Go.Operand.tmp 28)], type := 43, pos := "stmt.go:81", after := #[{ on := 3, ground := Go.Ground.data }], guard := none }) (by kernel_rfl) rfl (fun K hK => ?_)
    go_simp
    refine hK.out _ _ (ST _ (HBa.alloc _)) (fun hHeldN => ?_)
    clear hK K hHeld; have hHeld := hHeldN; clear hHeldN; (try simp only [Act.put, List.setIfInBounds_toArray, List.set_cons_zero, List.set_cons_succ])
    have hsz : ∀ o, (wa.alloc o).heap.size = wa.heap.size + 1 := fun o => World.size_alloc _ _
    obtain ⟨v5, wb, HRUN, HV5, HR5⟩ := run_appX2 (wa.alloc _) 43 (fun g => w2.heap.size + 1 ≤ g ∧ g < w4.heap.size) (fun g => w4.heap.size ≤ g ∧ g < wa.heap.size + 1) (fun g => w2.heap.size + 1 ≤ g ∧ g < wa.heap.size + 1) _ _ _ _ (XlR.mv HEa ((Same.refl _ _).alloc (by rintro g ⟨q1, q2⟩; omega)) (fun g h => h)) HXF.out (by rintro g ⟨q1, q2⟩; rw [hsz]; omega) (by rintro g ⟨q1, q2⟩; rw [hsz]; omega) (by rintro g ⟨q1, q2⟩ ⟨q3, q4⟩; omega) (by rintro g ⟨q1, q2⟩; exact ⟨q1, by omega⟩) (by rintro g ⟨q1, q2⟩; exact ⟨by omega, by omega⟩) hlx (by simp)
    have HO := HEa.own
    obtain ⟨a5, m5, c5, rfl⟩ := HV5.form
    have hz5 := HR5.size
    rw [hsz] at hz5
    have HV5 := XsR.mv HV5 (Same.refl _ _) (B := fun g => w2.heap.size + 1 ≤ g ∧ g < wb.heap.size) (by rintro g (⟨q1, q2⟩ | ⟨q1, q2⟩); (exact ⟨by omega, by omega⟩); (rw [hsz] at q1; exact ⟨by omega, by omega⟩))
    have HV5 := hid HV5
    have HB5 := (HBa.alloc _).row HR5 (fun e => by have := HO _ e; omega)
    have HX5 : Bx 8 w.heap.size 48 wb := by obtain ⟨l, q1, q2⟩ := HXa; exact ⟨l, q1, (q2.alloc _).row HR5 (fun e => by have := HO _ e; omega)⟩
    have HP5 := (HPa.alloc _).grown HR5 (fun g e => by have := HO g e; omega)
    have HG5 := grown_row (grown_alloc HGa _) HR5 (fun g e => by have := HO g e; omega)
    refine wpAnyI_one (i := 5) (o := { dst := some 30, op := Go.Op.call { callee := Go.Callee.builtin Go.Builtin.append, args := #[Go.Operand.tmp 26, Go.Operand.tmp 29], argTypes := #[43, 43] }, type := 43, pos := "stmt.go:81", after := #[{ on := 1, ground := Go.Ground.data }, { on := 4, ground := Go.Ground.data }, { on := 3, ground := Go.Ground.chain }], guard := none }) (by kernel_rfl) rfl (fun K hK => ?_)
    refine app_step (by rfl) rfl rfl rfl rfl HRUN ?_
    refine hK.out _ _ (ST _ HB5) (fun hHeldN => ?_)
    clear hK K hHeld; have hHeld := hHeldN; clear hHeldN; (try simp only [Act.put, List.setIfInBounds_toArray, List.set_cons_zero, List.set_cons_succ])
    refine wpAnyI_one (i := 6) (o := { dst := some 31, op := Go.Op.fieldAddr 48 (Go.Operand.tmp 5) 4, type := 0, pos := "stmt.go:81", after := #[{ on := 0, ground := Go.Ground.phase }, { on := 1, ground := Go.Ground.phase }, { on := 2, ground := Go.Ground.phase }, { on := 3, ground := Go.Ground.phase }, { on := 4, ground := Go.Ground.phase }, { on := 5, ground := Go.Ground.phase }], guard := none }) (by kernel_rfl) rfl (fun K hK => ?_)
    go_simp
    refine hK.out _ _ (ST _ HB5) (fun hHeldN => ?_)
    clear hK K hHeld; have hHeld := hHeldN; clear hHeldN; (try simp only [Act.put, List.setIfInBounds_toArray, List.set_cons_zero, List.set_cons_succ])
    have yf : ∀ o, wb.frozen? ⟨w2.heap.size, o, none⟩ = false := fun o => freeOf HB5 o
    have xf : ∀ o, wb.frozen? ⟨w.heap.size, o, none⟩ = false := fun o => by obtain ⟨l, q1, q2⟩ := HX5; exact freeOf q2 o
    have hb5 := HB5.lt
    have hltwb : w.heap.size < wb.heap.size := by omega
    have j0 := HB5.cell (i := 0) rfl
    have j1 := HB5.cell (i := 1) rfl
    have j2 := HB5.cell (i := 2) rfl
    have j3 := HB5.cell (i := 3) rfl
    have j4 := HB5.cell (i := 4) rfl
    have j5 := HB5.cell (i := 5) rfl
    have j6 := HB5.cell (i := 6) rfl
    have j7 := HB5.cell (i := 7) rfl
    obtain ⟨⟨l6⟩, hl6, hX6⟩ := HX5
    obtain ⟨z0, z1, z2, z3, z4, z5, z6, z7, rfl⟩ := eight_of l6 hl6
    have x0 := hX6.cell (i := 0) rfl
    have x1 := hX6.cell (i := 1) rfl
    have x2 := hX6.cell (i := 2) rfl
    have x3 := hX6.cell (i := 3) rfl
    have x4 := hX6.cell (i := 4) rfl
    have x5 := hX6.cell (i := 5) rfl
    have x6 := hX6.cell (i := 6) rfl
    have x7 := hX6.cell (i := 7) rfl
    refine wpAnyI_last (o := { dst := none, op := Go.Op.store 43 (Go.Operand.tmp 31) (Go.Operand.tmp 30), type := 0, pos := "stmt.go:81", after := #[{ on := 6, ground := Go.Ground.data }, { on := 5, ground := Go.Ground.data }, { on := 5, ground := Go.Ground.chain }, { on := 0, ground := Go.Ground.phase }, { on := 1, ground := Go.Ground.phase }, { on := 2, ground := Go.Ground.phase }, { on := 3, ground := Go.Ground.phase }, { on := 4, ground := Go.Ground.phase }, { on := 5, ground := Go.Ground.phase }], guard := none }) (by kernel_rfl) rfl (by kernel_rfl) (fun K hK => ?_)
    go_simp
    refine hK.out _ _ ?_
    clear hK K hHeld
    (try simp only [Act.put, List.setIfInBounds_toArray, List.set_cons_zero, List.set_cons_succ])
    have tR := True.intro
    have HP := HP5
    have HG := HG5
    go_wp2_with ((have hno := tR; (go_at_call 80; (refine (want_any _ _ D _ _ (Pst.to HP (by intro HP; with_reducible repeat first | exact HP | apply pA | refine pS (by omega) ?_))).mono ?_; intro e w8 hrt; rcases hrt.cases with ⟨f, hx, rfl, hg⟩ | ⟨uz, sz, v, hx, rfl, hv, hs, hg⟩; (focus (exact ⟨rfl, Rt.err (H.out.trans (bd_err hx)) (gtrans (Gw.to HG (by intro HG; with_reducible repeat first | exact HG | apply gA | apply gB | refine gS (by omega) ?_)) hg)⟩)); (have hv2 : v = .tuple #[] := hv; subst hv2); have H := hid (H.out.trans (bd_ok hx)); obtain ⟨hcw8, hfw8⟩ := gcell hg; have hzw8 := hg.size; (try simp only [szA, szS] at hzw8); have hPw8 := hs.lt; have hleww8 := le1 w w8 (by omega); (try have hltww8 := lt1 w w8 (by omega)); have hlew1w8 := le1 w1 w8 (by omega); (try have hltw1w8 := lt1 w1 w8 (by omega)); have hlew2w8 := le1 w2 w8 (by omega); (try have hltw2w8 := lt1 w2 w8 (by omega)); have hlew3w8 := le1 w3 w8 (by omega); (try have hltw3w8 := lt1 w3 w8 (by omega)); have hlew4w8 := le1 w4 w8 (by omega); (try have hltw4w8 := lt1 w4 w8 (by omega)); have hlewaw8 := le1 wa w8 (by omega); (try have hltwaw8 := lt1 wa w8 (by omega)); have hlewbw8 := le1 wb w8 (by omega); (try have hltwbw8 := lt1 wb w8 (by omega)); have HG := gtrans (Gw.to HG (by intro HG; with_reducible repeat first | exact HG | apply gA | apply gB | refine gS (by omega) ?_)) hg; have HP := hs; have hGw8 := hg; have tS := True.intro; (try clear hg hs)))))
    refine ret8s Tryz.results184 rfl (Bx.put8 (Bx.call hGw8 (by omega) (Bx.set ⟨_, rfl, hX6⟩))) rfl ?_
    refine Rt.ok (H.out.trans rfl) ?_ (Pst.to HP (by intro HP; with_reducible repeat first | exact HP | apply pA | refine pS (by omega) ?_)) (Gw.to HG (by intro HG; with_reducible repeat first | exact HG | apply gA | apply gB | refine gS (by omega) ?_))
    refine RSt.mk2 (xs := [] ++ [x]) (b := []) (l := []) rfl (XsR.mv HV5.out (show Same (fun g => w2.heap.size + 1 ≤ g ∧ g < wb.heap.size) wb _ from ?_) ?_) (SsR.nil _ _) (SsR.nil _ _) rfl rfl rfl
    · exact (by repeat (first | (with_reducible exact Same.refl _ _) | ((with_reducible apply Same.alloc); rotate_left; (rintro g ⟨q1, q2⟩; (try simp only [szA, szS]); omega)) | ((with_reducible apply Same.set); rotate_left; (rintro ⟨q1, q2⟩; omega)) | ((with_reducible refine Same.call hGw8 ?_ ?_ ?_); rotate_left; (rintro g ⟨q1, q2⟩; (try simp only [szA, szS]); omega); (rintro ⟨q1, q2⟩; omega))))
    · rintro g ⟨q1, q2⟩; (try simp only [szA, szS]); exact ⟨by omega, by omega⟩
  · refine ret8s Tryz.results184 rfl (by repeat (first | (with_reducible apply Bx.put8) | (with_reducible apply Box.alloc) | ((with_reducible refine Box.set ?_ ?_); rotate_left; omega) | ((with_reducible refine Bx.new _ _ _ ?_); rfl) | (with_reducible apply Bx.alloc) | (with_reducible apply Bx.set) | ((with_reducible refine Bx.call hGw1 ?_ ?_); omega) | ((with_reducible refine Bx.call hGw2 ?_ ?_); omega) | ((with_reducible refine Bx.call hGw3 ?_ ?_); omega))) rfl ?_
    refine Rt.ok (H.out.trans rfl) ?_ (Pst.to HP (by intro HP; with_reducible repeat first | exact HP | apply pA | refine pS (by omega) ?_)) (Gw.to HG (by intro HG; with_reducible repeat first | exact HG | apply gA | apply gB | refine gS (by omega) ?_))
    refine RSt.mk2 (xs := sxs) (b := sb) (l := sl) rfl (XsR.mv hX1 (show Same (fun g => w2.heap.size ≤ g ∧ g < w3.heap.size) w3 _ from ?_) ?_) (SsR.mv hX2 (show Same (fun g => w2.heap.size ≤ g ∧ g < w3.heap.size) w3 _ from ?_) ?_) (SsR.mv hX3 (show Same (fun g => w2.heap.size ≤ g ∧ g < w3.heap.size) w3 _ from ?_) ?_) hq1 hq2 hq3
    · exact (by repeat (first | (with_reducible exact Same.refl _ _) | ((with_reducible apply Same.alloc); rotate_left; (rintro g ⟨q1, q2⟩; (try simp only [szA, szS]); omega)) | ((with_reducible apply Same.set); rotate_left; (rintro ⟨q1, q2⟩; omega))))
    · exact (by rintro g ⟨q1, q2⟩; (try simp only [szA, szS] at q1 q2); exact ⟨by omega, by (try simp only [szA, szS]); omega⟩)
    · exact (by repeat (first | (with_reducible exact Same.refl _ _) | ((with_reducible apply Same.alloc); rotate_left; (rintro g ⟨q1, q2⟩; (try simp only [szA, szS]); omega)) | ((with_reducible apply Same.set); rotate_left; (rintro ⟨q1, q2⟩; omega))))
    · exact (by rintro g ⟨q1, q2⟩; (try simp only [szA, szS] at q1 q2); exact ⟨by omega, by (try simp only [szA, szS]); omega⟩)
    · exact (by repeat (first | (with_reducible exact Same.refl _ _) | ((with_reducible apply Same.alloc); rotate_left; (rintro g ⟨q1, q2⟩; (try simp only [szA, szS]); omega)) | ((with_reducible apply Same.set); rotate_left; (rintro ⟨q1, q2⟩; omega))))
    · exact (by rintro g ⟨q1, q2⟩; (try simp only [szA, szS] at q1 q2); exact ⟨by omega, by (try simp only [szA, szS]); omega⟩)
end Go.Proofs.YtcnohgifihbkdaaGreatDoor

