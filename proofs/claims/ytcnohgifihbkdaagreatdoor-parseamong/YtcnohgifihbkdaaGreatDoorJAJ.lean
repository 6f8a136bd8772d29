/- The parser: operators between expressions. -/
import Derived.Test.YtcnohgifihbkdaaGreatDoorJAI
namespace Go.Proofs.YtcnohgifihbkdaaGreatDoor
open Go.RowKit Go.Deep Go.Shelf
set_option linter.unusedVariables false
set_option linter.unusedSimpArgs false
set_option maxRecDepth 100000
theorem eight_of (l : List Value) (h : l.length = 8) : ∃ z0 z1 z2 z3 z4 z5 z6 z7, l = [z0, z1, z2, z3, z4, z5, z6, z7] := by
  match l, h with
  | [a, b, c, d, e, f, g, h], _ => exact ⟨a, b, c, d, e, f, g, h, rfl⟩
theorem Pst.drw {w : World} {P D : Nat} {s : PS} (h : Pst w P D s) : Pst w.drew P D s := h.below ((Below.refl _ w).drew)
theorem grown_drew {w w' : World} {P : Nat} (h : w.grownBy w' (some P)) : w.grownBy w'.drew (some P) := gbelow h ((Below.refl _ w').drew)
theorem Same.drw {A : Nat → Prop} {w w1 : World} (h : Same A w w1) : Same A w w1.drew := h
theorem Bx.call' {n b P : Nat} {T : TypeId} {w w' : World} (h : Bx n b T w) (k : w.grownBy w' (some P)) (hP : ¬ b = P) : Bx n b T w' := Bx.call k hP h
theorem Bx.below {n b : Nat} {T : TypeId} {w w' : World} (h : Bx n b T w) (k : Below w.heap.size w w') : Bx n b T w' := by obtain ⟨cs, h1, h2⟩ := h; exact ⟨cs, h1, h2.below k⟩
theorem Bx.drw {n b : Nat} {T : TypeId} {w : World} (h : Bx n b T w) : Bx n b T w.drew := h
theorem Box.drw {b : Nat} {cs : Array Value} {T : TypeId} {w : World} (h : Box b cs T w) : Box b cs T w.drew := h
set_option maxHeartbeats 1000000 in
theorem operator_any (w : World) (P D : Nat) (s : PS) (lv : Int) (HP : Pst w P D s) : Calls Tryz.prog 227 #[.pointer (some ⟨P, 0, none⟩), .int .i64 lv] w (Rt RI P D w (operator lv s)) := by
  have HG := World.grownBy.refl w (some P)
  have hPw := HP.lt
  have hD := HP.dw
  have hPD := HP.pd
  have t0 := True.intro
  have KN := hid (next_any w P D s HP)
  unfold tokV at KN
  by_cases hk : ((nxt s).kind == 2 || (nxt s).kind == 5) = true
  · have HK : (nxt s).kind ≠ 0 := fun e => by rw [e] at hk; simp at hk
    have hk2 : (nxt s).kind = 2 ∨ (nxt s).kind = 5 := by simpa using hk
    have KO := hid (fun V : World => opOf_any V (nxt s).text)
    by_cases hl : (opOf (nxt s).text).2 = lv
    · have H := hid (show operator lv s = bd take (fun _ => ret (opOf (nxt s).text).1) s by unfold operator; rw [if_pos hk, if_pos hl])
      rw [hl] at KO
      generalize (opOf (nxt s).text).1 = op at *
      clear hk hl
      rcases hk2 with hk2 | hk2 <;> rw [hk2] at KN
      all_goals
        go_enter Tryz.func227, Tryz.ntmps227
        go_wp2_with (first
          | (have hno := t1; (go_at_call 75; (refine (take_any _ _ _ _ (by with_reducible repeat first | exact HP | apply pA | refine pS (by omega) ?_) HK).mono ?_; intro e w3 hrt; rcases hrt.go (W := w) (by with_reducible repeat first | exact HG | apply gA | apply gB | refine gS (by omega) ?_) with ⟨f, hx, rfl, hg⟩ | ⟨a, s1, v, hx, rfl, hv, HP, hGw3, HG, hcw3, hfw3, hzw3, hPw3⟩; exact ⟨rfl, Rt.err (H.out.trans (bd_err hx)) hg⟩; (have hv2 : v = tokV a := hv; subst hv2; unfold tokV); have H := hid (H.out.trans (bd_ok hx)); (try simp only [szA, szS] at hzw3); have hleww3 := le1 w w3 (by omega); (try have hltww3 := lt1 w w3 (by omega)); have hlew1w3 := le1 w1 w3 (by omega); (try have hltw1w3 := lt1 w1 w3 (by omega)); have t3 := True.intro)))
          | (have hno := t1; (go_at_call 232; (refine (KO.out _).mono ?_; rintro e w2 ⟨rfl, rfl⟩)))
          | (have hno := t0; (go_at_call 41; (refine (KN.out).mono ?_; rintro e w1 ⟨rfl, hb⟩; have hg := bgrown hb (some P); have hs := Pst.below (by with_reducible repeat first | exact HP | apply pA | refine pS (by omega) ?_) hb; obtain ⟨hcw1, hfw1⟩ := gcell hg; have hzw1 := hg.size; (try simp only [szA, szS] at hzw1); have hPw1 := hs.lt; have hleww1 := le1 w w1 (by omega); (try have hltww1 := lt1 w w1 (by omega)); have HG := gtrans (by with_reducible repeat first | exact HG | apply gA | apply gB | refine gS (by omega) ?_) hg; have HP := hs; have hGw1 := hg; have t1 := True.intro; (try clear hg hs))))
          )
        go_ret
        exact Rt.ok (H.out.trans rfl) rfl (by with_reducible repeat first | exact HP | apply pA | refine pS (by omega) ?_) (by with_reducible repeat first | exact HG | apply gA | apply gB | refine gS (by omega) ?_)
    · have H := hid (show operator lv s = .ok (0, s) by unfold operator; rw [if_pos hk, if_neg hl])
      generalize (opOf (nxt s).text).1 = op at *
      generalize (opOf (nxt s).text).2 = lx at *
      clear hk
      rcases hk2 with hk2 | hk2 <;> rw [hk2] at KN
      all_goals
        go_enter Tryz.func227, Tryz.ntmps227
        go_wp2_with (first
          | (have hno := t1; (go_at_call 232; (refine (KO.out _).mono ?_; rintro e w2 ⟨rfl, rfl⟩)))
          | (have hno := t0; (go_at_call 41; (refine (KN.out).mono ?_; rintro e w1 ⟨rfl, hb⟩; have hg := bgrown hb (some P); have hs := Pst.below (by with_reducible repeat first | exact HP | apply pA | refine pS (by omega) ?_) hb; obtain ⟨hcw1, hfw1⟩ := gcell hg; have hzw1 := hg.size; (try simp only [szA, szS] at hzw1); have hPw1 := hs.lt; have hleww1 := le1 w w1 (by omega); (try have hltww1 := lt1 w w1 (by omega)); have HG := gtrans (by with_reducible repeat first | exact HG | apply gA | apply gB | refine gS (by omega) ?_) hg; have HP := hs; have hGw1 := hg; have t1 := True.intro; (try clear hg hs))))
          )
        go_ret
        exact Rt.ok (H.out) rfl (by with_reducible repeat first | exact HP | apply pA | refine pS (by omega) ?_) (by with_reducible repeat first | exact HG | apply gA | apply gB | refine gS (by omega) ?_)
  · have H := hid (show operator lv s = .ok (0, s) by unfold operator; rw [if_neg hk])
    have hk3 : ¬ (nxt s).kind = 2 ∧ ¬ (nxt s).kind = 5 := by simpa using hk
    obtain ⟨hk4, hk5⟩ := hk3
    have hk6 : ((nxt s).kind == 2) = false := by simp [hk4]
    have hk7 : ((nxt s).kind == 5) = false := by simp [hk5]
    have hk8 : ((nxt s).kind != 2) = true := by simp [hk4]
    have hk9 : ((nxt s).kind != 5) = true := by simp [hk5]
    clear hk
    go_enter Tryz.func227, Tryz.ntmps227
    go_wp2_with (first
      | (have hno := t0; (go_at_call 41; (refine (KN.out).mono ?_; rintro e w1 ⟨rfl, hb⟩; have hg := bgrown hb (some P); have hs := Pst.below (by with_reducible repeat first | exact HP | apply pA | refine pS (by omega) ?_) hb; obtain ⟨hcw1, hfw1⟩ := gcell hg; have hzw1 := hg.size; (try simp only [szA, szS] at hzw1); have hPw1 := hs.lt; have hleww1 := le1 w w1 (by omega); (try have hltww1 := lt1 w w1 (by omega)); have HG := gtrans (by with_reducible repeat first | exact HG | apply gA | apply gB | refine gS (by omega) ?_) hg; have HP := hs; have hGw1 := hg; have t1 := True.intro; (try clear hg hs))))
      )
    go_ret
    exact Rt.ok (H.out) rfl (by with_reducible repeat first | exact HP | apply pA | refine pS (by omega) ?_) (by with_reducible repeat first | exact HG | apply gA | apply gB | refine gS (by omega) ?_)
set_option maxHeartbeats 4000000 in
theorem left_conj (w : World) (P D n : Nat) (s : PS) (lv : Int) (part : Pr PEx) (HP : Pst w P D s) (J : ∀ (V : World) (t : PS), Pst V P D t → w.grownBy V (some P) → Fed (part t) → Calls Tryz.prog 221 #[.pointer (some ⟨P, 0, none⟩)] V (Rt RE P D V (part t))) (HF : Fed (leftward n lv part s)) : Calls Tryz.prog 220 #[.pointer (some ⟨P, 0, none⟩), .int .i64 lv, .func (.func 221) #[.pointer (some ⟨P, 0, none⟩)] #[]] w (Rt RE P D w (leftward n lv part s)) := by
  have H := hid (show leftward n lv part s = bd part (fun e => leftL lv part n e) s from rfl)
  have HG := World.grownBy.refl w (some P)
  have hPw := HP.lt
  have hD := HP.dw
  have hPD := HP.pd
  have t0 := True.intro
  have J := hid J
  have HF := hid HF
  go_enter Tryz.func220, Tryz.ntmps220
  go_wp2_with ((have hno := t0; (go_at_call 221; (refine (J.out _ _ (by with_reducible repeat first | exact HP | apply pA | refine pS (by omega) ?_) (by with_reducible repeat first | exact HG | apply gA | apply gB | refine gS (by omega) ?_) (fun h => HF.out (H.out.trans (bd_err h)))).mono ?_; intro e w1 hrt; rcases hrt.go (W := w) (by with_reducible repeat first | exact HG | apply gA | apply gB | refine gS (by omega) ?_) with ⟨f, hx, rfl, hg⟩ | ⟨a, s1, v, hx, rfl, hv, HP, hGw1, HG, hcw1, hfw1, hzw1, hPw1⟩; exact ⟨rfl, Rt.err (H.out.trans (bd_err hx)) hg⟩; (obtain ⟨na, nn, nc, aa, an, ac, es, rfl, hN, hX, hA⟩ := hv.parts; have hE := hv); have H := hid (H.out.trans (bd_ok hx)); (try simp only [szA, szS] at hzw1); have hleww1 := le1 w w1 (by omega); (try have hltww1 := lt1 w w1 (by omega)); have t1 := True.intro))))
  have HB6 : Bx 8 w.heap.size 45 w1 := Bx.call hGw1 (by omega) (by refine Bx.new _ _ _ ?_; rfl)
  have HE1 := hid hE
  have HB6 := hid HB6
  clear hX hN hA hE
  go_loopg [8] n (fun g x wr => ∃ (e : PEx) (t : PS) (cs : Array Value), Box w1.heap.size cs 45 wr ∧ RE wr (fun g => w.heap.size ≤ g ∧ g < wr.heap.size ∧ g ≠ w.heap.size ∧ g ≠ w1.heap.size) (.agg cs) e ∧ Bx 8 w.heap.size 45 wr ∧ leftward n lv part s = leftL lv part g e t ∧ Pst wr P D t ∧ w.grownBy wr (some P))
  case atStart => exact ⟨a, s1, _, Box.new w1 _ 45, HE1.out.mv ((Same.refl _ _).alloc (by rintro g ⟨q1, q2⟩; exact q2)) (by rintro g ⟨q1, q2⟩; simp only [World.size_alloc] at q1 ⊢; exact ⟨by omega, by omega, by omega, by omega⟩), HB6.out.alloc _, H.out, HP.alloc _, grown_alloc HG _⟩
  case round =>
    obtain ⟨e, t, cs, HB7, HE, HBX, ho, HP, HG⟩ := hrel
    cases gk with
    | zero => exact absurd (ho.trans rfl) HF.out
    | succ g =>
      have H := hid (show leftward n lv part s = bd (operator lv) (fun op => if op = 0 then ret e else bd part fun b => leftL lv part g (binary op e b)) t from ho)
      obtain ⟨na, nn, nc, aa, an, ac, es, hcs, _⟩ := HE.parts
      cases hcs
      have hgz := HG.size
      have hPr := HP.lt
      have hb7 := HB7.lt
      have y0 := HB7.cell (i := 0) rfl
      have y1 := HB7.cell (i := 1) rfl
      have y2 := HB7.cell (i := 2) rfl
      have y3 := HB7.cell (i := 3) rfl
      have y4 := HB7.cell (i := 4) rfl
      have y5 := HB7.cell (i := 5) rfl
      have y6 := HB7.cell (i := 6) rfl
      have y7 := HB7.cell (i := 7) rfl
      obtain ⟨⟨l6⟩, hl6, hB6⟩ := HBX
      obtain ⟨z0, z1, z2, z3, z4, z5, z6, z7, rfl⟩ := eight_of l6 hl6
      have hb6 := hB6.lt
      have x0 := hB6.cell (i := 0) rfl
      have x1 := hB6.cell (i := 1) rfl
      have x2 := hB6.cell (i := 2) rfl
      have x3 := hB6.cell (i := 3) rfl
      have x4 := hB6.cell (i := 4) rfl
      have x5 := hB6.cell (i := 5) rfl
      have x6 := hB6.cell (i := 6) rfl
      have x7 := hB6.cell (i := 7) rfl
      have xf : ∀ o, wr.frozen? ⟨w.heap.size, o, none⟩ = false := fun o => freeOf hB6 o
      have yf : ∀ o, wr.frozen? ⟨w1.heap.size, o, none⟩ = false := fun o => freeOf HB7 o
      have HE := hid HE
      have HB7 := hid HB7
      have HBX : Bx 8 w.heap.size 45 wr := ⟨_, rfl, hB6⟩
      have HBX := hid HBX
      clear ho
      go_wp2_with ((have hno := t1; (go_at_call 227; (refine (operator_any _ _ _ _ _ (by with_reducible repeat first | exact HP | apply pA | refine pS (by omega) ?_)).mono ?_; intro e w2 hrt; rcases hrt.go (W := w) (by with_reducible repeat first | exact HG | apply gA | apply gB | refine gS (by omega) ?_) with ⟨f, hx, rfl, hg⟩ | ⟨op, s2, v, hx, rfl, hv, HP, hGw2, HG, hcw2, hfw2, hzw2, hPw2⟩; exact ⟨rfl, Rt.err (H.out.trans (bd_err hx)) hg⟩; (have hv2 : v = .int .i64 op := hv; subst hv2); have H := hid (H.out.trans (bd_ok hx)); (try simp only [szA, szS] at hzw2); have hleww2 := le1 w w2 (by omega); (try have hltww2 := lt1 w w2 (by omega)); have hlew1w2 := le1 w1 w2 (by omega); (try have hltw1w2 := lt1 w1 w2 (by omega)); have hlewrw2 := le1 wr w2 (by omega); (try have hltwrw2 := lt1 wr w2 (by omega)); have t2 := True.intro; skip; by_cases hop : op = 0))))
      · have H2 : leftward n lv part s = .ok (e, s2) := by have := H.out; rw [if_pos hop] at this; exact this
        refine ret8 Tryz.results220 rfl (Bx.put8 (Bx.call hGw2 (by omega) HBX)) rfl ?_
        refine Rt.ok H2 ?_ (by with_reducible repeat first | exact HP | apply pA | refine pS (by omega) ?_) (by with_reducible repeat first | exact HG | apply gA | apply gB | refine gS (by omega) ?_)
        refine RE.mv HE.out (show Same (fun g => w.heap.size ≤ g ∧ g < wr.heap.size ∧ g ≠ w.heap.size ∧ g ≠ w1.heap.size) wr _ from ?_) ?_
        · exact (by repeat (first | (with_reducible exact Same.refl _ _) | ((with_reducible apply Same.set); rotate_left; (rintro ⟨q1, q2, q3, q4⟩; omega)) | ((with_reducible refine Same.call hGw2 ?_ ?_ ?_); rotate_left; (rintro g ⟨q1, q2, q3, q4⟩; (try simp only [szA, szS]); omega); (rintro ⟨q1, q2, q3, q4⟩; omega))))
        · rintro g ⟨q1, q2, q3, q4⟩; exact ⟨q1, by simp only [World.size_setCell]; omega⟩
      · have H2 := hid (show leftward n lv part s = bd part (fun b => leftL lv part g (binary op e b)) s2 by have := H.out; rw [if_neg hop] at this; exact this)
        have hB7 := HB7.out.call hGw2 (by omega)
        have ST : ∀ v : World, Box w1.heap.size #[.int .i64 e.kind, .int .i64 e.op, .int .i64 e.int, .string (bs e.text), .string (bs e.name), .slice na nn nc, .slice aa an ac, .int .i64 e.pos] 45 v → v.cell? ⟨w1.heap.size, 0, none⟩ = some (.int .i64 e.kind) ∧ v.cell? ⟨w1.heap.size, 1, none⟩ = some (.int .i64 e.op) ∧ v.cell? ⟨w1.heap.size, 2, none⟩ = some (.int .i64 e.int) ∧ v.cell? ⟨w1.heap.size, 3, none⟩ = some (.string (bs e.text)) ∧ v.cell? ⟨w1.heap.size, 4, none⟩ = some (.string (bs e.name)) ∧ v.cell? ⟨w1.heap.size, 5, none⟩ = some (.slice na nn nc) ∧ v.cell? ⟨w1.heap.size, 6, none⟩ = some (.slice aa an ac) ∧ v.cell? ⟨w1.heap.size, 7, none⟩ = some (.int .i64 e.pos) := fun v hv => ⟨hv.cell rfl, hv.cell rfl, hv.cell rfl, hv.cell rfl, hv.cell rfl, hv.cell rfl, hv.cell rfl, hv.cell rfl⟩
        have HB7 := hid hB7
        have HP2 := HP.drw
        have HG2 := grown_drew HG
        clear x0 x1 x2 x3 x4 x5 x6 x7 xf y0 y1 y2 y3 y4 y5 y6 y7 yf hcw2 hfw2
        refine wp_region_I 5 (fun v : World => v.cell? ⟨w1.heap.size, 0, none⟩ = some (.int .i64 e.kind) ∧ v.cell? ⟨w1.heap.size, 1, none⟩ = some (.int .i64 e.op) ∧ v.cell? ⟨w1.heap.size, 2, none⟩ = some (.int .i64 e.int) ∧ v.cell? ⟨w1.heap.size, 3, none⟩ = some (.string (bs e.text)) ∧ v.cell? ⟨w1.heap.size, 4, none⟩ = some (.string (bs e.name)) ∧ v.cell? ⟨w1.heap.size, 5, none⟩ = some (.slice na nn nc) ∧ v.cell? ⟨w1.heap.size, 6, none⟩ = some (.slice aa an ac) ∧ v.cell? ⟨w1.heap.size, 7, none⟩ = some (.int .i64 e.pos)) (by kernel_rfl) (ST _ HB7.out.drw) (fun hHeld => ?_)
        refine wpAnyI_take (i := 0) (oi := { dst := some 17, op := Go.Op.move (Go.Operand.tmp 8), type := 3, pos := "expr.go:77", after := #[], guard := none }) (v := ?_) [5] rfl (by kernel_rfl) (by kernel_rfl) (by kernel_rfl) (by kernel_rfl) (fun _ _ _ h => h) (Or.inl ⟨by rfl, ?_⟩) (by assumption) ?_
        rotate_left
        · (intro w hSw; (try dsimp only at hSw); go_simp; (try with_reducible rfl))
        (try simp only [Act.put, List.setIfInBounds_toArray, List.set_cons_zero, List.set_cons_succ])
        refine wpAnyI_take (i := 1) (oi := { dst := some 18, op := Go.Op.load 45 (Go.Operand.tmp 7), type := 45, pos := "expr.go:77", after := #[], guard := none }) (v := ?_) [5] rfl (by kernel_rfl) (by kernel_rfl) (by kernel_rfl) (by kernel_rfl) (fun _ _ _ h => h) (Or.inl ⟨by rfl, ?_⟩) (by assumption) ?_
        rotate_left
        · (intro w hSw; (try dsimp only at hSw); go_simp; (try with_reducible rfl))
        (try simp only [Act.put, List.setIfInBounds_toArray, List.set_cons_zero, List.set_cons_succ])
        refine wpAnyI_take (i := 2) (oi := { dst := some 19, op := Go.Op.move (Go.Operand.tmp 2), type := 131, pos := "expr.go:77", after := #[], guard := none }) (v := ?_) [5] rfl (by kernel_rfl) (by kernel_rfl) (by kernel_rfl) (by kernel_rfl) (fun _ _ _ h => h) (Or.inl ⟨by rfl, ?_⟩) (by assumption) ?_
        rotate_left
        · (intro w hSw; (try dsimp only at hSw); go_simp; (try with_reducible rfl))
        (try simp only [Act.put, List.setIfInBounds_toArray, List.set_cons_zero, List.set_cons_succ])
        refine wpAnyI_one (i := 3) (o := { dst := some 20, op := Go.Op.call { callee := Go.Callee.value (Go.Operand.tmp 19), args := #[], argTypes := #[] }, type := 45, pos := "expr.go:77", after := #[{ on := 2, ground := Go.Ground.data }], guard := none }) (by kernel_rfl) rfl (fun K hK => ?_)
        go_simp
        (refine (J.out _ _ HP2 HG2 (fun h => HF.out (H2.out.trans (bd_err h)))).mono ?_; intro e3 w3 hrt; rcases hrt.cases with ⟨f, hx, rfl, hg⟩ | ⟨b, s3, v, hx, rfl, hv, hs, hg⟩; (focus (exact ⟨rfl, Rt.err (H2.out.trans (bd_err hx)) (gtrans HG2 hg)⟩)); (obtain ⟨na3, nn3, nc3, aa3, an3, ac3, es3, rfl, hN3, hX3, hA3⟩ := hv.parts); have H3 := hid (H2.out.trans (bd_ok hx)); have hz3 := hg.size; have hB73 := Box.call (HB7.out.drw) hg (by omega); have HG3 := gtrans HG2 hg; have HP3 := hs; have hG3 := hg; have hv3 := hid hv; clear hg hs hN3 hX3 hA3 hv)
        try go_wp2_with fail
        refine hK.out _ _ (ST _ hB73) (fun hHeldN => ?_)
        clear hK K hHeld
        have hHeld := hHeldN
        clear hHeldN
        (try simp only [Act.put, List.setIfInBounds_toArray, List.set_cons_zero, List.set_cons_succ])
        refine wpAnyI_one (i := 4) (o := { dst := some 21, op := Go.Op.call { callee := Go.Callee.value (Go.Operand.func 228), args := #[Go.Operand.tmp 17, Go.Operand.tmp 18, Go.Operand.tmp 20], argTypes := #[3, 45, 45] }, type := 45, pos := "expr.go:77", after := #[{ on := 0, ground := Go.Ground.data }, { on := 1, ground := Go.Ground.data }, { on := 3, ground := Go.Ground.data }, { on := 3, ground := Go.Ground.chain }], guard := none }) (by kernel_rfl) rfl (fun K hK => ?_)
        go_simp
        (have hzd : w2.drew.heap.size = w2.heap.size := rfl; have hA1 := HE.out.mv (B := fun g => w.heap.size ≤ g ∧ g < w3.heap.size ∧ g ≠ w.heap.size ∧ g ≠ w1.heap.size) (w' := w3) (by repeat (first | (with_reducible exact Same.refl _ _) | ((with_reducible apply Same.set); rotate_left; (rintro ⟨q1, q2, q3, q4⟩; omega)) | ((with_reducible refine Same.call hGw2 ?_ ?_ ?_); rotate_left; (rintro g ⟨q1, q2, q3, q4⟩; (try simp only [szA, szS]); omega); (rintro ⟨q1, q2, q3, q4⟩; omega)) | (refine Same.call hG3 ?_ ?_ ?_; rotate_left; (rintro g ⟨q1, q2, q3, q4⟩; omega); (rintro ⟨q1, q2, q3, q4⟩; omega)) | (with_reducible apply Same.drw))) (by rintro g ⟨q1, q2, q3, q4⟩; exact ⟨q1, by omega, q3, q4⟩); have hA2 := hv3.out.mv (B := fun g => w.heap.size ≤ g ∧ g < w3.heap.size ∧ g ≠ w.heap.size ∧ g ≠ w1.heap.size) (Same.refl _ _) (by rintro g ⟨q1, q2⟩; exact ⟨by omega, q2, by omega, by omega⟩); refine (binary_any w3 op e b (fun g => w.heap.size ≤ g ∧ g < w3.heap.size ∧ g ≠ w.heap.size ∧ g ≠ w1.heap.size) _ _ hA1 hA2 (by rintro g ⟨q1, q2, q3, q4⟩; exact q2)).mono ?_; rintro e4 w4 ⟨v4, rfl, hv4, hb4⟩; obtain ⟨na4, nn4, nc4, aa4, an4, ac4, es4, rfl, hN4, hX4, hA4⟩ := hv4.parts; have hz4 := hb4.size; have hB74 := hB73.below hb4; have HG4 := gbelow HG3 hb4; have HP4 := HP3.below hb4; have HV4 := hid hv4; have hb4x := hid hb4; have yf : ∀ o, w4.frozen? ⟨w1.heap.size, o, none⟩ = false := (fun o => freeOf hB74 o); obtain ⟨j0, j1, j2, j3, j4, j5, j6, j7⟩ := ST _ hB74; clear hN4 hX4 hA4 hv4 hb4 hA1 hA2)
        try go_wp2_with fail
        refine hK.out _ _ (ST _ hB74) (fun hHeldN => ?_)
        clear hK K hHeld
        have hHeld := hHeldN
        clear hHeldN
        (try simp only [Act.put, List.setIfInBounds_toArray, List.set_cons_zero, List.set_cons_succ])
        refine wpAnyI_last (o := { dst := none, op := Go.Op.store 45 (Go.Operand.tmp 7) (Go.Operand.tmp 21), type := 0, pos := "expr.go:77", after := #[{ on := 4, ground := Go.Ground.data }, { on := 4, ground := Go.Ground.chain }, { on := 0, ground := Go.Ground.phase }, { on := 1, ground := Go.Ground.phase }, { on := 2, ground := Go.Ground.phase }, { on := 3, ground := Go.Ground.phase }, { on := 4, ground := Go.Ground.phase }], guard := none }) (by kernel_rfl) rfl (by kernel_rfl) (fun K hK => ?_)
        go_simp
        refine hK.out _ _ ?_
        clear hK K hHeld
        (try simp only [Act.put, List.setIfInBounds_toArray, List.set_cons_zero, List.set_cons_succ])
        go_wp2
        go_roundg g
        case measure => omega
        have HP := HP4
        have HG := HG4
        have hnA : ¬ (fun g => ((fun g => w.heap.size ≤ g ∧ g < w3.heap.size ∧ g ≠ w.heap.size ∧ g ≠ w1.heap.size) g) ∨ (w3.heap.size ≤ g ∧ g < w4.heap.size)) w1.heap.size := fun h => h.elim (fun q => q.2.2.2 rfl) (fun q => by omega)
        refine ⟨binary op e b, s3, _, Bx.put8 ⟨_, rfl, hB74⟩, ?_, ?_, H3.out, ?_, ?_⟩
        · refine HV4.out.mv ?_ ?_
          · repeat (first | (with_reducible exact Same.refl _ _) | ((with_reducible apply Same.set); rotate_left; exact hnA))
          · rintro g (⟨q1, q2, q3, q4⟩ | ⟨q1, q2⟩) <;> exact ⟨by omega, by simp only [World.size_setCell]; omega, by omega, by omega⟩
        · have q := ((HBX.call' hGw2 (by omega)).drw.call' hG3 (by omega)).below hb4x.out
          repeat (first | (with_reducible exact q) | (with_reducible apply Bx.set))
        · exact (by with_reducible repeat first | exact HP | apply pA | refine pS (by omega) ?_)
        · exact (by with_reducible repeat first | exact HG | apply gA | apply gB | refine gS (by omega) ?_)
set_option maxHeartbeats 4000000 in
theorem left_neg (w : World) (P D n : Nat) (s : PS) (lv : Int) (part : Pr PEx) (HP : Pst w P D s) (J : ∀ (V : World) (t : PS), Pst V P D t → w.grownBy V (some P) → Fed (part t) → Calls Tryz.prog 229 #[.pointer (some ⟨P, 0, none⟩)] V (Rt RE P D V (part t))) (HF : Fed (leftward n lv part s)) : Calls Tryz.prog 220 #[.pointer (some ⟨P, 0, none⟩), .int .i64 lv, .func (.func 229) #[.pointer (some ⟨P, 0, none⟩)] #[]] w (Rt RE P D w (leftward n lv part s)) := by
  have H := hid (show leftward n lv part s = bd part (fun e => leftL lv part n e) s from rfl)
  have HG := World.grownBy.refl w (some P)
  have hPw := HP.lt
  have hD := HP.dw
  have hPD := HP.pd
  have t0 := True.intro
  have J := hid J
  have HF := hid HF
  go_enter Tryz.func220, Tryz.ntmps220
  go_wp2_with ((have hno := t0; (go_at_call 229; (refine (J.out _ _ (by with_reducible repeat first | exact HP | apply pA | refine pS (by omega) ?_) (by with_reducible repeat first | exact HG | apply gA | apply gB | refine gS (by omega) ?_) (fun h => HF.out (H.out.trans (bd_err h)))).mono ?_; intro e w1 hrt; rcases hrt.go (W := w) (by with_reducible repeat first | exact HG | apply gA | apply gB | refine gS (by omega) ?_) with ⟨f, hx, rfl, hg⟩ | ⟨a, s1, v, hx, rfl, hv, HP, hGw1, HG, hcw1, hfw1, hzw1, hPw1⟩; exact ⟨rfl, Rt.err (H.out.trans (bd_err hx)) hg⟩; (obtain ⟨na, nn, nc, aa, an, ac, es, rfl, hN, hX, hA⟩ := hv.parts; have hE := hv); have H := hid (H.out.trans (bd_ok hx)); (try simp only [szA, szS] at hzw1); have hleww1 := le1 w w1 (by omega); (try have hltww1 := lt1 w w1 (by omega)); have t1 := True.intro))))
  have HB6 : Bx 8 w.heap.size 45 w1 := Bx.call hGw1 (by omega) (by refine Bx.new _ _ _ ?_; rfl)
  have HE1 := hid hE
  have HB6 := hid HB6
  clear hX hN hA hE
  go_loopg [8] n (fun g x wr => ∃ (e : PEx) (t : PS) (cs : Array Value), Box w1.heap.size cs 45 wr ∧ RE wr (fun g => w.heap.size ≤ g ∧ g < wr.heap.size ∧ g ≠ w.heap.size ∧ g ≠ w1.heap.size) (.agg cs) e ∧ Bx 8 w.heap.size 45 wr ∧ leftward n lv part s = leftL lv part g e t ∧ Pst wr P D t ∧ w.grownBy wr (some P))
  case atStart => exact ⟨a, s1, _, Box.new w1 _ 45, HE1.out.mv ((Same.refl _ _).alloc (by rintro g ⟨q1, q2⟩; exact q2)) (by rintro g ⟨q1, q2⟩; simp only [World.size_alloc] at q1 ⊢; exact ⟨by omega, by omega, by omega, by omega⟩), HB6.out.alloc _, H.out, HP.alloc _, grown_alloc HG _⟩
  case round =>
    obtain ⟨e, t, cs, HB7, HE, HBX, ho, HP, HG⟩ := hrel
    cases gk with
    | zero => exact absurd (ho.trans rfl) HF.out
    | succ g =>
      have H := hid (show leftward n lv part s = bd (operator lv) (fun op => if op = 0 then ret e else bd part fun b => leftL lv part g (binary op e b)) t from ho)
      obtain ⟨na, nn, nc, aa, an, ac, es, hcs, _⟩ := HE.parts
      cases hcs
      have hgz := HG.size
      have hPr := HP.lt
      have hb7 := HB7.lt
      have y0 := HB7.cell (i := 0) rfl
      have y1 := HB7.cell (i := 1) rfl
      have y2 := HB7.cell (i := 2) rfl
      have y3 := HB7.cell (i := 3) rfl
      have y4 := HB7.cell (i := 4) rfl
      have y5 := HB7.cell (i := 5) rfl
      have y6 := HB7.cell (i := 6) rfl
      have y7 := HB7.cell (i := 7) rfl
      obtain ⟨⟨l6⟩, hl6, hB6⟩ := HBX
      obtain ⟨z0, z1, z2, z3, z4, z5, z6, z7, rfl⟩ := eight_of l6 hl6
      have hb6 := hB6.lt
      have x0 := hB6.cell (i := 0) rfl
      have x1 := hB6.cell (i := 1) rfl
      have x2 := hB6.cell (i := 2) rfl
      have x3 := hB6.cell (i := 3) rfl
      have x4 := hB6.cell (i := 4) rfl
      have x5 := hB6.cell (i := 5) rfl
      have x6 := hB6.cell (i := 6) rfl
      have x7 := hB6.cell (i := 7) rfl
      have xf : ∀ o, wr.frozen? ⟨w.heap.size, o, none⟩ = false := fun o => freeOf hB6 o
      have yf : ∀ o, wr.frozen? ⟨w1.heap.size, o, none⟩ = false := fun o => freeOf HB7 o
      have HE := hid HE
      have HB7 := hid HB7
      have HBX : Bx 8 w.heap.size 45 wr := ⟨_, rfl, hB6⟩
      have HBX := hid HBX
      clear ho
      go_wp2_with ((have hno := t1; (go_at_call 227; (refine (operator_any _ _ _ _ _ (by with_reducible repeat first | exact HP | apply pA | refine pS (by omega) ?_)).mono ?_; intro e w2 hrt; rcases hrt.go (W := w) (by with_reducible repeat first | exact HG | apply gA | apply gB | refine gS (by omega) ?_) with ⟨f, hx, rfl, hg⟩ | ⟨op, s2, v, hx, rfl, hv, HP, hGw2, HG, hcw2, hfw2, hzw2, hPw2⟩; exact ⟨rfl, Rt.err (H.out.trans (bd_err hx)) hg⟩; (have hv2 : v = .int .i64 op := hv; subst hv2); have H := hid (H.out.trans (bd_ok hx)); (try simp only [szA, szS] at hzw2); have hleww2 := le1 w w2 (by omega); (try have hltww2 := lt1 w w2 (by omega)); have hlew1w2 := le1 w1 w2 (by omega); (try have hltw1w2 := lt1 w1 w2 (by omega)); have hlewrw2 := le1 wr w2 (by omega); (try have hltwrw2 := lt1 wr w2 (by omega)); have t2 := True.intro; skip; by_cases hop : op = 0))))
      · have H2 : leftward n lv part s = .ok (e, s2) := by have := H.out; rw [if_pos hop] at this; exact this
        refine ret8 Tryz.results220 rfl (Bx.put8 (Bx.call hGw2 (by omega) HBX)) rfl ?_
        refine Rt.ok H2 ?_ (by with_reducible repeat first | exact HP | apply pA | refine pS (by omega) ?_) (by with_reducible repeat first | exact HG | apply gA | apply gB | refine gS (by omega) ?_)
        refine RE.mv HE.out (show Same (fun g => w.heap.size ≤ g ∧ g < wr.heap.size ∧ g ≠ w.heap.size ∧ g ≠ w1.heap.size) wr _ from ?_) ?_
        · exact (by repeat (first | (with_reducible exact Same.refl _ _) | ((with_reducible apply Same.set); rotate_left; (rintro ⟨q1, q2, q3, q4⟩; omega)) | ((with_reducible refine Same.call hGw2 ?_ ?_ ?_); rotate_left; (rintro g ⟨q1, q2, q3, q4⟩; (try simp only [szA, szS]); omega); (rintro ⟨q1, q2, q3, q4⟩; omega))))
        · rintro g ⟨q1, q2, q3, q4⟩; exact ⟨q1, by simp only [World.size_setCell]; omega⟩
      · have H2 := hid (show leftward n lv part s = bd part (fun b => leftL lv part g (binary op e b)) s2 by have := H.out; rw [if_neg hop] at this; exact this)
        have hB7 := HB7.out.call hGw2 (by omega)
        have ST : ∀ v : World, Box w1.heap.size #[.int .i64 e.kind, .int .i64 e.op, .int .i64 e.int, .string (bs e.text), .string (bs e.name), .slice na nn nc, .slice aa an ac, .int .i64 e.pos] 45 v → v.cell? ⟨w1.heap.size, 0, none⟩ = some (.int .i64 e.kind) ∧ v.cell? ⟨w1.heap.size, 1, none⟩ = some (.int .i64 e.op) ∧ v.cell? ⟨w1.heap.size, 2, none⟩ = some (.int .i64 e.int) ∧ v.cell? ⟨w1.heap.size, 3, none⟩ = some (.string (bs e.text)) ∧ v.cell? ⟨w1.heap.size, 4, none⟩ = some (.string (bs e.name)) ∧ v.cell? ⟨w1.heap.size, 5, none⟩ = some (.slice na nn nc) ∧ v.cell? ⟨w1.heap.size, 6, none⟩ = some (.slice aa an ac) ∧ v.cell? ⟨w1.heap.size, 7, none⟩ = some (.int .i64 e.pos) := fun v hv => ⟨hv.cell rfl, hv.cell rfl, hv.cell rfl, hv.cell rfl, hv.cell rfl, hv.cell rfl, hv.cell rfl, hv.cell rfl⟩
        have HB7 := hid hB7
        have HP2 := HP.drw
        have HG2 := grown_drew HG
        clear x0 x1 x2 x3 x4 x5 x6 x7 xf y0 y1 y2 y3 y4 y5 y6 y7 yf hcw2 hfw2
        refine wp_region_I 5 (fun v : World => v.cell? ⟨w1.heap.size, 0, none⟩ = some (.int .i64 e.kind) ∧ v.cell? ⟨w1.heap.size, 1, none⟩ = some (.int .i64 e.op) ∧ v.cell? ⟨w1.heap.size, 2, none⟩ = some (.int .i64 e.int) ∧ v.cell? ⟨w1.heap.size, 3, none⟩ = some (.string (bs e.text)) ∧ v.cell? ⟨w1.heap.size, 4, none⟩ = some (.string (bs e.name)) ∧ v.cell? ⟨w1.heap.size, 5, none⟩ = some (.slice na nn nc) ∧ v.cell? ⟨w1.heap.size, 6, none⟩ = some (.slice aa an ac) ∧ v.cell? ⟨w1.heap.size, 7, none⟩ = some (.int .i64 e.pos)) (by kernel_rfl) (ST _ HB7.out.drw) (fun hHeld => ?_)
        refine wpAnyI_take (i := 0) (oi := { dst := some 17, op := Go.Op.move (Go.Operand.tmp 8), type := 3, pos := "expr.go:77", after := #[], guard := none }) (v := ?_) [5] rfl (by kernel_rfl) (by kernel_rfl) (by kernel_rfl) (by kernel_rfl) (fun _ _ _ h => h) (Or.inl ⟨by rfl, ?_⟩) (by assumption) ?_
        rotate_left
        · (intro w hSw; (try dsimp only at hSw); go_simp; (try with_reducible rfl))
        (try simp only [Act.put, List.setIfInBounds_toArray, List.set_cons_zero, List.set_cons_succ])
        refine wpAnyI_take (i := 1) (oi := { dst := some 18, op := Go.Op.load 45 (Go.Operand.tmp 7), type := 45, pos := "expr.go:77", after := #[], guard := none }) (v := ?_) [5] rfl (by kernel_rfl) (by kernel_rfl) (by kernel_rfl) (by kernel_rfl) (fun _ _ _ h => h) (Or.inl ⟨by rfl, ?_⟩) (by assumption) ?_
        rotate_left
        · (intro w hSw; (try dsimp only at hSw); go_simp; (try with_reducible rfl))
        (try simp only [Act.put, List.setIfInBounds_toArray, List.set_cons_zero, List.set_cons_succ])
        refine wpAnyI_take (i := 2) (oi := { dst := some 19, op := Go.Op.move (Go.Operand.tmp 2), type := 131, pos := "expr.go:77", after := #[], guard := none }) (v := ?_) [5] rfl (by kernel_rfl) (by kernel_rfl) (by kernel_rfl) (by kernel_rfl) (fun _ _ _ h => h) (Or.inl ⟨by rfl, ?_⟩) (by assumption) ?_
        rotate_left
        · (intro w hSw; (try dsimp only at hSw); go_simp; (try with_reducible rfl))
        (try simp only [Act.put, List.setIfInBounds_toArray, List.set_cons_zero, List.set_cons_succ])
        refine wpAnyI_one (i := 3) (o := { dst := some 20, op := Go.Op.call { callee := Go.Callee.value (Go.Operand.tmp 19), args := #[], argTypes := #[] }, type := 45, pos := "expr.go:77", after := #[{ on := 2, ground := Go.Ground.data }], guard := none }) (by kernel_rfl) rfl (fun K hK => ?_)
        go_simp
        (refine (J.out _ _ HP2 HG2 (fun h => HF.out (H2.out.trans (bd_err h)))).mono ?_; intro e3 w3 hrt; rcases hrt.cases with ⟨f, hx, rfl, hg⟩ | ⟨b, s3, v, hx, rfl, hv, hs, hg⟩; (focus (exact ⟨rfl, Rt.err (H2.out.trans (bd_err hx)) (gtrans HG2 hg)⟩)); (obtain ⟨na3, nn3, nc3, aa3, an3, ac3, es3, rfl, hN3, hX3, hA3⟩ := hv.parts); have H3 := hid (H2.out.trans (bd_ok hx)); have hz3 := hg.size; have hB73 := Box.call (HB7.out.drw) hg (by omega); have HG3 := gtrans HG2 hg; have HP3 := hs; have hG3 := hg; have hv3 := hid hv; clear hg hs hN3 hX3 hA3 hv)
        try go_wp2_with fail
        refine hK.out _ _ (ST _ hB73) (fun hHeldN => ?_)
        clear hK K hHeld
        have hHeld := hHeldN
        clear hHeldN
        (try simp only [Act.put, List.setIfInBounds_toArray, List.set_cons_zero, List.set_cons_succ])
        refine wpAnyI_one (i := 4) (o := { dst := some 21, op := Go.Op.call { callee := Go.Callee.value (Go.Operand.func 228), args := #[Go.Operand.tmp 17, Go.Operand.tmp 18, Go.Operand.tmp 20], argTypes := #[3, 45, 45] }, type := 45, pos := "expr.go:77", after := #[{ on := 0, ground := Go.Ground.data }, { on := 1, ground := Go.Ground.data }, { on := 3, ground := Go.Ground.data }, { on := 3, ground := Go.Ground.chain }], guard := none }) (by kernel_rfl) rfl (fun K hK => ?_)
        go_simp
        (have hzd : w2.drew.heap.size = w2.heap.size := rfl; have hA1 := HE.out.mv (B := fun g => w.heap.size ≤ g ∧ g < w3.heap.size ∧ g ≠ w.heap.size ∧ g ≠ w1.heap.size) (w' := w3) (by repeat (first | (with_reducible exact Same.refl _ _) | ((with_reducible apply Same.set); rotate_left; (rintro ⟨q1, q2, q3, q4⟩; omega)) | ((with_reducible refine Same.call hGw2 ?_ ?_ ?_); rotate_left; (rintro g ⟨q1, q2, q3, q4⟩; (try simp only [szA, szS]); omega); (rintro ⟨q1, q2, q3, q4⟩; omega)) | (refine Same.call hG3 ?_ ?_ ?_; rotate_left; (rintro g ⟨q1, q2, q3, q4⟩; omega); (rintro ⟨q1, q2, q3, q4⟩; omega)) | (with_reducible apply Same.drw))) (by rintro g ⟨q1, q2, q3, q4⟩; exact ⟨q1, by omega, q3, q4⟩); have hA2 := hv3.out.mv (B := fun g => w.heap.size ≤ g ∧ g < w3.heap.size ∧ g ≠ w.heap.size ∧ g ≠ w1.heap.size) (Same.refl _ _) (by rintro g ⟨q1, q2⟩; exact ⟨by omega, q2, by omega, by omega⟩); refine (binary_any w3 op e b (fun g => w.heap.size ≤ g ∧ g < w3.heap.size ∧ g ≠ w.heap.size ∧ g ≠ w1.heap.size) _ _ hA1 hA2 (by rintro g ⟨q1, q2, q3, q4⟩; exact q2)).mono ?_; rintro e4 w4 ⟨v4, rfl, hv4, hb4⟩; obtain ⟨na4, nn4, nc4, aa4, an4, ac4, es4, rfl, hN4, hX4, hA4⟩ := hv4.parts; have hz4 := hb4.size; have hB74 := hB73.below hb4; have HG4 := gbelow HG3 hb4; have HP4 := HP3.below hb4; have HV4 := hid hv4; have hb4x := hid hb4; have yf : ∀ o, w4.frozen? ⟨w1.heap.size, o, none⟩ = false := (fun o => freeOf hB74 o); obtain ⟨j0, j1, j2, j3, j4, j5, j6, j7⟩ := ST _ hB74; clear hN4 hX4 hA4 hv4 hb4 hA1 hA2)
        try go_wp2_with fail
        refine hK.out _ _ (ST _ hB74) (fun hHeldN => ?_)
        clear hK K hHeld
        have hHeld := hHeldN
        clear hHeldN
        (try simp only [Act.put, List.setIfInBounds_toArray, List.set_cons_zero, List.set_cons_succ])
        refine wpAnyI_last (o := { dst := none, op := Go.Op.store 45 (Go.Operand.tmp 7) (Go.Operand.tmp 21), type := 0, pos := "expr.go:77", after := #[{ on := 4, ground := Go.Ground.data }, { on := 4, ground := Go.Ground.chain }, { on := 0, ground := Go.Ground.phase }, { on := 1, ground := Go.Ground.phase }, { on := 2, ground := Go.Ground.phase }, { on := 3, ground := Go.Ground.phase }, { on := 4, ground := Go.Ground.phase }], guard := none }) (by kernel_rfl) rfl (by kernel_rfl) (fun K hK => ?_)
        go_simp
        refine hK.out _ _ ?_
        clear hK K hHeld
        (try simp only [Act.put, List.setIfInBounds_toArray, List.set_cons_zero, List.set_cons_succ])
        go_wp2
        go_roundg g
        case measure => omega
        have HP := HP4
        have HG := HG4
        have hnA : ¬ (fun g => ((fun g => w.heap.size ≤ g ∧ g < w3.heap.size ∧ g ≠ w.heap.size ∧ g ≠ w1.heap.size) g) ∨ (w3.heap.size ≤ g ∧ g < w4.heap.size)) w1.heap.size := fun h => h.elim (fun q => q.2.2.2 rfl) (fun q => by omega)
        refine ⟨binary op e b, s3, _, Bx.put8 ⟨_, rfl, hB74⟩, ?_, ?_, H3.out, ?_, ?_⟩
        · refine HV4.out.mv ?_ ?_
          · repeat (first | (with_reducible exact Same.refl _ _) | ((with_reducible apply Same.set); rotate_left; exact hnA))
          · rintro g (⟨q1, q2, q3, q4⟩ | ⟨q1, q2⟩) <;> exact ⟨by omega, by simp only [World.size_setCell]; omega, by omega, by omega⟩
        · have q := ((HBX.call' hGw2 (by omega)).drw.call' hG3 (by omega)).below hb4x.out
          repeat (first | (with_reducible exact q) | (with_reducible apply Bx.set))
        · exact (by with_reducible repeat first | exact HP | apply pA | refine pS (by omega) ?_)
        · exact (by with_reducible repeat first | exact HG | apply gA | apply gB | refine gS (by omega) ?_)
set_option maxHeartbeats 4000000 in
theorem left_prod (w : World) (P D n : Nat) (s : PS) (lv : Int) (part : Pr PEx) (HP : Pst w P D s) (J : ∀ (V : World) (t : PS), Pst V P D t → w.grownBy V (some P) → Fed (part t) → Calls Tryz.prog 241 #[.pointer (some ⟨P, 0, none⟩)] V (Rt RE P D V (part t))) (HF : Fed (leftward n lv part s)) : Calls Tryz.prog 220 #[.pointer (some ⟨P, 0, none⟩), .int .i64 lv, .func (.func 241) #[.pointer (some ⟨P, 0, none⟩)] #[]] w (Rt RE P D w (leftward n lv part s)) := by
  have H := hid (show leftward n lv part s = bd part (fun e => leftL lv part n e) s from rfl)
  have HG := World.grownBy.refl w (some P)
  have hPw := HP.lt
  have hD := HP.dw
  have hPD := HP.pd
  have t0 := True.intro
  have J := hid J
  have HF := hid HF
  go_enter Tryz.func220, Tryz.ntmps220
  go_wp2_with ((have hno := t0; (go_at_call 241; (refine (J.out _ _ (by with_reducible repeat first | exact HP | apply pA | refine pS (by omega) ?_) (by with_reducible repeat first | exact HG | apply gA | apply gB | refine gS (by omega) ?_) (fun h => HF.out (H.out.trans (bd_err h)))).mono ?_; intro e w1 hrt; rcases hrt.go (W := w) (by with_reducible repeat first | exact HG | apply gA | apply gB | refine gS (by omega) ?_) with ⟨f, hx, rfl, hg⟩ | ⟨a, s1, v, hx, rfl, hv, HP, hGw1, HG, hcw1, hfw1, hzw1, hPw1⟩; exact ⟨rfl, Rt.err (H.out.trans (bd_err hx)) hg⟩; (obtain ⟨na, nn, nc, aa, an, ac, es, rfl, hN, hX, hA⟩ := hv.parts; have hE := hv); have H := hid (H.out.trans (bd_ok hx)); (try simp only [szA, szS] at hzw1); have hleww1 := le1 w w1 (by omega); (try have hltww1 := lt1 w w1 (by omega)); have t1 := True.intro))))
  have HB6 : Bx 8 w.heap.size 45 w1 := Bx.call hGw1 (by omega) (by refine Bx.new _ _ _ ?_; rfl)
  have HE1 := hid hE
  have HB6 := hid HB6
  clear hX hN hA hE
  go_loopg [8] n (fun g x wr => ∃ (e : PEx) (t : PS) (cs : Array Value), Box w1.heap.size cs 45 wr ∧ RE wr (fun g => w.heap.size ≤ g ∧ g < wr.heap.size ∧ g ≠ w.heap.size ∧ g ≠ w1.heap.size) (.agg cs) e ∧ Bx 8 w.heap.size 45 wr ∧ leftward n lv part s = leftL lv part g e t ∧ Pst wr P D t ∧ w.grownBy wr (some P))
  case atStart => exact ⟨a, s1, _, Box.new w1 _ 45, HE1.out.mv ((Same.refl _ _).alloc (by rintro g ⟨q1, q2⟩; exact q2)) (by rintro g ⟨q1, q2⟩; simp only [World.size_alloc] at q1 ⊢; exact ⟨by omega, by omega, by omega, by omega⟩), HB6.out.alloc _, H.out, HP.alloc _, grown_alloc HG _⟩
  case round =>
    obtain ⟨e, t, cs, HB7, HE, HBX, ho, HP, HG⟩ := hrel
    cases gk with
    | zero => exact absurd (ho.trans rfl) HF.out
    | succ g =>
      have H := hid (show leftward n lv part s = bd (operator lv) (fun op => if op = 0 then ret e else bd part fun b => leftL lv part g (binary op e b)) t from ho)
      obtain ⟨na, nn, nc, aa, an, ac, es, hcs, _⟩ := HE.parts
      cases hcs
      have hgz := HG.size
      have hPr := HP.lt
      have hb7 := HB7.lt
      have y0 := HB7.cell (i := 0) rfl
      have y1 := HB7.cell (i := 1) rfl
      have y2 := HB7.cell (i := 2) rfl
      have y3 := HB7.cell (i := 3) rfl
      have y4 := HB7.cell (i := 4) rfl
      have y5 := HB7.cell (i := 5) rfl
      have y6 := HB7.cell (i := 6) rfl
      have y7 := HB7.cell (i := 7) rfl
      obtain ⟨⟨l6⟩, hl6, hB6⟩ := HBX
      obtain ⟨z0, z1, z2, z3, z4, z5, z6, z7, rfl⟩ := eight_of l6 hl6
      have hb6 := hB6.lt
      have x0 := hB6.cell (i := 0) rfl
      have x1 := hB6.cell (i := 1) rfl
      have x2 := hB6.cell (i := 2) rfl
      have x3 := hB6.cell (i := 3) rfl
      have x4 := hB6.cell (i := 4) rfl
      have x5 := hB6.cell (i := 5) rfl
      have x6 := hB6.cell (i := 6) rfl
      have x7 := hB6.cell (i := 7) rfl
      have xf : ∀ o, wr.frozen? ⟨w.heap.size, o, none⟩ = false := fun o => freeOf hB6 o
      have yf : ∀ o, wr.frozen? ⟨w1.heap.size, o, none⟩ = false := fun o => freeOf HB7 o
      have HE := hid HE
      have HB7 := hid HB7
      have HBX : Bx 8 w.heap.size 45 wr := ⟨_, rfl, hB6⟩
      have HBX := hid HBX
      clear ho
      go_wp2_with ((have hno := t1; (go_at_call 227; (refine (operator_any _ _ _ _ _ (by with_reducible repeat first | exact HP | apply pA | refine pS (by omega) ?_)).mono ?_; intro e w2 hrt; rcases hrt.go (W := w) (by with_reducible repeat first | exact HG | apply gA | apply gB | refine gS (by omega) ?_) with ⟨f, hx, rfl, hg⟩ | ⟨op, s2, v, hx, rfl, hv, HP, hGw2, HG, hcw2, hfw2, hzw2, hPw2⟩; exact ⟨rfl, Rt.err (H.out.trans (bd_err hx)) hg⟩; (have hv2 : v = .int .i64 op := hv; subst hv2); have H := hid (H.out.trans (bd_ok hx)); (try simp only [szA, szS] at hzw2); have hleww2 := le1 w w2 (by omega); (try have hltww2 := lt1 w w2 (by omega)); have hlew1w2 := le1 w1 w2 (by omega); (try have hltw1w2 := lt1 w1 w2 (by omega)); have hlewrw2 := le1 wr w2 (by omega); (try have hltwrw2 := lt1 wr w2 (by omega)); have t2 := True.intro; skip; by_cases hop : op = 0))))
      · have H2 : leftward n lv part s = .ok (e, s2) := by have := H.out; rw [if_pos hop] at this; exact this
        refine ret8 Tryz.results220 rfl (Bx.put8 (Bx.call hGw2 (by omega) HBX)) rfl ?_
        refine Rt.ok H2 ?_ (by with_reducible repeat first | exact HP | apply pA | refine pS (by omega) ?_) (by with_reducible repeat first | exact HG | apply gA | apply gB | refine gS (by omega) ?_)
        refine RE.mv HE.out (show Same (fun g => w.heap.size ≤ g ∧ g < wr.heap.size ∧ g ≠ w.heap.size ∧ g ≠ w1.heap.size) wr _ from ?_) ?_
        · exact (by repeat (first | (with_reducible exact Same.refl _ _) | ((with_reducible apply Same.set); rotate_left; (rintro ⟨q1, q2, q3, q4⟩; omega)) | ((with_reducible refine Same.call hGw2 ?_ ?_ ?_); rotate_left; (rintro g ⟨q1, q2, q3, q4⟩; (try simp only [szA, szS]); omega); (rintro ⟨q1, q2, q3, q4⟩; omega))))
        · rintro g ⟨q1, q2, q3, q4⟩; exact ⟨q1, by simp only [World.size_setCell]; omega⟩
      · have H2 := hid (show leftward n lv part s = bd part (fun b => leftL lv part g (binary op e b)) s2 by have := H.out; rw [if_neg hop] at this; exact this)
        have hB7 := HB7.out.call hGw2 (by omega)
        have ST : ∀ v : World, Box w1.heap.size #[.int .i64 e.kind, .int .i64 e.op, .int .i64 e.int, .string (bs e.text), .string (bs e.name), .slice na nn nc, .slice aa an ac, .int .i64 e.pos] 45 v → v.cell? ⟨w1.heap.size, 0, none⟩ = some (.int .i64 e.kind) ∧ v.cell? ⟨w1.heap.size, 1, none⟩ = some (.int .i64 e.op) ∧ v.cell? ⟨w1.heap.size, 2, none⟩ = some (.int .i64 e.int) ∧ v.cell? ⟨w1.heap.size, 3, none⟩ = some (.string (bs e.text)) ∧ v.cell? ⟨w1.heap.size, 4, none⟩ = some (.string (bs e.name)) ∧ v.cell? ⟨w1.heap.size, 5, none⟩ = some (.slice na nn nc) ∧ v.cell? ⟨w1.heap.size, 6, none⟩ = some (.slice aa an ac) ∧ v.cell? ⟨w1.heap.size, 7, none⟩ = some (.int .i64 e.pos) := fun v hv => ⟨hv.cell rfl, hv.cell rfl, hv.cell rfl, hv.cell rfl, hv.cell rfl, hv.cell rfl, hv.cell rfl, hv.cell rfl⟩
        have HB7 := hid hB7
        have HP2 := HP.drw
        have HG2 := grown_drew HG
        clear x0 x1 x2 x3 x4 x5 x6 x7 xf y0 y1 y2 y3 y4 y5 y6 y7 yf hcw2 hfw2
        refine wp_region_I 5 (fun v : World => v.cell? ⟨w1.heap.size, 0, none⟩ = some (.int .i64 e.kind) ∧ v.cell? ⟨w1.heap.size, 1, none⟩ = some (.int .i64 e.op) ∧ v.cell? ⟨w1.heap.size, 2, none⟩ = some (.int .i64 e.int) ∧ v.cell? ⟨w1.heap.size, 3, none⟩ = some (.string (bs e.text)) ∧ v.cell? ⟨w1.heap.size, 4, none⟩ = some (.string (bs e.name)) ∧ v.cell? ⟨w1.heap.size, 5, none⟩ = some (.slice na nn nc) ∧ v.cell? ⟨w1.heap.size, 6, none⟩ = some (.slice aa an ac) ∧ v.cell? ⟨w1.heap.size, 7, none⟩ = some (.int .i64 e.pos)) (by kernel_rfl) (ST _ HB7.out.drw) (fun hHeld => ?_)
        refine wpAnyI_take (i := 0) (oi := { dst := some 17, op := Go.Op.move (Go.Operand.tmp 8), type := 3, pos := "expr.go:77", after := #[], guard := none }) (v := ?_) [5] rfl (by kernel_rfl) (by kernel_rfl) (by kernel_rfl) (by kernel_rfl) (fun _ _ _ h => h) (Or.inl ⟨by rfl, ?_⟩) (by assumption) ?_
        rotate_left
        · (intro w hSw; (try dsimp only at hSw); go_simp; (try with_reducible rfl))
        (try simp only [Act.put, List.setIfInBounds_toArray, List.set_cons_zero, List.set_cons_succ])
        refine wpAnyI_take (i := 1) (oi := { dst := some 18, op := Go.Op.load 45 (Go.Operand.tmp 7), type := 45, pos := "expr.go:77", after := #[], guard := none }) (v := ?_) [5] rfl (by kernel_rfl) (by kernel_rfl) (by kernel_rfl) (by kernel_rfl) (fun _ _ _ h => h) (Or.inl ⟨by rfl, ?_⟩) (by assumption) ?_
        rotate_left
        · (intro w hSw; (try dsimp only at hSw); go_simp; (try with_reducible rfl))
        (try simp only [Act.put, List.setIfInBounds_toArray, List.set_cons_zero, List.set_cons_succ])
        refine wpAnyI_take (i := 2) (oi := { dst := some 19, op := Go.Op.move (Go.Operand.tmp 2), type := 131, pos := "expr.go:77", after := #[], guard := none }) (v := ?_) [5] rfl (by kernel_rfl) (by kernel_rfl) (by kernel_rfl) (by kernel_rfl) (fun _ _ _ h => h) (Or.inl ⟨by rfl, ?_⟩) (by assumption) ?_
        rotate_left
        · (intro w hSw; (try dsimp only at hSw); go_simp; (try with_reducible rfl))
        (try simp only [Act.put, List.setIfInBounds_toArray, List.set_cons_zero, List.set_cons_succ])
        refine wpAnyI_one (i := 3) (o := { dst := some 20, op := Go.Op.call { callee := Go.Callee.value (Go.Operand.tmp 19), args := #[], argTypes := #[] }, type := 45, pos := "expr.go:77", after := #[{ on := 2, ground := Go.Ground.data }], guard := none }) (by kernel_rfl) rfl (fun K hK => ?_)
        go_simp
        (refine (J.out _ _ HP2 HG2 (fun h => HF.out (H2.out.trans (bd_err h)))).mono ?_; intro e3 w3 hrt; rcases hrt.cases with ⟨f, hx, rfl, hg⟩ | ⟨b, s3, v, hx, rfl, hv, hs, hg⟩; (focus (exact ⟨rfl, Rt.err (H2.out.trans (bd_err hx)) (gtrans HG2 hg)⟩)); (obtain ⟨na3, nn3, nc3, aa3, an3, ac3, es3, rfl, hN3, hX3, hA3⟩ := hv.parts); have H3 := hid (H2.out.trans (bd_ok hx)); have hz3 := hg.size; have hB73 := Box.call (HB7.out.drw) hg (by omega); have HG3 := gtrans HG2 hg; have HP3 := hs; have hG3 := hg; have hv3 := hid hv; clear hg hs hN3 hX3 hA3 hv)
        try go_wp2_with fail
        refine hK.out _ _ (ST _ hB73) (fun hHeldN => ?_)
        clear hK K hHeld
        have hHeld := hHeldN
        clear hHeldN
        (try simp only [Act.put, List.setIfInBounds_toArray, List.set_cons_zero, List.set_cons_succ])
        refine wpAnyI_one (i := 4) (o := { dst := some 21, op := Go.Op.call { callee := Go.Callee.value (Go.Operand.func 228), args := #[Go.Operand.tmp 17, Go.Operand.tmp 18, Go.Operand.tmp 20], argTypes := #[3, 45, 45] }, type := 45, pos := "expr.go:77", after := #[{ on := 0, ground := Go.Ground.data }, { on := 1, ground := Go.Ground.data }, { on := 3, ground := Go.Ground.data }, { on := 3, ground := Go.Ground.chain }], guard := none }) (by kernel_rfl) rfl (fun K hK => ?_)
        go_simp
        (have hzd : w2.drew.heap.size = w2.heap.size := rfl; have hA1 := HE.out.mv (B := fun g => w.heap.size ≤ g ∧ g < w3.heap.size ∧ g ≠ w.heap.size ∧ g ≠ w1.heap.size) (w' := w3) (by repeat (first | (with_reducible exact Same.refl _ _) | ((with_reducible apply Same.set); rotate_left; (rintro ⟨q1, q2, q3, q4⟩; omega)) | ((with_reducible refine Same.call hGw2 ?_ ?_ ?_); rotate_left; (rintro g ⟨q1, q2, q3, q4⟩; (try simp only [szA, szS]); omega); (rintro ⟨q1, q2, q3, q4⟩; omega)) | (refine Same.call hG3 ?_ ?_ ?_; rotate_left; (rintro g ⟨q1, q2, q3, q4⟩; omega); (rintro ⟨q1, q2, q3, q4⟩; omega)) | (with_reducible apply Same.drw))) (by rintro g ⟨q1, q2, q3, q4⟩; exact ⟨q1, by omega, q3, q4⟩); have hA2 := hv3.out.mv (B := fun g => w.heap.size ≤ g ∧ g < w3.heap.size ∧ g ≠ w.heap.size ∧ g ≠ w1.heap.size) (Same.refl _ _) (by rintro g ⟨q1, q2⟩; exact ⟨by omega, q2, by omega, by omega⟩); refine (binary_any w3 op e b (fun g => w.heap.size ≤ g ∧ g < w3.heap.size ∧ g ≠ w.heap.size ∧ g ≠ w1.heap.size) _ _ hA1 hA2 (by rintro g ⟨q1, q2, q3, q4⟩; exact q2)).mono ?_; rintro e4 w4 ⟨v4, rfl, hv4, hb4⟩; obtain ⟨na4, nn4, nc4, aa4, an4, ac4, es4, rfl, hN4, hX4, hA4⟩ := hv4.parts; have hz4 := hb4.size; have hB74 := hB73.below hb4; have HG4 := gbelow HG3 hb4; have HP4 := HP3.below hb4; have HV4 := hid hv4; have hb4x := hid hb4; have yf : ∀ o, w4.frozen? ⟨w1.heap.size, o, none⟩ = false := (fun o => freeOf hB74 o); obtain ⟨j0, j1, j2, j3, j4, j5, j6, j7⟩ := ST _ hB74; clear hN4 hX4 hA4 hv4 hb4 hA1 hA2)
        try go_wp2_with fail
        refine hK.out _ _ (ST _ hB74) (fun hHeldN => ?_)
        clear hK K hHeld
        have hHeld := hHeldN
        clear hHeldN
        (try simp only [Act.put, List.setIfInBounds_toArray, List.set_cons_zero, List.set_cons_succ])
        refine wpAnyI_last (o := { dst := none, op := Go.Op.store 45 (Go.Operand.tmp 7) (Go.Operand.tmp 21), type := 0, pos := "expr.go:77", after := #[{ on := 4, ground := Go.Ground.data }, { on := 4, ground := Go.Ground.chain }, { on := 0, ground := Go.Ground.phase }, { on := 1, ground := Go.Ground.phase }, { on := 2, ground := Go.Ground.phase }, { on := 3, ground := Go.Ground.phase }, { on := 4, ground := Go.Ground.phase }], guard := none }) (by kernel_rfl) rfl (by kernel_rfl) (fun K hK => ?_)
        go_simp
        refine hK.out _ _ ?_
        clear hK K hHeld
        (try simp only [Act.put, List.setIfInBounds_toArray, List.set_cons_zero, List.set_cons_succ])
        go_wp2
        go_roundg g
        case measure => omega
        have HP := HP4
        have HG := HG4
        have hnA : ¬ (fun g => ((fun g => w.heap.size ≤ g ∧ g < w3.heap.size ∧ g ≠ w.heap.size ∧ g ≠ w1.heap.size) g) ∨ (w3.heap.size ≤ g ∧ g < w4.heap.size)) w1.heap.size := fun h => h.elim (fun q => q.2.2.2 rfl) (fun q => by omega)
        refine ⟨binary op e b, s3, _, Bx.put8 ⟨_, rfl, hB74⟩, ?_, ?_, H3.out, ?_, ?_⟩
        · refine HV4.out.mv ?_ ?_
          · repeat (first | (with_reducible exact Same.refl _ _) | ((with_reducible apply Same.set); rotate_left; exact hnA))
          · rintro g (⟨q1, q2, q3, q4⟩ | ⟨q1, q2⟩) <;> exact ⟨by omega, by simp only [World.size_setCell]; omega, by omega, by omega⟩
        · have q := ((HBX.call' hGw2 (by omega)).drw.call' hG3 (by omega)).below hb4x.out
          repeat (first | (with_reducible exact q) | (with_reducible apply Bx.set))
        · exact (by with_reducible repeat first | exact HP | apply pA | refine pS (by omega) ?_)
        · exact (by with_reducible repeat first | exact HG | apply gA | apply gB | refine gS (by omega) ?_)
set_option maxHeartbeats 4000000 in
theorem left_fac (w : World) (P D n : Nat) (s : PS) (lv : Int) (part : Pr PEx) (HP : Pst w P D s) (J : ∀ (V : World) (t : PS), Pst V P D t → w.grownBy V (some P) → Fed (part t) → Calls Tryz.prog 243 #[.pointer (some ⟨P, 0, none⟩)] V (Rt RE P D V (part t))) (HF : Fed (leftward n lv part s)) : Calls Tryz.prog 220 #[.pointer (some ⟨P, 0, none⟩), .int .i64 lv, .func (.func 243) #[.pointer (some ⟨P, 0, none⟩)] #[]] w (Rt RE P D w (leftward n lv part s)) := by
  have H := hid (show leftward n lv part s = bd part (fun e => leftL lv part n e) s from rfl)
  have HG := World.grownBy.refl w (some P)
  have hPw := HP.lt
  have hD := HP.dw
  have hPD := HP.pd
  have t0 := True.intro
  have J := hid J
  have HF := hid HF
  go_enter Tryz.func220, Tryz.ntmps220
  go_wp2_with ((have hno := t0; (go_at_call 243; (refine (J.out _ _ (by with_reducible repeat first | exact HP | apply pA | refine pS (by omega) ?_) (by with_reducible repeat first | exact HG | apply gA | apply gB | refine gS (by omega) ?_) (fun h => HF.out (H.out.trans (bd_err h)))).mono ?_; intro e w1 hrt; rcases hrt.go (W := w) (by with_reducible repeat first | exact HG | apply gA | apply gB | refine gS (by omega) ?_) with ⟨f, hx, rfl, hg⟩ | ⟨a, s1, v, hx, rfl, hv, HP, hGw1, HG, hcw1, hfw1, hzw1, hPw1⟩; exact ⟨rfl, Rt.err (H.out.trans (bd_err hx)) hg⟩; (obtain ⟨na, nn, nc, aa, an, ac, es, rfl, hN, hX, hA⟩ := hv.parts; have hE := hv); have H := hid (H.out.trans (bd_ok hx)); (try simp only [szA, szS] at hzw1); have hleww1 := le1 w w1 (by omega); (try have hltww1 := lt1 w w1 (by omega)); have t1 := True.intro))))
  have HB6 : Bx 8 w.heap.size 45 w1 := Bx.call hGw1 (by omega) (by refine Bx.new _ _ _ ?_; rfl)
  have HE1 := hid hE
  have HB6 := hid HB6
  clear hX hN hA hE
  go_loopg [8] n (fun g x wr => ∃ (e : PEx) (t : PS) (cs : Array Value), Box w1.heap.size cs 45 wr ∧ RE wr (fun g => w.heap.size ≤ g ∧ g < wr.heap.size ∧ g ≠ w.heap.size ∧ g ≠ w1.heap.size) (.agg cs) e ∧ Bx 8 w.heap.size 45 wr ∧ leftward n lv part s = leftL lv part g e t ∧ Pst wr P D t ∧ w.grownBy wr (some P))
  case atStart => exact ⟨a, s1, _, Box.new w1 _ 45, HE1.out.mv ((Same.refl _ _).alloc (by rintro g ⟨q1, q2⟩; exact q2)) (by rintro g ⟨q1, q2⟩; simp only [World.size_alloc] at q1 ⊢; exact ⟨by omega, by omega, by omega, by omega⟩), HB6.out.alloc _, H.out, HP.alloc _, grown_alloc HG _⟩
  case round =>
    obtain ⟨e, t, cs, HB7, HE, HBX, ho, HP, HG⟩ := hrel
    cases gk with
    | zero => exact absurd (ho.trans rfl) HF.out
    | succ g =>
      have H := hid (show leftward n lv part s = bd (operator lv) (fun op => if op = 0 then ret e else bd part fun b => leftL lv part g (binary op e b)) t from ho)
      obtain ⟨na, nn, nc, aa, an, ac, es, hcs, _⟩ := HE.parts
      cases hcs
      have hgz := HG.size
      have hPr := HP.lt
      have hb7 := HB7.lt
      have y0 := HB7.cell (i := 0) rfl
      have y1 := HB7.cell (i := 1) rfl
      have y2 := HB7.cell (i := 2) rfl
      have y3 := HB7.cell (i := 3) rfl
      have y4 := HB7.cell (i := 4) rfl
      have y5 := HB7.cell (i := 5) rfl
      have y6 := HB7.cell (i := 6) rfl
      have y7 := HB7.cell (i := 7) rfl
      obtain ⟨⟨l6⟩, hl6, hB6⟩ := HBX
      obtain ⟨z0, z1, z2, z3, z4, z5, z6, z7, rfl⟩ := eight_of l6 hl6
      have hb6 := hB6.lt
      have x0 := hB6.cell (i := 0) rfl
      have x1 := hB6.cell (i := 1) rfl
      have x2 := hB6.cell (i := 2) rfl
      have x3 := hB6.cell (i := 3) rfl
      have x4 := hB6.cell (i := 4) rfl
      have x5 := hB6.cell (i := 5) rfl
      have x6 := hB6.cell (i := 6) rfl
      have x7 := hB6.cell (i := 7) rfl
      have xf : ∀ o, wr.frozen? ⟨w.heap.size, o, none⟩ = false := fun o => freeOf hB6 o
      have yf : ∀ o, wr.frozen? ⟨w1.heap.size, o, none⟩ = false := fun o => freeOf HB7 o
      have HE := hid HE
      have HB7 := hid HB7
      have HBX : Bx 8 w.heap.size 45 wr := ⟨_, rfl, hB6⟩
      have HBX := hid HBX
      clear ho
      go_wp2_with ((have hno := t1; (go_at_call 227; (refine (operator_any _ _ _ _ _ (by with_reducible repeat first | exact HP | apply pA | refine pS (by omega) ?_)).mono ?_; intro e w2 hrt; rcases hrt.go (W := w) (by with_reducible repeat first | exact HG | apply gA | apply gB | refine gS (by omega) ?_) with ⟨f, hx, rfl, hg⟩ | ⟨op, s2, v, hx, rfl, hv, HP, hGw2, HG, hcw2, hfw2, hzw2, hPw2⟩; exact ⟨rfl, Rt.err (H.out.trans (bd_err hx)) hg⟩; (have hv2 : v = .int .i64 op := hv; subst hv2); have H := hid (H.out.trans (bd_ok hx)); (try simp only [szA, szS] at hzw2); have hleww2 := le1 w w2 (by omega); (try have hltww2 := lt1 w w2 (by omega)); have hlew1w2 := le1 w1 w2 (by omega); (try have hltw1w2 := lt1 w1 w2 (by omega)); have hlewrw2 := le1 wr w2 (by omega); (try have hltwrw2 := lt1 wr w2 (by omega)); have t2 := True.intro; skip; by_cases hop : op = 0))))
      · have H2 : leftward n lv part s = .ok (e, s2) := by have := H.out; rw [if_pos hop] at this; exact this
        refine ret8 Tryz.results220 rfl (Bx.put8 (Bx.call hGw2 (by omega) HBX)) rfl ?_
        refine Rt.ok H2 ?_ (by with_reducible repeat first | exact HP | apply pA | refine pS (by omega) ?_) (by with_reducible repeat first | exact HG | apply gA | apply gB | refine gS (by omega) ?_)
        refine RE.mv HE.out (show Same (fun g => w.heap.size ≤ g ∧ g < wr.heap.size ∧ g ≠ w.heap.size ∧ g ≠ w1.heap.size) wr _ from ?_) ?_
        · exact (by repeat (first | (with_reducible exact Same.refl _ _) | ((with_reducible apply Same.set); rotate_left; (rintro ⟨q1, q2, q3, q4⟩; omega)) | ((with_reducible refine Same.call hGw2 ?_ ?_ ?_); rotate_left; (rintro g ⟨q1, q2, q3, q4⟩; (try simp only [szA, szS]); omega); (rintro ⟨q1, q2, q3, q4⟩; omega))))
        · rintro g ⟨q1, q2, q3, q4⟩; exact ⟨q1, by simp only [World.size_setCell]; omega⟩
      · have H2 := hid (show leftward n lv part s = bd part (fun b => leftL lv part g (binary op e b)) s2 by have := H.out; rw [if_neg hop] at this; exact this)
        have hB7 := HB7.out.call hGw2 (by omega)
        have ST : ∀ v : World, Box w1.heap.size #[.int .i64 e.kind, .int .i64 e.op, .int .i64 e.int, .string (bs e.text), .string (bs e.name), .slice na nn nc, .slice aa an ac, .int .i64 e.pos] 45 v → v.cell? ⟨w1.heap.size, 0, none⟩ = some (.int .i64 e.kind) ∧ v.cell? ⟨w1.heap.size, 1, none⟩ = some (.int .i64 e.op) ∧ v.cell? ⟨w1.heap.size, 2, none⟩ = some (.int .i64 e.int) ∧ v.cell? ⟨w1.heap.size, 3, none⟩ = some (.string (bs e.text)) ∧ v.cell? ⟨w1.heap.size, 4, none⟩ = some (.string (bs e.name)) ∧ v.cell? ⟨w1.heap.size, 5, none⟩ = some (.slice na nn nc) ∧ v.cell? ⟨w1.heap.size, 6, none⟩ = some (.slice aa an ac) ∧ v.cell? ⟨w1.heap.size, 7, none⟩ = some (.int .i64 e.pos) := fun v hv => ⟨hv.cell rfl, hv.cell rfl, hv.cell rfl, hv.cell rfl, hv.cell rfl, hv.cell rfl, hv.cell rfl, hv.cell rfl⟩
        have HB7 := hid hB7
        have HP2 := HP.drw
        have HG2 := grown_drew HG
        clear x0 x1 x2 x3 x4 x5 x6 x7 xf y0 y1 y2 y3 y4 y5 y6 y7 yf hcw2 hfw2
        refine wp_region_I 5 (fun v : World => v.cell? ⟨w1.heap.size, 0, none⟩ = some (.int .i64 e.kind) ∧ v.cell? ⟨w1.heap.size, 1, none⟩ = some (.int .i64 e.op) ∧ v.cell? ⟨w1.heap.size, 2, none⟩ = some (.int .i64 e.int) ∧ v.cell? ⟨w1.heap.size, 3, none⟩ = some (.string (bs e.text)) ∧ v.cell? ⟨w1.heap.size, 4, none⟩ = some (.string (bs e.name)) ∧ v.cell? ⟨w1.heap.size, 5, none⟩ = some (.slice na nn nc) ∧ v.cell? ⟨w1.heap.size, 6, none⟩ = some (.slice aa an ac) ∧ v.cell? ⟨w1.heap.size, 7, none⟩ = some (.int .i64 e.pos)) (by kernel_rfl) (ST _ HB7.out.drw) (fun hHeld => ?_)
        refine wpAnyI_take (i := 0) (oi := { dst := some 17, op := Go.Op.move (Go.Operand.tmp 8), type := 3, pos := "expr.go:77", after := #[], guard := none }) (v := ?_) [5] rfl (by kernel_rfl) (by kernel_rfl) (by kernel_rfl) (by kernel_rfl) (fun _ _ _ h => h) (Or.inl ⟨by rfl, ?_⟩) (by assumption) ?_
        rotate_left
        · (intro w hSw; (try dsimp only at hSw); go_simp; (try with_reducible rfl))
        (try simp only [Act.put, List.setIfInBounds_toArray, List.set_cons_zero, List.set_cons_succ])
        refine wpAnyI_take (i := 1) (oi := { dst := some 18, op := Go.Op.load 45 (Go.Operand.tmp 7), type := 45, pos := "expr.go:77", after := #[], guard := none }) (v := ?_) [5] rfl (by kernel_rfl) (by kernel_rfl) (by kernel_rfl) (by kernel_rfl) (fun _ _ _ h => h) (Or.inl ⟨by rfl, ?_⟩) (by assumption) ?_
        rotate_left
        · (intro w hSw; (try dsimp only at hSw); go_simp; (try with_reducible rfl))
        (try simp only [Act.put, List.setIfInBounds_toArray, List.set_cons_zero, List.set_cons_succ])
        refine wpAnyI_take (i := 2) (oi := { dst := some 19, op := Go.Op.move (Go.Operand.tmp 2), type := 131, pos := "expr.go:77", after := #[], guard := none }) (v := ?_) [5] rfl (by kernel_rfl) (by kernel_rfl) (by kernel_rfl) (by kernel_rfl) (fun _ _ _ h => h) (Or.inl ⟨by rfl, ?_⟩) (by assumption) ?_
        rotate_left
        · (intro w hSw; (try dsimp only at hSw); go_simp; (try with_reducible rfl))
        (try simp only [Act.put, List.setIfInBounds_toArray, List.set_cons_zero, List.set_cons_succ])
        refine wpAnyI_one (i := 3) (o := { dst := some 20, op := Go.Op.call { callee := Go.Callee.value (Go.Operand.tmp 19), args := #[], argTypes := #[] }, type := 45, pos := "expr.go:77", after := #[{ on := 2, ground := Go.Ground.data }], guard := none }) (by kernel_rfl) rfl (fun K hK => ?_)
        go_simp
        (refine (J.out _ _ HP2 HG2 (fun h => HF.out (H2.out.trans (bd_err h)))).mono ?_; intro e3 w3 hrt; rcases hrt.cases with ⟨f, hx, rfl, hg⟩ | ⟨b, s3, v, hx, rfl, hv, hs, hg⟩; (focus (exact ⟨rfl, Rt.err (H2.out.trans (bd_err hx)) (gtrans HG2 hg)⟩)); (obtain ⟨na3, nn3, nc3, aa3, an3, ac3, es3, rfl, hN3, hX3, hA3⟩ := hv.parts); have H3 := hid (H2.out.trans (bd_ok hx)); have hz3 := hg.size; have hB73 := Box.call (HB7.out.drw) hg (by omega); have HG3 := gtrans HG2 hg; have HP3 := hs; have hG3 := hg; have hv3 := hid hv; clear hg hs hN3 hX3 hA3 hv)
        try go_wp2_with fail
        refine hK.out _ _ (ST _ hB73) (fun hHeldN => ?_)
        clear hK K hHeld
        have hHeld := hHeldN
        clear hHeldN
        (try simp only [Act.put, List.setIfInBounds_toArray, List.set_cons_zero, List.set_cons_succ])
        refine wpAnyI_one (i := 4) (o := { dst := some 21, op := Go.Op.call { callee := Go.Callee.value (Go.Operand.func 228), args := #[Go.Operand.tmp 17, Go.Operand.tmp 18, Go.Operand.tmp 20], argTypes := #[3, 45, 45] }, type := 45, pos := "expr.go:77", after := #[{ on := 0, ground := Go.Ground.data }, { on := 1, ground := Go.Ground.data }, { on := 3, ground := Go.Ground.data }, { on := 3, ground := Go.Ground.chain }], guard := none }) (by kernel_rfl) rfl (fun K hK => ?_)
        go_simp
        (have hzd : w2.drew.heap.size = w2.heap.size := rfl; have hA1 := HE.out.mv (B := fun g => w.heap.size ≤ g ∧ g < w3.heap.size ∧ g ≠ w.heap.size ∧ g ≠ w1.heap.size) (w' := w3) (by repeat (first | (with_reducible exact Same.refl _ _) | ((with_reducible apply Same.set); rotate_left; (rintro ⟨q1, q2, q3, q4⟩; omega)) | ((with_reducible refine Same.call hGw2 ?_ ?_ ?_); rotate_left; (rintro g ⟨q1, q2, q3, q4⟩; (try simp only [szA, szS]); omega); (rintro ⟨q1, q2, q3, q4⟩; omega)) | (refine Same.call hG3 ?_ ?_ ?_; rotate_left; (rintro g ⟨q1, q2, q3, q4⟩; omega); (rintro ⟨q1, q2, q3, q4⟩; omega)) | (with_reducible apply Same.drw))) (by rintro g ⟨q1, q2, q3, q4⟩; exact ⟨q1, by omega, q3, q4⟩); have hA2 := hv3.out.mv (B := fun g => w.heap.size ≤ g ∧ g < w3.heap.size ∧ g ≠ w.heap.size ∧ g ≠ w1.heap.size) (Same.refl _ _) (by rintro g ⟨q1, q2⟩; exact ⟨by omega, q2, by omega, by omega⟩); refine (binary_any w3 op e b (fun g => w.heap.size ≤ g ∧ g < w3.heap.size ∧ g ≠ w.heap.size ∧ g ≠ w1.heap.size) _ _ hA1 hA2 (by rintro g ⟨q1, q2, q3, q4⟩; exact q2)).mono ?_; rintro e4 w4 ⟨v4, rfl, hv4, hb4⟩; obtain ⟨na4, nn4, nc4, aa4, an4, ac4, es4, rfl, hN4, hX4, hA4⟩ := hv4.parts; have hz4 := hb4.size; have hB74 := hB73.below hb4; have HG4 := gbelow HG3 hb4; have HP4 := HP3.below hb4; have HV4 := hid hv4; have hb4x := hid hb4; have yf : ∀ o, w4.frozen? ⟨w1.heap.size, o, none⟩ = false := (fun o => freeOf hB74 o); obtain ⟨j0, j1, j2, j3, j4, j5, j6, j7⟩ := ST _ hB74; clear hN4 hX4 hA4 hv4 hb4 hA1 hA2)
        try go_wp2_with fail
        refine hK.out _ _ (ST _ hB74) (fun hHeldN => ?_)
        clear hK K hHeld
        have hHeld := hHeldN
        clear hHeldN
        (try simp only [Act.put, List.setIfInBounds_toArray, List.set_cons_zero, List.set_cons_succ])
        refine wpAnyI_last (o := { dst := none, op := Go.Op.store 45 (Go.Operand.tmp 7) (Go.Operand.tmp 21), type := 0, pos := "expr.go:77", after := #[{ on := 4, ground := Go.Ground.data }, { on := 4, ground := Go.Ground.chain }, { on := 0, ground := Go.Ground.phase }, { on := 1, ground := Go.Ground.phase }, { on := 2, ground := Go.Ground.phase }, { on := 3, ground := Go.Ground.phase }, { on := 4, ground := Go.Ground.phase }], guard := none }) (by kernel_rfl) rfl (by kernel_rfl) (fun K hK => ?_)
        go_simp
        refine hK.out _ _ ?_
        clear hK K hHeld
        (try simp only [Act.put, List.setIfInBounds_toArray, List.set_cons_zero, List.set_cons_succ])
        go_wp2
        go_roundg g
        case measure => omega
        have HP := HP4
        have HG := HG4
        have hnA : ¬ (fun g => ((fun g => w.heap.size ≤ g ∧ g < w3.heap.size ∧ g ≠ w.heap.size ∧ g ≠ w1.heap.size) g) ∨ (w3.heap.size ≤ g ∧ g < w4.heap.size)) w1.heap.size := fun h => h.elim (fun q => q.2.2.2 rfl) (fun q => by omega)
        refine ⟨binary op e b, s3, _, Bx.put8 ⟨_, rfl, hB74⟩, ?_, ?_, H3.out, ?_, ?_⟩
        · refine HV4.out.mv ?_ ?_
          · repeat (first | (with_reducible exact Same.refl _ _) | ((with_reducible apply Same.set); rotate_left; exact hnA))
          · rintro g (⟨q1, q2, q3, q4⟩ | ⟨q1, q2⟩) <;> exact ⟨by omega, by simp only [World.size_setCell]; omega, by omega, by omega⟩
        · have q := ((HBX.call' hGw2 (by omega)).drw.call' hG3 (by omega)).below hb4x.out
          repeat (first | (with_reducible exact q) | (with_reducible apply Bx.set))
        · exact (by with_reducible repeat first | exact HP | apply pA | refine pS (by omega) ?_)
        · exact (by with_reducible repeat first | exact HG | apply gA | apply gB | refine gS (by omega) ?_)
end Go.Proofs.YtcnohgifihbkdaaGreatDoor

