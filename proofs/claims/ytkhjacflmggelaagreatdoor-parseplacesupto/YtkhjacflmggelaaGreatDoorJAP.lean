/- The parser: after. -/
import Derived.Test.YtkhjacflmggelaaGreatDoorJAO
namespace Go.Proofs.YtkhjacflmggelaaGreatDoor
open Go Go.RowKit Go.Deep Go.Shelf
set_option linter.unusedVariables false
set_option linter.unusedSimpArgs false
set_option maxRecDepth 100000
theorem app_step {o : Oper} {y : Nat → Option Bool} {act : Act} {X w' : World} {v u v' : Value} {T : TypeId} {s x : Operand} {K Q'} {Q : Prop} (hw : Region.wanted o y = true) (ho : o.op = .call { callee := .builtin .append, args := #[s, x], argTypes := #[T, T] }) (hs : act.eval s = v) (hx : act.eval x = u) (hty : o.type = T) (hrun : (Builtin.append_ #[T, T] T #[v, u]).run Tryz.prog X = .ok v' w') (k : K (act.put o.dst v') w') : if Region.wanted o y = true then Oper.wp Tryz.prog o act X K Q' else Q := by
  rw [if_pos hw]
  subst hty
  unfold Oper.wp execOp
  simp only [ho, resolve, invoke, builtin, Sem.run_bind, Sem.run_pure, Result.andThen_ok, List.map_toArray, List.map_cons, List.map_nil, hs, hx, hrun]
  exact k
set_option maxHeartbeats 4000000 in
theorem after_any (w : World) (P D n : Nat) (s : PS) (e : Pr PEx) (HP : Pst w P D s) (hn : n ≤ 10000) (J : ∀ (V : World) (t : PS), Pst V P D t → w.grownBy V (some P) → Fed (e t) → Calls Tryz.prog 207 #[.pointer (some ⟨P, 0, none⟩)] V (Rt RE P D V (e t))) (HF : Fed (afterP n e s)) : Calls Tryz.prog 210 #[.pointer (some ⟨P, 0, none⟩)] w (Rt RSt P D w (afterP n e s)) := by
  have HG := World.grownBy.refl w (some P)
  have hPw := HP.lt
  have hD := HP.dw
  have hPD := HP.pd
  have t0 := True.intro
  have hmf : ∀ (fn : Fn) (first cap : Array Value) (w : World), (Instr.makeFunc fn first cap).run Tryz.prog w = .ok (.func fn first cap) w := fun _ _ _ _ => rfl
  have hl1 : ∀ {xs : List PEx} {t : PS}, one e s = .ok (xs, t) → xs.length ≤ 1000000 := by
    intro xs t h
    obtain ⟨x, t', _, h2⟩ := bd_inv (show bd e (fun x => ret [x]) s = .ok (xs, t) from h)
    cases h2
    simp
  have H := hid (show afterP n e s = bd (one e) (fun xs => bd small fun nm => bd (argsP n e) fun cs => ret ⟨12, nm, [], [], (xs ++ cs).map pkE, [], [], 0⟩) s from rfl)
  have J := hid J
  have HF := hid HF
  go_enter Tryz.func210, Tryz.ntmps210
  go_wp2_with (first
    | (have hno := t1; (go_at_call 81; (refine (small_any _ _ D _ (Pst.to HP (by intro HP; repeat (first | (with_reducible exact HP) | (with_reducible apply Pst.alloc) | ((with_reducible refine Pst.set ?_ ?_); rotate_left; omega))))).mono ?_; intro e w2 hrt; rcases hrt.cases with ⟨f, hx, rfl, hg⟩ | ⟨nm, s2, v, hx, rfl, hv, hs, hg⟩; (focus (exact ⟨rfl, Rt.err (H.out.trans (bd_err hx)) (gtrans (Gw.to HG (by intro HG; repeat (first | (with_reducible exact HG) | (with_reducible apply grown_alloc) | (with_reducible apply grown_box) | ((with_reducible refine grown_set' ?_ ?_); rotate_left; omega)))) hg)⟩)); (have hv2 : v = .string (bs nm) := hv; subst hv2); have H := hid (H.out.trans (bd_ok hx)); obtain ⟨hcw2, hfw2⟩ := gcell hg; have hzw2 := hg.size; (try simp only [World.size_alloc, World.size_setCell] at hzw2); have hPw2 := hs.lt; have hleww2 : w.heap.size ≤ w2.heap.size := (by omega); (try (have hltww2 : w.heap.size < w2.heap.size := (by omega))); have hlew1w2 : w1.heap.size ≤ w2.heap.size := (by omega); (try (have hltw1w2 : w1.heap.size < w2.heap.size := (by omega))); have HG := gtrans (Gw.to HG (by intro HG; repeat (first | (with_reducible exact HG) | (with_reducible apply grown_alloc) | (with_reducible apply grown_box) | ((with_reducible refine grown_set' ?_ ?_); rotate_left; omega)))) hg; have HP := hs; have hGw2 := hg; have t2 := True.intro; (try clear hg hs))))
    | (have hno := t0; (go_at_call 204; (refine (one_anyL _ _ D _ _ (Pst.to HP (by intro HP; repeat (first | (with_reducible exact HP) | (with_reducible apply Pst.alloc) | ((with_reducible refine Pst.set ?_ ?_); rotate_left; omega)))) (fun X u hX hVX => J.out X u hX (gtrans (Gw.to HG (by intro HG; repeat (first | (with_reducible exact HG) | (with_reducible apply grown_alloc) | (with_reducible apply grown_box) | ((with_reducible refine grown_set' ?_ ?_); rotate_left; omega)))) hVX)) (fun h => HF.out (H.out.trans (bd_err h)))).mono ?_; intro e w1 hrt; rcases hrt.cases with ⟨f, hx, rfl, hg⟩ | ⟨xs, s1, v, hx, rfl, hv, hs, hg⟩; (focus (exact ⟨rfl, Rt.err (H.out.trans (bd_err hx)) (gtrans (Gw.to HG (by intro HG; repeat (first | (with_reducible exact HG) | (with_reducible apply grown_alloc) | (with_reducible apply grown_box) | ((with_reducible refine grown_set' ?_ ?_); rotate_left; omega)))) hg)⟩)); (obtain ⟨ax, mx, cx, rfl⟩ := hv.form; have hE := hv); have hl1 := hl1 hx; have H := hid (H.out.trans (bd_ok hx)); obtain ⟨hcw1, hfw1⟩ := gcell hg; have hzw1 := hg.size; (try simp only [World.size_alloc, World.size_setCell] at hzw1); have hPw1 := hs.lt; have hleww1 : w.heap.size ≤ w1.heap.size := (by omega); (try (have hltww1 : w.heap.size < w1.heap.size := (by omega))); have HG := gtrans (Gw.to HG (by intro HG; repeat (first | (with_reducible exact HG) | (with_reducible apply grown_alloc) | (with_reducible apply grown_box) | ((with_reducible refine grown_set' ?_ ?_); rotate_left; omega)))) hg; have HP := hs; have hGw1 := hg; have t1 := True.intro; (try clear hg hs))))
    )
  have HX1 : Bx 8 w.heap.size 50 w1 := Bx.call hGw1 (by omega) (by refine Bx.new _ _ _ ?_; rfl)
  have HB2 := Box.call (Box.new w1 #[.int .i64 12, .string ⟨#[]⟩, .string ⟨#[]⟩, .string ⟨#[]⟩, .slice ax mx cx, .slice none 0 0, .slice none 0 0, .int .i64 0] 50) hGw2 (by omega)
  have HB3 := HB2.put (v := .string (bs nm)) 1
  simp only [List.setIfInBounds_toArray, List.set_cons_zero, List.set_cons_succ] at HB3
  have HX3 := ((HX1.alloc (.cells #[.int .i64 12, .string ⟨#[]⟩, .string ⟨#[]⟩, .string ⟨#[]⟩, .slice ax mx cx, .slice none 0 0, .slice none 0 0, .int .i64 0] 50)).call' hGw2 (by omega)).set (b' := w1.heap.size) (i := 1) (v := .string (bs nm))
  have HE0 := XlR.mv hE (Same.refl _ _) (B := fun g => w.heap.size + 1 ≤ g ∧ g < w1.heap.size) (by rintro g ⟨q1, q2⟩; simp only [World.size_alloc] at q1; exact ⟨q1, q2⟩)
  have HE3 := XlR.mv HE0 (w' := w2.setCell ⟨w1.heap.size, 1, none⟩ (.string (bs nm))) (B := fun g => w.heap.size + 1 ≤ g ∧ g < w1.heap.size) (show Same (fun g => w.heap.size + 1 ≤ g ∧ g < w1.heap.size) w1 _ from (by repeat (first | (with_reducible exact Same.refl _ _) | ((with_reducible apply Same.alloc); rotate_left; (rintro g ⟨q1, q2⟩; (try simp only [World.size_alloc, World.size_setCell]); omega)) | ((with_reducible apply Same.set); rotate_left; (rintro ⟨q1, q2⟩; omega)) | ((with_reducible refine Same.call hGw2 ?_ ?_ ?_); rotate_left; (rintro g ⟨q1, q2⟩; (try simp only [World.size_alloc, World.size_setCell]); omega); (rintro ⟨q1, q2⟩; omega))))) (fun g h => h)
  have HP3 : Pst (w2.setCell ⟨w1.heap.size, 1, none⟩ (.string (bs nm))) P D s2 := (Pst.to HP (by intro HP; repeat (first | (with_reducible exact HP) | (with_reducible apply Pst.alloc) | ((with_reducible refine Pst.set ?_ ?_); rotate_left; omega))))
  have HG3 : w.grownBy (w2.setCell ⟨w1.heap.size, 1, none⟩ (.string (bs nm))) (some P) := (Gw.to HG (by intro HG; repeat (first | (with_reducible exact HG) | (with_reducible apply grown_alloc) | (with_reducible apply grown_box) | ((with_reducible refine grown_set' ?_ ?_); rotate_left; omega))))
  have hz3 : (w2.setCell ⟨w1.heap.size, 1, none⟩ (.string (bs nm))).heap.size = w2.heap.size := by simp only [World.size_setCell]
  generalize (w2.setCell ⟨w1.heap.size, 1, none⟩ (.string (bs nm))) = w3 at HB3 HX3 HE3 HP3 HG3 hz3 ⊢
  have HE3 := hid HE3
  have ST : ∀ v : World, Box w1.heap.size #[.int .i64 12, .string (bs nm), .string ⟨#[]⟩, .string ⟨#[]⟩, .slice ax mx cx, .slice none 0 0, .slice none 0 0, .int .i64 0] 50 v → v.cell? ⟨w1.heap.size, 4, none⟩ = some (.slice ax mx cx) := fun v hv => hv.cell rfl
  have hzd : w3.drew.heap.size = w3.heap.size := rfl
  clear hE HB2 HX1 hcw1 hcw2 hfw1 hfw2 HP HG
  have HP := HP3
  have HG := HG3
  refine wp_region_I 6 (fun v : World => v.cell? ⟨w1.heap.size, 4, none⟩ = some (.slice ax mx cx)) (by kernel_rfl) (ST _ HB3.drw) (fun hHeld => ?_)
  refine wpAnyI_take (i := 0) (oi := { dst := some 10, op := Go.Op.fieldAddr 50 (Go.Operand.tmp 3) 4, type := 0, pos := "stmt.go:133", after := #[], guard := none }) (v := ?_) [6] rfl (by kernel_rfl) (by kernel_rfl) (by kernel_rfl) (by kernel_rfl) (fun _ _ _ h => h) (Or.inl ⟨by rfl, ?_⟩) (by assumption) ?_
  rotate_left
  · (intro w hSw; (try dsimp only at hSw); go_simp; (try with_reducible rfl))
  (try simp only [Act.put, List.setIfInBounds_toArray, List.set_cons_zero, List.set_cons_succ])
  refine wpAnyI_take (i := 1) (oi := { dst := some 11, op := Go.Op.load 45 (Go.Operand.tmp 10), type := 45, pos := "stmt.go:133", after := #[{ on := 0, ground := Go.Ground.data }], guard := none }) (v := ?_) [6] rfl (by kernel_rfl) (by kernel_rfl) (by kernel_rfl) (by kernel_rfl) (fun _ _ _ h => h) (Or.inl ⟨by rfl, ?_⟩) (by assumption) ?_
  rotate_left
  · (intro w hSw; (try dsimp only at hSw); go_simp; (try with_reducible rfl))
  (try simp only [Act.put, List.setIfInBounds_toArray, List.set_cons_zero, List.set_cons_succ])
  refine wpAnyI_take (i := 2) (oi := { dst := some 12, op := Go.Op.move (Go.Operand.tmp 0), type := 102, pos := "stmt.go:133", after := #[], guard := none }) (v := ?_) [6] rfl (by kernel_rfl) (by kernel_rfl) (by kernel_rfl) (by kernel_rfl) (fun _ _ _ h => h) (Or.inl ⟨by rfl, ?_⟩) (by assumption) ?_
  rotate_left
  · (intro w hSw; (try dsimp only at hSw); go_simp; (try with_reducible rfl))
  (try simp only [Act.put, List.setIfInBounds_toArray, List.set_cons_zero, List.set_cons_succ])
  refine wpAnyI_one (i := 3) (o := { dst := some 13, op := Go.Op.call { callee := Go.Callee.value (Go.Operand.func 224), args := #[Go.Operand.tmp 12], argTypes := #[102] }, type := 45, pos := "stmt.go:133", after := #[{ on := 2, ground := Go.Ground.data }], guard := none }) (by kernel_rfl) rfl (fun K hK => ?_)
  go_simp
  (refine (args_any w3.drew P D n s2 e HP3.drw hn (fun X u hX hVX => J.out X u hX (gtrans (grown_drew HG3) hVX)) (fun h => HF.out (H.out.trans (bd_err h)))).mono ?_; intro e4 w4 hrt; rcases hrt.cases with ⟨f, hx, rfl, hg⟩ | ⟨cs, s3, v, hx, rfl, hv, hs, hg⟩; (focus (exact ⟨rfl, Rt.err (H.out.trans (bd_err hx)) (gtrans (grown_drew HG3) hg)⟩)); (obtain ⟨ay, my, cy, rfl⟩ := hv.form); have hl2 := args_len hx; have H := hid (H.out.trans (bd_ok hx)); have hz4 := hg.size; have HB4 := HB3.drw.call hg (by omega); have HX4 := HX3.drw.call' hg (by omega); have HE4 := XlR.mv HE3.out (w' := w4) (B := fun g => w.heap.size + 1 ≤ g ∧ g < w1.heap.size) (Same.call hg (Same.refl _ _) (by rintro g ⟨q1, q2⟩; omega) (by rintro ⟨q1, q2⟩; omega)) (fun g h => h); have HV4 := XsR.mv hv (Same.refl _ _) (B := fun g => w3.heap.size ≤ g ∧ g < w4.heap.size) (by rintro g ⟨q1, q2⟩; exact ⟨q1, q2⟩); have HG4 := gtrans (grown_drew HG3) hg; have HP4 := hs; clear hg hs hv)
  obtain ⟨v5, w5, HRUN, HV5, HR5⟩ := run_appX2 w4 45 (fun g => w.heap.size + 1 ≤ g ∧ g < w1.heap.size) (fun g => w3.heap.size ≤ g ∧ g < w4.heap.size) (fun g => w.heap.size + 1 ≤ g ∧ g < w4.heap.size ∧ g ≠ w1.heap.size) _ _ _ _ HE4 HV4 (by rintro g ⟨q1, q2⟩; omega) (by rintro g ⟨q1, q2⟩; omega) (by rintro g ⟨q1, q2⟩ ⟨q3, q4⟩; omega) (by rintro g ⟨q1, q2⟩; exact ⟨q1, by omega, by omega⟩) (by rintro g ⟨q1, q2⟩; exact ⟨by omega, by omega, by omega⟩) (by exact hl1) (by omega)
  have HO := HE4.own
  obtain ⟨a5, m5, c5, rfl⟩ := HV5.form
  have hz5 := HR5.size
  have hHV5 := hid HV5
  clear HV5
  try go_wp2_with fail
  refine hK.out _ _ (ST _ HB4) (fun hHeldN => ?_)
  clear hK K hHeld; have hHeld := hHeldN; clear hHeldN; (try simp only [Act.put, List.setIfInBounds_toArray, List.set_cons_zero, List.set_cons_succ])
  have hrow : ∀ g, (Value.slice ax mx cx).ownBlock = some g → w.heap.size + 1 ≤ g ∧ g < w1.heap.size := HO
  have HB5 := HB4.row HR5 (fun e => by have := HO _ e; omega)
  have HX5 : Bx 8 w.heap.size 50 w5 := by obtain ⟨l, q1, q2⟩ := HX4; exact ⟨l, q1, q2.row HR5 (fun e => by have := HO _ e; omega)⟩
  have HP5 := HP4.grown HR5 (fun g e => by have := HO g e; omega)
  have HG5 := grown_row HG4 HR5 (fun g e => by have := HO g e; omega)
  refine wpAnyI_one (i := 4) (o := { dst := some 14, op := Go.Op.call { callee := Go.Callee.builtin Go.Builtin.append, args := #[Go.Operand.tmp 11, Go.Operand.tmp 13], argTypes := #[45, 45] }, type := 45, pos := "stmt.go:133", after := #[{ on := 1, ground := Go.Ground.data }, { on := 3, ground := Go.Ground.data }, { on := 3, ground := Go.Ground.chain }], guard := none }) (by kernel_rfl) rfl (fun K hK => ?_)
  refine app_step (by rfl) rfl rfl rfl rfl HRUN ?_
  refine hK.out _ _ (ST _ HB5) (fun hHeldN => ?_)
  clear hK K hHeld; have hHeld := hHeldN; clear hHeldN; (try simp only [Act.put, List.setIfInBounds_toArray, List.set_cons_zero, List.set_cons_succ])
  refine wpAnyI_one (i := 5) (o := { dst := some 15, op := Go.Op.fieldAddr 50 (Go.Operand.tmp 3) 4, type := 0, pos := "stmt.go:133", after := #[{ on := 0, ground := Go.Ground.phase }, { on := 1, ground := Go.Ground.phase }, { on := 2, ground := Go.Ground.phase }, { on := 3, ground := Go.Ground.phase }, { on := 4, ground := Go.Ground.phase }], guard := none }) (by kernel_rfl) rfl (fun K hK => ?_)
  go_simp
  refine hK.out _ _ (ST _ HB5) (fun hHeldN => ?_)
  clear hK K hHeld; have hHeld := hHeldN; clear hHeldN; (try simp only [Act.put, List.setIfInBounds_toArray, List.set_cons_zero, List.set_cons_succ])
  have yf : ∀ o, w5.frozen? ⟨w1.heap.size, o, none⟩ = false := fun o => freeOf HB5 o
  have xf : ∀ o, w5.frozen? ⟨w.heap.size, o, none⟩ = false := fun o => by obtain ⟨l, q1, q2⟩ := HX5; exact freeOf q2 o
  have HB6 := HB5.put (v := .slice a5 m5 c5) 4
  simp only [List.setIfInBounds_toArray, List.set_cons_zero, List.set_cons_succ] at HB6
  have hb6 := HB6.lt
  have j0 := HB6.cell (i := 0) rfl
  have j1 := HB6.cell (i := 1) rfl
  have j2 := HB6.cell (i := 2) rfl
  have j3 := HB6.cell (i := 3) rfl
  have j4 := HB6.cell (i := 4) rfl
  have j5 := HB6.cell (i := 5) rfl
  have j6 := HB6.cell (i := 6) rfl
  have j7 := HB6.cell (i := 7) rfl
  obtain ⟨⟨l6⟩, hl6, hX6⟩ := HX5
  obtain ⟨z0, z1, z2, z3, z4, z5, z6, z7, rfl⟩ := eight_of l6 hl6
  have hX7 := hX6.set (b' := w1.heap.size) (i := 4) (v := .slice a5 m5 c5) (by omega)
  have x0 := hX7.cell (i := 0) rfl
  have x1 := hX7.cell (i := 1) rfl
  have x2 := hX7.cell (i := 2) rfl
  have x3 := hX7.cell (i := 3) rfl
  have x4 := hX7.cell (i := 4) rfl
  have x5 := hX7.cell (i := 5) rfl
  have x6 := hX7.cell (i := 6) rfl
  have x7 := hX7.cell (i := 7) rfl
  refine wpAnyI_last (o := { dst := none, op := Go.Op.store 45 (Go.Operand.tmp 15) (Go.Operand.tmp 14), type := 0, pos := "stmt.go:133", after := #[{ on := 5, ground := Go.Ground.data }, { on := 4, ground := Go.Ground.data }, { on := 4, ground := Go.Ground.chain }, { on := 0, ground := Go.Ground.phase }, { on := 1, ground := Go.Ground.phase }, { on := 2, ground := Go.Ground.phase }, { on := 3, ground := Go.Ground.phase }, { on := 4, ground := Go.Ground.phase }], guard := none }) (by kernel_rfl) rfl (by kernel_rfl) (fun K hK => ?_)
  go_simp
  refine hK.out _ _ ?_
  clear hK K hHeld
  (try simp only [Act.put, List.setIfInBounds_toArray, List.set_cons_zero, List.set_cons_succ])
  go_wp2
  have hnA1 : ¬ ((w.heap.size + 1 ≤ w1.heap.size ∧ w1.heap.size < w4.heap.size ∧ w1.heap.size ≠ w1.heap.size) ∨ (w4.heap.size ≤ w1.heap.size ∧ w1.heap.size < w5.heap.size)) := by rintro (⟨q1, q2, q3⟩ | ⟨q1, q2⟩) <;> omega
  have hnA0 : ¬ ((w.heap.size + 1 ≤ w.heap.size ∧ w.heap.size < w4.heap.size ∧ w.heap.size ≠ w1.heap.size) ∨ (w4.heap.size ≤ w.heap.size ∧ w.heap.size < w5.heap.size)) := by rintro (⟨q1, q2, q3⟩ | ⟨q1, q2⟩) <;> omega
  refine ret8s Tryz.results210 rfl (Bx.put8 ⟨_, rfl, hX7⟩) rfl ?_
  have HP := HP5
  have HG := HG5
  refine Rt.ok (H.out.trans rfl) ?_ (Pst.to HP (by intro HP; repeat (first | (with_reducible exact HP) | (with_reducible apply Pst.alloc) | ((with_reducible refine Pst.set ?_ ?_); rotate_left; omega)))) (Gw.to HG (by intro HG; repeat (first | (with_reducible exact HG) | (with_reducible apply grown_alloc) | (with_reducible apply grown_box) | ((with_reducible refine grown_set' ?_ ?_); rotate_left; omega))))
  refine RSt.mk2 (xs := xs ++ cs) (b := []) (l := []) rfl (XsR.mv hHV5.out (show Same (fun g => (w.heap.size + 1 ≤ g ∧ g < w4.heap.size ∧ g ≠ w1.heap.size) ∨ (w4.heap.size ≤ g ∧ g < w5.heap.size)) w5 _ from ?_) ?_) (SsR.nil _ _) (SsR.nil _ _) rfl rfl rfl
  · repeat (first | (with_reducible exact Same.refl _ _) | ((with_reducible apply Same.set); rotate_left; (first | exact hnA1 | exact hnA0)))
  · rintro g (⟨q1, q2, q3⟩ | ⟨q1, q2⟩)
    · exact ⟨by omega, by simp only [World.size_setCell]; omega⟩
    · exact ⟨by omega, by simp only [World.size_setCell]; omega⟩
end Go.Proofs.YtkhjacflmggelaaGreatDoor

