/- The parser: a declaration behind those of its sort. -/
import Derived.Test.YtcnohgifihbkdaaGreatDoorJAT
namespace Go.Proofs.YtcnohgifihbkdaaGreatDoor
open Go Go.RowKit Go.Deep Go.Shelf
set_option linter.unusedVariables false
set_option linter.unusedSimpArgs false
set_option maxRecDepth 100000
def DcQ (w : World) (P D T j : Nat) (cs : Array Value) (A : Nat → Prop) (r : Except Flt (List PDc × PS)) (e : Ending) (w' : World) : Prop := match r with
  | .error f => e = .panicked [fltV f] ∧ w.grownBy w' (some P)
  | .ok (l', s') => e = .returned (.tuple #[]) ∧ Pst w' P D s' ∧ ∃ (a' : Option Addr) (c' : Nat), Box T (cs.setIfInBounds j (.slice a' l'.length c')) 25 w' ∧ Lst 51 7 LD w' (fun g => A g ∨ (w.heap.size ≤ g ∧ g < w'.heap.size)) (.slice a' l'.length c') l' ∧ w.heap.size ≤ w'.heap.size ∧ w'.os = w.os ∧ w'.tape = w.tape ∧ w'.output = w.output ∧ ∀ g, g < w.heap.size → g ≠ P → g ≠ T → ¬ A g → w'.heap[g]? = w.heap[g]?
theorem DcQ.err {w : World} {P D T j : Nat} {cs : Array Value} {A : Nat → Prop} {r : Except Flt (List PDc × PS)} {f : Flt} {w' : World} (h : r = .error f) (hg : w.grownBy w' (some P)) : DcQ w P D T j cs A r (.panicked [fltV f]) w' := by rw [h]; exact ⟨rfl, hg⟩
theorem RDc.parts {w : World} {A : Nat → Prop} {v : Value} {d : PDc} (h : RDc w A v d) : ∃ (pa : Option Addr) (pn pc : Nat) (ba : Option Addr) (bn bc : Nat) (b : List PSt), v = .agg #[.string (bs d.name), .slice pa pn pc, .string (bs d.key), .string (bs d.value), .string (bs d.result), .slice ba bn bc, .int .i64 d.pos] ∧ PmR w A (.slice pa pn pc) d.params ∧ SsR w A (.slice ba bn bc) b ∧ d.body = b.map pkS := by
  obtain ⟨pv, bv, b, h1, h2, h3, h4⟩ := h
  obtain ⟨pa, pn, pc, rfl⟩ := Rws.form h2
  obtain ⟨ba, bn, bc, rfl⟩ := h3.form
  exact ⟨pa, pn, pc, ba, bn, bc, b, h1, h2, h3, h4⟩
theorem LD.one {w : World} {A B : Nat → Prop} {cs : Array Value} {d : PDc} (h : RDc w A (.agg cs) d) (hA : ∀ g, A g → g < w.heap.size) (hAB : ∀ g, A g → B g) (hB : B w.heap.size) : ∃ rows, Rws 51 7 (w.alloc (.cells cs 51)) B (.slice (some ⟨w.heap.size, 0, none⟩) 1 1) rows ∧ All2 (LD (w.alloc (.cells cs 51)) B) rows [d] := by
  have h2 := h.row
  obtain ⟨q1, q2⟩ := LD_row _ _ _ _ h2
  exact ⟨[cs.toList], ⟨(KR.one w cs.toList q1 q2).lower (Nat.zero_le _), fun g e => by cases e; exact hB⟩, All2.one (LD_mv _ _ _ _ _ _ h2 ((Same.refl _ _).alloc hA) hAB)⟩
set_option maxHeartbeats 4000000 in
theorem declare_any46 (w : World) (P D T j : Nat) (s : PS) (l : List PDc) (rest : Pr PDc) (a : Option Addr) (c : Nat) (cs : Array Value) (A : Nat → Prop) (HP : Pst w P D s) (HB : Box T cs 25 w) (hj : cs[j]? = some (.slice a l.length c)) (hTD : D ≤ T) (HL : Lst 51 7 LD w A (.slice a l.length c) l) (hA : ∀ g, A g → D ≤ g ∧ g < w.heap.size ∧ g ≠ T) (hl : l.length ≤ 10000) (HK : (nxt s).kind ≠ 0) (J : ∀ (V : World) (t : PS), Pst V P D t → Fed (rest t) → Calls Tryz.prog 44 #[.pointer (some ⟨P, 0, none⟩)] V (Rt RDc P D V (rest t))) (HF : Fed (declare l rest s)) : Calls Tryz.prog 43 #[.pointer (some ⟨P, 0, none⟩), .pointer (some ⟨T, j, none⟩), .func (.func 44) #[.pointer (some ⟨P, 0, none⟩)] #[]] w (DcQ w P D T j cs A (declare l rest s)) := by
  have HG := World.grownBy.refl w (some P)
  have hPw := HP.lt
  have hD := HP.dw
  have hPD := HP.pd
  have t0 := True.intro
  have hb16 : decide (l.length = 16) = ((l.length : Int) == 16) := by rw [Bool.eq_iff_iff]; simp; omega
  have H := hid (show declare l rest s = (bd take fun w => bd rest fun d => ret (l ++ [d.setAt w.pos])) { s with sur := ((l.length : Int) == 16) } by rw [← hb16]; rfl)
  have HF := hid HF
  have J := hid J
  obtain ⟨g', off, nt, ct, hP', hg', c0, c1, c2, f0, f1, f2, hn', n0, n1, nct, u0, u1, u2⟩ := HP.open
  have HP := HP.sur ((l.length : Int) == 16)
  have HK : (nxt { s with sur := ((l.length : Int) == 16) }).kind ≠ 0 := HK
  have hTl := HB.lt
  have hTP : ¬ T = P := by omega
  have hLc : w.cell? ⟨T, j, none⟩ = some (.slice a l.length c) := HB.cell hj
  have hlI : (l.length : Int) ≤ 10000 := by omega
  have HLL := hid HL
  have HBB := hid HB
  have HAA := hid hA
  have hjj := hid hj
  clear hn' HL HB hA hb16 hj
  go_enter Tryz.func43, Tryz.ntmps43
  go_wp2_with (first
    | (have hno := t1; (go_at_call 44; (refine (J.out _ _ (Pst.to HP (by intro HP; with_reducible repeat first | exact HP | apply pA | refine pS (by omega) ?_)) (fun h => HF.out (H.out.trans (bd_err h)))).mono ?_; intro e w2 hrt; rcases hrt.cases with ⟨f, hx, rfl, hg⟩ | ⟨d, s2, v, hx, rfl, hv, hs, hg⟩; (focus (exact ⟨rfl, DcQ.err (H.out.trans (bd_err hx)) (gtrans (Gw.to HG (by intro HG; with_reducible repeat first | exact HG | apply gA | apply gB | refine gS (by omega) ?_)) hg)⟩)); (obtain ⟨pa, pn, pc, ba, bn, bc, db, rfl, hN, hX, hA⟩ := hv.parts; have hE := hv); have H := hid (H.out.trans (bd_ok hx)); obtain ⟨hcw2, hfw2⟩ := gcell hg; have hzw2 := hg.size; (try simp only [szA, szS] at hzw2); have hPw2 := hs.lt; have hleww2 := le1 w w2 (by omega); (try have hltww2 := lt1 w w2 (by omega)); have hlew1w2 := le1 w1 w2 (by omega); (try have hltw1w2 := lt1 w1 w2 (by omega)); have HG := gtrans (Gw.to HG (by intro HG; with_reducible repeat first | exact HG | apply gA | apply gB | refine gS (by omega) ?_)) hg; have HP := hs; have hGw2 := hg; have t2 := True.intro; (try clear hg hs))))
    | (have hno := t0; (go_at_call 75; (refine (take_any _ _ D _ (Pst.to HP (by intro HP; with_reducible repeat first | exact HP | apply pA | refine pS (by omega) ?_)) HK).mono ?_; intro e w1 hrt; rcases hrt.cases with ⟨f, hx, rfl, hg⟩ | ⟨tk, s1, v, hx, rfl, hv, hs, hg⟩; (focus (exact ⟨rfl, DcQ.err (H.out.trans (bd_err hx)) (gtrans (Gw.to HG (by intro HG; with_reducible repeat first | exact HG | apply gA | apply gB | refine gS (by omega) ?_)) hg)⟩)); (have hv2 : v = tokV tk := hv; subst hv2; unfold tokV); have H := hid (H.out.trans (bd_ok hx)); obtain ⟨hcw1, hfw1⟩ := gcell hg; have hzw1 := hg.size; (try simp only [szA, szS] at hzw1); have hPw1 := hs.lt; have hleww1 := le1 w w1 (by omega); (try have hltww1 := lt1 w w1 (by omega)); have HG := gtrans (Gw.to HG (by intro HG; with_reducible repeat first | exact HG | apply gA | apply gB | refine gS (by omega) ?_)) hg; have HP := hs; have hGw1 := hg; have t1 := True.intro; (try clear hg hs))))
    )
  have hTP2 : ¬ P = T := by omega
  have HG3 : w.grownBy (w2.alloc (.cells #[.string (bs d.name), .slice pa pn pc, .string (bs d.key), .string (bs d.value), .string (bs d.result), .slice ba bn bc, .int .i64 tk.pos] 51)) (some P) := (Gw.to HG (by intro HG; with_reducible repeat first | exact HG | apply gA | apply gB | refine gS (by omega) ?_))
  have HP3 : Pst (w2.alloc (.cells #[.string (bs d.name), .slice pa pn pc, .string (bs d.key), .string (bs d.value), .string (bs d.result), .slice ba bn bc, .int .i64 tk.pos] 51)) P D s2 := (Pst.to HP (by intro HP; with_reducible repeat first | exact HP | apply pA | refine pS (by omega) ?_))
  have HB3 : Box T cs 25 (w2.alloc (.cells #[.string (bs d.name), .slice pa pn pc, .string (bs d.key), .string (bs d.value), .string (bs d.result), .slice ba bn bc, .int .i64 tk.pos] 51)) := (Box.call (Box.alloc (Box.call (Box.set HBB.out hTP) hGw1 hTP) _) hGw2 hTP).alloc _
  have HD3 := Box.new w2 #[.string (bs d.name), .slice pa pn pc, .string (bs d.key), .string (bs d.value), .string (bs d.result), .slice ba bn bc, .int .i64 tk.pos] 51
  have HL3 : Lst 51 7 LD (w2.alloc (.cells #[.string (bs d.name), .slice pa pn pc, .string (bs d.key), .string (bs d.value), .string (bs d.result), .slice ba bn bc, .int .i64 tk.pos] 51)) A (.slice a l.length c) l := HLL.out.mv LD_mv (fun g hg => HG3.block g (HAA.out g hg).2.1 (fun e => by have := Option.some.inj e; have := (HAA.out g hg).1; omega)) (fun g hg => hg)
  have HE3 : RDc (w2.alloc (.cells #[.string (bs d.name), .slice pa pn pc, .string (bs d.key), .string (bs d.value), .string (bs d.result), .slice ba bn bc, .int .i64 tk.pos] 51)) (fun g => w.heap.size ≤ g ∧ g < w2.heap.size) (.agg #[.string (bs d.name), .slice pa pn pc, .string (bs d.key), .string (bs d.value), .string (bs d.result), .slice ba bn bc, .int .i64 tk.pos]) (d.setAt tk.pos) := by
    have q := RDc.mv hE (Same.alloc (o := .cells #[.string (bs d.name), .slice pa pn pc, .string (bs d.key), .string (bs d.value), .string (bs d.result), .slice ba bn bc, .int .i64 tk.pos] 51) (Same.refl _ _) (by rintro g ⟨q1, q2⟩; exact q2)) (B := fun g => w.heap.size ≤ g ∧ g < w2.heap.size) (by rintro g ⟨q1, q2⟩; simp only [World.size_alloc] at q1; exact ⟨by omega, q2⟩)
    obtain ⟨pv, bv, b, q1, q2, q3, q4⟩ := q
    cases q1
    exact ⟨_, _, b, rfl, q2, q3, q4⟩
  have hz3 : (w2.alloc (.cells #[.string (bs d.name), .slice pa pn pc, .string (bs d.key), .string (bs d.value), .string (bs d.result), .slice ba bn bc, .int .i64 tk.pos] 51)).heap.size = w2.heap.size + 1 := World.size_alloc _ _
  generalize (w2.alloc (.cells #[.string (bs d.name), .slice pa pn pc, .string (bs d.key), .string (bs d.value), .string (bs d.result), .slice ba bn bc, .int .i64 tk.pos] 51)) = w3 at HG3 HP3 HB3 HD3 HL3 HE3 hz3 ⊢
  have hww2 : w.heap.size ≤ w2.heap.size := by omega
  have hl23 : w2.heap.size < w3.heap.size := by omega
  clear hz3
  have HL3 := hid HL3
  have HE3 := hid HE3
  have hzd : w3.drew.heap.size = w3.heap.size := rfl
  clear hE hN hX hA hcw1 hcw2 hfw1 hfw2 HP HG hGw1 hGw2
  have ST : ∀ v : World, Box T cs 25 v → Box w2.heap.size #[.string (bs d.name), .slice pa pn pc, .string (bs d.key), .string (bs d.value), .string (bs d.result), .slice ba bn bc, .int .i64 tk.pos] 51 v → v.cell? ⟨T, j, none⟩ = some (.slice a l.length c) ∧ v.cell? ⟨w2.heap.size, 0, none⟩ = some (.string (bs d.name)) ∧ v.cell? ⟨w2.heap.size, 1, none⟩ = some (.slice pa pn pc) ∧ v.cell? ⟨w2.heap.size, 2, none⟩ = some (.string (bs d.key)) ∧ v.cell? ⟨w2.heap.size, 3, none⟩ = some (.string (bs d.value)) ∧ v.cell? ⟨w2.heap.size, 4, none⟩ = some (.string (bs d.result)) ∧ v.cell? ⟨w2.heap.size, 5, none⟩ = some (.slice ba bn bc) ∧ v.cell? ⟨w2.heap.size, 6, none⟩ = some (.int .i64 tk.pos) := fun v hv hd => ⟨hv.cell hjj.out, hd.cell rfl, hd.cell rfl, hd.cell rfl, hd.cell rfl, hd.cell rfl, hd.cell rfl, hd.cell rfl⟩
  refine wp_region_I 8 (fun v : World => v.cell? ⟨T, j, none⟩ = some (.slice a l.length c) ∧ v.cell? ⟨w2.heap.size, 0, none⟩ = some (.string (bs d.name)) ∧ v.cell? ⟨w2.heap.size, 1, none⟩ = some (.slice pa pn pc) ∧ v.cell? ⟨w2.heap.size, 2, none⟩ = some (.string (bs d.key)) ∧ v.cell? ⟨w2.heap.size, 3, none⟩ = some (.string (bs d.value)) ∧ v.cell? ⟨w2.heap.size, 4, none⟩ = some (.string (bs d.result)) ∧ v.cell? ⟨w2.heap.size, 5, none⟩ = some (.slice ba bn bc) ∧ v.cell? ⟨w2.heap.size, 6, none⟩ = some (.int .i64 tk.pos)) (by kernel_rfl) (ST _ HB3.drw HD3.drw) (fun hHeld => ?_)
  refine wpAnyI_take (i := 0) (oi := { dst := some 23, op := Go.Op.move (Go.Operand.tmp 1), type := 102, pos := "decl.go:30", after := #[], guard := none }) (v := ?_) [8] rfl (by kernel_rfl) (by kernel_rfl) (by kernel_rfl) (by kernel_rfl) (fun _ _ _ h => h) (Or.inl ⟨by rfl, ?_⟩) (by assumption) ?_
  rotate_left
  · (intro w hSw; (try dsimp only at hSw); go_simp; (try with_reducible rfl))
  (try simp only [Act.put, List.setIfInBounds_toArray, List.set_cons_zero, List.set_cons_succ])
  refine wpAnyI_take (i := 1) (oi := { dst := some 24, op := Go.Op.move (Go.Operand.tmp 1), type := 102, pos := "decl.go:30", after := #[], guard := none }) (v := ?_) [8] rfl (by kernel_rfl) (by kernel_rfl) (by kernel_rfl) (by kernel_rfl) (fun _ _ _ h => h) (Or.inl ⟨by rfl, ?_⟩) (by assumption) ?_
  rotate_left
  · (intro w hSw; (try dsimp only at hSw); go_simp; (try with_reducible rfl))
  (try simp only [Act.put, List.setIfInBounds_toArray, List.set_cons_zero, List.set_cons_succ])
  refine wpAnyI_take (i := 2) (oi := { dst := some 25, op := Go.Op.nilCheck (Go.Operand.tmp 24), type := 0, pos := "decl.go:30", after := #[{ on := 1, ground := Go.Ground.data }], guard := none }) (v := ?_) [8] rfl (by kernel_rfl) (by kernel_rfl) (by kernel_rfl) (by kernel_rfl) (fun _ _ _ h => h) (Or.inl ⟨by rfl, ?_⟩) (by assumption) ?_
  rotate_left
  · (intro w hSw; (try dsimp only at hSw); go_simp; (try with_reducible rfl))
  (try simp only [Act.put, List.setIfInBounds_toArray, List.set_cons_zero, List.set_cons_succ])
  refine wpAnyI_take (i := 3) (oi := { dst := some 26, op := Go.Op.load 23 (Go.Operand.tmp 25), type := 23, pos := "decl.go:30", after := #[{ on := 2, ground := Go.Ground.data }], guard := none }) (v := ?_) [8] rfl (by kernel_rfl) (by kernel_rfl) (by kernel_rfl) (by kernel_rfl) (fun _ _ _ h => h) (Or.inl ⟨by rfl, ?_⟩) (by assumption) ?_
  rotate_left
  · (intro w hSw; (try dsimp only at hSw); go_simp; (try with_reducible rfl))
  (try simp only [Act.put, List.setIfInBounds_toArray, List.set_cons_zero, List.set_cons_succ])
  refine wpAnyI_take (i := 4) (oi := { dst := some 27, op := Go.Op.load 51 (Go.Operand.tmp 7), type := 51, pos := "decl.go:30", after := #[], guard := none }) (v := ?_) [8] rfl (by kernel_rfl) (by kernel_rfl) (by kernel_rfl) (by kernel_rfl) (fun _ _ _ h => h) (Or.inl ⟨by rfl, ?_⟩) (by assumption) ?_
  rotate_left
  · (intro w hSw; (try dsimp only at hSw); go_simp; (try with_reducible rfl))
  (try simp only [Act.put, List.setIfInBounds_toArray, List.set_cons_zero, List.set_cons_succ])
  refine wpAnyI_one (i := 5) (o := { dst := some 28, op := Go.Op.buildSlice 23 1 #[(0, Go.Operand.tmp 27)], type := 23, pos := "decl.go:30", after := #[{ on := 4, ground := Go.Ground.data }], guard := none }) (by kernel_rfl) rfl (fun K hK => ?_)
  go_simp
  refine hK.out _ _ (ST _ (HB3.drw.alloc _) (HD3.drw.alloc _)) (fun hHeldN => ?_)
  clear hK K hHeld; have hHeld := hHeldN; clear hHeldN; (try simp only [Act.put, List.setIfInBounds_toArray, List.set_cons_zero, List.set_cons_succ])
  have HA2 : ∀ o, (w3.drew.alloc o).heap.size = w3.heap.size + 1 := fun o => World.size_alloc _ _
  obtain ⟨rows2, HU1, HU2⟩ := LD.one (w := w3.drew) (B := fun g => w.heap.size ≤ g ∧ g < w3.heap.size + 1) (RDc.mv HE3.out (w' := w3.drew) (B := fun g => w.heap.size ≤ g ∧ g < w2.heap.size) (fun g hg => rfl) (fun g h => h)) (by rintro g ⟨q1, q2⟩; omega) (by rintro g ⟨q1, q2⟩; exact ⟨q1, by omega⟩) ⟨by omega, by omega⟩
  have HLa : Lst 51 7 LD (w3.drew.alloc (.cells #[.string (bs d.name), .slice pa pn pc, .string (bs d.key), .string (bs d.value), .string (bs d.result), .slice ba bn bc, .int .i64 tk.pos] 51)) A (.slice a l.length c) l := HL3.out.mv LD_mv (Same.alloc (fun g hg => rfl) (by intro g hg; have := (HAA.out g hg).2.1; omega)) (fun g h => h)
  have HO : ∀ g, (Value.slice a l.length c).ownBlock = some g → A g := by obtain ⟨rows, ⟨_, q⟩, _⟩ := HLa; exact q
  obtain ⟨v5, w5, HRUN, HV5, HR5, _⟩ := run_appN LD_mv LD_row under23 infoD rfl (by decide) (by decide) _ 23 A (fun g => w.heap.size ≤ g ∧ g < w3.heap.size + 1) (fun g => A g ∨ (w.heap.size ≤ g ∧ g < w3.heap.size + 1)) _ _ l [d.setAt tk.pos] HLa ⟨rows2, HU1, HU2⟩ (by intro g hg; rw [HA2]; have := (HAA.out g hg).2.1; omega) (by rintro g ⟨q1, q2⟩; rw [HA2]; exact q2) (by rintro g ⟨q1, q2⟩ e; have := (HAA.out g (HO g e)).2.1; omega) (fun g h => .inl h) (fun g h => .inr h) (by omega) (by simp)
  obtain ⟨a5, c5, rfl⟩ := HV5.form
  have hz5 := HR5.size
  rw [HA2] at hz5
  have HV5 := hid HV5
  have HB5 := (HB3.drw.alloc (.cells #[.string (bs d.name), .slice pa pn pc, .string (bs d.key), .string (bs d.value), .string (bs d.result), .slice ba bn bc, .int .i64 tk.pos] 51)).row HR5 (fun e => (HAA.out _ (HO _ e)).2.2 rfl)
  have HD5 := (HD3.drw.alloc (.cells #[.string (bs d.name), .slice pa pn pc, .string (bs d.key), .string (bs d.value), .string (bs d.result), .slice ba bn bc, .int .i64 tk.pos] 51)).row HR5 (fun e => by have := (HAA.out _ (HO _ e)).2.1; omega)
  have HP5 := (HP3.drw.alloc (.cells #[.string (bs d.name), .slice pa pn pc, .string (bs d.key), .string (bs d.value), .string (bs d.result), .slice ba bn bc, .int .i64 tk.pos] 51)).grown HR5 (fun g e => (HAA.out _ (HO _ e)).1)
  have HG4 := grown_alloc (grown_drew HG3) (.cells #[.string (bs d.name), .slice pa pn pc, .string (bs d.key), .string (bs d.value), .string (bs d.result), .slice ba bn bc, .int .i64 tk.pos] 51)
  have hKp : ∀ g, g < w.heap.size → g ≠ P → ¬ A g → w5.heap[g]? = w.heap[g]? := fun g q1 q2 q3 => (HR5.block g (by rw [HA2]; omega) (fun e => q3 (HO g e.symm))).trans (HG4.block g q1 (fun e => q2 (Option.some.inj e)))
  have hos := HR5.os.trans HG4.os
  have hta := HR5.tape.trans HG4.tape
  have hou := HR5.output.trans HG4.output
  clear HR5 HLa HU1 HU2 HG4
  refine wpAnyI_one (i := 6) (o := { dst := some 29, op := Go.Op.call { callee := Go.Callee.builtin Go.Builtin.append, args := #[Go.Operand.tmp 26, Go.Operand.tmp 28], argTypes := #[23, 23] }, type := 23, pos := "decl.go:30", after := #[{ on := 3, ground := Go.Ground.data }, { on := 5, ground := Go.Ground.data }], guard := none }) (by kernel_rfl) rfl (fun K hK => ?_)
  refine app_step (by rfl) rfl rfl rfl rfl HRUN ?_
  refine hK.out _ _ (ST _ HB5 HD5) (fun hHeldN => ?_)
  clear hK K hHeld; have hHeld := hHeldN; clear hHeldN; (try simp only [Act.put, List.setIfInBounds_toArray, List.set_cons_zero, List.set_cons_succ])
  refine wpAnyI_one (i := 7) (o := { dst := some 30, op := Go.Op.nilCheck (Go.Operand.tmp 23), type := 0, pos := "decl.go:30", after := #[{ on := 0, ground := Go.Ground.data }, { on := 0, ground := Go.Ground.phase }, { on := 1, ground := Go.Ground.phase }, { on := 2, ground := Go.Ground.phase }, { on := 3, ground := Go.Ground.phase }, { on := 4, ground := Go.Ground.phase }, { on := 5, ground := Go.Ground.phase }, { on := 6, ground := Go.Ground.phase }], guard := none }) (by kernel_rfl) rfl (fun K hK => ?_)
  go_simp
  refine hK.out _ _ (ST _ HB5 HD5) (fun hHeldN => ?_)
  clear hK K hHeld; have hHeld := hHeldN; clear hHeldN; (try simp only [Act.put, List.setIfInBounds_toArray, List.set_cons_zero, List.set_cons_succ])
  have yf : w5.frozen? ⟨T, j, none⟩ = false := freeOf HB5 j
  have jt : w5.cell? ⟨T, j, none⟩ = some (.slice a l.length c) := HB5.cell hjj.out
  refine wpAnyI_last (o := { dst := none, op := Go.Op.store 23 (Go.Operand.tmp 30) (Go.Operand.tmp 29), type := 0, pos := "decl.go:30", after := #[{ on := 7, ground := Go.Ground.data }, { on := 6, ground := Go.Ground.data }, { on := 6, ground := Go.Ground.chain }, { on := 0, ground := Go.Ground.phase }, { on := 1, ground := Go.Ground.phase }, { on := 2, ground := Go.Ground.phase }, { on := 3, ground := Go.Ground.phase }, { on := 4, ground := Go.Ground.phase }, { on := 5, ground := Go.Ground.phase }, { on := 6, ground := Go.Ground.phase }], guard := none }) (by kernel_rfl) rfl (by kernel_rfl) (fun K hK => ?_)
  go_simp
  refine hK.out _ _ ?_
  clear hK K hHeld
  (try simp only [Act.put, List.setIfInBounds_toArray, List.set_cons_zero, List.set_cons_succ])
  go_wp2
  have hnT : ¬ ((A T ∨ (w.heap.size ≤ T ∧ T < w3.heap.size + 1)) ∨ ((w3.drew.alloc (.cells #[.string (bs d.name), .slice pa pn pc, .string (bs d.key), .string (bs d.value), .string (bs d.result), .slice ba bn bc, .int .i64 tk.pos] 51)).heap.size ≤ T ∧ T < w5.heap.size)) := by
    rw [HA2]
    rintro ((q | ⟨q1, q2⟩) | ⟨q1, q2⟩)
    · exact (HAA.out _ q).2.2 rfl
    · omega
    · omega
  go_end0
  have HZ : declare l rest s = .ok (l ++ [d.setAt tk.pos], s2) := H.out.trans rfl
  rw [← show (l ++ [d.setAt tk.pos]).length = l.length + 1 by simp]
  rw [HZ]
  have hB6 := HB5.put (v := .slice a5 (l ++ [d.setAt tk.pos]).length c5) j
  refine ⟨rfl, HP5.set hTD, a5, c5, hB6, HV5.out.mv LD_mv (Same.set (Same.refl _ _) hnT) ?_, ?_, hos, hta, hou, ?_⟩
  · rintro g ((q | ⟨q1, q2⟩) | ⟨q1, q2⟩)
    · exact .inl q
    · exact .inr ⟨q1, by rw [World.size_setCell]; omega⟩
    · rw [HA2] at q1; exact .inr ⟨by omega, by rw [World.size_setCell]; omega⟩
  · rw [World.size_setCell]; omega
  · intro g q1 q2 q3 q4
    exact (Below.heap_setCell _ ⟨T, j, none⟩ _ _ (show g ≠ T from q3)).trans (hKp g q1 q2 q4)
set_option maxHeartbeats 4000000 in
theorem declare_any47 (w : World) (P D T j : Nat) (s : PS) (l : List PDc) (rest : Pr PDc) (a : Option Addr) (c : Nat) (cs : Array Value) (A : Nat → Prop) (HP : Pst w P D s) (HB : Box T cs 25 w) (hj : cs[j]? = some (.slice a l.length c)) (hTD : D ≤ T) (HL : Lst 51 7 LD w A (.slice a l.length c) l) (hA : ∀ g, A g → D ≤ g ∧ g < w.heap.size ∧ g ≠ T) (hl : l.length ≤ 10000) (HK : (nxt s).kind ≠ 0) (J : ∀ (V : World) (t : PS), Pst V P D t → Fed (rest t) → Calls Tryz.prog 45 #[.pointer (some ⟨P, 0, none⟩)] V (Rt RDc P D V (rest t))) (HF : Fed (declare l rest s)) : Calls Tryz.prog 43 #[.pointer (some ⟨P, 0, none⟩), .pointer (some ⟨T, j, none⟩), .func (.func 45) #[.pointer (some ⟨P, 0, none⟩)] #[]] w (DcQ w P D T j cs A (declare l rest s)) := by
  have HG := World.grownBy.refl w (some P)
  have hPw := HP.lt
  have hD := HP.dw
  have hPD := HP.pd
  have t0 := True.intro
  have hb16 : decide (l.length = 16) = ((l.length : Int) == 16) := by rw [Bool.eq_iff_iff]; simp; omega
  have H := hid (show declare l rest s = (bd take fun w => bd rest fun d => ret (l ++ [d.setAt w.pos])) { s with sur := ((l.length : Int) == 16) } by rw [← hb16]; rfl)
  have HF := hid HF
  have J := hid J
  obtain ⟨g', off, nt, ct, hP', hg', c0, c1, c2, f0, f1, f2, hn', n0, n1, nct, u0, u1, u2⟩ := HP.open
  have HP := HP.sur ((l.length : Int) == 16)
  have HK : (nxt { s with sur := ((l.length : Int) == 16) }).kind ≠ 0 := HK
  have hTl := HB.lt
  have hTP : ¬ T = P := by omega
  have hLc : w.cell? ⟨T, j, none⟩ = some (.slice a l.length c) := HB.cell hj
  have hlI : (l.length : Int) ≤ 10000 := by omega
  have HLL := hid HL
  have HBB := hid HB
  have HAA := hid hA
  have hjj := hid hj
  clear hn' HL HB hA hb16 hj
  go_enter Tryz.func43, Tryz.ntmps43
  go_wp2_with (first
    | (have hno := t1; (go_at_call 45; (refine (J.out _ _ (Pst.to HP (by intro HP; with_reducible repeat first | exact HP | apply pA | refine pS (by omega) ?_)) (fun h => HF.out (H.out.trans (bd_err h)))).mono ?_; intro e w2 hrt; rcases hrt.cases with ⟨f, hx, rfl, hg⟩ | ⟨d, s2, v, hx, rfl, hv, hs, hg⟩; (focus (exact ⟨rfl, DcQ.err (H.out.trans (bd_err hx)) (gtrans (Gw.to HG (by intro HG; with_reducible repeat first | exact HG | apply gA | apply gB | refine gS (by omega) ?_)) hg)⟩)); (obtain ⟨pa, pn, pc, ba, bn, bc, db, rfl, hN, hX, hA⟩ := hv.parts; have hE := hv); have H := hid (H.out.trans (bd_ok hx)); obtain ⟨hcw2, hfw2⟩ := gcell hg; have hzw2 := hg.size; (try simp only [szA, szS] at hzw2); have hPw2 := hs.lt; have hleww2 := le1 w w2 (by omega); (try have hltww2 := lt1 w w2 (by omega)); have hlew1w2 := le1 w1 w2 (by omega); (try have hltw1w2 := lt1 w1 w2 (by omega)); have HG := gtrans (Gw.to HG (by intro HG; with_reducible repeat first | exact HG | apply gA | apply gB | refine gS (by omega) ?_)) hg; have HP := hs; have hGw2 := hg; have t2 := True.intro; (try clear hg hs))))
    | (have hno := t0; (go_at_call 75; (refine (take_any _ _ D _ (Pst.to HP (by intro HP; with_reducible repeat first | exact HP | apply pA | refine pS (by omega) ?_)) HK).mono ?_; intro e w1 hrt; rcases hrt.cases with ⟨f, hx, rfl, hg⟩ | ⟨tk, s1, v, hx, rfl, hv, hs, hg⟩; (focus (exact ⟨rfl, DcQ.err (H.out.trans (bd_err hx)) (gtrans (Gw.to HG (by intro HG; with_reducible repeat first | exact HG | apply gA | apply gB | refine gS (by omega) ?_)) hg)⟩)); (have hv2 : v = tokV tk := hv; subst hv2; unfold tokV); have H := hid (H.out.trans (bd_ok hx)); obtain ⟨hcw1, hfw1⟩ := gcell hg; have hzw1 := hg.size; (try simp only [szA, szS] at hzw1); have hPw1 := hs.lt; have hleww1 := le1 w w1 (by omega); (try have hltww1 := lt1 w w1 (by omega)); have HG := gtrans (Gw.to HG (by intro HG; with_reducible repeat first | exact HG | apply gA | apply gB | refine gS (by omega) ?_)) hg; have HP := hs; have hGw1 := hg; have t1 := True.intro; (try clear hg hs))))
    )
  have hTP2 : ¬ P = T := by omega
  have HG3 : w.grownBy (w2.alloc (.cells #[.string (bs d.name), .slice pa pn pc, .string (bs d.key), .string (bs d.value), .string (bs d.result), .slice ba bn bc, .int .i64 tk.pos] 51)) (some P) := (Gw.to HG (by intro HG; with_reducible repeat first | exact HG | apply gA | apply gB | refine gS (by omega) ?_))
  have HP3 : Pst (w2.alloc (.cells #[.string (bs d.name), .slice pa pn pc, .string (bs d.key), .string (bs d.value), .string (bs d.result), .slice ba bn bc, .int .i64 tk.pos] 51)) P D s2 := (Pst.to HP (by intro HP; with_reducible repeat first | exact HP | apply pA | refine pS (by omega) ?_))
  have HB3 : Box T cs 25 (w2.alloc (.cells #[.string (bs d.name), .slice pa pn pc, .string (bs d.key), .string (bs d.value), .string (bs d.result), .slice ba bn bc, .int .i64 tk.pos] 51)) := (Box.call (Box.alloc (Box.call (Box.set HBB.out hTP) hGw1 hTP) _) hGw2 hTP).alloc _
  have HD3 := Box.new w2 #[.string (bs d.name), .slice pa pn pc, .string (bs d.key), .string (bs d.value), .string (bs d.result), .slice ba bn bc, .int .i64 tk.pos] 51
  have HL3 : Lst 51 7 LD (w2.alloc (.cells #[.string (bs d.name), .slice pa pn pc, .string (bs d.key), .string (bs d.value), .string (bs d.result), .slice ba bn bc, .int .i64 tk.pos] 51)) A (.slice a l.length c) l := HLL.out.mv LD_mv (fun g hg => HG3.block g (HAA.out g hg).2.1 (fun e => by have := Option.some.inj e; have := (HAA.out g hg).1; omega)) (fun g hg => hg)
  have HE3 : RDc (w2.alloc (.cells #[.string (bs d.name), .slice pa pn pc, .string (bs d.key), .string (bs d.value), .string (bs d.result), .slice ba bn bc, .int .i64 tk.pos] 51)) (fun g => w.heap.size ≤ g ∧ g < w2.heap.size) (.agg #[.string (bs d.name), .slice pa pn pc, .string (bs d.key), .string (bs d.value), .string (bs d.result), .slice ba bn bc, .int .i64 tk.pos]) (d.setAt tk.pos) := by
    have q := RDc.mv hE (Same.alloc (o := .cells #[.string (bs d.name), .slice pa pn pc, .string (bs d.key), .string (bs d.value), .string (bs d.result), .slice ba bn bc, .int .i64 tk.pos] 51) (Same.refl _ _) (by rintro g ⟨q1, q2⟩; exact q2)) (B := fun g => w.heap.size ≤ g ∧ g < w2.heap.size) (by rintro g ⟨q1, q2⟩; simp only [World.size_alloc] at q1; exact ⟨by omega, q2⟩)
    obtain ⟨pv, bv, b, q1, q2, q3, q4⟩ := q
    cases q1
    exact ⟨_, _, b, rfl, q2, q3, q4⟩
  have hz3 : (w2.alloc (.cells #[.string (bs d.name), .slice pa pn pc, .string (bs d.key), .string (bs d.value), .string (bs d.result), .slice ba bn bc, .int .i64 tk.pos] 51)).heap.size = w2.heap.size + 1 := World.size_alloc _ _
  generalize (w2.alloc (.cells #[.string (bs d.name), .slice pa pn pc, .string (bs d.key), .string (bs d.value), .string (bs d.result), .slice ba bn bc, .int .i64 tk.pos] 51)) = w3 at HG3 HP3 HB3 HD3 HL3 HE3 hz3 ⊢
  have hww2 : w.heap.size ≤ w2.heap.size := by omega
  have hl23 : w2.heap.size < w3.heap.size := by omega
  clear hz3
  have HL3 := hid HL3
  have HE3 := hid HE3
  have hzd : w3.drew.heap.size = w3.heap.size := rfl
  clear hE hN hX hA hcw1 hcw2 hfw1 hfw2 HP HG hGw1 hGw2
  have ST : ∀ v : World, Box T cs 25 v → Box w2.heap.size #[.string (bs d.name), .slice pa pn pc, .string (bs d.key), .string (bs d.value), .string (bs d.result), .slice ba bn bc, .int .i64 tk.pos] 51 v → v.cell? ⟨T, j, none⟩ = some (.slice a l.length c) ∧ v.cell? ⟨w2.heap.size, 0, none⟩ = some (.string (bs d.name)) ∧ v.cell? ⟨w2.heap.size, 1, none⟩ = some (.slice pa pn pc) ∧ v.cell? ⟨w2.heap.size, 2, none⟩ = some (.string (bs d.key)) ∧ v.cell? ⟨w2.heap.size, 3, none⟩ = some (.string (bs d.value)) ∧ v.cell? ⟨w2.heap.size, 4, none⟩ = some (.string (bs d.result)) ∧ v.cell? ⟨w2.heap.size, 5, none⟩ = some (.slice ba bn bc) ∧ v.cell? ⟨w2.heap.size, 6, none⟩ = some (.int .i64 tk.pos) := fun v hv hd => ⟨hv.cell hjj.out, hd.cell rfl, hd.cell rfl, hd.cell rfl, hd.cell rfl, hd.cell rfl, hd.cell rfl, hd.cell rfl⟩
  refine wp_region_I 8 (fun v : World => v.cell? ⟨T, j, none⟩ = some (.slice a l.length c) ∧ v.cell? ⟨w2.heap.size, 0, none⟩ = some (.string (bs d.name)) ∧ v.cell? ⟨w2.heap.size, 1, none⟩ = some (.slice pa pn pc) ∧ v.cell? ⟨w2.heap.size, 2, none⟩ = some (.string (bs d.key)) ∧ v.cell? ⟨w2.heap.size, 3, none⟩ = some (.string (bs d.value)) ∧ v.cell? ⟨w2.heap.size, 4, none⟩ = some (.string (bs d.result)) ∧ v.cell? ⟨w2.heap.size, 5, none⟩ = some (.slice ba bn bc) ∧ v.cell? ⟨w2.heap.size, 6, none⟩ = some (.int .i64 tk.pos)) (by kernel_rfl) (ST _ HB3.drw HD3.drw) (fun hHeld => ?_)
  refine wpAnyI_take (i := 0) (oi := { dst := some 23, op := Go.Op.move (Go.Operand.tmp 1), type := 102, pos := "decl.go:30", after := #[], guard := none }) (v := ?_) [8] rfl (by kernel_rfl) (by kernel_rfl) (by kernel_rfl) (by kernel_rfl) (fun _ _ _ h => h) (Or.inl ⟨by rfl, ?_⟩) (by assumption) ?_
  rotate_left
  · (intro w hSw; (try dsimp only at hSw); go_simp; (try with_reducible rfl))
  (try simp only [Act.put, List.setIfInBounds_toArray, List.set_cons_zero, List.set_cons_succ])
  refine wpAnyI_take (i := 1) (oi := { dst := some 24, op := Go.Op.move (Go.Operand.tmp 1), type := 102, pos := "decl.go:30", after := #[], guard := none }) (v := ?_) [8] rfl (by kernel_rfl) (by kernel_rfl) (by kernel_rfl) (by kernel_rfl) (fun _ _ _ h => h) (Or.inl ⟨by rfl, ?_⟩) (by assumption) ?_
  rotate_left
  · (intro w hSw; (try dsimp only at hSw); go_simp; (try with_reducible rfl))
  (try simp only [Act.put, List.setIfInBounds_toArray, List.set_cons_zero, List.set_cons_succ])
  refine wpAnyI_take (i := 2) (oi := { dst := some 25, op := Go.Op.nilCheck (Go.Operand.tmp 24), type := 0, pos := "decl.go:30", after := #[{ on := 1, ground := Go.Ground.data }], guard := none }) (v := ?_) [8] rfl (by kernel_rfl) (by kernel_rfl) (by kernel_rfl) (by kernel_rfl) (fun _ _ _ h => h) (Or.inl ⟨by rfl, ?_⟩) (by assumption) ?_
  rotate_left
  · (intro w hSw; (try dsimp only at hSw); go_simp; (try with_reducible rfl))
  (try simp only [Act.put, List.setIfInBounds_toArray, List.set_cons_zero, List.set_cons_succ])
  refine wpAnyI_take (i := 3) (oi := { dst := some 26, op := Go.Op.load 23 (Go.Operand.tmp 25), type := 23, pos := "decl.go:30", after := #[{ on := 2, ground := Go.Ground.data }], guard := none }) (v := ?_) [8] rfl (by kernel_rfl) (by kernel_rfl) (by kernel_rfl) (by kernel_rfl) (fun _ _ _ h => h) (Or.inl ⟨by rfl, ?_⟩) (by assumption) ?_
  rotate_left
  · (intro w hSw; (try dsimp only at hSw); go_simp; (try with_reducible rfl))
  (try simp only [Act.put, List.setIfInBounds_toArray, List.set_cons_zero, List.set_cons_succ])
  refine wpAnyI_take (i := 4) (oi := { dst := some 27, op := Go.Op.load 51 (Go.Operand.tmp 7), type := 51, pos := "decl.go:30", after := #[], guard := none }) (v := ?_) [8] rfl (by kernel_rfl) (by kernel_rfl) (by kernel_rfl) (by kernel_rfl) (fun _ _ _ h => h) (Or.inl ⟨by rfl, ?_⟩) (by assumption) ?_
  rotate_left
  · (intro w hSw; (try dsimp only at hSw); go_simp; (try with_reducible rfl))
  (try simp only [Act.put, List.setIfInBounds_toArray, List.set_cons_zero, List.set_cons_succ])
  refine wpAnyI_one (i := 5) (o := { dst := some 28, op := Go.Op.buildSlice 23 1 #[(0, Go.Operand.tmp 27)], type := 23, pos := "decl.go:30", after := #[{ on := 4, ground := Go.Ground.data }], guard := none }) (by kernel_rfl) rfl (fun K hK => ?_)
  go_simp
  refine hK.out _ _ (ST _ (HB3.drw.alloc _) (HD3.drw.alloc _)) (fun hHeldN => ?_)
  clear hK K hHeld; have hHeld := hHeldN; clear hHeldN; (try simp only [Act.put, List.setIfInBounds_toArray, List.set_cons_zero, List.set_cons_succ])
  have HA2 : ∀ o, (w3.drew.alloc o).heap.size = w3.heap.size + 1 := fun o => World.size_alloc _ _
  obtain ⟨rows2, HU1, HU2⟩ := LD.one (w := w3.drew) (B := fun g => w.heap.size ≤ g ∧ g < w3.heap.size + 1) (RDc.mv HE3.out (w' := w3.drew) (B := fun g => w.heap.size ≤ g ∧ g < w2.heap.size) (fun g hg => rfl) (fun g h => h)) (by rintro g ⟨q1, q2⟩; omega) (by rintro g ⟨q1, q2⟩; exact ⟨q1, by omega⟩) ⟨by omega, by omega⟩
  have HLa : Lst 51 7 LD (w3.drew.alloc (.cells #[.string (bs d.name), .slice pa pn pc, .string (bs d.key), .string (bs d.value), .string (bs d.result), .slice ba bn bc, .int .i64 tk.pos] 51)) A (.slice a l.length c) l := HL3.out.mv LD_mv (Same.alloc (fun g hg => rfl) (by intro g hg; have := (HAA.out g hg).2.1; omega)) (fun g h => h)
  have HO : ∀ g, (Value.slice a l.length c).ownBlock = some g → A g := by obtain ⟨rows, ⟨_, q⟩, _⟩ := HLa; exact q
  obtain ⟨v5, w5, HRUN, HV5, HR5, _⟩ := run_appN LD_mv LD_row under23 infoD rfl (by decide) (by decide) _ 23 A (fun g => w.heap.size ≤ g ∧ g < w3.heap.size + 1) (fun g => A g ∨ (w.heap.size ≤ g ∧ g < w3.heap.size + 1)) _ _ l [d.setAt tk.pos] HLa ⟨rows2, HU1, HU2⟩ (by intro g hg; rw [HA2]; have := (HAA.out g hg).2.1; omega) (by rintro g ⟨q1, q2⟩; rw [HA2]; exact q2) (by rintro g ⟨q1, q2⟩ e; have := (HAA.out g (HO g e)).2.1; omega) (fun g h => .inl h) (fun g h => .inr h) (by omega) (by simp)
  obtain ⟨a5, c5, rfl⟩ := HV5.form
  have hz5 := HR5.size
  rw [HA2] at hz5
  have HV5 := hid HV5
  have HB5 := (HB3.drw.alloc (.cells #[.string (bs d.name), .slice pa pn pc, .string (bs d.key), .string (bs d.value), .string (bs d.result), .slice ba bn bc, .int .i64 tk.pos] 51)).row HR5 (fun e => (HAA.out _ (HO _ e)).2.2 rfl)
  have HD5 := (HD3.drw.alloc (.cells #[.string (bs d.name), .slice pa pn pc, .string (bs d.key), .string (bs d.value), .string (bs d.result), .slice ba bn bc, .int .i64 tk.pos] 51)).row HR5 (fun e => by have := (HAA.out _ (HO _ e)).2.1; omega)
  have HP5 := (HP3.drw.alloc (.cells #[.string (bs d.name), .slice pa pn pc, .string (bs d.key), .string (bs d.value), .string (bs d.result), .slice ba bn bc, .int .i64 tk.pos] 51)).grown HR5 (fun g e => (HAA.out _ (HO _ e)).1)
  have HG4 := grown_alloc (grown_drew HG3) (.cells #[.string (bs d.name), .slice pa pn pc, .string (bs d.key), .string (bs d.value), .string (bs d.result), .slice ba bn bc, .int .i64 tk.pos] 51)
  have hKp : ∀ g, g < w.heap.size → g ≠ P → ¬ A g → w5.heap[g]? = w.heap[g]? := fun g q1 q2 q3 => (HR5.block g (by rw [HA2]; omega) (fun e => q3 (HO g e.symm))).trans (HG4.block g q1 (fun e => q2 (Option.some.inj e)))
  have hos := HR5.os.trans HG4.os
  have hta := HR5.tape.trans HG4.tape
  have hou := HR5.output.trans HG4.output
  clear HR5 HLa HU1 HU2 HG4
  refine wpAnyI_one (i := 6) (o := { dst := some 29, op := Go.Op.call { callee := Go.Callee.builtin Go.Builtin.append, args := #[Go.Operand.tmp 26, Go.Operand.tmp 28], argTypes := #[23, 23] }, type := 23, pos := "decl.go:30", after := #[{ on := 3, ground := Go.Ground.data }, { on := 5, ground := Go.Ground.data }], guard := none }) (by kernel_rfl) rfl (fun K hK => ?_)
  refine app_step (by rfl) rfl rfl rfl rfl HRUN ?_
  refine hK.out _ _ (ST _ HB5 HD5) (fun hHeldN => ?_)
  clear hK K hHeld; have hHeld := hHeldN; clear hHeldN; (try simp only [Act.put, List.setIfInBounds_toArray, List.set_cons_zero, List.set_cons_succ])
  refine wpAnyI_one (i := 7) (o := { dst := some 30, op := Go.Op.nilCheck (Go.Operand.tmp 23), type := 0, pos := "decl.go:30", after := #[{ on := 0, ground := Go.Ground.data }, { on := 0, ground := Go.Ground.phase }, { on := 1, ground := Go.Ground.phase }, { on := 2, ground := Go.Ground.phase }, { on := 3, ground := Go.Ground.phase }, { on := 4, ground := Go.Ground.phase }, { on := 5, ground := Go.Ground.phase }, { on := 6, ground := Go.Ground.phase }], guard := none }) (by kernel_rfl) rfl (fun K hK => ?_)
  go_simp
  refine hK.out _ _ (ST _ HB5 HD5) (fun hHeldN => ?_)
  clear hK K hHeld; have hHeld := hHeldN; clear hHeldN; (try simp only [Act.put, List.setIfInBounds_toArray, List.set_cons_zero, List.set_cons_succ])
  have yf : w5.frozen? ⟨T, j, none⟩ = false := freeOf HB5 j
  have jt : w5.cell? ⟨T, j, none⟩ = some (.slice a l.length c) := HB5.cell hjj.out
  refine wpAnyI_last (o := { dst := none, op := Go.Op.store 23 (Go.Operand.tmp 30) (Go.Operand.tmp 29), type := 0, pos := "decl.go:30", after := #[{ on := 7, ground := Go.Ground.data }, { on := 6, ground := Go.Ground.data }, { on := 6, ground := Go.Ground.chain }, { on := 0, ground := Go.Ground.phase }, { on := 1, ground := Go.Ground.phase }, { on := 2, ground := Go.Ground.phase }, { on := 3, ground := Go.Ground.phase }, { on := 4, ground := Go.Ground.phase }, { on := 5, ground := Go.Ground.phase }, { on := 6, ground := Go.Ground.phase }], guard := none }) (by kernel_rfl) rfl (by kernel_rfl) (fun K hK => ?_)
  go_simp
  refine hK.out _ _ ?_
  clear hK K hHeld
  (try simp only [Act.put, List.setIfInBounds_toArray, List.set_cons_zero, List.set_cons_succ])
  go_wp2
  have hnT : ¬ ((A T ∨ (w.heap.size ≤ T ∧ T < w3.heap.size + 1)) ∨ ((w3.drew.alloc (.cells #[.string (bs d.name), .slice pa pn pc, .string (bs d.key), .string (bs d.value), .string (bs d.result), .slice ba bn bc, .int .i64 tk.pos] 51)).heap.size ≤ T ∧ T < w5.heap.size)) := by
    rw [HA2]
    rintro ((q | ⟨q1, q2⟩) | ⟨q1, q2⟩)
    · exact (HAA.out _ q).2.2 rfl
    · omega
    · omega
  go_end0
  have HZ : declare l rest s = .ok (l ++ [d.setAt tk.pos], s2) := H.out.trans rfl
  rw [← show (l ++ [d.setAt tk.pos]).length = l.length + 1 by simp]
  rw [HZ]
  have hB6 := HB5.put (v := .slice a5 (l ++ [d.setAt tk.pos]).length c5) j
  refine ⟨rfl, HP5.set hTD, a5, c5, hB6, HV5.out.mv LD_mv (Same.set (Same.refl _ _) hnT) ?_, ?_, hos, hta, hou, ?_⟩
  · rintro g ((q | ⟨q1, q2⟩) | ⟨q1, q2⟩)
    · exact .inl q
    · exact .inr ⟨q1, by rw [World.size_setCell]; omega⟩
    · rw [HA2] at q1; exact .inr ⟨by omega, by rw [World.size_setCell]; omega⟩
  · rw [World.size_setCell]; omega
  · intro g q1 q2 q3 q4
    exact (Below.heap_setCell _ ⟨T, j, none⟩ _ _ (show g ≠ T from q3)).trans (hKp g q1 q2 q4)
set_option maxHeartbeats 4000000 in
theorem declare_any48 (w : World) (P D T j : Nat) (s : PS) (l : List PDc) (rest : Pr PDc) (a : Option Addr) (c : Nat) (cs : Array Value) (A : Nat → Prop) (HP : Pst w P D s) (HB : Box T cs 25 w) (hj : cs[j]? = some (.slice a l.length c)) (hTD : D ≤ T) (HL : Lst 51 7 LD w A (.slice a l.length c) l) (hA : ∀ g, A g → D ≤ g ∧ g < w.heap.size ∧ g ≠ T) (hl : l.length ≤ 10000) (HK : (nxt s).kind ≠ 0) (J : ∀ (V : World) (t : PS), Pst V P D t → Fed (rest t) → Calls Tryz.prog 46 #[.pointer (some ⟨P, 0, none⟩)] V (Rt RDc P D V (rest t))) (HF : Fed (declare l rest s)) : Calls Tryz.prog 43 #[.pointer (some ⟨P, 0, none⟩), .pointer (some ⟨T, j, none⟩), .func (.func 46) #[.pointer (some ⟨P, 0, none⟩)] #[]] w (DcQ w P D T j cs A (declare l rest s)) := by
  have HG := World.grownBy.refl w (some P)
  have hPw := HP.lt
  have hD := HP.dw
  have hPD := HP.pd
  have t0 := True.intro
  have hb16 : decide (l.length = 16) = ((l.length : Int) == 16) := by rw [Bool.eq_iff_iff]; simp; omega
  have H := hid (show declare l rest s = (bd take fun w => bd rest fun d => ret (l ++ [d.setAt w.pos])) { s with sur := ((l.length : Int) == 16) } by rw [← hb16]; rfl)
  have HF := hid HF
  have J := hid J
  obtain ⟨g', off, nt, ct, hP', hg', c0, c1, c2, f0, f1, f2, hn', n0, n1, nct, u0, u1, u2⟩ := HP.open
  have HP := HP.sur ((l.length : Int) == 16)
  have HK : (nxt { s with sur := ((l.length : Int) == 16) }).kind ≠ 0 := HK
  have hTl := HB.lt
  have hTP : ¬ T = P := by omega
  have hLc : w.cell? ⟨T, j, none⟩ = some (.slice a l.length c) := HB.cell hj
  have hlI : (l.length : Int) ≤ 10000 := by omega
  have HLL := hid HL
  have HBB := hid HB
  have HAA := hid hA
  have hjj := hid hj
  clear hn' HL HB hA hb16 hj
  go_enter Tryz.func43, Tryz.ntmps43
  go_wp2_with (first
    | (have hno := t1; (go_at_call 46; (refine (J.out _ _ (Pst.to HP (by intro HP; with_reducible repeat first | exact HP | apply pA | refine pS (by omega) ?_)) (fun h => HF.out (H.out.trans (bd_err h)))).mono ?_; intro e w2 hrt; rcases hrt.cases with ⟨f, hx, rfl, hg⟩ | ⟨d, s2, v, hx, rfl, hv, hs, hg⟩; (focus (exact ⟨rfl, DcQ.err (H.out.trans (bd_err hx)) (gtrans (Gw.to HG (by intro HG; with_reducible repeat first | exact HG | apply gA | apply gB | refine gS (by omega) ?_)) hg)⟩)); (obtain ⟨pa, pn, pc, ba, bn, bc, db, rfl, hN, hX, hA⟩ := hv.parts; have hE := hv); have H := hid (H.out.trans (bd_ok hx)); obtain ⟨hcw2, hfw2⟩ := gcell hg; have hzw2 := hg.size; (try simp only [szA, szS] at hzw2); have hPw2 := hs.lt; have hleww2 := le1 w w2 (by omega); (try have hltww2 := lt1 w w2 (by omega)); have hlew1w2 := le1 w1 w2 (by omega); (try have hltw1w2 := lt1 w1 w2 (by omega)); have HG := gtrans (Gw.to HG (by intro HG; with_reducible repeat first | exact HG | apply gA | apply gB | refine gS (by omega) ?_)) hg; have HP := hs; have hGw2 := hg; have t2 := True.intro; (try clear hg hs))))
    | (have hno := t0; (go_at_call 75; (refine (take_any _ _ D _ (Pst.to HP (by intro HP; with_reducible repeat first | exact HP | apply pA | refine pS (by omega) ?_)) HK).mono ?_; intro e w1 hrt; rcases hrt.cases with ⟨f, hx, rfl, hg⟩ | ⟨tk, s1, v, hx, rfl, hv, hs, hg⟩; (focus (exact ⟨rfl, DcQ.err (H.out.trans (bd_err hx)) (gtrans (Gw.to HG (by intro HG; with_reducible repeat first | exact HG | apply gA | apply gB | refine gS (by omega) ?_)) hg)⟩)); (have hv2 : v = tokV tk := hv; subst hv2; unfold tokV); have H := hid (H.out.trans (bd_ok hx)); obtain ⟨hcw1, hfw1⟩ := gcell hg; have hzw1 := hg.size; (try simp only [szA, szS] at hzw1); have hPw1 := hs.lt; have hleww1 := le1 w w1 (by omega); (try have hltww1 := lt1 w w1 (by omega)); have HG := gtrans (Gw.to HG (by intro HG; with_reducible repeat first | exact HG | apply gA | apply gB | refine gS (by omega) ?_)) hg; have HP := hs; have hGw1 := hg; have t1 := True.intro; (try clear hg hs))))
    )
  have hTP2 : ¬ P = T := by omega
  have HG3 : w.grownBy (w2.alloc (.cells #[.string (bs d.name), .slice pa pn pc, .string (bs d.key), .string (bs d.value), .string (bs d.result), .slice ba bn bc, .int .i64 tk.pos] 51)) (some P) := (Gw.to HG (by intro HG; with_reducible repeat first | exact HG | apply gA | apply gB | refine gS (by omega) ?_))
  have HP3 : Pst (w2.alloc (.cells #[.string (bs d.name), .slice pa pn pc, .string (bs d.key), .string (bs d.value), .string (bs d.result), .slice ba bn bc, .int .i64 tk.pos] 51)) P D s2 := (Pst.to HP (by intro HP; with_reducible repeat first | exact HP | apply pA | refine pS (by omega) ?_))
  have HB3 : Box T cs 25 (w2.alloc (.cells #[.string (bs d.name), .slice pa pn pc, .string (bs d.key), .string (bs d.value), .string (bs d.result), .slice ba bn bc, .int .i64 tk.pos] 51)) := (Box.call (Box.alloc (Box.call (Box.set HBB.out hTP) hGw1 hTP) _) hGw2 hTP).alloc _
  have HD3 := Box.new w2 #[.string (bs d.name), .slice pa pn pc, .string (bs d.key), .string (bs d.value), .string (bs d.result), .slice ba bn bc, .int .i64 tk.pos] 51
  have HL3 : Lst 51 7 LD (w2.alloc (.cells #[.string (bs d.name), .slice pa pn pc, .string (bs d.key), .string (bs d.value), .string (bs d.result), .slice ba bn bc, .int .i64 tk.pos] 51)) A (.slice a l.length c) l := HLL.out.mv LD_mv (fun g hg => HG3.block g (HAA.out g hg).2.1 (fun e => by have := Option.some.inj e; have := (HAA.out g hg).1; omega)) (fun g hg => hg)
  have HE3 : RDc (w2.alloc (.cells #[.string (bs d.name), .slice pa pn pc, .string (bs d.key), .string (bs d.value), .string (bs d.result), .slice ba bn bc, .int .i64 tk.pos] 51)) (fun g => w.heap.size ≤ g ∧ g < w2.heap.size) (.agg #[.string (bs d.name), .slice pa pn pc, .string (bs d.key), .string (bs d.value), .string (bs d.result), .slice ba bn bc, .int .i64 tk.pos]) (d.setAt tk.pos) := by
    have q := RDc.mv hE (Same.alloc (o := .cells #[.string (bs d.name), .slice pa pn pc, .string (bs d.key), .string (bs d.value), .string (bs d.result), .slice ba bn bc, .int .i64 tk.pos] 51) (Same.refl _ _) (by rintro g ⟨q1, q2⟩; exact q2)) (B := fun g => w.heap.size ≤ g ∧ g < w2.heap.size) (by rintro g ⟨q1, q2⟩; simp only [World.size_alloc] at q1; exact ⟨by omega, q2⟩)
    obtain ⟨pv, bv, b, q1, q2, q3, q4⟩ := q
    cases q1
    exact ⟨_, _, b, rfl, q2, q3, q4⟩
  have hz3 : (w2.alloc (.cells #[.string (bs d.name), .slice pa pn pc, .string (bs d.key), .string (bs d.value), .string (bs d.result), .slice ba bn bc, .int .i64 tk.pos] 51)).heap.size = w2.heap.size + 1 := World.size_alloc _ _
  generalize (w2.alloc (.cells #[.string (bs d.name), .slice pa pn pc, .string (bs d.key), .string (bs d.value), .string (bs d.result), .slice ba bn bc, .int .i64 tk.pos] 51)) = w3 at HG3 HP3 HB3 HD3 HL3 HE3 hz3 ⊢
  have hww2 : w.heap.size ≤ w2.heap.size := by omega
  have hl23 : w2.heap.size < w3.heap.size := by omega
  clear hz3
  have HL3 := hid HL3
  have HE3 := hid HE3
  have hzd : w3.drew.heap.size = w3.heap.size := rfl
  clear hE hN hX hA hcw1 hcw2 hfw1 hfw2 HP HG hGw1 hGw2
  have ST : ∀ v : World, Box T cs 25 v → Box w2.heap.size #[.string (bs d.name), .slice pa pn pc, .string (bs d.key), .string (bs d.value), .string (bs d.result), .slice ba bn bc, .int .i64 tk.pos] 51 v → v.cell? ⟨T, j, none⟩ = some (.slice a l.length c) ∧ v.cell? ⟨w2.heap.size, 0, none⟩ = some (.string (bs d.name)) ∧ v.cell? ⟨w2.heap.size, 1, none⟩ = some (.slice pa pn pc) ∧ v.cell? ⟨w2.heap.size, 2, none⟩ = some (.string (bs d.key)) ∧ v.cell? ⟨w2.heap.size, 3, none⟩ = some (.string (bs d.value)) ∧ v.cell? ⟨w2.heap.size, 4, none⟩ = some (.string (bs d.result)) ∧ v.cell? ⟨w2.heap.size, 5, none⟩ = some (.slice ba bn bc) ∧ v.cell? ⟨w2.heap.size, 6, none⟩ = some (.int .i64 tk.pos) := fun v hv hd => ⟨hv.cell hjj.out, hd.cell rfl, hd.cell rfl, hd.cell rfl, hd.cell rfl, hd.cell rfl, hd.cell rfl, hd.cell rfl⟩
  refine wp_region_I 8 (fun v : World => v.cell? ⟨T, j, none⟩ = some (.slice a l.length c) ∧ v.cell? ⟨w2.heap.size, 0, none⟩ = some (.string (bs d.name)) ∧ v.cell? ⟨w2.heap.size, 1, none⟩ = some (.slice pa pn pc) ∧ v.cell? ⟨w2.heap.size, 2, none⟩ = some (.string (bs d.key)) ∧ v.cell? ⟨w2.heap.size, 3, none⟩ = some (.string (bs d.value)) ∧ v.cell? ⟨w2.heap.size, 4, none⟩ = some (.string (bs d.result)) ∧ v.cell? ⟨w2.heap.size, 5, none⟩ = some (.slice ba bn bc) ∧ v.cell? ⟨w2.heap.size, 6, none⟩ = some (.int .i64 tk.pos)) (by kernel_rfl) (ST _ HB3.drw HD3.drw) (fun hHeld => ?_)
  refine wpAnyI_take (i := 0) (oi := { dst := some 23, op := Go.Op.move (Go.Operand.tmp 1), type := 102, pos := "decl.go:30", after := #[], guard := none }) (v := ?_) [8] rfl (by kernel_rfl) (by kernel_rfl) (by kernel_rfl) (by kernel_rfl) (fun _ _ _ h => h) (Or.inl ⟨by rfl, ?_⟩) (by assumption) ?_
  rotate_left
  · (intro w hSw; (try dsimp only at hSw); go_simp; (try with_reducible rfl))
  (try simp only [Act.put, List.setIfInBounds_toArray, List.set_cons_zero, List.set_cons_succ])
  refine wpAnyI_take (i := 1) (oi := { dst := some 24, op := Go.Op.move (Go.Operand.tmp 1), type := 102, pos := "decl.go:30", after := #[], guard := none }) (v := ?_) [8] rfl (by kernel_rfl) (by kernel_rfl) (by kernel_rfl) (by kernel_rfl) (fun _ _ _ h => h) (Or.inl ⟨by rfl, ?_⟩) (by assumption) ?_
  rotate_left
  · (intro w hSw; (try dsimp only at hSw); go_simp; (try with_reducible rfl))
  (try simp only [Act.put, List.setIfInBounds_toArray, List.set_cons_zero, List.set_cons_succ])
  refine wpAnyI_take (i := 2) (oi := { dst := some 25, op := Go.Op.nilCheck (Go.Operand.tmp 24), type := 0, pos := "decl.go:30", after := #[{ on := 1, ground := Go.Ground.data }], guard := none }) (v := ?_) [8] rfl (by kernel_rfl) (by kernel_rfl) (by kernel_rfl) (by kernel_rfl) (fun _ _ _ h => h) (Or.inl ⟨by rfl, ?_⟩) (by assumption) ?_
  rotate_left
  · (intro w hSw; (try dsimp only at hSw); go_simp; (try with_reducible rfl))
  (try simp only [Act.put, List.setIfInBounds_toArray, List.set_cons_zero, List.set_cons_succ])
  refine wpAnyI_take (i := 3) (oi := { dst := some 26, op := Go.Op.load 23 (Go.Operand.tmp 25), type := 23, pos := "decl.go:30", after := #[{ on := 2, ground := Go.Ground.data }], guard := none }) (v := ?_) [8] rfl (by kernel_rfl) (by kernel_rfl) (by kernel_rfl) (by kernel_rfl) (fun _ _ _ h => h) (Or.inl ⟨by rfl, ?_⟩) (by assumption) ?_
  rotate_left
  · (intro w hSw; (try dsimp only at hSw); go_simp; (try with_reducible rfl))
  (try simp only [Act.put, List.setIfInBounds_toArray, List.set_cons_zero, List.set_cons_succ])
  refine wpAnyI_take (i := 4) (oi := { dst := some 27, op := Go.Op.load 51 (Go.Operand.tmp 7), type := 51, pos := "decl.go:30", after := #[], guard := none }) (v := ?_) [8] rfl (by kernel_rfl) (by kernel_rfl) (by kernel_rfl) (by kernel_rfl) (fun _ _ _ h => h) (Or.inl ⟨by rfl, ?_⟩) (by assumption) ?_
  rotate_left
  · (intro w hSw; (try dsimp only at hSw); go_simp; (try with_reducible rfl))
  (try simp only [Act.put, List.setIfInBounds_toArray, List.set_cons_zero, List.set_cons_succ])
  refine wpAnyI_one (i := 5) (o := { dst := some 28, op := Go.Op.buildSlice 23 1 #[(0, Go.Operand.tmp 27)], type := 23, pos := "decl.go:30", after := #[{ on := 4, ground := Go.Ground.data }], guard := none }) (by kernel_rfl) rfl (fun K hK => ?_)
  go_simp
  refine hK.out _ _ (ST _ (HB3.drw.alloc _) (HD3.drw.alloc _)) (fun hHeldN => ?_)
  clear hK K hHeld; have hHeld := hHeldN; clear hHeldN; (try simp only [Act.put, List.setIfInBounds_toArray, List.set_cons_zero, List.set_cons_succ])
  have HA2 : ∀ o, (w3.drew.alloc o).heap.size = w3.heap.size + 1 := fun o => World.size_alloc _ _
  obtain ⟨rows2, HU1, HU2⟩ := LD.one (w := w3.drew) (B := fun g => w.heap.size ≤ g ∧ g < w3.heap.size + 1) (RDc.mv HE3.out (w' := w3.drew) (B := fun g => w.heap.size ≤ g ∧ g < w2.heap.size) (fun g hg => rfl) (fun g h => h)) (by rintro g ⟨q1, q2⟩; omega) (by rintro g ⟨q1, q2⟩; exact ⟨q1, by omega⟩) ⟨by omega, by omega⟩
  have HLa : Lst 51 7 LD (w3.drew.alloc (.cells #[.string (bs d.name), .slice pa pn pc, .string (bs d.key), .string (bs d.value), .string (bs d.result), .slice ba bn bc, .int .i64 tk.pos] 51)) A (.slice a l.length c) l := HL3.out.mv LD_mv (Same.alloc (fun g hg => rfl) (by intro g hg; have := (HAA.out g hg).2.1; omega)) (fun g h => h)
  have HO : ∀ g, (Value.slice a l.length c).ownBlock = some g → A g := by obtain ⟨rows, ⟨_, q⟩, _⟩ := HLa; exact q
  obtain ⟨v5, w5, HRUN, HV5, HR5, _⟩ := run_appN LD_mv LD_row under23 infoD rfl (by decide) (by decide) _ 23 A (fun g => w.heap.size ≤ g ∧ g < w3.heap.size + 1) (fun g => A g ∨ (w.heap.size ≤ g ∧ g < w3.heap.size + 1)) _ _ l [d.setAt tk.pos] HLa ⟨rows2, HU1, HU2⟩ (by intro g hg; rw [HA2]; have := (HAA.out g hg).2.1; omega) (by rintro g ⟨q1, q2⟩; rw [HA2]; exact q2) (by rintro g ⟨q1, q2⟩ e; have := (HAA.out g (HO g e)).2.1; omega) (fun g h => .inl h) (fun g h => .inr h) (by omega) (by simp)
  obtain ⟨a5, c5, rfl⟩ := HV5.form
  have hz5 := HR5.size
  rw [HA2] at hz5
  have HV5 := hid HV5
  have HB5 := (HB3.drw.alloc (.cells #[.string (bs d.name), .slice pa pn pc, .string (bs d.key), .string (bs d.value), .string (bs d.result), .slice ba bn bc, .int .i64 tk.pos] 51)).row HR5 (fun e => (HAA.out _ (HO _ e)).2.2 rfl)
  have HD5 := (HD3.drw.alloc (.cells #[.string (bs d.name), .slice pa pn pc, .string (bs d.key), .string (bs d.value), .string (bs d.result), .slice ba bn bc, .int .i64 tk.pos] 51)).row HR5 (fun e => by have := (HAA.out _ (HO _ e)).2.1; omega)
  have HP5 := (HP3.drw.alloc (.cells #[.string (bs d.name), .slice pa pn pc, .string (bs d.key), .string (bs d.value), .string (bs d.result), .slice ba bn bc, .int .i64 tk.pos] 51)).grown HR5 (fun g e => (HAA.out _ (HO _ e)).1)
  have HG4 := grown_alloc (grown_drew HG3) (.cells #[.string (bs d.name), .slice pa pn pc, .string (bs d.key), .string (bs d.value), .string (bs d.result), .slice ba bn bc, .int .i64 tk.pos] 51)
  have hKp : ∀ g, g < w.heap.size → g ≠ P → ¬ A g → w5.heap[g]? = w.heap[g]? := fun g q1 q2 q3 => (HR5.block g (by rw [HA2]; omega) (fun e => q3 (HO g e.symm))).trans (HG4.block g q1 (fun e => q2 (Option.some.inj e)))
  have hos := HR5.os.trans HG4.os
  have hta := HR5.tape.trans HG4.tape
  have hou := HR5.output.trans HG4.output
  clear HR5 HLa HU1 HU2 HG4
  refine wpAnyI_one (i := 6) (o := { dst := some 29, op := Go.Op.call { callee := Go.Callee.builtin Go.Builtin.append, args := #[Go.Operand.tmp 26, Go.Operand.tmp 28], argTypes := #[23, 23] }, type := 23, pos := "decl.go:30", after := #[{ on := 3, ground := Go.Ground.data }, { on := 5, ground := Go.Ground.data }], guard := none }) (by kernel_rfl) rfl (fun K hK => ?_)
  refine app_step (by rfl) rfl rfl rfl rfl HRUN ?_
  refine hK.out _ _ (ST _ HB5 HD5) (fun hHeldN => ?_)
  clear hK K hHeld; have hHeld := hHeldN; clear hHeldN; (try simp only [Act.put, List.setIfInBounds_toArray, List.set_cons_zero, List.set_cons_succ])
  refine wpAnyI_one (i := 7) (o := { dst := some 30, op := Go.Op.nilCheck (Go.Operand.tmp 23), type := 0, pos := "decl.go:30", after := #[{ on := 0, ground := Go.Ground.data }, { on := 0, ground := Go.Ground.phase }, { on := 1, ground := Go.Ground.phase }, { on := 2, ground := Go.Ground.phase }, { on := 3, ground := Go.Ground.phase }, { on := 4, ground := Go.Ground.phase }, { on := 5, ground := Go.Ground.phase }, { on := 6, ground := Go.Ground.phase }], guard := none }) (by kernel_rfl) rfl (fun K hK => ?_)
  go_simp
  refine hK.out _ _ (ST _ HB5 HD5) (fun hHeldN => ?_)
  clear hK K hHeld; have hHeld := hHeldN; clear hHeldN; (try simp only [Act.put, List.setIfInBounds_toArray, List.set_cons_zero, List.set_cons_succ])
  have yf : w5.frozen? ⟨T, j, none⟩ = false := freeOf HB5 j
  have jt : w5.cell? ⟨T, j, none⟩ = some (.slice a l.length c) := HB5.cell hjj.out
  refine wpAnyI_last (o := { dst := none, op := Go.Op.store 23 (Go.Operand.tmp 30) (Go.Operand.tmp 29), type := 0, pos := "decl.go:30", after := #[{ on := 7, ground := Go.Ground.data }, { on := 6, ground := Go.Ground.data }, { on := 6, ground := Go.Ground.chain }, { on := 0, ground := Go.Ground.phase }, { on := 1, ground := Go.Ground.phase }, { on := 2, ground := Go.Ground.phase }, { on := 3, ground := Go.Ground.phase }, { on := 4, ground := Go.Ground.phase }, { on := 5, ground := Go.Ground.phase }, { on := 6, ground := Go.Ground.phase }], guard := none }) (by kernel_rfl) rfl (by kernel_rfl) (fun K hK => ?_)
  go_simp
  refine hK.out _ _ ?_
  clear hK K hHeld
  (try simp only [Act.put, List.setIfInBounds_toArray, List.set_cons_zero, List.set_cons_succ])
  go_wp2
  have hnT : ¬ ((A T ∨ (w.heap.size ≤ T ∧ T < w3.heap.size + 1)) ∨ ((w3.drew.alloc (.cells #[.string (bs d.name), .slice pa pn pc, .string (bs d.key), .string (bs d.value), .string (bs d.result), .slice ba bn bc, .int .i64 tk.pos] 51)).heap.size ≤ T ∧ T < w5.heap.size)) := by
    rw [HA2]
    rintro ((q | ⟨q1, q2⟩) | ⟨q1, q2⟩)
    · exact (HAA.out _ q).2.2 rfl
    · omega
    · omega
  go_end0
  have HZ : declare l rest s = .ok (l ++ [d.setAt tk.pos], s2) := H.out.trans rfl
  rw [← show (l ++ [d.setAt tk.pos]).length = l.length + 1 by simp]
  rw [HZ]
  have hB6 := HB5.put (v := .slice a5 (l ++ [d.setAt tk.pos]).length c5) j
  refine ⟨rfl, HP5.set hTD, a5, c5, hB6, HV5.out.mv LD_mv (Same.set (Same.refl _ _) hnT) ?_, ?_, hos, hta, hou, ?_⟩
  · rintro g ((q | ⟨q1, q2⟩) | ⟨q1, q2⟩)
    · exact .inl q
    · exact .inr ⟨q1, by rw [World.size_setCell]; omega⟩
    · rw [HA2] at q1; exact .inr ⟨by omega, by rw [World.size_setCell]; omega⟩
  · rw [World.size_setCell]; omega
  · intro g q1 q2 q3 q4
    exact (Below.heap_setCell _ ⟨T, j, none⟩ _ _ (show g ≠ T from q3)).trans (hKp g q1 q2 q4)
set_option maxHeartbeats 4000000 in
theorem declare_any49 (w : World) (P D T j : Nat) (s : PS) (l : List PDc) (rest : Pr PDc) (a : Option Addr) (c : Nat) (cs : Array Value) (A : Nat → Prop) (HP : Pst w P D s) (HB : Box T cs 25 w) (hj : cs[j]? = some (.slice a l.length c)) (hTD : D ≤ T) (HL : Lst 51 7 LD w A (.slice a l.length c) l) (hA : ∀ g, A g → D ≤ g ∧ g < w.heap.size ∧ g ≠ T) (hl : l.length ≤ 10000) (HK : (nxt s).kind ≠ 0) (J : ∀ (V : World) (t : PS), Pst V P D t → Fed (rest t) → Calls Tryz.prog 47 #[.pointer (some ⟨P, 0, none⟩)] V (Rt RDc P D V (rest t))) (HF : Fed (declare l rest s)) : Calls Tryz.prog 43 #[.pointer (some ⟨P, 0, none⟩), .pointer (some ⟨T, j, none⟩), .func (.func 47) #[.pointer (some ⟨P, 0, none⟩)] #[]] w (DcQ w P D T j cs A (declare l rest s)) := by
  have HG := World.grownBy.refl w (some P)
  have hPw := HP.lt
  have hD := HP.dw
  have hPD := HP.pd
  have t0 := True.intro
  have hb16 : decide (l.length = 16) = ((l.length : Int) == 16) := by rw [Bool.eq_iff_iff]; simp; omega
  have H := hid (show declare l rest s = (bd take fun w => bd rest fun d => ret (l ++ [d.setAt w.pos])) { s with sur := ((l.length : Int) == 16) } by rw [← hb16]; rfl)
  have HF := hid HF
  have J := hid J
  obtain ⟨g', off, nt, ct, hP', hg', c0, c1, c2, f0, f1, f2, hn', n0, n1, nct, u0, u1, u2⟩ := HP.open
  have HP := HP.sur ((l.length : Int) == 16)
  have HK : (nxt { s with sur := ((l.length : Int) == 16) }).kind ≠ 0 := HK
  have hTl := HB.lt
  have hTP : ¬ T = P := by omega
  have hLc : w.cell? ⟨T, j, none⟩ = some (.slice a l.length c) := HB.cell hj
  have hlI : (l.length : Int) ≤ 10000 := by omega
  have HLL := hid HL
  have HBB := hid HB
  have HAA := hid hA
  have hjj := hid hj
  clear hn' HL HB hA hb16 hj
  go_enter Tryz.func43, Tryz.ntmps43
  go_wp2_with (first
    | (have hno := t1; (go_at_call 47; (refine (J.out _ _ (Pst.to HP (by intro HP; with_reducible repeat first | exact HP | apply pA | refine pS (by omega) ?_)) (fun h => HF.out (H.out.trans (bd_err h)))).mono ?_; intro e w2 hrt; rcases hrt.cases with ⟨f, hx, rfl, hg⟩ | ⟨d, s2, v, hx, rfl, hv, hs, hg⟩; (focus (exact ⟨rfl, DcQ.err (H.out.trans (bd_err hx)) (gtrans (Gw.to HG (by intro HG; with_reducible repeat first | exact HG | apply gA | apply gB | refine gS (by omega) ?_)) hg)⟩)); (obtain ⟨pa, pn, pc, ba, bn, bc, db, rfl, hN, hX, hA⟩ := hv.parts; have hE := hv); have H := hid (H.out.trans (bd_ok hx)); obtain ⟨hcw2, hfw2⟩ := gcell hg; have hzw2 := hg.size; (try simp only [szA, szS] at hzw2); have hPw2 := hs.lt; have hleww2 := le1 w w2 (by omega); (try have hltww2 := lt1 w w2 (by omega)); have hlew1w2 := le1 w1 w2 (by omega); (try have hltw1w2 := lt1 w1 w2 (by omega)); have HG := gtrans (Gw.to HG (by intro HG; with_reducible repeat first | exact HG | apply gA | apply gB | refine gS (by omega) ?_)) hg; have HP := hs; have hGw2 := hg; have t2 := True.intro; (try clear hg hs))))
    | (have hno := t0; (go_at_call 75; (refine (take_any _ _ D _ (Pst.to HP (by intro HP; with_reducible repeat first | exact HP | apply pA | refine pS (by omega) ?_)) HK).mono ?_; intro e w1 hrt; rcases hrt.cases with ⟨f, hx, rfl, hg⟩ | ⟨tk, s1, v, hx, rfl, hv, hs, hg⟩; (focus (exact ⟨rfl, DcQ.err (H.out.trans (bd_err hx)) (gtrans (Gw.to HG (by intro HG; with_reducible repeat first | exact HG | apply gA | apply gB | refine gS (by omega) ?_)) hg)⟩)); (have hv2 : v = tokV tk := hv; subst hv2; unfold tokV); have H := hid (H.out.trans (bd_ok hx)); obtain ⟨hcw1, hfw1⟩ := gcell hg; have hzw1 := hg.size; (try simp only [szA, szS] at hzw1); have hPw1 := hs.lt; have hleww1 := le1 w w1 (by omega); (try have hltww1 := lt1 w w1 (by omega)); have HG := gtrans (Gw.to HG (by intro HG; with_reducible repeat first | exact HG | apply gA | apply gB | refine gS (by omega) ?_)) hg; have HP := hs; have hGw1 := hg; have t1 := True.intro; (try clear hg hs))))
    )
  have hTP2 : ¬ P = T := by omega
  have HG3 : w.grownBy (w2.alloc (.cells #[.string (bs d.name), .slice pa pn pc, .string (bs d.key), .string (bs d.value), .string (bs d.result), .slice ba bn bc, .int .i64 tk.pos] 51)) (some P) := (Gw.to HG (by intro HG; with_reducible repeat first | exact HG | apply gA | apply gB | refine gS (by omega) ?_))
  have HP3 : Pst (w2.alloc (.cells #[.string (bs d.name), .slice pa pn pc, .string (bs d.key), .string (bs d.value), .string (bs d.result), .slice ba bn bc, .int .i64 tk.pos] 51)) P D s2 := (Pst.to HP (by intro HP; with_reducible repeat first | exact HP | apply pA | refine pS (by omega) ?_))
  have HB3 : Box T cs 25 (w2.alloc (.cells #[.string (bs d.name), .slice pa pn pc, .string (bs d.key), .string (bs d.value), .string (bs d.result), .slice ba bn bc, .int .i64 tk.pos] 51)) := (Box.call (Box.alloc (Box.call (Box.set HBB.out hTP) hGw1 hTP) _) hGw2 hTP).alloc _
  have HD3 := Box.new w2 #[.string (bs d.name), .slice pa pn pc, .string (bs d.key), .string (bs d.value), .string (bs d.result), .slice ba bn bc, .int .i64 tk.pos] 51
  have HL3 : Lst 51 7 LD (w2.alloc (.cells #[.string (bs d.name), .slice pa pn pc, .string (bs d.key), .string (bs d.value), .string (bs d.result), .slice ba bn bc, .int .i64 tk.pos] 51)) A (.slice a l.length c) l := HLL.out.mv LD_mv (fun g hg => HG3.block g (HAA.out g hg).2.1 (fun e => by have := Option.some.inj e; have := (HAA.out g hg).1; omega)) (fun g hg => hg)
  have HE3 : RDc (w2.alloc (.cells #[.string (bs d.name), .slice pa pn pc, .string (bs d.key), .string (bs d.value), .string (bs d.result), .slice ba bn bc, .int .i64 tk.pos] 51)) (fun g => w.heap.size ≤ g ∧ g < w2.heap.size) (.agg #[.string (bs d.name), .slice pa pn pc, .string (bs d.key), .string (bs d.value), .string (bs d.result), .slice ba bn bc, .int .i64 tk.pos]) (d.setAt tk.pos) := by
    have q := RDc.mv hE (Same.alloc (o := .cells #[.string (bs d.name), .slice pa pn pc, .string (bs d.key), .string (bs d.value), .string (bs d.result), .slice ba bn bc, .int .i64 tk.pos] 51) (Same.refl _ _) (by rintro g ⟨q1, q2⟩; exact q2)) (B := fun g => w.heap.size ≤ g ∧ g < w2.heap.size) (by rintro g ⟨q1, q2⟩; simp only [World.size_alloc] at q1; exact ⟨by omega, q2⟩)
    obtain ⟨pv, bv, b, q1, q2, q3, q4⟩ := q
    cases q1
    exact ⟨_, _, b, rfl, q2, q3, q4⟩
  have hz3 : (w2.alloc (.cells #[.string (bs d.name), .slice pa pn pc, .string (bs d.key), .string (bs d.value), .string (bs d.result), .slice ba bn bc, .int .i64 tk.pos] 51)).heap.size = w2.heap.size + 1 := World.size_alloc _ _
  generalize (w2.alloc (.cells #[.string (bs d.name), .slice pa pn pc, .string (bs d.key), .string (bs d.value), .string (bs d.result), .slice ba bn bc, .int .i64 tk.pos] 51)) = w3 at HG3 HP3 HB3 HD3 HL3 HE3 hz3 ⊢
  have hww2 : w.heap.size ≤ w2.heap.size := by omega
  have hl23 : w2.heap.size < w3.heap.size := by omega
  clear hz3
  have HL3 := hid HL3
  have HE3 := hid HE3
  have hzd : w3.drew.heap.size = w3.heap.size := rfl
  clear hE hN hX hA hcw1 hcw2 hfw1 hfw2 HP HG hGw1 hGw2
  have ST : ∀ v : World, Box T cs 25 v → Box w2.heap.size #[.string (bs d.name), .slice pa pn pc, .string (bs d.key), .string (bs d.value), .string (bs d.result), .slice ba bn bc, .int .i64 tk.pos] 51 v → v.cell? ⟨T, j, none⟩ = some (.slice a l.length c) ∧ v.cell? ⟨w2.heap.size, 0, none⟩ = some (.string (bs d.name)) ∧ v.cell? ⟨w2.heap.size, 1, none⟩ = some (.slice pa pn pc) ∧ v.cell? ⟨w2.heap.size, 2, none⟩ = some (.string (bs d.key)) ∧ v.cell? ⟨w2.heap.size, 3, none⟩ = some (.string (bs d.value)) ∧ v.cell? ⟨w2.heap.size, 4, none⟩ = some (.string (bs d.result)) ∧ v.cell? ⟨w2.heap.size, 5, none⟩ = some (.slice ba bn bc) ∧ v.cell? ⟨w2.heap.size, 6, none⟩ = some (.int .i64 tk.pos) := fun v hv hd => ⟨hv.cell hjj.out, hd.cell rfl, hd.cell rfl, hd.cell rfl, hd.cell rfl, hd.cell rfl, hd.cell rfl, hd.cell rfl⟩
  refine wp_region_I 8 (fun v : World => v.cell? ⟨T, j, none⟩ = some (.slice a l.length c) ∧ v.cell? ⟨w2.heap.size, 0, none⟩ = some (.string (bs d.name)) ∧ v.cell? ⟨w2.heap.size, 1, none⟩ = some (.slice pa pn pc) ∧ v.cell? ⟨w2.heap.size, 2, none⟩ = some (.string (bs d.key)) ∧ v.cell? ⟨w2.heap.size, 3, none⟩ = some (.string (bs d.value)) ∧ v.cell? ⟨w2.heap.size, 4, none⟩ = some (.string (bs d.result)) ∧ v.cell? ⟨w2.heap.size, 5, none⟩ = some (.slice ba bn bc) ∧ v.cell? ⟨w2.heap.size, 6, none⟩ = some (.int .i64 tk.pos)) (by kernel_rfl) (ST _ HB3.drw HD3.drw) (fun hHeld => ?_)
  refine wpAnyI_take (i := 0) (oi := { dst := some 23, op := Go.Op.move (Go.Operand.tmp 1), type := 102, pos := "decl.go:30", after := #[], guard := none }) (v := ?_) [8] rfl (by kernel_rfl) (by kernel_rfl) (by kernel_rfl) (by kernel_rfl) (fun _ _ _ h => h) (Or.inl ⟨by rfl, ?_⟩) (by assumption) ?_
  rotate_left
  · (intro w hSw; (try dsimp only at hSw); go_simp; (try with_reducible rfl))
  (try simp only [Act.put, List.setIfInBounds_toArray, List.set_cons_zero, List.set_cons_succ])
  refine wpAnyI_take (i := 1) (oi := { dst := some 24, op := Go.Op.move (Go.Operand.tmp 1), type := 102, pos := "decl.go:30", after := #[], guard := none }) (v := ?_) [8] rfl (by kernel_rfl) (by kernel_rfl) (by kernel_rfl) (by kernel_rfl) (fun _ _ _ h => h) (Or.inl ⟨by rfl, ?_⟩) (by assumption) ?_
  rotate_left
  · (intro w hSw; (try dsimp only at hSw); go_simp; (try with_reducible rfl))
  (try simp only [Act.put, List.setIfInBounds_toArray, List.set_cons_zero, List.set_cons_succ])
  refine wpAnyI_take (i := 2) (oi := { dst := some 25, op := Go.Op.nilCheck (Go.Operand.tmp 24), type := 0, pos := "decl.go:30", after := #[{ on := 1, ground := Go.Ground.data }], guard := none }) (v := ?_) [8] rfl (by kernel_rfl) (by kernel_rfl) (by kernel_rfl) (by kernel_rfl) (fun _ _ _ h => h) (Or.inl ⟨by rfl, ?_⟩) (by assumption) ?_
  rotate_left
  · (intro w hSw; (try dsimp only at hSw); go_simp; (try with_reducible rfl))
  (try simp only [Act.put, List.setIfInBounds_toArray, List.set_cons_zero, List.set_cons_succ])
  refine wpAnyI_take (i := 3) (oi := { dst := some 26, op := Go.Op.load 23 (Go.Operand.tmp 25), type := 23, pos := "decl.go:30", after := #[{ on := 2, ground := Go.Ground.data }], guard := none }) (v := ?_) [8] rfl (by kernel_rfl) (by kernel_rfl) (by kernel_rfl) (by kernel_rfl) (fun _ _ _ h => h) (Or.inl ⟨by rfl, ?_⟩) (by assumption) ?_
  rotate_left
  · (intro w hSw; (try dsimp only at hSw); go_simp; (try with_reducible rfl))
  (try simp only [Act.put, List.setIfInBounds_toArray, List.set_cons_zero, List.set_cons_succ])
  refine wpAnyI_take (i := 4) (oi := { dst := some 27, op := Go.Op.load 51 (Go.Operand.tmp 7), type := 51, pos := "decl.go:30", after := #[], guard := none }) (v := ?_) [8] rfl (by kernel_rfl) (by kernel_rfl) (by kernel_rfl) (by kernel_rfl) (fun _ _ _ h => h) (Or.inl ⟨by rfl, ?_⟩) (by assumption) ?_
  rotate_left
  · (intro w hSw; (try dsimp only at hSw); go_simp; (try with_reducible rfl))
  (try simp only [Act.put, List.setIfInBounds_toArray, List.set_cons_zero, List.set_cons_succ])
  refine wpAnyI_one (i := 5) (o := { dst := some 28, op := Go.Op.buildSlice 23 1 #[(0, Go.Operand.tmp 27)], type := 23, pos := "decl.go:30", after := #[{ on := 4, ground := Go.Ground.data }], guard := none }) (by kernel_rfl) rfl (fun K hK => ?_)
  go_simp
  refine hK.out _ _ (ST _ (HB3.drw.alloc _) (HD3.drw.alloc _)) (fun hHeldN => ?_)
  clear hK K hHeld; have hHeld := hHeldN; clear hHeldN; (try simp only [Act.put, List.setIfInBounds_toArray, List.set_cons_zero, List.set_cons_succ])
  have HA2 : ∀ o, (w3.drew.alloc o).heap.size = w3.heap.size + 1 := fun o => World.size_alloc _ _
  obtain ⟨rows2, HU1, HU2⟩ := LD.one (w := w3.drew) (B := fun g => w.heap.size ≤ g ∧ g < w3.heap.size + 1) (RDc.mv HE3.out (w' := w3.drew) (B := fun g => w.heap.size ≤ g ∧ g < w2.heap.size) (fun g hg => rfl) (fun g h => h)) (by rintro g ⟨q1, q2⟩; omega) (by rintro g ⟨q1, q2⟩; exact ⟨q1, by omega⟩) ⟨by omega, by omega⟩
  have HLa : Lst 51 7 LD (w3.drew.alloc (.cells #[.string (bs d.name), .slice pa pn pc, .string (bs d.key), .string (bs d.value), .string (bs d.result), .slice ba bn bc, .int .i64 tk.pos] 51)) A (.slice a l.length c) l := HL3.out.mv LD_mv (Same.alloc (fun g hg => rfl) (by intro g hg; have := (HAA.out g hg).2.1; omega)) (fun g h => h)
  have HO : ∀ g, (Value.slice a l.length c).ownBlock = some g → A g := by obtain ⟨rows, ⟨_, q⟩, _⟩ := HLa; exact q
  obtain ⟨v5, w5, HRUN, HV5, HR5, _⟩ := run_appN LD_mv LD_row under23 infoD rfl (by decide) (by decide) _ 23 A (fun g => w.heap.size ≤ g ∧ g < w3.heap.size + 1) (fun g => A g ∨ (w.heap.size ≤ g ∧ g < w3.heap.size + 1)) _ _ l [d.setAt tk.pos] HLa ⟨rows2, HU1, HU2⟩ (by intro g hg; rw [HA2]; have := (HAA.out g hg).2.1; omega) (by rintro g ⟨q1, q2⟩; rw [HA2]; exact q2) (by rintro g ⟨q1, q2⟩ e; have := (HAA.out g (HO g e)).2.1; omega) (fun g h => .inl h) (fun g h => .inr h) (by omega) (by simp)
  obtain ⟨a5, c5, rfl⟩ := HV5.form
  have hz5 := HR5.size
  rw [HA2] at hz5
  have HV5 := hid HV5
  have HB5 := (HB3.drw.alloc (.cells #[.string (bs d.name), .slice pa pn pc, .string (bs d.key), .string (bs d.value), .string (bs d.result), .slice ba bn bc, .int .i64 tk.pos] 51)).row HR5 (fun e => (HAA.out _ (HO _ e)).2.2 rfl)
  have HD5 := (HD3.drw.alloc (.cells #[.string (bs d.name), .slice pa pn pc, .string (bs d.key), .string (bs d.value), .string (bs d.result), .slice ba bn bc, .int .i64 tk.pos] 51)).row HR5 (fun e => by have := (HAA.out _ (HO _ e)).2.1; omega)
  have HP5 := (HP3.drw.alloc (.cells #[.string (bs d.name), .slice pa pn pc, .string (bs d.key), .string (bs d.value), .string (bs d.result), .slice ba bn bc, .int .i64 tk.pos] 51)).grown HR5 (fun g e => (HAA.out _ (HO _ e)).1)
  have HG4 := grown_alloc (grown_drew HG3) (.cells #[.string (bs d.name), .slice pa pn pc, .string (bs d.key), .string (bs d.value), .string (bs d.result), .slice ba bn bc, .int .i64 tk.pos] 51)
  have hKp : ∀ g, g < w.heap.size → g ≠ P → ¬ A g → w5.heap[g]? = w.heap[g]? := fun g q1 q2 q3 => (HR5.block g (by rw [HA2]; omega) (fun e => q3 (HO g e.symm))).trans (HG4.block g q1 (fun e => q2 (Option.some.inj e)))
  have hos := HR5.os.trans HG4.os
  have hta := HR5.tape.trans HG4.tape
  have hou := HR5.output.trans HG4.output
  clear HR5 HLa HU1 HU2 HG4
  refine wpAnyI_one (i := 6) (o := { dst := some 29, op := Go.Op.call { callee := Go.Callee.builtin Go.Builtin.append, args := #[Go.Operand.tmp 26, Go.Operand.tmp 28], argTypes := #[23, 23] }, type := 23, pos := "decl.go:30", after := #[{ on := 3, ground := Go.Ground.data }, { on := 5, ground := Go.Ground.data }], guard := none }) (by kernel_rfl) rfl (fun K hK => ?_)
  refine app_step (by rfl) rfl rfl rfl rfl HRUN ?_
  refine hK.out _ _ (ST _ HB5 HD5) (fun hHeldN => ?_)
  clear hK K hHeld; have hHeld := hHeldN; clear hHeldN; (try simp only [Act.put, List.setIfInBounds_toArray, List.set_cons_zero, List.set_cons_succ])
  refine wpAnyI_one (i := 7) (o := { dst := some 30, op := Go.Op.nilCheck (Go.Operand.tmp 23), type := 0, pos := "decl.go:30", after := #[{ on := 0, ground := Go.Ground.data }, { on := 0, ground := Go.Ground.phase }, { on := 1, ground := Go.Ground.phase }, { on := 2, ground := Go.Ground.phase }, { on := 3, ground := Go.Ground.phase }, { on := 4, ground := Go.Ground.phase }, { on := 5, ground := Go.Ground.phase }, { on := 6, ground := Go.Ground.phase }], guard := none }) (by kernel_rfl) rfl (fun K hK => ?_)
  go_simp
  refine hK.out _ _ (ST _ HB5 HD5) (fun hHeldN => ?_)
  clear hK K hHeld; have hHeld := hHeldN; clear hHeldN; (try simp only [Act.put, List.setIfInBounds_toArray, List.set_cons_zero, List.set_cons_succ])
  have yf : w5.frozen? ⟨T, j, none⟩ = false := freeOf HB5 j
  have jt : w5.cell? ⟨T, j, none⟩ = some (.slice a l.length c) := HB5.cell hjj.out
  refine wpAnyI_last (o := { dst := none, op := Go.Op.store 23 (Go.Operand.tmp 30) (Go.Operand.tmp 29), type := 0, pos := "decl.go:30", after := #[{ on := 7, ground := Go.Ground.data }, { on := 6, ground := Go.Ground.data }, { on := 6, ground := Go.Ground.chain }, { on := 0, ground := Go.Ground.phase }, { on := 1, ground := Go.Ground.phase }, { on := 2, ground := Go.Ground.phase }, { on := 3, ground := Go.Ground.phase }, { on := 4, ground := Go.Ground.phase }, { on := 5, ground := Go.Ground.phase }, { on := 6, ground := Go.Ground.phase }], guard := none }) (by kernel_rfl) rfl (by kernel_rfl) (fun K hK => ?_)
  go_simp
  refine hK.out _ _ ?_
  clear hK K hHeld
  (try simp only [Act.put, List.setIfInBounds_toArray, List.set_cons_zero, List.set_cons_succ])
  go_wp2
  have hnT : ¬ ((A T ∨ (w.heap.size ≤ T ∧ T < w3.heap.size + 1)) ∨ ((w3.drew.alloc (.cells #[.string (bs d.name), .slice pa pn pc, .string (bs d.key), .string (bs d.value), .string (bs d.result), .slice ba bn bc, .int .i64 tk.pos] 51)).heap.size ≤ T ∧ T < w5.heap.size)) := by
    rw [HA2]
    rintro ((q | ⟨q1, q2⟩) | ⟨q1, q2⟩)
    · exact (HAA.out _ q).2.2 rfl
    · omega
    · omega
  go_end0
  have HZ : declare l rest s = .ok (l ++ [d.setAt tk.pos], s2) := H.out.trans rfl
  rw [← show (l ++ [d.setAt tk.pos]).length = l.length + 1 by simp]
  rw [HZ]
  have hB6 := HB5.put (v := .slice a5 (l ++ [d.setAt tk.pos]).length c5) j
  refine ⟨rfl, HP5.set hTD, a5, c5, hB6, HV5.out.mv LD_mv (Same.set (Same.refl _ _) hnT) ?_, ?_, hos, hta, hou, ?_⟩
  · rintro g ((q | ⟨q1, q2⟩) | ⟨q1, q2⟩)
    · exact .inl q
    · exact .inr ⟨q1, by rw [World.size_setCell]; omega⟩
    · rw [HA2] at q1; exact .inr ⟨by omega, by rw [World.size_setCell]; omega⟩
  · rw [World.size_setCell]; omega
  · intro g q1 q2 q3 q4
    exact (Below.heap_setCell _ ⟨T, j, none⟩ _ _ (show g ≠ T from q3)).trans (hKp g q1 q2 q4)
end Go.Proofs.YtcnohgifihbkdaaGreatDoor

