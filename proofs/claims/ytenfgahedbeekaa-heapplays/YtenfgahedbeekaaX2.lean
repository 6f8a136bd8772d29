/- The document's side: Put of a key that is not there. -/
import Derived.Test.YtenfgahedbeekaaV2
namespace Go.Proofs.Ytenfgahedbeekaa
open Go.RowKit Go.Deep Go.Shelf
set_option linter.unusedVariables false
set_option linter.unusedSimpArgs false

theorem run_appNil (w : World) (ty : TypeId) (ma : Option Addr) (n c : Nat) (es : List En) (hn : n = es.length) (hle : n ≤ 1000) (hrd : ERd w ma es) :
    ∃ v' w', (Builtin.append_ #[70, 70] ty #[.slice none 0 0, .slice ma n c]).run Try.prog w = .ok v' w' ∧ ERow w' w.heap.size v' es ∧ w.grownBy w' none := by
  cases ma with
  | none =>
    have hes : es = [] := by
      cases es with
      | nil => rfl
      | cons x r => obtain ⟨b, off, e, _⟩ := hrd 0 x rfl; cases e
    subst hes
    subst hn
    exact ⟨_, w, run_app_none w ty w.heap.size _ [] (ERow.nil _ _) c, ERow.nil _ _, ⟨rfl, rfl, rfl, Nat.le_refl _, fun _ _ _ => rfl⟩⟩
  | some ad => exact run_appH w ty ad n c es hn hle hrd
theorem wpList_appNil {ops : Array Oper} {rest : List Oper} {o : Oper} {a : Act} {Q : Exit → Act → World → Prop} (w : World) (hgd : o.guard = none) (s x : Operand)
    (ho : o.op = .call { callee := .builtin .append, args := #[s, x], argTypes := #[70, 70] }) (ma : Option Addr) (n cap : Nat) (hs : a.eval s = .slice none 0 0) (hx : a.eval x = .slice ma n cap)
    (es : List En) (hn : n = es.length) (hle : n ≤ 1000) (hrd : ERd w ma es)
    (k : ∀ v' w', ERow w' w.heap.size v' es → w.grownBy w' none → wpList Try.prog ops Q rest (a.put o.dst v') w') :
    wpList Try.prog ops Q (o :: rest) a w := by
  refine wpList_plain hgd fun K hK => ?_
  obtain ⟨v', w', hrun, h2, h3⟩ := run_appNil w o.type ma n cap es hn hle hrd
  unfold Oper.wp execOp
  simp only [ho, resolve, invoke, builtin, Sem.run_bind, Sem.run_pure, Result.andThen_ok, List.map_toArray, List.map_cons, List.map_nil, hs, hx, hrun]
  exact hK _ _ (k v' w' h2 h3)
theorem wpList_appOne {ops : Array Oper} {rest : List Oper} {o : Oper} {a : Act} {Q : Exit → Act → World → Prop} (w : World) (hgd : o.guard = none) (sl x : Operand)
    (ho : o.op = .call { callee := .builtin .append, args := #[sl, x], argTypes := #[70, 70] }) (v : Value) (h : En) (gx : Nat) (hs : a.eval sl = v) (hx : a.eval x = .slice (some ⟨gx, 0, none⟩) 1 1)
    (hg : w.heap[gx]? = some (.cells h.cs.toArray 81 (0, 0))) (B : Nat) (ss : List En) (hr : ERow w B v ss) (hB : B ≤ w.heap.size) (hl : ss.length ≤ 1000000)
    (k : ∀ g c' cur w', ERow w' B (.slice (some ⟨g, 0, none⟩) (ss.length + 1) c') (ss ++ [h]) → w'.heap[g]? = some (.cells cur 81 (0, 0)) → B ≤ g → ss.length + 1 ≤ c' → Grw w v w' (.slice (some ⟨g, 0, none⟩) (ss.length + 1) c') → wpList Try.prog ops Q rest (a.put o.dst (.slice (some ⟨g, 0, none⟩) (ss.length + 1) c')) w') :
    wpList Try.prog ops Q (o :: rest) a w := by
  refine wpList_plain hgd fun K hK => ?_
  obtain ⟨v', w', hrun, h2, h3⟩ := run_appE w o.type B v ss h gx hr hg hB hl
  have h2' := h2
  rcases h2.2 with ⟨_, hz⟩ | ⟨g, c', cur, e, hb, hgg, hc, _⟩
  · simp at hz
  · subst e
    rw [List.length_append, List.length_singleton] at hc h2' h3 hrun
    unfold Oper.wp execOp
    simp only [ho, resolve, invoke, builtin, Sem.run_bind, Sem.run_pure, Result.andThen_ok, List.map_toArray, List.map_cons, List.map_nil, hs, hx, hrun]
    exact hK _ _ (k g c' cur w' h2' hgg hb hc h3)
theorem step_copyE {ops : Array Oper} {o : Oper} {a : Act} {w : World} {K : Act → World → Prop} {Q : Exit → Act → World → Prop} {E : Prop} (hgd : o.guard = none) (s x : Operand)
    (ho : o.op = .call { callee := .builtin .copy, args := #[s, x], argTypes := #[70, 70] }) (b o' dLen dCap : Nat) (hs : a.eval s = .slice (some ⟨b, o', none⟩) dLen dCap) (ad : Addr) (sLen sCap : Nat) (hx : a.eval x = .slice (some ad) sLen sCap)
    (n : Nat) (cs : List Value) (hn : n = Nat.min sLen dLen) (hl : cs.length = n * 10)
    (hsrc : ∀ j v, cs[j]? = some v → w.cell? (ad.add j) = some v) (hc : ∀ j, j < cs.length → (w.cell? ⟨b, o' + j, none⟩).isSome = true) (hf : ∀ j, j < cs.length → w.frozen? ⟨b, o' + j, none⟩ = false) (h1 : ∀ v ∈ cs, v.oneCell' = true)
    (k : K (a.put o.dst (goInt n)) (w.setCells b o' cs)) :
    if Region.wanted o (yielded ops a.tmps) = true then Oper.wp Try.prog o a w K Q else E := by
  have hw : Region.wanted o (yielded ops a.tmps) = true := by simp [Region.wanted, hgd]
  rw [if_pos hw]
  have hr := run_copyE w o.type b o' dLen dCap ad sLen sCap n cs hn hl hsrc hc hf h1
  unfold Oper.wp execOp
  simp only [ho, resolve, invoke, builtin, Sem.run_bind, Sem.run_pure, Result.andThen_ok, List.map_toArray, List.map_cons, List.map_nil, hs, hx, hr]
  exact k
def zEn : En := ⟨⟨0, 0, ⟨#[]⟩, 0, none, 0, 0⟩, ⟨0, 0, ⟨#[]⟩, 0, none, 0, 0⟩⟩
theorem ins_list {α : Type} (es : List α) (z x : α) (i : Nat) (h : i ≤ es.length) : ((es ++ [z]).take (i + 1) ++ es.drop i).set i x = es.take i ++ [x] ++ es.drop i := by
  have h1 : ((es ++ [z]).take (i + 1)).length = i + 1 := by rw [List.length_take, List.length_append]; simp; omega
  apply List.ext_getElem?
  intro j
  rw [List.append_assoc, List.getElem?_set]
  rcases Nat.lt_trichotomy j i with hj | hj | hj
  · rw [if_neg (by omega), List.getElem?_append_left (by omega), List.getElem?_append_left (by rw [List.length_take]; omega), List.getElem?_take, List.getElem?_take, if_pos (by omega), if_pos hj, List.getElem?_append_left (by omega)]
  · subst hj
    rw [if_pos rfl, if_pos (by rw [List.length_append, h1]; omega), List.getElem?_append_right (by rw [List.length_take]; omega)]
    simp [List.length_take, Nat.min_eq_left h]
  · rw [if_neg (by omega), List.getElem?_append_right (by omega), h1, List.getElem?_append_right (by rw [List.length_take]; omega), List.length_take, Nat.min_eq_left h, List.getElem?_append_right (by simp; omega)]
    simp only [List.length_singleton]
    rw [show j - (i + 1) = j - i - 1 from by omega]
theorem setCells_at (b : Nat) {e : TypeId} {f : Nat × Nat} : ∀ (vs : List Value) (o : Nat) (w : World) (cur : Array Value), w.heap[b]? = some (.cells cur e f) → ∃ cur', (w.setCells b o vs).heap[b]? = some (.cells cur' e f)
  | [], _, _, cur, h => ⟨cur, h⟩
  | v :: r, o, w, cur, h => by rw [World.setCells]; exact setCells_at b r (o + 1) _ _ (heap_set_at h o v)

set_option maxRecDepth 100000 in
set_option maxHeartbeats 2000000 in
theorem refPut_new (k : Nat) (w : World) (sa : Option Addr) (sn sc : Nat) (ms : List (Sl × Rw k)) (hd : StR k w sa sn ms) (m : Int) (kt vt : VT k) (hk : Rds k w kt) (hv : Rds k w vt) (hh : hasB sn m = true) (hth : (placeR (fun p => cmpT k p.1 kt) (rowAt ms m)).2 = false) (hfl : (rowAt ms m).length < 24) :
    Calls Try.prog 13 #[.agg #[.slice sa sn sc], .int .i64 m, (hdT k kt).v, (hdT k vt).v] w (fun e w' => ∃ fa fn fc, e = .returned (.tuple #[.agg #[.slice fa fn fc], .int .i64 0]) ∧ Below w.heap.size w w' ∧ fn ≤ fc ∧ StCR k w' fa fn ((ms.map fun q => rowC k q.2).set m.toNat (rowC k ((rowAt ms m).take (placeR (fun p => cmpT k p.1 kt) (rowAt ms m)).1 ++ [(kt, vt)] ++ (rowAt ms m).drop (placeR (fun p => cmpT k p.1 kt) (rowAt ms m)).1)))) := by
  have D := hid hd
  have Hn := hid hd.n1
  have hle := hd.n2
  have hle2 : (sn : Int) ≤ 1000 := by omega
  have hle0 : (0 : Int) ≤ (sn : Int) := by omega
  have DV := hid hv
  have K42 := hid (fun (w1 : World) (hb : Below w.heap.size w w1) => refAt_any k w1 sa sn sc ms (hd.below (Nat.le_refl _) hb) m kt (Rds.below k hk (Nat.le_refl _) hb))
  have DK := hid hk
  clear hd hk hv
  obtain ⟨hkt, ehkt⟩ : ∃ h, h = hdT k kt := ⟨_, rfl⟩
  have Ek := hid ehkt
  rw [← ehkt] at K42 ⊢
  clear ehkt
  obtain ⟨kk, ki, kx, kr, ka, kn, kc⟩ := hkt
  obtain ⟨hvt, ehvt⟩ : ∃ h, h = hdT k vt := ⟨_, rfl⟩
  have Ev := hid ehvt
  rw [← ehvt]
  clear ehvt
  obtain ⟨vk, vi, vx, vr, va, vn, vc⟩ := hvt
  simp only [Hd.v] at K42 ⊢
  obtain ⟨W0, hW0⟩ : ∃ W0, W0 = (((w.alloc (.cells #[.slice sa sn sc] 27)).alloc (.cells #[.int .i64 kk, .int .i64 ki, .string kx, .int .i64 kr, .slice ka kn kc] 31)).alloc (.cells #[.int .i64 vk, .int .i64 vi, .string vx, .int .i64 vr, .slice va vn vc] 31)).alloc (.cells #[.slice none 0 0] 27) := ⟨_, rfl⟩
  have pl' : ∀ {w : World} {o x : Obj} {k : Nat}, w.heap[k]? = some x → (w.alloc o).heap[k]? = some x := fun h => (Below.heap_alloc _ _ _ (Array.getElem?_eq_some_iff.1 h).1).trans h
  have n1 := heap_alloc_new w (.cells #[.slice sa sn sc] 27)
  have n2 := heap_alloc_new (w.alloc (.cells #[.slice sa sn sc] 27)) (.cells #[.int .i64 kk, .int .i64 ki, .string kx, .int .i64 kr, .slice ka kn kc] 31)
  have n3 := heap_alloc_new ((w.alloc (.cells #[.slice sa sn sc] 27)).alloc (.cells #[.int .i64 kk, .int .i64 ki, .string kx, .int .i64 kr, .slice ka kn kc] 31)) (.cells #[.int .i64 vk, .int .i64 vi, .string vx, .int .i64 vr, .slice va vn vc] 31)
  have n4 := heap_alloc_new (((w.alloc (.cells #[.slice sa sn sc] 27)).alloc (.cells #[.int .i64 kk, .int .i64 ki, .string kx, .int .i64 kr, .slice ka kn kc] 31)).alloc (.cells #[.int .i64 vk, .int .i64 vi, .string vx, .int .i64 vr, .slice va vn vc] 31)) (.cells #[.slice none 0 0] 27)
  simp only [World.size_alloc] at n2 n3 n4
  have q1 : W0.heap[w.heap.size]? = some (.cells #[.slice sa sn sc] 27 (0, 0)) := by rw [hW0]; exact pl' (pl' (pl' n1))
  have q2 : W0.heap[w.heap.size + 1]? = some (.cells #[.int .i64 kk, .int .i64 ki, .string kx, .int .i64 kr, .slice ka kn kc] 31 (0, 0)) := by rw [hW0]; exact pl' (pl' n2)
  have q3 : W0.heap[w.heap.size + 1 + 1]? = some (.cells #[.int .i64 vk, .int .i64 vi, .string vx, .int .i64 vr, .slice va vn vc] 31 (0, 0)) := by rw [hW0]; exact pl' n3
  have q4 : W0.heap[w.heap.size + 1 + 1 + 1]? = some (.cells #[.slice none 0 0] 27 (0, 0)) := by rw [hW0]; exact n4
  have hb0 : Below w.heap.size w W0 := by rw [hW0]; exact ((((Below.refl _ w).alloc (Nat.le_refl _) _).alloc (by simp) _).alloc (by simp; omega) _).alloc (by simp; omega) _
  have hz0 : w.heap.size + 4 ≤ W0.heap.size := by rw [hW0]; simp
  have FX : Hid (∀ w2 : World, Below W0.heap.size W0 w2 → (w2.cell? ⟨w.heap.size, 0, none⟩ = some (.slice sa sn sc) ∧ w2.cell? ⟨w.heap.size + 1 + 1, 0, none⟩ = some (.int .i64 vk) ∧ w2.cell? ⟨w.heap.size + 1 + 1, 1, none⟩ = some (.int .i64 vi) ∧ w2.cell? ⟨w.heap.size + 1 + 1, 2, none⟩ = some (.string vx) ∧ w2.cell? ⟨w.heap.size + 1 + 1, 3, none⟩ = some (.int .i64 vr) ∧ w2.cell? ⟨w.heap.size + 1 + 1, 4, none⟩ = some (.slice va vn vc)) ∧ w2.heap[w.heap.size + 1 + 1 + 1]? = some (.cells #[.slice none 0 0] 27 (0, 0)) ∧ Below w.heap.size w w2) := hid (fun w2 hb => by
    have bx := (hb.block _ (Array.getElem?_eq_some_iff.1 q1).1).trans q1
    have bz := (hb.block _ (Array.getElem?_eq_some_iff.1 q3).1).trans q3
    exact ⟨⟨cellOf bx 0, cellOf bz 0, cellOf bz 1, cellOf bz 2, cellOf bz 3, cellOf bz 4⟩, (hb.block _ (Array.getElem?_eq_some_iff.1 q4).1).trans q4, hb0.trans (hb.mono hb0.size)⟩)
  have TR : Hid (∀ {Z x y : World}, Below Z.heap.size Z x → Below x.heap.size x y → Below Z.heap.size Z y) := hid (fun h1 h2 => h1.trans (h2.mono h1.size))
  have c0 : W0.cell? ⟨w.heap.size, 0, none⟩ = some (.slice sa sn sc) := cellOf q1 0
  have k0 := cellOf q2 0
  have k1 := cellOf q2 1
  have k2 := cellOf q2 2
  have k3 := cellOf q2 3
  have k4 := cellOf q2 4
  have e0 := cellOf q4 0
  have f0 := freeOf q4 0
  simp only [List.getElem?_toArray, List.getElem?_cons_zero, List.getElem?_cons_succ] at k0 k1 k2 k3 k4 e0
  have HB0 := hid hb0
  have HZ0 := hid hz0
  have Q4 := hid q4
  have FK : Hid (∀ w2 : World, Below W0.heap.size W0 w2 → (w2.cell? ⟨w.heap.size + 1, 0, none⟩ = some (.int .i64 kk) ∧ w2.cell? ⟨w.heap.size + 1, 1, none⟩ = some (.int .i64 ki) ∧ w2.cell? ⟨w.heap.size + 1, 2, none⟩ = some (.string kx) ∧ w2.cell? ⟨w.heap.size + 1, 3, none⟩ = some (.int .i64 kr) ∧ w2.cell? ⟨w.heap.size + 1, 4, none⟩ = some (.slice ka kn kc))) := hid (fun w2 hb => by
    have bz := (hb.block _ (Array.getElem?_eq_some_iff.1 q2).1).trans q2
    exact ⟨cellOf bz 0, cellOf bz 1, cellOf bz 2, cellOf bz 3, cellOf bz 4⟩)
  clear q1 q2 q3 q4 n1 n2 n3 n4 pl' hb0 hz0

  rw [show (Int.toNat m) = m.toNat from rfl]
  have hm : 0 ≤ m ∧ m < (sn : Int) := by simpa [hasB] using hh
  obtain ⟨i0, rfl⟩ : ∃ i0 : Nat, m = (i0 : Int) := ⟨m.toNat, by omega⟩
  have hi0 := hm.1
  have hi1 := hm.2
  have hi2 : ¬ (i0 : Int) < 0 := by omega
  have hi3 : ¬ (sn : Int) ≤ (i0 : Int) := by omega
  obtain ⟨p, hp⟩ : ∃ p, ms[i0]? = some p := ⟨ms[i0]'(by rw [← Hn.out]; omega), List.getElem?_eq_getElem _⟩
  have hrp : rowAt ms (i0 : Int) = p.2 := rowAt_yes hp
  rw [hrp] at K42 hth hfl
  obtain ⟨b, off, ea, dc⟩ := D.out.rd i0 p.1 (by rw [List.getElem?_map, hp]; rfl)
  subst ea
  have hel := (D.out.el p (List.mem_of_getElem? hp)).1
  have hcap := (D.out.el p (List.mem_of_getElem? hp)).2
  obtain ⟨⟨ma, mn, mc⟩, mr⟩ := p
  simp only [Sl.v] at dc
  simp only at hel hcap K42 hth hfl
  obtain ⟨i, hi⟩ : ∃ i, i = (placeR (fun p => cmpT k p.1 kt) mr).1 := ⟨_, rfl⟩
  have Hmn := hid hel.n1
  have hmn2 := hel.n2
  have hmn3 : (mn : Int) ≤ 1000 := by omega
  have Hel := hid hel
  have DX : Hid (∀ w2 : World, Below w.heap.size w w2 → w2.cell? ⟨b, off + i0, none⟩ = some (.slice ma mn mc)) := hid (fun w2 hb => (hb.cell (p := ⟨b, off + i0, none⟩) (World.block_lt_of_cell? w _ dc)).trans dc)
  rw [← hi] at K42

  have hlt : i ≤ mn := by rw [hi, Hmn.out]; exact placeR_le _ _
  rw [hth] at K42
  rw [hrp]
  simp only
  rw [← hi]
  rw [← Hmn.out] at hfl
  have hfl2 : (mn : Int) < 24 := by omega
  have hlt1 : (i : Int) ≤ (mn : Int) := by omega
  have hi00 : (0 : Int) ≤ (i : Int) := by omega
  obtain ⟨es, hes⟩ : ∃ es, es = mr.map (enT k) := ⟨_, rfl⟩
  obtain ⟨row', hrow'⟩ : ∃ row', row' = mr.take i ++ [(kt, vt)] ++ mr.drop i := ⟨_, rfl⟩
  rw [← hrow']
  have Hrow' := hid hrow'
  have Hes := hid hes
  have hrlen : row'.length = mn + 1 := by rw [hrow']; simp; have := Hmn.out; omega
  have Hrl := hid hrlen
  have hesl : es.length = mn := by rw [hes, List.length_map]; exact Hmn.out.symm
  have Hesl := hid hesl
  have Hel' : Hid (∀ (w1 : World), Below w.heap.size w w1 → ∀ x ∈ row', Rds k w1 x.1 ∧ Rds k w1 x.2) := hid (fun w1 hb x hx => by
    have hel1 := Hel.out.below (Nat.le_refl _) hb
    rw [Hrow'.out, List.append_assoc, List.mem_append, List.mem_append, List.mem_singleton] at hx
    rcases hx with hx | hx | hx
    · exact hel1.el x (List.mem_of_mem_take hx)
    · subst hx
      exact ⟨Rds.below k DK.out (Nat.le_refl _) hb, Rds.below k DV.out (Nat.le_refl _) hb⟩
    · exact hel1.el x (List.mem_of_mem_drop hx))
  have K43 : Hid (∀ (w1 : World), Below w.heap.size w w1 → ∀ (ra : Option Addr) (rn rc : Nat), RwR k w1 ra rn row' → rn ≤ rc → Calls Try.prog 43 #[.agg #[.slice (some ⟨b, off, none⟩) sn sc], .int .i64 (i0 : Int), .slice ra rn rc] w1 (RwT k w1 (ms.set i0 (⟨ra, rn, rc⟩, row')))) := hid (fun w1 hb ra rn rc hr hc => refWith_any k w1 _ sn sc ms (D.out.below (Nat.le_refl _) hb) i0 (by omega) ra rn rc row' hr hc)
  have DM : Hid (∀ m ∈ ms, RwR k w m.1.a m.1.n m.2 ∧ m.1.n ≤ m.1.cap) := hid D.out.el
  clear dc hp hm hh hrp hth hel hi D hrow' hrlen hes hesl
  go_enter Try.func13, Try.ntmps13
  go_upto_region 1 with fail
  rw [← hW0]
  clear hW0
  go_upto_region 11 with (first
    | (go_at_call 42; (refine (K42.out _ HB0.out).mono ?_; rintro e w1 ⟨rfl, hb1⟩; obtain ⟨⟨c0', z0, z1, z2, z3, z4⟩, g2, bb⟩ := FX.out w1 hb1; have x0 := DX.out w1 bb; have HB1 := hid hb1; have BB := hid bb; clear g2 hb1 z0 z1 z2 z3 z4))
    | (at_builtin; refine wpList_appNil w1 rfl _ _ rfl ma mn mc (by rfl) (by rfl) es Hesl.out.symm hmn2 (by rw [Hes.out]; exact (Hel.out.below (Nat.le_refl _) BB.out).rd) ?_; intro v2 w2 hr2 hg2; obtain ⟨fa, fc, e2, hc2⟩ := hr2.form; rw [Hesl.out] at e2; subst e2; have R2 := hid hr2; have B2 := hid (TR.out HB1.out (below_of_grown hg2)); have HW12 := hid hg2.size; clear hr2 hg2 hc2)
    | (at_builtin; refine wpList_appOne _ rfl _ _ rfl (.slice fa mn fc) ⟨⟨0, 0, ⟨#[]⟩, 0, none, 0, 0⟩, ⟨0, 0, ⟨#[]⟩, 0, none, 0, 0⟩⟩ _ (by rfl) (by rfl) (heap_alloc_new _ _) w1.heap.size es (R2.out.below (Nat.le_refl _) ((Below.refl _ w2).alloc (Nat.le_refl _) _)) (by have := HW12.out; simp; omega) (by rw [Hesl.out]; omega) ?_; intro g fc4 cur w4 hr4 hgg hgb hgc hg4; rw [Hesl.out] at hr4 hgc hg4 ⊢; obtain ⟨m1, hm1⟩ : ∃ m1, m1 = mn + 1 := ⟨_, rfl⟩; rw [← hm1] at hr4 hgc hg4 ⊢; have Hm1 := hid hm1; clear hm1; have R4 := hid hr4; have HGG := hid hgg; have HGB := hid hgb; have HGC := hid hgc; have G4 := hid hg4; clear hr4 hgg hgb hgc hg4))
  have hgW : W0.heap.size ≤ g := Nat.le_trans HB1.out.size HGB.out
  have hb4 : Below W0.heap.size W0 w4 := grw_below (TR.out B2.out ((Below.refl _ w2).alloc (Nat.le_refl _) _)) (R2.out.below (Nat.le_refl _) ((Below.refl _ w2).alloc (Nat.le_refl _) _)) G4.out (by have := HB1.out.size; omega)
  have hgl := (Array.getElem?_eq_some_iff.1 HGG.out).1
  have er4 : ERd w4 (some ⟨g, 0, none⟩) (es ++ [zEn]) := R4.out.rd
  have ER4 := hid er4
  have HB4 := hid hb4
  have HGL := hid hgl
  have HGW := hid hgW
  have hc0 : ¬ fc4 = i := by have := HGC.out; have := Hm1.out; omega
  obtain ⟨i1, hi1'⟩ : ∃ i1, i1 = i + 1 := ⟨_, rfl⟩
  have Hi1 := hid hi1'
  have hwr : IntKind.i64.wrap ((i : Int) + 1) = (i1 : Int) := by rw [IntKind.wrap_i64, hi1']; omega
  have hlow : (0 : Int) ≤ (i1 : Int) := by omega
  have hlow2 : (i1 : Int) ≤ (m1 : Int) := by rw [Hm1.out]; omega
  have hlow3 : (i : Int) ≤ (m1 : Int) := by rw [Hm1.out]; omega
  have hlow4 : i1 ≤ m1 := by omega
  have hlow5 : i ≤ m1 := by omega
  have hlow6 : m1 ≤ 1000 := by rw [Hm1.out]; omega
  have hlow7 : (m1 : Int) ≤ 1000 := by omega
  have SRC : Hid (∀ j v, (ee (es.drop i))[j]? = some v → w4.drew.cell? (Addr.add ⟨g, i * 10, none⟩ j) = some v) := hid (fun j v hv => by
    have h := ((er4.take es.length).below (Nat.le_refl _) (Below.refl _ w4).drew).cells_at i j v
    rw [List.take_left] at h
    have := h hv
    simp only [Addr.add_lit] at this ⊢
    rw [Nat.zero_add] at this
    exact this)
  have CEL : Hid (∀ j, j < (ee (es.drop i)).length → (w4.drew.cell? ⟨g, i1 * 10 + j, none⟩).isSome = true) := hid (fun j hj => by
    rw [ee_length, List.length_drop] at hj
    have hq : i1 + j / 10 < (es ++ [zEn]).length := by rw [List.length_append]; simp; omega
    obtain ⟨b', o', e', hc⟩ := er4 (i1 + j / 10) (es ++ [zEn])[i1 + j / 10] (List.getElem?_eq_getElem hq)
    cases e'
    have := hc (j % 10) (by omega)
    rw [show 0 + (i1 + j / 10) * 10 + j % 10 = i1 * 10 + j from by omega] at this
    show (w4.cell? ⟨g, i1 * 10 + j, none⟩).isSome = true
    rw [this]
    have hl10 : ((es ++ [zEn])[i1 + j / 10]).cs.length = 10 := rfl
    rw [List.getElem?_eq_getElem (by omega)]; rfl)
  have FRZ : Hid (∀ j, j < (ee (es.drop i)).length → w4.drew.frozen? ⟨g, i1 * 10 + j, none⟩ = false) := hid (fun j hj => freeOf (show w4.drew.heap[g]? = _ from HGG.out) _)
  clear er4 hb4 hgl hi1' hlt hlt1 hgW
  by_cases hmb : fc4 = i1
  · have hmt := eq_true hmb
    have Hmb := hid hmb
    clear hmb
    go_region_held3 (fun W' => True) (first | trivial) ((first
      | (refine step_copyE (by rfl) _ _ (by rfl) g 0 (m1 - i1) (fc4 - i1) (by rfl) ⟨g, i * 10, none⟩ (m1 - i) (fc4 - i) (by rfl) 0 [] (by have := Hmb.out; have := HGC.out; rw [show m1 - i1 = 0 from by omega]; exact (Nat.min_zero _).symm) rfl (fun _ _ h => by simp at h) (fun _ h => by simp at h) (fun _ h => by simp at h) (fun _ h => by simp at h) ?_)))
    obtain ⟨W5, hW5⟩ : ∃ W5, W5 = w4.drew.setCells g ((i + 1) * 10) (ee (es.drop i)) := ⟨_, rfl⟩
    have hdr : es.drop i = [] := List.drop_of_length_le (by have := Hesl.out; have := Hmb.out; have := HGC.out; have := Hm1.out; have := Hi1.out; omega)
    have hw5 : w4.drew.setCells g 0 [] = W5 := by rw [hW5, hdr]; rfl
    rw [hw5]
    clear hw5 hdr hmt
    have er5 : ERd W5 (some ⟨g, 0, none⟩) ((es ++ [zEn]).take (i + 1) ++ es.drop i) := by
      rw [hW5]
      exact ERd.shift zEn i (by rw [Hesl.out]; have := Hi1.out; have := Hm1.out; omega) (ER4.out.below (Nat.le_refl _) (Below.refl _ w4).drew)
    obtain ⟨cur5, hg5⟩ : ∃ cur', W5.heap[g]? = some (.cells cur' 81 (0, 0)) := by
      rw [hW5]
      exact setCells_at g _ _ w4.drew cur HGG.out
    have hb5 : Below W0.heap.size W0 W5 := by
      rw [hW5]
      exact setCells_below g HGW.out _ _ _ HB4.out.drew
    have hs5 : W5.heap.size = w4.heap.size := by rw [hW5, setCells_size]; rfl
    clear hW5
    have hlen5 : ((es ++ [zEn]).take (i + 1) ++ es.drop i).length = m1 := by
      have := Hesl.out
      have := Hm1.out
      rw [List.length_append, List.length_take, List.length_drop, List.length_append, List.length_singleton]
      omega
    obtain ⟨xe, hxe⟩ : ∃ xe, ((es ++ [zEn]).take (i + 1) ++ es.drop i)[i]? = some xe := ⟨((es ++ [zEn]).take (i + 1) ++ es.drop i)[i]'(by rw [hlen5]; have := Hi1.out; omega), List.getElem?_eq_getElem _⟩
    obtain ⟨bq, oq, eq', dq⟩ := er5 i xe hxe
    cases eq'
    obtain ⟨⟨ak, ai, ax, ar, aa, an, ac⟩, ⟨bk, bi, bx, br, ba, bn, bc⟩⟩ := xe
    have d0 := dq 0 (by omega)
    have d1 := dq 1 (by omega)
    have d2 := dq 2 (by omega)
    have d3 := dq 3 (by omega)
    have d4 := dq 4 (by omega)
    have d5 := dq 5 (by omega)
    have d6 := dq 6 (by omega)
    have d7 := dq 7 (by omega)
    have d8 := dq 8 (by omega)
    have d9 := dq 9 (by omega)
    simp only [En.cs, List.getElem?_cons_zero, List.getElem?_cons_succ, Nat.zero_add, Nat.add_zero] at d0 d1 d2 d3 d4 d5 d6 d7 d8 d9
    have u0 := freeOf hg5 (i * 10)
    have u1 := freeOf hg5 (i * 10 + 1)
    have u2 := freeOf hg5 (i * 10 + 2)
    have u3 := freeOf hg5 (i * 10 + 3)
    have u4 := freeOf hg5 (i * 10 + 4)
    have u5 := freeOf hg5 (i * 10 + 5)
    have u6 := freeOf hg5 (i * 10 + 6)
    have u7 := freeOf hg5 (i * 10 + 7)
    have u8 := freeOf hg5 (i * 10 + 8)
    have u9 := freeOf hg5 (i * 10 + 9)
    clear c0 k0 k1 k2 k3 k4 c0' x0
    obtain ⟨k0, k1, k2, k3, k4⟩ := FK.out W5 hb5
    obtain ⟨⟨c0, z0, z1, z2, z3, z4⟩, _, _⟩ := FX.out W5 hb5
    have hit : (i : Int) < (m1 : Int) := by have := Hi1.out; omega
    have HB5 := hid hb5
    have ER5 := hid er5
    have HG5 := hid hg5
    have HS5 := hid hs5
    have Hl5 := hid hlen5
    clear dq hb5 er5 hg5 hs5 hlen5 hxe
    go_upto_region 13 with fail
    change Code.wp _ _ _ _ (five (five W5 g (i * 10) ⟨kk, ki, kx, kr, ka, kn, kc⟩) g (i * 10 + 5) ⟨vk, vi, vx, vr, va, vn, vc⟩)
    have hb3 : Below W0.heap.size W0 (five (five W5 g (i * 10) ⟨kk, ki, kx, kr, ka, kn, kc⟩) g (i * 10 + 5) ⟨vk, vi, vx, vr, va, vn, vc⟩) := five_below (five_below HB5.out HGW.out _) HGW.out _
    have hs3 : (five (five W5 g (i * 10) ⟨kk, ki, kx, kr, ka, kn, kc⟩) g (i * 10 + 5) ⟨vk, vi, vx, vr, va, vn, vc⟩).heap.size = w4.heap.size := by rw [← HS5.out]; simp [five, World.setCell]
    have er3 : ERd (five (five W5 g (i * 10) ⟨kk, ki, kx, kr, ka, kn, kc⟩) g (i * 10 + 5) ⟨vk, vi, vx, vr, va, vn, vc⟩) (some ⟨g, 0, none⟩) (row'.map (enT k)) := by
      have := ER5.out.set10 i (by rw [Hl5.out]; have := Hi1.out; omega) ⟨kk, ki, kx, kr, ka, kn, kc⟩ ⟨vk, vi, vx, vr, va, vn, vc⟩
      rw [ins_list es zEn _ i (by rw [Hesl.out]; have := Hi1.out; have := Hm1.out; omega)] at this
      rw [Hrow'.out, List.map_append, List.map_append, List.map_take, List.map_drop, ← Hes.out]
      rw [Ev.out, Ek.out] at this ⊢
      exact this
    generalize five (five W5 g (i * 10) ⟨kk, ki, kx, kr, ka, kn, kc⟩) g (i * 10 + 5) ⟨vk, vi, vx, vr, va, vn, vc⟩ = W3 at *
    obtain ⟨⟨c3', _⟩, x3, bb3⟩ := FX.out W3 hb3
    have hrw3 : RwR k W3 (some ⟨g, 0, none⟩) m1 row' := ⟨by rw [Hrl.out]; exact Hm1.out, hlow6, er3, fun x hx => Hel'.out W3 bb3 x hx⟩
    have C43 := hid (K43.out W3 bb3 _ m1 fc4 hrw3 HGC.out)
    have HB3 := hid hb3
    have ER3 := hid er3
    have HS3 := hid hs3
    clear hb3 er3 hrw3 x3 bb3 hs3 d0 d1 d2 d3 d4 d5 d6 d7 d8 d9 u0 u1 u2 u3 u4 u5 u6 u7 u8 u9 z0 z1 z2 z3 z4 k0 k1 k2 k3 k4 c0
    go_wp2_with (go_at_call 43; (refine (C43.out).mono ?_; rintro e w7 ⟨jg, jn, jc, rfl, hb4, hjc, hjg, hjl, hjn, hj1, hst⟩; have B4 := hid (TR.out HB3.out hb4); obtain ⟨_, x6, bb6⟩ := FX.out w7 B4.out; have x60 := cellOf x6 0; have x6f := freeOf x6 0; simp only [List.getElem?_toArray, List.getElem?_cons_zero] at x60; have X6 := hid x6; have BB6 := hid bb6; have HST := hid hst; have HB34 := hid hb4; have Hjn := hid hjn; clear hjn x6 bb6 hst hb4))
    have h5 := set_cells X6.out (.slice (some ⟨jg, 0, none⟩) jn jc)
    have r0 := cellOf h5 0
    simp only [List.getElem?_toArray, List.getElem?_cons_zero] at r0
    have hb5 := BB6.out.setCell (p := ⟨w.heap.size + 1 + 1 + 1, 0, none⟩) (by show w.heap.size ≤ w.heap.size + 1 + 1 + 1; omega) (.slice (some ⟨jg, 0, none⟩) jn jc)
    have hkp : ∀ x, x ≠ w.heap.size + 1 + 1 + 1 → (w7.setCell ⟨w.heap.size + 1 + 1 + 1, 0, none⟩ (.slice (some ⟨jg, 0, none⟩) jn jc)).heap[x]? = w7.heap[x]? := fun x hx => Below.heap_setCell _ _ _ _ hx
    generalize w7.setCell ⟨w.heap.size + 1 + 1 + 1, 0, none⟩ (.slice (some ⟨jg, 0, none⟩) jn jc) = W9 at *
    have hz := HZ0.out
    have hsW3 := HB3.out.size
    have hgW := HGW.out
    have mrd : MRd W9 (some ⟨jg, 0, none⟩) ((ms.set i0 (⟨some ⟨g, 0, none⟩, m1, fc4⟩, row')).map (·.1)) := fun j x hx => by
      obtain ⟨b', off', e, hc⟩ := HST.out j x hx
      cases e
      refine ⟨_, _, rfl, ?_⟩
      rw [← hc]
      exact World.cell?_of_block (a := ⟨jg, 0 + j, none⟩) (hkp jg (by omega))
    have er9 : ERd W9 (some ⟨g, 0, none⟩) (row'.map (enT k)) := (ER3.out.below (Nat.le_refl _) HB34.out).keep (fun x e _ => by cases e; exact hkp g (by omega))
    refine bodyPost_ret (v := .tuple #[.agg #[.slice (some ⟨jg, 0, none⟩) jn jc], .int .i64 0]) (by simp [results, Try.results13, go_sem, r0]) rfl ⟨_, jn, jc, rfl, hb5, hjc, ms.set i0 (⟨some ⟨g, 0, none⟩, m1, fc4⟩, row'), ⟨Hjn.out, hj1, mrd, fun m hm => ?_⟩, ?_⟩
    · rcases List.mem_or_eq_of_mem_set hm with hm | hm
      · exact ⟨((DM.out m hm).1).below (Nat.le_refl _) hb5, (DM.out m hm).2⟩
      · subst hm
        exact ⟨⟨by rw [Hrl.out]; exact Hm1.out, hlow6, er9, fun x hx => Hel'.out W9 hb5 x hx⟩, HGC.out⟩
    · rw [List.map_set]; rfl
  · go_region_held3 (fun W' => True) (first | trivial) ((first
      | (refine step_copyE (by rfl) _ _ (by rfl) g (i1 * 10) (m1 - i1) (fc4 - i1) (by rfl) ⟨g, i * 10, none⟩ (m1 - i) (fc4 - i) (by rfl) (mn - i) (ee (es.drop i)) (by have := Hm1.out; have := Hi1.out; rw [show m1 - i1 = mn - i from by omega, show m1 - i = mn - i + 1 from by omega]; exact (Nat.min_eq_right (Nat.le_succ _)).symm) (by rw [ee_length, List.length_drop, Hesl.out]) (SRC.out) (CEL.out) (FRZ.out) (ee_one _) ?_)))
    obtain ⟨W5, hW5⟩ : ∃ W5, W5 = w4.drew.setCells g ((i + 1) * 10) (ee (es.drop i)) := ⟨_, rfl⟩
    have hw5 : w4.drew.setCells g (i1 * 10) (ee (es.drop i)) = W5 := by rw [hW5, Hi1.out]
    rw [hw5]
    clear hw5
    have er5 : ERd W5 (some ⟨g, 0, none⟩) ((es ++ [zEn]).take (i + 1) ++ es.drop i) := by
      rw [hW5]
      exact ERd.shift zEn i (by rw [Hesl.out]; have := Hi1.out; have := Hm1.out; omega) (ER4.out.below (Nat.le_refl _) (Below.refl _ w4).drew)
    obtain ⟨cur5, hg5⟩ : ∃ cur', W5.heap[g]? = some (.cells cur' 81 (0, 0)) := by
      rw [hW5]
      exact setCells_at g _ _ w4.drew cur HGG.out
    have hb5 : Below W0.heap.size W0 W5 := by
      rw [hW5]
      exact setCells_below g HGW.out _ _ _ HB4.out.drew
    have hs5 : W5.heap.size = w4.heap.size := by rw [hW5, setCells_size]; rfl
    clear hW5
    have hlen5 : ((es ++ [zEn]).take (i + 1) ++ es.drop i).length = m1 := by
      have := Hesl.out
      have := Hm1.out
      rw [List.length_append, List.length_take, List.length_drop, List.length_append, List.length_singleton]
      omega
    obtain ⟨xe, hxe⟩ : ∃ xe, ((es ++ [zEn]).take (i + 1) ++ es.drop i)[i]? = some xe := ⟨((es ++ [zEn]).take (i + 1) ++ es.drop i)[i]'(by rw [hlen5]; have := Hi1.out; omega), List.getElem?_eq_getElem _⟩
    obtain ⟨bq, oq, eq', dq⟩ := er5 i xe hxe
    cases eq'
    obtain ⟨⟨ak, ai, ax, ar, aa, an, ac⟩, ⟨bk, bi, bx, br, ba, bn, bc⟩⟩ := xe
    have d0 := dq 0 (by omega)
    have d1 := dq 1 (by omega)
    have d2 := dq 2 (by omega)
    have d3 := dq 3 (by omega)
    have d4 := dq 4 (by omega)
    have d5 := dq 5 (by omega)
    have d6 := dq 6 (by omega)
    have d7 := dq 7 (by omega)
    have d8 := dq 8 (by omega)
    have d9 := dq 9 (by omega)
    simp only [En.cs, List.getElem?_cons_zero, List.getElem?_cons_succ, Nat.zero_add, Nat.add_zero] at d0 d1 d2 d3 d4 d5 d6 d7 d8 d9
    have u0 := freeOf hg5 (i * 10)
    have u1 := freeOf hg5 (i * 10 + 1)
    have u2 := freeOf hg5 (i * 10 + 2)
    have u3 := freeOf hg5 (i * 10 + 3)
    have u4 := freeOf hg5 (i * 10 + 4)
    have u5 := freeOf hg5 (i * 10 + 5)
    have u6 := freeOf hg5 (i * 10 + 6)
    have u7 := freeOf hg5 (i * 10 + 7)
    have u8 := freeOf hg5 (i * 10 + 8)
    have u9 := freeOf hg5 (i * 10 + 9)
    clear c0 k0 k1 k2 k3 k4 c0' x0
    obtain ⟨k0, k1, k2, k3, k4⟩ := FK.out W5 hb5
    obtain ⟨⟨c0, z0, z1, z2, z3, z4⟩, _, _⟩ := FX.out W5 hb5
    have hit : (i : Int) < (m1 : Int) := by have := Hi1.out; omega
    have HB5 := hid hb5
    have ER5 := hid er5
    have HG5 := hid hg5
    have HS5 := hid hs5
    have Hl5 := hid hlen5
    clear dq hb5 er5 hg5 hs5 hlen5 hxe
    go_upto_region 13 with fail
    change Code.wp _ _ _ _ (five (five W5 g (i * 10) ⟨kk, ki, kx, kr, ka, kn, kc⟩) g (i * 10 + 5) ⟨vk, vi, vx, vr, va, vn, vc⟩)
    have hb3 : Below W0.heap.size W0 (five (five W5 g (i * 10) ⟨kk, ki, kx, kr, ka, kn, kc⟩) g (i * 10 + 5) ⟨vk, vi, vx, vr, va, vn, vc⟩) := five_below (five_below HB5.out HGW.out _) HGW.out _
    have hs3 : (five (five W5 g (i * 10) ⟨kk, ki, kx, kr, ka, kn, kc⟩) g (i * 10 + 5) ⟨vk, vi, vx, vr, va, vn, vc⟩).heap.size = w4.heap.size := by rw [← HS5.out]; simp [five, World.setCell]
    have er3 : ERd (five (five W5 g (i * 10) ⟨kk, ki, kx, kr, ka, kn, kc⟩) g (i * 10 + 5) ⟨vk, vi, vx, vr, va, vn, vc⟩) (some ⟨g, 0, none⟩) (row'.map (enT k)) := by
      have := ER5.out.set10 i (by rw [Hl5.out]; have := Hi1.out; omega) ⟨kk, ki, kx, kr, ka, kn, kc⟩ ⟨vk, vi, vx, vr, va, vn, vc⟩
      rw [ins_list es zEn _ i (by rw [Hesl.out]; have := Hi1.out; have := Hm1.out; omega)] at this
      rw [Hrow'.out, List.map_append, List.map_append, List.map_take, List.map_drop, ← Hes.out]
      rw [Ev.out, Ek.out] at this ⊢
      exact this
    generalize five (five W5 g (i * 10) ⟨kk, ki, kx, kr, ka, kn, kc⟩) g (i * 10 + 5) ⟨vk, vi, vx, vr, va, vn, vc⟩ = W3 at *
    obtain ⟨⟨c3', _⟩, x3, bb3⟩ := FX.out W3 hb3
    have hrw3 : RwR k W3 (some ⟨g, 0, none⟩) m1 row' := ⟨by rw [Hrl.out]; exact Hm1.out, hlow6, er3, fun x hx => Hel'.out W3 bb3 x hx⟩
    have C43 := hid (K43.out W3 bb3 _ m1 fc4 hrw3 HGC.out)
    have HB3 := hid hb3
    have ER3 := hid er3
    have HS3 := hid hs3
    clear hb3 er3 hrw3 x3 bb3 hs3 d0 d1 d2 d3 d4 d5 d6 d7 d8 d9 u0 u1 u2 u3 u4 u5 u6 u7 u8 u9 z0 z1 z2 z3 z4 k0 k1 k2 k3 k4 c0
    go_wp2_with (go_at_call 43; (refine (C43.out).mono ?_; rintro e w7 ⟨jg, jn, jc, rfl, hb4, hjc, hjg, hjl, hjn, hj1, hst⟩; have B4 := hid (TR.out HB3.out hb4); obtain ⟨_, x6, bb6⟩ := FX.out w7 B4.out; have x60 := cellOf x6 0; have x6f := freeOf x6 0; simp only [List.getElem?_toArray, List.getElem?_cons_zero] at x60; have X6 := hid x6; have BB6 := hid bb6; have HST := hid hst; have HB34 := hid hb4; have Hjn := hid hjn; clear hjn x6 bb6 hst hb4))
    have h5 := set_cells X6.out (.slice (some ⟨jg, 0, none⟩) jn jc)
    have r0 := cellOf h5 0
    simp only [List.getElem?_toArray, List.getElem?_cons_zero] at r0
    have hb5 := BB6.out.setCell (p := ⟨w.heap.size + 1 + 1 + 1, 0, none⟩) (by show w.heap.size ≤ w.heap.size + 1 + 1 + 1; omega) (.slice (some ⟨jg, 0, none⟩) jn jc)
    have hkp : ∀ x, x ≠ w.heap.size + 1 + 1 + 1 → (w7.setCell ⟨w.heap.size + 1 + 1 + 1, 0, none⟩ (.slice (some ⟨jg, 0, none⟩) jn jc)).heap[x]? = w7.heap[x]? := fun x hx => Below.heap_setCell _ _ _ _ hx
    generalize w7.setCell ⟨w.heap.size + 1 + 1 + 1, 0, none⟩ (.slice (some ⟨jg, 0, none⟩) jn jc) = W9 at *
    have hz := HZ0.out
    have hsW3 := HB3.out.size
    have hgW := HGW.out
    have mrd : MRd W9 (some ⟨jg, 0, none⟩) ((ms.set i0 (⟨some ⟨g, 0, none⟩, m1, fc4⟩, row')).map (·.1)) := fun j x hx => by
      obtain ⟨b', off', e, hc⟩ := HST.out j x hx
      cases e
      refine ⟨_, _, rfl, ?_⟩
      rw [← hc]
      exact World.cell?_of_block (a := ⟨jg, 0 + j, none⟩) (hkp jg (by omega))
    have er9 : ERd W9 (some ⟨g, 0, none⟩) (row'.map (enT k)) := (ER3.out.below (Nat.le_refl _) HB34.out).keep (fun x e _ => by cases e; exact hkp g (by omega))
    refine bodyPost_ret (v := .tuple #[.agg #[.slice (some ⟨jg, 0, none⟩) jn jc], .int .i64 0]) (by simp [results, Try.results13, go_sem, r0]) rfl ⟨_, jn, jc, rfl, hb5, hjc, ms.set i0 (⟨some ⟨g, 0, none⟩, m1, fc4⟩, row'), ⟨Hjn.out, hj1, mrd, fun m hm => ?_⟩, ?_⟩
    · rcases List.mem_or_eq_of_mem_set hm with hm | hm
      · exact ⟨((DM.out m hm).1).below (Nat.le_refl _) hb5, (DM.out m hm).2⟩
      · subst hm
        exact ⟨⟨by rw [Hrl.out]; exact Hm1.out, hlow6, er9, fun x hx => Hel'.out W9 hb5 x hx⟩, HGC.out⟩
    · rw [List.map_set]; rfl

end Go.Proofs.Ytenfgahedbeekaa
