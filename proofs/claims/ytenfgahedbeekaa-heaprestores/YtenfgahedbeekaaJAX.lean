/- windlassref4.Restore. -/
import Derived.Test.YtenfgahedbeekaaJAW
namespace Go.Proofs.Ytenfgahedbeekaa
open Go.RowKit Go.Deep Go.Shelf
set_option linter.unusedVariables false
set_option linter.unusedSimpArgs false

theorem RqI.next {w wo wr : World} {G LB n r : Nat} {rows : List (Sl × Rw 3)} {X : List (List (Vl × Vl))} {fa : Option Addr} {fn fc : Nat} {ps : Rw 3} {acc : List (Vl × Vl)} (h : RqI w wo G LB n rows X) (hG : G < LB) (hr : n = rows.length + 1 + r) (j : RrJ wo wr G fa fn fc ps acc) (hl : acc.length ≤ 24)
    (bg : wr.heap[G]? = some (.cells (rowsL rows [.slice fa fn fc] r) 70 (0, 0))) : RqI w wr G LB n (rows ++ [(⟨fa, fn, fc⟩, ps)]) (X ++ [acc]) := by
  obtain ⟨o1, o2⟩ := j.out hl
  have hs := h.size
  have hs2 := j.size
  refine ⟨fun k hk hne => (j.blk k (by omega) hne).trans (h.bel k hk hne), j.os.trans h.os, j.tape.trans h.tape, j.output.trans h.output, by omega, ?_, ?_, ?_⟩
  · rw [bg]
    unfold rowsL
    have e : n - (rows ++ [((⟨fa, fn, fc⟩ : Sl), ps)]).length = r := by rw [List.length_append]; simp; omega
    rw [e]
    simp [Sl.v]
  · intro q hq
    rcases List.mem_append.1 hq with hq | hq
    · exact ⟨((h.rd q hq).1.keep (fun b hb => j.blk b hb.2 (by omega))).imp (fun b hb => ⟨hb.1, by omega⟩), (h.rd q hq).2⟩
    · simp only [List.mem_singleton] at hq
      subst hq
      exact ⟨o1.imp (fun b hb => ⟨by omega, hb.2⟩), o2⟩
  · rw [List.map_append, List.map_append, h.same]
    simp only [List.map_cons, List.map_nil, j.eq]
theorem RqI.len {w wo : World} {G LB n : Nat} {rows : List (Sl × Rw 3)} {X : List (List (Vl × Vl))} (h : RqI w wo G LB n rows X) : rows.length = X.length := by
  have := congrArg List.length h.same
  simpa using this
theorem RqI.out {w wr : World} {G LB n : Nat} {rows : List (Sl × Rw 3)} {X : List (List (Vl × Vl))} (h : RqI w wr G LB n rows X) (hn : rows.length = n) (hn2 : n ≤ 1000) : StP 3 wr (fun b => (b = G ∨ LB ≤ b) ∧ b < wr.heap.size) (some ⟨G, 0, none⟩) n rows := by
  have hlt := (Array.getElem?_eq_some_iff.1 h.bg).1
  refine ⟨hn.symm, hn2, fun j m hm => ⟨G, 0, rfl, ?_⟩, fun x e _ => by cases e; exact ⟨.inl rfl, hlt⟩, fun q hq => ⟨(h.rd q hq).1.imp (fun b hb => ⟨.inr hb.1, hb.2⟩), (h.rd q hq).2⟩⟩
  rw [cellOf h.bg (0 + j)]
  unfold rowsL
  rw [List.getElem?_toArray, Nat.zero_add, hn, Nat.sub_self, List.replicate_zero, List.append_nil, List.append_nil]
  rw [List.getElem?_map] at hm ⊢
  cases hq : rows[j]? with
  | none => rw [hq] at hm; cases hm
  | some q => rw [hq] at hm; cases hm; rfl
theorem rowsL_start (rows : List (Sl × Rw 3)) (r : Nat) : rowsL rows [] (r + 1) = rowsL rows [.slice none 0 0] r := by
  unfold rowsL
  rw [List.append_nil, List.replicate_succ, List.append_assoc]; rfl
theorem rowsL_at (rows : List (Sl × Rw 3)) (v : Value) (r : Nat) : (rowsL rows [v] r)[rows.length]? = some v := by
  unfold rowsL
  rw [List.getElem?_toArray, List.append_assoc, List.getElem?_append_right (by rw [List.length_map]; exact Nat.le_refl _), List.length_map, Nat.sub_self]; rfl
theorem rowsL_set (rows : List (Sl × Rw 3)) (v u : Value) (r : Nat) : (rowsL rows [v] r).setIfInBounds rows.length u = rowsL rows [u] r := by
  unfold rowsL
  rw [List.setIfInBounds_toArray]
  congr 1
  rw [List.append_assoc, List.append_assoc, List.set_append, if_neg (by rw [List.length_map]; omega), List.length_map, Nat.sub_self]
  rfl
theorem step_appEg {ops : Array Oper} {o : Oper} {a : Act} {w : World} {K : Act → World → Prop} {Q : Exit → Act → World → Prop} {E : Prop} (hgd : o.guard = none) (s x : Operand)
    (ho : o.op = .call { callee := .builtin .append, args := #[s, x], argTypes := #[70, 70] }) (v : Value) (h : En) (gx : Nat) (hs : a.eval s = v) (hx : a.eval x = .slice (some ⟨gx, 0, none⟩) 1 1)
    (hg : w.heap[gx]? = some (.cells h.cs.toArray 81 (0, 0))) (B : Nat) (ss : List En) (hr : ERow w B v ss) (hB : B ≤ w.heap.size) (hl : ss.length ≤ 1000000)
    (k : ∀ v' w', ERow w' B v' (ss ++ [h]) → Grw w v w' v' → K (a.put o.dst v') w') :
    if Region.wanted o (yielded ops a.tmps) = true then Oper.wp Try.prog o a w K Q else E := by
  have hw : Region.wanted o (yielded ops a.tmps) = true := by simp [Region.wanted, hgd]
  rw [if_pos hw]
  obtain ⟨v', w', hrun, h2, h3⟩ := run_appE w o.type B v ss h gx hr hg hB hl
  unfold Oper.wp execOp
  simp only [ho, resolve, invoke, builtin, Sem.run_bind, Sem.run_pure, Result.andThen_ok, List.map_toArray, List.map_cons, List.map_nil, hs, hx, hrun]
  exact k v' w' h2 h3
set_option maxRecDepth 100000 in
set_option maxHeartbeats 2000000 in
theorem refRestore_any (w : World) (g : PH) (p : Pg) (d : PRd w g p) (a : Option Addr) (cap : Nat) (bs : List Nat) (h : Rd w (.slice a bs.length cap) bs) (hl : bs.length ≤ 1000000) :
    Calls Try.prog 35 #[g.v, .slice a bs.length cap] w (ReP w p bs) := by
  have hby : Byt bs := by obtain ⟨_, _, _, _, hb, _⟩ := h; exact hb
  have hcap : bs.length ≤ cap := by obtain ⟨_, _, e, hc, _⟩ := h; cases e; exact hc
  have HBy := hid hby
  have H := hid h
  have KI := hid (fun (w1 : World) (hb : Below w.heap.size w w1) (sa : Option Addr) (sn sc : Nat) (ns : List (Sl × Rw 3)) (hs : StR 3 w1 sa sn ns) => refStIs_any 1 w1 g p (d.below (Nat.le_refl _) hb) sa sn sc ns hs)
  have KN := hid (fun (w1 : World) (hb : Below w.heap.size w w1) => refNew_q w1 g p (d.below (Nat.le_refl _) hb))
  obtain ⟨ra, rn, rc, ma, mn, mc, fa, fn, fc, ea, en, ec⟩ := g
  simp only [PH.v] at KI KN ⊢
  clear d h hby
  have hlI : (bs.length : Int) ≤ (cap : Int) := by omega
  have hlJ : (bs.length : Int) ≤ 1000000 := by omega
  obtain ⟨W0, hW0⟩ : ∃ W0, W0 = (w.alloc (.cells #[.slice ra rn rc, .slice ma mn mc, .slice fa fn fc, .slice ea en ec] 50)).alloc (.cells #[.slice none 0 0] 27) := ⟨_, rfl⟩
  have n1 := heap_alloc_new w (.cells #[.slice ra rn rc, .slice ma mn mc, .slice fa fn fc, .slice ea en ec] 50)
  have n2 := heap_alloc_new (w.alloc (.cells #[.slice ra rn rc, .slice ma mn mc, .slice fa fn fc, .slice ea en ec] 50)) (.cells #[.slice none 0 0] 27)
  simp only [World.size_alloc] at n2
  have q1 : W0.heap[w.heap.size]? = some (.cells #[.slice ra rn rc, .slice ma mn mc, .slice fa fn fc, .slice ea en ec] 50 (0, 0)) := by rw [hW0]; exact alN n1 _
  have q2 : W0.heap[w.heap.size + 1]? = some (.cells #[.slice none 0 0] 27 (0, 0)) := by rw [hW0]; exact n2
  have hb0 : Below w.heap.size w W0 := by rw [hW0]; exact boxes2 _ _ _ _ _
  have hz0 : W0.heap.size = w.heap.size + 2 := by rw [hW0]; simp
  have K0 := hid (KN.out W0 hb0)
  have HB0 := hid hb0
  have Q1 := hid q1
  have Q2 := hid q2
  clear n1 n2 q1 q2 hb0 KN
  cases hR : rightB p with
  | false =>
    have HN : Hid (resD p bs = none) := hid (by
      unfold resD resOf
      split
      · rfl
      · rw [if_neg]
        intro hh
        have := hh.2
        unfold stV at this
        rw [hR] at this
        simp at this)
    unfold NwQ at K0
    rw [hR] at K0
    go_enter Try.func35, Try.ntmps35
    go_wp2_with (go_at_call 28; rw [← hW0]; (refine (Hid.out K0).mono ?_; rintro e w1 ⟨hb1, ⟨_, rfl⟩ | ⟨h9, _⟩⟩; rotate_left; (exact absurd h9 (by simp)); have b2 := (hb1.block _ (Array.getElem?_eq_some_iff.1 Q2.out).1).trans Q2.out; have z1 := fun o => cellOf (alN b2 o) 0; have y1 := fun o => freeOf (alN b2 o) 0; simp only [List.getElem?_toArray, List.getElem?_cons_zero] at z1; have HB1 := hid hb1; have B2 := hid b2; clear hb1 b2))
    have t0 := cellOf (set_cells (alN B2.out (.cells #[.slice none 0 0] 27)) (.slice none 0 0)) 0
    simp only [List.getElem?_toArray, List.getElem?_cons_zero] at t0
    exact bodyPost_ret (v := .tuple #[.agg #[.slice none 0 0], .int .i64 40]) (by simp [results, Try.results35, go_sem, t0]) rfl ⟨((HB0.out.trans (HB1.out.mono HB0.out.size)).alloc (HB0.out.trans (HB1.out.mono HB0.out.size)).size _).setCell (p := ⟨w.heap.size + 1, 0, none⟩) (by show w.heap.size ≤ w.heap.size + 1; omega) _, by rw [HN.out]⟩
  | true =>
    have hn16 := right_maps hR
    unfold NwQ at K0
    rw [hR] at K0
    obtain ⟨n, hn⟩ : ∃ n, n = p.maps.length := ⟨_, rfl⟩
    rw [← hn] at K0 hn16
    obtain ⟨RES, hRES⟩ : ∃ RES, RES = goD rwD bs n 0 [] := ⟨_, rfl⟩
    have HRES := hid hRES
    have HRD : Hid (resD p bs = resOf p bs.length RES) := hid (by unfold resD; rw [hRES, hn])
    have hnI : (n : Int) ≤ 16 := by omega
    have Hn := hid hn
    clear hRES hn
    go_enter Try.func35, Try.ntmps35
    go_upto_region 4 with (go_at_call 28; rw [← hW0]; (refine (Hid.out K0).mono ?_; rintro e w1 ⟨hb1, ⟨h9, _⟩ | ⟨_, G, rfl, hbg, hGl⟩⟩; (exact absurd h9 (by simp)); have HB1 := hid hb1; have HBG := hid hbg; have HGl := hid hGl; clear hb1 hbg hGl))
    obtain ⟨W5, hW5⟩ : ∃ W5, W5 = w1.alloc (.cells #[.slice (some ⟨G, 0, none⟩) n n] 27) := ⟨_, rfl⟩
    rw [← hW5]
    have hG1 : G < w1.heap.size := (Array.getElem?_eq_some_iff.1 HBG.out).1
    have hz5 : W5.heap.size = w1.heap.size + 1 := by rw [hW5]; simp
    have hGl := HGl.out
    have b01 := HB1.out
    have hz1 := b01.size
    have R0 : RqI W5 W5 G W5.heap.size n [] [] := ⟨fun _ _ _ => rfl, rfl, rfl, rfl, Nat.le_refl _, by rw [hW5]; have := alN HBG.out (.cells #[.slice (some ⟨G, 0, none⟩) n n] 27); simpa [rowsL] using this, (fun q hq => by cases hq), rfl⟩
    have hb5 : Below w.heap.size w W5 := by rw [hW5]; exact (HB0.out.trans (b01.mono HB0.out.size)).alloc (HB0.out.trans (b01.mono HB0.out.size)).size _
    have m0 : W5.heap[w.heap.size]? = some (.cells #[.slice ra rn rc, .slice ma mn mc, .slice fa fn fc, .slice ea en ec] 50 (0, 0)) := by rw [hW5]; exact alN ((b01.block _ (by omega)).trans Q1.out) _
    have m1 : W5.heap[w.heap.size + 1]? = some (.cells #[.slice none 0 0] 27 (0, 0)) := by rw [hW5]; exact alN ((b01.block _ (by omega)).trans Q2.out) _
    have m2 : W5.heap[w1.heap.size]? = some (.cells #[.slice (some ⟨G, 0, none⟩) n n] 27 (0, 0)) := by rw [hW5]; exact heap_alloc_new w1 _
    /- what every later world keeps -/
    have FK : Hid (∀ wr : World, (∀ j, j < W5.heap.size → j ≠ G → wr.heap[j]? = W5.heap[j]?) → wr.os = W5.os → wr.tape = W5.tape → wr.output = W5.output → W5.heap.size ≤ wr.heap.size → (wr.cell? ⟨w.heap.size, 0, none⟩ = some (.slice ra rn rc) ∧ wr.cell? ⟨w.heap.size, 1, none⟩ = some (.slice ma mn mc) ∧ wr.cell? ⟨w.heap.size, 2, none⟩ = some (.slice fa fn fc) ∧ wr.cell? ⟨w.heap.size, 3, none⟩ = some (.slice ea en ec)) ∧ wr.heap[w.heap.size + 1]? = some (.cells #[.slice none 0 0] 27 (0, 0)) ∧ wr.heap[w1.heap.size]? = some (.cells #[.slice (some ⟨G, 0, none⟩) n n] 27 (0, 0)) ∧ Below w.heap.size w wr) := hid (fun wr hk ho ht hu hsz => by
      have c0 := (hk w.heap.size (by omega) (by omega)).trans m0
      have c1 := (hk (w.heap.size + 1) (by omega) (by omega)).trans m1
      have c2 := (hk w1.heap.size (by omega) (by omega)).trans m2
      exact ⟨⟨cellOf c0 0, cellOf c0 1, cellOf c0 2, cellOf c0 3⟩, c1, c2, ⟨ho.trans hb5.os, ht.trans hb5.tape, hu.trans hb5.output, Nat.le_trans hb5.size hsz, fun j hj => (hk j (by omega) (by omega)).trans (hb5.block j hj)⟩⟩)
    have HR0 := hid R0
    have hGW : G < W5.heap.size := by omega
    have hGne : w.heap.size + 2 ≤ G := by omega
    clear R0 hb5 m0 m1 m2 b01 hW5 hW0
    go_wp2
    go_loopg [8, 9] n (fun gg v8 v9 wr => ∃ (j at' : Nat) (rows : List (Sl × Rw 3)) (X : List (List (Vl × Vl))), j + gg = n ∧ X.length = j ∧ v9 = .int .i64 (j : Int) ∧ v8 = .int .i64 (at' : Int) ∧ at' ≤ bs.length ∧ RES = goD rwD bs gg at' X ∧ RqI W5 wr G W5.heap.size n rows X)
    case atStart => exact ⟨0, 0, [], [], by omega, rfl, rfl, rfl, Nat.zero_le _, HRES.out, HR0.out⟩
    case round =>
      obtain ⟨j, at', rows, X, hj, hX, rfl, rfl, hat, hres, hI⟩ := hrel
      have HI := hid hI
      have HX := hid hX
      obtain ⟨⟨r0, r1, r2, r3⟩, b1, b2, hbw⟩ := FK.out wr hI.bel hI.os hI.tape hI.output hI.size
      have q1 := cellOf b1 0
      have y1 := freeOf b1 0
      have q2 := cellOf b2 0
      have y2 := freeOf b2 0
      simp only [List.getElem?_toArray, List.getElem?_cons_zero] at q1 q2
      have HB := hid hbw
      have B1 := hid b1
      have B2 := hid b2
      have hsz := hI.size
      clear hI hX hbw b1 b2
      cases gk with
      | zero =>
        have hjm : j = n := by omega
        subst hjm
        have Hres : Hid (RES = some (X, at')) := hid hres
        clear hres hj
        have hlen : rows.length = j := by rw [HI.out.len, HX.out]
        have hst := HI.out.out hlen (by omega)
        have HST := hid hst
        have hstr := HST.out.str
        have KJ := hid (KI.out wr HB.out (some ⟨G, 0, none⟩) j j rows hstr)
        rw [stV_of HI.out.same] at KJ
        obtain ⟨S, hS⟩ : ∃ S, S = stV 1 p (rowsT X) := ⟨_, rfl⟩
        rw [← hS] at KJ
        have HS := hid hS
        have FW : Hid (∀ w2 : World, Below wr.heap.size wr w2 → w2.cell? ⟨w.heap.size + 1, 0, none⟩ = some (.slice none 0 0) ∧ w2.frozen? ⟨w.heap.size + 1, 0, none⟩ = false ∧ w2.cell? ⟨w1.heap.size, 0, none⟩ = some (.slice (some ⟨G, 0, none⟩) j j) ∧ w2.heap[w.heap.size + 1]? = some (.cells #[.slice none 0 0] 27 (0, 0)) ∧ StP 3 w2 (fun b => (b = G ∨ W5.heap.size ≤ b) ∧ b < wr.heap.size) (some ⟨G, 0, none⟩) j rows ∧ Below w.heap.size w w2) := hid (fun w2 hb => by
          have b1 := (hb.block _ (Array.getElem?_eq_some_iff.1 B1.out).1).trans B1.out
          have b2 := (hb.block _ (Array.getElem?_eq_some_iff.1 B2.out).1).trans B2.out
          exact ⟨cellOf b1 0, freeOf b1 0, cellOf b2 0, b1, HST.out.keep (fun b hA => hb.block b hA.2), HB.out.trans (hb.mono HB.out.size)⟩)
        clear hst hstr hS KI hlen
        by_cases hlt : at' < bs.length
        · have hltI : ¬ (at' : Int) = (bs.length : Int) := by omega
          have HN : Hid (resD p bs = none) := hid (by rw [HRD.out, Hres.out]; unfold resOf; simp only; rw [if_neg (by omega)])
          go_wp2
          have t0 := cellOf (set_cells B1.out (.slice none 0 0)) 0
          simp only [List.getElem?_toArray, List.getElem?_cons_zero] at t0
          refine bodyPost_ret (v := .tuple #[.agg #[.slice none 0 0], .int .i64 40]) (by simp [results, Try.results35, go_sem, t0]) rfl ⟨HB.out.setCell (p := ⟨w.heap.size + 1, 0, none⟩) (by show w.heap.size ≤ w.heap.size + 1; omega) _, by rw [HN.out]⟩
        · have hltI : (at' : Int) = (bs.length : Int) := by omega
          have hatE : at' = bs.length := by omega
          cases S with
          | false =>
            have HN : Hid (resD p bs = none) := hid (by rw [HRD.out, Hres.out]; unfold resOf; simp only; rw [if_neg (by rw [← HS.out]; simp)])
            go_wp2_with (go_at_call 30; (refine (Hid.out KJ).mono ?_; rintro e w2 ⟨rfl, hb2⟩; obtain ⟨c1, c2, c3, c4, c5, c6⟩ := FW.out w2 hb2; have C4 := hid c4; have C6 := hid c6; clear hb2 c4 c5 c6 q1 y1 q2 y2))
            have t0 := cellOf (set_cells C4.out (.slice none 0 0)) 0
            simp only [List.getElem?_toArray, List.getElem?_cons_zero] at t0
            refine bodyPost_ret (v := .tuple #[.agg #[.slice none 0 0], .int .i64 40]) (by simp [results, Try.results35, go_sem, t0]) rfl ⟨C6.out.setCell (p := ⟨w.heap.size + 1, 0, none⟩) (by show w.heap.size ≤ w.heap.size + 1; omega) _, by rw [HN.out]⟩
          | true =>
            have HY : Hid (resD p bs = some X) := hid (by rw [HRD.out, Hres.out]; unfold resOf; simp only; rw [if_pos ⟨hatE, HS.out.symm⟩])
            go_wp2_with (go_at_call 30; (refine (Hid.out KJ).mono ?_; rintro e w2 ⟨rfl, hb2⟩; obtain ⟨c1, c2, c3, c4, c5, c6⟩ := FW.out w2 hb2; have C4 := hid c4; have C5 := hid c5; have C6 := hid c6; have hs2 := hb2.size; clear hb2 c4 c5 c6 q1 y1 q2 y2))
            have t0 := cellOf (set_cells C4.out (.slice (some ⟨G, 0, none⟩) j j)) 0
            simp only [List.getElem?_toArray, List.getElem?_cons_zero] at t0
            refine bodyPost_ret (v := .tuple #[.agg #[.slice (some ⟨G, 0, none⟩) j j], .int .i64 0]) (by simp [results, Try.results35, go_sem, t0]) rfl ⟨C6.out.setCell (p := ⟨w.heap.size + 1, 0, none⟩) (by show w.heap.size ≤ w.heap.size + 1; omega) _, ?_⟩
            rw [HY.out]
            have hs3 : (w2.setCell ⟨w.heap.size + 1, 0, none⟩ (.slice (some ⟨G, 0, none⟩) j j)).heap.size = w2.heap.size := by simp [World.setCell]
            exact ⟨some ⟨G, 0, none⟩, j, j, rows, rfl, (C5.out.keep (fun b hA => Below.heap_setCell _ _ _ _ (by show b ≠ w.heap.size + 1; omega))).imp (fun b hA => ⟨by omega, by rw [hs3]; omega⟩), Nat.le_refl _, HI.out.same⟩
      | succ gi =>
        have hjc : (j : Int) < (n : Int) := by omega
        have hj0 : (0 : Int) ≤ (j : Int) := by omega
        have hatI : (at' : Int) ≤ (bs.length : Int) := by omega
        have hat0 : (0 : Int) ≤ (at' : Int) := by omega
        have Hj := hid hj
        have Hr0 := hid hres
        have hRd := H.out.below (Nat.le_refl _) HB.out
        clear hres hj
        by_cases hcc : cap = at'
        · have hcc' := hcc.symm
          subst hcc'
          clear hcc
          have hnil : dec (bs.drop at') = none := by rw [List.drop_of_length_le hcap]; rfl
          have K60 := hid (refUint_any wr _ _ hRd.slA (by rw [List.length_drop]; omega))
          rw [hnil] at K60
          simp only [uintV] at K60
          have HN : Hid (resD p bs = none) := hid (by rw [HRD.out, Hr0.out]; simp only [goD, rwD, hnil]; rfl)
          clear hRd hnil
          go_wp2_with (go_at_call 60; (refine (Hid.out K60).mono ?_; rintro e w2 ⟨rfl, rfl⟩))
          have t0 := cellOf (set_cells B1.out (.slice none 0 0)) 0
          simp only [List.getElem?_toArray, List.getElem?_cons_zero] at t0
          refine bodyPost_ret (v := .tuple #[.agg #[.slice none 0 0], .int .i64 40]) (by simp [results, Try.results35, go_sem, t0]) rfl ⟨HB.out.setCell (p := ⟨w.heap.size + 1, 0, none⟩) (by show w.heap.size ≤ w.heap.size + 1; omega) _, by rw [HN.out]⟩
        · have K60 := hid (refUint_any wr _ _ (hRd.slB hat hcc) (by rw [List.length_drop]; omega))
          cases hv : dec (bs.drop at') with
          | none =>
            rw [hv] at K60
            simp only [uintV] at K60
            have HN : Hid (resD p bs = none) := hid (by rw [HRD.out, Hr0.out]; simp only [goD, rwD, hv]; rfl)
            clear hRd hv
            go_wp2_with (go_at_call 60; (refine (Hid.out K60).mono ?_; rintro e w2 ⟨rfl, rfl⟩))
            have t0 := cellOf (set_cells B1.out (.slice none 0 0)) 0
            simp only [List.getElem?_toArray, List.getElem?_cons_zero] at t0
            refine bodyPost_ret (v := .tuple #[.agg #[.slice none 0 0], .int .i64 40]) (by simp [results, Try.results35, go_sem, t0]) rfl ⟨HB.out.setCell (p := ⟨w.heap.size + 1, 0, none⟩) (by show w.heap.size ≤ w.heap.size + 1; omega) _, by rw [HN.out]⟩
          | some r =>
            obtain ⟨c, k0⟩ := r
            rw [hv] at K60
            simp only [uintV] at K60
            have hk0 := (dec_back (HBy.out.drop at') hv).2.2.1
            rw [List.length_drop] at hk0
            by_cases hc : 24 < c
            · have hc' : (24 : Int) < (c : Int) := by omega
              have HN : Hid (resD p bs = none) := hid (by rw [HRD.out, Hr0.out]; simp only [goD, rwD, hv]; rw [if_pos hc]; rfl)
              clear hRd hv
              go_wp2_with (go_at_call 60; (refine (Hid.out K60).mono ?_; rintro e w2 ⟨rfl, rfl⟩))
              have t0 := cellOf (set_cells B1.out (.slice none 0 0)) 0
              simp only [List.getElem?_toArray, List.getElem?_cons_zero] at t0
              refine bodyPost_ret (v := .tuple #[.agg #[.slice none 0 0], .int .i64 40]) (by simp [results, Try.results35, go_sem, t0]) rfl ⟨HB.out.setCell (p := ⟨w.heap.size + 1, 0, none⟩) (by show w.heap.size ≤ w.heap.size + 1; omega) _, by rw [HN.out]⟩
            · have hc' : ¬ (24 : Int) < (c : Int) := by omega
              have hcI : (c : Int) ≤ 24 := by omega
              obtain ⟨RW, hRW⟩ : ∃ RW, RW = goD entD (bs.drop at') c k0 [] := ⟨_, rfl⟩
              have HRW := hid hRW
              have HR1 : Hid (rwD (bs.drop at') = RW) := hid (by simp only [rwD, hv]; rw [if_neg hc, hRW])
              clear hRd hv hRW
              go_wp2_with (go_at_call 60; (refine (Hid.out K60).mono ?_; rintro e w2 ⟨rfl, rfl⟩))
              obtain ⟨wo, hwo⟩ : ∃ wo, wo = w2 := ⟨_, rfl⟩
              subst hwo
              have hjl := hid (show rows.length = j by rw [HI.out.len, HX.out])
              have hnr := hid (show n = rows.length + 1 + gi by have := Hj.out; have := hjl.out; omega)
              have HG0 : Hid (wo.heap[G]? = some (.cells (rowsL rows [.slice none 0 0] gi) 70 (0, 0))) := hid (by rw [HI.out.bg, ← rowsL_start]; have := hnr.out; congr 3; omega)
              have hGo : G < wo.heap.size := by omega
              have hk0I : (at' : Int) + (k0 : Int) ≤ (bs.length : Int) := by omega
              clear K60
              go_loopg [8, 13] c (fun gg v8 v13 wr => ∃ (i at2 fn fc : Nat) (fa : Option Addr) (ps : Rw 3) (acc : List (Vl × Vl)), i + gg = c ∧ acc.length = i ∧ v13 = .int .u64 (i : Int) ∧ v8 = .int .i64 (at2 : Int) ∧ at' ≤ at2 ∧ at2 ≤ bs.length ∧ RW = goD entD (bs.drop at') gg (at2 - at') acc ∧ RrJ wo wr G fa fn fc ps acc ∧ wr.heap[G]? = some (.cells (rowsL rows [.slice fa fn fc] gi) 70 (0, 0)))
              case atStart => exact ⟨0, at' + k0, 0, 0, none, [], [], by omega, rfl, rfl, by go_num, by omega, by omega, by rw [Nat.add_sub_cancel_left]; exact HRW.out, RrJ.nil _ _, HG0.out⟩
              case round =>
                obtain ⟨i, at2, rn2, rc2, ra2, ps, acc, hi, hacc, rfl, rfl, hat2, hat3, hres2, hJ, hbg⟩ := hrel
                have HJ := hid hJ
                have Hacc := hid hacc
                have HBG2 := hid hbg
                have hKb : ∀ b, b < W5.heap.size → b ≠ G → wr.heap[b]? = W5.heap[b]? := fun b hb hne => (hJ.blk b (by omega) hne).trans (HI.out.bel b hb hne)
                obtain ⟨_, b1, b2, hbw⟩ := FK.out wr hKb (hJ.os.trans HI.out.os) (hJ.tape.trans HI.out.tape) (hJ.output.trans HI.out.output) (by have := hJ.size; omega)
                have HB2 := hid hbw
                have B3 := hid b1
                have B4 := hid b2
                have hsz2 := hJ.size
                clear hacc hJ hbg hbw b1 b2 hKb q1 y1 q2 y2 r0 r1 r2 r3
                cases gk with
                | zero =>
                  have hic : i = c := by omega
                  subst hic
                  have HNX := hid (HI.out.next hGW hnr.out HJ.out (by have := Hacc.out; omega) HBG2.out)
                  have Hres : Hid (RES = goD rwD bs gi at2 (X ++ [acc])) := hid (by
                    rw [Hr0.out]; simp only [goD, HR1.out, hres2]
                    rw [Nat.add_sub_cancel' hat2])
                  clear hres2 hi
                  go_wp2
                  go_roundg gi
                  case measure => omega
                  case rel => exact ⟨j + 1, at2, _, _, by have := Hj.out; omega, by rw [List.length_append, HX.out]; rfl, by go_num, rfl, hat3, Hres.out, HNX.out⟩
                | succ gj =>
                  have hic : (i : Int) < (c : Int) := by omega
                  have hi0 : (0 : Int) ≤ (i : Int) := by omega
                  have hat4 : (at2 : Int) ≤ (bs.length : Int) := by omega
                  have hat5 : (0 : Int) ≤ (at2 : Int) := by omega
                  have Hi := hid hi
                  have Hr2 := hid hres2
                  have hRd := H.out.below (Nat.le_refl _) HB2.out
                  have hdd : (bs.drop at').drop (at2 - at') = bs.drop at2 := by rw [List.drop_drop]; congr 1; omega
                  have FV : Hid (∀ w2 : World, Below wr.heap.size wr w2 → w2.cell? ⟨w.heap.size + 1, 0, none⟩ = some (.slice none 0 0) ∧ w2.frozen? ⟨w.heap.size + 1, 0, none⟩ = false ∧ w2.cell? ⟨w1.heap.size, 0, none⟩ = some (.slice (some ⟨G, 0, none⟩) n n) ∧ w2.heap[w.heap.size + 1]? = some (.cells #[.slice none 0 0] 27 (0, 0)) ∧ w2.heap[G]? = some (.cells (rowsL rows [.slice ra2 rn2 rc2] gi) 70 (0, 0)) ∧ Below w.heap.size w w2) := hid (fun w2 hb => by
                    have b1 := (hb.block _ (Array.getElem?_eq_some_iff.1 B3.out).1).trans B3.out
                    have b2 := (hb.block _ (Array.getElem?_eq_some_iff.1 B4.out).1).trans B4.out
                    exact ⟨cellOf b1 0, freeOf b1 0, cellOf b2 0, b1, (hb.block _ (Array.getElem?_eq_some_iff.1 HBG2.out).1).trans HBG2.out, HB2.out.trans (hb.mono HB2.out.size)⟩)
                  clear hres2 hi
                  have OUT : Hid (entD (bs.drop at2) = none → resD p bs = none) := hid (fun he => by rw [HRD.out, Hr0.out]; simp only [goD, HR1.out, Hr2.out, hdd, he]; rfl)
                  by_cases hcc2 : cap = at2
                  · have hcc' := hcc2.symm
                    subst hcc'
                    clear hcc2
                    have hnil : valD (bs.drop at2) = none := by rw [List.drop_of_length_le hcap]; rfl
                    have K61 := hid (refValue_any wr _ _ hRd.slA (by rw [List.length_drop]; omega))
                    rw [hnil] at K61
                    simp only [ValP, valV] at K61
                    have HN : Hid (resD p bs = none) := hid (OUT.out (by unfold entD; rw [hnil]))
                    clear hRd hnil hdd
                    go_wp2_with (go_at_call 61; (refine (Hid.out K61).mono ?_; rintro e w2 ⟨hb2, rfl⟩; simp only [zeroV]; obtain ⟨c1, c2, c3, c4, c5, c6⟩ := FV.out w2 hb2; have C4 := hid c4; have C6 := hid c6; have z0 := fun o => cellOf (alN c4 o) 0; have y0 := fun o => freeOf (alN c4 o) 0; simp only [List.getElem?_toArray, List.getElem?_cons_zero] at z0; clear hb2 c4 c5 c6))
                    have t0 := cellOf (set_cells (alN C4.out (.cells #[.int .i64 0, .int .i64 0, .string ⟨#[]⟩, .int .i64 0, .slice none 0 0] 31)) (.slice none 0 0)) 0
                    simp only [List.getElem?_toArray, List.getElem?_cons_zero] at t0
                    exact bodyPost_ret (v := .tuple #[.agg #[.slice none 0 0], .int .i64 40]) (by simp [results, Try.results35, go_sem, t0]) rfl ⟨(C6.out.alloc C6.out.size _).setCell (p := ⟨w.heap.size + 1, 0, none⟩) (by show w.heap.size ≤ w.heap.size + 1; omega) _, by rw [HN.out]⟩
                  · have K61 := hid (refValue_any wr _ _ (hRd.slB hat3 hcc2) (by rw [List.length_drop]; omega))
                    cases hv : valD (bs.drop at2) with
                    | none =>
                      rw [hv] at K61
                      simp only [ValP, valV] at K61
                      have HN : Hid (resD p bs = none) := hid (OUT.out (by unfold entD; rw [hv]))
                      clear hRd hv hdd
                      go_wp2_with (go_at_call 61; (refine (Hid.out K61).mono ?_; rintro e w2 ⟨hb2, rfl⟩; simp only [zeroV]; obtain ⟨c1, c2, c3, c4, c5, c6⟩ := FV.out w2 hb2; have C4 := hid c4; have C6 := hid c6; have z0 := fun o => cellOf (alN c4 o) 0; have y0 := fun o => freeOf (alN c4 o) 0; simp only [List.getElem?_toArray, List.getElem?_cons_zero] at z0; clear hb2 c4 c5 c6))
                      have t0 := cellOf (set_cells (alN C4.out (.cells #[.int .i64 0, .int .i64 0, .string ⟨#[]⟩, .int .i64 0, .slice none 0 0] 31)) (.slice none 0 0)) 0
                      simp only [List.getElem?_toArray, List.getElem?_cons_zero] at t0
                      exact bodyPost_ret (v := .tuple #[.agg #[.slice none 0 0], .int .i64 40]) (by simp [results, Try.results35, go_sem, t0]) rfl ⟨(C6.out.alloc C6.out.size _).setCell (p := ⟨w.heap.size + 1, 0, none⟩) (by show w.heap.size ≤ w.heap.size + 1; omega) _, by rw [HN.out]⟩
                    | some r =>
                      obtain ⟨x, k1⟩ := r
                      rw [hv] at K61
                      simp only [ValP] at K61
                      have hk1 := valD_le (HBy.out.drop at2) hv
                      rw [List.length_drop] at hk1
                      have GX := hid (GV.of (HBy.out.drop at2) hv)
                      have HV1 := hid hv
                      have hat6 : (at2 : Int) + (k1 : Int) ≤ (bs.length : Int) := by omega
                      have hat7 : (0 : Int) ≤ (at2 : Int) + (k1 : Int) := by omega
                      obtain ⟨at3, hat8⟩ : ∃ at3, at3 = at2 + k1 := ⟨_, rfl⟩
                      have hat9 : (at2 : Int) + (k1 : Int) = (at3 : Int) := by omega
                      have hatA : (at3 : Int) ≤ (bs.length : Int) := by omega
                      have hatB : at3 ≤ bs.length := by omega
                      have hatC : (0 : Int) ≤ (at3 : Int) := by omega
                      have Hat8 := hid hat8
                      have hdr : (bs.drop at2).drop k1 = bs.drop at3 := by rw [List.drop_drop, hat8]
                      have KR := hid (fun (w2 : World) (hb : Below wr.heap.size wr w2) => hRd.below (Nat.le_refl _) hb)
                      clear hRd hv hat8
                      by_cases hcc3 : cap = at3
                      · have hcc' := hcc3.symm
                        subst hcc'
                        clear hcc3
                        have hnil : valD (bs.drop at3) = none := by rw [List.drop_of_length_le hcap]; rfl
                        have K61b := hid (fun (w2 : World) (hb : Below wr.heap.size wr w2) => refValue_any w2 _ _ (KR.out w2 hb).slA (by rw [List.length_drop]; omega))
                        simp only [hnil, ValP, valV] at K61b
                        have HN : Hid (resD p bs = none) := hid (OUT.out (by unfold entD; rw [HV1.out]; simp only; rw [hdr, hnil]))
                        clear hnil hdd hdr KR
                        go_upto_region 19 with (have hno := K61; go_at_call 61; (refine (Hid.out K61).mono ?_; rintro e w2 ⟨hb2, hx, rfl, rx, nx⟩; obtain ⟨hk1, hi1, ht1, hr1, ha1, hn1, hc1⟩ := hx; simp only [Hd.v]; have hb3 := hb2.alloc hb2.size (.cells #[.int .i64 hk1, .int .i64 hi1, .string ht1, .int .i64 hr1, .slice ha1 hn1 hc1] 31); have HBX := hid hb3; have RX := hid rx; have NX := hid nx; have hs2 := hb2.size; have HB61 := hid hb2; clear hb2 hb3 rx nx K61))
                        try rw [hat9]
                        go_wp2_with (go_at_call 61; (refine (K61b.out (w2.alloc (.cells #[.int .i64 hk1, .int .i64 hi1, .string ht1, .int .i64 hr1, .slice ha1 hn1 hc1] 31)) HBX.out).mono ?_; rintro e w3 ⟨hb2, rfl⟩; simp only [zeroV]; obtain ⟨c1, c2, c3, c4, c5, c6⟩ := FV.out w3 (HBX.out.trans (hb2.mono HBX.out.size)); have C4 := hid c4; have C6 := hid c6; have z0 := fun o => cellOf (alN c4 o) 0; have y0 := fun o => freeOf (alN c4 o) 0; simp only [List.getElem?_toArray, List.getElem?_cons_zero] at z0; clear hb2 c4 c5 c6))
                        have t0 := cellOf (set_cells (alN C4.out (.cells #[.int .i64 0, .int .i64 0, .string ⟨#[]⟩, .int .i64 0, .slice none 0 0] 31)) (.slice none 0 0)) 0
                        simp only [List.getElem?_toArray, List.getElem?_cons_zero] at t0
                        exact bodyPost_ret (v := .tuple #[.agg #[.slice none 0 0], .int .i64 40]) (by simp [results, Try.results35, go_sem, t0]) rfl ⟨(C6.out.alloc C6.out.size _).setCell (p := ⟨w.heap.size + 1, 0, none⟩) (by show w.heap.size ≤ w.heap.size + 1; omega) _, by rw [HN.out]⟩
                      · have K61b := hid (fun (w2 : World) (hb : Below wr.heap.size wr w2) => refValue_any w2 _ _ ((KR.out w2 hb).slB hatB hcc3) (by rw [List.length_drop]; omega))
                        cases hv2 : valD (bs.drop at3) with
                        | none =>
                          simp only [hv2, ValP, valV] at K61b
                          have HN : Hid (resD p bs = none) := hid (OUT.out (by unfold entD; rw [HV1.out]; simp only; rw [hdr, hv2]))
                          clear hv2 hdd hdr KR
                          go_upto_region 19 with (have hno := K61; go_at_call 61; (refine (Hid.out K61).mono ?_; rintro e w2 ⟨hb2, hx, rfl, rx, nx⟩; obtain ⟨hk1, hi1, ht1, hr1, ha1, hn1, hc1⟩ := hx; simp only [Hd.v]; have hb3 := hb2.alloc hb2.size (.cells #[.int .i64 hk1, .int .i64 hi1, .string ht1, .int .i64 hr1, .slice ha1 hn1 hc1] 31); have HBX := hid hb3; have RX := hid rx; have NX := hid nx; have hs2 := hb2.size; have HB61 := hid hb2; clear hb2 hb3 rx nx K61))
                          try rw [hat9]
                          go_wp2_with (go_at_call 61; (refine (K61b.out (w2.alloc (.cells #[.int .i64 hk1, .int .i64 hi1, .string ht1, .int .i64 hr1, .slice ha1 hn1 hc1] 31)) HBX.out).mono ?_; rintro e w3 ⟨hb2, rfl⟩; simp only [zeroV]; obtain ⟨c1, c2, c3, c4, c5, c6⟩ := FV.out w3 (HBX.out.trans (hb2.mono HBX.out.size)); have C4 := hid c4; have C6 := hid c6; have z0 := fun o => cellOf (alN c4 o) 0; have y0 := fun o => freeOf (alN c4 o) 0; simp only [List.getElem?_toArray, List.getElem?_cons_zero] at z0; clear hb2 c4 c5 c6))
                          have t0 := cellOf (set_cells (alN C4.out (.cells #[.int .i64 0, .int .i64 0, .string ⟨#[]⟩, .int .i64 0, .slice none 0 0] 31)) (.slice none 0 0)) 0
                          simp only [List.getElem?_toArray, List.getElem?_cons_zero] at t0
                          exact bodyPost_ret (v := .tuple #[.agg #[.slice none 0 0], .int .i64 40]) (by simp [results, Try.results35, go_sem, t0]) rfl ⟨(C6.out.alloc C6.out.size _).setCell (p := ⟨w.heap.size + 1, 0, none⟩) (by show w.heap.size ≤ w.heap.size + 1; omega) _, by rw [HN.out]⟩
                        | some r2 =>
                          obtain ⟨y, k2⟩ := r2
                          simp only [hv2, ValP] at K61b
                          have hk2 := valD_le (HBy.out.drop at3) hv2
                          rw [List.length_drop] at hk2
                          have GY := hid (GV.of (HBy.out.drop at3) hv2)
                          have HE : Hid (entD (bs.drop at2) = some ((x, y), k1 + k2)) := hid (by unfold entD; rw [HV1.out]; simp only; rw [hdr, hv2])
                          have Hres2 : Hid (RW = goD entD (bs.drop at') gj (at3 + k2 - at') (acc ++ [(x, y)])) := hid (by
                            rw [Hr2.out]; simp only [goD, hdd, HE.out]
                            congr 1
                            have := Hat8.out; omega)
                          have hatD : (at3 : Int) + (k2 : Int) ≤ (bs.length : Int) := by omega
                          clear hv2 hdd hdr KR
                          go_upto_region 19 with (have hno := K61; go_at_call 61; (refine (Hid.out K61).mono ?_; rintro e w2 ⟨hb2, hx, rfl, rx, nx⟩; obtain ⟨hk1, hi1, ht1, hr1, ha1, hn1, hc1⟩ := hx; simp only [Hd.v]; have hb3 := hb2.alloc hb2.size (.cells #[.int .i64 hk1, .int .i64 hi1, .string ht1, .int .i64 hr1, .slice ha1 hn1 hc1] 31); have HBX := hid hb3; have RX := hid rx; have NX := hid nx; have hs2 := hb2.size; have HB61 := hid hb2; clear hb2 hb3 rx nx K61))
                          try rw [hat9]
                          go_upto_region 23 with (go_at_call 61; (refine (K61b.out (w2.alloc (.cells #[.int .i64 hk1, .int .i64 hi1, .string ht1, .int .i64 hr1, .slice ha1 hn1 hc1] 31)) HBX.out).mono ?_; rintro e w3 ⟨hb3, hy, rfl, ry, ny⟩; obtain ⟨hk2, hi2, ht2, hr2, ha2, hn2, hc2⟩ := hy; simp only [Hd.v]; have HB3 := hid hb3; have RY := hid ry; have NY := hid ny; have hs3 := hb3.size; clear hb3 ry ny K61b))
                          have HWX : Hid (Below wr.heap.size wr (w3.alloc (.cells #[.int .i64 hk2, .int .i64 hi2, .string ht2, .int .i64 hr2, .slice ha2 hn2 hc2] 31))) := hid ((HBX.out.trans (HB3.out.mono HBX.out.size)).alloc (HBX.out.trans (HB3.out.mono HBX.out.size)).size _)
                          obtain ⟨c1, c2, c3, c4, c5, c6⟩ := FV.out _ HWX.out
                          have ck := (Below.heap_alloc w3 (.cells #[.int .i64 hk2, .int .i64 hi2, .string ht2, .int .i64 hr2, .slice ha2 hn2 hc2] 31) _ (by have := hs3; simp at this; omega)).trans ((HB3.out.block w2.heap.size (by simp)).trans (heap_alloc_new w2 (.cells #[.int .i64 hk1, .int .i64 hi1, .string ht1, .int .i64 hr1, .slice ha1 hn1 hc1] 31)))
                          have cv := heap_alloc_new w3 (.cells #[.int .i64 hk2, .int .i64 hi2, .string ht2, .int .i64 hr2, .slice ha2 hn2 hc2] 31)
                          obtain ⟨Wc, hWc⟩ : ∃ Wc, Wc = w3.alloc (.cells #[.int .i64 hk2, .int .i64 hi2, .string ht2, .int .i64 hr2, .slice ha2 hn2 hc2] 31) := ⟨_, rfl⟩
                          have hzc : Wc.heap.size = w3.heap.size + 1 := by rw [hWc]; simp
                          have RXc : Hid (Rep Wc x ⟨hk1, hi1, ht1, hr1, ha1, hn1, hc1⟩) := hid (RX.out.below (Nat.le_refl _) (by rw [hWc]; have := HB3.out; exact (((Below.refl _ w2).alloc (Nat.le_refl _) _).trans (this.mono (by simp))).alloc (by simp at hs3; omega) _))
                          have RYc : Hid (Rep Wc y ⟨hk2, hi2, ht2, hr2, ha2, hn2, hc2⟩) := hid (RY.out.below (Nat.le_refl _) (by rw [hWc]; exact (Below.refl _ w3).alloc (Nat.le_refl _) _))
                          rw [← hWc] at c1 c2 c3 c4 c5 c6 ck cv HWX ⊢
                          have hg0 : Wc.cell? ⟨G, j, none⟩ = some (.slice ra2 rn2 rc2) := by rw [cellOf c5 j, ← hjl.out]; exact rowsL_at _ _ _
                          have KEEP : Hid (∀ W : World, (∀ b, b = w1.heap.size ∨ b = w2.heap.size ∨ b = w3.heap.size → W.heap[b]? = Wc.heap[b]?) → W.cell? ⟨w1.heap.size, 0, none⟩ = some (.slice (some ⟨G, 0, none⟩) n n) ∧ W.cell? ⟨w2.heap.size, 0, none⟩ = some (.int .i64 hk1) ∧ W.cell? ⟨w2.heap.size, 1, none⟩ = some (.int .i64 hi1) ∧ W.cell? ⟨w2.heap.size, 2, none⟩ = some (.string ht1) ∧ W.cell? ⟨w2.heap.size, 3, none⟩ = some (.int .i64 hr1) ∧ W.cell? ⟨w2.heap.size, 4, none⟩ = some (.slice ha1 hn1 hc1) ∧ W.cell? ⟨w3.heap.size, 0, none⟩ = some (.int .i64 hk2) ∧ W.cell? ⟨w3.heap.size, 1, none⟩ = some (.int .i64 hi2) ∧ W.cell? ⟨w3.heap.size, 2, none⟩ = some (.string ht2) ∧ W.cell? ⟨w3.heap.size, 3, none⟩ = some (.int .i64 hr2) ∧ W.cell? ⟨w3.heap.size, 4, none⟩ = some (.slice ha2 hn2 hc2)) := hid (fun W h => by
                            have e1 := h _ (.inl rfl)
                            have e2 := (h _ (.inr (.inl rfl))).trans ck
                            have e3 := (h _ (.inr (.inr rfl))).trans cv
                            refine ⟨?_, cellOf e2 0, cellOf e2 1, cellOf e2 2, cellOf e2 3, cellOf e2 4, cellOf e3 0, cellOf e3 1, cellOf e3 2, cellOf e3 3, cellOf e3 4⟩
                            rw [← c3]; unfold World.cell?; simp only; rw [e1])
                          have C5 := hid c5
                          have hw1c : w1.heap.size < Wc.heap.size := World.block_lt_of_cell? Wc _ c3
                          have hrl : (ps.map (enT 3)).length ≤ 1000000 := by rw [List.length_map, HJ.out.len, Hacc.out]; omega
                          clear c1 c2 c4 c5 c6 ck cv hWc
                          have hs3' : w2.heap.size + 1 ≤ w3.heap.size := by have := hs3; simpa using this
                          have HWD : Hid (Below wr.heap.size wr (Wc.drew.alloc (.cells #[.int .i64 hk1, .int .i64 hi1, .string ht1, .int .i64 hr1, .slice ha1 hn1 hc1, .int .i64 hk2, .int .i64 hi2, .string ht2, .int .i64 hr2, .slice ha2 hn2 hc2] 81))) := hid (HWX.out.drew.alloc HWX.out.drew.size _)
                          have HR := hid (HJ.out.row.below (Nat.le_refl _) HWD.out)
                          have hg1 : (Wc.alloc (.cells #[.int .i64 hk1, .int .i64 hi1, .string ht1, .int .i64 hr1, .slice ha1 hn1 hc1, .int .i64 hk2, .int .i64 hi2, .string ht2, .int .i64 hr2, .slice ha2 hn2 hc2] 81)).cell? ⟨G, j, none⟩ = some (.slice ra2 rn2 rc2) := by rw [cellOf (alN C5.out _) j, ← hjl.out]; exact rowsL_at _ _ _
                          have hGc : G < Wc.heap.size := World.block_lt_of_cell? Wc _ hg0
                          have hKA : ∀ b, b = w1.heap.size ∨ b = w2.heap.size ∨ b = w3.heap.size → (Wc.drew.alloc (.cells #[.int .i64 hk1, .int .i64 hi1, .string ht1, .int .i64 hr1, .slice ha1 hn1 hc1, .int .i64 hk2, .int .i64 hi2, .string ht2, .int .i64 hr2, .slice ha2 hn2 hc2] 81)).heap[b]? = Wc.heap[b]? := fun b hb => (Below.heap_alloc Wc.drew _ _ (show b < Wc.heap.size by omega))
                          have hw2c : w2.heap.size < Wc.heap.size := by omega
                          have hw3c : w3.heap.size < Wc.heap.size := by omega
                          have hBo : wo.heap.size ≤ (Wc.drew.alloc (.cells #[.int .i64 hk1, .int .i64 hi1, .string ht1, .int .i64 hr1, .slice ha1 hn1 hc1, .int .i64 hk2, .int .i64 hi2, .string ht2, .int .i64 hr2, .slice ha2 hn2 hc2] 81)).heap.size := by have := HWD.out.size; omega
                          clear hzc
                          refine wp_region_held_drew (S := fun W => W.cell? ⟨w1.heap.size, 0, none⟩ = some (.slice (some ⟨G, 0, none⟩) n n) ∧ W.cell? ⟨w2.heap.size, 0, none⟩ = some (.int .i64 hk1) ∧ W.cell? ⟨w2.heap.size, 1, none⟩ = some (.int .i64 hi1) ∧ W.cell? ⟨w2.heap.size, 2, none⟩ = some (.string ht1) ∧ W.cell? ⟨w2.heap.size, 3, none⟩ = some (.int .i64 hr1) ∧ W.cell? ⟨w2.heap.size, 4, none⟩ = some (.slice ha1 hn1 hc1) ∧ W.cell? ⟨w3.heap.size, 0, none⟩ = some (.int .i64 hk2) ∧ W.cell? ⟨w3.heap.size, 1, none⟩ = some (.int .i64 hi2) ∧ W.cell? ⟨w3.heap.size, 2, none⟩ = some (.string ht2) ∧ W.cell? ⟨w3.heap.size, 3, none⟩ = some (.int .i64 hr2) ∧ W.cell? ⟨w3.heap.size, 4, none⟩ = some (.slice ha2 hn2 hc2)) (by kernel_rfl) (KEEP.out _ (fun b _ => rfl)) (fun hHeld => ?_)
                          refine wpAnyH_take (i := 0) (oi := ({ dst := some 85, op := Go.Op.fieldAddr 27 (Go.Operand.tmp 6) 0, type := 0, pos := "windlassref4.go:167", after := #[], guard := none } : Oper)) (v := .pointer (some ⟨w1.heap.size, 0, none⟩)) rfl (by kernel_rfl) (by kernel_rfl) (by kernel_rfl) (fun _ _ _ h => h) (Or.inl ⟨by rfl, ?_⟩) (by assumption) ?_
                          · intro w hSw; (try dsimp only at hSw); go_simp
                          try simp only [Act.put, List.setIfInBounds_toArray, List.set_cons_zero, List.set_cons_succ]
                          refine wpAnyH_take (i := 1) (oi := ({ dst := some 86, op := Go.Op.load 25 (Go.Operand.tmp 85), type := 25, pos := "windlassref4.go:167", after := #[{ on := 0, ground := Go.Ground.data }], guard := none } : Oper)) (v := .slice (some ⟨G, 0, none⟩) n n) rfl (by kernel_rfl) (by kernel_rfl) (by kernel_rfl) (fun _ _ _ h => h) (Or.inl ⟨by rfl, ?_⟩) (by assumption) ?_
                          · intro w hSw; (try dsimp only at hSw); go_simp
                          try simp only [Act.put, List.setIfInBounds_toArray, List.set_cons_zero, List.set_cons_succ]
                          refine wpAnyH_take (i := 2) (oi := ({ dst := some 87, op := Go.Op.move (Go.Operand.tmp 9), type := 3, pos := "windlassref4.go:167", after := #[], guard := none } : Oper)) (v := .int .i64 (j : Int)) rfl (by kernel_rfl) (by kernel_rfl) (by kernel_rfl) (fun _ _ _ h => h) (Or.inl ⟨by rfl, ?_⟩) (by assumption) ?_
                          · intro w hSw; (try dsimp only at hSw); go_simp
                          try simp only [Act.put, List.setIfInBounds_toArray, List.set_cons_zero, List.set_cons_succ]
                          refine wpAnyH_take (i := 3) (oi := ({ dst := some 88, op := Go.Op.fieldAddr 27 (Go.Operand.tmp 6) 0, type := 0, pos := "windlassref4.go:167", after := #[], guard := none } : Oper)) (v := .pointer (some ⟨w1.heap.size, 0, none⟩)) rfl (by kernel_rfl) (by kernel_rfl) (by kernel_rfl) (fun _ _ _ h => h) (Or.inl ⟨by rfl, ?_⟩) (by assumption) ?_
                          · intro w hSw; (try dsimp only at hSw); go_simp
                          try simp only [Act.put, List.setIfInBounds_toArray, List.set_cons_zero, List.set_cons_succ]
                          refine wpAnyH_take (i := 4) (oi := ({ dst := some 89, op := Go.Op.load 25 (Go.Operand.tmp 88), type := 25, pos := "windlassref4.go:167", after := #[{ on := 3, ground := Go.Ground.data }], guard := none } : Oper)) (v := .slice (some ⟨G, 0, none⟩) n n) rfl (by kernel_rfl) (by kernel_rfl) (by kernel_rfl) (fun _ _ _ h => h) (Or.inl ⟨by rfl, ?_⟩) (by assumption) ?_
                          · intro w hSw; (try dsimp only at hSw); go_simp
                          try simp only [Act.put, List.setIfInBounds_toArray, List.set_cons_zero, List.set_cons_succ]
                          refine wpAnyH_take (i := 5) (oi := ({ dst := some 90, op := Go.Op.move (Go.Operand.tmp 9), type := 3, pos := "windlassref4.go:167", after := #[], guard := none } : Oper)) (v := .int .i64 (j : Int)) rfl (by kernel_rfl) (by kernel_rfl) (by kernel_rfl) (fun _ _ _ h => h) (Or.inl ⟨by rfl, ?_⟩) (by assumption) ?_
                          · intro w hSw; (try dsimp only at hSw); go_simp
                          try simp only [Act.put, List.setIfInBounds_toArray, List.set_cons_zero, List.set_cons_succ]
                          refine wpAnyH_take (i := 6) (oi := ({ dst := some 91, op := Go.Op.indexAddr 25 (Go.Operand.tmp 89) (Go.Operand.tmp 90), type := 0, pos := "windlassref4.go:167", after := #[{ on := 4, ground := Go.Ground.data }, { on := 5, ground := Go.Ground.data }], guard := none } : Oper)) (v := .pointer (some ⟨G, j, none⟩)) rfl (by kernel_rfl) (by kernel_rfl) (by kernel_rfl) (fun _ _ _ h => h) (Or.inl ⟨by rfl, ?_⟩) (by assumption) ?_
                          · intro w hSw; (try dsimp only at hSw); go_simp
                          try simp only [Act.put, List.setIfInBounds_toArray, List.set_cons_zero, List.set_cons_succ]
                          refine wpAnyH_take (i := 8) (oi := ({ dst := some 93, op := Go.Op.load 31 (Go.Operand.tmp 14), type := 31, pos := "windlassref4.go:167", after := #[], guard := none } : Oper)) (v := .agg #[.int .i64 hk1, .int .i64 hi1, .string ht1, .int .i64 hr1, .slice ha1 hn1 hc1]) rfl (by kernel_rfl) (by kernel_rfl) (by kernel_rfl) (fun _ _ _ h => h) (Or.inl ⟨by rfl, ?_⟩) (by assumption) ?_
                          · intro w hSw; (try dsimp only at hSw); go_simp
                          try simp only [Act.put, List.setIfInBounds_toArray, List.set_cons_zero, List.set_cons_succ]
                          refine wpAnyH_take (i := 9) (oi := ({ dst := some 94, op := Go.Op.load 31 (Go.Operand.tmp 17), type := 31, pos := "windlassref4.go:167", after := #[], guard := none } : Oper)) (v := .agg #[.int .i64 hk2, .int .i64 hi2, .string ht2, .int .i64 hr2, .slice ha2 hn2 hc2]) rfl (by kernel_rfl) (by kernel_rfl) (by kernel_rfl) (fun _ _ _ h => h) (Or.inl ⟨by rfl, ?_⟩) (by assumption) ?_
                          · intro w hSw; (try dsimp only at hSw); go_simp
                          try simp only [Act.put, List.setIfInBounds_toArray, List.set_cons_zero, List.set_cons_succ]
                          refine wpAnyH_take (i := 10) (oi := ({ dst := some 95, op := Go.Op.build 81 #[(0, Go.Operand.tmp 93), (1, Go.Operand.tmp 94)], type := 81, pos := "windlassref4.go:167", after := #[{ on := 8, ground := Go.Ground.data }, { on := 9, ground := Go.Ground.data }], guard := none } : Oper)) (v := .agg #[.int .i64 hk1, .int .i64 hi1, .string ht1, .int .i64 hr1, .slice ha1 hn1 hc1, .int .i64 hk2, .int .i64 hi2, .string ht2, .int .i64 hr2, .slice ha2 hn2 hc2]) rfl (by kernel_rfl) (by kernel_rfl) (by kernel_rfl) (fun _ _ _ h => h) (Or.inl ⟨by rfl, ?_⟩) (by assumption) ?_
                          · intro w hSw; (try dsimp only at hSw); go_simp
                          try simp only [Act.put, List.setIfInBounds_toArray, List.set_cons_zero, List.set_cons_succ]
                          refine wpAnyH_ready (rs := [7, 11]) (by kernel_rfl) (by simp) ?_
                          refine AllReadyH.cons (o := ({ dst := some 92, op := Go.Op.load 70 (Go.Operand.tmp 91), type := 70, pos := "windlassref4.go:167", after := #[{ on := 6, ground := Go.Ground.data }], guard := none } : Oper)) rfl (fun K hK => ?_) ?_
                          · go_simp
                            refine hK.out _ _ (KEEP.out _ (fun b _ => rfl)) (fun hHeldN => ?_)
                            clear hK K hHeld
                            have hHeld := hHeldN
                            clear hHeldN
                            try simp only [Act.put, List.setIfInBounds_toArray, List.set_cons_zero, List.set_cons_succ]
                            refine wpAnyH_ready (rs := [11]) (by kernel_rfl) (by simp) ?_
                            refine AllReadyH.cons (o := ({ dst := some 96, op := Go.Op.buildSlice 70 1 #[(0, Go.Operand.tmp 95)], type := 70, pos := "windlassref4.go:167", after := #[{ on := 10, ground := Go.Ground.data }], guard := none } : Oper)) rfl (fun K hK => ?_) AllReadyH.nil
                            go_simp
                            refine hK.out _ _ (KEEP.out _ hKA) (fun hHeldN => ?_)
                            clear hK K hHeld
                            have hHeld := hHeldN
                            clear hHeldN
                            try simp only [Act.put, List.setIfInBounds_toArray, List.set_cons_zero, List.set_cons_succ]
                            refine wpAnyH_ready (rs := [12]) (by kernel_rfl) (by simp) ?_
                            refine AllReadyH.cons (o := ({ dst := some 97, op := Go.Op.call { callee := Go.Callee.builtin Go.Builtin.append, args := #[Go.Operand.tmp 92, Go.Operand.tmp 96], argTypes := #[70, 70] }, type := 70, pos := "windlassref4.go:167", after := #[{ on := 7, ground := Go.Ground.data }, { on := 11, ground := Go.Ground.data }], guard := none } : Oper)) rfl (fun K hK => ?_) AllReadyH.nil
                            refine step_appEg rfl (.tmp 92) (.tmp 96) rfl (.slice ra2 rn2 rc2) ⟨⟨hk1, hi1, ht1, hr1, ha1, hn1, hc1⟩, ⟨hk2, hi2, ht2, hr2, ha2, hn2, hc2⟩⟩ Wc.heap.size rfl rfl (heap_alloc_new Wc.drew _) wo.heap.size _ HR.out hBo hrl ?_
                            intro v4 w4 hr4 hg4
                            obtain ⟨va, vc, e4, _⟩ := hr4.form
                            obtain ⟨vn, hvn⟩ : ∃ vn, vn = (ps.map (enT 3) ++ [(⟨⟨hk1, hi1, ht1, hr1, ha1, hn1, hc1⟩, ⟨hk2, hi2, ht2, hr2, ha2, hn2, hc2⟩⟩ : En)]).length := ⟨_, rfl⟩
                            rw [← hvn] at e4
                            subst e4
                            have hk4 : ∀ b, b < Wc.heap.size → (b < wo.heap.size ∨ wr.heap.size ≤ b) → w4.heap[b]? = Wc.heap[b]? := fun b hb ho => (hg4.1.block b (by simp; omega) (fun e => by have := HJ.out.row.own b e.symm; omega)).trans (Below.heap_alloc Wc.drew _ _ hb)
                            have hg5 := (hk4 G hGc (.inl hGo)).trans C5.out
                            have z4 : w4.cell? ⟨G, j, none⟩ = some (.slice ra2 rn2 rc2) := by rw [cellOf hg5 j, ← hjl.out]; exact rowsL_at _ _ _
                            have z5 := freeOf hg5 j
                            have HM := hid (HJ.out.more (m := j) hGo HWX.out GX.out GY.out RXc.out RYc.out NX.out (fun b e => by have := NY.out b e; simp at this; omega) ((Below.refl _ Wc).drew.alloc (Nat.le_refl _) _) hr4 hg4)
                            have HG5 : Hid ((w4.setCell ⟨G, j, none⟩ (.slice va vn vc)).heap[G]? = some (.cells (rowsL rows [.slice va vn vc] gi) 70 (0, 0))) := hid (by have := heap_setCell_at hg5 j (.slice va vn vc); rw [this, ← hjl.out, rowsL_set])
                            clear hr4 hg4 hg5 hvn
                            refine hK.out _ _ (KEEP.out _ (fun b hb => hk4 b (by omega) (by omega))) (fun hHeldN => ?_)
                            clear hK K hHeld
                            have hHeld := hHeldN
                            clear hHeldN
                            try simp only [Act.put, List.setIfInBounds_toArray, List.set_cons_zero, List.set_cons_succ]
                            refine wpAnyH_take (i := 13) (oi := ({ dst := some 98, op := Go.Op.indexAddr 25 (Go.Operand.tmp 86) (Go.Operand.tmp 87), type := 0, pos := "windlassref4.go:167", after := #[{ on := 1, ground := Go.Ground.data }, { on := 2, ground := Go.Ground.data }, { on := 0, ground := Go.Ground.phase }, { on := 1, ground := Go.Ground.phase }, { on := 2, ground := Go.Ground.phase }, { on := 3, ground := Go.Ground.phase }, { on := 4, ground := Go.Ground.phase }, { on := 5, ground := Go.Ground.phase }, { on := 6, ground := Go.Ground.phase }, { on := 7, ground := Go.Ground.phase }, { on := 8, ground := Go.Ground.phase }, { on := 9, ground := Go.Ground.phase }, { on := 10, ground := Go.Ground.phase }, { on := 11, ground := Go.Ground.phase }, { on := 12, ground := Go.Ground.phase }], guard := none } : Oper)) (v := .pointer (some ⟨G, j, none⟩)) rfl (by kernel_rfl) (by kernel_rfl) (by kernel_rfl) (fun _ _ _ h => h) (Or.inl ⟨by rfl, ?_⟩) (by assumption) ?_
                            · intro w hSw; (try dsimp only at hSw); go_simp
                            try simp only [Act.put, List.setIfInBounds_toArray, List.set_cons_zero, List.set_cons_succ]
                            refine wpAnyH_ready (rs := [14]) (by kernel_rfl) (by simp) ?_
                            refine AllReadyH.cons (o := ({ dst := none, op := Go.Op.store 70 (Go.Operand.tmp 98) (Go.Operand.tmp 97), type := 0, pos := "windlassref4.go:167", after := #[{ on := 13, ground := Go.Ground.data }, { on := 12, ground := Go.Ground.data }, { on := 12, ground := Go.Ground.chain }, { on := 0, ground := Go.Ground.phase }, { on := 1, ground := Go.Ground.phase }, { on := 2, ground := Go.Ground.phase }, { on := 3, ground := Go.Ground.phase }, { on := 4, ground := Go.Ground.phase }, { on := 5, ground := Go.Ground.phase }, { on := 6, ground := Go.Ground.phase }, { on := 7, ground := Go.Ground.phase }, { on := 8, ground := Go.Ground.phase }, { on := 9, ground := Go.Ground.phase }, { on := 10, ground := Go.Ground.phase }, { on := 11, ground := Go.Ground.phase }, { on := 12, ground := Go.Ground.phase }], guard := none } : Oper)) rfl (fun K hK => ?_) AllReadyH.nil
                            go_simp
                            refine hK.out _ _ (KEEP.out _ (fun b hb => (Below.heap_setCell _ _ _ _ (show b ≠ G by omega)).trans (hk4 b (by omega) (by omega)))) (fun hHeldN => ?_)
                            clear hK K hHeld
                            have hHeld := hHeldN
                            clear hHeldN
                            try simp only [Act.put, List.setIfInBounds_toArray, List.set_cons_zero, List.set_cons_succ]
                            refine wpAnyH_done (by kernel_rfl) ?_ _
                            go_wp2
                            go_roundg gj
                            case measure => omega
                            case rel => exact ⟨i + 1, at3 + k2, _, _, _, _, _, by have := Hi.out; omega, by rw [List.length_append, Hacc.out]; rfl, by go_num, by go_num, by have := Hat8.out; omega, by omega, Hres2.out, HM.out, HG5.out⟩
                          · refine AllReadyH.cons (o := ({ dst := some 96, op := Go.Op.buildSlice 70 1 #[(0, Go.Operand.tmp 95)], type := 70, pos := "windlassref4.go:167", after := #[{ on := 10, ground := Go.Ground.data }], guard := none } : Oper)) rfl (fun K hK => ?_) AllReadyH.nil
                            go_simp
                            refine hK.out _ _ (KEEP.out _ hKA) (fun hHeldN => ?_)
                            clear hK K hHeld
                            have hHeld := hHeldN
                            clear hHeldN
                            try simp only [Act.put, List.setIfInBounds_toArray, List.set_cons_zero, List.set_cons_succ]
                            refine wpAnyH_ready (rs := [7]) (by kernel_rfl) (by simp) ?_
                            refine AllReadyH.cons (o := ({ dst := some 92, op := Go.Op.load 70 (Go.Operand.tmp 91), type := 70, pos := "windlassref4.go:167", after := #[{ on := 6, ground := Go.Ground.data }], guard := none } : Oper)) rfl (fun K hK => ?_) AllReadyH.nil
                            go_simp
                            refine hK.out _ _ (KEEP.out _ hKA) (fun hHeldN => ?_)
                            clear hK K hHeld
                            have hHeld := hHeldN
                            clear hHeldN
                            try simp only [Act.put, List.setIfInBounds_toArray, List.set_cons_zero, List.set_cons_succ]
                            refine wpAnyH_ready (rs := [12]) (by kernel_rfl) (by simp) ?_
                            refine AllReadyH.cons (o := ({ dst := some 97, op := Go.Op.call { callee := Go.Callee.builtin Go.Builtin.append, args := #[Go.Operand.tmp 92, Go.Operand.tmp 96], argTypes := #[70, 70] }, type := 70, pos := "windlassref4.go:167", after := #[{ on := 7, ground := Go.Ground.data }, { on := 11, ground := Go.Ground.data }], guard := none } : Oper)) rfl (fun K hK => ?_) AllReadyH.nil
                            refine step_appEg rfl (.tmp 92) (.tmp 96) rfl (.slice ra2 rn2 rc2) ⟨⟨hk1, hi1, ht1, hr1, ha1, hn1, hc1⟩, ⟨hk2, hi2, ht2, hr2, ha2, hn2, hc2⟩⟩ Wc.heap.size rfl rfl (heap_alloc_new Wc.drew _) wo.heap.size _ HR.out hBo hrl ?_
                            intro v4 w4 hr4 hg4
                            obtain ⟨va, vc, e4, _⟩ := hr4.form
                            obtain ⟨vn, hvn⟩ : ∃ vn, vn = (ps.map (enT 3) ++ [(⟨⟨hk1, hi1, ht1, hr1, ha1, hn1, hc1⟩, ⟨hk2, hi2, ht2, hr2, ha2, hn2, hc2⟩⟩ : En)]).length := ⟨_, rfl⟩
                            rw [← hvn] at e4
                            subst e4
                            have hk4 : ∀ b, b < Wc.heap.size → (b < wo.heap.size ∨ wr.heap.size ≤ b) → w4.heap[b]? = Wc.heap[b]? := fun b hb ho => (hg4.1.block b (by simp; omega) (fun e => by have := HJ.out.row.own b e.symm; omega)).trans (Below.heap_alloc Wc.drew _ _ hb)
                            have hg5 := (hk4 G hGc (.inl hGo)).trans C5.out
                            have z4 : w4.cell? ⟨G, j, none⟩ = some (.slice ra2 rn2 rc2) := by rw [cellOf hg5 j, ← hjl.out]; exact rowsL_at _ _ _
                            have z5 := freeOf hg5 j
                            have HM := hid (HJ.out.more (m := j) hGo HWX.out GX.out GY.out RXc.out RYc.out NX.out (fun b e => by have := NY.out b e; simp at this; omega) ((Below.refl _ Wc).drew.alloc (Nat.le_refl _) _) hr4 hg4)
                            have HG5 : Hid ((w4.setCell ⟨G, j, none⟩ (.slice va vn vc)).heap[G]? = some (.cells (rowsL rows [.slice va vn vc] gi) 70 (0, 0))) := hid (by have := heap_setCell_at hg5 j (.slice va vn vc); rw [this, ← hjl.out, rowsL_set])
                            clear hr4 hg4 hg5 hvn
                            refine hK.out _ _ (KEEP.out _ (fun b hb => hk4 b (by omega) (by omega))) (fun hHeldN => ?_)
                            clear hK K hHeld
                            have hHeld := hHeldN
                            clear hHeldN
                            try simp only [Act.put, List.setIfInBounds_toArray, List.set_cons_zero, List.set_cons_succ]
                            refine wpAnyH_take (i := 13) (oi := ({ dst := some 98, op := Go.Op.indexAddr 25 (Go.Operand.tmp 86) (Go.Operand.tmp 87), type := 0, pos := "windlassref4.go:167", after := #[{ on := 1, ground := Go.Ground.data }, { on := 2, ground := Go.Ground.data }, { on := 0, ground := Go.Ground.phase }, { on := 1, ground := Go.Ground.phase }, { on := 2, ground := Go.Ground.phase }, { on := 3, ground := Go.Ground.phase }, { on := 4, ground := Go.Ground.phase }, { on := 5, ground := Go.Ground.phase }, { on := 6, ground := Go.Ground.phase }, { on := 7, ground := Go.Ground.phase }, { on := 8, ground := Go.Ground.phase }, { on := 9, ground := Go.Ground.phase }, { on := 10, ground := Go.Ground.phase }, { on := 11, ground := Go.Ground.phase }, { on := 12, ground := Go.Ground.phase }], guard := none } : Oper)) (v := .pointer (some ⟨G, j, none⟩)) rfl (by kernel_rfl) (by kernel_rfl) (by kernel_rfl) (fun _ _ _ h => h) (Or.inl ⟨by rfl, ?_⟩) (by assumption) ?_
                            · intro w hSw; (try dsimp only at hSw); go_simp
                            try simp only [Act.put, List.setIfInBounds_toArray, List.set_cons_zero, List.set_cons_succ]
                            refine wpAnyH_ready (rs := [14]) (by kernel_rfl) (by simp) ?_
                            refine AllReadyH.cons (o := ({ dst := none, op := Go.Op.store 70 (Go.Operand.tmp 98) (Go.Operand.tmp 97), type := 0, pos := "windlassref4.go:167", after := #[{ on := 13, ground := Go.Ground.data }, { on := 12, ground := Go.Ground.data }, { on := 12, ground := Go.Ground.chain }, { on := 0, ground := Go.Ground.phase }, { on := 1, ground := Go.Ground.phase }, { on := 2, ground := Go.Ground.phase }, { on := 3, ground := Go.Ground.phase }, { on := 4, ground := Go.Ground.phase }, { on := 5, ground := Go.Ground.phase }, { on := 6, ground := Go.Ground.phase }, { on := 7, ground := Go.Ground.phase }, { on := 8, ground := Go.Ground.phase }, { on := 9, ground := Go.Ground.phase }, { on := 10, ground := Go.Ground.phase }, { on := 11, ground := Go.Ground.phase }, { on := 12, ground := Go.Ground.phase }], guard := none } : Oper)) rfl (fun K hK => ?_) AllReadyH.nil
                            go_simp
                            refine hK.out _ _ (KEEP.out _ (fun b hb => (Below.heap_setCell _ _ _ _ (show b ≠ G by omega)).trans (hk4 b (by omega) (by omega)))) (fun hHeldN => ?_)
                            clear hK K hHeld
                            have hHeld := hHeldN
                            clear hHeldN
                            try simp only [Act.put, List.setIfInBounds_toArray, List.set_cons_zero, List.set_cons_succ]
                            refine wpAnyH_done (by kernel_rfl) ?_ _
                            go_wp2
                            go_roundg gj
                            case measure => omega
                            case rel => exact ⟨i + 1, at3 + k2, _, _, _, _, _, by have := Hi.out; omega, by rw [List.length_append, Hacc.out]; rfl, by go_num, by go_num, by have := Hat8.out; omega, by omega, Hres2.out, HM.out, HG5.out⟩
end Go.Proofs.Ytenfgahedbeekaa

