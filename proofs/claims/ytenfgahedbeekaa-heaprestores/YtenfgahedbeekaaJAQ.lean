/- heap.readRow of whatever bytes; heap.Restore. -/
import Derived.Test.YtenfgahedbeekaaJAP
namespace Go.Proofs.Ytenfgahedbeekaa
open Go.RowKit Go.Deep Go.Shelf
set_option linter.unusedVariables false
set_option linter.unusedSimpArgs false

set_option maxRecDepth 100000 in
set_option maxHeartbeats 1000000 in
theorem readRow_any (w : World) (a : Option Addr) (cap : Nat) (bs : List Nat) (h : Rd w (.slice a bs.length cap) bs) (hl : bs.length ≤ 1000000000) :
    Calls Try.prog 59 #[.slice a bs.length cap] w (RrP w (rwD bs)) := by
  have K1 := hid (uint_any w _ bs h (by omega))
  have hby : Byt bs := by obtain ⟨_, _, _, _, hb, _⟩ := h; exact hb
  cases hd : dec bs with
  | none =>
    have hr : rwD bs = none := by unfold rwD; rw [hd]
    have Hr := hid hr
    rw [hd] at K1
    simp only [uintV] at K1
    clear h hby hd hr
    go_enter Try.func59, Try.ntmps59
    go_wp2_with (go_at_call 86; (refine (Hid.out K1).mono ?_; rintro e w1 ⟨rfl, rfl⟩))
    refine bodyPost_ret (v := .tuple #[.slice none 0 0, .int .i64 0, .bool false]) (by simp [results, Try.results59, go_sem]) rfl ?_
    rw [Hr.out]
    exact ⟨Below.refl _ _, rfl⟩
  | some r =>
    obtain ⟨c, i⟩ := r
    have hc64 := (dec_back hby hd).2.1
    by_cases hc : 24 < c
    · have hr : rwD bs = none := by unfold rwD; rw [hd]; simp only; rw [if_pos hc]
      have Hr := hid hr
      rw [hd] at K1
      simp only [uintV] at K1
      have hcI : (24 : Int) < (c : Int) := by omega
      clear h hby hd hr
      go_enter Try.func59, Try.ntmps59
      go_wp2_with (go_at_call 86; (refine (Hid.out K1).mono ?_; rintro e w1 ⟨rfl, rfl⟩))
      refine bodyPost_ret (v := .tuple #[.slice none 0 0, .int .i64 0, .bool false]) (by simp [results, Try.results59, go_sem]) rfl ?_
      rw [Hr.out]
      exact ⟨Below.refl _ _, rfl⟩
    · have hr : rwD bs = goD entD bs c i [] := by unfold rwD; rw [hd]; simp only; rw [if_neg hc]
      rw [hr]
      exact readRow_go w a cap bs (hid (fun w2 hb => h.below (Nat.le_refl _) hb)) hl c i hd (by omega)
theorem wpList_appM {ops : Array Oper} {rest : List Oper} {o : Oper} {a : Act} {Q : Exit → Act → World → Prop} (w : World) (hgd : o.guard = none) (sl x : Operand)
    (ho : o.op = .call { callee := .builtin .append, args := #[sl, x], argTypes := #[25, 25] }) (v : Value) (h : Sl) (hs : a.eval sl = v) (hx : a.eval x = .slice (some ⟨w.heap.size, 0, none⟩) 1 1)
    (B : Nat) (ss : List Sl) (hr : MRow w B v ss) (hB : B ≤ w.heap.size) (hl : ss.length ≤ 1000000)
    (k : ∀ v' w', MRow w' B v' (ss ++ [h]) → Grw (w.alloc (.cells #[h.v] 70)) v w' v' → wpList Try.prog ops Q rest (a.put o.dst v') w') :
    wpList Try.prog ops Q (o :: rest) a (w.alloc (.cells #[h.v] 70)) := by
  refine wpList_plain hgd fun K hK => ?_
  have hr' : MRow (w.alloc (.cells #[h.v] 70)) B v ss := hr.below (Nat.le_refl _) ((Below.refl _ w).alloc (Nat.le_refl _) _)
  obtain ⟨v', w', hrun, h2, h3⟩ := run_appM _ o.type B v ss h w.heap.size hr' (heap_alloc_new w _) (by simp; omega) hl
  unfold Oper.wp execOp
  simp only [ho, resolve, invoke, builtin, Sem.run_bind, Sem.run_pure, Result.andThen_ok, List.map_toArray, List.map_cons, List.map_nil, hs, hx, hrun]
  exact hK _ _ (k v' w' h2 h3)
theorem readRow_v (w : World) (v : Value) (bs : List Nat) (h : Rd w v bs) (hl : bs.length ≤ 1000000000) : Calls Try.prog 59 #[v] w (RrP w (rwD bs)) := by
  obtain ⟨a, cap, rfl⟩ := h.len
  exact readRow_any w a cap bs h hl
theorem isV_nrm (p : Pg) (t : TyP) (v : VT 3) : isV 1 p t (nrm v) = isV 1 p t v := rfl
theorem entV_nrm (p : Pg) (m : Mp) (row : Rw 3) (i : Nat) : entV 1 p m (row.map nrmP) i = entV 1 p m row i := by
  unfold entV
  rw [List.getElem?_map]
  cases h : row[i]? with
  | none => rfl
  | some q =>
    simp only [Option.map_some, nrmP, isV_nrm]
    rw [List.getElem?_map]
    cases h2 : row[i - 1]? with
    | none => rfl
    | some o => rfl
theorem mapV_nrm (p : Pg) (m : Mp) (row : Rw 3) : mapV 1 p m (row.map nrmP) = mapV 1 p m row := by
  unfold mapV
  rw [List.length_map]
  congr 1
  exact congrArg (fun f => (List.range row.length).all f) (funext (entV_nrm p m row))
theorem stV_nrm (p : Pg) (rows : List (Rw 3)) : stV 1 p (rows.map fun r => r.map nrmP) = stV 1 p rows := by
  unfold stV
  rw [List.length_map]
  congr 1
  refine congrArg (fun f => (List.range p.maps.length).all f) (funext fun i => ?_)
  unfold mpV
  rw [List.getElem?_map]
  cases h1 : p.maps[i]? with
  | none => rfl
  | some m =>
    cases h2 : rows[i]? with
    | none => rfl
    | some r => simp only [Option.map_some, mapV_nrm]
def rowsT (X : List (List (Vl × Vl))) : List (Rw 3) := X.map fun r => r.map tvlP
theorem stV_of {p : Pg} {ns : List (Sl × Rw 3)} {X : List (List (Vl × Vl))} (h : ns.map (fun q => q.2.map nrmP) = X.map (fun r => r.map tvlP)) : stV 1 p (ns.map (·.2)) = stV 1 p (rowsT X) := by
  rw [← stV_nrm, List.map_map]
  unfold rowsT
  rw [← h]
  rfl
def resOf (p : Pg) (n : Nat) (o : Option (List (List (Vl × Vl)) × Nat)) : Option (List (List (Vl × Vl))) := match o with
  | none => none
  | some (X, k) => if k = n ∧ stV 1 p (rowsT X) = true then some X else none
def resD (p : Pg) (bs : List Nat) : Option (List (List (Vl × Vl))) := resOf p bs.length (goD rwD bs p.maps.length 0 [])
def ReP (w : World) (p : Pg) (bs : List Nat) (e : Ending) (w' : World) : Prop := Below w.heap.size w w' ∧ match resD p bs with
  | none => e = .returned (.tuple #[.agg #[.slice none 0 0], .int .i64 40])
  | some X => ∃ aa an ac ns, e = .returned (.tuple #[.agg #[.slice aa an ac], .int .i64 0]) ∧ StP 3 w' (fun b => w.heap.size ≤ b ∧ b < w'.heap.size) aa an ns ∧ an ≤ ac ∧ ns.map (fun q => q.2.map nrmP) = X.map (fun r => r.map tvlP)
theorem rwD_le {bs : List Nat} (hb : Byt bs) {r : List (Vl × Vl)} {k : Nat} (h : rwD bs = some (r, k)) : k ≤ bs.length := by
  unfold rwD at h
  cases hd : dec bs with
  | none => rw [hd] at h; cases h
  | some x =>
    obtain ⟨c, i⟩ := x
    rw [hd] at h
    simp only at h
    split at h
    · cases h
    · exact goD_le (fun bs x k hb e => entD_le hb e) hb c i [] r k (dec_back hb hd).2.2.1 h
structure RsI (w wr : World) (pc : Array Value) (X : List (List (Vl × Vl))) (fa : Option Addr) (fn fc : Nat) (ns : List (Sl × Rw 3)) : Prop where
  bel : Below w.heap.size w wr
  b0 : wr.heap[w.heap.size]? = some (.cells pc 50 (0, 0))
  b1 : wr.heap[w.heap.size + 1]? = some (.cells #[.slice none 0 0] 27 (0, 0))
  b2 : wr.heap[w.heap.size + 1 + 1]? = some (.cells #[.slice fa fn fc] 27 (0, 0))
  row : MRow wr (w.heap.size + 3) (.slice fa fn fc) (ns.map (·.1))
  rd : ∀ q ∈ ns, RwP 3 wr (fun b => w.heap.size + 3 ≤ b ∧ b < wr.heap.size ∧ (Value.slice fa fn fc).ownBlock ≠ some b) q.1.a q.1.n q.2 ∧ q.1.n ≤ q.1.cap
  same : ns.map (fun q => q.2.map nrmP) = X.map (fun r => r.map tvlP)
theorem RsI.sz {w wr : World} {pc : Array Value} {X : List (List (Vl × Vl))} {fa : Option Addr} {fn fc : Nat} {ns : List (Sl × Rw 3)} (c : RsI w wr pc X fa fn fc ns) : w.heap.size + 3 ≤ wr.heap.size := (Array.getElem?_eq_some_iff.1 c.b2).1
theorem RsI.grown {w wr w9 w10 : World} {pc : Array Value} {X : List (List (Vl × Vl))} {fa : Option Addr} {fn fc : Nat} {ns : List (Sl × Rw 3)} {v2 : Value} {o2 : Obj} (c : RsI w wr pc X fa fn fc ns) (h9 : Below wr.heap.size wr w9) (hg : Grw (w9.alloc o2) (.slice fa fn fc) w10 v2) :
    w10.heap[w.heap.size + 1 + 1]? = some (.cells #[.slice fa fn fc] 27 (0, 0)) := by
  have hs := c.sz
  have bA : Below wr.heap.size wr (w9.alloc o2) := h9.alloc h9.size _
  exact ((hg.1.block _ (by have := bA.size; omega) (fun e => by have := (c.row.own _ e.symm).1; omega)).trans (bA.block _ (by omega))).trans c.b2
theorem RsI.more {w wr w9 w10 : World} {pc : Array Value} {X : List (List (Vl × Vl))} {fa : Option Addr} {fn fc : Nat} {ns : List (Sl × Rw 3)} {o2 : Obj} {xa : Option Addr} {xn xc : Nat} {qs : Rw 3} {f2 : Option Addr} {n2 c2 : Nat} (c : RsI w wr pc X fa fn fc ns)
    (h9 : Below wr.heap.size wr w9) (hx : RwP 3 w9 (fun b => wr.heap.size ≤ b ∧ b < w9.heap.size) xa xn qs) (hxc : xn ≤ xc) {Y : List (Vl × Vl)} (he : qs.map nrmP = Y.map tvlP)
    (hr : MRow w10 (w.heap.size + 3) (.slice f2 n2 c2) (ns.map (·.1) ++ [⟨xa, xn, xc⟩])) (hg : Grw (w9.alloc o2) (.slice fa fn fc) w10 (.slice f2 n2 c2)) :
    RsI w (w10.setCell ⟨w.heap.size + 1 + 1, 0, none⟩ (.slice f2 n2 c2)) pc (X ++ [Y]) f2 n2 c2 (ns ++ [(⟨xa, xn, xc⟩, qs)]) := by
  have hs0 := c.sz
  have s9 := h9.size
  have bA : Below wr.heap.size wr (w9.alloc o2) := h9.alloc h9.size _
  have own : ∀ b, (Value.slice fa fn fc).ownBlock = some b → w.heap.size + 3 ≤ b ∧ b < wr.heap.size := fun b e => c.row.own b e
  have blk : ∀ b, b < wr.heap.size → (Value.slice fa fn fc).ownBlock ≠ some b → w10.heap[b]? = wr.heap[b]? := fun b hb hne => (hg.1.block b (Nat.lt_of_lt_of_le hb bA.size) (fun e => hne e.symm)).trans (bA.block b hb)
  have blk9 : ∀ b, wr.heap.size ≤ b → b < w9.heap.size → w10.heap[b]? = w9.heap[b]? := fun b hb hb2 => (hg.1.block b (by simp; omega) (fun e => by have := (own b e.symm).2; omega)).trans (Below.heap_alloc _ _ _ hb2)
  have own2 : ∀ b, (Value.slice f2 n2 c2).ownBlock = some b → (Value.slice fa fn fc).ownBlock = some b ∨ (w9.alloc o2).heap.size ≤ b := fun b e => by
    rcases hg.2 with h1 | ⟨g, h1, h2⟩
    · exact .inl (h1 ▸ e)
    · rw [h1] at e; cases e; exact .inr h2
  have sB : (w9.alloc o2).heap.size = w9.heap.size + 1 := by simp
  have s11 : (w9.alloc o2).heap.size ≤ w10.heap.size := hg.1.size
  have st : ∀ b, b ≠ w.heap.size + 1 + 1 → (w10.setCell ⟨w.heap.size + 1 + 1, 0, none⟩ (.slice f2 n2 c2)).heap[b]? = w10.heap[b]? := fun b hb => Below.heap_setCell _ _ _ _ hb
  have ss : (w10.setCell ⟨w.heap.size + 1 + 1, 0, none⟩ (.slice f2 n2 c2)).heap.size = w10.heap.size := by simp [World.setCell]
  have h2 := heap_set_at (c.grown h9 hg) 0 (.slice f2 n2 c2)
  refine ⟨?_, ?_, ?_, by simpa using h2, ?_, ?_, ?_⟩
  · refine ⟨(hg.1.os.trans bA.os).trans c.bel.os, (hg.1.tape.trans bA.tape).trans c.bel.tape, (hg.1.output.trans bA.output).trans c.bel.output, by rw [ss]; omega, fun j hj => ?_⟩
    exact (st j (by omega)).trans ((blk j (by omega) (fun e => by have := (own j e).1; omega)).trans (c.bel.block j hj))
  · exact (st _ (by omega)).trans ((blk _ (by omega) (fun e => by have := (own _ e).1; omega)).trans c.b0)
  · exact (st _ (by omega)).trans ((blk _ (by omega) (fun e => by have := (own _ e).1; omega)).trans c.b1)
  · rw [List.map_append]
    exact hr.same (fun q e => st q (by have := (hr.own q e).1; omega))
  · intro q hq
    rcases List.mem_append.1 hq with hq | hq
    · refine ⟨((c.rd q hq).1.keep (fun b hb => (st b (by omega)).trans (blk b hb.2.1 hb.2.2))).imp (fun b hb => ⟨hb.1, by rw [ss]; omega, fun e => ?_⟩), (c.rd q hq).2⟩
      rcases own2 b e with h | h
      · exact hb.2.2 h
      · omega
    · obtain rfl : q = (⟨xa, xn, xc⟩, qs) := by simpa using hq
      refine ⟨(hx.keep (fun b hb => (st b (by omega)).trans (blk9 b hb.1 hb.2))).imp (fun b hb => ⟨by omega, by rw [ss]; omega, fun e => ?_⟩), hxc⟩
      rcases own2 b e with h | h
      · have := (own b h).2; omega
      · omega
  · rw [List.map_append, List.map_append, c.same]
    simp only [List.map_cons, List.map_nil, he]
theorem RsI.out {w wr : World} {pc : Array Value} {X : List (List (Vl × Vl))} {fa : Option Addr} {fn fc : Nat} {ns : List (Sl × Rw 3)} (h : RsI w wr pc X fa fn fc ns) (hl : X.length ≤ 1000) : StP 3 wr (fun b => w.heap.size + 3 ≤ b ∧ b < wr.heap.size) fa fn ns ∧ fn ≤ fc := by
  have hln : ns.length = X.length := by have := congrArg List.length h.same; simpa using this
  obtain ⟨a9, c9, e9, h9⟩ := h.row.form
  cases e9
  rw [List.length_map] at h9 ⊢
  refine ⟨⟨rfl, by omega, h.row.rd, fun x e ne => ?_, fun q hq => ⟨(h.rd q hq).1.imp (fun b hA => ⟨hA.1, hA.2.1⟩), (h.rd q hq).2⟩⟩, h9⟩
  exact h.row.own x.block (by rw [e]; rfl)
set_option maxRecDepth 100000 in
set_option maxHeartbeats 2000000 in
theorem restore_any (w : World) (g : PH) (p : Pg) (d : PRd w g p) (hmp : p.maps.length ≤ 30) (a : Option Addr) (cap : Nat) (bs : List Nat) (h : Rd w (.slice a bs.length cap) bs) (hl : bs.length ≤ 1000000) :
    Calls Try.prog 34 #[g.v, .slice a bs.length cap] w (ReP w p bs) := by
  have hby : Byt bs := by obtain ⟨_, _, _, _, hb, _⟩ := h; exact hb
  have hcap : bs.length ≤ cap := by obtain ⟨_, _, e, hc, _⟩ := h; cases e; exact hc
  have HBy := hid hby
  have H := hid h
  have hmn : g.mn ≤ 30 := by rw [d.m.n1]; exact hmp
  have Hm := hid d.m.n1
  have KI := hid (fun (w1 : World) (hb : Below w.heap.size w w1) (sa : Option Addr) (sn sc : Nat) (ns : List (Sl × Rw 3)) (hs : StR 3 w1 sa sn ns) => heapIs_any 1 w1 g p (d.below (Nat.le_refl _) hb) sa sn sc ns hs)
  obtain ⟨ra, rn, rc, ma, mn, mc, fa, fn, fc, ea, en, ec⟩ := g
  simp only [PH.v] at KI hmn Hm ⊢
  obtain ⟨RES, hRES⟩ : ∃ RES, RES = goD rwD bs mn 0 [] := ⟨_, rfl⟩
  have HRES := hid hRES
  have HRD : Hid (resD p bs = resOf p bs.length RES) := hid (by unfold resD; rw [hRES, Hm.out])
  clear d h hby hRES hmp
  have hmI : (mn : Int) ≤ 30 := by omega
  have hlI : (bs.length : Int) ≤ (cap : Int) := by omega
  have hlJ : (bs.length : Int) ≤ 1000000 := by omega
  obtain ⟨W0, hW0⟩ : ∃ W0, W0 = ((w.alloc (.cells #[.slice ra rn rc, .slice ma mn mc, .slice fa fn fc, .slice ea en ec] 50)).alloc (.cells #[.slice none 0 0] 27)).alloc (.cells #[.slice none 0 0] 27) := ⟨_, rfl⟩
  have n1 := heap_alloc_new w (.cells #[.slice ra rn rc, .slice ma mn mc, .slice fa fn fc, .slice ea en ec] 50)
  have n2 := heap_alloc_new (w.alloc (.cells #[.slice ra rn rc, .slice ma mn mc, .slice fa fn fc, .slice ea en ec] 50)) (.cells #[.slice none 0 0] 27)
  have n3 := heap_alloc_new ((w.alloc (.cells #[.slice ra rn rc, .slice ma mn mc, .slice fa fn fc, .slice ea en ec] 50)).alloc (.cells #[.slice none 0 0] 27)) (.cells #[.slice none 0 0] 27)
  simp only [World.size_alloc] at n2 n3
  have I0 : RsI w W0 #[.slice ra rn rc, .slice ma mn mc, .slice fa fn fc, .slice ea en ec] [] none 0 0 [] := by
    refine ⟨?_, ?_, ?_, ?_, MRow.nil _ _, (fun q hq => by cases hq), rfl⟩
    · rw [hW0]; exact (boxes2 _ _ _ _ _).alloc (by simp; omega) _
    · rw [hW0]; exact alN (alN n1 _) _
    · rw [hW0]; exact alN n2 _
    · rw [hW0]; exact n3
  have HI0 := hid I0
  clear n1 n2 n3 I0
  go_enter Try.func34, Try.ntmps34
  go_wp2
  rw [← hW0]
  clear hW0
  go_loopg [7, 14] mn (fun gg v7 v14 wr => ∃ (j at' gn gc : Nat) (ga : Option Addr) (ns : List (Sl × Rw 3)) (X : List (List (Vl × Vl))), j + gg = mn ∧ X.length = j ∧ v14 = .int .i64 (j : Int) ∧ v7 = .int .i64 (at' : Int) ∧ at' ≤ bs.length ∧ RES = goD rwD bs gg at' X ∧ RsI w wr #[.slice ra rn rc, .slice ma mn mc, .slice fa fn fc, .slice ea en ec] X ga gn gc ns)
  case atStart => exact ⟨0, 0, 0, 0, none, [], [], by omega, rfl, rfl, rfl, Nat.zero_le _, HRES.out, HI0.out⟩
  case round =>
    obtain ⟨j, at', gn, gc, ga, ns, X, hj, hX, rfl, rfl, hat, hres, hI⟩ := hrel
    have HI := hid hI
    have HX := hid hX
    have q1 := cellOf hI.b1 0
    have y1 := freeOf hI.b1 0
    have q2 := cellOf hI.b2 0
    have y2 := freeOf hI.b2 0
    have r0 := cellOf hI.b0 0
    have r1 := cellOf hI.b0 1
    have r2 := cellOf hI.b0 2
    have r3 := cellOf hI.b0 3
    simp only [List.getElem?_toArray, List.getElem?_cons_zero, List.getElem?_cons_succ] at q1 q2 r0 r1 r2 r3
    have hsz := hI.sz
    clear hI hX
    cases gk with
    | zero =>
      have hjm : j = mn := by omega
      subst hjm
      have Hres : Hid (RES = some (X, at')) := hid hres
      clear hres hj
      obtain ⟨hst, hgc⟩ := HI.out.out (by have := HX.out; omega)
      have HST := hid hst
      have HB := hid HI.out.bel
      have hstr := HST.out.str
      have KJ := hid (KI.out wr HB.out ga gn gc ns hstr)
      rw [stV_of HI.out.same] at KJ
      obtain ⟨S, hS⟩ : ∃ S, S = stV 1 p (rowsT X) := ⟨_, rfl⟩
      rw [← hS] at KJ
      have HS := hid hS
      have Hgc := hid hgc
      have FW : Hid (∀ w2 : World, Below wr.heap.size wr w2 → w2.cell? ⟨w.heap.size + 1, 0, none⟩ = some (.slice none 0 0) ∧ w2.frozen? ⟨w.heap.size + 1, 0, none⟩ = false ∧ w2.cell? ⟨w.heap.size + 1 + 1, 0, none⟩ = some (.slice ga gn gc) ∧ w2.heap[w.heap.size + 1]? = some (.cells #[.slice none 0 0] 27 (0, 0)) ∧ StP 3 w2 (fun b => w.heap.size + 3 ≤ b ∧ b < wr.heap.size) ga gn ns ∧ Below w.heap.size w w2) := hid (fun w2 hb => by
        have b1 := (hb.block _ (Array.getElem?_eq_some_iff.1 HI.out.b1).1).trans HI.out.b1
        have b2 := (hb.block _ (Array.getElem?_eq_some_iff.1 HI.out.b2).1).trans HI.out.b2
        exact ⟨cellOf b1 0, freeOf b1 0, cellOf b2 0, b1, HST.out.keep (fun b hA => hb.block b hA.2), HB.out.trans (hb.mono HB.out.size)⟩)
      clear hst hgc hstr hS KI
      by_cases hlt : at' < bs.length
      · have hltI : (at' : Int) < (bs.length : Int) := by omega
        have HN : Hid (resD p bs = none) := hid (by rw [HRD.out, Hres.out]; unfold resOf; simp only; rw [if_neg (by omega)])
        go_wp2
        have t0 := cellOf (set_cells HI.out.b1 (.slice none 0 0)) 0
        simp only [List.getElem?_toArray, List.getElem?_cons_zero] at t0
        refine bodyPost_ret (v := .tuple #[.agg #[.slice none 0 0], .int .i64 40]) (by simp [results, Try.results34, go_sem, t0]) rfl ⟨HB.out.setCell (p := ⟨w.heap.size + 1, 0, none⟩) (by show w.heap.size ≤ w.heap.size + 1; omega) _, by rw [HN.out]⟩
      · have hltI : ¬ (at' : Int) < (bs.length : Int) := by omega
        cases S with
        | false =>
          have HN : Hid (resD p bs = none) := hid (by rw [HRD.out, Hres.out]; unfold resOf; simp only; rw [if_neg (by rw [← HS.out]; simp)])
          go_wp2_with (go_at_call 29; (refine (Hid.out KJ).mono ?_; rintro e w2 ⟨rfl, hb2⟩; obtain ⟨c1, c2, c3, c4, c5, c6⟩ := FW.out w2 hb2; have C4 := hid c4; have C6 := hid c6; clear hb2 c4 c5 c6 q1 y1 q2 y2))
          have t0 := cellOf (set_cells C4.out (.slice none 0 0)) 0
          simp only [List.getElem?_toArray, List.getElem?_cons_zero] at t0
          refine bodyPost_ret (v := .tuple #[.agg #[.slice none 0 0], .int .i64 40]) (by simp [results, Try.results34, go_sem, t0]) rfl ⟨C6.out.setCell (p := ⟨w.heap.size + 1, 0, none⟩) (by show w.heap.size ≤ w.heap.size + 1; omega) _, by rw [HN.out]⟩
        | true =>
          have HY : Hid (resD p bs = some X) := hid (by rw [HRD.out, Hres.out]; unfold resOf; simp only; rw [if_pos ⟨by omega, HS.out.symm⟩])
          go_wp2_with (go_at_call 29; (refine (Hid.out KJ).mono ?_; rintro e w2 ⟨rfl, hb2⟩; obtain ⟨c1, c2, c3, c4, c5, c6⟩ := FW.out w2 hb2; have C4 := hid c4; have C5 := hid c5; have C6 := hid c6; have hs2 := hb2.size; clear hb2 c4 c5 c6 q1 y1 q2 y2))
          have t0 := cellOf (set_cells C4.out (.slice ga gn gc)) 0
          simp only [List.getElem?_toArray, List.getElem?_cons_zero] at t0
          refine bodyPost_ret (v := .tuple #[.agg #[.slice ga gn gc], .int .i64 0]) (by simp [results, Try.results34, go_sem, t0]) rfl ⟨C6.out.setCell (p := ⟨w.heap.size + 1, 0, none⟩) (by show w.heap.size ≤ w.heap.size + 1; omega) _, ?_⟩
          rw [HY.out]
          have hs3 : (w2.setCell ⟨w.heap.size + 1, 0, none⟩ (.slice ga gn gc)).heap.size = w2.heap.size := by simp [World.setCell]
          exact ⟨ga, gn, gc, ns, rfl, (C5.out.keep (fun b hA => Below.heap_setCell _ _ _ _ (by show b ≠ w.heap.size + 1; omega))).imp (fun b hA => ⟨by omega, by rw [hs3]; omega⟩), Hgc.out, HI.out.same⟩
    | succ gi =>
      have hjc : (j : Int) < (mn : Int) := by omega
      have hj0 : (0 : Int) ≤ (j : Int) := by omega
      have hatI : (at' : Int) ≤ (bs.length : Int) := by omega
      have hat0 : (0 : Int) ≤ (at' : Int) := by omega
      have Hj := hid hj
      have Hr0 := hid hres
      have HB := hid HI.out.bel
      have hRd := H.out.below (Nat.le_refl _) HB.out
      have hnl : ns.length = X.length := by have := congrArg List.length HI.out.same; simpa using this
      have hrl : (ns.map (·.1)).length ≤ 1000000 := by rw [List.length_map, hnl, HX.out]; omega
      have FW : Hid (∀ w2 : World, Below wr.heap.size wr w2 → w2.cell? ⟨w.heap.size + 1, 0, none⟩ = some (.slice none 0 0) ∧ w2.frozen? ⟨w.heap.size + 1, 0, none⟩ = false ∧ w2.cell? ⟨w.heap.size + 1 + 1, 0, none⟩ = some (.slice ga gn gc) ∧ w2.heap[w.heap.size + 1]? = some (.cells #[.slice none 0 0] 27 (0, 0)) ∧ MRow w2 (w.heap.size + 3) (.slice ga gn gc) (ns.map (·.1)) ∧ Below w.heap.size w w2) := hid (fun w2 hb => by
        have b1 := (hb.block _ (Array.getElem?_eq_some_iff.1 HI.out.b1).1).trans HI.out.b1
        have b2 := (hb.block _ (Array.getElem?_eq_some_iff.1 HI.out.b2).1).trans HI.out.b2
        exact ⟨cellOf b1 0, freeOf b1 0, cellOf b2 0, b1, HI.out.row.below (Nat.le_refl _) hb, HB.out.trans (hb.mono HB.out.size)⟩)
      clear hres hj hnl
      by_cases hcc : cap = at'
      · have hcc' := hcc.symm
        subst hcc'
        clear hcc
        have hnil : rwD (bs.drop at') = none := by rw [List.drop_of_length_le hcap]; rfl
        have K59 := hid (readRow_v wr _ _ hRd.slA (by rw [List.length_drop]; omega))
        rw [hnil] at K59
        have HN : Hid (resD p bs = none) := hid (by rw [HRD.out, Hr0.out]; simp only [goD, hnil]; rfl)
        clear hRd hnil
        go_wp2_with (go_at_call 59; (refine (Hid.out K59).mono ?_; rintro e w2 ⟨hb2, rfl⟩; obtain ⟨c1, c2, c3, c4, c5, c6⟩ := FW.out w2 hb2; have C4 := hid c4; have C6 := hid c6; clear hb2 c4 c5 c6 q1 y1 q2 y2))
        have t0 := cellOf (set_cells C4.out (.slice none 0 0)) 0
        simp only [List.getElem?_toArray, List.getElem?_cons_zero] at t0
        refine bodyPost_ret (v := .tuple #[.agg #[.slice none 0 0], .int .i64 40]) (by simp [results, Try.results34, go_sem, t0]) rfl ⟨C6.out.setCell (p := ⟨w.heap.size + 1, 0, none⟩) (by show w.heap.size ≤ w.heap.size + 1; omega) _, by rw [HN.out]⟩
      · have K59 := hid (readRow_v wr _ _ (hRd.slB hat hcc) (by rw [List.length_drop]; omega))
        cases hv : rwD (bs.drop at') with
        | none =>
          rw [hv] at K59
          have HN : Hid (resD p bs = none) := hid (by rw [HRD.out, Hr0.out]; simp only [goD, hv]; rfl)
          clear hRd hv
          go_wp2_with (go_at_call 59; (refine (Hid.out K59).mono ?_; rintro e w2 ⟨hb2, rfl⟩; obtain ⟨c1, c2, c3, c4, c5, c6⟩ := FW.out w2 hb2; have C4 := hid c4; have C6 := hid c6; clear hb2 c4 c5 c6 q1 y1 q2 y2))
          have t0 := cellOf (set_cells C4.out (.slice none 0 0)) 0
          simp only [List.getElem?_toArray, List.getElem?_cons_zero] at t0
          refine bodyPost_ret (v := .tuple #[.agg #[.slice none 0 0], .int .i64 40]) (by simp [results, Try.results34, go_sem, t0]) rfl ⟨C6.out.setCell (p := ⟨w.heap.size + 1, 0, none⟩) (by show w.heap.size ≤ w.heap.size + 1; omega) _, by rw [HN.out]⟩
        | some r =>
          obtain ⟨Y, k2⟩ := r
          rw [hv] at K59
          have hk2 := rwD_le (HBy.out.drop at') hv
          rw [List.length_drop] at hk2
          have Hres : Hid (RES = goD rwD bs gi (at' + k2) (X ++ [Y])) := hid (by rw [Hr0.out]; simp only [goD, hv])
          clear hRd hv
          go_wp2_with (first
            | (go_at_call 59; (refine (Hid.out K59).mono ?_; rintro e w2 ⟨hb2, xa, xn, xc, qs, rfl, hx, hxc, he⟩; obtain ⟨c1, c2, c3, c4, c5, c6⟩ := FW.out w2 hb2; have C5 := hid c5; have HX2 := hid hx; have HXC := hid hxc; have HE := hid he; have HB2 := hid hb2; have hs2 := hb2.size; clear hb2 c1 c2 c4 c5 c6 hx hxc he q1 y1 q2 y2))
            | (at_builtin; (refine wpList_appM w2 rfl _ _ rfl (.slice ga gn gc) ⟨xa, xn, xc⟩ (by rfl) (by rfl) (w.heap.size + 3) (ns.map (·.1)) C5.out (by omega) hrl ?_; intro v10 w10 hr10 hg10; obtain ⟨va, vc, e4, _⟩ := hr10.form; obtain ⟨vn, hvn⟩ : ∃ vn, vn = (ns.map (·.1) ++ [(⟨xa, xn, xc⟩ : Sl)]).length := ⟨_, rfl⟩; rw [← hvn] at e4; subst e4; have hgr := HI.out.grown HB2.out hg10; have z10 := cellOf hgr 0; have f10 := freeOf hgr 0; simp only [List.getElem?_toArray, List.getElem?_cons_zero] at z10; have HM := hid (HI.out.more HB2.out HX2.out HXC.out HE.out hr10 hg10); clear hr10 hg10 hvn hgr c3)))
          go_roundg gi
          case measure => omega
          case rel => exact ⟨j + 1, at' + k2, _, _, _, _, _, by have := Hj.out; omega, by rw [List.length_append, HX.out]; rfl, by go_num, by go_num, by omega, Hres.out, HM.out⟩
end Go.Proofs.Ytenfgahedbeekaa

