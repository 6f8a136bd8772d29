/- heap.readRow of whatever bytes; heap.Restore. -/
import Derived.Test.YtenfgahedbeekaaJAP
import Derived.Deep.RegionHeld3
namespace Go.Proofs.Ytenfgahedbeekaa
open Go.RowKit Go.Deep Go.Shelf
set_option linter.unusedVariables false
set_option linter.unusedSimpArgs false

set_option maxRecDepth 100000 in
set_option maxHeartbeats 1000000 in
theorem readRow_any (w : World) (a : Option Addr) (cap : Nat) (bs : List Nat) (h : Rd w (.slice a bs.length cap) bs) (hl : bs.length ≤ 1000000000) :
    Calls Try.prog 59 #[.slice a bs.length cap] w (RrP w (rwD bs)) := by
  have K1 := hid (uint_any w _ bs h (by omega))
  have hby : Byt bs := by obtain ⟨_, _, _, _, hb, _⟩ := h; exact hb
  cases hd : dec bs with
  | none =>
    have hr : rwD bs = none := by unfold rwD; rw [hd]
    have Hr := hid hr
    rw [hd] at K1
    simp only [uintV] at K1
    clear h hby hd hr
    go_enter Try.func59, Try.ntmps59
    go_wp2_with (go_at_call 86; (refine (Hid.out K1).mono ?_; rintro e w1 ⟨rfl, rfl⟩))
    refine bodyPost_ret (v := .tuple #[.slice none 0 0, .int .i64 0, .bool false]) (by simp [results, Try.results59, go_sem]) rfl ?_
    rw [Hr.out]
    exact ⟨Below.refl _ _, rfl⟩
  | some r =>
    obtain ⟨c, i⟩ := r
    have hc64 := (dec_back hby hd).2.1
    by_cases hc : 24 < c
    · have hr : rwD bs = none := by unfold rwD; rw [hd]; simp only; rw [if_pos hc]
      have Hr := hid hr
      rw [hd] at K1
      simp only [uintV] at K1
      have hcI : (24 : Int) < (c : Int) := by omega
      clear h hby hd hr
      go_enter Try.func59, Try.ntmps59
      go_wp2_with (go_at_call 86; (refine (Hid.out K1).mono ?_; rintro e w1 ⟨rfl, rfl⟩))
      refine bodyPost_ret (v := .tuple #[.slice none 0 0, .int .i64 0, .bool false]) (by simp [results, Try.results59, go_sem]) rfl ?_
      rw [Hr.out]
      exact ⟨Below.refl _ _, rfl⟩
    · have hr : rwD bs = goD entD bs c i [] := by unfold rwD; rw [hd]; simp only; rw [if_neg hc]
      rw [hr]
      exact readRow_go w a cap bs (hid (fun w2 hb => h.below (Nat.le_refl _) hb)) hl c i hd (by omega)
theorem wpList_appM {ops : Array Oper} {rest : List Oper} {o : Oper} {a : Act} {Q : Exit → Act → World → Prop} (w : World) (hgd : o.guard = none) (sl x : Operand)
    (ho : o.op = .call { callee := .builtin .append, args := #[sl, x], argTypes := #[25, 25] }) (v : Value) (h : Sl) (hs : a.eval sl = v) (hx : a.eval x = .slice (some ⟨w.heap.size, 0, none⟩) 1 1)
    (B : Nat) (ss : List Sl) (hr : MRow w B v ss) (hB : B ≤ w.heap.size) (hl : ss.length ≤ 1000000)
    (k : ∀ v' w', MRow w' B v' (ss ++ [h]) → Grw (w.alloc (.cells #[h.v] 70)) v w' v' → wpList Try.prog ops Q rest (a.put o.dst v') w') :
    wpList Try.prog ops Q (o :: rest) a (w.alloc (.cells #[h.v] 70)) := by
  refine wpList_plain hgd fun K hK => ?_
  have hr' : MRow (w.alloc (.cells #[h.v] 70)) B v ss := hr.below (Nat.le_refl _) ((Below.refl _ w).alloc (Nat.le_refl _) _)
  obtain ⟨v', w', hrun, h2, h3⟩ := run_appM _ o.type B v ss h w.heap.size hr' (heap_alloc_new w _) (by simp; omega) hl
  unfold Oper.wp execOp
  simp only [ho, resolve, invoke, builtin, Sem.run_bind, Sem.run_pure, Result.andThen_ok, List.map_toArray, List.map_cons, List.map_nil, hs, hx, hrun]
  exact hK _ _ (k v' w' h2 h3)
theorem readRow_v (w : World) (v : Value) (bs : List Nat) (h : Rd w v bs) (hl : bs.length ≤ 1000000000) : Calls Try.prog 59 #[v] w (RrP w (rwD bs)) := by
  obtain ⟨a, cap, rfl⟩ := h.len
  exact readRow_any w a cap bs h hl
theorem isV_nrm (p : Pg) (t : TyP) (v : VT 3) : isV 1 p t (nrm v) = isV 1 p t v := rfl
theorem entV_nrm (p : Pg) (m : Mp) (row : Rw 3) (i : Nat) : entV 1 p m (row.map nrmP) i = entV 1 p m row i := by
  unfold entV
  rw [List.getElem?_map]
  cases h : row[i]? with
  | none => rfl
  | some q =>
    simp only [Option.map_some, nrmP, isV_nrm]
    rw [List.getElem?_map]
    cases h2 : row[i - 1]? with
    | none => rfl
    | some o => rfl
theorem mapV_nrm (p : Pg) (m : Mp) (row : Rw 3) : mapV 1 p m (row.map nrmP) = mapV 1 p m row := by
  unfold mapV
  rw [List.length_map]
  congr 1
  exact congrArg (fun f => (List.range row.length).all f) (funext (entV_nrm p m row))
theorem stV_nrm (p : Pg) (rows : List (Rw 3)) : stV 1 p (rows.map fun r => r.map nrmP) = stV 1 p rows := by
  unfold stV
  rw [List.length_map]
  congr 1
  refine congrArg (fun f => (List.range p.maps.length).all f) (funext fun i => ?_)
  unfold mpV
  rw [List.getElem?_map]
  cases h1 : p.maps[i]? with
  | none => rfl
  | some m =>
    cases h2 : rows[i]? with
    | none => rfl
    | some r => simp only [Option.map_some, mapV_nrm]
def rowsT (X : List (List (Vl × Vl))) : List (Rw 3) := X.map fun r => r.map tvlP
theorem stV_of {p : Pg} {ns : List (Sl × Rw 3)} {X : List (List (Vl × Vl))} (h : ns.map (fun q => q.2.map nrmP) = X.map (fun r => r.map tvlP)) : stV 1 p (ns.map (·.2)) = stV 1 p (rowsT X) := by
  rw [← stV_nrm, List.map_map]
  unfold rowsT
  rw [← h]
  rfl
def resOf (p : Pg) (n : Nat) (o : Option (List (List (Vl × Vl)) × Nat)) : Option (List (List (Vl × Vl))) := match o with
  | none => none
  | some (X, k) => if k = n ∧ stV 1 p (rowsT X) = true then some X else none
def resD (p : Pg) (bs : List Nat) : Option (List (List (Vl × Vl))) := resOf p bs.length (goD rwD bs p.maps.length 0 [])
def ReP (w : World) (p : Pg) (bs : List Nat) (e : Ending) (w' : World) : Prop := Below w.heap.size w w' ∧ match resD p bs with
  | none => e = .returned (.tuple #[.agg #[.slice none 0 0], .int .i64 40])
  | some X => ∃ aa an ac ns, e = .returned (.tuple #[.agg #[.slice aa an ac], .int .i64 0]) ∧ StP 3 w' (fun b => w.heap.size ≤ b ∧ b < w'.heap.size) aa an ns ∧ an ≤ ac ∧ ns.map (fun q => q.2.map nrmP) = X.map (fun r => r.map tvlP)
theorem goD_size {α : Type} {D : List Nat → Option (α × Nat)} {bs : List Nat} : ∀ (c i : Nat) (acc xs : List α) (k : Nat), goD D bs c i acc = some (xs, k) → xs.length = acc.length + c
  | 0, i, acc, xs, k, h => by simp only [goD] at h; cases h; rfl
  | c + 1, i, acc, xs, k, h => by
    simp only [goD] at h
    cases hd : D (bs.drop i) with
    | none => rw [hd] at h; cases h
    | some r =>
      obtain ⟨x, j⟩ := r
      rw [hd] at h
      have := goD_size c _ _ _ _ h
      rw [this, List.length_append]
      simp; omega
theorem rwD_le {bs : List Nat} (hb : Byt bs) {r : List (Vl × Vl)} {k : Nat} (h : rwD bs = some (r, k)) : k ≤ bs.length := by
  unfold rwD at h
  cases hd : dec bs with
  | none => rw [hd] at h; cases h
  | some x =>
    obtain ⟨c, i⟩ := x
    rw [hd] at h
    simp only at h
    split at h
    · cases h
    · exact goD_le (fun bs x k hb e => entD_le hb e) hb c i [] r k (dec_back hb hd).2.2.1 h
structure RsI (w wr : World) (pc : Array Value) (X : List (List (Vl × Vl))) (fa : Option Addr) (fn fc : Nat) (ns : List (Sl × Rw 3)) : Prop where
  bel : Below w.heap.size w wr
  b0 : wr.heap[w.heap.size]? = some (.cells pc 50 (0, 0))
  b1 : wr.heap[w.heap.size + 1]? = some (.cells #[.slice none 0 0] 27 (0, 0))
  b2 : wr.heap[w.heap.size + 1 + 1]? = some (.cells #[.slice fa fn fc] 27 (0, 0))
  row : MRow wr (w.heap.size + 3) (.slice fa fn fc) (ns.map (·.1))
  rd : ∀ q ∈ ns, RwP 3 wr (fun b => w.heap.size + 3 ≤ b ∧ b < wr.heap.size ∧ (Value.slice fa fn fc).ownBlock ≠ some b) q.1.a q.1.n q.2 ∧ q.1.n ≤ q.1.cap
  same : ns.map (fun q => q.2.map nrmP) = X.map (fun r => r.map tvlP)
theorem RsI.sz {w wr : World} {pc : Array Value} {X : List (List (Vl × Vl))} {fa : Option Addr} {fn fc : Nat} {ns : List (Sl × Rw 3)} (c : RsI w wr pc X fa fn fc ns) : w.heap.size + 3 ≤ wr.heap.size := (Array.getElem?_eq_some_iff.1 c.b2).1
theorem RsI.grown {w wr w9 w10 : World} {pc : Array Value} {X : List (List (Vl × Vl))} {fa : Option Addr} {fn fc : Nat} {ns : List (Sl × Rw 3)} {v2 : Value} {o2 : Obj} (c : RsI w wr pc X fa fn fc ns) (h9 : Below wr.heap.size wr w9) (hg : Grw (w9.alloc o2) (.slice fa fn fc) w10 v2) :
    w10.heap[w.heap.size + 1 + 1]? = some (.cells #[.slice fa fn fc] 27 (0, 0)) := by
  have hs := c.sz
  have bA : Below wr.heap.size wr (w9.alloc o2) := h9.alloc h9.size _
  exact ((hg.1.block _ (by have := bA.size; omega) (fun e => by have := (c.row.own _ e.symm).1; omega)).trans (bA.block _ (by omega))).trans c.b2
theorem RsI.more {w wr w9 w10 : World} {pc : Array Value} {X : List (List (Vl × Vl))} {fa : Option Addr} {fn fc : Nat} {ns : List (Sl × Rw 3)} {o2 : Obj} {xa : Option Addr} {xn xc : Nat} {qs : Rw 3} {f2 : Option Addr} {n2 c2 : Nat} (c : RsI w wr pc X fa fn fc ns)
    (h9 : Below wr.heap.size wr w9) (hx : RwP 3 w9 (fun b => wr.heap.size ≤ b ∧ b < w9.heap.size) xa xn qs) (hxc : xn ≤ xc) {Y : List (Vl × Vl)} (he : qs.map nrmP = Y.map tvlP)
    (hr : MRow w10 (w.heap.size + 3) (.slice f2 n2 c2) (ns.map (·.1) ++ [⟨xa, xn, xc⟩])) (hg : Grw (w9.alloc o2) (.slice fa fn fc) w10 (.slice f2 n2 c2)) :
    RsI w (w10.setCell ⟨w.heap.size + 1 + 1, 0, none⟩ (.slice f2 n2 c2)) pc (X ++ [Y]) f2 n2 c2 (ns ++ [(⟨xa, xn, xc⟩, qs)]) := by
  have hs0 := c.sz
  have s9 := h9.size
  have bA : Below wr.heap.size wr (w9.alloc o2) := h9.alloc h9.size _
  have own : ∀ b, (Value.slice fa fn fc).ownBlock = some b → w.heap.size + 3 ≤ b ∧ b < wr.heap.size := fun b e => c.row.own b e
  have blk : ∀ b, b < wr.heap.size → (Value.slice fa fn fc).ownBlock ≠ some b → w10.heap[b]? = wr.heap[b]? := fun b hb hne => (hg.1.block b (Nat.lt_of_lt_of_le hb bA.size) (fun e => hne e.symm)).trans (bA.block b hb)
  have blk9 : ∀ b, wr.heap.size ≤ b → b < w9.heap.size → w10.heap[b]? = w9.heap[b]? := fun b hb hb2 => (hg.1.block b (by simp; omega) (fun e => by have := (own b e.symm).2; omega)).trans (Below.heap_alloc _ _ _ hb2)
  have own2 : ∀ b, (Value.slice f2 n2 c2).ownBlock = some b → (Value.slice fa fn fc).ownBlock = some b ∨ (w9.alloc o2).heap.size ≤ b := fun b e => by
    rcases hg.2 with h1 | ⟨g, h1, h2⟩
    · exact .inl (h1 ▸ e)
    · rw [h1] at e; cases e; exact .inr h2
  have sB : (w9.alloc o2).heap.size = w9.heap.size + 1 := by simp
  have s11 : (w9.alloc o2).heap.size ≤ w10.heap.size := hg.1.size
  have st : ∀ b, b ≠ w.heap.size + 1 + 1 → (w10.setCell ⟨w.heap.size + 1 + 1, 0, none⟩ (.slice f2 n2 c2)).heap[b]? = w10.heap[b]? := fun b hb => Below.heap_setCell _ _ _ _ hb
  have ss : (w10.setCell ⟨w.heap.size + 1 + 1, 0, none⟩ (.slice f2 n2 c2)).heap.size = w10.heap.size := by simp [World.setCell]
  have h2 := heap_set_at (c.grown h9 hg) 0 (.slice f2 n2 c2)
  refine ⟨?_, ?_, ?_, by simpa using h2, ?_, ?_, ?_⟩
  · refine ⟨(hg.1.os.trans bA.os).trans c.bel.os, (hg.1.tape.trans bA.tape).trans c.bel.tape, (hg.1.output.trans bA.output).trans c.bel.output, by rw [ss]; omega, fun j hj => ?_⟩
    exact (st j (by omega)).trans ((blk j (by omega) (fun e => by have := (own j e).1; omega)).trans (c.bel.block j hj))
  · exact (st _ (by omega)).trans ((blk _ (by omega) (fun e => by have := (own _ e).1; omega)).trans c.b0)
  · exact (st _ (by omega)).trans ((blk _ (by omega) (fun e => by have := (own _ e).1; omega)).trans c.b1)
  · rw [List.map_append]
    exact hr.same (fun q e => st q (by have := (hr.own q e).1; omega))
  · intro q hq
    rcases List.mem_append.1 hq with hq | hq
    · refine ⟨((c.rd q hq).1.keep (fun b hb => (st b (by omega)).trans (blk b hb.2.1 hb.2.2))).imp (fun b hb => ⟨hb.1, by rw [ss]; omega, fun e => ?_⟩), (c.rd q hq).2⟩
      rcases own2 b e with h | h
      · exact hb.2.2 h
      · omega
    · obtain rfl : q = (⟨xa, xn, xc⟩, qs) := by simpa using hq
      refine ⟨(hx.keep (fun b hb => (st b (by omega)).trans (blk9 b hb.1 hb.2))).imp (fun b hb => ⟨by omega, by rw [ss]; omega, fun e => ?_⟩), hxc⟩
      rcases own2 b e with h | h
      · have := (own b h).2; omega
      · omega
  · rw [List.map_append, List.map_append, c.same]
    simp only [List.map_cons, List.map_nil, he]
theorem RsI.out {w wr : World} {pc : Array Value} {X : List (List (Vl × Vl))} {fa : Option Addr} {fn fc : Nat} {ns : List (Sl × Rw 3)} (h : RsI w wr pc X fa fn fc ns) (hl : X.length ≤ 1000) : StP 3 wr (fun b => w.heap.size + 3 ≤ b ∧ b < wr.heap.size) fa fn ns ∧ fn ≤ fc := by
  have hln : ns.length = X.length := by have := congrArg List.length h.same; simpa using this
  obtain ⟨a9, c9, e9, h9⟩ := h.row.form
  cases e9
  rw [List.length_map] at h9 ⊢
  refine ⟨⟨rfl, by omega, h.row.rd, fun x e ne => ?_, fun q hq => ⟨(h.rd q hq).1.imp (fun b hA => ⟨hA.1, hA.2.1⟩), (h.rd q hq).2⟩⟩, h9⟩
  exact h.row.own x.block (by rw [e]; rfl)
set_option maxRecDepth 100000 in
set_option maxHeartbeats 2000000 in
theorem restore_any (w : World) (g : PH) (p : Pg) (d : PRd w g p) (hmp : p.maps.length ≤ 30) (a : Option Addr) (cap : Nat) (bs : List Nat) (h : Rd w (.slice a bs.length cap) bs) (hl : bs.length ≤ 1000000) :
    Calls Try.prog 34 #[g.v, .slice a bs.length cap] w (ReP w p bs) := by
  have hby : Byt bs := by obtain ⟨_, _, _, _, hb, _⟩ := h; exact hb
  have hcap : bs.length ≤ cap := by obtain ⟨_, _, e, hc, _⟩ := h; cases e; exact hc
  have HBy := hid hby
  have H := hid h
  have hmn : g.mn ≤ 30 := by rw [d.m.n1]; exact hmp
  have Hm := hid d.m.n1
  have KI := hid (fun (w1 : World) (hb : Below w.heap.size w w1) (sa : Option Addr) (sn sc : Nat) (ns : List (Sl × Rw 3)) (hs : StR 3 w1 sa sn ns) => heapIs_any 1 w1 g p (d.below (Nat.le_refl _) hb) sa sn sc ns hs)
  obtain ⟨ra, rn, rc, ma, mn, mc, fa, fn, fc, ea, en, ec⟩ := g
  simp only [PH.v] at KI hmn Hm ⊢
  obtain ⟨RES, hRES⟩ : ∃ RES, RES = goD rwD bs mn 0 [] := ⟨_, rfl⟩
  have HRES := hid hRES
  have HRD : Hid (resD p bs = resOf p bs.length RES) := hid (by unfold resD; rw [hRES, Hm.out])
  clear d h hby hRES hmp
  have hmI : (mn : Int) ≤ 30 := by omega
  have hlI : (bs.length : Int) ≤ (cap : Int) := by omega
  have hlJ : (bs.length : Int) ≤ 1000000 := by omega
  obtain ⟨W0, hW0⟩ : ∃ W0, W0 = ((w.alloc (.cells #[.slice ra rn rc, .slice ma mn mc, .slice fa fn fc, .slice ea en ec] 50)).alloc (.cells #[.slice none 0 0] 27)).alloc (.cells #[.slice none 0 0] 27) := ⟨_, rfl⟩
  have n1 := heap_alloc_new w (.cells #[.slice ra rn rc, .slice ma mn mc, .slice fa fn fc, .slice ea en ec] 50)
  have n2 := heap_alloc_new (w.alloc (.cells #[.slice ra rn rc, .slice ma mn mc, .slice fa fn fc, .slice ea en ec] 50)) (.cells #[.slice none 0 0] 27)
  have n3 := heap_alloc_new ((w.alloc (.cells #[.slice ra rn rc, .slice ma mn mc, .slice fa fn fc, .slice ea en ec] 50)).alloc (.cells #[.slice none 0 0] 27)) (.cells #[.slice none 0 0] 27)
  simp only [World.size_alloc] at n2 n3
  have I0 : RsI w W0 #[.slice ra rn rc, .slice ma mn mc, .slice fa fn fc, .slice ea en ec] [] none 0 0 [] := by
    refine ⟨?_, ?_, ?_, ?_, MRow.nil _ _, (fun q hq => by cases hq), rfl⟩
    · rw [hW0]; exact (boxes2 _ _ _ _ _).alloc (by simp; omega) _
    · rw [hW0]; exact alN (alN n1 _) _
    · rw [hW0]; exact alN n2 _
    · rw [hW0]; exact n3
  have HI0 := hid I0
  clear n1 n2 n3 I0
  go_enter Try.func34, Try.ntmps34
  go_wp2
  rw [← hW0]
  clear hW0
  go_loopg [7, 14] mn (fun gg v7 v14 wr => ∃ (j at' gn gc : Nat) (ga : Option Addr) (ns : List (Sl × Rw 3)) (X : List (List (Vl × Vl))), j + gg = mn ∧ X.length = j ∧ v14 = .int .i64 (j : Int) ∧ v7 = .int .i64 (at' : Int) ∧ at' ≤ bs.length ∧ RES = goD rwD bs gg at' X ∧ RsI w wr #[.slice ra rn rc, .slice ma mn mc, .slice fa fn fc, .slice ea en ec] X ga gn gc ns)
  case atStart => exact ⟨0, 0, 0, 0, none, [], [], by omega, rfl, rfl, rfl, Nat.zero_le _, HRES.out, HI0.out⟩
  case round =>
    obtain ⟨j, at', gn, gc, ga, ns, X, hj, hX, rfl, rfl, hat, hres, hI⟩ := hrel
    have HI := hid hI
    have HX := hid hX
    have q1 := cellOf hI.b1 0
    have y1 := freeOf hI.b1 0
    have q2 := cellOf hI.b2 0
    have y2 := freeOf hI.b2 0
    have r0 := cellOf hI.b0 0
    have r1 := cellOf hI.b0 1
    have r2 := cellOf hI.b0 2
    have r3 := cellOf hI.b0 3
    simp only [List.getElem?_toArray, List.getElem?_cons_zero, List.getElem?_cons_succ] at q1 q2 r0 r1 r2 r3
    have hsz := hI.sz
    clear hI hX
    cases gk with
    | zero =>
      have hjm : j = mn := by omega
      subst hjm
      have Hres : Hid (RES = some (X, at')) := hid hres
      clear hres hj
      obtain ⟨hst, hgc⟩ := HI.out.out (by have := HX.out; omega)
      have HST := hid hst
      have HB := hid HI.out.bel
      have hstr := HST.out.str
      have KJ := hid (KI.out wr HB.out ga gn gc ns hstr)
      rw [stV_of HI.out.same] at KJ
      obtain ⟨S, hS⟩ : ∃ S, S = stV 1 p (rowsT X) := ⟨_, rfl⟩
      rw [← hS] at KJ
      have HS := hid hS
      have Hgc := hid hgc
      have FW : Hid (∀ w2 : World, Below wr.heap.size wr w2 → w2.cell? ⟨w.heap.size + 1, 0, none⟩ = some (.slice none 0 0) ∧ w2.frozen? ⟨w.heap.size + 1, 0, none⟩ = false ∧ w2.cell? ⟨w.heap.size + 1 + 1, 0, none⟩ = some (.slice ga gn gc) ∧ w2.heap[w.heap.size + 1]? = some (.cells #[.slice none 0 0] 27 (0, 0)) ∧ StP 3 w2 (fun b => w.heap.size + 3 ≤ b ∧ b < wr.heap.size) ga gn ns ∧ Below w.heap.size w w2) := hid (fun w2 hb => by
        have b1 := (hb.block _ (Array.getElem?_eq_some_iff.1 HI.out.b1).1).trans HI.out.b1
        have b2 := (hb.block _ (Array.getElem?_eq_some_iff.1 HI.out.b2).1).trans HI.out.b2
        exact ⟨cellOf b1 0, freeOf b1 0, cellOf b2 0, b1, HST.out.keep (fun b hA => hb.block b hA.2), HB.out.trans (hb.mono HB.out.size)⟩)
      clear hst hgc hstr hS KI
      by_cases hlt : at' < bs.length
      · have hltI : (at' : Int) < (bs.length : Int) := by omega
        have HN : Hid (resD p bs = none) := hid (by rw [HRD.out, Hres.out]; unfold resOf; simp only; rw [if_neg (by omega)])
        go_wp2
        have t0 := cellOf (set_cells HI.out.b1 (.slice none 0 0)) 0
        simp only [List.getElem?_toArray, List.getElem?_cons_zero] at t0
        refine bodyPost_ret (v := .tuple #[.agg #[.slice none 0 0], .int .i64 40]) (by simp [results, Try.results34, go_sem, t0]) rfl ⟨HB.out.setCell (p := ⟨w.heap.size + 1, 0, none⟩) (by show w.heap.size ≤ w.heap.size + 1; omega) _, by rw [HN.out]⟩
      · have hltI : ¬ (at' : Int) < (bs.length : Int) := by omega
        cases S with
        | false =>
          have HN : Hid (resD p bs = none) := hid (by rw [HRD.out, Hres.out]; unfold resOf; simp only; rw [if_neg (by rw [← HS.out]; simp)])
          go_wp2_with (go_at_call 29; (refine (Hid.out KJ).mono ?_; rintro e w2 ⟨rfl, hb2⟩; obtain ⟨c1, c2, c3, c4, c5, c6⟩ := FW.out w2 hb2; have C4 := hid c4; have C6 := hid c6; clear hb2 c4 c5 c6 q1 y1 q2 y2))
          have t0 := cellOf (set_cells C4.out (.slice none 0 0)) 0
          simp only [List.getElem?_toArray, List.getElem?_cons_zero] at t0
          refine bodyPost_ret (v := .tuple #[.agg #[.slice none 0 0], .int .i64 40]) (by simp [results, Try.results34, go_sem, t0]) rfl ⟨C6.out.setCell (p := ⟨w.heap.size + 1, 0, none⟩) (by show w.heap.size ≤ w.heap.size + 1; omega) _, by rw [HN.out]⟩
        | true =>
          have HY : Hid (resD p bs = some X) := hid (by rw [HRD.out, Hres.out]; unfold resOf; simp only; rw [if_pos ⟨by omega, HS.out.symm⟩])
          go_wp2_with (go_at_call 29; (refine (Hid.out KJ).mono ?_; rintro e w2 ⟨rfl, hb2⟩; obtain ⟨c1, c2, c3, c4, c5, c6⟩ := FW.out w2 hb2; have C4 := hid c4; have C5 := hid c5; have C6 := hid c6; have hs2 := hb2.size; clear hb2 c4 c5 c6 q1 y1 q2 y2))
          have t0 := cellOf (set_cells C4.out (.slice ga gn gc)) 0
          simp only [List.getElem?_toArray, List.getElem?_cons_zero] at t0
          refine bodyPost_ret (v := .tuple #[.agg #[.slice ga gn gc], .int .i64 0]) (by simp [results, Try.results34, go_sem, t0]) rfl ⟨C6.out.setCell (p := ⟨w.heap.size + 1, 0, none⟩) (by show w.heap.size ≤ w.heap.size + 1; omega) _, ?_⟩
          rw [HY.out]
          have hs3 : (w2.setCell ⟨w.heap.size + 1, 0, none⟩ (.slice ga gn gc)).heap.size = w2.heap.size := by simp [World.setCell]
          exact ⟨ga, gn, gc, ns, rfl, (C5.out.keep (fun b hA => Below.heap_setCell _ _ _ _ (by show b ≠ w.heap.size + 1; omega))).imp (fun b hA => ⟨by omega, by rw [hs3]; omega⟩), Hgc.out, HI.out.same⟩
    | succ gi =>
      have hjc : (j : Int) < (mn : Int) := by omega
      have hj0 : (0 : Int) ≤ (j : Int) := by omega
      have hatI : (at' : Int) ≤ (bs.length : Int) := by omega
      have hat0 : (0 : Int) ≤ (at' : Int) := by omega
      have Hj := hid hj
      have Hr0 := hid hres
      have HB := hid HI.out.bel
      have hRd := H.out.below (Nat.le_refl _) HB.out
      have hnl : ns.length = X.length := by have := congrArg List.length HI.out.same; simpa using this
      have hrl : (ns.map (·.1)).length ≤ 1000000 := by rw [List.length_map, hnl, HX.out]; omega
      have FW : Hid (∀ w2 : World, Below wr.heap.size wr w2 → w2.cell? ⟨w.heap.size + 1, 0, none⟩ = some (.slice none 0 0) ∧ w2.frozen? ⟨w.heap.size + 1, 0, none⟩ = false ∧ w2.cell? ⟨w.heap.size + 1 + 1, 0, none⟩ = some (.slice ga gn gc) ∧ w2.heap[w.heap.size + 1]? = some (.cells #[.slice none 0 0] 27 (0, 0)) ∧ MRow w2 (w.heap.size + 3) (.slice ga gn gc) (ns.map (·.1)) ∧ Below w.heap.size w w2) := hid (fun w2 hb => by
        have b1 := (hb.block _ (Array.getElem?_eq_some_iff.1 HI.out.b1).1).trans HI.out.b1
        have b2 := (hb.block _ (Array.getElem?_eq_some_iff.1 HI.out.b2).1).trans HI.out.b2
        exact ⟨cellOf b1 0, freeOf b1 0, cellOf b2 0, b1, HI.out.row.below (Nat.le_refl _) hb, HB.out.trans (hb.mono HB.out.size)⟩)
      clear hres hj hnl
      by_cases hcc : cap = at'
      · have hcc' := hcc.symm
        subst hcc'
        clear hcc
        have hnil : rwD (bs.drop at') = none := by rw [List.drop_of_length_le hcap]; rfl
        have K59 := hid (readRow_v wr _ _ hRd.slA (by rw [List.length_drop]; omega))
        rw [hnil] at K59
        have HN : Hid (resD p bs = none) := hid (by rw [HRD.out, Hr0.out]; simp only [goD, hnil]; rfl)
        clear hRd hnil
        go_wp2_with (go_at_call 59; (refine (Hid.out K59).mono ?_; rintro e w2 ⟨hb2, rfl⟩; obtain ⟨c1, c2, c3, c4, c5, c6⟩ := FW.out w2 hb2; have C4 := hid c4; have C6 := hid c6; clear hb2 c4 c5 c6 q1 y1 q2 y2))
        have t0 := cellOf (set_cells C4.out (.slice none 0 0)) 0
        simp only [List.getElem?_toArray, List.getElem?_cons_zero] at t0
        refine bodyPost_ret (v := .tuple #[.agg #[.slice none 0 0], .int .i64 40]) (by simp [results, Try.results34, go_sem, t0]) rfl ⟨C6.out.setCell (p := ⟨w.heap.size + 1, 0, none⟩) (by show w.heap.size ≤ w.heap.size + 1; omega) _, by rw [HN.out]⟩
      · have K59 := hid (readRow_v wr _ _ (hRd.slB hat hcc) (by rw [List.length_drop]; omega))
        cases hv : rwD (bs.drop at') with
        | none =>
          rw [hv] at K59
          have HN : Hid (resD p bs = none) := hid (by rw [HRD.out, Hr0.out]; simp only [goD, hv]; rfl)
          clear hRd hv
          go_wp2_with (go_at_call 59; (refine (Hid.out K59).mono ?_; rintro e w2 ⟨hb2, rfl⟩; obtain ⟨c1, c2, c3, c4, c5, c6⟩ := FW.out w2 hb2; have C4 := hid c4; have C6 := hid c6; clear hb2 c4 c5 c6 q1 y1 q2 y2))
          have t0 := cellOf (set_cells C4.out (.slice none 0 0)) 0
          simp only [List.getElem?_toArray, List.getElem?_cons_zero] at t0
          refine bodyPost_ret (v := .tuple #[.agg #[.slice none 0 0], .int .i64 40]) (by simp [results, Try.results34, go_sem, t0]) rfl ⟨C6.out.setCell (p := ⟨w.heap.size + 1, 0, none⟩) (by show w.heap.size ≤ w.heap.size + 1; omega) _, by rw [HN.out]⟩
        | some r =>
          obtain ⟨Y, k2⟩ := r
          rw [hv] at K59
          have hk2 := rwD_le (HBy.out.drop at') hv
          rw [List.length_drop] at hk2
          have Hres : Hid (RES = goD rwD bs gi (at' + k2) (X ++ [Y])) := hid (by rw [Hr0.out]; simp only [goD, hv])
          clear hRd hv
          go_wp2_with (first
            | (go_at_call 59; (refine (Hid.out K59).mono ?_; rintro e w2 ⟨hb2, xa, xn, xc, qs, rfl, hx, hxc, he⟩; obtain ⟨c1, c2, c3, c4, c5, c6⟩ := FW.out w2 hb2; have C5 := hid c5; have HX2 := hid hx; have HXC := hid hxc; have HE := hid he; have HB2 := hid hb2; have hs2 := hb2.size; clear hb2 c1 c2 c4 c5 c6 hx hxc he q1 y1 q2 y2))
            | (at_builtin; (refine wpList_appM w2 rfl _ _ rfl (.slice ga gn gc) ⟨xa, xn, xc⟩ (by rfl) (by rfl) (w.heap.size + 3) (ns.map (·.1)) C5.out (by omega) hrl ?_; intro v10 w10 hr10 hg10; obtain ⟨va, vc, e4, _⟩ := hr10.form; obtain ⟨vn, hvn⟩ : ∃ vn, vn = (ns.map (·.1) ++ [(⟨xa, xn, xc⟩ : Sl)]).length := ⟨_, rfl⟩; rw [← hvn] at e4; subst e4; have hgr := HI.out.grown HB2.out hg10; have z10 := cellOf hgr 0; have f10 := freeOf hgr 0; simp only [List.getElem?_toArray, List.getElem?_cons_zero] at z10; have HM := hid (HI.out.more HB2.out HX2.out HXC.out HE.out hr10 hg10); clear hr10 hg10 hvn hgr c3)))
          go_roundg gi
          case measure => omega
          case rel => exact ⟨j + 1, at' + k2, _, _, _, _, _, by have := Hj.out; omega, by rw [List.length_append, HX.out]; rfl, by go_num, by go_num, by omega, Hres.out, HM.out⟩
end Go.Proofs.Ytenfgahedbeekaa

namespace Go.Proofs.Ytenfgahedbeekaa
open Go.RowKit Go.Deep Go.Shelf
set_option linter.unusedVariables false
set_option linter.unusedSimpArgs false

/- A name that begins as it must. -/
/- Whether a name comes twice. -/
theorem toList_inj {x y : ByteArray} : (x.toList == y.toList) = decide (x = y) := by
  rw [Bool.eq_iff_iff, beq_iff_eq, decide_eq_true_eq, ByteArray.toList_eq, ByteArray.toList_eq]
  constructor
  · intro h; cases x; cases y; simp_all
  · rintro rfl; rfl
end Go.Proofs.Ytenfgahedbeekaa

namespace Go.Proofs.Ytenfgahedbeekaa
open Go.RowKit Go.Deep Go.Shelf
set_option linter.unusedVariables false
set_option linter.unusedSimpArgs false

def ordI (a b : Bool) : Int := if a then -1 else if b then 1 else 0
theorem refOrder (a b : Bool) (w : World) : Calls Try.prog 69 #[.bool a, .bool b] w fun e w' => e = .returned (.int .i64 (ordI a b)) ∧ w' = w := by
  cases a <;> cases b <;>
    (go_enter Try.func69, Try.ntmps69
     go_wp2
     go_ret
     exact ⟨rfl, rfl⟩)
theorem ci_ord (a b : Int) : ordI (decide (a < b)) (decide (b < a)) = ci a b := by
  unfold ordI ci
  by_cases h1 : a < b <;> by_cases h2 : b < a <;> simp [h1, h2]
theorem cS_less {s t : ByteArray} : Op.bytesLess s.toList t.toList = decide (cS s t = -1) := by
  unfold cS cB
  cases Op.bytesLess s.toList t.toList
  · cases s.toList == t.toList <;> rfl
  · rfl
theorem cS_ord2 (s t : ByteArray) : ordI (Op.bytesLess s.toList t.toList) (!Op.bytesLess s.toList t.toList && !(s.toList == t.toList)) = cS s t := by
  unfold cS cB ordI
  cases Op.bytesLess s.toList t.toList <;> cases s.toList == t.toList <;> rfl
theorem cmpL_drop {α : Type} {f : α → α → Int} {l m : List α} {i : Nat} {x y : α} (hx : l[i]? = some x) (hy : m[i]? = some y) : cmpL f (l.drop i) (m.drop i) = if f x y = 0 then cmpL f (l.drop (i + 1)) (m.drop (i + 1)) else f x y := by
  obtain ⟨h1, e1⟩ := List.getElem?_eq_some_iff.1 hx
  obtain ⟨h2, e2⟩ := List.getElem?_eq_some_iff.1 hy
  rw [List.drop_eq_getElem_cons h1, List.drop_eq_getElem_cons h2, e1, e2, cmpL]
theorem cmpL_end {α : Type} {f : α → α → Int} {l m : List α} {i : Nat} (h1 : i ≤ l.length) (h2 : i ≤ m.length) (h : i = l.length ∨ i = m.length) : cmpL f (l.drop i) (m.drop i) = ci l.length m.length := by
  have d1 : (l.drop i).length = l.length - i := List.length_drop
  have d2 : (m.drop i).length = m.length - i := List.length_drop
  unfold ci
  cases hl : l.drop i with
  | nil =>
    rw [hl] at d1
    simp at d1
    cases hm : m.drop i with
    | nil => rw [hm] at d2; simp at d2; rw [cmpL, if_neg (by omega), if_neg (by omega)]
    | cons b t => rw [hm] at d2; simp at d2; rw [cmpL, if_pos (by omega)]
  | cons a t =>
    rw [hl] at d1
    simp at d1
    cases hm : m.drop i with
    | nil => rw [hm] at d2; simp at d2; rw [cmpL, if_neg (by omega), if_pos (by omega)]
    | cons b u => rw [hm] at d2; simp at d2; omega
theorem two_cells (w : World) (c1 c2 : Array Value) (t : TypeId) {wr : World} (h : Below (w.heap.size + 2) ((w.alloc (.cells c1 t)).alloc (.cells c2 t)) wr) : wr.heap[w.heap.size]? = some (.cells c1 t (0, 0)) ∧ wr.heap[w.heap.size + 1]? = some (.cells c2 t (0, 0)) := by
  constructor
  · rw [h.block _ (by omega), Below.heap_alloc _ _ _ (by simp)]; exact heap_alloc_new w _
  · rw [h.block _ (by omega)]
    have := heap_alloc_new (w.alloc (.cells c1 t)) (.cells c2 t)
    rw [World.size_alloc] at this
    exact this
def CmR (R : Int) {α : Type} (f : α → α → Int) (l m : List α) (i : Nat) (c : Int) : Prop := (c = 0 ∧ i ≤ l.length ∧ i ≤ m.length ∧ cmpL f (l.drop i) (m.drop i) = R) ∨ (¬ c = 0 ∧ c = R)
set_option maxRecDepth 100000 in
set_option maxHeartbeats 4000000 in
theorem refCmp_step (k : Nat) (ih : ∀ (w : World) (s t : VT k), Rds k w s → Rds k w t → Calls Try.prog 48 #[(hdT k s).v, (hdT k t).v] w fun e w' => e = .returned (.int .i64 (cmpT k s t)) ∧ Below w.heap.size w w') (w : World) (s t : VT (k + 1)) (hs : Rds (k + 1) w s) (ht : Rds (k + 1) w t) :
    Calls Try.prog 48 #[(hdT (k + 1) s).v, (hdT (k + 1) t).v] w fun e w' => e = .returned (.int .i64 (cmpT (k + 1) s t)) ∧ Below w.heap.size w w' := by
  obtain ⟨⟨k1, i1, t1, r1, a1, m1, c1⟩, l⟩ := s
  obtain ⟨⟨k2, i2, t2, r2, a2, m2, c2⟩, m⟩ := t
  obtain ⟨hin1, hn1, hb1, hv1, hr1⟩ := hs
  obtain ⟨hin2, hn2, hb2, hv2, hr2⟩ := ht
  simp only at hn1 hn2 hb1 hb2 hv1 hv2
  obtain ⟨R, hR⟩ : ∃ R, R = cmpT (k + 1) (⟨k1, i1, t1, r1, a1, m1, c1⟩, l) (⟨k2, i2, t2, r2, a2, m2, c2⟩, m) := ⟨_, rfl⟩
  have hR2 : R = if cH ⟨k1, i1, t1, r1, a1, m1, c1⟩ ⟨k2, i2, t2, r2, a2, m2, c2⟩ = 0 then cmpL (cmpT k) l m else cH ⟨k1, i1, t1, r1, a1, m1, c1⟩ ⟨k2, i2, t2, r2, a2, m2, c2⟩ := by rw [hR]; rfl
  have hcH : cH ⟨k1, i1, t1, r1, a1, m1, c1⟩ ⟨k2, i2, t2, r2, a2, m2, c2⟩ = orL [ci k1 k2, ci i1 i2, cS t1 t2, ci r1 r2] := rfl
  rw [← hR]
  simp only [hdT, Hd.v]
  have ho := hid (fun a b w => refOrder a b w)
  have hff : ordI false false = 0 := rfl
  have hB0 : Below w.heap.size w ((w.alloc (.cells #[.int .i64 k1, .int .i64 i1, .string t1, .int .i64 r1, .slice a1 m1 c1] 31)).alloc (.cells #[.int .i64 k2, .int .i64 i2, .string t2, .int .i64 r2, .slice a2 m2 c2] 31)) := ((Below.refl _ _).alloc (Nat.le_refl _) _).alloc (by simp) _
  have l1 : (m1 : Int) ≤ 1000 := by omega
  have l2 : (m2 : Int) ≤ 1000 := by omega
  rw [hcH] at hR2
  clear hR hcH hin1 hin2
  by_cases e1 : ci k1 k2 = 0
  · obtain rfl := ci_zero e1
    by_cases e2 : ci i1 i2 = 0
    · obtain rfl := ci_zero e2
      by_cases e3 : cS t1 t2 = 0
      · obtain rfl := cS_zero e3
        have hbl : Op.bytesLess t1.toList t1.toList = false := by rw [cS_less, e3]; rfl
        by_cases e4 : ci r1 r2 = 0
        · obtain rfl := ci_zero e4
          simp only [orL, e1, e2, e3, e4, if_true] at hR2
          have HB0 := hid hB0
          have HR2 := hid hR2
          have HV1 := hid hv1
          have HV2 := hid hv2
          have HR1' := hid hr1
          have HR2' := hid hr2
          have Hn1 := hid hn1
          have Hn2 := hid hn2
          clear hB0 hR2 hv1 hv2 hr1 hr2 hn1 hn2 e1 e2 e3 e4
          go_enter Try.func48, Try.ntmps48
          go_wp2_with (go_at_call 69; (refine (Hid.out ho _ _ _).mono ?_; rintro e w2 ⟨rfl, rfl⟩))
          go_loopg [5, 6] (min m1 m2 + 1) (fun g cc ii wr => ∃ (i : Nat) (c : Int), cc = .int .i64 c ∧ ii = .int .i64 (i : Int) ∧ min m1 m2 + 1 ≤ i + g ∧ i ≤ 1000 ∧ CmR R (cmpT k) l m i c ∧ Below (w.heap.size + 2) ((w.alloc (.cells #[.int .i64 k1, .int .i64 i1, .string t1, .int .i64 r1, .slice a1 m1 c1] 31)).alloc (.cells #[.int .i64 k1, .int .i64 i1, .string t1, .int .i64 r1, .slice a2 m2 c2] 31)) wr)
          case atStart => exact ⟨0, 0, rfl, rfl, by omega, by omega, .inl ⟨rfl, by omega, by omega, HR2.out.symm⟩, Below.refl _ _⟩
          case round =>
            obtain ⟨i, c, rfl, rfl, hg, hi1000, hcm, hbel⟩ := hrel
            have Hbel := hid hbel
            obtain ⟨p1, p2⟩ := two_cells w _ _ 31 hbel
            have s14 := cellOf p1 4
            have s24 := cellOf p2 4
            simp only [List.getElem?_toArray, List.getElem?_cons_zero, List.getElem?_cons_succ] at s14 s24
            have hbw : Below w.heap.size w wr := HB0.out.trans (hbel.mono (by omega))
            have Hbw := hid hbw
            have q1 := hid (HV1.out.below (Nat.le_refl _) hbw)
            have q2 := hid (HV2.out.below (Nat.le_refl _) hbw)
            clear p1 p2 hbel hbw
            have hi1000' : (i : Int) ≤ 1000 := by omega
            have Hg := hid hg
            clear hg
            rcases hcm with ⟨rfl, hil, him, hcm⟩ | ⟨hc0, hcR⟩
            · by_cases hlt : i < m1 ∧ i < m2
              · have hx1 : (i : Int) < (m1 : Int) := by omega
                have hx2 : (i : Int) < (m2 : Int) := by omega
                obtain ⟨g', rfl⟩ : ∃ g', gk = g' + 1 := ⟨gk - 1, by have := Hg.out; omega⟩
                obtain ⟨x, hx⟩ : ∃ x, l[i]? = some x := ⟨l[i]'(by rw [← Hn1.out]; exact hlt.1), List.getElem?_eq_getElem _⟩
                obtain ⟨y, hy⟩ : ∃ y, m[i]? = some y := ⟨m[i]'(by rw [← Hn2.out]; exact hlt.2), List.getElem?_eq_getElem _⟩
                have hcd := cmpL_drop (f := cmpT k) hx hy
                rw [hcm] at hcd
                have hxr := HR1'.out x (List.mem_of_getElem? hx)
                have hyr := HR2'.out y (List.mem_of_getElem? hy)
                obtain ⟨b1, o1, ea, d1⟩ := q1.out i (hdT k x) (by rw [List.getElem?_map, hx]; rfl)
                subst ea
                obtain ⟨b2, o2, ea, d2⟩ := q2.out i (hdT k y) (by rw [List.getElem?_map, hy]; rfl)
                subst ea
                have K := hid (fun (w1 : World) (hb : Below w.heap.size w w1) => ih w1 x y (Rds.below k hxr (Nat.le_refl _) hb) (Rds.below k hyr (Nat.le_refl _) hb))
                obtain ⟨C, hC⟩ : ∃ C, C = cmpT k x y := ⟨_, rfl⟩
                rw [← hC] at K hcd
                generalize hdT k x = f at *
                generalize hdT k y = h at *
                obtain ⟨fk, fi, ft, fr, fa, fn, fc⟩ := f
                obtain ⟨gk2, gi, gt, gr, ga, gn, gc⟩ := h
                have x0 := d1 0 (by omega)
                have x1 := d1 1 (by omega)
                have x2 := d1 2 (by omega)
                have x3 := d1 3 (by omega)
                have x4 := d1 4 (by omega)
                have y0 := d2 0 (by omega)
                have y1 := d2 1 (by omega)
                have y2 := d2 2 (by omega)
                have y3 := d2 3 (by omega)
                have y4 := d2 4 (by omega)
                simp only [Hd.cs, List.getElem?_cons_zero, List.getElem?_cons_succ, Nat.add_zero] at x0 x1 x2 x3 x4 y0 y1 y2 y3 y4
                simp only [Hd.v] at K
                have Hcd := hid hcd
                have Hlt := hid hlt
                clear d1 d2 hx hy hxr hyr hcd hC hcm hlt q1 q2 hil him ih
                go_wp2_with fail
                go_region_held3 (fun w2 => w2.cell? ⟨w.heap.size, 4, none⟩ = some (.slice (some ⟨b1, o1, none⟩) m1 c1) ∧ w2.cell? ⟨w.heap.size + 1, 4, none⟩ = some (.slice (some ⟨b2, o2, none⟩) m2 c2) ∧ w2.cell? ⟨b1, o1 + i * 5, none⟩ = some (.int .i64 fk) ∧ w2.cell? ⟨b1, o1 + i * 5 + 1, none⟩ = some (.int .i64 fi) ∧ w2.cell? ⟨b1, o1 + i * 5 + 2, none⟩ = some (.string ft) ∧ w2.cell? ⟨b1, o1 + i * 5 + 3, none⟩ = some (.int .i64 fr) ∧ w2.cell? ⟨b1, o1 + i * 5 + 4, none⟩ = some (.slice fa fn fc) ∧ w2.cell? ⟨b2, o2 + i * 5, none⟩ = some (.int .i64 gk2) ∧ w2.cell? ⟨b2, o2 + i * 5 + 1, none⟩ = some (.int .i64 gi) ∧ w2.cell? ⟨b2, o2 + i * 5 + 2, none⟩ = some (.string gt) ∧ w2.cell? ⟨b2, o2 + i * 5 + 3, none⟩ = some (.int .i64 gr) ∧ w2.cell? ⟨b2, o2 + i * 5 + 4, none⟩ = some (.slice ga gn gc)) (first | exact ⟨tt _ _ s14, tt _ _ s24, tt _ _ x0, tt _ _ x1, tt _ _ x2, tt _ _ x3, tt _ _ x4, tt _ _ y0, tt _ _ y1, tt _ _ y2, tt _ _ y3, tt _ _ y4⟩ | go_keep) ((go_at_call 48; (refine (K.out _ (Hbw.out.drew)).mono ?_; rintro e w9 ⟨rfl, hB9⟩; have tt : ∀ (p : Addr) (v : Value), wr.cell? p = some v → w9.cell? p = some v := fun p v h => (hB9.cell (p := p) (World.block_lt_of_cell? wr p h)).trans h)))
                have Htt := hid tt
                clear tt
                go_wp2
                go_roundg g'
                case measure => omega
                case rel =>
                  refine ⟨i + 1, C, rfl, by go_num, by have := Hg.out; omega, by have := Hlt.out; omega, ?_, (Hbel.out.drew).trans (hB9.mono (by have := Hbel.out.size; simp at this; exact this))⟩
                  have := Hcd.out
                  have := Hlt.out
                  have := Hn1.out
                  have := Hn2.out
                  by_cases hC0 : C = 0
                  · refine .inl ⟨hC0, by omega, by omega, ?_⟩
                    have h5 := Hcd.out
                    rw [if_pos hC0] at h5
                    exact h5.symm
                  · refine .inr ⟨hC0, ?_⟩
                    have h5 := Hcd.out
                    rw [if_neg hC0] at h5
                    exact h5.symm
              · have hend := cmpL_end (f := cmpT k) hil him (by have := Hn1.out; have := Hn2.out; omega)
                rw [hcm] at hend
                rw [← Hn1.out, ← Hn2.out] at hend
                have ho2 := ci_ord (m1 : Int) (m2 : Int)
                rw [← hend] at ho2
                have ho3 : ordI (decide (m1 < m2)) (decide (m2 < m1)) = R := by simpa using ho2
                have Hlt : ¬ ((i : Int) < (m1 : Int) ∧ (i : Int) < (m2 : Int)) := by omega
                have hHlt := hid Hlt
                clear hcm hil him hend
                by_cases hx1 : (i : Int) < (m1 : Int)
                · have hx2 : ¬ (i : Int) < (m2 : Int) := fun h => Hlt ⟨hx1, h⟩
                  clear Hlt hlt
                  go_wp2_with (go_at_call 69; (refine (Hid.out ho _ _ _).mono ?_; rintro e w2 ⟨rfl, rfl⟩))
                  go_ret
                  exact ⟨by first | rfl | (rw [ho2]; rfl) | (simp; exact ho2) | (simp; exact ho3), Hbw.out⟩
                · clear Hlt hlt
                  go_wp2_with (go_at_call 69; (refine (Hid.out ho _ _ _).mono ?_; rintro e w2 ⟨rfl, rfl⟩))
                  go_ret
                  exact ⟨by first | rfl | (rw [ho2]; rfl) | (simp; exact ho2) | (simp; exact ho3), Hbw.out⟩
            · have hc1 : (c == 0) = false := by simpa using hc0
              have HcR := hid hcR
              clear hcR
              go_wp2
              all_goals (go_ret; exact ⟨by rw [← HcR.out]; rfl, Hbw.out⟩)
        · simp only [orL, e1, e2, e3, e4, if_true, if_false] at hR2
          have ho1 := ci_ord r1 r2
          rw [← hR2] at ho1
          have hRn : ¬ R = 0 := by rw [hR2]; exact e4
          have hRb : (R == 0) = false := by simpa using hRn
          have HB0 := hid hB0
          clear hB0 hR2 hv1 hv2 hr1 hr2 hn1 hn2 e1 e2 e3 e4 ih
          go_enter Try.func48, Try.ntmps48
          go_wp2_with (go_at_call 69; (refine (Hid.out ho _ _ _).mono ?_; rintro e w2 ⟨rfl, rfl⟩))
          refine wp_loop_rounds 1 ?_
          rw [rounds_succ]
          go_wp2
          all_goals (go_ret; exact ⟨rfl, HB0.out⟩)
      · simp only [orL, e1, e2, e3, if_true, if_false] at hR2
        have ho1 := cS_ord2 t1 t2
        rw [← hR2] at ho1
        have hRn : ¬ R = 0 := by rw [hR2]; exact e3
        have hRb : (R == 0) = false := by simpa using hRn
        have HB0 := hid hB0
        clear hB0 hR2 hv1 hv2 hr1 hr2 hn1 hn2 e1 e2 e3 ih
        go_enter Try.func48, Try.ntmps48
        go_wp2_with (go_at_call 69; (refine (Hid.out ho _ _ _).mono ?_; rintro e w2 ⟨rfl, rfl⟩))
        refine wp_loop_rounds 1 ?_
        rw [rounds_succ]
        go_wp2
        all_goals (go_ret; exact ⟨rfl, HB0.out⟩)
    · simp only [orL, e1, e2, if_true, if_false] at hR2
      have ho1 := ci_ord i1 i2
      rw [← hR2] at ho1
      have hRn : ¬ R = 0 := by rw [hR2]; exact e2
      have hRb : (R == 0) = false := by simpa using hRn
      have HB0 := hid hB0
      clear hB0 hR2 hv1 hv2 hr1 hr2 hn1 hn2 e1 e2 ih
      go_enter Try.func48, Try.ntmps48
      go_wp2_with (go_at_call 69; (refine (Hid.out ho _ _ _).mono ?_; rintro e w2 ⟨rfl, rfl⟩))
      refine wp_loop_rounds 1 ?_
      rw [rounds_succ]
      go_wp2
      all_goals (go_ret; exact ⟨rfl, HB0.out⟩)
  · simp only [orL, e1, if_true, if_false] at hR2
    have ho1 := ci_ord k1 k2
    rw [← hR2] at ho1
    have hRn : ¬ R = 0 := by rw [hR2]; exact e1
    have hRb : (R == 0) = false := by simpa using hRn
    have HB0 := hid hB0
    clear hB0 hR2 hv1 hv2 hr1 hr2 hn1 hn2 e1 ih
    go_enter Try.func48, Try.ntmps48
    go_wp2_with (go_at_call 69; (refine (Hid.out ho _ _ _).mono ?_; rintro e w2 ⟨rfl, rfl⟩))
    refine wp_loop_rounds 1 ?_
    rw [rounds_succ]
    go_wp2
    all_goals (go_ret; exact ⟨rfl, HB0.out⟩)
theorem refCmp : ∀ (k : Nat) (w : World) (s t : VT k), Rds k w s → Rds k w t → Calls Try.prog 48 #[(hdT k s).v, (hdT k t).v] w fun e w' => e = .returned (.int .i64 (cmpT k s t)) ∧ Below w.heap.size w w'
  | 0, _, _, _, h, _ => h.elim
  | k + 1, w, s, t, hs, ht => refCmp_step k (refCmp k) w s t hs ht
theorem refSame (k : Nat) (w : World) (s t : VT k) (hs : Rds k w s) (ht : Rds k w t) : Calls Try.prog 23 #[(hdT k s).v, (hdT k t).v] w fun e w' => e = .returned (.bool (cmpT k s t == 0)) ∧ Below w.heap.size w w' := by
  have K := hid (fun (w1 : World) (hb : Below w.heap.size w w1) => refCmp k w1 s t (Rds.below k hs (Nat.le_refl _) hb) (Rds.below k ht (Nat.le_refl _) hb))
  clear hs ht
  generalize cmpT k s t = c at *
  generalize hdT k s = h at *
  generalize hdT k t = g at *
  obtain ⟨k1, i1, t1, r1, a1, m1, c1⟩ := h
  obtain ⟨k2, i2, t2, r2, a2, m2, c2⟩ := g
  simp only [Hd.v] at K ⊢
  go_enter Try.func23, Try.ntmps23
  go_wp2_with (go_at_call 48; (refine (K.out _ (by first | exact Below.refl _ _ | exact (((Below.refl _ _).alloc (Nat.le_refl _) _).alloc (by simp) _))).mono ?_; rintro e w9 ⟨rfl, hB9⟩))
  go_ret
  first | exact ⟨rfl, hB9⟩ | exact ⟨rfl, (((Below.refl _ _).alloc (Nat.le_refl _) _).alloc (by simp) _).trans (hB9.mono (by simp; omega))⟩
end Go.Proofs.Ytenfgahedbeekaa

namespace Go.Proofs.Ytenfgahedbeekaa
open Go.RowKit Go.Deep Go.Shelf
set_option linter.unusedVariables false
set_option linter.unusedSimpArgs false

theorem stV_pl {k : Nat} {p : Pg} {ms : List (Sl × Rw (k + 2))} (h : stV k p (ms.map (·.2)) = true) : ∀ m ∈ ms, m.2.length ≤ 24 ∧ ∀ q ∈ m.2, plV k q.1 = true ∧ plV k q.2 = true := by
  intro m hm
  unfold stV at h
  simp only [Bool.and_eq_true, decide_eq_true_eq, List.all_eq_true, List.mem_range] at h
  obtain ⟨⟨_, hl⟩, ha⟩ := h
  obtain ⟨i, hi, hmi⟩ := List.mem_iff_getElem.1 hm
  have hi2 : i < p.maps.length := by rw [← hl, List.length_map]; exact hi
  have h1 := ha i hi2
  unfold mpV at h1
  rw [List.getElem?_eq_getElem hi2, List.getElem?_map, List.getElem?_eq_getElem hi, hmi] at h1
  simp only [Option.map_some] at h1
  unfold mapV at h1
  simp only [Bool.and_eq_true, decide_eq_true_eq, List.all_eq_true, List.mem_range] at h1
  refine ⟨h1.1, fun q hq => ?_⟩
  obtain ⟨j, hj, hqj⟩ := List.mem_iff_getElem.1 hq
  have h2 := h1.2 j hj
  unfold entV at h2
  rw [List.getElem?_eq_getElem hj, hqj] at h2
  simp only [Bool.and_eq_true] at h2
  obtain ⟨⟨a, b⟩, _⟩ := h2
  unfold isV isB at a b
  simp only [Bool.and_eq_true] at a b
  exact ⟨a.1.1.2, b.1.1.2⟩
def SnP (k : Nat) (w : World) (p : Pg) (ms : List (Sl × Rw (k + 2))) (e : Ending) (w' : World) : Prop :=
  Below w.heap.size w w' ∧ ∃ v', e = .returned (.tuple #[v', .int .i64 (if stV k p (ms.map (·.2)) then 0 else 40)]) ∧ Row w' w.heap.size v' (if stV k p (ms.map (·.2)) then encSt k (ms.map (·.2)) else [])
theorem heapSnap_any (k : Nat) (w : World) (g : PH) (p : Pg) (d : PRd w g p) (sa : Option Addr) (sn sc : Nat) (ms : List (Sl × Rw (k + 2))) (hs : StR (k + 2) w sa sn ms) :
    Calls Try.prog 31 #[g.v, .agg #[.slice sa sn sc]] w (SnP k w p ms) := by
  obtain ⟨ra, rn, rc, ma, mn, mc, fa, fn, fc, ea, en, ec⟩ := g
  exact snap31 k w ra ma fa ea sa rn rc mn mc fn fc en ec sn sc ms hs _ (fun w1 hb => heapIs_any k w1 _ p (d.below (Nat.le_refl _) hb) sa sn sc ms (hs.below (Nat.le_refl _) hb)) stV_pl
theorem encN_byt {k : Nat} {q : VT (k + 2) × VT (k + 2)} (h : plV k q.1 = true ∧ plV k q.2 = true) : Byt (encN k q) := (encW_byt h.1).append (encW_byt h.2)
theorem encSt_byt {k : Nat} {p : Pg} {ms : List (Sl × Rw (k + 2))} (h : stV k p (ms.map (·.2)) = true) : Byt (encSt k (ms.map (·.2))) := by
  have h1 := stV_pl h
  intro x hx
  simp only [encSt, List.mem_flatMap, List.mem_map] at hx
  obtain ⟨r, ⟨m, hm, rfl⟩, hx⟩ := hx
  unfold encRw at hx
  rcases List.mem_append.1 hx with hx | hx
  · exact enc_byt _ x hx
  · simp only [List.mem_flatMap] at hx
    obtain ⟨q, hq, hx⟩ := hx
    exact encN_byt ((h1 m hm).2 q hq) x hx
end Go.Proofs.Ytenfgahedbeekaa

namespace Go.Proofs.Ytenfgahedbeekaa
open Go.RowKit Go.Deep Go.Shelf
set_option linter.unusedVariables false
set_option linter.unusedSimpArgs false

def pj (h : Hd) : Hd := ⟨h.kind, h.int, h.text, h.rc, none, h.n, h.n⟩
theorem all_pj (fs : List Hd) : (fs.map pj).all simpleB = fs.all simpleB := by
  rw [List.all_map]; rfl
theorem fieldsAre_pj (r : Rc) (fs : List Hd) : fieldsAre r (fs.map pj) = fieldsAre r fs := by
  unfold fieldsAre
  rw [List.length_map]
  congr 1
  refine congrArg (fun f => (List.range r.fields.length).all f) (funext fun i => ?_)
  rw [List.getElem?_map, Option.map_map]; rfl
theorem plainB_pj (h : Hd) (fs : List Hd) : plainB (pj h) (fs.map pj) = plainB h fs := by
  unfold plainB
  rw [all_pj]; rfl
theorem isB_pj (p : Pg) (t : TyP) (h : Hd) (fs : List Hd) : isB p t (pj h) (fs.map pj) = isB p t h fs := by
  unfold isB
  rw [plainB_pj]
  congr 1
  split
  · congr 1
    congr 1
    funext x
    exact fieldsAre_pj x.2 fs
  · rfl
theorem encV_pj (h : Hd) (fs : List Hd) : encV (pj h) (fs.map pj) = encV h fs := by
  unfold encV encR
  rw [List.flatMap_map]; rfl
structure WF (v : VT 3) : Prop where
  n : v.1.n = v.2.length
  c : ∀ u ∈ v.2, (hdT 2 u).n = u.2.length
def can (v : VT 3) : VT 3 := toT 3 (ofT 3 v)
theorem can_hd (v : VT 3) (h : v.1.n = v.2.length) : (can v).1 = pj v.1 := by
  show (⟨v.1.kind, v.1.int, v.1.text, v.1.rc, none, (v.2.map (ofT 2)).length, (v.2.map (ofT 2)).length⟩ : Hd) = pj v.1
  rw [List.length_map, ← h]; rfl
theorem can_fs (v : VT 3) (h : ∀ u ∈ v.2, (hdT 2 u).n = u.2.length) : (can v).2.map (hdT 2) = (v.2.map (hdT 2)).map pj := by
  show ((v.2.map (ofT 2)).map (toT 2)).map (hdT 2) = (v.2.map (hdT 2)).map pj
  rw [List.map_map, List.map_map, List.map_map]
  refine List.map_congr_left (fun u hu => ?_)
  show (⟨u.1.kind, u.1.int, u.1.text, u.1.rc, none, (u.2.map (ofT 1)).length, (u.2.map (ofT 1)).length⟩ : Hd) = pj u.1
  rw [List.length_map, ← h u hu]; rfl
theorem isV_can (p : Pg) (t : TyP) (v : VT 3) (h : WF v) : isV 1 p t (can v) = isV 1 p t v := by
  show isB p t (can v).1 ((can v).2.map (hdT 2)) = isB p t v.1 (v.2.map (hdT 2))
  rw [can_hd v h.n, can_fs v h.c, isB_pj]
theorem encW_can (v : VT 3) (h : WF v) : encW 1 (can v) = encW 1 v := by
  show encV (can v).1 ((can v).2.map (hdT 2)) = encV v.1 (v.2.map (hdT 2))
  rw [can_hd v h.n, can_fs v h.c, encV_pj]
theorem cmp_can (s t : VT 3) : cmpT 3 (can s) (can t) = cmpT 3 s t := by
  unfold can
  rw [← cmpC_of, of_toT, of_toT, cmpC_of]
def canP (q : VT 3 × VT 3) : VT 3 × VT 3 := (can q.1, can q.2)
def WFr (r : Rw 3) : Prop := ∀ q ∈ r, WF q.1 ∧ WF q.2
def WFs (rows : List (Rw 3)) : Prop := ∀ r ∈ rows, WFr r
theorem entV_can (p : Pg) (m : Mp) (row : Rw 3) (h : WFr row) (i : Nat) : entV 1 p m (row.map canP) i = entV 1 p m row i := by
  unfold entV
  rw [List.getElem?_map]
  cases h1 : row[i]? with
  | none => rfl
  | some q =>
    have hq := h q (List.mem_of_getElem? h1)
    simp only [Option.map_some, canP, isV_can _ _ _ hq.1, isV_can _ _ _ hq.2]
    rw [List.getElem?_map]
    cases h2 : row[i - 1]? with
    | none => rfl
    | some o =>
      simp only [Option.map_some, canP]
      rw [show cmpT (1 + 2) (can o.1) (can q.1) = cmpT (1 + 2) o.1 q.1 from cmp_can _ _]
theorem mapV_can (p : Pg) (m : Mp) (row : Rw 3) (h : WFr row) : mapV 1 p m (row.map canP) = mapV 1 p m row := by
  unfold mapV
  rw [List.length_map]
  congr 1
  exact congrArg (fun f => (List.range row.length).all f) (funext (entV_can p m row h))
theorem stV_can (p : Pg) (rows : List (Rw 3)) (h : WFs rows) : stV 1 p (rows.map fun r => r.map canP) = stV 1 p rows := by
  unfold stV
  rw [List.length_map]
  congr 1
  refine congrArg (fun f => (List.range p.maps.length).all f) (funext fun i => ?_)
  unfold mpV
  rw [List.getElem?_map]
  cases h1 : p.maps[i]? with
  | none => rfl
  | some m =>
    cases h2 : rows[i]? with
    | none => rfl
    | some r => simp only [Option.map_some, mapV_can p m r (h r (List.mem_of_getElem? h2))]
theorem encN_can (q : VT 3 × VT 3) (h : WF q.1 ∧ WF q.2) : encN 1 (canP q) = encN 1 q := by
  unfold encN canP
  simp only
  rw [encW_can _ h.1, encW_can _ h.2]
theorem flat_can : ∀ (r : Rw 3), WFr r → (r.map canP).flatMap (encN 1) = r.flatMap (encN 1)
  | [], _ => rfl
  | q :: r, h => by
    rw [List.map_cons, List.flatMap_cons, List.flatMap_cons, encN_can q (h q (List.mem_cons_self ..)), flat_can r (fun q hq => h q (List.mem_cons_of_mem _ hq))]
theorem encRw_can (r : Rw 3) (h : WFr r) : encRw 1 (r.map canP) = encRw 1 r := by
  unfold encRw
  rw [List.length_map, flat_can r h]
theorem encSt_can : ∀ (rows : List (Rw 3)), WFs rows → encSt 1 (rows.map fun r => r.map canP) = encSt 1 rows
  | [], _ => rfl
  | r :: rows, h => by
    have ih := encSt_can rows (fun r hr => h r (List.mem_cons_of_mem _ hr))
    unfold encSt at ih ⊢
    rw [List.map_cons, List.flatMap_cons, List.flatMap_cons, encRw_can r (h r (List.mem_cons_self ..)), ih]
/- What a state holds tells its bytes, and whether it is one. -/
def ctS (rows : List (Rw 3)) : List (RC 3) := rows.map (rowC 3)
def toS (C : List (RC 3)) : List (Rw 3) := C.map fun r => r.map fun c => (toT 3 c.1, toT 3 c.2)
theorem toS_ct (rows : List (Rw 3)) : toS (ctS rows) = rows.map fun r => r.map canP := by
  unfold toS ctS
  rw [List.map_map]
  refine List.map_congr_left (fun r _ => ?_)
  show ((r.map (ofP 3)).map fun c => (toT 3 c.1, toT 3 c.2)) = r.map canP
  rw [List.map_map]; rfl
theorem enc_ct {rows rows' : List (Rw 3)} (h : WFs rows) (h' : WFs rows') (e : ctS rows = ctS rows') : encSt 1 rows = encSt 1 rows' := by
  rw [← encSt_can rows h, ← encSt_can rows' h', ← toS_ct, ← toS_ct, e]
theorem stV_ct {p : Pg} {rows rows' : List (Rw 3)} (h : WFs rows) (h' : WFs rows') (e : ctS rows = ctS rows') : stV 1 p rows = stV 1 p rows' := by
  rw [← stV_can p rows h, ← stV_can p rows' h', ← toS_ct, ← toS_ct, e]
theorem Rds.wf {w : World} {v : VT 3} (h : Rds 3 w v) : WF v := ⟨h.2.1, fun u hu => (h.2.2.2.2 u hu).2.1⟩
theorem StR.wf {w : World} {a : Option Addr} {n : Nat} {ms : List (Sl × Rw 3)} (h : StR 3 w a n ms) : WFs (ms.map (·.2)) := fun r hr q hq => by
  simp only [List.mem_map] at hr
  obtain ⟨m, hm, rfl⟩ := hr
  exact ⟨((h.el m hm).1.el q hq).1.wf, ((h.el m hm).1.el q hq).2.wf⟩
/- Back: what was read has just these bytes. -/
theorem goD_gen {α : Type} {D : List Nat → Option (α × Nat)} {E : α → List Nat} {G : α → Prop} (hD : ∀ cs x j, Byt cs → D cs = some (x, j) → cs.take j = E x ∧ j ≤ cs.length ∧ G x) {bs : List Nat} (hb : Byt bs) :
    ∀ (c i : Nat) (acc xs : List α) (k : Nat), i ≤ bs.length → goD D bs c i acc = some (xs, k) → ∃ ys, xs = acc ++ ys ∧ bs.take k = bs.take i ++ ys.flatMap E ∧ k ≤ bs.length ∧ ∀ y ∈ ys, G y
  | 0, i, acc, xs, k, hi, h => by
    simp only [goD] at h
    cases h
    exact ⟨[], by simp, by simp, hi, fun y hy => by cases hy⟩
  | c + 1, i, acc, xs, k, hi, h => by
    simp only [goD] at h
    cases hd : D (bs.drop i) with
    | none => rw [hd] at h; cases h
    | some r =>
      obtain ⟨x, j⟩ := r
      rw [hd] at h
      obtain ⟨h1, h2, h3⟩ := hD _ _ _ (hb.drop i) hd
      rw [List.length_drop] at h2
      obtain ⟨ys, e1, e2, e3, e4⟩ := goD_gen hD hb c (i + j) (acc ++ [x]) xs k (by omega) h
      refine ⟨x :: ys, by rw [e1]; simp, ?_, e3, fun y hy => ?_⟩
      · rw [e2, List.take_add, h1, List.flatMap_cons, List.append_assoc]
      · rcases List.mem_cons.1 hy with rfl | hy
        · exact h3
        · exact e4 y hy
def encX (e : Vl × Vl) : List Nat := encV (hdOf e.1) e.1.fs ++ encV (hdOf e.2) e.2.fs
theorem entD_back {cs : List Nat} {e : Vl × Vl} {j : Nat} (hb : Byt cs) (h : entD cs = some (e, j)) : cs.take j = encX e ∧ j ≤ cs.length ∧ (GV e.1 ∧ GV e.2) := by
  obtain ⟨x, y⟩ := e
  obtain ⟨i1, j1, h1, h2, rfl⟩ := entD_parts h
  refine ⟨?_, entD_le hb h, GV.of hb h1, GV.of (hb.drop i1) h2⟩
  rw [List.take_add, (valD_back hb h1).1, (valD_back (hb.drop i1) h2).1]; rfl
theorem rwD_back {cs : List Nat} {r : List (Vl × Vl)} {j : Nat} (hb : Byt cs) (h : rwD cs = some (r, j)) : cs.take j = enc r.length ++ r.flatMap encX ∧ j ≤ cs.length ∧ ∀ e ∈ r, GV e.1 ∧ GV e.2 := by
  have hle := rwD_le hb h
  unfold rwD at h
  cases hd : dec cs with
  | none => rw [hd] at h; cases h
  | some x =>
    obtain ⟨c, i⟩ := x
    rw [hd] at h
    simp only at h
    split at h
    · cases h
    · obtain ⟨h1, _, h3, _⟩ := dec_back hb hd
      have hs := goD_size c i [] r j h
      obtain ⟨ys, e1, e2, e3, e4⟩ := goD_gen (fun cs x j hb e => entD_back hb e) hb c i [] r j h3 h
      simp only [List.nil_append] at e1
      subst e1
      refine ⟨?_, hle, e4⟩
      rw [e2, h1]
      congr 2
      simpa using hs.symm
theorem encW_tvl (x : Vl) : encW 1 (tvl x) = encV (hdOf x) x.fs := by
  show encV (hdOf x) ((x.fs.map fl).map (hdT 2)) = encV (hdOf x) x.fs
  rw [flat_back]
theorem flat_tvl : ∀ r : List (Vl × Vl), (r.map tvlP).flatMap (encN 1) = r.flatMap encX
  | [] => rfl
  | e :: r => by
    rw [List.map_cons, List.flatMap_cons, List.flatMap_cons, flat_tvl r]
    congr 1
    show encW 1 (tvl e.1) ++ encW 1 (tvl e.2) = encX e
    rw [encW_tvl, encW_tvl]; rfl
theorem encRw_tvl (r : List (Vl × Vl)) : encRw 1 (r.map tvlP) = enc r.length ++ r.flatMap encX := by
  unfold encRw
  rw [List.length_map, flat_tvl]
theorem encSt_tvl : ∀ X : List (List (Vl × Vl)), encSt 1 (rowsT X) = X.flatMap fun r => enc r.length ++ r.flatMap encX
  | [] => rfl
  | r :: X => by
    have ih := encSt_tvl X
    unfold encSt rowsT at ih ⊢
    rw [List.map_cons, List.flatMap_cons, List.flatMap_cons, encRw_tvl, ih]
theorem WF.tvl {x : Vl} (g : GV x) : WF (tvl x) := ⟨(List.length_map (f := fl)).symm, fun u hu => by
  have hu' : u ∈ x.fs.map fl := hu
  obtain ⟨f, hf, rfl⟩ := List.mem_map.1 hu'
  exact g.small.2 f hf⟩
theorem resD_some {p : Pg} {bs : List Nat} {X : List (List (Vl × Vl))} (h : resD p bs = some X) : goD rwD bs p.maps.length 0 [] = some (X, bs.length) ∧ stV 1 p (rowsT X) = true := by
  unfold resD resOf at h
  cases hg : goD rwD bs p.maps.length 0 [] with
  | none => rw [hg] at h; cases h
  | some r =>
    obtain ⟨Y, k⟩ := r
    rw [hg] at h
    simp only at h
    split at h
    · rename_i hh
      cases h
      exact ⟨by rw [hh.1], hh.2⟩
    · cases h
theorem resD_back {p : Pg} {bs : List Nat} (hb : Byt bs) {X : List (List (Vl × Vl))} (h : resD p bs = some X) : encSt 1 (rowsT X) = bs ∧ stV 1 p (rowsT X) = true ∧ WFs (rowsT X) := by
  obtain ⟨h1, h2⟩ := resD_some h
  obtain ⟨ys, e1, e2, e3, e4⟩ := goD_gen (fun cs x j hb e => rwD_back hb e) hb _ 0 [] X bs.length (Nat.zero_le _) h1
  simp only [List.nil_append] at e1
  subst e1
  refine ⟨?_, h2, fun r hr q hq => ?_⟩
  · rw [encSt_tvl]
    simpa using e2.symm
  · unfold rowsT at hr
    simp only [List.mem_map] at hr
    obtain ⟨r', hr', rfl⟩ := hr
    simp only [List.mem_map] at hq
    obtain ⟨e, he, rfl⟩ := hq
    have := e4 r' hr' e he
    exact ⟨WF.tvl this.1, WF.tvl this.2⟩
end Go.Proofs.Ytenfgahedbeekaa

