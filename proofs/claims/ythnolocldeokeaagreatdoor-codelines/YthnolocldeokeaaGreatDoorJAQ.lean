/- code.Uses, code.Gives. -/
import Derived.Test.YthnolocldeokeaaGreatDoorJAP
import Derived.Sort.LoopGhostIn
import Derived.OrdersIn
namespace Go.Proofs.YthnolocldeokeaaGreatDoor
open Go.RowKit Go.Deep Go.Shelf
set_option linter.unusedVariables false
set_option linter.unusedSimpArgs false
set_option maxRecDepth 100000
attribute [local go_sem] Oper.semAt_some
theorem infoI3 : (Tryz.prog.info? 3).map (fun i => (i.zero, i.size, i.bytes)) = some (some (.int .i64 0), 1, 8) := by kernel_rfl
theorem KR.cells {E : TypeId} {k : Nat} {w : World} {B : Nat} {v : Value} {l : List (List Value)} (h : KR E k w B v l) {g : Nat} (e : v.ownBlock = some g) : ∃ cur, w.heap[g]? = some (.cells cur E (0, 0)) := by
  rcases h.1.2 with ⟨rfl, _⟩ | ⟨g', cap, cur, rfl, _, h4, _⟩
  · cases e
  · cases e; exact ⟨cur, h4⟩
theorem wpListIn_appI {F : Fence} {fnn : Nat} {ops : Array Oper} {rest : List Oper} {o : Oper} {act : Act} {Q : Exit → Act → World → Prop} (w : World) (hgd : o.guard = none) (s x : Operand)
    (ho : o.op = .call { callee := .builtin .append, args := #[s, x], argTypes := #[41, 41] }) (v : Value) (y : Int) (hs : act.eval s = v) (hx : act.eval x = .slice (some ⟨w.heap.size, 0, none⟩) 1 1)
    (B : Nat) (xs : List Int) (h : KR 3 1 w B v (xs.map inc)) (hn : xs.length ≤ 100000) (hB : B ≤ w.heap.size)
    (k : ∀ v' w', KR 3 1 w' B v' ((xs ++ [y]).map inc) → (w.alloc (.cells #[.int .i64 y] 3)).grownBy w' v.ownBlock → wpListIn F fnn Tryz.prog ops Q rest (act.put o.dst v') w') :
    wpListIn F fnn Tryz.prog ops Q (o :: rest) act (w.alloc (.cells #[.int .i64 y] 3)) := by
  refine wpListIn_plain hgd fun K hK => ?_
  obtain ⟨v', w', hrun, h2, h3, _⟩ := run_appK Tryz.underlying41 infoI3 rfl (by decide) (by decide) (w.alloc (.cells #[.int .i64 y] 3)) o.type B v (xs.map inc) (h.below (Nat.le_refl _) ((Below.refl _ w).alloc (Nat.le_refl _) _)) (some ⟨w.heap.size, 0, none⟩) 1 1 [inc y] rfl (crd_one 3 w (inc y) 1 rfl) (rk_inc y) (fun e => by cases e) (by rw [List.length_map]; omega) (by omega) (by rw [World.size_alloc]; omega)
  have h2' : KR 3 1 w' B v' ((xs ++ [y]).map inc) := by rw [List.map_append]; exact h2
  unfold Oper.wpIn
  refine ⟨?_, ?_⟩
  · simp [Oper.about, ho, resolve, Target.leads, Sem.run_pure]
  · rw [Oper.semAt_plain F _ _ (by rw [ho]; intro c hc'; cases hc')]
    simp [execOp, ho, resolve, invoke, builtin, hs, hx, hrun, Result.andThen]
    exact hK _ _ (k v' w' h2' h3)
theorem KR.form' {E : TypeId} {k : Nat} {w : World} {B : Nat} {v : Value} {l : List (List Value)} (h : KR E k w B v l) : ∃ a n c, v = .slice a n c := by
  obtain ⟨a, cap, e, _⟩ := h.rd
  exact ⟨a, _, cap, e⟩
/- What is used so far lies in the box P, all else holds still. -/
def US (V : World) (P : Nat) (L : List Int) (W : World) : Prop := (∃ a n c, W.heap[P]? = some (.cells #[.slice a n c] 41 (0, 0)) ∧ KR 3 1 W V.heap.size (.slice a n c) (L.map inc)) ∧ V.grownBy W (some P)
theorem US_own {α : Type} {V : World} {P : Nat} (f : List α → List Int) : OwnFrom V.heap.size (fun pre W => US V P (f pre) W) := fun s A A' row hs hg hr => by
  obtain ⟨⟨a, n, c, h1, h2⟩, h3⟩ := hs
  refine ⟨⟨a, n, c, keep_cells h1 hg hr, h2.keep fun g e => ?_⟩, ⟨hg.os.trans h3.os, hg.tape.trans h3.tape, hg.output.trans h3.output, Nat.le_trans h3.size hg.size, fun j hj hne => ?_⟩⟩
  · obtain ⟨cur, hc⟩ := h2.cells e
    exact (keep_cells hc hg hr).trans hc.symm
  · exact (hg.block j (by have := h3.size; omega) (fun e => by have := (hr j e.symm).1; omega)).trans (h3.block j hj hne)
theorem US.step {V W w8 : World} {P : Nat} {L : List Int} {y : Int} {a a8 : Option Addr} {n c n8 c8 : Nat} (hP : P < V.heap.size) (h1 : W.heap[P]? = some (.cells #[.slice a n c] 41 (0, 0))) (h2 : KR 3 1 W V.heap.size (.slice a n c) (L.map inc)) (h3 : V.grownBy W (some P)) (h4 : KR 3 1 w8 V.heap.size (.slice a8 n8 c8) ((L ++ [y]).map inc)) (h5 : (W.alloc (.cells #[.int .i64 y] 3)).grownBy w8 (Value.slice a n c).ownBlock) :
    w8.cell? ⟨P, 0, none⟩ = some (.slice a n c) ∧ w8.frozen? ⟨P, 0, none⟩ = false ∧ US V P (L ++ [y]) (w8.setCell ⟨P, 0, none⟩ (.slice a8 n8 c8)) ∧ KeepsFrom V.heap.size W (w8.setCell ⟨P, 0, none⟩ (.slice a8 n8 c8)) := by
  have zW := h3.size
  have bA : Below W.heap.size W (W.alloc (.cells #[.int .i64 y] 3)) := (Below.refl _ W).alloc (Nat.le_refl _) _
  have hown : ∀ g, (Value.slice a n c).ownBlock = some g → V.heap.size ≤ g := fun g e => (h2.own e).1
  have kk : ∀ g, g < V.heap.size → w8.heap[g]? = W.heap[g]? := fun g hg => by
    rw [h5.block g (by rw [World.size_alloc]; omega) (fun e => by have := hown g e.symm; omega)]
    exact bA.block g (by omega)
  have k1 := (kk P hP).trans h1
  refine ⟨cellOf k1 0, freeOf k1 0, ⟨⟨a8, n8, c8, set_cells k1 _, h4.keep fun g e => Below.heap_setCell _ ⟨P, 0, none⟩ _ _ (show g ≠ P from fun e2 => by have := (h4.own e).1; omega)⟩, ?_⟩, ?_⟩
  · have gs := grown_set w8 P 0 (.slice a8 n8 c8)
    refine ⟨gs.os.trans (h5.os.trans (bA.os.trans h3.os)), gs.tape.trans (h5.tape.trans (bA.tape.trans h3.tape)), gs.output.trans (h5.output.trans (bA.output.trans h3.output)), Nat.le_trans zW (Nat.le_trans bA.size (Nat.le_trans h5.size gs.size)), fun j hj hne => ?_⟩
    rw [Below.heap_setCell _ ⟨P, 0, none⟩ _ _ (show j ≠ P from fun e => hne (by rw [e])), kk j hj]
    exact h3.block j hj hne
  · refine ⟨by simp; exact Nat.le_trans bA.size h5.size, fun k o hk ho hc => ?_⟩
    rw [Below.heap_setCell _ ⟨P, 0, none⟩ _ _ (show k ≠ P by omega)]
    have hk2 : k < W.heap.size := lt_of_heap ho
    rw [h5.block k (by rw [World.size_alloc]; omega) (fun e => by
      obtain ⟨cur, hq⟩ := h2.cells e.symm
      rw [ho] at hq; cases hq; cases hc), bA.block k hk2]
    exact ho
def usF (len : Nat) (s : Shp) (o : Opx) (i : Fin 4) : List Int :=
  if (fl s o i).1 = 3 ∨ ((fl s o i).1 = 4 ∧ (fl s o i).2 ≠ -1) then [(fl s o i).2] else if (fl s o i).1 = 5 then (List.range len).map (fun (j : Nat) => (fl s o i).2 + (j : Int)) else []
def usL (len : Nat) (s : Shp) (o : Opx) : List Int := (fourL.map (usF len s o)).flatten
theorem usF_len (len : Nat) (hl : len ≤ 1000) (s : Shp) (o : Opx) (i : Fin 4) : (usF len s o i).length ≤ 1000 := by
  unfold usF
  split
  · simp
  · split
    · simp; exact hl
    · simp
theorem flatM {α : Type} {f : α → List Int} {m : Nat} (h : ∀ i, (f i).length ≤ m) : ∀ l : List α, ((l.map f).flatten).length ≤ m * l.length
  | [] => by simp
  | x :: r => by
    have h1 := flatM h r
    have h2 := h x
    simp only [List.map_cons, List.flatten_cons, List.length_append, List.length_cons, Nat.mul_add, Nat.mul_one]
    omega
structure smO (o : Opx) : Prop where
  d : -1000000 ≤ o.d ∧ o.d ≤ 1000000
  a : -1000000 ≤ o.a ∧ o.a ≤ 1000000
  b : -1000000 ≤ o.b ∧ o.b ≤ 1000000
  k : -1000000 ≤ o.k ∧ o.k ≤ 1000000
theorem smO.fl {o : Opx} (h : smO o) (s : Shp) (i : Fin 4) : -1000000 ≤ (Go.Proofs.YthnolocldeokeaaGreatDoor.fl s o i).2 ∧ (Go.Proofs.YthnolocldeokeaaGreatDoor.fl s o i).2 ≤ 1000000 := by
  rcases (show i = 0 ∨ i = 1 ∨ i = 2 ∨ i = 3 by omega) with rfl | rfl | rfl | rfl
  · exact h.d
  · exact h.a
  · exact h.b
  · exact h.k
def UsP (w : World) (L : List Int) (e : Ending) (w' : World) : Prop := ∃ v, e = .returned (.tuple #[v, .bool true]) ∧ KR 3 1 w' w.heap.size v (L.map inc) ∧ Below w.heap.size w w'
set_option maxHeartbeats 4000000 in
theorem uses_any (SO : ShapeC) (w : World) (h : PH) (p : Pg) (d : PRd w h p) (o : Opx) (hC : isC o.c = true) (len : Nat) (hl : len ≤ 1000) (hlen : rowLen (shpAt o.c).k p o.k = ((len : Int), true)) (so : smO o) :
    Calls Tryz.prog 7 #[h.v, .agg o.cs] w (UsP w (usL len (shpAt o.c) o)) := by
  have hro : Fence.wide.round = none := rfl
  have D := hid (fun (V : World) (hV : Below w.heap.size w V) => d.below (Nat.le_refl _) hV)
  have KR' : Hid (∀ V : World, Below w.heap.size w V → Calls Tryz.prog 16 #[.agg (shpAt o.c).cs.toArray, h.v, .int .i64 o.k] V fun e w' => e = .returned (.tuple #[.int .i64 (len : Int), .bool true]) ∧ Below V.heap.size V w') := hid (fun V hV => by
    have := rowLen_any V (shpAt o.c) h p (D.out V hV) o.k
    rw [hlen] at this
    exact this)
  obtain ⟨ra, rn, rc, ma, mn, mc, fa, fn, fc, ea, en, ec⟩ := h
  simp only [PH.v] at KR' ⊢
  obtain ⟨A1, hA1⟩ : ∃ A1, A1 = w.alloc (.cells #[.slice ra rn rc, .slice ma mn mc, .slice fa fn fc, .slice ea en ec] 40) := ⟨_, rfl⟩
  obtain ⟨W0, hW0⟩ : ∃ W0, W0 = A1.alloc (.cells o.cs 23) := ⟨_, rfl⟩
  have b1 : Below w.heap.size w A1 := by rw [hA1]; exact (Below.refl _ _).alloc (Nat.le_refl _) _
  have z1 : A1.heap.size = w.heap.size + 1 := by rw [hA1]; simp
  have z2 : W0.heap.size = w.heap.size + 2 := by rw [hW0]; simp; omega
  have b2 : Below w.heap.size w W0 := by rw [hW0]; exact b1.alloc (by omega) _
  have m0 : W0.heap[w.heap.size]? = some (.cells #[.slice ra rn rc, .slice ma mn mc, .slice fa fn fc, .slice ea en ec] 40 (0, 0)) := by rw [hW0, Below.heap_alloc _ _ _ (by omega), hA1]; exact heap_alloc_new w _
  have m1 : W0.heap[w.heap.size + 1]? = some (.cells o.cs 23 (0, 0)) := by rw [hW0, ← z1]; exact heap_alloc_new A1 _
  have KS := SO W0 o.c
  rw [hC, if_pos rfl] at KS
  have HB0 := hid b2
  have HZ := hid z2
  have GT : Hid (∀ V : World, Below W0.heap.size W0 V → V.heap[w.heap.size]? = some (.cells #[.slice ra rn rc, .slice ma mn mc, .slice fa fn fc, .slice ea en ec] 40 (0, 0)) ∧ V.heap[w.heap.size + 1]? = some (.cells o.cs 23 (0, 0)) ∧ Below w.heap.size w V) := hid (fun V hV => ⟨(hV.block _ (by omega)).trans m0, (hV.block _ (by omega)).trans m1, b2.trans (hV.mono b2.size)⟩)
  clear m0 m1 b1 b2 z1 z2 d
  have KF := hid (fun (V : World) => fields_in Fence.wide 5 trivial hro (shpAt o.c) o V)
  have SQ := hid (fun (V : World) (X : Nat) => fields_stops (shpAt o.c) o X 5 (by omega) V)
  have UF : Hid (∀ i, usF len (shpAt o.c) o i = if (fl (shpAt o.c) o i).1 = 3 ∨ ((fl (shpAt o.c) o i).1 = 4 ∧ (fl (shpAt o.c) o i).2 ≠ -1) then [(fl (shpAt o.c) o i).2] else if (fl (shpAt o.c) o i).1 = 5 then (List.range len).map (fun (j : Nat) => (fl (shpAt o.c) o i).2 + (j : Int)) else []) := hid (fun i => rfl)
  have ULE := hid (usF_len len hl (shpAt o.c) o)
  have INF : Hid (∀ i, -1000000 ≤ (fl (shpAt o.c) o i).2 ∧ (fl (shpAt o.c) o i).2 ≤ 1000000) := hid (fun i => so.fl _ i)
  have USL : Hid (usL len (shpAt o.c) o = (fourL.map (usF len (shpAt o.c) o)).flatten) := hid rfl
  obtain ⟨s, hs⟩ : ∃ s, s = shpAt o.c := ⟨_, rfl⟩
  rw [← hs] at KS KF SQ UF INF ULE USL KR' ⊢
  generalize usL len s o = LL at USL ⊢
  generalize usF len s o = ff at UF ULE USL
  clear hs hC so hlen D
  obtain ⟨oc, od, oaa, ob, ok⟩ := o
  obtain ⟨nm, sd, sa, sb, sk⟩ := s
  simp only [Opx.cs, Shp.cs] at hW0 KS KF SQ UF INF GT KR' ⊢
  have KS := hid KS
  have lenI : (len : Int) ≤ 1000 := by omega
  have AF := hid (fun (V : World) (hV : Below W0.heap.size W0 V) (q : Obj) => (by
    have bq := hV.trans (((Below.refl _ V).alloc (Nat.le_refl _) q).mono hV.size)
    have g := GT.out _ bq
    exact ⟨g.2.2, cellOf g.1 0, cellOf g.1 1, cellOf g.1 2, cellOf g.1 3, cellOf g.2.1 4⟩ : Below w.heap.size w (V.alloc q) ∧ (V.alloc q).cell? ⟨w.heap.size, 0, none⟩ = some (.slice ra rn rc) ∧ (V.alloc q).cell? ⟨w.heap.size, 1, none⟩ = some (.slice ma mn mc) ∧ (V.alloc q).cell? ⟨w.heap.size, 2, none⟩ = some (.slice fa fn fc) ∧ (V.alloc q).cell? ⟨w.heap.size, 3, none⟩ = some (.slice ea en ec) ∧ (V.alloc q).cell? ⟨w.heap.size + 1, 4, none⟩ = some (.int .i64 ok)))
  have AG := hid (fun (V V2 : World) (hV : Below W0.heap.size W0 V) (h2 : Below (V.alloc (.cells #[.string nm, .int .u8 sd, .int .u8 sa, .int .u8 sb, .int .u8 sk] 63)).heap.size (V.alloc (.cells #[.string nm, .int .u8 sd, .int .u8 sa, .int .u8 sb, .int .u8 sk] 63)) V2) (q q2 : Obj) => (by
    have bq := hV.trans (((Below.refl _ V).alloc (Nat.le_refl _) (.cells #[.string nm, .int .u8 sd, .int .u8 sa, .int .u8 sb, .int .u8 sk] 63)).mono hV.size)
    have b2 := bq.trans (h2.mono bq.size)
    have b3 := b2.alloc b2.size q
    have b4 := b3.alloc b3.size q2
    have g := (GT.out _ b4).2.1
    have hs1 : V2.heap[V.heap.size]? = some (.cells #[.string nm, .int .u8 sd, .int .u8 sa, .int .u8 sb, .int .u8 sk] 63 (0, 0)) := (h2.block _ (by rw [World.size_alloc]; omega)).trans (heap_alloc_new V _)
    have hs2 := (Below.heap_alloc V2 q _ (lt_of_heap hs1)).trans hs1
    have hs3 := (Below.heap_alloc (V2.alloc q) q2 _ (lt_of_heap hs2)).trans hs2
    exact ⟨b4, ⟨cellOf g 0, cellOf g 1, cellOf g 2, cellOf g 3, cellOf g 4⟩, cellOf hs3 0, cellOf hs3 1, cellOf hs3 2, cellOf hs3 3, cellOf hs3 4⟩ : Below W0.heap.size W0 ((V2.alloc q).alloc q2) ∧ (((V2.alloc q).alloc q2).cell? ⟨w.heap.size + 1, 0, none⟩ = some (.int .i64 oc) ∧ ((V2.alloc q).alloc q2).cell? ⟨w.heap.size + 1, 1, none⟩ = some (.int .i64 od) ∧ ((V2.alloc q).alloc q2).cell? ⟨w.heap.size + 1, 2, none⟩ = some (.int .i64 oaa) ∧ ((V2.alloc q).alloc q2).cell? ⟨w.heap.size + 1, 3, none⟩ = some (.int .i64 ob) ∧ ((V2.alloc q).alloc q2).cell? ⟨w.heap.size + 1, 4, none⟩ = some (.int .i64 ok)) ∧ ((V2.alloc q).alloc q2).cell? ⟨V.heap.size, 0, none⟩ = some (.string nm) ∧ ((V2.alloc q).alloc q2).cell? ⟨V.heap.size, 1, none⟩ = some (.int .u8 sd) ∧ ((V2.alloc q).alloc q2).cell? ⟨V.heap.size, 2, none⟩ = some (.int .u8 sa) ∧ ((V2.alloc q).alloc q2).cell? ⟨V.heap.size, 3, none⟩ = some (.int .u8 sb) ∧ ((V2.alloc q).alloc q2).cell? ⟨V.heap.size, 4, none⟩ = some (.int .u8 sk)))
  refine (callsIn_wide (n := 6)).1 ?_
  refine callsIn_of_wp_marks Tryz.func7 rfl trivial ?_ hro
  simp only [Tryz.ntmps7, List.size_toArray, List.length_cons, List.length_nil, Nat.reduceAdd, Nat.reduceSub, Array.replicate_succ, Array.replicate_zero, List.push_toArray, List.append_toArray, List.nil_append, List.cons_append]
  gi_wp2_with (refine ⟨trivial, ?_⟩; first
    | (gi_at_call 13; (rw [← hA1, ← hW0]; refine (callsIn_wide.2 (Hid.out KS)).mono ?_; rintro e w1 ⟨rfl, hb1⟩; have HB1 := hid hb1; have HA1 := hid (fun q => (AF.out w1 hb1 q).1); have y0 := fun q => (AF.out w1 hb1 q).2.1; have y1 := fun q => (AF.out w1 hb1 q).2.2.1; have y2 := fun q => (AF.out w1 hb1 q).2.2.2.1; have y3 := fun q => (AF.out w1 hb1 q).2.2.2.2.1; have y4 := fun q => (AF.out w1 hb1 q).2.2.2.2.2; clear hb1))
    | (gi_at_call 16; (refine (callsIn_wide.2 (KR'.out _ (HA1.out _))).mono ?_; rintro e w2 ⟨rfl, hb2⟩; have HG := hid (AG.out w1 w2 HB1.out hb2); have u0 := fun q q2 => (HG.out q q2).2.1.1; have u1 := fun q q2 => (HG.out q q2).2.1.2.1; have u2 := fun q q2 => (HG.out q q2).2.1.2.2.1; have u3 := fun q q2 => (HG.out q q2).2.1.2.2.2.1; have u4 := fun q q2 => (HG.out q q2).2.1.2.2.2.2; have v0 := fun q q2 => (HG.out q q2).2.2.1; have v1 := fun q q2 => (HG.out q q2).2.2.2.1; have v2 := fun q q2 => (HG.out q q2).2.2.2.2.1; have v3 := fun q q2 => (HG.out q q2).2.2.2.2.2.1; have v4 := fun q q2 => (HG.out q q2).2.2.2.2.2.2; clear hb2 y0 y1 y2 y3 y4))
    | (gi_at_call 17; (refine (KF.out _).mono ?_; rintro e w3 ⟨rfl, rfl⟩; clear u0 u1 u2 u3 u4 v0 v1 v2 v3 v4)))
  obtain ⟨U, hU⟩ : ∃ U, U = (w2.alloc (.cells #[.int .i64 (len : Int)] 3)).alloc (.cells #[.slice none 0 0] 41) := ⟨_, rfl⟩
  obtain ⟨V, hV⟩ : ∃ V, V = (U.alloc (.cells #[.string nm, .int .u8 sd, .int .u8 sa, .int .u8 sb, .int .u8 sk] 63)).alloc (.cells #[.int .i64 oc, .int .i64 od, .int .i64 oaa, .int .i64 ob, .int .i64 ok] 23) := ⟨_, rfl⟩
  rw [← hU, ← hV]
  have bL := (HG.out (.cells #[.int .i64 (len : Int)] 3) (.cells #[.slice none 0 0] 41)).1
  rw [← hU] at bL
  have zU : U.heap.size = w2.heap.size + 1 + 1 := by rw [hU]; simp
  have bV : Below W0.heap.size W0 V := by rw [hV]; exact (bL.alloc bL.size _).alloc (by rw [World.size_alloc]; have := bL.size; omega) _
  have bUV : Below U.heap.size U V := by rw [hV]; exact ((Below.refl _ _).alloc (Nat.le_refl _) _).alloc (by simp) _
  have mlen : V.heap[w2.heap.size]? = some (.cells #[.int .i64 (len : Int)] 3 (0, 0)) := by
    rw [bUV.block _ (by omega), hU, Below.heap_alloc _ _ _ (by simp)]; exact heap_alloc_new w2 _
  have mP : V.heap[w2.heap.size + 1]? = some (.cells #[.slice none 0 0] 41 (0, 0)) := by
    rw [bUV.block _ (by omega), hU]
    have := heap_alloc_new (w2.alloc (.cells #[.int .i64 (len : Int)] 3)) (.cells #[.slice none 0 0] 41)
    rw [World.size_alloc] at this; exact this
  have ms : V.heap[w2.heap.size + 1 + 1]? = some (.cells #[.string nm, .int .u8 sd, .int .u8 sa, .int .u8 sb, .int .u8 sk] 63 (0, 0)) := by
    rw [hV, Below.heap_alloc _ _ _ (by simp; omega), ← zU]; exact heap_alloc_new U _
  have mo : V.heap[w2.heap.size + 1 + 1 + 1]? = some (.cells #[.int .i64 oc, .int .i64 od, .int .i64 oaa, .int .i64 ob, .int .i64 ok] 23 (0, 0)) := by
    have := heap_alloc_new (U.alloc (.cells #[.string nm, .int .u8 sd, .int .u8 sa, .int .u8 sb, .int .u8 sk] 63)) (.cells #[.int .i64 oc, .int .i64 od, .int .i64 oaa, .int .i64 ob, .int .i64 ok] 23)
    rw [World.size_alloc, zU] at this; rw [hV]; exact this
  have zV : w2.heap.size + 1 + 1 + 1 < V.heap.size := lt_of_heap mo
  have bwV : Below w.heap.size w V := HB0.out.trans (bV.mono HB0.out.size)
  have hseq := SQ.out V (w2.heap.size + 1 + 1) ms mo
  have hw2 : w.heap.size < w2.heap.size + 1 := by have := bL.size; have := HZ.out; omega
  have hwV : w.heap.size ≤ V.heap.size := bwV.size
  have GV : Hid (∀ W : World, V.grownBy W (some (w2.heap.size + 1)) → W.heap[w2.heap.size]? = some (.cells #[.int .i64 (len : Int)] 3 (0, 0))) := hid (fun W g => (g.block _ (by omega) (fun e => by injection e with e; omega)).trans mlen)
  have K2V : Hid (∀ W W' : World, V.grownBy W (some (w2.heap.size + 1)) → V.grownBy W' (some (w2.heap.size + 1)) → K2 (w2.heap.size + 1 + 1) W W') := hid (fun W W' g g' => ⟨(g'.block _ (by omega) (fun e => by injection e with e; omega)).trans (g.block _ (by omega) (fun e => by injection e with e; omega)).symm, (g'.block _ zV (fun e => by injection e with e; omega)).trans (g.block _ zV (fun e => by injection e with e; omega)).symm⟩)
  have hPV : w2.heap.size + 1 < V.heap.size := by omega
  have BWV := hid bwV
  clear hA1 hW0 hV hU bL zU mlen ms mo bV bUV bwV KS KR' KF SQ GT AF AG HB1 HA1 HG HZ HB0
  refine range_go2 hro (by omega) (gf := 51) (lb := #[.pointer (some ⟨w2.heap.size + 1 + 1, 0, none⟩), .pointer (some ⟨w2.heap.size + 1 + 1 + 1, 0, none⟩)]) rfl trivial (enters_of Tryz.func51 (by kernel_rfl) rfl) (enc1 := fun x => .int .u8 (fl ⟨nm, sd, sa, sb, sk⟩ ⟨oc, od, oaa, ob, ok⟩ x).1) (enc2 := fun x => .int .i64 (fl ⟨nm, sd, sa, sb, sk⟩ ⟨oc, od, oaa, ob, ok⟩ x).2) hseq K2_r K2_t (K2_b (by omega)) (fun pre W => US V (w2.heap.size + 1) ((pre.map ff).flatten) W) (fun _ _ _ => False) (US_own _) (fun c s A A' row hs _ _ => hs) ⟨⟨none, 0, 0, mP, KR.nil _ _ _ _⟩, ⟨rfl, rfl, rfl, Nat.le_refl _, fun _ _ _ => rfl⟩⟩ ?round ?done ?stop
  case round =>
    intro ll x W K hK
    have HKK := hid hK
    clear hK
    have HF := hid (UF.out x)
    have HIx := INF.out x
    generalize fl ⟨nm, sd, sa, sb, sk⟩ ⟨oc, od, oaa, ob, ok⟩ x = fx at HF HIx ⊢
    obtain ⟨rx, nx⟩ := fx
    simp only [List.setIfInBounds_toArray, List.set_cons_zero, List.set_cons_succ] at HF HIx ⊢
    gi_wp2
    refine HKK.out _ ?_
    clear HKK K W ll hseq
    intro l' pre W' hll hrr hi hlt
    obtain ⟨⟨a, n, c, h1, h2⟩, h3⟩ := hi
    have hMF : ((pre ++ [x]).map ff).flatten = (pre.map ff).flatten ++ ff x := by simp
    have hle : ((pre.map ff).flatten).length ≤ 1000 * pre.length := flatM ULE.out pre
    have hle2 : ((pre.map ff).flatten).length ≤ 10000 := by omega
    have hsz := h3.size
    have cL := cellOf (GV.out W' h3) 0
    have c0 := cellOf h1 0
    simp only [List.getElem?_toArray, List.getElem?_cons_zero] at c0 cL
    by_cases hA : rx = 3 ∨ (rx = 4 ∧ nx ≠ -1)
    · have FIN : Hid (∀ (w8 : World) (a8 : Option Addr) (n8 c8 : Nat), KR 3 1 w8 V.heap.size (.slice a8 n8 c8) (((pre.map ff).flatten ++ [nx]).map inc) → (W'.alloc (.cells #[.int .i64 nx] 3)).grownBy w8 (Value.slice a n c).ownBlock → (w8.cell? ⟨w2.heap.size + 1, 0, none⟩ = some (.slice a n c) ∧ w8.frozen? ⟨w2.heap.size + 1, 0, none⟩ = false) ∧ KeepsFrom V.heap.size W' (w8.setCell ⟨w2.heap.size + 1, 0, none⟩ (.slice a8 n8 c8)) ∧ K2 (w2.heap.size + 1 + 1) W' (w8.setCell ⟨w2.heap.size + 1, 0, none⟩ (.slice a8 n8 c8)) ∧ US V (w2.heap.size + 1) (((pre ++ [x]).map ff).flatten) (w8.setCell ⟨w2.heap.size + 1, 0, none⟩ (.slice a8 n8 c8))) := hid (fun w8 a8 n8 c8 h4 h5 => by
        obtain ⟨q1, q2, q3, q4⟩ := US.step hPV h1 h2 h3 h4 h5
        refine ⟨⟨q1, q2⟩, q4, K2V.out _ _ h3 q3.2, ?_⟩
        rw [hMF, HF.out, if_pos hA]
        exact q3)
      have HKR := hid h2
      clear h1 h2 h3 hrr hMF hle cL
      rcases hA with hA | ⟨hA, hA2⟩
      · have z3 : (rx == 3) = true := by simp [hA]
        clear hA
        gi_wp2_with (gi_at_builtin; refine wpListIn_appI W' rfl _ _ rfl (.slice a n c) nx (by rfl) (by rfl) V.heap.size ((pre.map ff).flatten) HKR.out (by omega) hsz ?_; intro v8 w8 hk8 hg8; obtain ⟨a8, n8, c8, rfl⟩ := hk8.form'; obtain ⟨⟨p0, p1⟩, p2⟩ := FIN.out w8 a8 n8 c8 hk8 hg8; have P2 := hid p2; clear hk8 hg8 p2)
        exact P2.out
      · have z3 : (rx == 3) = false := by simp [hA]
        have z4 : (rx == 4) = true := by simp [hA]
        have zm : (nx != -1) = true := by simp [hA2]
        clear hA hA2
        gi_wp2_with (gi_at_builtin; refine wpListIn_appI W' rfl _ _ rfl (.slice a n c) nx (by rfl) (by rfl) V.heap.size ((pre.map ff).flatten) HKR.out (by omega) hsz ?_; intro v8 w8 hk8 hg8; obtain ⟨a8, n8, c8, rfl⟩ := hk8.form'; obtain ⟨⟨p0, p1⟩, p2⟩ := FIN.out w8 a8 n8 c8 hk8 hg8; have P2 := hid p2; clear hk8 hg8 p2)
        exact P2.out
    · by_cases hB : rx = 5
      · subst hB
        have H1 := hid h1
        have H2 := hid h2
        have H3 := hid h3
        have HR : Hid (((pre ++ [x]).map ff).flatten = (pre.map ff).flatten ++ (List.range len).map (fun (j : Nat) => nx + (j : Int))) := hid (by rw [hMF, HF.out, if_neg hA, if_pos rfl])
        clear h1 h2 h3 hrr hMF hle c0 hA
        gi_wp2
        gi_loopg [56] len (fun g y wr => ∃ i : Nat, i + g = len ∧ y = .int .i64 (i : Int) ∧ US V (w2.heap.size + 1) ((pre.map ff).flatten ++ (List.range i).map (fun (j : Nat) => nx + (j : Int))) wr ∧ KeepsFrom V.heap.size W' wr)
        case atStart => exact ⟨0, by omega, rfl, by simpa using ⟨⟨a, n, c, H1.out, H2.out⟩, H3.out⟩, KeepsFrom.refl _ _⟩
        case round =>
          obtain ⟨i, hi, rfl, hu, hkf⟩ := hrel
          cases gk with
          | zero =>
            have hin : i = len := by omega
            subst hin
            have E1 : Hid (KeepsFrom V.heap.size W' wr ∧ K2 (w2.heap.size + 1 + 1) W' wr ∧ US V (w2.heap.size + 1) (((pre ++ [x]).map ff).flatten) wr) := hid ⟨hkf, K2V.out _ _ H3.out hu.2, by rw [HR.out]; exact hu⟩
            clear hu hkf
            gi_wp2
            exact E1.out
          | succ g =>
            obtain ⟨⟨a', n', c', h1, h2⟩, h3⟩ := hu
            have c0 := cellOf h1 0
            simp only [List.getElem?_toArray, List.getElem?_cons_zero] at c0
            have hiI : (i : Int) < (len : Int) := by omega
            have hi0 : (0 : Int) ≤ (i : Int) := by omega
            have hle3 : ((pre.map ff).flatten ++ (List.range i).map (fun (j : Nat) => nx + (j : Int))).length ≤ 100000 := by simp only [List.length_append, List.length_map, List.length_range]; omega
            have hsz3 := h3.size
            have FIN : Hid (∀ (w8 : World) (a8 : Option Addr) (n8 c8 : Nat), KR 3 1 w8 V.heap.size (.slice a8 n8 c8) ((((pre.map ff).flatten ++ (List.range i).map (fun (j : Nat) => nx + (j : Int))) ++ [nx + (i : Int)]).map inc) → (wr.alloc (.cells #[.int .i64 (nx + (i : Int))] 3)).grownBy w8 (Value.slice a' n' c').ownBlock → (w8.cell? ⟨w2.heap.size + 1, 0, none⟩ = some (.slice a' n' c') ∧ w8.frozen? ⟨w2.heap.size + 1, 0, none⟩ = false) ∧ US V (w2.heap.size + 1) ((pre.map ff).flatten ++ (List.range (i + 1)).map (fun (j : Nat) => nx + (j : Int))) (w8.setCell ⟨w2.heap.size + 1, 0, none⟩ (.slice a8 n8 c8)) ∧ KeepsFrom V.heap.size W' (w8.setCell ⟨w2.heap.size + 1, 0, none⟩ (.slice a8 n8 c8))) := hid (fun w8 a8 n8 c8 h4 h5 => by
              obtain ⟨q1, q2, q3, q4⟩ := US.step hPV h1 h2 h3 h4 h5
              refine ⟨⟨q1, q2⟩, ?_, hkf.trans q4⟩
              rw [List.range_succ, List.map_append, ← List.append_assoc]
              exact q3)
            have HKR := hid h2
            clear h1 h2 h3 hkf
            have wr1 : IntKind.i64.wrap (nx + (i : Int)) = nx + (i : Int) := by rw [IntKind.wrap_i64]; omega
            gi_wp2_with (gi_at_builtin; refine wpListIn_appI wr rfl _ _ rfl (.slice a' n' c') (nx + (i : Int)) (by rfl) (by rfl) V.heap.size ((pre.map ff).flatten ++ (List.range i).map (fun (j : Nat) => nx + (j : Int))) HKR.out hle3 hsz3 ?_; intro v8 w8 hk8 hg8; obtain ⟨a8, n8, c8, rfl⟩ := hk8.form'; obtain ⟨⟨p0, p1⟩, p2⟩ := FIN.out w8 a8 n8 c8 hk8 hg8; have P2 := hid p2; clear hk8 hg8 p2)
            gi_roundg g
            case measure => omega
            exact ⟨i + 1, by omega, by go_num, P2.out.1, P2.out.2⟩
      · have H1 : Hid (US V (w2.heap.size + 1) (((pre ++ [x]).map ff).flatten) W') := hid (by rw [hMF, HF.out, if_neg hA, if_neg hB, List.append_nil]; exact ⟨⟨a, n, c, h1, h2⟩, h3⟩)
        have z3 : (rx == 3) = false := by simp; omega
        have z5 : (rx == 5) = false := by simp; omega
        clear h1 h2 h3 hrr hMF hle cL c0
        by_cases h4 : rx = 4
        · have z4 : (rx == 4) = true := by simp [h4]
          have zn : nx = -1 := by omega
          have zm : (nx != -1) = false := by simp [zn]
          clear hA hB h4 zn
          gi_wp2
          exact ⟨KeepsFrom.refl _ _, K2_r _, H1.out⟩
        · have z4 : (rx == 4) = false := by simp [h4]
          clear hA hB h4
          gi_wp2
          exact ⟨KeepsFrom.refl _ _, K2_r _, H1.out⟩
  case done =>
    rintro D' ys W hD rfl hI hK
    obtain ⟨⟨a, n, c, h1, h2⟩, h3⟩ := hI
    have c0 := cellOf h1 0
    simp only [List.getElem?_toArray, List.getElem?_cons_zero] at c0
    have HK := hid hK
    have H2 := hid h2
    have H3 := hid h3
    clear hseq hK h1 h2 h3
    gi_wp2
    refine ⟨by simp, .inl ⟨_, _, rfl, run_takeDeferred HK.out, ?_⟩⟩
    refine ⟨_, by simp [results, Tryz.results7, go_sem]; rfl, ?_⟩
    have hr : ∀ r, some D' = some r → V.heap.size ≤ r ∧ ∃ o : Obj, W.heap[r]? = some o ∧ o.isCells = false := fun r e => by cases e; exact ⟨hD, _, HK.out, rfl⟩
    have gp := grownBy_putObj' W D' (.deferred none)
    refine ⟨_, rfl, ?_, ?_⟩
    · rw [USL.out]
      refine (H2.out.keep fun g e => ?_).lower hwV
      obtain ⟨cur, hc⟩ := H2.out.cells e
      exact (keep_cells hc gp hr).trans hc.symm
    · have bW : Below w.heap.size w W := BWV.out.grown H3.out hwV (fun k e => by injection e with e; omega)
      exact bW.grown gp (by have := H3.out.size; omega) (fun k e => by have := (hr k e).1; omega)
  case stop =>
    rintro D' cc pre W hD _ hf
    exact hf.elim
end Go.Proofs.YthnolocldeokeaaGreatDoor

namespace Go.Proofs.YthnolocldeokeaaGreatDoor
open Go.RowKit Go.Deep Go.Shelf
set_option linter.unusedVariables false
set_option linter.unusedSimpArgs false
structure CEq (c1 c2 : Cx) : Prop where
  p : PEq c1.p c2.p
  t : c1.texts = c2.texts
  f : c1.funcs = c2.funcs
  e : c1.events = c2.events
set_option maxRecDepth 100000 in
set_option maxHeartbeats 8000000 in
theorem same_yes (w : World) (C D : CH) (c1 c2 : Cx) (fs es fs2 es2 : List (FH × Fx)) (xs : List Int) (d1 : CdRd w C c1 fs es) (d2 : CdRd w D c2 fs2 es2) (he : CEq c1 c2) (j1 : JRd w C.ia xs) (j2 : JRd w D.ia xs) (n1 : C.inn = xs.length) (n2 : D.inn = xs.length) :
    Calls Tryz.prog 11 #[C.v, D.v] w fun e w' => e = .returned (.bool true) ∧ Below w.heap.size w w' := by
  have ei : C.inn = D.inn := n1.trans n2.symm
  have et : C.tn = D.tn := by rw [d1.t1, d2.t1, he.t]
  have hff : fs.map (·.2) = fs2.map (·.2) := by rw [d1.fe, d2.fe, he.f]
  have hee : es.map (·.2) = es2.map (·.2) := by rw [d1.ee, d2.ee, he.e]
  have ef : C.fn = D.fn := by rw [d1.f.n1, d2.f.n1]; have := congrArg List.length hff; rw [List.length_map, List.length_map] at this; exact this
  have ee : C.en = D.en := by rw [d1.e.n1, d2.e.n1]; have := congrArg List.length hee; rw [List.length_map, List.length_map] at this; exact this
  obtain ⟨A1, hA1⟩ : ∃ A1, A1 = w.alloc (.cells C.cs 51) := ⟨_, rfl⟩
  obtain ⟨W0, hW0⟩ : ∃ W0, W0 = A1.alloc (.cells D.cs 51) := ⟨_, rfl⟩
  have b1 : Below w.heap.size w A1 := by rw [hA1]; exact (Below.refl _ _).alloc (Nat.le_refl _) _
  have z1 : A1.heap.size = w.heap.size + 1 := by rw [hA1]; simp
  have bw : Below w.heap.size w W0 := by rw [hW0]; exact b1.alloc (by omega) _
  have q0 : W0.heap[w.heap.size]? = some (.cells C.cs 51 (0, 0)) := by rw [hW0, Below.heap_alloc _ _ _ (by omega), hA1]; exact heap_alloc_new w _
  have q1 : W0.heap[w.heap.size + 1]? = some (.cells D.cs 51 (0, 0)) := by rw [hW0, ← z1]; exact heap_alloc_new A1 _
  have GT : Hid (∀ V : World, Below W0.heap.size W0 V → V.heap[w.heap.size]? = some (.cells C.cs 51 (0, 0)) ∧ V.heap[w.heap.size + 1]? = some (.cells D.cs 51 (0, 0)) ∧ Below w.heap.size w V) := hid (fun V hV => ⟨(hV.block _ (lt_of_heap q0)).trans q0, (hV.block _ (lt_of_heap q1)).trans q1, bw.trans (hV.mono bw.size)⟩)
  have KP := hid (sameProgram_yes W0 C.h D.h c1.p c2.p (d1.p.below (Nat.le_refl _) bw) (d2.p.below (Nat.le_refl _) bw) he.p)
  have KF := hid (fun (V : World) (hV : Below w.heap.size w V) => sameFns_yes V C.fa D.fa C.fn C.fc D.fc fs fs2 (d1.f.below (Nat.le_refl _) hV) (ef ▸ d2.f.below (Nat.le_refl _) hV) hff)
  have KE := hid (fun (V : World) (hV : Below w.heap.size w V) => sameFns_yes V C.ea D.ea C.en C.ec D.ec es es2 (d1.e.below (Nat.le_refl _) hV) (ee ▸ d2.e.below (Nat.le_refl _) hV) hee)
  have J1 := hid j1
  have J2 := hid j2
  have T1 := hid d1.tr
  have T2 : Hid (SRd w D.ta c1.texts) := hid (by rw [he.t]; exact d2.tr)
  have HT := hid d1.t1
  have HI := hid n1
  have li := d1.i2
  have lt := d1.t2
  have lf := d1.f.n2
  have le := d1.e.n2
  clear d1 d2 he j1 j2 n1 n2 hff hee q0 q1 b1 bw z1
  obtain ⟨⟨ra, rn, rc, ma, mn, mc, fa, fn, fc, ea, en, ec⟩, ia, inn, ic, ta, tn, tc, ga, gn, gc, ha, hn, hc⟩ := C
  obtain ⟨⟨ra2, rn2, rc2, ma2, mn2, mc2, fa2, fn2, fc2, ea2, en2, ec2⟩, ia2, inn2, ic2, ta2, tn2, tc2, ga2, gn2, gc2, ha2, hn2, hc2⟩ := D
  simp only [CH.v, CH.cs, PH.v] at hA1 hW0 GT KP KF KE J1 J2 T1 T2 HT HI li lt lf le ei et ef ee ⊢
  subst ei et ef ee
  have CL : Hid (∀ V : World, Below W0.heap.size W0 V → ((V.cell? ⟨w.heap.size, 0, none⟩ = some (.slice ra rn rc) ∧ V.cell? ⟨w.heap.size, 1, none⟩ = some (.slice ma mn mc) ∧ V.cell? ⟨w.heap.size, 2, none⟩ = some (.slice fa fn fc) ∧ V.cell? ⟨w.heap.size, 3, none⟩ = some (.slice ea en ec)) ∧ V.cell? ⟨w.heap.size, 4, none⟩ = some (.slice ia inn ic) ∧ V.cell? ⟨w.heap.size, 5, none⟩ = some (.slice ta tn tc) ∧ V.cell? ⟨w.heap.size, 6, none⟩ = some (.slice ga gn gc) ∧ V.cell? ⟨w.heap.size, 7, none⟩ = some (.slice ha hn hc)) ∧ ((V.cell? ⟨w.heap.size + 1, 0, none⟩ = some (.slice ra2 rn2 rc2) ∧ V.cell? ⟨w.heap.size + 1, 1, none⟩ = some (.slice ma2 mn2 mc2) ∧ V.cell? ⟨w.heap.size + 1, 2, none⟩ = some (.slice fa2 fn2 fc2) ∧ V.cell? ⟨w.heap.size + 1, 3, none⟩ = some (.slice ea2 en2 ec2)) ∧ V.cell? ⟨w.heap.size + 1, 4, none⟩ = some (.slice ia2 inn ic2) ∧ V.cell? ⟨w.heap.size + 1, 5, none⟩ = some (.slice ta2 tn tc2) ∧ V.cell? ⟨w.heap.size + 1, 6, none⟩ = some (.slice ga2 gn gc2) ∧ V.cell? ⟨w.heap.size + 1, 7, none⟩ = some (.slice ha2 hn hc2)) ∧ Below w.heap.size w V) := hid (fun V hV => by
    obtain ⟨g, g', gb⟩ := GT.out V hV
    exact ⟨⟨⟨cellOf g 0, cellOf g 1, cellOf g 2, cellOf g 3⟩, cellOf g 4, cellOf g 5, cellOf g 6, cellOf g 7⟩, ⟨⟨cellOf g' 0, cellOf g' 1, cellOf g' 2, cellOf g' 3⟩, cellOf g' 4, cellOf g' 5, cellOf g' 6, cellOf g' 7⟩, gb⟩)
  have inI : (inn : Int) ≤ 9223372036854775807 := by omega
  have tnI : (tn : Int) ≤ 9223372036854775807 := by omega
  have gnI : (gn : Int) ≤ 9223372036854775807 := by omega
  have hnI : (hn : Int) ≤ 9223372036854775807 := by omega
  have nb1 : ((inn : Int) != (inn : Int)) = false := by simp
  have nb2 : ((tn : Int) != (tn : Int)) = false := by simp
  have TR : Hid (∀ {x y : World}, Below W0.heap.size W0 x → Below x.heap.size x y → Below W0.heap.size W0 y) := hid (fun h1 h2 => h1.trans (h2.mono h1.size))
  obtain ⟨⟨⟨c0, c1', c2', c3⟩, c4, c5, c6, c7⟩, ⟨⟨d0, d1, d2, d3⟩, d4, d5, d6, d7⟩, _⟩ := CL.out W0 (Below.refl _ _)
  clear GT
  go_enter Tryz.func11, Tryz.ntmps11
  go_upto_region 1 with fail
  rw [← hA1, ← hW0]
  clear hA1 hW0
  go_upto_region 3 with (first
    | (go_at_call 43; (refine (Hid.out KP).mono ?_; rintro e w1 ⟨rfl, hb1⟩; clear c0 c1' c2' c3 c4 c5 c6 c7 d0 d1 d2 d3 d4 d5 d6 d7; obtain ⟨⟨⟨c0, c1', c2', c3⟩, c4, c5, c6, c7⟩, ⟨⟨d0, d1, d2, d3⟩, d4, d5, d6, d7⟩, g1⟩ := CL.out w1 hb1))
    | (have hno := hfirst; (go_at_call 44; (refine (KE.out w2 g2).mono ?_; rintro e w3 ⟨rfl, hb3⟩; have HB3 := hid (TR.out hb2' hb3); clear c0 c1' c2' c3 c4 c5 c6 c7 d0 d1 d2 d3 d4 d5 d6 d7; obtain ⟨⟨⟨c0, c1', c2', c3⟩, c4, c5, c6, c7⟩, ⟨⟨d0, d1, d2, d3⟩, d4, d5, d6, d7⟩, g3⟩ := CL.out w3 HB3.out)))
    | (go_at_call 44; (refine (KF.out w1 g1).mono ?_; rintro e w2 ⟨rfl, hb2⟩; have hb2' := TR.out hb1 hb2; clear c0 c1' c2' c3 c4 c5 c6 c7 d0 d1 d2 d3 d4 d5 d6 d7; obtain ⟨⟨⟨c0, c1', c2', c3⟩, c4, c5, c6, c7⟩, ⟨⟨d0, d1, d2, d3⟩, d4, d5, d6, d7⟩, g2⟩ := CL.out w2 hb2'; have hfirst : True := trivial)))
  clear hb1 hb2 hb3 hb2' hfirst g1 g2 g3 KP KF KE
  go_wp2
  go_loopg [5] inn (fun g x wr => ∃ j : Nat, j + g = inn ∧ x = .int .i64 (j : Int) ∧ Below W0.heap.size W0 wr)
  case atStart => exact ⟨0, by omega, rfl, HB3.out⟩
  case round =>
    obtain ⟨j, hj, rfl, hb⟩ := hrel
    clear c0 c1' c2' c3 c4 c5 c6 c7 d0 d1 d2 d3 d4 d5 d6 d7
    obtain ⟨⟨⟨c0, c1', c2', c3⟩, c4, c5, c6, c7⟩, ⟨⟨d0, d1, d2, d3⟩, d4, d5, d6, d7⟩, gb⟩ := CL.out wr hb
    cases gk with
    | zero =>
      have hjn : j = inn := by omega
      subst hjn
      have HB := hid hb
      clear hb gb
      go_wp2
      go_loopg [6] tn (fun g2 x wr2 => ∃ i : Nat, i + g2 = tn ∧ x = .int .i64 (i : Int) ∧ Below W0.heap.size W0 wr2)
      case atStart => exact ⟨0, by omega, rfl, HB.out⟩
      case round =>
        obtain ⟨i, hi, rfl, hb⟩ := hrel
        clear c0 c1' c2' c3 c4 c5 c6 c7 d0 d1 d2 d3 d4 d5 d6 d7
        obtain ⟨⟨⟨c0, c1', c2', c3⟩, c4, c5, c6, c7⟩, ⟨⟨d0, d1, d2, d3⟩, d4, d5, d6, d7⟩, gb⟩ := CL.out wr hb
        cases gk with
        | zero =>
          have hin : i = tn := by omega
          subst hin
          have GB := hid gb
          clear gb hb
          go_wp2
          go_ret
          exact ⟨rfl, GB.out⟩
        | succ g2 =>
          obtain ⟨s, hs⟩ : ∃ s, c1.texts[i]? = some s := ⟨c1.texts[i]'(by have := HT.out; omega), List.getElem?_eq_getElem _⟩
          obtain ⟨_, p1, u1, rfl, z1⟩ := (T1.out.below (Nat.le_refl _) gb) i s hs
          obtain ⟨_, p2, u2, rfl, z2⟩ := (T2.out.below (Nat.le_refl _) gb) i s hs
          have hiI : (i : Int) < (tn : Int) := by omega
          have hi0 : (0 : Int) ≤ (i : Int) := by omega
          have H3 := hid hb
          clear hb hs gb
          go_wp2
          go_quiet (fail)
          go_wp2
          go_roundg g2
          case measure => omega
          exact ⟨i + 1, by omega, by go_num, bel_dN H3.out _⟩
    | succ g =>
      obtain ⟨x, hx⟩ : ∃ x, xs[j]? = some x := ⟨xs[j]'(by have := HI.out; omega), List.getElem?_eq_getElem _⟩
      obtain ⟨p1, u1, rfl, _, z1⟩ := (CRd.below J1.out (Nat.le_refl _) gb) j (inc x) (by rw [List.getElem?_map, hx]; rfl)
      obtain ⟨p2, u2, rfl, _, z2⟩ := (CRd.below J2.out (Nat.le_refl _) gb) j (inc x) (by rw [List.getElem?_map, hx]; rfl)
      have y1 := z1 0 (by omega)
      have y2 := z2 0 (by omega)
      simp only [inc, List.getElem?_cons_zero, Nat.add_zero, Nat.mul_one] at y1 y2
      have hjI : (j : Int) < (inn : Int) := by omega
      have hj0 : (0 : Int) ≤ (j : Int) := by omega
      have H3 := hid hb
      clear hb hx gb z1 z2
      go_wp2
      go_quiet (fail)
      go_wp2
      go_roundg g
      case measure => omega
      exact ⟨j + 1, by omega, by go_num, bel_dN H3.out _⟩
end Go.Proofs.YthnolocldeokeaaGreatDoor

namespace Go.Proofs.YthnolocldeokeaaGreatDoor
open Go.RowKit Go.Deep Go.Shelf
set_option linter.unusedVariables false
set_option linter.unusedSimpArgs false
set_option maxRecDepth 100000
def IRd3 (w : World) (a : Option Addr) (l : List Int) : Prop := ∀ (j : Nat) (x : Int), l[j]? = some x → ∃ b off, a = some ⟨b, off, none⟩ ∧ w.cell? ⟨b, off + j, none⟩ = some (.int .i64 x)
theorem KR.ird {w : World} {B : Nat} {v : Value} {xs : List Int} (h : KR 3 1 w B v (xs.map inc)) : ∃ a c, v = .slice a xs.length c ∧ IRd3 w a xs := by
  obtain ⟨a, cap, e, _, hr, _, _⟩ := h.rd
  rw [List.length_map] at e
  refine ⟨a, cap, e, fun j x hx => ?_⟩
  obtain ⟨b, off, e2, _, hc⟩ := hr j (inc x) (by rw [List.getElem?_map, hx]; rfl)
  exact ⟨b, off, e2, by have := hc 0 (by omega); simpa [inc] using this⟩
theorem IRd3.below {w w' : World} {a : Option Addr} {l : List Int} (h : IRd3 w a l) (hb : Below w.heap.size w w') : IRd3 w' a l := fun j x hx => by
  obtain ⟨b, off, e, hc⟩ := h j x hx
  exact ⟨b, off, e, bel_cell hb hc⟩
set_option maxHeartbeats 2000000 in
theorem ints_yes (w : World) (a1 a2 : Option Addr) (n c1 c2 : Nat) (l : List Int) (hn : n = l.length) (hnb : n ≤ 1000000) (h1 : IRd3 w a1 l) (h2 : IRd3 w a2 l) : Calls Tryz.prog 10 #[.slice a1 n c1, .slice a2 n c2] w fun e w' => e = .returned (.bool true) ∧ Below w.heap.size w w' := by
  have hnI : (n : Int) ≤ 1000000 := by omega
  have HN := hid hn
  have H1 := hid h1
  have H2 := hid h2
  clear hn h1 h2
  go_enter Tryz.func10, Tryz.ntmps10
  go_wp2
  go_loopg [5] n (fun g x wr => ∃ j : Nat, j + g = n ∧ x = .int .i64 (j : Int) ∧ Below w.heap.size w wr)
  case atStart => exact ⟨0, by omega, rfl, Below.refl _ _⟩
  case round =>
    obtain ⟨j, hj, rfl, hb⟩ := hrel
    cases gk with
    | zero =>
      have hjn : j = n := by omega
      subst hjn
      have HB := hid hb
      clear hb
      go_wp2
      go_ret
      exact ⟨rfl, HB.out⟩
    | succ g =>
      obtain ⟨x, hx⟩ : ∃ x, l[j]? = some x := ⟨l[j]'(by have := HN.out; omega), List.getElem?_eq_getElem _⟩
      obtain ⟨b1, o1, rfl, q1⟩ := H1.out j x hx
      obtain ⟨b2, o2, rfl, q2⟩ := H2.out j x hx
      have r1 := bel_cell hb q1
      have r2 := bel_cell hb q2
      have hjI : (j : Int) < (n : Int) := by omega
      have hj0 : (0 : Int) ≤ (j : Int) := by omega
      have HB := hid hb
      clear q1 q2 hx hb
      go_wp2
      go_region_held3 (fun v => v.cell? ⟨b1, o1 + j, none⟩ = some (.int .i64 x) ∧ v.cell? ⟨b2, o2 + j, none⟩ = some (.int .i64 x)) (first | go_keep) (fail)
      go_wp2
      go_roundg g
      case measure => omega
      exact ⟨j + 1, by omega, by go_num, HB.out.drew⟩
/- What a code holds tells whether it may be. -/
theorem isB_of {c d : Cx} (hp : PEq c.p d.p) (hi : c.ints = d.ints) (ht : c.texts = d.texts) (hf : c.funcs = d.funcs) (he : c.events = d.events) : isB c = isB d := by
  obtain ⟨⟨r1, m1, f1, e1⟩, i1, t1, F1, E1⟩ := c
  obtain ⟨⟨r2, m2, f2, e2⟩, i2, t2, F2, E2⟩ := d
  obtain ⟨pr, pm, pf, pe⟩ := hp
  simp only at hi ht hf he pr pm pf pe
  subst hi ht hf he pm
  have lr : r1.length = r2.length := by have := congrArg List.length pr; simpa using this
  have lf : f1.length = f2.length := by have := congrArg List.length pf; simpa using this
  have le : e1.length = e2.length := by have := congrArg List.length pe; simpa using this
  have hrow : ∀ r k, rowLen r ⟨r1, m1, f1, e1⟩ k = rowLen r ⟨r2, m1, f2, e2⟩ k := fun r k => by unfold rowLen; simp only [pr, pf, pe, lr]
  have hop : ∀ regs nops o, isOpB ⟨⟨r1, m1, f1, e1⟩, i1, t1, F1, E1⟩ regs nops o = isOpB ⟨⟨r2, m1, f2, e2⟩, i1, t1, F1, E1⟩ regs nops o := fun regs nops o => by
    unfold isOpB bnd
    simp only [hrow, lr, lf, le]
  have hfn : ∀ ps f, isFnB ⟨⟨r1, m1, f1, e1⟩, i1, t1, F1, E1⟩ ps f = isFnB ⟨⟨r2, m1, f2, e2⟩, i1, t1, F1, E1⟩ ps f := fun ps f => by
    unfold isFnB
    have : isOpB ⟨⟨r1, m1, f1, e1⟩, i1, t1, F1, E1⟩ f.regs f.ops.length = isOpB ⟨⟨r2, m1, f2, e2⟩, i1, t1, F1, E1⟩ f.regs f.ops.length := funext fun o => hop _ _ o
    rw [this]
  unfold isB isFnsB constB rightB Pg.rn
  simp only [hfn, pr, pf, pe, lr, lf, le]
end Go.Proofs.YthnolocldeokeaaGreatDoor

namespace Go.Proofs.YthnolocldeokeaaGreatDoor
open Go.RowKit Go.Deep Go.Shelf
set_option linter.unusedVariables false
set_option linter.unusedSimpArgs false
section
variable {P : Program} {ops : Array Oper} {Q : Exit → Act → World → Prop} {md : Region.Mode} {l n : Nat}
theorem rowsIn_round {row : String} {args : Array Value} {w : World} {R : Value → World → Prop} (h : Go.Rows P row args w R) : RowsIn (Fence.wide.inRound l) n P row args w R := fun c cs _ => by
  obtain ⟨v, w', r, s⟩ := h c cs
  exact ⟨v, w', r, stepsIn_wide.2 s⟩
theorem oper_round {o : Oper} (hd : ∀ c, o.op ≠ .defer c) {a : Act} {w : World} {K : Act → World → Prop} (h : o.wp P a w K Q) : o.wpIn (Fence.wide.inRound l) n P a w K Q := by
  refine ⟨fun f _ => trivial, ?_⟩
  rw [show (Fence.wide.inRound l).round = some l from rfl, Oper.semAt_some l a.eval o hd]
  unfold Oper.wp at h
  generalize (execOp a.eval o).run P w = r at *
  cases r with
  | ok x w' =>
    cases x <;> simp only [Oper.upon, Oper.uponIn] at h ⊢
    case value => exact h
    case skip => exact h
    case defer => exact h
    case enter f args => exact ⟨fun e => by simp [Fence.wide] at e, callsIn_wide.2 h⟩
    case row row args => exact ⟨fun e => by simp [Fence.wide] at e, rowsIn_round h⟩
  | halt x w' => cases x <;> simp only [Oper.upon, Oper.uponIn] at h ⊢; exact h
theorem any_round (hd : ∀ (i : Nat) (o : Oper), ops[i]? = some o → ∀ c, o.op ≠ .defer c) (hL : ¬ LetsOut Q) : ∀ (fuel : Nat) (listed : Array Bool) (a : Act) (w : World), wpAny P md ops Q fuel listed a w → wpAnyIn (Fence.wide.inRound l) n P md ops Q fuel listed a w
  | 0, listed, a, w, h => h
  | fuel + 1, listed, a, w, h => ⟨h.1, fun i hi => by
    have h1 := wpOp_mono (any_round hd hL fuel (listed.setIfInBounds i true)) (h.2 i hi)
    unfold wpOp at h1
    unfold wpOpIn
    cases ho : ops[i]? with
    | none => simp only [ho] at h1 ⊢; exact h1
    | some o =>
      simp only [ho] at h1 ⊢
      split
      · rename_i hw
        rw [if_pos hw] at h1
        rcases h1 with h1 | h1
        · exact oper_round (hd i o ho) h1
        · exact absurd h1.2 hL
      · rename_i hw
        rw [if_neg hw] at h1
        exact ⟨fun f _ => trivial, h1⟩⟩
theorem wpIn_region_roundI {id : Nat} {a : Act} {w : World} (L : Nat) (S : World → Prop) (hm : P.follows .mixedOrders = true) (hd : ∀ (i : Nat) (o : Oper), ops[i]? = some o → ∀ c, o.op ≠ .defer c) (hL : ¬ LetsOut Q) (hS : S w.drew)
    (h : S w.drew → wpAnyI P .any ops Q L S ops.size (Array.replicate ops.size false) a w.drew) : (Code.region id ops true).wpIn (Fence.wide.inRound l) n P Q a w :=
  wpIn_region_any hm (any_round hd hL _ _ _ _ (wpAny_of_I _ _ _ _ (h hS)))
end
theorem nodefer {ops : Array Oper} (h : (ops.all fun o => match o.op with | .defer _ => false | _ => true) = true) : ∀ (i : Nat) (o : Oper), ops[i]? = some o → ∀ c, o.op ≠ .defer c := fun i o hi c e => by
  obtain ⟨h1, h2⟩ := Array.getElem?_eq_some_iff.1 hi
  have h3 := (Array.all_eq_true.1 h) i h1
  rw [h2, e] at h3
  cases h3
theorem range_box1 {α : Type} {F : Fence} {n : Nat} {P : Program} {g : Operand} {p1 p2 : Tmp} {assign body : Code} {Q : Exit → Act → World → Prop} {a : Act} {w : World}
    (hro : F.round = none) (h1 : 1 ≤ n) {gf : Nat} {lb : Array Value} (hg : a.eval g = .func (.func gf) #[] lb) (hFg : F.fn gf) (eg : ∀ args w, (callFunc gf args).run P w = .ok (.enter gf args) w)
    {enc1 enc2 : α → Value} {Kp : World → World → Prop} {S Sp : List α → Prop} {N : Nat} (hseq : SeqStopsK F (n - 1) P gf lb (fun x => #[enc1 x, enc2 x]) Kp S Sp N w)
    (hKt : ∀ {A B C : World}, Kp A B → Kp B C → Kp A C) (hKb : ∀ (W : World) (l : Nat) (o o' : Obj), w.heap.size ≤ l → W.heap[l]? = some o → o.isCells = false → o.isWalk = false → Kp W (W.putObj l o'))
    (c2 : α → Array Value) (t2 : TypeId)
    (I : List α → World → Prop) (Ix : Code → List α → World → Prop) (hI : OwnFrom w.heap.size I) (hIx : ∀ c, OwnFrom w.heap.size (Ix c)) (h0 : I [] w)
    (hKp : ∀ pre W W', I pre W → Below W.heap.size W W' → Kp W W' ∧ I pre W')
    (hround : ∀ (l : Nat) (x : α) (W : World) (K : Act → World → Prop), (∀ (a' : Act) (W' : World) (Y : Nat), Below W.heap.size W W' → W'.heap[Y]? = some (Obj.cells (c2 x) t2 (0, 0)) → (∀ (l' : Nat) (pre : List α) (W' : World), w.heap.size ≤ l' → (∃ r, W'.heap[l']? = some (.loop r)) → I pre W' → pre.length < N → W'.heap[Y]? = some (Obj.cells (c2 x) t2 (0, 0)) → body.wpIn (F.inRound l') (n - 1 - 1) P (ownPostG w.heap.size Kp I Ix (pre ++ [x]) W') a' W') → K a' W') →
      assign.wpIn (F.inRound l) (n - 1 - 1) P (Exit.then K (fun _ _ _ => False)) { tmps := (a.tmps.setIfInBounds p1 (enc1 x)).setIfInBounds p2 (enc2 x), defers := [] } W)
    (hdone : ∀ (D : Nat) (xs : List α) (W : World), w.heap.size ≤ D → S xs → I xs W → W.heap[D]? = some (.deferred (some [])) → Q .normal { a with defers := { target := .collected D, args := #[] } :: a.defers } W)
    (hstop : ∀ (D : Nat) (c : Code) (pre : List α) (W : World), w.heap.size ≤ D → Sp pre → Ix c pre W → W.heap[D]? = some (.deferred (some [])) → c.wpIn F n P Q { a with defers := { target := .collected D, args := #[] } :: a.defers } W) :
    (Code.rangeFunc g #[p1, p2] assign body).wpIn F n P Q a w := by
  refine wpIn_rangeFunc_ownH hro h1 hg hFg eg hseq hKt hKb (Below.refl _ _) (fun _ => rfl) I Ix hI hIx h0 (fun x a' W => ∃ Y : Nat, W.heap[Y]? = some (Obj.cells (c2 x) t2 (0, 0)) ∧ ∀ (l' : Nat) (pre : List α) (W' : World), w.heap.size ≤ l' → (∃ r, W'.heap[l']? = some (.loop r)) → I pre W' → pre.length < N → W'.heap[Y]? = some (Obj.cells (c2 x) t2 (0, 0)) → body.wpIn (F.inRound l') (n - 1 - 1) P (ownPostG w.heap.size Kp I Ix (pre ++ [x]) W') a' W') (fun x a' _ A B row hs hg hr => by
      obtain ⟨Y, e2, hb⟩ := hs
      exact ⟨Y, keep_cells e2 hg hr, hb⟩) ?_ ?_ hdone hstop
  · intro l pre x W K hi hK
    rw [zip2]
    exact hround l x W K (fun a' W' Y hb e2 hbd => hK a' W' (keepsFrom_below hb) (hKp pre W W' hi hb).1 (hKp pre W W' hi hb).2 ⟨Y, e2, hbd⟩)
  · intro l pre x a' W hl hr hi hA hlt
    obtain ⟨Y, e2, hb⟩ := hA
    exact hb l pre W hl hr hi hlt e2
end Go.Proofs.YthnolocldeokeaaGreatDoor

