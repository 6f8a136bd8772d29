/- code.Uses, code.Gives. -/
import Derived.Test.YthnolocldeokeaaGreatJAU
import Derived.Sort.LoopGhostIn
import Derived.RangeFuncNested
import Derived.RangeFuncBound
import Derived.RangeFuncCalls
import Derived.RangeFuncLeaves
import Derived.Shelf.Abstract
import Derived.Shelf.RegionOpen
import Derived.WalkKit
import Derived.OwnWalkIn
import Derived.TacticsInMore
import Derived.LoopNIn
import Derived.LoopIn
import Derived.BigRegionIn
import Derived.ProofKit
import Derived.OpenShut
import Derived.ChangeOld
import Derived.ChangeMaps5
import Derived.Deep.Slices
import Derived.ChangeSlices
import Derived.ChangeAt
import Derived.Below
import Derived.Sort.CutIn
import Derived.SizedLaws
namespace Go.Proofs.YthnolocldeokeaaGreat
open Go.RowKit Go.Deep Go.Shelf
set_option linter.unusedVariables false
set_option linter.unusedSimpArgs false
set_option maxRecDepth 100000
attribute [local go_sem] Oper.semAt_some
theorem infoI3 : (Tryz.prog.info? 3).map (fun i => (i.zero, i.size, i.bytes)) = some (some (.int .i64 0), 1, 8) := by kernel_rfl
theorem KR.cells {E : TypeId} {k : Nat} {w : World} {B : Nat} {v : Value} {l : List (List Value)} (h : KR E k w B v l) {g : Nat} (e : v.ownBlock = some g) : ∃ cur, w.heap[g]? = some (.cells cur E (0, 0)) := by
  rcases h.1.2 with ⟨rfl, _⟩ | ⟨g', cap, cur, rfl, _, h4, _⟩
  · cases e
  · cases e; exact ⟨cur, h4⟩
theorem wpListIn_appI {F : Fence} {fnn : Nat} {ops : Array Oper} {rest : List Oper} {o : Oper} {act : Act} {Q : Exit → Act → World → Prop} (w : World) (hgd : o.guard = none) (s x : Operand)
    (ho : o.op = .call { callee := .builtin .append, args := #[s, x], argTypes := #[50, 50] }) (v : Value) (y : Int) (hs : act.eval s = v) (hx : act.eval x = .slice (some ⟨w.heap.size, 0, none⟩) 1 1)
    (B : Nat) (xs : List Int) (h : KR 3 1 w B v (xs.map inc)) (hn : xs.length ≤ 100000) (hB : B ≤ w.heap.size)
    (k : ∀ v' w', KR 3 1 w' B v' ((xs ++ [y]).map inc) → (w.alloc (.cells #[.int .i64 y] 3)).grownBy w' v.ownBlock → wpListIn F fnn Tryz.prog ops Q rest (act.put o.dst v') w') :
    wpListIn F fnn Tryz.prog ops Q (o :: rest) act (w.alloc (.cells #[.int .i64 y] 3)) := by
  refine wpListIn_plain hgd fun K hK => ?_
  obtain ⟨v', w', hrun, h2, h3, _⟩ := run_appK Tryz.underlying50 infoI3 rfl (by decide) (by decide) (w.alloc (.cells #[.int .i64 y] 3)) o.type B v (xs.map inc) (h.below (Nat.le_refl _) ((Below.refl _ w).alloc (Nat.le_refl _) _)) (some ⟨w.heap.size, 0, none⟩) 1 1 [inc y] rfl (crd_one 3 w (inc y) 1 rfl) (rk_inc y) (fun e => by cases e) (by rw [List.length_map]; omega) (by omega) (by rw [World.size_alloc]; omega)
  have h2' : KR 3 1 w' B v' ((xs ++ [y]).map inc) := by rw [List.map_append]; exact h2
  unfold Oper.wpIn
  refine ⟨?_, ?_⟩
  · simp [Oper.about, ho, resolve, Target.leads, Sem.run_pure]
  · rw [Oper.semAt_plain F _ _ (by rw [ho]; intro c hc'; cases hc')]
    simp [execOp, ho, resolve, invoke, builtin, hs, hx, hrun, Result.andThen]
    exact hK _ _ (k v' w' h2' h3)
theorem KR.form' {E : TypeId} {k : Nat} {w : World} {B : Nat} {v : Value} {l : List (List Value)} (h : KR E k w B v l) : ∃ a n c, v = .slice a n c := by
  obtain ⟨a, cap, e, _⟩ := h.rd
  exact ⟨a, _, cap, e⟩
/- What is used so far lies in the box P, all else holds still. -/
def US (V : World) (P : Nat) (L : List Int) (W : World) : Prop := (∃ a n c, W.heap[P]? = some (.cells #[.slice a n c] 50 (0, 0)) ∧ KR 3 1 W V.heap.size (.slice a n c) (L.map inc)) ∧ V.grownBy W (some P)
theorem US_own {α : Type} {V : World} {P : Nat} (f : List α → List Int) : OwnFrom V.heap.size (fun pre W => US V P (f pre) W) := fun s A A' row hs hg hr => by
  obtain ⟨⟨a, n, c, h1, h2⟩, h3⟩ := hs
  refine ⟨⟨a, n, c, keep_cells h1 hg hr, h2.keep fun g e => ?_⟩, ⟨hg.os.trans h3.os, hg.tape.trans h3.tape, hg.output.trans h3.output, Nat.le_trans h3.size hg.size, fun j hj hne => ?_⟩⟩
  · obtain ⟨cur, hc⟩ := h2.cells e
    exact (keep_cells hc hg hr).trans hc.symm
  · exact (hg.block j (by have := h3.size; omega) (fun e => by have := (hr j e.symm).1; omega)).trans (h3.block j hj hne)
theorem US.step {V W w8 : World} {P : Nat} {L : List Int} {y : Int} {a a8 : Option Addr} {n c n8 c8 : Nat} (hP : P < V.heap.size) (h1 : W.heap[P]? = some (.cells #[.slice a n c] 50 (0, 0))) (h2 : KR 3 1 W V.heap.size (.slice a n c) (L.map inc)) (h3 : V.grownBy W (some P)) (h4 : KR 3 1 w8 V.heap.size (.slice a8 n8 c8) ((L ++ [y]).map inc)) (h5 : (W.alloc (.cells #[.int .i64 y] 3)).grownBy w8 (Value.slice a n c).ownBlock) :
    w8.cell? ⟨P, 0, none⟩ = some (.slice a n c) ∧ w8.frozen? ⟨P, 0, none⟩ = false ∧ US V P (L ++ [y]) (w8.setCell ⟨P, 0, none⟩ (.slice a8 n8 c8)) ∧ KeepsFrom V.heap.size W (w8.setCell ⟨P, 0, none⟩ (.slice a8 n8 c8)) := by
  have zW := h3.size
  have bA : Below W.heap.size W (W.alloc (.cells #[.int .i64 y] 3)) := (Below.refl _ W).alloc (Nat.le_refl _) _
  have hown : ∀ g, (Value.slice a n c).ownBlock = some g → V.heap.size ≤ g := fun g e => (h2.own e).1
  have kk : ∀ g, g < V.heap.size → w8.heap[g]? = W.heap[g]? := fun g hg => by
    rw [h5.block g (by rw [World.size_alloc]; omega) (fun e => by have := hown g e.symm; omega)]
    exact bA.block g (by omega)
  have k1 := (kk P hP).trans h1
  refine ⟨cellOf k1 0, freeOf k1 0, ⟨⟨a8, n8, c8, set_cells k1 _, h4.keep fun g e => Below.heap_setCell _ ⟨P, 0, none⟩ _ _ (show g ≠ P from fun e2 => by have := (h4.own e).1; omega)⟩, ?_⟩, ?_⟩
  · have gs := grown_set w8 P 0 (.slice a8 n8 c8)
    refine ⟨gs.os.trans (h5.os.trans (bA.os.trans h3.os)), gs.tape.trans (h5.tape.trans (bA.tape.trans h3.tape)), gs.output.trans (h5.output.trans (bA.output.trans h3.output)), Nat.le_trans zW (Nat.le_trans bA.size (Nat.le_trans h5.size gs.size)), fun j hj hne => ?_⟩
    rw [Below.heap_setCell _ ⟨P, 0, none⟩ _ _ (show j ≠ P from fun e => hne (by rw [e])), kk j hj]
    exact h3.block j hj hne
  · refine ⟨by simp; exact Nat.le_trans bA.size h5.size, fun k o hk ho hc => ?_⟩
    rw [Below.heap_setCell _ ⟨P, 0, none⟩ _ _ (show k ≠ P by omega)]
    have hk2 : k < W.heap.size := lt_of_heap ho
    rw [h5.block k (by rw [World.size_alloc]; omega) (fun e => by
      obtain ⟨cur, hq⟩ := h2.cells e.symm
      rw [ho] at hq; cases hq; cases hc), bA.block k hk2]
    exact ho
def usF (len : Nat) (s : Shp) (o : Opx) (i : Fin 4) : List Int :=
  if (fl s o i).1 = 3 ∨ ((fl s o i).1 = 4 ∧ (fl s o i).2 ≠ -1) then [(fl s o i).2] else if (fl s o i).1 = 5 then (List.range len).map (fun (j : Nat) => (fl s o i).2 + (j : Int)) else []
def usL (len : Nat) (s : Shp) (o : Opx) : List Int := (fourL.map (usF len s o)).flatten
theorem usF_len (len : Nat) (hl : len ≤ 1000) (s : Shp) (o : Opx) (i : Fin 4) : (usF len s o i).length ≤ 1000 := by
  unfold usF
  split
  · simp
  · split
    · simp; exact hl
    · simp
theorem flatM {α : Type} {f : α → List Int} {m : Nat} (h : ∀ i, (f i).length ≤ m) : ∀ l : List α, ((l.map f).flatten).length ≤ m * l.length
  | [] => by simp
  | x :: r => by
    have h1 := flatM h r
    have h2 := h x
    simp only [List.map_cons, List.flatten_cons, List.length_append, List.length_cons, Nat.mul_add, Nat.mul_one]
    omega
structure smO (o : Opx) : Prop where
  d : -1000000 ≤ o.d ∧ o.d ≤ 1000000
  a : -1000000 ≤ o.a ∧ o.a ≤ 1000000
  b : -1000000 ≤ o.b ∧ o.b ≤ 1000000
  k : -1000000 ≤ o.k ∧ o.k ≤ 1000000
theorem smO.fl {o : Opx} (h : smO o) (s : Shp) (i : Fin 4) : -1000000 ≤ (Go.Proofs.YthnolocldeokeaaGreat.fl s o i).2 ∧ (Go.Proofs.YthnolocldeokeaaGreat.fl s o i).2 ≤ 1000000 := by
  rcases (show i = 0 ∨ i = 1 ∨ i = 2 ∨ i = 3 by omega) with rfl | rfl | rfl | rfl
  · exact h.d
  · exact h.a
  · exact h.b
  · exact h.k
def UsP (w : World) (L : List Int) (e : Ending) (w' : World) : Prop := ∃ v, e = .returned (.tuple #[v, .bool true]) ∧ KR 3 1 w' w.heap.size v (L.map inc) ∧ Below w.heap.size w w'
set_option maxHeartbeats 4000000 in
theorem uses_any (SO : ShapeC) (w : World) (h : PH) (p : Pg) (d : PRd w h p) (o : Opx) (hC : isC o.c = true) (len : Nat) (hl : len ≤ 1000) (hlen : rowLen (shpAt o.c).k p o.k = ((len : Int), true)) (so : smO o) :
    Calls Tryz.prog 15 #[h.v, .agg o.cs] w (UsP w (usL len (shpAt o.c) o)) := by
  have hro : Fence.wide.round = none := rfl
  have D := hid (fun (V : World) (hV : Below w.heap.size w V) => d.below (Nat.le_refl _) hV)
  have KR' : Hid (∀ V : World, Below w.heap.size w V → Calls Tryz.prog 55 #[.agg (shpAt o.c).cs.toArray, h.v, .int .i64 o.k] V fun e w' => e = .returned (.tuple #[.int .i64 (len : Int), .bool true]) ∧ Below V.heap.size V w') := hid (fun V hV => by
    have := rowLen_any V (shpAt o.c) h p (D.out V hV) o.k
    rw [hlen] at this
    exact this)
  obtain ⟨ra, rn, rc, ma, mn, mc, fa, fn, fc, ea, en, ec⟩ := h
  simp only [PH.v] at KR' ⊢
  obtain ⟨A1, hA1⟩ : ∃ A1, A1 = w.alloc (.cells #[.slice ra rn rc, .slice ma mn mc, .slice fa fn fc, .slice ea en ec] 26) := ⟨_, rfl⟩
  obtain ⟨W0, hW0⟩ : ∃ W0, W0 = A1.alloc (.cells o.cs 54) := ⟨_, rfl⟩
  have b1 : Below w.heap.size w A1 := by rw [hA1]; exact (Below.refl _ _).alloc (Nat.le_refl _) _
  have z1 : A1.heap.size = w.heap.size + 1 := by rw [hA1]; simp
  have z2 : W0.heap.size = w.heap.size + 2 := by rw [hW0]; simp; omega
  have b2 : Below w.heap.size w W0 := by rw [hW0]; exact b1.alloc (by omega) _
  have m0 : W0.heap[w.heap.size]? = some (.cells #[.slice ra rn rc, .slice ma mn mc, .slice fa fn fc, .slice ea en ec] 26 (0, 0)) := by rw [hW0, Below.heap_alloc _ _ _ (by omega), hA1]; exact heap_alloc_new w _
  have m1 : W0.heap[w.heap.size + 1]? = some (.cells o.cs 54 (0, 0)) := by rw [hW0, ← z1]; exact heap_alloc_new A1 _
  have KS := SO W0 o.c
  rw [hC, if_pos rfl] at KS
  have HB0 := hid b2
  have HZ := hid z2
  have GT : Hid (∀ V : World, Below W0.heap.size W0 V → V.heap[w.heap.size]? = some (.cells #[.slice ra rn rc, .slice ma mn mc, .slice fa fn fc, .slice ea en ec] 26 (0, 0)) ∧ V.heap[w.heap.size + 1]? = some (.cells o.cs 54 (0, 0)) ∧ Below w.heap.size w V) := hid (fun V hV => ⟨(hV.block _ (by omega)).trans m0, (hV.block _ (by omega)).trans m1, b2.trans (hV.mono b2.size)⟩)
  clear m0 m1 b1 b2 z1 z2 d
  have KF := hid (fun (V : World) => fields_in Fence.wide 5 trivial hro (shpAt o.c) o V)
  have SQ := hid (fun (V : World) (X : Nat) => fields_stops (shpAt o.c) o X 5 (by omega) V)
  have UF : Hid (∀ i, usF len (shpAt o.c) o i = if (fl (shpAt o.c) o i).1 = 3 ∨ ((fl (shpAt o.c) o i).1 = 4 ∧ (fl (shpAt o.c) o i).2 ≠ -1) then [(fl (shpAt o.c) o i).2] else if (fl (shpAt o.c) o i).1 = 5 then (List.range len).map (fun (j : Nat) => (fl (shpAt o.c) o i).2 + (j : Int)) else []) := hid (fun i => rfl)
  have ULE := hid (usF_len len hl (shpAt o.c) o)
  have INF : Hid (∀ i, -1000000 ≤ (fl (shpAt o.c) o i).2 ∧ (fl (shpAt o.c) o i).2 ≤ 1000000) := hid (fun i => so.fl _ i)
  have USL : Hid (usL len (shpAt o.c) o = (fourL.map (usF len (shpAt o.c) o)).flatten) := hid rfl
  obtain ⟨s, hs⟩ : ∃ s, s = shpAt o.c := ⟨_, rfl⟩
  rw [← hs] at KS KF SQ UF INF ULE USL KR' ⊢
  generalize usL len s o = LL at USL ⊢
  generalize usF len s o = ff at UF ULE USL
  clear hs hC so hlen D
  obtain ⟨oc, od, oaa, ob, ok⟩ := o
  obtain ⟨nm, sd, sa, sb, sk⟩ := s
  simp only [Opx.cs, Shp.cs] at hW0 KS KF SQ UF INF GT KR' ⊢
  have KS := hid KS
  have lenI : (len : Int) ≤ 1000 := by omega
  have AF := hid (fun (V : World) (hV : Below W0.heap.size W0 V) (q : Obj) => (by
    have bq := hV.trans (((Below.refl _ V).alloc (Nat.le_refl _) q).mono hV.size)
    have g := GT.out _ bq
    exact ⟨g.2.2, cellOf g.1 0, cellOf g.1 1, cellOf g.1 2, cellOf g.1 3, cellOf g.2.1 4⟩ : Below w.heap.size w (V.alloc q) ∧ (V.alloc q).cell? ⟨w.heap.size, 0, none⟩ = some (.slice ra rn rc) ∧ (V.alloc q).cell? ⟨w.heap.size, 1, none⟩ = some (.slice ma mn mc) ∧ (V.alloc q).cell? ⟨w.heap.size, 2, none⟩ = some (.slice fa fn fc) ∧ (V.alloc q).cell? ⟨w.heap.size, 3, none⟩ = some (.slice ea en ec) ∧ (V.alloc q).cell? ⟨w.heap.size + 1, 4, none⟩ = some (.int .i64 ok)))
  have AG := hid (fun (V V2 : World) (hV : Below W0.heap.size W0 V) (h2 : Below (V.alloc (.cells #[.string nm, .int .u8 sd, .int .u8 sa, .int .u8 sb, .int .u8 sk] 105)).heap.size (V.alloc (.cells #[.string nm, .int .u8 sd, .int .u8 sa, .int .u8 sb, .int .u8 sk] 105)) V2) (q q2 : Obj) => (by
    have bq := hV.trans (((Below.refl _ V).alloc (Nat.le_refl _) (.cells #[.string nm, .int .u8 sd, .int .u8 sa, .int .u8 sb, .int .u8 sk] 105)).mono hV.size)
    have b2 := bq.trans (h2.mono bq.size)
    have b3 := b2.alloc b2.size q
    have b4 := b3.alloc b3.size q2
    have g := (GT.out _ b4).2.1
    have hs1 : V2.heap[V.heap.size]? = some (.cells #[.string nm, .int .u8 sd, .int .u8 sa, .int .u8 sb, .int .u8 sk] 105 (0, 0)) := (h2.block _ (by rw [World.size_alloc]; omega)).trans (heap_alloc_new V _)
    have hs2 := (Below.heap_alloc V2 q _ (lt_of_heap hs1)).trans hs1
    have hs3 := (Below.heap_alloc (V2.alloc q) q2 _ (lt_of_heap hs2)).trans hs2
    exact ⟨b4, ⟨cellOf g 0, cellOf g 1, cellOf g 2, cellOf g 3, cellOf g 4⟩, cellOf hs3 0, cellOf hs3 1, cellOf hs3 2, cellOf hs3 3, cellOf hs3 4⟩ : Below W0.heap.size W0 ((V2.alloc q).alloc q2) ∧ (((V2.alloc q).alloc q2).cell? ⟨w.heap.size + 1, 0, none⟩ = some (.int .i64 oc) ∧ ((V2.alloc q).alloc q2).cell? ⟨w.heap.size + 1, 1, none⟩ = some (.int .i64 od) ∧ ((V2.alloc q).alloc q2).cell? ⟨w.heap.size + 1, 2, none⟩ = some (.int .i64 oaa) ∧ ((V2.alloc q).alloc q2).cell? ⟨w.heap.size + 1, 3, none⟩ = some (.int .i64 ob) ∧ ((V2.alloc q).alloc q2).cell? ⟨w.heap.size + 1, 4, none⟩ = some (.int .i64 ok)) ∧ ((V2.alloc q).alloc q2).cell? ⟨V.heap.size, 0, none⟩ = some (.string nm) ∧ ((V2.alloc q).alloc q2).cell? ⟨V.heap.size, 1, none⟩ = some (.int .u8 sd) ∧ ((V2.alloc q).alloc q2).cell? ⟨V.heap.size, 2, none⟩ = some (.int .u8 sa) ∧ ((V2.alloc q).alloc q2).cell? ⟨V.heap.size, 3, none⟩ = some (.int .u8 sb) ∧ ((V2.alloc q).alloc q2).cell? ⟨V.heap.size, 4, none⟩ = some (.int .u8 sk)))
  refine (callsIn_wide (n := 6)).1 ?_
  refine callsIn_of_wp_marks Tryz.func15 rfl trivial ?_ hro
  simp only [Tryz.ntmps15, List.size_toArray, List.length_cons, List.length_nil, Nat.reduceAdd, Nat.reduceSub, Array.replicate_succ, Array.replicate_zero, List.push_toArray, List.append_toArray, List.nil_append, List.cons_append]
  gi_wp2_with (refine ⟨trivial, ?_⟩; first
    | (gi_at_call 54; (rw [← hA1, ← hW0]; refine (callsIn_wide.2 (Hid.out KS)).mono ?_; rintro e w1 ⟨rfl, hb1⟩; have HB1 := hid hb1; have HA1 := hid (fun q => (AF.out w1 hb1 q).1); have y0 := fun q => (AF.out w1 hb1 q).2.1; have y1 := fun q => (AF.out w1 hb1 q).2.2.1; have y2 := fun q => (AF.out w1 hb1 q).2.2.2.1; have y3 := fun q => (AF.out w1 hb1 q).2.2.2.2.1; have y4 := fun q => (AF.out w1 hb1 q).2.2.2.2.2; clear hb1))
    | (gi_at_call 55; (refine (callsIn_wide.2 (KR'.out _ (HA1.out _))).mono ?_; rintro e w2 ⟨rfl, hb2⟩; have HG := hid (AG.out w1 w2 HB1.out hb2); have u0 := fun q q2 => (HG.out q q2).2.1.1; have u1 := fun q q2 => (HG.out q q2).2.1.2.1; have u2 := fun q q2 => (HG.out q q2).2.1.2.2.1; have u3 := fun q q2 => (HG.out q q2).2.1.2.2.2.1; have u4 := fun q q2 => (HG.out q q2).2.1.2.2.2.2; have v0 := fun q q2 => (HG.out q q2).2.2.1; have v1 := fun q q2 => (HG.out q q2).2.2.2.1; have v2 := fun q q2 => (HG.out q q2).2.2.2.2.1; have v3 := fun q q2 => (HG.out q q2).2.2.2.2.2.1; have v4 := fun q q2 => (HG.out q q2).2.2.2.2.2.2; clear hb2 y0 y1 y2 y3 y4))
    | (gi_at_call 56; (refine (KF.out _).mono ?_; rintro e w3 ⟨rfl, rfl⟩; clear u0 u1 u2 u3 u4 v0 v1 v2 v3 v4)))
  obtain ⟨U, hU⟩ : ∃ U, U = (w2.alloc (.cells #[.int .i64 (len : Int)] 3)).alloc (.cells #[.slice none 0 0] 50) := ⟨_, rfl⟩
  obtain ⟨V, hV⟩ : ∃ V, V = (U.alloc (.cells #[.string nm, .int .u8 sd, .int .u8 sa, .int .u8 sb, .int .u8 sk] 105)).alloc (.cells #[.int .i64 oc, .int .i64 od, .int .i64 oaa, .int .i64 ob, .int .i64 ok] 54) := ⟨_, rfl⟩
  rw [← hU, ← hV]
  have bL := (HG.out (.cells #[.int .i64 (len : Int)] 3) (.cells #[.slice none 0 0] 50)).1
  rw [← hU] at bL
  have zU : U.heap.size = w2.heap.size + 1 + 1 := by rw [hU]; simp
  have bV : Below W0.heap.size W0 V := by rw [hV]; exact (bL.alloc bL.size _).alloc (by rw [World.size_alloc]; have := bL.size; omega) _
  have bUV : Below U.heap.size U V := by rw [hV]; exact ((Below.refl _ _).alloc (Nat.le_refl _) _).alloc (by simp) _
  have mlen : V.heap[w2.heap.size]? = some (.cells #[.int .i64 (len : Int)] 3 (0, 0)) := by
    rw [bUV.block _ (by omega), hU, Below.heap_alloc _ _ _ (by simp)]; exact heap_alloc_new w2 _
  have mP : V.heap[w2.heap.size + 1]? = some (.cells #[.slice none 0 0] 50 (0, 0)) := by
    rw [bUV.block _ (by omega), hU]
    have := heap_alloc_new (w2.alloc (.cells #[.int .i64 (len : Int)] 3)) (.cells #[.slice none 0 0] 50)
    rw [World.size_alloc] at this; exact this
  have ms : V.heap[w2.heap.size + 1 + 1]? = some (.cells #[.string nm, .int .u8 sd, .int .u8 sa, .int .u8 sb, .int .u8 sk] 105 (0, 0)) := by
    rw [hV, Below.heap_alloc _ _ _ (by simp; omega), ← zU]; exact heap_alloc_new U _
  have mo : V.heap[w2.heap.size + 1 + 1 + 1]? = some (.cells #[.int .i64 oc, .int .i64 od, .int .i64 oaa, .int .i64 ob, .int .i64 ok] 54 (0, 0)) := by
    have := heap_alloc_new (U.alloc (.cells #[.string nm, .int .u8 sd, .int .u8 sa, .int .u8 sb, .int .u8 sk] 105)) (.cells #[.int .i64 oc, .int .i64 od, .int .i64 oaa, .int .i64 ob, .int .i64 ok] 54)
    rw [World.size_alloc, zU] at this; rw [hV]; exact this
  have zV : w2.heap.size + 1 + 1 + 1 < V.heap.size := lt_of_heap mo
  have bwV : Below w.heap.size w V := HB0.out.trans (bV.mono HB0.out.size)
  have hseq := SQ.out V (w2.heap.size + 1 + 1) ms mo
  have hw2 : w.heap.size < w2.heap.size + 1 := by have := bL.size; have := HZ.out; omega
  have hwV : w.heap.size ≤ V.heap.size := bwV.size
  have GV : Hid (∀ W : World, V.grownBy W (some (w2.heap.size + 1)) → W.heap[w2.heap.size]? = some (.cells #[.int .i64 (len : Int)] 3 (0, 0))) := hid (fun W g => (g.block _ (by omega) (fun e => by injection e with e; omega)).trans mlen)
  have K2V : Hid (∀ W W' : World, V.grownBy W (some (w2.heap.size + 1)) → V.grownBy W' (some (w2.heap.size + 1)) → K2 (w2.heap.size + 1 + 1) W W') := hid (fun W W' g g' => ⟨(g'.block _ (by omega) (fun e => by injection e with e; omega)).trans (g.block _ (by omega) (fun e => by injection e with e; omega)).symm, (g'.block _ zV (fun e => by injection e with e; omega)).trans (g.block _ zV (fun e => by injection e with e; omega)).symm⟩)
  have hPV : w2.heap.size + 1 < V.heap.size := by omega
  have BWV := hid bwV
  clear hA1 hW0 hV hU bL zU mlen ms mo bV bUV bwV KS KR' KF SQ GT AF AG HB1 HA1 HG HZ HB0
  refine range_go2 hro (by omega) (gf := 90) (lb := #[.pointer (some ⟨w2.heap.size + 1 + 1, 0, none⟩), .pointer (some ⟨w2.heap.size + 1 + 1 + 1, 0, none⟩)]) rfl trivial (enters_of Tryz.func90 (by kernel_rfl) rfl) (enc1 := fun x => .int .u8 (fl ⟨nm, sd, sa, sb, sk⟩ ⟨oc, od, oaa, ob, ok⟩ x).1) (enc2 := fun x => .int .i64 (fl ⟨nm, sd, sa, sb, sk⟩ ⟨oc, od, oaa, ob, ok⟩ x).2) hseq K2_r K2_t (K2_b (by omega)) (fun pre W => US V (w2.heap.size + 1) ((pre.map ff).flatten) W) (fun _ _ _ => False) (US_own _) (fun c s A A' row hs _ _ => hs) ⟨⟨none, 0, 0, mP, KR.nil _ _ _ _⟩, ⟨rfl, rfl, rfl, Nat.le_refl _, fun _ _ _ => rfl⟩⟩ ?round ?done ?stop
  case round =>
    intro ll x W K hK
    have HKK := hid hK
    clear hK
    have HF := hid (UF.out x)
    have HIx := INF.out x
    generalize fl ⟨nm, sd, sa, sb, sk⟩ ⟨oc, od, oaa, ob, ok⟩ x = fx at HF HIx ⊢
    obtain ⟨rx, nx⟩ := fx
    simp only [List.setIfInBounds_toArray, List.set_cons_zero, List.set_cons_succ] at HF HIx ⊢
    gi_wp2
    refine HKK.out _ ?_
    clear HKK K W ll hseq
    intro l' pre W' hll hrr hi hlt
    obtain ⟨⟨a, n, c, h1, h2⟩, h3⟩ := hi
    have hMF : ((pre ++ [x]).map ff).flatten = (pre.map ff).flatten ++ ff x := by simp
    have hle : ((pre.map ff).flatten).length ≤ 1000 * pre.length := flatM ULE.out pre
    have hle2 : ((pre.map ff).flatten).length ≤ 10000 := by omega
    have hsz := h3.size
    have cL := cellOf (GV.out W' h3) 0
    have c0 := cellOf h1 0
    simp only [List.getElem?_toArray, List.getElem?_cons_zero] at c0 cL
    by_cases hA : rx = 3 ∨ (rx = 4 ∧ nx ≠ -1)
    · have FIN : Hid (∀ (w8 : World) (a8 : Option Addr) (n8 c8 : Nat), KR 3 1 w8 V.heap.size (.slice a8 n8 c8) (((pre.map ff).flatten ++ [nx]).map inc) → (W'.alloc (.cells #[.int .i64 nx] 3)).grownBy w8 (Value.slice a n c).ownBlock → (w8.cell? ⟨w2.heap.size + 1, 0, none⟩ = some (.slice a n c) ∧ w8.frozen? ⟨w2.heap.size + 1, 0, none⟩ = false) ∧ KeepsFrom V.heap.size W' (w8.setCell ⟨w2.heap.size + 1, 0, none⟩ (.slice a8 n8 c8)) ∧ K2 (w2.heap.size + 1 + 1) W' (w8.setCell ⟨w2.heap.size + 1, 0, none⟩ (.slice a8 n8 c8)) ∧ US V (w2.heap.size + 1) (((pre ++ [x]).map ff).flatten) (w8.setCell ⟨w2.heap.size + 1, 0, none⟩ (.slice a8 n8 c8))) := hid (fun w8 a8 n8 c8 h4 h5 => by
        obtain ⟨q1, q2, q3, q4⟩ := US.step hPV h1 h2 h3 h4 h5
        refine ⟨⟨q1, q2⟩, q4, K2V.out _ _ h3 q3.2, ?_⟩
        rw [hMF, HF.out, if_pos hA]
        exact q3)
      have HKR := hid h2
      clear h1 h2 h3 hrr hMF hle cL
      rcases hA with hA | ⟨hA, hA2⟩
      · have z3 : (rx == 3) = true := by simp [hA]
        clear hA
        gi_wp2_with (gi_at_builtin; refine wpListIn_appI W' rfl _ _ rfl (.slice a n c) nx (by rfl) (by rfl) V.heap.size ((pre.map ff).flatten) HKR.out (by omega) hsz ?_; intro v8 w8 hk8 hg8; obtain ⟨a8, n8, c8, rfl⟩ := hk8.form'; obtain ⟨⟨p0, p1⟩, p2⟩ := FIN.out w8 a8 n8 c8 hk8 hg8; have P2 := hid p2; clear hk8 hg8 p2)
        exact P2.out
      · have z3 : (rx == 3) = false := by simp [hA]
        have z4 : (rx == 4) = true := by simp [hA]
        have zm : (nx != -1) = true := by simp [hA2]
        clear hA hA2
        gi_wp2_with (gi_at_builtin; refine wpListIn_appI W' rfl _ _ rfl (.slice a n c) nx (by rfl) (by rfl) V.heap.size ((pre.map ff).flatten) HKR.out (by omega) hsz ?_; intro v8 w8 hk8 hg8; obtain ⟨a8, n8, c8, rfl⟩ := hk8.form'; obtain ⟨⟨p0, p1⟩, p2⟩ := FIN.out w8 a8 n8 c8 hk8 hg8; have P2 := hid p2; clear hk8 hg8 p2)
        exact P2.out
    · by_cases hB : rx = 5
      · subst hB
        have H1 := hid h1
        have H2 := hid h2
        have H3 := hid h3
        have HR : Hid (((pre ++ [x]).map ff).flatten = (pre.map ff).flatten ++ (List.range len).map (fun (j : Nat) => nx + (j : Int))) := hid (by rw [hMF, HF.out, if_neg hA, if_pos rfl])
        clear h1 h2 h3 hrr hMF hle c0 hA
        gi_wp2
        gi_loopg [56] len (fun g y wr => ∃ i : Nat, i + g = len ∧ y = .int .i64 (i : Int) ∧ US V (w2.heap.size + 1) ((pre.map ff).flatten ++ (List.range i).map (fun (j : Nat) => nx + (j : Int))) wr ∧ KeepsFrom V.heap.size W' wr)
        case atStart => exact ⟨0, by omega, rfl, by simpa using ⟨⟨a, n, c, H1.out, H2.out⟩, H3.out⟩, KeepsFrom.refl _ _⟩
        case round =>
          obtain ⟨i, hi, rfl, hu, hkf⟩ := hrel
          cases gk with
          | zero =>
            have hin : i = len := by omega
            subst hin
            have E1 : Hid (KeepsFrom V.heap.size W' wr ∧ K2 (w2.heap.size + 1 + 1) W' wr ∧ US V (w2.heap.size + 1) (((pre ++ [x]).map ff).flatten) wr) := hid ⟨hkf, K2V.out _ _ H3.out hu.2, by rw [HR.out]; exact hu⟩
            clear hu hkf
            gi_wp2
            exact E1.out
          | succ g =>
            obtain ⟨⟨a', n', c', h1, h2⟩, h3⟩ := hu
            have c0 := cellOf h1 0
            simp only [List.getElem?_toArray, List.getElem?_cons_zero] at c0
            have hiI : (i : Int) < (len : Int) := by omega
            have hi0 : (0 : Int) ≤ (i : Int) := by omega
            have hle3 : ((pre.map ff).flatten ++ (List.range i).map (fun (j : Nat) => nx + (j : Int))).length ≤ 100000 := by simp only [List.length_append, List.length_map, List.length_range]; omega
            have hsz3 := h3.size
            have FIN : Hid (∀ (w8 : World) (a8 : Option Addr) (n8 c8 : Nat), KR 3 1 w8 V.heap.size (.slice a8 n8 c8) ((((pre.map ff).flatten ++ (List.range i).map (fun (j : Nat) => nx + (j : Int))) ++ [nx + (i : Int)]).map inc) → (wr.alloc (.cells #[.int .i64 (nx + (i : Int))] 3)).grownBy w8 (Value.slice a' n' c').ownBlock → (w8.cell? ⟨w2.heap.size + 1, 0, none⟩ = some (.slice a' n' c') ∧ w8.frozen? ⟨w2.heap.size + 1, 0, none⟩ = false) ∧ US V (w2.heap.size + 1) ((pre.map ff).flatten ++ (List.range (i + 1)).map (fun (j : Nat) => nx + (j : Int))) (w8.setCell ⟨w2.heap.size + 1, 0, none⟩ (.slice a8 n8 c8)) ∧ KeepsFrom V.heap.size W' (w8.setCell ⟨w2.heap.size + 1, 0, none⟩ (.slice a8 n8 c8))) := hid (fun w8 a8 n8 c8 h4 h5 => by
              obtain ⟨q1, q2, q3, q4⟩ := US.step hPV h1 h2 h3 h4 h5
              refine ⟨⟨q1, q2⟩, ?_, hkf.trans q4⟩
              rw [List.range_succ, List.map_append, ← List.append_assoc]
              exact q3)
            have HKR := hid h2
            clear h1 h2 h3 hkf
            have wr1 : IntKind.i64.wrap (nx + (i : Int)) = nx + (i : Int) := by rw [IntKind.wrap_i64]; omega
            gi_wp2_with (gi_at_builtin; refine wpListIn_appI wr rfl _ _ rfl (.slice a' n' c') (nx + (i : Int)) (by rfl) (by rfl) V.heap.size ((pre.map ff).flatten ++ (List.range i).map (fun (j : Nat) => nx + (j : Int))) HKR.out hle3 hsz3 ?_; intro v8 w8 hk8 hg8; obtain ⟨a8, n8, c8, rfl⟩ := hk8.form'; obtain ⟨⟨p0, p1⟩, p2⟩ := FIN.out w8 a8 n8 c8 hk8 hg8; have P2 := hid p2; clear hk8 hg8 p2)
            gi_roundg g
            case measure => omega
            exact ⟨i + 1, by omega, by go_num, P2.out.1, P2.out.2⟩
      · have H1 : Hid (US V (w2.heap.size + 1) (((pre ++ [x]).map ff).flatten) W') := hid (by rw [hMF, HF.out, if_neg hA, if_neg hB, List.append_nil]; exact ⟨⟨a, n, c, h1, h2⟩, h3⟩)
        have z3 : (rx == 3) = false := by simp; omega
        have z5 : (rx == 5) = false := by simp; omega
        clear h1 h2 h3 hrr hMF hle cL c0
        by_cases h4 : rx = 4
        · have z4 : (rx == 4) = true := by simp [h4]
          have zn : nx = -1 := by omega
          have zm : (nx != -1) = false := by simp [zn]
          clear hA hB h4 zn
          gi_wp2
          exact ⟨KeepsFrom.refl _ _, K2_r _, H1.out⟩
        · have z4 : (rx == 4) = false := by simp [h4]
          clear hA hB h4
          gi_wp2
          exact ⟨KeepsFrom.refl _ _, K2_r _, H1.out⟩
  case done =>
    rintro D' ys W hD rfl hI hK
    obtain ⟨⟨a, n, c, h1, h2⟩, h3⟩ := hI
    have c0 := cellOf h1 0
    simp only [List.getElem?_toArray, List.getElem?_cons_zero] at c0
    have HK := hid hK
    have H2 := hid h2
    have H3 := hid h3
    clear hseq hK h1 h2 h3
    gi_wp2
    refine ⟨by simp, .inl ⟨_, _, rfl, run_takeDeferred HK.out, ?_⟩⟩
    refine ⟨_, by simp [results, Tryz.results15, go_sem]; rfl, ?_⟩
    have hr : ∀ r, some D' = some r → V.heap.size ≤ r ∧ ∃ o : Obj, W.heap[r]? = some o ∧ o.isCells = false := fun r e => by cases e; exact ⟨hD, _, HK.out, rfl⟩
    have gp := grownBy_putObj' W D' (.deferred none)
    refine ⟨_, rfl, ?_, ?_⟩
    · rw [USL.out]
      refine (H2.out.keep fun g e => ?_).lower hwV
      obtain ⟨cur, hc⟩ := H2.out.cells e
      exact (keep_cells hc gp hr).trans hc.symm
    · have bW : Below w.heap.size w W := BWV.out.grown H3.out hwV (fun k e => by injection e with e; omega)
      exact bW.grown gp (by have := H3.out.size; omega) (fun k e => by have := (hr k e).1; omega)
  case stop =>
    rintro D' cc pre W hD _ hf
    exact hf.elim
end Go.Proofs.YthnolocldeokeaaGreat

namespace Go.Proofs.YthnolocldeokeaaGreat
open Go.RowKit Go.Deep Go.Shelf
set_option linter.unusedVariables false
set_option linter.unusedSimpArgs false
set_option maxRecDepth 100000
def IRd3 (w : World) (a : Option Addr) (l : List Int) : Prop := ∀ (j : Nat) (x : Int), l[j]? = some x → ∃ b off, a = some ⟨b, off, none⟩ ∧ w.cell? ⟨b, off + j, none⟩ = some (.int .i64 x)
theorem KR.ird {w : World} {B : Nat} {v : Value} {xs : List Int} (h : KR 3 1 w B v (xs.map inc)) : ∃ a c, v = .slice a xs.length c ∧ IRd3 w a xs := by
  obtain ⟨a, cap, e, _, hr, _, _⟩ := h.rd
  rw [List.length_map] at e
  refine ⟨a, cap, e, fun j x hx => ?_⟩
  obtain ⟨b, off, e2, _, hc⟩ := hr j (inc x) (by rw [List.getElem?_map, hx]; rfl)
  exact ⟨b, off, e2, by have := hc 0 (by omega); simpa [inc] using this⟩
theorem IRd3.below {w w' : World} {a : Option Addr} {l : List Int} (h : IRd3 w a l) (hb : Below w.heap.size w w') : IRd3 w' a l := fun j x hx => by
  obtain ⟨b, off, e, hc⟩ := h j x hx
  exact ⟨b, off, e, bel_cell hb hc⟩
set_option maxHeartbeats 2000000 in
theorem ints_yes (w : World) (a1 a2 : Option Addr) (n c1 c2 : Nat) (l : List Int) (hn : n = l.length) (hnb : n ≤ 1000000) (h1 : IRd3 w a1 l) (h2 : IRd3 w a2 l) : Calls Tryz.prog 16 #[.slice a1 n c1, .slice a2 n c2] w fun e w' => e = .returned (.bool true) ∧ Below w.heap.size w w' := by
  have hnI : (n : Int) ≤ 1000000 := by omega
  have HN := hid hn
  have H1 := hid h1
  have H2 := hid h2
  clear hn h1 h2
  go_enter Tryz.func16, Tryz.ntmps16
  go_wp2
  go_loopg [5] n (fun g x wr => ∃ j : Nat, j + g = n ∧ x = .int .i64 (j : Int) ∧ Below w.heap.size w wr)
  case atStart => exact ⟨0, by omega, rfl, Below.refl _ _⟩
  case round =>
    obtain ⟨j, hj, rfl, hb⟩ := hrel
    cases gk with
    | zero =>
      have hjn : j = n := by omega
      subst hjn
      have HB := hid hb
      clear hb
      go_wp2
      go_ret
      exact ⟨rfl, HB.out⟩
    | succ g =>
      obtain ⟨x, hx⟩ : ∃ x, l[j]? = some x := ⟨l[j]'(by have := HN.out; omega), List.getElem?_eq_getElem _⟩
      obtain ⟨b1, o1, rfl, q1⟩ := H1.out j x hx
      obtain ⟨b2, o2, rfl, q2⟩ := H2.out j x hx
      have r1 := bel_cell hb q1
      have r2 := bel_cell hb q2
      have hjI : (j : Int) < (n : Int) := by omega
      have hj0 : (0 : Int) ≤ (j : Int) := by omega
      have HB := hid hb
      clear q1 q2 hx hb
      go_wp2
      go_region_held3 (fun v => v.cell? ⟨b1, o1 + j, none⟩ = some (.int .i64 x) ∧ v.cell? ⟨b2, o2 + j, none⟩ = some (.int .i64 x)) (first | go_keep) (fail)
      go_wp2
      go_roundg g
      case measure => omega
      exact ⟨j + 1, by omega, by go_num, HB.out.drew⟩
/- What a code holds tells whether it may be. -/
theorem isB_of {c d : Cx} (hp : PEq c.p d.p) (hi : c.ints = d.ints) (ht : c.texts = d.texts) (hf : c.funcs = d.funcs) (he : c.events = d.events) : isB c = isB d := by
  obtain ⟨⟨r1, m1, f1, e1⟩, i1, t1, F1, E1⟩ := c
  obtain ⟨⟨r2, m2, f2, e2⟩, i2, t2, F2, E2⟩ := d
  obtain ⟨pr, pm, pf, pe⟩ := hp
  simp only at hi ht hf he pr pm pf pe
  subst hi ht hf he pm
  have lr : r1.length = r2.length := by have := congrArg List.length pr; simpa using this
  have lf : f1.length = f2.length := by have := congrArg List.length pf; simpa using this
  have le : e1.length = e2.length := by have := congrArg List.length pe; simpa using this
  have hrow : ∀ r k, rowLen r ⟨r1, m1, f1, e1⟩ k = rowLen r ⟨r2, m1, f2, e2⟩ k := fun r k => by unfold rowLen; simp only [pr, pf, pe, lr]
  have hop : ∀ regs nops o, isOpB ⟨⟨r1, m1, f1, e1⟩, i1, t1, F1, E1⟩ regs nops o = isOpB ⟨⟨r2, m1, f2, e2⟩, i1, t1, F1, E1⟩ regs nops o := fun regs nops o => by
    unfold isOpB bnd
    simp only [hrow, lr, lf, le]
  have hfn : ∀ ps f, isFnB ⟨⟨r1, m1, f1, e1⟩, i1, t1, F1, E1⟩ ps f = isFnB ⟨⟨r2, m1, f2, e2⟩, i1, t1, F1, E1⟩ ps f := fun ps f => by
    unfold isFnB
    have : isOpB ⟨⟨r1, m1, f1, e1⟩, i1, t1, F1, E1⟩ f.regs f.ops.length = isOpB ⟨⟨r2, m1, f2, e2⟩, i1, t1, F1, E1⟩ f.regs f.ops.length := funext fun o => hop _ _ o
    rw [this]
  unfold isB isFnsB constB rightB Pg.rn
  simp only [hfn, pr, pf, pe, lr, lf, le]
end Go.Proofs.YthnolocldeokeaaGreat

namespace Go.Proofs.YthnolocldeokeaaGreat
set_option maxRecDepth 100000
open Go.ChangeShapes Go.WideShapes Go.ChangeAt Go.RowKit Go.Deep
set_option linter.unusedVariables false
set_option linter.unusedSimpArgs false

theorem cells3 : Tryz.prog.cellsOf 3 = 1 := by kernel_rfl
theorem cells9 : Tryz.prog.cellsOf 9 = 1 := by kernel_rfl

/- What the reading of a slice of values tells. -/
/- A value that isn't great, as a tree of three levels. -/
end Go.Proofs.YthnolocldeokeaaGreat

namespace Go.Proofs.YthnolocldeokeaaGreat
set_option maxRecDepth 100000
open Go.ChangeShapes Go.WideShapes Go.ChangeAt Go.RowKit Go.Deep
set_option linter.unusedVariables false
set_option linter.unusedSimpArgs false

theorem cells28 : Tryz.prog.cellsOf 46 = 2 := by kernel_rfl
theorem cells46 : Tryz.prog.cellsOf 63 = 3 := by kernel_rfl
theorem cells79 : Tryz.prog.cellsOf 67 = 5 := by kernel_rfl
theorem cells48 : Tryz.prog.cellsOf 49 = 4 := by kernel_rfl
theorem cells43 : Tryz.prog.cellsOf 28 = 1 := by kernel_rfl
theorem cells44 : Tryz.prog.cellsOf 47 = 1 := by kernel_rfl
theorem cells22 : Tryz.prog.cellsOf 22 = 1 := by kernel_rfl
theorem cells23 : Tryz.prog.cellsOf 23 = 1 := by kernel_rfl
theorem cells24 : Tryz.prog.cellsOf 24 = 1 := by kernel_rfl
theorem cells26 : Tryz.prog.cellsOf 26 = 4 := by kernel_rfl

section
variable {H : Type} {enc : TypeId × Value → H} {W : World}

def TrdT (enc : TypeId × Value → H) (W : World) (T : TypeId) (cs : List Value) : Prop := ∃ fuel x, DataW.trod enc Tryz.prog W 0 (fun _ => true) true fuel T cs = some x

set_option maxRecDepth 100000 in
theorem rows_of {T E : TypeId} {k : Nat} (hT : Tryz.prog.underlying T = some (.slice E)) (hk : Tryz.prog.cellsOf E = k) (k0 : 0 < k) {a0 : Option Addr} {len cap : Nat} (h : TrdT enc W T [.slice a0 len cap]) :
    ∃ rows : List (List Value), rows.length = len ∧ CRd W a0 k rows ∧ (∀ r ∈ rows, r.length = k ∧ TrdT enc W E r) ∧ len ≤ 9223372036854775807 ∧ len ≤ cap := by
  obtain ⟨fuel, x, hf⟩ := h
  rcases open_slice hT hf with ⟨hcs, _⟩ | ⟨a, l, c, m, n, D, Pl, hcs, _, hl, hm', hm, _, hx⟩
  · simp at hcs
    obtain ⟨rfl, rfl, rfl⟩ := hcs
    exact ⟨[], rfl, fun j x hx => by simp at hx, fun h hh => by simp at hh, by omega, by omega⟩
  · simp at hcs
    obtain ⟨rfl, rfl, rfl⟩ := hcs
    simp at hm
    subst hm
    have hs : ∀ j, j < len → ∃ r : List Value, (∃ b off, some a = some ⟨b, off, none⟩ ∧ b < W.heap.size ∧ ∀ i, i < k → W.cell? ⟨b, off + j * k + i, none⟩ = r[i]?) ∧ r.length = k ∧ TrdT enc W E r := by
      intro j hj
      obtain ⟨cs, h1, h2⟩ := hx j (by omega)
      rw [hk] at h1
      obtain ⟨_, h3, h4⟩ := World.cells?_some h1
      obtain ⟨b, off, spot⟩ := a
      have hc0 : cs[0]? = some (cs[0]'(by omega)) := by rw [List.getElem?_eq_getElem]
      have hcell := (h4 0 k0).trans hc0
      have hspot : spot = none := by
        obtain ⟨cs', h1', h2'⟩ := hx 0 (by omega)
        rw [hk] at h1'
        obtain ⟨_, h3', h4'⟩ := World.cells?_some h1'
        have := World.cell?_spot ((h4' 0 k0).trans (show cs'[0]? = some (cs'[0]'(by omega)) by rw [List.getElem?_eq_getElem]))
        simpa [Addr.add] using this
      subst hspot
      have hb : b < W.heap.size := by
        have := World.block_lt_of_cell? W _ hcell
        simpa [Addr.add_lit] using this
      refine ⟨cs, ⟨b, off, rfl, hb, fun i hi => ?_⟩, h3, _, _, h2⟩
      have := h4 i hi
      simp only [Addr.add_lit] at this
      exact this
    refine ⟨(List.range len).map (fun j => if hj : j < len then Classical.choose (hs j hj) else []), by simp, ?_, ?_, by unfold maxLen at hm'; omega, by omega⟩
    · intro j h hjh
      simp only [List.getElem?_map, Option.map_eq_some_iff] at hjh
      obtain ⟨j', hj', rfl⟩ := hjh
      have hj : j < len := by have := (List.getElem?_eq_some_iff.1 hj').1; simpa using this
      have : j' = j := by simpa [hj] using hj'.symm
      subst this
      simp only [hj, dif_pos]
      exact (Classical.choose_spec (hs j' hj)).1
    · intro h hh
      simp only [List.mem_map, List.mem_range] at hh
      obtain ⟨j, hj, rfl⟩ := hh
      simp only [hj, dif_pos]
      exact (Classical.choose_spec (hs j hj)).2

theorem str_of {c : Value} (h : TrdT enc W 9 [c]) : ∃ s, c = .string s ∧ s.size ≤ 9223372036854775807 := by
  obtain ⟨fuel, x, hf⟩ := h
  obtain ⟨s, e, _, w⟩ := DataW.trod_string Tryz.underlying9 hf
  simp at e
  exact ⟨s, e, by unfold maxLen at w; omega⟩
theorem int_of {c : Value} (h : TrdT enc W 3 [c]) : ∃ n, c = .int .i64 n := by
  obtain ⟨fuel, x, hf⟩ := h
  obtain ⟨n, e, _, w⟩ := DataW.trod_int Tryz.underlying3 hf
  simp at e
  exact ⟨n, e⟩
set_option maxRecDepth 100000 in
theorem slice_of {T E : TypeId} (hT : Tryz.prog.underlying T = some (.slice E)) {c : Value} (h : TrdT enc W T [c]) : ∃ a n cap, c = .slice a n cap := by
  obtain ⟨fuel, x, hf⟩ := h
  rcases open_slice hT hf with ⟨hcs, _⟩ | ⟨a, l, c, m, n', D, Pl, hcs, _, hl, hm', hm, _, hx⟩
  · simp at hcs; exact ⟨_, _, _, hcs⟩
  · simp at hcs; exact ⟨_, _, _, hcs⟩
set_option maxRecDepth 100000 in
theorem type_of {cs : List Value} (hl : cs.length = 2) (h : TrdT enc W 46 cs) : ∃ k r, cs = [.int .i64 k, .int .i64 r] := by
  obtain ⟨fuel, x, hf⟩ := h
  obtain ⟨xs, n, _, rfl, _, hlen, hf⟩ := DataW.trod_struct Tryz.underlying46 hf
  match cs, hl with
  | [c0, c1], _ =>
    match xs, hlen with
    | [y0, y1], _ =>
      have h0 := hf 0 _ rfl
      have h1 := hf 1 _ rfl
      simp [cells3] at h0 h1
      obtain ⟨k, rfl⟩ := int_of ⟨_, _, h0⟩
      obtain ⟨r, rfl⟩ := int_of ⟨_, _, h1⟩
      exact ⟨k, r, rfl⟩

/- Rows out of their elements. -/
theorem list_of {α β : Type} {R : α → β → Prop} : ∀ (l : List α), (∀ a ∈ l, ∃ b, R a b) → ∃ m : List β, m.length = l.length ∧ ∀ (j : Nat) (a : α), l[j]? = some a → ∃ b, m[j]? = some b ∧ R a b
  | [], _ => ⟨[], rfl, fun j a e => by simp at e⟩
  | a :: l, h => by
    obtain ⟨b, hb⟩ := h a (by simp)
    obtain ⟨m, hm, hr⟩ := list_of l (fun x hx => h x (by simp [hx]))
    refine ⟨b :: m, by simp [hm], fun j x e => ?_⟩
    cases j with
    | zero => simp at e; subst e; exact ⟨b, rfl, hb⟩
    | succ j => simp at e; exact hr j x e
theorem at_of {α β : Type} {l : List α} {m : List β} (h : m.length = l.length) {j : Nat} {b : β} (e : m[j]? = some b) : ∃ a, l[j]? = some a := by
  have := (List.getElem?_eq_some_iff.1 e).1
  exact ⟨l[j]'(by omega), by rw [List.getElem?_eq_getElem]⟩

theorem srd_of {a : Option Addr} {n cap : Nat} (h : TrdT enc W 28 [.slice a n cap]) : ∃ ss : List ByteArray, n = ss.length ∧ n ≤ cap ∧ n ≤ 9223372036854775807 ∧ SRd W a ss := by
  obtain ⟨rows, hl, hrd, hel, hn, hc⟩ := rows_of Tryz.underlying28 cells9 (by omega) h
  obtain ⟨ss, hm, hr⟩ := list_of (R := fun r (s : ByteArray) => r = [.string s] ∧ s.size ≤ 9223372036854775807) rows (fun r hr => by
    obtain ⟨h1, h2⟩ := hel r hr
    match r, h1 with
    | [c], _ =>
      obtain ⟨s, rfl, hs⟩ := str_of h2
      exact ⟨s, rfl, hs⟩)
  refine ⟨ss, by omega, hc, hn, fun j s e => ?_⟩
  obtain ⟨r, hrr⟩ := at_of hm e
  obtain ⟨s', e', rfl, hz⟩ := hr j r hrr
  rw [e] at e'; cases e'
  obtain ⟨b, off, rfl, _, hcell⟩ := hrd j _ hrr
  have := hcell 0 (by omega)
  simp only [Nat.mul_one, Nat.add_zero, List.getElem?_cons_zero] at this
  exact ⟨hz, b, off, rfl, this⟩
theorem trd_of {a : Option Addr} {n cap : Nat} (h : TrdT enc W 47 [.slice a n cap]) : ∃ ts : List TyP, n = ts.length ∧ n ≤ 9223372036854775807 ∧ TRd W a ts := by
  obtain ⟨rows, hl, hrd, hel, hn, hc⟩ := rows_of Tryz.underlying47 cells28 (by omega) h
  obtain ⟨ts, hm, hr⟩ := list_of (R := fun r (t : TyP) => r = [.int .i64 t.1, .int .i64 t.2]) rows (fun r hr => by
    obtain ⟨h1, h2⟩ := hel r hr
    obtain ⟨k, q, rfl⟩ := type_of h1 h2
    exact ⟨(k, q), rfl⟩)
  refine ⟨ts, by omega, hn, fun j t e => ?_⟩
  obtain ⟨r, hrr⟩ := at_of hm e
  obtain ⟨t', e', rfl⟩ := hr j r hrr
  rw [e] at e'; cases e'
  obtain ⟨b, off, rfl, _, hcell⟩ := hrd j _ hrr
  have h0 := hcell 0 (by omega)
  have h1 := hcell 1 (by omega)
  simp only [Nat.add_zero, List.getElem?_cons_zero, List.getElem?_cons_succ] at h0 h1
  exact ⟨b, off, rfl, h0, h1⟩
set_option maxRecDepth 100000 in
theorem map_of {cs : List Value} (hl : cs.length = 5) (h : TrdT enc W 67 cs) : ∃ m : Mp, cs = m.cs ∧ m.name.size ≤ 9223372036854775807 := by
  obtain ⟨fuel, x, hf⟩ := h
  obtain ⟨xs, n, _, rfl, _, hlen, hf⟩ := DataW.trod_struct Tryz.underlying67 hf
  match cs, hl with
  | [c0, c1, c2, c3, c4], _ =>
    match xs, hlen with
    | [y0, y1, y2], _ =>
      have h0 := hf 0 _ rfl
      have h1 := hf 1 _ rfl
      have h2 := hf 2 _ rfl
      simp [cells9, cells28] at h0 h1 h2
      obtain ⟨nm, rfl, hs⟩ := str_of ⟨_, _, h0⟩
      obtain ⟨k1, r1, e1⟩ := type_of rfl ⟨_, _, h1⟩
      obtain ⟨k2, r2, e2⟩ := type_of rfl ⟨_, _, h2⟩
      cases e1
      cases e2
      exact ⟨⟨nm, (k1, r1), (k2, r2)⟩, rfl, hs⟩
theorem crd_map {α : Type} {a : Option Addr} {k : Nat} {rows : List (List Value)} {l : List α} (f : α → List Value) (h : CRd W a k rows) (hm : l.length = rows.length) (hr : ∀ (j : Nat) (r : List Value), rows[j]? = some r → ∃ x, l[j]? = some x ∧ r = f x) : CRd W a k (l.map f) := by
  intro j r e
  simp only [List.getElem?_map, Option.map_eq_some_iff] at e
  obtain ⟨x, hx, rfl⟩ := e
  obtain ⟨r, hrr⟩ := at_of hm hx
  obtain ⟨x', e', rfl⟩ := hr j r hrr
  rw [hx] at e'; cases e'
  exact h j _ hrr
theorem mrd_of {a : Option Addr} {n cap : Nat} (h : TrdT enc W 23 [.slice a n cap]) : ∃ ms, MRd W a n ms := by
  obtain ⟨rows, hl, hrd, hel, hn, hc⟩ := rows_of Tryz.underlying23 cells79 (by omega) h
  obtain ⟨ps, hm, hr⟩ := list_of (R := fun r (p : Mp) => r = p.cs ∧ p.name.size ≤ 9223372036854775807) rows (fun r hr => map_of (hel r hr).1 (hel r hr).2)
  refine ⟨ps, by omega, hn, crd_map Mp.cs hrd hm (fun j r e => by obtain ⟨x, h1, h2, _⟩ := hr j r e; exact ⟨x, h1, h2⟩), fun p hp => ?_⟩
  obtain ⟨j, hj⟩ := List.getElem?_of_mem hp
  obtain ⟨r, hrr⟩ := at_of hm hj
  obtain ⟨x, h1, _, h3⟩ := hr j r hrr
  rw [hj] at h1; cases h1; exact h3
end
end Go.Proofs.YthnolocldeokeaaGreat

namespace Go.Proofs.YthnolocldeokeaaGreat
set_option maxRecDepth 100000
open Go.ChangeShapes Go.WideShapes Go.ChangeAt Go.RowKit Go.Deep
set_option linter.unusedVariables false
set_option linter.unusedSimpArgs false

theorem ownN : ownKnob Tryz.prog.godebug = none := by kernel_rfl
theorem laidOut : laidOutB Tryz.prog = true := by kernel_rfl
theorem f_cells3 : Tryz.prog.cellsOf 3 = 1 := by kernel_rfl
theorem cells36 : Tryz.prog.cellsOf 54 = 5 := by kernel_rfl
def f_CRd (w : World) (a : Option Addr) (k : Nat) (rows : List (List Value)) : Prop := ∀ (j : Nat) (r : List Value), rows[j]? = some r → ∃ b off, a = some ⟨b, off, none⟩ ∧ b < w.heap.size ∧ ∀ i, i < k → w.cell? ⟨b, off + j * k + i, none⟩ = r[i]?

section
variable {H : Type} {enc : TypeId × Value → H} {W : World}

def f_TrdT (enc : TypeId × Value → H) (W : World) (T : TypeId) (cs : List Value) : Prop := ∃ fuel x, DataW.trod enc Tryz.prog W 0 (fun _ => true) true fuel T cs = some x

set_option maxRecDepth 100000 in
theorem f_rows_of {T E : TypeId} {k : Nat} (hT : Tryz.prog.underlying T = some (.slice E)) (hk : Tryz.prog.cellsOf E = k) (k0 : 0 < k) {a0 : Option Addr} {len cap : Nat} (h : f_TrdT enc W T [.slice a0 len cap]) :
    ∃ rows : List (List Value), rows.length = len ∧ f_CRd W a0 k rows ∧ (∀ r ∈ rows, r.length = k ∧ f_TrdT enc W E r) ∧ len ≤ 9223372036854775807 ∧ len ≤ cap := by
  obtain ⟨fuel, x, hf⟩ := h
  rcases open_slice hT hf with ⟨hcs, _⟩ | ⟨a, l, c, m, n, D, Pl, hcs, _, hl, hm', hm, _, hx⟩
  · simp at hcs
    obtain ⟨rfl, rfl, rfl⟩ := hcs
    exact ⟨[], rfl, fun j x hx => by simp at hx, fun h hh => by simp at hh, by omega, by omega⟩
  · simp at hcs
    obtain ⟨rfl, rfl, rfl⟩ := hcs
    simp at hm
    subst hm
    have hs : ∀ j, j < len → ∃ r : List Value, (∃ b off, some a = some ⟨b, off, none⟩ ∧ b < W.heap.size ∧ ∀ i, i < k → W.cell? ⟨b, off + j * k + i, none⟩ = r[i]?) ∧ r.length = k ∧ f_TrdT enc W E r := by
      intro j hj
      obtain ⟨cs, h1, h2⟩ := hx j (by omega)
      rw [hk] at h1
      obtain ⟨_, h3, h4⟩ := World.cells?_some h1
      obtain ⟨b, off, spot⟩ := a
      have hc0 : cs[0]? = some (cs[0]'(by omega)) := by rw [List.getElem?_eq_getElem]
      have hcell := (h4 0 k0).trans hc0
      have hspot : spot = none := by
        obtain ⟨cs', h1', h2'⟩ := hx 0 (by omega)
        rw [hk] at h1'
        obtain ⟨_, h3', h4'⟩ := World.cells?_some h1'
        have := World.cell?_spot ((h4' 0 k0).trans (show cs'[0]? = some (cs'[0]'(by omega)) by rw [List.getElem?_eq_getElem]))
        simpa [Addr.add] using this
      subst hspot
      have hb : b < W.heap.size := by
        have := World.block_lt_of_cell? W _ hcell
        simpa [Addr.add_lit] using this
      refine ⟨cs, ⟨b, off, rfl, hb, fun i hi => ?_⟩, h3, _, _, h2⟩
      have := h4 i hi
      simp only [Addr.add_lit] at this
      exact this
    refine ⟨(List.range len).map (fun j => if hj : j < len then Classical.choose (hs j hj) else []), by simp, ?_, ?_, by unfold maxLen at hm'; omega, by omega⟩
    · intro j h hjh
      simp only [List.getElem?_map, Option.map_eq_some_iff] at hjh
      obtain ⟨j', hj', rfl⟩ := hjh
      have hj : j < len := by have := (List.getElem?_eq_some_iff.1 hj').1; simpa using this
      have : j' = j := by simpa [hj] using hj'.symm
      subst this
      simp only [hj, dif_pos]
      exact (Classical.choose_spec (hs j' hj)).1
    · intro h hh
      simp only [List.mem_map, List.mem_range] at hh
      obtain ⟨j, hj, rfl⟩ := hh
      simp only [hj, dif_pos]
      exact (Classical.choose_spec (hs j hj)).2

theorem f_int_of {c : Value} (h : f_TrdT enc W 3 [c]) : ∃ n, c = .int .i64 n := by
  obtain ⟨fuel, x, hf⟩ := h
  obtain ⟨n, e, _, w⟩ := DataW.trod_int Tryz.underlying3 hf
  simp at e
  exact ⟨n, e⟩
set_option maxRecDepth 100000 in
theorem f_slice_of {T E : TypeId} (hT : Tryz.prog.underlying T = some (.slice E)) {c : Value} (h : f_TrdT enc W T [c]) : ∃ a n cap, c = .slice a n cap := by
  obtain ⟨fuel, x, hf⟩ := h
  rcases open_slice hT hf with ⟨hcs, _⟩ | ⟨a, l, c, m, n', D, Pl, hcs, _, hl, hm', hm, _, hx⟩
  · simp at hcs; exact ⟨_, _, _, hcs⟩
  · simp at hcs; exact ⟨_, _, _, hcs⟩
set_option maxRecDepth 100000 in
theorem op_of {cs : List Value} (hl : cs.length = 5) (h : f_TrdT enc W 54 cs) : ∃ o : Opx, cs = o.cs.toList := by
  obtain ⟨fuel, x, hf⟩ := h
  obtain ⟨xs, n, _, rfl, _, hlen, hf⟩ := DataW.trod_struct Tryz.underlying54 hf
  match cs, hl with
  | [c0, c1, c2, c3, c4], _ =>
    match xs, hlen with
    | [y0, y1, y2, y3, y4], _ =>
      have h0 := hf 0 _ rfl
      have h1 := hf 1 _ rfl
      have h2 := hf 2 _ rfl
      have h3 := hf 3 _ rfl
      have h4 := hf 4 _ rfl
      simp [f_cells3] at h0 h1 h2 h3 h4
      obtain ⟨n0, rfl⟩ := f_int_of ⟨_, _, h0⟩
      obtain ⟨n1, rfl⟩ := f_int_of ⟨_, _, h1⟩
      obtain ⟨n2, rfl⟩ := f_int_of ⟨_, _, h2⟩
      obtain ⟨n3, rfl⟩ := f_int_of ⟨_, _, h3⟩
      obtain ⟨n4, rfl⟩ := f_int_of ⟨_, _, h4⟩
      exact ⟨⟨n0, n1, n2, n3, n4⟩, rfl⟩
/- Rows out of their elements. -/
theorem f_list_of {α β : Type} {R : α → β → Prop} : ∀ (l : List α), (∀ a ∈ l, ∃ b, R a b) → ∃ m : List β, m.length = l.length ∧ ∀ (j : Nat) (a : α), l[j]? = some a → ∃ b, m[j]? = some b ∧ R a b
  | [], _ => ⟨[], rfl, fun j a e => by simp at e⟩
  | a :: l, h => by
    obtain ⟨b, hb⟩ := h a (by simp)
    obtain ⟨m, hm, hr⟩ := f_list_of l (fun x hx => h x (by simp [hx]))
    refine ⟨b :: m, by simp [hm], fun j x e => ?_⟩
    cases j with
    | zero => simp at e; subst e; exact ⟨b, rfl, hb⟩
    | succ j => simp at e; exact hr j x e
theorem f_at_of {α β : Type} {l : List α} {m : List β} (h : m.length = l.length) {j : Nat} {b : β} (e : m[j]? = some b) : ∃ a, l[j]? = some a := by
  have := (List.getElem?_eq_some_iff.1 e).1
  exact ⟨l[j]'(by omega), by rw [List.getElem?_eq_getElem]⟩

theorem ord_of {a : Option Addr} {n cap : Nat} (h : f_TrdT enc W 55 [.slice a n cap]) : ∃ ops : List Opx, n = ops.length ∧ n ≤ 9223372036854775807 ∧ ORd W a ops := by
  obtain ⟨rows, hl, hrd, hel, hn, hc⟩ := f_rows_of Tryz.underlying55 cells36 (by omega) h
  obtain ⟨ts, hm, hr⟩ := f_list_of (R := fun r (t : Opx) => r = t.cs.toList) rows (fun r hr => by
    obtain ⟨h1, h2⟩ := hel r hr
    exact op_of h1 h2)
  refine ⟨ts, by omega, hn, fun j t e => ?_⟩
  obtain ⟨r, hrr⟩ := f_at_of hm e
  obtain ⟨t', e', rfl⟩ := hr j r hrr
  rw [e] at e'; cases e'
  obtain ⟨b, off, rfl, _, hcell⟩ := hrd j _ hrr
  exact ⟨b, off, rfl, fun i hi => by rw [hcell i hi]; simp⟩
end
end Go.Proofs.YthnolocldeokeaaGreat

namespace Go.Proofs.YthnolocldeokeaaGreat
set_option maxRecDepth 100000
open Go.ChangeShapes Go.WideShapes Go.ChangeAt Go.RowKit Go.Deep
set_option linter.unusedVariables false
set_option linter.unusedSimpArgs false
theorem bytes36 : Tryz.prog.bytesOf 54 = 40 := by kernel_rfl
section
variable {H : Type} {enc : TypeId × Value → H} {W : World}
def f_Sm (T : TypeId) (d : DataW H) : Prop := ∀ n ∈ d.weights Tryz.prog T, n ≤ reachBytes
def TrdS (enc : TypeId × Value → H) (W : World) (T : TypeId) (cs : List Value) : Prop := ∃ fuel x, DataW.trod enc Tryz.prog W 0 (fun _ => true) true fuel T cs = some x ∧ f_Sm T x.1
theorem TrdS.t {T : TypeId} {cs : List Value} (h : TrdS enc W T cs) : f_TrdT enc W T cs := by
  obtain ⟨f, x, h1, _⟩ := h
  exact ⟨f, x, h1⟩
theorem mem_all {e : TypeId} : ∀ {l : List (DataW H)} {d : DataW H}, d ∈ l → ∀ n ∈ d.weights Tryz.prog e, n ∈ DataW.weightsAll Tryz.prog e l
  | x :: r, d, h, n, hn => by
    simp only [DataW.weightsAll, List.mem_append]
    rcases List.mem_cons.1 h with rfl | h
    · exact .inl hn
    · exact .inr (mem_all h n hn)
set_option maxRecDepth 100000 in
theorem rowsS_of {T E : TypeId} {k : Nat} (hT : Tryz.prog.underlying T = some (.slice E)) (hk : Tryz.prog.cellsOf E = k) (k0 : 0 < k) {a0 : Option Addr} {len cap : Nat} (h : TrdS enc W T [.slice a0 len cap]) :
    ∃ rows : List (List Value), rows.length = len ∧ f_CRd W a0 k rows ∧ (∀ r ∈ rows, r.length = k ∧ TrdS enc W E r) ∧ len * Tryz.prog.bytesOf E ≤ reachBytes ∧ (a0 = none → cap = 0) := by
  obtain ⟨fuel, x, hf, hsm⟩ := h
  rcases open_slice hT hf with ⟨hcs, _⟩ | ⟨a, l, c, m, n, D, Pl, hcs, _, hl, hm', hm, hxe, hx⟩
  · simp at hcs
    obtain ⟨rfl, rfl, rfl⟩ := hcs
    exact ⟨[], rfl, fun j x hx => by simp at hx, fun h hh => by simp at hh, by omega, fun _ => rfl⟩
  · simp at hcs
    obtain ⟨rfl, rfl, rfl⟩ := hcs
    simp at hm
    subst hm
    subst hxe
    have hD : ∀ i, i < len → f_Sm E (D i) := fun i hi n hn => hsm n (by
      simp only [DataW.weights, hT, List.mem_cons, List.mem_append]
      exact .inr (.inl (mem_all (List.mem_map.2 ⟨i, List.mem_range.2 hi, rfl⟩) n hn)))
    have hW : len * Tryz.prog.bytesOf E ≤ reachBytes := by
      have h1 := hsm ((((List.range len).map D).length + ((List.range (m - len)).map fun j => D (len + j)).length) * Tryz.prog.bytesOf E) (by simp only [DataW.weights, hT, List.mem_cons]; exact .inl trivial)
      refine Nat.le_trans (Nat.mul_le_mul_right _ ?_) h1
      simp
    have hs : ∀ j, j < len → ∃ r : List Value, (∃ b off, some a = some ⟨b, off, none⟩ ∧ b < W.heap.size ∧ ∀ i, i < k → W.cell? ⟨b, off + j * k + i, none⟩ = r[i]?) ∧ r.length = k ∧ TrdS enc W E r := by
      intro j hj
      obtain ⟨cs, h1, h2⟩ := hx j (by omega)
      rw [hk] at h1
      obtain ⟨_, h3, h4⟩ := World.cells?_some h1
      obtain ⟨b, off, spot⟩ := a
      have hc0 : cs[0]? = some (cs[0]'(by omega)) := by rw [List.getElem?_eq_getElem]
      have hcell := (h4 0 k0).trans hc0
      have hspot : spot = none := by
        obtain ⟨cs', h1', h2'⟩ := hx 0 (by omega)
        rw [hk] at h1'
        obtain ⟨_, h3', h4'⟩ := World.cells?_some h1'
        have := World.cell?_spot ((h4' 0 k0).trans (show cs'[0]? = some (cs'[0]'(by omega)) by rw [List.getElem?_eq_getElem]))
        simpa [Addr.add] using this
      subst hspot
      have hb : b < W.heap.size := by
        have := World.block_lt_of_cell? W _ hcell
        simpa [Addr.add_lit] using this
      refine ⟨cs, ⟨b, off, rfl, hb, fun i hi => ?_⟩, h3, _, _, h2, hD j hj⟩
      have := h4 i hi
      simp only [Addr.add_lit] at this
      exact this
    refine ⟨(List.range len).map (fun j => if hj : j < len then Classical.choose (hs j hj) else []), by simp, ?_, ?_, hW, fun e => by cases e⟩
    · intro j h hjh
      simp only [List.getElem?_map, Option.map_eq_some_iff] at hjh
      obtain ⟨j', hj', rfl⟩ := hjh
      have hj : j < len := by have := (List.getElem?_eq_some_iff.1 hj').1; simpa using this
      have : j' = j := by simpa [hj] using hj'.symm
      subst this
      simp only [hj, dif_pos]
      exact (Classical.choose_spec (hs j' hj)).1
    · intro h hh
      simp only [List.mem_map, List.mem_range] at hh
      obtain ⟨j, hj, rfl⟩ := hh
      simp only [hj, dif_pos]
      exact (Classical.choose_spec (hs j hj)).2
theorem reach_is : reachBytes = 140737488351232 := rfl
end
end Go.Proofs.YthnolocldeokeaaGreat

