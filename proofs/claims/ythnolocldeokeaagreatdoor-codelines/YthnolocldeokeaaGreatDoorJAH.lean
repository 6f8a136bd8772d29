/- code.appendOp. -/
import Derived.Test.YthnolocldeokeaaGreatDoorJAG
namespace Go.Proofs.YthnolocldeokeaaGreatDoor
open Go.RowKit Go.Deep Go.Shelf
set_option linter.unusedVariables false
set_option linter.unusedSimpArgs false
set_option maxRecDepth 100000
attribute [local go_sem] Oper.semAt_some
theorem Row.ne {w : World} {B : Nat} {u : Value} {xs : List Nat} (h : Row w B u xs) {b : Nat} {c : Array Value} {t : TypeId} (hb : w.heap[b]? = some (.cells c t (0, 0))) (ht : t ≠ 5) : some b ≠ u.ownBlock := fun e => by
  rcases h.2 with ⟨rfl, _⟩ | ⟨g, cap, cur, rfl, _, h4, _⟩
  · cases e
  · cases e
    rw [hb] at h4
    cases h4
    exact ht rfl
theorem Row.cells {w : World} {B : Nat} {u : Value} {xs : List Nat} (h : Row w B u xs) {g : Nat} (e : u.ownBlock = some g) : ∃ cur, w.heap[g]? = some (.cells cur 5 (0, 0)) := by
  rcases h.2 with ⟨rfl, _⟩ | ⟨g', cap, cur, rfl, _, h4, _⟩
  · cases e
  · cases e; exact ⟨cur, h4⟩
theorem grw_keeps {C : Nat} {W W1 : World} {B : Nat} {u u1 : Value} {ys : List Nat} (h : Row W B u ys) (hg : Grw W u W1 u1) : KeepsFrom C W W1 := ⟨hg.size, fun k o _ hk ho => by
  rw [hg.1.block k (lt_of_heap hk) (fun e => by
    obtain ⟨cur, hc⟩ := h.cells e.symm
    rw [hk] at hc; cases hc; cases ho)]
  exact hk⟩
theorem row_keeps {W W' : World} {row : Option Nat} {B C : Nat} {u : Value} {ys : List Nat} (h : Row W B u ys) (hg : W.grownBy W' row) (hr : ∀ r, row = some r → C ≤ r ∧ ∃ o : Obj, W.heap[r]? = some o ∧ o.isCells = false) : Row W' B u ys := h.same fun g e => by
  obtain ⟨cur, hc⟩ := h.cells e
  exact (keep_cells hc hg hr).trans hc.symm
theorem Grw.far {w W W' : World} {v u : Value} {row : Option Nat} (h : Grw w v W u) (hg : W.grownBy W' row) (hr : ∀ r, row = some r → w.heap.size ≤ r) : Grw w v W' u := by
  refine ⟨⟨hg.os.trans h.1.os, hg.tape.trans h.1.tape, hg.output.trans h.1.output, Nat.le_trans h.1.size hg.size, fun k hk hne => ?_⟩, h.2⟩
  rw [hg.block k (by have := h.1.size; omega) (fun e => by have := hr k e.symm; omega)]
  exact h.1.block k hk hne
theorem Grw.setFar {w W : World} {v u : Value} (h : Grw w v W u) {b : Nat} (hb : w.heap.size ≤ b) (i : Nat) (x : Value) : Grw w v (W.setCell ⟨b, i, none⟩ x) u := by
  have hw := (Below.refl w.heap.size w)
  refine ⟨⟨h.1.os, h.1.tape, h.1.output, by simpa using h.1.size, fun k hk hne => ?_⟩, h.2⟩
  rw [Below.heap_setCell _ ⟨b, i, none⟩ _ _ (show k ≠ b by omega)]
  exact h.1.block k hk hne
def foe (s : Shp) (o : Opx) (i : Fin 4) : List Nat := if (fl s o i).1 = 0 then [] else enc (zz (fl s o i).2)
def encOp (o : Opx) : List Nat := enc (zz o.c) ++ (fourL.map (foe (shpAt o.c) o)).flatten
structure inO (o : Opx) : Prop where
  c : inR o.c
  d : inR o.d
  a : inR o.a
  b : inR o.b
  k : inR o.k
theorem inO.fl {o : Opx} (h : inO o) (s : Shp) (i : Fin 4) : inR (Go.Proofs.YthnolocldeokeaaGreatDoor.fl s o i).2 := by
  rcases (show i = 0 ∨ i = 1 ∨ i = 2 ∨ i = 3 by omega) with rfl | rfl | rfl | rfl
  · exact h.d
  · exact h.a
  · exact h.b
  · exact h.k
theorem foe_le {o : Opx} (h : inO o) (s : Shp) (i : Fin 4) : (foe s o i).length ≤ 10 := by
  unfold foe
  split
  · simp
  · exact enc_zz_le _ (h.fl s i)
theorem flat10 {α : Type} {f : α → List Nat} (h : ∀ i, (f i).length ≤ 10) : ∀ l : List α, ((l.map f).flatten).length ≤ 10 * l.length
  | [] => by simp
  | x :: r => by
    have h1 := flat10 h r
    have h2 := h x
    simp only [List.map_cons, List.flatten_cons, List.length_append, List.length_cons]
    omega
/- Between two rounds. -/
structure OI (w V : World) (B P X : Nat) (v : Value) (sc oc : Array Value) (base : List Nat) (f : Fin 4 → List Nat) (pre : List (Fin 4)) (W : World) : Prop where
  ex : ∃ a n c, W.heap[P]? = some (.cells #[.slice a n c] 52 (0, 0)) ∧ Row W B (.slice a n c) (base ++ (pre.map f).flatten) ∧ Grw w v W (.slice a n c)
  hx : W.heap[X]? = some (.cells sc 63 (0, 0))
  hy : W.heap[X + 1]? = some (.cells oc 23 (0, 0))
theorem OI_own {w V : World} {B P X : Nat} {v : Value} {sc oc : Array Value} {base : List Nat} {f : Fin 4 → List Nat} (hV : w.heap.size ≤ V.heap.size) : OwnFrom V.heap.size (OI w V B P X v sc oc base f) := fun s A A' row hs hg hr => by
  obtain ⟨⟨a, n, c, h1, h2, h3⟩, h4, h5⟩ := hs
  exact ⟨⟨a, n, c, keep_cells h1 hg hr, row_keeps h2 hg hr, h3.far hg (fun r e => by have := (hr r e).1; omega)⟩, keep_cells h4 hg hr, keep_cells h5 hg hr⟩
set_option maxHeartbeats 4000000 in
theorem appOp_any (SO : ShapeC) (w : World) (B : Nat) (v : Value) (xs : List Nat) (o : Opx) (h : Row w B v xs) (hB : B ≤ w.heap.size) (hl : xs.length ≤ 100000000) (ho : inO o) (hC : isC o.c = true) :
    Calls Tryz.prog 31 #[v, .agg o.cs] w (ApP w B v (xs ++ encOp o)) := by
  have hro : Fence.wide.round = none := rfl
  obtain ⟨va, vc, hv, _⟩ := h.form
  obtain ⟨vn, hvn⟩ : ∃ vn, vn = xs.length := ⟨_, rfl⟩
  rw [← hvn] at hv
  have HL : Hid (xs.length ≤ 100000000) := hid hl
  clear hvn hl
  subst hv
  obtain ⟨A1, hA1⟩ : ∃ A1, A1 = w.alloc (.cells #[.slice va vn vc] 52) := ⟨_, rfl⟩
  obtain ⟨W0, hW0⟩ : ∃ W0, W0 = A1.alloc (.cells o.cs 23) := ⟨_, rfl⟩
  have z1 : A1.heap.size = w.heap.size + 1 := by rw [hA1]; simp
  have z0 : W0.heap.size = w.heap.size + 2 := by rw [hW0]; simp; omega
  have b0 : Below w.heap.size w W0 := by rw [hW0]; exact (by rw [hA1]; exact (Below.refl _ _).alloc (Nat.le_refl _) _ : Below w.heap.size w A1).alloc (by omega) _
  have mP : W0.heap[w.heap.size]? = some (.cells #[.slice va vn vc] 52 (0, 0)) := by rw [hW0, Below.heap_alloc _ _ _ (by omega), hA1]; exact heap_alloc_new w _
  have mQ : W0.heap[w.heap.size + 1]? = some (.cells o.cs 23 (0, 0)) := by rw [hW0, ← z1]; exact heap_alloc_new A1 _
  have KS := SO W0 o.c
  rw [hC, if_pos rfl] at KS
  have ENC : Hid (xs ++ encOp o = xs ++ enc (zz o.c) ++ (fourL.map (foe (shpAt o.c) o)).flatten) := hid (by unfold encOp; rw [List.append_assoc])
  have INO := hid ho
  have FLE := hid (foe_le ho (shpAt o.c))
  have KN : Hid (∀ (V : World) (u : Value) (ys : List Nat) (k : Int), Row V B u ys → B ≤ V.heap.size → ys.length ≤ 1000000000 → inR k → Calls Tryz.prog 30 #[u, .int .i64 k] V (ApP V B u (ys ++ enc (zz k)))) := hid (fun V u ys k h1 h2 h3 h4 => appNumber_any V B u ys k h1 h2 h3 h4)
  have KF := hid (fun (V : World) => fields_in Fence.wide 5 trivial hro (shpAt o.c) o V)
  have SQ := hid (fun (V : World) (X : Nat) => fields_stops (shpAt o.c) o X 5 (by omega) V)
  have FOE : Hid (∀ i, foe (shpAt o.c) o i = if (fl (shpAt o.c) o i).1 = 0 then [] else enc (zz (fl (shpAt o.c) o i).2)) := hid (fun i => rfl)
  have INF : Hid (∀ i, inR (fl (shpAt o.c) o i).2) := hid (fun i => ho.fl _ i)
  obtain ⟨s, hs⟩ : ∃ s, s = shpAt o.c := ⟨_, rfl⟩
  rw [← hs] at KS KF SQ ENC FOE FLE INF
  generalize foe s o = ff at ENC FOE FLE
  have H0 := hid (h.below (Nat.le_refl _) b0)
  have HB0 := hid b0
  have HB := hid hB
  obtain ⟨oc, od, oaa, ob, ok⟩ := o
  obtain ⟨nm, sd, sa, sb, sk⟩ := s
  simp only [Opx.cs, Shp.cs] at hW0 mQ KS KF SQ ENC FOE INF INO ⊢
  have KS := hid KS
  have HH := hid h
  have G1 : Hid (∀ V : World, Below W0.heap.size W0 V → V.heap[w.heap.size]? = some (.cells #[.slice va vn vc] 52 (0, 0)) ∧ V.heap[w.heap.size + 1]? = some (.cells #[.int .i64 oc, .int .i64 od, .int .i64 oaa, .int .i64 ob, .int .i64 ok] 23 (0, 0)) ∧ Below w.heap.size w V) := hid (fun V hV => ⟨(hV.block _ (by omega)).trans mP, (hV.block _ (by omega)).trans mQ, b0.trans (hV.mono b0.size)⟩)
  have YC : Hid (∀ (V : World) (q : Obj), Below W0.heap.size W0 V → (V.alloc q).cell? ⟨w.heap.size, 0, none⟩ = some (.slice va vn vc) ∧ (V.alloc q).cell? ⟨w.heap.size + 1, 0, none⟩ = some (.int .i64 oc) ∧ (V.alloc q).cell? ⟨w.heap.size + 1, 1, none⟩ = some (.int .i64 od) ∧ (V.alloc q).cell? ⟨w.heap.size + 1, 2, none⟩ = some (.int .i64 oaa) ∧ (V.alloc q).cell? ⟨w.heap.size + 1, 3, none⟩ = some (.int .i64 ob) ∧ (V.alloc q).cell? ⟨w.heap.size + 1, 4, none⟩ = some (.int .i64 ok)) := hid (fun V q hV => by
    have bq := hV.trans (((Below.refl _ V).alloc (Nat.le_refl _) q).mono hV.size)
    obtain ⟨g1, g2, _⟩ := G1.out _ bq
    exact ⟨cellOf g1 0, cellOf g2 0, cellOf g2 1, cellOf g2 2, cellOf g2 3, cellOf g2 4⟩)
  have KA : Hid (∀ V : World, Below W0.heap.size W0 V → Calls Tryz.prog 30 #[.slice va vn vc, .int .i64 oc] (V.alloc (.cells #[.string nm, .int .u8 sd, .int .u8 sa, .int .u8 sb, .int .u8 sk] 63)) (ApP (V.alloc (.cells #[.string nm, .int .u8 sd, .int .u8 sa, .int .u8 sb, .int .u8 sk] 63)) B (.slice va vn vc) (xs ++ enc (zz oc)))) := hid (fun V hV => by
    have b1 := (G1.out V hV).2.2
    have b2 := b1.alloc b1.size (.cells #[.string nm, .int .u8 sd, .int .u8 sa, .int .u8 sb, .int .u8 sk] 63)
    exact KN.out _ _ xs oc (h.below (Nat.le_refl _) b2) (Nat.le_trans hB b2.size) (by have := HL.out; omega) INO.out.c)
  /- behind the first number -/
  have NX : Hid (∀ (V V2 : World) (a2 : Option Addr) (n2 c2 : Nat), Below W0.heap.size W0 V → Grw (V.alloc (.cells #[.string nm, .int .u8 sd, .int .u8 sa, .int .u8 sb, .int .u8 sk] 63)) (.slice va vn vc) V2 (.slice a2 n2 c2) → V2.cell? ⟨w.heap.size, 0, none⟩ = some (.slice va vn vc) ∧ V2.frozen? ⟨w.heap.size, 0, none⟩ = false ∧ ((V2.setCell ⟨w.heap.size, 0, none⟩ (.slice a2 n2 c2)).cell? ⟨V.heap.size, 0, none⟩ = some (.string nm) ∧ (V2.setCell ⟨w.heap.size, 0, none⟩ (.slice a2 n2 c2)).cell? ⟨V.heap.size, 1, none⟩ = some (.int .u8 sd) ∧ (V2.setCell ⟨w.heap.size, 0, none⟩ (.slice a2 n2 c2)).cell? ⟨V.heap.size, 2, none⟩ = some (.int .u8 sa) ∧ (V2.setCell ⟨w.heap.size, 0, none⟩ (.slice a2 n2 c2)).cell? ⟨V.heap.size, 3, none⟩ = some (.int .u8 sb) ∧ (V2.setCell ⟨w.heap.size, 0, none⟩ (.slice a2 n2 c2)).cell? ⟨V.heap.size, 4, none⟩ = some (.int .u8 sk)) ∧ ((V2.setCell ⟨w.heap.size, 0, none⟩ (.slice a2 n2 c2)).cell? ⟨w.heap.size + 1, 0, none⟩ = some (.int .i64 oc) ∧ (V2.setCell ⟨w.heap.size, 0, none⟩ (.slice a2 n2 c2)).cell? ⟨w.heap.size + 1, 1, none⟩ = some (.int .i64 od) ∧ (V2.setCell ⟨w.heap.size, 0, none⟩ (.slice a2 n2 c2)).cell? ⟨w.heap.size + 1, 2, none⟩ = some (.int .i64 oaa) ∧ (V2.setCell ⟨w.heap.size, 0, none⟩ (.slice a2 n2 c2)).cell? ⟨w.heap.size + 1, 3, none⟩ = some (.int .i64 ob) ∧ (V2.setCell ⟨w.heap.size, 0, none⟩ (.slice a2 n2 c2)).cell? ⟨w.heap.size + 1, 4, none⟩ = some (.int .i64 ok)) ∧ (V2.setCell ⟨w.heap.size, 0, none⟩ (.slice a2 n2 c2)).heap[w.heap.size]? = some (.cells #[.slice a2 n2 c2] 52 (0, 0)) ∧ Grw w (.slice va vn vc) V2 (.slice a2 n2 c2) ∧ w.heap.size + 2 ≤ V2.heap.size ∧ V2.heap[w.heap.size]? = some (.cells #[.slice va vn vc] 52 (0, 0))) := hid (fun V V2 a2 n2 c2 hV hg => by
    have b1 := (G1.out V hV).2.2
    have bq := hV.trans (((Below.refl _ V).alloc (Nat.le_refl _) (.cells #[.string nm, .int .u8 sd, .int .u8 sa, .int .u8 sb, .int .u8 sk] 63)).mono hV.size)
    obtain ⟨g1, g2, gb⟩ := G1.out _ bq
    have g3 : (V.alloc (.cells #[.string nm, .int .u8 sd, .int .u8 sa, .int .u8 sb, .int .u8 sk] 63)).heap[V.heap.size]? = some (.cells #[.string nm, .int .u8 sd, .int .u8 sa, .int .u8 sb, .int .u8 sk] 63 (0, 0)) := heap_alloc_new V _
    have rw1 := h.below (Nat.le_refl _) gb
    have k1 := (hg.1.block _ (lt_of_heap g1) (rw1.ne g1 (by decide))).trans g1
    have k2 := (hg.1.block _ (lt_of_heap g2) (rw1.ne g2 (by decide))).trans g2
    have k3 := (hg.1.block _ (lt_of_heap g3) (rw1.ne g3 (by decide))).trans g3
    have hVs : V.heap.size ≠ w.heap.size := by have := hV.size; omega
    have o2 : (V2.setCell ⟨w.heap.size, 0, none⟩ (.slice a2 n2 c2)).heap[w.heap.size + 1]? = _ := (Below.heap_setCell _ ⟨w.heap.size, 0, none⟩ _ _ (show w.heap.size + 1 ≠ w.heap.size by omega)).trans k2
    have o3 : (V2.setCell ⟨w.heap.size, 0, none⟩ (.slice a2 n2 c2)).heap[V.heap.size]? = _ := (Below.heap_setCell _ ⟨w.heap.size, 0, none⟩ _ _ (show V.heap.size ≠ w.heap.size from hVs)).trans k3
    exact ⟨cellOf k1 0, freeOf k1 0, ⟨cellOf o3 0, cellOf o3 1, cellOf o3 2, cellOf o3 3, cellOf o3 4⟩, ⟨cellOf o2 0, cellOf o2 1, cellOf o2 2, cellOf o2 3, cellOf o2 4⟩, set_cells k1 _, (Grw.ofBelow _ gb).trans hg, lt_of_heap k2, k1⟩)
  have OWN : Hid (∀ (a2 : Option Addr) (n2 c2 : Nat) (V2 : World), Grw w (.slice va vn vc) V2 (.slice a2 n2 c2) → Row V2 B (.slice a2 n2 c2) (xs ++ enc (zz oc)) → V2.heap[w.heap.size]? = some (.cells #[.slice va vn vc] 52 (0, 0)) → some w.heap.size ≠ (Value.slice a2 n2 c2).ownBlock) := hid (fun a2 n2 c2 V2 _ hr hp => hr.ne hp (by decide))
  clear mP mQ b0 h
  clear hs
  refine (callsIn_wide (n := 6)).1 ?_
  refine callsIn_of_wp_marks Tryz.func31 rfl trivial ?_ hro
  simp only [Tryz.ntmps31, List.size_toArray, List.length_cons, List.length_nil, Nat.reduceAdd, Nat.reduceSub, Array.replicate_succ, Array.replicate_zero, List.push_toArray, List.append_toArray, List.nil_append, List.cons_append]
  gi_wp2_with (refine ⟨trivial, ?_⟩; first
    | (gi_at_call 13; (rw [← hA1, ← hW0]; refine (callsIn_wide.2 (Hid.out KS)).mono ?_; rintro e w1 ⟨rfl, hb1⟩; have HB1 := hid hb1; have y0 := fun q => (YC.out w1 q hb1).1; have y1 := fun q => (YC.out w1 q hb1).2.1; have y2 := fun q => (YC.out w1 q hb1).2.2.1; have y3 := fun q => (YC.out w1 q hb1).2.2.2.1; have y4 := fun q => (YC.out w1 q hb1).2.2.2.2.1; have y5 := fun q => (YC.out w1 q hb1).2.2.2.2.2; clear hb1))
    | (gi_at_call 30; (refine (callsIn_wide.2 (KA.out w1 HB1.out)).mono ?_; rintro e w2 ⟨u2, rfl, hr2, hg2⟩; obtain ⟨a2, c2, hu2, _⟩ := hr2.form; obtain ⟨n2, hn2⟩ : ∃ n2, n2 = (xs ++ enc (zz oc)).length := ⟨_, rfl⟩; rw [← hn2] at hu2; clear hn2; subst hu2; have HR2 := hid hr2; obtain ⟨p0, p1, ⟨s0, s1, s2, s3, s4⟩, ⟨o0, o1, o2, o3, o4⟩, pP, pG, pS, pK⟩ := NX.out w1 w2 a2 n2 c2 HB1.out hg2; have PP := hid pP; have PG := hid pG; have PK := hid pK; clear hr2 hg2 pP pG pK y0 y1 y2 y3 y4 y5))
    | (gi_at_call 17; (refine (KF.out _).mono ?_; rintro e w3 ⟨rfl, rfl⟩; clear s0 s1 s2 s3 s4 o0 o1 o2 o3 o4 p0 p1)))
  have zs : (w2.setCell ⟨w.heap.size, 0, none⟩ (.slice a2 n2 c2)).heap.size = w2.heap.size := by simp
  obtain ⟨V0, hV0⟩ : ∃ V0, V0 = w2.setCell ⟨w.heap.size, 0, none⟩ (.slice a2 n2 c2) := ⟨_, rfl⟩
  rw [← hV0] at zs PP
  obtain ⟨V, hV⟩ : ∃ V, V = (V0.alloc (.cells #[.string nm, .int .u8 sd, .int .u8 sa, .int .u8 sb, .int .u8 sk] 63)).alloc (.cells #[.int .i64 oc, .int .i64 od, .int .i64 oaa, .int .i64 ob, .int .i64 ok] 23) := ⟨_, rfl⟩
  rw [← hV0, ← hV]
  have bV : Below V0.heap.size V0 V := by rw [hV]; exact ((Below.refl _ _).alloc (Nat.le_refl _) _).alloc (by simp) _
  have ms : V.heap[w2.heap.size]? = some (.cells #[.string nm, .int .u8 sd, .int .u8 sa, .int .u8 sb, .int .u8 sk] 63 (0, 0)) := by
    rw [hV, Below.heap_alloc _ _ _ (by simp; omega), ← zs]; exact heap_alloc_new V0 _
  have mo : V.heap[w2.heap.size + 1]? = some (.cells #[.int .i64 oc, .int .i64 od, .int .i64 oaa, .int .i64 ob, .int .i64 ok] 23 (0, 0)) := by
    have := heap_alloc_new (V0.alloc (.cells #[.string nm, .int .u8 sd, .int .u8 sa, .int .u8 sb, .int .u8 sk] 63)) (.cells #[.int .i64 oc, .int .i64 od, .int .i64 oaa, .int .i64 ob, .int .i64 ok] 23)
    rw [World.size_alloc, zs] at this; rw [hV]; exact this
  have mP := (bV.block _ (lt_of_heap PP.out)).trans PP.out
  have zV : w2.heap.size + 1 < V.heap.size := lt_of_heap mo
  have gV : Grw w (.slice va vn vc) V (.slice a2 n2 c2) := (by rw [hV0]; exact PG.out.setFar (Nat.le_refl _) 0 _ : Grw w (.slice va vn vc) V0 (.slice a2 n2 c2)).trans (Grw.ofBelow _ bV)
  have rV : Row V B (.slice a2 n2 c2) (xs ++ enc (zz oc)) := (HR2.out.same fun g e => by
    rw [hV0, Below.heap_setCell _ ⟨w.heap.size, 0, none⟩ _ _ (show g ≠ w.heap.size from fun e2 => by
      have h1 := OWN.out a2 n2 c2 w2 PG.out HR2.out PK.out
      rw [← e2] at h1; exact h1 e.symm)] : Row V0 B (.slice a2 n2 c2) (xs ++ enc (zz oc))).below (Nat.le_refl _) bV
  have hseq := SQ.out V w2.heap.size ms mo
  have hwV : w.heap.size ≤ V.heap.size := by omega
  have hBV : B ≤ V.heap.size := Nat.le_trans hB hwV
  clear hA1 hW0 hV hV0 zs bV KS KF SQ G1 YC KA NX HB1 HR2 PP PG OWN PK
  refine range_go2 hro (by omega) (gf := 51) (lb := #[.pointer (some ⟨w2.heap.size, 0, none⟩), .pointer (some ⟨w2.heap.size + 1, 0, none⟩)]) rfl trivial (enters_of Tryz.func51 (by kernel_rfl) rfl) (enc1 := fun x => .int .u8 (fl ⟨nm, sd, sa, sb, sk⟩ ⟨oc, od, oaa, ob, ok⟩ x).1) (enc2 := fun x => .int .i64 (fl ⟨nm, sd, sa, sb, sk⟩ ⟨oc, od, oaa, ob, ok⟩ x).2) hseq K2_r K2_t (K2_b (by omega)) (OI w V B w.heap.size w2.heap.size (.slice va vn vc) #[.string nm, .int .u8 sd, .int .u8 sa, .int .u8 sb, .int .u8 sk] #[.int .i64 oc, .int .i64 od, .int .i64 oaa, .int .i64 ob, .int .i64 ok] (xs ++ enc (zz oc)) ff) (fun _ _ _ => False) (OI_own hwV) (fun c s A A' row hs _ _ => hs) ⟨⟨a2, n2, c2, mP, by simpa using rV, gV⟩, ms, mo⟩ ?round ?done ?stop
  case round =>
    intro ll x W K hK
    have HKK := hid hK
    clear hK
    have HF := hid (FOE.out x)
    have HIx := hid (INF.out x)
    generalize fl ⟨nm, sd, sa, sb, sk⟩ ⟨oc, od, oaa, ob, ok⟩ x = fx at HF HIx ⊢
    obtain ⟨rx, nx⟩ := fx
    simp only [List.setIfInBounds_toArray, List.set_cons_zero, List.set_cons_succ] at HF HIx ⊢
    gi_wp2
    refine HKK.out _ ?_
    clear HKK K W ll hseq
    intro l' pre W' hl hrr hi hlt
    obtain ⟨⟨a, n, c, h1, h2, h3⟩, h4, h5⟩ := hi
    have hMF : (xs ++ enc (zz oc)) ++ ((pre ++ [x]).map ff).flatten = (xs ++ enc (zz oc)) ++ (pre.map ff).flatten ++ ff x := by simp
    by_cases hz : rx = 0
    · have HH1 : Hid (OI w V B w.heap.size w2.heap.size (.slice va vn vc) #[.string nm, .int .u8 sd, .int .u8 sa, .int .u8 sb, .int .u8 sk] #[.int .i64 oc, .int .i64 od, .int .i64 oaa, .int .i64 ob, .int .i64 ok] (xs ++ enc (zz oc)) ff (pre ++ [x]) W') := hid ⟨⟨a, n, c, h1, by rw [hMF, HF.out, if_pos hz, List.append_nil]; exact h2, h3⟩, h4, h5⟩
      subst hz
      clear h1 h2 h3 h4 h5 hrr hMF
      gi_wp2
      exact ⟨KeepsFrom.refl _ _, K2_r _, HH1.out⟩
    · have hle : ((pre.map ff).flatten).length ≤ 10 * pre.length := flat10 FLE.out pre
      have hle2 : (xs ++ enc (zz oc) ++ (pre.map ff).flatten).length ≤ 1000000000 := by
        have h1 := HL.out
        have h2 := enc_zz_le oc INO.out.c
        simp only [List.length_append]; omega
      have hsz : w.heap.size ≤ W'.heap.size := h3.size
      have KX := hid (KN.out W' (.slice a n c) _ nx h2 (Nat.le_trans hB hsz) hle2 HIx.out)
      have c0 := cellOf h1 0
      simp only [List.getElem?_toArray, List.getElem?_cons_zero] at c0
      have hXP : w2.heap.size ≠ w.heap.size := by omega
      have NX : Hid (∀ (w8 : World) (a8 : Option Addr) (n8 c8 : Nat), Row w8 B (.slice a8 n8 c8) (xs ++ enc (zz oc) ++ (pre.map ff).flatten ++ enc (zz nx)) → Grw W' (.slice a n c) w8 (.slice a8 n8 c8) → w8.cell? ⟨w.heap.size, 0, none⟩ = some (.slice a n c) ∧ w8.frozen? ⟨w.heap.size, 0, none⟩ = false ∧ KeepsFrom V.heap.size W' (w8.setCell ⟨w.heap.size, 0, none⟩ (.slice a8 n8 c8)) ∧ K2 w2.heap.size W' (w8.setCell ⟨w.heap.size, 0, none⟩ (.slice a8 n8 c8)) ∧ OI w V B w.heap.size w2.heap.size (.slice va vn vc) #[.string nm, .int .u8 sd, .int .u8 sa, .int .u8 sb, .int .u8 sk] #[.int .i64 oc, .int .i64 od, .int .i64 oaa, .int .i64 ob, .int .i64 ok] (xs ++ enc (zz oc)) ff (pre ++ [x]) (w8.setCell ⟨w.heap.size, 0, none⟩ (.slice a8 n8 c8))) := hid (fun w8 a8 n8 c8 hr8 hg8 => by
        have k1 := (hg8.1.block _ (lt_of_heap h1) (h2.ne h1 (by decide))).trans h1
        have k4 := (hg8.1.block _ (lt_of_heap h4) (h2.ne h4 (by decide))).trans h4
        have k5 := (hg8.1.block _ (lt_of_heap h5) (h2.ne h5 (by decide))).trans h5
        have j4 := (Below.heap_setCell w8 ⟨w.heap.size, 0, none⟩ (.slice a8 n8 c8) _ (show w2.heap.size ≠ w.heap.size from hXP)).trans k4
        have j5 := (Below.heap_setCell w8 ⟨w.heap.size, 0, none⟩ (.slice a8 n8 c8) _ (show w2.heap.size + 1 ≠ w.heap.size by omega)).trans k5
        refine ⟨cellOf k1 0, freeOf k1 0, (grw_keeps h2 hg8).trans ((KeepsOthers.setCell _ _ _).from _), ⟨j4.trans h4.symm, j5.trans h5.symm⟩, ⟨⟨a8, n8, c8, set_cells k1 _, ?_, (h3.trans hg8).setFar (Nat.le_refl _) 0 _⟩, j4, j5⟩⟩
        rw [hMF, HF.out, if_neg hz]
        exact hr8.same fun g e => Below.heap_setCell _ ⟨w.heap.size, 0, none⟩ _ _ (show g ≠ w.heap.size from fun e2 => by
          have h9 := hr8.ne k1 (by decide)
          rw [← e2] at h9; exact h9 e.symm))
      clear h1 h2 h3 h4 h5 hrr hMF hle hle2
      have hzb : (rx != 0) = true := by simp [hz]
      have hzc : (rx == 0) = false := by simp [hz]
      gi_wp2_with (refine ⟨trivial, ?_⟩; gi_at_call 30; (refine (CallsIn.inRound l' (callsIn_wide.2 (Hid.out KX))).mono ?_; rintro e w8 ⟨u8, rfl, hr8, hg8⟩; obtain ⟨a8, c8, hu8, _⟩ := hr8.form; obtain ⟨n8, hn8⟩ : ∃ n8, n8 = (xs ++ enc (zz oc) ++ (pre.map ff).flatten ++ enc (zz nx)).length := ⟨_, rfl⟩; rw [← hn8] at hu8; clear hn8; subst hu8; obtain ⟨p0, p1, p2⟩ := NX.out w8 a8 n8 c8 hr8 hg8; have P2 := hid p2; clear hr8 hg8 p2))
      exact P2.out
  case done =>
    rintro D' ys W hD rfl hI hK
    obtain ⟨⟨a, n, c, h1, h2, h3⟩, h4, h5⟩ := hI
    have c0 := cellOf h1 0
    simp only [List.getElem?_toArray, List.getElem?_cons_zero] at c0
    have HK := hid hK
    have H2 := hid h2
    have H3 := hid h3
    clear hseq hK h1 h2 h3 h4 h5
    gi_wp2
    refine ⟨by simp, .inl ⟨_, _, rfl, run_takeDeferred HK.out, ?_⟩⟩
    refine ⟨_, by simp [results, Tryz.results31, go_sem]; rfl, ?_⟩
    have hr : ∀ r, some D' = some r → V.heap.size ≤ r ∧ ∃ o : Obj, W.heap[r]? = some o ∧ o.isCells = false := fun r e => by cases e; exact ⟨hD, _, HK.out, rfl⟩
    exact ⟨_, rfl, by rw [ENC.out]; exact row_keeps H2.out (grownBy_putObj' _ D' (.deferred none)) hr, H3.out.far (grownBy_putObj' _ D' (.deferred none)) (fun r e => by have := (hr r e).1; omega)⟩
  case stop =>
    rintro D' cc pre W hD _ hf
    exact hf.elim
end Go.Proofs.YthnolocldeokeaaGreatDoor

namespace Go.Proofs.YthnolocldeokeaaGreatDoor
open Go.RowKit Go.Deep Go.Shelf
set_option linter.unusedVariables false
set_option linter.unusedSimpArgs false
/- Another row is left as it was, if its elements are of another type. -/
theorem KR.other {E F : TypeId} (hne : E ≠ F) {k q : Nat} {w w' : World} {B C : Nat} {v r : Value} {l m : List (List Value)} (h : KR E k w B v l) (g : KR F q w C r m) (hg : w.grownBy w' r.ownBlock) : KR E k w' B v l := h.keep fun b e => by
  rcases h.1.2 with ⟨rfl, _⟩ | ⟨b', cap, cur, rfl, h3, h4, _⟩
  · cases e
  · cases e
    refine hg.block b' (lt_of_heap h4) fun e2 => ?_
    rcases g.1.2 with ⟨rfl, _⟩ | ⟨c', cap', cur', rfl, g3, g4, _⟩
    · cases e2
    · cases e2
      rw [h4] at g4
      cases g4
      exact hne rfl
/- A signature laid anew. -/
structure GNew (w : World) (B : Nat) (p : GH × Sg) : Prop where
  nm : p.1.name = p.2.name
  ns : p.1.name.size ≤ 1000000
  pr : KR 32 2 w B (.slice p.1.pa p.1.pn p.1.pc) (p.2.params.map tyc)
  rs : (p.1.k, p.1.r) = p.2.res
theorem GNew.rd {w : World} {B : Nat} {p : GH × Sg} (h : GNew w B p) (hl : p.2.params.length ≤ 1000000) : SgRd w p.1 p.2 := by
  obtain ⟨⟨nm, pa, pn, pc, kd, rr⟩, s⟩ := p
  obtain ⟨a, cap, e, hc, hr, _, _⟩ := h.pr.rd
  have h2 := h.ns
  have h3 := h.nm
  have h4 := h.rs
  simp only at h2 h3 h4 hl e
  rw [List.length_map] at e
  cases e
  exact ⟨h3, by show nm.size ≤ _; omega, rfl, by show s.params.length ≤ _; omega, CRd.trd hr, h4⟩
theorem GNew.below {w w' : World} {B C : Nat} {p : GH × Sg} (h : GNew w B p) (hC : w.heap.size ≤ C) (q : Below C w w') : GNew w' B p := ⟨h.nm, h.ns, h.pr.below hC q, h.rs⟩
theorem GNew.other {F : TypeId} (hne : 32 ≠ F) {q : Nat} {w w' : World} {B C : Nat} {r : Value} {m : List (List Value)} {p : GH × Sg} (h : GNew w B p) (g : KR F q w C r m) (hg : w.grownBy w' r.ownBlock) : GNew w' B p := ⟨h.nm, h.ns, h.pr.other hne g hg, h.rs⟩
theorem rk_gh (g : GH) : Rk 4 [g.cs] := ⟨fun r hr => by simp at hr; subst hr; rfl, fun r hr u hu => by
  simp at hr; subst hr
  simp [GH.cs] at hu
  rcases hu with rfl | rfl | rfl | rfl <;> rfl⟩
/- What newSigs answers. -/
def SgsN (w : World) (B : Nat) (v : Value) (ss : List Sg) : Prop := ∃ gs : List (GH × Sg), gs.map (·.2) = ss ∧ KR 35 4 w B v (gs.map fun p => p.1.cs) ∧ ∀ p ∈ gs, GNew w B p
end Go.Proofs.YthnolocldeokeaaGreatDoor

namespace Go.Proofs.YthnolocldeokeaaGreatDoor
open Go.RowKit Go.Deep Go.Shelf
set_option linter.unusedVariables false
set_option linter.unusedSimpArgs false
set_option maxRecDepth 100000 in
set_option maxHeartbeats 1000000 in
theorem sameTypes_yes (w : World) (a b : Option Addr) (n c1 c2 : Nat) (ts : List TyP) (hn : n = ts.length) (hnb : n ≤ 9223372036854775807) (h1 : TRd w a ts) (h2 : TRd w b ts) :
    Calls Tryz.prog 68 #[.slice a n c1, .slice b n c2] w fun e w' => e = .returned (.bool true) ∧ Below w.heap.size w w' := by
  have hnI : (n : Int) ≤ 9223372036854775807 := by omega
  have HN := hid hn
  have H1 := hid h1
  have H2 := hid h2
  have nb : ((n : Int) != (n : Int)) = false := by simp
  clear hn h1 h2
  go_enter Tryz.func68, Tryz.ntmps68
  go_wp2
  go_loopg [5] n (fun g x wr => ∃ j : Nat, j + g = n ∧ x = .int .i64 (j : Int) ∧ Below w.heap.size w wr)
  case atStart => exact ⟨0, by omega, rfl, Below.refl _ _⟩
  case round =>
    obtain ⟨j, hj, rfl, hb⟩ := hrel
    cases gk with
    | zero =>
      have hjn : j = n := by omega
      subst hjn
      have HB := hid hb
      clear hb
      go_wp2
      go_ret
      exact ⟨rfl, HB.out⟩
    | succ g =>
      obtain ⟨t, ht⟩ : ∃ t, ts[j]? = some t := ⟨ts[j]'(by have := HN.out; omega), List.getElem?_eq_getElem _⟩
      obtain ⟨b1, o1, rfl, x0, x1⟩ := (H1.out.below (Nat.le_refl _) hb) j t ht
      obtain ⟨b2, o2, rfl, y0, y1⟩ := (H2.out.below (Nat.le_refl _) hb) j t ht
      obtain ⟨tk, tr⟩ := t
      simp only at x0 x1 y0 y1
      have hjI : (j : Int) < (n : Int) := by omega
      have hj0 : (0 : Int) ≤ (j : Int) := by omega
      have HB := hid hb
      clear hb ht
      go_wp2
      go_quiet (fail)
      go_wp2
      go_roundg g
      case measure => omega
      exact ⟨j + 1, by omega, by go_num, bel_dN HB.out _⟩
set_option maxRecDepth 100000 in
set_option maxHeartbeats 4000000 in
theorem sameSigs_yes (w : World) (a b : Option Addr) (n c1 c2 : Nat) (g1 g2 : List (GH × Sg)) (d1 : GRd w a n g1) (d2 : GRd w b n g2) (he : g1.map (·.2) = g2.map (·.2)) :
    Calls Tryz.prog 67 #[.slice a n c1, .slice b n c2] w fun e w' => e = .returned (.bool true) ∧ Below w.heap.size w w' := by
  have hnI : (n : Int) ≤ 9223372036854775807 := by have := d1.n2; omega
  have D1 := hid d1
  have D2 := hid d2
  have HE := hid he
  have nb : ((n : Int) != (n : Int)) = false := by simp
  clear d1 d2 he
  go_enter Tryz.func67, Tryz.ntmps67
  go_wp2
  go_loopg [5] n (fun g x wr => ∃ j : Nat, j + g = n ∧ x = .int .i64 (j : Int) ∧ Below w.heap.size w wr)
  case atStart => exact ⟨0, by omega, rfl, Below.refl _ _⟩
  case round =>
    obtain ⟨j, hj, rfl, hb⟩ := hrel
    cases gk with
    | zero =>
      have hjn : j = n := by omega
      subst hjn
      have HB := hid hb
      clear hb
      go_wp2
      go_ret
      exact ⟨rfl, HB.out⟩
    | succ g =>
      have dA := D1.out.below (Nat.le_refl _) hb
      have dB := D2.out.below (Nat.le_refl _) hb
      have l1 : j < g1.length := by rw [← dA.n1]; omega
      have l2 : j < g2.length := by rw [← dB.n1]; omega
      have e1 : g1[j]? = some g1[j] := List.getElem?_eq_getElem l1
      have e2 : g2[j]? = some g2[j] := List.getElem?_eq_getElem l2
      have hss : (g1[j]).2 = (g2[j]).2 := by
        have h1 : (g1.map (·.2))[j]? = some (g1[j]).2 := by rw [List.getElem?_map, e1]; rfl
        have h2 : (g2.map (·.2))[j]? = some (g2[j]).2 := by rw [List.getElem?_map, e2]; rfl
        rw [HE.out, h2] at h1
        exact (Option.some.inj h1).symm
      obtain ⟨b1, o1, rfl, _, hc1⟩ := dA.rd j (g1[j]).1.cs (by simp [e1])
      obtain ⟨b2, o2, rfl, _, hc2⟩ := dB.rd j (g2[j]).1.cs (by simp [e2])
      have s1 := dA.el _ (List.getElem_mem l1)
      have s2 := dB.el _ (List.getElem_mem l2)
      generalize g1[j] = p1 at hss hc1 s1
      generalize g2[j] = p2 at hss hc2 s2
      obtain ⟨⟨nm1, pa1, pn1, pc1, k1, r1⟩, sg1⟩ := p1
      obtain ⟨⟨nm2, pa2, pn2, pc2, k2, r2⟩, sg2⟩ := p2
      simp only at hss
      subst hss
      obtain rfl : nm1 = nm2 := (show nm1 = _ from s1.nm).trans (show nm2 = _ from s2.nm).symm
      obtain rfl : pn1 = pn2 := (show pn1 = _ from s1.pn).trans (show pn2 = _ from s2.pn).symm
      have hres := (show (k1, r1) = _ from s1.rs).trans (show (k2, r2) = _ from s2.rs).symm
      obtain rfl : k1 = k2 := congrArg Prod.fst hres
      obtain rfl : r1 = r2 := congrArg Prod.snd hres
      have x0 := hc1 0 (by omega)
      have x1 := hc1 1 (by omega)
      have x2 := hc1 2 (by omega)
      have x3 := hc1 3 (by omega)
      have y0 := hc2 0 (by omega)
      have y1 := hc2 1 (by omega)
      have y2 := hc2 2 (by omega)
      have y3 := hc2 3 (by omega)
      simp only [GH.cs, List.getElem?_cons_zero, List.getElem?_cons_succ, Nat.add_zero] at x0 x1 x2 x3 y0 y1 y2 y3
      have hjI : (j : Int) < (n : Int) := by omega
      have hj0 : (0 : Int) ≤ (j : Int) := by omega
      have K := hid (sameTypes_yes wr.drew pa1 pa2 pn1 pc1 pc2 sg1.params s1.pn s1.p2 (s1.pr.below (Nat.le_refl _) (Below.refl _ wr).drew) (s2.pr.below (Nat.le_refl _) (Below.refl _ wr).drew))
      have HB := hid hb
      have ST : Hid (∀ v : World, Below wr.heap.size wr v → v.cell? ⟨b1, o1 + j * 4, none⟩ = some (.string nm1) ∧ v.cell? ⟨b1, o1 + j * 4 + 1, none⟩ = some (.slice pa1 pn1 pc1) ∧ v.cell? ⟨b1, o1 + j * 4 + 2, none⟩ = some (.int .i64 k1) ∧ v.cell? ⟨b1, o1 + j * 4 + 3, none⟩ = some (.int .i64 r1) ∧ v.cell? ⟨b2, o2 + j * 4, none⟩ = some (.string nm1) ∧ v.cell? ⟨b2, o2 + j * 4 + 1, none⟩ = some (.slice pa2 pn1 pc2) ∧ v.cell? ⟨b2, o2 + j * 4 + 2, none⟩ = some (.int .i64 k1) ∧ v.cell? ⟨b2, o2 + j * 4 + 3, none⟩ = some (.int .i64 r1)) := hid (fun v hv => by
        have k : ∀ (p : Addr) (x : Value), wr.cell? p = some x → v.cell? p = some x := fun p x h => (hv.cell (p := p) (World.block_lt_of_cell? wr p h)).trans h
        exact ⟨k _ _ x0, k _ _ x1, k _ _ x2, k _ _ x3, k _ _ y0, k _ _ y1, k _ _ y2, k _ _ y3⟩)
      clear hb dA dB l1 l2 e1 e2 hc1 hc2 s1 s2 hres
      go_upto_region 6 with fail
      go_region_held3 (fun v => v.cell? ⟨b1, o1 + j * 4, none⟩ = some (.string nm1) ∧ v.cell? ⟨b1, o1 + j * 4 + 1, none⟩ = some (.slice pa1 pn1 pc1) ∧ v.cell? ⟨b1, o1 + j * 4 + 2, none⟩ = some (.int .i64 k1) ∧ v.cell? ⟨b1, o1 + j * 4 + 3, none⟩ = some (.int .i64 r1) ∧ v.cell? ⟨b2, o2 + j * 4, none⟩ = some (.string nm1) ∧ v.cell? ⟨b2, o2 + j * 4 + 1, none⟩ = some (.slice pa2 pn1 pc2) ∧ v.cell? ⟨b2, o2 + j * 4 + 2, none⟩ = some (.int .i64 k1) ∧ v.cell? ⟨b2, o2 + j * 4 + 3, none⟩ = some (.int .i64 r1)) (first | exact s8 | go_keep) (first
        | (go_at_call 68; (refine (Hid.out K).mono ?_; rintro e w8 ⟨rfl, hb8⟩; have h8 : Below wr.heap.size wr w8 := (Below.refl _ wr).drew.trans hb8; have s8 := ST.out w8 h8)))
      go_wp2
      go_roundg g
      case measure => omega
      exact ⟨j + 1, by omega, by go_num, HB.out.trans (h8.mono HB.out.size)⟩
end Go.Proofs.YthnolocldeokeaaGreatDoor

namespace Go.Proofs.YthnolocldeokeaaGreatDoor
open Go.RowKit Go.Deep Go.Shelf
set_option linter.unusedVariables false
set_option linter.unusedSimpArgs false
set_option maxRecDepth 100000 in
set_option maxHeartbeats 4000000 in
theorem sameFns_yes (w : World) (a b : Option Addr) (n c1 c2 : Nat) (g1 g2 : List (FH × Fx)) (d1 : FRd w a n g1) (d2 : FRd w b n g2) (he : g1.map (·.2) = g2.map (·.2)) :
    Calls Tryz.prog 44 #[.slice a n c1, .slice b n c2] w fun e w' => e = .returned (.bool true) ∧ Below w.heap.size w w' := by
  have hnI : (n : Int) ≤ 9223372036854775807 := by have := d1.n2; omega
  have D1 := hid d1
  have D2 := hid d2
  have HE := hid he
  have nb : ((n : Int) != (n : Int)) = false := by simp
  clear d1 d2 he
  go_enter Tryz.func44, Tryz.ntmps44
  go_wp2
  go_loopg [5] n (fun g x wr => ∃ j : Nat, j + g = n ∧ x = .int .i64 (j : Int) ∧ Below w.heap.size w wr)
  case atStart => exact ⟨0, by omega, rfl, Below.refl _ _⟩
  case round =>
    obtain ⟨j, hj, rfl, hb⟩ := hrel
    cases gk with
    | zero =>
      have hjn : j = n := by omega
      subst hjn
      have HB := hid hb
      clear hb
      go_wp2
      go_ret
      exact ⟨rfl, HB.out⟩
    | succ g =>
      obtain ⟨wo, hwo⟩ : ∃ wo, wo = wr := ⟨_, rfl⟩
      subst hwo
      have dA := D1.out.below (Nat.le_refl _) hb
      have dB := D2.out.below (Nat.le_refl _) hb
      have l1 : j < g1.length := by rw [← dA.n1]; omega
      have l2 : j < g2.length := by rw [← dB.n1]; omega
      have e1 : g1[j]? = some g1[j] := List.getElem?_eq_getElem l1
      have e2 : g2[j]? = some g2[j] := List.getElem?_eq_getElem l2
      have hss : (g1[j]).2 = (g2[j]).2 := by
        have h1 : (g1.map (·.2))[j]? = some (g1[j]).2 := by rw [List.getElem?_map, e1]; rfl
        have h2 : (g2.map (·.2))[j]? = some (g2[j]).2 := by rw [List.getElem?_map, e2]; rfl
        rw [HE.out, h2] at h1
        exact (Option.some.inj h1).symm
      obtain ⟨b1, o1, rfl, _, hc1⟩ := dA.rd j (g1[j]).1.cs (by simp [e1])
      obtain ⟨b2, o2, rfl, _, hc2⟩ := dB.rd j (g2[j]).1.cs (by simp [e2])
      have s1 := dA.el _ (List.getElem_mem l1)
      have s2 := dB.el _ (List.getElem_mem l2)
      generalize g1[j] = p1 at hss hc1 s1
      generalize g2[j] = p2 at hss hc2 s2
      obtain ⟨⟨r1, oa1, on1, oc1⟩, f1⟩ := p1
      obtain ⟨⟨r2, oa2, on2, oc2⟩, f2⟩ := p2
      simp only at hss
      subst hss
      obtain rfl : r1 = r2 := (show r1 = _ from s1.rg).trans (show r2 = _ from s2.rg).symm
      obtain rfl : on1 = on2 := (show on1 = _ from s1.on).trans (show on2 = _ from s2.on).symm
      have x0 := hc1 0 (by omega)
      have x1 := hc1 1 (by omega)
      have y0 := hc2 0 (by omega)
      have y1 := hc2 1 (by omega)
      simp only [FH.cs, List.getElem?_cons_zero, List.getElem?_cons_succ, Nat.add_zero] at x0 x1 y0 y1
      have hjI : (j : Int) < (n : Int) := by omega
      have hj0 : (0 : Int) ≤ (j : Int) := by omega
      have hon2 : (on1 : Int) ≤ 9223372036854775807 := by have : on1 ≤ _ := s1.o2; omega
      have HON : Hid (on1 = f1.ops.length) := hid s1.on
      have R1 : Hid (ORd wo oa1 f1.ops) := hid s1.or
      have R2 : Hid (ORd wo oa2 f1.ops) := hid s2.or
      have nb2 : ((on1 : Int) != (on1 : Int)) = false := by simp
      have nb3 : (r1 != r1) = false := by simp
      have HB := hid hb
      have ST : Hid (∀ v : World, Below wo.heap.size wo v → v.cell? ⟨b1, o1 + j * 2, none⟩ = some (.int .i64 r1) ∧ v.cell? ⟨b1, o1 + j * 2 + 1, none⟩ = some (.slice oa1 on1 oc1) ∧ v.cell? ⟨b2, o2 + j * 2, none⟩ = some (.int .i64 r1) ∧ v.cell? ⟨b2, o2 + j * 2 + 1, none⟩ = some (.slice oa2 on1 oc2)) := hid (fun v hv => by
        have k : ∀ (p : Addr) (x : Value), wo.cell? p = some x → v.cell? p = some x := fun p x h => (hv.cell (p := p) (World.block_lt_of_cell? wo p h)).trans h
        exact ⟨k _ _ x0, k _ _ x1, k _ _ y0, k _ _ y1⟩)
      clear hb dA dB l1 l2 e1 e2 hc1 hc2 s1 s2
      go_upto_region 6 with fail
      go_quiet (fail)
      obtain ⟨A, hA⟩ : ∃ A, A = wo.drewN nq := ⟨_, rfl⟩
      have bA : Below wo.heap.size wo A := by rw [hA]; exact bel_dN (Below.refl _ _) _
      rw [← hA]
      clear hA x0 x1 y0 y1
      obtain ⟨x0, x1, y0, y1⟩ := ST.out A bA
      have BA := hid bA
      clear bA
      go_wp2
      go_loopg [6] on1 (fun g2 x wr2 => ∃ i : Nat, i + g2 = on1 ∧ x = .int .i64 (i : Int) ∧ Below wo.heap.size wo wr2)
      case atStart => exact ⟨0, by omega, rfl, BA.out⟩
      case round =>
        obtain ⟨i, hi, rfl, hb2⟩ := hrel
        clear x0 x1 y0 y1
        obtain ⟨x0, x1, y0, y1⟩ := ST.out wr hb2
        cases gk with
        | zero =>
          have hin : i = on1 := by omega
          subst hin
          have HB2 := hid hb2
          clear hb2
          go_wp2
          go_roundg g
          case measure => omega
          exact ⟨j + 1, by omega, by go_num, HB.out.trans (HB2.out.mono HB.out.size)⟩
        | succ g2 =>
          obtain ⟨o, ho⟩ : ∃ o, f1.ops[i]? = some o := ⟨f1.ops[i]'(by have := HON.out; omega), List.getElem?_eq_getElem _⟩
          obtain ⟨p1, q1, rfl, hcl1⟩ := (R1.out.below hb2) i o ho
          obtain ⟨p2, q2, rfl, hcl2⟩ := (R2.out.below hb2) i o ho
          have hiI : (i : Int) < (on1 : Int) := by omega
          have hi0 : (0 : Int) ≤ (i : Int) := by omega
          obtain ⟨xc, xd, xa, xb, xk⟩ := o
          have i0 := hcl1 0 (by omega)
          have i1 := hcl1 1 (by omega)
          have i2 := hcl1 2 (by omega)
          have i3 := hcl1 3 (by omega)
          have i4 := hcl1 4 (by omega)
          have k0 := hcl2 0 (by omega)
          have k1 := hcl2 1 (by omega)
          have k2 := hcl2 2 (by omega)
          have k3 := hcl2 3 (by omega)
          have k4 := hcl2 4 (by omega)
          simp only [Opx.cs, List.getElem?_toArray, List.getElem?_cons_zero, List.getElem?_cons_succ, Nat.add_zero] at i0 i1 i2 i3 i4 k0 k1 k2 k3 k4
          have HB2 := hid hb2
          clear hb2 hcl1 hcl2 ho
          go_wp2
          go_quiet (fail)
          go_wp2
          go_roundg g2
          case measure => omega
          exact ⟨i + 1, by omega, by go_num, bel_dN HB2.out _⟩
end Go.Proofs.YthnolocldeokeaaGreatDoor

namespace Go.Proofs.YthnolocldeokeaaGreatDoor
open Go.RowKit Go.Deep Go.Shelf
set_option linter.unusedVariables false
set_option linter.unusedSimpArgs false
structure PEq (p q : Pg) : Prop where
  r : p.recs.map (·.2) = q.recs.map (·.2)
  m : p.maps = q.maps
  f : p.funcs.map (·.2) = q.funcs.map (·.2)
  e : p.events.map (·.2) = q.events.map (·.2)
theorem bel_cell {w v : World} (hv : Below w.heap.size w v) {p : Addr} {x : Value} (h : w.cell? p = some x) : v.cell? p = some x := (hv.cell (p := p) (World.block_lt_of_cell? w p h)).trans h
theorem two_al (w : World) (a b : Obj) : ((w.alloc a).alloc b).drew.heap[w.heap.size]? = some a ∧ ((w.alloc a).alloc b).drew.heap[w.heap.size + 1]? = some b ∧ Below w.heap.size w ((w.alloc a).alloc b).drew := by
  refine ⟨(Below.heap_alloc _ _ _ (by simp)).trans (heap_alloc_new w _), ?_, (((Below.refl _ w).alloc (Nat.le_refl _) _).alloc (by simp) _).drew⟩
  have := heap_alloc_new (w.alloc a) b
  rw [World.size_alloc] at this; exact this
set_option maxRecDepth 100000 in
set_option maxHeartbeats 8000000 in
theorem sameProgram_yes (w : World) (h k : PH) (p q : Pg) (d1 : PRd w h p) (d2 : PRd w k q) (he : PEq p q) :
    Calls Tryz.prog 43 #[h.v, k.v] w fun e w' => e = .returned (.bool true) ∧ Below w.heap.size w w' := by
  have er : h.rn = k.rn := by rw [d1.r.n1, d2.r.n1]; have := congrArg List.length he.r; rw [List.length_map, List.length_map] at this; exact this
  have em : h.mn = k.mn := by rw [d1.m.n1, d2.m.n1, he.m]
  have ef : h.fn = k.fn := by rw [d1.f.n1, d2.f.n1]; have := congrArg List.length he.f; rw [List.length_map, List.length_map] at this; exact this
  have ee : h.en = k.en := by rw [d1.e.n1, d2.e.n1]; have := congrArg List.length he.e; rw [List.length_map, List.length_map] at this; exact this
  have r1 := d1.r
  have r2 := d2.r
  have m1 := d1.m
  have m2 := d2.m
  have f1 := d1.f
  have f2 := d2.f
  have e1 := d1.e
  have e2 := d2.e
  obtain ⟨ra, rn, rc, ma, mn, mc, fa, fn, fc, ea, en, ec⟩ := h
  obtain ⟨ra2, rn2, rc2, ma2, mn2, mc2, fa2, fn2, fc2, ea2, en2, ec2⟩ := k
  simp only at er em ef ee r1 r2 m1 m2 f1 f2 e1 e2
  subst er em ef ee
  simp only [PH.v]
  obtain ⟨W0, hW0⟩ : ∃ W0, W0 = (w.alloc (.cells #[.slice ra rn rc, .slice ma mn mc, .slice fa fn fc, .slice ea en ec] 40)).alloc (.cells #[.slice ra2 rn rc2, .slice ma2 mn mc2, .slice fa2 fn fc2, .slice ea2 en ec2] 40) := ⟨_, rfl⟩
  have bw : Below w.heap.size w W0 := by rw [hW0]; exact ((Below.refl _ _).alloc (Nat.le_refl _) _).alloc (by simp) _
  have q0 : W0.heap[w.heap.size]? = some (.cells #[.slice ra rn rc, .slice ma mn mc, .slice fa fn fc, .slice ea en ec] 40 (0, 0)) := by rw [hW0]; exact (Below.heap_alloc _ _ _ (by simp)).trans (heap_alloc_new w _)
  have q1 : W0.heap[w.heap.size + 1]? = some (.cells #[.slice ra2 rn rc2, .slice ma2 mn mc2, .slice fa2 fn fc2, .slice ea2 en ec2] 40 (0, 0)) := by
    have := heap_alloc_new (w.alloc (.cells #[.slice ra rn rc, .slice ma mn mc, .slice fa fn fc, .slice ea en ec] 40)) (.cells #[.slice ra2 rn rc2, .slice ma2 mn mc2, .slice fa2 fn fc2, .slice ea2 en ec2] 40)
    rw [World.size_alloc] at this
    rw [hW0]; exact this
  have GT : Hid (∀ V : World, Below W0.heap.size W0 V → ((V.cell? ⟨w.heap.size, 0, none⟩ = some (.slice ra rn rc) ∧ V.cell? ⟨w.heap.size, 1, none⟩ = some (.slice ma mn mc) ∧ V.cell? ⟨w.heap.size, 2, none⟩ = some (.slice fa fn fc) ∧ V.cell? ⟨w.heap.size, 3, none⟩ = some (.slice ea en ec)) ∧ V.cell? ⟨w.heap.size + 1, 0, none⟩ = some (.slice ra2 rn rc2) ∧ V.cell? ⟨w.heap.size + 1, 1, none⟩ = some (.slice ma2 mn mc2) ∧ V.cell? ⟨w.heap.size + 1, 2, none⟩ = some (.slice fa2 fn fc2) ∧ V.cell? ⟨w.heap.size + 1, 3, none⟩ = some (.slice ea2 en ec2)) ∧ Below w.heap.size w V) := hid (fun V hV => by
    have g0 := (hV.block _ (lt_of_heap q0)).trans q0
    have g1 := (hV.block _ (lt_of_heap q1)).trans q1
    exact ⟨⟨⟨cellOf g0 0, cellOf g0 1, cellOf g0 2, cellOf g0 3⟩, cellOf g1 0, cellOf g1 1, cellOf g1 2, cellOf g1 3⟩, bw.trans (hV.mono bw.size)⟩)
  have KF := hid (fun (V : World) (hV : Below w.heap.size w V) => sameSigs_yes V fa fa2 fn fc fc2 p.funcs q.funcs (f1.below (Nat.le_refl _) hV) (f2.below (Nat.le_refl _) hV) he.f)
  have KE := hid (fun (V : World) (hV : Below w.heap.size w V) => sameSigs_yes V ea ea2 en ec ec2 p.events q.events (e1.below (Nat.le_refl _) hV) (e2.below (Nat.le_refl _) hV) he.e)
  have R1 := hid r1
  have R2 := hid r2
  have M1 := hid m1
  have M2 := hid m2
  have HER := hid he.r
  have HEM := hid he.m
  have rnI : (rn : Int) ≤ 9223372036854775807 := by have := r1.n2; omega
  have mnI : (mn : Int) ≤ 9223372036854775807 := by have := m1.n2; omega
  have fnI : (fn : Int) ≤ 9223372036854775807 := by have := f1.n2; omega
  have enI : (en : Int) ≤ 9223372036854775807 := by have := e1.n2; omega
  have nb1 : ((rn : Int) != (rn : Int)) = false := by simp
  have nb2 : ((mn : Int) != (mn : Int)) = false := by simp
  have TR : Hid (∀ {x y : World}, Below W0.heap.size W0 x → Below x.heap.size x y → Below W0.heap.size W0 y) := hid (fun h1 h2 => h1.trans (h2.mono h1.size))
  obtain ⟨⟨⟨c0, c1, c2, c3⟩, d0, d1', d2', d3⟩, _⟩ := GT.out W0 (Below.refl _ _)
  clear d1 d2 he r1 r2 m1 m2 f1 f2 e1 e2 q0 q1
  have KF0 := hid (KF.out W0 bw)
  clear bw KF
  go_enter Tryz.func43, Tryz.ntmps43
  go_upto_region 1 with fail
  rw [← hW0]
  clear hW0
  go_upto_region 3 with (first
    | (have hno := hfirst; (go_at_call 67; (refine (KE.out w1 (GT.out w1 hb1).2).mono ?_; rintro e w2 ⟨rfl, hb2⟩; have HB2 := hid (TR.out hb1 hb2); clear c0 c1 c2 c3 d0 d1' d2' d3; obtain ⟨⟨⟨c0, c1, c2, c3⟩, d0, d1', d2', d3⟩, _⟩ := GT.out w2 HB2.out)))
    | (go_at_call 67; (refine (Hid.out KF0).mono ?_; rintro e w1 ⟨rfl, hb1⟩; clear c0 c1 c2 c3 d0 d1' d2' d3; obtain ⟨⟨⟨c0, c1, c2, c3⟩, d0, d1', d2', d3⟩, _⟩ := GT.out w1 hb1; have hfirst : True := trivial)))
  clear hb1 hb2 hfirst KF0 KE
  go_wp2
  go_loopg [5] rn (fun g x wr => ∃ j : Nat, j + g = rn ∧ x = .int .i64 (j : Int) ∧ Below W0.heap.size W0 wr)
  case atStart => exact ⟨0, by omega, rfl, HB2.out⟩
  case round =>
    obtain ⟨j, hj, rfl, hb⟩ := hrel
    clear c0 c1 c2 c3 d0 d1' d2' d3
    obtain ⟨⟨⟨c0, c1, c2, c3⟩, d0, d1', d2', d3⟩, gb⟩ := GT.out wr hb
    cases gk with
    | zero =>
      have hjn : j = rn := by omega
      subst hjn
      have HB := hid hb
      clear hb gb
      go_wp2
      go_loopg [9] mn (fun g2 x wr2 => ∃ i : Nat, i + g2 = mn ∧ x = .int .i64 (i : Int) ∧ Below W0.heap.size W0 wr2)
      case atStart => exact ⟨0, by omega, rfl, HB.out⟩
      case round =>
        obtain ⟨i, hi, rfl, hb⟩ := hrel
        clear c0 c1 c2 c3 d0 d1' d2' d3
        obtain ⟨⟨⟨c0, c1, c2, c3⟩, d0, d1', d2', d3⟩, gb⟩ := GT.out wr hb
        cases gk with
        | zero =>
          have hin : i = mn := by omega
          subst hin
          have GB := hid gb
          clear gb hb
          go_wp2
          go_ret
          exact ⟨rfl, GB.out⟩
        | succ g2 =>
          have mA := M1.out.below (Nat.le_refl _) gb
          have mB := M2.out.below (Nat.le_refl _) gb
          have l1 : i < p.maps.length := by rw [← mA.n1]; omega
          have e1 : p.maps[i]? = some p.maps[i] := List.getElem?_eq_getElem l1
          have e2 : q.maps[i]? = some p.maps[i] := by rw [← HEM.out]; exact e1
          obtain ⟨b1, o1, rfl, _, hc1⟩ := mA.rd i (p.maps[i]).cs (by simp [e1])
          obtain ⟨b2, o2, rfl, _, hc2⟩ := mB.rd i (p.maps[i]).cs (by rw [List.getElem?_map, e2]; rfl)
          generalize p.maps[i] = mm at hc1 hc2
          obtain ⟨nm, ⟨k1, k2⟩, ⟨v1, v2⟩⟩ := mm
          have x0 := hc1 0 (by omega)
          have x1 := hc1 1 (by omega)
          have x2 := hc1 2 (by omega)
          have x3 := hc1 3 (by omega)
          have x4 := hc1 4 (by omega)
          have y0 := hc2 0 (by omega)
          have y1 := hc2 1 (by omega)
          have y2 := hc2 2 (by omega)
          have y3 := hc2 3 (by omega)
          have y4 := hc2 4 (by omega)
          simp only [Mp.cs, List.getElem?_cons_zero, List.getElem?_cons_succ, Nat.add_zero] at x0 x1 x2 x3 x4 y0 y1 y2 y3 y4
          have hiI : (i : Int) < (mn : Int) := by omega
          have hi0 : (0 : Int) ≤ (i : Int) := by omega
          have HB := hid hb
          clear hb gb mA mB l1 e1 e2 hc1 hc2
          go_wp2
          go_quiet (fail)
          go_wp2
          go_roundg g2
          case measure => omega
          exact ⟨i + 1, by omega, by go_num, bel_dN HB.out _⟩
    | succ g =>
      have rA := R1.out.below (Nat.le_refl _) gb
      have rB := R2.out.below (Nat.le_refl _) gb
      have l1 : j < p.recs.length := by rw [← rA.n1]; omega
      have l2 : j < q.recs.length := by rw [← rB.n1]; omega
      have e1 : p.recs[j]? = some p.recs[j] := List.getElem?_eq_getElem l1
      have e2 : q.recs[j]? = some q.recs[j] := List.getElem?_eq_getElem l2
      have hss : (p.recs[j]).2 = (q.recs[j]).2 := by
        have h1 : (p.recs.map (·.2))[j]? = some (p.recs[j]).2 := by rw [List.getElem?_map, e1]; rfl
        have h2 : (q.recs.map (·.2))[j]? = some (q.recs[j]).2 := by rw [List.getElem?_map, e2]; rfl
        rw [HER.out, h2] at h1
        exact (Option.some.inj h1).symm
      obtain ⟨b1, o1, rfl, _, hc1⟩ := rA.rd j (p.recs[j]).1.cs (by simp [e1])
      obtain ⟨b2, o2, rfl, _, hc2⟩ := rB.rd j (q.recs[j]).1.cs (by simp [e2])
      have s1 := rA.el _ (List.getElem_mem l1)
      have s2 := rB.el _ (List.getElem_mem l2)
      generalize p.recs[j] = p1 at hss hc1 s1
      generalize q.recs[j] = p2 at hss hc2 s2
      obtain ⟨⟨nm1, xa1, xn1, xc1, ya1, yn1, yc1⟩, rx1⟩ := p1
      obtain ⟨⟨nm2, xa2, xn2, xc2, ya2, yn2, yc2⟩, rx2⟩ := p2
      simp only at hss
      subst hss
      obtain rfl : nm1 = nm2 := (show nm1 = _ from s1.nm).trans (show nm2 = _ from s2.nm).symm
      obtain rfl : xn1 = xn2 := (show xn1 = _ from s1.fn).trans (show xn2 = _ from s2.fn).symm
      obtain rfl : yn1 = yn2 := (show yn1 = _ from s1.tn).trans (show yn2 = _ from s2.tn).symm
      have x0 := hc1 0 (by omega)
      have x1 := hc1 1 (by omega)
      have x2 := hc1 2 (by omega)
      have y0 := hc2 0 (by omega)
      have y1 := hc2 1 (by omega)
      have y2 := hc2 2 (by omega)
      simp only [RH.cs, List.getElem?_cons_zero, List.getElem?_cons_succ, Nat.add_zero] at x0 x1 x2 y0 y1 y2
      have hjI : (j : Int) < (rn : Int) := by omega
      have hj0 : (0 : Int) ≤ (j : Int) := by omega
      have S1 := hid s1
      have S2 := hid s2
      have HB := hid hb
      have GB := hid gb
      obtain ⟨wo, hwo⟩ : ∃ wo, wo = wr := ⟨_, rfl⟩
      subst hwo
      clear hb gb rA rB l1 l2 e1 e2 hc1 hc2 s1 s2
      go_upto_region 6 with fail
      go_cut [6, 7] from 49 to 58 (fun s6 s7 wx => ∃ X Y : Nat, s6 = .pointer (some ⟨X, 0, none⟩) ∧ s7 = .pointer (some ⟨Y, 0, none⟩) ∧ wx.heap[X]? = some (.cells #[.string nm1, .slice xa1 xn1 xc1, .slice ya1 yn1 yc1] 75 (0, 0)) ∧ wx.heap[Y]? = some (.cells #[.string nm1, .slice xa2 xn1 xc2, .slice ya2 yn1 yc2] 75 (0, 0)) ∧ Below wo.heap.size wo wx)
      case first =>
        go_region_held3 (fun v => v.cell? ⟨w.heap.size, 0, none⟩ = some (.slice (some ⟨b1, o1, none⟩) rn rc) ∧ v.cell? ⟨w.heap.size + 1, 0, none⟩ = some (.slice (some ⟨b2, o2, none⟩) rn rc2) ∧ v.cell? ⟨b1, o1 + j * 3, none⟩ = some (.string nm1) ∧ v.cell? ⟨b1, o1 + j * 3 + 1, none⟩ = some (.slice xa1 xn1 xc1) ∧ v.cell? ⟨b1, o1 + j * 3 + 2, none⟩ = some (.slice ya1 yn1 yc1) ∧ v.cell? ⟨b2, o2 + j * 3, none⟩ = some (.string nm1) ∧ v.cell? ⟨b2, o2 + j * 3 + 1, none⟩ = some (.slice xa2 xn1 xc2) ∧ v.cell? ⟨b2, o2 + j * 3 + 2, none⟩ = some (.slice ya2 yn1 yc2)) (first | go_keep) (fail)
        all_goals (go_wp2_with fail)
        all_goals go_meet
        · exact ⟨_, _, rfl, rfl, (two_al _ _ _).1, (two_al _ _ _).2.1, (two_al _ _ _).2.2⟩
        · exact ⟨_, _, rfl, rfl, (two_al _ _ _).2.1, (two_al _ _ _).1, (two_al _ _ _).2.2⟩
      case rest =>
        obtain ⟨X, Y, rfl, rfl, mX, mY, bx⟩ := hcut
        have BX := hid (HB.out.trans (bx.mono HB.out.size))
        have gwc := GB.out.trans (bx.mono GB.out.size)
        have CB := hid (fun (V : World) (hV : Below wc.heap.size wc V) => (by
          have g1 := (hV.block _ (lt_of_heap mX)).trans mX
          have g2 := (hV.block _ (lt_of_heap mY)).trans mY
          exact ⟨⟨cellOf g1 0, cellOf g1 1, cellOf g1 2⟩, cellOf g2 0, cellOf g2 1, cellOf g2 2⟩ : (V.cell? ⟨X, 0, none⟩ = some (.string nm1) ∧ V.cell? ⟨X, 1, none⟩ = some (.slice xa1 xn1 xc1) ∧ V.cell? ⟨X, 2, none⟩ = some (.slice ya1 yn1 yc1)) ∧ V.cell? ⟨Y, 0, none⟩ = some (.string nm1) ∧ V.cell? ⟨Y, 1, none⟩ = some (.slice xa2 xn1 xc2) ∧ V.cell? ⟨Y, 2, none⟩ = some (.slice ya2 yn1 yc2)))
        have T1 := S1.out.below (Nat.le_refl _) bx
        have T2 := S2.out.below (Nat.le_refl _) bx
        have K := hid (sameTypes_yes wc ya1 ya2 yn1 yc1 yc2 rx1.types T1.tn T1.t2 T1.tr T2.tr)
        have xnI : (xn1 : Int) ≤ 9223372036854775807 := by have : xn1 ≤ _ := T1.f2; omega
        have HXN : Hid (xn1 = rx1.fields.length) := hid T1.fn
        have F1 := hid T1.fr
        have F2 := hid T2.fr
        have nbx : ((xn1 : Int) != (xn1 : Int)) = false := by simp
        clear x0 x1 x2 y0 y1 y2 mX mY T1 T2
        obtain ⟨⟨x0, x1, x2⟩, y0, y1, y2⟩ := CB.out wc (Below.refl _ _)
        go_upto_region 9 with (go_at_call 68; (refine (Hid.out K).mono ?_; rintro e w2 ⟨rfl, hb2⟩; have HC := hid hb2; clear x0 x1 x2 y0 y1 y2 hb2))
        obtain ⟨⟨x0, x1, x2⟩, y0, y1, y2⟩ := CB.out w2 HC.out
        go_wp2
        go_loopg [8] xn1 (fun g2 x wr2 => ∃ i : Nat, i + g2 = xn1 ∧ x = .int .i64 (i : Int) ∧ Below wc.heap.size wc wr2)
        case atStart => exact ⟨0, by omega, rfl, HC.out⟩
        case round =>
          obtain ⟨i, hi, rfl, hb3⟩ := hrel
          clear x0 x1 x2 y0 y1 y2
          obtain ⟨⟨x0, x1, x2⟩, y0, y1, y2⟩ := CB.out wr hb3
          cases gk with
          | zero =>
            have hin : i = xn1 := by omega
            subst hin
            have H3 := hid hb3
            clear hb3
            go_wp2
            go_roundg g
            case measure => omega
            exact ⟨j + 1, by omega, by go_num, BX.out.trans (H3.out.mono BX.out.size)⟩
          | succ g2 =>
            obtain ⟨s, hs⟩ : ∃ s, rx1.fields[i]? = some s := ⟨rx1.fields[i]'(by have := HXN.out; omega), List.getElem?_eq_getElem _⟩
            obtain ⟨_, p1, u1, rfl, z1⟩ := (F1.out.below (Nat.le_refl _) hb3) i s hs
            obtain ⟨_, p2, u2, rfl, z2⟩ := (F2.out.below (Nat.le_refl _) hb3) i s hs
            have hiI : (i : Int) < (xn1 : Int) := by omega
            have hi0 : (0 : Int) ≤ (i : Int) := by omega
            have H3 := hid hb3
            clear hb3 hs
            go_wp2
            go_quiet (fail)
            go_wp2
            go_roundg g2
            case measure => omega
            exact ⟨i + 1, by omega, by go_num, bel_dN H3.out _⟩
end Go.Proofs.YthnolocldeokeaaGreatDoor

