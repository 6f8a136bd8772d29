/- Zero. -/
import Derived.Test.YtnmbifoinponeaaGreatDoorO2
namespace Go.Proofs.YtnmbifoinponeaaGreatDoor
open Go.RowKit Go.Deep Go.Shelf
set_option linter.unusedVariables false
set_option linter.unusedSimpArgs false
attribute [local go_sem] Oper.semAt_some

def zsOf (p : Pg) (r : Int) : List Hd := ((p.recs[r.toNat]?).map fun x => (List.finRange x.2.fields.length).map fun i => zH (x.2.types.getD i.val (0, 0))).getD []
def ZeroIs (p : Pg) (t : TyP) (h : Hd) (zs : List Hd) : Prop :=
  if t.1 = 4 ∧ typB p.rn t = true then h.kind = 4 ∧ h.int = 0 ∧ h.text = ⟨#[]⟩ ∧ h.rc = t.2 ∧ zs = zsOf p t.2 else h = zH t ∧ zs = []
theorem zH_n (t : TyP) : (zH t).n = 0 := by unfold zH; split <;> rfl
theorem VRow.keep {W W' : World} {B C : Nat} {v : Value} {hs : List Hd} {row : Option Nat} (h : VRow W B v hs) (hg : W.grownBy W' row) (hr : ∀ r, row = some r → C ≤ r ∧ ∃ o : Obj, W.heap[r]? = some o ∧ o.isCells = false) : VRow W' B v hs := by
  refine ⟨h.1, ?_⟩
  rcases h.2 with hn | ⟨g, cap, cur, rfl, hb, hgg, rest⟩
  · exact .inl hn
  · exact .inr ⟨g, cap, cur, rfl, hb, keep_cells hgg hg hr, rest⟩
theorem VRow.ty {W : World} {B : Nat} {v : Value} {hs : List Hd} (h : VRow W B v hs) {g : Nat} (hg : v.ownBlock = some g) : ∃ cur, W.heap[g]? = some (.cells cur 31 (0, 0)) := by
  rcases h.2 with ⟨rfl, _⟩ | ⟨g', cap, cur, rfl, hb, hgg, rest⟩
  · cases hg
  · cases hg; exact ⟨cur, hgg⟩

def ZI (w : World) (Z M : Nat) (rv : Value) (ts : List TyP) {m : Nat} (pre : List (Fin m)) (W : World) : Prop :=
  W.heap[w.heap.size + 1 + 1]? = some (.cells #[.int .i64 0, .int .i64 0, .string ⟨#[]⟩, .int .i64 0, .slice none 0 0] 31 (0, 0)) ∧ (∃ fa fn fc, W.heap[Z]? = some (.cells #[.int .i64 4, .int .i64 0, .string ⟨#[]⟩, rv, .slice fa fn fc] 31 (0, 0)) ∧ VRow W M (.slice fa fn fc) (pre.map fun i => zH (ts.getD i.val (0, 0)))) ∧ Below w.heap.size w W ∧ M ≤ W.heap.size
theorem ZI_own (w : World) (Z M : Nat) (rv : Value) (ts : List TyP) {m : Nat} {B : Nat} (hB : w.heap.size ≤ B) : OwnFrom B (ZI w Z M rv ts (m := m)) := fun s A A' row hs hg hr => by
  obtain ⟨h1, ⟨fa, fn, fc, h2, h3⟩, h4, h5⟩ := hs
  exact ⟨keep_cells h1 hg hr, ⟨fa, fn, fc, keep_cells h2 hg hr, h3.keep hg hr⟩, ownFrom_below (β := Unit) (Nat.le_refl _) hB () A A' row h4 hg hr, Nat.le_trans h5 hg.size⟩

set_option maxRecDepth 100000 in
set_option maxHeartbeats 2000000 in
theorem zero_any (w : World) (g : PH) (p : Pg) (d : PRd w g p) (hfl : ∀ x ∈ p.recs, x.2.fields.length ≤ 12) (k r : Int) :
    Calls Tryz.prog 17 #[g.v, ty k r] w fun e w' => ∃ h zs, e = .returned h.v ∧ Below w.heap.size w w' ∧ ZeroIs p (k, r) h zs ∧ VRd w' h.a zs ∧ h.n = zs.length := by
  have K27 := hid (fun w' => isType_any w' g k r d.r.n2)
  have e0 : g.rn = p.rn := d.r.n1
  rw [e0] at K27
  have K31 := hid (fun w' => simpleZero_any w' k r)
  have Dr := hid d.r
  have hrn := d.r.n2
  have Hfl := hid hfl
  clear d hfl
  obtain ⟨ra, rn, rc, ma, mn, mc, fa, fn, fc, ea, en, ec⟩ := g
  simp only at e0 hrn
  have E0 := hid e0
  clear e0
  simp only [PH.v, ty] at K27 K31 ⊢
  obtain ⟨W0, hW0⟩ : ∃ W0, W0 = ((w.alloc (.cells #[.slice ra rn rc, .slice ma mn mc, .slice fa fn fc, .slice ea en ec] 26)).alloc (.cells #[.int .i64 k, .int .i64 r] 28)).alloc (.cells #[.int .i64 0, .int .i64 0, .string ⟨#[]⟩, .int .i64 0, .slice none 0 0] 31) := ⟨_, rfl⟩
  have n1 := heap_alloc_new w (.cells #[.slice ra rn rc, .slice ma mn mc, .slice fa fn fc, .slice ea en ec] 26)
  have n2 := heap_alloc_new (w.alloc (.cells #[.slice ra rn rc, .slice ma mn mc, .slice fa fn fc, .slice ea en ec] 26)) (.cells #[.int .i64 k, .int .i64 r] 28)
  have n3 := heap_alloc_new ((w.alloc (.cells #[.slice ra rn rc, .slice ma mn mc, .slice fa fn fc, .slice ea en ec] 26)).alloc (.cells #[.int .i64 k, .int .i64 r] 28)) (.cells #[.int .i64 0, .int .i64 0, .string ⟨#[]⟩, .int .i64 0, .slice none 0 0] 31)
  simp only [World.size_alloc] at n2 n3
  have pl' : ∀ {w : World} {o x : Obj} {k : Nat}, w.heap[k]? = some x → (w.alloc o).heap[k]? = some x := fun h => (Below.heap_alloc _ _ _ (Array.getElem?_eq_some_iff.1 h).1).trans h
  have b1 : W0.heap[w.heap.size]? = some (.cells #[.slice ra rn rc, .slice ma mn mc, .slice fa fn fc, .slice ea en ec] 26 (0, 0)) := by rw [hW0]; exact pl' (pl' n1)
  have b2 : W0.heap[w.heap.size + 1]? = some (.cells #[.int .i64 k, .int .i64 r] 28 (0, 0)) := by rw [hW0]; exact pl' n2
  have b3 : W0.heap[w.heap.size + 1 + 1]? = some (.cells #[.int .i64 0, .int .i64 0, .string ⟨#[]⟩, .int .i64 0, .slice none 0 0] 31 (0, 0)) := by rw [hW0]; exact n3
  have hb0 : Below w.heap.size w W0 := by rw [hW0]; exact (((Below.refl _ w).alloc (Nat.le_refl _) _).alloc (by simp) _).alloc (by simp; omega) _
  have hz0 : W0.heap.size = w.heap.size + 3 := by rw [hW0]; simp
  clear n1 n2 n3 pl'
  have FX : Hid (∀ w2 : World, Below W0.heap.size W0 w2 → (w2.cell? ⟨w.heap.size, 0, none⟩ = some (.slice ra rn rc) ∧ w2.cell? ⟨w.heap.size, 1, none⟩ = some (.slice ma mn mc) ∧ w2.cell? ⟨w.heap.size, 2, none⟩ = some (.slice fa fn fc) ∧ w2.cell? ⟨w.heap.size, 3, none⟩ = some (.slice ea en ec) ∧ w2.cell? ⟨w.heap.size + 1, 0, none⟩ = some (.int .i64 k) ∧ w2.cell? ⟨w.heap.size + 1, 1, none⟩ = some (.int .i64 r))) := hid (fun w2 hb => by
    have bx := (hb.block _ (Array.getElem?_eq_some_iff.1 b1).1).trans b1
    have by' := (hb.block _ (Array.getElem?_eq_some_iff.1 b2).1).trans b2
    exact ⟨cellOf bx 0, cellOf bx 1, cellOf bx 2, cellOf bx 3, cellOf by' 0, cellOf by' 1⟩)
  have GX : Hid (∀ w2 : World, Below W0.heap.size W0 w2 → w2.heap[w.heap.size + 1 + 1]? = some (.cells #[.int .i64 0, .int .i64 0, .string ⟨#[]⟩, .int .i64 0, .slice none 0 0] 31 (0, 0))) := hid (fun w2 hb => (hb.block _ (Array.getElem?_eq_some_iff.1 b3).1).trans b3)
  have TR : Hid (∀ {x y : World}, Below W0.heap.size W0 x → Below x.heap.size x y → Below W0.heap.size W0 y) := hid (fun h1 h2 => h1.trans (h2.mono h1.size))
  have XB : Hid (∀ w2 : World, Below W0.heap.size W0 w2 → Below w.heap.size w w2) := hid (fun w2 hb => hb0.trans (hb.mono hb0.size))
  have HR0 := hid (Below.refl W0.heap.size W0)
  clear b1 b2 b3 hb0
  have hro : Fence.wide.round = none := rfl
  refine (callsIn_wide (n := 6)).1 ?_
  refine callsIn_of_wp_marks Tryz.func17 rfl trivial ?_ hro
  simp only [Tryz.ntmps17, List.size_toArray, List.length_cons, List.length_nil, Nat.reduceAdd, Nat.reduceSub, Array.replicate_succ, Array.replicate_zero, List.push_toArray, List.append_toArray, List.nil_append, List.cons_append]
  by_cases h4 : k = 4
  · subst h4
    cases q1 : typB p.rn (4, r) with
    | false =>
      simp only [q1] at K27
      have HZI : Hid (ZeroIs p (4, r) (zH (4, r)) []) := hid (by unfold ZeroIs; rw [if_neg (by rw [q1]; simp)]; exact ⟨rfl, rfl⟩)
      have HZN : Hid ((zH (4, r)).n = 0) := hid (zH_n _)
      generalize zH (4, r) = zz at *
      obtain ⟨zk, zi, zt, zr, za, zn, zp⟩ := zz
      simp only [Hd.v] at K31
      gi_wp2_with (refine ⟨trivial, ?_⟩; first
        | (gi_at_call 44; (refine (callsIn_wide.2 (Hid.out K31 _)).mono ?_; rintro e w7 ⟨rfl, hb7⟩;  have hbB := TR.out (hbA) hb7; have c2 := GX.out _ hbB; have xbB := XB.out _ hbB; have e0 := cellOf c2 0; have e1 := cellOf c2 1; have e2 := cellOf c2 2; have e3 := cellOf c2 3; have e4 := cellOf c2 4; have f0 := freeOf c2 0; have f1 := freeOf c2 1; have f2 := freeOf c2 2; have f3 := freeOf c2 3; have f4 := freeOf c2 4; simp only [List.getElem?_toArray, List.getElem?_cons_zero, List.getElem?_cons_succ] at e0 e1 e2 e3 e4; have HC2 := hid c2; clear c2))
        | (gi_at_call 39; (refine (callsIn_wide.2 (Hid.out K27 _)).mono ?_; rintro e w6 ⟨rfl, hb6⟩; rw [← hW0] at hb6; have hbA := TR.out HR0.out hb6; obtain ⟨z0, z1, z2, z3, z4, z5⟩ := FX.out w6 hbA; have xbA := XB.out _ hbA)))
      have h5 := five_new HC2.out ⟨zk, zi, zt, zr, za, zn, zp⟩
      have hb5 : Below w.heap.size w (five w7 (w.heap.size + 1 + 1) 0 ⟨zk, zi, zt, zr, za, zn, zp⟩) := five_below xbB (by omega) _
      have r0 := cellOf h5 0
      have r1 := cellOf h5 1
      have r2 := cellOf h5 2
      have r3 := cellOf h5 3
      have r4 := cellOf h5 4
      simp only [List.getElem?_toArray, List.getElem?_cons_zero, List.getElem?_cons_succ] at r0 r1 r2 r3 r4
      change bodyPostM _ _ _ _ _ _ _ (five w7 (w.heap.size + 1 + 1) 0 ⟨zk, zi, zt, zr, za, zn, zp⟩)
      generalize five w7 (w.heap.size + 1 + 1) 0 ⟨zk, zi, zt, zr, za, zn, zp⟩ = W5 at *
      exact ⟨_, by simp [results, Tryz.results17, go_sem, r0, r1, r2, r3, r4]; rfl, ⟨zk, zi, zt, zr, za, zn, zp⟩, [], rfl, hb5, HZI.out, fun j h e => by simp at e, HZN.out⟩

    | true =>
      simp only [q1] at K27
      have hr0 : 0 ≤ r ∧ r < (rn : Int) := by
        have h := q1
        rw [← show rn = p.rn from E0.out] at h
        simpa [typB] using h
      obtain ⟨rr, rfl⟩ : ∃ rr : Nat, r = (rr : Int) := ⟨r.toNat, by omega⟩
      have hrr : rr < rn := by omega
      clear hr0
      obtain ⟨pr, hpr⟩ : ∃ pr, p.recs[rr]? = some pr := ⟨p.recs[rr]'(by have h := Dr.out.n1; rw [← show rn = p.recs.length from h]; exact hrr), by rw [List.getElem?_eq_getElem]⟩
      have hm12 := Hfl.out pr (List.mem_of_getElem? hpr)
      have DR := hid (fun (w2 : World) (hb : Below w.heap.size w w2) => Dr.out.below (Nat.le_refl _) hb)
      have el0 := Dr.out.el pr (List.mem_of_getElem? hpr)
      obtain ⟨b1, o1, era, hb1, e1⟩ := Dr.out.rd rr pr.1.cs (by simp [hpr])
      subst era
      have x0 := e1 0 (by omega)
      have x1 := e1 1 (by omega)
      have x2 := e1 2 (by omega)
      have Hp := hid hpr
      have D := hid el0
      have Hfn := hid el0.fn
      have Htn := hid el0.tn
      have f2 := el0.f2
      have t2 := el0.t2
      clear e1 el0 hpr
      obtain ⟨h, rc'⟩ := pr
      obtain ⟨nm, ga, gn, gc, ta, tn, tc⟩ := h
      simp only [RH.cs, List.getElem?_cons_zero, List.getElem?_cons_succ, Nat.add_zero] at x0 x1 x2 f2 t2 hm12
      have hgn : gn ≤ 12 := by rw [show gn = rc'.fields.length from Hfn.out]; exact hm12
      have HV : Hid (zsOf p (rr : Int) = (List.finRange gn).map fun i => zH (rc'.types.getD i.val (0, 0))) := hid (by
        unfold zsOf
        rw [Int.toNat_natCast, Hp.out]
        have e : gn = rc'.fields.length := Hfn.out
        subst e; rfl)
      have CX : Hid (∀ w2 : World, Below w.heap.size w w2 → (w2.cell? ⟨b1, o1 + rr * 3, none⟩ = some (.string nm) ∧ w2.cell? ⟨b1, o1 + rr * 3 + 1, none⟩ = some (.slice ga gn gc) ∧ w2.cell? ⟨b1, o1 + rr * 3 + 2, none⟩ = some (.slice ta tn tc))) := hid (fun w2 hb => ⟨(hb.cell (p := ⟨b1, o1 + rr * 3, none⟩) hb1).trans x0, (hb.cell (p := ⟨b1, o1 + rr * 3 + 1, none⟩) hb1).trans x1, (hb.cell (p := ⟨b1, o1 + rr * 3 + 2, none⟩) hb1).trans x2⟩)
      have H12 := hid hm12
      clear x0 x1 x2 hb1 hm12
      gi_wp2_with (refine ⟨trivial, ?_⟩; first
        | (gi_at_call 42; refine (types_in _ _ trivial hro _ _ _ rfl rfl _).mono ?_; rintro e w9 ⟨rfl, rfl⟩)
        | (gi_at_call 39; (refine (callsIn_wide.2 (Hid.out K27 _)).mono ?_; rintro e w6 ⟨rfl, hb6⟩; rw [← hW0] at hb6; have hbA := TR.out HR0.out hb6; obtain ⟨z0, z1, z2, z3, z4, z5⟩ := FX.out w6 hbA; have xbA := XB.out _ hbA; obtain ⟨y0, y1, y2⟩ := CX.out _ (xbA.alloc xbA.size (.cells #[.int .i64 4, .int .i64 0, .string ⟨#[]⟩, .int .i64 (rr : Int), .slice none 0 0] 31)); have al : ∀ (o : Obj) (p : Addr) (v : Value), w6.cell? p = some v → (w6.alloc o).cell? p = some v := fun o p v h => (World.cell?_of_block (Below.heap_alloc _ _ _ (World.block_lt_of_cell? w6 p h))).trans h; have z0' := fun o => al o _ _ z0; have z5' := fun o => al o _ _ z5; clear al)))
      obtain ⟨W1, hW1⟩ : ∃ W1, W1 = (w6.alloc (.cells #[.int .i64 4, .int .i64 0, .string ⟨#[]⟩, .int .i64 (rr : Int), .slice none 0 0] 31)).alloc (.cells #[.string nm, .slice ga gn gc, .slice ta tn tc] 45) := ⟨_, rfl⟩
      rw [← hW1]
      have hb61 : Below w6.heap.size w6 W1 := by rw [hW1]; exact ((Below.refl _ _).alloc (Nat.le_refl _) _).alloc (by simp) _
      have hz1 : W1.heap.size = w6.heap.size + 2 := by rw [hW1]; simp
      have hbx : W1.heap[w6.heap.size + 1]? = some (.cells #[.string nm, .slice ga gn gc, .slice ta tn tc] 45 (0, 0)) := by
        have := heap_alloc_new (w6.alloc (.cells #[.int .i64 4, .int .i64 0, .string ⟨#[]⟩, .int .i64 (rr : Int), .slice none 0 0] 31)) (.cells #[.string nm, .slice ga gn gc, .slice ta tn tc] 45)
        rw [World.size_alloc] at this
        rw [hW1]; exact this
      have hbz : W1.heap[w6.heap.size]? = some (.cells #[.int .i64 4, .int .i64 0, .string ⟨#[]⟩, .int .i64 (rr : Int), .slice none 0 0] 31 (0, 0)) := by
        rw [hW1]; exact (Below.heap_alloc _ _ _ (by simp)).trans (heap_alloc_new w6 _)
      have hbw1 : Below w.heap.size w W1 := xbA.trans (hb61.mono xbA.size)
      have D1 := hid (D.out.below (Nat.le_refl _) hbw1)
      have hlt1 : rc'.types ≠ [] → ∀ b off, ta = some ⟨b, off, none⟩ → b < w.heap.size := fun hne b off e => by
        obtain ⟨x, hx⟩ : ∃ x, rc'.types[0]? = some x := by
          cases hc : rc'.types with
          | nil => exact absurd hc hne
          | cons y r => exact ⟨y, rfl⟩
        obtain ⟨b', off', e', hc, _⟩ := D.out.tr 0 x hx
        simp only at e'
        rw [e] at e'; cases e'
        exact World.block_lt_of_cell? w _ hc
      have hS6 : w.heap.size + 3 ≤ w6.heap.size := by have := hbA.size; omega
      have hseq := types_stops (fun x : Fin gn => x.val) (fun x => rc'.types.getD x.val (0, 0)) rc'.types (List.finRange gn) 5 (by omega) (w6.heap.size + 1) w.heap.size nm ga ta gn gc tn tc (by simp) (fun k x e => ⟨finr _ _ _ e, by rw [finr _ _ _ e]⟩) Htn.out (by omega) t2 W1 (by omega) hbx D1.out.tr hlt1
      have bB := GX.out _ hbA
      have h70 : ZI w w6.heap.size W1.heap.size (.int .i64 (rr : Int)) rc'.types (m := gn) [] W1 := ⟨(hb61.block _ (Array.getElem?_eq_some_iff.1 bB).1).trans bB, ⟨none, 0, 0, hbz, VRow.nil _ _⟩, hbw1, Nat.le_refl _⟩
      have hC : w.heap.size ≤ W1.heap.size := hbw1.size
      clear hlt1 hW1 hb61 bB hbz
      refine wpIn_rangeFunc_ownH hro (by omega) (gf := 63) (lb := #[.pointer (some ⟨w6.heap.size + 1, 0, none⟩)]) rfl trivial (enters_of Tryz.func63 (by kernel_rfl) rfl) hseq KB_t (KB_b hC (by omega)) (Below.refl _ _) (fun _ => rfl)
        (ZI w w6.heap.size W1.heap.size (.int .i64 (rr : Int)) rc'.types) (fun _ _ _ => False) (ZI_own w _ _ _ _ hC) (fun c s A A' row hs hg hr => hs)
        h70
        (fun x a' W => ∃ X, W.heap[X]? = some (.cells #[.int .i64 (rc'.types.getD x.val (0, 0)).1, .int .i64 (rc'.types.getD x.val (0, 0)).2] 28 (0, 0)) ∧ a' = { tmps := #[.agg #[.slice (some ⟨b1, o1, none⟩) rn rc, .slice ma mn mc, .slice fa fn fc, .slice ea en ec], .agg #[.int .i64 4, .int .i64 (rr : Int)], .pointer (some ⟨w.heap.size, 0, none⟩), .pointer (some ⟨w.heap.size + 1, 0, none⟩), .pointer (some ⟨w.heap.size + 1 + 1, 0, none⟩), .pointer (some ⟨w6.heap.size, 0, none⟩), undef, .pointer (some ⟨X, 0, none⟩), .pointer (some ⟨w.heap.size + 1, 0, none⟩), .int .i64 4, .bool false, .bool false, .agg #[.slice (some ⟨b1, o1, none⟩) rn rc, .slice ma mn mc, .slice fa fn fc, .slice ea en ec], .agg #[.int .i64 4, .int .i64 (rr : Int)], .bool true, .bool false, .bool false, undef, undef, .pointer (some ⟨w.heap.size + 1, 1, none⟩), .int .i64 (rr : Int), .agg #[.int .i64 4, .int .i64 0, .string ⟨#[]⟩, .int .i64 (rr : Int), .slice none 0 0], .pointer (some ⟨w.heap.size, 0, none⟩), .slice (some ⟨b1, o1, none⟩) rn rc, .pointer (some ⟨w.heap.size + 1, 1, none⟩), .int .i64 (rr : Int), .pointer (some ⟨b1, o1 + rr * 3, none⟩), .agg #[.string nm, .slice ga gn gc, .slice ta tn tc], .func (.func 63) #[] #[.pointer (some ⟨w6.heap.size + 1, 0, none⟩)], .int .i64 (x.val : Int), .agg #[.int .i64 (rc'.types.getD x.val (0, 0)).1, .int .i64 (rc'.types.getD x.val (0, 0)).2], undef, undef, undef, undef, undef, undef, undef, undef, undef, undef], defers := [] })
        (fun x a' u A B row hs hg hr => by
          obtain ⟨X, h2, h4⟩ := hs
          exact ⟨X, keep_cells h2 hg hr, h4⟩)
        ?assign ?body ?done ?stop
      case assign =>
        rintro ll pre x W K hi hK
        simp only [encT, ty]
        gi_wp2
        exact hK _ _ ((KeepsOthers.alloc _ _).from _) (KB_of ((Below.refl _ W).alloc (Nat.le_refl _) _) (by have := hi.2.2.2; omega) (by have := hi.2.2.2; omega)) ((ZI_own w _ _ _ _ hC).alloc _ hi) ⟨W.heap.size, heap_alloc_new W _, rfl⟩
      case body =>
        rintro ll pre x a' W hll ⟨r5, hr5⟩ hi ⟨X, hx, rfl⟩ hlt
        obtain ⟨hi1, ⟨fa2, fn2, fc2, hi2, hi3⟩, hi4, hi5⟩ := hi
        have hlt2 : pre.length < gn := by simpa using hlt
        have hfn2 : fn2 = pre.length := by
          obtain ⟨a9, c9, e9, _⟩ := hi3.form
          cases e9; simp
        have hZX : X ≠ w6.heap.size := fun e => by
          rw [e] at hx
          have hh := hi2.symm.trans hx
          simp at hh
        have hrX : (Value.slice fa2 fn2 fc2).ownBlock ≠ some X := fun e => by
          obtain ⟨cur, hc⟩ := hi3.ty e
          have hh := hc.symm.trans hx
          simp at hh
        refine wpIn_block ?_
        refine zbody ll _ _ (fun _ _ _ _ h => h) (by rintro ⟨a, w, h⟩; exact h) W w6.heap.size X W1.heap.size _ _ _ _ _ _ _ _ _ _ _ _ _ _ _ _ _ _ _ _ _ _ _ _ _ _ _ _ _ _ _ _ _ _ _ _ _ _ _ _ _ _ _ fa2 fn2 fc2 _ _ _ hi2 hx hZX hrX hi3 hi5 (by omega) (by rw [List.length_map]; omega) (by rw [List.length_map]; exact hfn2) ?_
        intro a9 w9 fa9 fn9 fc9 hv9 hz9 hO9
        have own : ∀ j, j < W1.heap.size → (Value.slice fa2 fn2 fc2).ownBlock ≠ some j := fun j hj e => by have := (hi3.own j e).1; omega
        have kB : Below w.heap.size W w9 := ⟨hO9.os, hO9.tape, hO9.output, hO9.size, fun j hj => hO9.block j (by have := hi4.size; omega) (by omega) (own j (by omega))⟩
        refine ⟨⟨hO9.size, fun j o _ hj ho => (hO9.block j (Array.getElem?_eq_some_iff.1 hj).1 (fun e => by rw [e, hi2] at hj; cases hj; cases ho) (fun e => by obtain ⟨cur, hc⟩ := hi3.ty e; rw [hc] at hj; cases hj; cases ho)).trans hj⟩, ⟨kB, hO9.block _ (by omega) (by omega) (own _ (by omega))⟩, (hO9.block _ (by omega) (by omega) (own _ (by omega))).trans hi1, ⟨fa9, fn9, fc9, hz9, by rw [List.map_append]; exact hv9⟩, hi4.trans kB, Nat.le_trans hi5 hO9.size⟩
      case done =>
        rintro D' ys W hD rfl hI hK
        obtain ⟨hi1, ⟨fa2, fn2, fc2, hi2, hi3⟩, hi4, hi5⟩ := hI
        have hfn2 : fn2 = gn := by
          obtain ⟨a9, c9, e9, _⟩ := hi3.form
          cases e9; simp
        have y0 := cellOf hi2 0
        have y1 := cellOf hi2 1
        have y2 := cellOf hi2 2
        have y3 := cellOf hi2 3
        have y4 := cellOf hi2 4
        have e0 := cellOf hi1 0
        have e1 := cellOf hi1 1
        have e2 := cellOf hi1 2
        have e3 := cellOf hi1 3
        have e4 := cellOf hi1 4
        have f0 := freeOf hi1 0
        have f1 := freeOf hi1 1
        have f2' := freeOf hi1 2
        have f3 := freeOf hi1 3
        have f4 := freeOf hi1 4
        simp only [List.getElem?_toArray, List.getElem?_cons_zero, List.getElem?_cons_succ] at y0 y1 y2 y3 y4 e0 e1 e2 e3 e4
        have HK := hid hK
        have HI1 := hid hi1
        have HI3 := hid hi3
        have HI4 := hid hi4
        have HFN := hid hfn2
        have HQ1 := hid q1
        have hown : ∀ q, (Value.slice fa2 fn2 fc2).ownBlock = some q → q ≠ w.heap.size + 1 + 1 := fun q e h => by have := (hi3.own q e).1; omega
        have HOW := hid hown
        clear hseq hK hbx h70 hi1 hi2 hi3 hi4 hfn2 hown q1
        gi_wp2
        change bodyPostM _ _ _ _ _ _ _ (five W (w.heap.size + 1 + 1) 0 ⟨4, 0, ⟨#[]⟩, (rr : Int), fa2, fn2, fc2⟩)
        have hK' : (five W (w.heap.size + 1 + 1) 0 ⟨4, 0, ⟨#[]⟩, (rr : Int), fa2, fn2, fc2⟩).heap[D']? = some (.deferred (some [])) := (five_heap _ _ _ _ (by omega)).trans HK.out
        have h5 := five_new HI1.out ⟨4, 0, ⟨#[]⟩, (rr : Int), fa2, fn2, fc2⟩
        have hb5 : Below w.heap.size w (five W (w.heap.size + 1 + 1) 0 ⟨4, 0, ⟨#[]⟩, (rr : Int), fa2, fn2, fc2⟩) := five_below HI4.out (by omega) _
        have hv5 := HI3.out.same (w' := five W (w.heap.size + 1 + 1) 0 ⟨4, 0, ⟨#[]⟩, (rr : Int), fa2, fn2, fc2⟩) (fun q e => five_heap _ _ _ _ (HOW.out q e))
        generalize five W (w.heap.size + 1 + 1) 0 ⟨4, 0, ⟨#[]⟩, (rr : Int), fa2, fn2, fc2⟩ = W5 at *
        have hgw := grownBy_putObj' W5 D' (.deferred none)
        have h9 := keep_cells (B := 0) h5 hgw (fun r e => by cases e; exact ⟨Nat.zero_le _, _, hK', rfl⟩)
        have h10 : Below w.heap.size w (W5.putObj D' (.deferred none)) := ownFrom_below (β := Unit) (Nat.le_refl _) (Nat.le_refl _) () _ _ _ hb5 hgw (fun r e => by cases e; exact ⟨by omega, _, hK', rfl⟩)
        have h11 := hv5.keep (C := 0) hgw (fun r e => by cases e; exact ⟨Nat.zero_le _, _, hK', rfl⟩)
        have q0 := cellOf h9 0
        have q2 := cellOf h9 1
        have q3 := cellOf h9 2
        have q4 := cellOf h9 3
        have q5 := cellOf h9 4
        simp only [List.getElem?_toArray, List.getElem?_cons_zero, List.getElem?_cons_succ] at q0 q2 q3 q4 q5
        refine ⟨by simp, .inl ⟨_, _, rfl, run_takeDeferred hK', ?_⟩⟩
        refine ⟨_, by simp [results, Tryz.results17, go_sem, q0, q2, q3, q4, q5]; rfl, ⟨4, 0, ⟨#[]⟩, (rr : Int), fa2, fn2, fc2⟩, zsOf p (rr : Int), rfl, h10, ?_, ?_, ?_⟩
        · unfold ZeroIs
          rw [if_pos ⟨rfl, HQ1.out⟩]
          exact ⟨rfl, rfl, rfl, rfl, rfl⟩
        · rw [HV.out]; exact h11.rd
        · rw [HV.out, List.length_map, List.length_finRange]; exact HFN.out
      case stop =>
        rintro D' c pre W hD ⟨kk, hkk, rfl⟩ hF hK
        exact hF.elim
  · have HZI : Hid (ZeroIs p (k, r) (zH (k, r)) []) := hid (by unfold ZeroIs; rw [if_neg (by simp [h4])]; exact ⟨rfl, rfl⟩)
    have HZN : Hid ((zH (k, r)).n = 0) := hid (zH_n _)
    have h4' : (k == 4) = false := by simpa using h4
    generalize zH (k, r) = zz at *
    obtain ⟨zk, zi, zt, zr, za, zn, zp⟩ := zz
    simp only [Hd.v] at K31
    gi_wp2_with (refine ⟨trivial, ?_⟩; first
      | (gi_at_call 44; (refine (callsIn_wide.2 (Hid.out K31 _)).mono ?_; rintro e w7 ⟨rfl, hb7⟩; rw [← hW0] at hb7; have hbB := TR.out (HR0.out) hb7; have c2 := GX.out _ hbB; have xbB := XB.out _ hbB; have e0 := cellOf c2 0; have e1 := cellOf c2 1; have e2 := cellOf c2 2; have e3 := cellOf c2 3; have e4 := cellOf c2 4; have f0 := freeOf c2 0; have f1 := freeOf c2 1; have f2 := freeOf c2 2; have f3 := freeOf c2 3; have f4 := freeOf c2 4; simp only [List.getElem?_toArray, List.getElem?_cons_zero, List.getElem?_cons_succ] at e0 e1 e2 e3 e4; have HC2 := hid c2; clear c2))
      | skip)
    have h5 := five_new HC2.out ⟨zk, zi, zt, zr, za, zn, zp⟩
    have hb5 : Below w.heap.size w (five w7 (w.heap.size + 1 + 1) 0 ⟨zk, zi, zt, zr, za, zn, zp⟩) := five_below xbB (by omega) _
    have r0 := cellOf h5 0
    have r1 := cellOf h5 1
    have r2 := cellOf h5 2
    have r3 := cellOf h5 3
    have r4 := cellOf h5 4
    simp only [List.getElem?_toArray, List.getElem?_cons_zero, List.getElem?_cons_succ] at r0 r1 r2 r3 r4
    change bodyPostM _ _ _ _ _ _ _ (five w7 (w.heap.size + 1 + 1) 0 ⟨zk, zi, zt, zr, za, zn, zp⟩)
    generalize five w7 (w.heap.size + 1 + 1) 0 ⟨zk, zi, zt, zr, za, zn, zp⟩ = W5 at *
    exact ⟨_, by simp [results, Tryz.results17, go_sem, r0, r1, r2, r3, r4]; rfl, ⟨zk, zi, zt, zr, za, zn, zp⟩, [], rfl, hb5, HZI.out, fun j h e => by simp at e, HZN.out⟩

end Go.Proofs.YtnmbifoinponeaaGreatDoor
