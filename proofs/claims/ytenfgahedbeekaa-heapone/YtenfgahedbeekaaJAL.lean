/- A region that draws its order, within a round: by the plain laws. -/
import Derived.Test.YtenfgahedbeekaaJAK
import Derived.OrdersIn
import Derived.OrdersHeld
import Derived.Deep.RegionHeld
namespace Go.Proofs.Ytenfgahedbeekaa
open Go.RowKit Go.Deep Go.Shelf
set_option linter.unusedVariables false
set_option linter.unusedSimpArgs false

section
variable {P : Program} {ops : Array Oper} {Q : Exit → Act → World → Prop} {md : Region.Mode} {l n : Nat}

theorem rowsIn_round {row : String} {args : Array Value} {w : World} {R : Value → World → Prop} (h : Rows P row args w R) : RowsIn (Fence.wide.inRound l) n P row args w R := fun c cs _ => by
  obtain ⟨v, w', r, s⟩ := h c cs
  exact ⟨v, w', r, stepsIn_wide.2 s⟩
theorem oper_round {o : Oper} (hd : ∀ c, o.op ≠ .defer c) {a : Act} {w : World} {K : Act → World → Prop} (h : o.wp P a w K Q) : o.wpIn (Fence.wide.inRound l) n P a w K Q := by
  refine ⟨fun f _ => trivial, ?_⟩
  rw [show (Fence.wide.inRound l).round = some l from rfl, Oper.semAt_some l a.eval o hd]
  unfold Oper.wp at h
  generalize (execOp a.eval o).run P w = r at *
  cases r with
  | ok x w' =>
    cases x <;> simp only [Oper.upon, Oper.uponIn] at h ⊢
    case value => exact h
    case skip => exact h
    case defer => exact h
    case enter f args => exact ⟨fun e => by simp [Fence.wide] at e, callsIn_wide.2 h⟩
    case row row args => exact ⟨fun e => by simp [Fence.wide] at e, rowsIn_round h⟩
  | halt x w' => cases x <;> simp only [Oper.upon, Oper.uponIn] at h ⊢; exact h
theorem any_round (hd : ∀ (i : Nat) (o : Oper), ops[i]? = some o → ∀ c, o.op ≠ .defer c) (hL : ¬ LetsOut Q) : ∀ (fuel : Nat) (listed : Array Bool) (a : Act) (w : World), wpAny P md ops Q fuel listed a w → wpAnyIn (Fence.wide.inRound l) n P md ops Q fuel listed a w
  | 0, listed, a, w, h => h
  | fuel + 1, listed, a, w, h => ⟨h.1, fun i hi => by
    have h1 := wpOp_mono (any_round hd hL fuel (listed.setIfInBounds i true)) (h.2 i hi)
    unfold wpOp at h1
    unfold wpOpIn
    cases ho : ops[i]? with
    | none => simp only [ho] at h1 ⊢; exact h1
    | some o =>
      simp only [ho] at h1 ⊢
      split
      · rename_i hw
        rw [if_pos hw] at h1
        rcases h1 with h1 | h1
        · exact oper_round (hd i o ho) h1
        · exact absurd h1.2 hL
      · rename_i hw
        rw [if_neg hw] at h1
        exact ⟨fun f _ => trivial, h1⟩⟩
theorem wpIn_region_round {id : Nat} {S : World → Prop} {a : Act} {w : World} (hm : P.follows .mixedOrders = true) (hd : ∀ (i : Nat) (o : Oper), ops[i]? = some o → ∀ c, o.op ≠ .defer c) (hL : ¬ LetsOut Q) (hS : S w.drew)
    (h : S w.drew → wpAnyH P .any ops Q S ops.size (Array.replicate ops.size false) a w.drew) : (Code.region id ops true).wpIn (Fence.wide.inRound l) n P Q a w :=
  wpIn_region_any hm (any_round hd hL _ _ _ _ (wpAny_of_held _ _ _ _ (h hS)))
end
end Go.Proofs.Ytenfgahedbeekaa

namespace Go.Proofs.Ytenfgahedbeekaa
open Go.RowKit Go.Deep Go.Shelf
set_option linter.unusedVariables false
set_option linter.unusedSimpArgs false
attribute [local go_sem] Oper.semAt_some

def fieldsAre (r : Rc) (fs : List Hd) : Bool := decide (fs.length = r.fields.length) && (List.range r.fields.length).all fun i => decide (((fs[i]?).map fun f => (f.kind, f.rc)) = some (r.types.getD i (0, 0)))
def isB (p : Pg) (t : TyP) (h : Hd) (fs : List Hd) : Bool :=
  typB p.rn t && plainB h fs && (decide (h.kind = t.1) && decide (h.rc = t.2)) && (if t.1 = 4 then ((p.recs[t.2.toNat]?).map fun x => fieldsAre x.2 fs).getD false else true)


def fieldIs (fs : List Hd) (ts : List TyP) (i : Nat) : Bool := decide (((fs[i]?).map fun f => (f.kind, f.rc)) = some (ts.getD i (0, 0)))
def II (w : World) (c1 : Array Value) (M : Nat) {m : Nat} (fs : List Hd) (ts : List TyP) (pre : List (Fin m)) (W : World) : Prop :=
  (W.heap[w.heap.size + 1 + 1]? = some (.cells c1 31 (0, 0)) ∧ W.heap[w.heap.size + 1 + 1 + 1]? = some (.cells #[.bool false] 4 (0, 0))) ∧ (∀ x ∈ pre, fieldIs fs ts x.val = true) ∧ Below w.heap.size w W ∧ M ≤ W.heap.size
theorem II_own (w : World) (c1 : Array Value) (M : Nat) {m : Nat} (fs : List Hd) (ts : List TyP) {B : Nat} (hB : w.heap.size ≤ B) : OwnFrom B (II w c1 M (m := m) fs ts) := fun s A A' row hs hg hr =>
  ⟨⟨keep_cells hs.1.1 hg hr, keep_cells hs.1.2 hg hr⟩, hs.2.1, ownFrom_below (β := Unit) (Nat.le_refl _) hB () A A' row hs.2.2.1 hg hr, Nat.le_trans hs.2.2.2 hg.size⟩
theorem II.below {w W W' : World} {c1 : Array Value} {M m : Nat} {fs : List Hd} {ts : List TyP} {pre : List (Fin m)} (h : II w c1 M fs ts pre W) (k : Below W.heap.size W W') : II w c1 M fs ts pre W' := by
  have hl : ∀ {b : Nat} {o : Obj}, W.heap[b]? = some o → W'.heap[b]? = some o := fun e => (k.block _ (Array.getElem?_eq_some_iff.1 e).1).trans e
  exact ⟨⟨hl h.1.1, hl h.1.2⟩, h.2.1, h.2.2.1.trans (k.mono h.2.2.1.size), Nat.le_trans h.2.2.2 k.size⟩
theorem II.snoc {w W : World} {c1 : Array Value} {M m : Nat} {fs : List Hd} {ts : List TyP} {pre : List (Fin m)} {x : Fin m} (h : II w c1 M fs ts pre W) (hx : fieldIs fs ts x.val = true) : II w c1 M fs ts (pre ++ [x]) W := ⟨h.1, fun y hy => by
  rcases List.mem_append.1 hy with hy | hy
  · exact h.2.1 y hy
  · simp at hy; subst hy; exact hx, h.2.2⟩
def IXs (w : World) {m : Nat} (fs : List Hd) (ts : List TyP) (c : Code) (pre : List (Fin m)) (W : World) : Prop :=
  c = .ret ∧ (∃ x ∈ pre, fieldIs fs ts x.val = false) ∧ W.heap[w.heap.size + 1 + 1 + 1]? = some (.cells #[.bool false] 4 (0, 0)) ∧ Below w.heap.size w W
theorem IXs_own (w : World) {m : Nat} (fs : List Hd) (ts : List TyP) (c : Code) {B : Nat} (hB : w.heap.size ≤ B) : OwnFrom B (IXs w (m := m) fs ts c) := fun s A A' row hs hg hr =>
  ⟨hs.1, hs.2.1, keep_cells hs.2.2.1 hg hr, ownFrom_below (β := Unit) (Nat.le_refl _) hB () A A' row hs.2.2.2 hg hr⟩
theorem nodefer {ops : Array Oper} (h : (ops.all fun o => match o.op with | .defer _ => false | _ => true) = true) : ∀ (i : Nat) (o : Oper), ops[i]? = some o → ∀ c, o.op ≠ .defer c := fun i o hi c e => by
  obtain ⟨h1, h2⟩ := Array.getElem?_eq_some_iff.1 hi
  have h3 := (Array.all_eq_true.1 h) i h1
  rw [h2, e] at h3
  cases h3
theorem fieldsAre_eq (r : Rc) (fs : List Hd) (m : Nat) (h1 : m = fs.length) (h2 : m = r.fields.length) : fieldsAre r fs = (List.finRange m).all fun i => fieldIs fs r.types i.val := by
  unfold fieldsAre
  rw [← h1, ← h2, decide_eq_true rfl, Bool.true_and, Bool.eq_iff_iff, List.all_eq_true, List.all_eq_true]
  exact ⟨fun h i _ => h i.val (List.mem_range.2 i.isLt), fun h i hi => h ⟨i, List.mem_range.1 hi⟩ (List.mem_finRange _)⟩

set_option maxRecDepth 100000 in
set_option maxHeartbeats 2000000 in
theorem is_any (w : World) (g : PH) (p : Pg) (d : PRd w g p) (k r : Int) (h : Hd) (fs : List Hd) (hin : h.In) (hn : h.n = fs.length) (hv : VRd w h.a fs) (hfs : ∀ f ∈ fs, f.In) :
    Calls Try.prog 80 #[g.v, ty k r, h.v] w fun e w' => e = .returned (.bool (isB p (k, r) h fs)) ∧ Below w.heap.size w w' := by
  have K1 := hid (fun w' => isType_any w' g k r d.r.n2)
  have e0 : g.rn = p.rn := d.r.n1
  rw [e0] at K1
  have K2 := hid (fun (w1 : World) (hb : Below w.heap.size w w1) => isPlain_v w1 h fs hin hn (hv.below (Nat.le_refl _) hb) hfs)
  have K3 := hid (fun w' => typeOf_any w' h)
  have Dr := hid d.r
  have hn2 := hin.n
  have Hn := hid hn
  have Hv := hid hv
  have Hfs := hid hfs
  have hrn := d.r.n2
  clear d hv hfs
  obtain ⟨res, hres⟩ : ∃ res, res = isB p (k, r) h fs := ⟨_, rfl⟩
  rw [← hres]
  have Hres := hid hres
  clear hres
  obtain ⟨pl, hpl⟩ : ∃ pl, pl = plainB h fs := ⟨_, rfl⟩
  rw [← hpl] at K2
  have Hpl := hid hpl
  clear hpl
  obtain ⟨ra, rn, rc, ma, mn, mc, fa, fn, fc, ea, en, ec⟩ := g
  obtain ⟨k1, i1, t1, r1, a1, m1, c1⟩ := h
  simp only at e0 hrn hn2 hn
  have E0 := hid e0
  clear e0 hn hin
  simp only [PH.v, ty, Hd.v] at K1 K2 K3 ⊢
  obtain ⟨W0, hW0⟩ : ∃ W0, W0 = (((w.alloc (.cells #[.slice ra rn rc, .slice ma mn mc, .slice fa fn fc, .slice ea en ec] 50)).alloc (.cells #[.int .i64 k, .int .i64 r] 73)).alloc (.cells #[.int .i64 k1, .int .i64 i1, .string t1, .int .i64 r1, .slice a1 m1 c1] 31)).alloc (.cells #[.bool false] 4) := ⟨_, rfl⟩
  have n1 := heap_alloc_new w (.cells #[.slice ra rn rc, .slice ma mn mc, .slice fa fn fc, .slice ea en ec] 50)
  have n2 := heap_alloc_new (w.alloc (.cells #[.slice ra rn rc, .slice ma mn mc, .slice fa fn fc, .slice ea en ec] 50)) (.cells #[.int .i64 k, .int .i64 r] 73)
  have n3 := heap_alloc_new ((w.alloc (.cells #[.slice ra rn rc, .slice ma mn mc, .slice fa fn fc, .slice ea en ec] 50)).alloc (.cells #[.int .i64 k, .int .i64 r] 73)) (.cells #[.int .i64 k1, .int .i64 i1, .string t1, .int .i64 r1, .slice a1 m1 c1] 31)
  have n4 := heap_alloc_new (((w.alloc (.cells #[.slice ra rn rc, .slice ma mn mc, .slice fa fn fc, .slice ea en ec] 50)).alloc (.cells #[.int .i64 k, .int .i64 r] 73)).alloc (.cells #[.int .i64 k1, .int .i64 i1, .string t1, .int .i64 r1, .slice a1 m1 c1] 31)) (.cells #[.bool false] 4)
  simp only [World.size_alloc] at n2 n3 n4
  have pl' : ∀ {w : World} {o x : Obj} {k : Nat}, w.heap[k]? = some x → (w.alloc o).heap[k]? = some x := fun h => (Below.heap_alloc _ _ _ (Array.getElem?_eq_some_iff.1 h).1).trans h
  have b1 : W0.heap[w.heap.size]? = some (.cells #[.slice ra rn rc, .slice ma mn mc, .slice fa fn fc, .slice ea en ec] 50 (0, 0)) := by rw [hW0]; exact pl' (pl' (pl' n1))
  have b2 : W0.heap[w.heap.size + 1]? = some (.cells #[.int .i64 k, .int .i64 r] 73 (0, 0)) := by rw [hW0]; exact pl' (pl' n2)
  have b3 : W0.heap[w.heap.size + 1 + 1]? = some (.cells #[.int .i64 k1, .int .i64 i1, .string t1, .int .i64 r1, .slice a1 m1 c1] 31 (0, 0)) := by rw [hW0]; exact pl' n3
  have b4 : W0.heap[w.heap.size + 1 + 1 + 1]? = some (.cells #[.bool false] 4 (0, 0)) := by rw [hW0]; exact n4
  have hb0 : Below w.heap.size w W0 := by rw [hW0]; exact ((((Below.refl _ w).alloc (Nat.le_refl _) _).alloc (by simp) _).alloc (by simp; omega) _).alloc (by simp; omega) _
  have hz0 : W0.heap.size = w.heap.size + 4 := by rw [hW0]; simp
  clear n1 n2 n3 n4 pl'
  have FX : Hid (∀ w2 : World, Below W0.heap.size W0 w2 → (w2.cell? ⟨w.heap.size, 0, none⟩ = some (.slice ra rn rc) ∧ w2.cell? ⟨w.heap.size, 1, none⟩ = some (.slice ma mn mc) ∧ w2.cell? ⟨w.heap.size, 2, none⟩ = some (.slice fa fn fc) ∧ w2.cell? ⟨w.heap.size, 3, none⟩ = some (.slice ea en ec) ∧ w2.cell? ⟨w.heap.size + 1, 0, none⟩ = some (.int .i64 k) ∧ w2.cell? ⟨w.heap.size + 1, 1, none⟩ = some (.int .i64 r) ∧ w2.cell? ⟨w.heap.size + 1 + 1, 0, none⟩ = some (.int .i64 k1) ∧ w2.cell? ⟨w.heap.size + 1 + 1, 1, none⟩ = some (.int .i64 i1) ∧ w2.cell? ⟨w.heap.size + 1 + 1, 2, none⟩ = some (.string t1) ∧ w2.cell? ⟨w.heap.size + 1 + 1, 3, none⟩ = some (.int .i64 r1) ∧ w2.cell? ⟨w.heap.size + 1 + 1, 4, none⟩ = some (.slice a1 m1 c1)) ∧ Below w.heap.size w w2) := hid (fun w2 hb => by
    have bx := (hb.block _ (Array.getElem?_eq_some_iff.1 b1).1).trans b1
    have by' := (hb.block _ (Array.getElem?_eq_some_iff.1 b2).1).trans b2
    have bz := (hb.block _ (Array.getElem?_eq_some_iff.1 b3).1).trans b3
    exact ⟨⟨cellOf bx 0, cellOf bx 1, cellOf bx 2, cellOf bx 3, cellOf by' 0, cellOf by' 1, cellOf bz 0, cellOf bz 1, cellOf bz 2, cellOf bz 3, cellOf bz 4⟩, hb0.trans (hb.mono hb0.size)⟩)
  have GX : Hid (∀ w2 : World, Below W0.heap.size W0 w2 → w2.heap[w.heap.size + 1 + 1 + 1]? = some (.cells #[.bool false] 4 (0, 0))) := hid (fun w2 hb => (hb.block _ (Array.getElem?_eq_some_iff.1 b4).1).trans b4)
  have FV : Hid (∀ w2 : World, Below W0.heap.size W0 w2 → w2.heap[w.heap.size + 1 + 1]? = some (.cells #[.int .i64 k1, .int .i64 i1, .string t1, .int .i64 r1, .slice a1 m1 c1] 31 (0, 0))) := hid (fun w2 hb => (hb.block _ (Array.getElem?_eq_some_iff.1 b3).1).trans b3)
  have TR : Hid (∀ {x y : World}, Below W0.heap.size W0 x → Below x.heap.size x y → Below W0.heap.size W0 y) := hid (fun h1 h2 => h1.trans (h2.mono h1.size))
  have HR0 := hid (Below.refl W0.heap.size W0)
  have HB := hid hb0
  clear b1 b2 b3 b4 hb0
  obtain ⟨⟨s0, s1, s2, s3, s4, s5, s6, s7, s8, s9, s10⟩, _⟩ := FX.out W0 HR0.out
  have hro : Fence.wide.round = none := rfl
  refine (callsIn_wide (n := 6)).1 ?_
  refine callsIn_of_wp_marks Try.func80 rfl trivial ?_ hro
  simp only [Try.ntmps80, List.size_toArray, List.length_cons, List.length_nil, Nat.reduceAdd, Nat.reduceSub, Array.replicate_succ, Array.replicate_zero, List.push_toArray, List.append_toArray, List.nil_append, List.cons_append]
  cases q1 : typB p.rn (k, r) with
  | false =>
    simp only [q1] at K1
    have HF : Hid (res = false) := hid (by rw [Hres.out]; unfold isB; rw [q1]; rfl)
    gi_wp2
    refine wpIn_wide.2 ?_
    rw [← hW0]
    clear hW0
    refine wp_region_noPanic ?_
    go_region_with ((first
      | (go_at_call 97; (refine (Hid.out K1 _).mono ?_; rintro e w6 ⟨rfl, hb6⟩; have hbA := TR.out HR0.out.drew hb6; obtain ⟨⟨z0, z1, z2, z3, z4, z5, z6, z7, z8, z9, z10⟩, xbA⟩ := FX.out w6 hbA))
      | (go_at_call 100; (refine (Hid.out K2 _ xbA).mono ?_; rintro e w7 ⟨rfl, hb7⟩; have hbB := TR.out hbA hb7; obtain ⟨⟨y0, y1, y2, y3, y4, y5, y6, y7, y8, y9, y10⟩, xbB⟩ := FX.out w7 hbB))
      | (go_at_call 101; (refine (Hid.out K3 _).mono ?_; rintro e w8 ⟨rfl, hb8⟩; have hbC := TR.out hbB hb8; obtain ⟨⟨x0, x1, x2, x3, x4, x5, x6, x7, x8, x9, x10⟩, xbC⟩ := FX.out w8 hbC))))
    all_goals
      refine NoPanic.normal ?_
      have g5 := GX.out _ hbA
      have g6 := cellOf g5 0
      have g7 := freeOf g5 0
      simp only [List.getElem?_toArray, List.getElem?_cons_zero] at g6
    all_goals gi_wp2
    all_goals
      have q5 : (w6.setCell ⟨w.heap.size + 1 + 1 + 1, 0, none⟩ (.bool false)).cell? ⟨w.heap.size + 1 + 1 + 1, 0, none⟩ = some (.bool false) := cellOf (set_cells g5 (.bool false)) 0
      exact ⟨_, by simp [results, Try.results80, go_sem, q5]; rfl, by rw [HF.out], xbA.setCell (p := ⟨w.heap.size + 1 + 1 + 1, 0, none⟩) (by show w.heap.size ≤ w.heap.size + 1 + 1 + 1; omega) _⟩
  | true =>
   simp only [q1] at K1
   cases pl with
   | false =>
    have HF : Hid (res = false) := hid (by rw [Hres.out]; unfold isB; rw [← Hpl.out, q1]; rfl)
    gi_wp2
    refine wpIn_wide.2 ?_
    rw [← hW0]
    clear hW0
    refine wp_region_noPanic ?_
    go_region_with ((first
      | (go_at_call 97; (refine (Hid.out K1 _).mono ?_; rintro e w6 ⟨rfl, hb6⟩; have hbA := TR.out HR0.out.drew hb6; obtain ⟨⟨z0, z1, z2, z3, z4, z5, z6, z7, z8, z9, z10⟩, xbA⟩ := FX.out w6 hbA))
      | (go_at_call 100; (refine (Hid.out K2 _ xbA).mono ?_; rintro e w7 ⟨rfl, hb7⟩; have hbB := TR.out hbA hb7; obtain ⟨⟨y0, y1, y2, y3, y4, y5, y6, y7, y8, y9, y10⟩, xbB⟩ := FX.out w7 hbB))
      | (go_at_call 101; (refine (Hid.out K3 _).mono ?_; rintro e w8 ⟨rfl, hb8⟩; have hbC := TR.out hbB hb8; obtain ⟨⟨x0, x1, x2, x3, x4, x5, x6, x7, x8, x9, x10⟩, xbC⟩ := FX.out w8 hbC))))
    all_goals
      refine NoPanic.normal ?_
      have g5 := GX.out _ hbB
      have g6 := cellOf g5 0
      have g7 := freeOf g5 0
      simp only [List.getElem?_toArray, List.getElem?_cons_zero] at g6
    all_goals gi_wp2
    all_goals
      have q5 : (w7.setCell ⟨w.heap.size + 1 + 1 + 1, 0, none⟩ (.bool false)).cell? ⟨w.heap.size + 1 + 1 + 1, 0, none⟩ = some (.bool false) := cellOf (set_cells g5 (.bool false)) 0
      exact ⟨_, by simp [results, Try.results80, go_sem, q5]; rfl, by rw [HF.out], xbB.setCell (p := ⟨w.heap.size + 1 + 1 + 1, 0, none⟩) (by show w.heap.size ≤ w.heap.size + 1 + 1 + 1; omega) _⟩
   | true =>
    by_cases hk : k1 = k
    · by_cases hr : r1 = r
      · have hk2 := hk.symm
        have hr2 := hr.symm
        clear hk hr
        subst hk2
        subst hr2
        by_cases h4 : k = 4
        · subst h4
          gi_wp2
          refine wpIn_wide.2 ?_
          rw [← hW0]
          clear hW0
          go_region_held3 (fun w2 => w2.cell? ⟨w.heap.size, 0, none⟩ = some (.slice ra rn rc) ∧ w2.cell? ⟨w.heap.size, 1, none⟩ = some (.slice ma mn mc) ∧ w2.cell? ⟨w.heap.size, 2, none⟩ = some (.slice fa fn fc) ∧ w2.cell? ⟨w.heap.size, 3, none⟩ = some (.slice ea en ec) ∧ w2.cell? ⟨w.heap.size + 1, 0, none⟩ = some (.int .i64 4) ∧ w2.cell? ⟨w.heap.size + 1, 1, none⟩ = some (.int .i64 r) ∧ w2.cell? ⟨w.heap.size + 1 + 1, 0, none⟩ = some (.int .i64 4) ∧ w2.cell? ⟨w.heap.size + 1 + 1, 1, none⟩ = some (.int .i64 i1) ∧ w2.cell? ⟨w.heap.size + 1 + 1, 2, none⟩ = some (.string t1) ∧ w2.cell? ⟨w.heap.size + 1 + 1, 3, none⟩ = some (.int .i64 r) ∧ w2.cell? ⟨w.heap.size + 1 + 1, 4, none⟩ = some (.slice a1 m1 c1)) (first | exact SC | exact SB | exact SA | go_keep) ((first
            | (go_at_call 97; (refine (Hid.out K1 _).mono ?_; rintro e w6 ⟨rfl, hb6⟩; have hbA := TR.out HR0.out.drew hb6; obtain ⟨SA, xbA⟩ := FX.out w6 hbA))
            | (go_at_call 100; (refine (Hid.out K2 _ xbA).mono ?_; rintro e w7 ⟨rfl, hb7⟩; have hbB := TR.out hbA hb7; obtain ⟨SB, xbB⟩ := FX.out w7 hbB))
            | (go_at_call 101; (refine (Hid.out K3 _).mono ?_; rintro e w8 ⟨rfl, hb8⟩; have hbC := TR.out hbB hb8; obtain ⟨SC, xbC⟩ := FX.out w8 hbC))))
          have hr0 : 0 ≤ r ∧ r < (rn : Int) := by
            have h := q1
            rw [← show rn = p.rn from E0.out] at h
            simpa [typB] using h
          obtain ⟨rr, rfl⟩ : ∃ rr : Nat, r = (rr : Int) := ⟨r.toNat, by omega⟩
          have hrr : rr < rn := by omega
          clear hr0
          have hm12 : m1 ≤ 12 := by
            have h := Hpl.out
            simp [plainB] at h
            exact h.1.2
          obtain ⟨pr, hpr⟩ : ∃ pr, p.recs[rr]? = some pr := ⟨p.recs[rr]'(by have h := Dr.out.n1; rw [← show rn = p.recs.length from h]; exact hrr), by rw [List.getElem?_eq_getElem]⟩
          have D8 := Dr.out.below (Nat.le_refl _) xbC
          have el := D8.el pr (List.mem_of_getElem? hpr)
          obtain ⟨b1, o1, era, hb1, e1⟩ := D8.rd rr pr.1.cs (by simp [hpr])
          subst era
          have x0 := e1 0 (by omega)
          have x1 := e1 1 (by omega)
          have x2 := e1 2 (by omega)
          have Hp := hid hpr
          have D := hid el
          have Hfn := hid el.fn
          have Htn := hid el.tn
          have f2 := el.f2
          have t2 := el.t2
          clear e1 D8 el hpr hb1
          obtain ⟨h, rc'⟩ := pr
          obtain ⟨nm, ga, gn, gc, ta, tn, tc⟩ := h
          simp only [RH.cs, List.getElem?_cons_zero, List.getElem?_cons_succ, Nat.add_zero] at x0 x1 x2 f2 t2
          have hval : res = fieldsAre rc' fs := by
            rw [Hres.out]; unfold isB; rw [← Hpl.out, q1]; simp [Hp.out]
          have Hval := hid hval
          clear hval
          have al : ∀ (o : Obj) (p : Addr) (v : Value), w8.cell? p = some v → (w8.alloc o).cell? p = some v := fun o p v h => (World.cell?_of_block (Below.heap_alloc _ _ _ (World.block_lt_of_cell? w8 p h))).trans h
          obtain ⟨SC0, SC1, SC2, SC3, SC4, SC5, SC6, SC7, SC8, SC9, SC10⟩ := SC
          have SC10' := fun o => al o _ _ SC10
          clear al
          by_cases hne : m1 = gn
          · subst hne
            gi_wp2_with (refine ⟨trivial, ?_⟩; gi_at_call 102; refine (types_in _ _ trivial hro _ _ _ rfl rfl _).mono ?_; rintro e w9 ⟨rfl, rfl⟩)
            obtain ⟨W1, hW1⟩ : ∃ W1, W1 = (w8.alloc (.cells #[.string nm, .slice ga m1 gc, .slice ta tn tc] 95)).alloc (.cells #[.string nm, .slice ga m1 gc, .slice ta tn tc] 95) := ⟨_, rfl⟩
            rw [← hW1]
            have hb81 : Below w8.heap.size w8 W1 := by rw [hW1]; exact ((Below.refl _ _).alloc (Nat.le_refl _) _).alloc (by simp) _
            have hz1 : W1.heap.size = w8.heap.size + 2 := by rw [hW1]; simp
            have hbx : W1.heap[w8.heap.size + 1]? = some (.cells #[.string nm, .slice ga m1 gc, .slice ta tn tc] 95 (0, 0)) := by
              have := heap_alloc_new (w8.alloc (.cells #[.string nm, .slice ga m1 gc, .slice ta tn tc] 95)) (.cells #[.string nm, .slice ga m1 gc, .slice ta tn tc] 95)
              rw [World.size_alloc] at this
              rw [hW1]; exact this
            have hbw1 : Below w.heap.size w W1 := xbC.trans (hb81.mono xbC.size)
            have D1 := hid (D.out.below (Nat.le_refl _) hb81)
            have hlt1 : rc'.types ≠ [] → ∀ b off, ta = some ⟨b, off, none⟩ → b < W1.heap.size := fun hne b off e => by
              obtain ⟨x, hx⟩ : ∃ x, rc'.types[0]? = some x := by
                cases hc : rc'.types with
                | nil => exact absurd hc hne
                | cons y r => exact ⟨y, rfl⟩
              obtain ⟨b', off', e', hc, _⟩ := D1.out.tr 0 x hx
              simp only at e'
              rw [e] at e'; cases e'
              exact World.block_lt_of_cell? W1 _ hc
            have hseq := types_stops (fun x : Fin m1 => x.val) (fun x => rc'.types.getD x.val (0, 0)) rc'.types (List.finRange m1) 5 (by omega) (w8.heap.size + 1) W1.heap.size nm ga ta m1 gc tn tc (by simp) (fun k x e => ⟨finr _ _ _ e, by rw [finr _ _ _ e]⟩) Htn.out (by omega) t2 W1 (Nat.le_refl _) hbx D1.out.tr hlt1
            have bV := FV.out _ hbC
            have bB := GX.out _ hbC
            have h70 : II w #[.int .i64 4, .int .i64 i1, .string t1, .int .i64 (rr : Int), .slice a1 m1 c1] W1.heap.size (m := m1) fs rc'.types [] W1 := ⟨⟨(hb81.block _ (Array.getElem?_eq_some_iff.1 bV).1).trans bV, (hb81.block _ (Array.getElem?_eq_some_iff.1 bB).1).trans bB⟩, by simp, hbw1, Nat.le_refl _⟩
            have hC : w.heap.size ≤ W1.heap.size := hbw1.size
            have hS8 : w.heap.size + 4 ≤ w8.heap.size := by have := hbC.size; omega
            clear hlt1 hW1 hb81 bV bB
            refine wpIn_rangeFunc_ownH hro (by omega) (gf := 111) (lb := #[.pointer (some ⟨w8.heap.size + 1, 0, none⟩)]) rfl trivial (enters_of Try.func111 (by kernel_rfl) rfl) hseq KBp_t (KBp_b (Nat.le_refl _) (by omega)) (Below.refl _ _) (fun _ => rfl)
              (II w #[.int .i64 4, .int .i64 i1, .string t1, .int .i64 (rr : Int), .slice a1 m1 c1] W1.heap.size fs rc'.types) (IXs w fs rc'.types) (II_own w _ _ _ _ hC) (fun c => IXs_own w _ _ c hC)
              h70
              (fun x a' W => ∃ X, W.heap[X]? = some (.cells #[.int .i64 (rc'.types.getD x.val (0, 0)).1, .int .i64 (rc'.types.getD x.val (0, 0)).2] 73 (0, 0)) ∧ a' = { tmps := #[.agg #[.slice (some ⟨b1, o1, none⟩) rn rc, .slice ma mn mc, .slice fa fn fc, .slice ea en ec], .agg #[.int .i64 4, .int .i64 (rr : Int)], .agg #[.int .i64 4, .int .i64 i1, .string t1, .int .i64 (rr : Int), .slice a1 m1 c1], .pointer (some ⟨w.heap.size, 0, none⟩), .pointer (some ⟨w.heap.size + 1, 0, none⟩), .pointer (some ⟨w.heap.size + 1 + 1, 0, none⟩), .pointer (some ⟨w.heap.size + 1 + 1 + 1, 0, none⟩), .pointer (some ⟨w8.heap.size, 0, none⟩), .int .i64 (x.val : Int), .pointer (some ⟨X, 0, none⟩), .agg #[.slice (some ⟨b1, o1, none⟩) rn rc, .slice ma mn mc, .slice fa fn fc, .slice ea en ec], .agg #[.int .i64 4, .int .i64 (rr : Int)], .bool true, .bool false, .bool false, .agg #[.int .i64 4, .int .i64 i1, .string t1, .int .i64 (rr : Int), .slice a1 m1 c1], .bool true, .bool false, .bool false, .bool false, .agg #[.int .i64 4, .int .i64 i1, .string t1, .int .i64 (rr : Int), .slice a1 m1 c1], .agg #[.int .i64 4, .int .i64 (rr : Int)], .agg #[.int .i64 4, .int .i64 (rr : Int)], .bool false, .bool false, .pointer (some ⟨w.heap.size + 1, 0, none⟩), .int .i64 4, .bool false, .pointer (some ⟨w.heap.size, 0, none⟩), .slice (some ⟨b1, o1, none⟩) rn rc, .pointer (some ⟨w.heap.size + 1, 1, none⟩), .int .i64 (rr : Int), .pointer (some ⟨b1, o1 + rr * 3, none⟩), .agg #[.string nm, .slice ga m1 gc, .slice ta tn tc], .pointer (some ⟨w.heap.size + 1 + 1, 4, none⟩), .slice a1 m1 c1, .int .i64 (m1 : Int), .pointer (some ⟨w8.heap.size, 1, none⟩), .slice ga m1 gc, .int .i64 (m1 : Int), .bool false, .agg #[.string nm, .slice ga m1 gc, .slice ta tn tc], .func (.func 111) #[] #[.pointer (some ⟨w8.heap.size + 1, 0, none⟩)], .int .i64 (x.val : Int), .agg #[.int .i64 (rc'.types.getD x.val (0, 0)).1, .int .i64 (rc'.types.getD x.val (0, 0)).2], undef, undef, undef, undef, undef, undef, undef, undef], defers := [] })
              (fun x a' u A B row hs hg hr => by
                obtain ⟨X, h2, h4⟩ := hs
                exact ⟨X, keep_cells h2 hg hr, h4⟩)
              ?assign ?body ?done ?stop
            case assign =>
              rintro ll pre x W K hi hK
              simp only [encT, ty]
              gi_wp2
              exact hK _ _ ((KeepsOthers.alloc _ _).from _) (KBp_of ((Below.refl _ W).alloc (Nat.le_refl _) _) (by have := hi.2.2.2; omega) (by have := hi.2.2.2; omega)) ((II_own w _ _ _ _ hC).alloc _ hi) ⟨W.heap.size, heap_alloc_new W _, rfl⟩
            case body =>
              rintro ll pre x a' W hll ⟨r5, hr5⟩ hi ⟨X, hx, rfl⟩ hlt
              have HI := hid hi
              have HZ1 := hid hz1
              clear hz1
              obtain ⟨f, hf⟩ : ∃ f, fs[x.val]? = some f := ⟨fs[x.val]'(by have e : m1 = fs.length := Hn.out; rw [← e]; exact x.isLt), by rw [List.getElem?_eq_getElem]⟩
              obtain ⟨b2, o2, ea2, ey⟩ := (Hv.out.below (Nat.le_refl _) hi.2.2.1) x.val f hf
              have ea3 : a1 = some ⟨b2, o2, none⟩ := ea2
              clear ea2
              subst ea3
              have c4 := cellOf hi.1.1 4
              have z0 := cellOf hx 0
              have z1 := cellOf hx 1
              have y0 := ey 0 (by omega)
              have y1 := ey 1 (by omega)
              have y2 := ey 2 (by omega)
              have y3 := ey 3 (by omega)
              have y4 := ey 4 (by omega)
              clear ey
              have hx1 : (0 : Int) ≤ (x.val : Int) := by omega
              have hx2 : (x.val : Int) < (m1 : Int) := by have := x.isLt; omega
              obtain ⟨fk, fi, ft, fr, ga', gn', gc'⟩ := f
              have HFI : Hid (∀ tt : TyP, rc'.types.getD x.val (0, 0) = tt → fieldIs fs rc'.types x.val = decide ((fk, fr) = tt)) := hid (fun tt e => by unfold fieldIs; rw [hf, e]; simp)
              rcases hT : rc'.types.getD x.val (0, 0) with ⟨tk, tr⟩
              have HF2 := hid (HFI.out _ hT)
              simp only [hT, Hd.cs, List.getElem?_toArray, List.getElem?_cons_zero, List.getElem?_cons_succ, Nat.add_zero] at c4 z0 z1 y0 y1 y2 y3 y4 ⊢
              have KC : Hid (∀ {wa wb : World} {p : Addr} {v : Value}, Below wa.heap.size wa wb → wa.cell? p = some v → wb.cell? p = some v) := hid (fun hb h => (hb.cell (World.block_lt_of_cell? _ _ h)).trans h)
              clear hx hr5 hseq hi hbx h70 hf HFI hT
              by_cases hfk : fk = tk
              · by_cases hfr : fr = tr
                · subst hfk
                  subst hfr
                  refine wpIn_block ?_
                  refine wpIn_seq ?_
                  refine wpIn_region_round (S := (fun w2 : World => w2.cell? ⟨w.heap.size + 1 + 1, 4, none⟩ = some (.slice (some ⟨b2, o2, none⟩) m1 c1) ∧ w2.cell? ⟨b2, o2 + x.val * 5, none⟩ = some (.int .i64 fk) ∧ w2.cell? ⟨b2, o2 + x.val * 5 + 1, none⟩ = some (.int .i64 fi) ∧ w2.cell? ⟨b2, o2 + x.val * 5 + 2, none⟩ = some (.string ft) ∧ w2.cell? ⟨b2, o2 + x.val * 5 + 3, none⟩ = some (.int .i64 fr) ∧ w2.cell? ⟨b2, o2 + x.val * 5 + 4, none⟩ = some (.slice ga' gn' gc') ∧ w2.cell? ⟨X, 0, none⟩ = some (.int .i64 fk) ∧ w2.cell? ⟨X, 1, none⟩ = some (.int .i64 fr))) (by kernel_rfl) (nodefer (by kernel_rfl)) (by rintro ⟨a, w, h⟩; exact h) ⟨c4, y0, y1, y2, y3, y4, z0, z1⟩ (fun hHeld => ?_)
                  refine wpAnyH_take (i := 0) (oi := { dst := some 45, op := .fieldAddr 31 (.tmp 5) 4, type := 0, pos := "value.go:28", after := #[], guard := none }) (v := .pointer (some ⟨w.heap.size + 1 + 1, 4, none⟩)) rfl (by kernel_rfl) (by kernel_rfl) (by kernel_rfl) (fun _ _ _ h => h) (Or.inl ⟨by rfl, ?_⟩) (by assumption) ?_
                  · intro w hSw; (try dsimp only at hSw); go_simp
                  try simp only [Act.put, List.setIfInBounds_toArray, List.set_cons_zero, List.set_cons_succ]
                  refine wpAnyH_take (i := 1) (oi := { dst := some 46, op := .load 29 (.tmp 45), type := 29, pos := "value.go:28", after := #[{ on := 0, ground := .data }], guard := none }) (v := .slice (some ⟨b2, o2, none⟩) m1 c1) rfl (by kernel_rfl) (by kernel_rfl) (by kernel_rfl) (fun _ _ _ h => h) (Or.inl ⟨by rfl, ?_⟩) (by assumption) ?_
                  · intro w hSw; (try dsimp only at hSw); go_simp
                  try simp only [Act.put, List.setIfInBounds_toArray, List.set_cons_zero, List.set_cons_succ]
                  refine wpAnyH_take (i := 2) (oi := { dst := some 47, op := .move (.tmp 8), type := 3, pos := "value.go:28", after := #[], guard := none }) (v := .int .i64 (x.val : Int)) rfl (by kernel_rfl) (by kernel_rfl) (by kernel_rfl) (fun _ _ _ h => h) (Or.inl ⟨by rfl, ?_⟩) (by assumption) ?_
                  · intro w hSw; (try dsimp only at hSw); go_simp
                  try simp only [Act.put, List.setIfInBounds_toArray, List.set_cons_zero, List.set_cons_succ]
                  refine wpAnyH_take (i := 3) (oi := { dst := some 48, op := .indexAddr 29 (.tmp 46) (.tmp 47), type := 0, pos := "value.go:28", after := #[{ on := 1, ground := .data }, { on := 2, ground := .data }], guard := none }) (v := .pointer (some ⟨b2, o2 + x.val * 5, none⟩)) rfl (by kernel_rfl) (by kernel_rfl) (by kernel_rfl) (fun _ _ _ h => h) (Or.inl ⟨by rfl, ?_⟩) (by assumption) ?_
                  · intro w hSw; (try dsimp only at hSw); go_simp
                  try simp only [Act.put, List.setIfInBounds_toArray, List.set_cons_zero, List.set_cons_succ]
                  refine wpAnyH_take (i := 4) (oi := { dst := some 49, op := .load 31 (.tmp 48), type := 31, pos := "value.go:28", after := #[{ on := 3, ground := .data }], guard := none }) (v := .agg #[.int .i64 fk, .int .i64 fi, .string ft, .int .i64 fr, .slice ga' gn' gc']) rfl (by kernel_rfl) (by kernel_rfl) (by kernel_rfl) (fun _ _ _ h => h) (Or.inl ⟨by rfl, ?_⟩) (by assumption) ?_
                  · intro w hSw; (try dsimp only at hSw); go_simp
                  try simp only [Act.put, List.setIfInBounds_toArray, List.set_cons_zero, List.set_cons_succ]
                  refine wpAnyH_take (i := 6) (oi := { dst := some 51, op := .load 73 (.tmp 9), type := 73, pos := "value.go:28", after := #[], guard := none }) (v := .agg #[.int .i64 fk, .int .i64 fr]) rfl (by kernel_rfl) (by kernel_rfl) (by kernel_rfl) (fun _ _ _ h => h) (Or.inl ⟨by rfl, ?_⟩) (by assumption) ?_
                  · intro w hSw; (try dsimp only at hSw); go_simp
                  try simp only [Act.put, List.setIfInBounds_toArray, List.set_cons_zero, List.set_cons_succ]
                  refine wpAnyH_ready (rs := [5]) (by kernel_rfl) (by simp) ?_
                  refine AllReadyH.cons (o := { dst := some 50, op := .call { callee := .value (.func 101), args := #[.tmp 49], argTypes := #[31] }, type := 73, pos := "value.go:28", after := #[{ on := 4, ground := .data }], guard := none }) rfl (fun K hK => ?_) AllReadyH.nil
                  go_wp2_with (go_at_call 101; (refine (typeOf_any _ ⟨fk, fi, ft, fr, ga', gn', gc'⟩).mono ?_; rintro e w9 ⟨rfl, hb9⟩))
                  refine hK.out _ _ ?_ (fun hHeld2 => ?_)
                  · exact ⟨KC.out hb9 c4, KC.out hb9 y0, KC.out hb9 y1, KC.out hb9 y2, KC.out hb9 y3, KC.out hb9 y4, KC.out hb9 z0, KC.out hb9 z1⟩
                  clear hK K
                  simp only [ty]
                  try simp only [Act.put, List.setIfInBounds_toArray, List.set_cons_zero, List.set_cons_succ]
                  refine wpAnyH_take (i := 7) (oi := { dst := some 52, op := .binOp .neq 73 (.tmp 50) (.tmp 51) 73, type := 4, pos := "value.go:28", after := #[{ on := 5, ground := .data }, { on := 6, ground := .data }], guard := none }) (v := .bool false) rfl (by kernel_rfl) (by kernel_rfl) (by kernel_rfl) (fun _ _ _ h => h) (Or.inl ⟨by rfl, ?_⟩) (by assumption) ?_
                  · intro w hSw; (try dsimp only at hSw); go_simp
                  try simp only [Act.put, List.setIfInBounds_toArray, List.set_cons_zero, List.set_cons_succ]
                  refine wpAnyH_done (by kernel_rfl) ?_ _
                  simp only [Exit.then]
                  gi_wp2
                  have hbW : Below W.heap.size W w9 := (Below.refl _ W).drew.trans hb9
                  exact ⟨keepsFrom_below hbW, KBp_of hbW (by have := HI.out.2.2.2; have := HZ1.out; omega) (by have := HI.out.2.2.2; have := HZ1.out; omega), (HI.out.below hbW).snoc (by rw [HF2.out]; simp)⟩
                · subst hfk
                  have hq : (fr == tr) = false := by simpa using hfr
                  refine wpIn_block ?_
                  refine wpIn_seq ?_
                  refine wpIn_region_round (S := (fun w2 : World => w2.cell? ⟨w.heap.size + 1 + 1, 4, none⟩ = some (.slice (some ⟨b2, o2, none⟩) m1 c1) ∧ w2.cell? ⟨b2, o2 + x.val * 5, none⟩ = some (.int .i64 fk) ∧ w2.cell? ⟨b2, o2 + x.val * 5 + 1, none⟩ = some (.int .i64 fi) ∧ w2.cell? ⟨b2, o2 + x.val * 5 + 2, none⟩ = some (.string ft) ∧ w2.cell? ⟨b2, o2 + x.val * 5 + 3, none⟩ = some (.int .i64 fr) ∧ w2.cell? ⟨b2, o2 + x.val * 5 + 4, none⟩ = some (.slice ga' gn' gc') ∧ w2.cell? ⟨X, 0, none⟩ = some (.int .i64 fk) ∧ w2.cell? ⟨X, 1, none⟩ = some (.int .i64 tr))) (by kernel_rfl) (nodefer (by kernel_rfl)) (by rintro ⟨a, w, h⟩; exact h) ⟨c4, y0, y1, y2, y3, y4, z0, z1⟩ (fun hHeld => ?_)
                  refine wpAnyH_take (i := 0) (oi := { dst := some 45, op := .fieldAddr 31 (.tmp 5) 4, type := 0, pos := "value.go:28", after := #[], guard := none }) (v := .pointer (some ⟨w.heap.size + 1 + 1, 4, none⟩)) rfl (by kernel_rfl) (by kernel_rfl) (by kernel_rfl) (fun _ _ _ h => h) (Or.inl ⟨by rfl, ?_⟩) (by assumption) ?_
                  · intro w hSw; (try dsimp only at hSw); go_simp
                  try simp only [Act.put, List.setIfInBounds_toArray, List.set_cons_zero, List.set_cons_succ]
                  refine wpAnyH_take (i := 1) (oi := { dst := some 46, op := .load 29 (.tmp 45), type := 29, pos := "value.go:28", after := #[{ on := 0, ground := .data }], guard := none }) (v := .slice (some ⟨b2, o2, none⟩) m1 c1) rfl (by kernel_rfl) (by kernel_rfl) (by kernel_rfl) (fun _ _ _ h => h) (Or.inl ⟨by rfl, ?_⟩) (by assumption) ?_
                  · intro w hSw; (try dsimp only at hSw); go_simp
                  try simp only [Act.put, List.setIfInBounds_toArray, List.set_cons_zero, List.set_cons_succ]
                  refine wpAnyH_take (i := 2) (oi := { dst := some 47, op := .move (.tmp 8), type := 3, pos := "value.go:28", after := #[], guard := none }) (v := .int .i64 (x.val : Int)) rfl (by kernel_rfl) (by kernel_rfl) (by kernel_rfl) (fun _ _ _ h => h) (Or.inl ⟨by rfl, ?_⟩) (by assumption) ?_
                  · intro w hSw; (try dsimp only at hSw); go_simp
                  try simp only [Act.put, List.setIfInBounds_toArray, List.set_cons_zero, List.set_cons_succ]
                  refine wpAnyH_take (i := 3) (oi := { dst := some 48, op := .indexAddr 29 (.tmp 46) (.tmp 47), type := 0, pos := "value.go:28", after := #[{ on := 1, ground := .data }, { on := 2, ground := .data }], guard := none }) (v := .pointer (some ⟨b2, o2 + x.val * 5, none⟩)) rfl (by kernel_rfl) (by kernel_rfl) (by kernel_rfl) (fun _ _ _ h => h) (Or.inl ⟨by rfl, ?_⟩) (by assumption) ?_
                  · intro w hSw; (try dsimp only at hSw); go_simp
                  try simp only [Act.put, List.setIfInBounds_toArray, List.set_cons_zero, List.set_cons_succ]
                  refine wpAnyH_take (i := 4) (oi := { dst := some 49, op := .load 31 (.tmp 48), type := 31, pos := "value.go:28", after := #[{ on := 3, ground := .data }], guard := none }) (v := .agg #[.int .i64 fk, .int .i64 fi, .string ft, .int .i64 fr, .slice ga' gn' gc']) rfl (by kernel_rfl) (by kernel_rfl) (by kernel_rfl) (fun _ _ _ h => h) (Or.inl ⟨by rfl, ?_⟩) (by assumption) ?_
                  · intro w hSw; (try dsimp only at hSw); go_simp
                  try simp only [Act.put, List.setIfInBounds_toArray, List.set_cons_zero, List.set_cons_succ]
                  refine wpAnyH_take (i := 6) (oi := { dst := some 51, op := .load 73 (.tmp 9), type := 73, pos := "value.go:28", after := #[], guard := none }) (v := .agg #[.int .i64 fk, .int .i64 tr]) rfl (by kernel_rfl) (by kernel_rfl) (by kernel_rfl) (fun _ _ _ h => h) (Or.inl ⟨by rfl, ?_⟩) (by assumption) ?_
                  · intro w hSw; (try dsimp only at hSw); go_simp
                  try simp only [Act.put, List.setIfInBounds_toArray, List.set_cons_zero, List.set_cons_succ]
                  refine wpAnyH_ready (rs := [5]) (by kernel_rfl) (by simp) ?_
                  refine AllReadyH.cons (o := { dst := some 50, op := .call { callee := .value (.func 101), args := #[.tmp 49], argTypes := #[31] }, type := 73, pos := "value.go:28", after := #[{ on := 4, ground := .data }], guard := none }) rfl (fun K hK => ?_) AllReadyH.nil
                  go_wp2_with (go_at_call 101; (refine (typeOf_any _ ⟨fk, fi, ft, fr, ga', gn', gc'⟩).mono ?_; rintro e w9 ⟨rfl, hb9⟩))
                  refine hK.out _ _ ?_ (fun hHeld2 => ?_)
                  · exact ⟨KC.out hb9 c4, KC.out hb9 y0, KC.out hb9 y1, KC.out hb9 y2, KC.out hb9 y3, KC.out hb9 y4, KC.out hb9 z0, KC.out hb9 z1⟩
                  clear hK K
                  simp only [ty]
                  try simp only [Act.put, List.setIfInBounds_toArray, List.set_cons_zero, List.set_cons_succ]
                  refine wpAnyH_take (i := 7) (oi := { dst := some 52, op := .binOp .neq 73 (.tmp 50) (.tmp 51) 73, type := 4, pos := "value.go:28", after := #[{ on := 5, ground := .data }, { on := 6, ground := .data }], guard := none }) (v := .bool true) rfl (by kernel_rfl) (by kernel_rfl) (by kernel_rfl) (fun _ _ _ h => h) (Or.inl ⟨by rfl, ?_⟩) (by assumption) ?_
                  · intro w hSw; (try dsimp only at hSw); go_simp
                  try simp only [Act.put, List.setIfInBounds_toArray, List.set_cons_zero, List.set_cons_succ]
                  refine wpAnyH_done (by kernel_rfl) ?_ _
                  simp only [Exit.then]
                  have hbW : Below W.heap.size W w9 := (Below.refl _ W).drew.trans hb9
                  have g5 := (HI.out.below hbW).1.2
                  have g6 : w9.cell? ⟨w.heap.size + 1 + 1 + 1, 0, none⟩ = some (.bool false) := cellOf g5 0
                  have g7 : w9.frozen? ⟨w.heap.size + 1 + 1 + 1, 0, none⟩ = false := freeOf g5 0
                  gi_wp2
                  refine ⟨(keepsFrom_below hbW).trans ((KeepsOthers.setCell _ _ _).from _), rfl, ⟨_, List.mem_append.2 (.inr (List.mem_singleton.2 rfl)), by rw [HF2.out]; simp [hfr]⟩, set_cells g5 _, ?_⟩
                  exact (HI.out.2.2.1.trans (hbW.mono HI.out.2.2.1.size)).setCell (p := ⟨w.heap.size + 1 + 1 + 1, 0, none⟩) (by show w.heap.size ≤ w.heap.size + 1 + 1 + 1; omega) _
              · have hq : (fk == tk) = false := by simpa using hfk
                refine wpIn_block ?_
                refine wpIn_seq ?_
                refine wpIn_region_round (S := (fun w2 : World => w2.cell? ⟨w.heap.size + 1 + 1, 4, none⟩ = some (.slice (some ⟨b2, o2, none⟩) m1 c1) ∧ w2.cell? ⟨b2, o2 + x.val * 5, none⟩ = some (.int .i64 fk) ∧ w2.cell? ⟨b2, o2 + x.val * 5 + 1, none⟩ = some (.int .i64 fi) ∧ w2.cell? ⟨b2, o2 + x.val * 5 + 2, none⟩ = some (.string ft) ∧ w2.cell? ⟨b2, o2 + x.val * 5 + 3, none⟩ = some (.int .i64 fr) ∧ w2.cell? ⟨b2, o2 + x.val * 5 + 4, none⟩ = some (.slice ga' gn' gc') ∧ w2.cell? ⟨X, 0, none⟩ = some (.int .i64 tk) ∧ w2.cell? ⟨X, 1, none⟩ = some (.int .i64 tr))) (by kernel_rfl) (nodefer (by kernel_rfl)) (by rintro ⟨a, w, h⟩; exact h) ⟨c4, y0, y1, y2, y3, y4, z0, z1⟩ (fun hHeld => ?_)
                refine wpAnyH_take (i := 0) (oi := { dst := some 45, op := .fieldAddr 31 (.tmp 5) 4, type := 0, pos := "value.go:28", after := #[], guard := none }) (v := .pointer (some ⟨w.heap.size + 1 + 1, 4, none⟩)) rfl (by kernel_rfl) (by kernel_rfl) (by kernel_rfl) (fun _ _ _ h => h) (Or.inl ⟨by rfl, ?_⟩) (by assumption) ?_
                · intro w hSw; (try dsimp only at hSw); go_simp
                try simp only [Act.put, List.setIfInBounds_toArray, List.set_cons_zero, List.set_cons_succ]
                refine wpAnyH_take (i := 1) (oi := { dst := some 46, op := .load 29 (.tmp 45), type := 29, pos := "value.go:28", after := #[{ on := 0, ground := .data }], guard := none }) (v := .slice (some ⟨b2, o2, none⟩) m1 c1) rfl (by kernel_rfl) (by kernel_rfl) (by kernel_rfl) (fun _ _ _ h => h) (Or.inl ⟨by rfl, ?_⟩) (by assumption) ?_
                · intro w hSw; (try dsimp only at hSw); go_simp
                try simp only [Act.put, List.setIfInBounds_toArray, List.set_cons_zero, List.set_cons_succ]
                refine wpAnyH_take (i := 2) (oi := { dst := some 47, op := .move (.tmp 8), type := 3, pos := "value.go:28", after := #[], guard := none }) (v := .int .i64 (x.val : Int)) rfl (by kernel_rfl) (by kernel_rfl) (by kernel_rfl) (fun _ _ _ h => h) (Or.inl ⟨by rfl, ?_⟩) (by assumption) ?_
                · intro w hSw; (try dsimp only at hSw); go_simp
                try simp only [Act.put, List.setIfInBounds_toArray, List.set_cons_zero, List.set_cons_succ]
                refine wpAnyH_take (i := 3) (oi := { dst := some 48, op := .indexAddr 29 (.tmp 46) (.tmp 47), type := 0, pos := "value.go:28", after := #[{ on := 1, ground := .data }, { on := 2, ground := .data }], guard := none }) (v := .pointer (some ⟨b2, o2 + x.val * 5, none⟩)) rfl (by kernel_rfl) (by kernel_rfl) (by kernel_rfl) (fun _ _ _ h => h) (Or.inl ⟨by rfl, ?_⟩) (by assumption) ?_
                · intro w hSw; (try dsimp only at hSw); go_simp
                try simp only [Act.put, List.setIfInBounds_toArray, List.set_cons_zero, List.set_cons_succ]
                refine wpAnyH_take (i := 4) (oi := { dst := some 49, op := .load 31 (.tmp 48), type := 31, pos := "value.go:28", after := #[{ on := 3, ground := .data }], guard := none }) (v := .agg #[.int .i64 fk, .int .i64 fi, .string ft, .int .i64 fr, .slice ga' gn' gc']) rfl (by kernel_rfl) (by kernel_rfl) (by kernel_rfl) (fun _ _ _ h => h) (Or.inl ⟨by rfl, ?_⟩) (by assumption) ?_
                · intro w hSw; (try dsimp only at hSw); go_simp
                try simp only [Act.put, List.setIfInBounds_toArray, List.set_cons_zero, List.set_cons_succ]
                refine wpAnyH_take (i := 6) (oi := { dst := some 51, op := .load 73 (.tmp 9), type := 73, pos := "value.go:28", after := #[], guard := none }) (v := .agg #[.int .i64 tk, .int .i64 tr]) rfl (by kernel_rfl) (by kernel_rfl) (by kernel_rfl) (fun _ _ _ h => h) (Or.inl ⟨by rfl, ?_⟩) (by assumption) ?_
                · intro w hSw; (try dsimp only at hSw); go_simp
                try simp only [Act.put, List.setIfInBounds_toArray, List.set_cons_zero, List.set_cons_succ]
                refine wpAnyH_ready (rs := [5]) (by kernel_rfl) (by simp) ?_
                refine AllReadyH.cons (o := { dst := some 50, op := .call { callee := .value (.func 101), args := #[.tmp 49], argTypes := #[31] }, type := 73, pos := "value.go:28", after := #[{ on := 4, ground := .data }], guard := none }) rfl (fun K hK => ?_) AllReadyH.nil
                go_wp2_with (go_at_call 101; (refine (typeOf_any _ ⟨fk, fi, ft, fr, ga', gn', gc'⟩).mono ?_; rintro e w9 ⟨rfl, hb9⟩))
                refine hK.out _ _ ?_ (fun hHeld2 => ?_)
                · exact ⟨KC.out hb9 c4, KC.out hb9 y0, KC.out hb9 y1, KC.out hb9 y2, KC.out hb9 y3, KC.out hb9 y4, KC.out hb9 z0, KC.out hb9 z1⟩
                clear hK K
                simp only [ty]
                try simp only [Act.put, List.setIfInBounds_toArray, List.set_cons_zero, List.set_cons_succ]
                refine wpAnyH_take (i := 7) (oi := { dst := some 52, op := .binOp .neq 73 (.tmp 50) (.tmp 51) 73, type := 4, pos := "value.go:28", after := #[{ on := 5, ground := .data }, { on := 6, ground := .data }], guard := none }) (v := .bool true) rfl (by kernel_rfl) (by kernel_rfl) (by kernel_rfl) (fun _ _ _ h => h) (Or.inl ⟨by rfl, ?_⟩) (by assumption) ?_
                · intro w hSw; (try dsimp only at hSw); go_simp
                try simp only [Act.put, List.setIfInBounds_toArray, List.set_cons_zero, List.set_cons_succ]
                refine wpAnyH_done (by kernel_rfl) ?_ _
                simp only [Exit.then]
                have hbW : Below W.heap.size W w9 := (Below.refl _ W).drew.trans hb9
                have g5 := (HI.out.below hbW).1.2
                have g6 : w9.cell? ⟨w.heap.size + 1 + 1 + 1, 0, none⟩ = some (.bool false) := cellOf g5 0
                have g7 : w9.frozen? ⟨w.heap.size + 1 + 1 + 1, 0, none⟩ = false := freeOf g5 0
                gi_wp2
                refine ⟨(keepsFrom_below hbW).trans ((KeepsOthers.setCell _ _ _).from _), rfl, ⟨_, List.mem_append.2 (.inr (List.mem_singleton.2 rfl)), by rw [HF2.out]; simp [hfk]⟩, set_cells g5 _, ?_⟩
                exact (HI.out.2.2.1.trans (hbW.mono HI.out.2.2.1.size)).setCell (p := ⟨w.heap.size + 1 + 1 + 1, 0, none⟩) (by show w.heap.size ≤ w.heap.size + 1 + 1 + 1; omega) _
            case done =>
              rintro D' ys W hD rfl hI hK
              have HI := hid hI
              have HK := hid hK
              have hR : res = true := by
                rw [Hval.out, fieldsAre_eq rc' fs m1 Hn.out Hfn.out, List.all_eq_true]
                exact fun x hx => hI.2.1 x hx
              have HR := hid hR
              have g5 := hI.1.2
              have g6 : W.cell? ⟨w.heap.size + 1 + 1 + 1, 0, none⟩ = some (.bool false) := cellOf g5 0
              have g7 : W.frozen? ⟨w.heap.size + 1 + 1 + 1, 0, none⟩ = false := freeOf g5 0
              clear hseq hI hK hR hbx h70
              gi_wp2
              have hK' : (W.setCell ⟨w.heap.size + 1 + 1 + 1, 0, none⟩ (.bool true)).heap[D']? = some (.deferred (some [])) := (Below.heap_setCell _ _ _ _ (by show D' ≠ w.heap.size + 1 + 1 + 1; omega)).trans HK.out
              have h9 := keep_cells (B := 0) (set_cells g5 (.bool true)) (grownBy_putObj' _ D' (.deferred none)) (fun r e => by cases e; exact ⟨Nat.zero_le _, _, hK', rfl⟩)
              have h10 : Below w.heap.size w ((W.setCell ⟨w.heap.size + 1 + 1 + 1, 0, none⟩ (.bool true)).putObj D' (.deferred none)) := ownFrom_below (β := Unit) (Nat.le_refl _) (Nat.le_refl _) () _ _ _ (HI.out.2.2.1.setCell (p := ⟨w.heap.size + 1 + 1 + 1, 0, none⟩) (by show w.heap.size ≤ w.heap.size + 1 + 1 + 1; omega) _) (grownBy_putObj' _ D' (.deferred none)) (fun r e => by cases e; exact ⟨by omega, _, hK', rfl⟩)
              have q5 := cellOf h9 0
              simp only [List.getElem?_toArray, List.getElem?_cons_zero] at q5
              refine ⟨by simp, .inl ⟨_, _, rfl, run_takeDeferred hK', ?_⟩⟩
              refine ⟨_, by simp [results, Try.results80, go_sem, q5]; rfl, ?_⟩
              exact ⟨by rw [HR.out], h10⟩
            case stop =>
              rintro D' c pre W hD ⟨kk, hkk, rfl⟩ ⟨rfl, ⟨x, hx, hx2⟩, h5, h6⟩ hK
              have hR : res = false := by
                rw [Hval.out, fieldsAre_eq rc' fs m1 Hn.out Hfn.out, List.all_eq_false]
                exact ⟨x, List.mem_finRange _, by simp [hx2]⟩
              have HR := hid hR
              have HK := hid hK
              clear hseq hR hbx h70
              gi_wp2
              have h9 := keep_cells (B := 0) h5 (grownBy_putObj' _ D' (.deferred none)) (fun r e => by cases e; exact ⟨Nat.zero_le _, _, HK.out, rfl⟩)
              have h10 : Below w.heap.size w (W.putObj D' (.deferred none)) := ownFrom_below (β := Unit) (Nat.le_refl _) (Nat.le_refl _) () _ _ _ h6 (grownBy_putObj' _ D' (.deferred none)) (fun r e => by cases e; exact ⟨by omega, _, HK.out, rfl⟩)
              have q5 := cellOf h9 0
              simp only [List.getElem?_toArray, List.getElem?_cons_zero] at q5
              refine ⟨by simp, .inl ⟨_, _, rfl, run_takeDeferred HK.out, ?_⟩⟩
              refine ⟨_, by simp [results, Try.results80, go_sem, q5]; rfl, ?_⟩
              exact ⟨by rw [HR.out], h10⟩
          · have hne' : ((m1 : Int) == (gn : Int)) = false := by simp; omega
            have hne2 : ((m1 : Int) != (gn : Int)) = true := by simp; omega
            have HF : Hid (res = false) := hid (by
              rw [Hval.out]; unfold fieldsAre
              have e1 : m1 = fs.length := Hn.out
              have e2 : gn = rc'.fields.length := Hfn.out
              rw [← e1, ← e2, decide_eq_false hne]; rfl)
            have g5 := (Below.heap_alloc w8 (.cells #[.string nm, .slice ga gn gc, .slice ta tn tc] 95) _ (Array.getElem?_eq_some_iff.1 (GX.out _ hbC)).1).trans (GX.out _ hbC)
            have g6 := cellOf g5 0
            have g7 := freeOf g5 0
            simp only [List.getElem?_toArray, List.getElem?_cons_zero] at g6
            gi_wp2
            have q5 : ((w8.alloc (.cells #[.string nm, .slice ga gn gc, .slice ta tn tc] 95)).setCell ⟨w.heap.size + 1 + 1 + 1, 0, none⟩ (.bool false)).cell? ⟨w.heap.size + 1 + 1 + 1, 0, none⟩ = some (.bool false) := cellOf (set_cells g5 (.bool false)) 0
            exact ⟨_, by simp [results, Try.results80, go_sem, q5]; rfl, by rw [HF.out], (xbC.alloc xbC.size _).setCell (p := ⟨w.heap.size + 1 + 1 + 1, 0, none⟩) (by show w.heap.size ≤ w.heap.size + 1 + 1 + 1; omega) _⟩
        · have HF : Hid (res = true) := hid (by rw [Hres.out]; unfold isB; rw [← Hpl.out, q1]; simp [h4])
          gi_wp2
          refine wpIn_wide.2 ?_
          rw [← hW0]
          clear hW0
          go_region_held3 (fun w2 => w2.cell? ⟨w.heap.size, 0, none⟩ = some (.slice ra rn rc) ∧ w2.cell? ⟨w.heap.size, 1, none⟩ = some (.slice ma mn mc) ∧ w2.cell? ⟨w.heap.size, 2, none⟩ = some (.slice fa fn fc) ∧ w2.cell? ⟨w.heap.size, 3, none⟩ = some (.slice ea en ec) ∧ w2.cell? ⟨w.heap.size + 1, 0, none⟩ = some (.int .i64 k) ∧ w2.cell? ⟨w.heap.size + 1, 1, none⟩ = some (.int .i64 r) ∧ w2.cell? ⟨w.heap.size + 1 + 1, 0, none⟩ = some (.int .i64 k) ∧ w2.cell? ⟨w.heap.size + 1 + 1, 1, none⟩ = some (.int .i64 i1) ∧ w2.cell? ⟨w.heap.size + 1 + 1, 2, none⟩ = some (.string t1) ∧ w2.cell? ⟨w.heap.size + 1 + 1, 3, none⟩ = some (.int .i64 r) ∧ w2.cell? ⟨w.heap.size + 1 + 1, 4, none⟩ = some (.slice a1 m1 c1)) (first | exact SC | exact SB | exact SA | go_keep) ((first
            | (go_at_call 97; (refine (Hid.out K1 _).mono ?_; rintro e w6 ⟨rfl, hb6⟩; have hbA := TR.out HR0.out.drew hb6; obtain ⟨SA, xbA⟩ := FX.out w6 hbA))
            | (go_at_call 100; (refine (Hid.out K2 _ xbA).mono ?_; rintro e w7 ⟨rfl, hb7⟩; have hbB := TR.out hbA hb7; obtain ⟨SB, xbB⟩ := FX.out w7 hbB))
            | (go_at_call 101; (refine (Hid.out K3 _).mono ?_; rintro e w8 ⟨rfl, hb8⟩; have hbC := TR.out hbB hb8; obtain ⟨SC, xbC⟩ := FX.out w8 hbC))))
          have g5 := GX.out _ hbC
          have g6 := cellOf g5 0
          have g7 := freeOf g5 0
          simp only [List.getElem?_toArray, List.getElem?_cons_zero] at g6
          gi_wp2
          have q5 : (w8.setCell ⟨w.heap.size + 1 + 1 + 1, 0, none⟩ (.bool true)).cell? ⟨w.heap.size + 1 + 1 + 1, 0, none⟩ = some (.bool true) := cellOf (set_cells g5 (.bool true)) 0
          exact ⟨_, by simp [results, Try.results80, go_sem, q5]; rfl, by rw [HF.out], xbC.setCell (p := ⟨w.heap.size + 1 + 1 + 1, 0, none⟩) (by show w.heap.size ≤ w.heap.size + 1 + 1 + 1; omega) _⟩
      · have hk2 := hk.symm
        clear hk
        subst hk2
        have hr' : (r1 == r) = false := by simpa using hr
        have HF : Hid (res = false) := hid (by rw [Hres.out]; unfold isB; simp [hr])
        gi_wp2
        refine wpIn_wide.2 ?_
        rw [← hW0]
        clear hW0
        go_region_held3 (fun w2 => w2.cell? ⟨w.heap.size, 0, none⟩ = some (.slice ra rn rc) ∧ w2.cell? ⟨w.heap.size, 1, none⟩ = some (.slice ma mn mc) ∧ w2.cell? ⟨w.heap.size, 2, none⟩ = some (.slice fa fn fc) ∧ w2.cell? ⟨w.heap.size, 3, none⟩ = some (.slice ea en ec) ∧ w2.cell? ⟨w.heap.size + 1, 0, none⟩ = some (.int .i64 k) ∧ w2.cell? ⟨w.heap.size + 1, 1, none⟩ = some (.int .i64 r) ∧ w2.cell? ⟨w.heap.size + 1 + 1, 0, none⟩ = some (.int .i64 k) ∧ w2.cell? ⟨w.heap.size + 1 + 1, 1, none⟩ = some (.int .i64 i1) ∧ w2.cell? ⟨w.heap.size + 1 + 1, 2, none⟩ = some (.string t1) ∧ w2.cell? ⟨w.heap.size + 1 + 1, 3, none⟩ = some (.int .i64 r1) ∧ w2.cell? ⟨w.heap.size + 1 + 1, 4, none⟩ = some (.slice a1 m1 c1)) (first | exact SC | exact SB | exact SA | go_keep) ((first
      | (go_at_call 97; (refine (Hid.out K1 _).mono ?_; rintro e w6 ⟨rfl, hb6⟩; have hbA := TR.out HR0.out.drew hb6; obtain ⟨SA, xbA⟩ := FX.out w6 hbA))
      | (go_at_call 100; (refine (Hid.out K2 _ xbA).mono ?_; rintro e w7 ⟨rfl, hb7⟩; have hbB := TR.out hbA hb7; obtain ⟨SB, xbB⟩ := FX.out w7 hbB))
      | (go_at_call 101; (refine (Hid.out K3 _).mono ?_; rintro e w8 ⟨rfl, hb8⟩; have hbC := TR.out hbB hb8; obtain ⟨SC, xbC⟩ := FX.out w8 hbC))))
        have g5 := GX.out _ hbC
        have g6 := cellOf g5 0
        have g7 := freeOf g5 0
        simp only [List.getElem?_toArray, List.getElem?_cons_zero] at g6
        gi_wp2
        have q5 : (w8.setCell ⟨w.heap.size + 1 + 1 + 1, 0, none⟩ (.bool false)).cell? ⟨w.heap.size + 1 + 1 + 1, 0, none⟩ = some (.bool false) := cellOf (set_cells g5 (.bool false)) 0
        exact ⟨_, by simp [results, Try.results80, go_sem, q5]; rfl, by rw [HF.out], xbC.setCell (p := ⟨w.heap.size + 1 + 1 + 1, 0, none⟩) (by show w.heap.size ≤ w.heap.size + 1 + 1 + 1; omega) _⟩
    · have hk' : (k1 == k) = false := by simpa using hk
      have HF : Hid (res = false) := hid (by rw [Hres.out]; unfold isB; simp [hk])
      gi_wp2
      refine wpIn_wide.2 ?_
      rw [← hW0]
      clear hW0
      go_region_held3 (fun w2 => w2.cell? ⟨w.heap.size, 0, none⟩ = some (.slice ra rn rc) ∧ w2.cell? ⟨w.heap.size, 1, none⟩ = some (.slice ma mn mc) ∧ w2.cell? ⟨w.heap.size, 2, none⟩ = some (.slice fa fn fc) ∧ w2.cell? ⟨w.heap.size, 3, none⟩ = some (.slice ea en ec) ∧ w2.cell? ⟨w.heap.size + 1, 0, none⟩ = some (.int .i64 k) ∧ w2.cell? ⟨w.heap.size + 1, 1, none⟩ = some (.int .i64 r) ∧ w2.cell? ⟨w.heap.size + 1 + 1, 0, none⟩ = some (.int .i64 k1) ∧ w2.cell? ⟨w.heap.size + 1 + 1, 1, none⟩ = some (.int .i64 i1) ∧ w2.cell? ⟨w.heap.size + 1 + 1, 2, none⟩ = some (.string t1) ∧ w2.cell? ⟨w.heap.size + 1 + 1, 3, none⟩ = some (.int .i64 r1) ∧ w2.cell? ⟨w.heap.size + 1 + 1, 4, none⟩ = some (.slice a1 m1 c1)) (first | exact SC | exact SB | exact SA | go_keep) ((first
      | (go_at_call 97; (refine (Hid.out K1 _).mono ?_; rintro e w6 ⟨rfl, hb6⟩; have hbA := TR.out HR0.out.drew hb6; obtain ⟨SA, xbA⟩ := FX.out w6 hbA))
      | (go_at_call 100; (refine (Hid.out K2 _ xbA).mono ?_; rintro e w7 ⟨rfl, hb7⟩; have hbB := TR.out hbA hb7; obtain ⟨SB, xbB⟩ := FX.out w7 hbB))
      | (go_at_call 101; (refine (Hid.out K3 _).mono ?_; rintro e w8 ⟨rfl, hb8⟩; have hbC := TR.out hbB hb8; obtain ⟨SC, xbC⟩ := FX.out w8 hbC))))
      have g5 := GX.out _ hbC
      have g6 := cellOf g5 0
      have g7 := freeOf g5 0
      simp only [List.getElem?_toArray, List.getElem?_cons_zero] at g6
      gi_wp2
      have q5 : (w8.setCell ⟨w.heap.size + 1 + 1 + 1, 0, none⟩ (.bool false)).cell? ⟨w.heap.size + 1 + 1 + 1, 0, none⟩ = some (.bool false) := cellOf (set_cells g5 (.bool false)) 0
      exact ⟨_, by simp [results, Try.results80, go_sem, q5]; rfl, by rw [HF.out], xbC.setCell (p := ⟨w.heap.size + 1 + 1 + 1, 0, none⟩) (by show w.heap.size ≤ w.heap.size + 1 + 1 + 1; omega) _⟩
end Go.Proofs.Ytenfgahedbeekaa

