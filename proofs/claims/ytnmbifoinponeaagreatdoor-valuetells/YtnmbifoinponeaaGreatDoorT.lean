/- Records' fields: rightFields. -/
import Derived.Test.YtnmbifoinponeaaGreatDoorS
import Derived.Test.YtnmbifoinponeaaGreatDoorR
namespace Go.Proofs.YtnmbifoinponeaaGreatDoor
open Go.RowKit Go.Deep Go.Shelf
set_option linter.unusedVariables false
set_option linter.unusedSimpArgs false
attribute [local go_sem] Oper.semAt_some

structure Rc where
  name : ByteArray
  fields : List ByteArray
  types : List TyP
structure RH where
  name : ByteArray
  fa : Option Addr
  fn : Nat
  fc : Nat
  ta : Option Addr
  tn : Nat
  tc : Nat
def RH.cs (h : RH) : List Value := [.string h.name, .slice h.fa h.fn h.fc, .slice h.ta h.tn h.tc]
def RH.v (h : RH) : Value := .agg #[.string h.name, .slice h.fa h.fn h.fc, .slice h.ta h.tn h.tc]
structure RcRd (w : World) (h : RH) (r : Rc) : Prop where
  nm : h.name = r.name
  ns : h.name.size ≤ 9223372036854775807
  fn : h.fn = r.fields.length
  fc : h.fn ≤ h.fc
  f2 : h.fn ≤ 9223372036854775807
  fr : SRd w h.fa r.fields
  tn : h.tn = r.types.length
  t2 : h.tn ≤ 9223372036854775807
  tr : TRd w h.ta r.types
theorem RcRd.below {w w' : World} {h : RH} {r : Rc} {B : Nat} (d : RcRd w h r) (hB : w.heap.size ≤ B) (k : Below B w w') : RcRd w' h r :=
  ⟨d.nm, d.ns, d.fn, d.fc, d.f2, d.fr.below hB k, d.tn, d.t2, d.tr.below hB k⟩
def simB (t : TyP) : Bool := decide (t.2 = 0) && (decide (t.1 = 1) || decide (t.1 = 2) || decide (t.1 = 3))
def fieldsB (r : Rc) : Bool := decide (1 ≤ r.fields.length) && decide (r.fields.length ≤ 12) && decide (r.fields.length = r.types.length) && r.types.all simB && namesB smB r.fields

/- Fields' types with their numbers. -/
def tz (ts : List TyP) (n : Nat) : List (Nat × TyP) := (List.range n).map fun i => (i, ts.getD i (0, 0))
theorem tz_length (ts : List TyP) (n : Nat) : (tz ts n).length = n := by simp [tz]
theorem tz_at (ts : List TyP) (n k : Nat) (x : Nat × TyP) (h : (tz ts n)[k]? = some x) : x.1 = k ∧ x.2 = ts.getD k (0, 0) := by
  simp only [tz, List.getElem?_map, Option.map_eq_some_iff] at h
  obtain ⟨i, hi, rfl⟩ := h
  have := List.getElem?_eq_some_iff.1 hi
  simp at this
  exact ⟨this.2.symm, by rw [this.2]⟩
theorem tz_all (ts : List TyP) (p : TyP → Bool) : (∀ x ∈ tz ts ts.length, p x.2 = true) → ts.all p = true := fun h => by
  rw [List.all_eq_true]
  intro t ht
  obtain ⟨i, hi⟩ := List.getElem?_of_mem ht
  have hl := (List.getElem?_eq_some_iff.1 hi).1
  have := h (i, ts.getD i (0, 0)) (by simp only [tz, List.mem_map, List.mem_range]; exact ⟨i, hl, rfl⟩)
  simp only [List.getD_eq_getElem?_getD, hi, Option.getD_some] at this
  exact this
theorem tz_no (ts : List TyP) (p : TyP → Bool) (x : Nat × TyP) (hx : x ∈ tz ts ts.length) (h : p x.2 = false) : ts.all p = false := by
  rw [List.all_eq_false]
  simp only [tz, List.mem_map, List.mem_range] at hx
  obtain ⟨i, hi, rfl⟩ := hx
  refine ⟨ts[i], List.getElem_mem hi, ?_⟩
  simp only [List.getD_eq_getElem?_getD, List.getElem?_eq_getElem hi, Option.getD_some] at h
  simp [h]

/- Between two rounds. -/
def FI (w : World) (c1 : Array Value) (pre : List (Nat × TyP)) (W : World) : Prop :=
  (W.heap[w.heap.size]? = some (.cells c1 45 (0, 0)) ∧ W.heap[w.heap.size + 1]? = some (.cells #[.bool false] 4 (0, 0))) ∧ (∀ x ∈ pre, simB x.2 = true) ∧ Below w.heap.size w W ∧ w.heap.size + 3 ≤ W.heap.size
theorem FI_own (w : World) (c1 : Array Value) {B : Nat} (hB : w.heap.size ≤ B) : OwnFrom B (FI w c1) := fun s A A' row hs hg hr =>
  ⟨⟨keep_cells hs.1.1 hg hr, keep_cells hs.1.2 hg hr⟩, hs.2.1, ownFrom_below (β := Unit) (Nat.le_refl _) hB () A A' row hs.2.2.1 hg hr, Nat.le_trans hs.2.2.2 hg.size⟩
theorem FI.below {w W W' : World} {c1 : Array Value} {pre : List (Nat × TyP)} (h : FI w c1 pre W) (k : Below W.heap.size W W') : FI w c1 pre W' := by
  have hl : ∀ {b : Nat} {o : Obj}, W.heap[b]? = some o → W'.heap[b]? = some o := fun e => (k.block _ (Array.getElem?_eq_some_iff.1 e).1).trans e
  exact ⟨⟨hl h.1.1, hl h.1.2⟩, h.2.1, h.2.2.1.trans (k.mono h.2.2.1.size), Nat.le_trans h.2.2.2 k.size⟩
theorem FI.snoc {w W : World} {c1 : Array Value} {pre : List (Nat × TyP)} {x : Nat × TyP} (h : FI w c1 pre W) (hx : simB x.2 = true) : FI w c1 (pre ++ [x]) W := ⟨h.1, fun y hy => by
  rcases List.mem_append.1 hy with hy | hy
  · exact h.2.1 y hy
  · simp at hy; subst hy; exact hx, h.2.2⟩
def FX (w : World) (c : Code) (pre : List (Nat × TyP)) (W : World) : Prop :=
  c = .ret ∧ (∃ x ∈ pre, simB x.2 = false) ∧ W.heap[w.heap.size + 1]? = some (.cells #[.bool false] 4 (0, 0)) ∧ Below w.heap.size w W
theorem FX_own (w : World) (c : Code) {B : Nat} (hB : w.heap.size ≤ B) : OwnFrom B (FX w c) := fun s A A' row hs hg hr =>
  ⟨hs.1, hs.2.1, keep_cells hs.2.2.1 hg hr, ownFrom_below (β := Unit) (Nat.le_refl _) hB () A A' row hs.2.2.2 hg hr⟩

set_option maxRecDepth 100000 in
set_option maxHeartbeats 1000000 in
theorem rightFields_any (w : World) (h : RH) (r : Rc) (d : RcRd w h r) :
    Calls Tryz.prog 45 #[h.v] w fun e w' => e = .returned (.bool (fieldsB r)) ∧ Below w.heap.size w w' := by
  obtain ⟨nm, fa, fn, fc, ta, tn, tc⟩ := h
  have D := hid d
  have f2 := d.f2
  have t2 := d.t2
  have Hfn := hid d.fn
  have Htn := hid d.tn
  obtain ⟨res, hres⟩ : ∃ res, res = fieldsB r := ⟨_, rfl⟩
  rw [← hres]
  have Hres := hid hres
  simp only [RH.v] at f2 t2 ⊢
  have hro : Fence.wide.round = none := rfl
  obtain ⟨W0, hW0⟩ : ∃ W0, W0 = (w.alloc (.cells #[.string nm, .slice fa fn fc, .slice ta tn tc] 45)).alloc (.cells #[.bool false] 4) := ⟨_, rfl⟩
  have b1 : W0.heap[w.heap.size]? = some (.cells #[.string nm, .slice fa fn fc, .slice ta tn tc] 45 (0, 0)) := by rw [hW0]; exact (Below.heap_alloc _ _ _ (by simp)).trans (heap_alloc_new w _)
  have b2 : W0.heap[w.heap.size + 1]? = some (.cells #[.bool false] 4 (0, 0)) := by
    have := heap_alloc_new (w.alloc (.cells #[.string nm, .slice fa fn fc, .slice ta tn tc] 45)) (.cells #[.bool false] 4)
    rw [World.size_alloc] at this
    rw [hW0]; exact this
  have hb0 : Below w.heap.size w W0 := by rw [hW0]; exact ((Below.refl _ _).alloc (Nat.le_refl _) _).alloc (by simp) _
  have hz0 : W0.heap.size = w.heap.size + 2 := by rw [hW0]; simp
  have H1 := hid b1
  have H2 := hid b2
  have HB0 := hid hb0
  clear d hres b1 b2 hb0
  refine (callsIn_wide (n := 6)).1 ?_
  refine callsIn_of_wp_marks Tryz.func45 rfl trivial ?_ hro
  simp only [Tryz.ntmps45, List.size_toArray, List.length_cons, List.length_nil, Nat.reduceAdd, Nat.reduceSub, Array.replicate_succ, Array.replicate_zero, List.push_toArray, List.append_toArray, List.nil_append, List.cons_append]
  by_cases hbad : fn < 1 ∨ 12 < fn ∨ fn ≠ tn
  · have hresF : res = false := by
      rw [Hres.out]
      have e1 : fn = r.fields.length := Hfn.out
      have e2 : tn = r.types.length := Htn.out
      unfold fieldsB
      rw [← e1, ← e2]
      rcases hbad with h | h | h
      · have : ¬ 1 ≤ fn := by omega
        simp [this]
      · have : ¬ fn ≤ 12 := by omega
        simp [this]
      · simp [h]
    have HresF := hid hresF
    clear hresF
    have q5 : W0.cell? ⟨w.heap.size + 1, 0, none⟩ = some (.bool false) := cellOf H2.out 0
    rcases Nat.lt_or_ge fn 1 with h1 | h1
    · gi_wp2
      rw [← hW0]
      exact ⟨_, by simp [results, Tryz.results45, go_sem, q5]; rfl, by rw [HresF.out], HB0.out⟩
    · rcases Nat.lt_or_ge 12 fn with h2 | h2
      · gi_wp2
        rw [← hW0]
        exact ⟨_, by simp [results, Tryz.results45, go_sem, q5]; rfl, by rw [HresF.out], HB0.out⟩
      · have h3 : fn ≠ tn := by omega
        have h3' : ((fn : Int) != (tn : Int)) = true := by simp; omega
        gi_wp2
        rw [← hW0]
        exact ⟨_, by simp [results, Tryz.results45, go_sem, q5]; rfl, by rw [HresF.out], HB0.out⟩
  · have h1 : 1 ≤ fn := by omega
    have h2 : fn ≤ 12 := by omega
    have h3 : fn = tn := by omega
    subst h3
    gi_wp2_with (refine ⟨trivial, ?_⟩; gi_at_call 42; refine (types_in _ _ trivial hro _ _ _ rfl rfl _).mono ?_; rintro e w7 ⟨rfl, rfl⟩)
    rw [← hW0]
    obtain ⟨W1, hW1⟩ : ∃ W1, W1 = W0.alloc (.cells #[.string nm, .slice fa fn fc, .slice ta fn tc] 45) := ⟨_, rfl⟩
    rw [← hW1]
    have hb01 : Below W0.heap.size W0 W1 := by rw [hW1]; exact (Below.refl _ _).alloc (Nat.le_refl _) _
    have hz1 : W1.heap.size = w.heap.size + 3 := by rw [hW1]; simp; omega
    have hbx : W1.heap[w.heap.size + 1 + 1]? = some (.cells #[.string nm, .slice fa fn fc, .slice ta fn tc] 45 (0, 0)) := by
      have := heap_alloc_new W0 (.cells #[.string nm, .slice fa fn fc, .slice ta fn tc] 45)
      rw [hz0] at this
      rw [hW1]; exact this
    have hbw1 : Below w.heap.size w W1 := HB0.out.trans (hb01.mono HB0.out.size)
    have D1 := hid (D.out.below (Nat.le_refl _) hbw1)
    obtain ⟨Z, hZ⟩ : ∃ Z, Z = tz r.types fn := ⟨_, rfl⟩
    have hlt1 : r.types ≠ [] → ∀ b off, ta = some ⟨b, off, none⟩ → b < W1.heap.size := fun hne b off e => by
      obtain ⟨x, hx⟩ : ∃ x, r.types[0]? = some x := by
        cases hc : r.types with
        | nil => exact absurd hc hne
        | cons y r => exact ⟨y, rfl⟩
      obtain ⟨b', off', e', hc, _⟩ := D1.out.tr 0 x hx
      simp only at e'
      rw [e] at e'; cases e'
      exact World.block_lt_of_cell? W1 _ hc
    have hseq := types_stops (fun x : Nat × TyP => x.1) (fun x => x.2) r.types Z 5 (by omega) (w.heap.size + 1 + 1) W1.heap.size nm fa ta fn fc fn tc (by rw [hZ, tz_length]) (fun k x e => by rw [hZ] at e; exact tz_at _ _ k x e) Htn.out (by omega) t2 W1 (Nat.le_refl _) hbx D1.out.tr hlt1
    have h70 : FI w #[.string nm, .slice fa fn fc, .slice ta fn tc] [] W1 := ⟨⟨(hb01.block _ (by omega)).trans H1.out, (hb01.block _ (by omega)).trans H2.out⟩, by simp, hbw1, by omega⟩
    have hC : w.heap.size ≤ W1.heap.size := by omega
    have hZt : Hid (Z = tz r.types r.types.length) := hid (by rw [hZ, show fn = r.types.length from Htn.out])
    clear hlt1 hW0 hW1 hZ hbad HB0 hb01 H1 H2
    refine wpIn_rangeFunc_ownH hro (by omega) (gf := 63) (lb := #[.pointer (some ⟨w.heap.size + 1 + 1, 0, none⟩)]) rfl trivial (enters_of Tryz.func63 (by kernel_rfl) rfl) hseq KB_t (KB_b (Nat.le_refl _) (by omega)) (Below.refl _ _) (fun _ => rfl)
      (FI w #[.string nm, .slice fa fn fc, .slice ta fn tc]) (FX w) (FI_own w _ hC) (fun c => FX_own w c hC)
      h70
      (fun x a' W => ∃ X, W.heap[X]? = some (.cells #[.int .i64 x.2.1, .int .i64 x.2.2] 28 (0, 0)) ∧ a' = { tmps := #[.agg #[.string nm, .slice fa fn fc, .slice ta fn tc], .pointer (some ⟨w.heap.size, 0, none⟩), .pointer (some ⟨w.heap.size + 1, 0, none⟩), .int .i64 (fn : Int), undef, .pointer (some ⟨X, 0, none⟩), .pointer (some ⟨w.heap.size, 1, none⟩), .slice fa fn fc, .int .i64 (fn : Int), .int .i64 (fn : Int), .bool (decide ((fn : Int) < 1)), .bool (decide ((fn : Int) < 1)), .int .i64 (fn : Int), .bool (decide (12 < (fn : Int))), .bool (decide ((fn : Int) < 1) || decide (12 < (fn : Int))), .bool (decide ((fn : Int) < 1) || decide (12 < (fn : Int))), .int .i64 (fn : Int), .pointer (some ⟨w.heap.size, 2, none⟩), .slice ta fn tc, .int .i64 (fn : Int), .bool false, .bool (decide ((fn : Int) < 1) || decide (12 < (fn : Int))), .agg #[.string nm, .slice fa fn fc, .slice ta fn tc], .func (.func 63) #[] #[.pointer (some ⟨w.heap.size + 1 + 1, 0, none⟩)], .int .i64 (x.1 : Int), .agg #[.int .i64 x.2.1, .int .i64 x.2.2], undef, undef, undef, undef, undef, undef], defers := [] })
      (fun x a' u A B row hs hg hr => by
        obtain ⟨X, h2, h4⟩ := hs
        exact ⟨X, keep_cells h2 hg hr, h4⟩)
      ?assign ?body ?done ?stop
    case assign =>
      rintro ll pre x W K hi hK
      simp only [encT, ty]
      gi_wp2
      exact hK _ _ ((KeepsOthers.alloc _ _).from _) (KB_of ((Below.refl _ W).alloc (Nat.le_refl _) _) (by have := hi.2.2.2; omega) (by have := hi.2.2.2; omega)) ((FI_own w _ hC).alloc _ hi) ⟨W.heap.size, heap_alloc_new W _, rfl⟩
    case body =>
      rintro ll pre x a' W hll ⟨rr, hrr⟩ hi ⟨X, hx, rfl⟩ hlt
      obtain ⟨ix, tk, tr⟩ := x
      have HI := hid hi
      have x0 := cellOf hx 0
      have x1 := cellOf hx 1
      simp only [List.getElem?_toArray, List.getElem?_cons_zero, List.getElem?_cons_succ] at x0 x1
      have K1 : Hid (∀ w' : World, Calls Tryz.prog 61 #[.agg #[.int .i64 tk, .int .i64 tr]] w' fun e w'' => e = .returned (.bool (simB (tk, tr))) ∧ Below w'.heap.size w' w'') := hid (fun w' => isSimple_any w' tk tr)
      have g2 : W.cell? ⟨w.heap.size + 1, 0, none⟩ = some (.bool false) := cellOf hi.1.2 0
      clear hx hrr hseq hi hbx h70
      cases hq : simB (tk, tr) with
      | true =>
        rw [hq] at K1
        gi_wp2_with (refine ⟨trivial, ?_⟩; gi_at_call 61; refine (CallsIn.inRound ll (callsIn_wide.2 (Hid.out K1 _))).mono ?_; rintro e w8 ⟨rfl, hb8⟩)
        exact ⟨keepsFrom_below hb8, KB_of hb8 (by have := HI.out.2.2.2; omega) (by have := HI.out.2.2.2; omega), (HI.out.below hb8).snoc hq⟩
      | false =>
        rw [hq] at K1
        gi_wp2_with (refine ⟨trivial, ?_⟩; gi_at_call 61; refine (CallsIn.inRound ll (callsIn_wide.2 (Hid.out K1 _))).mono ?_; rintro e w8 ⟨rfl, hb8⟩; have g5 := ((HI.out.below hb8).1.2); have g6 : w8.cell? ⟨w.heap.size + 1, 0, none⟩ = some (.bool false) := cellOf g5 0; have g7 : w8.frozen? ⟨w.heap.size + 1, 0, none⟩ = false := freeOf g5 0)
        refine ⟨(keepsFrom_below hb8).trans ((KeepsOthers.setCell _ _ _).from _), rfl, ⟨_, List.mem_append.2 (.inr (List.mem_singleton.2 rfl)), hq⟩, set_cells g5 _, ?_⟩
        exact (HI.out.2.2.1.trans (hb8.mono HI.out.2.2.1.size)).setCell (p := ⟨w.heap.size + 1, 0, none⟩) (by show w.heap.size ≤ w.heap.size + 1; omega) _
    case done =>
      rintro D' ys W hD rfl hI hK
      have HI := hid hI
      have HK := hid hK
      have g0 : W.cell? ⟨w.heap.size, 1, none⟩ = some (.slice fa fn fc) := cellOf hI.1.1 1
      have DW := D.out.below (Nat.le_refl _) hI.2.2.1
      have K1 := hid (rightNames_42 W fa fn fc r.fields Hfn.out f2 DW.fc DW.fr)
      have hval : fieldsB r = namesB smB r.fields := by
        have e1 : fn = r.fields.length := Hfn.out
        have e2 : fn = r.types.length := Htn.out
        have e3 : r.types.all simB = true := tz_all _ _ (by rw [← hZt.out]; exact hI.2.1)
        unfold fieldsB
        rw [← e1, ← e2, e3]
        simp [h1, h2]
      have Hval := hid hval
      clear hseq hI hK hval DW hbx h70
      gi_wp2_with (refine ⟨trivial, ?_⟩; gi_at_call 46; refine (callsIn_wide.2 (Hid.out K1)).mono ?_; rintro e w8 ⟨rfl, hb8⟩; have g5 := ((HI.out.below hb8).1.2); have g6 : w8.cell? ⟨w.heap.size + 1, 0, none⟩ = some (.bool false) := cellOf g5 0; have g7 : w8.frozen? ⟨w.heap.size + 1, 0, none⟩ = false := freeOf g5 0)
      have hKd : w8.heap[D']? = some (.deferred (some [])) := (hb8.block _ (Array.getElem?_eq_some_iff.1 HK.out).1).trans HK.out
      have hK' : (w8.setCell ⟨w.heap.size + 1, 0, none⟩ (.bool (namesB smB r.fields))).heap[D']? = some (.deferred (some [])) := (Below.heap_setCell _ _ _ _ (by show D' ≠ w.heap.size + 1; omega)).trans hKd
      have h9 := keep_cells (B := 0) (set_cells g5 (.bool (namesB smB r.fields))) (grownBy_putObj' _ D' (.deferred none)) (fun r e => by cases e; exact ⟨Nat.zero_le _, _, hK', rfl⟩)
      have h10 : Below w.heap.size w ((w8.setCell ⟨w.heap.size + 1, 0, none⟩ (.bool (namesB smB r.fields))).putObj D' (.deferred none)) := ownFrom_below (β := Unit) (Nat.le_refl _) (Nat.le_refl _) () _ _ _ ((HI.out.2.2.1.trans (hb8.mono HI.out.2.2.1.size)).setCell (p := ⟨w.heap.size + 1, 0, none⟩) (by show w.heap.size ≤ w.heap.size + 1; omega) _) (grownBy_putObj' _ D' (.deferred none)) (fun r e => by cases e; exact ⟨by omega, _, hK', rfl⟩)
      have q5 := cellOf h9 0
      simp only [List.getElem?_toArray, List.getElem?_cons_zero] at q5
      refine ⟨by simp, .inl ⟨_, _, rfl, run_takeDeferred hK', ?_⟩⟩
      refine ⟨_, by simp [results, Tryz.results45, go_sem, q5]; rfl, ?_⟩
      exact ⟨by rw [Hres.out, Hval.out], h10⟩
    case stop =>
      rintro D' c pre W hD ⟨kk, hkk, rfl⟩ ⟨rfl, ⟨x, hx, hx2⟩, h5, h6⟩ hK
      have hval : fieldsB r = false := by
        have e3 : r.types.all simB = false := tz_no _ _ x (by rw [← hZt.out]; exact List.mem_of_mem_take hx) hx2
        unfold fieldsB
        rw [e3]; simp
      have Hval := hid hval
      have HK := hid hK
      clear hseq hval hbx h70
      gi_wp2
      have h9 := keep_cells (B := 0) h5 (grownBy_putObj' _ D' (.deferred none)) (fun r e => by cases e; exact ⟨Nat.zero_le _, _, HK.out, rfl⟩)
      have h10 : Below w.heap.size w (W.putObj D' (.deferred none)) := ownFrom_below (β := Unit) (Nat.le_refl _) (Nat.le_refl _) () _ _ _ h6 (grownBy_putObj' _ D' (.deferred none)) (fun r e => by cases e; exact ⟨by omega, _, HK.out, rfl⟩)
      have q5 := cellOf h9 0
      simp only [List.getElem?_toArray, List.getElem?_cons_zero] at q5
      refine ⟨by simp, .inl ⟨_, _, rfl, run_takeDeferred HK.out, ?_⟩⟩
      refine ⟨_, by simp [results, Tryz.results45, go_sem, q5]; rfl, ?_⟩
      exact ⟨by rw [Hres.out, Hval.out], h10⟩
end Go.Proofs.YtnmbifoinponeaaGreatDoor
