/- Records' fields: rightFields. -/
import Derived.Test.YthnolocldeokeaaGreatDoorJAA
namespace Go.Proofs.YthnolocldeokeaaGreatDoor
set_option maxRecDepth 100000
open Go.RowKit Go.Deep Go.Shelf
set_option linter.unusedVariables false
set_option linter.unusedSimpArgs false
attribute [local go_sem] Oper.semAt_some

structure Rc where
  name : ByteArray
  fields : List ByteArray
  types : List TyP
structure RH where
  name : ByteArray
  fa : Option Addr
  fn : Nat
  fc : Nat
  ta : Option Addr
  tn : Nat
  tc : Nat
def RH.cs (h : RH) : List Value := [.string h.name, .slice h.fa h.fn h.fc, .slice h.ta h.tn h.tc]
def RH.v (h : RH) : Value := .agg #[.string h.name, .slice h.fa h.fn h.fc, .slice h.ta h.tn h.tc]
structure RcRd (w : World) (h : RH) (r : Rc) : Prop where
  nm : h.name = r.name
  ns : h.name.size ≤ 9223372036854775807
  fn : h.fn = r.fields.length
  fc : h.fn ≤ h.fc
  f2 : h.fn ≤ 9223372036854775807
  fr : SRd w h.fa r.fields
  tn : h.tn = r.types.length
  t2 : h.tn ≤ 9223372036854775807
  tr : TRd w h.ta r.types
theorem RcRd.below {w w' : World} {h : RH} {r : Rc} {B : Nat} (d : RcRd w h r) (hB : w.heap.size ≤ B) (k : Below B w w') : RcRd w' h r :=
  ⟨d.nm, d.ns, d.fn, d.fc, d.f2, d.fr.below hB k, d.tn, d.t2, d.tr.below hB k⟩
def simB (t : TyP) : Bool := decide (t.2 = 0) && (decide (t.1 = 1) || decide (t.1 = 2) || decide (t.1 = 3))
def fieldsB (r : Rc) : Bool := decide (1 ≤ r.fields.length) && decide (r.fields.length ≤ 12) && decide (r.fields.length = r.types.length) && r.types.all simB && namesB smB r.fields

/- Fields' types with their numbers. -/
def tz (ts : List TyP) (n : Nat) : List (Nat × TyP) := (List.range n).map fun i => (i, ts.getD i (0, 0))
theorem tz_length (ts : List TyP) (n : Nat) : (tz ts n).length = n := by simp [tz]
theorem tz_at (ts : List TyP) (n k : Nat) (x : Nat × TyP) (h : (tz ts n)[k]? = some x) : x.1 = k ∧ x.2 = ts.getD k (0, 0) := by
  simp only [tz, List.getElem?_map, Option.map_eq_some_iff] at h
  obtain ⟨i, hi, rfl⟩ := h
  have := List.getElem?_eq_some_iff.1 hi
  simp at this
  exact ⟨this.2.symm, by rw [this.2]⟩
theorem tz_all (ts : List TyP) (p : TyP → Bool) : (∀ x ∈ tz ts ts.length, p x.2 = true) → ts.all p = true := fun h => by
  rw [List.all_eq_true]
  intro t ht
  obtain ⟨i, hi⟩ := List.getElem?_of_mem ht
  have hl := (List.getElem?_eq_some_iff.1 hi).1
  have := h (i, ts.getD i (0, 0)) (by simp only [tz, List.mem_map, List.mem_range]; exact ⟨i, hl, rfl⟩)
  simp only [List.getD_eq_getElem?_getD, hi, Option.getD_some] at this
  exact this
theorem tz_no (ts : List TyP) (p : TyP → Bool) (x : Nat × TyP) (hx : x ∈ tz ts ts.length) (h : p x.2 = false) : ts.all p = false := by
  rw [List.all_eq_false]
  simp only [tz, List.mem_map, List.mem_range] at hx
  obtain ⟨i, hi, rfl⟩ := hx
  refine ⟨ts[i], List.getElem_mem hi, ?_⟩
  simp only [List.getD_eq_getElem?_getD, List.getElem?_eq_getElem hi, Option.getD_some] at h
  simp [h]

/- Between two rounds. -/
def FI (w : World) (c1 : Array Value) (pre : List (Nat × TyP)) (W : World) : Prop :=
  (W.heap[w.heap.size]? = some (.cells c1 75 (0, 0)) ∧ W.heap[w.heap.size + 1]? = some (.cells #[.bool false] 4 (0, 0))) ∧ (∀ x ∈ pre, simB x.2 = true) ∧ Below w.heap.size w W ∧ w.heap.size + 3 ≤ W.heap.size
theorem FI_own (w : World) (c1 : Array Value) {B : Nat} (hB : w.heap.size ≤ B) : OwnFrom B (FI w c1) := fun s A A' row hs hg hr =>
  ⟨⟨keep_cells hs.1.1 hg hr, keep_cells hs.1.2 hg hr⟩, hs.2.1, ownFrom_below (β := Unit) (Nat.le_refl _) hB () A A' row hs.2.2.1 hg hr, Nat.le_trans hs.2.2.2 hg.size⟩
theorem FI.below {w W W' : World} {c1 : Array Value} {pre : List (Nat × TyP)} (h : FI w c1 pre W) (k : Below W.heap.size W W') : FI w c1 pre W' := by
  have hl : ∀ {b : Nat} {o : Obj}, W.heap[b]? = some o → W'.heap[b]? = some o := fun e => (k.block _ (Array.getElem?_eq_some_iff.1 e).1).trans e
  exact ⟨⟨hl h.1.1, hl h.1.2⟩, h.2.1, h.2.2.1.trans (k.mono h.2.2.1.size), Nat.le_trans h.2.2.2 k.size⟩
theorem FI.snoc {w W : World} {c1 : Array Value} {pre : List (Nat × TyP)} {x : Nat × TyP} (h : FI w c1 pre W) (hx : simB x.2 = true) : FI w c1 (pre ++ [x]) W := ⟨h.1, fun y hy => by
  rcases List.mem_append.1 hy with hy | hy
  · exact h.2.1 y hy
  · simp at hy; subst hy; exact hx, h.2.2⟩
def FX (w : World) (c : Code) (pre : List (Nat × TyP)) (W : World) : Prop :=
  c = .ret ∧ (∃ x ∈ pre, simB x.2 = false) ∧ W.heap[w.heap.size + 1]? = some (.cells #[.bool false] 4 (0, 0)) ∧ Below w.heap.size w W
theorem FX_own (w : World) (c : Code) {B : Nat} (hB : w.heap.size ≤ B) : OwnFrom B (FX w c) := fun s A A' row hs hg hr =>
  ⟨hs.1, hs.2.1, keep_cells hs.2.2.1 hg hr, ownFrom_below (β := Unit) (Nat.le_refl _) hB () A A' row hs.2.2.2 hg hr⟩

set_option maxRecDepth 100000 in
set_option maxHeartbeats 1000000 in
theorem rightFields_any (w : World) (h : RH) (r : Rc) (d : RcRd w h r) :
    Calls Tryz.prog 84 #[h.v] w fun e w' => e = .returned (.bool (fieldsB r)) ∧ Below w.heap.size w w' := by
  obtain ⟨nm, fa, fn, fc, ta, tn, tc⟩ := h
  have D := hid d
  have f2 := d.f2
  have t2 := d.t2
  have Hfn := hid d.fn
  have Htn := hid d.tn
  obtain ⟨res, hres⟩ : ∃ res, res = fieldsB r := ⟨_, rfl⟩
  rw [← hres]
  have Hres := hid hres
  simp only [RH.v] at f2 t2 ⊢
  have hro : Fence.wide.round = none := rfl
  obtain ⟨W0, hW0⟩ : ∃ W0, W0 = (w.alloc (.cells #[.string nm, .slice fa fn fc, .slice ta tn tc] 75)).alloc (.cells #[.bool false] 4) := ⟨_, rfl⟩
  have b1 : W0.heap[w.heap.size]? = some (.cells #[.string nm, .slice fa fn fc, .slice ta tn tc] 75 (0, 0)) := by rw [hW0]; exact (Below.heap_alloc _ _ _ (by simp)).trans (heap_alloc_new w _)
  have b2 : W0.heap[w.heap.size + 1]? = some (.cells #[.bool false] 4 (0, 0)) := by
    have := heap_alloc_new (w.alloc (.cells #[.string nm, .slice fa fn fc, .slice ta tn tc] 75)) (.cells #[.bool false] 4)
    rw [World.size_alloc] at this
    rw [hW0]; exact this
  have hb0 : Below w.heap.size w W0 := by rw [hW0]; exact ((Below.refl _ _).alloc (Nat.le_refl _) _).alloc (by simp) _
  have hz0 : W0.heap.size = w.heap.size + 2 := by rw [hW0]; simp
  have H1 := hid b1
  have H2 := hid b2
  have HB0 := hid hb0
  clear d hres b1 b2 hb0
  refine (callsIn_wide (n := 6)).1 ?_
  refine callsIn_of_wp_marks Tryz.func84 rfl trivial ?_ hro
  simp only [Tryz.ntmps84, List.size_toArray, List.length_cons, List.length_nil, Nat.reduceAdd, Nat.reduceSub, Array.replicate_succ, Array.replicate_zero, List.push_toArray, List.append_toArray, List.nil_append, List.cons_append]
  by_cases hbad : fn < 1 ∨ 12 < fn ∨ fn ≠ tn
  · have hresF : res = false := by
      rw [Hres.out]
      have e1 : fn = r.fields.length := Hfn.out
      have e2 : tn = r.types.length := Htn.out
      unfold fieldsB
      rw [← e1, ← e2]
      rcases hbad with h | h | h
      · have : ¬ 1 ≤ fn := by omega
        simp [this]
      · have : ¬ fn ≤ 12 := by omega
        simp [this]
      · simp [h]
    have HresF := hid hresF
    clear hresF
    have q5 : W0.cell? ⟨w.heap.size + 1, 0, none⟩ = some (.bool false) := cellOf H2.out 0
    rcases Nat.lt_or_ge fn 1 with h1 | h1
    · gi_wp2
      rw [← hW0]
      exact ⟨_, by simp [results, Tryz.results84, go_sem, q5]; rfl, by rw [HresF.out], HB0.out⟩
    · rcases Nat.lt_or_ge 12 fn with h2 | h2
      · gi_wp2
        rw [← hW0]
        exact ⟨_, by simp [results, Tryz.results84, go_sem, q5]; rfl, by rw [HresF.out], HB0.out⟩
      · have h3 : fn ≠ tn := by omega
        have h3' : ((fn : Int) != (tn : Int)) = true := by simp; omega
        gi_wp2
        rw [← hW0]
        exact ⟨_, by simp [results, Tryz.results84, go_sem, q5]; rfl, by rw [HresF.out], HB0.out⟩
  · have h1 : 1 ≤ fn := by omega
    have h2 : fn ≤ 12 := by omega
    have h3 : fn = tn := by omega
    subst h3
    gi_wp2_with (refine ⟨trivial, ?_⟩; gi_at_call 97; refine (types_in _ _ trivial hro _ _ _ rfl rfl _).mono ?_; rintro e w7 ⟨rfl, rfl⟩)
    rw [← hW0]
    obtain ⟨W1, hW1⟩ : ∃ W1, W1 = W0.alloc (.cells #[.string nm, .slice fa fn fc, .slice ta fn tc] 75) := ⟨_, rfl⟩
    rw [← hW1]
    have hb01 : Below W0.heap.size W0 W1 := by rw [hW1]; exact (Below.refl _ _).alloc (Nat.le_refl _) _
    have hz1 : W1.heap.size = w.heap.size + 3 := by rw [hW1]; simp; omega
    have hbx : W1.heap[w.heap.size + 1 + 1]? = some (.cells #[.string nm, .slice fa fn fc, .slice ta fn tc] 75 (0, 0)) := by
      have := heap_alloc_new W0 (.cells #[.string nm, .slice fa fn fc, .slice ta fn tc] 75)
      rw [hz0] at this
      rw [hW1]; exact this
    have hbw1 : Below w.heap.size w W1 := HB0.out.trans (hb01.mono HB0.out.size)
    have D1 := hid (D.out.below (Nat.le_refl _) hbw1)
    obtain ⟨Z, hZ⟩ : ∃ Z, Z = tz r.types fn := ⟨_, rfl⟩
    have hlt1 : r.types ≠ [] → ∀ b off, ta = some ⟨b, off, none⟩ → b < W1.heap.size := fun hne b off e => by
      obtain ⟨x, hx⟩ : ∃ x, r.types[0]? = some x := by
        cases hc : r.types with
        | nil => exact absurd hc hne
        | cons y r => exact ⟨y, rfl⟩
      obtain ⟨b', off', e', hc, _⟩ := D1.out.tr 0 x hx
      simp only at e'
      rw [e] at e'; cases e'
      exact World.block_lt_of_cell? W1 _ hc
    have hseq := types_stops (fun x : Nat × TyP => x.1) (fun x => x.2) r.types Z 5 (by omega) (w.heap.size + 1 + 1) W1.heap.size nm fa ta fn fc fn tc (by rw [hZ, tz_length]) (fun k x e => by rw [hZ] at e; exact tz_at _ _ k x e) Htn.out (by omega) t2 W1 (Nat.le_refl _) hbx D1.out.tr hlt1
    have h70 : FI w #[.string nm, .slice fa fn fc, .slice ta fn tc] [] W1 := ⟨⟨(hb01.block _ (by omega)).trans H1.out, (hb01.block _ (by omega)).trans H2.out⟩, by simp, hbw1, by omega⟩
    have hC : w.heap.size ≤ W1.heap.size := by omega
    have hZt : Hid (Z = tz r.types r.types.length) := hid (by rw [hZ, show fn = r.types.length from Htn.out])
    clear hlt1 hW0 hW1 hZ hbad HB0 hb01 H1 H2
    refine wpIn_rangeFunc_ownH hro (by omega) (gf := 106) (lb := #[.pointer (some ⟨w.heap.size + 1 + 1, 0, none⟩)]) rfl trivial (enters_of Tryz.func106 (by kernel_rfl) rfl) hseq KB_t (KB_b (Nat.le_refl _) (by omega)) (Below.refl _ _) (fun _ => rfl)
      (FI w #[.string nm, .slice fa fn fc, .slice ta fn tc]) (FX w) (FI_own w _ hC) (fun c => FX_own w c hC)
      h70
      (fun x a' W => ∃ X, W.heap[X]? = some (.cells #[.int .i64 x.2.1, .int .i64 x.2.2] 32 (0, 0)) ∧ a' = { tmps := #[.agg #[.string nm, .slice fa fn fc, .slice ta fn tc], .pointer (some ⟨w.heap.size, 0, none⟩), .pointer (some ⟨w.heap.size + 1, 0, none⟩), .int .i64 (fn : Int), undef, .pointer (some ⟨X, 0, none⟩), .pointer (some ⟨w.heap.size, 1, none⟩), .slice fa fn fc, .int .i64 (fn : Int), .int .i64 (fn : Int), .bool (decide ((fn : Int) < 1)), .bool (decide ((fn : Int) < 1)), .int .i64 (fn : Int), .bool (decide (12 < (fn : Int))), .bool (decide ((fn : Int) < 1) || decide (12 < (fn : Int))), .bool (decide ((fn : Int) < 1) || decide (12 < (fn : Int))), .int .i64 (fn : Int), .pointer (some ⟨w.heap.size, 2, none⟩), .slice ta fn tc, .int .i64 (fn : Int), .bool false, .bool (decide ((fn : Int) < 1) || decide (12 < (fn : Int))), .agg #[.string nm, .slice fa fn fc, .slice ta fn tc], .func (.func 106) #[] #[.pointer (some ⟨w.heap.size + 1 + 1, 0, none⟩)], .int .i64 (x.1 : Int), .agg #[.int .i64 x.2.1, .int .i64 x.2.2], undef, undef, undef, undef, undef, undef], defers := [] })
      (fun x a' u A B row hs hg hr => by
        obtain ⟨X, h2, h4⟩ := hs
        exact ⟨X, keep_cells h2 hg hr, h4⟩)
      ?assign ?body ?done ?stop
    case assign =>
      rintro ll pre x W K hi hK
      simp only [encT, ty]
      gi_wp2
      exact hK _ _ ((KeepsOthers.alloc _ _).from _) (KB_of ((Below.refl _ W).alloc (Nat.le_refl _) _) (by have := hi.2.2.2; omega) (by have := hi.2.2.2; omega)) ((FI_own w _ hC).alloc _ hi) ⟨W.heap.size, heap_alloc_new W _, rfl⟩
    case body =>
      rintro ll pre x a' W hll ⟨rr, hrr⟩ hi ⟨X, hx, rfl⟩ hlt
      obtain ⟨ix, tk, tr⟩ := x
      have HI := hid hi
      have x0 := cellOf hx 0
      have x1 := cellOf hx 1
      simp only [List.getElem?_toArray, List.getElem?_cons_zero, List.getElem?_cons_succ] at x0 x1
      have K1 : Hid (∀ w' : World, Calls Tryz.prog 98 #[.agg #[.int .i64 tk, .int .i64 tr]] w' fun e w'' => e = .returned (.bool (simB (tk, tr))) ∧ Below w'.heap.size w' w'') := hid (fun w' => isSimple_any w' tk tr)
      have g2 : W.cell? ⟨w.heap.size + 1, 0, none⟩ = some (.bool false) := cellOf hi.1.2 0
      clear hx hrr hseq hi hbx h70
      cases hq : simB (tk, tr) with
      | true =>
        rw [hq] at K1
        gi_wp2_with (refine ⟨trivial, ?_⟩; gi_at_call 98; refine (CallsIn.inRound ll (callsIn_wide.2 (Hid.out K1 _))).mono ?_; rintro e w8 ⟨rfl, hb8⟩)
        exact ⟨keepsFrom_below hb8, KB_of hb8 (by have := HI.out.2.2.2; omega) (by have := HI.out.2.2.2; omega), (HI.out.below hb8).snoc hq⟩
      | false =>
        rw [hq] at K1
        gi_wp2_with (refine ⟨trivial, ?_⟩; gi_at_call 98; refine (CallsIn.inRound ll (callsIn_wide.2 (Hid.out K1 _))).mono ?_; rintro e w8 ⟨rfl, hb8⟩; have g5 := ((HI.out.below hb8).1.2); have g6 : w8.cell? ⟨w.heap.size + 1, 0, none⟩ = some (.bool false) := cellOf g5 0; have g7 : w8.frozen? ⟨w.heap.size + 1, 0, none⟩ = false := freeOf g5 0)
        refine ⟨(keepsFrom_below hb8).trans ((KeepsOthers.setCell _ _ _).from _), rfl, ⟨_, List.mem_append.2 (.inr (List.mem_singleton.2 rfl)), hq⟩, set_cells g5 _, ?_⟩
        exact (HI.out.2.2.1.trans (hb8.mono HI.out.2.2.1.size)).setCell (p := ⟨w.heap.size + 1, 0, none⟩) (by show w.heap.size ≤ w.heap.size + 1; omega) _
    case done =>
      rintro D' ys W hD rfl hI hK
      have HI := hid hI
      have HK := hid hK
      have g0 : W.cell? ⟨w.heap.size, 1, none⟩ = some (.slice fa fn fc) := cellOf hI.1.1 1
      have DW := D.out.below (Nat.le_refl _) hI.2.2.1
      have K1 := hid (rightNames_42 W fa fn fc r.fields Hfn.out f2 DW.fc DW.fr)
      have hval : fieldsB r = namesB smB r.fields := by
        have e1 : fn = r.fields.length := Hfn.out
        have e2 : fn = r.types.length := Htn.out
        have e3 : r.types.all simB = true := tz_all _ _ (by rw [← hZt.out]; exact hI.2.1)
        unfold fieldsB
        rw [← e1, ← e2, e3]
        simp [h1, h2]
      have Hval := hid hval
      clear hseq hI hK hval DW hbx h70
      gi_wp2_with (refine ⟨trivial, ?_⟩; gi_at_call 85; refine (callsIn_wide.2 (Hid.out K1)).mono ?_; rintro e w8 ⟨rfl, hb8⟩; have g5 := ((HI.out.below hb8).1.2); have g6 : w8.cell? ⟨w.heap.size + 1, 0, none⟩ = some (.bool false) := cellOf g5 0; have g7 : w8.frozen? ⟨w.heap.size + 1, 0, none⟩ = false := freeOf g5 0)
      have hKd : w8.heap[D']? = some (.deferred (some [])) := (hb8.block _ (Array.getElem?_eq_some_iff.1 HK.out).1).trans HK.out
      have hK' : (w8.setCell ⟨w.heap.size + 1, 0, none⟩ (.bool (namesB smB r.fields))).heap[D']? = some (.deferred (some [])) := (Below.heap_setCell _ _ _ _ (by show D' ≠ w.heap.size + 1; omega)).trans hKd
      have h9 := keep_cells (B := 0) (set_cells g5 (.bool (namesB smB r.fields))) (grownBy_putObj' _ D' (.deferred none)) (fun r e => by cases e; exact ⟨Nat.zero_le _, _, hK', rfl⟩)
      have h10 : Below w.heap.size w ((w8.setCell ⟨w.heap.size + 1, 0, none⟩ (.bool (namesB smB r.fields))).putObj D' (.deferred none)) := ownFrom_below (β := Unit) (Nat.le_refl _) (Nat.le_refl _) () _ _ _ ((HI.out.2.2.1.trans (hb8.mono HI.out.2.2.1.size)).setCell (p := ⟨w.heap.size + 1, 0, none⟩) (by show w.heap.size ≤ w.heap.size + 1; omega) _) (grownBy_putObj' _ D' (.deferred none)) (fun r e => by cases e; exact ⟨by omega, _, hK', rfl⟩)
      have q5 := cellOf h9 0
      simp only [List.getElem?_toArray, List.getElem?_cons_zero] at q5
      refine ⟨by simp, .inl ⟨_, _, rfl, run_takeDeferred hK', ?_⟩⟩
      refine ⟨_, by simp [results, Tryz.results84, go_sem, q5]; rfl, ?_⟩
      exact ⟨by rw [Hres.out, Hval.out], h10⟩
    case stop =>
      rintro D' c pre W hD ⟨kk, hkk, rfl⟩ ⟨rfl, ⟨x, hx, hx2⟩, h5, h6⟩ hK
      have hval : fieldsB r = false := by
        have e3 : r.types.all simB = false := tz_no _ _ x (by rw [← hZt.out]; exact List.mem_of_mem_take hx) hx2
        unfold fieldsB
        rw [e3]; simp
      have Hval := hid hval
      have HK := hid hK
      clear hseq hval hbx h70
      gi_wp2
      have h9 := keep_cells (B := 0) h5 (grownBy_putObj' _ D' (.deferred none)) (fun r e => by cases e; exact ⟨Nat.zero_le _, _, HK.out, rfl⟩)
      have h10 : Below w.heap.size w (W.putObj D' (.deferred none)) := ownFrom_below (β := Unit) (Nat.le_refl _) (Nat.le_refl _) () _ _ _ h6 (grownBy_putObj' _ D' (.deferred none)) (fun r e => by cases e; exact ⟨by omega, _, HK.out, rfl⟩)
      have q5 := cellOf h9 0
      simp only [List.getElem?_toArray, List.getElem?_cons_zero] at q5
      refine ⟨by simp, .inl ⟨_, _, rfl, run_takeDeferred HK.out, ?_⟩⟩
      refine ⟨_, by simp [results, Tryz.results84, go_sem, q5]; rfl, ?_⟩
      exact ⟨by rw [Hres.out, Hval.out], h10⟩
end Go.Proofs.YthnolocldeokeaaGreatDoor

namespace Go.Proofs.YthnolocldeokeaaGreatDoor
set_option maxRecDepth 100000
open Go.RowKit Go.Deep Go.Shelf
set_option linter.unusedVariables false
set_option linter.unusedSimpArgs false

/- Rows of cells that a slice reads. -/
def CRd (w : World) (a : Option Addr) (k : Nat) (rows : List (List Value)) : Prop := ∀ (j : Nat) (r : List Value), rows[j]? = some r → ∃ b off, a = some ⟨b, off, none⟩ ∧ b < w.heap.size ∧ ∀ i, i < k → w.cell? ⟨b, off + j * k + i, none⟩ = r[i]?
theorem CRd.below {w w' : World} {a : Option Addr} {k : Nat} {rows : List (List Value)} {B : Nat} (h : CRd w a k rows) (hB : w.heap.size ≤ B) (kk : Below B w w') : CRd w' a k rows := by
  intro j r e
  obtain ⟨b, off, rfl, hb, hc⟩ := h j r e
  exact ⟨b, off, rfl, Nat.lt_of_lt_of_le hb kk.size, fun i hi => (kk.cell (p := ⟨b, off + j * k + i, none⟩) (Nat.lt_of_lt_of_le hb hB)).trans (hc i hi)⟩

/- A row of names that is the call's own. -/
def strV (s : ByteArray) : Value := .string s
def NRow (w : World) (B : Nat) (v : Value) (ss : List ByteArray) : Prop := w.ownsRow B 9 1 v ss.length (ss.map strV)
theorem NRow.nil (w : World) (B : Nat) : NRow w B (.slice none 0 0) [] := World.ownsRow_nil w B 9 1
theorem NRow.own {w B v ss} (h : NRow w B v ss) : ∀ k, v.ownBlock = some k → B ≤ k ∧ k < w.heap.size := World.ownsRow.lt h
theorem NRow.below {w w' : World} {B v ss} (h : NRow w B v ss) (k : Below w.heap.size w w') : NRow w' B v ss := by
  refine ⟨h.1, ?_⟩
  rcases h.2 with hn | ⟨g, cap, cur, rfl, hb, hgg, rest⟩
  · exact .inl hn
  · exact .inr ⟨g, cap, cur, rfl, hb, (k.block g (Array.getElem?_eq_some_iff.1 hgg).1).trans hgg, rest⟩
theorem NRow.form {w B v ss} (h : NRow w B v ss) : ∃ a cap, v = .slice a ss.length cap ∧ ss.length ≤ cap := by
  rcases h.2 with ⟨rfl, hn⟩ | ⟨g, cap, cur, rfl, hb, hgg, hc, rest⟩
  · exact ⟨none, 0, by rw [hn], by omega⟩
  · exact ⟨_, _, rfl, hc⟩
theorem NRow.rd {w : World} {B a n cap ss} (h : NRow w B (.slice a n cap) ss) (hz : ∀ s ∈ ss, s.size ≤ 9223372036854775807) : SRd w a ss := by
  intro j s e
  refine ⟨hz s (List.mem_of_getElem? e), ?_⟩
  rcases h.2 with ⟨e', hn⟩ | ⟨g, cap', cur, e', hb, hgg, hc, hm, hs', ht⟩
  · have : ss = [] := List.eq_nil_of_length_eq_zero hn
    subst this; simp at e
  · cases e'
    refine ⟨g, 0, rfl, ?_⟩
    have := World.ownsRow.cells h (g := g) rfl j (strV s) (by simp [e])
    rw [Addr.add_lit] at this
    exact this
theorem NRow.snoc {w' : World} {B : Nat} {v' : Value} {ss : List ByteArray} {s : ByteArray} (h : w'.ownsRow B 9 1 v' (ss.length + 1) (ss.map strV ++ [.string s])) : NRow w' B v' (ss ++ [s]) := by
  unfold NRow; simpa [strV] using h
theorem below_app {w w2 w3 : World} {o : Obj} {v : Value} {ss : List ByteArray} (hb : Below w.heap.size w w2) (hr : NRow w2 w.heap.size v ss) (hg : (w2.alloc o).grownBy w3 v.ownBlock) : Below w.heap.size w w3 :=
  (hb.alloc hb.size o).grown hg (by have := hb.size; simp; omega) (fun k hk => (hr.own k hk).1)
theorem take_map_snoc {α β : Type} {l : List α} {i : Nat} {x : α} (f : α → β) (e : l[i]? = some x) : (l.take (i + 1)).map f = (l.take i).map f ++ [f x] := by
  rw [List.take_add_one, e]; simp
theorem take_acc {α : Type} {l : List α} {i : Nat} {x : α} {p : α → Prop} (e : l[i]? = some x) (h : ∀ y ∈ l.take i, p y) (hx : p x) : ∀ y ∈ l.take (i + 1), p y := by
  rw [List.take_add_one, e]
  intro y hy
  rcases List.mem_append.1 hy with hy | hy
  · exact h y hy
  · simp at hy; subst hy; exact hx
theorem info9 : (Tryz.prog.info? 9).map (fun i => (i.zero, i.size, i.bytes)) = some (some (.string ⟨#[]⟩), 1, 16) := by kernel_rfl

structure RRd (w : World) (a : Option Addr) (n : Nat) (rs : List (RH × Rc)) : Prop where
  n1 : n = rs.length
  n2 : n ≤ 9223372036854775807
  rd : CRd w a 3 (rs.map fun p => p.1.cs)
  el : ∀ p ∈ rs, RcRd w p.1 p.2
theorem RRd.below {w w' : World} {a : Option Addr} {n : Nat} {rs : List (RH × Rc)} {B : Nat} (d : RRd w a n rs) (hB : w.heap.size ≤ B) (k : Below B w w') : RRd w' a n rs :=
  ⟨d.n1, d.n2, d.rd.below hB k, fun p hp => (d.el p hp).below hB k⟩
def recordsB (rs : List Rc) : Bool := decide (rs.length ≤ 16) && rs.all fieldsB && namesB grB (rs.map Rc.name)

set_option maxRecDepth 100000 in
set_option maxHeartbeats 1000000 in
theorem rightRecords_any (w : World) (a : Option Addr) (n cap : Nat) (rs : List (RH × Rc)) (d : RRd w a n rs) :
    Calls Tryz.prog 69 #[.slice a n cap] w fun e w' => e = .returned (.bool (recordsB (rs.map (·.2)))) ∧ Below w.heap.size w w' := by
  have D := hid d
  have hn2 := d.n2
  have Hn := hid d.n1
  obtain ⟨res, hres⟩ : ∃ res, res = recordsB (rs.map (·.2)) := ⟨_, rfl⟩
  rw [← hres]
  have Hres := hid hres
  obtain ⟨i0, hi, hz0, hz1, hz2⟩ := info_parts info9
  clear d hres
  rcases Nat.lt_or_ge 16 n with h1 | h1
  · have hF : res = false := by
      rw [Hres.out]; unfold recordsB
      have : ¬ (rs.map (·.2)).length ≤ 16 := by rw [List.length_map, ← Hn.out]; omega
      rw [decide_eq_false this]; rfl
    have HF := hid hF
    clear hF
    go_enter Tryz.func69, Tryz.ntmps69
    go_wp2
    go_ret
    exact ⟨by rw [HF.out]; rfl, Below.refl _ _⟩
  · go_enter Tryz.func69, Tryz.ntmps69
    go_wp2
    go_loopg [3, 11] n (fun g nv ii wr => ∃ i : Nat, i + g = n ∧ ii = .int .i64 (i : Int) ∧ Below w.heap.size w wr ∧ NRow wr w.heap.size nv ((rs.take i).map fun p => p.2.name) ∧ ∀ p ∈ rs.take i, fieldsB p.2 = true)
    case atStart => exact ⟨0, by omega, rfl, Below.refl _ _, NRow.nil _ _, fun p hp => by simp at hp⟩
    case round =>
      obtain ⟨i, hi', rfl, hbe, hrow, hAc⟩ := hrel
      have Hi := hid hi'
      have Hbe := hid hbe
      have HAc := hid hAc
      have Hrow := hid hrow
      obtain ⟨na, ncap, rfl, hnc⟩ := hrow.form
      clear hAc hbe hrow
      have hlen : ((rs.take i).map fun p => p.2.name).length = i := by rw [List.length_map, List.length_take, ← Hn.out]; omega
      rw [hlen] at Hrow hnc ⊢
      clear hlen
      cases gk with
      | zero =>
        have hin : i = n := by omega
        clear hi'
        subst hin
        have hall : rs.take i = rs := by rw [Hn.out]; exact List.take_length
        have K := hid (rightNames_40 wr na i ncap (rs.map fun p => p.2.name) (by rw [List.length_map]; exact Hn.out) hn2 hnc (by
          have h := Hrow.out; rw [hall] at h
          exact h.rd (fun s hs => by
            rw [List.mem_map] at hs
            obtain ⟨p, hp, rfl⟩ := hs
            have := (D.out.el p hp).ns; rw [(D.out.el p hp).nm] at this; exact this)))
        have hval : res = namesB grB (rs.map fun p => p.2.name) := by
          rw [Hres.out]; unfold recordsB
          have e1 : (rs.map (·.2)).length ≤ 16 := by rw [List.length_map, ← Hn.out]; exact h1
          have e2 : (rs.map (·.2)).all fieldsB = true := by
            rw [List.all_eq_true]; intro r hr
            rw [List.mem_map] at hr
            obtain ⟨p, hp, rfl⟩ := hr
            exact HAc.out p (by rw [hall]; exact hp)
          rw [decide_eq_true e1, e2, List.map_map]; rfl
        have Hval := hid hval
        clear hval hall
        go_wp2_with (go_at_call 85; (refine (Hid.out K).mono ?_; rintro e w2 ⟨rfl, hb2⟩))
        go_ret
        exact ⟨by rw [Hval.out]; rfl, Hbe.out.trans (hb2.mono Hbe.out.size)⟩
      | succ g =>
        have hlt : i < n := by omega
        clear hi'
        obtain ⟨p, hp⟩ : ∃ p, rs[i]? = some p := ⟨rs[i]'(by rw [← Hn.out]; exact hlt), by rw [List.getElem?_eq_getElem]⟩
        have DW := D.out.below (Nat.le_refl _) Hbe.out
        have el := DW.el p (List.mem_of_getElem? hp)
        obtain ⟨b1, o1, rfl, hb1, e1⟩ := DW.rd i p.1.cs (by simp [hp])
        have x0 := e1 0 (by omega)
        have x1 := e1 1 (by omega)
        have x2 := e1 2 (by omega)
        have Hp := hid hp
        have Hel := hid el
        have Hnm := hid el.nm
        clear e1 DW el hp hb1
        obtain ⟨h, r⟩ := p
        obtain ⟨nm, fa, fn, fc, ta, tn, tc⟩ := h
        simp only [RH.cs, List.getElem?_cons_zero, List.getElem?_cons_succ, Nat.add_zero] at x0 x1 x2
        have K1 : Hid (∀ w2 : World, Below wr.heap.size wr w2 → Calls Tryz.prog 84 #[.agg #[.string nm, .slice fa fn fc, .slice ta tn tc]] w2 fun e w' => e = .returned (.bool (fieldsB r)) ∧ Below w2.heap.size w2 w') := hid (fun w2 hb => rightFields_any w2 ⟨nm, fa, fn, fc, ta, tn, tc⟩ r (Hel.out.below (Nat.le_refl _) hb))
        have hba : Below wr.heap.size wr (wr.alloc (.cells #[.string nm, .slice fa fn fc, .slice ta tn tc] 75)) := (Below.refl _ _).alloc (Nat.le_refl _) _
        cases q1 : fieldsB r with
        | false =>
          rw [q1] at K1
          go_wp2_with (go_at_call 84; (refine (Hid.out K1 _ hba).mono ?_; rintro e w2 ⟨rfl, hb2⟩))
          go_ret
          refine ⟨?_, Hbe.out.trans ((hba.trans (hb2.mono hba.size)).mono Hbe.out.size)⟩
          have : res = false := by
            rw [Hres.out]; unfold recordsB
            have : (rs.map (·.2)).all fieldsB = false := by
              rw [List.all_eq_false]
              exact ⟨r, by rw [List.mem_map]; exact ⟨_, List.mem_of_getElem? Hp.out, rfl⟩, by simp [q1]⟩
            rw [this]; simp
          rw [this]; rfl
        | true =>
          rw [q1] at K1
          go_wp2_with (first
            | (go_at_call 84; (refine (Hid.out K1 _ hba).mono ?_; rintro e w2 ⟨rfl, hb2⟩; have hb02 : Below wr.heap.size wr w2 := hba.trans (hb2.mono hba.size); have bx := (hb2.block wr.heap.size (by simp)).trans (heap_alloc_new wr (.cells #[.string nm, .slice fa fn fc, .slice ta tn tc] 75)); have y0 : w2.cell? ⟨wr.heap.size, 0, none⟩ = some (.string nm) := cellOf bx 0; have hrow2 := Hrow.out.below hb02))
            | (at_builtin; ((refine wpList_append_own _ rfl _ _ 49 rfl w.heap.size 9 i0 (.string ⟨#[]⟩) 1 16 Tryz.underlying49 hi hz0 hz1 hz2 rfl (by decide) _ _ _ rfl (hrow2.below ((Below.refl _ w2).alloc (Nat.le_refl _) _)) ⟨w2.heap.size, 0, none⟩ 1 1 [.string nm] rfl rfl (cell_one_new _ _ _) (by simp [Value.oneCell']) (by rw [List.length_map, List.length_take]; unfold maxLen; omega) (by rw [List.length_map, List.length_take]; omega) (by have h1 := Hbe.out.size; have h2 := hb02.size; simp; omega) ?_; intro v3 w3 hrow3 hg3 _))))
          go_roundg g
          case measure => omega
          case rel => exact ⟨i + 1, by have := Hi.out; omega, by go_num, below_app (Hbe.out.trans (hb02.mono Hbe.out.size)) hrow2 hg3, by rw [take_map_snoc _ Hp.out, show r.name = nm from Hnm.out.symm]; exact NRow.snoc hrow3, take_acc Hp.out HAc.out q1⟩
end Go.Proofs.YthnolocldeokeaaGreatDoor

namespace Go.Proofs.YthnolocldeokeaaGreatDoor
set_option maxRecDepth 100000
open Go.RowKit Go.Deep Go.Shelf
set_option linter.unusedVariables false
set_option linter.unusedSimpArgs false

def keyB (t : TyP) : Bool := decide (t.2 = 0) && (decide (t.1 = 1) || decide (t.1 = 2))
def typB (n : Nat) (t : TyP) : Bool := if t.1 = 4 then decide (0 ≤ t.2) && decide (t.2 < (n : Int)) else simB t
def noneB (t : TyP) : Bool := decide (t.1 = 0) && decide (t.2 = 0)
structure PH where
  ra : Option Addr
  rn : Nat
  rc : Nat
  ma : Option Addr
  mn : Nat
  mc : Nat
  fa : Option Addr
  fn : Nat
  fc : Nat
  ea : Option Addr
  en : Nat
  ec : Nat
def PH.v (h : PH) : Value := .agg #[.slice h.ra h.rn h.rc, .slice h.ma h.mn h.mc, .slice h.fa h.fn h.fc, .slice h.ea h.en h.ec]

theorem two_boxes (w : World) (c1 c2 : Array Value) (t1 t2 : TypeId) : Below w.heap.size w ((w.alloc (.cells c1 t1)).alloc (.cells c2 t2)) := ((Below.refl _ _).alloc (Nat.le_refl _) _).alloc (by simp) _

set_option maxHeartbeats 400000 in
theorem isType_any (w : World) (h : PH) (k r : Int) (hn : h.rn ≤ 9223372036854775807) :
    Calls Tryz.prog 88 #[h.v, ty k r] w fun e w' => e = .returned (.bool (typB h.rn (k, r))) ∧ Below w.heap.size w w' := by
  obtain ⟨ra, rn, rc, ma, mn, mc, fa, fn, fc, ea, en, ec⟩ := h
  simp only [PH.v, ty] at hn ⊢
  by_cases h4 : k = 4
  · subst h4
    rcases Int.lt_or_le r 0 with h1 | h1
    · have h1' : ¬ (0 ≤ r) := by omega
      have e0 : typB rn (4, r) = false := by simp [typB]; omega
      rw [e0]
      clear e0
      go_enter Tryz.func88, Tryz.ntmps88
      go_wp2
      go_ret
      exact ⟨rfl, two_boxes _ _ _ _ _⟩
    · rcases Int.lt_or_le r (rn : Int) with h2 | h2
      · have e0 : typB rn (4, r) = true := by simp [typB]; omega
        rw [e0]
        clear e0
        go_enter Tryz.func88, Tryz.ntmps88
        go_wp2
        go_ret
        exact ⟨by simp [h2], two_boxes _ _ _ _ _⟩
      · have h2' : ¬ (r < (rn : Int)) := by omega
        have e0 : typB rn (4, r) = false := by simp [typB]; omega
        rw [e0]
        clear e0
        go_enter Tryz.func88, Tryz.ntmps88
        go_wp2
        go_ret
        exact ⟨by simp [h2], two_boxes _ _ _ _ _⟩
  · have h4' : (k == 4) = false := by simpa using h4
    have e0 : typB rn (k, r) = simB (k, r) := by unfold typB; rw [if_neg h4]
    rw [e0]
    have K : Hid (∀ w' : World, Calls Tryz.prog 98 #[.agg #[.int .i64 k, .int .i64 r]] w' fun e w'' => e = .returned (.bool (simB (k, r))) ∧ Below w'.heap.size w' w'') := hid (fun w' => isSimple_any w' k r)
    clear e0
    generalize simB (k, r) = res at *
    go_enter Tryz.func88, Tryz.ntmps88
    go_wp2_with (go_at_call 98; (refine (Hid.out K _).mono ?_; rintro e w2 ⟨rfl, hb2⟩))
    go_ret
    exact ⟨rfl, (two_boxes w _ _ _ _).trans (hb2.mono (two_boxes w _ _ _ _).size)⟩

set_option maxHeartbeats 400000 in
theorem isNone_any (w : World) (k r : Int) : Calls Tryz.prog 90 #[ty k r] w fun e w' => e = .returned (.bool (noneB (k, r))) ∧ Below w.heap.size w w' := by
  unfold ty
  have hb : Below w.heap.size w (w.alloc (.cells #[.int .i64 k, .int .i64 r] 32)) := (Below.refl _ _).alloc (Nat.le_refl _) _
  by_cases h0 : r = 0
  · subst h0
    by_cases h1 : k = 0
    · subst h1
      go_enter Tryz.func90, Tryz.ntmps90
      go_wp2
      go_ret
      exact ⟨by simp [noneB], hb⟩
    · have h1' : (k == 0) = false := by simpa using h1
      go_enter Tryz.func90, Tryz.ntmps90
      go_wp2
      go_ret
      exact ⟨by simp [noneB, h1], hb⟩
  · have h0' : (r == 0) = false := by simpa using h0
    go_enter Tryz.func90, Tryz.ntmps90
    go_wp2
    all_goals
      go_ret
      exact ⟨by simp_all [noneB], hb⟩

theorem below_app2 {w w2 w3 : World} {o : Obj} {v : Value} {ss : List ByteArray} {B : Nat} (hB : w.heap.size ≤ B) (hb : Below w.heap.size w w2) (hr : NRow w2 B v ss) (hg : (w2.alloc o).grownBy w3 v.ownBlock) : Below w.heap.size w w3 :=
  (hb.alloc hb.size o).grown hg (by have := hb.size; simp; omega) (fun k hk => Nat.le_trans hB (hr.own k hk).1)
structure Mp where
  name : ByteArray
  key : TyP
  val : TyP
def Mp.cs (m : Mp) : List Value := [.string m.name, .int .i64 m.key.1, .int .i64 m.key.2, .int .i64 m.val.1, .int .i64 m.val.2]
structure MRd (w : World) (a : Option Addr) (n : Nat) (ms : List Mp) : Prop where
  n1 : n = ms.length
  n2 : n ≤ 9223372036854775807
  rd : CRd w a 5 (ms.map Mp.cs)
  ns : ∀ m ∈ ms, m.name.size ≤ 9223372036854775807
theorem MRd.below {w w' : World} {a : Option Addr} {n : Nat} {ms : List Mp} {B : Nat} (d : MRd w a n ms) (hB : w.heap.size ≤ B) (k : Below B w w') : MRd w' a n ms :=
  ⟨d.n1, d.n2, d.rd.below hB k, d.ns⟩
def mapB (n : Nat) (m : Mp) : Bool := keyB m.key && typB n m.val
def mapsB (n : Nat) (ms : List Mp) : Bool := decide (ms.length ≤ 16) && ms.all (mapB n) && namesB smB (ms.map Mp.name)

set_option maxRecDepth 100000 in
set_option maxHeartbeats 1000000 in
theorem rightMaps_any (w : World) (h : PH) (ms : List Mp) (d : MRd w h.ma h.mn ms) (hrn : h.rn ≤ 9223372036854775807) :
    Calls Tryz.prog 70 #[h.v] w fun e w' => e = .returned (.bool (mapsB h.rn ms)) ∧ Below w.heap.size w w' := by
  have D := hid d
  have hn2 := d.n2
  have Hn := hid d.n1
  have KT := hid (fun w' k r => isType_any w' h k r hrn)
  obtain ⟨res, hres⟩ : ∃ res, res = mapsB h.rn ms := ⟨_, rfl⟩
  rw [← hres]
  have Hres := hid hres
  obtain ⟨i0, hi, hz0, hz1, hz2⟩ := info_parts info9
  clear d hres
  obtain ⟨ra, rn, rc, a, n, cap, fa, fn, fc, ea, en, ec⟩ := h
  simp only [PH.v, ty] at hn2 KT ⊢
  have hb0 : Below w.heap.size w (w.alloc (.cells #[.slice ra rn rc, .slice a n cap, .slice fa fn fc, .slice ea en ec] 40)) := (Below.refl _ _).alloc (Nat.le_refl _) _
  have bx0 : (w.alloc (.cells #[.slice ra rn rc, .slice a n cap, .slice fa fn fc, .slice ea en ec] 40)).heap[w.heap.size]? = some (.cells #[.slice ra rn rc, .slice a n cap, .slice fa fn fc, .slice ea en ec] 40 (0, 0)) := heap_alloc_new w _
  have HB0 := hid hb0
  have HX0 := hid bx0
  clear hb0 bx0
  rcases Nat.lt_or_ge 16 n with h1 | h1
  · have hF : res = false := by
      rw [Hres.out]; unfold mapsB
      have : ¬ ms.length ≤ 16 := by rw [← show n = ms.length from Hn.out]; omega
      rw [decide_eq_false this]; rfl
    have HF := hid hF
    clear hF
    go_enter Tryz.func70, Tryz.ntmps70
    go_wp2
    go_ret
    exact ⟨by rw [HF.out]; rfl, HB0.out⟩
  · go_enter Tryz.func70, Tryz.ntmps70
    go_wp2
    go_loopg [3, 13] n (fun g nv ii wr => ∃ i : Nat, i + g = n ∧ ii = .int .i64 (i : Int) ∧ Below w.heap.size w wr ∧ wr.heap[w.heap.size]? = some (.cells #[.slice ra rn rc, .slice a n cap, .slice fa fn fc, .slice ea en ec] 40 (0, 0)) ∧ NRow wr (w.heap.size + 1) nv ((ms.take i).map Mp.name) ∧ ∀ m ∈ ms.take i, mapB rn m = true)
    case atStart => exact ⟨0, by omega, rfl, HB0.out, HX0.out, NRow.nil _ _, fun p hp => by simp at hp⟩
    case round =>
      obtain ⟨i, hi', rfl, hbe, hbx, hrow, hAc⟩ := hrel
      have Hi := hid hi'
      have Hbe := hid hbe
      have HAc := hid hAc
      have Hrow := hid hrow
      have Hbx := hid hbx
      obtain ⟨na, ncap, rfl, hnc⟩ := hrow.form
      have hlx : w.heap.size < wr.heap.size := (Array.getElem?_eq_some_iff.1 hbx).1
      clear hAc hbe hrow hbx
      have hlen : ((ms.take i).map Mp.name).length = i := by rw [List.length_map, List.length_take, ← show n = ms.length from Hn.out]; omega
      rw [hlen] at Hrow hnc ⊢
      clear hlen
      cases gk with
      | zero =>
        have hin : i = n := by omega
        clear hi'
        subst hin
        have hall : ms.take i = ms := by rw [show i = ms.length from Hn.out]; exact List.take_length
        have K := hid (rightNames_42 wr na i ncap (ms.map Mp.name) (by rw [List.length_map]; exact Hn.out) hn2 hnc (by
          have h := Hrow.out; rw [hall] at h
          exact h.rd (fun s hs => by
            rw [List.mem_map] at hs
            obtain ⟨p, hp, rfl⟩ := hs
            exact D.out.ns p hp)))
        have hval : res = namesB smB (ms.map Mp.name) := by
          rw [Hres.out]; unfold mapsB
          have e1 : ms.length ≤ 16 := by rw [← show i = ms.length from Hn.out]; exact h1
          have e2 : ms.all (mapB rn) = true := by
            rw [List.all_eq_true]; intro r hr
            exact HAc.out r (by rw [hall]; exact hr)
          rw [decide_eq_true e1, e2]; rfl
        have Hval := hid hval
        clear hval hall
        go_wp2_with (go_at_call 85; (refine (Hid.out K).mono ?_; rintro e w2 ⟨rfl, hb2⟩))
        go_ret
        exact ⟨by rw [Hval.out]; rfl, Hbe.out.trans (hb2.mono Hbe.out.size)⟩
      | succ g =>
        have hlt : i < n := by omega
        clear hi'
        obtain ⟨p, hp⟩ : ∃ p, ms[i]? = some p := ⟨ms[i]'(by rw [← show n = ms.length from Hn.out]; exact hlt), by rw [List.getElem?_eq_getElem]⟩
        have DW := D.out.below (Nat.le_refl _) Hbe.out
        obtain ⟨b1, o1, ea', hb1, e1⟩ := DW.rd i p.cs (by simp [hp])
        subst ea'
        have x0 := e1 0 (by omega)
        have x1 := e1 1 (by omega)
        have x2 := e1 2 (by omega)
        have x3 := e1 3 (by omega)
        have x4 := e1 4 (by omega)
        have Hp := hid hp
        clear e1 DW hp hb1
        obtain ⟨nm, ⟨k1, r1⟩, ⟨k2, r2⟩⟩ := p
        simp only [Mp.cs, List.getElem?_cons_zero, List.getElem?_cons_succ, Nat.add_zero] at x0 x1 x2 x3 x4
        have hba : Below wr.heap.size wr (wr.alloc (.cells #[.string nm, .int .i64 k1, .int .i64 r1, .int .i64 k2, .int .i64 r2] 79)) := (Below.refl _ _).alloc (Nat.le_refl _) _
        have K1 : Hid (∀ w' : World, Calls Tryz.prog 87 #[.agg #[.int .i64 k1, .int .i64 r1]] w' fun e w'' => e = .returned (.bool (keyB (k1, r1))) ∧ Below w'.heap.size w' w'') := hid (fun w' => isKey_any w' k1 r1)
        have K2 := hid (fun w' => KT.out w' k2 r2)
        have HN : Hid (mapB rn ⟨nm, (k1, r1), (k2, r2)⟩ = false → res = false) := hid (fun hq => by
          rw [Hres.out]; unfold mapsB
          have : ms.all (mapB rn) = false := by
            rw [List.all_eq_false]
            exact ⟨_, List.mem_of_getElem? Hp.out, by simp [hq]⟩
          rw [this]; simp)
        cases q1 : keyB (k1, r1) with
        | false =>
          rw [q1] at K1
          go_wp2_with (go_at_call 87; (refine (Hid.out K1 _).mono ?_; rintro e w2 ⟨rfl, hb2⟩))
          go_ret
          exact ⟨by rw [HN.out (by simp [mapB, q1])]; rfl, Hbe.out.trans ((hba.trans (hb2.mono hba.size)).mono Hbe.out.size)⟩
        | true =>
          rw [q1] at K1
          cases q2 : typB rn (k2, r2) with
          | false =>
            simp only [q2] at K2
            go_wp2_with (first
              | (go_at_call 87; (refine (Hid.out K1 _).mono ?_; rintro e w2 ⟨rfl, hb2⟩; have hb02 : Below wr.heap.size wr w2 := hba.trans (hb2.mono hba.size); have bx := (hb2.block wr.heap.size (by simp)).trans (heap_alloc_new wr (.cells #[.string nm, .int .i64 k1, .int .i64 r1, .int .i64 k2, .int .i64 r2] 79)); have y3 := cellOf bx 3; have y4 := cellOf bx 4; have by0 := (hb02.block _ hlx).trans Hbx.out; have z0 := cellOf by0 0; have z1 := cellOf by0 1; have z2 := cellOf by0 2; have z3 := cellOf by0 3; simp only [List.getElem?_toArray, List.getElem?_cons_zero, List.getElem?_cons_succ] at y3 y4 z0 z1 z2 z3; clear bx by0))
              | (go_at_call 88; (refine (Hid.out K2 _).mono ?_; rintro e w4 ⟨rfl, hb4⟩)))
            go_ret
            exact ⟨by rw [HN.out (by simp [mapB, q1, q2])]; rfl, Hbe.out.trans ((hb02.trans (hb4.mono hb02.size)).mono Hbe.out.size)⟩
          | true =>
            simp only [q2] at K2
            go_wp2_with (first
              | (go_at_call 87; (refine (Hid.out K1 _).mono ?_; rintro e w2 ⟨rfl, hb2⟩; have hb02 : Below wr.heap.size wr w2 := hba.trans (hb2.mono hba.size); have bx := (hb2.block wr.heap.size (by simp)).trans (heap_alloc_new wr (.cells #[.string nm, .int .i64 k1, .int .i64 r1, .int .i64 k2, .int .i64 r2] 79)); have y3 := cellOf bx 3; have y4 := cellOf bx 4; have by0 := (hb02.block _ hlx).trans Hbx.out; have z0 := cellOf by0 0; have z1 := cellOf by0 1; have z2 := cellOf by0 2; have z3 := cellOf by0 3; simp only [List.getElem?_toArray, List.getElem?_cons_zero, List.getElem?_cons_succ] at y3 y4 z0 z1 z2 z3; have Hbx2 := hid bx; clear bx by0))
              | (go_at_call 88; (refine (Hid.out K2 _).mono ?_; rintro e w4 ⟨rfl, hb4⟩; have hb04 : Below wr.heap.size wr w4 := hb02.trans (hb4.mono hb02.size); have bx4 := (hb4.block wr.heap.size (Array.getElem?_eq_some_iff.1 Hbx2.out).1).trans Hbx2.out; have y0 : w4.cell? ⟨wr.heap.size, 0, none⟩ = some (.string nm) := cellOf bx4 0; have hrow2 := Hrow.out.below hb04; clear bx4))
              | (at_builtin; (refine wpList_append_own _ rfl _ _ 49 rfl (w.heap.size + 1) 9 i0 (.string ⟨#[]⟩) 1 16 Tryz.underlying49 hi hz0 hz1 hz2 rfl (by decide) _ _ _ rfl (hrow2.below ((Below.refl _ w4).alloc (Nat.le_refl _) _)) ⟨w4.heap.size, 0, none⟩ 1 1 [.string nm] rfl rfl (cell_one_new _ _ _) (by simp [Value.oneCell']) (by rw [List.length_map, List.length_take]; unfold maxLen; omega) (by rw [List.length_map, List.length_take]; omega) (by have h1 := Hbe.out.size; have h2 := hb04.size; simp; omega) ?_; intro v3 w3 hrow3 hg3 _)))
            go_roundg g
            case measure => omega
            case rel => exact ⟨i + 1, by have := Hi.out; omega, by go_num, below_app2 (by omega) (Hbe.out.trans (hb04.mono Hbe.out.size)) hrow2 hg3, by
              rw [hg3.block _ (by have h1 := hb04.size; simp; omega) (fun e => by have := (hrow2.own _ e.symm).1; omega)]
              exact (Below.heap_alloc _ _ _ (by have h1 := hb04.size; omega)).trans ((hb04.block _ hlx).trans Hbx.out), by rw [take_map_snoc _ Hp.out]; exact NRow.snoc hrow3, take_acc Hp.out HAc.out (by simp [mapB, q1, q2])⟩
end Go.Proofs.YthnolocldeokeaaGreatDoor

