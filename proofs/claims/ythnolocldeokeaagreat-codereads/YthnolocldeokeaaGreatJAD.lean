/- Code as it lies; bounds. -/
import Derived.Test.YthnolocldeokeaaGreatJAC
import Derived.Shelf.Strconv.Clone
import Derived.Sort.CutIn
namespace Go.Proofs.YthnolocldeokeaaGreat
open Go.RowKit Go.Deep Go.Shelf
set_option linter.unusedVariables false
set_option linter.unusedSimpArgs false
theorem bel_dN {B : Nat} {a w : World} (h : Below B a w) (n : Nat) : Below B a (w.drewN n) := h.trans ⟨rfl, rfl, rfl, Nat.le_refl _, fun _ _ => rfl⟩
structure FH where
  regs : Int
  oa : Option Addr
  on : Nat
  oc : Nat
def FH.cs (h : FH) : List Value := [.int .i64 h.regs, .slice h.oa h.on h.oc]
def FH.v (h : FH) : Value := .agg #[.int .i64 h.regs, .slice h.oa h.on h.oc]
structure FnRd (w : World) (h : FH) (f : Fx) : Prop where
  rg : h.regs = f.regs
  on : h.on = f.ops.length
  o2 : h.on ≤ 9223372036854775807
  or : ORd w h.oa f.ops
theorem FnRd.below {w w' : World} {h : FH} {f : Fx} {B : Nat} (d : FnRd w h f) (hB : w.heap.size ≤ B) (k : Below B w w') : FnRd w' h f := ⟨d.rg, d.on, d.o2, d.or.below (k.mono hB)⟩
structure FRd (w : World) (a : Option Addr) (n : Nat) (fs : List (FH × Fx)) : Prop where
  n1 : n = fs.length
  n2 : n ≤ 9223372036854775807
  rd : CRd w a 2 (fs.map fun p => p.1.cs)
  el : ∀ p ∈ fs, FnRd w p.1 p.2
theorem FRd.below {w w' : World} {a : Option Addr} {n : Nat} {fs : List (FH × Fx)} {B : Nat} (d : FRd w a n fs) (hB : w.heap.size ≤ B) (k : Below B w w') : FRd w' a n fs := ⟨d.n1, d.n2, d.rd.below hB k, fun p hp => (d.el p hp).below hB k⟩
structure CH where
  h : PH
  ia : Option Addr
  inn : Nat
  ic : Nat
  ta : Option Addr
  tn : Nat
  tc : Nat
  fa : Option Addr
  fn : Nat
  fc : Nat
  ea : Option Addr
  en : Nat
  ec : Nat
def CH.cs (C : CH) : Array Value := #[.slice C.h.ra C.h.rn C.h.rc, .slice C.h.ma C.h.mn C.h.mc, .slice C.h.fa C.h.fn C.h.fc, .slice C.h.ea C.h.en C.h.ec, .slice C.ia C.inn C.ic, .slice C.ta C.tn C.tc, .slice C.fa C.fn C.fc, .slice C.ea C.en C.ec]
def CH.v (C : CH) : Value := .agg C.cs
structure CdRd (w : World) (C : CH) (c : Cx) (fs es : List (FH × Fx)) : Prop where
  p : PRd w C.h c.p
  i1 : C.inn = c.ints
  i2 : C.inn ≤ 9223372036854775807
  t1 : C.tn = c.texts.length
  t2 : C.tn ≤ 9223372036854775807
  tr : SRd w C.ta c.texts
  f : FRd w C.fa C.fn fs
  fe : fs.map (·.2) = c.funcs
  e : FRd w C.ea C.en es
  ee : es.map (·.2) = c.events
theorem CdRd.below {w w' : World} {C : CH} {c : Cx} {fs es : List (FH × Fx)} {B : Nat} (d : CdRd w C c fs es) (hB : w.heap.size ≤ B) (k : Below B w w') : CdRd w' C c fs es := ⟨d.p.below hB k, d.i1, d.i2, d.t1, d.t2, d.tr.below hB k, d.f.below hB k, d.fe, d.e.below hB k, d.ee⟩
/- How many there are. -/
structure Lns (C : CH) (c : Cx) : Prop where
  i1 : C.inn = c.ints
  i2 : C.inn ≤ 9223372036854775807
  t1 : C.tn = c.texts.length
  t2 : C.tn ≤ 9223372036854775807
  r1 : C.h.rn = c.p.recs.length
  r2 : C.h.rn ≤ 9223372036854775807
  m1 : C.h.mn = c.p.maps.length
  m2 : C.h.mn ≤ 9223372036854775807
  f1 : C.h.fn = c.p.funcs.length
  f2 : C.h.fn ≤ 9223372036854775807
  e1 : C.h.en = c.p.events.length
  e2 : C.h.en ≤ 9223372036854775807
theorem CdRd.lns {w : World} {C : CH} {c : Cx} {fs es : List (FH × Fx)} (d : CdRd w C c fs es) : Lns C c := ⟨d.i1, d.i2, d.t1, d.t2, d.p.r.n1, d.p.r.n2, d.p.m.n1, d.p.m.n2, d.p.f.n1, d.p.f.n2, d.p.e.n1, d.p.e.n2⟩
set_option maxRecDepth 100000 in
set_option maxHeartbeats 2000000 in
theorem bounds_any (w : World) (C : CH) (c : Cx) (L : Lns C c) (F : FH) (h0 : 0 ≤ F.regs) (h64 : F.regs ≤ 64) (ho : F.on ≤ 9223372036854775807) (r len : Int) (l0 : 0 ≤ len) (l1 : len ≤ 9223372036854775807) :
    Calls Tryz.prog 116 #[C.v, F.v, .int .u8 r, .int .i64 len] w fun e w' => e = .returned (.tuple #[.int .i64 (bnd c F.regs F.on r len).1, .int .i64 (bnd c F.regs F.on r len).2]) ∧ Below w.heap.size w w' := by
  obtain ⟨i1, i2, t1, t2, r1, r2, m1, m2, f1, f2, e1, e2⟩ := L
  obtain ⟨⟨ra, rn, rc, ma, mn, mc, fa, fn, fc, ea, en, ec⟩, ia, inn, ic, ta, tn, tc, ga, gn, gc, ha, hn, hc⟩ := C
  obtain ⟨regs, oa, on, oc⟩ := F
  simp only at i1 i2 t1 t2 r1 r2 m1 m2 f1 f2 e1 e2 h0 h64 ho
  simp only [CH.v, CH.cs, FH.v]
  obtain ⟨W0, hW0⟩ : ∃ W0, W0 = (w.alloc (.cells #[.slice ra rn rc, .slice ma mn mc, .slice fa fn fc, .slice ea en ec, .slice ia inn ic, .slice ta tn tc, .slice ga gn gc, .slice ha hn hc] 31)).alloc (.cells #[.int .i64 regs, .slice oa on oc] 57) := ⟨_, rfl⟩
  have bw : Below w.heap.size w W0 := by rw [hW0]; exact ((Below.refl _ _).alloc (Nat.le_refl _) _).alloc (by simp) _
  have m0 : W0.heap[w.heap.size]? = some (.cells #[.slice ra rn rc, .slice ma mn mc, .slice fa fn fc, .slice ea en ec, .slice ia inn ic, .slice ta tn tc, .slice ga gn gc, .slice ha hn hc] 31 (0, 0)) := by rw [hW0]; exact (Below.heap_alloc _ _ _ (by simp)).trans (heap_alloc_new w _)
  have m5 : W0.heap[w.heap.size + 1]? = some (.cells #[.int .i64 regs, .slice oa on oc] 57 (0, 0)) := by
    have := heap_alloc_new (w.alloc (.cells #[.slice ra rn rc, .slice ma mn mc, .slice fa fn fc, .slice ea en ec, .slice ia inn ic, .slice ta tn tc, .slice ga gn gc, .slice ha hn hc] 31)) (.cells #[.int .i64 regs, .slice oa on oc] 57)
    rw [World.size_alloc] at this
    rw [hW0]; exact this
  have x0 := cellOf m0 0
  have x1 := cellOf m0 1
  have x2 := cellOf m0 2
  have x3 := cellOf m0 3
  have x4 := cellOf m0 4
  have x5 := cellOf m0 5
  have y0 := cellOf m5 0
  have y1 := cellOf m5 1
  simp only [List.getElem?_toArray, List.getElem?_cons_zero, List.getElem?_cons_succ] at x0 x1 x2 x3 x4 x5 y0 y1
  have BW := hid bw
  have I1 := hid i1
  have T1 := hid t1
  have R1 := hid r1
  have M1 := hid m1
  have F1 := hid f1
  have E1 := hid e1
  clear m0 m5 bw i1 t1 r1 m1 f1 e1
  have wr1 : ∀ x : Int, 0 ≤ x → x ≤ 9223372036854775807 → IntKind.i64.wrap (x - 1) = x - 1 := fun x a b => by rw [IntKind.wrap_i64]; omega
  by_cases h1 : r = 1
  · subst h1
    have HP : Hid (bnd c regs on 1 len = (0, regs - 1)) := hid (by unfold bnd; simp)
    have w1 := wr1 regs h0 (by omega)
    clear wr1
    go_enter Tryz.func116, Tryz.ntmps116
    go_upto_region 1 with fail
    rw [← hW0]
    clear hW0
    go_wp2
    go_quiet (fail)
    go_wp2
    go_ret2
    exact ⟨by rw [HP.out]; rfl, bel_dN BW.out _⟩
  have g1 : (r == 1) = false := by simp [h1]
  by_cases h3 : r = 3
  · subst h3
    have HP : Hid (bnd c regs on 3 len = (0, regs - 1)) := hid (by unfold bnd; simp)
    have w1 := wr1 regs h0 (by omega)
    clear wr1
    go_enter Tryz.func116, Tryz.ntmps116
    go_upto_region 1 with fail
    rw [← hW0]
    clear hW0
    go_wp2
    go_quiet (fail)
    go_wp2
    go_ret2
    exact ⟨by rw [HP.out]; rfl, bel_dN BW.out _⟩
  have g3 : (r == 3) = false := by simp [h3]
  by_cases h2 : r = 2
  · subst h2
    have HP : Hid (bnd c regs on 2 len = (-1, regs - 1)) := hid (by unfold bnd; simp)
    have w1 := wr1 regs h0 (by omega)
    clear wr1
    go_enter Tryz.func116, Tryz.ntmps116
    go_upto_region 1 with fail
    rw [← hW0]
    clear hW0
    go_wp2
    go_quiet (fail)
    go_wp2
    go_ret2
    exact ⟨by rw [HP.out]; rfl, bel_dN BW.out _⟩
  have g2 : (r == 2) = false := by simp [h2]
  by_cases h4 : r = 4
  · subst h4
    have HP : Hid (bnd c regs on 4 len = (-1, regs - 1)) := hid (by unfold bnd; simp)
    have w1 := wr1 regs h0 (by omega)
    clear wr1
    go_enter Tryz.func116, Tryz.ntmps116
    go_upto_region 1 with fail
    rw [← hW0]
    clear hW0
    go_wp2
    go_quiet (fail)
    go_wp2
    go_ret2
    exact ⟨by rw [HP.out]; rfl, bel_dN BW.out _⟩
  have g4 : (r == 4) = false := by simp [h4]
  by_cases h5 : r = 5
  · subst h5
    have HP : Hid (bnd c regs on 5 len = (0, regs - len)) := hid (by unfold bnd; simp)
    have w1 : IntKind.i64.wrap (regs - len) = regs - len := by rw [IntKind.wrap_i64]; omega
    clear wr1
    go_enter Tryz.func116, Tryz.ntmps116
    go_upto_region 1 with fail
    rw [← hW0]
    clear hW0
    go_wp2
    go_quiet (fail)
    go_wp2
    go_ret2
    exact ⟨by rw [HP.out]; rfl, bel_dN BW.out _⟩
  have g5 : (r == 5) = false := by simp [h5]
  by_cases h6 : r = 6
  · subst h6
    have HP : Hid (bnd c regs on 6 len = (0, (inn : Int) - 1)) := hid (by unfold bnd; simp [I1.out])
    have w1 := wr1 (inn : Int) (by omega) (by omega)
    clear wr1
    go_enter Tryz.func116, Tryz.ntmps116
    go_upto_region 1 with fail
    rw [← hW0]
    clear hW0
    go_wp2
    go_quiet (fail)
    go_wp2
    go_ret2
    exact ⟨by rw [HP.out]; rfl, bel_dN BW.out _⟩
  have g6 : (r == 6) = false := by simp [h6]
  by_cases h7 : r = 7
  · subst h7
    have HP : Hid (bnd c regs on 7 len = (0, (tn : Int) - 1)) := hid (by unfold bnd; simp [T1.out])
    have w1 := wr1 (tn : Int) (by omega) (by omega)
    clear wr1
    go_enter Tryz.func116, Tryz.ntmps116
    go_upto_region 1 with fail
    rw [← hW0]
    clear hW0
    go_wp2
    go_quiet (fail)
    go_wp2
    go_ret2
    exact ⟨by rw [HP.out]; rfl, bel_dN BW.out _⟩
  have g7 : (r == 7) = false := by simp [h7]
  by_cases h8 : r = 8
  · subst h8
    have HP : Hid (bnd c regs on 8 len = (0, 1)) := hid (by unfold bnd; simp)
    clear wr1
    go_enter Tryz.func116, Tryz.ntmps116
    go_upto_region 1 with fail
    rw [← hW0]
    clear hW0
    go_wp2
    go_ret2
    exact ⟨by rw [HP.out]; rfl, BW.out⟩
  have g8 : (r == 8) = false := by simp [h8]
  by_cases h9 : r = 9
  · subst h9
    have HP : Hid (bnd c regs on 9 len = (0, (rn : Int) - 1)) := hid (by unfold bnd; simp [R1.out])
    have w1 := wr1 (rn : Int) (by omega) (by omega)
    clear wr1
    go_enter Tryz.func116, Tryz.ntmps116
    go_upto_region 1 with fail
    rw [← hW0]
    clear hW0
    go_wp2
    go_quiet (fail)
    go_wp2
    go_ret2
    exact ⟨by rw [HP.out]; rfl, bel_dN BW.out _⟩
  have g9 : (r == 9) = false := by simp [h9]
  by_cases h10 : r = 10
  · subst h10
    have HP : Hid (bnd c regs on 10 len = (0, 11)) := hid (by unfold bnd; simp)
    clear wr1
    go_enter Tryz.func116, Tryz.ntmps116
    go_upto_region 1 with fail
    rw [← hW0]
    clear hW0
    go_wp2
    go_ret2
    exact ⟨by rw [HP.out]; rfl, BW.out⟩
  have g10 : (r == 10) = false := by simp [h10]
  by_cases h11 : r = 11
  · subst h11
    have HP : Hid (bnd c regs on 11 len = (0, (mn : Int) - 1)) := hid (by unfold bnd; simp [M1.out])
    have w1 := wr1 (mn : Int) (by omega) (by omega)
    clear wr1
    go_enter Tryz.func116, Tryz.ntmps116
    go_upto_region 1 with fail
    rw [← hW0]
    clear hW0
    go_wp2
    go_quiet (fail)
    go_wp2
    go_ret2
    exact ⟨by rw [HP.out]; rfl, bel_dN BW.out _⟩
  have g11 : (r == 11) = false := by simp [h11]
  by_cases h12 : r = 12
  · subst h12
    have HP : Hid (bnd c regs on 12 len = (0, (fn : Int) - 1)) := hid (by unfold bnd; simp [F1.out])
    have w1 := wr1 (fn : Int) (by omega) (by omega)
    clear wr1
    go_enter Tryz.func116, Tryz.ntmps116
    go_upto_region 1 with fail
    rw [← hW0]
    clear hW0
    go_wp2
    go_quiet (fail)
    go_wp2
    go_ret2
    exact ⟨by rw [HP.out]; rfl, bel_dN BW.out _⟩
  have g12 : (r == 12) = false := by simp [h12]
  by_cases h13 : r = 13
  · subst h13
    have HP : Hid (bnd c regs on 13 len = (0, (en : Int) - 1)) := hid (by unfold bnd; simp [E1.out])
    have w1 := wr1 (en : Int) (by omega) (by omega)
    clear wr1
    go_enter Tryz.func116, Tryz.ntmps116
    go_upto_region 1 with fail
    rw [← hW0]
    clear hW0
    go_wp2
    go_quiet (fail)
    go_wp2
    go_ret2
    exact ⟨by rw [HP.out]; rfl, bel_dN BW.out _⟩
  have g13 : (r == 13) = false := by simp [h13]
  by_cases h14 : r = 14
  · subst h14
    have HP : Hid (bnd c regs on 14 len = (0, (on : Int) - 1)) := hid (by unfold bnd; simp)
    have w1 := wr1 (on : Int) (by omega) (by omega)
    clear wr1
    go_enter Tryz.func116, Tryz.ntmps116
    go_upto_region 1 with fail
    rw [← hW0]
    clear hW0
    go_wp2
    go_quiet (fail)
    go_wp2
    go_ret2
    exact ⟨by rw [HP.out]; rfl, bel_dN BW.out _⟩
  have g14 : (r == 14) = false := by simp [h14]
  have HP : Hid (bnd c regs on r len = (0, 0)) := hid (by unfold bnd; simp [h1, h2, h3, h4, h5, h6, h7, h8, h9, h10, h11, h12, h13, h14])
  clear wr1
  go_enter Tryz.func116, Tryz.ntmps116
  go_upto_region 1 with fail
  rw [← hW0]
  clear hW0
  go_wp2
  go_ret2
  exact ⟨by rw [HP.out]; rfl, BW.out⟩
end Go.Proofs.YthnolocldeokeaaGreat

namespace Go.Proofs
open Go.Shelf
end Go.Proofs
namespace Go.Proofs.YthnolocldeokeaaGreat
open Go.RowKit Go.Deep Go.Shelf
set_option linter.unusedVariables false
set_option linter.unusedSimpArgs false
/- Rows. -/
structure Rk (k : Nat) (rows : List (List Value)) : Prop where
  len : ∀ r ∈ rows, r.length = k
  one : ∀ r ∈ rows, ∀ u ∈ r, u.oneCell' = true
theorem Rk.app {k : Nat} {l m : List (List Value)} (h : Rk k l) (g : Rk k m) : Rk k (l ++ m) := ⟨fun r hr => (List.mem_append.1 hr).elim (h.len r) (g.len r), fun r hr => (List.mem_append.1 hr).elim (h.one r) (g.one r)⟩
theorem flat_len {k : Nat} : ∀ {rows : List (List Value)}, (∀ r ∈ rows, r.length = k) → rows.flatten.length = rows.length * k
  | [], _ => by simp
  | r :: l, h => by
    have h1 := flat_len (rows := l) (fun x hx => h x (List.mem_cons_of_mem _ hx))
    have h2 := h r (List.mem_cons_self ..)
    rw [List.flatten_cons, List.length_append, h1, h2, List.length_cons, Nat.add_mul]; omega
theorem flat_at {k : Nat} : ∀ {rows : List (List Value)}, (∀ r ∈ rows, r.length = k) → ∀ (j : Nat) (r : List Value), rows[j]? = some r → ∀ i, i < k → rows.flatten[j * k + i]? = r[i]?
  | [], _, j, r, e => by simp at e
  | p :: l, h, 0, r, e => fun i hi => by
    simp at e; subst e
    rw [List.flatten_cons, Nat.zero_mul, Nat.zero_add, List.getElem?_append_left (by rw [h p (List.mem_cons_self ..)]; exact hi)]
  | p :: l, h, j + 1, r, e => fun i hi => by
    have h1 : l[j]? = some r := by simpa using e
    have h2 := flat_at (rows := l) (fun x hx => h x (List.mem_cons_of_mem _ hx)) j r h1 i hi
    have hp := h p (List.mem_cons_self ..)
    have he : (j + 1) * k + i - p.length = j * k + i := by rw [hp, Nat.add_mul]; omega
    rw [List.flatten_cons, List.getElem?_append_right (by rw [hp, Nat.add_mul]; omega), he]; exact h2
theorem flat_of {k : Nat} (k0 : 0 < k) {rows : List (List Value)} (h : ∀ r ∈ rows, r.length = k) {q : Nat} {u : Value} (e : rows.flatten[q]? = some u) : ∃ r, rows[q / k]? = some r ∧ r[q % k]? = some u := by
  have hq : q < rows.length * k := by rw [← flat_len h]; exact (List.getElem?_eq_some_iff.1 e).1
  have hj : q / k < rows.length := (Nat.div_lt_iff_lt_mul k0).2 hq
  refine ⟨rows[q / k], List.getElem?_eq_getElem hj, ?_⟩
  rw [← flat_at h (q / k) _ (List.getElem?_eq_getElem hj) (q % k) (Nat.mod_lt _ k0), show q / k * k + q % k = q by rw [Nat.mul_comm]; exact Nat.div_add_mod q k]
  exact e
def KR (E : TypeId) (k : Nat) (w : World) (B : Nat) (v : Value) (rows : List (List Value)) : Prop := w.ownsRow B E k v rows.length rows.flatten ∧ Rk k rows
theorem KR.nil (E : TypeId) (k : Nat) (w : World) (B : Nat) : KR E k w B (.slice none 0 0) [] := ⟨⟨by simp, .inl ⟨rfl, rfl⟩⟩, ⟨fun r hr => by simp at hr, fun r hr => by simp at hr⟩⟩
theorem KR.keep {E : TypeId} {k : Nat} {w w' : World} {B : Nat} {v : Value} {l : List (List Value)} (h : KR E k w B v l) (e : ∀ g, v.ownBlock = some g → w'.heap[g]? = w.heap[g]?) : KR E k w' B v l := by
  refine ⟨⟨h.1.1, ?_⟩, h.2⟩
  rcases h.1.2 with h2 | ⟨g, cap, cur, rfl, h3, h4, h5⟩
  · exact .inl h2
  · exact .inr ⟨g, cap, cur, rfl, h3, (e g rfl).trans h4, h5⟩
theorem KR.own {E : TypeId} {k : Nat} {w : World} {B : Nat} {v : Value} {l : List (List Value)} (h : KR E k w B v l) {g : Nat} (e : v.ownBlock = some g) : B ≤ g ∧ g < w.heap.size := by
  rcases h.1.2 with ⟨rfl, _⟩ | ⟨g', cap, cur, rfl, h3, h4, h5⟩
  · cases e
  · cases e; exact ⟨h3, lt_of_heap h4⟩
theorem KR.below {E : TypeId} {k : Nat} {w w' : World} {B C : Nat} {v : Value} {l : List (List Value)} (h : KR E k w B v l) (hC : w.heap.size ≤ C) (q : Below C w w') : KR E k w' B v l := h.keep fun g e => q.block g (by have := (h.own e).2; omega)
theorem KR.lower {E : TypeId} {k : Nat} {w : World} {B C : Nat} {v : Value} {l : List (List Value)} (h : KR E k w B v l) (hC : C ≤ B) : KR E k w C v l := by
  refine ⟨⟨h.1.1, ?_⟩, h.2⟩
  rcases h.1.2 with h2 | ⟨g, cap, cur, rfl, h3, h4⟩
  · exact .inl h2
  · exact .inr ⟨g, cap, cur, rfl, by omega, h4⟩
theorem KR.rd {E : TypeId} {k : Nat} {w : World} {B : Nat} {v : Value} {l : List (List Value)} (h : KR E k w B v l) : ∃ a cap, v = .slice a l.length cap ∧ l.length ≤ cap ∧ CRd w a k l ∧ (a = none → cap = 0) ∧ ∀ x : Addr, a = some x → B ≤ x.block := by
  rcases h.1.2 with ⟨rfl, h2⟩ | ⟨g, cap, cur, rfl, h3, h4, h5, h6, h7, h8⟩
  · have : l = [] := List.eq_nil_of_length_eq_zero h2
    subst this
    exact ⟨none, 0, rfl, by simp, fun j x hx => by simp at hx, fun _ => rfl, fun x e => by cases e⟩
  · refine ⟨_, cap, rfl, h5, fun j r hr => ⟨g, 0, rfl, lt_of_heap h4, fun i hi => ?_⟩, (fun e => by cases e), (fun x e => by cases e; exact h3)⟩
    have hj := (List.getElem?_eq_some_iff.1 hr).1
    have hlt : j * k + i < l.length * k := by
      have : (j + 1) * k ≤ l.length * k := Nat.mul_le_mul_right k hj
      rw [Nat.add_mul] at this; omega
    rw [cellOf h4, ← flat_at h.2.len j r hr i hi, ← h8, List.getElem?_take, if_pos hlt, Nat.zero_add]
    simp
theorem KR.one {E : TypeId} {k : Nat} (w : World) (r : List Value) (hr : r.length = k) (h1 : ∀ u ∈ r, u.oneCell' = true) : KR E k (w.alloc (.cells r.toArray E)) w.heap.size (.slice (some ⟨w.heap.size, 0, none⟩) 1 1) [r] := by
  refine ⟨⟨by simp [hr], .inr ⟨w.heap.size, 1, r.toArray, rfl, Nat.le_refl _, heap_alloc_new w _, Nat.le_refl _, by unfold maxLen; omega, by simp [hr], ?_⟩⟩, ⟨fun x hx => by simp at hx; rw [hx]; exact hr, fun x hx => by simp at hx; rw [hx]; exact h1⟩⟩
  simp [← hr]
theorem run_appK {T E : TypeId} {k bytes : Nat} {z : Value} (hU : Tryz.prog.underlying T = some (.slice E)) (hI : (Tryz.prog.info? E).map (fun i => (i.zero, i.size, i.bytes)) = some (some z, k, bytes)) (hz : z.cells.size = k) (k0 : 0 < k) (hby : bytes ≤ 100)
    (w : World) (ty : TypeId) (B : Nat) (v : Value) (l : List (List Value)) (h : KR E k w B v l) (a : Option Addr) (m c : Nat) (l2 : List (List Value)) (hm : m = l2.length) (hr : CRd w a k l2) (hR : Rk k l2) (hnil : a = none → c = 0) (hl : l.length ≤ 1000000) (hl2 : m ≤ 1000000) (hB : B ≤ w.heap.size) :
    ∃ v' w', (Builtin.append_ #[T, T] ty #[v, .slice a m c]).run Tryz.prog w = .ok v' w' ∧ KR E k w' B v' (l ++ l2) ∧ w.grownBy w' v.ownBlock ∧ (v'.ownBlock = v.ownBlock ∨ v'.ownBlock = some w.heap.size) := by
  obtain ⟨i0, hi, hz0, hz1, hz2⟩ := info_parts hI
  cases a with
  | none =>
    have hc0 := hnil rfl
    have hl0 : l2 = [] := by
      cases l2 with
      | nil => rfl
      | cons o r => obtain ⟨b, off, e, _⟩ := hr 0 o rfl; cases e
    subst hl0
    subst hc0
    have hm0 : m = 0 := hm
    subst hm0
    exact ⟨v, w, run_append_owned_none w B T ty E i0 k hU hi v l.length l.flatten h.1, by rw [List.append_nil]; exact h, ⟨rfl, rfl, rfl, Nat.le_refl _, fun _ _ _ => rfl⟩, .inl rfl⟩
  | some ad =>
    have hcell : ∀ q u, l2.flatten[q]? = some u → w.cell? (ad.add q) = some u := by
      intro q u hu
      obtain ⟨r, hr1, hr2⟩ := flat_of k0 hR.len hu
      obtain ⟨b, off, e, _, hc⟩ := hr (q / k) r hr1
      cases e
      have := hc (q % k) (Nat.mod_lt _ k0)
      rw [hr2] at this
      have he : off + q / k * k + q % k = off + q := by rw [Nat.add_assoc, Nat.mul_comm, Nat.div_add_mod]
      rw [Addr.add_lit, ← he]
      exact this
    have hone : ∀ u ∈ l2.flatten, u.oneCell' = true := fun u hu => by
      obtain ⟨r, hr1, hr2⟩ := List.mem_flatten.1 hu
      exact hR.one r hr1 u hr2
    obtain ⟨v', w', hrun, hown, hgr, _, hat⟩ := run_append_own_at (P := Tryz.prog) w B T ty E i0 z k bytes hU hi hz0 hz1 hz2 hz k0 v l.length l.flatten h.1 ad m c l2.flatten (by rw [flat_len hR.len, hm]) hcell hone (by unfold maxLen; omega) (by
      have : (l.length + m) * bytes ≤ 2000000 * 100 := Nat.mul_le_mul (by omega) hby
      omega) hB
    refine ⟨v', w', hrun, ⟨?_, h.2.app hR⟩, hgr, hat⟩
    rw [List.length_append, ← hm, List.flatten_append]
    exact hown
theorem wpList_appK {T E : TypeId} {k bytes : Nat} {z : Value} (hU : Tryz.prog.underlying T = some (.slice E)) (hI : (Tryz.prog.info? E).map (fun i => (i.zero, i.size, i.bytes)) = some (some z, k, bytes)) (hz : z.cells.size = k) (k0 : 0 < k) (hby : bytes ≤ 100)
    {ops : Array Oper} {rest : List Oper} {o : Oper} {act : Act} {Q : Exit → Act → World → Prop} (w : World) (hgd : o.guard = none) (s x : Operand)
    (ho : o.op = .call { callee := .builtin .append, args := #[s, x], argTypes := #[T, T] }) (v u : Value) (hs : act.eval s = v) (hx : act.eval x = u) (B : Nat) (l : List (List Value)) (h : KR E k w B v l) (a : Option Addr) (m c : Nat) (hu : u = .slice a m c) (l2 : List (List Value)) (hm : m = l2.length) (hr : CRd w a k l2) (hR : Rk k l2) (hnil : a = none → c = 0) (hl : l.length ≤ 1000000) (hl2 : m ≤ 1000000) (hB : B ≤ w.heap.size)
    (kk : ∀ v' w', KR E k w' B v' (l ++ l2) → w.grownBy w' v.ownBlock → (v'.ownBlock = v.ownBlock ∨ v'.ownBlock = some w.heap.size) → wpList Tryz.prog ops Q rest (act.put o.dst v') w') :
    wpList Tryz.prog ops Q (o :: rest) act w := by
  refine wpList_plain hgd fun K hK => ?_
  subst hu
  obtain ⟨v', w', hrun, h2, h3, h4⟩ := run_appK hU hI hz k0 hby w o.type B v l h a m c l2 hm hr hR hnil hl hl2 hB
  unfold Oper.wp execOp
  simp only [ho, resolve, invoke, builtin, Sem.run_bind, Sem.run_pure, Result.andThen_ok, List.map_toArray, List.map_cons, List.map_nil, hs, hx, hrun]
  exact hK _ _ (kk v' w' h2 h3 h4)
theorem KR.grown {E : TypeId} {k : Nat} {w0 w w' : World} {B : Nat} {v : Value} {l : List (List Value)} (hb : Below B w0 w) (h : KR E k w B v l) (hg : w.grownBy w' v.ownBlock) (hB : B ≤ w.heap.size) : Below B w0 w' :=
  hb.grown hg hB (fun g e => (h.own e).1)
theorem infoS : (Tryz.prog.info? 9).map (fun i => (i.zero, i.size, i.bytes)) = some (some (.string ⟨#[]⟩), 1, 16) := by kernel_rfl
theorem infoT : (Tryz.prog.info? 46).map (fun i => (i.zero, i.size, i.bytes)) = some (some (.agg #[.int .i64 0, .int .i64 0]), 2, 16) := by kernel_rfl
theorem infoI : (Tryz.prog.info? 2).map (fun i => (i.zero, i.size, i.bytes)) = some (some (.int .i64 0), 1, 8) := by kernel_rfl
theorem infoF : (Tryz.prog.info? 57).map (fun i => (i.zero, i.size, i.bytes)) = some (some (.agg #[.int .i64 0, .slice none 0 0]), 2, 32) := by kernel_rfl
theorem infoG : (Tryz.prog.info? 49).map (fun i => (i.zero, i.size, i.bytes)) = some (some (.agg #[.string ⟨#[]⟩, .slice none 0 0, .int .i64 0, .int .i64 0]), 4, 56) := by kernel_rfl
theorem infoR : (Tryz.prog.info? 63).map (fun i => (i.zero, i.size, i.bytes)) = some (some (.agg #[.string ⟨#[]⟩, .slice none 0 0, .slice none 0 0]), 3, 64) := by kernel_rfl
theorem infoM : (Tryz.prog.info? 67).map (fun i => (i.zero, i.size, i.bytes)) = some (some (.agg #[.string ⟨#[]⟩, .int .i64 0, .int .i64 0, .int .i64 0, .int .i64 0]), 5, 48) := by kernel_rfl
end Go.Proofs.YthnolocldeokeaaGreat

namespace Go.Proofs.YthnolocldeokeaaGreat
open Go.RowKit Go.Deep Go.Shelf
set_option linter.unusedVariables false
set_option linter.unusedSimpArgs false
def tyc (t : TyP) : List Value := [.int .i64 t.1, .int .i64 t.2]
def inc (x : Int) : List Value := [.int .i64 x]
def stc (s : ByteArray) : List Value := [.string s]
theorem rk_ty (ts : List TyP) : Rk 2 (ts.map tyc) := ⟨fun r hr => by obtain ⟨t, _, rfl⟩ := List.mem_map.1 hr; rfl, fun r hr u hu => by
  obtain ⟨t, _, rfl⟩ := List.mem_map.1 hr
  simp [tyc] at hu
  rcases hu with rfl | rfl <;> rfl⟩
theorem rk_in (xs : List Int) : Rk 1 (xs.map inc) := ⟨fun r hr => by obtain ⟨t, _, rfl⟩ := List.mem_map.1 hr; rfl, fun r hr u hu => by
  obtain ⟨t, _, rfl⟩ := List.mem_map.1 hr
  simp [inc] at hu
  subst hu; rfl⟩
theorem rk_st (s : ByteArray) : Rk 1 [stc s] := ⟨fun r hr => by simp at hr; subst hr; rfl, fun r hr u hu => by
  simp at hr; subst hr
  simp [stc] at hu
  subst hu; rfl⟩
theorem TRd.crd {w : World} {a : Option Addr} {ts : List TyP} (h : TRd w a ts) : CRd w a 2 (ts.map tyc) := fun j r e => by
  rw [List.getElem?_map] at e
  obtain ⟨t, ht, rfl⟩ := Option.map_eq_some_iff.1 e
  obtain ⟨b, off, e1, h1, h2⟩ := h j t ht
  refine ⟨b, off, e1, World.block_lt_of_cell? w _ h1, fun i hi => ?_⟩
  rcases (show i = 0 ∨ i = 1 by omega) with rfl | rfl
  · exact h1
  · exact h2
theorem CRd.trd {w : World} {a : Option Addr} {ts : List TyP} (h : CRd w a 2 (ts.map tyc)) : TRd w a ts := fun j t ht => by
  obtain ⟨b, off, e1, _, hc⟩ := h j (tyc t) (by rw [List.getElem?_map, ht]; rfl)
  exact ⟨b, off, e1, hc 0 (by omega), hc 1 (by omega)⟩
def JRd (w : World) (a : Option Addr) (xs : List Int) : Prop := CRd w a 1 (xs.map inc)
theorem crd_one (E : TypeId) (w : World) (r : List Value) (k : Nat) (hk : r.length = k) : CRd (w.alloc (.cells r.toArray E)) (some ⟨w.heap.size, 0, none⟩) k [r] := fun j x e => by
  cases j with
  | succ j => simp at e
  | zero =>
    simp at e; subst e
    refine ⟨w.heap.size, 0, rfl, by rw [World.size_alloc]; omega, fun i hi => ?_⟩
    rw [cellOf (heap_alloc_new w _)]
    simp
end Go.Proofs.YthnolocldeokeaaGreat

namespace Go.Proofs.YthnolocldeokeaaGreat
open Go.RowKit Go.Deep Go.Shelf
set_option linter.unusedVariables false
set_option linter.unusedSimpArgs false
/- Another row is left as it was, if its elements are of another type. -/
theorem KR.other {E F : TypeId} (hne : E ≠ F) {k q : Nat} {w w' : World} {B C : Nat} {v r : Value} {l m : List (List Value)} (h : KR E k w B v l) (g : KR F q w C r m) (hg : w.grownBy w' r.ownBlock) : KR E k w' B v l := h.keep fun b e => by
  rcases h.1.2 with ⟨rfl, _⟩ | ⟨b', cap, cur, rfl, h3, h4, _⟩
  · cases e
  · cases e
    refine hg.block b' (lt_of_heap h4) fun e2 => ?_
    rcases g.1.2 with ⟨rfl, _⟩ | ⟨c', cap', cur', rfl, g3, g4, _⟩
    · cases e2
    · cases e2
      rw [h4] at g4
      cases g4
      exact hne rfl
/- A signature laid anew. -/
structure GNew (w : World) (B : Nat) (p : GH × Sg) : Prop where
  nm : p.1.name = p.2.name
  ns : p.1.name.size ≤ 1000000
  pr : KR 46 2 w B (.slice p.1.pa p.1.pn p.1.pc) (p.2.params.map tyc)
  rs : (p.1.k, p.1.r) = p.2.res
theorem GNew.rd {w : World} {B : Nat} {p : GH × Sg} (h : GNew w B p) (hl : p.2.params.length ≤ 1000000) : SgRd w p.1 p.2 := by
  obtain ⟨⟨nm, pa, pn, pc, kd, rr⟩, s⟩ := p
  obtain ⟨a, cap, e, hc, hr, _, _⟩ := h.pr.rd
  have h2 := h.ns
  have h3 := h.nm
  have h4 := h.rs
  simp only at h2 h3 h4 hl e
  rw [List.length_map] at e
  cases e
  exact ⟨h3, by show nm.size ≤ _; omega, rfl, by show s.params.length ≤ _; omega, CRd.trd hr, h4⟩
theorem GNew.below {w w' : World} {B C : Nat} {p : GH × Sg} (h : GNew w B p) (hC : w.heap.size ≤ C) (q : Below C w w') : GNew w' B p := ⟨h.nm, h.ns, h.pr.below hC q, h.rs⟩
theorem GNew.other {F : TypeId} (hne : 46 ≠ F) {q : Nat} {w w' : World} {B C : Nat} {r : Value} {m : List (List Value)} {p : GH × Sg} (h : GNew w B p) (g : KR F q w C r m) (hg : w.grownBy w' r.ownBlock) : GNew w' B p := ⟨h.nm, h.ns, h.pr.other hne g hg, h.rs⟩
theorem rk_gh (g : GH) : Rk 4 [g.cs] := ⟨fun r hr => by simp at hr; subst hr; rfl, fun r hr u hu => by
  simp at hr; subst hr
  simp [GH.cs] at hu
  rcases hu with rfl | rfl | rfl | rfl <;> rfl⟩
/- What newSigs answers. -/
def SgsN (w : World) (B : Nat) (v : Value) (ss : List Sg) : Prop := ∃ gs : List (GH × Sg), gs.map (·.2) = ss ∧ KR 49 4 w B v (gs.map fun p => p.1.cs) ∧ ∀ p ∈ gs, GNew w B p
end Go.Proofs.YthnolocldeokeaaGreat

namespace Go.Proofs.YthnolocldeokeaaGreat
open Go.RowKit Go.Deep Go.Shelf
set_option linter.unusedVariables false
set_option linter.unusedSimpArgs false
/- A function laid anew. -/
structure FNew (w : World) (B : Nat) (p : FH × Fx) : Prop where
  rg : p.1.regs = p.2.regs
  op : OpR w B (.slice p.1.oa p.1.on p.1.oc) p.2.ops
theorem FNew.below {w w' : World} {B C : Nat} {p : FH × Fx} (h : FNew w B p) (hC : w.heap.size ≤ C) (q : Below C w w') : FNew w' B p := ⟨h.rg, h.op.below hC q⟩
theorem FNew.other {w w' : World} {B C : Nat} {r : Value} {m : List (List Value)} {p : FH × Fx} (h : FNew w B p) (g : KR 57 2 w C r m) (hg : w.grownBy w' r.ownBlock) : FNew w' B p := ⟨h.rg, h.op.keep fun b e => by
  have h1 := h.op.2
  rcases h1 with ⟨e1, _⟩ | ⟨b', cap, cur, e1, h3, h4, _⟩
  · rw [e1] at e; cases e
  · rw [e1] at e
    cases e
    refine hg.block b' (lt_of_heap h4) fun e2 => ?_
    rcases g.1.2 with ⟨rfl, _⟩ | ⟨c', cap', cur', rfl, g3, g4, _⟩
    · cases e2
    · cases e2
      rw [h4] at g4
      cases g4⟩
theorem FNew.rd {w : World} {B : Nat} {p : FH × Fx} (h : FNew w B p) (hl : p.2.ops.length ≤ 1000000) : FnRd w p.1 p.2 := by
  obtain ⟨⟨regs, oa, on, oc⟩, f⟩ := p
  obtain ⟨a, cap, e, hr, _⟩ := h.op.rd
  have h2 := h.rg
  simp only at e h2 hl hr
  cases e
  exact ⟨h2, rfl, by show f.ops.length ≤ _; omega, hr⟩
def FnsN (w : World) (B : Nat) (v : Value) (l : List Fx) : Prop := ∃ fs : List (FH × Fx), fs.map (·.2) = l ∧ KR 57 2 w B v (fs.map fun p => p.1.cs) ∧ ∀ p ∈ fs, FNew w B p
theorem FnsN.below {w w' : World} {B C : Nat} {v : Value} {l : List Fx} (h : FnsN w B v l) (hC : w.heap.size ≤ C) (q : Below C w w') : FnsN w' B v l := by
  obtain ⟨fs, h1, h2, h3⟩ := h
  exact ⟨fs, h1, h2.below hC q, fun p hp => (h3 p hp).below hC q⟩
theorem rk_fh (f : FH) : Rk 2 [f.cs] := ⟨fun r hr => by simp at hr; subst hr; rfl, fun r hr u hu => by
  simp at hr; subst hr
  simp [FH.cs] at hu
  rcases hu with rfl | rfl <;> rfl⟩
end Go.Proofs.YthnolocldeokeaaGreat

namespace Go.Proofs.YthnolocldeokeaaGreat
open Go.RowKit Go.Deep Go.Shelf
set_option linter.unusedVariables false
set_option linter.unusedSimpArgs false
structure Frm where
  d : Bool
  a : Bool
  b : Bool
  k : Bool
  ok : Bool
def Frm.cs (f : Frm) : List Value := [.bool f.d, .bool f.a, .bool f.b, .bool f.k]
def frm (k : Int) : Frm :=
  if k = 1 ∨ k = 2 ∨ k = 3 then ⟨true, false, false, true, true⟩
  else if k = 4 ∨ k = 20 ∨ k = 21 ∨ k = 22 ∨ k = 23 then ⟨true, true, false, false, true⟩
  else if k = 24 ∨ k = 25 ∨ k = 26 ∨ k = 27 ∨ k = 31 ∨ k = 32 then ⟨true, true, false, true, true⟩
  else if k = 28 ∨ k = 34 then ⟨false, true, true, true, true⟩
  else if k = 29 ∨ k = 39 then ⟨false, true, false, true, true⟩
  else if k = 30 then ⟨true, true, true, true, true⟩
  else if k = 33 ∨ k = 40 then ⟨false, true, false, false, true⟩
  else if k = 35 ∨ k = 36 ∨ k = 37 then ⟨false, false, false, false, true⟩
  else if k = 38 then ⟨false, false, false, true, true⟩
  else if 5 ≤ k ∧ k ≤ 19 then ⟨true, true, true, false, true⟩
  else ⟨false, false, false, false, false⟩
def frmR (k : Int) : Ending := .returned (.tuple #[.agg (frm k).cs.toArray, .bool (frm k).ok])
theorem frmR_of {k : Int} {f : Frm} (h : frm k = f) : Ending.returned (.tuple #[.agg #[.bool f.d, .bool f.a, .bool f.b, .bool f.k], .bool f.ok]) = frmR k := by unfold frmR; rw [h]; rfl
def four (w : World) (b : Nat) (x0 x1 x2 x3 : Value) : World := (((w.setCell ⟨b, 0, none⟩ x0).setCell ⟨b, 1, none⟩ x1).setCell ⟨b, 2, none⟩ x2).setCell ⟨b, 3, none⟩ x3
theorem four_new {w : World} {b : Nat} {p0 p1 p2 p3 : Value} {t : TypeId} (h : w.heap[b]? = some (.cells #[p0, p1, p2, p3] t (0, 0))) (x0 x1 x2 x3 : Value) : (four w b x0 x1 x2 x3).heap[b]? = some (.cells #[x0, x1, x2, x3] t (0, 0)) := heap_set_at (heap_set_at (heap_set_at (heap_set_at h 0 x0) 1 x1) 2 x2) 3 x3
theorem four_below {B : Nat} {w0 w : World} (hb : Below B w0 w) {b : Nat} (hB : B ≤ b) (x0 x1 x2 x3 : Value) : Below B w0 (four w b x0 x1 x2 x3) := by
  unfold four
  exact (((hb.setCell hB _).setCell hB _).setCell hB _).setCell hB _
set_option maxRecDepth 100000 in
set_option maxHeartbeats 4000000 in
theorem of_any (w : World) (k : Int) : Calls Tryz.prog 101 #[.int .i64 k] w fun e w' => e = frmR k ∧ Below w.heap.size w w' := by
  obtain ⟨W0, hW0⟩ : ∃ W0, W0 = w.alloc (.cells #[.bool false, .bool false, .bool false, .bool false] 155) := ⟨_, rfl⟩
  have bw : Below w.heap.size w W0 := by rw [hW0]; exact (Below.refl _ _).alloc (Nat.le_refl _) _
  have m0 : W0.heap[w.heap.size]? = some (.cells #[.bool false, .bool false, .bool false, .bool false] 155 (0, 0)) := by rw [hW0]; exact heap_alloc_new w _
  have y0 := cellOf m0 0
  have y1 := cellOf m0 1
  have y2 := cellOf m0 2
  have y3 := cellOf m0 3
  have f0 := freeOf m0 0
  have f1 := freeOf m0 1
  have f2 := freeOf m0 2
  have f3 := freeOf m0 3
  simp only [List.getElem?_toArray, List.getElem?_cons_zero, List.getElem?_cons_succ] at y0 y1 y2 y3
  have FIN := hid (fun (x0 x1 x2 x3 : Value) => (⟨four_new m0 x0 x1 x2 x3, four_below bw (b := w.heap.size) (Nat.le_refl _) x0 x1 x2 x3⟩ : (four W0 w.heap.size x0 x1 x2 x3).heap[w.heap.size]? = some (.cells #[x0, x1, x2, x3] 155 (0, 0)) ∧ Below w.heap.size w (four W0 w.heap.size x0 x1 x2 x3)))
  clear bw m0
  by_cases h1 : k = 1
  · have HF : Hid (frm k = ⟨true, false, false, true, true⟩) := hid (by rw [h1]; rfl)
    have FN := hid (FIN.out (.bool true) (.bool false) (.bool false) (.bool true))
    clear FIN
    subst h1
    go_enter Tryz.func101, Tryz.ntmps101
    go_upto_region 1 with fail
    rw [← hW0]
    clear hW0
    go_wp2
    obtain ⟨hf, hb⟩ := FN.out
    have q0 := cellOf hf 0
    have q1 := cellOf hf 1
    have q2 := cellOf hf 2
    have q3 := cellOf hf 3
    simp only [four, List.getElem?_toArray, List.getElem?_cons_zero, List.getElem?_cons_succ] at q0 q1 q2 q3 hb
    refine bodyPost_ret (v := .tuple #[.agg #[.bool true, .bool false, .bool false, .bool true], .bool true]) (by simp [results, Tryz.results101, go_sem, q0, q1, q2, q3]) rfl ⟨frmR_of HF.out, hb⟩
  have b1 : (k == 1) = false := by simp [h1]
  by_cases h2 : k = 2
  · have HF : Hid (frm k = ⟨true, false, false, true, true⟩) := hid (by rw [h2]; rfl)
    have FN := hid (FIN.out (.bool true) (.bool false) (.bool false) (.bool true))
    clear FIN
    subst h2
    go_enter Tryz.func101, Tryz.ntmps101
    go_upto_region 1 with fail
    rw [← hW0]
    clear hW0
    go_wp2
    obtain ⟨hf, hb⟩ := FN.out
    have q0 := cellOf hf 0
    have q1 := cellOf hf 1
    have q2 := cellOf hf 2
    have q3 := cellOf hf 3
    simp only [four, List.getElem?_toArray, List.getElem?_cons_zero, List.getElem?_cons_succ] at q0 q1 q2 q3 hb
    refine bodyPost_ret (v := .tuple #[.agg #[.bool true, .bool false, .bool false, .bool true], .bool true]) (by simp [results, Tryz.results101, go_sem, q0, q1, q2, q3]) rfl ⟨frmR_of HF.out, hb⟩
  have b2 : (k == 2) = false := by simp [h2]
  by_cases h3 : k = 3
  · have HF : Hid (frm k = ⟨true, false, false, true, true⟩) := hid (by rw [h3]; rfl)
    have FN := hid (FIN.out (.bool true) (.bool false) (.bool false) (.bool true))
    clear FIN
    subst h3
    go_enter Tryz.func101, Tryz.ntmps101
    go_upto_region 1 with fail
    rw [← hW0]
    clear hW0
    go_wp2
    obtain ⟨hf, hb⟩ := FN.out
    have q0 := cellOf hf 0
    have q1 := cellOf hf 1
    have q2 := cellOf hf 2
    have q3 := cellOf hf 3
    simp only [four, List.getElem?_toArray, List.getElem?_cons_zero, List.getElem?_cons_succ] at q0 q1 q2 q3 hb
    refine bodyPost_ret (v := .tuple #[.agg #[.bool true, .bool false, .bool false, .bool true], .bool true]) (by simp [results, Tryz.results101, go_sem, q0, q1, q2, q3]) rfl ⟨frmR_of HF.out, hb⟩
  have b3 : (k == 3) = false := by simp [h3]
  by_cases h4 : k = 4
  · have HF : Hid (frm k = ⟨true, true, false, false, true⟩) := hid (by rw [h4]; rfl)
    have FN := hid (FIN.out (.bool true) (.bool true) (.bool false) (.bool false))
    clear FIN
    subst h4
    go_enter Tryz.func101, Tryz.ntmps101
    go_upto_region 1 with fail
    rw [← hW0]
    clear hW0
    go_wp2
    obtain ⟨hf, hb⟩ := FN.out
    have q0 := cellOf hf 0
    have q1 := cellOf hf 1
    have q2 := cellOf hf 2
    have q3 := cellOf hf 3
    simp only [four, List.getElem?_toArray, List.getElem?_cons_zero, List.getElem?_cons_succ] at q0 q1 q2 q3 hb
    refine bodyPost_ret (v := .tuple #[.agg #[.bool true, .bool true, .bool false, .bool false], .bool true]) (by simp [results, Tryz.results101, go_sem, q0, q1, q2, q3]) rfl ⟨frmR_of HF.out, hb⟩
  have b4 : (k == 4) = false := by simp [h4]
  by_cases h20 : k = 20
  · have HF : Hid (frm k = ⟨true, true, false, false, true⟩) := hid (by rw [h20]; rfl)
    have FN := hid (FIN.out (.bool true) (.bool true) (.bool false) (.bool false))
    clear FIN
    subst h20
    go_enter Tryz.func101, Tryz.ntmps101
    go_upto_region 1 with fail
    rw [← hW0]
    clear hW0
    go_wp2
    obtain ⟨hf, hb⟩ := FN.out
    have q0 := cellOf hf 0
    have q1 := cellOf hf 1
    have q2 := cellOf hf 2
    have q3 := cellOf hf 3
    simp only [four, List.getElem?_toArray, List.getElem?_cons_zero, List.getElem?_cons_succ] at q0 q1 q2 q3 hb
    refine bodyPost_ret (v := .tuple #[.agg #[.bool true, .bool true, .bool false, .bool false], .bool true]) (by simp [results, Tryz.results101, go_sem, q0, q1, q2, q3]) rfl ⟨frmR_of HF.out, hb⟩
  have b20 : (k == 20) = false := by simp [h20]
  by_cases h21 : k = 21
  · have HF : Hid (frm k = ⟨true, true, false, false, true⟩) := hid (by rw [h21]; rfl)
    have FN := hid (FIN.out (.bool true) (.bool true) (.bool false) (.bool false))
    clear FIN
    subst h21
    go_enter Tryz.func101, Tryz.ntmps101
    go_upto_region 1 with fail
    rw [← hW0]
    clear hW0
    go_wp2
    obtain ⟨hf, hb⟩ := FN.out
    have q0 := cellOf hf 0
    have q1 := cellOf hf 1
    have q2 := cellOf hf 2
    have q3 := cellOf hf 3
    simp only [four, List.getElem?_toArray, List.getElem?_cons_zero, List.getElem?_cons_succ] at q0 q1 q2 q3 hb
    refine bodyPost_ret (v := .tuple #[.agg #[.bool true, .bool true, .bool false, .bool false], .bool true]) (by simp [results, Tryz.results101, go_sem, q0, q1, q2, q3]) rfl ⟨frmR_of HF.out, hb⟩
  have b21 : (k == 21) = false := by simp [h21]
  by_cases h22 : k = 22
  · have HF : Hid (frm k = ⟨true, true, false, false, true⟩) := hid (by rw [h22]; rfl)
    have FN := hid (FIN.out (.bool true) (.bool true) (.bool false) (.bool false))
    clear FIN
    subst h22
    go_enter Tryz.func101, Tryz.ntmps101
    go_upto_region 1 with fail
    rw [← hW0]
    clear hW0
    go_wp2
    obtain ⟨hf, hb⟩ := FN.out
    have q0 := cellOf hf 0
    have q1 := cellOf hf 1
    have q2 := cellOf hf 2
    have q3 := cellOf hf 3
    simp only [four, List.getElem?_toArray, List.getElem?_cons_zero, List.getElem?_cons_succ] at q0 q1 q2 q3 hb
    refine bodyPost_ret (v := .tuple #[.agg #[.bool true, .bool true, .bool false, .bool false], .bool true]) (by simp [results, Tryz.results101, go_sem, q0, q1, q2, q3]) rfl ⟨frmR_of HF.out, hb⟩
  have b22 : (k == 22) = false := by simp [h22]
  by_cases h23 : k = 23
  · have HF : Hid (frm k = ⟨true, true, false, false, true⟩) := hid (by rw [h23]; rfl)
    have FN := hid (FIN.out (.bool true) (.bool true) (.bool false) (.bool false))
    clear FIN
    subst h23
    go_enter Tryz.func101, Tryz.ntmps101
    go_upto_region 1 with fail
    rw [← hW0]
    clear hW0
    go_wp2
    obtain ⟨hf, hb⟩ := FN.out
    have q0 := cellOf hf 0
    have q1 := cellOf hf 1
    have q2 := cellOf hf 2
    have q3 := cellOf hf 3
    simp only [four, List.getElem?_toArray, List.getElem?_cons_zero, List.getElem?_cons_succ] at q0 q1 q2 q3 hb
    refine bodyPost_ret (v := .tuple #[.agg #[.bool true, .bool true, .bool false, .bool false], .bool true]) (by simp [results, Tryz.results101, go_sem, q0, q1, q2, q3]) rfl ⟨frmR_of HF.out, hb⟩
  have b23 : (k == 23) = false := by simp [h23]
  by_cases h24 : k = 24
  · have HF : Hid (frm k = ⟨true, true, false, true, true⟩) := hid (by rw [h24]; rfl)
    have FN := hid (FIN.out (.bool true) (.bool true) (.bool false) (.bool true))
    clear FIN
    subst h24
    go_enter Tryz.func101, Tryz.ntmps101
    go_upto_region 1 with fail
    rw [← hW0]
    clear hW0
    go_wp2
    obtain ⟨hf, hb⟩ := FN.out
    have q0 := cellOf hf 0
    have q1 := cellOf hf 1
    have q2 := cellOf hf 2
    have q3 := cellOf hf 3
    simp only [four, List.getElem?_toArray, List.getElem?_cons_zero, List.getElem?_cons_succ] at q0 q1 q2 q3 hb
    refine bodyPost_ret (v := .tuple #[.agg #[.bool true, .bool true, .bool false, .bool true], .bool true]) (by simp [results, Tryz.results101, go_sem, q0, q1, q2, q3]) rfl ⟨frmR_of HF.out, hb⟩
  have b24 : (k == 24) = false := by simp [h24]
  by_cases h25 : k = 25
  · have HF : Hid (frm k = ⟨true, true, false, true, true⟩) := hid (by rw [h25]; rfl)
    have FN := hid (FIN.out (.bool true) (.bool true) (.bool false) (.bool true))
    clear FIN
    subst h25
    go_enter Tryz.func101, Tryz.ntmps101
    go_upto_region 1 with fail
    rw [← hW0]
    clear hW0
    go_wp2
    obtain ⟨hf, hb⟩ := FN.out
    have q0 := cellOf hf 0
    have q1 := cellOf hf 1
    have q2 := cellOf hf 2
    have q3 := cellOf hf 3
    simp only [four, List.getElem?_toArray, List.getElem?_cons_zero, List.getElem?_cons_succ] at q0 q1 q2 q3 hb
    refine bodyPost_ret (v := .tuple #[.agg #[.bool true, .bool true, .bool false, .bool true], .bool true]) (by simp [results, Tryz.results101, go_sem, q0, q1, q2, q3]) rfl ⟨frmR_of HF.out, hb⟩
  have b25 : (k == 25) = false := by simp [h25]
  by_cases h26 : k = 26
  · have HF : Hid (frm k = ⟨true, true, false, true, true⟩) := hid (by rw [h26]; rfl)
    have FN := hid (FIN.out (.bool true) (.bool true) (.bool false) (.bool true))
    clear FIN
    subst h26
    go_enter Tryz.func101, Tryz.ntmps101
    go_upto_region 1 with fail
    rw [← hW0]
    clear hW0
    go_wp2
    obtain ⟨hf, hb⟩ := FN.out
    have q0 := cellOf hf 0
    have q1 := cellOf hf 1
    have q2 := cellOf hf 2
    have q3 := cellOf hf 3
    simp only [four, List.getElem?_toArray, List.getElem?_cons_zero, List.getElem?_cons_succ] at q0 q1 q2 q3 hb
    refine bodyPost_ret (v := .tuple #[.agg #[.bool true, .bool true, .bool false, .bool true], .bool true]) (by simp [results, Tryz.results101, go_sem, q0, q1, q2, q3]) rfl ⟨frmR_of HF.out, hb⟩
  have b26 : (k == 26) = false := by simp [h26]
  by_cases h27 : k = 27
  · have HF : Hid (frm k = ⟨true, true, false, true, true⟩) := hid (by rw [h27]; rfl)
    have FN := hid (FIN.out (.bool true) (.bool true) (.bool false) (.bool true))
    clear FIN
    subst h27
    go_enter Tryz.func101, Tryz.ntmps101
    go_upto_region 1 with fail
    rw [← hW0]
    clear hW0
    go_wp2
    obtain ⟨hf, hb⟩ := FN.out
    have q0 := cellOf hf 0
    have q1 := cellOf hf 1
    have q2 := cellOf hf 2
    have q3 := cellOf hf 3
    simp only [four, List.getElem?_toArray, List.getElem?_cons_zero, List.getElem?_cons_succ] at q0 q1 q2 q3 hb
    refine bodyPost_ret (v := .tuple #[.agg #[.bool true, .bool true, .bool false, .bool true], .bool true]) (by simp [results, Tryz.results101, go_sem, q0, q1, q2, q3]) rfl ⟨frmR_of HF.out, hb⟩
  have b27 : (k == 27) = false := by simp [h27]
  by_cases h31 : k = 31
  · have HF : Hid (frm k = ⟨true, true, false, true, true⟩) := hid (by rw [h31]; rfl)
    have FN := hid (FIN.out (.bool true) (.bool true) (.bool false) (.bool true))
    clear FIN
    subst h31
    go_enter Tryz.func101, Tryz.ntmps101
    go_upto_region 1 with fail
    rw [← hW0]
    clear hW0
    go_wp2
    obtain ⟨hf, hb⟩ := FN.out
    have q0 := cellOf hf 0
    have q1 := cellOf hf 1
    have q2 := cellOf hf 2
    have q3 := cellOf hf 3
    simp only [four, List.getElem?_toArray, List.getElem?_cons_zero, List.getElem?_cons_succ] at q0 q1 q2 q3 hb
    refine bodyPost_ret (v := .tuple #[.agg #[.bool true, .bool true, .bool false, .bool true], .bool true]) (by simp [results, Tryz.results101, go_sem, q0, q1, q2, q3]) rfl ⟨frmR_of HF.out, hb⟩
  have b31 : (k == 31) = false := by simp [h31]
  by_cases h32 : k = 32
  · have HF : Hid (frm k = ⟨true, true, false, true, true⟩) := hid (by rw [h32]; rfl)
    have FN := hid (FIN.out (.bool true) (.bool true) (.bool false) (.bool true))
    clear FIN
    subst h32
    go_enter Tryz.func101, Tryz.ntmps101
    go_upto_region 1 with fail
    rw [← hW0]
    clear hW0
    go_wp2
    obtain ⟨hf, hb⟩ := FN.out
    have q0 := cellOf hf 0
    have q1 := cellOf hf 1
    have q2 := cellOf hf 2
    have q3 := cellOf hf 3
    simp only [four, List.getElem?_toArray, List.getElem?_cons_zero, List.getElem?_cons_succ] at q0 q1 q2 q3 hb
    refine bodyPost_ret (v := .tuple #[.agg #[.bool true, .bool true, .bool false, .bool true], .bool true]) (by simp [results, Tryz.results101, go_sem, q0, q1, q2, q3]) rfl ⟨frmR_of HF.out, hb⟩
  have b32 : (k == 32) = false := by simp [h32]
  by_cases h28 : k = 28
  · have HF : Hid (frm k = ⟨false, true, true, true, true⟩) := hid (by rw [h28]; rfl)
    have FN := hid (FIN.out (.bool false) (.bool true) (.bool true) (.bool true))
    clear FIN
    subst h28
    go_enter Tryz.func101, Tryz.ntmps101
    go_upto_region 1 with fail
    rw [← hW0]
    clear hW0
    go_wp2
    obtain ⟨hf, hb⟩ := FN.out
    have q0 := cellOf hf 0
    have q1 := cellOf hf 1
    have q2 := cellOf hf 2
    have q3 := cellOf hf 3
    simp only [four, List.getElem?_toArray, List.getElem?_cons_zero, List.getElem?_cons_succ] at q0 q1 q2 q3 hb
    refine bodyPost_ret (v := .tuple #[.agg #[.bool false, .bool true, .bool true, .bool true], .bool true]) (by simp [results, Tryz.results101, go_sem, q0, q1, q2, q3]) rfl ⟨frmR_of HF.out, hb⟩
  have b28 : (k == 28) = false := by simp [h28]
  by_cases h34 : k = 34
  · have HF : Hid (frm k = ⟨false, true, true, true, true⟩) := hid (by rw [h34]; rfl)
    have FN := hid (FIN.out (.bool false) (.bool true) (.bool true) (.bool true))
    clear FIN
    subst h34
    go_enter Tryz.func101, Tryz.ntmps101
    go_upto_region 1 with fail
    rw [← hW0]
    clear hW0
    go_wp2
    obtain ⟨hf, hb⟩ := FN.out
    have q0 := cellOf hf 0
    have q1 := cellOf hf 1
    have q2 := cellOf hf 2
    have q3 := cellOf hf 3
    simp only [four, List.getElem?_toArray, List.getElem?_cons_zero, List.getElem?_cons_succ] at q0 q1 q2 q3 hb
    refine bodyPost_ret (v := .tuple #[.agg #[.bool false, .bool true, .bool true, .bool true], .bool true]) (by simp [results, Tryz.results101, go_sem, q0, q1, q2, q3]) rfl ⟨frmR_of HF.out, hb⟩
  have b34 : (k == 34) = false := by simp [h34]
  by_cases h29 : k = 29
  · have HF : Hid (frm k = ⟨false, true, false, true, true⟩) := hid (by rw [h29]; rfl)
    have FN := hid (FIN.out (.bool false) (.bool true) (.bool false) (.bool true))
    clear FIN
    subst h29
    go_enter Tryz.func101, Tryz.ntmps101
    go_upto_region 1 with fail
    rw [← hW0]
    clear hW0
    go_wp2
    obtain ⟨hf, hb⟩ := FN.out
    have q0 := cellOf hf 0
    have q1 := cellOf hf 1
    have q2 := cellOf hf 2
    have q3 := cellOf hf 3
    simp only [four, List.getElem?_toArray, List.getElem?_cons_zero, List.getElem?_cons_succ] at q0 q1 q2 q3 hb
    refine bodyPost_ret (v := .tuple #[.agg #[.bool false, .bool true, .bool false, .bool true], .bool true]) (by simp [results, Tryz.results101, go_sem, q0, q1, q2, q3]) rfl ⟨frmR_of HF.out, hb⟩
  have b29 : (k == 29) = false := by simp [h29]
  by_cases h39 : k = 39
  · have HF : Hid (frm k = ⟨false, true, false, true, true⟩) := hid (by rw [h39]; rfl)
    have FN := hid (FIN.out (.bool false) (.bool true) (.bool false) (.bool true))
    clear FIN
    subst h39
    go_enter Tryz.func101, Tryz.ntmps101
    go_upto_region 1 with fail
    rw [← hW0]
    clear hW0
    go_wp2
    obtain ⟨hf, hb⟩ := FN.out
    have q0 := cellOf hf 0
    have q1 := cellOf hf 1
    have q2 := cellOf hf 2
    have q3 := cellOf hf 3
    simp only [four, List.getElem?_toArray, List.getElem?_cons_zero, List.getElem?_cons_succ] at q0 q1 q2 q3 hb
    refine bodyPost_ret (v := .tuple #[.agg #[.bool false, .bool true, .bool false, .bool true], .bool true]) (by simp [results, Tryz.results101, go_sem, q0, q1, q2, q3]) rfl ⟨frmR_of HF.out, hb⟩
  have b39 : (k == 39) = false := by simp [h39]
  by_cases h30 : k = 30
  · have HF : Hid (frm k = ⟨true, true, true, true, true⟩) := hid (by rw [h30]; rfl)
    have FN := hid (FIN.out (.bool true) (.bool true) (.bool true) (.bool true))
    clear FIN
    subst h30
    go_enter Tryz.func101, Tryz.ntmps101
    go_upto_region 1 with fail
    rw [← hW0]
    clear hW0
    go_wp2
    obtain ⟨hf, hb⟩ := FN.out
    have q0 := cellOf hf 0
    have q1 := cellOf hf 1
    have q2 := cellOf hf 2
    have q3 := cellOf hf 3
    simp only [four, List.getElem?_toArray, List.getElem?_cons_zero, List.getElem?_cons_succ] at q0 q1 q2 q3 hb
    refine bodyPost_ret (v := .tuple #[.agg #[.bool true, .bool true, .bool true, .bool true], .bool true]) (by simp [results, Tryz.results101, go_sem, q0, q1, q2, q3]) rfl ⟨frmR_of HF.out, hb⟩
  have b30 : (k == 30) = false := by simp [h30]
  by_cases h33 : k = 33
  · have HF : Hid (frm k = ⟨false, true, false, false, true⟩) := hid (by rw [h33]; rfl)
    have FN := hid (FIN.out (.bool false) (.bool true) (.bool false) (.bool false))
    clear FIN
    subst h33
    go_enter Tryz.func101, Tryz.ntmps101
    go_upto_region 1 with fail
    rw [← hW0]
    clear hW0
    go_wp2
    obtain ⟨hf, hb⟩ := FN.out
    have q0 := cellOf hf 0
    have q1 := cellOf hf 1
    have q2 := cellOf hf 2
    have q3 := cellOf hf 3
    simp only [four, List.getElem?_toArray, List.getElem?_cons_zero, List.getElem?_cons_succ] at q0 q1 q2 q3 hb
    refine bodyPost_ret (v := .tuple #[.agg #[.bool false, .bool true, .bool false, .bool false], .bool true]) (by simp [results, Tryz.results101, go_sem, q0, q1, q2, q3]) rfl ⟨frmR_of HF.out, hb⟩
  have b33 : (k == 33) = false := by simp [h33]
  by_cases h40 : k = 40
  · have HF : Hid (frm k = ⟨false, true, false, false, true⟩) := hid (by rw [h40]; rfl)
    have FN := hid (FIN.out (.bool false) (.bool true) (.bool false) (.bool false))
    clear FIN
    subst h40
    go_enter Tryz.func101, Tryz.ntmps101
    go_upto_region 1 with fail
    rw [← hW0]
    clear hW0
    go_wp2
    obtain ⟨hf, hb⟩ := FN.out
    have q0 := cellOf hf 0
    have q1 := cellOf hf 1
    have q2 := cellOf hf 2
    have q3 := cellOf hf 3
    simp only [four, List.getElem?_toArray, List.getElem?_cons_zero, List.getElem?_cons_succ] at q0 q1 q2 q3 hb
    refine bodyPost_ret (v := .tuple #[.agg #[.bool false, .bool true, .bool false, .bool false], .bool true]) (by simp [results, Tryz.results101, go_sem, q0, q1, q2, q3]) rfl ⟨frmR_of HF.out, hb⟩
  have b40 : (k == 40) = false := by simp [h40]
  by_cases h35 : k = 35
  · have HF : Hid (frm k = ⟨false, false, false, false, true⟩) := hid (by rw [h35]; rfl)
    have FN := hid (FIN.out (.bool false) (.bool false) (.bool false) (.bool false))
    clear FIN
    subst h35
    go_enter Tryz.func101, Tryz.ntmps101
    go_upto_region 1 with fail
    rw [← hW0]
    clear hW0
    go_wp2
    obtain ⟨hf, hb⟩ := FN.out
    have q0 := cellOf hf 0
    have q1 := cellOf hf 1
    have q2 := cellOf hf 2
    have q3 := cellOf hf 3
    simp only [four, List.getElem?_toArray, List.getElem?_cons_zero, List.getElem?_cons_succ] at q0 q1 q2 q3 hb
    refine bodyPost_ret (v := .tuple #[.agg #[.bool false, .bool false, .bool false, .bool false], .bool true]) (by simp [results, Tryz.results101, go_sem, q0, q1, q2, q3]) rfl ⟨frmR_of HF.out, hb⟩
  have b35 : (k == 35) = false := by simp [h35]
  by_cases h36 : k = 36
  · have HF : Hid (frm k = ⟨false, false, false, false, true⟩) := hid (by rw [h36]; rfl)
    have FN := hid (FIN.out (.bool false) (.bool false) (.bool false) (.bool false))
    clear FIN
    subst h36
    go_enter Tryz.func101, Tryz.ntmps101
    go_upto_region 1 with fail
    rw [← hW0]
    clear hW0
    go_wp2
    obtain ⟨hf, hb⟩ := FN.out
    have q0 := cellOf hf 0
    have q1 := cellOf hf 1
    have q2 := cellOf hf 2
    have q3 := cellOf hf 3
    simp only [four, List.getElem?_toArray, List.getElem?_cons_zero, List.getElem?_cons_succ] at q0 q1 q2 q3 hb
    refine bodyPost_ret (v := .tuple #[.agg #[.bool false, .bool false, .bool false, .bool false], .bool true]) (by simp [results, Tryz.results101, go_sem, q0, q1, q2, q3]) rfl ⟨frmR_of HF.out, hb⟩
  have b36 : (k == 36) = false := by simp [h36]
  by_cases h37 : k = 37
  · have HF : Hid (frm k = ⟨false, false, false, false, true⟩) := hid (by rw [h37]; rfl)
    have FN := hid (FIN.out (.bool false) (.bool false) (.bool false) (.bool false))
    clear FIN
    subst h37
    go_enter Tryz.func101, Tryz.ntmps101
    go_upto_region 1 with fail
    rw [← hW0]
    clear hW0
    go_wp2
    obtain ⟨hf, hb⟩ := FN.out
    have q0 := cellOf hf 0
    have q1 := cellOf hf 1
    have q2 := cellOf hf 2
    have q3 := cellOf hf 3
    simp only [four, List.getElem?_toArray, List.getElem?_cons_zero, List.getElem?_cons_succ] at q0 q1 q2 q3 hb
    refine bodyPost_ret (v := .tuple #[.agg #[.bool false, .bool false, .bool false, .bool false], .bool true]) (by simp [results, Tryz.results101, go_sem, q0, q1, q2, q3]) rfl ⟨frmR_of HF.out, hb⟩
  have b37 : (k == 37) = false := by simp [h37]
  by_cases h38 : k = 38
  · have HF : Hid (frm k = ⟨false, false, false, true, true⟩) := hid (by rw [h38]; rfl)
    have FN := hid (FIN.out (.bool false) (.bool false) (.bool false) (.bool true))
    clear FIN
    subst h38
    go_enter Tryz.func101, Tryz.ntmps101
    go_upto_region 1 with fail
    rw [← hW0]
    clear hW0
    go_wp2
    obtain ⟨hf, hb⟩ := FN.out
    have q0 := cellOf hf 0
    have q1 := cellOf hf 1
    have q2 := cellOf hf 2
    have q3 := cellOf hf 3
    simp only [four, List.getElem?_toArray, List.getElem?_cons_zero, List.getElem?_cons_succ] at q0 q1 q2 q3 hb
    refine bodyPost_ret (v := .tuple #[.agg #[.bool false, .bool false, .bool false, .bool true], .bool true]) (by simp [results, Tryz.results101, go_sem, q0, q1, q2, q3]) rfl ⟨frmR_of HF.out, hb⟩
  have b38 : (k == 38) = false := by simp [h38]
  by_cases h5 : 5 ≤ k ∧ k ≤ 19
  · obtain ⟨h5a, h5b⟩ := h5
    have HF : Hid (frm k = ⟨true, true, true, false, true⟩) := hid (by unfold frm; simp [h1, h2, h3, h4, h20, h21, h22, h23, h24, h25, h26, h27, h31, h32, h28, h34, h29, h39, h30, h33, h40, h35, h36, h37, h38, h5a, h5b])
    have FN := hid (FIN.out (.bool true) (.bool true) (.bool true) (.bool false))
    clear FIN
    have d1 : decide (5 ≤ k) = true := decide_eq_true h5a
    have d2 : decide (k ≤ 19) = true := decide_eq_true h5b
    go_enter Tryz.func101, Tryz.ntmps101
    go_upto_region 1 with fail
    rw [← hW0]
    clear hW0
    go_wp2
    obtain ⟨hf, hb⟩ := FN.out
    have q0 := cellOf hf 0
    have q1 := cellOf hf 1
    have q2 := cellOf hf 2
    have q3 := cellOf hf 3
    simp only [four, List.getElem?_toArray, List.getElem?_cons_zero, List.getElem?_cons_succ] at q0 q1 q2 q3 hb
    refine bodyPost_ret (v := .tuple #[.agg #[.bool true, .bool true, .bool true, .bool false], .bool true]) (by simp [results, Tryz.results101, go_sem, q0, q1, q2, q3]) rfl ⟨frmR_of HF.out, hb⟩
  have HZ : Hid (frm k = ⟨false, false, false, false, false⟩) := hid (by unfold frm; simp [h1, h2, h3, h4, h20, h21, h22, h23, h24, h25, h26, h27, h31, h32, h28, h34, h29, h39, h30, h33, h40, h35, h36, h37, h38, h5])
  by_cases h6 : 5 ≤ k
  · have h7 : ¬ k ≤ 19 := fun h => h5 ⟨h6, h⟩
    have HF : Hid (frm k = ⟨false, false, false, false, false⟩) := hid (by exact HZ.out)
    have FN := hid (FIN.out (.bool false) (.bool false) (.bool false) (.bool false))
    clear FIN
    have d1 : decide (5 ≤ k) = true := decide_eq_true h6
    have d2 : decide (k ≤ 19) = false := decide_eq_false h7
    go_enter Tryz.func101, Tryz.ntmps101
    go_upto_region 1 with fail
    rw [← hW0]
    clear hW0
    go_wp2
    obtain ⟨hf, hb⟩ := FN.out
    have q0 := cellOf hf 0
    have q1 := cellOf hf 1
    have q2 := cellOf hf 2
    have q3 := cellOf hf 3
    simp only [four, List.getElem?_toArray, List.getElem?_cons_zero, List.getElem?_cons_succ] at q0 q1 q2 q3 hb
    refine bodyPost_ret (v := .tuple #[.agg #[.bool false, .bool false, .bool false, .bool false], .bool false]) (by simp [results, Tryz.results101, go_sem, q0, q1, q2, q3]) rfl ⟨frmR_of HF.out, hb⟩
  · have HF : Hid (frm k = ⟨false, false, false, false, false⟩) := hid (by exact HZ.out)
    have FN := hid (FIN.out (.bool false) (.bool false) (.bool false) (.bool false))
    clear FIN
    have d1 : decide (5 ≤ k) = false := decide_eq_false h6
    go_enter Tryz.func101, Tryz.ntmps101
    go_upto_region 1 with fail
    rw [← hW0]
    clear hW0
    go_wp2
    obtain ⟨hf, hb⟩ := FN.out
    have q0 := cellOf hf 0
    have q1 := cellOf hf 1
    have q2 := cellOf hf 2
    have q3 := cellOf hf 3
    simp only [four, List.getElem?_toArray, List.getElem?_cons_zero, List.getElem?_cons_succ] at q0 q1 q2 q3 hb
    refine bodyPost_ret (v := .tuple #[.agg #[.bool false, .bool false, .bool false, .bool false], .bool false]) (by simp [results, Tryz.results101, go_sem, q0, q1, q2, q3]) rfl ⟨frmR_of HF.out, hb⟩
end Go.Proofs.YthnolocldeokeaaGreat

