/- code.Encode. -/
import Derived.Test.YthnolocldeokeaaGreatDoorJAQ
import Derived.ProofKit
import Derived.OpenShut
import Derived.ChangeOld
import Derived.ChangeSlices
import Derived.ChangeMaps5
import Derived.ChangeAt
import Derived.Below
import Derived.Deep.Slices
import Derived.Sort.CutIn
import Derived.SizedLaws
import Derived.Deep.WholeRow
import Derived.RangeFuncNested
import Derived.RangeFuncBound
import Derived.RangeFuncCalls
import Derived.RangeFuncLeaves
import Derived.Shelf.Abstract
import Derived.Shelf.RegionOpen
import Derived.WalkKit
import Derived.OwnWalkIn
import Derived.TacticsInMore
import Derived.LoopNIn
import Derived.LoopIn
import Derived.BigRegionIn
namespace Go.Proofs.YthnolocldeokeaaGreatDoor
open Go.RowKit Go.Deep Go.Shelf
set_option linter.unusedVariables false
set_option linter.unusedSimpArgs false
set_option maxRecDepth 100000
attribute [local go_sem] Oper.semAt_some
structure ES (w : World) (c8 : Array Value) (Pb : Nat) (W : World) (u : Value) (ys : List Nat) : Prop where
  x : W.heap[w.heap.size]? = some (.cells c8 51 (0, 0))
  p : W.heap[Pb]? = some (.cells #[u] 52 (0, 0))
  r : Row W w.heap.size u ys
  b : Below w.heap.size w W
  ne : w.heap.size < Pb
theorem ES.step {w : World} {c8 : Array Value} {Pb : Nat} {W W1 : World} {u u1 : Value} {ys zs : List Nat} (h : ES w c8 Pb W u ys) (hg : Grw W u W1 u1) (hr : Row W1 w.heap.size u1 zs) : ES w c8 Pb (W1.setCell ⟨Pb, 0, none⟩ u1) u1 zs ∧ W1.cell? ⟨Pb, 0, none⟩ = some u ∧ W1.frozen? ⟨Pb, 0, none⟩ = false := by
  have k1 := (hg.1.block Pb (lt_of_heap h.p) (h.r.ne h.p (by decide))).trans h.p
  have kx := (hg.1.block _ (lt_of_heap h.x) (h.r.ne h.x (by decide))).trans h.x
  have hne := h.ne
  refine ⟨⟨(Below.heap_setCell _ ⟨Pb, 0, none⟩ _ _ (show w.heap.size ≠ Pb by omega)).trans kx, set_cells k1 _, hr.same fun g e => Below.heap_setCell _ ⟨Pb, 0, none⟩ _ _ (show g ≠ Pb from fun e2 => by
    have h9 := hr.ne k1 (by decide)
    rw [← e2] at h9; exact h9 e.symm), (h.b.trans (hg.below h.r h.b.size)).setCell (p := ⟨Pb, 0, none⟩) (by show w.heap.size ≤ Pb; omega) _, hne⟩, cellOf k1 0, freeOf k1 0⟩
theorem ES.below {w : World} {c8 : Array Value} {Pb : Nat} {W W1 : World} {u : Value} {ys : List Nat} (h : ES w c8 Pb W u ys) (k : Below W.heap.size W W1) : ES w c8 Pb W1 u ys := ⟨(k.block _ (lt_of_heap h.x)).trans h.x, (k.block _ (lt_of_heap h.p)).trans h.p, h.r.below (Nat.le_refl _) k, h.b.trans (k.mono h.b.size), h.ne⟩
theorem ES.keep {w : World} {c8 : Array Value} {Pb : Nat} {W W1 : World} {u : Value} {ys : List Nat} {row : Option Nat} {C : Nat} (h : ES w c8 Pb W u ys) (hC : w.heap.size ≤ C) (hg : W.grownBy W1 row) (hr : ∀ r, row = some r → C ≤ r ∧ ∃ o : Obj, W.heap[r]? = some o ∧ o.isCells = false) : ES w c8 Pb W1 u ys := ⟨keep_cells h.x hg hr, keep_cells h.p hg hr, row_keeps h.r hg hr, h.b.grown hg h.b.size (fun k e => by have := (hr k e).1; omega), h.ne⟩
structure EI (w V : World) (c8 : Array Value) (Pb Bx : Nat) {m : Nat} (base : List Nat) (f : Fin m → List Nat) (pre : List (Fin m)) (W : World) : Prop where
  ex : ∃ a n c, ES w c8 Pb W (.slice a n c) (base ++ (pre.map f).flatten)
  bx : W.heap[Bx]? = some (.cells c8 51 (0, 0))
  sz : V.heap.size ≤ W.heap.size
theorem EI_own {w V : World} {c8 : Array Value} {Pb Bx m : Nat} {base : List Nat} {f : Fin m → List Nat} (hV : w.heap.size ≤ V.heap.size) : OwnFrom V.heap.size (EI w V c8 Pb Bx base f) := fun s A A' row hs hg hr => by
  obtain ⟨⟨a, n, c, h1⟩, h2, h3⟩ := hs
  exact ⟨⟨a, n, c, h1.keep hV hg hr⟩, keep_cells h2 hg hr, Nat.le_trans h3 hg.size⟩
theorem zip_snd {α β : Type} : ∀ (l : List α) (m : List β), m.length = l.length → (l.zip m).map (·.2) = m
  | [], [], _ => rfl
  | [], b :: m, h => by simp at h
  | a :: l, [], h => by simp at h
  | a :: l, b :: m, h => by simp only [List.zip_cons_cons, List.map_cons]; rw [zip_snd l m (by simpa using h)]
theorem allZ_map {β : Type} (Z : ZL) (f : (GH × Sg) × (FH × Fx) → β) : (allZ Z).map (fun i => f Z[i.val]) = Z.map f := by
  unfold allZ
  apply List.ext_getElem
  · simp
  · intro i h1 h2
    simp
/- What Encode answers. -/
def EnP (w : World) (c : Cx) (xs : List Int) (e : Ending) (w' : World) : Prop := Below w.heap.size w w' ∧ ((isB c = false ∧ e = .returned (.tuple #[.slice none 0 0, .int .i64 90])) ∨ (isB c = true ∧ ∃ v, e = .returned (.tuple #[v, .int .i64 0]) ∧ Row w' w.heap.size v (encC c xs)))
set_option maxHeartbeats 8000000 in
theorem encode_any (SO : ShapeC) (w : World) (C : CH) (c : Cx) (fs es : List (FH × Fx)) (d : CdRd w C c fs es) (xs : List Int) (jr : JRd w C.ia xs) (jn : C.inn = xs.length) (jx : ∀ x ∈ xs, inR x) :
    Calls Tryz.prog 8 #[C.v] w (EnP w c xs) := by
  have hro : Fence.wide.round = none := rfl
  obtain ⟨W0, hW0⟩ : ∃ W0, W0 = w.alloc (.cells C.cs 51) := ⟨_, rfl⟩
  have b0 : Below w.heap.size w W0 := by rw [hW0]; exact (Below.refl _ _).alloc (Nat.le_refl _) _
  have m0 : W0.heap[w.heap.size]? = some (.cells C.cs 51 (0, 0)) := by rw [hW0]; exact heap_alloc_new w _
  have KI := codeIs_any SO W0 C c fs es (d.below (Nat.le_refl _) b0)
  have GT : Hid (∀ V : World, Below W0.heap.size W0 V → V.heap[w.heap.size]? = some (.cells C.cs 51 (0, 0)) ∧ Below w.heap.size w V) := hid (fun V hV => ⟨(hV.block _ (lt_of_heap m0)).trans m0, b0.trans (hV.mono b0.size)⟩)
  cases hok : isB c with
  | false =>
    rw [hok] at KI
    have KI := hid KI
    have HOK := hid hok
    clear d jr jn jx m0 b0 hok
    obtain ⟨⟨ra, rn, rc, ma, mn, mc, fa, fn, fc, ea, en, ec⟩, ia, inn, ic, ta, tn, tc, ga, gn, gc, ha, hn, hc⟩ := C
    simp only [CH.v, CH.cs] at hW0 GT KI ⊢
    have CL : Hid (∀ V : World, Below W0.heap.size W0 V → V.cell? ⟨w.heap.size, 0, none⟩ = some (.slice ra rn rc) ∧ V.cell? ⟨w.heap.size, 1, none⟩ = some (.slice ma mn mc) ∧ V.cell? ⟨w.heap.size, 2, none⟩ = some (.slice fa fn fc) ∧ V.cell? ⟨w.heap.size, 3, none⟩ = some (.slice ea en ec) ∧ V.cell? ⟨w.heap.size, 4, none⟩ = some (.slice ia inn ic) ∧ V.cell? ⟨w.heap.size, 5, none⟩ = some (.slice ta tn tc) ∧ V.cell? ⟨w.heap.size, 6, none⟩ = some (.slice ga gn gc) ∧ V.cell? ⟨w.heap.size, 7, none⟩ = some (.slice ha hn hc)) := hid (fun V hV => by
      have g := (GT.out V hV).1
      exact ⟨cellOf g 0, cellOf g 1, cellOf g 2, cellOf g 3, cellOf g 4, cellOf g 5, cellOf g 6, cellOf g 7⟩)
    obtain ⟨y0, y1, y2, y3, y4, y5, y6, y7⟩ := CL.out W0 (Below.refl _ _)
    refine (callsIn_wide (n := 6)).1 ?_
    refine callsIn_of_wp_marks Tryz.func8 rfl trivial ?_ hro
    simp only [Tryz.ntmps8, List.size_toArray, List.length_cons, List.length_nil, Nat.reduceAdd, Nat.reduceSub, Array.replicate_succ, Array.replicate_zero, List.push_toArray, List.append_toArray, List.nil_append, List.cons_append]
    gi_wp2_with (refine ⟨trivial, ?_⟩; gi_at_call 12; (rw [← hW0]; refine (callsIn_wide.2 (Hid.out KI)).mono ?_; rintro e w1 ⟨rfl, hb1⟩; have HB1 := hid (GT.out w1 hb1).2; clear hb1))
    exact ⟨_, by simp [results, Tryz.results8, go_sem], HB1.out, .inl ⟨HOK.out, rfl⟩⟩
  | true =>
    rw [hok] at KI
    have KI := hid KI
    have HOK := hid hok
    have sm := is_sm hok
    have hle := encC_le sm (xs := xs) (by rw [← jn]; exact d.i1) jx
    have jl : xs.length ≤ 1000 := by rw [← jn, d.i1]; exact sm.il
    obtain ⟨Z, hZ⟩ : ∃ Z : ZL, Z = c.p.funcs.zip fs ++ c.p.events.zip es := ⟨_, rfl⟩
    have hL1 : fs.length = c.p.funcs.length := by rw [← sm.fl, ← d.fe, List.length_map]
    have hL2 : es.length = c.p.events.length := by rw [← sm.el, ← d.ee, List.length_map]
    have ENC : Hid (encC c xs = encP c xs ++ ((allZ Z).map (fun i => encFx (Z[i.val]).2.2)).flatten) := hid (by
      unfold encC
      rw [allZ_map Z (fun z => encFx z.2.2), hZ, ← d.fe, ← d.ee, List.map_append, List.map_append, List.map_map, List.map_map]
      rw [show (c.p.funcs.zip fs).map (fun z => encFx z.2.2) = fs.map (fun z => encFx z.2) from by
        conv => rhs; rw [← zip_snd c.p.funcs fs hL1, List.map_map]
        rfl]
      rw [show (c.p.events.zip es).map (fun z => encFx z.2.2) = es.map (fun z => encFx z.2) from by
        conv => rhs; rw [← zip_snd c.p.events es hL2, List.map_map]
        rfl]
      rfl)
    have ZS : Hid (∀ i : Fin Z.length, FxSm (Z[i.val]).2.2 ∧ ∀ V : World, Below w.heap.size w V → FnRd V (Z[i.val]).2.1 (Z[i.val]).2.2) := hid (fun i => by
      have hm : Z[i.val] ∈ Z := List.getElem_mem i.isLt
      generalize Z[i.val] = z at hm
      rw [hZ] at hm
      rcases List.mem_append.1 hm with h | h
      · exact ⟨sm.f _ (by rw [← d.fe]; exact List.mem_map.2 ⟨_, (List.of_mem_zip h).2, rfl⟩), fun V hV => (d.f.el _ (List.of_mem_zip h).2).below (Nat.le_refl _) hV⟩
      · exact ⟨sm.e _ (by rw [← d.ee]; exact List.mem_map.2 ⟨_, (List.of_mem_zip h).2, rfl⟩), fun V hV => (d.e.el _ (List.of_mem_zip h).2).below (Nat.le_refl _) hV⟩)
    have KF := hid (fun (V : World) => functions_in Fence.wide 5 trivial hro C V)
    have SQ := hid (fun (V : World) (hV : Below w.heap.size w V) (Bx : Nat) (hx : V.heap[Bx]? = some (.cells C.cs 51 (0, 0))) => functions_stops w V C c fs es d hV Bx hx 5 (by omega) hL1 hL2 Z hZ)
    have HZL : Hid (Z.length ≤ 32) := hid (by rw [hZ, List.length_append, List.length_zip, List.length_zip, hL1, hL2]; have := sm.p.fl; have := sm.p.el; omega)
    have HLE : Hid ((encC c xs).length ≤ 10000000) := hid hle
    have hP : (encP c xs).length ≤ 10000000 := by unfold encC at hle; rw [List.length_append] at hle; omega
    unfold encP at hP
    simp only [List.length_append] at hP
    obtain ⟨L1, hE1⟩ : ∃ L1, L1 = encRcs (c.p.recs.map (·.2)) := ⟨_, rfl⟩
    obtain ⟨L2, hE2⟩ : ∃ L2, L2 = L1 ++ encMps c.p.maps := ⟨_, rfl⟩
    obtain ⟨L3, hE3⟩ : ∃ L3, L3 = L2 ++ encSgs (c.p.funcs.map (·.2)) := ⟨_, rfl⟩
    obtain ⟨L4, hE4⟩ : ∃ L4, L4 = L3 ++ encSgs (c.p.events.map (·.2)) := ⟨_, rfl⟩
    obtain ⟨L5, hE5⟩ : ∃ L5, L5 = L4 ++ encIns xs := ⟨_, rfl⟩
    obtain ⟨L6, hE6⟩ : ∃ L6, L6 = L5 ++ encSs c.texts := ⟨_, rfl⟩
    have hE : encP c xs = L6 := by rw [hE6, hE5, hE4, hE3, hE2, hE1]; rfl
    rw [hE] at ENC
    have K1 := hid (fun (V : World) (hV : Below w.heap.size w V) => (by
      have := appRcs_any w V (.slice none 0 0) [] C.h.ra C.h.rn C.h.rc c.p.recs hV (Row.nil _ _) d.p.r (by rw [d.p.r.n1]; have := sm.p.rl; omega) (by simp only [List.nil_append]; omega) sm.p.r sm.tr
      rw [List.nil_append, ← hE1] at this
      exact this : Calls Tryz.prog 18 #[.slice none 0 0, .slice C.h.ra C.h.rn C.h.rc, .func (.func 19) #[] #[]] V (ApP V w.heap.size (.slice none 0 0) L1)))
    have K2 := hid (fun (V : World) (u : Value) (hV : Below w.heap.size w V) (hr : Row V w.heap.size u L1) => (by
      rw [hE2]; exact appMps_any w V u L1 C.h.ma C.h.mn C.h.mc c.p.maps hV hr d.p.m (by rw [d.p.m.n1]; have := sm.p.ml; omega) (by rw [hE1]; simp only [List.length_append]; omega) sm.p.m sm.tm : Calls Tryz.prog 20 #[u, .slice C.h.ma C.h.mn C.h.mc, .func (.func 21) #[] #[]] V (ApP V w.heap.size u L2)))
    have K3 := hid (fun (V : World) (u : Value) (hV : Below w.heap.size w V) (hr : Row V w.heap.size u L2) => (by
      rw [hE3]; exact appSgs_any w V u L2 C.h.fa C.h.fn C.h.fc c.p.funcs hV hr d.p.f (by rw [d.p.f.n1]; have := sm.p.fl; omega) (by rw [hE2, hE1]; simp only [List.length_append]; omega) sm.p.f sm.tf : Calls Tryz.prog 22 #[u, .slice C.h.fa C.h.fn C.h.fc, .func (.func 23) #[] #[]] V (ApP V w.heap.size u L3)))
    have K4 := hid (fun (V : World) (u : Value) (hV : Below w.heap.size w V) (hr : Row V w.heap.size u L3) => (by
      rw [hE4]; exact appSgs_any w V u L3 C.h.ea C.h.en C.h.ec c.p.events hV hr d.p.e (by rw [d.p.e.n1]; have := sm.p.el; omega) (by rw [hE3, hE2, hE1]; simp only [List.length_append]; omega) sm.p.e sm.te : Calls Tryz.prog 22 #[u, .slice C.h.ea C.h.en C.h.ec, .func (.func 23) #[] #[]] V (ApP V w.heap.size u L4)))
    have K5 := hid (fun (V : World) (u : Value) (hV : Below w.heap.size w V) (hr : Row V w.heap.size u L4) => (by
      rw [hE5]; exact appIns_any w V u L4 C.ia C.inn C.ic xs hV hr jn jr (by rw [jn]; omega) (by rw [hE4, hE3, hE2, hE1]; simp only [List.length_append]; omega) jx : Calls Tryz.prog 24 #[u, .slice C.ia C.inn C.ic, .func (.func 25) #[] #[]] V (ApP V w.heap.size u L5)))
    have K6 := hid (fun (V : World) (u : Value) (hV : Below w.heap.size w V) (hr : Row V w.heap.size u L5) => (by
      rw [hE6]; exact appSs_any w V u L5 C.ta C.tn C.tc c.texts hV hr d.t1 (by rw [d.t1]; have := sm.tl; omega) d.tr (by rw [hE5, hE4, hE3, hE2, hE1]; simp only [List.length_append]; omega) (fun s hs => by have := sm.ts s hs; omega) : Calls Tryz.prog 26 #[u, .slice C.ta C.tn C.tc, .func (.func 27) #[] #[]] V (ApP V w.heap.size u L6)))
    have KO := hid (fun (i : Fin Z.length) (V : World) (u : Value) (ys : List Nat) (hV : Below w.heap.size w V) (hr : Row V w.heap.size u ys) (hl : (ys ++ encOps (Z[i.val]).2.2.ops).length ≤ 100000000) => (by
      have zs := ZS.out i
      have rd := zs.2 w (Below.refl _ _)
      exact appOs_any SO w V u ys (Z[i.val]).2.1.oa (Z[i.val]).2.1.on (Z[i.val]).2.1.oc (Z[i.val]).2.2.ops hV hr rd.on rd.or (by rw [rd.on]; have := zs.1.l; omega) hl zs.1.o : Calls Tryz.prog 29 #[u, .slice (Z[i.val]).2.1.oa (Z[i.val]).2.1.on (Z[i.val]).2.1.oc, .func (.func 31) #[] #[]] V (ApP V w.heap.size u (ys ++ encOps (Z[i.val]).2.2.ops))))
    have ST : Hid (∀ (V V2 : World) (a2 : Option Addr) (n2 c2 : Nat), Below W0.heap.size W0 V → Row V2 w.heap.size (.slice a2 n2 c2) L1 → Below V.heap.size V V2 → ES w C.cs V2.heap.size (V2.alloc (.cells #[.slice a2 n2 c2] 52)) (.slice a2 n2 c2) L1) := hid (fun V V2 a2 n2 c2 hV hr hb => by
      have b2 := hV.trans (hb.mono hV.size)
      have b3 := b2.alloc b2.size (.cells #[.slice a2 n2 c2] 52)
      obtain ⟨g1, g2⟩ := GT.out _ b3
      exact ⟨g1, heap_alloc_new V2 _, hr.alloc _, g2, by have := b2.size; have := lt_of_heap m0; omega⟩)
    have ZV := hid (fun (i : Fin Z.length) => (rfl : encZ Z i = #[fsg (Z[i.val]).1.1, (Z[i.val]).2.1.v]))
    clear d jr jn jx m0 b0 hok sm hle jl hZ hL1 hL2 hP hE hE1 hE2 hE3 hE4 hE5 hE6
    obtain ⟨⟨ra, rn, rc, ma, mn, mc, fa, fn, fc, ea, en, ec⟩, ia, inn, ic, ta, tn, tc, ga, gn, gc, ha, hn, hc⟩ := C
    simp only [CH.v, CH.cs] at hW0 GT KI KF SQ K1 K2 K3 K4 K5 K6 ST ⊢
    have CE : Hid (∀ (Pb : Nat) (W : World) (u : Value) (ys : List Nat), ES w #[.slice ra rn rc, .slice ma mn mc, .slice fa fn fc, .slice ea en ec, .slice ia inn ic, .slice ta tn tc, .slice ga gn gc, .slice ha hn hc] Pb W u ys → W.cell? ⟨w.heap.size, 0, none⟩ = some (.slice ra rn rc) ∧ W.cell? ⟨w.heap.size, 1, none⟩ = some (.slice ma mn mc) ∧ W.cell? ⟨w.heap.size, 2, none⟩ = some (.slice fa fn fc) ∧ W.cell? ⟨w.heap.size, 3, none⟩ = some (.slice ea en ec) ∧ W.cell? ⟨w.heap.size, 4, none⟩ = some (.slice ia inn ic) ∧ W.cell? ⟨w.heap.size, 5, none⟩ = some (.slice ta tn tc) ∧ W.cell? ⟨w.heap.size, 6, none⟩ = some (.slice ga gn gc) ∧ W.cell? ⟨w.heap.size, 7, none⟩ = some (.slice ha hn hc)) := hid (fun Pb W u ys h => by
      have g := h.x
      exact ⟨cellOf g 0, cellOf g 1, cellOf g 2, cellOf g 3, cellOf g 4, cellOf g 5, cellOf g 6, cellOf g 7⟩)
    have CL : Hid (∀ V : World, Below W0.heap.size W0 V → V.cell? ⟨w.heap.size, 0, none⟩ = some (.slice ra rn rc) ∧ V.cell? ⟨w.heap.size, 1, none⟩ = some (.slice ma mn mc) ∧ V.cell? ⟨w.heap.size, 2, none⟩ = some (.slice fa fn fc) ∧ V.cell? ⟨w.heap.size, 3, none⟩ = some (.slice ea en ec) ∧ V.cell? ⟨w.heap.size, 4, none⟩ = some (.slice ia inn ic) ∧ V.cell? ⟨w.heap.size, 5, none⟩ = some (.slice ta tn tc) ∧ V.cell? ⟨w.heap.size, 6, none⟩ = some (.slice ga gn gc) ∧ V.cell? ⟨w.heap.size, 7, none⟩ = some (.slice ha hn hc)) := hid (fun V hV => by
      have g := (GT.out V hV).1
      exact ⟨cellOf g 0, cellOf g 1, cellOf g 2, cellOf g 3, cellOf g 4, cellOf g 5, cellOf g 6, cellOf g 7⟩)
    obtain ⟨y0, y1, y2, y3, y4, y5, y6, y7⟩ := CL.out W0 (Below.refl _ _)
    refine (callsIn_wide (n := 6)).1 ?_
    refine callsIn_of_wp_marks Tryz.func8 rfl trivial ?_ hro
    simp only [Tryz.ntmps8, List.size_toArray, List.length_cons, List.length_nil, Nat.reduceAdd, Nat.reduceSub, Array.replicate_succ, Array.replicate_zero, List.push_toArray, List.append_toArray, List.nil_append, List.cons_append]
    gi_wp2_with (refine ⟨trivial, ?_⟩; first
      | (gi_at_call 12; (rw [← hW0]; refine (callsIn_wide.2 (Hid.out KI)).mono ?_; rintro e w1 ⟨rfl, hb1⟩; have HB1 := hid hb1; clear y0 y1 y2 y3 y4 y5 y6 y7; obtain ⟨y0, y1, y2, y3, y4, y5, y6, y7⟩ := CL.out w1 hb1; clear hb1))
      | (gi_at_call 18; (refine (callsIn_wide.2 (K1.out w1 (GT.out w1 HB1.out).2)).mono ?_; rintro e w2 ⟨v2, rfl, hr, hg⟩; obtain ⟨a2, c2, hu, _⟩ := hr.form; obtain ⟨n2, hn2⟩ : ∃ q, q = L1.length := ⟨_, rfl⟩; rw [← hn2] at hu; clear hn2; subst hu; have E2 := hid (ST.out w1 w2 a2 n2 c2 HB1.out hr hg.nil); clear hr hg y0 y1 y2 y3 y4 y5 y6 y7; obtain ⟨y0, y1, y2, y3, y4, y5, y6, y7⟩ := CE.out _ _ _ _ E2.out))
      | ((gi_at_call 20; (refine (callsIn_wide.2 (K2.out _ _ E2.out.b E2.out.r)).mono ?_; rintro e w3 ⟨v3, rfl, hr, hg⟩; obtain ⟨a3, c3, hu, _⟩ := hr.form; obtain ⟨n3, hn3⟩ : ∃ q, q = L2.length := ⟨_, rfl⟩; rw [← hn3] at hu; clear hn3; subst hu; obtain ⟨e1, p0, p1⟩ := E2.out.step hg hr; have E3 := hid e1; clear hr hg e1 y0 y1 y2 y3 y4 y5 y6 y7; obtain ⟨y0, y1, y2, y3, y4, y5, y6, y7⟩ := CE.out _ _ _ _ E3.out; skip)))
      | (have hno := hs3; (gi_at_call 22; (refine (callsIn_wide.2 (K4.out _ _ E4.out.b E4.out.r)).mono ?_; rintro e w5 ⟨v5, rfl, hr, hg⟩; obtain ⟨a5, c5, hu, _⟩ := hr.form; obtain ⟨n5, hn5⟩ : ∃ q, q = L4.length := ⟨_, rfl⟩; rw [← hn5] at hu; clear hn5; subst hu; obtain ⟨e1, p0, p1⟩ := E4.out.step hg hr; have E5 := hid e1; clear hr hg e1 y0 y1 y2 y3 y4 y5 y6 y7; obtain ⟨y0, y1, y2, y3, y4, y5, y6, y7⟩ := CE.out _ _ _ _ E5.out; skip)))
      | ((gi_at_call 22; (refine (callsIn_wide.2 (K3.out _ _ E3.out.b E3.out.r)).mono ?_; rintro e w4 ⟨v4, rfl, hr, hg⟩; obtain ⟨a4, c4, hu, _⟩ := hr.form; obtain ⟨n4, hn4⟩ : ∃ q, q = L3.length := ⟨_, rfl⟩; rw [← hn4] at hu; clear hn4; subst hu; obtain ⟨e1, p0, p1⟩ := E3.out.step hg hr; have E4 := hid e1; clear hr hg e1 y0 y1 y2 y3 y4 y5 y6 y7; obtain ⟨y0, y1, y2, y3, y4, y5, y6, y7⟩ := CE.out _ _ _ _ E4.out; have hs3 := True.intro)))
      | ((gi_at_call 24; (refine (callsIn_wide.2 (K5.out _ _ E5.out.b E5.out.r)).mono ?_; rintro e w6 ⟨v6, rfl, hr, hg⟩; obtain ⟨a6, c6, hu, _⟩ := hr.form; obtain ⟨n6, hn6⟩ : ∃ q, q = L5.length := ⟨_, rfl⟩; rw [← hn6] at hu; clear hn6; subst hu; obtain ⟨e1, p0, p1⟩ := E5.out.step hg hr; have E6 := hid e1; clear hr hg e1 y0 y1 y2 y3 y4 y5 y6 y7; obtain ⟨y0, y1, y2, y3, y4, y5, y6, y7⟩ := CE.out _ _ _ _ E6.out; skip)))
      | ((gi_at_call 26; (refine (callsIn_wide.2 (K6.out _ _ E6.out.b E6.out.r)).mono ?_; rintro e w7 ⟨v7, rfl, hr, hg⟩; obtain ⟨a7, c7, hu, _⟩ := hr.form; obtain ⟨n7, hn7⟩ : ∃ q, q = L6.length := ⟨_, rfl⟩; rw [← hn7] at hu; clear hn7; subst hu; obtain ⟨e1, p0, p1⟩ := E6.out.step hg hr; have E7 := hid e1; clear hr hg e1 y0 y1 y2 y3 y4 y5 y6 y7; obtain ⟨y0, y1, y2, y3, y4, y5, y6, y7⟩ := CE.out _ _ _ _ E7.out; skip)))
      | (gi_at_call 28; (refine (KF.out _).mono ?_; rintro e wf ⟨rfl, rfl⟩; clear y0 y1 y2 y3 y4 y5 y6 y7)))
    have zs : (w7.setCell ⟨w2.heap.size, 0, none⟩ (.slice a7 n7 c7)).heap.size = w7.heap.size := by simp
    obtain ⟨V0, hV0⟩ : ∃ V0, V0 = w7.setCell ⟨w2.heap.size, 0, none⟩ (.slice a7 n7 c7) := ⟨_, rfl⟩
    rw [← hV0] at zs E7
    obtain ⟨V, hV⟩ : ∃ V, V = V0.alloc (.cells #[.slice ra rn rc, .slice ma mn mc, .slice fa fn fc, .slice ea en ec, .slice ia inn ic, .slice ta tn tc, .slice ga gn gc, .slice ha hn hc] 51) := ⟨_, rfl⟩
    rw [← hV0, ← hV]
    have bV : Below V0.heap.size V0 V := by rw [hV]; exact (Below.refl _ _).alloc (Nat.le_refl _) _
    have mb : V.heap[w7.heap.size]? = some (.cells #[.slice ra rn rc, .slice ma mn mc, .slice fa fn fc, .slice ea en ec, .slice ia inn ic, .slice ta tn tc, .slice ga gn gc, .slice ha hn hc] 51 (0, 0)) := by rw [hV, ← zs]; exact heap_alloc_new V0 _
    have eV := E7.out.below bV
    have zV : w7.heap.size < V.heap.size := lt_of_heap mb
    have hseq := SQ.out V eV.b w7.heap.size mb
    have hwV : w.heap.size ≤ V.heap.size := eV.b.size
    obtain ⟨ff, hff⟩ : ∃ ff : Fin Z.length → List Nat, ff = fun i => encFx (Z[i.val]).2.2 := ⟨_, rfl⟩
    have FF : Hid (∀ i, ff i = encFx (Z[i.val]).2.2) := hid (fun i => by rw [hff])
    rw [← hff] at ENC
    have FLE : Hid (∀ i, (ff i).length ≤ 100100) := hid (fun i => by rw [FF.out i]; exact encFx_le (ZS.out i).1)
    have HL6 : Hid (L6.length ≤ 10000000) := hid (by have h1 := HLE.out; rw [ENC.out, List.length_append] at h1; omega)
    clear hff hW0 hV hV0 zs bV KI KF SQ K1 K2 K3 K4 K5 K6 CE CL ST GT HB1 E2 E3 E4 E5 E6 E7 HLE hs3 p0 p1
    have hKp : ∀ (pre : List (Fin Z.length)) (W W' : World), EI w V #[.slice ra rn rc, .slice ma mn mc, .slice fa fn fc, .slice ea en ec, .slice ia inn ic, .slice ta tn tc, .slice ga gn gc, .slice ha hn hc] w2.heap.size w7.heap.size L6 ff pre W → Below W.heap.size W W' → KB w.heap.size w7.heap.size W W' ∧ EI w V #[.slice ra rn rc, .slice ma mn mc, .slice fa fn fc, .slice ea en ec, .slice ia inn ic, .slice ta tn tc, .slice ga gn gc, .slice ha hn hc] w2.heap.size w7.heap.size L6 ff pre W' := fun pre W W' hi hb => by
      obtain ⟨⟨a, n, c, h⟩, hx, hs⟩ := hi
      exact ⟨KB_of hb h.b.size (lt_of_heap hx), ⟨⟨a, n, c, h.below hb⟩, (hb.block _ (lt_of_heap hx)).trans hx, Nat.le_trans hs hb.size⟩⟩
    refine range_box1 hro (by omega) (gf := 57) (lb := #[.pointer (some ⟨w7.heap.size, 0, none⟩)]) rfl trivial (enters_of Tryz.func57 (by kernel_rfl) rfl) (enc1 := fun i => fsg (Z[i.val]).1.1) (enc2 := fun i => (Z[i.val]).2.1.v) (Kp := KB w.heap.size w7.heap.size) hseq KB_t (KB_b (n₀ := w.heap.size) (Bx := w7.heap.size) (w := V) (by omega) (by omega)) (fun i => (Z[i.val]).2.1.cs.toArray) 46 (EI w V #[.slice ra rn rc, .slice ma mn mc, .slice fa fn fc, .slice ea en ec, .slice ia inn ic, .slice ta tn tc, .slice ga gn gc, .slice ha hn hc] w2.heap.size w7.heap.size L6 ff) (fun _ _ _ => False) (EI_own hwV) (fun c s A A' row hs _ _ => hs) ⟨⟨a7, n7, c7, by simpa using eV⟩, mb, Nat.le_refl _⟩ hKp ?round ?done ?stop
    case round =>
      intro ll x W K hK
      have HKK := hid hK
      clear hK
      have KOx : Hid (∀ (V : World) (u : Value) (ys : List Nat), Below w.heap.size w V → Row V w.heap.size u ys → (ys ++ encOps (Z[x.val]).2.2.ops).length ≤ 100000000 → Calls Tryz.prog 29 #[u, .slice (Z[x.val]).2.1.oa (Z[x.val]).2.1.on (Z[x.val]).2.1.oc, .func (.func 31) #[] #[]] V (ApP V w.heap.size u (ys ++ encOps (Z[x.val]).2.2.ops))) := hid (fun V u ys h1 h2 h3 => KO.out x V u ys h1 h2 h3)
      have ZX := hid (ZS.out x)
      have FX := hid (FF.out x)
      generalize (Z[x.val]).1.1 = gh at HKK ⊢
      generalize (Z[x.val]).2 = zf at HKK KOx ZX FX ⊢
      obtain ⟨⟨regs, oa, on, oc⟩, fx⟩ := zf
      obtain ⟨nm, pa, pn, pc, kd, rr⟩ := gh
      simp only [fsg, FH.v, FH.cs] at HKK KOx ZX FX ⊢
      simp only [List.setIfInBounds_toArray, List.set_cons_zero, List.set_cons_succ]
      gi_wp2
      refine HKK.out _ _ W.heap.size ((Below.refl _ W).alloc (Nat.le_refl _) _) (heap_alloc_new W _) ?_
      clear HKK K ll hseq KO hKp eV mb
      generalize W.heap.size = Y
      clear W
      intro l' pre W' hl hrr hi hlt mY
      obtain ⟨⟨a, n, c, hE⟩, hx, hsz⟩ := hi
      have zl : Hid (Z.length ≤ 32) := HZL
      have rg : regs = fx.regs := (ZX.out.2 w (Below.refl _ _)).rg
      obtain ⟨ys, hys⟩ : ∃ ys, ys = L6 ++ (pre.map ff).flatten := ⟨_, rfl⟩
      have hyl : ys.length ≤ 20000000 := by
        have h1 := HL6.out
        have h2 := flat_le (K := 100100) (l := pre) (f := ff) (fun i _ => FLE.out i)
        have h3 := zl.out
        have : 100100 * pre.length ≤ 100100 * 32 := Nat.mul_le_mul_left _ (by omega)
        rw [hys, List.length_append]; omega
      have hfl := encFx_le ZX.out.1
      have hri : inR regs := inR_sm (by have := ZX.out.1.r; omega)
      rw [← hys] at hE
      have hMF : Hid (L6 ++ ((pre ++ [x]).map ff).flatten = ys ++ enc (zz regs) ++ encOps fx.ops) := hid (by rw [List.map_append, List.flatten_append, ← List.append_assoc, ← hys]; simp [FX.out, encFx, rg])
      have hlo : (ys ++ enc (zz regs) ++ encOps fx.ops).length ≤ 100000000 := by
        unfold encFx at hfl
        rw [List.length_append] at hfl
        simp only [List.length_append]
        rw [rg]; omega
      have KA := hid (appNumber_any W'.drew w.heap.size (.slice a n c) ys regs hE.r.drew hE.b.size (by omega) hri)
      have KB2 := hid (fun (V : World) (u : Value) (h1 : Below w.heap.size w V) (h2 : Row V w.heap.size u (ys ++ enc (zz regs))) => KOx.out V u _ h1 h2 hlo)
      have STT : Hid (∀ (V : World) (u : Value), Grw W' (.slice a n c) V u → (V.cell? ⟨w2.heap.size, 0, none⟩ = some (.slice a n c) ∧ V.cell? ⟨Y, 0, none⟩ = some (.int .i64 regs) ∧ V.cell? ⟨Y, 1, none⟩ = some (.slice oa on oc)) ∧ Below w.heap.size w V) := hid (fun V u hg => by
        have k1 := (hg.1.block _ (lt_of_heap hE.p) (hE.r.ne hE.p (by decide))).trans hE.p
        have k2 := (hg.1.block _ (lt_of_heap mY) (hE.r.ne mY (by decide))).trans mY
        exact ⟨⟨cellOf k1 0, cellOf k2 0, cellOf k2 1⟩, hE.b.trans (hg.below hE.r hE.b.size)⟩)
      have FIN : Hid (∀ (w9 : World) (a9 : Option Addr) (n9 c9 : Nat), Grw W' (.slice a n c) w9 (.slice a9 n9 c9) → Row w9 w.heap.size (.slice a9 n9 c9) (ys ++ enc (zz regs) ++ encOps fx.ops) → w9.frozen? ⟨w2.heap.size, 0, none⟩ = false ∧ KeepsFrom V.heap.size W' (w9.setCell ⟨w2.heap.size, 0, none⟩ (.slice a9 n9 c9)) ∧ KB w.heap.size w7.heap.size W' (w9.setCell ⟨w2.heap.size, 0, none⟩ (.slice a9 n9 c9)) ∧ EI w V #[.slice ra rn rc, .slice ma mn mc, .slice fa fn fc, .slice ea en ec, .slice ia inn ic, .slice ta tn tc, .slice ga gn gc, .slice ha hn hc] w2.heap.size w7.heap.size L6 ff (pre ++ [x]) (w9.setCell ⟨w2.heap.size, 0, none⟩ (.slice a9 n9 c9))) := hid (fun w9 a9 n9 c9 hg hr => by
        obtain ⟨e1, _, e3⟩ := hE.step hg hr
        have hne : w7.heap.size ≠ w2.heap.size := fun e => by
          have h1 := hE.p
          rw [← e, hx] at h1; cases h1
        have hPw : w.heap.size ≤ w2.heap.size := by have := hE.ne; omega
        have kx := (hg.1.block _ (lt_of_heap hx) (hE.r.ne hx (by decide))).trans hx
        have kx2 := (Below.heap_setCell w9 ⟨w2.heap.size, 0, none⟩ (.slice a9 n9 c9) _ (show w7.heap.size ≠ w2.heap.size from hne)).trans kx
        refine ⟨e3, (grw_keeps hE.r hg).trans ((KeepsOthers.setCell _ _ _).from _), ⟨(hg.below hE.r hE.b.size).setCell (p := ⟨w2.heap.size, 0, none⟩) hPw _, kx2.trans hx.symm⟩, ⟨⟨a9, n9, c9, by rw [hMF.out]; exact e1⟩, kx2, ?_⟩⟩
        have := hg.size
        simp only [World.size_setCell]
        omega)
      obtain ⟨⟨d0, d1, d2⟩, _⟩ := STT.out W' _ (Grw.refl _ _)
      clear hE hx hsz mY hrr hys hfl hri hlo rg zl hyl KOx ZX FX
      refine wpIn_block ?_
      refine wpIn_region_roundI 7 (fun v : World => v.cell? ⟨w2.heap.size, 0, none⟩ = some (.slice a n c) ∧ v.cell? ⟨Y, 0, none⟩ = some (.int .i64 regs) ∧ v.cell? ⟨Y, 1, none⟩ = some (.slice oa on oc)) (by kernel_rfl) (nodefer (by kernel_rfl)) (by rintro ⟨a, w, h⟩; exact h) (by go_keep) (fun hHeld => ?_)
      refine wpAnyI_take (i := 0) (oi := { dst := some 41, op := Go.Op.load 52 (Go.Operand.tmp 4), type := 52, pos := "encode.go:21", after := #[], guard := none }) (v := ?_) [7] rfl (by kernel_rfl) (by kernel_rfl) (by kernel_rfl) (by kernel_rfl) (fun _ _ _ h => h) (Or.inl ⟨by rfl, ?_⟩) (by assumption) ?_
      rotate_left
      · (intro w hSw; (try dsimp only at hSw); go_simp; (try with_reducible rfl))
      (try simp only [Act.put, List.setIfInBounds_toArray, List.set_cons_zero, List.set_cons_succ])
      refine wpAnyI_take (i := 1) (oi := { dst := some 42, op := Go.Op.fieldAddr 46 (Go.Operand.tmp 6) 0, type := 0, pos := "encode.go:21", after := #[], guard := none }) (v := ?_) [7] rfl (by kernel_rfl) (by kernel_rfl) (by kernel_rfl) (by kernel_rfl) (fun _ _ _ h => h) (Or.inl ⟨by rfl, ?_⟩) (by assumption) ?_
      rotate_left
      · (intro w hSw; (try dsimp only at hSw); go_simp; (try with_reducible rfl))
      (try simp only [Act.put, List.setIfInBounds_toArray, List.set_cons_zero, List.set_cons_succ])
      refine wpAnyI_take (i := 2) (oi := { dst := some 43, op := Go.Op.load 3 (Go.Operand.tmp 42), type := 3, pos := "encode.go:21", after := #[{ on := 1, ground := Go.Ground.data }], guard := none }) (v := ?_) [7] rfl (by kernel_rfl) (by kernel_rfl) (by kernel_rfl) (by kernel_rfl) (fun _ _ _ h => h) (Or.inl ⟨by rfl, ?_⟩) (by assumption) ?_
      rotate_left
      · (intro w hSw; (try dsimp only at hSw); go_simp; (try with_reducible rfl))
      (try simp only [Act.put, List.setIfInBounds_toArray, List.set_cons_zero, List.set_cons_succ])
      refine wpAnyI_take (i := 4) (oi := { dst := some 45, op := Go.Op.fieldAddr 46 (Go.Operand.tmp 6) 1, type := 0, pos := "encode.go:21", after := #[], guard := none }) (v := ?_) [7] rfl (by kernel_rfl) (by kernel_rfl) (by kernel_rfl) (by kernel_rfl) (fun _ _ _ h => h) (Or.inl ⟨by rfl, ?_⟩) (by assumption) ?_
      rotate_left
      · (intro w hSw; (try dsimp only at hSw); go_simp; (try with_reducible rfl))
      (try simp only [Act.put, List.setIfInBounds_toArray, List.set_cons_zero, List.set_cons_succ])
      refine wpAnyI_take (i := 5) (oi := { dst := some 46, op := Go.Op.load 44 (Go.Operand.tmp 45), type := 44, pos := "encode.go:21", after := #[{ on := 4, ground := Go.Ground.data }], guard := none }) (v := ?_) [7] rfl (by kernel_rfl) (by kernel_rfl) (by kernel_rfl) (by kernel_rfl) (fun _ _ _ h => h) (Or.inl ⟨by rfl, ?_⟩) (by assumption) ?_
      rotate_left
      · (intro w hSw; (try dsimp only at hSw); go_simp; (try with_reducible rfl))
      (try simp only [Act.put, List.setIfInBounds_toArray, List.set_cons_zero, List.set_cons_succ])
      refine wpAnyI_one (i := 3) (o := { dst := some 44, op := Go.Op.call { callee := Go.Callee.value (Go.Operand.func 30), args := #[Go.Operand.tmp 41, Go.Operand.tmp 43], argTypes := #[52, 3] }, type := 52, pos := "encode.go:21", after := #[{ on := 0, ground := Go.Ground.data }, { on := 2, ground := Go.Ground.data }], guard := none }) (by kernel_rfl) rfl (fun K hK => ?_)
      go_simp
      (refine (Hid.out KA).mono ?_; rintro e w8 ⟨u8, rfl, hr8, hg8⟩; have HR8 := hid hr8; have HG8 := hid hg8.undrew; obtain ⟨f0, f1, f2⟩ := (STT.out w8 u8 HG8.out).1; clear hr8 hg8)
      try go_wp2_with fail
      refine hK.out _ _ ⟨f0, f1, f2⟩ (fun hHeldN => ?_)
      clear hK K hHeld
      have hHeld := hHeldN
      clear hHeldN
      (try simp only [Act.put, List.setIfInBounds_toArray, List.set_cons_zero, List.set_cons_succ])
      refine wpAnyI_one (i := 6) (o := { dst := some 47, op := Go.Op.call { callee := Go.Callee.value (Go.Operand.func 29), args := #[Go.Operand.tmp 44, Go.Operand.tmp 46, Go.Operand.func 31], argTypes := #[52, 44, 92] }, type := 52, pos := "encode.go:21", after := #[{ on := 3, ground := Go.Ground.data }, { on := 5, ground := Go.Ground.data }, { on := 3, ground := Go.Ground.chain }], guard := none }) (by kernel_rfl) rfl (fun K hK => ?_)
      go_simp
      (refine (KB2.out w8 u8 (STT.out w8 u8 HG8.out).2 HR8.out).mono ?_; rintro e w9 ⟨u9, rfl, hr9, hg9⟩; obtain ⟨a9, c9, hu9, _⟩ := hr9.form; obtain ⟨n9, hn9⟩ : ∃ n9, n9 = (ys ++ enc (zz regs) ++ encOps fx.ops).length := ⟨_, rfl⟩; rw [← hn9] at hu9; clear hn9; subst hu9; have hg10 := HG8.out.trans hg9; obtain ⟨j0, j1, j2⟩ := (STT.out w9 _ hg10).1; obtain ⟨jf, jq⟩ := FIN.out w9 a9 n9 c9 hg10 hr9; have QF := hid jq; clear hr9 hg9 hg10 jq)
      try go_wp2_with fail
      refine hK.out _ _ ⟨j0, j1, j2⟩ (fun hHeldN => ?_)
      clear hK K hHeld
      have hHeld := hHeldN
      clear hHeldN
      (try simp only [Act.put, List.setIfInBounds_toArray, List.set_cons_zero, List.set_cons_succ])
      refine wpAnyI_last (o := { dst := none, op := Go.Op.store 52 (Go.Operand.tmp 4) (Go.Operand.tmp 47), type := 0, pos := "encode.go:21", after := #[{ on := 6, ground := Go.Ground.data }, { on := 6, ground := Go.Ground.chain }, { on := 0, ground := Go.Ground.phase }, { on := 1, ground := Go.Ground.phase }, { on := 2, ground := Go.Ground.phase }, { on := 3, ground := Go.Ground.phase }, { on := 4, ground := Go.Ground.phase }, { on := 5, ground := Go.Ground.phase }, { on := 6, ground := Go.Ground.phase }], guard := none }) (by kernel_rfl) rfl (by kernel_rfl) (fun K hK => ?_)
      go_simp
      refine hK.out _ _ ?_
      clear hK K hHeld
      (try simp only [Act.put, List.setIfInBounds_toArray, List.set_cons_zero, List.set_cons_succ])
      exact QF.out
    case done =>
      rintro D' ys W hD rfl hI hK
      obtain ⟨⟨a, n, c, hE⟩, _, _⟩ := hI
      have c0 := cellOf hE.p 0
      simp only [List.getElem?_toArray, List.getElem?_cons_zero] at c0
      have HK := hid hK
      have HE := hid hE
      clear hseq hK hE hKp
      gi_wp2
      refine ⟨by simp, .inl ⟨_, _, rfl, run_takeDeferred HK.out, ?_⟩⟩
      refine ⟨_, by simp [results, Tryz.results8, go_sem]; rfl, ?_⟩
      have hk := HE.out.keep hwV (grownBy_putObj' _ D' (.deferred none)) (fun r e => by cases e; exact ⟨hD, _, HK.out, rfl⟩)
      exact ⟨hk.b, .inr ⟨HOK.out, _, rfl, by rw [ENC.out]; exact hk.r⟩⟩
    case stop =>
      rintro D' cc pre W hD _ hf
      exact hf.elim
end Go.Proofs.YthnolocldeokeaaGreatDoor

namespace Go.Proofs.YthnolocldeokeaaGreatDoor
set_option maxRecDepth 100000
open Go.ChangeShapes Go.WideShapes Go.ChangeAt Go.RowKit Go.Deep
set_option linter.unusedVariables false
set_option linter.unusedSimpArgs false

theorem ownN : ownKnob Tryz.prog.godebug = none := by kernel_rfl
theorem laidOut : laidOutB Tryz.prog = true := by kernel_rfl
section
variable {H : Type} {enc : TypeId × Value → H} {W : World}

def f_TrdT (enc : TypeId × Value → H) (W : World) (T : TypeId) (cs : List Value) : Prop := ∃ fuel x, DataW.trod enc Tryz.prog W 0 (fun _ => true) true fuel T cs = some x

/- Rows out of their elements. -/
end
end Go.Proofs.YthnolocldeokeaaGreatDoor

namespace Go.Proofs.YthnolocldeokeaaGreatDoor
set_option maxRecDepth 100000
open Go.ChangeShapes Go.WideShapes Go.ChangeAt Go.RowKit Go.Deep
set_option linter.unusedVariables false
set_option linter.unusedSimpArgs false
section
variable {H : Type} {enc : TypeId × Value → H} {W : World}
def f_Sm (T : TypeId) (d : DataW H) : Prop := ∀ n ∈ d.weights Tryz.prog T, n ≤ reachBytes
def TrdS (enc : TypeId × Value → H) (W : World) (T : TypeId) (cs : List Value) : Prop := ∃ fuel x, DataW.trod enc Tryz.prog W 0 (fun _ => true) true fuel T cs = some x ∧ f_Sm T x.1
theorem TrdS.t {T : TypeId} {cs : List Value} (h : TrdS enc W T cs) : f_TrdT enc W T cs := by
  obtain ⟨f, x, h1, _⟩ := h
  exact ⟨f, x, h1⟩
end
end Go.Proofs.YthnolocldeokeaaGreatDoor

namespace Go.Proofs.YthnolocldeokeaaGreatDoor
open Go.RowKit Go.Deep Go.Shelf
set_option linter.unusedVariables false
set_option linter.unusedSimpArgs false
theorem sizeA : (Tryz.prog.info? 112).map (·.size) = some shpC.size := by kernel_rfl
theorem oneA : shpC.all (·.oneCell') = true := by kernel_rfl
theorem last_new (w : World) (o o2 : Obj) : ((w.alloc o).alloc o2).heap[w.heap.size + 1]? = some o2 := by
  have := heap_alloc_new (w.alloc o) o2
  rw [World.size_alloc] at this; exact this
def five (w : World) (b : Nat) (x0 x1 x2 x3 x4 : Value) : World := ((((w.setCell ⟨b, 0, none⟩ x0).setCell ⟨b, 1, none⟩ x1).setCell ⟨b, 2, none⟩ x2).setCell ⟨b, 3, none⟩ x3).setCell ⟨b, 4, none⟩ x4
theorem five_new {w : World} {b : Nat} {p0 p1 p2 p3 p4 : Value} {t : TypeId} (h : w.heap[b]? = some (.cells #[p0, p1, p2, p3, p4] t (0, 0))) (x0 x1 x2 x3 x4 : Value) : (five w b x0 x1 x2 x3 x4).heap[b]? = some (.cells #[x0, x1, x2, x3, x4] t (0, 0)) := heap_set_at (heap_set_at (heap_set_at (heap_set_at (heap_set_at h 0 x0) 1 x1) 2 x2) 3 x3) 4 x4
theorem five_below {B : Nat} {w0 w : World} (hb : Below B w0 w) {b : Nat} (hB : B ≤ b) (x0 x1 x2 x3 x4 : Value) : Below B w0 (five w b x0 x1 x2 x3 x4) := by
  unfold five
  exact ((((hb.setCell hB _).setCell hB _).setCell hB _).setCell hB _).setCell hB _
theorem shp_cell' {w : World} {X k : Nat} (h : w.heap[X]? = some (.cells shpC 112 (0, 0))) (hk : k < 41) (i : Nat) (hi : i < 5) : w.cell? ⟨X, k * 5 + i, none⟩ = (shpAt (k : Int)).cs[i]? := by
  rw [cellOf h]
  unfold shpC
  rw [List.getElem?_toArray]
  exact flat_get shpL k _ (shp_get hk) i hi
theorem row_is (w : World) (o : Obj) (z : Array Value) : ((w.alloc o).alloc (.cells z 112)).setRow (w.heap.size + 1) shpC = (w.alloc o).alloc (.cells shpC 112) := by
  have := World.setRow_alloc_new (w.alloc o) z shpC 112
  rw [World.size_alloc] at this; exact this
def shpR (k : Int) : Ending := .returned (.tuple #[.agg (if isC k = true then shpAt k else shp0).cs.toArray, .bool (isC k)])
theorem shpT (k : Int) (h : isC k = true) (s : Shp) (hs : s = shpAt k) : Ending.returned (.tuple #[.agg s.cs.toArray, .bool true]) = shpR k := by
  unfold shpR; rw [h, hs]; rfl
theorem shpF (k : Int) (h : isC k = false) : Ending.returned (.tuple #[.agg #[.string ⟨#[]⟩, .int .u8 0, .int .u8 0, .int .u8 0, .int .u8 0], .bool false]) = shpR k := by
  unfold shpR; rw [h]; simp only [Bool.false_eq_true, if_false, shp0, Shp.cs]; rfl
set_option maxRecDepth 100000 in
set_option maxHeartbeats 8000000 in
theorem shapeOf_core (w : World) (k : Int) : Calls Tryz.prog 13 #[.int .i64 k] w fun e w' => e = shpR k ∧ Below w.heap.size w w' := by
  go_enter Tryz.func13, Tryz.ntmps13
  go_upto_region 1 with fail
  go_cut [4] from 5 to 45 (fun s wc => s = .pointer (some ⟨w.heap.size + 1, 0, none⟩) ∧ wc = (w.alloc (.cells #[.string ⟨#[]⟩, .int .u8 0, .int .u8 0, .int .u8 0, .int .u8 0] 63)).alloc (.cells shpC 112))
  case first =>
    go_wp2_with (refine wpList_store_row rfl 112 (.tmp 4) (.tmp 45) rfl (w.heap.size + 1) shpC (by rfl) (by rfl) 112 _ (last_new _ _ _) sizeA (by rfl) oneA ?_)
    go_meet
    exact ⟨rfl, row_is _ _ _⟩
  case rest =>
    obtain ⟨rfl, rfl⟩ := hcut
    obtain ⟨X, hX⟩ : ∃ X, X = w.heap.size := ⟨_, rfl⟩
    obtain ⟨W2, hW2⟩ : ∃ W2, W2 = (w.alloc (.cells #[.string ⟨#[]⟩, .int .u8 0, .int .u8 0, .int .u8 0, .int .u8 0] 63)).alloc (.cells shpC 112) := ⟨_, rfl⟩
    have bw : Below w.heap.size w W2 := by rw [hW2]; exact ((Below.refl _ _).alloc (Nat.le_refl _) _).alloc (by simp) _
    have mX : W2.heap[X]? = some (.cells #[.string ⟨#[]⟩, .int .u8 0, .int .u8 0, .int .u8 0, .int .u8 0] 63 (0, 0)) := by rw [hW2, hX, Below.heap_alloc _ _ _ (by simp)]; exact heap_alloc_new _ _
    have mT : W2.heap[X + 1]? = some (.cells shpC 112 (0, 0)) := by rw [hW2, hX]; exact last_new _ _ _
    have y0 := cellOf mX 0
    have y1 := cellOf mX 1
    have y2 := cellOf mX 2
    have y3 := cellOf mX 3
    have y4 := cellOf mX 4
    have f0 := freeOf mX 0
    have f1 := freeOf mX 1
    have f2 := freeOf mX 2
    have f3 := freeOf mX 3
    have f4 := freeOf mX 4
    simp only [List.getElem?_toArray, List.getElem?_cons_zero, List.getElem?_cons_succ] at y0 y1 y2 y3 y4
    have MX := hid mX
    have MT := hid mT
    have BW := hid bw
    have HX := hid hX
    rw [← hW2, ← hX]
    clear hW2 hX mX mT bw
    have FIN := hid (fun (x0 x1 x2 x3 x4 : Value) => (⟨five_new MX.out x0 x1 x2 x3 x4, five_below BW.out (b := X) (by rw [HX.out]; exact Nat.le_refl _) x0 x1 x2 x3 x4⟩ : (five W2 X x0 x1 x2 x3 x4).heap[X]? = some (.cells #[x0, x1, x2, x3, x4] 63 (0, 0)) ∧ Below w.heap.size w (five W2 X x0 x1 x2 x3 x4)))
    by_cases h0 : isC k = true
    · have HD := hid h0
      have hk : 1 ≤ k ∧ k < 41 := by unfold isC at h0; simpa using h0
      obtain ⟨kk, rfl⟩ : ∃ kk : Nat, k = (kk : Int) := ⟨k.toNat, by omega⟩
      have hkk : kk < 41 := by omega
      obtain ⟨h1, h2⟩ := hk
      have h1' : ¬ (kk : Int) < 1 := by omega
      have h2' : ¬ (41 : Int) ≤ (kk : Int) := by omega
      have h3 : (0 : Int) ≤ (kk : Int) := by omega
      have hb1 : decide ((kk : Int) < 1) = false := decide_eq_false h1'
      have hb2 : decide ((41 : Int) ≤ (kk : Int)) = false := decide_eq_false h2'
      obtain ⟨sh, hsh⟩ : ∃ sh, sh = shpAt (kk : Int) := ⟨_, rfl⟩
      have s0 := shp_cell' MT.out hkk 0 (by omega)
      have s1 := shp_cell' MT.out hkk 1 (by omega)
      have s2 := shp_cell' MT.out hkk 2 (by omega)
      have s3 := shp_cell' MT.out hkk 3 (by omega)
      have s4 := shp_cell' MT.out hkk 4 (by omega)
      rw [← hsh] at s0 s1 s2 s3 s4
      have HSH := hid hsh
      obtain ⟨nm, d, a, b, kf⟩ := sh
      simp only [Shp.cs, List.getElem?_cons_zero, List.getElem?_cons_succ, Nat.add_zero] at s0 s1 s2 s3 s4
      clear hsh h0
      go_wp2
      obtain ⟨hf, hb⟩ := FIN.out (.string nm) (.int .u8 d) (.int .u8 a) (.int .u8 b) (.int .u8 kf)
      have q0 := cellOf hf 0
      have q1 := cellOf hf 1
      have q2 := cellOf hf 2
      have q3 := cellOf hf 3
      have q4 := cellOf hf 4
      simp only [five, List.getElem?_toArray, List.getElem?_cons_zero, List.getElem?_cons_succ] at q0 q1 q2 q3 q4 hb
      refine bodyPost_ret (v := .tuple #[.agg #[.string nm, .int .u8 d, .int .u8 a, .int .u8 b, .int .u8 kf], .bool true]) (by simp [results, Tryz.results13, go_sem, q0, q1, q2, q3, q4]) rfl ⟨shpT (kk : Int) HD.out ⟨nm, d, a, b, kf⟩ HSH.out, hb⟩
    · have HD : Hid (isC k = false) := hid (by simpa using h0)
      have hk : k < 1 ∨ 41 ≤ k := by unfold isC at h0; simp at h0; omega
      clear h0
      have FIN0 := hid (FIN.out (.string ⟨#[]⟩) (.int .u8 0) (.int .u8 0) (.int .u8 0) (.int .u8 0))
      clear FIN MT
      rcases hk with h1 | h1
      · have hb1 : decide (k < 1) = true := decide_eq_true h1
        go_wp2
        obtain ⟨hf, hb⟩ := FIN0.out
        have q0 := cellOf hf 0
        have q1 := cellOf hf 1
        have q2 := cellOf hf 2
        have q3 := cellOf hf 3
        have q4 := cellOf hf 4
        simp only [five, List.getElem?_toArray, List.getElem?_cons_zero, List.getElem?_cons_succ] at q0 q1 q2 q3 q4 hb
        refine bodyPost_ret (v := .tuple #[.agg #[.string ⟨#[]⟩, .int .u8 0, .int .u8 0, .int .u8 0, .int .u8 0], .bool false]) (by simp [results, Tryz.results13, go_sem, q0, q1, q2, q3, q4]) rfl ⟨shpF k HD.out, hb⟩
      · have hb1 : decide (k < 1) = false := decide_eq_false (by omega)
        have hb2 : decide (41 ≤ k) = true := decide_eq_true h1
        have h2 : ¬ k < 1 := by omega
        go_wp2
        obtain ⟨hf, hb⟩ := FIN0.out
        have q0 := cellOf hf 0
        have q1 := cellOf hf 1
        have q2 := cellOf hf 2
        have q3 := cellOf hf 3
        have q4 := cellOf hf 4
        simp only [five, List.getElem?_toArray, List.getElem?_cons_zero, List.getElem?_cons_succ] at q0 q1 q2 q3 q4 hb
        refine bodyPost_ret (v := .tuple #[.agg #[.string ⟨#[]⟩, .int .u8 0, .int .u8 0, .int .u8 0, .int .u8 0], .bool false]) (by simp [results, Tryz.results13, go_sem, q0, q1, q2, q3, q4]) rfl ⟨shpF k HD.out, hb⟩
theorem shapeOf_any (w : World) (k : Int) : Calls Tryz.prog 13 #[.int .i64 k] w fun e w' => e = .returned (.tuple #[.agg (if isC k = true then shpAt k else shp0).cs.toArray, .bool (isC k)]) ∧ Below w.heap.size w w' := shapeOf_core w k
end Go.Proofs.YthnolocldeokeaaGreatDoor

namespace Go.Proofs.YthnolocldeokeaaGreatDoor
open Go.RowKit Go.Deep Go.Shelf
set_option linter.unusedVariables false
set_option linter.unusedSimpArgs false
def c0 : Cx := ⟨⟨[], [], [], []⟩, 0, [], [], []⟩
theorem CEq.refl (c : Cx) : CEq c c := ⟨⟨rfl, rfl, rfl, rfl⟩, rfl, rfl, rfl⟩
/- Either side's answer in one form. -/
end Go.Proofs.YthnolocldeokeaaGreatDoor

namespace Go.Proofs.YthnolocldeokeaaGreatDoor
open Go.RowKit Go.Deep Go.Shelf
set_option linter.unusedVariables false
set_option linter.unusedSimpArgs false
set_option maxRecDepth 100000
theorem crd_of {w : World} {X : Nat} {E : TypeId} {k : Nat} (rows : List (List Value)) (h : w.heap[X]? = some (.cells rows.flatten.toArray E (0, 0))) (hk : ∀ r ∈ rows, r.length = k) : CRd w (some ⟨X, 0, none⟩) k rows := fun j r e => ⟨X, 0, rfl, lt_of_heap h, fun i hi => by
  rw [cellOf h, Nat.zero_add, List.getElem?_toArray]
  exact flat_at hk j r e i hi⟩
theorem crd_ord {w : World} {a : Option Addr} {l : List Opx} (h : CRd w a 5 (l.map fun o => o.cs.toList)) : ORd w a l := fun j x hx => by
  obtain ⟨b, off, e, _, hc⟩ := h j x.cs.toList (by rw [List.getElem?_map, hx]; rfl)
  exact ⟨b, off, e, fun i hi => by rw [hc i hi]; exact Array.getElem?_toList⟩
def kFx : Fx := ⟨0, [⟨35, 0, 0, 0, 0⟩, ⟨40, 0, -1, 0, 0⟩]⟩
def kSe : Sg := ⟨⟨#[101]⟩, [], (0, 0)⟩
def kSf : Sg := ⟨⟨#[102]⟩, [(1, 0), (1, 0)], (0, 0)⟩
def kPf (X : Nat) : Pg := ⟨[], [], [((⟨⟨#[102]⟩, some ⟨X, 0, none⟩, 2, 2, 0, 0⟩ : GH), kSf)], []⟩
def kCx : Cx := ⟨⟨[], [], [], [((⟨⟨#[101]⟩, none, 0, 0, 0, 0⟩ : GH), kSe)]⟩, 0, [], [], [kFx]⟩
def kBs : List Nat := [0, 0, 0, 1, 1, 101, 0, 0, 0, 0, 0, 0, 2, 70, 80, 1]
theorem kCx_is : isB kCx = true := by kernel_rfl
theorem kCx_enc : encC kCx [] = kBs := by kernel_rfl
theorem kPf_len (X : Nat) : rowLen (shpAt 31).k (kPf X) 0 = (((2 : Nat) : Int), true) := by kernel_rfl
theorem kUs : usL 2 (shpAt 31) ⟨31, -1, 3, 0, 0⟩ = [3, 4] := by kernel_rfl
theorem kDeS : DeS [] [] [] [kSe] [] [] [] [kFx] := by
  refine ⟨?_, ?_, ?_, ?_, ?_, ?_, ?_, ?_, ?_, ?_, ?_, ?_, ?_, ?_⟩ <;> simp [kSe, kFx]
theorem kDec (SO : ShapeC) (w : World) (a : Option Addr) (n c : Nat) (hb : Rd w (.slice a n c) kBs) (ho : ∀ k, (Value.slice a n c).ownBlock = some k → k < w.heap.size) : Calls Tryz.prog 9 #[.slice a n c] w fun e w' => Below w.heap.size w w' ∧ ∃ C cx fl el, e = .returned (.tuple #[C.v, .int .i64 0]) ∧ CEq kCx cx ∧ CdRd w' C cx fl el ∧ JRd w' C.ia [] ∧ C.inn = 0 := by
  have h := decode_go SO w a n c kBs hb (by simp [kBs]) ho [] [] [] [kSe] [] [] [] [kFx] (some kBs) (some [0, 0, 1, 1, 101, 0, 0, 0, 0, 0, 0, 2, 70, 80, 1]) (some [0, 1, 1, 101, 0, 0, 0, 0, 0, 0, 2, 70, 80, 1]) (some [1, 1, 101, 0, 0, 0, 0, 0, 0, 2, 70, 80, 1]) (some [0, 0, 0, 2, 70, 80, 1]) (some [0, 0, 2, 70, 80, 1]) (some [0, 2, 70, 80, 1]) (some [0, 2, 70, 80, 1]) (some []) rfl (by kernel_rfl) (by kernel_rfl) (by kernel_rfl) (by kernel_rfl) (by kernel_rfl) (by kernel_rfl) (by kernel_rfl) (by kernel_rfl) (fun _ => kDeS) (by simp) (by simp)
  refine h.mono ?_
  rintro e w' ⟨hbl, h | h⟩
  · obtain ⟨_, C, cx, fl, el, he, _, d, hc, hj, hn⟩ := h
    exact ⟨hbl, C, cx, fl, el, he, ⟨⟨d.r.symm, d.m.symm, d.f.symm, d.e.symm⟩, d.t.symm, d.F.symm, d.E.symm⟩, hc, hj, hn⟩
  · obtain ⟨c', d, hf⟩ := h.1 rfl
    have : isB c' = isB kCx := isB_of ⟨d.r, d.m, d.f, d.e⟩ d.i d.t d.F d.E
    rw [hf, kCx_is] at this
    cases this
theorem srd_nil (w : World) : SRd w none [] := fun j s h => by simp at h
theorem kPRd {w : World} {X : Nat} (m0 : w.heap[X]? = some (.cells #[.int .i64 1, .int .i64 0, .int .i64 1, .int .i64 0] 32 (0, 0))) (m1 : w.heap[X + 1]? = some (.cells #[.string ⟨#[102]⟩, .slice (some ⟨X, 0, none⟩) 2 2, .int .i64 0, .int .i64 0] 35 (0, 0))) : PRd w ⟨none, 0, 0, none, 0, 0, some ⟨X + 1, 0, none⟩, 1, 1, none, 0, 0⟩ (kPf X) := by
  have tr : TRd w (some ⟨X, 0, none⟩) [(1, 0), (1, 0)] := CRd.trd (crd_of [[.int .i64 1, .int .i64 0], [.int .i64 1, .int .i64 0]] m0 (by simp))
  refine ⟨⟨rfl, by simp, fun j r h => by simp [kPf] at h, fun p hp => by simp [kPf] at hp⟩, ⟨rfl, by simp, fun j r h => by simp [kPf] at h, fun p hp => by simp [kPf] at hp⟩, ⟨rfl, by simp, crd_of [[.string ⟨#[102]⟩, .slice (some ⟨X, 0, none⟩) 2 2, .int .i64 0, .int .i64 0]] m1 (by simp), fun p hp => ?_⟩, ⟨rfl, by simp, fun j r h => by simp [kPf] at h, fun p hp => by simp [kPf] at hp⟩⟩
  simp [kPf] at hp
  subst hp
  exact ⟨rfl, of_decide_eq_true (by kernel_rfl), rfl, by simp, tr, rfl⟩
theorem kCd {w : World} {Y : Nat} (m0 : w.heap[Y]? = some (.cells #[.string ⟨#[101]⟩, .slice none 0 0, .int .i64 0, .int .i64 0] 35 (0, 0))) (m1 : w.heap[Y + 1]? = some (.cells #[.int .i64 35, .int .i64 0, .int .i64 0, .int .i64 0, .int .i64 0, .int .i64 40, .int .i64 0, .int .i64 (-1), .int .i64 0, .int .i64 0] 23 (0, 0))) (m2 : w.heap[Y + 1 + 1]? = some (.cells #[.int .i64 0, .slice (some ⟨Y + 1, 0, none⟩) 2 2] 46 (0, 0))) :
    CdRd w ⟨⟨none, 0, 0, none, 0, 0, none, 0, 0, some ⟨Y, 0, none⟩, 1, 1⟩, none, 0, 0, none, 0, 0, none, 0, 0, some ⟨Y + 1 + 1, 0, none⟩, 1, 1⟩ kCx [] [((⟨0, some ⟨Y + 1, 0, none⟩, 2, 2⟩ : FH), kFx)] := by
  have oR : ORd w (some ⟨Y + 1, 0, none⟩) kFx.ops := crd_ord (crd_of [[.int .i64 35, .int .i64 0, .int .i64 0, .int .i64 0, .int .i64 0], [.int .i64 40, .int .i64 0, .int .i64 (-1), .int .i64 0, .int .i64 0]] m1 (by simp))
  refine ⟨⟨⟨rfl, by simp, fun j r h => by simp [kCx] at h, fun p hp => by simp [kCx] at hp⟩, ⟨rfl, by simp, fun j r h => by simp [kCx] at h, fun p hp => by simp [kCx] at hp⟩, ⟨rfl, by simp, fun j r h => by simp [kCx] at h, fun p hp => by simp [kCx] at hp⟩, ⟨rfl, by simp, crd_of [[.string ⟨#[101]⟩, .slice none 0 0, .int .i64 0, .int .i64 0]] m0 (by simp), fun p hp => ?_⟩⟩, rfl, by simp, rfl, by simp, srd_nil w, ⟨rfl, by simp, fun j r h => by simp at h, fun p hp => by simp at hp⟩, rfl, ⟨rfl, by simp, crd_of [[.int .i64 0, .slice (some ⟨Y + 1, 0, none⟩) 2 2]] m2 (by simp), fun p hp => ?_⟩, rfl⟩
  · simp [kCx] at hp
    subst hp
    exact ⟨rfl, of_decide_eq_true (by kernel_rfl), rfl, by simp, fun j t h => by simp [kSe] at h, rfl⟩
  · simp at hp
    subst hp
    exact ⟨rfl, rfl, by simp, oR⟩
theorem jrd_nil (w : World) (a : Option Addr) : JRd w a [] := fun j r h => by simp at h
end Go.Proofs.YthnolocldeokeaaGreatDoor

