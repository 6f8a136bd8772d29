/- code.Encode. -/
import Derived.Test.YthnolocldeokeaaGreatJAT
namespace Go.Proofs.YthnolocldeokeaaGreat
open Go.RowKit Go.Deep Go.Shelf
set_option linter.unusedVariables false
set_option linter.unusedSimpArgs false
set_option maxRecDepth 100000
attribute [local go_sem] Oper.semAt_some
structure ES (w : World) (c8 : Array Value) (Pb : Nat) (W : World) (u : Value) (ys : List Nat) : Prop where
  x : W.heap[w.heap.size]? = some (.cells c8 31 (0, 0))
  p : W.heap[Pb]? = some (.cells #[u] 34 (0, 0))
  r : Row W w.heap.size u ys
  b : Below w.heap.size w W
  ne : w.heap.size < Pb
theorem ES.step {w : World} {c8 : Array Value} {Pb : Nat} {W W1 : World} {u u1 : Value} {ys zs : List Nat} (h : ES w c8 Pb W u ys) (hg : Grw W u W1 u1) (hr : Row W1 w.heap.size u1 zs) : ES w c8 Pb (W1.setCell ⟨Pb, 0, none⟩ u1) u1 zs ∧ W1.cell? ⟨Pb, 0, none⟩ = some u ∧ W1.frozen? ⟨Pb, 0, none⟩ = false := by
  have k1 := (hg.1.block Pb (lt_of_heap h.p) (h.r.ne h.p (by decide))).trans h.p
  have kx := (hg.1.block _ (lt_of_heap h.x) (h.r.ne h.x (by decide))).trans h.x
  have hne := h.ne
  refine ⟨⟨(Below.heap_setCell _ ⟨Pb, 0, none⟩ _ _ (show w.heap.size ≠ Pb by omega)).trans kx, set_cells k1 _, hr.same fun g e => Below.heap_setCell _ ⟨Pb, 0, none⟩ _ _ (show g ≠ Pb from fun e2 => by
    have h9 := hr.ne k1 (by decide)
    rw [← e2] at h9; exact h9 e.symm), (h.b.trans (hg.below h.r h.b.size)).setCell (p := ⟨Pb, 0, none⟩) (by show w.heap.size ≤ Pb; omega) _, hne⟩, cellOf k1 0, freeOf k1 0⟩
theorem ES.below {w : World} {c8 : Array Value} {Pb : Nat} {W W1 : World} {u : Value} {ys : List Nat} (h : ES w c8 Pb W u ys) (k : Below W.heap.size W W1) : ES w c8 Pb W1 u ys := ⟨(k.block _ (lt_of_heap h.x)).trans h.x, (k.block _ (lt_of_heap h.p)).trans h.p, h.r.below (Nat.le_refl _) k, h.b.trans (k.mono h.b.size), h.ne⟩
theorem ES.keep {w : World} {c8 : Array Value} {Pb : Nat} {W W1 : World} {u : Value} {ys : List Nat} {row : Option Nat} {C : Nat} (h : ES w c8 Pb W u ys) (hC : w.heap.size ≤ C) (hg : W.grownBy W1 row) (hr : ∀ r, row = some r → C ≤ r ∧ ∃ o : Obj, W.heap[r]? = some o ∧ o.isCells = false) : ES w c8 Pb W1 u ys := ⟨keep_cells h.x hg hr, keep_cells h.p hg hr, row_keeps h.r hg hr, h.b.grown hg h.b.size (fun k e => by have := (hr k e).1; omega), h.ne⟩
structure EI (w V : World) (c8 : Array Value) (Pb Bx : Nat) {m : Nat} (base : List Nat) (f : Fin m → List Nat) (pre : List (Fin m)) (W : World) : Prop where
  ex : ∃ a n c, ES w c8 Pb W (.slice a n c) (base ++ (pre.map f).flatten)
  bx : W.heap[Bx]? = some (.cells c8 31 (0, 0))
  sz : V.heap.size ≤ W.heap.size
theorem EI_own {w V : World} {c8 : Array Value} {Pb Bx m : Nat} {base : List Nat} {f : Fin m → List Nat} (hV : w.heap.size ≤ V.heap.size) : OwnFrom V.heap.size (EI w V c8 Pb Bx base f) := fun s A A' row hs hg hr => by
  obtain ⟨⟨a, n, c, h1⟩, h2, h3⟩ := hs
  exact ⟨⟨a, n, c, h1.keep hV hg hr⟩, keep_cells h2 hg hr, Nat.le_trans h3 hg.size⟩
theorem zip_snd {α β : Type} : ∀ (l : List α) (m : List β), m.length = l.length → (l.zip m).map (·.2) = m
  | [], [], _ => rfl
  | [], b :: m, h => by simp at h
  | a :: l, [], h => by simp at h
  | a :: l, b :: m, h => by simp only [List.zip_cons_cons, List.map_cons]; rw [zip_snd l m (by simpa using h)]
theorem allZ_map {β : Type} (Z : ZL) (f : (GH × Sg) × (FH × Fx) → β) : (allZ Z).map (fun i => f Z[i.val]) = Z.map f := by
  unfold allZ
  apply List.ext_getElem
  · simp
  · intro i h1 h2
    simp
/- What Encode answers. -/
def EnP (w : World) (c : Cx) (xs : List Int) (e : Ending) (w' : World) : Prop := Below w.heap.size w w' ∧ ((isB c = false ∧ e = .returned (.tuple #[.slice none 0 0, .int .i64 90])) ∨ (isB c = true ∧ ∃ v, e = .returned (.tuple #[v, .int .i64 0]) ∧ Row w' w.heap.size v (encC c xs)))
set_option maxHeartbeats 8000000 in
theorem encode_any (SO : ShapeC) (w : World) (C : CH) (c : Cx) (fs es : List (FH × Fx)) (d : CdRd w C c fs es) (xs : List Int) (jr : JRd w C.ia xs) (jn : C.inn = xs.length) (jx : ∀ x ∈ xs, inR x) :
    Calls Tryz.prog 8 #[C.v] w (EnP w c xs) := by
  have hro : Fence.wide.round = none := rfl
  obtain ⟨W0, hW0⟩ : ∃ W0, W0 = w.alloc (.cells C.cs 31) := ⟨_, rfl⟩
  have b0 : Below w.heap.size w W0 := by rw [hW0]; exact (Below.refl _ _).alloc (Nat.le_refl _) _
  have m0 : W0.heap[w.heap.size]? = some (.cells C.cs 31 (0, 0)) := by rw [hW0]; exact heap_alloc_new w _
  have KI := codeIs_any SO W0 C c fs es (d.below (Nat.le_refl _) b0)
  have GT : Hid (∀ V : World, Below W0.heap.size W0 V → V.heap[w.heap.size]? = some (.cells C.cs 31 (0, 0)) ∧ Below w.heap.size w V) := hid (fun V hV => ⟨(hV.block _ (lt_of_heap m0)).trans m0, b0.trans (hV.mono b0.size)⟩)
  cases hok : isB c with
  | false =>
    rw [hok] at KI
    have KI := hid KI
    have HOK := hid hok
    clear d jr jn jx m0 b0 hok
    obtain ⟨⟨ra, rn, rc, ma, mn, mc, fa, fn, fc, ea, en, ec⟩, ia, inn, ic, ta, tn, tc, ga, gn, gc, ha, hn, hc⟩ := C
    simp only [CH.v, CH.cs] at hW0 GT KI ⊢
    have CL : Hid (∀ V : World, Below W0.heap.size W0 V → V.cell? ⟨w.heap.size, 0, none⟩ = some (.slice ra rn rc) ∧ V.cell? ⟨w.heap.size, 1, none⟩ = some (.slice ma mn mc) ∧ V.cell? ⟨w.heap.size, 2, none⟩ = some (.slice fa fn fc) ∧ V.cell? ⟨w.heap.size, 3, none⟩ = some (.slice ea en ec) ∧ V.cell? ⟨w.heap.size, 4, none⟩ = some (.slice ia inn ic) ∧ V.cell? ⟨w.heap.size, 5, none⟩ = some (.slice ta tn tc) ∧ V.cell? ⟨w.heap.size, 6, none⟩ = some (.slice ga gn gc) ∧ V.cell? ⟨w.heap.size, 7, none⟩ = some (.slice ha hn hc)) := hid (fun V hV => by
      have g := (GT.out V hV).1
      exact ⟨cellOf g 0, cellOf g 1, cellOf g 2, cellOf g 3, cellOf g 4, cellOf g 5, cellOf g 6, cellOf g 7⟩)
    obtain ⟨y0, y1, y2, y3, y4, y5, y6, y7⟩ := CL.out W0 (Below.refl _ _)
    refine (callsIn_wide (n := 6)).1 ?_
    refine callsIn_of_wp_marks Tryz.func8 rfl trivial ?_ hro
    simp only [Tryz.ntmps8, List.size_toArray, List.length_cons, List.length_nil, Nat.reduceAdd, Nat.reduceSub, Array.replicate_succ, Array.replicate_zero, List.push_toArray, List.append_toArray, List.nil_append, List.cons_append]
    gi_wp2_with (refine ⟨trivial, ?_⟩; gi_at_call 17; (rw [← hW0]; refine (callsIn_wide.2 (Hid.out KI)).mono ?_; rintro e w1 ⟨rfl, hb1⟩; have HB1 := hid (GT.out w1 hb1).2; clear hb1))
    exact ⟨_, by simp [results, Tryz.results8, go_sem], HB1.out, .inl ⟨HOK.out, rfl⟩⟩
  | true =>
    rw [hok] at KI
    have KI := hid KI
    have HOK := hid hok
    have sm := is_sm hok
    have hle := encC_le sm (xs := xs) (by rw [← jn]; exact d.i1) jx
    have jl : xs.length ≤ 1000 := by rw [← jn, d.i1]; exact sm.il
    obtain ⟨Z, hZ⟩ : ∃ Z : ZL, Z = c.p.funcs.zip fs ++ c.p.events.zip es := ⟨_, rfl⟩
    have hL1 : fs.length = c.p.funcs.length := by rw [← sm.fl, ← d.fe, List.length_map]
    have hL2 : es.length = c.p.events.length := by rw [← sm.el, ← d.ee, List.length_map]
    have ENC : Hid (encC c xs = encP c xs ++ ((allZ Z).map (fun i => encFx (Z[i.val]).2.2)).flatten) := hid (by
      unfold encC
      rw [allZ_map Z (fun z => encFx z.2.2), hZ, ← d.fe, ← d.ee, List.map_append, List.map_append, List.map_map, List.map_map]
      rw [show (c.p.funcs.zip fs).map (fun z => encFx z.2.2) = fs.map (fun z => encFx z.2) from by
        conv => rhs; rw [← zip_snd c.p.funcs fs hL1, List.map_map]
        rfl]
      rw [show (c.p.events.zip es).map (fun z => encFx z.2.2) = es.map (fun z => encFx z.2) from by
        conv => rhs; rw [← zip_snd c.p.events es hL2, List.map_map]
        rfl]
      rfl)
    have ZS : Hid (∀ i : Fin Z.length, FxSm (Z[i.val]).2.2 ∧ ∀ V : World, Below w.heap.size w V → FnRd V (Z[i.val]).2.1 (Z[i.val]).2.2) := hid (fun i => by
      have hm : Z[i.val] ∈ Z := List.getElem_mem i.isLt
      generalize Z[i.val] = z at hm
      rw [hZ] at hm
      rcases List.mem_append.1 hm with h | h
      · exact ⟨sm.f _ (by rw [← d.fe]; exact List.mem_map.2 ⟨_, (List.of_mem_zip h).2, rfl⟩), fun V hV => (d.f.el _ (List.of_mem_zip h).2).below (Nat.le_refl _) hV⟩
      · exact ⟨sm.e _ (by rw [← d.ee]; exact List.mem_map.2 ⟨_, (List.of_mem_zip h).2, rfl⟩), fun V hV => (d.e.el _ (List.of_mem_zip h).2).below (Nat.le_refl _) hV⟩)
    have KF := hid (fun (V : World) => functions_in Fence.wide 5 trivial hro C V)
    have SQ := hid (fun (V : World) (hV : Below w.heap.size w V) (Bx : Nat) (hx : V.heap[Bx]? = some (.cells C.cs 31 (0, 0))) => functions_stops w V C c fs es d hV Bx hx 5 (by omega) hL1 hL2 Z hZ)
    have HZL : Hid (Z.length ≤ 32) := hid (by rw [hZ, List.length_append, List.length_zip, List.length_zip, hL1, hL2]; have := sm.p.fl; have := sm.p.el; omega)
    have HLE : Hid ((encC c xs).length ≤ 10000000) := hid hle
    have hP : (encP c xs).length ≤ 10000000 := by unfold encC at hle; rw [List.length_append] at hle; omega
    unfold encP at hP
    simp only [List.length_append] at hP
    obtain ⟨L1, hE1⟩ : ∃ L1, L1 = encRcs (c.p.recs.map (·.2)) := ⟨_, rfl⟩
    obtain ⟨L2, hE2⟩ : ∃ L2, L2 = L1 ++ encMps c.p.maps := ⟨_, rfl⟩
    obtain ⟨L3, hE3⟩ : ∃ L3, L3 = L2 ++ encSgs (c.p.funcs.map (·.2)) := ⟨_, rfl⟩
    obtain ⟨L4, hE4⟩ : ∃ L4, L4 = L3 ++ encSgs (c.p.events.map (·.2)) := ⟨_, rfl⟩
    obtain ⟨L5, hE5⟩ : ∃ L5, L5 = L4 ++ encIns xs := ⟨_, rfl⟩
    obtain ⟨L6, hE6⟩ : ∃ L6, L6 = L5 ++ encSs c.texts := ⟨_, rfl⟩
    have hE : encP c xs = L6 := by rw [hE6, hE5, hE4, hE3, hE2, hE1]; rfl
    rw [hE] at ENC
    have K1 := hid (fun (V : World) (hV : Below w.heap.size w V) => (by
      have := appRcs_any w V (.slice none 0 0) [] C.h.ra C.h.rn C.h.rc c.p.recs hV (Row.nil _ _) d.p.r (by rw [d.p.r.n1]; have := sm.p.rl; omega) (by simp only [List.nil_append]; omega) sm.p.r sm.tr
      rw [List.nil_append, ← hE1] at this
      exact this : Calls Tryz.prog 20 #[.slice none 0 0, .slice C.h.ra C.h.rn C.h.rc, .func (.func 21) #[] #[]] V (ApP V w.heap.size (.slice none 0 0) L1)))
    have K2 := hid (fun (V : World) (u : Value) (hV : Below w.heap.size w V) (hr : Row V w.heap.size u L1) => (by
      rw [hE2]; exact appMps_any w V u L1 C.h.ma C.h.mn C.h.mc c.p.maps hV hr d.p.m (by rw [d.p.m.n1]; have := sm.p.ml; omega) (by rw [hE1]; simp only [List.length_append]; omega) sm.p.m sm.tm : Calls Tryz.prog 22 #[u, .slice C.h.ma C.h.mn C.h.mc, .func (.func 23) #[] #[]] V (ApP V w.heap.size u L2)))
    have K3 := hid (fun (V : World) (u : Value) (hV : Below w.heap.size w V) (hr : Row V w.heap.size u L2) => (by
      rw [hE3]; exact appSgs_any w V u L2 C.h.fa C.h.fn C.h.fc c.p.funcs hV hr d.p.f (by rw [d.p.f.n1]; have := sm.p.fl; omega) (by rw [hE2, hE1]; simp only [List.length_append]; omega) sm.p.f sm.tf : Calls Tryz.prog 24 #[u, .slice C.h.fa C.h.fn C.h.fc, .func (.func 25) #[] #[]] V (ApP V w.heap.size u L3)))
    have K4 := hid (fun (V : World) (u : Value) (hV : Below w.heap.size w V) (hr : Row V w.heap.size u L3) => (by
      rw [hE4]; exact appSgs_any w V u L3 C.h.ea C.h.en C.h.ec c.p.events hV hr d.p.e (by rw [d.p.e.n1]; have := sm.p.el; omega) (by rw [hE3, hE2, hE1]; simp only [List.length_append]; omega) sm.p.e sm.te : Calls Tryz.prog 24 #[u, .slice C.h.ea C.h.en C.h.ec, .func (.func 25) #[] #[]] V (ApP V w.heap.size u L4)))
    have K5 := hid (fun (V : World) (u : Value) (hV : Below w.heap.size w V) (hr : Row V w.heap.size u L4) => (by
      rw [hE5]; exact appIns_any w V u L4 C.ia C.inn C.ic xs hV hr jn jr (by rw [jn]; omega) (by rw [hE4, hE3, hE2, hE1]; simp only [List.length_append]; omega) jx : Calls Tryz.prog 26 #[u, .slice C.ia C.inn C.ic, .func (.func 27) #[] #[]] V (ApP V w.heap.size u L5)))
    have K6 := hid (fun (V : World) (u : Value) (hV : Below w.heap.size w V) (hr : Row V w.heap.size u L5) => (by
      rw [hE6]; exact appSs_any w V u L5 C.ta C.tn C.tc c.texts hV hr d.t1 (by rw [d.t1]; have := sm.tl; omega) d.tr (by rw [hE5, hE4, hE3, hE2, hE1]; simp only [List.length_append]; omega) (fun s hs => by have := sm.ts s hs; omega) : Calls Tryz.prog 28 #[u, .slice C.ta C.tn C.tc, .func (.func 29) #[] #[]] V (ApP V w.heap.size u L6)))
    have KO := hid (fun (i : Fin Z.length) (V : World) (u : Value) (ys : List Nat) (hV : Below w.heap.size w V) (hr : Row V w.heap.size u ys) (hl : (ys ++ encOps (Z[i.val]).2.2.ops).length ≤ 100000000) => (by
      have zs := ZS.out i
      have rd := zs.2 w (Below.refl _ _)
      exact appOs_any SO w V u ys (Z[i.val]).2.1.oa (Z[i.val]).2.1.on (Z[i.val]).2.1.oc (Z[i.val]).2.2.ops hV hr rd.on rd.or (by rw [rd.on]; have := zs.1.l; omega) hl zs.1.o : Calls Tryz.prog 31 #[u, .slice (Z[i.val]).2.1.oa (Z[i.val]).2.1.on (Z[i.val]).2.1.oc, .func (.func 33) #[] #[]] V (ApP V w.heap.size u (ys ++ encOps (Z[i.val]).2.2.ops))))
    have ST : Hid (∀ (V V2 : World) (a2 : Option Addr) (n2 c2 : Nat), Below W0.heap.size W0 V → Row V2 w.heap.size (.slice a2 n2 c2) L1 → Below V.heap.size V V2 → ES w C.cs V2.heap.size (V2.alloc (.cells #[.slice a2 n2 c2] 34)) (.slice a2 n2 c2) L1) := hid (fun V V2 a2 n2 c2 hV hr hb => by
      have b2 := hV.trans (hb.mono hV.size)
      have b3 := b2.alloc b2.size (.cells #[.slice a2 n2 c2] 34)
      obtain ⟨g1, g2⟩ := GT.out _ b3
      exact ⟨g1, heap_alloc_new V2 _, hr.alloc _, g2, by have := b2.size; have := lt_of_heap m0; omega⟩)
    have ZV := hid (fun (i : Fin Z.length) => (rfl : encZ Z i = #[fsg (Z[i.val]).1.1, (Z[i.val]).2.1.v]))
    clear d jr jn jx m0 b0 hok sm hle jl hZ hL1 hL2 hP hE hE1 hE2 hE3 hE4 hE5 hE6
    obtain ⟨⟨ra, rn, rc, ma, mn, mc, fa, fn, fc, ea, en, ec⟩, ia, inn, ic, ta, tn, tc, ga, gn, gc, ha, hn, hc⟩ := C
    simp only [CH.v, CH.cs] at hW0 GT KI KF SQ K1 K2 K3 K4 K5 K6 ST ⊢
    have CE : Hid (∀ (Pb : Nat) (W : World) (u : Value) (ys : List Nat), ES w #[.slice ra rn rc, .slice ma mn mc, .slice fa fn fc, .slice ea en ec, .slice ia inn ic, .slice ta tn tc, .slice ga gn gc, .slice ha hn hc] Pb W u ys → W.cell? ⟨w.heap.size, 0, none⟩ = some (.slice ra rn rc) ∧ W.cell? ⟨w.heap.size, 1, none⟩ = some (.slice ma mn mc) ∧ W.cell? ⟨w.heap.size, 2, none⟩ = some (.slice fa fn fc) ∧ W.cell? ⟨w.heap.size, 3, none⟩ = some (.slice ea en ec) ∧ W.cell? ⟨w.heap.size, 4, none⟩ = some (.slice ia inn ic) ∧ W.cell? ⟨w.heap.size, 5, none⟩ = some (.slice ta tn tc) ∧ W.cell? ⟨w.heap.size, 6, none⟩ = some (.slice ga gn gc) ∧ W.cell? ⟨w.heap.size, 7, none⟩ = some (.slice ha hn hc)) := hid (fun Pb W u ys h => by
      have g := h.x
      exact ⟨cellOf g 0, cellOf g 1, cellOf g 2, cellOf g 3, cellOf g 4, cellOf g 5, cellOf g 6, cellOf g 7⟩)
    have CL : Hid (∀ V : World, Below W0.heap.size W0 V → V.cell? ⟨w.heap.size, 0, none⟩ = some (.slice ra rn rc) ∧ V.cell? ⟨w.heap.size, 1, none⟩ = some (.slice ma mn mc) ∧ V.cell? ⟨w.heap.size, 2, none⟩ = some (.slice fa fn fc) ∧ V.cell? ⟨w.heap.size, 3, none⟩ = some (.slice ea en ec) ∧ V.cell? ⟨w.heap.size, 4, none⟩ = some (.slice ia inn ic) ∧ V.cell? ⟨w.heap.size, 5, none⟩ = some (.slice ta tn tc) ∧ V.cell? ⟨w.heap.size, 6, none⟩ = some (.slice ga gn gc) ∧ V.cell? ⟨w.heap.size, 7, none⟩ = some (.slice ha hn hc)) := hid (fun V hV => by
      have g := (GT.out V hV).1
      exact ⟨cellOf g 0, cellOf g 1, cellOf g 2, cellOf g 3, cellOf g 4, cellOf g 5, cellOf g 6, cellOf g 7⟩)
    obtain ⟨y0, y1, y2, y3, y4, y5, y6, y7⟩ := CL.out W0 (Below.refl _ _)
    refine (callsIn_wide (n := 6)).1 ?_
    refine callsIn_of_wp_marks Tryz.func8 rfl trivial ?_ hro
    simp only [Tryz.ntmps8, List.size_toArray, List.length_cons, List.length_nil, Nat.reduceAdd, Nat.reduceSub, Array.replicate_succ, Array.replicate_zero, List.push_toArray, List.append_toArray, List.nil_append, List.cons_append]
    gi_wp2_with (refine ⟨trivial, ?_⟩; first
      | (gi_at_call 17; (rw [← hW0]; refine (callsIn_wide.2 (Hid.out KI)).mono ?_; rintro e w1 ⟨rfl, hb1⟩; have HB1 := hid hb1; clear y0 y1 y2 y3 y4 y5 y6 y7; obtain ⟨y0, y1, y2, y3, y4, y5, y6, y7⟩ := CL.out w1 hb1; clear hb1))
      | (gi_at_call 20; (refine (callsIn_wide.2 (K1.out w1 (GT.out w1 HB1.out).2)).mono ?_; rintro e w2 ⟨v2, rfl, hr, hg⟩; obtain ⟨a2, c2, hu, _⟩ := hr.form; obtain ⟨n2, hn2⟩ : ∃ q, q = L1.length := ⟨_, rfl⟩; rw [← hn2] at hu; clear hn2; subst hu; have E2 := hid (ST.out w1 w2 a2 n2 c2 HB1.out hr hg.nil); clear hr hg y0 y1 y2 y3 y4 y5 y6 y7; obtain ⟨y0, y1, y2, y3, y4, y5, y6, y7⟩ := CE.out _ _ _ _ E2.out))
      | ((gi_at_call 22; (refine (callsIn_wide.2 (K2.out _ _ E2.out.b E2.out.r)).mono ?_; rintro e w3 ⟨v3, rfl, hr, hg⟩; obtain ⟨a3, c3, hu, _⟩ := hr.form; obtain ⟨n3, hn3⟩ : ∃ q, q = L2.length := ⟨_, rfl⟩; rw [← hn3] at hu; clear hn3; subst hu; obtain ⟨e1, p0, p1⟩ := E2.out.step hg hr; have E3 := hid e1; clear hr hg e1 y0 y1 y2 y3 y4 y5 y6 y7; obtain ⟨y0, y1, y2, y3, y4, y5, y6, y7⟩ := CE.out _ _ _ _ E3.out; skip)))
      | (have hno := hs3; (gi_at_call 24; (refine (callsIn_wide.2 (K4.out _ _ E4.out.b E4.out.r)).mono ?_; rintro e w5 ⟨v5, rfl, hr, hg⟩; obtain ⟨a5, c5, hu, _⟩ := hr.form; obtain ⟨n5, hn5⟩ : ∃ q, q = L4.length := ⟨_, rfl⟩; rw [← hn5] at hu; clear hn5; subst hu; obtain ⟨e1, p0, p1⟩ := E4.out.step hg hr; have E5 := hid e1; clear hr hg e1 y0 y1 y2 y3 y4 y5 y6 y7; obtain ⟨y0, y1, y2, y3, y4, y5, y6, y7⟩ := CE.out _ _ _ _ E5.out; skip)))
      | ((gi_at_call 24; (refine (callsIn_wide.2 (K3.out _ _ E3.out.b E3.out.r)).mono ?_; rintro e w4 ⟨v4, rfl, hr, hg⟩; obtain ⟨a4, c4, hu, _⟩ := hr.form; obtain ⟨n4, hn4⟩ : ∃ q, q = L3.length := ⟨_, rfl⟩; rw [← hn4] at hu; clear hn4; subst hu; obtain ⟨e1, p0, p1⟩ := E3.out.step hg hr; have E4 := hid e1; clear hr hg e1 y0 y1 y2 y3 y4 y5 y6 y7; obtain ⟨y0, y1, y2, y3, y4, y5, y6, y7⟩ := CE.out _ _ _ _ E4.out; have hs3 := True.intro)))
      | ((gi_at_call 26; (refine (callsIn_wide.2 (K5.out _ _ E5.out.b E5.out.r)).mono ?_; rintro e w6 ⟨v6, rfl, hr, hg⟩; obtain ⟨a6, c6, hu, _⟩ := hr.form; obtain ⟨n6, hn6⟩ : ∃ q, q = L5.length := ⟨_, rfl⟩; rw [← hn6] at hu; clear hn6; subst hu; obtain ⟨e1, p0, p1⟩ := E5.out.step hg hr; have E6 := hid e1; clear hr hg e1 y0 y1 y2 y3 y4 y5 y6 y7; obtain ⟨y0, y1, y2, y3, y4, y5, y6, y7⟩ := CE.out _ _ _ _ E6.out; skip)))
      | ((gi_at_call 28; (refine (callsIn_wide.2 (K6.out _ _ E6.out.b E6.out.r)).mono ?_; rintro e w7 ⟨v7, rfl, hr, hg⟩; obtain ⟨a7, c7, hu, _⟩ := hr.form; obtain ⟨n7, hn7⟩ : ∃ q, q = L6.length := ⟨_, rfl⟩; rw [← hn7] at hu; clear hn7; subst hu; obtain ⟨e1, p0, p1⟩ := E6.out.step hg hr; have E7 := hid e1; clear hr hg e1 y0 y1 y2 y3 y4 y5 y6 y7; obtain ⟨y0, y1, y2, y3, y4, y5, y6, y7⟩ := CE.out _ _ _ _ E7.out; skip)))
      | (gi_at_call 30; (refine (KF.out _).mono ?_; rintro e wf ⟨rfl, rfl⟩; clear y0 y1 y2 y3 y4 y5 y6 y7)))
    have zs : (w7.setCell ⟨w2.heap.size, 0, none⟩ (.slice a7 n7 c7)).heap.size = w7.heap.size := by simp
    obtain ⟨V0, hV0⟩ : ∃ V0, V0 = w7.setCell ⟨w2.heap.size, 0, none⟩ (.slice a7 n7 c7) := ⟨_, rfl⟩
    rw [← hV0] at zs E7
    obtain ⟨V, hV⟩ : ∃ V, V = V0.alloc (.cells #[.slice ra rn rc, .slice ma mn mc, .slice fa fn fc, .slice ea en ec, .slice ia inn ic, .slice ta tn tc, .slice ga gn gc, .slice ha hn hc] 31) := ⟨_, rfl⟩
    rw [← hV0, ← hV]
    have bV : Below V0.heap.size V0 V := by rw [hV]; exact (Below.refl _ _).alloc (Nat.le_refl _) _
    have mb : V.heap[w7.heap.size]? = some (.cells #[.slice ra rn rc, .slice ma mn mc, .slice fa fn fc, .slice ea en ec, .slice ia inn ic, .slice ta tn tc, .slice ga gn gc, .slice ha hn hc] 31 (0, 0)) := by rw [hV, ← zs]; exact heap_alloc_new V0 _
    have eV := E7.out.below bV
    have zV : w7.heap.size < V.heap.size := lt_of_heap mb
    have hseq := SQ.out V eV.b w7.heap.size mb
    have hwV : w.heap.size ≤ V.heap.size := eV.b.size
    obtain ⟨ff, hff⟩ : ∃ ff : Fin Z.length → List Nat, ff = fun i => encFx (Z[i.val]).2.2 := ⟨_, rfl⟩
    have FF : Hid (∀ i, ff i = encFx (Z[i.val]).2.2) := hid (fun i => by rw [hff])
    rw [← hff] at ENC
    have FLE : Hid (∀ i, (ff i).length ≤ 100100) := hid (fun i => by rw [FF.out i]; exact encFx_le (ZS.out i).1)
    have HL6 : Hid (L6.length ≤ 10000000) := hid (by have h1 := HLE.out; rw [ENC.out, List.length_append] at h1; omega)
    clear hff hW0 hV hV0 zs bV KI KF SQ K1 K2 K3 K4 K5 K6 CE CL ST GT HB1 E2 E3 E4 E5 E6 E7 HLE hs3 p0 p1
    have hKp : ∀ (pre : List (Fin Z.length)) (W W' : World), EI w V #[.slice ra rn rc, .slice ma mn mc, .slice fa fn fc, .slice ea en ec, .slice ia inn ic, .slice ta tn tc, .slice ga gn gc, .slice ha hn hc] w2.heap.size w7.heap.size L6 ff pre W → Below W.heap.size W W' → KB w.heap.size w7.heap.size W W' ∧ EI w V #[.slice ra rn rc, .slice ma mn mc, .slice fa fn fc, .slice ea en ec, .slice ia inn ic, .slice ta tn tc, .slice ga gn gc, .slice ha hn hc] w2.heap.size w7.heap.size L6 ff pre W' := fun pre W W' hi hb => by
      obtain ⟨⟨a, n, c, h⟩, hx, hs⟩ := hi
      exact ⟨KB_of hb h.b.size (lt_of_heap hx), ⟨⟨a, n, c, h.below hb⟩, (hb.block _ (lt_of_heap hx)).trans hx, Nat.le_trans hs hb.size⟩⟩
    refine range_box1 hro (by omega) (gf := 65) (lb := #[.pointer (some ⟨w7.heap.size, 0, none⟩)]) rfl trivial (enters_of Tryz.func65 (by kernel_rfl) rfl) (enc1 := fun i => fsg (Z[i.val]).1.1) (enc2 := fun i => (Z[i.val]).2.1.v) (Kp := KB w.heap.size w7.heap.size) hseq KB_t (KB_b (n₀ := w.heap.size) (Bx := w7.heap.size) (w := V) (by omega) (by omega)) (fun i => (Z[i.val]).2.1.cs.toArray) 57 (EI w V #[.slice ra rn rc, .slice ma mn mc, .slice fa fn fc, .slice ea en ec, .slice ia inn ic, .slice ta tn tc, .slice ga gn gc, .slice ha hn hc] w2.heap.size w7.heap.size L6 ff) (fun _ _ _ => False) (EI_own hwV) (fun c s A A' row hs _ _ => hs) ⟨⟨a7, n7, c7, by simpa using eV⟩, mb, Nat.le_refl _⟩ hKp ?round ?done ?stop
    case round =>
      intro ll x W K hK
      have HKK := hid hK
      clear hK
      have KOx : Hid (∀ (V : World) (u : Value) (ys : List Nat), Below w.heap.size w V → Row V w.heap.size u ys → (ys ++ encOps (Z[x.val]).2.2.ops).length ≤ 100000000 → Calls Tryz.prog 31 #[u, .slice (Z[x.val]).2.1.oa (Z[x.val]).2.1.on (Z[x.val]).2.1.oc, .func (.func 33) #[] #[]] V (ApP V w.heap.size u (ys ++ encOps (Z[x.val]).2.2.ops))) := hid (fun V u ys h1 h2 h3 => KO.out x V u ys h1 h2 h3)
      have ZX := hid (ZS.out x)
      have FX := hid (FF.out x)
      generalize (Z[x.val]).1.1 = gh at HKK ⊢
      generalize (Z[x.val]).2 = zf at HKK KOx ZX FX ⊢
      obtain ⟨⟨regs, oa, on, oc⟩, fx⟩ := zf
      obtain ⟨nm, pa, pn, pc, kd, rr⟩ := gh
      simp only [fsg, FH.v, FH.cs] at HKK KOx ZX FX ⊢
      simp only [List.setIfInBounds_toArray, List.set_cons_zero, List.set_cons_succ]
      gi_wp2
      refine HKK.out _ _ W.heap.size ((Below.refl _ W).alloc (Nat.le_refl _) _) (heap_alloc_new W _) ?_
      clear HKK K ll hseq KO hKp eV mb
      generalize W.heap.size = Y
      clear W
      intro l' pre W' hl hrr hi hlt mY
      obtain ⟨⟨a, n, c, hE⟩, hx, hsz⟩ := hi
      have zl : Hid (Z.length ≤ 32) := HZL
      have rg : regs = fx.regs := (ZX.out.2 w (Below.refl _ _)).rg
      obtain ⟨ys, hys⟩ : ∃ ys, ys = L6 ++ (pre.map ff).flatten := ⟨_, rfl⟩
      have hyl : ys.length ≤ 20000000 := by
        have h1 := HL6.out
        have h2 := flat_le (K := 100100) (l := pre) (f := ff) (fun i _ => FLE.out i)
        have h3 := zl.out
        have : 100100 * pre.length ≤ 100100 * 32 := Nat.mul_le_mul_left _ (by omega)
        rw [hys, List.length_append]; omega
      have hfl := encFx_le ZX.out.1
      have hri : inR regs := inR_sm (by have := ZX.out.1.r; omega)
      rw [← hys] at hE
      have hMF : Hid (L6 ++ ((pre ++ [x]).map ff).flatten = ys ++ enc (zz regs) ++ encOps fx.ops) := hid (by rw [List.map_append, List.flatten_append, ← List.append_assoc, ← hys]; simp [FX.out, encFx, rg])
      have hlo : (ys ++ enc (zz regs) ++ encOps fx.ops).length ≤ 100000000 := by
        unfold encFx at hfl
        rw [List.length_append] at hfl
        simp only [List.length_append]
        rw [rg]; omega
      have KA := hid (appNumber_any W'.drew w.heap.size (.slice a n c) ys regs hE.r.drew hE.b.size (by omega) hri)
      have KB2 := hid (fun (V : World) (u : Value) (h1 : Below w.heap.size w V) (h2 : Row V w.heap.size u (ys ++ enc (zz regs))) => KOx.out V u _ h1 h2 hlo)
      have STT : Hid (∀ (V : World) (u : Value), Grw W' (.slice a n c) V u → (V.cell? ⟨w2.heap.size, 0, none⟩ = some (.slice a n c) ∧ V.cell? ⟨Y, 0, none⟩ = some (.int .i64 regs) ∧ V.cell? ⟨Y, 1, none⟩ = some (.slice oa on oc)) ∧ Below w.heap.size w V) := hid (fun V u hg => by
        have k1 := (hg.1.block _ (lt_of_heap hE.p) (hE.r.ne hE.p (by decide))).trans hE.p
        have k2 := (hg.1.block _ (lt_of_heap mY) (hE.r.ne mY (by decide))).trans mY
        exact ⟨⟨cellOf k1 0, cellOf k2 0, cellOf k2 1⟩, hE.b.trans (hg.below hE.r hE.b.size)⟩)
      have FIN : Hid (∀ (w9 : World) (a9 : Option Addr) (n9 c9 : Nat), Grw W' (.slice a n c) w9 (.slice a9 n9 c9) → Row w9 w.heap.size (.slice a9 n9 c9) (ys ++ enc (zz regs) ++ encOps fx.ops) → w9.frozen? ⟨w2.heap.size, 0, none⟩ = false ∧ KeepsFrom V.heap.size W' (w9.setCell ⟨w2.heap.size, 0, none⟩ (.slice a9 n9 c9)) ∧ KB w.heap.size w7.heap.size W' (w9.setCell ⟨w2.heap.size, 0, none⟩ (.slice a9 n9 c9)) ∧ EI w V #[.slice ra rn rc, .slice ma mn mc, .slice fa fn fc, .slice ea en ec, .slice ia inn ic, .slice ta tn tc, .slice ga gn gc, .slice ha hn hc] w2.heap.size w7.heap.size L6 ff (pre ++ [x]) (w9.setCell ⟨w2.heap.size, 0, none⟩ (.slice a9 n9 c9))) := hid (fun w9 a9 n9 c9 hg hr => by
        obtain ⟨e1, _, e3⟩ := hE.step hg hr
        have hne : w7.heap.size ≠ w2.heap.size := fun e => by
          have h1 := hE.p
          rw [← e, hx] at h1; cases h1
        have hPw : w.heap.size ≤ w2.heap.size := by have := hE.ne; omega
        have kx := (hg.1.block _ (lt_of_heap hx) (hE.r.ne hx (by decide))).trans hx
        have kx2 := (Below.heap_setCell w9 ⟨w2.heap.size, 0, none⟩ (.slice a9 n9 c9) _ (show w7.heap.size ≠ w2.heap.size from hne)).trans kx
        refine ⟨e3, (grw_keeps hE.r hg).trans ((KeepsOthers.setCell _ _ _).from _), ⟨(hg.below hE.r hE.b.size).setCell (p := ⟨w2.heap.size, 0, none⟩) hPw _, kx2.trans hx.symm⟩, ⟨⟨a9, n9, c9, by rw [hMF.out]; exact e1⟩, kx2, ?_⟩⟩
        have := hg.size
        simp only [World.size_setCell]
        omega)
      obtain ⟨⟨d0, d1, d2⟩, _⟩ := STT.out W' _ (Grw.refl _ _)
      clear hE hx hsz mY hrr hys hfl hri hlo rg zl hyl KOx ZX FX
      refine wpIn_block ?_
      refine wpIn_region_roundI 7 (fun v : World => v.cell? ⟨w2.heap.size, 0, none⟩ = some (.slice a n c) ∧ v.cell? ⟨Y, 0, none⟩ = some (.int .i64 regs) ∧ v.cell? ⟨Y, 1, none⟩ = some (.slice oa on oc)) (by kernel_rfl) (nodefer (by kernel_rfl)) (by rintro ⟨a, w, h⟩; exact h) (by go_keep) (fun hHeld => ?_)
      refine wpAnyI_take (i := 0) (oi := { dst := some 41, op := Go.Op.load 34 (Go.Operand.tmp 4), type := 34, pos := "encode.go:21", after := #[], guard := none }) (v := ?_) [7] rfl (by kernel_rfl) (by kernel_rfl) (by kernel_rfl) (by kernel_rfl) (fun _ _ _ h => h) (Or.inl ⟨by rfl, ?_⟩) (by assumption) ?_
      rotate_left
      · (intro w hSw; (try dsimp only at hSw); go_simp; (try with_reducible rfl))
      (try simp only [Act.put, List.setIfInBounds_toArray, List.set_cons_zero, List.set_cons_succ])
      refine wpAnyI_take (i := 1) (oi := { dst := some 42, op := Go.Op.fieldAddr 57 (Go.Operand.tmp 6) 0, type := 0, pos := "encode.go:21", after := #[], guard := none }) (v := ?_) [7] rfl (by kernel_rfl) (by kernel_rfl) (by kernel_rfl) (by kernel_rfl) (fun _ _ _ h => h) (Or.inl ⟨by rfl, ?_⟩) (by assumption) ?_
      rotate_left
      · (intro w hSw; (try dsimp only at hSw); go_simp; (try with_reducible rfl))
      (try simp only [Act.put, List.setIfInBounds_toArray, List.set_cons_zero, List.set_cons_succ])
      refine wpAnyI_take (i := 2) (oi := { dst := some 43, op := Go.Op.load 3 (Go.Operand.tmp 42), type := 3, pos := "encode.go:21", after := #[{ on := 1, ground := Go.Ground.data }], guard := none }) (v := ?_) [7] rfl (by kernel_rfl) (by kernel_rfl) (by kernel_rfl) (by kernel_rfl) (fun _ _ _ h => h) (Or.inl ⟨by rfl, ?_⟩) (by assumption) ?_
      rotate_left
      · (intro w hSw; (try dsimp only at hSw); go_simp; (try with_reducible rfl))
      (try simp only [Act.put, List.setIfInBounds_toArray, List.set_cons_zero, List.set_cons_succ])
      refine wpAnyI_take (i := 4) (oi := { dst := some 45, op := Go.Op.fieldAddr 57 (Go.Operand.tmp 6) 1, type := 0, pos := "encode.go:21", after := #[], guard := none }) (v := ?_) [7] rfl (by kernel_rfl) (by kernel_rfl) (by kernel_rfl) (by kernel_rfl) (fun _ _ _ h => h) (Or.inl ⟨by rfl, ?_⟩) (by assumption) ?_
      rotate_left
      · (intro w hSw; (try dsimp only at hSw); go_simp; (try with_reducible rfl))
      (try simp only [Act.put, List.setIfInBounds_toArray, List.set_cons_zero, List.set_cons_succ])
      refine wpAnyI_take (i := 5) (oi := { dst := some 46, op := Go.Op.load 55 (Go.Operand.tmp 45), type := 55, pos := "encode.go:21", after := #[{ on := 4, ground := Go.Ground.data }], guard := none }) (v := ?_) [7] rfl (by kernel_rfl) (by kernel_rfl) (by kernel_rfl) (by kernel_rfl) (fun _ _ _ h => h) (Or.inl ⟨by rfl, ?_⟩) (by assumption) ?_
      rotate_left
      · (intro w hSw; (try dsimp only at hSw); go_simp; (try with_reducible rfl))
      (try simp only [Act.put, List.setIfInBounds_toArray, List.set_cons_zero, List.set_cons_succ])
      refine wpAnyI_one (i := 3) (o := { dst := some 44, op := Go.Op.call { callee := Go.Callee.value (Go.Operand.func 32), args := #[Go.Operand.tmp 41, Go.Operand.tmp 43], argTypes := #[34, 3] }, type := 34, pos := "encode.go:21", after := #[{ on := 0, ground := Go.Ground.data }, { on := 2, ground := Go.Ground.data }], guard := none }) (by kernel_rfl) rfl (fun K hK => ?_)
      go_simp
      (refine (Hid.out KA).mono ?_; rintro e w8 ⟨u8, rfl, hr8, hg8⟩; have HR8 := hid hr8; have HG8 := hid hg8.undrew; obtain ⟨f0, f1, f2⟩ := (STT.out w8 u8 HG8.out).1; clear hr8 hg8)
      try go_wp2_with fail
      refine hK.out _ _ ⟨f0, f1, f2⟩ (fun hHeldN => ?_)
      clear hK K hHeld
      have hHeld := hHeldN
      clear hHeldN
      (try simp only [Act.put, List.setIfInBounds_toArray, List.set_cons_zero, List.set_cons_succ])
      refine wpAnyI_one (i := 6) (o := { dst := some 47, op := Go.Op.call { callee := Go.Callee.value (Go.Operand.func 31), args := #[Go.Operand.tmp 44, Go.Operand.tmp 46, Go.Operand.func 33], argTypes := #[34, 55, 80] }, type := 34, pos := "encode.go:21", after := #[{ on := 3, ground := Go.Ground.data }, { on := 5, ground := Go.Ground.data }, { on := 3, ground := Go.Ground.chain }], guard := none }) (by kernel_rfl) rfl (fun K hK => ?_)
      go_simp
      (refine (KB2.out w8 u8 (STT.out w8 u8 HG8.out).2 HR8.out).mono ?_; rintro e w9 ⟨u9, rfl, hr9, hg9⟩; obtain ⟨a9, c9, hu9, _⟩ := hr9.form; obtain ⟨n9, hn9⟩ : ∃ n9, n9 = (ys ++ enc (zz regs) ++ encOps fx.ops).length := ⟨_, rfl⟩; rw [← hn9] at hu9; clear hn9; subst hu9; have hg10 := HG8.out.trans hg9; obtain ⟨j0, j1, j2⟩ := (STT.out w9 _ hg10).1; obtain ⟨jf, jq⟩ := FIN.out w9 a9 n9 c9 hg10 hr9; have QF := hid jq; clear hr9 hg9 hg10 jq)
      try go_wp2_with fail
      refine hK.out _ _ ⟨j0, j1, j2⟩ (fun hHeldN => ?_)
      clear hK K hHeld
      have hHeld := hHeldN
      clear hHeldN
      (try simp only [Act.put, List.setIfInBounds_toArray, List.set_cons_zero, List.set_cons_succ])
      refine wpAnyI_last (o := { dst := none, op := Go.Op.store 34 (Go.Operand.tmp 4) (Go.Operand.tmp 47), type := 0, pos := "encode.go:21", after := #[{ on := 6, ground := Go.Ground.data }, { on := 6, ground := Go.Ground.chain }, { on := 0, ground := Go.Ground.phase }, { on := 1, ground := Go.Ground.phase }, { on := 2, ground := Go.Ground.phase }, { on := 3, ground := Go.Ground.phase }, { on := 4, ground := Go.Ground.phase }, { on := 5, ground := Go.Ground.phase }, { on := 6, ground := Go.Ground.phase }], guard := none }) (by kernel_rfl) rfl (by kernel_rfl) (fun K hK => ?_)
      go_simp
      refine hK.out _ _ ?_
      clear hK K hHeld
      (try simp only [Act.put, List.setIfInBounds_toArray, List.set_cons_zero, List.set_cons_succ])
      exact QF.out
    case done =>
      rintro D' ys W hD rfl hI hK
      obtain ⟨⟨a, n, c, hE⟩, _, _⟩ := hI
      have c0 := cellOf hE.p 0
      simp only [List.getElem?_toArray, List.getElem?_cons_zero] at c0
      have HK := hid hK
      have HE := hid hE
      clear hseq hK hE hKp
      gi_wp2
      refine ⟨by simp, .inl ⟨_, _, rfl, run_takeDeferred HK.out, ?_⟩⟩
      refine ⟨_, by simp [results, Tryz.results8, go_sem]; rfl, ?_⟩
      have hk := HE.out.keep hwV (grownBy_putObj' _ D' (.deferred none)) (fun r e => by cases e; exact ⟨hD, _, HK.out, rfl⟩)
      exact ⟨hk.b, .inr ⟨HOK.out, _, rfl, by rw [ENC.out]; exact hk.r⟩⟩
    case stop =>
      rintro D' cc pre W hD _ hf
      exact hf.elim
end Go.Proofs.YthnolocldeokeaaGreat

namespace Go.Proofs.YthnolocldeokeaaGreat
open Go.RowKit Go.Deep Go.Shelf
set_option linter.unusedVariables false
set_option linter.unusedSimpArgs false
set_option maxRecDepth 100000
theorem crd_of {w : World} {X : Nat} {E : TypeId} {k : Nat} (rows : List (List Value)) (h : w.heap[X]? = some (.cells rows.flatten.toArray E (0, 0))) (hk : ∀ r ∈ rows, r.length = k) : CRd w (some ⟨X, 0, none⟩) k rows := fun j r e => ⟨X, 0, rfl, lt_of_heap h, fun i hi => by
  rw [cellOf h, Nat.zero_add, List.getElem?_toArray]
  exact flat_at hk j r e i hi⟩
theorem crd_ord {w : World} {a : Option Addr} {l : List Opx} (h : CRd w a 5 (l.map fun o => o.cs.toList)) : ORd w a l := fun j x hx => by
  obtain ⟨b, off, e, _, hc⟩ := h j x.cs.toList (by rw [List.getElem?_map, hx]; rfl)
  exact ⟨b, off, e, fun i hi => by rw [hc i hi]; exact Array.getElem?_toList⟩
def kFx : Fx := ⟨0, [⟨35, 0, 0, 0, 0⟩, ⟨40, 0, -1, 0, 0⟩]⟩
def kSe : Sg := ⟨⟨#[101]⟩, [], (0, 0)⟩
def kSf : Sg := ⟨⟨#[102]⟩, [(1, 0), (1, 0)], (0, 0)⟩
def kPf (X : Nat) : Pg := ⟨[], [], [((⟨⟨#[102]⟩, some ⟨X, 0, none⟩, 2, 2, 0, 0⟩ : GH), kSf)], []⟩
def kCx : Cx := ⟨⟨[], [], [], [((⟨⟨#[101]⟩, none, 0, 0, 0, 0⟩ : GH), kSe)]⟩, 0, [], [], [kFx]⟩
def kBs : List Nat := [0, 0, 0, 1, 1, 101, 0, 0, 0, 0, 0, 0, 2, 70, 80, 1]
theorem kCx_is : isB kCx = true := by kernel_rfl
theorem kCx_enc : encC kCx [] = kBs := by kernel_rfl
theorem kPf_len (X : Nat) : rowLen (shpAt 31).k (kPf X) 0 = (((2 : Nat) : Int), true) := by kernel_rfl
theorem kUs : usL 2 (shpAt 31) ⟨31, -1, 3, 0, 0⟩ = [3, 4] := by kernel_rfl
theorem kDeS : DeS [] [] [] [kSe] [] [] [] [kFx] := by
  refine ⟨?_, ?_, ?_, ?_, ?_, ?_, ?_, ?_, ?_, ?_, ?_, ?_, ?_, ?_⟩ <;> simp [kSe, kFx]
theorem kDec (SO : ShapeC) (w : World) (a : Option Addr) (n c : Nat) (hb : Rd w (.slice a n c) kBs) (ho : ∀ k, (Value.slice a n c).ownBlock = some k → k < w.heap.size) : Calls Tryz.prog 10 #[.slice a n c] w fun e w' => Below w.heap.size w w' ∧ ∃ C cx fl el, e = .returned (.tuple #[C.v, .int .i64 0]) ∧ CEq kCx cx ∧ CdRd w' C cx fl el ∧ JRd w' C.ia [] ∧ C.inn = 0 := by
  have h := decode_go SO w a n c kBs hb (by simp [kBs]) ho [] [] [] [kSe] [] [] [] [kFx] (some kBs) (some [0, 0, 1, 1, 101, 0, 0, 0, 0, 0, 0, 2, 70, 80, 1]) (some [0, 1, 1, 101, 0, 0, 0, 0, 0, 0, 2, 70, 80, 1]) (some [1, 1, 101, 0, 0, 0, 0, 0, 0, 2, 70, 80, 1]) (some [0, 0, 0, 2, 70, 80, 1]) (some [0, 0, 2, 70, 80, 1]) (some [0, 2, 70, 80, 1]) (some [0, 2, 70, 80, 1]) (some []) rfl (by kernel_rfl) (by kernel_rfl) (by kernel_rfl) (by kernel_rfl) (by kernel_rfl) (by kernel_rfl) (by kernel_rfl) (by kernel_rfl) (fun _ => kDeS) (by simp) (by simp)
  refine h.mono ?_
  rintro e w' ⟨hbl, h | h⟩
  · obtain ⟨_, C, cx, fl, el, he, _, d, hc, hj, hn⟩ := h
    exact ⟨hbl, C, cx, fl, el, he, ⟨⟨d.r.symm, d.m.symm, d.f.symm, d.e.symm⟩, d.t.symm, d.F.symm, d.E.symm⟩, hc, hj, hn⟩
  · obtain ⟨c', d, hf⟩ := h.1 rfl
    have : isB c' = isB kCx := isB_of ⟨d.r, d.m, d.f, d.e⟩ d.i d.t d.F d.E
    rw [hf, kCx_is] at this
    cases this
theorem srd_nil (w : World) : SRd w none [] := fun j s h => by simp at h
theorem kPRd {w : World} {X : Nat} (m0 : w.heap[X]? = some (.cells #[.int .i64 1, .int .i64 0, .int .i64 1, .int .i64 0] 46 (0, 0))) (m1 : w.heap[X + 1]? = some (.cells #[.string ⟨#[102]⟩, .slice (some ⟨X, 0, none⟩) 2 2, .int .i64 0, .int .i64 0] 49 (0, 0))) : PRd w ⟨none, 0, 0, none, 0, 0, some ⟨X + 1, 0, none⟩, 1, 1, none, 0, 0⟩ (kPf X) := by
  have tr : TRd w (some ⟨X, 0, none⟩) [(1, 0), (1, 0)] := CRd.trd (crd_of [[.int .i64 1, .int .i64 0], [.int .i64 1, .int .i64 0]] m0 (by simp))
  refine ⟨⟨rfl, by simp, fun j r h => by simp [kPf] at h, fun p hp => by simp [kPf] at hp⟩, ⟨rfl, by simp, fun j r h => by simp [kPf] at h, fun p hp => by simp [kPf] at hp⟩, ⟨rfl, by simp, crd_of [[.string ⟨#[102]⟩, .slice (some ⟨X, 0, none⟩) 2 2, .int .i64 0, .int .i64 0]] m1 (by simp), fun p hp => ?_⟩, ⟨rfl, by simp, fun j r h => by simp [kPf] at h, fun p hp => by simp [kPf] at hp⟩⟩
  simp [kPf] at hp
  subst hp
  exact ⟨rfl, of_decide_eq_true (by kernel_rfl), rfl, by simp, tr, rfl⟩
theorem kCd {w : World} {Y : Nat} (m0 : w.heap[Y]? = some (.cells #[.string ⟨#[101]⟩, .slice none 0 0, .int .i64 0, .int .i64 0] 49 (0, 0))) (m1 : w.heap[Y + 1]? = some (.cells #[.int .i64 35, .int .i64 0, .int .i64 0, .int .i64 0, .int .i64 0, .int .i64 40, .int .i64 0, .int .i64 (-1), .int .i64 0, .int .i64 0] 54 (0, 0))) (m2 : w.heap[Y + 1 + 1]? = some (.cells #[.int .i64 0, .slice (some ⟨Y + 1, 0, none⟩) 2 2] 57 (0, 0))) :
    CdRd w ⟨⟨none, 0, 0, none, 0, 0, none, 0, 0, some ⟨Y, 0, none⟩, 1, 1⟩, none, 0, 0, none, 0, 0, none, 0, 0, some ⟨Y + 1 + 1, 0, none⟩, 1, 1⟩ kCx [] [((⟨0, some ⟨Y + 1, 0, none⟩, 2, 2⟩ : FH), kFx)] := by
  have oR : ORd w (some ⟨Y + 1, 0, none⟩) kFx.ops := crd_ord (crd_of [[.int .i64 35, .int .i64 0, .int .i64 0, .int .i64 0, .int .i64 0], [.int .i64 40, .int .i64 0, .int .i64 (-1), .int .i64 0, .int .i64 0]] m1 (by simp))
  refine ⟨⟨⟨rfl, by simp, fun j r h => by simp [kCx] at h, fun p hp => by simp [kCx] at hp⟩, ⟨rfl, by simp, fun j r h => by simp [kCx] at h, fun p hp => by simp [kCx] at hp⟩, ⟨rfl, by simp, fun j r h => by simp [kCx] at h, fun p hp => by simp [kCx] at hp⟩, ⟨rfl, by simp, crd_of [[.string ⟨#[101]⟩, .slice none 0 0, .int .i64 0, .int .i64 0]] m0 (by simp), fun p hp => ?_⟩⟩, rfl, by simp, rfl, by simp, srd_nil w, ⟨rfl, by simp, fun j r h => by simp at h, fun p hp => by simp at hp⟩, rfl, ⟨rfl, by simp, crd_of [[.int .i64 0, .slice (some ⟨Y + 1, 0, none⟩) 2 2]] m2 (by simp), fun p hp => ?_⟩, rfl⟩
  · simp [kCx] at hp
    subst hp
    exact ⟨rfl, of_decide_eq_true (by kernel_rfl), rfl, by simp, fun j t h => by simp [kSe] at h, rfl⟩
  · simp at hp
    subst hp
    exact ⟨rfl, rfl, by simp, oR⟩
theorem jrd_nil (w : World) (a : Option Addr) : JRd w a [] := fun j r h => by simp at h
end Go.Proofs.YthnolocldeokeaaGreat

namespace Go.Proofs.YthnolocldeokeaaGreat
open Go.RowKit Go.Deep Go.Shelf
set_option linter.unusedVariables false
set_option linter.unusedSimpArgs false
set_option maxRecDepth 100000
def PMp (m : Mp) : Prop := m.name.size ≤ 64 ∧ PT m.key ∧ PT m.val
/- What is read may be written. -/
structure AllP (rs : List Rc) (ms : List Mp) (fs es : List Sg) (is : List Int) (ts : List ByteArray) (F E : List Fx) : Prop where
  r : rs.length ≤ 16 ∧ ∀ x ∈ rs, PRc x
  m : ms.length ≤ 16 ∧ ∀ x ∈ ms, PMp x
  f : fs.length ≤ 16 ∧ ∀ x ∈ fs, PSg x
  e : es.length ≤ 16 ∧ ∀ x ∈ es, PSg x
  i : is.length ≤ 1000 ∧ ∀ x ∈ is, inR x
  t : ts.length ≤ 1000 ∧ ∀ x ∈ ts, x.size ≤ 64
  F1 : F.length = fs.length
  F2 : ∀ x ∈ F, PFx x
  E1 : E.length = es.length
  E2 : ∀ x ∈ E, PFx x
def encAll (rs : List Rc) (ms : List Mp) (fs es : List Sg) (is : List Int) (ts : List ByteArray) (F E : List Fx) : List Nat := encRcs rs ++ encMps ms ++ encSgs fs ++ encSgs es ++ encIns is ++ encSs ts ++ ((F ++ E).map encFx).flatten
theorem encC_all (c : Cx) (xs : List Int) : encC c xs = encAll (c.p.recs.map (·.2)) c.p.maps (c.p.funcs.map (·.2)) (c.p.events.map (·.2)) xs c.texts c.funcs c.events := rfl
theorem encAll_eq (rs : List Rc) (ms : List Mp) (fs es : List Sg) (is : List Int) (ts : List ByteArray) (F E : List Fx) (m : List Nat) : encAll rs ms fs es is ts F E ++ m = encRcs rs ++ (encMps ms ++ (encSgs fs ++ (encSgs es ++ (encIns is ++ (encSs ts ++ ((F.map encFx).flatten ++ ((E.map encFx).flatten ++ m))))))) := by
  simp [encAll]
theorem tRcs : Trip (rL rRc 16) encRcs (fun l => l.length ≤ 16 ∧ ∀ x ∈ l, PRc x) := tripRc.list 16 (by omega)
theorem tMps : Trip (rL rMp 16) encMps (fun l => l.length ≤ 16 ∧ ∀ x ∈ l, PMp x) := tripMp.list 16 (by omega)
theorem tSgs : Trip (rL rSg 16) encSgs (fun l => l.length ≤ 16 ∧ ∀ x ∈ l, PSg x) := tripSg.list 16 (by omega)
theorem tIns : Trip (rL rI 1000) encIns (fun l => l.length ≤ 1000 ∧ ∀ x ∈ l, inR x) := tripI.list 1000 (by omega)
theorem tSs : Trip (rL rT 1000) encSs (fun l => l.length ≤ 1000 ∧ ∀ x ∈ l, x.size ≤ 64) := tripT.list 1000 (by omega)
theorem Trip.some {α : Type} {r : Option (List Nat) → α × Option (List Nat)} {e : α → List Nat} {P : α → Prop} (h : Trip r e P) {s : Option (List Nat)} {x : α} {b : List Nat} (q : r s = (x, .some b)) : ∃ bs, s = .some bs := by
  cases s with
  | none => have := h.no; rw [q] at this; cases this
  | some bs => exact ⟨bs, rfl⟩
theorem ln_some {α : Type} {r : Option (List Nat) → α × Option (List Nat)} {n : Nat} {s : Option (List Nat)} {x : List α} {b : List Nat} (q : rLn r n s = (x, some b)) : ∃ bs, s = some bs := by
  cases s with
  | none => have := rLn_from (one := r) n; rw [q] at this; cases this
  | some bs => exact ⟨bs, rfl⟩
theorem chain_bk {bs : List Nat} (hB : Byt bs) {rs : List Rc} {ms : List Mp} {fs es : List Sg} {is : List Int} {ts : List ByteArray} {F E : List Fx} {s1 s2 s3 s4 s5 s6 s7 : Option (List Nat)} {m : List Nat}
    (q0 : rL rRc 16 (some bs) = (rs, s1)) (q1 : rL rMp 16 s1 = (ms, s2)) (q2 : rL rSg 16 s2 = (fs, s3)) (q3 : rL rSg 16 s3 = (es, s4)) (q4 : rL rI 1000 s4 = (is, s5)) (q5 : rL rT 1000 s5 = (ts, s6)) (q6 : rLn rFn fs.length s6 = (F, s7)) (q7 : rLn rFn es.length s7 = (E, some m)) :
    bs = encAll rs ms fs es is ts F E ++ m ∧ AllP rs ms fs es is ts F E := by
  obtain ⟨b7, rfl⟩ := ln_some q7
  obtain ⟨b6, rfl⟩ := ln_some q6
  obtain ⟨b5, rfl⟩ := tSs.some q5
  obtain ⟨b4, rfl⟩ := tIns.some q4
  obtain ⟨b3, rfl⟩ := tSgs.some q3
  obtain ⟨b2, rfl⟩ := tSgs.some q2
  obtain ⟨b1, rfl⟩ := tMps.some q1
  obtain ⟨e0, p0⟩ := tRcs.bk _ _ _ hB q0
  have h1 : Byt b1 := by rw [e0] at hB; exact hB.tail
  obtain ⟨e1, p1⟩ := tMps.bk _ _ _ h1 q1
  have h2 : Byt b2 := by rw [e1] at h1; exact h1.tail
  obtain ⟨e2, p2⟩ := tSgs.bk _ _ _ h2 q2
  have h3 : Byt b3 := by rw [e2] at h2; exact h2.tail
  obtain ⟨e3, p3⟩ := tSgs.bk _ _ _ h3 q3
  have h4 : Byt b4 := by rw [e3] at h3; exact h3.tail
  obtain ⟨e4, p4⟩ := tIns.bk _ _ _ h4 q4
  have h5 : Byt b5 := by rw [e4] at h4; exact h4.tail
  obtain ⟨e5, p5⟩ := tSs.bk _ _ _ h5 q5
  have h6 : Byt b6 := by rw [e5] at h5; exact h5.tail
  obtain ⟨l6, e6, p6⟩ := ln_bk tripFn _ _ _ _ h6 q6
  have h7 : Byt b7 := by rw [e6] at h6; exact h6.tail
  obtain ⟨l7, e7, p7⟩ := ln_bk tripFn _ _ _ _ h7 q7
  exact ⟨by rw [encAll_eq, ← e7, ← e6, ← e5, ← e4, ← e3, ← e2, ← e1, ← e0], ⟨p0, p1, p2, p3, p4, p5, l6, p6, l7, p7⟩⟩
theorem AllP.des {rs : List Rc} {ms : List Mp} {fs es : List Sg} {is : List Int} {ts : List ByteArray} {F E : List Fx} (h : AllP rs ms fs es is ts F E) : DeS rs ms fs es is ts F E := by
  obtain ⟨⟨r1, r2⟩, ⟨m1, m2⟩, ⟨f1, f2⟩, ⟨e1, e2⟩, ⟨i1, i2⟩, ⟨t1, t2⟩, F1, F2, E1, E2⟩ := h
  exact ⟨by omega, by omega, fun m hm => by have := (m2 m hm).1; omega, by omega, fun s hs => by have := (f2 s hs).2.1.1; omega, by omega, fun s hs => by have := (e2 s hs).2.1.1; omega, by omega, by omega, fun s hs => by have := t2 s hs; omega, by omega, fun x hx => by have := (F2 x hx).2.1; omega, by omega, fun x hx => by have := (E2 x hx).2.1; omega⟩
/- Code that may be comes back from its bytes. -/
/- Whatever bytes: what is read of them may be and has just these bytes, or they are refused. -/
theorem decode_any (SO : ShapeC) (w : World) (a : Option Addr) (n c : Nat) (bs : List Nat) (hb : Rd w (.slice a n c) bs) (hl : bs.length ≤ 1000000000) (ho : ∀ k, (Value.slice a n c).ownBlock = some k → k < w.heap.size) :
    Calls Tryz.prog 10 #[.slice a n c] w fun e w' => Below w.heap.size w w' ∧ (e = .returned (.tuple #[zeroC, .int .i64 90]) ∨ ∃ C cy fl el xs, e = .returned (.tuple #[C.v, .int .i64 0]) ∧ isB cy = true ∧ xs.length = cy.ints ∧ (∀ x ∈ xs, inR x) ∧ bs = encC cy xs ∧ CdRd w' C cy fl el ∧ JRd w' C.ia xs ∧ C.inn = xs.length) := by
  have hB : Byt bs := by obtain ⟨_, _, _, _, h, _⟩ := hb; exact h
  rcases q0 : rL rRc 16 (some bs) with ⟨rs, s1⟩
  rcases q1 : rL rMp 16 s1 with ⟨ms, s2⟩
  rcases q2 : rL rSg 16 s2 with ⟨fs, s3⟩
  rcases q3 : rL rSg 16 s3 with ⟨es, s4⟩
  rcases q4 : rL rI 1000 s4 with ⟨is, s5⟩
  rcases q5 : rL rT 1000 s5 with ⟨ts, s6⟩
  rcases q6 : rLn rFn fs.length s6 with ⟨F, s7⟩
  rcases q7 : rLn rFn es.length s7 with ⟨E, s8⟩
  have lf : fs.length ≤ 16 := by have := rL_len rSg 16 s2; rw [q2] at this; exact this
  have le : es.length ≤ 16 := by have := rL_len rSg 16 s3; rw [q3] at this; exact this
  have h := decode_go SO w a n c bs hb hl ho rs ms fs es is ts F E (some bs) s1 s2 s3 s4 s5 s6 s7 s8 rfl q0 q1 q2 q3 q4 q5 q6 q7 (fun hs => by
    obtain ⟨m, rfl⟩ := Option.ne_none_iff_exists'.1 hs
    exact (chain_bk hB q0 q1 q2 q3 q4 q5 q6 q7).2.des) lf le
  refine h.mono ?_
  rintro e w' ⟨hbl, h | h⟩
  · obtain ⟨rfl, C, cy, fl, el, he, hi, d, hc, hj, hn⟩ := h
    obtain ⟨k1, k2⟩ := chain_bk hB q0 q1 q2 q3 q4 q5 q6 q7
    refine ⟨hbl, .inr ⟨C, cy, fl, el, is, he, hi, d.i.symm, k2.i.2, ?_, hc, hj, hn⟩⟩
    rw [k1, List.append_nil, encC_all, d.r, d.m, d.f, d.e, d.t, d.F, d.E]
  · exact ⟨hbl, .inl h.2⟩
end Go.Proofs.YthnolocldeokeaaGreat

