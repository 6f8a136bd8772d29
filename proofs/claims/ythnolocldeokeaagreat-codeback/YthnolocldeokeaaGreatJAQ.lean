/- Drawn regions within a round; a round that makes one box. -/
import Derived.Test.YthnolocldeokeaaGreatJAP
import Derived.OrdersIn
namespace Go.Proofs.YthnolocldeokeaaGreat
open Go.RowKit Go.Deep Go.Shelf
set_option linter.unusedVariables false
set_option linter.unusedSimpArgs false
section
variable {P : Program} {ops : Array Oper} {Q : Exit → Act → World → Prop} {md : Region.Mode} {l n : Nat}
theorem rowsIn_round {row : String} {args : Array Value} {w : World} {R : Value → World → Prop} (h : Go.Rows P row args w R) : RowsIn (Fence.wide.inRound l) n P row args w R := fun c cs _ => by
  obtain ⟨v, w', r, s⟩ := h c cs
  exact ⟨v, w', r, stepsIn_wide.2 s⟩
theorem oper_round {o : Oper} (hd : ∀ c, o.op ≠ .defer c) {a : Act} {w : World} {K : Act → World → Prop} (h : o.wp P a w K Q) : o.wpIn (Fence.wide.inRound l) n P a w K Q := by
  refine ⟨fun f _ => trivial, ?_⟩
  rw [show (Fence.wide.inRound l).round = some l from rfl, Oper.semAt_some l a.eval o hd]
  unfold Oper.wp at h
  generalize (execOp a.eval o).run P w = r at *
  cases r with
  | ok x w' =>
    cases x <;> simp only [Oper.upon, Oper.uponIn] at h ⊢
    case value => exact h
    case skip => exact h
    case defer => exact h
    case enter f args => exact ⟨fun e => by simp [Fence.wide] at e, callsIn_wide.2 h⟩
    case row row args => exact ⟨fun e => by simp [Fence.wide] at e, rowsIn_round h⟩
  | halt x w' => cases x <;> simp only [Oper.upon, Oper.uponIn] at h ⊢; exact h
theorem any_round (hd : ∀ (i : Nat) (o : Oper), ops[i]? = some o → ∀ c, o.op ≠ .defer c) (hL : ¬ LetsOut Q) : ∀ (fuel : Nat) (listed : Array Bool) (a : Act) (w : World), wpAny P md ops Q fuel listed a w → wpAnyIn (Fence.wide.inRound l) n P md ops Q fuel listed a w
  | 0, listed, a, w, h => h
  | fuel + 1, listed, a, w, h => ⟨h.1, fun i hi => by
    have h1 := wpOp_mono (any_round hd hL fuel (listed.setIfInBounds i true)) (h.2 i hi)
    unfold wpOp at h1
    unfold wpOpIn
    cases ho : ops[i]? with
    | none => simp only [ho] at h1 ⊢; exact h1
    | some o =>
      simp only [ho] at h1 ⊢
      split
      · rename_i hw
        rw [if_pos hw] at h1
        rcases h1 with h1 | h1
        · exact oper_round (hd i o ho) h1
        · exact absurd h1.2 hL
      · rename_i hw
        rw [if_neg hw] at h1
        exact ⟨fun f _ => trivial, h1⟩⟩
theorem wpIn_region_roundI {id : Nat} {a : Act} {w : World} (L : Nat) (S : World → Prop) (hm : P.follows .mixedOrders = true) (hd : ∀ (i : Nat) (o : Oper), ops[i]? = some o → ∀ c, o.op ≠ .defer c) (hL : ¬ LetsOut Q) (hS : S w.drew)
    (h : S w.drew → wpAnyI P .any ops Q L S ops.size (Array.replicate ops.size false) a w.drew) : (Code.region id ops true).wpIn (Fence.wide.inRound l) n P Q a w :=
  wpIn_region_any hm (any_round hd hL _ _ _ _ (wpAny_of_I _ _ _ _ (h hS)))
end
theorem nodefer {ops : Array Oper} (h : (ops.all fun o => match o.op with | .defer _ => false | _ => true) = true) : ∀ (i : Nat) (o : Oper), ops[i]? = some o → ∀ c, o.op ≠ .defer c := fun i o hi c e => by
  obtain ⟨h1, h2⟩ := Array.getElem?_eq_some_iff.1 hi
  have h3 := (Array.all_eq_true.1 h) i h1
  rw [h2, e] at h3
  cases h3
theorem range_box1 {α : Type} {F : Fence} {n : Nat} {P : Program} {g : Operand} {p1 p2 : Tmp} {assign body : Code} {Q : Exit → Act → World → Prop} {a : Act} {w : World}
    (hro : F.round = none) (h1 : 1 ≤ n) {gf : Nat} {lb : Array Value} (hg : a.eval g = .func (.func gf) #[] lb) (hFg : F.fn gf) (eg : ∀ args w, (callFunc gf args).run P w = .ok (.enter gf args) w)
    {enc1 enc2 : α → Value} {Kp : World → World → Prop} {S Sp : List α → Prop} {N : Nat} (hseq : SeqStopsK F (n - 1) P gf lb (fun x => #[enc1 x, enc2 x]) Kp S Sp N w)
    (hKt : ∀ {A B C : World}, Kp A B → Kp B C → Kp A C) (hKb : ∀ (W : World) (l : Nat) (o o' : Obj), w.heap.size ≤ l → W.heap[l]? = some o → o.isCells = false → o.isWalk = false → Kp W (W.putObj l o'))
    (c2 : α → Array Value) (t2 : TypeId)
    (I : List α → World → Prop) (Ix : Code → List α → World → Prop) (hI : OwnFrom w.heap.size I) (hIx : ∀ c, OwnFrom w.heap.size (Ix c)) (h0 : I [] w)
    (hKp : ∀ pre W W', I pre W → Below W.heap.size W W' → Kp W W' ∧ I pre W')
    (hround : ∀ (l : Nat) (x : α) (W : World) (K : Act → World → Prop), (∀ (a' : Act) (W' : World) (Y : Nat), Below W.heap.size W W' → W'.heap[Y]? = some (Obj.cells (c2 x) t2 (0, 0)) → (∀ (l' : Nat) (pre : List α) (W' : World), w.heap.size ≤ l' → (∃ r, W'.heap[l']? = some (.loop r)) → I pre W' → pre.length < N → W'.heap[Y]? = some (Obj.cells (c2 x) t2 (0, 0)) → body.wpIn (F.inRound l') (n - 1 - 1) P (ownPostG w.heap.size Kp I Ix (pre ++ [x]) W') a' W') → K a' W') →
      assign.wpIn (F.inRound l) (n - 1 - 1) P (Exit.then K (fun _ _ _ => False)) { tmps := (a.tmps.setIfInBounds p1 (enc1 x)).setIfInBounds p2 (enc2 x), defers := [] } W)
    (hdone : ∀ (D : Nat) (xs : List α) (W : World), w.heap.size ≤ D → S xs → I xs W → W.heap[D]? = some (.deferred (some [])) → Q .normal { a with defers := { target := .collected D, args := #[] } :: a.defers } W)
    (hstop : ∀ (D : Nat) (c : Code) (pre : List α) (W : World), w.heap.size ≤ D → Sp pre → Ix c pre W → W.heap[D]? = some (.deferred (some [])) → c.wpIn F n P Q { a with defers := { target := .collected D, args := #[] } :: a.defers } W) :
    (Code.rangeFunc g #[p1, p2] assign body).wpIn F n P Q a w := by
  refine wpIn_rangeFunc_ownH hro h1 hg hFg eg hseq hKt hKb (Below.refl _ _) (fun _ => rfl) I Ix hI hIx h0 (fun x a' W => ∃ Y : Nat, W.heap[Y]? = some (Obj.cells (c2 x) t2 (0, 0)) ∧ ∀ (l' : Nat) (pre : List α) (W' : World), w.heap.size ≤ l' → (∃ r, W'.heap[l']? = some (.loop r)) → I pre W' → pre.length < N → W'.heap[Y]? = some (Obj.cells (c2 x) t2 (0, 0)) → body.wpIn (F.inRound l') (n - 1 - 1) P (ownPostG w.heap.size Kp I Ix (pre ++ [x]) W') a' W') (fun x a' _ A B row hs hg hr => by
      obtain ⟨Y, e2, hb⟩ := hs
      exact ⟨Y, keep_cells e2 hg hr, hb⟩) ?_ ?_ hdone hstop
  · intro l pre x W K hi hK
    rw [zip2]
    exact hround l x W K (fun a' W' Y hb e2 hbd => hK a' W' (keepsFrom_below hb) (hKp pre W W' hi hb).1 (hKp pre W W' hi hb).2 ⟨Y, e2, hbd⟩)
  · intro l pre x a' W hl hr hi hA hlt
    obtain ⟨Y, e2, hb⟩ := hA
    exact hb l pre W hl hr hi hlt e2
end Go.Proofs.YthnolocldeokeaaGreat

namespace Go.Proofs.YthnolocldeokeaaGreat
open Go.RowKit Go.Deep Go.Shelf
set_option linter.unusedVariables false
set_option linter.unusedSimpArgs false
set_option maxRecDepth 100000
attribute [local go_sem] Oper.semAt_some
structure ES (w : World) (c8 : Array Value) (Pb : Nat) (W : World) (u : Value) (ys : List Nat) : Prop where
  x : W.heap[w.heap.size]? = some (.cells c8 31 (0, 0))
  p : W.heap[Pb]? = some (.cells #[u] 34 (0, 0))
  r : Row W w.heap.size u ys
  b : Below w.heap.size w W
  ne : w.heap.size < Pb
theorem ES.step {w : World} {c8 : Array Value} {Pb : Nat} {W W1 : World} {u u1 : Value} {ys zs : List Nat} (h : ES w c8 Pb W u ys) (hg : Grw W u W1 u1) (hr : Row W1 w.heap.size u1 zs) : ES w c8 Pb (W1.setCell ⟨Pb, 0, none⟩ u1) u1 zs ∧ W1.cell? ⟨Pb, 0, none⟩ = some u ∧ W1.frozen? ⟨Pb, 0, none⟩ = false := by
  have k1 := (hg.1.block Pb (lt_of_heap h.p) (h.r.ne h.p (by decide))).trans h.p
  have kx := (hg.1.block _ (lt_of_heap h.x) (h.r.ne h.x (by decide))).trans h.x
  have hne := h.ne
  refine ⟨⟨(Below.heap_setCell _ ⟨Pb, 0, none⟩ _ _ (show w.heap.size ≠ Pb by omega)).trans kx, set_cells k1 _, hr.same fun g e => Below.heap_setCell _ ⟨Pb, 0, none⟩ _ _ (show g ≠ Pb from fun e2 => by
    have h9 := hr.ne k1 (by decide)
    rw [← e2] at h9; exact h9 e.symm), (h.b.trans (hg.below h.r h.b.size)).setCell (p := ⟨Pb, 0, none⟩) (by show w.heap.size ≤ Pb; omega) _, hne⟩, cellOf k1 0, freeOf k1 0⟩
theorem ES.below {w : World} {c8 : Array Value} {Pb : Nat} {W W1 : World} {u : Value} {ys : List Nat} (h : ES w c8 Pb W u ys) (k : Below W.heap.size W W1) : ES w c8 Pb W1 u ys := ⟨(k.block _ (lt_of_heap h.x)).trans h.x, (k.block _ (lt_of_heap h.p)).trans h.p, h.r.below (Nat.le_refl _) k, h.b.trans (k.mono h.b.size), h.ne⟩
theorem ES.keep {w : World} {c8 : Array Value} {Pb : Nat} {W W1 : World} {u : Value} {ys : List Nat} {row : Option Nat} {C : Nat} (h : ES w c8 Pb W u ys) (hC : w.heap.size ≤ C) (hg : W.grownBy W1 row) (hr : ∀ r, row = some r → C ≤ r ∧ ∃ o : Obj, W.heap[r]? = some o ∧ o.isCells = false) : ES w c8 Pb W1 u ys := ⟨keep_cells h.x hg hr, keep_cells h.p hg hr, row_keeps h.r hg hr, h.b.grown hg h.b.size (fun k e => by have := (hr k e).1; omega), h.ne⟩
structure EI (w V : World) (c8 : Array Value) (Pb Bx : Nat) {m : Nat} (base : List Nat) (f : Fin m → List Nat) (pre : List (Fin m)) (W : World) : Prop where
  ex : ∃ a n c, ES w c8 Pb W (.slice a n c) (base ++ (pre.map f).flatten)
  bx : W.heap[Bx]? = some (.cells c8 31 (0, 0))
  sz : V.heap.size ≤ W.heap.size
theorem EI_own {w V : World} {c8 : Array Value} {Pb Bx m : Nat} {base : List Nat} {f : Fin m → List Nat} (hV : w.heap.size ≤ V.heap.size) : OwnFrom V.heap.size (EI w V c8 Pb Bx base f) := fun s A A' row hs hg hr => by
  obtain ⟨⟨a, n, c, h1⟩, h2, h3⟩ := hs
  exact ⟨⟨a, n, c, h1.keep hV hg hr⟩, keep_cells h2 hg hr, Nat.le_trans h3 hg.size⟩
theorem zip_snd {α β : Type} : ∀ (l : List α) (m : List β), m.length = l.length → (l.zip m).map (·.2) = m
  | [], [], _ => rfl
  | [], b :: m, h => by simp at h
  | a :: l, [], h => by simp at h
  | a :: l, b :: m, h => by simp only [List.zip_cons_cons, List.map_cons]; rw [zip_snd l m (by simpa using h)]
theorem allZ_map {β : Type} (Z : ZL) (f : (GH × Sg) × (FH × Fx) → β) : (allZ Z).map (fun i => f Z[i.val]) = Z.map f := by
  unfold allZ
  apply List.ext_getElem
  · simp
  · intro i h1 h2
    simp
/- What Encode answers. -/
def EnP (w : World) (c : Cx) (xs : List Int) (e : Ending) (w' : World) : Prop := Below w.heap.size w w' ∧ ((isB c = false ∧ e = .returned (.tuple #[.slice none 0 0, .int .i64 90])) ∨ (isB c = true ∧ ∃ v, e = .returned (.tuple #[v, .int .i64 0]) ∧ Row w' w.heap.size v (encC c xs)))
set_option maxHeartbeats 8000000 in
theorem encode_any (SO : ShapeC) (w : World) (C : CH) (c : Cx) (fs es : List (FH × Fx)) (d : CdRd w C c fs es) (xs : List Int) (jr : JRd w C.ia xs) (jn : C.inn = xs.length) (jx : ∀ x ∈ xs, inR x) :
    Calls Tryz.prog 8 #[C.v] w (EnP w c xs) := by
  have hro : Fence.wide.round = none := rfl
  obtain ⟨W0, hW0⟩ : ∃ W0, W0 = w.alloc (.cells C.cs 31) := ⟨_, rfl⟩
  have b0 : Below w.heap.size w W0 := by rw [hW0]; exact (Below.refl _ _).alloc (Nat.le_refl _) _
  have m0 : W0.heap[w.heap.size]? = some (.cells C.cs 31 (0, 0)) := by rw [hW0]; exact heap_alloc_new w _
  have KI := codeIs_any SO W0 C c fs es (d.below (Nat.le_refl _) b0)
  have GT : Hid (∀ V : World, Below W0.heap.size W0 V → V.heap[w.heap.size]? = some (.cells C.cs 31 (0, 0)) ∧ Below w.heap.size w V) := hid (fun V hV => ⟨(hV.block _ (lt_of_heap m0)).trans m0, b0.trans (hV.mono b0.size)⟩)
  cases hok : isB c with
  | false =>
    rw [hok] at KI
    have KI := hid KI
    have HOK := hid hok
    clear d jr jn jx m0 b0 hok
    obtain ⟨⟨ra, rn, rc, ma, mn, mc, fa, fn, fc, ea, en, ec⟩, ia, inn, ic, ta, tn, tc, ga, gn, gc, ha, hn, hc⟩ := C
    simp only [CH.v, CH.cs] at hW0 GT KI ⊢
    have CL : Hid (∀ V : World, Below W0.heap.size W0 V → V.cell? ⟨w.heap.size, 0, none⟩ = some (.slice ra rn rc) ∧ V.cell? ⟨w.heap.size, 1, none⟩ = some (.slice ma mn mc) ∧ V.cell? ⟨w.heap.size, 2, none⟩ = some (.slice fa fn fc) ∧ V.cell? ⟨w.heap.size, 3, none⟩ = some (.slice ea en ec) ∧ V.cell? ⟨w.heap.size, 4, none⟩ = some (.slice ia inn ic) ∧ V.cell? ⟨w.heap.size, 5, none⟩ = some (.slice ta tn tc) ∧ V.cell? ⟨w.heap.size, 6, none⟩ = some (.slice ga gn gc) ∧ V.cell? ⟨w.heap.size, 7, none⟩ = some (.slice ha hn hc)) := hid (fun V hV => by
      have g := (GT.out V hV).1
      exact ⟨cellOf g 0, cellOf g 1, cellOf g 2, cellOf g 3, cellOf g 4, cellOf g 5, cellOf g 6, cellOf g 7⟩)
    obtain ⟨y0, y1, y2, y3, y4, y5, y6, y7⟩ := CL.out W0 (Below.refl _ _)
    refine (callsIn_wide (n := 6)).1 ?_
    refine callsIn_of_wp_marks Tryz.func8 rfl trivial ?_ hro
    simp only [Tryz.ntmps8, List.size_toArray, List.length_cons, List.length_nil, Nat.reduceAdd, Nat.reduceSub, Array.replicate_succ, Array.replicate_zero, List.push_toArray, List.append_toArray, List.nil_append, List.cons_append]
    gi_wp2_with (refine ⟨trivial, ?_⟩; gi_at_call 17; (rw [← hW0]; refine (callsIn_wide.2 (Hid.out KI)).mono ?_; rintro e w1 ⟨rfl, hb1⟩; have HB1 := hid (GT.out w1 hb1).2; clear hb1))
    exact ⟨_, by simp [results, Tryz.results8, go_sem], HB1.out, .inl ⟨HOK.out, rfl⟩⟩
  | true =>
    rw [hok] at KI
    have KI := hid KI
    have HOK := hid hok
    have sm := is_sm hok
    have hle := encC_le sm (xs := xs) (by rw [← jn]; exact d.i1) jx
    have jl : xs.length ≤ 1000 := by rw [← jn, d.i1]; exact sm.il
    obtain ⟨Z, hZ⟩ : ∃ Z : ZL, Z = c.p.funcs.zip fs ++ c.p.events.zip es := ⟨_, rfl⟩
    have hL1 : fs.length = c.p.funcs.length := by rw [← sm.fl, ← d.fe, List.length_map]
    have hL2 : es.length = c.p.events.length := by rw [← sm.el, ← d.ee, List.length_map]
    have ENC : Hid (encC c xs = encP c xs ++ ((allZ Z).map (fun i => encFx (Z[i.val]).2.2)).flatten) := hid (by
      unfold encC
      rw [allZ_map Z (fun z => encFx z.2.2), hZ, ← d.fe, ← d.ee, List.map_append, List.map_append, List.map_map, List.map_map]
      rw [show (c.p.funcs.zip fs).map (fun z => encFx z.2.2) = fs.map (fun z => encFx z.2) from by
        conv => rhs; rw [← zip_snd c.p.funcs fs hL1, List.map_map]
        rfl]
      rw [show (c.p.events.zip es).map (fun z => encFx z.2.2) = es.map (fun z => encFx z.2) from by
        conv => rhs; rw [← zip_snd c.p.events es hL2, List.map_map]
        rfl]
      rfl)
    have ZS : Hid (∀ i : Fin Z.length, FxSm (Z[i.val]).2.2 ∧ ∀ V : World, Below w.heap.size w V → FnRd V (Z[i.val]).2.1 (Z[i.val]).2.2) := hid (fun i => by
      have hm : Z[i.val] ∈ Z := List.getElem_mem i.isLt
      generalize Z[i.val] = z at hm
      rw [hZ] at hm
      rcases List.mem_append.1 hm with h | h
      · exact ⟨sm.f _ (by rw [← d.fe]; exact List.mem_map.2 ⟨_, (List.of_mem_zip h).2, rfl⟩), fun V hV => (d.f.el _ (List.of_mem_zip h).2).below (Nat.le_refl _) hV⟩
      · exact ⟨sm.e _ (by rw [← d.ee]; exact List.mem_map.2 ⟨_, (List.of_mem_zip h).2, rfl⟩), fun V hV => (d.e.el _ (List.of_mem_zip h).2).below (Nat.le_refl _) hV⟩)
    have KF := hid (fun (V : World) => functions_in Fence.wide 5 trivial hro C V)
    have SQ := hid (fun (V : World) (hV : Below w.heap.size w V) (Bx : Nat) (hx : V.heap[Bx]? = some (.cells C.cs 31 (0, 0))) => functions_stops w V C c fs es d hV Bx hx 5 (by omega) hL1 hL2 Z hZ)
    have HZL : Hid (Z.length ≤ 32) := hid (by rw [hZ, List.length_append, List.length_zip, List.length_zip, hL1, hL2]; have := sm.p.fl; have := sm.p.el; omega)
    have HLE : Hid ((encC c xs).length ≤ 10000000) := hid hle
    have hP : (encP c xs).length ≤ 10000000 := by unfold encC at hle; rw [List.length_append] at hle; omega
    unfold encP at hP
    simp only [List.length_append] at hP
    obtain ⟨L1, hE1⟩ : ∃ L1, L1 = encRcs (c.p.recs.map (·.2)) := ⟨_, rfl⟩
    obtain ⟨L2, hE2⟩ : ∃ L2, L2 = L1 ++ encMps c.p.maps := ⟨_, rfl⟩
    obtain ⟨L3, hE3⟩ : ∃ L3, L3 = L2 ++ encSgs (c.p.funcs.map (·.2)) := ⟨_, rfl⟩
    obtain ⟨L4, hE4⟩ : ∃ L4, L4 = L3 ++ encSgs (c.p.events.map (·.2)) := ⟨_, rfl⟩
    obtain ⟨L5, hE5⟩ : ∃ L5, L5 = L4 ++ encIns xs := ⟨_, rfl⟩
    obtain ⟨L6, hE6⟩ : ∃ L6, L6 = L5 ++ encSs c.texts := ⟨_, rfl⟩
    have hE : encP c xs = L6 := by rw [hE6, hE5, hE4, hE3, hE2, hE1]; rfl
    rw [hE] at ENC
    have K1 := hid (fun (V : World) (hV : Below w.heap.size w V) => (by
      have := appRcs_any w V (.slice none 0 0) [] C.h.ra C.h.rn C.h.rc c.p.recs hV (Row.nil _ _) d.p.r (by rw [d.p.r.n1]; have := sm.p.rl; omega) (by simp only [List.nil_append]; omega) sm.p.r sm.tr
      rw [List.nil_append, ← hE1] at this
      exact this : Calls Tryz.prog 20 #[.slice none 0 0, .slice C.h.ra C.h.rn C.h.rc, .func (.func 21) #[] #[]] V (ApP V w.heap.size (.slice none 0 0) L1)))
    have K2 := hid (fun (V : World) (u : Value) (hV : Below w.heap.size w V) (hr : Row V w.heap.size u L1) => (by
      rw [hE2]; exact appMps_any w V u L1 C.h.ma C.h.mn C.h.mc c.p.maps hV hr d.p.m (by rw [d.p.m.n1]; have := sm.p.ml; omega) (by rw [hE1]; simp only [List.length_append]; omega) sm.p.m sm.tm : Calls Tryz.prog 22 #[u, .slice C.h.ma C.h.mn C.h.mc, .func (.func 23) #[] #[]] V (ApP V w.heap.size u L2)))
    have K3 := hid (fun (V : World) (u : Value) (hV : Below w.heap.size w V) (hr : Row V w.heap.size u L2) => (by
      rw [hE3]; exact appSgs_any w V u L2 C.h.fa C.h.fn C.h.fc c.p.funcs hV hr d.p.f (by rw [d.p.f.n1]; have := sm.p.fl; omega) (by rw [hE2, hE1]; simp only [List.length_append]; omega) sm.p.f sm.tf : Calls Tryz.prog 24 #[u, .slice C.h.fa C.h.fn C.h.fc, .func (.func 25) #[] #[]] V (ApP V w.heap.size u L3)))
    have K4 := hid (fun (V : World) (u : Value) (hV : Below w.heap.size w V) (hr : Row V w.heap.size u L3) => (by
      rw [hE4]; exact appSgs_any w V u L3 C.h.ea C.h.en C.h.ec c.p.events hV hr d.p.e (by rw [d.p.e.n1]; have := sm.p.el; omega) (by rw [hE3, hE2, hE1]; simp only [List.length_append]; omega) sm.p.e sm.te : Calls Tryz.prog 24 #[u, .slice C.h.ea C.h.en C.h.ec, .func (.func 25) #[] #[]] V (ApP V w.heap.size u L4)))
    have K5 := hid (fun (V : World) (u : Value) (hV : Below w.heap.size w V) (hr : Row V w.heap.size u L4) => (by
      rw [hE5]; exact appIns_any w V u L4 C.ia C.inn C.ic xs hV hr jn jr (by rw [jn]; omega) (by rw [hE4, hE3, hE2, hE1]; simp only [List.length_append]; omega) jx : Calls Tryz.prog 26 #[u, .slice C.ia C.inn C.ic, .func (.func 27) #[] #[]] V (ApP V w.heap.size u L5)))
    have K6 := hid (fun (V : World) (u : Value) (hV : Below w.heap.size w V) (hr : Row V w.heap.size u L5) => (by
      rw [hE6]; exact appSs_any w V u L5 C.ta C.tn C.tc c.texts hV hr d.t1 (by rw [d.t1]; have := sm.tl; omega) d.tr (by rw [hE5, hE4, hE3, hE2, hE1]; simp only [List.length_append]; omega) (fun s hs => by have := sm.ts s hs; omega) : Calls Tryz.prog 28 #[u, .slice C.ta C.tn C.tc, .func (.func 29) #[] #[]] V (ApP V w.heap.size u L6)))
    have KO := hid (fun (i : Fin Z.length) (V : World) (u : Value) (ys : List Nat) (hV : Below w.heap.size w V) (hr : Row V w.heap.size u ys) (hl : (ys ++ encOps (Z[i.val]).2.2.ops).length ≤ 100000000) => (by
      have zs := ZS.out i
      have rd := zs.2 w (Below.refl _ _)
      exact appOs_any SO w V u ys (Z[i.val]).2.1.oa (Z[i.val]).2.1.on (Z[i.val]).2.1.oc (Z[i.val]).2.2.ops hV hr rd.on rd.or (by rw [rd.on]; have := zs.1.l; omega) hl zs.1.o : Calls Tryz.prog 31 #[u, .slice (Z[i.val]).2.1.oa (Z[i.val]).2.1.on (Z[i.val]).2.1.oc, .func (.func 33) #[] #[]] V (ApP V w.heap.size u (ys ++ encOps (Z[i.val]).2.2.ops))))
    have ST : Hid (∀ (V V2 : World) (a2 : Option Addr) (n2 c2 : Nat), Below W0.heap.size W0 V → Row V2 w.heap.size (.slice a2 n2 c2) L1 → Below V.heap.size V V2 → ES w C.cs V2.heap.size (V2.alloc (.cells #[.slice a2 n2 c2] 34)) (.slice a2 n2 c2) L1) := hid (fun V V2 a2 n2 c2 hV hr hb => by
      have b2 := hV.trans (hb.mono hV.size)
      have b3 := b2.alloc b2.size (.cells #[.slice a2 n2 c2] 34)
      obtain ⟨g1, g2⟩ := GT.out _ b3
      exact ⟨g1, heap_alloc_new V2 _, hr.alloc _, g2, by have := b2.size; have := lt_of_heap m0; omega⟩)
    have ZV := hid (fun (i : Fin Z.length) => (rfl : encZ Z i = #[fsg (Z[i.val]).1.1, (Z[i.val]).2.1.v]))
    clear d jr jn jx m0 b0 hok sm hle jl hZ hL1 hL2 hP hE hE1 hE2 hE3 hE4 hE5 hE6
    obtain ⟨⟨ra, rn, rc, ma, mn, mc, fa, fn, fc, ea, en, ec⟩, ia, inn, ic, ta, tn, tc, ga, gn, gc, ha, hn, hc⟩ := C
    simp only [CH.v, CH.cs] at hW0 GT KI KF SQ K1 K2 K3 K4 K5 K6 ST ⊢
    have CE : Hid (∀ (Pb : Nat) (W : World) (u : Value) (ys : List Nat), ES w #[.slice ra rn rc, .slice ma mn mc, .slice fa fn fc, .slice ea en ec, .slice ia inn ic, .slice ta tn tc, .slice ga gn gc, .slice ha hn hc] Pb W u ys → W.cell? ⟨w.heap.size, 0, none⟩ = some (.slice ra rn rc) ∧ W.cell? ⟨w.heap.size, 1, none⟩ = some (.slice ma mn mc) ∧ W.cell? ⟨w.heap.size, 2, none⟩ = some (.slice fa fn fc) ∧ W.cell? ⟨w.heap.size, 3, none⟩ = some (.slice ea en ec) ∧ W.cell? ⟨w.heap.size, 4, none⟩ = some (.slice ia inn ic) ∧ W.cell? ⟨w.heap.size, 5, none⟩ = some (.slice ta tn tc) ∧ W.cell? ⟨w.heap.size, 6, none⟩ = some (.slice ga gn gc) ∧ W.cell? ⟨w.heap.size, 7, none⟩ = some (.slice ha hn hc)) := hid (fun Pb W u ys h => by
      have g := h.x
      exact ⟨cellOf g 0, cellOf g 1, cellOf g 2, cellOf g 3, cellOf g 4, cellOf g 5, cellOf g 6, cellOf g 7⟩)
    have CL : Hid (∀ V : World, Below W0.heap.size W0 V → V.cell? ⟨w.heap.size, 0, none⟩ = some (.slice ra rn rc) ∧ V.cell? ⟨w.heap.size, 1, none⟩ = some (.slice ma mn mc) ∧ V.cell? ⟨w.heap.size, 2, none⟩ = some (.slice fa fn fc) ∧ V.cell? ⟨w.heap.size, 3, none⟩ = some (.slice ea en ec) ∧ V.cell? ⟨w.heap.size, 4, none⟩ = some (.slice ia inn ic) ∧ V.cell? ⟨w.heap.size, 5, none⟩ = some (.slice ta tn tc) ∧ V.cell? ⟨w.heap.size, 6, none⟩ = some (.slice ga gn gc) ∧ V.cell? ⟨w.heap.size, 7, none⟩ = some (.slice ha hn hc)) := hid (fun V hV => by
      have g := (GT.out V hV).1
      exact ⟨cellOf g 0, cellOf g 1, cellOf g 2, cellOf g 3, cellOf g 4, cellOf g 5, cellOf g 6, cellOf g 7⟩)
    obtain ⟨y0, y1, y2, y3, y4, y5, y6, y7⟩ := CL.out W0 (Below.refl _ _)
    refine (callsIn_wide (n := 6)).1 ?_
    refine callsIn_of_wp_marks Tryz.func8 rfl trivial ?_ hro
    simp only [Tryz.ntmps8, List.size_toArray, List.length_cons, List.length_nil, Nat.reduceAdd, Nat.reduceSub, Array.replicate_succ, Array.replicate_zero, List.push_toArray, List.append_toArray, List.nil_append, List.cons_append]
    gi_wp2_with (refine ⟨trivial, ?_⟩; first
      | (gi_at_call 17; (rw [← hW0]; refine (callsIn_wide.2 (Hid.out KI)).mono ?_; rintro e w1 ⟨rfl, hb1⟩; have HB1 := hid hb1; clear y0 y1 y2 y3 y4 y5 y6 y7; obtain ⟨y0, y1, y2, y3, y4, y5, y6, y7⟩ := CL.out w1 hb1; clear hb1))
      | (gi_at_call 20; (refine (callsIn_wide.2 (K1.out w1 (GT.out w1 HB1.out).2)).mono ?_; rintro e w2 ⟨v2, rfl, hr, hg⟩; obtain ⟨a2, c2, hu, _⟩ := hr.form; obtain ⟨n2, hn2⟩ : ∃ q, q = L1.length := ⟨_, rfl⟩; rw [← hn2] at hu; clear hn2; subst hu; have E2 := hid (ST.out w1 w2 a2 n2 c2 HB1.out hr hg.nil); clear hr hg y0 y1 y2 y3 y4 y5 y6 y7; obtain ⟨y0, y1, y2, y3, y4, y5, y6, y7⟩ := CE.out _ _ _ _ E2.out))
      | ((gi_at_call 22; (refine (callsIn_wide.2 (K2.out _ _ E2.out.b E2.out.r)).mono ?_; rintro e w3 ⟨v3, rfl, hr, hg⟩; obtain ⟨a3, c3, hu, _⟩ := hr.form; obtain ⟨n3, hn3⟩ : ∃ q, q = L2.length := ⟨_, rfl⟩; rw [← hn3] at hu; clear hn3; subst hu; obtain ⟨e1, p0, p1⟩ := E2.out.step hg hr; have E3 := hid e1; clear hr hg e1 y0 y1 y2 y3 y4 y5 y6 y7; obtain ⟨y0, y1, y2, y3, y4, y5, y6, y7⟩ := CE.out _ _ _ _ E3.out; skip)))
      | (have hno := hs3; (gi_at_call 24; (refine (callsIn_wide.2 (K4.out _ _ E4.out.b E4.out.r)).mono ?_; rintro e w5 ⟨v5, rfl, hr, hg⟩; obtain ⟨a5, c5, hu, _⟩ := hr.form; obtain ⟨n5, hn5⟩ : ∃ q, q = L4.length := ⟨_, rfl⟩; rw [← hn5] at hu; clear hn5; subst hu; obtain ⟨e1, p0, p1⟩ := E4.out.step hg hr; have E5 := hid e1; clear hr hg e1 y0 y1 y2 y3 y4 y5 y6 y7; obtain ⟨y0, y1, y2, y3, y4, y5, y6, y7⟩ := CE.out _ _ _ _ E5.out; skip)))
      | ((gi_at_call 24; (refine (callsIn_wide.2 (K3.out _ _ E3.out.b E3.out.r)).mono ?_; rintro e w4 ⟨v4, rfl, hr, hg⟩; obtain ⟨a4, c4, hu, _⟩ := hr.form; obtain ⟨n4, hn4⟩ : ∃ q, q = L3.length := ⟨_, rfl⟩; rw [← hn4] at hu; clear hn4; subst hu; obtain ⟨e1, p0, p1⟩ := E3.out.step hg hr; have E4 := hid e1; clear hr hg e1 y0 y1 y2 y3 y4 y5 y6 y7; obtain ⟨y0, y1, y2, y3, y4, y5, y6, y7⟩ := CE.out _ _ _ _ E4.out; have hs3 := True.intro)))
      | ((gi_at_call 26; (refine (callsIn_wide.2 (K5.out _ _ E5.out.b E5.out.r)).mono ?_; rintro e w6 ⟨v6, rfl, hr, hg⟩; obtain ⟨a6, c6, hu, _⟩ := hr.form; obtain ⟨n6, hn6⟩ : ∃ q, q = L5.length := ⟨_, rfl⟩; rw [← hn6] at hu; clear hn6; subst hu; obtain ⟨e1, p0, p1⟩ := E5.out.step hg hr; have E6 := hid e1; clear hr hg e1 y0 y1 y2 y3 y4 y5 y6 y7; obtain ⟨y0, y1, y2, y3, y4, y5, y6, y7⟩ := CE.out _ _ _ _ E6.out; skip)))
      | ((gi_at_call 28; (refine (callsIn_wide.2 (K6.out _ _ E6.out.b E6.out.r)).mono ?_; rintro e w7 ⟨v7, rfl, hr, hg⟩; obtain ⟨a7, c7, hu, _⟩ := hr.form; obtain ⟨n7, hn7⟩ : ∃ q, q = L6.length := ⟨_, rfl⟩; rw [← hn7] at hu; clear hn7; subst hu; obtain ⟨e1, p0, p1⟩ := E6.out.step hg hr; have E7 := hid e1; clear hr hg e1 y0 y1 y2 y3 y4 y5 y6 y7; obtain ⟨y0, y1, y2, y3, y4, y5, y6, y7⟩ := CE.out _ _ _ _ E7.out; skip)))
      | (gi_at_call 30; (refine (KF.out _).mono ?_; rintro e wf ⟨rfl, rfl⟩; clear y0 y1 y2 y3 y4 y5 y6 y7)))
    have zs : (w7.setCell ⟨w2.heap.size, 0, none⟩ (.slice a7 n7 c7)).heap.size = w7.heap.size := by simp
    obtain ⟨V0, hV0⟩ : ∃ V0, V0 = w7.setCell ⟨w2.heap.size, 0, none⟩ (.slice a7 n7 c7) := ⟨_, rfl⟩
    rw [← hV0] at zs E7
    obtain ⟨V, hV⟩ : ∃ V, V = V0.alloc (.cells #[.slice ra rn rc, .slice ma mn mc, .slice fa fn fc, .slice ea en ec, .slice ia inn ic, .slice ta tn tc, .slice ga gn gc, .slice ha hn hc] 31) := ⟨_, rfl⟩
    rw [← hV0, ← hV]
    have bV : Below V0.heap.size V0 V := by rw [hV]; exact (Below.refl _ _).alloc (Nat.le_refl _) _
    have mb : V.heap[w7.heap.size]? = some (.cells #[.slice ra rn rc, .slice ma mn mc, .slice fa fn fc, .slice ea en ec, .slice ia inn ic, .slice ta tn tc, .slice ga gn gc, .slice ha hn hc] 31 (0, 0)) := by rw [hV, ← zs]; exact heap_alloc_new V0 _
    have eV := E7.out.below bV
    have zV : w7.heap.size < V.heap.size := lt_of_heap mb
    have hseq := SQ.out V eV.b w7.heap.size mb
    have hwV : w.heap.size ≤ V.heap.size := eV.b.size
    obtain ⟨ff, hff⟩ : ∃ ff : Fin Z.length → List Nat, ff = fun i => encFx (Z[i.val]).2.2 := ⟨_, rfl⟩
    have FF : Hid (∀ i, ff i = encFx (Z[i.val]).2.2) := hid (fun i => by rw [hff])
    rw [← hff] at ENC
    have FLE : Hid (∀ i, (ff i).length ≤ 100100) := hid (fun i => by rw [FF.out i]; exact encFx_le (ZS.out i).1)
    have HL6 : Hid (L6.length ≤ 10000000) := hid (by have h1 := HLE.out; rw [ENC.out, List.length_append] at h1; omega)
    clear hff hW0 hV hV0 zs bV KI KF SQ K1 K2 K3 K4 K5 K6 CE CL ST GT HB1 E2 E3 E4 E5 E6 E7 HLE hs3 p0 p1
    have hKp : ∀ (pre : List (Fin Z.length)) (W W' : World), EI w V #[.slice ra rn rc, .slice ma mn mc, .slice fa fn fc, .slice ea en ec, .slice ia inn ic, .slice ta tn tc, .slice ga gn gc, .slice ha hn hc] w2.heap.size w7.heap.size L6 ff pre W → Below W.heap.size W W' → KB w.heap.size w7.heap.size W W' ∧ EI w V #[.slice ra rn rc, .slice ma mn mc, .slice fa fn fc, .slice ea en ec, .slice ia inn ic, .slice ta tn tc, .slice ga gn gc, .slice ha hn hc] w2.heap.size w7.heap.size L6 ff pre W' := fun pre W W' hi hb => by
      obtain ⟨⟨a, n, c, h⟩, hx, hs⟩ := hi
      exact ⟨KB_of hb h.b.size (lt_of_heap hx), ⟨⟨a, n, c, h.below hb⟩, (hb.block _ (lt_of_heap hx)).trans hx, Nat.le_trans hs hb.size⟩⟩
    refine range_box1 hro (by omega) (gf := 65) (lb := #[.pointer (some ⟨w7.heap.size, 0, none⟩)]) rfl trivial (enters_of Tryz.func65 (by kernel_rfl) rfl) (enc1 := fun i => fsg (Z[i.val]).1.1) (enc2 := fun i => (Z[i.val]).2.1.v) (Kp := KB w.heap.size w7.heap.size) hseq KB_t (KB_b (n₀ := w.heap.size) (Bx := w7.heap.size) (w := V) (by omega) (by omega)) (fun i => (Z[i.val]).2.1.cs.toArray) 57 (EI w V #[.slice ra rn rc, .slice ma mn mc, .slice fa fn fc, .slice ea en ec, .slice ia inn ic, .slice ta tn tc, .slice ga gn gc, .slice ha hn hc] w2.heap.size w7.heap.size L6 ff) (fun _ _ _ => False) (EI_own hwV) (fun c s A A' row hs _ _ => hs) ⟨⟨a7, n7, c7, by simpa using eV⟩, mb, Nat.le_refl _⟩ hKp ?round ?done ?stop
    case round =>
      intro ll x W K hK
      have HKK := hid hK
      clear hK
      have KOx : Hid (∀ (V : World) (u : Value) (ys : List Nat), Below w.heap.size w V → Row V w.heap.size u ys → (ys ++ encOps (Z[x.val]).2.2.ops).length ≤ 100000000 → Calls Tryz.prog 31 #[u, .slice (Z[x.val]).2.1.oa (Z[x.val]).2.1.on (Z[x.val]).2.1.oc, .func (.func 33) #[] #[]] V (ApP V w.heap.size u (ys ++ encOps (Z[x.val]).2.2.ops))) := hid (fun V u ys h1 h2 h3 => KO.out x V u ys h1 h2 h3)
      have ZX := hid (ZS.out x)
      have FX := hid (FF.out x)
      generalize (Z[x.val]).1.1 = gh at HKK ⊢
      generalize (Z[x.val]).2 = zf at HKK KOx ZX FX ⊢
      obtain ⟨⟨regs, oa, on, oc⟩, fx⟩ := zf
      obtain ⟨nm, pa, pn, pc, kd, rr⟩ := gh
      simp only [fsg, FH.v, FH.cs] at HKK KOx ZX FX ⊢
      simp only [List.setIfInBounds_toArray, List.set_cons_zero, List.set_cons_succ]
      gi_wp2
      refine HKK.out _ _ W.heap.size ((Below.refl _ W).alloc (Nat.le_refl _) _) (heap_alloc_new W _) ?_
      clear HKK K ll hseq KO hKp eV mb
      generalize W.heap.size = Y
      clear W
      intro l' pre W' hl hrr hi hlt mY
      obtain ⟨⟨a, n, c, hE⟩, hx, hsz⟩ := hi
      have zl : Hid (Z.length ≤ 32) := HZL
      have rg : regs = fx.regs := (ZX.out.2 w (Below.refl _ _)).rg
      obtain ⟨ys, hys⟩ : ∃ ys, ys = L6 ++ (pre.map ff).flatten := ⟨_, rfl⟩
      have hyl : ys.length ≤ 20000000 := by
        have h1 := HL6.out
        have h2 := flat_le (K := 100100) (l := pre) (f := ff) (fun i _ => FLE.out i)
        have h3 := zl.out
        have : 100100 * pre.length ≤ 100100 * 32 := Nat.mul_le_mul_left _ (by omega)
        rw [hys, List.length_append]; omega
      have hfl := encFx_le ZX.out.1
      have hri : inR regs := inR_sm (by have := ZX.out.1.r; omega)
      rw [← hys] at hE
      have hMF : Hid (L6 ++ ((pre ++ [x]).map ff).flatten = ys ++ enc (zz regs) ++ encOps fx.ops) := hid (by rw [List.map_append, List.flatten_append, ← List.append_assoc, ← hys]; simp [FX.out, encFx, rg])
      have hlo : (ys ++ enc (zz regs) ++ encOps fx.ops).length ≤ 100000000 := by
        unfold encFx at hfl
        rw [List.length_append] at hfl
        simp only [List.length_append]
        rw [rg]; omega
      have KA := hid (appNumber_any W'.drew w.heap.size (.slice a n c) ys regs hE.r.drew hE.b.size (by omega) hri)
      have KB2 := hid (fun (V : World) (u : Value) (h1 : Below w.heap.size w V) (h2 : Row V w.heap.size u (ys ++ enc (zz regs))) => KOx.out V u _ h1 h2 hlo)
      have STT : Hid (∀ (V : World) (u : Value), Grw W' (.slice a n c) V u → (V.cell? ⟨w2.heap.size, 0, none⟩ = some (.slice a n c) ∧ V.cell? ⟨Y, 0, none⟩ = some (.int .i64 regs) ∧ V.cell? ⟨Y, 1, none⟩ = some (.slice oa on oc)) ∧ Below w.heap.size w V) := hid (fun V u hg => by
        have k1 := (hg.1.block _ (lt_of_heap hE.p) (hE.r.ne hE.p (by decide))).trans hE.p
        have k2 := (hg.1.block _ (lt_of_heap mY) (hE.r.ne mY (by decide))).trans mY
        exact ⟨⟨cellOf k1 0, cellOf k2 0, cellOf k2 1⟩, hE.b.trans (hg.below hE.r hE.b.size)⟩)
      have FIN : Hid (∀ (w9 : World) (a9 : Option Addr) (n9 c9 : Nat), Grw W' (.slice a n c) w9 (.slice a9 n9 c9) → Row w9 w.heap.size (.slice a9 n9 c9) (ys ++ enc (zz regs) ++ encOps fx.ops) → w9.frozen? ⟨w2.heap.size, 0, none⟩ = false ∧ KeepsFrom V.heap.size W' (w9.setCell ⟨w2.heap.size, 0, none⟩ (.slice a9 n9 c9)) ∧ KB w.heap.size w7.heap.size W' (w9.setCell ⟨w2.heap.size, 0, none⟩ (.slice a9 n9 c9)) ∧ EI w V #[.slice ra rn rc, .slice ma mn mc, .slice fa fn fc, .slice ea en ec, .slice ia inn ic, .slice ta tn tc, .slice ga gn gc, .slice ha hn hc] w2.heap.size w7.heap.size L6 ff (pre ++ [x]) (w9.setCell ⟨w2.heap.size, 0, none⟩ (.slice a9 n9 c9))) := hid (fun w9 a9 n9 c9 hg hr => by
        obtain ⟨e1, _, e3⟩ := hE.step hg hr
        have hne : w7.heap.size ≠ w2.heap.size := fun e => by
          have h1 := hE.p
          rw [← e, hx] at h1; cases h1
        have hPw : w.heap.size ≤ w2.heap.size := by have := hE.ne; omega
        have kx := (hg.1.block _ (lt_of_heap hx) (hE.r.ne hx (by decide))).trans hx
        have kx2 := (Below.heap_setCell w9 ⟨w2.heap.size, 0, none⟩ (.slice a9 n9 c9) _ (show w7.heap.size ≠ w2.heap.size from hne)).trans kx
        refine ⟨e3, (grw_keeps hE.r hg).trans ((KeepsOthers.setCell _ _ _).from _), ⟨(hg.below hE.r hE.b.size).setCell (p := ⟨w2.heap.size, 0, none⟩) hPw _, kx2.trans hx.symm⟩, ⟨⟨a9, n9, c9, by rw [hMF.out]; exact e1⟩, kx2, ?_⟩⟩
        have := hg.size
        simp only [World.size_setCell]
        omega)
      obtain ⟨⟨d0, d1, d2⟩, _⟩ := STT.out W' _ (Grw.refl _ _)
      clear hE hx hsz mY hrr hys hfl hri hlo rg zl hyl KOx ZX FX
      refine wpIn_block ?_
      refine wpIn_region_roundI 7 (fun v : World => v.cell? ⟨w2.heap.size, 0, none⟩ = some (.slice a n c) ∧ v.cell? ⟨Y, 0, none⟩ = some (.int .i64 regs) ∧ v.cell? ⟨Y, 1, none⟩ = some (.slice oa on oc)) (by kernel_rfl) (nodefer (by kernel_rfl)) (by rintro ⟨a, w, h⟩; exact h) (by go_keep) (fun hHeld => ?_)
      refine wpAnyI_take (i := 0) (oi := { dst := some 41, op := Go.Op.load 34 (Go.Operand.tmp 4), type := 34, pos := "encode.go:21", after := #[], guard := none }) (v := ?_) [7] rfl (by kernel_rfl) (by kernel_rfl) (by kernel_rfl) (by kernel_rfl) (fun _ _ _ h => h) (Or.inl ⟨by rfl, ?_⟩) (by assumption) ?_
      rotate_left
      · (intro w hSw; (try dsimp only at hSw); go_simp; (try with_reducible rfl))
      (try simp only [Act.put, List.setIfInBounds_toArray, List.set_cons_zero, List.set_cons_succ])
      refine wpAnyI_take (i := 1) (oi := { dst := some 42, op := Go.Op.fieldAddr 57 (Go.Operand.tmp 6) 0, type := 0, pos := "encode.go:21", after := #[], guard := none }) (v := ?_) [7] rfl (by kernel_rfl) (by kernel_rfl) (by kernel_rfl) (by kernel_rfl) (fun _ _ _ h => h) (Or.inl ⟨by rfl, ?_⟩) (by assumption) ?_
      rotate_left
      · (intro w hSw; (try dsimp only at hSw); go_simp; (try with_reducible rfl))
      (try simp only [Act.put, List.setIfInBounds_toArray, List.set_cons_zero, List.set_cons_succ])
      refine wpAnyI_take (i := 2) (oi := { dst := some 43, op := Go.Op.load 3 (Go.Operand.tmp 42), type := 3, pos := "encode.go:21", after := #[{ on := 1, ground := Go.Ground.data }], guard := none }) (v := ?_) [7] rfl (by kernel_rfl) (by kernel_rfl) (by kernel_rfl) (by kernel_rfl) (fun _ _ _ h => h) (Or.inl ⟨by rfl, ?_⟩) (by assumption) ?_
      rotate_left
      · (intro w hSw; (try dsimp only at hSw); go_simp; (try with_reducible rfl))
      (try simp only [Act.put, List.setIfInBounds_toArray, List.set_cons_zero, List.set_cons_succ])
      refine wpAnyI_take (i := 4) (oi := { dst := some 45, op := Go.Op.fieldAddr 57 (Go.Operand.tmp 6) 1, type := 0, pos := "encode.go:21", after := #[], guard := none }) (v := ?_) [7] rfl (by kernel_rfl) (by kernel_rfl) (by kernel_rfl) (by kernel_rfl) (fun _ _ _ h => h) (Or.inl ⟨by rfl, ?_⟩) (by assumption) ?_
      rotate_left
      · (intro w hSw; (try dsimp only at hSw); go_simp; (try with_reducible rfl))
      (try simp only [Act.put, List.setIfInBounds_toArray, List.set_cons_zero, List.set_cons_succ])
      refine wpAnyI_take (i := 5) (oi := { dst := some 46, op := Go.Op.load 55 (Go.Operand.tmp 45), type := 55, pos := "encode.go:21", after := #[{ on := 4, ground := Go.Ground.data }], guard := none }) (v := ?_) [7] rfl (by kernel_rfl) (by kernel_rfl) (by kernel_rfl) (by kernel_rfl) (fun _ _ _ h => h) (Or.inl ⟨by rfl, ?_⟩) (by assumption) ?_
      rotate_left
      · (intro w hSw; (try dsimp only at hSw); go_simp; (try with_reducible rfl))
      (try simp only [Act.put, List.setIfInBounds_toArray, List.set_cons_zero, List.set_cons_succ])
      refine wpAnyI_one (i := 3) (o := { dst := some 44, op := Go.Op.call { callee := Go.Callee.value (Go.Operand.func 32), args := #[Go.Operand.tmp 41, Go.Operand.tmp 43], argTypes := #[34, 3] }, type := 34, pos := "encode.go:21", after := #[{ on := 0, ground := Go.Ground.data }, { on := 2, ground := Go.Ground.data }], guard := none }) (by kernel_rfl) rfl (fun K hK => ?_)
      go_simp
      (refine (Hid.out KA).mono ?_; rintro e w8 ⟨u8, rfl, hr8, hg8⟩; have HR8 := hid hr8; have HG8 := hid hg8.undrew; obtain ⟨f0, f1, f2⟩ := (STT.out w8 u8 HG8.out).1; clear hr8 hg8)
      try go_wp2_with fail
      refine hK.out _ _ ⟨f0, f1, f2⟩ (fun hHeldN => ?_)
      clear hK K hHeld
      have hHeld := hHeldN
      clear hHeldN
      (try simp only [Act.put, List.setIfInBounds_toArray, List.set_cons_zero, List.set_cons_succ])
      refine wpAnyI_one (i := 6) (o := { dst := some 47, op := Go.Op.call { callee := Go.Callee.value (Go.Operand.func 31), args := #[Go.Operand.tmp 44, Go.Operand.tmp 46, Go.Operand.func 33], argTypes := #[34, 55, 80] }, type := 34, pos := "encode.go:21", after := #[{ on := 3, ground := Go.Ground.data }, { on := 5, ground := Go.Ground.data }, { on := 3, ground := Go.Ground.chain }], guard := none }) (by kernel_rfl) rfl (fun K hK => ?_)
      go_simp
      (refine (KB2.out w8 u8 (STT.out w8 u8 HG8.out).2 HR8.out).mono ?_; rintro e w9 ⟨u9, rfl, hr9, hg9⟩; obtain ⟨a9, c9, hu9, _⟩ := hr9.form; obtain ⟨n9, hn9⟩ : ∃ n9, n9 = (ys ++ enc (zz regs) ++ encOps fx.ops).length := ⟨_, rfl⟩; rw [← hn9] at hu9; clear hn9; subst hu9; have hg10 := HG8.out.trans hg9; obtain ⟨j0, j1, j2⟩ := (STT.out w9 _ hg10).1; obtain ⟨jf, jq⟩ := FIN.out w9 a9 n9 c9 hg10 hr9; have QF := hid jq; clear hr9 hg9 hg10 jq)
      try go_wp2_with fail
      refine hK.out _ _ ⟨j0, j1, j2⟩ (fun hHeldN => ?_)
      clear hK K hHeld
      have hHeld := hHeldN
      clear hHeldN
      (try simp only [Act.put, List.setIfInBounds_toArray, List.set_cons_zero, List.set_cons_succ])
      refine wpAnyI_last (o := { dst := none, op := Go.Op.store 34 (Go.Operand.tmp 4) (Go.Operand.tmp 47), type := 0, pos := "encode.go:21", after := #[{ on := 6, ground := Go.Ground.data }, { on := 6, ground := Go.Ground.chain }, { on := 0, ground := Go.Ground.phase }, { on := 1, ground := Go.Ground.phase }, { on := 2, ground := Go.Ground.phase }, { on := 3, ground := Go.Ground.phase }, { on := 4, ground := Go.Ground.phase }, { on := 5, ground := Go.Ground.phase }, { on := 6, ground := Go.Ground.phase }], guard := none }) (by kernel_rfl) rfl (by kernel_rfl) (fun K hK => ?_)
      go_simp
      refine hK.out _ _ ?_
      clear hK K hHeld
      (try simp only [Act.put, List.setIfInBounds_toArray, List.set_cons_zero, List.set_cons_succ])
      exact QF.out
    case done =>
      rintro D' ys W hD rfl hI hK
      obtain ⟨⟨a, n, c, hE⟩, _, _⟩ := hI
      have c0 := cellOf hE.p 0
      simp only [List.getElem?_toArray, List.getElem?_cons_zero] at c0
      have HK := hid hK
      have HE := hid hE
      clear hseq hK hE hKp
      gi_wp2
      refine ⟨by simp, .inl ⟨_, _, rfl, run_takeDeferred HK.out, ?_⟩⟩
      refine ⟨_, by simp [results, Tryz.results8, go_sem]; rfl, ?_⟩
      have hk := HE.out.keep hwV (grownBy_putObj' _ D' (.deferred none)) (fun r e => by cases e; exact ⟨hD, _, HK.out, rfl⟩)
      exact ⟨hk.b, .inr ⟨HOK.out, _, rfl, by rw [ENC.out]; exact hk.r⟩⟩
    case stop =>
      rintro D' cc pre W hD _ hf
      exact hf.elim
end Go.Proofs.YthnolocldeokeaaGreat

namespace Go.Proofs.YthnolocldeokeaaGreat
open Go.RowKit Go.Deep Go.Shelf
set_option linter.unusedVariables false
set_option linter.unusedSimpArgs false
set_option maxRecDepth 100000
/- What a reader holds: the bytes that are left, or nothing once it has failed; its bytes lie below D. -/
structure Rst (w : World) (R D : Nat) (s : Option (List Nat)) : Prop where
  ex : ∃ (a : Option Addr) (n c : Nat), w.heap[R]? = some (.cells #[.slice a n c, .bool s.isNone] 83 (0, 0)) ∧ Rd w (.slice a n c) (s.getD []) ∧ (∀ k, (Value.slice a n c).ownBlock = some k → k < D ∧ k ≠ R) ∧ (s = none → a = none ∧ n = 0 ∧ c = 0)
  ln : (s.getD []).length ≤ 1000000000
  hR : R < D
  hD : D ≤ w.heap.size
theorem Rst.grown {w w' : World} {R D : Nat} {s : Option (List Nat)} {row : Option Nat} (h : Rst w R D s) (hg : w.grownBy w' row) (hr : ∀ r, row = some r → D ≤ r) : Rst w' R D s := by
  obtain ⟨⟨a, n, c, h1, h2, h3, h4⟩, h5, h6, h7⟩ := h
  have hk : ∀ k, k < D → w'.heap[k]? = w.heap[k]? := fun k hk => hg.block k (by omega) (fun e => by have := hr k e.symm; omega)
  exact ⟨⟨a, n, c, (hk R h6).trans h1, h2.same fun k e _ => hk k (h3 k e).1, h3, h4⟩, h5, h6, Nat.le_trans h7 hg.size⟩
theorem bgrown {w w' : World} (h : Below w.heap.size w w') (row : Option Nat) : w.grownBy w' row := ⟨h.os, h.tape, h.output, h.size, fun k hk _ => h.block k hk⟩
theorem Rst.below {w w' : World} {R D : Nat} {s : Option (List Nat)} (h : Rst w R D s) (k : Below w.heap.size w w') : Rst w' R D s := h.grown (bgrown k none) (fun r e => by cases e)
theorem grown_set (w : World) (R i : Nat) (v : Value) : w.grownBy (w.setCell ⟨R, i, none⟩ v) (some R) := ⟨rfl, rfl, rfl, by simp, fun k _ hne => Below.heap_setCell _ ⟨R, i, none⟩ _ _ (show k ≠ R from fun e => hne (by rw [e]))⟩
theorem gtrans {w w1 w2 : World} {row : Option Nat} (h : w.grownBy w1 row) (k : w1.grownBy w2 row) : w.grownBy w2 row := ⟨k.os.trans h.os, k.tape.trans h.tape, k.output.trans h.output, Nat.le_trans h.size k.size, fun j hj hne => (k.block j (by have := h.size; omega) hne).trans (h.block j hj hne)⟩
theorem gbelow {w w1 w2 : World} {row : Option Nat} (h : w.grownBy w1 row) (k : Below w1.heap.size w1 w2) : w.grownBy w2 row := gtrans h (bgrown k row)
/- What a reader's function answers. -/
def RdP (w : World) (R D : Nat) (v : Value) (s : Option (List Nat)) (e : Ending) (w' : World) : Prop := e = .returned v ∧ Rst w' R D s ∧ w.grownBy w' (some R)
set_option maxHeartbeats 1000000 in
theorem fail_any (w : World) (R D : Nat) (s : Option (List Nat)) (h : Rst w R D s) : Calls Tryz.prog 105 #[.pointer (some ⟨R, 0, none⟩)] w fun e w' => (∃ r, e = .returned r) ∧ Rst w' R D none ∧ w.grownBy w' (some R) := by
  obtain ⟨⟨a, n, c, h1, h2, h3, h4⟩, h5, h6, h7⟩ := h
  have c0 := cellOf h1 0
  have c1 := cellOf h1 1
  have f0 := freeOf h1 0
  have f1 := freeOf h1 1
  simp only [List.getElem?_toArray, List.getElem?_cons_zero, List.getElem?_cons_succ] at c0 c1
  have FIN : Hid (Rst ((w.setCell ⟨R, 0, none⟩ (.slice none 0 0)).setCell ⟨R, 1, none⟩ (.bool true)) R D none ∧ w.grownBy ((w.setCell ⟨R, 0, none⟩ (.slice none 0 0)).setCell ⟨R, 1, none⟩ (.bool true)) (some R)) := hid (by
    have k1 := heap_set_at h1 0 (.slice none 0 0)
    simp only [List.setIfInBounds_toArray, List.set_cons_zero, List.set_cons_succ] at k1
    have k2 := heap_set_at k1 1 (.bool true)
    simp only [List.setIfInBounds_toArray, List.set_cons_zero, List.set_cons_succ] at k2
    exact ⟨⟨⟨none, 0, 0, k2, Rd.nil _, (fun k e => by cases e), fun _ => ⟨rfl, rfl, rfl⟩⟩, by simp, h6, by simpa using h7⟩, gtrans (grown_set w R 0 _) (grown_set _ R 1 _)⟩)
  clear h1 h2 h3 h4 h5 h6 h7
  go_enter Tryz.func105, Tryz.ntmps105
  go_wp2
  exact ⟨rfl, .tuple #[], by simp [results, Tryz.results105, go_sem], ⟨_, rfl⟩, FIN.out⟩
theorem Rst.set {w : World} {R D : Nat} {bs : List Nat} {a a' : Option Addr} {n c n' c' k : Nat} (h1 : w.heap[R]? = some (.cells #[.slice a n c, .bool false] 83 (0, 0))) (hR : R < D) (hD : D ≤ w.heap.size) (hl : bs.length ≤ 1000000000) (h2 : Rd w (.slice a' n' c') (bs.drop k)) (h3 : ∀ g, (Value.slice a' n' c').ownBlock = some g → g < D ∧ g ≠ R) : Rst (w.setCell ⟨R, 0, none⟩ (.slice a' n' c')) R D (some (bs.drop k)) := by
  have k1 := heap_set_at h1 0 (.slice a' n' c')
  simp only [List.setIfInBounds_toArray, List.set_cons_zero, List.set_cons_succ] at k1
  exact ⟨⟨a', n', c', k1, h2.same fun g e _ => Below.heap_setCell _ ⟨R, 0, none⟩ _ _ (show g ≠ R from (h3 g e).2), h3, fun e => by cases e⟩, by simp; omega, hR, by simpa using hD⟩
theorem Rd.slA {w : World} {a : Option Addr} {k n : Nat} {bs : List Nat} (h : Rd w (.slice a n k) bs) : Rd w (.slice a 0 0) (bs.drop k) := by
  obtain ⟨a', _, e, hc, hb, _⟩ := h
  cases e
  rw [List.drop_of_length_le hc]
  exact ⟨a, 0, rfl, Nat.le_refl _, (fun x hx => by cases hx), fun j x h => by simp at h⟩
theorem Rd.slB {w : World} {a : Option Addr} {k cap n : Nat} {bs : List Nat} (h : Rd w (.slice a n cap) bs) (hk : k ≤ bs.length) (hc : ¬ cap = k) : Rd w (.slice (Option.map (fun x => x.add k) a) (n - k) (cap - k)) (bs.drop k) := by
  have := h.from k hk
  unfold sliced at this
  rw [if_neg hc, Nat.mul_one] at this
  exact this
theorem own_map {a : Option Addr} {n c n' c' k g : Nat} (h : (Value.slice (Option.map (fun x => x.add k) a) n' c').ownBlock = some g) : (Value.slice a n c).ownBlock = some g := by
  cases a with
  | none => cases h
  | some ad =>
    obtain ⟨b, off, sp⟩ := ad
    unfold Value.ownBlock at h ⊢
    simp only [Option.map_some] at h ⊢
    unfold Addr.add at h
    split at h <;> exact h
theorem text_err {bs : List Nat} {er : Nat} (h : textD 64 bs = .error er) : er = 20 ∨ er = 21 := by
  unfold textD at h
  split at h
  · cases h; exact .inl rfl
  · split at h
    · cases h; exact .inr rfl
    · split at h
      · cases h; exact .inl rfl
      · cases h
def rU (s : Option (List Nat)) : Nat × Option (List Nat) := match dec (s.getD []) with
  | none => (0, none)
  | some (m, k) => (m, some ((s.getD []).drop k))
def rI (s : Option (List Nat)) : Int × Option (List Nat) := match dec (s.getD []) with
  | none => (0, none)
  | some (m, k) => (unzz m, some ((s.getD []).drop k))
def rT (s : Option (List Nat)) : ByteArray × Option (List Nat) := match textD 64 (s.getD []) with
  | .error _ => (ByteArray.empty, none)
  | .ok (t, k) => (ofB t, some ((s.getD []).drop k))
theorem dec_none_state {s : Option (List Nat)} {m k : Nat} (h : dec (s.getD []) = some (m, k)) : s = some (s.getD []) := by
  cases s with
  | none => simp [dec, decAt] at h
  | some bs => rfl
theorem text_some_state {s : Option (List Nat)} {t : List Nat} {k : Nat} (h : textD 64 (s.getD []) = .ok (t, k)) : s = some (s.getD []) ∧ k ≤ (s.getD []).length := by
  unfold textD at h
  split at h
  · cases h
  · rename_i n k' hd
    refine ⟨dec_none_state hd, ?_⟩
    split at h
    · cases h
    · split at h
      · cases h
      · cases h; omega
set_option maxHeartbeats 2000000 in
theorem readOneU_any (w : World) (R D : Nat) (s : Option (List Nat)) (h : Rst w R D s) : Calls Tryz.prog 103 #[.pointer (some ⟨R, 0, none⟩), .func (.func 104) #[] #[]] w (RdP w R D (.int .u64 ((rU s).1 : Int)) (rU s).2) := by
  have KFl := hid (fail_any w R D s h)
  obtain ⟨⟨a, n, c, h1, h2, h3, h4⟩, h5, h6, h7⟩ := h
  have c0 := cellOf h1 0
  have f0 := freeOf h1 0
  simp only [List.getElem?_toArray, List.getElem?_cons_zero, List.getElem?_cons_succ] at c0
  have K := uint_any w (.slice a n c) (s.getD []) h2 (by omega)
  cases hd : dec (s.getD []) with
  | none =>
    rw [hd] at K
    simp only [uintV] at K
    have K := hid K
    have HR : Hid (rU s = (0, none)) := hid (by simp [rU, hd])
    rw [HR.out]
    clear h1 h2 h3 h4 h5 h6 h7 hd
    go_enter Tryz.func103, Tryz.ntmps103
    go_wp2_with (first
      | (go_at_call 104; (refine (Hid.out K).mono ?_; rintro e w1 ⟨rfl, rfl⟩))
      | (go_at_call 105; (refine (Hid.out KFl).mono ?_; rintro e w2 ⟨⟨r2, rfl⟩, hs2, hg2⟩; have HS := hid hs2; have HG := hid hg2; clear hs2 hg2)))
    go_ret
    exact ⟨rfl, HS.out, HG.out⟩
  | some mk =>
    obtain ⟨m, k⟩ := mk
    have hst := dec_none_state hd
    have hkb : k ≤ (s.getD []).length := by obtain ⟨_, _, _, _, hb, _⟩ := h2; exact (dec_back hb hd).2.2.1
    rw [hd] at K
    simp only [uintV] at K
    have K := hid K
    have hnl : n = (s.getD []).length := by obtain ⟨_, _, e, _⟩ := h2; cases e; rfl
    have hnc : n ≤ c := by obtain ⟨_, _, e, hq, _⟩ := h2; cases e; omega
    have hs0 : s.isNone = false := by rw [hst]; rfl
    rw [hs0] at h1
    have HR : Hid (rU s = (m, some ((s.getD []).drop k))) := hid (by simp [rU, hd])
    rw [HR.out]
    have kI : (k : Int) ≤ (n : Int) := by omega
    have k0 : (0 : Int) ≤ (k : Int) := by omega
    have nI : (n : Int) ≤ 1000000000 := by omega
    have ncI : (n : Int) ≤ (c : Int) := by omega
    by_cases hck : c = k
    · have FIN : Hid (Rst (w.setCell ⟨R, 0, none⟩ (.slice a 0 0)) R D (some ((s.getD []).drop k))) := hid (Rst.set h1 h6 h7 h5 (by rw [← hck]; exact Rd.slA h2) (fun g e => h3 g (by cases a with | none => cases e | some ad => exact e)))
      have hnk : n - k = 0 := by omega
      subst hck
      clear h1 h2 h3 h4 h5 h6 h7 hd hkb hnl hst hs0
      go_enter Tryz.func103, Tryz.ntmps103
      go_wp2_with (first
        | (go_at_call 104; (refine (Hid.out K).mono ?_; rintro e w1 ⟨rfl, rfl⟩)))
      go_ret
      exact ⟨rfl, FIN.out, grown_set _ _ _ _⟩
    · have FIN : Hid (Rst (w.setCell ⟨R, 0, none⟩ (.slice (Option.map (fun x => x.add k) a) (n - k) (c - k))) R D (some ((s.getD []).drop k))) := hid (Rst.set h1 h6 h7 h5 (Rd.slB h2 (by omega) hck) (fun g e => h3 g (own_map e)))
      have hckf : (c = k) = False := by simp [hck]
      clear h1 h2 h3 h4 h5 h6 h7 hd hkb hnl hst hs0
      go_enter Tryz.func103, Tryz.ntmps103
      go_wp2_with (first
        | (go_at_call 104; (refine (Hid.out K).mono ?_; rintro e w1 ⟨rfl, rfl⟩)))
      go_ret
      exact ⟨rfl, FIN.out, grown_set _ _ _ _⟩
set_option maxHeartbeats 2000000 in
theorem readOneI_any (w : World) (R D : Nat) (s : Option (List Nat)) (h : Rst w R D s) : Calls Tryz.prog 74 #[.pointer (some ⟨R, 0, none⟩), .func (.func 75) #[] #[]] w (RdP w R D (.int .i64 (rI s).1) (rI s).2) := by
  have KFl := hid (fail_any w R D s h)
  obtain ⟨⟨a, n, c, h1, h2, h3, h4⟩, h5, h6, h7⟩ := h
  have c0 := cellOf h1 0
  have f0 := freeOf h1 0
  simp only [List.getElem?_toArray, List.getElem?_cons_zero, List.getElem?_cons_succ] at c0
  have K := int_any w (.slice a n c) (s.getD []) h2 (by omega)
  cases hd : dec (s.getD []) with
  | none =>
    rw [hd] at K
    simp only [intV] at K
    have K := hid K
    have HR : Hid (rI s = (0, none)) := hid (by simp [rI, hd])
    rw [HR.out]
    clear h1 h2 h3 h4 h5 h6 h7 hd
    go_enter Tryz.func74, Tryz.ntmps74
    go_wp2_with (first
      | (go_at_call 75; (refine (Hid.out K).mono ?_; rintro e w1 ⟨rfl, rfl⟩))
      | (go_at_call 105; (refine (Hid.out KFl).mono ?_; rintro e w2 ⟨⟨r2, rfl⟩, hs2, hg2⟩; have HS := hid hs2; have HG := hid hg2; clear hs2 hg2)))
    go_ret
    exact ⟨rfl, HS.out, HG.out⟩
  | some mk =>
    obtain ⟨m, k⟩ := mk
    have hst := dec_none_state hd
    have hkb : k ≤ (s.getD []).length := by obtain ⟨_, _, _, _, hb, _⟩ := h2; exact (dec_back hb hd).2.2.1
    rw [hd] at K
    simp only [intV] at K
    have K := hid K
    have hnl : n = (s.getD []).length := by obtain ⟨_, _, e, _⟩ := h2; cases e; rfl
    have hnc : n ≤ c := by obtain ⟨_, _, e, hq, _⟩ := h2; cases e; omega
    have hs0 : s.isNone = false := by rw [hst]; rfl
    rw [hs0] at h1
    have HR : Hid (rI s = (unzz m, some ((s.getD []).drop k))) := hid (by simp [rI, hd])
    rw [HR.out]
    have kI : (k : Int) ≤ (n : Int) := by omega
    have k0 : (0 : Int) ≤ (k : Int) := by omega
    have nI : (n : Int) ≤ 1000000000 := by omega
    have ncI : (n : Int) ≤ (c : Int) := by omega
    by_cases hck : c = k
    · have FIN : Hid (Rst (w.setCell ⟨R, 0, none⟩ (.slice a 0 0)) R D (some ((s.getD []).drop k))) := hid (Rst.set h1 h6 h7 h5 (by rw [← hck]; exact Rd.slA h2) (fun g e => h3 g (by cases a with | none => cases e | some ad => exact e)))
      have hnk : n - k = 0 := by omega
      subst hck
      clear h1 h2 h3 h4 h5 h6 h7 hd hkb hnl hst hs0
      go_enter Tryz.func74, Tryz.ntmps74
      go_wp2_with (first
        | (go_at_call 75; (refine (Hid.out K).mono ?_; rintro e w1 ⟨rfl, rfl⟩)))
      go_ret
      exact ⟨rfl, FIN.out, grown_set _ _ _ _⟩
    · have FIN : Hid (Rst (w.setCell ⟨R, 0, none⟩ (.slice (Option.map (fun x => x.add k) a) (n - k) (c - k))) R D (some ((s.getD []).drop k))) := hid (Rst.set h1 h6 h7 h5 (Rd.slB h2 (by omega) hck) (fun g e => h3 g (own_map e)))
      have hckf : (c = k) = False := by simp [hck]
      clear h1 h2 h3 h4 h5 h6 h7 hd hkb hnl hst hs0
      go_enter Tryz.func74, Tryz.ntmps74
      go_wp2_with (first
        | (go_at_call 75; (refine (Hid.out K).mono ?_; rintro e w1 ⟨rfl, rfl⟩)))
      go_ret
      exact ⟨rfl, FIN.out, grown_set _ _ _ _⟩
set_option maxHeartbeats 2000000 in
theorem readOneT_any (w : World) (R D : Nat) (s : Option (List Nat)) (h : Rst w R D s) : Calls Tryz.prog 76 #[.pointer (some ⟨R, 0, none⟩), .func (.func 77) #[] #[]] w (RdP w R D (.string (rT s).1) (rT s).2) := by
  have KFl := hid (fail_any w R D s h)
  obtain ⟨⟨a, n, c, h1, h2, h3, h4⟩, h5, h6, h7⟩ := h
  have c0 := cellOf h1 0
  have f0 := freeOf h1 0
  simp only [List.getElem?_toArray, List.getElem?_cons_zero, List.getElem?_cons_succ] at c0
  have K := text_any w (.slice a n c) (s.getD []) h2 (by omega)
  cases hd : textD 64 (s.getD []) with
  | error er =>
    rw [hd] at K
    simp only [textV] at K
    have K := hid K
    have HR : Hid (rT s = (ByteArray.empty, none)) := hid (by simp [rT, hd])
    rw [HR.out]
    have her : ¬ (er : Int) = 0 := by have := text_err hd; omega
    have hez : ((er : Int) != 0) = true := by simp; omega
    clear h1 h2 h3 h4 h5 h6 h7 hd
    go_enter Tryz.func76, Tryz.ntmps76
    go_wp2_with (first
      | (go_at_call 77; (refine (Hid.out K).mono ?_; rintro e w1 ⟨rfl, rfl⟩))
      | (go_at_call 105; (refine (Hid.out KFl).mono ?_; rintro e w2 ⟨⟨r2, rfl⟩, hs2, hg2⟩; have HS := hid hs2; have HG := hid hg2; clear hs2 hg2)))
    go_ret
    exact ⟨rfl, HS.out, HG.out⟩
  | ok mk =>
    obtain ⟨m, k⟩ := mk
    obtain ⟨hst, hkb⟩ := text_some_state hd
    rw [hd] at K
    simp only [textV] at K
    have K := hid K
    have hnl : n = (s.getD []).length := by obtain ⟨_, _, e, _⟩ := h2; cases e; rfl
    have hnc : n ≤ c := by obtain ⟨_, _, e, hq, _⟩ := h2; cases e; omega
    have hs0 : s.isNone = false := by rw [hst]; rfl
    rw [hs0] at h1
    have HR : Hid (rT s = (ofB m, some ((s.getD []).drop k))) := hid (by simp [rT, hd])
    rw [HR.out]
    have kI : (k : Int) ≤ (n : Int) := by omega
    have k0 : (0 : Int) ≤ (k : Int) := by omega
    have nI : (n : Int) ≤ 1000000000 := by omega
    have ncI : (n : Int) ≤ (c : Int) := by omega
    by_cases hck : c = k
    · have FIN : Hid (Rst (w.setCell ⟨R, 0, none⟩ (.slice a 0 0)) R D (some ((s.getD []).drop k))) := hid (Rst.set h1 h6 h7 h5 (by rw [← hck]; exact Rd.slA h2) (fun g e => h3 g (by cases a with | none => cases e | some ad => exact e)))
      have hnk : n - k = 0 := by omega
      subst hck
      clear h1 h2 h3 h4 h5 h6 h7 hd hkb hnl hst hs0
      go_enter Tryz.func76, Tryz.ntmps76
      go_wp2_with (first
        | (go_at_call 77; (refine (Hid.out K).mono ?_; rintro e w1 ⟨rfl, rfl⟩)))
      go_ret
      exact ⟨rfl, FIN.out, grown_set _ _ _ _⟩
    · have FIN : Hid (Rst (w.setCell ⟨R, 0, none⟩ (.slice (Option.map (fun x => x.add k) a) (n - k) (c - k))) R D (some ((s.getD []).drop k))) := hid (Rst.set h1 h6 h7 h5 (Rd.slB h2 (by omega) hck) (fun g e => h3 g (own_map e)))
      have hckf : (c = k) = False := by simp [hck]
      clear h1 h2 h3 h4 h5 h6 h7 hd hkb hnl hst hs0
      go_enter Tryz.func76, Tryz.ntmps76
      go_wp2_with (first
        | (go_at_call 77; (refine (Hid.out K).mono ?_; rintro e w1 ⟨rfl, rfl⟩)))
      go_ret
      exact ⟨rfl, FIN.out, grown_set _ _ _ _⟩
end Go.Proofs.YthnolocldeokeaaGreat

