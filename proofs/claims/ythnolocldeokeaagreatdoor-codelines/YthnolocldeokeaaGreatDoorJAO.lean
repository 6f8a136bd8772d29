/- code.Is. -/
import Derived.Test.YthnolocldeokeaaGreatDoorJAN
import Derived.BigGuardIn
import Derived.BigQuiet
namespace Go.Proofs.YthnolocldeokeaaGreatDoor
open Go.RowKit Go.Deep Go.Shelf
set_option linter.unusedVariables false
set_option linter.unusedSimpArgs false
attribute [local go_sem] Oper.semAt_some
/- A range over a function whose round begins by laying two boxes. -/
theorem range_box2 {α : Type} {F : Fence} {n : Nat} {P : Program} {g : Operand} {p1 p2 : Tmp} {assign body : Code} {Q : Exit → Act → World → Prop} {a : Act} {w : World}
    (hro : F.round = none) (h1 : 1 ≤ n) {gf : Nat} {lb : Array Value} (hg : a.eval g = .func (.func gf) #[] lb) (hFg : F.fn gf) (eg : ∀ args w, (callFunc gf args).run P w = .ok (.enter gf args) w)
    {enc1 enc2 : α → Value} {Kp : World → World → Prop} {S Sp : List α → Prop} {N : Nat} (hseq : SeqStopsK F (n - 1) P gf lb (fun x => #[enc1 x, enc2 x]) Kp S Sp N w)
    (hKt : ∀ {A B C : World}, Kp A B → Kp B C → Kp A C) (hKb : ∀ (W : World) (l : Nat) (o o' : Obj), w.heap.size ≤ l → W.heap[l]? = some o → o.isCells = false → o.isWalk = false → Kp W (W.putObj l o'))
    (c1 c2 : α → Array Value) (t1 t2 : TypeId)
    (I : List α → World → Prop) (Ix : Code → List α → World → Prop) (hI : OwnFrom w.heap.size I) (hIx : ∀ c, OwnFrom w.heap.size (Ix c)) (h0 : I [] w)
    (hKp : ∀ pre W W', I pre W → Below W.heap.size W W' → Kp W W' ∧ I pre W')
    (hround : ∀ (l : Nat) (x : α) (W : World) (K : Act → World → Prop), (∀ (a' : Act) (W' : World) (X Y : Nat), Below W.heap.size W W' → W'.heap[X]? = some (Obj.cells (c1 x) t1 (0, 0)) → W'.heap[Y]? = some (Obj.cells (c2 x) t2 (0, 0)) → (∀ (l' : Nat) (pre : List α) (W' : World), w.heap.size ≤ l' → (∃ r, W'.heap[l']? = some (.loop r)) → I pre W' → pre.length < N → W'.heap[X]? = some (Obj.cells (c1 x) t1 (0, 0)) → W'.heap[Y]? = some (Obj.cells (c2 x) t2 (0, 0)) → body.wpIn (F.inRound l') (n - 1 - 1) P (ownPostG w.heap.size Kp I Ix (pre ++ [x]) W') a' W') → K a' W') →
      assign.wpIn (F.inRound l) (n - 1 - 1) P (Exit.then K (fun _ _ _ => False)) { tmps := (a.tmps.setIfInBounds p1 (enc1 x)).setIfInBounds p2 (enc2 x), defers := [] } W)
    (hdone : ∀ (D : Nat) (xs : List α) (W : World), w.heap.size ≤ D → S xs → I xs W → W.heap[D]? = some (.deferred (some [])) → Q .normal { a with defers := { target := .collected D, args := #[] } :: a.defers } W)
    (hstop : ∀ (D : Nat) (c : Code) (pre : List α) (W : World), w.heap.size ≤ D → Sp pre → Ix c pre W → W.heap[D]? = some (.deferred (some [])) → c.wpIn F n P Q { a with defers := { target := .collected D, args := #[] } :: a.defers } W) :
    (Code.rangeFunc g #[p1, p2] assign body).wpIn F n P Q a w := by
  refine wpIn_rangeFunc_ownH hro h1 hg hFg eg hseq hKt hKb (Below.refl _ _) (fun _ => rfl) I Ix hI hIx h0 (fun x a' W => ∃ X Y : Nat, (W.heap[X]? = some (Obj.cells (c1 x) t1 (0, 0)) ∧ W.heap[Y]? = some (Obj.cells (c2 x) t2 (0, 0))) ∧ ∀ (l' : Nat) (pre : List α) (W' : World), w.heap.size ≤ l' → (∃ r, W'.heap[l']? = some (.loop r)) → I pre W' → pre.length < N → W'.heap[X]? = some (Obj.cells (c1 x) t1 (0, 0)) → W'.heap[Y]? = some (Obj.cells (c2 x) t2 (0, 0)) → body.wpIn (F.inRound l') (n - 1 - 1) P (ownPostG w.heap.size Kp I Ix (pre ++ [x]) W') a' W') (fun x a' _ A B row hs hg hr => by
      obtain ⟨X, Y, ⟨e1, e2⟩, hb⟩ := hs
      exact ⟨X, Y, ⟨keep_cells e1 hg hr, keep_cells e2 hg hr⟩, hb⟩) ?_ ?_ hdone hstop
  · intro l pre x W K hi hK
    rw [zip2]
    exact hround l x W K (fun a' W' X Y hb e1 e2 hbd => hK a' W' (keepsFrom_below hb) (hKp pre W W' hi hb).1 (hKp pre W W' hi hb).2 ⟨X, Y, ⟨e1, e2⟩, hbd⟩)
  · intro l pre x a' W hl hr hi hA hlt
    obtain ⟨X, Y, ⟨e1, e2⟩, hb⟩ := hA
    exact hb l pre W hl hr hi hlt e1 e2
def okZ (c : Cx) (Z : ZL) (i : Fin Z.length) : Bool := isFnB c (Z[i.val]).1.1.pn (Z[i.val]).2.2
theorem zip_all {c : Cx} {gs : List (GH × Sg)} {fs : List (FH × Fx)} (hg : ∀ p ∈ gs, p.1.pn = p.2.params.length) : isFnsB c (gs.map (·.2)) (fs.map (·.2)) = (gs.zip fs).all fun z => isFnB c z.1.1.pn z.2.2 := by
  unfold isFnsB
  rw [List.zip_map, List.all_map]
  refine Bool.eq_iff_iff.2 ?_
  simp only [List.all_eq_true, Function.comp]
  constructor
  · intro h z hz
    have := h z hz
    rw [hg z.1 (List.of_mem_zip hz).1]; exact this
  · intro h z hz
    have := h z hz
    rw [hg z.1 (List.of_mem_zip hz).1] at this; exact this
theorem okZ_all {c : Cx} {fs es : List (FH × Fx)} {Z : ZL} (hZ : Z = c.p.funcs.zip fs ++ c.p.events.zip es) (hg : ∀ p ∈ c.p.funcs, p.1.pn = p.2.params.length) (he : ∀ p ∈ c.p.events, p.1.pn = p.2.params.length) :
    (isFnsB c (c.p.funcs.map (·.2)) (fs.map (·.2)) && isFnsB c (c.p.events.map (·.2)) (es.map (·.2))) = (allZ Z).all (okZ c Z) := by
  rw [zip_all hg, zip_all he, ← List.all_append, ← hZ]
  refine Bool.eq_iff_iff.2 ?_
  simp only [List.all_eq_true]
  constructor
  · intro h i _
    exact h _ (List.getElem_mem i.isLt)
  · intro h z hz
    obtain ⟨k, hk, rfl⟩ := List.mem_iff_getElem.1 hz
    exact h ⟨k, hk⟩ (allZ_mem Z _)
set_option maxRecDepth 100000 in
set_option maxHeartbeats 4000000 in
theorem codeIs_any (SO : ShapeC) (w : World) (C : CH) (c : Cx) (fs es : List (FH × Fx)) (d : CdRd w C c fs es) : Calls Tryz.prog 12 #[C.v] w fun e w' => e = .returned (.bool (isB c)) ∧ Below w.heap.size w w' := by
  have hro : Fence.wide.round = none := rfl
  obtain ⟨A1, hA1⟩ : ∃ A1, A1 = w.alloc (.cells C.cs 51) := ⟨_, rfl⟩
  obtain ⟨W0, hW0⟩ : ∃ W0, W0 = A1.alloc (.cells #[.bool false] 4) := ⟨_, rfl⟩
  have b1 : Below w.heap.size w A1 := by rw [hA1]; exact (Below.refl _ _).alloc (Nat.le_refl _) _
  have z1 : A1.heap.size = w.heap.size + 1 := by rw [hA1]; simp
  have z2 : W0.heap.size = w.heap.size + 2 := by rw [hW0]; simp; omega
  have b2 : Below w.heap.size w W0 := by rw [hW0]; exact b1.alloc (by omega) _
  have m0 : W0.heap[w.heap.size]? = some (.cells C.cs 51 (0, 0)) := by rw [hW0, Below.heap_alloc _ _ _ (by omega), hA1]; exact heap_alloc_new w _
  have m1 : W0.heap[w.heap.size + 1]? = some (.cells #[.bool false] 4 (0, 0)) := by rw [hW0, ← z1]; exact heap_alloc_new A1 _
  have GT : Hid (∀ V : World, Below W0.heap.size W0 V → V.heap[w.heap.size]? = some (.cells C.cs 51 (0, 0)) ∧ V.heap[w.heap.size + 1]? = some (.cells #[.bool false] 4 (0, 0)) ∧ Below w.heap.size w V) := hid (fun V hV => ⟨(hV.block _ (by omega)).trans m0, (hV.block _ (by omega)).trans m1, b2.trans (hV.mono b2.size)⟩)
  have KR := hid (right_any W0 C.h c.p (d.p.below (Nat.le_refl _) b2))
  have KC := hid (fun (V : World) (hV : Below w.heap.size w V) => areConstants_any V C c fs es (d.below (Nat.le_refl _) hV))
  have KF := hid (fun (V : World) => functions_in Fence.wide 5 trivial hro C V)
  have hg : ∀ p ∈ c.p.funcs, p.1.pn = p.2.params.length := fun p hp => (d.p.f.el p hp).pn
  have he : ∀ p ∈ c.p.events, p.1.pn = p.2.params.length := fun p hp => (d.p.e.el p hp).pn
  obtain ⟨Z, hZ⟩ : ∃ Z : ZL, Z = c.p.funcs.zip fs ++ c.p.events.zip es := ⟨_, rfl⟩
  have OZ := hid (okZ_all hZ hg he)
  have SQ := hid (fun (V : World) (hV : Below w.heap.size w V) (Bx : Nat) (hx : V.heap[Bx]? = some (.cells C.cs 51 (0, 0))) (h1 : fs.length = c.p.funcs.length) (h2 : es.length = c.p.events.length) => functions_stops w V C c fs es d hV Bx hx 5 (by omega) h1 h2 Z hZ)
  have KI := hid (fun (V : World) (hV : Below w.heap.size w V) (i : Fin Z.length) => (by
    have hm : Z[i.val] ∈ Z := List.getElem_mem i.isLt
    have hz : SgRd V (Z[i.val]).1.1 (Z[i.val]).1.2 ∧ FnRd V (Z[i.val]).2.1 (Z[i.val]).2.2 := by
      generalize Z[i.val] = z at hm
      rw [hZ] at hm
      rcases List.mem_append.1 hm with h | h
      · exact ⟨(d.p.f.el _ (List.of_mem_zip h).1).below (Nat.le_refl _) hV, (d.f.el _ (List.of_mem_zip h).2).below (Nat.le_refl _) hV⟩
      · exact ⟨(d.p.e.el _ (List.of_mem_zip h).1).below (Nat.le_refl _) hV, (d.e.el _ (List.of_mem_zip h).2).below (Nat.le_refl _) hV⟩
    exact isFunction_any SO V C c fs es (d.below (Nat.le_refl _) hV) (Z[i.val]).1.1 hz.1.p2 (Z[i.val]).2.1 (Z[i.val]).2.2 hz.2 : Calls Tryz.prog 47 #[C.v, fsg (Z[i.val]).1.1, (Z[i.val]).2.1.v] V fun e w' => e = .returned (.bool (okZ c Z i)) ∧ Below V.heap.size V w'))
  have e1 := hid d.f.n1
  have e2 := hid d.e.n1
  have e3 := hid d.p.f.n1
  have e4 := hid d.p.e.n1
  have l1 := d.f.n2
  have l2 := d.e.n2
  have l3 := d.p.f.n2
  have l4 := d.p.e.n2
  obtain ⟨res, hres⟩ : ∃ res, res = isB c := ⟨_, rfl⟩
  rw [← hres]
  have HRES : Hid (res = (rightB c.p && constB c && decide (fs.length = c.p.funcs.length) && decide (es.length = c.p.events.length) && (allZ Z).all (okZ c Z))) := hid (by
    rw [hres, ← OZ.out, d.fe, d.ee]
    unfold isB
    rw [← d.fe, ← d.ee, List.length_map, List.length_map]
    simp only [Bool.and_assoc])
  have HZ0 := hid z2
  have HB2 := hid b2
  have ZC := hid (fun (i : Fin Z.length) => (rfl : encZ Z i = #[fsg (Z[i.val]).1.1, (Z[i.val]).2.1.v]))
  clear hres d b1 b2 m0 m1 hg he OZ z1 z2 hZ
  generalize okZ c Z = okz at KI HRES
  obtain ⟨⟨ra, rn, rc, ma, mn, mc, fa, fn, fc, ea, en, ec⟩, ia, inn, ic, ta, tn, tc, ga, gn, gc, ha, hn, hc⟩ := C
  simp only [CH.v, CH.cs, PH.v] at hA1 GT KR KC KF SQ KI e1 e2 e3 e4 l1 l2 l3 l4 ⊢
  generalize rightB c.p = rb at KR HRES
  generalize constB c = cb at KC HRES
  refine (callsIn_wide (n := 6)).1 ?_
  refine callsIn_of_wp_marks Tryz.func12 rfl trivial ?_ hro
  simp only [Tryz.ntmps12, List.size_toArray, List.length_cons, List.length_nil, Nat.reduceAdd, Nat.reduceSub, Array.replicate_succ, Array.replicate_zero, List.push_toArray, List.append_toArray, List.nil_append, List.cons_append]
  /- What is stored when it is refused. -/
  have FL : Hid (∀ V : World, Below W0.heap.size W0 V → V.cell? ⟨w.heap.size + 1, 0, none⟩ = some (.bool false) ∧ V.frozen? ⟨w.heap.size + 1, 0, none⟩ = false ∧ (V.setCell ⟨w.heap.size + 1, 0, none⟩ (.bool false)).cell? ⟨w.heap.size + 1, 0, none⟩ = some (.bool false) ∧ Below w.heap.size w (V.setCell ⟨w.heap.size + 1, 0, none⟩ (.bool false))) := hid (fun V hV => by
    obtain ⟨_, g, gb⟩ := GT.out V hV
    exact ⟨cellOf g 0, freeOf g 0, cellOf (set_cells g (.bool false)) 0, gb.setCell (p := ⟨w.heap.size + 1, 0, none⟩) (by show w.heap.size ≤ w.heap.size + 1; omega) _⟩)
  have CL : Hid (∀ V : World, Below W0.heap.size W0 V → (V.cell? ⟨w.heap.size, 0, none⟩ = some (.slice ra rn rc) ∧ V.cell? ⟨w.heap.size, 1, none⟩ = some (.slice ma mn mc) ∧ V.cell? ⟨w.heap.size, 2, none⟩ = some (.slice fa fn fc) ∧ V.cell? ⟨w.heap.size, 3, none⟩ = some (.slice ea en ec)) ∧ V.cell? ⟨w.heap.size, 4, none⟩ = some (.slice ia inn ic) ∧ V.cell? ⟨w.heap.size, 5, none⟩ = some (.slice ta tn tc) ∧ V.cell? ⟨w.heap.size, 6, none⟩ = some (.slice ga gn gc) ∧ V.cell? ⟨w.heap.size, 7, none⟩ = some (.slice ha hn hc)) := hid (fun V hV => by
    obtain ⟨g, _, _⟩ := GT.out V hV
    exact ⟨⟨cellOf g 0, cellOf g 1, cellOf g 2, cellOf g 3⟩, cellOf g 4, cellOf g 5, cellOf g 6, cellOf g 7⟩)
  have TR : Hid (∀ {x y : World}, Below W0.heap.size W0 x → Below x.heap.size x y → Below W0.heap.size W0 y) := hid (fun h1 h2 => h1.trans (h2.mono h1.size))
  /- Refused before a function is looked at. -/
  by_cases hr : rb = true
  · by_cases hcb : cb = true
    · by_cases hf1 : gn = fn
      · by_cases hf2 : hn = en
        · subst hf1 hf2
          have hL1 : fs.length = c.p.funcs.length := by have := e1.out; have := e3.out; omega
          have hL2 : es.length = c.p.events.length := by have := e2.out; have := e4.out; omega
          have HALL : Hid (res = (allZ Z).all okz) := hid (by rw [HRES.out, hr, hcb]; simp [hL1, hL2])
          subst hr hcb
          have SQ' := hid (fun (V : World) (hV : Below w.heap.size w V) (Bx : Nat) hx => SQ.out V hV Bx hx hL1 hL2)
          clear SQ HRES hL1 hL2 e1 e2 e3 e4
          have nb1 : ((gn : Int) != (gn : Int)) = false := by simp
          have nb2 : ((hn : Int) != (hn : Int)) = false := by simp
          gi_wp2_with (refine ⟨trivial, ?_⟩; first
            | (gi_at_call 45; (rw [← hA1, ← hW0]; refine (callsIn_wide.2 (Hid.out KR)).mono ?_; rintro e w1 ⟨rfl, hb1⟩; have HB1 := hid hb1; obtain ⟨⟨c0, c1, c2, c3⟩, c4, c5, c6, c7⟩ := CL.out w1 hb1; have KC1 := hid (KC.out w1 (GT.out w1 hb1).2.2); clear hb1))
            | (gi_at_call 46; (refine (callsIn_wide.2 (Hid.out KC1)).mono ?_; rintro e w2 ⟨rfl, hb2⟩; have HB2' := hid (TR.out HB1.out hb2); clear c0 c1 c2 c3 c4 c5 c6 c7; obtain ⟨⟨c0, c1, c2, c3⟩, c4, c5, c6, c7⟩ := CL.out w2 HB2'.out; clear hb2))
            | (gi_at_call 28; (refine (KF.out _).mono ?_; rintro e w3 ⟨rfl, rfl⟩; clear c0 c1 c2 c3 c4 c5 c6 c7)))
          obtain ⟨V, hV⟩ : ∃ V, V = w2.alloc (.cells #[.slice ra rn rc, .slice ma mn mc, .slice fa gn fc, .slice ea hn ec, .slice ia inn ic, .slice ta tn tc, .slice ga gn gc, .slice ha hn hc] 51) := ⟨_, rfl⟩
          rw [← hV]
          have bV : Below W0.heap.size W0 V := by rw [hV]; exact HB2'.out.alloc HB2'.out.size _
          have mb : V.heap[w2.heap.size]? = some (.cells #[.slice ra rn rc, .slice ma mn mc, .slice fa gn fc, .slice ea hn ec, .slice ia inn ic, .slice ta tn tc, .slice ga gn gc, .slice ha hn hc] 51 (0, 0)) := by rw [hV]; exact heap_alloc_new w2 _
          have zV : w2.heap.size < V.heap.size := lt_of_heap mb
          have bwV := (GT.out V bV).2.2
          have hseq := SQ'.out V bwV w2.heap.size mb
          have hwV : w.heap.size + 1 < V.heap.size := by have := bV.size; have := HZ0.out; omega
          have TV := hid (fun (W : World) (h : Below V.heap.size V W) => bV.trans (h.mono bV.size))
          clear hA1 hW0 hV mb bV bwV KR KC KC1 KF SQ' HB1 HB2'
          have hKp : ∀ (pre : List (Fin Z.length)) (W W' : World), BI V okz pre W → Below W.heap.size W W' → KB w.heap.size w2.heap.size W W' ∧ BI V okz pre W' := fun pre W W' hi hb => by
            have := hi.1.size
            exact ⟨KB_of hb (by omega) (by omega), hi.1.trans (hb.mono hi.1.size), hi.2⟩
          refine range_box2 hro (by omega) (gf := 57) (lb := #[.pointer (some ⟨w2.heap.size, 0, none⟩)]) rfl trivial (enters_of Tryz.func57 (by kernel_rfl) rfl) (enc1 := fun i => fsg (Z[i.val]).1.1) (enc2 := fun i => (Z[i.val]).2.1.v) (Kp := KB w.heap.size w2.heap.size) hseq KB_t (KB_b (n₀ := w.heap.size) (Bx := w2.heap.size) (w := V) (by omega) (by omega)) (fun i => (Z[i.val]).1.1.cs.toArray) (fun i => (Z[i.val]).2.1.cs.toArray) 35 46 (BI V okz) (BX w V (w.heap.size + 1) okz) (BI_own V okz) (fun c => BX_own w V _ okz (by omega) c) ⟨Below.refl _ _, by simp⟩ hKp ?round ?done ?stop
          case round =>
            intro ll x W K hK
            have HKK := hid hK
            have KIx := hid (fun V hV => KI.out V hV x)
            have HIX := hid (rfl : okz x = okz x)
            clear hK
            generalize (Z[x.val]).1.1 = gh at HKK KIx ⊢
            generalize (Z[x.val]).2.1 = fh at HKK KIx ⊢
            obtain ⟨nm, pa, pn, pc, kd, rr⟩ := gh
            obtain ⟨regs, oa, on, oc⟩ := fh
            simp only [fsg, FH.v, FH.cs, GH.cs] at HKK KIx ⊢
            simp only [List.setIfInBounds_toArray, List.set_cons_zero, List.set_cons_succ]
            gi_wp2
            refine HKK.out _ _ W.heap.size (W.heap.size + 1) (((Below.refl _ W).alloc (Nat.le_refl _) _).alloc (by simp) _) ((Below.heap_alloc _ _ _ (by simp)).trans (heap_alloc_new W _)) (by have := heap_alloc_new (W.alloc (.cells #[.string nm, .slice pa pn pc, .int .i64 kd, .int .i64 rr] 35)) (.cells #[.int .i64 regs, .slice oa on oc] 46); rw [World.size_alloc] at this; exact this) ?_
            clear HKK K ll hseq
            generalize W.heap.size = X
            obtain ⟨Y, hY⟩ : ∃ Y, Y = X + 1 := ⟨_, rfl⟩
            rw [← hY]
            clear hY W
            intro l' pre W' hl hrr hi hlt mX mY
            obtain ⟨⟨c0, c1, c2, c3⟩, c4, c5, c6, c7⟩ := CL.out W' (TV.out W' hi.1)
            have KX := hid (KIx.out W' (GT.out W' (TV.out W' hi.1)).2.2)
            have s0 := cellOf mX 0
            have s1 := cellOf mX 1
            have s2 := cellOf mX 2
            have s3 := cellOf mX 3
            have f0 := cellOf mY 0
            have f1 := cellOf mY 1
            simp only [List.getElem?_toArray, List.getElem?_cons_zero, List.getElem?_cons_succ] at s0 s1 s2 s3 f0 f1
            have HI := hid hi
            have hsz : V.heap.size ≤ W'.heap.size := hi.1.size
            clear hrr hi mX mY KIx KI HIX
            obtain ⟨v, hv⟩ : ∃ v, okz x = v := ⟨_, rfl⟩
            rw [hv] at KX
            cases v with
            | true =>
              gi_wp2_with (refine ⟨trivial, ?_⟩; gi_at_call 47; (refine (CallsIn.inRound l' (callsIn_wide.2 (Hid.out KX))).mono ?_; rintro e w8 ⟨rfl, hb8⟩))
              exact ⟨keepsFrom_below hb8, KB_of hb8 (by omega) (by omega), HI.out.snoc hv hb8⟩
            | false =>
              have FIN : Hid (∀ w8 : World, Below W'.heap.size W' w8 → w8.cell? ⟨w.heap.size + 1, 0, none⟩ = some (.bool false) ∧ w8.frozen? ⟨w.heap.size + 1, 0, none⟩ = false ∧ KeepsFrom V.heap.size W' (w8.setCell ⟨w.heap.size + 1, 0, none⟩ (.bool false)) ∧ BX w V (w.heap.size + 1) okz .ret (pre ++ [x]) (w8.setCell ⟨w.heap.size + 1, 0, none⟩ (.bool false))) := hid (fun w8 hb8 => by
                obtain ⟨_, g3, gb⟩ := GT.out w8 (TV.out w8 (HI.out.1.trans (hb8.mono HI.out.1.size)))
                exact ⟨cellOf g3 0, freeOf g3 0, (keepsFrom_below hb8).trans ((KeepsOthers.setCell _ _ _).from _), rfl, ⟨_, List.mem_append.2 (.inr (List.mem_singleton.2 rfl)), hv⟩, set_cells g3 _, gb.setCell (p := ⟨w.heap.size + 1, 0, none⟩) (by show w.heap.size ≤ w.heap.size + 1; omega) _⟩)
              gi_wp2_with (refine ⟨trivial, ?_⟩; gi_at_call 47; (refine (CallsIn.inRound l' (callsIn_wide.2 (Hid.out KX))).mono ?_; rintro e w8 ⟨rfl, hb8⟩; have g6 := (FIN.out w8 hb8).1; have g7 := (FIN.out w8 hb8).2.1))
              exact (FIN.out w8 hb8).2.2
          case done =>
            rintro D' ys W hD rfl hI hK
            have HK := hid hK
            obtain ⟨_, g3, gb⟩ := GT.out W (TV.out W hI.1)
            have g6 := cellOf g3 0
            have g7 := freeOf g3 0
            have hresT : Hid (res = true) := hid (by rw [HALL.out, List.all_eq_true]; exact hI.2)
            have G3 := hid g3
            have GB := hid gb
            clear hseq hI hK g3 gb
            gi_wp2
            have hK' : (W.setCell ⟨w.heap.size + 1, 0, none⟩ (.bool true)).heap[D']? = some (.deferred (some [])) := (Below.heap_setCell _ _ _ _ (by show D' ≠ w.heap.size + 1; omega)).trans HK.out
            have h9 := keep_cells (B := 0) (set_cells G3.out (.bool true)) (grownBy_putObj' _ D' (.deferred none)) (fun r e => by cases e; exact ⟨Nat.zero_le _, _, hK', rfl⟩)
            have h10 : Below w.heap.size w ((W.setCell ⟨w.heap.size + 1, 0, none⟩ (.bool true)).putObj D' (.deferred none)) := ownFrom_below (β := Unit) (Nat.le_refl _) (Nat.le_refl _) () _ _ _ (GB.out.setCell (p := ⟨w.heap.size + 1, 0, none⟩) (by show w.heap.size ≤ w.heap.size + 1; omega) _) (grownBy_putObj' _ D' (.deferred none)) (fun r e => by cases e; exact ⟨by omega, _, hK', rfl⟩)
            have q5 := cellOf h9 0
            simp only [List.getElem?_toArray, List.getElem?_cons_zero] at q5
            refine ⟨by simp, .inl ⟨_, _, rfl, run_takeDeferred hK', ?_⟩⟩
            refine ⟨_, by simp [results, Tryz.results12, go_sem, q5]; rfl, ?_⟩
            exact ⟨by rw [hresT.out], h10⟩
          case stop =>
            rintro D' cc pre W hD ⟨kk, hkk⟩ ⟨rfl, ⟨x, hx, hx2⟩, h5, h6⟩ hK
            have hresF : Hid (res = false) := hid (by rw [HALL.out, List.all_eq_false]; exact ⟨x, allZ_mem Z x, by simp [hx2]⟩)
            have HK := hid hK
            clear hseq hK
            gi_wp2
            have h9 := keep_cells (B := 0) h5 (grownBy_putObj' _ D' (.deferred none)) (fun r e => by cases e; exact ⟨Nat.zero_le _, _, HK.out, rfl⟩)
            have h10 : Below w.heap.size w (W.putObj D' (.deferred none)) := ownFrom_below (β := Unit) (Nat.le_refl _) (Nat.le_refl _) () _ _ _ h6 (grownBy_putObj' _ D' (.deferred none)) (fun r e => by cases e; exact ⟨by omega, _, HK.out, rfl⟩)
            have q5 := cellOf h9 0
            simp only [List.getElem?_toArray, List.getElem?_cons_zero] at q5
            refine ⟨by simp, .inl ⟨_, _, rfl, run_takeDeferred HK.out, ?_⟩⟩
            refine ⟨_, by simp [results, Tryz.results12, go_sem, q5]; rfl, ?_⟩
            exact ⟨by rw [hresF.out], h10⟩
        · subst hr hcb hf1
          have HF : Hid (res = false) := hid (by rw [HRES.out]; have := e2.out; have := e4.out; simp; intro _ h; omega)
          have nb1 : ((gn : Int) != (gn : Int)) = false := by simp
          have nb2 : ((hn : Int) != (en : Int)) = true := by simp; omega
          clear HRES SQ KF KI
          gi_wp2_with (refine ⟨trivial, ?_⟩; first
            | (gi_at_call 45; (rw [← hA1, ← hW0]; refine (callsIn_wide.2 (Hid.out KR)).mono ?_; rintro e w1 ⟨rfl, hb1⟩; have HB1 := hid hb1; have g6 := (FL.out w1 hb1).1; have g7 := (FL.out w1 hb1).2.1; have g8 := (FL.out w1 hb1).2.2.1; have HG := hid (FL.out w1 hb1).2.2.2; obtain ⟨⟨c0, c1, c2, c3⟩, c4, c5, c6, c7⟩ := CL.out w1 hb1; have KC1 := hid (KC.out w1 (GT.out w1 hb1).2.2); clear hb1))
            | (gi_at_call 46; (refine (callsIn_wide.2 (Hid.out KC1)).mono ?_; rintro e w2 ⟨rfl, hb2⟩; have HB2' := hid (TR.out HB1.out hb2); clear c0 c1 c2 c3 c4 c5 c6 c7 g6 g7 g8 HG; have g6 := (FL.out w2 HB2'.out).1; have g7 := (FL.out w2 HB2'.out).2.1; have g8 := (FL.out w2 HB2'.out).2.2.1; have HG := hid (FL.out w2 HB2'.out).2.2.2; obtain ⟨⟨c0, c1, c2, c3⟩, c4, c5, c6, c7⟩ := CL.out w2 HB2'.out; clear hb2)))
          exact ⟨_, by simp [results, Tryz.results12, go_sem, g8]; rfl, by rw [HF.out], HG.out⟩
      · subst hr hcb
        have HF : Hid (res = false) := hid (by rw [HRES.out]; have := e1.out; have := e3.out; simp; intro h; omega)
        have nb1 : ((gn : Int) != (fn : Int)) = true := by simp; omega
        clear HRES SQ KF KI
        gi_wp2_with (refine ⟨trivial, ?_⟩; first
          | (gi_at_call 45; (rw [← hA1, ← hW0]; refine (callsIn_wide.2 (Hid.out KR)).mono ?_; rintro e w1 ⟨rfl, hb1⟩; have HB1 := hid hb1; have g6 := (FL.out w1 hb1).1; have g7 := (FL.out w1 hb1).2.1; have g8 := (FL.out w1 hb1).2.2.1; have HG := hid (FL.out w1 hb1).2.2.2; obtain ⟨⟨c0, c1, c2, c3⟩, c4, c5, c6, c7⟩ := CL.out w1 hb1; have KC1 := hid (KC.out w1 (GT.out w1 hb1).2.2); clear hb1))
          | (gi_at_call 46; (refine (callsIn_wide.2 (Hid.out KC1)).mono ?_; rintro e w2 ⟨rfl, hb2⟩; have HB2' := hid (TR.out HB1.out hb2); clear c0 c1 c2 c3 c4 c5 c6 c7 g6 g7 g8 HG; have g6 := (FL.out w2 HB2'.out).1; have g7 := (FL.out w2 HB2'.out).2.1; have g8 := (FL.out w2 HB2'.out).2.2.1; have HG := hid (FL.out w2 HB2'.out).2.2.2; obtain ⟨⟨c0, c1, c2, c3⟩, c4, c5, c6, c7⟩ := CL.out w2 HB2'.out; clear hb2)))
        exact ⟨_, by simp [results, Tryz.results12, go_sem, g8]; rfl, by rw [HF.out], HG.out⟩
    · obtain rfl : cb = false := by simpa using hcb
      subst hr
      have HF : Hid (res = false) := hid (by rw [HRES.out]; simp)
      clear HRES SQ KF KI
      gi_wp2_with (refine ⟨trivial, ?_⟩; first
        | (gi_at_call 45; (rw [← hA1, ← hW0]; refine (callsIn_wide.2 (Hid.out KR)).mono ?_; rintro e w1 ⟨rfl, hb1⟩; have HB1 := hid hb1; have g6 := (FL.out w1 hb1).1; have g7 := (FL.out w1 hb1).2.1; have g8 := (FL.out w1 hb1).2.2.1; have HG := hid (FL.out w1 hb1).2.2.2; obtain ⟨⟨c0, c1, c2, c3⟩, c4, c5, c6, c7⟩ := CL.out w1 hb1; have KC1 := hid (KC.out w1 (GT.out w1 hb1).2.2); clear hb1))
        | (gi_at_call 46; (refine (callsIn_wide.2 (Hid.out KC1)).mono ?_; rintro e w2 ⟨rfl, hb2⟩; have HB2' := hid (TR.out HB1.out hb2); clear c0 c1 c2 c3 c4 c5 c6 c7 g6 g7 g8 HG; have g6 := (FL.out w2 HB2'.out).1; have g7 := (FL.out w2 HB2'.out).2.1; have g8 := (FL.out w2 HB2'.out).2.2.1; have HG := hid (FL.out w2 HB2'.out).2.2.2; obtain ⟨⟨c0, c1, c2, c3⟩, c4, c5, c6, c7⟩ := CL.out w2 HB2'.out; clear hb2)))
      exact ⟨_, by simp [results, Tryz.results12, go_sem, g8]; rfl, by rw [HF.out], HG.out⟩
  · obtain rfl : rb = false := by simpa using hr
    have HF : Hid (res = false) := hid (by rw [HRES.out]; simp)
    clear HRES SQ KF KI
    gi_wp2_with (refine ⟨trivial, ?_⟩; first
      | (gi_at_call 45; (rw [← hA1, ← hW0]; refine (callsIn_wide.2 (Hid.out KR)).mono ?_; rintro e w1 ⟨rfl, hb1⟩; have HB1 := hid hb1; have g6 := (FL.out w1 hb1).1; have g7 := (FL.out w1 hb1).2.1; have g8 := (FL.out w1 hb1).2.2.1; have HG := hid (FL.out w1 hb1).2.2.2; obtain ⟨⟨c0, c1, c2, c3⟩, c4, c5, c6, c7⟩ := CL.out w1 hb1; have KC1 := hid (KC.out w1 (GT.out w1 hb1).2.2); clear hb1))
      | (gi_at_call 46; (refine (callsIn_wide.2 (Hid.out KC1)).mono ?_; rintro e w2 ⟨rfl, hb2⟩; have HB2' := hid (TR.out HB1.out hb2); clear c0 c1 c2 c3 c4 c5 c6 c7 g6 g7 g8 HG; have g6 := (FL.out w2 HB2'.out).1; have g7 := (FL.out w2 HB2'.out).2.1; have g8 := (FL.out w2 HB2'.out).2.2.1; have HG := hid (FL.out w2 HB2'.out).2.2.2; obtain ⟨⟨c0, c1, c2, c3⟩, c4, c5, c6, c7⟩ := CL.out w2 HB2'.out; clear hb2))
      | (rename_i hz; refine hz _ _ ?_; clear hz))
    exact ⟨_, by simp [results, Tryz.results12, go_sem, g8]; rfl, by rw [HF.out], HG.out⟩
end Go.Proofs.YthnolocldeokeaaGreatDoor

namespace Go.Proofs.YthnolocldeokeaaGreatDoor
open Go.RowKit Go.Deep Go.Shelf
set_option linter.unusedVariables false
set_option linter.unusedSimpArgs false
/- A unit has the cells of a code: graphs stand where functions do. -/
def zeroC : Value := .agg #[.slice none 0 0, .slice none 0 0, .slice none 0 0, .slice none 0 0, .slice none 0 0, .slice none 0 0, .slice none 0 0, .slice none 0 0]
def eight (w : World) (b : Nat) (x0 x1 x2 x3 x4 x5 x6 x7 : Value) : World := (((((((w.setCell ⟨b, 0, none⟩ x0).setCell ⟨b, 1, none⟩ x1).setCell ⟨b, 2, none⟩ x2).setCell ⟨b, 3, none⟩ x3).setCell ⟨b, 4, none⟩ x4).setCell ⟨b, 5, none⟩ x5).setCell ⟨b, 6, none⟩ x6).setCell ⟨b, 7, none⟩ x7
theorem eight_new {w : World} {b : Nat} {p0 p1 p2 p3 p4 p5 p6 p7 : Value} {t : TypeId} (h : w.heap[b]? = some (.cells #[p0, p1, p2, p3, p4, p5, p6, p7] t (0, 0))) (x0 x1 x2 x3 x4 x5 x6 x7 : Value) : (eight w b x0 x1 x2 x3 x4 x5 x6 x7).heap[b]? = some (.cells #[x0, x1, x2, x3, x4, x5, x6, x7] t (0, 0)) := by
  have h0 := heap_set_at h 0 x0
  simp only [List.setIfInBounds_toArray, List.set_cons_zero, List.set_cons_succ] at h0
  have h1 := heap_set_at h0 1 x1
  simp only [List.setIfInBounds_toArray, List.set_cons_zero, List.set_cons_succ] at h1
  have h2 := heap_set_at h1 2 x2
  simp only [List.setIfInBounds_toArray, List.set_cons_zero, List.set_cons_succ] at h2
  have h3 := heap_set_at h2 3 x3
  simp only [List.setIfInBounds_toArray, List.set_cons_zero, List.set_cons_succ] at h3
  have h4 := heap_set_at h3 4 x4
  simp only [List.setIfInBounds_toArray, List.set_cons_zero, List.set_cons_succ] at h4
  have h5 := heap_set_at h4 5 x5
  simp only [List.setIfInBounds_toArray, List.set_cons_zero, List.set_cons_succ] at h5
  have h6 := heap_set_at h5 6 x6
  simp only [List.setIfInBounds_toArray, List.set_cons_zero, List.set_cons_succ] at h6
  have h7 := heap_set_at h6 7 x7
  simp only [List.setIfInBounds_toArray, List.set_cons_zero, List.set_cons_succ] at h7
  exact h7
theorem eight_below {B : Nat} {w0 w : World} (hb : Below B w0 w) {b : Nat} (hB : B ≤ b) (x0 x1 x2 x3 x4 x5 x6 x7 : Value) : Below B w0 (eight w b x0 x1 x2 x3 x4 x5 x6 x7) := by
  unfold eight
  exact (((((((hb.setCell hB _).setCell hB _).setCell hB _).setCell hB _).setCell hB _).setCell hB _).setCell hB _).setCell hB _
theorem eight_other (w : World) (b : Nat) (x0 x1 x2 x3 x4 x5 x6 x7 : Value) {g : Nat} (hg : g ≠ b) : (eight w b x0 x1 x2 x3 x4 x5 x6 x7).heap[g]? = w.heap[g]? := by
  unfold eight
  rw [Below.heap_setCell _ ⟨b, 7, none⟩ _ _ (show g ≠ (⟨b, 7, none⟩ : Addr).block from hg)]
  rw [Below.heap_setCell _ ⟨b, 6, none⟩ _ _ (show g ≠ (⟨b, 6, none⟩ : Addr).block from hg)]
  rw [Below.heap_setCell _ ⟨b, 5, none⟩ _ _ (show g ≠ (⟨b, 5, none⟩ : Addr).block from hg)]
  rw [Below.heap_setCell _ ⟨b, 4, none⟩ _ _ (show g ≠ (⟨b, 4, none⟩ : Addr).block from hg)]
  rw [Below.heap_setCell _ ⟨b, 3, none⟩ _ _ (show g ≠ (⟨b, 3, none⟩ : Addr).block from hg)]
  rw [Below.heap_setCell _ ⟨b, 2, none⟩ _ _ (show g ≠ (⟨b, 2, none⟩ : Addr).block from hg)]
  rw [Below.heap_setCell _ ⟨b, 1, none⟩ _ _ (show g ≠ (⟨b, 1, none⟩ : Addr).block from hg)]
  rw [Below.heap_setCell _ ⟨b, 0, none⟩ _ _ (show g ≠ (⟨b, 0, none⟩ : Addr).block from hg)]
theorem FnsN.above {w w' : World} {B : Nat} {v : Value} {l : List Fx} (h : FnsN w B v l) (e : ∀ g, B ≤ g → g < w.heap.size → w'.heap[g]? = w.heap[g]?) : FnsN w' B v l := by
  obtain ⟨fs, h1, h2, h3⟩ := h
  refine ⟨fs, h1, h2.keep fun g hg => e g (h2.own hg).1 (h2.own hg).2, fun p hp => ⟨(h3 p hp).rg, (h3 p hp).op.keep fun b hb => ?_⟩⟩
  have h4 := (h3 p hp).op.2
  rcases h4 with ⟨e1, _⟩ | ⟨b', cap, cur, e1, h5, h6, _⟩
  · rw [e1] at hb; cases hb
  · rw [e1] at hb
    cases hb
    exact e b' h5 (lt_of_heap h6)
/- Either answer of fns in one form. -/
theorem cell_eight {w : World} {b : Nat} {x0 x1 x2 x3 x4 x5 x6 x7 : Value} {t : TypeId} (g : w.heap[b]? = some (.cells #[x0, x1, x2, x3, x4, x5, x6, x7] t (0, 0))) : w.cell? ⟨b, 0, none⟩ = some x0 ∧ w.cell? ⟨b, 1, none⟩ = some x1 ∧ w.cell? ⟨b, 2, none⟩ = some x2 ∧ w.cell? ⟨b, 3, none⟩ = some x3 ∧ w.cell? ⟨b, 4, none⟩ = some x4 ∧ w.cell? ⟨b, 5, none⟩ = some x5 ∧ w.cell? ⟨b, 6, none⟩ = some x6 ∧ w.cell? ⟨b, 7, none⟩ = some x7 := ⟨cellOf g 0, cellOf g 1, cellOf g 2, cellOf g 3, cellOf g 4, cellOf g 5, cellOf g 6, cellOf g 7⟩
theorem free_eight {w : World} {b : Nat} {c : Array Value} {t : TypeId} (g : w.heap[b]? = some (.cells c t (0, 0))) : w.frozen? ⟨b, 0, none⟩ = false ∧ w.frozen? ⟨b, 1, none⟩ = false ∧ w.frozen? ⟨b, 2, none⟩ = false ∧ w.frozen? ⟨b, 3, none⟩ = false ∧ w.frozen? ⟨b, 4, none⟩ = false ∧ w.frozen? ⟨b, 5, none⟩ = false ∧ w.frozen? ⟨b, 6, none⟩ = false ∧ w.frozen? ⟨b, 7, none⟩ = false := ⟨freeOf g 0, freeOf g 1, freeOf g 2, freeOf g 3, freeOf g 4, freeOf g 5, freeOf g 6, freeOf g 7⟩
end Go.Proofs.YthnolocldeokeaaGreatDoor

