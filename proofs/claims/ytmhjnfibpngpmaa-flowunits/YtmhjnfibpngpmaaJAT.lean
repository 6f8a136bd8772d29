/- flow.newProgram. -/
import Derived.Test.YtmhjnfibpngpmaaJAS
namespace Go.Proofs.Ytmhjnfibpngpmaa
open Go.RowKit Go.Deep Go.Shelf
set_option linter.unusedVariables false
set_option linter.unusedSimpArgs false
/- The boxes of newProgram: what came, what is answered, what is made. -/
structure NP (w wr : World) (X : Nat) (cs : Array Value) (u m : Value) : Prop where
  b : Below w.heap.size w wr
  x : wr.heap[X]? = some (.cells cs 36 (0, 0))
  r : wr.heap[X + 1]? = some (.cells #[.slice none 0 0, .slice none 0 0, .slice none 0 0, .slice none 0 0] 36 (0, 0))
  f : wr.heap[X + 1 + 1]? = some (.cells #[u, m, .slice none 0 0, .slice none 0 0] 36 (0, 0))
theorem NP.below {w wr w' : World} {X : Nat} {cs : Array Value} {u m : Value} (h : NP w wr X cs u m) (k : Below wr.heap.size wr w') : NP w w' X cs u m := ⟨h.b.trans (k.mono h.b.size), (k.block _ (lt_of_heap h.x)).trans h.x, (k.block _ (lt_of_heap h.r)).trans h.r, (k.block _ (lt_of_heap h.f)).trans h.f⟩
/- An append in place leaves the boxes. -/
theorem NP.grown {w wr w' : World} {X : Nat} {cs : Array Value} {u m v : Value} {E : TypeId} {k : Nat} {l : List (List Value)} (hX : X = w.heap.size) (h : NP w wr X cs u m) (kr : KR E k wr (X + 3) v l) (hg : wr.grownBy w' v.ownBlock) : NP w w' X cs u m := by
  have hb : ∀ g, g < X + 3 → g < wr.heap.size → w'.heap[g]? = wr.heap[g]? := fun g h1 h2 => hg.block g h2 (fun e => by have := (kr.own e.symm).1; omega)
  have hz := lt_of_heap h.f
  refine ⟨KR.grown h.b (kr.lower (by omega)) hg h.b.size, (hb X (by omega) (lt_of_heap h.x)).trans h.x, (hb (X + 1) (by omega) (lt_of_heap h.r)).trans h.r, (hb (X + 1 + 1) (by omega) (lt_of_heap h.f)).trans h.f⟩
theorem NP.set0 {w wr : World} {X : Nat} {cs : Array Value} {u m : Value} (hX : X = w.heap.size) (h : NP w wr X cs u m) (v : Value) : NP w (wr.setCell ⟨X + 1 + 1, 0, none⟩ v) X cs v m := by
  refine ⟨h.b.setCell (by show w.heap.size ≤ X + 1 + 1; omega) _, ?_, ?_, ?_⟩
  · rw [Below.heap_setCell _ ⟨X + 1 + 1, 0, none⟩ _ _ (show X ≠ X + 1 + 1 by omega)]; exact h.x
  · rw [Below.heap_setCell _ ⟨X + 1 + 1, 0, none⟩ _ _ (show X + 1 ≠ X + 1 + 1 by omega)]; exact h.r
  · have := heap_set_at h.f 0 v
    simp only [List.setIfInBounds_toArray, List.set_cons_zero, List.set_cons_succ] at this
    exact this
theorem NP.set1 {w wr : World} {X : Nat} {cs : Array Value} {u m : Value} (hX : X = w.heap.size) (h : NP w wr X cs u m) (v : Value) : NP w (wr.setCell ⟨X + 1 + 1, 1, none⟩ v) X cs u v := by
  refine ⟨h.b.setCell (by show w.heap.size ≤ X + 1 + 1; omega) _, ?_, ?_, ?_⟩
  · rw [Below.heap_setCell _ ⟨X + 1 + 1, 1, none⟩ _ _ (show X ≠ X + 1 + 1 by omega)]; exact h.x
  · rw [Below.heap_setCell _ ⟨X + 1 + 1, 1, none⟩ _ _ (show X + 1 ≠ X + 1 + 1 by omega)]; exact h.r
  · have := heap_set_at h.f 1 v
    simp only [List.setIfInBounds_toArray, List.set_cons_zero, List.set_cons_succ] at this
    exact this
theorem set_above {wr : World} {X c : Nat} (v : Value) : ∀ g, X + 3 ≤ g → g < wr.heap.size → (wr.setCell ⟨X + 1 + 1, c, none⟩ v).heap[g]? = wr.heap[g]? := fun g h1 _ => Below.heap_setCell _ ⟨X + 1 + 1, c, none⟩ _ _ (show g ≠ X + 1 + 1 by omega)
def quad (w : World) (b : Nat) (x0 x1 x2 x3 : Value) : World := (((w.setCell ⟨b, 0, none⟩ x0).setCell ⟨b, 1, none⟩ x1).setCell ⟨b, 2, none⟩ x2).setCell ⟨b, 3, none⟩ x3
theorem quad_new {w : World} {b : Nat} {p0 p1 p2 p3 : Value} {t : TypeId} (h : w.heap[b]? = some (.cells #[p0, p1, p2, p3] t (0, 0))) (x0 x1 x2 x3 : Value) : (quad w b x0 x1 x2 x3).heap[b]? = some (.cells #[x0, x1, x2, x3] t (0, 0)) := by
  have h0 := heap_set_at h 0 x0
  simp only [List.setIfInBounds_toArray, List.set_cons_zero, List.set_cons_succ] at h0
  have h1 := heap_set_at h0 1 x1
  simp only [List.setIfInBounds_toArray, List.set_cons_zero, List.set_cons_succ] at h1
  have h2 := heap_set_at h1 2 x2
  simp only [List.setIfInBounds_toArray, List.set_cons_zero, List.set_cons_succ] at h2
  have h3 := heap_set_at h2 3 x3
  simp only [List.setIfInBounds_toArray, List.set_cons_zero, List.set_cons_succ] at h3
  exact h3
theorem quad_below {B : Nat} {w0 w : World} (hb : Below B w0 w) {b : Nat} (hB : B ≤ b) (x0 x1 x2 x3 : Value) : Below B w0 (quad w b x0 x1 x2 x3) := (((hb.setCell hB _).setCell hB _).setCell hB _).setCell hB _
theorem quad_other (w : World) (b : Nat) (x0 x1 x2 x3 : Value) {g : Nat} (hg : g ≠ b) : (quad w b x0 x1 x2 x3).heap[g]? = w.heap[g]? := by
  unfold quad
  rw [Below.heap_setCell _ ⟨b, 3, none⟩ _ _ (show g ≠ (⟨b, 3, none⟩ : Addr).block from hg)]
  rw [Below.heap_setCell _ ⟨b, 2, none⟩ _ _ (show g ≠ (⟨b, 2, none⟩ : Addr).block from hg)]
  rw [Below.heap_setCell _ ⟨b, 1, none⟩ _ _ (show g ≠ (⟨b, 1, none⟩ : Addr).block from hg)]
  rw [Below.heap_setCell _ ⟨b, 0, none⟩ _ _ (show g ≠ (⟨b, 0, none⟩ : Addr).block from hg)]
theorem quad_size (w : World) (b : Nat) (x0 x1 x2 x3 : Value) : (quad w b x0 x1 x2 x3).heap.size = w.heap.size := by unfold quad; simp
set_option maxRecDepth 100000 in
set_option maxHeartbeats 8000000 in
theorem newProgram_any (w : World) (h : PH) (p : Pg) (d : PRd w h p) (hr : rightB p = true) (hn : PNil p) : Calls Try.prog 33 #[h.v] w (PNw w p) := by
  have SM := hid (right_sm hr)
  have NL := hid hn
  have r1 := hid d.r.n1
  have m1 := hid d.m.n1
  have f1 := hid d.f.n1
  have e1 := hid d.e.n1
  have D := hid (fun (V : World) (hV : Below w.heap.size w V) => d.below (Nat.le_refl _) hV)
  clear d hr hn
  obtain ⟨ra, rn, rc, ma, mn, mc, fa, fn, fc, ea, en, ec⟩ := h
  simp only [PH.v] at r1 m1 f1 e1 D ⊢
  have rI : (rn : Int) ≤ 16 := by have := r1.out; have := SM.out.rl; omega
  have mI : (mn : Int) ≤ 16 := by have := m1.out; have := SM.out.ml; omega
  have fI : fn ≤ 1000000 := by have := f1.out; have := SM.out.fl; omega
  have eI : en ≤ 1000000 := by have := e1.out; have := SM.out.el; omega
  obtain ⟨W0, hW0⟩ : ∃ W0, W0 = ((w.alloc (.cells #[.slice ra rn rc, .slice ma mn mc, .slice fa fn fc, .slice ea en ec] 36)).alloc (.cells #[.slice none 0 0, .slice none 0 0, .slice none 0 0, .slice none 0 0] 36)).alloc (.cells #[.slice none 0 0, .slice none 0 0, .slice none 0 0, .slice none 0 0] 36) := ⟨_, rfl⟩
  have bw : Below w.heap.size w W0 := by rw [hW0]; exact (((Below.refl _ _).alloc (Nat.le_refl _) _).alloc (by simp) _).alloc (by simp; omega) _
  have q0 : W0.heap[w.heap.size]? = some (.cells #[.slice ra rn rc, .slice ma mn mc, .slice fa fn fc, .slice ea en ec] 36 (0, 0)) := by rw [hW0, Below.heap_alloc _ _ _ (by simp; omega), Below.heap_alloc _ _ _ (by simp)]; exact heap_alloc_new w _
  have q1 : W0.heap[w.heap.size + 1]? = some (.cells #[.slice none 0 0, .slice none 0 0, .slice none 0 0, .slice none 0 0] 36 (0, 0)) := by
    rw [hW0, Below.heap_alloc _ _ _ (by simp)]
    have := heap_alloc_new (w.alloc (.cells #[.slice ra rn rc, .slice ma mn mc, .slice fa fn fc, .slice ea en ec] 36)) (.cells #[.slice none 0 0, .slice none 0 0, .slice none 0 0, .slice none 0 0] 36)
    rw [World.size_alloc] at this; exact this
  have q2 : W0.heap[w.heap.size + 1 + 1]? = some (.cells #[.slice none 0 0, .slice none 0 0, .slice none 0 0, .slice none 0 0] 36 (0, 0)) := by
    have := heap_alloc_new ((w.alloc (.cells #[.slice ra rn rc, .slice ma mn mc, .slice fa fn fc, .slice ea en ec] 36)).alloc (.cells #[.slice none 0 0, .slice none 0 0, .slice none 0 0, .slice none 0 0] 36)) (.cells #[.slice none 0 0, .slice none 0 0, .slice none 0 0, .slice none 0 0] 36)
    rw [World.size_alloc, World.size_alloc] at this; rw [hW0]; exact this
  obtain ⟨X, hX⟩ : ∃ X, X = w.heap.size := ⟨_, rfl⟩
  rw [← hX] at q0 q1 q2
  have N0 := hid (⟨bw, q0, q1, q2⟩ : NP w W0 X #[.slice ra rn rc, .slice ma mn mc, .slice fa fn fc, .slice ea en ec] (.slice none 0 0) (.slice none 0 0))
  have HX := hid hX
  clear q1 q2 bw
  go_enter Try.func33, Try.ntmps33
  go_upto_region 2 with fail
  rw [← hX, ← hW0]
  clear hW0 hX
  have x0 := cellOf q0 0
  have x1 := cellOf q0 1
  have x2 := cellOf q0 2
  have x3 := cellOf q0 3
  simp only [List.getElem?_toArray, List.getElem?_cons_zero, List.getElem?_cons_succ] at x0 x1 x2 x3
  clear q0
  have XC : Hid (∀ (V : World) (u m : Value), NP w V X #[.slice ra rn rc, .slice ma mn mc, .slice fa fn fc, .slice ea en ec] u m → V.cell? ⟨X, 0, none⟩ = some (.slice ra rn rc) ∧ V.cell? ⟨X, 1, none⟩ = some (.slice ma mn mc) ∧ V.cell? ⟨X, 2, none⟩ = some (.slice fa fn fc) ∧ V.cell? ⟨X, 3, none⟩ = some (.slice ea en ec)) := hid (fun V u m hV => ⟨cellOf hV.x 0, cellOf hV.x 1, cellOf hV.x 2, cellOf hV.x 3⟩)
  go_wp2
  clear x0 x1 x2 x3
  go_loopg [11] rn (fun g x wr => ∃ (j : Nat) (u : Value), j + g = rn ∧ x = .int .i64 (j : Int) ∧ NP w wr X #[.slice ra rn rc, .slice ma mn mc, .slice fa fn fc, .slice ea en ec] u (.slice none 0 0) ∧ RcsN wr (X + 3) u ((p.recs.take j).map (·.2)))
  case atStart => exact ⟨0, .slice none 0 0, by omega, rfl, N0.out, [], rfl, KR.nil _ _ _ _, fun p hp => by simp at hp⟩
  case round =>
    obtain ⟨j, u, hj, rfl, hN, hR⟩ := hrel
    cases gk with
    | succ g =>

      have hlj : j < p.recs.length := by rw [← r1.out]; omega
      have hgj : p.recs[j]? = some p.recs[j] := List.getElem?_eq_getElem hlj
      obtain ⟨b, off, ea1, hbl, hc⟩ := (D.out wr hN.b).r.rd j (p.recs[j]).1.cs (by simp [hgj])
      have rd := (D.out wr hN.b).r.el _ (List.getElem_mem hlj)
      have sm := SM.out.r _ (List.getElem_mem hlj)
      have nl := NL.out.r _ (List.getElem_mem hlj)
      have ht : Hid ((p.recs.take (j + 1)).map (·.2) = (p.recs.take j).map (·.2) ++ [(p.recs[j]).2]) := hid (by rw [List.take_add_one, hgj, List.map_append]; rfl)
      generalize p.recs[j] = rj at hgj hc rd sm nl ht
      obtain ⟨⟨nm, fa1, fn1, fc1, ta, tn, tc⟩, rx⟩ := rj
      subst ea1
      have sm : RcSm rx := sm
      have s0 := hc 0 (by omega)
      have s1 := hc 1 (by omega)
      have s2 := hc 2 (by omega)
      simp only [RH.cs, List.getElem?_cons_zero, List.getElem?_cons_succ, Nat.add_zero] at s0 s1 s2 nl
      have hjI : (j : Int) < (rn : Int) := by omega
      have hj0 : (0 : Int) ≤ (j : Int) := by omega
      obtain ⟨l, hg1, hg2, hg3⟩ := hR
      obtain ⟨A, hA⟩ : ∃ A, A = wr.alloc (.cells #[.string nm, .slice fa1 fn1 fc1, .slice ta tn tc] 32) := ⟨_, rfl⟩
      obtain ⟨Y, hY⟩ : ∃ Y, Y = wr.heap.size := ⟨_, rfl⟩
      have bA : Below wr.heap.size wr A := by rw [hA]; exact (Below.refl _ _).alloc (Nat.le_refl _) _
      have mY : A.heap[Y]? = some (.cells #[.string nm, .slice fa1 fn1 fc1, .slice ta tn tc] 32 (0, 0)) := by rw [hA, hY]; exact heap_alloc_new wr _
      have hnm : nm = rx.name := rd.nm
      have hnmS : nm.size ≤ 20 := by rw [hnm]; exact sm.nm
      have K1 := hid (clone_any A.drew nm (by omega))
      have K2 := hid (fun (V : World) (hV : Below wr.heap.size wr V) => newTexts_any V fa1 fn1 fc1 rx.fields rd.fn (by have e : fn1 = rx.fields.length := rd.fn; have := sm.fl; omega) (rd.fr.below (Nat.le_refl _) hV) (fun s hs => by have := sm.fs s hs; omega))
      have K3 := hid (fun (V : World) (hV : Below wr.heap.size wr V) => newTypes_any V ta tn tc rx.types rd.tn (by have e : tn = rx.types.length := rd.tn; have := sm.tl; omega) (rd.tr.below (Nat.le_refl _) hV) nl)
      have hzF := lt_of_heap hN.f
      have ST : Hid (∀ v : World, Below A.heap.size A v → v.cell? ⟨X + 1 + 1, 0, none⟩ = some u ∧ v.cell? ⟨Y, 0, none⟩ = some (.string nm) ∧ v.cell? ⟨Y, 1, none⟩ = some (.slice fa1 fn1 fc1) ∧ v.cell? ⟨Y, 2, none⟩ = some (.slice ta tn tc)) := hid (fun v hv => by
        have h := (hv.block Y (lt_of_heap mY)).trans mY
        have h2 := (hN.below (bA.trans (hv.mono bA.size))).f
        exact ⟨cellOf h2 0, cellOf h 0, cellOf h 1, cellOf h 2⟩)
      have WA : Hid (∀ v : World, Below A.heap.size A v → Below wr.heap.size wr v) := hid (fun v hv => bA.trans (hv.mono bA.size))
      have hlen : (l.map fun p => p.1.cs).length ≤ 1000000 := by
        have := congrArg List.length hg1
        rw [List.length_map, List.length_map, List.length_take] at this
        rw [List.length_map]; omega
      have WS := hid (fun (V : World) (hV : Below A.heap.size A V) => (by have := (WA.out V hV).size; omega : X + 3 ≤ V.heap.size))
      have KRw := hid (fun (w9 : World) (a8 : Option Addr) (l8 c8 : Nat) (a9 : Option Addr) (l9 c9 : Nat) (h1 : Below A.heap.size A w9) => (by
        have b1 := WA.out w9 h1
        have b2 := b1.alloc b1.size (.cells #[.string nm, .slice a8 l8 c8, .slice a9 l9 c9] 32)
        exact ⟨hg2.below (Nat.le_refl _) b2, by have := b2.size; omega⟩ : KR 32 3 (w9.alloc (.cells #[.string nm, .slice a8 l8 c8, .slice a9 l9 c9] 32)) (X + 3) u (l.map fun p => p.1.cs) ∧ X + 3 ≤ (w9.alloc (.cells #[.string nm, .slice a8 l8 c8, .slice a9 l9 c9] 32)).heap.size))
      have FIN : Hid (∀ (w9 : World) (a8 : Option Addr) (l8 c8 : Nat) (a9 : Option Addr) (l9 c9 : Nat) (v' : Value) (w' : World), Below A.heap.size A w9 → KR 9 1 w9 (X + 3) (.slice a8 l8 c8) (rx.fields.map stc) → KR 24 2 w9 (X + 3) (.slice a9 l9 c9) (rx.types.map tyc) → KR 32 3 w' (X + 3) v' ((l.map fun p => p.1.cs) ++ [(⟨nm, a8, l8, c8, a9, l9, c9⟩ : RH).cs]) → (w9.alloc (.cells #[.string nm, .slice a8 l8 c8, .slice a9 l9 c9] 32)).grownBy w' u.ownBlock →
          (w'.cell? ⟨X + 1 + 1, 0, none⟩ = some u ∧ w'.cell? ⟨Y, 0, none⟩ = some (.string nm) ∧ w'.cell? ⟨Y, 1, none⟩ = some (.slice fa1 fn1 fc1) ∧ w'.cell? ⟨Y, 2, none⟩ = some (.slice ta tn tc)) ∧ w'.frozen? ⟨X + 1 + 1, 0, none⟩ = false ∧ NP w (w'.setCell ⟨X + 1 + 1, 0, none⟩ v') X #[.slice (some ⟨b, off, none⟩) rn rc, .slice ma mn mc, .slice fa fn fc, .slice ea en ec] v' (.slice none 0 0) ∧ RcsN (w'.setCell ⟨X + 1 + 1, 0, none⟩ v') (X + 3) v' ((p.recs.take (j + 1)).map (·.2))) := hid (fun w9 a8 l8 c8 a9 l9 c9 v' w' h1 h2 h3 h4 h5 => by
        have b1 := WA.out w9 h1
        have b2 := b1.alloc b1.size (.cells #[.string nm, .slice a8 l8 c8, .slice a9 l9 c9] 32)
        have kr := hg2.below (Nat.le_refl _) b2
        have n2 := (hN.below b2).grown HX.out kr h5
        have hYY : w'.heap[Y]? = some (.cells #[.string nm, .slice fa1 fn1 fc1, .slice ta tn tc] 32 (0, 0)) := by
          have h0 : w9.heap[Y]? = _ := (h1.block Y (lt_of_heap mY)).trans mY
          refine (h5.block Y (by rw [World.size_alloc]; have := lt_of_heap h0; omega) (fun e => ?_)).trans ((Below.heap_alloc _ _ _ (lt_of_heap h0)).trans h0)
          have := (hg2.own e.symm).2
          omega
        refine ⟨⟨cellOf n2.f 0, cellOf hYY 0, cellOf hYY 1, cellOf hYY 2⟩, freeOf n2.f 0, n2.set0 HX.out v', l ++ [(⟨nm, a8, l8, c8, a9, l9, c9⟩, rx)], by rw [List.map_append, hg1, ht.out]; rfl, by rw [List.map_append]; exact h4.above (set_above v'), fun q hq => ?_⟩
        rcases List.mem_append.1 hq with hq | hq
        · exact (((hg3 q hq).above fun g _ hg => b2.block g hg).other (by decide) (by decide) kr h5).above (set_above v')
        · simp at hq
          subst hq
          have ba : Below w9.heap.size w9 (w9.alloc (.cells #[.string nm, .slice a8 l8 c8, .slice a9 l9 c9] 32)) := (Below.refl _ w9).alloc (Nat.le_refl _) _
          exact (((⟨hnm, sm, h2.below (Nat.le_refl _) ba, h3.below (Nat.le_refl _) ba⟩ : RNew _ (X + 3) ((⟨nm, a8, l8, c8, a9, l9, c9⟩ : RH), rx)).other (by decide) (by decide) kr h5)).above (set_above v'))
      have HN := hid hN
      clear hg1 hg2 hg3 rd sm hc hbl hgj bA mY hlj nl hN hnm
      go_upto_region 5 with fail
      rw [← hA, ← hY]
      clear hA hY s0 s1 s2
      obtain ⟨y0, y1, y2, y3⟩ := ST.out A (Below.refl _ _)
      refine wp_region_I 15 (fun v : World => v.cell? ⟨X + 1 + 1, 0, none⟩ = some u ∧ v.cell? ⟨Y, 0, none⟩ = some (.string nm) ∧ v.cell? ⟨Y, 1, none⟩ = some (.slice fa1 fn1 fc1) ∧ v.cell? ⟨Y, 2, none⟩ = some (.slice ta tn tc)) (by kernel_rfl) (by go_keep) (fun hHeld => ?_)
      refine wpAnyI_take (i := 0) (oi := { dst := some 15, op := Go.Op.fieldAddr 36 (Go.Operand.tmp 3) 0, type := 0, pos := "fresh.go:14", after := #[], guard := none }) (v := ?_) [15] rfl (by kernel_rfl) (by kernel_rfl) (by kernel_rfl) (by kernel_rfl) (fun _ _ _ h => h) (Or.inl ⟨by rfl, ?_⟩) (by assumption) ?_
      rotate_left
      · (intro w hSw; (try dsimp only at hSw); go_simp; (try with_reducible rfl))
      (try simp only [Act.put, List.setIfInBounds_toArray, List.set_cons_zero, List.set_cons_succ])
      refine wpAnyI_take (i := 1) (oi := { dst := some 16, op := Go.Op.load 33 (Go.Operand.tmp 15), type := 33, pos := "fresh.go:14", after := #[{ on := 0, ground := Go.Ground.data }], guard := none }) (v := ?_) [15] rfl (by kernel_rfl) (by kernel_rfl) (by kernel_rfl) (by kernel_rfl) (fun _ _ _ h => h) (Or.inl ⟨by rfl, ?_⟩) (by assumption) ?_
      rotate_left
      · (intro w hSw; (try dsimp only at hSw); go_simp; (try with_reducible rfl))
      (try simp only [Act.put, List.setIfInBounds_toArray, List.set_cons_zero, List.set_cons_succ])
      refine wpAnyI_take (i := 2) (oi := { dst := some 17, op := Go.Op.fieldAddr 32 (Go.Operand.tmp 5) 0, type := 0, pos := "fresh.go:14", after := #[], guard := none }) (v := ?_) [15] rfl (by kernel_rfl) (by kernel_rfl) (by kernel_rfl) (by kernel_rfl) (fun _ _ _ h => h) (Or.inl ⟨by rfl, ?_⟩) (by assumption) ?_
      rotate_left
      · (intro w hSw; (try dsimp only at hSw); go_simp; (try with_reducible rfl))
      (try simp only [Act.put, List.setIfInBounds_toArray, List.set_cons_zero, List.set_cons_succ])
      refine wpAnyI_take (i := 3) (oi := { dst := some 18, op := Go.Op.load 9 (Go.Operand.tmp 17), type := 9, pos := "fresh.go:14", after := #[{ on := 2, ground := Go.Ground.data }], guard := none }) (v := ?_) [15] rfl (by kernel_rfl) (by kernel_rfl) (by kernel_rfl) (by kernel_rfl) (fun _ _ _ h => h) (Or.inl ⟨by rfl, ?_⟩) (by assumption) ?_
      rotate_left
      · (intro w hSw; (try dsimp only at hSw); go_simp; (try with_reducible rfl))
      (try simp only [Act.put, List.setIfInBounds_toArray, List.set_cons_zero, List.set_cons_succ])
      refine wpAnyI_take (i := 5) (oi := { dst := some 20, op := Go.Op.fieldAddr 32 (Go.Operand.tmp 5) 1, type := 0, pos := "fresh.go:14", after := #[], guard := none }) (v := ?_) [15] rfl (by kernel_rfl) (by kernel_rfl) (by kernel_rfl) (by kernel_rfl) (fun _ _ _ h => h) (Or.inl ⟨by rfl, ?_⟩) (by assumption) ?_
      rotate_left
      · (intro w hSw; (try dsimp only at hSw); go_simp; (try with_reducible rfl))
      (try simp only [Act.put, List.setIfInBounds_toArray, List.set_cons_zero, List.set_cons_succ])
      refine wpAnyI_take (i := 6) (oi := { dst := some 21, op := Go.Op.load 26 (Go.Operand.tmp 20), type := 26, pos := "fresh.go:14", after := #[{ on := 5, ground := Go.Ground.data }], guard := none }) (v := ?_) [15] rfl (by kernel_rfl) (by kernel_rfl) (by kernel_rfl) (by kernel_rfl) (fun _ _ _ h => h) (Or.inl ⟨by rfl, ?_⟩) (by assumption) ?_
      rotate_left
      · (intro w hSw; (try dsimp only at hSw); go_simp; (try with_reducible rfl))
      (try simp only [Act.put, List.setIfInBounds_toArray, List.set_cons_zero, List.set_cons_succ])
      refine wpAnyI_take (i := 8) (oi := { dst := some 23, op := Go.Op.fieldAddr 32 (Go.Operand.tmp 5) 2, type := 0, pos := "fresh.go:14", after := #[], guard := none }) (v := ?_) [15] rfl (by kernel_rfl) (by kernel_rfl) (by kernel_rfl) (by kernel_rfl) (fun _ _ _ h => h) (Or.inl ⟨by rfl, ?_⟩) (by assumption) ?_
      rotate_left
      · (intro w hSw; (try dsimp only at hSw); go_simp; (try with_reducible rfl))
      (try simp only [Act.put, List.setIfInBounds_toArray, List.set_cons_zero, List.set_cons_succ])
      refine wpAnyI_take (i := 9) (oi := { dst := some 24, op := Go.Op.load 25 (Go.Operand.tmp 23), type := 25, pos := "fresh.go:14", after := #[{ on := 8, ground := Go.Ground.data }], guard := none }) (v := ?_) [15] rfl (by kernel_rfl) (by kernel_rfl) (by kernel_rfl) (by kernel_rfl) (fun _ _ _ h => h) (Or.inl ⟨by rfl, ?_⟩) (by assumption) ?_
      rotate_left
      · (intro w hSw; (try dsimp only at hSw); go_simp; (try with_reducible rfl))
      (try simp only [Act.put, List.setIfInBounds_toArray, List.set_cons_zero, List.set_cons_succ])
      refine wpAnyI_one (i := 4) (o := { dst := some 19, op := Go.Op.call { callee := Go.Callee.value (Go.Operand.func 80), args := #[Go.Operand.tmp 18], argTypes := #[9] }, type := 9, pos := "fresh.go:14", after := #[{ on := 3, ground := Go.Ground.data }], guard := none }) (by kernel_rfl) rfl (fun K hK => ?_)
      go_simp
      (refine (Hid.out K1).mono ?_; rintro e w7 ⟨rfl, hb7⟩; have h7 : Below A.heap.size A w7 := (Below.refl _ A).drew.trans hb7; have s7 := ST.out w7 h7)
      try go_wp2_with fail
      refine hK.out _ _ s7 (fun hHeldN => ?_)
      clear hK K hHeld
      have hHeld := hHeldN
      clear hHeldN
      (try simp only [Act.put, List.setIfInBounds_toArray, List.set_cons_zero, List.set_cons_succ])
      refine wpAnyI_one (i := 7) (o := { dst := some 22, op := Go.Op.call { callee := Go.Callee.value (Go.Operand.func 35), args := #[Go.Operand.tmp 21], argTypes := #[26] }, type := 26, pos := "fresh.go:14", after := #[{ on := 6, ground := Go.Ground.data }, { on := 4, ground := Go.Ground.chain }], guard := none }) (by kernel_rfl) rfl (fun K hK => ?_)
      go_simp
      (refine (K2.out w7 (WA.out w7 h7)).mono ?_; rintro e w8 ⟨v8, rfl, hk8, hb8⟩; obtain ⟨a8, c8, hv, hcc, _, _, _⟩ := hk8.rd; obtain ⟨l8, hl8⟩ : ∃ q, q = (rx.fields.map stc).length := ⟨_, rfl⟩; rw [← hl8] at hv; subst hv; clear hl8 hcc; have h8 : Below A.heap.size A w8 := h7.trans (hb8.mono h7.size); have s8 := ST.out w8 h8)
      try go_wp2_with fail
      refine hK.out _ _ s8 (fun hHeldN => ?_)
      clear hK K hHeld
      have hHeld := hHeldN
      clear hHeldN
      (try simp only [Act.put, List.setIfInBounds_toArray, List.set_cons_zero, List.set_cons_succ])
      refine wpAnyI_one (i := 10) (o := { dst := some 25, op := Go.Op.call { callee := Go.Callee.value (Go.Operand.func 81), args := #[Go.Operand.tmp 24], argTypes := #[25] }, type := 25, pos := "fresh.go:14", after := #[{ on := 9, ground := Go.Ground.data }, { on := 7, ground := Go.Ground.chain }], guard := none }) (by kernel_rfl) rfl (fun K hK => ?_)
      go_simp
      (refine (K3.out w8 (WA.out w8 h8)).mono ?_; rintro e w9 ⟨v9, rfl, hk9, hb9⟩; obtain ⟨a9, c9, hv, hcc, _, _, _⟩ := hk9.rd; obtain ⟨l9, hl8⟩ : ∃ q, q = (rx.types.map tyc).length := ⟨_, rfl⟩; rw [← hl8] at hv; subst hv; clear hl8 hcc; have h9 : Below A.heap.size A w9 := h8.trans (hb9.mono h8.size); have s9 := ST.out w9 h9; have HK8 := hid ((hk8.below (Nat.le_refl _) hb9).lower (WS.out w7 h7)); have HK9 := hid (hk9.lower (WS.out w8 h8)); obtain ⟨z0, z1, z2, z3⟩ := s9)
      try go_wp2_with fail
      refine hK.out _ _ ⟨z0, z1, z2, z3⟩ (fun hHeldN => ?_)
      clear hK K hHeld
      have hHeld := hHeldN
      clear hHeldN
      (try simp only [Act.put, List.setIfInBounds_toArray, List.set_cons_zero, List.set_cons_succ])
      refine wpAnyI_take (i := 11) (oi := { dst := some 26, op := Go.Op.build 32 #[(0, Go.Operand.tmp 19), (1, Go.Operand.tmp 22), (2, Go.Operand.tmp 25)], type := 32, pos := "fresh.go:14", after := #[{ on := 4, ground := Go.Ground.data }, { on := 7, ground := Go.Ground.data }, { on := 10, ground := Go.Ground.data }], guard := none }) (v := ?_) [15] rfl (by kernel_rfl) (by kernel_rfl) (by kernel_rfl) (by kernel_rfl) (fun _ _ _ h => h) (Or.inl ⟨by rfl, ?_⟩) (by assumption) ?_
      rotate_left
      · (intro w hSw; (try dsimp only at hSw); go_simp; (try with_reducible rfl))
      (try simp only [Act.put, List.setIfInBounds_toArray, List.set_cons_zero, List.set_cons_succ])
      refine wpAnyI_one (i := 12) (o := { dst := some 27, op := Go.Op.buildSlice 33 1 #[(0, Go.Operand.tmp 26)], type := 33, pos := "fresh.go:14", after := #[{ on := 11, ground := Go.Ground.data }], guard := none }) (by kernel_rfl) rfl (fun K hK => ?_)
      go_simp
      refine hK.out _ _ (by go_keep) (fun hHeldN => ?_)
      clear hK K hHeld
      have hHeld := hHeldN
      clear hHeldN
      (try simp only [Act.put, List.setIfInBounds_toArray, List.set_cons_zero, List.set_cons_succ])
      refine wpAnyI_one (i := 13) (o := { dst := some 28, op := Go.Op.call { callee := Go.Callee.builtin Go.Builtin.append, args := #[Go.Operand.tmp 16, Go.Operand.tmp 27], argTypes := #[33, 33] }, type := 33, pos := "fresh.go:14", after := #[{ on := 1, ground := Go.Ground.data }, { on := 12, ground := Go.Ground.data }, { on := 10, ground := Go.Ground.chain }], guard := none }) (by kernel_rfl) rfl (fun K hK => ?_)
      refine step_appK Try.underlying33 infoR rfl (by decide) (by decide) (by rfl) _ _ (by rfl) u (.slice (some ⟨w9.heap.size, 0, none⟩) 1 1) (by rfl) (by rfl) (X + 3) (l.map fun p => p.1.cs) (KRw.out w9 a8 l8 c8 a9 l9 c9 h9).1 (some ⟨w9.heap.size, 0, none⟩) 1 1 rfl [(⟨nm, a8, l8, c8, a9, l9, c9⟩ : RH).cs] rfl (crd_one 32 w9 (⟨nm, a8, l8, c8, a9, l9, c9⟩ : RH).cs 3 rfl) (rk_rh _) (fun e => by cases e) hlen (by omega) (KRw.out w9 a8 l8 c8 a9 l9 c9 h9).2 ?_
      intro v1 w11 hh1 hh2 hh3
      (obtain ⟨va, vc, hv, hcc, _, _, _⟩ := hh1.rd; obtain ⟨vl, hl8⟩ : ∃ q, q = ((l.map fun p => p.1.cs) ++ [(⟨nm, a8, l8, c8, a9, l9, c9⟩ : RH).cs]).length := ⟨_, rfl⟩; rw [← hl8] at hv; subst hv; clear hl8 hcc)
      obtain ⟨⟨t0, t1, t2, t3⟩, tf, tN, tR⟩ := FIN.out w9 a8 l8 c8 a9 l9 c9 (.slice va vl vc) w11 h9 HK8.out HK9.out hh1 hh2
      have TN := hid tN
      have TR := hid tR
      clear tN tR hh1 hh2 hh3
      refine hK.out _ _ ⟨t0, t1, t2, t3⟩ (fun hHeldN => ?_)
      clear hK K hHeld
      have hHeld := hHeldN
      clear hHeldN
      (try simp only [Act.put, List.setIfInBounds_toArray, List.set_cons_zero, List.set_cons_succ])
      refine wpAnyI_take (i := 14) (oi := { dst := some 29, op := Go.Op.fieldAddr 36 (Go.Operand.tmp 3) 0, type := 0, pos := "fresh.go:14", after := #[{ on := 0, ground := Go.Ground.phase }, { on := 1, ground := Go.Ground.phase }, { on := 2, ground := Go.Ground.phase }, { on := 3, ground := Go.Ground.phase }, { on := 4, ground := Go.Ground.phase }, { on := 5, ground := Go.Ground.phase }, { on := 6, ground := Go.Ground.phase }, { on := 7, ground := Go.Ground.phase }, { on := 8, ground := Go.Ground.phase }, { on := 9, ground := Go.Ground.phase }, { on := 10, ground := Go.Ground.phase }, { on := 11, ground := Go.Ground.phase }, { on := 12, ground := Go.Ground.phase }, { on := 13, ground := Go.Ground.phase }], guard := none }) (v := ?_) [15] rfl (by kernel_rfl) (by kernel_rfl) (by kernel_rfl) (by kernel_rfl) (fun _ _ _ h => h) (Or.inl ⟨by rfl, ?_⟩) (by assumption) ?_
      rotate_left
      · (intro w hSw; (try dsimp only at hSw); go_simp; (try with_reducible rfl))
      (try simp only [Act.put, List.setIfInBounds_toArray, List.set_cons_zero, List.set_cons_succ])
      refine wpAnyI_last (o := { dst := none, op := Go.Op.store 33 (Go.Operand.tmp 29) (Go.Operand.tmp 28), type := 0, pos := "fresh.go:14", after := #[{ on := 14, ground := Go.Ground.data }, { on := 13, ground := Go.Ground.data }, { on := 13, ground := Go.Ground.chain }, { on := 0, ground := Go.Ground.phase }, { on := 1, ground := Go.Ground.phase }, { on := 2, ground := Go.Ground.phase }, { on := 3, ground := Go.Ground.phase }, { on := 4, ground := Go.Ground.phase }, { on := 5, ground := Go.Ground.phase }, { on := 6, ground := Go.Ground.phase }, { on := 7, ground := Go.Ground.phase }, { on := 8, ground := Go.Ground.phase }, { on := 9, ground := Go.Ground.phase }, { on := 10, ground := Go.Ground.phase }, { on := 11, ground := Go.Ground.phase }, { on := 12, ground := Go.Ground.phase }, { on := 13, ground := Go.Ground.phase }], guard := none }) (by kernel_rfl) rfl (by kernel_rfl) (fun K hK => ?_)
      go_simp
      refine hK.out _ _ ?_
      clear hK K hHeld
      (try simp only [Act.put, List.setIfInBounds_toArray, List.set_cons_zero, List.set_cons_succ])
      clear y0 y1 y2 y3 t0 t1 t2 t3 tf z0 z1 z2 z3 s7 s8
      go_wp2
      go_roundg g
      case measure => omega
      exact ⟨j + 1, _, by omega, by go_num, TN.out, TR.out⟩
    | zero =>
      obtain rfl : rn = j := by omega
      have HR : Hid (RcsN wr (X + 3) u (p.recs.map (·.2))) := hid (by rw [r1.out, List.take_of_length_le (Nat.le_refl _)] at hR; exact hR)
      have HN := hid hN
      obtain ⟨x0, x1, x2, x3⟩ := XC.out wr _ _ hN
      clear hR hN
      go_wp2
      clear x0 x1 x2 x3
      go_loopg [34] mn (fun g x wr2 => ∃ (i : Nat) (m : Value), i + g = mn ∧ x = .int .i64 (i : Int) ∧ NP w wr2 X #[.slice ra rn rc, .slice ma mn mc, .slice fa fn fc, .slice ea en ec] u m ∧ RcsN wr2 (X + 3) u (p.recs.map (·.2)) ∧ MpsN wr2 (X + 3) m (p.maps.take i))
      case atStart => exact ⟨0, .slice none 0 0, by omega, rfl, HN.out, HR.out, KR.nil _ _ _ _⟩
      case round =>
        clear HR HN
        obtain ⟨i, m, hi, rfl, hN, hR, hM⟩ := hrel
        cases gk with
        | succ g =>
          have hlj : i < p.maps.length := by rw [← m1.out]; omega
          have hgj : p.maps[i]? = some p.maps[i] := List.getElem?_eq_getElem hlj
          obtain ⟨b, off, ea1, hbl, hc⟩ := (D.out wr hN.b).m.rd i (p.maps[i]).cs (by simp [hgj])
          have sm := SM.out.m _ (List.getElem_mem hlj)
          have ht : Hid ((p.maps.take (i + 1)).map Mp.cs = (p.maps.take i).map Mp.cs ++ [(p.maps[i]).cs]) := hid (by rw [List.take_add_one, hgj, List.map_append]; rfl)
          generalize p.maps[i] = rj at hgj hc sm ht
          obtain ⟨nm, ⟨k1, k2⟩, ⟨v1, v2⟩⟩ := rj
          subst ea1
          have s0 := hc 0 (by omega)
          have s1 := hc 1 (by omega)
          have s2 := hc 2 (by omega)
          have s3 := hc 3 (by omega)
          have s4 := hc 4 (by omega)
          simp only [Mp.cs, List.getElem?_cons_zero, List.getElem?_cons_succ, Nat.add_zero] at s0 s1 s2 s3 s4
          have hjI : (i : Int) < (mn : Int) := by omega
          have hj0 : (0 : Int) ≤ (i : Int) := by omega
          obtain ⟨A, hA⟩ : ∃ A, A = wr.alloc (.cells #[.string nm, .int .i64 k1, .int .i64 k2, .int .i64 v1, .int .i64 v2] 120) := ⟨_, rfl⟩
          obtain ⟨Y, hY⟩ : ∃ Y, Y = wr.heap.size := ⟨_, rfl⟩
          have bA : Below wr.heap.size wr A := by rw [hA]; exact (Below.refl _ _).alloc (Nat.le_refl _) _
          have mY : A.heap[Y]? = some (.cells #[.string nm, .int .i64 k1, .int .i64 k2, .int .i64 v1, .int .i64 v2] 120 (0, 0)) := by rw [hA, hY]; exact heap_alloc_new wr _
          have hnmS : nm.size ≤ 20 := sm
          have K1 := hid (clone_any A.drew nm (by omega))
          have hzF := lt_of_heap hN.f
          have ST : Hid (∀ v : World, Below A.heap.size A v → v.cell? ⟨X + 1 + 1, 1, none⟩ = some m ∧ v.cell? ⟨Y, 0, none⟩ = some (.string nm) ∧ v.cell? ⟨Y, 1, none⟩ = some (.int .i64 k1) ∧ v.cell? ⟨Y, 2, none⟩ = some (.int .i64 k2) ∧ v.cell? ⟨Y, 3, none⟩ = some (.int .i64 v1) ∧ v.cell? ⟨Y, 4, none⟩ = some (.int .i64 v2)) := hid (fun v hv => by
            have h := (hv.block Y (lt_of_heap mY)).trans mY
            have h2 := (hN.below (bA.trans (hv.mono bA.size))).f
            exact ⟨cellOf h2 1, cellOf h 0, cellOf h 1, cellOf h 2, cellOf h 3, cellOf h 4⟩)
          have WA : Hid (∀ v : World, Below A.heap.size A v → Below wr.heap.size wr v) := hid (fun v hv => bA.trans (hv.mono bA.size))
          have hlen : ((p.maps.take i).map Mp.cs).length ≤ 1000000 := by
            rw [List.length_map, List.length_take]; omega
          have KRw := hid (fun (w9 : World) (h1 : Below A.heap.size A w9) => (by
            have b1 := WA.out w9 h1
            have b2 := b1.alloc b1.size (.cells #[.string nm, .int .i64 k1, .int .i64 k2, .int .i64 v1, .int .i64 v2] 120)
            exact ⟨KR.below hM (Nat.le_refl _) b2, by have := b2.size; omega⟩ : KR 120 5 (w9.alloc (.cells #[.string nm, .int .i64 k1, .int .i64 k2, .int .i64 v1, .int .i64 v2] 120)) (X + 3) m ((p.maps.take i).map Mp.cs) ∧ X + 3 ≤ (w9.alloc (.cells #[.string nm, .int .i64 k1, .int .i64 k2, .int .i64 v1, .int .i64 v2] 120)).heap.size))
          have FIN : Hid (∀ (w9 : World) (v' : Value) (w' : World), Below A.heap.size A w9 → KR 120 5 w' (X + 3) v' (((p.maps.take i).map Mp.cs) ++ [(⟨nm, (k1, k2), (v1, v2)⟩ : Mp).cs]) → (w9.alloc (.cells #[.string nm, .int .i64 k1, .int .i64 k2, .int .i64 v1, .int .i64 v2] 120)).grownBy w' m.ownBlock →
              (w'.cell? ⟨X + 1 + 1, 1, none⟩ = some m ∧ w'.cell? ⟨Y, 0, none⟩ = some (.string nm) ∧ w'.cell? ⟨Y, 1, none⟩ = some (.int .i64 k1) ∧ w'.cell? ⟨Y, 2, none⟩ = some (.int .i64 k2) ∧ w'.cell? ⟨Y, 3, none⟩ = some (.int .i64 v1) ∧ w'.cell? ⟨Y, 4, none⟩ = some (.int .i64 v2)) ∧ w'.frozen? ⟨X + 1 + 1, 1, none⟩ = false ∧ NP w (w'.setCell ⟨X + 1 + 1, 1, none⟩ v') X #[.slice ra rn rc, .slice (some ⟨b, off, none⟩) mn mc, .slice fa fn fc, .slice ea en ec] u v' ∧ RcsN (w'.setCell ⟨X + 1 + 1, 1, none⟩ v') (X + 3) u (p.recs.map (·.2)) ∧ MpsN (w'.setCell ⟨X + 1 + 1, 1, none⟩ v') (X + 3) v' (p.maps.take (i + 1))) := hid (fun w9 v' w' h1 h4 h5 => by
            have b1 := WA.out w9 h1
            have b2 := b1.alloc b1.size (.cells #[.string nm, .int .i64 k1, .int .i64 k2, .int .i64 v1, .int .i64 v2] 120)
            have kr : KR 120 5 _ _ _ _ := KR.below hM (Nat.le_refl _) b2
            have n2 := (hN.below b2).grown HX.out kr h5
            have hYY : w'.heap[Y]? = some (.cells #[.string nm, .int .i64 k1, .int .i64 k2, .int .i64 v1, .int .i64 v2] 120 (0, 0)) := by
              have h0 : w9.heap[Y]? = _ := (h1.block Y (lt_of_heap mY)).trans mY
              refine (h5.block Y (by rw [World.size_alloc]; have := lt_of_heap h0; omega) (fun e => ?_)).trans ((Below.heap_alloc _ _ _ (lt_of_heap h0)).trans h0)
              have := (KR.own hM e.symm).2
              omega
            refine ⟨⟨cellOf n2.f 1, cellOf hYY 0, cellOf hYY 1, cellOf hYY 2, cellOf hYY 3, cellOf hYY 4⟩, freeOf n2.f 1, n2.set1 HX.out v', ((hR.below b2).grown (by decide) (by decide) (by decide) kr h5).above (set_above v'), ?_⟩
            unfold MpsN
            rw [ht.out]
            exact h4.above (set_above v'))
          have HN := hid hN
          clear hM hR sm hc hbl hgj bA mY hlj hN
          go_upto_region 10 with fail
          rw [← hA, ← hY]
          clear hA hY s0 s1 s2 s3 s4
          obtain ⟨y0, y1, y2, y3, y4, y5⟩ := ST.out A (Below.refl _ _)
          refine wp_region_I 13 (fun v : World => v.cell? ⟨X + 1 + 1, 1, none⟩ = some m ∧ v.cell? ⟨Y, 0, none⟩ = some (.string nm) ∧ v.cell? ⟨Y, 1, none⟩ = some (.int .i64 k1) ∧ v.cell? ⟨Y, 2, none⟩ = some (.int .i64 k2) ∧ v.cell? ⟨Y, 3, none⟩ = some (.int .i64 v1) ∧ v.cell? ⟨Y, 4, none⟩ = some (.int .i64 v2)) (by kernel_rfl) (by go_keep) (fun hHeld => ?_)
          refine wpAnyI_take (i := 0) (oi := { dst := some 38, op := Go.Op.fieldAddr 36 (Go.Operand.tmp 3) 1, type := 0, pos := "fresh.go:17", after := #[], guard := none }) (v := ?_) [13] rfl (by kernel_rfl) (by kernel_rfl) (by kernel_rfl) (by kernel_rfl) (fun _ _ _ h => h) (Or.inl ⟨by rfl, ?_⟩) (by assumption) ?_
          rotate_left
          · (intro w hSw; (try dsimp only at hSw); go_simp; (try with_reducible rfl))
          (try simp only [Act.put, List.setIfInBounds_toArray, List.set_cons_zero, List.set_cons_succ])
          refine wpAnyI_take (i := 1) (oi := { dst := some 39, op := Go.Op.load 34 (Go.Operand.tmp 38), type := 34, pos := "fresh.go:17", after := #[{ on := 0, ground := Go.Ground.data }], guard := none }) (v := ?_) [13] rfl (by kernel_rfl) (by kernel_rfl) (by kernel_rfl) (by kernel_rfl) (fun _ _ _ h => h) (Or.inl ⟨by rfl, ?_⟩) (by assumption) ?_
          rotate_left
          · (intro w hSw; (try dsimp only at hSw); go_simp; (try with_reducible rfl))
          (try simp only [Act.put, List.setIfInBounds_toArray, List.set_cons_zero, List.set_cons_succ])
          refine wpAnyI_take (i := 2) (oi := { dst := some 40, op := Go.Op.fieldAddr 120 (Go.Operand.tmp 7) 0, type := 0, pos := "fresh.go:17", after := #[], guard := none }) (v := ?_) [13] rfl (by kernel_rfl) (by kernel_rfl) (by kernel_rfl) (by kernel_rfl) (fun _ _ _ h => h) (Or.inl ⟨by rfl, ?_⟩) (by assumption) ?_
          rotate_left
          · (intro w hSw; (try dsimp only at hSw); go_simp; (try with_reducible rfl))
          (try simp only [Act.put, List.setIfInBounds_toArray, List.set_cons_zero, List.set_cons_succ])
          refine wpAnyI_take (i := 3) (oi := { dst := some 41, op := Go.Op.load 9 (Go.Operand.tmp 40), type := 9, pos := "fresh.go:17", after := #[{ on := 2, ground := Go.Ground.data }], guard := none }) (v := ?_) [13] rfl (by kernel_rfl) (by kernel_rfl) (by kernel_rfl) (by kernel_rfl) (fun _ _ _ h => h) (Or.inl ⟨by rfl, ?_⟩) (by assumption) ?_
          rotate_left
          · (intro w hSw; (try dsimp only at hSw); go_simp; (try with_reducible rfl))
          (try simp only [Act.put, List.setIfInBounds_toArray, List.set_cons_zero, List.set_cons_succ])
          refine wpAnyI_take (i := 5) (oi := { dst := some 43, op := Go.Op.fieldAddr 120 (Go.Operand.tmp 7) 1, type := 0, pos := "fresh.go:17", after := #[], guard := none }) (v := ?_) [13] rfl (by kernel_rfl) (by kernel_rfl) (by kernel_rfl) (by kernel_rfl) (fun _ _ _ h => h) (Or.inl ⟨by rfl, ?_⟩) (by assumption) ?_
          rotate_left
          · (intro w hSw; (try dsimp only at hSw); go_simp; (try with_reducible rfl))
          (try simp only [Act.put, List.setIfInBounds_toArray, List.set_cons_zero, List.set_cons_succ])
          refine wpAnyI_take (i := 6) (oi := { dst := some 44, op := Go.Op.load 24 (Go.Operand.tmp 43), type := 24, pos := "fresh.go:17", after := #[{ on := 5, ground := Go.Ground.data }], guard := none }) (v := ?_) [13] rfl (by kernel_rfl) (by kernel_rfl) (by kernel_rfl) (by kernel_rfl) (fun _ _ _ h => h) (Or.inl ⟨by rfl, ?_⟩) (by assumption) ?_
          rotate_left
          · (intro w hSw; (try dsimp only at hSw); go_simp; (try with_reducible rfl))
          (try simp only [Act.put, List.setIfInBounds_toArray, List.set_cons_zero, List.set_cons_succ])
          refine wpAnyI_take (i := 7) (oi := { dst := some 45, op := Go.Op.fieldAddr 120 (Go.Operand.tmp 7) 2, type := 0, pos := "fresh.go:17", after := #[], guard := none }) (v := ?_) [13] rfl (by kernel_rfl) (by kernel_rfl) (by kernel_rfl) (by kernel_rfl) (fun _ _ _ h => h) (Or.inl ⟨by rfl, ?_⟩) (by assumption) ?_
          rotate_left
          · (intro w hSw; (try dsimp only at hSw); go_simp; (try with_reducible rfl))
          (try simp only [Act.put, List.setIfInBounds_toArray, List.set_cons_zero, List.set_cons_succ])
          refine wpAnyI_take (i := 8) (oi := { dst := some 46, op := Go.Op.load 24 (Go.Operand.tmp 45), type := 24, pos := "fresh.go:17", after := #[{ on := 7, ground := Go.Ground.data }], guard := none }) (v := ?_) [13] rfl (by kernel_rfl) (by kernel_rfl) (by kernel_rfl) (by kernel_rfl) (fun _ _ _ h => h) (Or.inl ⟨by rfl, ?_⟩) (by assumption) ?_
          rotate_left
          · (intro w hSw; (try dsimp only at hSw); go_simp; (try with_reducible rfl))
          (try simp only [Act.put, List.setIfInBounds_toArray, List.set_cons_zero, List.set_cons_succ])
          refine wpAnyI_one (i := 4) (o := { dst := some 42, op := Go.Op.call { callee := Go.Callee.value (Go.Operand.func 80), args := #[Go.Operand.tmp 41], argTypes := #[9] }, type := 9, pos := "fresh.go:17", after := #[{ on := 3, ground := Go.Ground.data }], guard := none }) (by kernel_rfl) rfl (fun K hK => ?_)
          go_simp
          (refine (Hid.out K1).mono ?_; rintro e w9 ⟨rfl, hb9⟩; have h9 : Below A.heap.size A w9 := (Below.refl _ A).drew.trans hb9; obtain ⟨z0, z1, z2, z3, z4, z5⟩ := ST.out w9 h9)
          try go_wp2_with fail
          refine hK.out _ _ ⟨z0, z1, z2, z3, z4, z5⟩ (fun hHeldN => ?_)
          clear hK K hHeld
          have hHeld := hHeldN
          clear hHeldN
          (try simp only [Act.put, List.setIfInBounds_toArray, List.set_cons_zero, List.set_cons_succ])
          refine wpAnyI_take (i := 9) (oi := { dst := some 47, op := Go.Op.build 120 #[(0, Go.Operand.tmp 42), (1, Go.Operand.tmp 44), (2, Go.Operand.tmp 46)], type := 120, pos := "fresh.go:17", after := #[{ on := 4, ground := Go.Ground.data }, { on := 6, ground := Go.Ground.data }, { on := 8, ground := Go.Ground.data }], guard := none }) (v := ?_) [13] rfl (by kernel_rfl) (by kernel_rfl) (by kernel_rfl) (by kernel_rfl) (fun _ _ _ h => h) (Or.inl ⟨by rfl, ?_⟩) (by assumption) ?_
          rotate_left
          · (intro w hSw; (try dsimp only at hSw); go_simp; (try with_reducible rfl))
          (try simp only [Act.put, List.setIfInBounds_toArray, List.set_cons_zero, List.set_cons_succ])
          refine wpAnyI_one (i := 10) (o := { dst := some 48, op := Go.Op.buildSlice 34 1 #[(0, Go.Operand.tmp 47)], type := 34, pos := "fresh.go:17", after := #[{ on := 9, ground := Go.Ground.data }], guard := none }) (by kernel_rfl) rfl (fun K hK => ?_)
          go_simp
          refine hK.out _ _ (by go_keep) (fun hHeldN => ?_)
          clear hK K hHeld
          have hHeld := hHeldN
          clear hHeldN
          (try simp only [Act.put, List.setIfInBounds_toArray, List.set_cons_zero, List.set_cons_succ])
          refine wpAnyI_one (i := 11) (o := { dst := some 49, op := Go.Op.call { callee := Go.Callee.builtin Go.Builtin.append, args := #[Go.Operand.tmp 39, Go.Operand.tmp 48], argTypes := #[34, 34] }, type := 34, pos := "fresh.go:17", after := #[{ on := 1, ground := Go.Ground.data }, { on := 10, ground := Go.Ground.data }, { on := 4, ground := Go.Ground.chain }], guard := none }) (by kernel_rfl) rfl (fun K hK => ?_)
          refine step_appK Try.underlying34 infoM rfl (by decide) (by decide) (by rfl) _ _ (by rfl) m (.slice (some ⟨w9.heap.size, 0, none⟩) 1 1) (by rfl) (by rfl) (X + 3) ((p.maps.take i).map Mp.cs) (KRw.out w9 h9).1 (some ⟨w9.heap.size, 0, none⟩) 1 1 rfl [(⟨nm, (k1, k2), (v1, v2)⟩ : Mp).cs] rfl (crd_one 120 w9 (⟨nm, (k1, k2), (v1, v2)⟩ : Mp).cs 5 rfl) (rk_mp _) (fun e => by cases e) hlen (by omega) (KRw.out w9 h9).2 ?_
          intro vv w11 hh1 hh2 hh3
          (obtain ⟨va, vc, hv, hcc, _, _, _⟩ := hh1.rd; obtain ⟨vl, hl8⟩ : ∃ q, q = (((p.maps.take i).map Mp.cs) ++ [(⟨nm, (k1, k2), (v1, v2)⟩ : Mp).cs]).length := ⟨_, rfl⟩; rw [← hl8] at hv; subst hv; clear hl8 hcc)
          obtain ⟨⟨t0, t1, t2, t3, t4, t5⟩, tf, tN, tR, tM⟩ := FIN.out w9 (.slice va vl vc) w11 h9 hh1 hh2
          have TN := hid tN
          have TR := hid tR
          have TM := hid tM
          clear tN tR tM hh1 hh2 hh3
          refine hK.out _ _ ⟨t0, t1, t2, t3, t4, t5⟩ (fun hHeldN => ?_)
          clear hK K hHeld
          have hHeld := hHeldN
          clear hHeldN
          (try simp only [Act.put, List.setIfInBounds_toArray, List.set_cons_zero, List.set_cons_succ])
          refine wpAnyI_take (i := 12) (oi := { dst := some 50, op := Go.Op.fieldAddr 36 (Go.Operand.tmp 3) 1, type := 0, pos := "fresh.go:17", after := #[{ on := 0, ground := Go.Ground.phase }, { on := 1, ground := Go.Ground.phase }, { on := 2, ground := Go.Ground.phase }, { on := 3, ground := Go.Ground.phase }, { on := 4, ground := Go.Ground.phase }, { on := 5, ground := Go.Ground.phase }, { on := 6, ground := Go.Ground.phase }, { on := 7, ground := Go.Ground.phase }, { on := 8, ground := Go.Ground.phase }, { on := 9, ground := Go.Ground.phase }, { on := 10, ground := Go.Ground.phase }, { on := 11, ground := Go.Ground.phase }], guard := none }) (v := ?_) [13] rfl (by kernel_rfl) (by kernel_rfl) (by kernel_rfl) (by kernel_rfl) (fun _ _ _ h => h) (Or.inl ⟨by rfl, ?_⟩) (by assumption) ?_
          rotate_left
          · (intro w hSw; (try dsimp only at hSw); go_simp; (try with_reducible rfl))
          (try simp only [Act.put, List.setIfInBounds_toArray, List.set_cons_zero, List.set_cons_succ])
          refine wpAnyI_last (o := { dst := none, op := Go.Op.store 34 (Go.Operand.tmp 50) (Go.Operand.tmp 49), type := 0, pos := "fresh.go:17", after := #[{ on := 12, ground := Go.Ground.data }, { on := 11, ground := Go.Ground.data }, { on := 11, ground := Go.Ground.chain }, { on := 0, ground := Go.Ground.phase }, { on := 1, ground := Go.Ground.phase }, { on := 2, ground := Go.Ground.phase }, { on := 3, ground := Go.Ground.phase }, { on := 4, ground := Go.Ground.phase }, { on := 5, ground := Go.Ground.phase }, { on := 6, ground := Go.Ground.phase }, { on := 7, ground := Go.Ground.phase }, { on := 8, ground := Go.Ground.phase }, { on := 9, ground := Go.Ground.phase }, { on := 10, ground := Go.Ground.phase }, { on := 11, ground := Go.Ground.phase }], guard := none }) (by kernel_rfl) rfl (by kernel_rfl) (fun K hK => ?_)
          go_simp
          refine hK.out _ _ ?_
          clear hK K hHeld
          (try simp only [Act.put, List.setIfInBounds_toArray, List.set_cons_zero, List.set_cons_succ])
          clear y0 y1 y2 y3 y4 y5 t0 t1 t2 t3 t4 t5 tf z0 z1 z2 z3 z4 z5
          go_wp2
          go_roundg g
          case measure => omega
          exact ⟨i + 1, _, by omega, by go_num, TN.out, TR.out, TM.out⟩
        | zero =>
          obtain rfl : mn = i := by omega
          have HM : Hid (MpsN wr (X + 3) m p.maps) := hid (by rw [m1.out, List.take_of_length_le (Nat.le_refl _)] at hM; exact hM)
          have HR := hid hR
          have HN := hid hN
          obtain ⟨x0, x1, x2, x3⟩ := XC.out wr _ _ hN
          obtain ⟨ua, un, uc, lu, hu, _, _⟩ := hR.rd (by rw [List.length_map]; have := SM.out.rl; omega)
          obtain ⟨va, vn, vc, hv, _⟩ := HM.out.rd (by have := SM.out.ml; omega) SM.out.m
          subst hu hv
          clear hR hN hM
          have KS1 := hid (fun (V : World) (hV : Below w.heap.size w V) => newSigs_any V fa fn fc p.funcs (D.out V hV).f fI (fun x hx => ⟨NL.out.f x hx, by have := (SM.out.f x hx).1; omega, by have := (SM.out.f x hx).2; omega⟩))
          have KS2 := hid (fun (V : World) (hV : Below w.heap.size w V) => newSigs_any V ea en ec p.events (D.out V hV).e eI (fun x hx => ⟨NL.out.e x hx, by have := (SM.out.e x hx).1; omega, by have := (SM.out.e x hx).2; omega⟩))
          go_upto_region 12 with fail
          clear x0 x1 x2 x3
          have ST : Hid (∀ v : World, Below wr.heap.size wr v → v.cell? ⟨X, 2, none⟩ = some (.slice fa fn fc) ∧ v.cell? ⟨X, 3, none⟩ = some (.slice ea en ec)) := hid (fun v hv => by
            obtain ⟨_, _, g2, g3⟩ := XC.out v _ _ (HN.out.below hv)
            exact ⟨g2, g3⟩)
          have hXF : X + 1 + 1 ≠ X := by omega
          have hXF' : X ≠ X + 1 + 1 := by omega
          obtain ⟨x2, x3⟩ := ST.out wr (Below.refl _ _)
          have B0 : Hid (Below wr.heap.size wr wr.drew) := hid (Below.refl _ wr).drew
          have hX3 : X + 3 ≤ wr.heap.size := by have := lt_of_heap HN.out.f; omega
          refine wp_region_held_drew (S := fun v : World => v.cell? ⟨X, 2, none⟩ = some (.slice fa fn fc) ∧ v.cell? ⟨X, 3, none⟩ = some (.slice ea en ec)) (by kernel_rfl) (by go_keep) (fun hHeld => ?_)
          refine wpAnyH_take (i := 0) (oi := { dst := some 52, op := Go.Op.fieldAddr 36 (Go.Operand.tmp 1) 2, type := 0, pos := "fresh.go:19", after := #[], guard := none }) (v := ?_) rfl (by kernel_rfl) (by kernel_rfl) (by kernel_rfl) (fun _ _ _ h => h) (Or.inl ⟨by rfl, ?_⟩) (by assumption) ?_
          rotate_left
          · (intro w hSw; (try dsimp only at hSw); go_simp; (try with_reducible rfl))
          (try simp only [Act.put, List.setIfInBounds_toArray, List.set_cons_zero, List.set_cons_succ])
          refine wpAnyH_take (i := 1) (oi := { dst := some 53, op := Go.Op.load 30 (Go.Operand.tmp 52), type := 30, pos := "fresh.go:19", after := #[{ on := 0, ground := Go.Ground.data }], guard := none }) (v := ?_) rfl (by kernel_rfl) (by kernel_rfl) (by kernel_rfl) (fun _ _ _ h => h) (Or.inl ⟨by rfl, ?_⟩) (by assumption) ?_
          rotate_left
          · (intro w hSw; (try dsimp only at hSw); go_simp; (try with_reducible rfl))
          (try simp only [Act.put, List.setIfInBounds_toArray, List.set_cons_zero, List.set_cons_succ])
          refine wpAnyH_take (i := 3) (oi := { dst := some 55, op := Go.Op.fieldAddr 36 (Go.Operand.tmp 1) 3, type := 0, pos := "fresh.go:19", after := #[], guard := none }) (v := ?_) rfl (by kernel_rfl) (by kernel_rfl) (by kernel_rfl) (fun _ _ _ h => h) (Or.inl ⟨by rfl, ?_⟩) (by assumption) ?_
          rotate_left
          · (intro w hSw; (try dsimp only at hSw); go_simp; (try with_reducible rfl))
          (try simp only [Act.put, List.setIfInBounds_toArray, List.set_cons_zero, List.set_cons_succ])
          refine wpAnyH_take (i := 4) (oi := { dst := some 56, op := Go.Op.load 30 (Go.Operand.tmp 55), type := 30, pos := "fresh.go:19", after := #[{ on := 3, ground := Go.Ground.data }], guard := none }) (v := ?_) rfl (by kernel_rfl) (by kernel_rfl) (by kernel_rfl) (fun _ _ _ h => h) (Or.inl ⟨by rfl, ?_⟩) (by assumption) ?_
          rotate_left
          · (intro w hSw; (try dsimp only at hSw); go_simp; (try with_reducible rfl))
          (try simp only [Act.put, List.setIfInBounds_toArray, List.set_cons_zero, List.set_cons_succ])
          refine wpAnyH_ready (rs := [2]) (by kernel_rfl) (by simp) ?_
          refine AllReadyH.cons (o := { dst := some 54, op := Go.Op.call { callee := Go.Callee.value (Go.Operand.func 82), args := #[Go.Operand.tmp 53], argTypes := #[30] }, type := 30, pos := "fresh.go:19", after := #[{ on := 1, ground := Go.Ground.data }], guard := none }) rfl (fun K hK => ?_) AllReadyH.nil
          go_simp
          (refine (KS1.out wr.drew (HN.out.b.trans (B0.out.mono HN.out.b.size))).mono ?_; rintro e w7 ⟨v7, rfl, hk7, hb7⟩; obtain ⟨a7, l7, c7, g7, hv7, hm7, _⟩ := hk7.rd (by rw [List.length_map]; have := SM.out.fl; omega) (fun s hs => by obtain ⟨x, hx, rfl⟩ := List.mem_map.1 hs; have := (SM.out.f x hx).2; omega); subst hv7; clear hm7; have h7 : Below wr.heap.size wr w7 := B0.out.trans hb7; have HB7 := hid h7; have HK7 := hid (hk7.lower (show X + 3 ≤ _ from hX3)); obtain ⟨z2, z3⟩ := ST.out w7 h7; clear hb7 hk7 h7)
          try go_wp2_with fail
          refine hK.out _ _ ⟨z2, z3⟩ (fun hHeldN => ?_)
          clear hK K hHeld
          have hHeld := hHeldN
          clear hHeldN
          (try simp only [Act.put, List.setIfInBounds_toArray, List.set_cons_zero, List.set_cons_succ])
          refine wpAnyH_take (i := 6) (oi := { dst := some 58, op := Go.Op.fieldAddr 36 (Go.Operand.tmp 3) 2, type := 0, pos := "fresh.go:19", after := #[{ on := 0, ground := Go.Ground.phase }, { on := 1, ground := Go.Ground.phase }, { on := 2, ground := Go.Ground.phase }, { on := 3, ground := Go.Ground.textOnly Go.Departure.lateStores }, { on := 4, ground := Go.Ground.textOnly Go.Departure.lateStores }, { on := 5, ground := Go.Ground.textOnly Go.Departure.lateStoresUnsure }], guard := none }) (v := ?_) rfl (by kernel_rfl) (by kernel_rfl) (by kernel_rfl) (fun _ _ _ h => h) (Or.inl ⟨by rfl, ?_⟩) (by assumption) ?_
          rotate_left
          · (intro w hSw; (try dsimp only at hSw); go_simp; (try with_reducible rfl))
          (try simp only [Act.put, List.setIfInBounds_toArray, List.set_cons_zero, List.set_cons_succ])
          refine wpAnyH_ready (rs := [5]) (by kernel_rfl) (by simp) ?_
          refine AllReadyH.cons (o := { dst := some 57, op := Go.Op.call { callee := Go.Callee.value (Go.Operand.func 82), args := #[Go.Operand.tmp 56], argTypes := #[30] }, type := 30, pos := "fresh.go:19", after := #[{ on := 4, ground := Go.Ground.data }, { on := 2, ground := Go.Ground.chain }], guard := none }) rfl (fun K hK => ?_) AllReadyH.nil
          go_simp
          (refine (KS2.out w7 (HN.out.b.trans (HB7.out.mono HN.out.b.size))).mono ?_; rintro e w8 ⟨v8, rfl, hk8, hb8⟩; obtain ⟨a8, l8, c8, g8, hv8, hm8, _⟩ := hk8.rd (by rw [List.length_map]; have := SM.out.el; omega) (fun s hs => by obtain ⟨x, hx, rfl⟩ := List.mem_map.1 hs; have := (SM.out.e x hx).2; omega); subst hv8; clear hm8; have h8 : Below wr.heap.size wr w8 := HB7.out.trans (hb8.mono HB7.out.size); have HB8 := hid h8; have HK8 := hid (hk8.lower (show X + 3 ≤ w7.heap.size by have := HB7.out.size; omega)); have HK7b := hid (HK7.out.above (fun g _ hg => hb8.block g hg)); have n8 := HN.out.below h8; have d2 := cellOf n8.f 2; have d3 := cellOf n8.f 3; have e2 := freeOf n8.f 2; have e3 := freeOf n8.f 3; simp only [List.getElem?_toArray, List.getElem?_cons_zero, List.getElem?_cons_succ] at d2 d3; obtain ⟨y2, y3⟩ := ST.out w8 h8; clear hb8 hk8 h8 n8)
          try go_wp2_with fail
          refine hK.out _ _ ⟨y2, y3⟩ (fun hHeldN => ?_)
          clear hK K hHeld
          have hHeld := hHeldN
          clear hHeldN
          (try simp only [Act.put, List.setIfInBounds_toArray, List.set_cons_zero, List.set_cons_succ])
          refine wpAnyH_ready (rs := [7]) (by kernel_rfl) (by simp) ?_
          refine AllReadyH.cons (o := { dst := none, op := Go.Op.store 30 (Go.Operand.tmp 58) (Go.Operand.tmp 54), type := 0, pos := "fresh.go:19", after := #[{ on := 6, ground := Go.Ground.data }, { on := 2, ground := Go.Ground.data }, { on := 5, ground := Go.Ground.chain }, { on := 0, ground := Go.Ground.phase }, { on := 1, ground := Go.Ground.phase }, { on := 2, ground := Go.Ground.phase }, { on := 3, ground := Go.Ground.textOnly Go.Departure.lateStores }, { on := 4, ground := Go.Ground.textOnly Go.Departure.lateStores }, { on := 5, ground := Go.Ground.textOnly Go.Departure.lateStoresUnsure }], guard := none }) rfl (fun K hK => ?_) AllReadyH.nil
          go_simp
          refine hK.out _ _ (by go_keep) (fun hHeldN => ?_)
          clear hK K hHeld
          have hHeld := hHeldN
          clear hHeldN
          (try simp only [Act.put, List.setIfInBounds_toArray, List.set_cons_zero, List.set_cons_succ])
          refine wpAnyH_take (i := 8) (oi := { dst := some 59, op := Go.Op.fieldAddr 36 (Go.Operand.tmp 3) 3, type := 0, pos := "fresh.go:19", after := #[{ on := 0, ground := Go.Ground.phase }, { on := 1, ground := Go.Ground.phase }, { on := 2, ground := Go.Ground.phase }, { on := 3, ground := Go.Ground.phase }, { on := 4, ground := Go.Ground.phase }, { on := 5, ground := Go.Ground.phase }, { on := 6, ground := Go.Ground.phase }, { on := 7, ground := Go.Ground.phase }], guard := none }) (v := ?_) rfl (by kernel_rfl) (by kernel_rfl) (by kernel_rfl) (fun _ _ _ h => h) (Or.inl ⟨by rfl, ?_⟩) (by assumption) ?_
          rotate_left
          · (intro w hSw; (try dsimp only at hSw); go_simp; (try with_reducible rfl))
          (try simp only [Act.put, List.setIfInBounds_toArray, List.set_cons_zero, List.set_cons_succ])
          refine wpAnyH_ready (rs := [9]) (by kernel_rfl) (by simp) ?_
          refine AllReadyH.cons (o := { dst := none, op := Go.Op.store 30 (Go.Operand.tmp 59) (Go.Operand.tmp 57), type := 0, pos := "fresh.go:19", after := #[{ on := 8, ground := Go.Ground.data }, { on := 5, ground := Go.Ground.data }, { on := 7, ground := Go.Ground.chain }, { on := 0, ground := Go.Ground.phase }, { on := 1, ground := Go.Ground.phase }, { on := 2, ground := Go.Ground.phase }, { on := 3, ground := Go.Ground.phase }, { on := 4, ground := Go.Ground.phase }, { on := 5, ground := Go.Ground.phase }, { on := 6, ground := Go.Ground.phase }, { on := 7, ground := Go.Ground.phase }], guard := none }) rfl (fun K hK => ?_) AllReadyH.nil
          go_simp
          refine hK.out _ _ (by go_keep) (fun hHeldN => ?_)
          clear hK K hHeld
          have hHeld := hHeldN
          clear hHeldN
          (try simp only [Act.put, List.setIfInBounds_toArray, List.set_cons_zero, List.set_cons_succ])
          refine wpAnyH_done (by kernel_rfl) ?_ _
          obtain ⟨W12, hW12⟩ : ∃ W12, W12 = (w8.setCell ⟨X + 1 + 1, 2, none⟩ (.slice a7 l7 c7)).setCell ⟨X + 1 + 1, 3, none⟩ (.slice a8 l8 c8) := ⟨_, rfl⟩
          rw [← hW12]
          have n8 := HN.out.below HB8.out
          have g2 : W12.heap[X + 1 + 1]? = some (.cells #[.slice ua un uc, .slice va vn vc, .slice a7 l7 c7, .slice a8 l8 c8] 36 (0, 0)) := by
            have h1 := heap_set_at n8.f 2 (.slice a7 l7 c7)
            simp only [List.setIfInBounds_toArray, List.set_cons_zero, List.set_cons_succ] at h1
            have h2 := heap_set_at h1 3 (.slice a8 l8 c8)
            simp only [List.setIfInBounds_toArray, List.set_cons_zero, List.set_cons_succ] at h2
            rw [hW12]; exact h2
          have oth : ∀ g, g ≠ X + 1 + 1 → W12.heap[g]? = w8.heap[g]? := fun g hg => by
            rw [hW12, Below.heap_setCell _ ⟨X + 1 + 1, 3, none⟩ _ _ (show g ≠ X + 1 + 1 from hg), Below.heap_setCell _ ⟨X + 1 + 1, 2, none⟩ _ _ (show g ≠ X + 1 + 1 from hg)]
          have g1 : W12.heap[X + 1]? = some (.cells #[.slice none 0 0, .slice none 0 0, .slice none 0 0, .slice none 0 0] 36 (0, 0)) := (oth _ (by omega)).trans n8.r
          have bW : Below w.heap.size w W12 := by rw [hW12]; exact (n8.b.setCell (by show w.heap.size ≤ X + 1 + 1; have := HX.out; omega) _).setCell (by show w.heap.size ≤ X + 1 + 1; have := HX.out; omega) _
          have zW : W12.heap.size = w8.heap.size := by rw [hW12]; simp
          have p0 := cellOf g2 0
          have p1 := cellOf g2 1
          have p2 := cellOf g2 2
          have p3 := cellOf g2 3
          have r0 := cellOf g1 0
          have r1' := cellOf g1 1
          have r2 := cellOf g1 2
          have r3 := cellOf g1 3
          have fz0 := freeOf g1 0
          have fz1 := freeOf g1 1
          have fz2 := freeOf g1 2
          have fz3 := freeOf g1 3
          simp only [List.getElem?_toArray, List.getElem?_cons_zero, List.getElem?_cons_succ] at p0 p1 p2 p3 r0 r1' r2 r3
          have g4 := quad_new g1 (.slice ua un uc) (.slice va vn vc) (.slice a7 l7 c7) (.slice a8 l8 c8)
          have q0 := cellOf g4 0
          have q1 := cellOf g4 1
          have q2 := cellOf g4 2
          have q3 := cellOf g4 3
          simp only [List.getElem?_toArray, List.getElem?_cons_zero, List.getElem?_cons_succ] at q0 q1 q2 q3
          have BW := hid (quad_below bW (show w.heap.size ≤ X + 1 by have := HX.out; omega) (.slice ua un uc) (.slice va vn vc) (.slice a7 l7 c7) (.slice a8 l8 c8))
          have AB : Hid (∀ g, X + 3 ≤ g → g < w8.heap.size → (quad W12 (X + 1) (.slice ua un uc) (.slice va vn vc) (.slice a7 l7 c7) (.slice a8 l8 c8)).heap[g]? = w8.heap[g]?) := hid (fun g hg _ => (quad_other W12 (X + 1) _ _ _ _ (by omega)).trans (oth g (by omega)))
          have ZW : Hid ((quad W12 (X + 1) (.slice ua un uc) (.slice va vn vc) (.slice a7 l7 c7) (.slice a8 l8 c8)).heap.size = w8.heap.size) := hid ((quad_size _ _ _ _ _ _).trans zW)
          clear hW12 zW oth g1 g2 g4 bW n8
          clear d2 d3 e2 e3 y2 y3 z2 z3 x2 x3
          go_wp2
          refine bodyPost_ret (w := quad W12 (X + 1) (.slice ua un uc) (.slice va vn vc) (.slice a7 l7 c7) (.slice a8 l8 c8)) (v := .agg #[.slice ua un uc, .slice va vn vc, .slice a7 l7 c7, .slice a8 l8 c8]) (by simp [results, Try.results33, go_sem, q0, q1, q2, q3]) rfl ?_
          have R1 := (HR.out.below HB8.out).above (w' := quad W12 (X + 1) (.slice ua un uc) (.slice va vn vc) (.slice a7 l7 c7) (.slice a8 l8 c8)) AB.out
          have M1 := (HM.out.below HB8.out).above (w' := quad W12 (X + 1) (.slice ua un uc) (.slice va vn vc) (.slice a7 l7 c7) (.slice a8 l8 c8)) AB.out
          have F1 := HK7b.out.above (w' := quad W12 (X + 1) (.slice ua un uc) (.slice va vn vc) (.slice a7 l7 c7) (.slice a8 l8 c8)) AB.out
          have E1 := HK8.out.above (w' := quad W12 (X + 1) (.slice ua un uc) (.slice va vn vc) (.slice a7 l7 c7) (.slice a8 l8 c8)) AB.out
          obtain ⟨lr, hr1, kr1, rn1⟩ := R1
          obtain ⟨lf, hf1, kf1, gf1⟩ := F1
          obtain ⟨le, he1, ke1, ge1⟩ := E1
          refine ⟨⟨ua, un, uc, va, vn, vc, a7, l7, c7, a8, l8, c8⟩, ⟨lr, p.maps, lf, le⟩, rfl, ⟨hr1, rfl, hf1, he1⟩, BW.out, fun V hk => ?_⟩
          have hk' : ∀ g, X + 3 ≤ g → g < (quad W12 (X + 1) (.slice ua un uc) (.slice va vn vc) (.slice a7 l7 c7) (.slice a8 l8 c8)).heap.size → V.heap[g]? = (quad W12 (X + 1) (.slice ua un uc) (.slice va vn vc) (.slice a7 l7 c7) (.slice a8 l8 c8)).heap[g]? := fun g h1 h2 => hk g (by have := HX.out; omega) h2
          have len2 : ∀ {α β : Type} {l : List (α × β)} {m : List (α × β)}, l.map (·.2) = m.map (·.2) → l.length = m.length := fun h => by have := congrArg List.length h; rw [List.length_map, List.length_map] at this; exact this
          have mem2 : ∀ {l m : List (GH × Sg)}, l.map (·.2) = m.map (·.2) → (∀ x ∈ m, x.2.name.size ≤ 20 ∧ x.2.params.length ≤ 12) → ∀ x ∈ l, x.2.params.length ≤ 1000000 := fun {l m} h hm x hx => by
            have : x.2 ∈ m.map (·.2) := by rw [← h]; exact List.mem_map.2 ⟨x, hx, rfl⟩
            obtain ⟨y, hy, e⟩ := List.mem_map.1 this
            rw [← e]; have := (hm y hy).2; omega
          obtain ⟨_, _, _, em, hm1⟩ := (M1.above hk').rd (by have := SM.out.ml; omega) SM.out.m
          cases em
          exact ⟨rcs_rd (kr1.above hk') (fun q hq => (rn1 q hq).above hk') (by rw [len2 hr1]; have := SM.out.rl; omega), hm1, sgs_rd (kf1.above hk') (fun q hq => ⟨(gf1 q hq).nm, (gf1 q hq).ns, (gf1 q hq).pr.above hk', (gf1 q hq).rs⟩) (by rw [len2 hf1]; have := SM.out.fl; omega) (mem2 hf1 SM.out.f), sgs_rd (ke1.above hk') (fun q hq => ⟨(ge1 q hq).nm, (ge1 q hq).ns, (ge1 q hq).pr.above hk', (ge1 q hq).rs⟩) (by rw [len2 he1]; have := SM.out.el; omega) (mem2 he1 SM.out.e)⟩
end Go.Proofs.Ytmhjnfibpngpmaa

