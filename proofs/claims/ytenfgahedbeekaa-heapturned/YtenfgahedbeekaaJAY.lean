/- States among the arguments. -/
import Derived.Test.YtenfgahedbeekaaJAX
namespace Go.Proofs.Ytenfgahedbeekaa
open Go.ChangeShapes Go.WideShapes Go.ChangeAt Go.RowKit Go.Deep
set_option linter.unusedVariables false
set_option linter.unusedSimpArgs false

theorem cells81 : Try.prog.cellsOf 81 = 10 := by kernel_rfl
theorem cells70 : Try.prog.cellsOf 70 = 1 := by kernel_rfl
theorem cells25 : Try.prog.cellsOf 25 = 1 := by kernel_rfl
theorem cells27 : Try.prog.cellsOf 27 = 1 := by kernel_rfl
section
variable {H : Type} {enc : TypeId × Value → H} {W : World}
def EnT' (enc : TypeId × Value → H) (W : World) (e : En) : Prop := (e.key.In ∧ Trd enc W e.key.a e.key.n e.key.cap) ∧ (e.val.In ∧ Trd enc W e.val.a e.val.n e.val.cap)
set_option maxRecDepth 100000 in
theorem en_of {fuel : Nat} {cs : List Value} {x : DataW H × List MemPlace} (h : DataW.trod enc Try.prog W 0 (fun _ => true) true fuel 81 cs = some x) :
    ∃ s : En, cs = s.cs ∧ EnT' enc W s := by
  obtain ⟨xs, n, _, rfl, hl, hlen, hf⟩ := DataW.trod_struct Try.underlying81 h
  rw [cells81] at hl
  match cs, hl with
  | [c0, c1, c2, c3, c4, c5, c6, c7, c8, c9], _ =>
    match xs, hlen with
    | [y0, y1], _ =>
      have h0 := hf 0 _ rfl
      have h1 := hf 1 _ rfl
      simp [cells31] at h0 h1
      obtain ⟨k, e2, k1, k2⟩ := val_of h0
      obtain ⟨v, e3, v1, v2⟩ := val_of h1
      simp [Hd.cs] at e2 e3
      obtain ⟨rfl, rfl, rfl, rfl, rfl⟩ := e2
      obtain ⟨rfl, rfl, rfl, rfl, rfl⟩ := e3
      exact ⟨⟨k, v⟩, rfl, ⟨k1, k2⟩, ⟨v1, v2⟩⟩
set_option maxRecDepth 100000 in
theorem enrow_of {fuel : Nat} {v : Value} {x : DataW H × List MemPlace} (h : DataW.trod enc Try.prog W 0 (fun _ => true) true fuel 70 [v] = some x) : ∃ (s : Sl) (es : List En), v = s.v ∧ EnD W (s, es) := by
  rcases open_slice Try.underlying70 h with ⟨hcs, _⟩ | ⟨a, l, c, m, n, D, Pl, hcs, _, hl, hm', hm, _, hx⟩
  · simp at hcs
    subst hcs
    exact ⟨⟨none, 0, 0⟩, [], rfl, ⟨rfl, by show (0 : Nat) ≤ _; omega, Nat.le_refl _, fun j x hx => by simp at hx, fun e he => by cases he⟩⟩
  · simp at hcs
    subst hcs
    simp at hm
    subst hm
    have hs : ∀ j, j < l → ∃ s : En, (∃ b off, some a = some ⟨b, off, none⟩ ∧ ∀ i, i < 10 → W.cell? ⟨b, off + j * 10 + i, none⟩ = s.cs[i]?) ∧ EnT' enc W s := by
      intro j hj
      obtain ⟨cs, h1, h2⟩ := hx j (by omega)
      obtain ⟨s, rfl, h3⟩ := en_of h2
      rw [cells81] at h1
      obtain ⟨_, _, h4⟩ := World.cells?_some h1
      obtain ⟨b, off, spot⟩ := a
      have hspot : spot = none := by
        obtain ⟨cs', h1', h2'⟩ := hx 0 (by omega)
        rw [cells81] at h1'
        obtain ⟨s', rfl, _⟩ := en_of h2'
        obtain ⟨_, _, h4'⟩ := World.cells?_some h1'
        have := h4' 0 (by omega)
        simpa [Addr.add] using World.cell?_spot (v := .int .i64 s'.key.kind) (this.trans rfl)
      subst hspot
      refine ⟨s, ⟨b, off, rfl, fun i hi => ?_⟩, h3⟩
      have := h4 i hi
      simp only [Addr.add_lit] at this
      exact this
    refine ⟨⟨some a, l, _⟩, (List.range l).map (fun j => if hj : j < l then Classical.choose (hs j hj) else ⟨⟨0, 0, ByteArray.empty, 0, none, 0, 0⟩, ⟨0, 0, ByteArray.empty, 0, none, 0, 0⟩⟩), rfl, ⟨by simp, by show l ≤ _; unfold maxLen at hm'; omega, by show l ≤ _; omega, ?_, ?_⟩⟩
    · intro j h hjh
      simp only [List.getElem?_map, Option.map_eq_some_iff] at hjh
      obtain ⟨j', hj', rfl⟩ := hjh
      have hj : j < l := by have := (List.getElem?_eq_some_iff.1 hj').1; simpa using this
      have : j' = j := by simpa [hj] using hj'.symm
      subst this
      simp only [hj, dif_pos]
      exact (Classical.choose_spec (hs j' hj)).1
    · intro h hh
      simp only [List.mem_map, List.mem_range] at hh
      obtain ⟨j, hj, rfl⟩ := hh
      simp only [hj, dif_pos]
      have := (Classical.choose_spec (hs j hj)).2
      exact ⟨deep_of this.1.1 this.1.2, deep_of this.2.1 this.2.2⟩
set_option maxRecDepth 100000 in
theorem state_of {a0 : Option Addr} {len cap : Nat} {d : DataW H} {ps : List MemPlace} (h : DataW.Trod enc Try.prog W 0 (fun _ => true) true 27 (.agg #[.slice a0 len cap]) d ps) : ∃ ms : List (Sl × List En), StD W a0 len ms ∧ len ≤ cap := by
  obtain ⟨fuel, hf0⟩ := h
  obtain ⟨xs, n, _, _, hl0, hlen0, hf⟩ := DataW.trod_struct Try.underlying27 hf0
  match xs, hlen0 with
  | [y0], _ =>
    have h0 := hf 0 _ rfl
    simp [cells25, Value.cells] at h0
    rcases open_slice Try.underlying25 h0 with ⟨hcs, _⟩ | ⟨a, l, c, m, n, D, Pl, hcs, _, hl, hm', hm, _, hx⟩
    · simp at hcs
      obtain ⟨rfl, rfl, rfl⟩ := hcs
      exact ⟨[], ⟨rfl, by omega, fun j x hx => by simp at hx, fun m hm => by cases hm⟩, Nat.le_refl _⟩
    · simp at hcs
      obtain ⟨rfl, rfl, rfl⟩ := hcs
      simp at hm
      subst hm
      have hs : ∀ j, j < len → ∃ s : Sl × List En, (∃ b off, some a = some ⟨b, off, none⟩ ∧ W.cell? ⟨b, off + j, none⟩ = some s.1.v) ∧ EnD W s := by
        intro j hj
        obtain ⟨cs, h1, h2⟩ := hx j (by omega)
        rw [cells70] at h1
        obtain ⟨hsz, _, h4⟩ := World.cells?_some h1
        obtain ⟨v, rfl⟩ : ∃ v, cs = [v] := by
          match cs, hsz with
          | [v], _ => exact ⟨v, rfl⟩
        obtain ⟨s, es, rfl, h3⟩ := enrow_of h2
        have h5 := h4 0 (by omega)
        obtain ⟨b, off, spot⟩ := a
        have hspot : spot = none := by
          obtain ⟨cs', h1', h2'⟩ := hx 0 (by omega)
          rw [cells70] at h1'
          obtain ⟨hsz', _, h4'⟩ := World.cells?_some h1'
          obtain ⟨v', rfl⟩ : ∃ v, cs' = [v] := by
            match cs', hsz' with
            | [v], _ => exact ⟨v, rfl⟩
          have := h4' 0 (by omega)
          simpa [Addr.add] using World.cell?_spot (v := v') (this.trans rfl)
        subst hspot
        refine ⟨(s, es), ⟨b, off, rfl, ?_⟩, h3⟩
        simp only [Addr.add_lit, Nat.mul_one, Nat.add_zero] at h5
        exact h5
      refine ⟨(List.range len).map (fun j => if hj : j < len then Classical.choose (hs j hj) else (⟨none, 0, 0⟩, [])), ⟨by simp, by unfold maxLen at hm'; omega, ?_, ?_⟩, by omega⟩
      · intro j h hjh
        simp only [List.getElem?_map, Option.map_eq_some_iff] at hjh
        obtain ⟨y, ⟨j', hj', rfl⟩, rfl⟩ := hjh
        have hj : j < len := by have := (List.getElem?_eq_some_iff.1 hj').1; simpa using this
        have : j' = j := by simpa [hj] using hj'.symm
        subst this
        simp only [hj, dif_pos]
        exact (Classical.choose_spec (hs j' hj)).1
      · intro h hh
        simp only [List.mem_map, List.mem_range] at hh
        obtain ⟨j, hj, rfl⟩ := hh
        simp only [hj, dif_pos]
        exact (Classical.choose_spec (hs j hj)).2
end
/- What isn't great, as trees. -/
theorem entries_of {w : World} : ∀ (es : List En), (∀ e ∈ es, Sm w e.key ∧ Sm w e.val) → ∃ ps : Rw 3, ps.map (enT 3) = es ∧ ∀ p ∈ ps, Rds 3 w p.1 ∧ Rds 3 w p.2 := by
  intro es hs
  induction es with
  | nil => exact ⟨[], rfl, fun p hp => by cases hp⟩
  | cons e r ih =>
    obtain ⟨t, h1, h2⟩ := tree_of (hs e (by simp)).1
    obtain ⟨u, g1, g2⟩ := tree_of (hs e (by simp)).2
    obtain ⟨ps, h3, h4⟩ := ih (fun x hx => hs x (by simp [hx]))
    refine ⟨(t, u) :: ps, by simp [enT, h1, g1, h3], fun p hp => ?_⟩
    rcases List.mem_cons.1 hp with rfl | hp
    · exact ⟨h2, g2⟩
    · exact h4 p hp
theorem rows_small {w : World} : ∀ (ms : List (Sl × List En)), (∀ m ∈ ms, EnD w m) → (∀ m ∈ ms, EnS w m) → ∃ rs : List (Sl × Rw 3), rs.map (·.1) = ms.map (·.1) ∧ ∀ r ∈ rs, RwR 3 w r.1.a r.1.n r.2 ∧ r.1.n ≤ r.1.cap := by
  intro ms hd hs
  induction ms with
  | nil => exact ⟨[], rfl, fun r hr => by cases hr⟩
  | cons m r ih =>
    obtain ⟨ps, h1, h2⟩ := entries_of m.2 (hs m (by simp)).2
    obtain ⟨rs, h3, h4⟩ := ih (fun x hx => hd x (by simp [hx])) (fun x hx => hs x (by simp [hx]))
    have dm := hd m (by simp)
    have hl : ps.length = m.2.length := by rw [← h1, List.length_map]
    refine ⟨(m.1, ps) :: rs, by simp [h3], fun x hx => ?_⟩
    rcases List.mem_cons.1 hx with rfl | hx
    · exact ⟨⟨by show m.1.n = ps.length; rw [hl]; exact dm.n1, by show m.1.n ≤ 1000; have := (hs m (by simp)).1; have := dm.n1; omega, by show ERd w m.1.a (ps.map (enT 3)); rw [h1]; exact dm.rd, h2⟩, dm.cap⟩
    · exact h4 x hx
theorem small_state {w : World} {a : Option Addr} {n : Nat} {ms : List (Sl × List En)} (d : StD w a n ms) (h20 : ms.length ≤ 20) (h : ∀ m ∈ ms, EnS w m) : ∃ rs : List (Sl × Rw 3), StR 3 w a n rs := by
  obtain ⟨rs, h1, h2⟩ := rows_small ms d.el h
  have hl : rs.length = ms.length := by have := congrArg List.length h1; simpa using this
  exact ⟨rs, by rw [hl]; exact d.n1, by have := d.n1; omega, by rw [h1]; exact d.rd, h2⟩
end Go.Proofs.Ytenfgahedbeekaa

namespace Go.Proofs.Ytenfgahedbeekaa
open Go.RowKit Go.Deep Go.Shelf
set_option linter.unusedVariables false
set_option linter.unusedSimpArgs false

theorem sl_one (ms : List Sl) : ∀ u ∈ ms.map Sl.v, u.oneCell' = true := by
  intro u hu
  simp only [List.mem_map] at hu
  obtain ⟨x, _, rfl⟩ := hu
  rfl
theorem run_appMs (w : World) (ty : TypeId) (a : Option Addr) (n cap : Nat) (ms : List Sl) (hn : n = ms.length) (h0 : 0 < n) (hle : n ≤ 1000) (hrd : MRd w a ms) :
    ∃ g c' w', (Builtin.append_ #[25, 25] ty #[.slice none 0 0, .slice a n cap]).run Try.prog w = .ok (.slice (some ⟨g, 0, none⟩) n c') w' ∧ MRow w' w.heap.size (.slice (some ⟨g, 0, none⟩) n c') ms ∧ w.grownBy w' none := by
  obtain ⟨i0, hi, hz0, hz1, hz2⟩ := info_parts info70
  obtain ⟨x, hx⟩ : ∃ x, ms[0]? = some x := ⟨ms[0]'(by omega), List.getElem?_eq_getElem _⟩
  obtain ⟨b, off, ea, _⟩ := hrd 0 x hx
  subst ea
  obtain ⟨v', w', hrun, hown, hgr, _, hat⟩ := run_append_own_at (P := Try.prog) w w.heap.size 25 ty 70 i0 (.slice none 0 0) 1 24 Try.underlying25 hi hz0 hz1 hz2 rfl (by decide) (.slice none 0 0) 0 [] (World.ownsRow_nil _ _ _ _) ⟨b, off, none⟩ n cap (ms.map Sl.v) (by rw [List.length_map, Nat.mul_one, hn]) (by
    intro j u hu
    rw [List.getElem?_map, Option.map_eq_some_iff] at hu
    obtain ⟨y, hy, rfl⟩ := hu
    obtain ⟨b', off', e, hc⟩ := hrd j y hy
    cases e
    rw [Addr.add_lit]; exact hc) (sl_one ms) (by unfold maxLen; omega) (by omega) (Nat.le_refl _)
  have hm : MRow w' w.heap.size v' ms := by
    unfold MRow
    rw [Nat.zero_add, List.nil_append, hn] at hown
    exact hown
  rcases hm.2 with ⟨_, hz⟩ | ⟨g, c', cur, e, hb, hgg, rest⟩
  · omega
  · subst e
    rw [← hn] at hrun hm
    exact ⟨g, c', w', hrun, hm, hgr⟩
theorem wpList_appMs {ops : Array Oper} {rest : List Oper} {o : Oper} {a : Act} {Q : Exit → Act → World → Prop} (w : World) (hgd : o.guard = none) (s x : Operand)
    (ho : o.op = .call { callee := .builtin .append, args := #[s, x], argTypes := #[25, 25] }) (va : Option Addr) (n cap : Nat) (hs : a.eval s = .slice none 0 0) (hx : a.eval x = .slice va n cap)
    (ms : List Sl) (hn : n = ms.length) (h0 : 0 < n) (hle : n ≤ 1000) (hrd : MRd w va ms)
    (k : ∀ g c' w', MRow w' w.heap.size (.slice (some ⟨g, 0, none⟩) n c') ms → w.grownBy w' none → wpList Try.prog ops Q rest (a.put o.dst (.slice (some ⟨g, 0, none⟩) n c')) w') :
    wpList Try.prog ops Q (o :: rest) a w := by
  refine wpList_plain hgd fun K hK => ?_
  obtain ⟨g, c', w', hrun, h2, h3⟩ := run_appMs w o.type va n cap ms hn h0 hle hrd
  unfold Oper.wp execOp
  simp only [ho, resolve, invoke, builtin, Sem.run_bind, Sem.run_pure, Result.andThen_ok, List.map_toArray, List.map_cons, List.map_nil, hs, hx, hrun]
  exact hK _ _ (k g c' w' h2 h3)
theorem MRow.set {w : World} {B g n cap : Nat} {ms : List Sl} (h : MRow w B (.slice (some ⟨g, 0, none⟩) n cap) ms) (j : Nat) (hj : j < ms.length) (x : Sl) : MRow (w.setCell ⟨g, j, none⟩ x.v) B (.slice (some ⟨g, 0, none⟩) n cap) (ms.set j x) := by
  refine ⟨by rw [List.length_map, List.length_set, Nat.mul_one], ?_⟩
  rcases h.2 with ⟨e, _⟩ | ⟨g', cap', cur, e, hb, hgg, hc, hm, hs, ht⟩
  · cases e
  · cases e
    refine .inr ⟨g, cap, _, by rw [List.length_set], hb, heap_set_at hgg j x.v, by rw [List.length_set]; exact hc, hm, by simpa using hs, ?_⟩
    rw [List.length_set, Array.toList_setIfInBounds, List.take_set, ht, List.map_set]
def RwT (k : Nat) (w : World) (ms : List (Sl × Rw k)) (e : Ending) (w' : World) : Prop := ∃ g fn fc, e = .returned (.agg #[.slice (some ⟨g, 0, none⟩) fn fc]) ∧ Below w.heap.size w w' ∧ fn ≤ fc ∧ w.heap.size ≤ g ∧ g < w'.heap.size ∧ fn = ms.length ∧ fn ≤ 1000 ∧ MRd w' (some ⟨g, 0, none⟩) (ms.map (·.1))
set_option maxRecDepth 100000 in
set_option maxHeartbeats 2000000 in
theorem refWith_any (k : Nat) (w : World) (sa : Option Addr) (sn sc : Nat) (ms : List (Sl × Rw k)) (hd : StR k w sa sn ms) (i0 : Nat) (hi : i0 < sn) (la : Option Addr) (ln lc : Nat) (lr : Rw k) (hl : RwR k w la ln lr) (hlc : ln ≤ lc) :
    Calls Try.prog 43 #[.agg #[.slice sa sn sc], .int .i64 (i0 : Int), .slice la ln lc] w (RwT k w (ms.set i0 (⟨la, ln, lc⟩, lr))) := by
  have D := hid hd
  have DL := hid hl
  have Hn := hid hd.n1
  have hle := hd.n2
  have hi1 : (i0 : Int) < (sn : Int) := by omega
  have hi0 : (0 : Int) ≤ (i0 : Int) := by omega
  have hle2 : (sn : Int) ≤ 1000 := by omega
  clear hd hl
  obtain ⟨W0, hW0⟩ : ∃ W0, W0 = (w.alloc (.cells #[.slice sa sn sc] 27)).alloc (.cells #[.slice none 0 0] 27) := ⟨_, rfl⟩
  have q1 : W0.heap[w.heap.size]? = some (.cells #[.slice sa sn sc] 27 (0, 0)) := by rw [hW0]; exact (Below.heap_alloc _ _ _ (by simp)).trans (heap_alloc_new w _)
  have q2 : W0.heap[w.heap.size + 1]? = some (.cells #[.slice none 0 0] 27 (0, 0)) := by
    have := heap_alloc_new (w.alloc (.cells #[.slice sa sn sc] 27)) (.cells #[.slice none 0 0] 27)
    rw [World.size_alloc] at this
    rw [hW0]; exact this
  have hb0 : Below w.heap.size w W0 := by rw [hW0]; exact boxes2 _ _ _ _ _
  have hz0 : W0.heap.size = w.heap.size + 2 := by rw [hW0]; simp
  have c0 : W0.cell? ⟨w.heap.size, 0, none⟩ = some (.slice sa sn sc) := cellOf q1 0
  have HR := hid (D.out.rd.below (Nat.le_refl _) hb0)
  have HB0 := hid hb0
  have Q2 := hid q2
  have HZ := hid hz0
  clear q1 q2 hb0 hz0
  go_enter Try.func43, Try.ntmps43
  go_upto_region 1 with fail
  rw [← hW0]
  clear hW0
  go_upto_region 2 with (at_builtin; refine wpList_appMs W0 rfl _ _ rfl sa sn sc (by rfl) (by rfl) (ms.map (·.1)) (by rw [List.length_map]; exact Hn.out) (by omega) hle HR.out ?_; intro g c' w2 hr2 hg2; have HR2 := hid hr2; have HG2 := hid hg2; clear hr2 hg2)
  obtain ⟨W3, hW3⟩ : ∃ W3, W3 = w2.alloc (.cells #[.slice (some ⟨g, 0, none⟩) sn c'] 27) := ⟨_, rfl⟩
  rw [← hW3]
  have hb2 : Below W0.heap.size W0 w2 := below_of_grown HG2.out
  have hb3 : Below w2.heap.size w2 W3 := by rw [hW3]; exact (Below.refl _ w2).alloc (Nat.le_refl _) _
  have x3 : W3.heap[w2.heap.size]? = some (.cells #[.slice (some ⟨g, 0, none⟩) sn c'] 27 (0, 0)) := by rw [hW3]; exact heap_alloc_new w2 _
  have r3 := HR2.out.below (Nat.le_refl _) hb3
  have hown := r3.own g rfl
  have hownL := HR2.out.own g rfl
  have x2 : W3.heap[w.heap.size + 1]? = some (.cells #[.slice none 0 0] 27 (0, 0)) := (hb3.block _ (Nat.lt_of_lt_of_le (Array.getElem?_eq_some_iff.1 Q2.out).1 hb2.size)).trans ((hb2.block _ (Array.getElem?_eq_some_iff.1 Q2.out).1).trans Q2.out)
  have hne : g ≠ w2.heap.size := by omega
  have hne1 : g ≠ w.heap.size + 1 := by have := HZ.out; omega
  have hne2 : w2.heap.size ≠ w.heap.size + 1 := by have := HZ.out; have := hb2.size; omega
  have y0 := cellOf x3 0
  simp only [List.getElem?_toArray, List.getElem?_cons_zero] at y0
  obtain ⟨m0, hm0⟩ : ∃ m0, (ms.map (·.1))[i0]? = some m0 := ⟨(ms.map (·.1))[i0]'(by rw [List.length_map, ← Hn.out]; exact hi), List.getElem?_eq_getElem _⟩
  obtain ⟨b', o', e', cg⟩ := r3.rd i0 m0 hm0
  cases e'
  rw [Nat.zero_add] at cg
  have fg : W3.frozen? ⟨g, i0, none⟩ = false := by
    rcases r3.2 with ⟨e, _⟩ | ⟨g', cap', cur, e, hb, hgg, _⟩
    · cases e
    · cases e; exact freeOf hgg i0
  have r4 := r3.set i0 (by rw [List.length_map, ← Hn.out]; exact hi) ⟨la, ln, lc⟩
  have st4 : ∀ b, b ≠ g → (W3.setCell ⟨g, i0, none⟩ (.slice la ln lc)).heap[b]? = W3.heap[b]? := fun b hb => Below.heap_setCell _ _ _ _ hb
  have z3 := (st4 _ (fun e => hne e.symm)).trans x3
  have z2 := (st4 _ (fun e => hne1 e.symm)).trans x2
  have z30 := cellOf z3 0
  have z20 := cellOf z2 0
  have z2f := freeOf z2 0
  simp only [List.getElem?_toArray, List.getElem?_cons_zero] at z30 z20
  have Z2 := hid z2
  have R4 := hid r4
  have bw : Below w.heap.size w (W3.setCell ⟨g, i0, none⟩ (.slice la ln lc)) := ((HB0.out.trans (hb2.mono HB0.out.size)).trans (hb3.mono (Nat.le_trans HB0.out.size hb2.size))).setCell (p := ⟨g, i0, none⟩) (by show w.heap.size ≤ g; have := HZ.out; omega) _
  have BW := hid bw
  have Hne1 := hid hne1
  clear hW3 x3 r3 x2 z3 z2 r4 bw hb2 hb3 hm0 hown hownL hne hne1 hne2
  go_wp2
  have h5 := set_cells Z2.out (.slice (some ⟨g, 0, none⟩) sn c')
  have r0 := cellOf h5 0
  simp only [List.getElem?_toArray, List.getElem?_cons_zero] at r0
  have hb5 := BW.out.setCell (p := ⟨w.heap.size + 1, 0, none⟩) (by show w.heap.size ≤ w.heap.size + 1; omega) (.slice (some ⟨g, 0, none⟩) sn c')
  have r5 := R4.out.same (w' := (W3.setCell ⟨g, i0, none⟩ (.slice la ln lc)).setCell ⟨w.heap.size + 1, 0, none⟩ (.slice (some ⟨g, 0, none⟩) sn c')) (fun q e => Below.heap_setCell _ _ _ _ (by cases e; exact Hne1.out))
  have hcap : sn ≤ c' := by
    obtain ⟨_, _, e, h⟩ := HR2.out.form
    cases e
    rw [List.length_map] at h
    have := Hn.out
    omega
  generalize (W3.setCell ⟨g, i0, none⟩ (.slice la ln lc)).setCell ⟨w.heap.size + 1, 0, none⟩ (.slice (some ⟨g, 0, none⟩) sn c') = W9 at *
  have hgb := r5.own g rfl
  refine bodyPost_ret (v := .agg #[.slice (some ⟨g, 0, none⟩) sn c']) (by simp [results, Try.results43, go_sem, r0]) rfl ⟨g, _, _, rfl, hb5, hcap, by have := HZ.out; omega, hgb.2, by rw [List.length_set]; exact Hn.out, hle, ?_⟩
  have := r5.rd
  rw [List.map_set]
  exact this
end Go.Proofs.Ytenfgahedbeekaa

