/- few; what both sides make, told once. -/
import Derived.Test.YtmhjnfibpngpmaaJAH
import Derived.ProofKit
import Derived.OpenShut
import Derived.ChangeOld
import Derived.ChangeSlices
import Derived.ChangeMaps5
import Derived.ChangeAt
import Derived.Below
import Derived.Deep.Slices
import Derived.SizedLaws
import Derived.Deep.CutBlock
import Derived.Deep.DeepCutAuto
namespace Go.Proofs.Ytmhjnfibpngpmaa
set_option maxRecDepth 100000
open Go.RowKit Go.Deep Go.Shelf
set_option linter.unusedVariables false
set_option linter.unusedSimpArgs false
/- Blocks that came in: of whatever length. -/
structure BkW (w : World) (x : Blk) : Prop where
  n : x.on = x.ops.length
  nb : x.on ≤ 140737488355328
  r : ORd w x.oa x.ops
  z : x.oa = none → x.oc = 0
structure BRw (w : World) (a : Option Addr) (l : List Blk) : Prop where
  c : ∀ (j : Nat) (x : Blk), l[j]? = some x → ∃ b off, a = some ⟨b, off, none⟩ ∧ ∀ i, i < 5 → w.cell? ⟨b, off + j * 5 + i, none⟩ = x.cs[i]?
  e : ∀ x ∈ l, BkW w x
def tot (l : List Blk) : Nat := (l.map fun b => 1 + b.on).sum
theorem tot_take {bs : List Blk} {j : Nat} {b : Blk} (h : bs[j]? = some b) : tot (bs.take (j + 1)) = tot (bs.take j) + 1 + b.on := by
  unfold tot
  rw [List.take_add_one, h]
  simp; omega
theorem tot_pre (bs : List Blk) (j : Nat) : tot (bs.take j) ≤ tot bs := by
  have : tot bs = tot (bs.take j ++ bs.drop j) := by rw [List.take_append_drop]
  rw [this]; unfold tot; rw [List.map_append, List.sum_append]; omega
theorem tot_mem : ∀ {bs : List Blk} {b : Blk}, b ∈ bs → 1 + b.on ≤ tot bs
  | x :: r, b, h => by
    unfold tot
    rw [List.map_cons, List.sum_cons]
    rcases List.mem_cons.1 h with rfl | h
    · omega
    · have := tot_mem h; unfold tot at this; omega
theorem tot_len : ∀ (bs : List Blk), bs.length ≤ tot bs
  | [] => by simp
  | x :: r => by
    have := tot_len r
    unfold tot at this ⊢
    rw [List.map_cons, List.sum_cons, List.length_cons]; omega
theorem enB_len (b : Blk) (i : Nat) : (enB b i).length ≤ 2 := by
  unfold enB enO
  have h1 := lpO_len b.el ((i : Int) + 1)
  have h2 := lpO_len b.tt ((i : Int) + 1)
  split
  · simp; omega
  · split
    · simp
    · omega
theorem lay_tot : ∀ (bs : List Blk) (i : Nat), (∀ b ∈ bs, b.on = b.ops.length) → (layA i bs).length ≤ 2 * tot bs
  | [], i, _ => by simp [layA]
  | b :: r, i, h => by
    have h1 := lay_tot r (i + 1) (fun x hx => h x (List.mem_cons_of_mem _ hx))
    have h2 := enB_len b i
    have h3 := h b (List.mem_cons_self ..)
    have h4 : tot (b :: r) = 1 + b.on + tot r := by unfold tot; rw [List.map_cons, List.sum_cons]
    rw [h4]
    show (b.ops ++ enB b i ++ layA (i + 1) r).length ≤ _
    rw [List.length_append, List.length_append]; omega
theorem BRw.few {w : World} {a : Option Addr} {bs : List Blk} (h : BRw w a bs) (ht : tot bs ≤ 2500) : BRd w a bs :=
  ⟨h.c, fun x hx => ⟨(h.e x hx).n, by have := tot_mem hx; omega, (h.e x hx).r⟩⟩
set_option maxRecDepth 100000 in
set_option maxHeartbeats 1000000 in
theorem few_any (w : World) (regs : Int) (a : Option Addr) (n c : Nat) (bs : List Blk) (hn : n = bs.length) (hnb : n ≤ 140737488355328) (hr : BRw w a bs) : Calls Try.prog 29 #[.agg #[.int .i64 regs, .slice a n c]] w fun e w' => e = .returned (.bool (decide (tot bs ≤ 2500))) ∧ Below w.heap.size w w' := by
  obtain ⟨F0, hF0⟩ : ∃ F0, F0 = w.heap.size := ⟨_, rfl⟩
  obtain ⟨W0, hW0⟩ : ∃ W0, W0 = w.alloc (.cells #[.int .i64 regs, .slice a n c] 92) := ⟨_, rfl⟩
  have bw0 : Below w.heap.size w W0 := by rw [hW0]; exact (Below.refl _ _).alloc (Nat.le_refl _) _
  have m0 : W0.heap[F0]? = some (.cells #[.int .i64 regs, .slice a n c] 92 (0, 0)) := by rw [hW0, hF0]; exact heap_alloc_new _ _
  have x1 := cellOf m0 1
  simp only [List.getElem?_toArray, List.getElem?_cons_zero, List.getElem?_cons_succ] at x1
  have hnI : (n : Int) ≤ 140737488355328 := by omega
  have HB0 := hid bw0
  have HR := hid hr
  have HN := hid hn
  clear bw0 m0 hr hn
  go_enter Try.func29, Try.ntmps29
  go_upto_region 1 with fail
  rw [← hF0, ← hW0]
  clear hF0 hW0
  go_wp2
  go_loopg [3, 4] n (fun g x y wr => ∃ i : Nat, i + g = n ∧ y = .int .i64 (i : Int) ∧ x = .int .i64 (tot (bs.take i) : Int) ∧ tot (bs.take i) ≤ 140737488357829 ∧ wr = W0)
  case atStart => exact ⟨0, by omega, rfl, rfl, by simp [tot], rfl⟩
  case round =>
    obtain ⟨i, hi, rfl, rfl, hb, rfl⟩ := hrel
    have hpre := tot_pre bs i
    have hbI : (tot (bs.take i) : Int) ≤ 140737488357829 := by omega
    have hbI0 : (0 : Int) ≤ (tot (bs.take i) : Int) := by omega
    have hi0 : (0 : Int) ≤ (i : Int) := by omega
    cases gk with
    | zero =>
      have hin : i = n := by omega
      have hA : bs.take i = bs := by rw [hin, HN.out]; exact List.take_of_length_le (Nat.le_refl _)
      have hiI : (i : Int) = (n : Int) := by omega
      rw [hA] at hbI hbI0 hpre hb ⊢
      clear hin hA
      by_cases ht : tot bs ≤ 2500
      · have htI : (tot bs : Int) ≤ 2500 := by omega
        have HD := hid (decide_eq_true ht)
        go_wp2
        go_ret
        exact ⟨(by (try rw [HD.out]); try rfl), HB0.out⟩
      · have htI : ¬ (tot bs : Int) ≤ 2500 := by omega
        have HD := hid (decide_eq_false ht)
        go_wp2
        go_ret
        exact ⟨(by (try rw [HD.out]); try rfl), HB0.out⟩
    | succ g =>
      have hiI : (i : Int) < (n : Int) := by omega
      by_cases ht : tot (bs.take i) ≤ 2500
      · have htI : (tot (bs.take i) : Int) ≤ 2500 := by omega
        obtain ⟨o, ho⟩ : ∃ o, bs[i]? = some o := ⟨bs[i]'(by have := HN.out; omega), List.getElem?_eq_getElem _⟩
        obtain ⟨b, off, ea, hc⟩ := HR.out.c i o ho
        have hbk := (HR.out.e o (List.mem_of_getElem? ho)).nb
        have hsu := tot_take ho
        obtain ⟨oa, on, oc, en, ba, tt, el, ops⟩ := o
        have c0 := hc 0 (by omega)
        simp only [Blk.cs, List.getElem?_toArray, List.getElem?_cons_zero, List.getElem?_cons_succ, Nat.add_zero] at c0
        have c0' := belowCell c0 (Nat.le_refl _) HB0.out
        simp only at hbk hsu
        have honI : (on : Int) ≤ 140737488355328 := by omega
        have honI0 : (0 : Int) ≤ (on : Int) := by omega
        have HSU := hid hsu
        have HHB := hid hb
        subst ea
        clear hc hbk hsu ho c0 hb hpre
        go_wp2
        go_roundg g
        case measure => omega
        exact ⟨i + 1, by omega, by go_num, by rw [HSU.out]; go_num, by rw [HSU.out]; omega, rfl⟩
      · have htI : ¬ (tot (bs.take i) : Int) ≤ 2500 := by omega
        have HD := hid (decide_eq_false (show ¬ tot bs ≤ 2500 by omega))
        go_wp2
        go_ret
        exact ⟨(by (try rw [HD.out]); try rfl), HB0.out⟩
end Go.Proofs.Ytmhjnfibpngpmaa

namespace Go.Proofs.Ytmhjnfibpngpmaa
set_option maxRecDepth 100000
open Go.ChangeShapes Go.WideShapes Go.ChangeAt Go.RowKit Go.Deep
set_option linter.unusedVariables false
set_option linter.unusedSimpArgs false

theorem ownN : ownKnob Try.prog.godebug = none := by kernel_rfl
theorem laidOut : laidOutB Try.prog = true := by kernel_rfl
theorem f_cells3 : Try.prog.cellsOf 3 = 1 := by kernel_rfl
theorem cells36 : Try.prog.cellsOf 41 = 5 := by kernel_rfl
theorem cells27 : Try.prog.cellsOf 60 = 1 := by kernel_rfl
def f_CRd (w : World) (a : Option Addr) (k : Nat) (rows : List (List Value)) : Prop := ∀ (j : Nat) (r : List Value), rows[j]? = some r → ∃ b off, a = some ⟨b, off, none⟩ ∧ b < w.heap.size ∧ ∀ i, i < k → w.cell? ⟨b, off + j * k + i, none⟩ = r[i]?

section
variable {H : Type} {enc : TypeId × Value → H} {W : World}

def f_TrdT (enc : TypeId × Value → H) (W : World) (T : TypeId) (cs : List Value) : Prop := ∃ fuel x, DataW.trod enc Try.prog W 0 (fun _ => true) true fuel T cs = some x

set_option maxRecDepth 100000 in
theorem f_rows_of {T E : TypeId} {k : Nat} (hT : Try.prog.underlying T = some (.slice E)) (hk : Try.prog.cellsOf E = k) (k0 : 0 < k) {a0 : Option Addr} {len cap : Nat} (h : f_TrdT enc W T [.slice a0 len cap]) :
    ∃ rows : List (List Value), rows.length = len ∧ f_CRd W a0 k rows ∧ (∀ r ∈ rows, r.length = k ∧ f_TrdT enc W E r) ∧ len ≤ 9223372036854775807 ∧ len ≤ cap := by
  obtain ⟨fuel, x, hf⟩ := h
  rcases open_slice hT hf with ⟨hcs, _⟩ | ⟨a, l, c, m, n, D, Pl, hcs, _, hl, hm', hm, _, hx⟩
  · simp at hcs
    obtain ⟨rfl, rfl, rfl⟩ := hcs
    exact ⟨[], rfl, fun j x hx => by simp at hx, fun h hh => by simp at hh, by omega, by omega⟩
  · simp at hcs
    obtain ⟨rfl, rfl, rfl⟩ := hcs
    simp at hm
    subst hm
    have hs : ∀ j, j < len → ∃ r : List Value, (∃ b off, some a = some ⟨b, off, none⟩ ∧ b < W.heap.size ∧ ∀ i, i < k → W.cell? ⟨b, off + j * k + i, none⟩ = r[i]?) ∧ r.length = k ∧ f_TrdT enc W E r := by
      intro j hj
      obtain ⟨cs, h1, h2⟩ := hx j (by omega)
      rw [hk] at h1
      obtain ⟨_, h3, h4⟩ := World.cells?_some h1
      obtain ⟨b, off, spot⟩ := a
      have hc0 : cs[0]? = some (cs[0]'(by omega)) := by rw [List.getElem?_eq_getElem]
      have hcell := (h4 0 k0).trans hc0
      have hspot : spot = none := by
        obtain ⟨cs', h1', h2'⟩ := hx 0 (by omega)
        rw [hk] at h1'
        obtain ⟨_, h3', h4'⟩ := World.cells?_some h1'
        have := World.cell?_spot ((h4' 0 k0).trans (show cs'[0]? = some (cs'[0]'(by omega)) by rw [List.getElem?_eq_getElem]))
        simpa [Addr.add] using this
      subst hspot
      have hb : b < W.heap.size := by
        have := World.block_lt_of_cell? W _ hcell
        simpa [Addr.add_lit] using this
      refine ⟨cs, ⟨b, off, rfl, hb, fun i hi => ?_⟩, h3, _, _, h2⟩
      have := h4 i hi
      simp only [Addr.add_lit] at this
      exact this
    refine ⟨(List.range len).map (fun j => if hj : j < len then Classical.choose (hs j hj) else []), by simp, ?_, ?_, by unfold maxLen at hm'; omega, by omega⟩
    · intro j h hjh
      simp only [List.getElem?_map, Option.map_eq_some_iff] at hjh
      obtain ⟨j', hj', rfl⟩ := hjh
      have hj : j < len := by have := (List.getElem?_eq_some_iff.1 hj').1; simpa using this
      have : j' = j := by simpa [hj] using hj'.symm
      subst this
      simp only [hj, dif_pos]
      exact (Classical.choose_spec (hs j' hj)).1
    · intro h hh
      simp only [List.mem_map, List.mem_range] at hh
      obtain ⟨j, hj, rfl⟩ := hh
      simp only [hj, dif_pos]
      exact (Classical.choose_spec (hs j hj)).2

theorem f_int_of {c : Value} (h : f_TrdT enc W 3 [c]) : ∃ n, c = .int .i64 n := by
  obtain ⟨fuel, x, hf⟩ := h
  obtain ⟨n, e, _, w⟩ := DataW.trod_int Try.underlying3 hf
  simp at e
  exact ⟨n, e⟩
set_option maxRecDepth 100000 in
theorem f_slice_of {T E : TypeId} (hT : Try.prog.underlying T = some (.slice E)) {c : Value} (h : f_TrdT enc W T [c]) : ∃ a n cap, c = .slice a n cap := by
  obtain ⟨fuel, x, hf⟩ := h
  rcases open_slice hT hf with ⟨hcs, _⟩ | ⟨a, l, c, m, n', D, Pl, hcs, _, hl, hm', hm, _, hx⟩
  · simp at hcs; exact ⟨_, _, _, hcs⟩
  · simp at hcs; exact ⟨_, _, _, hcs⟩
set_option maxRecDepth 100000 in
theorem op_of {cs : List Value} (hl : cs.length = 5) (h : f_TrdT enc W 41 cs) : ∃ o : Opx, cs = o.cs.toList := by
  obtain ⟨fuel, x, hf⟩ := h
  obtain ⟨xs, n, _, rfl, _, hlen, hf⟩ := DataW.trod_struct Try.underlying41 hf
  match cs, hl with
  | [c0, c1, c2, c3, c4], _ =>
    match xs, hlen with
    | [y0, y1, y2, y3, y4], _ =>
      have h0 := hf 0 _ rfl
      have h1 := hf 1 _ rfl
      have h2 := hf 2 _ rfl
      have h3 := hf 3 _ rfl
      have h4 := hf 4 _ rfl
      simp [f_cells3] at h0 h1 h2 h3 h4
      obtain ⟨n0, rfl⟩ := f_int_of ⟨_, _, h0⟩
      obtain ⟨n1, rfl⟩ := f_int_of ⟨_, _, h1⟩
      obtain ⟨n2, rfl⟩ := f_int_of ⟨_, _, h2⟩
      obtain ⟨n3, rfl⟩ := f_int_of ⟨_, _, h3⟩
      obtain ⟨n4, rfl⟩ := f_int_of ⟨_, _, h4⟩
      exact ⟨⟨n0, n1, n2, n3, n4⟩, rfl⟩
/- Rows out of their elements. -/
theorem f_list_of {α β : Type} {R : α → β → Prop} : ∀ (l : List α), (∀ a ∈ l, ∃ b, R a b) → ∃ m : List β, m.length = l.length ∧ ∀ (j : Nat) (a : α), l[j]? = some a → ∃ b, m[j]? = some b ∧ R a b
  | [], _ => ⟨[], rfl, fun j a e => by simp at e⟩
  | a :: l, h => by
    obtain ⟨b, hb⟩ := h a (by simp)
    obtain ⟨m, hm, hr⟩ := f_list_of l (fun x hx => h x (by simp [hx]))
    refine ⟨b :: m, by simp [hm], fun j x e => ?_⟩
    cases j with
    | zero => simp at e; subst e; exact ⟨b, rfl, hb⟩
    | succ j => simp at e; exact hr j x e
theorem f_at_of {α β : Type} {l : List α} {m : List β} (h : m.length = l.length) {j : Nat} {b : β} (e : m[j]? = some b) : ∃ a, l[j]? = some a := by
  have := (List.getElem?_eq_some_iff.1 e).1
  exact ⟨l[j]'(by omega), by rw [List.getElem?_eq_getElem]⟩

theorem ord_of {a : Option Addr} {n cap : Nat} (h : f_TrdT enc W 60 [.slice a n cap]) : ∃ ops : List Opx, n = ops.length ∧ n ≤ 9223372036854775807 ∧ ORd W a ops := by
  obtain ⟨rows, hl, hrd, hel, hn, hc⟩ := f_rows_of Try.underlying60 cells36 (by omega) h
  obtain ⟨ts, hm, hr⟩ := f_list_of (R := fun r (t : Opx) => r = t.cs.toList) rows (fun r hr => by
    obtain ⟨h1, h2⟩ := hel r hr
    exact op_of h1 h2)
  refine ⟨ts, by omega, hn, fun j t e => ?_⟩
  obtain ⟨r, hrr⟩ := f_at_of hm e
  obtain ⟨t', e', rfl⟩ := hr j r hrr
  rw [e] at e'; cases e'
  obtain ⟨b, off, rfl, _, hcell⟩ := hrd j _ hrr
  exact ⟨b, off, rfl, fun i hi => by rw [hcell i hi]; simp⟩
end
end Go.Proofs.Ytmhjnfibpngpmaa

namespace Go.Proofs.Ytmhjnfibpngpmaa
set_option maxRecDepth 100000
open Go.ChangeShapes Go.WideShapes Go.ChangeAt Go.RowKit Go.Deep
set_option linter.unusedVariables false
set_option linter.unusedSimpArgs false
theorem cells47 : Try.prog.cellsOf 89 = 5 := by kernel_rfl
theorem f_cells22 : Try.prog.cellsOf 90 = 1 := by kernel_rfl
theorem f_cells24 : Try.prog.cellsOf 92 = 2 := by kernel_rfl
theorem bytes36 : Try.prog.bytesOf 41 = 40 := by kernel_rfl
theorem bytes47 : Try.prog.bytesOf 89 = 56 := by kernel_rfl
section
variable {H : Type} {enc : TypeId × Value → H} {W : World}
def f_Sm (T : TypeId) (d : DataW H) : Prop := ∀ n ∈ d.weights Try.prog T, n ≤ reachBytes
def TrdS (enc : TypeId × Value → H) (W : World) (T : TypeId) (cs : List Value) : Prop := ∃ fuel x, DataW.trod enc Try.prog W 0 (fun _ => true) true fuel T cs = some x ∧ f_Sm T x.1
theorem TrdS.t {T : TypeId} {cs : List Value} (h : TrdS enc W T cs) : f_TrdT enc W T cs := by
  obtain ⟨f, x, h1, _⟩ := h
  exact ⟨f, x, h1⟩
theorem mem_all {e : TypeId} : ∀ {l : List (DataW H)} {d : DataW H}, d ∈ l → ∀ n ∈ d.weights Try.prog e, n ∈ DataW.weightsAll Try.prog e l
  | x :: r, d, h, n, hn => by
    simp only [DataW.weightsAll, List.mem_append]
    rcases List.mem_cons.1 h with rfl | h
    · exact .inl hn
    · exact .inr (mem_all h n hn)
set_option maxRecDepth 100000 in
theorem rowsS_of {T E : TypeId} {k : Nat} (hT : Try.prog.underlying T = some (.slice E)) (hk : Try.prog.cellsOf E = k) (k0 : 0 < k) {a0 : Option Addr} {len cap : Nat} (h : TrdS enc W T [.slice a0 len cap]) :
    ∃ rows : List (List Value), rows.length = len ∧ f_CRd W a0 k rows ∧ (∀ r ∈ rows, r.length = k ∧ TrdS enc W E r) ∧ len * Try.prog.bytesOf E ≤ reachBytes ∧ (a0 = none → cap = 0) := by
  obtain ⟨fuel, x, hf, hsm⟩ := h
  rcases open_slice hT hf with ⟨hcs, _⟩ | ⟨a, l, c, m, n, D, Pl, hcs, _, hl, hm', hm, hxe, hx⟩
  · simp at hcs
    obtain ⟨rfl, rfl, rfl⟩ := hcs
    exact ⟨[], rfl, fun j x hx => by simp at hx, fun h hh => by simp at hh, by omega, fun _ => rfl⟩
  · simp at hcs
    obtain ⟨rfl, rfl, rfl⟩ := hcs
    simp at hm
    subst hm
    subst hxe
    have hD : ∀ i, i < len → f_Sm E (D i) := fun i hi n hn => hsm n (by
      simp only [DataW.weights, hT, List.mem_cons, List.mem_append]
      exact .inr (.inl (mem_all (List.mem_map.2 ⟨i, List.mem_range.2 hi, rfl⟩) n hn)))
    have hW : len * Try.prog.bytesOf E ≤ reachBytes := by
      have h1 := hsm ((((List.range len).map D).length + ((List.range (m - len)).map fun j => D (len + j)).length) * Try.prog.bytesOf E) (by simp only [DataW.weights, hT, List.mem_cons]; exact .inl trivial)
      refine Nat.le_trans (Nat.mul_le_mul_right _ ?_) h1
      simp
    have hs : ∀ j, j < len → ∃ r : List Value, (∃ b off, some a = some ⟨b, off, none⟩ ∧ b < W.heap.size ∧ ∀ i, i < k → W.cell? ⟨b, off + j * k + i, none⟩ = r[i]?) ∧ r.length = k ∧ TrdS enc W E r := by
      intro j hj
      obtain ⟨cs, h1, h2⟩ := hx j (by omega)
      rw [hk] at h1
      obtain ⟨_, h3, h4⟩ := World.cells?_some h1
      obtain ⟨b, off, spot⟩ := a
      have hc0 : cs[0]? = some (cs[0]'(by omega)) := by rw [List.getElem?_eq_getElem]
      have hcell := (h4 0 k0).trans hc0
      have hspot : spot = none := by
        obtain ⟨cs', h1', h2'⟩ := hx 0 (by omega)
        rw [hk] at h1'
        obtain ⟨_, h3', h4'⟩ := World.cells?_some h1'
        have := World.cell?_spot ((h4' 0 k0).trans (show cs'[0]? = some (cs'[0]'(by omega)) by rw [List.getElem?_eq_getElem]))
        simpa [Addr.add] using this
      subst hspot
      have hb : b < W.heap.size := by
        have := World.block_lt_of_cell? W _ hcell
        simpa [Addr.add_lit] using this
      refine ⟨cs, ⟨b, off, rfl, hb, fun i hi => ?_⟩, h3, _, _, h2, hD j hj⟩
      have := h4 i hi
      simp only [Addr.add_lit] at this
      exact this
    refine ⟨(List.range len).map (fun j => if hj : j < len then Classical.choose (hs j hj) else []), by simp, ?_, ?_, hW, fun e => by cases e⟩
    · intro j h hjh
      simp only [List.getElem?_map, Option.map_eq_some_iff] at hjh
      obtain ⟨j', hj', rfl⟩ := hjh
      have hj : j < len := by have := (List.getElem?_eq_some_iff.1 hj').1; simpa using this
      have : j' = j := by simpa [hj] using hj'.symm
      subst this
      simp only [hj, dif_pos]
      exact (Classical.choose_spec (hs j' hj)).1
    · intro h hh
      simp only [List.mem_map, List.mem_range] at hh
      obtain ⟨j, hj, rfl⟩ := hh
      simp only [hj, dif_pos]
      exact (Classical.choose_spec (hs j hj)).2
theorem reach_is : reachBytes = 140737488351232 := rfl
set_option maxRecDepth 100000 in
theorem blk_of {cs : List Value} (hl : cs.length = 5) (h : TrdS enc W 89 cs) : ∃ b : Blk, cs = b.cs.toList ∧ BkW W b := by
  obtain ⟨fuel, x, hf, hsm⟩ := h
  obtain ⟨xs, n, _, rfl, _, hlen, hf⟩ := DataW.trod_struct Try.underlying89 hf
  match cs, hl with
  | [c0, c1, c2, c3, c4], _ =>
    match xs, hlen with
    | [y0, y1, y2, y3, y4], _ =>
      have h0 := hf 0 _ rfl
      have h1 := hf 1 _ rfl
      have h2 := hf 2 _ rfl
      have h3 := hf 3 _ rfl
      have h4 := hf 4 _ rfl
      simp [f_cells3, cells27] at h0 h1 h2 h3 h4
      have s0 : f_Sm 60 y0.1 := fun n hn => hsm n (by
        simp only [DataW.weights, Try.underlying89]
        simp [DataW.weightsEach]
        exact .inl hn)
      obtain ⟨n1, rfl⟩ := f_int_of ⟨_, _, h1⟩
      obtain ⟨n2, rfl⟩ := f_int_of ⟨_, _, h2⟩
      obtain ⟨n3, rfl⟩ := f_int_of ⟨_, _, h3⟩
      obtain ⟨n4, rfl⟩ := f_int_of ⟨_, _, h4⟩
      obtain ⟨oa, on, oc, rfl⟩ := f_slice_of Try.underlying60 ⟨_, _, h0⟩
      obtain ⟨ops, e1, e2, e3⟩ := ord_of ⟨_, _, h0⟩
      obtain ⟨_, _, _, _, e4, e5⟩ := rowsS_of Try.underlying60 cells36 (by omega) ⟨_, _, h0, s0⟩
      rw [bytes36, reach_is] at e4
      exact ⟨⟨oa, on, oc, n1, n2, n3, n4, ops⟩, rfl, ⟨e1, by show on ≤ _; omega, e3, e5⟩⟩
theorem brw_of {a : Option Addr} {n cap : Nat} (h : TrdS enc W 90 [.slice a n cap]) : ∃ bs : List Blk, n = bs.length ∧ n ≤ 140737488355328 ∧ BRw W a bs := by
  obtain ⟨rows, hl, hrd, hel, hn, hc⟩ := rowsS_of Try.underlying90 cells47 (by omega) h
  rw [bytes47, reach_is] at hn
  obtain ⟨ts, hm, hr⟩ := f_list_of (R := fun r (t : Blk) => r = t.cs.toList ∧ BkW W t) rows (fun r hr => by
    obtain ⟨h1, h2⟩ := hel r hr
    exact blk_of h1 h2)
  refine ⟨ts, by omega, by omega, ⟨fun j t e => ?_, fun t ht => ?_⟩⟩
  · obtain ⟨r, hrr⟩ := f_at_of hm e
    obtain ⟨t', e', rfl, _⟩ := hr j r hrr
    rw [e] at e'; cases e'
    obtain ⟨b, off, rfl, _, hcell⟩ := hrd j _ hrr
    exact ⟨b, off, rfl, fun i hi => by rw [hcell i hi]; simp⟩
  · obtain ⟨j, hj⟩ := List.getElem?_of_mem ht
    obtain ⟨r, hrr⟩ := f_at_of hm hj
    obtain ⟨t', e', _, h2⟩ := hr j r hrr
    rw [hj] at e'; cases e'
    exact h2
set_option maxRecDepth 100000 in
theorem graph_of {cs : List Value} (hl : cs.length = 2) (h : TrdS enc W 92 cs) : ∃ (regs : Int) (a : Option Addr) (n cap : Nat) (bs : List Blk), cs = [.int .i64 regs, .slice a n cap] ∧ n = bs.length ∧ n ≤ 140737488355328 ∧ BRw W a bs := by
  obtain ⟨fuel, x, hf, hsm⟩ := h
  obtain ⟨xs, n, _, rfl, _, hlen, hf⟩ := DataW.trod_struct Try.underlying92 hf
  match cs, hl with
  | [c0, c1], _ =>
    match xs, hlen with
    | [y0, y1], _ =>
      have h0 := hf 0 _ rfl
      have h1 := hf 1 _ rfl
      simp [f_cells3, f_cells22] at h0 h1
      have s1 : f_Sm 90 y1.1 := fun n hn => hsm n (by
        simp only [DataW.weights, Try.underlying92]
        simp [DataW.weightsEach]
        exact .inr hn)
      obtain ⟨regs, rfl⟩ := f_int_of ⟨_, _, h0⟩
      obtain ⟨a, m, cap, rfl⟩ := f_slice_of Try.underlying90 ⟨_, _, h1⟩
      obtain ⟨bs, h2, h3, h4⟩ := brw_of ⟨_, _, h1, s1⟩
      exact ⟨regs, a, m, cap, bs, rfl, h2, h3, h4⟩
end
end Go.Proofs.Ytmhjnfibpngpmaa

namespace Go.Proofs.Ytmhjnfibpngpmaa
open Go.RowKit Go.Deep Go.Shelf
set_option linter.unusedVariables false
set_option linter.unusedSimpArgs false
structure Shp where
  nm : ByteArray
  d : Int
  a : Int
  b : Int
  k : Int
def Shp.cs (s : Shp) : List Value := [.string s.nm, .int .u8 s.d, .int .u8 s.a, .int .u8 s.b, .int .u8 s.k]
def shp0 : Shp := ⟨.empty, 0, 0, 0, 0⟩
def shpL : List Shp := [shp0, ⟨⟨#[105, 110, 116]⟩, 1, 0, 0, 6⟩, ⟨⟨#[116, 101, 120, 116]⟩, 1, 0, 0, 7⟩, ⟨⟨#[98, 111, 111, 108]⟩, 1, 0, 0, 8⟩, ⟨⟨#[109, 111, 118, 101]⟩, 1, 3, 0, 0⟩, ⟨⟨#[97, 100, 100]⟩, 1, 3, 3, 0⟩, ⟨⟨#[115, 117, 98]⟩, 1, 3, 3, 0⟩, ⟨⟨#[109, 117, 108]⟩, 1, 3, 3, 0⟩, ⟨⟨#[119, 97, 100, 100]⟩, 1, 3, 3, 0⟩, ⟨⟨#[119, 115, 117, 98]⟩, 1, 3, 3, 0⟩, ⟨⟨#[119, 109, 117, 108]⟩, 1, 3, 3, 0⟩, ⟨⟨#[100, 105, 118]⟩, 1, 3, 3, 0⟩, ⟨⟨#[109, 111, 100]⟩, 1, 3, 3, 0⟩, ⟨⟨#[99, 97, 116]⟩, 1, 3, 3, 0⟩, ⟨⟨#[101, 113]⟩, 1, 3, 3, 0⟩, ⟨⟨#[110, 101]⟩, 1, 3, 3, 0⟩, ⟨⟨#[108, 116]⟩, 1, 3, 3, 0⟩, ⟨⟨#[108, 101]⟩, 1, 3, 3, 0⟩, ⟨⟨#[103, 116]⟩, 1, 3, 3, 0⟩, ⟨⟨#[103, 101]⟩, 1, 3, 3, 0⟩, ⟨⟨#[110, 101, 103]⟩, 1, 3, 0, 0⟩, ⟨⟨#[110, 111, 116]⟩, 1, 3, 0, 0⟩, ⟨⟨#[108, 101, 110]⟩, 1, 3, 0, 0⟩, ⟨⟨#[115, 116, 114]⟩, 1, 3, 0, 0⟩, ⟨⟨#[109, 97, 107, 101]⟩, 1, 5, 0, 9⟩, ⟨⟨#[102, 105, 101, 108, 100]⟩, 1, 3, 0, 10⟩, ⟨⟨#[103, 101, 116]⟩, 1, 3, 0, 11⟩, ⟨⟨#[104, 97, 115]⟩, 1, 3, 0, 11⟩, ⟨⟨#[112, 117, 116]⟩, 0, 3, 3, 11⟩, ⟨⟨#[100, 101, 108]⟩, 0, 3, 0, 11⟩, ⟨⟨#[110, 101, 120, 116]⟩, 1, 3, 3, 11⟩, ⟨⟨#[99, 97, 108, 108]⟩, 2, 5, 0, 12⟩, ⟨⟨#[97, 115, 107]⟩, 1, 3, 0, 7⟩, ⟨⟨#[101, 109, 105, 116]⟩, 0, 3, 0, 0⟩, ⟨⟨#[97, 102, 116, 101, 114]⟩, 0, 3, 5, 13⟩, ⟨⟨#[99, 104, 97, 114, 103, 101]⟩, 0, 0, 0, 0⟩, ⟨⟨#[101, 110, 116, 101, 114]⟩, 0, 0, 0, 0⟩, ⟨⟨#[108, 101, 97, 118, 101]⟩, 0, 0, 0, 0⟩, ⟨⟨#[106, 117, 109, 112]⟩, 0, 0, 0, 14⟩, ⟨⟨#[117, 110, 108, 101, 115, 115]⟩, 0, 3, 0, 14⟩, ⟨⟨#[114, 101, 116]⟩, 0, 4, 0, 0⟩]
def shpAt (k : Int) : Shp := shpL.getD k.toNat shp0
def isC (k : Int) : Bool := decide (1 ≤ k) && decide (k < 41)
def shpC : Array Value := (shpL.flatMap Shp.cs).toArray
theorem shpC_len : shpL.length = 41 := by rfl
theorem flat_get : ∀ (l : List Shp) (j : Nat) (s : Shp), l[j]? = some s → ∀ i, i < 5 → (l.flatMap Shp.cs)[j * 5 + i]? = s.cs[i]?
  | [], j, s, h => by simp at h
  | p :: l, 0, s, h => fun i hi => by
    simp at h; subst h
    rw [List.flatMap_cons, Nat.zero_mul, Nat.zero_add, List.getElem?_append_left (by show i < 5; exact hi)]
  | p :: l, j + 1, s, h => fun i hi => by
    have h1 : l[j]? = some s := by simpa using h
    have h2 := flat_get l j s h1 i hi
    rw [List.flatMap_cons, List.getElem?_append_right (by show 5 ≤ (j + 1) * 5 + i; omega)]
    have : (j + 1) * 5 + i - p.cs.length = j * 5 + i := by show (j + 1) * 5 + i - 5 = _; omega
    rw [this]; exact h2
theorem shp_get {k : Nat} (hk : k < 41) : shpL[k]? = some (shpAt (k : Int)) := by
  unfold shpAt
  rw [Int.toNat_natCast, List.getD_eq_getElem?_getD, List.getElem?_eq_getElem (show k < shpL.length by rw [shpC_len]; exact hk)]
  rfl
def blw (n c : Int) : Bool := decide (0 ≤ n) && decide (n < c)
set_option maxRecDepth 100000 in
theorem isBelow_any (w : World) (n c : Int) : Calls Try.prog 72 #[.int .i64 n, .int .i64 c] w fun e w' => e = .returned (.bool (blw n c)) ∧ w' = w := by
  by_cases h1 : 0 ≤ n
  · by_cases h2 : n < c
    · have HD : Hid (blw n c = true) := hid (by simp [blw, h1, h2])
      go_enter Try.func72, Try.ntmps72
      go_wp2
      go_ret
      exact ⟨by rw [HD.out]; rfl, rfl⟩
    · have HD : Hid (blw n c = false) := hid (by simp [blw, h2])
      go_enter Try.func72, Try.ntmps72
      go_wp2
      go_ret
      exact ⟨by rw [HD.out]; rfl, rfl⟩
  · have HD : Hid (blw n c = false) := hid (by simp [blw, h1])
    go_enter Try.func72, Try.ntmps72
    go_wp2
    go_ret
    exact ⟨by rw [HD.out]; rfl, rfl⟩
/- The pure side. -/
def rc0 : Rc := ⟨.empty, [], []⟩
def parmB (ss : List Sg) (k : Int) : Int × Bool := if blw k (ss.length : Int) = true then (((ss.getD k.toNat ⟨.empty, [], (0, 0)⟩).params.length : Int), true) else (0, false)
def rowLen (r : Int) (p : Pg) (k : Int) : Int × Bool :=
  if r = 9 then (if blw k (p.recs.length : Int) = true then ((((p.recs.map (·.2)).getD k.toNat rc0).fields.length : Int), true) else (0, false))
  else if r = 11 then (0, blw k (p.maps.length : Int))
  else if r = 12 then parmB (p.funcs.map (·.2)) k
  else if r = 13 then parmB (p.events.map (·.2)) k
  else (0, true)
structure Fx where
  regs : Int
  ops : List Opx
structure Cx where
  p : Pg
  ints : Nat
  texts : List ByteArray
  funcs : List Fx
  events : List Fx
def bnd (c : Cx) (regs : Int) (nops : Nat) (r len : Int) : Int × Int :=
  if r = 1 ∨ r = 3 then (0, regs - 1)
  else if r = 2 ∨ r = 4 then (-1, regs - 1)
  else if r = 5 then (0, regs - len)
  else if r = 6 then (0, (c.ints : Int) - 1)
  else if r = 7 then (0, (c.texts.length : Int) - 1)
  else if r = 8 then (0, 1)
  else if r = 9 then (0, (c.p.recs.length : Int) - 1)
  else if r = 10 then (0, 11)
  else if r = 11 then (0, (c.p.maps.length : Int) - 1)
  else if r = 12 then (0, (c.p.funcs.length : Int) - 1)
  else if r = 13 then (0, (c.p.events.length : Int) - 1)
  else if r = 14 then (0, (nops : Int) - 1)
  else (0, 0)
def inB (b : Int × Int) (n : Int) : Bool := !(decide (n < b.1) || decide (b.2 < n))
def isOpB (c : Cx) (regs : Int) (nops : Nat) (o : Opx) : Bool :=
  isC o.c && (let s := shpAt o.c; let len := (rowLen s.k c.p o.k).1
    inB (bnd c regs nops s.d len) o.d && inB (bnd c regs nops s.a len) o.a && inB (bnd c regs nops s.b len) o.b && inB (bnd c regs nops s.k len) o.k)
def isFnB (c : Cx) (params : Nat) (f : Fx) : Bool := !(decide (f.regs < (params : Int)) || decide (64 < f.regs) || decide (f.ops.length < 1) || decide (2000 < f.ops.length)) && f.ops.all (isOpB c f.regs f.ops.length)
def isFnsB (c : Cx) (ss : List Sg) (fs : List Fx) : Bool := (ss.zip fs).all fun x => isFnB c x.1.params.length x.2
def constB (c : Cx) : Bool := decide (c.ints ≤ 1000) && decide (c.texts.length ≤ 1000) && c.texts.all fun t => decide (t.size ≤ 64)
def isB (c : Cx) : Bool := rightB c.p && constB c && decide (c.funcs.length = c.p.funcs.length) && decide (c.events.length = c.p.events.length) && isFnsB c (c.p.funcs.map (·.2)) c.funcs && isFnsB c (c.p.events.map (·.2)) c.events
end Go.Proofs.Ytmhjnfibpngpmaa

namespace Go.Proofs.Ytmhjnfibpngpmaa
open Go.RowKit Go.Deep Go.Shelf
set_option linter.unusedVariables false
set_option linter.unusedSimpArgs false
theorem blw_nat {k : Int} {n : Nat} (h : blw k (n : Int) = true) : ∃ kk : Nat, k = (kk : Int) ∧ kk < n := by
  unfold blw at h
  simp at h
  exact ⟨k.toNat, by omega, by omega⟩
theorem GRd.sig {w : World} {a : Option Addr} {n : Nat} {gs : List (GH × Sg)} (d : GRd w a n gs) {kk : Nat} (hk : kk < n) : ∃ g : GH × Sg, gs[kk]? = some g ∧ SgRd w g.1 g.2 ∧ ∃ b off, a = some ⟨b, off, none⟩ ∧ w.cell? ⟨b, off + kk * 4 + 1, none⟩ = some (.slice g.1.pa g.1.pn g.1.pc) := by
  have hl : kk < gs.length := by rw [← d.n1]; exact hk
  have hg : gs[kk]? = some gs[kk] := List.getElem?_eq_getElem hl
  obtain ⟨b, off, e, _, hc⟩ := d.rd kk gs[kk].1.cs (by simp [hg])
  exact ⟨_, hg, d.el _ (List.getElem_mem hl), b, off, e, hc 1 (by omega)⟩
theorem parm_at {gs : List (GH × Sg)} {kk : Nat} {g : GH × Sg} (h : gs[kk]? = some g) (hb : blw (kk : Int) (gs.length : Int) = true) : parmB (gs.map (·.2)) (kk : Int) = ((g.2.params.length : Int), true) := by
  unfold parmB
  rw [List.length_map, hb, if_pos rfl, Int.toNat_natCast, List.getD_eq_getElem?_getD, List.getElem?_map, h]
  rfl
set_option maxRecDepth 100000 in
theorem params_any (w : World) (a : Option Addr) (n cap : Nat) (gs : List (GH × Sg)) (d : GRd w a n gs) (k : Int) : Calls Try.prog 73 #[.slice a n cap, .int .i64 k] w fun e w' => e = .returned (.tuple #[.int .i64 (parmB (gs.map (·.2)) k).1, .bool (parmB (gs.map (·.2)) k).2]) ∧ w' = w := by
  have hn := d.n2
  have K := hid (isBelow_any w k (n : Int))
  cases hb : blw k (n : Int) with
  | false =>
    rw [hb] at K
    have HP : Hid (parmB (gs.map (·.2)) k = (0, false)) := hid (by unfold parmB; rw [List.length_map, ← d.n1, hb]; rfl)
    clear hb d
    go_enter Try.func73, Try.ntmps73
    go_wp2_with (go_at_call 72; (refine (Hid.out K).mono ?_; rintro e w ⟨rfl, rfl⟩))
    go_ret2
    exact ⟨by rw [HP.out]; rfl, rfl⟩
  | true =>
    obtain ⟨kk, rfl, hk⟩ := blw_nat hb
    rw [hb] at K
    obtain ⟨g, hg, sg, b, off, rfl, c1⟩ := d.sig hk
    have HP := hid (parm_at hg (by rw [← d.n1]; exact hb))
    have hpn : Hid (g.1.pn = g.2.params.length) := hid sg.pn
    have hp2 := sg.p2
    have hkI : (kk : Int) < (n : Int) := by omega
    have hk0 : (0 : Int) ≤ (kk : Int) := by omega
    clear hb d hg sg
    obtain ⟨⟨nm, pa, pn, pc, kd, rr⟩, sgg⟩ := g
    simp only at c1 hpn hp2
    go_enter Try.func73, Try.ntmps73
    go_wp2_with (go_at_call 72; (refine (Hid.out K).mono ?_; rintro e w ⟨rfl, rfl⟩))
    go_ret2
    exact ⟨by rw [HP.out, hpn.out]; rfl, rfl⟩
theorem RRd.recd {w : World} {a : Option Addr} {n : Nat} {rs : List (RH × Rc)} (d : RRd w a n rs) {kk : Nat} (hk : kk < n) : ∃ g : RH × Rc, rs[kk]? = some g ∧ RcRd w g.1 g.2 ∧ ∃ b off, a = some ⟨b, off, none⟩ ∧ w.cell? ⟨b, off + kk * 3 + 1, none⟩ = some (.slice g.1.fa g.1.fn g.1.fc) := by
  have hl : kk < rs.length := by rw [← d.n1]; exact hk
  have hg : rs[kk]? = some rs[kk] := List.getElem?_eq_getElem hl
  obtain ⟨b, off, e, _, hc⟩ := d.rd kk rs[kk].1.cs (by simp [hg])
  exact ⟨_, hg, d.el _ (List.getElem_mem hl), b, off, e, hc 1 (by omega)⟩
set_option maxRecDepth 100000 in
set_option maxHeartbeats 1000000 in
theorem rowLen_any (w : World) (s : Shp) (h : PH) (p : Pg) (d : PRd w h p) (k : Int) : Calls Try.prog 25 #[.agg s.cs.toArray, h.v, .int .i64 k] w fun e w' => e = .returned (.tuple #[.int .i64 (rowLen s.k p k).1, .bool (rowLen s.k p k).2]) ∧ Below w.heap.size w w' := by
  obtain ⟨nm, sd, sa, sb, sk⟩ := s
  obtain ⟨ra, rn, rc, ma, mn, mc, fa, fn, fc, ea, en, ec⟩ := h
  have dm := d.m
  have df := d.f
  have de := d.e
  have dr := d.r
  simp only at dm df de dr
  simp only [PH.v, Shp.cs]
  obtain ⟨W0, hW0⟩ : ∃ W0, W0 = (w.alloc (.cells #[.string nm, .int .u8 sd, .int .u8 sa, .int .u8 sb, .int .u8 sk] 81)).alloc (.cells #[.slice ra rn rc, .slice ma mn mc, .slice fa fn fc, .slice ea en ec] 36) := ⟨_, rfl⟩
  have bw : Below w.heap.size w W0 := by rw [hW0]; exact ((Below.refl _ _).alloc (Nat.le_refl _) _).alloc (by simp) _
  have m0 : W0.heap[w.heap.size]? = some (.cells #[.string nm, .int .u8 sd, .int .u8 sa, .int .u8 sb, .int .u8 sk] 81 (0, 0)) := by rw [hW0]; exact (Below.heap_alloc _ _ _ (by simp)).trans (heap_alloc_new w _)
  have m1 : W0.heap[w.heap.size + 1]? = some (.cells #[.slice ra rn rc, .slice ma mn mc, .slice fa fn fc, .slice ea en ec] 36 (0, 0)) := by
    have := heap_alloc_new (w.alloc (.cells #[.string nm, .int .u8 sd, .int .u8 sa, .int .u8 sb, .int .u8 sk] 81)) (.cells #[.slice ra rn rc, .slice ma mn mc, .slice fa fn fc, .slice ea en ec] 36)
    rw [World.size_alloc] at this
    rw [hW0]; exact this
  have x0 := cellOf m0 4
  have y0 := cellOf m1 0
  have y1 := cellOf m1 1
  have y2 := cellOf m1 2
  have y3 := cellOf m1 3
  simp only [List.getElem?_toArray, List.getElem?_cons_zero, List.getElem?_cons_succ] at x0 y0 y1 y2 y3
  have dr0 := dr.below (Nat.le_refl _) bw
  have df0 := df.below (Nat.le_refl _) bw
  have de0 := de.below (Nat.le_refl _) bw
  have BW := hid bw
  have nr : rn ≤ 9223372036854775807 := dr.n2
  have nm' : mn ≤ 9223372036854775807 := dm.n2
  have er : Hid (rn = p.recs.length) := hid dr.n1
  have em : Hid (mn = p.maps.length) := hid dm.n1
  have ef : Hid (fn = p.funcs.length) := hid df.n1
  have ee : Hid (en = p.events.length) := hid de.n1
  clear d dm df de dr m0 m1 bw
  by_cases h9 : sk = 9
  · subst h9
    have K := hid (isBelow_any W0 k (rn : Int))
    cases hb : blw k (rn : Int) with
    | false =>
      rw [hb] at K
      have HP : Hid (rowLen 9 p k = (0, false)) := hid (by unfold rowLen; rw [if_pos rfl, ← er.out, hb]; rfl)
      clear hb dr0 df0 de0
      go_enter Try.func25, Try.ntmps25
      go_upto_region 1 with fail
      rw [← hW0]
      clear hW0
      go_wp2_with (go_at_call 72; (refine (Hid.out K).mono ?_; rintro e W0 ⟨rfl, rfl⟩))
      go_ret2
      exact ⟨by rw [HP.out]; rfl, BW.out⟩
    | true =>
      obtain ⟨kk, rfl, hk⟩ := blw_nat hb
      rw [hb] at K
      obtain ⟨g, hg, sg, b, off, rfl, c1⟩ := dr0.recd hk
      have HP : Hid (rowLen 9 p (kk : Int) = ((g.2.fields.length : Int), true)) := hid (by
        unfold rowLen
        rw [if_pos rfl, ← er.out, hb, if_pos rfl, Int.toNat_natCast, List.getD_eq_getElem?_getD, List.getElem?_map, hg]; rfl)
      have hfn : Hid (g.1.fn = g.2.fields.length) := hid sg.fn
      have hf2 := sg.f2
      have hkI : (kk : Int) < (rn : Int) := by omega
      have hk0 : (0 : Int) ≤ (kk : Int) := by omega
      clear hb dr0 df0 de0 hg sg
      obtain ⟨⟨gnm, gfa, gfn, gfc, gta, gtn, gtc⟩, gr⟩ := g
      simp only at c1 hfn hf2
      go_enter Try.func25, Try.ntmps25
      go_upto_region 1 with fail
      rw [← hW0]
      clear hW0
      go_wp2_with (go_at_call 72; (refine (Hid.out K).mono ?_; rintro e W0 ⟨rfl, rfl⟩))
      go_ret2
      exact ⟨by rw [HP.out, hfn.out]; rfl, BW.out⟩
  · by_cases h11 : sk = 11
    · subst h11
      have K := hid (isBelow_any W0 k (mn : Int))
      have HP : Hid (rowLen 11 p k = (0, blw k (mn : Int))) := hid (by unfold rowLen; rw [if_neg (by omega), if_pos rfl, ← em.out])
      clear dr0 df0 de0
      go_enter Try.func25, Try.ntmps25
      go_upto_region 1 with fail
      rw [← hW0]
      clear hW0
      go_wp2_with (go_at_call 72; (refine (Hid.out K).mono ?_; rintro e W0 ⟨rfl, rfl⟩))
      go_ret2
      exact ⟨by rw [HP.out]; rfl, BW.out⟩
    · by_cases h12 : sk = 12
      · subst h12
        have K := hid (params_any W0 fa fn fc p.funcs df0 k)
        have HP : Hid (rowLen 12 p k = parmB (p.funcs.map (·.2)) k) := hid (by unfold rowLen; rw [if_neg (by omega), if_neg (by omega), if_pos rfl])
        clear dr0 df0 de0
        generalize parmB (p.funcs.map (·.2)) k = pr at K HP
        obtain ⟨pr1, pr2⟩ := pr
        go_enter Try.func25, Try.ntmps25
        go_upto_region 1 with fail
        rw [← hW0]
        clear hW0
        go_wp2_with (go_at_call 73; (refine (Hid.out K).mono ?_; rintro e W0 ⟨rfl, rfl⟩))
        go_ret2
        exact ⟨by rw [HP.out]; rfl, BW.out⟩
      · by_cases h13 : sk = 13
        · subst h13
          have K := hid (params_any W0 ea en ec p.events de0 k)
          have HP : Hid (rowLen 13 p k = parmB (p.events.map (·.2)) k) := hid (by unfold rowLen; rw [if_neg (by omega), if_neg (by omega), if_neg (by omega), if_pos rfl])
          clear dr0 df0 de0
          generalize parmB (p.events.map (·.2)) k = pr at K HP
          obtain ⟨pr1, pr2⟩ := pr
          go_enter Try.func25, Try.ntmps25
          go_upto_region 1 with fail
          rw [← hW0]
          clear hW0
          go_wp2_with (go_at_call 73; (refine (Hid.out K).mono ?_; rintro e W0 ⟨rfl, rfl⟩))
          go_ret2
          exact ⟨by rw [HP.out]; rfl, BW.out⟩
        · have HP : Hid (rowLen sk p k = (0, true)) := hid (by unfold rowLen; rw [if_neg h9, if_neg h11, if_neg h12, if_neg h13])
          have b1 : (sk == 9) = false := by simp [h9]
          have b2 : (sk == 11) = false := by simp [h11]
          have b3 : (sk == 12) = false := by simp [h12]
          have b4 : (sk == 13) = false := by simp [h13]
          clear dr0 df0 de0
          go_enter Try.func25, Try.ntmps25
          go_upto_region 1 with fail
          rw [← hW0]
          clear hW0
          go_wp2
          go_ret2
          exact ⟨by rw [HP.out]; rfl, BW.out⟩
end Go.Proofs.Ytmhjnfibpngpmaa

namespace Go.Proofs.Ytmhjnfibpngpmaa
open Go.RowKit Go.Deep Go.Shelf
set_option linter.unusedVariables false
set_option linter.unusedSimpArgs false
theorem bel_dN {B : Nat} {a w : World} (h : Below B a w) (n : Nat) : Below B a (w.drewN n) := h.trans ⟨rfl, rfl, rfl, Nat.le_refl _, fun _ _ => rfl⟩
structure FH where
  regs : Int
  oa : Option Addr
  on : Nat
  oc : Nat
def FH.cs (h : FH) : List Value := [.int .i64 h.regs, .slice h.oa h.on h.oc]
def FH.v (h : FH) : Value := .agg #[.int .i64 h.regs, .slice h.oa h.on h.oc]
structure FnRd (w : World) (h : FH) (f : Fx) : Prop where
  rg : h.regs = f.regs
  on : h.on = f.ops.length
  o2 : h.on ≤ 9223372036854775807
  or : ORd w h.oa f.ops
theorem FnRd.below {w w' : World} {h : FH} {f : Fx} {B : Nat} (d : FnRd w h f) (hB : w.heap.size ≤ B) (k : Below B w w') : FnRd w' h f := ⟨d.rg, d.on, d.o2, d.or.below (k.mono hB)⟩
structure FRd (w : World) (a : Option Addr) (n : Nat) (fs : List (FH × Fx)) : Prop where
  n1 : n = fs.length
  n2 : n ≤ 9223372036854775807
  rd : CRd w a 2 (fs.map fun p => p.1.cs)
  el : ∀ p ∈ fs, FnRd w p.1 p.2
theorem FRd.below {w w' : World} {a : Option Addr} {n : Nat} {fs : List (FH × Fx)} {B : Nat} (d : FRd w a n fs) (hB : w.heap.size ≤ B) (k : Below B w w') : FRd w' a n fs := ⟨d.n1, d.n2, d.rd.below hB k, fun p hp => (d.el p hp).below hB k⟩
structure CH where
  h : PH
  ia : Option Addr
  inn : Nat
  ic : Nat
  ta : Option Addr
  tn : Nat
  tc : Nat
  fa : Option Addr
  fn : Nat
  fc : Nat
  ea : Option Addr
  en : Nat
  ec : Nat
def CH.cs (C : CH) : Array Value := #[.slice C.h.ra C.h.rn C.h.rc, .slice C.h.ma C.h.mn C.h.mc, .slice C.h.fa C.h.fn C.h.fc, .slice C.h.ea C.h.en C.h.ec, .slice C.ia C.inn C.ic, .slice C.ta C.tn C.tc, .slice C.fa C.fn C.fc, .slice C.ea C.en C.ec]
def CH.v (C : CH) : Value := .agg C.cs
structure CdRd (w : World) (C : CH) (c : Cx) (fs es : List (FH × Fx)) : Prop where
  p : PRd w C.h c.p
  i1 : C.inn = c.ints
  i2 : C.inn ≤ 9223372036854775807
  t1 : C.tn = c.texts.length
  t2 : C.tn ≤ 9223372036854775807
  tr : SRd w C.ta c.texts
  f : FRd w C.fa C.fn fs
  fe : fs.map (·.2) = c.funcs
  e : FRd w C.ea C.en es
  ee : es.map (·.2) = c.events
theorem CdRd.below {w w' : World} {C : CH} {c : Cx} {fs es : List (FH × Fx)} {B : Nat} (d : CdRd w C c fs es) (hB : w.heap.size ≤ B) (k : Below B w w') : CdRd w' C c fs es := ⟨d.p.below hB k, d.i1, d.i2, d.t1, d.t2, d.tr.below hB k, d.f.below hB k, d.fe, d.e.below hB k, d.ee⟩
/- How many there are. -/
structure Lns (C : CH) (c : Cx) : Prop where
  i1 : C.inn = c.ints
  i2 : C.inn ≤ 9223372036854775807
  t1 : C.tn = c.texts.length
  t2 : C.tn ≤ 9223372036854775807
  r1 : C.h.rn = c.p.recs.length
  r2 : C.h.rn ≤ 9223372036854775807
  m1 : C.h.mn = c.p.maps.length
  m2 : C.h.mn ≤ 9223372036854775807
  f1 : C.h.fn = c.p.funcs.length
  f2 : C.h.fn ≤ 9223372036854775807
  e1 : C.h.en = c.p.events.length
  e2 : C.h.en ≤ 9223372036854775807
theorem CdRd.lns {w : World} {C : CH} {c : Cx} {fs es : List (FH × Fx)} (d : CdRd w C c fs es) : Lns C c := ⟨d.i1, d.i2, d.t1, d.t2, d.p.r.n1, d.p.r.n2, d.p.m.n1, d.p.m.n2, d.p.f.n1, d.p.f.n2, d.p.e.n1, d.p.e.n2⟩
set_option maxRecDepth 100000 in
set_option maxHeartbeats 2000000 in
theorem bounds_any (w : World) (C : CH) (c : Cx) (L : Lns C c) (F : FH) (h0 : 0 ≤ F.regs) (h64 : F.regs ≤ 64) (ho : F.on ≤ 9223372036854775807) (r len : Int) (l0 : 0 ≤ len) (l1 : len ≤ 9223372036854775807) :
    Calls Try.prog 149 #[C.v, F.v, .int .u8 r, .int .i64 len] w fun e w' => e = .returned (.tuple #[.int .i64 (bnd c F.regs F.on r len).1, .int .i64 (bnd c F.regs F.on r len).2]) ∧ Below w.heap.size w w' := by
  obtain ⟨i1, i2, t1, t2, r1, r2, m1, m2, f1, f2, e1, e2⟩ := L
  obtain ⟨⟨ra, rn, rc, ma, mn, mc, fa, fn, fc, ea, en, ec⟩, ia, inn, ic, ta, tn, tc, ga, gn, gc, ha, hn, hc⟩ := C
  obtain ⟨regs, oa, on, oc⟩ := F
  simp only at i1 i2 t1 t2 r1 r2 m1 m2 f1 f2 e1 e2 h0 h64 ho
  simp only [CH.v, CH.cs, FH.v]
  obtain ⟨W0, hW0⟩ : ∃ W0, W0 = (w.alloc (.cells #[.slice ra rn rc, .slice ma mn mc, .slice fa fn fc, .slice ea en ec, .slice ia inn ic, .slice ta tn tc, .slice ga gn gc, .slice ha hn hc] 52)).alloc (.cells #[.int .i64 regs, .slice oa on oc] 73) := ⟨_, rfl⟩
  have bw : Below w.heap.size w W0 := by rw [hW0]; exact ((Below.refl _ _).alloc (Nat.le_refl _) _).alloc (by simp) _
  have m0 : W0.heap[w.heap.size]? = some (.cells #[.slice ra rn rc, .slice ma mn mc, .slice fa fn fc, .slice ea en ec, .slice ia inn ic, .slice ta tn tc, .slice ga gn gc, .slice ha hn hc] 52 (0, 0)) := by rw [hW0]; exact (Below.heap_alloc _ _ _ (by simp)).trans (heap_alloc_new w _)
  have m5 : W0.heap[w.heap.size + 1]? = some (.cells #[.int .i64 regs, .slice oa on oc] 73 (0, 0)) := by
    have := heap_alloc_new (w.alloc (.cells #[.slice ra rn rc, .slice ma mn mc, .slice fa fn fc, .slice ea en ec, .slice ia inn ic, .slice ta tn tc, .slice ga gn gc, .slice ha hn hc] 52)) (.cells #[.int .i64 regs, .slice oa on oc] 73)
    rw [World.size_alloc] at this
    rw [hW0]; exact this
  have x0 := cellOf m0 0
  have x1 := cellOf m0 1
  have x2 := cellOf m0 2
  have x3 := cellOf m0 3
  have x4 := cellOf m0 4
  have x5 := cellOf m0 5
  have y0 := cellOf m5 0
  have y1 := cellOf m5 1
  simp only [List.getElem?_toArray, List.getElem?_cons_zero, List.getElem?_cons_succ] at x0 x1 x2 x3 x4 x5 y0 y1
  have BW := hid bw
  have I1 := hid i1
  have T1 := hid t1
  have R1 := hid r1
  have M1 := hid m1
  have F1 := hid f1
  have E1 := hid e1
  clear m0 m5 bw i1 t1 r1 m1 f1 e1
  have wr1 : ∀ x : Int, 0 ≤ x → x ≤ 9223372036854775807 → IntKind.i64.wrap (x - 1) = x - 1 := fun x a b => by rw [IntKind.wrap_i64]; omega
  by_cases h1 : r = 1
  · subst h1
    have HP : Hid (bnd c regs on 1 len = (0, regs - 1)) := hid (by unfold bnd; simp)
    have w1 := wr1 regs h0 (by omega)
    clear wr1
    go_enter Try.func149, Try.ntmps149
    go_upto_region 1 with fail
    rw [← hW0]
    clear hW0
    go_wp2
    go_quiet (fail)
    go_wp2
    go_ret2
    exact ⟨by rw [HP.out]; rfl, bel_dN BW.out _⟩
  have g1 : (r == 1) = false := by simp [h1]
  by_cases h3 : r = 3
  · subst h3
    have HP : Hid (bnd c regs on 3 len = (0, regs - 1)) := hid (by unfold bnd; simp)
    have w1 := wr1 regs h0 (by omega)
    clear wr1
    go_enter Try.func149, Try.ntmps149
    go_upto_region 1 with fail
    rw [← hW0]
    clear hW0
    go_wp2
    go_quiet (fail)
    go_wp2
    go_ret2
    exact ⟨by rw [HP.out]; rfl, bel_dN BW.out _⟩
  have g3 : (r == 3) = false := by simp [h3]
  by_cases h2 : r = 2
  · subst h2
    have HP : Hid (bnd c regs on 2 len = (-1, regs - 1)) := hid (by unfold bnd; simp)
    have w1 := wr1 regs h0 (by omega)
    clear wr1
    go_enter Try.func149, Try.ntmps149
    go_upto_region 1 with fail
    rw [← hW0]
    clear hW0
    go_wp2
    go_quiet (fail)
    go_wp2
    go_ret2
    exact ⟨by rw [HP.out]; rfl, bel_dN BW.out _⟩
  have g2 : (r == 2) = false := by simp [h2]
  by_cases h4 : r = 4
  · subst h4
    have HP : Hid (bnd c regs on 4 len = (-1, regs - 1)) := hid (by unfold bnd; simp)
    have w1 := wr1 regs h0 (by omega)
    clear wr1
    go_enter Try.func149, Try.ntmps149
    go_upto_region 1 with fail
    rw [← hW0]
    clear hW0
    go_wp2
    go_quiet (fail)
    go_wp2
    go_ret2
    exact ⟨by rw [HP.out]; rfl, bel_dN BW.out _⟩
  have g4 : (r == 4) = false := by simp [h4]
  by_cases h5 : r = 5
  · subst h5
    have HP : Hid (bnd c regs on 5 len = (0, regs - len)) := hid (by unfold bnd; simp)
    have w1 : IntKind.i64.wrap (regs - len) = regs - len := by rw [IntKind.wrap_i64]; omega
    clear wr1
    go_enter Try.func149, Try.ntmps149
    go_upto_region 1 with fail
    rw [← hW0]
    clear hW0
    go_wp2
    go_quiet (fail)
    go_wp2
    go_ret2
    exact ⟨by rw [HP.out]; rfl, bel_dN BW.out _⟩
  have g5 : (r == 5) = false := by simp [h5]
  by_cases h6 : r = 6
  · subst h6
    have HP : Hid (bnd c regs on 6 len = (0, (inn : Int) - 1)) := hid (by unfold bnd; simp [I1.out])
    have w1 := wr1 (inn : Int) (by omega) (by omega)
    clear wr1
    go_enter Try.func149, Try.ntmps149
    go_upto_region 1 with fail
    rw [← hW0]
    clear hW0
    go_wp2
    go_quiet (fail)
    go_wp2
    go_ret2
    exact ⟨by rw [HP.out]; rfl, bel_dN BW.out _⟩
  have g6 : (r == 6) = false := by simp [h6]
  by_cases h7 : r = 7
  · subst h7
    have HP : Hid (bnd c regs on 7 len = (0, (tn : Int) - 1)) := hid (by unfold bnd; simp [T1.out])
    have w1 := wr1 (tn : Int) (by omega) (by omega)
    clear wr1
    go_enter Try.func149, Try.ntmps149
    go_upto_region 1 with fail
    rw [← hW0]
    clear hW0
    go_wp2
    go_quiet (fail)
    go_wp2
    go_ret2
    exact ⟨by rw [HP.out]; rfl, bel_dN BW.out _⟩
  have g7 : (r == 7) = false := by simp [h7]
  by_cases h8 : r = 8
  · subst h8
    have HP : Hid (bnd c regs on 8 len = (0, 1)) := hid (by unfold bnd; simp)
    clear wr1
    go_enter Try.func149, Try.ntmps149
    go_upto_region 1 with fail
    rw [← hW0]
    clear hW0
    go_wp2
    go_ret2
    exact ⟨by rw [HP.out]; rfl, BW.out⟩
  have g8 : (r == 8) = false := by simp [h8]
  by_cases h9 : r = 9
  · subst h9
    have HP : Hid (bnd c regs on 9 len = (0, (rn : Int) - 1)) := hid (by unfold bnd; simp [R1.out])
    have w1 := wr1 (rn : Int) (by omega) (by omega)
    clear wr1
    go_enter Try.func149, Try.ntmps149
    go_upto_region 1 with fail
    rw [← hW0]
    clear hW0
    go_wp2
    go_quiet (fail)
    go_wp2
    go_ret2
    exact ⟨by rw [HP.out]; rfl, bel_dN BW.out _⟩
  have g9 : (r == 9) = false := by simp [h9]
  by_cases h10 : r = 10
  · subst h10
    have HP : Hid (bnd c regs on 10 len = (0, 11)) := hid (by unfold bnd; simp)
    clear wr1
    go_enter Try.func149, Try.ntmps149
    go_upto_region 1 with fail
    rw [← hW0]
    clear hW0
    go_wp2
    go_ret2
    exact ⟨by rw [HP.out]; rfl, BW.out⟩
  have g10 : (r == 10) = false := by simp [h10]
  by_cases h11 : r = 11
  · subst h11
    have HP : Hid (bnd c regs on 11 len = (0, (mn : Int) - 1)) := hid (by unfold bnd; simp [M1.out])
    have w1 := wr1 (mn : Int) (by omega) (by omega)
    clear wr1
    go_enter Try.func149, Try.ntmps149
    go_upto_region 1 with fail
    rw [← hW0]
    clear hW0
    go_wp2
    go_quiet (fail)
    go_wp2
    go_ret2
    exact ⟨by rw [HP.out]; rfl, bel_dN BW.out _⟩
  have g11 : (r == 11) = false := by simp [h11]
  by_cases h12 : r = 12
  · subst h12
    have HP : Hid (bnd c regs on 12 len = (0, (fn : Int) - 1)) := hid (by unfold bnd; simp [F1.out])
    have w1 := wr1 (fn : Int) (by omega) (by omega)
    clear wr1
    go_enter Try.func149, Try.ntmps149
    go_upto_region 1 with fail
    rw [← hW0]
    clear hW0
    go_wp2
    go_quiet (fail)
    go_wp2
    go_ret2
    exact ⟨by rw [HP.out]; rfl, bel_dN BW.out _⟩
  have g12 : (r == 12) = false := by simp [h12]
  by_cases h13 : r = 13
  · subst h13
    have HP : Hid (bnd c regs on 13 len = (0, (en : Int) - 1)) := hid (by unfold bnd; simp [E1.out])
    have w1 := wr1 (en : Int) (by omega) (by omega)
    clear wr1
    go_enter Try.func149, Try.ntmps149
    go_upto_region 1 with fail
    rw [← hW0]
    clear hW0
    go_wp2
    go_quiet (fail)
    go_wp2
    go_ret2
    exact ⟨by rw [HP.out]; rfl, bel_dN BW.out _⟩
  have g13 : (r == 13) = false := by simp [h13]
  by_cases h14 : r = 14
  · subst h14
    have HP : Hid (bnd c regs on 14 len = (0, (on : Int) - 1)) := hid (by unfold bnd; simp)
    have w1 := wr1 (on : Int) (by omega) (by omega)
    clear wr1
    go_enter Try.func149, Try.ntmps149
    go_upto_region 1 with fail
    rw [← hW0]
    clear hW0
    go_wp2
    go_quiet (fail)
    go_wp2
    go_ret2
    exact ⟨by rw [HP.out]; rfl, bel_dN BW.out _⟩
  have g14 : (r == 14) = false := by simp [h14]
  have HP : Hid (bnd c regs on r len = (0, 0)) := hid (by unfold bnd; simp [h1, h2, h3, h4, h5, h6, h7, h8, h9, h10, h11, h12, h13, h14])
  clear wr1
  go_enter Try.func149, Try.ntmps149
  go_upto_region 1 with fail
  rw [← hW0]
  clear hW0
  go_wp2
  go_ret2
  exact ⟨by rw [HP.out]; rfl, BW.out⟩
end Go.Proofs.Ytmhjnfibpngpmaa

