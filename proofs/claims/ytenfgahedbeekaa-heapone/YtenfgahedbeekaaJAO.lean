/- HeapOne: maps of numbers at the depth that Snapshot wants; the one program; its states. -/
import Derived.Test.YtenfgahedbeekaaJAN
namespace Go.Proofs.Ytenfgahedbeekaa
open Go.RowKit Go.Deep Go.Shelf
set_option linter.unusedVariables false
set_option linter.unusedSimpArgs false

def numC3 (n : Int) : CT 3 := ((⟨1, n, ⟨#[]⟩, 0⟩ : C4), [])
theorem num_rd3 (w : World) (n : Int) (h0 : -9223372036854775808 ≤ n) (h1 : n ≤ 9223372036854775807) : RdC 3 w (numH n) (numC3 n) :=
  ⟨((numH n, []) : VT 3), rfl, ⟨⟨h0, h1, by show (-9223372036854775808 : Int) ≤ 1; omega, by show (1 : Int) ≤ 9223372036854775807; omega, by show (-9223372036854775808 : Int) ≤ 0; omega, by show (0 : Int) ≤ 9223372036854775807; omega, by show (⟨#[]⟩ : ByteArray).size ≤ _; decide, by show (0 : Nat) ≤ _; omega⟩, rfl, by show (0 : Nat) ≤ 1000; omega, fun j x hx => by simp at hx, fun u hu => by cases hu⟩, rfl⟩
theorem cmp_num3 (a b : Int) : cmpC 3 (numC3 a) (numC3 b) = ci a b := by
  show (if cC ⟨1, a, ⟨#[]⟩, 0⟩ ⟨1, b, ⟨#[]⟩, 0⟩ = 0 then cmpL (cmpC 2) [] [] else cC ⟨1, a, ⟨#[]⟩, 0⟩ ⟨1, b, ⟨#[]⟩, 0⟩) = ci a b
  have h1 : ci (1 : Int) 1 = 0 := ci_self 1
  have h2 : cS (⟨#[]⟩ : ByteArray) ⟨#[]⟩ = 0 := ord_cS.self _
  have h3 : ci (0 : Int) 0 = 0 := ci_self 0
  have e : cC ⟨1, a, ⟨#[]⟩, 0⟩ ⟨1, b, ⟨#[]⟩, 0⟩ = ci a b := by
    unfold cC
    simp only [orL, h1, h2, h3, if_true]
    by_cases h : ci a b = 0
    · rw [if_pos h, h]
    · rw [if_neg h]
  rw [e]
  by_cases h : ci a b = 0
  · rw [if_pos h, h]; rfl
  · rw [if_neg h]
def numP3 (p : Int × Int) : CT 3 × CT 3 := (numC3 p.1, numC3 p.2)
def rowN3 (L : NL) : RC 3 := L.map numP3
theorem rowOf_n3 {SS : List NL} {i : Nat} {L : NL} (hi : SS[i]? = some L) : rowOf (SS.map rowN3) (i : Int) = rowN3 L := by
  unfold rowOf
  rw [if_pos (by omega), Int.toNat_natCast, List.getElem?_map, hi]; rfl
theorem cA_n3 (a : Int) : (fun q : CT 3 × CT 3 => cmpC 3 q.1 (numC3 a)) ∘ numP3 = cA a := by
  funext p
  exact cmp_num3 p.1 a
theorem place_n3 (a : Int) (L : NL) : placeR (fun q => cmpC 3 q.1 (numC3 a)) (rowN3 L) = placeR (cA a) L := by
  unfold rowN3
  rw [← placeR_map (fun q : CT 3 × CT 3 => cmpC 3 q.1 (numC3 a)) numP3 L]
  congr 1
  exact cA_n3 a
theorem put_n_row3 (a b : Int) (L : NL) : putR (fun q => cmpC 3 q.1 (numC3 a)) (numC3 a, numC3 b) (rowN3 L) = rowN3 (putR (cA a) (a, b) L) := by
  unfold rowN3
  rw [show (numC3 a, numC3 b) = numP3 (a, b) from rfl, ← putR_map (fun q : CT 3 × CT 3 => cmpC 3 q.1 (numC3 a)) numP3 (a, b) L]
  congr 2
  exact cA_n3 a
theorem put_n3 (w : World) (sa : Option Addr) (sn sc : Nat) (SS : List NL) (hd : StCR 3 w sa sn (SS.map rowN3)) (i : Nat) (L : NL) (hi : SS[i]? = some L) (a b : Int) (ha : In64 a) (hb : In64 b) (hok : (placeR (cA a) L).2 = true ∨ L.length < 24) :
    Calls Try.prog 12 #[.agg #[.slice sa sn sc], .int .i64 (i : Int), (numH a).v, (numH b).v] w (PutTold 3 w ((SS.set i (putR (cA a) (a, b) L)).map rowN3)) := by
  have hl : i < sn := by
    have := hd.len.1
    rw [List.length_map] at this
    have := (List.getElem?_eq_some_iff.1 hi).1
    omega
  have h := put_c_ok 3 w sa sn sc _ hd (i : Int) (numH a) (numH b) (numC3 a) (numC3 b) (num_rd3 w a ha.1 ha.2) (num_rd3 w b hb.1 hb.2) (hasB_n hl) (by
    rw [rowOf_n3 hi, place_n3]
    rcases hok with h | h
    · exact .inl h
    · exact .inr (by unfold rowN3; rw [List.length_map]; exact h))
  rw [rowOf_n3 hi, put_n_row3, Int.toNat_natCast, ← List.map_set] at h
  exact h
theorem del_n3 (w : World) (sa : Option Addr) (sn sc : Nat) (SS : List NL) (hd : StCR 3 w sa sn (SS.map rowN3)) (i : Nat) (L : NL) (hi : SS[i]? = some L) (a : Int) (ha : In64 a) :
    Calls Try.prog 15 #[.agg #[.slice sa sn sc], .int .i64 (i : Int), (numH a).v] w (StTold 3 w ((SS.set i (L.filter fun p => !(p.1 == a))).map rowN3)) := by
  have h := del_c 3 w sa sn sc _ hd (i : Int) (numH a) (numC3 a) (num_rd3 w a ha.1 ha.2)
  rw [if_pos (by omega), rowOf_n3 hi, Int.toNat_natCast] at h
  have e : ((rowN3 L).filter fun q => !(cmpC 3 q.1 (numC3 a) == 0)) = rowN3 (L.filter fun p => !(p.1 == a)) := by
    unfold rowN3
    rw [List.filter_map]
    congr 1
    apply List.filter_congr
    intro p _
    show (!(cmpC 3 (numC3 p.1) (numC3 a) == 0)) = !(p.1 == a)
    rw [cmp_num3, ci_zero_iff]
  rw [e, ← List.map_set] at h
  exact h
/- The one program. -/
def pOne : Pg := ⟨[], [⟨⟨#[109]⟩, (1, 0), (1, 0)⟩], [], []⟩
theorem right_one : rightB pOne = true := by kernel_rfl
theorem StCR.stR {w : World} {sa : Option Addr} {sn : Nat} {S : List (RC 3)} (h : StCR 3 w sa sn S) : ∃ ms, StR 3 w sa sn ms ∧ ctS (ms.map (·.2)) = S := by
  obtain ⟨ms, h1, h2⟩ := h
  exact ⟨ms, h1, by unfold ctS; rw [List.map_map]; exact h2⟩
def rowT3 (L : NL) : Rw 3 := L.map fun p => (toT 3 (numC3 p.1), toT 3 (numC3 p.2))
theorem wf_num (n : Int) : WF (toT 3 (numC3 n)) := ⟨rfl, fun u hu => by cases hu⟩
theorem wfs_one (L : NL) : WFs [rowT3 L] := fun r hr q hq => by
  simp only [List.mem_singleton] at hr
  subst hr
  unfold rowT3 at hq
  obtain ⟨p, _, rfl⟩ := List.mem_map.1 hq
  exact ⟨wf_num _, wf_num _⟩
theorem ct_one (L : NL) : ctS [rowT3 L] = [rowN3 L] := by
  unfold ctS rowC rowT3 rowN3
  simp only [List.map_cons, List.map_nil, List.map_map]
  congr 1
theorem isV_num (n : Int) : isV 1 pOne (1, 0) (toT 3 (numC3 n)) = true := by
  show isB pOne (1, 0) ⟨1, n, ⟨#[]⟩, 0, none, 0, 0⟩ [] = true
  unfold isB plainB simpleB
  simp [pOne, Pg.rn, typB]
  decide
theorem stV_one (L : NL) (h : Ris L) (hl : L.length ≤ 24) : stV 1 pOne [rowT3 L] = true := by
  unfold stV
  rw [right_one]
  simp only [pOne, List.length_cons, List.length_nil, decide_true, Bool.true_and, Nat.zero_add]
  have : List.range 1 = [0] := rfl
  rw [this]
  simp only [List.all_cons, List.all_nil, Bool.and_true]
  show mapV 1 pOne ⟨⟨#[109]⟩, (1, 0), (1, 0)⟩ (rowT3 L) = true
  refine mapV_yes (by unfold rowT3; rw [List.length_map]; exact hl) (fun i hi => ?_)
  unfold rowT3 at hi ⊢
  rw [List.length_map] at hi
  unfold entV
  rw [List.getElem?_map, List.getElem?_eq_getElem hi]
  simp only [Option.map_some, isV_num, Bool.true_and]
  by_cases h0 : i = 0
  · simp [h0]
  · have hi1 : i - 1 < L.length := by omega
    rw [List.getElem?_map, List.getElem?_eq_getElem hi1]
    simp only [Option.map_some, Option.getD_some, Bool.or_eq_true, decide_eq_true_eq]
    right
    have hlt := List.pairwise_iff_getElem.1 h (i - 1) i hi1 hi (by omega)
    have e : cmpT 3 (toT 3 (numC3 L[i - 1].1)) (toT 3 (numC3 L[i].1)) = cmpC 3 (numC3 L[i - 1].1) (numC3 L[i].1) := by
      rw [← cmpC_of 3, of_toT, of_toT]
    rw [e, cmp_num3]
    unfold ci
    rw [if_pos hlt]
    omega
end Go.Proofs.Ytenfgahedbeekaa

namespace Go.Proofs.Ytenfgahedbeekaa
open Go.RowKit Go.Deep Go.Shelf
set_option linter.unusedVariables false
set_option linter.unusedSimpArgs false

theorem prd_one {w : World} {g : Nat} (h : w.heap[g]? = some (.cells #[.string ⟨#[109]⟩, .int .i64 1, .int .i64 0, .int .i64 1, .int .i64 0] 75 (0, 0))) : PRd w ⟨none, 0, 0, some ⟨g, 0, none⟩, 1, 1, none, 0, 0, none, 0, 0⟩ pOne := by
  have hlt := (Array.getElem?_eq_some_iff.1 h).1
  refine ⟨⟨rfl, by show (0 : Nat) ≤ _; omega, (fun j r e => by simp [pOne] at e), (fun q hq => by cases hq)⟩, ⟨rfl, by show (1 : Nat) ≤ _; omega, ?_, ?_⟩, ⟨rfl, by show (0 : Nat) ≤ _; omega, (fun j r e => by simp [pOne] at e), (fun q hq => by cases hq)⟩, ⟨rfl, by show (0 : Nat) ≤ _; omega, (fun j r e => by simp [pOne] at e), (fun q hq => by cases hq)⟩⟩
  · intro j r e
    simp only [pOne, List.map_cons, List.map_nil] at e
    cases j with
    | zero =>
      simp only [List.getElem?_cons_zero, Option.some.injEq] at e
      subst e
      refine ⟨g, 0, rfl, hlt, fun i hi => ?_⟩
      rw [cellOf h]
      simp [Mp.cs]
    | succ j => simp at e
  · intro m hm
    simp only [pOne, List.mem_singleton] at hm
    subst hm
    show (⟨#[109]⟩ : ByteArray).size ≤ _
    decide
/- Two boxes, at BA and BB, each with a state of one map; the blocks of the states are neither. -/
structure OnI (w wr : World) (BA BB : Nat) (La Lb : NL) : Prop where
  bel : Below w.heap.size w wr
  ha : w.heap.size ≤ BA ∧ BA < wr.heap.size
  hb : w.heap.size ≤ BB ∧ BB < wr.heap.size
  ne : BA ≠ BB
  a : ∃ aa ac, wr.heap[BA]? = some (.cells #[.slice aa 1 ac] 27 (0, 0)) ∧ StCP 3 wr (fun b => (b ≠ BA ∧ b ≠ BB) ∧ b < wr.heap.size) aa 1 (([La] : List NL).map rowN3)
  b : ∃ ba bc, wr.heap[BB]? = some (.cells #[.slice ba 1 bc] 27 (0, 0)) ∧ StCP 3 wr (fun b => (b ≠ BA ∧ b ≠ BB) ∧ b < wr.heap.size) ba 1 (([Lb] : List NL).map rowN3)
theorem OnI.below {w wr w' : World} {BA BB : Nat} {La Lb : NL} (h : OnI w wr BA BB La Lb) (hb : Below wr.heap.size wr w') : OnI w w' BA BB La Lb := by
  have hs := hb.size
  obtain ⟨aa, ac, a1, a2⟩ := h.a
  obtain ⟨ba, bc, b1, b2⟩ := h.b
  exact ⟨h.bel.trans (hb.mono h.bel.size), ⟨h.ha.1, by have := h.ha.2; omega⟩, ⟨h.hb.1, by have := h.hb.2; omega⟩, h.ne,
    ⟨aa, ac, (hb.block _ h.ha.2).trans a1, (a2.keep (fun b hA => hb.block b hA.2)).imp (fun b hA => ⟨hA.1, by omega⟩)⟩,
    ⟨ba, bc, (hb.block _ h.hb.2).trans b1, (b2.keep (fun b hA => hb.block b hA.2)).imp (fun b hA => ⟨hA.1, by omega⟩)⟩⟩
theorem OnI.swap {w wr : World} {BA BB : Nat} {La Lb : NL} (h : OnI w wr BA BB La Lb) : OnI w wr BB BA Lb La := by
  obtain ⟨aa, ac, a1, a2⟩ := h.a
  obtain ⟨ba, bc, b1, b2⟩ := h.b
  exact ⟨h.bel, h.hb, h.ha, fun e => h.ne e.symm, ⟨ba, bc, b1, b2.imp (fun b hA => ⟨⟨hA.1.2, hA.1.1⟩, hA.2⟩)⟩, ⟨aa, ac, a1, a2.imp (fun b hA => ⟨⟨hA.1.2, hA.1.1⟩, hA.2⟩)⟩⟩
/- A new state is stored into the first box. -/
theorem OnI.put {w wr w' : World} {BA BB B : Nat} {La Lb L' : NL} {fa : Option Addr} {fc : Nat} (h : OnI w wr BA BB La Lb) (hb : Below wr.heap.size wr w') (hB : wr.heap.size ≤ B) (hs : StCP 3 w' (fun b => B ≤ b ∧ b < w'.heap.size) fa 1 (([L'] : List NL).map rowN3)) :
    OnI w (w'.setCell ⟨BA, 0, none⟩ (.slice fa 1 fc)) BA BB L' Lb := by
  have hsz : (w'.setCell ⟨BA, 0, none⟩ (.slice fa 1 fc)).heap.size = w'.heap.size := by simp [World.setCell]
  have h' := h.below hb
  have st : ∀ b, b ≠ BA → (w'.setCell ⟨BA, 0, none⟩ (.slice fa 1 fc)).heap[b]? = w'.heap[b]? := fun b hb => Below.heap_setCell _ _ _ _ hb
  obtain ⟨aa, ac, a1, a2⟩ := h'.a
  obtain ⟨ba, bc, b1, b2⟩ := h'.b
  have hA := h.ha.2
  have hBb := h.hb.2
  refine ⟨h'.bel.setCell (p := ⟨BA, 0, none⟩) h.ha.1 _, ⟨h.ha.1, by rw [hsz]; exact h'.ha.2⟩, ⟨h.hb.1, by rw [hsz]; exact h'.hb.2⟩, h.ne, ⟨fa, fc, set_cells a1 _, ?_⟩, ⟨ba, bc, (st _ (fun e => h.ne e.symm)).trans b1, ?_⟩⟩
  · exact (hs.keep (fun b hA => st b (by omega))).imp (fun b hA => ⟨⟨by omega, by omega⟩, by rw [hsz]; exact hA.2⟩)
  · exact (b2.keep (fun b hA => st b hA.1.1)).imp (fun b hA => ⟨hA.1, by rw [hsz]; exact hA.2⟩)
/- The calls, on a state of one map. -/
theorem put_1 (W : World) (sa : Option Addr) (sc : Nat) (L : NL) (x y : Int) (hx : In64 x) (hy : In64 y) (hs : StCR 3 W sa 1 (([L] : List NL).map rowN3)) (hok : (placeR (cA x) L).2 = true ∨ L.length < 24) :
    Calls Try.prog 12 #[.agg #[.slice sa 1 sc], .int .i64 0, (numH x).v, (numH y).v] W (PutTold 3 W (([insI x y L] : List NL).map rowN3)) := by
  have h := put_n3 W sa 1 sc [L] hs 0 L rfl x y hx hy hok
  rw [putR_ins] at h
  exact h
theorem del_1 (W : World) (sa : Option Addr) (sc : Nat) (L : NL) (x : Int) (hx : In64 x) (hs : StCR 3 W sa 1 (([L] : List NL).map rowN3)) :
    Calls Try.prog 15 #[.agg #[.slice sa 1 sc], .int .i64 0, (numH x).v] W (StTold 3 W (([L.filter fun p => !(p.1 == x)] : List NL).map rowN3)) :=
  del_n3 W sa 1 sc [L] hs 0 L rfl x hx
theorem told_len {k : Nat} {w : World} {A : Nat → Prop} {fa : Option Addr} {fn : Nat} {S : List (RC k)} (h : StCP k w A fa fn S) : fn = S.length := h.cr.len.1
/- Snapshot of a state of one map: its bytes hang on the list alone. -/
theorem snap_1 (W : World) (g : PH) (d : PRd W g pOne) (sa : Option Addr) (sc : Nat) (L : NL) (hs : StCR 3 W sa 1 (([L] : List NL).map rowN3)) (hr : Ris L) (hl : L.length ≤ 24) :
    Calls Try.prog 31 #[g.v, .agg #[.slice sa 1 sc]] W fun e w' => Below W.heap.size W w' ∧ ∃ v', e = .returned (.tuple #[v', .int .i64 0]) ∧ Row w' W.heap.size v' (encSt 1 [rowT3 L]) := by
  obtain ⟨ms, h1, h2⟩ := hs.stR
  have hct : ctS (ms.map (·.2)) = ctS [rowT3 L] := by rw [h2, ct_one]; rfl
  have hwf := h1.wf
  have h := heapSnap_any 1 W g pOne d sa 1 sc ms h1
  unfold SnP at h
  rw [stV_ct hwf (wfs_one L) hct, stV_one L hr hl, enc_ct hwf (wfs_one L) hct] at h
  exact h
theorem same_1 (W : World) (sa ta : Option Addr) (sc tc : Nat) (L : NL) (hs : StCR 3 W sa 1 (([L] : List NL).map rowN3)) (ht : StCR 3 W ta 1 (([L] : List NL).map rowN3)) :
    Calls Try.prog 24 #[.agg #[.slice sa 1 sc], .agg #[.slice ta 1 tc]] W fun e w' => e = .returned (.bool true) ∧ Below W.heap.size W w' := by
  have h := same_c 3 W sa 1 sc _ ta 1 tc _ hs ht
  exact h.mono (fun e w' ⟨⟨r, he, hr⟩, hb⟩ => ⟨by rw [he, hr.2 rfl], hb⟩)
end Go.Proofs.Ytenfgahedbeekaa

namespace Go.Proofs.Ytenfgahedbeekaa
open Go.RowKit Go.Deep Go.Shelf
def KI16 (w : World) (a : Option Addr) (xs : List Int) : Prop := ∀ (j : Nat) (x : Int), xs[j]? = some x → (-32768 ≤ x ∧ x ≤ 32767) ∧ ∃ b off, a = some ⟨b, off, none⟩ ∧ w.cell? ⟨b, off + j, none⟩ = some (.int .i16 x)
theorem KI16.below {w w' : World} {a : Option Addr} {xs : List Int} (h : KI16 w a xs) (hb : Below w.heap.size w w') : KI16 w' a xs := fun j x hx => by
  obtain ⟨h1, b, off, e, hc⟩ := h j x hx
  exact ⟨h1, b, off, e, (hb.cell (p := ⟨b, off + j, none⟩) (World.block_lt_of_cell? w _ hc)).trans hc⟩
end Go.Proofs.Ytenfgahedbeekaa

