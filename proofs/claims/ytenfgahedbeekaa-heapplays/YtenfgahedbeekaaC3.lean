/- HeapPlays: what stands between two rounds; the calls on it. -/
import Derived.Test.YtenfgahedbeekaaA3
import Derived.Test.YtenfgahedbeekaaZ2
import Derived.Test.YtenfgahedbeekaaY2
import Derived.Test.YtenfgahedbeekaaX3
import Derived.Test.YtenfgahedbeekaaR3
import Derived.Test.YtenfgahedbeekaaW2
import Derived.Test.YtenfgahedbeekaaE2
namespace Go.Proofs.Ytenfgahedbeekaa
open Go.RowKit Go.Deep Go.Shelf
set_option linter.unusedVariables false
set_option linter.unusedSimpArgs false

theorem refStSame_c (k : Nat) (w : World) (a : Option Addr) (n cap : Nat) (b : Option Addr) (m cap2 : Nat) (S : List (RC k)) (hp : StCR k w a n S) (hq : StCR k w b m S) :
    Calls Try.prog 14 #[.agg #[.slice a n cap], .agg #[.slice b m cap2]] w fun e w' => e = .returned (.bool true) ∧ Below w.heap.size w w' := by
  obtain ⟨ms, h1, h2⟩ := hp
  obtain ⟨ns, g1, g2⟩ := hq
  exact refStSame_yes k w a n cap ms b m cap2 ns h1 g1 ((stB_iff k ms ns).2 (by rw [h2, g2]))
theorem same_c2 (k : Nat) (w : World) (a : Option Addr) (n cap : Nat) (b : Option Addr) (m cap2 : Nat) (S : List (RC k)) (hp : StCR k w a n S) (hq : StCR k w b m S) :
    Calls Try.prog 24 #[.agg #[.slice a n cap], .agg #[.slice b m cap2]] w fun e w' => e = .returned (.bool true) ∧ Below w.heap.size w w' := by
  refine (same_c k w a n cap S b m cap2 S hp hq).mono ?_
  rintro e w' ⟨⟨r, rfl, hr⟩, hb⟩
  exact ⟨by rw [hr.2 rfl], hb⟩
theorem refCopy_c (k : Nat) (w : World) (a : Option Addr) (n cap : Nat) (S : List (RC k)) (hp : StCR k w a n S) : Calls Try.prog 11 #[.agg #[.slice a n cap]] w (StTold k w S) := by
  obtain ⟨ms, h1, h2⟩ := hp
  refine (refCopy_any k w a n cap ms h1).mono ?_
  rintro e w' ⟨fa, fn, fc, ns, he, hb, hc, hs, hn⟩
  exact ⟨fa, fn, fc, he, hb, hc, ns, hs, by rw [hn, h2]⟩
def RdCP (k : Nat) (w : World) (A : Nat → Prop) (h : Hd) (c : CT k) : Prop := ∃ t : VT k, hdT k t = h ∧ RdP k w A t ∧ ofT k t = c
theorem RdCP.rdc {k : Nat} {w : World} {A : Nat → Prop} {h : Hd} {c : CT k} (d : RdCP k w A h c) : RdC k w h c := by
  obtain ⟨t, h1, h2, h3⟩ := d
  exact ⟨t, h1, h2.rds k, h3⟩
theorem rdP_of : ∀ (k : Nat) {w : World} {t : VT k}, Rds k w t → RdP k w (fun b => b < w.heap.size) t
  | 0, _, _, h => h.elim
  | k + 1, w, t, h => ⟨h.1, h.2.1, h.2.2.1, h.2.2.2.1, fun x e ne => by
      obtain ⟨u, hu⟩ : ∃ u, t.2[0]? = some u := by
        cases h2 : t.2 with
        | nil => exact absurd h2 ne
        | cons y r => exact ⟨y, rfl⟩
      obtain ⟨b, off, e2, hc⟩ := h.2.2.2.1 0 (hdT k u) (by rw [List.getElem?_map, hu]; rfl)
      rw [e] at e2
      cases e2
      exact World.block_lt_of_cell? w ⟨b, _, none⟩ (u := .int .i64 (hdT k u).kind) (hc 0 (by omega)), fun u hu => rdP_of k (h.2.2.2.2 u hu)⟩
def RpQ (k : Nat) (w : World) (A : Nat → Prop) (S : List (RC k)) (e : Ending) (w' : World) : Prop := ∃ fa fn fc, e = .returned (.tuple #[.agg #[.slice fa fn fc], .int .i64 0]) ∧ Below w.heap.size w w' ∧ fn ≤ fc ∧ StCP k w' (fun b => A b ∨ (w.heap.size ≤ b ∧ b < w'.heap.size)) fa fn S
theorem refPut_q_ok (k : Nat) (w : World) (sa : Option Addr) (sn sc : Nat) (S : List (RC k)) (A : Nat → Prop) (hA : ∀ b, A b → b < w.heap.size) (hd : StCP k w A sa sn S) (m : Int) (h g : Hd) (c d : CT k) (hk : RdCP k w A h c) (hv : RdCP k w A g d) (hm : hasB sn m = true) (hok : (placeR (fun q => cmpC k q.1 c) (rowOf S m)).2 = true ∨ (rowOf S m).length < 24) :
    Calls Try.prog 13 #[.agg #[.slice sa sn sc], .int .i64 m, h.v, g.v] w (RpQ k w A (S.set m.toNat (putR (fun q => cmpC k q.1 c) (c, d) (rowOf S m)))) := by
  obtain ⟨ms, h1, h2⟩ := hd
  obtain ⟨t, rfl, t2, rfl⟩ := hk
  obtain ⟨u, rfl, u2, rfl⟩ := hv
  have hl : (rowAt ms m).length = (rowOf S m).length := by rw [← rowAt_c h2 m]; simp [rowC]
  cases hb : (placeR (fun q => cmpC k q.1 (ofT k t)) (rowOf S m)).2 with
  | true =>
    have := refPut_thereP k w sa sn sc ms A hA h1 m t u t2 u2 hm (by rw [place_c h2]; exact hb)
    rw [h2, rowAt_c h2, place_c h2, putR_there _ _ _ hb] at this
    exact this
  | false =>
    have hlt : (rowOf S m).length < 24 := by
      rcases hok with e | e
      · rw [hb] at e; cases e
      · exact e
    have := refPut_newP k w sa sn sc ms A hA h1 m t u t2 u2 hm (by rw [place_c h2]; exact hb) (by rw [hl]; exact hlt)
    rw [h2, place_c h2] at this
    have e : ∀ i, rowC k ((rowAt ms m).take i ++ [(t, u)] ++ (rowAt ms m).drop i) = (rowOf S m).take i ++ [(ofT k t, ofT k u)] ++ (rowOf S m).drop i := fun i => by
      rw [← rowAt_c h2 m]
      unfold rowC
      simp [ofP]
    rw [e] at this
    unfold putR
    rw [hb]
    exact this
theorem refDel_q (k : Nat) (w : World) (sa : Option Addr) (sn sc : Nat) (S : List (RC k)) (A : Nat → Prop) (hA : ∀ b, A b → b < w.heap.size) (hd : StCP k w A sa sn S) (hsc : sn ≤ sc) (hr : RiseS k S) (m : Int) (h : Hd) (c : CT k) (hk : RdCP k w A h c) :
    Calls Try.prog 16 #[.agg #[.slice sa sn sc], .int .i64 m, h.v] w (RsQ k w A (if 0 ≤ m then S.set m.toNat ((rowOf S m).filter fun q => !(cmpC k q.1 c == 0)) else S)) := by
  obtain ⟨ms, h1, h2⟩ := hd
  obtain ⟨t, rfl, t2, rfl⟩ := hk
  have := refDel_P k w sa sn sc ms A hA h1 hsc m t t2
  rw [place_c h2, h2] at this
  have e : (if (placeR (fun q => cmpC k q.1 (ofT k t)) (rowOf S m)).2 = true then S.set m.toNat (rowC k ((rowAt ms m).take (placeR (fun q => cmpC k q.1 (ofT k t)) (rowOf S m)).1 ++ (rowAt ms m).drop ((placeR (fun q => cmpC k q.1 (ofT k t)) (rowOf S m)).1 + 1))) else S) = if 0 ≤ m then S.set m.toNat ((rowOf S m).filter fun q => !(cmpC k q.1 (ofT k t) == 0)) else S := by
    rw [rise_del (ofT k t) (rowOf S m) (rise_of hr m)]
    have hc : ∀ i, rowC k ((rowAt ms m).take i ++ (rowAt ms m).drop (i + 1)) = (rowOf S m).take i ++ (rowOf S m).drop (i + 1) := fun i => by
      rw [← rowAt_c h2 m]
      unfold rowC
      simp
    rw [hc]
    by_cases h0 : 0 ≤ m
    · rw [if_pos h0]
      split
      · rfl
      · rw [set_same]
        intro hl
        exact rowOf_at S h0 hl
    · rw [if_neg h0]
      have : rowOf S m = [] := by unfold rowOf; rw [if_neg h0]
      rw [this]
      simp [placeR]
  rw [e] at this
  exact this
/- A value asked for: there or not. -/
def zHd : Hd := ⟨0, 0, ⟨#[]⟩, 0, none, 0, 0⟩
def zC : CT 3 := ofT 3 (mkV 2 zHd [])
def GP (w : World) (o : Option (CT 3)) (e : Ending) (w' : World) : Prop := Below w.heap.size w w' ∧ ∃ h : Hd, e = .returned (.tuple #[h.v, .bool o.isSome]) ∧ RdC 3 w' h (o.getD zC)
theorem zHd_rd (w : World) : RdC 3 w zHd zC := by
  refine ⟨mkV 2 zHd [], rfl, rds_mkV ?_ rfl (by show (0 : Nat) ≤ 1000; omega) (fun j x hx => by simp at hx) (fun u hu => by cases hu), rfl⟩
  constructor <;> simp [zHd] <;> decide
theorem gp_of_mb {w : World} {o : Option (CT 3)} {e : Ending} {w' : World} (h : MbP 3 w o e w') : GP w o e w' := by
  obtain ⟨hb, h⟩ := h
  cases o with
  | none => exact ⟨hb, zHd, h, zHd_rd w'⟩
  | some c =>
    obtain ⟨t, rfl, h2, h3⟩ := h
    exact ⟨hb, hdT 3 t, rfl, t, rfl, h2.rds 3, h3⟩
theorem gp_of_rb {w : World} {o : Option (CT 3)} {e : Ending} {w' : World} (h : RbP 3 w o e w') : GP w o e w' := by
  obtain ⟨hb, h⟩ := h
  cases o with
  | none => exact ⟨hb, zHd, h, zHd_rd w'⟩
  | some c =>
    obtain ⟨t, rfl, h2, h3⟩ := h
    exact ⟨hb, hdT 3 t, rfl, t, rfl, h2, h3⟩
/- What stands between two rounds. -/
def Av (Bs Br Bw Bo : Nat) (W : World) (b : Nat) : Prop := b < W.heap.size ∧ b ≠ Bs ∧ b ≠ Br ∧ b ≠ Bw ∧ b ≠ Bo
structure PL (w wr : World) (Bs Br Bw Bo : Nat) (sa : Option Addr) (sn sc : Nat) (ra : Option Addr) (rn rc : Nat) (wa : Option Addr) (wn wc : Nat) (oa : Option Addr) (on oc : Nat) (S R T : List (RC 3)) : Prop where
  bel : Below w.heap.size w wr
  lo : w.heap.size ≤ Bs ∧ w.heap.size ≤ Br ∧ w.heap.size ≤ Bw ∧ w.heap.size ≤ Bo
  ne : Bs ≠ Br ∧ Bs ≠ Bw ∧ Bs ≠ Bo ∧ Br ≠ Bw ∧ Br ≠ Bo ∧ Bw ≠ Bo
  bs : wr.heap[Bs]? = some (.cells #[.slice sa sn sc] 27 (0, 0))
  br : wr.heap[Br]? = some (.cells #[.slice ra rn rc] 27 (0, 0))
  bw : wr.heap[Bw]? = some (.cells #[.slice wa wn wc] 27 (0, 0))
  bo : wr.heap[Bo]? = some (.cells #[.slice oa on oc] 27 (0, 0))
  ns : sn ≤ sc
  nr : rn ≤ rc
  ss : StCP 3 wr (Av Bs Br Bw Bo wr) sa sn S
  rr : StCP 3 wr (Av Bs Br Bw Bo wr) ra rn R
  ww : StCP 3 wr (Av Bs Br Bw Bo wr) wa wn T
  oo : StCP 3 wr (Av Bs Br Bw Bo wr) oa on T
  ri : RiseS 3 R
section
variable {w wr W' : World} {Bs Br Bw Bo : Nat} {sa : Option Addr} {sn sc : Nat} {ra : Option Addr} {rn rc : Nat} {wa : Option Addr} {wn wc : Nat} {oa : Option Addr} {on oc : Nat} {S R T : List (RC 3)}
theorem st_keep {A : Nat → Prop} {a : Option Addr} {n : Nat} (h : StCP 3 wr A a n S) (e : ∀ b, A b → W'.heap[b]? = wr.heap[b]?) {B : Nat → Prop} (i : ∀ b, A b → B b) : StCP 3 W' B a n S := (h.keep e).imp i
theorem PL.below (h : PL w wr Bs Br Bw Bo sa sn sc ra rn rc wa wn wc oa on oc S R T) (hb : Below wr.heap.size wr W') : PL w W' Bs Br Bw Bo sa sn sc ra rn rc wa wn wc oa on oc S R T := by
  have e : ∀ b, Av Bs Br Bw Bo wr b → W'.heap[b]? = wr.heap[b]? := fun b hb' => hb.block b hb'.1
  have i : ∀ b, Av Bs Br Bw Bo wr b → Av Bs Br Bw Bo W' b := fun b hb' => ⟨Nat.lt_of_lt_of_le hb'.1 hb.size, hb'.2⟩
  have l : ∀ {b : Nat} {o : Obj}, wr.heap[b]? = some o → W'.heap[b]? = some o := fun h0 => (hb.block _ (Array.getElem?_eq_some_iff.1 h0).1).trans h0
  exact ⟨h.bel.trans (hb.mono h.bel.size), h.lo, h.ne, l h.bs, l h.br, l h.bw, l h.bo, h.ns, h.nr, st_keep h.ss e i, st_keep h.rr e i, st_keep h.ww e i, st_keep h.oo e i, h.ri⟩
theorem set_off {W : World} {B b : Nat} {v : Value} (h : b ≠ B) : (W.setCell ⟨B, 0, none⟩ v).heap[b]? = W.heap[b]? := Below.heap_setCell _ _ _ _ h
theorem set_size {W : World} {B : Nat} {v : Value} : (W.setCell ⟨B, 0, none⟩ v).heap.size = W.heap.size := by simp [World.setCell]
theorem av_set {B : Nat} {v : Value} {b : Nat} (h : Av Bs Br Bw Bo wr b) : Av Bs Br Bw Bo (wr.setCell ⟨B, 0, none⟩ v) b := ⟨by rw [set_size]; exact h.1, h.2⟩
variable {ta : Option Addr} {tn tc : Nat} {S' : List (RC 3)} {A : Nat → Prop}
theorem PL.setS (h : PL w wr Bs Br Bw Bo sa sn sc ra rn rc wa wn wc oa on oc S R T) (ht : StCP 3 wr A ta tn S') (hA : ∀ b, A b → Av Bs Br Bw Bo wr b) (htc : tn ≤ tc) : PL w (wr.setCell ⟨Bs, 0, none⟩ (.slice ta tn tc)) Bs Br Bw Bo ta tn tc ra rn rc wa wn wc oa on oc S' R T := by
  have e : ∀ b, Av Bs Br Bw Bo wr b → (wr.setCell ⟨Bs, 0, none⟩ (.slice ta tn tc)).heap[b]? = wr.heap[b]? := fun b hb => set_off hb.2.1
  have i := fun b (hb : Av Bs Br Bw Bo wr b) => av_set (B := Bs) (v := .slice ta tn tc) hb
  obtain ⟨n1, n2, n3, n4, n5, n6⟩ := h.ne
  exact ⟨h.bel.setCell (p := ⟨Bs, 0, none⟩) h.lo.1 _, h.lo, h.ne, set_cells h.bs _, (set_off (Ne.symm n1)).trans h.br, (set_off (Ne.symm n2)).trans h.bw, (set_off (Ne.symm n3)).trans h.bo, htc, h.nr, st_keep ht (fun b hb => e b (hA b hb)) (fun b hb => i b (hA b hb)), st_keep h.rr e i, st_keep h.ww e i, st_keep h.oo e i, h.ri⟩
theorem PL.setR (h : PL w wr Bs Br Bw Bo sa sn sc ra rn rc wa wn wc oa on oc S R T) (ht : StCP 3 wr A ta tn S') (hA : ∀ b, A b → Av Bs Br Bw Bo wr b) (htc : tn ≤ tc) (hri : RiseS 3 S') : PL w (wr.setCell ⟨Br, 0, none⟩ (.slice ta tn tc)) Bs Br Bw Bo sa sn sc ta tn tc wa wn wc oa on oc S S' T := by
  have e : ∀ b, Av Bs Br Bw Bo wr b → (wr.setCell ⟨Br, 0, none⟩ (.slice ta tn tc)).heap[b]? = wr.heap[b]? := fun b hb => set_off hb.2.2.1
  have i := fun b (hb : Av Bs Br Bw Bo wr b) => av_set (B := Br) (v := .slice ta tn tc) hb
  obtain ⟨n1, n2, n3, n4, n5, n6⟩ := h.ne
  exact ⟨h.bel.setCell (p := ⟨Br, 0, none⟩) h.lo.2.1 _, h.lo, h.ne, (set_off n1).trans h.bs, set_cells h.br _, (set_off (Ne.symm n4)).trans h.bw, (set_off (Ne.symm n5)).trans h.bo, h.ns, htc, st_keep h.ss e i, st_keep ht (fun b hb => e b (hA b hb)) (fun b hb => i b (hA b hb)), st_keep h.ww e i, st_keep h.oo e i, hri⟩
theorem PL.setWO (h : PL w wr Bs Br Bw Bo sa sn sc ra rn rc wa wn wc oa on oc S S T) (ht : StCP 3 wr A ta tn S) (hA : ∀ b, A b → Av Bs Br Bw Bo wr b) : PL w ((wr.setCell ⟨Bo, 0, none⟩ (.slice sa sn sc)).setCell ⟨Bw, 0, none⟩ (.slice ta tn tc)) Bs Br Bw Bo sa sn sc ra rn rc ta tn tc sa sn sc S S S := by
  obtain ⟨n1, n2, n3, n4, n5, n6⟩ := h.ne
  have e : ∀ b, Av Bs Br Bw Bo wr b → ((wr.setCell ⟨Bo, 0, none⟩ (.slice sa sn sc)).setCell ⟨Bw, 0, none⟩ (.slice ta tn tc)).heap[b]? = wr.heap[b]? := fun b hb => (set_off hb.2.2.2.1).trans (set_off hb.2.2.2.2)
  have i := fun b (hb : Av Bs Br Bw Bo wr b) => av_set (B := Bw) (v := .slice ta tn tc) (av_set (B := Bo) (v := .slice sa sn sc) hb)
  exact ⟨(h.bel.setCell (p := ⟨Bo, 0, none⟩) h.lo.2.2.2 _).setCell (p := ⟨Bw, 0, none⟩) h.lo.2.2.1 _, h.lo, h.ne, (set_off n2).trans ((set_off n3).trans h.bs), (set_off n4).trans ((set_off n5).trans h.br), set_cells ((set_off n6).trans h.bw) _, (set_off (Ne.symm n6)).trans (set_cells h.bo _), h.ns, h.nr, st_keep h.ss e i, st_keep h.rr e i, st_keep ht (fun b hb => e b (hA b hb)) (fun b hb => i b (hA b hb)), st_keep h.ss e i, h.ri⟩
end
end Go.Proofs.Ytenfgahedbeekaa
