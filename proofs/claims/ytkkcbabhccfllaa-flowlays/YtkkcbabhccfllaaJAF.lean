/- The document's way to mark what is reached: a row that grows. -/
import Derived.Test.YtkkcbabhccfllaaJAE
import Derived.Sort.CutIn
import Derived.ProofKit
import Derived.OpenShut
import Derived.ChangeOld
import Derived.ChangeSlices
import Derived.ChangeMaps5
import Derived.ChangeAt
import Derived.Below
import Derived.Deep.Slices
namespace Go.Proofs.Ytkkcbabhccfllaa
open Go.RowKit Go.Deep Go.Shelf
set_option linter.unusedVariables false
set_option linter.unusedSimpArgs false
structure Rf (n : Nat) (ways : Nat → List Nat) (P ws : List Nat) (k : Nat) : Prop where
  nod : P.Nodup
  lt : ∀ x ∈ P, x < n
  wlt : ∀ x ∈ ws, x < n
  rp : ∀ x ∈ ws, Rch ways x
  ps : ∀ x ∈ P, x ∈ ws
  z : 0 ∈ ws
  cl : ∀ x ∈ P, ∀ t ∈ ways x, t ∈ ws
  dn : ∀ j, j < k → ∀ x, ws[j]? = some x → x ∈ P
  len : ws.length ≤ 1 + 2 * P.length
  kl : k ≤ ws.length
theorem Rf.start {n : Nat} {ways : Nat → List Nat} (h : 0 < n) : Rf n ways [] [0] 0 :=
  ⟨by simp, by simp, fun x hx => by simp at hx; omega, fun x hx => by simp at hx; subst hx; exact .zero, by simp, by simp, by simp, fun j hj => by omega, by simp, by simp⟩
theorem Rf.skip {n k x : Nat} {ways : Nat → List Nat} {P ws : List Nat} (h : Rf n ways P ws k) (hx : ws[k]? = some x) (hp : x ∈ P) : Rf n ways P ws (k + 1) :=
  ⟨h.nod, h.lt, h.wlt, h.rp, h.ps, h.z, h.cl, fun j hj y hy => by
    by_cases e : j = k
    · subst e; rw [hx] at hy; cases hy; exact hp
    · exact h.dn j (by omega) y hy, h.len, (List.getElem?_eq_some_iff.1 hx).1⟩
theorem Rf.mark {n k x : Nat} {ways : Nat → List Nat} {P ws : List Nat} (h : Rf n ways P ws k) (hx : ws[k]? = some x) (hp : x ∉ P) (hl : (ways x).length ≤ 2) (hw : ∀ t ∈ ways x, t < n) : Rf n ways (P ++ [x]) (ws ++ ways x) (k + 1) := by
  have hm := List.mem_of_getElem? hx
  have hlt := (List.getElem?_eq_some_iff.1 hx).1
  refine ⟨?_, ?_, ?_, ?_, ?_, by simp [h.z], ?_, ?_, ?_, ?_⟩
  · rw [List.nodup_append]
    exact ⟨h.nod, by simp, fun a ha b hb => by simp at hb; subst hb; intro e; subst e; exact hp ha⟩
  · intro y hy
    rcases List.mem_append.1 hy with hy | hy
    · exact h.lt y hy
    · simp at hy; subst hy; exact h.wlt _ hm
  · intro y hy
    rcases List.mem_append.1 hy with hy | hy
    · exact h.wlt y hy
    · exact hw y hy
  · intro y hy
    rcases List.mem_append.1 hy with hy | hy
    · exact h.rp y hy
    · exact .step (h.rp _ hm) hy
  · intro y hy
    rcases List.mem_append.1 hy with hy | hy
    · exact List.mem_append.2 (.inl (h.ps y hy))
    · simp at hy; subst hy; exact List.mem_append.2 (.inl hm)
  · intro y hy t ht
    rcases List.mem_append.1 hy with hy | hy
    · exact List.mem_append.2 (.inl (h.cl y hy t ht))
    · simp at hy; subst hy; exact List.mem_append.2 (.inr ht)
  · intro j hj y hy
    by_cases e : j = k
    · subst e
      rw [List.getElem?_append_left hlt, hx] at hy
      cases hy; simp
    · rw [List.getElem?_append_left (by omega)] at hy
      exact List.mem_append.2 (.inl (h.dn j (by omega) y hy))
  · have := h.len
    simp only [List.length_append, List.length_cons, List.length_nil]; omega
  · simp only [List.length_append]; omega
theorem Rf.fin {n k : Nat} {ways : Nat → List Nat} {P ws : List Nat} (h : Rf n ways P ws k) (hk : k = ws.length) : ∀ x, x ∈ P ↔ Rch ways x := by
  have hwp : ∀ x ∈ ws, x ∈ P := fun x hx => by
    obtain ⟨j, hj⟩ := List.getElem?_of_mem hx
    exact h.dn j (by have := (List.getElem?_eq_some_iff.1 hj).1; omega) x hj
  exact fun x => ⟨fun hx => h.rp x (h.ps x hx), rch_sub (p := fun x => x ∈ P) (hwp _ h.z) (fun i t hi ht => hwp _ (h.cl i hi t ht)) x⟩
theorem Rf.room {n k : Nat} {ways : Nat → List Nat} {P ws : List Nat} (h : Rf n ways P ws k) : P.length ≤ n := nodup_le n P h.nod h.lt
end Go.Proofs.Ytkkcbabhccfllaa

namespace Go.Proofs.Ytkkcbabhccfllaa
open Go.RowKit Go.Deep Go.Shelf
set_option linter.unusedVariables false
set_option linter.unusedSimpArgs false
attribute [local go_sem] Oper.semAt_some
/- Between two rounds of met: the marks, the box of their row, how many are left. -/
structure MI23 (w : World) (cnt : Nat) (pre : List (Fin cnt)) (W : World) : Prop where
  r : W.heap[w.heap.size]? = some (.cells (mk cnt (vals pre)) 4 (0, 0))
  b : W.heap[w.heap.size + 1]? = some (.cells #[.slice (some ⟨w.heap.size, 0, none⟩) cnt cnt] 37 (0, 0))
  t : W.heap[w.heap.size + 1 + 1]? = some (.cells #[.int .i64 ((cnt : Int) - (pre.length : Int))] 3 (0, 0))
  bl : Below w.heap.size w W
theorem MI23.grown {w : World} {cnt : Nat} {pre : List (Fin cnt)} {A A' : World} {row : Option Nat} (h : MI23 w cnt pre A) (k : A.grownBy A' row) (hr : ∀ r, row = some r → w.heap.size + 3 ≤ r) : MI23 w cnt pre A' := by
  have hb : ∀ j, j < A.heap.size → j < w.heap.size + 3 → A'.heap[j]? = A.heap[j]? := fun j hj hn => k.block j hj (fun e => by have := hr j e.symm; omega)
  refine ⟨(hb _ (lt_of_heap h.r) (by omega)).trans h.r, (hb _ (lt_of_heap h.b) (by omega)).trans h.b, (hb _ (lt_of_heap h.t) (by omega)).trans h.t, ⟨k.os.trans h.bl.os, k.tape.trans h.bl.tape, k.output.trans h.bl.output, Nat.le_trans h.bl.size k.size, fun j hj => ?_⟩⟩
  exact (hb j (Nat.lt_of_lt_of_le hj h.bl.size) (by omega)).trans (h.bl.block j hj)
end Go.Proofs.Ytkkcbabhccfllaa

namespace Go.Proofs.Ytkkcbabhccfllaa
open Go.RowKit Go.Deep Go.Shelf
set_option linter.unusedVariables false
set_option linter.unusedSimpArgs false
/- Between two rounds of the second loop. -/
structure RS (w : World) (regs : Int) (a : Option Addr) (n c F0 OB : Nat) (P : List Nat) (wr : World) : Prop where
  b : Below w.heap.size w wr
  f : wr.heap[F0]? = some (.cells #[.int .i64 regs, .slice a n c] 29 (0, 0))
  s : wr.heap[OB]? = some (.cells (mk n P) 4 (0, 0))
theorem RS.below {w : World} {regs : Int} {a : Option Addr} {n c F0 OB : Nat} {P : List Nat} {wr w' : World} (h : RS w regs a n c F0 OB P wr) (k : Below wr.heap.size wr w') : RS w regs a n c F0 OB P w' :=
  ⟨h.b.trans (k.mono h.b.size), (k.block _ (lt_of_heap h.f)).trans h.f, (k.block _ (lt_of_heap h.s)).trans h.s⟩
theorem RS.low {w : World} {regs : Int} {a : Option Addr} {n c F0 OB : Nat} {P : List Nat} {wr w' : World} {B : Nat} (h : RS w regs a n c F0 OB P wr) (k : Below B wr w') (hB : w.heap.size ≤ B) (h1 : F0 < B) (h2 : OB < B) : RS w regs a n c F0 OB P w' :=
  ⟨h.b.trans (k.mono hB), (k.block _ h1).trans h.f, (k.block _ h2).trans h.s⟩
theorem RS.set {w : World} {regs : Int} {a : Option Addr} {n c F0 OB x : Nat} {P : List Nat} {wr : World} (h : RS w regs a n c F0 OB P wr) (hx : x < n) (h1 : F0 ≠ OB) (h2 : w.heap.size ≤ OB) : RS w regs a n c F0 OB (P ++ [x]) (wr.setCell ⟨OB, x, none⟩ (.bool true)) :=
  ⟨h.b.setCell (p := ⟨OB, x, none⟩) h2 _, (Below.heap_setCell _ _ _ _ h1).trans h.f, by rw [heap_set_at h.s, mk_snoc P hx]⟩
theorem Gwn.keep {w w' : World} {a a' : Option Addr} {b : Nat} (h : Gwn w a w' a') (hb : b < w.heap.size) (hne : ∀ x : Addr, a = some x → x.block ≠ b) : w'.heap[b]? = w.heap[b]? := by
  obtain ⟨⟨row, hg, hr⟩, _⟩ := h
  refine hg.block b hb (fun e => ?_)
  obtain ⟨x, ex, hx⟩ := hr b e.symm
  exact hne x ex hx
end Go.Proofs.Ytkkcbabhccfllaa

namespace Go.Proofs.Ytkkcbabhccfllaa
open Go.RowKit Go.Deep Go.Shelf
set_option linter.unusedVariables false
set_option linter.unusedSimpArgs false
structure RG (w : World) (regs : Int) (a : Option Addr) (n c F0 OB : Nat) (P : List Nat) (wr : World) : Prop where
  b : Below w.heap.size w wr
  f : wr.heap[F0]? = some (.cells #[.int .i64 regs, .slice a n c] 24 (0, 0))
  s : wr.heap[OB]? = some (.cells (mk n P) 4 (0, 0))
theorem RG.below {w : World} {regs : Int} {a : Option Addr} {n c F0 OB : Nat} {P : List Nat} {wr w' : World} (h : RG w regs a n c F0 OB P wr) (k : Below wr.heap.size wr w') : RG w regs a n c F0 OB P w' :=
  ⟨h.b.trans (k.mono h.b.size), (k.block _ (lt_of_heap h.f)).trans h.f, (k.block _ (lt_of_heap h.s)).trans h.s⟩
theorem RG.low {w : World} {regs : Int} {a : Option Addr} {n c F0 OB : Nat} {P : List Nat} {wr w' : World} {B : Nat} (h : RG w regs a n c F0 OB P wr) (k : Below B wr w') (hB : w.heap.size ≤ B) (h1 : F0 < B) (h2 : OB < B) : RG w regs a n c F0 OB P w' :=
  ⟨h.b.trans (k.mono hB), (k.block _ h1).trans h.f, (k.block _ h2).trans h.s⟩
theorem RG.set {w : World} {regs : Int} {a : Option Addr} {n c F0 OB x : Nat} {P : List Nat} {wr : World} (h : RG w regs a n c F0 OB P wr) (hx : x < n) (h1 : F0 ≠ OB) (h2 : w.heap.size ≤ OB) : RG w regs a n c F0 OB (P ++ [x]) (wr.setCell ⟨OB, x, none⟩ (.bool true)) :=
  ⟨h.b.setCell (p := ⟨OB, x, none⟩) h2 _, (Below.heap_setCell _ _ _ _ h1).trans h.f, by rw [heap_set_at h.s, mk_snoc P hx]⟩
theorem blkW_at {bs : List Blk} {x : Nat} {o : Blk} (ho : bs[x]? = some o) : blkW bs x = (tgE o.en o.tt o.el).map Int.toNat := by
  unfold blkW; rw [ho]
set_option maxRecDepth 100000 in
set_option maxHeartbeats 2000000 in
theorem refReached_any (w : World) (regs : Int) (a : Option Addr) (n c : Nat) (bs : List Blk) (hn : n = bs.length) (hnb : n ≤ 10000) (hr : BRd w a bs) : Calls Try.prog 11 #[.agg #[.int .i64 regs, .slice a n c]] w (GrP w bs n 100) := by
  obtain ⟨F0, hF0⟩ : ∃ F0, F0 = w.heap.size := ⟨_, rfl⟩
  obtain ⟨W0, hW0⟩ : ∃ W0, W0 = w.alloc (.cells #[.int .i64 regs, .slice a n c] 24) := ⟨_, rfl⟩
  have bw0 : Below w.heap.size w W0 := by rw [hW0]; exact (Below.refl _ _).alloc (Nat.le_refl _) _
  have z0 : W0.heap.size = F0 + 1 := by rw [hW0, hF0]; simp
  have m0 : W0.heap[F0]? = some (.cells #[.int .i64 regs, .slice a n c] 24 (0, 0)) := by rw [hW0, hF0]; exact heap_alloc_new _ _
  have hnI : (n : Int) ≤ 10000 := by omega
  have hnI0 : (0 : Int) ≤ (n : Int) := by omega
  have K1 := hid (refIsGraph_any W0 regs a n c bs hn (by omega) (hr.below bw0))
  have CB := hid (fun (v : World) (hv : Below W0.heap.size W0 v) => (⟨cellOf ((hv.block F0 (lt_of_heap m0)).trans m0) 0, cellOf ((hv.block F0 (lt_of_heap m0)).trans m0) 1⟩ : v.cell? ⟨F0, 0, none⟩ = some (.int .i64 regs) ∧ v.cell? ⟨F0, 1, none⟩ = some (.slice a n c)))
  obtain ⟨x0, x1⟩ := CB.out W0 (Below.refl _ _)
  have HN := hid hn
  have HR := hid hr
  have HB0 := hid bw0
  have HM0 := hid m0
  have Z0 := hid z0
  have HF0 := hid hF0
  clear hr hn bw0 m0 z0
  cases hok : isG bs with
  | false =>
    rw [hok] at K1
    have HO := hid hok
    clear hok
    go_enter Try.func11, Try.ntmps11
    go_upto_region 1 with fail
    rw [← hF0, ← hW0]
    clear hW0 hF0
    go_wp2_with (go_at_call 17; (refine (Hid.out K1).mono ?_; rintro e w1 ⟨rfl, hb1⟩; have HB1 := hid (HB0.out.trans (hb1.mono HB0.out.size)); clear hb1 x0 x1))
    go_ret2
    exact ⟨HB1.out, .inr ⟨HO.out, rfl⟩⟩
  | true =>
    rw [hok] at K1
    have HOK := hid hok
    have hn0 : 0 < n := by have := HN.out; unfold isG at hok; simp at hok; omega
    clear hok
    go_enter Try.func11, Try.ntmps11
    go_upto_region 1 with fail
    rw [← hF0, ← hW0]
    clear hW0 hF0
    go_upto_region 3 with (go_at_call 17; (refine (Hid.out K1).mono ?_; rintro e w1 ⟨rfl, hb1⟩; have HB1 := hid hb1; obtain ⟨y0, y1⟩ := CB.out w1 hb1; clear hb1 x0 x1))
    obtain ⟨OB, hOB⟩ : ∃ OB, OB = w1.heap.size := ⟨_, rfl⟩
    have mkB := run_mkB w1 n (by omega)
    obtain ⟨Ws, hWs⟩ : ∃ Ws, Ws = (w1.alloc (.cells (mk n []) 4)).alloc (.cells #[.int .i64 0] 3) := ⟨_, rfl⟩
    have bs' : Below w1.heap.size w1 Ws := by rw [hWs]; exact ((Below.refl _ _).alloc (Nat.le_refl _) _).alloc (by rw [World.size_alloc]; omega) _
    have zs : Ws.heap.size = OB + 2 := by rw [hWs, hOB]; simp
    have ms : Ws.heap[OB]? = some (.cells (mk n []) 4 (0, 0)) := by rw [hWs, hOB, Below.heap_alloc _ _ _ (by simp)]; exact heap_alloc_new _ _
    have mo : Ws.heap[OB + 1]? = some (.cells #[.int .i64 0] 3 (0, 0)) := by
      have := heap_alloc_new (w1.alloc (.cells (mk n []) 4)) (.cells #[.int .i64 0] 3)
      rw [World.size_alloc] at this
      rw [hWs, hOB]; exact this
    have bwr := HB0.out.trans (HB1.out.mono HB0.out.size)
    have hFO : F0 < OB := by have := HB1.out.size; have := Z0.out; omega
    have hFw : w.heap.size ≤ F0 := by rw [HF0.out]; exact Nat.le_refl _
    have HS : Hid (RG w regs a n c F0 OB [] Ws) := hid ⟨bwr.trans (bs'.mono bwr.size), ((bs'.block _ (by omega)).trans (HB1.out.block _ (by have := Z0.out; omega))).trans HM0.out, ms⟩
    have HG : Hid (GRow Ws (OB + 1) (some ⟨OB + 1, 0, none⟩) 1 1 (ofN [0])) := hid ⟨rfl, Nat.le_refl _, fun x ex => by cases ex; exact ⟨_, rfl, by omega, by omega⟩, fun _ => ⟨_, _, rfl, mo, Nat.le_refl _, rfl⟩⟩
    clear bs' zs ms mo bwr
    go_upto_region 5 with fail
    rw [← hOB, ← hWs]
    clear hWs hOB mkB y0 y1 CB
    go_wp2
    go_loopg [5, 6] (2 * n + 1) (fun g x y wr2 => ∃ (P ws : List Nat) (k : Nat) (a5 : Option Addr) (m5 c5 : Nat), y = .int .i64 (k : Int) ∧ x = .slice a5 m5 c5 ∧ m5 = ws.length ∧ 2 * (n - P.length) + (ws.length - k) = g ∧ GRow wr2 (OB + 1) a5 m5 c5 (ofN ws) ∧ RG w regs a n c F0 OB P wr2 ∧ Rf n (blkW bs) P ws k)
    case atStart => exact ⟨[], [0], 0, _, _, _, rfl, rfl, rfl, by simp, HG.out, HS.out, Rf.start hn0⟩
    case round =>
      obtain ⟨P, ws, k, a5, m5, c5, rfl, rfl, hm5, hg, hG, hS, hR⟩ := hrel
      have hPl := hR.room
      have hwl := hR.len
      have hm5b : (m5 : Int) ≤ 100000 := by omega
      by_cases hk : k < m5
      · obtain ⟨x, hx⟩ : ∃ x, ws[k]? = some x := ⟨ws[k]'(by omega), List.getElem?_eq_getElem _⟩
        have hxn : x < n := hR.wlt x (List.mem_of_getElem? hx)
        obtain ⟨g5, rfl, hB5, hc5, _⟩ := hG.cell (ofN_get hx)
        have hsc := cellOf hS.s x
        rw [mk_get hxn] at hsc
        have hkI : (k : Int) < (m5 : Int) := by omega
        have hk0 : (0 : Int) ≤ (k : Int) := by omega
        have hxI : (x : Int) < (n : Int) := by omega
        have hx0 : (0 : Int) ≤ (x : Int) := by omega
        have Hm5 := hid hm5
        have Hg := hid hg
        have hkw : k < ws.length := by omega
        by_cases hin : x ∈ P
        · rw [decide_eq_true hin] at hsc
          have HG2 := hid hG
          have HS2 := hid hS
          have HR2 := hid (hR.skip hx hin)
          clear hG hS hR HG HS hg hm5 hx
          go_wp2
          go_roundg (2 * (n - P.length) + (ws.length - (k + 1)))
          case measure => have := Hg.out; omega
          exact ⟨P, ws, k + 1, _, _, _, by go_num, rfl, Hm5.out, rfl, HG2.out, HS2.out, HR2.out⟩
        · rw [decide_eq_false hin] at hsc
          have hsf := freeOf hS.s x
          obtain ⟨o, ho⟩ : ∃ o, bs[x]? = some o := ⟨bs[x]'(by have := HN.out; omega), List.getElem?_eq_getElem _⟩
          have hPx : P.length < n := by
            have := nodup_le n (P ++ [x]) (by
              rw [List.nodup_append]
              exact ⟨hR.nod, by simp, fun a ha b hb => by simp at hb; subst hb; intro e; subst e; exact hin ha⟩) (fun y hy => by
              rcases List.mem_append.1 hy with hy | hy
              · exact hR.lt y hy
              · simp at hy; omega)
            simp at this; omega
          have hokx : okBk n o = true := by have := isG_at HOK.out ho; rw [← HN.out] at this; exact this
          have htg := tg_in hokx
          have HR2 := hid (hR.mark hx hin (blkW_len bs x) (by have := blkW_lt HOK.out x (by rw [← HN.out]; exact hxn); rw [← HN.out] at this; exact this))
          have HSW : Hid (blkW bs x = (tgE o.en o.tt o.el).map Int.toNat) := hid (blkW_at ho)
          have hend : endE o.en o.a o.tt o.el = true := by unfold okBk at hokx; simp only [Bool.and_eq_true] at hokx; exact hokx.1.1
          obtain ⟨W4, hW4⟩ : ∃ W4, W4 = wr.setCell ⟨OB, x, none⟩ (.bool true) := ⟨_, rfl⟩
          have hS4 : RG w regs a n c F0 OB (P ++ [x]) W4 := by rw [hW4]; exact hS.set hxn (by omega) (by omega)
          have z4 : W4.heap.size = wr.heap.size := by rw [hW4]; simp [World.setCell]
          have hG4 : GRow W4 (OB + 1) (some ⟨g5, 0, none⟩) m5 c5 (ofN ws) := hG.keep (by omega) (fun y ey => by cases ey; rw [hW4]; exact Below.heap_setCell _ _ _ _ (by show g5 ≠ OB; omega))
          obtain ⟨g5', e5', _, hc54, _⟩ := hG4.cell (ofN_get hx)
          cases e5'
          obtain ⟨b, off, ea, hc⟩ := (HR.out.below hS4.b).c x o ho
          obtain ⟨oa, on, oc, en, ba, tt, el, ops⟩ := o
          simp only at htg hend HSW
          have c0 := hc 0 (by omega)
          have c1 := hc 1 (by omega)
          have c2 := hc 2 (by omega)
          have c3 := hc 3 (by omega)
          have c4 := hc 4 (by omega)
          simp only [Blk.cs, List.getElem?_toArray, List.getElem?_cons_zero, List.getElem?_cons_succ, Nat.add_zero] at c0 c1 c2 c3 c4
          have e41 := cellOf hS4.f 1
          simp only [List.getElem?_toArray, List.getElem?_cons_zero, List.getElem?_cons_succ] at e41
          subst ea
          have HS4 := hid hS4
          have HG4 := hid hG4
          clear hG hS hR HG HS hg hm5 hx hS4 hG4 hc ho hokx
          go_upto_region 10 with fail
          rw [← hW4]
          clear hW4 hsc hsf hc5
          go_region_held3 (fun v => v.cell? ⟨F0, 1, none⟩ = some (.slice (some ⟨b, off, none⟩) n c) ∧ v.cell? ⟨g5, k, none⟩ = some (.int .i64 (x : Int)) ∧ v.cell? ⟨b, off + x * 5, none⟩ = some (.slice oa on oc) ∧ v.cell? ⟨b, off + x * 5 + 1, none⟩ = some (.int .i64 en) ∧ v.cell? ⟨b, off + x * 5 + 2, none⟩ = some (.int .i64 ba) ∧ v.cell? ⟨b, off + x * 5 + 3, none⟩ = some (.int .i64 tt) ∧ v.cell? ⟨b, off + x * 5 + 4, none⟩ = some (.int .i64 el)) (first | go_keep) (fail)
          obtain ⟨W5, hW5⟩ : ∃ W5, W5 = (W4.alloc (.cells #[.slice oa on oc, .int .i64 en, .int .i64 ba, .int .i64 tt, .int .i64 el] 47)).drew := ⟨_, rfl⟩
          have b5 : Below W4.heap.size W4 W5 := by rw [hW5]; exact ((Below.refl _ _).alloc (Nat.le_refl _) _).drew
          obtain ⟨X, hX⟩ : ∃ X, X = W4.heap.size := ⟨_, rfl⟩
          have m5' : W5.heap[X]? = some (.cells #[.slice oa on oc, .int .i64 en, .int .i64 ba, .int .i64 tt, .int .i64 el] 47 (0, 0)) := by rw [hW5, hX]; exact heap_alloc_new W4 (.cells #[.slice oa on oc, .int .i64 en, .int .i64 ba, .int .i64 tt, .int .i64 el] 47)
          have z5 : W5.heap.size = X + 1 := by rw [hW5, hX]; show (W4.alloc (.cells #[.slice oa on oc, .int .i64 en, .int .i64 ba, .int .i64 tt, .int .i64 el] 47)).heap.size = _; simp
          have hS5 := HS4.out.below b5
          have hG5 := HG4.out.below (Nat.le_refl _) b5
          have x1 := cellOf m5' 1
          have x3 := cellOf m5' 3
          have x4 := cellOf m5' 4
          simp only [List.getElem?_toArray, List.getElem?_cons_zero, List.getElem?_cons_succ] at x1 x3 x4
          have hgX : g5 < X := by obtain ⟨g', e, h1, h2⟩ := HG4.out.at' _ rfl; cases e; omega
          have hOX : OB + 1 ≤ X := by omega
          have hO5 : OB + 1 ≤ W5.heap.size := by omega
          have HS5 := hid hS5
          have HG5 := hid hG5
          have HM5' := hid m5'
          have hm5n : m5 ≤ 1000000 := by omega
          /- What an append behind W5 leaves. -/
          have AP := hid (fun (v v2 : World) (a1 a2 : Option Addr) (y : Int) (hRS : RG w regs (some ⟨b, off, none⟩) n c F0 OB (P ++ [x]) v) (hX2 : v.heap[X]? = some (.cells #[.slice oa on oc, .int .i64 en, .int .i64 ba, .int .i64 tt, .int .i64 el] 47 (0, 0))) (ha : ∀ z : Addr, a1 = some z → OB + 1 ≤ z.block ∧ z.block ≠ X) (hOv : OB + 1 ≤ v.heap.size) (h : Gwn (v.alloc (.cells #[.int .i64 y] 3)) a1 v2 a2) => (by
            have hbl : Below (OB + 1) v v2 := (below_own hOv _).trans (h.below (fun z e => (ha z e).1) (by rw [World.size_alloc]; omega))
            refine ⟨hRS.low hbl (by omega) (by omega) (by omega), ?_, fun z e => ?_⟩
            · refine (h.keep (by rw [World.size_alloc]; have := lt_of_heap hX2; omega) (fun z e => (ha z e).2)).trans ?_
              exact ((below_own (Nat.le_refl _) _).block X (lt_of_heap hX2)).trans hX2
            · rcases h.2 with h | ⟨g', h, hg'⟩
              · exact ha z (h.symm.trans e)
              · rw [e] at h; cases h
                rw [World.size_alloc] at hg'
                have := lt_of_heap hX2
                exact ⟨by show OB + 1 ≤ g'; omega, by show g' ≠ X; omega⟩ : RG w regs (some ⟨b, off, none⟩) n c F0 OB (P ++ [x]) v2 ∧ v2.heap[X]? = some (.cells #[.slice oa on oc, .int .i64 en, .int .i64 ba, .int .i64 tt, .int .i64 el] 47 (0, 0)) ∧ ∀ z : Addr, a2 = some z → OB + 1 ≤ z.block ∧ z.block ≠ X))
          have hen : en = 38 ∨ en = 39 ∨ en = 40 := by
            refine Classical.byContradiction fun h => ?_
            unfold endE at hend
            rw [if_neg (fun k => h (.inl k)), if_neg (fun k => h (.inr (.inl k))), if_neg (fun k => h (.inr (.inr k)))] at hend
            cases hend
          rw [← z4, ← hX, ← hW5]
          clear hX hW5 b5 m5' z5 hS5 hG5 hend z4 c0 c1 c2 c3 c4 e41 hc54 HS4 HG4
          rcases hen with rfl | rfl | rfl
          · obtain ⟨kt, rfl⟩ : ∃ kt : Nat, tt = (kt : Int) := ⟨tt.toNat, by have := htg tt (by simp [tgE]); omega⟩
            have HF : Hid (blkW bs x = [kt]) := hid (by rw [HSW.out]; simp [tgE])
            clear htg HSW
            go_wp2_with ((at_builtin; refine wpList_app1 W5 rfl _ _ rfl (some ⟨g5, 0, none⟩) m5 c5 (kt : Int) (by rfl) (by rfl) (OB + 1) (ofN ws) HG5.out hm5n hO5 ?_; intro a6 c6 w6 hg6 hgw6; have HG6 := hid hg6; have HA6 := hid (AP.out W5 w6 _ a6 (kt : Int) HS5.out HM5'.out (fun z e => by cases e; exact ⟨hB5, by show g5 ≠ X; omega⟩) hO5 hgw6); have t1 := cellOf HA6.out.2.1 1; have t3 := cellOf HA6.out.2.1 3; have t4 := cellOf HA6.out.2.1 4; simp only [List.getElem?_toArray, List.getElem?_cons_zero, List.getElem?_cons_succ] at t1 t3 t4; have hO6 : OB + 1 ≤ w6.heap.size := by { have := lt_of_heap HA6.out.2.1; omega }; clear hg6 hgw6 x1 x3 x4))
            go_roundg (2 * (n - (P.length + 1)) + (ws.length + 1 - (k + 1)))
            case measure => have := Hg.out; omega
            exact ⟨P ++ [x], ws ++ [kt], k + 1, _, _, _, by go_num, rfl, by rw [List.length_append, ← Hm5.out]; rfl, by simp only [List.length_append, List.length_cons, List.length_nil], by rw [ofN_snoc]; exact HG6.out, HA6.out.1, by have := HR2.out; rw [HF.out] at this; exact this⟩
          · obtain ⟨kt, rfl⟩ : ∃ kt : Nat, tt = (kt : Int) := ⟨tt.toNat, by have := htg tt (by simp [tgE]); omega⟩
            obtain ⟨ke, rfl⟩ : ∃ ke : Nat, el = (ke : Int) := ⟨el.toNat, by have := htg el (by simp [tgE]); omega⟩
            have HF : Hid (blkW bs x = [kt, ke]) := hid (by rw [HSW.out]; simp [tgE])
            clear htg HSW
            go_wp2_with (first | (at_builtin; refine wpList_app1 w6 rfl _ _ rfl a6 (m5 + 1) c6 (ke : Int) (by rfl) (by rfl) (OB + 1) (ofN ws ++ [(kt : Int)]) HG6.out (by omega) hO6 ?_; intro a7 c7 w7 hg7 hgw7; have HG7 := hid hg7; have HA7 := hid (AP.out w6 w7 _ a7 (ke : Int) HA6.out.1 HA6.out.2.1 HA6.out.2.2 hO6 hgw7); clear hg7 hgw7) | (at_builtin; refine wpList_app1 W5 rfl _ _ rfl (some ⟨g5, 0, none⟩) m5 c5 (kt : Int) (by rfl) (by rfl) (OB + 1) (ofN ws) HG5.out hm5n hO5 ?_; intro a6 c6 w6 hg6 hgw6; have HG6 := hid hg6; have HA6 := hid (AP.out W5 w6 _ a6 (kt : Int) HS5.out HM5'.out (fun z e => by cases e; exact ⟨hB5, by show g5 ≠ X; omega⟩) hO5 hgw6); have t1 := cellOf HA6.out.2.1 1; have t3 := cellOf HA6.out.2.1 3; have t4 := cellOf HA6.out.2.1 4; simp only [List.getElem?_toArray, List.getElem?_cons_zero, List.getElem?_cons_succ] at t1 t3 t4; have hO6 : OB + 1 ≤ w6.heap.size := by { have := lt_of_heap HA6.out.2.1; omega }; clear hg6 hgw6 x1 x3 x4))
            go_roundg (2 * (n - (P.length + 1)) + (ws.length + 2 - (k + 1)))
            case measure => have := Hg.out; omega
            exact ⟨P ++ [x], ws ++ [kt, ke], k + 1, _, _, _, by go_num, rfl, by rw [List.length_append, ← Hm5.out]; rfl, by simp only [List.length_append, List.length_cons, List.length_nil], by rw [show ofN (ws ++ [kt, ke]) = (ofN ws ++ [(kt : Int)]) ++ [(ke : Int)] from by simp [ofN]]; exact HG7.out, HA7.out.1, by have := HR2.out; rw [HF.out] at this; exact this⟩
          · skip
            have HF : Hid (blkW bs x = []) := hid (by rw [HSW.out]; simp [tgE])
            clear htg HSW
            go_wp2
            go_roundg (2 * (n - (P.length + 1)) + (ws.length + 0 - (k + 1)))
            case measure => have := Hg.out; omega
            exact ⟨P ++ [x], ws ++ [], k + 1, _, _, _, by go_num, rfl, by rw [List.append_nil]; exact Hm5.out, by simp only [List.length_append, List.length_cons, List.length_nil], by rw [List.append_nil]; exact HG5.out, HS5.out, by have := HR2.out; rw [HF.out] at this; exact this⟩
      · have hke : k = m5 := by have := hR.kl; omega
        subst hke
        have HR2 := hid (hR.fin hm5)
        have HS2 := hid hS
        clear hG hS hR HG HS hg hm5
        go_wp2
        go_ret2
        exact ⟨HS2.out.b, .inl ⟨HOK.out, P, OB, rfl, by omega, HS2.out.s, fun x _ => HR2.out x⟩⟩
end Go.Proofs.Ytkkcbabhccfllaa

namespace Go.Proofs.Ytkkcbabhccfllaa
open Go.RowKit Go.Deep Go.Shelf
set_option linter.unusedVariables false
set_option linter.unusedSimpArgs false
def mkL (n : Nat) (P : List Nat) : List Bool := (List.range n).map fun i => decide (i ∈ P)
theorem mkL_len (n : Nat) (P : List Nat) : (mkL n P).length = n := by simp [mkL]
theorem mkL_rd {w : World} {b n : Nat} {P : List Nat} (h : w.heap[b]? = some (.cells (mk n P) 4 (0, 0))) : TRd w (some ⟨b, 0, none⟩) (mkL n P) := by
  intro j x hx
  have hj : j < n := by have := (List.getElem?_eq_some_iff.1 hx).1; rw [mkL_len] at this; exact this
  refine ⟨b, 0, rfl, ?_⟩
  rw [Nat.zero_add, cellOf h, mk_get hj]
  have : decide (j ∈ P) = x := by simpa [mkL, hj] using hx
  rw [this]
theorem mkL_eq {n : Nat} {P Q : List Nat} (h : ∀ i, i < n → (i ∈ P ↔ i ∈ Q)) : mkL n P = mkL n Q := by
  unfold mkL
  apply List.map_congr_left
  intro i hi
  have := h i (List.mem_range.1 hi)
  simp [this]
end Go.Proofs.Ytkkcbabhccfllaa

namespace Go.Proofs.Ytkkcbabhccfllaa
open Go.RowKit Go.Deep Go.Shelf
set_option linter.unusedVariables false
set_option linter.unusedSimpArgs false
/- Blocks that came in: of whatever length. -/
structure BkW (w : World) (x : Blk) : Prop where
  n : x.on = x.ops.length
  nb : x.on ≤ 140737488355328
  r : ORd w x.oa x.ops
  z : x.oa = none → x.oc = 0
structure BRw (w : World) (a : Option Addr) (l : List Blk) : Prop where
  c : ∀ (j : Nat) (x : Blk), l[j]? = some x → ∃ b off, a = some ⟨b, off, none⟩ ∧ ∀ i, i < 5 → w.cell? ⟨b, off + j * 5 + i, none⟩ = x.cs[i]?
  e : ∀ x ∈ l, BkW w x
def tot (l : List Blk) : Nat := (l.map fun b => 1 + b.on).sum
theorem tot_take {bs : List Blk} {j : Nat} {b : Blk} (h : bs[j]? = some b) : tot (bs.take (j + 1)) = tot (bs.take j) + 1 + b.on := by
  unfold tot
  rw [List.take_add_one, h]
  simp; omega
theorem tot_pre (bs : List Blk) (j : Nat) : tot (bs.take j) ≤ tot bs := by
  have : tot bs = tot (bs.take j ++ bs.drop j) := by rw [List.take_append_drop]
  rw [this]; unfold tot; rw [List.map_append, List.sum_append]; omega
theorem tot_mem : ∀ {bs : List Blk} {b : Blk}, b ∈ bs → 1 + b.on ≤ tot bs
  | x :: r, b, h => by
    unfold tot
    rw [List.map_cons, List.sum_cons]
    rcases List.mem_cons.1 h with rfl | h
    · omega
    · have := tot_mem h; unfold tot at this; omega
theorem tot_len : ∀ (bs : List Blk), bs.length ≤ tot bs
  | [] => by simp
  | x :: r => by
    have := tot_len r
    unfold tot at this ⊢
    rw [List.map_cons, List.sum_cons, List.length_cons]; omega
theorem enB_len (b : Blk) (i : Nat) : (enB b i).length ≤ 2 := by
  unfold enB enO
  have h1 := lpO_len b.el ((i : Int) + 1)
  have h2 := lpO_len b.tt ((i : Int) + 1)
  split
  · simp; omega
  · split
    · simp
    · omega
theorem lay_tot : ∀ (bs : List Blk) (i : Nat), (∀ b ∈ bs, b.on = b.ops.length) → (layA i bs).length ≤ 2 * tot bs
  | [], i, _ => by simp [layA]
  | b :: r, i, h => by
    have h1 := lay_tot r (i + 1) (fun x hx => h x (List.mem_cons_of_mem _ hx))
    have h2 := enB_len b i
    have h3 := h b (List.mem_cons_self ..)
    have h4 : tot (b :: r) = 1 + b.on + tot r := by unfold tot; rw [List.map_cons, List.sum_cons]
    rw [h4]
    show (b.ops ++ enB b i ++ layA (i + 1) r).length ≤ _
    rw [List.length_append, List.length_append]; omega
theorem BRw.few {w : World} {a : Option Addr} {bs : List Blk} (h : BRw w a bs) (ht : tot bs ≤ 2500) : BRd w a bs :=
  ⟨h.c, fun x hx => ⟨(h.e x hx).n, by have := tot_mem hx; omega, (h.e x hx).r⟩⟩
set_option maxRecDepth 100000 in
set_option maxHeartbeats 1000000 in
theorem few_any (w : World) (regs : Int) (a : Option Addr) (n c : Nat) (bs : List Blk) (hn : n = bs.length) (hnb : n ≤ 140737488355328) (hr : BRw w a bs) : Calls Try.prog 7 #[.agg #[.int .i64 regs, .slice a n c]] w fun e w' => e = .returned (.bool (decide (tot bs ≤ 2500))) ∧ Below w.heap.size w w' := by
  obtain ⟨F0, hF0⟩ : ∃ F0, F0 = w.heap.size := ⟨_, rfl⟩
  obtain ⟨W0, hW0⟩ : ∃ W0, W0 = w.alloc (.cells #[.int .i64 regs, .slice a n c] 24) := ⟨_, rfl⟩
  have bw0 : Below w.heap.size w W0 := by rw [hW0]; exact (Below.refl _ _).alloc (Nat.le_refl _) _
  have m0 : W0.heap[F0]? = some (.cells #[.int .i64 regs, .slice a n c] 24 (0, 0)) := by rw [hW0, hF0]; exact heap_alloc_new _ _
  have x1 := cellOf m0 1
  simp only [List.getElem?_toArray, List.getElem?_cons_zero, List.getElem?_cons_succ] at x1
  have hnI : (n : Int) ≤ 140737488355328 := by omega
  have HB0 := hid bw0
  have HR := hid hr
  have HN := hid hn
  clear bw0 m0 hr hn
  go_enter Try.func7, Try.ntmps7
  go_upto_region 1 with fail
  rw [← hF0, ← hW0]
  clear hF0 hW0
  go_wp2
  go_loopg [3, 4] n (fun g x y wr => ∃ i : Nat, i + g = n ∧ y = .int .i64 (i : Int) ∧ x = .int .i64 (tot (bs.take i) : Int) ∧ tot (bs.take i) ≤ 140737488357829 ∧ wr = W0)
  case atStart => exact ⟨0, by omega, rfl, rfl, by simp [tot], rfl⟩
  case round =>
    obtain ⟨i, hi, rfl, rfl, hb, rfl⟩ := hrel
    have hpre := tot_pre bs i
    have hbI : (tot (bs.take i) : Int) ≤ 140737488357829 := by omega
    have hbI0 : (0 : Int) ≤ (tot (bs.take i) : Int) := by omega
    have hi0 : (0 : Int) ≤ (i : Int) := by omega
    cases gk with
    | zero =>
      have hin : i = n := by omega
      have hA : bs.take i = bs := by rw [hin, HN.out]; exact List.take_of_length_le (Nat.le_refl _)
      have hiI : (i : Int) = (n : Int) := by omega
      rw [hA] at hbI hbI0 hpre hb ⊢
      clear hin hA
      by_cases ht : tot bs ≤ 2500
      · have htI : (tot bs : Int) ≤ 2500 := by omega
        have HD := hid (decide_eq_true ht)
        go_wp2
        go_ret
        exact ⟨(by (try rw [HD.out]); try rfl), HB0.out⟩
      · have htI : ¬ (tot bs : Int) ≤ 2500 := by omega
        have HD := hid (decide_eq_false ht)
        go_wp2
        go_ret
        exact ⟨(by (try rw [HD.out]); try rfl), HB0.out⟩
    | succ g =>
      have hiI : (i : Int) < (n : Int) := by omega
      by_cases ht : tot (bs.take i) ≤ 2500
      · have htI : (tot (bs.take i) : Int) ≤ 2500 := by omega
        obtain ⟨o, ho⟩ : ∃ o, bs[i]? = some o := ⟨bs[i]'(by have := HN.out; omega), List.getElem?_eq_getElem _⟩
        obtain ⟨b, off, ea, hc⟩ := HR.out.c i o ho
        have hbk := (HR.out.e o (List.mem_of_getElem? ho)).nb
        have hsu := tot_take ho
        obtain ⟨oa, on, oc, en, ba, tt, el, ops⟩ := o
        have c0 := hc 0 (by omega)
        simp only [Blk.cs, List.getElem?_toArray, List.getElem?_cons_zero, List.getElem?_cons_succ, Nat.add_zero] at c0
        have c0' := belowCell c0 (Nat.le_refl _) HB0.out
        simp only at hbk hsu
        have honI : (on : Int) ≤ 140737488355328 := by omega
        have honI0 : (0 : Int) ≤ (on : Int) := by omega
        have HSU := hid hsu
        have HHB := hid hb
        subst ea
        clear hc hbk hsu ho c0 hb hpre
        go_wp2
        go_roundg g
        case measure => omega
        exact ⟨i + 1, by omega, by go_num, by rw [HSU.out]; go_num, by rw [HSU.out]; omega, rfl⟩
      · have htI : ¬ (tot (bs.take i) : Int) ≤ 2500 := by omega
        have HD := hid (decide_eq_false (show ¬ tot bs ≤ 2500 by omega))
        go_wp2
        go_ret
        exact ⟨(by (try rw [HD.out]); try rfl), HB0.out⟩
end Go.Proofs.Ytkkcbabhccfllaa

namespace Go.Proofs.Ytkkcbabhccfllaa
open Go.RowKit Go.Deep Go.Shelf
set_option linter.unusedVariables false
set_option linter.unusedSimpArgs false
theorem TRd.below {w w' : World} {a : Option Addr} {l : List Bool} (h : TRd w a l) (k : Below w.heap.size w w') : TRd w' a l := fun j x hx => by
  obtain ⟨b, off, e, hc⟩ := h j x hx
  exact ⟨b, off, e, belowCell hc (Nat.le_refl _) k⟩
/- One word for both answers. -/
def FQ (w : World) (r k : Int) (L : List Opx) (e : Ending) (w' : World) : Prop := Below w.heap.size w w' ∧ ∃ (a : Option Addr) (m c : Nat), e = .returned (.tuple #[.agg #[.int .i64 r, .slice a m c], .int .i64 k]) ∧ m = L.length ∧ OpR w' w.heap.size (.slice a m c) L
def GQ (w : World) (k : Int) (m : Nat) (R : Nat → Prop) (e : Ending) (w' : World) : Prop := Below w.heap.size w w' ∧ ∃ (a : Option Addr) (P : List Nat), e = .returned (.tuple #[.slice a m m, .int .i64 k]) ∧ TRd w' a (mkL m P) ∧ ∀ x, x < m → (x ∈ P ↔ R x)
theorem FnP.q1 {w : World} {regs : Int} {bs : List Blk} {bad : Int} {e : Ending} {w' : World} (h : FnP w regs bs bad e w') (hok : isG bs = true) : FQ w regs 0 (layB bs) e w' := by
  obtain ⟨hb, (⟨_, v, rfl, ho⟩ | ⟨hf, _⟩)⟩ := h
  · obtain ⟨a, m, c, rfl, Hm, _, _⟩ := ho.rdm
    exact ⟨hb, a, m, c, rfl, Hm.out, ho⟩
  · rw [hok] at hf; cases hf
theorem FnP.q0 {w : World} {regs : Int} {bs : List Blk} {bad : Int} {e : Ending} {w' : World} (h : FnP w regs bs bad e w') (hok : isG bs = false) : FQ w 0 bad [] e w' := by
  obtain ⟨hb, (⟨hf, _⟩ | ⟨_, rfl⟩)⟩ := h
  · rw [hok] at hf; cases hf
  · exact ⟨hb, none, 0, 0, rfl, rfl, OpR.nil _ _⟩
theorem GrP.q1 {w : World} {n : Nat} {bs : List Blk} {bad : Int} {e : Ending} {w' : World} (h : GrP w bs n bad e w') (hok : isG bs = true) : GQ w 0 n (Rch (blkW bs)) e w' := by
  obtain ⟨hb, (⟨_, P, b, rfl, _, hm, hP⟩ | ⟨hf, _⟩)⟩ := h
  · exact ⟨hb, _, P, rfl, mkL_rd hm, hP⟩
  · rw [hok] at hf; cases hf
theorem GrP.q0 {w : World} {n : Nat} {bs : List Blk} {bad : Int} {e : Ending} {w' : World} (h : GrP w bs n bad e w') (hok : isG bs = false) : GQ w bad 0 (fun _ => False) e w' := by
  obtain ⟨hb, (⟨hf, _⟩ | ⟨_, rfl⟩)⟩ := h
  · rw [hok] at hf; cases hf
  · exact ⟨hb, none, [], rfl, fun j x hx => by simp [mkL] at hx, fun x hx => by omega⟩
/- Both sides, in one statement. -/
theorem sides (w : World) (regs : Int) (a : Option Addr) (n c : Nat) (bs : List Blk) (hn : n = bs.length) (ht : tot bs ≤ 2500) (hr : BRw w a bs) : ∃ (r k : Int) (L : List Opx) (m2 : Nat) (R : Nat → Prop), L.length ≤ 100000 ∧ m2 ≤ 10000 ∧ ∀ v : World, Below w.heap.size w v →
    Calls Try.prog 8 #[.agg #[.int .i64 regs, .slice a n c]] v (FQ v r k L) ∧ Calls Try.prog 9 #[.agg #[.int .i64 regs, .slice a n c]] v (FQ v r k L) ∧ Calls Try.prog 10 #[.agg #[.int .i64 regs, .slice a n c]] v (GQ v k m2 R) ∧ Calls Try.prog 11 #[.agg #[.int .i64 regs, .slice a n c]] v (GQ v k m2 R) := by
  have hr2 := hr.few ht
  have hlen := tot_len bs
  have hT : (layA 0 bs).length ≤ 100000 := by have := lay_tot bs 0 (fun b hb => (hr.e b hb).n); omega
  have hnl : ∀ b ∈ bs, b.oa = none → b.oc = 0 := fun b hb => (hr.e b hb).z
  have hnb : n ≤ 10000 := by omega
  cases hok : isG bs with
  | true =>
    refine ⟨regs, 0, layB bs, n, Rch (blkW bs), by unfold layB; rw [List.length_map]; exact hT, hnb, fun v hv => ⟨?_, ?_, ?_, ?_⟩⟩
    · exact (fn_any v regs a n c bs hn hnb (hr2.below hv) hnl hT).mono fun e w' h => h.q1 hok
    · exact (refFn_any v regs a n c bs hn hnb (hr2.below hv) hnl hT).mono fun e w' h => h.q1 hok
    · exact (reached_any v regs a n c bs hn hnb (hr2.below hv)).mono fun e w' h => h.q1 hok
    · exact (refReached_any v regs a n c bs hn hnb (hr2.below hv)).mono fun e w' h => h.q1 hok
  | false =>
    refine ⟨0, 100, [], 0, fun _ => False, by simp, by omega, fun v hv => ⟨?_, ?_, ?_, ?_⟩⟩
    · exact (fn_any v regs a n c bs hn hnb (hr2.below hv) hnl hT).mono fun e w' h => h.q0 hok
    · exact (refFn_any v regs a n c bs hn hnb (hr2.below hv) hnl hT).mono fun e w' h => h.q0 hok
    · exact (reached_any v regs a n c bs hn hnb (hr2.below hv)).mono fun e w' h => h.q0 hok
    · exact (refReached_any v regs a n c bs hn hnb (hr2.below hv)).mono fun e w' h => h.q0 hok
theorem BRw.below {w w' : World} {a : Option Addr} {l : List Blk} (h : BRw w a l) (k : Below w.heap.size w w') : BRw w' a l := by
  refine ⟨fun j x hx => ?_, fun x hx => ⟨(h.e x hx).n, (h.e x hx).nb, (h.e x hx).r.below k, (h.e x hx).z⟩⟩
  obtain ⟨b, off, e, hc⟩ := h.c j x hx
  refine ⟨b, off, e, fun i hi => ?_⟩
  obtain ⟨v, hv⟩ : ∃ v, x.cs[i]? = some v := by
    rcases (show i = 0 ∨ i = 1 ∨ i = 2 ∨ i = 3 ∨ i = 4 by omega) with rfl | rfl | rfl | rfl | rfl <;> exact ⟨_, rfl⟩
  have := hc i hi
  rw [hv] at this ⊢
  exact belowCell this (Nat.le_refl _) k
set_option maxRecDepth 100000 in
set_option maxHeartbeats 2000000 in
theorem flowLays_any (w : World) (regs : Int) (a : Option Addr) (n c : Nat) (bs : List Blk) (hn : n = bs.length) (hnb : n ≤ 140737488355328) (hr : BRw w a bs) : Calls Try.prog 3 #[.agg #[.int .i64 regs, .slice a n c]] w fun e w' => e = .returned (.bool true) ∧ Below w.heap.size w w' := by
  obtain ⟨F0, hF0⟩ : ∃ F0, F0 = w.heap.size := ⟨_, rfl⟩
  obtain ⟨W0, hW0⟩ : ∃ W0, W0 = w.alloc (.cells #[.int .i64 regs, .slice a n c] 24) := ⟨_, rfl⟩
  have bw0 : Below w.heap.size w W0 := by rw [hW0]; exact (Below.refl _ _).alloc (Nat.le_refl _) _
  have m0 : W0.heap[F0]? = some (.cells #[.int .i64 regs, .slice a n c] 24 (0, 0)) := by rw [hW0, hF0]; exact heap_alloc_new _ _
  have K6 := hid (known_any W0)
  have hr0 := hr.below bw0
  have K7 := hid (fun (v : World) (hv : Below W0.heap.size W0 v) => few_any v regs a n c bs hn hnb (hr0.below hv))
  have CB := hid (fun (v : World) (hv : Below W0.heap.size W0 v) => (⟨cellOf ((hv.block F0 (lt_of_heap m0)).trans m0) 0, cellOf ((hv.block F0 (lt_of_heap m0)).trans m0) 1⟩ : v.cell? ⟨F0, 0, none⟩ = some (.int .i64 regs) ∧ v.cell? ⟨F0, 1, none⟩ = some (.slice a n c)))
  have BW := hid (fun (v : World) (hv : Below W0.heap.size W0 v) => bw0.trans (hv.mono bw0.size))
  by_cases ht : tot bs ≤ 2500
  · obtain ⟨r, k, L, m2, R, hL, hm2b, hS⟩ := sides W0 regs a n c bs hn ht hr0
    have KS := hid hS
    rw [decide_eq_true ht] at K7
    have HLn : Hid (L.length ≤ 100000) := hid hL
    obtain ⟨m, hm⟩ : ∃ m, m = L.length := ⟨_, rfl⟩
    have hmI : (m : Int) ≤ 100000 := by omega
    have Hm := hid hm
    have K12 := hid (fun (v : World) (a1 a2 : Option Addr) (P Q : List Nat) (h1 : TRd v a1 (mkL m2 P)) (h2 : TRd v a2 (mkL m2 Q)) (hp : ∀ x, x < m2 → (x ∈ P ↔ R x)) (hq : ∀ x, x < m2 → (x ∈ Q ↔ R x)) => flags_true v a1 a2 m2 m2 m2 (mkL m2 P) (mkL_len m2 P).symm (by omega) h1 (by rw [mkL_eq (fun i hi => (hp i hi).trans (hq i hi).symm)]; exact h2))
    clear m0 bw0 hr hr0 hn hnb ht hS hL hm
    go_enter Try.func3, Try.ntmps3
    go_upto_region 1 with fail
    rw [← hF0, ← hW0]
    clear hF0 hW0
    go_upto_region 5 with (first
      | (go_at_call 6; (refine (Hid.out K6).mono ?_; rintro e w1 ⟨rfl, hb1⟩; have HB1 := hid hb1; obtain ⟨x0, x1⟩ := CB.out w1 hb1; have K7' := hid (K7.out w1 hb1); clear hb1))
      | (go_at_call 7; (refine (Hid.out K7').mono ?_; rintro e w2 ⟨rfl, hb2'⟩; have hb2 := HB1.out.trans (hb2'.mono HB1.out.size); have HB2 := hid hb2; obtain ⟨y0, y1⟩ := CB.out w2 hb2; have K8' := hid (KS.out w2 hb2).1; clear hb2 hb2' x0 x1)))
    clear K6 K7 K7' HB1
    go_upto_region 6 with (go_at_call 8; (refine (Hid.out K8').mono ?_; rintro e w3 ⟨hb3', a3, m3, c3, rfl, hm3, ho3⟩; rw [← Hm.out] at hm3; subst hm3; have HB3 := hid (HB2.out.trans (hb3'.mono HB2.out.size)); have HO3 := hid ho3; clear hb3' ho3 y0 y1))
    obtain ⟨Y1, hY1⟩ : ∃ Y1, Y1 = w3.heap.size := ⟨_, rfl⟩
    obtain ⟨W3, hW3⟩ : ∃ W3, W3 = w3.alloc (.cells #[.int .i64 r, .slice a3 m3 c3] 29) := ⟨_, rfl⟩
    have b3 : Below w3.heap.size w3 W3 := by rw [hW3]; exact (Below.refl _ _).alloc (Nat.le_refl _) _
    have q3 : W3.heap[Y1]? = some (.cells #[.int .i64 r, .slice a3 m3 c3] 29 (0, 0)) := by rw [hW3, hY1]; exact heap_alloc_new _ _
    have hB3 : Below W0.heap.size W0 W3 := HB3.out.trans (b3.mono HB3.out.size)
    have HB33 := hid hB3
    have HQ3 := hid q3
    have HO33 := hid (HO3.out.below (Nat.le_refl _) b3)
    obtain ⟨x0, x1⟩ := CB.out W3 hB3
    have K9' := hid (KS.out W3 hB3).2.1
    rw [← hY1, ← hW3]
    clear hY1 hW3 b3 q3 hB3 HO3 HB3 HB2 K8'
    go_upto_region 7 with (go_at_call 9; (refine (Hid.out K9').mono ?_; rintro e w4 ⟨hb4', a4, m4, c4, rfl, hm4, ho4⟩; rw [← Hm.out] at hm4; subst hm4; have HB4' := hid hb4'; have HB4 := hid (HB33.out.trans (hb4'.mono HB33.out.size)); have HO4 := hid ho4; clear hb4' ho4 x0 x1))
    obtain ⟨Y2, hY2⟩ : ∃ Y2, Y2 = w4.heap.size := ⟨_, rfl⟩
    obtain ⟨W4, hW4⟩ : ∃ W4, W4 = w4.alloc (.cells #[.int .i64 r, .slice a4 m4 c4] 29) := ⟨_, rfl⟩
    have b4 : Below w4.heap.size w4 W4 := by rw [hW4]; exact (Below.refl _ _).alloc (Nat.le_refl _) _
    have q4 : W4.heap[Y2]? = some (.cells #[.int .i64 r, .slice a4 m4 c4] 29 (0, 0)) := by rw [hW4, hY2]; exact heap_alloc_new _ _
    have hB4 : Below W0.heap.size W0 W4 := HB4.out.trans (b4.mono HB4.out.size)
    have b34 : Below W3.heap.size W3 W4 := HB4'.out.trans (b4.mono HB4'.out.size)
    have q34 : W4.heap[Y1]? = some (.cells #[.int .i64 r, .slice a3 m4 c3] 29 (0, 0)) := (b34.block Y1 (lt_of_heap HQ3.out)).trans HQ3.out
    have o3 : ORd W4 a3 L := (HO33.out.below (Nat.le_refl _) b34).ord
    have o4 : ORd W4 a4 L := (HO4.out.below (Nat.le_refl _) b4).ord
    have RB := hid (fun (v : World) (hv : Below W4.heap.size W4 v) => (by
      have h1 := (hv.block Y1 (lt_of_heap q34)).trans q34
      have h2 := (hv.block Y2 (lt_of_heap q4)).trans q4
      exact ⟨⟨cellOf h1 0, cellOf h1 1, cellOf h2 0, cellOf h2 1⟩, o3.below hv, o4.below hv⟩ : (v.cell? ⟨Y1, 0, none⟩ = some (.int .i64 r) ∧ v.cell? ⟨Y1, 1, none⟩ = some (.slice a3 m4 c3) ∧ v.cell? ⟨Y2, 0, none⟩ = some (.int .i64 r) ∧ v.cell? ⟨Y2, 1, none⟩ = some (.slice a4 m4 c4)) ∧ ORd v a3 L ∧ ORd v a4 L))
    have HB44 := hid hB4
    obtain ⟨⟨z0, z1, z2, z3⟩, _, _⟩ := RB.out W4 (Below.refl _ _)
    rw [← hY2, ← hW4]
    clear hY2 hW4 b4 q4 hB4 b34 q34 o3 o4 HO33 HO4 HQ3 HB4' HB4 HB33 K9'
    go_wp2
    clear z0 z1 z2 z3
    go_loopg [7] m4 (fun g x wr => ∃ i : Nat, i + g = m4 ∧ x = .int .i64 (i : Int) ∧ Below W4.heap.size W4 wr)
    case atStart => exact ⟨0, by omega, rfl, Below.refl _ _⟩
    case round =>
      obtain ⟨i, hi, rfl, hb⟩ := hrel
      obtain ⟨⟨z0, z1, z2, z3⟩, o3, o4⟩ := RB.out wr hb
      cases gk with
      | succ g =>
        obtain ⟨o, ho⟩ : ∃ o, L[i]? = some o := ⟨L[i]'(by have := Hm.out; omega), List.getElem?_eq_getElem _⟩
        obtain ⟨b5, o5, e5, hc5⟩ := o3 i o ho
        obtain ⟨b6, o6, e6, hc6⟩ := o4 i o ho
        obtain ⟨oc, od, oa, ob, ok⟩ := o
        have s0 := hc5 0 (by omega)
        have s1 := hc5 1 (by omega)
        have s2 := hc5 2 (by omega)
        have s3 := hc5 3 (by omega)
        have s4 := hc5 4 (by omega)
        have t0 := hc6 0 (by omega)
        have t1 := hc6 1 (by omega)
        have t2 := hc6 2 (by omega)
        have t3 := hc6 3 (by omega)
        have t4 := hc6 4 (by omega)
        simp only [Opx.cs, List.getElem?_toArray, List.getElem?_cons_zero, List.getElem?_cons_succ, Nat.add_zero] at s0 s1 s2 s3 s4 t0 t1 t2 t3 t4
        subst e5
        subst e6
        have hiI : (i : Int) < (m4 : Int) := by omega
        have hi0 : (0 : Int) ≤ (i : Int) := by omega
        have HB := hid hb
        clear hc5 hc6 o3 o4 ho hb
        go_upto_region 12 with fail
        go_region_held3 (fun v => v.cell? ⟨Y1, 1, none⟩ = some (.slice (some ⟨b5, o5, none⟩) m4 c3) ∧ v.cell? ⟨Y2, 1, none⟩ = some (.slice (some ⟨b6, o6, none⟩) m4 c4) ∧ v.cell? ⟨b5, o5 + i * 5, none⟩ = some (.int .i64 oc) ∧ v.cell? ⟨b5, o5 + i * 5 + 1, none⟩ = some (.int .i64 od) ∧ v.cell? ⟨b5, o5 + i * 5 + 2, none⟩ = some (.int .i64 oa) ∧ v.cell? ⟨b5, o5 + i * 5 + 3, none⟩ = some (.int .i64 ob) ∧ v.cell? ⟨b5, o5 + i * 5 + 4, none⟩ = some (.int .i64 ok) ∧ v.cell? ⟨b6, o6 + i * 5, none⟩ = some (.int .i64 oc) ∧ v.cell? ⟨b6, o6 + i * 5 + 1, none⟩ = some (.int .i64 od) ∧ v.cell? ⟨b6, o6 + i * 5 + 2, none⟩ = some (.int .i64 oa) ∧ v.cell? ⟨b6, o6 + i * 5 + 3, none⟩ = some (.int .i64 ob) ∧ v.cell? ⟨b6, o6 + i * 5 + 4, none⟩ = some (.int .i64 ok)) (first | go_keep) (fail)
        go_wp2
        go_roundg g
        case measure => omega
        exact ⟨i + 1, by omega, by go_num, HB.out.drew⟩
      | zero =>
        have hiI : (i : Int) = (m4 : Int) := by omega
        have hbv := HB44.out.trans (hb.mono HB44.out.size)
        obtain ⟨x0, x1⟩ := CB.out wr hbv
        have HBV := hid hbv
        have K10' := hid (KS.out wr hbv).2.2.1
        clear o3 o4 hb hbv hi
        go_wp2_with (first
          | (go_at_call 10; (refine (Hid.out K10').mono ?_; rintro e w5 ⟨hb5', a5, P5, rfl, ht5, hp5⟩; have HP5 := hid hp5; clear hp5; have hb5 := HBV.out.trans (hb5'.mono HBV.out.size); have HB5 := hid hb5; have HT5 := hid ht5; obtain ⟨y0, y1⟩ := CB.out w5 hb5; have K11' := hid (KS.out w5 hb5).2.2.2; clear hb5 hb5' ht5 x0 x1 z0 z1 z2 z3))
          | (go_at_call 11; (refine (Hid.out K11').mono ?_; rintro e w6 ⟨hb6', a6, P6, rfl, ht6, hp6⟩; have hb6 := HB5.out.trans (hb6'.mono HB5.out.size); have HB6 := hid hb6; have K12' := hid (K12.out w6 a5 a6 P5 P6 (HT5.out.below hb6') ht6 HP5.out hp6); clear hb6 hb6' ht6 hp6 y0 y1))
          | (go_at_call 12; (refine (Hid.out K12').mono ?_; rintro e w7 ⟨rfl, hb7⟩; have HB7 := hid (BW.out w7 (HB6.out.trans (hb7.mono HB6.out.size))); clear hb7)))
        go_ret
        exact ⟨rfl, HB7.out⟩
  · rw [decide_eq_false ht] at K7
    clear m0 bw0 hr hr0 hn hnb ht
    go_enter Try.func3, Try.ntmps3
    go_upto_region 1 with fail
    rw [← hF0, ← hW0]
    clear hF0 hW0
    go_wp2_with (first
      | (go_at_call 6; (refine (Hid.out K6).mono ?_; rintro e w1 ⟨rfl, hb1⟩; have HB1 := hid hb1; obtain ⟨x0, x1⟩ := CB.out w1 hb1; have K7' := hid (K7.out w1 hb1); clear hb1))
      | (go_at_call 7; (refine (Hid.out K7').mono ?_; rintro e w2 ⟨rfl, hb2'⟩; have HB2 := hid (BW.out w2 (HB1.out.trans (hb2'.mono HB1.out.size))); clear hb2' x0 x1)))
    go_ret
    exact ⟨rfl, HB2.out⟩
end Go.Proofs.Ytkkcbabhccfllaa

namespace Go.Proofs.Ytkkcbabhccfllaa
open Go.ChangeShapes Go.WideShapes Go.ChangeAt Go.RowKit Go.Deep
set_option linter.unusedVariables false
set_option linter.unusedSimpArgs false

theorem ownN : ownKnob Try.prog.godebug = none := by kernel_rfl
theorem laidOut : laidOutB Try.prog = true := by kernel_rfl
theorem cells3 : Try.prog.cellsOf 3 = 1 := by kernel_rfl
theorem cells36 : Try.prog.cellsOf 36 = 5 := by kernel_rfl
theorem cells27 : Try.prog.cellsOf 27 = 1 := by kernel_rfl
def CRd (w : World) (a : Option Addr) (k : Nat) (rows : List (List Value)) : Prop := ∀ (j : Nat) (r : List Value), rows[j]? = some r → ∃ b off, a = some ⟨b, off, none⟩ ∧ b < w.heap.size ∧ ∀ i, i < k → w.cell? ⟨b, off + j * k + i, none⟩ = r[i]?

section
variable {H : Type} {enc : TypeId × Value → H} {W : World}

def TrdT (enc : TypeId × Value → H) (W : World) (T : TypeId) (cs : List Value) : Prop := ∃ fuel x, DataW.trod enc Try.prog W 0 (fun _ => true) true fuel T cs = some x

set_option maxRecDepth 100000 in
theorem rows_of {T E : TypeId} {k : Nat} (hT : Try.prog.underlying T = some (.slice E)) (hk : Try.prog.cellsOf E = k) (k0 : 0 < k) {a0 : Option Addr} {len cap : Nat} (h : TrdT enc W T [.slice a0 len cap]) :
    ∃ rows : List (List Value), rows.length = len ∧ CRd W a0 k rows ∧ (∀ r ∈ rows, r.length = k ∧ TrdT enc W E r) ∧ len ≤ 9223372036854775807 ∧ len ≤ cap := by
  obtain ⟨fuel, x, hf⟩ := h
  rcases open_slice hT hf with ⟨hcs, _⟩ | ⟨a, l, c, m, n, D, Pl, hcs, _, hl, hm', hm, _, hx⟩
  · simp at hcs
    obtain ⟨rfl, rfl, rfl⟩ := hcs
    exact ⟨[], rfl, fun j x hx => by simp at hx, fun h hh => by simp at hh, by omega, by omega⟩
  · simp at hcs
    obtain ⟨rfl, rfl, rfl⟩ := hcs
    simp at hm
    subst hm
    have hs : ∀ j, j < len → ∃ r : List Value, (∃ b off, some a = some ⟨b, off, none⟩ ∧ b < W.heap.size ∧ ∀ i, i < k → W.cell? ⟨b, off + j * k + i, none⟩ = r[i]?) ∧ r.length = k ∧ TrdT enc W E r := by
      intro j hj
      obtain ⟨cs, h1, h2⟩ := hx j (by omega)
      rw [hk] at h1
      obtain ⟨_, h3, h4⟩ := World.cells?_some h1
      obtain ⟨b, off, spot⟩ := a
      have hc0 : cs[0]? = some (cs[0]'(by omega)) := by rw [List.getElem?_eq_getElem]
      have hcell := (h4 0 k0).trans hc0
      have hspot : spot = none := by
        obtain ⟨cs', h1', h2'⟩ := hx 0 (by omega)
        rw [hk] at h1'
        obtain ⟨_, h3', h4'⟩ := World.cells?_some h1'
        have := World.cell?_spot ((h4' 0 k0).trans (show cs'[0]? = some (cs'[0]'(by omega)) by rw [List.getElem?_eq_getElem]))
        simpa [Addr.add] using this
      subst hspot
      have hb : b < W.heap.size := by
        have := World.block_lt_of_cell? W _ hcell
        simpa [Addr.add_lit] using this
      refine ⟨cs, ⟨b, off, rfl, hb, fun i hi => ?_⟩, h3, _, _, h2⟩
      have := h4 i hi
      simp only [Addr.add_lit] at this
      exact this
    refine ⟨(List.range len).map (fun j => if hj : j < len then Classical.choose (hs j hj) else []), by simp, ?_, ?_, by unfold maxLen at hm'; omega, by omega⟩
    · intro j h hjh
      simp only [List.getElem?_map, Option.map_eq_some_iff] at hjh
      obtain ⟨j', hj', rfl⟩ := hjh
      have hj : j < len := by have := (List.getElem?_eq_some_iff.1 hj').1; simpa using this
      have : j' = j := by simpa [hj] using hj'.symm
      subst this
      simp only [hj, dif_pos]
      exact (Classical.choose_spec (hs j' hj)).1
    · intro h hh
      simp only [List.mem_map, List.mem_range] at hh
      obtain ⟨j, hj, rfl⟩ := hh
      simp only [hj, dif_pos]
      exact (Classical.choose_spec (hs j hj)).2

theorem int_of {c : Value} (h : TrdT enc W 3 [c]) : ∃ n, c = .int .i64 n := by
  obtain ⟨fuel, x, hf⟩ := h
  obtain ⟨n, e, _, w⟩ := DataW.trod_int Try.underlying3 hf
  simp at e
  exact ⟨n, e⟩
set_option maxRecDepth 100000 in
theorem slice_of {T E : TypeId} (hT : Try.prog.underlying T = some (.slice E)) {c : Value} (h : TrdT enc W T [c]) : ∃ a n cap, c = .slice a n cap := by
  obtain ⟨fuel, x, hf⟩ := h
  rcases open_slice hT hf with ⟨hcs, _⟩ | ⟨a, l, c, m, n', D, Pl, hcs, _, hl, hm', hm, _, hx⟩
  · simp at hcs; exact ⟨_, _, _, hcs⟩
  · simp at hcs; exact ⟨_, _, _, hcs⟩
set_option maxRecDepth 100000 in
theorem op_of {cs : List Value} (hl : cs.length = 5) (h : TrdT enc W 36 cs) : ∃ o : Opx, cs = o.cs.toList := by
  obtain ⟨fuel, x, hf⟩ := h
  obtain ⟨xs, n, _, rfl, _, hlen, hf⟩ := DataW.trod_struct Try.underlying36 hf
  match cs, hl with
  | [c0, c1, c2, c3, c4], _ =>
    match xs, hlen with
    | [y0, y1, y2, y3, y4], _ =>
      have h0 := hf 0 _ rfl
      have h1 := hf 1 _ rfl
      have h2 := hf 2 _ rfl
      have h3 := hf 3 _ rfl
      have h4 := hf 4 _ rfl
      simp [cells3] at h0 h1 h2 h3 h4
      obtain ⟨n0, rfl⟩ := int_of ⟨_, _, h0⟩
      obtain ⟨n1, rfl⟩ := int_of ⟨_, _, h1⟩
      obtain ⟨n2, rfl⟩ := int_of ⟨_, _, h2⟩
      obtain ⟨n3, rfl⟩ := int_of ⟨_, _, h3⟩
      obtain ⟨n4, rfl⟩ := int_of ⟨_, _, h4⟩
      exact ⟨⟨n0, n1, n2, n3, n4⟩, rfl⟩
/- Rows out of their elements. -/
theorem list_of {α β : Type} {R : α → β → Prop} : ∀ (l : List α), (∀ a ∈ l, ∃ b, R a b) → ∃ m : List β, m.length = l.length ∧ ∀ (j : Nat) (a : α), l[j]? = some a → ∃ b, m[j]? = some b ∧ R a b
  | [], _ => ⟨[], rfl, fun j a e => by simp at e⟩
  | a :: l, h => by
    obtain ⟨b, hb⟩ := h a (by simp)
    obtain ⟨m, hm, hr⟩ := list_of l (fun x hx => h x (by simp [hx]))
    refine ⟨b :: m, by simp [hm], fun j x e => ?_⟩
    cases j with
    | zero => simp at e; subst e; exact ⟨b, rfl, hb⟩
    | succ j => simp at e; exact hr j x e
theorem at_of {α β : Type} {l : List α} {m : List β} (h : m.length = l.length) {j : Nat} {b : β} (e : m[j]? = some b) : ∃ a, l[j]? = some a := by
  have := (List.getElem?_eq_some_iff.1 e).1
  exact ⟨l[j]'(by omega), by rw [List.getElem?_eq_getElem]⟩

theorem ord_of {a : Option Addr} {n cap : Nat} (h : TrdT enc W 27 [.slice a n cap]) : ∃ ops : List Opx, n = ops.length ∧ n ≤ 9223372036854775807 ∧ ORd W a ops := by
  obtain ⟨rows, hl, hrd, hel, hn, hc⟩ := rows_of Try.underlying27 cells36 (by omega) h
  obtain ⟨ts, hm, hr⟩ := list_of (R := fun r (t : Opx) => r = t.cs.toList) rows (fun r hr => by
    obtain ⟨h1, h2⟩ := hel r hr
    exact op_of h1 h2)
  refine ⟨ts, by omega, hn, fun j t e => ?_⟩
  obtain ⟨r, hrr⟩ := at_of hm e
  obtain ⟨t', e', rfl⟩ := hr j r hrr
  rw [e] at e'; cases e'
  obtain ⟨b, off, rfl, _, hcell⟩ := hrd j _ hrr
  exact ⟨b, off, rfl, fun i hi => by rw [hcell i hi]; simp⟩
end
end Go.Proofs.Ytkkcbabhccfllaa

