/- Steps$1, areSteps, Steps. -/
import Derived.Test.YtkkcbabhccfllaaJAD
import Derived.ProofKit
import Derived.OpenShut
import Derived.ChangeOld
import Derived.ChangeSlices
import Derived.ChangeMaps5
import Derived.ChangeAt
import Derived.Below
import Derived.Deep.Slices
namespace Go.Proofs.Ytkkcbabhccfllaa
open Go.RowKit Go.Deep Go.Shelf
set_option linter.unusedVariables false
set_option linter.unusedSimpArgs false
theorem ways_at (W : World) (Fb : Nat) (a : Option Addr) (n c i : Nat) (L : List Nat) (c1 : W.cell? ⟨Fb, 1, none⟩ = some (.slice a n c)) (K : Calls Try.prog 24 #[.slice a n c, .int .i64 (i : Int)] W fun e w' => ∃ a' c', e = .returned (.slice a' L.length c') ∧ GRow w' W.heap.size a' L.length c' (ofN L) ∧ Below W.heap.size W w') :
    Calls Try.prog 23 #[.int .i64 (i : Int), .pointer (some ⟨Fb, 0, none⟩)] W fun e W' => ∃ a' c', e = .returned (.slice a' L.length c') ∧ GRow W' W.heap.size a' L.length c' (ofN L) ∧ Below W.heap.size W W' := by
  have HK := hid K
  clear K
  go_enter Try.func23, Try.ntmps23
  go_wp2_with (go_at_call 24; (refine (Hid.out HK).mono ?_; rintro e w1 ⟨a', c', rfl, hg, hb1⟩; have HG := hid hg; have HB := hid hb1; clear hg hb1))
  go_ret
  exact ⟨a', c', rfl, HG.out, HB.out⟩
theorem ways23 (w0 : World) (Fb : Nat) (regs : Int) (a : Option Addr) (n c : Nat) (ops : List Opx) (hbox : w0.heap[Fb]? = some (.cells #[.int .i64 regs, .slice a n c] 29 (0, 0))) (hn : n = ops.length) (hnb : n ≤ 1000000) (hr : ORd w0 a ops) (hok : okSt ops = true) : Ways23 w0 ops.length Fb (stepW ops) := fun W i hb hi => by
  have ho : ops[i]? = some ops[i] := List.getElem?_eq_getElem hi
  have K := followers_any W a n c ops hn hnb (hr.below hb) i ops[i] ho
  obtain ⟨e1, e2⟩ := stepW_ofN hok ho
  rw [← hn] at e1 e2
  rw [← e2, ← e1] at K
  exact ways_at W Fb a n c i (stepW ops i) (cellOf ((hb.block Fb (lt_of_heap hbox)).trans hbox) 1) K
set_option maxRecDepth 100000 in
set_option maxHeartbeats 1000000 in
theorem areSteps_any (w : World) (a : Option Addr) (n c : Nat) (ops : List Opx) (hn : n = ops.length) (hnb : n ≤ 1000000) (hr : ORd w a ops) : Calls Try.prog 22 #[.slice a n c] w fun e w' => e = .returned (.bool (okSt ops)) ∧ Below w.heap.size w w' := by
  have hnI : (n : Int) ≤ 1000000 := by omega
  have hn0 : (0 : Int) ≤ (n : Int) := by omega
  have HN := hid hn
  have HR := hid hr
  clear hn hr
  go_enter Try.func22, Try.ntmps22
  go_wp2
  go_loopg [7] n (fun g x wr => ∃ j : Nat, j + g = n ∧ x = .int .i64 (j : Int) ∧ (ops.take j).all (okO n) = true ∧ Below w.heap.size w wr)
  case atStart => exact ⟨0, by omega, rfl, by simp, Below.refl _ _⟩
  case round =>
    obtain ⟨j, hj, rfl, hp, hb⟩ := hrel
    cases gk with
    | zero =>
      have hjn : j = n := by omega
      subst hjn
      have HP : Hid (okSt ops = decide (0 < j)) := hid (by
        unfold okSt
        rw [HN.out, List.take_of_length_le (Nat.le_refl _)] at hp
        rw [hp, HN.out]; simp)
      have HB := hid hb
      clear hp hb
      go_wp2
      go_ret
      exact ⟨by rw [HP.out]; rfl, HB.out⟩
    | succ g =>
      obtain ⟨o, ho⟩ : ∃ o, ops[j]? = some o := ⟨ops[j]'(by have := HN.out; omega), List.getElem?_eq_getElem _⟩
      obtain ⟨b, off, rfl, hc⟩ := (HR.out.below hb) j o ho
      have ht : ops.take (j + 1) = ops.take j ++ [o] := by rw [List.take_add_one, ho]; rfl
      have hno : okO n o = false → okSt ops = false := fun h => by
        refine Bool.eq_false_iff.2 fun hk => ?_
        have := okSt_at hk ho
        rw [← HN.out, h] at this; cases this
      obtain ⟨oc, od, oa, ob, ok⟩ := o
      have c0 := hc 0 (by omega)
      have c1 := hc 1 (by omega)
      have c2 := hc 2 (by omega)
      have c3 := hc 3 (by omega)
      have c4 := hc 4 (by omega)
      simp only [Opx.cs, List.getElem?_toArray, List.getElem?_cons_zero, List.getElem?_cons_succ, Nat.add_zero] at c0 c1 c2 c3 c4
      have hjI : (j : Int) < (n : Int) := by omega
      have hj0 : (0 : Int) ≤ (j : Int) := by omega
      obtain ⟨W0, hW0⟩ : ∃ W0, W0 = wr.alloc (.cells #[.int .i64 oc, .int .i64 od, .int .i64 oa, .int .i64 ob, .int .i64 ok] 36) := ⟨_, rfl⟩
      have K := hid (isJump_any W0 oc od oa ob ok)
      have m0 : W0.heap[wr.heap.size]? = some (.cells #[.int .i64 oc, .int .i64 od, .int .i64 oa, .int .i64 ob, .int .i64 ok] 36 (0, 0)) := by rw [hW0]; exact heap_alloc_new _ _
      have bw0 : Below w.heap.size w W0 := by rw [hW0]; exact hb.trans ((Below.refl _ _).alloc hb.size _)
      have CB := hid (fun (v : World) (hv : Below W0.heap.size W0 v) => (by
        have h := (hv.block wr.heap.size (lt_of_heap m0)).trans m0
        exact ⟨cellOf h 0, cellOf h 1, cellOf h 2, cellOf h 3, cellOf h 4⟩ : v.cell? ⟨wr.heap.size, 0, none⟩ = some (.int .i64 oc) ∧ v.cell? ⟨wr.heap.size, 1, none⟩ = some (.int .i64 od) ∧ v.cell? ⟨wr.heap.size, 2, none⟩ = some (.int .i64 oa) ∧ v.cell? ⟨wr.heap.size, 3, none⟩ = some (.int .i64 ob) ∧ v.cell? ⟨wr.heap.size, 4, none⟩ = some (.int .i64 ok)))
      have BW := hid (fun (v : World) (hv : Below W0.heap.size W0 v) => bw0.trans (hv.mono bw0.size))
      have KW1 := hid (fun (v : World) => areWithin_any (v.alloc (.cells #[.int .i64 ok] 3)) (some ⟨v.heap.size, 0, none⟩) 1 1 [ok] rfl (by omega) (fun j x hx => by
        cases j with
        | zero => simp at hx; subst hx; exact ⟨_, 0, rfl, cellOf (heap_alloc_new v _) 0⟩
        | succ j => simp at hx) (n : Int))
      have BA := hid (fun (v v2 : World) (hv : Below w.heap.size w v) (h2 : Below (v.alloc (.cells #[.int .i64 ok] 3)).heap.size (v.alloc (.cells #[.int .i64 ok] 3)) v2) => hv.trans (((Below.refl _ v).alloc hv.size _).trans (h2.mono (by rw [World.size_alloc]; have := hv.size; omega))))
      obtain ⟨x0, x1, x2, x3, x4⟩ := CB.out W0 (Below.refl _ _)
      have HP := hid hp
      have HT := hid ht
      have HNO := hid hno
      clear m0 bw0 hp ht hno hc ho hb
      have hW0' := hid hW0
      cases hjb : jmpB ⟨oc, od, oa, ob, ok⟩ with
      | false =>
        rw [hjb] at K
        have HO : Hid (okO n ⟨oc, od, oa, ob, ok⟩ = true) := hid (by unfold okO; rw [hjb]; rfl)
        clear hjb KW1 BA
        go_upto_region 4 with fail
        rw [← hW0]
        clear hW0 hW0'
        go_wp2_with (first | (go_at_call 29; (refine (Hid.out K).mono ?_; rintro e w1 ⟨rfl, hb1⟩; have HB1 := hid (BW.out w1 hb1); clear hb1 x0 x1 x2 x3 x4)))
        go_roundg g
        case measure => omega
        exact ⟨j + 1, by omega, by go_num, by rw [HT.out, List.all_append, HP.out]; simp [HO.out], HB1.out⟩
      | true =>
        rw [hjb] at K
        have hok2 : okO n ⟨oc, od, oa, ob, ok⟩ = wthB (n : Int) [ok] := by unfold okO wthB; rw [hjb]; simp
        clear hjb
        cases hwt : wthB (n : Int) [ok] with
        | true =>
          rw [hwt] at KW1 hok2
          have HO := hid hok2
          clear hok2 hwt
          go_upto_region 4 with fail
          rw [← hW0]
          clear hW0 hW0'
          go_wp2_with (first | (go_at_call 29; (refine (Hid.out K).mono ?_; rintro e w1 ⟨rfl, hb1⟩; obtain ⟨d0, d1, d2, d3, d4⟩ := CB.out w1 hb1; have HB1 := hid (BW.out w1 hb1); clear hb1 x0 x1 x2 x3 x4)) | (go_at_call 26; (refine (KW1.out w1).mono ?_; rintro e w2 ⟨rfl, hb2⟩; have HB2 := hid (BA.out w1 w2 HB1.out hb2); clear hb2)))
          go_roundg g
          case measure => omega
          exact ⟨j + 1, by omega, by go_num, by rw [HT.out, List.all_append, HP.out]; simp [HO.out], HB2.out⟩
        | false =>
          rw [hwt] at KW1 hok2
          have HO := hid (HNO.out hok2)
          clear hok2 hwt
          go_upto_region 4 with fail
          rw [← hW0]
          clear hW0 hW0'
          go_wp2_with (first | (go_at_call 29; (refine (Hid.out K).mono ?_; rintro e w1 ⟨rfl, hb1⟩; obtain ⟨d0, d1, d2, d3, d4⟩ := CB.out w1 hb1; have HB1 := hid (BW.out w1 hb1); clear hb1 x0 x1 x2 x3 x4)) | (go_at_call 26; (refine (KW1.out w1).mono ?_; rintro e w2 ⟨rfl, hb2⟩; have HB2 := hid (BA.out w1 w2 HB1.out hb2); clear hb2)))
          go_ret
          exact ⟨by rw [HO.out]; rfl, HB2.out⟩
/- What Steps tells. -/
def StP (w : World) (ops : List Opx) (n : Nat) (bad : Int) (e : Ending) (w' : World) : Prop := Below w.heap.size w w' ∧
  ((okSt ops = true ∧ ∃ (P : List Nat) (b : Nat), e = .returned (.tuple #[.slice (some ⟨b, 0, none⟩) n n, .int .i64 0]) ∧ w.heap.size ≤ b ∧ w'.heap[b]? = some (.cells (mk n P) 4 (0, 0)) ∧ ∀ x, x < n → (x ∈ P ↔ Rch (stepW ops) x)) ∨
   (okSt ops = false ∧ e = .returned (.tuple #[.slice none 0 0, .int .i64 bad])))
set_option maxRecDepth 100000 in
set_option maxHeartbeats 1000000 in
theorem steps_any (w : World) (regs : Int) (a : Option Addr) (n c : Nat) (ops : List Opx) (hn : n = ops.length) (hnb : n ≤ 10000) (hr : ORd w a ops) : Calls Try.prog 13 #[.agg #[.int .i64 regs, .slice a n c]] w (StP w ops n 100) := by
  obtain ⟨W0, hW0⟩ : ∃ W0, W0 = w.alloc (.cells #[.int .i64 regs, .slice a n c] 29) := ⟨_, rfl⟩
  have bw0 : Below w.heap.size w W0 := by rw [hW0]; exact (Below.refl _ _).alloc (Nat.le_refl _) _
  have m0 : W0.heap[w.heap.size]? = some (.cells #[.int .i64 regs, .slice a n c] 29 (0, 0)) := by rw [hW0]; exact heap_alloc_new _ _
  have hnI : (n : Int) ≤ 10000 := by omega
  have K1 := hid (areSteps_any W0 a n c ops hn (by omega) (hr.below bw0))
  have CB := hid (fun (v : World) (hv : Below W0.heap.size W0 v) => (cellOf ((hv.block w.heap.size (lt_of_heap m0)).trans m0) 1 : v.cell? ⟨w.heap.size, 1, none⟩ = some (.slice a n c)))
  have BW := hid (fun (v : World) (hv : Below W0.heap.size W0 v) => bw0.trans (hv.mono bw0.size))
  have x1 := CB.out W0 (Below.refl _ _)
  cases hok : okSt ops with
  | false =>
    rw [hok] at K1
    have HO := hid hok
    clear m0 bw0 hr hn hok
    go_enter Try.func13, Try.ntmps13
    go_upto_region 1 with fail
    rw [← hW0]
    clear hW0
    go_wp2_with (first | (go_at_call 22; (refine (Hid.out K1).mono ?_; rintro e w1 ⟨rfl, hb1⟩; have HB1 := hid (BW.out w1 hb1); clear hb1 x1)))
    go_ret2
    exact ⟨HB1.out, .inr ⟨HO.out, rfl⟩⟩
  | true =>
    rw [hok] at K1
    have hn0 : 0 < ops.length := by unfold okSt at hok; simp at hok; omega
    have K2 := hid (fun (v : World) (hv : Below W0.heap.size W0 v) => met23_any v ops.length w.heap.size (stepW ops) hn0 (by omega) (stepW_len ops) (stepW_lt hok) (ways23 v w.heap.size regs a n c ops ((hv.block w.heap.size (lt_of_heap m0)).trans m0) hn (by omega) ((hr.below bw0).below hv) hok))
    rw [← hn] at K2
    have HO := hid hok
    clear m0 bw0 hr hn hok hn0
    go_enter Try.func13, Try.ntmps13
    go_upto_region 1 with fail
    rw [← hW0]
    clear hW0
    go_wp2_with (first | (go_at_call 22; (refine (Hid.out K1).mono ?_; rintro e w1 ⟨rfl, hb1⟩; have y1 := CB.out w1 hb1; have HB1 := hid hb1; have K2' := hid (K2.out w1 hb1); clear hb1 x1)) | (go_at_call 19; (refine (Hid.out K2').mono ?_; rintro e w2 ⟨rfl, ⟨P, hm2, hP⟩, hb2⟩; have HM2 := hid hm2; have HP2 := hid hP; have HB2 := hid hb2; clear hm2 hP hb2)))
    go_ret2
    have b1 := BW.out w1 HB1.out
    exact ⟨b1.trans (HB2.out.mono b1.size), .inl ⟨HO.out, P, w1.heap.size, rfl, b1.size, HM2.out, HP2.out⟩⟩
end Go.Proofs.Ytkkcbabhccfllaa

namespace Go.Proofs.Ytkkcbabhccfllaa
open Go.RowKit Go.Deep Go.Shelf
set_option linter.unusedVariables false
set_option linter.unusedSimpArgs false
/- Between two rounds of the second loop. -/
structure RS (w : World) (regs : Int) (a : Option Addr) (n c F0 OB : Nat) (P : List Nat) (wr : World) : Prop where
  b : Below w.heap.size w wr
  f : wr.heap[F0]? = some (.cells #[.int .i64 regs, .slice a n c] 29 (0, 0))
  s : wr.heap[OB]? = some (.cells (mk n P) 4 (0, 0))
theorem RS.below {w : World} {regs : Int} {a : Option Addr} {n c F0 OB : Nat} {P : List Nat} {wr w' : World} (h : RS w regs a n c F0 OB P wr) (k : Below wr.heap.size wr w') : RS w regs a n c F0 OB P w' :=
  ⟨h.b.trans (k.mono h.b.size), (k.block _ (lt_of_heap h.f)).trans h.f, (k.block _ (lt_of_heap h.s)).trans h.s⟩
theorem RS.set {w : World} {regs : Int} {a : Option Addr} {n c F0 OB x : Nat} {P : List Nat} {wr : World} (h : RS w regs a n c F0 OB P wr) (hx : x < n) (h1 : F0 ≠ OB) (h2 : w.heap.size ≤ OB) : RS w regs a n c F0 OB (P ++ [x]) (wr.setCell ⟨OB, x, none⟩ (.bool true)) :=
  ⟨h.b.setCell (p := ⟨OB, x, none⟩) h2 _, (Below.heap_setCell _ _ _ _ h1).trans h.f, by rw [heap_set_at h.s, mk_snoc P hx]⟩
theorem Gwn.keep {w w' : World} {a a' : Option Addr} {b : Nat} (h : Gwn w a w' a') (hb : b < w.heap.size) (hne : ∀ x : Addr, a = some x → x.block ≠ b) : w'.heap[b]? = w.heap[b]? := by
  obtain ⟨⟨row, hg, hr⟩, _⟩ := h
  refine hg.block b hb (fun e => ?_)
  obtain ⟨x, ex, hx⟩ := hr b e.symm
  exact hne x ex hx
end Go.Proofs.Ytkkcbabhccfllaa

namespace Go.Proofs.Ytkkcbabhccfllaa
open Go.RowKit Go.Deep Go.Shelf
set_option linter.unusedVariables false
set_option linter.unusedSimpArgs false
def BCd (w : World) (a : Option Addr) (l : List Blk) : Prop := ∀ (j : Nat) (x : Blk), l[j]? = some x → ∃ b off, a = some ⟨b, off, none⟩ ∧ ∀ i, i < 5 → w.cell? ⟨b, off + j * 5 + i, none⟩ = x.cs[i]?
def bcs (l : List Blk) : List Value := l.flatMap fun o => o.cs.toList
theorem bcs_len : ∀ l : List Blk, (bcs l).length = l.length * 5
  | [] => rfl
  | o :: l => by
    have := bcs_len l
    unfold bcs at this ⊢
    rw [List.flatMap_cons, List.length_append, this, List.length_cons]
    have : o.cs.toList.length = 5 := rfl
    omega
theorem bcs_app (l m : List Blk) : bcs (l ++ m) = bcs l ++ bcs m := by unfold bcs; rw [List.flatMap_append]
theorem bcs_get : ∀ (l : List Blk) (j : Nat) (o : Blk), l[j]? = some o → ∀ i, i < 5 → (bcs l)[j * 5 + i]? = o.cs[i]?
  | [], j, o, h => by simp at h
  | p :: l, 0, o, h => fun i hi => by
    simp at h; subst h
    unfold bcs
    rw [List.flatMap_cons, Nat.zero_mul, Nat.zero_add, List.getElem?_append_left (by show i < 5; exact hi)]
    simp
  | p :: l, j + 1, o, h => fun i hi => by
    have h1 : l[j]? = some o := by simpa using h
    have h2 := bcs_get l j o h1 i hi
    unfold bcs at h2 ⊢
    rw [List.flatMap_cons, List.getElem?_append_right (by show 5 ≤ (j + 1) * 5 + i; omega)]
    have : (j + 1) * 5 + i - p.cs.toList.length = j * 5 + i := by show (j + 1) * 5 + i - 5 = _; omega
    rw [this]; exact h2
theorem bcs_of {l : List Blk} {k : Nat} {u : Value} (h : (bcs l)[k]? = some u) : ∃ o i, l[k / 5]? = some o ∧ i < 5 ∧ k = k / 5 * 5 + i ∧ o.cs[i]? = some u := by
  have hk : k < l.length * 5 := by rw [← bcs_len]; exact (List.getElem?_eq_some_iff.1 h).1
  have hj : k / 5 < l.length := by omega
  refine ⟨l[k / 5], k % 5, List.getElem?_eq_getElem hj, by omega, by omega, ?_⟩
  rw [← bcs_get l (k / 5) _ (List.getElem?_eq_getElem hj) (k % 5) (by omega), show k / 5 * 5 + k % 5 = k by omega]
  exact h
theorem bcs_one (l : List Blk) : ∀ u ∈ bcs l, u.oneCell' = true := by
  intro u hu
  unfold bcs at hu
  obtain ⟨o, _, ho⟩ := List.mem_flatMap.1 hu
  simp [Blk.cs] at ho
  rcases ho with rfl | rfl | rfl | rfl | rfl <;> rfl
def BkO (w : World) (B : Nat) (v : Value) (l : List Blk) : Prop := w.ownsRow B 47 5 v l.length (bcs l)
theorem BkO.nil (w : World) (B : Nat) : BkO w B (.slice none 0 0) [] := ⟨rfl, .inl ⟨rfl, rfl⟩⟩
theorem BkO.keep {w w' : World} {B : Nat} {v : Value} {l : List Blk} (h : BkO w B v l) (e : ∀ g, v.ownBlock = some g → w'.heap[g]? = w.heap[g]?) : BkO w' B v l := by
  refine ⟨h.1, ?_⟩
  rcases h.2 with h2 | ⟨g, cap, cur, rfl, h3, h4, h5⟩
  · exact .inl h2
  · exact .inr ⟨g, cap, cur, rfl, h3, (e g rfl).trans h4, h5⟩
theorem BkO.own {w : World} {B : Nat} {v : Value} {l : List Blk} (h : BkO w B v l) {g : Nat} (e : v.ownBlock = some g) : B ≤ g ∧ g < w.heap.size := by
  rcases h.2 with ⟨rfl, _⟩ | ⟨g', cap, cur, rfl, h3, h4, h5⟩
  · cases e
  · cases e; exact ⟨h3, lt_of_heap h4⟩
theorem BkO.below {w w' : World} {B C : Nat} {v : Value} {l : List Blk} (h : BkO w B v l) (hC : w.heap.size ≤ C) (k : Below C w w') : BkO w' B v l := h.keep fun g e => k.block g (by have := (h.own e).2; omega)
theorem BkO.lower {w : World} {B C : Nat} {v : Value} {l : List Blk} (h : BkO w B v l) (hC : C ≤ B) : BkO w C v l := by
  refine ⟨h.1, ?_⟩
  rcases h.2 with h2 | ⟨g, cap, cur, rfl, h3, h4⟩
  · exact .inl h2
  · exact .inr ⟨g, cap, cur, rfl, by omega, h4⟩
theorem BkO.rd {w : World} {B : Nat} {v : Value} {l : List Blk} (h : BkO w B v l) : ∃ a cap, v = .slice a l.length cap ∧ BCd w a l ∧ (a = none → cap = 0) := by
  rcases h.2 with ⟨rfl, h2⟩ | ⟨g, cap, cur, rfl, h3, h4, h5, h6, h7, h8⟩
  · have : l = [] := List.eq_nil_of_length_eq_zero h2
    subst this
    exact ⟨none, 0, rfl, fun j x hx => by simp at hx, fun _ => rfl⟩
  · refine ⟨_, cap, rfl, fun j x hx => ⟨g, 0, rfl, fun i hi => ?_⟩, fun e => by cases e⟩
    have hj := (List.getElem?_eq_some_iff.1 hx).1
    rw [cellOf h4, ← bcs_get l j x hx i hi, ← h8, List.getElem?_take, if_pos (by omega), Nat.zero_add]
    simp
theorem info47 : (Try.prog.info? 47).map (fun i => (i.zero, i.size, i.bytes)) = some (some (.agg #[.slice none 0 0, .int .i64 0, .int .i64 0, .int .i64 0, .int .i64 0]), 5, 56) := by kernel_rfl
/- A row of one, just laid. -/
theorem BkO.one (w : World) (o : Blk) : BkO (w.alloc (.cells o.cs 47)) w.heap.size (.slice (some ⟨w.heap.size, 0, none⟩) 1 1) [o] := by
  refine ⟨rfl, .inr ⟨w.heap.size, 1, o.cs, rfl, Nat.le_refl _, heap_alloc_new w _, Nat.le_refl _, by unfold maxLen; omega, rfl, ?_⟩⟩
  show o.cs.toList.take 5 = bcs [o]
  rfl
theorem run_appK (w : World) (ty : TypeId) (B : Nat) (v : Value) (l : List Blk) (h : BkO w B v l) (a : Option Addr) (m c : Nat) (l2 : List Blk) (hm : m = l2.length) (hr : BCd w a l2) (hnil : a = none → c = 0) (hl : l.length ≤ 1000000) (hl2 : m ≤ 1000000) (hB : B ≤ w.heap.size) :
    ∃ v' w', (Builtin.append_ #[22, 22] ty #[v, .slice a m c]).run Try.prog w = .ok v' w' ∧ BkO w' B v' (l ++ l2) ∧ w.grownBy w' v.ownBlock ∧ (v'.ownBlock = v.ownBlock ∨ v'.ownBlock = some w.heap.size) := by
  obtain ⟨i0, hi, hz0, hz1, hz2⟩ := info_parts info47
  cases a with
  | none =>
    have hc0 := hnil rfl
    have hl0 : l2 = [] := by
      cases l2 with
      | nil => rfl
      | cons o r => obtain ⟨b, off, e, _⟩ := hr 0 o rfl; cases e
    subst hl0
    subst hc0
    have hm0 : m = 0 := hm
    subst hm0
    exact ⟨v, w, run_append_owned_none w B 22 ty 47 i0 5 Try.underlying22 hi v l.length (bcs l) h, by rw [List.append_nil]; exact h, ⟨rfl, rfl, rfl, Nat.le_refl _, fun _ _ _ => rfl⟩, .inl rfl⟩
  | some ad =>
    have hcell : ∀ k u, (bcs l2)[k]? = some u → w.cell? (ad.add k) = some u := by
      intro k u hu
      obtain ⟨o, i, ho, hi5, hk, hu'⟩ := bcs_of hu
      obtain ⟨b, off, e, hc⟩ := hr (k / 5) o ho
      cases e
      have := hc i hi5
      rw [hu'] at this
      rw [Addr.add_lit, hk, ← Nat.add_assoc]
      exact this
    obtain ⟨v', w', hrun, hown, hgr, _, hat⟩ := run_append_own_at (P := Try.prog) w B 22 ty 47 i0 _ 5 56 Try.underlying22 hi hz0 hz1 hz2 rfl (by decide) v l.length (bcs l) h ad m c (bcs l2) (by rw [bcs_len, hm]) hcell (bcs_one l2) (by unfold maxLen; omega) (by omega) hB
    refine ⟨v', w', hrun, ?_, hgr, hat⟩
    unfold BkO
    rw [List.length_append, ← hm, bcs_app]
    exact hown
theorem wpList_appK {ops : Array Oper} {rest : List Oper} {o : Oper} {act : Act} {Q : Exit → Act → World → Prop} (w : World) (hgd : o.guard = none) (s x : Operand)
    (ho : o.op = .call { callee := .builtin .append, args := #[s, x], argTypes := #[22, 22] }) (v u : Value) (hs : act.eval s = v) (hx : act.eval x = u) (B : Nat) (l : List Blk) (h : BkO w B v l) (a : Option Addr) (m c : Nat) (hu : u = .slice a m c) (l2 : List Blk) (hm : m = l2.length) (hr : BCd w a l2) (hnil : a = none → c = 0) (hl : l.length ≤ 1000000) (hl2 : m ≤ 1000000) (hB : B ≤ w.heap.size)
    (k : ∀ v' w', BkO w' B v' (l ++ l2) → w.grownBy w' v.ownBlock → (v'.ownBlock = v.ownBlock ∨ v'.ownBlock = some w.heap.size) → wpList Try.prog ops Q rest (act.put o.dst v') w') :
    wpList Try.prog ops Q (o :: rest) act w := by
  refine wpList_plain hgd fun K hK => ?_
  subst hu
  obtain ⟨v', w', hrun, h2, h3, h4⟩ := run_appK w o.type B v l h a m c l2 hm hr hnil hl hl2 hB
  unfold Oper.wp execOp
  simp only [ho, resolve, invoke, builtin, Sem.run_bind, Sem.run_pure, Result.andThen_ok, List.map_toArray, List.map_cons, List.map_nil, hs, hx, hrun]
  exact hK _ _ (k v' w' h2 h3 h4)
theorem grown_belowK {w w' : World} {B : Nat} {v : Value} {l : List Blk} (h : BkO w B v l) (k : w.grownBy w' v.ownBlock) (hB : B ≤ w.heap.size) : Below B w w' :=
  ⟨k.os, k.tape, k.output, k.size, fun j hj => k.block j (by omega) (fun e => by have := (h.own e.symm).1; omega)⟩
def fiveK (w : World) (b : Nat) (x : Blk) : World := ((((w.setCell ⟨b, 0, none⟩ (.slice x.oa x.on x.oc)).setCell ⟨b, 1, none⟩ (.int .i64 x.en)).setCell ⟨b, 2, none⟩ (.int .i64 x.a)).setCell ⟨b, 3, none⟩ (.int .i64 x.tt)).setCell ⟨b, 4, none⟩ (.int .i64 x.el)
theorem fiveK_new {w : World} {b : Nat} {y : Blk} (h : w.heap[b]? = some (.cells y.cs 47 (0, 0))) (x : Blk) : (fiveK w b x).heap[b]? = some (.cells x.cs 47 (0, 0)) := by
  have h1 := heap_set_at (heap_set_at (heap_set_at (heap_set_at (heap_set_at h 0 (.slice x.oa x.on x.oc)) 1 (.int .i64 x.en)) 2 (.int .i64 x.a)) 3 (.int .i64 x.tt)) 4 (.int .i64 x.el)
  simp only [Blk.cs, List.setIfInBounds_toArray, List.set_cons_zero, List.set_cons_succ] at h1
  exact h1
theorem fiveK_below {B : Nat} {w0 w : World} (hb : Below B w0 w) {b : Nat} (hB : B ≤ b) (x : Blk) : Below B w0 (fiveK w b x) := by
  unfold fiveK
  exact ((((hb.setCell hB _).setCell hB _).setCell hB _).setCell hB _).setCell hB _
theorem fiveK_size (w : World) (b : Nat) (x : Blk) : (fiveK w b x).heap.size = w.heap.size := by simp [fiveK, World.setCell]
end Go.Proofs.Ytkkcbabhccfllaa

namespace Go.Proofs.Ytkkcbabhccfllaa
open Go.RowKit Go.Deep Go.Shelf
set_option linter.unusedVariables false
set_option linter.unusedSimpArgs false
structure FR (w : World) (n : Nat) (back : Int) (GB i : Nat) (a : Option Addr) (m c : Nat) (bs : List Blk) (wr : World) : Prop where
  b : Below w.heap.size w wr
  g : wr.heap[GB]? = some (.cells #[.int .i64 1, .slice a m c] 24 (0, 0))
  r : BkO wr (GB + 1) (.slice a m c) bs
  l : bs.length = i
  w : RwL n back bs
  o : ∀ b ∈ bs, ∃ g, b.oa = some ⟨g, 0, none⟩ ∧ b.on = 1 ∧ wr.heap[g]? = some (.cells o35.cs 36 (0, 0)) ∧ Value.ownBlock (.slice a m c) ≠ some g ∧ GB < g
theorem FR.rd {w : World} {n : Nat} {back : Int} {GB i : Nat} {a : Option Addr} {m c : Nat} {bs : List Blk} {wr : World} (h : FR w n back GB i a m c bs wr) : BRd wr a bs ∧ m = bs.length := by
  obtain ⟨a', c', e, h1, _⟩ := h.r.rd
  injection e with e1 e2 e3
  subst e1
  refine ⟨⟨h1, fun b hb => ?_⟩, e2⟩
  obtain ⟨i', hi'⟩ := List.getElem?_of_mem hb
  have ho := (h.w i' b hi').ops
  obtain ⟨g, h2, h3, h4, _⟩ := h.o b hb
  refine ⟨by rw [ho, h3]; rfl, by omega, ?_⟩
  rw [ho, h2]
  intro j x hx
  cases j with
  | zero =>
    have : x = o35 := by simpa using hx.symm
    subst this
    exact ⟨g, 0, rfl, fun k hk => by rw [cellOf h4]; simp⟩
  | succ j => simp at hx
theorem FR.step {w : World} {n : Nat} {back : Int} {GB i : Nat} {a : Option Addr} {m c : Nat} {bs : List Blk} {wr Wf w7 : World} (h : FR w n back GB i a m c bs wr) (hGB : w.heap.size ≤ GB) {b : Blk} {R : Nat} (hb : Below wr.heap.size wr Wf) (hoa : b.oa = some ⟨R, 0, none⟩) (hon : b.on = 1) (hR : wr.heap.size ≤ R) (hm : Wf.heap[R]? = some (.cells o35.cs 36 (0, 0))) (hw : RwB n back i b)
    {a7 : Option Addr} {m7 c7 : Nat} (ho : BkO w7 (GB + 1) (.slice a7 m7 c7) (bs ++ [b])) (hg : (Wf.alloc (.cells b.cs 47)).grownBy w7 (Value.ownBlock (.slice a m c))) (hn : Value.ownBlock (.slice a7 m7 c7) = Value.ownBlock (.slice a m c) ∨ Value.ownBlock (.slice a7 m7 c7) = some (Wf.alloc (.cells b.cs 47)).heap.size) : FR w n back GB (i + 1) a7 m7 c7 (bs ++ [b]) (w7.setCell ⟨GB, 1, none⟩ (.slice a7 m7 c7)) := by
  have hGl := lt_of_heap h.g
  have hbA : Below wr.heap.size wr (Wf.alloc (.cells b.cs 47)) := hb.trans ((Below.refl _ _).alloc hb.size _)
  have hr' : BkO (Wf.alloc (.cells b.cs 47)) (GB + 1) (.slice a m c) bs := h.r.below (Nat.le_refl _) hbA
  have h7 : Below (GB + 1) (Wf.alloc (.cells b.cs 47)) w7 := grown_belowK hr' hg (by have := hbA.size; omega)
  have h17 : Below (GB + 1) wr w7 := (hbA.mono (by omega)).trans h7
  have hg7 : w7.heap[GB]? = some (.cells #[.int .i64 1, .slice a m c] 24 (0, 0)) := (h17.block GB (by omega)).trans h.g
  have hne : ∀ g, GB < g → (w7.setCell ⟨GB, 1, none⟩ (.slice a7 m7 c7)).heap[g]? = w7.heap[g]? := fun g hg' => Below.heap_setCell _ _ _ _ (by show g ≠ GB; omega)
  have hRl := lt_of_heap hm
  refine ⟨(h.b.trans (h17.mono (by omega))).setCell (p := ⟨GB, 1, none⟩) hGB _, heap_set_at hg7 1 _, ho.keep (fun g e => hne g (by have := (ho.own e).1; omega)), by rw [List.length_append, h.l]; rfl, h.w.snoc (by rw [h.l]; exact hw), ?_⟩
  intro b' hb'
  rcases List.mem_append.1 hb' with hb' | hb'
  · obtain ⟨g, h1, h2, h3, h4, h5⟩ := h.o b' hb'
    have hgl := lt_of_heap h3
    refine ⟨g, h1, h2, ?_, ?_, h5⟩
    · rw [hne g h5]
      exact (hg.block g (by have := hbA.size; omega) (fun e => h4 e.symm)).trans ((hbA.block g hgl).trans h3)
    · intro e
      rcases hn with hn | hn
      · exact h4 (hn.symm.trans e)
      · rw [hn, World.size_alloc] at e
        cases e
        have := hb.size
        omega
  · obtain rfl : b' = b := by simpa using hb'
    have hnr : Value.ownBlock (.slice a m c) ≠ some R := fun e => by have := (h.r.own e).2; omega
    refine ⟨R, hoa, hon, ?_, ?_, by omega⟩
    · rw [hne R (by omega)]
      exact (hg.block R (by rw [World.size_alloc]; omega) (fun e => hnr e.symm)).trans ((Below.heap_alloc _ _ _ hRl).trans hm)
    · intro e
      rcases hn with hn | hn
      · exact hnr (hn.symm.trans e)
      · rw [hn, World.size_alloc] at e
        cases e
        omega
end Go.Proofs.Ytkkcbabhccfllaa

namespace Go.Proofs.Ytkkcbabhccfllaa
open Go.RowKit Go.Deep Go.Shelf
set_option linter.unusedVariables false
set_option linter.unusedSimpArgs false
theorem BkO.rdm {w : World} {B : Nat} {v : Value} {l : List Blk} (h : BkO w B v l) : ∃ a m cap, v = .slice a m cap ∧ Hid (m = l.length) := by
  obtain ⟨a, cap, e, h1, h2⟩ := h.rd
  exact ⟨a, l.length, cap, e, hid rfl⟩
theorem BCd.one (w : World) (b : Blk) : BCd (w.alloc (.cells b.cs 47)) (some ⟨w.heap.size, 0, none⟩) [b] := by
  intro j x hx
  cases j with
  | zero =>
    have : x = b := by simpa using hx.symm
    subst this
    exact ⟨w.heap.size, 0, rfl, fun i hi => by rw [cellOf (heap_alloc_new w _)]; simp⟩
  | succ j => simp at hx
set_option maxRecDepth 100000 in
set_option maxHeartbeats 2000000 in
theorem flowRows_any (w : World) (nn back : Int) : Calls Try.prog 5 #[.int .i64 nn, .int .i64 back] w fun e w' => e = .returned (.bool true) ∧ Below w.heap.size w w' := by
  have K1 := hid (known_any w)
  by_cases hr : 1 ≤ nn ∧ nn ≤ 60 ∧ -1 ≤ back ∧ back < nn
  · obtain ⟨h1, h60, hb0, hb1⟩ := hr
    obtain ⟨n, rfl⟩ : ∃ n : Nat, nn = (n : Int) := ⟨nn.toNat, by omega⟩
    have q1 : ¬ (n : Int) < 1 := by omega
    have q2 : ¬ (60 : Int) < (n : Int) := by omega
    have q3 : ¬ back < -1 := by omega
    have q4 : ¬ (n : Int) ≤ back := by omega
    go_enter Try.func5, Try.ntmps5
    go_upto_region 6 with (go_at_call 6; (refine (Hid.out K1).mono ?_; rintro e w1 ⟨rfl, hb1'⟩; have HB1 := hid hb1'; clear hb1'))
    obtain ⟨GB, hGB⟩ : ∃ GB, GB = w1.heap.size := ⟨_, rfl⟩
    obtain ⟨W0, hW0⟩ : ∃ W0, W0 = w1.alloc (.cells #[.int .i64 1, .slice none 0 0] 24) := ⟨_, rfl⟩
    have b0 : Below w1.heap.size w1 W0 := by rw [hW0]; exact (Below.refl _ _).alloc (Nat.le_refl _) _
    have m0 : W0.heap[GB]? = some (.cells #[.int .i64 1, .slice none 0 0] 24 (0, 0)) := by rw [hW0, hGB]; exact heap_alloc_new _ _
    have HS : Hid (FR w n back GB 0 none 0 0 [] W0) := hid ⟨HB1.out.trans (b0.mono HB1.out.size), m0, BkO.nil _ _, rfl, fun i b hb => by simp at hb, fun b hb => by simp at hb⟩
    have hGw : w.heap.size ≤ GB := by rw [hGB]; exact HB1.out.size
    rw [← hGB, ← hW0]
    clear hGB hW0 b0 m0 HB1 K1
    go_wp2
    go_loopg [6] n (fun g x wr => ∃ (i : Nat) (a : Option Addr) (m c : Nat) (bs : List Blk), i + g = n ∧ x = .int .i64 (i : Int) ∧ FR w n back GB i a m c bs wr)
    case atStart => exact ⟨0, none, 0, 0, [], by omega, rfl, HS.out⟩
    case round =>
      obtain ⟨i, a, m, c, bs, hi, rfl, hF⟩ := hrel
      cases gk with
      | zero =>
        have hin : i = n := by omega
        subst hin
        obtain ⟨hrd, hm⟩ := hF.rd
        have rws : Rws i back bs := ⟨hF.w, hF.l, by omega, by omega, hb0, hb1⟩
        have hmi : m = i := by rw [hm, hF.l]
        subst hmi
        have htot := rw_total rws
        have hT : (layA 0 bs).length ≤ 100000 := by rw [htot]; split <;> omega
        have hT2 : (layA 0 bs).length ≤ 1000 := by rw [htot]; split <;> omega
        have hlb : (layB bs).length = (layA 0 bs).length := by unfold layB; rw [List.length_map]
        have hnl : ∀ b ∈ bs, b.oa = none → b.oc = 0 := fun b hb e => by
          obtain ⟨g, h1, _⟩ := hF.o b hb
          rw [h1] at e; cases e
        have hig := rw_isG rws
        have hst := rw_st rws
        have K8 := hid (fn_any wr 1 a m c bs hm (by omega) hrd hnl hT)
        have K10 := hid (fun (v : World) (hv : Below wr.heap.size wr v) => reached_any v 1 a m c bs hm (by omega) (hrd.below hv))
        have K13 := hid (fun (v : World) (a2 : Option Addr) (m2 c2 : Nat) (hm2 : m2 = (layB bs).length) (h2 : ORd v a2 (layB bs)) => steps_any v 1 a2 m2 c2 (layB bs) hm2 (by omega) h2)
        have GBC := hid (fun (v : World) (hv : Below wr.heap.size wr v) => (⟨cellOf ((hv.block GB (lt_of_heap hF.g)).trans hF.g) 0, cellOf ((hv.block GB (lt_of_heap hF.g)).trans hF.g) 1⟩ : v.cell? ⟨GB, 0, none⟩ = some (.int .i64 1) ∧ v.cell? ⟨GB, 1, none⟩ = some (.slice a m c)))
        have RCH := hid (fun (x : Nat) (hx : x < m) => rw_rch rws hx)
        have HIG := hid hig
        have HST := hid hst
        have HTOT : Hid (∀ m2 : Nat, m2 = (layB bs).length → (m2 : Int) = if 0 ≤ back ∧ back < (m : Int) - 1 then (m : Int) + 2 else (m : Int) + 1) := hid fun m2 e => by rw [e, hlb, htot]; split <;> simp
        have HBW := hid hF.b
        obtain ⟨x0, x1⟩ := GBC.out wr (Below.refl _ _)
        have hmI : (m : Int) ≤ 60 := by omega
        have hm1 : (1 : Int) ≤ (m : Int) := by omega
        clear hrd hm rws htot hT hT2 hlb hnl hig hst hF HS hi
        go_upto_region 16 with (go_at_call 8; (refine (Hid.out K8).mono ?_; rintro e w2 ⟨hb2, (⟨_, v2, rfl, ho2⟩ | ⟨hf, _⟩)⟩; rotate_left; (rw [HIG.out] at hf; cases hf); obtain ⟨a2, m2, c2, rfl, Hm2, hrd2, _⟩ := ho2.rdm; have HB2 := hid hb2; have HRD2 := hid hrd2; clear ho2 hrd2 hb2 x0 x1))
        obtain ⟨Y, hY⟩ : ∃ Y, Y = w2.heap.size := ⟨_, rfl⟩
        obtain ⟨W3, hW3⟩ : ∃ W3, W3 = w2.alloc (.cells #[.int .i64 1, .slice a2 m2 c2] 29) := ⟨_, rfl⟩
        have b3 : Below w2.heap.size w2 W3 := by rw [hW3]; exact (Below.refl _ _).alloc (Nat.le_refl _) _
        have m3 : W3.heap[Y]? = some (.cells #[.int .i64 1, .slice a2 m2 c2] 29 (0, 0)) := by rw [hW3, hY]; exact heap_alloc_new _ _
        have b13 : Below wr.heap.size wr W3 := HB2.out.trans (b3.mono HB2.out.size)
        have K10' := hid (K10.out W3 b13)
        obtain ⟨y0, y1⟩ := GBC.out W3 b13
        have YC := hid (fun (v : World) (hv : Below W3.heap.size W3 v) => (⟨cellOf ((hv.block Y (lt_of_heap m3)).trans m3) 0, cellOf ((hv.block Y (lt_of_heap m3)).trans m3) 1⟩ : v.cell? ⟨Y, 0, none⟩ = some (.int .i64 1) ∧ v.cell? ⟨Y, 1, none⟩ = some (.slice a2 m2 c2)))
        have RD4 := hid (fun (v : World) (hv : Below W3.heap.size W3 v) => (HRD2.out.below b3).below hv)
        have HB3 := hid (HBW.out.trans (b13.mono HBW.out.size))
        have hm2I := HTOT.out m2 Hm2.out
        have hm2b : (m2 : Int) ≤ 100 := by rw [hm2I]; split <;> omega
        have Hm2I := hid hm2I
        rw [← hY, ← hW3]
        clear hY hW3 b3 m3 b13 K8 K10 HB2 HRD2 hm2I GBC
        go_upto_region 20 with (first
          | (go_at_call 10; (refine (Hid.out K10').mono ?_; rintro e w4 ⟨hb4, (⟨_, P, b4, rfl, _, hm4, hP⟩ | ⟨hf, _⟩)⟩; rotate_left; (rw [HIG.out] at hf; cases hf); obtain ⟨p0, p1⟩ := YC.out w4 hb4; have HM4 := hid hm4; have HP4 := hid hP; have HB4 := hid hb4; have K13' := hid (K13.out w4 a2 m2 c2 Hm2.out (RD4.out w4 hb4)); clear hb4 hm4 hP y0 y1))
          | (go_at_call 13; (refine (Hid.out K13').mono ?_; rintro e w5 ⟨hb5', (⟨_, Q, b5, rfl, _, _, _⟩ | ⟨hf, _⟩)⟩; rotate_left; (rw [HST.out] at hf; cases hf); have hb5 := HB4.out.trans (hb5'.mono HB4.out.size); obtain ⟨r0, r1⟩ := YC.out w5 hb5; have HM5 := hid ((hb5'.block _ (lt_of_heap HM4.out)).trans HM4.out); have HB5 := hid hb5; clear hb5 hb5' p0 p1)))
        have HBF := hid (HB3.out.trans (HB5.out.mono HB3.out.size))
        clear K10' K13 K13' YC RD4 HB3 HB4 HM4 HTOT
        go_wp2
        go_loopg [14] m (fun g x wr2 => ∃ j : Nat, j + g = m ∧ x = .int .i64 (j : Int) ∧ wr2 = w5)
        case atStart => exact ⟨0, by omega, rfl, rfl⟩
        case round =>
          obtain ⟨j, hj, rfl, rfl⟩ := hrel
          cases gk with
          | zero =>
            have hjm : j = m := by omega
            subst hjm
            by_cases hw : 0 ≤ back ∧ back < (j : Int) - 1
            · have hm2e : (m2 : Int) = (j : Int) + 2 := by rw [Hm2I.out, if_pos hw]
              have hw1 := hw.1
              have hw2 := hw.2
              have hm2B : ((m2 : Int) == (j : Int) + 2) = true := by simpa using hm2e
              clear hm2e hw
              go_wp2
              go_ret
              exact ⟨rfl, HBF.out⟩
            · have hm2e : (m2 : Int) = (j : Int) + 1 := by rw [Hm2I.out, if_neg hw]
              have hm2B : ((m2 : Int) == (j : Int) + 1) = true := by simpa using hm2e
              clear hm2e
              by_cases hw1 : 0 ≤ back
              · have hw2 : ¬ back < (j : Int) - 1 := fun h => hw ⟨hw1, h⟩
                clear hw
                go_wp2
                go_ret
                exact ⟨rfl, HBF.out⟩
              · clear hw
                go_wp2
                go_ret
                exact ⟨rfl, HBF.out⟩
          | succ g =>
            have hjm : j < m := by omega
            have hjI : (j : Int) < (m : Int) := by omega
            have hj0 : (0 : Int) ≤ (j : Int) := by omega
            have hc := cellOf HM5.out j
            rw [mk_get hjm] at hc
            have hiff := (HP4.out j hjm).trans (RCH.out j hjm)
            by_cases hneg : back < 0
            · rw [decide_eq_true (hiff.2 (.inl hneg))] at hc
              clear hiff
              go_wp2
              go_roundg g
              case measure => omega
              exact ⟨j + 1, by omega, by go_num, rfl⟩
            · by_cases hle : (j : Int) ≤ back
              · rw [decide_eq_true (hiff.2 (.inr hle))] at hc
                clear hiff
                go_wp2
                go_roundg g
                case measure => omega
                exact ⟨j + 1, by omega, by go_num, rfl⟩
              · rw [decide_eq_false (fun h => by rcases hiff.1 h with h | h; exact hneg h; exact hle h)] at hc
                clear hiff
                go_wp2
                go_roundg g
                case measure => omega
                exact ⟨j + 1, by omega, by go_num, rfl⟩
      | succ g =>
        have hiI : (i : Int) < (n : Int) := by omega
        have hi0 : (0 : Int) ≤ (i : Int) := by omega
        obtain ⟨X, hX⟩ : ∃ X, X = wr.heap.size := ⟨_, rfl⟩
        obtain ⟨W1, hW1⟩ : ∃ W1, W1 = wr.alloc (.cells #[.int .i64 35, .int .i64 0, .int .i64 0, .int .i64 0, .int .i64 0] 36) := ⟨_, rfl⟩
        obtain ⟨W2, hW2⟩ : ∃ W2, W2 = W1.alloc (.cells #[.slice (some ⟨X, 0, none⟩) 1 1, .int .i64 38, .int .i64 0, .int .i64 ((i : Int) + 1), .int .i64 0] 47) := ⟨_, rfl⟩
        have z1 : W1.heap.size = X + 1 := by rw [hW1, hX]; simp
        have b1 : Below wr.heap.size wr W1 := by rw [hW1]; exact (Below.refl _ _).alloc (Nat.le_refl _) _
        have b2 : Below W1.heap.size W1 W2 := by rw [hW2]; exact (Below.refl _ _).alloc (Nat.le_refl _) _
        have m1 : W1.heap[X]? = some (.cells o35.cs 36 (0, 0)) := by rw [hW1, hX]; exact heap_alloc_new _ _
        have m2 : W2.heap[X + 1]? = some (.cells (Blk.cs ⟨some ⟨X, 0, none⟩, 1, 1, 38, 0, (i : Int) + 1, 0, [o35]⟩) 47 (0, 0)) := by rw [← z1, hW2]; exact heap_alloc_new _ _
        have z2 : W2.heap.size = X + 1 + 1 := by rw [hW2]; simp [z1]
        have b12 : Below wr.heap.size wr W2 := b1.trans (b2.mono b1.size)
        have mX : W2.heap[X]? = some (.cells o35.cs 36 (0, 0)) := (b2.block X (by omega)).trans m1
        /- What region 14 asks for. -/
        have FIN := hid (fun (Wf : World) (blk : Blk) (R : Nat) (hb : Below wr.heap.size wr Wf) (hoa : blk.oa = some ⟨R, 0, none⟩) (hon : blk.on = 1) (hR : X ≤ R) (hm : Wf.heap[R]? = some (.cells o35.cs 36 (0, 0))) (hw : RwB n back i blk) (a7 : Option Addr) (m7 c7 : Nat) (w7 : World) (ho : BkO w7 (GB + 1) (.slice a7 m7 c7) (bs ++ [blk])) (hg : (Wf.alloc (.cells blk.cs 47)).grownBy w7 (Value.ownBlock (.slice a m c))) (hn : Value.ownBlock (.slice a7 m7 c7) = Value.ownBlock (.slice a m c) ∨ Value.ownBlock (.slice a7 m7 c7) = some (Wf.alloc (.cells blk.cs 47)).heap.size) => hF.step hGw hb hoa hon (by omega) hm hw ho hg hn)
        have HF := hid hF
        clear m1 z1 b1 b2
        have hbl : bs.length ≤ 1000000 := by have := hF.l; omega
        have hbnI : (i : Int) ≤ 60 := by omega
        clear hF
        go_upto_region 10 with fail
        rw [← hX, ← hW1, ← hW2]
        clear hW1 hW2 HS
        have hGX : GB < X := by have := lt_of_heap HF.out.g; omega
        have HXs := hid hX
        clear hX
        by_cases hl : i + 1 = n
        · have hlB : ((i : Int) == (n : Int) - 1) = true := by simp; omega
          by_cases hbk : (i : Int) = back
          · have hbB : ((i : Int) == back) = true := by simpa using hbk
            have HW : Hid (RwB n back i ⟨some ⟨X + 1 + 1 + 1, 0, none⟩, 1, 1, 38, 0, 0, 0, [o35]⟩) := hid ⟨by unfold rEn; rw [if_pos hbk], by unfold rA; rw [if_pos hbk], by unfold rT; rw [if_pos hbk], rfl, rfl⟩
            clear hbk hl
            have s1t0 := cellOf m2 0
            have s1t1 := cellOf m2 1
            have s1t2 := cellOf m2 2
            have s1t3 := cellOf m2 3
            have s1t4 := cellOf m2 4
            have s1f0 := freeOf m2 0
            have s1f1 := freeOf m2 1
            have s1f2 := freeOf m2 2
            have s1f3 := freeOf m2 3
            have s1f4 := freeOf m2 4
            simp only [Blk.cs, List.getElem?_toArray, List.getElem?_cons_zero, List.getElem?_cons_succ] at s1t0 s1t1 s1t2 s1t3 s1t4
            obtain ⟨W3, hW3⟩ : ∃ W', W' = (fiveK W2 (X + 1) ⟨some ⟨X + 1 + 1, 0, none⟩, 1, 1, 40, -1, 0, 0, [o35]⟩).alloc (.cells #[.int .i64 35, .int .i64 0, .int .i64 0, .int .i64 0, .int .i64 0] 36) := ⟨_, rfl⟩
            have zW3 : W3.heap.size = X + 1 + 1 + 1 := by rw [hW3, World.size_alloc, fiveK_size, z2]
            have bW3 : Below wr.heap.size wr W3 := by rw [hW3]; exact (fiveK_below b12 (by have := HXs.out; omega) _).alloc (by rw [fiveK_size]; exact b12.size) _
            have mW3 : W3.heap[X + 1]? = some (.cells (Blk.cs ⟨some ⟨X + 1 + 1, 0, none⟩, 1, 1, 40, -1, 0, 0, [o35]⟩) 47 (0, 0)) := by rw [hW3, Below.heap_alloc _ _ _ (by rw [fiveK_size, z2]; omega)]; exact fiveK_new m2 _
            have rW3 : W3.heap[X + 1 + 1]? = some (.cells o35.cs 36 (0, 0)) := by
              have := heap_alloc_new (fiveK W2 (X + 1) ⟨some ⟨X + 1 + 1, 0, none⟩, 1, 1, 40, -1, 0, 0, [o35]⟩) (.cells o35.cs 36)
              rw [fiveK_size, z2] at this
              rw [hW3]; exact this
            simp only [fiveK] at hW3
            go_upto_region 12 with fail
            try rw [z2]
            rw [← hW3]
            clear hW3 s1t0 s1f0 s1t1 s1f1 s1t2 s1f2 s1t3 s1f3 s1t4 s1f4
            have s2t0 := cellOf mW3 0
            have s2t1 := cellOf mW3 1
            have s2t2 := cellOf mW3 2
            have s2t3 := cellOf mW3 3
            have s2t4 := cellOf mW3 4
            have s2f0 := freeOf mW3 0
            have s2f1 := freeOf mW3 1
            have s2f2 := freeOf mW3 2
            have s2f3 := freeOf mW3 3
            have s2f4 := freeOf mW3 4
            simp only [Blk.cs, List.getElem?_toArray, List.getElem?_cons_zero, List.getElem?_cons_succ] at s2t0 s2t1 s2t2 s2t3 s2t4
            obtain ⟨W4, hW4⟩ : ∃ W', W' = (fiveK W3 (X + 1) ⟨some ⟨X + 1 + 1 + 1, 0, none⟩, 1, 1, 38, 0, 0, 0, [o35]⟩).alloc (.cells #[.int .i64 35, .int .i64 0, .int .i64 0, .int .i64 0, .int .i64 0] 36) := ⟨_, rfl⟩
            have zW4 : W4.heap.size = X + 1 + 1 + 1 + 1 := by rw [hW4, World.size_alloc, fiveK_size, zW3]
            have bW4 : Below wr.heap.size wr W4 := by rw [hW4]; exact (fiveK_below bW3 (by have := HXs.out; omega) _).alloc (by rw [fiveK_size]; exact bW3.size) _
            have mW4 : W4.heap[X + 1]? = some (.cells (Blk.cs ⟨some ⟨X + 1 + 1 + 1, 0, none⟩, 1, 1, 38, 0, 0, 0, [o35]⟩) 47 (0, 0)) := by rw [hW4, Below.heap_alloc _ _ _ (by rw [fiveK_size, zW3]; omega)]; exact fiveK_new mW3 _
            have rW4 : W4.heap[X + 1 + 1 + 1]? = some (.cells o35.cs 36 (0, 0)) := by
              have := heap_alloc_new (fiveK W3 (X + 1) ⟨some ⟨X + 1 + 1 + 1, 0, none⟩, 1, 1, 38, 0, 0, 0, [o35]⟩) (.cells o35.cs 36)
              rw [fiveK_size, zW3] at this
              rw [hW4]; exact this
            simp only [fiveK] at hW4
            go_upto_region 14 with fail
            try rw [zW3]
            rw [← hW4]
            clear hW4 s2t0 s2f0 s2t1 s2f1 s2t2 s2f2 s2t3 s2f3 s2t4 s2f4
            have FG : W4.heap[GB]? = some (.cells #[.int .i64 1, .slice a m c] 24 (0, 0)) := (bW4.block GB (by have := HXs.out; omega)).trans HF.out.g
            have e1 := cellOf FG 1
            simp only [List.getElem?_toArray, List.getElem?_cons_zero, List.getElem?_cons_succ] at e1
            have zt0 := cellOf mW4 0
            have zt1 := cellOf mW4 1
            have zt2 := cellOf mW4 2
            have zt3 := cellOf mW4 3
            have zt4 := cellOf mW4 4
            have zf0 := freeOf mW4 0
            have zf1 := freeOf mW4 1
            have zf2 := freeOf mW4 2
            have zf3 := freeOf mW4 3
            have zf4 := freeOf mW4 4
            simp only [Blk.cs, List.getElem?_toArray, List.getElem?_cons_zero, List.getElem?_cons_succ] at zt0 zt1 zt2 zt3 zt4
            have RB : Hid (BkO (W4.alloc (.cells (Blk.cs ⟨some ⟨X + 1 + 1 + 1, 0, none⟩, 1, 1, 38, 0, 0, 0, [o35]⟩) 47)) (GB + 1) (.slice a m c) bs) := hid (HF.out.r.below (Nat.le_refl _) (bW4.trans ((Below.refl _ _).alloc bW4.size _)))
            have hBl : GB + 1 ≤ (W4.alloc (.cells (Blk.cs ⟨some ⟨X + 1 + 1 + 1, 0, none⟩, 1, 1, 38, 0, 0, 0, [o35]⟩) 47)).heap.size := by rw [World.size_alloc]; have := bW4.size; have := HXs.out; omega
            have BO := hid (BCd.one W4 ⟨some ⟨X + 1 + 1 + 1, 0, none⟩, 1, 1, 38, 0, 0, 0, [o35]⟩)
            have FIN2 := hid (FIN.out W4 ⟨some ⟨X + 1 + 1 + 1, 0, none⟩, 1, 1, 38, 0, 0, 0, [o35]⟩ (X + 1 + 1 + 1) bW4 rfl rfl (by omega) rW4 HW.out)
            have G7 := hid (fun (w7 : World) (hg : (W4.alloc (.cells (Blk.cs ⟨some ⟨X + 1 + 1 + 1, 0, none⟩, 1, 1, 38, 0, 0, 0, [o35]⟩) 47)).grownBy w7 (Value.ownBlock (.slice a m c))) => ((grown_belowK RB.out hg hBl).block GB (by omega)).trans ((Below.heap_alloc W4 (.cells (Blk.cs ⟨some ⟨X + 1 + 1 + 1, 0, none⟩, 1, 1, 38, 0, 0, 0, [o35]⟩) 47) GB (by have := bW4.size; have := HXs.out; omega)).trans FG))
            clear FG FIN mW4 rW4 bW4 mW3 rW3 bW3 m2 mX b12 z2 zW3 zW4
            simp only [Blk.cs] at RB BO FIN2 G7 hBl
            go_wp2_with (at_builtin; refine wpList_appK (W4.alloc (.cells #[.slice (some ⟨(X + 1 + 1 + 1), 0, none⟩) 1 1, .int .i64 38, .int .i64 0, .int .i64 0, .int .i64 0] 47)) rfl _ _ rfl (.slice a m c) _ (by rfl) (by rfl) (GB + 1) bs RB.out (some ⟨W4.heap.size, 0, none⟩) 1 1 rfl [⟨some ⟨X + 1 + 1 + 1, 0, none⟩, 1, 1, 38, 0, 0, 0, [o35]⟩] rfl BO.out (fun e => by cases e) hbl (by omega) hBl ?_; intro v7 w7 ho7 hg7 hn7; obtain ⟨a7, m7, c7, rfl, Hm7⟩ := ho7.rdm; have HFN := hid (FIN2.out a7 m7 c7 w7 ho7 hg7 hn7); have u1 := cellOf (G7.out w7 hg7) 1; have uf := freeOf (G7.out w7 hg7) 1; simp only [List.getElem?_toArray, List.getElem?_cons_zero, List.getElem?_cons_succ] at u1; clear ho7 hg7 hn7)
            go_roundg g
            case measure => omega
            exact ⟨i + 1, _, _, _, _, by omega, by go_num, HFN.out⟩
          · have hbB : ((i : Int) == back) = false := by simpa using hbk
            have HW : Hid (RwB n back i ⟨some ⟨X + 1 + 1, 0, none⟩, 1, 1, 40, -1, 0, 0, [o35]⟩) := hid ⟨by unfold rEn; rw [if_neg hbk, if_pos hl], by unfold rA; rw [if_neg hbk, if_pos hl], by unfold rT; rw [if_neg hbk, if_pos hl], rfl, rfl⟩
            clear hbk hl
            have s1t0 := cellOf m2 0
            have s1t1 := cellOf m2 1
            have s1t2 := cellOf m2 2
            have s1t3 := cellOf m2 3
            have s1t4 := cellOf m2 4
            have s1f0 := freeOf m2 0
            have s1f1 := freeOf m2 1
            have s1f2 := freeOf m2 2
            have s1f3 := freeOf m2 3
            have s1f4 := freeOf m2 4
            simp only [Blk.cs, List.getElem?_toArray, List.getElem?_cons_zero, List.getElem?_cons_succ] at s1t0 s1t1 s1t2 s1t3 s1t4
            obtain ⟨W3, hW3⟩ : ∃ W', W' = (fiveK W2 (X + 1) ⟨some ⟨X + 1 + 1, 0, none⟩, 1, 1, 40, -1, 0, 0, [o35]⟩).alloc (.cells #[.int .i64 35, .int .i64 0, .int .i64 0, .int .i64 0, .int .i64 0] 36) := ⟨_, rfl⟩
            have zW3 : W3.heap.size = X + 1 + 1 + 1 := by rw [hW3, World.size_alloc, fiveK_size, z2]
            have bW3 : Below wr.heap.size wr W3 := by rw [hW3]; exact (fiveK_below b12 (by have := HXs.out; omega) _).alloc (by rw [fiveK_size]; exact b12.size) _
            have mW3 : W3.heap[X + 1]? = some (.cells (Blk.cs ⟨some ⟨X + 1 + 1, 0, none⟩, 1, 1, 40, -1, 0, 0, [o35]⟩) 47 (0, 0)) := by rw [hW3, Below.heap_alloc _ _ _ (by rw [fiveK_size, z2]; omega)]; exact fiveK_new m2 _
            have rW3 : W3.heap[X + 1 + 1]? = some (.cells o35.cs 36 (0, 0)) := by
              have := heap_alloc_new (fiveK W2 (X + 1) ⟨some ⟨X + 1 + 1, 0, none⟩, 1, 1, 40, -1, 0, 0, [o35]⟩) (.cells o35.cs 36)
              rw [fiveK_size, z2] at this
              rw [hW3]; exact this
            simp only [fiveK] at hW3
            go_upto_region 14 with fail
            try rw [z2]
            rw [← hW3]
            clear hW3 s1t0 s1f0 s1t1 s1f1 s1t2 s1f2 s1t3 s1f3 s1t4 s1f4
            have FG : W3.heap[GB]? = some (.cells #[.int .i64 1, .slice a m c] 24 (0, 0)) := (bW3.block GB (by have := HXs.out; omega)).trans HF.out.g
            have e1 := cellOf FG 1
            simp only [List.getElem?_toArray, List.getElem?_cons_zero, List.getElem?_cons_succ] at e1
            have zt0 := cellOf mW3 0
            have zt1 := cellOf mW3 1
            have zt2 := cellOf mW3 2
            have zt3 := cellOf mW3 3
            have zt4 := cellOf mW3 4
            have zf0 := freeOf mW3 0
            have zf1 := freeOf mW3 1
            have zf2 := freeOf mW3 2
            have zf3 := freeOf mW3 3
            have zf4 := freeOf mW3 4
            simp only [Blk.cs, List.getElem?_toArray, List.getElem?_cons_zero, List.getElem?_cons_succ] at zt0 zt1 zt2 zt3 zt4
            have RB : Hid (BkO (W3.alloc (.cells (Blk.cs ⟨some ⟨X + 1 + 1, 0, none⟩, 1, 1, 40, -1, 0, 0, [o35]⟩) 47)) (GB + 1) (.slice a m c) bs) := hid (HF.out.r.below (Nat.le_refl _) (bW3.trans ((Below.refl _ _).alloc bW3.size _)))
            have hBl : GB + 1 ≤ (W3.alloc (.cells (Blk.cs ⟨some ⟨X + 1 + 1, 0, none⟩, 1, 1, 40, -1, 0, 0, [o35]⟩) 47)).heap.size := by rw [World.size_alloc]; have := bW3.size; have := HXs.out; omega
            have BO := hid (BCd.one W3 ⟨some ⟨X + 1 + 1, 0, none⟩, 1, 1, 40, -1, 0, 0, [o35]⟩)
            have FIN2 := hid (FIN.out W3 ⟨some ⟨X + 1 + 1, 0, none⟩, 1, 1, 40, -1, 0, 0, [o35]⟩ (X + 1 + 1) bW3 rfl rfl (by omega) rW3 HW.out)
            have G7 := hid (fun (w7 : World) (hg : (W3.alloc (.cells (Blk.cs ⟨some ⟨X + 1 + 1, 0, none⟩, 1, 1, 40, -1, 0, 0, [o35]⟩) 47)).grownBy w7 (Value.ownBlock (.slice a m c))) => ((grown_belowK RB.out hg hBl).block GB (by omega)).trans ((Below.heap_alloc W3 (.cells (Blk.cs ⟨some ⟨X + 1 + 1, 0, none⟩, 1, 1, 40, -1, 0, 0, [o35]⟩) 47) GB (by have := bW3.size; have := HXs.out; omega)).trans FG))
            clear FG FIN mW3 rW3 bW3 m2 mX b12 z2 zW3
            simp only [Blk.cs] at RB BO FIN2 G7 hBl
            go_wp2_with (at_builtin; refine wpList_appK (W3.alloc (.cells #[.slice (some ⟨(X + 1 + 1), 0, none⟩) 1 1, .int .i64 40, .int .i64 (-1), .int .i64 0, .int .i64 0] 47)) rfl _ _ rfl (.slice a m c) _ (by rfl) (by rfl) (GB + 1) bs RB.out (some ⟨W3.heap.size, 0, none⟩) 1 1 rfl [⟨some ⟨X + 1 + 1, 0, none⟩, 1, 1, 40, -1, 0, 0, [o35]⟩] rfl BO.out (fun e => by cases e) hbl (by omega) hBl ?_; intro v7 w7 ho7 hg7 hn7; obtain ⟨a7, m7, c7, rfl, Hm7⟩ := ho7.rdm; have HFN := hid (FIN2.out a7 m7 c7 w7 ho7 hg7 hn7); have u1 := cellOf (G7.out w7 hg7) 1; have uf := freeOf (G7.out w7 hg7) 1; simp only [List.getElem?_toArray, List.getElem?_cons_zero, List.getElem?_cons_succ] at u1; clear ho7 hg7 hn7)
            go_roundg g
            case measure => omega
            exact ⟨i + 1, _, _, _, _, by omega, by go_num, HFN.out⟩
        · have hlB : ((i : Int) == (n : Int) - 1) = false := by simp; omega
          by_cases hbk : (i : Int) = back
          · have hbB : ((i : Int) == back) = true := by simpa using hbk
            have HW : Hid (RwB n back i ⟨some ⟨X + 1 + 1, 0, none⟩, 1, 1, 38, 0, 0, 0, [o35]⟩) := hid ⟨by unfold rEn; rw [if_pos hbk], by unfold rA; rw [if_pos hbk], by unfold rT; rw [if_pos hbk], rfl, rfl⟩
            clear hbk hl
            have s1t0 := cellOf m2 0
            have s1t1 := cellOf m2 1
            have s1t2 := cellOf m2 2
            have s1t3 := cellOf m2 3
            have s1t4 := cellOf m2 4
            have s1f0 := freeOf m2 0
            have s1f1 := freeOf m2 1
            have s1f2 := freeOf m2 2
            have s1f3 := freeOf m2 3
            have s1f4 := freeOf m2 4
            simp only [Blk.cs, List.getElem?_toArray, List.getElem?_cons_zero, List.getElem?_cons_succ] at s1t0 s1t1 s1t2 s1t3 s1t4
            obtain ⟨W3, hW3⟩ : ∃ W', W' = (fiveK W2 (X + 1) ⟨some ⟨X + 1 + 1, 0, none⟩, 1, 1, 38, 0, 0, 0, [o35]⟩).alloc (.cells #[.int .i64 35, .int .i64 0, .int .i64 0, .int .i64 0, .int .i64 0] 36) := ⟨_, rfl⟩
            have zW3 : W3.heap.size = X + 1 + 1 + 1 := by rw [hW3, World.size_alloc, fiveK_size, z2]
            have bW3 : Below wr.heap.size wr W3 := by rw [hW3]; exact (fiveK_below b12 (by have := HXs.out; omega) _).alloc (by rw [fiveK_size]; exact b12.size) _
            have mW3 : W3.heap[X + 1]? = some (.cells (Blk.cs ⟨some ⟨X + 1 + 1, 0, none⟩, 1, 1, 38, 0, 0, 0, [o35]⟩) 47 (0, 0)) := by rw [hW3, Below.heap_alloc _ _ _ (by rw [fiveK_size, z2]; omega)]; exact fiveK_new m2 _
            have rW3 : W3.heap[X + 1 + 1]? = some (.cells o35.cs 36 (0, 0)) := by
              have := heap_alloc_new (fiveK W2 (X + 1) ⟨some ⟨X + 1 + 1, 0, none⟩, 1, 1, 38, 0, 0, 0, [o35]⟩) (.cells o35.cs 36)
              rw [fiveK_size, z2] at this
              rw [hW3]; exact this
            simp only [fiveK] at hW3
            go_upto_region 14 with fail
            try rw [z2]
            rw [← hW3]
            clear hW3 s1t0 s1f0 s1t1 s1f1 s1t2 s1f2 s1t3 s1f3 s1t4 s1f4
            have FG : W3.heap[GB]? = some (.cells #[.int .i64 1, .slice a m c] 24 (0, 0)) := (bW3.block GB (by have := HXs.out; omega)).trans HF.out.g
            have e1 := cellOf FG 1
            simp only [List.getElem?_toArray, List.getElem?_cons_zero, List.getElem?_cons_succ] at e1
            have zt0 := cellOf mW3 0
            have zt1 := cellOf mW3 1
            have zt2 := cellOf mW3 2
            have zt3 := cellOf mW3 3
            have zt4 := cellOf mW3 4
            have zf0 := freeOf mW3 0
            have zf1 := freeOf mW3 1
            have zf2 := freeOf mW3 2
            have zf3 := freeOf mW3 3
            have zf4 := freeOf mW3 4
            simp only [Blk.cs, List.getElem?_toArray, List.getElem?_cons_zero, List.getElem?_cons_succ] at zt0 zt1 zt2 zt3 zt4
            have RB : Hid (BkO (W3.alloc (.cells (Blk.cs ⟨some ⟨X + 1 + 1, 0, none⟩, 1, 1, 38, 0, 0, 0, [o35]⟩) 47)) (GB + 1) (.slice a m c) bs) := hid (HF.out.r.below (Nat.le_refl _) (bW3.trans ((Below.refl _ _).alloc bW3.size _)))
            have hBl : GB + 1 ≤ (W3.alloc (.cells (Blk.cs ⟨some ⟨X + 1 + 1, 0, none⟩, 1, 1, 38, 0, 0, 0, [o35]⟩) 47)).heap.size := by rw [World.size_alloc]; have := bW3.size; have := HXs.out; omega
            have BO := hid (BCd.one W3 ⟨some ⟨X + 1 + 1, 0, none⟩, 1, 1, 38, 0, 0, 0, [o35]⟩)
            have FIN2 := hid (FIN.out W3 ⟨some ⟨X + 1 + 1, 0, none⟩, 1, 1, 38, 0, 0, 0, [o35]⟩ (X + 1 + 1) bW3 rfl rfl (by omega) rW3 HW.out)
            have G7 := hid (fun (w7 : World) (hg : (W3.alloc (.cells (Blk.cs ⟨some ⟨X + 1 + 1, 0, none⟩, 1, 1, 38, 0, 0, 0, [o35]⟩) 47)).grownBy w7 (Value.ownBlock (.slice a m c))) => ((grown_belowK RB.out hg hBl).block GB (by omega)).trans ((Below.heap_alloc W3 (.cells (Blk.cs ⟨some ⟨X + 1 + 1, 0, none⟩, 1, 1, 38, 0, 0, 0, [o35]⟩) 47) GB (by have := bW3.size; have := HXs.out; omega)).trans FG))
            clear FG FIN mW3 rW3 bW3 m2 mX b12 z2 zW3
            simp only [Blk.cs] at RB BO FIN2 G7 hBl
            go_wp2_with (at_builtin; refine wpList_appK (W3.alloc (.cells #[.slice (some ⟨(X + 1 + 1), 0, none⟩) 1 1, .int .i64 38, .int .i64 0, .int .i64 0, .int .i64 0] 47)) rfl _ _ rfl (.slice a m c) _ (by rfl) (by rfl) (GB + 1) bs RB.out (some ⟨W3.heap.size, 0, none⟩) 1 1 rfl [⟨some ⟨X + 1 + 1, 0, none⟩, 1, 1, 38, 0, 0, 0, [o35]⟩] rfl BO.out (fun e => by cases e) hbl (by omega) hBl ?_; intro v7 w7 ho7 hg7 hn7; obtain ⟨a7, m7, c7, rfl, Hm7⟩ := ho7.rdm; have HFN := hid (FIN2.out a7 m7 c7 w7 ho7 hg7 hn7); have u1 := cellOf (G7.out w7 hg7) 1; have uf := freeOf (G7.out w7 hg7) 1; simp only [List.getElem?_toArray, List.getElem?_cons_zero, List.getElem?_cons_succ] at u1; clear ho7 hg7 hn7)
            go_roundg g
            case measure => omega
            exact ⟨i + 1, _, _, _, _, by omega, by go_num, HFN.out⟩
          · have hbB : ((i : Int) == back) = false := by simpa using hbk
            have HW : Hid (RwB n back i ⟨some ⟨X, 0, none⟩, 1, 1, 38, 0, (i : Int) + 1, 0, [o35]⟩) := hid ⟨by unfold rEn; rw [if_neg hbk, if_neg hl], by unfold rA; rw [if_neg hbk, if_neg hl], by unfold rT; rw [if_neg hbk, if_neg hl], rfl, rfl⟩
            clear hbk hl
            go_upto_region 14 with fail
            have FG : W2.heap[GB]? = some (.cells #[.int .i64 1, .slice a m c] 24 (0, 0)) := (b12.block GB (by have := HXs.out; omega)).trans HF.out.g
            have e1 := cellOf FG 1
            simp only [List.getElem?_toArray, List.getElem?_cons_zero, List.getElem?_cons_succ] at e1
            have zt0 := cellOf m2 0
            have zt1 := cellOf m2 1
            have zt2 := cellOf m2 2
            have zt3 := cellOf m2 3
            have zt4 := cellOf m2 4
            have zf0 := freeOf m2 0
            have zf1 := freeOf m2 1
            have zf2 := freeOf m2 2
            have zf3 := freeOf m2 3
            have zf4 := freeOf m2 4
            simp only [Blk.cs, List.getElem?_toArray, List.getElem?_cons_zero, List.getElem?_cons_succ] at zt0 zt1 zt2 zt3 zt4
            have RB : Hid (BkO (W2.alloc (.cells (Blk.cs ⟨some ⟨X, 0, none⟩, 1, 1, 38, 0, (i : Int) + 1, 0, [o35]⟩) 47)) (GB + 1) (.slice a m c) bs) := hid (HF.out.r.below (Nat.le_refl _) (b12.trans ((Below.refl _ _).alloc b12.size _)))
            have hBl : GB + 1 ≤ (W2.alloc (.cells (Blk.cs ⟨some ⟨X, 0, none⟩, 1, 1, 38, 0, (i : Int) + 1, 0, [o35]⟩) 47)).heap.size := by rw [World.size_alloc]; have := b12.size; have := HXs.out; omega
            have BO := hid (BCd.one W2 ⟨some ⟨X, 0, none⟩, 1, 1, 38, 0, (i : Int) + 1, 0, [o35]⟩)
            have FIN2 := hid (FIN.out W2 ⟨some ⟨X, 0, none⟩, 1, 1, 38, 0, (i : Int) + 1, 0, [o35]⟩ X b12 rfl rfl (by omega) mX HW.out)
            have G7 := hid (fun (w7 : World) (hg : (W2.alloc (.cells (Blk.cs ⟨some ⟨X, 0, none⟩, 1, 1, 38, 0, (i : Int) + 1, 0, [o35]⟩) 47)).grownBy w7 (Value.ownBlock (.slice a m c))) => ((grown_belowK RB.out hg hBl).block GB (by omega)).trans ((Below.heap_alloc W2 (.cells (Blk.cs ⟨some ⟨X, 0, none⟩, 1, 1, 38, 0, (i : Int) + 1, 0, [o35]⟩) 47) GB (by have := b12.size; have := HXs.out; omega)).trans FG))
            clear FG FIN m2 mX b12 z2
            simp only [Blk.cs] at RB BO FIN2 G7 hBl
            go_wp2_with (at_builtin; refine wpList_appK (W2.alloc (.cells #[.slice (some ⟨X, 0, none⟩) 1 1, .int .i64 38, .int .i64 0, .int .i64 ((i : Int) + 1), .int .i64 0] 47)) rfl _ _ rfl (.slice a m c) _ (by rfl) (by rfl) (GB + 1) bs RB.out (some ⟨W2.heap.size, 0, none⟩) 1 1 rfl [⟨some ⟨X, 0, none⟩, 1, 1, 38, 0, (i : Int) + 1, 0, [o35]⟩] rfl BO.out (fun e => by cases e) hbl (by omega) hBl ?_; intro v7 w7 ho7 hg7 hn7; obtain ⟨a7, m7, c7, rfl, Hm7⟩ := ho7.rdm; have HFN := hid (FIN2.out a7 m7 c7 w7 ho7 hg7 hn7); have u1 := cellOf (G7.out w7 hg7) 1; have uf := freeOf (G7.out w7 hg7) 1; simp only [List.getElem?_toArray, List.getElem?_cons_zero, List.getElem?_cons_succ] at u1; clear ho7 hg7 hn7)
            go_roundg g
            case measure => omega
            exact ⟨i + 1, _, _, _, _, by omega, by go_num, HFN.out⟩
  · have hout : nn < 1 ∨ (¬ nn < 1 ∧ 60 < nn) ∨ (¬ nn < 1 ∧ ¬ 60 < nn ∧ back < -1) ∨ (¬ nn < 1 ∧ ¬ 60 < nn ∧ ¬ back < -1 ∧ nn ≤ back) := by omega
    clear hr
    rcases hout with h1 | ⟨h1, h2⟩ | ⟨h1, h2, h3⟩ | ⟨h1, h2, h3, h4⟩
    all_goals
      go_enter Try.func5, Try.ntmps5
      go_wp2_with (go_at_call 6; (refine (Hid.out K1).mono ?_; rintro e w1 ⟨rfl, hb1'⟩))
      go_ret
      exact ⟨rfl, hb1'⟩
end Go.Proofs.Ytkkcbabhccfllaa

namespace Go.Proofs.Ytkkcbabhccfllaa
open Go.ChangeShapes Go.WideShapes Go.ChangeAt Go.RowKit Go.Deep
set_option linter.unusedVariables false
set_option linter.unusedSimpArgs false

theorem ownN : ownKnob Try.prog.godebug = none := by kernel_rfl
theorem laidOut : laidOutB Try.prog = true := by kernel_rfl
section
variable {H : Type} {enc : TypeId × Value → H} {W : World}

/- Rows out of their elements. -/
end
end Go.Proofs.Ytkkcbabhccfllaa

