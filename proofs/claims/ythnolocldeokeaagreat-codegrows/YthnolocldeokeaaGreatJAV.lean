/- windlasslaw9.handler. -/
import Derived.Test.YthnolocldeokeaaGreatJAU
import Derived.Deep.CutBlock
namespace Go.Proofs.YthnolocldeokeaaGreat
open Go.RowKit Go.Deep Go.Shelf
set_option linter.unusedVariables false
set_option linter.unusedSimpArgs false
set_option maxRecDepth 100000
def sqL (n : Nat) : List Int := (List.range n).map fun (j : Nat) => (j : Int) * (j : Int)
def ttL (n : Nat) : List ByteArray := List.replicate n ⟨#[116]⟩
def opL (n : Nat) : List Opx := (⟨35, 0, 0, 0, 0⟩ : Opx) :: (List.range n).map fun (j : Nat) => (⟨3, 0, 0, 0, (j : Int) % 2⟩ : Opx)
def hFx (ops : Nat) (regs : Int) : Fx := ⟨regs, opL ops ++ [(⟨40, 0, -1, 0, 0⟩ : Opx)]⟩
def hCx (ops ints texts : Nat) (regs : Int) : Cx := ⟨⟨[], [], [], [((⟨⟨#[101]⟩, none, 0, 0, 0, 0⟩ : GH), kSe)]⟩, ints, ttL texts, [], [hFx ops regs]⟩
theorem sqL_succ (k : Nat) : (sqL (k + 1)).map inc = (sqL k).map inc ++ [inc ((k : Int) * (k : Int))] := by simp [sqL, List.range_succ]
theorem ttL_succ (k : Nat) : (ttL (k + 1)).map stc = (ttL k).map stc ++ [stc ⟨#[116]⟩] := by simp [ttL, List.replicate_succ']
def opc (o : Opx) : List Value := o.cs.toList
theorem opL_succ (k : Nat) : (opL (k + 1)).map opc = (opL k).map opc ++ [opc ⟨3, 0, 0, 0, (k : Int) % 2⟩] := by simp [opL, List.range_succ]
theorem sqL_len (k : Nat) : (sqL k).length = k := by simp [sqL]
theorem ttL_len (k : Nat) : (ttL k).length = k := by simp [ttL]
theorem opL_len (k : Nat) : (opL k).length = k + 1 := by simp [opL]
theorem infoO : (Tryz.prog.info? 54).map (fun i => (i.zero, i.size, i.bytes)) = some (some (.agg #[.int .i64 0, .int .i64 0, .int .i64 0, .int .i64 0, .int .i64 0]), 5, 40) := by kernel_rfl
theorem rk_op (l : List Opx) : Rk 5 (l.map opc) := ⟨fun r hr => by obtain ⟨o, _, rfl⟩ := List.mem_map.1 hr; rfl, fun r hr u hu => by
  obtain ⟨o, _, rfl⟩ := List.mem_map.1 hr
  simp [opc, Opx.cs] at hu
  rcases hu with rfl | rfl | rfl | rfl | rfl <;> rfl⟩
/- The blocks that handler keeps: the answer's, the event's, the code's. -/
structure HS (w : World) (c4 c5 c7 : Value) (W : World) : Prop where
  r0 : W.heap[w.heap.size]? = some (.cells #[.slice none 0 0, .slice none 0 0, .slice none 0 0, .slice none 0 0, .slice none 0 0, .slice none 0 0, .slice none 0 0, .slice none 0 0] 31 (0, 0))
  r1 : W.heap[w.heap.size + 1]? = some (.cells #[.string ⟨#[101]⟩, .slice none 0 0, .int .i64 0, .int .i64 0] 49 (0, 0))
  r2 : W.heap[w.heap.size + 2]? = some (.cells #[.slice none 0 0, .slice none 0 0, .slice none 0 0, .slice (some ⟨w.heap.size + 1, 0, none⟩) 1 1, c4, c5, .slice none 0 0, c7] 31 (0, 0))
  b : Below w.heap.size w W
theorem HS.size {w W : World} {c4 c5 c7 : Value} (h : HS w c4 c5 c7 W) : w.heap.size + 3 ≤ W.heap.size := lt_of_heap h.r2
theorem HS.alloc {w W : World} {c4 c5 c7 : Value} (h : HS w c4 c5 c7 W) (o : Obj) : HS w c4 c5 c7 (W.alloc o) := by
  have hs := h.size
  exact ⟨by rw [Below.heap_alloc _ _ _ (by omega)]; exact h.r0, by rw [Below.heap_alloc _ _ _ (by omega)]; exact h.r1, by rw [Below.heap_alloc _ _ _ (by omega)]; exact h.r2, h.b.alloc h.b.size _⟩
theorem HS.grown {w W W' : World} {c4 c5 c7 : Value} (h : HS w c4 c5 c7 W) {E : TypeId} {k : Nat} {v : Value} {l : List (List Value)} (kr : KR E k W (w.heap.size + 3) v l) (hg : W.grownBy W' v.ownBlock) : HS w c4 c5 c7 W' := by
  have hs := h.size
  have q : ∀ g, g < w.heap.size + 3 → W'.heap[g]? = W.heap[g]? := fun g hg2 => hg.block g (by omega) (fun e => by have := (kr.own e.symm).1; omega)
  exact ⟨(q _ (by omega)).trans h.r0, (q _ (by omega)).trans h.r1, (q _ (by omega)).trans h.r2, h.b.grown hg h.b.size (fun g e => by have := (kr.own e).1; omega)⟩
theorem HS.set4 {w W : World} {c4 c5 c7 : Value} (h : HS w c4 c5 c7 W) (u : Value) : HS w u c5 c7 (W.setCell ⟨w.heap.size + 2, 4, none⟩ u) :=
  ⟨(Below.heap_setCell _ ⟨w.heap.size + 2, 4, none⟩ _ _ (show w.heap.size ≠ w.heap.size + 2 by omega)).trans h.r0, (Below.heap_setCell _ ⟨w.heap.size + 2, 4, none⟩ _ _ (show w.heap.size + 1 ≠ w.heap.size + 2 by omega)).trans h.r1, heap_set_at h.r2 4 u, h.b.setCell (p := ⟨w.heap.size + 2, 4, none⟩) (show w.heap.size ≤ w.heap.size + 2 by omega) u⟩
theorem HS.set5 {w W : World} {c4 c5 c7 : Value} (h : HS w c4 c5 c7 W) (u : Value) : HS w c4 u c7 (W.setCell ⟨w.heap.size + 2, 5, none⟩ u) :=
  ⟨(Below.heap_setCell _ ⟨w.heap.size + 2, 5, none⟩ _ _ (show w.heap.size ≠ w.heap.size + 2 by omega)).trans h.r0, (Below.heap_setCell _ ⟨w.heap.size + 2, 5, none⟩ _ _ (show w.heap.size + 1 ≠ w.heap.size + 2 by omega)).trans h.r1, heap_set_at h.r2 5 u, h.b.setCell (p := ⟨w.heap.size + 2, 5, none⟩) (show w.heap.size ≤ w.heap.size + 2 by omega) u⟩
theorem HS.set7 {w W : World} {c4 c5 c7 : Value} (h : HS w c4 c5 c7 W) (u : Value) : HS w c4 c5 u (W.setCell ⟨w.heap.size + 2, 7, none⟩ u) :=
  ⟨(Below.heap_setCell _ ⟨w.heap.size + 2, 7, none⟩ _ _ (show w.heap.size ≠ w.heap.size + 2 by omega)).trans h.r0, (Below.heap_setCell _ ⟨w.heap.size + 2, 7, none⟩ _ _ (show w.heap.size + 1 ≠ w.heap.size + 2 by omega)).trans h.r1, heap_set_at h.r2 7 u, h.b.setCell (p := ⟨w.heap.size + 2, 7, none⟩) (show w.heap.size ≤ w.heap.size + 2 by omega) u⟩
theorem KR.setc {E : TypeId} {k : Nat} {W : World} {B : Nat} {v : Value} {l : List (List Value)} (h : KR E k W B v l) {X i : Nat} (hX : X < B) (u : Value) : KR E k (W.setCell ⟨X, i, none⟩ u) B v l :=
  h.keep fun g e => Below.heap_setCell _ ⟨X, i, none⟩ _ _ (show g ≠ X from fun e2 => by have := (h.own e).1; omega)
theorem KR.ne {E F : TypeId} (hne : E ≠ F) {k : Nat} {W : World} {B : Nat} {v : Value} {l : List (List Value)} (h : KR E k W B v l) {Y : Nat} {cs : Array Value} {f : Nat × Nat} (hY : W.heap[Y]? = some (.cells cs F f)) : v.ownBlock ≠ some Y := fun e => by
  rcases h.1.2 with ⟨rfl, _⟩ | ⟨b', cap, cur, rfl, h3, h4, _⟩
  · cases e
  · cases e
    rw [h4] at hY
    injection hY with hY
    injection hY with _ h6 _
    exact hne h6
theorem KR.sety {E F : TypeId} (hne : E ≠ F) {k : Nat} {W : World} {B : Nat} {v : Value} {l : List (List Value)} (h : KR E k W B v l) {Y : Nat} {cs : Array Value} {f : Nat × Nat} (hY : W.heap[Y]? = some (.cells cs F f)) (i : Nat) (u : Value) : KR E k (W.setCell ⟨Y, i, none⟩ u) B v l :=
  h.keep fun g e => Below.heap_setCell _ ⟨Y, i, none⟩ _ _ (show g ≠ Y from fun e2 => h.ne hne hY (by rw [e, e2]))
theorem HS.sety {w W : World} {c4 c5 c7 : Value} (h : HS w c4 c5 c7 W) {Y : Nat} (hY : w.heap.size + 3 ≤ Y) (i : Nat) (u : Value) : HS w c4 c5 c7 (W.setCell ⟨Y, i, none⟩ u) :=
  ⟨(Below.heap_setCell _ ⟨Y, i, none⟩ _ _ (show w.heap.size ≠ Y by omega)).trans h.r0, (Below.heap_setCell _ ⟨Y, i, none⟩ _ _ (show w.heap.size + 1 ≠ Y by omega)).trans h.r1, (Below.heap_setCell _ ⟨Y, i, none⟩ _ _ (show w.heap.size + 2 ≠ Y by omega)).trans h.r2, h.b.setCell (p := ⟨Y, i, none⟩) (show w.heap.size ≤ Y by omega) u⟩
theorem ttL_size (k : Nat) : ∀ s ∈ ttL k, s.size ≤ 1000000 := fun s hs => by
  have := List.eq_of_mem_replicate hs
  subst this
  exact of_decide_eq_true (by kernel_rfl)
/- The code that handler answers, as it lies. -/
theorem hCd {F : World} {S Z B : Nat} {ua va oa : Option Addr} {un uc vn vc on oc : Nat} {ops ints texts : Nat} {regs : Int} (ho : ops ≤ 60) (hi : ints ≤ 60) (ht : texts ≤ 60) (m0 : F.heap[S]? = some (.cells #[.string ⟨#[101]⟩, .slice none 0 0, .int .i64 0, .int .i64 0] 49 (0, 0))) (m2 : F.heap[Z]? = some (.cells #[.int .i64 regs, .slice oa on oc] 57 (0, 0)))
    (ku : KR 2 1 F B (.slice ua un uc) ((sqL ints).map inc)) (kv : KR 9 1 F B (.slice va vn vc) ((ttL texts).map stc)) (ko : KR 54 5 F B (.slice oa on oc) ((opL ops ++ [(⟨40, 0, -1, 0, 0⟩ : Opx)]).map opc)) :
    CdRd F ⟨⟨none, 0, 0, none, 0, 0, none, 0, 0, some ⟨S, 0, none⟩, 1, 1⟩, ua, un, uc, va, vn, vc, none, 0, 0, some ⟨Z, 0, none⟩, 1, 1⟩ (hCx ops ints texts regs) [] [((⟨regs, oa, on, oc⟩ : FH), hFx ops regs)] ∧ JRd F ua (sqL ints) ∧ un = ints := by
  obtain ⟨a1, c1, e1, _, r1, _⟩ := ku.rd
  obtain ⟨a2, c2, e2, _, _, _⟩ := kv.rd
  obtain ⟨a3, c3, e3, _, r3, _⟩ := ko.rd
  cases e1
  cases e2
  cases e3
  have sr : SRd F va (ttL texts) := kv.srd (ttL_size texts)
  have oR : ORd F oa (hFx ops regs).ops := crd_ord r3
  refine ⟨⟨⟨⟨rfl, by simp, fun j r h => by simp [hCx] at h, fun p hp => by simp [hCx] at hp⟩, ⟨rfl, by simp, fun j r h => by simp [hCx] at h, fun p hp => by simp [hCx] at hp⟩, ⟨rfl, by simp, fun j r h => by simp [hCx] at h, fun p hp => by simp [hCx] at hp⟩, ⟨rfl, by simp, crd_of [[.string ⟨#[101]⟩, .slice none 0 0, .int .i64 0, .int .i64 0]] m0 (by simp), fun p hp => ?_⟩⟩, (by show ((sqL ints).map inc).length = ints; rw [List.length_map, sqL_len]), by show ((sqL ints).map inc).length ≤ _; rw [List.length_map, sqL_len]; omega, (by show ((ttL texts).map stc).length = (ttL texts).length; rw [List.length_map]), by show ((ttL texts).map stc).length ≤ _; rw [List.length_map, ttL_len]; omega, sr, ⟨rfl, by simp, fun j r h => by simp at h, fun p hp => by simp at hp⟩, rfl, ⟨rfl, by simp, crd_of [[.int .i64 regs, .slice oa ((opL ops ++ [(⟨40, 0, -1, 0, 0⟩ : Opx)]).map opc).length oc]] m2 (by simp), fun p hp => ?_⟩, rfl⟩, r1, by rw [List.length_map, sqL_len]⟩
  · simp [hCx] at hp
    subst hp
    exact ⟨rfl, of_decide_eq_true (by kernel_rfl), rfl, by simp, fun j t h => by simp [kSe] at h, rfl⟩
  · obtain rfl := List.mem_singleton.1 hp
    refine ⟨rfl, ?_, ?_, oR⟩
    · show ((opL ops ++ [(⟨40, 0, -1, 0, 0⟩ : Opx)]).map opc).length = _
      rw [List.length_map]; rfl
    · show ((opL ops ++ [(⟨40, 0, -1, 0, 0⟩ : Opx)]).map opc).length ≤ _
      rw [List.length_map, List.length_append, opL_len]; simp; omega
set_option maxHeartbeats 4000000 in
theorem handler_any (w : World) (ops ints texts : Nat) (regs : Int) (ho : ops ≤ 60) (hi : ints ≤ 60) (ht : texts ≤ 60) :
    Calls Tryz.prog 14 #[.int .i64 (ops : Int), .int .i64 (ints : Int), .int .i64 (texts : Int), .int .i64 regs] w fun e w' => Below w.heap.size w w' ∧ ∃ C el, e = .returned (CH.v C) ∧ CdRd w' C (hCx ops ints texts regs) [] el ∧ JRd w' C.ia (sqL ints) ∧ C.inn = ints := by
  obtain ⟨A0, hA0⟩ : ∃ A0, A0 = w.alloc (.cells #[.slice none 0 0, .slice none 0 0, .slice none 0 0, .slice none 0 0, .slice none 0 0, .slice none 0 0, .slice none 0 0, .slice none 0 0] 31) := ⟨_, rfl⟩
  obtain ⟨A1, hA1⟩ : ∃ A1, A1 = A0.alloc (.cells #[.string ⟨#[101]⟩, .slice none 0 0, .int .i64 0, .int .i64 0] 49) := ⟨_, rfl⟩
  obtain ⟨A, hA⟩ : ∃ A, A = A1.alloc (.cells #[.slice none 0 0, .slice none 0 0, .slice none 0 0, .slice (some ⟨w.heap.size + 1, 0, none⟩) 1 1, .slice none 0 0, .slice none 0 0, .slice none 0 0, .slice none 0 0] 31) := ⟨_, rfl⟩
  have z0 : A0.heap.size = w.heap.size + 1 := by rw [hA0]; simp
  have z1 : A1.heap.size = w.heap.size + 2 := by rw [hA1]; simp; omega
  have b0 : Below w.heap.size w A0 := by rw [hA0]; exact (Below.refl _ _).alloc (Nat.le_refl _) _
  have b1 : Below w.heap.size w A1 := by rw [hA1]; exact b0.alloc (by omega) _
  have hs0 : HS w (.slice none 0 0) (.slice none 0 0) (.slice none 0 0) A := ⟨by rw [hA, Below.heap_alloc _ _ _ (by omega), hA1, Below.heap_alloc _ _ _ (by omega), hA0]; exact heap_alloc_new w _, by rw [hA, Below.heap_alloc _ _ _ (by omega), hA1, ← z0]; exact heap_alloc_new A0 _, by rw [hA, ← z1]; exact heap_alloc_new A1 _, by rw [hA]; exact b1.alloc (by omega) _⟩
  clear z0 z1 b0 b1
  have HS0 := hid hs0
  clear hs0
  have oI : (ops : Int) ≤ 60 := by omega
  have iI : (ints : Int) ≤ 60 := by omega
  have tI : (texts : Int) ≤ 60 := by omega
  go_enter Tryz.func14, Tryz.ntmps14
  go_upto_region 2 with fail
  rw [← hA0, ← hA1, ← hA]
  clear hA0 hA1 hA
  go_wp2
  go_loopg [10] ints (fun g x wr => ∃ (j : Nat) (u : Value), j + g = ints ∧ x = .int .i64 (j : Int) ∧ HS w u (.slice none 0 0) (.slice none 0 0) wr ∧ KR 2 1 wr (w.heap.size + 3) u ((sqL j).map inc))
  case atStart => exact ⟨0, _, by omega, rfl, HS0.out, KR.nil _ _ _ _⟩
  case round =>
    obtain ⟨j, u, hj, rfl, hs, hk⟩ := hrel
    cases gk with
    | succ g =>
      have hjI : (j : Int) ≤ 59 := by omega
      have hj0 : (0 : Int) ≤ (j : Int) := by omega
      have hjn : (j : Int) < (ints : Int) := by omega
      obtain ⟨q, hq⟩ : ∃ q, q = (j : Int) * (j : Int) := ⟨_, rfl⟩
      have q0 : 0 ≤ q := by rw [hq]; exact Int.mul_nonneg hj0 hj0
      have q1 : q ≤ 3481 := by rw [hq]; exact Int.mul_le_mul hjI hjI hj0 (by omega)
      have SJ : Hid ((sqL (j + 1)).map inc = (sqL j).map inc ++ [inc q]) := hid (by rw [hq]; exact sqL_succ j)
      have hq' : (j : Int) * (j : Int) = q := hq.symm
      have lu : ((sqL j).map inc).length ≤ 1000000 := by rw [List.length_map, sqL_len]; omega
      have d4 := cellOf hs.r2 4
      simp only [List.getElem?_toArray, List.getElem?_cons_zero, List.getElem?_cons_succ] at d4
      have HA1 := hid (hk.below (Nat.le_refl _) ((Below.refl wr.heap.size wr).alloc (Nat.le_refl _) (.cells #[.int .i64 q] 2)))
      have HA2 := hid (hs.alloc (.cells #[.int .i64 q] 2))
      have HA3 := hid (Nat.le_trans hs.size (by simp : wr.heap.size ≤ (wr.alloc (.cells #[.int .i64 q] 2)).heap.size))
      clear hs hk hq
      go_wp2_with (at_builtin; refine wpList_appK Tryz.underlying27 infoI rfl (by decide) (by decide) (wr.alloc (.cells #[.int .i64 q] 2)) rfl _ _ rfl u (.slice (some ⟨wr.heap.size, 0, none⟩) 1 1) (by rfl) (by rfl) (w.heap.size + 3) ((sqL j).map inc) HA1.out (some ⟨wr.heap.size, 0, none⟩) 1 1 rfl [inc q] rfl (crd_one 2 wr (inc q) 1 rfl) (rk_in [q]) (fun e => by cases e) lu (by omega) HA3.out ?_; intro u2 w2 h1 h2 h3; obtain ⟨ua, un, uc, rfl⟩ := h1.form; have H1 := hid h1; have H2 := hid (HA2.out.grown HA1.out h2); clear h1 h2 h3; have e4 := cellOf H2.out.r2 4; have f4 := freeOf H2.out.r2 4; simp only [List.getElem?_toArray, List.getElem?_cons_zero, List.getElem?_cons_succ] at e4)
      go_roundg g
      case measure => omega
      exact ⟨j + 1, _, by omega, by go_num, H2.out.set4 _, by rw [SJ.out]; exact H1.out.setc (by omega) _⟩
    | zero =>
      have hjk : j = ints := by omega
      subst hjk
      have HS1 := hid hs
      have HK1 := hid hk
      clear hs hk HS0
      go_wp2
      go_loopg [11] texts (fun g x wr => ∃ (i : Nat) (v : Value), i + g = texts ∧ x = .int .i64 (i : Int) ∧ HS w u v (.slice none 0 0) wr ∧ KR 2 1 wr (w.heap.size + 3) u ((sqL j).map inc) ∧ KR 9 1 wr (w.heap.size + 3) v ((ttL i).map stc))
      case atStart => exact ⟨0, _, by omega, rfl, HS1.out, HK1.out, KR.nil _ _ _ _⟩
      case round =>
        clear HS1 HK1
        obtain ⟨i, v, hi2, rfl, hs, hk, hv⟩ := hrel
        cases gk with
        | succ g =>
          have hiI : (i : Int) ≤ 59 := by omega
          have hi0 : (0 : Int) ≤ (i : Int) := by omega
          have hin : (i : Int) < (texts : Int) := by omega
          have SJ := hid (ttL_succ i)
          have lu : ((ttL i).map stc).length ≤ 1000000 := by rw [List.length_map, ttL_len]; omega
          have d5 := cellOf hs.r2 5
          simp only [List.getElem?_toArray, List.getElem?_cons_zero, List.getElem?_cons_succ] at d5
          have bA : Below wr.heap.size wr (wr.alloc (.cells #[.string ⟨#[116]⟩] 9)) := (Below.refl _ _).alloc (Nat.le_refl _) _
          have HA0 := hid (hk.below (Nat.le_refl _) bA)
          have HA1 := hid (hv.below (Nat.le_refl _) bA)
          have HA2 := hid (hs.alloc (.cells #[.string ⟨#[116]⟩] 9))
          have HA3 := hid (Nat.le_trans hs.size (by simp : wr.heap.size ≤ (wr.alloc (.cells #[.string ⟨#[116]⟩] 9)).heap.size))
          clear hs hk hv bA
          go_wp2_with (at_builtin; refine wpList_appK Tryz.underlying28 infoS rfl (by decide) (by decide) (wr.alloc (.cells #[.string ⟨#[116]⟩] 9)) rfl _ _ rfl v (.slice (some ⟨wr.heap.size, 0, none⟩) 1 1) (by rfl) (by rfl) (w.heap.size + 3) ((ttL i).map stc) HA1.out (some ⟨wr.heap.size, 0, none⟩) 1 1 rfl [stc ⟨#[116]⟩] rfl (crd_one 9 wr (stc ⟨#[116]⟩) 1 rfl) (rk_st ⟨#[116]⟩) (fun e => by cases e) lu (by omega) HA3.out ?_; intro u2 w2 h1 h2 h3; obtain ⟨ua, un, uc, rfl⟩ := h1.form; have H1 := hid h1; have H0 := hid (HA0.out.other (by decide) HA1.out h2); have H2 := hid (HA2.out.grown HA1.out h2); clear h1 h2 h3; have e5 := cellOf H2.out.r2 5; have f5 := freeOf H2.out.r2 5; simp only [List.getElem?_toArray, List.getElem?_cons_zero, List.getElem?_cons_succ] at e5)
          go_roundg g
          case measure => omega
          exact ⟨i + 1, _, by omega, by go_num, H2.out.set5 _, H0.out.setc (by omega) _, by rw [SJ.out]; exact H1.out.setc (by omega) _⟩
        | zero =>
          have hik : i = texts := by omega
          subst hik
          obtain ⟨ua, un, uc, rfl⟩ := hk.form
          obtain ⟨va, vn, vc, rfl⟩ := hv.form
          have hsz := hs.size
          obtain ⟨A2, hA2⟩ : ∃ A2, A2 = wr.alloc (.cells #[.int .i64 35, .int .i64 0, .int .i64 0, .int .i64 0, .int .i64 0] 54) := ⟨_, rfl⟩
          obtain ⟨A3, hA3⟩ : ∃ A3, A3 = A2.alloc (.cells #[.int .i64 regs, .slice (some ⟨wr.heap.size, 0, none⟩) 1 1] 57) := ⟨_, rfl⟩
          have y2 : A2.heap.size = wr.heap.size + 1 := by rw [hA2]; simp
          have b2 : Below wr.heap.size wr A2 := by rw [hA2]; exact (Below.refl _ _).alloc (Nat.le_refl _) _
          have b3 : Below A2.heap.size A2 A3 := by rw [hA3]; exact (Below.refl _ _).alloc (Nat.le_refl _) _
          have HS2 := hid (show HS w (.slice ua un uc) (.slice va vn vc) (.slice none 0 0) A3 by rw [hA3, hA2]; exact (hs.alloc _).alloc _)
          have KU := hid ((hk.below (Nat.le_refl _) b2).below (Nat.le_refl _) b3)
          have KV := hid ((hv.below (Nat.le_refl _) b2).below (Nat.le_refl _) b3)
          have ko0 : KR 54 5 A2 wr.heap.size (.slice (some ⟨wr.heap.size, 0, none⟩) 1 1) ((opL 0).map opc) := by rw [hA2]; exact KR.one wr (opc ⟨35, 0, 0, 0, 0⟩) rfl (fun u hu => (rk_op [⟨35, 0, 0, 0, 0⟩]).one _ (by simp) u hu)
          have KO := hid ((ko0.lower hsz).below (Nat.le_refl _) b3)
          have YB := hid (show A3.heap[wr.heap.size + 1]? = some (.cells #[.int .i64 regs, .slice (some ⟨wr.heap.size, 0, none⟩) 1 1] 57 (0, 0)) by rw [hA3, ← y2]; exact heap_alloc_new A2 _)
          obtain ⟨Y, hY⟩ : ∃ Y, Y = wr.heap.size + 1 := ⟨_, rfl⟩
          have hYB : w.heap.size + 3 ≤ Y := by omega
          rw [← hY] at YB
          clear hs hk hv y2 b2 b3 ko0
          go_upto_region 11 with fail
          rw [← hA2, ← hA3, ← hY]
          clear hA2 hA3 hY
          go_wp2
          go_loopg [13] ops (fun g x wr => ∃ (q : Nat) (z : Value), q + g = ops ∧ x = .int .i64 (q : Int) ∧ HS w (.slice ua un uc) (.slice va vn vc) (.slice none 0 0) wr ∧ KR 2 1 wr (w.heap.size + 3) (.slice ua un uc) ((sqL j).map inc) ∧ KR 9 1 wr (w.heap.size + 3) (.slice va vn vc) ((ttL i).map stc) ∧ KR 54 5 wr (w.heap.size + 3) z ((opL q).map opc) ∧ wr.heap[Y]? = some (.cells #[.int .i64 regs, z] 57 (0, 0)))
          case atStart => exact ⟨0, _, by omega, rfl, HS2.out, KU.out, KV.out, KO.out, YB.out⟩
          case round =>
            clear HS2 KU KV KO YB
            obtain ⟨q, z, hq, rfl, hs, hk, hv, hz, hy⟩ := hrel
            have d0 := cellOf hy 0
            have d1 := cellOf hy 1
            simp only [List.getElem?_toArray, List.getElem?_cons_zero, List.getElem?_cons_succ] at d0 d1
            cases gk with
            | succ g =>
              have hqI : (q : Int) ≤ 59 := by omega
              have hq0 : (0 : Int) ≤ (q : Int) := by omega
              have hqn : (q : Int) < (ops : Int) := by omega
              have SJ := hid (opL_succ q)
              have lu : ((opL q).map opc).length ≤ 1000000 := by rw [List.length_map, opL_len]; omega
              have bA : Below wr.heap.size wr (wr.alloc (.cells #[.int .i64 3, .int .i64 0, .int .i64 0, .int .i64 0, .int .i64 ((q : Int) % 2)] 54)) := (Below.refl _ _).alloc (Nat.le_refl _) _
              have HA0 := hid (hk.below (Nat.le_refl _) bA)
              have HA4 := hid (hv.below (Nat.le_refl _) bA)
              have HA1 := hid (hz.below (Nat.le_refl _) bA)
              have HA2 := hid (hs.alloc (.cells #[.int .i64 3, .int .i64 0, .int .i64 0, .int .i64 0, .int .i64 ((q : Int) % 2)] 54))
              have HA3 := hid (Nat.le_trans hs.size bA.size)
              have HY := hid ((bA.block _ (lt_of_heap hy)).trans hy)
              clear hs hk hv hz hy bA
              go_wp2_with (at_builtin; refine wpList_appK Tryz.underlying55 infoO rfl (by decide) (by decide) (wr.alloc (.cells #[.int .i64 3, .int .i64 0, .int .i64 0, .int .i64 0, .int .i64 ((q : Int) % 2)] 54)) rfl _ _ rfl z (.slice (some ⟨wr.heap.size, 0, none⟩) 1 1) (by rfl) (by rfl) (w.heap.size + 3) ((opL q).map opc) HA1.out (some ⟨wr.heap.size, 0, none⟩) 1 1 rfl [opc ⟨3, 0, 0, 0, (q : Int) % 2⟩] rfl (crd_one 54 wr (opc ⟨3, 0, 0, 0, (q : Int) % 2⟩) 5 rfl) (rk_op [⟨3, 0, 0, 0, (q : Int) % 2⟩]) (fun e => by cases e) lu (by omega) HA3.out ?_; intro u2 w2 h1 h2 h3; obtain ⟨za, zn, zc, rfl⟩ := h1.form; have H1 := hid h1; have H0 := hid (HA0.out.other (by decide) HA1.out h2); have H4 := hid (HA4.out.other (by decide) HA1.out h2); have H2 := hid (HA2.out.grown HA1.out h2); have hy2 := (h2.block Y (lt_of_heap HY.out) (fun e => HA1.out.ne (by decide) HY.out e.symm)).trans HY.out; have H5 := hid hy2; clear h1 h2 h3; have e1 := cellOf hy2 1; have f1 := freeOf hy2 1; clear hy2; simp only [List.getElem?_toArray, List.getElem?_cons_zero, List.getElem?_cons_succ] at e1)
              go_roundg g
              case measure => omega
              exact ⟨q + 1, _, by omega, by go_num, H2.out.sety hYB _ _, H0.out.sety (by decide) H5.out _ _, H4.out.sety (by decide) H5.out _ _, by rw [SJ.out]; exact H1.out.sety (by decide) H5.out _ _, heap_set_at H5.out 1 _⟩
            | zero =>
              have hqk : q = ops := by omega
              subst hqk
              have lu : ((opL q).map opc).length ≤ 1000000 := by rw [List.length_map, opL_len]; omega
              have SJ : Hid ((opL q ++ [(⟨40, 0, -1, 0, 0⟩ : Opx)]).map opc = (opL q).map opc ++ [opc ⟨40, 0, -1, 0, 0⟩]) := hid (by rw [List.map_append]; rfl)
              have bA : Below wr.heap.size wr (wr.alloc (.cells #[.int .i64 40, .int .i64 0, .int .i64 (-1), .int .i64 0, .int .i64 0] 54)) := (Below.refl _ _).alloc (Nat.le_refl _) _
              have HA0 := hid (hk.below (Nat.le_refl _) bA)
              have HA4 := hid (hv.below (Nat.le_refl _) bA)
              have HA1 := hid (hz.below (Nat.le_refl _) bA)
              have HA2 := hid (hs.alloc (.cells #[.int .i64 40, .int .i64 0, .int .i64 (-1), .int .i64 0, .int .i64 0] 54))
              have HA3 := hid (Nat.le_trans hs.size bA.size)
              have HY := hid ((bA.block _ (lt_of_heap hy)).trans hy)
              clear hs hk hv hz hy bA
              go_upto_region 16 with (at_builtin; refine wpList_appK Tryz.underlying55 infoO rfl (by decide) (by decide) (wr.alloc (.cells #[.int .i64 40, .int .i64 0, .int .i64 (-1), .int .i64 0, .int .i64 0] 54)) rfl _ _ rfl z (.slice (some ⟨wr.heap.size, 0, none⟩) 1 1) (by rfl) (by rfl) (w.heap.size + 3) ((opL q).map opc) HA1.out (some ⟨wr.heap.size, 0, none⟩) 1 1 rfl [opc ⟨40, 0, -1, 0, 0⟩] rfl (crd_one 54 wr (opc ⟨40, 0, -1, 0, 0⟩) 5 rfl) (rk_op [⟨40, 0, -1, 0, 0⟩]) (fun e => by cases e) lu (by omega) HA3.out ?_; intro u2 w2 h1 h2 h3; obtain ⟨za, zn, zc, rfl⟩ := h1.form; have H1 := hid h1; have H0 := hid (HA0.out.other (by decide) HA1.out h2); have H4 := hid (HA4.out.other (by decide) HA1.out h2); have H2 := hid (HA2.out.grown HA1.out h2); have hy2 := (h2.block Y (lt_of_heap HY.out) (fun e => HA1.out.ne (by decide) HY.out e.symm)).trans HY.out; have H5 := hid hy2; clear h1 h2 h3; have e1 := cellOf hy2 1; have f1 := freeOf hy2 1; clear hy2; simp only [List.getElem?_toArray, List.getElem?_cons_zero, List.getElem?_cons_succ] at e1)
              obtain ⟨W3, hW3⟩ : ∃ W3, W3 = w2.setCell ⟨Y, 1, none⟩ (.slice za zn zc) := ⟨_, rfl⟩
              have s3 : HS w (.slice ua un uc) (.slice va vn vc) (.slice none 0 0) W3 := by rw [hW3]; exact H2.out.sety hYB _ _
              have k3 : KR 2 1 W3 (w.heap.size + 3) (.slice ua un uc) ((sqL j).map inc) := by rw [hW3]; exact H0.out.sety (by decide) H5.out _ _
              have v3 : KR 9 1 W3 (w.heap.size + 3) (.slice va vn vc) ((ttL i).map stc) := by rw [hW3]; exact H4.out.sety (by decide) H5.out _ _
              have o3 : KR 54 5 W3 (w.heap.size + 3) (.slice za zn zc) ((opL q ++ [(⟨40, 0, -1, 0, 0⟩ : Opx)]).map opc) := by rw [hW3, SJ.out]; exact H1.out.sety (by decide) H5.out _ _
              have y3 : W3.heap[Y]? = some (.cells #[.int .i64 regs, .slice za zn zc] 57 (0, 0)) := by rw [hW3]; exact heap_set_at H5.out 1 _
              rw [← hW3]
              clear hW3 H0 H1 H2 H4 H5 HA0 HA1 HA2 HA3 HA4 HY d0 d1 e1 f1 SJ lu
              have d0 := cellOf y3 0
              have d1 := cellOf y3 1
              simp only [List.getElem?_toArray, List.getElem?_cons_zero, List.getElem?_cons_succ] at d0 d1
              obtain ⟨W4, hW4⟩ : ∃ W4, W4 = W3.alloc (.cells #[.int .i64 regs, .slice za zn zc] 57) := ⟨_, rfl⟩
              have b4 : Below W3.heap.size W3 W4 := by rw [hW4]; exact (Below.refl _ _).alloc (Nat.le_refl _) _
              have s4 : HS w (.slice ua un uc) (.slice va vn vc) (.slice none 0 0) W4 := by rw [hW4]; exact s3.alloc _
              have k4 := k3.below (Nat.le_refl _) b4
              have v4 := v3.below (Nat.le_refl _) b4
              have o4 := o3.below (Nat.le_refl _) b4
              have m4 : W4.heap[W3.heap.size]? = some (.cells #[.int .i64 regs, .slice za zn zc] 57 (0, 0)) := by rw [hW4]; exact heap_alloc_new W3 _
              obtain ⟨Z, hZ⟩ : ∃ Z, Z = W3.heap.size := ⟨_, rfl⟩
              have hZB : w.heap.size + 3 ≤ Z := by rw [hZ]; exact s3.size
              have e7 := cellOf s4.r2 7
              have f7 := freeOf s4.r2 7
              simp only [List.getElem?_toArray, List.getElem?_cons_zero, List.getElem?_cons_succ] at e7
              obtain ⟨W5, hW5⟩ : ∃ W5, W5 = W4.setCell ⟨w.heap.size + 1 + 1, 7, none⟩ (.slice (some ⟨Z, 0, none⟩) 1 1) := ⟨_, rfl⟩
              have s5 : HS w (.slice ua un uc) (.slice va vn vc) (.slice (some ⟨Z, 0, none⟩) 1 1) W5 := by rw [hW5]; exact s4.set7 _
              have k5 : KR 2 1 W5 (w.heap.size + 3) (.slice ua un uc) ((sqL j).map inc) := by rw [hW5]; exact k4.setc (by omega) _
              have v5 : KR 9 1 W5 (w.heap.size + 3) (.slice va vn vc) ((ttL i).map stc) := by rw [hW5]; exact v4.setc (by omega) _
              have o5 : KR 54 5 W5 (w.heap.size + 3) (.slice za zn zc) ((opL q ++ [(⟨40, 0, -1, 0, 0⟩ : Opx)]).map opc) := by rw [hW5]; exact o4.setc (by omega) _
              have m5 : W5.heap[Z]? = some (.cells #[.int .i64 regs, .slice za zn zc] 57 (0, 0)) := by rw [hW5, Below.heap_setCell _ ⟨w.heap.size + 1 + 1, 7, none⟩ _ _ (show Z ≠ w.heap.size + 1 + 1 by omega), hZ]; exact m4
              have S5 := hid s5
              have K5 := hid k5
              have V5 := hid v5
              have O5 := hid o5
              have M5 := hid m5
              clear s3 k3 v3 o3 y3 b4 s4 k4 v4 o4 m4 s5 k5 v5 o5 m5
              rw [hW4] at e7 f7
              go_upto_region 17 with fail
              rw [← hW4, ← hZ, ← hW5]
              clear hW4 hZ hW5 e7 f7 d0 d1
              obtain ⟨k0, k1, k2, k3, k4, k5, k6, k7⟩ := cell_eight S5.out.r2
              obtain ⟨d0, d1, d2, d3, d4, d5, d6, d7⟩ := cell_eight S5.out.r0
              obtain ⟨y0, y1, y2, y3, y4, y5, y6, y7⟩ := free_eight S5.out.r0
              go_wp2
              obtain ⟨q0, q1, q2, q3, q4, q5, q6, q7⟩ := cell_eight (eight_new S5.out.r0 (.slice none 0 0) (.slice none 0 0) (.slice none 0 0) (.slice (some ⟨w.heap.size + 1, 0, none⟩) 1 1) (.slice ua un uc) (.slice va vn vc) (.slice none 0 0) (.slice (some ⟨Z, 0, none⟩) 1 1))
              have HB6 := eight_below S5.out.b (Nat.le_refl w.heap.size) (.slice none 0 0) (.slice none 0 0) (.slice none 0 0) (.slice (some ⟨w.heap.size + 1, 0, none⟩) 1 1) (.slice ua un uc) (.slice va vn vc) (.slice none 0 0) (.slice (some ⟨Z, 0, none⟩) 1 1)
              have OT := fun (g : Nat) (hg : g ≠ w.heap.size) => eight_other W5 w.heap.size (.slice none 0 0) (.slice none 0 0) (.slice none 0 0) (.slice (some ⟨w.heap.size + 1, 0, none⟩) 1 1) (.slice ua un uc) (.slice va vn vc) (.slice none 0 0) (.slice (some ⟨Z, 0, none⟩) 1 1) hg
              obtain ⟨cd, jr, ne⟩ := hCd (B := w.heap.size + 3) (S := w.heap.size + 1) (Z := Z) ho hi ht ((OT _ (by omega)).trans S5.out.r1) ((OT _ (by omega)).trans M5.out) (K5.out.keep fun g e => OT g (by have := (K5.out.own e).1; omega)) (V5.out.keep fun g e => OT g (by have := (V5.out.own e).1; omega)) (O5.out.keep fun g e => OT g (by have := (O5.out.own e).1; omega))
              refine bodyPost_ret (w := eight W5 w.heap.size (.slice none 0 0) (.slice none 0 0) (.slice none 0 0) (.slice (some ⟨w.heap.size + 1, 0, none⟩) 1 1) (.slice ua un uc) (.slice va vn vc) (.slice none 0 0) (.slice (some ⟨Z, 0, none⟩) 1 1)) (v := .agg #[.slice none 0 0, .slice none 0 0, .slice none 0 0, .slice (some ⟨w.heap.size + 1, 0, none⟩) 1 1, .slice ua un uc, .slice va vn vc, .slice none 0 0, .slice (some ⟨Z, 0, none⟩) 1 1]) (by simp [results, Tryz.results14, go_sem, q0, q1, q2, q3, q4, q5, q6, q7]) rfl ?_
              exact ⟨HB6, ⟨⟨none, 0, 0, none, 0, 0, none, 0, 0, some ⟨w.heap.size + 1, 0, none⟩, 1, 1⟩, ua, un, uc, va, vn, vc, none, 0, 0, some ⟨Z, 0, none⟩, 1, 1⟩, _, rfl, cd, jr, ne⟩
end Go.Proofs.YthnolocldeokeaaGreat

namespace Go.Proofs.YthnolocldeokeaaGreat
set_option maxRecDepth 100000
open Go.ChangeShapes Go.WideShapes Go.ChangeAt Go.RowKit Go.Deep
set_option linter.unusedVariables false
set_option linter.unusedSimpArgs false
/- A row of functions that came in. -/
structure FwRd (w : World) (a : Option Addr) (n : Nat) (fs : List (FH × Fx)) : Prop where
  rd : FRd w a n fs
  n3 : n ≤ 140737488355328
  o3 : ∀ p ∈ fs, p.1.on ≤ 140737488355328
theorem FwRd.below {w w' : World} {a : Option Addr} {n : Nat} {fs : List (FH × Fx)} {B : Nat} (d : FwRd w a n fs) (hB : w.heap.size ≤ B) (k : Below B w w') : FwRd w' a n fs := ⟨d.rd.below hB k, d.n3, d.o3⟩
section
variable {H : Type} {enc : TypeId × Value → H} {W : World}
/- All that is known of a code that came in. -/
structure CwRd (W : World) (C : CH) (c : Cx) (xs : List Int) (fs es : List (FH × Fx)) : Prop where
  cd : CdRd W C c fs es
  i1 : C.inn = xs.length
  ir : JRd W C.ia xs
  ix : ∀ x ∈ xs, inR x
  f3 : FwRd W C.fa C.fn fs
  e3 : FwRd W C.ea C.en es
theorem CwRd.below {w w' : World} {C : CH} {c : Cx} {xs : List Int} {fs es : List (FH × Fx)} (d : CwRd w C c xs fs es) (k : Below w.heap.size w w') : CwRd w' C c xs fs es := ⟨d.cd.below (Nat.le_refl _) k, d.i1, CRd.below d.ir (Nat.le_refl _) k, d.ix, d.f3.below (Nat.le_refl _) k, d.e3.below (Nat.le_refl _) k⟩
end
end Go.Proofs.YthnolocldeokeaaGreat

namespace Go.Proofs.YthnolocldeokeaaGreat
open Go.RowKit Go.Deep Go.Shelf
set_option linter.unusedVariables false
set_option linter.unusedSimpArgs false
set_option maxRecDepth 100000
theorem Says.any {w w' : World} (h : Below w.heap.size w w') (b : Bool) : Says w True (.returned (.bool b)) w' := ⟨h, b, rfl, fun _ => trivial⟩
end Go.Proofs.YthnolocldeokeaaGreat

namespace Go.Proofs.YthnolocldeokeaaGreat
open Go.RowKit Go.Deep Go.Shelf
set_option linter.unusedVariables false
set_option linter.unusedSimpArgs false
set_option maxRecDepth 100000
structure Trip {α : Type} (r : Option (List Nat) → α × Option (List Nat)) (e : α → List Nat) (P : α → Prop) : Prop where
  fw : ∀ x m, P x → r (some (e x ++ m)) = (x, some m)
  bk : ∀ bs x m, Byt bs → r (some bs) = (x, some m) → bs = e x ++ m ∧ P x
  no : (r none).2 = none
theorem Byt.tail {a m : List Nat} (h : Byt (a ++ m)) : Byt m := fun x hx => h x (List.mem_append.2 (.inr hx))
theorem Trip.via {α : Type} {r : Option (List Nat) → α × Option (List Nat)} {e e' : α → List Nat} {P : α → Prop} (h : Trip r e P) (he : ∀ x, e' x = e x) : Trip r e' P :=
  ⟨fun x m hp => by rw [he]; exact h.fw x m hp, fun bs x m hb q => by rw [he]; exact h.bk bs x m hb q, h.no⟩
theorem tripU : Trip rU enc (fun n => n < 18446744073709551616) := by
  refine ⟨fun x m h => ?_, fun bs x m hb h => ?_, by simp [rU, dec, decAt]⟩
  · unfold rU
    rw [Option.getD_some, dec_enc x m h]
    simp
  · unfold rU at h
    rw [Option.getD_some] at h
    cases hd : dec bs with
    | none => rw [hd] at h; simp at h
    | some p =>
      obtain ⟨q, k⟩ := p
      rw [hd] at h
      simp only [Prod.mk.injEq, Option.some.injEq] at h
      obtain ⟨rfl, rfl⟩ := h
      obtain ⟨h1, h2, _⟩ := dec_back hb hd
      exact ⟨by rw [← h1, List.take_append_drop], h2⟩
theorem unzz_inR {q : Nat} (h : q < 18446744073709551616) : inR (unzz q) := by
  unfold unzz inR
  split <;> omega
theorem tripI : Trip rI (fun k => enc (zz k)) inR := by
  refine ⟨fun x m h => ?_, fun bs x m hb h => ?_, by simp [rI, dec, decAt]⟩
  · unfold rI
    rw [Option.getD_some, dec_enc _ m (zz_lt x h.1 h.2)]
    simp [unzz_zz]
  · unfold rI at h
    rw [Option.getD_some] at h
    cases hd : dec bs with
    | none => rw [hd] at h; simp at h
    | some p =>
      obtain ⟨q, k⟩ := p
      rw [hd] at h
      simp only [Prod.mk.injEq, Option.some.injEq] at h
      obtain ⟨rfl, rfl⟩ := h
      obtain ⟨h1, h2, _⟩ := dec_back hb hd
      exact ⟨by rw [zz_unzz, ← h1, List.take_append_drop], unzz_inR h2⟩
theorem tripC (most : Nat) (hm : most < 18446744073709551616) : Trip (rC most) enc (fun n => n ≤ most) := by
  refine ⟨fun x m h => ?_, fun bs x m hb h => ?_, ?_⟩
  · unfold rC
    rw [tripU.fw x m (by omega), if_neg (by simp; omega)]
  · unfold rC at h
    split at h
    · simp at h
    · rename_i hn
      obtain ⟨h1, h2⟩ := tripU.bk bs x m hb h
      rw [h] at hn
      exact ⟨h1, by simpa using hn⟩
  · unfold rC
    split
    · rfl
    · exact tripU.no
def PN (k : Int) : Prop := -1 ≤ k ∧ k ≤ 2000
theorem tripN : Trip rN (fun k => enc (zz k)) PN := by
  refine ⟨fun x m h => ?_, fun bs x m hb h => ?_, ?_⟩
  · obtain ⟨h1, h2⟩ := h
    unfold rN
    rw [tripI.fw x m ⟨by omega, by omega⟩, if_neg (by simp; omega)]
  · unfold rN at h
    split at h
    · simp at h
    · rename_i hn
      obtain ⟨h1, h2⟩ := tripI.bk bs x m hb h
      rw [h] at hn
      simp at hn
      exact ⟨h1, ⟨by omega, by omega⟩⟩
  · unfold rN
    split
    · rfl
    · exact tripI.no
theorem tripT : Trip rT encX (fun s => s.size ≤ 64) := by
  refine ⟨fun x m h => ?_, fun bs x m hb h => ?_, by simp [rT, textD, dec, decAt]⟩
  · unfold rT
    rw [Option.getD_some, textD_more 64 x m (by omega), if_neg (by omega)]
    simp [ofB_sb]
  · unfold rT at h
    rw [Option.getD_some] at h
    cases ht : textD 64 bs with
    | error e => rw [ht] at h; simp at h
    | ok p =>
      obtain ⟨t, k⟩ := p
      rw [ht] at h
      simp only [Prod.mk.injEq, Option.some.injEq] at h
      obtain ⟨rfl, rfl⟩ := h
      unfold textD at ht
      cases hd : dec bs with
      | none => rw [hd] at ht; cases ht
      | some p =>
        obtain ⟨n, k'⟩ := p
        rw [hd] at ht
        simp only at ht
        split at ht
        · cases ht
        · split at ht
          · cases ht
          · rename_i h1 h2
            simp only [Except.ok.injEq, Prod.mk.injEq] at ht
            obtain ⟨rfl, rfl⟩ := ht
            obtain ⟨e1, _⟩ := dec_back hb hd
            have hl : ((bs.drop k').take n).length = n := by rw [List.length_take, List.length_drop]; omega
            have hB : Byt ((bs.drop k').take n) := (hb.drop k').take n
            refine ⟨?_, by rw [ofB_size, hl]; omega⟩
            unfold encX
            rw [ofB_size, hl, sb_ofB hB, ← e1, List.append_assoc, ← List.drop_drop, List.take_append_drop, List.take_append_drop]
theorem Trip.two {α β γ : Type} {r1 : Option (List Nat) → α × Option (List Nat)} {e1 : α → List Nat} {P1 : α → Prop} {r2 : Option (List Nat) → β × Option (List Nat)} {e2 : β → List Nat} {P2 : β → Prop} (h1 : Trip r1 e1 P1) (h2 : Trip r2 e2 P2) (mk : α → β → γ) (a : γ → α) (b : γ → β) (ha : ∀ x y, a (mk x y) = x) (hb : ∀ x y, b (mk x y) = y) (hm : ∀ z, mk (a z) (b z) = z) :
    Trip (fun s => (mk (r1 s).1 (r2 (r1 s).2).1, (r2 (r1 s).2).2)) (fun z => e1 (a z) ++ e2 (b z)) (fun z => P1 (a z) ∧ P2 (b z)) := by
  refine ⟨fun z m h => ?_, fun bs z m hB h => ?_, ?_⟩
  · simp only [List.append_assoc, h1.fw _ _ h.1, h2.fw _ _ h.2, hm]
  · simp only [Prod.mk.injEq] at h
    obtain ⟨hz, hs⟩ := h
    rcases q1 : r1 (some bs) with ⟨x, s1⟩
    rw [q1] at hz hs
    simp only at hz hs
    cases s1 with
    | none => rw [h2.no] at hs; cases hs
    | some m1 =>
      obtain ⟨e, p⟩ := h1.bk _ _ _ hB q1
      rcases q2 : r2 (some m1) with ⟨y, s2⟩
      rw [q2] at hz hs
      simp only at hz hs
      subst hs
      have hB2 : Byt m1 := by rw [e] at hB; exact hB.tail
      obtain ⟨e', p'⟩ := h2.bk _ _ _ hB2 q2
      subst hz
      refine ⟨?_, by rw [ha]; exact p, by rw [hb]; exact p'⟩
      rw [ha, hb, List.append_assoc, ← e', ← e]
  · show (r2 (r1 none).2).2 = none
    rw [h1.no]; exact h2.no
theorem Trip.three {α β δ γ : Type} {r1 : Option (List Nat) → α × Option (List Nat)} {e1 : α → List Nat} {P1 : α → Prop} {r2 : Option (List Nat) → β × Option (List Nat)} {e2 : β → List Nat} {P2 : β → Prop} {r3 : Option (List Nat) → δ × Option (List Nat)} {e3 : δ → List Nat} {P3 : δ → Prop} (h1 : Trip r1 e1 P1) (h2 : Trip r2 e2 P2) (h3 : Trip r3 e3 P3) (mk : α → β → δ → γ) (a : γ → α) (b : γ → β) (c : γ → δ) (ha : ∀ x y z, a (mk x y z) = x) (hb : ∀ x y z, b (mk x y z) = y) (hc : ∀ x y z, c (mk x y z) = z) (hm : ∀ z, mk (a z) (b z) (c z) = z) :
    Trip (fun s => (mk (r1 s).1 (r2 (r1 s).2).1 (r3 (r2 (r1 s).2).2).1, (r3 (r2 (r1 s).2).2).2)) (fun z => e1 (a z) ++ e2 (b z) ++ e3 (c z)) (fun z => P1 (a z) ∧ P2 (b z) ∧ P3 (c z)) :=
  (h1.two (h2.two h3 Prod.mk Prod.fst Prod.snd (fun _ _ => rfl) (fun _ _ => rfl) (fun _ => rfl)) (fun x p => mk x p.1 p.2) a (fun z => (b z, c z)) (fun x y => ha _ _ _) (fun x y => by rw [hb, hc]) hm).via (fun x => List.append_assoc _ _ _)
def PT (t : TyP) : Prop := PN t.1 ∧ PN t.2
theorem tripTy : Trip rTy encTy PT := tripN.two tripN Prod.mk Prod.fst Prod.snd (fun _ _ => rfl) (fun _ _ => rfl) (fun _ => rfl)
theorem ln_fw {α : Type} {r : Option (List Nat) → α × Option (List Nat)} {e : α → List Nat} {P : α → Prop} (h : Trip r e P) : ∀ (n : Nat) (l : List α), l.length = n → (∀ x ∈ l, P x) → ∀ m, rLn r n (some ((l.map e).flatten ++ m)) = (l, some m)
  | 0, l, hl, _, m => by
    have := List.eq_nil_of_length_eq_zero hl
    subst this
    simp [rLn]
  | n + 1, l, hl, hp, m => by
    rcases List.eq_nil_or_concat l with rfl | ⟨L, b, hL⟩
    · simp at hl
    · rw [List.concat_eq_append] at hL
      subst hL
      have ih := ln_fw h n L (by simpa using hl) (fun x hx => hp x (by simp [hx])) (e b ++ m)
      have hb := h.fw b m (hp b (by simp))
      have e1 : ((L ++ [b]).map e).flatten ++ m = (L.map e).flatten ++ (e b ++ m) := by simp
      rw [e1, rLn, ih]
      simp only [hb]
theorem ln_bk {α : Type} {r : Option (List Nat) → α × Option (List Nat)} {e : α → List Nat} {P : α → Prop} (h : Trip r e P) : ∀ (n : Nat) (bs : List Nat) (l : List α) (m : List Nat), Byt bs → rLn r n (some bs) = (l, some m) → l.length = n ∧ bs = (l.map e).flatten ++ m ∧ ∀ x ∈ l, P x
  | 0, bs, l, m, hb, q => by
    simp only [rLn, Prod.mk.injEq, Option.some.injEq] at q
    obtain ⟨rfl, rfl⟩ := q
    simp
  | n + 1, bs, l, m, hb, q => by
    rw [rLn] at q
    rcases q1 : rLn r n (some bs) with ⟨xs, st⟩
    rw [q1] at q
    cases st with
    | none => simp at q
    | some b1 =>
      simp only at q
      rcases q2 : r (some b1) with ⟨x, s2⟩
      rw [q2] at q
      cases s2 with
      | none => simp at q
      | some b2 =>
        simp only [Prod.mk.injEq, Option.some.injEq] at q
        obtain ⟨rfl, rfl⟩ := q
        obtain ⟨i1, i2, i3⟩ := ln_bk h n bs xs b1 hb q1
        have hB : Byt b1 := by rw [i2] at hb; exact hb.tail
        obtain ⟨j1, j2⟩ := h.bk b1 x b2 hB q2
        refine ⟨by simp [i1], ?_, fun y hy => ?_⟩
        · rw [i2, j1]; simp
        · rcases List.mem_append.1 hy with hy | hy
          · exact i3 y hy
          · simp at hy; subst hy; exact j2
theorem Trip.list {α : Type} {r : Option (List Nat) → α × Option (List Nat)} {e : α → List Nat} {P : α → Prop} (h : Trip r e P) (most : Nat) (hm : most < 18446744073709551616) : Trip (rL r most) (fun l => enc l.length ++ (l.map e).flatten) (fun l => l.length ≤ most ∧ ∀ x ∈ l, P x) := by
  have hC := tripC most hm
  refine ⟨fun l m hl => ?_, fun bs l m hB q => ?_, ?_⟩
  · unfold rL
    rw [List.append_assoc, hC.fw _ _ hl.1]
    exact ln_fw h _ l rfl hl.2 m
  · unfold rL at q
    rcases q1 : rC most (some bs) with ⟨n, st⟩
    rw [q1] at q
    simp only at q
    cases st with
    | none => have := rLn_from (one := r) n; rw [q] at this; cases this
    | some b1 =>
      obtain ⟨j1, j2⟩ := hC.bk bs n b1 hB q1
      have hB1 : Byt b1 := by rw [j1] at hB; exact hB.tail
      obtain ⟨i1, i2, i3⟩ := ln_bk h n b1 l m hB1 q
      exact ⟨by rw [i1, List.append_assoc, ← i2, ← j1], by rw [i1]; exact j2, i3⟩
  · unfold rL
    rw [hC.no]
    exact rLn_from _
theorem tripMp : Trip rMp encMp (fun m => m.name.size ≤ 64 ∧ PT m.key ∧ PT m.val) :=
  tripT.three tripTy tripTy (fun a b c => (⟨a, b, c⟩ : Mp)) Mp.name Mp.key Mp.val (fun _ _ _ => rfl) (fun _ _ _ => rfl) (fun _ _ _ => rfl) (fun _ => rfl)
def PTs (ts : List TyP) : Prop := ts.length ≤ 12 ∧ ∀ t ∈ ts, PT t
def PSs (ss : List ByteArray) : Prop := ss.length ≤ 12 ∧ ∀ s ∈ ss, s.size ≤ 64
def PSg (s : Sg) : Prop := s.name.size ≤ 64 ∧ PTs s.params ∧ PT s.res
def PRc (r : Rc) : Prop := r.name.size ≤ 64 ∧ PSs r.fields ∧ PTs r.types
theorem tripSg : Trip rSg encSg PSg :=
  tripT.three (tripTy.list 12 (by omega)) tripTy (fun a b c => (⟨a, b, c⟩ : Sg)) Sg.name Sg.params Sg.res (fun _ _ _ => rfl) (fun _ _ _ => rfl) (fun _ _ _ => rfl) (fun _ => rfl)
theorem tripRc : Trip rRc encRc PRc :=
  tripT.three (tripT.list 12 (by omega)) (tripTy.list 12 (by omega)) (fun a b c => (⟨a, b, c⟩ : Rc)) Rc.name Rc.fields Rc.types (fun _ _ _ => rfl) (fun _ _ _ => rfl) (fun _ _ _ => rfl) (fun _ => rfl)
def fde (what v : Int) : List Nat := if what = 0 then [] else enc (zz v)
def PF (what v : Int) : Prop := if what = 0 then v = 0 else PN v
theorem tripFd (what : Int) : Trip (rFd what) (fde what) (PF what) := by
  by_cases h : what = 0
  · refine ⟨fun x m hp => ?_, fun bs x m hb q => ?_, ?_⟩
    · simp only [PF, if_pos h] at hp
      simp [rFd, fde, h, hp]
    · simp only [rFd, if_pos h, Prod.mk.injEq, Option.some.injEq] at q
      obtain ⟨rfl, rfl⟩ := q
      simp [fde, PF, h]
    · simp [rFd, h]
  · refine ⟨fun x m hp => ?_, fun bs x m hb q => ?_, ?_⟩
    · simp only [PF, if_neg h] at hp
      simp only [rFd, fde, if_neg h]
      exact tripN.fw x m hp
    · simp only [rFd, if_neg h] at q
      simp only [fde, PF, if_neg h]
      exact tripN.bk bs x m hb q
    · simp only [rFd, if_neg h]
      exact tripN.no
def r4 (s : Shp) (st : Option (List Nat)) : (Int × Int × Int × Int) × Option (List Nat) :=
  (((rFd s.d st).1, (rFd s.a (rFd s.d st).2).1, (rFd s.b (rFd s.a (rFd s.d st).2).2).1, (rFd s.k (rFd s.b (rFd s.a (rFd s.d st).2).2).2).1), (rFd s.k (rFd s.b (rFd s.a (rFd s.d st).2).2).2).2)
theorem trip4 (s : Shp) : Trip (r4 s) (fun z => fde s.d z.1 ++ (fde s.a z.2.1 ++ (fde s.b z.2.2.1 ++ fde s.k z.2.2.2))) (fun z => PF s.d z.1 ∧ PF s.a z.2.1 ∧ PF s.b z.2.2.1 ∧ PF s.k z.2.2.2) :=
  (tripFd s.d).two ((tripFd s.a).two ((tripFd s.b).two (tripFd s.k) Prod.mk Prod.fst Prod.snd (fun _ _ => rfl) (fun _ _ => rfl) (fun _ => rfl)) Prod.mk Prod.fst Prod.snd (fun _ _ => rfl) (fun _ _ => rfl) (fun _ => rfl)) Prod.mk Prod.fst Prod.snd (fun _ _ => rfl) (fun _ _ => rfl) (fun _ => rfl)
theorem rO_eq (s : Option (List Nat)) : rO s = (⟨(rN s).1, (r4 (rSh (rN s).1) (rOs s)).1.1, (r4 (rSh (rN s).1) (rOs s)).1.2.1, (r4 (rSh (rN s).1) (rOs s)).1.2.2.1, (r4 (rSh (rN s).1) (rOs s)).1.2.2.2⟩, (r4 (rSh (rN s).1) (rOs s)).2) := rfl
theorem encOp_eq (o : Opx) : encOp o = enc (zz o.c) ++ (fde (shpAt o.c).d o.d ++ (fde (shpAt o.c).a o.a ++ (fde (shpAt o.c).b o.b ++ fde (shpAt o.c).k o.k))) := by
  simp [encOp, fourL, foe, fl, fde]
  rfl
def PO (o : Opx) : Prop := isC o.c = true ∧ PF (shpAt o.c).d o.d ∧ PF (shpAt o.c).a o.a ∧ PF (shpAt o.c).b o.b ∧ PF (shpAt o.c).k o.k
theorem tripO : Trip rO encOp PO := by
  refine ⟨fun o m hp => ?_, fun bs o m hB q => ?_, ?_⟩
  · obtain ⟨hc, hp⟩ := hp
    have hc2 : PN o.c := by unfold isC at hc; simp only [Bool.and_eq_true, decide_eq_true_eq] at hc; exact ⟨by omega, by omega⟩
    have q0 : rN (some (encOp o ++ m)) = (o.c, some ((fde (shpAt o.c).d o.d ++ (fde (shpAt o.c).a o.a ++ (fde (shpAt o.c).b o.b ++ fde (shpAt o.c).k o.k))) ++ m)) := by
      rw [encOp_eq, List.append_assoc]; exact tripN.fw _ _ hc2
    have q1 := (trip4 (shpAt o.c)).fw (o.d, o.a, o.b, o.k) m hp
    rw [rO_eq]
    simp only [q0, rOs, rSh, hc, if_pos]
    simp only at q1
    rw [q1]
  · rw [rO_eq] at q
    rcases q0 : rN (some bs) with ⟨c, s0⟩
    simp only [q0, rOs, rSh] at q
    cases hc : isC c with
    | false =>
      rw [hc] at q
      simp only [Bool.false_eq_true, if_false] at q
      have := congrArg Prod.snd q
      simp only at this
      rw [(trip4 shp0).no] at this
      cases this
    | true =>
      rw [hc] at q
      simp only [if_true] at q
      cases s0 with
      | none =>
        have := congrArg Prod.snd q
        simp only at this
        rw [(trip4 (shpAt c)).no] at this
        cases this
      | some b1 =>
        obtain ⟨e1, p1⟩ := tripN.bk bs c b1 hB q0
        have hB1 : Byt b1 := by rw [e1] at hB; exact hB.tail
        rcases q2 : r4 (shpAt c) (some b1) with ⟨⟨d, a, b, k⟩, s2⟩
        rw [q2] at q
        simp only [Prod.mk.injEq] at q
        obtain ⟨rfl, rfl⟩ := q
        obtain ⟨e2, p2⟩ := (trip4 (shpAt c)).bk b1 (d, a, b, k) m hB1 q2
        refine ⟨?_, hc, p2⟩
        rw [encOp_eq, List.append_assoc, ← e2, ← e1]
  · rw [rO_eq]
    simp only [rOs]
    have : (if isC (rN none).1 = true then (rN none).2 else none) = none := by
      split
      · exact tripN.no
      · rfl
    rw [this]
    exact (trip4 _).no
def PFx (f : Fx) : Prop := PN f.regs ∧ f.ops.length ≤ 2000 ∧ ∀ o ∈ f.ops, PO o
theorem tripFn : Trip rFn encFx PFx :=
  tripN.two (tripO.list 2000 (by omega)) (fun a b => (⟨a, b⟩ : Fx)) Fx.regs Fx.ops (fun _ _ => rfl) (fun _ _ => rfl) (fun _ => rfl)
end Go.Proofs.YthnolocldeokeaaGreat

namespace Go.Proofs.YthnolocldeokeaaGreat
open Go.RowKit Go.Deep Go.Shelf
set_option linter.unusedVariables false
set_option linter.unusedSimpArgs false
set_option maxRecDepth 100000
theorem simB_P {t : TyP} (h : simB t = true) : PT t := by
  unfold simB at h
  simp only [Bool.and_eq_true, Bool.or_eq_true, decide_eq_true_eq] at h
  exact ⟨⟨by omega, by omega⟩, ⟨by omega, by omega⟩⟩
theorem typB_P {n : Nat} (hn : n ≤ 16) {t : TyP} (h : typB n t = true) : PT t := by
  unfold typB at h
  split at h
  · simp only [Bool.and_eq_true, decide_eq_true_eq] at h
    exact ⟨⟨by omega, by omega⟩, ⟨by omega, by omega⟩⟩
  · exact simB_P h
theorem keyB_P {t : TyP} (h : keyB t = true) : PT t := by
  unfold keyB at h
  simp only [Bool.and_eq_true, Bool.or_eq_true, decide_eq_true_eq] at h
  exact ⟨⟨by omega, by omega⟩, ⟨by omega, by omega⟩⟩
theorem noneB_P {t : TyP} (h : noneB t = true) : PT t := by
  unfold noneB at h
  simp only [Bool.and_eq_true, decide_eq_true_eq] at h
  exact ⟨⟨by omega, by omega⟩, ⟨by omega, by omega⟩⟩
theorem sigs_P {n : Nat} (hn : n ≤ 16) {l : List (GH × Sg)} (h : sigsB n (l.map (·.2)) = true) : (l.map (·.2)).length ≤ 16 ∧ ∀ s ∈ l.map (·.2), PSg s := by
  have sm := sigs_sm h
  unfold sigsB at h
  simp only [Bool.and_eq_true, decide_eq_true_eq] at h
  refine ⟨h.1.1, fun s hs => ?_⟩
  obtain ⟨x, hx, rfl⟩ := List.mem_map.1 hs
  have q := List.all_eq_true.1 h.1.2 _ hs
  unfold sigB at q
  simp only [Bool.and_eq_true, Bool.or_eq_true, decide_eq_true_eq] at q
  have := (sm.2 x hx).1
  exact ⟨by omega, ⟨q.1.1, fun t ht => typB_P hn (List.all_eq_true.1 q.2 t ht)⟩, q.1.2.elim noneB_P (typB_P hn)⟩
theorem bnd_PF {c : Cx} {regs : Int} {nops : Nat} (hr : 0 ≤ regs ∧ regs ≤ 64) (hn : nops ≤ 2000) (hi : c.ints ≤ 1000) (ht : c.texts.length ≤ 1000) (hp : PgSm c.p) {r len x : Int} (hl : 0 ≤ len) (h : inB (bnd c regs nops r len) x = true) : PF r x := by
  have h1 := hp.rl
  have h2 := hp.ml
  have h3 := hp.fl
  have h4 := hp.el
  obtain ⟨q, hq⟩ : ∃ q, q = bnd c regs nops r len := ⟨_, rfl⟩
  rw [← hq] at h
  unfold inB at h
  simp only [Bool.not_eq_true', Bool.or_eq_false_iff, decide_eq_false_iff_not] at h
  unfold bnd at hq
  unfold PF PN
  by_cases c0 : r = 1 ∨ r = 3
  · rw [if_pos c0] at hq; rw [if_neg (by omega : ¬ r = 0)]; subst hq; simp only at h; omega
  rw [if_neg c0] at hq
  by_cases c1 : r = 2 ∨ r = 4
  · rw [if_pos c1] at hq; rw [if_neg (by omega : ¬ r = 0)]; subst hq; simp only at h; omega
  rw [if_neg c1] at hq
  by_cases c2 : r = 5
  · rw [if_pos c2] at hq; rw [if_neg (by omega : ¬ r = 0)]; subst hq; simp only at h; omega
  rw [if_neg c2] at hq
  by_cases c3 : r = 6
  · rw [if_pos c3] at hq; rw [if_neg (by omega : ¬ r = 0)]; subst hq; simp only at h; omega
  rw [if_neg c3] at hq
  by_cases c4 : r = 7
  · rw [if_pos c4] at hq; rw [if_neg (by omega : ¬ r = 0)]; subst hq; simp only at h; omega
  rw [if_neg c4] at hq
  by_cases c5 : r = 8
  · rw [if_pos c5] at hq; rw [if_neg (by omega : ¬ r = 0)]; subst hq; simp only at h; omega
  rw [if_neg c5] at hq
  by_cases c6 : r = 9
  · rw [if_pos c6] at hq; rw [if_neg (by omega : ¬ r = 0)]; subst hq; simp only at h; omega
  rw [if_neg c6] at hq
  by_cases c7 : r = 10
  · rw [if_pos c7] at hq; rw [if_neg (by omega : ¬ r = 0)]; subst hq; simp only at h; omega
  rw [if_neg c7] at hq
  by_cases c8 : r = 11
  · rw [if_pos c8] at hq; rw [if_neg (by omega : ¬ r = 0)]; subst hq; simp only at h; omega
  rw [if_neg c8] at hq
  by_cases c9 : r = 12
  · rw [if_pos c9] at hq; rw [if_neg (by omega : ¬ r = 0)]; subst hq; simp only at h; omega
  rw [if_neg c9] at hq
  by_cases c10 : r = 13
  · rw [if_pos c10] at hq; rw [if_neg (by omega : ¬ r = 0)]; subst hq; simp only at h; omega
  rw [if_neg c10] at hq
  by_cases c11 : r = 14
  · rw [if_pos c11] at hq; rw [if_neg (by omega : ¬ r = 0)]; subst hq; simp only at h; omega
  rw [if_neg c11] at hq
  subst hq
  simp only at h
  split <;> omega
theorem fn_P {c : Cx} (hi : c.ints ≤ 1000) (ht : c.texts.length ≤ 1000) (hp : PgSm c.p) {n : Nat} {f : Fx} (h : isFnB c n f = true) : PFx f := by
  unfold isFnB at h
  simp only [Bool.and_eq_true, Bool.not_eq_true', Bool.or_eq_false_iff, decide_eq_false_iff_not] at h
  obtain ⟨⟨⟨⟨h1, h2⟩, h3⟩, h4⟩, h5⟩ := h
  have hr : 0 ≤ f.regs ∧ f.regs ≤ 64 := by omega
  refine ⟨⟨by omega, by omega⟩, by omega, fun o ho => ?_⟩
  have h6 := List.all_eq_true.1 h5 o ho
  unfold isOpB at h6
  simp only [Bool.and_eq_true] at h6
  obtain ⟨hc, ⟨⟨hd, ha⟩, hb⟩, hk⟩ := h6
  have hl := rowLen_nn (shpAt o.c).k c.p o.k
  exact ⟨hc, bnd_PF hr (by omega) hi ht hp hl hd, bnd_PF hr (by omega) hi ht hp hl ha, bnd_PF hr (by omega) hi ht hp hl hb, bnd_PF hr (by omega) hi ht hp hl hk⟩
theorem fns_P {c : Cx} (hi : c.ints ≤ 1000) (ht : c.texts.length ≤ 1000) (hp : PgSm c.p) {ss : List Sg} {fs : List Fx} (hl : fs.length = ss.length) (h : isFnsB c ss fs = true) : ∀ f ∈ fs, PFx f := fun f hf => by
  obtain ⟨i, hi2, rfl⟩ := List.mem_iff_getElem.1 hf
  have hz : (ss[i]'(by omega), fs[i]) ∈ ss.zip fs := List.mem_iff_getElem.2 ⟨i, by rw [List.length_zip]; omega, List.getElem_zip⟩
  unfold isFnsB at h
  have h1 := List.all_eq_true.1 h _ hz
  exact fn_P (n := (ss[i]'(by omega)).params.length) hi ht hp h1
def PMp (m : Mp) : Prop := m.name.size ≤ 64 ∧ PT m.key ∧ PT m.val
/- What is read may be written. -/
structure AllP (rs : List Rc) (ms : List Mp) (fs es : List Sg) (is : List Int) (ts : List ByteArray) (F E : List Fx) : Prop where
  r : rs.length ≤ 16 ∧ ∀ x ∈ rs, PRc x
  m : ms.length ≤ 16 ∧ ∀ x ∈ ms, PMp x
  f : fs.length ≤ 16 ∧ ∀ x ∈ fs, PSg x
  e : es.length ≤ 16 ∧ ∀ x ∈ es, PSg x
  i : is.length ≤ 1000 ∧ ∀ x ∈ is, inR x
  t : ts.length ≤ 1000 ∧ ∀ x ∈ ts, x.size ≤ 64
  F1 : F.length = fs.length
  F2 : ∀ x ∈ F, PFx x
  E1 : E.length = es.length
  E2 : ∀ x ∈ E, PFx x
theorem is_P {c : Cx} {xs : List Int} (h : isB c = true) (hx : xs.length = c.ints) (hin : ∀ x ∈ xs, inR x) : AllP (c.p.recs.map (·.2)) c.p.maps (c.p.funcs.map (·.2)) (c.p.events.map (·.2)) xs c.texts c.funcs c.events := by
  unfold isB at h
  simp only [Bool.and_eq_true, decide_eq_true_eq] at h
  obtain ⟨⟨⟨⟨⟨h1, h2⟩, h3⟩, h4⟩, h5⟩, h6⟩ := h
  have sm := right_sm h1
  unfold constB at h2
  simp only [Bool.and_eq_true, decide_eq_true_eq] at h2
  unfold rightB at h1
  simp only [Bool.and_eq_true] at h1
  obtain ⟨⟨⟨⟨r1, r2⟩, r3⟩, r4⟩, _⟩ := h1
  unfold recordsB at r1
  simp only [Bool.and_eq_true, decide_eq_true_eq] at r1
  unfold mapsB at r2
  simp only [Bool.and_eq_true, decide_eq_true_eq] at r2
  have hrn : c.p.rn ≤ 16 := sm.rl
  refine ⟨⟨r1.1.1, fun x hx => ?_⟩, ⟨r2.1.1, fun m hm => ?_⟩, sigs_P hrn r3, sigs_P hrn r4, ⟨by omega, hin⟩, ⟨h2.1.2, fun t ht => of_decide_eq_true (List.all_eq_true.1 h2.2 t ht)⟩, by rw [List.length_map]; exact h3, fns_P h2.1.1 h2.1.2 sm (by rw [List.length_map]; exact h3) h5, by rw [List.length_map]; exact h4, fns_P h2.1.1 h2.1.2 sm (by rw [List.length_map]; exact h4) h6⟩
  · have q := List.all_eq_true.1 r1.1.2 x hx
    obtain ⟨y, hy, rfl⟩ := List.mem_map.1 hx
    unfold fieldsB at q
    simp only [Bool.and_eq_true, decide_eq_true_eq] at q
    have s := sm.r y hy
    have s1 := s.nm
    exact ⟨by omega, ⟨s.fl, fun z hz => by have := s.fs z hz; omega⟩, ⟨s.tl, fun t ht => simB_P (List.all_eq_true.1 q.1.2 t ht)⟩⟩
  · have q := List.all_eq_true.1 r2.1.2 m hm
    unfold mapB at q
    simp only [Bool.and_eq_true] at q
    have := sm.m m hm
    exact ⟨by omega, keyB_P q.1, typB_P hrn q.2⟩
def encAll (rs : List Rc) (ms : List Mp) (fs es : List Sg) (is : List Int) (ts : List ByteArray) (F E : List Fx) : List Nat := encRcs rs ++ encMps ms ++ encSgs fs ++ encSgs es ++ encIns is ++ encSs ts ++ ((F ++ E).map encFx).flatten
theorem encC_all (c : Cx) (xs : List Int) : encC c xs = encAll (c.p.recs.map (·.2)) c.p.maps (c.p.funcs.map (·.2)) (c.p.events.map (·.2)) xs c.texts c.funcs c.events := rfl
theorem encAll_eq (rs : List Rc) (ms : List Mp) (fs es : List Sg) (is : List Int) (ts : List ByteArray) (F E : List Fx) (m : List Nat) : encAll rs ms fs es is ts F E ++ m = encRcs rs ++ (encMps ms ++ (encSgs fs ++ (encSgs es ++ (encIns is ++ (encSs ts ++ ((F.map encFx).flatten ++ ((E.map encFx).flatten ++ m))))))) := by
  simp [encAll]
theorem tRcs : Trip (rL rRc 16) encRcs (fun l => l.length ≤ 16 ∧ ∀ x ∈ l, PRc x) := tripRc.list 16 (by omega)
theorem tMps : Trip (rL rMp 16) encMps (fun l => l.length ≤ 16 ∧ ∀ x ∈ l, PMp x) := tripMp.list 16 (by omega)
theorem tSgs : Trip (rL rSg 16) encSgs (fun l => l.length ≤ 16 ∧ ∀ x ∈ l, PSg x) := tripSg.list 16 (by omega)
theorem tIns : Trip (rL rI 1000) encIns (fun l => l.length ≤ 1000 ∧ ∀ x ∈ l, inR x) := tripI.list 1000 (by omega)
theorem tSs : Trip (rL rT 1000) encSs (fun l => l.length ≤ 1000 ∧ ∀ x ∈ l, x.size ≤ 64) := tripT.list 1000 (by omega)
theorem chain_fw {rs : List Rc} {ms : List Mp} {fs es : List Sg} {is : List Int} {ts : List ByteArray} {F E : List Fx} (h : AllP rs ms fs es is ts F E) (m : List Nat) :
    ∃ s1 s2 s3 s4 s5 s6 s7, rL rRc 16 (some (encAll rs ms fs es is ts F E ++ m)) = (rs, s1) ∧ rL rMp 16 s1 = (ms, s2) ∧ rL rSg 16 s2 = (fs, s3) ∧ rL rSg 16 s3 = (es, s4) ∧ rL rI 1000 s4 = (is, s5) ∧ rL rT 1000 s5 = (ts, s6) ∧ rLn rFn fs.length s6 = (F, s7) ∧ rLn rFn es.length s7 = (E, some m) := by
  rw [encAll_eq]
  exact ⟨_, _, _, _, _, _, _, tRcs.fw _ _ h.r, tMps.fw _ _ h.m, tSgs.fw _ _ h.f, tSgs.fw _ _ h.e, tIns.fw _ _ h.i, tSs.fw _ _ h.t, ln_fw tripFn _ F h.F1 h.F2 _, ln_fw tripFn _ E h.E1 h.E2 m⟩
theorem Trip.some {α : Type} {r : Option (List Nat) → α × Option (List Nat)} {e : α → List Nat} {P : α → Prop} (h : Trip r e P) {s : Option (List Nat)} {x : α} {b : List Nat} (q : r s = (x, .some b)) : ∃ bs, s = .some bs := by
  cases s with
  | none => have := h.no; rw [q] at this; cases this
  | some bs => exact ⟨bs, rfl⟩
/- Code that may be comes back from its bytes. -/
/- Whatever bytes: what is read of them may be and has just these bytes, or they are refused. -/
end Go.Proofs.YthnolocldeokeaaGreat

