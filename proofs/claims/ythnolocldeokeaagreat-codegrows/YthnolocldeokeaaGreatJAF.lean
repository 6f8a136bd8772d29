/- The fields of an instruction: a function that is ranged over. -/
import Derived.Test.YthnolocldeokeaaGreatJAE
namespace Go.Proofs.YthnolocldeokeaaGreat
open Go.RowKit Go.Deep Go.Shelf
set_option linter.unusedVariables false
set_option linter.unusedSimpArgs false
def fl (s : Shp) (o : Opx) (i : Fin 4) : Int × Int := match i with
  | 0 => (s.d, o.d)
  | 1 => (s.a, o.a)
  | 2 => (s.b, o.b)
  | 3 => (s.k, o.k)
def encS (s : Shp) (o : Opx) (i : Fin 4) : Array Value := #[.int .u8 (fl s o i).1, .int .i64 (fl s o i).2]
def fourL : List (Fin 4) := [0, 1, 2, 3]
/- The two boxes stay. -/
def K2 (X : Nat) (W W' : World) : Prop := W'.heap[X]? = W.heap[X]? ∧ W'.heap[X + 1]? = W.heap[X + 1]?
theorem K2_t {X : Nat} {A B C : World} (h : K2 X A B) (k : K2 X B C) : K2 X A C := ⟨k.1.trans h.1, k.2.trans h.2⟩
theorem K2_b {X : Nat} {w : World} (hB : X + 1 < w.heap.size) (W : World) (l : Nat) (o o' : Obj) (hl : w.heap.size ≤ l) (h : W.heap[l]? = some o) (hc : o.isCells = false) (hw : o.isWalk = false) : K2 X W (W.putObj l o') :=
  ⟨(grownBy_putObj' W l o').block X (by have := (Array.getElem?_eq_some_iff.1 h).1; omega) (fun e => by cases e; omega), (grownBy_putObj' W l o').block (X + 1) (by have := (Array.getElem?_eq_some_iff.1 h).1; omega) (fun e => by cases e; omega)⟩
theorem K2_of {X : Nat} {W W' : World} (h : Below W.heap.size W W') (hB : X + 1 < W.heap.size) : K2 X W W' := ⟨h.block X (by omega), h.block _ hB⟩
set_option maxRecDepth 100000 in
theorem fields_in (F : Fence) (n : Nat) (h26 : F.fn 56) (hro : F.round = none) (s : Shp) (o : Opx) (w : World) : CallsIn F n Tryz.prog 56 #[.agg s.cs.toArray, .agg o.cs] w fun e w' => e = .returned (.func (.func 90) #[] #[.pointer (some ⟨w.heap.size, 0, none⟩), .pointer (some ⟨w.heap.size + 1, 0, none⟩)]) ∧ w' = (w.alloc (.cells s.cs.toArray 105)).alloc (.cells o.cs 54) := by
  obtain ⟨nm, sd, sa, sb, sk⟩ := s
  obtain ⟨oc, od, oa, ob, ok⟩ := o
  simp only [Shp.cs, Opx.cs]
  refine callsIn_of_wp Tryz.func56 rfl h26 ?_ hro
  simp only [Tryz.ntmps56, List.size_toArray, List.length_cons, List.length_nil, Nat.reduceAdd, Nat.reduceSub, Array.replicate_succ, Array.replicate_zero, List.push_toArray, List.append_toArray, List.nil_append, List.cons_append]
  gi_wp2
  refine bodyPost_ret (v := .func (.func 90) #[] #[.pointer (some ⟨w.heap.size, 0, none⟩), .pointer (some ⟨w.heap.size + 1, 0, none⟩)]) (by simp [results, Tryz.results56, go_sem]) rfl ⟨rfl, rfl⟩
theorem yield_bool {α : Type} {F : Fence} {n l : Nat} {J Jx : List α → World → Prop} {encs : α → Array Value} {Kp : World → World → Prop} {W : World} {pre : List α} {x : α}
    (h : YieldAt F n Tryz.prog l (encs x) W fun e W' => (e = .returned (.bool true) ∧ J (pre ++ [x]) W' ∧ Kp W W') ∨ (e = .returned (.bool false) ∧ Jx (pre ++ [x]) W')) :
    YieldAt F n Tryz.prog l (encs x) W fun e W' => ∃ b : Bool, e = .returned (.bool b) ∧ ((b = true → J (pre ++ [x]) W' ∧ Kp W W') ∧ (b = false → Jx (pre ++ [x]) W')) := by
  obtain ⟨fn', tmps, assign, body, hy, hRd⟩ := h
  refine ⟨fn', tmps, assign, body, hy, hRd.mono ?_⟩
  rintro e W' (⟨rfl, h1, h2⟩ | ⟨rfl, h1⟩)
  · exact ⟨true, rfl, ⟨fun _ => ⟨h1, h2⟩, fun h => (by cases h)⟩⟩
  · exact ⟨false, rfl, ⟨fun h => (by cases h), fun _ => h1⟩⟩
set_option maxRecDepth 100000 in
set_option maxHeartbeats 1000000 in
theorem fields_stops (s : Shp) (o : Opx) (X n : Nat) (hn : 1 ≤ n) (w : World) (hs : w.heap[X]? = some (.cells s.cs.toArray 105 (0, 0))) (ho : w.heap[X + 1]? = some (.cells o.cs 54 (0, 0))) :
    SeqStopsK Fence.wide n Tryz.prog 90 #[.pointer (some ⟨X, 0, none⟩), .pointer (some ⟨X + 1, 0, none⟩)] (encS s o) (K2 X) (fun xs => xs = fourL) (fun pre => ∃ k, pre = fourL.take k) 4 w := by
  intro l J Jx W hb hJa hJxa hY h0
  have hro : Fence.wide.round = none := rfl
  have bs : W.heap[X]? = some (.cells s.cs.toArray 105 (0, 0)) := (hb.block X (lt_of_heap hs)).trans hs
  have bo : W.heap[X + 1]? = some (.cells o.cs 54 (0, 0)) := (hb.block _ (lt_of_heap ho)).trans ho
  obtain ⟨nm, sd, sa, sb, sk⟩ := s
  obtain ⟨oc, od, oa, ob, ok⟩ := o
  have CB : Hid (∀ V : World, K2 X W V → (V.cell? ⟨X, 1, none⟩ = some (.int .u8 sd) ∧ V.cell? ⟨X, 2, none⟩ = some (.int .u8 sa) ∧ V.cell? ⟨X, 3, none⟩ = some (.int .u8 sb) ∧ V.cell? ⟨X, 4, none⟩ = some (.int .u8 sk)) ∧ V.cell? ⟨X + 1, 1, none⟩ = some (.int .i64 od) ∧ V.cell? ⟨X + 1, 2, none⟩ = some (.int .i64 oa) ∧ V.cell? ⟨X + 1, 3, none⟩ = some (.int .i64 ob) ∧ V.cell? ⟨X + 1, 4, none⟩ = some (.int .i64 ok)) := hid (fun V hV => by
    have e1 := hV.1.trans bs
    have e2 := hV.2.trans bo
    exact ⟨⟨cellOf e1 1, cellOf e1 2, cellOf e1 3, cellOf e1 4⟩, cellOf e2 1, cellOf e2 2, cellOf e2 3, cellOf e2 4⟩)
  clear hs ho bs bo hb
  refine callsIn_of_wp Tryz.func90 rfl trivial ?_ hro
  simp only [Tryz.ntmps90, List.size_toArray, List.length_cons, List.length_nil, Nat.reduceAdd, Nat.reduceSub, Array.replicate_succ, Array.replicate_zero, List.push_toArray, List.append_toArray, List.nil_append, List.cons_append]
  have HY := hid hY
  clear hY hJa hJxa
  obtain ⟨⟨x1, x2, x3, x4⟩, y1, y2, y3, y4⟩ := CB.out W ⟨rfl, rfl⟩
  obtain ⟨fn', tmps, assign, body, hy, hRd⟩ := yield_bool (HY.out [] 0 W h0 (by simp))
  have HRd := hid hRd
  simp only [encS, fl] at hy HRd
  clear hRd
  gi_wp2
  refine (Hid.out HRd).mono ?_
  rintro e W1 ⟨bb, rfl, hor⟩
  clear hy HRd x1 x2 x3 x4 y1 y2 y3 y4
  cases bb with
  | false =>
    have hor' := hid (hor.2 rfl)
    clear hor
    gi_wp2_with (refine ⟨(fun _ h => by cases h), ?_⟩)
    refine bodyPost_end (results_none rfl _ _ _) rfl ?_
    exact ⟨⟨_, rfl⟩, .inr ⟨_, ⟨1, rfl⟩, hor'.out⟩⟩
  | true =>
    obtain ⟨hJ1, hk1⟩ := hor.1 rfl
    obtain ⟨⟨x1, x2, x3, x4⟩, y1, y2, y3, y4⟩ := CB.out W1 hk1
    obtain ⟨fn', tmps, assign, body, hy, hRd⟩ := yield_bool (HY.out [0] 1 W1 hJ1 (by simp))
    have HRd := hid hRd
    simp only [encS, fl] at hy HRd
    have HK1 := hid hk1
    clear hRd hor hJ1 hk1
    gi_wp2
    refine (Hid.out HRd).mono ?_
    rintro e W2 ⟨bb, rfl, hor⟩
    clear hy HRd x1 x2 x3 x4 y1 y2 y3 y4
    cases bb with
    | false =>
      have hor' := hid (hor.2 rfl)
      clear hor
      gi_wp2_with (refine ⟨(fun _ h => by cases h), ?_⟩)
      refine bodyPost_end (results_none rfl _ _ _) rfl ?_
      exact ⟨⟨_, rfl⟩, .inr ⟨_, ⟨2, rfl⟩, hor'.out⟩⟩
    | true =>
      obtain ⟨hJ1, hk1⟩ := hor.1 rfl
      have hk2 := K2_t HK1.out hk1
      obtain ⟨⟨x1, x2, x3, x4⟩, y1, y2, y3, y4⟩ := CB.out W2 hk2
      obtain ⟨fn', tmps, assign, body, hy, hRd⟩ := yield_bool (HY.out [0, 1] 2 W2 hJ1 (by simp))
      have HRd := hid hRd
      simp only [encS, fl] at hy HRd
      have HK2 := hid hk2
      clear hRd hor hJ1 hk1 hk2
      gi_wp2
      refine (Hid.out HRd).mono ?_
      rintro e W3 ⟨bb, rfl, hor⟩
      clear hy HRd x1 x2 x3 x4 y1 y2 y3 y4
      cases bb with
      | false =>
        have hor' := hid (hor.2 rfl)
        clear hor
        gi_wp2_with (refine ⟨(fun _ h => by cases h), ?_⟩)
        refine bodyPost_end (results_none rfl _ _ _) rfl ?_
        exact ⟨⟨_, rfl⟩, .inr ⟨_, ⟨3, rfl⟩, hor'.out⟩⟩
      | true =>
        obtain ⟨hJ1, hk1⟩ := hor.1 rfl
        have hk3 := K2_t HK2.out hk1
        obtain ⟨⟨x1, x2, x3, x4⟩, y1, y2, y3, y4⟩ := CB.out W3 hk3
        obtain ⟨fn', tmps, assign, body, hy, hRd⟩ := yield_bool (HY.out [0, 1, 2] 3 W3 hJ1 (by simp))
        have HRd := hid hRd
        simp only [encS, fl] at hy HRd
        clear hRd hor hJ1 hk1 hk3
        gi_wp2
        refine (Hid.out HRd).mono ?_
        rintro e W4 ⟨bb, rfl, hor⟩
        clear hy HRd x1 x2 x3 x4 y1 y2 y3 y4
        cases bb with
        | false =>
          have hor' := hid (hor.2 rfl)
          clear hor
          gi_wp2_with (refine ⟨(fun _ h => by cases h), ?_⟩)
          refine bodyPost_end (results_none rfl _ _ _) rfl ?_
          exact ⟨⟨_, rfl⟩, .inr ⟨_, ⟨4, rfl⟩, hor'.out⟩⟩
        | true =>
          have hor' := hid (hor.1 rfl).1
          clear hor
          gi_wp2_with (refine ⟨(fun _ h => by cases h), ?_⟩)
          refine bodyPost_end (results_none rfl _ _ _) rfl ?_
          exact ⟨⟨_, rfl⟩, .inl ⟨_, rfl, hor'.out⟩⟩
end Go.Proofs.YthnolocldeokeaaGreat

namespace Go.Proofs.YthnolocldeokeaaGreat
open Go.RowKit Go.Deep Go.Shelf
set_option linter.unusedVariables false
set_option linter.unusedSimpArgs false
theorem range_go {α : Type} {F : Fence} {n : Nat} {P : Program} {g : Operand} {ps : Array Tmp} {assign body : Code} {Q : Exit → Act → World → Prop} {a : Act} {w : World}
    (hro : F.round = none) (h1 : 1 ≤ n) {gf : Nat} {lb : Array Value} (hg : a.eval g = .func (.func gf) #[] lb) (hFg : F.fn gf) (eg : ∀ args w, (callFunc gf args).run P w = .ok (.enter gf args) w)
    {encs : α → Array Value} {Kp : World → World → Prop} {S Sp : List α → Prop} {N : Nat} (hseq : SeqStopsK F (n - 1) P gf lb encs Kp S Sp N w)
    (hKr : ∀ A : World, Kp A A) (hKt : ∀ {A B C : World}, Kp A B → Kp B C → Kp A C) (hKb : ∀ (W : World) (l : Nat) (o o' : Obj), w.heap.size ≤ l → W.heap[l]? = some o → o.isCells = false → o.isWalk = false → Kp W (W.putObj l o')) (hps : ∀ x, (encs x).size = ps.size)
    (I : List α → World → Prop) (Ix : Code → List α → World → Prop) (hI : OwnFrom w.heap.size I) (hIx : ∀ c, OwnFrom w.heap.size (Ix c)) (h0 : I [] w)
    (hround : ∀ (l : Nat) (x : α) (W : World) (K : Act → World → Prop), (∀ a', (∀ (l' : Nat) (pre : List α) (W' : World), w.heap.size ≤ l' → (∃ r, W'.heap[l']? = some (.loop r)) → I pre W' → pre.length < N → body.wpIn (F.inRound l') (n - 1 - 1) P (ownPostG w.heap.size Kp I Ix (pre ++ [x]) W') a' W') → K a' W) →
      assign.wpIn (F.inRound l) (n - 1 - 1) P (Exit.then K (fun _ _ _ => False)) { tmps := (ps.zip (encs x)).foldl (fun t (p, v) => t.setIfInBounds p v) a.tmps, defers := [] } W)
    (hdone : ∀ (D : Nat) (xs : List α) (W : World), w.heap.size ≤ D → S xs → I xs W → W.heap[D]? = some (.deferred (some [])) → Q .normal { a with defers := { target := .collected D, args := #[] } :: a.defers } W)
    (hstop : ∀ (D : Nat) (c : Code) (pre : List α) (W : World), w.heap.size ≤ D → Sp pre → Ix c pre W → W.heap[D]? = some (.deferred (some [])) → c.wpIn F n P Q { a with defers := { target := .collected D, args := #[] } :: a.defers } W) :
    (Code.rangeFunc g ps assign body).wpIn F n P Q a w := by
  refine wpIn_rangeFunc_ownH hro h1 hg hFg eg hseq hKt hKb (Below.refl _ _) hps I Ix hI hIx h0 (fun x a' _ => ∀ (l' : Nat) (pre : List α) (W' : World), w.heap.size ≤ l' → (∃ r, W'.heap[l']? = some (.loop r)) → I pre W' → pre.length < N → body.wpIn (F.inRound l') (n - 1 - 1) P (ownPostG w.heap.size Kp I Ix (pre ++ [x]) W') a' W') (fun x a' _ A B row hs _ _ => hs) ?_ ?_ hdone hstop
  · intro l pre x W K hi hK
    exact hround l x W K (fun a' h => hK a' W (KeepsFrom.refl _ _) (hKr W) hi h)
  · intro l pre x a' W hl hr hi hA hlt
    exact hA l pre W hl hr hi hlt
theorem zip2 (p1 p2 : Tmp) (v1 v2 : Value) (t : Array Value) : ((#[p1, p2] : Array Tmp).zip #[v1, v2]).foldl (fun t (p, v) => t.setIfInBounds p v) t = (t.setIfInBounds p1 v1).setIfInBounds p2 v2 := by simp
theorem range_go2 {α : Type} {F : Fence} {n : Nat} {P : Program} {g : Operand} {p1 p2 : Tmp} {assign body : Code} {Q : Exit → Act → World → Prop} {a : Act} {w : World}
    (hro : F.round = none) (h1 : 1 ≤ n) {gf : Nat} {lb : Array Value} (hg : a.eval g = .func (.func gf) #[] lb) (hFg : F.fn gf) (eg : ∀ args w, (callFunc gf args).run P w = .ok (.enter gf args) w)
    {enc1 enc2 : α → Value} {Kp : World → World → Prop} {S Sp : List α → Prop} {N : Nat} (hseq : SeqStopsK F (n - 1) P gf lb (fun x => #[enc1 x, enc2 x]) Kp S Sp N w)
    (hKr : ∀ A : World, Kp A A) (hKt : ∀ {A B C : World}, Kp A B → Kp B C → Kp A C) (hKb : ∀ (W : World) (l : Nat) (o o' : Obj), w.heap.size ≤ l → W.heap[l]? = some o → o.isCells = false → o.isWalk = false → Kp W (W.putObj l o'))
    (I : List α → World → Prop) (Ix : Code → List α → World → Prop) (hI : OwnFrom w.heap.size I) (hIx : ∀ c, OwnFrom w.heap.size (Ix c)) (h0 : I [] w)
    (hround : ∀ (l : Nat) (x : α) (W : World) (K : Act → World → Prop), (∀ a', (∀ (l' : Nat) (pre : List α) (W' : World), w.heap.size ≤ l' → (∃ r, W'.heap[l']? = some (.loop r)) → I pre W' → pre.length < N → body.wpIn (F.inRound l') (n - 1 - 1) P (ownPostG w.heap.size Kp I Ix (pre ++ [x]) W') a' W') → K a' W) →
      assign.wpIn (F.inRound l) (n - 1 - 1) P (Exit.then K (fun _ _ _ => False)) { tmps := (a.tmps.setIfInBounds p1 (enc1 x)).setIfInBounds p2 (enc2 x), defers := [] } W)
    (hdone : ∀ (D : Nat) (xs : List α) (W : World), w.heap.size ≤ D → S xs → I xs W → W.heap[D]? = some (.deferred (some [])) → Q .normal { a with defers := { target := .collected D, args := #[] } :: a.defers } W)
    (hstop : ∀ (D : Nat) (c : Code) (pre : List α) (W : World), w.heap.size ≤ D → Sp pre → Ix c pre W → W.heap[D]? = some (.deferred (some [])) → c.wpIn F n P Q { a with defers := { target := .collected D, args := #[] } :: a.defers } W) :
    (Code.rangeFunc g #[p1, p2] assign body).wpIn F n P Q a w := by
  refine range_go hro h1 hg hFg eg hseq hKr hKt hKb (fun _ => rfl) I Ix hI hIx h0 (fun l x W K hK => ?_) hdone hstop
  rw [zip2]
  exact hround l x W K hK
theorem K2_r {X : Nat} (A : World) : K2 X A A := ⟨rfl, rfl⟩
/- Between two rounds nothing but what is new has turned since V. -/
def BI {α : Type} (V : World) (ok : α → Bool) (pre : List α) (W : World) : Prop := Below V.heap.size V W ∧ ∀ x ∈ pre, ok x = true
theorem BI_own {α : Type} (V : World) (ok : α → Bool) : OwnFrom V.heap.size (BI V ok) := fun s A A' row hs hg hr => ⟨ownFrom_below (β := Unit) (Nat.le_refl _) (Nat.le_refl _) () A A' row hs.1 hg hr, hs.2⟩
theorem BI.snoc {α : Type} {V : World} {ok : α → Bool} {pre : List α} {W W' : World} {x : α} (h : BI V ok pre W) (hx : ok x = true) (k : Below W.heap.size W W') : BI V ok (pre ++ [x]) W' := ⟨h.1.trans (k.mono h.1.size), fun y hy => by
  rcases List.mem_append.1 hy with hy | hy
  · exact h.2 y hy
  · simp at hy; subst hy; exact hx⟩
/- The loop was left by a return of false. -/
def BX {α : Type} (w V : World) (R : Nat) (ok : α → Bool) (c : Code) (pre : List α) (W : World) : Prop := c = .ret ∧ (∃ x ∈ pre, ok x = false) ∧ W.heap[R]? = some (.cells #[.bool false] 4 (0, 0)) ∧ Below w.heap.size w W
theorem BX_own {α : Type} (w V : World) (R : Nat) (ok : α → Bool) (hw : w.heap.size ≤ V.heap.size) (c : Code) : OwnFrom V.heap.size (BX w V R ok c) := fun s A A' row hs hg hr =>
  ⟨hs.1, hs.2.1, keep_cells hs.2.2.1 hg hr, ownFrom_below (β := Unit) (Nat.le_refl _) hw () A A' row hs.2.2.2 hg hr⟩
end Go.Proofs.YthnolocldeokeaaGreat

namespace Go.Proofs.YthnolocldeokeaaGreat
open Go.RowKit Go.Deep Go.Shelf
set_option linter.unusedVariables false
set_option linter.unusedSimpArgs false
attribute [local go_sem] Oper.semAt_some
def ShapeC : Prop := ∀ (w : World) (k : Int), Calls Tryz.prog 54 #[.int .i64 k] w fun e w' => e = .returned (.tuple #[.agg (if isC k = true then shpAt k else shp0).cs.toArray, .bool (isC k)]) ∧ Below w.heap.size w w'
def okF (c : Cx) (regs : Int) (nops : Nat) (o : Opx) (i : Fin 4) : Bool := inB (bnd c regs nops (fl (shpAt o.c) o i).1 (rowLen (shpAt o.c).k c.p o.k).1) (fl (shpAt o.c) o i).2
theorem okF_all {c : Cx} {regs : Int} {nops : Nat} {o : Opx} (h : isC o.c = true) (hf : ∀ x ∈ fourL, okF c regs nops o x = true) : isOpB c regs nops o = true := by
  have h0 := hf 0 (by simp [fourL])
  have h1 := hf 1 (by simp [fourL])
  have h2 := hf 2 (by simp [fourL])
  have h3 := hf 3 (by simp [fourL])
  simp only [okF, fl] at h0 h1 h2 h3
  simp [isOpB, h, h0, h1, h2, h3]
theorem okF_no {c : Cx} {regs : Int} {nops : Nat} {o : Opx} {i : Fin 4} (hf : okF c regs nops o i = false) : isOpB c regs nops o = false := by
  unfold okF at hf
  unfold isOpB
  rcases (show i = 0 ∨ i = 1 ∨ i = 2 ∨ i = 3 by omega) with rfl | rfl | rfl | rfl <;> (simp only [fl] at hf; simp [hf])
theorem rowLen_bounds (c : Cx) (C : CH) (L : Lns C c) (w : World) (d : PRd w C.h c.p) (r k : Int) : 0 ≤ (rowLen r c.p k).1 ∧ (rowLen r c.p k).1 ≤ 9223372036854775807 := by
  have pm : ∀ {a : Option Addr} {n : Nat} {gs : List (GH × Sg)}, GRd w a n gs → 0 ≤ (parmB (gs.map (·.2)) k).1 ∧ (parmB (gs.map (·.2)) k).1 ≤ 9223372036854775807 := by
    intro a n gs dg
    cases hb : blw k (gs.length : Int) with
    | false => unfold parmB; rw [List.length_map, hb]; simp
    | true =>
      obtain ⟨kk, rfl, hk⟩ := blw_nat hb
      obtain ⟨g, hg, sg, _⟩ := dg.sig (by rw [dg.n1]; exact hk)
      rw [parm_at hg hb]
      have h1 := sg.pn
      have h2 := sg.p2
      simp only
      omega
  unfold rowLen
  split
  · cases hb : blw k (c.p.recs.length : Int) with
    | false => simp
    | true =>
      obtain ⟨kk, rfl, hk⟩ := blw_nat hb
      obtain ⟨g, hg, sg, _⟩ := d.r.recd (by rw [d.r.n1]; exact hk)
      have h1 := sg.fn
      have h2 := sg.f2
      simp only [if_true, Int.toNat_natCast, List.getD_eq_getElem?_getD, List.getElem?_map, hg, Option.map_some, Option.getD_some]
      omega
  · split
    · simp
    · split
      · exact pm d.f
      · split
        · exact pm d.e
        · simp
set_option maxRecDepth 100000 in
set_option maxHeartbeats 2000000 in
theorem isOp_any (SO : ShapeC) (w : World) (C : CH) (c : Cx) (fs es : List (FH × Fx)) (d : CdRd w C c fs es) (F : FH) (h0 : 0 ≤ F.regs) (h64 : F.regs ≤ 64) (ho : F.on ≤ 9223372036854775807) (o : Opx) :
    Calls Tryz.prog 97 #[C.v, F.v, .agg o.cs] w fun e w' => e = .returned (.bool (isOpB c F.regs F.on o)) ∧ Below w.heap.size w w' := by
  have hro : Fence.wide.round = none := rfl
  obtain ⟨A1, hA1⟩ : ∃ A1, A1 = w.alloc (.cells C.cs 31) := ⟨_, rfl⟩
  obtain ⟨A2, hA2⟩ : ∃ A2, A2 = A1.alloc (.cells F.cs.toArray 57) := ⟨_, rfl⟩
  obtain ⟨A3, hA3⟩ : ∃ A3, A3 = A2.alloc (.cells o.cs 54) := ⟨_, rfl⟩
  obtain ⟨W0, hW0⟩ : ∃ W0, W0 = A3.alloc (.cells #[.bool false] 4) := ⟨_, rfl⟩
  have b1 : Below w.heap.size w A1 := by rw [hA1]; exact (Below.refl _ _).alloc (Nat.le_refl _) _
  have z1 : A1.heap.size = w.heap.size + 1 := by rw [hA1]; simp
  have z2 : A2.heap.size = w.heap.size + 2 := by rw [hA2]; simp; omega
  have z3 : A3.heap.size = w.heap.size + 3 := by rw [hA3]; simp; omega
  have z4 : W0.heap.size = w.heap.size + 4 := by rw [hW0]; simp; omega
  have b2 : Below w.heap.size w A2 := by rw [hA2]; exact b1.alloc (by omega) _
  have b3 : Below w.heap.size w A3 := by rw [hA3]; exact b2.alloc (by omega) _
  have b4 : Below w.heap.size w W0 := by rw [hW0]; exact b3.alloc (by omega) _
  have m0 : W0.heap[w.heap.size]? = some (.cells C.cs 31 (0, 0)) := by
    rw [hW0, Below.heap_alloc _ _ _ (by omega), hA3, Below.heap_alloc _ _ _ (by omega), hA2, Below.heap_alloc _ _ _ (by omega), hA1]; exact heap_alloc_new w _
  have m1 : W0.heap[w.heap.size + 1]? = some (.cells F.cs.toArray 57 (0, 0)) := by
    rw [hW0, Below.heap_alloc _ _ _ (by omega), hA3, Below.heap_alloc _ _ _ (by omega), hA2, ← z1]; exact heap_alloc_new A1 _
  have m2 : W0.heap[w.heap.size + 2]? = some (.cells o.cs 54 (0, 0)) := by
    rw [hW0, Below.heap_alloc _ _ _ (by omega), hA3, ← z2]; exact heap_alloc_new A2 _
  have m3 : W0.heap[w.heap.size + 3]? = some (.cells #[.bool false] 4 (0, 0)) := by rw [hW0, ← z3]; exact heap_alloc_new A3 _
  have KS := hid (SO W0 o.c)
  have L := d.lns
  have D := hid (fun (V : World) (hV : Below w.heap.size w V) => d.p.below (Nat.le_refl _) hV)
  have LB := hid (rowLen_bounds c C L w d.p)
  have HZ := hid z4
  have HB4 := hid b4
  have GT : Hid (∀ V : World, Below W0.heap.size W0 V → V.heap[w.heap.size]? = some (.cells C.cs 31 (0, 0)) ∧ V.heap[w.heap.size + 1]? = some (.cells F.cs.toArray 57 (0, 0)) ∧ V.heap[w.heap.size + 2]? = some (.cells o.cs 54 (0, 0)) ∧ V.heap[w.heap.size + 3]? = some (.cells #[.bool false] 4 (0, 0))) := hid (fun V hV => ⟨(hV.block _ (by omega)).trans m0, (hV.block _ (by omega)).trans m1, (hV.block _ (by omega)).trans m2, (hV.block _ (by omega)).trans m3⟩)
  clear m0 m1 m2 m3 b1 b2 b3 b4 z1 z2 z3 z4 d
  have KB := hid (fun (V : World) (r len : Int) (l0 : 0 ≤ len) (l1 : len ≤ 9223372036854775807) => bounds_any V C c L F h0 h64 ho r len l0 l1)
  have KR := hid (fun (V : World) (hV : Below w.heap.size w V) => rowLen_any V (shpAt o.c) C.h c.p (D.out V hV) o.k)
  have KF := hid (fun (V : World) => fields_in Fence.wide 5 trivial hro (shpAt o.c) o V)
  have SQ := hid (fun (V : World) (X : Nat) => fields_stops (shpAt o.c) o X 5 (by omega) V)
  obtain ⟨s, hs⟩ : ∃ s, s = shpAt o.c := ⟨_, rfl⟩
  have OKA := hid (fun (h : isC o.c = true) (hf : ∀ x ∈ fourL, okF c F.regs F.on o x = true) => okF_all h hf)
  have OKN := hid (fun (i : Fin 4) (hf : okF c F.regs F.on o i = false) => okF_no hf)
  have OKD : Hid (∀ i : Fin 4, okF c F.regs F.on o i = inB (bnd c F.regs F.on (fl (shpAt o.c) o i).1 (rowLen (shpAt o.c).k c.p o.k).1) (fl (shpAt o.c) o i).2) := hid (fun i => rfl)
  have LBk : Hid (0 ≤ (rowLen (shpAt o.c).k c.p o.k).1 ∧ (rowLen (shpAt o.c).k c.p o.k).1 ≤ 9223372036854775807) := hid (LB.out (shpAt o.c).k o.k)
  rw [← hs] at KR KF SQ KS OKD LBk
  generalize okF c F.regs F.on o = okf at OKA OKN OKD
  obtain ⟨len, lb, hlen⟩ : ∃ (len : Int) (lb : Bool), rowLen s.k c.p o.k = (len, lb) := ⟨_, _, rfl⟩
  simp only [hlen] at KR OKD LBk
  generalize bnd c F.regs F.on = bn at KB OKD
  obtain ⟨res, hres⟩ : ∃ res, res = isOpB c F.regs F.on o := ⟨_, rfl⟩
  rw [← hres] at OKA OKN ⊢
  have HRN : Hid (isC o.c = false → res = false) := hid (fun h => by rw [hres]; simp [isOpB, h])
  obtain ⟨⟨ra, rn, rc, ma, mn, mc, fa, fn, fc, ea, en, ec⟩, ia, inn, ic, ta, tn, tc, ga, gn, gc, ha, hn, hc⟩ := C
  obtain ⟨regs, oa, on, ocp⟩ := F
  obtain ⟨oc, od, oaa, ob, ok⟩ := o
  obtain ⟨nm, sd, sa, sb, sk⟩ := s
  simp only [CH.v, CH.cs, FH.v, FH.cs, Opx.cs, PH.v, Shp.cs] at hA1 hA2 hA3 KB KR KF SQ KS GT OKD OKA OKN HRN LBk ⊢
  clear LB D hlen hres hs L h0 h64 ho
  refine (callsIn_wide (n := 6)).1 ?_
  refine callsIn_of_wp_marks Tryz.func97 rfl trivial ?_ hro
  simp only [Tryz.ntmps97, List.size_toArray, List.length_cons, List.length_nil, Nat.reduceAdd, Nat.reduceSub, Array.replicate_succ, Array.replicate_zero, List.push_toArray, List.append_toArray, List.nil_append, List.cons_append]
  cases hC : isC oc with
  | false =>
    rw [hC] at KS HRN
    have hresF := hid (HRN.out rfl)
    simp only [Bool.false_eq_true, if_false, shp0, Shp.cs] at KS
    clear KB KR KF SQ OKD OKA OKN HRN LBk
    have AF := hid (fun (V : World) (hV : Below W0.heap.size W0 V) (q : Obj) => (by
      have bq := hV.trans (((Below.refl _ V).alloc (Nat.le_refl _) q).mono hV.size)
      have g := (GT.out _ bq).2.2.2
      have g8 := set_cells g (.bool false)
      exact ⟨cellOf g 0, freeOf g 0, cellOf g8 0, (HB4.out.trans (bq.mono HB4.out.size)).setCell (p := ⟨w.heap.size + 3, 0, none⟩) (by show w.heap.size ≤ w.heap.size + 3; omega) _⟩ : (V.alloc q).cell? ⟨w.heap.size + 3, 0, none⟩ = some (.bool false) ∧ (V.alloc q).frozen? ⟨w.heap.size + 3, 0, none⟩ = false ∧ ((V.alloc q).setCell ⟨w.heap.size + 3, 0, none⟩ (.bool false)).cell? ⟨w.heap.size + 3, 0, none⟩ = some (.bool false) ∧ Below w.heap.size w ((V.alloc q).setCell ⟨w.heap.size + 3, 0, none⟩ (.bool false))))
    gi_wp2_with (refine ⟨trivial, ?_⟩; gi_at_call 54; (rw [← hA1, ← hA2, ← hA3, ← hW0]; refine (callsIn_wide.2 (Hid.out KS)).mono ?_; rintro e w1 ⟨rfl, hb1⟩; have HA1 := hid (fun q => (AF.out w1 hb1 q).2.2.2); have g6 := fun q => (AF.out w1 hb1 q).1; have g7 := fun q => (AF.out w1 hb1 q).2.1; have g8 := fun q => (AF.out w1 hb1 q).2.2.1; clear hb1))
    exact ⟨_, by simp [results, Tryz.results97, go_sem, g8]; rfl, by rw [hresF.out], HA1.out _⟩
  | true =>
    rw [hC] at KS
    simp only [if_true, Shp.cs] at KS
    have hOKA := hid (OKA.out hC)
    clear HRN OKA
    have AF := hid (fun (V : World) (hV : Below W0.heap.size W0 V) (q : Obj) => (by
      have bq := hV.trans (((Below.refl _ V).alloc (Nat.le_refl _) q).mono hV.size)
      have g := GT.out _ bq
      exact ⟨HB4.out.trans (bq.mono HB4.out.size), cellOf g.1 0, cellOf g.1 1, cellOf g.1 2, cellOf g.1 3, cellOf g.2.2.1 4⟩ : Below w.heap.size w (V.alloc q) ∧ (V.alloc q).cell? ⟨w.heap.size, 0, none⟩ = some (.slice ra rn rc) ∧ (V.alloc q).cell? ⟨w.heap.size, 1, none⟩ = some (.slice ma mn mc) ∧ (V.alloc q).cell? ⟨w.heap.size, 2, none⟩ = some (.slice fa fn fc) ∧ (V.alloc q).cell? ⟨w.heap.size, 3, none⟩ = some (.slice ea en ec) ∧ (V.alloc q).cell? ⟨w.heap.size + 2, 4, none⟩ = some (.int .i64 ok)))
    have AG := hid (fun (V V2 : World) (hV : Below W0.heap.size W0 V) (h2 : Below (V.alloc (.cells #[.string nm, .int .u8 sd, .int .u8 sa, .int .u8 sb, .int .u8 sk] 105)).heap.size (V.alloc (.cells #[.string nm, .int .u8 sd, .int .u8 sa, .int .u8 sb, .int .u8 sk] 105)) V2) (q : Obj) => (by
      have bq := hV.trans (((Below.refl _ V).alloc (Nat.le_refl _) (.cells #[.string nm, .int .u8 sd, .int .u8 sa, .int .u8 sb, .int .u8 sk] 105)).mono hV.size)
      have b2 := bq.trans (h2.mono bq.size)
      have b3 := b2.trans (((Below.refl _ V2).alloc (Nat.le_refl _) q).mono b2.size)
      have g := (GT.out _ b3).2.2.1
      have hs1 : V2.heap[V.heap.size]? = some (.cells #[.string nm, .int .u8 sd, .int .u8 sa, .int .u8 sb, .int .u8 sk] 105 (0, 0)) := (h2.block _ (by rw [World.size_alloc]; omega)).trans (heap_alloc_new V _)
      have hs2 := (Below.heap_alloc V2 q _ (lt_of_heap hs1)).trans hs1
      exact ⟨b3, ⟨cellOf g 0, cellOf g 1, cellOf g 2, cellOf g 3, cellOf g 4⟩, cellOf hs2 0, cellOf hs2 1, cellOf hs2 2, cellOf hs2 3, cellOf hs2 4⟩ : Below W0.heap.size W0 (V2.alloc q) ∧ ((V2.alloc q).cell? ⟨w.heap.size + 2, 0, none⟩ = some (.int .i64 oc) ∧ (V2.alloc q).cell? ⟨w.heap.size + 2, 1, none⟩ = some (.int .i64 od) ∧ (V2.alloc q).cell? ⟨w.heap.size + 2, 2, none⟩ = some (.int .i64 oaa) ∧ (V2.alloc q).cell? ⟨w.heap.size + 2, 3, none⟩ = some (.int .i64 ob) ∧ (V2.alloc q).cell? ⟨w.heap.size + 2, 4, none⟩ = some (.int .i64 ok)) ∧ (V2.alloc q).cell? ⟨V.heap.size, 0, none⟩ = some (.string nm) ∧ (V2.alloc q).cell? ⟨V.heap.size, 1, none⟩ = some (.int .u8 sd) ∧ (V2.alloc q).cell? ⟨V.heap.size, 2, none⟩ = some (.int .u8 sa) ∧ (V2.alloc q).cell? ⟨V.heap.size, 3, none⟩ = some (.int .u8 sb) ∧ (V2.alloc q).cell? ⟨V.heap.size, 4, none⟩ = some (.int .u8 sk)))
    gi_wp2_with (refine ⟨trivial, ?_⟩; first
      | (gi_at_call 54; (rw [← hA1, ← hA2, ← hA3, ← hW0]; refine (callsIn_wide.2 (Hid.out KS)).mono ?_; rintro e w1 ⟨rfl, hb1⟩; have HB1 := hid hb1; have HA1 := hid (fun q => (AF.out w1 hb1 q).1); have y0 := fun q => (AF.out w1 hb1 q).2.1; have y1 := fun q => (AF.out w1 hb1 q).2.2.1; have y2 := fun q => (AF.out w1 hb1 q).2.2.2.1; have y3 := fun q => (AF.out w1 hb1 q).2.2.2.2.1; have y4 := fun q => (AF.out w1 hb1 q).2.2.2.2.2; clear hb1))
      | (gi_at_call 55; (refine (callsIn_wide.2 (KR.out _ (HA1.out _))).mono ?_; rintro e w2 ⟨rfl, hb2⟩; have HG := hid (AG.out w1 w2 HB1.out hb2); have u0 := fun q => (HG.out q).2.1.1; have u1 := fun q => (HG.out q).2.1.2.1; have u2 := fun q => (HG.out q).2.1.2.2.1; have u3 := fun q => (HG.out q).2.1.2.2.2.1; have u4 := fun q => (HG.out q).2.1.2.2.2.2; have v0 := fun q => (HG.out q).2.2.1; have v1 := fun q => (HG.out q).2.2.2.1; have v2 := fun q => (HG.out q).2.2.2.2.1; have v3 := fun q => (HG.out q).2.2.2.2.2.1; have v4 := fun q => (HG.out q).2.2.2.2.2.2; clear hb2 y0 y1 y2 y3 y4))
      | (gi_at_call 56; (refine (KF.out _).mono ?_; rintro e w3 ⟨rfl, rfl⟩; clear u0 u1 u2 u3 u4 v0 v1 v2 v3 v4)))
    obtain ⟨V, hV⟩ : ∃ V, V = ((w2.alloc (.cells #[.int .i64 len] 3)).alloc (.cells #[.string nm, .int .u8 sd, .int .u8 sa, .int .u8 sb, .int .u8 sk] 105)).alloc (.cells #[.int .i64 oc, .int .i64 od, .int .i64 oaa, .int .i64 ob, .int .i64 ok] 54) := ⟨_, rfl⟩
    rw [← hV]
    have bL := (HG.out (.cells #[.int .i64 len] 3)).1
    have bV : Below W0.heap.size W0 V := by rw [hV]; exact (bL.alloc bL.size _).alloc (by rw [World.size_alloc]; have := bL.size; omega) _
    have mlen : V.heap[w2.heap.size]? = some (.cells #[.int .i64 len] 3 (0, 0)) := by
      rw [hV, Below.heap_alloc _ _ _ (by simp; omega), Below.heap_alloc _ _ _ (by simp)]; exact heap_alloc_new w2 _
    have ms : V.heap[w2.heap.size + 1]? = some (.cells #[.string nm, .int .u8 sd, .int .u8 sa, .int .u8 sb, .int .u8 sk] 105 (0, 0)) := by
      rw [hV, Below.heap_alloc _ _ _ (by simp)]
      have := heap_alloc_new (w2.alloc (.cells #[.int .i64 len] 3)) (.cells #[.string nm, .int .u8 sd, .int .u8 sa, .int .u8 sb, .int .u8 sk] 105)
      rw [World.size_alloc] at this; exact this
    have mo : V.heap[w2.heap.size + 1 + 1]? = some (.cells #[.int .i64 oc, .int .i64 od, .int .i64 oaa, .int .i64 ob, .int .i64 ok] 54 (0, 0)) := by
      have := heap_alloc_new ((w2.alloc (.cells #[.int .i64 len] 3)).alloc (.cells #[.string nm, .int .u8 sd, .int .u8 sa, .int .u8 sb, .int .u8 sk] 105)) (.cells #[.int .i64 oc, .int .i64 od, .int .i64 oaa, .int .i64 ob, .int .i64 ok] 54)
      rw [World.size_alloc, World.size_alloc] at this; rw [hV]; exact this
    have zV : w2.heap.size + 1 + 1 < V.heap.size := lt_of_heap mo
    have bwV : Below w.heap.size w V := HB4.out.trans (bV.mono HB4.out.size)
    have hseq := SQ.out V (w2.heap.size + 1) ms mo
    have GV : Hid (∀ W : World, Below V.heap.size V W → (W.heap[w.heap.size]? = some (.cells #[.slice ra rn rc, .slice ma mn mc, .slice fa fn fc, .slice ea en ec, .slice ia inn ic, .slice ta tn tc, .slice ga gn gc, .slice ha hn hc] 31 (0, 0)) ∧ W.heap[w.heap.size + 1]? = some (.cells #[.int .i64 regs, .slice oa on ocp] 57 (0, 0)) ∧ W.heap[w.heap.size + 3]? = some (.cells #[.bool false] 4 (0, 0))) ∧ W.heap[w2.heap.size]? = some (.cells #[.int .i64 len] 3 (0, 0)) ∧ Below w.heap.size w W) := hid (fun W h => by
      have g := GT.out W (bV.trans (h.mono bV.size))
      exact ⟨⟨g.1, g.2.1, g.2.2.2⟩, (h.block _ (lt_of_heap mlen)).trans mlen, bwV.trans (h.mono bwV.size)⟩)
    have hwV : w.heap.size + 3 < V.heap.size := by have := bV.size; have := HZ.out; omega
    clear hA1 hA2 hA3 hW0 hV bL mlen ms mo bV bwV KS KR KF SQ GT AF AG HB1 HA1 HG
    refine range_go2 hro (by omega) (gf := 90) (lb := #[.pointer (some ⟨w2.heap.size + 1, 0, none⟩), .pointer (some ⟨w2.heap.size + 1 + 1, 0, none⟩)]) rfl trivial (enters_of Tryz.func90 (by kernel_rfl) rfl) (enc1 := fun x => .int .u8 (fl ⟨nm, sd, sa, sb, sk⟩ ⟨oc, od, oaa, ob, ok⟩ x).1) (enc2 := fun x => .int .i64 (fl ⟨nm, sd, sa, sb, sk⟩ ⟨oc, od, oaa, ob, ok⟩ x).2) hseq K2_r K2_t (K2_b (by omega)) (BI V okf) (BX w V (w.heap.size + 3) okf) (BI_own V okf) (fun c => BX_own w V _ okf (by omega) c) ⟨Below.refl _ _, by simp⟩ ?round ?done ?stop
    case round =>
      intro ll x W K hK
      have HKK := hid hK
      clear hK
      have HOK := hid (OKD.out x)
      generalize fl ⟨nm, sd, sa, sb, sk⟩ ⟨oc, od, oaa, ob, ok⟩ x = fx at HOK ⊢
      obtain ⟨rx, nx⟩ := fx
      simp only [List.setIfInBounds_toArray, List.set_cons_zero, List.set_cons_succ] at HOK ⊢
      gi_wp2
      refine HKK.out _ ?_
      clear HKK K W ll hseq
      intro l' pre W' hl hrr hi hlt
      have KBx := hid (KB.out W' rx len LBk.out.1 LBk.out.2)
      obtain ⟨lo, hi', hb⟩ : ∃ lo hi', bn rx len = (lo, hi') := ⟨_, _, rfl⟩
      simp only [hb] at KBx HOK
      obtain ⟨⟨g0, g1, g3⟩, gl, gb⟩ := GV.out W' hi.1
      have c0 := cellOf g0 0
      have c1 := cellOf g0 1
      have c2 := cellOf g0 2
      have c3 := cellOf g0 3
      have c4 := cellOf g0 4
      have c5 := cellOf g0 5
      have c6 := cellOf g0 6
      have c7 := cellOf g0 7
      have e0 := cellOf g1 0
      have e1 := cellOf g1 1
      have cl := cellOf gl 0
      simp only [List.getElem?_toArray, List.getElem?_cons_zero, List.getElem?_cons_succ] at c0 c1 c2 c3 c4 c5 c6 c7 e0 e1 cl
      have HI := hid hi
      have hsz : V.heap.size ≤ W'.heap.size := hi.1.size
      clear g0 g1 g3 gl hrr hi hb KB LBk OKD
      cases hq : okf x with
      | true =>
        have hin : ¬ nx < lo ∧ ¬ hi' < nx := by
          have := HOK.out; rw [hq] at this; unfold inB at this; simp at this; omega
        obtain ⟨n1, n2⟩ := hin
        gi_wp2_with (refine ⟨trivial, ?_⟩; gi_at_call 116; (refine (CallsIn.inRound l' (callsIn_wide.2 (Hid.out KBx))).mono ?_; rintro e w8 ⟨rfl, hb8⟩))
        exact ⟨keepsFrom_below hb8, K2_of hb8 (by omega), HI.out.snoc hq hb8⟩
      | false =>
        have hin : nx < lo ∨ (¬ nx < lo ∧ hi' < nx) := by
          have := HOK.out; rw [hq] at this; unfold inB at this; simp at this; omega
        have FIN : Hid (∀ w8 : World, Below W'.heap.size W' w8 → w8.cell? ⟨w.heap.size + 3, 0, none⟩ = some (.bool false) ∧ w8.frozen? ⟨w.heap.size + 3, 0, none⟩ = false ∧ KeepsFrom V.heap.size W' (w8.setCell ⟨w.heap.size + 3, 0, none⟩ (.bool false)) ∧ BX w V (w.heap.size + 3) okf .ret (pre ++ [x]) (w8.setCell ⟨w.heap.size + 3, 0, none⟩ (.bool false))) := hid (fun w8 hb8 => by
          obtain ⟨⟨_, _, g3⟩, _, gb⟩ := GV.out w8 (HI.out.1.trans (hb8.mono HI.out.1.size))
          exact ⟨cellOf g3 0, freeOf g3 0, (keepsFrom_below hb8).trans ((KeepsOthers.setCell _ _ _).from _), rfl, ⟨_, List.mem_append.2 (.inr (List.mem_singleton.2 rfl)), hq⟩, set_cells g3 _, gb.setCell (p := ⟨w.heap.size + 3, 0, none⟩) (by show w.heap.size ≤ w.heap.size + 3; omega) _⟩)
        rcases hin with n1 | ⟨n1, n2⟩
        · gi_wp2_with (refine ⟨trivial, ?_⟩; gi_at_call 116; (refine (CallsIn.inRound l' (callsIn_wide.2 (Hid.out KBx))).mono ?_; rintro e w8 ⟨rfl, hb8⟩; have g6 := (FIN.out w8 hb8).1; have g7 := (FIN.out w8 hb8).2.1))
          exact (FIN.out w8 hb8).2.2
        · gi_wp2_with (refine ⟨trivial, ?_⟩; gi_at_call 116; (refine (CallsIn.inRound l' (callsIn_wide.2 (Hid.out KBx))).mono ?_; rintro e w8 ⟨rfl, hb8⟩; have g6 := (FIN.out w8 hb8).1; have g7 := (FIN.out w8 hb8).2.1))
          exact (FIN.out w8 hb8).2.2
    case done =>
      rintro D' ys W hD rfl hI hK
      have HI := hid hI
      have HK := hid hK
      obtain ⟨⟨_, _, g3⟩, _, gb⟩ := GV.out W hI.1
      have g6 := cellOf g3 0
      have g7 := freeOf g3 0
      have hresT := hid (hOKA.out hI.2)
      have G3 := hid g3
      have GB := hid gb
      clear hseq hI hK g3 gb
      gi_wp2
      have hK' : (W.setCell ⟨w.heap.size + 3, 0, none⟩ (.bool true)).heap[D']? = some (.deferred (some [])) := (Below.heap_setCell _ _ _ _ (by show D' ≠ w.heap.size + 3; omega)).trans HK.out
      have h9 := keep_cells (B := 0) (set_cells G3.out (.bool true)) (grownBy_putObj' _ D' (.deferred none)) (fun r e => by cases e; exact ⟨Nat.zero_le _, _, hK', rfl⟩)
      have h10 : Below w.heap.size w ((W.setCell ⟨w.heap.size + 3, 0, none⟩ (.bool true)).putObj D' (.deferred none)) := ownFrom_below (β := Unit) (Nat.le_refl _) (Nat.le_refl _) () _ _ _ (GB.out.setCell (p := ⟨w.heap.size + 3, 0, none⟩) (by show w.heap.size ≤ w.heap.size + 3; omega) _) (grownBy_putObj' _ D' (.deferred none)) (fun r e => by cases e; exact ⟨by omega, _, hK', rfl⟩)
      have q5 := cellOf h9 0
      simp only [List.getElem?_toArray, List.getElem?_cons_zero] at q5
      refine ⟨by simp, .inl ⟨_, _, rfl, run_takeDeferred hK', ?_⟩⟩
      refine ⟨_, by simp [results, Tryz.results97, go_sem, q5]; rfl, ?_⟩
      exact ⟨by rw [hresT.out], h10⟩
    case stop =>
      rintro D' cc pre W hD ⟨kk, hkk⟩ ⟨rfl, ⟨x, hx, hx2⟩, h5, h6⟩ hK
      have hresF := hid (OKN.out x hx2)
      have HK := hid hK
      clear hseq hK
      gi_wp2
      have h9 := keep_cells (B := 0) h5 (grownBy_putObj' _ D' (.deferred none)) (fun r e => by cases e; exact ⟨Nat.zero_le _, _, HK.out, rfl⟩)
      have h10 : Below w.heap.size w (W.putObj D' (.deferred none)) := ownFrom_below (β := Unit) (Nat.le_refl _) (Nat.le_refl _) () _ _ _ h6 (grownBy_putObj' _ D' (.deferred none)) (fun r e => by cases e; exact ⟨by omega, _, HK.out, rfl⟩)
      have q5 := cellOf h9 0
      simp only [List.getElem?_toArray, List.getElem?_cons_zero] at q5
      refine ⟨by simp, .inl ⟨_, _, rfl, run_takeDeferred HK.out, ?_⟩⟩
      refine ⟨_, by simp [results, Tryz.results97, go_sem, q5]; rfl, ?_⟩
      exact ⟨by rw [hresF.out], h10⟩
end Go.Proofs.YthnolocldeokeaaGreat

namespace Go.Proofs.YthnolocldeokeaaGreat
open Go.RowKit Go.Deep Go.Shelf
set_option linter.unusedVariables false
set_option linter.unusedSimpArgs false
set_option maxRecDepth 100000
attribute [local go_sem] Oper.semAt_some
theorem Row.ne {w : World} {B : Nat} {u : Value} {xs : List Nat} (h : Row w B u xs) {b : Nat} {c : Array Value} {t : TypeId} (hb : w.heap[b]? = some (.cells c t (0, 0))) (ht : t ≠ 5) : some b ≠ u.ownBlock := fun e => by
  rcases h.2 with ⟨rfl, _⟩ | ⟨g, cap, cur, rfl, _, h4, _⟩
  · cases e
  · cases e
    rw [hb] at h4
    cases h4
    exact ht rfl
theorem Row.cells {w : World} {B : Nat} {u : Value} {xs : List Nat} (h : Row w B u xs) {g : Nat} (e : u.ownBlock = some g) : ∃ cur, w.heap[g]? = some (.cells cur 5 (0, 0)) := by
  rcases h.2 with ⟨rfl, _⟩ | ⟨g', cap, cur, rfl, _, h4, _⟩
  · cases e
  · cases e; exact ⟨cur, h4⟩
theorem grw_keeps {C : Nat} {W W1 : World} {B : Nat} {u u1 : Value} {ys : List Nat} (h : Row W B u ys) (hg : Grw W u W1 u1) : KeepsFrom C W W1 := ⟨hg.size, fun k o _ hk ho => by
  rw [hg.1.block k (lt_of_heap hk) (fun e => by
    obtain ⟨cur, hc⟩ := h.cells e.symm
    rw [hk] at hc; cases hc; cases ho)]
  exact hk⟩
theorem row_keeps {W W' : World} {row : Option Nat} {B C : Nat} {u : Value} {ys : List Nat} (h : Row W B u ys) (hg : W.grownBy W' row) (hr : ∀ r, row = some r → C ≤ r ∧ ∃ o : Obj, W.heap[r]? = some o ∧ o.isCells = false) : Row W' B u ys := h.same fun g e => by
  obtain ⟨cur, hc⟩ := h.cells e
  exact (keep_cells hc hg hr).trans hc.symm
theorem Grw.far {w W W' : World} {v u : Value} {row : Option Nat} (h : Grw w v W u) (hg : W.grownBy W' row) (hr : ∀ r, row = some r → w.heap.size ≤ r) : Grw w v W' u := by
  refine ⟨⟨hg.os.trans h.1.os, hg.tape.trans h.1.tape, hg.output.trans h.1.output, Nat.le_trans h.1.size hg.size, fun k hk hne => ?_⟩, h.2⟩
  rw [hg.block k (by have := h.1.size; omega) (fun e => by have := hr k e.symm; omega)]
  exact h.1.block k hk hne
theorem Grw.setFar {w W : World} {v u : Value} (h : Grw w v W u) {b : Nat} (hb : w.heap.size ≤ b) (i : Nat) (x : Value) : Grw w v (W.setCell ⟨b, i, none⟩ x) u := by
  have hw := (Below.refl w.heap.size w)
  refine ⟨⟨h.1.os, h.1.tape, h.1.output, by simpa using h.1.size, fun k hk hne => ?_⟩, h.2⟩
  rw [Below.heap_setCell _ ⟨b, i, none⟩ _ _ (show k ≠ b by omega)]
  exact h.1.block k hk hne
def foe (s : Shp) (o : Opx) (i : Fin 4) : List Nat := if (fl s o i).1 = 0 then [] else enc (zz (fl s o i).2)
def encOp (o : Opx) : List Nat := enc (zz o.c) ++ (fourL.map (foe (shpAt o.c) o)).flatten
structure inO (o : Opx) : Prop where
  c : inR o.c
  d : inR o.d
  a : inR o.a
  b : inR o.b
  k : inR o.k
theorem inO.fl {o : Opx} (h : inO o) (s : Shp) (i : Fin 4) : inR (Go.Proofs.YthnolocldeokeaaGreat.fl s o i).2 := by
  rcases (show i = 0 ∨ i = 1 ∨ i = 2 ∨ i = 3 by omega) with rfl | rfl | rfl | rfl
  · exact h.d
  · exact h.a
  · exact h.b
  · exact h.k
theorem foe_le {o : Opx} (h : inO o) (s : Shp) (i : Fin 4) : (foe s o i).length ≤ 10 := by
  unfold foe
  split
  · simp
  · exact enc_zz_le _ (h.fl s i)
theorem flat10 {α : Type} {f : α → List Nat} (h : ∀ i, (f i).length ≤ 10) : ∀ l : List α, ((l.map f).flatten).length ≤ 10 * l.length
  | [] => by simp
  | x :: r => by
    have h1 := flat10 h r
    have h2 := h x
    simp only [List.map_cons, List.flatten_cons, List.length_append, List.length_cons]
    omega
/- Between two rounds. -/
structure OI (w V : World) (B P X : Nat) (v : Value) (sc oc : Array Value) (base : List Nat) (f : Fin 4 → List Nat) (pre : List (Fin 4)) (W : World) : Prop where
  ex : ∃ a n c, W.heap[P]? = some (.cells #[.slice a n c] 34 (0, 0)) ∧ Row W B (.slice a n c) (base ++ (pre.map f).flatten) ∧ Grw w v W (.slice a n c)
  hx : W.heap[X]? = some (.cells sc 105 (0, 0))
  hy : W.heap[X + 1]? = some (.cells oc 54 (0, 0))
theorem OI_own {w V : World} {B P X : Nat} {v : Value} {sc oc : Array Value} {base : List Nat} {f : Fin 4 → List Nat} (hV : w.heap.size ≤ V.heap.size) : OwnFrom V.heap.size (OI w V B P X v sc oc base f) := fun s A A' row hs hg hr => by
  obtain ⟨⟨a, n, c, h1, h2, h3⟩, h4, h5⟩ := hs
  exact ⟨⟨a, n, c, keep_cells h1 hg hr, row_keeps h2 hg hr, h3.far hg (fun r e => by have := (hr r e).1; omega)⟩, keep_cells h4 hg hr, keep_cells h5 hg hr⟩
set_option maxHeartbeats 4000000 in
theorem appOp_any (SO : ShapeC) (w : World) (B : Nat) (v : Value) (xs : List Nat) (o : Opx) (h : Row w B v xs) (hB : B ≤ w.heap.size) (hl : xs.length ≤ 100000000) (ho : inO o) (hC : isC o.c = true) :
    Calls Tryz.prog 33 #[v, .agg o.cs] w (ApP w B v (xs ++ encOp o)) := by
  have hro : Fence.wide.round = none := rfl
  obtain ⟨va, vc, hv, _⟩ := h.form
  obtain ⟨vn, hvn⟩ : ∃ vn, vn = xs.length := ⟨_, rfl⟩
  rw [← hvn] at hv
  have HL : Hid (xs.length ≤ 100000000) := hid hl
  clear hvn hl
  subst hv
  obtain ⟨A1, hA1⟩ : ∃ A1, A1 = w.alloc (.cells #[.slice va vn vc] 34) := ⟨_, rfl⟩
  obtain ⟨W0, hW0⟩ : ∃ W0, W0 = A1.alloc (.cells o.cs 54) := ⟨_, rfl⟩
  have z1 : A1.heap.size = w.heap.size + 1 := by rw [hA1]; simp
  have z0 : W0.heap.size = w.heap.size + 2 := by rw [hW0]; simp; omega
  have b0 : Below w.heap.size w W0 := by rw [hW0]; exact (by rw [hA1]; exact (Below.refl _ _).alloc (Nat.le_refl _) _ : Below w.heap.size w A1).alloc (by omega) _
  have mP : W0.heap[w.heap.size]? = some (.cells #[.slice va vn vc] 34 (0, 0)) := by rw [hW0, Below.heap_alloc _ _ _ (by omega), hA1]; exact heap_alloc_new w _
  have mQ : W0.heap[w.heap.size + 1]? = some (.cells o.cs 54 (0, 0)) := by rw [hW0, ← z1]; exact heap_alloc_new A1 _
  have KS := SO W0 o.c
  rw [hC, if_pos rfl] at KS
  have ENC : Hid (xs ++ encOp o = xs ++ enc (zz o.c) ++ (fourL.map (foe (shpAt o.c) o)).flatten) := hid (by unfold encOp; rw [List.append_assoc])
  have INO := hid ho
  have FLE := hid (foe_le ho (shpAt o.c))
  have KN : Hid (∀ (V : World) (u : Value) (ys : List Nat) (k : Int), Row V B u ys → B ≤ V.heap.size → ys.length ≤ 1000000000 → inR k → Calls Tryz.prog 32 #[u, .int .i64 k] V (ApP V B u (ys ++ enc (zz k)))) := hid (fun V u ys k h1 h2 h3 h4 => appNumber_any V B u ys k h1 h2 h3 h4)
  have KF := hid (fun (V : World) => fields_in Fence.wide 5 trivial hro (shpAt o.c) o V)
  have SQ := hid (fun (V : World) (X : Nat) => fields_stops (shpAt o.c) o X 5 (by omega) V)
  have FOE : Hid (∀ i, foe (shpAt o.c) o i = if (fl (shpAt o.c) o i).1 = 0 then [] else enc (zz (fl (shpAt o.c) o i).2)) := hid (fun i => rfl)
  have INF : Hid (∀ i, inR (fl (shpAt o.c) o i).2) := hid (fun i => ho.fl _ i)
  obtain ⟨s, hs⟩ : ∃ s, s = shpAt o.c := ⟨_, rfl⟩
  rw [← hs] at KS KF SQ ENC FOE FLE INF
  generalize foe s o = ff at ENC FOE FLE
  have H0 := hid (h.below (Nat.le_refl _) b0)
  have HB0 := hid b0
  have HB := hid hB
  obtain ⟨oc, od, oaa, ob, ok⟩ := o
  obtain ⟨nm, sd, sa, sb, sk⟩ := s
  simp only [Opx.cs, Shp.cs] at hW0 mQ KS KF SQ ENC FOE INF INO ⊢
  have KS := hid KS
  have HH := hid h
  have G1 : Hid (∀ V : World, Below W0.heap.size W0 V → V.heap[w.heap.size]? = some (.cells #[.slice va vn vc] 34 (0, 0)) ∧ V.heap[w.heap.size + 1]? = some (.cells #[.int .i64 oc, .int .i64 od, .int .i64 oaa, .int .i64 ob, .int .i64 ok] 54 (0, 0)) ∧ Below w.heap.size w V) := hid (fun V hV => ⟨(hV.block _ (by omega)).trans mP, (hV.block _ (by omega)).trans mQ, b0.trans (hV.mono b0.size)⟩)
  have YC : Hid (∀ (V : World) (q : Obj), Below W0.heap.size W0 V → (V.alloc q).cell? ⟨w.heap.size, 0, none⟩ = some (.slice va vn vc) ∧ (V.alloc q).cell? ⟨w.heap.size + 1, 0, none⟩ = some (.int .i64 oc) ∧ (V.alloc q).cell? ⟨w.heap.size + 1, 1, none⟩ = some (.int .i64 od) ∧ (V.alloc q).cell? ⟨w.heap.size + 1, 2, none⟩ = some (.int .i64 oaa) ∧ (V.alloc q).cell? ⟨w.heap.size + 1, 3, none⟩ = some (.int .i64 ob) ∧ (V.alloc q).cell? ⟨w.heap.size + 1, 4, none⟩ = some (.int .i64 ok)) := hid (fun V q hV => by
    have bq := hV.trans (((Below.refl _ V).alloc (Nat.le_refl _) q).mono hV.size)
    obtain ⟨g1, g2, _⟩ := G1.out _ bq
    exact ⟨cellOf g1 0, cellOf g2 0, cellOf g2 1, cellOf g2 2, cellOf g2 3, cellOf g2 4⟩)
  have KA : Hid (∀ V : World, Below W0.heap.size W0 V → Calls Tryz.prog 32 #[.slice va vn vc, .int .i64 oc] (V.alloc (.cells #[.string nm, .int .u8 sd, .int .u8 sa, .int .u8 sb, .int .u8 sk] 105)) (ApP (V.alloc (.cells #[.string nm, .int .u8 sd, .int .u8 sa, .int .u8 sb, .int .u8 sk] 105)) B (.slice va vn vc) (xs ++ enc (zz oc)))) := hid (fun V hV => by
    have b1 := (G1.out V hV).2.2
    have b2 := b1.alloc b1.size (.cells #[.string nm, .int .u8 sd, .int .u8 sa, .int .u8 sb, .int .u8 sk] 105)
    exact KN.out _ _ xs oc (h.below (Nat.le_refl _) b2) (Nat.le_trans hB b2.size) (by have := HL.out; omega) INO.out.c)
  /- behind the first number -/
  have NX : Hid (∀ (V V2 : World) (a2 : Option Addr) (n2 c2 : Nat), Below W0.heap.size W0 V → Grw (V.alloc (.cells #[.string nm, .int .u8 sd, .int .u8 sa, .int .u8 sb, .int .u8 sk] 105)) (.slice va vn vc) V2 (.slice a2 n2 c2) → V2.cell? ⟨w.heap.size, 0, none⟩ = some (.slice va vn vc) ∧ V2.frozen? ⟨w.heap.size, 0, none⟩ = false ∧ ((V2.setCell ⟨w.heap.size, 0, none⟩ (.slice a2 n2 c2)).cell? ⟨V.heap.size, 0, none⟩ = some (.string nm) ∧ (V2.setCell ⟨w.heap.size, 0, none⟩ (.slice a2 n2 c2)).cell? ⟨V.heap.size, 1, none⟩ = some (.int .u8 sd) ∧ (V2.setCell ⟨w.heap.size, 0, none⟩ (.slice a2 n2 c2)).cell? ⟨V.heap.size, 2, none⟩ = some (.int .u8 sa) ∧ (V2.setCell ⟨w.heap.size, 0, none⟩ (.slice a2 n2 c2)).cell? ⟨V.heap.size, 3, none⟩ = some (.int .u8 sb) ∧ (V2.setCell ⟨w.heap.size, 0, none⟩ (.slice a2 n2 c2)).cell? ⟨V.heap.size, 4, none⟩ = some (.int .u8 sk)) ∧ ((V2.setCell ⟨w.heap.size, 0, none⟩ (.slice a2 n2 c2)).cell? ⟨w.heap.size + 1, 0, none⟩ = some (.int .i64 oc) ∧ (V2.setCell ⟨w.heap.size, 0, none⟩ (.slice a2 n2 c2)).cell? ⟨w.heap.size + 1, 1, none⟩ = some (.int .i64 od) ∧ (V2.setCell ⟨w.heap.size, 0, none⟩ (.slice a2 n2 c2)).cell? ⟨w.heap.size + 1, 2, none⟩ = some (.int .i64 oaa) ∧ (V2.setCell ⟨w.heap.size, 0, none⟩ (.slice a2 n2 c2)).cell? ⟨w.heap.size + 1, 3, none⟩ = some (.int .i64 ob) ∧ (V2.setCell ⟨w.heap.size, 0, none⟩ (.slice a2 n2 c2)).cell? ⟨w.heap.size + 1, 4, none⟩ = some (.int .i64 ok)) ∧ (V2.setCell ⟨w.heap.size, 0, none⟩ (.slice a2 n2 c2)).heap[w.heap.size]? = some (.cells #[.slice a2 n2 c2] 34 (0, 0)) ∧ Grw w (.slice va vn vc) V2 (.slice a2 n2 c2) ∧ w.heap.size + 2 ≤ V2.heap.size ∧ V2.heap[w.heap.size]? = some (.cells #[.slice va vn vc] 34 (0, 0))) := hid (fun V V2 a2 n2 c2 hV hg => by
    have b1 := (G1.out V hV).2.2
    have bq := hV.trans (((Below.refl _ V).alloc (Nat.le_refl _) (.cells #[.string nm, .int .u8 sd, .int .u8 sa, .int .u8 sb, .int .u8 sk] 105)).mono hV.size)
    obtain ⟨g1, g2, gb⟩ := G1.out _ bq
    have g3 : (V.alloc (.cells #[.string nm, .int .u8 sd, .int .u8 sa, .int .u8 sb, .int .u8 sk] 105)).heap[V.heap.size]? = some (.cells #[.string nm, .int .u8 sd, .int .u8 sa, .int .u8 sb, .int .u8 sk] 105 (0, 0)) := heap_alloc_new V _
    have rw1 := h.below (Nat.le_refl _) gb
    have k1 := (hg.1.block _ (lt_of_heap g1) (rw1.ne g1 (by decide))).trans g1
    have k2 := (hg.1.block _ (lt_of_heap g2) (rw1.ne g2 (by decide))).trans g2
    have k3 := (hg.1.block _ (lt_of_heap g3) (rw1.ne g3 (by decide))).trans g3
    have hVs : V.heap.size ≠ w.heap.size := by have := hV.size; omega
    have o2 : (V2.setCell ⟨w.heap.size, 0, none⟩ (.slice a2 n2 c2)).heap[w.heap.size + 1]? = _ := (Below.heap_setCell _ ⟨w.heap.size, 0, none⟩ _ _ (show w.heap.size + 1 ≠ w.heap.size by omega)).trans k2
    have o3 : (V2.setCell ⟨w.heap.size, 0, none⟩ (.slice a2 n2 c2)).heap[V.heap.size]? = _ := (Below.heap_setCell _ ⟨w.heap.size, 0, none⟩ _ _ (show V.heap.size ≠ w.heap.size from hVs)).trans k3
    exact ⟨cellOf k1 0, freeOf k1 0, ⟨cellOf o3 0, cellOf o3 1, cellOf o3 2, cellOf o3 3, cellOf o3 4⟩, ⟨cellOf o2 0, cellOf o2 1, cellOf o2 2, cellOf o2 3, cellOf o2 4⟩, set_cells k1 _, (Grw.ofBelow _ gb).trans hg, lt_of_heap k2, k1⟩)
  have OWN : Hid (∀ (a2 : Option Addr) (n2 c2 : Nat) (V2 : World), Grw w (.slice va vn vc) V2 (.slice a2 n2 c2) → Row V2 B (.slice a2 n2 c2) (xs ++ enc (zz oc)) → V2.heap[w.heap.size]? = some (.cells #[.slice va vn vc] 34 (0, 0)) → some w.heap.size ≠ (Value.slice a2 n2 c2).ownBlock) := hid (fun a2 n2 c2 V2 _ hr hp => hr.ne hp (by decide))
  clear mP mQ b0 h
  clear hs
  refine (callsIn_wide (n := 6)).1 ?_
  refine callsIn_of_wp_marks Tryz.func33 rfl trivial ?_ hro
  simp only [Tryz.ntmps33, List.size_toArray, List.length_cons, List.length_nil, Nat.reduceAdd, Nat.reduceSub, Array.replicate_succ, Array.replicate_zero, List.push_toArray, List.append_toArray, List.nil_append, List.cons_append]
  gi_wp2_with (refine ⟨trivial, ?_⟩; first
    | (gi_at_call 54; (rw [← hA1, ← hW0]; refine (callsIn_wide.2 (Hid.out KS)).mono ?_; rintro e w1 ⟨rfl, hb1⟩; have HB1 := hid hb1; have y0 := fun q => (YC.out w1 q hb1).1; have y1 := fun q => (YC.out w1 q hb1).2.1; have y2 := fun q => (YC.out w1 q hb1).2.2.1; have y3 := fun q => (YC.out w1 q hb1).2.2.2.1; have y4 := fun q => (YC.out w1 q hb1).2.2.2.2.1; have y5 := fun q => (YC.out w1 q hb1).2.2.2.2.2; clear hb1))
    | (gi_at_call 32; (refine (callsIn_wide.2 (KA.out w1 HB1.out)).mono ?_; rintro e w2 ⟨u2, rfl, hr2, hg2⟩; obtain ⟨a2, c2, hu2, _⟩ := hr2.form; obtain ⟨n2, hn2⟩ : ∃ n2, n2 = (xs ++ enc (zz oc)).length := ⟨_, rfl⟩; rw [← hn2] at hu2; clear hn2; subst hu2; have HR2 := hid hr2; obtain ⟨p0, p1, ⟨s0, s1, s2, s3, s4⟩, ⟨o0, o1, o2, o3, o4⟩, pP, pG, pS, pK⟩ := NX.out w1 w2 a2 n2 c2 HB1.out hg2; have PP := hid pP; have PG := hid pG; have PK := hid pK; clear hr2 hg2 pP pG pK y0 y1 y2 y3 y4 y5))
    | (gi_at_call 56; (refine (KF.out _).mono ?_; rintro e w3 ⟨rfl, rfl⟩; clear s0 s1 s2 s3 s4 o0 o1 o2 o3 o4 p0 p1)))
  have zs : (w2.setCell ⟨w.heap.size, 0, none⟩ (.slice a2 n2 c2)).heap.size = w2.heap.size := by simp
  obtain ⟨V0, hV0⟩ : ∃ V0, V0 = w2.setCell ⟨w.heap.size, 0, none⟩ (.slice a2 n2 c2) := ⟨_, rfl⟩
  rw [← hV0] at zs PP
  obtain ⟨V, hV⟩ : ∃ V, V = (V0.alloc (.cells #[.string nm, .int .u8 sd, .int .u8 sa, .int .u8 sb, .int .u8 sk] 105)).alloc (.cells #[.int .i64 oc, .int .i64 od, .int .i64 oaa, .int .i64 ob, .int .i64 ok] 54) := ⟨_, rfl⟩
  rw [← hV0, ← hV]
  have bV : Below V0.heap.size V0 V := by rw [hV]; exact ((Below.refl _ _).alloc (Nat.le_refl _) _).alloc (by simp) _
  have ms : V.heap[w2.heap.size]? = some (.cells #[.string nm, .int .u8 sd, .int .u8 sa, .int .u8 sb, .int .u8 sk] 105 (0, 0)) := by
    rw [hV, Below.heap_alloc _ _ _ (by simp; omega), ← zs]; exact heap_alloc_new V0 _
  have mo : V.heap[w2.heap.size + 1]? = some (.cells #[.int .i64 oc, .int .i64 od, .int .i64 oaa, .int .i64 ob, .int .i64 ok] 54 (0, 0)) := by
    have := heap_alloc_new (V0.alloc (.cells #[.string nm, .int .u8 sd, .int .u8 sa, .int .u8 sb, .int .u8 sk] 105)) (.cells #[.int .i64 oc, .int .i64 od, .int .i64 oaa, .int .i64 ob, .int .i64 ok] 54)
    rw [World.size_alloc, zs] at this; rw [hV]; exact this
  have mP := (bV.block _ (lt_of_heap PP.out)).trans PP.out
  have zV : w2.heap.size + 1 < V.heap.size := lt_of_heap mo
  have gV : Grw w (.slice va vn vc) V (.slice a2 n2 c2) := (by rw [hV0]; exact PG.out.setFar (Nat.le_refl _) 0 _ : Grw w (.slice va vn vc) V0 (.slice a2 n2 c2)).trans (Grw.ofBelow _ bV)
  have rV : Row V B (.slice a2 n2 c2) (xs ++ enc (zz oc)) := (HR2.out.same fun g e => by
    rw [hV0, Below.heap_setCell _ ⟨w.heap.size, 0, none⟩ _ _ (show g ≠ w.heap.size from fun e2 => by
      have h1 := OWN.out a2 n2 c2 w2 PG.out HR2.out PK.out
      rw [← e2] at h1; exact h1 e.symm)] : Row V0 B (.slice a2 n2 c2) (xs ++ enc (zz oc))).below (Nat.le_refl _) bV
  have hseq := SQ.out V w2.heap.size ms mo
  have hwV : w.heap.size ≤ V.heap.size := by omega
  have hBV : B ≤ V.heap.size := Nat.le_trans hB hwV
  clear hA1 hW0 hV hV0 zs bV KS KF SQ G1 YC KA NX HB1 HR2 PP PG OWN PK
  refine range_go2 hro (by omega) (gf := 90) (lb := #[.pointer (some ⟨w2.heap.size, 0, none⟩), .pointer (some ⟨w2.heap.size + 1, 0, none⟩)]) rfl trivial (enters_of Tryz.func90 (by kernel_rfl) rfl) (enc1 := fun x => .int .u8 (fl ⟨nm, sd, sa, sb, sk⟩ ⟨oc, od, oaa, ob, ok⟩ x).1) (enc2 := fun x => .int .i64 (fl ⟨nm, sd, sa, sb, sk⟩ ⟨oc, od, oaa, ob, ok⟩ x).2) hseq K2_r K2_t (K2_b (by omega)) (OI w V B w.heap.size w2.heap.size (.slice va vn vc) #[.string nm, .int .u8 sd, .int .u8 sa, .int .u8 sb, .int .u8 sk] #[.int .i64 oc, .int .i64 od, .int .i64 oaa, .int .i64 ob, .int .i64 ok] (xs ++ enc (zz oc)) ff) (fun _ _ _ => False) (OI_own hwV) (fun c s A A' row hs _ _ => hs) ⟨⟨a2, n2, c2, mP, by simpa using rV, gV⟩, ms, mo⟩ ?round ?done ?stop
  case round =>
    intro ll x W K hK
    have HKK := hid hK
    clear hK
    have HF := hid (FOE.out x)
    have HIx := hid (INF.out x)
    generalize fl ⟨nm, sd, sa, sb, sk⟩ ⟨oc, od, oaa, ob, ok⟩ x = fx at HF HIx ⊢
    obtain ⟨rx, nx⟩ := fx
    simp only [List.setIfInBounds_toArray, List.set_cons_zero, List.set_cons_succ] at HF HIx ⊢
    gi_wp2
    refine HKK.out _ ?_
    clear HKK K W ll hseq
    intro l' pre W' hl hrr hi hlt
    obtain ⟨⟨a, n, c, h1, h2, h3⟩, h4, h5⟩ := hi
    have hMF : (xs ++ enc (zz oc)) ++ ((pre ++ [x]).map ff).flatten = (xs ++ enc (zz oc)) ++ (pre.map ff).flatten ++ ff x := by simp
    by_cases hz : rx = 0
    · have HH1 : Hid (OI w V B w.heap.size w2.heap.size (.slice va vn vc) #[.string nm, .int .u8 sd, .int .u8 sa, .int .u8 sb, .int .u8 sk] #[.int .i64 oc, .int .i64 od, .int .i64 oaa, .int .i64 ob, .int .i64 ok] (xs ++ enc (zz oc)) ff (pre ++ [x]) W') := hid ⟨⟨a, n, c, h1, by rw [hMF, HF.out, if_pos hz, List.append_nil]; exact h2, h3⟩, h4, h5⟩
      subst hz
      clear h1 h2 h3 h4 h5 hrr hMF
      gi_wp2
      exact ⟨KeepsFrom.refl _ _, K2_r _, HH1.out⟩
    · have hle : ((pre.map ff).flatten).length ≤ 10 * pre.length := flat10 FLE.out pre
      have hle2 : (xs ++ enc (zz oc) ++ (pre.map ff).flatten).length ≤ 1000000000 := by
        have h1 := HL.out
        have h2 := enc_zz_le oc INO.out.c
        simp only [List.length_append]; omega
      have hsz : w.heap.size ≤ W'.heap.size := h3.size
      have KX := hid (KN.out W' (.slice a n c) _ nx h2 (Nat.le_trans hB hsz) hle2 HIx.out)
      have c0 := cellOf h1 0
      simp only [List.getElem?_toArray, List.getElem?_cons_zero] at c0
      have hXP : w2.heap.size ≠ w.heap.size := by omega
      have NX : Hid (∀ (w8 : World) (a8 : Option Addr) (n8 c8 : Nat), Row w8 B (.slice a8 n8 c8) (xs ++ enc (zz oc) ++ (pre.map ff).flatten ++ enc (zz nx)) → Grw W' (.slice a n c) w8 (.slice a8 n8 c8) → w8.cell? ⟨w.heap.size, 0, none⟩ = some (.slice a n c) ∧ w8.frozen? ⟨w.heap.size, 0, none⟩ = false ∧ KeepsFrom V.heap.size W' (w8.setCell ⟨w.heap.size, 0, none⟩ (.slice a8 n8 c8)) ∧ K2 w2.heap.size W' (w8.setCell ⟨w.heap.size, 0, none⟩ (.slice a8 n8 c8)) ∧ OI w V B w.heap.size w2.heap.size (.slice va vn vc) #[.string nm, .int .u8 sd, .int .u8 sa, .int .u8 sb, .int .u8 sk] #[.int .i64 oc, .int .i64 od, .int .i64 oaa, .int .i64 ob, .int .i64 ok] (xs ++ enc (zz oc)) ff (pre ++ [x]) (w8.setCell ⟨w.heap.size, 0, none⟩ (.slice a8 n8 c8))) := hid (fun w8 a8 n8 c8 hr8 hg8 => by
        have k1 := (hg8.1.block _ (lt_of_heap h1) (h2.ne h1 (by decide))).trans h1
        have k4 := (hg8.1.block _ (lt_of_heap h4) (h2.ne h4 (by decide))).trans h4
        have k5 := (hg8.1.block _ (lt_of_heap h5) (h2.ne h5 (by decide))).trans h5
        have j4 := (Below.heap_setCell w8 ⟨w.heap.size, 0, none⟩ (.slice a8 n8 c8) _ (show w2.heap.size ≠ w.heap.size from hXP)).trans k4
        have j5 := (Below.heap_setCell w8 ⟨w.heap.size, 0, none⟩ (.slice a8 n8 c8) _ (show w2.heap.size + 1 ≠ w.heap.size by omega)).trans k5
        refine ⟨cellOf k1 0, freeOf k1 0, (grw_keeps h2 hg8).trans ((KeepsOthers.setCell _ _ _).from _), ⟨j4.trans h4.symm, j5.trans h5.symm⟩, ⟨⟨a8, n8, c8, set_cells k1 _, ?_, (h3.trans hg8).setFar (Nat.le_refl _) 0 _⟩, j4, j5⟩⟩
        rw [hMF, HF.out, if_neg hz]
        exact hr8.same fun g e => Below.heap_setCell _ ⟨w.heap.size, 0, none⟩ _ _ (show g ≠ w.heap.size from fun e2 => by
          have h9 := hr8.ne k1 (by decide)
          rw [← e2] at h9; exact h9 e.symm))
      clear h1 h2 h3 h4 h5 hrr hMF hle hle2
      have hzb : (rx != 0) = true := by simp [hz]
      have hzc : (rx == 0) = false := by simp [hz]
      gi_wp2_with (refine ⟨trivial, ?_⟩; gi_at_call 32; (refine (CallsIn.inRound l' (callsIn_wide.2 (Hid.out KX))).mono ?_; rintro e w8 ⟨u8, rfl, hr8, hg8⟩; obtain ⟨a8, c8, hu8, _⟩ := hr8.form; obtain ⟨n8, hn8⟩ : ∃ n8, n8 = (xs ++ enc (zz oc) ++ (pre.map ff).flatten ++ enc (zz nx)).length := ⟨_, rfl⟩; rw [← hn8] at hu8; clear hn8; subst hu8; obtain ⟨p0, p1, p2⟩ := NX.out w8 a8 n8 c8 hr8 hg8; have P2 := hid p2; clear hr8 hg8 p2))
      exact P2.out
  case done =>
    rintro D' ys W hD rfl hI hK
    obtain ⟨⟨a, n, c, h1, h2, h3⟩, h4, h5⟩ := hI
    have c0 := cellOf h1 0
    simp only [List.getElem?_toArray, List.getElem?_cons_zero] at c0
    have HK := hid hK
    have H2 := hid h2
    have H3 := hid h3
    clear hseq hK h1 h2 h3 h4 h5
    gi_wp2
    refine ⟨by simp, .inl ⟨_, _, rfl, run_takeDeferred HK.out, ?_⟩⟩
    refine ⟨_, by simp [results, Tryz.results33, go_sem]; rfl, ?_⟩
    have hr : ∀ r, some D' = some r → V.heap.size ≤ r ∧ ∃ o : Obj, W.heap[r]? = some o ∧ o.isCells = false := fun r e => by cases e; exact ⟨hD, _, HK.out, rfl⟩
    exact ⟨_, rfl, by rw [ENC.out]; exact row_keeps H2.out (grownBy_putObj' _ D' (.deferred none)) hr, H3.out.far (grownBy_putObj' _ D' (.deferred none)) (fun r e => by have := (hr r e).1; omega)⟩
  case stop =>
    rintro D' cc pre W hD _ hf
    exact hf.elim
end Go.Proofs.YthnolocldeokeaaGreat

