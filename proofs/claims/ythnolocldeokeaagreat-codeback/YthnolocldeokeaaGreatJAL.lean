/- A range over a function whose round begins by assigning: one goal for a round. -/
import Derived.Test.YthnolocldeokeaaGreatJAK
namespace Go.Proofs.YthnolocldeokeaaGreat
open Go.RowKit Go.Deep Go.Shelf
set_option linter.unusedVariables false
set_option linter.unusedSimpArgs false
theorem range_go {α : Type} {F : Fence} {n : Nat} {P : Program} {g : Operand} {ps : Array Tmp} {assign body : Code} {Q : Exit → Act → World → Prop} {a : Act} {w : World}
    (hro : F.round = none) (h1 : 1 ≤ n) {gf : Nat} {lb : Array Value} (hg : a.eval g = .func (.func gf) #[] lb) (hFg : F.fn gf) (eg : ∀ args w, (callFunc gf args).run P w = .ok (.enter gf args) w)
    {encs : α → Array Value} {Kp : World → World → Prop} {S Sp : List α → Prop} {N : Nat} (hseq : SeqStopsK F (n - 1) P gf lb encs Kp S Sp N w)
    (hKr : ∀ A : World, Kp A A) (hKt : ∀ {A B C : World}, Kp A B → Kp B C → Kp A C) (hKb : ∀ (W : World) (l : Nat) (o o' : Obj), w.heap.size ≤ l → W.heap[l]? = some o → o.isCells = false → o.isWalk = false → Kp W (W.putObj l o')) (hps : ∀ x, (encs x).size = ps.size)
    (I : List α → World → Prop) (Ix : Code → List α → World → Prop) (hI : OwnFrom w.heap.size I) (hIx : ∀ c, OwnFrom w.heap.size (Ix c)) (h0 : I [] w)
    (hround : ∀ (l : Nat) (x : α) (W : World) (K : Act → World → Prop), (∀ a', (∀ (l' : Nat) (pre : List α) (W' : World), w.heap.size ≤ l' → (∃ r, W'.heap[l']? = some (.loop r)) → I pre W' → pre.length < N → body.wpIn (F.inRound l') (n - 1 - 1) P (ownPostG w.heap.size Kp I Ix (pre ++ [x]) W') a' W') → K a' W) →
      assign.wpIn (F.inRound l) (n - 1 - 1) P (Exit.then K (fun _ _ _ => False)) { tmps := (ps.zip (encs x)).foldl (fun t (p, v) => t.setIfInBounds p v) a.tmps, defers := [] } W)
    (hdone : ∀ (D : Nat) (xs : List α) (W : World), w.heap.size ≤ D → S xs → I xs W → W.heap[D]? = some (.deferred (some [])) → Q .normal { a with defers := { target := .collected D, args := #[] } :: a.defers } W)
    (hstop : ∀ (D : Nat) (c : Code) (pre : List α) (W : World), w.heap.size ≤ D → Sp pre → Ix c pre W → W.heap[D]? = some (.deferred (some [])) → c.wpIn F n P Q { a with defers := { target := .collected D, args := #[] } :: a.defers } W) :
    (Code.rangeFunc g ps assign body).wpIn F n P Q a w := by
  refine wpIn_rangeFunc_ownH hro h1 hg hFg eg hseq hKt hKb (Below.refl _ _) hps I Ix hI hIx h0 (fun x a' _ => ∀ (l' : Nat) (pre : List α) (W' : World), w.heap.size ≤ l' → (∃ r, W'.heap[l']? = some (.loop r)) → I pre W' → pre.length < N → body.wpIn (F.inRound l') (n - 1 - 1) P (ownPostG w.heap.size Kp I Ix (pre ++ [x]) W') a' W') (fun x a' _ A B row hs _ _ => hs) ?_ ?_ hdone hstop
  · intro l pre x W K hi hK
    exact hround l x W K (fun a' h => hK a' W (KeepsFrom.refl _ _) (hKr W) hi h)
  · intro l pre x a' W hl hr hi hA hlt
    exact hA l pre W hl hr hi hlt
theorem zip2 (p1 p2 : Tmp) (v1 v2 : Value) (t : Array Value) : ((#[p1, p2] : Array Tmp).zip #[v1, v2]).foldl (fun t (p, v) => t.setIfInBounds p v) t = (t.setIfInBounds p1 v1).setIfInBounds p2 v2 := by simp
theorem range_go2 {α : Type} {F : Fence} {n : Nat} {P : Program} {g : Operand} {p1 p2 : Tmp} {assign body : Code} {Q : Exit → Act → World → Prop} {a : Act} {w : World}
    (hro : F.round = none) (h1 : 1 ≤ n) {gf : Nat} {lb : Array Value} (hg : a.eval g = .func (.func gf) #[] lb) (hFg : F.fn gf) (eg : ∀ args w, (callFunc gf args).run P w = .ok (.enter gf args) w)
    {enc1 enc2 : α → Value} {Kp : World → World → Prop} {S Sp : List α → Prop} {N : Nat} (hseq : SeqStopsK F (n - 1) P gf lb (fun x => #[enc1 x, enc2 x]) Kp S Sp N w)
    (hKr : ∀ A : World, Kp A A) (hKt : ∀ {A B C : World}, Kp A B → Kp B C → Kp A C) (hKb : ∀ (W : World) (l : Nat) (o o' : Obj), w.heap.size ≤ l → W.heap[l]? = some o → o.isCells = false → o.isWalk = false → Kp W (W.putObj l o'))
    (I : List α → World → Prop) (Ix : Code → List α → World → Prop) (hI : OwnFrom w.heap.size I) (hIx : ∀ c, OwnFrom w.heap.size (Ix c)) (h0 : I [] w)
    (hround : ∀ (l : Nat) (x : α) (W : World) (K : Act → World → Prop), (∀ a', (∀ (l' : Nat) (pre : List α) (W' : World), w.heap.size ≤ l' → (∃ r, W'.heap[l']? = some (.loop r)) → I pre W' → pre.length < N → body.wpIn (F.inRound l') (n - 1 - 1) P (ownPostG w.heap.size Kp I Ix (pre ++ [x]) W') a' W') → K a' W) →
      assign.wpIn (F.inRound l) (n - 1 - 1) P (Exit.then K (fun _ _ _ => False)) { tmps := (a.tmps.setIfInBounds p1 (enc1 x)).setIfInBounds p2 (enc2 x), defers := [] } W)
    (hdone : ∀ (D : Nat) (xs : List α) (W : World), w.heap.size ≤ D → S xs → I xs W → W.heap[D]? = some (.deferred (some [])) → Q .normal { a with defers := { target := .collected D, args := #[] } :: a.defers } W)
    (hstop : ∀ (D : Nat) (c : Code) (pre : List α) (W : World), w.heap.size ≤ D → Sp pre → Ix c pre W → W.heap[D]? = some (.deferred (some [])) → c.wpIn F n P Q { a with defers := { target := .collected D, args := #[] } :: a.defers } W) :
    (Code.rangeFunc g #[p1, p2] assign body).wpIn F n P Q a w := by
  refine range_go hro h1 hg hFg eg hseq hKr hKt hKb (fun _ => rfl) I Ix hI hIx h0 (fun l x W K hK => ?_) hdone hstop
  rw [zip2]
  exact hround l x W K hK
theorem K2_r {X : Nat} (A : World) : K2 X A A := ⟨rfl, rfl⟩
/- Between two rounds nothing but what is new has turned since V. -/
def BI {α : Type} (V : World) (ok : α → Bool) (pre : List α) (W : World) : Prop := Below V.heap.size V W ∧ ∀ x ∈ pre, ok x = true
theorem BI_own {α : Type} (V : World) (ok : α → Bool) : OwnFrom V.heap.size (BI V ok) := fun s A A' row hs hg hr => ⟨ownFrom_below (β := Unit) (Nat.le_refl _) (Nat.le_refl _) () A A' row hs.1 hg hr, hs.2⟩
theorem BI.snoc {α : Type} {V : World} {ok : α → Bool} {pre : List α} {W W' : World} {x : α} (h : BI V ok pre W) (hx : ok x = true) (k : Below W.heap.size W W') : BI V ok (pre ++ [x]) W' := ⟨h.1.trans (k.mono h.1.size), fun y hy => by
  rcases List.mem_append.1 hy with hy | hy
  · exact h.2 y hy
  · simp at hy; subst hy; exact hx⟩
/- The loop was left by a return of false. -/
def BX {α : Type} (w V : World) (R : Nat) (ok : α → Bool) (c : Code) (pre : List α) (W : World) : Prop := c = .ret ∧ (∃ x ∈ pre, ok x = false) ∧ W.heap[R]? = some (.cells #[.bool false] 4 (0, 0)) ∧ Below w.heap.size w W
theorem BX_own {α : Type} (w V : World) (R : Nat) (ok : α → Bool) (hw : w.heap.size ≤ V.heap.size) (c : Code) : OwnFrom V.heap.size (BX w V R ok c) := fun s A A' row hs hg hr =>
  ⟨hs.1, hs.2.1, keep_cells hs.2.2.1 hg hr, ownFrom_below (β := Unit) (Nat.le_refl _) hw () A A' row hs.2.2.2 hg hr⟩
end Go.Proofs.YthnolocldeokeaaGreat

namespace Go.Proofs.YthnolocldeokeaaGreat
open Go.RowKit Go.Deep Go.Shelf
set_option linter.unusedVariables false
set_option linter.unusedSimpArgs false
attribute [local go_sem] Oper.semAt_some
def ShapeC : Prop := ∀ (w : World) (k : Int), Calls Tryz.prog 54 #[.int .i64 k] w fun e w' => e = .returned (.tuple #[.agg (if isC k = true then shpAt k else shp0).cs.toArray, .bool (isC k)]) ∧ Below w.heap.size w w'
def okF (c : Cx) (regs : Int) (nops : Nat) (o : Opx) (i : Fin 4) : Bool := inB (bnd c regs nops (fl (shpAt o.c) o i).1 (rowLen (shpAt o.c).k c.p o.k).1) (fl (shpAt o.c) o i).2
theorem okF_all {c : Cx} {regs : Int} {nops : Nat} {o : Opx} (h : isC o.c = true) (hf : ∀ x ∈ fourL, okF c regs nops o x = true) : isOpB c regs nops o = true := by
  have h0 := hf 0 (by simp [fourL])
  have h1 := hf 1 (by simp [fourL])
  have h2 := hf 2 (by simp [fourL])
  have h3 := hf 3 (by simp [fourL])
  simp only [okF, fl] at h0 h1 h2 h3
  simp [isOpB, h, h0, h1, h2, h3]
theorem okF_no {c : Cx} {regs : Int} {nops : Nat} {o : Opx} {i : Fin 4} (hf : okF c regs nops o i = false) : isOpB c regs nops o = false := by
  unfold okF at hf
  unfold isOpB
  rcases (show i = 0 ∨ i = 1 ∨ i = 2 ∨ i = 3 by omega) with rfl | rfl | rfl | rfl <;> (simp only [fl] at hf; simp [hf])
theorem rowLen_bounds (c : Cx) (C : CH) (L : Lns C c) (w : World) (d : PRd w C.h c.p) (r k : Int) : 0 ≤ (rowLen r c.p k).1 ∧ (rowLen r c.p k).1 ≤ 9223372036854775807 := by
  have pm : ∀ {a : Option Addr} {n : Nat} {gs : List (GH × Sg)}, GRd w a n gs → 0 ≤ (parmB (gs.map (·.2)) k).1 ∧ (parmB (gs.map (·.2)) k).1 ≤ 9223372036854775807 := by
    intro a n gs dg
    cases hb : blw k (gs.length : Int) with
    | false => unfold parmB; rw [List.length_map, hb]; simp
    | true =>
      obtain ⟨kk, rfl, hk⟩ := blw_nat hb
      obtain ⟨g, hg, sg, _⟩ := dg.sig (by rw [dg.n1]; exact hk)
      rw [parm_at hg hb]
      have h1 := sg.pn
      have h2 := sg.p2
      simp only
      omega
  unfold rowLen
  split
  · cases hb : blw k (c.p.recs.length : Int) with
    | false => simp
    | true =>
      obtain ⟨kk, rfl, hk⟩ := blw_nat hb
      obtain ⟨g, hg, sg, _⟩ := d.r.recd (by rw [d.r.n1]; exact hk)
      have h1 := sg.fn
      have h2 := sg.f2
      simp only [if_true, Int.toNat_natCast, List.getD_eq_getElem?_getD, List.getElem?_map, hg, Option.map_some, Option.getD_some]
      omega
  · split
    · simp
    · split
      · exact pm d.f
      · split
        · exact pm d.e
        · simp
set_option maxRecDepth 100000 in
set_option maxHeartbeats 2000000 in
theorem isOp_any (SO : ShapeC) (w : World) (C : CH) (c : Cx) (fs es : List (FH × Fx)) (d : CdRd w C c fs es) (F : FH) (h0 : 0 ≤ F.regs) (h64 : F.regs ≤ 64) (ho : F.on ≤ 9223372036854775807) (o : Opx) :
    Calls Tryz.prog 97 #[C.v, F.v, .agg o.cs] w fun e w' => e = .returned (.bool (isOpB c F.regs F.on o)) ∧ Below w.heap.size w w' := by
  have hro : Fence.wide.round = none := rfl
  obtain ⟨A1, hA1⟩ : ∃ A1, A1 = w.alloc (.cells C.cs 31) := ⟨_, rfl⟩
  obtain ⟨A2, hA2⟩ : ∃ A2, A2 = A1.alloc (.cells F.cs.toArray 57) := ⟨_, rfl⟩
  obtain ⟨A3, hA3⟩ : ∃ A3, A3 = A2.alloc (.cells o.cs 54) := ⟨_, rfl⟩
  obtain ⟨W0, hW0⟩ : ∃ W0, W0 = A3.alloc (.cells #[.bool false] 4) := ⟨_, rfl⟩
  have b1 : Below w.heap.size w A1 := by rw [hA1]; exact (Below.refl _ _).alloc (Nat.le_refl _) _
  have z1 : A1.heap.size = w.heap.size + 1 := by rw [hA1]; simp
  have z2 : A2.heap.size = w.heap.size + 2 := by rw [hA2]; simp; omega
  have z3 : A3.heap.size = w.heap.size + 3 := by rw [hA3]; simp; omega
  have z4 : W0.heap.size = w.heap.size + 4 := by rw [hW0]; simp; omega
  have b2 : Below w.heap.size w A2 := by rw [hA2]; exact b1.alloc (by omega) _
  have b3 : Below w.heap.size w A3 := by rw [hA3]; exact b2.alloc (by omega) _
  have b4 : Below w.heap.size w W0 := by rw [hW0]; exact b3.alloc (by omega) _
  have m0 : W0.heap[w.heap.size]? = some (.cells C.cs 31 (0, 0)) := by
    rw [hW0, Below.heap_alloc _ _ _ (by omega), hA3, Below.heap_alloc _ _ _ (by omega), hA2, Below.heap_alloc _ _ _ (by omega), hA1]; exact heap_alloc_new w _
  have m1 : W0.heap[w.heap.size + 1]? = some (.cells F.cs.toArray 57 (0, 0)) := by
    rw [hW0, Below.heap_alloc _ _ _ (by omega), hA3, Below.heap_alloc _ _ _ (by omega), hA2, ← z1]; exact heap_alloc_new A1 _
  have m2 : W0.heap[w.heap.size + 2]? = some (.cells o.cs 54 (0, 0)) := by
    rw [hW0, Below.heap_alloc _ _ _ (by omega), hA3, ← z2]; exact heap_alloc_new A2 _
  have m3 : W0.heap[w.heap.size + 3]? = some (.cells #[.bool false] 4 (0, 0)) := by rw [hW0, ← z3]; exact heap_alloc_new A3 _
  have KS := hid (SO W0 o.c)
  have L := d.lns
  have D := hid (fun (V : World) (hV : Below w.heap.size w V) => d.p.below (Nat.le_refl _) hV)
  have LB := hid (rowLen_bounds c C L w d.p)
  have HZ := hid z4
  have HB4 := hid b4
  have GT : Hid (∀ V : World, Below W0.heap.size W0 V → V.heap[w.heap.size]? = some (.cells C.cs 31 (0, 0)) ∧ V.heap[w.heap.size + 1]? = some (.cells F.cs.toArray 57 (0, 0)) ∧ V.heap[w.heap.size + 2]? = some (.cells o.cs 54 (0, 0)) ∧ V.heap[w.heap.size + 3]? = some (.cells #[.bool false] 4 (0, 0))) := hid (fun V hV => ⟨(hV.block _ (by omega)).trans m0, (hV.block _ (by omega)).trans m1, (hV.block _ (by omega)).trans m2, (hV.block _ (by omega)).trans m3⟩)
  clear m0 m1 m2 m3 b1 b2 b3 b4 z1 z2 z3 z4 d
  have KB := hid (fun (V : World) (r len : Int) (l0 : 0 ≤ len) (l1 : len ≤ 9223372036854775807) => bounds_any V C c L F h0 h64 ho r len l0 l1)
  have KR := hid (fun (V : World) (hV : Below w.heap.size w V) => rowLen_any V (shpAt o.c) C.h c.p (D.out V hV) o.k)
  have KF := hid (fun (V : World) => fields_in Fence.wide 5 trivial hro (shpAt o.c) o V)
  have SQ := hid (fun (V : World) (X : Nat) => fields_stops (shpAt o.c) o X 5 (by omega) V)
  obtain ⟨s, hs⟩ : ∃ s, s = shpAt o.c := ⟨_, rfl⟩
  have OKA := hid (fun (h : isC o.c = true) (hf : ∀ x ∈ fourL, okF c F.regs F.on o x = true) => okF_all h hf)
  have OKN := hid (fun (i : Fin 4) (hf : okF c F.regs F.on o i = false) => okF_no hf)
  have OKD : Hid (∀ i : Fin 4, okF c F.regs F.on o i = inB (bnd c F.regs F.on (fl (shpAt o.c) o i).1 (rowLen (shpAt o.c).k c.p o.k).1) (fl (shpAt o.c) o i).2) := hid (fun i => rfl)
  have LBk : Hid (0 ≤ (rowLen (shpAt o.c).k c.p o.k).1 ∧ (rowLen (shpAt o.c).k c.p o.k).1 ≤ 9223372036854775807) := hid (LB.out (shpAt o.c).k o.k)
  rw [← hs] at KR KF SQ KS OKD LBk
  generalize okF c F.regs F.on o = okf at OKA OKN OKD
  obtain ⟨len, lb, hlen⟩ : ∃ (len : Int) (lb : Bool), rowLen s.k c.p o.k = (len, lb) := ⟨_, _, rfl⟩
  simp only [hlen] at KR OKD LBk
  generalize bnd c F.regs F.on = bn at KB OKD
  obtain ⟨res, hres⟩ : ∃ res, res = isOpB c F.regs F.on o := ⟨_, rfl⟩
  rw [← hres] at OKA OKN ⊢
  have HRN : Hid (isC o.c = false → res = false) := hid (fun h => by rw [hres]; simp [isOpB, h])
  obtain ⟨⟨ra, rn, rc, ma, mn, mc, fa, fn, fc, ea, en, ec⟩, ia, inn, ic, ta, tn, tc, ga, gn, gc, ha, hn, hc⟩ := C
  obtain ⟨regs, oa, on, ocp⟩ := F
  obtain ⟨oc, od, oaa, ob, ok⟩ := o
  obtain ⟨nm, sd, sa, sb, sk⟩ := s
  simp only [CH.v, CH.cs, FH.v, FH.cs, Opx.cs, PH.v, Shp.cs] at hA1 hA2 hA3 KB KR KF SQ KS GT OKD OKA OKN HRN LBk ⊢
  clear LB D hlen hres hs L h0 h64 ho
  refine (callsIn_wide (n := 6)).1 ?_
  refine callsIn_of_wp_marks Tryz.func97 rfl trivial ?_ hro
  simp only [Tryz.ntmps97, List.size_toArray, List.length_cons, List.length_nil, Nat.reduceAdd, Nat.reduceSub, Array.replicate_succ, Array.replicate_zero, List.push_toArray, List.append_toArray, List.nil_append, List.cons_append]
  cases hC : isC oc with
  | false =>
    rw [hC] at KS HRN
    have hresF := hid (HRN.out rfl)
    simp only [Bool.false_eq_true, if_false, shp0, Shp.cs] at KS
    clear KB KR KF SQ OKD OKA OKN HRN LBk
    have AF := hid (fun (V : World) (hV : Below W0.heap.size W0 V) (q : Obj) => (by
      have bq := hV.trans (((Below.refl _ V).alloc (Nat.le_refl _) q).mono hV.size)
      have g := (GT.out _ bq).2.2.2
      have g8 := set_cells g (.bool false)
      exact ⟨cellOf g 0, freeOf g 0, cellOf g8 0, (HB4.out.trans (bq.mono HB4.out.size)).setCell (p := ⟨w.heap.size + 3, 0, none⟩) (by show w.heap.size ≤ w.heap.size + 3; omega) _⟩ : (V.alloc q).cell? ⟨w.heap.size + 3, 0, none⟩ = some (.bool false) ∧ (V.alloc q).frozen? ⟨w.heap.size + 3, 0, none⟩ = false ∧ ((V.alloc q).setCell ⟨w.heap.size + 3, 0, none⟩ (.bool false)).cell? ⟨w.heap.size + 3, 0, none⟩ = some (.bool false) ∧ Below w.heap.size w ((V.alloc q).setCell ⟨w.heap.size + 3, 0, none⟩ (.bool false))))
    gi_wp2_with (refine ⟨trivial, ?_⟩; gi_at_call 54; (rw [← hA1, ← hA2, ← hA3, ← hW0]; refine (callsIn_wide.2 (Hid.out KS)).mono ?_; rintro e w1 ⟨rfl, hb1⟩; have HA1 := hid (fun q => (AF.out w1 hb1 q).2.2.2); have g6 := fun q => (AF.out w1 hb1 q).1; have g7 := fun q => (AF.out w1 hb1 q).2.1; have g8 := fun q => (AF.out w1 hb1 q).2.2.1; clear hb1))
    exact ⟨_, by simp [results, Tryz.results97, go_sem, g8]; rfl, by rw [hresF.out], HA1.out _⟩
  | true =>
    rw [hC] at KS
    simp only [if_true, Shp.cs] at KS
    have hOKA := hid (OKA.out hC)
    clear HRN OKA
    have AF := hid (fun (V : World) (hV : Below W0.heap.size W0 V) (q : Obj) => (by
      have bq := hV.trans (((Below.refl _ V).alloc (Nat.le_refl _) q).mono hV.size)
      have g := GT.out _ bq
      exact ⟨HB4.out.trans (bq.mono HB4.out.size), cellOf g.1 0, cellOf g.1 1, cellOf g.1 2, cellOf g.1 3, cellOf g.2.2.1 4⟩ : Below w.heap.size w (V.alloc q) ∧ (V.alloc q).cell? ⟨w.heap.size, 0, none⟩ = some (.slice ra rn rc) ∧ (V.alloc q).cell? ⟨w.heap.size, 1, none⟩ = some (.slice ma mn mc) ∧ (V.alloc q).cell? ⟨w.heap.size, 2, none⟩ = some (.slice fa fn fc) ∧ (V.alloc q).cell? ⟨w.heap.size, 3, none⟩ = some (.slice ea en ec) ∧ (V.alloc q).cell? ⟨w.heap.size + 2, 4, none⟩ = some (.int .i64 ok)))
    have AG := hid (fun (V V2 : World) (hV : Below W0.heap.size W0 V) (h2 : Below (V.alloc (.cells #[.string nm, .int .u8 sd, .int .u8 sa, .int .u8 sb, .int .u8 sk] 105)).heap.size (V.alloc (.cells #[.string nm, .int .u8 sd, .int .u8 sa, .int .u8 sb, .int .u8 sk] 105)) V2) (q : Obj) => (by
      have bq := hV.trans (((Below.refl _ V).alloc (Nat.le_refl _) (.cells #[.string nm, .int .u8 sd, .int .u8 sa, .int .u8 sb, .int .u8 sk] 105)).mono hV.size)
      have b2 := bq.trans (h2.mono bq.size)
      have b3 := b2.trans (((Below.refl _ V2).alloc (Nat.le_refl _) q).mono b2.size)
      have g := (GT.out _ b3).2.2.1
      have hs1 : V2.heap[V.heap.size]? = some (.cells #[.string nm, .int .u8 sd, .int .u8 sa, .int .u8 sb, .int .u8 sk] 105 (0, 0)) := (h2.block _ (by rw [World.size_alloc]; omega)).trans (heap_alloc_new V _)
      have hs2 := (Below.heap_alloc V2 q _ (lt_of_heap hs1)).trans hs1
      exact ⟨b3, ⟨cellOf g 0, cellOf g 1, cellOf g 2, cellOf g 3, cellOf g 4⟩, cellOf hs2 0, cellOf hs2 1, cellOf hs2 2, cellOf hs2 3, cellOf hs2 4⟩ : Below W0.heap.size W0 (V2.alloc q) ∧ ((V2.alloc q).cell? ⟨w.heap.size + 2, 0, none⟩ = some (.int .i64 oc) ∧ (V2.alloc q).cell? ⟨w.heap.size + 2, 1, none⟩ = some (.int .i64 od) ∧ (V2.alloc q).cell? ⟨w.heap.size + 2, 2, none⟩ = some (.int .i64 oaa) ∧ (V2.alloc q).cell? ⟨w.heap.size + 2, 3, none⟩ = some (.int .i64 ob) ∧ (V2.alloc q).cell? ⟨w.heap.size + 2, 4, none⟩ = some (.int .i64 ok)) ∧ (V2.alloc q).cell? ⟨V.heap.size, 0, none⟩ = some (.string nm) ∧ (V2.alloc q).cell? ⟨V.heap.size, 1, none⟩ = some (.int .u8 sd) ∧ (V2.alloc q).cell? ⟨V.heap.size, 2, none⟩ = some (.int .u8 sa) ∧ (V2.alloc q).cell? ⟨V.heap.size, 3, none⟩ = some (.int .u8 sb) ∧ (V2.alloc q).cell? ⟨V.heap.size, 4, none⟩ = some (.int .u8 sk)))
    gi_wp2_with (refine ⟨trivial, ?_⟩; first
      | (gi_at_call 54; (rw [← hA1, ← hA2, ← hA3, ← hW0]; refine (callsIn_wide.2 (Hid.out KS)).mono ?_; rintro e w1 ⟨rfl, hb1⟩; have HB1 := hid hb1; have HA1 := hid (fun q => (AF.out w1 hb1 q).1); have y0 := fun q => (AF.out w1 hb1 q).2.1; have y1 := fun q => (AF.out w1 hb1 q).2.2.1; have y2 := fun q => (AF.out w1 hb1 q).2.2.2.1; have y3 := fun q => (AF.out w1 hb1 q).2.2.2.2.1; have y4 := fun q => (AF.out w1 hb1 q).2.2.2.2.2; clear hb1))
      | (gi_at_call 55; (refine (callsIn_wide.2 (KR.out _ (HA1.out _))).mono ?_; rintro e w2 ⟨rfl, hb2⟩; have HG := hid (AG.out w1 w2 HB1.out hb2); have u0 := fun q => (HG.out q).2.1.1; have u1 := fun q => (HG.out q).2.1.2.1; have u2 := fun q => (HG.out q).2.1.2.2.1; have u3 := fun q => (HG.out q).2.1.2.2.2.1; have u4 := fun q => (HG.out q).2.1.2.2.2.2; have v0 := fun q => (HG.out q).2.2.1; have v1 := fun q => (HG.out q).2.2.2.1; have v2 := fun q => (HG.out q).2.2.2.2.1; have v3 := fun q => (HG.out q).2.2.2.2.2.1; have v4 := fun q => (HG.out q).2.2.2.2.2.2; clear hb2 y0 y1 y2 y3 y4))
      | (gi_at_call 56; (refine (KF.out _).mono ?_; rintro e w3 ⟨rfl, rfl⟩; clear u0 u1 u2 u3 u4 v0 v1 v2 v3 v4)))
    obtain ⟨V, hV⟩ : ∃ V, V = ((w2.alloc (.cells #[.int .i64 len] 3)).alloc (.cells #[.string nm, .int .u8 sd, .int .u8 sa, .int .u8 sb, .int .u8 sk] 105)).alloc (.cells #[.int .i64 oc, .int .i64 od, .int .i64 oaa, .int .i64 ob, .int .i64 ok] 54) := ⟨_, rfl⟩
    rw [← hV]
    have bL := (HG.out (.cells #[.int .i64 len] 3)).1
    have bV : Below W0.heap.size W0 V := by rw [hV]; exact (bL.alloc bL.size _).alloc (by rw [World.size_alloc]; have := bL.size; omega) _
    have mlen : V.heap[w2.heap.size]? = some (.cells #[.int .i64 len] 3 (0, 0)) := by
      rw [hV, Below.heap_alloc _ _ _ (by simp; omega), Below.heap_alloc _ _ _ (by simp)]; exact heap_alloc_new w2 _
    have ms : V.heap[w2.heap.size + 1]? = some (.cells #[.string nm, .int .u8 sd, .int .u8 sa, .int .u8 sb, .int .u8 sk] 105 (0, 0)) := by
      rw [hV, Below.heap_alloc _ _ _ (by simp)]
      have := heap_alloc_new (w2.alloc (.cells #[.int .i64 len] 3)) (.cells #[.string nm, .int .u8 sd, .int .u8 sa, .int .u8 sb, .int .u8 sk] 105)
      rw [World.size_alloc] at this; exact this
    have mo : V.heap[w2.heap.size + 1 + 1]? = some (.cells #[.int .i64 oc, .int .i64 od, .int .i64 oaa, .int .i64 ob, .int .i64 ok] 54 (0, 0)) := by
      have := heap_alloc_new ((w2.alloc (.cells #[.int .i64 len] 3)).alloc (.cells #[.string nm, .int .u8 sd, .int .u8 sa, .int .u8 sb, .int .u8 sk] 105)) (.cells #[.int .i64 oc, .int .i64 od, .int .i64 oaa, .int .i64 ob, .int .i64 ok] 54)
      rw [World.size_alloc, World.size_alloc] at this; rw [hV]; exact this
    have zV : w2.heap.size + 1 + 1 < V.heap.size := lt_of_heap mo
    have bwV : Below w.heap.size w V := HB4.out.trans (bV.mono HB4.out.size)
    have hseq := SQ.out V (w2.heap.size + 1) ms mo
    have GV : Hid (∀ W : World, Below V.heap.size V W → (W.heap[w.heap.size]? = some (.cells #[.slice ra rn rc, .slice ma mn mc, .slice fa fn fc, .slice ea en ec, .slice ia inn ic, .slice ta tn tc, .slice ga gn gc, .slice ha hn hc] 31 (0, 0)) ∧ W.heap[w.heap.size + 1]? = some (.cells #[.int .i64 regs, .slice oa on ocp] 57 (0, 0)) ∧ W.heap[w.heap.size + 3]? = some (.cells #[.bool false] 4 (0, 0))) ∧ W.heap[w2.heap.size]? = some (.cells #[.int .i64 len] 3 (0, 0)) ∧ Below w.heap.size w W) := hid (fun W h => by
      have g := GT.out W (bV.trans (h.mono bV.size))
      exact ⟨⟨g.1, g.2.1, g.2.2.2⟩, (h.block _ (lt_of_heap mlen)).trans mlen, bwV.trans (h.mono bwV.size)⟩)
    have hwV : w.heap.size + 3 < V.heap.size := by have := bV.size; have := HZ.out; omega
    clear hA1 hA2 hA3 hW0 hV bL mlen ms mo bV bwV KS KR KF SQ GT AF AG HB1 HA1 HG
    refine range_go2 hro (by omega) (gf := 90) (lb := #[.pointer (some ⟨w2.heap.size + 1, 0, none⟩), .pointer (some ⟨w2.heap.size + 1 + 1, 0, none⟩)]) rfl trivial (enters_of Tryz.func90 (by kernel_rfl) rfl) (enc1 := fun x => .int .u8 (fl ⟨nm, sd, sa, sb, sk⟩ ⟨oc, od, oaa, ob, ok⟩ x).1) (enc2 := fun x => .int .i64 (fl ⟨nm, sd, sa, sb, sk⟩ ⟨oc, od, oaa, ob, ok⟩ x).2) hseq K2_r K2_t (K2_b (by omega)) (BI V okf) (BX w V (w.heap.size + 3) okf) (BI_own V okf) (fun c => BX_own w V _ okf (by omega) c) ⟨Below.refl _ _, by simp⟩ ?round ?done ?stop
    case round =>
      intro ll x W K hK
      have HKK := hid hK
      clear hK
      have HOK := hid (OKD.out x)
      generalize fl ⟨nm, sd, sa, sb, sk⟩ ⟨oc, od, oaa, ob, ok⟩ x = fx at HOK ⊢
      obtain ⟨rx, nx⟩ := fx
      simp only [List.setIfInBounds_toArray, List.set_cons_zero, List.set_cons_succ] at HOK ⊢
      gi_wp2
      refine HKK.out _ ?_
      clear HKK K W ll hseq
      intro l' pre W' hl hrr hi hlt
      have KBx := hid (KB.out W' rx len LBk.out.1 LBk.out.2)
      obtain ⟨lo, hi', hb⟩ : ∃ lo hi', bn rx len = (lo, hi') := ⟨_, _, rfl⟩
      simp only [hb] at KBx HOK
      obtain ⟨⟨g0, g1, g3⟩, gl, gb⟩ := GV.out W' hi.1
      have c0 := cellOf g0 0
      have c1 := cellOf g0 1
      have c2 := cellOf g0 2
      have c3 := cellOf g0 3
      have c4 := cellOf g0 4
      have c5 := cellOf g0 5
      have c6 := cellOf g0 6
      have c7 := cellOf g0 7
      have e0 := cellOf g1 0
      have e1 := cellOf g1 1
      have cl := cellOf gl 0
      simp only [List.getElem?_toArray, List.getElem?_cons_zero, List.getElem?_cons_succ] at c0 c1 c2 c3 c4 c5 c6 c7 e0 e1 cl
      have HI := hid hi
      have hsz : V.heap.size ≤ W'.heap.size := hi.1.size
      clear g0 g1 g3 gl hrr hi hb KB LBk OKD
      cases hq : okf x with
      | true =>
        have hin : ¬ nx < lo ∧ ¬ hi' < nx := by
          have := HOK.out; rw [hq] at this; unfold inB at this; simp at this; omega
        obtain ⟨n1, n2⟩ := hin
        gi_wp2_with (refine ⟨trivial, ?_⟩; gi_at_call 116; (refine (CallsIn.inRound l' (callsIn_wide.2 (Hid.out KBx))).mono ?_; rintro e w8 ⟨rfl, hb8⟩))
        exact ⟨keepsFrom_below hb8, K2_of hb8 (by omega), HI.out.snoc hq hb8⟩
      | false =>
        have hin : nx < lo ∨ (¬ nx < lo ∧ hi' < nx) := by
          have := HOK.out; rw [hq] at this; unfold inB at this; simp at this; omega
        have FIN : Hid (∀ w8 : World, Below W'.heap.size W' w8 → w8.cell? ⟨w.heap.size + 3, 0, none⟩ = some (.bool false) ∧ w8.frozen? ⟨w.heap.size + 3, 0, none⟩ = false ∧ KeepsFrom V.heap.size W' (w8.setCell ⟨w.heap.size + 3, 0, none⟩ (.bool false)) ∧ BX w V (w.heap.size + 3) okf .ret (pre ++ [x]) (w8.setCell ⟨w.heap.size + 3, 0, none⟩ (.bool false))) := hid (fun w8 hb8 => by
          obtain ⟨⟨_, _, g3⟩, _, gb⟩ := GV.out w8 (HI.out.1.trans (hb8.mono HI.out.1.size))
          exact ⟨cellOf g3 0, freeOf g3 0, (keepsFrom_below hb8).trans ((KeepsOthers.setCell _ _ _).from _), rfl, ⟨_, List.mem_append.2 (.inr (List.mem_singleton.2 rfl)), hq⟩, set_cells g3 _, gb.setCell (p := ⟨w.heap.size + 3, 0, none⟩) (by show w.heap.size ≤ w.heap.size + 3; omega) _⟩)
        rcases hin with n1 | ⟨n1, n2⟩
        · gi_wp2_with (refine ⟨trivial, ?_⟩; gi_at_call 116; (refine (CallsIn.inRound l' (callsIn_wide.2 (Hid.out KBx))).mono ?_; rintro e w8 ⟨rfl, hb8⟩; have g6 := (FIN.out w8 hb8).1; have g7 := (FIN.out w8 hb8).2.1))
          exact (FIN.out w8 hb8).2.2
        · gi_wp2_with (refine ⟨trivial, ?_⟩; gi_at_call 116; (refine (CallsIn.inRound l' (callsIn_wide.2 (Hid.out KBx))).mono ?_; rintro e w8 ⟨rfl, hb8⟩; have g6 := (FIN.out w8 hb8).1; have g7 := (FIN.out w8 hb8).2.1))
          exact (FIN.out w8 hb8).2.2
    case done =>
      rintro D' ys W hD rfl hI hK
      have HI := hid hI
      have HK := hid hK
      obtain ⟨⟨_, _, g3⟩, _, gb⟩ := GV.out W hI.1
      have g6 := cellOf g3 0
      have g7 := freeOf g3 0
      have hresT := hid (hOKA.out hI.2)
      have G3 := hid g3
      have GB := hid gb
      clear hseq hI hK g3 gb
      gi_wp2
      have hK' : (W.setCell ⟨w.heap.size + 3, 0, none⟩ (.bool true)).heap[D']? = some (.deferred (some [])) := (Below.heap_setCell _ _ _ _ (by show D' ≠ w.heap.size + 3; omega)).trans HK.out
      have h9 := keep_cells (B := 0) (set_cells G3.out (.bool true)) (grownBy_putObj' _ D' (.deferred none)) (fun r e => by cases e; exact ⟨Nat.zero_le _, _, hK', rfl⟩)
      have h10 : Below w.heap.size w ((W.setCell ⟨w.heap.size + 3, 0, none⟩ (.bool true)).putObj D' (.deferred none)) := ownFrom_below (β := Unit) (Nat.le_refl _) (Nat.le_refl _) () _ _ _ (GB.out.setCell (p := ⟨w.heap.size + 3, 0, none⟩) (by show w.heap.size ≤ w.heap.size + 3; omega) _) (grownBy_putObj' _ D' (.deferred none)) (fun r e => by cases e; exact ⟨by omega, _, hK', rfl⟩)
      have q5 := cellOf h9 0
      simp only [List.getElem?_toArray, List.getElem?_cons_zero] at q5
      refine ⟨by simp, .inl ⟨_, _, rfl, run_takeDeferred hK', ?_⟩⟩
      refine ⟨_, by simp [results, Tryz.results97, go_sem, q5]; rfl, ?_⟩
      exact ⟨by rw [hresT.out], h10⟩
    case stop =>
      rintro D' cc pre W hD ⟨kk, hkk⟩ ⟨rfl, ⟨x, hx, hx2⟩, h5, h6⟩ hK
      have hresF := hid (OKN.out x hx2)
      have HK := hid hK
      clear hseq hK
      gi_wp2
      have h9 := keep_cells (B := 0) h5 (grownBy_putObj' _ D' (.deferred none)) (fun r e => by cases e; exact ⟨Nat.zero_le _, _, HK.out, rfl⟩)
      have h10 : Below w.heap.size w (W.putObj D' (.deferred none)) := ownFrom_below (β := Unit) (Nat.le_refl _) (Nat.le_refl _) () _ _ _ h6 (grownBy_putObj' _ D' (.deferred none)) (fun r e => by cases e; exact ⟨by omega, _, HK.out, rfl⟩)
      have q5 := cellOf h9 0
      simp only [List.getElem?_toArray, List.getElem?_cons_zero] at q5
      refine ⟨by simp, .inl ⟨_, _, rfl, run_takeDeferred HK.out, ?_⟩⟩
      refine ⟨_, by simp [results, Tryz.results97, go_sem, q5]; rfl, ?_⟩
      exact ⟨by rw [hresF.out], h10⟩
end Go.Proofs.YthnolocldeokeaaGreat

namespace Go.Proofs.YthnolocldeokeaaGreat
open Go.RowKit Go.Deep Go.Shelf
set_option linter.unusedVariables false
set_option linter.unusedSimpArgs false
attribute [local go_sem] Oper.semAt_some
abbrev pop3 : Array Oper := #[{ dst := some 15, op := Op.move (Operand.tmp 0), type := 119, pos := "code.go:38", after := #[], guard := none }, { dst := some 16, op := Op.fieldAddr 31 (Operand.tmp 1) 0, type := 0, pos := "code.go:38", after := #[], guard := none }, { dst := some 17, op := Op.fieldAddr 26 (Operand.tmp 16) 2, type := 0, pos := "code.go:38", after := #[{ on := 1, ground := Ground.data }], guard := none }, { dst := some 18, op := Op.load 24 (Operand.tmp 17), type := 24, pos := "code.go:38", after := #[{ on := 2, ground := Ground.data }], guard := none }, { dst := some 19, op := Op.move (Operand.tmp 3), type := 3, pos := "code.go:38", after := #[], guard := none }, { dst := some 20, op := Op.indexAddr 24 (Operand.tmp 18) (Operand.tmp 19), type := 0, pos := "code.go:38", after := #[{ on := 3, ground := Ground.data }, { on := 4, ground := Ground.data }], guard := none }, { dst := some 21, op := Op.load 49 (Operand.tmp 20), type := 49, pos := "code.go:38", after := #[{ on := 5, ground := Ground.data }], guard := none }, { dst := some 22, op := Op.load 57 (Operand.tmp 4), type := 57, pos := "code.go:38", after := #[], guard := none }, { dst := some 23, op := Op.call { callee := Callee.value (Operand.tmp 15), args := #[Operand.tmp 21, Operand.tmp 22], argTypes := #[49, 57] }, type := 4, pos := "code.go:38", after := #[{ on := 0, ground := Ground.data }, { on := 6, ground := Ground.data }, { on := 7, ground := Ground.data }], guard := none }, { dst := some 24, op := Op.unOp UnOp.not 4 (Operand.tmp 23), type := 4, pos := "code.go:38", after := #[{ on := 8, ground := Ground.data }], guard := none }]
theorem pop3_ready : ∀ b0 b1 b2 b3 b4 b5 b6 b7 : Bool, Region.ready .any pop3 #[b0, b1, b2, b3, b4, b5, b6, b7, false, false] ≠ [] := by decide +kernel
set_option maxRecDepth 100000 in
set_option maxHeartbeats 2000000 in
theorem pop3_reads (F : Fence) (n : Nat) (hro : F.round = none) (w : World) (l Bx fb k sb so sn sc : Nat) (nm : ByteArray) (pa : Option Addr) (pn pc : Nat) (kd rr regs : Int) (oa : Option Addr) (on oc : Nat) (p2 p5 p6 p7 p8 p9 p10 p11 p12 p13 p14 p25 p26 p27 p28 p29 p30 p31 p32 p33 p34 p35 p36 p37 p38 p39 p40 p41 p42 p43 p44 : Value) (Q : Exit → Act → World → Prop)
    (hB : w.cell? ⟨Bx, 2, none⟩ = some (.slice (some ⟨sb, so, none⟩) sn sc)) (hk : k < sn) (hsn : sn ≤ 9223372036854775807)
    (x0 : w.cell? ⟨sb, so + k * 4, none⟩ = some (.string nm)) (x1 : w.cell? ⟨sb, so + k * 4 + 1, none⟩ = some (.slice pa pn pc)) (x2 : w.cell? ⟨sb, so + k * 4 + 2, none⟩ = some (.int .i64 kd)) (x3 : w.cell? ⟨sb, so + k * 4 + 3, none⟩ = some (.int .i64 rr))
    (y0 : w.cell? ⟨fb, 0, none⟩ = some (.int .i64 regs)) (y1 : w.cell? ⟨fb, 1, none⟩ = some (.slice oa on oc))
    (hend : ∀ u23' u24', wpAnyIn F n Tryz.prog .any pop3 Q 2 #[true, true, true, true, true, true, true, true, false, false] { tmps := #[.func (.yield l) #[] #[], .pointer (some ⟨Bx, 0, none⟩), p2, .int .i64 (k : Int), .pointer (some ⟨fb, 0, none⟩), p5, p6, p7, p8, p9, p10, p11, p12, p13, p14, .func (.yield l) #[] #[], .pointer (some ⟨Bx, 0, none⟩), .pointer (some ⟨Bx, 2, none⟩), .slice (some ⟨sb, so, none⟩) sn sc, .int .i64 (k : Int), .pointer (some ⟨sb, so + k * 4, none⟩), .agg #[.string nm, .slice pa pn pc, .int .i64 kd, .int .i64 rr], .agg #[.int .i64 regs, .slice oa on oc], u23', u24', p25, p26, p27, p28, p29, p30, p31, p32, p33, p34, p35, p36, p37, p38, p39, p40, p41, p42, p43, p44], defers := [] } w) :
    ∀ (fuel : Nat) (q0 q1 q2 q3 q4 q5 q6 q7 : Bool) (u15 u16 u17 u18 u19 u20 u21 u22 u23 u24 : Value) (e0 : q0 = true → u15 = .func (.yield l) #[] #[]) (e1 : q1 = true → u16 = .pointer (some ⟨Bx, 0, none⟩)) (e2 : q2 = true → u17 = .pointer (some ⟨Bx, 2, none⟩)) (e3 : q3 = true → u18 = .slice (some ⟨sb, so, none⟩) sn sc) (e4 : q4 = true → u19 = .int .i64 (k : Int)) (e5 : q5 = true → u20 = .pointer (some ⟨sb, so + k * 4, none⟩)) (e6 : q6 = true → u21 = .agg #[.string nm, .slice pa pn pc, .int .i64 kd, .int .i64 rr]) (e7 : q7 = true → u22 = .agg #[.int .i64 regs, .slice oa on oc]) (c2 : q2 = true → q1 = true) (c3 : q3 = true → q2 = true) (c5 : q5 = true → q3 = true ∧ q4 = true) (c6 : q6 = true → q5 = true), (!q0).toNat + (!q1).toNat + (!q2).toNat + (!q3).toNat + (!q4).toNat + (!q5).toNat + (!q6).toNat + (!q7).toNat + 2 = fuel → wpAnyIn F n Tryz.prog .any pop3 Q fuel #[q0, q1, q2, q3, q4, q5, q6, q7, false, false] { tmps := #[.func (.yield l) #[] #[], .pointer (some ⟨Bx, 0, none⟩), p2, .int .i64 (k : Int), .pointer (some ⟨fb, 0, none⟩), p5, p6, p7, p8, p9, p10, p11, p12, p13, p14, u15, u16, u17, u18, u19, u20, u21, u22, u23, u24, p25, p26, p27, p28, p29, p30, p31, p32, p33, p34, p35, p36, p37, p38, p39, p40, p41, p42, p43, p44], defers := [] } w := by
  have hkI : (k : Int) < (sn : Int) := by omega
  have hk0 : (0 : Int) ≤ (k : Int) := by omega
  intro fuel
  induction fuel with
  | zero => intro q0 q1 q2 q3 q4 q5 q6 q7 u15 u16 u17 u18 u19 u20 u21 u22 u23 u24 e0 e1 e2 e3 e4 e5 e6 e7 c2 c3 c5 c6 hc; omega
  | succ fuel ih =>
  intro q0 q1 q2 q3 q4 q5 q6 q7 u15 u16 u17 u18 u19 u20 u21 u22 u23 u24 e0 e1 e2 e3 e4 e5 e6 e7 c2 c3 c5 c6 hc
  refine ⟨fun h => absurd h (pop3_ready _ _ _ _ _ _ _ _), fun j hj => ?_⟩
  match j, hj with
  | 0, hj =>
    obtain ⟨hj0, o, ho, hd⟩ := mem_ready.1 hj
    have hq : q0 = false := by simpa using hj0
    refine wpOpIn_step rfl (fun K hK => ?_)
    clear hd ho hj0 hj
    go_simp
    refine hK _ _ ?_
    exact ih true q1 q2 q3 q4 q5 q6 q7 _ _ _ _ _ _ _ _ _ _ (fun _ => rfl) (by first | exact e1 | exact fun _ => rfl) (by first | exact e2 | exact fun _ => rfl) (by first | exact e3 | exact fun _ => rfl) (by first | exact e4 | exact fun _ => rfl) (by first | exact e5 | exact fun _ => rfl) (by first | exact e6 | exact fun _ => rfl) (by first | exact e7 | exact fun _ => rfl) c2 c3 c5 c6 (by rw [hq] at hc; simp at hc ⊢; omega)
  | 1, hj =>
    obtain ⟨hj0, o, ho, hd⟩ := mem_ready.1 hj
    have hq : q1 = false := by simpa using hj0
    refine wpOpIn_step rfl (fun K hK => ?_)
    clear hd ho hj0 hj
    go_simp
    refine hK _ _ ?_
    exact ih q0 true q2 q3 q4 q5 q6 q7 _ _ _ _ _ _ _ _ _ _ (by first | exact e0 | exact fun _ => rfl) (fun _ => rfl) (by first | exact e2 | exact fun _ => rfl) (by first | exact e3 | exact fun _ => rfl) (by first | exact e4 | exact fun _ => rfl) (by first | exact e5 | exact fun _ => rfl) (by first | exact e6 | exact fun _ => rfl) (by first | exact e7 | exact fun _ => rfl) (fun _ => rfl) c3 c5 c6 (by rw [hq] at hc; simp at hc ⊢; omega)
  | 2, hj =>
    obtain ⟨hj0, o, ho, hd⟩ := mem_ready.1 hj
    have hq : q2 = false := by simpa using hj0
    obtain rfl : _ = o := Option.some.inj ho
    have z1 : q1 = true := by simpa using hd { on := 1, ground := Ground.data } (by simp) rfl
    have f1 := e1 z1
    subst f1
    refine wpOpIn_step rfl (fun K hK => ?_)
    clear hd ho hj0 hj
    go_simp
    refine hK _ _ ?_
    exact ih q0 q1 true q3 q4 q5 q6 q7 _ _ _ _ _ _ _ _ _ _ (by first | exact e0 | exact fun _ => rfl) (by first | exact e1 | exact fun _ => rfl) (fun _ => rfl) (by first | exact e3 | exact fun _ => rfl) (by first | exact e4 | exact fun _ => rfl) (by first | exact e5 | exact fun _ => rfl) (by first | exact e6 | exact fun _ => rfl) (by first | exact e7 | exact fun _ => rfl) (fun _ => z1) (fun _ => rfl) c5 c6 (by rw [hq] at hc; simp at hc ⊢; omega)
  | 3, hj =>
    obtain ⟨hj0, o, ho, hd⟩ := mem_ready.1 hj
    have hq : q3 = false := by simpa using hj0
    obtain rfl : _ = o := Option.some.inj ho
    have z2 : q2 = true := by simpa using hd { on := 2, ground := Ground.data } (by simp) rfl
    have f2 := e2 z2
    subst f2
    refine wpOpIn_step rfl (fun K hK => ?_)
    clear hd ho hj0 hj
    go_simp
    refine hK _ _ ?_
    exact ih q0 q1 q2 true q4 q5 q6 q7 _ _ _ _ _ _ _ _ _ _ (by first | exact e0 | exact fun _ => rfl) (by first | exact e1 | exact fun _ => rfl) (by first | exact e2 | exact fun _ => rfl) (fun _ => rfl) (by first | exact e4 | exact fun _ => rfl) (by first | exact e5 | exact fun _ => rfl) (by first | exact e6 | exact fun _ => rfl) (by first | exact e7 | exact fun _ => rfl) c2 (fun _ => z2) (fun h => ⟨rfl, (c5 h).2⟩) c6 (by rw [hq] at hc; simp at hc ⊢; omega)
  | 4, hj =>
    obtain ⟨hj0, o, ho, hd⟩ := mem_ready.1 hj
    have hq : q4 = false := by simpa using hj0
    refine wpOpIn_step rfl (fun K hK => ?_)
    clear hd ho hj0 hj
    go_simp
    refine hK _ _ ?_
    exact ih q0 q1 q2 q3 true q5 q6 q7 _ _ _ _ _ _ _ _ _ _ (by first | exact e0 | exact fun _ => rfl) (by first | exact e1 | exact fun _ => rfl) (by first | exact e2 | exact fun _ => rfl) (by first | exact e3 | exact fun _ => rfl) (fun _ => rfl) (by first | exact e5 | exact fun _ => rfl) (by first | exact e6 | exact fun _ => rfl) (by first | exact e7 | exact fun _ => rfl) c2 c3 (fun h => ⟨(c5 h).1, rfl⟩) c6 (by rw [hq] at hc; simp at hc ⊢; omega)
  | 5, hj =>
    obtain ⟨hj0, o, ho, hd⟩ := mem_ready.1 hj
    have hq : q5 = false := by simpa using hj0
    obtain rfl : _ = o := Option.some.inj ho
    have z3 : q3 = true := by simpa using hd { on := 3, ground := Ground.data } (by simp) rfl
    have f3 := e3 z3
    have z4 : q4 = true := by simpa using hd { on := 4, ground := Ground.data } (by simp) rfl
    have f4 := e4 z4
    subst f3 f4
    refine wpOpIn_step rfl (fun K hK => ?_)
    clear hd ho hj0 hj
    go_simp
    refine hK _ _ ?_
    exact ih q0 q1 q2 q3 q4 true q6 q7 _ _ _ _ _ _ _ _ _ _ (by first | exact e0 | exact fun _ => rfl) (by first | exact e1 | exact fun _ => rfl) (by first | exact e2 | exact fun _ => rfl) (by first | exact e3 | exact fun _ => rfl) (by first | exact e4 | exact fun _ => rfl) (fun _ => rfl) (by first | exact e6 | exact fun _ => rfl) (by first | exact e7 | exact fun _ => rfl) c2 c3 (fun _ => ⟨z3, z4⟩) (fun _ => rfl) (by rw [hq] at hc; simp at hc ⊢; omega)
  | 6, hj =>
    obtain ⟨hj0, o, ho, hd⟩ := mem_ready.1 hj
    have hq : q6 = false := by simpa using hj0
    obtain rfl : _ = o := Option.some.inj ho
    have z5 : q5 = true := by simpa using hd { on := 5, ground := Ground.data } (by simp) rfl
    have f5 := e5 z5
    subst f5
    refine wpOpIn_step rfl (fun K hK => ?_)
    clear hd ho hj0 hj
    go_simp
    refine hK _ _ ?_
    exact ih q0 q1 q2 q3 q4 q5 true q7 _ _ _ _ _ _ _ _ _ _ (by first | exact e0 | exact fun _ => rfl) (by first | exact e1 | exact fun _ => rfl) (by first | exact e2 | exact fun _ => rfl) (by first | exact e3 | exact fun _ => rfl) (by first | exact e4 | exact fun _ => rfl) (by first | exact e5 | exact fun _ => rfl) (fun _ => rfl) (by first | exact e7 | exact fun _ => rfl) c2 c3 c5 (fun _ => z5) (by rw [hq] at hc; simp at hc ⊢; omega)
  | 7, hj =>
    obtain ⟨hj0, o, ho, hd⟩ := mem_ready.1 hj
    have hq : q7 = false := by simpa using hj0
    refine wpOpIn_step rfl (fun K hK => ?_)
    clear hd ho hj0 hj
    go_simp
    refine hK _ _ ?_
    exact ih q0 q1 q2 q3 q4 q5 q6 true _ _ _ _ _ _ _ _ _ _ (by first | exact e0 | exact fun _ => rfl) (by first | exact e1 | exact fun _ => rfl) (by first | exact e2 | exact fun _ => rfl) (by first | exact e3 | exact fun _ => rfl) (by first | exact e4 | exact fun _ => rfl) (by first | exact e5 | exact fun _ => rfl) (by first | exact e6 | exact fun _ => rfl) (fun _ => rfl) c2 c3 c5 c6 (by rw [hq] at hc; simp at hc ⊢; omega)
  | 8, hj =>
    obtain ⟨hj0, o, ho, hd⟩ := mem_ready.1 hj
    obtain rfl : _ = o := Option.some.inj ho
    have z0 : q0 = true := by simpa using hd { on := 0, ground := Ground.data } (by simp) rfl
    have z6 : q6 = true := by simpa using hd { on := 6, ground := Ground.data } (by simp) rfl
    have z7 : q7 = true := by simpa using hd { on := 7, ground := Ground.data } (by simp) rfl
    have z5 := c6 z6
    obtain ⟨z3, z4⟩ := c5 z5
    have z2 := c3 z3
    have z1 := c2 z2
    have f0 := e0 z0
    have f1 := e1 z1
    have f2 := e2 z2
    have f3 := e3 z3
    have f4 := e4 z4
    have f5 := e5 z5
    have f6 := e6 z6
    have f7 := e7 z7
    subst f0 f1 f2 f3 f4 f5 f6 f7
    subst z0 z1 z2 z3 z4 z5 z6 z7
    obtain rfl : fuel = 1 := by simp at hc; omega
    exact (hend u23 u24).2 8 hj
  | 9, hj =>
    obtain ⟨hj0, o, ho, hd⟩ := mem_ready.1 hj
    obtain rfl : _ = o := Option.some.inj ho
    have := hd { on := 8, ground := Ground.data } (by simp) rfl
    simp at this
  | j + 10, hj =>
    obtain ⟨hj0, o, ho, hd⟩ := mem_ready.1 hj
    simp [pop3] at ho
abbrev pop8 : Array Oper := #[{ dst := some 34, op := Op.move (Operand.tmp 0), type := 119, pos := "code.go:43", after := #[], guard := none }, { dst := some 35, op := Op.fieldAddr 31 (Operand.tmp 1) 0, type := 0, pos := "code.go:43", after := #[], guard := none }, { dst := some 36, op := Op.fieldAddr 26 (Operand.tmp 35) 3, type := 0, pos := "code.go:43", after := #[{ on := 1, ground := Ground.data }], guard := none }, { dst := some 37, op := Op.load 24 (Operand.tmp 36), type := 24, pos := "code.go:43", after := #[{ on := 2, ground := Ground.data }], guard := none }, { dst := some 38, op := Op.move (Operand.tmp 5), type := 3, pos := "code.go:43", after := #[], guard := none }, { dst := some 39, op := Op.indexAddr 24 (Operand.tmp 37) (Operand.tmp 38), type := 0, pos := "code.go:43", after := #[{ on := 3, ground := Ground.data }, { on := 4, ground := Ground.data }], guard := none }, { dst := some 40, op := Op.load 49 (Operand.tmp 39), type := 49, pos := "code.go:43", after := #[{ on := 5, ground := Ground.data }], guard := none }, { dst := some 41, op := Op.load 57 (Operand.tmp 6), type := 57, pos := "code.go:43", after := #[], guard := none }, { dst := some 42, op := Op.call { callee := Callee.value (Operand.tmp 34), args := #[Operand.tmp 40, Operand.tmp 41], argTypes := #[49, 57] }, type := 4, pos := "code.go:43", after := #[{ on := 0, ground := Ground.data }, { on := 6, ground := Ground.data }, { on := 7, ground := Ground.data }], guard := none }, { dst := some 43, op := Op.unOp UnOp.not 4 (Operand.tmp 42), type := 4, pos := "code.go:43", after := #[{ on := 8, ground := Ground.data }], guard := none }]
theorem pop8_ready : ∀ b0 b1 b2 b3 b4 b5 b6 b7 : Bool, Region.ready .any pop8 #[b0, b1, b2, b3, b4, b5, b6, b7, false, false] ≠ [] := by decide +kernel
set_option maxRecDepth 100000 in
set_option maxHeartbeats 2000000 in
theorem pop8_reads (F : Fence) (n : Nat) (hro : F.round = none) (w : World) (l Bx fb k sb so sn sc : Nat) (nm : ByteArray) (pa : Option Addr) (pn pc : Nat) (kd rr regs : Int) (oa : Option Addr) (on oc : Nat) (p2 p3 p4 p7 p8 p9 p10 p11 p12 p13 p14 p15 p16 p17 p18 p19 p20 p21 p22 p23 p24 p25 p26 p27 p28 p29 p30 p31 p32 p33 p44 : Value) (Q : Exit → Act → World → Prop)
    (hB : w.cell? ⟨Bx, 3, none⟩ = some (.slice (some ⟨sb, so, none⟩) sn sc)) (hk : k < sn) (hsn : sn ≤ 9223372036854775807)
    (x0 : w.cell? ⟨sb, so + k * 4, none⟩ = some (.string nm)) (x1 : w.cell? ⟨sb, so + k * 4 + 1, none⟩ = some (.slice pa pn pc)) (x2 : w.cell? ⟨sb, so + k * 4 + 2, none⟩ = some (.int .i64 kd)) (x3 : w.cell? ⟨sb, so + k * 4 + 3, none⟩ = some (.int .i64 rr))
    (y0 : w.cell? ⟨fb, 0, none⟩ = some (.int .i64 regs)) (y1 : w.cell? ⟨fb, 1, none⟩ = some (.slice oa on oc))
    (hend : ∀ u42' u43', wpAnyIn F n Tryz.prog .any pop8 Q 2 #[true, true, true, true, true, true, true, true, false, false] { tmps := #[.func (.yield l) #[] #[], .pointer (some ⟨Bx, 0, none⟩), p2, p3, p4, .int .i64 (k : Int), .pointer (some ⟨fb, 0, none⟩), p7, p8, p9, p10, p11, p12, p13, p14, p15, p16, p17, p18, p19, p20, p21, p22, p23, p24, p25, p26, p27, p28, p29, p30, p31, p32, p33, .func (.yield l) #[] #[], .pointer (some ⟨Bx, 0, none⟩), .pointer (some ⟨Bx, 3, none⟩), .slice (some ⟨sb, so, none⟩) sn sc, .int .i64 (k : Int), .pointer (some ⟨sb, so + k * 4, none⟩), .agg #[.string nm, .slice pa pn pc, .int .i64 kd, .int .i64 rr], .agg #[.int .i64 regs, .slice oa on oc], u42', u43', p44], defers := [] } w) :
    ∀ (fuel : Nat) (q0 q1 q2 q3 q4 q5 q6 q7 : Bool) (u34 u35 u36 u37 u38 u39 u40 u41 u42 u43 : Value) (e0 : q0 = true → u34 = .func (.yield l) #[] #[]) (e1 : q1 = true → u35 = .pointer (some ⟨Bx, 0, none⟩)) (e2 : q2 = true → u36 = .pointer (some ⟨Bx, 3, none⟩)) (e3 : q3 = true → u37 = .slice (some ⟨sb, so, none⟩) sn sc) (e4 : q4 = true → u38 = .int .i64 (k : Int)) (e5 : q5 = true → u39 = .pointer (some ⟨sb, so + k * 4, none⟩)) (e6 : q6 = true → u40 = .agg #[.string nm, .slice pa pn pc, .int .i64 kd, .int .i64 rr]) (e7 : q7 = true → u41 = .agg #[.int .i64 regs, .slice oa on oc]) (c2 : q2 = true → q1 = true) (c3 : q3 = true → q2 = true) (c5 : q5 = true → q3 = true ∧ q4 = true) (c6 : q6 = true → q5 = true), (!q0).toNat + (!q1).toNat + (!q2).toNat + (!q3).toNat + (!q4).toNat + (!q5).toNat + (!q6).toNat + (!q7).toNat + 2 = fuel → wpAnyIn F n Tryz.prog .any pop8 Q fuel #[q0, q1, q2, q3, q4, q5, q6, q7, false, false] { tmps := #[.func (.yield l) #[] #[], .pointer (some ⟨Bx, 0, none⟩), p2, p3, p4, .int .i64 (k : Int), .pointer (some ⟨fb, 0, none⟩), p7, p8, p9, p10, p11, p12, p13, p14, p15, p16, p17, p18, p19, p20, p21, p22, p23, p24, p25, p26, p27, p28, p29, p30, p31, p32, p33, u34, u35, u36, u37, u38, u39, u40, u41, u42, u43, p44], defers := [] } w := by
  have hkI : (k : Int) < (sn : Int) := by omega
  have hk0 : (0 : Int) ≤ (k : Int) := by omega
  intro fuel
  induction fuel with
  | zero => intro q0 q1 q2 q3 q4 q5 q6 q7 u34 u35 u36 u37 u38 u39 u40 u41 u42 u43 e0 e1 e2 e3 e4 e5 e6 e7 c2 c3 c5 c6 hc; omega
  | succ fuel ih =>
  intro q0 q1 q2 q3 q4 q5 q6 q7 u34 u35 u36 u37 u38 u39 u40 u41 u42 u43 e0 e1 e2 e3 e4 e5 e6 e7 c2 c3 c5 c6 hc
  refine ⟨fun h => absurd h (pop8_ready _ _ _ _ _ _ _ _), fun j hj => ?_⟩
  match j, hj with
  | 0, hj =>
    obtain ⟨hj0, o, ho, hd⟩ := mem_ready.1 hj
    have hq : q0 = false := by simpa using hj0
    refine wpOpIn_step rfl (fun K hK => ?_)
    clear hd ho hj0 hj
    go_simp
    refine hK _ _ ?_
    exact ih true q1 q2 q3 q4 q5 q6 q7 _ _ _ _ _ _ _ _ _ _ (fun _ => rfl) (by first | exact e1 | exact fun _ => rfl) (by first | exact e2 | exact fun _ => rfl) (by first | exact e3 | exact fun _ => rfl) (by first | exact e4 | exact fun _ => rfl) (by first | exact e5 | exact fun _ => rfl) (by first | exact e6 | exact fun _ => rfl) (by first | exact e7 | exact fun _ => rfl) c2 c3 c5 c6 (by rw [hq] at hc; simp at hc ⊢; omega)
  | 1, hj =>
    obtain ⟨hj0, o, ho, hd⟩ := mem_ready.1 hj
    have hq : q1 = false := by simpa using hj0
    refine wpOpIn_step rfl (fun K hK => ?_)
    clear hd ho hj0 hj
    go_simp
    refine hK _ _ ?_
    exact ih q0 true q2 q3 q4 q5 q6 q7 _ _ _ _ _ _ _ _ _ _ (by first | exact e0 | exact fun _ => rfl) (fun _ => rfl) (by first | exact e2 | exact fun _ => rfl) (by first | exact e3 | exact fun _ => rfl) (by first | exact e4 | exact fun _ => rfl) (by first | exact e5 | exact fun _ => rfl) (by first | exact e6 | exact fun _ => rfl) (by first | exact e7 | exact fun _ => rfl) (fun _ => rfl) c3 c5 c6 (by rw [hq] at hc; simp at hc ⊢; omega)
  | 2, hj =>
    obtain ⟨hj0, o, ho, hd⟩ := mem_ready.1 hj
    have hq : q2 = false := by simpa using hj0
    obtain rfl : _ = o := Option.some.inj ho
    have z1 : q1 = true := by simpa using hd { on := 1, ground := Ground.data } (by simp) rfl
    have f1 := e1 z1
    subst f1
    refine wpOpIn_step rfl (fun K hK => ?_)
    clear hd ho hj0 hj
    go_simp
    refine hK _ _ ?_
    exact ih q0 q1 true q3 q4 q5 q6 q7 _ _ _ _ _ _ _ _ _ _ (by first | exact e0 | exact fun _ => rfl) (by first | exact e1 | exact fun _ => rfl) (fun _ => rfl) (by first | exact e3 | exact fun _ => rfl) (by first | exact e4 | exact fun _ => rfl) (by first | exact e5 | exact fun _ => rfl) (by first | exact e6 | exact fun _ => rfl) (by first | exact e7 | exact fun _ => rfl) (fun _ => z1) (fun _ => rfl) c5 c6 (by rw [hq] at hc; simp at hc ⊢; omega)
  | 3, hj =>
    obtain ⟨hj0, o, ho, hd⟩ := mem_ready.1 hj
    have hq : q3 = false := by simpa using hj0
    obtain rfl : _ = o := Option.some.inj ho
    have z2 : q2 = true := by simpa using hd { on := 2, ground := Ground.data } (by simp) rfl
    have f2 := e2 z2
    subst f2
    refine wpOpIn_step rfl (fun K hK => ?_)
    clear hd ho hj0 hj
    go_simp
    refine hK _ _ ?_
    exact ih q0 q1 q2 true q4 q5 q6 q7 _ _ _ _ _ _ _ _ _ _ (by first | exact e0 | exact fun _ => rfl) (by first | exact e1 | exact fun _ => rfl) (by first | exact e2 | exact fun _ => rfl) (fun _ => rfl) (by first | exact e4 | exact fun _ => rfl) (by first | exact e5 | exact fun _ => rfl) (by first | exact e6 | exact fun _ => rfl) (by first | exact e7 | exact fun _ => rfl) c2 (fun _ => z2) (fun h => ⟨rfl, (c5 h).2⟩) c6 (by rw [hq] at hc; simp at hc ⊢; omega)
  | 4, hj =>
    obtain ⟨hj0, o, ho, hd⟩ := mem_ready.1 hj
    have hq : q4 = false := by simpa using hj0
    refine wpOpIn_step rfl (fun K hK => ?_)
    clear hd ho hj0 hj
    go_simp
    refine hK _ _ ?_
    exact ih q0 q1 q2 q3 true q5 q6 q7 _ _ _ _ _ _ _ _ _ _ (by first | exact e0 | exact fun _ => rfl) (by first | exact e1 | exact fun _ => rfl) (by first | exact e2 | exact fun _ => rfl) (by first | exact e3 | exact fun _ => rfl) (fun _ => rfl) (by first | exact e5 | exact fun _ => rfl) (by first | exact e6 | exact fun _ => rfl) (by first | exact e7 | exact fun _ => rfl) c2 c3 (fun h => ⟨(c5 h).1, rfl⟩) c6 (by rw [hq] at hc; simp at hc ⊢; omega)
  | 5, hj =>
    obtain ⟨hj0, o, ho, hd⟩ := mem_ready.1 hj
    have hq : q5 = false := by simpa using hj0
    obtain rfl : _ = o := Option.some.inj ho
    have z3 : q3 = true := by simpa using hd { on := 3, ground := Ground.data } (by simp) rfl
    have f3 := e3 z3
    have z4 : q4 = true := by simpa using hd { on := 4, ground := Ground.data } (by simp) rfl
    have f4 := e4 z4
    subst f3 f4
    refine wpOpIn_step rfl (fun K hK => ?_)
    clear hd ho hj0 hj
    go_simp
    refine hK _ _ ?_
    exact ih q0 q1 q2 q3 q4 true q6 q7 _ _ _ _ _ _ _ _ _ _ (by first | exact e0 | exact fun _ => rfl) (by first | exact e1 | exact fun _ => rfl) (by first | exact e2 | exact fun _ => rfl) (by first | exact e3 | exact fun _ => rfl) (by first | exact e4 | exact fun _ => rfl) (fun _ => rfl) (by first | exact e6 | exact fun _ => rfl) (by first | exact e7 | exact fun _ => rfl) c2 c3 (fun _ => ⟨z3, z4⟩) (fun _ => rfl) (by rw [hq] at hc; simp at hc ⊢; omega)
  | 6, hj =>
    obtain ⟨hj0, o, ho, hd⟩ := mem_ready.1 hj
    have hq : q6 = false := by simpa using hj0
    obtain rfl : _ = o := Option.some.inj ho
    have z5 : q5 = true := by simpa using hd { on := 5, ground := Ground.data } (by simp) rfl
    have f5 := e5 z5
    subst f5
    refine wpOpIn_step rfl (fun K hK => ?_)
    clear hd ho hj0 hj
    go_simp
    refine hK _ _ ?_
    exact ih q0 q1 q2 q3 q4 q5 true q7 _ _ _ _ _ _ _ _ _ _ (by first | exact e0 | exact fun _ => rfl) (by first | exact e1 | exact fun _ => rfl) (by first | exact e2 | exact fun _ => rfl) (by first | exact e3 | exact fun _ => rfl) (by first | exact e4 | exact fun _ => rfl) (by first | exact e5 | exact fun _ => rfl) (fun _ => rfl) (by first | exact e7 | exact fun _ => rfl) c2 c3 c5 (fun _ => z5) (by rw [hq] at hc; simp at hc ⊢; omega)
  | 7, hj =>
    obtain ⟨hj0, o, ho, hd⟩ := mem_ready.1 hj
    have hq : q7 = false := by simpa using hj0
    refine wpOpIn_step rfl (fun K hK => ?_)
    clear hd ho hj0 hj
    go_simp
    refine hK _ _ ?_
    exact ih q0 q1 q2 q3 q4 q5 q6 true _ _ _ _ _ _ _ _ _ _ (by first | exact e0 | exact fun _ => rfl) (by first | exact e1 | exact fun _ => rfl) (by first | exact e2 | exact fun _ => rfl) (by first | exact e3 | exact fun _ => rfl) (by first | exact e4 | exact fun _ => rfl) (by first | exact e5 | exact fun _ => rfl) (by first | exact e6 | exact fun _ => rfl) (fun _ => rfl) c2 c3 c5 c6 (by rw [hq] at hc; simp at hc ⊢; omega)
  | 8, hj =>
    obtain ⟨hj0, o, ho, hd⟩ := mem_ready.1 hj
    obtain rfl : _ = o := Option.some.inj ho
    have z0 : q0 = true := by simpa using hd { on := 0, ground := Ground.data } (by simp) rfl
    have z6 : q6 = true := by simpa using hd { on := 6, ground := Ground.data } (by simp) rfl
    have z7 : q7 = true := by simpa using hd { on := 7, ground := Ground.data } (by simp) rfl
    have z5 := c6 z6
    obtain ⟨z3, z4⟩ := c5 z5
    have z2 := c3 z3
    have z1 := c2 z2
    have f0 := e0 z0
    have f1 := e1 z1
    have f2 := e2 z2
    have f3 := e3 z3
    have f4 := e4 z4
    have f5 := e5 z5
    have f6 := e6 z6
    have f7 := e7 z7
    subst f0 f1 f2 f3 f4 f5 f6 f7
    subst z0 z1 z2 z3 z4 z5 z6 z7
    obtain rfl : fuel = 1 := by simp at hc; omega
    exact (hend u42 u43).2 8 hj
  | 9, hj =>
    obtain ⟨hj0, o, ho, hd⟩ := mem_ready.1 hj
    obtain rfl : _ = o := Option.some.inj ho
    have := hd { on := 8, ground := Ground.data } (by simp) rfl
    simp at this
  | j + 10, hj =>
    obtain ⟨hj0, o, ho, hd⟩ := mem_ready.1 hj
    simp [pop8] at ho
end Go.Proofs.YthnolocldeokeaaGreat

