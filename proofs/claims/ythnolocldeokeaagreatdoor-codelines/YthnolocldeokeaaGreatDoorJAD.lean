/- A range over a function whose round begins by assigning: one goal for a round. -/
import Derived.Test.YthnolocldeokeaaGreatDoorJAC
namespace Go.Proofs.YthnolocldeokeaaGreatDoor
open Go.RowKit Go.Deep Go.Shelf
set_option linter.unusedVariables false
set_option linter.unusedSimpArgs false
theorem range_go {α : Type} {F : Fence} {n : Nat} {P : Program} {g : Operand} {ps : Array Tmp} {assign body : Code} {Q : Exit → Act → World → Prop} {a : Act} {w : World}
    (hro : F.round = none) (h1 : 1 ≤ n) {gf : Nat} {lb : Array Value} (hg : a.eval g = .func (.func gf) #[] lb) (hFg : F.fn gf) (eg : ∀ args w, (callFunc gf args).run P w = .ok (.enter gf args) w)
    {encs : α → Array Value} {Kp : World → World → Prop} {S Sp : List α → Prop} {N : Nat} (hseq : SeqStopsK F (n - 1) P gf lb encs Kp S Sp N w)
    (hKr : ∀ A : World, Kp A A) (hKt : ∀ {A B C : World}, Kp A B → Kp B C → Kp A C) (hKb : ∀ (W : World) (l : Nat) (o o' : Obj), w.heap.size ≤ l → W.heap[l]? = some o → o.isCells = false → o.isWalk = false → Kp W (W.putObj l o')) (hps : ∀ x, (encs x).size = ps.size)
    (I : List α → World → Prop) (Ix : Code → List α → World → Prop) (hI : OwnFrom w.heap.size I) (hIx : ∀ c, OwnFrom w.heap.size (Ix c)) (h0 : I [] w)
    (hround : ∀ (l : Nat) (x : α) (W : World) (K : Act → World → Prop), (∀ a', (∀ (l' : Nat) (pre : List α) (W' : World), w.heap.size ≤ l' → (∃ r, W'.heap[l']? = some (.loop r)) → I pre W' → pre.length < N → body.wpIn (F.inRound l') (n - 1 - 1) P (ownPostG w.heap.size Kp I Ix (pre ++ [x]) W') a' W') → K a' W) →
      assign.wpIn (F.inRound l) (n - 1 - 1) P (Exit.then K (fun _ _ _ => False)) { tmps := (ps.zip (encs x)).foldl (fun t (p, v) => t.setIfInBounds p v) a.tmps, defers := [] } W)
    (hdone : ∀ (D : Nat) (xs : List α) (W : World), w.heap.size ≤ D → S xs → I xs W → W.heap[D]? = some (.deferred (some [])) → Q .normal { a with defers := { target := .collected D, args := #[] } :: a.defers } W)
    (hstop : ∀ (D : Nat) (c : Code) (pre : List α) (W : World), w.heap.size ≤ D → Sp pre → Ix c pre W → W.heap[D]? = some (.deferred (some [])) → c.wpIn F n P Q { a with defers := { target := .collected D, args := #[] } :: a.defers } W) :
    (Code.rangeFunc g ps assign body).wpIn F n P Q a w := by
  refine wpIn_rangeFunc_ownH hro h1 hg hFg eg hseq hKt hKb (Below.refl _ _) hps I Ix hI hIx h0 (fun x a' _ => ∀ (l' : Nat) (pre : List α) (W' : World), w.heap.size ≤ l' → (∃ r, W'.heap[l']? = some (.loop r)) → I pre W' → pre.length < N → body.wpIn (F.inRound l') (n - 1 - 1) P (ownPostG w.heap.size Kp I Ix (pre ++ [x]) W') a' W') (fun x a' _ A B row hs _ _ => hs) ?_ ?_ hdone hstop
  · intro l pre x W K hi hK
    exact hround l x W K (fun a' h => hK a' W (KeepsFrom.refl _ _) (hKr W) hi h)
  · intro l pre x a' W hl hr hi hA hlt
    exact hA l pre W hl hr hi hlt
theorem zip2 (p1 p2 : Tmp) (v1 v2 : Value) (t : Array Value) : ((#[p1, p2] : Array Tmp).zip #[v1, v2]).foldl (fun t (p, v) => t.setIfInBounds p v) t = (t.setIfInBounds p1 v1).setIfInBounds p2 v2 := by simp
theorem range_go2 {α : Type} {F : Fence} {n : Nat} {P : Program} {g : Operand} {p1 p2 : Tmp} {assign body : Code} {Q : Exit → Act → World → Prop} {a : Act} {w : World}
    (hro : F.round = none) (h1 : 1 ≤ n) {gf : Nat} {lb : Array Value} (hg : a.eval g = .func (.func gf) #[] lb) (hFg : F.fn gf) (eg : ∀ args w, (callFunc gf args).run P w = .ok (.enter gf args) w)
    {enc1 enc2 : α → Value} {Kp : World → World → Prop} {S Sp : List α → Prop} {N : Nat} (hseq : SeqStopsK F (n - 1) P gf lb (fun x => #[enc1 x, enc2 x]) Kp S Sp N w)
    (hKr : ∀ A : World, Kp A A) (hKt : ∀ {A B C : World}, Kp A B → Kp B C → Kp A C) (hKb : ∀ (W : World) (l : Nat) (o o' : Obj), w.heap.size ≤ l → W.heap[l]? = some o → o.isCells = false → o.isWalk = false → Kp W (W.putObj l o'))
    (I : List α → World → Prop) (Ix : Code → List α → World → Prop) (hI : OwnFrom w.heap.size I) (hIx : ∀ c, OwnFrom w.heap.size (Ix c)) (h0 : I [] w)
    (hround : ∀ (l : Nat) (x : α) (W : World) (K : Act → World → Prop), (∀ a', (∀ (l' : Nat) (pre : List α) (W' : World), w.heap.size ≤ l' → (∃ r, W'.heap[l']? = some (.loop r)) → I pre W' → pre.length < N → body.wpIn (F.inRound l') (n - 1 - 1) P (ownPostG w.heap.size Kp I Ix (pre ++ [x]) W') a' W') → K a' W) →
      assign.wpIn (F.inRound l) (n - 1 - 1) P (Exit.then K (fun _ _ _ => False)) { tmps := (a.tmps.setIfInBounds p1 (enc1 x)).setIfInBounds p2 (enc2 x), defers := [] } W)
    (hdone : ∀ (D : Nat) (xs : List α) (W : World), w.heap.size ≤ D → S xs → I xs W → W.heap[D]? = some (.deferred (some [])) → Q .normal { a with defers := { target := .collected D, args := #[] } :: a.defers } W)
    (hstop : ∀ (D : Nat) (c : Code) (pre : List α) (W : World), w.heap.size ≤ D → Sp pre → Ix c pre W → W.heap[D]? = some (.deferred (some [])) → c.wpIn F n P Q { a with defers := { target := .collected D, args := #[] } :: a.defers } W) :
    (Code.rangeFunc g #[p1, p2] assign body).wpIn F n P Q a w := by
  refine range_go hro h1 hg hFg eg hseq hKr hKt hKb (fun _ => rfl) I Ix hI hIx h0 (fun l x W K hK => ?_) hdone hstop
  rw [zip2]
  exact hround l x W K hK
theorem K2_r {X : Nat} (A : World) : K2 X A A := ⟨rfl, rfl⟩
/- Between two rounds nothing but what is new has turned since V. -/
def BI {α : Type} (V : World) (ok : α → Bool) (pre : List α) (W : World) : Prop := Below V.heap.size V W ∧ ∀ x ∈ pre, ok x = true
theorem BI_own {α : Type} (V : World) (ok : α → Bool) : OwnFrom V.heap.size (BI V ok) := fun s A A' row hs hg hr => ⟨ownFrom_below (β := Unit) (Nat.le_refl _) (Nat.le_refl _) () A A' row hs.1 hg hr, hs.2⟩
theorem BI.snoc {α : Type} {V : World} {ok : α → Bool} {pre : List α} {W W' : World} {x : α} (h : BI V ok pre W) (hx : ok x = true) (k : Below W.heap.size W W') : BI V ok (pre ++ [x]) W' := ⟨h.1.trans (k.mono h.1.size), fun y hy => by
  rcases List.mem_append.1 hy with hy | hy
  · exact h.2 y hy
  · simp at hy; subst hy; exact hx⟩
/- The loop was left by a return of false. -/
def BX {α : Type} (w V : World) (R : Nat) (ok : α → Bool) (c : Code) (pre : List α) (W : World) : Prop := c = .ret ∧ (∃ x ∈ pre, ok x = false) ∧ W.heap[R]? = some (.cells #[.bool false] 4 (0, 0)) ∧ Below w.heap.size w W
theorem BX_own {α : Type} (w V : World) (R : Nat) (ok : α → Bool) (hw : w.heap.size ≤ V.heap.size) (c : Code) : OwnFrom V.heap.size (BX w V R ok c) := fun s A A' row hs hg hr =>
  ⟨hs.1, hs.2.1, keep_cells hs.2.2.1 hg hr, ownFrom_below (β := Unit) (Nat.le_refl _) hw () A A' row hs.2.2.2 hg hr⟩
end Go.Proofs.YthnolocldeokeaaGreatDoor

namespace Go.Proofs.YthnolocldeokeaaGreatDoor
open Go.RowKit Go.Deep Go.Shelf
set_option linter.unusedVariables false
set_option linter.unusedSimpArgs false
theorem blw_nat {k : Int} {n : Nat} (h : blw k (n : Int) = true) : ∃ kk : Nat, k = (kk : Int) ∧ kk < n := by
  unfold blw at h
  simp at h
  exact ⟨k.toNat, by omega, by omega⟩
theorem GRd.sig {w : World} {a : Option Addr} {n : Nat} {gs : List (GH × Sg)} (d : GRd w a n gs) {kk : Nat} (hk : kk < n) : ∃ g : GH × Sg, gs[kk]? = some g ∧ SgRd w g.1 g.2 ∧ ∃ b off, a = some ⟨b, off, none⟩ ∧ w.cell? ⟨b, off + kk * 4 + 1, none⟩ = some (.slice g.1.pa g.1.pn g.1.pc) := by
  have hl : kk < gs.length := by rw [← d.n1]; exact hk
  have hg : gs[kk]? = some gs[kk] := List.getElem?_eq_getElem hl
  obtain ⟨b, off, e, _, hc⟩ := d.rd kk gs[kk].1.cs (by simp [hg])
  exact ⟨_, hg, d.el _ (List.getElem_mem hl), b, off, e, hc 1 (by omega)⟩
theorem parm_at {gs : List (GH × Sg)} {kk : Nat} {g : GH × Sg} (h : gs[kk]? = some g) (hb : blw (kk : Int) (gs.length : Int) = true) : parmB (gs.map (·.2)) (kk : Int) = ((g.2.params.length : Int), true) := by
  unfold parmB
  rw [List.length_map, hb, if_pos rfl, Int.toNat_natCast, List.getD_eq_getElem?_getD, List.getElem?_map, h]
  rfl
set_option maxRecDepth 100000 in
theorem params_any (w : World) (a : Option Addr) (n cap : Nat) (gs : List (GH × Sg)) (d : GRd w a n gs) (k : Int) : Calls Tryz.prog 50 #[.slice a n cap, .int .i64 k] w fun e w' => e = .returned (.tuple #[.int .i64 (parmB (gs.map (·.2)) k).1, .bool (parmB (gs.map (·.2)) k).2]) ∧ w' = w := by
  have hn := d.n2
  have K := hid (isBelow_any w k (n : Int))
  cases hb : blw k (n : Int) with
  | false =>
    rw [hb] at K
    have HP : Hid (parmB (gs.map (·.2)) k = (0, false)) := hid (by unfold parmB; rw [List.length_map, ← d.n1, hb]; rfl)
    clear hb d
    go_enter Tryz.func50, Tryz.ntmps50
    go_wp2_with (go_at_call 49; (refine (Hid.out K).mono ?_; rintro e w ⟨rfl, rfl⟩))
    go_ret2
    exact ⟨by rw [HP.out]; rfl, rfl⟩
  | true =>
    obtain ⟨kk, rfl, hk⟩ := blw_nat hb
    rw [hb] at K
    obtain ⟨g, hg, sg, b, off, rfl, c1⟩ := d.sig hk
    have HP := hid (parm_at hg (by rw [← d.n1]; exact hb))
    have hpn : Hid (g.1.pn = g.2.params.length) := hid sg.pn
    have hp2 := sg.p2
    have hkI : (kk : Int) < (n : Int) := by omega
    have hk0 : (0 : Int) ≤ (kk : Int) := by omega
    clear hb d hg sg
    obtain ⟨⟨nm, pa, pn, pc, kd, rr⟩, sgg⟩ := g
    simp only at c1 hpn hp2
    go_enter Tryz.func50, Tryz.ntmps50
    go_wp2_with (go_at_call 49; (refine (Hid.out K).mono ?_; rintro e w ⟨rfl, rfl⟩))
    go_ret2
    exact ⟨by rw [HP.out, hpn.out]; rfl, rfl⟩
theorem RRd.recd {w : World} {a : Option Addr} {n : Nat} {rs : List (RH × Rc)} (d : RRd w a n rs) {kk : Nat} (hk : kk < n) : ∃ g : RH × Rc, rs[kk]? = some g ∧ RcRd w g.1 g.2 ∧ ∃ b off, a = some ⟨b, off, none⟩ ∧ w.cell? ⟨b, off + kk * 3 + 1, none⟩ = some (.slice g.1.fa g.1.fn g.1.fc) := by
  have hl : kk < rs.length := by rw [← d.n1]; exact hk
  have hg : rs[kk]? = some rs[kk] := List.getElem?_eq_getElem hl
  obtain ⟨b, off, e, _, hc⟩ := d.rd kk rs[kk].1.cs (by simp [hg])
  exact ⟨_, hg, d.el _ (List.getElem_mem hl), b, off, e, hc 1 (by omega)⟩
set_option maxRecDepth 100000 in
set_option maxHeartbeats 1000000 in
theorem rowLen_any (w : World) (s : Shp) (h : PH) (p : Pg) (d : PRd w h p) (k : Int) : Calls Tryz.prog 16 #[.agg s.cs.toArray, h.v, .int .i64 k] w fun e w' => e = .returned (.tuple #[.int .i64 (rowLen s.k p k).1, .bool (rowLen s.k p k).2]) ∧ Below w.heap.size w w' := by
  obtain ⟨nm, sd, sa, sb, sk⟩ := s
  obtain ⟨ra, rn, rc, ma, mn, mc, fa, fn, fc, ea, en, ec⟩ := h
  have dm := d.m
  have df := d.f
  have de := d.e
  have dr := d.r
  simp only at dm df de dr
  simp only [PH.v, Shp.cs]
  obtain ⟨W0, hW0⟩ : ∃ W0, W0 = (w.alloc (.cells #[.string nm, .int .u8 sd, .int .u8 sa, .int .u8 sb, .int .u8 sk] 63)).alloc (.cells #[.slice ra rn rc, .slice ma mn mc, .slice fa fn fc, .slice ea en ec] 40) := ⟨_, rfl⟩
  have bw : Below w.heap.size w W0 := by rw [hW0]; exact ((Below.refl _ _).alloc (Nat.le_refl _) _).alloc (by simp) _
  have m0 : W0.heap[w.heap.size]? = some (.cells #[.string nm, .int .u8 sd, .int .u8 sa, .int .u8 sb, .int .u8 sk] 63 (0, 0)) := by rw [hW0]; exact (Below.heap_alloc _ _ _ (by simp)).trans (heap_alloc_new w _)
  have m1 : W0.heap[w.heap.size + 1]? = some (.cells #[.slice ra rn rc, .slice ma mn mc, .slice fa fn fc, .slice ea en ec] 40 (0, 0)) := by
    have := heap_alloc_new (w.alloc (.cells #[.string nm, .int .u8 sd, .int .u8 sa, .int .u8 sb, .int .u8 sk] 63)) (.cells #[.slice ra rn rc, .slice ma mn mc, .slice fa fn fc, .slice ea en ec] 40)
    rw [World.size_alloc] at this
    rw [hW0]; exact this
  have x0 := cellOf m0 4
  have y0 := cellOf m1 0
  have y1 := cellOf m1 1
  have y2 := cellOf m1 2
  have y3 := cellOf m1 3
  simp only [List.getElem?_toArray, List.getElem?_cons_zero, List.getElem?_cons_succ] at x0 y0 y1 y2 y3
  have dr0 := dr.below (Nat.le_refl _) bw
  have df0 := df.below (Nat.le_refl _) bw
  have de0 := de.below (Nat.le_refl _) bw
  have BW := hid bw
  have nr : rn ≤ 9223372036854775807 := dr.n2
  have nm' : mn ≤ 9223372036854775807 := dm.n2
  have er : Hid (rn = p.recs.length) := hid dr.n1
  have em : Hid (mn = p.maps.length) := hid dm.n1
  have ef : Hid (fn = p.funcs.length) := hid df.n1
  have ee : Hid (en = p.events.length) := hid de.n1
  clear d dm df de dr m0 m1 bw
  by_cases h9 : sk = 9
  · subst h9
    have K := hid (isBelow_any W0 k (rn : Int))
    cases hb : blw k (rn : Int) with
    | false =>
      rw [hb] at K
      have HP : Hid (rowLen 9 p k = (0, false)) := hid (by unfold rowLen; rw [if_pos rfl, ← er.out, hb]; rfl)
      clear hb dr0 df0 de0
      go_enter Tryz.func16, Tryz.ntmps16
      go_upto_region 1 with fail
      rw [← hW0]
      clear hW0
      go_wp2_with (go_at_call 49; (refine (Hid.out K).mono ?_; rintro e W0 ⟨rfl, rfl⟩))
      go_ret2
      exact ⟨by rw [HP.out]; rfl, BW.out⟩
    | true =>
      obtain ⟨kk, rfl, hk⟩ := blw_nat hb
      rw [hb] at K
      obtain ⟨g, hg, sg, b, off, rfl, c1⟩ := dr0.recd hk
      have HP : Hid (rowLen 9 p (kk : Int) = ((g.2.fields.length : Int), true)) := hid (by
        unfold rowLen
        rw [if_pos rfl, ← er.out, hb, if_pos rfl, Int.toNat_natCast, List.getD_eq_getElem?_getD, List.getElem?_map, hg]; rfl)
      have hfn : Hid (g.1.fn = g.2.fields.length) := hid sg.fn
      have hf2 := sg.f2
      have hkI : (kk : Int) < (rn : Int) := by omega
      have hk0 : (0 : Int) ≤ (kk : Int) := by omega
      clear hb dr0 df0 de0 hg sg
      obtain ⟨⟨gnm, gfa, gfn, gfc, gta, gtn, gtc⟩, gr⟩ := g
      simp only at c1 hfn hf2
      go_enter Tryz.func16, Tryz.ntmps16
      go_upto_region 1 with fail
      rw [← hW0]
      clear hW0
      go_wp2_with (go_at_call 49; (refine (Hid.out K).mono ?_; rintro e W0 ⟨rfl, rfl⟩))
      go_ret2
      exact ⟨by rw [HP.out, hfn.out]; rfl, BW.out⟩
  · by_cases h11 : sk = 11
    · subst h11
      have K := hid (isBelow_any W0 k (mn : Int))
      have HP : Hid (rowLen 11 p k = (0, blw k (mn : Int))) := hid (by unfold rowLen; rw [if_neg (by omega), if_pos rfl, ← em.out])
      clear dr0 df0 de0
      go_enter Tryz.func16, Tryz.ntmps16
      go_upto_region 1 with fail
      rw [← hW0]
      clear hW0
      go_wp2_with (go_at_call 49; (refine (Hid.out K).mono ?_; rintro e W0 ⟨rfl, rfl⟩))
      go_ret2
      exact ⟨by rw [HP.out]; rfl, BW.out⟩
    · by_cases h12 : sk = 12
      · subst h12
        have K := hid (params_any W0 fa fn fc p.funcs df0 k)
        have HP : Hid (rowLen 12 p k = parmB (p.funcs.map (·.2)) k) := hid (by unfold rowLen; rw [if_neg (by omega), if_neg (by omega), if_pos rfl])
        clear dr0 df0 de0
        generalize parmB (p.funcs.map (·.2)) k = pr at K HP
        obtain ⟨pr1, pr2⟩ := pr
        go_enter Tryz.func16, Tryz.ntmps16
        go_upto_region 1 with fail
        rw [← hW0]
        clear hW0
        go_wp2_with (go_at_call 50; (refine (Hid.out K).mono ?_; rintro e W0 ⟨rfl, rfl⟩))
        go_ret2
        exact ⟨by rw [HP.out]; rfl, BW.out⟩
      · by_cases h13 : sk = 13
        · subst h13
          have K := hid (params_any W0 ea en ec p.events de0 k)
          have HP : Hid (rowLen 13 p k = parmB (p.events.map (·.2)) k) := hid (by unfold rowLen; rw [if_neg (by omega), if_neg (by omega), if_neg (by omega), if_pos rfl])
          clear dr0 df0 de0
          generalize parmB (p.events.map (·.2)) k = pr at K HP
          obtain ⟨pr1, pr2⟩ := pr
          go_enter Tryz.func16, Tryz.ntmps16
          go_upto_region 1 with fail
          rw [← hW0]
          clear hW0
          go_wp2_with (go_at_call 50; (refine (Hid.out K).mono ?_; rintro e W0 ⟨rfl, rfl⟩))
          go_ret2
          exact ⟨by rw [HP.out]; rfl, BW.out⟩
        · have HP : Hid (rowLen sk p k = (0, true)) := hid (by unfold rowLen; rw [if_neg h9, if_neg h11, if_neg h12, if_neg h13])
          have b1 : (sk == 9) = false := by simp [h9]
          have b2 : (sk == 11) = false := by simp [h11]
          have b3 : (sk == 12) = false := by simp [h12]
          have b4 : (sk == 13) = false := by simp [h13]
          clear dr0 df0 de0
          go_enter Tryz.func16, Tryz.ntmps16
          go_upto_region 1 with fail
          rw [← hW0]
          clear hW0
          go_wp2
          go_ret2
          exact ⟨by rw [HP.out]; rfl, BW.out⟩
end Go.Proofs.YthnolocldeokeaaGreatDoor

namespace Go.Proofs.YthnolocldeokeaaGreatDoor
open Go.RowKit Go.Deep Go.Shelf
set_option linter.unusedVariables false
set_option linter.unusedSimpArgs false
theorem bel_dN {B : Nat} {a w : World} (h : Below B a w) (n : Nat) : Below B a (w.drewN n) := h.trans ⟨rfl, rfl, rfl, Nat.le_refl _, fun _ _ => rfl⟩
structure FH where
  regs : Int
  oa : Option Addr
  on : Nat
  oc : Nat
def FH.cs (h : FH) : List Value := [.int .i64 h.regs, .slice h.oa h.on h.oc]
def FH.v (h : FH) : Value := .agg #[.int .i64 h.regs, .slice h.oa h.on h.oc]
structure FnRd (w : World) (h : FH) (f : Fx) : Prop where
  rg : h.regs = f.regs
  on : h.on = f.ops.length
  o2 : h.on ≤ 9223372036854775807
  or : ORd w h.oa f.ops
theorem FnRd.below {w w' : World} {h : FH} {f : Fx} {B : Nat} (d : FnRd w h f) (hB : w.heap.size ≤ B) (k : Below B w w') : FnRd w' h f := ⟨d.rg, d.on, d.o2, d.or.below (k.mono hB)⟩
structure FRd (w : World) (a : Option Addr) (n : Nat) (fs : List (FH × Fx)) : Prop where
  n1 : n = fs.length
  n2 : n ≤ 9223372036854775807
  rd : CRd w a 2 (fs.map fun p => p.1.cs)
  el : ∀ p ∈ fs, FnRd w p.1 p.2
theorem FRd.below {w w' : World} {a : Option Addr} {n : Nat} {fs : List (FH × Fx)} {B : Nat} (d : FRd w a n fs) (hB : w.heap.size ≤ B) (k : Below B w w') : FRd w' a n fs := ⟨d.n1, d.n2, d.rd.below hB k, fun p hp => (d.el p hp).below hB k⟩
structure CH where
  h : PH
  ia : Option Addr
  inn : Nat
  ic : Nat
  ta : Option Addr
  tn : Nat
  tc : Nat
  fa : Option Addr
  fn : Nat
  fc : Nat
  ea : Option Addr
  en : Nat
  ec : Nat
def CH.cs (C : CH) : Array Value := #[.slice C.h.ra C.h.rn C.h.rc, .slice C.h.ma C.h.mn C.h.mc, .slice C.h.fa C.h.fn C.h.fc, .slice C.h.ea C.h.en C.h.ec, .slice C.ia C.inn C.ic, .slice C.ta C.tn C.tc, .slice C.fa C.fn C.fc, .slice C.ea C.en C.ec]
def CH.v (C : CH) : Value := .agg C.cs
structure CdRd (w : World) (C : CH) (c : Cx) (fs es : List (FH × Fx)) : Prop where
  p : PRd w C.h c.p
  i1 : C.inn = c.ints
  i2 : C.inn ≤ 9223372036854775807
  t1 : C.tn = c.texts.length
  t2 : C.tn ≤ 9223372036854775807
  tr : SRd w C.ta c.texts
  f : FRd w C.fa C.fn fs
  fe : fs.map (·.2) = c.funcs
  e : FRd w C.ea C.en es
  ee : es.map (·.2) = c.events
theorem CdRd.below {w w' : World} {C : CH} {c : Cx} {fs es : List (FH × Fx)} {B : Nat} (d : CdRd w C c fs es) (hB : w.heap.size ≤ B) (k : Below B w w') : CdRd w' C c fs es := ⟨d.p.below hB k, d.i1, d.i2, d.t1, d.t2, d.tr.below hB k, d.f.below hB k, d.fe, d.e.below hB k, d.ee⟩
/- How many there are. -/
structure Lns (C : CH) (c : Cx) : Prop where
  i1 : C.inn = c.ints
  i2 : C.inn ≤ 9223372036854775807
  t1 : C.tn = c.texts.length
  t2 : C.tn ≤ 9223372036854775807
  r1 : C.h.rn = c.p.recs.length
  r2 : C.h.rn ≤ 9223372036854775807
  m1 : C.h.mn = c.p.maps.length
  m2 : C.h.mn ≤ 9223372036854775807
  f1 : C.h.fn = c.p.funcs.length
  f2 : C.h.fn ≤ 9223372036854775807
  e1 : C.h.en = c.p.events.length
  e2 : C.h.en ≤ 9223372036854775807
theorem CdRd.lns {w : World} {C : CH} {c : Cx} {fs es : List (FH × Fx)} (d : CdRd w C c fs es) : Lns C c := ⟨d.i1, d.i2, d.t1, d.t2, d.p.r.n1, d.p.r.n2, d.p.m.n1, d.p.m.n2, d.p.f.n1, d.p.f.n2, d.p.e.n1, d.p.e.n2⟩
set_option maxRecDepth 100000 in
set_option maxHeartbeats 2000000 in
theorem bounds_any (w : World) (C : CH) (c : Cx) (L : Lns C c) (F : FH) (h0 : 0 ≤ F.regs) (h64 : F.regs ≤ 64) (ho : F.on ≤ 9223372036854775807) (r len : Int) (l0 : 0 ≤ len) (l1 : len ≤ 9223372036854775807) :
    Calls Tryz.prog 92 #[C.v, F.v, .int .u8 r, .int .i64 len] w fun e w' => e = .returned (.tuple #[.int .i64 (bnd c F.regs F.on r len).1, .int .i64 (bnd c F.regs F.on r len).2]) ∧ Below w.heap.size w w' := by
  obtain ⟨i1, i2, t1, t2, r1, r2, m1, m2, f1, f2, e1, e2⟩ := L
  obtain ⟨⟨ra, rn, rc, ma, mn, mc, fa, fn, fc, ea, en, ec⟩, ia, inn, ic, ta, tn, tc, ga, gn, gc, ha, hn, hc⟩ := C
  obtain ⟨regs, oa, on, oc⟩ := F
  simp only at i1 i2 t1 t2 r1 r2 m1 m2 f1 f2 e1 e2 h0 h64 ho
  simp only [CH.v, CH.cs, FH.v]
  obtain ⟨W0, hW0⟩ : ∃ W0, W0 = (w.alloc (.cells #[.slice ra rn rc, .slice ma mn mc, .slice fa fn fc, .slice ea en ec, .slice ia inn ic, .slice ta tn tc, .slice ga gn gc, .slice ha hn hc] 51)).alloc (.cells #[.int .i64 regs, .slice oa on oc] 46) := ⟨_, rfl⟩
  have bw : Below w.heap.size w W0 := by rw [hW0]; exact ((Below.refl _ _).alloc (Nat.le_refl _) _).alloc (by simp) _
  have m0 : W0.heap[w.heap.size]? = some (.cells #[.slice ra rn rc, .slice ma mn mc, .slice fa fn fc, .slice ea en ec, .slice ia inn ic, .slice ta tn tc, .slice ga gn gc, .slice ha hn hc] 51 (0, 0)) := by rw [hW0]; exact (Below.heap_alloc _ _ _ (by simp)).trans (heap_alloc_new w _)
  have m5 : W0.heap[w.heap.size + 1]? = some (.cells #[.int .i64 regs, .slice oa on oc] 46 (0, 0)) := by
    have := heap_alloc_new (w.alloc (.cells #[.slice ra rn rc, .slice ma mn mc, .slice fa fn fc, .slice ea en ec, .slice ia inn ic, .slice ta tn tc, .slice ga gn gc, .slice ha hn hc] 51)) (.cells #[.int .i64 regs, .slice oa on oc] 46)
    rw [World.size_alloc] at this
    rw [hW0]; exact this
  have x0 := cellOf m0 0
  have x1 := cellOf m0 1
  have x2 := cellOf m0 2
  have x3 := cellOf m0 3
  have x4 := cellOf m0 4
  have x5 := cellOf m0 5
  have y0 := cellOf m5 0
  have y1 := cellOf m5 1
  simp only [List.getElem?_toArray, List.getElem?_cons_zero, List.getElem?_cons_succ] at x0 x1 x2 x3 x4 x5 y0 y1
  have BW := hid bw
  have I1 := hid i1
  have T1 := hid t1
  have R1 := hid r1
  have M1 := hid m1
  have F1 := hid f1
  have E1 := hid e1
  clear m0 m5 bw i1 t1 r1 m1 f1 e1
  have wr1 : ∀ x : Int, 0 ≤ x → x ≤ 9223372036854775807 → IntKind.i64.wrap (x - 1) = x - 1 := fun x a b => by rw [IntKind.wrap_i64]; omega
  by_cases h1 : r = 1
  · subst h1
    have HP : Hid (bnd c regs on 1 len = (0, regs - 1)) := hid (by unfold bnd; simp)
    have w1 := wr1 regs h0 (by omega)
    clear wr1
    go_enter Tryz.func92, Tryz.ntmps92
    go_upto_region 1 with fail
    rw [← hW0]
    clear hW0
    go_wp2
    go_quiet (fail)
    go_wp2
    go_ret2
    exact ⟨by rw [HP.out]; rfl, bel_dN BW.out _⟩
  have g1 : (r == 1) = false := by simp [h1]
  by_cases h3 : r = 3
  · subst h3
    have HP : Hid (bnd c regs on 3 len = (0, regs - 1)) := hid (by unfold bnd; simp)
    have w1 := wr1 regs h0 (by omega)
    clear wr1
    go_enter Tryz.func92, Tryz.ntmps92
    go_upto_region 1 with fail
    rw [← hW0]
    clear hW0
    go_wp2
    go_quiet (fail)
    go_wp2
    go_ret2
    exact ⟨by rw [HP.out]; rfl, bel_dN BW.out _⟩
  have g3 : (r == 3) = false := by simp [h3]
  by_cases h2 : r = 2
  · subst h2
    have HP : Hid (bnd c regs on 2 len = (-1, regs - 1)) := hid (by unfold bnd; simp)
    have w1 := wr1 regs h0 (by omega)
    clear wr1
    go_enter Tryz.func92, Tryz.ntmps92
    go_upto_region 1 with fail
    rw [← hW0]
    clear hW0
    go_wp2
    go_quiet (fail)
    go_wp2
    go_ret2
    exact ⟨by rw [HP.out]; rfl, bel_dN BW.out _⟩
  have g2 : (r == 2) = false := by simp [h2]
  by_cases h4 : r = 4
  · subst h4
    have HP : Hid (bnd c regs on 4 len = (-1, regs - 1)) := hid (by unfold bnd; simp)
    have w1 := wr1 regs h0 (by omega)
    clear wr1
    go_enter Tryz.func92, Tryz.ntmps92
    go_upto_region 1 with fail
    rw [← hW0]
    clear hW0
    go_wp2
    go_quiet (fail)
    go_wp2
    go_ret2
    exact ⟨by rw [HP.out]; rfl, bel_dN BW.out _⟩
  have g4 : (r == 4) = false := by simp [h4]
  by_cases h5 : r = 5
  · subst h5
    have HP : Hid (bnd c regs on 5 len = (0, regs - len)) := hid (by unfold bnd; simp)
    have w1 : IntKind.i64.wrap (regs - len) = regs - len := by rw [IntKind.wrap_i64]; omega
    clear wr1
    go_enter Tryz.func92, Tryz.ntmps92
    go_upto_region 1 with fail
    rw [← hW0]
    clear hW0
    go_wp2
    go_quiet (fail)
    go_wp2
    go_ret2
    exact ⟨by rw [HP.out]; rfl, bel_dN BW.out _⟩
  have g5 : (r == 5) = false := by simp [h5]
  by_cases h6 : r = 6
  · subst h6
    have HP : Hid (bnd c regs on 6 len = (0, (inn : Int) - 1)) := hid (by unfold bnd; simp [I1.out])
    have w1 := wr1 (inn : Int) (by omega) (by omega)
    clear wr1
    go_enter Tryz.func92, Tryz.ntmps92
    go_upto_region 1 with fail
    rw [← hW0]
    clear hW0
    go_wp2
    go_quiet (fail)
    go_wp2
    go_ret2
    exact ⟨by rw [HP.out]; rfl, bel_dN BW.out _⟩
  have g6 : (r == 6) = false := by simp [h6]
  by_cases h7 : r = 7
  · subst h7
    have HP : Hid (bnd c regs on 7 len = (0, (tn : Int) - 1)) := hid (by unfold bnd; simp [T1.out])
    have w1 := wr1 (tn : Int) (by omega) (by omega)
    clear wr1
    go_enter Tryz.func92, Tryz.ntmps92
    go_upto_region 1 with fail
    rw [← hW0]
    clear hW0
    go_wp2
    go_quiet (fail)
    go_wp2
    go_ret2
    exact ⟨by rw [HP.out]; rfl, bel_dN BW.out _⟩
  have g7 : (r == 7) = false := by simp [h7]
  by_cases h8 : r = 8
  · subst h8
    have HP : Hid (bnd c regs on 8 len = (0, 1)) := hid (by unfold bnd; simp)
    clear wr1
    go_enter Tryz.func92, Tryz.ntmps92
    go_upto_region 1 with fail
    rw [← hW0]
    clear hW0
    go_wp2
    go_ret2
    exact ⟨by rw [HP.out]; rfl, BW.out⟩
  have g8 : (r == 8) = false := by simp [h8]
  by_cases h9 : r = 9
  · subst h9
    have HP : Hid (bnd c regs on 9 len = (0, (rn : Int) - 1)) := hid (by unfold bnd; simp [R1.out])
    have w1 := wr1 (rn : Int) (by omega) (by omega)
    clear wr1
    go_enter Tryz.func92, Tryz.ntmps92
    go_upto_region 1 with fail
    rw [← hW0]
    clear hW0
    go_wp2
    go_quiet (fail)
    go_wp2
    go_ret2
    exact ⟨by rw [HP.out]; rfl, bel_dN BW.out _⟩
  have g9 : (r == 9) = false := by simp [h9]
  by_cases h10 : r = 10
  · subst h10
    have HP : Hid (bnd c regs on 10 len = (0, 11)) := hid (by unfold bnd; simp)
    clear wr1
    go_enter Tryz.func92, Tryz.ntmps92
    go_upto_region 1 with fail
    rw [← hW0]
    clear hW0
    go_wp2
    go_ret2
    exact ⟨by rw [HP.out]; rfl, BW.out⟩
  have g10 : (r == 10) = false := by simp [h10]
  by_cases h11 : r = 11
  · subst h11
    have HP : Hid (bnd c regs on 11 len = (0, (mn : Int) - 1)) := hid (by unfold bnd; simp [M1.out])
    have w1 := wr1 (mn : Int) (by omega) (by omega)
    clear wr1
    go_enter Tryz.func92, Tryz.ntmps92
    go_upto_region 1 with fail
    rw [← hW0]
    clear hW0
    go_wp2
    go_quiet (fail)
    go_wp2
    go_ret2
    exact ⟨by rw [HP.out]; rfl, bel_dN BW.out _⟩
  have g11 : (r == 11) = false := by simp [h11]
  by_cases h12 : r = 12
  · subst h12
    have HP : Hid (bnd c regs on 12 len = (0, (fn : Int) - 1)) := hid (by unfold bnd; simp [F1.out])
    have w1 := wr1 (fn : Int) (by omega) (by omega)
    clear wr1
    go_enter Tryz.func92, Tryz.ntmps92
    go_upto_region 1 with fail
    rw [← hW0]
    clear hW0
    go_wp2
    go_quiet (fail)
    go_wp2
    go_ret2
    exact ⟨by rw [HP.out]; rfl, bel_dN BW.out _⟩
  have g12 : (r == 12) = false := by simp [h12]
  by_cases h13 : r = 13
  · subst h13
    have HP : Hid (bnd c regs on 13 len = (0, (en : Int) - 1)) := hid (by unfold bnd; simp [E1.out])
    have w1 := wr1 (en : Int) (by omega) (by omega)
    clear wr1
    go_enter Tryz.func92, Tryz.ntmps92
    go_upto_region 1 with fail
    rw [← hW0]
    clear hW0
    go_wp2
    go_quiet (fail)
    go_wp2
    go_ret2
    exact ⟨by rw [HP.out]; rfl, bel_dN BW.out _⟩
  have g13 : (r == 13) = false := by simp [h13]
  by_cases h14 : r = 14
  · subst h14
    have HP : Hid (bnd c regs on 14 len = (0, (on : Int) - 1)) := hid (by unfold bnd; simp)
    have w1 := wr1 (on : Int) (by omega) (by omega)
    clear wr1
    go_enter Tryz.func92, Tryz.ntmps92
    go_upto_region 1 with fail
    rw [← hW0]
    clear hW0
    go_wp2
    go_quiet (fail)
    go_wp2
    go_ret2
    exact ⟨by rw [HP.out]; rfl, bel_dN BW.out _⟩
  have g14 : (r == 14) = false := by simp [h14]
  have HP : Hid (bnd c regs on r len = (0, 0)) := hid (by unfold bnd; simp [h1, h2, h3, h4, h5, h6, h7, h8, h9, h10, h11, h12, h13, h14])
  clear wr1
  go_enter Tryz.func92, Tryz.ntmps92
  go_upto_region 1 with fail
  rw [← hW0]
  clear hW0
  go_wp2
  go_ret2
  exact ⟨by rw [HP.out]; rfl, BW.out⟩
end Go.Proofs.YthnolocldeokeaaGreatDoor

namespace Go.Proofs.YthnolocldeokeaaGreatDoor
open Go.RowKit Go.Deep Go.Shelf
set_option linter.unusedVariables false
set_option linter.unusedSimpArgs false
attribute [local go_sem] Oper.semAt_some
def ShapeC : Prop := ∀ (w : World) (k : Int), Calls Tryz.prog 13 #[.int .i64 k] w fun e w' => e = .returned (.tuple #[.agg (if isC k = true then shpAt k else shp0).cs.toArray, .bool (isC k)]) ∧ Below w.heap.size w w'
def okF (c : Cx) (regs : Int) (nops : Nat) (o : Opx) (i : Fin 4) : Bool := inB (bnd c regs nops (fl (shpAt o.c) o i).1 (rowLen (shpAt o.c).k c.p o.k).1) (fl (shpAt o.c) o i).2
theorem okF_all {c : Cx} {regs : Int} {nops : Nat} {o : Opx} (h : isC o.c = true) (hf : ∀ x ∈ fourL, okF c regs nops o x = true) : isOpB c regs nops o = true := by
  have h0 := hf 0 (by simp [fourL])
  have h1 := hf 1 (by simp [fourL])
  have h2 := hf 2 (by simp [fourL])
  have h3 := hf 3 (by simp [fourL])
  simp only [okF, fl] at h0 h1 h2 h3
  simp [isOpB, h, h0, h1, h2, h3]
theorem okF_no {c : Cx} {regs : Int} {nops : Nat} {o : Opx} {i : Fin 4} (hf : okF c regs nops o i = false) : isOpB c regs nops o = false := by
  unfold okF at hf
  unfold isOpB
  rcases (show i = 0 ∨ i = 1 ∨ i = 2 ∨ i = 3 by omega) with rfl | rfl | rfl | rfl <;> (simp only [fl] at hf; simp [hf])
theorem rowLen_bounds (c : Cx) (C : CH) (L : Lns C c) (w : World) (d : PRd w C.h c.p) (r k : Int) : 0 ≤ (rowLen r c.p k).1 ∧ (rowLen r c.p k).1 ≤ 9223372036854775807 := by
  have pm : ∀ {a : Option Addr} {n : Nat} {gs : List (GH × Sg)}, GRd w a n gs → 0 ≤ (parmB (gs.map (·.2)) k).1 ∧ (parmB (gs.map (·.2)) k).1 ≤ 9223372036854775807 := by
    intro a n gs dg
    cases hb : blw k (gs.length : Int) with
    | false => unfold parmB; rw [List.length_map, hb]; simp
    | true =>
      obtain ⟨kk, rfl, hk⟩ := blw_nat hb
      obtain ⟨g, hg, sg, _⟩ := dg.sig (by rw [dg.n1]; exact hk)
      rw [parm_at hg hb]
      have h1 := sg.pn
      have h2 := sg.p2
      simp only
      omega
  unfold rowLen
  split
  · cases hb : blw k (c.p.recs.length : Int) with
    | false => simp
    | true =>
      obtain ⟨kk, rfl, hk⟩ := blw_nat hb
      obtain ⟨g, hg, sg, _⟩ := d.r.recd (by rw [d.r.n1]; exact hk)
      have h1 := sg.fn
      have h2 := sg.f2
      simp only [if_true, Int.toNat_natCast, List.getD_eq_getElem?_getD, List.getElem?_map, hg, Option.map_some, Option.getD_some]
      omega
  · split
    · simp
    · split
      · exact pm d.f
      · split
        · exact pm d.e
        · simp
set_option maxRecDepth 100000 in
set_option maxHeartbeats 2000000 in
theorem isOp_any (SO : ShapeC) (w : World) (C : CH) (c : Cx) (fs es : List (FH × Fx)) (d : CdRd w C c fs es) (F : FH) (h0 : 0 ≤ F.regs) (h64 : F.regs ≤ 64) (ho : F.on ≤ 9223372036854775807) (o : Opx) :
    Calls Tryz.prog 75 #[C.v, F.v, .agg o.cs] w fun e w' => e = .returned (.bool (isOpB c F.regs F.on o)) ∧ Below w.heap.size w w' := by
  have hro : Fence.wide.round = none := rfl
  obtain ⟨A1, hA1⟩ : ∃ A1, A1 = w.alloc (.cells C.cs 51) := ⟨_, rfl⟩
  obtain ⟨A2, hA2⟩ : ∃ A2, A2 = A1.alloc (.cells F.cs.toArray 46) := ⟨_, rfl⟩
  obtain ⟨A3, hA3⟩ : ∃ A3, A3 = A2.alloc (.cells o.cs 23) := ⟨_, rfl⟩
  obtain ⟨W0, hW0⟩ : ∃ W0, W0 = A3.alloc (.cells #[.bool false] 4) := ⟨_, rfl⟩
  have b1 : Below w.heap.size w A1 := by rw [hA1]; exact (Below.refl _ _).alloc (Nat.le_refl _) _
  have z1 : A1.heap.size = w.heap.size + 1 := by rw [hA1]; simp
  have z2 : A2.heap.size = w.heap.size + 2 := by rw [hA2]; simp; omega
  have z3 : A3.heap.size = w.heap.size + 3 := by rw [hA3]; simp; omega
  have z4 : W0.heap.size = w.heap.size + 4 := by rw [hW0]; simp; omega
  have b2 : Below w.heap.size w A2 := by rw [hA2]; exact b1.alloc (by omega) _
  have b3 : Below w.heap.size w A3 := by rw [hA3]; exact b2.alloc (by omega) _
  have b4 : Below w.heap.size w W0 := by rw [hW0]; exact b3.alloc (by omega) _
  have m0 : W0.heap[w.heap.size]? = some (.cells C.cs 51 (0, 0)) := by
    rw [hW0, Below.heap_alloc _ _ _ (by omega), hA3, Below.heap_alloc _ _ _ (by omega), hA2, Below.heap_alloc _ _ _ (by omega), hA1]; exact heap_alloc_new w _
  have m1 : W0.heap[w.heap.size + 1]? = some (.cells F.cs.toArray 46 (0, 0)) := by
    rw [hW0, Below.heap_alloc _ _ _ (by omega), hA3, Below.heap_alloc _ _ _ (by omega), hA2, ← z1]; exact heap_alloc_new A1 _
  have m2 : W0.heap[w.heap.size + 2]? = some (.cells o.cs 23 (0, 0)) := by
    rw [hW0, Below.heap_alloc _ _ _ (by omega), hA3, ← z2]; exact heap_alloc_new A2 _
  have m3 : W0.heap[w.heap.size + 3]? = some (.cells #[.bool false] 4 (0, 0)) := by rw [hW0, ← z3]; exact heap_alloc_new A3 _
  have KS := hid (SO W0 o.c)
  have L := d.lns
  have D := hid (fun (V : World) (hV : Below w.heap.size w V) => d.p.below (Nat.le_refl _) hV)
  have LB := hid (rowLen_bounds c C L w d.p)
  have HZ := hid z4
  have HB4 := hid b4
  have GT : Hid (∀ V : World, Below W0.heap.size W0 V → V.heap[w.heap.size]? = some (.cells C.cs 51 (0, 0)) ∧ V.heap[w.heap.size + 1]? = some (.cells F.cs.toArray 46 (0, 0)) ∧ V.heap[w.heap.size + 2]? = some (.cells o.cs 23 (0, 0)) ∧ V.heap[w.heap.size + 3]? = some (.cells #[.bool false] 4 (0, 0))) := hid (fun V hV => ⟨(hV.block _ (by omega)).trans m0, (hV.block _ (by omega)).trans m1, (hV.block _ (by omega)).trans m2, (hV.block _ (by omega)).trans m3⟩)
  clear m0 m1 m2 m3 b1 b2 b3 b4 z1 z2 z3 z4 d
  have KB := hid (fun (V : World) (r len : Int) (l0 : 0 ≤ len) (l1 : len ≤ 9223372036854775807) => bounds_any V C c L F h0 h64 ho r len l0 l1)
  have KR := hid (fun (V : World) (hV : Below w.heap.size w V) => rowLen_any V (shpAt o.c) C.h c.p (D.out V hV) o.k)
  have KF := hid (fun (V : World) => fields_in Fence.wide 5 trivial hro (shpAt o.c) o V)
  have SQ := hid (fun (V : World) (X : Nat) => fields_stops (shpAt o.c) o X 5 (by omega) V)
  obtain ⟨s, hs⟩ : ∃ s, s = shpAt o.c := ⟨_, rfl⟩
  have OKA := hid (fun (h : isC o.c = true) (hf : ∀ x ∈ fourL, okF c F.regs F.on o x = true) => okF_all h hf)
  have OKN := hid (fun (i : Fin 4) (hf : okF c F.regs F.on o i = false) => okF_no hf)
  have OKD : Hid (∀ i : Fin 4, okF c F.regs F.on o i = inB (bnd c F.regs F.on (fl (shpAt o.c) o i).1 (rowLen (shpAt o.c).k c.p o.k).1) (fl (shpAt o.c) o i).2) := hid (fun i => rfl)
  have LBk : Hid (0 ≤ (rowLen (shpAt o.c).k c.p o.k).1 ∧ (rowLen (shpAt o.c).k c.p o.k).1 ≤ 9223372036854775807) := hid (LB.out (shpAt o.c).k o.k)
  rw [← hs] at KR KF SQ KS OKD LBk
  generalize okF c F.regs F.on o = okf at OKA OKN OKD
  obtain ⟨len, lb, hlen⟩ : ∃ (len : Int) (lb : Bool), rowLen s.k c.p o.k = (len, lb) := ⟨_, _, rfl⟩
  simp only [hlen] at KR OKD LBk
  generalize bnd c F.regs F.on = bn at KB OKD
  obtain ⟨res, hres⟩ : ∃ res, res = isOpB c F.regs F.on o := ⟨_, rfl⟩
  rw [← hres] at OKA OKN ⊢
  have HRN : Hid (isC o.c = false → res = false) := hid (fun h => by rw [hres]; simp [isOpB, h])
  obtain ⟨⟨ra, rn, rc, ma, mn, mc, fa, fn, fc, ea, en, ec⟩, ia, inn, ic, ta, tn, tc, ga, gn, gc, ha, hn, hc⟩ := C
  obtain ⟨regs, oa, on, ocp⟩ := F
  obtain ⟨oc, od, oaa, ob, ok⟩ := o
  obtain ⟨nm, sd, sa, sb, sk⟩ := s
  simp only [CH.v, CH.cs, FH.v, FH.cs, Opx.cs, PH.v, Shp.cs] at hA1 hA2 hA3 KB KR KF SQ KS GT OKD OKA OKN HRN LBk ⊢
  clear LB D hlen hres hs L h0 h64 ho
  refine (callsIn_wide (n := 6)).1 ?_
  refine callsIn_of_wp_marks Tryz.func75 rfl trivial ?_ hro
  simp only [Tryz.ntmps75, List.size_toArray, List.length_cons, List.length_nil, Nat.reduceAdd, Nat.reduceSub, Array.replicate_succ, Array.replicate_zero, List.push_toArray, List.append_toArray, List.nil_append, List.cons_append]
  cases hC : isC oc with
  | false =>
    rw [hC] at KS HRN
    have hresF := hid (HRN.out rfl)
    simp only [Bool.false_eq_true, if_false, shp0, Shp.cs] at KS
    clear KB KR KF SQ OKD OKA OKN HRN LBk
    have AF := hid (fun (V : World) (hV : Below W0.heap.size W0 V) (q : Obj) => (by
      have bq := hV.trans (((Below.refl _ V).alloc (Nat.le_refl _) q).mono hV.size)
      have g := (GT.out _ bq).2.2.2
      have g8 := set_cells g (.bool false)
      exact ⟨cellOf g 0, freeOf g 0, cellOf g8 0, (HB4.out.trans (bq.mono HB4.out.size)).setCell (p := ⟨w.heap.size + 3, 0, none⟩) (by show w.heap.size ≤ w.heap.size + 3; omega) _⟩ : (V.alloc q).cell? ⟨w.heap.size + 3, 0, none⟩ = some (.bool false) ∧ (V.alloc q).frozen? ⟨w.heap.size + 3, 0, none⟩ = false ∧ ((V.alloc q).setCell ⟨w.heap.size + 3, 0, none⟩ (.bool false)).cell? ⟨w.heap.size + 3, 0, none⟩ = some (.bool false) ∧ Below w.heap.size w ((V.alloc q).setCell ⟨w.heap.size + 3, 0, none⟩ (.bool false))))
    gi_wp2_with (refine ⟨trivial, ?_⟩; gi_at_call 13; (rw [← hA1, ← hA2, ← hA3, ← hW0]; refine (callsIn_wide.2 (Hid.out KS)).mono ?_; rintro e w1 ⟨rfl, hb1⟩; have HA1 := hid (fun q => (AF.out w1 hb1 q).2.2.2); have g6 := fun q => (AF.out w1 hb1 q).1; have g7 := fun q => (AF.out w1 hb1 q).2.1; have g8 := fun q => (AF.out w1 hb1 q).2.2.1; clear hb1))
    exact ⟨_, by simp [results, Tryz.results75, go_sem, g8]; rfl, by rw [hresF.out], HA1.out _⟩
  | true =>
    rw [hC] at KS
    simp only [if_true, Shp.cs] at KS
    have hOKA := hid (OKA.out hC)
    clear HRN OKA
    have AF := hid (fun (V : World) (hV : Below W0.heap.size W0 V) (q : Obj) => (by
      have bq := hV.trans (((Below.refl _ V).alloc (Nat.le_refl _) q).mono hV.size)
      have g := GT.out _ bq
      exact ⟨HB4.out.trans (bq.mono HB4.out.size), cellOf g.1 0, cellOf g.1 1, cellOf g.1 2, cellOf g.1 3, cellOf g.2.2.1 4⟩ : Below w.heap.size w (V.alloc q) ∧ (V.alloc q).cell? ⟨w.heap.size, 0, none⟩ = some (.slice ra rn rc) ∧ (V.alloc q).cell? ⟨w.heap.size, 1, none⟩ = some (.slice ma mn mc) ∧ (V.alloc q).cell? ⟨w.heap.size, 2, none⟩ = some (.slice fa fn fc) ∧ (V.alloc q).cell? ⟨w.heap.size, 3, none⟩ = some (.slice ea en ec) ∧ (V.alloc q).cell? ⟨w.heap.size + 2, 4, none⟩ = some (.int .i64 ok)))
    have AG := hid (fun (V V2 : World) (hV : Below W0.heap.size W0 V) (h2 : Below (V.alloc (.cells #[.string nm, .int .u8 sd, .int .u8 sa, .int .u8 sb, .int .u8 sk] 63)).heap.size (V.alloc (.cells #[.string nm, .int .u8 sd, .int .u8 sa, .int .u8 sb, .int .u8 sk] 63)) V2) (q : Obj) => (by
      have bq := hV.trans (((Below.refl _ V).alloc (Nat.le_refl _) (.cells #[.string nm, .int .u8 sd, .int .u8 sa, .int .u8 sb, .int .u8 sk] 63)).mono hV.size)
      have b2 := bq.trans (h2.mono bq.size)
      have b3 := b2.trans (((Below.refl _ V2).alloc (Nat.le_refl _) q).mono b2.size)
      have g := (GT.out _ b3).2.2.1
      have hs1 : V2.heap[V.heap.size]? = some (.cells #[.string nm, .int .u8 sd, .int .u8 sa, .int .u8 sb, .int .u8 sk] 63 (0, 0)) := (h2.block _ (by rw [World.size_alloc]; omega)).trans (heap_alloc_new V _)
      have hs2 := (Below.heap_alloc V2 q _ (lt_of_heap hs1)).trans hs1
      exact ⟨b3, ⟨cellOf g 0, cellOf g 1, cellOf g 2, cellOf g 3, cellOf g 4⟩, cellOf hs2 0, cellOf hs2 1, cellOf hs2 2, cellOf hs2 3, cellOf hs2 4⟩ : Below W0.heap.size W0 (V2.alloc q) ∧ ((V2.alloc q).cell? ⟨w.heap.size + 2, 0, none⟩ = some (.int .i64 oc) ∧ (V2.alloc q).cell? ⟨w.heap.size + 2, 1, none⟩ = some (.int .i64 od) ∧ (V2.alloc q).cell? ⟨w.heap.size + 2, 2, none⟩ = some (.int .i64 oaa) ∧ (V2.alloc q).cell? ⟨w.heap.size + 2, 3, none⟩ = some (.int .i64 ob) ∧ (V2.alloc q).cell? ⟨w.heap.size + 2, 4, none⟩ = some (.int .i64 ok)) ∧ (V2.alloc q).cell? ⟨V.heap.size, 0, none⟩ = some (.string nm) ∧ (V2.alloc q).cell? ⟨V.heap.size, 1, none⟩ = some (.int .u8 sd) ∧ (V2.alloc q).cell? ⟨V.heap.size, 2, none⟩ = some (.int .u8 sa) ∧ (V2.alloc q).cell? ⟨V.heap.size, 3, none⟩ = some (.int .u8 sb) ∧ (V2.alloc q).cell? ⟨V.heap.size, 4, none⟩ = some (.int .u8 sk)))
    gi_wp2_with (refine ⟨trivial, ?_⟩; first
      | (gi_at_call 13; (rw [← hA1, ← hA2, ← hA3, ← hW0]; refine (callsIn_wide.2 (Hid.out KS)).mono ?_; rintro e w1 ⟨rfl, hb1⟩; have HB1 := hid hb1; have HA1 := hid (fun q => (AF.out w1 hb1 q).1); have y0 := fun q => (AF.out w1 hb1 q).2.1; have y1 := fun q => (AF.out w1 hb1 q).2.2.1; have y2 := fun q => (AF.out w1 hb1 q).2.2.2.1; have y3 := fun q => (AF.out w1 hb1 q).2.2.2.2.1; have y4 := fun q => (AF.out w1 hb1 q).2.2.2.2.2; clear hb1))
      | (gi_at_call 16; (refine (callsIn_wide.2 (KR.out _ (HA1.out _))).mono ?_; rintro e w2 ⟨rfl, hb2⟩; have HG := hid (AG.out w1 w2 HB1.out hb2); have u0 := fun q => (HG.out q).2.1.1; have u1 := fun q => (HG.out q).2.1.2.1; have u2 := fun q => (HG.out q).2.1.2.2.1; have u3 := fun q => (HG.out q).2.1.2.2.2.1; have u4 := fun q => (HG.out q).2.1.2.2.2.2; have v0 := fun q => (HG.out q).2.2.1; have v1 := fun q => (HG.out q).2.2.2.1; have v2 := fun q => (HG.out q).2.2.2.2.1; have v3 := fun q => (HG.out q).2.2.2.2.2.1; have v4 := fun q => (HG.out q).2.2.2.2.2.2; clear hb2 y0 y1 y2 y3 y4))
      | (gi_at_call 17; (refine (KF.out _).mono ?_; rintro e w3 ⟨rfl, rfl⟩; clear u0 u1 u2 u3 u4 v0 v1 v2 v3 v4)))
    obtain ⟨V, hV⟩ : ∃ V, V = ((w2.alloc (.cells #[.int .i64 len] 3)).alloc (.cells #[.string nm, .int .u8 sd, .int .u8 sa, .int .u8 sb, .int .u8 sk] 63)).alloc (.cells #[.int .i64 oc, .int .i64 od, .int .i64 oaa, .int .i64 ob, .int .i64 ok] 23) := ⟨_, rfl⟩
    rw [← hV]
    have bL := (HG.out (.cells #[.int .i64 len] 3)).1
    have bV : Below W0.heap.size W0 V := by rw [hV]; exact (bL.alloc bL.size _).alloc (by rw [World.size_alloc]; have := bL.size; omega) _
    have mlen : V.heap[w2.heap.size]? = some (.cells #[.int .i64 len] 3 (0, 0)) := by
      rw [hV, Below.heap_alloc _ _ _ (by simp; omega), Below.heap_alloc _ _ _ (by simp)]; exact heap_alloc_new w2 _
    have ms : V.heap[w2.heap.size + 1]? = some (.cells #[.string nm, .int .u8 sd, .int .u8 sa, .int .u8 sb, .int .u8 sk] 63 (0, 0)) := by
      rw [hV, Below.heap_alloc _ _ _ (by simp)]
      have := heap_alloc_new (w2.alloc (.cells #[.int .i64 len] 3)) (.cells #[.string nm, .int .u8 sd, .int .u8 sa, .int .u8 sb, .int .u8 sk] 63)
      rw [World.size_alloc] at this; exact this
    have mo : V.heap[w2.heap.size + 1 + 1]? = some (.cells #[.int .i64 oc, .int .i64 od, .int .i64 oaa, .int .i64 ob, .int .i64 ok] 23 (0, 0)) := by
      have := heap_alloc_new ((w2.alloc (.cells #[.int .i64 len] 3)).alloc (.cells #[.string nm, .int .u8 sd, .int .u8 sa, .int .u8 sb, .int .u8 sk] 63)) (.cells #[.int .i64 oc, .int .i64 od, .int .i64 oaa, .int .i64 ob, .int .i64 ok] 23)
      rw [World.size_alloc, World.size_alloc] at this; rw [hV]; exact this
    have zV : w2.heap.size + 1 + 1 < V.heap.size := lt_of_heap mo
    have bwV : Below w.heap.size w V := HB4.out.trans (bV.mono HB4.out.size)
    have hseq := SQ.out V (w2.heap.size + 1) ms mo
    have GV : Hid (∀ W : World, Below V.heap.size V W → (W.heap[w.heap.size]? = some (.cells #[.slice ra rn rc, .slice ma mn mc, .slice fa fn fc, .slice ea en ec, .slice ia inn ic, .slice ta tn tc, .slice ga gn gc, .slice ha hn hc] 51 (0, 0)) ∧ W.heap[w.heap.size + 1]? = some (.cells #[.int .i64 regs, .slice oa on ocp] 46 (0, 0)) ∧ W.heap[w.heap.size + 3]? = some (.cells #[.bool false] 4 (0, 0))) ∧ W.heap[w2.heap.size]? = some (.cells #[.int .i64 len] 3 (0, 0)) ∧ Below w.heap.size w W) := hid (fun W h => by
      have g := GT.out W (bV.trans (h.mono bV.size))
      exact ⟨⟨g.1, g.2.1, g.2.2.2⟩, (h.block _ (lt_of_heap mlen)).trans mlen, bwV.trans (h.mono bwV.size)⟩)
    have hwV : w.heap.size + 3 < V.heap.size := by have := bV.size; have := HZ.out; omega
    clear hA1 hA2 hA3 hW0 hV bL mlen ms mo bV bwV KS KR KF SQ GT AF AG HB1 HA1 HG
    refine range_go2 hro (by omega) (gf := 51) (lb := #[.pointer (some ⟨w2.heap.size + 1, 0, none⟩), .pointer (some ⟨w2.heap.size + 1 + 1, 0, none⟩)]) rfl trivial (enters_of Tryz.func51 (by kernel_rfl) rfl) (enc1 := fun x => .int .u8 (fl ⟨nm, sd, sa, sb, sk⟩ ⟨oc, od, oaa, ob, ok⟩ x).1) (enc2 := fun x => .int .i64 (fl ⟨nm, sd, sa, sb, sk⟩ ⟨oc, od, oaa, ob, ok⟩ x).2) hseq K2_r K2_t (K2_b (by omega)) (BI V okf) (BX w V (w.heap.size + 3) okf) (BI_own V okf) (fun c => BX_own w V _ okf (by omega) c) ⟨Below.refl _ _, by simp⟩ ?round ?done ?stop
    case round =>
      intro ll x W K hK
      have HKK := hid hK
      clear hK
      have HOK := hid (OKD.out x)
      generalize fl ⟨nm, sd, sa, sb, sk⟩ ⟨oc, od, oaa, ob, ok⟩ x = fx at HOK ⊢
      obtain ⟨rx, nx⟩ := fx
      simp only [List.setIfInBounds_toArray, List.set_cons_zero, List.set_cons_succ] at HOK ⊢
      gi_wp2
      refine HKK.out _ ?_
      clear HKK K W ll hseq
      intro l' pre W' hl hrr hi hlt
      have KBx := hid (KB.out W' rx len LBk.out.1 LBk.out.2)
      obtain ⟨lo, hi', hb⟩ : ∃ lo hi', bn rx len = (lo, hi') := ⟨_, _, rfl⟩
      simp only [hb] at KBx HOK
      obtain ⟨⟨g0, g1, g3⟩, gl, gb⟩ := GV.out W' hi.1
      have c0 := cellOf g0 0
      have c1 := cellOf g0 1
      have c2 := cellOf g0 2
      have c3 := cellOf g0 3
      have c4 := cellOf g0 4
      have c5 := cellOf g0 5
      have c6 := cellOf g0 6
      have c7 := cellOf g0 7
      have e0 := cellOf g1 0
      have e1 := cellOf g1 1
      have cl := cellOf gl 0
      simp only [List.getElem?_toArray, List.getElem?_cons_zero, List.getElem?_cons_succ] at c0 c1 c2 c3 c4 c5 c6 c7 e0 e1 cl
      have HI := hid hi
      have hsz : V.heap.size ≤ W'.heap.size := hi.1.size
      clear g0 g1 g3 gl hrr hi hb KB LBk OKD
      cases hq : okf x with
      | true =>
        have hin : ¬ nx < lo ∧ ¬ hi' < nx := by
          have := HOK.out; rw [hq] at this; unfold inB at this; simp at this; omega
        obtain ⟨n1, n2⟩ := hin
        gi_wp2_with (refine ⟨trivial, ?_⟩; gi_at_call 92; (refine (CallsIn.inRound l' (callsIn_wide.2 (Hid.out KBx))).mono ?_; rintro e w8 ⟨rfl, hb8⟩))
        exact ⟨keepsFrom_below hb8, K2_of hb8 (by omega), HI.out.snoc hq hb8⟩
      | false =>
        have hin : nx < lo ∨ (¬ nx < lo ∧ hi' < nx) := by
          have := HOK.out; rw [hq] at this; unfold inB at this; simp at this; omega
        have FIN : Hid (∀ w8 : World, Below W'.heap.size W' w8 → w8.cell? ⟨w.heap.size + 3, 0, none⟩ = some (.bool false) ∧ w8.frozen? ⟨w.heap.size + 3, 0, none⟩ = false ∧ KeepsFrom V.heap.size W' (w8.setCell ⟨w.heap.size + 3, 0, none⟩ (.bool false)) ∧ BX w V (w.heap.size + 3) okf .ret (pre ++ [x]) (w8.setCell ⟨w.heap.size + 3, 0, none⟩ (.bool false))) := hid (fun w8 hb8 => by
          obtain ⟨⟨_, _, g3⟩, _, gb⟩ := GV.out w8 (HI.out.1.trans (hb8.mono HI.out.1.size))
          exact ⟨cellOf g3 0, freeOf g3 0, (keepsFrom_below hb8).trans ((KeepsOthers.setCell _ _ _).from _), rfl, ⟨_, List.mem_append.2 (.inr (List.mem_singleton.2 rfl)), hq⟩, set_cells g3 _, gb.setCell (p := ⟨w.heap.size + 3, 0, none⟩) (by show w.heap.size ≤ w.heap.size + 3; omega) _⟩)
        rcases hin with n1 | ⟨n1, n2⟩
        · gi_wp2_with (refine ⟨trivial, ?_⟩; gi_at_call 92; (refine (CallsIn.inRound l' (callsIn_wide.2 (Hid.out KBx))).mono ?_; rintro e w8 ⟨rfl, hb8⟩; have g6 := (FIN.out w8 hb8).1; have g7 := (FIN.out w8 hb8).2.1))
          exact (FIN.out w8 hb8).2.2
        · gi_wp2_with (refine ⟨trivial, ?_⟩; gi_at_call 92; (refine (CallsIn.inRound l' (callsIn_wide.2 (Hid.out KBx))).mono ?_; rintro e w8 ⟨rfl, hb8⟩; have g6 := (FIN.out w8 hb8).1; have g7 := (FIN.out w8 hb8).2.1))
          exact (FIN.out w8 hb8).2.2
    case done =>
      rintro D' ys W hD rfl hI hK
      have HI := hid hI
      have HK := hid hK
      obtain ⟨⟨_, _, g3⟩, _, gb⟩ := GV.out W hI.1
      have g6 := cellOf g3 0
      have g7 := freeOf g3 0
      have hresT := hid (hOKA.out hI.2)
      have G3 := hid g3
      have GB := hid gb
      clear hseq hI hK g3 gb
      gi_wp2
      have hK' : (W.setCell ⟨w.heap.size + 3, 0, none⟩ (.bool true)).heap[D']? = some (.deferred (some [])) := (Below.heap_setCell _ _ _ _ (by show D' ≠ w.heap.size + 3; omega)).trans HK.out
      have h9 := keep_cells (B := 0) (set_cells G3.out (.bool true)) (grownBy_putObj' _ D' (.deferred none)) (fun r e => by cases e; exact ⟨Nat.zero_le _, _, hK', rfl⟩)
      have h10 : Below w.heap.size w ((W.setCell ⟨w.heap.size + 3, 0, none⟩ (.bool true)).putObj D' (.deferred none)) := ownFrom_below (β := Unit) (Nat.le_refl _) (Nat.le_refl _) () _ _ _ (GB.out.setCell (p := ⟨w.heap.size + 3, 0, none⟩) (by show w.heap.size ≤ w.heap.size + 3; omega) _) (grownBy_putObj' _ D' (.deferred none)) (fun r e => by cases e; exact ⟨by omega, _, hK', rfl⟩)
      have q5 := cellOf h9 0
      simp only [List.getElem?_toArray, List.getElem?_cons_zero] at q5
      refine ⟨by simp, .inl ⟨_, _, rfl, run_takeDeferred hK', ?_⟩⟩
      refine ⟨_, by simp [results, Tryz.results75, go_sem, q5]; rfl, ?_⟩
      exact ⟨by rw [hresT.out], h10⟩
    case stop =>
      rintro D' cc pre W hD ⟨kk, hkk⟩ ⟨rfl, ⟨x, hx, hx2⟩, h5, h6⟩ hK
      have hresF := hid (OKN.out x hx2)
      have HK := hid hK
      clear hseq hK
      gi_wp2
      have h9 := keep_cells (B := 0) h5 (grownBy_putObj' _ D' (.deferred none)) (fun r e => by cases e; exact ⟨Nat.zero_le _, _, HK.out, rfl⟩)
      have h10 : Below w.heap.size w (W.putObj D' (.deferred none)) := ownFrom_below (β := Unit) (Nat.le_refl _) (Nat.le_refl _) () _ _ _ h6 (grownBy_putObj' _ D' (.deferred none)) (fun r e => by cases e; exact ⟨by omega, _, HK.out, rfl⟩)
      have q5 := cellOf h9 0
      simp only [List.getElem?_toArray, List.getElem?_cons_zero] at q5
      refine ⟨by simp, .inl ⟨_, _, rfl, run_takeDeferred HK.out, ?_⟩⟩
      refine ⟨_, by simp [results, Tryz.results75, go_sem, q5]; rfl, ?_⟩
      exact ⟨by rw [hresF.out], h10⟩
end Go.Proofs.YthnolocldeokeaaGreatDoor

