/- The parser: records that are made. -/
import Derived.Test.YtcnohgifihbkdaaGreatDoorJAK
namespace Go.Proofs.YtcnohgifihbkdaaGreatDoor
open Go.RowKit Go.Deep Go.Shelf
set_option linter.unusedVariables false
set_option linter.unusedSimpArgs false
set_option maxRecDepth 100000
def LN (w : World) (A : Nat → Prop) (r : List Value) (q : Bsq) : Prop := r = [.string (bs q)]
theorem LN_mv : Mv LN := fun w w' A B r a h s i => h
theorem LN_row : Rw 1 LN := fun w A r a h => by
  rw [show r = [.string (bs a)] from h]
  exact ⟨rfl, fun u hu => by simp at hu; subst hu; rfl⟩
theorem infoS9 : (Tryz.prog.info? 9).map (fun i => (i.zero, i.size, i.bytes)) = some (some (.string ⟨#[]⟩), 1, 16) := by kernel_rfl
theorem Lst.nm {w : World} {A : Nat → Prop} {v : Value} {l : List Bsq} (h : Lst 9 1 LN w A v l) : Rws 9 1 w A v (nmR l) := by
  obtain ⟨rows, h1, h2⟩ := h
  have : rows = nmR l := by
    apply List.ext_getElem?
    intro j
    rw [nmR, List.getElem?_map]
    cases hj : l[j]? with
    | none =>
      rw [List.getElem?_eq_none_iff] at hj
      rw [List.getElem?_eq_none (by rw [h2.1]; exact hj)]; rfl
    | some p =>
      have hlt : j < rows.length := by rw [h2.1]; exact (List.getElem?_eq_some_iff.1 hj).1
      have := h2.2 j _ p (List.getElem?_eq_getElem hlt) hj
      rw [List.getElem?_eq_getElem hlt, show rows[j] = _ from this]; rfl
  rw [this] at h1
  exact h1
/- One part of a row of parts, as it is read. -/
theorem PtR.at {w : World} {A : Nat → Prop} {v : Value} {l : List (Bsq × PEx)} (h : PtR w A v l) {j : Nat} {p : Bsq × PEx} (hp : l[j]? = some p) : ∃ (b off : Nat) (c : Nat) (na : Option Addr) (nn nc : Nat) (aa : Option Addr) (an ac : Nat), v = .slice (some ⟨b, off, none⟩) l.length c ∧ l.length ≤ c ∧ b < w.heap.size ∧ A b ∧ w.cell? ⟨b, off + j * 9, none⟩ = some (.string (bs p.1)) ∧ w.cell? ⟨b, off + j * 9 + 1, none⟩ = some (.int .i64 p.2.kind) ∧ w.cell? ⟨b, off + j * 9 + 2, none⟩ = some (.int .i64 p.2.op) ∧ w.cell? ⟨b, off + j * 9 + 3, none⟩ = some (.int .i64 p.2.int) ∧ w.cell? ⟨b, off + j * 9 + 4, none⟩ = some (.string (bs p.2.text)) ∧ w.cell? ⟨b, off + j * 9 + 5, none⟩ = some (.string (bs p.2.name)) ∧ w.cell? ⟨b, off + j * 9 + 6, none⟩ = some (.slice na nn nc) ∧ w.cell? ⟨b, off + j * 9 + 7, none⟩ = some (.slice aa an ac) ∧ w.cell? ⟨b, off + j * 9 + 8, none⟩ = some (.int .i64 p.2.pos) ∧ RE w A (.agg #[.int .i64 p.2.kind, .int .i64 p.2.op, .int .i64 p.2.int, .string (bs p.2.text), .string (bs p.2.name), .slice na nn nc, .slice aa an ac, .int .i64 p.2.pos]) p.2 := by
  obtain ⟨rows, ⟨h1, h1'⟩, h2⟩ := h
  obtain ⟨a, c, hv, hc, hr, _⟩ := h1.rd
  have hlt : j < rows.length := by rw [h2.1]; exact (List.getElem?_eq_some_iff.1 hp).1
  obtain ⟨b, off, ha, hb, hcell⟩ := hr j _ (List.getElem?_eq_getElem hlt)
  obtain ⟨r', hr', hx⟩ := h2.2 j _ p (List.getElem?_eq_getElem hlt) hp
  obtain ⟨n, hx⟩ := hx
  cases n with
  | zero => exact hx.elim
  | succ n =>
    obtain ⟨nv, av, rs, es, rfl, q2, q3, q4, q5⟩ := hx
    obtain ⟨na, nn, nc, rfl⟩ := q2.form
    obtain ⟨aa, an, ac, rfl⟩ := q3.form
    subst ha
    rw [hr'] at hcell
    have hA : A b := h1' b (by rw [hv]; rfl)
    refine ⟨b, off, c, na, nn, nc, aa, an, ac, by rw [hv, h2.1], by rw [← h2.1]; exact hc, hb, hA, hcell 0 (by omega), hcell 1 (by omega), hcell 2 (by omega), hcell 3 (by omega), hcell 4 (by omega), hcell 5 (by omega), hcell 6 (by omega), hcell 7 (by omega), hcell 8 (by omega), ?_⟩
    exact RE.mv (A := fun g => A g ∧ v.ownBlock ≠ some g) ⟨n + 1, _, rfl, _, _, rs, es, rfl, q2, q3, q4, q5⟩ (Same.refl _ _) (fun g hg => hg.1)
theorem run_appM {α : Type} {T E : TypeId} {k bytes : Nat} {z : Value} {R : World → (Nat → Prop) → List Value → α → Prop} (hmv : Mv R) (hrow : Rw k R) (hU : Tryz.prog.underlying T = some (.slice E)) (hI : (Tryz.prog.info? E).map (fun i => (i.zero, i.size, i.bytes)) = some (some z, k, bytes)) (hz : z.cells.size = k) (k0 : 0 < k) (hby : bytes ≤ 1000)
    (W : World) (ty : TypeId) (lo : Nat) (X : Nat → Prop) (hXn : ∀ g, W.heap.size ≤ g → X g) (v : Value) (l : List α) (h : Lst E k R W (fun g => lo ≤ g ∧ g < W.heap.size ∧ X g) v l) (A : Nat → Prop) (r : List Value) (e : α) (he : R W A r e) (hA : ∀ g, A g → lo ≤ g ∧ g < W.heap.size ∧ v.ownBlock ≠ some g ∧ X g) (hl : l.length ≤ 100000) (hlo : lo ≤ W.heap.size) :
    ∃ v' w', (Builtin.append_ #[T, T] ty #[v, .slice (some ⟨W.heap.size, 0, none⟩) 1 1]).run Tryz.prog (W.alloc (.cells r.toArray E)) = .ok v' w' ∧ Lst E k R w' (fun g => lo ≤ g ∧ g < w'.heap.size ∧ X g) v' (l ++ [e]) ∧ (W.alloc (.cells r.toArray E)).grownBy w' v.ownBlock ∧ (∀ g, v.ownBlock = some g → lo ≤ g) ∧ (∀ g, v'.ownBlock = some g → v.ownBlock = some g ∨ W.heap.size ≤ g) := by
  obtain ⟨rows, ⟨h1, h1'⟩, h2⟩ := h
  obtain ⟨q1, q2⟩ := hrow _ _ _ _ he
  have hb : Below W.heap.size W (W.alloc (.cells r.toArray E)) := (Below.refl _ _).alloc (Nat.le_refl _) _
  have hlen := h2.1
  obtain ⟨v', w', hrun, hk, hg, ho⟩ := run_appK2 hU hI hz k0 hby (W.alloc (.cells r.toArray E)) ty 0 v rows (h1.below (Nat.le_refl _) hb) (some ⟨W.heap.size, 0, none⟩) 1 1 [r] rfl (crd_one E W r k q1) ⟨fun x hx => by simp at hx; rw [hx]; exact q1, fun x hx => by simp at hx; rw [hx]; exact q2⟩ (fun e => by cases e) (by omega) (by omega) (Nat.zero_le _)
  have hsz := hg.size
  rw [World.size_alloc] at hsz
  have hov : ∀ g, v'.ownBlock = some g → g < w'.heap.size := fun g e => (hk.own e).2
  have same : ∀ g, g < W.heap.size → v.ownBlock ≠ some g → w'.heap[g]? = W.heap[g]? := fun g hg1 hg2 => (hg.block g (by rw [World.size_alloc]; omega) (fun e => hg2 e.symm)).trans (hb.block g hg1)
  have own : ∀ g, g < W.heap.size → v.ownBlock ≠ some g → v'.ownBlock ≠ some g := fun g hg1 hg2 e => by
    rcases ho with h | h
    · rw [h] at e; exact hg2 e
    · rw [h, World.size_alloc] at e
      have := Option.some.inj e
      omega
  have fin : ∀ g, v'.ownBlock = some g → lo ≤ g ∧ X g := fun g e => by
    rcases ho with h | h
    · rw [h] at e; exact ⟨(h1' g e).1, (h1' g e).2.2⟩
    · rw [h, World.size_alloc] at e
      have := Option.some.inj e
      exact ⟨by omega, hXn g (by omega)⟩
  refine ⟨v', w', hrun, ⟨rows ++ [r], ⟨hk, fun g e => ⟨(fin g e).1, hov g e, (fin g e).2⟩⟩, (h2.imp fun x a hx => hmv _ _ _ _ _ _ hx (fun g hg => same g hg.1.2.1 hg.2) (fun g hg => ⟨⟨hg.1.1, by have := hg.1.2.1; omega, hg.1.2.2⟩, own g hg.1.2.1 hg.2⟩)).app (All2.one (hmv _ _ _ _ _ _ he (fun g hg => same g (hA g hg).2.1 (hA g hg).2.2.1) (fun g hg => ⟨⟨(hA g hg).1, by have := (hA g hg).2.1; omega, (hA g hg).2.2.2⟩, own g (hA g hg).2.1 (hA g hg).2.2.1⟩)))⟩, hg, fun g e => (h1' g e).1, fun g e => ho.elim (fun h => .inl (by rw [← h]; exact e)) (fun h => .inr (by rw [h, World.size_alloc] at e; have := Option.some.inj e; omega))⟩
theorem wpList_appM {α : Type} {T E : TypeId} {k bytes : Nat} {z : Value} {R : World → (Nat → Prop) → List Value → α → Prop} (hmv : Mv R) (hrow : Rw k R) (hU : Tryz.prog.underlying T = some (.slice E)) (hI : (Tryz.prog.info? E).map (fun i => (i.zero, i.size, i.bytes)) = some (some z, k, bytes)) (hz : z.cells.size = k) (k0 : 0 < k) (hby : bytes ≤ 1000)
    {ops : Array Oper} {rest : List Oper} {o : Oper} {act : Act} {Q : Exit → Act → World → Prop} (X W : World) (cs : Array Value) (hX : X = W.alloc (.cells cs E)) (hgd : o.guard = none) (s x : Operand)
    (ho : o.op = .call { callee := .builtin .append, args := #[s, x], argTypes := #[T, T] }) (v u : Value) (hs : act.eval s = v) (hx : act.eval x = u) (hu : u = .slice (some ⟨W.heap.size, 0, none⟩) 1 1) (lo : Nat) (X' : Nat → Prop) (hXn : ∀ g, W.heap.size ≤ g → X' g) (l : List α) (h : Lst E k R W (fun g => lo ≤ g ∧ g < W.heap.size ∧ X' g) v l) (A : Nat → Prop) (e : α) (he : R W A cs.toList e) (hA : ∀ g, A g → lo ≤ g ∧ g < W.heap.size ∧ v.ownBlock ≠ some g ∧ X' g) (hl : l.length ≤ 100000) (hlo : lo ≤ W.heap.size)
    (kk : ∀ v' w', Lst E k R w' (fun g => lo ≤ g ∧ g < w'.heap.size ∧ X' g) v' (l ++ [e]) → X.grownBy w' v.ownBlock → (∀ g, v.ownBlock = some g → lo ≤ g) → (∀ g, v'.ownBlock = some g → v.ownBlock = some g ∨ W.heap.size ≤ g) → wpList Tryz.prog ops Q rest (act.put o.dst v') w') :
    wpList Tryz.prog ops Q (o :: rest) act X := by
  refine wpList_plain hgd fun K hK => ?_
  subst hu
  subst hX
  obtain ⟨v', w', hrun, h2, h3, h4, h5⟩ := run_appM hmv hrow hU hI hz k0 hby W o.type lo X' hXn v l h A cs.toList e he hA hl hlo
  rw [Array.toArray_toList] at hrun h3
  unfold Oper.wp execOp
  simp only [ho, resolve, invoke, builtin, Sem.run_bind, Sem.run_pure, Result.andThen_ok, List.map_toArray, List.map_cons, List.map_nil, hs, hx, hrun]
  exact hK _ _ (kk v' w' h2 h3 h4 h5)
theorem bd_inv {α β : Type} {x : Pr α} {f : α → Pr β} {s t : PS} {b : β} (h : bd x f s = .ok (b, t)) : ∃ a s', x s = .ok (a, s') ∧ f a s' = .ok (b, t) := by
  unfold bd at h
  cases hx : x s with
  | error e => rw [hx] at h; cases h
  | ok q => obtain ⟨a, s'⟩ := q; rw [hx] at h; exact ⟨a, s', rfl, h⟩
theorem rowL_len {α : Type} {el : Pr α} : ∀ (g : Nat) (l0 : List α) (t : PS) (l : List α) (s' : PS), rowL el g l0 t = .ok (l, s') → l.length ≤ l0.length + g
  | 0, l0, t, l, s', h => by cases h
  | g + 1, l0, t, l, s', h => by
    have h1 : bd el (fun x => bd (maybe [44]) fun b => if b = true then rowL el g (l0 ++ [x]) else ret (l0 ++ [x])) { t with sur := decide (l0.length = 12) } = .ok (l, s') := h
    obtain ⟨x, t2, _, h2⟩ := bd_inv h1
    obtain ⟨b, t3, _, h3⟩ := bd_inv h2
    cases b with
    | true => have := rowL_len g (l0 ++ [x]) t3 l s' h3; rw [List.length_append] at this; simp at this; omega
    | false => cases h3; simp
theorem between_inner {α : Type} {f t : Bsq} {inner : Pr α} {s s' : PS} {x : α} (h : between f t inner s = .ok (x, s')) : ∃ u u', inner u = .ok (x, u') := by
  unfold between at h
  split at h
  · obtain ⟨_, _, _, h⟩ := bd_inv h
    obtain ⟨y, _, hy, h⟩ := bd_inv h
    obtain ⟨_, _, _, h⟩ := bd_inv h
    obtain ⟨_, _, _, h⟩ := bd_inv h
    cases h
    exact ⟨_, _, hy⟩
  · cases h
theorem rowBt_len {α : Type} {n : Nat} {f t : Bsq} {el : Pr α} {s s' : PS} {l : List α} (h : rowBetween n f t el s = .ok (l, s')) : l.length ≤ n := by
  obtain ⟨u, u', hu⟩ := between_inner h
  have := rowL_len n [] u l u' hu
  simp at this
  exact this
theorem Box.put5 {b : Nat} {c0 c1 c2 c3 c4 c5 c6 c7 x : Value} {T : TypeId} {w : World} (h : Box b #[c0, c1, c2, c3, c4, c5, c6, c7] T w) : Box b #[c0, c1, c2, c3, c4, x, c6, c7] T (w.setCell ⟨b, 5, none⟩ x) := by
  have h0 := h.put (v := x) 5
  simp only [List.setIfInBounds_toArray, List.set_cons_zero, List.set_cons_succ] at h0
  exact h0
theorem Box.put6 {b : Nat} {c0 c1 c2 c3 c4 c5 c6 c7 x : Value} {T : TypeId} {w : World} (h : Box b #[c0, c1, c2, c3, c4, c5, c6, c7] T w) : Box b #[c0, c1, c2, c3, c4, c5, x, c7] T (w.setCell ⟨b, 6, none⟩ x) := by
  have h0 := h.put (v := x) 6
  simp only [List.setIfInBounds_toArray, List.set_cons_zero, List.set_cons_succ] at h0
  exact h0
theorem Box.row {b : Nat} {cs : Array Value} {T : TypeId} {w w' : World} {row : Option Nat} (h : Box b cs T w) (k : w.grownBy w' row) (hP : row ≠ some b) : Box b cs T w' := (k.block b h.lt (fun e => hP e.symm)).trans h
set_option maxHeartbeats 1000000 in
theorem newRec_any (w : World) (P D n : Nat) (s : PS) (e : Pr PEx) (HP : Pst w P D s) (hn : n ≤ 10000) (J : ∀ (V : World) (t : PS), Pst V P D t → w.grownBy V (some P) → Fed (e t) → Calls Tryz.prog 205 #[.pointer (some ⟨P, 0, none⟩)] V (Rt RE P D V (e t))) (HF : Fed (newRec n e s)) : Calls Tryz.prog 259 #[.pointer (some ⟨P, 0, none⟩)] w (Rt RE P D w (newRec n e s)) := by
  have HG := World.grownBy.refl w (some P)
  have hPw := HP.lt
  have hD := HP.dw
  have hPD := HP.pd
  have t0 := True.intro
  have hmf : ∀ (fn : Fn) (first cap : Array Value) (w : World), (Instr.makeFunc fn first cap).run Tryz.prog w = .ok (.func fn first cap) w := fun _ _ _ _ => rfl
  have H := hid (show newRec n e s = bd great (fun nm => bd (rowBetween n [123] [125] (partP e)) fun l => ret ⟨8, 0, 0, [], nm, l.map (·.1), l.map (fun x => pkE x.2), 0⟩) s from rfl)
  have J := hid J
  have HF := hid HF
  go_enter Tryz.func259, Tryz.ntmps259
  go_wp2_with (first
    | (have hno := t1; (go_at_call 265; (refine (rowParts_any _ _ _ _ _ _ _ _ (by with_reducible repeat first | exact HP | apply pA | refine pS (by omega) ?_) hn (fun V t hV hg hf => part_any V P D t e hV (fun X u hX hVX => J.out X u hX (gtrans (gtrans (by with_reducible repeat first | exact HG | apply gA | apply gB | refine gS (by omega) ?_) hg) hVX)) hf) (fun h => HF.out (H.out.trans (bd_err h)))).mono ?_; intro e w2 hrt; rcases hrt.go (W := w) (by with_reducible repeat first | exact HG | apply gA | apply gB | refine gS (by omega) ?_) with ⟨f, hx, rfl, hg⟩ | ⟨l, s2, v, hx, rfl, hv, HP, hGw2, HG, hcw2, hfw2, hzw2, hPw2⟩; exact ⟨rfl, Rt.err (H.out.trans (bd_err hx)) hg⟩; (obtain ⟨ax, mx, cx, rfl⟩ := hv.form; have hE := hv); have H := hid (H.out.trans (bd_ok hx)); (try simp only [szA, szS] at hzw2); have hleww2 := le1 w w2 (by omega); (try have hltww2 := lt1 w w2 (by omega)); have hlew1w2 := le1 w1 w2 (by omega); (try have hltw1w2 := lt1 w1 w2 (by omega)); have t2 := True.intro; have HXL := hid (rowBt_len hx))))
    | (have hno := t0; (go_at_call 76; (refine (great_any _ _ _ _ (by with_reducible repeat first | exact HP | apply pA | refine pS (by omega) ?_)).mono ?_; intro e w1 hrt; rcases hrt.go (W := w) (by with_reducible repeat first | exact HG | apply gA | apply gB | refine gS (by omega) ?_) with ⟨f, hx, rfl, hg⟩ | ⟨nm, s1, v, hx, rfl, hv, HP, hGw1, HG, hcw1, hfw1, hzw1, hPw1⟩; exact ⟨rfl, Rt.err (H.out.trans (bd_err hx)) hg⟩; (have hv2 : v = .string (bs nm) := hv; subst hv2); have H := hid (H.out.trans (bd_ok hx)); (try simp only [szA, szS] at hzw1); have hleww1 := le1 w w1 (by omega); (try have hltww1 := lt1 w w1 (by omega)); have t1 := True.intro))))
  have HB3 := hid ((Box.new w1 #[.int .i64 8, .int .i64 0, .int .i64 0, .string ⟨#[]⟩, .string (bs nm), .slice none 0 0, .slice none 0 0, .int .i64 0] 45).call hGw2 (by omega))
  have HB6 := hid ((show Bx 8 w.heap.size 45 w2 from by repeat (first | ((with_reducible refine Bx.call hGw2 ?_ ?_); omega) | ((with_reducible refine Bx.call hGw1 ?_ ?_); omega) | ((with_reducible refine Bx.new _ _ _ ?_); rfl) | (with_reducible apply Bx.alloc))))
  have HPT := hid hE
  obtain ⟨at12, ct12, hv12⟩ := Lst.form hE
  cases hv12
  have hlN : l.length ≤ 10000 := Nat.le_trans HXL.out hn
  have hlI : (l.length : Int) ≤ 10000 := by omega
  clear hE
  go_loopg [14] l.length (fun g x wr => ∃ (k : Nat) (na : Option Addr) (nn nc : Nat) (aa : Option Addr) (an ac : Nat), k + g = l.length ∧ x = .int .i64 (k : Int) ∧ Box w1.heap.size #[.int .i64 8, .int .i64 0, .int .i64 0, .string ⟨#[]⟩, .string (bs nm), .slice na nn nc, .slice aa an ac, .int .i64 0] 45 wr ∧ Lst 9 1 LN wr (fun g => w1.heap.size + 1 ≤ g ∧ g < wr.heap.size ∧ True) (.slice na nn nc) ((l.take k).map (·.1)) ∧ Lst 45 8 LX wr (fun g => w1.heap.size + 1 ≤ g ∧ g < wr.heap.size ∧ (Value.slice na nn nc).ownBlock ≠ some g) (.slice aa an ac) ((l.take k).map (·.2)) ∧ (∀ g, (Value.slice na nn nc).ownBlock = some g → w2.heap.size ≤ g ∧ g < wr.heap.size) ∧ (∀ g, (Value.slice aa an ac).ownBlock = some g → w2.heap.size ≤ g ∧ g < wr.heap.size) ∧ Same (fun g => w1.heap.size + 1 ≤ g ∧ g < w2.heap.size) w2 wr ∧ w2.heap.size ≤ wr.heap.size ∧ Bx 8 w.heap.size 45 wr ∧ Pst wr P D s2 ∧ w.grownBy wr (some P))
  case atStart => exact ⟨0, none, 0, 0, none, 0, 0, by omega, rfl, HB3.out, Lst.nil _ _ _ _ _, Lst.nil _ _ _ _ _, (fun g e => by cases e), (fun g e => by cases e), Same.refl _ _, Nat.le_refl _, HB6.out, HP, HG⟩
  case round =>
    obtain ⟨k, na, nn, nc, aa, an, ac, hkg, rfl, HB3, HLN, HLX, HON, HOA, HSM, hw2r, HB6, HP, HG⟩ := hrel
    cases gk with
    | zero =>
      have hkl : k = l.length := by omega
      subst hkl
      have y0 := HB3.cell (i := 0) rfl
      have y1 := HB3.cell (i := 1) rfl
      have y2 := HB3.cell (i := 2) rfl
      have y3 := HB3.cell (i := 3) rfl
      have y4 := HB3.cell (i := 4) rfl
      have y5 := HB3.cell (i := 5) rfl
      have y6 := HB3.cell (i := 6) rfl
      have y7 := HB3.cell (i := 7) rfl
      obtain ⟨⟨l6⟩, hl6, hB6⟩ := HB6
      obtain ⟨z0, z1, z2, z3, z4, z5, z6, z7, rfl⟩ := eight_of l6 hl6
      have x0 := hB6.cell (i := 0) rfl
      have x1 := hB6.cell (i := 1) rfl
      have x2 := hB6.cell (i := 2) rfl
      have x3 := hB6.cell (i := 3) rfl
      have x4 := hB6.cell (i := 4) rfl
      have x5 := hB6.cell (i := 5) rfl
      have x6 := hB6.cell (i := 6) rfl
      have x7 := hB6.cell (i := 7) rfl
      have xf : ∀ o, wr.frozen? ⟨w.heap.size, o, none⟩ = false := fun o => freeOf hB6 o
      have HBX : Bx 8 w.heap.size 45 wr := ⟨_, rfl, hB6⟩
      have hgz := HG.size
      rw [List.take_length] at HLN HLX
      have HLN := hid HLN
      have HLX := hid HLX
      have HSM := hid HSM
      clear HON HOA
      go_wp2
      refine ret8 Tryz.results259 rfl (Bx.put8 HBX) rfl ?_
      refine Rt.ok (H.out.trans rfl) ?_ (by with_reducible repeat first | exact HP | apply pA | refine pS (by omega) ?_) (by with_reducible repeat first | exact HG | apply gA | apply gB | refine gS (by omega) ?_)
      have hnw : ¬ (fun g => w1.heap.size + 1 ≤ g ∧ g < wr.heap.size) w.heap.size := fun q => by have := q.1; omega
      have sm : Same (fun g => w1.heap.size + 1 ≤ g ∧ g < wr.heap.size) wr ((((((((wr.setCell ⟨w.heap.size, 0, none⟩ (.int .i64 8)).setCell ⟨w.heap.size, 1, none⟩ (.int .i64 0)).setCell ⟨w.heap.size, 2, none⟩ (.int .i64 0)).setCell ⟨w.heap.size, 3, none⟩ (.string ⟨#[]⟩)).setCell ⟨w.heap.size, 4, none⟩ (.string (bs nm))).setCell ⟨w.heap.size, 5, none⟩ (.slice na nn nc)).setCell ⟨w.heap.size, 6, none⟩ (.slice aa an ac)).setCell ⟨w.heap.size, 7, none⟩ (.int .i64 0)) := by
        repeat (first | (with_reducible exact Same.refl _ _) | ((with_reducible apply Same.set); rotate_left; exact hnw))
      refine RE.mk (e := ⟨8, 0, 0, [], nm, l.map (·.1), l.map (fun x => pkE x.2), 0⟩) (es := l.map (·.2)) ?_ ?_ (by simp)
      · exact (Lst.nm (HLN.out.mv LN_mv (fun g hg => sm g ⟨hg.1, hg.2.1⟩) (fun g hg => ⟨by have := hg.1; omega, by simp only [World.size_setCell]; exact hg.2.1⟩)))
      · exact (Lst.xs (HLX.out.mv LX_mv (fun g hg => sm g ⟨hg.1, hg.2.1⟩) (fun g hg => ⟨by have := hg.1; omega, by simp only [World.size_setCell]; exact hg.2.1⟩)))
    | succ g =>
      have hkl : k < l.length := by omega
      obtain ⟨p, hp⟩ : ∃ p, l[k]? = some p := ⟨_, List.getElem?_eq_getElem hkl⟩
      have ht1 : (l.take (k + 1)).map (·.1) = (l.take k).map (·.1) ++ [p.1] := by rw [List.take_add_one, hp, List.map_append]; rfl
      have ht2 : (l.take (k + 1)).map (·.2) = (l.take k).map (·.2) ++ [p.2] := by rw [List.take_add_one, hp, List.map_append]; rfl
      have HPA := PtR.mv HPT.out (w' := wr) (B := fun g => w1.heap.size + 1 ≤ g ∧ g < w2.heap.size) (fun g hg => HSM g (by (try simp only [World.size_alloc] at hg); exact hg)) (fun g hg => by (try simp only [World.size_alloc] at hg); exact hg)
      obtain ⟨pb, poff, pc, pna, pnn, pnc, paa, pan, pac, hpv, hpc, hpb, hpA, u0, u1, u2, u3, u4, u5, u6, u7, u8, HPE⟩ := PtR.at HPA hp
      cases hpv
      have y0 := HB3.cell (i := 0) rfl
      have y5 := HB3.cell (i := 5) rfl
      have y6 := HB3.cell (i := 6) rfl
      have yf : ∀ o, wr.frozen? ⟨w1.heap.size, o, none⟩ = false := fun o => freeOf HB3 o
      have hb3 := HB3.lt
      have hgz := HG.size
      have hkI : (k : Int) < (l.length : Int) := by omega
      have hpcI : (l.length : Int) ≤ (cx : Int) := by omega
      have hl1 : ((l.take k).map (·.1)).length ≤ 100000 := by rw [List.length_map, List.length_take]; omega
      have hl2 : ((l.take k).map (·.2)).length ≤ 100000 := by rw [List.length_map, List.length_take]; omega
      have HT1 := hid ht1
      have HT2 := hid ht2
      have HON := hid HON
      have HOA := hid HOA
      have HB6 := hid HB6
      have HSM := hid HSM
      have HKG := hid hkg
      have HPE := hid HPE
      have HLN := hid HLN
      have HLX := hid HLX
      have HB3h := hid HB3
      clear ht1 ht2 hkg hp hpA hkl hpc HPA
      go_wp2_with (first
        | (have hno := t3; (at_builtin; refine wpList_appM LX_mv LX_row Tryz.underlying43 infoX rfl (by decide) (by decide) _ (w4.setCell ⟨w1.heap.size, 5, none⟩ (.slice a4 n4 c4)) _ rfl rfl _ _ rfl _ (.slice (some ⟨w4.heap.size, 0, none⟩) 1 1) (by rfl) (by rfl) (by simp only [World.size_setCell]) (w1.heap.size + 1) (fun g => (Value.slice a4 n4 c4).ownBlock ≠ some g) (fun g hg e => by have := HOW4.out g e; simp only [World.size_setCell] at hg; omega) ((l.take k).map (·.2)) HLX2.out (fun g => w1.heap.size + 1 ≤ g ∧ g < w2.heap.size) p.2 HPE2.out (by rintro g ⟨q1, q2⟩; exact ⟨q1, by simp only [World.size_setCell]; omega, fun e => by have := HOA.out g e; omega, fun e => by rcases HO4.out g e with h | h; exact absurd (HON.out g h).1 (by omega); rw [World.size_alloc] at h; omega⟩) hl2 (by simp only [World.size_setCell]; omega) ?_; intro v6 w6 h1 h2 h3 h5; obtain ⟨a6, n6, c6, rfl⟩ : ∃ a m c, v6 = .slice a m c := (by obtain ⟨a, c, h⟩ := Lst.form h1; exact ⟨a, _, c, h⟩); have hz6 := h2.size; simp only [World.size_alloc, World.size_setCell] at hz6; have B36 := Box.row (HB35.out.alloc _) h2 (fun e => by have := HOA.out _ e; omega); have r66 := B36.cell (i := 6) rfl; have rf6 : ∀ o, w6.frozen? ⟨w1.heap.size, o, none⟩ = false := (fun o => freeOf B36 o); have HL6 := hid h1; have HG6 := hid h2; have HO6 := hid h5; have HB36 := hid B36; clear h1 h2 h3 h5 B36))
        | (at_builtin; refine wpList_appM LN_mv LN_row Tryz.underlying42 infoS9 rfl (by decide) (by decide) _ (wr.alloc (.cells #[.string (bs p.1), .int .i64 p.2.kind, .int .i64 p.2.op, .int .i64 p.2.int, .string (bs p.2.text), .string (bs p.2.name), .slice pna pnn pnc, .slice paa pan pac, .int .i64 p.2.pos] 250)) _ rfl rfl _ _ rfl _ (.slice (some ⟨wr.heap.size + 1, 0, none⟩) 1 1) (by rfl) (by rfl) (by rw [World.size_alloc]) (w1.heap.size + 1) (fun _ => True) (fun _ _ => trivial) ((l.take k).map (·.1)) (HLN.out.mv LN_mv ((Same.refl _ _).alloc (by rintro g ⟨q1, q2, q3⟩; exact q2)) (by rintro g ⟨q1, q2, q3⟩; exact ⟨q1, by rw [World.size_alloc]; omega, q3⟩)) (fun _ => False) p.1 rfl (fun g h => h.elim) hl1 (by rw [World.size_alloc]; omega) ?_; intro v4 w4 h1 h2 h3 h5; obtain ⟨a4, n4, c4, rfl⟩ : ∃ a m c, v4 = .slice a m c := (by obtain ⟨a, c, h⟩ := Lst.form h1; exact ⟨a, _, c, h⟩); have hz4 := h2.size; simp only [World.size_alloc] at hz4; have BT4 : Box wr.heap.size #[.string (bs p.1), .int .i64 p.2.kind, .int .i64 p.2.op, .int .i64 p.2.int, .string (bs p.2.text), .string (bs p.2.name), .slice pna pnn pnc, .slice paa pan pac, .int .i64 p.2.pos] 250 w4 := Box.row ((Box.new wr _ 250).alloc _) h2 (fun e => by have := HON.out _ e; omega); have B34 := Box.row ((HB3h.out.alloc _).alloc _) h2 (fun e => by have := HON.out _ e; omega); have q0 := BT4.cell (i := 0) rfl; have q1 := BT4.cell (i := 1) rfl; have q2 := BT4.cell (i := 2) rfl; have q3 := BT4.cell (i := 3) rfl; have q4 := BT4.cell (i := 4) rfl; have q5 := BT4.cell (i := 5) rfl; have q6 := BT4.cell (i := 6) rfl; have q7 := BT4.cell (i := 7) rfl; have q8 := BT4.cell (i := 8) rfl; have r5 := B34.cell (i := 5) rfl; have r6 := B34.cell (i := 6) rfl; have rf : ∀ o, w4.frozen? ⟨w1.heap.size, o, none⟩ = false := (fun o => freeOf B34 o); have hne4 : ¬ wr.heap.size = w1.heap.size := (by omega); have HOW4 : Hid (∀ g, (Value.slice a4 n4 c4).ownBlock = some g → g < w4.heap.size) := (by obtain ⟨rows, ⟨_, q⟩, _⟩ := h1; exact fun g e => (q g e).2.1); have SM2 : Same (fun g => w1.heap.size + 1 ≤ g ∧ g < wr.heap.size ∧ (Value.slice na nn nc).ownBlock ≠ some g) wr (w4.setCell ⟨w1.heap.size, 5, none⟩ (.slice a4 n4 c4)) := (Same.set (fun g hg => by refine (h2.block g (by simp only [World.size_alloc]; have := hg.2.1; omega) (fun e => hg.2.2 e.symm)).trans ?_; exact (((Same.refl (fun g => g < wr.heap.size) wr).alloc (fun g h => h)).alloc (fun g h => by rw [World.size_alloc]; omega)) g hg.2.1) (fun q => by have := q.1; omega)); have HPE2 := hid (LX_mv _ (w4.setCell ⟨w1.heap.size, 5, none⟩ (.slice a4 n4 c4)) _ (fun g => w1.heap.size + 1 ≤ g ∧ g < w2.heap.size) _ _ HPE.out.row (fun g hg => SM2 g ⟨hg.1, by have := hg.2; omega, fun e => by have := HON.out g e; have := hg.2; omega⟩) (fun g h => h)); have HLX2 := hid (HLX.out.mv (B := fun g => w1.heap.size + 1 ≤ g ∧ g < (w4.setCell ⟨w1.heap.size, 5, none⟩ (.slice a4 n4 c4)).heap.size ∧ (Value.slice a4 n4 c4).ownBlock ≠ some g) LX_mv SM2 (by rintro g ⟨q1, q2, q3⟩; exact ⟨q1, by simp only [World.size_setCell]; omega, fun e => by rcases h5 g e with h | h; exact q3 h; rw [World.size_alloc] at h; omega⟩)); have SM2h := hid SM2; have HB35 := hid (Box.put5 (x := .slice a4 n4 c4) B34); have HL4 := hid h1; have HG4 := hid h2; have HO4 := hid h5; have HB34 := hid B34; have t3 := True.intro; clear SM2 h1 h2 h3 h5 BT4 B34 y0 y5 y6 yf u0 u1 u2 u3 u4 u5 u6 u7 u8))
      go_roundg g
      case measure => omega
      have hPr := HP.lt
      have hr4 : ∀ r, (Value.slice na nn nc).ownBlock = some r → w.heap.size ≤ r := fun r e => by have := HON.out r e; omega
      have hr6 : ∀ r, (Value.slice aa an ac).ownBlock = some r → w.heap.size ≤ r := fun r e => by have := HOA.out r e; omega
      have hdis : ∀ g, (Value.slice a4 n4 c4).ownBlock = some g → (Value.slice aa an ac).ownBlock ≠ some g := fun g e e2 => by
        obtain ⟨rows, ⟨k1, _⟩, _⟩ := HL4.out
        obtain ⟨rows2, ⟨k2, _⟩, _⟩ := HLX2.out
        obtain ⟨cu, hcu⟩ := k1.cells e
        obtain ⟨cv, hcv⟩ := k2.cells e2
        have hne : g ≠ w1.heap.size := fun h => by have := HOA.out g e2; omega
        rw [Below.heap_setCell _ ⟨w1.heap.size, 5, none⟩ _ _ (show g ≠ w1.heap.size from hne), hcu] at hcv
        cases hcv
      have own6 : ∀ g, (Value.slice a6 n6 c6).ownBlock = some g → g < w6.heap.size := by obtain ⟨rows, ⟨_, q⟩, _⟩ := HL6.out; exact fun g e => (q g e).2.1
      have st26 : ∀ g, g < w4.heap.size → g ≠ w1.heap.size → (Value.slice aa an ac).ownBlock ≠ some g → (w6.setCell ⟨w1.heap.size, 6, none⟩ (.slice a6 n6 c6)).heap[g]? = w4.heap[g]? := fun g q1 q2 q3 => by
        rw [Below.heap_setCell _ ⟨w1.heap.size, 6, none⟩ _ _ (show g ≠ w1.heap.size from q2), HG6.out.block g (by simp only [World.size_alloc, World.size_setCell]; omega) (fun e => q3 e.symm)]
        have := ((Below.refl (w4.setCell ⟨w1.heap.size, 5, none⟩ (.slice a4 n4 c4)).heap.size (w4.setCell ⟨w1.heap.size, 5, none⟩ (.slice a4 n4 c4))).alloc (Nat.le_refl _) (.cells #[.int .i64 p.2.kind, .int .i64 p.2.op, .int .i64 p.2.int, .string (bs p.2.text), .string (bs p.2.name), .slice pna pnn pnc, .slice paa pan pac, .int .i64 p.2.pos] 45)).block g (by simp only [World.size_setCell]; omega)
        rw [this, Below.heap_setCell _ ⟨w1.heap.size, 5, none⟩ _ _ (show g ≠ w1.heap.size from q2)]
      refine ⟨k + 1, a4, n4, c4, a6, n6, c6, by have := HKG.out; omega, by go_num, Box.put6 HB36.out, ?_, ?_, ?_, ?_, ?_, ?_, ?_, ?_, ?_⟩
      · rw [HT1.out]
        obtain ⟨rows, ⟨k1, k2⟩, k3⟩ := HL4.out
        exact ⟨rows, ⟨k1.keep fun g e => st26 g (k2 g e).2.1 (fun h => by rcases HO4.out g e with h' | h'; exact absurd (HON.out g h').1 (by omega); rw [World.size_alloc] at h'; omega) (hdis g e), fun g e => ⟨(k2 g e).1, by have := (k2 g e).2.1; simp only [World.size_setCell]; omega, trivial⟩⟩, k3.imp fun r a h => h⟩
      · rw [HT2.out]
        exact HL6.out.mv LX_mv ((Same.refl _ _).set (fun q => by have := q.1; omega)) (fun g hg => ⟨hg.1, by simp only [World.size_setCell]; exact hg.2.1, hg.2.2⟩)
      · intro g e
        refine ⟨?_, by have := HOW4.out g e; simp only [World.size_setCell]; omega⟩
        rcases HO4.out g e with h | h
        · exact (HON.out g h).1
        · rw [World.size_alloc] at h; omega
      · intro g e
        refine ⟨?_, by have := own6 g e; simp only [World.size_setCell]; exact this⟩
        rcases HO6.out g e with h | h
        · exact (HOA.out g h).1
        · simp only [World.size_setCell] at h; omega
      · intro g hg
        refine (st26 g (by have := hg.2; omega) (by have := hg.1; omega) (fun e => by have := HOA.out g e; have := hg.2; omega)).trans ?_
        have h1 := SM2h.out g ⟨hg.1, by have := hg.2; omega, fun e => by have := HON.out g e; have := hg.2; omega⟩
        rw [Below.heap_setCell _ ⟨w1.heap.size, 5, none⟩ _ _ (show g ≠ w1.heap.size by have := hg.1; omega)] at h1
        exact h1.trans (HSM.out g hg)
      · simp only [World.size_setCell]; omega
      · obtain ⟨cs6, l6, h6⟩ := HB6.out
        exact ⟨cs6, l6, ((((Box.row ((h6.alloc _).alloc _) HG4.out (fun e => by have := HON.out _ e; omega)).set (by omega)).alloc _).row HG6.out (fun e => by have := HOA.out _ e; omega)).set (by omega)⟩
      · exact ((((((HP.alloc _).alloc _).grown HG4.out (fun r e => by have := hr4 r e; omega)).set (by omega)).alloc _).grown HG6.out (fun r e => by have := hr6 r e; omega)).set (by omega)
      · exact grown_set' (grown_row (grown_alloc (grown_set' (grown_row (grown_alloc (grown_alloc HG _) _) HG4.out hr4) (by omega)) _) HG6.out hr6) (by omega)
end Go.Proofs.YtcnohgifihbkdaaGreatDoor

