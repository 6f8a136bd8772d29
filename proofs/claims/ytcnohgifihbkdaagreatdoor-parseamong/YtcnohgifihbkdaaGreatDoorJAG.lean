/- Appending to rows of expressions, statements, params, parts. -/
import Derived.Test.YtcnohgifihbkdaaGreatDoorJAF
namespace Go.Proofs.YtcnohgifihbkdaaGreatDoor
open Go.RowKit Go.Deep Go.Shelf
set_option linter.unusedVariables false
set_option linter.unusedSimpArgs false
set_option maxRecDepth 100000
theorem Pst.grown {w w' : World} {P D : Nat} {s : PS} {row : Option Nat} (h : Pst w P D s) (hg : w.grownBy w' row) (hr : ∀ r, row = some r → D ≤ r) : Pst w' P D s := h.keep hg.size fun g hgD => hg.block g (by have := h.dw; omega) (fun e => by have := hr g e.symm; omega)
theorem grown_row {w W w' : World} {P : Nat} {row : Option Nat} (h : w.grownBy W (some P)) (hg : W.grownBy w' row) (hr : ∀ r, row = some r → w.heap.size ≤ r) : w.grownBy w' (some P) := ⟨hg.os.trans h.os, hg.tape.trans h.tape, hg.output.trans h.output, Nat.le_trans h.size hg.size, fun j hj hne => (hg.block j (by have := h.size; omega) (fun e => by have := hr j e.symm; omega)).trans (h.block j hj hne)⟩
theorem infoX : (Tryz.prog.info? 45).map (fun i => (i.zero, i.size, i.bytes)) = some (some (.agg #[.int .i64 0, .int .i64 0, .int .i64 0, .string ⟨#[]⟩, .string ⟨#[]⟩, .slice none 0 0, .slice none 0 0, .int .i64 0]), 8, 112) := by kernel_rfl
theorem infoSt : (Tryz.prog.info? 48).map (fun i => (i.zero, i.size, i.bytes)) = some (some (.agg #[.int .i64 0, .string ⟨#[]⟩, .string ⟨#[]⟩, .string ⟨#[]⟩, .slice none 0 0, .slice none 0 0, .slice none 0 0, .int .i64 0]), 8, 136) := by kernel_rfl
theorem infoPm : (Tryz.prog.info? 112).map (fun i => (i.zero, i.size, i.bytes)) = some (some (.agg #[.string ⟨#[]⟩, .string ⟨#[]⟩]), 2, 32) := by kernel_rfl
theorem infoPt : (Tryz.prog.info? 250).map (fun i => (i.zero, i.size, i.bytes)) = some (some (.agg #[.string ⟨#[]⟩, .int .i64 0, .int .i64 0, .int .i64 0, .string ⟨#[]⟩, .string ⟨#[]⟩, .slice none 0 0, .slice none 0 0, .int .i64 0]), 9, 128) := by kernel_rfl
theorem run_appK2 {T E : TypeId} {k bytes : Nat} {z : Value} (hU : Tryz.prog.underlying T = some (.slice E)) (hI : (Tryz.prog.info? E).map (fun i => (i.zero, i.size, i.bytes)) = some (some z, k, bytes)) (hz : z.cells.size = k) (k0 : 0 < k) (hby : bytes ≤ 1000)
    (w : World) (ty : TypeId) (B : Nat) (v : Value) (l : List (List Value)) (h : KR E k w B v l) (a : Option Addr) (m c : Nat) (l2 : List (List Value)) (hm : m = l2.length) (hr : CRd w a k l2) (hR : Rk k l2) (hnil : a = none → c = 0) (hl : l.length ≤ 1000000) (hl2 : m ≤ 1000000) (hB : B ≤ w.heap.size) :
    ∃ v' w', (Builtin.append_ #[T, T] ty #[v, .slice a m c]).run Tryz.prog w = .ok v' w' ∧ KR E k w' B v' (l ++ l2) ∧ w.grownBy w' v.ownBlock ∧ (v'.ownBlock = v.ownBlock ∨ v'.ownBlock = some w.heap.size) := by
  obtain ⟨i0, hi, hz0, hz1, hz2⟩ := info_parts hI
  cases a with
  | none =>
    have hc0 := hnil rfl
    have hl0 : l2 = [] := by
      cases l2 with
      | nil => rfl
      | cons o r => obtain ⟨b, off, e, _⟩ := hr 0 o rfl; cases e
    subst hl0
    subst hc0
    have hm0 : m = 0 := hm
    subst hm0
    exact ⟨v, w, run_append_owned_none w B T ty E i0 k hU hi v l.length l.flatten h.1, by rw [List.append_nil]; exact h, ⟨rfl, rfl, rfl, Nat.le_refl _, fun _ _ _ => rfl⟩, .inl rfl⟩
  | some ad =>
    have hcell : ∀ q u, l2.flatten[q]? = some u → w.cell? (ad.add q) = some u := by
      intro q u hu
      obtain ⟨r, hr1, hr2⟩ := flat_of k0 hR.len hu
      obtain ⟨b, off, e, _, hc⟩ := hr (q / k) r hr1
      cases e
      have := hc (q % k) (Nat.mod_lt _ k0)
      rw [hr2] at this
      have he : off + q / k * k + q % k = off + q := by rw [Nat.add_assoc, Nat.mul_comm, Nat.div_add_mod]
      rw [Addr.add_lit, ← he]
      exact this
    have hone : ∀ u ∈ l2.flatten, u.oneCell' = true := fun u hu => by
      obtain ⟨r, hr1, hr2⟩ := List.mem_flatten.1 hu
      exact hR.one r hr1 u hr2
    obtain ⟨v', w', hrun, hown, hgr, _, hat⟩ := run_append_own_at (P := Tryz.prog) w B T ty E i0 z k bytes hU hi hz0 hz1 hz2 hz k0 v l.length l.flatten h.1 ad m c l2.flatten (by rw [flat_len hR.len, hm]) hcell hone (by unfold maxLen; omega) (by
      have : (l.length + m) * bytes ≤ 2000000 * 1000 := Nat.mul_le_mul (by omega) hby
      omega) hB
    refine ⟨v', w', hrun, ⟨?_, h.2.app hR⟩, hgr, hat⟩
    rw [List.length_append, ← hm, List.flatten_append]
    exact hown
/- A list that grows: its elements lie in other blocks than its own row. -/
def Lst {α : Type} (E : TypeId) (k : Nat) (R : World → (Nat → Prop) → List Value → α → Prop) (w : World) (A : Nat → Prop) (v : Value) (l : List α) : Prop := ∃ rows, Rws E k w A v rows ∧ All2 (R w (fun g => A g ∧ v.ownBlock ≠ some g)) rows l
theorem Lst.nil {α : Type} (E : TypeId) (k : Nat) (R : World → (Nat → Prop) → List Value → α → Prop) (w : World) (A : Nat → Prop) : Lst E k R w A (.slice none 0 0) [] := ⟨[], Rws.nil _ _ _ _, All2.nil _⟩
abbrev Mv {α : Type} (R : World → (Nat → Prop) → List Value → α → Prop) : Prop := ∀ (w w' : World) (A B : Nat → Prop) (r : List Value) (a : α), R w A r a → Same A w w' → (∀ g, A g → B g) → R w' B r a
abbrev Rw {α : Type} (k : Nat) (R : World → (Nat → Prop) → List Value → α → Prop) : Prop := ∀ (w : World) (A : Nat → Prop) (r : List Value) (a : α), R w A r a → r.length = k ∧ ∀ u ∈ r, u.oneCell' = true
theorem Lst.mv {α : Type} {E : TypeId} {k : Nat} {R : World → (Nat → Prop) → List Value → α → Prop} (hmv : Mv R) {w w' : World} {A B : Nat → Prop} {v : Value} {l : List α} (h : Lst E k R w A v l) (s : Same A w w') (i : ∀ g, A g → B g) : Lst E k R w' B v l := by
  obtain ⟨rows, h1, h2⟩ := h
  exact ⟨rows, h1.mv s i, h2.imp fun r a h => hmv _ _ _ _ _ _ h (fun g hg => s g hg.1) (fun g hg => ⟨i g hg.1, hg.2⟩)⟩
theorem Lst.form {α : Type} {E : TypeId} {k : Nat} {R : World → (Nat → Prop) → List Value → α → Prop} {w : World} {A : Nat → Prop} {v : Value} {l : List α} (h : Lst E k R w A v l) : ∃ a c, v = .slice a l.length c := by
  obtain ⟨rows, h1, h2⟩ := h
  obtain ⟨a, c, hv, _⟩ := h1.1.rd
  exact ⟨a, c, by rw [← h2.1]; exact hv⟩
theorem run_appL {α : Type} {T E : TypeId} {k bytes : Nat} {z : Value} {R : World → (Nat → Prop) → List Value → α → Prop} (hmv : Mv R) (hrow : Rw k R) (hU : Tryz.prog.underlying T = some (.slice E)) (hI : (Tryz.prog.info? E).map (fun i => (i.zero, i.size, i.bytes)) = some (some z, k, bytes)) (hz : z.cells.size = k) (k0 : 0 < k) (hby : bytes ≤ 1000)
    (W : World) (ty : TypeId) (lo : Nat) (v : Value) (l : List α) (h : Lst E k R W (fun g => lo ≤ g ∧ g < W.heap.size) v l) (A : Nat → Prop) (r : List Value) (e : α) (he : R W A r e) (hA : ∀ g, A g → lo ≤ g ∧ g < W.heap.size ∧ v.ownBlock ≠ some g) (hl : l.length ≤ 100000) (hlo : lo ≤ W.heap.size) :
    ∃ v' w', (Builtin.append_ #[T, T] ty #[v, .slice (some ⟨W.heap.size, 0, none⟩) 1 1]).run Tryz.prog (W.alloc (.cells r.toArray E)) = .ok v' w' ∧ Lst E k R w' (fun g => lo ≤ g ∧ g < w'.heap.size) v' (l ++ [e]) ∧ (W.alloc (.cells r.toArray E)).grownBy w' v.ownBlock ∧ (∀ g, v.ownBlock = some g → lo ≤ g) := by
  obtain ⟨rows, ⟨h1, h1'⟩, h2⟩ := h
  obtain ⟨q1, q2⟩ := hrow _ _ _ _ he
  have hb : Below W.heap.size W (W.alloc (.cells r.toArray E)) := (Below.refl _ _).alloc (Nat.le_refl _) _
  have hlen := h2.1
  obtain ⟨v', w', hrun, hk, hg, ho⟩ := run_appK2 hU hI hz k0 hby (W.alloc (.cells r.toArray E)) ty 0 v rows (h1.below (Nat.le_refl _) hb) (some ⟨W.heap.size, 0, none⟩) 1 1 [r] rfl (crd_one E W r k q1) ⟨fun x hx => by simp at hx; rw [hx]; exact q1, fun x hx => by simp at hx; rw [hx]; exact q2⟩ (fun e => by cases e) (by omega) (by omega) (Nat.zero_le _)
  have hsz := hg.size
  rw [World.size_alloc] at hsz
  have hov : ∀ g, v'.ownBlock = some g → g < w'.heap.size := fun g e => (hk.own e).2
  have same : ∀ g, g < W.heap.size → v.ownBlock ≠ some g → w'.heap[g]? = W.heap[g]? := fun g hg1 hg2 => (hg.block g (by rw [World.size_alloc]; omega) (fun e => hg2 e.symm)).trans (hb.block g hg1)
  have own : ∀ g, g < W.heap.size → v.ownBlock ≠ some g → v'.ownBlock ≠ some g := fun g hg1 hg2 e => by
    rcases ho with h | h
    · rw [h] at e; exact hg2 e
    · rw [h, World.size_alloc] at e
      have := Option.some.inj e
      omega
  refine ⟨v', w', hrun, ⟨rows ++ [r], ⟨hk, fun g e => ⟨?_, hov g e⟩⟩, (h2.imp fun x a hx => hmv _ _ _ _ _ _ hx (fun g hg => same g hg.1.2 hg.2) (fun g hg => ⟨⟨hg.1.1, by omega⟩, own g hg.1.2 hg.2⟩)).app (All2.one (hmv _ _ _ _ _ _ he (fun g hg => same g (hA g hg).2.1 (hA g hg).2.2) (fun g hg => ⟨⟨(hA g hg).1, by have := (hA g hg).2.1; omega⟩, own g (hA g hg).2.1 (hA g hg).2.2⟩)))⟩, hg, fun g e => (h1' g e).1⟩
  rcases ho with h | h
  · rw [h] at e; exact (h1' g e).1
  · rw [h, World.size_alloc] at e
    have := Option.some.inj e
    omega
theorem wpList_appL {α : Type} {T E : TypeId} {k bytes : Nat} {z : Value} {R : World → (Nat → Prop) → List Value → α → Prop} (hmv : Mv R) (hrow : Rw k R) (hU : Tryz.prog.underlying T = some (.slice E)) (hI : (Tryz.prog.info? E).map (fun i => (i.zero, i.size, i.bytes)) = some (some z, k, bytes)) (hz : z.cells.size = k) (k0 : 0 < k) (hby : bytes ≤ 1000)
    {ops : Array Oper} {rest : List Oper} {o : Oper} {act : Act} {Q : Exit → Act → World → Prop} (X W : World) (cs : Array Value) (hX : X = W.alloc (.cells cs E)) (hgd : o.guard = none) (s x : Operand)
    (ho : o.op = .call { callee := .builtin .append, args := #[s, x], argTypes := #[T, T] }) (v u : Value) (hs : act.eval s = v) (hx : act.eval x = u) (hu : u = .slice (some ⟨W.heap.size, 0, none⟩) 1 1) (lo : Nat) (l : List α) (h : Lst E k R W (fun g => lo ≤ g ∧ g < W.heap.size) v l) (A : Nat → Prop) (e : α) (he : R W A cs.toList e) (hA : ∀ g, A g → lo ≤ g ∧ g < W.heap.size ∧ v.ownBlock ≠ some g) (hl : l.length ≤ 100000) (hlo : lo ≤ W.heap.size)
    (kk : ∀ v' w', Lst E k R w' (fun g => lo ≤ g ∧ g < w'.heap.size) v' (l ++ [e]) → X.grownBy w' v.ownBlock → (∀ g, v.ownBlock = some g → lo ≤ g) → wpList Tryz.prog ops Q rest (act.put o.dst v') w') :
    wpList Tryz.prog ops Q (o :: rest) act X := by
  refine wpList_plain hgd fun K hK => ?_
  subst hu
  subst hX
  obtain ⟨v', w', hrun, h2, h3, h4⟩ := run_appL hmv hrow hU hI hz k0 hby W o.type lo v l h A cs.toList e he hA hl hlo
  rw [Array.toArray_toList] at hrun h3
  unfold Oper.wp execOp
  simp only [ho, resolve, invoke, builtin, Sem.run_bind, Sem.run_pure, Result.andThen_ok, List.map_toArray, List.map_cons, List.map_nil, hs, hx, hrun]
  exact hK _ _ (kk v' w' h2 h3 h4)
/- The four kinds of elements. -/
def LX (w : World) (A : Nat → Prop) (r : List Value) (e : PEx) : Prop := ∃ n, Er n w A r e
def LS (w : World) (A : Nat → Prop) (r : List Value) (e : PSt) : Prop := ∃ n, Sr n w A r e
def LP (w : World) (A : Nat → Prop) (r : List Value) (p : PPm) : Prop := r = [.string (bs p.name), .string (bs p.type)]
def LQ (w : World) (A : Nat → Prop) (r : List Value) (p : Bsq × PEx) : Prop := ∃ r', r = .string (bs p.1) :: r' ∧ LX w A r' p.2
theorem LX_mv : Mv LX := fun w w' A B r a ⟨n, h⟩ s i => ⟨n, Er.mv n h s i⟩
theorem LS_mv : Mv LS := fun w w' A B r a ⟨n, h⟩ s i => ⟨n, Sr.mv n h s i⟩
theorem LP_mv : Mv LP := fun w w' A B r a h s i => h
theorem LQ_mv : Mv LQ := fun w w' A B r a ⟨r', h, k⟩ s i => ⟨r', h, LX_mv _ _ _ _ _ _ k s i⟩
theorem LX_row : Rw 8 LX := fun w A r a ⟨n, h⟩ => h.row
theorem LS_row : Rw 8 LS := fun w A r a ⟨n, h⟩ => h.row
theorem LP_row : Rw 2 LP := fun w A r a h => by
  rw [show r = [.string (bs a.name), .string (bs a.type)] from h]
  exact ⟨rfl, fun u hu => by simp at hu; rcases hu with rfl | rfl <;> rfl⟩
theorem LQ_row : Rw 9 LQ := fun w A r a ⟨r', h, k⟩ => by
  obtain ⟨h1, h2⟩ := LX_row _ _ _ _ k
  subst h
  exact ⟨by simp [h1], fun u hu => by rcases List.mem_cons.1 hu with rfl | hu; rfl; exact h2 u hu⟩
theorem all2_max {β : Type} {R : Nat → List Value → β → Prop} (mono : ∀ m n r b, m ≤ n → R m r b → R n r b) : ∀ (rows : List (List Value)) (l : List β), All2 (fun r b => ∃ n, R n r b) rows l → ∃ n, All2 (R n) rows l
  | [], [], _ => ⟨0, All2.nil _⟩
  | [], b :: l, h => by have := h.1; simp at this
  | r :: rows, [], h => by have := h.1; simp at this
  | r :: rows, b :: l, h => by
    obtain ⟨n, hn⟩ := h.2 0 r b rfl rfl
    obtain ⟨m, hm⟩ := all2_max mono rows l ⟨by have := h.1; simpa using this, fun j x y e f => h.2 (j + 1) x y (by simpa using e) (by simpa using f)⟩
    have h1 : All2 (R (max n m)) [r] [b] := All2.one (mono n _ r b (Nat.le_max_left _ _) hn)
    exact ⟨max n m, h1.app (hm.imp fun x y hx => mono m _ x y (Nat.le_max_right _ _) hx)⟩
theorem Lst.xs {w : World} {A : Nat → Prop} {v : Value} {l : List PEx} (h : Lst 45 8 LX w A v l) : XsR w A v l := by
  obtain ⟨rows, h1, h2⟩ := h
  obtain ⟨n, hn⟩ := all2_max (R := fun n r e => Er n w A r e) (fun m n r b hm h => h.le hm) rows l (h2.imp fun r e ⟨n, h⟩ => ⟨n, Er.mv n h (Same.refl _ _) fun g hg => hg.1⟩)
  exact ⟨n, rows, h1, hn⟩
theorem Lst.ss {w : World} {A : Nat → Prop} {v : Value} {l : List PSt} (h : Lst 48 8 LS w A v l) : SsR w A v l := by
  obtain ⟨rows, h1, h2⟩ := h
  obtain ⟨n, hn⟩ := all2_max (R := fun n r e => Sr n w A r e) (fun m n r b hm h => h.le hm) rows l (h2.imp fun r e ⟨n, h⟩ => ⟨n, Sr.mv n h (Same.refl _ _) fun g hg => hg.1⟩)
  exact ⟨n, rows, h1, hn⟩
theorem Lst.pm {w : World} {A : Nat → Prop} {v : Value} {l : List PPm} (h : Lst 112 2 LP w A v l) : PmR w A v l := by
  obtain ⟨rows, h1, h2⟩ := h
  have : rows = pmR l := by
    apply List.ext_getElem?
    intro j
    rw [pmR, List.getElem?_map]
    cases hj : l[j]? with
    | none =>
      rw [List.getElem?_eq_none_iff] at hj
      rw [List.getElem?_eq_none (by rw [h2.1]; exact hj)]; rfl
    | some p =>
      have hlt : j < rows.length := by rw [h2.1]; exact (List.getElem?_eq_some_iff.1 hj).1
      have := h2.2 j _ p (List.getElem?_eq_getElem hlt) hj
      rw [List.getElem?_eq_getElem hlt, show rows[j] = _ from this]; rfl
  rw [this] at h1
  exact h1
theorem RE.row {w : World} {A : Nat → Prop} {cs : Array Value} {e : PEx} (h : RE w A (.agg cs) e) : LX w A cs.toList e := by
  obtain ⟨k, r, hr, h2⟩ := h
  cases hr
  exact ⟨k, h2⟩
theorem RSt.row {w : World} {A : Nat → Prop} {cs : Array Value} {e : PSt} (h : RSt w A (.agg cs) e) : LS w A cs.toList e := by
  obtain ⟨k, r, hr, h2⟩ := h
  cases hr
  exact ⟨k, h2⟩
end Go.Proofs.YtcnohgifihbkdaaGreatDoor

namespace Go.Proofs.YtcnohgifihbkdaaGreatDoor
open Go.RowKit Go.Deep Go.Shelf
set_option linter.unusedVariables false
set_option linter.unusedSimpArgs false
set_option maxRecDepth 100000
set_option maxHeartbeats 4000000 in
theorem row_field (w : World) (P D n : Nat) (s : PS) (el : Pr PPm) (HP : Pst w P D s) (hn : n ≤ 10000) (J : ∀ (V : World) (t : PS), Pst V P D t → w.grownBy V (some P) → Fed (el t) → Calls Tryz.prog 78 #[.pointer (some ⟨P, 0, none⟩)] V (Rt RP P D V (el t))) (HF : Fed (rowL el n [] s)) : Calls Tryz.prog 111 #[.pointer (some ⟨P, 0, none⟩), .func (.func 78) #[.pointer (some ⟨P, 0, none⟩)] #[]] w (Rt PmR P D w (rowL el n [] s)) := by
  have HG := World.grownBy.refl w (some P)
  have hPw := HP.lt
  have hD := HP.dw
  have hPD := HP.pd
  have t0 := True.intro
  have J := hid J
  have HF := hid HF
  go_enter Tryz.func111, Tryz.ntmps111
  go_wp2
  go_loopg [5] n (fun g v wr => ∃ (l : List PPm) (t : PS), l.length + g = n ∧ Lst 112 2 LP wr (fun g => w.heap.size ≤ g ∧ g < wr.heap.size) v l ∧ rowL el n [] s = rowL el g l t ∧ Pst wr P D t ∧ w.grownBy wr (some P))
  case atStart => exact ⟨[], s, by simp, Lst.nil _ _ _ _ _, rfl, HP, HG⟩
  case round =>
    obtain ⟨l, t, hlg, HL, ho, HP, HG⟩ := hrel
    cases gk with
    | zero => exact absurd (ho.trans rfl) HF.out
    | succ g =>
      have hb12 : decide (l.length = 12) = ((l.length : Int) == 12) := by rw [Bool.eq_iff_iff]; simp; omega
      have H := hid (show rowL el n [] s = (bd el fun x => bd (maybe [44]) fun b => if b = true then rowL el g (l ++ [x]) else ret (l ++ [x])) { t with sur := ((l.length : Int) == 12) } by rw [← hb12]; exact ho)
      obtain ⟨a5, c5, hv5⟩ := HL.form
      subst hv5
      obtain ⟨g', off, nt, ct, hP', hg', c0, c1, c2, f0, f1, f2, hn', n0, n1, nct, u0, u1, u2⟩ := HP.open
      have HP := HP.sur ((l.length : Int) == 12)
      have hgz := HG.size
      have hPr : P < wr.heap.size := hP'
      have hlI : (l.length : Int) ≤ 10000 := by omega
      have hown : ∀ g, (Value.slice a5 l.length c5).ownBlock = some g → g < wr.heap.size := fun g e => by obtain ⟨rows, ⟨_, q⟩, _⟩ := HL; exact (q g e).2
      have HOW := hid hown
      have HLG := hid hlg
      have HLL := hid HL
      clear hn' hown hlg HL ho hb12
      go_wp2_with (first
        | (have hno := t2; (go_at_call 85; (refine (maybe_any _ _ _ _ _ (by with_reducible repeat first | exact HP | apply pA | refine pS (by omega) ?_)).mono ?_; intro e w4 hrt; rcases hrt.go (W := w) (by with_reducible repeat first | exact HG | apply gA | apply gB | refine gS (by omega) ?_) with ⟨f, hx, rfl, hg⟩ | ⟨b, s4, v, hx, rfl, hv, HP, hGw4, HG, hcw4, hfw4, hzw4, hPw4⟩; exact ⟨rfl, Rt.err (H.out.trans (bd_err hx)) hg⟩; (have hv2 : v = .bool b := hv; subst hv2); have H := hid (H.out.trans (bd_ok hx)); (try simp only [szA, szS] at hzw4); have hleww4 := le1 w w4 (by omega); (try have hltww4 := lt1 w w4 (by omega)); have hlewrw4 := le1 wr w4 (by omega); (try have hltwrw4 := lt1 wr w4 (by omega)); have hlew2w4 := le1 w2 w4 (by omega); (try have hltw2w4 := lt1 w2 w4 (by omega)); have hlew3w4 := le1 w3 w4 (by omega); (try have hltw3w4 := lt1 w3 w4 (by omega)); have t3 := True.intro; skip; cases b)))
        | (have hno := t1; (at_builtin; refine wpList_appL LP_mv LP_row Tryz.underlying49 infoPm rfl (by decide) (by decide) _ w2 _ rfl rfl _ _ rfl _ _ (by rfl) (by rfl) rfl w.heap.size l (HLL.out.mv LP_mv (by repeat (first | (with_reducible exact Same.refl _ _) | ((with_reducible apply Same.alloc); rotate_left; (rintro g ⟨q1, q2⟩; (try simp only [szA, szS]); omega)) | ((with_reducible apply Same.set); rotate_left; (rintro ⟨q1, q2⟩; omega)) | ((with_reducible refine Same.call hGw2 ?_ ?_ ?_); rotate_left; (rintro g ⟨q1, q2⟩; (try simp only [szA, szS]); omega); (rintro ⟨q1, q2⟩; omega)))) (by rintro g ⟨q1, q2⟩; exact ⟨q1, by omega⟩)) (fun _ => False) a rfl (fun g h => h.elim) (by omega) (by omega) ?_; intro v3 w3 h1 h2 h3; have hz3 := h2.size; simp only [World.size_alloc] at hz3; have HP := (HP.alloc _).grown h2 (fun r e => by have := h3 r e; omega); have HG := grown_row (grown_alloc HG _) h2 h3; have HL3 := hid h1; have hP3 := HP.lt; have t2 := True.intro; clear h1 h2 h3))
        | (have hno := t0; (go_at_call 78; (refine (J.out _ _ (by with_reducible repeat first | exact HP | apply pA | refine pS (by omega) ?_) (by with_reducible repeat first | exact HG | apply gA | apply gB | refine gS (by omega) ?_) (fun h => HF.out (H.out.trans (bd_err h)))).mono ?_; intro e w2 hrt; rcases hrt.go (W := w) (by with_reducible repeat first | exact HG | apply gA | apply gB | refine gS (by omega) ?_) with ⟨f, hx, rfl, hg⟩ | ⟨a, s2, v, hx, rfl, hv, HP, hGw2, HG, hcw2, hfw2, hzw2, hPw2⟩; exact ⟨rfl, Rt.err (H.out.trans (bd_err hx)) hg⟩; (have hv2 : v = .agg #[.string (bs a.name), .string (bs a.type)] := hv; subst hv2); have H := hid (H.out.trans (bd_ok hx)); (try simp only [szA, szS] at hzw2); have hleww2 := le1 w w2 (by omega); (try have hltww2 := lt1 w w2 (by omega)); have hlewrw2 := le1 wr w2 (by omega); (try have hltwrw2 := lt1 wr w2 (by omega)); have t1 := True.intro)))
        )
      · go_ret
        exact Rt.ok (H.out.trans rfl) (Lst.pm (HL3.out.mv LP_mv (by repeat (first | (with_reducible exact Same.refl _ _) | ((with_reducible apply Same.alloc); rotate_left; (rintro g ⟨q1, q2⟩; (try simp only [szA, szS]); omega)) | ((with_reducible apply Same.set); rotate_left; (rintro ⟨q1, q2⟩; omega)) | ((with_reducible refine Same.call hGw4 ?_ ?_ ?_); rotate_left; (rintro g ⟨q1, q2⟩; (try simp only [szA, szS]); omega); (rintro ⟨q1, q2⟩; omega)))) (by rintro g ⟨q1, q2⟩; exact ⟨q1, by omega⟩))) HP HG
      · go_roundg g
        case measure => omega
        exact ⟨l ++ [a], s4, by rw [List.length_append]; have := HLG.out; simp; omega, HL3.out.mv LP_mv (by repeat (first | (with_reducible exact Same.refl _ _) | ((with_reducible apply Same.alloc); rotate_left; (rintro g ⟨q1, q2⟩; (try simp only [szA, szS]); omega)) | ((with_reducible apply Same.set); rotate_left; (rintro ⟨q1, q2⟩; omega)) | ((with_reducible refine Same.call hGw4 ?_ ?_ ?_); rotate_left; (rintro g ⟨q1, q2⟩; (try simp only [szA, szS]); omega); (rintro ⟨q1, q2⟩; omega)))) (by rintro g ⟨q1, q2⟩; exact ⟨q1, by omega⟩), H.out.trans rfl, HP, HG⟩
set_option maxHeartbeats 4000000 in
theorem row_param (w : World) (P D n : Nat) (s : PS) (el : Pr PPm) (HP : Pst w P D s) (hn : n ≤ 10000) (J : ∀ (V : World) (t : PS), Pst V P D t → w.grownBy V (some P) → Fed (el t) → Calls Tryz.prog 84 #[.pointer (some ⟨P, 0, none⟩)] V (Rt RP P D V (el t))) (HF : Fed (rowL el n [] s)) : Calls Tryz.prog 111 #[.pointer (some ⟨P, 0, none⟩), .func (.func 84) #[.pointer (some ⟨P, 0, none⟩)] #[]] w (Rt PmR P D w (rowL el n [] s)) := by
  have HG := World.grownBy.refl w (some P)
  have hPw := HP.lt
  have hD := HP.dw
  have hPD := HP.pd
  have t0 := True.intro
  have J := hid J
  have HF := hid HF
  go_enter Tryz.func111, Tryz.ntmps111
  go_wp2
  go_loopg [5] n (fun g v wr => ∃ (l : List PPm) (t : PS), l.length + g = n ∧ Lst 112 2 LP wr (fun g => w.heap.size ≤ g ∧ g < wr.heap.size) v l ∧ rowL el n [] s = rowL el g l t ∧ Pst wr P D t ∧ w.grownBy wr (some P))
  case atStart => exact ⟨[], s, by simp, Lst.nil _ _ _ _ _, rfl, HP, HG⟩
  case round =>
    obtain ⟨l, t, hlg, HL, ho, HP, HG⟩ := hrel
    cases gk with
    | zero => exact absurd (ho.trans rfl) HF.out
    | succ g =>
      have hb12 : decide (l.length = 12) = ((l.length : Int) == 12) := by rw [Bool.eq_iff_iff]; simp; omega
      have H := hid (show rowL el n [] s = (bd el fun x => bd (maybe [44]) fun b => if b = true then rowL el g (l ++ [x]) else ret (l ++ [x])) { t with sur := ((l.length : Int) == 12) } by rw [← hb12]; exact ho)
      obtain ⟨a5, c5, hv5⟩ := HL.form
      subst hv5
      obtain ⟨g', off, nt, ct, hP', hg', c0, c1, c2, f0, f1, f2, hn', n0, n1, nct, u0, u1, u2⟩ := HP.open
      have HP := HP.sur ((l.length : Int) == 12)
      have hgz := HG.size
      have hPr : P < wr.heap.size := hP'
      have hlI : (l.length : Int) ≤ 10000 := by omega
      have hown : ∀ g, (Value.slice a5 l.length c5).ownBlock = some g → g < wr.heap.size := fun g e => by obtain ⟨rows, ⟨_, q⟩, _⟩ := HL; exact (q g e).2
      have HOW := hid hown
      have HLG := hid hlg
      have HLL := hid HL
      clear hn' hown hlg HL ho hb12
      go_wp2_with (first
        | (have hno := t2; (go_at_call 85; (refine (maybe_any _ _ _ _ _ (by with_reducible repeat first | exact HP | apply pA | refine pS (by omega) ?_)).mono ?_; intro e w4 hrt; rcases hrt.go (W := w) (by with_reducible repeat first | exact HG | apply gA | apply gB | refine gS (by omega) ?_) with ⟨f, hx, rfl, hg⟩ | ⟨b, s4, v, hx, rfl, hv, HP, hGw4, HG, hcw4, hfw4, hzw4, hPw4⟩; exact ⟨rfl, Rt.err (H.out.trans (bd_err hx)) hg⟩; (have hv2 : v = .bool b := hv; subst hv2); have H := hid (H.out.trans (bd_ok hx)); (try simp only [szA, szS] at hzw4); have hleww4 := le1 w w4 (by omega); (try have hltww4 := lt1 w w4 (by omega)); have hlewrw4 := le1 wr w4 (by omega); (try have hltwrw4 := lt1 wr w4 (by omega)); have hlew2w4 := le1 w2 w4 (by omega); (try have hltw2w4 := lt1 w2 w4 (by omega)); have hlew3w4 := le1 w3 w4 (by omega); (try have hltw3w4 := lt1 w3 w4 (by omega)); have t3 := True.intro; skip; cases b)))
        | (have hno := t1; (at_builtin; refine wpList_appL LP_mv LP_row Tryz.underlying49 infoPm rfl (by decide) (by decide) _ w2 _ rfl rfl _ _ rfl _ _ (by rfl) (by rfl) rfl w.heap.size l (HLL.out.mv LP_mv (by repeat (first | (with_reducible exact Same.refl _ _) | ((with_reducible apply Same.alloc); rotate_left; (rintro g ⟨q1, q2⟩; (try simp only [szA, szS]); omega)) | ((with_reducible apply Same.set); rotate_left; (rintro ⟨q1, q2⟩; omega)) | ((with_reducible refine Same.call hGw2 ?_ ?_ ?_); rotate_left; (rintro g ⟨q1, q2⟩; (try simp only [szA, szS]); omega); (rintro ⟨q1, q2⟩; omega)))) (by rintro g ⟨q1, q2⟩; exact ⟨q1, by omega⟩)) (fun _ => False) a rfl (fun g h => h.elim) (by omega) (by omega) ?_; intro v3 w3 h1 h2 h3; have hz3 := h2.size; simp only [World.size_alloc] at hz3; have HP := (HP.alloc _).grown h2 (fun r e => by have := h3 r e; omega); have HG := grown_row (grown_alloc HG _) h2 h3; have HL3 := hid h1; have hP3 := HP.lt; have t2 := True.intro; clear h1 h2 h3))
        | (have hno := t0; (go_at_call 84; (refine (J.out _ _ (by with_reducible repeat first | exact HP | apply pA | refine pS (by omega) ?_) (by with_reducible repeat first | exact HG | apply gA | apply gB | refine gS (by omega) ?_) (fun h => HF.out (H.out.trans (bd_err h)))).mono ?_; intro e w2 hrt; rcases hrt.go (W := w) (by with_reducible repeat first | exact HG | apply gA | apply gB | refine gS (by omega) ?_) with ⟨f, hx, rfl, hg⟩ | ⟨a, s2, v, hx, rfl, hv, HP, hGw2, HG, hcw2, hfw2, hzw2, hPw2⟩; exact ⟨rfl, Rt.err (H.out.trans (bd_err hx)) hg⟩; (have hv2 : v = .agg #[.string (bs a.name), .string (bs a.type)] := hv; subst hv2); have H := hid (H.out.trans (bd_ok hx)); (try simp only [szA, szS] at hzw2); have hleww2 := le1 w w2 (by omega); (try have hltww2 := lt1 w w2 (by omega)); have hlewrw2 := le1 wr w2 (by omega); (try have hltwrw2 := lt1 wr w2 (by omega)); have t1 := True.intro)))
        )
      · go_ret
        exact Rt.ok (H.out.trans rfl) (Lst.pm (HL3.out.mv LP_mv (by repeat (first | (with_reducible exact Same.refl _ _) | ((with_reducible apply Same.alloc); rotate_left; (rintro g ⟨q1, q2⟩; (try simp only [szA, szS]); omega)) | ((with_reducible apply Same.set); rotate_left; (rintro ⟨q1, q2⟩; omega)) | ((with_reducible refine Same.call hGw4 ?_ ?_ ?_); rotate_left; (rintro g ⟨q1, q2⟩; (try simp only [szA, szS]); omega); (rintro ⟨q1, q2⟩; omega)))) (by rintro g ⟨q1, q2⟩; exact ⟨q1, by omega⟩))) HP HG
      · go_roundg g
        case measure => omega
        exact ⟨l ++ [a], s4, by rw [List.length_append]; have := HLG.out; simp; omega, HL3.out.mv LP_mv (by repeat (first | (with_reducible exact Same.refl _ _) | ((with_reducible apply Same.alloc); rotate_left; (rintro g ⟨q1, q2⟩; (try simp only [szA, szS]); omega)) | ((with_reducible apply Same.set); rotate_left; (rintro ⟨q1, q2⟩; omega)) | ((with_reducible refine Same.call hGw4 ?_ ?_ ?_); rotate_left; (rintro g ⟨q1, q2⟩; (try simp only [szA, szS]); omega); (rintro ⟨q1, q2⟩; omega)))) (by rintro g ⟨q1, q2⟩; exact ⟨q1, by omega⟩), H.out.trans rfl, HP, HG⟩
set_option maxHeartbeats 4000000 in
theorem row_expr (w : World) (P D n : Nat) (s : PS) (el : Pr PEx) (HP : Pst w P D s) (hn : n ≤ 10000) (J : ∀ (V : World) (t : PS), Pst V P D t → w.grownBy V (some P) → Fed (el t) → Calls Tryz.prog 205 #[.pointer (some ⟨P, 0, none⟩)] V (Rt RE P D V (el t))) (HF : Fed (rowL el n [] s)) : Calls Tryz.prog 236 #[.pointer (some ⟨P, 0, none⟩), .func (.func 205) #[.pointer (some ⟨P, 0, none⟩)] #[]] w (Rt XsR P D w (rowL el n [] s)) := by
  have HG := World.grownBy.refl w (some P)
  have hPw := HP.lt
  have hD := HP.dw
  have hPD := HP.pd
  have t0 := True.intro
  have J := hid J
  have HF := hid HF
  go_enter Tryz.func236, Tryz.ntmps236
  go_wp2
  go_loopg [5] n (fun g v wr => ∃ (l : List PEx) (t : PS), l.length + g = n ∧ Lst 45 8 LX wr (fun g => w.heap.size ≤ g ∧ g < wr.heap.size) v l ∧ rowL el n [] s = rowL el g l t ∧ Pst wr P D t ∧ w.grownBy wr (some P))
  case atStart => exact ⟨[], s, by simp, Lst.nil _ _ _ _ _, rfl, HP, HG⟩
  case round =>
    obtain ⟨l, t, hlg, HL, ho, HP, HG⟩ := hrel
    cases gk with
    | zero => exact absurd (ho.trans rfl) HF.out
    | succ g =>
      have hb12 : decide (l.length = 12) = ((l.length : Int) == 12) := by rw [Bool.eq_iff_iff]; simp; omega
      have H := hid (show rowL el n [] s = (bd el fun x => bd (maybe [44]) fun b => if b = true then rowL el g (l ++ [x]) else ret (l ++ [x])) { t with sur := ((l.length : Int) == 12) } by rw [← hb12]; exact ho)
      obtain ⟨a5, c5, hv5⟩ := HL.form
      subst hv5
      obtain ⟨g', off, nt, ct, hP', hg', c0, c1, c2, f0, f1, f2, hn', n0, n1, nct, u0, u1, u2⟩ := HP.open
      have HP := HP.sur ((l.length : Int) == 12)
      have hgz := HG.size
      have hPr : P < wr.heap.size := hP'
      have hlI : (l.length : Int) ≤ 10000 := by omega
      have hown : ∀ g, (Value.slice a5 l.length c5).ownBlock = some g → g < wr.heap.size := fun g e => by obtain ⟨rows, ⟨_, q⟩, _⟩ := HL; exact (q g e).2
      have HOW := hid hown
      have HLG := hid hlg
      have HLL := hid HL
      clear hn' hown hlg HL ho hb12
      go_wp2_with (first
        | (have hno := t2; (go_at_call 85; (refine (maybe_any _ _ _ _ _ (by with_reducible repeat first | exact HP | apply pA | refine pS (by omega) ?_)).mono ?_; intro e w4 hrt; rcases hrt.go (W := w) (by with_reducible repeat first | exact HG | apply gA | apply gB | refine gS (by omega) ?_) with ⟨f, hx, rfl, hg⟩ | ⟨b, s4, v, hx, rfl, hv, HP, hGw4, HG, hcw4, hfw4, hzw4, hPw4⟩; exact ⟨rfl, Rt.err (H.out.trans (bd_err hx)) hg⟩; (have hv2 : v = .bool b := hv; subst hv2); have H := hid (H.out.trans (bd_ok hx)); (try simp only [szA, szS] at hzw4); have hleww4 := le1 w w4 (by omega); (try have hltww4 := lt1 w w4 (by omega)); have hlewrw4 := le1 wr w4 (by omega); (try have hltwrw4 := lt1 wr w4 (by omega)); have hlew2w4 := le1 w2 w4 (by omega); (try have hltw2w4 := lt1 w2 w4 (by omega)); have hlew3w4 := le1 w3 w4 (by omega); (try have hltw3w4 := lt1 w3 w4 (by omega)); have t3 := True.intro; skip; cases b)))
        | (have hno := t1; (at_builtin; refine wpList_appL LX_mv LX_row Tryz.underlying43 infoX rfl (by decide) (by decide) _ w2 _ rfl rfl _ _ rfl _ _ (by rfl) (by rfl) rfl w.heap.size l (HLL.out.mv LX_mv (by repeat (first | (with_reducible exact Same.refl _ _) | ((with_reducible apply Same.alloc); rotate_left; (rintro g ⟨q1, q2⟩; (try simp only [szA, szS]); omega)) | ((with_reducible apply Same.set); rotate_left; (rintro ⟨q1, q2⟩; omega)) | ((with_reducible refine Same.call hGw2 ?_ ?_ ?_); rotate_left; (rintro g ⟨q1, q2⟩; (try simp only [szA, szS]); omega); (rintro ⟨q1, q2⟩; omega)))) (by rintro g ⟨q1, q2⟩; exact ⟨q1, by omega⟩)) _ a (RE.row hE) (by rintro g ⟨q1, q2⟩; (try simp only [World.size_setCell] at q1); exact ⟨by omega, q2, fun e => by have := HOW.out g e; omega⟩) (by omega) (by omega) ?_; intro v3 w3 h1 h2 h3; have hz3 := h2.size; simp only [World.size_alloc] at hz3; have HP := (HP.alloc _).grown h2 (fun r e => by have := h3 r e; omega); have HG := grown_row (grown_alloc HG _) h2 h3; have HL3 := hid h1; have hP3 := HP.lt; have t2 := True.intro; clear h1 h2 h3))
        | (have hno := t0; (go_at_call 205; (refine (J.out _ _ (by with_reducible repeat first | exact HP | apply pA | refine pS (by omega) ?_) (by with_reducible repeat first | exact HG | apply gA | apply gB | refine gS (by omega) ?_) (fun h => HF.out (H.out.trans (bd_err h)))).mono ?_; intro e w2 hrt; rcases hrt.go (W := w) (by with_reducible repeat first | exact HG | apply gA | apply gB | refine gS (by omega) ?_) with ⟨f, hx, rfl, hg⟩ | ⟨a, s2, v, hx, rfl, hv, HP, hGw2, HG, hcw2, hfw2, hzw2, hPw2⟩; exact ⟨rfl, Rt.err (H.out.trans (bd_err hx)) hg⟩; (obtain ⟨na, nn, nc, aa, an, ac, es, rfl, hN, hX, hA⟩ := hv.parts; have hE := hv); have H := hid (H.out.trans (bd_ok hx)); (try simp only [szA, szS] at hzw2); have hleww2 := le1 w w2 (by omega); (try have hltww2 := lt1 w w2 (by omega)); have hlewrw2 := le1 wr w2 (by omega); (try have hltwrw2 := lt1 wr w2 (by omega)); have t1 := True.intro)))
        )
      · go_ret
        exact Rt.ok (H.out.trans rfl) (Lst.xs (HL3.out.mv LX_mv (by repeat (first | (with_reducible exact Same.refl _ _) | ((with_reducible apply Same.alloc); rotate_left; (rintro g ⟨q1, q2⟩; (try simp only [szA, szS]); omega)) | ((with_reducible apply Same.set); rotate_left; (rintro ⟨q1, q2⟩; omega)) | ((with_reducible refine Same.call hGw4 ?_ ?_ ?_); rotate_left; (rintro g ⟨q1, q2⟩; (try simp only [szA, szS]); omega); (rintro ⟨q1, q2⟩; omega)))) (by rintro g ⟨q1, q2⟩; exact ⟨q1, by omega⟩))) HP HG
      · go_roundg g
        case measure => omega
        exact ⟨l ++ [a], s4, by rw [List.length_append]; have := HLG.out; simp; omega, HL3.out.mv LX_mv (by repeat (first | (with_reducible exact Same.refl _ _) | ((with_reducible apply Same.alloc); rotate_left; (rintro g ⟨q1, q2⟩; (try simp only [szA, szS]); omega)) | ((with_reducible apply Same.set); rotate_left; (rintro ⟨q1, q2⟩; omega)) | ((with_reducible refine Same.call hGw4 ?_ ?_ ?_); rotate_left; (rintro g ⟨q1, q2⟩; (try simp only [szA, szS]); omega); (rintro ⟨q1, q2⟩; omega)))) (by rintro g ⟨q1, q2⟩; exact ⟨q1, by omega⟩), H.out.trans rfl, HP, HG⟩
end Go.Proofs.YtcnohgifihbkdaaGreatDoor

