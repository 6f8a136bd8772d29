/- Rows of numbers that a function grows, cuts and writes into. -/
import Derived.Test.YtenfgahedbeekaaE2
namespace Go.Proofs.Ytenfgahedbeekaa
open Go.RowKit Go.Deep Go.Shelf
set_option linter.unusedVariables false
set_option linter.unusedSimpArgs false

def iv (xs : List Int) : List Value := xs.map fun x => .int .i64 x
theorem iv_one (xs : List Int) : ∀ u ∈ iv xs, u.oneCell' = true := by
  intro u hu
  simp only [iv, List.mem_map] at hu
  obtain ⟨x, _, rfl⟩ := hu
  rfl
structure GRow (w : World) (B : Nat) (a : Option Addr) (n cap : Nat) (xs : List Int) : Prop where
  n1 : n = xs.length
  nc : n ≤ cap
  at' : ∀ x : Addr, a = some x → ∃ g, x = ⟨g, 0, none⟩ ∧ B ≤ g ∧ g < w.heap.size
  ct : 0 < cap → ∃ g cur, a = some ⟨g, 0, none⟩ ∧ w.heap[g]? = some (.cells cur 2 (0, 0)) ∧ cap ≤ cur.size ∧ cur.toList.take n = iv xs
theorem GRow.nil (w : World) (B : Nat) : GRow w B none 0 0 [] := ⟨rfl, Nat.le_refl _, fun x e => (by cases e), fun h => (by omega)⟩
theorem GRow.keep {w w' : World} {B : Nat} {a : Option Addr} {n cap : Nat} {xs : List Int} (h : GRow w B a n cap xs) (hs : w.heap.size ≤ w'.heap.size) (e : ∀ x : Addr, a = some x → w'.heap[x.block]? = w.heap[x.block]?) : GRow w' B a n cap xs := by
  refine ⟨h.n1, h.nc, fun x ex => ?_, fun hc => ?_⟩
  · obtain ⟨g, h1, h2, h3⟩ := h.at' x ex
    exact ⟨g, h1, h2, by omega⟩
  · obtain ⟨g, cur, rfl, h2, h3⟩ := h.ct hc
    exact ⟨g, cur, rfl, (e _ rfl).trans h2, h3⟩
theorem GRow.below {w w' : World} {B C : Nat} {a : Option Addr} {n cap : Nat} {xs : List Int} (h : GRow w B a n cap xs) (hC : w.heap.size ≤ C) (hb : Below C w w') : GRow w' B a n cap xs :=
  h.keep hb.size (fun x ex => by
    obtain ⟨g, rfl, h2, h3⟩ := h.at' x ex
    exact hb.block _ (by show g < C; omega))
theorem GRow.cell {w : World} {B : Nat} {a : Option Addr} {n cap : Nat} {xs : List Int} (h : GRow w B a n cap xs) {j : Nat} {x : Int} (hj : xs[j]? = some x) : ∃ g, a = some ⟨g, 0, none⟩ ∧ B ≤ g ∧ w.cell? ⟨g, j, none⟩ = some (.int .i64 x) ∧ w.frozen? ⟨g, j, none⟩ = false := by
  have hlt := (List.getElem?_eq_some_iff.1 hj).1
  have hc : 0 < cap := by have := h.n1; have := h.nc; omega
  obtain ⟨g, cur, rfl, h2, h3, h4⟩ := h.ct hc
  obtain ⟨g', e, hB, _⟩ := h.at' _ rfl
  cases e
  refine ⟨g, rfl, hB, ?_, freeOf h2 j⟩
  rw [cellOf h2 j]
  have h5 : (iv xs)[j]? = some (.int .i64 x) := by unfold iv; rw [List.getElem?_map, hj]; rfl
  rw [← h5, ← h4, List.getElem?_take, if_pos (by have := h.n1; omega)]
  simp
theorem GRow.set {w : World} {B : Nat} {n cap : Nat} {xs : List Int} {g : Nat} (h : GRow w B (some ⟨g, 0, none⟩) n cap xs) (j : Nat) (hj : j < n) (v : Int) : GRow (w.setCell ⟨g, j, none⟩ (.int .i64 v)) B (some ⟨g, 0, none⟩) n cap (xs.set j v) := by
  refine ⟨by rw [List.length_set]; exact h.n1, h.nc, fun x ex => ?_, fun hc => ?_⟩
  · obtain ⟨g', h1, h2, h3⟩ := h.at' x ex
    exact ⟨g', h1, h2, by simp [World.setCell]; omega⟩
  · obtain ⟨g', cur, e, h2, h3, h4⟩ := h.ct hc
    cases e
    refine ⟨g, _, rfl, heap_set_at h2 j (.int .i64 v), by simpa using h3, ?_⟩
    rw [Array.toList_setIfInBounds, List.take_set, h4]
    unfold iv
    rw [List.map_set]
theorem info2 : (Try.prog.info? 2).map (fun i => (i.zero, i.size, i.bytes)) = some (some (.int .i64 0), 1, 8) := by kernel_rfl
theorem GRow.of_owns {w : World} {B : Nat} {v : Value} {n : Nat} {xs : List Int} (h : w.ownsRow B 2 1 v n (iv xs)) (hn : 0 < n) : ∃ g cap, v = .slice (some ⟨g, 0, none⟩) n cap ∧ B ≤ g ∧ GRow w B (some ⟨g, 0, none⟩) n cap xs := by
  have hl := h.1
  rcases h.2 with ⟨_, h0⟩ | ⟨g, cap, cur, rfl, hb, hgg, hc, hm, hs, ht⟩
  · omega
  · refine ⟨g, cap, rfl, hb, ⟨by unfold iv at hl; rw [List.length_map] at hl; omega, hc, fun x ex => ?_, fun _ => ⟨g, cur, rfl, hgg, by omega, by rw [Nat.mul_one] at ht; exact ht⟩⟩⟩
    cases ex
    exact ⟨g, rfl, hb, (Array.getElem?_eq_some_iff.1 hgg).1⟩
theorem GRow.cells {w : World} {B : Nat} {ad : Addr} {n cap : Nat} {xs : List Int} (h : GRow w B (some ad) n cap xs) (d : Nat) : ∀ j u, (iv (xs.drop d))[j]? = some u → w.cell? ((ad.add d).add j) = some u := by
  intro j u hu
  unfold iv at hu
  rw [List.getElem?_map, Option.map_eq_some_iff] at hu
  obtain ⟨x, hx, rfl⟩ := hu
  rw [List.getElem?_drop] at hx
  obtain ⟨g, e, _, hc, _⟩ := h.cell hx
  cases e
  rw [Addr.add_lit, Addr.add_lit, Nat.zero_add]
  exact hc
/- What append leaves: a row, in place or new. -/
def Gwn (w : World) (a : Option Addr) (w' : World) (a' : Option Addr) : Prop := (∃ row, w.grownBy w' row ∧ ∀ b, row = some b → ∃ x : Addr, a = some x ∧ x.block = b) ∧ (a' = a ∨ ∃ g, a' = some ⟨g, 0, none⟩ ∧ w.heap.size ≤ g)
theorem run_app1 (w : World) (ty : TypeId) (B : Nat) (a : Option Addr) (n cap : Nat) (xs : List Int) (x : Int) (q : Nat) (h : GRow w B a n cap xs) (hq : w.heap[q]? = some (.cells #[.int .i64 x] 2 (0, 0))) (hn : n ≤ 1000) (hB : B ≤ w.heap.size) :
    ∃ a' cap' w', (Builtin.append_ #[67, 67] ty #[.slice a n cap, .slice (some ⟨q, 0, none⟩) 1 1]).run Try.prog w = .ok (.slice a' (n + 1) cap') w' ∧ GRow w' B a' (n + 1) cap' (xs ++ [x]) ∧ Gwn w a w' a' := by
  obtain ⟨i0, hi, hz0, hz1, hz2⟩ := info_parts info2
  have hnews : ∀ j u, [Value.int .i64 x][j]? = some u → w.cell? ((⟨q, 0, none⟩ : Addr).add j) = some u := by
    intro j u hu
    exact World.news_of_block hq j u (by simpa using hu)
  by_cases hroom : n + 1 ≤ cap
  · obtain ⟨g, cur, rfl, h2, h3, h4⟩ := h.ct (by omega)
    have hlt : n < cur.size := by omega
    have hr := run_append_room_cells (P := Try.prog) w 67 ty 2 i0 Try.underlying67 hi g 0 n cap ⟨q, 0, none⟩ 1 1 [.int .i64 x] (by rw [hz1]; rfl) hnews (by intro u hu; simp at hu; subst hu; rfl) hroom (by
      intro j hj
      have hj0 : j = 0 := by simpa using hj
      subst hj0
      rw [hz1, cellOf h2]
      simp; omega) (by intro j _; exact freeOf h2 _)
    rw [hz1] at hr
    refine ⟨_, _, _, hr, ?_, ⟨some g, ?_, fun b e => ⟨_, rfl, by cases e; rfl⟩⟩, .inl rfl⟩
    · have hh : (w.setCells g (0 + n * 1) [.int .i64 x]) = w.setCell ⟨g, n, none⟩ (.int .i64 x) := by
        simp [World.setCells]
      rw [hh]
      refine ⟨by rw [List.length_append, h.n1]; rfl, hroom, fun y ey => ?_, fun _ => ⟨g, _, rfl, heap_set_at h2 n (.int .i64 x), by simpa using (by omega), ?_⟩⟩
      · obtain ⟨g', e1, e2, e3⟩ := h.at' y ey
        exact ⟨g', e1, e2, by simp [World.setCell]; omega⟩
      · rw [Array.toList_setIfInBounds]
        unfold iv at h4 ⊢
        rw [List.map_append, ← h4]
        rw [List.take_add_one, List.take_set_of_le (Nat.le_refl _)]
        rw [List.getElem?_set_self (by simpa using hlt)]
        rfl
    · have hh : (w.setCells g (0 + n * 1) [.int .i64 x]) = w.setCell ⟨g, n, none⟩ (.int .i64 x) := by
        simp [World.setCells]
      rw [hh]
      exact ⟨rfl, rfl, rfl, by simp [World.setCell], fun i hi hne => Below.heap_setCell _ _ _ _ (fun e => hne (by rw [e]))⟩
  · have hcap : cap = n := by have := h.nc; omega
    cases a with
    | none =>
      have hc0 : cap = 0 := by
        rcases Nat.eq_zero_or_pos cap with h0 | h0
        · exact h0
        · obtain ⟨g, cur, e, _⟩ := h.ct h0; cases e
      have hn0 : n = 0 := by omega
      have hxs : xs = [] := List.eq_nil_of_length_eq_zero (by rw [← h.n1]; exact hn0)
      subst hc0
      subst hn0
      subst hxs
      obtain ⟨v', w', hrun, hown, hgr, _, hat⟩ := run_append_own_at (P := Try.prog) w B 67 ty 2 i0 (.int .i64 0) 1 8 Try.underlying67 hi hz0 hz1 hz2 rfl (by decide) (.slice none 0 0) 0 [] (World.ownsRow_nil _ _ _ _) ⟨q, 0, none⟩ 1 1 [.int .i64 x] rfl hnews (by intro u hu; simp at hu; subst hu; rfl) (by unfold maxLen; omega) (by omega) hB
      obtain ⟨g, cap', rfl, hg1, hg2⟩ := GRow.of_owns (xs := [x]) (by simpa [iv] using hown) (by omega)
      refine ⟨_, _, _, hrun, hg2, ⟨none, hgr, fun b e => by cases e⟩, .inr ⟨g, rfl, ?_⟩⟩
      rcases hat with h1 | h1
      · cases h1
      · cases h1; exact Nat.le_refl _
    | some ad =>
      have hro := run_append_arg_grows (P := Try.prog) w 67 ty 2 i0 (.int .i64 0) 1 8 Try.underlying67 hi hz0 hz1 hz2 rfl (by decide) ad n cap (iv xs) (by unfold iv; rw [List.length_map, ← h.n1, Nat.mul_one]) (by
        have := h.cells 0
        obtain ⟨g, e, _⟩ := h.at' _ rfl
        subst e
        simpa [Addr.add_lit] using this) ⟨q, 0, none⟩ 1 1 [.int .i64 x] rfl hnews (by omega) (by unfold maxLen; omega) (by omega)
      obtain ⟨v', w', hrun, hown, hgr⟩ := hro
      obtain ⟨g, cap', rfl, hg1, hg2⟩ := GRow.of_owns (xs := xs ++ [x]) (by simpa [iv] using hown) (by omega)
      refine ⟨_, _, _, hrun, ⟨hg2.n1, hg2.nc, fun y ey => ?_, hg2.ct⟩, ⟨none, hgr, fun b e => by cases e⟩, .inr ⟨g, rfl, hg1⟩⟩
      obtain ⟨g', e1, e2, e3⟩ := hg2.at' y ey
      exact ⟨g', e1, by omega, e3⟩
theorem run_cutG (w : World) (ty : TypeId) (B : Nat) (a : Option Addr) (n cap k : Nat) (xs : List Int) (h : GRow w B a n cap xs) (hn : n ≤ 1000) (hk : k < n) (hB : B ≤ w.heap.size) :
    ∃ a' cap' w', (Builtin.append_ #[67, 67] ty #[.slice a k k, sliced a (k + 1) n cap 1]).run Try.prog w = .ok (.slice a' (n - 1) cap') w' ∧ GRow w' B a' (n - 1) cap' (xs.take k ++ xs.drop (k + 1)) ∧ w.grownBy w' none ∧ (a' = a ∨ ∃ g, a' = some ⟨g, 0, none⟩ ∧ w.heap.size ≤ g) := by
  obtain ⟨i0, hi, hz0, hz1, hz2⟩ := info_parts info2
  obtain ⟨g, cur, rfl, h2, h3, h4⟩ := h.ct (by have := h.nc; omega)
  have hlx := h.n1
  have hnc := h.nc
  have hold : ∀ j u, (iv (xs.take k))[j]? = some u → w.cell? ((⟨g, 0, none⟩ : Addr).add j) = some u := by
    intro j u hu
    unfold iv at hu
    rw [List.getElem?_map, Option.map_eq_some_iff] at hu
    obtain ⟨x, hx, rfl⟩ := hu
    rw [List.getElem?_take] at hx
    split at hx
    · obtain ⟨g', e, _, hc, _⟩ := h.cell hx
      cases e
      rw [Addr.add_lit, Nat.zero_add]
      exact hc
    · cases hx
  have hg0 : w.grownBy w none := ⟨rfl, rfl, rfl, Nat.le_refl _, fun _ _ _ => rfl⟩
  have hlo : (iv (xs.take k)).length = k * 1 := by unfold iv; rw [List.length_map, List.length_take]; omega
  have fin : ∀ (a2 : Addr) (c2 : Nat), (∀ j u, (iv (xs.drop (k + 1)))[j]? = some u → w.cell? (a2.add j) = some u) → ∃ a' cap' w', (Builtin.append_ #[67, 67] ty #[.slice (some ⟨g, 0, none⟩) k k, .slice (some a2) (n - (k + 1)) c2]).run Try.prog w = .ok (.slice a' (n - 1) cap') w' ∧ GRow w' B a' (n - 1) cap' (xs.take k ++ xs.drop (k + 1)) ∧ w.grownBy w' none ∧ (a' = some ⟨g, 0, none⟩ ∨ ∃ g', a' = some ⟨g', 0, none⟩ ∧ w.heap.size ≤ g') := by
    intro a2 c2 hcell
    have hln : (iv (xs.drop (k + 1))).length = (n - (k + 1)) * 1 := by unfold iv; rw [List.length_map, List.length_drop]; omega
    by_cases hm : n - (k + 1) = 0
    · have hdr : xs.drop (k + 1) = [] := List.drop_of_length_le (by omega)
      have hr := run_append_room_cells (P := Try.prog) w 67 ty 2 i0 Try.underlying67 hi g 0 k k a2 (n - (k + 1)) c2 [] (by rw [hm]; simp) (by intro j u hu; simp at hu) (by simp) (by omega) (by simp) (by simp)
      rw [show k + (n - (k + 1)) = n - 1 from by omega] at hr
      refine ⟨_, _, w, hr, ⟨by rw [hdr, List.append_nil, List.length_take]; omega, by omega, h.at', fun _ => ⟨g, cur, rfl, h2, by omega, ?_⟩⟩, hg0, .inl rfl⟩
      rw [hdr, List.append_nil]
      have e1 : n - 1 = k := by omega
      rw [e1]
      have := congrArg (List.take k) h4
      rw [List.take_take, Nat.min_eq_left (by omega)] at this
      rw [this]
      unfold iv
      rw [List.map_take]
    · obtain ⟨v', w', hrun, hown, hgr⟩ := run_append_arg_grows (P := Try.prog) w 67 ty 2 i0 (.int .i64 0) 1 8 Try.underlying67 hi hz0 hz1 hz2 rfl (by decide) ⟨g, 0, none⟩ k k (iv (xs.take k)) hlo hold a2 (n - (k + 1)) c2 (iv (xs.drop (k + 1))) hln hcell (by omega) (by unfold maxLen; omega) (by omega)
      have e1 : k + (n - (k + 1)) = n - 1 := by omega
      rw [e1] at hown
      obtain ⟨g', cap', rfl, hg1, hg2⟩ := GRow.of_owns (xs := xs.take k ++ xs.drop (k + 1)) (by unfold iv at hown ⊢; rw [List.map_append]; exact hown) (by omega)
      refine ⟨_, _, _, hrun, ⟨hg2.n1, hg2.nc, fun y ey => ?_, hg2.ct⟩, hgr, .inr ⟨g', rfl, hg1⟩⟩
      obtain ⟨g'', f1, f2, f3⟩ := hg2.at' y ey
      exact ⟨g'', f1, by omega, f3⟩
  unfold sliced
  by_cases hcd : cap = k + 1
  · rw [if_pos hcd]
    refine fin ⟨g, 0, none⟩ _ ?_
    have : xs.drop (k + 1) = [] := List.drop_of_length_le (by have := h.nc; omega)
    rw [this]
    intro j u hu
    simp [iv] at hu
  · rw [if_neg hcd]
    refine fin _ _ ?_
    have := h.cells (k + 1)
    simpa using this
theorem wpList_app1 {ops : Array Oper} {rest : List Oper} {o : Oper} {a : Act} {Q : Exit → Act → World → Prop} (w : World) (hgd : o.guard = none) (s x : Operand)
    (ho : o.op = .call { callee := .builtin .append, args := #[s, x], argTypes := #[67, 67] }) (v : Option Addr) (n cap : Nat) (y : Int) (hs : a.eval s = .slice v n cap) (hx : a.eval x = .slice (some ⟨w.heap.size, 0, none⟩) 1 1)
    (B : Nat) (xs : List Int) (hr : GRow w B v n cap xs) (hn : n ≤ 1000) (hB : B ≤ w.heap.size)
    (k : ∀ v' cap' w', GRow w' B v' (n + 1) cap' (xs ++ [y]) → Gwn (w.alloc (.cells #[.int .i64 y] 2)) v w' v' → wpList Try.prog ops Q rest (a.put o.dst (.slice v' (n + 1) cap')) w') :
    wpList Try.prog ops Q (o :: rest) a (w.alloc (.cells #[.int .i64 y] 2)) := by
  refine wpList_plain hgd fun K hK => ?_
  obtain ⟨v', c', w', hrun, h2, h3⟩ := run_app1 _ o.type B v n cap xs y w.heap.size (hr.below (Nat.le_refl _) ((Below.refl _ w).alloc (Nat.le_refl _) _)) (heap_alloc_new w _) hn (by simp; omega)
  unfold Oper.wp execOp
  simp only [ho, resolve, invoke, builtin, Sem.run_bind, Sem.run_pure, Result.andThen_ok, List.map_toArray, List.map_cons, List.map_nil, hs, hx, hrun]
  exact hK _ _ (k v' c' w' h2 h3)
theorem step_cutG {ops : Array Oper} {o : Oper} {a : Act} {w : World} {K : Act → World → Prop} {Q : Exit → Act → World → Prop} {E : Prop} (hgd : o.guard = none) (s x : Operand)
    (ho : o.op = .call { callee := .builtin .append, args := #[s, x], argTypes := #[67, 67] }) (sv xv : Value) (hs : a.eval s = sv) (hx : a.eval x = xv)
    (B : Nat) (v : Option Addr) (n cap k : Nat) (hsv : sv = .slice v k k) (hxv : xv = sliced v (k + 1) n cap 1) (xs : List Int) (hr : GRow w B v n cap xs) (hn : n ≤ 1000) (hk : k < n) (hB : B ≤ w.heap.size)
    (kk : ∀ v' cap' w', GRow w' B v' (n - 1) cap' (xs.take k ++ xs.drop (k + 1)) → w.grownBy w' none → (v' = v ∨ ∃ g, v' = some ⟨g, 0, none⟩ ∧ w.heap.size ≤ g) → K (a.put o.dst (.slice v' (n - 1) cap')) w') :
    if Region.wanted o (yielded ops a.tmps) = true then Oper.wp Try.prog o a w K Q else E := by
  have hw : Region.wanted o (yielded ops a.tmps) = true := by simp [Region.wanted, hgd]
  rw [if_pos hw]
  subst hsv
  subst hxv
  obtain ⟨v', c', w', hrun, h2, h3, h4⟩ := run_cutG w o.type B v n cap k xs hr hn hk hB
  unfold Oper.wp execOp
  simp only [ho, resolve, invoke, builtin, Sem.run_bind, Sem.run_pure, Result.andThen_ok, List.map_toArray, List.map_cons, List.map_nil, hs, hx, hrun]
  exact kk v' c' w' h2 h3 h4
end Go.Proofs.Ytenfgahedbeekaa
