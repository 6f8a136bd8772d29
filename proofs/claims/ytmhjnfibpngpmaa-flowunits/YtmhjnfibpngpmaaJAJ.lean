/- Rows of cells that a call owns, of whatever element; strings.Clone. -/
import Derived.Test.YtmhjnfibpngpmaaJAI
import Derived.Shelf.Strconv.Clone
namespace Go.Proofs
open Go.Shelf
def Try.laysM316_ren : Go.Shelf.Ren := ⟨fun | 316 => 122 | n => n, fun | 9 => 9 | 3 => 3 | 4 => 4 | 37 => 27 | 0 => 0 | 127 => 229 | 5 => 5 | n => n, fun | n => n⟩
theorem Try.laysM316 : Go.Proofs.LaysM.n316 Try.prog Try.laysM316_ren := {
  mixed := by kernel_rfl
  f316 := Try.func122.trans (congrArg some (by kernel_rfl))
  t0 := Try.underlying0
  a0 := Try.isAgg0
  z0 := Try.sizeOf0
  v0 := Try.zeroValue0
  t3 := Try.underlying3
  a3 := Try.isAgg3
  z3 := Try.sizeOf3
  v3 := Try.zeroValue3
  t4 := Try.underlying4
  a4 := Try.isAgg4
  z4 := Try.sizeOf4
  v4 := Try.zeroValue4
  t9 := Try.underlying9
  a9 := Try.isAgg9
  z9 := Try.sizeOf9
  v9 := Try.zeroValue9
  t37 := Try.underlying27
  a37 := Try.isAgg27
  z37 := Try.sizeOf27
  v37 := Try.zeroValue27
  t127 := Try.underlying229
  a127 := Try.isAgg229
  z127 := Try.sizeOf229
  v127 := Try.zeroValue229
  t5 := Try.underlying5
  a5 := Try.isAgg5
  z5 := Try.sizeOf5
  v5 := Try.zeroValue5
  i0 := by kernel_rfl
  i3 := by kernel_rfl
  i4 := by kernel_rfl
  i5 := by kernel_rfl
  i9 := by kernel_rfl
  i37 := by kernel_rfl
  i127 := by kernel_rfl }
open Go.RowKit in
theorem Try.stringslite_Clone (s : ByteArray) (w : World) (hlim : s.size ≤ 281474976710656) :
    Calls Try.prog 122 #[.string s] w fun e w' => e = .returned (.string s) ∧ Below w.heap.size w w' := Any.stringslite_Clone Try.laysM316 s w hlim
end Go.Proofs
namespace Go.Proofs.Ytmhjnfibpngpmaa
open Go.RowKit Go.Deep Go.Shelf
set_option linter.unusedVariables false
set_option linter.unusedSimpArgs false
set_option maxRecDepth 100000 in
theorem clone_any (w : World) (s : ByteArray) (hlim : s.size ≤ 281474976710656) : Calls Try.prog 80 #[.string s] w fun e w' => e = .returned (.string s) ∧ Below w.heap.size w w' := by
  have K := hid (Try.stringslite_Clone s w hlim)
  clear hlim
  go_enter Try.func80, Try.ntmps80
  go_wp2_with (go_at_call 122; (refine (Hid.out K).mono ?_; rintro e w1 ⟨rfl, hb⟩; have HB := hid hb; clear hb))
  go_ret
  exact ⟨rfl, HB.out⟩
/- Rows. -/
structure Rk (k : Nat) (rows : List (List Value)) : Prop where
  len : ∀ r ∈ rows, r.length = k
  one : ∀ r ∈ rows, ∀ u ∈ r, u.oneCell' = true
theorem Rk.app {k : Nat} {l m : List (List Value)} (h : Rk k l) (g : Rk k m) : Rk k (l ++ m) := ⟨fun r hr => (List.mem_append.1 hr).elim (h.len r) (g.len r), fun r hr => (List.mem_append.1 hr).elim (h.one r) (g.one r)⟩
theorem flat_len {k : Nat} : ∀ {rows : List (List Value)}, (∀ r ∈ rows, r.length = k) → rows.flatten.length = rows.length * k
  | [], _ => by simp
  | r :: l, h => by
    have h1 := flat_len (rows := l) (fun x hx => h x (List.mem_cons_of_mem _ hx))
    have h2 := h r (List.mem_cons_self ..)
    rw [List.flatten_cons, List.length_append, h1, h2, List.length_cons, Nat.add_mul]; omega
theorem flat_at {k : Nat} : ∀ {rows : List (List Value)}, (∀ r ∈ rows, r.length = k) → ∀ (j : Nat) (r : List Value), rows[j]? = some r → ∀ i, i < k → rows.flatten[j * k + i]? = r[i]?
  | [], _, j, r, e => by simp at e
  | p :: l, h, 0, r, e => fun i hi => by
    simp at e; subst e
    rw [List.flatten_cons, Nat.zero_mul, Nat.zero_add, List.getElem?_append_left (by rw [h p (List.mem_cons_self ..)]; exact hi)]
  | p :: l, h, j + 1, r, e => fun i hi => by
    have h1 : l[j]? = some r := by simpa using e
    have h2 := flat_at (rows := l) (fun x hx => h x (List.mem_cons_of_mem _ hx)) j r h1 i hi
    have hp := h p (List.mem_cons_self ..)
    have he : (j + 1) * k + i - p.length = j * k + i := by rw [hp, Nat.add_mul]; omega
    rw [List.flatten_cons, List.getElem?_append_right (by rw [hp, Nat.add_mul]; omega), he]; exact h2
theorem flat_of {k : Nat} (k0 : 0 < k) {rows : List (List Value)} (h : ∀ r ∈ rows, r.length = k) {q : Nat} {u : Value} (e : rows.flatten[q]? = some u) : ∃ r, rows[q / k]? = some r ∧ r[q % k]? = some u := by
  have hq : q < rows.length * k := by rw [← flat_len h]; exact (List.getElem?_eq_some_iff.1 e).1
  have hj : q / k < rows.length := (Nat.div_lt_iff_lt_mul k0).2 hq
  refine ⟨rows[q / k], List.getElem?_eq_getElem hj, ?_⟩
  rw [← flat_at h (q / k) _ (List.getElem?_eq_getElem hj) (q % k) (Nat.mod_lt _ k0), show q / k * k + q % k = q by rw [Nat.mul_comm]; exact Nat.div_add_mod q k]
  exact e
def KR (E : TypeId) (k : Nat) (w : World) (B : Nat) (v : Value) (rows : List (List Value)) : Prop := w.ownsRow B E k v rows.length rows.flatten ∧ Rk k rows
theorem KR.nil (E : TypeId) (k : Nat) (w : World) (B : Nat) : KR E k w B (.slice none 0 0) [] := ⟨⟨by simp, .inl ⟨rfl, rfl⟩⟩, ⟨fun r hr => by simp at hr, fun r hr => by simp at hr⟩⟩
theorem KR.keep {E : TypeId} {k : Nat} {w w' : World} {B : Nat} {v : Value} {l : List (List Value)} (h : KR E k w B v l) (e : ∀ g, v.ownBlock = some g → w'.heap[g]? = w.heap[g]?) : KR E k w' B v l := by
  refine ⟨⟨h.1.1, ?_⟩, h.2⟩
  rcases h.1.2 with h2 | ⟨g, cap, cur, rfl, h3, h4, h5⟩
  · exact .inl h2
  · exact .inr ⟨g, cap, cur, rfl, h3, (e g rfl).trans h4, h5⟩
theorem KR.own {E : TypeId} {k : Nat} {w : World} {B : Nat} {v : Value} {l : List (List Value)} (h : KR E k w B v l) {g : Nat} (e : v.ownBlock = some g) : B ≤ g ∧ g < w.heap.size := by
  rcases h.1.2 with ⟨rfl, _⟩ | ⟨g', cap, cur, rfl, h3, h4, h5⟩
  · cases e
  · cases e; exact ⟨h3, lt_of_heap h4⟩
theorem KR.below {E : TypeId} {k : Nat} {w w' : World} {B C : Nat} {v : Value} {l : List (List Value)} (h : KR E k w B v l) (hC : w.heap.size ≤ C) (q : Below C w w') : KR E k w' B v l := h.keep fun g e => q.block g (by have := (h.own e).2; omega)
theorem KR.lower {E : TypeId} {k : Nat} {w : World} {B C : Nat} {v : Value} {l : List (List Value)} (h : KR E k w B v l) (hC : C ≤ B) : KR E k w C v l := by
  refine ⟨⟨h.1.1, ?_⟩, h.2⟩
  rcases h.1.2 with h2 | ⟨g, cap, cur, rfl, h3, h4⟩
  · exact .inl h2
  · exact .inr ⟨g, cap, cur, rfl, by omega, h4⟩
theorem KR.rd {E : TypeId} {k : Nat} {w : World} {B : Nat} {v : Value} {l : List (List Value)} (h : KR E k w B v l) : ∃ a cap, v = .slice a l.length cap ∧ l.length ≤ cap ∧ CRd w a k l ∧ (a = none → cap = 0) ∧ ∀ x : Addr, a = some x → B ≤ x.block := by
  rcases h.1.2 with ⟨rfl, h2⟩ | ⟨g, cap, cur, rfl, h3, h4, h5, h6, h7, h8⟩
  · have : l = [] := List.eq_nil_of_length_eq_zero h2
    subst this
    exact ⟨none, 0, rfl, by simp, fun j x hx => by simp at hx, fun _ => rfl, fun x e => by cases e⟩
  · refine ⟨_, cap, rfl, h5, fun j r hr => ⟨g, 0, rfl, lt_of_heap h4, fun i hi => ?_⟩, (fun e => by cases e), (fun x e => by cases e; exact h3)⟩
    have hj := (List.getElem?_eq_some_iff.1 hr).1
    have hlt : j * k + i < l.length * k := by
      have : (j + 1) * k ≤ l.length * k := Nat.mul_le_mul_right k hj
      rw [Nat.add_mul] at this; omega
    rw [cellOf h4, ← flat_at h.2.len j r hr i hi, ← h8, List.getElem?_take, if_pos hlt, Nat.zero_add]
    simp
theorem KR.one {E : TypeId} {k : Nat} (w : World) (r : List Value) (hr : r.length = k) (h1 : ∀ u ∈ r, u.oneCell' = true) : KR E k (w.alloc (.cells r.toArray E)) w.heap.size (.slice (some ⟨w.heap.size, 0, none⟩) 1 1) [r] := by
  refine ⟨⟨by simp [hr], .inr ⟨w.heap.size, 1, r.toArray, rfl, Nat.le_refl _, heap_alloc_new w _, Nat.le_refl _, by unfold maxLen; omega, by simp [hr], ?_⟩⟩, ⟨fun x hx => by simp at hx; rw [hx]; exact hr, fun x hx => by simp at hx; rw [hx]; exact h1⟩⟩
  simp [← hr]
theorem run_appK {T E : TypeId} {k bytes : Nat} {z : Value} (hU : Try.prog.underlying T = some (.slice E)) (hI : (Try.prog.info? E).map (fun i => (i.zero, i.size, i.bytes)) = some (some z, k, bytes)) (hz : z.cells.size = k) (k0 : 0 < k) (hby : bytes ≤ 100)
    (w : World) (ty : TypeId) (B : Nat) (v : Value) (l : List (List Value)) (h : KR E k w B v l) (a : Option Addr) (m c : Nat) (l2 : List (List Value)) (hm : m = l2.length) (hr : CRd w a k l2) (hR : Rk k l2) (hnil : a = none → c = 0) (hl : l.length ≤ 1000000) (hl2 : m ≤ 1000000) (hB : B ≤ w.heap.size) :
    ∃ v' w', (Builtin.append_ #[T, T] ty #[v, .slice a m c]).run Try.prog w = .ok v' w' ∧ KR E k w' B v' (l ++ l2) ∧ w.grownBy w' v.ownBlock ∧ (v'.ownBlock = v.ownBlock ∨ v'.ownBlock = some w.heap.size) := by
  obtain ⟨i0, hi, hz0, hz1, hz2⟩ := info_parts hI
  cases a with
  | none =>
    have hc0 := hnil rfl
    have hl0 : l2 = [] := by
      cases l2 with
      | nil => rfl
      | cons o r => obtain ⟨b, off, e, _⟩ := hr 0 o rfl; cases e
    subst hl0
    subst hc0
    have hm0 : m = 0 := hm
    subst hm0
    exact ⟨v, w, run_append_owned_none w B T ty E i0 k hU hi v l.length l.flatten h.1, by rw [List.append_nil]; exact h, ⟨rfl, rfl, rfl, Nat.le_refl _, fun _ _ _ => rfl⟩, .inl rfl⟩
  | some ad =>
    have hcell : ∀ q u, l2.flatten[q]? = some u → w.cell? (ad.add q) = some u := by
      intro q u hu
      obtain ⟨r, hr1, hr2⟩ := flat_of k0 hR.len hu
      obtain ⟨b, off, e, _, hc⟩ := hr (q / k) r hr1
      cases e
      have := hc (q % k) (Nat.mod_lt _ k0)
      rw [hr2] at this
      have he : off + q / k * k + q % k = off + q := by rw [Nat.add_assoc, Nat.mul_comm, Nat.div_add_mod]
      rw [Addr.add_lit, ← he]
      exact this
    have hone : ∀ u ∈ l2.flatten, u.oneCell' = true := fun u hu => by
      obtain ⟨r, hr1, hr2⟩ := List.mem_flatten.1 hu
      exact hR.one r hr1 u hr2
    obtain ⟨v', w', hrun, hown, hgr, _, hat⟩ := run_append_own_at (P := Try.prog) w B T ty E i0 z k bytes hU hi hz0 hz1 hz2 hz k0 v l.length l.flatten h.1 ad m c l2.flatten (by rw [flat_len hR.len, hm]) hcell hone (by unfold maxLen; omega) (by
      have : (l.length + m) * bytes ≤ 2000000 * 100 := Nat.mul_le_mul (by omega) hby
      omega) hB
    refine ⟨v', w', hrun, ⟨?_, h.2.app hR⟩, hgr, hat⟩
    rw [List.length_append, ← hm, List.flatten_append]
    exact hown
theorem wpList_appK {T E : TypeId} {k bytes : Nat} {z : Value} (hU : Try.prog.underlying T = some (.slice E)) (hI : (Try.prog.info? E).map (fun i => (i.zero, i.size, i.bytes)) = some (some z, k, bytes)) (hz : z.cells.size = k) (k0 : 0 < k) (hby : bytes ≤ 100)
    {ops : Array Oper} {rest : List Oper} {o : Oper} {act : Act} {Q : Exit → Act → World → Prop} (w : World) (hgd : o.guard = none) (s x : Operand)
    (ho : o.op = .call { callee := .builtin .append, args := #[s, x], argTypes := #[T, T] }) (v u : Value) (hs : act.eval s = v) (hx : act.eval x = u) (B : Nat) (l : List (List Value)) (h : KR E k w B v l) (a : Option Addr) (m c : Nat) (hu : u = .slice a m c) (l2 : List (List Value)) (hm : m = l2.length) (hr : CRd w a k l2) (hR : Rk k l2) (hnil : a = none → c = 0) (hl : l.length ≤ 1000000) (hl2 : m ≤ 1000000) (hB : B ≤ w.heap.size)
    (kk : ∀ v' w', KR E k w' B v' (l ++ l2) → w.grownBy w' v.ownBlock → (v'.ownBlock = v.ownBlock ∨ v'.ownBlock = some w.heap.size) → wpList Try.prog ops Q rest (act.put o.dst v') w') :
    wpList Try.prog ops Q (o :: rest) act w := by
  refine wpList_plain hgd fun K hK => ?_
  subst hu
  obtain ⟨v', w', hrun, h2, h3, h4⟩ := run_appK hU hI hz k0 hby w o.type B v l h a m c l2 hm hr hR hnil hl hl2 hB
  unfold Oper.wp execOp
  simp only [ho, resolve, invoke, builtin, Sem.run_bind, Sem.run_pure, Result.andThen_ok, List.map_toArray, List.map_cons, List.map_nil, hs, hx, hrun]
  exact hK _ _ (kk v' w' h2 h3 h4)
theorem KR.grown {E : TypeId} {k : Nat} {w0 w w' : World} {B : Nat} {v : Value} {l : List (List Value)} (hb : Below B w0 w) (h : KR E k w B v l) (hg : w.grownBy w' v.ownBlock) (hB : B ≤ w.heap.size) : Below B w0 w' :=
  hb.grown hg hB (fun g e => (h.own e).1)
theorem infoS : (Try.prog.info? 9).map (fun i => (i.zero, i.size, i.bytes)) = some (some (.string ⟨#[]⟩), 1, 16) := by kernel_rfl
theorem infoT : (Try.prog.info? 24).map (fun i => (i.zero, i.size, i.bytes)) = some (some (.agg #[.int .i64 0, .int .i64 0]), 2, 16) := by kernel_rfl
theorem infoI : (Try.prog.info? 2).map (fun i => (i.zero, i.size, i.bytes)) = some (some (.int .i64 0), 1, 8) := by kernel_rfl
theorem infoF : (Try.prog.info? 73).map (fun i => (i.zero, i.size, i.bytes)) = some (some (.agg #[.int .i64 0, .slice none 0 0]), 2, 32) := by kernel_rfl
theorem infoG : (Try.prog.info? 29).map (fun i => (i.zero, i.size, i.bytes)) = some (some (.agg #[.string ⟨#[]⟩, .slice none 0 0, .int .i64 0, .int .i64 0]), 4, 56) := by kernel_rfl
theorem infoR : (Try.prog.info? 32).map (fun i => (i.zero, i.size, i.bytes)) = some (some (.agg #[.string ⟨#[]⟩, .slice none 0 0, .slice none 0 0]), 3, 64) := by kernel_rfl
theorem infoM : (Try.prog.info? 120).map (fun i => (i.zero, i.size, i.bytes)) = some (some (.agg #[.string ⟨#[]⟩, .int .i64 0, .int .i64 0, .int .i64 0, .int .i64 0]), 5, 48) := by kernel_rfl
end Go.Proofs.Ytmhjnfibpngpmaa

namespace Go.Proofs.Ytmhjnfibpngpmaa
open Go.RowKit Go.Deep Go.Shelf
set_option linter.unusedVariables false
set_option linter.unusedSimpArgs false
def tyc (t : TyP) : List Value := [.int .i64 t.1, .int .i64 t.2]
def inc (x : Int) : List Value := [.int .i64 x]
def stc (s : ByteArray) : List Value := [.string s]
theorem rk_ty (ts : List TyP) : Rk 2 (ts.map tyc) := ⟨fun r hr => by obtain ⟨t, _, rfl⟩ := List.mem_map.1 hr; rfl, fun r hr u hu => by
  obtain ⟨t, _, rfl⟩ := List.mem_map.1 hr
  simp [tyc] at hu
  rcases hu with rfl | rfl <;> rfl⟩
theorem rk_in (xs : List Int) : Rk 1 (xs.map inc) := ⟨fun r hr => by obtain ⟨t, _, rfl⟩ := List.mem_map.1 hr; rfl, fun r hr u hu => by
  obtain ⟨t, _, rfl⟩ := List.mem_map.1 hr
  simp [inc] at hu
  subst hu; rfl⟩
theorem rk_st (s : ByteArray) : Rk 1 [stc s] := ⟨fun r hr => by simp at hr; subst hr; rfl, fun r hr u hu => by
  simp at hr; subst hr
  simp [stc] at hu
  subst hu; rfl⟩
theorem TRd.crd {w : World} {a : Option Addr} {ts : List TyP} (h : TRd w a ts) : CRd w a 2 (ts.map tyc) := fun j r e => by
  rw [List.getElem?_map] at e
  obtain ⟨t, ht, rfl⟩ := Option.map_eq_some_iff.1 e
  obtain ⟨b, off, e1, h1, h2⟩ := h j t ht
  refine ⟨b, off, e1, World.block_lt_of_cell? w _ h1, fun i hi => ?_⟩
  rcases (show i = 0 ∨ i = 1 by omega) with rfl | rfl
  · exact h1
  · exact h2
theorem CRd.trd {w : World} {a : Option Addr} {ts : List TyP} (h : CRd w a 2 (ts.map tyc)) : TRd w a ts := fun j t ht => by
  obtain ⟨b, off, e1, _, hc⟩ := h j (tyc t) (by rw [List.getElem?_map, ht]; rfl)
  exact ⟨b, off, e1, hc 0 (by omega), hc 1 (by omega)⟩
def JRd (w : World) (a : Option Addr) (xs : List Int) : Prop := CRd w a 1 (xs.map inc)
theorem grownK_below {w w' : World} {v : Value} (hg : w.grownBy w' v.ownBlock) (hn : v.ownBlock = none) : Below w.heap.size w w' := (Below.refl _ w).grown hg (Nat.le_refl _) (fun k e => by rw [hn] at e; cases e)
theorem crd_one (E : TypeId) (w : World) (r : List Value) (k : Nat) (hk : r.length = k) : CRd (w.alloc (.cells r.toArray E)) (some ⟨w.heap.size, 0, none⟩) k [r] := fun j x e => by
  cases j with
  | succ j => simp at e
  | zero =>
    simp at e; subst e
    refine ⟨w.heap.size, 0, rfl, by rw [World.size_alloc]; omega, fun i hi => ?_⟩
    rw [cellOf (heap_alloc_new w _)]
    simp
set_option maxRecDepth 100000 in
theorem newTypes_any (w : World) (a : Option Addr) (n cap : Nat) (ts : List TyP) (hn : n = ts.length) (hnb : n ≤ 1000000) (hr : TRd w a ts) (hnil : a = none → cap = 0) :
    Calls Try.prog 81 #[.slice a n cap] w fun e w' => ∃ v, e = .returned v ∧ KR 24 2 w' w.heap.size v (ts.map tyc) ∧ Below w.heap.size w w' := by
  have KN := hid (KR.nil 24 2 w w.heap.size)
  have CR := hid hr.crd
  have HN : Hid (n = (ts.map tyc).length) := hid (by rw [List.length_map]; exact hn)
  have HNI := hid hnil
  clear hn hr hnil
  go_enter Try.func81, Try.ntmps81
  go_wp2_with (at_builtin; refine wpList_appK Try.underlying25 infoT rfl (by decide) (by decide) w rfl _ _ rfl (.slice none 0 0) (.slice a n cap) (by rfl) (by rfl) w.heap.size [] KN.out a n cap rfl (ts.map tyc) HN.out CR.out (rk_ty ts) HNI.out (by simp) hnb (Nat.le_refl _) ?_; intro v' w' h1 h2 h3; have H1 := hid h1; have H2 := hid (grownK_below h2 rfl); clear h1 h2 h3)
  go_ret
  exact ⟨v', rfl, H1.out, H2.out⟩
set_option maxRecDepth 100000 in
theorem newInts_any (w : World) (a : Option Addr) (n cap : Nat) (xs : List Int) (hn : n = xs.length) (hnb : n ≤ 1000000) (hr : JRd w a xs) (hnil : a = none → cap = 0) :
    Calls Try.prog 34 #[.slice a n cap] w fun e w' => ∃ v, e = .returned v ∧ KR 2 1 w' w.heap.size v (xs.map inc) ∧ Below w.heap.size w w' := by
  have KN := hid (KR.nil 2 1 w w.heap.size)
  have CR := hid hr
  have HN : Hid (n = (xs.map inc).length) := hid (by rw [List.length_map]; exact hn)
  have HNI := hid hnil
  clear hn hr hnil
  go_enter Try.func34, Try.ntmps34
  go_wp2_with (at_builtin; refine wpList_appK Try.underlying45 infoI rfl (by decide) (by decide) w rfl _ _ rfl (.slice none 0 0) (.slice a n cap) (by rfl) (by rfl) w.heap.size [] KN.out a n cap rfl (xs.map inc) HN.out CR.out (rk_in xs) HNI.out (by simp) hnb (Nat.le_refl _) ?_; intro v' w' h1 h2 h3; have H1 := hid h1; have H2 := hid (grownK_below h2 rfl); clear h1 h2 h3)
  go_ret
  exact ⟨v', rfl, H1.out, H2.out⟩
set_option maxRecDepth 100000 in
set_option maxHeartbeats 1000000 in
theorem newTexts_any (w : World) (a : Option Addr) (n cap : Nat) (ss : List ByteArray) (hn : n = ss.length) (hnb : n ≤ 1000000) (hr : SRd w a ss) (hs : ∀ s ∈ ss, s.size ≤ 1000000) :
    Calls Try.prog 35 #[.slice a n cap] w fun e w' => ∃ v, e = .returned v ∧ KR 9 1 w' w.heap.size v (ss.map stc) ∧ Below w.heap.size w w' := by
  have hnI : (n : Int) ≤ 1000000 := by omega
  have HN := hid hn
  have HR := hid hr
  have HS := hid hs
  clear hn hr hs
  go_enter Try.func35, Try.ntmps35
  go_wp2
  go_loopg [3, 8] n (fun g r x wr => ∃ j : Nat, j + g = n ∧ x = .int .i64 (j : Int) ∧ KR 9 1 wr w.heap.size r ((ss.take j).map stc) ∧ Below w.heap.size w wr)
  case atStart => exact ⟨0, by omega, rfl, KR.nil _ _ _ _, Below.refl _ _⟩
  case round =>
    obtain ⟨j, hj, rfl, hk, hb⟩ := hrel
    cases gk with
    | zero =>
      have hjn : j = n := by omega
      subst hjn
      rw [HN.out, List.take_of_length_le (Nat.le_refl _)] at hk
      have HK := hid hk
      have HB := hid hb
      clear hk hb
      go_wp2
      go_ret
      exact ⟨_, rfl, HK.out, HB.out⟩
    | succ g =>
      obtain ⟨s, hs⟩ : ∃ s, ss[j]? = some s := ⟨ss[j]'(by have := HN.out; omega), List.getElem?_eq_getElem _⟩
      obtain ⟨hsz, b, off, rfl, hc⟩ := (HR.out.below (Nat.le_refl _) hb) j s hs
      have K := hid (clone_any wr s (by have := HS.out s (List.mem_of_getElem? hs); omega))
      have hjI : (j : Int) < (n : Int) := by omega
      have hj0 : (0 : Int) ≤ (j : Int) := by omega
      have ht : Hid ((ss.take (j + 1)).map stc = (ss.take j).map stc ++ [stc s]) := hid (by rw [List.take_add_one, hs]; simp)
      have hl : ((ss.take j).map stc).length ≤ 1000000 := by rw [List.length_map, List.length_take]; omega
      have HK := hid hk
      have HB := hid hb
      have BA : Hid (∀ w1 : World, Below wr.heap.size wr w1 → Below wr.heap.size wr (w1.alloc (.cells #[.string s] 9)) ∧ Below w.heap.size w (w1.alloc (.cells #[.string s] 9)) ∧ w.heap.size ≤ (w1.alloc (.cells #[.string s] 9)).heap.size) := hid (fun w1 h1 => by
        have a1 := h1.alloc h1.size (.cells #[.string s] 9)
        have a2 := hb.trans (a1.mono hb.size)
        exact ⟨a1, a2, a2.size⟩)
      clear hs hk hb
      go_wp2_with (first
        | (go_at_call 80; (refine (Hid.out K).mono ?_; rintro e w1 ⟨rfl, hb1⟩; have HA := hid (BA.out w1 hb1); clear hb1))
        | (at_builtin; refine wpList_appK Try.underlying26 infoS rfl (by decide) (by decide) (w1.alloc (.cells #[.string s] 9)) rfl _ _ rfl _ (.slice (some ⟨w1.heap.size, 0, none⟩) 1 1) (by rfl) (by rfl) w.heap.size ((ss.take j).map stc) (HK.out.below (Nat.le_refl _) HA.out.1) (some ⟨w1.heap.size, 0, none⟩) 1 1 rfl [stc s] rfl (crd_one 9 w1 (stc s) 1 rfl) (rk_st s) (fun e => by cases e) hl (by omega) HA.out.2.2 ?_; intro v' w' h1 h2 h3; have H1 := hid h1; have H2 := hid (KR.grown HA.out.2.1 (HK.out.below (Nat.le_refl _) HA.out.1) h2 HA.out.2.2); clear h1 h2 h3))
      go_roundg g
      case measure => omega
      exact ⟨j + 1, by omega, by go_num, by rw [ht.out]; exact H1.out, H2.out⟩
end Go.Proofs.Ytmhjnfibpngpmaa

namespace Go.Proofs.Ytmhjnfibpngpmaa
open Go.RowKit Go.Deep Go.Shelf
set_option linter.unusedVariables false
set_option linter.unusedSimpArgs false
theorem step_appK {T E : TypeId} {k bytes : Nat} {z : Value} (hU : Try.prog.underlying T = some (.slice E)) (hI : (Try.prog.info? E).map (fun i => (i.zero, i.size, i.bytes)) = some (some z, k, bytes)) (hz : z.cells.size = k) (k0 : 0 < k) (hby : bytes ≤ 100)
    {ops : Array Oper} {o : Oper} {act : Act} {w : World} {K : Act → World → Prop} {Q : Exit → Act → World → Prop} {P : Prop} (hgd : o.guard = none) (s x : Operand)
    (ho : o.op = .call { callee := .builtin .append, args := #[s, x], argTypes := #[T, T] }) (v u : Value) (hs : act.eval s = v) (hx : act.eval x = u) (B : Nat) (l : List (List Value)) (h : KR E k w B v l) (a : Option Addr) (m c : Nat) (hu : u = .slice a m c) (l2 : List (List Value)) (hm : m = l2.length) (hr : CRd w a k l2) (hR : Rk k l2) (hnil : a = none → c = 0) (hl : l.length ≤ 1000000) (hl2 : m ≤ 1000000) (hB : B ≤ w.heap.size)
    (kk : ∀ v' w', KR E k w' B v' (l ++ l2) → w.grownBy w' v.ownBlock → (v'.ownBlock = v.ownBlock ∨ v'.ownBlock = some w.heap.size) → K (act.put o.dst v') w') :
    if Region.wanted o (yielded ops act.tmps) = true then Oper.wp Try.prog o act w K Q else P := by
  have hw : Region.wanted o (yielded ops act.tmps) = true := by simp [Region.wanted, hgd]
  rw [if_pos hw]
  subst hu
  obtain ⟨v', w', hrun, h2, h3, h4⟩ := run_appK hU hI hz k0 hby w o.type B v l h a m c l2 hm hr hR hnil hl hl2 hB
  unfold Oper.wp execOp
  simp only [ho, resolve, invoke, builtin, Sem.run_bind, Sem.run_pure, Result.andThen_ok, List.map_toArray, List.map_cons, List.map_nil, hs, hx, hrun]
  exact kk v' w' h2 h3 h4
/- Another row is left as it was, if its elements are of another type. -/
theorem KR.other {E F : TypeId} (hne : E ≠ F) {k q : Nat} {w w' : World} {B C : Nat} {v r : Value} {l m : List (List Value)} (h : KR E k w B v l) (g : KR F q w C r m) (hg : w.grownBy w' r.ownBlock) : KR E k w' B v l := h.keep fun b e => by
  rcases h.1.2 with ⟨rfl, _⟩ | ⟨b', cap, cur, rfl, h3, h4, _⟩
  · cases e
  · cases e
    refine hg.block b' (lt_of_heap h4) fun e2 => ?_
    rcases g.1.2 with ⟨rfl, _⟩ | ⟨c', cap', cur', rfl, g3, g4, _⟩
    · cases e2
    · cases e2
      rw [h4] at g4
      cases g4
      exact hne rfl
/- A signature laid anew. -/
structure GNew (w : World) (B : Nat) (p : GH × Sg) : Prop where
  nm : p.1.name = p.2.name
  ns : p.1.name.size ≤ 1000000
  pr : KR 24 2 w B (.slice p.1.pa p.1.pn p.1.pc) (p.2.params.map tyc)
  rs : (p.1.k, p.1.r) = p.2.res
theorem GNew.rd {w : World} {B : Nat} {p : GH × Sg} (h : GNew w B p) (hl : p.2.params.length ≤ 1000000) : SgRd w p.1 p.2 := by
  obtain ⟨⟨nm, pa, pn, pc, kd, rr⟩, s⟩ := p
  obtain ⟨a, cap, e, hc, hr, _, _⟩ := h.pr.rd
  have h2 := h.ns
  have h3 := h.nm
  have h4 := h.rs
  simp only at h2 h3 h4 hl e
  rw [List.length_map] at e
  cases e
  exact ⟨h3, by show nm.size ≤ _; omega, rfl, by show s.params.length ≤ _; omega, CRd.trd hr, h4⟩
theorem GNew.below {w w' : World} {B C : Nat} {p : GH × Sg} (h : GNew w B p) (hC : w.heap.size ≤ C) (q : Below C w w') : GNew w' B p := ⟨h.nm, h.ns, h.pr.below hC q, h.rs⟩
theorem GNew.other {F : TypeId} (hne : 24 ≠ F) {q : Nat} {w w' : World} {B C : Nat} {r : Value} {m : List (List Value)} {p : GH × Sg} (h : GNew w B p) (g : KR F q w C r m) (hg : w.grownBy w' r.ownBlock) : GNew w' B p := ⟨h.nm, h.ns, h.pr.other hne g hg, h.rs⟩
theorem rk_gh (g : GH) : Rk 4 [g.cs] := ⟨fun r hr => by simp at hr; subst hr; rfl, fun r hr u hu => by
  simp at hr; subst hr
  simp [GH.cs] at hu
  rcases hu with rfl | rfl | rfl | rfl <;> rfl⟩
/- What newSigs answers. -/
def SgsN (w : World) (B : Nat) (v : Value) (ss : List Sg) : Prop := ∃ gs : List (GH × Sg), gs.map (·.2) = ss ∧ KR 29 4 w B v (gs.map fun p => p.1.cs) ∧ ∀ p ∈ gs, GNew w B p
structure SgSm (h : GH) (s : Sg) : Prop where
  nil : h.pa = none → h.pc = 0
  nm : s.name.size ≤ 1000000
  pl : s.params.length ≤ 1000000
set_option maxRecDepth 100000 in
set_option maxHeartbeats 4000000 in
theorem newSigs_any (w : World) (a : Option Addr) (n cap : Nat) (gs : List (GH × Sg)) (d : GRd w a n gs) (hnb : n ≤ 1000000) (hs : ∀ p ∈ gs, SgSm p.1 p.2) :
    Calls Try.prog 82 #[.slice a n cap] w fun e w' => ∃ v, e = .returned v ∧ SgsN w' w.heap.size v (gs.map (·.2)) ∧ Below w.heap.size w w' := by
  have hnI : (n : Int) ≤ 1000000 := by omega
  have HN := hid d.n1
  have D := hid d
  have HS := hid hs
  clear d hs
  go_enter Try.func82, Try.ntmps82
  go_wp2
  go_loopg [3, 8] n (fun g r x wr => ∃ j : Nat, j + g = n ∧ x = .int .i64 (j : Int) ∧ SgsN wr w.heap.size r ((gs.take j).map (·.2)) ∧ Below w.heap.size w wr)
  case atStart => exact ⟨0, by omega, rfl, ⟨[], rfl, KR.nil _ _ _ _, fun p hp => by simp at hp⟩, Below.refl _ _⟩
  case round =>
    obtain ⟨j, hj, rfl, hk, hb⟩ := hrel
    cases gk with
    | zero =>
      have hjn : j = n := by omega
      subst hjn
      rw [HN.out, List.take_of_length_le (Nat.le_refl _)] at hk
      have HK := hid hk
      have HB := hid hb
      clear hk hb
      go_wp2
      go_ret
      exact ⟨_, rfl, HK.out, HB.out⟩
    | succ g =>
      have hlj : j < gs.length := by rw [← HN.out]; omega
      have hgj : gs[j]? = some gs[j] := List.getElem?_eq_getElem hlj
      obtain ⟨b, off, rfl, hbl, hc⟩ := (D.out.rd.below (Nat.le_refl _) hb) j (gs[j]).1.cs (by simp [hgj])
      have sg := (D.out.el _ (List.getElem_mem hlj)).below (Nat.le_refl _) hb
      have sm := HS.out _ (List.getElem_mem hlj)
      have ht : Hid ((gs.take (j + 1)).map (·.2) = (gs.take j).map (·.2) ++ [(gs[j]).2]) := hid (by rw [List.take_add_one, hgj, List.map_append]; rfl)
      generalize gs[j] = gj at hgj hc sg sm ht
      obtain ⟨⟨nm, pa, pn, pc, kd, rr⟩, sgx⟩ := gj
      have s0 := hc 0 (by omega)
      have s1 := hc 1 (by omega)
      have s2 := hc 2 (by omega)
      have s3 := hc 3 (by omega)
      simp only [GH.cs, List.getElem?_cons_zero, List.getElem?_cons_succ, Nat.add_zero] at s0 s1 s2 s3
      have hjI : (j : Int) < (n : Int) := by omega
      have hj0 : (0 : Int) ≤ (j : Int) := by omega
      obtain ⟨gs', hg1, hg2, hg3⟩ := hk
      obtain ⟨A, hA⟩ : ∃ A, A = wr.alloc (.cells #[.string nm, .slice pa pn pc, .int .i64 kd, .int .i64 rr] 29) := ⟨_, rfl⟩
      obtain ⟨X, hX⟩ : ∃ X, X = wr.heap.size := ⟨_, rfl⟩
      have bA : Below wr.heap.size wr A := by rw [hA]; exact (Below.refl _ _).alloc (Nat.le_refl _) _
      have mX : A.heap[X]? = some (.cells #[.string nm, .slice pa pn pc, .int .i64 kd, .int .i64 rr] 29 (0, 0)) := by rw [hA, hX]; exact heap_alloc_new wr _
      have hnmS : nm.size ≤ 1000000 := by have e : nm = sgx.name := sg.nm; rw [e]; exact sm.nm
      have K1 := hid (clone_any A.drew nm (by omega))
      have hpl : pn ≤ 1000000 := by have e : pn = sgx.params.length := sg.pn; rw [e]; exact sm.pl
      have K2 := hid (fun (V : World) (hV : Below wr.heap.size wr V) => newTypes_any V pa pn pc sgx.params sg.pn hpl (sg.pr.below (Nat.le_refl _) hV) sm.nil)
      have ST : Hid (∀ v : World, Below A.heap.size A v → v.cell? ⟨X, 0, none⟩ = some (.string nm) ∧ v.cell? ⟨X, 1, none⟩ = some (.slice pa pn pc) ∧ v.cell? ⟨X, 2, none⟩ = some (.int .i64 kd) ∧ v.cell? ⟨X, 3, none⟩ = some (.int .i64 rr)) := hid (fun v hv => by
        have h := (hv.block X (lt_of_heap mX)).trans mX
        exact ⟨cellOf h 0, cellOf h 1, cellOf h 2, cellOf h 3⟩)
      have WA : Hid (∀ v : World, Below A.heap.size A v → Below wr.heap.size wr v) := hid (fun v hv => bA.trans (hv.mono bA.size))
      have hlen : gs'.length ≤ 1000000 := by
        have := congrArg List.length hg1
        rw [List.length_map, List.length_map, List.length_take] at this
        omega
      have FIN : Hid (∀ (w8 : World) (a8 : Option Addr) (l8 c8 : Nat) (v' : Value) (w' : World), Below A.heap.size A w8 → KR 24 2 w8 w.heap.size (.slice a8 l8 c8) (sgx.params.map tyc) → KR 29 4 w' w.heap.size v' ((gs'.map fun p => p.1.cs) ++ [(⟨nm, a8, l8, c8, kd, rr⟩ : GH).cs]) → (w8.alloc (.cells #[.string nm, .slice a8 l8 c8, .int .i64 kd, .int .i64 rr] 29)).grownBy w' u3.ownBlock → (SgsN w' w.heap.size v' ((gs.take (j + 1)).map (·.2)) ∧ Below w.heap.size w w') ∧ w'.cell? ⟨X, 0, none⟩ = some (.string nm) ∧ w'.cell? ⟨X, 1, none⟩ = some (.slice pa pn pc) ∧ w'.cell? ⟨X, 2, none⟩ = some (.int .i64 kd) ∧ w'.cell? ⟨X, 3, none⟩ = some (.int .i64 rr)) := hid (fun w8 a8 l8 c8 v' w' h1 h2 h3 h4 => by
        have b1 := WA.out w8 h1
        have b2 := b1.alloc b1.size (.cells #[.string nm, .slice a8 l8 c8, .int .i64 kd, .int .i64 rr] 29)
        have kr := hg2.below (Nat.le_refl _) b2
        have hXX : w'.heap[X]? = some (.cells #[.string nm, .slice pa pn pc, .int .i64 kd, .int .i64 rr] 29 (0, 0)) := by
          have h0 : w8.heap[X]? = _ := (h1.block X (lt_of_heap mX)).trans mX
          refine (h4.block X (by rw [World.size_alloc]; have := lt_of_heap h0; omega) (fun e => ?_)).trans ((Below.heap_alloc _ _ _ (lt_of_heap h0)).trans h0)
          have := (hg2.own e.symm).2
          omega
        refine ⟨⟨⟨gs' ++ [(⟨nm, a8, l8, c8, kd, rr⟩, sgx)], by rw [List.map_append, hg1, ht.out]; rfl, by rw [List.map_append]; exact h3, fun p hp => ?_⟩, KR.grown (hb.trans (b2.mono hb.size)) kr h4 (by have := hb.size; have := b2.size; omega)⟩, cellOf hXX 0, cellOf hXX 1, cellOf hXX 2, cellOf hXX 3⟩
        rcases List.mem_append.1 hp with hp | hp
        · exact ((hg3 p hp).below (Nat.le_refl _) b2).other (by decide) kr h4
        · simp at hp
          subst hp
          exact ⟨sg.nm, hnmS, (h2.below (Nat.le_refl _) ((Below.refl _ w8).alloc (Nat.le_refl _) _)).other (by decide) kr h4, sg.rs⟩)
      have KRw := hid (fun (w8 : World) (a8 : Option Addr) (l8 c8 : Nat) (h1 : Below A.heap.size A w8) => (by
        have b1 := WA.out w8 h1
        have b2 := b1.alloc b1.size (.cells #[.string nm, .slice a8 l8 c8, .int .i64 kd, .int .i64 rr] 29)
        exact ⟨hg2.below (Nat.le_refl _) b2, by have := hb.size; have := b2.size; omega⟩ : KR 29 4 (w8.alloc (.cells #[.string nm, .slice a8 l8 c8, .int .i64 kd, .int .i64 rr] 29)) w.heap.size u3 (gs'.map fun p => p.1.cs) ∧ w.heap.size ≤ (w8.alloc (.cells #[.string nm, .slice a8 l8 c8, .int .i64 kd, .int .i64 rr] 29)).heap.size))
      have WS := hid (fun (w7 : World) (h7 : Below A.heap.size A w7) => (by have := hb.size; have := (WA.out w7 h7).size; omega : w.heap.size ≤ w7.heap.size))
      have hlm : (gs'.map fun p => p.1.cs).length ≤ 1000000 := by rw [List.length_map]; exact hlen
      clear hb hg1 hg2 hg3 sg sm hc hbl hgj bA mX hlj
      go_upto_region 5 with fail
      rw [← hA, ← hX]
      clear hA hX s0 s1 s2 s3
      obtain ⟨x0, x1, x2, x3⟩ := ST.out A (Below.refl _ _)
      go_region_held3 (fun v => v.cell? ⟨X, 0, none⟩ = some (.string nm) ∧ v.cell? ⟨X, 1, none⟩ = some (.slice pa pn pc) ∧ v.cell? ⟨X, 2, none⟩ = some (.int .i64 kd) ∧ v.cell? ⟨X, 3, none⟩ = some (.int .i64 rr)) (first | exact s9 | exact s8 | exact s7 | go_keep) (first
        | (go_at_call 80; (refine (Hid.out K1).mono ?_; rintro e w7 ⟨rfl, hb7⟩; have h7 : Below A.heap.size A w7 := (Below.refl _ A).drew.trans hb7; have s7 := ST.out w7 h7))
        | (go_at_call 81; (refine (K2.out w7 (WA.out w7 h7)).mono ?_; rintro e w8 ⟨v8, rfl, hk8, hb8⟩; obtain ⟨a8, c8, hv8, hc8, _, _, _⟩ := hk8.rd; obtain ⟨l8, hl8⟩ : ∃ l8, l8 = (sgx.params.map tyc).length := ⟨_, rfl⟩; rw [← hl8] at hv8; subst hv8; clear hl8 hc8; have h8 : Below A.heap.size A w8 := h7.trans (hb8.mono h7.size); have s8 := ST.out w8 h8))
        | (refine step_appK Try.underlying30 infoG rfl (by decide) (by decide) (by rfl) _ _ (by rfl) u3 (.slice (some ⟨w8.heap.size, 0, none⟩) 1 1) (by rfl) (by rfl) w.heap.size (gs'.map fun p => p.1.cs) (KRw.out w8 a8 l8 c8 h8).1 (some ⟨w8.heap.size, 0, none⟩) 1 1 rfl [(⟨nm, a8, l8, c8, kd, rr⟩ : GH).cs] rfl (crd_one 29 w8 (⟨nm, a8, l8, c8, kd, rr⟩ : GH).cs 4 rfl) (rk_gh _) (fun e => by cases e) hlm (by omega) (KRw.out w8 a8 l8 c8 h8).2 ?_; intro v' w' hh1 hh2 hh3; have HFN := hid (FIN.out w8 a8 l8 c8 v' w' h8 (hk8.lower (WS.out w7 h7)) hh1 hh2).1; have s9 := (FIN.out w8 a8 l8 c8 v' w' h8 (hk8.lower (WS.out w7 h7)) hh1 hh2).2))
      go_wp2
      go_roundg g
      case measure => omega
      exact ⟨j + 1, by omega, by go_num, HFN.out.1, HFN.out.2⟩
end Go.Proofs.Ytmhjnfibpngpmaa

namespace Go.Proofs.Ytmhjnfibpngpmaa
open Go.RowKit Go.Deep Go.Shelf
set_option linter.unusedVariables false
set_option linter.unusedSimpArgs false
structure Gr where
  regs : Int
  a : Option Addr
  n : Nat
  c : Nat
  bs : List Blk
def Gr.cs (g : Gr) : List Value := [.int .i64 g.regs, .slice g.a g.n g.c]
structure GrOk (w : World) (g : Gr) : Prop where
  n1 : g.n = g.bs.length
  nb : g.n ≤ 10000
  rd : BRd w g.a g.bs
  nl : ∀ b ∈ g.bs, b.oa = none → b.oc = 0
  ly : (layA 0 g.bs).length ≤ 100000
theorem GrOk.below {w w' : World} {g : Gr} (h : GrOk w g) (k : Below w.heap.size w w') : GrOk w' g := ⟨h.n1, h.nb, h.rd.below k, h.nl, h.ly⟩
structure GrsRd (w : World) (a : Option Addr) (n : Nat) (gl : List Gr) : Prop where
  n1 : n = gl.length
  rd : CRd w a 2 (gl.map Gr.cs)
  el : ∀ g ∈ gl, GrOk w g
theorem GrsRd.below {w w' : World} {a : Option Addr} {n : Nat} {gl : List Gr} (h : GrsRd w a n gl) (k : Below w.heap.size w w') : GrsRd w' a n gl := ⟨h.n1, h.rd.below (Nat.le_refl _) k, fun g hg => (h.el g hg).below k⟩
def Gr.fx (g : Gr) : Fx := ⟨g.regs, layB g.bs⟩
/- A function laid anew. -/
structure FNew (w : World) (B : Nat) (p : FH × Fx) : Prop where
  rg : p.1.regs = p.2.regs
  op : OpR w B (.slice p.1.oa p.1.on p.1.oc) p.2.ops
theorem FNew.below {w w' : World} {B C : Nat} {p : FH × Fx} (h : FNew w B p) (hC : w.heap.size ≤ C) (q : Below C w w') : FNew w' B p := ⟨h.rg, h.op.below hC q⟩
theorem FNew.other {w w' : World} {B C : Nat} {r : Value} {m : List (List Value)} {p : FH × Fx} (h : FNew w B p) (g : KR 73 2 w C r m) (hg : w.grownBy w' r.ownBlock) : FNew w' B p := ⟨h.rg, h.op.keep fun b e => by
  have h1 := h.op.2
  rcases h1 with ⟨e1, _⟩ | ⟨b', cap, cur, e1, h3, h4, _⟩
  · rw [e1] at e; cases e
  · rw [e1] at e
    cases e
    refine hg.block b' (lt_of_heap h4) fun e2 => ?_
    rcases g.1.2 with ⟨rfl, _⟩ | ⟨c', cap', cur', rfl, g3, g4, _⟩
    · cases e2
    · cases e2
      rw [h4] at g4
      cases g4⟩
theorem FNew.rd {w : World} {B : Nat} {p : FH × Fx} (h : FNew w B p) (hl : p.2.ops.length ≤ 1000000) : FnRd w p.1 p.2 := by
  obtain ⟨⟨regs, oa, on, oc⟩, f⟩ := p
  obtain ⟨a, cap, e, hr, _⟩ := h.op.rd
  have h2 := h.rg
  simp only at e h2 hl hr
  cases e
  exact ⟨h2, rfl, by show f.ops.length ≤ _; omega, hr⟩
def FnsN (w : World) (B : Nat) (v : Value) (l : List Fx) : Prop := ∃ fs : List (FH × Fx), fs.map (·.2) = l ∧ KR 73 2 w B v (fs.map fun p => p.1.cs) ∧ ∀ p ∈ fs, FNew w B p
theorem FnsN.below {w w' : World} {B C : Nat} {v : Value} {l : List Fx} (h : FnsN w B v l) (hC : w.heap.size ≤ C) (q : Below C w w') : FnsN w' B v l := by
  obtain ⟨fs, h1, h2, h3⟩ := h
  exact ⟨fs, h1, h2.below hC q, fun p hp => (h3 p hp).below hC q⟩
theorem rk_fh (f : FH) : Rk 2 [f.cs] := ⟨fun r hr => by simp at hr; subst hr; rfl, fun r hr u hu => by
  simp at hr; subst hr
  simp [FH.cs] at hu
  rcases hu with rfl | rfl <;> rfl⟩
def allG (gl : List Gr) : Bool := gl.all fun g => isG g.bs
def FlP (w : World) (gl : List Gr) (e : Ending) (w' : World) : Prop := Below w.heap.size w w' ∧
  ((allG gl = true ∧ ∃ v, e = .returned (.tuple #[v, .bool true]) ∧ FnsN w' w.heap.size v (gl.map Gr.fx)) ∨
   (allG gl = false ∧ e = .returned (.tuple #[.slice none 0 0, .bool false])))
set_option maxRecDepth 100000 in
set_option maxHeartbeats 4000000 in
theorem flattened_any (w : World) (a : Option Addr) (n cap : Nat) (gl : List Gr) (d : GrsRd w a n gl) (hnb : n ≤ 1000000) : Calls Try.prog 32 #[.slice a n cap] w (FlP w gl) := by
  have hnI : (n : Int) ≤ 1000000 := by omega
  have HN := hid d.n1
  have D := hid d
  clear d
  go_enter Try.func32, Try.ntmps32
  go_wp2
  go_loopg [4, 11] n (fun g r x wr => ∃ j : Nat, j + g = n ∧ x = .int .i64 (j : Int) ∧ allG (gl.take j) = true ∧ FnsN wr w.heap.size r ((gl.take j).map Gr.fx) ∧ Below w.heap.size w wr)
  case atStart => exact ⟨0, by omega, rfl, by simp [allG], ⟨[], rfl, KR.nil _ _ _ _, fun p hp => by simp at hp⟩, Below.refl _ _⟩
  case round =>
    obtain ⟨j, hj, rfl, hG, hk, hb⟩ := hrel
    cases gk with
    | zero =>
      have hjn : j = n := by omega
      subst hjn
      rw [HN.out, List.take_of_length_le (Nat.le_refl _)] at hk hG
      have HK := hid hk
      have HG := hid hG
      have HB := hid hb
      clear hk hb hG
      go_wp2
      go_ret2
      exact ⟨HB.out, .inl ⟨HG.out, _, rfl, HK.out⟩⟩
    | succ g =>
      have hlj : j < gl.length := by rw [← HN.out]; omega
      have hgj : gl[j]? = some gl[j] := List.getElem?_eq_getElem hlj
      have Do := D.out.below hb
      obtain ⟨b, off, rfl, hbl, hc⟩ := Do.rd j (gl[j]).cs (by simp [hgj])
      have ok := Do.el _ (List.getElem_mem hlj)
      have ht : Hid ((gl.take (j + 1)).map Gr.fx = (gl.take j).map Gr.fx ++ [(gl[j]).fx]) := hid (by rw [List.take_add_one, hgj, List.map_append]; rfl)
      have htG : Hid (isG (gl[j]).bs = true → allG (gl.take (j + 1)) = true) := hid (fun h => by unfold allG at hG ⊢; rw [List.take_add_one, hgj, List.all_append, hG]; simp [h])
      have hnG : Hid (isG (gl[j]).bs = false → allG gl = false) := hid (fun h => by unfold allG; rw [List.all_eq_false]; exact ⟨gl[j], List.getElem_mem hlj, by simp [h]⟩)
      generalize gl[j] = gj at hgj hc ok ht htG hnG
      obtain ⟨regs, ga, gn, gc, bs⟩ := gj
      have s0 := hc 0 (by omega)
      have s1 := hc 1 (by omega)
      simp only [Gr.cs, List.getElem?_cons_zero, List.getElem?_cons_succ, Nat.add_zero] at s0 s1
      have hjI : (j : Int) < (n : Int) := by omega
      have hj0 : (0 : Int) ≤ (j : Int) := by omega
      obtain ⟨fs', hg1, hg2, hg3⟩ := hk
      obtain ⟨A, hA⟩ : ∃ A, A = wr.alloc (.cells #[.int .i64 regs, .slice ga gn gc] 92) := ⟨_, rfl⟩
      have bA : Below wr.heap.size wr A := by rw [hA]; exact (Below.refl _ _).alloc (Nat.le_refl _) _
      have mA : A.heap[wr.heap.size]? = some (.cells #[.int .i64 regs, .slice ga gn gc] 92 (0, 0)) := by rw [hA]; exact heap_alloc_new wr _
      have a0 := cellOf mA 0
      have a1 := cellOf mA 1
      simp only [List.getElem?_toArray, List.getElem?_cons_zero, List.getElem?_cons_succ] at a0 a1
      have okA := ok.below bA
      have K1 := hid (fn_any A regs ga gn gc bs okA.n1 okA.nb okA.rd okA.nl okA.ly)
      have hlen : (fs'.map fun p => p.1.cs).length ≤ 1000000 := by
        have := congrArg List.length hg1
        rw [List.length_map, List.length_map, List.length_take] at this
        rw [List.length_map]
        omega
      have hwA : w.heap.size ≤ A.heap.size := by have := hb.size; have := bA.size; omega
      have PW := hid (fun (w1 : World) (h1 : Below A.heap.size A w1) => (by
        have b1 := bA.trans (h1.mono bA.size)
        exact ⟨hb.trans (b1.mono hb.size), b1⟩ : Below w.heap.size w w1 ∧ Below wr.heap.size wr w1))
      have FIN : Hid (∀ (w1 : World) (oa : Option Addr) (on oc : Nat) (q : Obj) (v' : Value) (w' : World), Below A.heap.size A w1 → OpR w1 A.heap.size (.slice oa on oc) (layB bs) → KR 73 2 w' w.heap.size v' ((fs'.map fun p => p.1.cs) ++ [(⟨regs, oa, on, oc⟩ : FH).cs]) → ((w1.alloc q).alloc (.cells #[.int .i64 regs, .slice oa on oc] 73)).grownBy w' u4.ownBlock → FnsN w' w.heap.size v' ((gl.take (j + 1)).map Gr.fx) ∧ Below w.heap.size w w') := hid (fun w1 oa on oc q v' w' h1 h2 h3 h4 => by
        have b1 := (PW.out w1 h1).2
        have b2 := (b1.alloc b1.size q).alloc (by rw [World.size_alloc]; have := b1.size; omega) (.cells #[.int .i64 regs, .slice oa on oc] 73)
        have kr := hg2.below (Nat.le_refl _) b2
        refine ⟨⟨fs' ++ [(⟨regs, oa, on, oc⟩, ⟨regs, layB bs⟩)], by rw [List.map_append, hg1, ht.out]; rfl, by rw [List.map_append]; exact h3, fun p hp => ?_⟩, KR.grown (hb.trans (b2.mono hb.size)) kr h4 (by have := hb.size; have := b2.size; omega)⟩
        rcases List.mem_append.1 hp with hp | hp
        · exact ((hg3 p hp).below (Nat.le_refl _) b2).other kr h4
        · simp at hp
          subst hp
          exact FNew.other ⟨rfl, (h2.lower hwA).below (Nat.le_refl _) (((Below.refl _ w1).alloc (Nat.le_refl _) _).alloc (by rw [World.size_alloc]; omega) _)⟩ kr h4)
      have KRw := hid (fun (w1 : World) (oa : Option Addr) (on oc : Nat) (q : Obj) (h1 : Below A.heap.size A w1) => (by
        have b1 := (PW.out w1 h1).2
        have b2 := (b1.alloc b1.size q).alloc (by rw [World.size_alloc]; have := b1.size; omega) (.cells #[.int .i64 regs, .slice oa on oc] 73)
        exact ⟨hg2.below (Nat.le_refl _) b2, by have := hb.size; have := b2.size; omega⟩ : KR 73 2 ((w1.alloc q).alloc (.cells #[.int .i64 regs, .slice oa on oc] 73)) w.heap.size u4 (fs'.map fun p => p.1.cs) ∧ w.heap.size ≤ ((w1.alloc q).alloc (.cells #[.int .i64 regs, .slice oa on oc] 73)).heap.size))
      have CO := hid (fun (w1 : World) (oa : Option Addr) (on oc : Nat) (q : Obj) => (by
        have := crd_one 73 (w1.alloc q) (⟨regs, oa, on, oc⟩ : FH).cs 2 rfl
        rw [World.size_alloc] at this; exact this : CRd ((w1.alloc q).alloc (.cells (⟨regs, oa, on, oc⟩ : FH).cs.toArray 73)) (some ⟨w1.heap.size + 1, 0, none⟩) 2 [(⟨regs, oa, on, oc⟩ : FH).cs]))
      clear hg1 hg2 hg3 hc hbl hgj Do ok okA hlj hG bA hb
      cases hq : isG bs with
      | false =>
        have HF := hid (hnG.out hq)
        have K2 : Hid (Calls Try.prog 27 #[.agg #[.int .i64 regs, .slice ga gn gc]] A fun e w' => Below A.heap.size A w' ∧ e = .returned (.tuple #[.agg #[.int .i64 0, .slice none 0 0], .int .i64 100])) := hid (K1.out.mono (by
          rintro e w' ⟨h1, h2 | h2⟩
          · rw [hq] at h2; cases h2.1
          · exact ⟨h1, h2.2⟩))
        have PA := hid (fun (w1 : World) (h1 : Below A.heap.size A w1) (q : Obj) => (PW.out w1 h1).1.alloc (PW.out w1 h1).1.size q)
        clear K1 hq FIN KRw CO htG
        go_upto_region 5 with fail
        rw [← hA]
        clear hA s0 s1
        go_wp2_with (go_at_call 27; (refine (Hid.out K2).mono ?_; rintro e w1 ⟨hb1, rfl⟩; have HP := hid (PA.out w1 hb1); clear hb1))
        go_ret2
        exact ⟨HP.out _, .inr ⟨HF.out, rfl⟩⟩
      | true =>
        have HT := hid (htG.out hq)
        have K2 : Hid (Calls Try.prog 27 #[.agg #[.int .i64 regs, .slice ga gn gc]] A fun e w' => Below A.heap.size A w' ∧ ∃ v, e = .returned (.tuple #[.agg #[.int .i64 regs, v], .int .i64 0]) ∧ OpR w' A.heap.size v (layB bs)) := hid (K1.out.mono (by
          rintro e w' ⟨h1, h2 | h2⟩
          · exact ⟨h1, h2.2⟩
          · rw [hq] at h2; cases h2.1))
        clear K1 hq hnG htG
        go_upto_region 5 with fail
        rw [← hA]
        clear hA s0 s1
        go_wp2_with (first
          | (go_at_call 27; (refine (Hid.out K2).mono ?_; rintro e w1 ⟨hb1, v1, rfl, ho1⟩; obtain ⟨oa, oc, hv1, hr1, hn1⟩ := ho1.rd; obtain ⟨on, hon⟩ : ∃ on, on = (layB bs).length := ⟨_, rfl⟩; rw [← hon] at hv1; subst hv1; clear hon hr1 hn1))
          | (at_builtin; refine wpList_appK Try.underlying50 infoF rfl (by decide) (by decide) ((w1.alloc (.cells #[.int .i64 regs, .slice oa on oc] 73)).alloc (.cells #[.int .i64 regs, .slice oa on oc] 73)) rfl _ _ rfl u4 (.slice (some ⟨w1.heap.size + 1, 0, none⟩) 1 1) (by rfl) (by rfl) w.heap.size (fs'.map fun p => p.1.cs) (KRw.out w1 oa on oc _ hb1).1 (some ⟨w1.heap.size + 1, 0, none⟩) 1 1 rfl [(⟨regs, oa, on, oc⟩ : FH).cs] rfl (CO.out w1 oa on oc _) (rk_fh _) (fun e => by cases e) hlen (by omega) (KRw.out w1 oa on oc _ hb1).2 ?_; intro v' w' hh1 hh2 hh3; have HFN := hid (FIN.out w1 oa on oc _ v' w' hb1 ho1 hh1 hh2)))
        go_roundg g
        case measure => omega
        exact ⟨j + 1, by omega, by go_num, HT.out, HFN.out.1, HFN.out.2⟩
set_option maxRecDepth 100000 in
set_option maxHeartbeats 4000000 in
theorem refFns_any (w : World) (a : Option Addr) (n cap : Nat) (gl : List Gr) (d : GrsRd w a n gl) (hnb : n ≤ 1000000) : Calls Try.prog 36 #[.slice a n cap] w (FlP w gl) := by
  have hnI : (n : Int) ≤ 1000000 := by omega
  have HN := hid d.n1
  have D := hid d
  clear d
  go_enter Try.func36, Try.ntmps36
  go_wp2
  go_loopg [4, 5] n (fun g r x wr => ∃ j : Nat, j + g = n ∧ x = .int .i64 (j : Int) ∧ allG (gl.take j) = true ∧ FnsN wr w.heap.size r ((gl.take j).map Gr.fx) ∧ Below w.heap.size w wr)
  case atStart => exact ⟨0, by omega, rfl, by simp [allG], ⟨[], rfl, KR.nil _ _ _ _, fun p hp => by simp at hp⟩, Below.refl _ _⟩
  case round =>
    obtain ⟨j, hj, rfl, hG, hk, hb⟩ := hrel
    cases gk with
    | zero =>
      have hjn : j = n := by omega
      subst hjn
      rw [HN.out, List.take_of_length_le (Nat.le_refl _)] at hk hG
      have HK := hid hk
      have HG := hid hG
      have HB := hid hb
      clear hk hb hG
      go_wp2
      go_ret2
      exact ⟨HB.out, .inl ⟨HG.out, _, rfl, HK.out⟩⟩
    | succ g =>
      have hlj : j < gl.length := by rw [← HN.out]; omega
      have hgj : gl[j]? = some gl[j] := List.getElem?_eq_getElem hlj
      have Do := D.out.below hb
      obtain ⟨b, off, rfl, hbl, hc⟩ := Do.rd j (gl[j]).cs (by simp [hgj])
      have ok := Do.el _ (List.getElem_mem hlj)
      have ht : Hid ((gl.take (j + 1)).map Gr.fx = (gl.take j).map Gr.fx ++ [(gl[j]).fx]) := hid (by rw [List.take_add_one, hgj, List.map_append]; rfl)
      have htG : Hid (isG (gl[j]).bs = true → allG (gl.take (j + 1)) = true) := hid (fun h => by unfold allG at hG ⊢; rw [List.take_add_one, hgj, List.all_append, hG]; simp [h])
      have hnG : Hid (isG (gl[j]).bs = false → allG gl = false) := hid (fun h => by unfold allG; rw [List.all_eq_false]; exact ⟨gl[j], List.getElem_mem hlj, by simp [h]⟩)
      generalize gl[j] = gj at hgj hc ok ht htG hnG
      obtain ⟨regs, ga, gn, gc, bs⟩ := gj
      have s0 := hc 0 (by omega)
      have s1 := hc 1 (by omega)
      simp only [Gr.cs, List.getElem?_cons_zero, List.getElem?_cons_succ, Nat.add_zero] at s0 s1
      have hjI : (j : Int) < (n : Int) := by omega
      have hj0 : (0 : Int) ≤ (j : Int) := by omega
      obtain ⟨fs', hg1, hg2, hg3⟩ := hk
      obtain ⟨A, hA⟩ : ∃ A, A = wr := ⟨_, rfl⟩
      have bA : Below wr.heap.size wr A := by rw [hA]; exact Below.refl _ _
      have okA := ok.below bA
      have K1 := hid (refFn_any A regs ga gn gc bs okA.n1 okA.nb okA.rd okA.nl okA.ly)
      have hlen : (fs'.map fun p => p.1.cs).length ≤ 1000000 := by
        have := congrArg List.length hg1
        rw [List.length_map, List.length_map, List.length_take] at this
        rw [List.length_map]
        omega
      have hwA : w.heap.size ≤ A.heap.size := by have := hb.size; have := bA.size; omega
      have PW := hid (fun (w1 : World) (h1 : Below A.heap.size A w1) => (by
        have b1 := bA.trans (h1.mono bA.size)
        exact ⟨hb.trans (b1.mono hb.size), b1⟩ : Below w.heap.size w w1 ∧ Below wr.heap.size wr w1))
      have FIN : Hid (∀ (w1 : World) (oa : Option Addr) (on oc : Nat) (q : Obj) (v' : Value) (w' : World), Below A.heap.size A w1 → OpR w1 A.heap.size (.slice oa on oc) (layB bs) → KR 73 2 w' w.heap.size v' ((fs'.map fun p => p.1.cs) ++ [(⟨regs, oa, on, oc⟩ : FH).cs]) → ((w1.alloc q).alloc (.cells #[.int .i64 regs, .slice oa on oc] 73)).grownBy w' u4.ownBlock → FnsN w' w.heap.size v' ((gl.take (j + 1)).map Gr.fx) ∧ Below w.heap.size w w') := hid (fun w1 oa on oc q v' w' h1 h2 h3 h4 => by
        have b1 := (PW.out w1 h1).2
        have b2 := (b1.alloc b1.size q).alloc (by rw [World.size_alloc]; have := b1.size; omega) (.cells #[.int .i64 regs, .slice oa on oc] 73)
        have kr := hg2.below (Nat.le_refl _) b2
        refine ⟨⟨fs' ++ [(⟨regs, oa, on, oc⟩, ⟨regs, layB bs⟩)], by rw [List.map_append, hg1, ht.out]; rfl, by rw [List.map_append]; exact h3, fun p hp => ?_⟩, KR.grown (hb.trans (b2.mono hb.size)) kr h4 (by have := hb.size; have := b2.size; omega)⟩
        rcases List.mem_append.1 hp with hp | hp
        · exact ((hg3 p hp).below (Nat.le_refl _) b2).other kr h4
        · simp at hp
          subst hp
          exact FNew.other ⟨rfl, (h2.lower hwA).below (Nat.le_refl _) (((Below.refl _ w1).alloc (Nat.le_refl _) _).alloc (by rw [World.size_alloc]; omega) _)⟩ kr h4)
      have KRw := hid (fun (w1 : World) (oa : Option Addr) (on oc : Nat) (q : Obj) (h1 : Below A.heap.size A w1) => (by
        have b1 := (PW.out w1 h1).2
        have b2 := (b1.alloc b1.size q).alloc (by rw [World.size_alloc]; have := b1.size; omega) (.cells #[.int .i64 regs, .slice oa on oc] 73)
        exact ⟨hg2.below (Nat.le_refl _) b2, by have := hb.size; have := b2.size; omega⟩ : KR 73 2 ((w1.alloc q).alloc (.cells #[.int .i64 regs, .slice oa on oc] 73)) w.heap.size u4 (fs'.map fun p => p.1.cs) ∧ w.heap.size ≤ ((w1.alloc q).alloc (.cells #[.int .i64 regs, .slice oa on oc] 73)).heap.size))
      have CO := hid (fun (w1 : World) (oa : Option Addr) (on oc : Nat) (q : Obj) => (by
        have := crd_one 73 (w1.alloc q) (⟨regs, oa, on, oc⟩ : FH).cs 2 rfl
        rw [World.size_alloc] at this; exact this : CRd ((w1.alloc q).alloc (.cells (⟨regs, oa, on, oc⟩ : FH).cs.toArray 73)) (some ⟨w1.heap.size + 1, 0, none⟩) 2 [(⟨regs, oa, on, oc⟩ : FH).cs]))
      clear hg1 hg2 hg3 hc hbl hgj Do ok okA hlj hG bA hb
      cases hq : isG bs with
      | false =>
        have HF := hid (hnG.out hq)
        have K2 : Hid (Calls Try.prog 83 #[.agg #[.int .i64 regs, .slice ga gn gc]] A fun e w' => Below A.heap.size A w' ∧ e = .returned (.tuple #[.agg #[.int .i64 0, .slice none 0 0], .int .i64 100])) := hid (K1.out.mono (by
          rintro e w' ⟨h1, h2 | h2⟩
          · rw [hq] at h2; cases h2.1
          · exact ⟨h1, h2.2⟩))
        have PA := hid (fun (w1 : World) (h1 : Below A.heap.size A w1) (q : Obj) => (PW.out w1 h1).1.alloc (PW.out w1 h1).1.size q)
        clear K1 hq FIN KRw CO htG
        subst hA
        go_wp2_with (go_at_call 83; (refine (Hid.out K2).mono ?_; rintro e w1 ⟨hb1, rfl⟩; have HP := hid (PA.out w1 hb1); clear hb1))
        go_ret2
        exact ⟨HP.out _, .inr ⟨HF.out, rfl⟩⟩
      | true =>
        have HT := hid (htG.out hq)
        have K2 : Hid (Calls Try.prog 83 #[.agg #[.int .i64 regs, .slice ga gn gc]] A fun e w' => Below A.heap.size A w' ∧ ∃ v, e = .returned (.tuple #[.agg #[.int .i64 regs, v], .int .i64 0]) ∧ OpR w' A.heap.size v (layB bs)) := hid (K1.out.mono (by
          rintro e w' ⟨h1, h2 | h2⟩
          · exact ⟨h1, h2.2⟩
          · rw [hq] at h2; cases h2.1))
        clear K1 hq hnG htG
        subst hA
        go_wp2_with (first
          | (go_at_call 83; (refine (Hid.out K2).mono ?_; rintro e w1 ⟨hb1, v1, rfl, ho1⟩; obtain ⟨oa, oc, hv1, hr1, hn1⟩ := ho1.rd; obtain ⟨on, hon⟩ : ∃ on, on = (layB bs).length := ⟨_, rfl⟩; rw [← hon] at hv1; subst hv1; clear hon hr1 hn1))
          | (at_builtin; refine wpList_appK Try.underlying50 infoF rfl (by decide) (by decide) ((w1.alloc (.cells #[.int .i64 regs, .slice oa on oc] 73)).alloc (.cells #[.int .i64 regs, .slice oa on oc] 73)) rfl _ _ rfl u4 (.slice (some ⟨w1.heap.size + 1, 0, none⟩) 1 1) (by rfl) (by rfl) w.heap.size (fs'.map fun p => p.1.cs) (KRw.out w1 oa on oc _ hb1).1 (some ⟨w1.heap.size + 1, 0, none⟩) 1 1 rfl [(⟨regs, oa, on, oc⟩ : FH).cs] rfl (CO.out w1 oa on oc _) (rk_fh _) (fun e => by cases e) hlen (by omega) (KRw.out w1 oa on oc _ hb1).2 ?_; intro v' w' hh1 hh2 hh3; have HFN := hid (FIN.out w1 oa on oc _ v' w' hb1 ho1 hh1 hh2)))
        go_roundg g
        case measure => omega
        exact ⟨j + 1, by omega, by go_num, HT.out, HFN.out.1, HFN.out.2⟩
end Go.Proofs.Ytmhjnfibpngpmaa

