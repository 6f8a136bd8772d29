/- Int and Text. -/
import Derived.Test.YthnolocldeokeaaGreatDoorJAE
import Derived.Shelf.Strconv.Clone
namespace Go.Proofs.YthnolocldeokeaaGreatDoor
open Go.RowKit Go.Deep
set_option linter.unusedVariables false
set_option linter.unusedSimpArgs false
set_option maxRecDepth 100000

def unzz (n : Nat) : Int := if n % 2 = 1 then -((n / 2 : Nat) : Int) - 1 else ((n / 2 : Nat) : Int)
def intV : Option (Nat × Nat) → Value
  | none => .tuple #[.int .i64 0, .int .i64 0, .int .i64 20]
  | some (n, k) => .tuple #[.int .i64 (unzz n), .int .i64 (k : Int), .int .i64 0]

theorem and_one (n : Nat) (h : n < 18446744073709551616) : bits .and .u64 (n : Int) 1 = ((n % 2 : Nat) : Int) := by
  have h' := bits_and_u64_nat n 1 h (by omega)
  rw [show n &&& 1 = n % 2 from Nat.and_one_is_mod n] at h'
  exact h'
theorem xor_pos (m : Nat) (h : m < 9223372036854775808) : bits .xor .i64 (if IntKind.i64.signed = true then -1 else 9223372036854775807) (m : Int) = -(m : Int) - 1 := by
  show IntKind.i64.wrap ((BitVec.ofInt 64 (-1) ^^^ BitVec.ofInt 64 (m : Int)).toNat : Int) = _
  have e2 : BitVec.ofInt 64 (-1) = BitVec.allOnes 64 := by decide
  rw [e2, BitVec.xor_comm, BitVec.xor_allOnes, BitVec.toNat_not, BitVec.ofInt_natCast, BitVec.toNat_ofNat, IntKind.wrap_i64]
  omega

set_option maxHeartbeats 400000 in
theorem int_any (w : World) (v : Value) (bs : List Nat) (h : Rd w v bs) (hl : bs.length ≤ 1000000000000) :
    Calls Tryz.prog 62 #[v] w fun e w' => e = .returned (intV (dec bs)) ∧ w' = w := by
  have hu := uint_any w v bs h hl
  cases hd : dec bs with
  | none =>
    rw [hd] at hu
    have Hu := hid hu
    clear hu hd h
    go_enter Tryz.func62, Tryz.ntmps62
    go_wp2_with (go_at_call 81; refine (Hid.out Hu).mono ?_; rintro e w' ⟨rfl, rfl⟩; simp only [uintV])
    go_ret3
    exact ⟨rfl, rfl⟩
  | some p =>
    obtain ⟨n, k⟩ := p
    rw [hd] at hu
    obtain ⟨_, hn, _⟩ := dec_back (by obtain ⟨_, _, _, _, hb, _⟩ := h; exact hb) hd
    have Hu := hid hu
    have ha := and_one n hn
    clear hu hd h
    by_cases h2 : n % 2 = 1
    · rw [h2] at ha
      have ha' : bits .and .u64 (n : Int) 1 = 1 := ha
      have E : Hid (bits .xor .i64 (if IntKind.i64.signed = true then -1 else 9223372036854775807) ((n : Int) / 2) = unzz n) := by
        refine hid ?_
        have := xor_pos (n / 2) (by omega)
        unfold unzz
        rw [if_pos h2]
        simpa using this
      clear ha h2
      go_enter Tryz.func62, Tryz.ntmps62
      go_wp2_with (go_at_call 81; refine (Hid.out Hu).mono ?_; rintro e w' ⟨rfl, rfl⟩; simp only [uintV])
      go_ret3
      refine ⟨?_, rfl⟩
      simp only [intV]
      rw [← E.out]
      rfl
    · rw [show n % 2 = 0 from by omega] at ha
      have ha' : bits .and .u64 (n : Int) 1 = 0 := ha
      have E : Hid ((n : Int) / 2 = unzz n) := by
        refine hid ?_
        unfold unzz
        rw [if_neg h2]
        simp
      clear ha h2
      go_enter Tryz.func62, Tryz.ntmps62
      go_wp2_with (go_at_call 81; refine (Hid.out Hu).mono ?_; rintro e w' ⟨rfl, rfl⟩; simp only [uintV])
      go_ret3
      refine ⟨?_, rfl⟩
      simp only [intV]
      rw [← E.out]
      rfl

abbrev TextR : Type := Except Nat (List Nat × Nat)
def textD (most : Nat) (bs : List Nat) : TextR := match dec bs with
  | none => .error 20
  | some (n, k) => if most < n then .error 21 else if bs.length < k + n then .error 20 else .ok (((bs.drop k).take n), (k + n))
def textV : TextR → Value
  | .error e => .tuple #[.string ByteArray.empty, .int .i64 0, .int .i64 (e : Int)]
  | .ok (s, k) => .tuple #[.string (ofB s), .int .i64 (k : Int), .int .i64 0]

set_option maxHeartbeats 400000 in
theorem text_any (w : World) (v : Value) (bs : List Nat) (h : Rd w v bs) (hl : bs.length ≤ 1000000000000) :
    Calls Tryz.prog 64 #[v] w fun e w' => e = .returned (textV (textD 64 bs)) ∧ w' = w := by
  have hu := uint_any w v bs h hl
  have hb : Byt bs := by obtain ⟨_, _, _, _, hb, _⟩ := h; exact hb
  cases hd : dec bs with
  | none =>
    have E : Hid (textD 64 bs = .error 20) := by refine hid ?_; simp [textD, hd]
    rw [hd] at hu
    have Hu := hid hu
    clear hu hd h
    go_enter Tryz.func64, Tryz.ntmps64
    go_wp2_with (go_at_call 81; refine (Hid.out Hu).mono ?_; rintro e w' ⟨rfl, rfl⟩; simp only [uintV])
    go_ret3
    exact ⟨by rw [E.out]; rfl, rfl⟩
  | some p =>
    obtain ⟨n, k⟩ := p
    rw [hd] at hu
    obtain ⟨_, hn, hk, _, _⟩ := dec_back hb hd
    have Hu := hid hu
    by_cases h64 : 64 < n
    · have E : Hid (textD 64 bs = .error 21) := by refine hid ?_; simp [textD, hd, h64]
      clear hu hd h
      go_enter Tryz.func64, Tryz.ntmps64
      go_wp2_with (go_at_call 81; refine (Hid.out Hu).mono ?_; rintro e w' ⟨rfl, rfl⟩; simp only [uintV])
      go_ret3
      exact ⟨by rw [E.out]; rfl, rfl⟩
    · by_cases hs : bs.length < k + n
      · have E : Hid (textD 64 bs = .error 20) := by refine hid ?_; simp [textD, hd, h64, hs]
        obtain ⟨a, cap, rfl⟩ := h.len
        clear hu hd h
        go_enter Tryz.func64, Tryz.ntmps64
        go_wp2_with (go_at_call 81; refine (Hid.out Hu).mono ?_; rintro e w' ⟨rfl, rfl⟩; simp only [uintV])
        go_ret3
        exact ⟨by rw [E.out]; rfl, rfl⟩
      · have E : Hid (textD 64 bs = .ok (((bs.drop k).take n), (k + n))) := by refine hid ?_; simp [textD, hd, h64, hs]
        obtain ⟨a, cap, rfl⟩ := h.len
        have hp := (h.part k (k + n) (by omega) (by omega)).conv
        have hcap : bs.length ≤ cap := by obtain ⟨_, _, e, hc, _⟩ := h; cases e; exact hc
        unfold sliced at hp
        rw [show k + n - k = n from by omega, Nat.mul_one, show List.drop k (List.take (k + n) bs) = (bs.drop k).take n from by rw [List.drop_take]; congr 1; omega] at hp
        clear hu hd h
        go_enter Tryz.func64, Tryz.ntmps64
        go_wp2_with (go_at_call 81; refine (Hid.out Hu).mono ?_; rintro e w' ⟨rfl, rfl⟩; simp only [uintV])
        all_goals (go_ret3; exact ⟨by rw [E.out]; rfl, rfl⟩)
end Go.Proofs.YthnolocldeokeaaGreatDoor

namespace Go.Proofs.YthnolocldeokeaaGreatDoor
open Go.RowKit Go.Deep
set_option linter.unusedVariables false
set_option linter.unusedSimpArgs false
set_option maxRecDepth 100000

theorem run_appR (w : World) (ty : TypeId) (B : Nat) (v u : Value) (xs ys : List Nat) (h : Row w B v xs) (hu : Rd w u ys) (hnil : u.ownBlock = none → u = .slice none 0 0) (hB : B ≤ w.heap.size) (hl : xs.length ≤ 1099511627776) (hl2 : ys.length ≤ 1099511627776) :
    ∃ v' w', (Builtin.append_ #[52, 52] ty #[v, u]).run Tryz.prog w = .ok v' w' ∧ Row w' B v' (xs ++ ys) ∧ Grw w v w' v' := by
  obtain ⟨i0, hi, hz0, hz1, hz2⟩ := info_parts info5
  obtain ⟨a, cap, rfl, hc, hb, h3⟩ := hu
  cases a with
  | none =>
    have e := hnil rfl
    injection e with _ e1 e2
    have : ys = [] := List.eq_nil_of_length_eq_zero e1
    subst this
    subst e2
    exact ⟨v, w, run_append_owned_none w B 52 ty 5 i0 1 Tryz.underlying52 hi v xs.length (bv xs) h, by simpa using h, Grw.refl _ _⟩
  | some ad =>
    obtain ⟨v', w', hrun, hown, hg, _, hat⟩ := run_append_own_at (P := Tryz.prog) w B 52 ty 5 i0 (.int .u8 0) 1 1 Tryz.underlying52 hi hz0 hz1 hz2 rfl (by decide) v xs.length (bv xs) h ad ys.length cap (bv ys) (by simp [bv_length]) (by
      intro j x hx
      simp only [bv, List.getElem?_map, Option.map_eq_some_iff] at hx
      obtain ⟨y, hy, rfl⟩ := hx
      obtain ⟨b, off, e, hcell⟩ := h3 j y hy
      cases e
      rw [Addr.add_lit]; exact hcell) (bv_one ys) (by unfold maxLen; omega) (by omega) hB
    refine ⟨v', w', hrun, ?_, hg, ?_⟩
    · unfold Row
      rw [bv_append, List.length_append]
      exact hown
    · rcases hat with hat | hat
      · exact .inl hat
      · exact .inr ⟨_, hat, Nat.le_refl _⟩

theorem wpList_appR {ops : Array Oper} {rest : List Oper} {o : Oper} {a : Act} {Q : Exit → Act → World → Prop} (w : World) (hgd : o.guard = none) (sl x : Operand)
    (ho : o.op = .call { callee := .builtin .append, args := #[sl, x], argTypes := #[52, 52] }) (v u : Value) (hs : a.eval sl = v) (hx : a.eval x = u)
    (B : Nat) (xs ys : List Nat) (h : Row w B v xs) (hu : Rd w u ys) (hnil : u.ownBlock = none → u = .slice none 0 0) (hB : B ≤ w.heap.size) (hl : xs.length ≤ 1099511627776) (hl2 : ys.length ≤ 1099511627776)
    (k : ∀ v' w', Row w' B v' (xs ++ ys) → Grw w v w' v' → wpList Tryz.prog ops Q rest (a.put o.dst v') w') :
    wpList Tryz.prog ops Q (o :: rest) a w := by
  refine wpList_plain hgd fun K hK => ?_
  obtain ⟨v', w', hr, h2, h3⟩ := run_appR w o.type B v u xs ys h hu hnil hB hl hl2
  unfold Oper.wp execOp
  simp only [ho, resolve, invoke, builtin, Sem.run_bind, Sem.run_pure, Result.andThen_ok, List.map_toArray, List.map_cons, List.map_nil, hs, hx, hr]
  exact hK _ _ (k v' w' h2 h3)

theorem Row.nilOf {w B v xs} (h : Row w B v xs) : v.ownBlock = none → v = .slice none 0 0 := by
  intro e
  rcases h.2 with ⟨rfl, _⟩ | ⟨g, cap, cur, rfl, _⟩
  · rfl
  · cases e

end Go.Proofs.YthnolocldeokeaaGreatDoor

namespace Go.Proofs
open Go.Shelf
end Go.Proofs
namespace Go.Proofs.YthnolocldeokeaaGreatDoor
open Go.RowKit Go.Deep Go.Shelf
set_option linter.unusedVariables false
set_option linter.unusedSimpArgs false
/- Rows. -/
structure Rk (k : Nat) (rows : List (List Value)) : Prop where
  len : ∀ r ∈ rows, r.length = k
  one : ∀ r ∈ rows, ∀ u ∈ r, u.oneCell' = true
theorem Rk.app {k : Nat} {l m : List (List Value)} (h : Rk k l) (g : Rk k m) : Rk k (l ++ m) := ⟨fun r hr => (List.mem_append.1 hr).elim (h.len r) (g.len r), fun r hr => (List.mem_append.1 hr).elim (h.one r) (g.one r)⟩
theorem flat_len {k : Nat} : ∀ {rows : List (List Value)}, (∀ r ∈ rows, r.length = k) → rows.flatten.length = rows.length * k
  | [], _ => by simp
  | r :: l, h => by
    have h1 := flat_len (rows := l) (fun x hx => h x (List.mem_cons_of_mem _ hx))
    have h2 := h r (List.mem_cons_self ..)
    rw [List.flatten_cons, List.length_append, h1, h2, List.length_cons, Nat.add_mul]; omega
theorem flat_at {k : Nat} : ∀ {rows : List (List Value)}, (∀ r ∈ rows, r.length = k) → ∀ (j : Nat) (r : List Value), rows[j]? = some r → ∀ i, i < k → rows.flatten[j * k + i]? = r[i]?
  | [], _, j, r, e => by simp at e
  | p :: l, h, 0, r, e => fun i hi => by
    simp at e; subst e
    rw [List.flatten_cons, Nat.zero_mul, Nat.zero_add, List.getElem?_append_left (by rw [h p (List.mem_cons_self ..)]; exact hi)]
  | p :: l, h, j + 1, r, e => fun i hi => by
    have h1 : l[j]? = some r := by simpa using e
    have h2 := flat_at (rows := l) (fun x hx => h x (List.mem_cons_of_mem _ hx)) j r h1 i hi
    have hp := h p (List.mem_cons_self ..)
    have he : (j + 1) * k + i - p.length = j * k + i := by rw [hp, Nat.add_mul]; omega
    rw [List.flatten_cons, List.getElem?_append_right (by rw [hp, Nat.add_mul]; omega), he]; exact h2
theorem flat_of {k : Nat} (k0 : 0 < k) {rows : List (List Value)} (h : ∀ r ∈ rows, r.length = k) {q : Nat} {u : Value} (e : rows.flatten[q]? = some u) : ∃ r, rows[q / k]? = some r ∧ r[q % k]? = some u := by
  have hq : q < rows.length * k := by rw [← flat_len h]; exact (List.getElem?_eq_some_iff.1 e).1
  have hj : q / k < rows.length := (Nat.div_lt_iff_lt_mul k0).2 hq
  refine ⟨rows[q / k], List.getElem?_eq_getElem hj, ?_⟩
  rw [← flat_at h (q / k) _ (List.getElem?_eq_getElem hj) (q % k) (Nat.mod_lt _ k0), show q / k * k + q % k = q by rw [Nat.mul_comm]; exact Nat.div_add_mod q k]
  exact e
def KR (E : TypeId) (k : Nat) (w : World) (B : Nat) (v : Value) (rows : List (List Value)) : Prop := w.ownsRow B E k v rows.length rows.flatten ∧ Rk k rows
theorem KR.nil (E : TypeId) (k : Nat) (w : World) (B : Nat) : KR E k w B (.slice none 0 0) [] := ⟨⟨by simp, .inl ⟨rfl, rfl⟩⟩, ⟨fun r hr => by simp at hr, fun r hr => by simp at hr⟩⟩
theorem KR.keep {E : TypeId} {k : Nat} {w w' : World} {B : Nat} {v : Value} {l : List (List Value)} (h : KR E k w B v l) (e : ∀ g, v.ownBlock = some g → w'.heap[g]? = w.heap[g]?) : KR E k w' B v l := by
  refine ⟨⟨h.1.1, ?_⟩, h.2⟩
  rcases h.1.2 with h2 | ⟨g, cap, cur, rfl, h3, h4, h5⟩
  · exact .inl h2
  · exact .inr ⟨g, cap, cur, rfl, h3, (e g rfl).trans h4, h5⟩
theorem KR.own {E : TypeId} {k : Nat} {w : World} {B : Nat} {v : Value} {l : List (List Value)} (h : KR E k w B v l) {g : Nat} (e : v.ownBlock = some g) : B ≤ g ∧ g < w.heap.size := by
  rcases h.1.2 with ⟨rfl, _⟩ | ⟨g', cap, cur, rfl, h3, h4, h5⟩
  · cases e
  · cases e; exact ⟨h3, lt_of_heap h4⟩
theorem KR.below {E : TypeId} {k : Nat} {w w' : World} {B C : Nat} {v : Value} {l : List (List Value)} (h : KR E k w B v l) (hC : w.heap.size ≤ C) (q : Below C w w') : KR E k w' B v l := h.keep fun g e => q.block g (by have := (h.own e).2; omega)
theorem KR.lower {E : TypeId} {k : Nat} {w : World} {B C : Nat} {v : Value} {l : List (List Value)} (h : KR E k w B v l) (hC : C ≤ B) : KR E k w C v l := by
  refine ⟨⟨h.1.1, ?_⟩, h.2⟩
  rcases h.1.2 with h2 | ⟨g, cap, cur, rfl, h3, h4⟩
  · exact .inl h2
  · exact .inr ⟨g, cap, cur, rfl, by omega, h4⟩
theorem KR.rd {E : TypeId} {k : Nat} {w : World} {B : Nat} {v : Value} {l : List (List Value)} (h : KR E k w B v l) : ∃ a cap, v = .slice a l.length cap ∧ l.length ≤ cap ∧ CRd w a k l ∧ (a = none → cap = 0) ∧ ∀ x : Addr, a = some x → B ≤ x.block := by
  rcases h.1.2 with ⟨rfl, h2⟩ | ⟨g, cap, cur, rfl, h3, h4, h5, h6, h7, h8⟩
  · have : l = [] := List.eq_nil_of_length_eq_zero h2
    subst this
    exact ⟨none, 0, rfl, by simp, fun j x hx => by simp at hx, fun _ => rfl, fun x e => by cases e⟩
  · refine ⟨_, cap, rfl, h5, fun j r hr => ⟨g, 0, rfl, lt_of_heap h4, fun i hi => ?_⟩, (fun e => by cases e), (fun x e => by cases e; exact h3)⟩
    have hj := (List.getElem?_eq_some_iff.1 hr).1
    have hlt : j * k + i < l.length * k := by
      have : (j + 1) * k ≤ l.length * k := Nat.mul_le_mul_right k hj
      rw [Nat.add_mul] at this; omega
    rw [cellOf h4, ← flat_at h.2.len j r hr i hi, ← h8, List.getElem?_take, if_pos hlt, Nat.zero_add]
    simp
theorem KR.one {E : TypeId} {k : Nat} (w : World) (r : List Value) (hr : r.length = k) (h1 : ∀ u ∈ r, u.oneCell' = true) : KR E k (w.alloc (.cells r.toArray E)) w.heap.size (.slice (some ⟨w.heap.size, 0, none⟩) 1 1) [r] := by
  refine ⟨⟨by simp [hr], .inr ⟨w.heap.size, 1, r.toArray, rfl, Nat.le_refl _, heap_alloc_new w _, Nat.le_refl _, by unfold maxLen; omega, by simp [hr], ?_⟩⟩, ⟨fun x hx => by simp at hx; rw [hx]; exact hr, fun x hx => by simp at hx; rw [hx]; exact h1⟩⟩
  simp [← hr]
theorem run_appK {T E : TypeId} {k bytes : Nat} {z : Value} (hU : Tryz.prog.underlying T = some (.slice E)) (hI : (Tryz.prog.info? E).map (fun i => (i.zero, i.size, i.bytes)) = some (some z, k, bytes)) (hz : z.cells.size = k) (k0 : 0 < k) (hby : bytes ≤ 100)
    (w : World) (ty : TypeId) (B : Nat) (v : Value) (l : List (List Value)) (h : KR E k w B v l) (a : Option Addr) (m c : Nat) (l2 : List (List Value)) (hm : m = l2.length) (hr : CRd w a k l2) (hR : Rk k l2) (hnil : a = none → c = 0) (hl : l.length ≤ 1000000) (hl2 : m ≤ 1000000) (hB : B ≤ w.heap.size) :
    ∃ v' w', (Builtin.append_ #[T, T] ty #[v, .slice a m c]).run Tryz.prog w = .ok v' w' ∧ KR E k w' B v' (l ++ l2) ∧ w.grownBy w' v.ownBlock ∧ (v'.ownBlock = v.ownBlock ∨ v'.ownBlock = some w.heap.size) := by
  obtain ⟨i0, hi, hz0, hz1, hz2⟩ := info_parts hI
  cases a with
  | none =>
    have hc0 := hnil rfl
    have hl0 : l2 = [] := by
      cases l2 with
      | nil => rfl
      | cons o r => obtain ⟨b, off, e, _⟩ := hr 0 o rfl; cases e
    subst hl0
    subst hc0
    have hm0 : m = 0 := hm
    subst hm0
    exact ⟨v, w, run_append_owned_none w B T ty E i0 k hU hi v l.length l.flatten h.1, by rw [List.append_nil]; exact h, ⟨rfl, rfl, rfl, Nat.le_refl _, fun _ _ _ => rfl⟩, .inl rfl⟩
  | some ad =>
    have hcell : ∀ q u, l2.flatten[q]? = some u → w.cell? (ad.add q) = some u := by
      intro q u hu
      obtain ⟨r, hr1, hr2⟩ := flat_of k0 hR.len hu
      obtain ⟨b, off, e, _, hc⟩ := hr (q / k) r hr1
      cases e
      have := hc (q % k) (Nat.mod_lt _ k0)
      rw [hr2] at this
      have he : off + q / k * k + q % k = off + q := by rw [Nat.add_assoc, Nat.mul_comm, Nat.div_add_mod]
      rw [Addr.add_lit, ← he]
      exact this
    have hone : ∀ u ∈ l2.flatten, u.oneCell' = true := fun u hu => by
      obtain ⟨r, hr1, hr2⟩ := List.mem_flatten.1 hu
      exact hR.one r hr1 u hr2
    obtain ⟨v', w', hrun, hown, hgr, _, hat⟩ := run_append_own_at (P := Tryz.prog) w B T ty E i0 z k bytes hU hi hz0 hz1 hz2 hz k0 v l.length l.flatten h.1 ad m c l2.flatten (by rw [flat_len hR.len, hm]) hcell hone (by unfold maxLen; omega) (by
      have : (l.length + m) * bytes ≤ 2000000 * 100 := Nat.mul_le_mul (by omega) hby
      omega) hB
    refine ⟨v', w', hrun, ⟨?_, h.2.app hR⟩, hgr, hat⟩
    rw [List.length_append, ← hm, List.flatten_append]
    exact hown
theorem wpList_appK {T E : TypeId} {k bytes : Nat} {z : Value} (hU : Tryz.prog.underlying T = some (.slice E)) (hI : (Tryz.prog.info? E).map (fun i => (i.zero, i.size, i.bytes)) = some (some z, k, bytes)) (hz : z.cells.size = k) (k0 : 0 < k) (hby : bytes ≤ 100)
    {ops : Array Oper} {rest : List Oper} {o : Oper} {act : Act} {Q : Exit → Act → World → Prop} (w : World) (hgd : o.guard = none) (s x : Operand)
    (ho : o.op = .call { callee := .builtin .append, args := #[s, x], argTypes := #[T, T] }) (v u : Value) (hs : act.eval s = v) (hx : act.eval x = u) (B : Nat) (l : List (List Value)) (h : KR E k w B v l) (a : Option Addr) (m c : Nat) (hu : u = .slice a m c) (l2 : List (List Value)) (hm : m = l2.length) (hr : CRd w a k l2) (hR : Rk k l2) (hnil : a = none → c = 0) (hl : l.length ≤ 1000000) (hl2 : m ≤ 1000000) (hB : B ≤ w.heap.size)
    (kk : ∀ v' w', KR E k w' B v' (l ++ l2) → w.grownBy w' v.ownBlock → (v'.ownBlock = v.ownBlock ∨ v'.ownBlock = some w.heap.size) → wpList Tryz.prog ops Q rest (act.put o.dst v') w') :
    wpList Tryz.prog ops Q (o :: rest) act w := by
  refine wpList_plain hgd fun K hK => ?_
  subst hu
  obtain ⟨v', w', hrun, h2, h3, h4⟩ := run_appK hU hI hz k0 hby w o.type B v l h a m c l2 hm hr hR hnil hl hl2 hB
  unfold Oper.wp execOp
  simp only [ho, resolve, invoke, builtin, Sem.run_bind, Sem.run_pure, Result.andThen_ok, List.map_toArray, List.map_cons, List.map_nil, hs, hx, hrun]
  exact hK _ _ (kk v' w' h2 h3 h4)
theorem KR.grown {E : TypeId} {k : Nat} {w0 w w' : World} {B : Nat} {v : Value} {l : List (List Value)} (hb : Below B w0 w) (h : KR E k w B v l) (hg : w.grownBy w' v.ownBlock) (hB : B ≤ w.heap.size) : Below B w0 w' :=
  hb.grown hg hB (fun g e => (h.own e).1)
theorem infoS : (Tryz.prog.info? 9).map (fun i => (i.zero, i.size, i.bytes)) = some (some (.string ⟨#[]⟩), 1, 16) := by kernel_rfl
theorem infoT : (Tryz.prog.info? 32).map (fun i => (i.zero, i.size, i.bytes)) = some (some (.agg #[.int .i64 0, .int .i64 0]), 2, 16) := by kernel_rfl
theorem infoI : (Tryz.prog.info? 2).map (fun i => (i.zero, i.size, i.bytes)) = some (some (.int .i64 0), 1, 8) := by kernel_rfl
theorem infoF : (Tryz.prog.info? 46).map (fun i => (i.zero, i.size, i.bytes)) = some (some (.agg #[.int .i64 0, .slice none 0 0]), 2, 32) := by kernel_rfl
theorem infoG : (Tryz.prog.info? 35).map (fun i => (i.zero, i.size, i.bytes)) = some (some (.agg #[.string ⟨#[]⟩, .slice none 0 0, .int .i64 0, .int .i64 0]), 4, 56) := by kernel_rfl
theorem infoR : (Tryz.prog.info? 75).map (fun i => (i.zero, i.size, i.bytes)) = some (some (.agg #[.string ⟨#[]⟩, .slice none 0 0, .slice none 0 0]), 3, 64) := by kernel_rfl
theorem infoM : (Tryz.prog.info? 79).map (fun i => (i.zero, i.size, i.bytes)) = some (some (.agg #[.string ⟨#[]⟩, .int .i64 0, .int .i64 0, .int .i64 0, .int .i64 0]), 5, 48) := by kernel_rfl
end Go.Proofs.YthnolocldeokeaaGreatDoor

namespace Go.Proofs.YthnolocldeokeaaGreatDoor
open Go.RowKit Go.Deep Go.Shelf
set_option linter.unusedVariables false
set_option linter.unusedSimpArgs false
def tyc (t : TyP) : List Value := [.int .i64 t.1, .int .i64 t.2]
def inc (x : Int) : List Value := [.int .i64 x]
def stc (s : ByteArray) : List Value := [.string s]
theorem rk_ty (ts : List TyP) : Rk 2 (ts.map tyc) := ⟨fun r hr => by obtain ⟨t, _, rfl⟩ := List.mem_map.1 hr; rfl, fun r hr u hu => by
  obtain ⟨t, _, rfl⟩ := List.mem_map.1 hr
  simp [tyc] at hu
  rcases hu with rfl | rfl <;> rfl⟩
theorem rk_in (xs : List Int) : Rk 1 (xs.map inc) := ⟨fun r hr => by obtain ⟨t, _, rfl⟩ := List.mem_map.1 hr; rfl, fun r hr u hu => by
  obtain ⟨t, _, rfl⟩ := List.mem_map.1 hr
  simp [inc] at hu
  subst hu; rfl⟩
theorem rk_st (s : ByteArray) : Rk 1 [stc s] := ⟨fun r hr => by simp at hr; subst hr; rfl, fun r hr u hu => by
  simp at hr; subst hr
  simp [stc] at hu
  subst hu; rfl⟩
theorem TRd.crd {w : World} {a : Option Addr} {ts : List TyP} (h : TRd w a ts) : CRd w a 2 (ts.map tyc) := fun j r e => by
  rw [List.getElem?_map] at e
  obtain ⟨t, ht, rfl⟩ := Option.map_eq_some_iff.1 e
  obtain ⟨b, off, e1, h1, h2⟩ := h j t ht
  refine ⟨b, off, e1, World.block_lt_of_cell? w _ h1, fun i hi => ?_⟩
  rcases (show i = 0 ∨ i = 1 by omega) with rfl | rfl
  · exact h1
  · exact h2
theorem CRd.trd {w : World} {a : Option Addr} {ts : List TyP} (h : CRd w a 2 (ts.map tyc)) : TRd w a ts := fun j t ht => by
  obtain ⟨b, off, e1, _, hc⟩ := h j (tyc t) (by rw [List.getElem?_map, ht]; rfl)
  exact ⟨b, off, e1, hc 0 (by omega), hc 1 (by omega)⟩
def JRd (w : World) (a : Option Addr) (xs : List Int) : Prop := CRd w a 1 (xs.map inc)
theorem crd_one (E : TypeId) (w : World) (r : List Value) (k : Nat) (hk : r.length = k) : CRd (w.alloc (.cells r.toArray E)) (some ⟨w.heap.size, 0, none⟩) k [r] := fun j x e => by
  cases j with
  | succ j => simp at e
  | zero =>
    simp at e; subst e
    refine ⟨w.heap.size, 0, rfl, by rw [World.size_alloc]; omega, fun i hi => ?_⟩
    rw [cellOf (heap_alloc_new w _)]
    simp
end Go.Proofs.YthnolocldeokeaaGreatDoor

namespace Go.Proofs.YthnolocldeokeaaGreatDoor
open Go.RowKit Go.Deep Go.Shelf
set_option linter.unusedVariables false
set_option linter.unusedSimpArgs false
set_option maxRecDepth 100000
/- What is put behind a row of one's own. -/
def ApP (w : World) (B : Nat) (v : Value) (ys : List Nat) (e : Ending) (w' : World) : Prop := ∃ v', e = .returned v' ∧ Row w' B v' ys ∧ Grw w v w' v'
theorem Grw.ofBelow {w w' : World} (v : Value) (b : Below w.heap.size w w') : Grw w v w' v := ⟨⟨b.os, b.tape, b.output, b.size, fun j hj _ => b.block j hj⟩, .inl rfl⟩
theorem Grw.undrew {w w' : World} {v v' : Value} (h : Grw w.drew v w' v') : Grw w v w' v' := (Grw.ofBelow v (Below.refl _ w).drew).trans h
def inR (k : Int) : Prop := -9223372036854775808 ≤ k ∧ k ≤ 9223372036854775807
theorem putInt_lim (w : World) (k : Int) (hk : inR k) : Calls Tryz.prog 55 #[.int .i64 k] w fun e w' => ∃ v', e = .returned v' ∧ Row w' w.heap.size v' (enc (zz k)) ∧ Below w.heap.size w w' := putInt_any w k hk.1 hk.2
theorem enc_zz_le (k : Int) (hk : inR k) : (enc (zz k)).length ≤ 10 := enc_le _ (zz_lt k hk.1 hk.2)
set_option maxHeartbeats 1000000 in
theorem appInt_any (w : World) (B : Nat) (v : Value) (xs : List Nat) (k : Int) (h : Row w B v xs) (hB : B ≤ w.heap.size) (hl : xs.length ≤ 1000000000) (hk : inR k) :
    Calls Tryz.prog 25 #[v, .int .i64 k] w (ApP w B v (xs ++ enc (zz k))) := by
  have K := hid (putInt_lim w k hk)
  have H := hid h
  have HE := hid (enc_zz_le k hk)
  have HBy := hid (enc_byt (zz k))
  clear h hk
  go_enter Tryz.func25, Tryz.ntmps25
  go_wp2_with (first
    | (go_at_call 55; (refine (Hid.out K).mono ?_; rintro e w1 ⟨v1, rfl, hr, hb⟩; have HR := hid hr; have HB := hid hb; clear hr hb))
    | (at_builtin; refine wpList_appR _ rfl _ _ rfl _ _ (by rfl) (by rfl) B xs _ (H.out.below (Nat.le_refl _) HB.out) (HR.out.rd HBy.out) HR.out.nilOf (Nat.le_trans hB HB.out.size) (by omega) (by have := HE.out; omega) ?_; intro v2 w2 h1 h2; have H1 := hid h1; have H2 := hid h2; clear h1 h2))
  go_ret
  exact ⟨_, rfl, H1.out, (Grw.ofBelow v HB.out).trans H2.out⟩
set_option maxHeartbeats 1000000 in
theorem appText_any (w : World) (B : Nat) (v : Value) (xs : List Nat) (s : ByteArray) (h : Row w B v xs) (hB : B ≤ w.heap.size) (hl : xs.length ≤ 1000000000) (hs : s.size ≤ 1000000) :
    Calls Tryz.prog 27 #[v, .string s] w (ApP w B v (xs ++ encX s)) := by
  have K := hid (putText_any w s (by omega))
  have H := hid h
  have HE : Hid ((encX s).length ≤ 1000010) := hid (by unfold encX; rw [List.length_append, sb_length]; have := enc_le s.size (by omega); omega)
  have HBy := hid (encX_byt s)
  clear h hs
  go_enter Tryz.func27, Tryz.ntmps27
  go_wp2_with (first
    | (go_at_call 56; (refine (Hid.out K).mono ?_; rintro e w1 ⟨v1, rfl, hr, hb⟩; have HR := hid hr; have HB := hid hb; clear hr hb))
    | (at_builtin; refine wpList_appR _ rfl _ _ rfl _ _ (by rfl) (by rfl) B xs _ (H.out.below (Nat.le_refl _) HB.out) (HR.out.rd HBy.out) HR.out.nilOf (Nat.le_trans hB HB.out.size) (by omega) (by have := HE.out; omega) ?_; intro v2 w2 h1 h2; have H1 := hid h1; have H2 := hid h2; clear h1 h2))
  go_ret
  exact ⟨_, rfl, H1.out, (Grw.ofBelow v HB.out).trans H2.out⟩
set_option maxHeartbeats 1000000 in
theorem appNumber_any (w : World) (B : Nat) (v : Value) (xs : List Nat) (k : Int) (h : Row w B v xs) (hB : B ≤ w.heap.size) (hl : xs.length ≤ 1000000000) (hk : inR k) :
    Calls Tryz.prog 30 #[v, .int .i64 k] w (ApP w B v (xs ++ enc (zz k))) := by
  have K := hid (appInt_any w B v xs k h hB hl hk)
  clear h hk
  go_enter Tryz.func30, Tryz.ntmps30
  go_wp2_with (go_at_call 25; (refine (Hid.out K).mono ?_; rintro e w1 ⟨v1, rfl, hr, hb⟩; have HR := hid hr; have HB := hid hb; clear hr hb))
  go_ret
  exact ⟨_, rfl, HR.out, HB.out⟩
def encTy (t : TyP) : List Nat := enc (zz t.1) ++ enc (zz t.2)
set_option maxHeartbeats 1000000 in
theorem appType_any (w : World) (B : Nat) (v : Value) (xs : List Nat) (t : TyP) (h : Row w B v xs) (hB : B ≤ w.heap.size) (hl : xs.length ≤ 100000000) (hk : inR t.1 ∧ inR t.2) :
    Calls Tryz.prog 54 #[v, .agg #[.int .i64 t.1, .int .i64 t.2]] w (ApP w B v (xs ++ encTy t)) := by
  obtain ⟨t1, t2⟩ := t
  simp only at hk ⊢
  obtain ⟨W0, hW0⟩ : ∃ W0, W0 = w.alloc (.cells #[.int .i64 t1, .int .i64 t2] 32) := ⟨_, rfl⟩
  obtain ⟨X, hX⟩ : ∃ X, X = w.heap.size := ⟨_, rfl⟩
  have mX : W0.heap[X]? = some (.cells #[.int .i64 t1, .int .i64 t2] 32 (0, 0)) := by rw [hW0, hX]; exact heap_alloc_new w _
  have r0 : Row W0 B v xs := by rw [hW0]; exact h.alloc _
  have hB0 : B ≤ W0.heap.size := by rw [hW0, World.size_alloc]; omega
  have own : some X ≠ v.ownBlock := fun e => by have := (h.own X e.symm).2; omega
  have K1 := hid (appNumber_any W0.drew B v xs t1 r0.drew hB0 (by omega) hk.1)
  have K2 := hid (fun (V : World) (u : Value) (hr : Row V B u (xs ++ enc (zz t1))) (hb : B ≤ V.heap.size) => appNumber_any V B u (xs ++ enc (zz t1)) t2 hr hb (by rw [List.length_append]; have := enc_zz_le t1 hk.1; omega) hk.2)
  have ST : Hid (∀ (V : World) (u : Value), Grw W0 v V u → V.cell? ⟨X, 0, none⟩ = some (.int .i64 t1) ∧ V.cell? ⟨X, 1, none⟩ = some (.int .i64 t2)) := hid (fun V u hg => by
    have h2 := (hg.1.block X (lt_of_heap mX) own).trans mX
    exact ⟨cellOf h2 0, cellOf h2 1⟩)
  have UN : Hid (∀ (V : World) (u : Value), Grw W0 v V u → Grw w v V u) := hid (fun V u hg => by rw [hW0] at hg; exact hg.unalloc)
  obtain ⟨x0, x1⟩ := ST.out W0 v (Grw.refl _ _)
  have HE : Hid (xs ++ encTy (t1, t2) = xs ++ enc (zz t1) ++ enc (zz t2)) := hid (by simp [encTy])
  clear h r0 mX own hk
  go_enter Tryz.func54, Tryz.ntmps54
  go_upto_region 1 with fail
  rw [← hX, ← hW0]
  clear hX hW0
  go_region_held3 (fun V => V.cell? ⟨X, 0, none⟩ = some (.int .i64 t1) ∧ V.cell? ⟨X, 1, none⟩ = some (.int .i64 t2)) (first | exact s2 | exact s1 | go_keep) (first
    | (have hno := hs1; (go_at_call 30; (refine (K2.out w1 u1 HR1.out HB1.out).mono ?_; rintro e w2 ⟨u2, rfl, hr2, hg2⟩; have HR2 := hid hr2; have HG2 := hid (HG1.out.trans hg2); have s2 := ST.out w2 u2 HG2.out; clear hr2 hg2)))
    | (go_at_call 30; (refine (Hid.out K1).mono ?_; rintro e w1 ⟨u1, rfl, hr1, hg1⟩; have HR1 := hid hr1; have HG1 := hid hg1.undrew; have HB1 := hid (Nat.le_trans hB0 hg1.size); have s1 := ST.out w1 u1 HG1.out; have hs1 := True.intro; clear hr1 hg1)))
  go_wp2
  go_ret
  exact ⟨_, rfl, by rw [HE.out]; exact HR2.out, UN.out _ _ HG2.out⟩
end Go.Proofs.YthnolocldeokeaaGreatDoor

