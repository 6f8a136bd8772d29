/- The document's value: records. -/
import Derived.Test.YtjfkcafocindjaaW
namespace Go.Proofs.Ytjfkcafocindjaa
open Go.RowKit Go.Deep
set_option linter.unusedVariables false
set_option linter.unusedSimpArgs false

/- A world with the result's block and the value's. -/
def W2 (w : World) : World := (w.alloc (.cells #[.int .i64 0, .int .i64 0, .string ⟨#[]⟩, .int .i64 0, .slice none 0 0] 45)).alloc (.cells #[.int .i64 4, .int .i64 0, .string ⟨#[]⟩, .int .i64 0, .slice none 0 0] 45)
theorem W2_below (w : World) : Below w.heap.size w (W2 w) := ((Below.refl _ _).alloc (Nat.le_refl _) _).alloc (by simp) _

structure Rec (w : World) (b off n cap : Nat) (r : List Nat) : Prop where
  rd : Rd w (.slice (some ⟨b, off, none⟩) n cap) (4 :: r)
  hl : n ≤ 1000000000
  hc : w.cell? ⟨b, off, none⟩ = some (.int .u8 4)
theorem Rec.n {w b off n cap r} (h : Rec w b off n cap r) : n = r.length + 1 ∧ n ≤ cap := by
  have := h.rd.cap
  simp at this
  omega
theorem Rec.byt {w b off n cap r} (h : Rec w b off n cap r) : Byt r := by obtain ⟨_, _, _, _, hb, _⟩ := h.rd; exact fun x hx => hb x (by simp [hx])
theorem Rec.c1 {w b off n cap r} (h : Rec w b off n cap r) {a' : Option Addr} {m c' : Nat} (ea : a' = (if cap = 1 then some ⟨b, off, none⟩ else some ⟨b, off + 1, none⟩)) (em : m = n - 1) (ec : c' = cap - 1) :
    Calls Try.prog 20 #[.slice a' m c'] (W2 w) fun e w' => e = .returned (uintV (dec r)) ∧ w' = W2 w := by
  have hn := h.n
  have := h.hl
  exact refUint_any _ _ r ((h.rd.below (Nat.le_refl _) (W2_below w)).sl 1 (by simp) (by rw [ea]; split <;> simp_all [Addr.add]) em ec) (by omega)
theorem Rec.at {w wr : World} {b off n cap r} (h : Rec w b off n cap r) (hb : Below w.heap.size w wr) {i : Nat} (hi : i ≤ r.length) {a' : Option Addr} {m c' : Nat} (ea : a' = (if cap = 1 + i then some ⟨b, off, none⟩ else some ⟨b, off + (1 + i), none⟩)) (em : m = n - (1 + i)) (ec : c' = cap - (1 + i)) : Rd wr (.slice a' m c') (r.drop i) := by
  have hs := (h.rd.below (Nat.le_refl _) hb).sl (1 + i) (by simp; omega) (a' := a') (m := m) (c' := c') (by rw [ea]; split <;> simp_all [Addr.add]) em ec
  rw [show List.drop (1 + i) (4 :: r) = r.drop i from by rw [Nat.add_comm]; rfl] at hs
  exact hs
theorem Rec.c2 {w b off n cap r} (h : Rec w b off n cap r) {i : Nat} (hi : i ≤ r.length) {a' : Option Addr} {m c' : Nat} (ea : a' = (if cap = 1 + i then some ⟨b, off, none⟩ else some ⟨b, off + (1 + i), none⟩)) (em : m = n - (1 + i)) (ec : c' = cap - (1 + i)) :
    Calls Try.prog 20 #[.slice a' m c'] (W2 w) fun e w' => e = .returned (uintV (dec (r.drop i))) ∧ w' = W2 w := by
  have hn := h.n
  have := h.hl
  exact refUint_any _ _ _ (h.at (W2_below w) hi ea em ec) (by simp; omega)

set_option maxRecDepth 10000 in
set_option maxHeartbeats 1000000 in
theorem rvr_none1 (w : World) (b off n cap : Nat) (r : List Nat) (fl : Bool) (h : Rec w b off n cap r) (hd : dec r = none) :
    Calls Try.prog 41 #[.slice (some ⟨b, off, none⟩) n cap, .bool fl] w fun e w' => e = .returned (valV none) ∧ Below w.heap.size w w' := by
  have hn := h.n
  have hl := h.hl
  have hc := h.hc
  have hb := World.block_lt_of_cell? _ _ hc
  simp only at hb
  have q0 : ((n : Int) == 0) = false := by simp; omega
  have q1 : 0 < n := by omega
  have q2 : 1 ≤ n := by omega
  have H1 : Hid (∀ (a' : Option Addr) (m c' : Nat), a' = (if cap = 1 then some ⟨b, off, none⟩ else some ⟨b, off + 1, none⟩) → m = n - 1 → c' = cap - 1 → Calls Try.prog 20 #[.slice a' m c'] (W2 w) fun e w' => e = .returned (uintV (dec r)) ∧ w' = W2 w) := hid fun a' m c' ea em ec => h.c1 ea em ec
  rw [hd] at H1
  unfold W2 at H1
  have hncap := hn.2
  clear h hn
  by_cases hc1 : cap = 1
  · subst hc1
    obtain rfl : n = 1 := by omega
    go_enter Try.func41, Try.ntmps41
    go_wp2_with (go_at_call 20; (refine (Hid.out H1 _ _ _ (by simp) (by omega) (by omega)).mono ?_; rintro e w2 ⟨rfl, rfl⟩; simp only [uintV]))
    refine bodyPost_ret (v := valV none) (by simp [results, Try.results41, go_sem, valV, zeroV]) rfl ⟨rfl, ((Below.refl _ _).alloc (Nat.le_refl _) _).alloc (by simp) _⟩
  · go_enter Try.func41, Try.ntmps41
    go_wp2_with (go_at_call 20; (refine (Hid.out H1 _ _ _ (by rw [if_neg hc1]) (by omega) (by omega)).mono ?_; rintro e w2 ⟨rfl, rfl⟩; simp only [uintV]))
    refine bodyPost_ret (v := valV none) (by simp [results, Try.results41, go_sem, valV, zeroV]) rfl ⟨rfl, ((Below.refl _ _).alloc (Nat.le_refl _) _).alloc (by simp) _⟩

set_option maxRecDepth 10000 in
set_option maxHeartbeats 1000000 in
theorem rvr_none2 (w : World) (b off n cap : Nat) (r : List Nat) (fl : Bool) (h : Rec w b off n cap r) (q size : Nat) (hd : dec r = some (q, size)) (hx : dec (r.drop size) = none ∨ fl = false ∨ 15 < q ∨ ∃ c k, dec (r.drop size) = some (c, k) ∧ 12 < c) :
    Calls Try.prog 41 #[.slice (some ⟨b, off, none⟩) n cap, .bool fl] w fun e w' => e = .returned (valV none) ∧ Below w.heap.size w w' := by
  have hn := h.n
  have hl := h.hl
  have hc := h.hc
  have hb := World.block_lt_of_cell? _ _ hc
  simp only at hb
  have q0 : ((n : Int) == 0) = false := by simp; omega
  have q1 : 0 < n := by omega
  have q2 : 1 ≤ n := by omega
  obtain ⟨_, hq64, hsz, hsz0, hsz1⟩ := dec_back h.byt hd
  have H1 : Hid (∀ (a' : Option Addr) (m c' : Nat), a' = (if cap = 1 then some ⟨b, off, none⟩ else some ⟨b, off + 1, none⟩) → m = n - 1 → c' = cap - 1 → Calls Try.prog 20 #[.slice a' m c'] (W2 w) fun e w' => e = .returned (uintV (dec r)) ∧ w' = W2 w) := hid fun a' m c' ea em ec => h.c1 ea em ec
  rw [hd] at H1
  have H2 : Hid (∀ (a' : Option Addr) (m c' : Nat), a' = (if cap = 1 + size then some ⟨b, off, none⟩ else some ⟨b, off + (1 + size), none⟩) → m = n - (1 + size) → c' = cap - (1 + size) → Calls Try.prog 20 #[.slice a' m c'] (W2 w) fun e w' => e = .returned (uintV (dec (r.drop size))) ∧ w' = W2 w) := hid fun a' m c' ea em ec => h.c2 hsz ea em ec
  have hc64 : ∀ c k, dec (r.drop size) = some (c, k) → c < 18446744073709551616 := fun c k e => (dec_back (h.byt.drop size) e).2.1
  unfold W2 at H1 H2
  have hncap := hn.2
  have hsn : 1 + size ≤ n := by omega
  have hc1 : ¬ cap = 1 := by omega
  have Hn := hid hn.1
  clear h hn
  cases hd2 : dec (r.drop size) with
  | none =>
    rw [hd2] at H2
    clear hx hc64
    by_cases hcs : cap = 1 + size
    · subst hcs
      go_enter Try.func41, Try.ntmps41
      go_wp2_with (first
        | (go_at_call 20; have hno := hm1; (refine (Hid.out H2 _ _ _ (by simp) (by omega) (by omega)).mono ?_; rintro e w2 ⟨rfl, rfl⟩; simp only [uintV]))
        | (go_at_call 20; (refine (Hid.out H1 _ _ _ (by rw [if_neg hc1]) (by omega) (by omega)).mono ?_; rintro e w2 ⟨rfl, rfl⟩; simp only [uintV]; have hm1 : True := trivial)))
      refine bodyPost_ret (v := valV none) (by simp [results, Try.results41, go_sem, valV, zeroV]) rfl ⟨rfl, ((Below.refl _ _).alloc (Nat.le_refl _) _).alloc (by simp) _⟩
    · go_enter Try.func41, Try.ntmps41
      go_wp2_with (first
        | (go_at_call 20; have hno := hm1; (refine (Hid.out H2 _ _ _ (by rw [if_neg hcs]) (by omega) (by omega)).mono ?_; rintro e w2 ⟨rfl, rfl⟩; simp only [uintV]))
        | (go_at_call 20; (refine (Hid.out H1 _ _ _ (by rw [if_neg hc1]) (by omega) (by omega)).mono ?_; rintro e w2 ⟨rfl, rfl⟩; simp only [uintV]; have hm1 : True := trivial)))
      refine bodyPost_ret (v := valV none) (by simp [results, Try.results41, go_sem, valV, zeroV]) rfl ⟨rfl, ((Below.refl _ _).alloc (Nat.le_refl _) _).alloc (by simp) _⟩
  | some p =>
    obtain ⟨c, k⟩ := p
    have hc64' := hc64 c k hd2
    have hcs : ¬ cap = 1 + size := by
      have := Hn.out
      intro e
      rw [List.drop_eq_nil_of_le (by omega)] at hd2
      cases hd2
    rw [hd2] at H2
    have hx' : fl = false ∨ 15 < q ∨ 12 < c := by
      rcases hx with e | e | e | ⟨c', k', e, e'⟩
      · rw [hd2] at e; cases e
      · exact .inl e
      · exact .inr (.inl e)
      · rw [hd2] at e; cases e; exact .inr (.inr e')
    clear hx hc64
    cases fl with
    | false =>
      clear hx'
      go_enter Try.func41, Try.ntmps41
      go_wp2_with (first
        | (go_at_call 20; have hno := hm1; (refine (Hid.out H2 _ _ _ (by rw [if_neg hcs]) (by omega) (by omega)).mono ?_; rintro e w2 ⟨rfl, rfl⟩; simp only [uintV]))
        | (go_at_call 20; (refine (Hid.out H1 _ _ _ (by rw [if_neg hc1]) (by omega) (by omega)).mono ?_; rintro e w2 ⟨rfl, rfl⟩; simp only [uintV]; have hm1 : True := trivial)))
      refine bodyPost_ret (v := valV none) (by simp [results, Try.results41, go_sem, valV, zeroV]) rfl ⟨rfl, ((Below.refl _ _).alloc (Nat.le_refl _) _).alloc (by simp) _⟩
    | true =>
      by_cases hq : 15 < q
      · clear hx'
        go_enter Try.func41, Try.ntmps41
        go_wp2_with (first
          | (go_at_call 20; have hno := hm1; (refine (Hid.out H2 _ _ _ (by rw [if_neg hcs]) (by omega) (by omega)).mono ?_; rintro e w2 ⟨rfl, rfl⟩; simp only [uintV]))
          | (go_at_call 20; (refine (Hid.out H1 _ _ _ (by rw [if_neg hc1]) (by omega) (by omega)).mono ?_; rintro e w2 ⟨rfl, rfl⟩; simp only [uintV]; have hm1 : True := trivial)))
        refine bodyPost_ret (v := valV none) (by simp [results, Try.results41, go_sem, valV, zeroV]) rfl ⟨rfl, ((Below.refl _ _).alloc (Nat.le_refl _) _).alloc (by simp) _⟩
      · have hc12 : 12 < c := by
          rcases hx' with e | e | e
          · cases e
          · exact absurd e hq
          · exact e
        clear hx'
        go_enter Try.func41, Try.ntmps41
        go_wp2_with (first
          | (go_at_call 20; have hno := hm1; (refine (Hid.out H2 _ _ _ (by rw [if_neg hcs]) (by omega) (by omega)).mono ?_; rintro e w2 ⟨rfl, rfl⟩; simp only [uintV]))
          | (go_at_call 20; (refine (Hid.out H1 _ _ _ (by rw [if_neg hc1]) (by omega) (by omega)).mono ?_; rintro e w2 ⟨rfl, rfl⟩; simp only [uintV]; have hm1 : True := trivial)))
        refine bodyPost_ret (v := valV none) (by simp [results, Try.results41, go_sem, valV, zeroV]) rfl ⟨rfl, ((Below.refl _ _).alloc (Nat.le_refl _) _).alloc (by simp) _⟩

theorem rv_false (w : World) (v : Value) (bs : List Nat) (h : Rd w v bs) (hl : bs.length ≤ 1000000000) :
    Calls Try.prog 41 #[v, .bool false] w fun e w' => e = .returned (valV (simpD bs)) ∧ Below w.heap.size w w' := by
  cases bs with
  | nil => obtain ⟨a, cap, rfl⟩ := h.len; exact rv_nil w a cap false
  | cons c r =>
    by_cases h4 : c = 4
    · subst h4
      have h' := h
      obtain ⟨a, cap, rfl, h1, h2, h3⟩ := h
      obtain ⟨b, off, rfl, hc⟩ := h3 0 4 rfl
      rw [Nat.add_zero] at hc
      rw [show simpD (4 :: r) = none from by simp [simpD]]
      cases hd : dec r with
      | none => exact rvr_none1 w b off _ cap r false ⟨h', hl, hc⟩ hd
      | some p => obtain ⟨q, size⟩ := p; exact rvr_none2 w b off _ cap r false ⟨h', hl, hc⟩ q size hd (.inr (.inl rfl))
    · exact rv_flat w v false c r h (by simp at hl; omega) h4
end Go.Proofs.Ytjfkcafocindjaa
