/- Value. -/
import Derived.Test.YtjfkcafocindjaaR
namespace Go.Proofs.Ytjfkcafocindjaa
open Go.RowKit Go.Deep
set_option linter.unusedVariables false
set_option linter.unusedSimpArgs false

theorem goD_le {α : Type} {D : List Nat → Option (α × Nat)} (hD : ∀ bs x k, Byt bs → D bs = some (x, k) → k ≤ bs.length) {bs : List Nat} (hb : Byt bs) : ∀ (c i : Nat) (acc xs : List α) (k : Nat), i ≤ bs.length → goD D bs c i acc = some (xs, k) → k ≤ bs.length
  | 0, i, acc, xs, k, hi, e => by simp only [goD] at e; cases e; exact hi
  | c + 1, i, acc, xs, k, hi, e => by
    simp only [goD] at e
    split at e
    · cases e
    · rename_i x q hd
      have := hD _ _ _ (hb.drop i) hd
      rw [List.length_drop] at this
      exact goD_le hD hb c (i + q) _ xs k (by omega) e
theorem rowD_le {bs : List Nat} (hb : Byt bs) {fs : List Hd} {k : Nat} (e : rowD simpD bs = some (fs, k)) : k ≤ bs.length := by
  unfold rowD at e
  split at e
  · cases e
  · rename_i c i hd
    split at e
    · cases e
    · exact goD_le (fun bs x k hb e => simpD_le hb e) hb c i [] fs k (dec_back hb hd).2.2.1 e

structure Vl where
  kind : Int
  int : Int
  text : ByteArray
  rc : Int
  fs : List Hd
def vl (h : Hd) : Vl := ⟨h.kind, h.int, h.text, h.rc, []⟩
def valD : List Nat → Option (Vl × Nat)
  | [] => none
  | c :: r => if c = 4 then (match dec r with
      | none => none
      | some (q, size) => if 15 < q then none else match rowD simpD (r.drop size) with
        | none => none
        | some (fs, k) => some (⟨4, 0, ⟨#[]⟩, (q : Int), fs⟩, 1 + size + k))
    else match simpD (c :: r) with
      | none => none
      | some (h, k) => some (vl h, k)
structure Rep (w : World) (x : Vl) (h : Hd) : Prop where
  kind : h.kind = x.kind
  int : h.int = x.int
  text : h.text = x.text
  rc : h.rc = x.rc
  n : h.n = x.fs.length
  fs : VRd w h.a x.fs
def ValP (B : Nat) (o : Option (Vl × Nat)) (e : Ending) (w' : World) : Prop := match o with
  | none => e = .returned (valV none)
  | some (x, k) => ∃ h : Hd, e = .returned (.tuple #[h.v, .int .i64 (k : Int), .int .i64 0]) ∧ Rep w' x h ∧ ∀ b, (Value.slice h.a h.n h.cap).ownBlock = some b → B ≤ b

theorem simpD_flat {bs : List Nat} {h : Hd} {k : Nat} (e : simpD bs = some (h, k)) : h.n = 0 ∧ h.a = none ∧ h.rc = 0 := by
  cases bs with
  | nil => cases e
  | cons c r =>
    simp only [simpD] at e
    split at e
    · split at e <;> cases e
      exact ⟨rfl, rfl, rfl⟩
    · split at e
      · split at e <;> cases e
        exact ⟨rfl, rfl, rfl⟩
      · split at e
        · split at e
          · cases e
          · split at e <;> cases e
            exact ⟨rfl, rfl, rfl⟩
        · cases e
theorem Rep.flat (w : World) {bs : List Nat} {h : Hd} {k : Nat} (e : simpD bs = some (h, k)) : Rep w (vl h) h :=
  ⟨rfl, rfl, rfl, rfl, (simpD_flat e).1, fun j x hx => by simp [vl] at hx⟩

theorem Rd.sl {w : World} {a : Option Addr} {n cap : Nat} {bs : List Nat} (h : Rd w (.slice a n cap) bs) (k : Nat) (hk : k ≤ bs.length) {a' : Option Addr} {m c' : Nat} (ha : a' = (if cap = k then a else Option.map (fun x => x.add k) a)) (hm : m = n - k) (hc : c' = cap - k) : Rd w (.slice a' m c') (bs.drop k) := by
  subst ha hm hc
  have := h.from k hk
  unfold sliced at this
  rw [Nat.mul_one] at this
  exact this

/- What stands in the block behind the result. -/
theorem res_cells {w w2 : World} {c : Array Value} (h : Below (w.heap.size + 1) (w.alloc (.cells c 45)) w2) : w2.heap[w.heap.size]? = some (.cells c 45 (0, 0)) := by
  rw [h.block _ (by omega)]; exact heap_alloc_new w _

/- The result's five cells written. -/
def five (w : World) (b : Nat) (h : Hd) : World := ((((w.setCell ⟨b, 0, none⟩ (.int .i64 h.kind)).setCell ⟨b, 1, none⟩ (.int .i64 h.int)).setCell ⟨b, 2, none⟩ (.string h.text)).setCell ⟨b, 3, none⟩ (.int .i64 h.rc)).setCell ⟨b, 4, none⟩ (.slice h.a h.n h.cap)
theorem five_heap (w : World) (b : Nat) (h : Hd) {k : Nat} (hk : k ≠ b) : (five w b h).heap[k]? = w.heap[k]? := by
  unfold five
  rw [Below.heap_setCell _ _ _ _ hk, Below.heap_setCell _ _ _ _ hk, Below.heap_setCell _ _ _ _ hk, Below.heap_setCell _ _ _ _ hk, Below.heap_setCell _ _ _ _ hk]
theorem five_below {B : Nat} {w0 w : World} (hb : Below B w0 w) {b : Nat} (hB : B ≤ b) (h : Hd) : Below B w0 (five w b h) := by
  unfold five
  exact ((((hb.setCell hB _).setCell hB _).setCell hB _).setCell hB _).setCell hB _
theorem first_below {w w2 : World} {o : Obj} (h : Below (w.heap.size + 1) (w.alloc o) w2) : Below w.heap.size w w2 :=
  ((Below.refl _ _).alloc (Nat.le_refl _) o).trans (h.mono (by omega))
def zeroH : Hd := ⟨0, 0, ⟨#[]⟩, 0, none, 0, 0⟩

set_option maxRecDepth 10000 in
set_option maxHeartbeats 1000000 in
theorem value_nil (w : World) (a : Option Addr) (cap : Nat) :
    Calls Try.prog 23 #[.slice a 0 cap] w fun e w' => Below w.heap.size w w' ∧ ValP w.heap.size (valD []) e w' := by
  have hs := hid (simple_any (w.alloc (.cells #[.int .i64 0, .int .i64 0, .string ⟨#[]⟩, .int .i64 0, .slice none 0 0] 45)) _ [] (Rd.empty _ a cap) (by simp))
  rw [show simpD [] = none from rfl] at hs
  go_enter Try.func23, Try.ntmps23
  go_wp2_with (go_at_call 39; (refine (Hid.out hs).mono ?_; rintro e w2 ⟨rfl, hb2⟩; (try simp only [World.size_alloc] at hb2); have hr := res_cells hb2; have g0 := cellOf hr 0; have g1 := cellOf hr 1; have g2 := cellOf hr 2; have g3 := cellOf hr 3; have g4 := cellOf hr 4; have gf := freeOf hr; simp only [List.getElem?_toArray, List.getElem?_cons_zero, List.getElem?_cons_succ] at g0 g1 g2 g3 g4; clear hr; simp only [valV, zeroV]))
  refine bodyPost_ret (v := valV none) (by simp [results, Try.results23, go_sem, valV, zeroV, g0, g1, g2, g3, g4]) rfl ⟨five_below (first_below hb2) (Nat.le_refl _) zeroH, rfl⟩

set_option maxRecDepth 10000 in
set_option maxHeartbeats 1000000 in
theorem value_flat (w : World) (b off n cap c : Nat) (r : List Nat) (h : Rd w (.slice (some ⟨b, off, none⟩) n cap) (c :: r)) (hl : n ≤ 1000000000) (hc : w.cell? ⟨b, off, none⟩ = some (.int .u8 (c : Int))) (hc4 : c ≠ 4) (hc5 : c < 256) :
    Calls Try.prog 23 #[.slice (some ⟨b, off, none⟩) n cap] w fun e w' => Below w.heap.size w w' ∧ ValP w.heap.size (valD (c :: r)) e w' := by
  have hn := h.cap.1
  have hs := simple_any (w.alloc (.cells #[.int .i64 0, .int .i64 0, .string ⟨#[]⟩, .int .i64 0, .slice none 0 0] 45)) _ (c :: r) (h.below (Nat.le_refl _) ((Below.refl _ _).alloc (Nat.le_refl _) _)) (by omega)
  have hb := World.block_lt_of_cell? _ _ hc
  simp only at hb
  have q0 : ((n : Int) == 0) = false := by simp; simp at hn; omega
  have q4 : ((c : Int) != 4) = true := by simp; omega
  have q1 : 0 < n := by simp at hn; omega
  clear h hn
  cases hsd : simpD (c :: r) with
  | none =>
    have V : Hid (valD (c :: r) = none) := by refine hid ?_; simp only [valD]; rw [if_neg hc4, hsd]
    rw [hsd] at hs
    have Hs := hid hs
    clear hs
    go_enter Try.func23, Try.ntmps23
    go_wp2_with (go_at_call 39; (refine (Hid.out Hs).mono ?_; rintro e w2 ⟨rfl, hb2⟩; (try simp only [World.size_alloc] at hb2); have hr := res_cells hb2; have g0 := cellOf hr 0; have g1 := cellOf hr 1; have g2 := cellOf hr 2; have g3 := cellOf hr 3; have g4 := cellOf hr 4; have gf := freeOf hr; simp only [List.getElem?_toArray, List.getElem?_cons_zero, List.getElem?_cons_succ] at g0 g1 g2 g3 g4; clear hr; simp only [valV, zeroV]))
    refine bodyPost_ret (v := valV none) (by simp [results, Try.results23, go_sem, valV, zeroV, g0, g1, g2, g3, g4]) rfl ⟨five_below (first_below hb2) (Nat.le_refl _) zeroH, by rw [V.out]; rfl⟩
  | some p =>
    obtain ⟨hh, k⟩ := p
    have V : Hid (valD (c :: r) = some (vl hh, k)) := by refine hid ?_; simp only [valD]; rw [if_neg hc4, hsd]
    have RR := hid (fun w => Rep.flat w hsd)
    have Hfl := hid (simpD_flat hsd).2.1
    rw [hsd] at hs
    have Hs := hid hs
    clear hs
    go_enter Try.func23, Try.ntmps23
    go_wp2_with (go_at_call 39; (refine (Hid.out Hs).mono ?_; rintro e w2 ⟨rfl, hb2⟩; (try simp only [World.size_alloc] at hb2); have hr := res_cells hb2; have g0 := cellOf hr 0; have g1 := cellOf hr 1; have g2 := cellOf hr 2; have g3 := cellOf hr 3; have g4 := cellOf hr 4; have gf := freeOf hr; simp only [List.getElem?_toArray, List.getElem?_cons_zero, List.getElem?_cons_succ] at g0 g1 g2 g3 g4; clear hr; simp only [valV, Hd.v]))
    refine bodyPost_ret (v := .tuple #[hh.v, .int .i64 (k : Int), .int .i64 0]) (by simp [results, Try.results23, go_sem, Hd.v, g0, g1, g2, g3, g4]) rfl ⟨five_below (first_below hb2) (Nat.le_refl _) hh, by rw [V.out]; exact ⟨hh, rfl, RR.out _, fun b e => by rw [Hfl.out] at e; cases e⟩⟩

set_option maxRecDepth 10000 in
set_option maxHeartbeats 1000000 in
theorem value_rec (w : World) (b off n cap : Nat) (r : List Nat) (h : Rd w (.slice (some ⟨b, off, none⟩) n cap) (4 :: r)) (hl : n ≤ 1000000000) (hc : w.cell? ⟨b, off, none⟩ = some (.int .u8 4)) :
    Calls Try.prog 23 #[.slice (some ⟨b, off, none⟩) n cap] w fun e w' => Below w.heap.size w w' ∧ ValP w.heap.size (valD (4 :: r)) e w' := by
  have hn := h.cap.1
  have hcap := h.cap.2
  simp only [List.length_cons] at hn hcap
  have hby : Byt r := by obtain ⟨_, _, _, _, hb, _⟩ := h; exact fun x hx => hb x (by simp [hx])
  have hb := World.block_lt_of_cell? _ _ hc
  simp only at hb
  have q0 : ((n : Int) == 0) = false := by simp; omega
  have q1 : 0 < n := by omega
  have q2 : 1 ≤ n := by omega
  have h0 := h.below (Nat.le_refl _) ((Below.refl _ _).alloc (Nat.le_refl _) (.cells #[.int .i64 0, .int .i64 0, .string ⟨#[]⟩, .int .i64 0, .slice none 0 0] 45))
  have H1 : Hid (∀ (a' : Option Addr) (m c' : Nat), a' = (if cap = 1 then some ⟨b, off, none⟩ else some ⟨b, off + 1, none⟩) → m = n - 1 → c' = cap - 1 → Calls Try.prog 17 #[.slice a' m c'] (w.alloc (.cells #[.int .i64 0, .int .i64 0, .string ⟨#[]⟩, .int .i64 0, .slice none 0 0] 45)) fun e w' => e = .returned (uintV (dec r)) ∧ w' = w.alloc (.cells #[.int .i64 0, .int .i64 0, .string ⟨#[]⟩, .int .i64 0, .slice none 0 0] 45)) := hid (by
    intro a' m c' ea em ec
    exact uint_any _ _ r (h0.sl 1 (by simp) (by rw [ea]; split <;> simp_all [Addr.add]) em ec) (by omega))
  cases hd : dec r with
  | none =>
    have V : Hid (valD (4 :: r) = none) := by refine hid ?_; simp [valD, hd]
    rw [hd] at H1
    clear h h0
    rcases Nat.lt_or_ge 1 cap with hc1 | hc1
    · have hc1' : ¬ cap = 1 := by omega
      go_enter Try.func23, Try.ntmps23
      go_wp2_with (go_at_call 17; (refine (Hid.out H1 _ _ _ (by rw [if_neg hc1']) (by omega) (by omega)).mono ?_; rintro e w2 ⟨rfl, rfl⟩; simp only [uintV]))
      refine bodyPost_ret (v := valV none) (by simp [results, Try.results23, go_sem, valV, zeroV]) rfl ⟨(Below.refl _ _).alloc (Nat.le_refl _) _, by rw [V.out]; rfl⟩
    · obtain rfl : cap = 1 := by omega
      go_enter Try.func23, Try.ntmps23
      go_wp2_with (go_at_call 17; (refine (Hid.out H1 _ _ _ (by simp) (by omega) (by omega)).mono ?_; rintro e w2 ⟨rfl, rfl⟩; simp only [uintV]))
      refine bodyPost_ret (v := valV none) (by simp [results, Try.results23, go_sem, valV, zeroV]) rfl ⟨(Below.refl _ _).alloc (Nat.le_refl _) _, by rw [V.out]; rfl⟩
  | some p =>
    obtain ⟨q, size⟩ := p
    obtain ⟨_, _, hsz, hsz0, hsz1⟩ := dec_back hby hd
    rw [hd] at H1
    have hc1 : 1 < cap := by omega
    have hc1' : ¬ cap = 1 := by omega
    by_cases hq : 15 < q
    · have V : Hid (valD (4 :: r) = none) := by refine hid ?_; simp [valD, hd, hq]
      clear h h0
      go_enter Try.func23, Try.ntmps23
      go_wp2_with (go_at_call 17; (refine (Hid.out H1 _ _ _ (by rw [if_neg hc1']) (by omega) (by omega)).mono ?_; rintro e w2 ⟨rfl, rfl⟩; simp only [uintV]))
      refine bodyPost_ret (v := valV none) (by simp [results, Try.results23, go_sem, valV, zeroV]) rfl ⟨(Below.refl _ _).alloc (Nat.le_refl _) _, by rw [V.out]; rfl⟩
    · have H2 : Hid (∀ (a' : Option Addr) (m c' : Nat), a' = (if cap = 1 + size then some ⟨b, off, none⟩ else some ⟨b, off + (1 + size), none⟩) → m = n - (1 + size) → c' = cap - (1 + size) → Calls Try.prog 40 #[.slice a' m c', .func (.func 39) #[] #[]] (w.alloc (.cells #[.int .i64 0, .int .i64 0, .string ⟨#[]⟩, .int .i64 0, .slice none 0 0] 45)) fun e w' => Below (w.heap.size + 1) (w.alloc (.cells #[.int .i64 0, .int .i64 0, .string ⟨#[]⟩, .int .i64 0, .slice none 0 0] 45)) w' ∧ RowP (w.heap.size + 1) (rowD simpD (r.drop size)) e w') := hid (by
        intro a' m c' ea em ec
        have hs := h0.sl (1 + size) (by simp; omega) (a' := a') (m := m) (c' := c') (by rw [ea]; split <;> simp_all [Addr.add]) em ec
        rw [show List.drop (1 + size) (4 :: r) = r.drop size from by rw [Nat.add_comm]; rfl] at hs
        have := rowS_any _ _ (r.drop size) hs (by simp; omega)
        simp only [World.size_alloc] at this
        exact this)
      clear h h0
      have hsn : 1 + size ≤ n := by omega
      have hncap : n ≤ cap := by omega
      have Hn := hid hn
      clear hn hcap
      cases hrd : rowD simpD (r.drop size) with
      | none =>
        have V : Hid (valD (4 :: r) = none) := by refine hid ?_; simp [valD, hd, hq, hrd]
        rw [hrd] at H2
        by_cases hcs : cap = 1 + size
        · subst hcs
          go_enter Try.func23, Try.ntmps23
          go_wp2_with (first
            | (go_at_call 17; (refine (Hid.out H1 _ _ _ (by rw [if_neg hc1']) (by omega) (by omega)).mono ?_; rintro e w2 ⟨rfl, rfl⟩; simp only [uintV]))
            | (go_at_call 40; (refine (Hid.out H2 _ _ _ (by simp) (by omega) (by omega)).mono ?_; rintro e w2 ⟨hb2, hP⟩; obtain rfl := hP; (try simp only [World.size_alloc] at hb2); have hr := res_cells hb2; have g0 := cellOf hr 0; have g1 := cellOf hr 1; have g2 := cellOf hr 2; have g3 := cellOf hr 3; have g4 := cellOf hr 4; have gf := freeOf hr; simp only [List.getElem?_toArray, List.getElem?_cons_zero, List.getElem?_cons_succ] at g0 g1 g2 g3 g4; clear hr)))
          refine bodyPost_ret (v := valV none) (by simp [results, Try.results23, go_sem, valV, zeroV, g0, g1, g2, g3, g4]) rfl ⟨five_below (first_below hb2) (Nat.le_refl _) zeroH, by rw [V.out]; rfl⟩
        · go_enter Try.func23, Try.ntmps23
          go_wp2_with (first
            | (go_at_call 17; (refine (Hid.out H1 _ _ _ (by rw [if_neg hc1']) (by omega) (by omega)).mono ?_; rintro e w2 ⟨rfl, rfl⟩; simp only [uintV]))
            | (go_at_call 40; (refine (Hid.out H2 _ _ _ (by rw [if_neg hcs]) (by omega) (by omega)).mono ?_; rintro e w2 ⟨hb2, hP⟩; obtain rfl := hP; (try simp only [World.size_alloc] at hb2); have hr := res_cells hb2; have g0 := cellOf hr 0; have g1 := cellOf hr 1; have g2 := cellOf hr 2; have g3 := cellOf hr 3; have g4 := cellOf hr 4; have gf := freeOf hr; simp only [List.getElem?_toArray, List.getElem?_cons_zero, List.getElem?_cons_succ] at g0 g1 g2 g3 g4; clear hr)))
          refine bodyPost_ret (v := valV none) (by simp [results, Try.results23, go_sem, valV, zeroV, g0, g1, g2, g3, g4]) rfl ⟨five_below (first_below hb2) (Nat.le_refl _) zeroH, by rw [V.out]; rfl⟩
      | some p =>
        obtain ⟨fs, k⟩ := p
        have V : Hid (valD (4 :: r) = some (⟨4, 0, ⟨#[]⟩, (q : Int), fs⟩, 1 + size + k)) := by refine hid ?_; simp [valD, hd, hq, hrd]
        rw [hrd] at H2
        have hk := rowD_le (hby.drop size) hrd
        rw [List.length_drop] at hk
        have hk2 : k ≤ 1000000000 := by have := Hn.out; omega
        have hcs : ¬ cap = 1 + size := by
          have := Hn.out
          intro e
          rw [List.drop_eq_nil_of_le (by omega)] at hrd
          cases hrd
        go_enter Try.func23, Try.ntmps23
        go_wp2_with (first
          | (go_at_call 17; (refine (Hid.out H1 _ _ _ (by rw [if_neg hc1']) (by omega) (by omega)).mono ?_; rintro e w2 ⟨rfl, rfl⟩; simp only [uintV]))
          | (go_at_call 40; (refine (Hid.out H2 _ _ _ (by rw [if_neg hcs]) (by omega) (by omega)).mono ?_; rintro e w2 ⟨hb2, hP⟩; obtain ⟨v', rfl, hrow⟩ := hP; obtain ⟨a3, c3, rfl, _⟩ := hrow.form; (try simp only [World.size_alloc] at hb2); have hr := res_cells hb2; have g0 := cellOf hr 0; have g1 := cellOf hr 1; have g2 := cellOf hr 2; have g3 := cellOf hr 3; have g4 := cellOf hr 4; have gf := freeOf hr; simp only [List.getElem?_toArray, List.getElem?_cons_zero, List.getElem?_cons_succ] at g0 g1 g2 g3 g4; clear hr)))
        refine bodyPost_ret (v := .tuple #[Hd.v ⟨4, 0, ⟨#[]⟩, (q : Int), a3, fs.length, c3⟩, .int .i64 ((1 + size + k : Nat) : Int), .int .i64 0]) (by simp [results, Try.results23, go_sem, Hd.v, g0, g1, g2, g3, g4]) rfl ⟨five_below (first_below hb2) (Nat.le_refl _) ⟨4, 0, ⟨#[]⟩, (q : Int), a3, fs.length, c3⟩, ?_⟩
        rw [V.out]
        refine ⟨_, rfl, ⟨rfl, rfl, rfl, rfl, rfl, ?_⟩, fun b' e' => by have := (hrow.own b' e').1; omega⟩
        exact VRow.rd (hrow.same fun g' e' => five_heap _ _ ⟨4, 0, ⟨#[]⟩, (q : Int), a3, fs.length, c3⟩ (by have := (hrow.own g' e').1; omega))

theorem value_any (w : World) (v : Value) (bs : List Nat) (h : Rd w v bs) (hl : bs.length ≤ 1000000000) :
    Calls Try.prog 23 #[v] w fun e w' => Below w.heap.size w w' ∧ ValP w.heap.size (valD bs) e w' := by
  cases bs with
  | nil => obtain ⟨a, cap, rfl⟩ := h.len; exact value_nil w a cap
  | cons c r =>
    have h' := h
    obtain ⟨a, cap, rfl, h1, h2, h3⟩ := h
    obtain ⟨b, off, rfl, hc⟩ := h3 0 c rfl
    rw [Nat.add_zero] at hc
    by_cases h4 : c = 4
    · subst h4; exact value_rec w b off _ cap r h' hl hc
    · exact value_flat w b off _ cap c r h' hl hc h4 (h2 c (by simp))
theorem valD_le {bs : List Nat} (hb : Byt bs) {x : Vl} {k : Nat} (e : valD bs = some (x, k)) : k ≤ bs.length := by
  cases bs with
  | nil => cases e
  | cons c r =>
    have hr : Byt r := fun x hx => hb x (by simp [hx])
    simp only [valD] at e
    split at e
    · split at e
      · cases e
      · rename_i q size hd
        split at e
        · cases e
        · split at e
          · cases e
          · rename_i fs k' hrd
            cases e
            have h1 := (dec_back hr hd).2.2.1
            have h2 := rowD_le (hr.drop size) hrd
            rw [List.length_drop] at h2
            simp; omega
    · split at e
      · cases e
      · rename_i h k' hs
        cases e
        exact simpD_le hb hs
end Go.Proofs.Ytjfkcafocindjaa
