/- PutValue of a simple value; known. -/
import Derived.Test.YtjfkcafocindjaaI
namespace Go.Proofs.Ytjfkcafocindjaa
open Go.RowKit Go.Deep
set_option linter.unusedVariables false
set_option linter.unusedSimpArgs false

theorem bytes_same (w : World) (v1 v2 : Value) (xs : List Nat) (h1 : Rd w v1 xs) (h2 : Rd w v2 xs) :
    Calls Try.prog 13 #[v1, v2] w fun e w' => e = .returned (.bool true) ∧ w' = w := by
  refine (bytes_any w v1 v2 xs xs h1 h2).mono ?_
  rintro e w' ⟨rfl, rfl⟩
  exact ⟨by simp, rfl⟩

theorem Rd.lit {w : World} {b : Nat} (xs : List Nat) (hb : Byt xs) {c : Array Value} {f : Nat × Nat} (h : w.heap[b]? = some (.cells c 5 f)) (hc : c = (bv xs).toArray) : Rd w (.slice (some ⟨b, 0, none⟩) xs.length xs.length) xs := by
  subst hc
  refine ⟨_, _, rfl, Nat.le_refl _, hb, fun j x hx => ⟨b, 0, rfl, ?_⟩⟩
  rw [cellOf h]
  simp [bv, hx]

set_option maxRecDepth 10000 in
set_option maxHeartbeats 1000000 in
theorem isPlain_simple (w : World) (h : Hd) (hin : h.In) (hk : h.kind ≠ 4) :
    Calls Try.prog 44 #[h.v] w fun e w' => e = .returned (.bool (simpleB h)) ∧ w' = (w.alloc (.cells h.v.cells 45)).alloc (.cells h.v.cells 45) := by
  have hs := hid (isSimple_any (w.alloc (.cells h.v.cells 45)) h hin)
  obtain ⟨kind, int, text, rc, a, n, cap⟩ := h
  have hk' : (kind != 4) = true := by simpa using hk
  generalize hb : simpleB ⟨kind, int, text, rc, a, n, cap⟩ = sB at hs ⊢
  simp only [Hd.v, Value.cells] at hs ⊢
  clear hb hin hk
  go_enter Try.func44, Try.ntmps44
  go_wp2_with (go_at_call 50; (refine (Hid.out hs).mono ?_; rintro e w' ⟨rfl, rfl⟩))
  go_ret
  exact ⟨rfl, rfl⟩

set_option maxRecDepth 10000 in
set_option maxHeartbeats 1000000 in
theorem putSimple_any (w : World) (h : Hd) (hin : h.In) (hk : h.kind ≠ 4) (hs : simpleB h = true) :
    Calls Try.prog 31 #[h.v] w fun e w' => ∃ v', e = .returned (.tuple #[v', .int .i64 0]) ∧ Row w' w.heap.size v' (encS h) ∧ Below w.heap.size w w' := by
  have h1 := isPlain_simple (w.alloc (.cells h.v.cells 45)) h hin hk
  rw [hs] at h1
  have H1 := hid h1
  have H2 := hid (appendSimple_any (((w.alloc (.cells h.v.cells 45)).alloc (.cells h.v.cells 45)).alloc (.cells h.v.cells 45)) w.heap.size (.slice none 0 0) [] h hin hs (Row.nil _ _) (by simp; omega) (by simp))
  clear h1
  generalize hE : encS h = E at *
  obtain ⟨kind, int, text, rc, a, n, cap⟩ := h
  simp only [Hd.v, Value.cells] at H1 H2 ⊢
  clear hin hk hs hE
  go_enter Try.func31, Try.ntmps31
  go_wp2_with (first
    | (go_at_call 44; (refine (Hid.out H1).mono ?_; rintro e w1 ⟨rfl, rfl⟩))
    | (go_at_call 45; (refine (Hid.out H2).mono ?_; rintro e w2 ⟨v2, rfl, hr, hg⟩)))
  go_ret2
  refine ⟨_, rfl, by simpa using hr, ?_⟩
  exact (Grw.nil (Grw.unalloc (Grw.unalloc (Grw.unalloc hg))))

set_option maxRecDepth 10000 in
set_option maxHeartbeats 1000000 in
theorem putSimple_no (w : World) (h : Hd) (hin : h.In) (hk : h.kind ≠ 4) (hs : simpleB h = false) :
    Calls Try.prog 31 #[h.v] w fun e w' => e = .returned (.tuple #[.slice none 0 0, .int .i64 20]) ∧ Below w.heap.size w w' := by
  have h1 := isPlain_simple (w.alloc (.cells h.v.cells 45)) h hin hk
  rw [hs] at h1
  have H1 := hid h1
  clear h1
  obtain ⟨kind, int, text, rc, a, n, cap⟩ := h
  simp only [Hd.v, Value.cells] at H1 ⊢
  clear hin hk hs
  go_enter Try.func31, Try.ntmps31
  go_wp2_with (go_at_call 44; (refine (Hid.out H1).mono ?_; rintro e w1 ⟨rfl, rfl⟩))
  go_ret2
  exact ⟨rfl, (((Below.refl _ _).alloc (Nat.le_refl _) _).alloc (by simp) _).alloc (by simp; omega) _⟩

def hdA : Hd := ⟨2, 0, ⟨#[97]⟩, 0, none, 0, 0⟩
theorem hdA_enc : encS hdA = [2, 1, 97] := by
  have e1 : encT (⟨#[97]⟩ : ByteArray) = [1, 97] := by
    unfold encT
    rw [enc_small (by decide)]
    rfl
  simp [encS, hdA, e1]
theorem hdA_size : hdA.text.size = 1 := rfl
theorem hdA_in : hdA.In := ⟨by simp [hdA], by simp [hdA], by simp [hdA], by simp [hdA], by simp [hdA], by simp [hdA], by rw [hdA_size]; omega, by simp [hdA]⟩
theorem hdA_simple : simpleB hdA = true := by
  have := hdA_size
  simp only [simpleB, this]
  rfl
theorem enc300 : enc 300 = [172, 2] := by rw [enc_big (by decide), enc_small (by decide)]
theorem encm1 : enc (zz (-1)) = [1] := by rw [show zz (-1) = 1 from by decide, enc_small (by decide)]

set_option maxRecDepth 10000 in
set_option maxHeartbeats 400000 in
theorem known_any (w : World) : Calls Try.prog 9 #[] w fun e w' => e = .returned (.bool true) ∧ Below w.heap.size w w' := by
  have H1 := putSimple_any w hdA hdA_in (by simp [hdA]) hdA_simple
  rw [hdA_enc] at H1
  simp only [hdA, Hd.v] at H1
  have K1 := hid H1
  have K2 : Hid (∀ w : World, Calls Try.prog 10 #[.int .u64 300] w fun e w' => ∃ v', e = .returned v' ∧ Row w' w.heap.size v' [172, 2] ∧ Below w.heap.size w w') := hid (fun w => by
    have := putUint_any w 300 (by omega)
    rw [enc300] at this
    exact this)
  have K3 : Hid (∀ w : World, Calls Try.prog 11 #[.int .i64 (-1)] w fun e w' => ∃ v', e = .returned v' ∧ Row w' w.heap.size v' [1] ∧ Below w.heap.size w w') := hid (fun w => by
    have := putInt_any w (-1) (by omega) (by omega)
    rw [encm1] at this
    exact this)
  have b1 : Byt [2, 1, 97] := by unfold Byt; decide
  have b2 : Byt [172, 2] := by unfold Byt; decide
  have b3 : Byt [1] := by unfold Byt; decide
  clear H1
  go_enter Try.func9, Try.ntmps9
  go_wp2_with (first
    | (go_at_call 31; (refine (Hid.out K1).mono ?_; rintro e w1 ⟨v1, rfl, hr1, hb1⟩))
    | (go_at_call 10; (refine (Hid.out K2 _).mono ?_; rintro e w3 ⟨v3, rfl, hr3, hb3⟩))
    | (go_at_call 11; (refine (Hid.out K3 _).mono ?_; rintro e w5 ⟨v5, rfl, hr5, hb5⟩))
    | (go_at_call 13; refine (bytes_same _ _ _ [1] ((hr5.alloc _).rd b3) (Rd.lit [1] b3 (heap_alloc_new w5 _) (by rfl))).mono ?_; rintro e w6 ⟨rfl, rfl⟩)
    | (go_at_call 13; refine (bytes_same _ _ _ [172, 2] ((hr3.alloc _).rd b2) (Rd.lit [172, 2] b2 (heap_alloc_new w3 _) (by rfl))).mono ?_; rintro e w4 ⟨rfl, rfl⟩)
    | (go_at_call 13; refine (bytes_same _ _ _ [2, 1, 97] ((hr1.alloc _).rd b1) (Rd.lit [2, 1, 97] b1 (heap_alloc_new w1 _) (by rfl))).mono ?_; rintro e w2 ⟨rfl, rfl⟩))
  go_ret
  refine ⟨rfl, ?_⟩
  have s1 := hb1.size
  have s3 := hb3.size
  have s5 := hb5.size
  simp at s3 s5
  exact (((hb1.alloc s1 _).trans (((hb3.mono (by simp; omega)).alloc (by omega) _))).trans ((hb5.mono (by simp; omega)).alloc (by omega) _))
end Go.Proofs.Ytjfkcafocindjaa
