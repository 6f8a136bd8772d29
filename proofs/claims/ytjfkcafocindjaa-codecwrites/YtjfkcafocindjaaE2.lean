/- appendRow over simple values; appendValue of a record. -/
import Derived.Test.YtjfkcafocindjaaD2
import Derived.Deep.RegionHeld3
namespace Go.Proofs.Ytjfkcafocindjaa
open Go.RowKit Go.Deep
set_option linter.unusedVariables false
set_option linter.unusedSimpArgs false

theorem simpleB_cases {h : Hd} (hs : simpleB h = true) : h.rc = 0 ∧ h.n = 0 ∧ ((h.kind = 1 ∧ h.text = ByteArray.empty) ∨ (h.kind = 2 ∧ h.int = 0 ∧ h.text.size ≤ 64) ∨ (h.kind = 3 ∧ h.text = ByteArray.empty ∧ (h.int = 0 ∨ h.int = 1))) := by
  simp only [simpleB, Bool.and_eq_true, Bool.or_eq_true, decide_eq_true_eq] at hs
  obtain ⟨⟨h1, h2⟩, (⟨h3, h4⟩ | ⟨⟨h3, h4⟩, h5⟩) | ⟨⟨h3, h4⟩, h5⟩⟩ := hs
  · exact ⟨h1, h2, .inl ⟨h3, h4⟩⟩
  · exact ⟨h1, h2, .inr (.inl ⟨h3, h4, h5⟩)⟩
  · exact ⟨h1, h2, .inr (.inr ⟨h3, h4, h5⟩)⟩
theorem encS_le {h : Hd} (hs : simpleB h = true) (hin : h.In) : (encS h).length ≤ 80 := by
  obtain ⟨_, _, (⟨hk, _⟩ | ⟨hk, _, ht⟩ | ⟨hk, _, _⟩)⟩ := simpleB_cases hs
  · unfold encS
    rw [if_pos hk]
    have := enc_le (zz h.int) (zz_lt _ hin.i0 hin.i1)
    simp; omega
  · unfold encS
    rw [if_neg (by omega), if_pos hk]
    have := enc_le h.text.size (by omega)
    simp [encT, sb_length]; omega
  · unfold encS
    rw [if_neg (by omega), if_neg (by omega)]
    simp
def encR (fs : List Hd) : List Nat := fs.flatMap encS
theorem encR_le {fs : List Hd} (hs : fs.all simpleB = true) (hin : ∀ f ∈ fs, f.In) : (encR fs).length ≤ 80 * fs.length := by
  induction fs with
  | nil => simp [encR]
  | cons f r ih =>
    simp only [List.all_cons, Bool.and_eq_true] at hs
    have h1 := encS_le hs.1 (hin f (by simp))
    have h2 := ih hs.2 (fun g hg => hin g (by simp [hg]))
    simp only [encR, List.flatMap_cons, List.length_append, List.length_cons] at h2 ⊢
    omega
theorem encR_drop {fs : List Hd} {i : Nat} {f : Hd} (h : fs[i]? = some f) : encR (fs.drop i) = encS f ++ encR (fs.drop (i + 1)) := by
  have hlt : i < fs.length := (List.getElem?_eq_some_iff.1 h).1
  rw [List.drop_eq_getElem_cons hlt]
  have : fs[i] = f := by simpa [hlt] using h
  rw [this]; rfl

set_option maxRecDepth 10000 in
set_option maxHeartbeats 1000000 in
theorem appendRowS_any (w0 w : World) (B : Nat) (v : Value) (xs : List Nat) (a : Option Addr) (n cap : Nat) (fs : List Hd) (hn : n = fs.length) (hn2 : n ≤ 1000) (hv : VRd w0 a fs) (h0 : w0.heap.size ≤ B) (hb0 : Below B w0 w) (hs : fs.all simpleB = true) (hin : ∀ f ∈ fs, f.In)
    (hr : Row w B v xs) (hB : B ≤ w.heap.size) (hl : xs.length ≤ 1000000000) :
    Calls Try.prog 47 #[v, .slice a n cap] w fun e w' => ∃ v', e = .returned v' ∧ Row w' B v' (xs ++ enc n ++ encR fs) ∧ Grw w v w' v' := by
  have Hn := hid hn
  have hT : (xs ++ enc n ++ encR fs).length ≤ 10000000000 := by
    have := enc_le n (by omega)
    have := encR_le hs hin
    simp; omega
  have hTl := hid hT
  clear hT
  go_enter Try.func47, Try.ntmps47
  go_wp2_with (go_at_call 35; (refine (appendUint_int w B v xs _ n (by omega) hr hB (by omega) (by omega)).mono ?_; rintro e w1 ⟨v1, rfl, hr1, hg1⟩))
  go_loopg [0, 14] n (fun g vv ii wr => ∃ (i : Nat) (ys : List Nat), i + g = n ∧ ii = .int .i64 (i : Int) ∧ Row wr B vv ys ∧ Grw w v wr vv ∧ ys ++ encR (fs.drop i) = xs ++ enc n ++ encR fs)
  case atStart => exact ⟨0, xs ++ enc n, by omega, rfl, hr1, hg1, rfl⟩
  case round =>
    obtain ⟨i, ys, hi, rfl, hry, hgy, hT⟩ := hrel
    have Hi := hid hi
    have HT := hid hT
    clear hT
    cases gk with
    | zero =>
      have hin' : i = n := by omega
      clear hi
      subst hin'
      go_wp2
      go_ret
      refine ⟨_, rfl, ?_, hgy⟩
      rw [← HT.out, Hn.out, List.drop_length]
      simpa [encR] using hry
    | succ g =>
      have hlt : i < n := by omega
      clear hi
      obtain ⟨f, hfi⟩ : ∃ f, fs[i]? = some f := ⟨fs[i]'(by rw [← Hn.out]; exact hlt), by rw [List.getElem?_eq_getElem]⟩
      have hfin := hin f (List.mem_of_getElem? hfi)
      have hfs : simpleB f = true := List.all_eq_true.1 hs f (List.mem_of_getElem? hfi)
      have hbw := hid (hgy.below hr hB)
      obtain ⟨b1, o1, rfl, e1⟩ := (hv.below h0 (hb0.trans hbw.out)) i f hfi
      have hd := hid (encR_drop hfi)
      have hys : ys.length ≤ 10000000000 := by
        have h1 := congrArg List.length HT.out
        have h2 := hTl.out
        rw [List.length_append] at h1
        omega
      have hb1 := World.block_lt_of_cell? wr ⟨b1, o1 + i * 5 + 0, none⟩ ((e1 0 (by omega)).trans (show f.cs[0]? = some (.int .i64 f.kind) from rfl))
      simp only at hb1
      have hc := hid (appendSimple_any (wr.alloc (.cells f.v.cells 45)) B _ ys f hfin hfs (hry.alloc _) (by have := hbw.out.size; simp; omega) (by omega))
      have x0 := e1 0 (by omega)
      have x1 := e1 1 (by omega)
      have x2 := e1 2 (by omega)
      have x3 := e1 3 (by omega)
      have x4 := e1 4 (by omega)
      generalize hE : encS f = E at *
      obtain ⟨fk, fi, ft, fr, fa, fn, fc⟩ := f
      simp only [Hd.cs, List.getElem?_cons_zero, List.getElem?_cons_succ, Nat.add_zero] at x0 x1 x2 x3 x4
      simp only [Hd.v, Value.cells] at hc
      clear e1 hfi hfin hfs hE
      go_wp2_with (go_at_call 45; (refine (Hid.out hc).mono ?_; rintro e w9 ⟨v9, rfl, hr9, hg9⟩))
      go_roundg g
      case measure => omega
      case rel => exact ⟨i + 1, ys ++ E, by have := Hi.out; omega, by go_num, hr9, hgy.trans hg9.unalloc, by rw [← HT.out, hd.out]; simp⟩

theorem Grw.drewl {w w' : World} {v v' : Value} (h : Grw w.drew v w' v') : Grw w v w' v' := ⟨⟨h.1.os, h.1.tape, h.1.output, h.1.size, h.1.block⟩, h.2⟩
theorem own_step {w w' : World} {v v' : Value} {b : Nat} (h : Grw w v w' v') (hno : ∀ k, v.ownBlock = some k → k ≠ b) (hb : b < w.heap.size) : ∀ k, v'.ownBlock = some k → k ≠ b := by
  intro k hk
  rcases h.2 with h2 | ⟨g, h2, hg⟩
  · exact hno k (by rw [← h2]; exact hk)
  · rw [h2] at hk; cases hk; omega

def encV (h : Hd) (fs : List Hd) : List Nat := if h.kind = 4 then 4 :: (enc h.rc.toNat ++ (enc h.n ++ encR fs)) else encS h

set_option maxRecDepth 10000 in
set_option maxHeartbeats 1000000 in
theorem appendRec_any (w0 w : World) (B : Nat) (v : Value) (xs : List Nat) (q : Nat) (a : Option Addr) (n cap : Nat) (fs : List Hd) (hn : n = fs.length) (hn2 : n ≤ 12) (hq : q ≤ 15) (hv : VRd w0 a fs) (h0 : w0.heap.size ≤ B) (hb0 : Below B w0 w) (hs : fs.all simpleB = true) (hin : ∀ f ∈ fs, f.In)
    (hr : Row w B v xs) (hB : B ≤ w.heap.size) (hl : xs.length ≤ 100000000) :
    Calls Try.prog 45 #[v, Hd.v ⟨4, 0, ByteArray.empty, (q : Int), a, n, cap⟩] w fun e w' => ∃ v', e = .returned v' ∧ Row w' B v' (xs ++ (4 :: (enc q ++ (enc n ++ encR fs)))) ∧ Grw w v w' v' := by
  simp only [Hd.v]
  have hr1 := hr.alloc (.cells #[.int .i64 4, .int .i64 0, .string ByteArray.empty, .int .i64 (q : Int), .slice a n cap] 45)
  have hB1 : B ≤ (w.alloc (.cells #[.int .i64 4, .int .i64 0, .string ByteArray.empty, .int .i64 (q : Int), .slice a n cap] 45)).heap.size := by simp; omega
  have hl1 : xs.length ≤ 1099511627776 := by omega
  have Hr1 := hid hr1
  have Hn := hid hn
  clear hr1 hn
  go_enter Try.func45, Try.ntmps45
  go_wp2_with (at_builtin; (refine wpList_app1 _ rfl _ _ rfl _ _ (by rfl) (by first | rfl | (rw [World.size_alloc]; rfl)) B xs 4 (by rfl) Hr1.out hB1 hl1 ?_; intro v1 w1 hr2 hb1; have hbx := box_at hr hb1; have hc0 := cellOf hbx 0; have hc3 := cellOf hbx 3; have hc4 := cellOf hbx 4; simp only [List.getElem?_toArray, List.getElem?_cons_zero, List.getElem?_cons_succ] at hc0 hc3 hc4; have Hbx := hid hbx; clear hbx))
  have hl2 : (xs ++ [4]).length ≤ 1000000000 := by simp; omega
  have hB2 : B ≤ w1.heap.size := Nat.le_trans hB1 hb1.size
  have hbx : w.heap.size < w1.heap.size := by have := hb1.size; simp at this; omega
  have hbe : Below B w0 w1 := (hb0.trans ((Below.refl B w).alloc hB _)).trans (hb1.below Hr1.out hB1)
  have hno : ∀ k, v1.ownBlock = some k → k ≠ w.heap.size := by
    intro k hk
    rcases hb1.2 with h2 | ⟨g, h2, hg⟩
    · rw [h2] at hk
      have := (hr.own k hk).2
      omega
    · rw [h2] at hk
      cases hk
      simp at hg
      omega
  go_region_held3 (fun w2 => w2.cell? ⟨w.heap.size, 3, none⟩ = some (.int .i64 (q : Int)) ∧ w2.cell? ⟨w.heap.size, 4, none⟩ = some (.slice a n cap)) (first | exact ⟨u3, u4⟩ | exact ⟨t3, t4⟩ | go_keep) ((first
    | (go_at_call 35; (refine (appendUint_int _ B v1 (xs ++ [4]) _ q (by first | omega | (rw [IntKind.wrap_u64]; omega)) hr2.drew hB2 (by omega) (by omega)).mono ?_; rintro e w2 ⟨v2, rfl, hr3, hg2⟩; have hbx2 : w2.heap[w.heap.size]? = some (.cells #[.int .i64 4, .int .i64 0, .string ByteArray.empty, .int .i64 (q : Int), .slice a n cap] 45 (0, 0)) := (hg2.old (j := w.heap.size) hbx (fun e => hno _ e.symm rfl)).trans Hbx.out; have t3 := cellOf hbx2 3; have t4 := cellOf hbx2 4; simp only [List.getElem?_toArray, List.getElem?_cons_zero, List.getElem?_cons_succ] at t3 t4))
    | (go_at_call 47; (refine (appendRowS_any w0 w2 B v2 _ a n cap fs Hn.out (by omega) hv h0 (hbe.drew.trans (hg2.below hr2.drew hB2)) hs hin hr3 (Nat.le_trans hB2 hg2.size) (by have := enc_le q (by omega); simp; omega)).mono ?_; rintro e w3 ⟨v3, rfl, hr4, hg3⟩; have hbx3 : w3.heap[w.heap.size]? = some (.cells #[.int .i64 4, .int .i64 0, .string ByteArray.empty, .int .i64 (q : Int), .slice a n cap] 45 (0, 0)) := (hg3.old (j := w.heap.size) (Nat.lt_of_lt_of_le hbx hg2.size) (fun e => own_step hg2 hno hbx _ e.symm rfl)).trans hbx2; have u3 := cellOf hbx3 3; have u4 := cellOf hbx3 4; simp only [List.getElem?_toArray, List.getElem?_cons_zero, List.getElem?_cons_succ] at u3 u4))))
  go_wp2
  go_ret
  exact ⟨_, rfl, by simpa using hr4, ((hb1.trans (Grw.trans (Grw.drewl hg2) hg3))).unalloc⟩

theorem res_cells' {w w2 : World} {c : Array Value} (h : Below (w.heap.size + 1) (w.alloc (.cells c 45)) w2) : w2.heap[w.heap.size]? = some (.cells c 45 (0, 0)) := by
  rw [h.block _ (by omega)]; exact heap_alloc_new w _
theorem appendValue_any (w0 w : World) (B : Nat) (v : Value) (xs : List Nat) (h : Hd) (fs : List Hd) (hin : h.In) (hn : h.n = fs.length) (hv : VRd w0 h.a fs) (h0 : w0.heap.size ≤ B) (hb0 : Below B w0 w) (hfs : ∀ f ∈ fs, f.In) (hp : plainB h fs = true)
    (hr : Row w B v xs) (hB : B ≤ w.heap.size) (hl : xs.length ≤ 100000000) :
    Calls Try.prog 45 #[v, h.v] w fun e w' => ∃ v', e = .returned v' ∧ Row w' B v' (xs ++ encV h fs) ∧ Grw w v w' v' := by
  by_cases hk : h.kind = 4
  · rw [plainB_rec hk] at hp
    simp only [Bool.and_eq_true, decide_eq_true_eq] at hp
    obtain ⟨⟨⟨⟨⟨h1, h2⟩, h3⟩, h4⟩, h5⟩, h6⟩ := hp
    unfold encV
    rw [if_pos hk]
    obtain ⟨kind, int, text, rc, a, n, cap⟩ := h
    simp only at hk hn hv h1 h2 h3 h4 h5 ⊢
    subst hk h1 h2
    obtain ⟨q, rfl⟩ := Int.eq_ofNat_of_zero_le h3
    exact appendRec_any w0 w B v xs q a n cap fs hn h5 (by omega) hv h0 hb0 h6 hfs hr hB hl
  · unfold plainB at hp
    rw [if_neg hk] at hp
    unfold encV
    rw [if_neg hk]
    exact appendSimple_any w B v xs h hin hp hr hB (by omega)

set_option maxRecDepth 10000 in
set_option maxHeartbeats 1000000 in
theorem putValue_any (w : World) (h : Hd) (fs : List Hd) (hin : h.In) (hn : h.n = fs.length) (hv : VRd w h.a fs) (hfs : ∀ f ∈ fs, f.In) :
    Calls Try.prog 31 #[h.v] w fun e w' => Below w.heap.size w w' ∧ ∃ v', e = .returned (.tuple #[v', .int .i64 (if plainB h fs then 0 else 20)]) ∧ Row w' w.heap.size v' (if plainB h fs then encV h fs else []) := by
  have hbx : Below w.heap.size w (w.alloc (.cells h.v.cells 45)) := (Below.refl _ _).alloc (Nat.le_refl _) _
  have H1 := isPlain_any (w.alloc (.cells h.v.cells 45)) h fs hin hn (hv.below (Nat.le_refl _) hbx) hfs
  cases hp : plainB h fs with
  | false =>
    rw [hp] at H1
    obtain ⟨kind, int, text, rc, a, n, cap⟩ := h
    simp only [Hd.v, Value.cells] at H1 hbx ⊢
    have K1 := hid H1
    clear H1 hin hn hv hfs hp
    go_enter Try.func31, Try.ntmps31
    go_wp2_with (go_at_call 44; (refine (Hid.out K1).mono ?_; rintro e w1 ⟨rfl, hb1⟩))
    go_ret2
    exact ⟨hbx.trans (hb1.mono (by simp)), _, rfl, Row.nil _ _⟩
  | true =>
    rw [hp] at H1
    have H2 : Hid (∀ w1 : World, Below (w.heap.size + 1) (w.alloc (.cells h.v.cells 45)) w1 → Calls Try.prog 45 #[.slice none 0 0, h.v] w1 fun e w' => ∃ v', e = .returned v' ∧ Row w' w.heap.size v' ([] ++ encV h fs) ∧ Grw w1 (.slice none 0 0) w' v') := hid (fun w1 hb1 => appendValue_any w w1 w.heap.size (.slice none 0 0) [] h fs hin hn hv (Nat.le_refl _) (hbx.trans (hb1.mono (by omega))) hfs hp (Row.nil _ _) (by have := hb1.size; simp at this; omega) (by simp))
    generalize encV h fs = EV at *
    obtain ⟨kind, int, text, rc, a, n, cap⟩ := h
    simp only [Hd.v, Value.cells] at H1 H2 hbx ⊢
    have K1 := hid H1
    clear H1 hin hn hv hfs hp
    go_enter Try.func31, Try.ntmps31
    go_wp2_with (first
      | (go_at_call 44; (refine (Hid.out K1).mono ?_; rintro e w1 ⟨rfl, hb1⟩; (try simp only [World.size_alloc] at hb1); have hr := res_cells' hb1; have g0 := cellOf hr 0; have g1 := cellOf hr 1; have g2 := cellOf hr 2; have g3 := cellOf hr 3; have g4 := cellOf hr 4; simp only [List.getElem?_toArray, List.getElem?_cons_zero, List.getElem?_cons_succ] at g0 g1 g2 g3 g4; clear hr))
      | (go_at_call 45; (refine (Hid.out H2 _ hb1).mono ?_; rintro e w2 ⟨v2, rfl, hr2, hg2⟩)))
    go_ret2
    exact ⟨(hbx.trans (hb1.mono (by omega))).trans (hg2.nil.mono (by have := hb1.size; simp at this; omega)), _, rfl, by simpa using hr2⟩
end Go.Proofs.Ytjfkcafocindjaa
