/- The document's PutValue of a record. -/
import Derived.Test.YtjfkcafocindjaaU2
import Derived.Test.YtjfkcafocindjaaF2
namespace Go.Proofs.Ytjfkcafocindjaa
open Go.RowKit Go.Deep
set_option linter.unusedVariables false
set_option linter.unusedSimpArgs false

theorem box34 {w wr : World} {c0 c1 c2 c3 c4 : Value} (h : Below (w.heap.size + 1) (w.alloc (.cells #[c0, c1, c2, c3, c4] 45)) wr) : wr.cell? ⟨w.heap.size, 3, none⟩ = some c3 ∧ wr.cell? ⟨w.heap.size, 4, none⟩ = some c4 :=
  ⟨cellOf (res_cells' h) 3, cellOf (res_cells' h) 4⟩
set_option maxRecDepth 10000 in
set_option maxHeartbeats 2000000 in
theorem refPut_rec (w : World) (q : Nat) (a : Option Addr) (n cap : Nat) (fs : List Hd) (hn : n = fs.length) (hn2 : n ≤ 12) (hq : q ≤ 15) (hv : VRd w a fs) (hs : fs.all simpleB = true) (hin : ∀ f ∈ fs, f.In) :
    Calls Try.prog 32 #[Hd.v ⟨4, 0, ByteArray.empty, (q : Int), a, n, cap⟩] w fun e w' => Below w.heap.size w w' ∧ PutP w.heap.size true (4 :: (enc q ++ (enc n ++ encR fs))) e w' := by
  simp only [Hd.v]
  have hB0 : Below w.heap.size w (w.alloc (.cells #[.int .i64 4, .int .i64 0, .string ByteArray.empty, .int .i64 (q : Int), .slice a n cap] 45)) := (Below.refl _ _).alloc (Nat.le_refl _) _
  have K46 : Hid (Calls Try.prog 46 #[.agg #[.int .i64 4, .int .i64 0, .string ByteArray.empty, .int .i64 (q : Int), .slice a n cap]] (w.alloc (.cells #[.int .i64 4, .int .i64 0, .string ByteArray.empty, .int .i64 (q : Int), .slice a n cap] 45)) fun e w' => e = .returned (.bool true) ∧ Below (w.heap.size + 1) (w.alloc (.cells #[.int .i64 4, .int .i64 0, .string ByteArray.empty, .int .i64 (q : Int), .slice a n cap] 45)) w') := by
    refine hid ((refPlain_fields _ (q : Int) a n cap fs hn (by omega) (by omega) hn2 (hv.below (Nat.le_refl _) hB0) hin).mono ?_)
    rintro e w' ⟨rfl, hb⟩
    rw [hs]
    exact ⟨rfl, by simpa using hb⟩
  have Hn := hid hn
  have hle1 := enc_le q (by omega)
  have hle2 := enc_le n (by omega)
  have hle3 : (encR fs).length ≤ 1000 := by have := encR_le hs hin; omega
  have by1 := hid (enc_byt q)
  have by2 := hid (enc_byt n)
  clear hn
  have hS := hid (fun w f h k => refPut_simple w f h k)
  go_enter Try.func32, Try.ntmps32
  go_wp2_with (go_at_call 46; (refine (Hid.out K46).mono ?_; rintro e w1 ⟨rfl, hb1⟩; have hbx := res_cells' hb1; have g0 := cellOf hbx 0; have g3 := cellOf hbx 3; have g4 := cellOf hbx 4; simp only [List.getElem?_toArray, List.getElem?_cons_zero, List.getElem?_cons_succ] at g0 g3 g4; clear hbx; have hsz : w.heap.size < w1.heap.size := (by have := hb1.size; simp at this; omega)))
  have hW : Below (w.heap.size + 1) (w.alloc (.cells #[.int .i64 4, .int .i64 0, .string ByteArray.empty, .int .i64 (q : Int), .slice a n cap] 45)) (w1.alloc (.cells #[.int .u8 4] 5)) := hb1.alloc (by omega) _
  have hr0 : Row (w1.alloc (.cells #[.int .u8 4] 5)) (w.heap.size + 1) (.slice (some ⟨w1.heap.size, 0, none⟩) 1 1) [4] := lit_after rfl (by omega) (Below.refl _ _)
  have hsz2 : w.heap.size + 2 ≤ (w1.alloc (.cells #[.int .u8 4] 5)).heap.size := by simp; omega
  have g3' : (w1.alloc (.cells #[.int .u8 4] 5)).cell? ⟨w.heap.size, 3, none⟩ = some (.int .i64 (q : Int)) := by have := cellOf (res_cells' hW) 3; simpa using this
  have g4' : (w1.alloc (.cells #[.int .u8 4] 5)).cell? ⟨w.heap.size, 4, none⟩ = some (.slice a n cap) := by have := cellOf (res_cells' hW) 4; simpa using this
  generalize (w1.alloc (.cells #[.int .u8 4] 5)) = W at *
  clear g0 g3 g4 hb1
  go_region_held3 (fun w2 => w2.cell? ⟨w.heap.size, 3, none⟩ = some (.int .i64 (q : Int)) ∧ w2.cell? ⟨w.heap.size, 4, none⟩ = some (.slice a n cap)) (first | exact s6 | exact s5 | exact s4 | exact s3 | go_keep) ((first
    | (have hno := hr5; (refine step_appR (by rfl) _ _ (by rfl) _ _ (by rfl) (by rfl) (w.heap.size + 1) ([4] ++ enc q) (enc n) hr4' (hr5.rd by2.out) hr5.nilOf (by have := J5.size; simp at this; omega) (by simp; omega) (by omega) ?_; intro v6 w6 hr6 hg6; have J6 := J5.trans (hg6.below hr4' (by have := J5.size; simp at this; omega)); have s6 := box34 J6))
    | (go_at_call 14; have hno := hg4; (refine (refPutUint_any _ _ n (by first | omega | (rw [IntKind.wrap_u64]; omega)) (by omega)).mono ?_; rintro e w5 ⟨v5, rfl, hr5, hg5⟩; have J5 := J4.trans (hg5.nil.mono (by have := J4.size; simp at this; omega)); have hr4' := hr4.below (Nat.le_refl _) hg5.nil; have s5 := box34 J5))
    | (have hno := hg3; (refine step_appR (by rfl) _ _ (by rfl) _ _ (by rfl) (by rfl) (w.heap.size + 1) [4] (enc q) (hr0.drew.below (Nat.le_refl _) hg3.nil) (hr3.rd by1.out) hr3.nilOf (by have := J3.size; simp at this; omega) (by simp) (by omega) ?_; intro v4 w4 hr4 hg4; have J4 := J3.trans (hg4.below (hr0.drew.below (Nat.le_refl _) hg3.nil) (by have := J3.size; simp at this; omega)); have s4 := box34 J4))
    | (go_at_call 14; (refine (refPutUint_any _ _ q (by first | omega | (rw [IntKind.wrap_u64]; omega)) (by omega)).mono ?_; rintro e w3 ⟨v3, rfl, hr3, hg3⟩; have J3 := hW.drew.trans (hg3.nil.mono (by simp; omega)); have s3 := box34 J3))))
  have hwq : IntKind.u64.wrap (q : Int) = (q : Int) := by rw [IntKind.wrap_u64]; omega
  have hwn : IntKind.u64.wrap (n : Int) = (n : Int) := by rw [IntKind.wrap_u64]; omega
  rw [hwq, hwn]
  clear hwq hwn
  have HJ6 := hid J6
  clear s3 s4 s5 s6 J3 J4 J5 J6 hr0 hr3 hr4 hr4' hr5 hg3 hg4 hg5 hg6 hW g3' g4' K46
  go_wp2
  go_loopg [4, 5] n (fun g vb ii wr => ∃ (i : Nat) (ys : List Nat), i + g = n ∧ ii = .int .i64 (i : Int) ∧ Row wr (w.heap.size + 1) vb ys ∧ Below (w.heap.size + 1) (w.alloc (.cells #[.int .i64 4, .int .i64 0, .string ByteArray.empty, .int .i64 (q : Int), .slice a n cap] 45)) wr ∧ ys ++ encR (fs.drop i) = ([4] ++ enc q) ++ enc n ++ encR fs)
  case atStart => exact ⟨0, _, by omega, rfl, hr6, HJ6.out, rfl⟩
  case round =>
    obtain ⟨i, ys, hi, rfl, hry, hbel, hT⟩ := hrel
    have Hi := hid hi
    have HT := hid hT
    have hys : ys.length ≤ 2000 := by
      have h1 := congrArg List.length hT
      simp only [List.length_append, List.length_cons, List.length_nil] at h1
      omega
    have hBw : Below w.heap.size w wr := hB0.trans (hbel.mono (by omega))
    have Hbw := hid hBw
    have hsz : w.heap.size + 1 ≤ wr.heap.size := by have := hbel.size; simp at this; exact this
    have g4 := (box34 hbel).2
    have Hbel := hid hbel
    have Hry := hid hry
    clear hT hbel
    cases gk with
    | zero =>
      have hin' : i = n := by omega
      clear hi
      subst hin'
      go_wp2
      go_ret2
      refine ⟨Hbw.out, _, rfl, ?_⟩
      have h1 := HT.out
      rw [show fs.drop i = [] from by rw [Hn.out, List.drop_length]] at h1
      simp only [encR, List.flatMap_nil, List.append_nil, List.append_assoc, List.cons_append, List.nil_append] at h1
      have h2 := hry.mono (C := w.heap.size) (by omega)
      rw [h1] at h2
      exact h2
    | succ g =>
      have hlt : i < n := by omega
      clear hi
      obtain ⟨f, hfi⟩ : ∃ f, fs[i]? = some f := ⟨fs[i]'(by rw [← Hn.out]; exact hlt), by rw [List.getElem?_eq_getElem]⟩
      have hfin := hin f (List.mem_of_getElem? hfi)
      have hfs : simpleB f = true := List.all_eq_true.1 hs f (List.mem_of_getElem? hfi)
      have hk : f.kind ≠ 4 := by have := (simpleB_cases hfs).2.2; omega
      obtain ⟨b1, o1, rfl, e1⟩ := (hv.below (Nat.le_refl _) hBw) i f hfi
      have hd := hid (encR_drop hfi)
      have hc := hid (Hid.out hS wr f hfin hk)
      rw [hfs] at hc
      have hEl := encS_le hfs hfin
      have hEb := hid (encS_byt hfs)
      have x0 := e1 0 (by omega)
      have x1 := e1 1 (by omega)
      have x2 := e1 2 (by omega)
      have x3 := e1 3 (by omega)
      have x4 := e1 4 (by omega)
      generalize hE : encS f = E at *
      obtain ⟨fk, fi, ft, fr, fa, fn, fc⟩ := f
      simp only [Hd.cs, List.getElem?_cons_zero, List.getElem?_cons_succ, Nat.add_zero] at x0 x1 x2 x3 x4
      simp only [Hd.v, Value.cells] at hc
      clear e1 hfi hfin hfs hE hBw hk hry hS
      go_wp2_with (first
        | (go_at_call 32; (refine (Hid.out hc).mono ?_; rintro e w9 ⟨hb9, v9, rfl, hr9⟩; simp only [if_true] at hr9))
        | (at_builtin; (refine wpList_appR _ rfl _ _ rfl _ _ (by rfl) (by rfl) (w.heap.size + 1) ys E (Hry.out.below (Nat.le_refl _) hb9) (hr9.rd hEb.out) hr9.nilOf (by have := hb9.size; omega) (by omega) (by omega) ?_; intro v10 w10 hr10 hg10)))
      go_roundg g
      case measure => omega
      case rel => exact ⟨i + 1, ys ++ E, by have := Hi.out; omega, by go_num, hr10, (Hbel.out.trans (hb9.mono hsz)).trans (hg10.below (Hry.out.below (Nat.le_refl _) hb9) (by have := hb9.size; omega)), by rw [← HT.out, hd.out]; simp⟩

set_option maxHeartbeats 1000000 in
theorem refPut_no (w : World) (h : Hd) (fs : List Hd) (hin : h.In) (hn : h.n = fs.length) (hv : VRd w h.a fs) (hfs : ∀ f ∈ fs, f.In) (hp : plainB h fs = false) :
    Calls Try.prog 32 #[h.v] w fun e w' => Below w.heap.size w w' ∧ PutP w.heap.size false (encV h fs) e w' := by
  have hB0 : Below w.heap.size w (w.alloc (.cells h.v.cells 45)) := (Below.refl _ _).alloc (Nat.le_refl _) _
  have H1 := refPlain_any (w.alloc (.cells h.v.cells 45)) h fs hin hn (hv.below (Nat.le_refl _) hB0) hfs
  rw [hp] at H1
  generalize encV h fs = EV
  obtain ⟨kind, int, text, rc, a, n, cap⟩ := h
  simp only [Hd.v, Value.cells] at H1 hB0 ⊢
  have K1 := hid H1
  clear H1 hin hn hv hfs hp
  go_enter Try.func32, Try.ntmps32
  go_wp2_with (go_at_call 46; (refine (Hid.out K1).mono ?_; rintro e w1 ⟨rfl, hb1⟩))
  go_ret2
  exact ⟨hB0.trans (hb1.mono (by simp)), .slice none 0 0, rfl, Row.nil _ _⟩

theorem refPut_any (w : World) (h : Hd) (fs : List Hd) (hin : h.In) (hn : h.n = fs.length) (hv : VRd w h.a fs) (hfs : ∀ f ∈ fs, f.In) :
    Calls Try.prog 32 #[h.v] w fun e w' => Below w.heap.size w w' ∧ PutP w.heap.size (plainB h fs) (encV h fs) e w' := by
  by_cases hk : h.kind = 4
  · cases hp : plainB h fs with
    | true =>
      have hp' := hp
      rw [plainB_rec hk] at hp'
      simp only [Bool.and_eq_true, decide_eq_true_eq] at hp'
      obtain ⟨⟨⟨⟨⟨h1, h2⟩, h3⟩, h4⟩, h5⟩, h6⟩ := hp'
      unfold encV
      rw [if_pos hk]
      obtain ⟨kind, int, text, rc, a, n, cap⟩ := h
      simp only at hk hn hv h1 h2 h3 h4 h5 ⊢
      subst hk h1 h2
      obtain ⟨q, rfl⟩ := Int.eq_ofNat_of_zero_le h3
      exact refPut_rec w q a n cap fs hn h5 (by omega) hv h6 hfs
    | false => exact refPut_no w h fs hin hn hv hfs hp
  · have e1 : plainB h fs = simpleB h := by unfold plainB; rw [if_neg hk]
    unfold encV
    rw [if_neg hk, e1]
    exact refPut_simple w h hin hk
end Go.Proofs.Ytjfkcafocindjaa
