/- CodecReads: the walk. -/
import Derived.Test.YtjfkcafocindjaaA2
namespace Go.Proofs.Ytjfkcafocindjaa
open Go.RowKit Go.Deep
set_option linter.unusedVariables false
set_option linter.unusedSimpArgs false

def oN : Option (Nat × Nat) → Int | none => 0 | some (n, _) => (n : Int)
def oZ : Option (Nat × Nat) → Int | none => 0 | some (n, _) => unzz n
def oK : Option (Nat × Nat) → Int | none => 0 | some (_, k) => (k : Int)
def oE : Option (Nat × Nat) → Int | none => 20 | some _ => 0
theorem uintV_eq (o : Option (Nat × Nat)) : uintV o = .tuple #[.int .u64 (oN o), .int .i64 (oK o), .int .i64 (oE o)] := by rcases o with _ | ⟨n, k⟩ <;> rfl
theorem intV_eq (o : Option (Nat × Nat)) : intV o = .tuple #[.int .i64 (oZ o), .int .i64 (oK o), .int .i64 (oE o)] := by rcases o with _ | ⟨n, k⟩ <;> rfl
def tS : TextR → ByteArray | .error _ => ByteArray.empty | .ok (s, _) => ofB s
def tK : TextR → Int | .error _ => 0 | .ok (_, k) => (k : Int)
def tE : TextR → Int | .error e => (e : Int) | .ok (_, _) => 0
theorem textV_eq (t : TextR) : textV t = .tuple #[.string (tS t), .int .i64 (tK t), .int .i64 (tE t)] := by cases t <;> rfl
def vX : Option (Vl × Nat) → Vl | none => vl zeroH | some (x, _) => x
def vK : Option (Vl × Nat) → Int | none => 0 | some (_, k) => (k : Int)
def vE : Option (Vl × Nat) → Int | none => 20 | some _ => 0
theorem valP_eq {B : Nat} {o : Option (Vl × Nat)} {e : Ending} {w' : World} (h : ValP B o e w') : ∃ h : Hd, e = .returned (.tuple #[h.v, .int .i64 (vK o), .int .i64 (vE o)]) ∧ Rep w' (vX o) h := by
  rcases o with _ | ⟨x, k⟩
  · exact ⟨zeroH, h, ⟨rfl, rfl, rfl, rfl, rfl, fun j x hx => by simp [vX, vl] at hx⟩⟩
  · obtain ⟨hh, he, hr, _⟩ := h
    exact ⟨hh, he, hr⟩
theorem vX_flat {bs : List Nat} : Flat (vX (valD bs)) := by
  cases hv : valD bs with
  | none => exact ⟨fun f hf => (by cases hf), by simp [vX, vl]⟩
  | some p => obtain ⟨x, k⟩ := p; exact valD_flat hv
def eS : Option ((ByteArray × List Vl) × Nat) → ByteArray | none => ⟨#[]⟩ | some ((s, _), _) => s
def eX : Option ((ByteArray × List Vl) × Nat) → List Vl | none => [] | some ((_, xs), _) => xs
def eK : Option ((ByteArray × List Vl) × Nat) → Int | none => 0 | some (_, k) => (k : Int)
def eE : Option ((ByteArray × List Vl) × Nat) → Int | none => 20 | some _ => 0
theorem evP_eq {B : Nat} {o : Option ((ByteArray × List Vl) × Nat)} {e : Ending} {w' : World} (h : EvP B o e w') : ∃ (a : Option Addr) (c : Nat) (hs : List Hd), e = .returned (.tuple #[.agg #[.string (eS o), .slice a (eX o).length c], .int .i64 (eK o), .int .i64 (eE o)]) ∧ VRd w' a hs ∧ Reps w' (eX o) hs := by
  rcases o with _ | ⟨⟨s, xs⟩, k⟩
  · exact ⟨none, 0, [], h, fun j x hx => by simp at hx, Reps.nil _⟩
  · obtain ⟨v', hs, he, hrow, hr⟩ := h
    obtain ⟨a, cap, rfl, _⟩ := hrow.form
    rw [hr.len] at he
    exact ⟨a, cap, hs, he, hrow.rd, hr⟩
theorem goD_flatV {bs : List Nat} : ∀ (c i : Nat) (acc xs : List Vl) (k : Nat), (∀ f ∈ acc, Flat f) → goD valD bs c i acc = some (xs, k) → (∀ f ∈ xs, Flat f) ∧ xs.length = acc.length + c
  | 0, i, acc, xs, k, ha, e => by simp only [goD] at e; cases e; exact ⟨ha, rfl⟩
  | c + 1, i, acc, xs, k, ha, e => by
    simp only [goD] at e
    split at e
    · cases e
    · rename_i x q hd
      have := goD_flatV c (i + q) (acc ++ [x]) xs k (fun f hf => by
        rcases List.mem_append.1 hf with hf | hf
        · exact ha f hf
        · simp at hf; subst hf; exact valD_flat hd) e
      exact ⟨this.1, by simp at this; omega⟩
theorem eX_flat (bs : List Nat) : (∀ x ∈ eX (evD bs), Flat x) ∧ (eX (evD bs)).length ≤ 12 := by
  cases he : evD bs with
  | none => exact ⟨fun x hx => (by cases hx), by simp [eX]⟩
  | some p =>
    obtain ⟨⟨s, xs⟩, k⟩ := p
    unfold evD at he
    split at he
    · cases he
    · split at he
      · cases he
      · split at he
        · cases he
        · rename_i xs' k' hr
          cases he
          unfold rowD at hr
          split at hr
          · cases hr
          · split at hr
            · cases hr
            · have := goD_flatV _ _ [] xs _ (fun f hf => by cases hf) hr
              exact ⟨this.1, by simp [eX] at this ⊢; omega⟩

set_option maxRecDepth 100000 in
set_option maxHeartbeats 400000 in
theorem reads_long (w : World) (a : Option Addr) (n cap : Nat) (hn : 1500 < n) :
    Calls Try.prog 4 #[.slice a n cap] w fun e w' => e = .returned (.bool true) ∧ Below w.heap.size w w' := by
  go_enter Try.func4, Try.ntmps4
  go_wp2_with (go_at_call 9; refine (known_any _).mono ?_; rintro e w0 ⟨rfl, hB⟩)
  go_ret
  exact ⟨rfl, hB⟩

set_option maxRecDepth 100000 in
set_option maxHeartbeats 1000000 in
theorem reads_yes (w : World) (a : Option Addr) (n cap : Nat) (bs : List Nat) (h : Rd w (.slice a n cap) bs) (hn : n ≤ 1500) :
    Calls Try.prog 4 #[.slice a n cap] w fun e w' => e = .returned (.bool true) ∧ Below w.heap.size w w' := by
  have hl := h.cap.1
  have hlb : bs.length ≤ 1500 := by omega
  obtain ⟨hf1, hf2⟩ := eX_flat bs
  have hvf := vX_flat (bs := bs)
  have Hvf := hid hvf
  have Hef := hid hf1
  have K1 := hid (fun w h => uint_any w (.slice a n cap) bs h (by omega))
  have K2 := hid (fun w h => refUint_any w (.slice a n cap) bs h (by omega))
  have K3 := hid (fun w h => int_any w (.slice a n cap) bs h (by omega))
  have K4 := hid (fun w h => refInt_any w (.slice a n cap) bs h (by omega))
  have K5 := hid (fun w h => text_any w (.slice a n cap) bs h (by omega))
  have K6 := hid (fun w h => refText_any w (.slice a n cap) bs h (by omega))
  have K7 := hid (fun w h => value_any w (.slice a n cap) bs h (by omega))
  have K8 := hid (fun w h => refValue_any w (.slice a n cap) bs h (by omega))
  have K9 := hid (fun w h => event_any w (.slice a n cap) bs h (by omega))
  have K10 := hid (fun w h => refEvent_any w (.slice a n cap) bs h (by omega))
  simp only [uintV_eq, intV_eq, textV_eq] at K1 K2 K3 K4 K5 K6
  generalize dec bs = od at *
  generalize textD 64 bs = ot at *
  generalize valD bs = ov at *
  generalize evD bs = oe at *
  have HR := hid h
  clear h hl hvf hf1
  go_enter Try.func4, Try.ntmps4
  go_wp2_with (first
    | (go_at_call 9; (refine (known_any _).mono ?_; rintro e w0 ⟨rfl, hB⟩; replace HR := hid (HR.out.below (Nat.le_refl _) hB)))
    | (go_at_call 17; (refine (Hid.out K1 _ HR.out).mono ?_; rintro e w1 ⟨rfl, he⟩; cases he))
    | (go_at_call 20; (refine (Hid.out K2 _ HR.out).mono ?_; rintro e w1 ⟨rfl, he⟩; cases he))
    | (go_at_call 18; (refine (Hid.out K3 _ HR.out).mono ?_; rintro e w1 ⟨rfl, he⟩; cases he))
    | (go_at_call 21; (refine (Hid.out K4 _ HR.out).mono ?_; rintro e w1 ⟨rfl, he⟩; cases he))
    | (go_at_call 19; (refine (Hid.out K5 _ HR.out).mono ?_; rintro e w1 ⟨rfl, he⟩; cases he))
    | (go_at_call 22; (refine (Hid.out K6 _ HR.out).mono ?_; rintro e w1 ⟨rfl, he⟩; cases he))
    | (go_at_call 23; (refine (Hid.out K7 _ HR.out).mono ?_; rintro e w2 ⟨hb2, hP⟩; obtain ⟨h1, rfl, hr1⟩ := valP_eq hP; have Hr1 := hid hr1; clear hP hr1; replace HR := hid (HR.out.below (Nat.le_refl _) hb2); replace hB := hB.trans (hb2.mono hB.size); clear hb2; simp only [Hd.v]))
    | (go_at_call 24; (refine (Hid.out K8 _ (HR.out.below (Nat.le_refl _) (first2 w2 _))).mono ?_; rintro e w3 ⟨hb3, hP⟩; obtain ⟨h2, rfl, hr2⟩ := valP_eq hP; have Hr2 := hid hr2; clear hP hr2; have hv := (hb3.block w2.heap.size (by simp)).trans (heap_alloc_new w2 _); have p0 := cellOf hv 0; have p1 := cellOf hv 1; have p2 := cellOf hv 2; have p3 := cellOf hv 3; have p4 := cellOf hv 4; simp only [List.getElem?_toArray, List.getElem?_cons_zero, List.getElem?_cons_succ] at p0 p1 p2 p3 p4; have hsz : w2.heap.size < w3.heap.size := (by have := hb3.size; simp at this; omega); replace Hr1 := hid ((Hr1.out.below (Nat.le_refl _) (first2 w2 _)).below (Nat.le_refl _) hb3); replace HR := hid ((HR.out.below (Nat.le_refl _) (first2 w2 _)).below (Nat.le_refl _) hb3); replace hB := (hB.alloc hB.size _).trans (hb3.mono (by have := hB.size; simp; omega)); clear hb3 hv; simp only [Hd.v]))
    | (go_at_call 25; (have hc := same_rep (w3.alloc (.cells h2.v.cells 45)) (vX ov) h1 h2 Hvf.out (Hr1.out.below (Nat.le_refl _) (first2 w3 _)) (Hr2.out.below (Nat.le_refl _) (first2 w3 _)); simp only [Hd.v, Value.cells] at hc; refine hc.mono ?_; rintro e w4 ⟨rfl, hb4⟩; replace HR := hid ((HR.out.below (Nat.le_refl _) (first2 w3 _)).below (Nat.le_refl _) hb4); replace hB := (hB.alloc hB.size _).trans (hb4.mono (by have := hB.size; simp; omega)); clear hc hb4 p0 p1 p2 p3 p4 hsz Hr1 Hr2))
    | (go_at_call 26; (refine (Hid.out K9 _ HR.out).mono ?_; rintro e w5 ⟨hb5, hP⟩; obtain ⟨a5, c5, hs5, rfl, hv5, hr5⟩ := evP_eq hP; have Hv5 := hid hv5; have Hr5 := hid hr5; clear hP hv5 hr5; replace HR := hid (HR.out.below (Nat.le_refl _) hb5); replace hB := hB.trans (hb5.mono hB.size); clear hb5))
    | (go_at_call 27; (refine (Hid.out K10 _ (HR.out.below (Nat.le_refl _) (first2 w5 _))).mono ?_; rintro e w6 ⟨hb6, hP⟩; obtain ⟨a6, c6, hs6, rfl, hv6, hr6⟩ := evP_eq hP; have Hv6 := hid hv6; have Hr6 := hid hr6; clear hP hv6 hr6; have hv := (hb6.block w5.heap.size (by simp)).trans (heap_alloc_new w5 _); have p0 := cellOf hv 0; have p1 := cellOf hv 1; simp only [List.getElem?_toArray, List.getElem?_cons_zero, List.getElem?_cons_succ] at p0 p1; have hsz : w5.heap.size < w6.heap.size := (by have := hb6.size; simp at this; omega); replace Hv5 := hid ((Hv5.out.below (Nat.le_refl _) (first2 w5 _)).below (Nat.le_refl _) hb6); replace Hr5 := hid ((Hr5.out.below (Nat.le_refl _) (first2 w5 _)).below (Nat.le_refl _) hb6); replace hB := (hB.alloc hB.size _).trans (hb6.mono (by have := hB.size; simp; omega)); clear hb6 hv))
    | (go_at_call 28; (refine (all_rep _ a5 a6 _ c5 c6 (eX oe) hs5 hs6 rfl (by omega) Hef.out (Hv5.out.below (Nat.le_refl _) (first2 w6 _)) (Hv6.out.below (Nat.le_refl _) (first2 w6 _)) (Hr5.out.below (Nat.le_refl _) (first2 w6 _)) (Hr6.out.below (Nat.le_refl _) (first2 w6 _))).mono ?_; rintro e w7 ⟨rfl, hb7⟩; replace hB := (hB.alloc hB.size _).trans (hb7.mono (by have := hB.size; simp; omega)); clear hb7)))
  go_ret
  exact ⟨by simp, hB⟩
end Go.Proofs.Ytjfkcafocindjaa
