/- Event. -/
import Derived.Test.YtjfkcafocindjaaT
namespace Go.Proofs.Ytjfkcafocindjaa
open Go.RowKit Go.Deep
set_option linter.unusedVariables false
set_option linter.unusedSimpArgs false

def evD (bs : List Nat) : Option ((ByteArray × List Vl) × Nat) := match textD 64 bs with
  | .error _ => none
  | .ok (s, i) => if s.length < 1 ∨ 20 < s.length then none else match rowD valD (bs.drop i) with
    | none => none
    | some (xs, k) => some ((ofB s, xs), i + k)
def evZ : Value := .tuple #[.agg #[.string ⟨#[]⟩, .slice none 0 0], .int .i64 0, .int .i64 20]
def EvP (B : Nat) (o : Option ((ByteArray × List Vl) × Nat)) (e : Ending) (w' : World) : Prop := match o with
  | none => e = .returned evZ
  | some ((s, xs), k) => ∃ v' hs, e = .returned (.tuple #[.agg #[.string s, v'], .int .i64 (k : Int), .int .i64 0]) ∧ VRow w' B v' hs ∧ Reps w' xs hs

theorem rowDV_le {bs : List Nat} (hb : Byt bs) {fs : List Vl} {k : Nat} (e : rowD valD bs = some (fs, k)) : k ≤ bs.length := by
  unfold rowD at e
  split at e
  · cases e
  · rename_i c i hd
    split at e
    · cases e
    · exact goD_le (fun bs x k hb e => valD_le hb e) hb c i [] fs k (dec_back hb hd).2.2.1 e

set_option maxHeartbeats 400000 in
theorem isName_any (w : World) (s : ByteArray) (hs : s.size ≤ 1000000000000) :
    Calls Try.prog 43 #[.string s] w fun e w' => e = .returned (.bool (decide (1 ≤ s.size) && decide (s.size ≤ 20))) ∧ w' = w := by
  by_cases h1 : 1 ≤ s.size
  · by_cases h2 : s.size ≤ 20
    · have E : Hid ((decide (1 ≤ s.size) && decide (s.size ≤ 20)) = true) := by refine hid ?_; simp [h1, h2]
      go_enter Try.func43, Try.ntmps43
      go_wp2
      go_ret
      exact ⟨by rw [E.out]; simp; try omega, rfl⟩
    · have E : Hid ((decide (1 ≤ s.size) && decide (s.size ≤ 20)) = false) := by refine hid ?_; simp [h2]
      go_enter Try.func43, Try.ntmps43
      go_wp2
      go_ret
      exact ⟨by rw [E.out]; simp; try omega, rfl⟩
  · go_enter Try.func43, Try.ntmps43
    go_wp2
    go_ret
    exact ⟨by simp [h1], rfl⟩

theorem res2_cells {w w2 : World} {c : Array Value} (h : Below (w.heap.size + 1) (w.alloc (.cells c 52)) w2) : w2.heap[w.heap.size]? = some (.cells c 52 (0, 0)) := by
  rw [h.block _ (by omega)]; exact heap_alloc_new w _
def two (w : World) (b : Nat) (s v : Value) : World := (w.setCell ⟨b, 0, none⟩ s).setCell ⟨b, 1, none⟩ v
theorem two_heap (w : World) (b : Nat) (s v : Value) {k : Nat} (hk : k ≠ b) : (two w b s v).heap[k]? = w.heap[k]? := by
  unfold two
  rw [Below.heap_setCell _ _ _ _ hk, Below.heap_setCell _ _ _ _ hk]
theorem two_below {B : Nat} {w0 w : World} (hb : Below B w0 w) {b : Nat} (hB : B ≤ b) (s v : Value) : Below B w0 (two w b s v) := by
  unfold two
  exact (hb.setCell hB _).setCell hB _

theorem Reps.two {w : World} {xs hs} (r : Reps w xs hs) {b0 : Nat} (hr : w.heap[b0]? = some (.cells #[.string ⟨#[]⟩, .slice none 0 0] 52 (0, 0))) (s v : Value) : Reps (two w b0 s v) xs hs := by
  refine r.keep fun j x h e1 e2 hf b hb eb => two_heap _ _ _ _ ?_
  rintro rfl
  obtain ⟨y, hy⟩ : ∃ y, x.fs[0]? = some y := by
    cases hx : x.fs with
    | nil => exact absurd hx hf
    | cons y r => exact ⟨y, rfl⟩
  obtain ⟨b', off, ea, hc⟩ := (r.each j x h e1 e2).fs 0 y hy
  rw [ea] at eb
  cases eb
  have hc0 := hc 0 (by omega)
  rw [show y.cs[0]? = some (.int .i64 y.kind) from rfl, cellOf hr] at hc0
  match off, hc0 with
  | 0, hc0 => simp at hc0
  | 1, hc0 => simp at hc0
  | n + 2, hc0 => simp at hc0

set_option maxRecDepth 10000 in
set_option maxHeartbeats 1000000 in
theorem event_any (w : World) (v : Value) (bs : List Nat) (h : Rd w v bs) (hl : bs.length ≤ 1000000) :
    Calls Try.prog 26 #[v] w fun e w' => Below w.heap.size w w' ∧ EvP (w.heap.size + 1) (evD bs) e w' := by
  obtain ⟨a, cap, rfl⟩ := h.len
  have hby : Byt bs := by obtain ⟨_, _, _, _, hb, _⟩ := h; exact hb
  have hcap := h.cap.2
  have h0 := h.below (Nat.le_refl _) ((Below.refl _ _).alloc (Nat.le_refl _) (.cells #[.string ⟨#[]⟩, .slice none 0 0] 52))
  have H1 := text_any _ _ bs h0 (by omega)
  generalize hn : bs.length = n at *
  cases ht : textD 64 bs with
  | error x =>
    have hx := textD_bad ht
    have V : Hid (evD bs = none) := by refine hid ?_; simp [evD, ht]
    rw [ht] at H1
    have K1 := hid H1
    clear H1 h h0 hn
    rcases hx with rfl | rfl
    all_goals
      go_enter Try.func26, Try.ntmps26
      go_wp2_with (go_at_call 19; (refine (Hid.out K1).mono ?_; rintro e w2 ⟨rfl, rfl⟩; simp only [textV]))
      refine bodyPost_ret (v := evZ) (by simp [results, Try.results26, go_sem, evZ]) rfl ⟨(Below.refl _ _).alloc (Nat.le_refl _) _, by rw [V.out]; rfl⟩
  | ok pp =>
    obtain ⟨s, i⟩ := pp
    have hi := textD_le hby ht
    rw [hn] at hi
    rw [ht] at H1
    have K1 := hid H1
    clear H1
    have hss : (ofB s).size = s.length := ofB_size s
    by_cases hnm : s.length < 1 ∨ 20 < s.length
    · have V : Hid (evD bs = none) := by refine hid ?_; simp only [evD, ht]; rw [if_pos hnm]
      have K2 : Hid (∀ w : World, Calls Try.prog 43 #[.string (ofB s)] w fun e w' => e = .returned (.bool false) ∧ w' = w) := hid (fun w => by
        refine (isName_any w (ofB s) (by omega)).mono ?_
        rintro e w' ⟨rfl, rfl⟩
        exact ⟨by simp [hss]; omega, rfl⟩)
      clear h h0 hn hss
      go_enter Try.func26, Try.ntmps26
      go_wp2_with (first
        | (go_at_call 19; (refine (Hid.out K1).mono ?_; rintro e w2 ⟨rfl, rfl⟩; simp only [textV]))
        | (go_at_call 43; (refine (Hid.out K2 _).mono ?_; rintro e w2 ⟨rfl, rfl⟩)))
      refine bodyPost_ret (v := evZ) (by simp [results, Try.results26, go_sem, evZ]) rfl ⟨(Below.refl _ _).alloc (Nat.le_refl _) _, by rw [V.out]; rfl⟩
    · have K2 : Hid (∀ w : World, Calls Try.prog 43 #[.string (ofB s)] w fun e w' => e = .returned (.bool true) ∧ w' = w) := hid (fun w => by
        refine (isName_any w (ofB s) (by omega)).mono ?_
        rintro e w' ⟨rfl, rfl⟩
        exact ⟨by simp [hss]; omega, rfl⟩)
      have K3 : Hid (∀ (a' : Option Addr) (m c' : Nat), a' = (if cap = i then a else Option.map (fun x => x.add i) a) → m = n - i → c' = cap - i → Calls Try.prog 40 #[.slice a' m c', .func (.func 23) #[] #[]] (w.alloc (.cells #[.string ⟨#[]⟩, .slice none 0 0] 52)) fun e w' => Below (w.heap.size + 1) (w.alloc (.cells #[.string ⟨#[]⟩, .slice none 0 0] 52)) w' ∧ RowVP (w.heap.size + 1) (rowD valD (bs.drop i)) e w') := hid (by
        intro a' m c' ea em ec
        have hs := h0.sl i (by omega) (a' := a') (m := m) (c' := c') ea em ec
        have := rowV_any _ _ (bs.drop i) hs (by simp; omega)
        simp only [World.size_alloc] at this
        exact this)
      have hin : i ≤ n := hi.1
      clear h h0
      cases hrd : rowD valD (bs.drop i) with
      | none =>
        have V : Hid (evD bs = none) := by refine hid ?_; simp only [evD, ht]; rw [if_neg hnm, hrd]
        rw [hrd] at K3
        clear hn
        by_cases hcs : cap = i
        · subst hcs
          go_enter Try.func26, Try.ntmps26
          go_wp2_with (first
            | (go_at_call 19; (refine (Hid.out K1).mono ?_; rintro e w2 ⟨rfl, rfl⟩; simp only [textV]))
            | (go_at_call 43; (refine (Hid.out K2 _).mono ?_; rintro e w2 ⟨rfl, rfl⟩))
            | (go_at_call 40; (refine (Hid.out K3 _ _ _ (by simp) (by omega) (by omega)).mono ?_; rintro e w2 ⟨hb2, hP⟩; obtain rfl := hP; have hr := res2_cells hb2; have g0 := cellOf hr 0; have g1 := cellOf hr 1; have gf := freeOf hr; simp only [List.getElem?_toArray, List.getElem?_cons_zero, List.getElem?_cons_succ] at g0 g1; clear hr)))
          refine bodyPost_ret (v := evZ) (by simp [results, Try.results26, go_sem, g0, g1, evZ]) rfl ⟨two_below (first_below hb2) (Nat.le_refl _) _ _, by rw [V.out]; rfl⟩
        · go_enter Try.func26, Try.ntmps26
          go_wp2_with (first
            | (go_at_call 19; (refine (Hid.out K1).mono ?_; rintro e w2 ⟨rfl, rfl⟩; simp only [textV]))
            | (go_at_call 43; (refine (Hid.out K2 _).mono ?_; rintro e w2 ⟨rfl, rfl⟩))
            | (go_at_call 40; (refine (Hid.out K3 _ _ _ (by rw [if_neg hcs]) (by omega) (by omega)).mono ?_; rintro e w2 ⟨hb2, hP⟩; obtain rfl := hP; have hr := res2_cells hb2; have g0 := cellOf hr 0; have g1 := cellOf hr 1; have gf := freeOf hr; simp only [List.getElem?_toArray, List.getElem?_cons_zero, List.getElem?_cons_succ] at g0 g1; clear hr)))
          refine bodyPost_ret (v := evZ) (by simp [results, Try.results26, go_sem, g0, g1, evZ]) rfl ⟨two_below (first_below hb2) (Nat.le_refl _) _ _, by rw [V.out]; rfl⟩
      | some p =>
        obtain ⟨xs, k⟩ := p
        have V : Hid (evD bs = some ((ofB s, xs), i + k)) := by refine hid ?_; simp only [evD, ht]; rw [if_neg hnm, hrd]
        rw [hrd] at K3
        have hk := rowDV_le (hby.drop i) hrd
        rw [List.length_drop] at hk
        have hk2 : k ≤ 1000000 := by omega
        have hcs : ¬ cap = i := by
          intro e
          rw [List.drop_eq_nil_of_le (by omega)] at hrd
          cases hrd
        clear hn
        go_enter Try.func26, Try.ntmps26
        go_wp2_with (first
          | (go_at_call 19; (refine (Hid.out K1).mono ?_; rintro e w2 ⟨rfl, rfl⟩; simp only [textV]))
          | (go_at_call 43; (refine (Hid.out K2 _).mono ?_; rintro e w2 ⟨rfl, rfl⟩))
          | (go_at_call 40; (refine (Hid.out K3 _ _ _ (by rw [if_neg hcs]) (by omega) (by omega)).mono ?_; rintro e w2 ⟨hb2, hP⟩; obtain ⟨v', hs, rfl, hrow, hreps⟩ := hP; obtain ⟨a3, c3, rfl, _⟩ := hrow.form; have Hreps := hid hreps; clear hreps; have hr := res2_cells hb2; have g0 := cellOf hr 0; have g1 := cellOf hr 1; have gf := freeOf hr; simp only [List.getElem?_toArray, List.getElem?_cons_zero, List.getElem?_cons_succ] at g0 g1; have Hr := hid hr; clear hr)))
        refine bodyPost_ret (v := .tuple #[.agg #[.string (ofB s), .slice a3 hs.length c3], .int .i64 ((i + k : Nat) : Int), .int .i64 0]) (by simp [results, Try.results26, go_sem, g0, g1]; try omega) rfl ⟨two_below (first_below hb2) (Nat.le_refl _) _ _, ?_⟩
        rw [V.out]
        refine ⟨_, hs, rfl, hrow.same fun g' e' => two_heap _ _ _ _ (by have := (hrow.own g' e').1; omega), ?_⟩
        exact Reps.two Hreps.out Hr.out _ _
end Go.Proofs.Ytjfkcafocindjaa
