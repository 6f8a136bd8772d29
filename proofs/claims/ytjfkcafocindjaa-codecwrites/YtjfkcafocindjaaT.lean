/- row, over Value. -/
import Derived.Test.YtjfkcafocindjaaS
namespace Go.Proofs.Ytjfkcafocindjaa
open Go.RowKit Go.Deep
set_option linter.unusedVariables false
set_option linter.unusedSimpArgs false

structure Reps (w : World) (xs : List Vl) (hs : List Hd) : Prop where
  len : hs.length = xs.length
  each : ∀ (j : Nat) (x : Vl) (h : Hd), xs[j]? = some x → hs[j]? = some h → Rep w x h
theorem Reps.nil (w : World) : Reps w [] [] := ⟨rfl, fun j x h e => by simp at e⟩
/- Between w and w' no block of other element types than values' has turned that was there, and of these none but one. -/
theorem VRd.keep {w w' : World} {a : Option Addr} {hs : List Hd} (h : VRd w a hs) (k : ∀ b, b < w.heap.size → (∃ off, a = some ⟨b, off, none⟩) → w'.heap[b]? = w.heap[b]?) : VRd w' a hs := by
  intro j x hx
  obtain ⟨b, off, rfl, hc⟩ := h j x hx
  refine ⟨b, off, rfl, fun i hi => ?_⟩
  have h0 := hc 0 (by omega)
  have hb : b < w.heap.size := World.block_lt_of_cell? w _ (h0.trans (show x.cs[0]? = some (.int .i64 x.kind) from rfl))
  rw [World.cell?_of_block (w := w) (k b hb ⟨off, rfl⟩)]
  exact hc i hi
theorem Rep.keep {w w' : World} {x : Vl} {h : Hd} (r : Rep w x h) (k : x.fs ≠ [] → ∀ b, b < w.heap.size → (Value.slice h.a h.n h.cap).ownBlock = some b → w'.heap[b]? = w.heap[b]?) : Rep w' x h := by
  refine ⟨r.kind, r.int, r.text, r.rc, r.n, ?_⟩
  by_cases hf : x.fs = []
  · rw [hf]; intro j y hy; simp at hy
  · exact r.fs.keep fun b hb ⟨off, e⟩ => k hf b hb (by rw [e]; rfl)
theorem Rep.below {w w' : World} {x : Vl} {h : Hd} {B : Nat} (r : Rep w x h) (hB : w.heap.size ≤ B) (k : Below B w w') : Rep w' x h := r.keep fun _ b hb _ => k.block b (by omega)
theorem Rep.lt {w : World} {x : Vl} {h : Hd} (r : Rep w x h) (hf : x.fs ≠ []) : ∀ b, (Value.slice h.a h.n h.cap).ownBlock = some b → b < w.heap.size := by
  intro b e
  obtain ⟨y, hy⟩ : ∃ y, x.fs[0]? = some y := by
    cases hx : x.fs with
    | nil => exact absurd hx hf
    | cons y r => exact ⟨y, rfl⟩
  obtain ⟨b', off, ea, hc⟩ := r.fs 0 y hy
  rw [ea] at e
  cases e
  exact World.block_lt_of_cell? w _ ((hc 0 (by omega)).trans (show y.cs[0]? = some (.int .i64 y.kind) from rfl))
/- The row's own block is none of its elements' fields' blocks. -/
def Apart (v : Value) (xs : List Vl) (hs : List Hd) : Prop := ∀ (j : Nat) (x : Vl) (h : Hd), xs[j]? = some x → hs[j]? = some h → x.fs ≠ [] → ∀ b, (Value.slice h.a h.n h.cap).ownBlock = some b → some b ≠ v.ownBlock
theorem Reps.keep {w w' : World} {xs hs} (r : Reps w xs hs) (k : ∀ (j : Nat) (x : Vl) (h : Hd), xs[j]? = some x → hs[j]? = some h → x.fs ≠ [] → ∀ b, b < w.heap.size → (Value.slice h.a h.n h.cap).ownBlock = some b → w'.heap[b]? = w.heap[b]?) : Reps w' xs hs :=
  ⟨r.len, fun j x h e1 e2 => (r.each j x h e1 e2).keep (k j x h e1 e2)⟩
theorem Reps.below {w w' : World} {xs hs} {B : Nat} (r : Reps w xs hs) (hB : w.heap.size ≤ B) (k : Below B w w') : Reps w' xs hs := ⟨r.len, fun j x h e1 e2 => (r.each j x h e1 e2).below hB k⟩
theorem Reps.snoc {w : World} {xs hs} {x : Vl} {h : Hd} (r : Reps w xs hs) (k : Rep w x h) : Reps w (xs ++ [x]) (hs ++ [h]) := by
  refine ⟨by simp [r.len], fun j y g e1 e2 => ?_⟩
  rcases Nat.lt_or_ge j xs.length with hj | hj
  · rw [List.getElem?_append_left hj] at e1
    rw [List.getElem?_append_left (by rw [r.len]; exact hj)] at e2
    exact r.each j y g e1 e2
  · rw [List.getElem?_append_right hj] at e1
    rw [List.getElem?_append_right (by rw [r.len]; exact hj), r.len] at e2
    cases hd : j - xs.length with
    | zero => rw [hd] at e1 e2; simp at e1 e2; subst e1 e2; exact k
    | succ m => rw [hd] at e1; simp at e1
theorem Apart.snoc {v v' : Value} {xs hs} {x : Vl} {h : Hd} {w w1 w3 : World} (hl : hs.length = xs.length) (r : Apart v xs hs) (hR : Reps w1 xs hs) (hx : Rep w1 x h) (hw : w.heap.size ≤ w1.heap.size) (hv : ∀ k, v.ownBlock = some k → k < w.heap.size) (hnew : ∀ b, (Value.slice h.a h.n h.cap).ownBlock = some b → w.heap.size ≤ b)
    (hg : Grw w1 v w3 v') : Apart v' (xs ++ [x]) (hs ++ [h]) := by
  intro j y g e1 e2 hf b eb ee
  rcases hg.2 with h2 | ⟨q, h2, hq⟩
  · rw [h2] at ee
    rcases Nat.lt_or_ge j xs.length with hj | hj
    · rw [List.getElem?_append_left hj] at e1
      rw [List.getElem?_append_left (by omega)] at e2
      exact r j y g e1 e2 hf b eb ee
    · rw [List.getElem?_append_right hj] at e1
      rw [List.getElem?_append_right (by omega), hl] at e2
      cases hd : j - xs.length with
      | zero => rw [hd] at e1 e2; simp at e1 e2; subst e1 e2; have := hnew b eb; have := hv b ee.symm; omega
      | succ m => rw [hd] at e1; simp at e1
  · rw [h2] at ee
    cases ee
    rcases Nat.lt_or_ge j xs.length with hj | hj
    · rw [List.getElem?_append_left hj] at e1
      rw [List.getElem?_append_left (by omega)] at e2
      have := (hR.each j y g e1 e2).lt hf _ eb
      omega
    · rw [List.getElem?_append_right hj] at e1
      rw [List.getElem?_append_right (by omega), hl] at e2
      cases hd : j - xs.length with
      | zero => rw [hd] at e1 e2; simp at e1 e2; subst e1 e2; have := hx.lt hf _ eb; omega
      | succ m => rw [hd] at e1; simp at e1

def RowVP (B : Nat) (o : Option (List Vl × Nat)) (e : Ending) (w' : World) : Prop := match o with
  | none => e = .returned (.tuple #[.slice none 0 0, .int .i64 0, .int .i64 20])
  | some (xs, k) => ∃ v' hs, e = .returned (.tuple #[v', .int .i64 (k : Int), .int .i64 0]) ∧ VRow w' B v' hs ∧ Reps w' xs hs

set_option maxRecDepth 10000 in
set_option maxHeartbeats 1000000 in
theorem rowV_any (w : World) (v : Value) (bs : List Nat) (h : Rd w v bs) (hl : bs.length ≤ 100000000) :
    Calls Try.prog 40 #[v, .func (.func 23) #[] #[]] w fun e w' => Below w.heap.size w w' ∧ RowVP w.heap.size (rowD valD bs) e w' := by
  obtain ⟨a, cap, rfl⟩ := h.len
  have hu := uint_any w _ bs h (by omega)
  have hby : Byt bs := by obtain ⟨_, _, _, _, hb, _⟩ := h; exact hb
  cases hd : dec bs with
  | none =>
    rw [hd] at hu
    have Hu := hid hu
    have R0 : Hid (rowD valD bs = none) := by refine hid ?_; simp [rowD, hd]
    clear hu h
    go_enter Try.func40, Try.ntmps40
    go_wp2_with (go_at_call 17; refine (Hid.out Hu).mono ?_; rintro e w ⟨rfl, rfl⟩; simp only [uintV])
    go_ret3
    exact ⟨Below.refl _ _, by rw [R0.out]; rfl⟩
  | some p =>
    obtain ⟨c, at0⟩ := p
    rw [hd] at hu
    have Hu := hid hu
    obtain ⟨_, hc64, hat, _, _⟩ := dec_back hby hd
    clear hu
    by_cases h12 : 12 < c
    · have R0 : Hid (rowD valD bs = none) := by refine hid ?_; simp [rowD, hd, h12]
      clear h
      go_enter Try.func40, Try.ntmps40
      go_wp2_with (go_at_call 17; refine (Hid.out Hu).mono ?_; rintro e w ⟨rfl, rfl⟩; simp only [uintV])
      go_ret3
      exact ⟨Below.refl _ _, by rw [R0.out]; rfl⟩
    · have R0 : Hid (rowD valD bs = goD valD bs c at0 []) := by refine hid ?_; simp [rowD, hd, h12]
      go_enter Try.func40, Try.ntmps40
      go_wp2_with (go_at_call 17; refine (Hid.out Hu).mono ?_; rintro e w ⟨rfl, rfl⟩; simp only [uintV])
      go_loopg [8, 10, 28] c (fun g att vals ii wr => ∃ (i at1 : Nat) (hs : List Hd) (xs : List Vl), i + g = c ∧ ii = .int .i64 (i : Int) ∧ att = .int .i64 (at1 : Int) ∧ at1 ≤ bs.length ∧ hs.length = i ∧ VRow wr w.heap.size vals hs ∧ Reps wr xs hs ∧ Apart vals xs hs ∧ Below w.heap.size w wr ∧ goD valD bs c at0 [] = goD valD bs g at1 xs)
      case atStart => exact ⟨0, at0, [], [], by omega, rfl, rfl, hat, rfl, VRow.nil _ _, Reps.nil _, fun j x h e => by simp at e, Below.refl _ _, rfl⟩
      case round =>
        obtain ⟨i, at1, hs, xs, hi, rfl, rfl, hat1, hhs, hrow, hreps, hap, hbel, hgo⟩ := hrel
        have Hreps := hid hreps
        have Hap := hid hap
        clear hreps hap
        have Hi := hid hi
        have Hgo := hid hgo
        have Hhs := hid hhs
        clear hi hgo hhs
        have Hr := hid (h.below (Nat.le_refl _) hbel)
        cases gk with
        | zero =>
          have hic : i = c := by have := Hi.out; omega
          go_wp2
          go_ret3
          refine ⟨hbel, ?_⟩
          rw [R0.out, Hgo.out]
          exact ⟨_, hs, rfl, hrow, Hreps.out⟩
        | succ g =>
          have hic : i < c := by have := Hi.out; omega
          have hs1 := (Hr.out).from at1 hat1
          unfold sliced at hs1
          rw [Nat.mul_one] at hs1
          have Hs1 := hid hs1
          clear hs1
          have hcap := (Hr.out).cap.2
          have hbs : w.heap.size ≤ wr.heap.size := hbel.size
          have hsR := hid (show (if cap = at1 then a else Option.map (fun x => x.add at1) a) = (if cap = at1 then a else Option.map (fun x => x.add at1) a) from rfl)
          have Hsl : Hid (∀ (a' : Option Addr) (m c' : Nat), a' = (if cap = at1 then a else Option.map (fun x => x.add at1) a) → m = bs.length - at1 → c' = cap - at1 → Rd wr (.slice a' m c') (bs.drop at1)) := hid (by
            rintro _ _ _ rfl rfl rfl
            exact Hs1.out)
          cases hsd : valD (bs.drop at1) with
          | none =>
            have E : Hid (goD valD bs (g + 1) at1 xs = none) := by refine hid ?_; simp [goD, hsd]
            rcases Nat.lt_or_ge at1 cap with hca | hca
            · have hca' : ¬ cap = at1 := by omega
              go_wp2_with (go_at_call 23; (refine (value_any wr _ (bs.drop at1) (Hid.out Hsl _ _ _ (by rw [if_neg hca']) rfl rfl) (by simp; omega)).mono ?_; rintro e w2 ⟨hb2, hP⟩; rw [hsd] at hP; obtain rfl := hP; simp only [valV, zeroV]))
              go_ret3
              refine ⟨(hbel.trans (hb2.mono hbs)).alloc (Nat.le_trans hbs hb2.size) _, ?_⟩
              rw [R0.out, Hgo.out, E.out]; rfl
            · obtain rfl : at1 = cap := by omega
              go_wp2_with (go_at_call 23; (refine (value_any wr _ (bs.drop at1) (Hid.out Hsl _ _ _ (by rw [if_pos rfl]) (by omega) (by omega)) (by simp; omega)).mono ?_; rintro e w2 ⟨hb2, hP⟩; rw [hsd] at hP; obtain rfl := hP; simp only [valV, zeroV]))
              go_ret3
              refine ⟨(hbel.trans (hb2.mono hbs)).alloc (Nat.le_trans hbs hb2.size) _, ?_⟩
              rw [R0.out, Hgo.out, E.out]; rfl
          | some p =>
            obtain ⟨xx, k⟩ := p
            have hk := valD_le (hby.drop at1) hsd
            rw [List.length_drop] at hk
            have E : Hid (goD valD bs (g + 1) at1 xs = goD valD bs g (at1 + k) (xs ++ [xx])) := by refine hid ?_; simp [goD, hsd]
            have hlen : hs.length ≤ 1000000 := by have := Hhs.out; omega
            rcases Nat.lt_or_ge at1 cap with hca | hca
            · have hca' : ¬ cap = at1 := by omega
              go_wp2_with (first
                | (go_at_call 23; (refine (value_any wr _ (bs.drop at1) (Hid.out Hsl _ _ _ (by rw [if_neg hca']) rfl rfl) (by simp; omega)).mono ?_; rintro e w2 ⟨hb2, hP⟩; rw [hsd] at hP; obtain ⟨hh, rfl, hrep, hnew⟩ := hP; simp only [Hd.v]; have Hrep := hid hrep; have Hnew := hid hnew; clear hrep hnew))
                | (at_builtin; have hno := hb2; (refine wpList_appV _ rfl _ _ rfl _ hh (by rfl) (by first | rfl | (rw [World.size_alloc]; rfl)) w.heap.size hs ((VRow.below hrow (Nat.le_refl _) hb2).same (fun g' e' => by rw [Below.heap_alloc]; exact (hrow.below (Nat.le_refl _) hb2 |>.own g' e').2)) (by simp; have := hb2.size; omega) hlen ?_; intro v3 w3 hr3 hg3)))
              go_roundg g
              case measure => omega
              case rel =>
                refine ⟨i + 1, at1 + k, hs ++ [hh], xs ++ [xx], by have := Hi.out; omega, by go_num, by go_num, by omega, by simp; exact Hhs.out, hr3, ?_, ?_, ?_, by rw [Hgo.out, E.out]⟩
                · have r2 := (Hreps.out.below (Nat.le_refl _) hb2).below (Nat.le_refl _) ((Below.refl _ w2).alloc (Nat.le_refl _) (.cells hh.cs.toArray 45))
                  have x2 := Hrep.out.below (Nat.le_refl _) ((Below.refl _ w2).alloc (Nat.le_refl _) (.cells hh.cs.toArray 45))
                  refine Reps.snoc (r2.keep fun j x h e1 e2 hf b hb eb => hg3.old hb (Hap.out j x h e1 e2 hf b eb)) (x2.keep fun hf b hb eb => hg3.old hb fun e => ?_)
                  have h1 := Hnew.out b eb
                  have h2 := (hrow.own b e.symm).2
                  omega
                · have r2 := (Hreps.out.below (Nat.le_refl _) hb2).below (Nat.le_refl _) ((Below.refl _ w2).alloc (Nat.le_refl _) (.cells hh.cs.toArray 45))
                  have x2 := Hrep.out.below (Nat.le_refl _) ((Below.refl _ w2).alloc (Nat.le_refl _) (.cells hh.cs.toArray 45))
                  exact Apart.snoc (w := wr) (by rw [Hreps.out.len]) Hap.out r2 x2 (by have := hb2.size; simp; omega) (fun k hk => (hrow.own k hk).2) Hnew.out hg3
                have s2 := hb2.size
                exact ((hbel.trans (hb2.mono hbs)).alloc (Nat.le_trans hbs s2) _).grown hg3.1 (by simp; omega) (fun k hk => (hrow.own k hk).1)
            · rw [List.drop_eq_nil_of_le (by omega)] at hsd
              cases hsd
end Go.Proofs.Ytjfkcafocindjaa
