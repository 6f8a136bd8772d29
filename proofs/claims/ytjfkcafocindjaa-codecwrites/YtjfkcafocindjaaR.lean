/- row, over simple. -/
import Derived.Test.YtjfkcafocindjaaQ
namespace Go.Proofs.Ytjfkcafocindjaa
open Go.RowKit Go.Deep
set_option linter.unusedVariables false
set_option linter.unusedSimpArgs false

def goD {α : Type} (D : List Nat → Option (α × Nat)) (bs : List Nat) : Nat → Nat → List α → Option (List α × Nat)
  | 0, i, acc => some (acc, i)
  | c + 1, i, acc => match D (bs.drop i) with
    | none => none
    | some (x, k) => goD D bs c (i + k) (acc ++ [x])
def rowD {α : Type} (D : List Nat → Option (α × Nat)) (bs : List Nat) : Option (List α × Nat) := match dec bs with
  | none => none
  | some (c, i) => if 12 < c then none else goD D bs c i []

theorem simpD_le {bs : List Nat} (hb : Byt bs) {h : Hd} {k : Nat} (e : simpD bs = some (h, k)) : k ≤ bs.length := by
  cases bs with
  | nil => cases e
  | cons c r =>
    have hr : Byt r := fun x hx => hb x (by simp [hx])
    simp only [simpD] at e
    split at e
    · split at e
      · cases e
      · rename_i n q hd
        cases e
        have := dec_back hr hd
        simp; omega
    · split at e
      · split at e
        · cases e
        · rename_i s q hd
          cases e
          have := (textD_le hr hd).1
          simp; omega
      · split at e
        · split at e
          · cases e
          · split at e
            · cases e; simp
            · cases e
        · cases e

def RowP (B : Nat) (o : Option (List Hd × Nat)) (e : Ending) (w' : World) : Prop := match o with
  | none => e = .returned (.tuple #[.slice none 0 0, .int .i64 0, .int .i64 20])
  | some (hs, k) => ∃ v', e = .returned (.tuple #[v', .int .i64 (k : Int), .int .i64 0]) ∧ VRow w' B v' hs

theorem Rd.empty (w : World) (a : Option Addr) (cap : Nat) : Rd w (.slice a 0 cap) [] := ⟨a, cap, rfl, Nat.zero_le _, fun x hx => (by cases hx), fun j x h => by simp at h⟩
theorem Rd.cap {w : World} {a : Option Addr} {n cap : Nat} {bs : List Nat} (h : Rd w (.slice a n cap) bs) : n = bs.length ∧ bs.length ≤ cap := by
  obtain ⟨a', cap', e, hc, _⟩ := h
  cases e
  exact ⟨rfl, hc⟩

set_option maxRecDepth 10000 in
set_option maxHeartbeats 1000000 in
theorem rowS_any (w : World) (v : Value) (bs : List Nat) (h : Rd w v bs) (hl : bs.length ≤ 10000000000) :
    Calls Try.prog 40 #[v, .func (.func 39) #[] #[]] w fun e w' => Below w.heap.size w w' ∧ RowP w.heap.size (rowD simpD bs) e w' := by
  obtain ⟨a, cap, rfl⟩ := h.len
  have hu := uint_any w _ bs h (by omega)
  have hby : Byt bs := by obtain ⟨_, _, _, _, hb, _⟩ := h; exact hb
  cases hd : dec bs with
  | none =>
    rw [hd] at hu
    have Hu := hid hu
    have R0 : Hid (rowD simpD bs = none) := by refine hid ?_; simp [rowD, hd]
    clear hu h
    go_enter Try.func40, Try.ntmps40
    go_wp2_with (go_at_call 17; refine (Hid.out Hu).mono ?_; rintro e w ⟨rfl, rfl⟩; simp only [uintV])
    go_ret3
    exact ⟨Below.refl _ _, by rw [R0.out]; rfl⟩
  | some p =>
    obtain ⟨c, at0⟩ := p
    rw [hd] at hu
    have Hu := hid hu
    obtain ⟨_, hc64, hat, _, _⟩ := dec_back hby hd
    clear hu
    by_cases h12 : 12 < c
    · have R0 : Hid (rowD simpD bs = none) := by refine hid ?_; simp [rowD, hd, h12]
      clear h
      go_enter Try.func40, Try.ntmps40
      go_wp2_with (go_at_call 17; refine (Hid.out Hu).mono ?_; rintro e w ⟨rfl, rfl⟩; simp only [uintV])
      go_ret3
      exact ⟨Below.refl _ _, by rw [R0.out]; rfl⟩
    · have R0 : Hid (rowD simpD bs = goD simpD bs c at0 []) := by refine hid ?_; simp [rowD, hd, h12]
      go_enter Try.func40, Try.ntmps40
      go_wp2_with (go_at_call 17; refine (Hid.out Hu).mono ?_; rintro e w ⟨rfl, rfl⟩; simp only [uintV])
      go_loopg [8, 10, 28] c (fun g att vals ii wr => ∃ (i at1 : Nat) (hs : List Hd), i + g = c ∧ ii = .int .i64 (i : Int) ∧ att = .int .i64 (at1 : Int) ∧ at1 ≤ bs.length ∧ hs.length = i ∧ VRow wr w.heap.size vals hs ∧ Below w.heap.size w wr ∧ goD simpD bs c at0 [] = goD simpD bs g at1 hs)
      case atStart => exact ⟨0, at0, [], by omega, rfl, rfl, hat, rfl, VRow.nil _ _, Below.refl _ _, rfl⟩
      case round =>
        obtain ⟨i, at1, hs, hi, rfl, rfl, hat1, hhs, hrow, hbel, hgo⟩ := hrel
        have Hi := hid hi
        have Hgo := hid hgo
        have Hhs := hid hhs
        clear hi hgo hhs
        have Hr := hid (h.below (Nat.le_refl _) hbel)
        cases gk with
        | zero =>
          have hic : i = c := by have := Hi.out; omega
          go_wp2
          go_ret3
          refine ⟨hbel, ?_⟩
          rw [R0.out, Hgo.out]
          exact ⟨_, rfl, hrow⟩
        | succ g =>
          have hic : i < c := by have := Hi.out; omega
          have hs1 := (Hr.out).from at1 hat1
          unfold sliced at hs1
          rw [Nat.mul_one] at hs1
          have Hs1 := hid hs1
          clear hs1
          have hcap := (Hr.out).cap.2
          have hbs : w.heap.size ≤ wr.heap.size := hbel.size
          have hsR := hid (show (if cap = at1 then a else Option.map (fun x => x.add at1) a) = (if cap = at1 then a else Option.map (fun x => x.add at1) a) from rfl)
          have Hsl : Hid (∀ (a' : Option Addr) (m c' : Nat), a' = (if cap = at1 then a else Option.map (fun x => x.add at1) a) → m = bs.length - at1 → c' = cap - at1 → Rd wr (.slice a' m c') (bs.drop at1)) := hid (by
            rintro _ _ _ rfl rfl rfl
            exact Hs1.out)
          cases hsd : simpD (bs.drop at1) with
          | none =>
            have E : Hid (goD simpD bs (g + 1) at1 hs = none) := by refine hid ?_; simp [goD, hsd]
            rcases Nat.lt_or_ge at1 cap with hca | hca
            · have hca' : ¬ cap = at1 := by omega
              go_wp2_with (go_at_call 39; (refine (simple_any wr _ (bs.drop at1) (Hid.out Hsl _ _ _ (by rw [if_neg hca']) rfl rfl) (by simp; omega)).mono ?_; rintro e w2 ⟨rfl, hb2⟩; rw [hsd]; simp only [valV, zeroV]))
              go_ret3
              refine ⟨(hbel.trans (hb2.mono hbs)).alloc (Nat.le_trans hbs hb2.size) _, ?_⟩
              rw [R0.out, Hgo.out, E.out]; rfl
            · obtain rfl : at1 = cap := by omega
              go_wp2_with (go_at_call 39; (refine (simple_any wr _ (bs.drop at1) (Hid.out Hsl _ _ _ (by rw [if_pos rfl]) (by omega) (by omega)) (by simp; omega)).mono ?_; rintro e w2 ⟨rfl, hb2⟩; rw [hsd]; simp only [valV, zeroV]))
              go_ret3
              refine ⟨(hbel.trans (hb2.mono hbs)).alloc (Nat.le_trans hbs hb2.size) _, ?_⟩
              rw [R0.out, Hgo.out, E.out]; rfl
          | some p =>
            obtain ⟨hh, k⟩ := p
            have hk := simpD_le (hby.drop at1) hsd
            rw [List.length_drop] at hk
            have E : Hid (goD simpD bs (g + 1) at1 hs = goD simpD bs g (at1 + k) (hs ++ [hh])) := by refine hid ?_; simp [goD, hsd]
            have hlen : hs.length ≤ 1000000 := by have := Hhs.out; omega
            rcases Nat.lt_or_ge at1 cap with hca | hca
            · have hca' : ¬ cap = at1 := by omega
              go_wp2_with (first
                | (go_at_call 39; (refine (simple_any wr _ (bs.drop at1) (Hid.out Hsl _ _ _ (by rw [if_neg hca']) rfl rfl) (by simp; omega)).mono ?_; rintro e w2 ⟨rfl, hb2⟩; rw [hsd]; simp only [valV, Hd.v]))
                | (at_builtin; have hno := hb2; (refine wpList_appV _ rfl _ _ rfl _ hh (by rfl) (by first | rfl | (rw [World.size_alloc]; rfl)) w.heap.size hs ((VRow.below hrow (Nat.le_refl _) hb2).same (fun g' e' => by rw [Below.heap_alloc]; exact (hrow.below (Nat.le_refl _) hb2 |>.own g' e').2)) (by simp; have := hb2.size; omega) hlen ?_; intro v3 w3 hr3 hg3)))
              go_roundg g
              case measure => omega
              case rel =>
                refine ⟨i + 1, at1 + k, hs ++ [hh], by have := Hi.out; omega, by go_num, by go_num, by omega, by simp; exact Hhs.out, hr3, ?_, by rw [Hgo.out, E.out]⟩
                have s2 := hb2.size
                exact ((hbel.trans (hb2.mono hbs)).alloc (Nat.le_trans hbs s2) _).grown hg3.1 (by simp; omega) (fun k hk => (hrow.own k hk).1)
            · rw [List.drop_eq_nil_of_le (by omega)] at hsd
              cases hsd
end Go.Proofs.Ytjfkcafocindjaa
