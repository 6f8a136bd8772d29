/- Orders; cmp.Compare, cmp.Or. -/
import Derived.Test.YtenfgahedbeekaaA
namespace Go.Proofs.Ytenfgahedbeekaa
open Go.RowKit Go.Deep
set_option linter.unusedVariables false
set_option linter.unusedSimpArgs false

structure Ord3 {α : Type} (f : α → α → Int) : Prop where
  anti : ∀ a b, f a b = - f b a
  tr : ∀ a b c, f a b ≤ 0 → f b c ≤ 0 → f a c ≤ 0
theorem Ord3.self {α : Type} {f : α → α → Int} (h : Ord3 f) (a : α) : f a a = 0 := by have := h.anti a a; omega
def lex {α : Type} (f g : α → α → Int) (a b : α) : Int := if f a b = 0 then g a b else f a b
/- What one step of a comparing by steps says of three. -/
theorem lex_step {x y z x' y' z' p q r : Int} (h1 : (if x = 0 then p else x) ≤ 0) (h2 : (if y = 0 then q else y) ≤ 0) (hz : x ≤ 0 → y ≤ 0 → z ≤ 0) (hx : x = -x') (hy : y = -y') (hz' : z = -z') (hy' : z' ≤ 0 → x ≤ 0 → y' ≤ 0) (hx' : y ≤ 0 → z' ≤ 0 → x' ≤ 0) (hr : x = 0 → y = 0 → z = 0 → p ≤ 0 → q ≤ 0 → r ≤ 0) : (if z = 0 then r else z) ≤ 0 := by
  have hx0 : x ≤ 0 := by split at h1 <;> omega
  have hy0 : y ≤ 0 := by split at h2 <;> omega
  have hz0 := hz hx0 hy0
  split
  · rename_i hzz
    have a1 := hy' (by omega) hx0
    have a2 := hx' hy0 (by omega)
    have e1 : x = 0 := by omega
    have e2 : y = 0 := by omega
    rw [if_pos e1] at h1
    rw [if_pos e2] at h2
    exact hr e1 e2 hzz h1 h2
  · exact hz0
theorem ord_lex {α : Type} {f g : α → α → Int} (hf : Ord3 f) (hg : Ord3 g) : Ord3 (lex f g) := by
  constructor
  · intro a b
    unfold lex
    have h1 := hf.anti a b
    have h2 := hg.anti a b
    by_cases h : f a b = 0
    · rw [if_pos h, if_pos (by omega)]; exact h2
    · rw [if_neg h, if_neg (by omega)]; exact h1
  · intro a b c h1 h2
    unfold lex at h1 h2 ⊢
    exact lex_step h1 h2 (hf.tr a b c) (hf.anti a b) (hf.anti b c) (hf.anti a c) (hf.tr c a b) (hf.tr b c a) (fun _ _ _ => hg.tr a b c)
theorem ord_on {α β : Type} {f : β → β → Int} (hf : Ord3 f) (p : α → β) : Ord3 (fun a b => f (p a) (p b)) := ⟨fun a b => hf.anti _ _, fun a b c => hf.tr _ _ _⟩
def ci (a b : Int) : Int := if a < b then -1 else if b < a then 1 else 0
theorem ord_ci : Ord3 ci := by
  constructor
  · intro a b; unfold ci; split <;> split <;> (try split) <;> omega
  · intro a b c; unfold ci; intro h1 h2; (repeat' split at h1) <;> (repeat' split at h2) <;> (repeat' split) <;> omega
def cmpL {α : Type} (f : α → α → Int) : List α → List α → Int
  | [], [] => 0
  | [], _ :: _ => -1
  | _ :: _, [] => 1
  | a :: l, b :: m => if f a b = 0 then cmpL f l m else f a b
theorem ord_cmpL {α : Type} {f : α → α → Int} (hf : Ord3 f) : Ord3 (cmpL f) := by
  constructor
  · intro a
    induction a with
    | nil => intro b; cases b <;> rfl
    | cons x l ih =>
      intro b
      cases b with
      | nil => rfl
      | cons y m =>
        simp only [cmpL]
        have h1 := hf.anti x y
        have h2 := ih m
        by_cases h : f x y = 0
        · rw [if_pos h, if_pos (by omega)]; exact h2
        · rw [if_neg h, if_neg (by omega)]; exact h1
  · intro a
    induction a with
    | nil => intro b c h1 h2; cases c <;> simp [cmpL]
    | cons x l ih =>
      intro b c h1 h2
      cases b with
      | nil => simp [cmpL] at h1
      | cons y m =>
        cases c with
        | nil => simp [cmpL] at h2
        | cons z k =>
          simp only [cmpL] at h1 h2 ⊢
          exact lex_step h1 h2 (hf.tr x y z) (hf.anti x y) (hf.anti y z) (hf.anti x z) (hf.tr z x y) (hf.tr y z x) (fun _ _ _ => ih m k)
def cB (l m : List UInt8) : Int := if Op.bytesLess l m then -1 else if l == m then 0 else 1
def cS (s t : ByteArray) : Int := cB s.toList t.toList
theorem cB_eq : ∀ (l m : List UInt8), cB l m = cmpL (fun a b : UInt8 => ci a.toNat b.toNat) l m
  | [], [] => rfl
  | [], _ :: _ => rfl
  | _ :: _, [] => rfl
  | a :: l, b :: m => by
    have ih := cB_eq l m
    simp only [cmpL, ← ih]
    simp only [cB, Op.bytesLess, ci]
    rcases Nat.lt_trichotomy a.toNat b.toNat with h | h | h
    · have h1 : a < b := UInt8.lt_iff_toNat_lt.2 h
      have h2 : ((a.toNat : Int) < (b.toNat : Int)) := by omega
      simp [h1, h2]
    · have h1 : a = b := UInt8.toNat_inj.1 h
      subst h1
      have h2 : ¬ ((a.toNat : Int) < (a.toNat : Int)) := by omega
      simp
    · have h1 : ¬ a < b := fun e => by have := UInt8.lt_iff_toNat_lt.1 e; omega
      have h2 : ((b.toNat : Int) < (a.toNat : Int)) := by omega
      have h3 : ¬ ((a.toNat : Int) < (b.toNat : Int)) := by omega
      have h4 : ¬ a = b := fun e => by subst e; omega
      simp [h1, h2, h3, h4]
theorem ord_cS : Ord3 cS := by
  have : cS = fun s t => cmpL (fun a b : UInt8 => ci a.toNat b.toNat) s.toList t.toList := by
    funext s t; exact cB_eq _ _
  rw [this]
  exact ord_on (ord_cmpL (ord_on ord_ci (fun a : UInt8 => (a.toNat : Int)))) _

set_option maxHeartbeats 400000 in
theorem nan_i (w : World) (x : Int) : Calls Try.prog 89 #[.int .i64 x] w fun e w' => e = .returned (.bool false) ∧ w' = w := by
  go_enter Try.func89, Try.ntmps89
  go_wp2
  go_ret
  exact ⟨by simp, rfl⟩
set_option maxHeartbeats 400000 in
theorem nan_i2 (w : World) (x : Int) : Calls Try.prog 90 #[.int .i64 x] w fun e w' => e = .returned (.bool false) ∧ w' = w := by
  go_enter Try.func90, Try.ntmps90
  go_wp2
  go_ret
  exact ⟨by simp, rfl⟩
set_option maxHeartbeats 400000 in
theorem nan_s (w : World) (x : ByteArray) : Calls Try.prog 91 #[.string x] w fun e w' => e = .returned (.bool false) ∧ w' = w := by
  go_enter Try.func91, Try.ntmps91
  go_wp2
  go_ret
  exact ⟨by simp, rfl⟩
set_option maxHeartbeats 400000 in
theorem cmp_i (w : World) (a b : Int) : Calls Try.prog 65 #[.int .i64 a, .int .i64 b] w fun e w' => e = .returned (.int .i64 (ci a b)) ∧ w' = w := by
  have K := hid (fun w x => nan_i w x)
  unfold ci
  by_cases h1 : a < b
  · rw [if_pos h1]
    go_enter Try.func65, Try.ntmps65
    go_wp2_with (go_at_call 89; (refine (Hid.out K _ _).mono ?_; rintro e w1 ⟨rfl, rfl⟩))
    go_ret
    exact ⟨rfl, rfl⟩
  · rw [if_neg h1]
    by_cases h2 : b < a
    · rw [if_pos h2]
      go_enter Try.func65, Try.ntmps65
      go_wp2_with (go_at_call 89; (refine (Hid.out K _ _).mono ?_; rintro e w1 ⟨rfl, rfl⟩))
      go_ret
      exact ⟨rfl, rfl⟩
    · rw [if_neg h2]
      go_enter Try.func65, Try.ntmps65
      go_wp2_with (go_at_call 89; (refine (Hid.out K _ _).mono ?_; rintro e w1 ⟨rfl, rfl⟩))
      go_ret
      exact ⟨rfl, rfl⟩
set_option maxHeartbeats 400000 in
theorem cmp_i2 (w : World) (a b : Int) : Calls Try.prog 66 #[.int .i64 a, .int .i64 b] w fun e w' => e = .returned (.int .i64 (ci a b)) ∧ w' = w := by
  have K := hid (fun w x => nan_i2 w x)
  unfold ci
  by_cases h1 : a < b
  · rw [if_pos h1]
    go_enter Try.func66, Try.ntmps66
    go_wp2_with (go_at_call 90; (refine (Hid.out K _ _).mono ?_; rintro e w1 ⟨rfl, rfl⟩))
    go_ret
    exact ⟨rfl, rfl⟩
  · rw [if_neg h1]
    by_cases h2 : b < a
    · rw [if_pos h2]
      go_enter Try.func66, Try.ntmps66
      go_wp2_with (go_at_call 90; (refine (Hid.out K _ _).mono ?_; rintro e w1 ⟨rfl, rfl⟩))
      go_ret
      exact ⟨rfl, rfl⟩
    · rw [if_neg h2]
      go_enter Try.func66, Try.ntmps66
      go_wp2_with (go_at_call 90; (refine (Hid.out K _ _).mono ?_; rintro e w1 ⟨rfl, rfl⟩))
      go_ret
      exact ⟨rfl, rfl⟩
set_option maxHeartbeats 400000 in
theorem cmp_s (w : World) (a b : ByteArray) : Calls Try.prog 67 #[.string a, .string b] w fun e w' => e = .returned (.int .i64 (cS a b)) ∧ w' = w := by
  have K := hid (fun w x => nan_s w x)
  unfold cS cB
  cases h1 : Op.bytesLess a.toList b.toList with
  | true =>
    go_enter Try.func67, Try.ntmps67
    go_wp2_with (go_at_call 91; (refine (Hid.out K _ _).mono ?_; rintro e w1 ⟨rfl, rfl⟩))
    go_ret
    exact ⟨rfl, rfl⟩
  | false =>
    cases h2 : a.toList == b.toList with
    | true =>
      go_enter Try.func67, Try.ntmps67
      go_wp2_with (go_at_call 91; (refine (Hid.out K _ _).mono ?_; rintro e w1 ⟨rfl, rfl⟩))
      go_ret
      exact ⟨rfl, rfl⟩
    | false =>
      go_enter Try.func67, Try.ntmps67
      go_wp2_with (go_at_call 91; (refine (Hid.out K _ _).mono ?_; rintro e w1 ⟨rfl, rfl⟩))
      go_ret
      exact ⟨rfl, rfl⟩
def orL : List Int → Int
  | [] => 0
  | x :: l => if x = 0 then orL l else x
theorem orL_drop {l : List Int} {i : Nat} {x : Int} (h : l[i]? = some x) : orL (l.drop i) = if x = 0 then orL (l.drop (i + 1)) else x := by
  have hlt : i < l.length := (List.getElem?_eq_some_iff.1 h).1
  rw [List.drop_eq_getElem_cons hlt]
  have : l[i] = x := by simpa [hlt] using h
  rw [this]; rfl
set_option maxHeartbeats 1000000 in
theorem or_any (w : World) (b0 n : Nat) (l : List Int) (hn : n = l.length) (hn2 : n ≤ 1000) (hc : ∀ (j : Nat) (x : Int), l[j]? = some x → w.cell? ⟨b0, j, none⟩ = some (.int .i64 x)) :
    Calls Try.prog 64 #[.slice (some ⟨b0, 0, none⟩) n n] w fun e w' => e = .returned (.int .i64 (orL l)) ∧ w' = w := by
  have Hn := hid hn
  have Hc := hid hc
  clear hn hc
  go_enter Try.func64, Try.ntmps64
  go_wp2
  go_loopg [8] n (fun g ii wr => ∃ i : Nat, i + g = n ∧ ii = .int .i64 (i : Int) ∧ wr = w ∧ orL l = orL (l.drop i))
  case atStart => exact ⟨0, by omega, rfl, rfl, rfl⟩
  case round =>
    obtain ⟨i, hi, rfl, rfl, ho⟩ := hrel
    have Hi := hid hi
    have Ho := hid ho
    clear ho
    cases gk with
    | zero =>
      have hin' : i = n := by omega
      clear hi
      subst hin'
      go_wp2
      go_ret
      refine ⟨?_, rfl⟩
      rw [Ho.out, Hn.out, List.drop_length]; rfl
    | succ g =>
      have hlt : i < n := by omega
      clear hi
      obtain ⟨x, hx⟩ : ∃ x, l[i]? = some x := ⟨l[i]'(by rw [← Hn.out]; exact hlt), by rw [List.getElem?_eq_getElem]⟩
      have x0 := Hc.out i x hx
      have hd := hid (orL_drop hx)
      clear hx
      by_cases h0 : x = 0
      · subst h0
        go_wp2
        go_roundg g
        case measure => omega
        case rel => exact ⟨i + 1, by have := Hi.out; omega, by go_num, rfl, by rw [Ho.out, hd.out]; rfl⟩
      · have h0' : (x != 0) = true := by simpa using h0
        go_wp2
        go_ret
        refine ⟨?_, rfl⟩
        rw [Ho.out, hd.out, if_neg h0]; rfl
end Go.Proofs.Ytenfgahedbeekaa
