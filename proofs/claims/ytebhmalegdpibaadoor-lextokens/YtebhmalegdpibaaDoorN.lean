/- Tokens, Name, Quote, as a caller sees them. -/
import Derived.Test.YtebhmalegdpibaaDoorM
namespace Go.Proofs.YtebhmalegdpibaaDoor
open Go.RowKit Go.Deep
set_option linter.unusedVariables false
set_option linter.unusedSimpArgs false

theorem lexG_ne : ∀ (l : Bs) (k at' : Nat) (ts : List LTok), lexG k at' l = .ok ts → ts ≠ []
  | [], k, at', ts, h => by simp only [lexG] at h; cases h; simp
  | c :: t, k + 1, at', ts, h => lexG_ne t k (at' + 1) ts (by rw [lexG] at h; exact h)
  | c :: t, 0, at', ts, h => by
    rw [lexG] at h
    split at h
    · exact lexG_ne t _ _ ts h
    · split at h
      · exact lexG_ne t _ _ ts h
      · split at h
        · cases h
        · split at h
          · cases h
          · cases h; simp
theorem lexG_err_ne : ∀ (l : Bs) (k at' : Nat) (p : Nat × Nat), lexG k at' l = .error p → p.2 ≠ 0
  | [], k, at', p, h => by simp only [lexG] at h; cases h
  | c :: t, k + 1, at', p, h => lexG_err_ne t k (at' + 1) p (by rw [lexG] at h; exact h)
  | c :: t, 0, at', p, h => by
    rw [lexG] at h
    split at h
    · exact lexG_err_ne t _ _ p h
    · split at h
      · exact lexG_err_ne t _ _ p h
      · split at h
        · rename_i hne; cases h; exact hne
        · split at h
          · rename_i e he; cases h; exact lexG_err_ne t _ _ _ he
          · cases h
theorem lexT_err_ne {l : Bs} {p : Nat × Nat} (h : lexT l = .error p) : p.2 ≠ 0 := by
  unfold lexT at h
  split at h
  · cases h; decide
  · exact lexG_err_ne _ _ _ _ h
theorem lexT_ne {l : Bs} {ts : List LTok} (h : lexT l = .ok ts) : ts ≠ [] := by
  unfold lexT at h
  split at h
  · cases h
  · exact lexG_ne _ _ _ _ h
set_option maxRecDepth 100000 in
theorem tokens_any (s : ByteArray) (hs : s.size ≤ 9223372036854775807) (w : World) (hm : MX w) : Calls Tryd.prog 10 #[.string s] w fun e w' => TokP w.heap.size (lexT s.data.toList) e w' ∧ Below w.heap.size w w' := by
  by_cases hz : 4096 < s.size
  · have hx : lexT s.data.toList = .error (0, 50) := by unfold lexT; rw [if_pos (by rw [← Lib.size_eq]; exact hz)]
    have hz' : (4096 : Int) < (s.size : Int) := by omega
    rw [hx]
    clear hx hz hm
    go_enter Tryd.func10, Tryd.ntmps10
    go_wp2
    refine wp_scope_straight ?_
    go_wp2
    rw [Exit.noGoto_ret]
    refine bodyPost_ret (v := .tuple #[.slice none 0 0, .int .i64 0, .int .i64 50]) (by simp [results, Tryd.results10, go_sem]) rfl ⟨rfl, Below.refl _ _⟩
  · have hx : lexT s.data.toList = lexG 0 0 s.data.toList := by unfold lexT; rw [if_neg (by rw [← Lib.size_eq]; exact hz)]
    rw [hx]
    refine (tokens_walk s (by omega) w hm).mono ?_
    rintro e w' ⟨h, hb⟩
    refine ⟨?_, hb⟩
    unfold TokP at h ⊢
    cases hl : lexG 0 0 s.data.toList with
    | error p => rw [hl] at h; exact h
    | ok ts =>
      rw [hl] at h
      obtain ⟨v, h1, h2⟩ := h
      exact ⟨v, h1, h2.mono (by omega)⟩
theorem tokens_err (s : ByteArray) (hs : s.size ≤ 9223372036854775807) (p : Nat × Nat) (hx : lexT s.data.toList = .error p) (w : World) (hm : MX w) :
    Calls Tryd.prog 10 #[.string s] w fun e w' => e = .returned (.tuple #[.slice none 0 0, .int .i64 p.1, .int .i64 p.2]) ∧ Below w.heap.size w w' := by
  refine (tokens_any s hs w hm).mono ?_
  rintro e w' ⟨h, hb⟩
  rw [hx] at h
  exact ⟨h, hb⟩
theorem tokens_ok (s : ByteArray) (hs : s.size ≤ 9223372036854775807) (ts : List LTok) (hx : lexT s.data.toList = .ok ts) (w : World) (hm : MX w) :
    Calls Tryd.prog 10 #[.string s] w fun e w' => ∃ b cap, e = .returned (.tuple #[.slice (some ⟨b, 0, none⟩) ts.length cap, .int .i64 0, .int .i64 0]) ∧ TRd w' (some ⟨b, 0, none⟩) ts ∧ w.heap.size ≤ b ∧ b < w'.heap.size ∧ Below w.heap.size w w' := by
  refine (tokens_any s hs w hm).mono ?_
  rintro e w' ⟨h, hb⟩
  rw [hx] at h
  obtain ⟨v, rfl, h2⟩ := h
  have hne := lexT_ne hx
  rcases h2.2 with ⟨rfl, hn⟩ | ⟨g, cap, cur, rfl, hB, hgg, hc, hm, hs', ht⟩
  · exact absurd (List.eq_nil_of_length_eq_zero hn) hne
  · have := h2.own g rfl
    exact ⟨g, cap, rfl, h2.rd, this.1, this.2, hb⟩

def quoB (l : Bs) : Bs := 34 :: (l.flatMap dbl ++ [34])
theorem dbl_any (x : ByteArray) (w : World) (hx : x.size ≤ 100000) (hm : MX w) : Calls Tryd.prog 30 #[.string x, .string ⟨#[34]⟩, .string ⟨#[34, 34]⟩] w fun e w' => ∃ q : ByteArray, e = .returned (.string q) ∧ q.data.toList = x.data.toList.flatMap dbl ∧ Below w.heap.size w w' := by
  obtain ⟨m, hm⟩ := hm
  refine (Tryd.strings_ReplaceAll x ⟨#[34]⟩ ⟨#[34, 34]⟩ m w (by omega) hm (by decide) ?_).mono ?_
  · have := Lib.countB_le ⟨#[34]⟩ (by decide) x.size x (Nat.le_refl _)
    have e : (⟨#[34, 34]⟩ : ByteArray).size = 2 := rfl
    rw [e]; omega
  · rintro e w' ⟨rfl, h⟩
    exact ⟨_, rfl, by rw [show (ByteArray.mk #[34, 34]).data.toList = [34, 34] from rfl, show (ByteArray.mk #[34]).data.toList = [34] from rfl, replace_dbl], h⟩
set_option maxRecDepth 100000 in
theorem quote_any (s : ByteArray) (hs : s.size ≤ 100000) (w : World) (hm : MX w) : Calls Tryd.prog 18 #[.string s] w fun e w' => e = .returned (.string (ofB (quoB s.data.toList))) ∧ Below w.heap.size w w' := by
  have HS := hid hs
  have HM := hid hm
  clear hm hs
  go_enter Tryd.func18, Tryd.ntmps18
  go_wp2_with (first
    | (go_at_call 30; (refine (dbl_any _ _ HS.out HM.out).mono ?_; rintro e w4 ⟨q, rfl, hq, hb⟩; obtain ⟨q1, r1, e1, z1⟩ := cat_any ⟨#[34]⟩ q (by have h := dbl_len s.data.toList; rw [← hq, ← Lib.size_eq, ← Lib.size_eq] at h; have := HS.out; have e : (⟨#[34]⟩ : ByteArray).size = 1 := rfl; omega); obtain ⟨q2, r2, e2, z2⟩ := cat_any q1 ⟨#[34]⟩ (by have h := dbl_len s.data.toList; rw [← hq, ← Lib.size_eq, ← Lib.size_eq] at h; have := HS.out; have e : (⟨#[34]⟩ : ByteArray).size = 1 := rfl; omega); have HQ := hid hq; have H1 := hid e1; have H2 := hid e2; clear hq e1 e2 z1 z2)))
  go_ret
  refine ⟨?_, hb⟩
  have : q2 = ofB (quoB s.data.toList) := eq_ofB (by rw [H2.out, H1.out, HQ.out]; rfl)
  rw [← this]; rfl

def nameB (l : Bs) : Bool := decide (l.length ≤ 20) && (match lexT l with | .ok (t :: _) => decide (t.kind = 1) && decide (t.text = l) | _ => false)
set_option maxRecDepth 100000 in
theorem name_any (s : ByteArray) (hs : s.size ≤ 9223372036854775807) (w : World) (hm : MX w) : Calls Tryd.prog 16 #[.string s] w fun e w' => e = .returned (.bool (nameB s.data.toList)) ∧ Below w.heap.size w w' := by
  by_cases hz : s.size ≤ 20
  · have hz' : (s.size : Int) ≤ 20 := by omega
    cases hl : lexT s.data.toList with
    | error p =>
      have hx : nameB s.data.toList = false := by unfold nameB; rw [hl]; simp
      have c := tokens_err s hs p hl w hm
      have hp : ¬ (p.2 : Int) = 0 := by have := lexT_err_ne hl; omega
      rw [hx]
      clear hx hl hm
      go_enter Tryd.func16, Tryd.ntmps16
      go_wp2_with (go_at_call 10; refine c.mono ?_; rintro e w2 ⟨rfl, hb⟩)
      go_ret
      exact ⟨rfl, hb⟩
    | ok ts =>
      obtain ⟨t, r, rfl⟩ : ∃ t r, ts = t :: r := by
        cases ts with
        | nil => exact absurd rfl (lexT_ne hl)
        | cons t r => exact ⟨t, r, rfl⟩
      have hx : nameB s.data.toList = (decide (t.kind = 1) && decide (t.text = s.data.toList)) := by unfold nameB; rw [hl, show decide (s.data.toList.length ≤ 20) = true from by rw [← Lib.size_eq]; simpa using hz]; simp
      have c := tokens_ok s hs (t :: r) hl w hm
      rw [hx]
      clear hx hl hm
      go_enter Tryd.func16, Tryd.ntmps16
      go_wp2_with (go_at_call 10; refine c.mono ?_; rintro e w2 ⟨b, cap, rfl, hrd, hB, hlt, hb⟩; obtain ⟨b', o', eb, hc⟩ := hrd 0 t rfl; cases eb; have g0 : w2.cell? ⟨b, 0, none⟩ = some (.int .i64 (t.kind : Int)) := hc 0 (by omega); have g1 : w2.cell? ⟨b, 1, none⟩ = some (.string (ofB t.text)) := hc 1 (by omega); clear hc hrd)
      · rename_i hk
        go_ret
        refine ⟨ret_bool ?_, hb⟩
        have hk' : t.kind = 1 := by omega
        rw [ByteArray.toList_eq, ByteArray.toList_eq, ofB_list]
        simp [hk']
      · rename_i hk
        go_ret
        refine ⟨ret_bool ?_, hb⟩
        have hk' : ¬ t.kind = 1 := by omega
        simp [hk']
  · have hz' : ¬ (s.size : Int) ≤ 20 := by omega
    have hx : nameB s.data.toList = false := by unfold nameB; rw [show decide (s.data.toList.length ≤ 20) = false from by rw [← Lib.size_eq]; simpa using hz]; rfl
    rw [hx]
    clear hx hm
    go_enter Tryd.func16, Tryd.ntmps16
    go_wp2
    go_ret
    exact ⟨rfl, Below.refl _ _⟩
end Go.Proofs.YtebhmalegdpibaaDoor
