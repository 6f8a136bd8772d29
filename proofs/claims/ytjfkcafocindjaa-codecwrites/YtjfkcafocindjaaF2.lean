/- What is written is read again. -/
import Derived.Test.YtjfkcafocindjaaE2
import Derived.Test.YtjfkcafocindjaaS
namespace Go.Proofs.Ytjfkcafocindjaa
open Go.RowKit Go.Deep
set_option linter.unusedVariables false
set_option linter.unusedSimpArgs false

def flatH (h : Hd) : Hd := ⟨h.kind, h.int, h.text, 0, none, 0, 0⟩

theorem encS_byt {h : Hd} (hs : simpleB h = true) : Byt (encS h) := by
  obtain ⟨_, _, (⟨hk, _⟩ | ⟨hk, _, ht⟩ | ⟨hk, _, hi⟩)⟩ := simpleB_cases hs
  · unfold encS; rw [if_pos hk]
    intro x hx
    rcases List.mem_cons.1 hx with rfl | hx
    · omega
    · exact enc_byt _ x hx
  · unfold encS; rw [if_neg (by omega), if_pos hk]
    intro x hx
    rcases List.mem_cons.1 hx with rfl | hx
    · omega
    · exact encT_byt _ x hx
  · unfold encS; rw [if_neg (by omega), if_neg (by omega)]
    intro x hx
    simp at hx
    omega
theorem textD_more64 (s : ByteArray) (m : List Nat) (hs : s.size ≤ 64) : textD 64 (encT s ++ m) = .ok ((sb s), (encT s).length) := by
  unfold textD encT
  rw [List.append_assoc, dec_enc _ _ (by omega)]
  simp only
  rw [if_neg (by omega), if_neg (by simp [sb_length])]
  congr 2
  · rw [List.drop_left, List.take_left' (sb_length s)]
  · simp [sb_length]
theorem simpD_encS {h : Hd} (hs : simpleB h = true) (hin : h.In) (more : List Nat) : simpD (encS h ++ more) = some (flatH h, (encS h).length) := by
  obtain ⟨_, _, (⟨hk, ht⟩ | ⟨hk, hi, ht⟩ | ⟨hk, ht, hi⟩)⟩ := simpleB_cases hs
  · unfold encS; rw [if_pos hk]
    simp only [List.cons_append, simpD, if_true]
    rw [dec_enc _ _ (zz_lt _ hin.i0 hin.i1)]
    simp only [unzz_zz, List.length_cons]
    rw [Nat.add_comm]
    congr 2
    obtain ⟨kind, int, text, rc, a, n, cap⟩ := h
    simp only at hk ht
    subst hk ht
    rfl
  · unfold encS; rw [if_neg (by omega), if_pos hk]
    simp only [List.cons_append, simpD]
    rw [if_neg (by decide), if_pos trivial, textD_more64 h.text more (by omega)]
    simp only [List.length_cons, ofB_sb]
    rw [Nat.add_comm]
    congr 2
    obtain ⟨kind, int, text, rc, a, n, cap⟩ := h
    simp only at hk hi
    subst hk hi
    rfl
  · unfold encS; rw [if_neg (by omega), if_neg (by omega)]
    simp only [List.cons_append, List.nil_append, simpD]
    rw [if_neg (by decide), if_neg (by decide), if_pos trivial, if_pos (by omega)]
    congr 2
    obtain ⟨kind, int, text, rc, a, n, cap⟩ := h
    simp only at hk ht hi
    subst hk ht
    rcases hi with rfl | rfl <;> rfl

theorem goD_encR : ∀ (fs : List Hd) (pre more : List Nat) (acc : List Hd), fs.all simpleB = true → (∀ f ∈ fs, f.In) →
    goD simpD (pre ++ (encR fs ++ more)) fs.length pre.length acc = some (acc ++ fs.map flatH, pre.length + (encR fs).length)
  | [], pre, more, acc, _, _ => by simp [goD, encR]
  | f :: r, pre, more, acc, hs, hin => by
    simp only [List.all_cons, Bool.and_eq_true] at hs
    simp only [List.length_cons, goD]
    rw [List.drop_left]
    have e : encR (f :: r) = encS f ++ encR r := rfl
    rw [e, List.append_assoc, simpD_encS hs.1 (hin f (by simp))]
    simp only
    have ih := goD_encR r (pre ++ encS f) more (acc ++ [flatH f]) hs.2 (fun g hg => hin g (by simp [hg]))
    rw [List.length_append, List.append_assoc] at ih
    rw [ih]
    simp
    omega
theorem rowD_encR {fs : List Hd} (hs : fs.all simpleB = true) (hin : ∀ f ∈ fs, f.In) (hn : fs.length ≤ 12) (more : List Nat) :
    rowD simpD (enc fs.length ++ (encR fs ++ more)) = some (fs.map flatH, (enc fs.length ++ encR fs).length) := by
  unfold rowD
  rw [dec_enc _ _ (by omega)]
  simp only
  rw [if_neg (by omega), goD_encR fs (enc fs.length) more [] hs hin]
  simp

def vlOf (h : Hd) (fs : List Hd) : Vl := ⟨h.kind, h.int, h.text, h.rc, if h.kind = 4 then fs.map flatH else []⟩
theorem valD_encV {h : Hd} {fs : List Hd} (hin : h.In) (hn : h.n = fs.length) (hfs : ∀ f ∈ fs, f.In) (hp : plainB h fs = true) (more : List Nat) : valD (encV h fs ++ more) = some (vlOf h fs, (encV h fs).length) := by
  by_cases hk : h.kind = 4
  · rw [plainB_rec hk] at hp
    simp only [Bool.and_eq_true, decide_eq_true_eq] at hp
    obtain ⟨⟨⟨⟨⟨h1, h2⟩, h3⟩, h4⟩, h5⟩, h6⟩ := hp
    unfold encV
    rw [if_pos hk]
    simp only [List.cons_append, valD, if_true, List.append_assoc]
    rw [dec_enc _ _ (by omega)]
    simp only
    rw [if_neg (by omega), List.drop_left, hn, rowD_encR h6 hfs (by omega)]
    simp only
    congr 2
    · unfold vlOf
      rw [if_pos hk]
      obtain ⟨kind, int, text, rc, a, n, cap⟩ := h
      simp only at hk h1 h2 h3 ⊢
      subst hk h1 h2
      congr 1
      omega
    · simp; omega
  · have hs : simpleB h = true := by unfold plainB at hp; rw [if_neg hk] at hp; exact hp
    unfold encV
    rw [if_neg hk]
    obtain ⟨c, r, e, hc⟩ : ∃ c r, encS h = c :: r ∧ c ≠ 4 := by
      obtain ⟨_, _, (⟨hk, _⟩ | ⟨hk, _, ht⟩ | ⟨hk, _, hi⟩)⟩ := simpleB_cases hs
      · unfold encS; rw [if_pos hk]; exact ⟨_, _, rfl, by decide⟩
      · unfold encS; rw [if_neg (by omega), if_pos hk]; exact ⟨_, _, rfl, by decide⟩
      · unfold encS; rw [if_neg (by omega), if_neg (by omega)]; exact ⟨_, _, rfl, by decide⟩
    have hd := simpD_encS hs hin more
    rw [e] at hd ⊢
    simp only [List.cons_append] at hd ⊢
    simp only [valD]
    rw [if_neg hc, hd]
    simp only
    congr 2
    unfold vlOf vl flatH
    rw [if_neg hk]
    have := (simpleB_cases hs).1
    simp [this]
end Go.Proofs.Ytjfkcafocindjaa
