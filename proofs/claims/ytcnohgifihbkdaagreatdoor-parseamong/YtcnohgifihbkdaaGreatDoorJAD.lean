/- Rows of tokens; facts on the first token. -/
import Derived.Test.YtcnohgifihbkdaaGreatDoorJAC
import Derived.WalkMore
namespace Go.Proofs.YtcnohgifihbkdaaGreatDoor.Lx
set_option maxRecDepth 100000
open Go.RowKit Go.Deep
set_option linter.unusedVariables false
set_option linter.unusedSimpArgs false

theorem textF_one : ∀ (l : Bs) (n : Nat), textF false l = some n → 1 ≤ n
  | [], n, h => by simp [textF] at h
  | c :: t, n, h => by
    simp only [textF, Bool.false_eq_true, if_false, Bool.not_false] at h
    split at h
    · cases hx : textF true t with
      | none => rw [hx] at h; simp at h
      | some m => rw [hx] at h; simp at h; omega
    · cases hx : textF false t with
      | none => rw [hx] at h; simp at h
      | some m => rw [hx] at h; simp at h; omega
theorem textF_le : ∀ (l : Bs) (e : Bool) (n : Nat), textF e l = some n → n ≤ l.length
  | [], e, n, h => by cases e <;> simp [textF] at h <;> simp [← h]
  | c :: t, e, n, h => by
    simp only [textF] at h
    split at h
    · cases hx : textF (!e) t with
      | none => rw [hx] at h; simp at h
      | some m => rw [hx] at h; simp at h; have := textF_le t _ m hx; simp; omega
    · split at h
      · simp at h; simp [← h]
      · cases hx : textF false t with
        | none => rw [hx] at h; simp at h
        | some m => rw [hx] at h; simp at h; have := textF_le t _ m hx; simp; omega
theorem signF_le : ∀ l : Bs, signF l ≤ l.length
  | [] => Nat.le_refl _
  | [a] => by simp [signF]; split <;> omega
  | a :: b :: t => by simp [signF]; split <;> (try split) <;> omega
theorem runF_pos (p : UInt8 → Bool) (c : UInt8) (t : Bs) (h : p c = true) : 1 ≤ runF p (c :: t) := by simp [runF, h]
structure FirstOk (l : Bs) : Prop where
  k : (firstF l).1 ≤ 5
  n1 : 1 ≤ (firstF l).2.1
  n2 : (firstF l).2.1 ≤ l.length
  t2 : (firstF l).1 = 4 → 2 ≤ (firstF l).2.1
theorem first_ok (c : UInt8) (t : Bs) (h : (firstF (c :: t)).2.2 = 0) : FirstOk (c :: t) := by
  cases hc : isLt c
  · cases hd : isDg c
    · by_cases hq : c = 34
      · subst hq
        cases htx : textF false t with
        | none =>
          have e : firstF (34 :: t) = (0, 0, 52) := by unfold firstF; simp only; rw [if_neg (by decide), if_neg (by decide), if_pos trivial, htx]
          rw [e] at h; simp at h
        | some n =>
          have e : firstF (34 :: t) = (4, n + 1, 0) := by unfold firstF; simp only; rw [if_neg (by decide), if_neg (by decide), if_pos trivial, htx]
          have h1 := textF_one t n htx
          have h2 := textF_le t _ n htx
          constructor <;> rw [e] <;> simp <;> omega
      · by_cases hz : signF (c :: t) = 0
        · have e : firstF (c :: t) = (0, 0, 51) := by simp only [firstF, hc, hd, hq, hz, if_true, Bool.false_eq_true, if_false]
          rw [e] at h; simp at h
        · have e : firstF (c :: t) = (5, signF (c :: t), 0) := by simp only [firstF, hc, hd, hq, hz, if_true, Bool.false_eq_true, if_false]
          have := signF_le (c :: t)
          constructor <;> rw [e] <;> simp only <;> (try omega)
    · have e : firstF (c :: t) = (3, runF isDg (c :: t), 0) := by simp only [firstF, hc, hd, if_true, Bool.false_eq_true, if_false]
      have h1 := runF_pos isDg c t hd
      have h2 := runF_le isDg (c :: t)
      constructor <;> rw [e] <;> simp only <;> (try omega)
  · have e : firstF (c :: t) = (if isWd ((c :: t).take (runF isPt (c :: t))) then 2 else 1, runF isPt (c :: t), 0) := by simp only [firstF, hc, if_true]
    have h1 := runF_pos isPt c t (by unfold isPt; rw [hc]; rfl)
    have h2 := runF_le isPt (c :: t)
    constructor <;> rw [e] <;> simp only <;> (try split) <;> (try omega)

theorem token_any (k : Nat) (s : ByteArray) (at' : Nat) (hk : k ≤ 5) (hs : s.size ≤ 4096) (h1 : 1 ≤ s.size) (h2 : k = 4 → 2 ≤ s.size) (w : World) (hm : MX w) :
    Calls Tryz.prog 40 #[.int .i64 (k : Int), .string s, .int .i64 (at' : Int)] w fun e w' => e = .returned (tokV ⟨k, tokText k s.data.toList, at'⟩) ∧ Below w.heap.size w w' := by
  by_cases h3 : k = 3
  · subst h3; exact token_int s at' hs h1 w
  · by_cases h4 : k = 4
    · subst h4; exact token_text s at' hs (h2 rfl) w hm
    · exact token_plain k s at' hk hs h3 h4 w

def LTok.cs (t : LTok) : List Value := [.int .i64 t.kind, .string (ofB t.text), .int .i64 t.pos]
def tvv (ts : List LTok) : List Value := ts.flatMap LTok.cs
theorem tvv_length (hs : List LTok) : (tvv hs).length = hs.length * 3 := by
  induction hs with
  | nil => rfl
  | cons h r ih => simp [tvv, LTok.cs] at ih ⊢; omega
theorem tvv_snoc (hs : List LTok) (h : LTok) : tvv (hs ++ [h]) = tvv hs ++ h.cs := by simp [tvv]
theorem tvv_at (hs : List LTok) : ∀ (j : Nat) (h : LTok), hs[j]? = some h → ∀ i, i < 3 → (tvv hs)[j * 3 + i]? = h.cs[i]? := by
  induction hs with
  | nil => intro j h e; simp at e
  | cons x r ih =>
    intro j h e i hi
    have hx : (LTok.cs x).length = 3 := rfl
    cases j with
    | zero =>
      simp at e; subst e
      simp only [tvv, List.flatMap_cons]
      rw [List.getElem?_append_left (by omega)]
      simp
    | succ j =>
      simp at e
      simp only [tvv, List.flatMap_cons]
      rw [List.getElem?_append_right (by omega), hx, show (j + 1) * 3 + i - 3 = j * 3 + i from by omega]
      exact ih j h e i hi
def TRow (w : World) (B : Nat) (v : Value) (ts : List LTok) : Prop := w.ownsRow B 69 3 v ts.length (tvv ts)
theorem TRow.nil (w : World) (B : Nat) : TRow w B (.slice none 0 0) [] := World.ownsRow_nil w B 69 3
theorem TRow.own {w B v hs} (h : TRow w B v hs) : ∀ k, v.ownBlock = some k → B ≤ k ∧ k < w.heap.size := World.ownsRow.lt h
theorem TRow.same {w w' : World} {B v xs} (h : TRow w B v xs) (e : ∀ g, v.ownBlock = some g → w'.heap[g]? = w.heap[g]?) : TRow w' B v xs := by
  refine ⟨h.1, ?_⟩
  rcases h.2 with hn | ⟨g, cap, cur, rfl, hb, hgg, rest⟩
  · exact .inl hn
  · exact .inr ⟨g, cap, cur, rfl, hb, (e g rfl).trans hgg, rest⟩
theorem TRow.cells {w : World} {B v xs g} (h : TRow w B v xs) (e : v.ownBlock = some g) : ∃ cur, w.heap[g]? = some (.cells cur 69 (0, 0)) := by
  rcases h.2 with ⟨rfl, _⟩ | ⟨g', cap, cur, rfl, hb, hgg, rest⟩
  · cases e
  · cases e; exact ⟨cur, hgg⟩
theorem TRow.below {w w' : World} {B C v xs} (h : TRow w B v xs) (hC : w.heap.size ≤ C) (k : Below C w w') : TRow w' B v xs :=
  h.same fun g e => k.block g (by have := (h.own g e).2; omega)
theorem TRow.mono {w : World} {B C v xs} (h : TRow w B v xs) (hC : C ≤ B) : TRow w C v xs := by
  refine ⟨h.1, ?_⟩
  rcases h.2 with hn | ⟨g, cap, cur, rfl, hb, rest⟩
  · exact .inl hn
  · exact .inr ⟨g, cap, cur, rfl, by omega, rest⟩
theorem TRow.form {w B v xs} (h : TRow w B v xs) : ∃ a cap, v = .slice a xs.length cap ∧ xs.length ≤ cap := by
  rcases h.2 with ⟨rfl, hn⟩ | ⟨g, cap, cur, rfl, hb, hgg, hc, rest⟩
  · exact ⟨none, 0, by rw [hn], by omega⟩
  · exact ⟨_, _, rfl, hc⟩
theorem TRow.iterAt {w : World} {B v xs k} {s : ByteArray} {pos : Nat} (h : TRow w B v xs) (hk : w.heap[k]? = some (.stringIter s pos)) (pos' : Nat) : TRow (w.iterAt k s pos') B v xs :=
  h.same fun g e => by
    obtain ⟨cur, hc⟩ := h.cells e
    have : g ≠ k := by rintro rfl; rw [hk] at hc; cases hc
    simp [World.iterAt, Array.getElem?_setIfInBounds, Ne.symm this]
/- What a slice of tokens reads. -/
def TRd (w : World) (a : Option Addr) (ts : List LTok) : Prop := ∀ (j : Nat) (h : LTok), ts[j]? = some h → ∃ b off, a = some ⟨b, off, none⟩ ∧ ∀ i, i < 3 → w.cell? ⟨b, off + j * 3 + i, none⟩ = h.cs[i]?
theorem TRow.rd {w : World} {B a n cap hs} (h : TRow w B (.slice a n cap) hs) : TRd w a hs := by
  intro j x hx
  rcases h.2 with ⟨e, hn⟩ | ⟨g, cap', cur, e, hb, hgg, hc, hm, hs', ht⟩
  · have : hs = [] := List.eq_nil_of_length_eq_zero hn
    subst this; simp at hx
  · cases e
    refine ⟨g, 0, rfl, fun i hi => ?_⟩
    have hv := tvv_at hs j x hx i hi
    have hj : j < hs.length := (List.getElem?_eq_some_iff.1 hx).1
    rw [← hv, Nat.zero_add]
    have hlt : j * 3 + i < (tvv hs).length := by rw [tvv_length]; omega
    obtain ⟨u, hu⟩ : ∃ u, (tvv hs)[j * 3 + i]? = some u := ⟨_, List.getElem?_eq_getElem hlt⟩
    have := World.ownsRow.cells h (g := g) rfl _ u hu
    rw [Addr.add_lit, Nat.zero_add] at this
    rw [this, hu]
theorem TRd.below {w w' : World} {a hs B} (h : TRd w a hs) (hB : w.heap.size ≤ B) (k : Below B w w') : TRd w' a hs := by
  intro j x hx
  obtain ⟨b, off, rfl, hc⟩ := h j x hx
  refine ⟨b, off, rfl, fun i hi => ?_⟩
  have h0 := hc 0 (by omega)
  have hb : b < w.heap.size := World.block_lt_of_cell? w _ (h0.trans (show x.cs[0]? = some (.int .i64 x.kind) from rfl))
  rw [World.cell?_of_block (w := w) (k.block b (by omega))]
  exact hc i hi
def zeroTV : Value := .agg #[.int .i64 0, .string ⟨#[]⟩, .int .i64 0]
theorem info36 : (Tryz.prog.info? 69).map (fun i => (i.zero, i.size, i.bytes)) = some (some zeroTV, 3, 32) := by kernel_rfl
theorem cs_one (h : LTok) : ∀ u ∈ h.cs, u.oneCell' = true := by
  intro u hu
  simp only [LTok.cs, List.mem_cons, List.mem_nil_iff, or_false] at hu
  rcases hu with rfl | rfl | rfl <;> rfl
/- Between w and w' nothing old has turned but v's own row; and the row is v's still, or new. -/
def Grw (w : World) (v : Value) (w' : World) (v' : Value) : Prop := w.grownBy w' v.ownBlock ∧ (v'.ownBlock = v.ownBlock ∨ ∃ g, v'.ownBlock = some g ∧ w.heap.size ≤ g)
theorem Grw.old {w w' : World} {v v' : Value} (h : Grw w v w' v') {j : Nat} (hj : j < w.heap.size) (hne : some j ≠ v.ownBlock) : w'.heap[j]? = w.heap[j]? := h.1.block j hj hne
theorem run_appT (w : World) (ty : TypeId) (B : Nat) (v : Value) (hs : List LTok) (h : LTok) (g : Nat) (hr : TRow w B v hs) (hg : w.heap[g]? = some (.cells h.cs.toArray 69 (0, 0))) (hB : B ≤ w.heap.size) (hl : hs.length ≤ 1000000) :
    ∃ v' w', (Builtin.append_ #[57, 57] ty #[v, .slice (some ⟨g, 0, none⟩) 1 1]).run Tryz.prog w = .ok v' w' ∧ TRow w' B v' (hs ++ [h]) ∧ Grw w v w' v' := by
  obtain ⟨i0, hi, hz0, hz1, hz2⟩ := info_parts info36
  obtain ⟨v', w', hrun, hown, hgr, _, hat⟩ := run_append_own_at (P := Tryz.prog) w B 57 ty 69 i0 zeroTV 3 32 Tryz.underlying57 hi hz0 hz1 hz2 rfl (by decide) v hs.length (tvv hs) hr ⟨g, 0, none⟩ 1 1 h.cs rfl (by
    intro j u hu
    exact World.news_of_block hg j u (by simpa using hu)) (cs_one h) (by unfold maxLen; omega) (by omega) hB
  refine ⟨v', w', hrun, ?_, hgr, ?_⟩
  · unfold TRow
    rw [tvv_snoc, List.length_append]
    exact hown
  · rcases hat with hat | hat
    · exact .inl hat
    · exact .inr ⟨_, hat, Nat.le_refl _⟩
end Go.Proofs.YtcnohgifihbkdaaGreatDoor.Lx

namespace Go.Proofs.YtcnohgifihbkdaaGreatDoor.Lx
set_option linter.unusedVariables false
set_option maxRecDepth 100000
set_option linter.unusedSimpArgs false

def catE (a : List LTok) : Except (Nat × Nat) (List LTok) → Except (Nat × Nat) (List LTok)
  | .ok ts => .ok (a ++ ts)
  | .error e => .error e
theorem catE_nil (x : Except (Nat × Nat) (List LTok)) : catE [] x = x := by cases x <;> rfl
theorem lexG_skip : ∀ (n k at' : Nat) (l : Bs), n ≤ k → n ≤ l.length → lexG k at' l = lexG (k - n) (at' + n) (l.drop n)
  | 0, k, at', l, _, _ => by simp
  | n + 1, k, at', [], _, h => by simp at h
  | n + 1, 0, at', c :: t, h, _ => by omega
  | n + 1, k + 1, at', c :: t, h, h2 => by
    rw [lexG, lexG_skip n k (at' + 1) t (by omega) (by simpa using h2)]
    simp only [List.drop_succ_cons]
    congr 1
    · omega
    · omega
def Good (L : Bs) (pos behind : Nat) : Prop := behind ≤ pos ∨ (∀ c, L[behind]? = some c → c.toNat < 128) ∨ (∃ c, L[behind - 1]? = some c ∧ c.toNat < 128)
theorem Good.mono {L : Bs} {pos behind q : Nat} (h : Good L pos behind) (hq : pos ≤ q) : Good L q behind := by
  rcases h with h | h
  · exact .inl (by omega)
  · exact .inr h
theorem Good.step {L : Bs} {pos behind r wd : Nat} (R : Rune L pos r wd) (h : Good L pos behind) (hb : pos < behind) : pos + wd ≤ behind := by
  obtain ⟨c, e, hd⟩ := R.at
  by_cases hc : c.toNat < 128
  · have := (R.low c e hc).2; omega
  · have hall := R.all c e (by omega)
    have hf := R.fit
    rcases Nat.lt_or_ge behind (pos + wd) with hlt | hge
    · exfalso
      rcases h with h | h | ⟨d, h1, h2⟩
      · omega
      · have hx : behind < L.length := by omega
        have h1 := h L[behind] (List.getElem?_eq_getElem hx)
        have h2 := hall (behind - pos) L[behind] (by omega) (by rw [show pos + (behind - pos) = behind by omega]; exact List.getElem?_eq_getElem hx)
        omega
      · have h3 := hall (behind - 1 - pos) d (by omega) (by rw [show pos + (behind - 1 - pos) = behind - 1 by omega]; exact h1)
        omega
    · exact hge
theorem runF_stop (p : UInt8 → Bool) : ∀ (l : Bs) (c : UInt8), l[runF p l]? = some c → p c = false
  | [], c, h => by simp at h
  | d :: t, c, h => by
    cases hd : p d
    · simp only [runF, hd, Bool.false_eq_true, if_false] at h
      simp at h; subst h; exact hd
    · simp only [runF, hd, if_true] at h
      simp at h
      exact runF_stop p t c h
theorem runF_in (p : UInt8 → Bool) : ∀ (l : Bs) (k : Nat) (c : UInt8), k < runF p l → l[k]? = some c → p c = true
  | [], k, c, h, e => by simp at e
  | d :: t, k, c, h, e => by
    cases hd : p d
    · simp [runF, hd] at h
    · simp only [runF, hd, if_true] at h
      cases k with
      | zero => simp at e; subst e; exact hd
      | succ k => simp at e; exact runF_in p t k c (by omega) e
theorem textF_last : ∀ (l : Bs) (e : Bool) (n : Nat), textF e l = some n → (n = 0 ∧ e = true) ∨ (1 ≤ n ∧ l[n - 1]? = some 34)
  | [], e, n, h => by cases e <;> simp [textF] at h <;> exact .inl ⟨h.symm, rfl⟩
  | c :: t, e, n, h => by
    simp only [textF] at h
    split at h
    · rename_i hc
      cases hx : textF (!e) t with
      | none => rw [hx] at h; simp at h
      | some m =>
        rw [hx] at h; simp at h; subst h
        refine .inr ⟨by omega, ?_⟩
        rcases textF_last t _ m hx with ⟨rfl, _⟩ | ⟨h1, h2⟩
        · simp [hc]
        · rw [show m + 1 - 1 = (m - 1) + 1 by omega]; simpa using h2
    · split at h
      · rename_i he; simp at h; exact .inl ⟨h.symm, he⟩
      · cases hx : textF false t with
        | none => rw [hx] at h; simp at h
        | some m =>
          rw [hx] at h; simp at h; subst h
          refine .inr ⟨by omega, ?_⟩
          rcases textF_last t _ m hx with ⟨_, h2⟩ | ⟨h1, h2⟩
          · cases h2
          · rw [show m + 1 - 1 = (m - 1) + 1 by omega]; simpa using h2
theorem isLt_low {c : UInt8} (h : isLt c = true) : c.toNat < 128 := by unfold isLt at h; simp at h; omega
theorem isDg_low {c : UInt8} (h : isDg c = true) : c.toNat < 128 := by unfold isDg at h; simp at h; omega
theorem isPt_low {c : UInt8} (h : isPt c = true) : c.toNat < 128 := by
  unfold isPt at h
  rcases Bool.or_eq_true _ _ ▸ h with h | h
  · exact isLt_low h
  · exact isDg_low h
theorem sg1_low {c : UInt8} (h : sg1 c = true) : c.toNat < 128 := by
  unfold sg1 sg1s at h
  rw [List.contains_iff_mem] at h
  simp only [List.mem_cons, List.mem_nil_iff, or_false] at h
  rcases h with rfl | rfl | rfl | rfl | rfl | rfl | rfl | rfl | rfl | rfl | rfl | rfl | rfl | rfl | rfl | rfl | rfl | rfl | rfl <;> decide
theorem sg2_low {a b : UInt8} (h : sg2 a b = true) : a.toNat < 128 ∧ b.toNat < 128 := by
  rw [sg2_iff] at h
  simp only [sg2L, List.mem_cons, List.mem_nil_iff, or_false, List.cons.injEq, and_true] at h
  rcases h with ⟨rfl, rfl⟩ | ⟨rfl, rfl⟩ | ⟨rfl, rfl⟩ | ⟨rfl, rfl⟩ | ⟨rfl, rfl⟩ | ⟨rfl, rfl⟩ | ⟨rfl, rfl⟩ | ⟨rfl, rfl⟩ <;> decide
theorem signF_low : ∀ l : Bs, signF l ≠ 0 → (∃ c, l[0]? = some c ∧ c.toNat < 128) ∧ (∃ c, l[signF l - 1]? = some c ∧ c.toNat < 128)
  | [], h => absurd rfl h
  | [a], h => by
    simp only [signF] at h ⊢
    split at h
    · rename_i ha; rw [if_pos ha]; exact ⟨⟨a, rfl, sg1_low ha⟩, ⟨a, rfl, sg1_low ha⟩⟩
    · exact absurd rfl h
  | a :: b :: t, h => by
    simp only [signF] at h ⊢
    split at h
    · rename_i ha; rw [if_pos ha]; exact ⟨⟨a, rfl, (sg2_low ha).1⟩, ⟨b, rfl, (sg2_low ha).2⟩⟩
    · rename_i ha
      rw [if_neg ha]
      split at h
      · rename_i hb; rw [if_pos hb]; exact ⟨⟨a, rfl, sg1_low hb⟩, ⟨a, rfl, sg1_low hb⟩⟩
      · exact absurd rfl h
/- A token begins and ends with a byte below 128. -/
theorem first_low (c : UInt8) (t : Bs) (h : (firstF (c :: t)).2.2 = 0) : c.toNat < 128 ∧ ∃ d, (c :: t)[(firstF (c :: t)).2.1 - 1]? = some d ∧ d.toNat < 128 := by
  have ok := first_ok c t h
  cases hc : isLt c
  · cases hd : isDg c
    · by_cases hq : c = 34
      · subst hq
        refine ⟨by decide, ?_⟩
        cases htx : textF false t with
        | none =>
          have e : firstF (34 :: t) = (0, 0, 52) := by unfold firstF; simp only; rw [if_neg (by decide), if_neg (by decide), if_pos trivial, htx]
          rw [e] at h; simp at h
        | some n =>
          have e : firstF (34 :: t) = (4, n + 1, 0) := by unfold firstF; simp only; rw [if_neg (by decide), if_neg (by decide), if_pos trivial, htx]
          rw [e]
          rcases textF_last t _ n htx with ⟨_, h2⟩ | ⟨h1, h2⟩
          · cases h2
          · exact ⟨34, by simp only; rw [show n + 1 - 1 = (n - 1) + 1 by omega]; simpa using h2, by decide⟩
      · by_cases hz : signF (c :: t) = 0
        · have e : firstF (c :: t) = (0, 0, 51) := by simp only [firstF, hc, hd, hq, hz, if_true, Bool.false_eq_true, if_false]
          rw [e] at h; simp at h
        · have e : firstF (c :: t) = (5, signF (c :: t), 0) := by simp only [firstF, hc, hd, hq, hz, if_true, Bool.false_eq_true, if_false]
          rw [e]
          obtain ⟨⟨d, h1, h2⟩, h3⟩ := signF_low (c :: t) hz
          simp at h1; subst h1
          exact ⟨h2, h3⟩
    · have e : firstF (c :: t) = (3, runF isDg (c :: t), 0) := by simp only [firstF, hc, hd, if_true, Bool.false_eq_true, if_false]
      rw [e]
      have h1 := runF_pos isDg c t hd
      have h2 := runF_le isDg (c :: t)
      refine ⟨isDg_low hd, _, List.getElem?_eq_getElem (show runF isDg (c :: t) - 1 < (c :: t).length by omega), ?_⟩
      exact isDg_low (runF_in isDg (c :: t) (runF isDg (c :: t) - 1) _ (by omega) (List.getElem?_eq_getElem _))
  · have e : firstF (c :: t) = (if isWd ((c :: t).take (runF isPt (c :: t))) then 2 else 1, runF isPt (c :: t), 0) := by simp only [firstF, hc, if_true]
    rw [e]
    have h1 := runF_pos isPt c t (by unfold isPt; rw [hc]; rfl)
    have h2 := runF_le isPt (c :: t)
    refine ⟨isLt_low hc, _, List.getElem?_eq_getElem (show runF isPt (c :: t) - 1 < (c :: t).length by omega), ?_⟩
    exact isPt_low (runF_in isPt (c :: t) (runF isPt (c :: t) - 1) _ (by omega) (List.getElem?_eq_getElem _))
end Go.Proofs.YtcnohgifihbkdaaGreatDoor.Lx

namespace Go.Proofs.YtcnohgifihbkdaaGreatDoor.Lx
open Go.RowKit Go.Deep
set_option linter.unusedVariables false
set_option linter.unusedSimpArgs false

/- What Tokens answers. -/
def TokP (B : Nat) (x : Except (Nat × Nat) (List LTok)) (e : Ending) (w' : World) : Prop := match x with
  | .error p => e = .returned (.tuple #[.slice none 0 0, .int .i64 p.1, .int .i64 p.2])
  | .ok ts => ∃ v, e = .returned (.tuple #[v, .int .i64 0, .int .i64 0]) ∧ TRow w' B v ts
structure TInv (w : World) (s : ByteArray) (gf pos behind : Nat) (v : Value) (acc : List LTok) (wx : World) : Prop where
  it : wx.heap[w.heap.size]? = some (.stringIter s pos)
  bel : Below w.heap.size w wx
  row : TRow wx (w.heap.size + 1) v acc
  eq : catE acc (lexG (behind - pos) pos (s.data.toList.drop pos)) = lexG 0 0 s.data.toList
  good : Good s.data.toList pos behind
  fuel : s.size ≤ pos + gf
  le : pos ≤ s.size
  bl : behind ≤ s.size
  al : acc.length ≤ pos
theorem blI_run {c : UInt8} {r : Int} (h : RunC c r) : blI r = isBl c := by
  unfold blI isBl
  rw [Bool.eq_iff_iff]
  simp only [Bool.or_eq_true, decide_eq_true_eq, beq_iff_eq]
  have e1 := eq_run h 32 (by decide)
  have e2 := eq_run h 9 (by decide)
  have e3 := eq_run h 10 (by decide)
  have e4 := eq_run h 13 (by decide)
  rw [← e1, ← e2, ← e3, ← e4]
  rfl
theorem Rune.run {l : Bs} {pos r wd : Nat} (R : Rune l pos r wd) {c : UInt8} (e : l[pos]? = some c) : RunC c (r : Int) :=
  ⟨fun h => by rw [(R.low c e h).1], fun h => by have := R.high c e h; omega⟩

theorem TInv.next {w : World} {s : ByteArray} {g pos behind K behind' : Nat} {v v' : Value} {acc acc' : List LTok} {wr W : World} (I : TInv w s (g + 1) pos behind v acc wr) (h1 : 1 ≤ K) (h2 : pos + K ≤ s.size)
    (hit : W.heap[w.heap.size]? = some (.stringIter s (pos + K))) (hb : Below w.heap.size w W) (hrow : TRow W (w.heap.size + 1) v' acc')
    (heq : catE acc' (lexG (behind' - (pos + K)) (pos + K) (s.data.toList.drop (pos + K))) = catE acc (lexG (behind - pos) pos (s.data.toList.drop pos)))
    (hg : Good s.data.toList (pos + K) behind') (hbl : behind' ≤ s.size) (hal : acc'.length ≤ pos + K) : TInv w s g (pos + K) behind' v' acc' W :=
  ⟨hit, hb, hrow, heq.trans I.eq, hg, by have := I.fuel; omega, h2, hbl, hal⟩
theorem isBl_low {c : UInt8} (h : isBl c = true) : c.toNat < 128 := by
  unfold isBl at h
  simp only [Bool.or_eq_true, beq_iff_eq] at h
  rcases h with ((rfl | rfl) | rfl) | rfl <;> decide
theorem lexG_blank {c : UInt8} (t : Bs) (at' : Nat) (h : isBl c = true) : lexG 0 at' (c :: t) = lexG 0 (at' + 1) t := by rw [lexG, if_pos h]
theorem lexG_note {c : UInt8} (t : Bs) (at' : Nat) (h : isBl c = false) (hc : c = 35) : lexG 0 at' (c :: t) = lexG (noteF (c :: t) - 1) (at' + 1) t := by rw [lexG, if_neg (by simp [h]), if_pos hc]
theorem lexG_err {c : UInt8} (t : Bs) (at' : Nat) (h : isBl c = false) (hc : ¬ c = 35) (he : (firstF (c :: t)).2.2 ≠ 0) : lexG 0 at' (c :: t) = .error (at', (firstF (c :: t)).2.2) := by rw [lexG, if_neg (by simp [h]), if_neg hc, if_pos he]
theorem lexG_tok {c : UInt8} (t : Bs) (at' : Nat) (h : isBl c = false) (hc : ¬ c = 35) (he : (firstF (c :: t)).2.2 = 0) :
    lexG 0 at' (c :: t) = catE [⟨(firstF (c :: t)).1, tokText (firstF (c :: t)).1 ((c :: t).take (firstF (c :: t)).2.1), at'⟩] (lexG ((firstF (c :: t)).2.1 - 1) (at' + 1) t) := by
  rw [lexG, if_neg (by simp [h]), if_neg hc, if_neg (by simp [he])]
  cases lexG ((firstF (c :: t)).2.1 - 1) (at' + 1) t <;> rfl
theorem catE_cat (a b : List LTok) (x : Except (Nat × Nat) (List LTok)) : catE a (catE b x) = catE (a ++ b) x := by cases x <;> simp [catE]
theorem Good.skip_eq {L : Bs} {pos behind r K : Nat} (R : Rune L pos r K) (h : Good L pos behind) (hb : pos < behind) : lexG (behind - (pos + K)) (pos + K) (L.drop (pos + K)) = lexG (behind - pos) pos (L.drop pos) := by
  have h1 := h.step R hb
  have h2 := R.fit
  rw [lexG_skip K (behind - pos) pos (L.drop pos) (by omega) (by rw [List.length_drop]; omega), List.drop_drop, Nat.sub_sub]

theorem slice_to (X : ByteArray) (n : Nat) (h : n ≤ X.size) (W : World) : (Instr.slice 9 (.string X) none (some (.int .i64 (n : Int))) none).run Tryz.prog W = .ok (.string (X.extract 0 n)) W := by
  have : (n : Int) ≤ (X.size : Int) := by omega
  go_simp
theorem slice_from (X : ByteArray) (n : Nat) (h : n ≤ X.size) (W : World) : (Instr.slice 9 (.string X) (some (.int .i64 (n : Int))) none none).run Tryz.prog W = .ok (.string (X.extract n X.size)) W := by
  have : (n : Int) ≤ (X.size : Int) := by omega
  go_simp
theorem run_appA (w : World) (ty : TypeId) (B : Nat) (v : Value) (hs : List LTok) (h : LTok) (hr : TRow w B v hs) (hB : B ≤ w.heap.size) (hl : hs.length ≤ 1000000) :
    ∃ v' w', (Builtin.append_ #[57, 57] ty #[v, .slice (some ⟨w.heap.size, 0, none⟩) 1 1]).run Tryz.prog (w.alloc (.cells h.cs.toArray 69)) = .ok v' w' ∧ TRow w' B v' (hs ++ [h]) ∧ Grw w v w' v' := by
  obtain ⟨v', w', h1, h2, h3⟩ := run_appT (w.alloc (.cells h.cs.toArray 69)) ty B v hs h w.heap.size (hr.same fun g e => by rw [Below.heap_alloc]; exact (hr.own g e).2) (heap_alloc_new w _) (by simp; omega) hl
  refine ⟨v', w', h1, h2, (World.grownBy_alloc w _ _).trans h3.1, ?_⟩
  rcases h3.2 with h | ⟨g, h, hg⟩
  · exact .inl h
  · exact .inr ⟨g, h, by simp at hg; omega⟩
theorem wpList_appT {ops : Array Oper} {rest : List Oper} {o : Oper} {a : Act} {Q : Exit → Act → World → Prop} (w : World) (hgd : o.guard = none) (sl x : Operand)
    (ho : o.op = .call { callee := .builtin .append, args := #[sl, x], argTypes := #[57, 57] }) (v : Value) (h : LTok) (hs : a.eval sl = v) (hx : a.eval x = .slice (some ⟨w.heap.size, 0, none⟩) 1 1)
    (B : Nat) (xs : List LTok) (hr : TRow w B v xs) (hB : B ≤ w.heap.size) (hl : xs.length ≤ 1000000)
    (k : ∀ v' w', TRow w' B v' (xs ++ [h]) → Grw w v w' v' → wpList Tryz.prog ops Q rest (a.put o.dst v') w') :
    wpList Tryz.prog ops Q (o :: rest) a (w.alloc (.cells h.cs.toArray 69)) := by
  refine wpList_plain hgd fun K hK => ?_
  obtain ⟨v', w', hrun, h2, h3⟩ := run_appA w o.type B v xs h hr hB hl
  unfold Oper.wp execOp
  simp only [ho, resolve, invoke, builtin, Sem.run_bind, Sem.run_pure, Result.andThen_ok, List.map_toArray, List.map_cons, List.map_nil, hs, hx, hrun]
  exact hK _ _ (k v' w' h2 h3)
theorem Grw.below {w0 w w' : World} {v v' : Value} {B : Nat} (hb : Below B w0 w) (h : Grw w v w' v') (hv : ∀ k, v.ownBlock = some k → B ≤ k) (hB : B ≤ w.heap.size) : Below B w0 w' :=
  ⟨h.1.os.trans hb.os, h.1.tape.trans hb.tape, h.1.output.trans hb.output, Nat.le_trans hb.size h.1.size, fun j hj => (h.1.block j (by omega) (fun e => by have := hv j e.symm; omega)).trans (hb.block j hj)⟩

set_option maxRecDepth 100000 in
set_option maxHeartbeats 1000000 in
theorem tokens_walk (s : ByteArray) (hs : s.size ≤ 4096) (w : World) (hm : MX w) : Calls Tryz.prog 16 #[.string s] w fun e w' => TokP (w.heap.size + 1) (lexG 0 0 s.data.toList) e w' ∧ Below w.heap.size w w' := by
  have hz : ¬ (4096 : Int) < (s.size : Int) := by omega
  have HM := hid hm
  clear hm
  go_enter Tryz.func16, Tryz.ntmps16
  go_wp2
  refine wp_scope_straight ?_
  go_wp2
  refine wp_label ?_
  go_wp2
  go_loopg [5, 6] s.size (fun gf v b wx => ∃ (pos behind : Nat) (acc : List LTok), b = .int .i64 behind ∧ TInv w s gf pos behind v acc wx)
  case atStart => exact ⟨0, 0, [], rfl, ⟨World.iter_heap w s 0, (Below.refl _ w).alloc (Nat.le_refl _) _, TRow.nil _ _, by rw [catE_nil]; simp, .inl (Nat.le_refl _), by omega, by omega, by omega, by simp⟩⟩
  case round =>
    obtain ⟨pos, behind, acc, rfl, I⟩ := hrel
    by_cases hps : pos < s.size
    · obtain ⟨g', rfl⟩ : ∃ g', gk = g' + 1 := ⟨gk - 1, by have := I.fuel; omega⟩
      have hnx : ∀ ty, (Instr.next (.pointer (some ⟨w.heap.size, 0, none⟩)) true ty).run Tryz.prog wr = _ := fun ty => Lib.run_next_any_at wr w.heap.size s pos ty I.it hps
      have hR := rune_at s pos hps
      obtain ⟨R, hRe⟩ : ∃ R, (Utf8.decode s pos).1 = R := ⟨_, rfl⟩
      obtain ⟨K, hK⟩ : ∃ K, (Utf8.decode s pos).2 = K := ⟨_, rfl⟩
      rw [hRe, hK] at hnx hR
      have hit2 := Lib.iterAt_heap wr w.heap.size s pos (pos + K) I.it
      have hbw2 := Lib.below_iterAt I.bel (k := w.heap.size) (Nat.le_refl _) s (pos + K)
      have hrow2 := I.row.iterAt I.it (pos + K)
      obtain ⟨W, hWd⟩ : ∃ W, wr.iterAt w.heap.size s (pos + K) = W := ⟨_, rfl⟩
      rw [hWd] at hnx hit2 hbw2 hrow2
      obtain ⟨c, hc, hdr⟩ := hR.at
      have hrc := hR.run hc
      have h1 := hR.one
      have h2 := hR.fit
      rw [← Lib.size_eq] at h2
      have hsl : ∀ W, (Instr.slice 9 (.string s) (some (.int .i64 (pos : Int))) none none).run Tryz.prog W = .ok (.string (s.extract pos s.size)) W := slice_from s pos (by omega)
      have hxl : (s.extract pos s.size).data.toList = c :: s.data.toList.drop (pos + 1) := by rw [extract_toList, List.take_of_length_le (by rw [← Lib.size_eq]; omega), hdr]
      have hxs : (s.extract pos s.size).size = s.size - pos := ext_size s pos s.size (Nat.le_refl _)
      obtain ⟨X, hX⟩ : ∃ X, s.extract pos s.size = X := ⟨_, rfl⟩
      rw [hX] at hsl hxl hxs
      obtain ⟨T, hT⟩ : ∃ T, s.data.toList.drop (pos + 1) = T := ⟨_, rfl⟩
      rw [hT] at hxl hdr
      have HXL := hid hxl
      have HR := hid hR
      have HI := hid I
      have HC := hid hc
      have HD := hid hdr
      have HT := hid hT
      clear hR I hc hdr hxl hX hT hRe hK hWd
      by_cases hpb : pos < behind
      · have hpb' : (pos : Int) < (behind : Int) := by omega
        go_wp2
        go_roundg g'
        case measure => omega
        case rel => exact ⟨pos + K, behind, acc, rfl, HI.out.next h1 h2 hit2 hbw2 hrow2 (by rw [HI.out.good.skip_eq HR.out hpb]) (HI.out.good.mono (by omega)) HI.out.bl (by have := HI.out.al; omega)⟩
      · have hpb' : ¬ (pos : Int) < (behind : Int) := by omega
        have hbz : behind - pos = 0 := by omega
        have c1 := isBlank_any (R : Int) W
        rw [blI_run hrc] at c1
        cases hbl : isBl c <;> rw [hbl] at c1
        · by_cases hn : c = 35
          · have hr35 : (R : Int) = 35 := by have := (eq_run hrc 35 (by decide)).2 hn; simpa using this
            rw [hr35] at c1
            have c2 := noteSize_any X (by omega) W
            rw [HXL.out] at c2
            have hnl : noteF (c :: T) ≤ s.size - pos := by have := runF_le (fun c => !(c == 10)) (c :: T); rw [← HXL.out, ← Lib.size_eq, hxs] at this; rw [HXL.out] at this; exact this
            have hn1 : 1 ≤ noteF (c :: T) := by subst hn; exact runF_pos _ _ _ (by decide)
            obtain ⟨N, hN⟩ : ∃ N, noteF (c :: T) = N := ⟨_, rfl⟩
            rw [hN] at c2 hnl hn1
            have hwr : IntKind.i64.wrap ((pos : Int) + (N : Int)) = ((pos + N : Nat) : Int) := by
              rw [show (pos : Int) + (N : Int) = ((pos + N : Nat) : Int) by omega]
              exact wrap_small _ (by omega) (by omega)
            have HN := hid hN
            have Hn := hid hn
            have Hb := hid hbl
            clear hN hn hbl
            go_wp2_with (first | (go_at_call 37; refine c1.mono ?_; rintro e W ⟨rfl, rfl⟩) | (go_at_call 38; refine c2.mono ?_; rintro e W2 ⟨rfl, hb2⟩))
            go_roundg g'
            case measure => omega
            case rel =>
              have hK1 : K = 1 := (HR.out.low c HC.out (by rw [Hn.out]; decide)).2
              have hltW : w.heap.size < W.heap.size := (Array.getElem?_eq_some_iff.1 hit2).1
              refine ⟨pos + K, pos + N, acc, rfl, HI.out.next h1 h2 ((hb2.block _ hltW).trans hit2) (hbw2.trans (hb2.mono hbw2.size)) (hrow2.below (Nat.le_refl _) hb2) ?_ ?_ (by omega) (by have := HI.out.al; omega)⟩
              · rw [hbz, HD.out, lexG_note _ _ Hb.out Hn.out, hK1, HN.out, show pos + N - (pos + 1) = N - 1 by omega, HT.out]
              · refine .inr (.inl fun d hd => ?_)
                have h5 := runF_stop (fun c => !(c == 10)) (c :: T) d (by rw [show runF (fun c => !(c == 10)) (c :: T) = N from HN.out, ← HD.out, List.getElem?_drop]; exact hd)
                simp at h5; subst h5; decide
          · have hr35 : ¬ (R : Int) = 35 := fun e => hn ((eq_run hrc 35 (by decide)).1 (by simpa using e))
            have c3 := first_any X c T (R : Int) (by omega) HXL.out hrc W
            unfold frV at c3
            by_cases hf : (firstF (c :: T)).2.2 = 0
            · have ok := first_ok c T hf
              have low := first_low c T hf
              have HLw := hid low
              have Hf := hid hf
              have hk5 := ok.k
              have hn1 := ok.n1
              have hn2 := ok.n2
              have ht2 := ok.t2
              have hlen : (c :: T).length = s.size - pos := by rw [← HXL.out, ← Lib.size_eq, hxs]
              obtain ⟨F, hF⟩ : ∃ F, firstF (c :: T) = F := ⟨_, rfl⟩
              have HF := hid hF
              rw [hF] at c3 hk5 hn1 hn2 ht2 hf
              rw [hf] at c3
              obtain ⟨k, n, ee⟩ := F
              simp only at c3 hk5 hn1 hn2 ht2 hf
              have hwr : IntKind.i64.wrap ((pos : Int) + (n : Int)) = ((pos + n : Nat) : Int) := by
                rw [show (pos : Int) + (n : Int) = ((pos + n : Nat) : Int) by omega]
                exact wrap_small _ (by omega) (by omega)
              have hsl2 : ∀ W, (Instr.slice 9 (.string X) none (some (.int .i64 (n : Int))) none).run Tryz.prog W = .ok (.string (X.extract 0 n)) W := slice_to X n (by omega)
              have hys : (X.extract 0 n).size = n := ext_size X 0 n (by omega)
              have hyl : (X.extract 0 n).data.toList = (c :: T).take n := by rw [extract_toList, HXL.out]; simp
              obtain ⟨Y, hY⟩ : ∃ Y, X.extract 0 n = Y := ⟨_, rfl⟩
              rw [hY] at hsl2 hys hyl
              have hY1 : Y.size ≤ 4096 := by omega
              have hY2 : 1 ≤ Y.size := by omega
              have HY4 : Hid (k = 4 → 2 ≤ Y.size) := hid (by intro e; have := ht2 e; omega)
              have HYL := hid hyl
              have HT2 := hid ht2
              have Hb := hid hbl
              have Hn := hid hn
              have hB1 : w.heap.size + 1 ≤ W.heap.size := (Array.getElem?_eq_some_iff.1 hit2).1
              have Hrow := hid hrow2
              have Hal : Hid (acc.length ≤ 1000000) := hid (by have := HI.out.al; omega)
              have HMW := hid (HM.out.below HM.out.lt hbw2)
              have HLN := hid hlen
              clear hF hbl hn hf ok low ht2 hyl hY hrow2 hlen
              go_wp2_with (first
                | (go_at_call 37; refine c1.mono ?_; rintro e W ⟨rfl, rfl⟩)
                | (go_at_call 39; refine c3.mono ?_; rintro e W2 ⟨rfl, hb2⟩)
                | (go_at_call 40; have ct := token_any k Y pos hk5 hY1 hY2 HY4.out _ (HMW.out.below HMW.out.lt hb2); unfold tokV at ct; refine ct.mono ?_; clear ct; rintro e W3 ⟨rfl, hb3⟩)
                | (at_builtin; refine wpList_appT _ rfl _ _ rfl _ ⟨k, tokText k Y.data.toList, pos⟩ (by rfl) (by rfl) (w.heap.size + 1) acc ((Hrow.out.below (Nat.le_refl _) hb2).below (Nat.le_refl _) hb3) (Nat.le_trans hB1 (Nat.le_trans hb2.size hb3.size)) Hal.out ?_; intro v4 w4 hr4 hg4))
              go_roundg g'
              case measure => omega
              case rel =>
                have hK1 : K = 1 := (HR.out.low c HC.out HLw.out.1).2
                have hr3 : TRow W3 (w.heap.size + 1) u5 acc := (Hrow.out.below (Nat.le_refl _) hb2).below (Nat.le_refl _) hb3
                have hb23 : Below w.heap.size w W3 := (hbw2.trans (hb2.mono hbw2.size)).trans (hb3.mono (Nat.le_trans hbw2.size hb2.size))
                have hown : ∀ j, u5.ownBlock = some j → w.heap.size + 1 ≤ j := fun j e => (hr3.own j e).1
                have hit3 : W3.heap[w.heap.size]? = some (.stringIter s (pos + K)) := (hb3.block _ (by have := hb2.size; omega)).trans ((hb2.block _ (by omega)).trans hit2)
                refine ⟨pos + K, pos + n, acc ++ [⟨k, tokText k Y.data.toList, pos⟩], rfl, HI.out.next h1 h2 ?_ (hg4.below hb23 (fun j e => by have := hown j e; omega) hb23.size) hr4 ?_ ?_ (by have := hn2; have := HLN.out; omega) (by have := HI.out.al; simp; omega)⟩
                · rw [hg4.old (by have := hb2.size; have := hb3.size; omega) (fun e => by have := hown _ e.symm; omega)]; exact hit3
                · rw [hbz, HD.out, lexG_tok _ _ Hb.out Hn.out Hf.out, catE_cat, HF.out, HYL.out, hK1, show pos + n - (pos + 1) = n - 1 by omega, HT.out]
                · refine .inr (.inr ?_)
                  obtain ⟨d, h5, h6⟩ := HLw.out.2
                  rw [HF.out, ← HD.out, List.getElem?_drop] at h5
                  refine ⟨d, ?_, h6⟩
                  rw [show pos + n - 1 = pos + (n - 1) by omega]; exact h5
            · obtain ⟨F, hF⟩ : ∃ F, firstF (c :: T) = F := ⟨_, rfl⟩
              have HF := hid hF
              rw [hF] at c3 hf
              have hf' : ¬ ((F.2.2 : Nat) : Int) = 0 := by omega
              have Hb := hid hbl
              have Hn := hid hn
              clear hF hbl hn
              go_wp2_with (first | (go_at_call 37; refine c1.mono ?_; rintro e W ⟨rfl, rfl⟩) | (go_at_call 39; refine c3.mono ?_; rintro e W2 ⟨rfl, hb2⟩))
              rw [Exit.noGoto_ret]
              refine bodyPost_ret (v := .tuple #[.slice none 0 0, .int .i64 (pos : Int), .int .i64 (F.2.2 : Int)]) (by simp [results, Tryz.results16, go_sem]) rfl ⟨?_, hbw2.trans (hb2.mono hbw2.size)⟩
              rw [← HI.out.eq, hbz, HD.out, lexG_err _ _ Hb.out Hn.out (by rw [HF.out]; exact hf), HF.out]
              rfl
        · have hK1 : K = 1 := (HR.out.low c HC.out (isBl_low hbl)).2
          have Hb := hid hbl
          clear hbl
          go_wp2_with (go_at_call 37; refine c1.mono ?_; rintro e W ⟨rfl, rfl⟩)
          go_roundg g'
          case measure => omega
          case rel => exact ⟨pos + K, behind, acc, rfl, HI.out.next h1 h2 hit2 hbw2 hrow2 (by
            rw [hbz, HD.out, lexG_blank _ _ Hb.out, hK1, show behind - (pos + 1) = 0 by omega, HT.out]) (HI.out.good.mono (by omega)) HI.out.bl (by have := HI.out.al; omega)⟩
    · have hnx : ∀ ty, (Instr.next (.pointer (some ⟨w.heap.size, 0, none⟩)) true ty).run Tryz.prog wr = _ := fun ty => Lib.run_next_end_at wr w.heap.size s pos ty I.it hps
      have HI := hid I
      have hpe : pos = s.size := by have := I.le; omega
      have Hpe := hid hpe
      have Hal : Hid (acc.length ≤ 1000000) := hid (by have := I.al; omega)
      have hB1 : w.heap.size + 1 ≤ wr.heap.size := (Array.getElem?_eq_some_iff.1 I.it).1
      clear I hpe
      go_wp2_with (at_builtin; refine wpList_appT _ rfl _ _ rfl _ ⟨0, [], s.size⟩ (by rfl) (by rfl) (w.heap.size + 1) acc HI.out.row hB1 Hal.out ?_; intro v4 w4 hr4 hg4)
      rw [Exit.noGoto_ret]
      have hown : ∀ j, u5.ownBlock = some j → w.heap.size + 1 ≤ j := fun j e => (HI.out.row.own j e).1
      refine bodyPost_ret (v := .tuple #[v4, .int .i64 0, .int .i64 0]) (by simp [results, Tryz.results16, go_sem]) rfl ⟨?_, hg4.below HI.out.bel (fun j e => by have := hown j e; omega) HI.out.bel.size⟩
      rw [← HI.out.eq, List.drop_eq_nil_of_le (by rw [← Lib.size_eq]; have := Hpe.out; omega), lexG, Hpe.out]
      exact ⟨v4, rfl, hr4⟩
end Go.Proofs.YtcnohgifihbkdaaGreatDoor.Lx

namespace Go.Proofs.YtcnohgifihbkdaaGreatDoor.Lx
set_option maxRecDepth 100000
open Go.RowKit Go.Deep
set_option linter.unusedVariables false
set_option linter.unusedSimpArgs false

theorem lexG_ne : ∀ (l : Bs) (k at' : Nat) (ts : List LTok), lexG k at' l = .ok ts → ts ≠ []
  | [], k, at', ts, h => by simp only [lexG] at h; cases h; simp
  | c :: t, k + 1, at', ts, h => lexG_ne t k (at' + 1) ts (by rw [lexG] at h; exact h)
  | c :: t, 0, at', ts, h => by
    rw [lexG] at h
    split at h
    · exact lexG_ne t _ _ ts h
    · split at h
      · exact lexG_ne t _ _ ts h
      · split at h
        · cases h
        · split at h
          · cases h
          · cases h; simp
theorem lexG_err_ne : ∀ (l : Bs) (k at' : Nat) (p : Nat × Nat), lexG k at' l = .error p → p.2 ≠ 0
  | [], k, at', p, h => by simp only [lexG] at h; cases h
  | c :: t, k + 1, at', p, h => lexG_err_ne t k (at' + 1) p (by rw [lexG] at h; exact h)
  | c :: t, 0, at', p, h => by
    rw [lexG] at h
    split at h
    · exact lexG_err_ne t _ _ p h
    · split at h
      · exact lexG_err_ne t _ _ p h
      · split at h
        · rename_i hne; cases h; exact hne
        · split at h
          · rename_i e he; cases h; exact lexG_err_ne t _ _ _ he
          · cases h
theorem lexT_err_ne {l : Bs} {p : Nat × Nat} (h : lexT l = .error p) : p.2 ≠ 0 := by
  unfold lexT at h
  split at h
  · cases h; decide
  · exact lexG_err_ne _ _ _ _ h
theorem lexT_ne {l : Bs} {ts : List LTok} (h : lexT l = .ok ts) : ts ≠ [] := by
  unfold lexT at h
  split at h
  · cases h
  · exact lexG_ne _ _ _ _ h
set_option maxRecDepth 100000 in
theorem tokens_any (s : ByteArray) (hs : s.size ≤ 9223372036854775807) (w : World) (hm : MX w) : Calls Tryz.prog 16 #[.string s] w fun e w' => TokP w.heap.size (lexT s.data.toList) e w' ∧ Below w.heap.size w w' := by
  by_cases hz : 4096 < s.size
  · have hx : lexT s.data.toList = .error (0, 50) := by unfold lexT; rw [if_pos (by rw [← Lib.size_eq]; exact hz)]
    have hz' : (4096 : Int) < (s.size : Int) := by omega
    rw [hx]
    clear hx hz hm
    go_enter Tryz.func16, Tryz.ntmps16
    go_wp2
    refine wp_scope_straight ?_
    go_wp2
    rw [Exit.noGoto_ret]
    refine bodyPost_ret (v := .tuple #[.slice none 0 0, .int .i64 0, .int .i64 50]) (by simp [results, Tryz.results16, go_sem]) rfl ⟨rfl, Below.refl _ _⟩
  · have hx : lexT s.data.toList = lexG 0 0 s.data.toList := by unfold lexT; rw [if_neg (by rw [← Lib.size_eq]; exact hz)]
    rw [hx]
    refine (tokens_walk s (by omega) w hm).mono ?_
    rintro e w' ⟨h, hb⟩
    refine ⟨?_, hb⟩
    unfold TokP at h ⊢
    cases hl : lexG 0 0 s.data.toList with
    | error p => rw [hl] at h; exact h
    | ok ts =>
      rw [hl] at h
      obtain ⟨v, h1, h2⟩ := h
      exact ⟨v, h1, h2.mono (by omega)⟩
end Go.Proofs.YtcnohgifihbkdaaGreatDoor.Lx

namespace Go.Proofs.YtcnohgifihbkdaaGreatDoor.Lx
set_option linter.unusedVariables false
theorem runF_tk (p : UInt8 → Bool) : ∀ (l : Bs) (n : Nat), runF p (l.take n) = min (runF p l) n
  | [], n => by simp [runF]
  | c :: t, 0 => by simp [runF]
  | c :: t, n + 1 => by
    rw [List.take_succ_cons]
    simp only [runF]
    split
    · rw [runF_tk p t n]; omega
    · omega
theorem textF_take : ∀ (l : Bs) (e : Bool) (n m : Nat), textF e l = some m → m ≤ n → textF e (l.take n) = some m
  | [], e, n, m, h, hm => by rw [List.take_nil]; exact h
  | c :: t, e, 0, m, h, hm => by
    obtain rfl : m = 0 := by omega
    rw [textF] at h
    rw [List.take_zero, textF]
    split at h
    · rw [Option.map_eq_some_iff] at h; obtain ⟨a, _, h⟩ := h; omega
    · split at h
      · rename_i he; rw [if_pos he]
      · rw [Option.map_eq_some_iff] at h; obtain ⟨a, _, h⟩ := h; omega
  | c :: t, e, n + 1, m, h, hm => by
    rw [List.take_succ_cons, textF]
    rw [textF] at h
    split at h
    · rename_i hc
      rw [Option.map_eq_some_iff] at h; obtain ⟨a, ha, rfl⟩ := h
      rw [if_pos hc, textF_take t _ n a ha (by omega)]; rfl
    · rename_i hc
      rw [if_neg hc]
      split at h
      · rename_i he; rw [if_pos he]; exact h
      · rename_i he
        rw [Option.map_eq_some_iff] at h; obtain ⟨a, ha, rfl⟩ := h
        rw [if_neg he, textF_take t _ n a ha (by omega)]; rfl
theorem textF_cut : ∀ (l : Bs) (e : Bool) (n m j : Nat), textF e l = some m → n < m → textF e (l.take n) = some j → j = n
  | l, e, 0, m, j, h, hm, hj => by
    rw [List.take_zero, textF] at hj
    split at hj
    · cases hj; rfl
    · cases hj
  | [], e, n + 1, m, j, h, hm, hj => by
    rw [textF] at h
    split at h
    · cases h; omega
    · cases h
  | c :: t, e, n + 1, m, j, h, hm, hj => by
    rw [List.take_succ_cons, textF] at hj
    rw [textF] at h
    split at h
    · rename_i hc
      rw [Option.map_eq_some_iff] at h; obtain ⟨a, ha, rfl⟩ := h
      rw [if_pos hc, Option.map_eq_some_iff] at hj; obtain ⟨b, hb, rfl⟩ := hj
      have := textF_cut t _ n a b ha (by omega) hb
      omega
    · rename_i hc
      rw [if_neg hc] at hj
      split at h
      · cases h; omega
      · rename_i he
        rw [Option.map_eq_some_iff] at h; obtain ⟨a, ha, rfl⟩ := h
        rw [if_neg he, Option.map_eq_some_iff] at hj; obtain ⟨b, hb, rfl⟩ := hj
        have := textF_cut t _ n a b ha (by omega) hb
        omega
theorem signF_take (c : UInt8) (t : Bs) (n : Nat) (h : signF (c :: t) ≠ 0) (hm : signF (c :: t) ≤ n + 1) : signF (c :: t.take n) = signF (c :: t) := by
  cases t with
  | nil => simp
  | cons b t =>
    cases n with
    | zero =>
      rw [List.take_zero]
      simp only [signF] at h hm ⊢
      split at h <;> simp_all
    | succ n => rw [List.take_succ_cons]; rfl
theorem signF_cut (c : UInt8) (t : Bs) (n : Nat) (hm : n + 1 < signF (c :: t)) (h : signF (c :: t.take n) ≠ 0) : signF (c :: t.take n) = n + 1 := by
  cases t with
  | nil => simp only [signF] at hm; split at hm <;> omega
  | cons b t =>
    have hn : n = 0 := by
      simp only [signF] at hm
      split at hm
      · omega
      · split at hm <;> omega
    subst hn
    rw [List.take_zero] at h ⊢
    simp only [signF] at h ⊢
    split at h
    · rename_i q; rw [if_pos q]
    · exact absurd rfl h
theorem first_err (l : Bs) : (firstF l).2.2 ≠ 50 ∧ (firstF l).2.2 ≠ 72 := by
  cases l with
  | nil => exact ⟨by show (51 : Nat) ≠ 50; decide, by show (51 : Nat) ≠ 72; decide⟩
  | cons c t =>
    rw [firstF]
    split
    · exact ⟨by show (0 : Nat) ≠ 50; decide, by show (0 : Nat) ≠ 72; decide⟩
    · split
      · exact ⟨by show (0 : Nat) ≠ 50; decide, by show (0 : Nat) ≠ 72; decide⟩
      · split
        · split
          · exact ⟨by show (0 : Nat) ≠ 50; decide, by show (0 : Nat) ≠ 72; decide⟩
          · exact ⟨by show (52 : Nat) ≠ 50; decide, by show (52 : Nat) ≠ 72; decide⟩
        · split
          · exact ⟨by show (51 : Nat) ≠ 50; decide, by show (51 : Nat) ≠ 72; decide⟩
          · exact ⟨by show (0 : Nat) ≠ 50; decide, by show (0 : Nat) ≠ 72; decide⟩
theorem first_take (c : UInt8) (t : Bs) (n : Nat) (h : (firstF (c :: t)).2.2 = 0) (hm : (firstF (c :: t)).2.1 ≤ n + 1) : firstF (c :: t.take n) = firstF (c :: t) := by
  have et : c :: t.take n = (c :: t).take (n + 1) := rfl
  rw [firstF] at h hm ⊢
  rw [firstF]
  by_cases hl : isLt c = true
  · rw [if_pos hl] at h hm ⊢
    rw [if_pos hl]
    have hr : runF isPt (c :: t) ≤ n + 1 := hm
    have e1 : runF isPt (c :: t.take n) = runF isPt (c :: t) := by rw [et, runF_tk]; omega
    rw [e1, et, List.take_take, Nat.min_eq_left hr]
  rw [if_neg hl] at h hm ⊢
  rw [if_neg hl]
  by_cases hd : isDg c = true
  · rw [if_pos hd] at h hm ⊢
    rw [if_pos hd]
    have hr : runF isDg (c :: t) ≤ n + 1 := hm
    rw [et, runF_tk, Nat.min_eq_left hr]
  rw [if_neg hd] at h hm ⊢
  rw [if_neg hd]
  by_cases hc : c = 34
  · rw [if_pos hc] at h hm ⊢
    rw [if_pos hc]
    cases hx : textF false t with
    | none => rw [hx] at h; exact absurd h (by decide)
    | some m =>
      rw [hx] at hm
      have hm' : m + 1 ≤ n + 1 := hm
      rw [textF_take t false n m hx (by omega)]
  rw [if_neg hc] at h hm ⊢
  rw [if_neg hc]
  by_cases hs : signF (c :: t) = 0
  · rw [if_pos hs] at h; exact absurd h (by decide)
  · rw [if_neg hs] at hm ⊢
    rw [signF_take c t n hs hm, if_neg hs]
theorem first_cut (c : UInt8) (t : Bs) (n : Nat) (hm : n + 1 < (firstF (c :: t)).2.1) (h : (firstF (c :: t.take n)).2.2 = 0) : (firstF (c :: t.take n)).2.1 = n + 1 ∧ ((firstF (c :: t.take n)).1 = 2 → (firstF (c :: t)).1 = 1 ∨ (firstF (c :: t)).1 = 2) := by
  have et : c :: t.take n = (c :: t).take (n + 1) := rfl
  rw [firstF] at h hm ⊢
  rw [firstF]
  by_cases hl : isLt c = true
  · rw [if_pos hl] at h hm ⊢
    rw [if_pos hl]
    have hr : n + 1 < runF isPt (c :: t) := hm
    refine ⟨?_, fun _ => ?_⟩
    · show runF isPt (c :: t.take n) = n + 1
      rw [et, runF_tk]; omega
    · show (if _ then 2 else 1) = 1 ∨ (if _ then 2 else 1) = 2
      split
      · exact .inr rfl
      · exact .inl rfl
  rw [if_neg hl] at h hm ⊢
  rw [if_neg hl]
  by_cases hd : isDg c = true
  · rw [if_pos hd] at h hm ⊢
    rw [if_pos hd]
    have hr : n + 1 < runF isDg (c :: t) := hm
    refine ⟨?_, fun q => absurd q (by show ¬ (3 : Nat) = 2; decide)⟩
    show runF isDg (c :: t.take n) = n + 1
    rw [et, runF_tk]; omega
  rw [if_neg hd] at h hm ⊢
  rw [if_neg hd]
  by_cases hc : c = 34
  · rw [if_pos hc] at h hm ⊢
    rw [if_pos hc]
    cases hx : textF false t with
    | none => rw [hx] at hm; exact absurd hm (by show ¬ n + 1 < 0; omega)
    | some m =>
      rw [hx] at hm
      have hm' : n + 1 < m + 1 := hm
      cases hy : textF false (t.take n) with
      | none => rw [hy] at h; exact absurd h (by decide)
      | some j =>
        have := textF_cut t false n m j hx (by omega) hy
        refine ⟨by show j + 1 = n + 1; omega, fun q => absurd q (by show ¬ (4 : Nat) = 2; decide)⟩
  rw [if_neg hc] at h hm ⊢
  rw [if_neg hc]
  by_cases hs : signF (c :: t) = 0
  · rw [if_pos hs] at hm; exact absurd hm (by show ¬ n + 1 < 0; omega)
  · rw [if_neg hs] at hm
    by_cases hs2 : signF (c :: t.take n) = 0
    · rw [if_pos hs2] at h; exact absurd h (by decide)
    · rw [if_neg hs2]
      exact ⟨signF_cut c t n hm hs2, fun q => absurd q (by show ¬ (5 : Nat) = 2; decide)⟩
theorem lexG_all : ∀ (l : Bs) (k at' : Nat), l.length ≤ k → lexG k at' l = .ok [⟨0, [], at' + l.length⟩]
  | [], k, at', h => by simp [lexG]
  | c :: t, 0, at', h => by simp at h
  | c :: t, k + 1, at', h => by
    rw [lexG, lexG_all t k (at' + 1) (by simpa using h)]
    simp; omega
end Go.Proofs.YtcnohgifihbkdaaGreatDoor.Lx

namespace Go.Proofs.YtcnohgifihbkdaaGreatDoor.Lx
set_option linter.unusedVariables false
theorem first_sgn (c : UInt8) (t : Bs) (h : (firstF (c :: t)).1 = 5) : isLt c = false := by
  cases hl : isLt c
  · rfl
  · rw [firstF, if_pos hl] at h
    have h : (if _ then 2 else 1) = 5 := h
    split at h <;> cases h
theorem first_knd (c : UInt8) (t : Bs) (h : (firstF (c :: t)).2.2 = 0) : (firstF (c :: t)).1 ≠ 0 := by
  rw [firstF] at h ⊢
  by_cases hl : isLt c = true
  · rw [if_pos hl]; show (if _ then 2 else 1) ≠ 0; split <;> decide
  rw [if_neg hl] at h ⊢
  by_cases hd : isDg c = true
  · rw [if_pos hd]; show (3 : Nat) ≠ 0; decide
  rw [if_neg hd] at h ⊢
  by_cases hc : c = 34
  · rw [if_pos hc] at h ⊢
    cases hx : textF false t with
    | none => rw [hx] at h; exact absurd h (by decide)
    | some m => show (4 : Nat) ≠ 0; decide
  rw [if_neg hc] at h ⊢
  by_cases hs : signF (c :: t) = 0
  · rw [if_pos hs] at h; exact absurd h (by decide)
  · rw [if_neg hs]; show (5 : Nat) ≠ 0; decide
/- A token that is a part of another row's first one. -/
def Prt (a : LTok) (u : List LTok) : Prop := ∃ x r, u = x :: r ∧ x.kind ≠ 0 ∧ (a.kind = 2 → a.text = x.text.take a.text.length ∧ a.text.length < x.text.length) ∧ (a.kind = 5 → ∃ c r, a.text = c :: r ∧ isLt c = false)
/- What is told of the source cut short. -/
def CutP (ts : List LTok) (N : Nat) (r : Except (Nat × Nat) (List LTok)) : Prop :=
  (∃ p q, r = .error (p, q) ∧ (q ≠ 50 ∧ q ≠ 72) ∧ p ≤ N) ∨ ∃ t u v, ts = t ++ u ∧ r = .ok (t ++ v) ∧ (v = [⟨0, [], N⟩] ∨ ∃ a, v = [a, ⟨0, [], N⟩] ∧ Prt a u ∧ a.pos ≤ N) ∧ ∀ x ∈ t, x.pos ≤ N
theorem CutP.done (ts : List LTok) (N : Nat) : CutP ts N (.ok [⟨0, [], N⟩]) := .inr ⟨[], ts, [⟨0, [], N⟩], rfl, rfl, .inl rfl, fun x h => by simp at h⟩
theorem lex_cut : ∀ (l : Bs) (k at' n : Nat) (ts : List LTok), lexG k at' l = .ok ts → n ≤ l.length → CutP ts (at' + n) (lexG k at' (l.take n))
  | l, k, at', 0, ts, h, hn => by
    rw [List.take_zero, lexG]; exact CutP.done ts at'
  | [], k, at', n + 1, ts, h, hn => by simp at hn
  | c :: t, k + 1, at', n + 1, ts, h, hn => by
    rw [List.take_succ_cons, lexG]
    rw [lexG] at h
    have := lex_cut t k (at' + 1) n ts h (by simpa using hn)
    rw [show at' + (n + 1) = at' + 1 + n by omega]; exact this
  | c :: t, 0, at', n + 1, ts, h, hn => by
    have hn' : n ≤ t.length := by simpa using hn
    have hlen : (t.take n).length = n := by rw [List.length_take]; omega
    have eN : at' + (n + 1) = at' + 1 + n := by omega
    have et : c :: t.take n = (c :: t).take (n + 1) := rfl
    rw [List.take_succ_cons]
    rw [lexG] at h
    by_cases hb : isBl c = true
    · rw [if_pos hb] at h
      rw [lexG, if_pos hb, eN]
      exact lex_cut t 0 (at' + 1) n ts h hn'
    rw [if_neg hb] at h
    by_cases hc : c = 35
    · rw [if_pos hc] at h
      rw [lexG, if_neg hb, if_pos hc, eN]
      by_cases hf : noteF (c :: t) ≤ n + 1
      · have e : noteF (c :: t.take n) = noteF (c :: t) := by
          rw [et]; unfold noteF at hf ⊢; rw [runF_tk]; omega
        rw [e]
        exact lex_cut t _ (at' + 1) n ts h hn'
      · have e : noteF (c :: t.take n) = n + 1 := by
          rw [et]; unfold noteF at hf ⊢; rw [runF_tk]; omega
        rw [e, lexG_all (t.take n) (n + 1 - 1) (at' + 1) (by omega), hlen]
        exact CutP.done ts _
    rw [if_neg hc] at h
    by_cases he : (firstF (c :: t)).2.2 = 0
    · rw [if_neg (by simp [he])] at h
      have hok := first_ok c t he
      rw [lexG, if_neg hb, if_neg hc, eN]
      by_cases hm : (firstF (c :: t)).2.1 ≤ n + 1
      · have e := first_take c t n he hm
        rw [e, if_neg (by simp [he])]
        have ex : (c :: t.take n).take (firstF (c :: t)).2.1 = (c :: t).take (firstF (c :: t)).2.1 := by rw [et, List.take_take, Nat.min_eq_left hm]
        rw [ex]
        cases hx : lexG ((firstF (c :: t)).2.1 - 1) (at' + 1) t with
        | error e => rw [hx] at h; cases h
        | ok rs =>
          rw [hx] at h
          cases h
          rcases lex_cut t _ (at' + 1) n rs hx hn' with ⟨p, q, h1, h2, h3⟩ | ⟨t1, u, v, h1, h2, h3, h4⟩
          · rw [h1]; exact .inl ⟨p, q, rfl, h2, h3⟩
          · rw [h2]
            refine .inr ⟨_ :: t1, u, v, by rw [h1]; rfl, rfl, h3, fun x hx => ?_⟩
            rcases List.mem_cons.1 hx with rfl | hx
            · show at' ≤ _; omega
            · exact h4 x hx
      · by_cases he2 : (firstF (c :: t.take n)).2.2 = 0
        · rw [if_neg (by simp [he2])]
          obtain ⟨q1, q2⟩ := first_cut c t n (by omega) he2
          rw [q1, lexG_all (t.take n) (n + 1 - 1) (at' + 1) (by omega), hlen]
          cases hx : lexG ((firstF (c :: t)).2.1 - 1) (at' + 1) t with
          | error e => rw [hx] at h; cases h
          | ok rs =>
            rw [hx] at h
            cases h
            refine .inr ⟨[], _, [_, ⟨0, [], at' + 1 + n⟩], rfl, rfl, .inr ⟨_, rfl, ⟨_, rs, rfl, first_knd c t he, fun hk => ?_, fun hk => ?_⟩, by show at' ≤ _; omega⟩, fun x hx => by simp at hx⟩
            · have hk : (firstF (c :: t.take n)).1 = 2 := hk
              have ta : tokText (firstF (c :: t.take n)).1 ((c :: t.take n).take (n + 1)) = (c :: t).take (n + 1) := by
                unfold tokText
                rw [if_neg (by rw [hk]; decide), if_neg (by rw [hk]; decide), et, List.take_take, Nat.min_self]
              have tb : tokText (firstF (c :: t)).1 ((c :: t).take (firstF (c :: t)).2.1) = (c :: t).take (firstF (c :: t)).2.1 := by
                unfold tokText
                rcases q2 hk with q | q
                · rw [if_neg (by rw [q]; decide), if_neg (by rw [q]; decide)]
                · rw [if_neg (by rw [q]; decide), if_neg (by rw [q]; decide)]
              show tokText (firstF (c :: t.take n)).1 ((c :: t.take n).take (n + 1)) = (tokText (firstF (c :: t)).1 ((c :: t).take (firstF (c :: t)).2.1)).take (tokText (firstF (c :: t.take n)).1 ((c :: t.take n).take (n + 1))).length ∧ (tokText (firstF (c :: t.take n)).1 ((c :: t.take n).take (n + 1))).length < (tokText (firstF (c :: t)).1 ((c :: t).take (firstF (c :: t)).2.1)).length
              rw [ta, tb]
              have l1 : ((c :: t).take (n + 1)).length = n + 1 := by rw [List.length_take]; simp; omega
              have l2 : ((c :: t).take (firstF (c :: t)).2.1).length = (firstF (c :: t)).2.1 := by rw [List.length_take, Nat.min_eq_left hok.n2]
              rw [l1, l2, List.take_take, Nat.min_eq_left (by omega)]
              exact ⟨rfl, by omega⟩
            · have hk : (firstF (c :: t.take n)).1 = 5 := hk
              refine ⟨c, t.take n, ?_, first_sgn c _ hk⟩
              show tokText (firstF (c :: t.take n)).1 ((c :: t.take n).take (n + 1)) = _
              unfold tokText
              rw [if_neg (by rw [hk]; decide), if_neg (by rw [hk]; decide)]
              rw [et, List.take_take, Nat.min_self]
        · rw [if_pos he2]
          exact .inl ⟨at', _, rfl, first_err _, by omega⟩
    · rw [if_pos he] at h; cases h
end Go.Proofs.YtcnohgifihbkdaaGreatDoor.Lx

