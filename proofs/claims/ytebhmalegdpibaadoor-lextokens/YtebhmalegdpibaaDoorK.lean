/- Rows of tokens; facts on the first token. -/
import Derived.Test.YtebhmalegdpibaaDoorJ
namespace Go.Proofs.YtebhmalegdpibaaDoor
open Go.RowKit Go.Deep
set_option linter.unusedVariables false
set_option linter.unusedSimpArgs false

theorem textF_one : ∀ (l : Bs) (n : Nat), textF false l = some n → 1 ≤ n
  | [], n, h => by simp [textF] at h
  | c :: t, n, h => by
    simp only [textF, Bool.false_eq_true, if_false, Bool.not_false] at h
    split at h
    · cases hx : textF true t with
      | none => rw [hx] at h; simp at h
      | some m => rw [hx] at h; simp at h; omega
    · cases hx : textF false t with
      | none => rw [hx] at h; simp at h
      | some m => rw [hx] at h; simp at h; omega
theorem textF_le : ∀ (l : Bs) (e : Bool) (n : Nat), textF e l = some n → n ≤ l.length
  | [], e, n, h => by cases e <;> simp [textF] at h <;> simp [← h]
  | c :: t, e, n, h => by
    simp only [textF] at h
    split at h
    · cases hx : textF (!e) t with
      | none => rw [hx] at h; simp at h
      | some m => rw [hx] at h; simp at h; have := textF_le t _ m hx; simp; omega
    · split at h
      · simp at h; simp [← h]
      · cases hx : textF false t with
        | none => rw [hx] at h; simp at h
        | some m => rw [hx] at h; simp at h; have := textF_le t _ m hx; simp; omega
theorem signF_le : ∀ l : Bs, signF l ≤ l.length
  | [] => Nat.le_refl _
  | [a] => by simp [signF]; split <;> omega
  | a :: b :: t => by simp [signF]; split <;> (try split) <;> omega
theorem runF_pos (p : UInt8 → Bool) (c : UInt8) (t : Bs) (h : p c = true) : 1 ≤ runF p (c :: t) := by simp [runF, h]
structure FirstOk (l : Bs) : Prop where
  k : (firstF l).1 ≤ 5
  n1 : 1 ≤ (firstF l).2.1
  n2 : (firstF l).2.1 ≤ l.length
  t2 : (firstF l).1 = 4 → 2 ≤ (firstF l).2.1
theorem first_ok (c : UInt8) (t : Bs) (h : (firstF (c :: t)).2.2 = 0) : FirstOk (c :: t) := by
  cases hc : isLt c
  · cases hd : isDg c
    · by_cases hq : c = 34
      · subst hq
        cases htx : textF false t with
        | none =>
          have e : firstF (34 :: t) = (0, 0, 52) := by unfold firstF; simp only; rw [if_neg (by decide), if_neg (by decide), if_pos trivial, htx]
          rw [e] at h; simp at h
        | some n =>
          have e : firstF (34 :: t) = (4, n + 1, 0) := by unfold firstF; simp only; rw [if_neg (by decide), if_neg (by decide), if_pos trivial, htx]
          have h1 := textF_one t n htx
          have h2 := textF_le t _ n htx
          constructor <;> rw [e] <;> simp <;> omega
      · by_cases hz : signF (c :: t) = 0
        · have e : firstF (c :: t) = (0, 0, 51) := by simp only [firstF, hc, hd, hq, hz, if_true, Bool.false_eq_true, if_false]
          rw [e] at h; simp at h
        · have e : firstF (c :: t) = (5, signF (c :: t), 0) := by simp only [firstF, hc, hd, hq, hz, if_true, Bool.false_eq_true, if_false]
          have := signF_le (c :: t)
          constructor <;> rw [e] <;> simp only <;> (try omega)
    · have e : firstF (c :: t) = (3, runF isDg (c :: t), 0) := by simp only [firstF, hc, hd, if_true, Bool.false_eq_true, if_false]
      have h1 := runF_pos isDg c t hd
      have h2 := runF_le isDg (c :: t)
      constructor <;> rw [e] <;> simp only <;> (try omega)
  · have e : firstF (c :: t) = (if isWd ((c :: t).take (runF isPt (c :: t))) then 2 else 1, runF isPt (c :: t), 0) := by simp only [firstF, hc, if_true]
    have h1 := runF_pos isPt c t (by unfold isPt; rw [hc]; rfl)
    have h2 := runF_le isPt (c :: t)
    constructor <;> rw [e] <;> simp only <;> (try split) <;> (try omega)

theorem token_any (k : Nat) (s : ByteArray) (at' : Nat) (hk : k ≤ 5) (hs : s.size ≤ 4096) (h1 : 1 ≤ s.size) (h2 : k = 4 → 2 ≤ s.size) (w : World) (hm : MX w) :
    Calls Tryd.prog 23 #[.int .i64 (k : Int), .string s, .int .i64 (at' : Int)] w fun e w' => e = .returned (tokV ⟨k, tokText k s.data.toList, at'⟩) ∧ Below w.heap.size w w' := by
  by_cases h3 : k = 3
  · subst h3; exact token_int s at' hs h1 w
  · by_cases h4 : k = 4
    · subst h4; exact token_text s at' hs (h2 rfl) w hm
    · exact token_plain k s at' hk hs h3 h4 w

def LTok.cs (t : LTok) : List Value := [.int .i64 t.kind, .string (ofB t.text), .int .i64 t.pos]
def tvv (ts : List LTok) : List Value := ts.flatMap LTok.cs
theorem tvv_length (hs : List LTok) : (tvv hs).length = hs.length * 3 := by
  induction hs with
  | nil => rfl
  | cons h r ih => simp [tvv, LTok.cs] at ih ⊢; omega
theorem tvv_snoc (hs : List LTok) (h : LTok) : tvv (hs ++ [h]) = tvv hs ++ h.cs := by simp [tvv]
theorem tvv_at (hs : List LTok) : ∀ (j : Nat) (h : LTok), hs[j]? = some h → ∀ i, i < 3 → (tvv hs)[j * 3 + i]? = h.cs[i]? := by
  induction hs with
  | nil => intro j h e; simp at e
  | cons x r ih =>
    intro j h e i hi
    have hx : (LTok.cs x).length = 3 := rfl
    cases j with
    | zero =>
      simp at e; subst e
      simp only [tvv, List.flatMap_cons]
      rw [List.getElem?_append_left (by omega)]
      simp
    | succ j =>
      simp at e
      simp only [tvv, List.flatMap_cons]
      rw [List.getElem?_append_right (by omega), hx, show (j + 1) * 3 + i - 3 = j * 3 + i from by omega]
      exact ih j h e i hi
def TRow (w : World) (B : Nat) (v : Value) (ts : List LTok) : Prop := w.ownsRow B 36 3 v ts.length (tvv ts)
theorem TRow.nil (w : World) (B : Nat) : TRow w B (.slice none 0 0) [] := World.ownsRow_nil w B 36 3
theorem TRow.own {w B v hs} (h : TRow w B v hs) : ∀ k, v.ownBlock = some k → B ≤ k ∧ k < w.heap.size := World.ownsRow.lt h
theorem TRow.same {w w' : World} {B v xs} (h : TRow w B v xs) (e : ∀ g, v.ownBlock = some g → w'.heap[g]? = w.heap[g]?) : TRow w' B v xs := by
  refine ⟨h.1, ?_⟩
  rcases h.2 with hn | ⟨g, cap, cur, rfl, hb, hgg, rest⟩
  · exact .inl hn
  · exact .inr ⟨g, cap, cur, rfl, hb, (e g rfl).trans hgg, rest⟩
theorem TRow.cells {w : World} {B v xs g} (h : TRow w B v xs) (e : v.ownBlock = some g) : ∃ cur, w.heap[g]? = some (.cells cur 36 (0, 0)) := by
  rcases h.2 with ⟨rfl, _⟩ | ⟨g', cap, cur, rfl, hb, hgg, rest⟩
  · cases e
  · cases e; exact ⟨cur, hgg⟩
theorem TRow.below {w w' : World} {B C v xs} (h : TRow w B v xs) (hC : w.heap.size ≤ C) (k : Below C w w') : TRow w' B v xs :=
  h.same fun g e => k.block g (by have := (h.own g e).2; omega)
theorem TRow.mono {w : World} {B C v xs} (h : TRow w B v xs) (hC : C ≤ B) : TRow w C v xs := by
  refine ⟨h.1, ?_⟩
  rcases h.2 with hn | ⟨g, cap, cur, rfl, hb, rest⟩
  · exact .inl hn
  · exact .inr ⟨g, cap, cur, rfl, by omega, rest⟩
theorem TRow.form {w B v xs} (h : TRow w B v xs) : ∃ a cap, v = .slice a xs.length cap ∧ xs.length ≤ cap := by
  rcases h.2 with ⟨rfl, hn⟩ | ⟨g, cap, cur, rfl, hb, hgg, hc, rest⟩
  · exact ⟨none, 0, by rw [hn], by omega⟩
  · exact ⟨_, _, rfl, hc⟩
theorem TRow.iterAt {w : World} {B v xs k} {s : ByteArray} {pos : Nat} (h : TRow w B v xs) (hk : w.heap[k]? = some (.stringIter s pos)) (pos' : Nat) : TRow (w.iterAt k s pos') B v xs :=
  h.same fun g e => by
    obtain ⟨cur, hc⟩ := h.cells e
    have : g ≠ k := by rintro rfl; rw [hk] at hc; cases hc
    simp [World.iterAt, Array.getElem?_setIfInBounds, Ne.symm this]
/- What a slice of tokens reads. -/
def TRd (w : World) (a : Option Addr) (ts : List LTok) : Prop := ∀ (j : Nat) (h : LTok), ts[j]? = some h → ∃ b off, a = some ⟨b, off, none⟩ ∧ ∀ i, i < 3 → w.cell? ⟨b, off + j * 3 + i, none⟩ = h.cs[i]?
theorem TRow.rd {w : World} {B a n cap hs} (h : TRow w B (.slice a n cap) hs) : TRd w a hs := by
  intro j x hx
  rcases h.2 with ⟨e, hn⟩ | ⟨g, cap', cur, e, hb, hgg, hc, hm, hs', ht⟩
  · have : hs = [] := List.eq_nil_of_length_eq_zero hn
    subst this; simp at hx
  · cases e
    refine ⟨g, 0, rfl, fun i hi => ?_⟩
    have hv := tvv_at hs j x hx i hi
    have hj : j < hs.length := (List.getElem?_eq_some_iff.1 hx).1
    rw [← hv, Nat.zero_add]
    have hlt : j * 3 + i < (tvv hs).length := by rw [tvv_length]; omega
    obtain ⟨u, hu⟩ : ∃ u, (tvv hs)[j * 3 + i]? = some u := ⟨_, List.getElem?_eq_getElem hlt⟩
    have := World.ownsRow.cells h (g := g) rfl _ u hu
    rw [Addr.add_lit, Nat.zero_add] at this
    rw [this, hu]
theorem TRd.below {w w' : World} {a hs B} (h : TRd w a hs) (hB : w.heap.size ≤ B) (k : Below B w w') : TRd w' a hs := by
  intro j x hx
  obtain ⟨b, off, rfl, hc⟩ := h j x hx
  refine ⟨b, off, rfl, fun i hi => ?_⟩
  have h0 := hc 0 (by omega)
  have hb : b < w.heap.size := World.block_lt_of_cell? w _ (h0.trans (show x.cs[0]? = some (.int .i64 x.kind) from rfl))
  rw [World.cell?_of_block (w := w) (k.block b (by omega))]
  exact hc i hi
def zeroTV : Value := .agg #[.int .i64 0, .string ⟨#[]⟩, .int .i64 0]
theorem info36 : (Tryd.prog.info? 36).map (fun i => (i.zero, i.size, i.bytes)) = some (some zeroTV, 3, 32) := by kernel_rfl
theorem cs_one (h : LTok) : ∀ u ∈ h.cs, u.oneCell' = true := by
  intro u hu
  simp only [LTok.cs, List.mem_cons, List.mem_nil_iff, or_false] at hu
  rcases hu with rfl | rfl | rfl <;> rfl
/- Between w and w' nothing old has turned but v's own row; and the row is v's still, or new. -/
def Grw (w : World) (v : Value) (w' : World) (v' : Value) : Prop := w.grownBy w' v.ownBlock ∧ (v'.ownBlock = v.ownBlock ∨ ∃ g, v'.ownBlock = some g ∧ w.heap.size ≤ g)
theorem Grw.old {w w' : World} {v v' : Value} (h : Grw w v w' v') {j : Nat} (hj : j < w.heap.size) (hne : some j ≠ v.ownBlock) : w'.heap[j]? = w.heap[j]? := h.1.block j hj hne
theorem run_appT (w : World) (ty : TypeId) (B : Nat) (v : Value) (hs : List LTok) (h : LTok) (g : Nat) (hr : TRow w B v hs) (hg : w.heap[g]? = some (.cells h.cs.toArray 36 (0, 0))) (hB : B ≤ w.heap.size) (hl : hs.length ≤ 1000000) :
    ∃ v' w', (Builtin.append_ #[23, 23] ty #[v, .slice (some ⟨g, 0, none⟩) 1 1]).run Tryd.prog w = .ok v' w' ∧ TRow w' B v' (hs ++ [h]) ∧ Grw w v w' v' := by
  obtain ⟨i0, hi, hz0, hz1, hz2⟩ := info_parts info36
  obtain ⟨v', w', hrun, hown, hgr, _, hat⟩ := run_append_own_at (P := Tryd.prog) w B 23 ty 36 i0 zeroTV 3 32 Tryd.underlying23 hi hz0 hz1 hz2 rfl (by decide) v hs.length (tvv hs) hr ⟨g, 0, none⟩ 1 1 h.cs rfl (by
    intro j u hu
    exact World.news_of_block hg j u (by simpa using hu)) (cs_one h) (by unfold maxLen; omega) (by omega) hB
  refine ⟨v', w', hrun, ?_, hgr, ?_⟩
  · unfold TRow
    rw [tvv_snoc, List.length_append]
    exact hown
  · rcases hat with hat | hat
    · exact .inl hat
    · exact .inr ⟨_, hat, Nat.le_refl _⟩
end Go.Proofs.YtebhmalegdpibaaDoor
