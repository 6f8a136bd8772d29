/- The document's tokens: what each step comes to. -/
import Derived.Test.YtebhmalegdpibaaDoorO2
namespace Go.Proofs.YtebhmalegdpibaaDoor
open Go.RowKit Go.Deep
set_option linter.unusedVariables false
set_option linter.unusedSimpArgs false

theorem lexG_noteN {c : UInt8} (t : Bs) (at' : Nat) (h : isBl c = false) (hc : c = 35) : lexG 0 at' (c :: t) = lexG 0 (at' + noteF (c :: t)) ((c :: t).drop (noteF (c :: t))) := by
  have h1 : 1 ≤ noteF (c :: t) := runF_pos _ c t (by subst hc; decide)
  have h2 : noteF (c :: t) ≤ (c :: t).length := runF_le _ _
  rw [lexG_note t at' h hc]
  obtain ⟨m, hm⟩ : ∃ m, noteF (c :: t) = m + 1 := ⟨noteF (c :: t) - 1, by omega⟩
  rw [hm] at h2 ⊢
  rw [Nat.add_sub_cancel, lexG_skip m m (at' + 1) t (Nat.le_refl _) (by simpa using h2), Nat.sub_self, List.drop_succ_cons]
  congr 1
  omega
theorem dropWhile_run (p : UInt8 → Bool) : ∀ l : Bs, l.dropWhile p = l.drop (runF p l)
  | [] => rfl
  | a :: l => by
    rw [List.dropWhile_cons]
    cases h : p a
    · simp [runF, h]
    · simp [runF, h, dropWhile_run p l]
def isZ (c : UInt8) : Bool := c == 48
def zN (P : Bs) : Nat := runF isZ (P.take (P.length - 1))
theorem zN_le (P : Bs) : zN P ≤ P.length - 1 := by
  have := runF_le isZ (P.take (P.length - 1))
  rw [List.length_take] at this
  unfold zN; omega
theorem int_text (P : Bs) : tokText 3 P = P.drop (zN P) := by
  have hz := zN_le P
  unfold tokText
  rw [if_pos rfl]
  have e : (P.take (P.length - 1)).dropWhile (· == 48) = (P.take (P.length - 1)).drop (zN P) := dropWhile_run isZ _
  rw [e]
  have h2 : P.drop (zN P) = (P.take (P.length - 1) ++ P.drop (P.length - 1)).drop (zN P) := by rw [List.take_append_drop]
  rw [h2, List.drop_append_of_le_length (by rw [List.length_take]; omega)]
theorem ext_list (s : ByteArray) (pos n z : Nat) (hz : z ≤ n) : (s.extract (pos + z) (pos + n)).data.toList = ((s.data.toList.drop pos).take n).drop z := by
  rw [extract_toList, ← List.drop_drop, List.drop_take, show pos + n - pos = n by omega]
structure RInv (w : World) (s : ByteArray) (gf pos : Nat) (v : Value) (acc : List LTok) (wx : World) : Prop where
  bel : Below w.heap.size w wx
  row : TRow wx w.heap.size v acc
  eq : catE acc (lexG 0 pos (s.data.toList.drop pos)) = lexG 0 0 s.data.toList
  fuel : s.size ≤ pos + gf
  le : pos ≤ s.size
  al : acc.length ≤ pos
theorem RInv.next {w : World} {s : ByteArray} {g pos j : Nat} {v v' : Value} {acc acc' : List LTok} {wr W : World} (I : RInv w s (g + 1) pos v acc wr) (h1 : pos + 1 ≤ j) (h2 : j ≤ s.size) (hb : Below w.heap.size w W) (hrow : TRow W w.heap.size v' acc')
    (heq : catE acc' (lexG 0 j (s.data.toList.drop j)) = catE acc (lexG 0 pos (s.data.toList.drop pos))) (hal : acc'.length ≤ acc.length + 1) : RInv w s g j v' acc' W :=
  ⟨hb, hrow, heq.trans I.eq, by have := I.fuel; omega, h2, by have := I.al; omega⟩
theorem step_tok {s : ByteArray} {pos n k : Nat} {c : UInt8} {T x : Bs} (acc : List LTok) (hd : s.data.toList.drop pos = c :: T) (hb : isBl c = false) (hc : ¬ c = 35) (hf : firstF (c :: T) = (k, n, 0)) (hx : tokText k ((c :: T).take n) = x) :
    catE (acc ++ [⟨k, x, pos⟩]) (lexG 0 (pos + n) (s.data.toList.drop (pos + n))) = catE acc (lexG 0 pos (s.data.toList.drop pos)) := by
  rw [hd, lexG_at T pos k n hb hc hf, catE_cat, hx, ← List.drop_drop, hd]
/- A run, byte by byte. -/
structure RunI (p : UInt8 → Bool) (L : Bs) (pos N sz j g : Nat) : Prop where
  a : pos ≤ j
  b : j ≤ sz
  c : sz ≤ j + g
  d : (j - pos) + runF p (L.drop j) = N
theorem RunI.step {p L pos N sz j g} {x : UInt8} (I : RunI p L pos N sz j (g + 1)) (hj : j < sz) (hd : L.drop j = x :: L.drop (j + 1)) (hp : p x = true) : RunI p L pos N sz (j + 1) g := by
  refine ⟨by have := I.a; omega, by omega, by have := I.c; omega, ?_⟩
  have h := I.d
  rw [hd] at h
  simp only [runF, hp, if_true] at h
  have := I.a
  omega
theorem RunI.stop {p L pos N sz j g} {x : UInt8} (I : RunI p L pos N sz j g) (hd : L.drop j = x :: L.drop (j + 1)) (hp : p x = false) : j = pos + N := by
  have h := I.d
  rw [hd] at h
  simp only [runF, hp, Bool.false_eq_true, if_false] at h
  have := I.a
  omega
theorem RunI.ends {p L pos N sz j g} (I : RunI p L pos N sz j g) (hj : ¬ j < sz) (hL : L.length = sz) : j = pos + N := by
  have h := I.d
  rw [List.drop_eq_nil_of_le (by omega)] at h
  simp only [runF] at h
  have := I.a
  omega
theorem RunI.zero (p : UInt8 → Bool) (L : Bs) (pos sz : Nat) (h : pos ≤ sz) : RunI p L pos (runF p (L.drop pos)) sz pos sz := ⟨Nat.le_refl _, h, by omega, by omega⟩
/- Noughts, byte by byte. -/
structure ZI (P : Bs) (pos j g : Nat) : Prop where
  a : pos ≤ j
  b : j - pos ≤ P.length - 1
  c : P.length ≤ (j - pos) + g + 1
  d : (j - pos) + runF isZ ((P.take (P.length - 1)).drop (j - pos)) = zN P
theorem ZI.zero (P : Bs) (pos g : Nat) (hg : P.length ≤ g) : ZI P pos pos g := ⟨Nat.le_refl _, by omega, by omega, by simp [zN]⟩
theorem ZI.at {P : Bs} {pos j g : Nat} (I : ZI P pos j g) (h : j + 1 < pos + P.length) {x : UInt8} (hx : P[j - pos]? = some x) : (P.take (P.length - 1)).drop (j - pos) = x :: (P.take (P.length - 1)).drop (j - pos + 1) := by
  have ha := I.a
  have hl : j - pos < (P.take (P.length - 1)).length := by rw [List.length_take]; omega
  rw [List.drop_eq_getElem_cons hl]
  congr 1
  rw [List.getElem_take]
  have h2 := (List.getElem?_eq_some_iff.1 hx).2
  exact h2
theorem ZI.step {P : Bs} {pos j g : Nat} (I : ZI P pos j (g + 1)) (h : j + 1 < pos + P.length) (hx : P[j - pos]? = some 48) : ZI P pos (j + 1) g := by
  have ha := I.a
  have hd := I.d
  rw [I.at h hx] at hd
  simp only [runF, show isZ 48 = true by decide, if_true] at hd
  refine ⟨by omega, by omega, by have := I.c; omega, ?_⟩
  rw [show j + 1 - pos = j - pos + 1 by omega]
  omega
theorem ZI.stop {P : Bs} {pos j g : Nat} (I : ZI P pos j g) (h : j + 1 < pos + P.length) {x : UInt8} (hx : P[j - pos]? = some x) (hn : ¬ x = 48) : j = pos + zN P := by
  have ha := I.a
  have hd := I.d
  rw [I.at h hx] at hd
  simp only [runF, show isZ x = false by unfold isZ; simpa using hn, Bool.false_eq_true, if_false] at hd
  omega
theorem ZI.ends {P : Bs} {pos j g : Nat} (I : ZI P pos j g) (h : ¬ j + 1 < pos + P.length) : j = pos + zN P := by
  have ha := I.a
  have hb := I.b
  have hd := I.d
  rw [List.drop_eq_nil_of_le (by rw [List.length_take]; omega)] at hd
  simp only [runF] at hd
  omega
/- A text. -/
theorem first_none (T : Bs) (h : txR T = none) : firstF (34 :: T) = (0, 0, 52) := by
  rw [txR_eq _ T (Nat.le_refl _)] at h
  cases hx : textF false T with
  | some m => rw [hx] at h; cases h
  | none => unfold firstF; simp only; rw [if_neg (by decide), if_neg (by decide), if_pos trivial, hx]
theorem first_some (T x : Bs) (m : Nat) (h : txR T = some (x, m)) : firstF (34 :: T) = (4, m + 1, 0) ∧ tokText 4 ((34 :: T).take (m + 1)) = x ∧ m ≤ T.length := by
  rw [txR_eq _ T (Nat.le_refl _)] at h
  cases hx : textF false T with
  | none => rw [hx] at h; cases h
  | some k =>
    rw [hx] at h
    simp only [Option.map_some, Option.some.injEq, Prod.mk.injEq] at h
    obtain ⟨rfl, rfl⟩ := h
    have hle := textF_le T _ _ hx
    have h1 : 1 ≤ k := by
      rcases textF_last T _ k hx with ⟨_, h2⟩ | ⟨h1, _⟩
      · cases h2
      · exact h1
    refine ⟨?_, ?_, hle⟩
    · unfold firstF; simp only; rw [if_neg (by decide), if_neg (by decide), if_pos trivial, hx]
    · unfold tokText
      rw [if_neg (by decide), if_pos rfl, List.length_take, List.length_cons, Nat.min_eq_left (by omega), Nat.add_sub_cancel, List.take_take, Nat.min_eq_left (by omega)]
      obtain ⟨q, rfl⟩ : ∃ q, k = q + 1 := ⟨k - 1, by omega⟩
      rfl
theorem sgT_len (l : Bs) : (sgT l).length = signF l := by unfold sgT; rw [List.length_take]; have := signF_le l; omega
theorem wpList_appX {ops : Array Oper} {rest : List Oper} {o : Oper} {a : Act} {Q : Exit → Act → World → Prop} (w : World) (hgd : o.guard = none) (sl x : Operand)
    (ho : o.op = .call { callee := .builtin .append, args := #[sl, x], argTypes := #[23, 23] }) (v : Value) (k p : Int) (y : ByteArray) (h : LTok) (hk : k = (h.kind : Int)) (hy : y = ofB h.text) (hp : p = (h.pos : Int)) (hs : a.eval sl = v) (hx : a.eval x = .slice (some ⟨w.heap.size, 0, none⟩) 1 1)
    (B : Nat) (xs : List LTok) (hr : TRow w B v xs) (hB : B ≤ w.heap.size) (hl : xs.length ≤ 1000000)
    (K : ∀ v' w', TRow w' B v' (xs ++ [h]) → Grw w v w' v' → wpList Tryd.prog ops Q rest (a.put o.dst v') w') :
    wpList Tryd.prog ops Q (o :: rest) a (w.alloc (.cells #[.int .i64 k, .string y, .int .i64 p] 36)) := by
  subst hk hy hp
  exact wpList_appT w hgd sl x ho v h hs hx B xs hr hB hl K
end Go.Proofs.YtebhmalegdpibaaDoor
