/- A token of its spelling. -/
import Derived.Test.YtebhmalegdpibaaDoorI
import Derived.Test.YtebhmalegdpibaaDoorF
namespace Go.Proofs.YtebhmalegdpibaaDoor
open Go.RowKit Go.Deep
set_option linter.unusedVariables false
set_option linter.unusedSimpArgs false

def ofB (l : Bs) : ByteArray := ⟨l.toArray⟩
theorem ofB_list (l : Bs) : (ofB l).data.toList = l := rfl
theorem ofB_size (l : Bs) : (ofB l).size = l.length := by rw [Lib.size_eq, ofB_list]
theorem list_ofB (s : ByteArray) : ofB s.data.toList = s := by cases s; simp [ofB]
theorem eq_ofB {s : ByteArray} {l : Bs} (h : s.data.toList = l) : s = ofB l := by rw [← h, list_ofB]
def tokV (t : LTok) : Value := .agg #[.int .i64 t.kind, .string (ofB t.text), .int .i64 t.pos]
def MX (w : World) : Prop := ∃ m : Int, w.cell? ⟨0, 0, none⟩ = some (.int .i64 m)
theorem MX.lt {w : World} (h : MX w) : 0 < w.heap.size := by
  obtain ⟨m, h⟩ := h
  exact World.block_lt_of_cell? w _ h
theorem MX.below {w w' : World} {B : Nat} (h : MX w) (hB : 0 < B) (k : Below B w w') : MX w' := by
  obtain ⟨m, h⟩ := h
  exact ⟨m, by rw [World.cell?_of_block (w := w) (k.block 0 hB)]; exact h⟩
theorem clone_any (s : ByteArray) (w : World) (hlim : s.size ≤ 281474976710656) : Calls Tryd.prog 41 #[.string s] w fun e w' => e = .returned (.string s) ∧ Below w.heap.size w w' := by
  go_enter Tryd.func41, Tryd.ntmps41
  go_wp2_with (go_at_call 50; refine (Tryd.stringslite_Clone s _ hlim).mono ?_; rintro e w2 ⟨rfl, hb⟩)
  go_ret
  exact ⟨rfl, hb⟩
theorem freeOf {w : World} {b : Nat} {c : Array Value} {e : TypeId} (h : w.heap[b]? = some (.cells c e (0, 0))) (i : Nat) : w.frozen? ⟨b, i, none⟩ = false := by
  simp [World.frozen?, h]
theorem heap_set_at {w : World} {b : Nat} {c : Array Value} {e : TypeId} {f : Nat × Nat} (h : w.heap[b]? = some (.cells c e f)) (i : Nat) (u : Value) :
    (w.setCell ⟨b, i, none⟩ u).heap[b]? = some (.cells (c.setIfInBounds i u) e f) := by
  simp [World.setCell, Array.getElem?_modify, h]
def three (w : World) (b o : Nat) (x y z : Value) : World := ((w.setCell ⟨b, o, none⟩ x).setCell ⟨b, o + 1, none⟩ y).setCell ⟨b, o + 2, none⟩ z
theorem three_heap {w : World} {b : Nat} {p q r : Value} {e : TypeId} (h : w.heap[b]? = some (.cells #[p, q, r] e (0, 0))) (x y z : Value) : (three w b 0 x y z).heap[b]? = some (.cells #[x, y, z] e (0, 0)) := by
  unfold three
  exact heap_set_at (heap_set_at (heap_set_at h 0 x) 1 y) 2 z
theorem three_below {B : Nat} {w0 w : World} (hb : Below B w0 w) {b o : Nat} (hB : B ≤ b) (x y z : Value) : Below B w0 (three w b o x y z) := by
  unfold three
  exact ((hb.setCell hB _).setCell hB _).setCell hB _
def zeroT : Array Value := #[.int .i64 0, .string ⟨#[]⟩, .int .i64 0]
theorem tokV_plain (k : Nat) (p : Bs) (at' : Nat) (h3 : ¬ k = 3) (h4 : ¬ k = 4) : tokText k p = p := by simp [tokText, h3, h4]

set_option maxRecDepth 100000 in
theorem token_plain (k : Nat) (s : ByteArray) (at' : Nat) (hk : k ≤ 5) (hs : s.size ≤ 4096) (h3 : ¬ k = 3) (h4 : ¬ k = 4) (w : World) :
    Calls Tryd.prog 23 #[.int .i64 (k : Int), .string s, .int .i64 (at' : Int)] w fun e w' => e = .returned (tokV ⟨k, tokText k s.data.toList, at'⟩) ∧ Below w.heap.size w w' := by
  have h3' : ¬ (k : Int) = 3 := by omega
  have h4' : ¬ (k : Int) = 4 := by omega
  have HT := hid (tokV_plain k s.data.toList at' h3 h4)
  clear h3 h4
  go_enter Tryd.func23, Tryd.ntmps23
  go_wp2_with (go_at_call 41; refine (clone_any s _ (by omega)).mono ?_; rintro e w2 ⟨rfl, hb⟩; have f := (hb.block w.heap.size (by simp)).trans (heap_alloc_new w _); have g0 := cellOf f 0; have g1 := cellOf f 1; have g2 := cellOf f 2; have F0 := freeOf f 0; have F1 := freeOf f 1; have F2 := freeOf f 2; have HF := hid f; clear f)
  have h3 := three_heap HF.out (.int .i64 k) (.string s) (.int .i64 at')
  have hbb : Below w.heap.size w (three w2 w.heap.size 0 (.int .i64 k) (.string s) (.int .i64 at')) := three_below (((Below.refl _ w).alloc (Nat.le_refl _) _).trans (hb.mono (by simp))) (Nat.le_refl _) _ _ _
  have z0 := cellOf h3 0
  have z1 := cellOf h3 1
  have z2 := cellOf h3 2
  clear h3
  simp only [three, Nat.zero_add] at z0 z1 z2 hbb
  refine bodyPost_ret (v := tokV ⟨k, tokText k s.data.toList, at'⟩) (by rw [HT.out]; simp [results, Tryd.results23, go_sem, z0, z1, z2, tokV, list_ofB]) rfl ⟨rfl, hbb⟩

theorem trim_any (x : ByteArray) (w : World) : Calls Tryd.prog 40 #[.string x, .string ⟨#[48]⟩] w fun e w' => ∃ q : ByteArray, e = .returned (.string q) ∧ q.data.toList = x.data.toList.dropWhile (· == 48) ∧ w' = w := by
  refine (Tryd.strings_TrimLeft_one x 48 (by decide) w).mono ?_
  rintro e w' ⟨rfl, rfl⟩
  exact ⟨_, rfl, rfl, rfl⟩
theorem cat_any (a b : ByteArray) (h : a.size + b.size ≤ 140737488355328) : ∃ q : ByteArray, (∀ w : World, (Op.stringOp .add a b).run Tryd.prog w = .ok (.string q) w) ∧ q.data.toList = a.data.toList ++ b.data.toList ∧ q.size = a.size + b.size :=
  ⟨a ++ b, fun w => run_string_add_sum w _ _ (by omega), by simp, ByteArray.size_append⟩
theorem dropWhile_le (p : UInt8 → Bool) : ∀ l : Bs, (l.dropWhile p).length ≤ l.length
  | [] => Nat.le_refl _
  | c :: t => by
    have := dropWhile_le p t
    simp only [List.dropWhile]
    split <;> simp <;> omega
theorem ext_size (s : ByteArray) (a b : Nat) (hb : b ≤ s.size) : (s.extract a b).size = b - a := by
  rw [Lib.size_eq, extract_toList, List.length_drop, List.length_take, ← Lib.size_eq]; omega

set_option maxRecDepth 100000 in
theorem token_int (s : ByteArray) (at' : Nat) (hs : s.size ≤ 4096) (h1 : 1 ≤ s.size) (w : World) :
    Calls Tryd.prog 23 #[.int .i64 3, .string s, .int .i64 (at' : Int)] w fun e w' => e = .returned (tokV ⟨3, tokText 3 s.data.toList, at'⟩) ∧ Below w.heap.size w w' := by
  have wr : IntKind.i64.wrap ((s.size : Int) - 1) = ((s.size - 1 : Nat) : Int) := by
    rw [show ((s.size : Int) - 1) = ((s.size - 1 : Nat) : Int) by omega]
    exact wrap_small _ (by omega) (by omega)
  have hsl1 : ∀ W, (Instr.slice 9 (.string s) none (some (.int .i64 ((s.size - 1 : Nat) : Int))) none).run Tryd.prog W = .ok (.string (s.extract 0 (s.size - 1))) W := fun W => by
    have : ((s.size - 1 : Nat) : Int) ≤ (s.size : Int) := by omega
    go_simp
  have hsl2 : ∀ W, (Instr.slice 9 (.string s) (some (.int .i64 ((s.size - 1 : Nat) : Int))) none none).run Tryd.prog W = .ok (.string (s.extract (s.size - 1) s.size)) W := fun W => by
    have : ((s.size - 1 : Nat) : Int) ≤ (s.size : Int) := by omega
    go_simp
  have H1 := hid h1
  have HS := hid hs
  clear h1 hs
  go_enter Tryd.func23, Tryd.ntmps23
  go_wp2
  go_region_held3 (fun _ => True) (first | trivial | go_keep) ((first
    | (go_at_call 40; (refine (trim_any _ _).mono ?_; rintro e w3 ⟨q, rfl, hq, rfl⟩; obtain ⟨q2, r2, hq2, hz2⟩ := cat_any q (s.extract (s.size - 1) s.size) (by have h5 := ext_size s (s.size - 1) s.size (Nat.le_refl _); have h6 := dropWhile_le (· == 48) (s.extract 0 (s.size - 1)).data.toList; rw [← hq, ← Lib.size_eq, ← Lib.size_eq] at h6; have h7 := ext_size s 0 (s.size - 1) (by omega); have := H1.out; have := HS.out; omega); have HQS : Hid (q.size + (s.extract (s.size - 1) s.size).size ≤ 4096) := hid (by have h5 := ext_size s (s.size - 1) s.size (Nat.le_refl _); have h6 := dropWhile_le (· == 48) (s.extract 0 (s.size - 1)).data.toList; rw [← hq, ← Lib.size_eq, ← Lib.size_eq] at h6; have h7 := ext_size s 0 (s.size - 1) (by omega); have := H1.out; have := HS.out; omega); have HQ := hid hq; have HQ2 := hid hq2; have HZ := hid hz2; clear hq hq2 hz2))))
  go_wp2_with (go_at_call 41; refine (clone_any q2 _ (by have := HZ.out; have := HQS.out; have := HS.out; omega)).mono ?_; rintro e w2 ⟨rfl, hb⟩; have f : w2.heap[w.heap.size]? = some (.cells #[.int .i64 0, .string ⟨#[]⟩, .int .i64 0] 36 (0, 0)) := (hb.block w.heap.size (by simp)).trans (heap_alloc_new w _); have g0 := cellOf f 0; have g1 := cellOf f 1; have g2 := cellOf f 2; have F0 := freeOf f 0; have F1 := freeOf f 1; have F2 := freeOf f 2; have HF := hid f; clear f)
  have h3 := three_heap HF.out (.int .i64 3) (.string q2) (.int .i64 at')
  have hbb : Below w.heap.size w (three w2 w.heap.size 0 (.int .i64 3) (.string q2) (.int .i64 at')) := three_below (((Below.refl _ w).alloc (Nat.le_refl _) _).drew.trans (hb.mono (by simp))) (Nat.le_refl _) _ _ _
  have z0 := cellOf h3 0
  have z1 := cellOf h3 1
  have z2 := cellOf h3 2
  clear h3
  simp only [three, Nat.zero_add] at z0 z1 z2 hbb
  refine bodyPost_ret (v := tokV ⟨3, tokText 3 s.data.toList, at'⟩) (by
    rw [show tokText 3 s.data.toList = q2.data.toList from by rw [HQ2.out, HQ.out, extract_toList, extract_toList, List.take_of_length_le (i := s.size) (by rw [← Lib.size_eq]; omega), List.drop_zero, tokText, if_pos rfl, ← Lib.size_eq]]
    simp [results, Tryd.results23, go_sem, z0, z1, z2, tokV, list_ofB]) rfl ⟨rfl, hbb⟩
theorem unq_len : ∀ (n : Nat) (l : Bs), l.length ≤ n → (unq l).length ≤ l.length
  | _, [], _ => Nat.le_refl _
  | _, [c], _ => Nat.le_refl _
  | 0, c :: d :: t, h => by simp at h
  | n + 1, c :: d :: t, h => by
    simp only [List.length_cons] at h
    unfold unq
    split
    · have := unq_len n t (by omega); simp; omega
    · have := unq_len n (d :: t) (by simp; omega); simp at this ⊢; omega
theorem unq_any (x : ByteArray) (w : World) (hx : x.size ≤ 4096) (hm : MX w) : Calls Tryd.prog 30 #[.string x, .string ⟨#[34, 34]⟩, .string ⟨#[34]⟩] w fun e w' => ∃ q : ByteArray, e = .returned (.string q) ∧ q.data.toList = unq x.data.toList ∧ Below w.heap.size w w' := by
  obtain ⟨m, hm⟩ := hm
  refine (Tryd.strings_ReplaceAll x ⟨#[34, 34]⟩ ⟨#[34]⟩ m w (by omega) hm (by decide) ?_).mono ?_
  · have := Lib.countB_le ⟨#[34, 34]⟩ (by decide) x.size x (Nat.le_refl _)
    have e : (⟨#[34]⟩ : ByteArray).size = 1 := rfl
    rw [e]; omega
  · rintro e w' ⟨rfl, h⟩
    exact ⟨_, rfl, by rw [show (ByteArray.mk #[34, 34]).data.toList = [34, 34] from rfl, show (ByteArray.mk #[34]).data.toList = [34] from rfl, replace_unq], h⟩
set_option maxRecDepth 100000 in
theorem token_text (s : ByteArray) (at' : Nat) (hs : s.size ≤ 4096) (h1 : 2 ≤ s.size) (w : World) (hm : MX w) :
    Calls Tryd.prog 23 #[.int .i64 4, .string s, .int .i64 (at' : Int)] w fun e w' => e = .returned (tokV ⟨4, tokText 4 s.data.toList, at'⟩) ∧ Below w.heap.size w w' := by
  have wr : IntKind.i64.wrap ((s.size : Int) - 1) = ((s.size - 1 : Nat) : Int) := by
    rw [show ((s.size : Int) - 1) = ((s.size - 1 : Nat) : Int) by omega]
    exact wrap_small _ (by omega) (by omega)
  have hsl1 : ∀ W, (Instr.slice 9 (.string s) (some (.int .i64 1)) (some (.int .i64 ((s.size - 1 : Nat) : Int))) none).run Tryd.prog W = .ok (.string (s.extract 1 (s.size - 1))) W := fun W => by
    have : ((s.size - 1 : Nat) : Int) ≤ (s.size : Int) := by omega
    have : (1 : Int) ≤ ((s.size - 1 : Nat) : Int) := by omega
    go_simp
  have H1 := hid h1
  have HS := hid hs
  have HM := hid hm
  clear h1 hs hm
  go_enter Tryd.func23, Tryd.ntmps23
  go_wp2_with (first
    | (go_at_call 30; (refine (unq_any _ _ (by have h5 := ext_size s 1 (s.size - 1) (by omega); have := HS.out; omega) (HM.out.below HM.out.lt ((Below.refl _ w).alloc (Nat.le_refl _) _))).mono ?_; rintro e w4 ⟨q2, rfl, hq, hb4⟩; have HQ := hid hq; have HB4 := hid hb4; have HZ : Hid (q2.size ≤ s.size) := hid (by have h5 := ext_size s 1 (s.size - 1) (by omega); have h6 := unq_len _ (s.extract 1 (s.size - 1)).data.toList (Nat.le_refl _); rw [← hq, ← Lib.size_eq, ← Lib.size_eq] at h6; omega); clear hq hb4))
    | (go_at_call 41; refine (clone_any q2 _ (by have := HZ.out; have := HS.out; omega)).mono ?_; rintro e w2 ⟨rfl, hb⟩; have f : w2.heap[w.heap.size]? = some (.cells #[.int .i64 0, .string ⟨#[]⟩, .int .i64 0] 36 (0, 0)) := (hb.block w.heap.size (by have := HB4.out.size; simp at this; omega)).trans ((HB4.out.block w.heap.size (by simp)).trans (heap_alloc_new w _)); have g0 := cellOf f 0; have g1 := cellOf f 1; have g2 := cellOf f 2; have F0 := freeOf f 0; have F1 := freeOf f 1; have F2 := freeOf f 2; have HF := hid f; clear f))
  have h3 := three_heap HF.out (.int .i64 4) (.string q2) (.int .i64 at')
  have hbb : Below w.heap.size w (three w2 w.heap.size 0 (.int .i64 4) (.string q2) (.int .i64 at')) := three_below ((((Below.refl _ w).alloc (Nat.le_refl _) _).trans (HB4.out.mono (by simp))).trans (hb.mono (by have := HB4.out.size; simp at this; omega))) (Nat.le_refl _) _ _ _
  have z0 := cellOf h3 0
  have z1 := cellOf h3 1
  have z2 := cellOf h3 2
  clear h3
  simp only [three, Nat.zero_add] at z0 z1 z2 hbb
  refine bodyPost_ret (v := tokV ⟨4, tokText 4 s.data.toList, at'⟩) (by
    rw [show tokText 4 s.data.toList = q2.data.toList from by rw [HQ.out, extract_toList, tokText, if_neg (by decide), if_pos rfl, ← Lib.size_eq]]
    simp [results, Tryd.results23, go_sem, z0, z1, z2, tokV, list_ofB]) rfl ⟨rfl, hbb⟩
end Go.Proofs.YtebhmalegdpibaaDoor
