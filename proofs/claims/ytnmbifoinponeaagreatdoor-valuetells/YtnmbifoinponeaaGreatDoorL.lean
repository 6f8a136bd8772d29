/- Print: what is written, and the ways without fields. -/
import Derived.Test.YtnmbifoinponeaaGreatDoorC
import Derived.Test.YtnmbifoinponeaaGreatDoorShelf
import Derived.Lib.AppendIntMem
namespace Go.Proofs.YtnmbifoinponeaaGreatDoor
open Go.RowKit Go.Deep Go.Shelf
set_option linter.unusedVariables false
set_option linter.unusedSimpArgs false
attribute [local go_sem] Oper.semAt_some

def itoB (n : Int) : ByteArray := ⟨(Lib.itoa n).toArray⟩
def quoL (s : ByteArray) : List UInt8 := Lib.replaceAll s.data.toList [34] [34, 34]
/- Rows with a comma between. -/
def joinC (l : List (List UInt8)) : List UInt8 := (l.mapIdx fun i x => if i = 0 then x else 44 :: 32 :: x).flatten
theorem joinC_snoc (l : List (List UInt8)) (x : List UInt8) : joinC (l ++ [x]) = joinC l ++ (if l.length = 0 then x else 44 :: 32 :: x) := by
  simp [joinC, List.mapIdx_append]
def prH (h : Hd) (sub : List (List UInt8)) : List UInt8 :=
  if h.kind = 1 then Lib.itoa h.int
  else if h.kind = 2 then [34] ++ quoL h.text ++ [34]
  else if h.kind = 3 then Lib.formatBool (h.int == 1)
  else if h.kind = 4 then ([35] ++ Lib.itoa h.rc ++ [123]) ++ joinC sub ++ [125]
  else [63]
def prT : (k : Nat) → VT k → List UInt8
  | 0, _ => []
  | k + 1, t => prH t.1 (t.2.map (prT k))
/- Texts that aren't too long. -/
def Tx : (k : Nat) → VT k → Prop
  | 0, _ => True
  | k + 1, t => t.1.text.size ≤ 1000000 ∧ ∀ u ∈ t.2, Tx k u

/- What the library's tables hold. -/
structure Env (w : World) : Prop where
  tab : Lib.TabIs Tryz.prog w "internal/strconv.uint64pow10" .u64 Lib.pow10Tab
  max : ∃ m : Int, w.cell? ⟨1, 0, none⟩ = some (.int .i64 m)
theorem Env.below {w w' : World} (h : Env w) (k : Below w.heap.size w w') : Env w' :=
  ⟨Lib.tabBelow_of_tabIs h.tab w' k, by
    obtain ⟨m, hm⟩ := h.max
    exact ⟨m, (k.cell (p := ⟨1, 0, none⟩) (World.block_lt_of_cell? w _ hm)).trans hm⟩⟩

abbrev PB (B b : Nat) (l : List UInt8) (w : World) : Prop := Lib.IsBuilderF 68 5 B b (Lib.byteCells l) w
theorem ownsRowF.same {w w' : World} {B : Nat} {e : TypeId} {v : Value} {n : Nat} {xs : List Value} (h : w.ownsRowF B e 1 v n xs) (hs : ∀ g, g < w.heap.size → w'.heap[g]? = w.heap[g]?) : w'.ownsRowF B e 1 v n xs := by
  refine ⟨h.1, ?_⟩
  rcases h.2 with hn | ⟨g, cap, cur, fz, rfl, hb, hgg, rest⟩
  · exact .inl hn
  · exact .inr ⟨g, cap, cur, fz, rfl, hb, (hs g (Array.getElem?_eq_some_iff.1 hgg).1).trans hgg, rest⟩
theorem builderF.same {w w' : World} {B b : Nat} {p : Value} {bs : List Value} (h : Lib.BuilderAtF 68 5 B b p bs w) (hs : ∀ g, g < w.heap.size → w'.heap[g]? = w.heap[g]?) : Lib.BuilderAtF 68 5 B b p bs w' := by
  have hlt := h.lt
  obtain ⟨hB, v, hb, hown, hne⟩ := h
  exact ⟨hB, v, (hs b hlt).trans hb, ownsRowF.same hown hs, hne⟩
theorem PB.same {w w' : World} {B b : Nat} {l : List UInt8} (h : PB B b l w) (hs : ∀ g, g < w.heap.size → w'.heap[g]? = w.heap[g]?) : PB B b l w' := by
  rcases h with h | h
  · exact .inl (builderF.same h hs)
  · exact .inr (builderF.same h hs)
theorem PB.below {w w' : World} {B b : Nat} {l : List UInt8} (h : PB B b l w) (k : Below w.heap.size w w') : PB B b l w' := h.same fun g hg => k.block g hg
theorem PB.lt {w : World} {B b : Nat} {l : List UInt8} (h : PB B b l w) : b < w.heap.size := by
  rcases h with h | h
  · exact h.lt
  · exact h.lt
theorem PB.ge {w : World} {B b : Nat} {l : List UInt8} (h : PB B b l w) : B ≤ b := by
  rcases h with h | h
  · exact h.1
  · exact h.1
theorem PB.kind {w : World} {B b : Nat} {l : List UInt8} (h : PB B b l w) : ∃ c, w.heap[b]? = some (.cells c 68 (0, 0)) := by
  rcases h with ⟨_, v, h, _⟩ | ⟨_, v, h, _⟩
  · exact ⟨_, h⟩
  · exact ⟨_, h⟩
theorem byteCells_app (l m : List UInt8) : Lib.byteCells l ++ Lib.byteCells m = Lib.byteCells (l ++ m) := by simp [Lib.byteCells]

theorem ws_any (B b : Nat) (l : List UInt8) (s : ByteArray) (w : World) (h : PB B b l w) (hlen : l.length + s.size ≤ 140737488355328) (hBw : B ≤ w.heap.size) :
    Calls Tryz.prog 55 #[.pointer (some ⟨b, 0, none⟩), .string s] w fun e w' => e = .returned (.tuple #[.int .i64 s.size, .nilIface]) ∧ PB B b (l ++ s.data.toList) w' ∧ Below B w w' ∧ Lib.OthersKept 5 (some b) w w' := by
  refine (Tryz.Builder_WriteString_k B b (Lib.byteCells l) s w h (by simpa [Lib.byteCells] using hlen) hBw).mono ?_
  rintro e w' ⟨rfl, h1, h2, h3⟩
  refine ⟨rfl, .inr ?_, h2, h3⟩
  have : Lib.byteCells l ++ Lib.strCells s = Lib.byteCells (l ++ s.data.toList) := by simp [Lib.byteCells, Lib.strCells]
  rw [← this]; exact h1
theorem fi_any (n : Int) (h0 : -9223372036854775808 ≤ n) (h1 : n ≤ 9223372036854775807) (w : World) (E : Env w) :
    Calls Tryz.prog 56 #[.int .i64 n, .int .i64 10] w fun e w' => e = .returned (.string (itoB n)) ∧ Below w.heap.size w w' := by
  refine (Tryz.strconv_FormatInt_10 n h0 h1 w E.tab).mono ?_
  rintro e w' ⟨rfl, k, os, rfl⟩
  exact ⟨rfl, Lib.below_grow _ w (Nat.le_refl _) k os⟩
theorem it_any (n : Int) (h0 : -9223372036854775808 ≤ n) (h1 : n ≤ 9223372036854775807) (w : World) (E : Env w) :
    Calls Tryz.prog 59 #[.int .i64 n] w fun e w' => e = .returned (.string (itoB n)) ∧ Below w.heap.size w w' := by
  refine (Tryz.strconv_Itoa n h0 h1 w E.tab).mono ?_
  rintro e w' ⟨rfl, k, os, rfl⟩
  exact ⟨rfl, Lib.below_grow _ w (Nat.le_refl _) k os⟩
theorem ra_any (s : ByteArray) (w : World) (E : Env w) (hs : s.size ≤ 1000000) :
    Calls Tryz.prog 57 #[.string s, .string ⟨#[34]⟩, .string ⟨#[34, 34]⟩] w fun e w' => ∃ q : ByteArray, e = .returned (.string q) ∧ q.data.toList = quoL s ∧ Below w.heap.size w w' := by
  obtain ⟨m, hm⟩ := E.max
  refine (Tryz.strings_ReplaceAll s ⟨#[34]⟩ ⟨#[34, 34]⟩ m w (by omega) hm (by decide) ?_).mono ?_
  · have := Lib.countB_le ⟨#[34]⟩ (by decide) s.size s (Nat.le_refl _)
    have e : (⟨#[34, 34]⟩ : ByteArray).size = 2 := rfl
    rw [e]; omega
  · rintro e w' ⟨rfl, h⟩
    exact ⟨_, rfl, rfl, h⟩
theorem fb_any (x : Bool) (w : World) : Calls Tryz.prog 58 #[.bool x] w fun e w' => e = .returned (.string ⟨(Lib.formatBool x).toArray⟩) ∧ Below w.heap.size w w' := by
  refine (Tryz.strconv_FormatBool x w).mono ?_
  rintro e w' ⟨rfl, rfl⟩
  exact ⟨rfl, Below.refl _ _⟩
/- Something ahead, something behind. -/
theorem around (a q b : ByteArray) (m : List UInt8) (hq : q.data.toList = m) (hm : a.size + m.length + b.size ≤ 140737488355328) : ∃ q1 q2 : ByteArray, (∀ w : World, (Op.stringOp .add a q).run Tryz.prog w = .ok (.string q1) w) ∧ (∀ w : World, (Op.stringOp .add q1 b).run Tryz.prog w = .ok (.string q2) w) ∧ q2.data.toList = a.data.toList ++ m ++ b.data.toList ∧ q2.size = a.size + m.length + b.size := by
  have hs : q.size = m.length := by rw [← hq, Array.length_toList]; rfl
  have h1 : (a ++ q).size = a.size + m.length := by rw [ByteArray.size_append, hs]
  refine ⟨a ++ q, a ++ q ++ b, fun w => run_string_add_sum w _ _ (by omega), fun w => run_string_add_sum w _ _ (by omega), ?_, by rw [ByteArray.size_append, h1]⟩
  simp [hq]
end Go.Proofs.YtnmbifoinponeaaGreatDoor
