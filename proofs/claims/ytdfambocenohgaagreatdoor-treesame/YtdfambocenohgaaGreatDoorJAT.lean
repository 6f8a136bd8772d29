/- The printer's builder: a strings.Builder within a struct of our own. -/
import Derived.Test.YtdfambocenohgaaGreatDoorJAS
import Derived.Lib.UnsafeStr
import Derived.Lib.Builder
import Derived.Lib.AppendIntMem
namespace Go.Proofs.YtdfambocenohgaaGreatDoor
open Go.RowKit Go.Deep
set_option linter.unusedVariables false
set_option linter.unusedSimpArgs false

theorem lies63 : liesAt Tryz.prog Tryz.prog.depth 63 (4 / Tryz.prog.cellsOf 63) 0 61 1 = true := by kernel_rfl
theorem info61 : (Tryz.prog.info? 61).map (fun i => i.size) = some 2 := by kernel_rfl
set_option maxRecDepth 100000 in
theorem copy_none (w : World) (b : Nat) (v o m : Value) (h : w.heap[b]? = some (.cells #[.pointer none, v, o, m] 63 (0, 0))) : Calls Tryz.prog 129 #[.pointer (some ⟨b, 0, none⟩)] w fun e w' => e = .returned (.tuple #[]) ∧ w' = w.setCell ⟨b, 0, none⟩ (.pointer (some ⟨b, 0, none⟩)) := by
  have c0 := cellT h 0
  have f0 := freeT h 0
  have hsh : w.shape? b = some (63, 4) := by simp [World.shape?, h]
  obtain ⟨j, hj, hjs⟩ := Option.map_eq_some_iff.1 info61
  simp only [List.getElem?_toArray, List.getElem?_cons_zero] at c0
  go_enter Tryz.func129, Tryz.ntmps129
  go_wp2
  rw [Lib.run_to_unsafe w ⟨b, 0, none⟩ Tryz.underlying59 Tryz.underlying172 hj (by rw [hjs]; decide) hsh (Nat.zero_lt_succ 3)]
  simp only [Result.andThen]
  rw [Oper.upon_value]
  go_wp2
  rw [run_callFunc_extern Tryz.func138 (by kernel_rfl) (by kernel_rfl) (by kernel_rfl) (e := Extern.AbiNoEscape.same) (by kernel_rfl)]
  rw [Lib.run_noEscape]
  simp only [Result.andThen]
  rw [Oper.upon_value]
  go_wp2
  rw [Lib.run_from_unsafe w ⟨b, 0, none⟩ Tryz.underlying172 Tryz.underlying59 hj hsh lies63]
  simp only [Result.andThen]
  rw [Oper.upon_value]
  go_wp2
  go_end0
  exact ⟨rfl, rfl⟩
set_option maxRecDepth 100000 in
theorem copy_self (w : World) (b : Nat) (v o m : Value) (h : w.heap[b]? = some (.cells #[.pointer (some ⟨b, 0, none⟩), v, o, m] 63 (0, 0))) : Calls Tryz.prog 129 #[.pointer (some ⟨b, 0, none⟩)] w fun e w' => e = .returned (.tuple #[]) ∧ w' = w := by
  have c0 := cellT h 0
  obtain ⟨j, hj, hjs⟩ := Option.map_eq_some_iff.1 info61
  simp only [List.getElem?_toArray, List.getElem?_cons_zero] at c0
  go_enter Tryz.func129, Tryz.ntmps129
  go_wp2
  rw [Lib.run_neq_ptr_same w _ Tryz.underlying59 hj]
  go_wp2
  go_end0
  exact ⟨rfl, rfl⟩
/- Rows of bytes. -/
def BRow (w : World) (B : Nat) (v : Value) (l : List UInt8) : Prop := w.ownsRow B 5 1 v l.length (Lib.byteCells l)
theorem BRow.nil (w : World) (B : Nat) : BRow w B (.slice none 0 0) [] := World.ownsRow_nil w B 5 1
theorem BRow.own {w : World} {B : Nat} {v : Value} {l : List UInt8} (h : BRow w B v l) : ∀ k, v.ownBlock = some k → B ≤ k ∧ k < w.heap.size := World.ownsRow.lt h
theorem BRow.same {w w' : World} {B : Nat} {v : Value} {l : List UInt8} (h : BRow w B v l) (e : ∀ g, v.ownBlock = some g → w'.heap[g]? = w.heap[g]?) : BRow w' B v l := by
  refine ⟨h.1, ?_⟩
  rcases h.2 with hn | ⟨g, cap, cur, rfl, hb, hgg, rest⟩
  · exact .inl hn
  · exact .inr ⟨g, cap, cur, rfl, hb, (e g rfl).trans hgg, rest⟩
theorem BRow.cells {w : World} {B : Nat} {v : Value} {l : List UInt8} (h : BRow w B v l) {g : Nat} (e : v.ownBlock = some g) : ∃ cur, w.heap[g]? = some (.cells cur 5 (0, 0)) := by
  rcases h.2 with ⟨rfl, _⟩ | ⟨g', cap, cur, rfl, hb, hgg, rest⟩
  · cases e
  · cases e; exact ⟨_, hgg⟩
theorem BRow.form {w : World} {B : Nat} {v : Value} {l : List UInt8} (h : BRow w B v l) : ∃ a cap, v = .slice a l.length cap := by
  rcases h.2 with ⟨rfl, hn⟩ | ⟨g, cap, cur, rfl, hb, hgg, hc, rest⟩
  · exact ⟨none, 0, by rw [hn]⟩
  · exact ⟨_, _, rfl⟩
theorem info5 : (Tryz.prog.info? 5).map (fun i => (i.zero, i.size, i.bytes)) = some (some (.int .u8 0), 1, 1) := by kernel_rfl
theorem run_appS (w : World) (ty : TypeId) (B : Nat) (v : Value) (l : List UInt8) (s : ByteArray) (h : BRow w B v l) (hB : B ≤ w.heap.size) (hl : l.length ≤ 1099511627776) (hl2 : s.size ≤ 1099511627776) :
    ∃ v' w', (Builtin.append_ #[44, 9] ty #[v, .string s]).run Tryz.prog w = .ok v' w' ∧ BRow w' B v' (l ++ s.data.toList) ∧ w.grownBy w' v.ownBlock := by
  obtain ⟨i0, hi, hz⟩ := Option.map_eq_some_iff.1 info5
  simp only [Prod.mk.injEq] at hz
  obtain ⟨hz0, hz1, hz2⟩ := hz
  obtain ⟨v', w', hrun, hown, hg, hiff⟩ := Lib.run_append_own_string (P := Tryz.prog) w B 44 9 ty 5 i0 Tryz.underlying44 Tryz.underlying9 hi hz0 hz1 hz2 v l.length (Lib.byteCells l) h s (by unfold maxLen; omega) (by omega) hB
  refine ⟨v', w', hrun, ?_, hg⟩
  unfold BRow
  have e1 : (l ++ s.data.toList).length = l.length + s.size := by rw [List.length_append, Lib.size_eq]
  have e2 : Lib.byteCells (l ++ s.data.toList) = Lib.byteCells l ++ Lib.strCells s := by rw [Lib.strCells_eq]; simp [Lib.byteCells]
  rw [e1, e2]
  exact hown
theorem wpList_appS {ops : Array Oper} {rest : List Oper} {o : Oper} {a : Act} {Q : Exit → Act → World → Prop} (w : World) (hgd : o.guard = none) (sl x : Operand)
    (ho : o.op = .call { callee := .builtin .append, args := #[sl, x], argTypes := #[44, 9] }) (v : Value) (s : ByteArray) (hs : a.eval sl = v) (hx : a.eval x = .string s)
    (B : Nat) (l : List UInt8) (h : BRow w B v l) (hB : B ≤ w.heap.size) (hl : l.length ≤ 1099511627776) (hl2 : s.size ≤ 1099511627776)
    (k : ∀ v' w', BRow w' B v' (l ++ s.data.toList) → w.grownBy w' v.ownBlock → wpList Tryz.prog ops Q rest (a.put o.dst v') w') :
    wpList Tryz.prog ops Q (o :: rest) a w := by
  refine wpList_plain hgd fun K hK => ?_
  obtain ⟨v', w', hr, h2, h3⟩ := run_appS w o.type B v l s h hB hl hl2
  unfold Oper.wp execOp
  simp only [ho, resolve, invoke, builtin, Sem.run_bind, Sem.run_pure, Result.andThen_ok, List.map_toArray, List.map_cons, List.map_nil, hs, hx, hr]
  exact hK _ _ (k v' w' h2 h3)
/- The printer at block b: what is written, what is open, the most. -/
structure Prn (w : World) (B b : Nat) (l : List UInt8) (op mo : Nat) : Prop where
  ge : B ≤ b
  ex : ∃ p v, (p = .pointer none ∨ p = .pointer (some ⟨b, 0, none⟩)) ∧ w.heap[b]? = some (.cells #[p, v, .int .i64 (op : Int), .int .i64 (mo : Int)] 63 (0, 0)) ∧ BRow w B v l
/- What a writing call leaves as it is: all that is no row of bytes, but for the printer. -/
def Kpt (B b : Nat) (w w' : World) : Prop := Below B w w' ∧ ∀ (k : Nat) (c : Array Value) (t : TypeId), k ≠ b → t ≠ 5 → w.heap[k]? = some (.cells c t (0, 0)) → w'.heap[k]? = some (.cells c t (0, 0))
theorem Kpt.refl (B b : Nat) (w : World) : Kpt B b w w := ⟨Below.refl _ _, fun _ _ _ _ _ h => h⟩
theorem Kpt.trans {B b : Nat} {x y z : World} (h : Kpt B b x y) (k : Kpt B b y z) : Kpt B b x z := ⟨h.1.trans k.1, fun n c t h1 h2 h3 => k.2 n c t h1 h2 (h.2 n c t h1 h2 h3)⟩
theorem Kpt.below {B b : Nat} {x y : World} (h : Below x.heap.size x y) (hB : B ≤ x.heap.size) : Kpt B b x y := ⟨h.mono hB, fun n c t _ _ h3 => (h.block n (Array.getElem?_eq_some_iff.1 h3).1).trans h3⟩
theorem Prn.below {w w' : World} {B b : Nat} {l : List UInt8} {op mo : Nat} (h : Prn w B b l op mo) (k : Below w.heap.size w w') : Prn w' B b l op mo := by
  obtain ⟨hge, p, v, hp, hb, hr⟩ := h
  exact ⟨hge, p, v, hp, (k.block _ (Array.getElem?_eq_some_iff.1 hb).1).trans hb, hr.same fun g e => k.block g (hr.own g e).2⟩
theorem Prn.lt {w : World} {B b : Nat} {l : List UInt8} {op mo : Nat} (h : Prn w B b l op mo) : b < w.heap.size := by
  obtain ⟨hge, p, v, hp, hb, hr⟩ := h
  exact (Array.getElem?_eq_some_iff.1 hb).1
theorem row_ne {w : World} {B b : Nat} {c : Array Value} {v : Value} {l : List UInt8} (hb : w.heap[b]? = some (.cells c 63 (0, 0))) (hr : BRow w B v l) : ∀ g, v.ownBlock = some g → g ≠ b := by
  rintro g e rfl
  obtain ⟨cur, hc⟩ := hr.cells e
  rw [hb] at hc; cases hc
theorem four_set {w : World} {b : Nat} {c : Array Value} {t : TypeId} {f : Nat × Nat} (h : w.heap[b]? = some (.cells c t f)) (i : Nat) (u : Value) : (w.setCell ⟨b, i, none⟩ u).heap[b]? = some (.cells (c.setIfInBounds i u) t f) := by
  simp [World.setCell, Array.getElem?_modify, h]
theorem Prn.kept {w : World} {B b : Nat} {p v o m : Value} {l : List UInt8} (hge : B ≤ b) (hb : w.heap[b]? = some (.cells #[p, v, o, m] 63 (0, 0))) (i : Nat) (u : Value) : Kpt B b w (w.setCell ⟨b, i, none⟩ u) :=
  ⟨(Below.refl B w).setCell (p := ⟨b, i, none⟩) hge _, fun k c t h1 _ h3 => (Below.heap_setCell _ _ _ _ h1).trans h3⟩
theorem BRow.setB {w : World} {B b : Nat} {c : Array Value} {v : Value} {l : List UInt8} (hb : w.heap[b]? = some (.cells c 63 (0, 0))) (hr : BRow w B v l) (i : Nat) (u : Value) : BRow (w.setCell ⟨b, i, none⟩ u) B v l :=
  hr.same fun g e => Below.heap_setCell _ _ _ _ (row_ne hb hr g e)
theorem copy_any (w : World) (B b : Nat) (p v o m : Value) (l : List UInt8) (hge : B ≤ b) (hp : p = .pointer none ∨ p = .pointer (some ⟨b, 0, none⟩)) (hb : w.heap[b]? = some (.cells #[p, v, o, m] 63 (0, 0))) (hr : BRow w B v l) :
    Calls Tryz.prog 129 #[.pointer (some ⟨b, 0, none⟩)] w fun e w' => e = .returned (.tuple #[]) ∧ w'.heap[b]? = some (.cells #[.pointer (some ⟨b, 0, none⟩), v, o, m] 63 (0, 0)) ∧ BRow w' B v l ∧ Kpt B b w w' ∧ w.heap.size ≤ w'.heap.size := by
  rcases hp with rfl | rfl
  · refine (copy_none w b v o m hb).mono ?_
    rintro e w' ⟨rfl, rfl⟩
    exact ⟨rfl, four_set hb 0 _, hr.setB hb 0 _, Prn.kept (l := l) hge hb 0 _, by simp [World.setCell]⟩
  · refine (copy_self w b v o m hb).mono ?_
    rintro e w' ⟨rfl, rfl⟩
    exact ⟨rfl, hb, hr, Kpt.refl _ _ _, Nat.le_refl _⟩
set_option maxRecDepth 100000 in
theorem ws_any (w : World) (B b : Nat) (l : List UInt8) (op mo : Nat) (h : Prn w B b l op mo) (s : ByteArray) (hB : B ≤ w.heap.size) (hl : l.length + s.size ≤ 1000000000) :
    Calls Tryz.prog 122 #[.pointer (some ⟨b, 0, none⟩), .string s] w fun e w' => e = .returned (.tuple #[.int .i64 s.size, .nilIface]) ∧ Prn w' B b (l ++ s.data.toList) op mo ∧ Kpt B b w w' := by
  obtain ⟨hge, p, v, hp, hb, hr⟩ := h
  have K := hid (copy_any w B b p v _ _ l hge hp hb hr)
  have hs9 : (s.size : Int) ≤ 1000000000 := by omega
  have HL := hid hl
  obtain ⟨a, cap, rfl⟩ := hr.form
  clear hr hb hp
  go_enter Tryz.func122, Tryz.ntmps122
  go_wp2_with (first
    | (go_at_call 129; (refine (Hid.out K).mono ?_; rintro e w1 ⟨rfl, hb1, hr1, hk1, hs1⟩; have c1 := cellT hb1 1; simp only [List.getElem?_toArray, List.getElem?_cons_zero, List.getElem?_cons_succ] at c1; have HR := hid hr1; have HB := hid hb1; have HK := hid hk1; have HS := hid hs1; clear hr1 hb1 hk1 hs1))
    | (at_builtin; refine wpList_appS _ rfl _ _ rfl _ _ (by rfl) (by rfl) B l HR.out (Nat.le_trans hB HS.out) (by omega) (by omega) ?_; intro v2 w2 hr2 hg2; have hb2 : w2.heap[b]? = _ := (hg2.block b (Array.getElem?_eq_some_iff.1 HB.out).1 (fun e => row_ne HB.out HR.out b e.symm rfl)).trans HB.out; have d1 := cellT hb2 1; have f1 := freeT hb2 1; simp only [List.getElem?_toArray, List.getElem?_cons_zero, List.getElem?_cons_succ] at d1; obtain ⟨a2, cap2, rfl⟩ := hr2.form; have HR2 := hid hr2; have HG2 := hid hg2; have HB2 := hid hb2; clear hr2 hg2 hb2))
  refine bodyPost_ret (v := .tuple #[.int .i64 s.size, .nilIface]) (by simp [results, Tryz.results122, go_sem]) rfl ?_
  have e1 : (l ++ s.data.toList).length = l.length + s.size := by rw [List.length_append, Lib.size_eq]
  rw [← e1]
  refine ⟨rfl, ⟨hge, _, _, .inr rfl, four_set HB2.out 1 _, HR2.out.setB HB2.out 1 _⟩, HK.out.trans (Kpt.trans (y := w2) ⟨?_, ?_⟩ (Prn.kept (l := l) hge HB2.out 1 _))⟩
  · exact (Below.refl B w1).grown HG2.out (Nat.le_trans hB HS.out) (fun k e => (HR.out.own k e).1)
  · intro k c t h1 h2 h3
    refine (HG2.out.block k (Array.getElem?_eq_some_iff.1 h3).1 (fun e => ?_)).trans h3
    obtain ⟨cur, hc⟩ := HR.out.cells e.symm
    rw [h3] at hc; cases hc; exact h2 rfl
def catL (ts : List ByteArray) : List UInt8 := ts.flatMap fun t => t.data.toList
theorem catL_take {ts : List ByteArray} {i : Nat} {t : ByteArray} (h : ts[i]? = some t) : catL (ts.take (i + 1)) = catL (ts.take i) ++ t.data.toList := by
  unfold catL
  rw [List.take_add_one, h, List.flatMap_append]; simp
theorem catL_le {ts : List ByteArray} (i : Nat) : (catL (ts.take i)).length ≤ (catL ts).length := by
  have : catL ts = catL (ts.take i) ++ catL (ts.drop i) := by unfold catL; rw [← List.flatMap_append, List.take_append_drop]
  rw [this, List.length_append]; omega
set_option maxRecDepth 100000 in
set_option maxHeartbeats 1000000 in
theorem write_any (w : World) (B b : Nat) (l : List UInt8) (op mo : Nat) (h : Prn w B b l op mo) (X n cap : Nat) (ts : List ByteArray) (hX : X ≠ b) (hx : w.heap[X]? = some (.cells (ts.map Value.string).toArray 9 (0, 0))) (hn : n = ts.length) (hn1 : n ≤ 100) (hB : B ≤ w.heap.size) (hl : l.length + (catL ts).length ≤ 1000000000) :
    Calls Tryz.prog 99 #[.pointer (some ⟨b, 0, none⟩), .slice (some ⟨X, 0, none⟩) n cap] w fun e w' => e = .returned (.tuple #[]) ∧ Prn w' B b (l ++ catL ts) op mo ∧ Kpt B b w w' := by
  have hnI : (n : Int) ≤ 100 := by omega
  have HP := hid h
  have HXb := hid hx
  have HN := hid hn
  have HL := hid hl
  clear h hx hn hl
  go_enter Tryz.func99, Tryz.ntmps99
  go_wp2
  go_loopg [8] n (fun g x wr => ∃ i : Nat, i + g = n ∧ x = .int .i64 (i : Int) ∧ Prn wr B b (l ++ catL (ts.take i)) op mo ∧ Kpt B b w wr)
  case atStart => exact ⟨0, by omega, rfl, by simpa [catL] using HP.out, Kpt.refl _ _ _⟩
  case round =>
    obtain ⟨i, hi, rfl, hp, hk⟩ := hrel
    cases gk with
    | zero =>
      have hin : i = n := by omega
      subst hin
      clear hi
      go_wp2
      go_end0
      rw [HN.out, List.take_of_length_le (Nat.le_refl _)] at hp
      exact ⟨rfl, hp, hk⟩
    | succ g =>
      have hil : (i : Int) < (n : Int) := by omega
      have hi0 : (0 : Int) ≤ (i : Int) := by omega
      obtain ⟨t, ht⟩ : ∃ t, ts[i]? = some t := ⟨ts[i]'(by rw [← HN.out]; omega), List.getElem?_eq_getElem _⟩
      have hc := cellT (hk.2 X _ 9 hX (by decide) HXb.out) i
      have hc2 : wr.cell? ⟨X, i, none⟩ = some (.string t) := by rw [hc]; simp [ht]
      have hlen : (l ++ catL (ts.take i)).length + t.size ≤ 1000000000 := by
        have h1 := catL_le (ts := ts) (i + 1)
        rw [catL_take ht, List.length_append, ← Lib.size_eq] at h1
        have := HL.out
        rw [List.length_append]; omega
      have K := hid (ws_any wr B b _ op mo hp t (Nat.le_trans hB hk.1.size) hlen)
      have HK := hid hk
      have HT := hid (catL_take ht)
      have Hi := hid hi
      clear hp hk hc ht hlen hi
      go_wp2_with (go_at_call 122; (refine (Hid.out K).mono ?_; rintro e w1 ⟨rfl, hp1, hk1⟩))
      go_roundg g
      case measure => omega
      case rel => exact ⟨i + 1, by have := Hi.out; omega, by go_num, by rw [HT.out, ← List.append_assoc]; exact hp1, HK.out.trans hk1⟩
end Go.Proofs.YtdfambocenohgaaGreatDoor

namespace Go.Proofs.YtdfambocenohgaaGreatDoor
open Go.RowKit Go.Deep
set_option linter.unusedVariables false
set_option linter.unusedSimpArgs false

theorem max2_run (t : TypeId) (ts : Array TypeId) (a b : Nat) (w : World) : (Builtin.max_ ts t #[.int .i64 (a : Int), .int .i64 (b : Int)]).run Tryz.prog w = .ok (.int .i64 ((max a b : Nat) : Int)) w := by
  simp [Builtin.max_, List.foldlM, max2_nat]
/- What a printing call leaves: m more bytes, so many open, the most. -/
def PrP (w : World) (B b : Nat) (m : List UInt8) (op mo : Nat) (e : Ending) (w' : World) : Prop := e = .returned (.tuple #[]) ∧ Prn w' B b m op mo ∧ Kpt B b w w'
theorem Prn.num {w : World} {B b : Nat} {l : List UInt8} {op mo : Nat} (h : Prn w B b l op mo) (op' : Nat) : Prn (w.setCell ⟨b, 2, none⟩ (.int .i64 (op' : Int))) B b l op' mo ∧ Kpt B b w (w.setCell ⟨b, 2, none⟩ (.int .i64 (op' : Int))) := by
  obtain ⟨hge, p, v, hp, hb, hr⟩ := h
  exact ⟨⟨hge, p, v, hp, four_set hb 2 _, hr.setB hb 2 _⟩, Prn.kept (l := l) hge hb 2 _⟩
theorem Prn.most {w : World} {B b : Nat} {l : List UInt8} {op mo : Nat} (h : Prn w B b l op mo) (mo' : Nat) : Prn (w.setCell ⟨b, 3, none⟩ (.int .i64 (mo' : Int))) B b l op mo' ∧ Kpt B b w (w.setCell ⟨b, 3, none⟩ (.int .i64 (mo' : Int))) := by
  obtain ⟨hge, p, v, hp, hb, hr⟩ := h
  exact ⟨⟨hge, p, v, hp, four_set hb 3 _, hr.setB hb 3 _⟩, Prn.kept (l := l) hge hb 3 _⟩
theorem Prn.cells {w : World} {B b : Nat} {l : List UInt8} {op mo : Nat} (h : Prn w B b l op mo) : (w.cell? ⟨b, 2, none⟩ = some (.int .i64 (op : Int)) ∧ w.cell? ⟨b, 3, none⟩ = some (.int .i64 (mo : Int))) ∧ (w.frozen? ⟨b, 2, none⟩ = false ∧ w.frozen? ⟨b, 3, none⟩ = false) := by
  obtain ⟨hge, p, v, hp, hb, hr⟩ := h
  exact ⟨⟨cellT hb 2, cellT hb 3⟩, freeT hb 2, freeT hb 3⟩
theorem Prn.drew {w : World} {B b : Nat} {l : List UInt8} {op mo : Nat} (h : Prn w B b l op mo) : Prn w.drew B b l op mo := ⟨h.ge, h.ex⟩
set_option maxRecDepth 100000 in
set_option maxHeartbeats 1000000 in
theorem enter_any (w : World) (B b : Nat) (l : List UInt8) (op mo : Nat) (h : Prn w B b l op mo) (ho : op ≤ 1000000000) (hmo : mo ≤ 1000000000) (X n cap : Nat) (ts : List ByteArray) (hX : X ≠ b) (hx : w.heap[X]? = some (.cells (ts.map Value.string).toArray 9 (0, 0))) (hn : n = ts.length) (hn1 : n ≤ 100) (hB : B ≤ w.heap.size) (hl : l.length + (catL ts).length ≤ 1000000000) :
    Calls Tryz.prog 106 #[.pointer (some ⟨b, 0, none⟩), .slice (some ⟨X, 0, none⟩) n cap] w (PrP w B b (l ++ catL ts) (op + 1) (max mo (op + 1))) := by
  have K := hid (write_any w B b l op mo h X n cap ts hX hx hn hn1 hB hl)
  have hoI : (op : Int) ≤ 1000000000 := by omega
  obtain ⟨O, hO⟩ : ∃ O, O = op + 1 := ⟨_, rfl⟩
  obtain ⟨M, hM⟩ : ∃ M, M = max mo O := ⟨_, rfl⟩
  rw [← hO, ← hM]
  have KM : ∀ (t : TypeId) (ts : Array TypeId) (w : World), (Builtin.max_ ts t #[.int .i64 (mo : Int), .int .i64 (O : Int)]).run Tryz.prog w = .ok (.int .i64 (M : Int)) w := fun t ts w => by rw [hM]; exact max2_run t ts mo O w
  have HO := hid hO
  clear h hx hl hn hM hO
  go_enter Tryz.func106, Tryz.ntmps106
  go_upto_region 2 with (go_at_call 99; (refine (Hid.out K).mono ?_; rintro e w1 ⟨rfl, hp1, hk1⟩; have hcc := hp1.cells; obtain ⟨⟨c2, c3⟩, f2, f3⟩ := hcc; have HP := hid hp1; have HK := hid hk1; clear hp1 hk1))
  obtain ⟨hp2, hk2⟩ := HP.out.num O
  obtain ⟨W, hW⟩ : ∃ W, W = w1.setCell ⟨b, 2, none⟩ (.int .i64 (O : Int)) := ⟨_, rfl⟩
  have hWr : ∀ x : Int, x = (O : Int) → w1.setCell ⟨b, 2, none⟩ (.int .i64 x) = W := fun x e => by rw [hW, e]
  rw [hWr _ (by have := HO.out; omega)]
  rw [← hW] at hp2 hk2
  obtain ⟨⟨d2, d3⟩, g2, g3⟩ := hp2.cells
  have HP2 := hid hp2
  have HK2 := hid (HK.out.trans hk2)
  have D2 := hid ((HP2.out.drew).most M).1.cells.1.1
  clear hp2 hk2 hW hWr c2 c3 f2 f3 HP HK
  refine wp_region_held_drew (S := fun W' => W'.cell? ⟨b, 2, none⟩ = some (.int .i64 (O : Int))) (by kernel_rfl) d2 (fun hHeld => ?_)
  refine wpAnyH_take (i := 0) (oi := ({ dst := some 14, op := Go.Op.move (Go.Operand.tmp 0), type := 55, pos := "print.go:48", after := #[], guard := none } : Oper)) (v := .pointer (some ⟨b, 0, none⟩)) rfl (by kernel_rfl) (by kernel_rfl) (by kernel_rfl) (fun _ _ _ h => h) (Or.inl ⟨by rfl, ?_⟩) (by assumption) ?_
  · intro w hSw; (try dsimp only at hSw); go_simp
  try simp only [Act.put, List.setIfInBounds_toArray, List.set_cons_zero, List.set_cons_succ]
  refine wpAnyH_take (i := 1) (oi := ({ dst := some 15, op := Go.Op.move (Go.Operand.tmp 0), type := 55, pos := "print.go:48", after := #[], guard := none } : Oper)) (v := .pointer (some ⟨b, 0, none⟩)) rfl (by kernel_rfl) (by kernel_rfl) (by kernel_rfl) (fun _ _ _ h => h) (Or.inl ⟨by rfl, ?_⟩) (by assumption) ?_
  · intro w hSw; (try dsimp only at hSw); go_simp
  try simp only [Act.put, List.setIfInBounds_toArray, List.set_cons_zero, List.set_cons_succ]
  refine wpAnyH_take (i := 2) (oi := ({ dst := some 16, op := Go.Op.nilCheck (Go.Operand.tmp 15), type := 0, pos := "print.go:48", after := #[{ on := 1, ground := Go.Ground.data }], guard := none } : Oper)) (v := .pointer (some ⟨b, 0, none⟩)) rfl (by kernel_rfl) (by kernel_rfl) (by kernel_rfl) (fun _ _ _ h => h) (Or.inl ⟨by rfl, ?_⟩) (by assumption) ?_
  · intro w hSw; (try dsimp only at hSw); go_simp
  try simp only [Act.put, List.setIfInBounds_toArray, List.set_cons_zero, List.set_cons_succ]
  refine wpAnyH_take (i := 3) (oi := ({ dst := some 17, op := Go.Op.fieldAddr 63 (Go.Operand.tmp 16) 2, type := 0, pos := "print.go:48", after := #[{ on := 2, ground := Go.Ground.data }], guard := none } : Oper)) (v := .pointer (some ⟨b, 3, none⟩)) rfl (by kernel_rfl) (by kernel_rfl) (by kernel_rfl) (fun _ _ _ h => h) (Or.inl ⟨by rfl, ?_⟩) (by assumption) ?_
  · intro w hSw; (try dsimp only at hSw); go_simp
  try simp only [Act.put, List.setIfInBounds_toArray, List.set_cons_zero, List.set_cons_succ]
  refine wpAnyH_take (i := 5) (oi := ({ dst := some 19, op := Go.Op.move (Go.Operand.tmp 0), type := 55, pos := "print.go:48", after := #[], guard := none } : Oper)) (v := .pointer (some ⟨b, 0, none⟩)) rfl (by kernel_rfl) (by kernel_rfl) (by kernel_rfl) (fun _ _ _ h => h) (Or.inl ⟨by rfl, ?_⟩) (by assumption) ?_
  · intro w hSw; (try dsimp only at hSw); go_simp
  try simp only [Act.put, List.setIfInBounds_toArray, List.set_cons_zero, List.set_cons_succ]
  refine wpAnyH_take (i := 6) (oi := ({ dst := some 20, op := Go.Op.nilCheck (Go.Operand.tmp 19), type := 0, pos := "print.go:48", after := #[{ on := 5, ground := Go.Ground.data }], guard := none } : Oper)) (v := .pointer (some ⟨b, 0, none⟩)) rfl (by kernel_rfl) (by kernel_rfl) (by kernel_rfl) (fun _ _ _ h => h) (Or.inl ⟨by rfl, ?_⟩) (by assumption) ?_
  · intro w hSw; (try dsimp only at hSw); go_simp
  try simp only [Act.put, List.setIfInBounds_toArray, List.set_cons_zero, List.set_cons_succ]
  refine wpAnyH_take (i := 7) (oi := ({ dst := some 21, op := Go.Op.fieldAddr 63 (Go.Operand.tmp 20) 1, type := 0, pos := "print.go:48", after := #[{ on := 6, ground := Go.Ground.data }], guard := none } : Oper)) (v := .pointer (some ⟨b, 2, none⟩)) rfl (by kernel_rfl) (by kernel_rfl) (by kernel_rfl) (fun _ _ _ h => h) (Or.inl ⟨by rfl, ?_⟩) (by assumption) ?_
  · intro w hSw; (try dsimp only at hSw); go_simp
  try simp only [Act.put, List.setIfInBounds_toArray, List.set_cons_zero, List.set_cons_succ]
  refine wpAnyH_take (i := 8) (oi := ({ dst := some 22, op := Go.Op.load 3 (Go.Operand.tmp 21), type := 3, pos := "print.go:48", after := #[{ on := 7, ground := Go.Ground.data }], guard := none } : Oper)) (v := .int .i64 (O : Int)) rfl (by kernel_rfl) (by kernel_rfl) (by kernel_rfl) (fun _ _ _ h => h) (Or.inl ⟨by rfl, ?_⟩) (by assumption) ?_
  · intro w hSw; (try dsimp only at hSw); go_simp
  try simp only [Act.put, List.setIfInBounds_toArray, List.set_cons_zero, List.set_cons_succ]
  refine wpAnyH_ready (rs := [4]) (by kernel_rfl) (by simp) ?_
  refine AllReadyH.cons (o := ({ dst := some 18, op := Go.Op.load 3 (Go.Operand.tmp 17), type := 3, pos := "print.go:48", after := #[{ on := 3, ground := Go.Ground.data }], guard := none } : Oper)) rfl (fun K hK => ?_) AllReadyH.nil
  go_simp
  refine hK.out _ _ d2 (fun hHeldN => ?_)
  clear hK K hHeld
  have hHeld := hHeldN
  clear hHeldN
  try simp only [Act.put, List.setIfInBounds_toArray, List.set_cons_zero, List.set_cons_succ]
  refine wpAnyH_take (i := 9) (oi := ({ dst := some 23, op := Go.Op.call { callee := Go.Callee.builtin Go.Builtin.max, args := #[Go.Operand.tmp 18, Go.Operand.tmp 22], argTypes := #[3, 3] }, type := 3, pos := "print.go:48", after := #[{ on := 4, ground := Go.Ground.data }, { on := 8, ground := Go.Ground.data }], guard := none } : Oper)) (v := .int .i64 (M : Int)) rfl (by kernel_rfl) (by kernel_rfl) (by kernel_rfl) (fun _ _ _ h => h) (Or.inl ⟨by rfl, ?_⟩) (by assumption) ?_
  · intro w hSw; (try dsimp only at hSw); go_simp
  try simp only [Act.put, List.setIfInBounds_toArray, List.set_cons_zero, List.set_cons_succ]
  refine wpAnyH_take (i := 10) (oi := ({ dst := some 24, op := Go.Op.nilCheck (Go.Operand.tmp 14), type := 0, pos := "print.go:48", after := #[{ on := 0, ground := Go.Ground.data }, { on := 0, ground := Go.Ground.phase }, { on := 1, ground := Go.Ground.phase }, { on := 2, ground := Go.Ground.phase }, { on := 3, ground := Go.Ground.phase }, { on := 4, ground := Go.Ground.phase }, { on := 5, ground := Go.Ground.phase }, { on := 6, ground := Go.Ground.phase }, { on := 7, ground := Go.Ground.phase }, { on := 8, ground := Go.Ground.phase }, { on := 9, ground := Go.Ground.phase }], guard := none } : Oper)) (v := .pointer (some ⟨b, 0, none⟩)) rfl (by kernel_rfl) (by kernel_rfl) (by kernel_rfl) (fun _ _ _ h => h) (Or.inl ⟨by rfl, ?_⟩) (by assumption) ?_
  · intro w hSw; (try dsimp only at hSw); go_simp
  try simp only [Act.put, List.setIfInBounds_toArray, List.set_cons_zero, List.set_cons_succ]
  refine wpAnyH_take (i := 11) (oi := ({ dst := some 25, op := Go.Op.fieldAddr 63 (Go.Operand.tmp 24) 2, type := 0, pos := "print.go:48", after := #[{ on := 10, ground := Go.Ground.data }, { on := 0, ground := Go.Ground.phase }, { on := 1, ground := Go.Ground.phase }, { on := 2, ground := Go.Ground.phase }, { on := 3, ground := Go.Ground.phase }, { on := 4, ground := Go.Ground.phase }, { on := 5, ground := Go.Ground.phase }, { on := 6, ground := Go.Ground.phase }, { on := 7, ground := Go.Ground.phase }, { on := 8, ground := Go.Ground.phase }, { on := 9, ground := Go.Ground.phase }], guard := none } : Oper)) (v := .pointer (some ⟨b, 3, none⟩)) rfl (by kernel_rfl) (by kernel_rfl) (by kernel_rfl) (fun _ _ _ h => h) (Or.inl ⟨by rfl, ?_⟩) (by assumption) ?_
  · intro w hSw; (try dsimp only at hSw); go_simp
  try simp only [Act.put, List.setIfInBounds_toArray, List.set_cons_zero, List.set_cons_succ]
  refine wpAnyH_ready (rs := [12]) (by kernel_rfl) (by simp) ?_
  refine AllReadyH.cons (o := ({ dst := none, op := Go.Op.store 3 (Go.Operand.tmp 25) (Go.Operand.tmp 23), type := 0, pos := "print.go:48", after := #[{ on := 11, ground := Go.Ground.data }, { on := 9, ground := Go.Ground.data }, { on := 0, ground := Go.Ground.phase }, { on := 1, ground := Go.Ground.phase }, { on := 2, ground := Go.Ground.phase }, { on := 3, ground := Go.Ground.phase }, { on := 4, ground := Go.Ground.phase }, { on := 5, ground := Go.Ground.phase }, { on := 6, ground := Go.Ground.phase }, { on := 7, ground := Go.Ground.phase }, { on := 8, ground := Go.Ground.phase }, { on := 9, ground := Go.Ground.phase }], guard := none } : Oper)) rfl (fun K hK => ?_) AllReadyH.nil
  go_simp
  refine hK.out _ _ D2.out (fun hHeldN => ?_)
  clear hK K hHeld
  have hHeld := hHeldN
  clear hHeldN
  try simp only [Act.put, List.setIfInBounds_toArray, List.set_cons_zero, List.set_cons_succ]
  refine wpAnyH_done (by kernel_rfl) ?_ _
  go_wp2
  go_end0
  exact ⟨rfl, ((HP2.out).most M).1.drew, HK2.out.trans (((HP2.out).most M).2.trans (Kpt.below ((Below.refl _ _).drew) (by simp [World.setCell]; exact Nat.le_trans hB HK2.out.1.size)))⟩
end Go.Proofs.YtdfambocenohgaaGreatDoor

namespace Go.Proofs.YtdfambocenohgaaGreatDoor
open Go.RowKit Go.Deep
set_option linter.unusedVariables false
set_option linter.unusedSimpArgs false

theorem PrP.of {w W : World} {B b : Nat} {m : List UInt8} {op mo : Nat} {e : Ending} {w' : World} (hB : B ≤ w.heap.size) (hb : Below w.heap.size w W) (h : PrP W B b m op mo e w') : PrP w B b m op mo e w' := ⟨h.1, h.2.1, (Kpt.below hb hB).trans h.2.2⟩
theorem write_new (w : World) (B b : Nat) (l : List UInt8) (op mo : Nat) (h : Prn w B b l op mo) (ts : List ByteArray) (n : Nat) (hn : n = ts.length) (hn1 : n ≤ 100) (hB : B ≤ w.heap.size) (hl : l.length + (catL ts).length ≤ 1000000000) :
    Calls Tryz.prog 99 #[.pointer (some ⟨b, 0, none⟩), .slice (some ⟨w.heap.size, 0, none⟩) n n] (w.alloc (.cells (ts.map Value.string).toArray 9)) (PrP w B b (l ++ catL ts) op mo) := by
  have hb := (Below.refl w.heap.size w).alloc (Nat.le_refl _) (.cells (ts.map Value.string).toArray 9)
  have hlt := h.lt
  refine (write_any _ B b l op mo (h.below hb) w.heap.size n n ts (by omega) (heap_alloc_new _ _) hn hn1 (Nat.le_trans hB hb.size) hl).mono ?_
  intro e w' h'
  exact PrP.of hB hb h'
theorem enter_new (w : World) (B b : Nat) (l : List UInt8) (op mo : Nat) (h : Prn w B b l op mo) (ho : op ≤ 1000000000) (hmo : mo ≤ 1000000000) (ts : List ByteArray) (n : Nat) (hn : n = ts.length) (hn1 : n ≤ 100) (hB : B ≤ w.heap.size) (hl : l.length + (catL ts).length ≤ 1000000000) :
    Calls Tryz.prog 106 #[.pointer (some ⟨b, 0, none⟩), .slice (some ⟨w.heap.size, 0, none⟩) n n] (w.alloc (.cells (ts.map Value.string).toArray 9)) (PrP w B b (l ++ catL ts) (op + 1) (max mo (op + 1))) := by
  have hb := (Below.refl w.heap.size w).alloc (Nat.le_refl _) (.cells (ts.map Value.string).toArray 9)
  have hlt := h.lt
  refine (enter_any _ B b l op mo (h.below hb) ho hmo w.heap.size n n ts (by omega) (heap_alloc_new _ _) hn hn1 (Nat.le_trans hB hb.size) hl).mono ?_
  intro e w' h'
  exact PrP.of hB hb h'
set_option maxRecDepth 100000 in
theorem leave_any (w : World) (B b : Nat) (l : List UInt8) (op mo : Nat) (h : Prn w B b l (op + 1) mo) (ho : op ≤ 1000000000) (s : ByteArray) (hB : B ≤ w.heap.size) (hl : l.length + s.size ≤ 1000000000) :
    Calls Tryz.prog 108 #[.pointer (some ⟨b, 0, none⟩), .string s] w (PrP w B b (l ++ s.data.toList) op mo) := by
  have hc1 : catL [s] = s.data.toList := by simp [catL]
  have K := hid (write_new w B b l (op + 1) mo h [s] 1 rfl (by omega) hB (by rw [hc1, ← Lib.size_eq]; exact hl))
  rw [hc1] at K
  simp only [List.map_cons, List.map_nil] at K
  obtain ⟨O, hO⟩ : ∃ O, O = op + 1 := ⟨_, rfl⟩
  rw [← hO] at K
  have hOI : (O : Int) ≤ 1000000001 := by omega
  have hO1 : (1 : Int) ≤ (O : Int) := by omega
  have HO := hid hO
  clear h hO
  go_enter Tryz.func108, Tryz.ntmps108
  go_wp2_with (go_at_call 99; (refine (Hid.out K).mono ?_; rintro e w1 ⟨rfl, hp1, hk1⟩; have hcc := hp1.cells; obtain ⟨⟨c2, c3⟩, f2, f3⟩ := hcc; have HP := hid hp1; have HK := hid hk1; clear hp1 hk1 c3 f3))
  go_end0
  have hn := HP.out.num op
  have e1 : ((O : Int) - 1) = (op : Int) := by have := HO.out; omega
  rw [e1]
  exact ⟨rfl, hn.1, HK.out.trans hn.2⟩
def commaB (i : Nat) : List UInt8 := if i = 0 then [] else [44, 32]
set_option maxRecDepth 100000 in
theorem comma_any (w : World) (B b : Nat) (l : List UInt8) (op mo : Nat) (h : Prn w B b l op mo) (i : Nat) (hi : i ≤ 1000000) (hB : B ≤ w.heap.size) (hl : l.length + 2 ≤ 1000000000) :
    Calls Tryz.prog 107 #[.pointer (some ⟨b, 0, none⟩), .int .i64 (i : Int)] w (PrP w B b (l ++ commaB i) op mo) := by
  have hc1 : catL [⟨#[44, 32]⟩] = [44, 32] := by simp [catL]
  have K := hid (write_new w B b l op mo h [⟨#[44, 32]⟩] 1 rfl (by omega) hB (by rw [hc1]; exact hl))
  rw [hc1] at K
  simp only [List.map_cons, List.map_nil] at K
  have HP := hid h
  clear h
  by_cases h0 : i = 0
  · subst h0
    go_enter Tryz.func107, Tryz.ntmps107
    go_wp2
    go_end0
    exact ⟨rfl, by simpa [commaB] using HP.out, Kpt.refl _ _ _⟩
  · have h0' : (0 : Int) < (i : Int) := by omega
    have e : commaB i = [44, 32] := by unfold commaB; rw [if_neg h0]
    rw [e]
    clear e
    go_enter Tryz.func107, Tryz.ntmps107
    go_wp2_with (go_at_call 99; (refine (Hid.out K).mono ?_; rintro e w1 ⟨rfl, hp1, hk1⟩))
    go_end0
    exact ⟨rfl, hp1, hk1⟩
/- Is an argument written in brackets? -/
def brk (e a : EH) : Bool :=
  if a.kind = 6 then true else
  if a.kind = 5 then decide (a.op = 18) || decide (a.op = 19) else
  if a.kind = 1 then decide (a.int < 0) || decide (e.op = 18) else
  if a.kind = 10 ∨ a.kind = 12 then decide (e.kind = 7) else false
set_option maxRecDepth 100000 in
set_option maxHeartbeats 1000000 in
theorem brk_any (w : World) (e a : EH) (de : EHr w e) (da : EHr w a) : Calls Tryz.prog 126 #[.pointer (some ⟨e.b, e.o, none⟩), .pointer (some ⟨a.b, a.o, none⟩)] w fun r w' => r = .returned (.bool (brk e a)) ∧ w' = w := by
  have c0 := da.c0
  have c1 := da.c1
  have c2 := da.c2
  have e0 := de.c0
  have e1 := de.c1
  clear de da
  unfold brk
  by_cases k6 : a.kind = 6
  · go_enter Tryz.func126, Tryz.ntmps126
    go_wp2
    go_ret
    exact ⟨by simp [k6], rfl⟩
  · by_cases k5 : a.kind = 5
    · by_cases h1 : a.op = 18
      · go_enter Tryz.func126, Tryz.ntmps126
        go_wp2
        go_ret
        exact ⟨by simp [k5, h1], rfl⟩
      · go_enter Tryz.func126, Tryz.ntmps126
        go_wp2
        go_ret
        exact ⟨ret_bool (by simp [k5, h1]), rfl⟩
    · by_cases k1 : a.kind = 1
      · by_cases h1 : a.int < 0
        · go_enter Tryz.func126, Tryz.ntmps126
          go_wp2
          go_ret
          exact ⟨by simp [k1, h1], rfl⟩
        · go_enter Tryz.func126, Tryz.ntmps126
          go_wp2
          go_ret
          exact ⟨ret_bool (by simp [k1]; omega), rfl⟩
      · by_cases k10 : a.kind = 10
        · go_enter Tryz.func126, Tryz.ntmps126
          go_wp2
          go_ret
          exact ⟨ret_bool (by simp [k10]), rfl⟩
        · by_cases k12 : a.kind = 12
          · go_enter Tryz.func126, Tryz.ntmps126
            go_wp2
            go_ret
            exact ⟨ret_bool (by simp [k12]), rfl⟩
          · go_enter Tryz.func126, Tryz.ntmps126
            go_wp2
            go_ret
            exact ⟨by simp [k6, k5, k1, k10, k12], rfl⟩
end Go.Proofs.YtdfambocenohgaaGreatDoor

namespace Go.Proofs.YtdfambocenohgaaGreatDoor
open Go.RowKit Go.Deep
set_option linter.unusedVariables false
set_option linter.unusedSimpArgs false

/- What the library's tables hold. -/
structure EnvT (w : World) : Prop where
  tab : Lib.TabIs Tryz.prog w "internal/strconv.uint64pow10" .u64 Lib.pow10Tab
  mx : MX w
theorem EnvT.below {w w' : World} (h : EnvT w) (k : Below w.heap.size w w') : EnvT w' := ⟨Lib.tabBelow_of_tabIs h.tab w' k, h.mx.below h.mx.lt k⟩
/- Texts with commas between; the greatest of numbers. -/
def jn (ps : List (List UInt8)) : List UInt8 := (ps.mapIdx fun i x => commaB i ++ x).flatten
def mxL (ds : List Nat) : Nat := ds.foldr max 0
theorem jn_snoc (ps : List (List UInt8)) (x : List UInt8) : jn (ps ++ [x]) = jn ps ++ (commaB ps.length ++ x) := by
  unfold jn
  rw [List.mapIdx_append]; simp
theorem mxL_snoc (ds : List Nat) (x : Nat) : mxL (ds ++ [x]) = max (mxL ds) x := by
  unfold mxL
  induction ds with
  | nil => simp
  | cons d r ih => simp only [List.cons_append, List.foldr_cons, ih]; omega
/- Whatever is printed of a thing of k levels: its bytes, how deep. -/
def PrSaid (k : Nat) (pr : ET k → List UInt8) (dp : ET k → Nat) (ok : ET k → Prop) : Prop := ∀ (w0 : World) (t : ET k) (B b : Nat) (l : List UInt8) (op mo : Nat) (w : World), ERd k w0 t → ok t → EnvT w0 → w0.heap.size ≤ B → Below w0.heap.size w0 w → B ≤ w.heap.size → Prn w B b l op mo → l.length + (pr t).length ≤ 900000000 → op + dp t ≤ 900000000 → mo ≤ 900000000 → op ≤ mo →
    Calls Tryz.prog 79 #[.pointer (some ⟨b, 0, none⟩), .pointer (some ⟨(eH k t).b, (eH k t).o, none⟩)] w (PrP w B b (l ++ pr t) op (max mo (op + dp t)))
theorem PrP.bel {w w' : World} {B b : Nat} {m : List UInt8} {op mo : Nat} {e : Ending} (h : PrP w B b m op mo e w') : Below B w w' := h.2.2.1
def bs (s : ByteArray) : List UInt8 := s.data.toList
theorem bs_len (s : ByteArray) : (bs s).length = s.size := (Lib.size_eq s).symm
theorem Prn.eq {w : World} {B b : Nat} {l l' : List UInt8} {op mo mo' : Nat} (h : Prn w B b l op mo) (e : l = l') (e' : mo = mo') : Prn w B b l' op mo' := by rw [← e, ← e']; exact h
set_option maxRecDepth 100000 in
theorem entry_of (k : Nat) (pr : ET k → List UInt8) (dp : ET k → Nat) (ok : ET k → Prop) (ih : PrSaid k pr dp ok) (w0 : World) (t : ET k) (name : ByteArray) (B b : Nat) (l : List UInt8) (op mo : Nat) (w : World) (hr : ERd k w0 t) (hok : ok t) (hE : EnvT w0) (h0 : w0.heap.size ≤ B) (hb : Below w0.heap.size w0 w) (hB : B ≤ w.heap.size) (hp : Prn w B b l op mo)
    (hl : l.length + (name.size + 2 + (pr t).length) ≤ 900000000) (ho : op + (1 + dp t) ≤ 900000000) (hm : mo ≤ 900000000) :
    Calls Tryz.prog 109 #[.pointer (some ⟨b, 0, none⟩), .string name, .pointer (some ⟨(eH k t).b, (eH k t).o, none⟩)] w (PrP w B b (l ++ (bs name ++ (91 :: (pr t ++ [93])))) op (max mo (op + (1 + dp t)))) := by
  have hc1 : catL [name, ⟨#[91]⟩] = bs name ++ [91] := by simp [catL, bs]
  have hnl := bs_len name
  have K1 := hid (enter_new w B b l op mo hp (by omega) (by omega) [name, ⟨#[91]⟩] 2 rfl (by omega) hB (by rw [hc1, List.length_append, hnl]; simp; omega))
  rw [hc1] at K1
  simp only [List.map_cons, List.map_nil] at K1
  have K2 := hid (fun (w1 : World) (h1 : Below B w w1) (hp1 : Prn w1 B b (l ++ (bs name ++ [91])) (op + 1) (max mo (op + 1))) => ih w0 t B b _ (op + 1) _ w1 hr hok hE h0 (hb.trans (h1.mono h0)) (Nat.le_trans hB h1.size) hp1 (by simp [hnl]; omega) (by omega) (by omega) (by omega))
  have K3 := hid (fun (w2 : World) (h1 : Below B w w2) (hp2 : Prn w2 B b (l ++ (bs name ++ [91]) ++ pr t) (op + 1) (max (max mo (op + 1)) (op + 1 + dp t))) => leave_any w2 B b _ op _ hp2 (by omega) ⟨#[93]⟩ (Nat.le_trans hB h1.size) (by rw [show (⟨#[93]⟩ : ByteArray).size = 1 from rfl]; simp [hnl]; omega))
  have HF : Hid (max (max mo (op + 1)) (op + 1 + dp t) = max mo (op + (1 + dp t))) := hid (by omega)
  generalize eH k t = eh at *
  clear hr hok hE h0 hb hp hl ho hm hc1 ih hnl
  go_enter Tryz.func109, Tryz.ntmps109
  go_wp2_with (first
    | (go_at_call 106; (refine (Hid.out K1).mono ?_; rintro e w1 ⟨rfl, hp1, hk1⟩; have K2' := hid (K2.out w1 hk1.1 hp1); have HK1 := hid hk1; clear hp1 hk1))
    | (go_at_call 79; (refine (Hid.out K2').mono ?_; rintro e w2 ⟨rfl, hp2, hk2⟩; have HK2 := hid (HK1.out.trans hk2); have K3' := hid (K3.out w2 HK2.out.1 hp2); clear hp2 hk2))
    | (go_at_call 108; (refine (Hid.out K3').mono ?_; rintro e w3 ⟨rfl, hp3, hk3⟩)))
  go_end0
  exact ⟨rfl, hp3.eq (by simp [bs]) HF.out, HK2.out.trans hk3⟩
def argB (h a : EH) (p : List UInt8) : List UInt8 := if brk h a then 40 :: (p ++ [41]) else p
def argD (h a : EH) (d : Nat) : Nat := if brk h a then 1 + d else d
set_option maxRecDepth 100000 in
set_option maxHeartbeats 1000000 in
theorem argument_of (k : Nat) (pr : ET k → List UInt8) (dp : ET k → Nat) (ok : ET k → Prop) (ih : PrSaid k pr dp ok) (w0 : World) (h : EH) (ts : List (ET k)) (i : Nat) (t : ET k) (ht : ts[i]? = some t) (hi : i < h.an) (hi2 : i ≤ 10) (dh : EHr w0 h) (dl : LiesAt 8 h.aa (eAt k) ts) (hr : ERd k w0 t) (hok : ok t) (B b : Nat) (l : List UInt8) (op mo : Nat) (w : World) (hE : EnvT w0) (h0 : w0.heap.size ≤ B) (hb : Below w0.heap.size w0 w) (hB : B ≤ w.heap.size) (hp : Prn w B b l op mo)
    (hl : l.length + (argB h (eH k t) (pr t)).length ≤ 900000000) (ho : op + argD h (eH k t) (dp t) ≤ 900000000) (hm : mo ≤ 900000000) (hmo : op ≤ mo) :
    Calls Tryz.prog 104 #[.pointer (some ⟨b, 0, none⟩), .pointer (some ⟨h.b, h.o, none⟩), .int .i64 (i : Int)] w (PrP w B b (l ++ argB h (eH k t) (pr t)) op (max mo (op + argD h (eH k t) (dp t)))) := by
  obtain ⟨ab, aoff, eaa, hat⟩ := dl i t ht
  simp only [eAt, Prod.mk.injEq] at hat
  have hiI : (i : Int) < (h.an : Int) := by omega
  have hi0 : (0 : Int) ≤ (i : Int) := by omega
  have haI : (h.an : Int) ≤ 1000000 := by have := dh.ab; omega
  have c6 := (dh.below (Nat.le_refl _) hb).c6
  rw [eaa] at c6
  have KB := hid (brk_any w h (eH k t) (dh.below (Nat.le_refl _) hb) ((hr.h).below (Nat.le_refl _) hb))
  unfold argB at hl ⊢
  unfold argD at ho ⊢
  cases hq : brk h (eH k t) with
  | false =>
    rw [hq] at KB hl ho
    simp only [Bool.false_eq_true, if_false] at hl ho ⊢
    have K0 := hid (ih w0 t B b l op mo w hr hok hE h0 hb hB hp (by omega) (by omega) hm hmo)
    rw [hat.1, hat.2] at K0 KB
    clear hr hok hE h0 hb hp hl ho hm hmo ih dh dl ht hat eaa
    go_enter Tryz.func104, Tryz.ntmps104
    go_wp2_with (first
      | (go_at_call 126; (refine (Hid.out KB).mono ?_; rintro e w1 ⟨rfl, rfl⟩))
      | (go_at_call 79; (refine (Hid.out K0).mono ?_; rintro e w2 ⟨rfl, hp2, hk2⟩)))
    refine bodyPost_ret (results_none rfl _ _ _) rfl ?_
    exact ⟨rfl, hp2, hk2⟩
  | true =>
    rw [hq] at KB hl ho
    simp only [if_true, List.length_cons, List.length_append, List.length_nil] at hl ho
    simp only [if_true]
    have hc1 : catL [⟨#[40]⟩] = [40] := by simp [catL]
    have K1 := hid (enter_new w B b l op mo hp (by omega) (by omega) [⟨#[40]⟩] 1 rfl (by omega) hB (by rw [hc1]; simp; omega))
    rw [hc1] at K1
    simp only [List.map_cons, List.map_nil] at K1
    have K2 := hid (fun (w1 : World) (h1 : Below B w w1) (hp1 : Prn w1 B b (l ++ [40]) (op + 1) (max mo (op + 1))) => ih w0 t B b _ (op + 1) _ w1 hr hok hE h0 (hb.trans (h1.mono h0)) (Nat.le_trans hB h1.size) hp1 (by simp; omega) (by omega) (by omega) (by omega))
    have K3 := hid (fun (w2 : World) (h1 : Below B w w2) (hp2 : Prn w2 B b (l ++ [40] ++ pr t) (op + 1) (max (max mo (op + 1)) (op + 1 + dp t))) => leave_any w2 B b _ op _ hp2 (by omega) ⟨#[41]⟩ (Nat.le_trans hB h1.size) (by rw [show (⟨#[41]⟩ : ByteArray).size = 1 from rfl]; simp; omega))
    have HF : Hid (max (max mo (op + 1)) (op + 1 + dp t) = max mo (op + (1 + dp t))) := hid (by omega)
    rw [hat.1, hat.2] at KB
    simp only [hat.1, hat.2] at K2
    clear hr hok hE h0 hb hp hl ho hm hmo hc1 ih dh dl ht hat eaa
    go_enter Tryz.func104, Tryz.ntmps104
    go_wp2_with (first
      | (go_at_call 126; (refine (Hid.out KB).mono ?_; rintro e w1 ⟨rfl, rfl⟩))
      | (go_at_call 106; (refine (Hid.out K1).mono ?_; rintro e w1 ⟨rfl, hp1, hk1⟩; have K2' := hid (K2.out w1 hk1.1 hp1); have HK1 := hid hk1; clear hp1 hk1))
      | (go_at_call 79; (refine (Hid.out K2').mono ?_; rintro e w2 ⟨rfl, hp2, hk2⟩; have HK2 := hid (HK1.out.trans hk2); have K3' := hid (K3.out w2 HK2.out.1 hp2); clear hp2 hk2))
      | (go_at_call 108; (refine (Hid.out K3').mono ?_; rintro e w3 ⟨rfl, hp3, hk3⟩)))
    go_end0
    exact ⟨rfl, hp3.eq (by simp) HF.out, HK2.out.trans hk3⟩

theorem jn_take {α : Type} (f : α → List UInt8) {ts : List α} {i : Nat} {t : α} (h : ts[i]? = some t) : jn ((ts.take (i + 1)).map f) = jn ((ts.take i).map f) ++ (commaB i ++ f t) := by
  have hi := (List.getElem?_eq_some_iff.1 h).1
  rw [List.take_add_one, h]
  simp only [Option.toList_some, List.map_append, List.map_cons, List.map_nil]
  rw [jn_snoc, List.length_map, List.length_take, Nat.min_eq_left (by omega)]
theorem mx_take {α : Type} (f : α → Nat) {ts : List α} {i : Nat} {t : α} (h : ts[i]? = some t) : mxL ((ts.take (i + 1)).map f) = max (mxL ((ts.take i).map f)) (f t) := by
  rw [List.take_add_one, h]
  simp only [Option.toList_some, List.map_append, List.map_cons, List.map_nil]
  rw [mxL_snoc]
theorem jn_pre {α : Type} (f : α → List UInt8) (ts : List α) (i : Nat) : (jn ((ts.take i).map f)).length ≤ (jn (ts.map f)).length := by
  have hm : ∀ j, (jn ((ts.take j).map f)).length ≤ (jn ((ts.take (j + 1)).map f)).length := fun j => by
    cases e : ts[j]? with
    | none =>
      have hl : ts.length ≤ j := by simpa using e
      rw [List.take_of_length_le hl, List.take_of_length_le (by omega)]; exact Nat.le_refl _
    | some t => rw [jn_take f e, List.length_append]; omega
  have hmm : ∀ d j, (jn ((ts.take j).map f)).length ≤ (jn ((ts.take (j + d)).map f)).length := fun d => by
    induction d with
    | zero => intro j; exact Nat.le_refl _
    | succ d ih => intro j; exact Nat.le_trans (ih j) (hm (j + d))
  have := hmm ts.length i
  rwa [List.take_of_length_le (show ts.length ≤ i + ts.length by omega)] at this
theorem mx_mem {ds : List Nat} {d : Nat} (h : d ∈ ds) : d ≤ mxL ds := by
  unfold mxL
  induction ds with
  | nil => cases h
  | cons x r ih =>
    rcases List.mem_cons.1 h with rfl | h
    · simp only [List.foldr_cons]; omega
    · have := ih h; simp only [List.foldr_cons]; omega
theorem mx_pre {α : Type} (f : α → Nat) (ts : List α) (i : Nat) : mxL ((ts.take i).map f) ≤ mxL (ts.map f) := by
  have hle : ∀ ds : List Nat, (∀ d ∈ ds, d ≤ mxL (ts.map f)) → mxL ds ≤ mxL (ts.map f) := by
    intro ds
    induction ds with
    | nil => intro _; exact Nat.zero_le _
    | cons x r ih =>
      intro h
      have h1 := h x (List.mem_cons_self ..)
      have h2 := ih (fun d hd => h d (List.mem_cons_of_mem _ hd))
      show max x (mxL r) ≤ _
      omega
  refine hle _ (fun d hd => mx_mem ?_)
  rw [List.mem_map] at hd ⊢
  obtain ⟨t, ht, e⟩ := hd
  exact ⟨t, List.mem_of_mem_take ht, e⟩
set_option maxRecDepth 100000 in
set_option maxHeartbeats 1000000 in
theorem call_of (k : Nat) (pr : ET k → List UInt8) (dp : ET k → Nat) (ok : ET k → Prop) (ih : PrSaid k pr dp ok) (w0 : World) (name : ByteArray) (aa : Option Addr) (an ac : Nat) (ts : List (ET k)) (hn : an = ts.length) (han : an ≤ 1000000) (dl : LiesAt 8 aa (eAt k) ts) (hr : ∀ t ∈ ts, ERd k w0 t) (hok : ∀ t ∈ ts, ok t) (B b : Nat) (l : List UInt8) (op mo : Nat) (w : World) (hE : EnvT w0) (h0 : w0.heap.size ≤ B) (hb : Below w0.heap.size w0 w) (hB : B ≤ w.heap.size) (hp : Prn w B b l op mo)
    (hl : l.length + (name.size + 2 + (jn (ts.map pr)).length) ≤ 900000000) (ho : op + (1 + mxL (ts.map dp)) ≤ 900000000) (hm : mo ≤ 900000000) :
    Calls Tryz.prog 110 #[.pointer (some ⟨b, 0, none⟩), .string name, .slice aa an ac] w (PrP w B b (l ++ (bs name ++ (40 :: (jn (ts.map pr) ++ [41])))) op (max mo (op + (1 + mxL (ts.map dp))))) := by
  have hc1 : catL [name, ⟨#[40]⟩] = bs name ++ [40] := by simp [catL, bs]
  have hnl := bs_len name
  have hanI : (an : Int) ≤ 1000000 := by omega
  have K1 := hid (enter_new w B b l op mo hp (by omega) (by omega) [name, ⟨#[40]⟩] 2 rfl (by omega) hB (by rw [hc1, List.length_append, hnl]; simp; omega))
  rw [hc1] at K1
  simp only [List.map_cons, List.map_nil] at K1
  obtain ⟨L, hL⟩ : ∃ L, L = l ++ (bs name ++ [40]) := ⟨_, rfl⟩
  have hLl : L.length = l.length + (name.size + 1) := by rw [hL]; simp [hnl]
  rw [← hL] at K1
  obtain ⟨M1, hM1⟩ : ∃ M1, M1 = max mo (op + 1) := ⟨_, rfl⟩
  rw [← hM1] at K1
  have hM1l : M1 ≤ 900000000 := by omega
  have KC := hid (fun (i : Nat) (t : ET k) (ht : ts[i]? = some t) (w1 : World) (h1 : Below B w w1) (mo1 : Nat) (hp1 : Prn w1 B b (L ++ jn ((ts.take i).map pr)) (op + 1) mo1) => comma_any w1 B b _ (op + 1) mo1 hp1 i (by have := (List.getElem?_eq_some_iff.1 ht).1; omega) (Nat.le_trans hB h1.size) (by
    have := jn_pre pr ts i
    rw [List.length_append, hLl]; omega))
  have K2 := hid (fun (i : Nat) (t : ET k) (ht : ts[i]? = some t) (w1 : World) (h1 : Below B w w1) (hp1 : Prn w1 B b (L ++ jn ((ts.take i).map pr) ++ commaB i) (op + 1) (max M1 (op + 1 + mxL ((ts.take i).map dp)))) => ih w0 t B b _ (op + 1) _ w1 (hr t (List.mem_of_getElem? ht)) (hok t (List.mem_of_getElem? ht)) hE h0 (hb.trans (h1.mono h0)) (Nat.le_trans hB h1.size) hp1 (by
    have h2 := jn_pre pr ts (i + 1)
    rw [jn_take pr ht] at h2
    simp only [List.length_append, hLl] at h2 ⊢
    omega) (by
    have h2 := mx_pre dp ts (i + 1)
    rw [mx_take dp ht] at h2
    omega) (by
    have h2 := mx_pre dp ts i
    omega) (by omega))
  have K3 := hid (fun (w2 : World) (h1 : Below B w w2) (hp2 : Prn w2 B b (L ++ jn (ts.map pr)) (op + 1) (max M1 (op + 1 + mxL (ts.map dp)))) => leave_any w2 B b _ op _ hp2 (by omega) ⟨#[41]⟩ (Nat.le_trans hB h1.size) (by rw [show (⟨#[41]⟩ : ByteArray).size = 1 from rfl, List.length_append, hLl]; omega))
  have HF : Hid (max M1 (op + 1 + mxL (ts.map dp)) = max mo (op + (1 + mxL (ts.map dp)))) := hid (by omega)
  have HLe : Hid (L ++ jn (ts.map pr) ++ [41] = l ++ (bs name ++ (40 :: (jn (ts.map pr) ++ [41])))) := hid (by rw [hL]; simp)
  have HM0 : Hid (max M1 (op + 1 + 0) = M1) := hid (by omega)
  have HN := hid hn
  have DL := hid dl
  clear hr hok hE h0 hb hp hl ho hm hc1 ih hnl hL hLl hM1 hM1l hn dl
  go_enter Tryz.func110, Tryz.ntmps110
  go_wp2_with (go_at_call 106; (refine (Hid.out K1).mono ?_; rintro e w1 ⟨rfl, hp1, hk1⟩; have HP1 := hid hp1; have HK1 := hid hk1; clear hp1 hk1))
  go_loopg [13] an (fun g x wr => ∃ i : Nat, i + g = an ∧ x = .int .i64 (i : Int) ∧ Prn wr B b (L ++ jn ((ts.take i).map pr)) (op + 1) (max M1 (op + 1 + mxL ((ts.take i).map dp))) ∧ Kpt B b w wr)
  case atStart => exact ⟨0, by omega, rfl, HP1.out.eq (by simp [jn]) (by have := HM0.out; simpa [mxL] using this.symm), HK1.out⟩
  case round =>
    obtain ⟨i, hi, rfl, hp2, hk2⟩ := hrel
    cases gk with
    | zero =>
      have hin : i = an := by omega
      subst hin
      rw [HN.out, List.take_of_length_le (Nat.le_refl _)] at hp2
      have K3' := hid (K3.out wr hk2.1 hp2)
      have HK2 := hid hk2
      clear hi hp2 hk2
      go_wp2_with (go_at_call 108; (refine (Hid.out K3').mono ?_; rintro e w3 ⟨rfl, hp3, hk3⟩))
      go_end0
      exact ⟨rfl, hp3.eq HLe.out HF.out, HK2.out.trans hk3⟩
    | succ g =>
      have hil : (i : Int) < (an : Int) := by omega
      have hi0 : (0 : Int) ≤ (i : Int) := by omega
      obtain ⟨t, ht⟩ : ∃ t, ts[i]? = some t := ⟨ts[i]'(by rw [← HN.out]; omega), List.getElem?_eq_getElem _⟩
      obtain ⟨ab, aoff, eaa, hat⟩ := DL.out i t ht
      subst eaa
      simp only [eAt, Prod.mk.injEq] at hat
      have KC' := hid (KC.out i t ht wr hk2.1 _ hp2)
      have K2' := hid (K2.out i t ht)
      simp only [hat.1, hat.2] at K2'
      have HJ := hid (jn_take pr ht)
      have HM := hid (mx_take dp ht)
      have HK2 := hid hk2
      have Hi := hid hi
      clear hp2 hk2 hat ht hi
      go_wp2_with (first
        | (go_at_call 107; (refine (Hid.out KC').mono ?_; rintro e w2 ⟨rfl, hp3, hk3⟩; have HK3 := hid (HK2.out.trans hk3); have K4 := hid (K2'.out w2 HK3.out.1 hp3); clear hp3 hk3))
        | (go_at_call 79; (refine (Hid.out K4).mono ?_; rintro e w3 ⟨rfl, hp4, hk4⟩)))
      go_roundg g
      case measure => omega
      case rel => exact ⟨i + 1, by have := Hi.out; omega, by go_num, hp4.eq (by rw [HJ.out]; simp) (by rw [HM.out]; omega), HK3.out.trans hk4⟩
end Go.Proofs.YtdfambocenohgaaGreatDoor

namespace Go.Proofs.YtdfambocenohgaaGreatDoor
open Go.RowKit Go.Deep
set_option linter.unusedVariables false
set_option linter.unusedSimpArgs false

def signS : List ByteArray := [⟨#[43]⟩, ⟨#[45]⟩, ⟨#[42]⟩, ⟨#[43, 37]⟩, ⟨#[45, 37]⟩, ⟨#[42, 37]⟩, ⟨#[47]⟩, ⟨#[37]⟩, ⟨#[38]⟩, ⟨#[61, 61]⟩, ⟨#[33, 61]⟩, ⟨#[60]⟩, ⟨#[60, 61]⟩, ⟨#[62]⟩, ⟨#[62, 61]⟩, ⟨#[97, 110, 100]⟩, ⟨#[111, 114]⟩]
def sgnS (op : Int) : ByteArray := signS.getD (op - 1).toNat ⟨#[]⟩
set_option maxRecDepth 100000 in
set_option maxHeartbeats 1000000 in
theorem sign_any (w : World) (op : Int) (h1 : 1 ≤ op) (h2 : op ≤ 17) : Calls Tryz.prog 105 #[.int .i64 op] w fun e w' => e = .returned (.string (sgnS op)) ∧ Below w.heap.size w w' := by
  obtain ⟨n, rfl⟩ : ∃ n : Nat, op = (n : Int) + 1 := ⟨(op - 1).toNat, by omega⟩
  have hn : n < 17 := by omega
  have hs : sgnS ((n : Int) + 1) = signS.getD n ⟨#[]⟩ := by unfold sgnS; congr 1; omega
  rw [hs]
  have hn0 : (0 : Int) ≤ (n : Int) := by omega
  have hn1 : (n : Int) < 17 := by omega
  have hc : ∀ m : Nat, m < 17 → (w.alloc (.cells (signS.map Value.string).toArray 159)).cell? ⟨w.heap.size, m, none⟩ = some (.string (signS.getD m ⟨#[]⟩)) := fun m hm => by
    rw [cellT (heap_alloc_new w _) m]
    have hl : m < signS.length := hm
    rw [List.getElem?_toArray, List.getElem?_map, List.getElem?_eq_getElem hl, List.getD_eq_getElem?_getD, List.getElem?_eq_getElem hl]
    rfl
  have hcn := hc n hn
  simp only [signS, List.map_cons, List.map_nil] at hcn
  have Hc := hid hc
  clear hc h1 h2 hs hn
  go_enter Tryz.func105, Tryz.ntmps105
  go_wp2
  go_ret
  exact ⟨rfl, (Below.refl _ w).alloc (Nat.le_refl _) _⟩
end Go.Proofs.YtdfambocenohgaaGreatDoor

