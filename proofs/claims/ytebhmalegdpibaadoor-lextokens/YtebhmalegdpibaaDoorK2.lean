/- The document's side: letters, digits, words, rows of bytes. -/
import Derived.Test.YtebhmalegdpibaaDoorT
namespace Go.Proofs.YtebhmalegdpibaaDoor
open Go.RowKit Go.Deep
set_option linter.unusedVariables false
set_option linter.unusedSimpArgs false

theorem refLetter (c : UInt8) (w : World) : Calls Tryd.prog 24 #[.int .u8 (c.toNat : Int)] w fun e w' => e = .returned (.bool (isLt c)) ∧ w' = w := by
  go_enter Tryd.func24, Tryd.ntmps24
  go_wp2
  all_goals (go_ret; refine ⟨ret_bool ?_, rfl⟩; simp [isLt]; try omega)
theorem refDigit (c : UInt8) (w : World) : Calls Tryd.prog 25 #[.int .u8 (c.toNat : Int)] w fun e w' => e = .returned (.bool (isDg c)) ∧ w' = w := by
  go_enter Tryd.func25, Tryd.ntmps25
  go_wp2
  all_goals (go_ret; refine ⟨ret_bool ?_, rfl⟩; simp [isDg]; try omega)
set_option maxRecDepth 100000 in
theorem refWord (s : ByteArray) (w : World) : Calls Tryd.prog 26 #[.string s] w fun e w' => e = .returned (.bool (isWd s.data.toList)) ∧ Below w.heap.size w w' := by
  go_enter Tryd.func26, Tryd.ntmps26
  go_wp2_with (go_at_call 15; refine (words_ref _).mono ?_; rintro e w2 ⟨rfl, rfl⟩)
  have hWb : (w.alloc (.cells wordsV 9)).heap[w.heap.size]? = some (.cells wordsV 9 (0, 0)) := heap_alloc_new w _
  have hbW : Below w.heap.size w (w.alloc (.cells wordsV 9)) := (Below.refl _ w).alloc (Nat.le_refl _) _
  obtain ⟨W, hWe⟩ : ∃ W, W = w.alloc (.cells wordsV 9) := ⟨_, rfl⟩
  rw [← hWe] at hWb hbW ⊢
  have HWb := hid hWb
  have HbW := hid hbW
  clear hWb hbW hWe
  go_loopg [4] 29 (fun g ii wr => ∃ i : Nat, i + g = 29 ∧ ii = .int .i64 (i : Int) ∧ wr = W ∧ (wordsL.take i).contains s.data.toList = false)
  case atStart => exact ⟨0, by omega, rfl, rfl, rfl⟩
  case round =>
    obtain ⟨i, hi, rfl, rfl, hno⟩ := hrel
    have HN := hid hno
    clear hno
    cases gk with
    | zero =>
      have hin : i = 29 := by omega
      subst hin
      clear hi
      go_wp2
      go_ret
      refine ⟨?_, HbW.out⟩
      unfold isWd
      rw [show wordsL = wordsL.take 29 from rfl, HN.out]
      rfl
    | succ g =>
      have hlt0 : i < 29 := by omega
      have hlt : (i : Int) < 29 := by omega
      obtain ⟨x, hx⟩ : ∃ x, wordsS[i]? = some x := ⟨wordsS[i]'(show i < 29 from hlt0), List.getElem?_eq_getElem (show i < 29 from hlt0)⟩
      have hcell : wr.cell? ⟨w.heap.size, i, none⟩ = some (.string x) := by
        rw [cellOf HWb.out i]; simp [wordsV, hx]
      have hmore := take_more hx s.data.toList
      rw [list_ofB] at hmore
      have Hx := hid (wl hx)
      have HMo := hid hmore
      have Hi := hid hi
      clear hx hmore hi hlt0
      cases heq : (x.toList == s.toList)
      · have Heq := hid heq
        go_wp2
        go_roundg g
        case measure => omega
        case rel => exact ⟨i + 1, by have := Hi.out; omega, by go_num, rfl, by rw [HMo.out, HN.out, Heq.out]; rfl⟩
      · have Heq := hid heq
        go_wp2
        go_ret
        refine ⟨?_, HbW.out⟩
        have h2 : isWd s.data.toList = true := by
          unfold isWd
          rw [List.contains_iff_mem]
          have := Heq.out
          rw [ByteArray.toList_eq, ByteArray.toList_eq, beq_iff_eq] at this
          rw [← this]
          exact List.mem_of_getElem? Hx.out
        rw [h2]
        rfl

/- Rows of bytes that a call owns. -/
def bvv (bs : Bs) : List Value := bs.map fun c : UInt8 => Value.int .u8 (c.toNat : Int)
def BRow (w : World) (B : Nat) (v : Value) (bs : Bs) : Prop := w.ownsRow B 5 1 v bs.length (bvv bs)
theorem BRow.nil (w : World) (B : Nat) : BRow w B (.slice none 0 0) [] := World.ownsRow_nil w B 5 1
theorem BRow.own {w B v bs} (h : BRow w B v bs) : ∀ k, v.ownBlock = some k → B ≤ k ∧ k < w.heap.size := World.ownsRow.lt h
theorem BRow.same {w w' : World} {B v xs} (h : BRow w B v xs) (e : ∀ g, v.ownBlock = some g → w'.heap[g]? = w.heap[g]?) : BRow w' B v xs := by
  refine ⟨h.1, ?_⟩
  rcases h.2 with hn | ⟨g, cap, cur, rfl, hb, hgg, rest⟩
  · exact .inl hn
  · exact .inr ⟨g, cap, cur, rfl, hb, (e g rfl).trans hgg, rest⟩
theorem BRow.below {w w' : World} {B C v xs} (h : BRow w B v xs) (hC : w.heap.size ≤ C) (k : Below C w w') : BRow w' B v xs :=
  h.same fun g e => k.block g (by have := (h.own g e).2; omega)
theorem BRow.form {w B v xs} (h : BRow w B v xs) : ∃ a cap, v = .slice a xs.length cap ∧ xs.length ≤ cap := by
  rcases h.2 with ⟨rfl, hn⟩ | ⟨g, cap, cur, rfl, hb, hgg, hc, rest⟩
  · exact ⟨none, 0, by rw [hn], by omega⟩
  · exact ⟨_, _, rfl, hc⟩
theorem BRow.rd {w : World} {B a n cap bs} (h : BRow w B (.slice a n cap) bs) : BRd w a bs := by
  intro j c hc
  rcases h.2 with ⟨e, hn⟩ | ⟨g, cap', cur, e, hb, hgg, hcc, hm, hs', ht⟩
  · have : bs = [] := List.eq_nil_of_length_eq_zero hn
    subst this; simp at hc
  · cases e
    refine ⟨g, 0, rfl, ?_⟩
    have := World.ownsRow.cells h (g := g) rfl j (.int .u8 (c.toNat : Int)) (by simp [bvv, hc])
    rw [Addr.add_lit] at this
    exact this
theorem BRow.conv {w : World} {B v bs} (h : BRow w B v bs) : (convert 37 9 v).run Tryd.prog w = .ok (.string (ofB bs)) w := by
  obtain ⟨a, cap, rfl, _⟩ := h.form
  exact h.rd.conv cap
theorem BRow.lit {w : World} {b B : Nat} {c : UInt8} (h : w.heap[b]? = some (.cells #[.int .u8 (c.toNat : Int)] 5 (0, 0))) (hB : B ≤ b) : BRow w B (.slice (some ⟨b, 0, none⟩) 1 1) [c] :=
  ⟨by simp [bvv], .inr ⟨b, 1, _, rfl, hB, h, by simp, by unfold maxLen; omega, by simp, by simp [bvv]⟩⟩
theorem info5 : (Tryd.prog.info? 5).map (fun i => (i.zero, i.size, i.bytes)) = some (some (.int .u8 0), 1, 1) := by kernel_rfl
theorem run_appB (w : World) (ty : TypeId) (B : Nat) (v : Value) (bs : Bs) (c : UInt8) (hr : BRow w B v bs) (hB : B ≤ w.heap.size) (hl : bs.length ≤ 1000000) :
    ∃ v' w', (Builtin.append_ #[37, 37] ty #[v, .slice (some ⟨w.heap.size, 0, none⟩) 1 1]).run Tryd.prog (w.alloc (.cells #[.int .u8 (c.toNat : Int)] 5)) = .ok v' w' ∧ BRow w' B v' (bs ++ [c]) ∧ Grw w v w' v' := by
  obtain ⟨i0, hi, hz0, hz1, hz2⟩ := info_parts info5
  have hr2 : BRow (w.alloc (.cells #[.int .u8 (c.toNat : Int)] 5)) B v bs := hr.same fun g e => by rw [Below.heap_alloc]; exact (hr.own g e).2
  obtain ⟨v', w', hrun, hown, hgr, _, hat⟩ := run_append_own_at (P := Tryd.prog) (w.alloc (.cells #[.int .u8 (c.toNat : Int)] 5)) B 37 ty 5 i0 (.int .u8 0) 1 1 Tryd.underlying37 hi hz0 hz1 hz2 rfl (by decide) v bs.length (bvv bs) hr2 ⟨w.heap.size, 0, none⟩ 1 1 [.int .u8 (c.toNat : Int)] rfl (by
    intro j u hu
    exact World.news_of_block (heap_alloc_new w _) j u (by simpa using hu)) (by intro u hu; simp at hu; subst hu; rfl) (by unfold maxLen; omega) (by omega) (by simp; omega)
  refine ⟨v', w', hrun, ?_, (World.grownBy_alloc w _ _).trans hgr, ?_⟩
  · unfold BRow
    rw [List.length_append, show bvv (bs ++ [c]) = bvv bs ++ [.int .u8 (c.toNat : Int)] by simp [bvv]]
    exact hown
  · rcases hat with hat | hat
    · exact .inl hat
    · exact .inr ⟨_, hat, by simp⟩
theorem wpList_appB {ops : Array Oper} {rest : List Oper} {o : Oper} {a : Act} {Q : Exit → Act → World → Prop} (w : World) (hgd : o.guard = none) (sl x : Operand)
    (ho : o.op = .call { callee := .builtin .append, args := #[sl, x], argTypes := #[37, 37] }) (v : Value) (c : UInt8) (hs : a.eval sl = v) (hx : a.eval x = .slice (some ⟨w.heap.size, 0, none⟩) 1 1)
    (B : Nat) (xs : Bs) (hr : BRow w B v xs) (hB : B ≤ w.heap.size) (hl : xs.length ≤ 1000000)
    (k : ∀ v' w', BRow w' B v' (xs ++ [c]) → Grw w v w' v' → wpList Tryd.prog ops Q rest (a.put o.dst v') w') :
    wpList Tryd.prog ops Q (o :: rest) a (w.alloc (.cells #[.int .u8 (c.toNat : Int)] 5)) := by
  refine wpList_plain hgd fun K hK => ?_
  obtain ⟨v', w', hrun, h2, h3⟩ := run_appB w o.type B v xs c hr hB hl
  unfold Oper.wp execOp
  simp only [ho, resolve, invoke, builtin, Sem.run_bind, Sem.run_pure, Result.andThen_ok, List.map_toArray, List.map_cons, List.map_nil, hs, hx, hrun]
  exact hK _ _ (k v' w' h2 h3)
end Go.Proofs.YtebhmalegdpibaaDoor
