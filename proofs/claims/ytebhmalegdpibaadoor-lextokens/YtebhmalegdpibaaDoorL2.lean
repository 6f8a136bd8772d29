/- The document's side: a text from a quote on; a quote. -/
import Derived.Test.YtebhmalegdpibaaDoorK2
import Derived.Test.YtebhmalegdpibaaDoorE2
namespace Go.Proofs.YtebhmalegdpibaaDoor
open Go.RowKit Go.Deep
set_option linter.unusedVariables false
set_option linter.unusedSimpArgs false

def txR : Bs → Option (Bs × Nat)
  | [] => none
  | [c] => if c = 34 then some ([], 1) else none
  | c :: d :: t => if c = 34 then (if d = 34 then (txR t).map (fun p => (34 :: p.1, p.2 + 2)) else some ([], 1)) else (txR (d :: t)).map (fun p => (c :: p.1, p.2 + 1))
theorem txR_other (c : UInt8) (h : ¬ c = 34) : ∀ t : Bs, txR (c :: t) = (txR t).map (fun p => (c :: p.1, p.2 + 1))
  | [] => by simp [txR, h]
  | d :: t => by rw [txR, if_neg h]
theorem txR_two (t : Bs) : txR (34 :: 34 :: t) = (txR t).map (fun p => (34 :: p.1, p.2 + 2)) := by rw [txR, if_pos rfl, if_pos rfl]
theorem txR_end (t : Bs) (h : ∀ d u, t = d :: u → ¬ d = 34) : txR (34 :: t) = some ([], 1) := by
  cases t with
  | nil => rfl
  | cons d u => rw [txR, if_pos rfl, if_neg (h d u rfl)]
theorem txR_eq : ∀ (n : Nat) (l : Bs), l.length ≤ n → txR l = (textF false l).map (fun m => (unq (l.take (m - 1)), m))
  | _, [], _ => rfl
  | _, [c], _ => by
    by_cases h : c = 34
    · subst h; rfl
    · simp [txR, textF, h]
  | 0, c :: d :: t, h => by simp at h
  | n + 1, c :: d :: t, hl => by
    simp only [List.length_cons] at hl
    by_cases h : c = 34
    · subst h
      by_cases hd : d = 34
      · subst hd
        rw [txR_two, txR_eq n t (by omega)]
        have e : textF false (34 :: 34 :: t) = (textF false t).map (· + 2) := by
          simp only [textF, if_true, Bool.not_false, Bool.not_true, Option.map_map]
          congr 1
        rw [e]
        cases hx : textF false t with
        | none => rfl
        | some m =>
          rcases textF_last t _ m hx with ⟨_, h2⟩ | ⟨h1, _⟩
          · cases h2
          · simp only [Option.map_some, Option.some.injEq, Prod.mk.injEq, and_true]
            obtain ⟨k, rfl⟩ : ∃ k, m = k + 1 := ⟨m - 1, by omega⟩
            rw [show k + 1 + 2 - 1 = (k + 1) + 1 by omega, List.take_succ_cons, List.take_succ_cons, Nat.add_sub_cancel, unq, if_pos ⟨rfl, rfl⟩]
      · rw [txR, if_pos rfl, if_neg hd]
        simp [textF, hd, unq]
    · rw [txR_other c h, txR_eq n (d :: t) (by simp; omega)]
      have e : textF false (c :: d :: t) = (textF false (d :: t)).map (· + 1) := by rw [textF, if_neg h]; rfl
      rw [e]
      cases hx : textF false (d :: t) with
      | none => rfl
      | some m =>
        rcases textF_last (d :: t) _ m hx with ⟨_, h2⟩ | ⟨h1, _⟩
        · cases h2
        · simp only [Option.map_some, Option.some.injEq, Prod.mk.injEq, and_true]
          obtain ⟨k, rfl⟩ : ∃ k, m = k + 1 := ⟨m - 1, by omega⟩
          rw [show k + 1 + 1 - 1 = k + 1 by omega, List.take_succ_cons, Nat.add_sub_cancel, unq_other c h]
def TxP (at' : Nat) (x : Option (Bs × Nat)) (e : Ending) : Prop := match x with
  | none => e = .returned (.tuple #[.string ⟨#[]⟩, .int .i64 0, .bool false])
  | some p => e = .returned (.tuple #[.string (ofB p.1), .int .i64 ((at' + 1 + p.2 : Nat) : Int), .bool true])
structure TxI (w : World) (s : ByteArray) (at' gf pos : Nat) (acc : Bs) (v : Value) (wr : World) : Prop where
  bel : Below w.heap.size w wr
  row : BRow wr w.heap.size v acc
  eq : (txR (s.data.toList.drop pos)).map (fun p => (acc ++ p.1, pos + p.2)) = (txR (s.data.toList.drop (at' + 1))).map (fun p => (p.1, at' + 1 + p.2))
  fuel : s.size ≤ pos + gf
  le : pos ≤ s.size
  al : acc.length ≤ pos
theorem at_list (s : ByteArray) (pos : Nat) (h : pos < s.size) : ∃ c, s[pos]'h = c ∧ s.data.toList[pos]? = some c ∧ s.data.toList.drop pos = c :: s.data.toList.drop (pos + 1) := by
  have hl : pos < s.data.toList.length := by rw [← Lib.size_eq]; exact h
  exact ⟨s.data.toList[pos], get_of_list s pos h _ (List.getElem?_eq_getElem hl), List.getElem?_eq_getElem hl, List.drop_eq_getElem_cons hl⟩
theorem TxI.step {w : World} {s : ByteArray} {at' g pos K : Nat} {acc acc' : Bs} {v v' : Value} {wr W : World} (I : TxI w s at' (g + 1) pos acc v wr) (h1 : 1 ≤ K) (h2 : pos + K ≤ s.size) (hb : Grw wr v W v') (hr : BRow W w.heap.size v' acc')
    (he : (txR (s.data.toList.drop (pos + K))).map (fun p => (acc' ++ p.1, pos + K + p.2)) = (txR (s.data.toList.drop pos)).map (fun p => (acc ++ p.1, pos + p.2))) (ha : acc'.length ≤ acc.length + 1) : TxI w s at' g (pos + K) acc' v' W :=
  ⟨hb.below I.bel (fun k e => (I.row.own k e).1) I.bel.size, hr, he.trans I.eq, by have := I.fuel; omega, h2, by have := I.al; omega⟩
set_option maxRecDepth 100000 in
set_option maxHeartbeats 1000000 in
theorem refText (s : ByteArray) (at' : Nat) (hs : s.size ≤ 4096) (ha : at' < s.size) (w : World) : Calls Tryd.prog 27 #[.string s, .int .i64 (at' : Int)] w fun e w' => TxP at' (txR (s.data.toList.drop (at' + 1))) e ∧ Below w.heap.size w w' := by
  have ha' : (at' : Int) < (s.size : Int) := by omega
  go_enter Tryd.func27, Tryd.ntmps27
  go_wp2
  go_loopg [7, 8] s.size (fun gf v ii wr => ∃ (pos : Nat) (acc : Bs), ii = .int .i64 (pos : Int) ∧ TxI w s at' gf pos acc v wr)
  case atStart => exact ⟨at' + 1, [], by go_num, ⟨Below.refl _ w, BRow.nil _ _, by simp, by omega, by omega, by simp⟩⟩
  case round =>
    obtain ⟨pos, acc, rfl, I⟩ := hrel
    by_cases hps : pos < s.size
    · obtain ⟨g', rfl⟩ : ∃ g', gk = g' + 1 := ⟨gk - 1, by have := I.fuel; omega⟩
      have hps' : (pos : Int) < (s.size : Int) := by omega
      obtain ⟨c, hc, hc1, hdr⟩ := at_list s pos hps
      have HI := hid I
      have HD := hid hdr
      have Hrow := hid I.row
      have hB1 : w.heap.size ≤ wr.heap.size := I.bel.size
      have Hal : Hid (acc.length ≤ 1000000) := hid (by have := I.al; omega)
      have Hconv := I.row.conv
      clear I hc1 hdr
      by_cases hq : c = 34
      · subst hq
        by_cases hend : pos + 1 = s.size
        · have hend' : (pos : Int) + 1 = (s.size : Int) := by omega
          have HE := hid hend
          clear hend
          go_wp2
          refine bodyPost_ret (v := .tuple #[.string (ofB acc), .int .i64 ((pos + 1 : Nat) : Int), .bool true]) (by simp [results, Tryd.results27, go_sem]; try omega) rfl ⟨?_, HI.out.bel⟩
          have h4 := HI.out.eq
          rw [HD.out, List.drop_eq_nil_of_le (by rw [← Lib.size_eq, HE.out]; exact Nat.le_refl _)] at h4
          rw [show txR [34] = some ([], 1) from rfl] at h4
          unfold TxP
          cases hx : txR (s.data.toList.drop (at' + 1)) with
          | none => rw [hx] at h4; cases h4
          | some p =>
            rw [hx] at h4
            simp only [Option.map_some, Option.some.injEq, Prod.mk.injEq, List.append_nil] at h4
            simp only
            rw [h4.1, ← h4.2]
        · have hlt1 : pos + 1 < s.size := by omega
          have hlt1' : (pos : Int) + 1 < (s.size : Int) := by omega
          have hend' : ¬ (pos : Int) + 1 = (s.size : Int) := by omega
          obtain ⟨d, hd, hd1, hdr2⟩ := at_list s (pos + 1) hlt1
          have HD2 := hid hdr2
          clear hd1 hdr2 hend
          by_cases hq2 : d = 34
          · subst hq2
            go_wp2_with (at_builtin; refine wpList_appB _ rfl _ _ rfl _ 34 (by rfl) (by rfl) w.heap.size acc Hrow.out hB1 Hal.out ?_; intro v4 w4 hr4 hg4)
            go_roundg g'
            case measure => omega
            case rel =>
              refine ⟨pos + 2, acc ++ [34], by go_num, HI.out.step (K := 2) (by omega) (by omega) hg4 hr4 ?_ (by simp)⟩
              rw [HD.out, HD2.out, txR_two, Option.map_map]
              congr 1
              funext p
              simp
              omega
          · have hq2' : ¬ (d.toNat : Int) = 34 := fun e => hq2 (UInt8.toNat_inj.1 (by have : (34 : UInt8).toNat = 34 := rfl; omega))
            have HQ2 := hid hq2
            have hqa : ((d.toNat : Int) != 34) = true := by simp; omega
            have hqb : ((pos : Int) + 1 == (s.size : Int)) = false := by simp; omega
            clear hq2
            go_wp2
            refine bodyPost_ret (v := .tuple #[.string (ofB acc), .int .i64 ((pos + 1 : Nat) : Int), .bool true]) (by simp [results, Tryd.results27, go_sem]; try omega) rfl ⟨?_, HI.out.bel⟩
            have h4 := HI.out.eq
            rw [HD.out, HD2.out, txR_end _ (by rintro d u e; cases e; exact HQ2.out)] at h4
            unfold TxP
            cases hx : txR (s.data.toList.drop (at' + 1)) with
            | none => rw [hx] at h4; cases h4
            | some p =>
              rw [hx] at h4
              simp only [Option.map_some, Option.some.injEq, Prod.mk.injEq, List.append_nil] at h4
              simp only
              rw [h4.1, ← h4.2]
      · have hq' : ¬ (c.toNat : Int) = 34 := fun e => hq (UInt8.toNat_inj.1 (by have : (34 : UInt8).toNat = 34 := rfl; omega))
        have HQ := hid hq
        clear hq
        go_wp2_with (at_builtin; refine wpList_appB _ rfl _ _ rfl _ c (by rfl) (by rfl) w.heap.size acc Hrow.out hB1 Hal.out ?_; intro v4 w4 hr4 hg4)
        go_roundg g'
        case measure => omega
        case rel =>
          refine ⟨pos + 1, acc ++ [c], by go_num, HI.out.step (K := 1) (by omega) (by omega) hg4 hr4 ?_ (by simp)⟩
          rw [HD.out, txR_other c HQ.out, Option.map_map]
          congr 1
          funext p
          simp
          omega
    · have hps' : ¬ (pos : Int) < (s.size : Int) := by omega
      have HI := hid I
      have HP := hid hps
      clear I hps
      go_wp2
      refine bodyPost_ret (v := .tuple #[.string ⟨#[]⟩, .int .i64 0, .bool false]) (by simp [results, Tryd.results27, go_sem]) rfl ⟨?_, HI.out.bel⟩
      have h4 := HI.out.eq
      rw [List.drop_eq_nil_of_le (by rw [← Lib.size_eq]; have := HP.out; omega)] at h4
      unfold TxP
      cases hx : txR (s.data.toList.drop (at' + 1)) with
      | none => rfl
      | some p => rw [hx] at h4; cases h4

structure QuI (w : World) (s : ByteArray) (gf pos : Nat) (acc : Bs) (v : Value) (wr : World) : Prop where
  bel : Below w.heap.size w wr
  row : BRow wr w.heap.size v acc
  eq : acc = 34 :: (s.data.toList.take pos).flatMap dbl
  fuel : s.size ≤ pos + gf
  le : pos ≤ s.size
theorem QuI.len {w s gf pos acc v wr} (I : QuI w s gf pos acc v wr) (hs : s.size ≤ 100000) : acc.length ≤ 200001 := by
  rw [I.eq, List.length_cons]
  have := dbl_len (s.data.toList.take pos)
  rw [List.length_take, ← Lib.size_eq] at this
  omega
theorem QuI.step {w : World} {s : ByteArray} {g pos : Nat} {acc acc' : Bs} {v v' : Value} {wr W : World} (I : QuI w s (g + 1) pos acc v wr) (h : pos < s.size) {c : UInt8} (hc : s.data.toList[pos]? = some c) (hb : Below w.heap.size w W) (hr : BRow W w.heap.size v' acc') (he : acc' = acc ++ dbl c) : QuI w s g (pos + 1) acc' v' W :=
  ⟨hb, hr, by rw [he, I.eq, List.take_add_one, hc]; simp, by have := I.fuel; omega, by omega⟩
set_option maxRecDepth 100000 in
set_option maxHeartbeats 1000000 in
theorem refQuote3 (s : ByteArray) (hs : s.size ≤ 100000) (w : World) : Calls Tryd.prog 31 #[.string s] w fun e w' => e = .returned (.string (ofB (quoB s.data.toList))) ∧ Below w.heap.size w w' := by
  go_enter Tryd.func31, Tryd.ntmps31
  go_wp2
  have hI : QuI w s s.size 0 [34] (.slice (some ⟨w.heap.size, 0, none⟩) 1 1) (w.alloc (.cells #[.int .u8 34] 5)) :=
    ⟨(Below.refl _ w).alloc (Nat.le_refl _) _, BRow.lit (c := 34) (heap_alloc_new w _) (Nat.le_refl _), by simp, by omega, by omega⟩
  obtain ⟨W, hW⟩ : ∃ W, W = w.alloc (.cells #[.int .u8 34] 5) := ⟨_, rfl⟩
  rw [← hW] at hI ⊢
  clear hW
  have HI0 := hid hI
  clear hI
  go_loopg [3, 4] s.size (fun gf v ii wr => ∃ (pos : Nat) (acc : Bs), ii = .int .i64 (pos : Int) ∧ QuI w s gf pos acc v wr)
  case atStart => exact ⟨0, [34], rfl, HI0.out⟩
  case round =>
    obtain ⟨pos, acc, rfl, I⟩ := hrel
    have hB1 : w.heap.size ≤ wr.heap.size := I.bel.size
    have Hlen := hid (I.len hs)
    have Hrow := hid I.row
    have HI := hid I
    clear I
    by_cases hps : pos < s.size
    · obtain ⟨g', rfl⟩ : ∃ g', gk = g' + 1 := ⟨gk - 1, by have := HI.out.fuel; omega⟩
      have hps' : (pos : Int) < (s.size : Int) := by omega
      obtain ⟨c, hc, hc1, hdr⟩ := at_list s pos hps
      have HC1 := hid hc1
      clear hc1 hdr
      by_cases hq : c = 34
      · subst hq
        go_wp2_with (first
          | (at_builtin; have hno := hr4; clear hno; refine wpList_appB _ rfl _ _ rfl _ 34 (by rfl) (by rfl) w.heap.size (acc ++ [34]) hr4 (Nat.le_trans hB1 hg4.1.size) (by simp; have := Hlen.out; omega) ?_; intro v5 w5 hr5 hg5)
          | (at_builtin; refine wpList_appB _ rfl _ _ rfl _ 34 (by rfl) (by rfl) w.heap.size acc Hrow.out hB1 (by have := Hlen.out; omega) ?_; intro v4 w4 hr4 hg4))
        go_roundg g'
        case measure => omega
        case rel =>
          have hb4 : Below w.heap.size w w4 := hg4.below HI.out.bel (fun k e => (Hrow.out.own k e).1) hB1
          exact ⟨pos + 1, acc ++ [34] ++ [34], by go_num, HI.out.step hps HC1.out (hg5.below hb4 (fun k e => (hr4.own k e).1) hb4.size) hr5 (by simp [dbl])⟩
      · have hq' : ¬ (c.toNat : Int) = 34 := fun e => hq (UInt8.toNat_inj.1 (by have : (34 : UInt8).toNat = 34 := rfl; omega))
        have HQ := hid hq
        clear hq
        go_wp2_with (at_builtin; refine wpList_appB _ rfl _ _ rfl _ c (by rfl) (by rfl) w.heap.size acc Hrow.out hB1 (by have := Hlen.out; omega) ?_; intro v4 w4 hr4 hg4)
        go_roundg g'
        case measure => omega
        case rel => exact ⟨pos + 1, acc ++ [c], by go_num, HI.out.step hps HC1.out (hg4.below HI.out.bel (fun k e => (Hrow.out.own k e).1) hB1) hr4 (by simp [dbl, HQ.out])⟩
    · have hps' : ¬ (pos : Int) < (s.size : Int) := by omega
      have HP := hid hps
      clear hps
      go_wp2_with (at_builtin; refine wpList_appB _ rfl _ _ rfl _ 34 (by rfl) (by rfl) w.heap.size acc Hrow.out hB1 (by have := Hlen.out; omega) ?_; intro v4 w4 hr4 hg4; have hconv := hr4.conv)
      go_ret
      refine ⟨?_, hg4.below HI.out.bel (fun k e => (Hrow.out.own k e).1) hB1⟩
      have : acc ++ [34] = quoB s.data.toList := by
        rw [HI.out.eq, List.take_of_length_le (by rw [← Lib.size_eq]; have := HP.out; omega)]
        rfl
      rw [this]
      rfl
theorem refQuote (s : ByteArray) (hs : s.size ≤ 100000) (w : World) : Calls Tryd.prog 19 #[.string s] w fun e w' => e = .returned (.string (ofB (quoB s.data.toList))) ∧ Below w.heap.size w w' := by
  have c := refQuote3 s hs w
  go_enter Tryd.func19, Tryd.ntmps19
  go_wp2_with (go_at_call 31; refine c.mono ?_; rintro e w2 ⟨rfl, hb⟩)
  go_ret
  exact ⟨rfl, hb⟩
end Go.Proofs.YtebhmalegdpibaaDoor
