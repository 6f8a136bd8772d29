/- The document's side: quotes, digits. -/
import Derived.Test.YtnmbifoinponeaaGreatDoorB3
import Derived.Test.YtnmbifoinponeaaGreatDoorP
import Derived.Test.YtnmbifoinponeaaGreatDoorH2
import Derived.Lib.ConvBytes
import Derived.Laws.BytesArg
namespace Go.Proofs.YtnmbifoinponeaaGreatDoor
open Go.RowKit Go.Deep Go.Shelf
set_option linter.unusedVariables false
set_option linter.unusedSimpArgs false

abbrev Bs := List UInt8
def ofB (l : Bs) : ByteArray := ⟨l.toArray⟩
theorem ofB_list (l : Bs) : (ofB l).data.toList = l := rfl
theorem ofB_size (l : Bs) : (ofB l).size = l.length := rfl
theorem list_ofB (s : ByteArray) : ofB s.data.toList = s := by cases s; simp [ofB]
theorem eq_ofB {s : ByteArray} {l : Bs} (h : s.data.toList = l) : s = ofB l := by rw [← h, list_ofB]
theorem len_toList (s : ByteArray) : s.data.toList.length = s.size := Array.length_toList
theorem cat_any (a b : ByteArray) (h : a.size + b.size ≤ 140737488355328) : ∃ q : ByteArray, (∀ w : World, (Op.stringOp .add a b).run Tryz.prog w = .ok (.string q) w) ∧ q.data.toList = a.data.toList ++ b.data.toList ∧ q.size = a.size + b.size :=
  ⟨a ++ b, fun w => run_string_add_sum w _ _ (by omega), by simp, ByteArray.size_append⟩
/- What a slice of bytes reads. -/
def BRd (w : World) (a : Option Addr) (bs : Bs) : Prop := ∀ (j : Nat) (c : UInt8), bs[j]? = some c → ∃ b off, a = some ⟨b, off, none⟩ ∧ w.cell? ⟨b, off + j, none⟩ = some (.int .u8 (c.toNat : Int))
theorem BRd.conv {w : World} {a : Option Addr} {bs : Bs} (h : BRd w a bs) (cap : Nat) : (convert 66 9 (.slice a bs.length cap)).run Tryz.prog w = .ok (.string (ofB bs)) w := by
  cases bs with
  | nil =>
    rw [run_convert_bytes_string w 66 9 5 _ _ _ Tryz.underlying66 Tryz.underlying5 Tryz.underlying9]
    cases a with
    | none => rfl
    | some a =>
      have hl := run_loadCells_list (P := Tryz.prog) w a [] (fun j v hj => by simp at hj)
      have := run_bytesToString w a 0 cap [] (by simpa using hl) (P := Tryz.prog)
      rw [show ofB [] = ByteArray.empty from rfl]
      simpa using this
  | cons c t =>
    obtain ⟨b, off, rfl, _⟩ := h 0 c rfl
    have := run_convert_bytes_arg (P := Tryz.prog) w 66 5 Tryz.underlying66 Tryz.underlying5 b off (c :: t).length cap ((c :: t).map fun x : UInt8 => (x.toNat : Int)) (by simp) (fun i hi => by
      obtain ⟨b', off', e, hc⟩ := h i (c :: t)[i] (List.getElem?_eq_getElem hi)
      cases e
      rw [hc, List.getD_eq_getElem?_getD, List.getElem?_map, List.getElem?_eq_getElem hi]; rfl) 9 Tryz.underlying9
    rw [this]
    refine congrArg (fun x => Result.ok (Value.string x) w) ?_
    simp only [strOfNums, ofB, List.map_map]
    rw [List.map_congr_left (g := id) (fun x _ => by simp), List.map_id]
def bvv (bs : Bs) : List Value := bs.map fun c : UInt8 => Value.int .u8 (c.toNat : Int)
def BRow (w : World) (B : Nat) (v : Value) (bs : Bs) : Prop := w.ownsRow B 5 1 v bs.length (bvv bs)
theorem BRow.own {w B v bs} (h : BRow w B v bs) : ∀ k, v.ownBlock = some k → B ≤ k ∧ k < w.heap.size := World.ownsRow.lt h
theorem BRow.same {w w' : World} {B v xs} (h : BRow w B v xs) (e : ∀ g, v.ownBlock = some g → w'.heap[g]? = w.heap[g]?) : BRow w' B v xs := by
  refine ⟨h.1, ?_⟩
  rcases h.2 with hn | ⟨g, cap, cur, rfl, hb, hgg, rest⟩
  · exact .inl hn
  · exact .inr ⟨g, cap, cur, rfl, hb, (e g rfl).trans hgg, rest⟩
theorem BRow.form {w B v xs} (h : BRow w B v xs) : ∃ a cap, v = .slice a xs.length cap ∧ xs.length ≤ cap := by
  rcases h.2 with ⟨rfl, hn⟩ | ⟨g, cap, cur, rfl, hb, hgg, hc, rest⟩
  · exact ⟨none, 0, by rw [hn], by omega⟩
  · exact ⟨_, _, rfl, hc⟩
theorem BRow.rd {w : World} {B a n cap bs} (h : BRow w B (.slice a n cap) bs) : BRd w a bs := by
  intro j c hc
  rcases h.2 with ⟨e, hn⟩ | ⟨g, cap', cur, e, hb, hgg, hcc, hm, hs', ht⟩
  · have : bs = [] := List.eq_nil_of_length_eq_zero hn
    subst this; simp at hc
  · cases e
    refine ⟨g, 0, rfl, ?_⟩
    have := World.ownsRow.cells h (g := g) rfl j (.int .u8 (c.toNat : Int)) (by simp [bvv, hc])
    rw [Addr.add_lit] at this
    exact this
theorem BRow.conv {w : World} {B v bs} (h : BRow w B v bs) : (convert 66 9 v).run Tryz.prog w = .ok (.string (ofB bs)) w := by
  obtain ⟨a, cap, rfl, _⟩ := h.form
  exact h.rd.conv cap
theorem BRow.lit {w : World} {b B : Nat} {c : UInt8} (h : w.heap[b]? = some (.cells #[.int .u8 (c.toNat : Int)] 5 (0, 0))) (hB : B ≤ b) : BRow w B (.slice (some ⟨b, 0, none⟩) 1 1) [c] :=
  ⟨by simp [bvv], .inr ⟨b, 1, _, rfl, hB, h, by simp, by unfold maxLen; omega, by simp, by simp [bvv]⟩⟩
theorem run_appB (w : World) (ty : TypeId) (B : Nat) (v : Value) (bs : Bs) (c : UInt8) (hr : BRow w B v bs) (hB : B ≤ w.heap.size) (hl : bs.length ≤ 10000000) :
    ∃ v' w', (Builtin.append_ #[66, 66] ty #[v, .slice (some ⟨w.heap.size, 0, none⟩) 1 1]).run Tryz.prog (w.alloc (.cells #[.int .u8 (c.toNat : Int)] 5)) = .ok v' w' ∧ BRow w' B v' (bs ++ [c]) ∧ Grw w v w' v' := by
  obtain ⟨i0, hi, hz0, hz1, hz2⟩ := info_parts info5
  have hr2 : BRow (w.alloc (.cells #[.int .u8 (c.toNat : Int)] 5)) B v bs := hr.same fun g e => by rw [Below.heap_alloc]; exact (hr.own g e).2
  obtain ⟨v', w', hrun, hown, hgr, _, hat⟩ := run_append_own_at (P := Tryz.prog) (w.alloc (.cells #[.int .u8 (c.toNat : Int)] 5)) B 66 ty 5 i0 (.int .u8 0) 1 1 Tryz.underlying66 hi hz0 hz1 hz2 rfl (by decide) v bs.length (bvv bs) hr2 ⟨w.heap.size, 0, none⟩ 1 1 [.int .u8 (c.toNat : Int)] rfl (by
    intro j u hu
    exact World.news_of_block (heap_alloc_new w _) j u (by simpa using hu)) (by intro u hu; simp at hu; subst hu; rfl) (by unfold maxLen; omega) (by omega) (by simp; omega)
  refine ⟨v', w', hrun, ?_, (World.grownBy_alloc w _ _).trans hgr, ?_⟩
  · unfold BRow
    rw [List.length_append, show bvv (bs ++ [c]) = bvv bs ++ [.int .u8 (c.toNat : Int)] by simp [bvv]]
    exact hown
  · rcases hat with hat | hat
    · exact .inl hat
    · exact .inr ⟨_, hat, by simp⟩
theorem wpList_appB {ops : Array Oper} {rest : List Oper} {o : Oper} {a : Act} {Q : Exit → Act → World → Prop} (w : World) (hgd : o.guard = none) (sl x : Operand)
    (ho : o.op = .call { callee := .builtin .append, args := #[sl, x], argTypes := #[66, 66] }) (v : Value) (c : UInt8) (hs : a.eval sl = v) (hx : a.eval x = .slice (some ⟨w.heap.size, 0, none⟩) 1 1)
    (B : Nat) (xs : Bs) (hr : BRow w B v xs) (hB : B ≤ w.heap.size) (hl : xs.length ≤ 10000000)
    (k : ∀ v' w', BRow w' B v' (xs ++ [c]) → Grw w v w' v' → wpList Tryz.prog ops Q rest (a.put o.dst v') w') :
    wpList Tryz.prog ops Q (o :: rest) a (w.alloc (.cells #[.int .u8 (c.toNat : Int)] 5)) := by
  refine wpList_plain hgd fun K hK => ?_
  obtain ⟨v', w', hrun, h2, h3⟩ := run_appB w o.type B v xs c hr hB hl
  unfold Oper.wp execOp
  simp only [ho, resolve, invoke, builtin, Sem.run_bind, Sem.run_pure, Result.andThen_ok, List.map_toArray, List.map_cons, List.map_nil, hs, hx, hrun]
  exact hK _ _ (k v' w' h2 h3)
theorem Grw.belowB {w0 w w' : World} {v v' : Value} {B : Nat} (hb : Below B w0 w) (h : Grw w v w' v') (hv : ∀ k, v.ownBlock = some k → B ≤ k) (hB : B ≤ w.heap.size) : Below B w0 w' :=
  ⟨h.1.os.trans hb.os, h.1.tape.trans hb.tape, h.1.output.trans hb.output, Nat.le_trans hb.size h.1.size, fun j hj => (h.1.block j (by omega) (fun e => by have := hv j e.symm; omega)).trans (hb.block j hj)⟩
def quoB (l : Bs) : Bs := 34 :: (l.flatMap dbl ++ [34])
structure QuI (w : World) (s : ByteArray) (gf pos : Nat) (acc : Bs) (v : Value) (wr : World) : Prop where
  bel : Below w.heap.size w wr
  row : BRow wr w.heap.size v acc
  eq : acc = 34 :: (s.data.toList.take pos).flatMap dbl
  fuel : s.size ≤ pos + gf
  le : pos ≤ s.size
theorem QuI.len {w s gf pos acc v wr} (I : QuI w s gf pos acc v wr) (hs : s.size ≤ 1000000) : acc.length ≤ 2000001 := by
  rw [I.eq, List.length_cons]
  have := dbl_len (s.data.toList.take pos)
  rw [List.length_take, len_toList] at this
  omega
theorem QuI.step {w : World} {s : ByteArray} {g pos : Nat} {acc acc' : Bs} {v v' : Value} {wr W : World} (I : QuI w s (g + 1) pos acc v wr) (h : pos < s.size) {c : UInt8} (hc : s.data.toList[pos]? = some c) (hb : Below w.heap.size w W) (hr : BRow W w.heap.size v' acc') (he : acc' = acc ++ dbl c) : QuI w s g (pos + 1) acc' v' W :=
  ⟨hb, hr, by rw [he, I.eq, List.take_add_one, hc]; simp, by have := I.fuel; omega, by omega⟩
set_option maxRecDepth 100000 in
set_option maxHeartbeats 1000000 in
theorem refQuote (s : ByteArray) (hs : s.size ≤ 1000000) (w : World) : Calls Tryz.prog 38 #[.string s] w fun e w' => e = .returned (.string (ofB (quoB s.data.toList))) ∧ Below w.heap.size w w' := by
  go_enter Tryz.func38, Tryz.ntmps38
  go_wp2
  have hI : QuI w s s.size 0 [34] (.slice (some ⟨w.heap.size, 0, none⟩) 1 1) (w.alloc (.cells #[.int .u8 34] 5)) :=
    ⟨(Below.refl _ w).alloc (Nat.le_refl _) _, BRow.lit (c := 34) (heap_alloc_new w _) (Nat.le_refl _), by simp, by omega, by omega⟩
  obtain ⟨W, hW⟩ : ∃ W, W = w.alloc (.cells #[.int .u8 34] 5) := ⟨_, rfl⟩
  rw [← hW] at hI ⊢
  clear hW
  have HI0 := hid hI
  clear hI
  go_loopg [3, 4] s.size (fun gf v ii wr => ∃ (pos : Nat) (acc : Bs), ii = .int .i64 (pos : Int) ∧ QuI w s gf pos acc v wr)
  case atStart => exact ⟨0, [34], rfl, HI0.out⟩
  case round =>
    obtain ⟨pos, acc, rfl, I⟩ := hrel
    have hB1 : w.heap.size ≤ wr.heap.size := I.bel.size
    have Hlen := hid (I.len hs)
    have Hrow := hid I.row
    have HI := hid I
    clear I
    by_cases hps : pos < s.size
    · obtain ⟨g', rfl⟩ : ∃ g', gk = g' + 1 := ⟨gk - 1, by have := HI.out.fuel; omega⟩
      have hps' : (pos : Int) < (s.size : Int) := by omega
      obtain ⟨c, hc, hc1⟩ := atS s pos hps
      have HC1 := hid hc1
      clear hc1
      by_cases hq : c = 34
      · subst hq
        go_wp2_with (first
          | (at_builtin; have hno := hr4; clear hno; refine wpList_appB _ rfl _ _ rfl _ 34 (by rfl) (by rfl) w.heap.size (acc ++ [34]) hr4 (Nat.le_trans hB1 hg4.1.size) (by simp; have := Hlen.out; omega) ?_; intro v5 w5 hr5 hg5)
          | (at_builtin; refine wpList_appB _ rfl _ _ rfl _ 34 (by rfl) (by rfl) w.heap.size acc Hrow.out hB1 (by have := Hlen.out; omega) ?_; intro v4 w4 hr4 hg4))
        go_roundg g'
        case measure => omega
        case rel =>
          have hb4 : Below w.heap.size w w4 := Grw.belowB HI.out.bel hg4 (fun k e => (Hrow.out.own k e).1) hB1
          exact ⟨pos + 1, acc ++ [34] ++ [34], by go_num, HI.out.step hps HC1.out (Grw.belowB hb4 hg5 (fun k e => (hr4.own k e).1) hb4.size) hr5 (by simp [dbl])⟩
      · have hq' : ¬ (c.toNat : Int) = 34 := fun e => hq (UInt8.toNat_inj.1 (by have : (34 : UInt8).toNat = 34 := rfl; omega))
        have HQ := hid hq
        clear hq
        go_wp2_with (at_builtin; refine wpList_appB _ rfl _ _ rfl _ c (by rfl) (by rfl) w.heap.size acc Hrow.out hB1 (by have := Hlen.out; omega) ?_; intro v4 w4 hr4 hg4)
        go_roundg g'
        case measure => omega
        case rel => exact ⟨pos + 1, acc ++ [c], by go_num, HI.out.step hps HC1.out (Grw.belowB HI.out.bel hg4 (fun k e => (Hrow.out.own k e).1) hB1) hr4 (by simp [dbl, HQ.out])⟩
    · have hps' : ¬ (pos : Int) < (s.size : Int) := by omega
      have HP := hid hps
      clear hps
      go_wp2_with (at_builtin; refine wpList_appB _ rfl _ _ rfl _ 34 (by rfl) (by rfl) w.heap.size acc Hrow.out hB1 (by have := Hlen.out; omega) ?_; intro v4 w4 hr4 hg4; have hconv := hr4.conv)
      go_ret
      refine ⟨?_, Grw.belowB HI.out.bel hg4 (fun k e => (Hrow.out.own k e).1) hB1⟩
      have : acc ++ [34] = quoB s.data.toList := by
        rw [HI.out.eq, List.take_of_length_le (by rw [len_toList]; have := HP.out; omega)]
        rfl
      rw [this]
      rfl
theorem dec_step (u : Nat) (acc : Bs) (h : ¬ u / 10 = 0) : Lib.decDigits (u / 10) ++ (UInt8.ofNat (48 + u % 10) :: acc) = Lib.decDigits u ++ acc := by
  have : ¬ u < 10 := by omega
  conv => rhs; rw [Lib.decDigits]
  rw [dif_neg this]
  simp
theorem dec_last (u : Nat) (acc : Bs) (h : u / 10 = 0) : UInt8.ofNat (48 + u % 10) :: acc = Lib.decDigits u ++ acc := by
  have : u < 10 := by omega
  conv => rhs; rw [Lib.decDigits]
  rw [dif_pos this, Nat.mod_eq_of_lt this]
  rfl
theorem abs_nat {n : Int} (h : ¬ n < 0) : n.natAbs = n.toNat := by
  have h6 := Int.toNat_of_nonneg (show 0 ≤ n by omega)
  have h7 := Int.natAbs_of_nonneg (show 0 ≤ n by omega)
  omega
theorem dig_toNat2 (u : Nat) : (UInt8.ofNat (48 + u % 10)).toNat = 48 + u % 10 := dig_toNat _ (by omega)
set_option maxRecDepth 100000 in
set_option maxHeartbeats 1000000 in
theorem refDigits (n : Int) (h0 : -9223372036854775808 ≤ n) (h1 : n ≤ 9223372036854775807) (w : World) : Calls Tryz.prog 37 #[.int .i64 n] w fun e w' => e = .returned (.string (itoB n)) ∧ Below w.heap.size w w' := by
  obtain ⟨U, hU⟩ : ∃ U : Nat, U = n.natAbs := ⟨_, rfl⟩
  have hUb : U ≤ 9223372036854775808 := by omega
  have HDL : Hid ((Lib.decDigits U).length ≤ 30) := hid (by
    have h5 := Lib.itoa_length_le n h0 h1
    unfold Lib.itoa at h5
    split at h5
    · rw [hU]; simp at h5; omega
    · rename_i hnn; rw [hU, abs_nat hnn]; omega)
  by_cases hneg : n < 0
  · have hu1 : IntKind.u64.wrap n = 18446744073709551616 - (U : Int) := by rw [IntKind.wrap_u64]; omega
    have hu2 : IntKind.u64.wrap (-(18446744073709551616 - (U : Int))) = (U : Int) := by rw [IntKind.wrap_u64]; omega
    have HU := hid hU
    have Hneg := hid hneg
    clear hU
    go_enter Tryz.func37, Tryz.ntmps37
    go_wp2
    go_loopg [3, 4] (U + 1) (fun g uu ss wr => ∃ (V : Nat) (acc : Bs), uu = .int .u64 (V : Int) ∧ ss = .string (ofB acc) ∧ V ≤ g ∧ V ≤ U ∧ Lib.decDigits V ++ acc = Lib.decDigits U ∧ Below w.heap.size w wr)
    case atStart => exact ⟨U, [], rfl, rfl, by omega, by omega, by simp, Below.refl _ _⟩
    case round =>
      obtain ⟨V, acc, rfl, rfl, hV, hVU, hD, hbr⟩ := hrel
      have hal : acc.length ≤ 30 := by have h5 := congrArg List.length hD; rw [List.length_append] at h5; have := HDL.out; omega
      obtain ⟨d, hd⟩ : ∃ d, d = UInt8.ofNat (48 + V % 10) := ⟨_, rfl⟩
      have hdn : (d.toNat : Int) = 48 + (V : Int) % 10 := by rw [hd, dig_toNat2]; omega
      have hlit := (BRow.lit (w := wr.alloc (.cells #[.int .u8 (d.toNat : Int)] 5)) (b := wr.heap.size) (B := wr.heap.size) (c := d) (heap_alloc_new wr _) (Nat.le_refl _)).conv
      rw [hdn] at hlit
      obtain ⟨q1, r1, e1, z1⟩ := cat_any (ofB [d]) (ofB acc) (by rw [ofB_size, ofB_size]; simp; omega)
      have hq1 : q1 = ofB (d :: acc) := eq_ofB (by rw [e1, ofB_list, ofB_list]; rfl)
      have Hq := hid hq1
      have HB : Hid (Below w.heap.size w (wr.alloc (.cells #[.int .u8 (48 + (V : Int) % 10)] 5))) := hid (hbr.alloc hbr.size _)
      have HV := hid hV
      have HVU := hid hVU
      have HD := hid hD
      have Hd := hid hd
      obtain ⟨x, hx⟩ : ∃ z, z = ofB [d] := ⟨_, rfl⟩
      obtain ⟨y, hy⟩ : ∃ z, z = ofB acc := ⟨_, rfl⟩
      rw [← hx] at hlit r1
      rw [← hy] at r1 ⊢
      clear hq1 hV hVU hD hd hdn hx hy e1 z1 hal hbr
      have hwq : IntKind.u64.wrap ((V : Int) / 10) = (V : Int) / 10 := by rw [IntKind.wrap_u64]; have := HVU.out; omega
      by_cases hz : V / 10 = 0
      · have hz' : (V : Int) / 10 = 0 := by omega
        have Hz := hid hz
        clear hz
        obtain ⟨q2, r2, e2, z2⟩ := cat_any ⟨#[45]⟩ q1 (by rw [Hq.out, ofB_size]; have h5 := congrArg List.length HD.out; rw [List.length_append] at h5; have := HDL.out; have e5 : (⟨#[45]⟩ : ByteArray).size = 1 := rfl; simp; omega)
        have H2 := hid e2
        clear e2 z2
        go_wp2
        go_ret
        refine ⟨?_, HB.out⟩
        have : q2 = itoB n := by
          unfold itoB
          rw [← list_ofB q2, H2.out, Hq.out, ofB_list, Hd.out, dec_last _ _ Hz.out, HD.out, HU.out]
          unfold Lib.itoa
          rw [if_pos (by have := Hneg.out; omega)]
          rfl
        rw [← this]
        rfl
      · have hz' : ¬ (V : Int) / 10 = 0 := by omega
        have hz2 : (((V : Int) / 10) == 0) = false := by simp; omega
        have Hz := hid hz
        clear hz
        go_wp2
        go_roundg (gk - 1)
        case measure => have := HV.out; have := Hz.out; omega
        case rel => exact ⟨V / 10, d :: acc, rfl, by rw [Hq.out], by have := HV.out; have := Hz.out; omega, by have := HVU.out; omega, by rw [Hd.out, dec_step _ _ Hz.out]; exact HD.out, HB.out⟩
  · have hu1 : IntKind.u64.wrap n = (U : Int) := by rw [IntKind.wrap_u64]; omega
    have HU := hid hU
    have Hneg := hid hneg
    clear hU
    go_enter Tryz.func37, Tryz.ntmps37
    go_wp2
    go_loopg [3, 4] (U + 1) (fun g uu ss wr => ∃ (V : Nat) (acc : Bs), uu = .int .u64 (V : Int) ∧ ss = .string (ofB acc) ∧ V ≤ g ∧ V ≤ U ∧ Lib.decDigits V ++ acc = Lib.decDigits U ∧ Below w.heap.size w wr)
    case atStart => exact ⟨U, [], rfl, rfl, by omega, by omega, by simp, Below.refl _ _⟩
    case round =>
      obtain ⟨V, acc, rfl, rfl, hV, hVU, hD, hbr⟩ := hrel
      have hal : acc.length ≤ 30 := by have h5 := congrArg List.length hD; rw [List.length_append] at h5; have := HDL.out; omega
      obtain ⟨d, hd⟩ : ∃ d, d = UInt8.ofNat (48 + V % 10) := ⟨_, rfl⟩
      have hdn : (d.toNat : Int) = 48 + (V : Int) % 10 := by rw [hd, dig_toNat2]; omega
      have hlit := (BRow.lit (w := wr.alloc (.cells #[.int .u8 (d.toNat : Int)] 5)) (b := wr.heap.size) (B := wr.heap.size) (c := d) (heap_alloc_new wr _) (Nat.le_refl _)).conv
      rw [hdn] at hlit
      obtain ⟨q1, r1, e1, z1⟩ := cat_any (ofB [d]) (ofB acc) (by rw [ofB_size, ofB_size]; simp; omega)
      have hq1 : q1 = ofB (d :: acc) := eq_ofB (by rw [e1, ofB_list, ofB_list]; rfl)
      have Hq := hid hq1
      have HB : Hid (Below w.heap.size w (wr.alloc (.cells #[.int .u8 (48 + (V : Int) % 10)] 5))) := hid (hbr.alloc hbr.size _)
      have HV := hid hV
      have HVU := hid hVU
      have HD := hid hD
      have Hd := hid hd
      obtain ⟨x, hx⟩ : ∃ z, z = ofB [d] := ⟨_, rfl⟩
      obtain ⟨y, hy⟩ : ∃ z, z = ofB acc := ⟨_, rfl⟩
      rw [← hx] at hlit r1
      rw [← hy] at r1 ⊢
      clear hq1 hV hVU hD hd hdn hx hy e1 z1 hal hbr
      have hwq : IntKind.u64.wrap ((V : Int) / 10) = (V : Int) / 10 := by rw [IntKind.wrap_u64]; have := HVU.out; omega
      by_cases hz : V / 10 = 0
      · have hz' : (V : Int) / 10 = 0 := by omega
        have Hz := hid hz
        clear hz
        go_wp2
        go_ret
        refine ⟨?_, HB.out⟩
        have : q1 = itoB n := by
          unfold itoB
          rw [← list_ofB q1, Hq.out, ofB_list, Hd.out, dec_last _ _ Hz.out, HD.out, HU.out]
          unfold Lib.itoa
          rw [if_neg (by have := Hneg.out; omega), abs_nat (by have := Hneg.out; omega)]
          rfl
        rw [← this]
        rfl
      · have hz' : ¬ (V : Int) / 10 = 0 := by omega
        have hz2 : (((V : Int) / 10) == 0) = false := by simp; omega
        have Hz := hid hz
        clear hz
        go_wp2
        go_roundg (gk - 1)
        case measure => have := HV.out; have := Hz.out; omega
        case rel => exact ⟨V / 10, d :: acc, rfl, by rw [Hq.out], by have := HV.out; have := Hz.out; omega, by have := HVU.out; omega, by rw [Hd.out, dec_step _ _ Hz.out]; exact HD.out, HB.out⟩
end Go.Proofs.YtnmbifoinponeaaGreatDoor
