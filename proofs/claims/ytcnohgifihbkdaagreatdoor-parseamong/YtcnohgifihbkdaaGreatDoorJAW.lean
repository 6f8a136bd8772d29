/- The parser: numbers. -/
import Derived.Test.YtcnohgifihbkdaaGreatDoorJAV
import Derived.Lib.AtoiErrMem
namespace Go.Proofs.YtcnohgifihbkdaaGreatDoor
open Go Go.RowKit Go.Deep Go.Shelf
set_option linter.unusedVariables false
set_option linter.unusedSimpArgs false
set_option maxRecDepth 100000
def fdig (acc : Nat) (l : Bsq) : Nat := l.foldl (fun a b => a * 10 + (b.toNat - 48)) acc
theorem fdig_ge : ∀ (l : Bsq) (acc : Nat), acc ≤ fdig acc l
  | [], _ => Nat.le_refl _
  | c :: r, acc => Nat.le_trans (show acc ≤ acc * 10 + (c.toNat - 48) by omega) (fdig_ge r _)
theorem uintM : ∀ (l : Bsq) (acc : Nat), acc ≤ 18446744073709551615 → (∀ c ∈ l, 48 ≤ c.toNat ∧ c.toNat ≤ 57) → Lib.parseUintM 18446744073709551615 acc l = if fdig acc l ≤ 18446744073709551615 then .ok (fdig acc l) else .range
  | [], acc, h, _ => by
    show Lib.NumEnd.ok acc = if acc ≤ 18446744073709551615 then .ok acc else .range
    rw [if_pos h]
  | c :: r, acc, h, hd => by
    have hc := hd c (List.mem_cons_self ..)
    have hr : ∀ x ∈ r, 48 ≤ x.toNat ∧ x.toNat ≤ 57 := fun x hx => hd x (List.mem_cons_of_mem _ hx)
    have hg := fdig_ge r (acc * 10 + (c.toNat - 48))
    have e1 : Lib.parseUintM 18446744073709551615 acc (c :: r) = if 1844674407370955162 ≤ acc then Lib.NumEnd.range else if 18446744073709551615 < acc * 10 + (c.toNat - 48) then .range else Lib.parseUintM 18446744073709551615 (acc * 10 + (c.toNat - 48)) r := by rw [Lib.parseUintM, if_pos hc]
    rw [e1]
    show _ = if fdig (acc * 10 + (c.toNat - 48)) r ≤ 18446744073709551615 then Lib.NumEnd.ok (fdig (acc * 10 + (c.toNat - 48)) r) else Lib.NumEnd.range
    by_cases h1 : 1844674407370955162 ≤ acc
    · rw [if_pos h1, if_neg (by omega)]
    · rw [if_neg h1]
      by_cases h2 : 18446744073709551615 < acc * 10 + (c.toNat - 48)
      · rw [if_pos h2, if_neg (by omega)]
      · rw [if_neg h2]
        exact uintM r _ (by omega) hr
theorem uintB (l : Bsq) (hl : l ≠ []) (hd : ∀ c ∈ l, 48 ≤ c.toNat ∧ c.toNat ≤ 57) : Lib.parseUintB 64 l = if digN l ≤ 18446744073709551615 then .ok (digN l) else .range := by
  unfold Lib.parseUintB
  rw [if_neg hl]
  exact uintM l 0 (by omega) hd
theorem intB (neg : Bool) (l : Bsq) (hl : l ≠ []) (hd : ∀ c ∈ l, 48 ≤ c.toNat ∧ c.toNat ≤ 57) : Lib.parseIntB 64 ((if neg = true then [45] else []) ++ l) = if (if neg = true then digN l > 9223372036854775808 else digN l > 9223372036854775807) then .range else .ok (if neg = true then -(digN l : Int) else (digN l : Int)) := by
  have hu := uintB l hl hd
  have e : (2 : Nat) ^ (64 - 1) = 9223372036854775808 := by decide
  cases neg with
  | true =>
    show Lib.parseIntB 64 (45 :: l) = _
    simp only [if_true]
    unfold Lib.parseIntB
    simp only [show (45 : UInt8).toNat = 45 from rfl, or_true, if_true, hu, e, not_true_eq_false, false_and, if_false, true_and]
    by_cases h : digN l ≤ 18446744073709551615
    · rw [if_pos h]
    · rw [if_neg h]; (try simp only []); (try rw [if_pos (by omega)])
  | false =>
    obtain ⟨c, r, rfl⟩ : ∃ c r, l = c :: r := by cases l with | nil => exact absurd rfl hl | cons c r => exact ⟨c, r, rfl⟩
    have hc := hd c (List.mem_cons_self ..)
    show Lib.parseIntB 64 (c :: r) = _
    simp only [Bool.false_eq_true, if_false]
    unfold Lib.parseIntB
    have n1 : ¬ c.toNat = 45 := by omega
    have n3 : ¬ c.toNat = 43 := by omega
    simp only [n3, n1, or_self, if_false, hu, e, not_false_eq_true, true_and, false_and]
    by_cases h : digN (c :: r) ≤ 18446744073709551615
    · rw [if_pos h]
      by_cases h2 : digN (c :: r) > 9223372036854775807
      · rw [if_pos h2]; simp only []; rw [if_pos (by omega)]
      · rw [if_neg h2]; simp only []; rw [if_neg (by omega)]
    · rw [if_neg h, if_pos (by omega)]
theorem bs_cat (a b : Bsq) : bs a ++ bs b = bs (a ++ b) := by
  apply ByteArray.ext
  rw [ByteArray.data_append]
  simp
theorem parseInt_ok (w : World) (neg : Bool) (l : Bsq) (hl : l ≠ []) (hd : ∀ c ∈ l, 48 ≤ c.toNat ∧ c.toNat ≤ 57) (hn : l.length ≤ 5000) (h : ¬ (if neg = true then digN l > 9223372036854775808 else digN l > 9223372036854775807)) : Calls Tryz.prog 247 #[.string (bs ((if neg = true then [45] else []) ++ l)), .int .i64 10, .int .i64 64] w fun e w' => e = .returned (.tuple #[.int .i64 (if neg = true then -(digN l : Int) else (digN l : Int)), .nilIface]) ∧ Below w.heap.size w w' := by
  have hsz : (bs ((if neg = true then [45] else []) ++ l)).size ≤ 5001 := by
    show ((if neg = true then [45] else []) ++ l).toArray.size ≤ 5001
    rw [List.size_toArray, List.length_append]; cases neg <;> simp <;> omega
  refine (Any.strconv_ParseInt_10_at64_ok Tryz.lays174 _ (by omega) _ ((intB neg l hl hd).trans (if_neg h)) w).mono ?_
  rintro e w' ⟨h1, h2⟩
  refine ⟨h1, ?_⟩
  rcases h2 with rfl | ⟨t, rfl⟩
  · exact Below.refl _ _
  · exact Lib.bytesWorld_below _ _ _
theorem parseInt_range (w : World) (neg : Bool) (l : Bsq) (hG : Gl w) (hl : l ≠ []) (hd : ∀ c ∈ l, 48 ≤ c.toNat ∧ c.toNat ≤ 57) (hn : l.length ≤ 5000) (h : (if neg = true then digN l > 9223372036854775808 else digN l > 9223372036854775807)) : Calls Tryz.prog 247 #[.string (bs ((if neg = true then [45] else []) ++ l)), .int .i64 10, .int .i64 64] w fun e w' => ∃ (n : Int) (N : Nat), e = .returned (.tuple #[.int .i64 n, .iface 240 (.pointer (some ⟨N, 0, none⟩))]) ∧ Below w.heap.size w w' := by
  have hsz : (bs ((if neg = true then [45] else []) ++ l)).size ≤ 5001 := by
    show ((if neg = true then [45] else []) ++ l).toArray.size ≤ 5001
    rw [List.size_toArray, List.length_append]; cases neg <;> simp <;> omega
  obtain ⟨tp, p, T, hg⟩ := hG
  refine (Any.strconv_ParseInt_10_at64_range Tryz.lays174 _ (by omega) ((intB neg l hl hd).trans (if_pos h)) (.iface tp p) w ((cellOf hg 0).trans rfl) (Or.inr ⟨tp, p, rfl⟩)).mono ?_
  rintro e w' ⟨N, h1, h2, h3, h4⟩
  exact ⟨_, N, h1, h4⟩
theorem cat_run (neg : Bool) (l : Bsq) (hn : l.length ≤ 5000) (W : World) : (Op.stringOp .add (bs (if neg = true then [45] else [])) (bs l)).run Tryz.prog W = .ok (.string (bs ((if neg = true then [45] else []) ++ l))) W := by
  have h := run_string_add_sum (P := Tryz.prog) W (bs (if neg = true then [45] else [])) (bs l) (by
    show (if neg = true then ([45] : Bsq) else []).toArray.size + l.toArray.size ≤ 9223372036854775807
    rw [List.size_toArray, List.size_toArray]; cases neg <;> simp <;> omega)
  rw [bs_cat] at h
  exact h
set_option maxHeartbeats 1000000 in
theorem number_go (w : World) (P D : Nat) (s : PS) (neg : Bool) (HP : Pst w P D s) (hk : (nxt s).kind = 3) : Calls Tryz.prog 245 #[.pointer (some ⟨P, 0, none⟩), .string (bs (if neg = true then [45] else []))] w (Rt RI P D w (number neg s)) := by
  have HG := World.grownBy.refl w (some P)
  have hPw := HP.lt
  have hD := HP.dw
  have hPD := HP.pd
  have t0 := True.intro
  have ht := nxt_ok HP.ok
  obtain ⟨hne, hdg⟩ := ht.nu hk
  have htl := ht.tl
  have hGl := HP.gl
  have HK : (nxt s).kind ≠ 0 := by rw [hk]; decide
  have hcat := fun W => cat_run neg (nxt s).text htl W
  have hdg := hid hdg
  have hGl := hid hGl
  have hne := hid hne
  have hk := hid hk
  generalize hq : (if neg = true then ([45] : Bsq) else []) = sg at hcat ⊢
  by_cases hr : (if neg = true then digN (nxt s).text > 9223372036854775808 else digN (nxt s).text > 9223372036854775807)
  · have H := hid (show number neg s = .error ((nxt s).pos, 73) from if_pos hr)
    have hr := hid hr
    have hq := hid hq
    go_enter Tryz.func245, Tryz.ntmps245
    go_wp2_with (first
      | (have hno := t2; (go_at_call 41; (refine (next_any _ _ D _ (Pst.to HP (by intro HP; with_reducible repeat first | exact HP | apply pA | refine pS (by omega) ?_))).mono ?_; rintro e w3 ⟨rfl, hb⟩; have hg := bgrown hb (some P); have hs := Pst.below (Pst.to HP (by intro HP; with_reducible repeat first | exact HP | apply pA | refine pS (by omega) ?_)) hb; obtain ⟨hcw3, hfw3⟩ := gcell hg; have hzw3 := hg.size; (try simp only [szA, szS] at hzw3); have hPw3 := hs.lt; have hleww3 := le1 w w3 (by omega); (try have hltww3 := lt1 w w3 (by omega)); have hlew1w3 := le1 w1 w3 (by omega); (try have hltw1w3 := lt1 w1 w3 (by omega)); have hlew2w3 := le1 w2 w3 (by omega); (try have hltw2w3 := lt1 w2 w3 (by omega)); have HG := gtrans (Gw.to HG (by intro HG; with_reducible repeat first | exact HG | apply gA | apply gB | refine gS (by omega) ?_)) hg; have HP := hs; have hGw3 := hg; have t3 := True.intro; (try clear hg hs); unfold tokV)))
      | (have hno := t1; (go_at_call 247; (refine (show Calls Tryz.prog 247 #[.string (bs (sg ++ (nxt s).text)), .int .i64 10, .int .i64 64] _ _ from hq.out ▸ parseInt_range _ neg _ (HP.gl) hne.out hdg.out htl hr.out).mono ?_; rintro e w2 ⟨nn, N, rfl, hb⟩; have hg := bgrown hb (some P); have hs := Pst.below (Pst.to HP (by intro HP; with_reducible repeat first | exact HP | apply pA | refine pS (by omega) ?_)) hb; obtain ⟨hcw2, hfw2⟩ := gcell hg; have hzw2 := hg.size; (try simp only [szA, szS] at hzw2); have hPw2 := hs.lt; have hleww2 := le1 w w2 (by omega); (try have hltww2 := lt1 w w2 (by omega)); have hlew1w2 := le1 w1 w2 (by omega); (try have hltw1w2 := lt1 w1 w2 (by omega)); have HG := gtrans (Gw.to HG (by intro HG; with_reducible repeat first | exact HG | apply gA | apply gB | refine gS (by omega) ?_)) hg; have HP := hs; have hGw2 := hg; have t2 := True.intro; (try clear hg hs))))
      | (have hno := t0; (go_at_call 41; (refine (next_any _ _ D _ (Pst.to HP (by intro HP; with_reducible repeat first | exact HP | apply pA | refine pS (by omega) ?_))).mono ?_; rintro e w1 ⟨rfl, hb⟩; have hg := bgrown hb (some P); have hs := Pst.below (Pst.to HP (by intro HP; with_reducible repeat first | exact HP | apply pA | refine pS (by omega) ?_)) hb; obtain ⟨hcw1, hfw1⟩ := gcell hg; have hzw1 := hg.size; (try simp only [szA, szS] at hzw1); have hPw1 := hs.lt; have hleww1 := le1 w w1 (by omega); (try have hltww1 := lt1 w w1 (by omega)); have HG := gtrans (Gw.to HG (by intro HG; with_reducible repeat first | exact HG | apply gA | apply gB | refine gS (by omega) ?_)) hg; have HP := hs; have hGw1 := hg; have t1 := True.intro; (try clear hg hs); unfold tokV)))
      )
    exact ⟨rfl, Rt.err H.out (Gw.to HG (by intro HG; with_reducible repeat first | exact HG | apply gA | apply gB | refine gS (by omega) ?_))⟩
  · have H := hid (show number neg s = bd take (fun _ => ret (if neg = true then -(digN (nxt s).text : Int) else (digN (nxt s).text : Int))) s from if_neg hr)
    have hr := hid hr
    have hq := hid hq
    generalize hv : (if neg = true then -(digN (nxt s).text : Int) else (digN (nxt s).text : Int)) = nv at H
    have hv := hid hv
    go_enter Tryz.func245, Tryz.ntmps245
    go_wp2_with (first
      | (have hno := t2; (go_at_call 75; (refine (take_any _ _ D _ (Pst.to HP (by intro HP; with_reducible repeat first | exact HP | apply pA | refine pS (by omega) ?_)) HK).mono ?_; intro e w3 hrt; rcases hrt.go (W := w) (Gw.to HG (by intro HG; with_reducible repeat first | exact HG | apply gA | apply gB | refine gS (by omega) ?_)) with ⟨f, hx, rfl, hg⟩ | ⟨a, s1, v, hx, rfl, hv, HP, hGw3, HG, hcw3, hfw3, hzw3, hPw3⟩; exact ⟨rfl, Rt.err (H.out.trans (bd_err hx)) hg⟩; (have hv2 : v = tokV a := hv; subst hv2; unfold tokV); have H := hid (H.out.trans (bd_ok hx)); (try simp only [szA, szS] at hzw3); have hleww3 := le1 w w3 (by omega); (try have hltww3 := lt1 w w3 (by omega)); have hlew1w3 := le1 w1 w3 (by omega); (try have hltw1w3 := lt1 w1 w3 (by omega)); have hlew2w3 := le1 w2 w3 (by omega); (try have hltw2w3 := lt1 w2 w3 (by omega)); have t3 := True.intro)))
      | (have hno := t1; (go_at_call 247; (refine (show Calls Tryz.prog 247 #[.string (bs (sg ++ (nxt s).text)), .int .i64 10, .int .i64 64] _ _ from hq.out ▸ parseInt_ok _ neg _ hne.out hdg.out htl hr.out).mono ?_; rintro e w2 ⟨rfl, hb⟩; have hg := bgrown hb (some P); have hs := Pst.below (Pst.to HP (by intro HP; with_reducible repeat first | exact HP | apply pA | refine pS (by omega) ?_)) hb; obtain ⟨hcw2, hfw2⟩ := gcell hg; have hzw2 := hg.size; (try simp only [szA, szS] at hzw2); have hPw2 := hs.lt; have hleww2 := le1 w w2 (by omega); (try have hltww2 := lt1 w w2 (by omega)); have hlew1w2 := le1 w1 w2 (by omega); (try have hltw1w2 := lt1 w1 w2 (by omega)); have HG := gtrans (Gw.to HG (by intro HG; with_reducible repeat first | exact HG | apply gA | apply gB | refine gS (by omega) ?_)) hg; have HP := hs; have hGw2 := hg; have t2 := True.intro; (try clear hg hs); rw [hv.out])))
      | (have hno := t0; (go_at_call 41; (refine (next_any _ _ D _ (Pst.to HP (by intro HP; with_reducible repeat first | exact HP | apply pA | refine pS (by omega) ?_))).mono ?_; rintro e w1 ⟨rfl, hb⟩; have hg := bgrown hb (some P); have hs := Pst.below (Pst.to HP (by intro HP; with_reducible repeat first | exact HP | apply pA | refine pS (by omega) ?_)) hb; obtain ⟨hcw1, hfw1⟩ := gcell hg; have hzw1 := hg.size; (try simp only [szA, szS] at hzw1); have hPw1 := hs.lt; have hleww1 := le1 w w1 (by omega); (try have hltww1 := lt1 w w1 (by omega)); have HG := gtrans (Gw.to HG (by intro HG; with_reducible repeat first | exact HG | apply gA | apply gB | refine gS (by omega) ?_)) hg; have HP := hs; have hGw1 := hg; have t1 := True.intro; (try clear hg hs); unfold tokV)))
      )
    go_ret
    exact Rt.ok (H.out.trans rfl) rfl (Pst.to HP (by intro HP; with_reducible repeat first | exact HP | apply pA | refine pS (by omega) ?_)) (Gw.to HG (by intro HG; with_reducible repeat first | exact HG | apply gA | apply gB | refine gS (by omega) ?_))
theorem numC : NumC := fun w P D s neg HP hk => number_go w P D s neg HP hk
end Go.Proofs.YtcnohgifihbkdaaGreatDoor

namespace Go.Proofs.YtcnohgifihbkdaaGreatDoor
open Go Go.RowKit Go.Deep Go.Shelf
set_option linter.unusedVariables false
set_option linter.unusedSimpArgs false
set_option maxRecDepth 100000
def zeroTree : Value := .agg #[.slice none 0 0, .slice none 0 0, .slice none 0 0, .slice none 0 0]
def ParP (w : World) (r : Except Flt PTr) (e : Ending) (w' : World) : Prop := match r with
  | .error f => e = .returned (.tuple #[zeroTree, .int .i64 f.1, .int .i64 f.2]) ∧ Below w.heap.size w w'
  | .ok t => ∃ v, e = .returned (.tuple #[v, .int .i64 0, .int .i64 0]) ∧ RTr w' (fun g => w.heap.size ≤ g ∧ g < w'.heap.size) v t ∧ Below w.heap.size w w'
theorem ParP.err {w : World} {r : Except Flt PTr} {f : Flt} {e : Ending} {w' : World} (h : r = .error f) (he : e = .returned (.tuple #[zeroTree, .int .i64 f.1, .int .i64 f.2])) (hb : Below w.heap.size w w') : ParP w r e w' := by rw [h]; exact ⟨he, hb⟩
theorem ParP.ok {w : World} {r : Except Flt PTr} {t : PTr} {e : Ending} {w' : World} {v : Value} (h : r = .ok t) (he : e = .returned (.tuple #[v, .int .i64 0, .int .i64 0])) (hv : RTr w' (fun g => w.heap.size ≤ g ∧ g < w'.heap.size) v t) (hb : Below w.heap.size w w') : ParP w r e w' := by rw [h]; exact ⟨v, he, hv, hb⟩
/- The parser's box, newly made. -/
theorem pst_new {w : World} {ts : List Lx.LTok} {g cap : Nat} {cur : Array Value} (hg : w.heap[g]? = some (.cells cur 69 (0, 0))) (hgs : g < w.heap.size) (hr : Lx.TRd w (some ⟨g, 0, none⟩) ts) (hc : ts.length ≤ cap) (ok : okL (ts.map toP)) (ln : ts.length ≤ 4097) (gl : Gl w) (h7 : 7 < w.heap.size) :
    Pst (w.alloc (.cells #[.slice (some ⟨g, 0, none⟩) ts.length cap, .int .i64 0, .bool false] 61)) w.heap.size (w.heap.size + 1) ⟨ts.map toP, 0, false⟩ := by
  have hb : Below w.heap.size w (w.alloc (.cells #[.slice (some ⟨g, 0, none⟩) ts.length cap, .int .i64 0, .bool false] 61)) := (Below.refl _ _).alloc (Nat.le_refl _) _
  refine ⟨⟨g, 0, cap, cur, ?_, by rw [List.length_map]; exact hc, (hb.block g hgs).trans hg, by omega, ?_⟩, ok, by show (ts.map toP).length ≤ 5000; rw [List.length_map]; omega, ?_, by omega, h7, by rw [World.size_alloc]; exact Nat.le_refl _⟩
  · have q := Box.new w #[.slice (some ⟨g, 0, none⟩) ts.length cap, .int .i64 0, .bool false] 61
    show (w.alloc _).heap[w.heap.size]? = some (.cells #[.slice (some ⟨g, 0, none⟩) (ts.map toP).length cap, .int .i64 0, .bool false] 61 (0, 0))
    rw [List.length_map]
    exact q
  · intro j t ht
    rw [show (PS.toks ⟨ts.map toP, 0, false⟩) = ts.map toP from rfl, List.getElem?_map] at ht
    obtain ⟨lt, h1, h2⟩ := Option.map_eq_some_iff.1 ht
    subst h2
    obtain ⟨b, off, e, hcell⟩ := hr j lt h1
    cases e
    have c0 := hcell 0 (by omega)
    have c1 := hcell 1 (by omega)
    have c2 := hcell 2 (by omega)
    rw [cellOf hg] at c0 c1 c2
    exact ⟨c0, c1, c2⟩
  · obtain ⟨tp, p, T, h⟩ := gl
    exact ⟨tp, p, T, (hb.block 7 h7).trans h⟩
theorem gl_below {w w' : World} (h : Gl w) (k : Below w.heap.size w w') : Gl w' := by
  obtain ⟨tp, p, T, q⟩ := h
  exact ⟨tp, p, T, (k.block 7 (lt_of_heap q)).trans q⟩
theorem mx_below {w w' : World} (h : Lx.MX w) (k : Below w.heap.size w w') : Lx.MX w' := by
  obtain ⟨m, hm⟩ := h
  have hz : 0 < w.heap.size := by
    unfold World.cell? at hm
    split at hm
    · rename_i hq; exact lt_of_heap hq
    · cases hm
  exact ⟨m, (World.cell?_of_block (k.block 0 hz)).trans hm⟩
abbrev w3of (w : World) : World := ((w.alloc (.cells #[.slice none 0 0, .slice none 0 0, .slice none 0 0, .slice none 0 0] 25)).alloc (.cells #[.int .i64 0] 3)).alloc (.cells #[.int .i64 0] 26)
theorem w3_facts (w : World) : Below w.heap.size w (w3of w) ∧ (w3of w).heap.size = w.heap.size + 3 ∧ Box w.heap.size #[.slice none 0 0, .slice none 0 0, .slice none 0 0, .slice none 0 0] 25 (w3of w) ∧ Box (w.heap.size + 1) #[.int .i64 0] 3 (w3of w) ∧ Box (w.heap.size + 2) #[.int .i64 0] 26 (w3of w) := by
  refine ⟨(((Below.refl _ _).alloc (Nat.le_refl _) _).alloc (by rw [World.size_alloc]; omega) _).alloc (by rw [World.size_alloc, World.size_alloc]; omega) _, by rw [World.size_alloc, World.size_alloc, World.size_alloc], ((Box.new _ _ _).alloc _).alloc _, ?_, ?_⟩
  · have q := Box.new (w.alloc (.cells #[.slice none 0 0, .slice none 0 0, .slice none 0 0, .slice none 0 0] 25)) #[.int .i64 0] 3
    rw [World.size_alloc] at q
    exact q.alloc _
  · have q := Box.new ((w.alloc (.cells #[.slice none 0 0, .slice none 0 0, .slice none 0 0, .slice none 0 0] 25)).alloc (.cells #[.int .i64 0] 3)) #[.int .i64 0] 26
    rw [World.size_alloc, World.size_alloc] at q
    exact q
theorem leave_end {tmps : Array Value} {R : Ending → World → Prop} {W : World} {b0 b1 b2 : Nat} {x0 x1 x2 x3 : Value} {a e : Int} (h2 : tmps[2]?.getD undef = .pointer (some ⟨b0, 0, none⟩)) (h3 : tmps[3]?.getD undef = .pointer (some ⟨b1, 0, none⟩)) (h4 : tmps[4]?.getD undef = .pointer (some ⟨b2, 0, none⟩)) (H0 : Box b0 #[x0, x1, x2, x3] 25 W) (H1 : Box b1 #[.int .i64 a] 3 W) (H2 : Box b2 #[.int .i64 e] 26 W) (hR : R (.returned (.tuple #[.agg #[x0, x1, x2, x3], .int .i64 a, .int .i64 e])) W) : Leaves Tryz.prog Tryz.f9 tmps R [] .returning W := by
  have q0 : W.cell? ⟨b0, 0, none⟩ = some x0 := H0.cell rfl
  have q1 : W.cell? ⟨b0, 1, none⟩ = some x1 := H0.cell rfl
  have q2 : W.cell? ⟨b0, 2, none⟩ = some x2 := H0.cell rfl
  have q3 : W.cell? ⟨b0, 3, none⟩ = some x3 := H0.cell rfl
  have q4 : W.cell? ⟨b1, 0, none⟩ = some (.int .i64 a) := H1.cell rfl
  have q5 : W.cell? ⟨b2, 0, none⟩ = some (.int .i64 e) := H2.cell rfl
  exact ⟨_, by simp [results, Tryz.results9, go_sem, h2, h3, h4, q0, q1, q2, q3, q4, q5], hR⟩
theorem Box.put1 {b : Nat} {x v : Value} {T : TypeId} {w : World} (h : Box b #[x] T w) : Box b #[v] T (w.setCell ⟨b, 0, none⟩ v) := h.put 0
theorem bset {w W : World} {B b i : Nat} {v : Value} (h : Below B w W) (hb : B ≤ b) : Below B w (W.setCell ⟨b, i, none⟩ v) := h.setCell (p := ⟨b, i, none⟩) hb v
theorem bgrow {w W W' : World} {B P : Nat} (h : Below B w W) (hB : B ≤ W.heap.size) (k : W.grownBy W' (some P)) (hP : B ≤ P) : Below B w W' := h.trans ⟨k.os, k.tape, k.output, k.size, fun j hj => k.block j (by omega) (fun e => by have := Option.some.inj e; omega)⟩
set_option maxHeartbeats 1000000 in
theorem parse_err (w : World) (s : ByteArray) (hs : s.size ≤ 9223372036854775807) (hm : Lx.MX w) (hG : Gl w) (p : Nat × Nat) (hx : Lx.lexT s.data.toList = .error p) (hp : p.2 ≠ 0) : Calls Tryz.prog 9 #[.string s] w fun e w' => e = .returned (.tuple #[zeroTree, .int .i64 p.1, .int .i64 p.2]) ∧ Below w.heap.size w w' := by
  have hmf : ∀ (fn : Fn) (first cap : Array Value) (w : World), (Instr.makeFunc fn first cap).run Tryz.prog w = .ok (.func fn first cap) w := fun _ _ _ _ => rfl
  have hm3 : Lx.MX (((w.alloc (.cells #[.slice none 0 0, .slice none 0 0, .slice none 0 0, .slice none 0 0] 25)).alloc (.cells #[.int .i64 0] 3)).alloc (.cells #[.int .i64 0] 26)) := by
    exact mx_below hm (w3_facts w).1
  have hpn : ((p.2 : Int) != 0) = true := by simpa using hp
  go_enter_defers Tryz.func9, Tryz.ntmps9
  go_wp2_with (go_at_call 16; (refine (Lx.tokens_any s hs _ hm3).mono ?_; rw [hx]; rintro e w1 ⟨rfl, hb⟩; obtain ⟨b3, z3, B0, B1, B2⟩ := w3_facts w; have hlt := B2.lt; have C0 := B0.below hb; have C1 := B1.below hb; have C2 := B2.below hb; have c00 : w1.cell? ⟨w.heap.size, 0, none⟩ = some (.slice none 0 0) := C0.cell rfl; have c01 : w1.cell? ⟨w.heap.size, 1, none⟩ = some (.slice none 0 0) := C0.cell rfl; have c02 : w1.cell? ⟨w.heap.size, 2, none⟩ = some (.slice none 0 0) := C0.cell rfl; have c03 : w1.cell? ⟨w.heap.size, 3, none⟩ = some (.slice none 0 0) := C0.cell rfl; have c10 : w1.cell? ⟨w.heap.size + 1, 0, none⟩ = some (.int .i64 0) := C1.cell rfl; have c20 : w1.cell? ⟨w.heap.size + 2, 0, none⟩ = some (.int .i64 0) := C2.cell rfl; have g0 := freeOf C0; have g1 := freeOf C1; have g2 := freeOf C2; have hbw := hb))
  go_region
  all_goals go_wp2
  all_goals (refine leaves_cons (f := 14) (args := #[.pointer (some ⟨w.heap.size + 1, 0, none⟩), .pointer (some ⟨w.heap.size + 1 + 1, 0, none⟩)]) (by simp) (by simp [go_sem]) ?_)
  all_goals (refine (catch_idle (w.heap.size + 1) (w.heap.size + 1 + 1) _).mono ?_)
  all_goals (rintro e u' w'' ⟨rfl, rfl, rfl⟩)
  all_goals (refine leave_end (a := p.1) (e := p.2) rfl rfl rfl (Box.drw (Box.set (Box.set (Bx.put4 ⟨_, rfl, Box.set (Box.set C0 (by omega)) (by omega)⟩) (by omega)) (by omega))) (Box.drw (Box.set (Box.put1 (Box.set (Box.set (Box.set (Box.set (Box.set (Box.put1 C1) (by omega)) (by omega)) (by omega)) (by omega)) (by omega))) (by omega))) (Box.drw (Box.put1 (Box.set (Box.set (Box.set (Box.set (Box.set (Box.put1 (Box.set C2 (by omega))) (by omega)) (by omega)) (by omega)) (by omega)) (by omega)))) ⟨rfl, ?_⟩)
  all_goals exact (bset (bset (bset (bset (bset (bset (bset (bset (b3.trans (hbw.mono (by simp only [World.size_alloc]; omega))) (by omega)) (by omega)) (by omega)) (by omega)) (by omega)) (by omega)) (by omega)) (by omega)).drew

theorem trow_open {w' : World} {B : Nat} {ts : List Lx.LTok} {e : Ending} (h : ∃ v, e = .returned (.tuple #[v, .int .i64 0, .int .i64 0]) ∧ Lx.TRow w' B v ts) (hne : ts ≠ []) : ∃ (g cap : Nat) (cur : Array Value), e = .returned (.tuple #[.slice (some ⟨g, 0, none⟩) ts.length cap, .int .i64 0, .int .i64 0]) ∧ w'.heap[g]? = some (.cells cur 69 (0, 0)) ∧ Lx.TRd w' (some ⟨g, 0, none⟩) ts ∧ ts.length ≤ cap := by
  obtain ⟨v, rfl, h2⟩ := h
  rcases h2.2 with ⟨e, hn⟩ | ⟨g, cap, cur, e, hB, hgg, hc, hm, hs', ht⟩
  · exact absurd (List.eq_nil_of_length_eq_zero hn) hne
  · subst e; exact ⟨g, cap, cur, rfl, hgg, h2.rd, hc⟩
theorem gl_lt {w : World} (h : Gl w) : 7 < w.heap.size := by
  obtain ⟨tp, p, T, q⟩ := h
  exact lt_of_heap q
theorem w2_pst {w w1 : World} {ts : List Lx.LTok} {g cap : Nat} {cur : Array Value} (hg : w1.heap[g]? = some (.cells cur 69 (0, 0))) (hr : Lx.TRd w1 (some ⟨g, 0, none⟩) ts) (hc : ts.length ≤ cap) (ok : okL (ts.map toP)) (ln : ts.length ≤ 4097) (gl : Gl w1) (hz : w.heap.size + 3 ≤ w1.heap.size) (h7 : 7 < w.heap.size) (h0 : Box (w.heap.size + 1) #[.int .i64 0] 3 w1) (h1 : Box (w.heap.size + 1 + 1) #[.int .i64 0] 26 w1) :
    Pst (((w1.setCell ⟨w.heap.size + 1, 0, none⟩ (.int .i64 0)).setCell ⟨w.heap.size + 1 + 1, 0, none⟩ (.int .i64 0)).alloc (.cells #[.slice (some ⟨g, 0, none⟩) ts.length cap, .int .i64 0, .bool false] 61)) w1.heap.size (w1.heap.size + 1) ⟨ts.map toP, 0, false⟩ := by
  have n1 : g ≠ w.heap.size + 1 := by rintro rfl; rw [h0] at hg; cases hg
  have n2 : g ≠ w.heap.size + 1 + 1 := by rintro rfl; rw [h1] at hg; cases hg
  have hz2 : ((w1.setCell ⟨w.heap.size + 1, 0, none⟩ (.int .i64 0)).setCell ⟨w.heap.size + 1 + 1, 0, none⟩ (.int .i64 0)).heap.size = w1.heap.size := by rw [World.size_setCell, World.size_setCell]
  have hgs := lt_of_heap hg
  have k : ∀ j, j ≠ w.heap.size + 1 → j ≠ w.heap.size + 1 + 1 → ((w1.setCell ⟨w.heap.size + 1, 0, none⟩ (.int .i64 0)).setCell ⟨w.heap.size + 1 + 1, 0, none⟩ (.int .i64 0)).heap[j]? = w1.heap[j]? := fun j q1 q2 => (Below.heap_setCell _ ⟨w.heap.size + 1 + 1, 0, none⟩ _ _ q2).trans (Below.heap_setCell _ ⟨w.heap.size + 1, 0, none⟩ _ _ q1)
  have q := pst_new (w := ((w1.setCell ⟨w.heap.size + 1, 0, none⟩ (.int .i64 0)).setCell ⟨w.heap.size + 1 + 1, 0, none⟩ (.int .i64 0))) (ts := ts) (g := g) (cap := cap) (cur := cur) ((k g n1 n2).trans hg) (by rw [hz2]; exact hgs) (fun j h e => by
    obtain ⟨b, off, e1, hc⟩ := hr j h e
    refine ⟨b, off, e1, fun i hi => ?_⟩
    cases e1
    exact (World.cell?_of_block (k g n1 n2)).trans (hc i hi)) hc ok ln (by
    obtain ⟨tp, p, T, q⟩ := gl
    exact ⟨tp, p, T, (k 7 (by omega) (by omega)).trans q⟩) (by rw [hz2]; omega)
  rw [hz2] at q
  exact q
set_option maxHeartbeats 1000000 in
theorem parse_go (w : World) (s : ByteArray) (hs : s.size ≤ 9223372036854775807) (hm : Lx.MX w) (hG : Gl w) (ts : List Lx.LTok) (hx : Lx.lexT s.data.toList = .ok ts) : Calls Tryz.prog 9 #[.string s] w (ParP w (source 5000 (ts.map toP))) := by
  have hmf : ∀ (fn : Fn) (first cap : Array Value) (w : World), (Instr.makeFunc fn first cap).run Tryz.prog w = .ok (.func fn first cap) w := fun _ _ _ _ => rfl
  have hm3 := mx_below hm (w3_facts w).1
  have hok := lexT_ok hx
  have hne := Lx.lexT_ne hx
  have HX := hid hx
  have HS := hid (show source 5000 (ts.map toP) = match sourceL 5000 5000 ⟨[], [], [], []⟩ ⟨ts.map toP, 0, false⟩ with | .error e => .error e | .ok (t, _) => .ok t from rfl)
  clear hx
  go_enter_defers Tryz.func9, Tryz.ntmps9
  go_wp2_with ((go_at_call 16; (refine (Lx.tokens_any s hs _ hm3).mono ?_; rw [HX.out]; rintro e w1 ⟨hrow, hb⟩; obtain ⟨g, cap, cur, rfl, hgg, hrd, hcap⟩ := trow_open hrow hne; obtain ⟨b3, z3, B0, B1, B2⟩ := w3_facts w; have hlt := B2.lt; have C0 := B0.below hb; have C1 := B1.below hb; have C2 := B2.below hb; have c00 : w1.cell? ⟨w.heap.size, 0, none⟩ = some (.slice none 0 0) := C0.cell rfl; have c01 : w1.cell? ⟨w.heap.size, 1, none⟩ = some (.slice none 0 0) := C0.cell rfl; have c02 : w1.cell? ⟨w.heap.size, 2, none⟩ = some (.slice none 0 0) := C0.cell rfl; have c03 : w1.cell? ⟨w.heap.size, 3, none⟩ = some (.slice none 0 0) := C0.cell rfl; have c10 : w1.cell? ⟨w.heap.size + 1, 0, none⟩ = some (.int .i64 0) := C1.cell rfl; have c20 : w1.cell? ⟨w.heap.size + 2, 0, none⟩ = some (.int .i64 0) := C2.cell rfl; have g0 := freeOf C0; have g1 := freeOf C1; have g2 := freeOf C2; have hbw := hid hb; have hz1 : w.heap.size + 3 ≤ w1.heap.size := (by have := hb.size; simp only [World.size_alloc] at this; omega); have HPST := hid (w2_pst (w := w) hgg hrd hcap hok.1 hok.2 (gl_below hG (b3.trans (hb.mono (by simp only [World.size_alloc]; omega)))) hz1 (gl_lt hG) C1 C2); clear hrow hrd)))
  go_at_call 17
  refine (source_any _ w1.heap.size (w1.heap.size + 1) 5000 ⟨ts.map toP, 0, false⟩ HPST.out (by decide) numC (parseT_fed hok.2)).mono ?_
  have E0 : Box w.heap.size #[.slice none 0 0, .slice none 0 0, .slice none 0 0, .slice none 0 0] 25 (((w1.setCell ⟨w.heap.size + 1, 0, none⟩ (.int .i64 0)).setCell ⟨w.heap.size + 1 + 1, 0, none⟩ (.int .i64 0)).alloc (.cells #[.slice (some ⟨g, 0, none⟩) ts.length cap, .int .i64 0, .bool false] 61)) := (Box.set (Box.set C0 (by omega)) (by omega)).alloc _
  have E1 : Box (w.heap.size + 1) #[.int .i64 0] 3 (((w1.setCell ⟨w.heap.size + 1, 0, none⟩ (.int .i64 0)).setCell ⟨w.heap.size + 1 + 1, 0, none⟩ (.int .i64 0)).alloc (.cells #[.slice (some ⟨g, 0, none⟩) ts.length cap, .int .i64 0, .bool false] 61)) := (Box.set (Box.put1 C1) (by omega)).alloc _
  have E2 : Box (w.heap.size + 1 + 1) #[.int .i64 0] 26 (((w1.setCell ⟨w.heap.size + 1, 0, none⟩ (.int .i64 0)).setCell ⟨w.heap.size + 1 + 1, 0, none⟩ (.int .i64 0)).alloc (.cells #[.slice (some ⟨g, 0, none⟩) ts.length cap, .int .i64 0, .bool false] 61)) := (Box.put1 (Box.set C2 (by omega))).alloc _
  have EB : Below w.heap.size w (((w1.setCell ⟨w.heap.size + 1, 0, none⟩ (.int .i64 0)).setCell ⟨w.heap.size + 1 + 1, 0, none⟩ (.int .i64 0)).alloc (.cells #[.slice (some ⟨g, 0, none⟩) ts.length cap, .int .i64 0, .bool false] 61)) := (bset (bset (b3.trans (hbw.out.mono (by simp only [World.size_alloc]; omega))) (by omega)) (by omega)).alloc (by rw [World.size_setCell, World.size_setCell]; omega) _
  have hz4 : (((w1.setCell ⟨w.heap.size + 1, 0, none⟩ (.int .i64 0)).setCell ⟨w.heap.size + 1 + 1, 0, none⟩ (.int .i64 0)).alloc (.cells #[.slice (some ⟨g, 0, none⟩) ts.length cap, .int .i64 0, .bool false] 61)).heap.size = w1.heap.size + 1 := by rw [World.size_alloc, World.size_setCell, World.size_setCell]
  clear HPST C0 C1 C2 c00 c01 c02 c03 c10 c20 g0 g1 g2 hgg hm3
  generalize (((w1.setCell ⟨w.heap.size + 1, 0, none⟩ (.int .i64 0)).setCell ⟨w.heap.size + 1 + 1, 0, none⟩ (.int .i64 0)).alloc (.cells #[.slice (some ⟨g, 0, none⟩) ts.length cap, .int .i64 0, .bool false] 61)) = w4 at E0 E1 E2 EB hz4 ⊢
  intro e w5 hrt
  have hz4 := hid hz4
  rcases hrt.cases with ⟨f, hx, rfl, hg⟩ | ⟨t, s', v, hx, rfl, hv, hs', hg⟩
  · have F0 := E0.call hg (by omega)
    have F1 := E1.call hg (by omega)
    have F2 := E2.call hg (by omega)
    have FB := bgrow EB (by have := hz4.out; omega) hg (by omega)
    refine leaves_cons (f := 14) (args := #[.pointer (some ⟨w.heap.size + 1, 0, none⟩), .pointer (some ⟨w.heap.size + 1 + 1, 0, none⟩)]) (by simp) (by simp [go_sem]) ?_
    refine (catch_panicking (w.heap.size + 1) (w.heap.size + 1 + 1) f.1 f.2 0 0 _ F1 F2 (by omega)).mono ?_
    rintro e u' w'' ⟨rfl, rfl, w6, hb6, rfl⟩
    have hl5 := F2.lt
    refine leave_end (a := f.1) (e := f.2) rfl rfl rfl (Box.set (Box.set (F0.below hb6) (by omega)) (by omega)) (Box.set (Box.put1 (F1.below hb6)) (by omega)) (Box.put1 (Box.set (F2.below hb6) (by omega))) ?_
    exact ParP.err (HS.out.trans (by rw [hx])) rfl (bset (bset (FB.trans (hb6.mono (by omega))) (by omega)) (by omega))
  · obtain ⟨v0, v1, v2, v3, rfl, L0, L1, L2, L3⟩ := hv
    obtain ⟨a0, k0, rfl⟩ := L0.form
    obtain ⟨a1, k1, rfl⟩ := L1.form
    obtain ⟨a2, k2, rfl⟩ := L2.form
    obtain ⟨a3, k3, rfl⟩ := L3.form
    have F0 := E0.call hg (by omega)
    have F1 := E1.call hg (by omega)
    have F2 := E2.call hg (by omega)
    have FB := bgrow EB (by have := hz4.out; omega) hg (by omega)
    have hl5 := F2.lt
    have d00 : w5.cell? ⟨w.heap.size, 0, none⟩ = some (.slice none 0 0) := F0.cell rfl
    have d01 : w5.cell? ⟨w.heap.size, 1, none⟩ = some (.slice none 0 0) := F0.cell rfl
    have d02 : w5.cell? ⟨w.heap.size, 2, none⟩ = some (.slice none 0 0) := F0.cell rfl
    have d03 : w5.cell? ⟨w.heap.size, 3, none⟩ = some (.slice none 0 0) := F0.cell rfl
    have d10 : w5.cell? ⟨w.heap.size + 1, 0, none⟩ = some (.int .i64 0) := F1.cell rfl
    have d20 : w5.cell? ⟨w.heap.size + 1 + 1, 0, none⟩ = some (.int .i64 0) := F2.cell rfl
    have g0 := freeOf F0
    have g1 := freeOf F1
    have g2 := freeOf F2
    have hFB := hid FB
    have hHG := hid hg
    have hL0 := hid L0
    have hL1 := hid L1
    have hL2 := hid L2
    have hL3 := hid L3
    clear FB hg hs' hrt L0 L1 L2 L3
    go_wp2
    refine leaves_cons (f := 14) (args := #[.pointer (some ⟨w.heap.size + 1, 0, none⟩), .pointer (some ⟨w.heap.size + 1 + 1, 0, none⟩)]) (by simp) (by simp [go_sem]) ?_
    refine (catch_idle (w.heap.size + 1) (w.heap.size + 1 + 1) _).mono ?_
    rintro e u' w'' ⟨rfl, rfl, rfl⟩
    refine leave_end (a := 0) (e := 0) rfl rfl rfl (Box.set (Box.set (Bx.put4 ⟨_, rfl, F0⟩) (by omega)) (by omega)) (Box.set (Box.put1 (Box.set (Box.set (Box.set (Box.set F1 (by omega)) (by omega)) (by omega)) (by omega))) (by omega)) (Box.put1 (Box.set (Box.set (Box.set (Box.set (Box.set F2 (by omega)) (by omega)) (by omega)) (by omega)) (by omega))) ?_
    have hz4' := hz4.out
    have n0 : ¬ (w4.heap.size ≤ w.heap.size ∧ w.heap.size < w5.heap.size) := by rintro ⟨q1, q2⟩; omega
    have n1 : ¬ (w4.heap.size ≤ w.heap.size + 1 ∧ w.heap.size + 1 < w5.heap.size) := by rintro ⟨q1, q2⟩; omega
    have n2 : ¬ (w4.heap.size ≤ w.heap.size + 1 + 1 ∧ w.heap.size + 1 + 1 < w5.heap.size) := by rintro ⟨q1, q2⟩; omega
    refine ParP.ok (t := t) (HS.out.trans (by rw [hx])) rfl ⟨_, _, _, _, rfl, hL0.out.mv LD_mv (by repeat (first | (with_reducible exact Same.refl _ _) | ((with_reducible apply Same.set); rotate_left; (first | exact n0 | exact n1 | exact n2)))) (by rintro g ⟨q1, q2⟩; simp only [World.size_setCell]; exact ⟨by omega, q2⟩), hL1.out.mv LD_mv (by repeat (first | (with_reducible exact Same.refl _ _) | ((with_reducible apply Same.set); rotate_left; (first | exact n0 | exact n1 | exact n2)))) (by rintro g ⟨q1, q2⟩; simp only [World.size_setCell]; exact ⟨by omega, q2⟩), hL2.out.mv LD_mv (by repeat (first | (with_reducible exact Same.refl _ _) | ((with_reducible apply Same.set); rotate_left; (first | exact n0 | exact n1 | exact n2)))) (by rintro g ⟨q1, q2⟩; simp only [World.size_setCell]; exact ⟨by omega, q2⟩), hL3.out.mv LD_mv (by repeat (first | (with_reducible exact Same.refl _ _) | ((with_reducible apply Same.set); rotate_left; (first | exact n0 | exact n1 | exact n2)))) (by rintro g ⟨q1, q2⟩; simp only [World.size_setCell]; exact ⟨by omega, q2⟩)⟩ ?_
    exact bset (bset (bset (bset (bset (bset hFB.out (by omega)) (by omega)) (by omega)) (by omega)) (by omega)) (by omega)
theorem parse_any (w : World) (s : ByteArray) (hs : s.size ≤ 9223372036854775807) (hm : Lx.MX w) (hG : Gl w) : Calls Tryz.prog 9 #[.string s] w (ParP w (parseT s.data.toList)) := by
  cases hx : Lx.lexT s.data.toList with
  | error p =>
    have e : parseT s.data.toList = .error ((p.1 : Int), (p.2 : Int)) := by unfold parseT; rw [hx]
    rw [e]
    exact (parse_err w s hs hm hG p hx (Lx.lexT_err_ne hx)).mono fun e w' h => h
  | ok ts =>
    have e : parseT s.data.toList = source 5000 (ts.map toP) := by unfold parseT; rw [hx]
    rw [e]
    exact parse_go w s hs hm hG ts hx
end Go.Proofs.YtcnohgifihbkdaaGreatDoor

namespace Go.Proofs.YtcnohgifihbkdaaGreatDoor
open Go Go.RowKit Go.Deep Go.Shelf
set_option linter.unusedVariables false
set_option linter.unusedSimpArgs false
set_option maxRecDepth 100000
theorem Lst.at {α : Type} {E : TypeId} {k : Nat} {R : World → (Nat → Prop) → List Value → α → Prop} {w : World} {A : Nat → Prop} {v : Value} {l : List α} (h : Lst E k R w A v l) {j : Nat} {x : α} (hj : l[j]? = some x) : ∃ (g off cap : Nat) (r : List Value), v = .slice (some ⟨g, off, none⟩) l.length cap ∧ l.length ≤ cap ∧ g < w.heap.size ∧ A g ∧ R w (fun g => A g ∧ v.ownBlock ≠ some g) r x ∧ ∀ i, i < k → w.cell? ⟨g, off + j * k + i, none⟩ = r[i]? := by
  obtain ⟨rows, ⟨h1, h1'⟩, h2, h3⟩ := h
  obtain ⟨a, cap, hv, hc, hr, _, _⟩ := h1.rd
  have hjl : j < rows.length := by rw [h2]; exact (List.getElem?_eq_some_iff.1 hj).1
  have hrj : rows[j]? = some rows[j] := List.getElem?_eq_getElem hjl
  obtain ⟨g, off, rfl, hg, hcell⟩ := hr j _ hrj
  refine ⟨g, off, cap, rows[j], by rw [hv, h2], by omega, hg, h1' g ?_, h3 j _ _ hrj hj, hcell⟩
  rcases h1.1.2 with ⟨e, _⟩ | ⟨g', cap', cur, e, _⟩
  · rw [e] at hv; cases hv
  · rw [e] at hv ⊢; cases hv; rfl
/- A row of statements as it is read. -/
theorem SsR.at {w : World} {A : Nat → Prop} {v : Value} {l : List PSt} (h : SsR w A v l) {j : Nat} {s : PSt} (hj : l[j]? = some s) : ∃ (g off cap : Nat) (av bv ev : Value) (xs : List PEx) (b e : List PSt), v = .slice (some ⟨g, off, none⟩) l.length cap ∧ l.length ≤ cap ∧ g < w.heap.size ∧ A g ∧ (XsR w A av xs ∧ s.args = xs.map pkE) ∧ (SsR w A bv b ∧ s.body = b.map pkS) ∧ (SsR w A ev e ∧ s.els = e.map pkS) ∧ ∀ i, i < 8 → w.cell? ⟨g, off + j * 8 + i, none⟩ = (sC s av bv ev)[i]? := by
  obtain ⟨k, rows, ⟨h1, h1'⟩, h2, h3⟩ := h
  obtain ⟨a, cap, hv, hc, hr, _, _⟩ := h1.rd
  have hjl : j < rows.length := by rw [h2]; exact (List.getElem?_eq_some_iff.1 hj).1
  have hrj : rows[j]? = some rows[j] := List.getElem?_eq_getElem hjl
  obtain ⟨g, off, rfl, hg, hcell⟩ := hr j _ hrj
  have hAg : A g := by
    refine h1' g ?_
    rcases h1.1.2 with ⟨e, _⟩ | ⟨g', cap', cur, e, _⟩
    · rw [e] at hv; cases hv
    · rw [e] at hv ⊢; cases hv; rfl
  have hS := h3 j _ _ hrj hj
  generalize rows[j] = r at hS hcell
  cases k with
  | zero => exact hS.elim
  | succ k =>
    obtain ⟨av, bv, ev, xs, rb, re, bd', el, rfl, q1, ⟨q2, q3, q4⟩, q5, q6, q7⟩ := hS
    exact ⟨g, off, cap, av, bv, ev, xs, bd', el, by rw [hv, h2], by omega, hg, hAg, q1, ⟨⟨k, rb, q2, q4⟩, q3⟩, ⟨⟨k, re, q5, q7⟩, q6⟩, hcell⟩
/- A row of expressions as it is read. -/
theorem XsR.at {w : World} {A : Nat → Prop} {v : Value} {l : List PEx} (h : XsR w A v l) {j : Nat} {s : PEx} (hj : l[j]? = some s) : ∃ (g off cap : Nat) (nv av : Value) (xs : List PEx), v = .slice (some ⟨g, off, none⟩) l.length cap ∧ l.length ≤ cap ∧ g < w.heap.size ∧ A g ∧ Rws 9 1 w A nv (nmR s.names) ∧ (XsR w A av xs ∧ s.args = xs.map pkE) ∧ ∀ i, i < 8 → w.cell? ⟨g, off + j * 8 + i, none⟩ = (eC s nv av)[i]? := by
  obtain ⟨k, rows, ⟨h1, h1'⟩, h2, h3⟩ := h
  obtain ⟨a, cap, hv, hc, hr, _, _⟩ := h1.rd
  have hjl : j < rows.length := by rw [h2]; exact (List.getElem?_eq_some_iff.1 hj).1
  have hrj : rows[j]? = some rows[j] := List.getElem?_eq_getElem hjl
  obtain ⟨g, off, rfl, hg, hcell⟩ := hr j _ hrj
  have hAg : A g := by
    refine h1' g ?_
    rcases h1.1.2 with ⟨e, _⟩ | ⟨g', cap', cur, e, _⟩
    · rw [e] at hv; cases hv
    · rw [e] at hv ⊢; cases hv; rfl
  have hS := h3 j _ _ hrj hj
  generalize rows[j] = r at hS hcell
  cases k with
  | zero => exact hS.elim
  | succ k =>
    obtain ⟨nv, av, rs, es, rfl, q1, q2, q3, q4⟩ := hS
    exact ⟨g, off, cap, nv, av, es, by rw [hv, h2], by omega, hg, hAg, q1, ⟨⟨k, rs, q2, q4⟩, q3⟩, hcell⟩
theorem SsR.slice {w : World} {A : Nat → Prop} {v : Value} {l : List PSt} (h : SsR w A v l) : ∃ (a : Option Addr) (c : Nat), v = .slice a l.length c ∧ l.length ≤ c := by
  obtain ⟨k, rows, ⟨h1, h1'⟩, h2, h3⟩ := h
  obtain ⟨a, cap, hv, hc, _, _, _⟩ := h1.rd
  exact ⟨a, cap, by rw [hv, h2], by omega⟩
theorem XsR.slice {w : World} {A : Nat → Prop} {v : Value} {l : List PEx} (h : XsR w A v l) : ∃ (a : Option Addr) (c : Nat), v = .slice a l.length c ∧ l.length ≤ c := by
  obtain ⟨k, rows, ⟨h1, h1'⟩, h2, h3⟩ := h
  obtain ⟨a, cap, hv, hc, _, _, _⟩ := h1.rd
  exact ⟨a, cap, by rw [hv, h2], by omega⟩
theorem pkS_eq {a b : PSt} (h : pkS a = pkS b) : a.kind = b.kind ∧ a.name = b.name ∧ a.label = b.label ∧ a.var = b.var ∧ a.args = b.args ∧ a.body = b.body ∧ a.els = b.els ∧ a.pos = b.pos := by
  unfold pkS at h
  simp only [Value.agg.injEq, Array.mk.injEq, List.cons.injEq, Value.int.injEq, Value.string.injEq, true_and, and_true] at h
  obtain ⟨h1, h2, h3, h4, h5, h6, h7, h8⟩ := h
  refine ⟨h1, bs_inj h2, bs_inj h3, bs_inj h4, ?_, ?_, ?_, h8⟩
  · simpa using h5
  · simpa using h6
  · simpa using h7
/- The first handler, its only statement. -/
def knA : Bsq := [111, 110, 32, 101, 40, 41, 32, 123, 32, 120, 58, 32, 119, 104, 105, 108, 101, 32, 116, 114, 117, 101, 32, 123, 32, 98, 114, 101, 97, 107, 32, 120, 59, 32, 125, 32, 125]
def knB : Bsq := [111, 110, 32, 101, 40, 41, 32, 123, 32, 49, 59, 32, 125]
theorem knB_is : parseT knB = .error (9, 70) := by kernel_rfl
def knS : PSt := ⟨6, [], [120], [], [pkE ⟨3, 0, 1, [], [], [], [], 18⟩], [pkS ⟨8, [120], [], [], [], [], [], 25⟩], [], 9⟩
theorem knA_is : parseT knA = .ok ⟨[], [], [], [⟨[101], [], [], [], [], [pkS knS], 0⟩]⟩ := by kernel_rfl
end Go.Proofs.YtcnohgifihbkdaaGreatDoor

namespace Go.Proofs.YtcnohgifihbkdaaGreatDoor
open Go Go.RowKit Go.Deep Go.Shelf
set_option linter.unusedVariables false
set_option linter.unusedSimpArgs false
set_option maxRecDepth 100000
theorem map_one {b : List PSt} {s : PSt} (h : [pkS s] = b.map pkS) : ∃ s', b = [s'] ∧ pkS s' = pkS s := by
  cases b with
  | nil => simp at h
  | cons s' r =>
    cases r with
    | nil => exact ⟨s', rfl, by simpa using h.symm⟩
    | cons x y => simp at h
theorem cell_keep {w w' : World} {B g o : Nat} {v : Value} (h : Below B w w') (hg : g < B) (hc : w.cell? ⟨g, o, none⟩ = some v) : w'.cell? ⟨g, o, none⟩ = some v := (World.cell?_of_block (h.block g hg)).trans hc
theorem cell_alloc {w : World} {g o : Nat} {v : Value} (hg : g < w.heap.size) (hc : w.cell? ⟨g, o, none⟩ = some v) (q : Obj) : (w.alloc q).cell? ⟨g, o, none⟩ = some v := cell_keep ((Below.refl _ _).alloc (Nat.le_refl _) _) hg hc
theorem sC_eq {s s' : PSt} (h : pkS s' = pkS s) (av bv ev : Value) : sC s' av bv ev = sC s av bv ev := by
  obtain ⟨h1, h2, h3, h4, _, _, _, h8⟩ := pkS_eq h
  unfold sC
  rw [h1, h2, h3, h4, h8]
/- The only handler's body. -/
theorem ev_body {w : World} {A : Nat → Prop} {v : Value} {t : PTr} {d : PDc} (h : RTr w A v t) (he : t.events = [d]) : ∃ (a0 a1 a2 : Option Addr) (n0 n1 n2 k0 k1 k2 g off cap : Nat) (ab : Option Addr) (cb : Nat) (b : List PSt), v = .agg #[.slice a0 n0 k0, .slice a1 n1 k1, .slice a2 n2 k2, .slice (some ⟨g, off, none⟩) 1 cap] ∧ 1 ≤ cap ∧ g < w.heap.size ∧ w.cell? ⟨g, off + 5, none⟩ = some (.slice ab b.length cb) ∧ b.length ≤ cb ∧ SsR w A (.slice ab b.length cb) b ∧ d.body = b.map pkS := by
  obtain ⟨v0, v1, v2, v3, rfl, L0, L1, L2, L3⟩ := h
  obtain ⟨a0, k0, rfl⟩ := L0.form
  obtain ⟨a1, k1, rfl⟩ := L1.form
  obtain ⟨a2, k2, rfl⟩ := L2.form
  rw [he] at L3
  obtain ⟨g, off, cap, r, rfl, hc, hg, hA, ⟨pv, bv, b, rfl, hp, hs, hb⟩, hcell⟩ := L3.at (j := 0) rfl
  obtain ⟨ab, cb, rfl, hcb⟩ := hs.slice
  have h5 := hcell 5 (by omega)
  rw [Nat.zero_mul, Nat.add_zero] at h5
  exact ⟨a0, a1, a2, _, _, _, k0, k1, k2, g, off, cap, ab, cb, b, rfl, hc, hg, h5, hcb, hs.mv (Same.refl _ _) (fun g h => h.1), hb⟩
theorem body_one {w : World} {A : Nat → Prop} {v : Value} {b : List PSt} {s : PSt} (h : SsR w A v b) (hb : [pkS s] = b.map pkS) : ∃ (g off cap : Nat) (av bv ev : Value) (xs : List PEx) (b e : List PSt), v = .slice (some ⟨g, off, none⟩) 1 cap ∧ 1 ≤ cap ∧ g < w.heap.size ∧ (XsR w A av xs ∧ s.args = xs.map pkE) ∧ (SsR w A bv b ∧ s.body = b.map pkS) ∧ (SsR w A ev e ∧ s.els = e.map pkS) ∧ ∀ i, i < 8 → w.cell? ⟨g, off + i, none⟩ = (sC s av bv ev)[i]? := by
  obtain ⟨s', rfl, hs⟩ := map_one hb
  obtain ⟨g, off, cap, av, bv, ev, xs, b, e, rfl, hc, hg, _, q1, q2, q3, hcell⟩ := h.at (j := 0) rfl
  obtain ⟨_, _, _, _, h5, h6, h7, _⟩ := pkS_eq hs
  refine ⟨g, off, cap, av, bv, ev, xs, b, e, rfl, hc, hg, ⟨q1.1, by rw [← h5]; exact q1.2⟩, ⟨q2.1, by rw [← h6]; exact q2.2⟩, ⟨q3.1, by rw [← h7]; exact q3.2⟩, fun i hi => ?_⟩
  have := hcell i hi
  rw [Nat.zero_mul, Nat.add_zero] at this
  rw [this, sC_eq hs]
theorem parseA (w : World) (hm : Lx.MX w) (hG : Gl w) : Calls Tryz.prog 9 #[.string ⟨#[111, 110, 32, 101, 40, 41, 32, 123, 32, 120, 58, 32, 119, 104, 105, 108, 101, 32, 116, 114, 117, 101, 32, 123, 32, 98, 114, 101, 97, 107, 32, 120, 59, 32, 125, 32, 125]⟩] w fun e w' => ∃ (a0 a1 a2 : Option Addr) (n0 n1 n2 k0 k1 k2 g off cap g2 off2 cap2 : Nat), e = .returned (.tuple #[.agg #[.slice a0 n0 k0, .slice a1 n1 k1, .slice a2 n2 k2, .slice (some ⟨g, off, none⟩) 1 cap], .int .i64 0, .int .i64 0]) ∧ (1 : Int) ≤ (cap : Int) ∧ g < w'.heap.size ∧ w'.cell? ⟨g, off + 5, none⟩ = some (.slice (some ⟨g2, off2, none⟩) 1 cap2) ∧ (1 : Int) ≤ (cap2 : Int) ∧ g2 < w'.heap.size ∧ w'.cell? ⟨g2, off2 + 2, none⟩ = some (.string ⟨#[120]⟩) ∧ Below w.heap.size w w' := by
  refine (parse_any w _ (by decide) hm hG).mono ?_
  intro e w' h
  have e1 : parseT (ByteArray.mk #[111, 110, 32, 101, 40, 41, 32, 123, 32, 120, 58, 32, 119, 104, 105, 108, 101, 32, 116, 114, 117, 101, 32, 123, 32, 98, 114, 101, 97, 107, 32, 120, 59, 32, 125, 32, 125]).data.toList = .ok ⟨[], [], [], [⟨[101], [], [], [], [], [pkS knS], 0⟩]⟩ := knA_is
  rw [e1] at h
  obtain ⟨v, rfl, hR, hb⟩ := h
  obtain ⟨a0, a1, a2, n0, n1, n2, k0, k1, k2, g, off, cap, ab, cb, b, rfl, hc, hg, h5, hcb, hS, hB⟩ := ev_body hR rfl
  obtain ⟨g2, off2, cap2, av, bv, ev, xs, b', e', hv, hc2, hg2, _, _, _, hcell⟩ := body_one hS hB
  have h2 := hcell 2 (by omega)
  rw [hv] at h5
  exact ⟨a0, a1, a2, n0, n1, n2, k0, k1, k2, g, off, cap, g2, off2, cap2, rfl, by omega, hg, h5, by omega, hg2, h2, hb⟩
theorem parseB (w : World) (hm : Lx.MX w) (hG : Gl w) : Calls Tryz.prog 9 #[.string ⟨#[111, 110, 32, 101, 40, 41, 32, 123, 32, 49, 59, 32, 125]⟩] w fun e w' => e = .returned (.tuple #[zeroTree, .int .i64 9, .int .i64 70]) ∧ Below w.heap.size w w' := by
  refine (parse_any w _ (by decide) hm hG).mono ?_
  intro e w' h
  have e1 : parseT (ByteArray.mk #[111, 110, 32, 101, 40, 41, 32, 123, 32, 49, 59, 32, 125]).data.toList = .error (9, 70) := knB_is
  rw [e1] at h
  exact h
set_option maxHeartbeats 1000000 in
theorem known_any (w : World) (hm : Lx.MX w) (hG : Gl w) : Calls Tryz.prog 8 #[] w fun e w' => e = .returned (.bool true) ∧ Below w.heap.size w w' := by
  have t0 := True.intro
  have H1 := hid hm
  have H2 := hid hG
  go_enter Tryz.func8, Tryz.ntmps8
  go_wp2_with (first
    | (have hno := t1; (go_at_call 9; (refine (parseB _ (mx_below (mx_below H1.out hb1.out) ((Below.refl _ _).alloc (Nat.le_refl _) _)) (gl_below (gl_below H2.out hb1.out) ((Below.refl _ _).alloc (Nat.le_refl _) _))).mono ?_; rintro e w2 ⟨rfl, hb⟩; unfold zeroTree; obtain ⟨hc2, hf2⟩ := bcell hb; have hz2 := hb.size; (simp only [World.size_alloc] at hz2); have hlt : w1.heap.size < w2.heap.size := (by omega); have k5 := cell_alloc (by omega) (cell_keep hb (by rw [World.size_alloc]; omega) (cell_alloc hg h5 _)); have k2 := cell_alloc (by omega) (cell_keep hb (by rw [World.size_alloc]; omega) (cell_alloc hg2 h2 _)); have hb2 := hid hb; clear hb)))
    | (have hno := t0; (go_at_call 9; (refine (parseA _ hm hG).mono ?_; rintro e w1 ⟨a0, a1, a2, n0, n1, n2, k0, k1, k2, g, off, cap, g2, off2, cap2, rfl, hc, hg, h5, hcb, hg2, h2, hb⟩; have hz1 := hb.size; have hb1 := hid hb; have t1 := True.intro; clear hb)))
    )
  refine bodyPost_ret (v := .bool true) (by simp [results, Tryz.results8, go_sem]) rfl ⟨rfl, ((((hb1.out.alloc hz1 _).trans (hb2.out.mono (by rw [World.size_alloc]; omega))).alloc (by omega) _))⟩
end Go.Proofs.YtcnohgifihbkdaaGreatDoor

namespace Go.Proofs.YtcnohgifihbkdaaGreatDoor
open Go Go.RowKit Go.Deep Go.Shelf
set_option linter.unusedVariables false
set_option linter.unusedSimpArgs false
set_option maxRecDepth 100000
def Ans (w : World) (p q : Int) (e : Ending) (w' : World) : Prop := ∃ (a0 a1 a2 a3 : Option Addr) (n0 n1 n2 n3 k0 k1 k2 k3 : Nat), e = .returned (.tuple #[.agg #[.slice a0 n0 k0, .slice a1 n1 k1, .slice a2 n2 k2, .slice a3 n3 k3], .int .i64 p, .int .i64 q]) ∧ Below w.heap.size w w'
theorem ans_err {w : World} {s : ByteArray} {f : Flt} (hs : s.size ≤ 9223372036854775807) (hm : Lx.MX w) (hG : Gl w) (h : parseT s.data.toList = .error f) : Calls Tryz.prog 9 #[.string s] w (Ans w f.1 f.2) :=
  (parse_any w s hs hm hG).mono fun e w' q => by rw [h] at q; exact ⟨none, none, none, none, 0, 0, 0, 0, 0, 0, 0, 0, q.1, q.2⟩
theorem ans_ok {w : World} {s : ByteArray} {t : PTr} (hs : s.size ≤ 9223372036854775807) (hm : Lx.MX w) (hG : Gl w) (h : parseT s.data.toList = .ok t) : Calls Tryz.prog 9 #[.string s] w (Ans w 0 0) :=
  (parse_any w s hs hm hG).mono fun e w' q => by
    rw [h] at q
    obtain ⟨v, q1, ⟨v0, v1, v2, v3, rfl, L0, L1, L2, L3⟩, q3⟩ := q
    obtain ⟨a0, k0, rfl⟩ := L0.form
    obtain ⟨a1, k1, rfl⟩ := L1.form
    obtain ⟨a2, k2, rfl⟩ := L2.form
    obtain ⟨a3, k3, rfl⟩ := L3.form
    exact ⟨_, _, _, _, _, _, _, _, _, _, _, _, q1, q3⟩
set_option maxHeartbeats 1000000 in
theorem among_out (w : World) (s : ByteArray) (n : Int) (h : 2000 < s.size ∨ n < 0 ∨ (s.size : Int) ≤ n) (hm : Lx.MX w) (hG : Gl w) : Calls Tryz.prog 7 #[.string s, .int .i64 n] w fun e w' => e = .returned (.bool true) ∧ Below w.heap.size w w' := by
  have t0 := True.intro
  by_cases g1 : (2000 : Int) < (s.size : Int)
  · go_enter Tryz.func7, Tryz.ntmps7
    go_wp2_with ((have hno := t0; (go_at_call 8; (refine (known_any _ hm hG).mono ?_; rintro e w1 ⟨rfl, hb⟩; have hz1 := hid hb.size; have hb1 := hid hb; have t1 := True.intro; clear hb))))
    refine bodyPost_ret (v := .bool true) (by simp [results, Tryz.results7, go_sem]) rfl ⟨rfl, hb1.out⟩
  · by_cases g2 : n < 0
    · go_enter Tryz.func7, Tryz.ntmps7
      go_wp2_with ((have hno := t0; (go_at_call 8; (refine (known_any _ hm hG).mono ?_; rintro e w1 ⟨rfl, hb⟩; have hz1 := hid hb.size; have hb1 := hid hb; have t1 := True.intro; clear hb))))
      refine bodyPost_ret (v := .bool true) (by simp [results, Tryz.results7, go_sem]) rfl ⟨rfl, hb1.out⟩
    · have g3 : (s.size : Int) ≤ n := by omega
      go_enter Tryz.func7, Tryz.ntmps7
      go_wp2_with ((have hno := t0; (go_at_call 8; (refine (known_any _ hm hG).mono ?_; rintro e w1 ⟨rfl, hb⟩; have hz1 := hid hb.size; have hb1 := hid hb; have t1 := True.intro; clear hb))))
      refine bodyPost_ret (v := .bool true) (by simp [results, Tryz.results7, go_sem]) rfl ⟨rfl, hb1.out⟩
set_option maxHeartbeats 2000000 in
theorem among_err (w : World) (s : ByteArray) (n : Nat) (h1 : s.size ≤ 2000) (h2 : n < s.size) {f : Flt} (h : parseT s.data.toList = .error f) (hm : Lx.MX w) (hG : Gl w) : Calls Tryz.prog 7 #[.string s, .int .i64 (n : Int)] w fun e w' => e = .returned (.bool true) ∧ Below w.heap.size w w' := by
  have t0 := True.intro
  have g1 : ¬ (2000 : Int) < (s.size : Int) := by omega
  have g2 : ¬ (n : Int) < 0 := by omega
  have g3 : ¬ (s.size : Int) ≤ (n : Int) := by omega
  have g4 : ¬ f.2 = 0 := parse_ne h
  have A1 := hid (fun (W : World) (k : Below w.heap.size w W) => ans_err (w := W) (s := s) (by omega) (mx_below hm k) (gl_below hG k) h)
  obtain ⟨p, q⟩ := f
  have g4 : ¬ q = 0 := g4
  have HM := hid hm
  have HG := hid hG
  clear h hm hG
  go_enter Tryz.func7, Tryz.ntmps7
  go_wp2_with ((have hno := t0; (go_at_call 8; (refine (known_any _ HM.out HG.out).mono ?_; rintro e w1 ⟨rfl, hb⟩; have hz1 := hid hb.size; have hb1 := hid hb; have t1 := True.intro; clear hb))))
  refine (A1.out _ hb1.out).mono ?_
  rintro e w2 ⟨a0, a1, a2, a3, n0, n1, n2, n3, k0, k1, k2, k3, rfl, hb⟩
  have hb2 := hid (hb1.out.trans (hb.mono hz1.out))
  have hz2 := hid hb2.out.size
  have t2 := True.intro
  clear hb
  go_wp2
  exact bodyPost_ret (v := .bool true) (by simp [results, Tryz.results7, go_sem]) rfl ⟨rfl, hb2.out.alloc hz2.out _⟩
theorem ext_list (s : ByteArray) (n : Nat) : (s.extract 0 n).data.toList = s.data.toList.take n := by
  rw [Lx.extract_toList]; rfl
set_option maxHeartbeats 2000000 in
theorem among_yes (w : World) (s : ByteArray) (n : Nat) (h1 : s.size ≤ 2000) (h2 : n < s.size) {tr : PTr} (h : parseT s.data.toList = .ok tr) {tq : PTr} (hq : parseT (s.data.toList.take n) = .ok tq) (hm : Lx.MX w) (hG : Gl w) : Calls Tryz.prog 7 #[.string s, .int .i64 (n : Int)] w fun e w' => e = .returned (.bool true) ∧ Below w.heap.size w w' := by
  have t0 := True.intro
  have g1 : ¬ (2000 : Int) < (s.size : Int) := by omega
  have g2 : ¬ (n : Int) < 0 := by omega
  have g3 : ¬ (s.size : Int) ≤ (n : Int) := by omega
  have A1 := hid (fun (W : World) (k : Below w.heap.size w W) => ans_ok (w := W) (s := s) (by omega) (mx_below hm k) (gl_below hG k) h)
  have hxs : (s.extract 0 n).size = n := Lx.ext_size s 0 n (by omega)
  have hsl : ∀ W, (Instr.slice 9 (.string s) none (some (.int .i64 (n : Int))) none).run Tryz.prog W = .ok (.string (s.extract 0 n)) W := fun W => by
    have : (n : Int) ≤ (s.size : Int) := by omega
    go_simp
  have HM := hid hm
  have HG := hid hG
  have HP := hid h
  generalize hc : s.extract 0 n = c at *
  have hcl : c.data.toList = s.data.toList.take n := by rw [← hc]; exact ext_list s n
  have hcs : c.size ≤ 9223372036854775807 := by omega
  rw [← hcl] at hq
  have A2 := hid (fun (W : World) (k : Below w.heap.size w W) => ans_ok (w := W) (s := c) hcs (mx_below hm k) (gl_below hG k) hq)
  clear hq
  clear h hm hG hc hcl hcs
  go_enter Tryz.func7, Tryz.ntmps7
  go_wp2_with ((have hno := t0; (go_at_call 8; (refine (known_any _ HM.out HG.out).mono ?_; rintro e w1 ⟨rfl, hb⟩; have hz1 := hid hb.size; have hb1 := hid hb; have t1 := True.intro; clear hb))))
  refine (A1.out _ hb1.out).mono ?_
  rintro e w2 ⟨a0, a1, a2, a3, n0, n1, n2, n3, k0, k1, k2, k3, rfl, hb⟩
  have hb2 := hid (hb1.out.trans (hb.mono hz1.out))
  have hz2 := hid hb2.out.size
  have t2 := True.intro
  clear hb
  go_wp2_with ((have hno := t2; (go_at_call 9; (refine (A2.out _ (hb2.out.alloc hz2.out (.cells #[.slice a0 n0 k0, .slice a1 n1 k1, .slice a2 n2 k2, .slice a3 n3 k3] 25))).mono ?_; rintro e w4 ⟨b0, b1, b2, b3, m0, m1, m2, m3, j0, j1, j2, j3, rfl, hb⟩; have hb4 := hid ((hb2.out.alloc hz2.out (.cells #[.slice a0 n0 k0, .slice a1 n1 k1, .slice a2 n2 k2, .slice a3 n3 k3] 25)).trans (hb.mono (hb2.out.alloc hz2.out (.cells #[.slice a0 n0 k0, .slice a1 n1 k1, .slice a2 n2 k2, .slice a3 n3 k3] 25)).size)); have hz4 := hid hb4.out.size; have t4 := True.intro; clear hb))))
  exact bodyPost_ret (v := .bool true) (by simp [results, Tryz.results7, go_sem]) rfl ⟨rfl, hb4.out⟩
set_option maxHeartbeats 2000000 in
theorem among_no (w : World) (s : ByteArray) (n : Nat) (h1 : s.size ≤ 2000) (h2 : n < s.size) {tr : PTr} (h : parseT s.data.toList = .ok tr) {f : Flt} (hq : parseT (s.data.toList.take n) = .error f) (hm : Lx.MX w) (hG : Gl w) : Calls Tryz.prog 7 #[.string s, .int .i64 (n : Int)] w fun e w' => e = .returned (.bool true) ∧ Below w.heap.size w w' := by
  have t0 := True.intro
  have g1 : ¬ (2000 : Int) < (s.size : Int) := by omega
  have g2 : ¬ (n : Int) < 0 := by omega
  have g3 : ¬ (s.size : Int) ≤ (n : Int) := by omega
  have A1 := hid (fun (W : World) (k : Below w.heap.size w W) => ans_ok (w := W) (s := s) (by omega) (mx_below hm k) (gl_below hG k) h)
  have hxs : (s.extract 0 n).size = n := Lx.ext_size s 0 n (by omega)
  have hsl : ∀ W, (Instr.slice 9 (.string s) none (some (.int .i64 (n : Int))) none).run Tryz.prog W = .ok (.string (s.extract 0 n)) W := fun W => by
    have : (n : Int) ≤ (s.size : Int) := by omega
    go_simp
  have HM := hid hm
  have HG := hid hG
  have HP := hid h
  generalize hc : s.extract 0 n = c at *
  have hcl : c.data.toList = s.data.toList.take n := by rw [← hc]; exact ext_list s n
  have hcs : c.size ≤ 9223372036854775807 := by omega
  obtain ⟨q1, q2, q3⟩ := among_pure s.data.toList n (by rw [← Lib.size_eq]; omega) (by rw [← Lib.size_eq]; omega) h hq
  have q4 := parse_ne hq
  rw [← hcl] at hq
  have A2 := hid (fun (W : World) (k : Below w.heap.size w W) => ans_err (w := W) (s := c) hcs (mx_below hm k) (gl_below hG k) hq)
  clear hq
  obtain ⟨p, q⟩ := f
  have q1 : p ≤ (n : Int) := q1
  have q2 : ¬ q = 72 := q2
  have q3 : ¬ q = 50 := q3
  have q4 : ¬ q = 0 := q4
  simp only at A2
  clear h hm hG hc hcl hcs
  go_enter Tryz.func7, Tryz.ntmps7
  go_wp2_with ((have hno := t0; (go_at_call 8; (refine (known_any _ HM.out HG.out).mono ?_; rintro e w1 ⟨rfl, hb⟩; have hz1 := hid hb.size; have hb1 := hid hb; have t1 := True.intro; clear hb))))
  refine (A1.out _ hb1.out).mono ?_
  rintro e w2 ⟨a0, a1, a2, a3, n0, n1, n2, n3, k0, k1, k2, k3, rfl, hb⟩
  have hb2 := hid (hb1.out.trans (hb.mono hz1.out))
  have hz2 := hid hb2.out.size
  have t2 := True.intro
  clear hb
  go_wp2_with ((have hno := t2; (go_at_call 9; (refine (A2.out _ (hb2.out.alloc hz2.out (.cells #[.slice a0 n0 k0, .slice a1 n1 k1, .slice a2 n2 k2, .slice a3 n3 k3] 25))).mono ?_; rintro e w4 ⟨b0, b1, b2, b3, m0, m1, m2, m3, j0, j1, j2, j3, rfl, hb⟩; have hb4 := hid ((hb2.out.alloc hz2.out (.cells #[.slice a0 n0 k0, .slice a1 n1 k1, .slice a2 n2 k2, .slice a3 n3 k3] 25)).trans (hb.mono (hb2.out.alloc hz2.out (.cells #[.slice a0 n0 k0, .slice a1 n1 k1, .slice a2 n2 k2, .slice a3 n3 k3] 25)).size)); have hz4 := hid hb4.out.size; have t4 := True.intro; clear hb))))
  exact bodyPost_ret (v := .bool (q != 72 && q != 50)) (by simp [results, Tryz.results7, go_sem]) rfl ⟨by simp [q2, q3], hb4.out⟩
theorem among_any (w : World) (s : ByteArray) (n : Int) (hm : Lx.MX w) (hG : Gl w) : Calls Tryz.prog 7 #[.string s, .int .i64 n] w fun e w' => e = .returned (.bool true) ∧ Below w.heap.size w w' := by
  by_cases h : 2000 < s.size ∨ n < 0 ∨ (s.size : Int) ≤ n
  · exact among_out w s n h hm hG
  · obtain ⟨N, rfl⟩ := Int.eq_ofNat_of_zero_le (show 0 ≤ n by omega)
    have h1 : s.size ≤ 2000 := by omega
    have h2 : N < s.size := by
      have : ¬ ((s.size : Int) ≤ (N : Int)) := fun q => h (.inr (.inr q))
      omega
    cases hp : parseT s.data.toList with
    | error f => exact among_err w s N h1 h2 hp hm hG
    | ok tr =>
      cases hq : parseT (s.data.toList.take N) with
      | ok tq => exact among_yes w s N h1 h2 hp hq hm hG
      | error f => exact among_no w s N h1 h2 hp hq hm hG
end Go.Proofs.YtcnohgifihbkdaaGreatDoor

