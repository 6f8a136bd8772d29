/- LexTokens: the walk. -/
import Derived.Test.YtebhmalegdpibaaDoorQ2
namespace Go.Proofs.YtebhmalegdpibaaDoor
open Go.RowKit Go.Deep
set_option linter.unusedVariables false
set_option linter.unusedSimpArgs false

set_option maxRecDepth 100000 in
theorem refTokens_any (s : ByteArray) (w : World) : Calls Tryd.prog 11 #[.string s] w fun e w' => TokP w.heap.size (lexT s.data.toList) e w' ∧ Below w.heap.size w w' := by
  by_cases hz : 4096 < s.size
  · have hx : lexT s.data.toList = .error (0, 50) := by unfold lexT; rw [if_pos (by rw [← Lib.size_eq]; exact hz)]
    have hz' : (4096 : Int) < (s.size : Int) := by omega
    rw [hx]
    clear hx hz
    go_enter Tryd.func11, Tryd.ntmps11
    go_wp2
    refine bodyPost_ret (v := .tuple #[.slice none 0 0, .int .i64 0, .int .i64 50]) (by simp [results, Tryd.results11, go_sem]) rfl ⟨rfl, Below.refl _ _⟩
  · have hx : lexT s.data.toList = lexG 0 0 s.data.toList := by unfold lexT; rw [if_neg (by rw [← Lib.size_eq]; exact hz)]
    rw [hx]
    exact refTokens_walk s (by omega) w
theorem refTokens_err (s : ByteArray) (p : Nat × Nat) (hx : lexT s.data.toList = .error p) (w : World) :
    Calls Tryd.prog 11 #[.string s] w fun e w' => e = .returned (.tuple #[.slice none 0 0, .int .i64 p.1, .int .i64 p.2]) ∧ Below w.heap.size w w' := by
  refine (refTokens_any s w).mono ?_
  rintro e w' ⟨h, hb⟩
  rw [hx] at h
  exact ⟨h, hb⟩
theorem refTokens_ok (s : ByteArray) (ts : List LTok) (hx : lexT s.data.toList = .ok ts) (w : World) :
    Calls Tryd.prog 11 #[.string s] w fun e w' => ∃ b cap, e = .returned (.tuple #[.slice (some ⟨b, 0, none⟩) ts.length cap, .int .i64 0, .int .i64 0]) ∧ TRd w' (some ⟨b, 0, none⟩) ts ∧ Below w.heap.size w w' := by
  refine (refTokens_any s w).mono ?_
  rintro e w' ⟨h, hb⟩
  rw [hx] at h
  obtain ⟨v, rfl, h2⟩ := h
  have hne := lexT_ne hx
  rcases h2.2 with ⟨rfl, hn⟩ | ⟨g, cap, cur, rfl, hB, hgg, hc, hm, hs', ht⟩
  · exact absurd (List.eq_nil_of_length_eq_zero hn) hne
  · exact ⟨g, cap, rfl, h2.rd, hb⟩
theorem words_b (w : World) : Calls Tryd.prog 14 #[] w fun e w' => ∃ b, e = .returned (.slice (some ⟨b, 0, none⟩) 29 29) ∧ w'.heap[b]? = some (.cells wordsV 9 (0, 0)) ∧ Below w.heap.size w w' := by
  refine (words_any w).mono ?_
  rintro e w' ⟨rfl, rfl⟩
  exact ⟨_, rfl, heap_alloc_new w _, (Below.refl _ w).alloc (Nat.le_refl _) _⟩
theorem words_c (w : World) : Calls Tryd.prog 15 #[] w fun e w' => ∃ b, e = .returned (.slice (some ⟨b, 0, none⟩) 29 29) ∧ w'.heap[b]? = some (.cells wordsV 9 (0, 0)) ∧ Below w.heap.size w w' := by
  refine (words_ref w).mono ?_
  rintro e w' ⟨rfl, rfl⟩
  exact ⟨_, rfl, heap_alloc_new w _, (Below.refl _ w).alloc (Nat.le_refl _) _⟩
theorem Below.more {w a b : World} (h : Below w.heap.size w a) (k : Below a.heap.size a b) : Below w.heap.size w b := h.trans (k.mono h.size)
theorem heap_kept {a b : World} {k : Nat} {o : Obj} (h : a.heap[k]? = some o) (hb : Below a.heap.size a b) : b.heap[k]? = some o := (hb.block k (Array.getElem?_eq_some_iff.1 h).1).trans h
set_option maxRecDepth 100000 in
set_option maxHeartbeats 1000000 in
theorem tokens_go (s : ByteArray) (w : World) (hm : MX w) : Calls Tryd.prog 3 #[.string s] w fun e w' => e = .returned (.bool true) ∧ Below w.heap.size w w' := by
  have HM := hid hm
  have ck := known_any w hm
  clear hm
  by_cases h1 : 5000 < s.size
  · have h1' : (5000 : Int) < (s.size : Int) := by omega
    go_enter Tryd.func3, Tryd.ntmps3
    go_wp2_with (go_at_call 9; refine ck.mono ?_; rintro e w1 ⟨rfl, hb1⟩)
    go_ret
    exact ⟨rfl, hb1⟩
  · have h1' : ¬ (5000 : Int) < (s.size : Int) := by omega
    have cN := hid (fun (W : World) (h : MX W) => name_any s (by omega) W h)
    have cM := hid (fun (W : World) => refName s W)
    have cQ := hid (fun (W : World) (h : MX W) => quote_any s (by omega) W h)
    have cU := hid (fun (W : World) => refQuote s (by omega) W)
    obtain ⟨nb, hnb⟩ : ∃ b, b = nameB s.data.toList := ⟨_, rfl⟩
    obtain ⟨q, hq⟩ : ∃ q, q = ofB (quoB s.data.toList) := ⟨_, rfl⟩
    rw [← hnb] at cN cM
    rw [← hq] at cQ cU
    clear hnb hq
    cases hx : lexT s.data.toList with
    | error p =>
      have cT := hid (fun (W : World) (h : MX W) => tokens_err s (by omega) p hx W h)
      have cR := hid (fun (W : World) => refTokens_err s p hx W)
      have hp := lexT_err_ne hx
      clear hx
      go_enter Tryd.func3, Tryd.ntmps3
      go_wp2_with (first
        | (go_at_call 9; refine ck.mono ?_; rintro e w1 ⟨rfl, hb1⟩; have B1 := hid hb1; clear hb1)
        | (go_at_call 10; refine (cT.out _ (HM.out.below HM.out.lt B1.out)).mono ?_; rintro e w2 ⟨rfl, hb2⟩; have B2 := hid (Below.more B1.out hb2); clear hb2)
        | (go_at_call 11; refine (cR.out _).mono ?_; rintro e w3 ⟨rfl, hb3⟩; have B3 := hid (Below.more B2.out hb3); clear hb3)
        | (go_at_call 12; refine (same_none _).mono ?_; rintro e w4 ⟨rfl, hb4⟩; have B4 := hid (Below.more B3.out hb4); clear hb4)
        | (go_at_call 14; refine (words_b _).mono ?_; rintro e w5 ⟨d1, rfl, hd1, hb5⟩; have B5 := hid (Below.more B4.out hb5); have D1 := hid hd1; clear hb5 hd1)
        | (go_at_call 15; refine (words_c _).mono ?_; rintro e w6 ⟨d2, rfl, hd2, hb6⟩; have B6 := hid (Below.more B5.out hb6); have D2 := hid hd2; have D3 := hid (heap_kept D1.out hb6); clear hb6 hd2)
        | (go_at_call 13; refine (same_words _ _ _ D3.out D2.out).mono ?_; rintro e w7 ⟨rfl, hb7⟩; have B7 := hid (Below.more B6.out hb7); clear hb7)
        | (go_at_call 16; refine (cN.out _ (HM.out.below HM.out.lt B7.out)).mono ?_; rintro e w8 ⟨rfl, hb8⟩; have B8 := hid (Below.more B7.out hb8); clear hb8)
        | (go_at_call 17; refine (cM.out _).mono ?_; rintro e w9 ⟨rfl, hb9⟩; have B9 := hid (Below.more B8.out hb9); clear hb9)
        | (go_at_call 18; refine (cQ.out _ (HM.out.below HM.out.lt B9.out)).mono ?_; rintro e wA ⟨rfl, hbA⟩; have BA := hid (Below.more B9.out hbA); clear hbA)
        | (go_at_call 19; refine (cU.out _).mono ?_; rintro e wB ⟨rfl, hbB⟩; have BB := hid (Below.more BA.out hbB); clear hbB))
      go_ret
      exact ⟨ret_bool (by simp), BB.out⟩
    | ok ts =>
      have hsm := lexT_small hx
      rw [← Lib.size_eq] at hsm
      have Hn : Hid (ts.length ≤ 1000000) := hid (by omega)
      have cT := hid (fun (W : World) (h : MX W) => tokens_ok s (by omega) ts hx W h)
      have cR := hid (fun (W : World) => refTokens_ok s ts hx W)
      clear hx hsm
      go_enter Tryd.func3, Tryd.ntmps3
      go_wp2_with (first
        | (go_at_call 9; refine ck.mono ?_; rintro e w1 ⟨rfl, hb1⟩; have B1 := hid hb1; clear hb1)
        | (go_at_call 10; refine (cT.out _ (HM.out.below HM.out.lt B1.out)).mono ?_; rintro e w2 ⟨b1, cap1, rfl, hrd1, hB1, hlt1, hb2⟩; have B2 := hid (Below.more B1.out hb2); have R1 := hid hrd1; clear hb2 hrd1 hB1 hlt1)
        | (go_at_call 11; refine (cR.out _).mono ?_; rintro e w3 ⟨b2, cap2, rfl, hrd2, hb3⟩; have B3 := hid (Below.more B2.out hb3); have R2 := hid hrd2; have R3 := hid (R1.out.below (Nat.le_refl _) hb3); clear hb3 hrd2)
        | (go_at_call 12; refine (same_tokens _ _ _ _ ts Hn.out _ R3.out R2.out).mono ?_; rintro e w4 ⟨rfl, hb4⟩; have B4 := hid (Below.more B3.out hb4); clear hb4)
        | (go_at_call 14; refine (words_b _).mono ?_; rintro e w5 ⟨d1, rfl, hd1, hb5⟩; have B5 := hid (Below.more B4.out hb5); have D1 := hid hd1; clear hb5 hd1)
        | (go_at_call 15; refine (words_c _).mono ?_; rintro e w6 ⟨d2, rfl, hd2, hb6⟩; have B6 := hid (Below.more B5.out hb6); have D2 := hid hd2; have D3 := hid (heap_kept D1.out hb6); clear hb6 hd2)
        | (go_at_call 13; refine (same_words _ _ _ D3.out D2.out).mono ?_; rintro e w7 ⟨rfl, hb7⟩; have B7 := hid (Below.more B6.out hb7); clear hb7)
        | (go_at_call 16; refine (cN.out _ (HM.out.below HM.out.lt B7.out)).mono ?_; rintro e w8 ⟨rfl, hb8⟩; have B8 := hid (Below.more B7.out hb8); clear hb8)
        | (go_at_call 17; refine (cM.out _).mono ?_; rintro e w9 ⟨rfl, hb9⟩; have B9 := hid (Below.more B8.out hb9); clear hb9)
        | (go_at_call 18; refine (cQ.out _ (HM.out.below HM.out.lt B9.out)).mono ?_; rintro e wA ⟨rfl, hbA⟩; have BA := hid (Below.more B9.out hbA); clear hbA)
        | (go_at_call 19; refine (cU.out _).mono ?_; rintro e wB ⟨rfl, hbB⟩; have BB := hid (Below.more BA.out hbB); clear hbB))
      go_ret
      exact ⟨ret_bool (by simp), BB.out⟩
end Go.Proofs.YtebhmalegdpibaaDoor
