/- All tokens of a source. -/
import Derived.Test.YtebhmalegdpibaaDoorL
import Derived.WalkMore
namespace Go.Proofs.YtebhmalegdpibaaDoor
open Go.RowKit Go.Deep
set_option linter.unusedVariables false
set_option linter.unusedSimpArgs false

/- What Tokens answers. -/
def TokP (B : Nat) (x : Except (Nat × Nat) (List LTok)) (e : Ending) (w' : World) : Prop := match x with
  | .error p => e = .returned (.tuple #[.slice none 0 0, .int .i64 p.1, .int .i64 p.2])
  | .ok ts => ∃ v, e = .returned (.tuple #[v, .int .i64 0, .int .i64 0]) ∧ TRow w' B v ts
structure TInv (w : World) (s : ByteArray) (gf pos behind : Nat) (v : Value) (acc : List LTok) (wx : World) : Prop where
  it : wx.heap[w.heap.size]? = some (.stringIter s pos)
  bel : Below w.heap.size w wx
  row : TRow wx (w.heap.size + 1) v acc
  eq : catE acc (lexG (behind - pos) pos (s.data.toList.drop pos)) = lexG 0 0 s.data.toList
  good : Good s.data.toList pos behind
  fuel : s.size ≤ pos + gf
  le : pos ≤ s.size
  bl : behind ≤ s.size
  al : acc.length ≤ pos
theorem blI_run {c : UInt8} {r : Int} (h : RunC c r) : blI r = isBl c := by
  unfold blI isBl
  rw [Bool.eq_iff_iff]
  simp only [Bool.or_eq_true, decide_eq_true_eq, beq_iff_eq]
  have e1 := eq_run h 32 (by decide)
  have e2 := eq_run h 9 (by decide)
  have e3 := eq_run h 10 (by decide)
  have e4 := eq_run h 13 (by decide)
  rw [← e1, ← e2, ← e3, ← e4]
  rfl
theorem Rune.run {l : Bs} {pos r wd : Nat} (R : Rune l pos r wd) {c : UInt8} (e : l[pos]? = some c) : RunC c (r : Int) :=
  ⟨fun h => by rw [(R.low c e h).1], fun h => by have := R.high c e h; omega⟩

theorem TInv.next {w : World} {s : ByteArray} {g pos behind K behind' : Nat} {v v' : Value} {acc acc' : List LTok} {wr W : World} (I : TInv w s (g + 1) pos behind v acc wr) (h1 : 1 ≤ K) (h2 : pos + K ≤ s.size)
    (hit : W.heap[w.heap.size]? = some (.stringIter s (pos + K))) (hb : Below w.heap.size w W) (hrow : TRow W (w.heap.size + 1) v' acc')
    (heq : catE acc' (lexG (behind' - (pos + K)) (pos + K) (s.data.toList.drop (pos + K))) = catE acc (lexG (behind - pos) pos (s.data.toList.drop pos)))
    (hg : Good s.data.toList (pos + K) behind') (hbl : behind' ≤ s.size) (hal : acc'.length ≤ pos + K) : TInv w s g (pos + K) behind' v' acc' W :=
  ⟨hit, hb, hrow, heq.trans I.eq, hg, by have := I.fuel; omega, h2, hbl, hal⟩
theorem isBl_low {c : UInt8} (h : isBl c = true) : c.toNat < 128 := by
  unfold isBl at h
  simp only [Bool.or_eq_true, beq_iff_eq] at h
  rcases h with ((rfl | rfl) | rfl) | rfl <;> decide
theorem lexG_blank {c : UInt8} (t : Bs) (at' : Nat) (h : isBl c = true) : lexG 0 at' (c :: t) = lexG 0 (at' + 1) t := by rw [lexG, if_pos h]
theorem lexG_note {c : UInt8} (t : Bs) (at' : Nat) (h : isBl c = false) (hc : c = 35) : lexG 0 at' (c :: t) = lexG (noteF (c :: t) - 1) (at' + 1) t := by rw [lexG, if_neg (by simp [h]), if_pos hc]
theorem lexG_err {c : UInt8} (t : Bs) (at' : Nat) (h : isBl c = false) (hc : ¬ c = 35) (he : (firstF (c :: t)).2.2 ≠ 0) : lexG 0 at' (c :: t) = .error (at', (firstF (c :: t)).2.2) := by rw [lexG, if_neg (by simp [h]), if_neg hc, if_pos he]
theorem lexG_tok {c : UInt8} (t : Bs) (at' : Nat) (h : isBl c = false) (hc : ¬ c = 35) (he : (firstF (c :: t)).2.2 = 0) :
    lexG 0 at' (c :: t) = catE [⟨(firstF (c :: t)).1, tokText (firstF (c :: t)).1 ((c :: t).take (firstF (c :: t)).2.1), at'⟩] (lexG ((firstF (c :: t)).2.1 - 1) (at' + 1) t) := by
  rw [lexG, if_neg (by simp [h]), if_neg hc, if_neg (by simp [he])]
  cases lexG ((firstF (c :: t)).2.1 - 1) (at' + 1) t <;> rfl
theorem catE_cat (a b : List LTok) (x : Except (Nat × Nat) (List LTok)) : catE a (catE b x) = catE (a ++ b) x := by cases x <;> simp [catE]
theorem Good.skip_eq {L : Bs} {pos behind r K : Nat} (R : Rune L pos r K) (h : Good L pos behind) (hb : pos < behind) : lexG (behind - (pos + K)) (pos + K) (L.drop (pos + K)) = lexG (behind - pos) pos (L.drop pos) := by
  have h1 := h.step R hb
  have h2 := R.fit
  rw [lexG_skip K (behind - pos) pos (L.drop pos) (by omega) (by rw [List.length_drop]; omega), List.drop_drop, Nat.sub_sub]

theorem slice_to (X : ByteArray) (n : Nat) (h : n ≤ X.size) (W : World) : (Instr.slice 9 (.string X) none (some (.int .i64 (n : Int))) none).run Tryd.prog W = .ok (.string (X.extract 0 n)) W := by
  have : (n : Int) ≤ (X.size : Int) := by omega
  go_simp
theorem slice_from (X : ByteArray) (n : Nat) (h : n ≤ X.size) (W : World) : (Instr.slice 9 (.string X) (some (.int .i64 (n : Int))) none none).run Tryd.prog W = .ok (.string (X.extract n X.size)) W := by
  have : (n : Int) ≤ (X.size : Int) := by omega
  go_simp
theorem run_appA (w : World) (ty : TypeId) (B : Nat) (v : Value) (hs : List LTok) (h : LTok) (hr : TRow w B v hs) (hB : B ≤ w.heap.size) (hl : hs.length ≤ 1000000) :
    ∃ v' w', (Builtin.append_ #[23, 23] ty #[v, .slice (some ⟨w.heap.size, 0, none⟩) 1 1]).run Tryd.prog (w.alloc (.cells h.cs.toArray 36)) = .ok v' w' ∧ TRow w' B v' (hs ++ [h]) ∧ Grw w v w' v' := by
  obtain ⟨v', w', h1, h2, h3⟩ := run_appT (w.alloc (.cells h.cs.toArray 36)) ty B v hs h w.heap.size (hr.same fun g e => by rw [Below.heap_alloc]; exact (hr.own g e).2) (heap_alloc_new w _) (by simp; omega) hl
  refine ⟨v', w', h1, h2, (World.grownBy_alloc w _ _).trans h3.1, ?_⟩
  rcases h3.2 with h | ⟨g, h, hg⟩
  · exact .inl h
  · exact .inr ⟨g, h, by simp at hg; omega⟩
theorem wpList_appT {ops : Array Oper} {rest : List Oper} {o : Oper} {a : Act} {Q : Exit → Act → World → Prop} (w : World) (hgd : o.guard = none) (sl x : Operand)
    (ho : o.op = .call { callee := .builtin .append, args := #[sl, x], argTypes := #[23, 23] }) (v : Value) (h : LTok) (hs : a.eval sl = v) (hx : a.eval x = .slice (some ⟨w.heap.size, 0, none⟩) 1 1)
    (B : Nat) (xs : List LTok) (hr : TRow w B v xs) (hB : B ≤ w.heap.size) (hl : xs.length ≤ 1000000)
    (k : ∀ v' w', TRow w' B v' (xs ++ [h]) → Grw w v w' v' → wpList Tryd.prog ops Q rest (a.put o.dst v') w') :
    wpList Tryd.prog ops Q (o :: rest) a (w.alloc (.cells h.cs.toArray 36)) := by
  refine wpList_plain hgd fun K hK => ?_
  obtain ⟨v', w', hrun, h2, h3⟩ := run_appA w o.type B v xs h hr hB hl
  unfold Oper.wp execOp
  simp only [ho, resolve, invoke, builtin, Sem.run_bind, Sem.run_pure, Result.andThen_ok, List.map_toArray, List.map_cons, List.map_nil, hs, hx, hrun]
  exact hK _ _ (k v' w' h2 h3)
theorem Grw.below {w0 w w' : World} {v v' : Value} {B : Nat} (hb : Below B w0 w) (h : Grw w v w' v') (hv : ∀ k, v.ownBlock = some k → B ≤ k) (hB : B ≤ w.heap.size) : Below B w0 w' :=
  ⟨h.1.os.trans hb.os, h.1.tape.trans hb.tape, h.1.output.trans hb.output, Nat.le_trans hb.size h.1.size, fun j hj => (h.1.block j (by omega) (fun e => by have := hv j e.symm; omega)).trans (hb.block j hj)⟩

set_option maxRecDepth 100000 in
set_option maxHeartbeats 1000000 in
theorem tokens_walk (s : ByteArray) (hs : s.size ≤ 4096) (w : World) (hm : MX w) : Calls Tryd.prog 10 #[.string s] w fun e w' => TokP (w.heap.size + 1) (lexG 0 0 s.data.toList) e w' ∧ Below w.heap.size w w' := by
  have hz : ¬ (4096 : Int) < (s.size : Int) := by omega
  have HM := hid hm
  clear hm
  go_enter Tryd.func10, Tryd.ntmps10
  go_wp2
  refine wp_scope_straight ?_
  go_wp2
  refine wp_label ?_
  go_wp2
  go_loopg [5, 6] s.size (fun gf v b wx => ∃ (pos behind : Nat) (acc : List LTok), b = .int .i64 behind ∧ TInv w s gf pos behind v acc wx)
  case atStart => exact ⟨0, 0, [], rfl, ⟨World.iter_heap w s 0, (Below.refl _ w).alloc (Nat.le_refl _) _, TRow.nil _ _, by rw [catE_nil]; simp, .inl (Nat.le_refl _), by omega, by omega, by omega, by simp⟩⟩
  case round =>
    obtain ⟨pos, behind, acc, rfl, I⟩ := hrel
    by_cases hps : pos < s.size
    · obtain ⟨g', rfl⟩ : ∃ g', gk = g' + 1 := ⟨gk - 1, by have := I.fuel; omega⟩
      have hnx : ∀ ty, (Instr.next (.pointer (some ⟨w.heap.size, 0, none⟩)) true ty).run Tryd.prog wr = _ := fun ty => Lib.run_next_any_at wr w.heap.size s pos ty I.it hps
      have hR := rune_at s pos hps
      obtain ⟨R, hRe⟩ : ∃ R, (Utf8.decode s pos).1 = R := ⟨_, rfl⟩
      obtain ⟨K, hK⟩ : ∃ K, (Utf8.decode s pos).2 = K := ⟨_, rfl⟩
      rw [hRe, hK] at hnx hR
      have hit2 := Lib.iterAt_heap wr w.heap.size s pos (pos + K) I.it
      have hbw2 := Lib.below_iterAt I.bel (k := w.heap.size) (Nat.le_refl _) s (pos + K)
      have hrow2 := I.row.iterAt I.it (pos + K)
      obtain ⟨W, hWd⟩ : ∃ W, wr.iterAt w.heap.size s (pos + K) = W := ⟨_, rfl⟩
      rw [hWd] at hnx hit2 hbw2 hrow2
      obtain ⟨c, hc, hdr⟩ := hR.at
      have hrc := hR.run hc
      have h1 := hR.one
      have h2 := hR.fit
      rw [← Lib.size_eq] at h2
      have hsl : ∀ W, (Instr.slice 9 (.string s) (some (.int .i64 (pos : Int))) none none).run Tryd.prog W = .ok (.string (s.extract pos s.size)) W := slice_from s pos (by omega)
      have hxl : (s.extract pos s.size).data.toList = c :: s.data.toList.drop (pos + 1) := by rw [extract_toList, List.take_of_length_le (by rw [← Lib.size_eq]; omega), hdr]
      have hxs : (s.extract pos s.size).size = s.size - pos := ext_size s pos s.size (Nat.le_refl _)
      obtain ⟨X, hX⟩ : ∃ X, s.extract pos s.size = X := ⟨_, rfl⟩
      rw [hX] at hsl hxl hxs
      obtain ⟨T, hT⟩ : ∃ T, s.data.toList.drop (pos + 1) = T := ⟨_, rfl⟩
      rw [hT] at hxl hdr
      have HXL := hid hxl
      have HR := hid hR
      have HI := hid I
      have HC := hid hc
      have HD := hid hdr
      have HT := hid hT
      clear hR I hc hdr hxl hX hT hRe hK hWd
      by_cases hpb : pos < behind
      · have hpb' : (pos : Int) < (behind : Int) := by omega
        go_wp2
        go_roundg g'
        case measure => omega
        case rel => exact ⟨pos + K, behind, acc, rfl, HI.out.next h1 h2 hit2 hbw2 hrow2 (by rw [HI.out.good.skip_eq HR.out hpb]) (HI.out.good.mono (by omega)) HI.out.bl (by have := HI.out.al; omega)⟩
      · have hpb' : ¬ (pos : Int) < (behind : Int) := by omega
        have hbz : behind - pos = 0 := by omega
        have c1 := isBlank_any (R : Int) W
        rw [blI_run hrc] at c1
        cases hbl : isBl c <;> rw [hbl] at c1
        · by_cases hn : c = 35
          · have hr35 : (R : Int) = 35 := by have := (eq_run hrc 35 (by decide)).2 hn; simpa using this
            rw [hr35] at c1
            have c2 := noteSize_any X (by omega) W
            rw [HXL.out] at c2
            have hnl : noteF (c :: T) ≤ s.size - pos := by have := runF_le (fun c => !(c == 10)) (c :: T); rw [← HXL.out, ← Lib.size_eq, hxs] at this; rw [HXL.out] at this; exact this
            have hn1 : 1 ≤ noteF (c :: T) := by subst hn; exact runF_pos _ _ _ (by decide)
            obtain ⟨N, hN⟩ : ∃ N, noteF (c :: T) = N := ⟨_, rfl⟩
            rw [hN] at c2 hnl hn1
            have hwr : IntKind.i64.wrap ((pos : Int) + (N : Int)) = ((pos + N : Nat) : Int) := by
              rw [show (pos : Int) + (N : Int) = ((pos + N : Nat) : Int) by omega]
              exact wrap_small _ (by omega) (by omega)
            have HN := hid hN
            have Hn := hid hn
            have Hb := hid hbl
            clear hN hn hbl
            go_wp2_with (first | (go_at_call 20; refine c1.mono ?_; rintro e W ⟨rfl, rfl⟩) | (go_at_call 21; refine c2.mono ?_; rintro e W2 ⟨rfl, hb2⟩))
            go_roundg g'
            case measure => omega
            case rel =>
              have hK1 : K = 1 := (HR.out.low c HC.out (by rw [Hn.out]; decide)).2
              have hltW : w.heap.size < W.heap.size := (Array.getElem?_eq_some_iff.1 hit2).1
              refine ⟨pos + K, pos + N, acc, rfl, HI.out.next h1 h2 ((hb2.block _ hltW).trans hit2) (hbw2.trans (hb2.mono hbw2.size)) (hrow2.below (Nat.le_refl _) hb2) ?_ ?_ (by omega) (by have := HI.out.al; omega)⟩
              · rw [hbz, HD.out, lexG_note _ _ Hb.out Hn.out, hK1, HN.out, show pos + N - (pos + 1) = N - 1 by omega, HT.out]
              · refine .inr (.inl fun d hd => ?_)
                have h5 := runF_stop (fun c => !(c == 10)) (c :: T) d (by rw [show runF (fun c => !(c == 10)) (c :: T) = N from HN.out, ← HD.out, List.getElem?_drop]; exact hd)
                simp at h5; subst h5; decide
          · have hr35 : ¬ (R : Int) = 35 := fun e => hn ((eq_run hrc 35 (by decide)).1 (by simpa using e))
            have c3 := first_any X c T (R : Int) (by omega) HXL.out hrc W
            unfold frV at c3
            by_cases hf : (firstF (c :: T)).2.2 = 0
            · have ok := first_ok c T hf
              have low := first_low c T hf
              have HLw := hid low
              have Hf := hid hf
              have hk5 := ok.k
              have hn1 := ok.n1
              have hn2 := ok.n2
              have ht2 := ok.t2
              have hlen : (c :: T).length = s.size - pos := by rw [← HXL.out, ← Lib.size_eq, hxs]
              obtain ⟨F, hF⟩ : ∃ F, firstF (c :: T) = F := ⟨_, rfl⟩
              have HF := hid hF
              rw [hF] at c3 hk5 hn1 hn2 ht2 hf
              rw [hf] at c3
              obtain ⟨k, n, ee⟩ := F
              simp only at c3 hk5 hn1 hn2 ht2 hf
              have hwr : IntKind.i64.wrap ((pos : Int) + (n : Int)) = ((pos + n : Nat) : Int) := by
                rw [show (pos : Int) + (n : Int) = ((pos + n : Nat) : Int) by omega]
                exact wrap_small _ (by omega) (by omega)
              have hsl2 : ∀ W, (Instr.slice 9 (.string X) none (some (.int .i64 (n : Int))) none).run Tryd.prog W = .ok (.string (X.extract 0 n)) W := slice_to X n (by omega)
              have hys : (X.extract 0 n).size = n := ext_size X 0 n (by omega)
              have hyl : (X.extract 0 n).data.toList = (c :: T).take n := by rw [extract_toList, HXL.out]; simp
              obtain ⟨Y, hY⟩ : ∃ Y, X.extract 0 n = Y := ⟨_, rfl⟩
              rw [hY] at hsl2 hys hyl
              have hY1 : Y.size ≤ 4096 := by omega
              have hY2 : 1 ≤ Y.size := by omega
              have HY4 : Hid (k = 4 → 2 ≤ Y.size) := hid (by intro e; have := ht2 e; omega)
              have HYL := hid hyl
              have HT2 := hid ht2
              have Hb := hid hbl
              have Hn := hid hn
              have hB1 : w.heap.size + 1 ≤ W.heap.size := (Array.getElem?_eq_some_iff.1 hit2).1
              have Hrow := hid hrow2
              have Hal : Hid (acc.length ≤ 1000000) := hid (by have := HI.out.al; omega)
              have HMW := hid (HM.out.below HM.out.lt hbw2)
              have HLN := hid hlen
              clear hF hbl hn hf ok low ht2 hyl hY hrow2 hlen
              go_wp2_with (first
                | (go_at_call 20; refine c1.mono ?_; rintro e W ⟨rfl, rfl⟩)
                | (go_at_call 22; refine c3.mono ?_; rintro e W2 ⟨rfl, hb2⟩)
                | (go_at_call 23; have ct := token_any k Y pos hk5 hY1 hY2 HY4.out _ (HMW.out.below HMW.out.lt hb2); unfold tokV at ct; refine ct.mono ?_; clear ct; rintro e W3 ⟨rfl, hb3⟩)
                | (at_builtin; refine wpList_appT _ rfl _ _ rfl _ ⟨k, tokText k Y.data.toList, pos⟩ (by rfl) (by rfl) (w.heap.size + 1) acc ((Hrow.out.below (Nat.le_refl _) hb2).below (Nat.le_refl _) hb3) (Nat.le_trans hB1 (Nat.le_trans hb2.size hb3.size)) Hal.out ?_; intro v4 w4 hr4 hg4))
              go_roundg g'
              case measure => omega
              case rel =>
                have hK1 : K = 1 := (HR.out.low c HC.out HLw.out.1).2
                have hr3 : TRow W3 (w.heap.size + 1) u5 acc := (Hrow.out.below (Nat.le_refl _) hb2).below (Nat.le_refl _) hb3
                have hb23 : Below w.heap.size w W3 := (hbw2.trans (hb2.mono hbw2.size)).trans (hb3.mono (Nat.le_trans hbw2.size hb2.size))
                have hown : ∀ j, u5.ownBlock = some j → w.heap.size + 1 ≤ j := fun j e => (hr3.own j e).1
                have hit3 : W3.heap[w.heap.size]? = some (.stringIter s (pos + K)) := (hb3.block _ (by have := hb2.size; omega)).trans ((hb2.block _ (by omega)).trans hit2)
                refine ⟨pos + K, pos + n, acc ++ [⟨k, tokText k Y.data.toList, pos⟩], rfl, HI.out.next h1 h2 ?_ (hg4.below hb23 (fun j e => by have := hown j e; omega) hb23.size) hr4 ?_ ?_ (by have := hn2; have := HLN.out; omega) (by have := HI.out.al; simp; omega)⟩
                · rw [hg4.old (by have := hb2.size; have := hb3.size; omega) (fun e => by have := hown _ e.symm; omega)]; exact hit3
                · rw [hbz, HD.out, lexG_tok _ _ Hb.out Hn.out Hf.out, catE_cat, HF.out, HYL.out, hK1, show pos + n - (pos + 1) = n - 1 by omega, HT.out]
                · refine .inr (.inr ?_)
                  obtain ⟨d, h5, h6⟩ := HLw.out.2
                  rw [HF.out, ← HD.out, List.getElem?_drop] at h5
                  refine ⟨d, ?_, h6⟩
                  rw [show pos + n - 1 = pos + (n - 1) by omega]; exact h5
            · obtain ⟨F, hF⟩ : ∃ F, firstF (c :: T) = F := ⟨_, rfl⟩
              have HF := hid hF
              rw [hF] at c3 hf
              have hf' : ¬ ((F.2.2 : Nat) : Int) = 0 := by omega
              have Hb := hid hbl
              have Hn := hid hn
              clear hF hbl hn
              go_wp2_with (first | (go_at_call 20; refine c1.mono ?_; rintro e W ⟨rfl, rfl⟩) | (go_at_call 22; refine c3.mono ?_; rintro e W2 ⟨rfl, hb2⟩))
              rw [Exit.noGoto_ret]
              refine bodyPost_ret (v := .tuple #[.slice none 0 0, .int .i64 (pos : Int), .int .i64 (F.2.2 : Int)]) (by simp [results, Tryd.results10, go_sem]) rfl ⟨?_, hbw2.trans (hb2.mono hbw2.size)⟩
              rw [← HI.out.eq, hbz, HD.out, lexG_err _ _ Hb.out Hn.out (by rw [HF.out]; exact hf), HF.out]
              rfl
        · have hK1 : K = 1 := (HR.out.low c HC.out (isBl_low hbl)).2
          have Hb := hid hbl
          clear hbl
          go_wp2_with (go_at_call 20; refine c1.mono ?_; rintro e W ⟨rfl, rfl⟩)
          go_roundg g'
          case measure => omega
          case rel => exact ⟨pos + K, behind, acc, rfl, HI.out.next h1 h2 hit2 hbw2 hrow2 (by
            rw [hbz, HD.out, lexG_blank _ _ Hb.out, hK1, show behind - (pos + 1) = 0 by omega, HT.out]) (HI.out.good.mono (by omega)) HI.out.bl (by have := HI.out.al; omega)⟩
    · have hnx : ∀ ty, (Instr.next (.pointer (some ⟨w.heap.size, 0, none⟩)) true ty).run Tryd.prog wr = _ := fun ty => Lib.run_next_end_at wr w.heap.size s pos ty I.it hps
      have HI := hid I
      have hpe : pos = s.size := by have := I.le; omega
      have Hpe := hid hpe
      have Hal : Hid (acc.length ≤ 1000000) := hid (by have := I.al; omega)
      have hB1 : w.heap.size + 1 ≤ wr.heap.size := (Array.getElem?_eq_some_iff.1 I.it).1
      clear I hpe
      go_wp2_with (at_builtin; refine wpList_appT _ rfl _ _ rfl _ ⟨0, [], s.size⟩ (by rfl) (by rfl) (w.heap.size + 1) acc HI.out.row hB1 Hal.out ?_; intro v4 w4 hr4 hg4)
      rw [Exit.noGoto_ret]
      have hown : ∀ j, u5.ownBlock = some j → w.heap.size + 1 ≤ j := fun j e => (HI.out.row.own j e).1
      refine bodyPost_ret (v := .tuple #[v4, .int .i64 0, .int .i64 0]) (by simp [results, Tryd.results10, go_sem]) rfl ⟨?_, hg4.below HI.out.bel (fun j e => by have := hown j e; omega) HI.out.bel.size⟩
      rw [← HI.out.eq, List.drop_eq_nil_of_le (by rw [← Lib.size_eq]; have := Hpe.out; omega), lexG, Hpe.out]
      exact ⟨v4, rfl, hr4⟩
end Go.Proofs.YtebhmalegdpibaaDoor
