/- All tokens of a source. -/
import Derived.Test.YtdfambocenohgaaGreatDoorJAG
import Derived.WalkMore
namespace Go.Proofs.YtdfambocenohgaaGreatDoor
set_option maxRecDepth 100000
open Go.RowKit Go.Deep
set_option linter.unusedVariables false
set_option linter.unusedSimpArgs false

/- What Tokens answers. -/
def TokP (B : Nat) (x : Except (Nat × Nat) (List LTok)) (e : Ending) (w' : World) : Prop := match x with
  | .error p => e = .returned (.tuple #[.slice none 0 0, .int .i64 p.1, .int .i64 p.2])
  | .ok ts => ∃ v, e = .returned (.tuple #[v, .int .i64 0, .int .i64 0]) ∧ TRow w' B v ts
structure TInv (w : World) (s : ByteArray) (gf pos behind : Nat) (v : Value) (acc : List LTok) (wx : World) : Prop where
  it : wx.heap[w.heap.size]? = some (.stringIter s pos)
  bel : Below w.heap.size w wx
  row : TRow wx (w.heap.size + 1) v acc
  eq : catE acc (lexG (behind - pos) pos (s.data.toList.drop pos)) = lexG 0 0 s.data.toList
  good : Good s.data.toList pos behind
  fuel : s.size ≤ pos + gf
  le : pos ≤ s.size
  bl : behind ≤ s.size
  al : acc.length ≤ pos
theorem blI_run {c : UInt8} {r : Int} (h : RunC c r) : blI r = isBl c := by
  unfold blI isBl
  rw [Bool.eq_iff_iff]
  simp only [Bool.or_eq_true, decide_eq_true_eq, beq_iff_eq]
  have e1 := eq_run h 32 (by decide)
  have e2 := eq_run h 9 (by decide)
  have e3 := eq_run h 10 (by decide)
  have e4 := eq_run h 13 (by decide)
  rw [← e1, ← e2, ← e3, ← e4]
  rfl
theorem Rune.run {l : Bs} {pos r wd : Nat} (R : Rune l pos r wd) {c : UInt8} (e : l[pos]? = some c) : RunC c (r : Int) :=
  ⟨fun h => by rw [(R.low c e h).1], fun h => by have := R.high c e h; omega⟩

theorem TInv.next {w : World} {s : ByteArray} {g pos behind K behind' : Nat} {v v' : Value} {acc acc' : List LTok} {wr W : World} (I : TInv w s (g + 1) pos behind v acc wr) (h1 : 1 ≤ K) (h2 : pos + K ≤ s.size)
    (hit : W.heap[w.heap.size]? = some (.stringIter s (pos + K))) (hb : Below w.heap.size w W) (hrow : TRow W (w.heap.size + 1) v' acc')
    (heq : catE acc' (lexG (behind' - (pos + K)) (pos + K) (s.data.toList.drop (pos + K))) = catE acc (lexG (behind - pos) pos (s.data.toList.drop pos)))
    (hg : Good s.data.toList (pos + K) behind') (hbl : behind' ≤ s.size) (hal : acc'.length ≤ pos + K) : TInv w s g (pos + K) behind' v' acc' W :=
  ⟨hit, hb, hrow, heq.trans I.eq, hg, by have := I.fuel; omega, h2, hbl, hal⟩
theorem isBl_low {c : UInt8} (h : isBl c = true) : c.toNat < 128 := by
  unfold isBl at h
  simp only [Bool.or_eq_true, beq_iff_eq] at h
  rcases h with ((rfl | rfl) | rfl) | rfl <;> decide
theorem lexG_blank {c : UInt8} (t : Bs) (at' : Nat) (h : isBl c = true) : lexG 0 at' (c :: t) = lexG 0 (at' + 1) t := by rw [lexG, if_pos h]
theorem lexG_note {c : UInt8} (t : Bs) (at' : Nat) (h : isBl c = false) (hc : c = 35) : lexG 0 at' (c :: t) = lexG (noteF (c :: t) - 1) (at' + 1) t := by rw [lexG, if_neg (by simp [h]), if_pos hc]
theorem lexG_err {c : UInt8} (t : Bs) (at' : Nat) (h : isBl c = false) (hc : ¬ c = 35) (he : (firstF (c :: t)).2.2 ≠ 0) : lexG 0 at' (c :: t) = .error (at', (firstF (c :: t)).2.2) := by rw [lexG, if_neg (by simp [h]), if_neg hc, if_pos he]
theorem lexG_tok {c : UInt8} (t : Bs) (at' : Nat) (h : isBl c = false) (hc : ¬ c = 35) (he : (firstF (c :: t)).2.2 = 0) :
    lexG 0 at' (c :: t) = catE [⟨(firstF (c :: t)).1, tokText (firstF (c :: t)).1 ((c :: t).take (firstF (c :: t)).2.1), at'⟩] (lexG ((firstF (c :: t)).2.1 - 1) (at' + 1) t) := by
  rw [lexG, if_neg (by simp [h]), if_neg hc, if_neg (by simp [he])]
  cases lexG ((firstF (c :: t)).2.1 - 1) (at' + 1) t <;> rfl
theorem catE_cat (a b : List LTok) (x : Except (Nat × Nat) (List LTok)) : catE a (catE b x) = catE (a ++ b) x := by cases x <;> simp [catE]
theorem Good.skip_eq {L : Bs} {pos behind r K : Nat} (R : Rune L pos r K) (h : Good L pos behind) (hb : pos < behind) : lexG (behind - (pos + K)) (pos + K) (L.drop (pos + K)) = lexG (behind - pos) pos (L.drop pos) := by
  have h1 := h.step R hb
  have h2 := R.fit
  rw [lexG_skip K (behind - pos) pos (L.drop pos) (by omega) (by rw [List.length_drop]; omega), List.drop_drop, Nat.sub_sub]

theorem slice_to (X : ByteArray) (n : Nat) (h : n ≤ X.size) (W : World) : (Instr.slice 9 (.string X) none (some (.int .i64 (n : Int))) none).run Tryz.prog W = .ok (.string (X.extract 0 n)) W := by
  have : (n : Int) ≤ (X.size : Int) := by omega
  go_simp
theorem slice_from (X : ByteArray) (n : Nat) (h : n ≤ X.size) (W : World) : (Instr.slice 9 (.string X) (some (.int .i64 (n : Int))) none none).run Tryz.prog W = .ok (.string (X.extract n X.size)) W := by
  have : (n : Int) ≤ (X.size : Int) := by omega
  go_simp
theorem run_appA (w : World) (ty : TypeId) (B : Nat) (v : Value) (hs : List LTok) (h : LTok) (hr : TRow w B v hs) (hB : B ≤ w.heap.size) (hl : hs.length ≤ 1000000) :
    ∃ v' w', (Builtin.append_ #[167, 167] ty #[v, .slice (some ⟨w.heap.size, 0, none⟩) 1 1]).run Tryz.prog (w.alloc (.cells h.cs.toArray 171)) = .ok v' w' ∧ TRow w' B v' (hs ++ [h]) ∧ Grw w v w' v' := by
  obtain ⟨v', w', h1, h2, h3⟩ := run_appT (w.alloc (.cells h.cs.toArray 171)) ty B v hs h w.heap.size (hr.same fun g e => by rw [Below.heap_alloc]; exact (hr.own g e).2) (heap_alloc_new w _) (by simp; omega) hl
  refine ⟨v', w', h1, h2, (World.grownBy_alloc w _ _).trans h3.1, ?_⟩
  rcases h3.2 with h | ⟨g, h, hg⟩
  · exact .inl h
  · exact .inr ⟨g, h, by simp at hg; omega⟩
theorem wpList_appT {ops : Array Oper} {rest : List Oper} {o : Oper} {a : Act} {Q : Exit → Act → World → Prop} (w : World) (hgd : o.guard = none) (sl x : Operand)
    (ho : o.op = .call { callee := .builtin .append, args := #[sl, x], argTypes := #[167, 167] }) (v : Value) (h : LTok) (hs : a.eval sl = v) (hx : a.eval x = .slice (some ⟨w.heap.size, 0, none⟩) 1 1)
    (B : Nat) (xs : List LTok) (hr : TRow w B v xs) (hB : B ≤ w.heap.size) (hl : xs.length ≤ 1000000)
    (k : ∀ v' w', TRow w' B v' (xs ++ [h]) → Grw w v w' v' → wpList Tryz.prog ops Q rest (a.put o.dst v') w') :
    wpList Tryz.prog ops Q (o :: rest) a (w.alloc (.cells h.cs.toArray 171)) := by
  refine wpList_plain hgd fun K hK => ?_
  obtain ⟨v', w', hrun, h2, h3⟩ := run_appA w o.type B v xs h hr hB hl
  unfold Oper.wp execOp
  simp only [ho, resolve, invoke, builtin, Sem.run_bind, Sem.run_pure, Result.andThen_ok, List.map_toArray, List.map_cons, List.map_nil, hs, hx, hrun]
  exact hK _ _ (k v' w' h2 h3)
theorem Grw.below {w0 w w' : World} {v v' : Value} {B : Nat} (hb : Below B w0 w) (h : Grw w v w' v') (hv : ∀ k, v.ownBlock = some k → B ≤ k) (hB : B ≤ w.heap.size) : Below B w0 w' :=
  ⟨h.1.os.trans hb.os, h.1.tape.trans hb.tape, h.1.output.trans hb.output, Nat.le_trans hb.size h.1.size, fun j hj => (h.1.block j (by omega) (fun e => by have := hv j e.symm; omega)).trans (hb.block j hj)⟩

set_option maxRecDepth 100000 in
set_option maxHeartbeats 1000000 in
theorem tokens_walk (s : ByteArray) (hs : s.size ≤ 4096) (w : World) (hm : MX w) : Calls Tryz.prog 135 #[.string s] w fun e w' => TokP (w.heap.size + 1) (lexG 0 0 s.data.toList) e w' ∧ Below w.heap.size w w' := by
  have hz : ¬ (4096 : Int) < (s.size : Int) := by omega
  have HM := hid hm
  clear hm
  go_enter Tryz.func135, Tryz.ntmps135
  go_wp2
  refine wp_scope_straight ?_
  go_wp2
  refine wp_label ?_
  go_wp2
  go_loopg [5, 6] s.size (fun gf v b wx => ∃ (pos behind : Nat) (acc : List LTok), b = .int .i64 behind ∧ TInv w s gf pos behind v acc wx)
  case atStart => exact ⟨0, 0, [], rfl, ⟨World.iter_heap w s 0, (Below.refl _ w).alloc (Nat.le_refl _) _, TRow.nil _ _, by rw [catE_nil]; simp, .inl (Nat.le_refl _), by omega, by omega, by omega, by simp⟩⟩
  case round =>
    obtain ⟨pos, behind, acc, rfl, I⟩ := hrel
    by_cases hps : pos < s.size
    · obtain ⟨g', rfl⟩ : ∃ g', gk = g' + 1 := ⟨gk - 1, by have := I.fuel; omega⟩
      have hnx : ∀ ty, (Instr.next (.pointer (some ⟨w.heap.size, 0, none⟩)) true ty).run Tryz.prog wr = _ := fun ty => Lib.run_next_any_at wr w.heap.size s pos ty I.it hps
      have hR := rune_at s pos hps
      obtain ⟨R, hRe⟩ : ∃ R, (Utf8.decode s pos).1 = R := ⟨_, rfl⟩
      obtain ⟨K, hK⟩ : ∃ K, (Utf8.decode s pos).2 = K := ⟨_, rfl⟩
      rw [hRe, hK] at hnx hR
      have hit2 := Lib.iterAt_heap wr w.heap.size s pos (pos + K) I.it
      have hbw2 := Lib.below_iterAt I.bel (k := w.heap.size) (Nat.le_refl _) s (pos + K)
      have hrow2 := I.row.iterAt I.it (pos + K)
      obtain ⟨W, hWd⟩ : ∃ W, wr.iterAt w.heap.size s (pos + K) = W := ⟨_, rfl⟩
      rw [hWd] at hnx hit2 hbw2 hrow2
      obtain ⟨c, hc, hdr⟩ := hR.at
      have hrc := hR.run hc
      have h1 := hR.one
      have h2 := hR.fit
      rw [← Lib.size_eq] at h2
      have hsl : ∀ W, (Instr.slice 9 (.string s) (some (.int .i64 (pos : Int))) none none).run Tryz.prog W = .ok (.string (s.extract pos s.size)) W := slice_from s pos (by omega)
      have hxl : (s.extract pos s.size).data.toList = c :: s.data.toList.drop (pos + 1) := by rw [extract_toList, List.take_of_length_le (by rw [← Lib.size_eq]; omega), hdr]
      have hxs : (s.extract pos s.size).size = s.size - pos := ext_size s pos s.size (Nat.le_refl _)
      obtain ⟨X, hX⟩ : ∃ X, s.extract pos s.size = X := ⟨_, rfl⟩
      rw [hX] at hsl hxl hxs
      obtain ⟨T, hT⟩ : ∃ T, s.data.toList.drop (pos + 1) = T := ⟨_, rfl⟩
      rw [hT] at hxl hdr
      have HXL := hid hxl
      have HR := hid hR
      have HI := hid I
      have HC := hid hc
      have HD := hid hdr
      have HT := hid hT
      clear hR I hc hdr hxl hX hT hRe hK hWd
      by_cases hpb : pos < behind
      · have hpb' : (pos : Int) < (behind : Int) := by omega
        go_wp2
        go_roundg g'
        case measure => omega
        case rel => exact ⟨pos + K, behind, acc, rfl, HI.out.next h1 h2 hit2 hbw2 hrow2 (by rw [HI.out.good.skip_eq HR.out hpb]) (HI.out.good.mono (by omega)) HI.out.bl (by have := HI.out.al; omega)⟩
      · have hpb' : ¬ (pos : Int) < (behind : Int) := by omega
        have hbz : behind - pos = 0 := by omega
        have c1 := isBlank_any (R : Int) W
        rw [blI_run hrc] at c1
        cases hbl : isBl c <;> rw [hbl] at c1
        · by_cases hn : c = 35
          · have hr35 : (R : Int) = 35 := by have := (eq_run hrc 35 (by decide)).2 hn; simpa using this
            rw [hr35] at c1
            have c2 := noteSize_any X (by omega) W
            rw [HXL.out] at c2
            have hnl : noteF (c :: T) ≤ s.size - pos := by have := runF_le (fun c => !(c == 10)) (c :: T); rw [← HXL.out, ← Lib.size_eq, hxs] at this; rw [HXL.out] at this; exact this
            have hn1 : 1 ≤ noteF (c :: T) := by subst hn; exact runF_pos _ _ _ (by decide)
            obtain ⟨N, hN⟩ : ∃ N, noteF (c :: T) = N := ⟨_, rfl⟩
            rw [hN] at c2 hnl hn1
            have hwr : IntKind.i64.wrap ((pos : Int) + (N : Int)) = ((pos + N : Nat) : Int) := by
              rw [show (pos : Int) + (N : Int) = ((pos + N : Nat) : Int) by omega]
              exact wrap_small _ (by omega) (by omega)
            have HN := hid hN
            have Hn := hid hn
            have Hb := hid hbl
            clear hN hn hbl
            go_wp2_with (first | (go_at_call 148; refine c1.mono ?_; rintro e W ⟨rfl, rfl⟩) | (go_at_call 149; refine c2.mono ?_; rintro e W2 ⟨rfl, hb2⟩))
            go_roundg g'
            case measure => omega
            case rel =>
              have hK1 : K = 1 := (HR.out.low c HC.out (by rw [Hn.out]; decide)).2
              have hltW : w.heap.size < W.heap.size := (Array.getElem?_eq_some_iff.1 hit2).1
              refine ⟨pos + K, pos + N, acc, rfl, HI.out.next h1 h2 ((hb2.block _ hltW).trans hit2) (hbw2.trans (hb2.mono hbw2.size)) (hrow2.below (Nat.le_refl _) hb2) ?_ ?_ (by omega) (by have := HI.out.al; omega)⟩
              · rw [hbz, HD.out, lexG_note _ _ Hb.out Hn.out, hK1, HN.out, show pos + N - (pos + 1) = N - 1 by omega, HT.out]
              · refine .inr (.inl fun d hd => ?_)
                have h5 := runF_stop (fun c => !(c == 10)) (c :: T) d (by rw [show runF (fun c => !(c == 10)) (c :: T) = N from HN.out, ← HD.out, List.getElem?_drop]; exact hd)
                simp at h5; subst h5; decide
          · have hr35 : ¬ (R : Int) = 35 := fun e => hn ((eq_run hrc 35 (by decide)).1 (by simpa using e))
            have c3 := first_any X c T (R : Int) (by omega) HXL.out hrc W
            unfold frV at c3
            by_cases hf : (firstF (c :: T)).2.2 = 0
            · have ok := first_ok c T hf
              have low := first_low c T hf
              have HLw := hid low
              have Hf := hid hf
              have hk5 := ok.k
              have hn1 := ok.n1
              have hn2 := ok.n2
              have ht2 := ok.t2
              have hlen : (c :: T).length = s.size - pos := by rw [← HXL.out, ← Lib.size_eq, hxs]
              obtain ⟨F, hF⟩ : ∃ F, firstF (c :: T) = F := ⟨_, rfl⟩
              have HF := hid hF
              rw [hF] at c3 hk5 hn1 hn2 ht2 hf
              rw [hf] at c3
              obtain ⟨k, n, ee⟩ := F
              simp only at c3 hk5 hn1 hn2 ht2 hf
              have hwr : IntKind.i64.wrap ((pos : Int) + (n : Int)) = ((pos + n : Nat) : Int) := by
                rw [show (pos : Int) + (n : Int) = ((pos + n : Nat) : Int) by omega]
                exact wrap_small _ (by omega) (by omega)
              have hsl2 : ∀ W, (Instr.slice 9 (.string X) none (some (.int .i64 (n : Int))) none).run Tryz.prog W = .ok (.string (X.extract 0 n)) W := slice_to X n (by omega)
              have hys : (X.extract 0 n).size = n := ext_size X 0 n (by omega)
              have hyl : (X.extract 0 n).data.toList = (c :: T).take n := by rw [extract_toList, HXL.out]; simp
              obtain ⟨Y, hY⟩ : ∃ Y, X.extract 0 n = Y := ⟨_, rfl⟩
              rw [hY] at hsl2 hys hyl
              have hY1 : Y.size ≤ 4096 := by omega
              have hY2 : 1 ≤ Y.size := by omega
              have HY4 : Hid (k = 4 → 2 ≤ Y.size) := hid (by intro e; have := ht2 e; omega)
              have HYL := hid hyl
              have HT2 := hid ht2
              have Hb := hid hbl
              have Hn := hid hn
              have hB1 : w.heap.size + 1 ≤ W.heap.size := (Array.getElem?_eq_some_iff.1 hit2).1
              have Hrow := hid hrow2
              have Hal : Hid (acc.length ≤ 1000000) := hid (by have := HI.out.al; omega)
              have HMW := hid (HM.out.below HM.out.lt hbw2)
              have HLN := hid hlen
              clear hF hbl hn hf ok low ht2 hyl hY hrow2 hlen
              go_wp2_with (first
                | (go_at_call 148; refine c1.mono ?_; rintro e W ⟨rfl, rfl⟩)
                | (go_at_call 150; refine c3.mono ?_; rintro e W2 ⟨rfl, hb2⟩)
                | (go_at_call 151; have ct := token_any k Y pos hk5 hY1 hY2 HY4.out _ (HMW.out.below HMW.out.lt hb2); unfold tokV at ct; refine ct.mono ?_; clear ct; rintro e W3 ⟨rfl, hb3⟩)
                | (at_builtin; refine wpList_appT _ rfl _ _ rfl _ ⟨k, tokText k Y.data.toList, pos⟩ (by rfl) (by rfl) (w.heap.size + 1) acc ((Hrow.out.below (Nat.le_refl _) hb2).below (Nat.le_refl _) hb3) (Nat.le_trans hB1 (Nat.le_trans hb2.size hb3.size)) Hal.out ?_; intro v4 w4 hr4 hg4))
              go_roundg g'
              case measure => omega
              case rel =>
                have hK1 : K = 1 := (HR.out.low c HC.out HLw.out.1).2
                have hr3 : TRow W3 (w.heap.size + 1) u5 acc := (Hrow.out.below (Nat.le_refl _) hb2).below (Nat.le_refl _) hb3
                have hb23 : Below w.heap.size w W3 := (hbw2.trans (hb2.mono hbw2.size)).trans (hb3.mono (Nat.le_trans hbw2.size hb2.size))
                have hown : ∀ j, u5.ownBlock = some j → w.heap.size + 1 ≤ j := fun j e => (hr3.own j e).1
                have hit3 : W3.heap[w.heap.size]? = some (.stringIter s (pos + K)) := (hb3.block _ (by have := hb2.size; omega)).trans ((hb2.block _ (by omega)).trans hit2)
                refine ⟨pos + K, pos + n, acc ++ [⟨k, tokText k Y.data.toList, pos⟩], rfl, HI.out.next h1 h2 ?_ (hg4.below hb23 (fun j e => by have := hown j e; omega) hb23.size) hr4 ?_ ?_ (by have := hn2; have := HLN.out; omega) (by have := HI.out.al; simp; omega)⟩
                · rw [hg4.old (by have := hb2.size; have := hb3.size; omega) (fun e => by have := hown _ e.symm; omega)]; exact hit3
                · rw [hbz, HD.out, lexG_tok _ _ Hb.out Hn.out Hf.out, catE_cat, HF.out, HYL.out, hK1, show pos + n - (pos + 1) = n - 1 by omega, HT.out]
                · refine .inr (.inr ?_)
                  obtain ⟨d, h5, h6⟩ := HLw.out.2
                  rw [HF.out, ← HD.out, List.getElem?_drop] at h5
                  refine ⟨d, ?_, h6⟩
                  rw [show pos + n - 1 = pos + (n - 1) by omega]; exact h5
            · obtain ⟨F, hF⟩ : ∃ F, firstF (c :: T) = F := ⟨_, rfl⟩
              have HF := hid hF
              rw [hF] at c3 hf
              have hf' : ¬ ((F.2.2 : Nat) : Int) = 0 := by omega
              have Hb := hid hbl
              have Hn := hid hn
              clear hF hbl hn
              go_wp2_with (first | (go_at_call 148; refine c1.mono ?_; rintro e W ⟨rfl, rfl⟩) | (go_at_call 150; refine c3.mono ?_; rintro e W2 ⟨rfl, hb2⟩))
              rw [Exit.noGoto_ret]
              refine bodyPost_ret (v := .tuple #[.slice none 0 0, .int .i64 (pos : Int), .int .i64 (F.2.2 : Int)]) (by simp [results, Tryz.results135, go_sem]) rfl ⟨?_, hbw2.trans (hb2.mono hbw2.size)⟩
              rw [← HI.out.eq, hbz, HD.out, lexG_err _ _ Hb.out Hn.out (by rw [HF.out]; exact hf), HF.out]
              rfl
        · have hK1 : K = 1 := (HR.out.low c HC.out (isBl_low hbl)).2
          have Hb := hid hbl
          clear hbl
          go_wp2_with (go_at_call 148; refine c1.mono ?_; rintro e W ⟨rfl, rfl⟩)
          go_roundg g'
          case measure => omega
          case rel => exact ⟨pos + K, behind, acc, rfl, HI.out.next h1 h2 hit2 hbw2 hrow2 (by
            rw [hbz, HD.out, lexG_blank _ _ Hb.out, hK1, show behind - (pos + 1) = 0 by omega, HT.out]) (HI.out.good.mono (by omega)) HI.out.bl (by have := HI.out.al; omega)⟩
    · have hnx : ∀ ty, (Instr.next (.pointer (some ⟨w.heap.size, 0, none⟩)) true ty).run Tryz.prog wr = _ := fun ty => Lib.run_next_end_at wr w.heap.size s pos ty I.it hps
      have HI := hid I
      have hpe : pos = s.size := by have := I.le; omega
      have Hpe := hid hpe
      have Hal : Hid (acc.length ≤ 1000000) := hid (by have := I.al; omega)
      have hB1 : w.heap.size + 1 ≤ wr.heap.size := (Array.getElem?_eq_some_iff.1 I.it).1
      clear I hpe
      go_wp2_with (at_builtin; refine wpList_appT _ rfl _ _ rfl _ ⟨0, [], s.size⟩ (by rfl) (by rfl) (w.heap.size + 1) acc HI.out.row hB1 Hal.out ?_; intro v4 w4 hr4 hg4)
      rw [Exit.noGoto_ret]
      have hown : ∀ j, u5.ownBlock = some j → w.heap.size + 1 ≤ j := fun j e => (HI.out.row.own j e).1
      refine bodyPost_ret (v := .tuple #[v4, .int .i64 0, .int .i64 0]) (by simp [results, Tryz.results135, go_sem]) rfl ⟨?_, hg4.below HI.out.bel (fun j e => by have := hown j e; omega) HI.out.bel.size⟩
      rw [← HI.out.eq, List.drop_eq_nil_of_le (by rw [← Lib.size_eq]; have := Hpe.out; omega), lexG, Hpe.out]
      exact ⟨v4, rfl, hr4⟩
end Go.Proofs.YtdfambocenohgaaGreatDoor

namespace Go.Proofs.YtdfambocenohgaaGreatDoor
set_option maxRecDepth 100000
open Go.RowKit Go.Deep
set_option linter.unusedVariables false
set_option linter.unusedSimpArgs false

theorem lexG_ne : ∀ (l : Bs) (k at' : Nat) (ts : List LTok), lexG k at' l = .ok ts → ts ≠ []
  | [], k, at', ts, h => by simp only [lexG] at h; cases h; simp
  | c :: t, k + 1, at', ts, h => lexG_ne t k (at' + 1) ts (by rw [lexG] at h; exact h)
  | c :: t, 0, at', ts, h => by
    rw [lexG] at h
    split at h
    · exact lexG_ne t _ _ ts h
    · split at h
      · exact lexG_ne t _ _ ts h
      · split at h
        · cases h
        · split at h
          · cases h
          · cases h; simp
theorem lexG_err_ne : ∀ (l : Bs) (k at' : Nat) (p : Nat × Nat), lexG k at' l = .error p → p.2 ≠ 0
  | [], k, at', p, h => by simp only [lexG] at h; cases h
  | c :: t, k + 1, at', p, h => lexG_err_ne t k (at' + 1) p (by rw [lexG] at h; exact h)
  | c :: t, 0, at', p, h => by
    rw [lexG] at h
    split at h
    · exact lexG_err_ne t _ _ p h
    · split at h
      · exact lexG_err_ne t _ _ p h
      · split at h
        · rename_i hne; cases h; exact hne
        · split at h
          · rename_i e he; cases h; exact lexG_err_ne t _ _ _ he
          · cases h
theorem lexT_err_ne {l : Bs} {p : Nat × Nat} (h : lexT l = .error p) : p.2 ≠ 0 := by
  unfold lexT at h
  split at h
  · cases h; decide
  · exact lexG_err_ne _ _ _ _ h
theorem lexT_ne {l : Bs} {ts : List LTok} (h : lexT l = .ok ts) : ts ≠ [] := by
  unfold lexT at h
  split at h
  · cases h
  · exact lexG_ne _ _ _ _ h
set_option maxRecDepth 100000 in
theorem tokens_any (s : ByteArray) (hs : s.size ≤ 9223372036854775807) (w : World) (hm : MX w) : Calls Tryz.prog 135 #[.string s] w fun e w' => TokP w.heap.size (lexT s.data.toList) e w' ∧ Below w.heap.size w w' := by
  by_cases hz : 4096 < s.size
  · have hx : lexT s.data.toList = .error (0, 50) := by unfold lexT; rw [if_pos (by rw [← Lib.size_eq]; exact hz)]
    have hz' : (4096 : Int) < (s.size : Int) := by omega
    rw [hx]
    clear hx hz hm
    go_enter Tryz.func135, Tryz.ntmps135
    go_wp2
    refine wp_scope_straight ?_
    go_wp2
    rw [Exit.noGoto_ret]
    refine bodyPost_ret (v := .tuple #[.slice none 0 0, .int .i64 0, .int .i64 50]) (by simp [results, Tryz.results135, go_sem]) rfl ⟨rfl, Below.refl _ _⟩
  · have hx : lexT s.data.toList = lexG 0 0 s.data.toList := by unfold lexT; rw [if_neg (by rw [← Lib.size_eq]; exact hz)]
    rw [hx]
    refine (tokens_walk s (by omega) w hm).mono ?_
    rintro e w' ⟨h, hb⟩
    refine ⟨?_, hb⟩
    unfold TokP at h ⊢
    cases hl : lexG 0 0 s.data.toList with
    | error p => rw [hl] at h; exact h
    | ok ts =>
      rw [hl] at h
      obtain ⟨v, h1, h2⟩ := h
      exact ⟨v, h1, h2.mono (by omega)⟩
theorem tokens_err (s : ByteArray) (hs : s.size ≤ 9223372036854775807) (p : Nat × Nat) (hx : lexT s.data.toList = .error p) (w : World) (hm : MX w) :
    Calls Tryz.prog 135 #[.string s] w fun e w' => e = .returned (.tuple #[.slice none 0 0, .int .i64 p.1, .int .i64 p.2]) ∧ Below w.heap.size w w' := by
  refine (tokens_any s hs w hm).mono ?_
  rintro e w' ⟨h, hb⟩
  rw [hx] at h
  exact ⟨h, hb⟩
theorem tokens_ok (s : ByteArray) (hs : s.size ≤ 9223372036854775807) (ts : List LTok) (hx : lexT s.data.toList = .ok ts) (w : World) (hm : MX w) :
    Calls Tryz.prog 135 #[.string s] w fun e w' => ∃ b cap, e = .returned (.tuple #[.slice (some ⟨b, 0, none⟩) ts.length cap, .int .i64 0, .int .i64 0]) ∧ TRd w' (some ⟨b, 0, none⟩) ts ∧ w.heap.size ≤ b ∧ b < w'.heap.size ∧ Below w.heap.size w w' := by
  refine (tokens_any s hs w hm).mono ?_
  rintro e w' ⟨h, hb⟩
  rw [hx] at h
  obtain ⟨v, rfl, h2⟩ := h
  have hne := lexT_ne hx
  rcases h2.2 with ⟨rfl, hn⟩ | ⟨g, cap, cur, rfl, hB, hgg, hc, hm, hs', ht⟩
  · exact absurd (List.eq_nil_of_length_eq_zero hn) hne
  · have := h2.own g rfl
    exact ⟨g, cap, rfl, h2.rd, this.1, this.2, hb⟩

def quoB (l : Bs) : Bs := 34 :: (l.flatMap dbl ++ [34])
theorem dbl_any (x : ByteArray) (w : World) (hx : x.size ≤ 100000) (hm : MX w) : Calls Tryz.prog 124 #[.string x, .string ⟨#[34]⟩, .string ⟨#[34, 34]⟩] w fun e w' => ∃ q : ByteArray, e = .returned (.string q) ∧ q.data.toList = x.data.toList.flatMap dbl ∧ Below w.heap.size w w' := by
  obtain ⟨m, hm⟩ := hm
  refine (Tryz.strings_ReplaceAll x ⟨#[34]⟩ ⟨#[34, 34]⟩ m w (by omega) hm (by decide) ?_).mono ?_
  · have := Lib.countB_le ⟨#[34]⟩ (by decide) x.size x (Nat.le_refl _)
    have e : (⟨#[34, 34]⟩ : ByteArray).size = 2 := rfl
    rw [e]; omega
  · rintro e w' ⟨rfl, h⟩
    exact ⟨_, rfl, by rw [show (ByteArray.mk #[34, 34]).data.toList = [34, 34] from rfl, show (ByteArray.mk #[34]).data.toList = [34] from rfl, replace_dbl], h⟩
set_option maxRecDepth 100000 in
theorem quote_any (s : ByteArray) (hs : s.size ≤ 100000) (w : World) (hm : MX w) : Calls Tryz.prog 101 #[.string s] w fun e w' => e = .returned (.string (ofB (quoB s.data.toList))) ∧ Below w.heap.size w w' := by
  have HS := hid hs
  have HM := hid hm
  clear hm hs
  go_enter Tryz.func101, Tryz.ntmps101
  go_wp2_with (first
    | (go_at_call 124; (refine (dbl_any _ _ HS.out HM.out).mono ?_; rintro e w4 ⟨q, rfl, hq, hb⟩; obtain ⟨q1, r1, e1, z1⟩ := cat_any ⟨#[34]⟩ q (by have h := dbl_len s.data.toList; rw [← hq, ← Lib.size_eq, ← Lib.size_eq] at h; have := HS.out; have e : (⟨#[34]⟩ : ByteArray).size = 1 := rfl; omega); obtain ⟨q2, r2, e2, z2⟩ := cat_any q1 ⟨#[34]⟩ (by have h := dbl_len s.data.toList; rw [← hq, ← Lib.size_eq, ← Lib.size_eq] at h; have := HS.out; have e : (⟨#[34]⟩ : ByteArray).size = 1 := rfl; omega); have HQ := hid hq; have H1 := hid e1; have H2 := hid e2; clear hq e1 e2 z1 z2)))
  go_ret
  refine ⟨?_, hb⟩
  have : q2 = ofB (quoB s.data.toList) := eq_ofB (by rw [H2.out, H1.out, HQ.out]; rfl)
  rw [← this]; rfl

def nameB (l : Bs) : Bool := decide (l.length ≤ 20) && (match lexT l with | .ok (t :: _) => decide (t.kind = 1) && decide (t.text = l) | _ => false)
set_option maxRecDepth 100000 in
theorem name_any (s : ByteArray) (hs : s.size ≤ 9223372036854775807) (w : World) (hm : MX w) : Calls Tryz.prog 127 #[.string s] w fun e w' => e = .returned (.bool (nameB s.data.toList)) ∧ Below w.heap.size w w' := by
  by_cases hz : s.size ≤ 20
  · have hz' : (s.size : Int) ≤ 20 := by omega
    cases hl : lexT s.data.toList with
    | error p =>
      have hx : nameB s.data.toList = false := by unfold nameB; rw [hl]; simp
      have c := tokens_err s hs p hl w hm
      have hp : ¬ (p.2 : Int) = 0 := by have := lexT_err_ne hl; omega
      rw [hx]
      clear hx hl hm
      go_enter Tryz.func127, Tryz.ntmps127
      go_wp2_with (go_at_call 135; refine c.mono ?_; rintro e w2 ⟨rfl, hb⟩)
      go_ret
      exact ⟨rfl, hb⟩
    | ok ts =>
      obtain ⟨t, r, rfl⟩ : ∃ t r, ts = t :: r := by
        cases ts with
        | nil => exact absurd rfl (lexT_ne hl)
        | cons t r => exact ⟨t, r, rfl⟩
      have hx : nameB s.data.toList = (decide (t.kind = 1) && decide (t.text = s.data.toList)) := by unfold nameB; rw [hl, show decide (s.data.toList.length ≤ 20) = true from by rw [← Lib.size_eq]; simpa using hz]; simp
      have c := tokens_ok s hs (t :: r) hl w hm
      rw [hx]
      clear hx hl hm
      go_enter Tryz.func127, Tryz.ntmps127
      go_wp2_with (go_at_call 135; refine c.mono ?_; rintro e w2 ⟨b, cap, rfl, hrd, hB, hlt, hb⟩; obtain ⟨b', o', eb, hc⟩ := hrd 0 t rfl; cases eb; have g0 : w2.cell? ⟨b, 0, none⟩ = some (.int .i64 (t.kind : Int)) := hc 0 (by omega); have g1 : w2.cell? ⟨b, 1, none⟩ = some (.string (ofB t.text)) := hc 1 (by omega); clear hc hrd)
      · rename_i hk
        go_ret
        refine ⟨ret_bool ?_, hb⟩
        have hk' : t.kind = 1 := by omega
        rw [ByteArray.toList_eq, ByteArray.toList_eq, ofB_list]
        simp [hk']
      · rename_i hk
        go_ret
        refine ⟨ret_bool ?_, hb⟩
        have hk' : ¬ t.kind = 1 := by omega
        simp [hk']
  · have hz' : ¬ (s.size : Int) ≤ 20 := by omega
    have hx : nameB s.data.toList = false := by unfold nameB; rw [show decide (s.data.toList.length ≤ 20) = false from by rw [← Lib.size_eq]; simpa using hz]; rfl
    rw [hx]
    clear hx hm
    go_enter Tryz.func127, Tryz.ntmps127
    go_wp2
    go_ret
    exact ⟨rfl, Below.refl _ _⟩
end Go.Proofs.YtdfambocenohgaaGreatDoor

namespace Go.Proofs.YtdfambocenohgaaGreatDoor
open Go.RowKit Go.Deep
set_option linter.unusedVariables false
set_option linter.unusedSimpArgs false

def greatB (s : ByteArray) : Bool := nameB s.data.toList && decide (65 ≤ (s.data.toList.headD 0).toNat) && decide ((s.data.toList.headD 0).toNat ≤ 90)
def smallB (s : ByteArray) : Bool := nameB s.data.toList && !greatB s
theorem lexT_nil : lexT [] = .ok [⟨0, [], 0⟩] := by kernel_rfl
theorem name_ne {s : ByteArray} (h : nameB s.data.toList = true) : 1 ≤ s.size := by
  rw [Lib.size_eq]
  cases e : s.data.toList with
  | nil =>
    rw [e] at h
    unfold nameB at h
    rw [lexT_nil] at h
    simp at h
  | cons c t => simp
theorem get_zero (s : ByteArray) (h : 0 < s.size) : s[0]'h = s.data.toList.headD 0 := by
  have hl : 0 < s.data.toList.length := by rw [← Lib.size_eq]; exact h
  cases e : s.data.toList with
  | nil => rw [e] at hl; simp at hl
  | cons c t => exact get_of_list s 0 h c (by rw [e]; rfl)
set_option maxRecDepth 100000 in
theorem isGreat_any (s : ByteArray) (hs : s.size ≤ 9223372036854775807) (w : World) (hm : MX w) : Calls Tryz.prog 111 #[.string s] w fun e w' => e = .returned (.bool (greatB s)) ∧ Below w.heap.size w w' := by
  have K := hid (name_any s hs w hm)
  cases hn : nameB s.data.toList with
  | false =>
    rw [hn] at K
    have hg : greatB s = false := by unfold greatB; rw [hn]; rfl
    rw [hg]
    clear hn hg
    go_enter Tryz.func111, Tryz.ntmps111
    go_wp2_with (go_at_call 127; (refine (Hid.out K).mono ?_; rintro e w1 ⟨rfl, hb1⟩))
    go_ret
    exact ⟨rfl, hb1⟩
  | true =>
    have h1 := name_ne hn
    have hsI : (0 : Int) < (s.size : Int) := by omega
    have hz := get_zero s (by omega)
    obtain ⟨c, hc⟩ : ∃ c, c = s.data.toList.headD 0 := ⟨_, rfl⟩
    have hg : greatB s = (decide ((65 : Int) ≤ (c.toNat : Int)) && decide ((c.toNat : Int) ≤ 90)) := by
      unfold greatB; rw [hn, ← hc, Bool.true_and]
      congr 1 <;> (apply decide_eq_decide.2; omega)
    rw [hn] at K
    rw [hg]
    rw [← hc] at hz
    clear hn hg hc
    by_cases h65 : (65 : Int) ≤ (c.toNat : Int)
    · go_enter Tryz.func111, Tryz.ntmps111
      go_wp2_with (go_at_call 127; (refine (Hid.out K).mono ?_; rintro e w1 ⟨rfl, hb1⟩))
      go_ret
      exact ⟨ret_bool (by simp [h65]), hb1⟩
    · go_enter Tryz.func111, Tryz.ntmps111
      go_wp2_with (go_at_call 127; (refine (Hid.out K).mono ?_; rintro e w1 ⟨rfl, hb1⟩))
      go_ret
      exact ⟨ret_bool (by simp; omega), hb1⟩
set_option maxRecDepth 100000 in
theorem isSmall_any (s : ByteArray) (hs : s.size ≤ 9223372036854775807) (w : World) (hm : MX w) : Calls Tryz.prog 114 #[.string s] w fun e w' => e = .returned (.bool (smallB s)) ∧ Below w.heap.size w w' := by
  have K := hid (name_any s hs w hm)
  have KG := hid (fun (w1 : World) (hb : Below w.heap.size w w1) => isGreat_any s hs w1 (hm.below hm.lt hb))
  have TR : Hid (∀ {Z x y : World}, Below Z.heap.size Z x → Below x.heap.size x y → Below Z.heap.size Z y) := hid (fun h1 h2 => h1.trans (h2.mono h1.size))
  cases hn : nameB s.data.toList with
  | false =>
    rw [hn] at K
    have hg : smallB s = false := by unfold smallB; rw [hn]; rfl
    rw [hg]
    clear hn hg hm
    go_enter Tryz.func114, Tryz.ntmps114
    go_wp2_with (go_at_call 127; (refine (Hid.out K).mono ?_; rintro e w1 ⟨rfl, hb1⟩))
    go_ret
    exact ⟨rfl, hb1⟩
  | true =>
    rw [hn] at K
    have hg : smallB s = !greatB s := by unfold smallB; rw [hn]; rfl
    rw [hg]
    generalize greatB s = g at *
    clear hn hg hm
    go_enter Tryz.func114, Tryz.ntmps114
    go_wp2_with (first
      | (go_at_call 127; (refine (Hid.out K).mono ?_; rintro e w1 ⟨rfl, hb1⟩; have HB1 := hid hb1; clear hb1))
      | (go_at_call 111; (refine (KG.out w1 HB1.out).mono ?_; rintro e w2 ⟨rfl, hb2⟩; have HB2 := hid (TR.out HB1.out hb2); clear hb2)))
    go_ret
    exact ⟨rfl, HB2.out⟩
def keyB (s : ByteArray) : Bool := s.toList == [105, 110, 116] || s.toList == [116, 101, 120, 116]
def simpB (s : ByteArray) : Bool := keyB s || s.toList == [98, 111, 111, 108]
def typB (s : ByteArray) : Bool := simpB s || greatB s
def labB (s : ByteArray) : Bool := s.toList.isEmpty || smallB s
set_option maxRecDepth 100000 in
theorem isKey_any (s : ByteArray) (w : World) : Calls Tryz.prog 115 #[.string s] w fun e w' => e = .returned (.bool (keyB s)) ∧ w' = w := by
  go_enter Tryz.func115, Tryz.ntmps115
  go_wp2
  all_goals
    go_ret
    exact ⟨ret_bool (by simp_all [keyB]), rfl⟩
set_option maxRecDepth 100000 in
theorem isSimple_any (s : ByteArray) (w : World) : Calls Tryz.prog 113 #[.string s] w fun e w' => e = .returned (.bool (simpB s)) ∧ w' = w := by
  have K := hid (isKey_any s w)
  unfold simpB
  cases hk : keyB s with
  | true =>
    rw [hk] at K
    go_enter Tryz.func113, Tryz.ntmps113
    go_wp2_with (go_at_call 115; (refine (Hid.out K).mono ?_; rintro e w1 ⟨rfl, rfl⟩))
    go_ret
    exact ⟨rfl, rfl⟩
  | false =>
    rw [hk] at K
    go_enter Tryz.func113, Tryz.ntmps113
    go_wp2_with (go_at_call 115; (refine (Hid.out K).mono ?_; rintro e w1 ⟨rfl, rfl⟩))
    all_goals
      go_ret
      exact ⟨ret_bool (by simp_all), rfl⟩
set_option maxRecDepth 100000 in
theorem isType_any (s : ByteArray) (hs : s.size ≤ 9223372036854775807) (w : World) (hm : MX w) : Calls Tryz.prog 116 #[.string s] w fun e w' => e = .returned (.bool (typB s)) ∧ Below w.heap.size w w' := by
  have K := hid (isSimple_any s w)
  have KG := hid (isGreat_any s hs w hm)
  unfold typB
  clear hs hm
  generalize greatB s = g at *
  cases hk : simpB s with
  | true =>
    rw [hk] at K
    clear hk
    go_enter Tryz.func116, Tryz.ntmps116
    go_wp2_with (go_at_call 113; (refine (Hid.out K).mono ?_; rintro e w1 ⟨rfl, rfl⟩))
    go_ret
    exact ⟨rfl, Below.refl _ _⟩
  | false =>
    rw [hk] at K
    clear hk
    go_enter Tryz.func116, Tryz.ntmps116
    go_wp2_with (first
      | (go_at_call 113; (refine (Hid.out K).mono ?_; rintro e w1 ⟨rfl, rfl⟩))
      | (go_at_call 111; (refine (Hid.out KG).mono ?_; rintro e w2 ⟨rfl, hb2⟩)))
    go_ret
    exact ⟨rfl, hb2⟩
set_option maxRecDepth 100000 in
theorem isLabel_any (s : ByteArray) (hs : s.size ≤ 9223372036854775807) (w : World) (hm : MX w) : Calls Tryz.prog 117 #[.string s] w fun e w' => e = .returned (.bool (labB s)) ∧ Below w.heap.size w w' := by
  have KG := hid (isSmall_any s hs w hm)
  unfold labB
  clear hs hm
  generalize smallB s = g at *
  cases hk : s.toList.isEmpty with
  | true =>
    have hk' : s.toList = [] := by simpa using hk
    go_enter Tryz.func117, Tryz.ntmps117
    go_wp2
    go_ret
    exact ⟨rfl, Below.refl _ _⟩
  | false =>
    have hk' : ¬ s.toList = [] := by simpa using hk
    go_enter Tryz.func117, Tryz.ntmps117
    go_wp2_with (go_at_call 114; (refine (Hid.out KG).mono ?_; rintro e w2 ⟨rfl, hb2⟩))
    go_ret
    exact ⟨rfl, hb2⟩
end Go.Proofs.YtdfambocenohgaaGreatDoor

namespace Go.Proofs.YtdfambocenohgaaGreatDoor
open Go.RowKit Go.Deep
set_option linter.unusedVariables false
set_option linter.unusedSimpArgs false

theorem bne_str {s t : ByteArray} (h : ¬ s = t) : ¬ s.toList = t.toList := fun e => h (by
  rw [ByteArray.toList_eq, ByteArray.toList_eq] at e
  cases s; cases t; simp at e; simp [e])
theorem eq_take {α : Type} {a b : List α} {i : Nat} {x y : α} (hl : a.length = b.length) (hx : a[i]? = some x) (hy : b[i]? = some y) (h : a.take i = b.take i) (e : x = y) : a.take (i + 1) = b.take (i + 1) := by
  rw [List.take_add_one, List.take_add_one, h, hx, hy, e]
theorem bel_drewN {B : Nat} {w0 w : World} (h : Below B w0 w) : ∀ n, Below B w0 (w.drewN n)
  | 0 => h
  | n + 1 => (bel_drewN h n).drew
theorem drewN_more {w wr : World} (h : ∃ m, wr = w.drewN m) : ∃ m, wr.drew = w.drewN m := by
  obtain ⟨m, rfl⟩ := h
  exact ⟨m + 1, rfl⟩
set_option maxRecDepth 100000 in
set_option maxHeartbeats 1000000 in
theorem equalS_any (w : World) (a1 : Option Addr) (n1 c1 : Nat) (l1 : List ByteArray) (h1 : n1 = l1.length) (b1 : n1 ≤ 1000000) (r1 : SLs w a1 l1) (a2 : Option Addr) (n2 c2 : Nat) (l2 : List ByteArray) (h2 : n2 = l2.length) (b2 : n2 ≤ 1000000) (r2 : SLs w a2 l2) :
    Calls Tryz.prog 97 #[.slice a1 n1 c1, .slice a2 n2 c2] w fun e w' => e = .returned (.bool (decide (l1 = l2))) ∧ ∃ m, w' = w.drewN m := by
  have hb1 : (n1 : Int) ≤ 1000000 := by omega
  have hb2 : (n2 : Int) ≤ 1000000 := by omega
  have R1 := hid r1
  have R2 := hid r2
  have H1 := hid h1
  have H2 := hid h2
  clear r1 r2
  by_cases hn : n1 = n2
  · subst hn
    clear h1 h2 b1 b2
    go_enter Tryz.func97, Tryz.ntmps97
    go_wp2
    go_loopg [13] n1 (fun g x wr => ∃ i : Nat, i + g = n1 ∧ x = .int .i64 (i : Int) ∧ (∃ m, wr = w.drewN m) ∧ l1.take i = l2.take i)
    case atStart => exact ⟨0, by omega, rfl, ⟨0, rfl⟩, rfl⟩
    case round =>
      obtain ⟨i, hi, rfl, hb, ht⟩ := hrel
      have HT := hid ht
      have HB0 := hid hb
      have HB : Hid (Below w.heap.size w wr) := hid (by obtain ⟨m, rfl⟩ := HB0.out; exact bel_drewN (Below.refl _ w) m)
      clear ht hb
      cases gk with
      | zero =>
        have hin : i = n1 := by omega
        subst hin
        have he : l1 = l2 := by
          have := HT.out
          rwa [List.take_of_length_le (by rw [← H1.out]; exact Nat.le_refl _), List.take_of_length_le (by rw [← H2.out]; exact Nat.le_refl _)] at this
        clear hi
        go_wp2
        go_ret
        exact ⟨by rw [decide_eq_true he]; rfl, HB0.out⟩
      | succ g =>
        have hil : (i : Int) < (n1 : Int) := by omega
        have hi0 : (0 : Int) ≤ (i : Int) := by omega
        obtain ⟨s, hs⟩ : ∃ s, l1[i]? = some s := ⟨l1[i]'(by rw [← H1.out]; omega), List.getElem?_eq_getElem _⟩
        obtain ⟨t, ht⟩ : ∃ t, l2[i]? = some t := ⟨l2[i]'(by rw [← H2.out]; omega), List.getElem?_eq_getElem _⟩
        obtain ⟨b, off, ea, hc1⟩ := (R1.out.below (Nat.le_refl _) HB.out) i s hs
        obtain ⟨b', off', ea', hc2⟩ := (R2.out.below (Nat.le_refl _) HB.out) i t ht
        subst ea
        subst ea'
        have HSs := hid hs
        have HTs := hid ht
        have Hi := hid hi
        clear hs ht hi
        by_cases hst : s = t
        · subst hst
          have hls : (s.toList == s.toList) = true := by simp
          go_upto_region 6 with fail
          go_region_held3 (fun w2 => w2.cell? ⟨b, off + i, none⟩ = some (.string s) ∧ w2.cell? ⟨b', off' + i, none⟩ = some (.string s)) (first | go_keep) (fail)
          go_wp2
          go_roundg g
          case measure => omega
          case rel => exact ⟨i + 1, by have := Hi.out; omega, by go_num, drewN_more HB0.out, eq_take (by rw [← H1.out, ← H2.out]) HSs.out HTs.out HT.out rfl⟩
        · have hls := bne_str hst
          have hlb : (s.toList == t.toList) = false := by simpa using hls
          have hld : ¬ l1 = l2 := by
            intro e
            have h := HSs.out
            rw [e, HTs.out] at h
            exact hst (by injection h with h; exact h.symm)
          go_upto_region 6 with fail
          go_region_held3 (fun w2 => w2.cell? ⟨b, off + i, none⟩ = some (.string s) ∧ w2.cell? ⟨b', off' + i, none⟩ = some (.string t)) (first | go_keep) (fail)
          go_wp2
          go_ret
          exact ⟨by rw [decide_eq_false hld]; rfl, drewN_more HB0.out⟩
  · have hnI : ¬ (n1 : Int) = (n2 : Int) := by omega
    have hld : ¬ l1 = l2 := by rintro rfl; omega
    rw [decide_eq_false hld]
    clear h1 h2 hn hld
    go_enter Tryz.func97, Tryz.ntmps97
    go_wp2
    go_ret
    exact ⟨rfl, 0, rfl⟩
end Go.Proofs.YtdfambocenohgaaGreatDoor

namespace Go.Proofs.YtdfambocenohgaaGreatDoor
open Go.RowKit Go.Deep
set_option linter.unusedVariables false
set_option linter.unusedSimpArgs false

theorem bool_eq_agg2 {s t s' t' : ByteArray} : ((s, t) = (s', t')) ↔ (s.toList = s'.toList ∧ t.toList = t'.toList) := by
  constructor
  · rintro ⟨rfl, rfl⟩; exact ⟨rfl, rfl⟩
  · rintro ⟨h1, h2⟩
    rw [Classical.byContradiction fun h => bne_str h h1, Classical.byContradiction fun h => bne_str h h2]
set_option maxRecDepth 100000 in
set_option maxHeartbeats 1000000 in
theorem equalP_any (w : World) (a1 : Option Addr) (n1 c1 : Nat) (l1 : List (ByteArray × ByteArray)) (h1 : n1 = l1.length) (b1 : n1 ≤ 1000000) (r1 : PLs w a1 l1) (a2 : Option Addr) (n2 c2 : Nat) (l2 : List (ByteArray × ByteArray)) (h2 : n2 = l2.length) (b2 : n2 ≤ 1000000) (r2 : PLs w a2 l2) :
    Calls Tryz.prog 96 #[.slice a1 n1 c1, .slice a2 n2 c2] w fun e w' => e = .returned (.bool (decide (l1 = l2))) ∧ ∃ m, w' = w.drewN m := by
  have hb1 : (n1 : Int) ≤ 1000000 := by omega
  have hb2 : (n2 : Int) ≤ 1000000 := by omega
  have R1 := hid r1
  have R2 := hid r2
  have H1 := hid h1
  have H2 := hid h2
  clear r1 r2
  by_cases hn : n1 = n2
  · subst hn
    clear h1 h2 b1 b2
    go_enter Tryz.func96, Tryz.ntmps96
    go_wp2
    go_loopg [13] n1 (fun g x wr => ∃ i : Nat, i + g = n1 ∧ x = .int .i64 (i : Int) ∧ (∃ m, wr = w.drewN m) ∧ l1.take i = l2.take i)
    case atStart => exact ⟨0, by omega, rfl, ⟨0, rfl⟩, rfl⟩
    case round =>
      obtain ⟨i, hi, rfl, hb, ht⟩ := hrel
      have HT := hid ht
      have HB0 := hid hb
      have HB : Hid (Below w.heap.size w wr) := hid (by obtain ⟨m, rfl⟩ := HB0.out; exact bel_drewN (Below.refl _ w) m)
      clear ht hb
      cases gk with
      | zero =>
        have hin : i = n1 := by omega
        subst hin
        have he : l1 = l2 := by
          have := HT.out
          rwa [List.take_of_length_le (by rw [← H1.out]; exact Nat.le_refl _), List.take_of_length_le (by rw [← H2.out]; exact Nat.le_refl _)] at this
        clear hi
        go_wp2
        go_ret
        exact ⟨by rw [decide_eq_true he]; rfl, HB0.out⟩
      | succ g =>
        have hil : (i : Int) < (n1 : Int) := by omega
        have hi0 : (0 : Int) ≤ (i : Int) := by omega
        obtain ⟨s, hs⟩ : ∃ s, l1[i]? = some s := ⟨l1[i]'(by rw [← H1.out]; omega), List.getElem?_eq_getElem _⟩
        obtain ⟨t, ht⟩ : ∃ t, l2[i]? = some t := ⟨l2[i]'(by rw [← H2.out]; omega), List.getElem?_eq_getElem _⟩
        obtain ⟨b, off, ea, hc1, hd1⟩ := (R1.out.below (Nat.le_refl _) HB.out) i s hs
        obtain ⟨b', off', ea', hc2, hd2⟩ := (R2.out.below (Nat.le_refl _) HB.out) i t ht
        subst ea
        subst ea'
        obtain ⟨s1, s2⟩ := s
        obtain ⟨t1, t2⟩ := t
        simp only at hc1 hc2 hd1 hd2
        have HSs := hid hs
        have HTs := hid ht
        have Hi := hid hi
        clear hs ht hi
        by_cases hst : (s1, s2) = (t1, t2)
        · have hst' := bool_eq_agg2.1 hst
          have HST := hid hst
          have hl1 : (s1.toList == t1.toList) = true := by simpa using hst'.1
          have hl2 : (s2.toList == t2.toList) = true := by simpa using hst'.2
          clear hst hst'
          go_upto_region 6 with fail
          go_region_held3 (fun w2 => w2.cell? ⟨b, off + i * 2, none⟩ = some (.string s1) ∧ w2.cell? ⟨b, off + i * 2 + 1, none⟩ = some (.string s2) ∧ w2.cell? ⟨b', off' + i * 2, none⟩ = some (.string t1) ∧ w2.cell? ⟨b', off' + i * 2 + 1, none⟩ = some (.string t2)) (first | go_keep) (fail)
          go_wp2
          go_roundg g
          case measure => omega
          case rel => exact ⟨i + 1, by have := Hi.out; omega, by go_num, drewN_more HB0.out, eq_take (by rw [← H1.out, ← H2.out]) HSs.out HTs.out HT.out HST.out⟩
        · have hld : ¬ l1 = l2 := by
            intro e
            have h := HSs.out
            rw [e, HTs.out] at h
            exact hst (by injection h with h; exact h.symm)
          have HLD := hid hld
          have hor : ¬ s1.toList = t1.toList ∨ (s1.toList = t1.toList ∧ ¬ s2.toList = t2.toList) := by
            by_cases h : s1.toList = t1.toList
            · exact .inr ⟨h, fun h2 => hst (bool_eq_agg2.2 ⟨h, h2⟩)⟩
            · exact .inl h
          clear hst hld
          rcases hor with h1 | ⟨h1, h2⟩
          · have hl1 : (s1.toList == t1.toList) = false := by simpa using h1
            go_upto_region 6 with fail
            go_region_held3 (fun w2 => w2.cell? ⟨b, off + i * 2, none⟩ = some (.string s1) ∧ w2.cell? ⟨b, off + i * 2 + 1, none⟩ = some (.string s2) ∧ w2.cell? ⟨b', off' + i * 2, none⟩ = some (.string t1) ∧ w2.cell? ⟨b', off' + i * 2 + 1, none⟩ = some (.string t2)) (first | go_keep) (fail)
            go_wp2
            go_ret
            exact ⟨by rw [decide_eq_false HLD.out]; rfl, drewN_more HB0.out⟩
          · have hl1 : (s1.toList == t1.toList) = true := by simpa using h1
            have hl2 : (s2.toList == t2.toList) = false := by simpa using h2
            go_upto_region 6 with fail
            go_region_held3 (fun w2 => w2.cell? ⟨b, off + i * 2, none⟩ = some (.string s1) ∧ w2.cell? ⟨b, off + i * 2 + 1, none⟩ = some (.string s2) ∧ w2.cell? ⟨b', off' + i * 2, none⟩ = some (.string t1) ∧ w2.cell? ⟨b', off' + i * 2 + 1, none⟩ = some (.string t2)) (first | go_keep) (fail)
            go_wp2
            go_ret
            exact ⟨by rw [decide_eq_false HLD.out]; rfl, drewN_more HB0.out⟩
  · have hnI : ¬ (n1 : Int) = (n2 : Int) := by omega
    have hld : ¬ l1 = l2 := by rintro rfl; omega
    rw [decide_eq_false hld]
    clear h1 h2 hn hld
    go_enter Tryz.func96, Tryz.ntmps96
    go_wp2
    go_ret
    exact ⟨rfl, 0, rfl⟩

def fieldsB (l : List ByteArray) : Bool := decide (1 ≤ l.length) && decide (l.length ≤ 12) && l.all smallB
theorem all_take {α : Type} {q : α → Bool} {l : List α} {i : Nat} {x : α} (hx : l[i]? = some x) (h : (l.take i).all q = true) (e : q x = true) : (l.take (i + 1)).all q = true := by
  rw [List.take_add_one, hx, List.all_append, h]; simpa using e
theorem all_not {α : Type} {q : α → Bool} {l : List α} {i : Nat} {x : α} (hx : l[i]? = some x) (e : q x = false) : l.all q = false := by
  rw [List.all_eq_false]; exact ⟨x, List.mem_of_getElem? hx, by simp [e]⟩
set_option maxRecDepth 100000 in
set_option maxHeartbeats 1000000 in
theorem areFields_any (w : World) (a : Option Addr) (n c : Nat) (l : List ByteArray) (hn : n = l.length) (hb : n ≤ 1000000) (hr : SLs w a l) (hz : ∀ s ∈ l, s.size ≤ 9223372036854775807) (hm : MX w) :
    Calls Tryz.prog 118 #[.slice a n c] w fun e w' => e = .returned (.bool (fieldsB l)) ∧ Below w.heap.size w w' := by
  have HN := hid hn
  have HR := hid hr
  have HM := hid hm
  have HZ := hid hz
  have TR : Hid (∀ {Z x y : World}, Below Z.heap.size Z x → Below x.heap.size x y → Below Z.heap.size Z y) := hid (fun h1 h2 => h1.trans (h2.mono h1.size))
  clear hr hm hz
  by_cases h1 : n < 1
  · have h1' : (n : Int) < 1 := by omega
    have hx : fieldsB l = false := by unfold fieldsB; rw [decide_eq_false (show ¬ 1 ≤ l.length by omega)]; rfl
    rw [hx]
    clear hx hn
    go_enter Tryz.func118, Tryz.ntmps118
    go_wp2
    go_ret
    exact ⟨rfl, Below.refl _ _⟩
  · by_cases h2 : 12 < n
    · have h1' : ¬ (n : Int) < 1 := by omega
      have h2' : (12 : Int) < (n : Int) := by omega
      have hnI : (n : Int) ≤ 1000000 := by omega
      have hx : fieldsB l = false := by unfold fieldsB; rw [decide_eq_false (show ¬ l.length ≤ 12 by omega)]; simp
      rw [hx]
      clear hx hn
      go_enter Tryz.func118, Tryz.ntmps118
      go_wp2
      go_ret
      exact ⟨rfl, Below.refl _ _⟩
    · have h1' : ¬ (n : Int) < 1 := by omega
      have h2' : ¬ (12 : Int) < (n : Int) := by omega
      have hnI : (n : Int) ≤ 1000000 := by omega
      have hx : fieldsB l = l.all smallB := by unfold fieldsB; rw [decide_eq_true (show 1 ≤ l.length by omega), decide_eq_true (show l.length ≤ 12 by omega)]; simp
      rw [hx]
      clear hx hn
      go_enter Tryz.func118, Tryz.ntmps118
      go_wp2
      go_loopg [15] n (fun g x wr => ∃ i : Nat, i + g = n ∧ x = .int .i64 (i : Int) ∧ Below w.heap.size w wr ∧ (l.take i).all smallB = true)
      case atStart => exact ⟨0, by omega, rfl, Below.refl _ _, rfl⟩
      case round =>
        obtain ⟨i, hi, rfl, hb, ht⟩ := hrel
        have HT := hid ht
        have HB := hid hb
        clear ht hb
        cases gk with
        | zero =>
          have hin : i = n := by omega
          subst hin
          clear hi
          go_wp2
          go_ret
          have := HT.out
          rw [List.take_of_length_le (by rw [← HN.out]; exact Nat.le_refl _)] at this
          exact ⟨by rw [this]; rfl, HB.out⟩
        | succ g =>
          have hil : (i : Int) < (n : Int) := by omega
          have hi0 : (0 : Int) ≤ (i : Int) := by omega
          obtain ⟨s, hs⟩ : ∃ s, l[i]? = some s := ⟨l[i]'(by rw [← HN.out]; omega), List.getElem?_eq_getElem _⟩
          obtain ⟨b, off, ea, hc1⟩ := (HR.out.below (Nat.le_refl _) HB.out) i s hs
          subst ea
          have K := hid (isSmall_any s (HZ.out s (List.mem_of_getElem? hs)) wr (HM.out.below HM.out.lt HB.out))
          have HS := hid hs
          have Hi := hid hi
          clear hs hi
          cases hq : smallB s with
          | true =>
            rw [hq] at K
            have HQ := hid hq
            clear hq
            go_wp2_with (go_at_call 114; (refine (Hid.out K).mono ?_; rintro e w1 ⟨rfl, hb1⟩))
            go_roundg g
            case measure => omega
            case rel => exact ⟨i + 1, by have := Hi.out; omega, by go_num, TR.out HB.out hb1, all_take HS.out HT.out HQ.out⟩
          | false =>
            rw [hq] at K
            have HQ := hid hq
            clear hq
            go_wp2_with (go_at_call 114; (refine (Hid.out K).mono ?_; rintro e w1 ⟨rfl, hb1⟩))
            go_ret
            exact ⟨by rw [all_not HS.out HQ.out]; rfl, TR.out HB.out hb1⟩
def paramsB (q : ByteArray → Bool) (l : List (ByteArray × ByteArray)) : Bool := decide (l.length ≤ 12) && l.all fun p => smallB p.1 && q p.2
set_option maxRecDepth 100000 in
set_option maxHeartbeats 1000000 in
theorem params_any (g : Nat) (q : ByteArray → Bool) (eg : ∀ args w, (callFunc g args).run Tryz.prog w = .ok (.enter g args) w)
    (hg : ∀ (s : ByteArray) (w : World), s.size ≤ 9223372036854775807 → MX w → Calls Tryz.prog g #[.string s] w fun e w' => e = .returned (.bool (q s)) ∧ Below w.heap.size w w')
    (w : World) (a : Option Addr) (n c : Nat) (l : List (ByteArray × ByteArray)) (hn : n = l.length) (hb : n ≤ 1000000) (hr : PLs w a l) (hz : ∀ s ∈ l, s.1.size ≤ 9223372036854775807 ∧ s.2.size ≤ 9223372036854775807) (hm : MX w) :
    Calls Tryz.prog 112 #[.slice a n c, .func (.func g) #[] #[]] w fun e w' => e = .returned (.bool (paramsB q l)) ∧ Below w.heap.size w w' := by
  have HN := hid hn
  have HR := hid hr
  have HM := hid hm
  have HZ := hid hz
  have HG := hid hg
  have TR : Hid (∀ {Z x y : World}, Below Z.heap.size Z x → Below x.heap.size x y → Below Z.heap.size Z y) := hid (fun h1 h2 => h1.trans (h2.mono h1.size))
  clear hr hm hz hg
  by_cases h2 : 12 < n
  · have h2' : (12 : Int) < (n : Int) := by omega
    have hnI : (n : Int) ≤ 1000000 := by omega
    have hx : paramsB q l = false := by unfold paramsB; rw [decide_eq_false (show ¬ l.length ≤ 12 by omega)]; simp
    rw [hx]
    clear hx hn
    go_enter Tryz.func112, Tryz.ntmps112
    go_wp2
    go_ret
    exact ⟨rfl, Below.refl _ _⟩
  · have h2' : ¬ (12 : Int) < (n : Int) := by omega
    have hnI : (n : Int) ≤ 1000000 := by omega
    have hx : paramsB q l = l.all fun p => smallB p.1 && q p.2 := by unfold paramsB; rw [decide_eq_true (show l.length ≤ 12 by omega)]; simp
    rw [hx]
    clear hx hn
    go_enter Tryz.func112, Tryz.ntmps112
    go_wp2
    go_loopg [12] n (fun g x wr => ∃ i : Nat, i + g = n ∧ x = .int .i64 (i : Int) ∧ Below w.heap.size w wr ∧ ((l.take i).all fun p => smallB p.1 && q p.2) = true)
    case atStart => exact ⟨0, by omega, rfl, Below.refl _ _, rfl⟩
    case round =>
      obtain ⟨i, hi, rfl, hb, ht⟩ := hrel
      have HT := hid ht
      have HB := hid hb
      clear ht hb
      cases gk with
      | zero =>
        have hin : i = n := by omega
        subst hin
        clear hi
        go_wp2
        go_ret
        have := HT.out
        rw [List.take_of_length_le (by rw [← HN.out]; exact Nat.le_refl _)] at this
        exact ⟨by rw [this]; rfl, HB.out⟩
      | succ gg =>
        have hil : (i : Int) < (n : Int) := by omega
        have hi0 : (0 : Int) ≤ (i : Int) := by omega
        obtain ⟨⟨s, u⟩, hs⟩ : ∃ s, l[i]? = some s := ⟨l[i]'(by rw [← HN.out]; omega), List.getElem?_eq_getElem _⟩
        obtain ⟨b, off, ea, hc1, hc2⟩ := (HR.out.below (Nat.le_refl _) HB.out) i (s, u) hs
        subst ea
        simp only at hc1 hc2
        have hsz := HZ.out (s, u) (List.mem_of_getElem? hs)
        obtain ⟨W, hW⟩ : ∃ W, W = wr.alloc (.cells #[.string s, .string u] 88) := ⟨_, rfl⟩
        have hbW : Below w.heap.size w W := by rw [hW]; exact HB.out.alloc HB.out.size _
        have hbox : W.heap[wr.heap.size]? = some (.cells #[.string s, .string u] 88 (0, 0)) := by rw [hW]; exact heap_alloc_new _ _
        have K := hid (isSmall_any s hsz.1 W (HM.out.below HM.out.lt hbW))
        have KQ := hid (fun (w1 : World) (h : Below w.heap.size w w1) => HG.out u w1 hsz.2 (HM.out.below HM.out.lt h))
        have HX := hid (fun (w1 : World) (h : Below W.heap.size W w1) => ((h.block _ (Array.getElem?_eq_some_iff.1 hbox).1).trans hbox))
        have y0 := cellT hbox 0
        have y1 := cellT hbox 1
        simp only [List.getElem?_toArray, List.getElem?_cons_zero, List.getElem?_cons_succ] at y0 y1
        have HBW := hid hbW
        have HS := hid hs
        have Hi := hid hi
        clear hs hi hsz hbW hbox
        go_upto_region 6 with fail
        try rw [← hW]
        clear hW
        cases hq : smallB s with
        | false =>
          rw [hq] at K
          have HQ := hid hq
          clear hq
          go_wp2_with (go_at_call 114; (refine (Hid.out K).mono ?_; rintro e w1 ⟨rfl, hb1⟩))
          go_ret
          exact ⟨by rw [all_not HS.out (show (smallB s && q u) = false by rw [HQ.out]; rfl)]; rfl, TR.out HBW.out hb1⟩
        | true =>
          rw [hq] at K
          have HQ := hid hq
          clear hq
          cases hr : q u with
          | true =>
            simp only [hr] at KQ
            have HQ2 := hid hr
            clear hr
            go_wp2_with (first
              | (go_at_call 114; (refine (Hid.out K).mono ?_; rintro e w1 ⟨rfl, hb1⟩; have hx := HX.out w1 hb1; have z1 := cellT hx 1; simp only [List.getElem?_toArray, List.getElem?_cons_zero, List.getElem?_cons_succ] at z1; have HB1 := hid (TR.out HBW.out hb1); clear y0 y1 hb1 hx))
              | (go_at_fn g; (refine (KQ.out w1 HB1.out).mono ?_; rintro e w2 ⟨rfl, hb2⟩; have HB2 := hid (TR.out HB1.out hb2); clear hb2)))
            go_roundg gg
            case measure => omega
            case rel => exact ⟨i + 1, by have := Hi.out; omega, by go_num, HB2.out, all_take HS.out HT.out (show (smallB s && q u) = true by rw [HQ.out, HQ2.out]; rfl)⟩
          | false =>
            simp only [hr] at KQ
            have HQ2 := hid hr
            clear hr
            go_wp2_with (first
              | (go_at_call 114; (refine (Hid.out K).mono ?_; rintro e w1 ⟨rfl, hb1⟩; have hx := HX.out w1 hb1; have z1 := cellT hx 1; simp only [List.getElem?_toArray, List.getElem?_cons_zero, List.getElem?_cons_succ] at z1; have HB1 := hid (TR.out HBW.out hb1); clear y0 y1 hb1 hx))
              | (go_at_fn g; (refine (KQ.out w1 HB1.out).mono ?_; rintro e w2 ⟨rfl, hb2⟩; have HB2 := hid (TR.out HB1.out hb2); clear hb2)))
            go_ret
            exact ⟨by rw [all_not HS.out (show (smallB s && q u) = false by rw [HQ.out, HQ2.out]; rfl)]; rfl, HB2.out⟩
end Go.Proofs.YtdfambocenohgaaGreatDoor

namespace Go.Proofs.YtdfambocenohgaaGreatDoor
open Go.RowKit Go.Deep
set_option linter.unusedVariables false
set_option linter.unusedSimpArgs false

theorem beqL {s t : ByteArray} (h : s = t) : (s.toList == t.toList) = true := by rw [h]; simp
theorem bneL {s t : ByteArray} (h : ¬ s = t) : (s.toList == t.toList) = false := by simpa using bne_str h
theorem SLs.drewN {w : World} {a : Option Addr} {l : List ByteArray} (h : SLs w a l) (n : Nat) : SLs (w.drewN n) a l := h
theorem PLs.drewN {w : World} {a : Option Addr} {l : List (ByteArray × ByteArray)} (h : PLs w a l) (n : Nat) : PLs (w.drewN n) a l := h
end Go.Proofs.YtdfambocenohgaaGreatDoor

