/- The document's Fn. -/
import Derived.Test.YtmhjnfibpngpmaaJAG
namespace Go.Proofs.Ytmhjnfibpngpmaa
set_option maxRecDepth 100000
open Go.RowKit Go.Deep Go.Shelf
set_option linter.unusedVariables false
set_option linter.unusedSimpArgs false
set_option maxRecDepth 100000 in
set_option maxHeartbeats 4000000 in
theorem refFn_any (w : World) (regs : Int) (a : Option Addr) (n c : Nat) (bs : List Blk) (hn : n = bs.length) (hnb : n ≤ 10000) (hr : BRd w a bs) (hnl : ∀ b ∈ bs, b.oa = none → b.oc = 0) (hT : (layA 0 bs).length ≤ 100000) : Calls Try.prog 83 #[.agg #[.int .i64 regs, .slice a n c]] w (FnP w regs bs 100) := by
  obtain ⟨X, hX⟩ : ∃ X, X = w.heap.size := ⟨_, rfl⟩
  obtain ⟨W0, hW0⟩ : ∃ W0, W0 = (w.alloc (.cells #[.int .i64 regs, .slice a n c] 92)).alloc (.cells #[.int .i64 0, .slice none 0 0] 73) := ⟨_, rfl⟩
  have bw0 : Below w.heap.size w W0 := by rw [hW0]; exact ((Below.refl _ _).alloc (Nat.le_refl _) _).alloc (by simp) _
  have z0 : W0.heap.size = X + 1 + 1 := by rw [hW0, hX]; simp
  have m0 : W0.heap[X]? = some (.cells #[.int .i64 regs, .slice a n c] 92 (0, 0)) := by rw [hW0, hX, Below.heap_alloc _ _ _ (by simp)]; exact heap_alloc_new _ _
  have m1 : W0.heap[X + 1]? = some (.cells #[.int .i64 0, .slice none 0 0] 73 (0, 0)) := by
    have := heap_alloc_new (w.alloc (.cells #[.int .i64 regs, .slice a n c] 92)) (.cells #[.int .i64 0, .slice none 0 0] 73)
    rw [World.size_alloc] at this
    rw [hW0, hX]; exact this
  have K1 := hid (refIsGraph_any W0 regs a n c bs hn (by omega) (hr.below bw0))
  have MB := hid (fun (v : World) (hv : Below W0.heap.size W0 v) => (⟨(hv.block X (by omega)).trans m0, (hv.block (X + 1) (by omega)).trans m1⟩ : v.heap[X]? = some (.cells #[.int .i64 regs, .slice a n c] 92 (0, 0)) ∧ v.heap[X + 1]? = some (.cells #[.int .i64 0, .slice none 0 0] 73 (0, 0))))
  have BW := hid (fun (v : World) (hv : Below W0.heap.size W0 v) => bw0.trans (hv.mono bw0.size))
  have BR := hid (fun (v : World) (hv : Below W0.heap.size W0 v) => (hr.below bw0).below hv)
  have CX := hid (fun (v : World) (hv : Below W0.heap.size W0 v) => (⟨cellOf (MB.out v hv).1 0, cellOf (MB.out v hv).1 1⟩ : v.cell? ⟨X, 0, none⟩ = some (.int .i64 regs) ∧ v.cell? ⟨X, 1, none⟩ = some (.slice a n c)))
  obtain ⟨x0, x1⟩ := CX.out W0 (Below.refl _ _)
  have HX := hid hX
  have Z0 := hid z0
  have HN := hid hn
  have HNL := hid hnl
  have HT := hid hT
  have hnI : (n : Int) ≤ 10000 := by omega
  have hnI0 : (0 : Int) ≤ (n : Int) := by omega
  cases hok : isG bs with
  | false =>
    rw [hok] at K1
    have HO := hid hok
    clear m0 m1 bw0 hr hn hok hnl hT z0
    go_enter Try.func83, Try.ntmps83
    go_upto_region 1 with fail
    rw [← hX, ← hW0]
    clear hW0 hX
    go_wp2_with (first | (go_at_call 123; (refine (Hid.out K1).mono ?_; rintro e w1 ⟨rfl, hb1⟩; have HM1 := hid (MB.out w1 hb1); have HB1 := hid hb1; have y0 := cellOf HM1.out.2 0; have y1 := cellOf HM1.out.2 1; have f0 := freeOf HM1.out.2 0; have f1 := freeOf HM1.out.2 1; simp only [List.getElem?_toArray, List.getElem?_cons_zero, List.getElem?_cons_succ] at y0 y1; clear hb1 x0 x1)))
    have h3 := two_new HM1.out.2 (.int .i64 0) (.slice none 0 0)
    have hbb := two_below (BW.out w1 HB1.out) (b := X + 1) (by have := HX.out; omega) (.int .i64 0) (.slice none 0 0)
    have q0 := cellOf h3 0
    have q1 := cellOf h3 1
    simp only [two, List.getElem?_toArray, List.getElem?_cons_zero, List.getElem?_cons_succ] at q0 q1 hbb
    refine bodyPost_ret (v := .tuple #[.agg #[.int .i64 0, .slice none 0 0], .int .i64 100]) (by simp [results, Try.results83, go_sem, q0, q1]) rfl ⟨hbb, .inr ⟨HO.out, rfl⟩⟩
  | true =>
    rw [hok] at K1
    have hn0 : 0 < n := by have := HN.out; unfold isG at hok; simp at hok; omega
    have HO := hid hok
    clear m0 m1 bw0 hr hn hok hnl hT z0
    go_enter Try.func83, Try.ntmps83
    go_upto_region 1 with fail
    rw [← hX, ← hW0]
    clear hW0 hX
    go_upto_region 3 with (go_at_call 123; (refine (Hid.out K1).mono ?_; rintro e w1 ⟨rfl, hb1⟩; have HB1 := hid hb1; clear hb1 x0 x1))
    clear K1
    go_wp2
    go_loopg [4, 5, 6] n (fun g x y z wr => ∃ (j : Nat) (a4 : Option Addr) (c4 : Nat), j + g = n ∧ z = .int .i64 (j : Int) ∧ y = .int .i64 (bg bs j : Int) ∧ x = .slice a4 j c4 ∧ GRow wr (X + 2) a4 j c4 (bgs bs j) ∧ Below W0.heap.size W0 wr)
    case atStart => exact ⟨0, none, 0, by omega, rfl, rfl, rfl, GRow.nil _ _, HB1.out⟩
    case round =>
      obtain ⟨j, a4, c4, hj, rfl, rfl, rfl, hG, hb⟩ := hrel
      obtain ⟨x0, x1⟩ := CX.out wr hb
      cases gk with
      | succ g =>
        obtain ⟨o, ho⟩ : ∃ o, bs[j]? = some o := ⟨bs[j]'(by have := HN.out; omega), List.getElem?_eq_getElem _⟩
        have hokx : okBk n o = true := by have := isG_at HO.out ho; rw [← HN.out] at this; exact this
        have hbs := bg_succ ho hokx
        have hble := bg_le bs j
        have hTo := HT.out
        obtain ⟨b, off, ea, hc⟩ := (BR.out wr hb).c j o ho
        have hbk := (BR.out wr hb).e o (List.mem_of_getElem? ho)
        obtain ⟨oa, on, oc, en, ba, tt, el, ops⟩ := o
        have hon : on = ops.length := hbk.n
        have honb : on ≤ 10000 := hbk.nb
        obtain ⟨sz, hsz⟩ : ∃ sz, sz = on + szE en tt el j := ⟨_, rfl⟩
        have hszb : sz ≤ 10002 := by have := szE_le en tt el j; omega
        have hbs2 : bg bs (j + 1) = bg bs j + sz := by rw [hbs, hsz, hon]
        have hszI : (sz : Int) ≤ 10002 := by omega
        have hszI0 : (0 : Int) ≤ (sz : Int) := by omega
        have hbI : (bg bs j : Int) ≤ 100000 := by omega
        have hbI0 : (0 : Int) ≤ (bg bs j : Int) := by omega
        have hjI : (j : Int) < (n : Int) := by omega
        have hj0 : (0 : Int) ≤ (j : Int) := by omega
        subst ea
        have CEL := hid (fun (v : World) (hv : Below W0.heap.size W0 v) => (by
          obtain ⟨b', off', e', hc'⟩ := (BR.out v hv).c j _ ho
          cases e'
          have c0 := hc' 0 (by omega)
          have c1 := hc' 1 (by omega)
          have c2 := hc' 2 (by omega)
          have c3 := hc' 3 (by omega)
          have c4 := hc' 4 (by omega)
          simp only [Blk.cs, List.getElem?_toArray, List.getElem?_cons_zero, List.getElem?_cons_succ, Nat.add_zero] at c0 c1 c2 c3 c4
          exact ⟨c0, c1, c2, c3, c4⟩ : v.cell? ⟨b, off + j * 5, none⟩ = some (.slice oa on oc) ∧ v.cell? ⟨b, off + j * 5 + 1, none⟩ = some (.int .i64 en) ∧ v.cell? ⟨b, off + j * 5 + 2, none⟩ = some (.int .i64 ba) ∧ v.cell? ⟨b, off + j * 5 + 3, none⟩ = some (.int .i64 tt) ∧ v.cell? ⟨b, off + j * 5 + 4, none⟩ = some (.int .i64 el)))
        have K18 := hid (fun (v : World) => (size_any v oa on oc en ba tt el j (by omega) (by omega)))
        rw [show ((on : Int) + (szE en tt el j : Int)) = (sz : Int) from by rw [hsz]; simp] at K18
        have HBS := hid hbs2
        have hXw : X + 2 ≤ wr.heap.size := by have := hb.size; have := Z0.out; omega
        have AP := hid (fun (v2 : World) (a2 : Option Addr) (h : Gwn (wr.alloc (.cells #[.int .i64 (bg bs j : Int)] 3)) a4 v2 a2) => (by
          have hbl : Below (X + 2) wr v2 := (below_own hXw _).trans (h.below (fun z e => by obtain ⟨g', rfl, h1, h2⟩ := hG.at' z e; exact h1) (by rw [World.size_alloc]; omega))
          exact hb.trans (hbl.mono (by have := Z0.out; omega)) : Below W0.heap.size W0 v2))
        have HG := hid hG
        have hjb : j ≤ 1000000 := by omega
        clear hbs hble hTo hc hbk hon honb hsz hszb hbs2 hb hG ho hokx
        go_wp2_with (first
          | (have hno := e18; (go_at_call 124; (refine (K18.out w6).mono ?_; rintro e w7 ⟨rfl, hb7⟩; have HB7 := hid (HB6.out.trans (hb7.mono HB6.out.size)); have HG7 := hid (HG6.out.below (Nat.le_refl _) hb7); clear hb7 t0 t1 t2 t3 t4 u0 u1)))
          | (at_builtin; refine f_wpList_app1 wr rfl _ _ rfl a4 j c4 (bg bs j : Int) (by rfl) (by rfl) (X + 2) (bgs bs j) HG.out hjb hXw ?_; intro a6 c6 w6 hg6 hgw6; have HG6 := hid hg6; have HB6 := hid (AP.out w6 a6 hgw6); obtain ⟨u0, u1⟩ := CX.out w6 HB6.out; obtain ⟨t0, t1, t2, t3, t4⟩ := CEL.out w6 HB6.out; have e18 := True.intro; clear hg6 hgw6 x0 x1))
        go_roundg g
        case measure => omega
        exact ⟨j + 1, _, _, by omega, by go_num, by rw [HBS.out]; go_num, rfl, by rw [bgs_succ]; exact HG7.out, HB7.out⟩
      | zero =>
        have hjn : j = n := by omega
        subst hjn
        obtain ⟨g5, rfl, hB5, _, _⟩ := hG.cell (bgs_get (bs := bs) hn0)
        obtain ⟨_, e5, _, hg5⟩ := hG.at' _ rfl
        cases e5
        obtain ⟨FB, hFB⟩ : ∃ FB, FB = wr.heap.size := ⟨_, rfl⟩
        obtain ⟨W9, hW9⟩ : ∃ W9, W9 = wr.alloc (.cells #[.int .i64 regs, .slice none 0 0] 73) := ⟨_, rfl⟩
        have b9 : Below wr.heap.size wr W9 := by rw [hW9]; exact (Below.refl _ _).alloc (Nat.le_refl _) _
        have m9 : W9.heap[FB]? = some (.cells #[.int .i64 regs, .slice none 0 0] 73 (0, 0)) := by rw [hW9, hFB]; exact heap_alloc_new _ _
        have hXF : X + 2 ≤ FB := by have := hb.size; have := Z0.out; omega
        have BF := hid (fun (v : World) (hv : Below FB W9 v) => (hb.trans ((b9.trans (hv.mono (by omega))).mono hb.size) : Below W0.heap.size W0 v))
        have ST := hid (fun (v : World) (hv : Below FB W9 v) (k : Nat) (hk : k < j) => (by
          have h2 : GRow v (X + 2) (some ⟨g5, 0, none⟩) j c4 (bgs bs j) := hG.keep (Nat.le_trans b9.size hv.size) (fun x e => by cases e; exact (hv.block g5 (by show g5 < FB; omega)).trans (b9.block g5 (by show g5 < wr.heap.size; omega)))
          obtain ⟨g', e, _, h3, _⟩ := h2.cell (bgs_get (bs := bs) hk)
          cases e
          exact h3 : v.cell? ⟨g5, k, none⟩ = some (.int .i64 (bg bs k : Int))))
        have HS : Hid (f_FX W9 FB regs none 0 0 (layF bs 0) W9) := hid ⟨Below.refl _ _, m9, OpR.nil _ _⟩
        have HXF := hid hXF
        clear hG hb b9 m9 hj hg5 hB5 hXF
        go_upto_region 11 with fail
        rw [← hFB, ← hW9]
        clear hFB hW9 x0 x1
        go_wp2
        go_loopg [8] j (fun g x wr2 => ∃ (i : Nat) (a7 : Option Addr) (m7 c7 : Nat), i + g = j ∧ x = .int .i64 (i : Int) ∧ f_FX W9 FB regs a7 m7 c7 (layF bs i) wr2)
        case atStart => exact ⟨0, none, 0, 0, by omega, rfl, HS.out⟩
        case round =>
          obtain ⟨i, a7, m7, c7, hi, rfl, hF⟩ := hrel
          have hbv := BF.out wr hF.b
          obtain ⟨x0, x1⟩ := CX.out wr hbv
          cases gk with
          | zero =>
            have hij : i = j := by omega
            have h3 := two_new (MB.out wr hbv).2 (.int .i64 regs) (.slice a7 m7 c7)
            have hbb := two_below (BW.out wr hbv) (b := X + 1) (by have := HX.out; omega) (.int .i64 regs) (.slice a7 m7 c7)
            have hoo : OpR (two wr (X + 1) (.int .i64 regs) (.slice a7 m7 c7)) w.heap.size (.slice a7 m7 c7) (layB bs) := by
              rw [← layF_end HN.out, ← hij]
              refine (hF.o.lower (by have := HXF.out; have := HX.out; omega)).keep fun g e => two_heap _ _ _ _ (by have := (hF.o.own e).1; have := HXF.out; omega)
            have p0 := cellOf hF.f 0
            have p1 := cellOf hF.f 1
            have r0 := cellOf (MB.out wr hbv).2 0
            have r1 := cellOf (MB.out wr hbv).2 1
            have f0 := freeOf (MB.out wr hbv).2 0
            have f1 := freeOf (MB.out wr hbv).2 1
            have q0 := cellOf h3 0
            have q1 := cellOf h3 1
            simp only [two, List.getElem?_toArray, List.getElem?_cons_zero, List.getElem?_cons_succ] at p0 p1 q0 q1 r0 r1 hbb hoo
            have hiI : (i : Int) = (j : Int) := by omega
            have HBB := hid hbb
            have HOO := hid hoo
            clear h3 hbb hoo hF hbv hij hi HS
            go_wp2
            refine bodyPost_ret (v := .tuple #[.agg #[.int .i64 regs, .slice a7 m7 c7], .int .i64 0]) (by simp [results, Try.results83, go_sem, q0, q1]) rfl ⟨HBB.out, .inl ⟨HO.out, _, rfl, HOO.out⟩⟩
          | succ g =>
            obtain ⟨o, ho⟩ : ∃ o, bs[i]? = some o := ⟨bs[i]'(by have := HN.out; omega), List.getElem?_eq_getElem _⟩
            have hokx : okBk j o = true := by have := isG_at HO.out ho; rw [← HN.out] at this; exact this
            have htg := tg_in hokx
            have hend : endE o.en o.a o.tt o.el = true := by unfold okBk at hokx; simp only [Bool.and_eq_true] at hokx; exact hokx.1.1
            have hsu := layF_succ ho hokx
            have hf38 := fun kt => fix_38 bs (b := o) (j := i) (kt := kt)
            have hf39 := fun kt ke => fix_39 bs (b := o) (j := i) (kt := kt) (ke := ke)
            have hf40 := fix_40 bs (b := o) (j := i)
            have hle1 := layF_len bs i
            have hle2 := layF_len bs (i + 1)
            have hTo := HT.out
            obtain ⟨b, off, ea, hc⟩ := (BR.out wr hbv).c i o ho
            have hbk := (BR.out wr hbv).e o (List.mem_of_getElem? ho)
            have hnl := HNL.out o (List.mem_of_getElem? ho)
            obtain ⟨oa, on, oc, en, ba, tt, el, ops⟩ := o
            simp only at htg hend hsu hf38 hf39 hf40
            have hon : on = ops.length := hbk.n
            have honb : on ≤ 10000 := hbk.nb
            have hnl' : oa = none → oc = 0 := hnl
            have c0 := hc 0 (by omega)
            have c1 := hc 1 (by omega)
            have c2 := hc 2 (by omega)
            have c3 := hc 3 (by omega)
            have c4' := hc 4 (by omega)
            simp only [Blk.cs, List.getElem?_toArray, List.getElem?_cons_zero, List.getElem?_cons_succ, Nat.add_zero] at c0 c1 c2 c3 c4'
            obtain ⟨Y, hY⟩ : ∃ Y, Y = wr.heap.size := ⟨_, rfl⟩
            obtain ⟨W1, hW1⟩ : ∃ W1, W1 = wr.alloc (.cells #[.slice oa on oc, .int .i64 en, .int .i64 ba, .int .i64 tt, .int .i64 el] 89) := ⟨_, rfl⟩
            have b1 : Below wr.heap.size wr W1 := by rw [hW1]; exact (Below.refl _ _).alloc (Nat.le_refl _) _
            have hR1 : RX W9 FB Y regs #[.slice oa on oc, .int .i64 en, .int .i64 ba, .int .i64 tt, .int .i64 el] a7 m7 c7 (layF bs i) W1 := by rw [hW1, hY]; exact hF.box _
            have hor1 : ORd W1 oa ops := hbk.r.below b1
            have hL1 : (layF bs i).length ≤ 1000000 := by omega
            have hL2 : (layF bs i ++ ops).length ≤ 1000000 := by rw [hsu, List.length_append] at hle2; omega
            have hL3 : (layF bs i ++ ops).length + 5 ≤ 1000000 := by rw [hsu, List.length_append] at hle2; omega
            have hiI : (i : Int) < (j : Int) := by omega
            have hi0 : (0 : Int) ≤ (i : Int) := by omega
            have honI : (on : Int) ≤ 10000 := by omega
            have hon2 : on ≤ 1000000 := by omega
            have e0 := cellOf hR1.x 0
            have p1 := cellOf hR1.f 1
            simp only [List.getElem?_toArray, List.getElem?_cons_zero, List.getElem?_cons_succ] at e0 p1
            have hFB1 : FB + 1 ≤ W1.heap.size := by have := lt_of_heap hR1.f; omega
            have HSU := hid hsu
            have Hon := hid hon
            have HR1 := hid hR1
            have HOR := hid hor1
            have HNL' := hid hnl'
            have HF38 := hid hf38
            have HF39 := hid hf39
            have HF40 := hid hf40
            clear hF hbv hsu hf38 hf39 hf40 hle1 hle2 hTo hc hbk hnl hon honb hnl' b1 hR1 hor1 ho hokx HS
            subst ea
            go_upto_region 15 with fail
            rw [← hY, ← hW1]
            clear hY hW1 c0 c1 c2 c3 c4' x0 x1
            go_upto_region 16 with (at_builtin; refine wpList_appO W1 rfl _ _ rfl _ _ (by rfl) (by rfl) (FB + 1) (layF bs i) HR1.out.o oa on oc rfl ops Hon.out HOR.out HNL'.out hL1 hon2 hFB1 ?_; intro v7 w7 ho7 hg7 hn7; obtain ⟨a8, m8, c8, rfl, Hm8, _, _⟩ := ho7.rdm; have HA := hid (HR1.out.add ho7 hg7 hn7); have p1' := cellOf HA.out.2.1 1; have pf := freeOf HA.out.2.1 1; simp only [List.getElem?_toArray, List.getElem?_cons_zero, List.getElem?_cons_succ] at p1'; clear ho7 hg7 hn7 p1 e0)
            obtain ⟨W8, hW8⟩ : ∃ W8, W8 = w7.setCell ⟨FB, 1, none⟩ (.slice a8 m8 c8) := ⟨_, rfl⟩
            have hR8 := HA.out.1
            rw [← hW8] at hR8
            rw [← hW8]
            clear hW8 p1' pf
            have HR8 := hid hR8
            have y1 := cellOf hR8.x 1
            have y2 := cellOf hR8.x 2
            have y3 := cellOf hR8.x 3
            have y4 := cellOf hR8.x 4
            have p8 := cellOf hR8.f 1
            simp only [List.getElem?_toArray, List.getElem?_cons_zero, List.getElem?_cons_succ] at y1 y2 y3 y4 p8
            have hFB8 : FB + 1 ≤ W8.heap.size := by have := lt_of_heap hR8.f; omega
            have hen : en = 38 ∨ en = 39 ∨ en = 40 := by
              refine Classical.byContradiction fun h => ?_
              unfold endE at hend
              rw [if_neg (fun k => h (.inl k)), if_neg (fun k => h (.inr (.inl k))), if_neg (fun k => h (.inr (.inr k)))] at hend
              cases hend
            clear hR8 hend HR1 HA
            rcases hen with rfl | rfl | rfl
            · obtain ⟨kt, rfl⟩ : ∃ kt : Nat, tt = (kt : Int) := ⟨tt.toNat, by have := htg tt (by simp [tgE]); omega⟩
              have hkI : (kt : Int) < (j : Int) := (htg _ (by simp [tgE])).2
              have hkI0 : (0 : Int) ≤ (kt : Int) := by omega
              clear htg
              by_cases hq : (kt : Int) = (i : Int) + 1
              · have HF : Hid (layF bs (i + 1) = layF bs i ++ ops) := hid (by rw [HSU.out, HF38.out kt rfl rfl, if_pos hq, List.append_nil])
                have g2 : ((kt : Int) != (i : Int) + 1) = false := by simp [hq]
                clear hq
                go_wp2
                go_roundg g
                case measure => omega
                exact ⟨i + 1, _, _, _, by omega, by go_num, by rw [HF.out]; exact HR8.out.fx'⟩
              · have HF : Hid (layF bs (i + 1) = layF bs i ++ ops ++ [jpO (bg bs kt)]) := hid (by rw [HSU.out, HF38.out kt rfl rfl, if_neg hq])
                have g2 : ((kt : Int) != (i : Int) + 1) = true := by simpa using hq
                clear hq
                go_upto_region 20 with fail
                obtain ⟨Wd9, hWd⟩ : ∃ Wd, Wd = W8.drew := ⟨_, rfl⟩
                have HRd9 : Hid (RX W9 FB Y regs #[.slice oa on oc, .int .i64 38, .int .i64 ba, .int .i64 (kt : Int), .int .i64 el] a8 m8 c8 (layF bs i ++ ops) Wd9) := hid (by rw [hWd]; exact HR8.out.drew)
                have H19 := hid (HRd9.out.one (jpO (bg bs kt)))
                have hFBa9 : FB + 1 ≤ (Wd9.alloc (.cells #[.int .i64 38, .int .i64 0, .int .i64 0, .int .i64 0, .int .i64 (bg bs kt : Int)] 41)).heap.size := by rw [World.size_alloc]; have := lt_of_heap HRd9.out.f; omega
                have SK9 := hid (fun (W' : World) (h1 : W'.heap[Y]? = some (.cells #[.slice oa on oc, .int .i64 38, .int .i64 ba, .int .i64 (kt : Int), .int .i64 el] 89 (0, 0))) (hb : Below FB W9 W') => (⟨cellOf h1 2, cellOf h1 3, ST.out W' hb kt (by omega)⟩ : W'.cell? ⟨Y, 2, none⟩ = some (.int .i64 ba) ∧ W'.cell? ⟨Y, 3, none⟩ = some (.int .i64 (kt : Int)) ∧ W'.cell? ⟨g5, kt, none⟩ = some (.int .i64 (bg bs kt : Int))))
                have l0 : Wd9.cell? ⟨FB, 1, none⟩ = some (.slice a8 m8 c8) := cellOf HRd9.out.f 1
                have l1 : (Wd9.alloc (.cells #[.int .i64 38, .int .i64 0, .int .i64 0, .int .i64 0, .int .i64 (bg bs kt : Int)] 41)).cell? ⟨FB, 1, none⟩ = some (.slice a8 m8 c8) := cellOf H19.out.1.f 1
                refine wp_region_held_drew (S := fun W' => W'.cell? ⟨Y, 2, none⟩ = some (.int .i64 ba) ∧ W'.cell? ⟨Y, 3, none⟩ = some (.int .i64 (kt : Int)) ∧ W'.cell? ⟨g5, kt, none⟩ = some (.int .i64 (bg bs kt : Int))) (by kernel_rfl) (by rw [← hWd]; exact SK9.out _ HRd9.out.x HRd9.out.b) (fun hHeld => ?_)
                rw [← hWd] at hHeld ⊢
                clear hWd
                refine wpAnyH_take (i := 0) (oi := { dst := some 72, op := Op.fieldAddr 73 (Operand.tmp 7) 1, type := 0, pos := "windlassref10.go:81", after := #[], guard := none }) (v := .pointer (some ⟨FB, 1, none⟩)) rfl (by kernel_rfl) (by kernel_rfl) (by kernel_rfl) (fun _ _ _ h => h) (Or.inl ⟨by rfl, ?_⟩) (by assumption) ?_
                · intro w hSw; (try dsimp only at hSw); go_simp
                try simp only [Act.put, List.setIfInBounds_toArray, List.set_cons_zero, List.set_cons_succ]
                refine wpAnyH_take (i := 2) (oi := { dst := some 74, op := Op.move (Operand.tmp 4), type := 37, pos := "windlassref10.go:81", after := #[], guard := none }) (v := .slice (some ⟨g5, 0, none⟩) j c4) rfl (by kernel_rfl) (by kernel_rfl) (by kernel_rfl) (fun _ _ _ h => h) (Or.inl ⟨by rfl, ?_⟩) (by assumption) ?_
                · intro w hSw; (try dsimp only at hSw); go_simp
                try simp only [Act.put, List.setIfInBounds_toArray, List.set_cons_zero, List.set_cons_succ]
                refine wpAnyH_take (i := 3) (oi := { dst := some 75, op := Op.fieldAddr 89 (Operand.tmp 9) 3, type := 0, pos := "windlassref10.go:81", after := #[], guard := none }) (v := .pointer (some ⟨Y, 3, none⟩)) rfl (by kernel_rfl) (by kernel_rfl) (by kernel_rfl) (fun _ _ _ h => h) (Or.inl ⟨by rfl, ?_⟩) (by assumption) ?_
                · intro w hSw; (try dsimp only at hSw); go_simp
                try simp only [Act.put, List.setIfInBounds_toArray, List.set_cons_zero, List.set_cons_succ]
                refine wpAnyH_take (i := 4) (oi := { dst := some 76, op := Op.load 3 (Operand.tmp 75), type := 3, pos := "windlassref10.go:81", after := #[{ on := 3, ground := Ground.data }], guard := none }) (v := .int .i64 (kt : Int)) rfl (by kernel_rfl) (by kernel_rfl) (by kernel_rfl) (fun _ _ _ h => h) (Or.inl ⟨by rfl, ?_⟩) (by assumption) ?_
                · intro w hSw; (try dsimp only at hSw); go_simp
                try simp only [Act.put, List.setIfInBounds_toArray, List.set_cons_zero, List.set_cons_succ]
                refine wpAnyH_take (i := 5) (oi := { dst := some 77, op := Op.indexAddr 37 (Operand.tmp 74) (Operand.tmp 76), type := 0, pos := "windlassref10.go:81", after := #[{ on := 2, ground := Ground.data }, { on := 4, ground := Ground.data }], guard := none }) (v := .pointer (some ⟨g5, kt, none⟩)) rfl (by kernel_rfl) (by kernel_rfl) (by kernel_rfl) (fun _ _ _ h => h) (Or.inl ⟨by rfl, ?_⟩) (by assumption) ?_
                · intro w hSw; (try dsimp only at hSw); go_simp
                try simp only [Act.put, List.setIfInBounds_toArray, List.set_cons_zero, List.set_cons_succ]
                refine wpAnyH_take (i := 6) (oi := { dst := some 78, op := Op.load 3 (Operand.tmp 77), type := 3, pos := "windlassref10.go:81", after := #[{ on := 5, ground := Ground.data }], guard := none }) (v := .int .i64 (bg bs kt : Int)) rfl (by kernel_rfl) (by kernel_rfl) (by kernel_rfl) (fun _ _ _ h => h) (Or.inl ⟨by rfl, ?_⟩) (by assumption) ?_
                · intro w hSw; (try dsimp only at hSw); go_simp
                try simp only [Act.put, List.setIfInBounds_toArray, List.set_cons_zero, List.set_cons_succ]
                refine wpAnyH_take (i := 7) (oi := { dst := some 79, op := Op.build 41 #[(0, Operand.const (Value.int IntKind.i64 38)), (4, Operand.tmp 78)], type := 41, pos := "windlassref10.go:81", after := #[{ on := 6, ground := Ground.data }], guard := none }) (v := .agg #[.int .i64 38, .int .i64 0, .int .i64 0, .int .i64 0, .int .i64 (bg bs kt : Int)]) rfl (by kernel_rfl) (by kernel_rfl) (by kernel_rfl) (fun _ _ _ h => h) (Or.inl ⟨by rfl, ?_⟩) (by assumption) ?_
                · intro w hSw; (try dsimp only at hSw); go_simp
                try simp only [Act.put, List.setIfInBounds_toArray, List.set_cons_zero, List.set_cons_succ]
                refine wpAnyH_ready (rs := [1, 8]) (by kernel_rfl) (by simp) ?_
                refine AllReadyH.cons (o := { dst := some 73, op := Op.load 60 (Operand.tmp 72), type := 60, pos := "windlassref10.go:81", after := #[{ on := 0, ground := Ground.data }], guard := none }) rfl (fun K hK => ?_) ?_
                · go_simp
                  refine hK.out _ _ (SK9.out _ HRd9.out.x HRd9.out.b) (fun hHeldN => ?_)
                  clear hK K
                  try simp only [Act.put, List.setIfInBounds_toArray, List.set_cons_zero, List.set_cons_succ]
                  refine wpAnyH_ready (rs := [8]) (by kernel_rfl) (by simp) ?_
                  refine AllReadyH.cons (o := { dst := some 80, op := Op.buildSlice 60 1 #[(0, Operand.tmp 79)], type := 60, pos := "windlassref10.go:81", after := #[{ on := 7, ground := Ground.data }], guard := none }) rfl (fun K hK => ?_) AllReadyH.nil
                  go_simp
                  refine hK.out _ _ (SK9.out _ H19.out.1.x H19.out.1.b) (fun hHeldN => ?_)
                  clear hK K
                  try simp only [Act.put, List.setIfInBounds_toArray, List.set_cons_zero, List.set_cons_succ]
                  refine wpAnyH_ready (rs := [9]) (by kernel_rfl) (by simp) ?_
                  refine AllReadyH.cons (o := { dst := some 81, op := Op.call { callee := Callee.builtin Builtin.append, args := #[Operand.tmp 73, Operand.tmp 80], argTypes := #[60, 60] }, type := 60, pos := "windlassref10.go:81", after := #[{ on := 1, ground := Ground.data }, { on := 8, ground := Ground.data }], guard := none }) rfl (fun K hK => ?_) AllReadyH.nil
                  refine step_appO rfl (.tmp 73) (.tmp 80) rfl (.slice a8 m8 c8) (.slice (some ⟨Wd9.heap.size, 0, none⟩) 1 1) rfl rfl (FB + 1) (layF bs i ++ ops) H19.out.1.o (some ⟨Wd9.heap.size, 0, none⟩) 1 1 rfl [jpO (bg bs kt)] rfl H19.out.2 (fun e => by cases e) hL2 (by omega) hFBa9 ?_
                  intro v9 w9 ho9 hg9 hn9
                  obtain ⟨a9, m9, c9, rfl, Hm9, _, _⟩ := ho9.rdm
                  have HA9 := hid (H19.out.1.add ho9 hg9 hn9)
                  have p9 := cellOf HA9.out.2.1 1
                  have pf := freeOf HA9.out.2.1 1
                  simp only [List.getElem?_toArray, List.getElem?_cons_zero, List.getElem?_cons_succ] at p9
                  clear ho9 hg9 hn9
                  refine hK.out _ _ (SK9.out _ HA9.out.2.2.1 HA9.out.2.2.2) (fun hHeldN => ?_)
                  clear hK K
                  try simp only [Act.put, List.setIfInBounds_toArray, List.set_cons_zero, List.set_cons_succ]
                  refine wpAnyH_take (i := 10) (oi := { dst := some 82, op := Op.fieldAddr 73 (Operand.tmp 7) 1, type := 0, pos := "windlassref10.go:81", after := #[{ on := 0, ground := Ground.phase }, { on := 1, ground := Ground.phase }, { on := 2, ground := Ground.phase }, { on := 3, ground := Ground.phase }, { on := 4, ground := Ground.phase }, { on := 5, ground := Ground.phase }, { on := 6, ground := Ground.phase }, { on := 7, ground := Ground.phase }, { on := 8, ground := Ground.phase }, { on := 9, ground := Ground.phase }], guard := none }) (v := .pointer (some ⟨FB, 1, none⟩)) rfl (by kernel_rfl) (by kernel_rfl) (by kernel_rfl) (fun _ _ _ h => h) (Or.inl ⟨by rfl, ?_⟩) (by assumption) ?_
                  · intro w hSw; (try dsimp only at hSw); go_simp
                  try simp only [Act.put, List.setIfInBounds_toArray, List.set_cons_zero, List.set_cons_succ]
                  refine wpAnyH_ready (rs := [11]) (by kernel_rfl) (by simp) ?_
                  refine AllReadyH.cons (o := { dst := none, op := Op.store 60 (Operand.tmp 82) (Operand.tmp 81), type := 0, pos := "windlassref10.go:81", after := #[{ on := 10, ground := Ground.data }, { on := 9, ground := Ground.data }, { on := 9, ground := Ground.chain }, { on := 0, ground := Ground.phase }, { on := 1, ground := Ground.phase }, { on := 2, ground := Ground.phase }, { on := 3, ground := Ground.phase }, { on := 4, ground := Ground.phase }, { on := 5, ground := Ground.phase }, { on := 6, ground := Ground.phase }, { on := 7, ground := Ground.phase }, { on := 8, ground := Ground.phase }, { on := 9, ground := Ground.phase }], guard := none }) rfl (fun K hK => ?_) AllReadyH.nil
                  go_simp
                  refine hK.out _ _ (SK9.out _ HA9.out.1.x HA9.out.1.b) (fun hHeldN => ?_)
                  clear hK K
                  try simp only [Act.put, List.setIfInBounds_toArray, List.set_cons_zero, List.set_cons_succ]
                  refine wpAnyH_done (by kernel_rfl) ?_ _
                  clear p9 pf l0 l1
                  clear hHeld
                  go_wp2
                  go_roundg g
                  case measure => omega
                  exact ⟨i + 1, _, _, _, by omega, by go_num, by rw [HF.out]; exact HA9.out.1.fx'⟩
                · refine AllReadyH.cons (o := { dst := some 80, op := Op.buildSlice 60 1 #[(0, Operand.tmp 79)], type := 60, pos := "windlassref10.go:81", after := #[{ on := 7, ground := Ground.data }], guard := none }) rfl (fun K hK => ?_) AllReadyH.nil
                  go_simp
                  refine hK.out _ _ (SK9.out _ H19.out.1.x H19.out.1.b) (fun hHeldN => ?_)
                  clear hK K
                  try simp only [Act.put, List.setIfInBounds_toArray, List.set_cons_zero, List.set_cons_succ]
                  refine wpAnyH_ready (rs := [1]) (by kernel_rfl) (by simp) ?_
                  refine AllReadyH.cons (o := { dst := some 73, op := Op.load 60 (Operand.tmp 72), type := 60, pos := "windlassref10.go:81", after := #[{ on := 0, ground := Ground.data }], guard := none }) rfl (fun K hK => ?_) AllReadyH.nil
                  go_simp
                  refine hK.out _ _ (SK9.out _ H19.out.1.x H19.out.1.b) (fun hHeldN => ?_)
                  clear hK K
                  try simp only [Act.put, List.setIfInBounds_toArray, List.set_cons_zero, List.set_cons_succ]
                  refine wpAnyH_ready (rs := [9]) (by kernel_rfl) (by simp) ?_
                  refine AllReadyH.cons (o := { dst := some 81, op := Op.call { callee := Callee.builtin Builtin.append, args := #[Operand.tmp 73, Operand.tmp 80], argTypes := #[60, 60] }, type := 60, pos := "windlassref10.go:81", after := #[{ on := 1, ground := Ground.data }, { on := 8, ground := Ground.data }], guard := none }) rfl (fun K hK => ?_) AllReadyH.nil
                  refine step_appO rfl (.tmp 73) (.tmp 80) rfl (.slice a8 m8 c8) (.slice (some ⟨Wd9.heap.size, 0, none⟩) 1 1) rfl rfl (FB + 1) (layF bs i ++ ops) H19.out.1.o (some ⟨Wd9.heap.size, 0, none⟩) 1 1 rfl [jpO (bg bs kt)] rfl H19.out.2 (fun e => by cases e) hL2 (by omega) hFBa9 ?_
                  intro v9 w9 ho9 hg9 hn9
                  obtain ⟨a9, m9, c9, rfl, Hm9, _, _⟩ := ho9.rdm
                  have HA9 := hid (H19.out.1.add ho9 hg9 hn9)
                  have p9 := cellOf HA9.out.2.1 1
                  have pf := freeOf HA9.out.2.1 1
                  simp only [List.getElem?_toArray, List.getElem?_cons_zero, List.getElem?_cons_succ] at p9
                  clear ho9 hg9 hn9
                  refine hK.out _ _ (SK9.out _ HA9.out.2.2.1 HA9.out.2.2.2) (fun hHeldN => ?_)
                  clear hK K
                  try simp only [Act.put, List.setIfInBounds_toArray, List.set_cons_zero, List.set_cons_succ]
                  refine wpAnyH_take (i := 10) (oi := { dst := some 82, op := Op.fieldAddr 73 (Operand.tmp 7) 1, type := 0, pos := "windlassref10.go:81", after := #[{ on := 0, ground := Ground.phase }, { on := 1, ground := Ground.phase }, { on := 2, ground := Ground.phase }, { on := 3, ground := Ground.phase }, { on := 4, ground := Ground.phase }, { on := 5, ground := Ground.phase }, { on := 6, ground := Ground.phase }, { on := 7, ground := Ground.phase }, { on := 8, ground := Ground.phase }, { on := 9, ground := Ground.phase }], guard := none }) (v := .pointer (some ⟨FB, 1, none⟩)) rfl (by kernel_rfl) (by kernel_rfl) (by kernel_rfl) (fun _ _ _ h => h) (Or.inl ⟨by rfl, ?_⟩) (by assumption) ?_
                  · intro w hSw; (try dsimp only at hSw); go_simp
                  try simp only [Act.put, List.setIfInBounds_toArray, List.set_cons_zero, List.set_cons_succ]
                  refine wpAnyH_ready (rs := [11]) (by kernel_rfl) (by simp) ?_
                  refine AllReadyH.cons (o := { dst := none, op := Op.store 60 (Operand.tmp 82) (Operand.tmp 81), type := 0, pos := "windlassref10.go:81", after := #[{ on := 10, ground := Ground.data }, { on := 9, ground := Ground.data }, { on := 9, ground := Ground.chain }, { on := 0, ground := Ground.phase }, { on := 1, ground := Ground.phase }, { on := 2, ground := Ground.phase }, { on := 3, ground := Ground.phase }, { on := 4, ground := Ground.phase }, { on := 5, ground := Ground.phase }, { on := 6, ground := Ground.phase }, { on := 7, ground := Ground.phase }, { on := 8, ground := Ground.phase }, { on := 9, ground := Ground.phase }], guard := none }) rfl (fun K hK => ?_) AllReadyH.nil
                  go_simp
                  refine hK.out _ _ (SK9.out _ HA9.out.1.x HA9.out.1.b) (fun hHeldN => ?_)
                  clear hK K
                  try simp only [Act.put, List.setIfInBounds_toArray, List.set_cons_zero, List.set_cons_succ]
                  refine wpAnyH_done (by kernel_rfl) ?_ _
                  clear p9 pf l0 l1
                  clear hHeld
                  go_wp2
                  go_roundg g
                  case measure => omega
                  exact ⟨i + 1, _, _, _, by omega, by go_num, by rw [HF.out]; exact HA9.out.1.fx'⟩
            · obtain ⟨kt, rfl⟩ : ∃ kt : Nat, tt = (kt : Int) := ⟨tt.toNat, by have := htg tt (by simp [tgE]); omega⟩
              obtain ⟨ke, rfl⟩ : ∃ ke : Nat, el = (ke : Int) := ⟨el.toNat, by have := htg el (by simp [tgE]); omega⟩
              have hkI : (kt : Int) < (j : Int) := (htg _ (by simp [tgE])).2
              have hkI0 : (0 : Int) ≤ (kt : Int) := by omega
              have hkJ : (ke : Int) < (j : Int) := (htg (ke : Int) (by simp [tgE])).2
              have hkJ0 : (0 : Int) ≤ (ke : Int) := by omega
              clear htg
              have HF0 : Hid (layF bs (i + 1) = layF bs i ++ ops ++ (unO ba (bg bs kt) :: if (ke : Int) = (i : Int) + 1 then [] else [jpO (bg bs ke)])) := hid (by rw [HSU.out, HF39.out kt ke rfl rfl rfl])
              have hL4 : (layF bs i ++ ops ++ [unO ba (bg bs kt)]).length ≤ 1000000 := by rw [List.length_append]; simp only [List.length_cons, List.length_nil]; omega
              go_upto_region 22 with fail
              obtain ⟨Wd9, hWd⟩ : ∃ Wd, Wd = W8.drew := ⟨_, rfl⟩
              have HRd9 : Hid (RX W9 FB Y regs #[.slice oa on oc, .int .i64 39, .int .i64 ba, .int .i64 (kt : Int), .int .i64 (ke : Int)] a8 m8 c8 (layF bs i ++ ops) Wd9) := hid (by rw [hWd]; exact HR8.out.drew)
              have H19 := hid (HRd9.out.one (unO ba (bg bs kt)))
              have hFBa9 : FB + 1 ≤ (Wd9.alloc (.cells #[.int .i64 39, .int .i64 0, .int .i64 ba, .int .i64 0, .int .i64 (bg bs kt : Int)] 41)).heap.size := by rw [World.size_alloc]; have := lt_of_heap HRd9.out.f; omega
              have SK9 := hid (fun (W' : World) (h1 : W'.heap[Y]? = some (.cells #[.slice oa on oc, .int .i64 39, .int .i64 ba, .int .i64 (kt : Int), .int .i64 (ke : Int)] 89 (0, 0))) (hb : Below FB W9 W') => (⟨cellOf h1 2, cellOf h1 3, ST.out W' hb kt (by omega)⟩ : W'.cell? ⟨Y, 2, none⟩ = some (.int .i64 ba) ∧ W'.cell? ⟨Y, 3, none⟩ = some (.int .i64 (kt : Int)) ∧ W'.cell? ⟨g5, kt, none⟩ = some (.int .i64 (bg bs kt : Int))))
              have l0 : Wd9.cell? ⟨FB, 1, none⟩ = some (.slice a8 m8 c8) := cellOf HRd9.out.f 1
              have l1 : (Wd9.alloc (.cells #[.int .i64 39, .int .i64 0, .int .i64 ba, .int .i64 0, .int .i64 (bg bs kt : Int)] 41)).cell? ⟨FB, 1, none⟩ = some (.slice a8 m8 c8) := cellOf H19.out.1.f 1
              refine wp_region_held_drew (S := fun W' => W'.cell? ⟨Y, 2, none⟩ = some (.int .i64 ba) ∧ W'.cell? ⟨Y, 3, none⟩ = some (.int .i64 (kt : Int)) ∧ W'.cell? ⟨g5, kt, none⟩ = some (.int .i64 (bg bs kt : Int))) (by kernel_rfl) (by rw [← hWd]; exact SK9.out _ HRd9.out.x HRd9.out.b) (fun hHeld => ?_)
              rw [← hWd] at hHeld ⊢
              clear hWd
              refine wpAnyH_take (i := 0) (oi := { dst := some 85, op := Op.fieldAddr 73 (Operand.tmp 7) 1, type := 0, pos := "windlassref10.go:84", after := #[], guard := none }) (v := .pointer (some ⟨FB, 1, none⟩)) rfl (by kernel_rfl) (by kernel_rfl) (by kernel_rfl) (fun _ _ _ h => h) (Or.inl ⟨by rfl, ?_⟩) (by assumption) ?_
              · intro w hSw; (try dsimp only at hSw); go_simp
              try simp only [Act.put, List.setIfInBounds_toArray, List.set_cons_zero, List.set_cons_succ]
              refine wpAnyH_take (i := 2) (oi := { dst := some 87, op := Op.fieldAddr 89 (Operand.tmp 9) 2, type := 0, pos := "windlassref10.go:84", after := #[], guard := none }) (v := .pointer (some ⟨Y, 2, none⟩)) rfl (by kernel_rfl) (by kernel_rfl) (by kernel_rfl) (fun _ _ _ h => h) (Or.inl ⟨by rfl, ?_⟩) (by assumption) ?_
              · intro w hSw; (try dsimp only at hSw); go_simp
              try simp only [Act.put, List.setIfInBounds_toArray, List.set_cons_zero, List.set_cons_succ]
              refine wpAnyH_take (i := 3) (oi := { dst := some 88, op := Op.load 3 (Operand.tmp 87), type := 3, pos := "windlassref10.go:84", after := #[{ on := 2, ground := Ground.data }], guard := none }) (v := .int .i64 ba) rfl (by kernel_rfl) (by kernel_rfl) (by kernel_rfl) (fun _ _ _ h => h) (Or.inl ⟨by rfl, ?_⟩) (by assumption) ?_
              · intro w hSw; (try dsimp only at hSw); go_simp
              try simp only [Act.put, List.setIfInBounds_toArray, List.set_cons_zero, List.set_cons_succ]
              refine wpAnyH_take (i := 4) (oi := { dst := some 89, op := Op.move (Operand.tmp 4), type := 37, pos := "windlassref10.go:84", after := #[], guard := none }) (v := .slice (some ⟨g5, 0, none⟩) j c4) rfl (by kernel_rfl) (by kernel_rfl) (by kernel_rfl) (fun _ _ _ h => h) (Or.inl ⟨by rfl, ?_⟩) (by assumption) ?_
              · intro w hSw; (try dsimp only at hSw); go_simp
              try simp only [Act.put, List.setIfInBounds_toArray, List.set_cons_zero, List.set_cons_succ]
              refine wpAnyH_take (i := 5) (oi := { dst := some 90, op := Op.fieldAddr 89 (Operand.tmp 9) 3, type := 0, pos := "windlassref10.go:84", after := #[], guard := none }) (v := .pointer (some ⟨Y, 3, none⟩)) rfl (by kernel_rfl) (by kernel_rfl) (by kernel_rfl) (fun _ _ _ h => h) (Or.inl ⟨by rfl, ?_⟩) (by assumption) ?_
              · intro w hSw; (try dsimp only at hSw); go_simp
              try simp only [Act.put, List.setIfInBounds_toArray, List.set_cons_zero, List.set_cons_succ]
              refine wpAnyH_take (i := 6) (oi := { dst := some 91, op := Op.load 3 (Operand.tmp 90), type := 3, pos := "windlassref10.go:84", after := #[{ on := 5, ground := Ground.data }], guard := none }) (v := .int .i64 (kt : Int)) rfl (by kernel_rfl) (by kernel_rfl) (by kernel_rfl) (fun _ _ _ h => h) (Or.inl ⟨by rfl, ?_⟩) (by assumption) ?_
              · intro w hSw; (try dsimp only at hSw); go_simp
              try simp only [Act.put, List.setIfInBounds_toArray, List.set_cons_zero, List.set_cons_succ]
              refine wpAnyH_take (i := 7) (oi := { dst := some 92, op := Op.indexAddr 37 (Operand.tmp 89) (Operand.tmp 91), type := 0, pos := "windlassref10.go:84", after := #[{ on := 4, ground := Ground.data }, { on := 6, ground := Ground.data }], guard := none }) (v := .pointer (some ⟨g5, kt, none⟩)) rfl (by kernel_rfl) (by kernel_rfl) (by kernel_rfl) (fun _ _ _ h => h) (Or.inl ⟨by rfl, ?_⟩) (by assumption) ?_
              · intro w hSw; (try dsimp only at hSw); go_simp
              try simp only [Act.put, List.setIfInBounds_toArray, List.set_cons_zero, List.set_cons_succ]
              refine wpAnyH_take (i := 8) (oi := { dst := some 93, op := Op.load 3 (Operand.tmp 92), type := 3, pos := "windlassref10.go:84", after := #[{ on := 7, ground := Ground.data }], guard := none }) (v := .int .i64 (bg bs kt : Int)) rfl (by kernel_rfl) (by kernel_rfl) (by kernel_rfl) (fun _ _ _ h => h) (Or.inl ⟨by rfl, ?_⟩) (by assumption) ?_
              · intro w hSw; (try dsimp only at hSw); go_simp
              try simp only [Act.put, List.setIfInBounds_toArray, List.set_cons_zero, List.set_cons_succ]
              refine wpAnyH_take (i := 9) (oi := { dst := some 94, op := Op.build 41 #[(0, Operand.const (Value.int IntKind.i64 39)), (2, Operand.tmp 88), (4, Operand.tmp 93)], type := 41, pos := "windlassref10.go:84", after := #[{ on := 3, ground := Ground.data }, { on := 8, ground := Ground.data }], guard := none }) (v := .agg #[.int .i64 39, .int .i64 0, .int .i64 ba, .int .i64 0, .int .i64 (bg bs kt : Int)]) rfl (by kernel_rfl) (by kernel_rfl) (by kernel_rfl) (fun _ _ _ h => h) (Or.inl ⟨by rfl, ?_⟩) (by assumption) ?_
              · intro w hSw; (try dsimp only at hSw); go_simp
              try simp only [Act.put, List.setIfInBounds_toArray, List.set_cons_zero, List.set_cons_succ]
              refine wpAnyH_ready (rs := [1, 10]) (by kernel_rfl) (by simp) ?_
              refine AllReadyH.cons (o := { dst := some 86, op := Op.load 60 (Operand.tmp 85), type := 60, pos := "windlassref10.go:84", after := #[{ on := 0, ground := Ground.data }], guard := none }) rfl (fun K hK => ?_) ?_
              · go_simp
                refine hK.out _ _ (SK9.out _ HRd9.out.x HRd9.out.b) (fun hHeldN => ?_)
                clear hK K
                try simp only [Act.put, List.setIfInBounds_toArray, List.set_cons_zero, List.set_cons_succ]
                refine wpAnyH_ready (rs := [10]) (by kernel_rfl) (by simp) ?_
                refine AllReadyH.cons (o := { dst := some 95, op := Op.buildSlice 60 1 #[(0, Operand.tmp 94)], type := 60, pos := "windlassref10.go:84", after := #[{ on := 9, ground := Ground.data }], guard := none }) rfl (fun K hK => ?_) AllReadyH.nil
                go_simp
                refine hK.out _ _ (SK9.out _ H19.out.1.x H19.out.1.b) (fun hHeldN => ?_)
                clear hK K
                try simp only [Act.put, List.setIfInBounds_toArray, List.set_cons_zero, List.set_cons_succ]
                refine wpAnyH_ready (rs := [11]) (by kernel_rfl) (by simp) ?_
                refine AllReadyH.cons (o := { dst := some 96, op := Op.call { callee := Callee.builtin Builtin.append, args := #[Operand.tmp 86, Operand.tmp 95], argTypes := #[60, 60] }, type := 60, pos := "windlassref10.go:84", after := #[{ on := 1, ground := Ground.data }, { on := 10, ground := Ground.data }], guard := none }) rfl (fun K hK => ?_) AllReadyH.nil
                refine step_appO rfl (.tmp 86) (.tmp 95) rfl (.slice a8 m8 c8) (.slice (some ⟨Wd9.heap.size, 0, none⟩) 1 1) rfl rfl (FB + 1) (layF bs i ++ ops) H19.out.1.o (some ⟨Wd9.heap.size, 0, none⟩) 1 1 rfl [unO ba (bg bs kt)] rfl H19.out.2 (fun e => by cases e) hL2 (by omega) hFBa9 ?_
                intro v9 w9 ho9 hg9 hn9
                obtain ⟨a9, m9, c9, rfl, Hm9, _, _⟩ := ho9.rdm
                have HA9 := hid (H19.out.1.add ho9 hg9 hn9)
                have p9 := cellOf HA9.out.2.1 1
                have pf := freeOf HA9.out.2.1 1
                simp only [List.getElem?_toArray, List.getElem?_cons_zero, List.getElem?_cons_succ] at p9
                clear ho9 hg9 hn9
                refine hK.out _ _ (SK9.out _ HA9.out.2.2.1 HA9.out.2.2.2) (fun hHeldN => ?_)
                clear hK K
                try simp only [Act.put, List.setIfInBounds_toArray, List.set_cons_zero, List.set_cons_succ]
                refine wpAnyH_take (i := 12) (oi := { dst := some 97, op := Op.fieldAddr 73 (Operand.tmp 7) 1, type := 0, pos := "windlassref10.go:84", after := #[{ on := 0, ground := Ground.phase }, { on := 1, ground := Ground.phase }, { on := 2, ground := Ground.phase }, { on := 3, ground := Ground.phase }, { on := 4, ground := Ground.phase }, { on := 5, ground := Ground.phase }, { on := 6, ground := Ground.phase }, { on := 7, ground := Ground.phase }, { on := 8, ground := Ground.phase }, { on := 9, ground := Ground.phase }, { on := 10, ground := Ground.phase }, { on := 11, ground := Ground.phase }], guard := none }) (v := .pointer (some ⟨FB, 1, none⟩)) rfl (by kernel_rfl) (by kernel_rfl) (by kernel_rfl) (fun _ _ _ h => h) (Or.inl ⟨by rfl, ?_⟩) (by assumption) ?_
                · intro w hSw; (try dsimp only at hSw); go_simp
                try simp only [Act.put, List.setIfInBounds_toArray, List.set_cons_zero, List.set_cons_succ]
                refine wpAnyH_ready (rs := [13]) (by kernel_rfl) (by simp) ?_
                refine AllReadyH.cons (o := { dst := none, op := Op.store 60 (Operand.tmp 97) (Operand.tmp 96), type := 0, pos := "windlassref10.go:84", after := #[{ on := 12, ground := Ground.data }, { on := 11, ground := Ground.data }, { on := 11, ground := Ground.chain }, { on := 0, ground := Ground.phase }, { on := 1, ground := Ground.phase }, { on := 2, ground := Ground.phase }, { on := 3, ground := Ground.phase }, { on := 4, ground := Ground.phase }, { on := 5, ground := Ground.phase }, { on := 6, ground := Ground.phase }, { on := 7, ground := Ground.phase }, { on := 8, ground := Ground.phase }, { on := 9, ground := Ground.phase }, { on := 10, ground := Ground.phase }, { on := 11, ground := Ground.phase }], guard := none }) rfl (fun K hK => ?_) AllReadyH.nil
                go_simp
                refine hK.out _ _ (SK9.out _ HA9.out.1.x HA9.out.1.b) (fun hHeldN => ?_)
                clear hK K
                try simp only [Act.put, List.setIfInBounds_toArray, List.set_cons_zero, List.set_cons_succ]
                refine wpAnyH_done (by kernel_rfl) ?_ _
                clear p9 pf l0 l1
                clear hHeld
                go_upto_region 23 with fail
                obtain ⟨W10, hW10⟩ : ∃ W10, W10 = w9.setCell ⟨FB, 1, none⟩ (.slice a9 m9 c9) := ⟨_, rfl⟩
                have hR10 := HA9.out.1
                rw [← hW10] at hR10
                rw [← hW10]
                clear hW10
                have HR10 := hid hR10
                have t4 := cellOf hR10.x 4
                simp only [List.getElem?_toArray, List.getElem?_cons_zero, List.getElem?_cons_succ] at t4
                clear hR10 y1 y2 y3 y4 p8
                by_cases hq : (ke : Int) = (i : Int) + 1
                · have HF : Hid (layF bs (i + 1) = layF bs i ++ ops ++ [unO ba (bg bs kt)]) := hid (by rw [HF0.out, if_pos hq])
                  have g2 : ((ke : Int) != (i : Int) + 1) = false := by simp [hq]
                  clear hq
                  go_wp2
                  go_roundg g
                  case measure => omega
                  exact ⟨i + 1, _, _, _, by omega, by go_num, by rw [HF.out]; exact HR10.out.fx'⟩
                · have HF : Hid (layF bs (i + 1) = layF bs i ++ ops ++ [unO ba (bg bs kt)] ++ [jpO (bg bs ke)]) := hid (by rw [HF0.out, if_neg hq]; simp)
                  have g2 : ((ke : Int) != (i : Int) + 1) = true := by simpa using hq
                  clear hq
                  go_upto_region 24 with fail
                  obtain ⟨Wd11, hWd⟩ : ∃ Wd, Wd = W10.drew := ⟨_, rfl⟩
                  have HRd11 : Hid (RX W9 FB Y regs #[.slice oa on oc, .int .i64 39, .int .i64 ba, .int .i64 (kt : Int), .int .i64 (ke : Int)] a9 m9 c9 (layF bs i ++ ops ++ [unO ba (bg bs kt)]) Wd11) := hid (by rw [hWd]; exact HR10.out.drew)
                  have H111 := hid (HRd11.out.one (jpO (bg bs ke)))
                  have hFBa11 : FB + 1 ≤ (Wd11.alloc (.cells #[.int .i64 38, .int .i64 0, .int .i64 0, .int .i64 0, .int .i64 (bg bs ke : Int)] 41)).heap.size := by rw [World.size_alloc]; have := lt_of_heap HRd11.out.f; omega
                  have SK11 := hid (fun (W' : World) (h1 : W'.heap[Y]? = some (.cells #[.slice oa on oc, .int .i64 39, .int .i64 ba, .int .i64 (kt : Int), .int .i64 (ke : Int)] 89 (0, 0))) (hb : Below FB W9 W') => (⟨cellOf h1 2, cellOf h1 4, ST.out W' hb ke (by omega)⟩ : W'.cell? ⟨Y, 2, none⟩ = some (.int .i64 ba) ∧ W'.cell? ⟨Y, 4, none⟩ = some (.int .i64 (ke : Int)) ∧ W'.cell? ⟨g5, ke, none⟩ = some (.int .i64 (bg bs ke : Int))))
                  have l0 : Wd11.cell? ⟨FB, 1, none⟩ = some (.slice a9 m9 c9) := cellOf HRd11.out.f 1
                  have l1 : (Wd11.alloc (.cells #[.int .i64 38, .int .i64 0, .int .i64 0, .int .i64 0, .int .i64 (bg bs ke : Int)] 41)).cell? ⟨FB, 1, none⟩ = some (.slice a9 m9 c9) := cellOf H111.out.1.f 1
                  refine wp_region_held_drew (S := fun W' => W'.cell? ⟨Y, 2, none⟩ = some (.int .i64 ba) ∧ W'.cell? ⟨Y, 4, none⟩ = some (.int .i64 (ke : Int)) ∧ W'.cell? ⟨g5, ke, none⟩ = some (.int .i64 (bg bs ke : Int))) (by kernel_rfl) (by rw [← hWd]; exact SK11.out _ HRd11.out.x HRd11.out.b) (fun hHeld => ?_)
                  rw [← hWd] at hHeld ⊢
                  clear hWd
                  refine wpAnyH_take (i := 0) (oi := { dst := some 103, op := Op.fieldAddr 73 (Operand.tmp 7) 1, type := 0, pos := "windlassref10.go:86", after := #[], guard := none }) (v := .pointer (some ⟨FB, 1, none⟩)) rfl (by kernel_rfl) (by kernel_rfl) (by kernel_rfl) (fun _ _ _ h => h) (Or.inl ⟨by rfl, ?_⟩) (by assumption) ?_
                  · intro w hSw; (try dsimp only at hSw); go_simp
                  try simp only [Act.put, List.setIfInBounds_toArray, List.set_cons_zero, List.set_cons_succ]
                  refine wpAnyH_take (i := 2) (oi := { dst := some 105, op := Op.move (Operand.tmp 4), type := 37, pos := "windlassref10.go:86", after := #[], guard := none }) (v := .slice (some ⟨g5, 0, none⟩) j c4) rfl (by kernel_rfl) (by kernel_rfl) (by kernel_rfl) (fun _ _ _ h => h) (Or.inl ⟨by rfl, ?_⟩) (by assumption) ?_
                  · intro w hSw; (try dsimp only at hSw); go_simp
                  try simp only [Act.put, List.setIfInBounds_toArray, List.set_cons_zero, List.set_cons_succ]
                  refine wpAnyH_take (i := 3) (oi := { dst := some 106, op := Op.fieldAddr 89 (Operand.tmp 9) 4, type := 0, pos := "windlassref10.go:86", after := #[], guard := none }) (v := .pointer (some ⟨Y, 4, none⟩)) rfl (by kernel_rfl) (by kernel_rfl) (by kernel_rfl) (fun _ _ _ h => h) (Or.inl ⟨by rfl, ?_⟩) (by assumption) ?_
                  · intro w hSw; (try dsimp only at hSw); go_simp
                  try simp only [Act.put, List.setIfInBounds_toArray, List.set_cons_zero, List.set_cons_succ]
                  refine wpAnyH_take (i := 4) (oi := { dst := some 107, op := Op.load 3 (Operand.tmp 106), type := 3, pos := "windlassref10.go:86", after := #[{ on := 3, ground := Ground.data }], guard := none }) (v := .int .i64 (ke : Int)) rfl (by kernel_rfl) (by kernel_rfl) (by kernel_rfl) (fun _ _ _ h => h) (Or.inl ⟨by rfl, ?_⟩) (by assumption) ?_
                  · intro w hSw; (try dsimp only at hSw); go_simp
                  try simp only [Act.put, List.setIfInBounds_toArray, List.set_cons_zero, List.set_cons_succ]
                  refine wpAnyH_take (i := 5) (oi := { dst := some 108, op := Op.indexAddr 37 (Operand.tmp 105) (Operand.tmp 107), type := 0, pos := "windlassref10.go:86", after := #[{ on := 2, ground := Ground.data }, { on := 4, ground := Ground.data }], guard := none }) (v := .pointer (some ⟨g5, ke, none⟩)) rfl (by kernel_rfl) (by kernel_rfl) (by kernel_rfl) (fun _ _ _ h => h) (Or.inl ⟨by rfl, ?_⟩) (by assumption) ?_
                  · intro w hSw; (try dsimp only at hSw); go_simp
                  try simp only [Act.put, List.setIfInBounds_toArray, List.set_cons_zero, List.set_cons_succ]
                  refine wpAnyH_take (i := 6) (oi := { dst := some 109, op := Op.load 3 (Operand.tmp 108), type := 3, pos := "windlassref10.go:86", after := #[{ on := 5, ground := Ground.data }], guard := none }) (v := .int .i64 (bg bs ke : Int)) rfl (by kernel_rfl) (by kernel_rfl) (by kernel_rfl) (fun _ _ _ h => h) (Or.inl ⟨by rfl, ?_⟩) (by assumption) ?_
                  · intro w hSw; (try dsimp only at hSw); go_simp
                  try simp only [Act.put, List.setIfInBounds_toArray, List.set_cons_zero, List.set_cons_succ]
                  refine wpAnyH_take (i := 7) (oi := { dst := some 110, op := Op.build 41 #[(0, Operand.const (Value.int IntKind.i64 38)), (4, Operand.tmp 109)], type := 41, pos := "windlassref10.go:86", after := #[{ on := 6, ground := Ground.data }], guard := none }) (v := .agg #[.int .i64 38, .int .i64 0, .int .i64 0, .int .i64 0, .int .i64 (bg bs ke : Int)]) rfl (by kernel_rfl) (by kernel_rfl) (by kernel_rfl) (fun _ _ _ h => h) (Or.inl ⟨by rfl, ?_⟩) (by assumption) ?_
                  · intro w hSw; (try dsimp only at hSw); go_simp
                  try simp only [Act.put, List.setIfInBounds_toArray, List.set_cons_zero, List.set_cons_succ]
                  refine wpAnyH_ready (rs := [1, 8]) (by kernel_rfl) (by simp) ?_
                  refine AllReadyH.cons (o := { dst := some 104, op := Op.load 60 (Operand.tmp 103), type := 60, pos := "windlassref10.go:86", after := #[{ on := 0, ground := Ground.data }], guard := none }) rfl (fun K hK => ?_) ?_
                  · go_simp
                    refine hK.out _ _ (SK11.out _ HRd11.out.x HRd11.out.b) (fun hHeldN => ?_)
                    clear hK K
                    try simp only [Act.put, List.setIfInBounds_toArray, List.set_cons_zero, List.set_cons_succ]
                    refine wpAnyH_ready (rs := [8]) (by kernel_rfl) (by simp) ?_
                    refine AllReadyH.cons (o := { dst := some 111, op := Op.buildSlice 60 1 #[(0, Operand.tmp 110)], type := 60, pos := "windlassref10.go:86", after := #[{ on := 7, ground := Ground.data }], guard := none }) rfl (fun K hK => ?_) AllReadyH.nil
                    go_simp
                    refine hK.out _ _ (SK11.out _ H111.out.1.x H111.out.1.b) (fun hHeldN => ?_)
                    clear hK K
                    try simp only [Act.put, List.setIfInBounds_toArray, List.set_cons_zero, List.set_cons_succ]
                    refine wpAnyH_ready (rs := [9]) (by kernel_rfl) (by simp) ?_
                    refine AllReadyH.cons (o := { dst := some 112, op := Op.call { callee := Callee.builtin Builtin.append, args := #[Operand.tmp 104, Operand.tmp 111], argTypes := #[60, 60] }, type := 60, pos := "windlassref10.go:86", after := #[{ on := 1, ground := Ground.data }, { on := 8, ground := Ground.data }], guard := none }) rfl (fun K hK => ?_) AllReadyH.nil
                    refine step_appO rfl (.tmp 104) (.tmp 111) rfl (.slice a9 m9 c9) (.slice (some ⟨Wd11.heap.size, 0, none⟩) 1 1) rfl rfl (FB + 1) (layF bs i ++ ops ++ [unO ba (bg bs kt)]) H111.out.1.o (some ⟨Wd11.heap.size, 0, none⟩) 1 1 rfl [jpO (bg bs ke)] rfl H111.out.2 (fun e => by cases e) hL4 (by omega) hFBa11 ?_
                    intro v9 w11 ho9 hg9 hn9
                    obtain ⟨a11, m11, c11, rfl, Hm9, _, _⟩ := ho9.rdm
                    have HA11 := hid (H111.out.1.add ho9 hg9 hn9)
                    have p9 := cellOf HA11.out.2.1 1
                    have pf := freeOf HA11.out.2.1 1
                    simp only [List.getElem?_toArray, List.getElem?_cons_zero, List.getElem?_cons_succ] at p9
                    clear ho9 hg9 hn9
                    refine hK.out _ _ (SK11.out _ HA11.out.2.2.1 HA11.out.2.2.2) (fun hHeldN => ?_)
                    clear hK K
                    try simp only [Act.put, List.setIfInBounds_toArray, List.set_cons_zero, List.set_cons_succ]
                    refine wpAnyH_take (i := 10) (oi := { dst := some 113, op := Op.fieldAddr 73 (Operand.tmp 7) 1, type := 0, pos := "windlassref10.go:86", after := #[{ on := 0, ground := Ground.phase }, { on := 1, ground := Ground.phase }, { on := 2, ground := Ground.phase }, { on := 3, ground := Ground.phase }, { on := 4, ground := Ground.phase }, { on := 5, ground := Ground.phase }, { on := 6, ground := Ground.phase }, { on := 7, ground := Ground.phase }, { on := 8, ground := Ground.phase }, { on := 9, ground := Ground.phase }], guard := none }) (v := .pointer (some ⟨FB, 1, none⟩)) rfl (by kernel_rfl) (by kernel_rfl) (by kernel_rfl) (fun _ _ _ h => h) (Or.inl ⟨by rfl, ?_⟩) (by assumption) ?_
                    · intro w hSw; (try dsimp only at hSw); go_simp
                    try simp only [Act.put, List.setIfInBounds_toArray, List.set_cons_zero, List.set_cons_succ]
                    refine wpAnyH_ready (rs := [11]) (by kernel_rfl) (by simp) ?_
                    refine AllReadyH.cons (o := { dst := none, op := Op.store 60 (Operand.tmp 113) (Operand.tmp 112), type := 0, pos := "windlassref10.go:86", after := #[{ on := 10, ground := Ground.data }, { on := 9, ground := Ground.data }, { on := 9, ground := Ground.chain }, { on := 0, ground := Ground.phase }, { on := 1, ground := Ground.phase }, { on := 2, ground := Ground.phase }, { on := 3, ground := Ground.phase }, { on := 4, ground := Ground.phase }, { on := 5, ground := Ground.phase }, { on := 6, ground := Ground.phase }, { on := 7, ground := Ground.phase }, { on := 8, ground := Ground.phase }, { on := 9, ground := Ground.phase }], guard := none }) rfl (fun K hK => ?_) AllReadyH.nil
                    go_simp
                    refine hK.out _ _ (SK11.out _ HA11.out.1.x HA11.out.1.b) (fun hHeldN => ?_)
                    clear hK K
                    try simp only [Act.put, List.setIfInBounds_toArray, List.set_cons_zero, List.set_cons_succ]
                    refine wpAnyH_done (by kernel_rfl) ?_ _
                    clear p9 pf l0 l1
                    clear hHeld
                    go_wp2
                    go_roundg g
                    case measure => omega
                    exact ⟨i + 1, _, _, _, by omega, by go_num, by rw [HF.out]; exact HA11.out.1.fx'⟩
                  · refine AllReadyH.cons (o := { dst := some 111, op := Op.buildSlice 60 1 #[(0, Operand.tmp 110)], type := 60, pos := "windlassref10.go:86", after := #[{ on := 7, ground := Ground.data }], guard := none }) rfl (fun K hK => ?_) AllReadyH.nil
                    go_simp
                    refine hK.out _ _ (SK11.out _ H111.out.1.x H111.out.1.b) (fun hHeldN => ?_)
                    clear hK K
                    try simp only [Act.put, List.setIfInBounds_toArray, List.set_cons_zero, List.set_cons_succ]
                    refine wpAnyH_ready (rs := [1]) (by kernel_rfl) (by simp) ?_
                    refine AllReadyH.cons (o := { dst := some 104, op := Op.load 60 (Operand.tmp 103), type := 60, pos := "windlassref10.go:86", after := #[{ on := 0, ground := Ground.data }], guard := none }) rfl (fun K hK => ?_) AllReadyH.nil
                    go_simp
                    refine hK.out _ _ (SK11.out _ H111.out.1.x H111.out.1.b) (fun hHeldN => ?_)
                    clear hK K
                    try simp only [Act.put, List.setIfInBounds_toArray, List.set_cons_zero, List.set_cons_succ]
                    refine wpAnyH_ready (rs := [9]) (by kernel_rfl) (by simp) ?_
                    refine AllReadyH.cons (o := { dst := some 112, op := Op.call { callee := Callee.builtin Builtin.append, args := #[Operand.tmp 104, Operand.tmp 111], argTypes := #[60, 60] }, type := 60, pos := "windlassref10.go:86", after := #[{ on := 1, ground := Ground.data }, { on := 8, ground := Ground.data }], guard := none }) rfl (fun K hK => ?_) AllReadyH.nil
                    refine step_appO rfl (.tmp 104) (.tmp 111) rfl (.slice a9 m9 c9) (.slice (some ⟨Wd11.heap.size, 0, none⟩) 1 1) rfl rfl (FB + 1) (layF bs i ++ ops ++ [unO ba (bg bs kt)]) H111.out.1.o (some ⟨Wd11.heap.size, 0, none⟩) 1 1 rfl [jpO (bg bs ke)] rfl H111.out.2 (fun e => by cases e) hL4 (by omega) hFBa11 ?_
                    intro v9 w11 ho9 hg9 hn9
                    obtain ⟨a11, m11, c11, rfl, Hm9, _, _⟩ := ho9.rdm
                    have HA11 := hid (H111.out.1.add ho9 hg9 hn9)
                    have p9 := cellOf HA11.out.2.1 1
                    have pf := freeOf HA11.out.2.1 1
                    simp only [List.getElem?_toArray, List.getElem?_cons_zero, List.getElem?_cons_succ] at p9
                    clear ho9 hg9 hn9
                    refine hK.out _ _ (SK11.out _ HA11.out.2.2.1 HA11.out.2.2.2) (fun hHeldN => ?_)
                    clear hK K
                    try simp only [Act.put, List.setIfInBounds_toArray, List.set_cons_zero, List.set_cons_succ]
                    refine wpAnyH_take (i := 10) (oi := { dst := some 113, op := Op.fieldAddr 73 (Operand.tmp 7) 1, type := 0, pos := "windlassref10.go:86", after := #[{ on := 0, ground := Ground.phase }, { on := 1, ground := Ground.phase }, { on := 2, ground := Ground.phase }, { on := 3, ground := Ground.phase }, { on := 4, ground := Ground.phase }, { on := 5, ground := Ground.phase }, { on := 6, ground := Ground.phase }, { on := 7, ground := Ground.phase }, { on := 8, ground := Ground.phase }, { on := 9, ground := Ground.phase }], guard := none }) (v := .pointer (some ⟨FB, 1, none⟩)) rfl (by kernel_rfl) (by kernel_rfl) (by kernel_rfl) (fun _ _ _ h => h) (Or.inl ⟨by rfl, ?_⟩) (by assumption) ?_
                    · intro w hSw; (try dsimp only at hSw); go_simp
                    try simp only [Act.put, List.setIfInBounds_toArray, List.set_cons_zero, List.set_cons_succ]
                    refine wpAnyH_ready (rs := [11]) (by kernel_rfl) (by simp) ?_
                    refine AllReadyH.cons (o := { dst := none, op := Op.store 60 (Operand.tmp 113) (Operand.tmp 112), type := 0, pos := "windlassref10.go:86", after := #[{ on := 10, ground := Ground.data }, { on := 9, ground := Ground.data }, { on := 9, ground := Ground.chain }, { on := 0, ground := Ground.phase }, { on := 1, ground := Ground.phase }, { on := 2, ground := Ground.phase }, { on := 3, ground := Ground.phase }, { on := 4, ground := Ground.phase }, { on := 5, ground := Ground.phase }, { on := 6, ground := Ground.phase }, { on := 7, ground := Ground.phase }, { on := 8, ground := Ground.phase }, { on := 9, ground := Ground.phase }], guard := none }) rfl (fun K hK => ?_) AllReadyH.nil
                    go_simp
                    refine hK.out _ _ (SK11.out _ HA11.out.1.x HA11.out.1.b) (fun hHeldN => ?_)
                    clear hK K
                    try simp only [Act.put, List.setIfInBounds_toArray, List.set_cons_zero, List.set_cons_succ]
                    refine wpAnyH_done (by kernel_rfl) ?_ _
                    clear p9 pf l0 l1
                    clear hHeld
                    go_wp2
                    go_roundg g
                    case measure => omega
                    exact ⟨i + 1, _, _, _, by omega, by go_num, by rw [HF.out]; exact HA11.out.1.fx'⟩
              · refine AllReadyH.cons (o := { dst := some 95, op := Op.buildSlice 60 1 #[(0, Operand.tmp 94)], type := 60, pos := "windlassref10.go:84", after := #[{ on := 9, ground := Ground.data }], guard := none }) rfl (fun K hK => ?_) AllReadyH.nil
                go_simp
                refine hK.out _ _ (SK9.out _ H19.out.1.x H19.out.1.b) (fun hHeldN => ?_)
                clear hK K
                try simp only [Act.put, List.setIfInBounds_toArray, List.set_cons_zero, List.set_cons_succ]
                refine wpAnyH_ready (rs := [1]) (by kernel_rfl) (by simp) ?_
                refine AllReadyH.cons (o := { dst := some 86, op := Op.load 60 (Operand.tmp 85), type := 60, pos := "windlassref10.go:84", after := #[{ on := 0, ground := Ground.data }], guard := none }) rfl (fun K hK => ?_) AllReadyH.nil
                go_simp
                refine hK.out _ _ (SK9.out _ H19.out.1.x H19.out.1.b) (fun hHeldN => ?_)
                clear hK K
                try simp only [Act.put, List.setIfInBounds_toArray, List.set_cons_zero, List.set_cons_succ]
                refine wpAnyH_ready (rs := [11]) (by kernel_rfl) (by simp) ?_
                refine AllReadyH.cons (o := { dst := some 96, op := Op.call { callee := Callee.builtin Builtin.append, args := #[Operand.tmp 86, Operand.tmp 95], argTypes := #[60, 60] }, type := 60, pos := "windlassref10.go:84", after := #[{ on := 1, ground := Ground.data }, { on := 10, ground := Ground.data }], guard := none }) rfl (fun K hK => ?_) AllReadyH.nil
                refine step_appO rfl (.tmp 86) (.tmp 95) rfl (.slice a8 m8 c8) (.slice (some ⟨Wd9.heap.size, 0, none⟩) 1 1) rfl rfl (FB + 1) (layF bs i ++ ops) H19.out.1.o (some ⟨Wd9.heap.size, 0, none⟩) 1 1 rfl [unO ba (bg bs kt)] rfl H19.out.2 (fun e => by cases e) hL2 (by omega) hFBa9 ?_
                intro v9 w9 ho9 hg9 hn9
                obtain ⟨a9, m9, c9, rfl, Hm9, _, _⟩ := ho9.rdm
                have HA9 := hid (H19.out.1.add ho9 hg9 hn9)
                have p9 := cellOf HA9.out.2.1 1
                have pf := freeOf HA9.out.2.1 1
                simp only [List.getElem?_toArray, List.getElem?_cons_zero, List.getElem?_cons_succ] at p9
                clear ho9 hg9 hn9
                refine hK.out _ _ (SK9.out _ HA9.out.2.2.1 HA9.out.2.2.2) (fun hHeldN => ?_)
                clear hK K
                try simp only [Act.put, List.setIfInBounds_toArray, List.set_cons_zero, List.set_cons_succ]
                refine wpAnyH_take (i := 12) (oi := { dst := some 97, op := Op.fieldAddr 73 (Operand.tmp 7) 1, type := 0, pos := "windlassref10.go:84", after := #[{ on := 0, ground := Ground.phase }, { on := 1, ground := Ground.phase }, { on := 2, ground := Ground.phase }, { on := 3, ground := Ground.phase }, { on := 4, ground := Ground.phase }, { on := 5, ground := Ground.phase }, { on := 6, ground := Ground.phase }, { on := 7, ground := Ground.phase }, { on := 8, ground := Ground.phase }, { on := 9, ground := Ground.phase }, { on := 10, ground := Ground.phase }, { on := 11, ground := Ground.phase }], guard := none }) (v := .pointer (some ⟨FB, 1, none⟩)) rfl (by kernel_rfl) (by kernel_rfl) (by kernel_rfl) (fun _ _ _ h => h) (Or.inl ⟨by rfl, ?_⟩) (by assumption) ?_
                · intro w hSw; (try dsimp only at hSw); go_simp
                try simp only [Act.put, List.setIfInBounds_toArray, List.set_cons_zero, List.set_cons_succ]
                refine wpAnyH_ready (rs := [13]) (by kernel_rfl) (by simp) ?_
                refine AllReadyH.cons (o := { dst := none, op := Op.store 60 (Operand.tmp 97) (Operand.tmp 96), type := 0, pos := "windlassref10.go:84", after := #[{ on := 12, ground := Ground.data }, { on := 11, ground := Ground.data }, { on := 11, ground := Ground.chain }, { on := 0, ground := Ground.phase }, { on := 1, ground := Ground.phase }, { on := 2, ground := Ground.phase }, { on := 3, ground := Ground.phase }, { on := 4, ground := Ground.phase }, { on := 5, ground := Ground.phase }, { on := 6, ground := Ground.phase }, { on := 7, ground := Ground.phase }, { on := 8, ground := Ground.phase }, { on := 9, ground := Ground.phase }, { on := 10, ground := Ground.phase }, { on := 11, ground := Ground.phase }], guard := none }) rfl (fun K hK => ?_) AllReadyH.nil
                go_simp
                refine hK.out _ _ (SK9.out _ HA9.out.1.x HA9.out.1.b) (fun hHeldN => ?_)
                clear hK K
                try simp only [Act.put, List.setIfInBounds_toArray, List.set_cons_zero, List.set_cons_succ]
                refine wpAnyH_done (by kernel_rfl) ?_ _
                clear p9 pf l0 l1
                clear hHeld
                go_upto_region 23 with fail
                obtain ⟨W10, hW10⟩ : ∃ W10, W10 = w9.setCell ⟨FB, 1, none⟩ (.slice a9 m9 c9) := ⟨_, rfl⟩
                have hR10 := HA9.out.1
                rw [← hW10] at hR10
                rw [← hW10]
                clear hW10
                have HR10 := hid hR10
                have t4 := cellOf hR10.x 4
                simp only [List.getElem?_toArray, List.getElem?_cons_zero, List.getElem?_cons_succ] at t4
                clear hR10 y1 y2 y3 y4 p8
                by_cases hq : (ke : Int) = (i : Int) + 1
                · have HF : Hid (layF bs (i + 1) = layF bs i ++ ops ++ [unO ba (bg bs kt)]) := hid (by rw [HF0.out, if_pos hq])
                  have g2 : ((ke : Int) != (i : Int) + 1) = false := by simp [hq]
                  clear hq
                  go_wp2
                  go_roundg g
                  case measure => omega
                  exact ⟨i + 1, _, _, _, by omega, by go_num, by rw [HF.out]; exact HR10.out.fx'⟩
                · have HF : Hid (layF bs (i + 1) = layF bs i ++ ops ++ [unO ba (bg bs kt)] ++ [jpO (bg bs ke)]) := hid (by rw [HF0.out, if_neg hq]; simp)
                  have g2 : ((ke : Int) != (i : Int) + 1) = true := by simpa using hq
                  clear hq
                  go_upto_region 24 with fail
                  obtain ⟨Wd11, hWd⟩ : ∃ Wd, Wd = W10.drew := ⟨_, rfl⟩
                  have HRd11 : Hid (RX W9 FB Y regs #[.slice oa on oc, .int .i64 39, .int .i64 ba, .int .i64 (kt : Int), .int .i64 (ke : Int)] a9 m9 c9 (layF bs i ++ ops ++ [unO ba (bg bs kt)]) Wd11) := hid (by rw [hWd]; exact HR10.out.drew)
                  have H111 := hid (HRd11.out.one (jpO (bg bs ke)))
                  have hFBa11 : FB + 1 ≤ (Wd11.alloc (.cells #[.int .i64 38, .int .i64 0, .int .i64 0, .int .i64 0, .int .i64 (bg bs ke : Int)] 41)).heap.size := by rw [World.size_alloc]; have := lt_of_heap HRd11.out.f; omega
                  have SK11 := hid (fun (W' : World) (h1 : W'.heap[Y]? = some (.cells #[.slice oa on oc, .int .i64 39, .int .i64 ba, .int .i64 (kt : Int), .int .i64 (ke : Int)] 89 (0, 0))) (hb : Below FB W9 W') => (⟨cellOf h1 2, cellOf h1 4, ST.out W' hb ke (by omega)⟩ : W'.cell? ⟨Y, 2, none⟩ = some (.int .i64 ba) ∧ W'.cell? ⟨Y, 4, none⟩ = some (.int .i64 (ke : Int)) ∧ W'.cell? ⟨g5, ke, none⟩ = some (.int .i64 (bg bs ke : Int))))
                  have l0 : Wd11.cell? ⟨FB, 1, none⟩ = some (.slice a9 m9 c9) := cellOf HRd11.out.f 1
                  have l1 : (Wd11.alloc (.cells #[.int .i64 38, .int .i64 0, .int .i64 0, .int .i64 0, .int .i64 (bg bs ke : Int)] 41)).cell? ⟨FB, 1, none⟩ = some (.slice a9 m9 c9) := cellOf H111.out.1.f 1
                  refine wp_region_held_drew (S := fun W' => W'.cell? ⟨Y, 2, none⟩ = some (.int .i64 ba) ∧ W'.cell? ⟨Y, 4, none⟩ = some (.int .i64 (ke : Int)) ∧ W'.cell? ⟨g5, ke, none⟩ = some (.int .i64 (bg bs ke : Int))) (by kernel_rfl) (by rw [← hWd]; exact SK11.out _ HRd11.out.x HRd11.out.b) (fun hHeld => ?_)
                  rw [← hWd] at hHeld ⊢
                  clear hWd
                  refine wpAnyH_take (i := 0) (oi := { dst := some 103, op := Op.fieldAddr 73 (Operand.tmp 7) 1, type := 0, pos := "windlassref10.go:86", after := #[], guard := none }) (v := .pointer (some ⟨FB, 1, none⟩)) rfl (by kernel_rfl) (by kernel_rfl) (by kernel_rfl) (fun _ _ _ h => h) (Or.inl ⟨by rfl, ?_⟩) (by assumption) ?_
                  · intro w hSw; (try dsimp only at hSw); go_simp
                  try simp only [Act.put, List.setIfInBounds_toArray, List.set_cons_zero, List.set_cons_succ]
                  refine wpAnyH_take (i := 2) (oi := { dst := some 105, op := Op.move (Operand.tmp 4), type := 37, pos := "windlassref10.go:86", after := #[], guard := none }) (v := .slice (some ⟨g5, 0, none⟩) j c4) rfl (by kernel_rfl) (by kernel_rfl) (by kernel_rfl) (fun _ _ _ h => h) (Or.inl ⟨by rfl, ?_⟩) (by assumption) ?_
                  · intro w hSw; (try dsimp only at hSw); go_simp
                  try simp only [Act.put, List.setIfInBounds_toArray, List.set_cons_zero, List.set_cons_succ]
                  refine wpAnyH_take (i := 3) (oi := { dst := some 106, op := Op.fieldAddr 89 (Operand.tmp 9) 4, type := 0, pos := "windlassref10.go:86", after := #[], guard := none }) (v := .pointer (some ⟨Y, 4, none⟩)) rfl (by kernel_rfl) (by kernel_rfl) (by kernel_rfl) (fun _ _ _ h => h) (Or.inl ⟨by rfl, ?_⟩) (by assumption) ?_
                  · intro w hSw; (try dsimp only at hSw); go_simp
                  try simp only [Act.put, List.setIfInBounds_toArray, List.set_cons_zero, List.set_cons_succ]
                  refine wpAnyH_take (i := 4) (oi := { dst := some 107, op := Op.load 3 (Operand.tmp 106), type := 3, pos := "windlassref10.go:86", after := #[{ on := 3, ground := Ground.data }], guard := none }) (v := .int .i64 (ke : Int)) rfl (by kernel_rfl) (by kernel_rfl) (by kernel_rfl) (fun _ _ _ h => h) (Or.inl ⟨by rfl, ?_⟩) (by assumption) ?_
                  · intro w hSw; (try dsimp only at hSw); go_simp
                  try simp only [Act.put, List.setIfInBounds_toArray, List.set_cons_zero, List.set_cons_succ]
                  refine wpAnyH_take (i := 5) (oi := { dst := some 108, op := Op.indexAddr 37 (Operand.tmp 105) (Operand.tmp 107), type := 0, pos := "windlassref10.go:86", after := #[{ on := 2, ground := Ground.data }, { on := 4, ground := Ground.data }], guard := none }) (v := .pointer (some ⟨g5, ke, none⟩)) rfl (by kernel_rfl) (by kernel_rfl) (by kernel_rfl) (fun _ _ _ h => h) (Or.inl ⟨by rfl, ?_⟩) (by assumption) ?_
                  · intro w hSw; (try dsimp only at hSw); go_simp
                  try simp only [Act.put, List.setIfInBounds_toArray, List.set_cons_zero, List.set_cons_succ]
                  refine wpAnyH_take (i := 6) (oi := { dst := some 109, op := Op.load 3 (Operand.tmp 108), type := 3, pos := "windlassref10.go:86", after := #[{ on := 5, ground := Ground.data }], guard := none }) (v := .int .i64 (bg bs ke : Int)) rfl (by kernel_rfl) (by kernel_rfl) (by kernel_rfl) (fun _ _ _ h => h) (Or.inl ⟨by rfl, ?_⟩) (by assumption) ?_
                  · intro w hSw; (try dsimp only at hSw); go_simp
                  try simp only [Act.put, List.setIfInBounds_toArray, List.set_cons_zero, List.set_cons_succ]
                  refine wpAnyH_take (i := 7) (oi := { dst := some 110, op := Op.build 41 #[(0, Operand.const (Value.int IntKind.i64 38)), (4, Operand.tmp 109)], type := 41, pos := "windlassref10.go:86", after := #[{ on := 6, ground := Ground.data }], guard := none }) (v := .agg #[.int .i64 38, .int .i64 0, .int .i64 0, .int .i64 0, .int .i64 (bg bs ke : Int)]) rfl (by kernel_rfl) (by kernel_rfl) (by kernel_rfl) (fun _ _ _ h => h) (Or.inl ⟨by rfl, ?_⟩) (by assumption) ?_
                  · intro w hSw; (try dsimp only at hSw); go_simp
                  try simp only [Act.put, List.setIfInBounds_toArray, List.set_cons_zero, List.set_cons_succ]
                  refine wpAnyH_ready (rs := [1, 8]) (by kernel_rfl) (by simp) ?_
                  refine AllReadyH.cons (o := { dst := some 104, op := Op.load 60 (Operand.tmp 103), type := 60, pos := "windlassref10.go:86", after := #[{ on := 0, ground := Ground.data }], guard := none }) rfl (fun K hK => ?_) ?_
                  · go_simp
                    refine hK.out _ _ (SK11.out _ HRd11.out.x HRd11.out.b) (fun hHeldN => ?_)
                    clear hK K
                    try simp only [Act.put, List.setIfInBounds_toArray, List.set_cons_zero, List.set_cons_succ]
                    refine wpAnyH_ready (rs := [8]) (by kernel_rfl) (by simp) ?_
                    refine AllReadyH.cons (o := { dst := some 111, op := Op.buildSlice 60 1 #[(0, Operand.tmp 110)], type := 60, pos := "windlassref10.go:86", after := #[{ on := 7, ground := Ground.data }], guard := none }) rfl (fun K hK => ?_) AllReadyH.nil
                    go_simp
                    refine hK.out _ _ (SK11.out _ H111.out.1.x H111.out.1.b) (fun hHeldN => ?_)
                    clear hK K
                    try simp only [Act.put, List.setIfInBounds_toArray, List.set_cons_zero, List.set_cons_succ]
                    refine wpAnyH_ready (rs := [9]) (by kernel_rfl) (by simp) ?_
                    refine AllReadyH.cons (o := { dst := some 112, op := Op.call { callee := Callee.builtin Builtin.append, args := #[Operand.tmp 104, Operand.tmp 111], argTypes := #[60, 60] }, type := 60, pos := "windlassref10.go:86", after := #[{ on := 1, ground := Ground.data }, { on := 8, ground := Ground.data }], guard := none }) rfl (fun K hK => ?_) AllReadyH.nil
                    refine step_appO rfl (.tmp 104) (.tmp 111) rfl (.slice a9 m9 c9) (.slice (some ⟨Wd11.heap.size, 0, none⟩) 1 1) rfl rfl (FB + 1) (layF bs i ++ ops ++ [unO ba (bg bs kt)]) H111.out.1.o (some ⟨Wd11.heap.size, 0, none⟩) 1 1 rfl [jpO (bg bs ke)] rfl H111.out.2 (fun e => by cases e) hL4 (by omega) hFBa11 ?_
                    intro v9 w11 ho9 hg9 hn9
                    obtain ⟨a11, m11, c11, rfl, Hm9, _, _⟩ := ho9.rdm
                    have HA11 := hid (H111.out.1.add ho9 hg9 hn9)
                    have p9 := cellOf HA11.out.2.1 1
                    have pf := freeOf HA11.out.2.1 1
                    simp only [List.getElem?_toArray, List.getElem?_cons_zero, List.getElem?_cons_succ] at p9
                    clear ho9 hg9 hn9
                    refine hK.out _ _ (SK11.out _ HA11.out.2.2.1 HA11.out.2.2.2) (fun hHeldN => ?_)
                    clear hK K
                    try simp only [Act.put, List.setIfInBounds_toArray, List.set_cons_zero, List.set_cons_succ]
                    refine wpAnyH_take (i := 10) (oi := { dst := some 113, op := Op.fieldAddr 73 (Operand.tmp 7) 1, type := 0, pos := "windlassref10.go:86", after := #[{ on := 0, ground := Ground.phase }, { on := 1, ground := Ground.phase }, { on := 2, ground := Ground.phase }, { on := 3, ground := Ground.phase }, { on := 4, ground := Ground.phase }, { on := 5, ground := Ground.phase }, { on := 6, ground := Ground.phase }, { on := 7, ground := Ground.phase }, { on := 8, ground := Ground.phase }, { on := 9, ground := Ground.phase }], guard := none }) (v := .pointer (some ⟨FB, 1, none⟩)) rfl (by kernel_rfl) (by kernel_rfl) (by kernel_rfl) (fun _ _ _ h => h) (Or.inl ⟨by rfl, ?_⟩) (by assumption) ?_
                    · intro w hSw; (try dsimp only at hSw); go_simp
                    try simp only [Act.put, List.setIfInBounds_toArray, List.set_cons_zero, List.set_cons_succ]
                    refine wpAnyH_ready (rs := [11]) (by kernel_rfl) (by simp) ?_
                    refine AllReadyH.cons (o := { dst := none, op := Op.store 60 (Operand.tmp 113) (Operand.tmp 112), type := 0, pos := "windlassref10.go:86", after := #[{ on := 10, ground := Ground.data }, { on := 9, ground := Ground.data }, { on := 9, ground := Ground.chain }, { on := 0, ground := Ground.phase }, { on := 1, ground := Ground.phase }, { on := 2, ground := Ground.phase }, { on := 3, ground := Ground.phase }, { on := 4, ground := Ground.phase }, { on := 5, ground := Ground.phase }, { on := 6, ground := Ground.phase }, { on := 7, ground := Ground.phase }, { on := 8, ground := Ground.phase }, { on := 9, ground := Ground.phase }], guard := none }) rfl (fun K hK => ?_) AllReadyH.nil
                    go_simp
                    refine hK.out _ _ (SK11.out _ HA11.out.1.x HA11.out.1.b) (fun hHeldN => ?_)
                    clear hK K
                    try simp only [Act.put, List.setIfInBounds_toArray, List.set_cons_zero, List.set_cons_succ]
                    refine wpAnyH_done (by kernel_rfl) ?_ _
                    clear p9 pf l0 l1
                    clear hHeld
                    go_wp2
                    go_roundg g
                    case measure => omega
                    exact ⟨i + 1, _, _, _, by omega, by go_num, by rw [HF.out]; exact HA11.out.1.fx'⟩
                  · refine AllReadyH.cons (o := { dst := some 111, op := Op.buildSlice 60 1 #[(0, Operand.tmp 110)], type := 60, pos := "windlassref10.go:86", after := #[{ on := 7, ground := Ground.data }], guard := none }) rfl (fun K hK => ?_) AllReadyH.nil
                    go_simp
                    refine hK.out _ _ (SK11.out _ H111.out.1.x H111.out.1.b) (fun hHeldN => ?_)
                    clear hK K
                    try simp only [Act.put, List.setIfInBounds_toArray, List.set_cons_zero, List.set_cons_succ]
                    refine wpAnyH_ready (rs := [1]) (by kernel_rfl) (by simp) ?_
                    refine AllReadyH.cons (o := { dst := some 104, op := Op.load 60 (Operand.tmp 103), type := 60, pos := "windlassref10.go:86", after := #[{ on := 0, ground := Ground.data }], guard := none }) rfl (fun K hK => ?_) AllReadyH.nil
                    go_simp
                    refine hK.out _ _ (SK11.out _ H111.out.1.x H111.out.1.b) (fun hHeldN => ?_)
                    clear hK K
                    try simp only [Act.put, List.setIfInBounds_toArray, List.set_cons_zero, List.set_cons_succ]
                    refine wpAnyH_ready (rs := [9]) (by kernel_rfl) (by simp) ?_
                    refine AllReadyH.cons (o := { dst := some 112, op := Op.call { callee := Callee.builtin Builtin.append, args := #[Operand.tmp 104, Operand.tmp 111], argTypes := #[60, 60] }, type := 60, pos := "windlassref10.go:86", after := #[{ on := 1, ground := Ground.data }, { on := 8, ground := Ground.data }], guard := none }) rfl (fun K hK => ?_) AllReadyH.nil
                    refine step_appO rfl (.tmp 104) (.tmp 111) rfl (.slice a9 m9 c9) (.slice (some ⟨Wd11.heap.size, 0, none⟩) 1 1) rfl rfl (FB + 1) (layF bs i ++ ops ++ [unO ba (bg bs kt)]) H111.out.1.o (some ⟨Wd11.heap.size, 0, none⟩) 1 1 rfl [jpO (bg bs ke)] rfl H111.out.2 (fun e => by cases e) hL4 (by omega) hFBa11 ?_
                    intro v9 w11 ho9 hg9 hn9
                    obtain ⟨a11, m11, c11, rfl, Hm9, _, _⟩ := ho9.rdm
                    have HA11 := hid (H111.out.1.add ho9 hg9 hn9)
                    have p9 := cellOf HA11.out.2.1 1
                    have pf := freeOf HA11.out.2.1 1
                    simp only [List.getElem?_toArray, List.getElem?_cons_zero, List.getElem?_cons_succ] at p9
                    clear ho9 hg9 hn9
                    refine hK.out _ _ (SK11.out _ HA11.out.2.2.1 HA11.out.2.2.2) (fun hHeldN => ?_)
                    clear hK K
                    try simp only [Act.put, List.setIfInBounds_toArray, List.set_cons_zero, List.set_cons_succ]
                    refine wpAnyH_take (i := 10) (oi := { dst := some 113, op := Op.fieldAddr 73 (Operand.tmp 7) 1, type := 0, pos := "windlassref10.go:86", after := #[{ on := 0, ground := Ground.phase }, { on := 1, ground := Ground.phase }, { on := 2, ground := Ground.phase }, { on := 3, ground := Ground.phase }, { on := 4, ground := Ground.phase }, { on := 5, ground := Ground.phase }, { on := 6, ground := Ground.phase }, { on := 7, ground := Ground.phase }, { on := 8, ground := Ground.phase }, { on := 9, ground := Ground.phase }], guard := none }) (v := .pointer (some ⟨FB, 1, none⟩)) rfl (by kernel_rfl) (by kernel_rfl) (by kernel_rfl) (fun _ _ _ h => h) (Or.inl ⟨by rfl, ?_⟩) (by assumption) ?_
                    · intro w hSw; (try dsimp only at hSw); go_simp
                    try simp only [Act.put, List.setIfInBounds_toArray, List.set_cons_zero, List.set_cons_succ]
                    refine wpAnyH_ready (rs := [11]) (by kernel_rfl) (by simp) ?_
                    refine AllReadyH.cons (o := { dst := none, op := Op.store 60 (Operand.tmp 113) (Operand.tmp 112), type := 0, pos := "windlassref10.go:86", after := #[{ on := 10, ground := Ground.data }, { on := 9, ground := Ground.data }, { on := 9, ground := Ground.chain }, { on := 0, ground := Ground.phase }, { on := 1, ground := Ground.phase }, { on := 2, ground := Ground.phase }, { on := 3, ground := Ground.phase }, { on := 4, ground := Ground.phase }, { on := 5, ground := Ground.phase }, { on := 6, ground := Ground.phase }, { on := 7, ground := Ground.phase }, { on := 8, ground := Ground.phase }, { on := 9, ground := Ground.phase }], guard := none }) rfl (fun K hK => ?_) AllReadyH.nil
                    go_simp
                    refine hK.out _ _ (SK11.out _ HA11.out.1.x HA11.out.1.b) (fun hHeldN => ?_)
                    clear hK K
                    try simp only [Act.put, List.setIfInBounds_toArray, List.set_cons_zero, List.set_cons_succ]
                    refine wpAnyH_done (by kernel_rfl) ?_ _
                    clear p9 pf l0 l1
                    clear hHeld
                    go_wp2
                    go_roundg g
                    case measure => omega
                    exact ⟨i + 1, _, _, _, by omega, by go_num, by rw [HF.out]; exact HA11.out.1.fx'⟩
            · have HF : Hid (layF bs (i + 1) = layF bs i ++ ops ++ [rtO ba]) := hid (by rw [HSU.out, HF40.out rfl])
              have H1 := hid (HR8.out.one (rtO ba))
              have hFBa : FB + 1 ≤ (W8.alloc (.cells (rtO ba).cs 41)).heap.size := by rw [World.size_alloc]; omega
              clear htg
              go_wp2_with (at_builtin; refine wpList_appO (W8.alloc (.cells #[.int .i64 40, .int .i64 0, .int .i64 ba, .int .i64 0, .int .i64 0] 41)) rfl _ _ rfl _ _ (by rfl) (by rfl) (FB + 1) (layF bs i ++ ops) H1.out.1.o (some ⟨W8.heap.size, 0, none⟩) 1 1 rfl [rtO ba] rfl H1.out.2 (fun e => by cases e) hL2 (by omega) hFBa ?_; intro v9 w9 ho9 hg9 hn9; obtain ⟨a9, m9, c9, rfl, Hm9, _, _⟩ := ho9.rdm; have HA := hid (H1.out.1.add ho9 hg9 hn9); have p9 := cellOf HA.out.2.1 1; have pf := freeOf HA.out.2.1 1; simp only [List.getElem?_toArray, List.getElem?_cons_zero, List.getElem?_cons_succ] at p9; clear ho9 hg9 hn9 y1 y2 y3 y4 p8)
              go_roundg g
              case measure => omega
              exact ⟨i + 1, _, _, _, by omega, by go_num, by rw [HF.out]; exact HA.out.1.fx'⟩
end Go.Proofs.Ytmhjnfibpngpmaa

