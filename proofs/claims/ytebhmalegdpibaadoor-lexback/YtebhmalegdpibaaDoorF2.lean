/- LexBack: the walk. -/
import Derived.Test.YtebhmalegdpibaaDoorE2
namespace Go.Proofs.YtebhmalegdpibaaDoor
open Go.RowKit Go.Deep
set_option linter.unusedVariables false
set_option linter.unusedSimpArgs false

theorem one_size : (⟨#[32]⟩ : ByteArray).size = 1 := rfl
theorem kt_at {ms ts : List LTok} (h : ms.map kt = ts.map kt) {i : Nat} {t : LTok} (ht : ts[i]? = some t) : ∃ m, ms[i]? = some m ∧ m.kind = t.kind ∧ m.text = t.text := by
  have h2 : (ms.map kt)[i]? = some (kt t) := by rw [h, List.getElem?_map, ht]; rfl
  rw [List.getElem?_map] at h2
  cases hm : ms[i]? with
  | none => rw [hm] at h2; cases h2
  | some m =>
    rw [hm] at h2
    simp only [Option.map_some, Option.some.injEq, kt, Prod.mk.injEq] at h2
    exact ⟨m, rfl, h2.1, h2.2⟩
set_option maxRecDepth 100000 in
set_option maxHeartbeats 1000000 in
theorem back_go (s : ByteArray) (w : World) (hm : MX w) : Calls Tryd.prog 4 #[.string s] w fun e w' => e = .returned (.bool true) ∧ Below w.heap.size w w' := by
  have HM := hid hm
  have ck := known_any w hm
  clear hm
  by_cases h1 : 1500 < s.size
  · have h1' : (1500 : Int) < (s.size : Int) := by omega
    go_enter Tryd.func4, Tryd.ntmps4
    go_wp2_with (go_at_call 9; refine ck.mono ?_; rintro e w1 ⟨rfl, hb1⟩)
    go_ret
    exact ⟨rfl, hb1⟩
  · have h1' : ¬ (1500 : Int) < (s.size : Int) := by omega
    cases hx : lexT s.data.toList with
    | error p =>
      have hp : ¬ (p.2 : Int) = 0 := by have := lexT_err_ne hx; omega
      have c2 := hid (fun (W : World) (h : MX W) => tokens_err s (by omega) p hx W h)
      clear hx
      go_enter Tryd.func4, Tryd.ntmps4
      go_wp2_with (first | (go_at_call 9; refine ck.mono ?_; rintro e w1 ⟨rfl, hb1⟩) | (go_at_call 10; refine (c2.out _ (HM.out.below HM.out.lt hb1)).mono ?_; rintro e w2 ⟨rfl, hb2⟩))
      go_ret
      exact ⟨rfl, hb1.trans (hb2.mono hb1.size)⟩
    | ok ts =>
      have hsm := lexT_small hx
      rw [← Lib.size_eq] at hsm
      have c2 := hid (fun (W : World) (h : MX W) => tokens_ok s (by omega) ts hx W h)
      have HX := hid hx
      have hT : (ts.length : Int) ≤ 1501 := by omega
      have HSM : Hid (ts.length ≤ 1501 ∧ ∀ t ∈ ts, t.text.length ≤ 1500) := hid ⟨by omega, fun t ht => by have := hsm.2 t ht; omega⟩
      clear hx hsm
      go_enter Tryd.func4, Tryd.ntmps4
      go_wp2_with (first | (go_at_call 9; refine ck.mono ?_; rintro e w1 ⟨rfl, hb1⟩) | (go_at_call 10; refine (c2.out _ (HM.out.below HM.out.lt hb1)).mono ?_; rintro e w2 ⟨b, cap, rfl, hrd, hB, hlt, hb2⟩; have Hrd := hid hrd; clear hrd))
      have HB2 := hid (hb1.trans (hb2.mono hb1.size))
      have HM2 := hid (HM.out.below HM.out.lt HB2.out)
      clear hb1 hb2
      go_loopg [6, 7] ts.length (fun g t ii wr => ∃ i : Nat, i + g = ts.length ∧ t = .string (ofB (backS (ts.take i))) ∧ ii = .int .i64 (i : Int) ∧ Below w2.heap.size w2 wr)
      case atStart => exact ⟨0, by omega, rfl, rfl, Below.refl _ _⟩
      case round =>
        obtain ⟨i, hi, rfl, rfl, hbr⟩ := hrel
        cases gk with
        | succ g =>
          have hlt0 : i < ts.length := by omega
          have hlti : (i : Int) < (ts.length : Int) := by omega
          obtain ⟨tk, htk⟩ : ∃ tk, ts[i]? = some tk := ⟨ts[i], List.getElem?_eq_getElem hlt0⟩
          obtain ⟨b', o', eb, hct⟩ := (Hrd.out.below (Nat.le_refl _) hbr) i tk htk
          cases eb
          have t0 := hct 0 (by omega)
          have t1 := hct 1 (by omega)
          rw [Nat.zero_add] at t0 t1
          simp only [LTok.cs, List.getElem?_cons_zero, List.getElem?_cons_succ, Nat.add_zero] at t0 t1
          have hnew : backS (ts.take (i + 1)) = backS (ts.take i) ++ (spell tk ++ [32]) := by rw [List.take_add_one, htk, Option.toList_some, backS_snoc]
          have htl : tk.text.length ≤ 1500 := HSM.out.2 tk (List.mem_of_getElem? htk)
          have hlen : (backS (ts.take i)).length ≤ (ts.take i).length * 3003 := backS_len 1500 _ (fun t ht => HSM.out.2 t (List.mem_of_mem_take ht))
          rw [List.length_take] at hlen
          have hql := dbl_len tk.text
          have hqq := quoB_len tk.text
          have hSM1 := HSM.out.1
          have Hi := hid hi
          have HBR := hid hbr
          have HMR := hid (HM2.out.below HM2.out.lt hbr)
          have cq := hid (quote_any (ofB tk.text) (by rw [ofB_size]; omega) wr HMR.out)
          have Hsp := hid (show tk.kind = 4 → spell tk = quoB tk.text from fun e => if_pos e)
          have Hsn := hid (show ¬ tk.kind = 4 → spell tk = tk.text from fun e => if_neg e)
          have Hnew := hid hnew
          clear hi hbr hct hnew htk hlt0
          by_cases hk : tk.kind = 4
          · have hk' : (tk.kind : Int) = 4 := by omega
            obtain ⟨q1, r1, e1, z1⟩ := cat_any (ofB (backS (ts.take i))) (ofB (quoB tk.text)) (by rw [ofB_size, ofB_size]; omega)
            obtain ⟨q2, r2, e2, z2⟩ := cat_any q1 ⟨#[32]⟩ (by rw [z1, ofB_size, ofB_size, one_size]; omega)
            have hq2 : q2 = ofB (backS (ts.take (i + 1))) := eq_ofB (by rw [e2, e1, Hnew.out, Hsp.out hk, ofB_list, ofB_list, List.append_assoc])
            have Hq := hid hq2
            have cq2 := cq.out
            rw [ofB_list] at cq2
            obtain ⟨S0, hS0⟩ : ∃ z, z = ofB (backS (ts.take i)) := ⟨_, rfl⟩
            obtain ⟨x, hx⟩ : ∃ z, z = ofB tk.text := ⟨_, rfl⟩
            obtain ⟨y, hy⟩ : ∃ z, z = ofB (quoB tk.text) := ⟨_, rfl⟩
            rw [← hS0, ← hy] at r1
            rw [← hx] at t1 cq2
            rw [← hy] at cq2
            rw [← hS0]
            clear hS0 hx hy hq2 e1 e2 z1 z2 hql hqq hlen htl hSM1 hk
            go_wp2_with (go_at_call 18; refine cq2.mono ?_; rintro e w3 ⟨rfl, hb3⟩)
            go_roundg g
            case measure => omega
            case rel => exact ⟨i + 1, by have := Hi.out; omega, by rw [Hq.out], by go_num, HBR.out.trans (hb3.mono HBR.out.size)⟩
          · have hk' : ¬ (tk.kind : Int) = 4 := by omega
            obtain ⟨q1, r1, e1, z1⟩ := cat_any (ofB (backS (ts.take i))) (ofB tk.text) (by rw [ofB_size, ofB_size]; omega)
            obtain ⟨q2, r2, e2, z2⟩ := cat_any q1 ⟨#[32]⟩ (by rw [z1, ofB_size, ofB_size, one_size]; omega)
            have hq2 : q2 = ofB (backS (ts.take (i + 1))) := eq_ofB (by rw [e2, e1, Hnew.out, Hsn.out hk, ofB_list, ofB_list, List.append_assoc])
            have Hq := hid hq2
            obtain ⟨S0, hS0⟩ : ∃ z, z = ofB (backS (ts.take i)) := ⟨_, rfl⟩
            obtain ⟨x, hx⟩ : ∃ z, z = ofB tk.text := ⟨_, rfl⟩
            rw [← hS0, ← hx] at r1
            rw [← hx] at t1
            rw [← hS0]
            clear hS0 hx hq2 e1 e2 z1 z2 hql hqq hlen htl hSM1 hk
            go_wp2
            go_roundg g
            case measure => omega
            case rel => exact ⟨i + 1, by have := Hi.out; omega, by rw [Hq.out], by go_num, HBR.out⟩
        | zero =>
          have hin : i = ts.length := by omega
          subst hin
          have HBR := hid hbr
          have HMR := hid (HM2.out.below HM2.out.lt hbr)
          clear hbr hi
          rw [List.take_length]
          by_cases hz : 4096 < (ofB (backS ts)).size
          · have hz' : (4096 : Int) < ((ofB (backS ts)).size : Int) := by omega
            obtain ⟨S0, hS0⟩ : ∃ z, z = ofB (backS ts) := ⟨_, rfl⟩
            rw [← hS0] at hz' ⊢
            clear hS0 hz
            go_wp2
            go_ret
            exact ⟨rfl, HB2.out.trans (HBR.out.mono HB2.out.size)⟩
          · have hz' : ¬ (4096 : Int) < ((ofB (backS ts)).size : Int) := by omega
            obtain ⟨ms, hms, hkt⟩ := lexT_back HX.out (by rw [ofB_size] at hz; omega)
            have hml : ms.length = ts.length := by have := congrArg List.length hkt; simpa using this
            have cT := hid (fun (u : World) (h : MX u) => tokens_ok (ofB (backS ts)) (by omega) ms (by rw [ofB_list]; exact hms) u h)
            rw [hml] at cT
            obtain ⟨S0, hS0⟩ : ∃ z, z = ofB (backS ts) := ⟨_, rfl⟩
            rw [← hS0] at hz' cT ⊢
            have Hkt := hid hkt
            clear hS0 hz hms hkt hml
            go_wp2_with (go_at_call 10; refine (cT.out _ HMR.out).mono ?_; rintro e w5 ⟨tb, tcap, rfl, hrd5, hB5, hlt5, hb5⟩; have Hrd5 := hid hrd5; clear hrd5)
            have HBR5 := hid (HBR.out.trans (hb5.mono HBR.out.size))
            clear hb5
            go_loopg [10] ts.length (fun g ii wq => ∃ i : Nat, i + g = ts.length ∧ ii = .int .i64 (i : Int) ∧ Below w5.heap.size w5 wq)
            case atStart => exact ⟨0, by omega, rfl, Below.refl _ _⟩
            case round =>
              obtain ⟨i, hi, rfl, hbq⟩ := hrel
              have hbq2 : Below w2.heap.size w2 wr := HBR5.out.trans (hbq.mono HBR5.out.size)
              cases gk with
              | succ g =>
                have hlt0 : i < ts.length := by omega
                have hlti : (i : Int) < (ts.length : Int) := by omega
                obtain ⟨tk, htk⟩ : ∃ tk, ts[i]? = some tk := ⟨ts[i], List.getElem?_eq_getElem hlt0⟩
                obtain ⟨mk, hmk, hk1, hk2⟩ := kt_at Hkt.out htk
                obtain ⟨b', o', eb, hct⟩ := (Hrd.out.below (Nat.le_refl _) hbq2) i tk htk
                cases eb
                have t0 := hct 0 (by omega)
                have t1 := hct 1 (by omega)
                obtain ⟨b', o', eb, hcm⟩ := (Hrd5.out.below (Nat.le_refl _) hbq) i mk hmk
                cases eb
                have m0 := hcm 0 (by omega)
                have m1 := hcm 1 (by omega)
                rw [Nat.zero_add] at t0 t1 m0 m1
                simp only [LTok.cs, List.getElem?_cons_zero, List.getElem?_cons_succ, Nat.add_zero] at t0 t1 m0 m1
                rw [hk1] at m0
                rw [hk2] at m1
                obtain ⟨x, hx⟩ : ∃ z, z = ofB tk.text := ⟨_, rfl⟩
                obtain ⟨kk, hkk⟩ : ∃ z : Int, z = (tk.kind : Int) := ⟨_, rfl⟩
                rw [← hx] at t1 m1
                rw [← hkk] at t0 m0
                have Hi := hid hi
                have Hbq := hid hbq
                clear hi hbq hbq2 hct hcm htk hmk hk1 hk2 hx hkk hlt0
                go_wp2
                go_region_held3 (fun w2 => w2.cell? ⟨tb, i * 3, none⟩ = some (.int .i64 kk) ∧ w2.cell? ⟨tb, i * 3 + 1, none⟩ = some (.string x) ∧ w2.cell? ⟨b, i * 3, none⟩ = some (.int .i64 kk) ∧ w2.cell? ⟨b, i * 3 + 1, none⟩ = some (.string x)) (first | go_keep) (fail)
                go_wp2
                go_roundg g
                case measure => omega
                case rel => exact ⟨i + 1, by have := Hi.out; omega, by go_num, Hbq.out.trans (((Below.refl _ wr).drew).mono Hbq.out.size)⟩
              | zero =>
                have hin : i = ts.length := by omega
                subst hin
                have HBQ := hid hbq2
                clear hi hbq hbq2
                go_wp2
                go_ret
                exact ⟨rfl, HB2.out.trans (HBQ.out.mono HB2.out.size)⟩
end Go.Proofs.YtebhmalegdpibaaDoor
