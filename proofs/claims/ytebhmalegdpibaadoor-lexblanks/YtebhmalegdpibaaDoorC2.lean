/- LexBlanks: the walk. -/
import Derived.Test.YtebhmalegdpibaaDoorB2
namespace Go.Proofs.YtebhmalegdpibaaDoor
open Go.RowKit Go.Deep
set_option linter.unusedVariables false
set_option linter.unusedSimpArgs false

theorem al3 (w : World) (o1 o2 o3 : Obj) : (((w.alloc o1).alloc o2).alloc o3).heap[w.heap.size]? = some o1 ∧ (((w.alloc o1).alloc o2).alloc o3).heap[w.heap.size + 1]? = some o2 ∧ (((w.alloc o1).alloc o2).alloc o3).heap[w.heap.size + 1 + 1]? = some o3 := by
  refine ⟨?_, ?_, ?_⟩
  · rw [Below.heap_alloc _ _ _ (by simp; omega), Below.heap_alloc _ _ _ (by simp)]; exact heap_alloc_new w o1
  · rw [Below.heap_alloc _ _ _ (by simp)]; have := heap_alloc_new (w.alloc o1) o2; simpa using this
  · have := heap_alloc_new ((w.alloc o1).alloc o2) o3; simpa using this
set_option maxRecDepth 100000 in
set_option maxHeartbeats 1000000 in
theorem blanks_go (a : Option Addr) (cap : Nat) (bs : Bs) (a2 : Option Addr) (cap2 : Nat) (gs : Bs) (w : World) (hm : MX w) (hb : BRd w a bs) (hb2 : BRd w a2 gs) : Calls Tryd.prog 5 #[.slice a bs.length cap, .slice a2 gs.length cap2] w fun e w' => e = .returned (.bool true) ∧ Below w.heap.size w w' := by
  have HM := hid hm
  have ck := known_any w hm
  have HB := hid hb
  have HB2 := hid hb2
  clear hm hb hb2
  by_cases h1 : 60 < bs.length
  · have h1' : (60 : Int) < (bs.length : Int) := by omega
    go_enter Tryd.func5, Tryd.ntmps5
    go_wp2_with (go_at_call 9; refine ck.mono ?_; rintro e w1 ⟨rfl, hb1⟩)
    go_ret
    exact ⟨rfl, hb1⟩
  · have h1' : ¬ (60 : Int) < (bs.length : Int) := by omega
    go_enter Tryd.func5, Tryd.ntmps5
    go_wp2_with (go_at_call 9; refine ck.mono ?_; rintro e w1 ⟨rfl, hb1⟩)
    have hA := al3 w1 (.cells (strs bw) 38) (.cells (strs bt) 38) (.cells (strs bg) 39)
    have hbW : Below w.heap.size w (((w1.alloc (.cells (strs bw) 38)).alloc (.cells (strs bt) 38)).alloc (.cells (strs bg) 39)) := ((hb1.alloc hb1.size _).alloc (by simp; have := hb1.size; omega) _).alloc (by simp; have := hb1.size; omega) _
    have hsz : (((w1.alloc (.cells (strs bw) 38)).alloc (.cells (strs bt) 38)).alloc (.cells (strs bg) 39)).heap.size = w1.heap.size + 3 := by simp
    obtain ⟨W, hWe⟩ : ∃ W, W = (((w1.alloc (.cells (strs bw) 38)).alloc (.cells (strs bt) 38)).alloc (.cells (strs bg) 39)) := ⟨_, rfl⟩
    rw [← hWe] at hA hbW hsz
    have hWx : (((w1.alloc (.cells #[.string ⟨#[119, 104, 105, 108, 101]⟩, .string ⟨#[97, 98, 99]⟩, .string ⟨#[65, 98, 99]⟩, .string ⟨#[120, 95, 49]⟩, .string ⟨#[52, 50]⟩, .string ⟨#[60, 61]⟩, .string ⟨#[40]⟩, .string ⟨#[34, 65, 32, 98, 34]⟩, .string ⟨#[42, 37]⟩, .string ⟨#[45]⟩, .string ⟨#[45, 62]⟩, .string ⟨#[119, 104, 105, 108, 101, 49]⟩] 38)).alloc (.cells #[.string ⟨#[119, 104, 105, 108, 101]⟩, .string ⟨#[97, 98, 99]⟩, .string ⟨#[65, 98, 99]⟩, .string ⟨#[120, 95, 49]⟩, .string ⟨#[52, 50]⟩, .string ⟨#[60, 61]⟩, .string ⟨#[40]⟩, .string ⟨#[65, 32, 98]⟩, .string ⟨#[42, 37]⟩, .string ⟨#[45]⟩, .string ⟨#[45, 62]⟩, .string ⟨#[119, 104, 105, 108, 101, 49]⟩] 38)).alloc (.cells #[.string ⟨#[32]⟩, .string ⟨#[9, 32]⟩, .string ⟨#[10]⟩, .string ⟨#[32, 35, 110, 111, 116, 101, 10]⟩, .string ⟨#[13, 10, 35, 10, 32]⟩, .string ⟨#[32, 32, 32]⟩] 39)) = W := by rw [hWe]; rfl
    rw [hWx]
    obtain ⟨N0, hN0⟩ : ∃ n, n = w1.heap.size := ⟨_, rfl⟩
    rw [← hN0] at hA hsz ⊢
    have HA := hid hA
    have HbW := hid hbW
    have Hsz := hid hsz
    have HBW := hid (HB.out.below (Nat.le_refl _) hbW)
    have HBW2 := hid (HB2.out.below (Nat.le_refl _) hbW)
    have HMW := hid (HM.out.below HM.out.lt hbW)
    clear hA hbW hsz hWe hWx hN0 hb1
    go_loopg [8, 9] bs.length (fun g s ii wr => ∃ i : Nat, i + g = bs.length ∧ s = .string (ofB (blS bs gs i)) ∧ ii = .int .i64 (i : Int) ∧ Below W.heap.size W wr)
    case atStart => exact ⟨0, by omega, rfl, rfl, Below.refl _ _⟩
    case round =>
      obtain ⟨i, hi, rfl, rfl, hbr⟩ := hrel
      cases gk with
      | succ g =>
        have hlt0 : i < bs.length := by omega
        have hlt : (i : Int) < (bs.length : Int) := by omega
        obtain ⟨c, hc⟩ : ∃ c, bs[i]? = some c := ⟨bs[i], List.getElem?_eq_getElem hlt0⟩
        obtain ⟨b, off, ea, hcell⟩ := (HBW.out.below (Nat.le_refl _) hbr) i c hc
        subst ea
        have hwi : wI bs i = c.toNat % 12 := by unfold wI; rw [List.getD_eq_getElem?_getD, hc]; rfl
        have hkx : wI bs i < 12 := wI_lt bs i
        have hgx : gI gs i < 6 := gI_lt gs i
        have e0 : wr.cell? ⟨N0, wI bs i, none⟩ = some (.string (ofB (bw.getD (wI bs i) []))) := by
          rw [cellOf ((hbr.block N0 (by have := Hsz.out; omega)).trans HA.out.1), strs_at bw _ hkx]
        have e2 : wr.cell? ⟨N0 + 1 + 1, gI gs i, none⟩ = some (.string (ofB (bg.getD (gI gs i) []))) := by
          rw [cellOf ((hbr.block (N0 + 1 + 1) (by have := Hsz.out; omega)).trans HA.out.2.2), strs_at bg _ hgx]
        have hl1 := blS_len bs gs i
        have hl2 := piece_len bs gs i
        rw [List.length_append] at hl2
        obtain ⟨q1, r1, eq1, z1⟩ := cat_any (ofB (blS bs gs i)) (ofB (bw.getD (wI bs i) [])) (by rw [ofB_size, ofB_size]; omega)
        obtain ⟨q2, r2, eq2, z2⟩ := cat_any q1 (ofB (bg.getD (gI gs i) [])) (by rw [z1, ofB_size, ofB_size, ofB_size]; omega)
        have hq2 : q2 = ofB (blS bs gs (i + 1)) := eq_ofB (by rw [eq2, eq1, ofB_list, ofB_list, ofB_list, blS, List.append_assoc])
        have Hq := hid hq2
        have Hi := hid hi
        have hrem : ((c.toNat : Int).tmod 12) = ((wI bs i : Nat) : Int) := by rw [hwi]; rfl
        obtain ⟨KX, hKX⟩ : ∃ k, k = wI bs i := ⟨_, rfl⟩
        obtain ⟨GX, hGX⟩ : ∃ k, k = gI gs i := ⟨_, rfl⟩
        rw [← hKX] at e0 r1 hrem hkx
        rw [← hGX] at e2 r2 hgx
        obtain ⟨x, hx⟩ : ∃ x, x = ofB (bw.getD KX []) := ⟨_, rfl⟩
        obtain ⟨y, hy⟩ : ∃ y, y = ofB (bg.getD GX []) := ⟨_, rfl⟩
        obtain ⟨S0, hS0⟩ : ∃ z, z = ofB (blS bs gs i) := ⟨_, rfl⟩
        rw [← hx] at e0 r1
        rw [← hy] at e2 r2
        rw [← hS0] at r1 ⊢
        clear hx hy hS0
        have HGX := hid hGX
        have hkx' : (KX : Int) < 12 := by omega
        have hgx' : (GX : Int) < 6 := by omega
        have HBR := hid hbr
        clear hq2 hi hc hwi hKX hGX eq1 eq2 z1 z2 hl1 hl2 hbr hlt0
        by_cases hgl : i < gs.length
        · have hgl' : (i : Int) < (gs.length : Int) := by omega
          obtain ⟨d, hd⟩ : ∃ d, gs[i]? = some d := ⟨gs[i], List.getElem?_eq_getElem hgl⟩
          obtain ⟨b2, off2, ea2, hcell2⟩ := (HBW2.out.below (Nat.le_refl _) HBR.out) i d hd
          subst ea2
          have hrem2 : ((d.toNat : Int).tmod 6) = (GX : Int) := by
            rw [HGX.out]; unfold gI; rw [if_pos hgl, List.getD_eq_getElem?_getD, hd]; rfl
          clear hd hgl
          have hdl := d.toNat_lt
          have hw64 : wrap64 (d.toNat : Int) = (d.toNat : Int) := by first | exact wrap_small _ (by omega) (by omega) | (unfold wrap64; omega) | (simp [wrap64]; omega)
          go_wp2
          go_region_held3 (fun w2 => w2.cell? ⟨b, off + i, none⟩ = some (.int .u8 (c.toNat : Int)) ∧ w2.cell? ⟨N0, KX, none⟩ = some (.string x) ∧ w2.cell? ⟨N0 + 1 + 1, GX, none⟩ = some (.string y)) (first | go_keep) (fail)
          go_wp2
          go_roundg g
          case measure => omega
          case rel => exact ⟨i + 1, by have := Hi.out; omega, by rw [Hq.out], by go_num, HBR.out.trans (((Below.refl _ wr).drew).mono HBR.out.size)⟩
        · have hgl' : ¬ (i : Int) < (gs.length : Int) := by omega
          have hgz : GX = 0 := by rw [HGX.out]; unfold gI; rw [if_neg hgl]
          subst hgz
          clear hgl
          go_wp2
          go_region_held3 (fun w2 => w2.cell? ⟨b, off + i, none⟩ = some (.int .u8 (c.toNat : Int)) ∧ w2.cell? ⟨N0, KX, none⟩ = some (.string x) ∧ w2.cell? ⟨N0 + 1 + 1, 0, none⟩ = some (.string y)) (first | go_keep) (fail)
          go_wp2
          go_roundg g
          case measure => omega
          case rel => exact ⟨i + 1, by have := Hi.out; omega, by rw [Hq.out], by go_num, HBR.out.trans (((Below.refl _ wr).drew).mono HBR.out.size)⟩
      | zero =>
        have hin : i = bs.length := by omega
        subst hin
        have hL := lexT_bl bs gs (by omega)
        have hZ := blS_len bs gs bs.length
        have cT := hid (fun (u : World) (h : MX u) => tokens_ok (ofB (blS bs gs bs.length)) (by rw [ofB_size]; omega) _ (by rw [ofB_list]; exact hL) u h)
        have HMR := hid (HMW.out.below HMW.out.lt hbr)
        obtain ⟨S0, hS0⟩ : ∃ z, z = ofB (blS bs gs bs.length) := ⟨_, rfl⟩
        obtain ⟨ts, hts⟩ : ∃ ts, ts = blT bs gs bs.length ++ [⟨0, [], (blS bs gs bs.length).length⟩] := ⟨_, rfl⟩
        rw [← hS0, ← hts] at cT
        rw [← hS0]
        have hn : ts.length = bs.length + 1 := by rw [hts, List.length_append, blT_len]; rfl
        rw [hn] at cT
        have HS0 := hid hS0
        have Hts := hid hts
        have HBR := hid hbr
        clear hL hZ hS0 hts hbr hi hn
        go_wp2_with (go_at_call 10; refine (cT.out _ HMR.out).mono ?_; rintro e w5 ⟨tb, tcap, rfl, hrd, hB5, hlt5, hb5⟩; have Hrd := hid hrd; clear hrd)
        have HB5 := hid hb5
        have HBall := hid ((HbW.out.trans (HBR.out.mono HbW.out.size)).trans (hb5.mono (Nat.le_trans HbW.out.size HBR.out.size)))
        have HBR5 := hid (HBR.out.trans (hb5.mono HBR.out.size))
        clear hb5
        go_loopg [14] bs.length (fun g ii wq => ∃ i : Nat, i + g = bs.length ∧ ii = .int .i64 (i : Int) ∧ Below w5.heap.size w5 wq)
        case atStart => exact ⟨0, by omega, rfl, Below.refl _ _⟩
        case round =>
          obtain ⟨i, hi, rfl, hbq⟩ := hrel
          have hbq2 : Below W.heap.size W wr := HBR5.out.trans (hbq.mono HBR5.out.size)
          cases gk with
          | succ g =>
            have hlt0 : i < bs.length := by omega
            have hlt : (i : Int) < (bs.length : Int) := by omega
            have hlt1 : (i : Int) < (bs.length : Int) + 1 := by omega
            obtain ⟨c, hc⟩ : ∃ c, bs[i]? = some c := ⟨bs[i], List.getElem?_eq_getElem hlt0⟩
            obtain ⟨b, off, ea, hcell⟩ := (HBW.out.below (Nat.le_refl _) hbq2) i c hc
            subst ea
            have hwi : wI bs i = c.toNat % 12 := by unfold wI; rw [List.getD_eq_getElem?_getD, hc]; rfl
            have hkx : wI bs i < 12 := wI_lt bs i
            have e1 : wr.cell? ⟨N0 + 1, wI bs i, none⟩ = some (.string (ofB (bt.getD (wI bs i) []))) := by
              rw [cellOf ((hbq2.block (N0 + 1) (by have := Hsz.out; omega)).trans HA.out.2.1), strs_at bt _ hkx]
            have htk : ts[i]? = some ⟨bk.getD (wI bs i) 0, bt.getD (wI bs i) [], (blS bs gs i).length⟩ := by
              rw [Hts.out, List.getElem?_append_left (by rw [blT_len]; exact hlt0)]
              exact blT_at bs gs _ i hlt0
            obtain ⟨b', o', eb, hct⟩ := (Hrd.out.below (Nat.le_refl _) hbq) i _ htk
            cases eb
            have t0 := hct 0 (by omega)
            have t1 := hct 1 (by omega)
            rw [Nat.zero_add] at t0 t1
            simp only [LTok.cs, List.getElem?_cons_zero, List.getElem?_cons_succ, Nat.add_zero] at t0 t1
            have hrem : ((c.toNat : Int).tmod 12) = ((wI bs i : Nat) : Int) := by rw [hwi]; rfl
            have hk2 : ∀ k, k < 12 → ((bk.getD k 0 = 2) ↔ k = 0) := by decide
            have hkk := hk2 _ hkx
            obtain ⟨KX, hKX⟩ : ∃ k, k = wI bs i := ⟨_, rfl⟩
            rw [← hKX] at e1 hrem hkx t0 t1 hkk
            obtain ⟨x, hx⟩ : ∃ x, x = ofB (bt.getD KX []) := ⟨_, rfl⟩
            rw [← hx] at e1 t1
            obtain ⟨kk, hkx2⟩ : ∃ k, k = bk.getD KX 0 := ⟨_, rfl⟩
            rw [← hkx2] at t0 hkk
            have hkx' : (KX : Int) < 12 := by omega
            have Hi := hid hi
            have Hbq := hid hbq
            clear hi hc hwi hKX hx hkx2 htk hct hbq hbq2 hk2 hlt0
            by_cases hz : KX = 0
            · have hk : (kk : Int) = 2 := by have := hkk.2 hz; omega
              subst hz
              clear hkk
              go_wp2
              go_region_held3 (fun w2 => w2.cell? ⟨b, off + i, none⟩ = some (.int .u8 (c.toNat : Int)) ∧ w2.cell? ⟨N0 + 1, 0, none⟩ = some (.string x) ∧ w2.cell? ⟨tb, i * 3, none⟩ = some (.int .i64 (kk : Int)) ∧ w2.cell? ⟨tb, i * 3 + 1, none⟩ = some (.string x)) (first | go_keep) (fail)
              go_wp2
              go_roundg g
              case measure => omega
              case rel => exact ⟨i + 1, by have := Hi.out; omega, by go_num, Hbq.out.trans (((Below.refl _ wr).drew).mono Hbq.out.size)⟩
            · have hk : ¬ (kk : Int) = 2 := fun e => hz (hkk.1 (by omega))
              have hz' : ¬ (KX : Int) = 0 := by omega
              have hz2 : ((KX : Int) == 0) = false := by simp; omega
              have hz3 : ((kk : Int) == 2) = false := by simp; omega
              clear hkk
              go_wp2
              go_region_held3 (fun w2 => w2.cell? ⟨b, off + i, none⟩ = some (.int .u8 (c.toNat : Int)) ∧ w2.cell? ⟨N0 + 1, KX, none⟩ = some (.string x) ∧ w2.cell? ⟨tb, i * 3, none⟩ = some (.int .i64 (kk : Int)) ∧ w2.cell? ⟨tb, i * 3 + 1, none⟩ = some (.string x)) (first | go_keep) (fail)
              go_wp2
              go_roundg g
              case measure => omega
              case rel => exact ⟨i + 1, by have := Hi.out; omega, by go_num, Hbq.out.trans (((Below.refl _ wr).drew).mono Hbq.out.size)⟩
          | zero =>
            have hin : i = bs.length := by omega
            subst hin
            have htk : ts[bs.length]? = some ⟨0, [], (blS bs gs bs.length).length⟩ := by
              rw [Hts.out, List.getElem?_append_right (by rw [blT_len]; omega), blT_len]; simp
            obtain ⟨b', o', eb, hct⟩ := (Hrd.out.below (Nat.le_refl _) hbq) bs.length _ htk
            cases eb
            have t0 := hct 0 (by omega)
            have t2 := hct 2 (by omega)
            rw [Nat.zero_add] at t0 t2
            simp only [LTok.cs, List.getElem?_cons_zero, List.getElem?_cons_succ, Nat.add_zero] at t0 t2
            have hz0 : S0.size = (blS bs gs bs.length).length := by rw [HS0.out, ofB_size]
            rw [← hz0] at t2
            have hlt1 : (bs.length : Int) < (bs.length : Int) + 1 := by omega
            have Hbq := hid hbq
            clear hi hct htk hbq hbq2 hz0
            go_wp2
            go_ret
            refine ⟨ret_bool (by simp), HBall.out.trans (Hbq.out.mono HBall.out.size)⟩
end Go.Proofs.YtebhmalegdpibaaDoor
