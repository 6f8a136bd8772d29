/- LexNames: the walk. -/
import Derived.Test.YtebhmalegdpibaaDoorT
namespace Go.Proofs.YtebhmalegdpibaaDoor
open Go.RowKit Go.Deep
set_option linter.unusedVariables false
set_option linter.unusedSimpArgs false

theorem name_word {i : Nat} {x : ByteArray} (h : wordsS[i]? = some x) (w : World) (hm : MX w) : Calls Tryd.prog 16 #[.string x] w fun e w' => e = .returned (.bool false) ∧ Below w.heap.size w w' := by
  have c := name_any x (by have := word_size h; omega) w hm
  rw [word_name h] at c
  exact c
theorem word_less {i : Nat} {y x : ByteArray} (hy : wordsS[i]? = some y) (hx : wordsS[i + 1]? = some x) : Op.bytesLess y.toList x.toList = true := by
  have hi : i + 1 < 29 := (List.getElem?_eq_some_iff.1 hx).1
  have h := List.all_eq_true.1 rise_all i (List.mem_range.2 (by omega))
  rw [List.getD_eq_getElem?_getD, List.getD_eq_getElem?_getD, wl hy, wl hx] at h
  rw [ByteArray.toList_eq, ByteArray.toList_eq]
  exact h
theorem ok_more {A : Bool} {i : Nat} {x : ByteArray} {bs : Bs} (h : wordsS[i]? = some x) : (A && !((wordsL.take (i + 1)).contains bs)) = ((A && !((wordsL.take i).contains bs)) && !(x.toList == (ofB bs).toList)) := by
  rw [take_more h]
  cases A <;> cases (wordsL.take i).contains bs <;> simp
set_option maxRecDepth 100000 in
set_option maxHeartbeats 1000000 in
theorem names_go (a : Option Addr) (cap : Nat) (bs : Bs) (w : World) (hm : MX w) (hb : BRd w a bs) (hnil : a = none → bs = [] ∧ cap = 0) : Calls Tryd.prog 7 #[.slice a bs.length cap] w fun e w' => e = .returned (.bool true) ∧ Below w.heap.size w w' := by
  have HM := hid hm
  have ck := known_any w hm
  have HB := hid hb
  clear hm hb
  by_cases h1 : 40 < bs.length
  · have h1' : (40 : Int) < (bs.length : Int) := by omega
    go_enter Tryd.func7, Tryd.ntmps7
    go_wp2_with (go_at_call 9; refine ck.mono ?_; rintro e w1 ⟨rfl, hb1⟩)
    go_ret
    exact ⟨rfl, hb1⟩
  · have h1' : ¬ (40 : Int) < (bs.length : Int) := by omega
    rcases Nat.lt_or_ge bs.length 1 with h0 | h0
    all_goals
      have h0' : (bs.length : Int) < 1 ∨ 1 ≤ (bs.length : Int) := by omega
      first | (have h0'' : ¬ 1 ≤ (bs.length : Int) := by omega) | (have h0'' : 1 ≤ (bs.length : Int) := by omega)
      clear h0 h0'
      go_enter Tryd.func7, Tryd.ntmps7
      go_wp2_with (go_at_call 9; refine ck.mono ?_; rintro e w1 ⟨rfl, hb1⟩; have hcv := (HB.out.below (Nat.le_refl _) hb1).conv cap)
      have HB1 := hid hb1
      have HBw := hid (HB.out.below (Nat.le_refl _) hb1)
      clear hcv
      go_loopg [4, 5] bs.length (fun g ok ii wr => ∃ i : Nat, i + g = bs.length ∧ ok = .bool (okB bs && vF bs i) ∧ ii = .int .i64 (i : Int) ∧ wr = w1)
      case atStart => exact ⟨0, by omega, val_bool (by simp [okB, vF]; try omega), rfl, rfl⟩
      case round =>
        obtain ⟨i, hi, rfl, rfl, rfl⟩ := hrel
        cases gk with
        | succ g =>
          have hlt : (i : Int) < (bs.length : Int) := by omega
          have hlt0 : i < bs.length := by omega
          obtain ⟨c, hc⟩ : ∃ c, bs[i]? = some c := ⟨bs[i], List.getElem?_eq_getElem hlt0⟩
          obtain ⟨b, off, ea, hcell⟩ := HBw.out i c hc
          subst ea
          have Hi := hid hi
          have Hc := hid hc
          have hcl := c.toNat_lt
          clear hi hc hlt0
          cases hx : (okB bs && vF bs i)
          · have HX := hid hx
            clear hx
            go_wp2
            all_goals
              go_roundg g
              case measure => omega
              case rel => exact ⟨i + 1, by have := Hi.out; omega, by rw [okv0 HX.out], by go_num, rfl⟩
          · have HX := hid hx
            clear hx
            go_wp2
            all_goals
              go_roundg g
              case measure => omega
              case rel => exact ⟨i + 1, by have := Hi.out; omega, val_bool (by rw [okv HX.out Hc.out]; simp; try omega), by go_num, rfl⟩
        | zero =>
          have hin : i = bs.length := by omega
          subst hin
          clear hi
          go_wp2_with (go_at_call 14; refine (words_any _).mono ?_; rintro e w2 ⟨rfl, rfl⟩)
          have hWb : (wr.alloc (.cells wordsV 9)).heap[wr.heap.size]? = some (.cells wordsV 9 (0, 0)) := heap_alloc_new wr _
          have hbW : Below w.heap.size w (wr.alloc (.cells wordsV 9)) := HB1.out.alloc HB1.out.size _
          have hWs : (wr.alloc (.cells wordsV 9)).heap.size = wr.heap.size + 1 := by simp
          obtain ⟨WB, hWBe⟩ : ∃ x, x = wr.heap.size := ⟨_, rfl⟩
          rw [← hWBe] at hWb hWs ⊢
          obtain ⟨W, hWe⟩ : ∃ W, W = wr.alloc (.cells wordsV 9) := ⟨_, rfl⟩
          rw [← hWe] at hWb hbW hWs ⊢
          have HWb := hid hWb
          have HbW := hid hbW
          have HWs := hid hWs
          clear hWe hWBe hWb hbW hWs
          obtain ⟨A, hA⟩ : ∃ A, A = (okB bs && vF bs bs.length) := ⟨_, rfl⟩
          rw [← hA]
          have HA := hid hA
          clear hA
          go_loopg [4, 9] 29 (fun g ok ii wr => ∃ i : Nat, i + g = 29 ∧ ok = .bool (A && !((wordsL.take i).contains bs)) ∧ ii = .int .i64 (i : Int) ∧ Below W.heap.size W wr)
          case atStart => exact ⟨0, by omega, val_bool (by simp), rfl, Below.refl _ _⟩
          case round =>
            obtain ⟨i, hi, rfl, rfl, hbr⟩ := hrel
            have hblk : wr.heap[WB]? = some (.cells wordsV 9 (0, 0)) := (hbr.block WB (by have := HWs.out; omega)).trans HWb.out
            cases gk with
            | succ g =>
              have hlt : (i : Int) < 29 := by omega
              have hlt0 : i < 29 := by omega
              obtain ⟨x, hx⟩ : ∃ x, wordsS[i]? = some x := ⟨wordsS[i]'(show i < 29 from hlt0), List.getElem?_eq_getElem (show i < 29 from hlt0)⟩
              have g1 : wr.cell? ⟨WB, i, none⟩ = some (.string x) := by
                rw [cellOf hblk i]; simp [wordsV, hx]
              have hmr : MX wr := (HM.out.below HM.out.lt HbW.out).below (MX.lt (HM.out.below HM.out.lt HbW.out)) hbr
              have cN := hid (fun (w : World) (h : MX w) => name_word hx w h)
              have HMR := hid hmr
              have HBR := hid hbr
              have Hx := hid hx
              have Hblk := hid hblk
              have Hi := hid hi
              have hWBlt : WB < wr.heap.size := (Array.getElem?_eq_some_iff.1 hblk).1
              have hmore := ok_more (A := A) (bs := bs) hx
              have Hm := hid hmore
              clear hmr hbr hx hi hmore
              by_cases hi0 : i = 0
              · subst hi0
                clear hblk
                cases hok : (A && !((wordsL.take 0).contains bs))
                all_goals
                  have Hok := hid hok
                  clear hok
                  rw [show ((0 : Nat) : Int) = 0 from rfl]
                  go_wp2
                  refine wp_region_noPanic ?_
                  refine wp_region_held_drew (S := fun w2 : World => w2.cell? ⟨WB, 0, none⟩ = some (.string x)) (by kernel_rfl) (by exact g1) (fun hHeld => ?_)
                  refine wpAnyH_take (i := 0) (oi := { dst := some 85, op := .move (.tmp 9), type := 3, pos := "family.go:47", after := #[], guard := none }) (v := .int .i64 0) rfl (by kernel_rfl) (by kernel_rfl) (by kernel_rfl) (fun _ _ _ h => h) (Or.inl ⟨by rfl, ?_⟩) (by assumption) ?_
                  · intro w hSw; (try dsimp only at hSw); go_simp
                  try simp only [Act.put, List.setIfInBounds_toArray, List.set_cons_zero, List.set_cons_succ]
                  refine wpAnyH_take (i := 1) (oi := { dst := some 86, op := .binOp .gtr 3 (.tmp 85) (.const (.int .i64 0)) 3, type := 4, pos := "family.go:47", after := #[{ on := 0, ground := .data }], guard := none }) (v := .bool false) rfl (by kernel_rfl) (by kernel_rfl) (by kernel_rfl) (fun _ _ _ h => h) (Or.inl ⟨by rfl, ?_⟩) (by assumption) ?_
                  · intro w hSw; (try dsimp only at hSw); go_simp
                  try simp only [Act.put, List.setIfInBounds_toArray, List.set_cons_zero, List.set_cons_succ]
                  refine wpAnyH_take (i := 2) (oi := { dst := some 87, op := .move (.tmp 86), type := 4, pos := "family.go:47", after := #[{ on := 1, ground := .data }], guard := none }) (v := .bool false) rfl (by kernel_rfl) (by kernel_rfl) (by kernel_rfl) (fun _ _ _ h => h) (Or.inl ⟨by rfl, ?_⟩) (by assumption) ?_
                  · intro w hSw; (try dsimp only at hSw); go_simp
                  try simp only [Act.put, List.setIfInBounds_toArray, List.set_cons_zero, List.set_cons_succ]
                  refine wpAnyH_take (i := 3) (oi := { dst := some 88, op := .move (.tmp 8), type := 31, pos := "family.go:47", after := #[{ on := 2, ground := .guard }], guard := some (2, true) }) (v := undef) rfl (by kernel_rfl) (by kernel_rfl) (by kernel_rfl) (fun _ _ _ h => h) (Or.inr ⟨by rfl, by rfl⟩) (by assumption) ?_
                  try simp only [Act.put, List.setIfInBounds_toArray, List.set_cons_zero, List.set_cons_succ]
                  refine wpAnyH_take (i := 4) (oi := { dst := some 89, op := .move (.tmp 9), type := 3, pos := "family.go:47", after := #[{ on := 2, ground := .guard }], guard := some (2, true) }) (v := undef) rfl (by kernel_rfl) (by kernel_rfl) (by kernel_rfl) (fun _ _ _ h => h) (Or.inr ⟨by rfl, by rfl⟩) (by assumption) ?_
                  try simp only [Act.put, List.setIfInBounds_toArray, List.set_cons_zero, List.set_cons_succ]
                  refine wpAnyH_take (i := 5) (oi := { dst := some 90, op := .binOp .sub 3 (.tmp 89) (.const (.int .i64 1)) 3, type := 3, pos := "family.go:47", after := #[{ on := 4, ground := .data }, { on := 2, ground := .guard }], guard := some (2, true) }) (v := undef) rfl (by kernel_rfl) (by kernel_rfl) (by kernel_rfl) (fun _ _ _ h => h) (Or.inr ⟨by rfl, by rfl⟩) (by assumption) ?_
                  try simp only [Act.put, List.setIfInBounds_toArray, List.set_cons_zero, List.set_cons_succ]
                  refine wpAnyH_take (i := 6) (oi := { dst := some 91, op := .indexAddr 31 (.tmp 88) (.tmp 90), type := 0, pos := "family.go:47", after := #[{ on := 3, ground := .data }, { on := 5, ground := .data }, { on := 2, ground := .guard }], guard := some (2, true) }) (v := undef) rfl (by kernel_rfl) (by kernel_rfl) (by kernel_rfl) (fun _ _ _ h => h) (Or.inr ⟨by rfl, by rfl⟩) (by assumption) ?_
                  try simp only [Act.put, List.setIfInBounds_toArray, List.set_cons_zero, List.set_cons_succ]
                  refine wpAnyH_take (i := 7) (oi := { dst := some 92, op := .load 9 (.tmp 91), type := 9, pos := "family.go:47", after := #[{ on := 6, ground := .data }, { on := 2, ground := .guard }], guard := some (2, true) }) (v := undef) rfl (by kernel_rfl) (by kernel_rfl) (by kernel_rfl) (fun _ _ _ h => h) (Or.inr ⟨by rfl, by rfl⟩) (by assumption) ?_
                  try simp only [Act.put, List.setIfInBounds_toArray, List.set_cons_zero, List.set_cons_succ]
                  refine wpAnyH_take (i := 8) (oi := { dst := some 93, op := .move (.tmp 8), type := 31, pos := "family.go:47", after := #[{ on := 2, ground := .guard }], guard := some (2, true) }) (v := undef) rfl (by kernel_rfl) (by kernel_rfl) (by kernel_rfl) (fun _ _ _ h => h) (Or.inr ⟨by rfl, by rfl⟩) (by assumption) ?_
                  try simp only [Act.put, List.setIfInBounds_toArray, List.set_cons_zero, List.set_cons_succ]
                  refine wpAnyH_take (i := 9) (oi := { dst := some 94, op := .move (.tmp 9), type := 3, pos := "family.go:47", after := #[{ on := 2, ground := .guard }], guard := some (2, true) }) (v := undef) rfl (by kernel_rfl) (by kernel_rfl) (by kernel_rfl) (fun _ _ _ h => h) (Or.inr ⟨by rfl, by rfl⟩) (by assumption) ?_
                  try simp only [Act.put, List.setIfInBounds_toArray, List.set_cons_zero, List.set_cons_succ]
                  refine wpAnyH_take (i := 10) (oi := { dst := some 95, op := .indexAddr 31 (.tmp 93) (.tmp 94), type := 0, pos := "family.go:47", after := #[{ on := 8, ground := .data }, { on := 9, ground := .data }, { on := 2, ground := .guard }], guard := some (2, true) }) (v := undef) rfl (by kernel_rfl) (by kernel_rfl) (by kernel_rfl) (fun _ _ _ h => h) (Or.inr ⟨by rfl, by rfl⟩) (by assumption) ?_
                  try simp only [Act.put, List.setIfInBounds_toArray, List.set_cons_zero, List.set_cons_succ]
                  refine wpAnyH_take (i := 11) (oi := { dst := some 96, op := .load 9 (.tmp 95), type := 9, pos := "family.go:47", after := #[{ on := 10, ground := .data }, { on := 2, ground := .guard }], guard := some (2, true) }) (v := undef) rfl (by kernel_rfl) (by kernel_rfl) (by kernel_rfl) (fun _ _ _ h => h) (Or.inr ⟨by rfl, by rfl⟩) (by assumption) ?_
                  try simp only [Act.put, List.setIfInBounds_toArray, List.set_cons_zero, List.set_cons_succ]
                  refine wpAnyH_take (i := 12) (oi := { dst := some 97, op := .binOp .geq 9 (.tmp 92) (.tmp 96) 9, type := 4, pos := "family.go:47", after := #[{ on := 7, ground := .data }, { on := 11, ground := .data }, { on := 2, ground := .guard }], guard := some (2, true) }) (v := undef) rfl (by kernel_rfl) (by kernel_rfl) (by kernel_rfl) (fun _ _ _ h => h) (Or.inr ⟨by rfl, by rfl⟩) (by assumption) ?_
                  try simp only [Act.put, List.setIfInBounds_toArray, List.set_cons_zero, List.set_cons_succ]
                  refine wpAnyH_take (i := 13) (oi := { dst := some 98, op := .pick (.tmp 87) (.tmp 97) (.const (.bool false)), type := 4, pos := "family.go:47", after := #[{ on := 2, ground := .data }, { on := 12, ground := .data }], guard := none }) (v := .bool false) rfl (by kernel_rfl) (by kernel_rfl) (by kernel_rfl) (fun _ _ _ h => h) (Or.inl ⟨by rfl, ?_⟩) (by assumption) ?_
                  · intro w hSw; (try dsimp only at hSw); go_simp
                  try simp only [Act.put, List.setIfInBounds_toArray, List.set_cons_zero, List.set_cons_succ]
                  refine wpAnyH_take (i := 14) (oi := { dst := some 99, op := .move (.tmp 98), type := 4, pos := "family.go:47", after := #[{ on := 13, ground := .data }, { on := 2, ground := .chain }], guard := none }) (v := .bool false) rfl (by kernel_rfl) (by kernel_rfl) (by kernel_rfl) (fun _ _ _ h => h) (Or.inl ⟨by rfl, ?_⟩) (by assumption) ?_
                  · intro w hSw; (try dsimp only at hSw); go_simp
                  try simp only [Act.put, List.setIfInBounds_toArray, List.set_cons_zero, List.set_cons_succ]
                  refine wpAnyH_take (i := 15) (oi := { dst := some 100, op := .move (.tmp 8), type := 31, pos := "family.go:47", after := #[{ on := 14, ground := .guard }], guard := some (14, false) }) (v := .slice (some ⟨WB, 0, none⟩) 29 29) rfl (by kernel_rfl) (by kernel_rfl) (by kernel_rfl) (fun _ _ _ h => h) (Or.inl ⟨by rfl, ?_⟩) (by assumption) ?_
                  · intro w hSw; (try dsimp only at hSw); go_simp
                  try simp only [Act.put, List.setIfInBounds_toArray, List.set_cons_zero, List.set_cons_succ]
                  refine wpAnyH_take (i := 16) (oi := { dst := some 101, op := .move (.tmp 9), type := 3, pos := "family.go:47", after := #[{ on := 14, ground := .guard }], guard := some (14, false) }) (v := .int .i64 0) rfl (by kernel_rfl) (by kernel_rfl) (by kernel_rfl) (fun _ _ _ h => h) (Or.inl ⟨by rfl, ?_⟩) (by assumption) ?_
                  · intro w hSw; (try dsimp only at hSw); go_simp
                  try simp only [Act.put, List.setIfInBounds_toArray, List.set_cons_zero, List.set_cons_succ]
                  refine wpAnyH_take (i := 17) (oi := { dst := some 102, op := .indexAddr 31 (.tmp 100) (.tmp 101), type := 0, pos := "family.go:47", after := #[{ on := 15, ground := .data }, { on := 16, ground := .data }, { on := 14, ground := .guard }], guard := some (14, false) }) (v := .pointer (some ⟨WB, 0, none⟩)) rfl (by kernel_rfl) (by kernel_rfl) (by kernel_rfl) (fun _ _ _ h => h) (Or.inl ⟨by rfl, ?_⟩) (by assumption) ?_
                  · intro w hSw; (try dsimp only at hSw); go_simp
                  try simp only [Act.put, List.setIfInBounds_toArray, List.set_cons_zero, List.set_cons_succ]
                  refine wpAnyH_take (i := 18) (oi := { dst := some 103, op := .load 9 (.tmp 102), type := 9, pos := "family.go:47", after := #[{ on := 17, ground := .data }, { on := 14, ground := .guard }], guard := some (14, false) }) (v := .string x) rfl (by kernel_rfl) (by kernel_rfl) (by kernel_rfl) (fun _ _ _ h => h) (Or.inl ⟨by rfl, ?_⟩) (by assumption) ?_
                  · intro w hSw; (try dsimp only at hSw); go_simp
                  try simp only [Act.put, List.setIfInBounds_toArray, List.set_cons_zero, List.set_cons_succ]
                  refine wpAnyH_ready (rs := [19]) (by kernel_rfl) (by simp) ?_
                  refine AllReadyH.cons (o := { dst := some 104, op := .call { callee := .value (.func 16), args := #[.tmp 103], argTypes := #[9] }, type := 4, pos := "family.go:47", after := #[{ on := 18, ground := .data }, { on := 14, ground := .chain }, { on := 14, ground := .guard }], guard := some (14, false) }) rfl (fun K hK => ?_) AllReadyH.nil
                  go_wp2_with (go_at_call 16; refine (cN.out _ (HMR.out.below HMR.out.lt ((Below.refl _ _).drew))).mono ?_; rintro e w5 ⟨rfl, hb5⟩)
                  refine hK.out _ _ ((World.cell?_of_block (hb5.block WB hWBlt)).trans g1) (fun hHeld2 => ?_)
                  clear hK K
                  try simp only [Act.put, List.setIfInBounds_toArray, List.set_cons_zero, List.set_cons_succ]
                  refine wpAnyH_take (i := 20) (oi := { dst := some 105, op := .pick (.tmp 99) (.const (.bool true)) (.tmp 104), type := 4, pos := "family.go:47", after := #[{ on := 14, ground := .data }, { on := 19, ground := .data }], guard := none }) (v := .bool false) rfl (by kernel_rfl) (by kernel_rfl) (by kernel_rfl) (fun _ _ _ h => h) (Or.inl ⟨by rfl, ?_⟩) (by assumption) ?_
                  · intro w hSw; (try dsimp only at hSw); go_simp
                  try simp only [Act.put, List.setIfInBounds_toArray, List.set_cons_zero, List.set_cons_succ]
                  refine wpAnyH_done (by kernel_rfl) ?_ _
                  refine NoPanic.normal ?_
                  go_wp2
                  go_roundg g
                  case measure => omega
                  case rel => exact ⟨1, by have := Hi.out; omega, by rw [Hm.out, Hok.out]; first | rfl | simp, by go_num, (HBR.out.trans ((((Below.refl _ wr).drew).trans hb5).mono HBR.out.size))⟩
              · obtain ⟨k, hk⟩ : ∃ k, i = k + 1 := ⟨i - 1, by omega⟩
                obtain ⟨y, hy⟩ : ∃ y, wordsS[k]? = some y := ⟨wordsS[k]'(show k < 29 by omega), List.getElem?_eq_getElem (show k < 29 by omega)⟩
                have g2 : wr.cell? ⟨WB, k, none⟩ = some (.string y) := by
                  rw [cellOf hblk k]; simp [wordsV, hy]
                have hw2 : IntKind.i64.wrap ((i : Int) - 1) = (k : Int) := by
                  rw [show ((i : Int) - 1) = (k : Int) by omega]
                  exact wrap_small _ (by omega) (by omega)
                have hge := word_less hy (by rw [← hk]; exact Hx.out)
                have hk29 : (k : Int) < 29 := by omega
                have hpos : (0 : Int) < (i : Int) := by omega
                have hpos2 : 0 < i := by omega
                have hpos3 : decide (0 < (i : Int)) = true := by simp; omega
                clear hblk hy hk hi0
                cases hok : (A && !((wordsL.take i).contains bs))
                all_goals
                  have Hok := hid hok
                  clear hok
                  go_wp2
                  go_region_held3 (fun w2 => w2.cell? ⟨WB, k, none⟩ = some (.string y) ∧ w2.cell? ⟨WB, i, none⟩ = some (.string x)) (first | exact g5 | go_keep) ((first
                    | (go_at_call 16; (refine (cN.out _ (HMR.out.below HMR.out.lt ((Below.refl _ _).drew))).mono ?_; rintro e w5 ⟨rfl, hb5⟩; have g5 : w5.cell? ⟨WB, k, none⟩ = some (.string y) ∧ w5.cell? ⟨WB, i, none⟩ = some (.string x) := ⟨(World.cell?_of_block (hb5.block WB hWBlt)).trans g2, (World.cell?_of_block (hb5.block WB hWBlt)).trans g1⟩))))
                  go_wp2
                  go_roundg g
                  case measure => omega
                  case rel => exact ⟨i + 1, by have := Hi.out; omega, by rw [Hm.out, Hok.out]; first | rfl | simp, by go_num, (HBR.out.trans ((((Below.refl _ wr).drew).trans hb5).mono HBR.out.size))⟩
            | zero =>
              have hi29 : i = 29 := by omega
              subst hi29
              have hmr : MX wr := (HM.out.below HM.out.lt HbW.out).below (MX.lt (HM.out.below HM.out.lt HbW.out)) hbr
              obtain ⟨V, hV⟩ : ∃ V, V = (A && !((wordsL.take 29).contains bs)) := ⟨_, rfl⟩
              have c := name_any (ofB bs) (by rw [ofB_size]; omega) wr hmr
              have hn : nameB (ofB bs).data.toList = V := by
                rw [ofB_list, nameB_eq, nm_eq, hV, HA.out]
                rfl
              rw [hn] at c
              rw [← hV]
              have HBR := hid hbr
              clear hn hV hmr hbr hi hblk
              go_wp2_with (go_at_call 16; refine c.mono ?_; rintro e w6 ⟨rfl, hb6⟩)
              go_ret
              refine ⟨ret_bool (by simp), ?_⟩
              exact (HbW.out.trans (HBR.out.mono HbW.out.size)).trans (hb6.mono (Nat.le_trans HbW.out.size HBR.out.size))
end Go.Proofs.YtebhmalegdpibaaDoor
