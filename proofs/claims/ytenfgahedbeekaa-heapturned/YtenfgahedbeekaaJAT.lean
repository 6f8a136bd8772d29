/-
  HeapTurned returns true for every program, state, place, byte, cut and row of bytes, and its arguments read behind the call as they read before.
  No condition.
-/
import Derived.Test.YtenfgahedbeekaaJAS
import Derived.ProofKit
import Derived.OpenShut
import Derived.ChangeOld
import Derived.ChangeSlices
import Derived.ChangeMaps5
import Derived.Below
import Derived.Deep.Slices
namespace Go.Proofs.Ytenfgahedbeekaa
open Go.RowKit Go.Deep Go.Shelf
set_option linter.unusedVariables false
set_option linter.unusedSimpArgs false

def erN (b : Bool) : Int := if b then 0 else 40
theorem NwP.eq {k : Nat} {w : World} {p : Pg} {e : Ending} {w' : World} (h : NwP k w p e w') : Below w.heap.size w w' ∧ ∃ aa an ac, e = .returned (.tuple #[.agg #[.slice aa an ac], .int .i64 (erN (rightB p))]) ∧ StCR k w' aa an (if rightB p then List.replicate p.maps.length [] else []) := by
  obtain ⟨hb, ⟨h1, rfl⟩ | ⟨h1, g, rfl, h2⟩⟩ := h
  · refine ⟨hb, none, 0, 0, by rw [h1]; rfl, ?_⟩
    rw [h1]
    exact ⟨[], ⟨rfl, by omega, fun j x hx => by simp at hx, fun m hm => by cases hm⟩, rfl⟩
  · refine ⟨hb, _, _, _, by rw [h1]; rfl, ?_⟩
    rw [h1]
    exact h2.cr
theorem SnP.eq {k : Nat} {w : World} {p : Pg} {ms : List (Sl × Rw (k + 2))} {e : Ending} {w' : World} (h : SnP k w p ms e w') : Below w.heap.size w w' ∧ ∃ v', e = .returned (.tuple #[v', .int .i64 (erN (stV k p (ms.map (·.2))))]) ∧ Rd w' v' (if stV k p (ms.map (·.2)) then encSt k (ms.map (·.2)) else []) := by
  obtain ⟨hb, v', rfl, hr⟩ := h
  refine ⟨hb, v', rfl, hr.rd ?_⟩
  cases hq : stV k p (ms.map (·.2)) with
  | true => exact encSt_byt hq
  | false => intro x hx; cases hx
end Go.Proofs.Ytenfgahedbeekaa

namespace Go.Proofs.Ytenfgahedbeekaa
open Go.RowKit Go.Deep Go.Shelf
set_option linter.unusedVariables false
set_option linter.unusedSimpArgs false

theorem Row.len {w : World} {B : Nat} {a : Option Addr} {n cap : Nat} {xs : List Nat} (h : Row w B (.slice a n cap) xs) : n = xs.length ∧ xs.length ≤ cap := by
  rcases h.2 with ⟨e, hn⟩ | ⟨g, cap', cur, e, hb, hgg, hc, rest⟩
  · cases e; exact ⟨hn.symm, by omega⟩
  · cases e; exact ⟨rfl, hc⟩
theorem Row.cellAt {w : World} {B : Nat} {a : Option Addr} {n cap : Nat} {xs : List Nat} (h : Row w B (.slice a n cap) xs) {j x : Nat} (hj : xs[j]? = some x) : ∃ g, a = some ⟨g, 0, none⟩ ∧ B ≤ g ∧ w.cell? ⟨g, j, none⟩ = some (.int .u8 (x : Int)) ∧ w.frozen? ⟨g, j, none⟩ = false := by
  have hlt := (List.getElem?_eq_some_iff.1 hj).1
  rcases h.2 with ⟨e, hn⟩ | ⟨g, cap', cur, e, hb, hgg, hc, hm, hs, ht⟩
  · omega
  · cases e
    refine ⟨g, rfl, hb, ?_, freeOf hgg j⟩
    rw [cellOf hgg j]
    have h1 : (cur.toList.take (xs.length * 1))[j]? = (bv xs)[j]? := by rw [ht]
    rw [List.getElem?_take, if_pos (by omega)] at h1
    rw [Array.getElem?_toList] at h1
    rw [h1]
    simp [bv, hj]
theorem Row.set {w : World} {B g n cap : Nat} {xs : List Nat} (h : Row w B (.slice (some ⟨g, 0, none⟩) n cap) xs) (j x : Nat) (hj : j < xs.length) : Row (w.setCell ⟨g, j, none⟩ (.int .u8 (x : Int))) B (.slice (some ⟨g, 0, none⟩) n cap) (xs.set j x) := by
  rcases h.2 with ⟨e, hn⟩ | ⟨g', cap', cur, e, hb, hgg, hc, hm, hs, ht⟩
  · cases e
  · cases e
    refine ⟨by simp [bv], .inr ⟨g, cap, _, by rw [List.length_set], hb, heap_setCell_at hgg j _, by rw [List.length_set]; exact hc, hm, by simpa using hs, ?_⟩⟩
    rw [List.length_set, Array.toList_setIfInBounds, List.take_set, ht]
    simp [bv]
theorem Row.cut {w : World} {B : Nat} {a : Option Addr} {n cap : Nat} {xs : List Nat} (h : Row w B (.slice a n cap) xs) (j : Nat) (hj : j ≤ xs.length) : Row w B (.slice a j cap) (xs.take j) := by
  have hl : (xs.take j).length = j := by rw [List.length_take]; omega
  rcases h.2 with ⟨e, hn⟩ | ⟨g', cap', cur, e, hb, hgg, hc, hm, hs, ht⟩
  · cases e
    have hj0 : j = 0 := by omega
    subst hj0
    exact Row.nil w B
  · cases e
    refine ⟨by rw [bv_length, Nat.mul_one], .inr ⟨g', cap, cur, by rw [hl], hb, hgg, by omega, hm, hs, ?_⟩⟩
    rw [hl]
    have : cur.toList.take (j * 1) = (cur.toList.take (xs.length * 1)).take (j * 1) := by rw [List.take_take]; congr 1; omega
    rw [this, ht]
    simp [bv]
theorem xor_byte (a b : Int) : ∃ y : Nat, y < 256 ∧ bits .xor .u8 a b = (y : Int) := by
  refine ⟨((BitVec.ofInt 8 a ^^^ BitVec.ofInt 8 b).toNat), (BitVec.ofInt 8 a ^^^ BitVec.ofInt 8 b).isLt, ?_⟩
  show IntKind.u8.wrap ((BitVec.ofInt 8 a ^^^ BitVec.ofInt 8 b).toNat : Int) = _
  have := (BitVec.ofInt 8 a ^^^ BitVec.ofInt 8 b).isLt
  rw [IntKind.wrap_u8]
  omega
theorem Byt.set {xs : List Nat} (h : Byt xs) (j x : Nat) (hx : x < 256) : Byt (xs.set j x) := fun y hy => by
  rcases List.mem_or_eq_of_mem_set hy with h1 | h1
  · exact h y h1
  · rw [h1]; exact hx
theorem stR_nil (w : World) : StR 3 w none 0 [] := ⟨rfl, by omega, (fun j x hx => by simp at hx), (fun m hm => by cases hm)⟩
set_option maxRecDepth 100000 in
set_option maxHeartbeats 2000000 in
theorem turned_any (w : World) (g : PH) (p : Pg) (d : PRd w g p) (sa : Option Addr) (sn sc : Nat) (ms : List (Sl × List En)) (hs : StD w sa sn ms) (at' : Int) (by' : Nat) (hby : by' < 256) (cut : Int) (ma' : Option Addr) (mcap : Nat) (mo : List Nat) (hm : Rd w (.slice ma' mo.length mcap) mo) (hml : mo.length ≤ 9223372036854775807) (hmz : ma' = none → mcap = 0) :
    Calls Try.prog 8 #[g.v, .agg #[.slice sa sn sc], .int .i64 at', .int .u8 (by' : Int), .int .i64 cut, .slice ma' mo.length mcap] w fun e w' => e = .returned (.bool true) ∧ Below w.heap.size w w' := by
  have D := hid d
  have HM := hid (fun (w1 : World) (hb : Below w.heap.size w w1) => hm.below (Nat.le_refl _) hb)
  have K25 := hid (fun (w1 : World) (hb : Below w.heap.size w w1) => plainM_any w1 g p (d.below (Nat.le_refl _) hb))
  have KU := hid (fun (rs : List (Sl × Rw 3)) (w1 : World) (hb : Below w.heap.size w w1) (sa' : Option Addr) (sn' sc' : Nat) (h : StR 3 w1 sa' sn' rs) => heapSnap_any 1 w1 g p (d.below (Nat.le_refl _) hb) sa' sn' sc' rs h)
  have KR := hid (fun (w1 : World) (hb : Below w.heap.size w w1) (hmp : p.maps.length ≤ 30) (a : Option Addr) (cap : Nat) (bs : List Nat) (h : Rd w1 (.slice a bs.length cap) bs) (hl : bs.length ≤ 1000000) => restore_any w1 g p (d.below (Nat.le_refl _) hb) hmp a cap bs h hl)
  have Hmn := hid d.m.n1
  have K26s := hid (fun (w1 : World) (hb : Below w.heap.size w w1) => fewS_any w1 sa sn sc ms (hs.below (Nat.le_refl _) hb))
  have HSm := hid (fun (w1 : World) (hb : Below w.heap.size w w1) (h20 : ms.length ≤ 20) (h : ∀ m ∈ ms, EnS w1 m) => small_state (hs.below (Nat.le_refl _) hb) h20 h)
  obtain ⟨ra, rn, rc, ma, mn, mc, fa, fn, fc, ea, en, ec⟩ := g
  simp only [PH.v] at K25 KU KR Hmn ⊢
  clear d hs hm
  have hmI : (mo.length : Int) ≤ 9223372036854775807 := by omega
  obtain ⟨W0, hW0⟩ : ∃ W0, W0 = (w.alloc (.cells #[.slice ra rn rc, .slice ma mn mc, .slice fa fn fc, .slice ea en ec] 50)).alloc (.cells #[.slice sa sn sc] 27) := ⟨_, rfl⟩
  have n1 := heap_alloc_new w (.cells #[.slice ra rn rc, .slice ma mn mc, .slice fa fn fc, .slice ea en ec] 50)
  have n2 := heap_alloc_new (w.alloc (.cells #[.slice ra rn rc, .slice ma mn mc, .slice fa fn fc, .slice ea en ec] 50)) (.cells #[.slice sa sn sc] 27)
  simp only [World.size_alloc] at n2
  have q1 : W0.heap[w.heap.size]? = some (.cells #[.slice ra rn rc, .slice ma mn mc, .slice fa fn fc, .slice ea en ec] 50 (0, 0)) := by rw [hW0]; exact alN n1 _
  have q2 : W0.heap[w.heap.size + 1]? = some (.cells #[.slice sa sn sc] 27 (0, 0)) := by rw [hW0]; exact n2
  have hb0 : Below w.heap.size w W0 := by rw [hW0]; exact boxes2 _ _ _ _ _
  have FX : Hid (∀ w2 : World, Below W0.heap.size W0 w2 → (w2.cell? ⟨w.heap.size, 0, none⟩ = some (.slice ra rn rc) ∧ w2.cell? ⟨w.heap.size, 1, none⟩ = some (.slice ma mn mc) ∧ w2.cell? ⟨w.heap.size, 2, none⟩ = some (.slice fa fn fc) ∧ w2.cell? ⟨w.heap.size, 3, none⟩ = some (.slice ea en ec) ∧ w2.cell? ⟨w.heap.size + 1, 0, none⟩ = some (.slice sa sn sc)) ∧ Below w.heap.size w w2) := hid (fun w2 hb => by
    have b1 := (hb.block _ (Array.getElem?_eq_some_iff.1 q1).1).trans q1
    have b2 := (hb.block _ (Array.getElem?_eq_some_iff.1 q2).1).trans q2
    exact ⟨⟨cellOf b1 0, cellOf b1 1, cellOf b1 2, cellOf b1 3, cellOf b2 0⟩, hb0.trans (hb.mono hb0.size)⟩)
  have TR : Hid (∀ {Z x y : World}, Below Z.heap.size Z x → Below x.heap.size x y → Below Z.heap.size Z y) := hid (fun h1 h2 => h1.trans (h2.mono h1.size))
  clear n1 n2 q1 q2 hb0
  by_cases hmo : 50 < mo.length
  · have hmo' : (50 : Int) < (mo.length : Int) := by omega
    go_enter Try.func8, Try.ntmps8
    go_wp2_with (first
      | (go_at_call 9; rw [← hW0]; (refine (known_any _).mono ?_; rintro e w0 ⟨rfl, hb0⟩; have B0 := hid hb0; obtain ⟨⟨f0, f1, f2, f3, f4⟩, _⟩ := FX.out w0 hb0; clear hb0))
      | (go_at_call 25; (refine (K25.out w0 (FX.out _ B0.out).2).mono ?_; rintro e w1 ⟨b1, rfl, hM1, hb1⟩; have B1 := hid (TR.out B0.out hb1); have HM1 := hid hM1; clear f0 f1 f2 f3 f4 hb1 hM1; obtain ⟨⟨f0, f1, f2, f3, f4⟩, _⟩ := FX.out w1 B1.out))
      | (go_at_call 26; (refine (K26s.out w1 (FX.out _ B1.out).2).mono ?_; rintro e w2 ⟨⟨b2, rfl, hF2⟩, hb2⟩; have B12 := hid hb2; have B2 := hid (TR.out B1.out hb2); have HF2 := hid hF2; clear f0 f1 f2 f3 f4 hb2 hF2; obtain ⟨⟨f0, f1, f2, f3, f4⟩, _⟩ := FX.out w2 B2.out)))
    · go_ret
      exact ⟨rfl, (FX.out _ B2.out).2⟩
    · go_ret
      exact ⟨rfl, (FX.out _ B2.out).2⟩
    · go_ret
      exact ⟨rfl, (FX.out _ B1.out).2⟩
  · have hmo' : ¬ (50 : Int) < (mo.length : Int) := by omega
    go_enter Try.func8, Try.ntmps8
    go_wp2_with (first
      | (go_at_call 9; rw [← hW0]; (refine (known_any _).mono ?_; rintro e w0 ⟨rfl, hb0⟩; have B0 := hid hb0; obtain ⟨⟨f0, f1, f2, f3, f4⟩, _⟩ := FX.out w0 hb0; clear hb0))
      | (go_at_call 25; (refine (K25.out w0 (FX.out _ B0.out).2).mono ?_; rintro e w1 ⟨b1, rfl, hM1, hb1⟩; have B1 := hid (TR.out B0.out hb1); have HM1 := hid hM1; clear f0 f1 f2 f3 f4 hb1 hM1; obtain ⟨⟨f0, f1, f2, f3, f4⟩, _⟩ := FX.out w1 B1.out))
      | (go_at_call 26; (refine (K26s.out w1 (FX.out _ B1.out).2).mono ?_; rintro e w2 ⟨⟨b2, rfl, hF2⟩, hb2⟩; have B12 := hid hb2; have B2 := hid (TR.out B1.out hb2); have HF2 := hid hF2; clear f0 f1 f2 f3 f4 hb2 hF2; obtain ⟨⟨f0, f1, f2, f3, f4⟩, _⟩ := FX.out w2 B2.out)))
    · have hb1t : b1 = true := by first | rfl | assumption | simp_all
      have hb2t : b2 = true := by first | rfl | assumption | simp_all
      have hmp : p.maps.length ≤ 30 := by rw [← Hmn.out]; exact HM1.out hb1t
      obtain ⟨rs, hrs⟩ := HSm.out w1 (FX.out _ B1.out).2 (HF2.out hb2t).1 (HF2.out hb2t).2
      have HS : Hid (∀ w3, Below w2.heap.size w2 w3 → StR 3 w3 sa sn rs) := hid (fun w3 hb => (hrs.below (Nat.le_refl _) B12.out).below (Nat.le_refl _) hb)
      have TW : Hid (∀ w3, Below w2.heap.size w2 w3 → Below w.heap.size w w3) := hid (fun w3 hb => (FX.out _ (TR.out B2.out hb)).2)
      have FY : Hid (∀ w3, Below w2.heap.size w2 w3 → w3.cell? ⟨w.heap.size, 0, none⟩ = some (.slice ra rn rc) ∧ w3.cell? ⟨w.heap.size, 1, none⟩ = some (.slice ma mn mc) ∧ w3.cell? ⟨w.heap.size, 2, none⟩ = some (.slice fa fn fc) ∧ w3.cell? ⟨w.heap.size, 3, none⟩ = some (.slice ea en ec) ∧ w3.cell? ⟨w.heap.size + 1, 0, none⟩ = some (.slice sa sn sc)) := hid (fun w3 hb => (FX.out _ (TR.out B2.out hb)).1)
      have B22 := hid (Below.refl w2.heap.size w2)
      have K31 := hid (KU.out rs w2 (TW.out _ B22.out) sa sn sc (HS.out _ B22.out))
      unfold SnP at K31
      obtain ⟨S, hS⟩ : ∃ S, S = stV 1 p (rs.map (·.2)) := ⟨_, rfl⟩
      rw [← hS] at K31
      have Hmp := hid hmp
      have HSS := hid hS
      clear hrs HF2 K26s HSm K25 hW0 B0 B1 B12 hmp hS HM1 D hb1t hb2t
      cases S with
      | false =>
        simp only [Bool.false_eq_true, ↓reduceIte] at K31
        go_wp2_with (go_at_call 31; (refine (Hid.out K31).mono ?_; rintro e w3 ⟨hb3, vb, rfl, hvb⟩; have B3 := hid hb3; clear hb3))
        go_ret
        exact ⟨rfl, TW.out _ B3.out⟩
      | true =>
        simp only [↓reduceIte] at K31
        obtain ⟨bs, hbs⟩ : ∃ bs, bs = encSt 1 (rs.map (·.2)) := ⟨_, rfl⟩
        rw [← hbs] at K31
        have hbby : Byt bs := by rw [hbs]; exact encSt_byt HSS.out.symm
        have hbl : bs.length ≤ 800000 := by
          have hst := HSS.out.symm
          have h1 := stV_pl hst
          have hR := HS.out w2 B22.out
          have h2 := encSt_le (rs.map (·.2)) (fun r hr => by
            simp only [List.mem_map] at hr
            obtain ⟨m, hm, rfl⟩ := hr
            exact encRw_le (w := w2) (h1 m hm).1 (fun q hq => ⟨(hR.el m hm).1.el q hq, (h1 m hm).2 q hq⟩))
          unfold stV at hst
          simp only [Bool.and_eq_true, decide_eq_true_eq] at hst
          have h3 := right_maps hst.1.1
          have h4 := hst.1.2
          rw [← hbs] at h2
          omega
        have Hbs := hid hbs
        have HBy := hid hbby
        clear hbs hbby
        have hbl2 : bs.length ≤ 1099511627776 := by omega
        have hblI : (bs.length : Int) ≤ 800000 := by omega
        go_upto_region 9 with (first
          | (go_at_call 31; (refine (Hid.out K31).mono ?_; rintro e w3 ⟨hb3, vb, rfl, hvb⟩; have B3 := hid hb3; have Hvb := hid hvb; clear hb3 hvb f0 f1 f2 f3 f4))
          | (at_builtin; refine wpList_appR _ rfl _ _ rfl (.slice none 0 0) vb (by rfl) (by rfl) w3.heap.size [] bs (Row.nil _ _) (Hvb.out.rd HBy.out) Hvb.out.nilOf (Nat.le_refl _) (by simp) hbl2 ?_; intro v4 w4 hr4 hg4; obtain ⟨ca, cn, cc, rfl⟩ := hr4.shape; have Hr4 := hid hr4; have B4 := hid hg4.nil; clear hr4 hg4))
        have hr4 : Row w4 w3.heap.size (.slice ca cn cc) bs := Hr4.out
        have hcn := hr4.len.1
        subst hcn
        have Hr4' := hid hr4
        clear hr4 Hr4
        go_cut [50] (fun v50 wc => v50 = .bool (decide (0 ≤ at') && decide (at' < (bs.length : Int))) ∧ wc = w4)
        case first =>
          by_cases h1 : 0 ≤ at'
          · by_cases h2 : at' < (bs.length : Int)
            · go_wp2
              go_meet
              case rel => exact ⟨by simp [h1, h2], rfl⟩
            · go_wp2
              go_meet
              case rel => exact ⟨by simp [h1, h2], rfl⟩
          · have Hh1 := hid h1
            go_wp2
            go_meet
            case rel => exact ⟨by rw [decide_eq_false (by have := Hh1.out; omega), Bool.false_and], rfl⟩
        case rest =>
        obtain ⟨rfl, rfl⟩ := hcut
        go_upto_if 50 with fail
        go_cut [15] (fun v15 wc => ∃ (ca : Option Addr) (cc : Nat) (cs : List Nat), v15 = .slice ca bs.length cc ∧ Row wc w3.heap.size (.slice ca bs.length cc) cs ∧ Byt cs ∧ cs.length = bs.length ∧ Below w3.heap.size w3 wc)
        case first =>
          by_cases h0 : 0 ≤ at' ∧ at' < (bs.length : Int)
          · obtain ⟨h01, h02⟩ := h0
            obtain ⟨an, rfl⟩ : ∃ an : Nat, at' = (an : Int) := ⟨at'.toNat, by omega⟩
            have hanl : an < bs.length := by omega
            obtain ⟨x, hx⟩ : ∃ x, bs[an]? = some x := ⟨bs[an], by simp [hanl]⟩
            obtain ⟨g9, rfl, hB9, hc9, hf9⟩ := Hr4'.out.cellAt hx
            obtain ⟨y, hy, ey⟩ := xor_byte (x : Int) (by' : Int)
            have HN := hid (Hr4'.out.set an y hanl)
            have HB9 := hid hB9
            clear hx hB9
            have hde : (decide ((0 : Int) ≤ (an : Int)) && decide ((an : Int) < (bs.length : Int))) = true := by simp [hanl]
            go_wp2
            go_meet
            case rel => exact ⟨_, _, bs.set an y, rfl, HN.out, HBy.out.set an y hy, by rw [List.length_set], B4.out.setCell (p := ⟨g9, an, none⟩) HB9.out _⟩
          · by_cases h1 : 0 ≤ at'
            · have h2 : ¬ at' < (bs.length : Int) := fun h => h0 ⟨h1, h⟩
              have hde : (decide ((0 : Int) ≤ at') && decide (at' < (bs.length : Int))) = false := by simp [h1, h2]
              clear h0
              go_wp2
              go_meet
              case rel => exact ⟨_, _, bs, rfl, Hr4'.out, HBy.out, rfl, B4.out⟩
            · have hde : (decide ((0 : Int) ≤ at') && decide (at' < (bs.length : Int))) = false := by simp [h1]
              clear h0
              go_wp2
              go_meet
              case rel => exact ⟨_, _, bs, rfl, Hr4'.out, HBy.out, rfl, B4.out⟩
        case rest =>
          obtain ⟨ca2, cc2, cs2, rfl, hr5, hby5, hl5, hb5⟩ := hcut
          have Hr5 := hid hr5
          have Hby5 := hid hby5
          have Hl5 := hid hl5
          have B5 := hid hb5
          clear hr5 hby5 hl5 hb5
          obtain ⟨w5, hw5⟩ : ∃ w5, w5 = wc := ⟨_, rfl⟩
          subst hw5
          go_upto_region 11 with fail
          go_cut [67] (fun v67 wd => v67 = .bool (decide (0 ≤ cut) && decide (cut < (bs.length : Int))) ∧ wd = w5)
          case first =>
            by_cases h1 : 0 ≤ cut
            · by_cases h2 : cut < (bs.length : Int)
              · go_wp2
                go_meet
                case rel => exact ⟨by simp [h1, h2], rfl⟩
              · go_wp2
                go_meet
                case rel => exact ⟨by simp [h1, h2], rfl⟩
            · have Hh1 := hid h1
              go_wp2
              go_meet
              case rel => exact ⟨by rw [decide_eq_false (by have := Hh1.out; omega), Bool.false_and], rfl⟩
          case rest =>
          obtain ⟨rfl, rfl⟩ := hcut
          go_upto_if 67 with fail
          go_cut [15] (fun v15 wd => ∃ (ca : Option Addr) (cn cc : Nat) (cs : List Nat), v15 = .slice ca cn cc ∧ Row wd w3.heap.size (.slice ca cn cc) cs ∧ Byt cs ∧ cs.length ≤ bs.length ∧ Below w3.heap.size w3 wd)
          case first =>
            by_cases h0 : 0 ≤ cut ∧ cut < (bs.length : Int)
            · obtain ⟨h01, h02⟩ := h0
              obtain ⟨kn, rfl⟩ : ∃ kn : Nat, cut = (kn : Int) := ⟨cut.toNat, by omega⟩
              have hkl : kn < bs.length := by omega
              have hde : (decide ((0 : Int) ≤ (kn : Int)) && decide ((kn : Int) < (bs.length : Int))) = true := by simp [hkl]
              have hcc : bs.length ≤ cc2 := by have := Hr5.out.len.2; rw [Hl5.out] at this; exact this
              have hccI : (bs.length : Int) ≤ (cc2 : Int) := by omega
              have HC := hid (Hr5.out.cut kn (by rw [Hl5.out]; omega))
              go_wp2
              go_meet
              case rel => exact ⟨_, _, _, cs2.take kn, rfl, HC.out, fun x hx => Hby5.out x (List.mem_of_mem_take hx), by rw [List.length_take, Hl5.out]; omega, B5.out⟩
            · by_cases h1 : 0 ≤ cut
              · have h2 : ¬ cut < (bs.length : Int) := fun h => h0 ⟨h1, h⟩
                have hde : (decide ((0 : Int) ≤ cut) && decide (cut < (bs.length : Int))) = false := by simp [h1, h2]
                clear h0
                go_wp2
                go_meet
                case rel => exact ⟨_, _, _, cs2, rfl, Hr5.out, Hby5.out, by rw [Hl5.out]; exact Nat.le_refl _, B5.out⟩
              · have hde : (decide ((0 : Int) ≤ cut) && decide (cut < (bs.length : Int))) = false := by simp [h1]
                clear h0
                go_wp2
                go_meet
                case rel => exact ⟨_, _, _, cs2, rfl, Hr5.out, Hby5.out, by rw [Hl5.out]; exact Nat.le_refl _, B5.out⟩
          case rest =>
          obtain ⟨ca3, cn3, cc3, cs3, rfl, hr6, hby6, hl6, hb6⟩ := hcut
          have hmoZ : (Value.slice ma' mo.length mcap).ownBlock = none → Value.slice ma' mo.length mcap = .slice none 0 0 := by
            intro e
            cases ma' with
            | some ad => cases e
            | none =>
              have hz := hmz rfl
              obtain ⟨_, _, e1, hc1, _⟩ := HM.out w (Below.refl _ _)
              cases e1
              rw [hz] at hc1 ⊢
              rw [Nat.le_zero.1 hc1]
          have HmoZ := hid hmoZ
          obtain ⟨w6, hw6⟩ : ∃ w6, w6 = wc := ⟨_, rfl⟩
          rw [← hw6]
          rw [← hw6] at hr6 hb6
          clear hw6
          have B26 := hid (TR.out B3.out hb6)
          have HRm := hid (HM.out w6 (TW.out _ B26.out))
          have Hr6 := hid hr6
          have Hby6 := hid hby6
          have hs36 := hb6.size
          have Hb6 := hid hb6
          have hl6' : cs3.length ≤ 1099511627776 := by omega
          have hmoL : mo.length ≤ 1099511627776 := by omega
          have hmby : Byt mo := by obtain ⟨_, _, _, _, hb, _⟩ := HRm.out; exact hb
          have HDby := hid (Byt.append hby6 hmby)
          have hDl : (cs3 ++ mo).length ≤ 1000000 := by rw [List.length_append]; omega
          clear hr6 hby6 hb6 hmoZ hmby
          go_upto_region 14 with (at_builtin; (refine wpList_appR _ rfl _ _ rfl (.slice ca3 cn3 cc3) (.slice ma' mo.length mcap) (by rfl) (by rfl) w3.heap.size cs3 mo Hr6.out HRm.out HmoZ.out hs36 hl6' hmoL ?_; intro v7 w7 hr7 hg7; obtain ⟨da, dn, dc, rfl⟩ := hr7.shape; have Hr7 := hid hr7; have B67 := hid (hg7.below Hr6.out hs36); clear hr7 hg7))
          obtain ⟨ds, hds⟩ : ∃ ds, ds = cs3 ++ mo := ⟨_, rfl⟩
          rw [← hds] at Hr7 HDby hDl
          have hdn := Hr7.out.len.1
          subst hdn
          have B27 := hid (TR.out B3.out (Hb6.out.trans B67.out))
          have KRes := hid (KR.out w7 (TW.out _ B27.out) Hmp.out da dc ds (Hr7.out.rd HDby.out) hDl)
          have HRc := hid (fun (w9 : World) (hb : Below w7.heap.size w7 w9) => (Hr7.out.rd HDby.out).below (Nat.le_refl _) hb)
          have HRb := hid (fun (w9 : World) (hb : Below w7.heap.size w7 w9) => (Hvb.out.rd HBy.out).below (Nat.le_refl _) ((Hb6.out.trans B67.out).trans (hb.mono (Hb6.out.trans B67.out).size)))
          have FZ := hid (fun (w9 : World) (hb : Below w7.heap.size w7 w9) => FY.out w9 (TR.out B27.out hb))
          have TZ := hid (fun (w9 : World) (hb : Below w7.heap.size w7 w9) => TW.out w9 (TR.out B27.out hb))
          have HSZ := hid (fun (w9 : World) (hb : Below w7.heap.size w7 w9) => HS.out w9 (TR.out B27.out hb))
          obtain ⟨X0, hX0, hct0⟩ := state_fwd (HSZ.out w7 (Below.refl _ _)) HSS.out.symm
          rw [← Hbs.out] at hX0
          obtain ⟨f0, f1, f2, f3, f4⟩ := FZ.out w7 (Below.refl _ _)
          have HX0 := hid hX0
          have Hct0 := hid hct0
          clear hds hX0 hct0 hDl
          unfold ReP at KRes
          cases hres : resD p ds with
          | none =>
            rw [hres] at KRes
            simp only at KRes
            have hne : decide (bs = ds) = false := by
              rw [decide_eq_false]
              intro e
              have := HX0.out
              rw [e, hres] at this
              cases this
            have Hne := hid hne
            clear hne hres
            go_wp2_with (first
              | (go_at_call 34; (refine (Hid.out KRes).mono ?_; rintro e w8 ⟨hb8, rfl⟩; have B8 := hid hb8; have B8a := hid (fun o => TR.out hb8 ((Below.refl w8.heap.size w8).alloc (Nat.le_refl _) o)); have z8 := cellOf (heap_alloc_new w8 (.cells #[.slice none 0 0] 27)) 0; simp only [List.getElem?_toArray, List.getElem?_cons_zero] at z8; clear hb8 f0 f1 f2 f3 f4))
              | (go_at_call 14; (refine (refStSame_any 3 _ none 0 0 [] none 0 0 [] (stR_nil _) (stR_nil _)).mono ?_; rintro e w9 ⟨rfl, hb9⟩; have B9 := hid (TR.out (B8a.out _) hb9); have Rb := hid (HRb.out w9 B9.out); have Rc := hid (HRc.out w9 B9.out); clear hb9))
              | (go_at_call 33; (refine (bytes_any w9 vb _ bs ds Rb.out Rc.out).mono ?_; rw [Hne.out]; rintro e w10 ⟨rfl, rfl⟩)))
            go_ret
            exact ⟨rfl, TZ.out _ B9.out⟩
          | some X =>
            rw [hres] at KRes
            simp only at KRes
            obtain ⟨hbk1, hbk2, hbk3⟩ := resD_back HDby.out hres
            have HK1 := hid hbk1
            have HK2 := hid hbk2
            have HK3 := hid hbk3
            have Hres := hid hres
            clear hbk1 hbk2 hbk3 hres
            go_upto_if 81 with (go_at_call 34; (refine (Hid.out KRes).mono ?_; rintro e w8 ⟨hb8, ta, tn, tc, ns, rfl, hst, htc, hsm⟩; have B8 := hid hb8; have HST := hid hst; have HSM := hid hsm; clear hb8 f0 f1 f2 f3 f4 hst htc hsm))
            obtain ⟨W8, hW8⟩ : ∃ W8, W8 = w8.alloc (.cells #[.slice ta tn tc] 27) := ⟨_, rfl⟩
            rw [← hW8]
            have m8 : W8.heap[w8.heap.size]? = some (.cells #[.slice ta tn tc] 27 (0, 0)) := by rw [hW8]; exact heap_alloc_new w8 _
            have b88 : Below w8.heap.size w8 W8 := by rw [hW8]; exact (Below.refl _ w8).alloc (Nat.le_refl _) _
            have B7W := hid (TR.out B8.out b88)
            have hstr : StR 3 W8 ta tn ns := HST.out.str.below (Nat.le_refl _) b88
            have HNS := hid (fun (w9 : World) (hb : Below W8.heap.size W8 w9) => hstr.below (Nat.le_refl _) hb)
            have ZT := hid (fun (w9 : World) (hb : Below W8.heap.size W8 w9) => cellOf ((hb.block _ (Array.getElem?_eq_some_iff.1 m8).1).trans m8) 0)
            simp only [List.getElem?_toArray, List.getElem?_cons_zero] at ZT
            have hwf := (HNS.out W8 (Below.refl _ _)).wf
            have hct1 : ctS (ns.map (·.2)) = ctS (rowsT X) := ct_nrm HSM.out
            have hsv : stV 1 p (ns.map (·.2)) = true := by rw [stV_ct hwf HK3.out hct1]; exact HK2.out
            have hen : encSt 1 (ns.map (·.2)) = ds := by rw [enc_ct hwf HK3.out hct1]; exact HK1.out
            have K31b := hid (KU.out ns W8 (TZ.out _ B7W.out) ta tn tc (HNS.out _ (Below.refl _ _)))
            unfold SnP at K31b
            rw [hsv, hen] at K31b
            simp only [↓reduceIte] at K31b
            have hJ : stB 3 rs ns = decide (bs = ds) := by
              rw [Bool.eq_iff_iff, stB_ct, decide_eq_true_iff]
              constructor
              · intro e
                rw [Hbs.out, ← hen]
                exact enc_ct (HSZ.out w7 (Below.refl _ _)).wf hwf e
              · intro e
                have h1 := HX0.out
                rw [e, Hres.out] at h1
                cases h1
                rw [hct1]
                exact Hct0.out.symm
            have HJ := hid hJ
            obtain ⟨f0, f1, f2, f3, f4⟩ := FZ.out W8 B7W.out
            have z8 := ZT.out W8 (Below.refl _ _)
            clear hW8 m8 b88 hstr hwf hct1 hsv hen hJ
            go_wp2_with (first
              | (go_at_call 31; (refine (Hid.out K31b).mono ?_; rintro e w9 ⟨hb9, vd, rfl, hvd⟩; have B9 := hid hb9; have Rd9 := hid (hvd.rd HDby.out); have Rc9 := hid (HRc.out w9 (TR.out B7W.out hb9)); have z9 := ZT.out w9 hb9; clear f0 f1 f2 f3 f4 z8; obtain ⟨f0, f1, f2, f3, f4⟩ := FZ.out w9 (TR.out B7W.out hb9); have C24 := hid (heapSame_any 3 w9 sa sn sc rs ta tn tc ns (HSZ.out w9 (TR.out B7W.out hb9)) (HNS.out w9 hb9)); clear hb9 hvd))
              | (have hno := Rb10; go_at_call 33; (refine (bytes_any w10 vb _ bs ds Rb10.out Rc10.out).mono ?_; rintro e w11 ⟨rfl, rfl⟩))
              | (go_at_call 24; (refine (Hid.out C24).mono ?_; rw [HJ.out]; rintro e w10 ⟨rfl, hb10⟩; have B10 := hid (TR.out B9.out hb10); have Rb10 := hid (HRb.out w10 (TR.out B7W.out B10.out)); have Rc10 := hid (HRc.out w10 (TR.out B7W.out B10.out)); clear hb10))
              | (have hno := Rc9; go_at_call 33; (refine (bytes_any w9 _ vd ds ds Rc9.out Rd9.out).mono ?_; rw [decide_eq_true rfl]; rintro e w99 ⟨rfl, hw99⟩; subst hw99)))
            go_ret
            exact ⟨rfl, TZ.out _ (TR.out B7W.out B10.out)⟩
    · go_ret
      exact ⟨rfl, (FX.out _ B2.out).2⟩
    · go_ret
      exact ⟨rfl, (FX.out _ B1.out).2⟩
end Go.Proofs.Ytenfgahedbeekaa

namespace Go.Proofs.Ytenfgahedbeekaa
open Go.ChangeShapes Go.WideShapes Go.ChangeAt Go.RowKit Go.Deep
set_option linter.unusedVariables false
set_option linter.unusedSimpArgs false

theorem ownP4 : ownKnob Try.prog.godebug = none := by kernel_rfl
theorem laidP4 : laidOutB Try.prog = true := by kernel_rfl
set_option maxRecDepth 100000 in
theorem state_arg {H : Type} {enc : TypeId × Value → H} {W : World} {base : Nat} {v : Value} {d : DataW H} {ps : List MemPlace} (hv : Value.okWide Try.prog W .any base 27 v) (h : DataW.Trod enc Try.prog W 0 (fun _ => true) true 27 v d ps) :
    ∃ sa sn sc ms, v = .agg #[.slice sa sn sc] ∧ StD W sa sn ms ∧ sn ≤ sc := by
  obtain ⟨cs, rfl, hs⟩ := okWide_struct Try.underlying27 hv
  obtain ⟨m, hm⟩ := h
  have hm0 := hm
  obtain ⟨xs, n, _, _, hl, hlen0, hf⟩ := DataW.trod_struct Try.underlying27 hm
  rw [cells27] at hl
  obtain ⟨c0, hc⟩ : ∃ c0, cs.toList = [c0] := by
    have hl' : cs.toList.length = 1 := hl
    match hcs : cs.toList, hl' with
    | [c0], _ => exact ⟨c0, rfl⟩
  have hcs2 : cs = #[c0] := by cases cs; simp_all
  subst hcs2
  match xs, hlen0 with
  | [y0], _ =>
    have h0 := hf 0 _ rfl
    simp [cells25, Value.cells] at h0
    rcases open_slice Try.underlying25 h0 with ⟨hcs, _⟩ | ⟨a, l, c, m, n, D, Pl, hcs, _⟩
    · simp at hcs
      subst hcs
      obtain ⟨ms, h1, h2⟩ := state_of ⟨_, hm0⟩
      exact ⟨_, _, _, ms, rfl, h1, h2⟩
    · simp at hcs
      subst hcs
      obtain ⟨ms, h1, h2⟩ := state_of ⟨_, hm0⟩
      exact ⟨_, _, _, ms, rfl, h1, h2⟩
end Go.Proofs.Ytenfgahedbeekaa

namespace Go.Proofs.Ytenfgahedbeekaa
open Go.ChangeShapes Go.WideShapes Go.ChangeAt Go.RowKit Go.Deep
set_option linter.unusedVariables false
set_option linter.unusedSimpArgs false

theorem cells5 : Try.prog.cellsOf 5 = 1 := by kernel_rfl
set_option maxRecDepth 100000 in
theorem rd_of {H : Type} {enc : TypeId × Value → H} {W : World} {v : Value} {d : DataW H} {ps : List MemPlace} {a0 : Option Addr} {len cap : Nat} (hv : v = .slice a0 len cap) (h : DataW.Trod enc Try.prog W 0 (fun _ => true) true 56 v d ps) :
    ∃ bs : List Nat, bs.length = len ∧ Rd W v bs ∧ (v.ownBlock = none → v = .slice none 0 0) := by
  subst hv
  obtain ⟨fuel, hf⟩ := h
  rcases open_ints Try.underlying56 Try.underlying5 cells5 hf with ⟨hcs, _⟩ | ⟨a, l, c, zs, hcs, _, hl, hm, hz, _, hc, hwf⟩
  · simp [Value.cells] at hcs
    obtain ⟨rfl, rfl, rfl⟩ := hcs
    exact ⟨[], rfl, Rd.nil W, fun _ => rfl⟩
  · simp [Value.cells] at hcs
    obtain ⟨rfl, rfl, rfl⟩ := hcs
    simp at hz
    have hzl : ((zs.take len).map Int.toNat).length = len := by simp; omega
    have hby : ∀ z ∈ zs, 0 ≤ z ∧ z ≤ 255 := fun z hz => by simpa [Lit.wf, IntKind.min, IntKind.max, IntKind.signed, IntKind.bits] using hwf z hz
    refine ⟨(zs.take len).map Int.toNat, hzl, ⟨some a, cap, by rw [hzl], by omega, ?_, ?_⟩, fun e => by cases e⟩
    · intro x hx
      simp only [List.mem_map] at hx
      obtain ⟨z, hz, rfl⟩ := hx
      have := hby z (List.mem_of_mem_take hz)
      omega
    · intro j x hx
      simp only [List.getElem?_map, Option.map_eq_some_iff] at hx
      obtain ⟨z, hz', rfl⟩ := hx
      have hz2 := List.mem_of_getElem? hz'
      rw [List.getElem?_take] at hz'
      split at hz'
      · rename_i hjl
        have h0 := hc 0 (by omega)
        have hj := hc j (by omega)
        have hspot := World.cell?_spot h0
        obtain ⟨b, off, spot⟩ := a
        simp [Addr.add] at hspot
        subst hspot
        refine ⟨b, off, rfl, ?_⟩
        rw [Addr.add_lit] at hj
        rw [hj]
        have := hby z (List.mem_of_mem_take hz2)
        have e : zs.getD j 0 = z := by simp [List.getD, hz']
        rw [e]
        congr 2
        omega
      · cases hz'


set_option maxRecDepth 100000 in
theorem byte_of {H : Type} {enc : TypeId × Value → H} {W : World} {x : Int} {d : DataW H} {ps : List MemPlace} (h : DataW.Trod enc Try.prog W 0 (fun _ => true) true 5 (.int .u8 x) d ps) : ∃ n : Nat, x = (n : Int) ∧ n < 256 := by
  obtain ⟨fuel, hf⟩ := h
  obtain ⟨n, e, _, w⟩ := DataW.trod_int Try.underlying5 hf
  simp [Value.cells] at e
  subst e
  have : 0 ≤ x ∧ x ≤ 255 := by simpa [Lit.wf, IntKind.min, IntKind.max, IntKind.signed, IntKind.bits] using w
  exact ⟨x.toNat, by omega, by omega⟩
set_option maxRecDepth 100000 in
theorem turned_lifted (os : Os) (started : os.Started) (H : Type) (enc : TypeId × Value → H) :
    ReturnsInHanded {} Try.checked os 8 .any (Rows.heapTurnedSpec.pre6 enc Try.prog Try.f8 Rows.heapTurnedRow.domain false) (Rows.heapTurnedSpec.post enc Try.prog Try.f8 false true false false) := by
  refine returnsInHanded_of_change (C := Try.checked) ownP4 started (by kernel_rfl) Try.func8
    (ChangeSpec.witness6 (enc := enc) (C := Try.checked) false ⟨#[], #[.agg #[.slice none 0 0, .slice none 0 0, .slice none 0 0, .slice none 0 0], .agg #[.slice none 0 0], .int .i64 0, .int .u8 0, .int .i64 0, .slice none 0 0], []⟩ 8 (by kernel_rfl) (by kernel_rfl) (by kernel_rfl) (by kernel_rfl)) ?_
  intro W base args ds gs before hval0 hW hcnd _
  have hval : ∀ (j : Nat) t v, Try.f8.params[j]? = some t → args[j]? = some v → Value.okWide Try.prog W .any base t v := hval0
  have hW' := hW
  obtain ⟨p, q, hA0, hV, rfl, hfz, hnd⟩ := hW
  have hA : DataW.TrodAll enc Try.prog W 0 (fun _ => true) true Try.f8.params.toList args.toList ds p := hA0
  rw [Try.params8] at hA hval
  obtain ⟨v0, vs0, d0, ds0, p0, q0, hargs, rfl, rfl, h0, r0⟩ := trodAll_cons hA
  obtain ⟨v1, vs1, d1, ds1, p1, q1, rfl, rfl, rfl, h1, r1⟩ := trodAll_cons r0
  obtain ⟨v2, vs2, d2, ds2, p2, q2, rfl, rfl, rfl, h2, r2⟩ := trodAll_cons r1
  obtain ⟨v3, vs3, d3, ds3, p3, q3, rfl, rfl, rfl, h3, r3⟩ := trodAll_cons r2
  obtain ⟨v4, vs4, d4, ds4, p4, q4, rfl, rfl, rfl, h4, r4⟩ := trodAll_cons r3
  obtain ⟨v5, vs5, d5, ds5, p5, q5, rfl, rfl, rfl, h5, r5⟩ := trodAll_cons r4
  obtain ⟨rfl, rfl, rfl⟩ := trodAll_nil r5
  obtain rfl : args = #[v0, v1, v2, v3, v4, v5] := by cases args; simp_all
  obtain ⟨rfl, rfl⟩ := trodVars_none hV
  have lt0 : ∀ x ∈ p0, x.block < W.heap.size := by obtain ⟨m, hm⟩ := h0; exact DataW.trod_lt m _ _ _ hm
  have lt1 : ∀ x ∈ p1, x.block < W.heap.size := by obtain ⟨m, hm⟩ := h1; exact DataW.trod_lt m _ _ _ hm
  have lt2 : ∀ x ∈ p2, x.block < W.heap.size := by obtain ⟨m, hm⟩ := h2; exact DataW.trod_lt m _ _ _ hm
  have lt3 : ∀ x ∈ p3, x.block < W.heap.size := by obtain ⟨m, hm⟩ := h3; exact DataW.trod_lt m _ _ _ hm
  have lt4 : ∀ x ∈ p4, x.block < W.heap.size := by obtain ⟨m, hm⟩ := h4; exact DataW.trod_lt m _ _ _ hm
  have lt5 : ∀ x ∈ p5, x.block < W.heap.size := by obtain ⟨m, hm⟩ := h5; exact DataW.trod_lt m _ _ _ hm
  obtain ⟨g, pg, rfl, hpg⟩ := prog_arg (hval 0 50 v0 rfl rfl) h0
  obtain ⟨sa, sn, sc, ms, rfl, hs, _⟩ := state_arg (hval 1 27 v1 rfl rfl) h1
  obtain ⟨x2, rfl⟩ := okWide_int Try.underlying3 (hval 2 3 v2 rfl rfl)
  obtain ⟨x3, rfl⟩ := okWide_int Try.underlying5 (hval 3 5 v3 rfl rfl)
  obtain ⟨x4, rfl⟩ := okWide_int Try.underlying3 (hval 4 3 v4 rfl rfl)
  obtain ⟨a5, len5, cap5, rfl⟩ := okWide_slice Try.underlying56 (hval 5 56 v5 rfl rfl)
  obtain ⟨b3, rfl, hb3⟩ := byte_of h3
  obtain ⟨mo, rfl, hmo, hnil⟩ := rd_of rfl h5
  have hml : mo.length ≤ 9223372036854775807 := by
    obtain ⟨m, hm⟩ := h5
    rcases open_slice Try.underlying56 hm with ⟨hcs, _⟩ | ⟨a, l, c, m', n', D', Pl, hcs, _, hl, hm', hmm, _, hx⟩
    · simp [Value.cells] at hcs; obtain ⟨_, h1, _⟩ := hcs; simp [h1]
    · simp [Value.cells] at hcs; unfold maxLen at hm'; omega
  clear hA0 hval0
  refine (turned_any W g pg hpg sa sn sc ms hs x2 b3 hb3 x4 a5 cap5 mo hmo hml (fun e => by subst e; have := hnil rfl; injection this)).mono fun e W' ⟨he, bel⟩ => ?_
  subst he
  exact ⟨_, rfl, _, _, _, [], _, [], hW', trodAll_mk1 (shut_bool Try.underlying4 _), (trodAll_cons_mk (Below.trod laidP4 (by kernel_rfl) (of_decide_eq_true (by kernel_rfl)) h0 bel lt0) (trodAll_cons_mk (Below.trod laidP4 (by kernel_rfl) (of_decide_eq_true (by kernel_rfl)) h1 bel lt1) (trodAll_cons_mk (Below.trod laidP4 (by kernel_rfl) (of_decide_eq_true (by kernel_rfl)) h2 bel lt2) (trodAll_cons_mk (Below.trod laidP4 (by kernel_rfl) (of_decide_eq_true (by kernel_rfl)) h3 bel lt3) (trodAll_cons_mk (Below.trod laidP4 (by kernel_rfl) (of_decide_eq_true (by kernel_rfl)) h4 bel lt4) (trodAll_cons_mk (Below.trod laidP4 (by kernel_rfl) (of_decide_eq_true (by kernel_rfl)) h5 bel lt5) (trodAll_mk0))))))), rfl, bel.frame _, fun h => by cases h⟩

theorem heapTurned_holds : Rows.HeapTurnedSaid :=
  OpenClaim.holds_of_wide 8 Try.f8 rfl rfl rfl rfl rfl rfl rfl ⟨rfl, rfl, rfl, rfl, rfl⟩ rfl rfl rfl rfl rfl (by kernel_rfl) Try.func8 (by kernel_rfl)
    (of_decide_eq_true (by kernel_rfl)) (by unfold Func.isWrapper; first | (rw [if_pos (by decide +kernel)]; kernel_rfl) | (rw [if_neg (by decide +kernel)]; exact ⟨rfl, rfl⟩))
    (fun os started H enc _ => turned_lifted os started H enc)
#print axioms heapTurned_holds
end Go.Proofs.Ytenfgahedbeekaa

