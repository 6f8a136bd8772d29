/-
  HeapRestores returns true for every program, row of bytes and state, and its arguments read behind the call as they read before.
  No condition.
-/
import Derived.Test.YtenfgahedbeekaaJAZ
import Derived.ProofKit
import Derived.OpenShut
import Derived.ChangeOld
import Derived.ChangeSlices
import Derived.ChangeMaps5
import Derived.Below
import Derived.Deep.Slices
namespace Go.Proofs.Ytenfgahedbeekaa
open Go.RowKit Go.Deep Go.Shelf
set_option linter.unusedVariables false
set_option linter.unusedSimpArgs false

def erN (b : Bool) : Int := if b then 0 else 40
theorem NwP.eq {k : Nat} {w : World} {p : Pg} {e : Ending} {w' : World} (h : NwP k w p e w') : Below w.heap.size w w' ∧ ∃ aa an ac, e = .returned (.tuple #[.agg #[.slice aa an ac], .int .i64 (erN (rightB p))]) ∧ StCR k w' aa an (if rightB p then List.replicate p.maps.length [] else []) := by
  obtain ⟨hb, ⟨h1, rfl⟩ | ⟨h1, g, rfl, h2⟩⟩ := h
  · refine ⟨hb, none, 0, 0, by rw [h1]; rfl, ?_⟩
    rw [h1]
    exact ⟨[], ⟨rfl, by omega, fun j x hx => by simp at hx, fun m hm => by cases hm⟩, rfl⟩
  · refine ⟨hb, _, _, _, by rw [h1]; rfl, ?_⟩
    rw [h1]
    exact h2.cr
theorem SnP.eq {k : Nat} {w : World} {p : Pg} {ms : List (Sl × Rw (k + 2))} {e : Ending} {w' : World} (h : SnP k w p ms e w') : Below w.heap.size w w' ∧ ∃ v', e = .returned (.tuple #[v', .int .i64 (erN (stV k p (ms.map (·.2))))]) ∧ Rd w' v' (if stV k p (ms.map (·.2)) then encSt k (ms.map (·.2)) else []) := by
  obtain ⟨hb, v', rfl, hr⟩ := h
  refine ⟨hb, v', rfl, hr.rd ?_⟩
  cases hq : stV k p (ms.map (·.2)) with
  | true => exact encSt_byt hq
  | false => intro x hx; cases hx
end Go.Proofs.Ytenfgahedbeekaa

namespace Go.Proofs.Ytenfgahedbeekaa
open Go.RowKit Go.Deep Go.Shelf
set_option linter.unusedVariables false
set_option linter.unusedSimpArgs false

theorem Row.len {w : World} {B : Nat} {a : Option Addr} {n cap : Nat} {xs : List Nat} (h : Row w B (.slice a n cap) xs) : n = xs.length ∧ xs.length ≤ cap := by
  rcases h.2 with ⟨e, hn⟩ | ⟨g, cap', cur, e, hb, hgg, hc, rest⟩
  · cases e; exact ⟨hn.symm, by omega⟩
  · cases e; exact ⟨rfl, hc⟩
theorem Row.set {w : World} {B g n cap : Nat} {xs : List Nat} (h : Row w B (.slice (some ⟨g, 0, none⟩) n cap) xs) (j x : Nat) (hj : j < xs.length) : Row (w.setCell ⟨g, j, none⟩ (.int .u8 (x : Int))) B (.slice (some ⟨g, 0, none⟩) n cap) (xs.set j x) := by
  rcases h.2 with ⟨e, hn⟩ | ⟨g', cap', cur, e, hb, hgg, hc, hm, hs, ht⟩
  · cases e
  · cases e
    refine ⟨by simp [bv], .inr ⟨g, cap, _, by rw [List.length_set], hb, heap_setCell_at hgg j _, by rw [List.length_set]; exact hc, hm, by simpa using hs, ?_⟩⟩
    rw [List.length_set, Array.toList_setIfInBounds, List.take_set, ht]
    simp [bv]
theorem Byt.set {xs : List Nat} (h : Byt xs) (j x : Nat) (hx : x < 256) : Byt (xs.set j x) := fun y hy => by
  rcases List.mem_or_eq_of_mem_set hy with h1 | h1
  · exact h y h1
  · rw [h1]; exact hx
theorem stR_nil (w : World) : StR 3 w none 0 [] := ⟨rfl, by omega, (fun j x hx => by simp at hx), (fun m hm => by cases hm)⟩
end Go.Proofs.Ytenfgahedbeekaa

namespace Go.Proofs.Ytenfgahedbeekaa
open Go.RowKit Go.Deep Go.Shelf
set_option linter.unusedVariables false
set_option linter.unusedSimpArgs false

/- What a reader needs of a state that came back. -/
def cod (p : Pg) (bs : List Nat) : Int := match resD p bs with
  | none => 40
  | some _ => 0
def ctD (p : Pg) (bs : List Nat) : List (RC 3) := match resD p bs with
  | none => []
  | some X => ctS (rowsT X)
def ReU (w : World) (p : Pg) (bs : List Nat) (e : Ending) (w' : World) : Prop := Below w.heap.size w w' ∧ ∃ aa an ac ns, e = .returned (.tuple #[.agg #[.slice aa an ac], .int .i64 (cod p bs)]) ∧ StR 3 w' aa an ns ∧ ctS (ns.map (·.2)) = ctD p bs
theorem ReP.u {w : World} {p : Pg} {bs : List Nat} {e : Ending} {w' : World} (h : ReP w p bs e w') : ReU w p bs e w' := by
  obtain ⟨hb, h2⟩ := h
  refine ⟨hb, ?_⟩
  unfold cod ctD
  cases hr : resD p bs with
  | none =>
    rw [hr] at h2
    exact ⟨none, 0, 0, [], h2, stR_nil _, rfl⟩
  | some X =>
    rw [hr] at h2
    obtain ⟨aa, an, ac, ns, he, hst, _, hsm⟩ := h2
    exact ⟨aa, an, ac, ns, he, hst.str, ct_nrm hsm⟩
set_option maxRecDepth 100000 in
set_option maxHeartbeats 2000000 in
theorem restores_any (w : World) (g : PH) (p : Pg) (d : PRd w g p) (ba : Option Addr) (bcap : Nat) (bs : List Nat) (hm : Rd w (.slice ba bs.length bcap) bs) (hml : bs.length ≤ 9223372036854775807) (sa : Option Addr) (sn sc : Nat) (ms : List (Sl × List En)) (hs : StD w sa sn ms) :
    Calls Try.prog 5 #[g.v, .slice ba bs.length bcap, .agg #[.slice sa sn sc]] w fun e w' => e = .returned (.bool true) ∧ Below w.heap.size w w' := by
  have HM := hid (fun (w1 : World) (hb : Below w.heap.size w w1) => hm.below (Nat.le_refl _) hb)
  have K25 := hid (fun (w1 : World) (hb : Below w.heap.size w w1) => plainM_any w1 g p (d.below (Nat.le_refl _) hb))
  have KU := hid (fun (rs : List (Sl × Rw 3)) (w1 : World) (hb : Below w.heap.size w w1) (sa' : Option Addr) (sn' sc' : Nat) (h : StR 3 w1 sa' sn' rs) => heapSnap_any 1 w1 g p (d.below (Nat.le_refl _) hb) sa' sn' sc' rs h)
  have KR := hid (fun (w1 : World) (hb : Below w.heap.size w w1) (hmp : p.maps.length ≤ 30) (a : Option Addr) (cap : Nat) (bs : List Nat) (h : Rd w1 (.slice a bs.length cap) bs) (hl : bs.length ≤ 1000000) => (restore_any w1 g p (d.below (Nat.le_refl _) hb) hmp a cap bs h hl).mono (fun e w' h => h.u))
  have KF := hid (fun (w1 : World) (hb : Below w.heap.size w w1) (a : Option Addr) (cap : Nat) (bs : List Nat) (h : Rd w1 (.slice a bs.length cap) bs) (hl : bs.length ≤ 1000000) => (refRestore_any w1 g p (d.below (Nat.le_refl _) hb) a cap bs h hl).mono (fun e w' h => h.u))
  have Hmn := hid d.m.n1
  have K26s := hid (fun (w1 : World) (hb : Below w.heap.size w w1) => fewS_any w1 sa sn sc ms (hs.below (Nat.le_refl _) hb))
  have HSm := hid (fun (w1 : World) (hb : Below w.heap.size w w1) (h20 : ms.length ≤ 20) (h : ∀ m ∈ ms, EnS w1 m) => small_state (hs.below (Nat.le_refl _) hb) h20 h)
  obtain ⟨ra, rn, rc, ma, mn, mc, fa, fn, fc, ea, en, ec⟩ := g
  simp only [PH.v] at K25 KU KR KF Hmn ⊢
  clear d hs hm
  have hmI : (bs.length : Int) ≤ 9223372036854775807 := by omega
  obtain ⟨W0, hW0⟩ : ∃ W0, W0 = (w.alloc (.cells #[.slice ra rn rc, .slice ma mn mc, .slice fa fn fc, .slice ea en ec] 50)).alloc (.cells #[.slice sa sn sc] 27) := ⟨_, rfl⟩
  have n1 := heap_alloc_new w (.cells #[.slice ra rn rc, .slice ma mn mc, .slice fa fn fc, .slice ea en ec] 50)
  have n2 := heap_alloc_new (w.alloc (.cells #[.slice ra rn rc, .slice ma mn mc, .slice fa fn fc, .slice ea en ec] 50)) (.cells #[.slice sa sn sc] 27)
  simp only [World.size_alloc] at n2
  have q1 : W0.heap[w.heap.size]? = some (.cells #[.slice ra rn rc, .slice ma mn mc, .slice fa fn fc, .slice ea en ec] 50 (0, 0)) := by rw [hW0]; exact alN n1 _
  have q2 : W0.heap[w.heap.size + 1]? = some (.cells #[.slice sa sn sc] 27 (0, 0)) := by rw [hW0]; exact n2
  have hb0 : Below w.heap.size w W0 := by rw [hW0]; exact boxes2 _ _ _ _ _
  have FX : Hid (∀ w2 : World, Below W0.heap.size W0 w2 → (w2.cell? ⟨w.heap.size, 0, none⟩ = some (.slice ra rn rc) ∧ w2.cell? ⟨w.heap.size, 1, none⟩ = some (.slice ma mn mc) ∧ w2.cell? ⟨w.heap.size, 2, none⟩ = some (.slice fa fn fc) ∧ w2.cell? ⟨w.heap.size, 3, none⟩ = some (.slice ea en ec) ∧ w2.cell? ⟨w.heap.size + 1, 0, none⟩ = some (.slice sa sn sc)) ∧ Below w.heap.size w w2) := hid (fun w2 hb => by
    have b1 := (hb.block _ (Array.getElem?_eq_some_iff.1 q1).1).trans q1
    have b2 := (hb.block _ (Array.getElem?_eq_some_iff.1 q2).1).trans q2
    exact ⟨⟨cellOf b1 0, cellOf b1 1, cellOf b1 2, cellOf b1 3, cellOf b2 0⟩, hb0.trans (hb.mono hb0.size)⟩)
  have TR : Hid (∀ {Z x y : World}, Below Z.heap.size Z x → Below x.heap.size x y → Below Z.heap.size Z y) := hid (fun h1 h2 => h1.trans (h2.mono h1.size))
  clear n1 n2 q1 q2 hb0
  by_cases hmo : 3000 < bs.length
  · have hmo' : (3000 : Int) < (bs.length : Int) := by omega
    go_enter Try.func5, Try.ntmps5
    go_wp2_with (first
      | (go_at_call 9; rw [← hW0]; (refine (known_any _).mono ?_; rintro e w0 ⟨rfl, hb0⟩; have B0 := hid hb0; obtain ⟨⟨f0, f1, f2, f3, f4⟩, _⟩ := FX.out w0 hb0; clear hb0))
      | (go_at_call 25; (refine (K25.out w0 (FX.out _ B0.out).2).mono ?_; rintro e w1 ⟨b1, rfl, hM1, hb1⟩; have B1 := hid (TR.out B0.out hb1); have HM1 := hid hM1; clear f0 f1 f2 f3 f4 hb1 hM1; obtain ⟨⟨f0, f1, f2, f3, f4⟩, _⟩ := FX.out w1 B1.out)))
    · go_ret
      exact ⟨rfl, (FX.out _ B1.out).2⟩
    · go_ret
      exact ⟨rfl, (FX.out _ B1.out).2⟩
  · have hmo' : ¬ (3000 : Int) < (bs.length : Int) := by omega
    go_enter Try.func5, Try.ntmps5
    go_wp2_with (first
      | (go_at_call 9; rw [← hW0]; (refine (known_any _).mono ?_; rintro e w0 ⟨rfl, hb0⟩; have B0 := hid hb0; obtain ⟨⟨f0, f1, f2, f3, f4⟩, _⟩ := FX.out w0 hb0; clear hb0))
      | (go_at_call 25; (refine (K25.out w0 (FX.out _ B0.out).2).mono ?_; rintro e w1 ⟨b1, rfl, hM1, hb1⟩; have B1 := hid (TR.out B0.out hb1); have HM1 := hid hM1; clear f0 f1 f2 f3 f4 hb1 hM1; obtain ⟨⟨f0, f1, f2, f3, f4⟩, _⟩ := FX.out w1 B1.out))
      | (go_at_call 26; (refine (K26s.out w1 (FX.out _ B1.out).2).mono ?_; rintro e w2 ⟨⟨b2, rfl, hF2⟩, hb2⟩; have B12 := hid hb2; have B2 := hid (TR.out B1.out hb2); have HF2 := hid hF2; clear f0 f1 f2 f3 f4 hb2 hF2; obtain ⟨⟨f0, f1, f2, f3, f4⟩, _⟩ := FX.out w2 B2.out)))
    · go_ret
      exact ⟨rfl, (FX.out _ B2.out).2⟩
    · have hb1t : b1 = true := by first | rfl | assumption | simp_all
      have hb2t : b2 = true := by first | rfl | assumption | simp_all
      have hmp : p.maps.length ≤ 30 := by rw [← Hmn.out]; exact HM1.out hb1t
      obtain ⟨rs, hrs⟩ := HSm.out w1 (FX.out _ B1.out).2 (HF2.out hb2t).1 (HF2.out hb2t).2
      have HS : Hid (∀ w3, Below w2.heap.size w2 w3 → StR 3 w3 sa sn rs) := hid (fun w3 hb => (hrs.below (Nat.le_refl _) B12.out).below (Nat.le_refl _) hb)
      have TW : Hid (∀ w3, Below w2.heap.size w2 w3 → Below w.heap.size w w3) := hid (fun w3 hb => (FX.out _ (TR.out B2.out hb)).2)
      have FY : Hid (∀ w3, Below w2.heap.size w2 w3 → w3.cell? ⟨w.heap.size, 0, none⟩ = some (.slice ra rn rc) ∧ w3.cell? ⟨w.heap.size, 1, none⟩ = some (.slice ma mn mc) ∧ w3.cell? ⟨w.heap.size, 2, none⟩ = some (.slice fa fn fc) ∧ w3.cell? ⟨w.heap.size, 3, none⟩ = some (.slice ea en ec) ∧ w3.cell? ⟨w.heap.size + 1, 0, none⟩ = some (.slice sa sn sc)) := hid (fun w3 hb => (FX.out _ (TR.out B2.out hb)).1)
      have B22 := hid (Below.refl w2.heap.size w2)
      have KA := hid (KR.out w2 (TW.out _ B22.out) hmp ba bcap bs (HM.out w2 (TW.out _ B22.out)) (by omega))
      have KB := hid (fun (w9 : World) (hb : Below w2.heap.size w2 w9) => KF.out w9 (TW.out _ hb) ba bcap bs (HM.out w9 (TW.out _ hb)) (by omega))
      have Hmp := hid hmp
      obtain ⟨co, hco⟩ : ∃ co, co = cod p bs := ⟨_, rfl⟩
      obtain ⟨ct, hct⟩ : ∃ ct, ct = ctD p bs := ⟨_, rfl⟩
      unfold ReU at KA KB
      rw [← hco, ← hct] at KA
      simp only [← hco, ← hct] at KB
      clear hrs HF2 K26s HSm K25 hW0 B0 B1 B12 hmp HM1 hb1t hb2t hco hct KF
      go_upto_region 6 with (go_at_call 34; (refine (Hid.out KA).mono ?_; rintro e w3 ⟨hb3, aa, an, ac, ns, rfl, hst, htc⟩; have B3 := hid hb3; have HST := hid hst; have HCT := hid htc; clear hb3 f0 f1 f2 f3 f4 hst htc))
      obtain ⟨U3, hU3⟩ : ∃ U3, U3 = w3.alloc (.cells #[.slice aa an ac] 27) := ⟨_, rfl⟩
      rw [← hU3]
      have m3 : U3.heap[w3.heap.size]? = some (.cells #[.slice aa an ac] 27 (0, 0)) := by rw [hU3]; exact heap_alloc_new w3 _
      have b33 : Below w3.heap.size w3 U3 := by rw [hU3]; exact (Below.refl _ w3).alloc (Nat.le_refl _) _
      have B2U := hid (TR.out B3.out b33)
      have hstr : StR 3 U3 aa an ns := HST.out.below (Nat.le_refl _) b33
      have HNS := hid (fun (w9 : World) (hb : Below U3.heap.size U3 w9) => hstr.below (Nat.le_refl _) hb)
      have ZT := hid (fun (w9 : World) (hb : Below U3.heap.size U3 w9) => cellOf ((hb.block _ (Array.getElem?_eq_some_iff.1 m3).1).trans m3) 0)
      simp only [List.getElem?_toArray, List.getElem?_cons_zero] at ZT
      have KB3 := hid (KB.out U3 B2U.out)
      obtain ⟨f0, f1, f2, f3, f4⟩ := FY.out U3 B2U.out
      clear hU3 m3 b33 hstr KA HST
      go_upto_region 7 with (go_at_call 35; (refine (Hid.out KB3).mono ?_; rintro e w4 ⟨hb4, ta, tn, tc, qs, rfl, hst, htc⟩; have B4 := hid hb4; have HST := hid hst; have HCT4 := hid htc; clear hb4 f0 f1 f2 f3 f4 hst htc))
      obtain ⟨U4, hU4⟩ : ∃ U4, U4 = w4.alloc (.cells #[.slice ta tn tc] 27) := ⟨_, rfl⟩
      rw [← hU4]
      have m4 : U4.heap[w4.heap.size]? = some (.cells #[.slice ta tn tc] 27 (0, 0)) := by rw [hU4]; exact heap_alloc_new w4 _
      have b44 : Below w4.heap.size w4 U4 := by rw [hU4]; exact (Below.refl _ w4).alloc (Nat.le_refl _) _
      have B3U := hid (TR.out B4.out b44)
      have hstr : StR 3 U4 ta tn qs := HST.out.below (Nat.le_refl _) b44
      have z3 := ZT.out U4 B3U.out
      have z4 := cellOf m4 0
      simp only [List.getElem?_toArray, List.getElem?_cons_zero] at z4
      have hJ : stB 3 ns qs = true := by rw [stB_ct, HCT.out, HCT4.out]
      have K14 := hid (refStSame_any 3 U4 aa an ac ns ta tn tc qs (HNS.out U4 B3U.out) hstr)
      rw [hJ] at K14
      have B24 := hid (TR.out B2U.out B3U.out)
      clear hU4 m4 b44 hstr hJ HST KB KB3 ZT HNS
      go_upto_region 9 with (go_at_call 14; (refine (Hid.out K14).mono ?_; rintro e w5 ⟨rfl, hb5⟩; have B25 := hid (TR.out B24.out hb5); clear hb5 z3 z4))
      obtain ⟨f0, f1, f2, f3, f4⟩ := FY.out w5 B25.out
      have K31 := hid (KU.out rs w5 (TW.out _ B25.out) sa sn sc (HS.out _ B25.out))
      unfold SnP at K31
      obtain ⟨S, hS⟩ : ∃ S, S = stV 1 p (rs.map (·.2)) := ⟨_, rfl⟩
      rw [← hS] at K31
      have HSS := hid hS
      clear hS K14
      cases S with
      | false =>
        simp only [Bool.false_eq_true, ↓reduceIte] at K31
        go_wp2_with (go_at_call 31; (refine (Hid.out K31).mono ?_; rintro e w6 ⟨hb6, vb, rfl, hvb⟩; have B26 := hid (TR.out B25.out hb6); obtain ⟨va, vn, vc, rfl⟩ := hvb.shape; have hv0 := hvb.len.1; simp only [List.length_nil] at hv0; subst hv0; clear hb6 hvb))
        go_ret
        exact ⟨rfl, TW.out _ B26.out⟩
      | true =>
        simp only [↓reduceIte] at K31
        obtain ⟨cs, hcs⟩ : ∃ cs, cs = encSt 1 (rs.map (·.2)) := ⟨_, rfl⟩
        rw [← hcs] at K31
        have hcby : Byt cs := by rw [hcs]; exact encSt_byt HSS.out.symm
        have hcl : cs.length ≤ 800000 := by
          have hst := HSS.out.symm
          have h1 := stV_pl hst
          have hR := HS.out w2 B22.out
          have h2 := encSt_le (rs.map (·.2)) (fun r hr => by
            simp only [List.mem_map] at hr
            obtain ⟨m, hm, rfl⟩ := hr
            exact encRw_le (w := w2) (h1 m hm).1 (fun q hq => ⟨(hR.el m hm).1.el q hq, (h1 m hm).2 q hq⟩))
          unfold stV at hst
          simp only [Bool.and_eq_true, decide_eq_true_eq] at hst
          have h3 := right_maps hst.1.1
          have h4 := hst.1.2
          rw [← hcs] at h2
          omega
        have hcl2 : cs.length ≤ 1000000 := by omega
        obtain ⟨X0, hX0, hct0⟩ := state_fwd (HS.out w2 B22.out) HSS.out.symm
        rw [← hcs] at hX0
        have hc0 : cod p cs = 0 := by unfold cod; rw [hX0]
        have hc1 : ctD p cs = ctS (rs.map (·.2)) := by unfold ctD; rw [hX0]; exact hct0
        have HC1 := hid hc1
        have HBy := hid hcby
        clear hcs hcby hX0 hct0 hcl hc1
        go_upto_region 12 with (go_at_call 31; (refine (Hid.out K31).mono ?_; rintro e w6 ⟨hb6, vb, rfl, hvb⟩; have B26 := hid (TR.out B25.out hb6); obtain ⟨va, vn, vc, rfl⟩ := hvb.shape; have Hvb := hid hvb; clear hb6 hvb f0 f1 f2 f3 f4))
        have hvn := Hvb.out.len.1
        subst hvn
        have KC := hid (KR.out w6 (TW.out _ B26.out) Hmp.out va vc cs (Hvb.out.rd HBy.out) hcl2)
        unfold ReU at KC
        rw [hc0] at KC
        obtain ⟨f0, f1, f2, f3, f4⟩ := FY.out w6 B26.out
        clear hc0 Hvb K31
        go_upto_region 13 with (go_at_call 34; (refine (Hid.out KC).mono ?_; rintro e w7 ⟨hb7, xa, xn, xc, ts, rfl, hst, htc⟩; have B7 := hid hb7; have HST := hid hst; have HCT7 := hid htc; clear hb7 f0 f1 f2 f3 f4 hst htc))
        obtain ⟨U7, hU7⟩ : ∃ U7, U7 = w7.alloc (.cells #[.slice xa xn xc] 27) := ⟨_, rfl⟩
        rw [← hU7]
        have m7 : U7.heap[w7.heap.size]? = some (.cells #[.slice xa xn xc] 27 (0, 0)) := by rw [hU7]; exact heap_alloc_new w7 _
        have b77 : Below w7.heap.size w7 U7 := by rw [hU7]; exact (Below.refl _ w7).alloc (Nat.le_refl _) _
        have B27 := hid (TR.out B26.out (TR.out B7.out b77))
        have hstr : StR 3 U7 xa xn ts := HST.out.below (Nat.le_refl _) b77
        have z7 := cellOf m7 0
        simp only [List.getElem?_toArray, List.getElem?_cons_zero] at z7
        have hJ : stB 3 rs ts = true := by rw [stB_ct, HCT7.out, HC1.out]
        have K14 := hid (refStSame_any 3 U7 sa sn sc rs xa xn xc ts (HS.out U7 B27.out) hstr)
        rw [hJ] at K14
        obtain ⟨f0, f1, f2, f3, f4⟩ := FY.out U7 B27.out
        clear hU7 m7 b77 hstr hJ HST KC
        go_wp2_with (go_at_call 14; (refine (Hid.out K14).mono ?_; rintro e w8 ⟨rfl, hb8⟩; have B28 := hid (TR.out B27.out hb8); clear hb8 z7))
        go_ret
        exact ⟨rfl, TW.out _ B28.out⟩
    · go_ret
      exact ⟨rfl, (FX.out _ B1.out).2⟩
end Go.Proofs.Ytenfgahedbeekaa

namespace Go.Proofs.Ytenfgahedbeekaa
open Go.ChangeShapes Go.WideShapes Go.ChangeAt Go.RowKit Go.Deep
set_option linter.unusedVariables false
set_option linter.unusedSimpArgs false

theorem ownP4 : ownKnob Try.prog.godebug = none := by kernel_rfl
theorem laidP4 : laidOutB Try.prog = true := by kernel_rfl
set_option maxRecDepth 100000 in
theorem state_arg {H : Type} {enc : TypeId × Value → H} {W : World} {base : Nat} {v : Value} {d : DataW H} {ps : List MemPlace} (hv : Value.okWide Try.prog W .any base 27 v) (h : DataW.Trod enc Try.prog W 0 (fun _ => true) true 27 v d ps) :
    ∃ sa sn sc ms, v = .agg #[.slice sa sn sc] ∧ StD W sa sn ms ∧ sn ≤ sc := by
  obtain ⟨cs, rfl, hs⟩ := okWide_struct Try.underlying27 hv
  obtain ⟨m, hm⟩ := h
  have hm0 := hm
  obtain ⟨xs, n, _, _, hl, hlen0, hf⟩ := DataW.trod_struct Try.underlying27 hm
  rw [cells27] at hl
  obtain ⟨c0, hc⟩ : ∃ c0, cs.toList = [c0] := by
    have hl' : cs.toList.length = 1 := hl
    match hcs : cs.toList, hl' with
    | [c0], _ => exact ⟨c0, rfl⟩
  have hcs2 : cs = #[c0] := by cases cs; simp_all
  subst hcs2
  match xs, hlen0 with
  | [y0], _ =>
    have h0 := hf 0 _ rfl
    simp [cells25, Value.cells] at h0
    rcases open_slice Try.underlying25 h0 with ⟨hcs, _⟩ | ⟨a, l, c, m, n, D, Pl, hcs, _⟩
    · simp at hcs
      subst hcs
      obtain ⟨ms, h1, h2⟩ := state_of ⟨_, hm0⟩
      exact ⟨_, _, _, ms, rfl, h1, h2⟩
    · simp at hcs
      subst hcs
      obtain ⟨ms, h1, h2⟩ := state_of ⟨_, hm0⟩
      exact ⟨_, _, _, ms, rfl, h1, h2⟩
end Go.Proofs.Ytenfgahedbeekaa

namespace Go.Proofs.Ytenfgahedbeekaa
open Go.ChangeShapes Go.WideShapes Go.ChangeAt Go.RowKit Go.Deep
set_option linter.unusedVariables false
set_option linter.unusedSimpArgs false

theorem cells5 : Try.prog.cellsOf 5 = 1 := by kernel_rfl
set_option maxRecDepth 100000 in
theorem rd_of {H : Type} {enc : TypeId × Value → H} {W : World} {v : Value} {d : DataW H} {ps : List MemPlace} {a0 : Option Addr} {len cap : Nat} (hv : v = .slice a0 len cap) (h : DataW.Trod enc Try.prog W 0 (fun _ => true) true 56 v d ps) :
    ∃ bs : List Nat, bs.length = len ∧ Rd W v bs ∧ (v.ownBlock = none → v = .slice none 0 0) := by
  subst hv
  obtain ⟨fuel, hf⟩ := h
  rcases open_ints Try.underlying56 Try.underlying5 cells5 hf with ⟨hcs, _⟩ | ⟨a, l, c, zs, hcs, _, hl, hm, hz, _, hc, hwf⟩
  · simp [Value.cells] at hcs
    obtain ⟨rfl, rfl, rfl⟩ := hcs
    exact ⟨[], rfl, Rd.nil W, fun _ => rfl⟩
  · simp [Value.cells] at hcs
    obtain ⟨rfl, rfl, rfl⟩ := hcs
    simp at hz
    have hzl : ((zs.take len).map Int.toNat).length = len := by simp; omega
    have hby : ∀ z ∈ zs, 0 ≤ z ∧ z ≤ 255 := fun z hz => by simpa [Lit.wf, IntKind.min, IntKind.max, IntKind.signed, IntKind.bits] using hwf z hz
    refine ⟨(zs.take len).map Int.toNat, hzl, ⟨some a, cap, by rw [hzl], by omega, ?_, ?_⟩, fun e => by cases e⟩
    · intro x hx
      simp only [List.mem_map] at hx
      obtain ⟨z, hz, rfl⟩ := hx
      have := hby z (List.mem_of_mem_take hz)
      omega
    · intro j x hx
      simp only [List.getElem?_map, Option.map_eq_some_iff] at hx
      obtain ⟨z, hz', rfl⟩ := hx
      have hz2 := List.mem_of_getElem? hz'
      rw [List.getElem?_take] at hz'
      split at hz'
      · rename_i hjl
        have h0 := hc 0 (by omega)
        have hj := hc j (by omega)
        have hspot := World.cell?_spot h0
        obtain ⟨b, off, spot⟩ := a
        simp [Addr.add] at hspot
        subst hspot
        refine ⟨b, off, rfl, ?_⟩
        rw [Addr.add_lit] at hj
        rw [hj]
        have := hby z (List.mem_of_mem_take hz2)
        have e : zs.getD j 0 = z := by simp [List.getD, hz']
        rw [e]
        congr 2
        omega
      · cases hz'


end Go.Proofs.Ytenfgahedbeekaa

namespace Go.Proofs.Ytenfgahedbeekaa
open Go.ChangeShapes Go.WideShapes Go.ChangeAt Go.RowKit Go.Deep
set_option linter.unusedVariables false
set_option linter.unusedSimpArgs false

set_option maxRecDepth 100000 in
theorem restores_lifted (os : Os) (started : os.Started) (H : Type) (enc : TypeId × Value → H) :
    ReturnsInHanded {} Try.checked os 5 .any (Rows.heapRestoresSpec.pre6 enc Try.prog Try.f5 Rows.heapRestoresRow.domain false) (Rows.heapRestoresSpec.post enc Try.prog Try.f5 false true false false) := by
  refine returnsInHanded_of_change (C := Try.checked) ownP4 started (by kernel_rfl) Try.func5
    (ChangeSpec.witness6 (enc := enc) (C := Try.checked) false ⟨#[], #[.agg #[.slice none 0 0, .slice none 0 0, .slice none 0 0, .slice none 0 0], .slice none 0 0, .agg #[.slice none 0 0]], []⟩ 8 (by kernel_rfl) (by kernel_rfl) (by kernel_rfl) (by kernel_rfl)) ?_
  intro W base args ds gs before hval0 hW hcnd _
  have hval : ∀ (j : Nat) t v, Try.f5.params[j]? = some t → args[j]? = some v → Value.okWide Try.prog W .any base t v := hval0
  have hW' := hW
  obtain ⟨p, q, hA0, hV, rfl, hfz, hnd⟩ := hW
  have hA : DataW.TrodAll enc Try.prog W 0 (fun _ => true) true Try.f5.params.toList args.toList ds p := hA0
  rw [Try.params5] at hA hval
  obtain ⟨v0, vs0, d0, ds0, p0, q0, hargs, rfl, rfl, h0, r0⟩ := trodAll_cons hA
  obtain ⟨v1, vs1, d1, ds1, p1, q1, rfl, rfl, rfl, h1, r1⟩ := trodAll_cons r0
  obtain ⟨v2, vs2, d2, ds2, p2, q2, rfl, rfl, rfl, h2, r2⟩ := trodAll_cons r1
  obtain ⟨rfl, rfl, rfl⟩ := trodAll_nil r2
  obtain rfl : args = #[v0, v1, v2] := by cases args; simp_all
  obtain ⟨rfl, rfl⟩ := trodVars_none hV
  have lt0 : ∀ x ∈ p0, x.block < W.heap.size := by obtain ⟨m, hm⟩ := h0; exact DataW.trod_lt m _ _ _ hm
  have lt1 : ∀ x ∈ p1, x.block < W.heap.size := by obtain ⟨m, hm⟩ := h1; exact DataW.trod_lt m _ _ _ hm
  have lt2 : ∀ x ∈ p2, x.block < W.heap.size := by obtain ⟨m, hm⟩ := h2; exact DataW.trod_lt m _ _ _ hm
  obtain ⟨g, pg, rfl, hpg⟩ := prog_arg (hval 0 50 v0 rfl rfl) h0
  obtain ⟨a5, len5, cap5, rfl⟩ := okWide_slice Try.underlying56 (hval 1 56 v1 rfl rfl)
  obtain ⟨sa, sn, sc, ms, rfl, hs, _⟩ := state_arg (hval 2 27 v2 rfl rfl) h2
  obtain ⟨bs, rfl, hbs, hnil⟩ := rd_of rfl h1
  have hml : bs.length ≤ 9223372036854775807 := by
    obtain ⟨m, hm⟩ := h1
    rcases open_slice Try.underlying56 hm with ⟨hcs, _⟩ | ⟨a, l, c, m', n', D', Pl, hcs, _, hl, hm', hmm, _, hx⟩
    · simp [Value.cells] at hcs; obtain ⟨_, h1, _⟩ := hcs; simp [h1]
    · simp [Value.cells] at hcs; unfold maxLen at hm'; omega
  clear hA0 hval0
  refine (restores_any W g pg hpg a5 cap5 bs hbs hml sa sn sc ms hs).mono fun e W' ⟨he, bel⟩ => ?_
  subst he
  exact ⟨_, rfl, _, _, _, [], _, [], hW', trodAll_mk1 (shut_bool Try.underlying4 _), (trodAll_cons_mk (Below.trod laidP4 (by kernel_rfl) (of_decide_eq_true (by kernel_rfl)) h0 bel lt0) (trodAll_cons_mk (Below.trod laidP4 (by kernel_rfl) (of_decide_eq_true (by kernel_rfl)) h1 bel lt1) (trodAll_cons_mk (Below.trod laidP4 (by kernel_rfl) (of_decide_eq_true (by kernel_rfl)) h2 bel lt2) trodAll_mk0))), rfl, bel.frame _, fun h => by cases h⟩

theorem heapRestores_holds : Rows.HeapRestoresSaid :=
  OpenClaim.holds_of_wide 5 Try.f5 rfl rfl rfl rfl rfl rfl rfl ⟨rfl, rfl, rfl, rfl, rfl⟩ rfl rfl rfl rfl rfl (by kernel_rfl) Try.func5 (by kernel_rfl)
    (of_decide_eq_true (by kernel_rfl)) (by unfold Func.isWrapper; first | (rw [if_pos (by decide +kernel)]; kernel_rfl) | (rw [if_neg (by decide +kernel)]; exact ⟨rfl, rfl⟩))
    (fun os started H enc _ => restores_lifted os started H enc)
end Go.Proofs.Ytenfgahedbeekaa

