/- Short, fewUnit. -/
import Derived.Test.YtmhjnfibpngpmaaJAQ
import Derived.Deep.RegionHeld3
namespace Go.Proofs.Ytmhjnfibpngpmaa
open Go.RowKit Go.Deep Go.Shelf
set_option linter.unusedVariables false
set_option linter.unusedSimpArgs false
/- An answer that, where it is true, says R. -/
def Says (w : World) (R : Prop) (e : Ending) (w' : World) : Prop := Below w.heap.size w w' ∧ ∃ b, e = .returned (.bool b) ∧ (b = true → R)
theorem Says.no {w w' : World} {R : Prop} (h : Below w.heap.size w w') : Says w R (.returned (.bool false)) w' := ⟨h, false, rfl, fun h => by cases h⟩
theorem Says.yes {w w' : World} {R : Prop} (h : Below w.heap.size w w') (r : R) : Says w R (.returned (.bool true)) w' := ⟨h, true, rfl, fun _ => r⟩
theorem Says.dec {w w' : World} {R p : Prop} [Decidable p] (h : Below w.heap.size w w') (r : p → R) : Says w R (.returned (.bool (decide p))) w' := ⟨h, decide p, rfl, fun h => r (of_decide_eq_true h)⟩
set_option maxRecDepth 100000 in
set_option maxHeartbeats 1000000 in
theorem short_any (w : World) (a : Option Addr) (n cap : Nat) (ss : List ByteArray) (hn : n = ss.length) (hn2 : n ≤ 9223372036854775807) (hr : SRd w a ss) (mm bb : Nat) :
    Calls Try.prog 31 #[.slice a n cap, .int .i64 (mm : Int), .int .i64 (bb : Int)] w (Says w (n ≤ mm ∧ ∀ s ∈ ss, s.size ≤ bb)) := by
  have HN := hid hn
  have HR := hid hr
  clear hn hr
  go_enter Try.func31, Try.ntmps31
  go_wp2
  go_loopg [7] n (fun g x wr => ∃ j : Nat, j + g = n ∧ x = .int .i64 (j : Int) ∧ (∀ s ∈ ss.take j, s.size ≤ bb) ∧ wr = w)
  case atStart => exact ⟨0, by omega, rfl, by simp, rfl⟩
  case round =>
    obtain ⟨j, hj, rfl, hp, rfl⟩ := hrel
    cases gk with
    | zero =>
      have hjn : j = n := by omega
      subst hjn
      have HP : Hid (∀ s ∈ ss, s.size ≤ bb) := hid (by rw [HN.out, List.take_of_length_le (Nat.le_refl _)] at hp; exact hp)
      clear hp
      by_cases hm : (j : Int) ≤ (mm : Int)
      · go_wp2
        go_ret
        exact Says.yes (Below.refl _ _) ⟨by omega, HP.out⟩
      · go_wp2
        go_ret
        exact Says.no (Below.refl _ _)
    | succ g =>
      obtain ⟨s, hs⟩ : ∃ s, ss[j]? = some s := ⟨ss[j]'(by have := HN.out; omega), List.getElem?_eq_getElem _⟩
      obtain ⟨hsz, b, off, rfl, hc⟩ := HR.out j s hs
      have hjI : (j : Int) < (n : Int) := by omega
      have hj0 : (0 : Int) ≤ (j : Int) := by omega
      have hszI : (s.size : Int) ≤ 9223372036854775807 := by omega
      have ht : Hid (ss.take (j + 1) = ss.take j ++ [s]) := hid (by rw [List.take_add_one, hs]; rfl)
      have HP := hid hp
      clear hp hs
      by_cases hl : (bb : Int) < (s.size : Int)
      · go_wp2
        go_ret
        exact Says.no (Below.refl _ _)
      · have HL := hid hl
        go_wp2
        go_roundg g
        case measure => omega
        exact ⟨j + 1, by omega, by go_num, fun x hx => by
          rw [ht.out] at hx
          rcases List.mem_append.1 hx with hx | hx
          · exact HP.out x hx
          · simp at hx; subst hx; have := HL.out; omega, rfl⟩
theorem BkW.below {w w' : World} {x : Blk} (h : BkW w x) (k : Below w.heap.size w w') : BkW w' x := ⟨h.n, h.nb, h.r.below k, h.z⟩
theorem BRw.below {w w' : World} {a : Option Addr} {l : List Blk} (h : BRw w a l) (k : Below w.heap.size w w') : BRw w' a l := by
  refine ⟨fun j x hx => ?_, fun x hx => (h.e x hx).below k⟩
  obtain ⟨b, off, rfl, hc⟩ := h.c j x hx
  refine ⟨b, off, rfl, fun i hi => ?_⟩
  have h1 := hc i hi
  have hl : x.cs.size = 5 := rfl
  have : ∃ u, w.cell? ⟨b, off + j * 5 + i, none⟩ = some u := ⟨x.cs[i]'(by omega), by rw [h1]; exact Array.getElem?_eq_getElem _⟩
  obtain ⟨u, hu⟩ := this
  exact (k.cell (p := ⟨b, off + j * 5 + i, none⟩) (World.block_lt_of_cell? w _ hu)).trans h1
/- A unit's graphs as they came in. -/
structure GwRd (w : World) (a : Option Addr) (n : Nat) (gl : List Gr) : Prop where
  n1 : n = gl.length
  n2 : n ≤ 140737488355328
  rd : CRd w a 2 (gl.map Gr.cs)
  el : ∀ g ∈ gl, g.n = g.bs.length ∧ g.n ≤ 140737488355328 ∧ BRw w g.a g.bs
theorem GwRd.below {w w' : World} {a : Option Addr} {n : Nat} {gl : List Gr} (h : GwRd w a n gl) (k : Below w.heap.size w w') : GwRd w' a n gl := ⟨h.n1, h.n2, h.rd.below (Nat.le_refl _) k, fun g hg => ⟨(h.el g hg).1, (h.el g hg).2.1, (h.el g hg).2.2.below k⟩⟩
/- What a unit that is few is. -/
def FewU (U : CH) (gl el : List Gr) (ts : List ByteArray) (R : Prop) : Prop := ((∀ g ∈ gl, tot g.bs ≤ 2500) ∧ (∀ g ∈ el, tot g.bs ≤ 2500)) ∧ U.fn ≤ 20 ∧ U.en ≤ 20 ∧ R ∧ (U.tn ≤ 1100 ∧ ∀ s ∈ ts, s.size ≤ 200) ∧ U.inn ≤ 1100
set_option maxRecDepth 100000 in
set_option maxHeartbeats 4000000 in
theorem fewUnit_any (w : World) (U : CH) (ts : List ByteArray) (gl el : List Gr) (R : Prop) (KP : ∀ V : World, Below w.heap.size w V → Calls Try.prog 30 #[U.h.v] V (Says V R)) (ht1 : U.tn = ts.length) (ht2 : U.tn ≤ 9223372036854775807) (htr : SRd w U.ta ts) (hi2 : U.inn ≤ 9223372036854775807) (df : GwRd w U.fa U.fn gl) (de : GwRd w U.ea U.en el) :
    Calls Try.prog 11 #[U.v] w (Says w (FewU U gl el ts R)) := by
  obtain ⟨W0, hW0⟩ : ∃ W0, W0 = w.alloc (.cells U.cs 48) := ⟨_, rfl⟩
  have bw : Below w.heap.size w W0 := by rw [hW0]; exact (Below.refl _ _).alloc (Nat.le_refl _) _
  have q0 : W0.heap[w.heap.size]? = some (.cells U.cs 48 (0, 0)) := by rw [hW0]; exact heap_alloc_new w _
  have KS := hid (fun (V : World) (hV : Below w.heap.size w V) => short_any V U.ta U.tn U.tc ts ht1 ht2 (htr.below (Nat.le_refl _) hV) 1100 200)
  have KP := hid KP
  have fn2 := df.n2
  have en2 := de.n2
  have FN := hid df.n1
  have EN := hid de.n1
  have DF := hid (fun (V : World) (hV : Below w.heap.size w V) => df.below hV)
  have DE := hid (fun (V : World) (hV : Below w.heap.size w V) => de.below hV)
  have GT : Hid (∀ V : World, Below W0.heap.size W0 V → V.heap[w.heap.size]? = some (.cells U.cs 48 (0, 0)) ∧ Below w.heap.size w V) := hid (fun V hV => ⟨(hV.block _ (lt_of_heap q0)).trans q0, bw.trans (hV.mono bw.size)⟩)
  have TR : Hid (∀ {x y : World}, Below W0.heap.size W0 x → Below x.heap.size x y → Below W0.heap.size W0 y) := hid (fun h1 h2 => h1.trans (h2.mono h1.size))
  obtain ⟨FU, hFU⟩ : ∃ FU : Prop, FU = FewU U gl el ts R := ⟨_, rfl⟩
  rw [← hFU]
  have HFU : Hid ((((∀ g ∈ gl, tot g.bs ≤ 2500) ∧ (∀ g ∈ el, tot g.bs ≤ 2500)) ∧ U.fn ≤ 20 ∧ U.en ≤ 20 ∧ R ∧ (U.tn ≤ 1100 ∧ ∀ s ∈ ts, s.size ≤ 200) ∧ U.inn ≤ 1100) → FU) := hid (fun h => by rw [hFU]; exact h)
  clear hFU bw q0 df de htr ht1
  obtain ⟨⟨ra, rn, rc, ma, mn, mc, pfa, pfn, pfc, pea, pen, pec⟩, ia, inn, ic, ta, tn, tc, ga, gn, gc, ha, hn, hc⟩ := U
  simp only [CH.v, CH.cs, PH.v] at hW0 GT KS KP DF DE FN EN fn2 en2 HFU ht2 hi2 ⊢
  have CL : Hid (∀ V : World, Below W0.heap.size W0 V → ((V.cell? ⟨w.heap.size, 0, none⟩ = some (.slice ra rn rc) ∧ V.cell? ⟨w.heap.size, 1, none⟩ = some (.slice ma mn mc) ∧ V.cell? ⟨w.heap.size, 2, none⟩ = some (.slice pfa pfn pfc) ∧ V.cell? ⟨w.heap.size, 3, none⟩ = some (.slice pea pen pec)) ∧ V.cell? ⟨w.heap.size, 4, none⟩ = some (.slice ia inn ic) ∧ V.cell? ⟨w.heap.size, 5, none⟩ = some (.slice ta tn tc) ∧ V.cell? ⟨w.heap.size, 6, none⟩ = some (.slice ga gn gc) ∧ V.cell? ⟨w.heap.size, 7, none⟩ = some (.slice ha hn hc)) ∧ Below w.heap.size w V) := hid (fun V hV => by
    obtain ⟨g, gb⟩ := GT.out V hV
    exact ⟨⟨⟨cellOf g 0, cellOf g 1, cellOf g 2, cellOf g 3⟩, cellOf g 4, cellOf g 5, cellOf g 6, cellOf g 7⟩, gb⟩)
  have gnI : (gn : Int) ≤ 140737488355328 := by omega
  have hnI : (hn : Int) ≤ 140737488355328 := by omega
  go_enter Try.func11, Try.ntmps11
  go_upto_region 1 with fail
  rw [← hW0]
  clear hW0
  go_wp2
  go_loopg [3] gn (fun g x wr => ∃ j : Nat, j + g = gn ∧ x = .int .i64 (j : Int) ∧ (∀ s ∈ gl.take j, tot s.bs ≤ 2500) ∧ Below W0.heap.size W0 wr)
  case atStart => exact ⟨0, by omega, rfl, by simp, Below.refl _ _⟩
  case round =>
    obtain ⟨j, hj, rfl, hp, hb⟩ := hrel
    obtain ⟨⟨⟨c0, c1, c2, c3⟩, c4, c5, c6, c7⟩, hbw⟩ := CL.out wr hb
    cases gk with
    | succ g =>
      have hlj : j < gl.length := by rw [← FN.out]; omega
      have hgj : gl[j]? = some gl[j] := List.getElem?_eq_getElem hlj
      have ht : Hid (gl.take (j + 1) = gl.take j ++ [gl[j]]) := hid (by rw [List.take_add_one, hgj]; rfl)
      obtain ⟨b, off, ea, hbl, hc⟩ := (DF.out wr hbw).rd j (gl[j]).cs (by simp [hgj])
      obtain ⟨k1, k2, k3⟩ := (DF.out wr hbw).el _ (List.getElem_mem hlj)
      generalize gl[j] = gj at hgj hc k1 k2 k3 ht
      obtain ⟨regs, oa, on, oc, bs⟩ := gj
      subst ea
      have s0 := hc 0 (by omega)
      have s1 := hc 1 (by omega)
      simp only [Gr.cs, List.getElem?_cons_zero, List.getElem?_cons_succ, Nat.add_zero] at s0 s1 k1 k2 k3
      have K29 := hid (few_any wr regs oa on oc bs k1 k2 k3)
      have hjI : (j : Int) < (gn : Int) := by omega
      have hj0 : (0 : Int) ≤ (j : Int) := by omega
      have HP := hid hp
      have HB := hid hb
      have HBW := hid hbw
      clear hp hb hbw hgj hc hbl k1 k2 k3 hlj
      by_cases hl : tot bs ≤ 2500
      · have HL := hid hl
        rw [show decide (tot bs ≤ 2500) = true from by simp [hl]] at K29
        clear hl
        go_wp2_with (go_at_call 29; (refine (Hid.out K29).mono ?_; rintro e w2 ⟨rfl, hb2⟩; have HB2 := hid (TR.out HB.out hb2); clear hb2))
        go_roundg g
        case measure => omega
        exact ⟨j + 1, by omega, by go_num, fun x hx => by
          rw [ht.out] at hx
          rcases List.mem_append.1 hx with hx | hx
          · exact HP.out x hx
          · simp at hx; subst hx; exact HL.out, HB2.out⟩
      · rw [show decide (tot bs ≤ 2500) = false from by simp [hl]] at K29
        clear hl
        go_wp2_with (go_at_call 29; (refine (Hid.out K29).mono ?_; rintro e w2 ⟨rfl, hb2⟩; have HB2 := hid (TR.out HB.out hb2); clear hb2))
        go_ret
        exact Says.no (GT.out _ HB2.out).2
    | zero =>
      have hjn : j = gn := by omega
      subst hjn
      have HP : Hid (∀ g ∈ gl, tot g.bs ≤ 2500) := hid (by rw [FN.out, List.take_of_length_le (Nat.le_refl _)] at hp; exact hp)
      have HB := hid hb
      clear hp hb hbw
      go_upto_region 6 with fail
      clear c0 c1 c2 c3 c4 c5 c6 c7
      go_wp2
      go_loopg [4] hn (fun g x wr => ∃ j : Nat, j + g = hn ∧ x = .int .i64 (j : Int) ∧ (∀ s ∈ el.take j, tot s.bs ≤ 2500) ∧ Below W0.heap.size W0 wr)
      case atStart => exact ⟨0, by omega, rfl, by simp, HB.out⟩
      case round =>
        obtain ⟨i, hi, rfl, hp, hb⟩ := hrel
        obtain ⟨⟨⟨c0, c1, c2, c3⟩, c4, c5, c6, c7⟩, hbw⟩ := CL.out wr hb
        cases gk with
        | succ g =>
          have hlj : i < el.length := by rw [← EN.out]; omega
          have hgj : el[i]? = some el[i] := List.getElem?_eq_getElem hlj
          have ht : Hid (el.take (i + 1) = el.take i ++ [el[i]]) := hid (by rw [List.take_add_one, hgj]; rfl)
          obtain ⟨b, off, ea, hbl, hc⟩ := (DE.out wr hbw).rd i (el[i]).cs (by simp [hgj])
          obtain ⟨k1, k2, k3⟩ := (DE.out wr hbw).el _ (List.getElem_mem hlj)
          generalize el[i] = gj at hgj hc k1 k2 k3 ht
          obtain ⟨regs, oa, on, oc, bs⟩ := gj
          subst ea
          have s0 := hc 0 (by omega)
          have s1 := hc 1 (by omega)
          simp only [Gr.cs, List.getElem?_cons_zero, List.getElem?_cons_succ, Nat.add_zero] at s0 s1 k1 k2 k3
          have K29 := hid (few_any wr regs oa on oc bs k1 k2 k3)
          have hjI : (i : Int) < (hn : Int) := by omega
          have hj0 : (0 : Int) ≤ (i : Int) := by omega
          have HQ := hid hp
          have HBB := hid hb
          clear hp hb hbw hgj hc hbl k1 k2 k3 hlj HB
          by_cases hl : tot bs ≤ 2500
          · have HL := hid hl
            rw [show decide (tot bs ≤ 2500) = true from by simp [hl]] at K29
            clear hl
            go_wp2_with (go_at_call 29; (refine (Hid.out K29).mono ?_; rintro e w2 ⟨rfl, hb2⟩; have HB2 := hid (TR.out HBB.out hb2); clear hb2))
            go_roundg g
            case measure => omega
            exact ⟨i + 1, by omega, by go_num, fun x hx => by
              rw [ht.out] at hx
              rcases List.mem_append.1 hx with hx | hx
              · exact HQ.out x hx
              · simp at hx; subst hx; exact HL.out, HB2.out⟩
          · rw [show decide (tot bs ≤ 2500) = false from by simp [hl]] at K29
            clear hl
            go_wp2_with (go_at_call 29; (refine (Hid.out K29).mono ?_; rintro e w2 ⟨rfl, hb2⟩; have HB2 := hid (TR.out HBB.out hb2); clear hb2))
            go_ret
            exact Says.no (GT.out _ HB2.out).2
        | zero =>
          have hin : i = hn := by omega
          subst hin
          have HQ : Hid (∀ g ∈ el, tot g.bs ≤ 2500) := hid (by rw [EN.out, List.take_of_length_le (Nat.le_refl _)] at hp; exact hp)
          have HBB := hid hb
          have HBW := hid hbw
          clear hp hb hbw HB
          have KP1 := hid (KP.out wr HBW.out)
          have NO := hid (fun (V : World) (hV : Below W0.heap.size W0 V) => (Says.no (GT.out V hV).2 : Says w FU _ V))
          by_cases h1 : (j : Int) ≤ 20
          · by_cases h2 : (i : Int) ≤ 20
            · go_wp2_with (first
                | (have hno := e3; (go_at_call 31; (refine (Hid.out KS2).mono ?_; rintro e w3 ⟨hb3, b3, rfl, hS⟩; have HB3 := hid (TR.out HB2.out hb3); clear c0 c1 c2 c3 c4 c5 c6 c7; obtain ⟨⟨⟨c0, c1, c2, c3⟩, c4, c5, c6, c7⟩, hbw3⟩ := CL.out w3 HB3.out; have HS := hid hS; clear hb3 hS hbw3; cases b3)))
                | (go_at_call 30; (refine (Hid.out KP1).mono ?_; rintro e w2 ⟨hb2, b2, rfl, hR⟩; have HB2 := hid (TR.out HBB.out hb2); clear c0 c1 c2 c3 c4 c5 c6 c7; obtain ⟨⟨⟨c0, c1, c2, c3⟩, c4, c5, c6, c7⟩, hbw2⟩ := CL.out w2 HB2.out; have KS2 := hid (KS.out w2 hbw2); have HR := hid hR; have e3 := True.intro; clear hb2 hR hbw2; cases b2)))
              all_goals go_ret
              all_goals first
                | exact NO.out _ HB3.out
                | exact NO.out _ HB2.out
                | exact Says.dec (GT.out _ HB3.out).2 (fun h3 => HFU.out ⟨⟨HP.out, HQ.out⟩, by omega, by omega, HR.out (by trivial), HS.out (by trivial), by omega⟩)
            · go_wp2
              go_ret
              exact NO.out _ HBB.out
          · go_wp2
            go_ret
            exact NO.out _ HBB.out
end Go.Proofs.Ytmhjnfibpngpmaa

namespace Go.Proofs.Ytmhjnfibpngpmaa
open Go.RowKit Go.Deep Go.Shelf
set_option linter.unusedVariables false
set_option linter.unusedSimpArgs false
set_option maxRecDepth 100000 in
set_option maxHeartbeats 1000000 in
theorem sameTypes_yes (w : World) (a b : Option Addr) (n c1 c2 : Nat) (ts : List TyP) (hn : n = ts.length) (hnb : n ≤ 9223372036854775807) (h1 : TRd w a ts) (h2 : TRd w b ts) :
    Calls Try.prog 87 #[.slice a n c1, .slice b n c2] w fun e w' => e = .returned (.bool true) ∧ Below w.heap.size w w' := by
  have hnI : (n : Int) ≤ 9223372036854775807 := by omega
  have HN := hid hn
  have H1 := hid h1
  have H2 := hid h2
  have nb : ((n : Int) != (n : Int)) = false := by simp
  clear hn h1 h2
  go_enter Try.func87, Try.ntmps87
  go_wp2
  go_loopg [5] n (fun g x wr => ∃ j : Nat, j + g = n ∧ x = .int .i64 (j : Int) ∧ Below w.heap.size w wr)
  case atStart => exact ⟨0, by omega, rfl, Below.refl _ _⟩
  case round =>
    obtain ⟨j, hj, rfl, hb⟩ := hrel
    cases gk with
    | zero =>
      have hjn : j = n := by omega
      subst hjn
      have HB := hid hb
      clear hb
      go_wp2
      go_ret
      exact ⟨rfl, HB.out⟩
    | succ g =>
      obtain ⟨t, ht⟩ : ∃ t, ts[j]? = some t := ⟨ts[j]'(by have := HN.out; omega), List.getElem?_eq_getElem _⟩
      obtain ⟨b1, o1, rfl, x0, x1⟩ := (H1.out.below (Nat.le_refl _) hb) j t ht
      obtain ⟨b2, o2, rfl, y0, y1⟩ := (H2.out.below (Nat.le_refl _) hb) j t ht
      obtain ⟨tk, tr⟩ := t
      simp only at x0 x1 y0 y1
      have hjI : (j : Int) < (n : Int) := by omega
      have hj0 : (0 : Int) ≤ (j : Int) := by omega
      have HB := hid hb
      clear hb ht
      go_wp2
      go_quiet (fail)
      go_wp2
      go_roundg g
      case measure => omega
      exact ⟨j + 1, by omega, by go_num, bel_dN HB.out _⟩
set_option maxRecDepth 100000 in
set_option maxHeartbeats 4000000 in
theorem sameSigs_yes (w : World) (a b : Option Addr) (n c1 c2 : Nat) (g1 g2 : List (GH × Sg)) (d1 : GRd w a n g1) (d2 : GRd w b n g2) (he : g1.map (·.2) = g2.map (·.2)) :
    Calls Try.prog 86 #[.slice a n c1, .slice b n c2] w fun e w' => e = .returned (.bool true) ∧ Below w.heap.size w w' := by
  have hnI : (n : Int) ≤ 9223372036854775807 := by have := d1.n2; omega
  have D1 := hid d1
  have D2 := hid d2
  have HE := hid he
  have nb : ((n : Int) != (n : Int)) = false := by simp
  clear d1 d2 he
  go_enter Try.func86, Try.ntmps86
  go_wp2
  go_loopg [5] n (fun g x wr => ∃ j : Nat, j + g = n ∧ x = .int .i64 (j : Int) ∧ Below w.heap.size w wr)
  case atStart => exact ⟨0, by omega, rfl, Below.refl _ _⟩
  case round =>
    obtain ⟨j, hj, rfl, hb⟩ := hrel
    cases gk with
    | zero =>
      have hjn : j = n := by omega
      subst hjn
      have HB := hid hb
      clear hb
      go_wp2
      go_ret
      exact ⟨rfl, HB.out⟩
    | succ g =>
      have dA := D1.out.below (Nat.le_refl _) hb
      have dB := D2.out.below (Nat.le_refl _) hb
      have l1 : j < g1.length := by rw [← dA.n1]; omega
      have l2 : j < g2.length := by rw [← dB.n1]; omega
      have e1 : g1[j]? = some g1[j] := List.getElem?_eq_getElem l1
      have e2 : g2[j]? = some g2[j] := List.getElem?_eq_getElem l2
      have hss : (g1[j]).2 = (g2[j]).2 := by
        have h1 : (g1.map (·.2))[j]? = some (g1[j]).2 := by rw [List.getElem?_map, e1]; rfl
        have h2 : (g2.map (·.2))[j]? = some (g2[j]).2 := by rw [List.getElem?_map, e2]; rfl
        rw [HE.out, h2] at h1
        exact (Option.some.inj h1).symm
      obtain ⟨b1, o1, rfl, _, hc1⟩ := dA.rd j (g1[j]).1.cs (by simp [e1])
      obtain ⟨b2, o2, rfl, _, hc2⟩ := dB.rd j (g2[j]).1.cs (by simp [e2])
      have s1 := dA.el _ (List.getElem_mem l1)
      have s2 := dB.el _ (List.getElem_mem l2)
      generalize g1[j] = p1 at hss hc1 s1
      generalize g2[j] = p2 at hss hc2 s2
      obtain ⟨⟨nm1, pa1, pn1, pc1, k1, r1⟩, sg1⟩ := p1
      obtain ⟨⟨nm2, pa2, pn2, pc2, k2, r2⟩, sg2⟩ := p2
      simp only at hss
      subst hss
      obtain rfl : nm1 = nm2 := (show nm1 = _ from s1.nm).trans (show nm2 = _ from s2.nm).symm
      obtain rfl : pn1 = pn2 := (show pn1 = _ from s1.pn).trans (show pn2 = _ from s2.pn).symm
      have hres := (show (k1, r1) = _ from s1.rs).trans (show (k2, r2) = _ from s2.rs).symm
      obtain rfl : k1 = k2 := congrArg Prod.fst hres
      obtain rfl : r1 = r2 := congrArg Prod.snd hres
      have x0 := hc1 0 (by omega)
      have x1 := hc1 1 (by omega)
      have x2 := hc1 2 (by omega)
      have x3 := hc1 3 (by omega)
      have y0 := hc2 0 (by omega)
      have y1 := hc2 1 (by omega)
      have y2 := hc2 2 (by omega)
      have y3 := hc2 3 (by omega)
      simp only [GH.cs, List.getElem?_cons_zero, List.getElem?_cons_succ, Nat.add_zero] at x0 x1 x2 x3 y0 y1 y2 y3
      have hjI : (j : Int) < (n : Int) := by omega
      have hj0 : (0 : Int) ≤ (j : Int) := by omega
      have K := hid (sameTypes_yes wr.drew pa1 pa2 pn1 pc1 pc2 sg1.params s1.pn s1.p2 (s1.pr.below (Nat.le_refl _) (Below.refl _ wr).drew) (s2.pr.below (Nat.le_refl _) (Below.refl _ wr).drew))
      have HB := hid hb
      have ST : Hid (∀ v : World, Below wr.heap.size wr v → v.cell? ⟨b1, o1 + j * 4, none⟩ = some (.string nm1) ∧ v.cell? ⟨b1, o1 + j * 4 + 1, none⟩ = some (.slice pa1 pn1 pc1) ∧ v.cell? ⟨b1, o1 + j * 4 + 2, none⟩ = some (.int .i64 k1) ∧ v.cell? ⟨b1, o1 + j * 4 + 3, none⟩ = some (.int .i64 r1) ∧ v.cell? ⟨b2, o2 + j * 4, none⟩ = some (.string nm1) ∧ v.cell? ⟨b2, o2 + j * 4 + 1, none⟩ = some (.slice pa2 pn1 pc2) ∧ v.cell? ⟨b2, o2 + j * 4 + 2, none⟩ = some (.int .i64 k1) ∧ v.cell? ⟨b2, o2 + j * 4 + 3, none⟩ = some (.int .i64 r1)) := hid (fun v hv => by
        have k : ∀ (p : Addr) (x : Value), wr.cell? p = some x → v.cell? p = some x := fun p x h => (hv.cell (p := p) (World.block_lt_of_cell? wr p h)).trans h
        exact ⟨k _ _ x0, k _ _ x1, k _ _ x2, k _ _ x3, k _ _ y0, k _ _ y1, k _ _ y2, k _ _ y3⟩)
      clear hb dA dB l1 l2 e1 e2 hc1 hc2 s1 s2 hres
      go_upto_region 6 with fail
      go_region_held3 (fun v => v.cell? ⟨b1, o1 + j * 4, none⟩ = some (.string nm1) ∧ v.cell? ⟨b1, o1 + j * 4 + 1, none⟩ = some (.slice pa1 pn1 pc1) ∧ v.cell? ⟨b1, o1 + j * 4 + 2, none⟩ = some (.int .i64 k1) ∧ v.cell? ⟨b1, o1 + j * 4 + 3, none⟩ = some (.int .i64 r1) ∧ v.cell? ⟨b2, o2 + j * 4, none⟩ = some (.string nm1) ∧ v.cell? ⟨b2, o2 + j * 4 + 1, none⟩ = some (.slice pa2 pn1 pc2) ∧ v.cell? ⟨b2, o2 + j * 4 + 2, none⟩ = some (.int .i64 k1) ∧ v.cell? ⟨b2, o2 + j * 4 + 3, none⟩ = some (.int .i64 r1)) (first | exact s8 | go_keep) (first
        | (go_at_call 87; (refine (Hid.out K).mono ?_; rintro e w8 ⟨rfl, hb8⟩; have h8 : Below wr.heap.size wr w8 := (Below.refl _ wr).drew.trans hb8; have s8 := ST.out w8 h8)))
      go_wp2
      go_roundg g
      case measure => omega
      exact ⟨j + 1, by omega, by go_num, HB.out.trans (h8.mono HB.out.size)⟩
end Go.Proofs.Ytmhjnfibpngpmaa

namespace Go.Proofs.Ytmhjnfibpngpmaa
open Go.RowKit Go.Deep Go.Shelf
set_option linter.unusedVariables false
set_option linter.unusedSimpArgs false
set_option maxRecDepth 100000 in
set_option maxHeartbeats 4000000 in
theorem sameFns_yes (w : World) (a b : Option Addr) (n c1 c2 : Nat) (g1 g2 : List (FH × Fx)) (d1 : FRd w a n g1) (d2 : FRd w b n g2) (he : g1.map (·.2) = g2.map (·.2)) :
    Calls Try.prog 39 #[.slice a n c1, .slice b n c2] w fun e w' => e = .returned (.bool true) ∧ Below w.heap.size w w' := by
  have hnI : (n : Int) ≤ 9223372036854775807 := by have := d1.n2; omega
  have D1 := hid d1
  have D2 := hid d2
  have HE := hid he
  have nb : ((n : Int) != (n : Int)) = false := by simp
  clear d1 d2 he
  go_enter Try.func39, Try.ntmps39
  go_wp2
  go_loopg [5] n (fun g x wr => ∃ j : Nat, j + g = n ∧ x = .int .i64 (j : Int) ∧ Below w.heap.size w wr)
  case atStart => exact ⟨0, by omega, rfl, Below.refl _ _⟩
  case round =>
    obtain ⟨j, hj, rfl, hb⟩ := hrel
    cases gk with
    | zero =>
      have hjn : j = n := by omega
      subst hjn
      have HB := hid hb
      clear hb
      go_wp2
      go_ret
      exact ⟨rfl, HB.out⟩
    | succ g =>
      obtain ⟨wo, hwo⟩ : ∃ wo, wo = wr := ⟨_, rfl⟩
      subst hwo
      have dA := D1.out.below (Nat.le_refl _) hb
      have dB := D2.out.below (Nat.le_refl _) hb
      have l1 : j < g1.length := by rw [← dA.n1]; omega
      have l2 : j < g2.length := by rw [← dB.n1]; omega
      have e1 : g1[j]? = some g1[j] := List.getElem?_eq_getElem l1
      have e2 : g2[j]? = some g2[j] := List.getElem?_eq_getElem l2
      have hss : (g1[j]).2 = (g2[j]).2 := by
        have h1 : (g1.map (·.2))[j]? = some (g1[j]).2 := by rw [List.getElem?_map, e1]; rfl
        have h2 : (g2.map (·.2))[j]? = some (g2[j]).2 := by rw [List.getElem?_map, e2]; rfl
        rw [HE.out, h2] at h1
        exact (Option.some.inj h1).symm
      obtain ⟨b1, o1, rfl, _, hc1⟩ := dA.rd j (g1[j]).1.cs (by simp [e1])
      obtain ⟨b2, o2, rfl, _, hc2⟩ := dB.rd j (g2[j]).1.cs (by simp [e2])
      have s1 := dA.el _ (List.getElem_mem l1)
      have s2 := dB.el _ (List.getElem_mem l2)
      generalize g1[j] = p1 at hss hc1 s1
      generalize g2[j] = p2 at hss hc2 s2
      obtain ⟨⟨r1, oa1, on1, oc1⟩, f1⟩ := p1
      obtain ⟨⟨r2, oa2, on2, oc2⟩, f2⟩ := p2
      simp only at hss
      subst hss
      obtain rfl : r1 = r2 := (show r1 = _ from s1.rg).trans (show r2 = _ from s2.rg).symm
      obtain rfl : on1 = on2 := (show on1 = _ from s1.on).trans (show on2 = _ from s2.on).symm
      have x0 := hc1 0 (by omega)
      have x1 := hc1 1 (by omega)
      have y0 := hc2 0 (by omega)
      have y1 := hc2 1 (by omega)
      simp only [FH.cs, List.getElem?_cons_zero, List.getElem?_cons_succ, Nat.add_zero] at x0 x1 y0 y1
      have hjI : (j : Int) < (n : Int) := by omega
      have hj0 : (0 : Int) ≤ (j : Int) := by omega
      have hon2 : (on1 : Int) ≤ 9223372036854775807 := by have : on1 ≤ _ := s1.o2; omega
      have HON : Hid (on1 = f1.ops.length) := hid s1.on
      have R1 : Hid (ORd wo oa1 f1.ops) := hid s1.or
      have R2 : Hid (ORd wo oa2 f1.ops) := hid s2.or
      have nb2 : ((on1 : Int) != (on1 : Int)) = false := by simp
      have nb3 : (r1 != r1) = false := by simp
      have HB := hid hb
      have ST : Hid (∀ v : World, Below wo.heap.size wo v → v.cell? ⟨b1, o1 + j * 2, none⟩ = some (.int .i64 r1) ∧ v.cell? ⟨b1, o1 + j * 2 + 1, none⟩ = some (.slice oa1 on1 oc1) ∧ v.cell? ⟨b2, o2 + j * 2, none⟩ = some (.int .i64 r1) ∧ v.cell? ⟨b2, o2 + j * 2 + 1, none⟩ = some (.slice oa2 on1 oc2)) := hid (fun v hv => by
        have k : ∀ (p : Addr) (x : Value), wo.cell? p = some x → v.cell? p = some x := fun p x h => (hv.cell (p := p) (World.block_lt_of_cell? wo p h)).trans h
        exact ⟨k _ _ x0, k _ _ x1, k _ _ y0, k _ _ y1⟩)
      clear hb dA dB l1 l2 e1 e2 hc1 hc2 s1 s2
      go_upto_region 6 with fail
      go_quiet (fail)
      obtain ⟨A, hA⟩ : ∃ A, A = wo.drewN nq := ⟨_, rfl⟩
      have bA : Below wo.heap.size wo A := by rw [hA]; exact bel_dN (Below.refl _ _) _
      rw [← hA]
      clear hA x0 x1 y0 y1
      obtain ⟨x0, x1, y0, y1⟩ := ST.out A bA
      have BA := hid bA
      clear bA
      go_wp2
      go_loopg [6] on1 (fun g2 x wr2 => ∃ i : Nat, i + g2 = on1 ∧ x = .int .i64 (i : Int) ∧ Below wo.heap.size wo wr2)
      case atStart => exact ⟨0, by omega, rfl, BA.out⟩
      case round =>
        obtain ⟨i, hi, rfl, hb2⟩ := hrel
        clear x0 x1 y0 y1
        obtain ⟨x0, x1, y0, y1⟩ := ST.out wr hb2
        cases gk with
        | zero =>
          have hin : i = on1 := by omega
          subst hin
          have HB2 := hid hb2
          clear hb2
          go_wp2
          go_roundg g
          case measure => omega
          exact ⟨j + 1, by omega, by go_num, HB.out.trans (HB2.out.mono HB.out.size)⟩
        | succ g2 =>
          obtain ⟨o, ho⟩ : ∃ o, f1.ops[i]? = some o := ⟨f1.ops[i]'(by have := HON.out; omega), List.getElem?_eq_getElem _⟩
          obtain ⟨p1, q1, rfl, hcl1⟩ := (R1.out.below hb2) i o ho
          obtain ⟨p2, q2, rfl, hcl2⟩ := (R2.out.below hb2) i o ho
          have hiI : (i : Int) < (on1 : Int) := by omega
          have hi0 : (0 : Int) ≤ (i : Int) := by omega
          obtain ⟨xc, xd, xa, xb, xk⟩ := o
          have i0 := hcl1 0 (by omega)
          have i1 := hcl1 1 (by omega)
          have i2 := hcl1 2 (by omega)
          have i3 := hcl1 3 (by omega)
          have i4 := hcl1 4 (by omega)
          have k0 := hcl2 0 (by omega)
          have k1 := hcl2 1 (by omega)
          have k2 := hcl2 2 (by omega)
          have k3 := hcl2 3 (by omega)
          have k4 := hcl2 4 (by omega)
          simp only [Opx.cs, List.getElem?_toArray, List.getElem?_cons_zero, List.getElem?_cons_succ, Nat.add_zero] at i0 i1 i2 i3 i4 k0 k1 k2 k3 k4
          have HB2 := hid hb2
          clear hb2 hcl1 hcl2 ho
          go_wp2
          go_quiet (fail)
          go_wp2
          go_roundg g2
          case measure => omega
          exact ⟨i + 1, by omega, by go_num, bel_dN HB2.out _⟩
end Go.Proofs.Ytmhjnfibpngpmaa

namespace Go.Proofs.Ytmhjnfibpngpmaa
open Go.RowKit Go.Deep Go.Shelf
set_option linter.unusedVariables false
set_option linter.unusedSimpArgs false
structure PEq (p q : Pg) : Prop where
  r : p.recs.map (·.2) = q.recs.map (·.2)
  m : p.maps = q.maps
  f : p.funcs.map (·.2) = q.funcs.map (·.2)
  e : p.events.map (·.2) = q.events.map (·.2)
theorem two_al (w : World) (a b : Obj) : ((w.alloc a).alloc b).drew.heap[w.heap.size]? = some a ∧ ((w.alloc a).alloc b).drew.heap[w.heap.size + 1]? = some b ∧ Below w.heap.size w ((w.alloc a).alloc b).drew := by
  refine ⟨(Below.heap_alloc _ _ _ (by simp)).trans (heap_alloc_new w _), ?_, (((Below.refl _ w).alloc (Nat.le_refl _) _).alloc (by simp) _).drew⟩
  have := heap_alloc_new (w.alloc a) b
  rw [World.size_alloc] at this; exact this
set_option maxRecDepth 100000 in
set_option maxHeartbeats 8000000 in
theorem sameProgram_yes (w : World) (h k : PH) (p q : Pg) (d1 : PRd w h p) (d2 : PRd w k q) (he : PEq p q) :
    Calls Try.prog 38 #[h.v, k.v] w fun e w' => e = .returned (.bool true) ∧ Below w.heap.size w w' := by
  have er : h.rn = k.rn := by rw [d1.r.n1, d2.r.n1]; have := congrArg List.length he.r; rw [List.length_map, List.length_map] at this; exact this
  have em : h.mn = k.mn := by rw [d1.m.n1, d2.m.n1, he.m]
  have ef : h.fn = k.fn := by rw [d1.f.n1, d2.f.n1]; have := congrArg List.length he.f; rw [List.length_map, List.length_map] at this; exact this
  have ee : h.en = k.en := by rw [d1.e.n1, d2.e.n1]; have := congrArg List.length he.e; rw [List.length_map, List.length_map] at this; exact this
  have r1 := d1.r
  have r2 := d2.r
  have m1 := d1.m
  have m2 := d2.m
  have f1 := d1.f
  have f2 := d2.f
  have e1 := d1.e
  have e2 := d2.e
  obtain ⟨ra, rn, rc, ma, mn, mc, fa, fn, fc, ea, en, ec⟩ := h
  obtain ⟨ra2, rn2, rc2, ma2, mn2, mc2, fa2, fn2, fc2, ea2, en2, ec2⟩ := k
  simp only at er em ef ee r1 r2 m1 m2 f1 f2 e1 e2
  subst er em ef ee
  simp only [PH.v]
  obtain ⟨W0, hW0⟩ : ∃ W0, W0 = (w.alloc (.cells #[.slice ra rn rc, .slice ma mn mc, .slice fa fn fc, .slice ea en ec] 36)).alloc (.cells #[.slice ra2 rn rc2, .slice ma2 mn mc2, .slice fa2 fn fc2, .slice ea2 en ec2] 36) := ⟨_, rfl⟩
  have bw : Below w.heap.size w W0 := by rw [hW0]; exact ((Below.refl _ _).alloc (Nat.le_refl _) _).alloc (by simp) _
  have q0 : W0.heap[w.heap.size]? = some (.cells #[.slice ra rn rc, .slice ma mn mc, .slice fa fn fc, .slice ea en ec] 36 (0, 0)) := by rw [hW0]; exact (Below.heap_alloc _ _ _ (by simp)).trans (heap_alloc_new w _)
  have q1 : W0.heap[w.heap.size + 1]? = some (.cells #[.slice ra2 rn rc2, .slice ma2 mn mc2, .slice fa2 fn fc2, .slice ea2 en ec2] 36 (0, 0)) := by
    have := heap_alloc_new (w.alloc (.cells #[.slice ra rn rc, .slice ma mn mc, .slice fa fn fc, .slice ea en ec] 36)) (.cells #[.slice ra2 rn rc2, .slice ma2 mn mc2, .slice fa2 fn fc2, .slice ea2 en ec2] 36)
    rw [World.size_alloc] at this
    rw [hW0]; exact this
  have GT : Hid (∀ V : World, Below W0.heap.size W0 V → ((V.cell? ⟨w.heap.size, 0, none⟩ = some (.slice ra rn rc) ∧ V.cell? ⟨w.heap.size, 1, none⟩ = some (.slice ma mn mc) ∧ V.cell? ⟨w.heap.size, 2, none⟩ = some (.slice fa fn fc) ∧ V.cell? ⟨w.heap.size, 3, none⟩ = some (.slice ea en ec)) ∧ V.cell? ⟨w.heap.size + 1, 0, none⟩ = some (.slice ra2 rn rc2) ∧ V.cell? ⟨w.heap.size + 1, 1, none⟩ = some (.slice ma2 mn mc2) ∧ V.cell? ⟨w.heap.size + 1, 2, none⟩ = some (.slice fa2 fn fc2) ∧ V.cell? ⟨w.heap.size + 1, 3, none⟩ = some (.slice ea2 en ec2)) ∧ Below w.heap.size w V) := hid (fun V hV => by
    have g0 := (hV.block _ (lt_of_heap q0)).trans q0
    have g1 := (hV.block _ (lt_of_heap q1)).trans q1
    exact ⟨⟨⟨cellOf g0 0, cellOf g0 1, cellOf g0 2, cellOf g0 3⟩, cellOf g1 0, cellOf g1 1, cellOf g1 2, cellOf g1 3⟩, bw.trans (hV.mono bw.size)⟩)
  have KF := hid (fun (V : World) (hV : Below w.heap.size w V) => sameSigs_yes V fa fa2 fn fc fc2 p.funcs q.funcs (f1.below (Nat.le_refl _) hV) (f2.below (Nat.le_refl _) hV) he.f)
  have KE := hid (fun (V : World) (hV : Below w.heap.size w V) => sameSigs_yes V ea ea2 en ec ec2 p.events q.events (e1.below (Nat.le_refl _) hV) (e2.below (Nat.le_refl _) hV) he.e)
  have R1 := hid r1
  have R2 := hid r2
  have M1 := hid m1
  have M2 := hid m2
  have HER := hid he.r
  have HEM := hid he.m
  have rnI : (rn : Int) ≤ 9223372036854775807 := by have := r1.n2; omega
  have mnI : (mn : Int) ≤ 9223372036854775807 := by have := m1.n2; omega
  have fnI : (fn : Int) ≤ 9223372036854775807 := by have := f1.n2; omega
  have enI : (en : Int) ≤ 9223372036854775807 := by have := e1.n2; omega
  have nb1 : ((rn : Int) != (rn : Int)) = false := by simp
  have nb2 : ((mn : Int) != (mn : Int)) = false := by simp
  have TR : Hid (∀ {x y : World}, Below W0.heap.size W0 x → Below x.heap.size x y → Below W0.heap.size W0 y) := hid (fun h1 h2 => h1.trans (h2.mono h1.size))
  obtain ⟨⟨⟨c0, c1, c2, c3⟩, d0, d1', d2', d3⟩, _⟩ := GT.out W0 (Below.refl _ _)
  clear d1 d2 he r1 r2 m1 m2 f1 f2 e1 e2 q0 q1
  have KF0 := hid (KF.out W0 bw)
  clear bw KF
  go_enter Try.func38, Try.ntmps38
  go_upto_region 1 with fail
  rw [← hW0]
  clear hW0
  go_upto_region 3 with (first
    | (have hno := hfirst; (go_at_call 86; (refine (KE.out w1 (GT.out w1 hb1).2).mono ?_; rintro e w2 ⟨rfl, hb2⟩; have HB2 := hid (TR.out hb1 hb2); clear c0 c1 c2 c3 d0 d1' d2' d3; obtain ⟨⟨⟨c0, c1, c2, c3⟩, d0, d1', d2', d3⟩, _⟩ := GT.out w2 HB2.out)))
    | (go_at_call 86; (refine (Hid.out KF0).mono ?_; rintro e w1 ⟨rfl, hb1⟩; clear c0 c1 c2 c3 d0 d1' d2' d3; obtain ⟨⟨⟨c0, c1, c2, c3⟩, d0, d1', d2', d3⟩, _⟩ := GT.out w1 hb1; have hfirst : True := trivial)))
  clear hb1 hb2 hfirst KF0 KE
  go_wp2
  go_loopg [5] rn (fun g x wr => ∃ j : Nat, j + g = rn ∧ x = .int .i64 (j : Int) ∧ Below W0.heap.size W0 wr)
  case atStart => exact ⟨0, by omega, rfl, HB2.out⟩
  case round =>
    obtain ⟨j, hj, rfl, hb⟩ := hrel
    clear c0 c1 c2 c3 d0 d1' d2' d3
    obtain ⟨⟨⟨c0, c1, c2, c3⟩, d0, d1', d2', d3⟩, gb⟩ := GT.out wr hb
    cases gk with
    | zero =>
      have hjn : j = rn := by omega
      subst hjn
      have HB := hid hb
      clear hb gb
      go_wp2
      go_loopg [9] mn (fun g2 x wr2 => ∃ i : Nat, i + g2 = mn ∧ x = .int .i64 (i : Int) ∧ Below W0.heap.size W0 wr2)
      case atStart => exact ⟨0, by omega, rfl, HB.out⟩
      case round =>
        obtain ⟨i, hi, rfl, hb⟩ := hrel
        clear c0 c1 c2 c3 d0 d1' d2' d3
        obtain ⟨⟨⟨c0, c1, c2, c3⟩, d0, d1', d2', d3⟩, gb⟩ := GT.out wr hb
        cases gk with
        | zero =>
          have hin : i = mn := by omega
          subst hin
          have GB := hid gb
          clear gb hb
          go_wp2
          go_ret
          exact ⟨rfl, GB.out⟩
        | succ g2 =>
          have mA := M1.out.below (Nat.le_refl _) gb
          have mB := M2.out.below (Nat.le_refl _) gb
          have l1 : i < p.maps.length := by rw [← mA.n1]; omega
          have e1 : p.maps[i]? = some p.maps[i] := List.getElem?_eq_getElem l1
          have e2 : q.maps[i]? = some p.maps[i] := by rw [← HEM.out]; exact e1
          obtain ⟨b1, o1, rfl, _, hc1⟩ := mA.rd i (p.maps[i]).cs (by simp [e1])
          obtain ⟨b2, o2, rfl, _, hc2⟩ := mB.rd i (p.maps[i]).cs (by rw [List.getElem?_map, e2]; rfl)
          generalize p.maps[i] = mm at hc1 hc2
          obtain ⟨nm, ⟨k1, k2⟩, ⟨v1, v2⟩⟩ := mm
          have x0 := hc1 0 (by omega)
          have x1 := hc1 1 (by omega)
          have x2 := hc1 2 (by omega)
          have x3 := hc1 3 (by omega)
          have x4 := hc1 4 (by omega)
          have y0 := hc2 0 (by omega)
          have y1 := hc2 1 (by omega)
          have y2 := hc2 2 (by omega)
          have y3 := hc2 3 (by omega)
          have y4 := hc2 4 (by omega)
          simp only [Mp.cs, List.getElem?_cons_zero, List.getElem?_cons_succ, Nat.add_zero] at x0 x1 x2 x3 x4 y0 y1 y2 y3 y4
          have hiI : (i : Int) < (mn : Int) := by omega
          have hi0 : (0 : Int) ≤ (i : Int) := by omega
          have HB := hid hb
          clear hb gb mA mB l1 e1 e2 hc1 hc2
          go_wp2
          go_quiet (fail)
          go_wp2
          go_roundg g2
          case measure => omega
          exact ⟨i + 1, by omega, by go_num, bel_dN HB.out _⟩
    | succ g =>
      have rA := R1.out.below (Nat.le_refl _) gb
      have rB := R2.out.below (Nat.le_refl _) gb
      have l1 : j < p.recs.length := by rw [← rA.n1]; omega
      have l2 : j < q.recs.length := by rw [← rB.n1]; omega
      have e1 : p.recs[j]? = some p.recs[j] := List.getElem?_eq_getElem l1
      have e2 : q.recs[j]? = some q.recs[j] := List.getElem?_eq_getElem l2
      have hss : (p.recs[j]).2 = (q.recs[j]).2 := by
        have h1 : (p.recs.map (·.2))[j]? = some (p.recs[j]).2 := by rw [List.getElem?_map, e1]; rfl
        have h2 : (q.recs.map (·.2))[j]? = some (q.recs[j]).2 := by rw [List.getElem?_map, e2]; rfl
        rw [HER.out, h2] at h1
        exact (Option.some.inj h1).symm
      obtain ⟨b1, o1, rfl, _, hc1⟩ := rA.rd j (p.recs[j]).1.cs (by simp [e1])
      obtain ⟨b2, o2, rfl, _, hc2⟩ := rB.rd j (q.recs[j]).1.cs (by simp [e2])
      have s1 := rA.el _ (List.getElem_mem l1)
      have s2 := rB.el _ (List.getElem_mem l2)
      generalize p.recs[j] = p1 at hss hc1 s1
      generalize q.recs[j] = p2 at hss hc2 s2
      obtain ⟨⟨nm1, xa1, xn1, xc1, ya1, yn1, yc1⟩, rx1⟩ := p1
      obtain ⟨⟨nm2, xa2, xn2, xc2, ya2, yn2, yc2⟩, rx2⟩ := p2
      simp only at hss
      subst hss
      obtain rfl : nm1 = nm2 := (show nm1 = _ from s1.nm).trans (show nm2 = _ from s2.nm).symm
      obtain rfl : xn1 = xn2 := (show xn1 = _ from s1.fn).trans (show xn2 = _ from s2.fn).symm
      obtain rfl : yn1 = yn2 := (show yn1 = _ from s1.tn).trans (show yn2 = _ from s2.tn).symm
      have x0 := hc1 0 (by omega)
      have x1 := hc1 1 (by omega)
      have x2 := hc1 2 (by omega)
      have y0 := hc2 0 (by omega)
      have y1 := hc2 1 (by omega)
      have y2 := hc2 2 (by omega)
      simp only [RH.cs, List.getElem?_cons_zero, List.getElem?_cons_succ, Nat.add_zero] at x0 x1 x2 y0 y1 y2
      have hjI : (j : Int) < (rn : Int) := by omega
      have hj0 : (0 : Int) ≤ (j : Int) := by omega
      have S1 := hid s1
      have S2 := hid s2
      have HB := hid hb
      have GB := hid gb
      obtain ⟨wo, hwo⟩ : ∃ wo, wo = wr := ⟨_, rfl⟩
      subst hwo
      clear hb gb rA rB l1 l2 e1 e2 hc1 hc2 s1 s2
      go_upto_region 6 with fail
      go_cut [6, 7] from 49 to 58 (fun s6 s7 wx => ∃ X Y : Nat, s6 = .pointer (some ⟨X, 0, none⟩) ∧ s7 = .pointer (some ⟨Y, 0, none⟩) ∧ wx.heap[X]? = some (.cells #[.string nm1, .slice xa1 xn1 xc1, .slice ya1 yn1 yc1] 32 (0, 0)) ∧ wx.heap[Y]? = some (.cells #[.string nm1, .slice xa2 xn1 xc2, .slice ya2 yn1 yc2] 32 (0, 0)) ∧ Below wo.heap.size wo wx)
      case first =>
        go_region_held3 (fun v => v.cell? ⟨w.heap.size, 0, none⟩ = some (.slice (some ⟨b1, o1, none⟩) rn rc) ∧ v.cell? ⟨w.heap.size + 1, 0, none⟩ = some (.slice (some ⟨b2, o2, none⟩) rn rc2) ∧ v.cell? ⟨b1, o1 + j * 3, none⟩ = some (.string nm1) ∧ v.cell? ⟨b1, o1 + j * 3 + 1, none⟩ = some (.slice xa1 xn1 xc1) ∧ v.cell? ⟨b1, o1 + j * 3 + 2, none⟩ = some (.slice ya1 yn1 yc1) ∧ v.cell? ⟨b2, o2 + j * 3, none⟩ = some (.string nm1) ∧ v.cell? ⟨b2, o2 + j * 3 + 1, none⟩ = some (.slice xa2 xn1 xc2) ∧ v.cell? ⟨b2, o2 + j * 3 + 2, none⟩ = some (.slice ya2 yn1 yc2)) (first | go_keep) (fail)
        all_goals (go_wp2_with fail)
        all_goals go_meet
        · exact ⟨_, _, rfl, rfl, (two_al _ _ _).1, (two_al _ _ _).2.1, (two_al _ _ _).2.2⟩
        · exact ⟨_, _, rfl, rfl, (two_al _ _ _).2.1, (two_al _ _ _).1, (two_al _ _ _).2.2⟩
      case rest =>
        obtain ⟨X, Y, rfl, rfl, mX, mY, bx⟩ := hcut
        have BX := hid (HB.out.trans (bx.mono HB.out.size))
        have gwc := GB.out.trans (bx.mono GB.out.size)
        have CB := hid (fun (V : World) (hV : Below wc.heap.size wc V) => (by
          have g1 := (hV.block _ (lt_of_heap mX)).trans mX
          have g2 := (hV.block _ (lt_of_heap mY)).trans mY
          exact ⟨⟨cellOf g1 0, cellOf g1 1, cellOf g1 2⟩, cellOf g2 0, cellOf g2 1, cellOf g2 2⟩ : (V.cell? ⟨X, 0, none⟩ = some (.string nm1) ∧ V.cell? ⟨X, 1, none⟩ = some (.slice xa1 xn1 xc1) ∧ V.cell? ⟨X, 2, none⟩ = some (.slice ya1 yn1 yc1)) ∧ V.cell? ⟨Y, 0, none⟩ = some (.string nm1) ∧ V.cell? ⟨Y, 1, none⟩ = some (.slice xa2 xn1 xc2) ∧ V.cell? ⟨Y, 2, none⟩ = some (.slice ya2 yn1 yc2)))
        have T1 := S1.out.below (Nat.le_refl _) bx
        have T2 := S2.out.below (Nat.le_refl _) bx
        have K := hid (sameTypes_yes wc ya1 ya2 yn1 yc1 yc2 rx1.types T1.tn T1.t2 T1.tr T2.tr)
        have xnI : (xn1 : Int) ≤ 9223372036854775807 := by have : xn1 ≤ _ := T1.f2; omega
        have HXN : Hid (xn1 = rx1.fields.length) := hid T1.fn
        have F1 := hid T1.fr
        have F2 := hid T2.fr
        have nbx : ((xn1 : Int) != (xn1 : Int)) = false := by simp
        clear x0 x1 x2 y0 y1 y2 mX mY T1 T2
        obtain ⟨⟨x0, x1, x2⟩, y0, y1, y2⟩ := CB.out wc (Below.refl _ _)
        go_upto_region 9 with (go_at_call 87; (refine (Hid.out K).mono ?_; rintro e w2 ⟨rfl, hb2⟩; have HC := hid hb2; clear x0 x1 x2 y0 y1 y2 hb2))
        obtain ⟨⟨x0, x1, x2⟩, y0, y1, y2⟩ := CB.out w2 HC.out
        go_wp2
        go_loopg [8] xn1 (fun g2 x wr2 => ∃ i : Nat, i + g2 = xn1 ∧ x = .int .i64 (i : Int) ∧ Below wc.heap.size wc wr2)
        case atStart => exact ⟨0, by omega, rfl, HC.out⟩
        case round =>
          obtain ⟨i, hi, rfl, hb3⟩ := hrel
          clear x0 x1 x2 y0 y1 y2
          obtain ⟨⟨x0, x1, x2⟩, y0, y1, y2⟩ := CB.out wr hb3
          cases gk with
          | zero =>
            have hin : i = xn1 := by omega
            subst hin
            have H3 := hid hb3
            clear hb3
            go_wp2
            go_roundg g
            case measure => omega
            exact ⟨j + 1, by omega, by go_num, BX.out.trans (H3.out.mono BX.out.size)⟩
          | succ g2 =>
            obtain ⟨s, hs⟩ : ∃ s, rx1.fields[i]? = some s := ⟨rx1.fields[i]'(by have := HXN.out; omega), List.getElem?_eq_getElem _⟩
            obtain ⟨_, p1, u1, rfl, z1⟩ := (F1.out.below (Nat.le_refl _) hb3) i s hs
            obtain ⟨_, p2, u2, rfl, z2⟩ := (F2.out.below (Nat.le_refl _) hb3) i s hs
            have hiI : (i : Int) < (xn1 : Int) := by omega
            have hi0 : (0 : Int) ≤ (i : Int) := by omega
            have H3 := hid hb3
            clear hb3 hs
            go_wp2
            go_quiet (fail)
            go_wp2
            go_roundg g2
            case measure => omega
            exact ⟨i + 1, by omega, by go_num, bel_dN H3.out _⟩
end Go.Proofs.Ytmhjnfibpngpmaa

namespace Go.Proofs.Ytmhjnfibpngpmaa
open Go
set_option linter.unusedVariables false
section
variable {P : Program} {ops : Array Oper} {Q : Exit → Act → World → Prop} {md : Region.Mode} {S : World → Prop} {L : Nat}
/- Whatever order is picked; S holds behind every operation but number L. -/
def wpAnyI (P : Program) (md : Region.Mode) (ops : Array Oper) (Q : Exit → Act → World → Prop) (L : Nat) (S : World → Prop) : Nat → Array Bool → Act → World → Prop
  | 0, listed, a, w => Region.ready md ops listed = [] ∧ Q .normal a w
  | fuel + 1, listed, a, w =>
    (Region.ready md ops listed = [] → Q .normal a w) ∧
    ∀ i ∈ Region.ready md ops listed, wpOp P ops Q i (fun a' w' => (i = L ∨ S w') ∧ wpAnyI P md ops Q L S fuel (listed.setIfInBounds i true) a' w') a w
theorem wpAny_of_I : ∀ (fuel : Nat) (listed : Array Bool) (a : Act) (w : World), wpAnyI P md ops Q L S fuel listed a w → wpAny P md ops Q fuel listed a w
  | 0, _, _, _, h => h
  | fuel + 1, _, _, _, h => ⟨h.1, fun i hi => wpOp_mono (fun a' w' h' => wpAny_of_I fuel _ a' w' h'.2) (h.2 i hi)⟩
/- A row of operations, each waiting for the one ahead of it, none of them done. -/
def chainOk (md : Region.Mode) (ops : Array Oper) (listed : Array Bool) : List Nat → Bool
  | [] => false
  | c :: r => !listed.getD c true && (match r with
    | [] => true
    | d :: _ => ((ops[d]?).map (fun o => o.after.any fun e => Region.binds md e && e.on == c)).getD false && chainOk md ops listed r)
theorem chainOk_ne {listed : Array Bool} {j : Nat} : ∀ {c : Nat} {r : List Nat}, chainOk md ops listed (c :: r) = true → j ∈ Region.ready md ops listed → j ∉ r
  | c, [], _, _ => by simp
  | c, d :: r, h, hj => by
    unfold chainOk at h
    simp only [Bool.and_eq_true, Bool.not_eq_true'] at h
    obtain ⟨h0, h1, h2⟩ := h
    intro hm
    rcases List.mem_cons.1 hm with rfl | hm
    · obtain ⟨_, o, ho, hall⟩ := mem_ready.1 hj
      rw [ho] at h1
      simp only [Option.map_some, Option.getD_some, Array.any_eq_true] at h1
      obtain ⟨q, hq, he⟩ := h1
      simp only [Bool.and_eq_true, beq_iff_eq] at he
      have h3 := hall _ (Array.getElem_mem hq) he.1
      rw [he.2] at h3
      rcases Nat.lt_or_ge c listed.size with h' | h'
      · simp [h'] at h0 h3; rw [h0] at h3; cases h3
      · simp [Array.getElem?_eq_none h'] at h0
    · exact chainOk_ne h2 hj hm
theorem chainOk_set {listed : Array Bool} {j : Nat} : ∀ {l : List Nat}, chainOk md ops listed l = true → j ∉ l → chainOk md ops (listed.setIfInBounds j true) l = true
  | [], h, _ => h
  | [c], h, hj => by
    unfold chainOk at h ⊢
    rw [getD_set_ne true (by intro e; exact hj (by rw [e]; exact List.mem_cons_self ..))]
    exact h
  | c :: d :: r, h, hj => by
    unfold chainOk at h ⊢
    simp only [Bool.and_eq_true] at h ⊢
    rw [getD_set_ne true (by intro e; exact hj (by rw [e]; exact List.mem_cons_self ..))]
    exact ⟨h.1, h.2.1, chainOk_set h.2.2 (fun hm => hj (List.mem_cons_of_mem _ hm))⟩
theorem wpAnyI_first {i : Nat} {oi : Oper} {v : Value} {r : List Nat} (hi : ops[i]? = some oi) (hsel : ∀ (j : Nat) (o : Oper) cs b, ops[j]? = some o → o.op ≠ .select cs b)
    (hQ : ∀ c a w, Q (.panic c) (a.put oi.dst v) w → Q (.panic c) a w) (hLr : L ∈ r) :
    ∀ (fuel : Nat) (listed : Array Bool) (a : Act) (w : World),
      (∀ j oj, ops[j]? = some oj → j ≠ i → listed.getD j true = false → (∀ e ∈ oj.after, Region.binds md e = true → e.on ≠ i) → oi.apart ops oj = true) →
      i ∈ Region.ready md ops listed → chainOk md ops listed (i :: r) = true → YieldsIf P ops S oi v a → S w →
      wpAnyI P md ops Q L S fuel (listed.setIfInBounds i true) (a.put oi.dst v) w → wpAnyI P md ops Q L S (fuel + 1) listed a w := by
  intro fuel
  induction fuel with
  | zero =>
    intro listed a w _ hr _ hy hS H
    refine ⟨fun h => (by rw [h] at hr; cases hr), fun j hj => ?_⟩
    by_cases hji : j = i
    · subst hji; exact hy.wpOp hi hS ⟨.inr hS, H⟩
    · have := ready_mono hj hji
      rw [H.1] at this
      cases this
  | succ fuel ih =>
    intro listed a w hfree hr hch hy hS H
    refine ⟨fun h => (by rw [h] at hr; cases hr), fun j hj => ?_⟩
    by_cases hji : j = i
    · subst hji; exact hy.wpOp hi hS ⟨.inr hS, H⟩
    · have h1 := H.2 j (ready_mono hj hji)
      obtain ⟨hjun, oj, hoj, hall⟩ := mem_ready.1 hj
      have hnot : ∀ e ∈ oj.after, Region.binds md e = true → e.on ≠ i := fun e he hb heq => by
        have h1 := hall e he hb
        have h0 := (mem_ready.1 hr).1
        rw [heq] at h1
        rcases Nat.lt_or_ge i listed.size with h' | h'
        · simp [h'] at h0 h1; rw [h0] at h1; cases h1
        · simp [Array.getElem?_eq_none h'] at h1
      have hjr : j ∉ r := chainOk_ne hch hj
      have hjL : j ≠ L := fun e => hjr (by rw [e]; exact hLr)
      have h2 := wpOp_putIf hoj (hfree j oj hoj hji hjun hnot) (fun cs b => hsel i oi cs b hi) (fun cs b => hsel j oj cs b hoj) hQ hy h1
      have hfree' : ∀ k ok, ops[k]? = some ok → k ≠ i → (listed.setIfInBounds j true).getD k true = false →
          (∀ e ∈ ok.after, Region.binds md e = true → e.on ≠ i) → oi.apart ops ok = true := fun k ok hk hki hun hno => by
        refine hfree k ok hk hki ?_ hno
        by_cases hjk : j = k
        · subst hjk; exact hjun
        · rw [getD_set_ne true hjk] at hun; exact hun
      refine wpOp_mono (fun a' w' h3 => ⟨h3.2.1, ih (listed.setIfInBounds j true) a' w' hfree' (ready_mono hr (Ne.symm hji)) (chainOk_set hch (fun hm => (List.mem_cons.1 hm).elim hji hjr)) h3.1 (h3.2.1.resolve_left hjL) ?_⟩) h2
      rw [Array.setIfInBounds_comm _ _ hji]
      exact h3.2.2
theorem wpAnyI_take {i : Nat} {oi : Oper} {v : Value} {fuel : Nat} {listed : Array Bool} {a : Act} {w : World} (r : List Nat) (hi : ops[i]? = some oi)
    (hs : Region.noSelect ops = true) (hf : Region.free md ops listed i = true) (hr : (Region.ready md ops listed).contains i = true) (hc : (chainOk md ops listed (i :: r) && r.contains L) = true)
    (hQ : ∀ c a w, Q (.panic c) (a.put oi.dst v) w → Q (.panic c) a w) (hy : YieldsIf P ops S oi v a) (hS : S w)
    (h : wpAnyI P md ops Q L S fuel (listed.setIfInBounds i true) (a.put oi.dst v) w) : wpAnyI P md ops Q L S (fuel + 1) listed a w := by
  simp only [Bool.and_eq_true] at hc
  exact wpAnyI_first hi (Region.noSelect_spec hs) hQ (by simpa using hc.2) fuel listed a w (Region.free_spec hi hf) (by simpa using hr) hc.1 hy hS h
/- One operation alone may come up, and it is not the last. -/
theorem wpAnyI_one {i : Nat} {o : Oper} {fuel : Nat} {listed : Array Bool} {a : Act} {w : World} (hr : Region.ready md ops listed = [i]) (ho : ops[i]? = some o)
    (h : ∀ K' : Act → World → Prop, Shut (∀ a w, S w → (S w → wpAnyI P md ops Q L S fuel (listed.setIfInBounds i true) a w) → K' a w) → if Region.wanted o (yielded ops a.tmps) = true then Oper.wp P o a w K' Q else K' (a.put o.dst undef) w) :
    wpAnyI P md ops Q L S (fuel + 1) listed a w :=
  ⟨fun h0 => (by rw [hr] at h0; cases h0), fun j hj => by
    rw [hr] at hj
    have hji : j = i := by simpa using hj
    subst hji
    exact wpOp_step ho (fun K' hK => h K' (fun a w hS hW => hK a w ⟨.inr hS, hW hS⟩))⟩
/- The last operation. -/
theorem wpAnyI_last {o : Oper} {fuel : Nat} {listed : Array Bool} {a : Act} {w : World} (hr : Region.ready md ops listed = [L]) (ho : ops[L]? = some o) (he : Region.ready md ops (listed.setIfInBounds L true) = [])
    (h : ∀ K' : Act → World → Prop, Shut (∀ a w, Q .normal a w → K' a w) → if Region.wanted o (yielded ops a.tmps) = true then Oper.wp P o a w K' Q else K' (a.put o.dst undef) w) :
    wpAnyI P md ops Q L S (fuel + 1) listed a w :=
  ⟨fun h0 => (by rw [hr] at h0; cases h0), fun j hj => by
    rw [hr] at hj
    have hji : j = L := by simpa using hj
    subst hji
    refine wpOp_step ho (fun K' hK => h K' (fun a w hq => hK a w ⟨.inl rfl, ?_⟩))
    cases fuel with
    | zero => exact ⟨he, hq⟩
    | succ f => exact ⟨fun _ => hq, by rw [he]; simp⟩⟩
theorem wp_region_I {id : Nat} {a : Act} {w : World} (L : Nat) (S : World → Prop) (hm : P.follows .mixedOrders = true) (hS : S w.drew)
    (h : S w.drew → wpAnyI P .any ops Q L S ops.size (Array.replicate ops.size false) a w.drew) : (Code.region id ops true).wp P Q a w :=
  wp_region_any hm (wpAny_of_I _ _ _ _ (h hS))
end
end Go.Proofs.Ytmhjnfibpngpmaa

