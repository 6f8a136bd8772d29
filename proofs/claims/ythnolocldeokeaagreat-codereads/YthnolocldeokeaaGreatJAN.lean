/- shapeOf. -/
import Derived.Test.YthnolocldeokeaaGreatJAM
import Derived.Deep.WholeRow
import Derived.Sort.CutIn
import Derived.Deep.CutBlock
namespace Go.Proofs.YthnolocldeokeaaGreat
open Go.RowKit Go.Deep Go.Shelf
set_option linter.unusedVariables false
set_option linter.unusedSimpArgs false
theorem sizeA : (Tryz.prog.info? 143).map (·.size) = some shpC.size := by kernel_rfl
theorem oneA : shpC.all (·.oneCell') = true := by kernel_rfl
theorem last_new (w : World) (o o2 : Obj) : ((w.alloc o).alloc o2).heap[w.heap.size + 1]? = some o2 := by
  have := heap_alloc_new (w.alloc o) o2
  rw [World.size_alloc] at this; exact this
def five (w : World) (b : Nat) (x0 x1 x2 x3 x4 : Value) : World := ((((w.setCell ⟨b, 0, none⟩ x0).setCell ⟨b, 1, none⟩ x1).setCell ⟨b, 2, none⟩ x2).setCell ⟨b, 3, none⟩ x3).setCell ⟨b, 4, none⟩ x4
theorem five_new {w : World} {b : Nat} {p0 p1 p2 p3 p4 : Value} {t : TypeId} (h : w.heap[b]? = some (.cells #[p0, p1, p2, p3, p4] t (0, 0))) (x0 x1 x2 x3 x4 : Value) : (five w b x0 x1 x2 x3 x4).heap[b]? = some (.cells #[x0, x1, x2, x3, x4] t (0, 0)) := heap_set_at (heap_set_at (heap_set_at (heap_set_at (heap_set_at h 0 x0) 1 x1) 2 x2) 3 x3) 4 x4
theorem five_below {B : Nat} {w0 w : World} (hb : Below B w0 w) {b : Nat} (hB : B ≤ b) (x0 x1 x2 x3 x4 : Value) : Below B w0 (five w b x0 x1 x2 x3 x4) := by
  unfold five
  exact ((((hb.setCell hB _).setCell hB _).setCell hB _).setCell hB _).setCell hB _
theorem shp_cell' {w : World} {X k : Nat} (h : w.heap[X]? = some (.cells shpC 143 (0, 0))) (hk : k < 41) (i : Nat) (hi : i < 5) : w.cell? ⟨X, k * 5 + i, none⟩ = (shpAt (k : Int)).cs[i]? := by
  rw [cellOf h]
  unfold shpC
  rw [List.getElem?_toArray]
  exact flat_get shpL k _ (shp_get hk) i hi
theorem row_is (w : World) (o : Obj) (z : Array Value) : ((w.alloc o).alloc (.cells z 143)).setRow (w.heap.size + 1) shpC = (w.alloc o).alloc (.cells shpC 143) := by
  have := World.setRow_alloc_new (w.alloc o) z shpC 143
  rw [World.size_alloc] at this; exact this
def shpR (k : Int) : Ending := .returned (.tuple #[.agg (if isC k = true then shpAt k else shp0).cs.toArray, .bool (isC k)])
theorem shpT (k : Int) (h : isC k = true) (s : Shp) (hs : s = shpAt k) : Ending.returned (.tuple #[.agg s.cs.toArray, .bool true]) = shpR k := by
  unfold shpR; rw [h, hs]; rfl
theorem shpF (k : Int) (h : isC k = false) : Ending.returned (.tuple #[.agg #[.string ⟨#[]⟩, .int .u8 0, .int .u8 0, .int .u8 0, .int .u8 0], .bool false]) = shpR k := by
  unfold shpR; rw [h]; simp only [Bool.false_eq_true, if_false, shp0, Shp.cs]; rfl
set_option maxRecDepth 100000 in
set_option maxHeartbeats 8000000 in
theorem shapeOf_core (w : World) (k : Int) : Calls Tryz.prog 54 #[.int .i64 k] w fun e w' => e = shpR k ∧ Below w.heap.size w w' := by
  go_enter Tryz.func54, Tryz.ntmps54
  go_upto_region 1 with fail
  go_cut [4] from 5 to 45 (fun s wc => s = .pointer (some ⟨w.heap.size + 1, 0, none⟩) ∧ wc = (w.alloc (.cells #[.string ⟨#[]⟩, .int .u8 0, .int .u8 0, .int .u8 0, .int .u8 0] 105)).alloc (.cells shpC 143))
  case first =>
    go_wp2_with (refine wpList_store_row rfl 143 (.tmp 4) (.tmp 45) rfl (w.heap.size + 1) shpC (by rfl) (by rfl) 143 _ (last_new _ _ _) sizeA (by rfl) oneA ?_)
    go_meet
    exact ⟨rfl, row_is _ _ _⟩
  case rest =>
    obtain ⟨rfl, rfl⟩ := hcut
    obtain ⟨X, hX⟩ : ∃ X, X = w.heap.size := ⟨_, rfl⟩
    obtain ⟨W2, hW2⟩ : ∃ W2, W2 = (w.alloc (.cells #[.string ⟨#[]⟩, .int .u8 0, .int .u8 0, .int .u8 0, .int .u8 0] 105)).alloc (.cells shpC 143) := ⟨_, rfl⟩
    have bw : Below w.heap.size w W2 := by rw [hW2]; exact ((Below.refl _ _).alloc (Nat.le_refl _) _).alloc (by simp) _
    have mX : W2.heap[X]? = some (.cells #[.string ⟨#[]⟩, .int .u8 0, .int .u8 0, .int .u8 0, .int .u8 0] 105 (0, 0)) := by rw [hW2, hX, Below.heap_alloc _ _ _ (by simp)]; exact heap_alloc_new _ _
    have mT : W2.heap[X + 1]? = some (.cells shpC 143 (0, 0)) := by rw [hW2, hX]; exact last_new _ _ _
    have y0 := cellOf mX 0
    have y1 := cellOf mX 1
    have y2 := cellOf mX 2
    have y3 := cellOf mX 3
    have y4 := cellOf mX 4
    have f0 := freeOf mX 0
    have f1 := freeOf mX 1
    have f2 := freeOf mX 2
    have f3 := freeOf mX 3
    have f4 := freeOf mX 4
    simp only [List.getElem?_toArray, List.getElem?_cons_zero, List.getElem?_cons_succ] at y0 y1 y2 y3 y4
    have MX := hid mX
    have MT := hid mT
    have BW := hid bw
    have HX := hid hX
    rw [← hW2, ← hX]
    clear hW2 hX mX mT bw
    have FIN := hid (fun (x0 x1 x2 x3 x4 : Value) => (⟨five_new MX.out x0 x1 x2 x3 x4, five_below BW.out (b := X) (by rw [HX.out]; exact Nat.le_refl _) x0 x1 x2 x3 x4⟩ : (five W2 X x0 x1 x2 x3 x4).heap[X]? = some (.cells #[x0, x1, x2, x3, x4] 105 (0, 0)) ∧ Below w.heap.size w (five W2 X x0 x1 x2 x3 x4)))
    by_cases h0 : isC k = true
    · have HD := hid h0
      have hk : 1 ≤ k ∧ k < 41 := by unfold isC at h0; simpa using h0
      obtain ⟨kk, rfl⟩ : ∃ kk : Nat, k = (kk : Int) := ⟨k.toNat, by omega⟩
      have hkk : kk < 41 := by omega
      obtain ⟨h1, h2⟩ := hk
      have h1' : ¬ (kk : Int) < 1 := by omega
      have h2' : ¬ (41 : Int) ≤ (kk : Int) := by omega
      have h3 : (0 : Int) ≤ (kk : Int) := by omega
      have hb1 : decide ((kk : Int) < 1) = false := decide_eq_false h1'
      have hb2 : decide ((41 : Int) ≤ (kk : Int)) = false := decide_eq_false h2'
      obtain ⟨sh, hsh⟩ : ∃ sh, sh = shpAt (kk : Int) := ⟨_, rfl⟩
      have s0 := shp_cell' MT.out hkk 0 (by omega)
      have s1 := shp_cell' MT.out hkk 1 (by omega)
      have s2 := shp_cell' MT.out hkk 2 (by omega)
      have s3 := shp_cell' MT.out hkk 3 (by omega)
      have s4 := shp_cell' MT.out hkk 4 (by omega)
      rw [← hsh] at s0 s1 s2 s3 s4
      have HSH := hid hsh
      obtain ⟨nm, d, a, b, kf⟩ := sh
      simp only [Shp.cs, List.getElem?_cons_zero, List.getElem?_cons_succ, Nat.add_zero] at s0 s1 s2 s3 s4
      clear hsh h0
      go_wp2
      obtain ⟨hf, hb⟩ := FIN.out (.string nm) (.int .u8 d) (.int .u8 a) (.int .u8 b) (.int .u8 kf)
      have q0 := cellOf hf 0
      have q1 := cellOf hf 1
      have q2 := cellOf hf 2
      have q3 := cellOf hf 3
      have q4 := cellOf hf 4
      simp only [five, List.getElem?_toArray, List.getElem?_cons_zero, List.getElem?_cons_succ] at q0 q1 q2 q3 q4 hb
      refine bodyPost_ret (v := .tuple #[.agg #[.string nm, .int .u8 d, .int .u8 a, .int .u8 b, .int .u8 kf], .bool true]) (by simp [results, Tryz.results54, go_sem, q0, q1, q2, q3, q4]) rfl ⟨shpT (kk : Int) HD.out ⟨nm, d, a, b, kf⟩ HSH.out, hb⟩
    · have HD : Hid (isC k = false) := hid (by simpa using h0)
      have hk : k < 1 ∨ 41 ≤ k := by unfold isC at h0; simp at h0; omega
      clear h0
      have FIN0 := hid (FIN.out (.string ⟨#[]⟩) (.int .u8 0) (.int .u8 0) (.int .u8 0) (.int .u8 0))
      clear FIN MT
      rcases hk with h1 | h1
      · have hb1 : decide (k < 1) = true := decide_eq_true h1
        go_wp2
        obtain ⟨hf, hb⟩ := FIN0.out
        have q0 := cellOf hf 0
        have q1 := cellOf hf 1
        have q2 := cellOf hf 2
        have q3 := cellOf hf 3
        have q4 := cellOf hf 4
        simp only [five, List.getElem?_toArray, List.getElem?_cons_zero, List.getElem?_cons_succ] at q0 q1 q2 q3 q4 hb
        refine bodyPost_ret (v := .tuple #[.agg #[.string ⟨#[]⟩, .int .u8 0, .int .u8 0, .int .u8 0, .int .u8 0], .bool false]) (by simp [results, Tryz.results54, go_sem, q0, q1, q2, q3, q4]) rfl ⟨shpF k HD.out, hb⟩
      · have hb1 : decide (k < 1) = false := decide_eq_false (by omega)
        have hb2 : decide (41 ≤ k) = true := decide_eq_true h1
        have h2 : ¬ k < 1 := by omega
        go_wp2
        obtain ⟨hf, hb⟩ := FIN0.out
        have q0 := cellOf hf 0
        have q1 := cellOf hf 1
        have q2 := cellOf hf 2
        have q3 := cellOf hf 3
        have q4 := cellOf hf 4
        simp only [five, List.getElem?_toArray, List.getElem?_cons_zero, List.getElem?_cons_succ] at q0 q1 q2 q3 q4 hb
        refine bodyPost_ret (v := .tuple #[.agg #[.string ⟨#[]⟩, .int .u8 0, .int .u8 0, .int .u8 0, .int .u8 0], .bool false]) (by simp [results, Tryz.results54, go_sem, q0, q1, q2, q3, q4]) rfl ⟨shpF k HD.out, hb⟩
theorem shapeOf_any (w : World) (k : Int) : Calls Tryz.prog 54 #[.int .i64 k] w fun e w' => e = .returned (.tuple #[.agg (if isC k = true then shpAt k else shp0).cs.toArray, .bool (isC k)]) ∧ Below w.heap.size w w' := shapeOf_core w k
end Go.Proofs.YthnolocldeokeaaGreat

namespace Go.Proofs.YthnolocldeokeaaGreat
open Go.RowKit Go.Deep Go.Shelf
set_option linter.unusedVariables false
set_option linter.unusedSimpArgs false
theorem plainS (w : World) (h : PH) (p : Pg) (d : PRd w h p) : Calls Tryz.prog 18 #[h.v] w (Says w True) := (plainP_any w h p d).mono fun e w' h => by
  obtain ⟨b, he, hb⟩ := h
  exact ⟨hb, b, he, fun _ => trivial⟩
def c0 : Cx := ⟨⟨[], [], [], []⟩, 0, [], [], []⟩
def zCH : CH := ⟨⟨none, 0, 0, none, 0, 0, none, 0, 0, none, 0, 0⟩, none, 0, 0, none, 0, 0, none, 0, 0, none, 0, 0⟩
theorem zero_cd (w : World) : CdRd w zCH c0 [] [] :=
  ⟨⟨⟨rfl, Nat.zero_le _, (fun j r e => by simp [c0] at e), (fun p hp => by simp [c0] at hp)⟩, ⟨rfl, Nat.zero_le _, (fun j r e => by simp [c0] at e), (fun p hp => by simp [c0] at hp)⟩, ⟨rfl, Nat.zero_le _, (fun j r e => by simp [c0] at e), (fun p hp => by simp [c0] at hp)⟩, ⟨rfl, Nat.zero_le _, (fun j r e => by simp [c0] at e), (fun p hp => by simp [c0] at hp)⟩⟩, rfl, Nat.zero_le _, rfl, Nat.zero_le _, (fun j r e => by simp [c0] at e), ⟨rfl, Nat.zero_le _, (fun j r e => by simp at e), (fun p hp => by simp at hp)⟩, rfl, ⟨rfl, Nat.zero_le _, (fun j r e => by simp at e), (fun p hp => by simp at hp)⟩, rfl⟩
theorem CEq.refl (c : Cx) : CEq c c := ⟨⟨rfl, rfl, rfl, rfl⟩, rfl, rfl, rfl⟩
/- Either side's answer in one form. -/
end Go.Proofs.YthnolocldeokeaaGreat

namespace Go.Proofs.YthnolocldeokeaaGreat
open Go.RowKit Go.Deep Go.Shelf
set_option linter.unusedVariables false
set_option linter.unusedSimpArgs false
set_option maxRecDepth 100000
theorem Says.any {w w' : World} (h : Below w.heap.size w w') (b : Bool) : Says w True (.returned (.bool b)) w' := ⟨h, b, rfl, fun _ => trivial⟩
set_option maxHeartbeats 2000000 in
theorem few9_any (w : World) (C : CH) (c : Cx) (xs : List Int) (fs es : List (FH × Fx)) (d : CwRd w C c xs fs es) :
    Calls Tryz.prog 7 #[C.v] w (Says w True) := by
  obtain ⟨W0, hW0⟩ : ∃ W0, W0 = w.alloc (.cells C.cs 31) := ⟨_, rfl⟩
  have bw : Below w.heap.size w W0 := by rw [hW0]; exact (Below.refl _ _).alloc (Nat.le_refl _) _
  have q0 : W0.heap[w.heap.size]? = some (.cells C.cs 31 (0, 0)) := by rw [hW0]; exact heap_alloc_new w _
  have KP := hid (fun (V : World) (hV : Below w.heap.size w V) => plainS V C.h c.p (d.cd.p.below (Nat.le_refl _) hV))
  have KS := hid (fun (V : World) (hV : Below w.heap.size w V) => short_any V C.ta C.tn C.tc c.texts d.cd.t1 d.cd.t2 (d.cd.tr.below (Nat.le_refl _) hV) 1100 200)
  have fn2 := d.f3.n3
  have en2 := d.e3.n3
  have FN := hid d.f3.rd.n1
  have EN := hid d.e3.rd.n1
  have i2 := d.cd.i2
  have DF := hid (fun (V : World) (hV : Below w.heap.size w V) => d.f3.below (Nat.le_refl _) hV)
  have DE := hid (fun (V : World) (hV : Below w.heap.size w V) => d.e3.below (Nat.le_refl _) hV)
  have GT : Hid (∀ V : World, Below W0.heap.size W0 V → V.heap[w.heap.size]? = some (.cells C.cs 31 (0, 0)) ∧ Below w.heap.size w V) := hid (fun V hV => ⟨(hV.block _ (lt_of_heap q0)).trans q0, bw.trans (hV.mono bw.size)⟩)
  have TR : Hid (∀ {x y : World}, Below W0.heap.size W0 x → Below x.heap.size x y → Below W0.heap.size W0 y) := hid (fun h1 h2 => h1.trans (h2.mono h1.size))
  clear d bw q0
  obtain ⟨⟨ra, rn, rc, ma, mn, mc, pfa, pfn, pfc, pea, pen, pec⟩, ia, inn, ic, ta, tn, tc, ga, gn, gc, ha, hn, hc⟩ := C
  simp only [CH.v, CH.cs, PH.v] at hW0 GT KS KP DF DE FN EN fn2 en2 i2 ⊢
  have CL : Hid (∀ V : World, Below W0.heap.size W0 V → ((V.cell? ⟨w.heap.size, 0, none⟩ = some (.slice ra rn rc) ∧ V.cell? ⟨w.heap.size, 1, none⟩ = some (.slice ma mn mc) ∧ V.cell? ⟨w.heap.size, 2, none⟩ = some (.slice pfa pfn pfc) ∧ V.cell? ⟨w.heap.size, 3, none⟩ = some (.slice pea pen pec)) ∧ V.cell? ⟨w.heap.size, 4, none⟩ = some (.slice ia inn ic) ∧ V.cell? ⟨w.heap.size, 5, none⟩ = some (.slice ta tn tc) ∧ V.cell? ⟨w.heap.size, 6, none⟩ = some (.slice ga gn gc) ∧ V.cell? ⟨w.heap.size, 7, none⟩ = some (.slice ha hn hc)) ∧ Below w.heap.size w V) := hid (fun V hV => by
    obtain ⟨g, gb⟩ := GT.out V hV
    exact ⟨⟨⟨cellOf g 0, cellOf g 1, cellOf g 2, cellOf g 3⟩, cellOf g 4, cellOf g 5, cellOf g 6, cellOf g 7⟩, gb⟩)
  have gnI : (gn : Int) ≤ 140737488355328 := by omega
  have hnI : (hn : Int) ≤ 140737488355328 := by omega
  go_enter Tryz.func7, Tryz.ntmps7
  go_upto_region 1 with fail
  rw [← hW0]
  clear hW0
  go_upto_block 0 with fail
  go_cut [3] from 4 to 26 (fun s wc => ∃ m : Nat, s = .int .i64 (m : Int) ∧ (m : Int) ≤ 140737488358400 ∧ Below W0.heap.size W0 wc)
  case first =>
    go_wp2_with fail
    go_loopg [3, 4] gn (fun g x y wr => ∃ m j : Nat, x = .int .i64 (m : Int) ∧ y = .int .i64 (j : Int) ∧ j + g = gn ∧ (m : Int) ≤ 140737488358400 ∧ Below W0.heap.size W0 wr)
    case atStart => exact ⟨0, 0, rfl, rfl, by omega, by omega, Below.refl _ _⟩
    case round =>
      obtain ⟨m, j, rfl, rfl, hj, hm, hb⟩ := hrel
      obtain ⟨⟨⟨c0, c1, c2, c3⟩, c4, c5, c6, c7⟩, hbw⟩ := CL.out wr hb
      have HB := hid hb
      have HBW := hid hbw
      have m0 : (0 : Int) ≤ (m : Int) := by omega
      clear hb hbw
      cases gk with
      | zero =>
        have hjn : j = gn := by omega
        subst hjn
        go_wp2
        go_meet
        exact ⟨m, rfl, hm, HB.out⟩
      | succ g =>
        have hjI : (j : Int) < (gn : Int) := by omega
        have hj0 : (0 : Int) ≤ (j : Int) := by omega
        by_cases h3 : (m : Int) ≤ 3000
        · have hlj : j < fs.length := by rw [← FN.out]; omega
          have hgj : fs[j]? = some fs[j] := List.getElem?_eq_getElem hlj
          obtain ⟨b, off, ea, hbl, hc⟩ := (DF.out wr HBW.out).rd.rd j (fs[j]).1.cs (by simp [hgj])
          have k2 := (DF.out wr HBW.out).o3 _ (List.getElem_mem hlj)
          generalize fs[j] = gj at hgj hc k2
          obtain ⟨⟨regs, oa, on, oc⟩, fx⟩ := gj
          subst ea
          have s0 := hc 0 (by omega)
          have s1 := hc 1 (by omega)
          simp only [FH.cs, List.getElem?_cons_zero, List.getElem?_cons_succ, Nat.add_zero] at s0 s1 k2
          have onI : (on : Int) ≤ 140737488355328 := by omega
          clear hgj hc hbl hlj
          go_wp2
          go_roundg g
          case measure => omega
          exact ⟨m + 1 + on, j + 1, by go_num, by go_num, by omega, by omega, HB.out⟩
        · go_wp2
          go_meet
          exact ⟨m, rfl, hm, HB.out⟩
  case rest =>
    rename_i hcut
    obtain ⟨m, rfl, hm, hb⟩ := hcut
    have HB := hid hb
    clear hb
    go_upto_block 2 with fail
    go_cut [3] from 5 to 47 (fun s wd => ∃ m : Nat, s = .int .i64 (m : Int) ∧ (m : Int) ≤ 140737488358400 ∧ Below W0.heap.size W0 wd)
    case first =>
      go_wp2_with fail
      go_loopg [3, 5] hn (fun g x y wr => ∃ m j : Nat, x = .int .i64 (m : Int) ∧ y = .int .i64 (j : Int) ∧ j + g = hn ∧ (m : Int) ≤ 140737488358400 ∧ Below W0.heap.size W0 wr)
      case atStart => exact ⟨m, 0, rfl, rfl, by omega, hm, HB.out⟩
      case round =>
        obtain ⟨m, j, rfl, rfl, hj, hm, hb⟩ := hrel
        obtain ⟨⟨⟨c0, c1, c2, c3⟩, c4, c5, c6, c7⟩, hbw⟩ := CL.out wr hb
        have HB := hid hb
        have HBW := hid hbw
        have m0 : (0 : Int) ≤ (m : Int) := by omega
        clear hb hbw
        cases gk with
        | zero =>
          have hjn : j = hn := by omega
          subst hjn
          go_wp2
          go_meet
          exact ⟨m, rfl, hm, HB.out⟩
        | succ g =>
          have hjI : (j : Int) < (hn : Int) := by omega
          have hj0 : (0 : Int) ≤ (j : Int) := by omega
          by_cases h3 : (m : Int) ≤ 3000
          · have hlj : j < es.length := by rw [← EN.out]; omega
            have hgj : es[j]? = some es[j] := List.getElem?_eq_getElem hlj
            obtain ⟨b, off, ea, hbl, hc⟩ := (DE.out wr HBW.out).rd.rd j (es[j]).1.cs (by simp [hgj])
            have k2 := (DE.out wr HBW.out).o3 _ (List.getElem_mem hlj)
            generalize es[j] = gj at hgj hc k2
            obtain ⟨⟨regs, oa, on, oc⟩, fx⟩ := gj
            subst ea
            have s0 := hc 0 (by omega)
            have s1 := hc 1 (by omega)
            simp only [FH.cs, List.getElem?_cons_zero, List.getElem?_cons_succ, Nat.add_zero] at s0 s1 k2
            have onI : (on : Int) ≤ 140737488355328 := by omega
            clear hgj hc hbl hlj
            go_wp2
            go_roundg g
            case measure => omega
            exact ⟨m + 1 + on, j + 1, by go_num, by go_num, by omega, by omega, HB.out⟩
          · go_wp2
            go_meet
            exact ⟨m, rfl, hm, HB.out⟩
    case rest =>
      rename_i hcut2
      obtain ⟨m2, rfl, hm2, hb2⟩ := hcut
      have HB2 := hid hb2
      obtain ⟨⟨⟨c0, c1, c2, c3⟩, c4, c5, c6, c7⟩, hbw2⟩ := CL.out _ hb2
      have KP1 := hid (KP.out _ hbw2)
      clear hb2 hbw2 HB
      by_cases h3 : (m2 : Int) ≤ 3000
      · go_wp2_with (first
          | (have hno := e3; (go_at_call 19; (refine (Hid.out KS2).mono ?_; rintro e w4 ⟨hb4, b4, rfl, _⟩; have HB4 := hid (TR.out HB3.out hb4); clear c0 c1 c2 c3 c4 c5 c6 c7; obtain ⟨⟨⟨c0, c1, c2, c3⟩, c4, c5, c6, c7⟩, hbw4⟩ := CL.out w4 HB4.out; clear hb4 hbw4; cases b4)))
          | (go_at_call 18; (refine (Hid.out KP1).mono ?_; rintro e w3 ⟨hb3, b3, rfl, _⟩; have HB3 := hid (TR.out HB2.out hb3); clear c0 c1 c2 c3 c4 c5 c6 c7; obtain ⟨⟨⟨c0, c1, c2, c3⟩, c4, c5, c6, c7⟩, hbw3⟩ := CL.out w3 HB3.out; have KS2 := hid (KS.out w3 hbw3); have e3 := True.intro; clear hb3 hbw3; cases b3)))
        all_goals go_ret
        all_goals first
          | exact Says.any (GT.out _ HB4.out).2 _
          | exact Says.any (GT.out _ HB3.out).2 _
      · go_wp2
        go_ret
        exact Says.any (GT.out _ HB2.out).2 _
end Go.Proofs.YthnolocldeokeaaGreat

namespace Go.Proofs.YthnolocldeokeaaGreat
open Go.RowKit Go.Deep Go.Shelf
set_option linter.unusedVariables false
set_option linter.unusedSimpArgs false
set_option maxRecDepth 100000
theorem SRd.crd {w : World} {a : Option Addr} {ss : List ByteArray} (h : SRd w a ss) : CRd w a 1 (ss.map stc) := fun j r e => by
  rw [List.getElem?_map] at e
  obtain ⟨s, hs, rfl⟩ := Option.map_eq_some_iff.1 e
  obtain ⟨_, b, off, e1, hc⟩ := h j s hs
  refine ⟨b, off, e1, World.block_lt_of_cell? w _ hc, fun i hi => ?_⟩
  obtain rfl : i = 0 := by omega
  rw [Nat.mul_one]; exact hc
set_option maxHeartbeats 2000000 in
theorem appTexts_any (w0 w : World) (v : Value) (xs : List Nat) (a : Option Addr) (n cap : Nat) (l : List (ByteArray)) (en : ByteArray → List Nat)
    (hw : Below w0.heap.size w0 w) (h : Row w w0.heap.size v xs) (hn : n = l.length) (hnb : n ≤ 1000000) (hr : CRd w0 a 1 (l.map stc)) (hl : (xs ++ enc n ++ (l.map en).flatten).length ≤ 100000000)
    (one : ∀ (V : World) (u : Value) (ys : List Nat) (x : ByteArray), x ∈ l → Below w0.heap.size w0 V → Row V w0.heap.size u ys → (ys ++ en x).length ≤ 100000000 → Calls Tryz.prog 29 #[u, .string x] V (ApP V w0.heap.size u (ys ++ en x))) :
    Calls Tryz.prog 28 #[v, .slice a n cap, .func (.func 29) #[] #[]] w (ApP w w0.heap.size v (xs ++ enc n ++ (l.map en).flatten)) := by
  have K0 := hid (putUint_any w n (by omega))
  have hnI : (n : Int) ≤ 1000000 := by omega
  have hnw : IntKind.u64.wrap (n : Int) = (n : Int) := by rw [IntKind.wrap_u64]; omega
  have HN := hid hn
  have HR := hid hr
  have HW := hid hw
  have H := hid h
  have HL := hid hl
  have ONE := hid one
  have hB : w0.heap.size ≤ w.heap.size := hw.size
  have HE := hid (enc_le n (by omega))
  have HBy := hid (enc_byt n)
  have hxl : Hid (xs.length ≤ 100000000) := hid (by simp at hl; omega)
  clear hn hr hw h hl one
  go_enter Tryz.func28, Tryz.ntmps28
  go_upto_region 2 with (first
    | (go_at_call 60; (refine (Hid.out K0).mono ?_; rintro e w1 ⟨v1, rfl, hr1, hb1⟩; have HR1 := hid hr1; have HB1 := hid hb1; clear hr1 hb1))
    | (at_builtin; refine wpList_appR _ rfl _ _ rfl _ _ (by rfl) (by rfl) w0.heap.size xs _ (H.out.below (Nat.le_refl _) HB1.out) (HR1.out.rd HBy.out) HR1.out.nilOf (Nat.le_trans hB HB1.out.size) (by have := hxl.out; omega) (by have := HE.out; omega) ?_; intro v2 w2 h1 h2; have H1 := hid h1; have H2 := hid ((Grw.ofBelow v HB1.out).trans h2); clear h1 h2))
  clear K0 HR1 HB1
  go_wp2
  go_loopg [0, 17] n (fun g u x wr => ∃ j : Nat, j + g = n ∧ x = .int .i64 (j : Int) ∧ Row wr w0.heap.size u (xs ++ enc n ++ ((l.take j).map en).flatten) ∧ Grw w v wr u)
  case atStart => exact ⟨0, by omega, rfl, by simpa using H1.out, H2.out⟩
  case round =>
    obtain ⟨j, hj, rfl, hk, hg⟩ := hrel
    obtain ⟨u, hu⟩ : ∃ u, u = u0 := ⟨_, rfl⟩
    subst hu
    have hb : Below w0.heap.size w0 wr := HW.out.trans (hg.below H.out hB)
    cases gk with
    | zero =>
      have hjn : j = n := by omega
      subst hjn
      rw [show l.take j = l from by rw [HN.out, List.take_of_length_le (Nat.le_refl _)]] at hk
      have HK := hid hk
      have HG := hid hg
      clear hk hg hb
      go_wp2
      go_ret
      exact ⟨_, rfl, HK.out, HG.out⟩
    | succ g =>
      have hlj : j < l.length := by rw [← HN.out]; omega
      have hgj : l[j]? = some l[j] := List.getElem?_eq_getElem hlj
      have hm : l[j] ∈ l := List.getElem_mem hlj
      obtain ⟨b, off, ea1, hbl, hc⟩ := (HR.out.below (Nat.le_refl _) hb) j (stc l[j]) (by simp [hgj])
      have ht : Hid (xs ++ enc n ++ ((l.take (j + 1)).map en).flatten = xs ++ enc n ++ ((l.take j).map en).flatten ++ en l[j]) := hid (by rw [List.take_add_one, hgj, List.map_append, List.flatten_append]; simp only [Option.toList, List.map_cons, List.map_nil, List.flatten_cons, List.flatten_nil, List.append_nil, List.append_assoc])
      have hlen : (xs ++ enc n ++ ((l.take j).map en).flatten ++ en l[j]).length ≤ 100000000 := by
        have h1 := HL.out
        have h2 : l = l.take (j + 1) ++ l.drop (j + 1) := (List.take_append_drop _ _).symm
        rw [h2, List.map_append, List.flatten_append] at h1
        rw [← ht.out]
        simp only [List.length_append] at h1 ⊢
        omega
      generalize l[j] = xx at hgj hc hm ht hlen
      subst ea1
      obtain ⟨xd⟩ := xx
      have K := hid (ONE.out wr u (xs ++ enc n ++ ((l.take j).map en).flatten) _ hm hb hk hlen)
      have HB := hid hb
      have HG := hid hg
      have s0 := hc 0 (by omega)
      simp only [stc, List.getElem?_cons_zero, List.getElem?_cons_succ, Nat.add_zero, Nat.mul_one] at s0
      have hjI : (j : Int) < (n : Int) := by omega
      have hj0 : (0 : Int) ≤ (j : Int) := by omega
      clear hk hg hb hgj hc hbl hlj hlen hm
      go_wp2_with (go_at_call 29; (refine (Hid.out K).mono ?_; rintro e w1 ⟨u1, rfl, hr1, hg1⟩; have HR1 := hid hr1; have HG1 := hid hg1; clear hr1 hg1))
      go_roundg g
      case measure => omega
      exact ⟨j + 1, by omega, by go_num, by rw [ht.out]; exact HR1.out, HG.out.trans HG1.out⟩
set_option maxHeartbeats 2000000 in
theorem appInts_any (w0 w : World) (v : Value) (xs : List Nat) (a : Option Addr) (n cap : Nat) (l : List (Int)) (en : Int → List Nat)
    (hw : Below w0.heap.size w0 w) (h : Row w w0.heap.size v xs) (hn : n = l.length) (hnb : n ≤ 1000000) (hr : CRd w0 a 1 (l.map inc)) (hl : (xs ++ enc n ++ (l.map en).flatten).length ≤ 100000000)
    (one : ∀ (V : World) (u : Value) (ys : List Nat) (x : Int), x ∈ l → Below w0.heap.size w0 V → Row V w0.heap.size u ys → (ys ++ en x).length ≤ 100000000 → Calls Tryz.prog 27 #[u, .int .i64 x] V (ApP V w0.heap.size u (ys ++ en x))) :
    Calls Tryz.prog 26 #[v, .slice a n cap, .func (.func 27) #[] #[]] w (ApP w w0.heap.size v (xs ++ enc n ++ (l.map en).flatten)) := by
  have K0 := hid (putUint_any w n (by omega))
  have hnI : (n : Int) ≤ 1000000 := by omega
  have hnw : IntKind.u64.wrap (n : Int) = (n : Int) := by rw [IntKind.wrap_u64]; omega
  have HN := hid hn
  have HR := hid hr
  have HW := hid hw
  have H := hid h
  have HL := hid hl
  have ONE := hid one
  have hB : w0.heap.size ≤ w.heap.size := hw.size
  have HE := hid (enc_le n (by omega))
  have HBy := hid (enc_byt n)
  have hxl : Hid (xs.length ≤ 100000000) := hid (by simp at hl; omega)
  clear hn hr hw h hl one
  go_enter Tryz.func26, Tryz.ntmps26
  go_upto_region 2 with (first
    | (go_at_call 60; (refine (Hid.out K0).mono ?_; rintro e w1 ⟨v1, rfl, hr1, hb1⟩; have HR1 := hid hr1; have HB1 := hid hb1; clear hr1 hb1))
    | (at_builtin; refine wpList_appR _ rfl _ _ rfl _ _ (by rfl) (by rfl) w0.heap.size xs _ (H.out.below (Nat.le_refl _) HB1.out) (HR1.out.rd HBy.out) HR1.out.nilOf (Nat.le_trans hB HB1.out.size) (by have := hxl.out; omega) (by have := HE.out; omega) ?_; intro v2 w2 h1 h2; have H1 := hid h1; have H2 := hid ((Grw.ofBelow v HB1.out).trans h2); clear h1 h2))
  clear K0 HR1 HB1
  go_wp2
  go_loopg [0, 17] n (fun g u x wr => ∃ j : Nat, j + g = n ∧ x = .int .i64 (j : Int) ∧ Row wr w0.heap.size u (xs ++ enc n ++ ((l.take j).map en).flatten) ∧ Grw w v wr u)
  case atStart => exact ⟨0, by omega, rfl, by simpa using H1.out, H2.out⟩
  case round =>
    obtain ⟨j, hj, rfl, hk, hg⟩ := hrel
    obtain ⟨u, hu⟩ : ∃ u, u = u0 := ⟨_, rfl⟩
    subst hu
    have hb : Below w0.heap.size w0 wr := HW.out.trans (hg.below H.out hB)
    cases gk with
    | zero =>
      have hjn : j = n := by omega
      subst hjn
      rw [show l.take j = l from by rw [HN.out, List.take_of_length_le (Nat.le_refl _)]] at hk
      have HK := hid hk
      have HG := hid hg
      clear hk hg hb
      go_wp2
      go_ret
      exact ⟨_, rfl, HK.out, HG.out⟩
    | succ g =>
      have hlj : j < l.length := by rw [← HN.out]; omega
      have hgj : l[j]? = some l[j] := List.getElem?_eq_getElem hlj
      have hm : l[j] ∈ l := List.getElem_mem hlj
      obtain ⟨b, off, ea1, hbl, hc⟩ := (HR.out.below (Nat.le_refl _) hb) j (inc l[j]) (by simp [hgj])
      have ht : Hid (xs ++ enc n ++ ((l.take (j + 1)).map en).flatten = xs ++ enc n ++ ((l.take j).map en).flatten ++ en l[j]) := hid (by rw [List.take_add_one, hgj, List.map_append, List.flatten_append]; simp only [Option.toList, List.map_cons, List.map_nil, List.flatten_cons, List.flatten_nil, List.append_nil, List.append_assoc])
      have hlen : (xs ++ enc n ++ ((l.take j).map en).flatten ++ en l[j]).length ≤ 100000000 := by
        have h1 := HL.out
        have h2 : l = l.take (j + 1) ++ l.drop (j + 1) := (List.take_append_drop _ _).symm
        rw [h2, List.map_append, List.flatten_append] at h1
        rw [← ht.out]
        simp only [List.length_append] at h1 ⊢
        omega
      generalize l[j] = xx at hgj hc hm ht hlen
      subst ea1
      have K := hid (ONE.out wr u (xs ++ enc n ++ ((l.take j).map en).flatten) _ hm hb hk hlen)
      have HB := hid hb
      have HG := hid hg
      have s0 := hc 0 (by omega)
      simp only [inc, List.getElem?_cons_zero, List.getElem?_cons_succ, Nat.add_zero, Nat.mul_one] at s0
      have hjI : (j : Int) < (n : Int) := by omega
      have hj0 : (0 : Int) ≤ (j : Int) := by omega
      clear hk hg hb hgj hc hbl hlj hlen hm
      go_wp2_with (go_at_call 27; (refine (Hid.out K).mono ?_; rintro e w1 ⟨u1, rfl, hr1, hg1⟩; have HR1 := hid hr1; have HG1 := hid hg1; clear hr1 hg1))
      go_roundg g
      case measure => omega
      exact ⟨j + 1, by omega, by go_num, by rw [ht.out]; exact HR1.out, HG.out.trans HG1.out⟩
set_option maxHeartbeats 2000000 in
theorem appTypes_any (w0 w : World) (v : Value) (xs : List Nat) (a : Option Addr) (n cap : Nat) (l : List (TyP)) (en : TyP → List Nat)
    (hw : Below w0.heap.size w0 w) (h : Row w w0.heap.size v xs) (hn : n = l.length) (hnb : n ≤ 1000000) (hr : CRd w0 a 2 (l.map tyc)) (hl : (xs ++ enc n ++ (l.map en).flatten).length ≤ 100000000)
    (one : ∀ (V : World) (u : Value) (ys : List Nat) (x : TyP), x ∈ l → Below w0.heap.size w0 V → Row V w0.heap.size u ys → (ys ++ en x).length ≤ 100000000 → Calls Tryz.prog 62 #[u, .agg #[.int .i64 x.1, .int .i64 x.2]] V (ApP V w0.heap.size u (ys ++ en x))) :
    Calls Tryz.prog 61 #[v, .slice a n cap, .func (.func 62) #[] #[]] w (ApP w w0.heap.size v (xs ++ enc n ++ (l.map en).flatten)) := by
  have K0 := hid (putUint_any w n (by omega))
  have hnI : (n : Int) ≤ 1000000 := by omega
  have hnw : IntKind.u64.wrap (n : Int) = (n : Int) := by rw [IntKind.wrap_u64]; omega
  have HN := hid hn
  have HR := hid hr
  have HW := hid hw
  have H := hid h
  have HL := hid hl
  have ONE := hid one
  have hB : w0.heap.size ≤ w.heap.size := hw.size
  have HE := hid (enc_le n (by omega))
  have HBy := hid (enc_byt n)
  have hxl : Hid (xs.length ≤ 100000000) := hid (by simp at hl; omega)
  clear hn hr hw h hl one
  go_enter Tryz.func61, Tryz.ntmps61
  go_upto_region 2 with (first
    | (go_at_call 60; (refine (Hid.out K0).mono ?_; rintro e w1 ⟨v1, rfl, hr1, hb1⟩; have HR1 := hid hr1; have HB1 := hid hb1; clear hr1 hb1))
    | (at_builtin; refine wpList_appR _ rfl _ _ rfl _ _ (by rfl) (by rfl) w0.heap.size xs _ (H.out.below (Nat.le_refl _) HB1.out) (HR1.out.rd HBy.out) HR1.out.nilOf (Nat.le_trans hB HB1.out.size) (by have := hxl.out; omega) (by have := HE.out; omega) ?_; intro v2 w2 h1 h2; have H1 := hid h1; have H2 := hid ((Grw.ofBelow v HB1.out).trans h2); clear h1 h2))
  clear K0 HR1 HB1
  go_wp2
  go_loopg [0, 17] n (fun g u x wr => ∃ j : Nat, j + g = n ∧ x = .int .i64 (j : Int) ∧ Row wr w0.heap.size u (xs ++ enc n ++ ((l.take j).map en).flatten) ∧ Grw w v wr u)
  case atStart => exact ⟨0, by omega, rfl, by simpa using H1.out, H2.out⟩
  case round =>
    obtain ⟨j, hj, rfl, hk, hg⟩ := hrel
    obtain ⟨u, hu⟩ : ∃ u, u = u0 := ⟨_, rfl⟩
    subst hu
    have hb : Below w0.heap.size w0 wr := HW.out.trans (hg.below H.out hB)
    cases gk with
    | zero =>
      have hjn : j = n := by omega
      subst hjn
      rw [show l.take j = l from by rw [HN.out, List.take_of_length_le (Nat.le_refl _)]] at hk
      have HK := hid hk
      have HG := hid hg
      clear hk hg hb
      go_wp2
      go_ret
      exact ⟨_, rfl, HK.out, HG.out⟩
    | succ g =>
      have hlj : j < l.length := by rw [← HN.out]; omega
      have hgj : l[j]? = some l[j] := List.getElem?_eq_getElem hlj
      have hm : l[j] ∈ l := List.getElem_mem hlj
      obtain ⟨b, off, ea1, hbl, hc⟩ := (HR.out.below (Nat.le_refl _) hb) j (tyc l[j]) (by simp [hgj])
      have ht : Hid (xs ++ enc n ++ ((l.take (j + 1)).map en).flatten = xs ++ enc n ++ ((l.take j).map en).flatten ++ en l[j]) := hid (by rw [List.take_add_one, hgj, List.map_append, List.flatten_append]; simp only [Option.toList, List.map_cons, List.map_nil, List.flatten_cons, List.flatten_nil, List.append_nil, List.append_assoc])
      have hlen : (xs ++ enc n ++ ((l.take j).map en).flatten ++ en l[j]).length ≤ 100000000 := by
        have h1 := HL.out
        have h2 : l = l.take (j + 1) ++ l.drop (j + 1) := (List.take_append_drop _ _).symm
        rw [h2, List.map_append, List.flatten_append] at h1
        rw [← ht.out]
        simp only [List.length_append] at h1 ⊢
        omega
      generalize l[j] = xx at hgj hc hm ht hlen
      subst ea1
      obtain ⟨t1, t2⟩ := xx
      obtain ⟨A, hA⟩ : ∃ A, A = wr.alloc (.cells #[.int .i64 t1, .int .i64 t2] 46) := ⟨_, rfl⟩
      obtain ⟨Y, hY⟩ : ∃ Y, Y = wr.heap.size := ⟨_, rfl⟩
      have mY : A.heap[Y]? = some (.cells #[.int .i64 t1, .int .i64 t2] 46 (0, 0)) := by rw [hA, hY]; exact heap_alloc_new wr _
      have K := hid (ONE.out A u (xs ++ enc n ++ ((l.take j).map en).flatten) _ hm (by rw [hA]; exact hb.alloc hb.size _) (by rw [hA]; exact hk.alloc _) hlen)
      have GA : Hid (∀ (u1 : Value) (w1 : World), Grw A u w1 u1 → Grw wr u w1 u1) := hid (fun u1 w1 h => by rw [hA] at h; exact h.unalloc)
      have HB := hid hb
      have HG := hid hg
      have s0 := hc 0 (by omega)
      have s1 := hc 1 (by omega)
      simp only [tyc, List.getElem?_cons_zero, List.getElem?_cons_succ, Nat.add_zero, Nat.mul_one] at s0 s1
      have hjI : (j : Int) < (n : Int) := by omega
      have hj0 : (0 : Int) ≤ (j : Int) := by omega
      clear hk hg hb hgj hc hbl hlj hlen hm
      go_upto_region 5 with fail
      rw [← hA, ← hY]
      clear hA hY s0 s1
      have y0 := cellOf mY 0
      have y1 := cellOf mY 1
      simp only [List.getElem?_toArray, List.getElem?_cons_zero, List.getElem?_cons_succ] at y0 y1
      clear mY
      go_wp2_with (go_at_call 62; (refine (Hid.out K).mono ?_; rintro e w1 ⟨u1, rfl, hr1, hg1⟩; have HR1 := hid hr1; have HG1 := hid (GA.out u1 w1 hg1); clear hr1 hg1))
      go_roundg g
      case measure => omega
      exact ⟨j + 1, by omega, by go_num, by rw [ht.out]; exact HR1.out, HG.out.trans HG1.out⟩
set_option maxHeartbeats 2000000 in
theorem appSigs_any (w0 w : World) (v : Value) (xs : List Nat) (a : Option Addr) (n cap : Nat) (l : List (GH × Sg)) (en : GH × Sg → List Nat)
    (hw : Below w0.heap.size w0 w) (h : Row w w0.heap.size v xs) (hn : n = l.length) (hnb : n ≤ 1000000) (hr : CRd w0 a 4 (l.map (fun p => p.1.cs))) (hl : (xs ++ enc n ++ (l.map en).flatten).length ≤ 100000000)
    (one : ∀ (V : World) (u : Value) (ys : List Nat) (x : GH × Sg), x ∈ l → Below w0.heap.size w0 V → Row V w0.heap.size u ys → (ys ++ en x).length ≤ 100000000 → Calls Tryz.prog 25 #[u, .agg #[.string x.1.name, .slice x.1.pa x.1.pn x.1.pc, .int .i64 x.1.k, .int .i64 x.1.r]] V (ApP V w0.heap.size u (ys ++ en x))) :
    Calls Tryz.prog 24 #[v, .slice a n cap, .func (.func 25) #[] #[]] w (ApP w w0.heap.size v (xs ++ enc n ++ (l.map en).flatten)) := by
  have K0 := hid (putUint_any w n (by omega))
  have hnI : (n : Int) ≤ 1000000 := by omega
  have hnw : IntKind.u64.wrap (n : Int) = (n : Int) := by rw [IntKind.wrap_u64]; omega
  have HN := hid hn
  have HR := hid hr
  have HW := hid hw
  have H := hid h
  have HL := hid hl
  have ONE := hid one
  have hB : w0.heap.size ≤ w.heap.size := hw.size
  have HE := hid (enc_le n (by omega))
  have HBy := hid (enc_byt n)
  have hxl : Hid (xs.length ≤ 100000000) := hid (by simp at hl; omega)
  clear hn hr hw h hl one
  go_enter Tryz.func24, Tryz.ntmps24
  go_upto_region 2 with (first
    | (go_at_call 60; (refine (Hid.out K0).mono ?_; rintro e w1 ⟨v1, rfl, hr1, hb1⟩; have HR1 := hid hr1; have HB1 := hid hb1; clear hr1 hb1))
    | (at_builtin; refine wpList_appR _ rfl _ _ rfl _ _ (by rfl) (by rfl) w0.heap.size xs _ (H.out.below (Nat.le_refl _) HB1.out) (HR1.out.rd HBy.out) HR1.out.nilOf (Nat.le_trans hB HB1.out.size) (by have := hxl.out; omega) (by have := HE.out; omega) ?_; intro v2 w2 h1 h2; have H1 := hid h1; have H2 := hid ((Grw.ofBelow v HB1.out).trans h2); clear h1 h2))
  clear K0 HR1 HB1
  go_wp2
  go_loopg [0, 17] n (fun g u x wr => ∃ j : Nat, j + g = n ∧ x = .int .i64 (j : Int) ∧ Row wr w0.heap.size u (xs ++ enc n ++ ((l.take j).map en).flatten) ∧ Grw w v wr u)
  case atStart => exact ⟨0, by omega, rfl, by simpa using H1.out, H2.out⟩
  case round =>
    obtain ⟨j, hj, rfl, hk, hg⟩ := hrel
    obtain ⟨u, hu⟩ : ∃ u, u = u0 := ⟨_, rfl⟩
    subst hu
    have hb : Below w0.heap.size w0 wr := HW.out.trans (hg.below H.out hB)
    cases gk with
    | zero =>
      have hjn : j = n := by omega
      subst hjn
      rw [show l.take j = l from by rw [HN.out, List.take_of_length_le (Nat.le_refl _)]] at hk
      have HK := hid hk
      have HG := hid hg
      clear hk hg hb
      go_wp2
      go_ret
      exact ⟨_, rfl, HK.out, HG.out⟩
    | succ g =>
      have hlj : j < l.length := by rw [← HN.out]; omega
      have hgj : l[j]? = some l[j] := List.getElem?_eq_getElem hlj
      have hm : l[j] ∈ l := List.getElem_mem hlj
      obtain ⟨b, off, ea1, hbl, hc⟩ := (HR.out.below (Nat.le_refl _) hb) j ((fun p => p.1.cs) l[j]) (by simp [hgj])
      have ht : Hid (xs ++ enc n ++ ((l.take (j + 1)).map en).flatten = xs ++ enc n ++ ((l.take j).map en).flatten ++ en l[j]) := hid (by rw [List.take_add_one, hgj, List.map_append, List.flatten_append]; simp only [Option.toList, List.map_cons, List.map_nil, List.flatten_cons, List.flatten_nil, List.append_nil, List.append_assoc])
      have hlen : (xs ++ enc n ++ ((l.take j).map en).flatten ++ en l[j]).length ≤ 100000000 := by
        have h1 := HL.out
        have h2 : l = l.take (j + 1) ++ l.drop (j + 1) := (List.take_append_drop _ _).symm
        rw [h2, List.map_append, List.flatten_append] at h1
        rw [← ht.out]
        simp only [List.length_append] at h1 ⊢
        omega
      generalize l[j] = xx at hgj hc hm ht hlen
      subst ea1
      obtain ⟨⟨nm, pa, pn, pc, kd, rr⟩, sx⟩ := xx
      obtain ⟨A, hA⟩ : ∃ A, A = wr.alloc (.cells #[.string nm, .slice pa pn pc, .int .i64 kd, .int .i64 rr] 49) := ⟨_, rfl⟩
      obtain ⟨Y, hY⟩ : ∃ Y, Y = wr.heap.size := ⟨_, rfl⟩
      have mY : A.heap[Y]? = some (.cells #[.string nm, .slice pa pn pc, .int .i64 kd, .int .i64 rr] 49 (0, 0)) := by rw [hA, hY]; exact heap_alloc_new wr _
      have K := hid (ONE.out A u (xs ++ enc n ++ ((l.take j).map en).flatten) _ hm (by rw [hA]; exact hb.alloc hb.size _) (by rw [hA]; exact hk.alloc _) hlen)
      have GA : Hid (∀ (u1 : Value) (w1 : World), Grw A u w1 u1 → Grw wr u w1 u1) := hid (fun u1 w1 h => by rw [hA] at h; exact h.unalloc)
      have HB := hid hb
      have HG := hid hg
      have s0 := hc 0 (by omega)
      have s1 := hc 1 (by omega)
      have s2 := hc 2 (by omega)
      have s3 := hc 3 (by omega)
      simp only [GH.cs, List.getElem?_cons_zero, List.getElem?_cons_succ, Nat.add_zero, Nat.mul_one] at s0 s1 s2 s3
      have hjI : (j : Int) < (n : Int) := by omega
      have hj0 : (0 : Int) ≤ (j : Int) := by omega
      clear hk hg hb hgj hc hbl hlj hlen hm
      go_upto_region 5 with fail
      rw [← hA, ← hY]
      clear hA hY s0 s1 s2 s3
      have y0 := cellOf mY 0
      have y1 := cellOf mY 1
      have y2 := cellOf mY 2
      have y3 := cellOf mY 3
      simp only [List.getElem?_toArray, List.getElem?_cons_zero, List.getElem?_cons_succ] at y0 y1 y2 y3
      clear mY
      go_wp2_with (go_at_call 25; (refine (Hid.out K).mono ?_; rintro e w1 ⟨u1, rfl, hr1, hg1⟩; have HR1 := hid hr1; have HG1 := hid (GA.out u1 w1 hg1); clear hr1 hg1))
      go_roundg g
      case measure => omega
      exact ⟨j + 1, by omega, by go_num, by rw [ht.out]; exact HR1.out, HG.out.trans HG1.out⟩
set_option maxHeartbeats 2000000 in
theorem appMaps_any (w0 w : World) (v : Value) (xs : List Nat) (a : Option Addr) (n cap : Nat) (l : List (Mp)) (en : Mp → List Nat)
    (hw : Below w0.heap.size w0 w) (h : Row w w0.heap.size v xs) (hn : n = l.length) (hnb : n ≤ 1000000) (hr : CRd w0 a 5 (l.map Mp.cs)) (hl : (xs ++ enc n ++ (l.map en).flatten).length ≤ 100000000)
    (one : ∀ (V : World) (u : Value) (ys : List Nat) (x : Mp), x ∈ l → Below w0.heap.size w0 V → Row V w0.heap.size u ys → (ys ++ en x).length ≤ 100000000 → Calls Tryz.prog 23 #[u, .agg #[.string x.name, .int .i64 x.key.1, .int .i64 x.key.2, .int .i64 x.val.1, .int .i64 x.val.2]] V (ApP V w0.heap.size u (ys ++ en x))) :
    Calls Tryz.prog 22 #[v, .slice a n cap, .func (.func 23) #[] #[]] w (ApP w w0.heap.size v (xs ++ enc n ++ (l.map en).flatten)) := by
  have K0 := hid (putUint_any w n (by omega))
  have hnI : (n : Int) ≤ 1000000 := by omega
  have hnw : IntKind.u64.wrap (n : Int) = (n : Int) := by rw [IntKind.wrap_u64]; omega
  have HN := hid hn
  have HR := hid hr
  have HW := hid hw
  have H := hid h
  have HL := hid hl
  have ONE := hid one
  have hB : w0.heap.size ≤ w.heap.size := hw.size
  have HE := hid (enc_le n (by omega))
  have HBy := hid (enc_byt n)
  have hxl : Hid (xs.length ≤ 100000000) := hid (by simp at hl; omega)
  clear hn hr hw h hl one
  go_enter Tryz.func22, Tryz.ntmps22
  go_upto_region 2 with (first
    | (go_at_call 60; (refine (Hid.out K0).mono ?_; rintro e w1 ⟨v1, rfl, hr1, hb1⟩; have HR1 := hid hr1; have HB1 := hid hb1; clear hr1 hb1))
    | (at_builtin; refine wpList_appR _ rfl _ _ rfl _ _ (by rfl) (by rfl) w0.heap.size xs _ (H.out.below (Nat.le_refl _) HB1.out) (HR1.out.rd HBy.out) HR1.out.nilOf (Nat.le_trans hB HB1.out.size) (by have := hxl.out; omega) (by have := HE.out; omega) ?_; intro v2 w2 h1 h2; have H1 := hid h1; have H2 := hid ((Grw.ofBelow v HB1.out).trans h2); clear h1 h2))
  clear K0 HR1 HB1
  go_wp2
  go_loopg [0, 17] n (fun g u x wr => ∃ j : Nat, j + g = n ∧ x = .int .i64 (j : Int) ∧ Row wr w0.heap.size u (xs ++ enc n ++ ((l.take j).map en).flatten) ∧ Grw w v wr u)
  case atStart => exact ⟨0, by omega, rfl, by simpa using H1.out, H2.out⟩
  case round =>
    obtain ⟨j, hj, rfl, hk, hg⟩ := hrel
    obtain ⟨u, hu⟩ : ∃ u, u = u0 := ⟨_, rfl⟩
    subst hu
    have hb : Below w0.heap.size w0 wr := HW.out.trans (hg.below H.out hB)
    cases gk with
    | zero =>
      have hjn : j = n := by omega
      subst hjn
      rw [show l.take j = l from by rw [HN.out, List.take_of_length_le (Nat.le_refl _)]] at hk
      have HK := hid hk
      have HG := hid hg
      clear hk hg hb
      go_wp2
      go_ret
      exact ⟨_, rfl, HK.out, HG.out⟩
    | succ g =>
      have hlj : j < l.length := by rw [← HN.out]; omega
      have hgj : l[j]? = some l[j] := List.getElem?_eq_getElem hlj
      have hm : l[j] ∈ l := List.getElem_mem hlj
      obtain ⟨b, off, ea1, hbl, hc⟩ := (HR.out.below (Nat.le_refl _) hb) j (Mp.cs l[j]) (by simp [hgj])
      have ht : Hid (xs ++ enc n ++ ((l.take (j + 1)).map en).flatten = xs ++ enc n ++ ((l.take j).map en).flatten ++ en l[j]) := hid (by rw [List.take_add_one, hgj, List.map_append, List.flatten_append]; simp only [Option.toList, List.map_cons, List.map_nil, List.flatten_cons, List.flatten_nil, List.append_nil, List.append_assoc])
      have hlen : (xs ++ enc n ++ ((l.take j).map en).flatten ++ en l[j]).length ≤ 100000000 := by
        have h1 := HL.out
        have h2 : l = l.take (j + 1) ++ l.drop (j + 1) := (List.take_append_drop _ _).symm
        rw [h2, List.map_append, List.flatten_append] at h1
        rw [← ht.out]
        simp only [List.length_append] at h1 ⊢
        omega
      generalize l[j] = xx at hgj hc hm ht hlen
      subst ea1
      obtain ⟨nm, ⟨k1, k2⟩, ⟨v1, v2⟩⟩ := xx
      obtain ⟨A, hA⟩ : ∃ A, A = wr.alloc (.cells #[.string nm, .int .i64 k1, .int .i64 k2, .int .i64 v1, .int .i64 v2] 67) := ⟨_, rfl⟩
      obtain ⟨Y, hY⟩ : ∃ Y, Y = wr.heap.size := ⟨_, rfl⟩
      have mY : A.heap[Y]? = some (.cells #[.string nm, .int .i64 k1, .int .i64 k2, .int .i64 v1, .int .i64 v2] 67 (0, 0)) := by rw [hA, hY]; exact heap_alloc_new wr _
      have K := hid (ONE.out A u (xs ++ enc n ++ ((l.take j).map en).flatten) _ hm (by rw [hA]; exact hb.alloc hb.size _) (by rw [hA]; exact hk.alloc _) hlen)
      have GA : Hid (∀ (u1 : Value) (w1 : World), Grw A u w1 u1 → Grw wr u w1 u1) := hid (fun u1 w1 h => by rw [hA] at h; exact h.unalloc)
      have HB := hid hb
      have HG := hid hg
      have s0 := hc 0 (by omega)
      have s1 := hc 1 (by omega)
      have s2 := hc 2 (by omega)
      have s3 := hc 3 (by omega)
      have s4 := hc 4 (by omega)
      simp only [Mp.cs, List.getElem?_cons_zero, List.getElem?_cons_succ, Nat.add_zero, Nat.mul_one] at s0 s1 s2 s3 s4
      have hjI : (j : Int) < (n : Int) := by omega
      have hj0 : (0 : Int) ≤ (j : Int) := by omega
      clear hk hg hb hgj hc hbl hlj hlen hm
      go_upto_region 5 with fail
      rw [← hA, ← hY]
      clear hA hY s0 s1 s2 s3 s4
      have y0 := cellOf mY 0
      have y1 := cellOf mY 1
      have y2 := cellOf mY 2
      have y3 := cellOf mY 3
      have y4 := cellOf mY 4
      simp only [List.getElem?_toArray, List.getElem?_cons_zero, List.getElem?_cons_succ] at y0 y1 y2 y3 y4
      clear mY
      go_wp2_with (go_at_call 23; (refine (Hid.out K).mono ?_; rintro e w1 ⟨u1, rfl, hr1, hg1⟩; have HR1 := hid hr1; have HG1 := hid (GA.out u1 w1 hg1); clear hr1 hg1))
      go_roundg g
      case measure => omega
      exact ⟨j + 1, by omega, by go_num, by rw [ht.out]; exact HR1.out, HG.out.trans HG1.out⟩
set_option maxHeartbeats 2000000 in
theorem appRecords_any (w0 w : World) (v : Value) (xs : List Nat) (a : Option Addr) (n cap : Nat) (l : List (RH × Rc)) (en : RH × Rc → List Nat)
    (hw : Below w0.heap.size w0 w) (h : Row w w0.heap.size v xs) (hn : n = l.length) (hnb : n ≤ 1000000) (hr : CRd w0 a 3 (l.map (fun p => p.1.cs))) (hl : (xs ++ enc n ++ (l.map en).flatten).length ≤ 100000000)
    (one : ∀ (V : World) (u : Value) (ys : List Nat) (x : RH × Rc), x ∈ l → Below w0.heap.size w0 V → Row V w0.heap.size u ys → (ys ++ en x).length ≤ 100000000 → Calls Tryz.prog 21 #[u, .agg #[.string x.1.name, .slice x.1.fa x.1.fn x.1.fc, .slice x.1.ta x.1.tn x.1.tc]] V (ApP V w0.heap.size u (ys ++ en x))) :
    Calls Tryz.prog 20 #[v, .slice a n cap, .func (.func 21) #[] #[]] w (ApP w w0.heap.size v (xs ++ enc n ++ (l.map en).flatten)) := by
  have K0 := hid (putUint_any w n (by omega))
  have hnI : (n : Int) ≤ 1000000 := by omega
  have hnw : IntKind.u64.wrap (n : Int) = (n : Int) := by rw [IntKind.wrap_u64]; omega
  have HN := hid hn
  have HR := hid hr
  have HW := hid hw
  have H := hid h
  have HL := hid hl
  have ONE := hid one
  have hB : w0.heap.size ≤ w.heap.size := hw.size
  have HE := hid (enc_le n (by omega))
  have HBy := hid (enc_byt n)
  have hxl : Hid (xs.length ≤ 100000000) := hid (by simp at hl; omega)
  clear hn hr hw h hl one
  go_enter Tryz.func20, Tryz.ntmps20
  go_upto_region 2 with (first
    | (go_at_call 60; (refine (Hid.out K0).mono ?_; rintro e w1 ⟨v1, rfl, hr1, hb1⟩; have HR1 := hid hr1; have HB1 := hid hb1; clear hr1 hb1))
    | (at_builtin; refine wpList_appR _ rfl _ _ rfl _ _ (by rfl) (by rfl) w0.heap.size xs _ (H.out.below (Nat.le_refl _) HB1.out) (HR1.out.rd HBy.out) HR1.out.nilOf (Nat.le_trans hB HB1.out.size) (by have := hxl.out; omega) (by have := HE.out; omega) ?_; intro v2 w2 h1 h2; have H1 := hid h1; have H2 := hid ((Grw.ofBelow v HB1.out).trans h2); clear h1 h2))
  clear K0 HR1 HB1
  go_wp2
  go_loopg [0, 17] n (fun g u x wr => ∃ j : Nat, j + g = n ∧ x = .int .i64 (j : Int) ∧ Row wr w0.heap.size u (xs ++ enc n ++ ((l.take j).map en).flatten) ∧ Grw w v wr u)
  case atStart => exact ⟨0, by omega, rfl, by simpa using H1.out, H2.out⟩
  case round =>
    obtain ⟨j, hj, rfl, hk, hg⟩ := hrel
    obtain ⟨u, hu⟩ : ∃ u, u = u0 := ⟨_, rfl⟩
    subst hu
    have hb : Below w0.heap.size w0 wr := HW.out.trans (hg.below H.out hB)
    cases gk with
    | zero =>
      have hjn : j = n := by omega
      subst hjn
      rw [show l.take j = l from by rw [HN.out, List.take_of_length_le (Nat.le_refl _)]] at hk
      have HK := hid hk
      have HG := hid hg
      clear hk hg hb
      go_wp2
      go_ret
      exact ⟨_, rfl, HK.out, HG.out⟩
    | succ g =>
      have hlj : j < l.length := by rw [← HN.out]; omega
      have hgj : l[j]? = some l[j] := List.getElem?_eq_getElem hlj
      have hm : l[j] ∈ l := List.getElem_mem hlj
      obtain ⟨b, off, ea1, hbl, hc⟩ := (HR.out.below (Nat.le_refl _) hb) j ((fun p => p.1.cs) l[j]) (by simp [hgj])
      have ht : Hid (xs ++ enc n ++ ((l.take (j + 1)).map en).flatten = xs ++ enc n ++ ((l.take j).map en).flatten ++ en l[j]) := hid (by rw [List.take_add_one, hgj, List.map_append, List.flatten_append]; simp only [Option.toList, List.map_cons, List.map_nil, List.flatten_cons, List.flatten_nil, List.append_nil, List.append_assoc])
      have hlen : (xs ++ enc n ++ ((l.take j).map en).flatten ++ en l[j]).length ≤ 100000000 := by
        have h1 := HL.out
        have h2 : l = l.take (j + 1) ++ l.drop (j + 1) := (List.take_append_drop _ _).symm
        rw [h2, List.map_append, List.flatten_append] at h1
        rw [← ht.out]
        simp only [List.length_append] at h1 ⊢
        omega
      generalize l[j] = xx at hgj hc hm ht hlen
      subst ea1
      obtain ⟨⟨nm, fa, fn, fc, ta, tn, tc⟩, rx⟩ := xx
      obtain ⟨A, hA⟩ : ∃ A, A = wr.alloc (.cells #[.string nm, .slice fa fn fc, .slice ta tn tc] 63) := ⟨_, rfl⟩
      obtain ⟨Y, hY⟩ : ∃ Y, Y = wr.heap.size := ⟨_, rfl⟩
      have mY : A.heap[Y]? = some (.cells #[.string nm, .slice fa fn fc, .slice ta tn tc] 63 (0, 0)) := by rw [hA, hY]; exact heap_alloc_new wr _
      have K := hid (ONE.out A u (xs ++ enc n ++ ((l.take j).map en).flatten) _ hm (by rw [hA]; exact hb.alloc hb.size _) (by rw [hA]; exact hk.alloc _) hlen)
      have GA : Hid (∀ (u1 : Value) (w1 : World), Grw A u w1 u1 → Grw wr u w1 u1) := hid (fun u1 w1 h => by rw [hA] at h; exact h.unalloc)
      have HB := hid hb
      have HG := hid hg
      have s0 := hc 0 (by omega)
      have s1 := hc 1 (by omega)
      have s2 := hc 2 (by omega)
      simp only [RH.cs, List.getElem?_cons_zero, List.getElem?_cons_succ, Nat.add_zero, Nat.mul_one] at s0 s1 s2
      have hjI : (j : Int) < (n : Int) := by omega
      have hj0 : (0 : Int) ≤ (j : Int) := by omega
      clear hk hg hb hgj hc hbl hlj hlen hm
      go_upto_region 5 with fail
      rw [← hA, ← hY]
      clear hA hY s0 s1 s2
      have y0 := cellOf mY 0
      have y1 := cellOf mY 1
      have y2 := cellOf mY 2
      simp only [List.getElem?_toArray, List.getElem?_cons_zero, List.getElem?_cons_succ] at y0 y1 y2
      clear mY
      go_wp2_with (go_at_call 21; (refine (Hid.out K).mono ?_; rintro e w1 ⟨u1, rfl, hr1, hg1⟩; have HR1 := hid hr1; have HG1 := hid (GA.out u1 w1 hg1); clear hr1 hg1))
      go_roundg g
      case measure => omega
      exact ⟨j + 1, by omega, by go_num, by rw [ht.out]; exact HR1.out, HG.out.trans HG1.out⟩
set_option maxHeartbeats 2000000 in
theorem appOps_any (w0 w : World) (v : Value) (xs : List Nat) (a : Option Addr) (n cap : Nat) (l : List (Opx)) (en : Opx → List Nat)
    (hw : Below w0.heap.size w0 w) (h : Row w w0.heap.size v xs) (hn : n = l.length) (hnb : n ≤ 1000000) (hr : CRd w0 a 5 (l.map (fun o => o.cs.toList))) (hl : (xs ++ enc n ++ (l.map en).flatten).length ≤ 100000000)
    (one : ∀ (V : World) (u : Value) (ys : List Nat) (x : Opx), x ∈ l → Below w0.heap.size w0 V → Row V w0.heap.size u ys → (ys ++ en x).length ≤ 100000000 → Calls Tryz.prog 33 #[u, .agg #[.int .i64 x.c, .int .i64 x.d, .int .i64 x.a, .int .i64 x.b, .int .i64 x.k]] V (ApP V w0.heap.size u (ys ++ en x))) :
    Calls Tryz.prog 31 #[v, .slice a n cap, .func (.func 33) #[] #[]] w (ApP w w0.heap.size v (xs ++ enc n ++ (l.map en).flatten)) := by
  have K0 := hid (putUint_any w n (by omega))
  have hnI : (n : Int) ≤ 1000000 := by omega
  have hnw : IntKind.u64.wrap (n : Int) = (n : Int) := by rw [IntKind.wrap_u64]; omega
  have HN := hid hn
  have HR := hid hr
  have HW := hid hw
  have H := hid h
  have HL := hid hl
  have ONE := hid one
  have hB : w0.heap.size ≤ w.heap.size := hw.size
  have HE := hid (enc_le n (by omega))
  have HBy := hid (enc_byt n)
  have hxl : Hid (xs.length ≤ 100000000) := hid (by simp at hl; omega)
  clear hn hr hw h hl one
  go_enter Tryz.func31, Tryz.ntmps31
  go_upto_region 2 with (first
    | (go_at_call 60; (refine (Hid.out K0).mono ?_; rintro e w1 ⟨v1, rfl, hr1, hb1⟩; have HR1 := hid hr1; have HB1 := hid hb1; clear hr1 hb1))
    | (at_builtin; refine wpList_appR _ rfl _ _ rfl _ _ (by rfl) (by rfl) w0.heap.size xs _ (H.out.below (Nat.le_refl _) HB1.out) (HR1.out.rd HBy.out) HR1.out.nilOf (Nat.le_trans hB HB1.out.size) (by have := hxl.out; omega) (by have := HE.out; omega) ?_; intro v2 w2 h1 h2; have H1 := hid h1; have H2 := hid ((Grw.ofBelow v HB1.out).trans h2); clear h1 h2))
  clear K0 HR1 HB1
  go_wp2
  go_loopg [0, 17] n (fun g u x wr => ∃ j : Nat, j + g = n ∧ x = .int .i64 (j : Int) ∧ Row wr w0.heap.size u (xs ++ enc n ++ ((l.take j).map en).flatten) ∧ Grw w v wr u)
  case atStart => exact ⟨0, by omega, rfl, by simpa using H1.out, H2.out⟩
  case round =>
    obtain ⟨j, hj, rfl, hk, hg⟩ := hrel
    obtain ⟨u, hu⟩ : ∃ u, u = u0 := ⟨_, rfl⟩
    subst hu
    have hb : Below w0.heap.size w0 wr := HW.out.trans (hg.below H.out hB)
    cases gk with
    | zero =>
      have hjn : j = n := by omega
      subst hjn
      rw [show l.take j = l from by rw [HN.out, List.take_of_length_le (Nat.le_refl _)]] at hk
      have HK := hid hk
      have HG := hid hg
      clear hk hg hb
      go_wp2
      go_ret
      exact ⟨_, rfl, HK.out, HG.out⟩
    | succ g =>
      have hlj : j < l.length := by rw [← HN.out]; omega
      have hgj : l[j]? = some l[j] := List.getElem?_eq_getElem hlj
      have hm : l[j] ∈ l := List.getElem_mem hlj
      obtain ⟨b, off, ea1, hbl, hc⟩ := (HR.out.below (Nat.le_refl _) hb) j ((fun o => o.cs.toList) l[j]) (by simp [hgj])
      have ht : Hid (xs ++ enc n ++ ((l.take (j + 1)).map en).flatten = xs ++ enc n ++ ((l.take j).map en).flatten ++ en l[j]) := hid (by rw [List.take_add_one, hgj, List.map_append, List.flatten_append]; simp only [Option.toList, List.map_cons, List.map_nil, List.flatten_cons, List.flatten_nil, List.append_nil, List.append_assoc])
      have hlen : (xs ++ enc n ++ ((l.take j).map en).flatten ++ en l[j]).length ≤ 100000000 := by
        have h1 := HL.out
        have h2 : l = l.take (j + 1) ++ l.drop (j + 1) := (List.take_append_drop _ _).symm
        rw [h2, List.map_append, List.flatten_append] at h1
        rw [← ht.out]
        simp only [List.length_append] at h1 ⊢
        omega
      generalize l[j] = xx at hgj hc hm ht hlen
      subst ea1
      obtain ⟨oc, od, oa, ob, ok⟩ := xx
      obtain ⟨A, hA⟩ : ∃ A, A = wr.alloc (.cells #[.int .i64 oc, .int .i64 od, .int .i64 oa, .int .i64 ob, .int .i64 ok] 54) := ⟨_, rfl⟩
      obtain ⟨Y, hY⟩ : ∃ Y, Y = wr.heap.size := ⟨_, rfl⟩
      have mY : A.heap[Y]? = some (.cells #[.int .i64 oc, .int .i64 od, .int .i64 oa, .int .i64 ob, .int .i64 ok] 54 (0, 0)) := by rw [hA, hY]; exact heap_alloc_new wr _
      have K := hid (ONE.out A u (xs ++ enc n ++ ((l.take j).map en).flatten) _ hm (by rw [hA]; exact hb.alloc hb.size _) (by rw [hA]; exact hk.alloc _) hlen)
      have GA : Hid (∀ (u1 : Value) (w1 : World), Grw A u w1 u1 → Grw wr u w1 u1) := hid (fun u1 w1 h => by rw [hA] at h; exact h.unalloc)
      have HB := hid hb
      have HG := hid hg
      have s0 := hc 0 (by omega)
      have s1 := hc 1 (by omega)
      have s2 := hc 2 (by omega)
      have s3 := hc 3 (by omega)
      have s4 := hc 4 (by omega)
      simp only [Opx.cs, List.getElem?_cons_zero, List.getElem?_cons_succ, Nat.add_zero, Nat.mul_one] at s0 s1 s2 s3 s4
      have hjI : (j : Int) < (n : Int) := by omega
      have hj0 : (0 : Int) ≤ (j : Int) := by omega
      clear hk hg hb hgj hc hbl hlj hlen hm
      go_upto_region 5 with fail
      rw [← hA, ← hY]
      clear hA hY s0 s1 s2 s3 s4
      have y0 := cellOf mY 0
      have y1 := cellOf mY 1
      have y2 := cellOf mY 2
      have y3 := cellOf mY 3
      have y4 := cellOf mY 4
      simp only [List.getElem?_toArray, List.getElem?_cons_zero, List.getElem?_cons_succ] at y0 y1 y2 y3 y4
      clear mY
      go_wp2_with (go_at_call 33; (refine (Hid.out K).mono ?_; rintro e w1 ⟨u1, rfl, hr1, hg1⟩; have HR1 := hid hr1; have HG1 := hid (GA.out u1 w1 hg1); clear hr1 hg1))
      go_roundg g
      case measure => omega
      exact ⟨j + 1, by omega, by go_num, by rw [ht.out]; exact HR1.out, HG.out.trans HG1.out⟩
end Go.Proofs.YthnolocldeokeaaGreat

