/- The document's Zero. -/
import Derived.Test.YtnmbifoinponeaaGreatDoorH3
namespace Go.Proofs.YtnmbifoinponeaaGreatDoor
open Go.RowKit Go.Deep Go.Shelf
set_option linter.unusedVariables false
set_option linter.unusedSimpArgs false

theorem fin_getD (ts : List TyP) (n : Nat) (h : n = ts.length) : ((List.finRange n).map fun i => zH (ts.getD i.val (0, 0))) = ts.map zH := by
  subst h
  refine List.ext_getElem (by simp) fun i h1 h2 => ?_
  simp at h1 h2
  simp [h1, List.getD_eq_getElem?_getD]
theorem setCell_low {w : World} {V i : Nat} {u : Value} {j : Nat} (h : j < V) : (w.setCell ⟨V, i, none⟩ u).heap[j]? = w.heap[j]? := Below.heap_setCell _ _ _ _ (by show j ≠ V; omega)
structure ZL (w wr : World) (V : Nat) (rv : Value) (fa : Option Addr) (fn fc : Nat) (zs : List Hd) : Prop where
  v : wr.heap[V]? = some (.cells #[.int .i64 4, .int .i64 0, .string ⟨#[]⟩, rv, .slice fa fn fc] 31 (0, 0))
  row : VRow wr (V + 1) (.slice fa fn fc) zs
  sz : V + 1 ≤ wr.heap.size

theorem ZL.app {w wr w9 w10 : World} {V : Nat} {rv : Value} {za : Option Addr} {zn zc : Nat} {zs zs2 : List Hd} {v2 : Value} (h : ZL w wr V rv za zn zc zs) (hB : Below wr.heap.size wr w9) (hr : VRow w10 (V + 1) v2 zs2) (hg : Grw w9 (.slice za zn zc) w10 v2) :
    (∀ j, j < V → w10.heap[j]? = wr.heap[j]?) ∧ w10.heap[V]? = some (.cells #[.int .i64 4, .int .i64 0, .string ⟨#[]⟩, rv, .slice za zn zc] 31 (0, 0)) ∧ w10.os = wr.os ∧ w10.tape = wr.tape ∧ w10.output = wr.output ∧ wr.heap.size ≤ w10.heap.size := by
  have hs := h.sz
  have hs2 := hB.size
  have own : ∀ j, j ≤ V → (Value.slice za zn zc).ownBlock ≠ some j := fun j hj e => by have := (h.row.own j e).1; omega
  exact ⟨fun j hj => (hg.1.block j (by omega) (fun e => own j (by omega) e.symm)).trans (hB.block j (by omega)), ((hg.1.block V (by omega) (fun e => own V (by omega) e.symm)).trans (hB.block V (by omega))).trans h.v, hg.1.os.trans hB.os, hg.1.tape.trans hB.tape, hg.1.output.trans hB.output, Nat.le_trans hs2 hg.1.size⟩
theorem ZL.put {w w10 : World} {V : Nat} {rv u0 : Value} {fa : Option Addr} {fn fc : Nat} {zs2 : List Hd} (hv : w10.heap[V]? = some (.cells #[.int .i64 4, .int .i64 0, .string ⟨#[]⟩, rv, u0] 31 (0, 0))) (hr : VRow w10 (V + 1) (.slice fa fn fc) zs2) : ZL w (w10.setCell ⟨V, 4, none⟩ (.slice fa fn fc)) V rv fa fn fc zs2 := by
  have h4 := heap_set_at hv 4 (.slice fa fn fc)
  refine ⟨by simpa using h4, hr.same (fun q e => Below.heap_setCell _ _ _ _ (by have := (hr.own q e).1; show q ≠ V; omega)), (Array.getElem?_eq_some_iff.1 h4).1⟩

set_option maxRecDepth 100000 in
set_option maxHeartbeats 2000000 in
theorem refZero (w : World) (g : PH) (p : Pg) (d : PRd w g p) (hR : rightB p = true) (k r : Int) :
    Calls Tryz.prog 18 #[g.v, ty k r] w fun e w' => ∃ h zs, e = .returned h.v ∧ Below w.heap.size w w' ∧ ZeroIs p (k, r) h zs ∧ VRd w' h.a zs ∧ h.n = zs.length := by
  have e0 : g.rn = p.rn := d.r.n1
  by_cases hk : k = 4 ∧ typB p.rn (k, r) = true
  · obtain ⟨rfl, q1⟩ := hk
    have K27 := hid (fun w' => refIsType w' g 4 r d.r.n2)
    rw [e0] at K27
    simp only [q1] at K27
    have KS := hid (fun w' k2 r2 h2 => refZero_simple w' g k2 r2 d.r.n2 h2)
    obtain ⟨hl16, hrecs⟩ := right_recs hR
    have hrr : 0 ≤ r ∧ r < (g.rn : Int) := by
      have q := q1
      unfold typB at q
      simp only [if_true, Bool.and_eq_true, decide_eq_true_eq] at q
      rw [← e0] at q
      exact q
    obtain ⟨ri, rfl⟩ : ∃ ri : Nat, r = (ri : Int) := ⟨r.toNat, by omega⟩
    obtain ⟨x, hx⟩ : ∃ x, p.recs[ri]? = some x := ⟨p.recs[ri]'(by have e00 := e0; unfold Pg.rn at e00; omega), by rw [List.getElem?_eq_getElem]⟩
    obtain ⟨hf12, hft, hts⟩ := hrecs x (List.mem_of_getElem? hx)
    have HZI : Hid (ZeroIs p (4, (ri : Int)) = fun h zs => h.kind = 4 ∧ h.int = 0 ∧ h.text = ⟨#[]⟩ ∧ h.rc = (ri : Int) ∧ zs = x.2.types.map zH) := hid (by
      funext h zs
      unfold ZeroIs zsOf
      rw [if_pos ⟨rfl, q1⟩, Int.toNat_natCast, hx]
      simp only [Option.map_some, Option.getD_some]
      rw [fin_getD _ _ hft])
    obtain ⟨b1, o1, ea', hb1', e1⟩ := d.r.rd ri x.1.cs (by simp [hx])
    have hc2 := e1 2 (by omega)
    simp only [RH.cs, List.getElem?_cons_zero, List.getElem?_cons_succ] at hc2
    have hrc := d.r.el x (List.mem_of_getElem? hx)
    have HT := hid hrc.tr
    have Htn := hid hrc.tn
    have Hsim : Hid (∀ t ∈ x.2.types, simB t = true) := hid (List.all_eq_true.1 hts)
    have hg9 := d.r.n2
    clear d hx e1 hrc hts hrecs e0 hR q1 hl16
    obtain ⟨ra, rn, rc, ma, mn, mc, fa, fn, fc, ea, en, ec⟩ := g
    simp only at hrr ea' hg9
    subst ea'
    simp only [PH.v, ty] at K27 KS ⊢
    obtain ⟨⟨nm, ga, gn, gc, ta, tn, tc⟩, rcx⟩ := x
    simp only at hc2 HT Htn hf12 hft HZI Hsim
    have htn12 : tn ≤ 12 := by have := Htn.out; omega
    have htn12' : (tn : Int) ≤ 12 := by omega
    have hi0 : (0 : Int) ≤ (ri : Int) := by omega
    have hi1 : (ri : Int) < (rn : Int) := by omega
    have Hc2 := hid hc2
    have Hb1 := hid hb1'
    have HZ0 := hid (ZW.start w (some ⟨b1, o1, none⟩) rn rc ma mn mc fa fn fc ea en ec 4 (ri : Int))
    clear hc2 hb1' hrr hft hf12
    go_enter Tryz.func18, Tryz.ntmps18
    go_wp2_with (go_at_call 27; (refine (Hid.out K27 _).mono ?_; rintro e w1 ⟨rfl, hb1⟩; have z1 := HZ0.out.on hb1; have HZ1 := hid z1; have d0 := cellOf z1.b2 0; have d1 := cellOf z1.b2 1; simp only [List.getElem?_toArray, List.getElem?_cons_zero, List.getElem?_cons_succ] at d0 d1; have nn := heap_alloc_new w1 (.cells #[.int .i64 4, .int .i64 0, .string ⟨#[]⟩, .int .i64 0, .slice none 0 0] 31); have n3 := cellOf nn 3; have m3 := freeOf nn 3; simp only [List.getElem?_toArray, List.getElem?_cons_zero, List.getElem?_cons_succ] at n3; have HNN := hid nn; have al : ∀ (o : Obj) (p : Addr) (v : Value), w1.cell? p = some v → (w1.alloc o).cell? p = some v := fun o p v h => (World.cell?_of_block (Below.heap_alloc _ _ _ (World.block_lt_of_cell? w1 p h))).trans h; have d0' := fun o => al o _ _ d0; have d1' := fun o => al o _ _ d1; clear z1 al nn))
    obtain ⟨W2, hW2⟩ : ∃ W2, W2 = w1.alloc (.cells #[.int .i64 4, .int .i64 0, .string ⟨#[]⟩, .int .i64 (ri : Int), .slice none 0 0] 31) := ⟨_, rfl⟩
    have hV3 : w.heap.size + 1 + 1 < w1.heap.size := (Array.getElem?_eq_some_iff.1 HZ1.out.b3).1
    have hnv : W2.heap[w1.heap.size]? = some (.cells #[.int .i64 4, .int .i64 0, .string ⟨#[]⟩, .int .i64 (ri : Int), .slice none 0 0] 31 (0, 0)) := by
      rw [hW2]; exact heap_alloc_new w1 _
    have hbW : Below w1.heap.size w1 W2 := by
      rw [hW2]; exact (Below.refl _ w1).alloc (Nat.le_refl _) _
    have hsz : w1.heap.size + 1 ≤ W2.heap.size := (Array.getElem?_eq_some_iff.1 hnv).1
    have z2 := HZ1.out.on hbW
    rw [← hW2]
    clear hW2 d0 d1 n3 m3 d0' d1' hbW HNN HZ1 HZ0 K27 hb1
    generalize w1.heap.size = V at *
    clear w1
    go_loopg [6] tn (fun g ii wr => ∃ i : Nat, i + g = tn ∧ ii = .int .i64 (i : Int) ∧ ZW w wr (some ⟨b1, o1, none⟩) rn rc ma mn mc fa fn fc ea en ec 4 (ri : Int) ∧ ∃ za zn zc, ZL w wr V (.int .i64 (ri : Int)) za zn zc ((rcx.types.take i).map zH))
    case atStart => exact ⟨0, by omega, rfl, z2, none, 0, 0, hnv, by simpa using VRow.nil _ _, hsz⟩
    case round =>
      obtain ⟨i, hi', rfl, hz, za, zn, zc, hl⟩ := hrel
      have hzn : zn = (rcx.types.take i).length := by
        obtain ⟨a9, c9, e9, _⟩ := hl.row.form
        cases e9; simp
      have hc2r := (hz.hb.cell (p := ⟨b1, o1 + ri * 3 + 2, none⟩) Hb1.out).trans Hc2.out
      have k0 := cellOf hz.b1 0
      have k1 := cellOf hz.b1 1
      have k2 := cellOf hz.b1 2
      have k3 := cellOf hz.b1 3
      have k5 := cellOf hz.b2 1
      simp only [List.getElem?_toArray, List.getElem?_cons_zero, List.getElem?_cons_succ] at k0 k1 k2 k3 k5
      have v0 := cellOf hl.v 0
      have v1 := cellOf hl.v 1
      have v2 := cellOf hl.v 2
      have v3 := cellOf hl.v 3
      have v4 := cellOf hl.v 4
      simp only [List.getElem?_toArray, List.getElem?_cons_zero, List.getElem?_cons_succ] at v0 v1 v2 v3 v4
      have Hz := hid hz
      have Hl := hid hl
      have Hzn := hid hzn
      cases gk with
      | zero =>
        have hin : i = tn := by omega
        subst hin
        have e0 := cellOf hz.b3 0
        have e1 := cellOf hz.b3 1
        have e2 := cellOf hz.b3 2
        have e3 := cellOf hz.b3 3
        have e4 := cellOf hz.b3 4
        have f0 := freeOf hz.b3 0
        have f1 := freeOf hz.b3 1
        have f2 := freeOf hz.b3 2
        have f3 := freeOf hz.b3 3
        have f4 := freeOf hz.b3 4
        simp only [List.getElem?_toArray, List.getElem?_cons_zero, List.getElem?_cons_succ] at e0 e1 e2 e3 e4
        clear hi' hz hl hzn z2 hnv hsz
        go_wp2
        change bodyPost _ _ _ _ _ (five wr (w.heap.size + 1 + 1) 0 ⟨4, 0, ⟨#[]⟩, (ri : Int), za, zn, zc⟩)
        have h5 := five_new Hz.out.b3 ⟨4, 0, ⟨#[]⟩, (ri : Int), za, zn, zc⟩
        have hb5 := five_below Hz.out.hb (b := w.heap.size + 1 + 1) (o := 0) (by omega) ⟨4, 0, ⟨#[]⟩, (ri : Int), za, zn, zc⟩
        have hv5 := Hl.out.row.same (w' := five wr (w.heap.size + 1 + 1) 0 ⟨4, 0, ⟨#[]⟩, (ri : Int), za, zn, zc⟩) (fun q e => five_heap _ _ _ _ (fun h => by have := (Hl.out.row.own q e).1; omega))
        generalize five wr (w.heap.size + 1 + 1) 0 ⟨4, 0, ⟨#[]⟩, (ri : Int), za, zn, zc⟩ = W5 at *
        have r0 := cellOf h5 0
        have r1 := cellOf h5 1
        have r2 := cellOf h5 2
        have r3 := cellOf h5 3
        have r4 := cellOf h5 4
        simp only [List.getElem?_toArray, List.getElem?_cons_zero, List.getElem?_cons_succ] at r0 r1 r2 r3 r4
        have hta : rcx.types.take i = rcx.types := List.take_of_length_le (by have := Htn.out; omega)
        rw [hta] at hv5
        refine bodyPost_ret (v := .agg #[.int .i64 4, .int .i64 0, .string ⟨#[]⟩, .int .i64 (ri : Int), .slice za zn zc]) (by simp [results, Tryz.results18, go_sem, r0, r1, r2, r3, r4]) rfl ⟨⟨4, 0, ⟨#[]⟩, (ri : Int), za, zn, zc⟩, rcx.types.map zH, rfl, hb5, ?_, hv5.rd, ?_⟩
        · rw [HZI.out]; exact ⟨rfl, rfl, rfl, rfl, rfl⟩
        · rw [List.length_map]; have := Hzn.out; rw [hta] at this; exact this
      | succ gi =>
        have hlt0 : i < tn := by omega
        have hlt : (i : Int) < (tn : Int) := by omega
        obtain ⟨t, ht⟩ : ∃ t, rcx.types[i]? = some t := ⟨rcx.types[i]'(by have := Htn.out; omega), List.getElem?_eq_getElem _⟩
        obtain ⟨tb, to', ea', dt1, dt2⟩ := (HT.out.below (Nat.le_refl _) hz.hb) i t ht
        subst ea'
        have hsi := Hsim.out t (List.mem_of_getElem? ht)
        obtain ⟨tk, tr⟩ := t
        simp only at dt1 dt2
        have C18 := hid (fun w' => KS.out w' tk tr (fun h => by rw [h.1] at hsi; simp [simB] at hsi))
        have hcat : (rcx.types.take i).map zH ++ [zH (tk, tr)] = (rcx.types.take (i + 1)).map zH := by
          rw [List.take_add_one, ht]; simp
        have hln : ((rcx.types.take i).map zH).length ≤ 1000000 := by rw [List.length_map, List.length_take]; omega
        generalize (rcx.types.take i).map zH = zs at *
        obtain ⟨zs2, hzs2⟩ : ∃ zs2, zs2 = (rcx.types.take (i + 1)).map zH := ⟨_, rfl⟩
        rw [← hzs2] at hcat
        have Hzs2 := hid hzs2
        clear hzs2
        generalize zH (tk, tr) = x0 at *
        obtain ⟨xk, xi, xt, xr, xa, xn, xc⟩ := x0
        simp only [Hd.v] at C18
        have hbl : b1 < V := by have := Hb1.out; omega
        have htl : tb < V := by
          obtain ⟨b', off', e', hc', _⟩ := HT.out i (tk, tr) ht
          cases e'
          have := World.block_lt_of_cell? w _ hc'
          have h2 : tb < w.heap.size := this
          omega
        have KEEP : Hid (∀ W' : World, (∀ j, j < V → W'.heap[j]? = wr.heap[j]?) → (W'.cell? ⟨w.heap.size, 0, none⟩ = some (.slice (some ⟨b1, o1, none⟩) rn rc) ∧ W'.cell? ⟨w.heap.size, 1, none⟩ = some (.slice ma mn mc) ∧ W'.cell? ⟨w.heap.size, 2, none⟩ = some (.slice fa fn fc) ∧ W'.cell? ⟨w.heap.size, 3, none⟩ = some (.slice ea en ec) ∧ W'.cell? ⟨w.heap.size + 1, 1, none⟩ = some (.int .i64 (ri : Int)) ∧ W'.cell? ⟨b1, o1 + ri * 3 + 2, none⟩ = some (.slice (some ⟨tb, to', none⟩) tn tc) ∧ W'.cell? ⟨tb, to' + i * 2, none⟩ = some (.int .i64 tk) ∧ W'.cell? ⟨tb, to' + i * 2 + 1, none⟩ = some (.int .i64 tr))) := hid (fun W' h =>
          ⟨(World.cell?_of_block (a := ⟨w.heap.size, 0, none⟩) (h _ (by show w.heap.size < V; omega))).trans k0, (World.cell?_of_block (a := ⟨w.heap.size, 1, none⟩) (h _ (by show w.heap.size < V; omega))).trans k1, (World.cell?_of_block (a := ⟨w.heap.size, 2, none⟩) (h _ (by show w.heap.size < V; omega))).trans k2, (World.cell?_of_block (a := ⟨w.heap.size, 3, none⟩) (h _ (by show w.heap.size < V; omega))).trans k3, (World.cell?_of_block (a := ⟨w.heap.size + 1, 1, none⟩) (h _ (by show w.heap.size + 1 < V; omega))).trans k5, (World.cell?_of_block (a := ⟨b1, o1 + ri * 3 + 2, none⟩) (h _ hbl)).trans hc2r, (World.cell?_of_block (a := ⟨tb, to' + i * 2, none⟩) (h _ htl)).trans dt1, (World.cell?_of_block (a := ⟨tb, to' + i * 2 + 1, none⟩) (h _ htl)).trans dt2⟩)
        have ZKEEP : Hid (∀ W' : World, (∀ j, j < V → W'.heap[j]? = wr.heap[j]?) → W'.os = wr.os → W'.tape = wr.tape → W'.output = wr.output → wr.heap.size ≤ W'.heap.size → ZW w W' (some ⟨b1, o1, none⟩) rn rc ma mn mc fa fn fc ea en ec 4 (ri : Int)) := hid (fun W' h h1 h2 h3 h4 => ⟨(h _ (by omega)).trans hz.b1, (h _ (by omega)).trans hz.b2, (h _ (by omega)).trans hz.b3, hz.hb.trans ⟨h1, h2, h3, h4, fun j hj => h j (by omega)⟩⟩)
        have Hcat := hid hcat
        have Hi := hid hi'
        have HV3 := hid hV3
        have Hln := hid hln
        have hi00 : (0 : Int) ≤ (i : Int) := by omega
        clear hi' hz hl hzn z2 hnv hsz hcat ht hsi htl hbl hV3 hln v0 v1 v2 v3 HT Hsim
        go_wp2
        have v4d : wr.drew.cell? ⟨V, 4, none⟩ = some (.slice za zn zc) := cellOf (show wr.drew.heap[V]? = _ from Hl.out.v) 4
        refine wp_region_held_drew (S := fun W' => W'.cell? ⟨w.heap.size, 0, none⟩ = some (.slice (some ⟨b1, o1, none⟩) rn rc) ∧ W'.cell? ⟨w.heap.size, 1, none⟩ = some (.slice ma mn mc) ∧ W'.cell? ⟨w.heap.size, 2, none⟩ = some (.slice fa fn fc) ∧ W'.cell? ⟨w.heap.size, 3, none⟩ = some (.slice ea en ec) ∧ W'.cell? ⟨w.heap.size + 1, 1, none⟩ = some (.int .i64 (ri : Int)) ∧ W'.cell? ⟨b1, o1 + ri * 3 + 2, none⟩ = some (.slice (some ⟨tb, to', none⟩) tn tc) ∧ W'.cell? ⟨tb, to' + i * 2, none⟩ = some (.int .i64 tk) ∧ W'.cell? ⟨tb, to' + i * 2 + 1, none⟩ = some (.int .i64 tr)) (by kernel_rfl) (KEEP.out _ (fun j hj => rfl)) (fun hHeld => ?_)
        refine wpAnyH_take (i := 0) (oi := { dst := some 33, op := Op.fieldAddr 31 (Operand.tmp 5) 4, type := 0, pos := "windlassref3.go:127", after := #[], guard := none }) (v := .pointer (some ⟨V, 4, none⟩)) rfl (by kernel_rfl) (by kernel_rfl) (by kernel_rfl) (fun _ _ _ h => h) (Or.inl ⟨by rfl, ?_⟩) (by assumption) ?_
        · intro w hSw; (try dsimp only at hSw); go_simp
        try simp only [Act.put, List.setIfInBounds_toArray, List.set_cons_zero, List.set_cons_succ]
        refine wpAnyH_take (i := 2) (oi := { dst := some 35, op := Op.load 26 (Operand.tmp 2), type := 26, pos := "windlassref3.go:127", after := #[], guard := none }) (v := .agg #[.slice (some ⟨b1, o1, none⟩) rn rc, .slice ma mn mc, .slice fa fn fc, .slice ea en ec]) rfl (by kernel_rfl) (by kernel_rfl) (by kernel_rfl) (fun _ _ _ h => h) (Or.inl ⟨by rfl, ?_⟩) (by assumption) ?_
        · intro w hSw; (try dsimp only at hSw); go_simp
        try simp only [Act.put, List.setIfInBounds_toArray, List.set_cons_zero, List.set_cons_succ]
        refine wpAnyH_take (i := 3) (oi := { dst := some 36, op := Op.fieldAddr 26 (Operand.tmp 2) 0, type := 0, pos := "windlassref3.go:127", after := #[], guard := none }) (v := .pointer (some ⟨w.heap.size, 0, none⟩)) rfl (by kernel_rfl) (by kernel_rfl) (by kernel_rfl) (fun _ _ _ h => h) (Or.inl ⟨by rfl, ?_⟩) (by assumption) ?_
        · intro w hSw; (try dsimp only at hSw); go_simp
        try simp only [Act.put, List.setIfInBounds_toArray, List.set_cons_zero, List.set_cons_succ]
        refine wpAnyH_take (i := 4) (oi := { dst := some 37, op := Op.load 22 (Operand.tmp 36), type := 22, pos := "windlassref3.go:127", after := #[{ on := 3, ground := Ground.data }], guard := none }) (v := .slice (some ⟨b1, o1, none⟩) rn rc) rfl (by kernel_rfl) (by kernel_rfl) (by kernel_rfl) (fun _ _ _ h => h) (Or.inl ⟨by rfl, ?_⟩) (by assumption) ?_
        · intro w hSw; (try dsimp only at hSw); go_simp
        try simp only [Act.put, List.setIfInBounds_toArray, List.set_cons_zero, List.set_cons_succ]
        refine wpAnyH_take (i := 5) (oi := { dst := some 38, op := Op.fieldAddr 28 (Operand.tmp 3) 1, type := 0, pos := "windlassref3.go:127", after := #[], guard := none }) (v := .pointer (some ⟨w.heap.size + 1, 1, none⟩)) rfl (by kernel_rfl) (by kernel_rfl) (by kernel_rfl) (fun _ _ _ h => h) (Or.inl ⟨by rfl, ?_⟩) (by assumption) ?_
        · intro w hSw; (try dsimp only at hSw); go_simp
        try simp only [Act.put, List.setIfInBounds_toArray, List.set_cons_zero, List.set_cons_succ]
        refine wpAnyH_take (i := 6) (oi := { dst := some 39, op := Op.load 3 (Operand.tmp 38), type := 3, pos := "windlassref3.go:127", after := #[{ on := 5, ground := Ground.data }], guard := none }) (v := .int .i64 (ri : Int)) rfl (by kernel_rfl) (by kernel_rfl) (by kernel_rfl) (fun _ _ _ h => h) (Or.inl ⟨by rfl, ?_⟩) (by assumption) ?_
        · intro w hSw; (try dsimp only at hSw); go_simp
        try simp only [Act.put, List.setIfInBounds_toArray, List.set_cons_zero, List.set_cons_succ]
        refine wpAnyH_take (i := 7) (oi := { dst := some 40, op := Op.indexAddr 22 (Operand.tmp 37) (Operand.tmp 39), type := 0, pos := "windlassref3.go:127", after := #[{ on := 4, ground := Ground.data }, { on := 6, ground := Ground.data }], guard := none }) (v := .pointer (some ⟨b1, o1 + ri * 3, none⟩)) rfl (by kernel_rfl) (by kernel_rfl) (by kernel_rfl) (fun _ _ _ h => h) (Or.inl ⟨by rfl, ?_⟩) (by assumption) ?_
        · intro w hSw; (try dsimp only at hSw); go_simp
        try simp only [Act.put, List.setIfInBounds_toArray, List.set_cons_zero, List.set_cons_succ]
        refine wpAnyH_take (i := 8) (oi := { dst := some 41, op := Op.fieldAddr 45 (Operand.tmp 40) 2, type := 0, pos := "windlassref3.go:127", after := #[{ on := 7, ground := Ground.data }], guard := none }) (v := .pointer (some ⟨b1, o1 + ri * 3 + 2, none⟩)) rfl (by kernel_rfl) (by kernel_rfl) (by kernel_rfl) (fun _ _ _ h => h) (Or.inl ⟨by rfl, ?_⟩) (by assumption) ?_
        · intro w hSw; (try dsimp only at hSw); go_simp
        try simp only [Act.put, List.setIfInBounds_toArray, List.set_cons_zero, List.set_cons_succ]
        refine wpAnyH_take (i := 9) (oi := { dst := some 42, op := Op.load 43 (Operand.tmp 41), type := 43, pos := "windlassref3.go:127", after := #[{ on := 8, ground := Ground.data }], guard := none }) (v := .slice (some ⟨tb, to', none⟩) tn tc) rfl (by kernel_rfl) (by kernel_rfl) (by kernel_rfl) (fun _ _ _ h => h) (Or.inl ⟨by rfl, ?_⟩) (by assumption) ?_
        · intro w hSw; (try dsimp only at hSw); go_simp
        try simp only [Act.put, List.setIfInBounds_toArray, List.set_cons_zero, List.set_cons_succ]
        refine wpAnyH_take (i := 10) (oi := { dst := some 43, op := Op.move (Operand.tmp 6), type := 3, pos := "windlassref3.go:127", after := #[], guard := none }) (v := .int .i64 (i : Int)) rfl (by kernel_rfl) (by kernel_rfl) (by kernel_rfl) (fun _ _ _ h => h) (Or.inl ⟨by rfl, ?_⟩) (by assumption) ?_
        · intro w hSw; (try dsimp only at hSw); go_simp
        try simp only [Act.put, List.setIfInBounds_toArray, List.set_cons_zero, List.set_cons_succ]
        refine wpAnyH_take (i := 11) (oi := { dst := some 44, op := Op.indexAddr 43 (Operand.tmp 42) (Operand.tmp 43), type := 0, pos := "windlassref3.go:127", after := #[{ on := 9, ground := Ground.data }, { on := 10, ground := Ground.data }], guard := none }) (v := .pointer (some ⟨tb, to' + i * 2, none⟩)) rfl (by kernel_rfl) (by kernel_rfl) (by kernel_rfl) (fun _ _ _ h => h) (Or.inl ⟨by rfl, ?_⟩) (by assumption) ?_
        · intro w hSw; (try dsimp only at hSw); go_simp
        try simp only [Act.put, List.setIfInBounds_toArray, List.set_cons_zero, List.set_cons_succ]
        refine wpAnyH_take (i := 12) (oi := { dst := some 45, op := Op.load 28 (Operand.tmp 44), type := 28, pos := "windlassref3.go:127", after := #[{ on := 11, ground := Ground.data }], guard := none }) (v := .agg #[.int .i64 tk, .int .i64 tr]) rfl (by kernel_rfl) (by kernel_rfl) (by kernel_rfl) (fun _ _ _ h => h) (Or.inl ⟨by rfl, ?_⟩) (by assumption) ?_
        · intro w hSw; (try dsimp only at hSw); go_simp
        try simp only [Act.put, List.setIfInBounds_toArray, List.set_cons_zero, List.set_cons_succ]
        refine wpAnyH_ready (rs := [1, 13]) (by kernel_rfl) (by simp) ?_
        refine AllReadyH.cons (o := { dst := some 34, op := Op.load 29 (Operand.tmp 33), type := 29, pos := "windlassref3.go:127", after := #[{ on := 0, ground := Ground.data }], guard := none }) rfl (fun K hK => ?_) ?_
        · go_simp
          refine hK.out _ _ (KEEP.out _ (fun j hj => rfl)) (fun hHeldN => ?_)
          clear hK K
          try simp only [Act.put, List.setIfInBounds_toArray, List.set_cons_zero, List.set_cons_succ]
          refine wpAnyH_ready (rs := [13]) (by kernel_rfl) (by simp) ?_
          refine AllReadyH.cons (o := { dst := some 46, op := Op.call { callee := Callee.value (Operand.func 18), args := #[Operand.tmp 35, Operand.tmp 45], argTypes := #[26, 28] }, type := 31, pos := "windlassref3.go:127", after := #[{ on := 2, ground := Ground.data }, { on := 12, ground := Ground.data }], guard := none }) rfl (fun K hK => ?_) AllReadyH.nil
          go_wp2_with (go_at_call 18; (refine (C18.out _).mono ?_; rintro e w9 ⟨rfl, hB9⟩))
          have hB9' : Below wr.heap.size wr w9 := ((Below.refl _ wr).drew).trans hB9
          have hB9a : ∀ o, Below wr.heap.size wr (w9.alloc o) := fun o => hB9'.alloc hB9'.size o
          have hk9 : ∀ j, j < V → w9.heap[j]? = wr.heap[j]? := fun j hj => hB9'.block j (by have := Hl.out.sz; omega)
          have hk9' : ∀ (o : Obj) (j : Nat), j < V → (w9.alloc o).heap[j]? = wr.heap[j]? := fun o j hj => (hB9a o).block j (by have := Hl.out.sz; omega)
          have z9 := cellOf ((hB9'.block V (by have := Hl.out.sz; omega)).trans Hl.out.v) 4
          have z9' := fun o => cellOf (((hB9a o).block V (by have := Hl.out.sz; omega)).trans Hl.out.v) 4
          simp only [List.getElem?_toArray, List.getElem?_cons_zero, List.getElem?_cons_succ] at z9 z9'
          refine hK.out _ _ (KEEP.out _ hk9) (fun hHeldN => ?_)
          clear hK K
          try simp only [Act.put, List.setIfInBounds_toArray, List.set_cons_zero, List.set_cons_succ]
          refine wpAnyH_ready (rs := [14]) (by kernel_rfl) (by simp) ?_
          refine AllReadyH.cons (o := { dst := some 47, op := Op.buildSlice 29 1 #[(0, Operand.tmp 46)], type := 29, pos := "windlassref3.go:127", after := #[{ on := 13, ground := Ground.data }], guard := none }) rfl (fun K hK => ?_) AllReadyH.nil
          go_simp
          refine hK.out _ _ (KEEP.out _ (hk9' _)) (fun hHeldN => ?_)
          clear hK K
          try simp only [Act.put, List.setIfInBounds_toArray, List.set_cons_zero, List.set_cons_succ]
          refine wpAnyH_ready (rs := [15]) (by kernel_rfl) (by simp) ?_
          refine AllReadyH.cons (o := { dst := some 48, op := Op.call { callee := Callee.builtin Builtin.append, args := #[Operand.tmp 34, Operand.tmp 47], argTypes := #[29, 29] }, type := 29, pos := "windlassref3.go:127", after := #[{ on := 1, ground := Ground.data }, { on := 14, ground := Ground.data }, { on := 13, ground := Ground.chain }], guard := none }) rfl (fun K hK => ?_) AllReadyH.nil
          refine step_appV rfl (.tmp 34) (.tmp 47) rfl (.slice za zn zc) w9.heap.size ⟨xk, xi, xt, xr, xa, xn, xc⟩ rfl rfl (V + 1) zs (Hl.out.row.below (Nat.le_refl _) (hB9a _)) (heap_alloc_new w9 (.cells #[.int .i64 xk, .int .i64 xi, .string xt, .int .i64 xr, .slice xa xn xc] 31)) (Nat.le_trans Hl.out.sz (hB9a _).size) Hln.out ?_
          intro v10 w10 hr10 hg10
          obtain ⟨hk10, hv10, hos10, htp10, hout10, hsz10⟩ := Hl.out.app (hB9a _) hr10 hg10
          have z10 := cellOf hv10 4
          have f10 := freeOf hv10 4
          simp only [List.getElem?_toArray, List.getElem?_cons_zero, List.getElem?_cons_succ] at z10
          obtain ⟨fa2, fc2, e10, hc2⟩ := hr10.form
          rw [Hcat.out] at e10 hr10
          obtain ⟨nn, hnn⟩ : ∃ nn, nn = zs2.length := ⟨_, rfl⟩
          rw [← hnn] at e10
          subst e10
          have hk11 : ∀ (u : Value) (j : Nat), j < V → (w10.setCell ⟨V, 4, none⟩ u).heap[j]? = wr.heap[j]? := fun u j hj => (setCell_low hj).trans (hk10 j hj)
          have HR10 := hid hr10
          have HV10 := hid hv10
          clear hc2 hnn hg10 hr10 hv10 z9 z9' hk9 hk9' hB9a hB9' hB9
          refine hK.out _ _ (KEEP.out _ hk10) (fun hHeldN => ?_)
          clear hK K
          try simp only [Act.put, List.setIfInBounds_toArray, List.set_cons_zero, List.set_cons_succ]
          refine wpAnyH_take (i := 16) (oi := { dst := some 49, op := Op.fieldAddr 31 (Operand.tmp 5) 4, type := 0, pos := "windlassref3.go:127", after := #[{ on := 0, ground := Ground.phase }, { on := 1, ground := Ground.phase }, { on := 2, ground := Ground.phase }, { on := 3, ground := Ground.phase }, { on := 4, ground := Ground.phase }, { on := 5, ground := Ground.phase }, { on := 6, ground := Ground.phase }, { on := 7, ground := Ground.phase }, { on := 8, ground := Ground.phase }, { on := 9, ground := Ground.phase }, { on := 10, ground := Ground.phase }, { on := 11, ground := Ground.phase }, { on := 12, ground := Ground.phase }, { on := 13, ground := Ground.phase }, { on := 14, ground := Ground.phase }, { on := 15, ground := Ground.phase }], guard := none }) (v := .pointer (some ⟨V, 4, none⟩)) rfl (by kernel_rfl) (by kernel_rfl) (by kernel_rfl) (fun _ _ _ h => h) (Or.inl ⟨by rfl, ?_⟩) (by assumption) ?_
          · intro w hSw; (try dsimp only at hSw); go_simp
          try simp only [Act.put, List.setIfInBounds_toArray, List.set_cons_zero, List.set_cons_succ]
          refine wpAnyH_ready (rs := [17]) (by kernel_rfl) (by simp) ?_
          refine AllReadyH.cons (o := { dst := none, op := Op.store 29 (Operand.tmp 49) (Operand.tmp 48), type := 0, pos := "windlassref3.go:127", after := #[{ on := 16, ground := Ground.data }, { on := 15, ground := Ground.data }, { on := 15, ground := Ground.chain }, { on := 0, ground := Ground.phase }, { on := 1, ground := Ground.phase }, { on := 2, ground := Ground.phase }, { on := 3, ground := Ground.phase }, { on := 4, ground := Ground.phase }, { on := 5, ground := Ground.phase }, { on := 6, ground := Ground.phase }, { on := 7, ground := Ground.phase }, { on := 8, ground := Ground.phase }, { on := 9, ground := Ground.phase }, { on := 10, ground := Ground.phase }, { on := 11, ground := Ground.phase }, { on := 12, ground := Ground.phase }, { on := 13, ground := Ground.phase }, { on := 14, ground := Ground.phase }, { on := 15, ground := Ground.phase }], guard := none }) rfl (fun K hK => ?_) AllReadyH.nil
          go_simp
          refine hK.out _ _ (KEEP.out _ (hk11 _)) (fun hHeldN => ?_)
          clear hK K
          try simp only [Act.put, List.setIfInBounds_toArray, List.set_cons_zero, List.set_cons_succ]
          refine wpAnyH_done (by kernel_rfl) ?_ _
          go_wp2
          go_roundg gi
          case measure => omega
          case rel => exact ⟨i + 1, by have := Hi.out; omega, by go_num, ZKEEP.out _ (hk11 _) hos10 htp10 hout10 (by simpa [World.setCell] using hsz10), fa2, nn, fc2, by rw [← Hzs2.out]; exact ZL.put HV10.out HR10.out⟩
        refine AllReadyH.cons (o := { dst := some 46, op := Op.call { callee := Callee.value (Operand.func 18), args := #[Operand.tmp 35, Operand.tmp 45], argTypes := #[26, 28] }, type := 31, pos := "windlassref3.go:127", after := #[{ on := 2, ground := Ground.data }, { on := 12, ground := Ground.data }], guard := none }) rfl (fun K hK => ?_) AllReadyH.nil
        go_wp2_with (go_at_call 18; (refine (C18.out _).mono ?_; rintro e w9 ⟨rfl, hB9⟩))
        have hB9' : Below wr.heap.size wr w9 := ((Below.refl _ wr).drew).trans hB9
        have hB9a : ∀ o, Below wr.heap.size wr (w9.alloc o) := fun o => hB9'.alloc hB9'.size o
        have hk9 : ∀ j, j < V → w9.heap[j]? = wr.heap[j]? := fun j hj => hB9'.block j (by have := Hl.out.sz; omega)
        have hk9' : ∀ (o : Obj) (j : Nat), j < V → (w9.alloc o).heap[j]? = wr.heap[j]? := fun o j hj => (hB9a o).block j (by have := Hl.out.sz; omega)
        have z9 := cellOf ((hB9'.block V (by have := Hl.out.sz; omega)).trans Hl.out.v) 4
        have z9' := fun o => cellOf (((hB9a o).block V (by have := Hl.out.sz; omega)).trans Hl.out.v) 4
        simp only [List.getElem?_toArray, List.getElem?_cons_zero, List.getElem?_cons_succ] at z9 z9'
        refine hK.out _ _ (KEEP.out _ hk9) (fun hHeldN => ?_)
        clear hK K
        try simp only [Act.put, List.setIfInBounds_toArray, List.set_cons_zero, List.set_cons_succ]
        refine wpAnyH_ready (rs := [1, 14]) (by kernel_rfl) (by simp) ?_
        refine AllReadyH.cons (o := { dst := some 34, op := Op.load 29 (Operand.tmp 33), type := 29, pos := "windlassref3.go:127", after := #[{ on := 0, ground := Ground.data }], guard := none }) rfl (fun K hK => ?_) ?_
        · go_simp
          refine hK.out _ _ (KEEP.out _ hk9) (fun hHeldN => ?_)
          clear hK K
          try simp only [Act.put, List.setIfInBounds_toArray, List.set_cons_zero, List.set_cons_succ]
          refine wpAnyH_ready (rs := [14]) (by kernel_rfl) (by simp) ?_
          refine AllReadyH.cons (o := { dst := some 47, op := Op.buildSlice 29 1 #[(0, Operand.tmp 46)], type := 29, pos := "windlassref3.go:127", after := #[{ on := 13, ground := Ground.data }], guard := none }) rfl (fun K hK => ?_) AllReadyH.nil
          go_simp
          refine hK.out _ _ (KEEP.out _ (hk9' _)) (fun hHeldN => ?_)
          clear hK K
          try simp only [Act.put, List.setIfInBounds_toArray, List.set_cons_zero, List.set_cons_succ]
          refine wpAnyH_ready (rs := [15]) (by kernel_rfl) (by simp) ?_
          refine AllReadyH.cons (o := { dst := some 48, op := Op.call { callee := Callee.builtin Builtin.append, args := #[Operand.tmp 34, Operand.tmp 47], argTypes := #[29, 29] }, type := 29, pos := "windlassref3.go:127", after := #[{ on := 1, ground := Ground.data }, { on := 14, ground := Ground.data }, { on := 13, ground := Ground.chain }], guard := none }) rfl (fun K hK => ?_) AllReadyH.nil
          refine step_appV rfl (.tmp 34) (.tmp 47) rfl (.slice za zn zc) w9.heap.size ⟨xk, xi, xt, xr, xa, xn, xc⟩ rfl rfl (V + 1) zs (Hl.out.row.below (Nat.le_refl _) (hB9a _)) (heap_alloc_new w9 (.cells #[.int .i64 xk, .int .i64 xi, .string xt, .int .i64 xr, .slice xa xn xc] 31)) (Nat.le_trans Hl.out.sz (hB9a _).size) Hln.out ?_
          intro v10 w10 hr10 hg10
          obtain ⟨hk10, hv10, hos10, htp10, hout10, hsz10⟩ := Hl.out.app (hB9a _) hr10 hg10
          have z10 := cellOf hv10 4
          have f10 := freeOf hv10 4
          simp only [List.getElem?_toArray, List.getElem?_cons_zero, List.getElem?_cons_succ] at z10
          obtain ⟨fa2, fc2, e10, hc2⟩ := hr10.form
          rw [Hcat.out] at e10 hr10
          obtain ⟨nn, hnn⟩ : ∃ nn, nn = zs2.length := ⟨_, rfl⟩
          rw [← hnn] at e10
          subst e10
          have hk11 : ∀ (u : Value) (j : Nat), j < V → (w10.setCell ⟨V, 4, none⟩ u).heap[j]? = wr.heap[j]? := fun u j hj => (setCell_low hj).trans (hk10 j hj)
          have HR10 := hid hr10
          have HV10 := hid hv10
          clear hc2 hnn hg10 hr10 hv10 z9 z9' hk9 hk9' hB9a hB9' hB9
          refine hK.out _ _ (KEEP.out _ hk10) (fun hHeldN => ?_)
          clear hK K
          try simp only [Act.put, List.setIfInBounds_toArray, List.set_cons_zero, List.set_cons_succ]
          refine wpAnyH_take (i := 16) (oi := { dst := some 49, op := Op.fieldAddr 31 (Operand.tmp 5) 4, type := 0, pos := "windlassref3.go:127", after := #[{ on := 0, ground := Ground.phase }, { on := 1, ground := Ground.phase }, { on := 2, ground := Ground.phase }, { on := 3, ground := Ground.phase }, { on := 4, ground := Ground.phase }, { on := 5, ground := Ground.phase }, { on := 6, ground := Ground.phase }, { on := 7, ground := Ground.phase }, { on := 8, ground := Ground.phase }, { on := 9, ground := Ground.phase }, { on := 10, ground := Ground.phase }, { on := 11, ground := Ground.phase }, { on := 12, ground := Ground.phase }, { on := 13, ground := Ground.phase }, { on := 14, ground := Ground.phase }, { on := 15, ground := Ground.phase }], guard := none }) (v := .pointer (some ⟨V, 4, none⟩)) rfl (by kernel_rfl) (by kernel_rfl) (by kernel_rfl) (fun _ _ _ h => h) (Or.inl ⟨by rfl, ?_⟩) (by assumption) ?_
          · intro w hSw; (try dsimp only at hSw); go_simp
          try simp only [Act.put, List.setIfInBounds_toArray, List.set_cons_zero, List.set_cons_succ]
          refine wpAnyH_ready (rs := [17]) (by kernel_rfl) (by simp) ?_
          refine AllReadyH.cons (o := { dst := none, op := Op.store 29 (Operand.tmp 49) (Operand.tmp 48), type := 0, pos := "windlassref3.go:127", after := #[{ on := 16, ground := Ground.data }, { on := 15, ground := Ground.data }, { on := 15, ground := Ground.chain }, { on := 0, ground := Ground.phase }, { on := 1, ground := Ground.phase }, { on := 2, ground := Ground.phase }, { on := 3, ground := Ground.phase }, { on := 4, ground := Ground.phase }, { on := 5, ground := Ground.phase }, { on := 6, ground := Ground.phase }, { on := 7, ground := Ground.phase }, { on := 8, ground := Ground.phase }, { on := 9, ground := Ground.phase }, { on := 10, ground := Ground.phase }, { on := 11, ground := Ground.phase }, { on := 12, ground := Ground.phase }, { on := 13, ground := Ground.phase }, { on := 14, ground := Ground.phase }, { on := 15, ground := Ground.phase }], guard := none }) rfl (fun K hK => ?_) AllReadyH.nil
          go_simp
          refine hK.out _ _ (KEEP.out _ (hk11 _)) (fun hHeldN => ?_)
          clear hK K
          try simp only [Act.put, List.setIfInBounds_toArray, List.set_cons_zero, List.set_cons_succ]
          refine wpAnyH_done (by kernel_rfl) ?_ _
          go_wp2
          go_roundg gi
          case measure => omega
          case rel => exact ⟨i + 1, by have := Hi.out; omega, by go_num, ZKEEP.out _ (hk11 _) hos10 htp10 hout10 (by simpa [World.setCell] using hsz10), fa2, nn, fc2, by rw [← Hzs2.out]; exact ZL.put HV10.out HR10.out⟩
        refine AllReadyH.cons (o := { dst := some 47, op := Op.buildSlice 29 1 #[(0, Operand.tmp 46)], type := 29, pos := "windlassref3.go:127", after := #[{ on := 13, ground := Ground.data }], guard := none }) rfl (fun K hK => ?_) AllReadyH.nil
        go_simp
        refine hK.out _ _ (KEEP.out _ (hk9' _)) (fun hHeldN => ?_)
        clear hK K
        try simp only [Act.put, List.setIfInBounds_toArray, List.set_cons_zero, List.set_cons_succ]
        refine wpAnyH_ready (rs := [1]) (by kernel_rfl) (by simp) ?_
        refine AllReadyH.cons (o := { dst := some 34, op := Op.load 29 (Operand.tmp 33), type := 29, pos := "windlassref3.go:127", after := #[{ on := 0, ground := Ground.data }], guard := none }) rfl (fun K hK => ?_) AllReadyH.nil
        go_simp
        refine hK.out _ _ (KEEP.out _ (hk9' _)) (fun hHeldN => ?_)
        clear hK K
        try simp only [Act.put, List.setIfInBounds_toArray, List.set_cons_zero, List.set_cons_succ]
        refine wpAnyH_ready (rs := [15]) (by kernel_rfl) (by simp) ?_
        refine AllReadyH.cons (o := { dst := some 48, op := Op.call { callee := Callee.builtin Builtin.append, args := #[Operand.tmp 34, Operand.tmp 47], argTypes := #[29, 29] }, type := 29, pos := "windlassref3.go:127", after := #[{ on := 1, ground := Ground.data }, { on := 14, ground := Ground.data }, { on := 13, ground := Ground.chain }], guard := none }) rfl (fun K hK => ?_) AllReadyH.nil
        refine step_appV rfl (.tmp 34) (.tmp 47) rfl (.slice za zn zc) w9.heap.size ⟨xk, xi, xt, xr, xa, xn, xc⟩ rfl rfl (V + 1) zs (Hl.out.row.below (Nat.le_refl _) (hB9a _)) (heap_alloc_new w9 (.cells #[.int .i64 xk, .int .i64 xi, .string xt, .int .i64 xr, .slice xa xn xc] 31)) (Nat.le_trans Hl.out.sz (hB9a _).size) Hln.out ?_
        intro v10 w10 hr10 hg10
        obtain ⟨hk10, hv10, hos10, htp10, hout10, hsz10⟩ := Hl.out.app (hB9a _) hr10 hg10
        have z10 := cellOf hv10 4
        have f10 := freeOf hv10 4
        simp only [List.getElem?_toArray, List.getElem?_cons_zero, List.getElem?_cons_succ] at z10
        obtain ⟨fa2, fc2, e10, hc2⟩ := hr10.form
        rw [Hcat.out] at e10 hr10
        obtain ⟨nn, hnn⟩ : ∃ nn, nn = zs2.length := ⟨_, rfl⟩
        rw [← hnn] at e10
        subst e10
        have hk11 : ∀ (u : Value) (j : Nat), j < V → (w10.setCell ⟨V, 4, none⟩ u).heap[j]? = wr.heap[j]? := fun u j hj => (setCell_low hj).trans (hk10 j hj)
        have HR10 := hid hr10
        have HV10 := hid hv10
        clear hc2 hnn hg10 hr10 hv10 z9 z9' hk9 hk9' hB9a hB9' hB9
        refine hK.out _ _ (KEEP.out _ hk10) (fun hHeldN => ?_)
        clear hK K
        try simp only [Act.put, List.setIfInBounds_toArray, List.set_cons_zero, List.set_cons_succ]
        refine wpAnyH_take (i := 16) (oi := { dst := some 49, op := Op.fieldAddr 31 (Operand.tmp 5) 4, type := 0, pos := "windlassref3.go:127", after := #[{ on := 0, ground := Ground.phase }, { on := 1, ground := Ground.phase }, { on := 2, ground := Ground.phase }, { on := 3, ground := Ground.phase }, { on := 4, ground := Ground.phase }, { on := 5, ground := Ground.phase }, { on := 6, ground := Ground.phase }, { on := 7, ground := Ground.phase }, { on := 8, ground := Ground.phase }, { on := 9, ground := Ground.phase }, { on := 10, ground := Ground.phase }, { on := 11, ground := Ground.phase }, { on := 12, ground := Ground.phase }, { on := 13, ground := Ground.phase }, { on := 14, ground := Ground.phase }, { on := 15, ground := Ground.phase }], guard := none }) (v := .pointer (some ⟨V, 4, none⟩)) rfl (by kernel_rfl) (by kernel_rfl) (by kernel_rfl) (fun _ _ _ h => h) (Or.inl ⟨by rfl, ?_⟩) (by assumption) ?_
        · intro w hSw; (try dsimp only at hSw); go_simp
        try simp only [Act.put, List.setIfInBounds_toArray, List.set_cons_zero, List.set_cons_succ]
        refine wpAnyH_ready (rs := [17]) (by kernel_rfl) (by simp) ?_
        refine AllReadyH.cons (o := { dst := none, op := Op.store 29 (Operand.tmp 49) (Operand.tmp 48), type := 0, pos := "windlassref3.go:127", after := #[{ on := 16, ground := Ground.data }, { on := 15, ground := Ground.data }, { on := 15, ground := Ground.chain }, { on := 0, ground := Ground.phase }, { on := 1, ground := Ground.phase }, { on := 2, ground := Ground.phase }, { on := 3, ground := Ground.phase }, { on := 4, ground := Ground.phase }, { on := 5, ground := Ground.phase }, { on := 6, ground := Ground.phase }, { on := 7, ground := Ground.phase }, { on := 8, ground := Ground.phase }, { on := 9, ground := Ground.phase }, { on := 10, ground := Ground.phase }, { on := 11, ground := Ground.phase }, { on := 12, ground := Ground.phase }, { on := 13, ground := Ground.phase }, { on := 14, ground := Ground.phase }, { on := 15, ground := Ground.phase }], guard := none }) rfl (fun K hK => ?_) AllReadyH.nil
        go_simp
        refine hK.out _ _ (KEEP.out _ (hk11 _)) (fun hHeldN => ?_)
        clear hK K
        try simp only [Act.put, List.setIfInBounds_toArray, List.set_cons_zero, List.set_cons_succ]
        refine wpAnyH_done (by kernel_rfl) ?_ _
        go_wp2
        go_roundg gi
        case measure => omega
        case rel => exact ⟨i + 1, by have := Hi.out; omega, by go_num, ZKEEP.out _ (hk11 _) hos10 htp10 hout10 (by simpa [World.setCell] using hsz10), fa2, nn, fc2, by rw [← Hzs2.out]; exact ZL.put HV10.out HR10.out⟩
  · have e := refZero_simple w g k r d.r.n2 (by rw [e0]; exact hk)
    refine e.mono ?_
    rintro e w' ⟨rfl, hb⟩
    exact ⟨zH (k, r), [], rfl, hb, by unfold ZeroIs; rw [if_neg hk]; exact ⟨rfl, rfl⟩, fun j h e => by simp at e, zH_n _⟩
end Go.Proofs.YtnmbifoinponeaaGreatDoor
