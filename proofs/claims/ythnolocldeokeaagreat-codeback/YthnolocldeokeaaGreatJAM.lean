/- functions: what is handed on. -/
import Derived.Test.YthnolocldeokeaaGreatJAL
import Derived.BigGuardIn
namespace Go.Proofs.YthnolocldeokeaaGreat
open Go.RowKit Go.Deep Go.Shelf
set_option linter.unusedVariables false
set_option linter.unusedSimpArgs false
attribute [local go_sem] Oper.semAt_some
def fsg (h : GH) : Value := .agg #[.string h.name, .slice h.pa h.pn h.pc, .int .i64 h.k, .int .i64 h.r]
abbrev ZL := List ((GH × Sg) × (FH × Fx))
def encZ (Z : ZL) (i : Fin Z.length) : Array Value := #[fsg (Z[i.val]).1.1, (Z[i.val]).2.1.v]
def allZ (Z : ZL) : List (Fin Z.length) := List.finRange Z.length
theorem allZ_at (Z : ZL) (k : Nat) (hk : k < Z.length) : (allZ Z)[k]? = some ⟨k, hk⟩ := by
  unfold allZ
  rw [List.getElem?_eq_getElem (by simpa using hk)]
  simp
theorem allZ_len (Z : ZL) : (allZ Z).length = Z.length := by simp [allZ]
theorem allZ_mem (Z : ZL) (i : Fin Z.length) : i ∈ allZ Z := by simp [allZ]
theorem allZ_take (Z : ZL) (k : Nat) (hk : k < Z.length) : (allZ Z).take (k + 1) = (allZ Z).take k ++ [⟨k, hk⟩] := by
  rw [List.take_add_one, allZ_at Z k hk]; rfl
theorem yield_F {α : Type} {F : Fence} {n l : Nat} {J Jx : List α → World → Prop} {ev : Array Value} {Kp : World → World → Prop} {W : World} {pre : List α} {x : α}
    (h : YieldAt F n Tryz.prog l ev W fun e W' => (e = .returned (.bool true) ∧ J (pre ++ [x]) W' ∧ Kp W W') ∨ (e = .returned (.bool false) ∧ Jx (pre ++ [x]) W')) :
    YieldAt F n Tryz.prog l ev W fun e W' => ∃ b : Bool, e = .returned (.bool b) ∧ ((b = true → J (pre ++ [x]) W' ∧ Kp W W') ∧ (b = false → Jx (pre ++ [x]) W')) := by
  obtain ⟨fn', tmps, assign, body, hy, hRd⟩ := h
  refine ⟨fn', tmps, assign, body, hy, hRd.mono ?_⟩
  rintro e W' (⟨rfl, h1, h2⟩ | ⟨rfl, h1⟩)
  · exact ⟨true, rfl, ⟨fun _ => ⟨h1, h2⟩, fun h => (by cases h)⟩⟩
  · exact ⟨false, rfl, ⟨fun h => (by cases h), fun _ => h1⟩⟩
/- A row's element as it lies in a later world. -/
theorem CRd.lies {w W : World} {a : Option Addr} {k : Nat} {rows : List (List Value)} (h : CRd w a k rows) (hb : Below w.heap.size w W) {j : Nat} {r : List Value} (e : rows[j]? = some r) : ∃ b off, a = some ⟨b, off, none⟩ ∧ ∀ i, i < k → W.cell? ⟨b, off + j * k + i, none⟩ = r[i]? := by
  obtain ⟨b, off, e1, hl, hc⟩ := h j r e
  exact ⟨b, off, e1, fun i hi => (hb.cell (p := ⟨b, off + j * k + i, none⟩) hl).trans (hc i hi)⟩
set_option maxRecDepth 100000 in
theorem functions_in (F : Fence) (n : Nat) (hf : F.fn 30) (hro : F.round = none) (C : CH) (w : World) : CallsIn F n Tryz.prog 30 #[C.v] w fun e w' => e = .returned (.func (.func 65) #[] #[.pointer (some ⟨w.heap.size, 0, none⟩)]) ∧ w' = w.alloc (.cells C.cs 31) := by
  obtain ⟨⟨ra, rn, rc, ma, mn, mc, fa, fn, fc, ea, en, ec⟩, ia, inn, ic, ta, tn, tc, ga, gn, gc, ha, hn, hc⟩ := C
  simp only [CH.v, CH.cs]
  refine callsIn_of_wp Tryz.func30 rfl hf ?_ hro
  simp only [Tryz.ntmps30, List.size_toArray, List.length_cons, List.length_nil, Nat.reduceAdd, Nat.reduceSub, Array.replicate_succ, Array.replicate_zero, List.push_toArray, List.append_toArray, List.nil_append, List.cons_append]
  gi_wp2
  refine bodyPost_ret (v := .func (.func 65) #[] #[.pointer (some ⟨w.heap.size, 0, none⟩)]) (by simp [results, Tryz.results30, go_sem]) rfl ⟨rfl, rfl⟩
set_option maxRecDepth 100000 in
set_option maxHeartbeats 4000000 in
theorem functions_stops (w0 V : World) (C : CH) (c : Cx) (fs es : List (FH × Fx)) (d : CdRd w0 C c fs es) (hb : Below w0.heap.size w0 V) (Bx : Nat) (hx : V.heap[Bx]? = some (.cells C.cs 31 (0, 0))) (n : Nat) (hn : 1 ≤ n) (hf : fs.length = c.p.funcs.length) (he : es.length = c.p.events.length) (Z : ZL) (hZ : Z = c.p.funcs.zip fs ++ c.p.events.zip es) :
    SeqStopsK Fence.wide n Tryz.prog 65 #[.pointer (some ⟨Bx, 0, none⟩)] (encZ Z) (KB w0.heap.size Bx) (fun xs => xs = allZ Z) (fun pre => ∃ k, pre = (allZ Z).take k) Z.length V := by
  intro l J Jx W hbW hJa hJxa hY h0
  have hro : Fence.wide.round = none := rfl
  have bW : Below w0.heap.size w0 W := hb.trans (hbW.mono hb.size)
  have bx : W.heap[Bx]? = some (.cells C.cs 31 (0, 0)) := (hbW.block Bx (lt_of_heap hx)).trans hx
  have hlx : Bx < W.heap.size := lt_of_heap bx
  have hszW : w0.heap.size ≤ W.heap.size := bW.size
  have z1 : (c.p.funcs.zip fs).length = fs.length := by rw [List.length_zip]; omega
  have hZl : Z.length = fs.length + es.length := by rw [hZ, List.length_append, List.length_zip, List.length_zip]; omega
  have hZ1 : ∀ (k : Nat) (h : k < Z.length) (hk : k < fs.length), ∃ g f, c.p.funcs[k]? = some g ∧ fs[k]? = some f ∧ Z[k] = (g, f) := fun k h hk => by
    refine ⟨c.p.funcs[k], fs[k], List.getElem?_eq_getElem _, List.getElem?_eq_getElem _, ?_⟩
    subst hZ
    rw [List.getElem_append_left (by omega), List.getElem_zip]
  have hZ2 : ∀ (k : Nat) (h : fs.length + k < Z.length) (hk : k < es.length), ∃ g f, c.p.events[k]? = some g ∧ es[k]? = some f ∧ Z[fs.length + k] = (g, f) := fun k h hk => by
    refine ⟨c.p.events[k], es[k], List.getElem?_eq_getElem _, List.getElem?_eq_getElem _, ?_⟩
    subst hZ
    rw [List.getElem_append_right (by omega), List.getElem_zip]
    simp only [z1, Nat.add_sub_cancel_left]
  have d1 := d.f
  have d2 := d.e
  have d3 := d.p.f
  have d4 := d.p.e
  have c6n : C.fn = fs.length := d1.n1
  have c7n : C.en = es.length := d2.n1
  have c2n : C.h.fn = fs.length := d3.n1.trans hf.symm
  have c3n : C.h.en = es.length := d4.n1.trans he.symm
  have b6 : C.fn ≤ 9223372036854775807 := d1.n2
  have b7 : C.en ≤ 9223372036854775807 := d2.n2
  obtain ⟨⟨ra, rn, rc, ma, mn, mc, fa, fn, fc, ea, en, ec⟩, ia, inn, ic, ta, tn, tc, ga, gn, gc, ha, hn', hc'⟩ := C
  simp only at d1 d2 d3 d4 c6n c7n c2n c3n b6 b7
  have CB : Hid (∀ X : World, KB w0.heap.size Bx W X → X.cell? ⟨Bx, 2, none⟩ = some (.slice fa fn fc) ∧ X.cell? ⟨Bx, 3, none⟩ = some (.slice ea en ec) ∧ X.cell? ⟨Bx, 6, none⟩ = some (.slice ga gn gc) ∧ X.cell? ⟨Bx, 7, none⟩ = some (.slice ha hn' hc')) := hid (fun X hX => by
    have e1 := hX.2.trans bx
    exact ⟨cellOf e1 2, cellOf e1 3, cellOf e1 6, cellOf e1 7⟩)
  have HY := hid hY
  have HJA := hid hJa
  have HZ1 := hid hZ1
  have HZ2 : Hid (∀ (k : Nat) (h : gn + k < Z.length) (hk : k < es.length), ∃ g f, c.p.events[k]? = some g ∧ es[k]? = some f ∧ Z[gn + k] = (g, f)) := hid (by rw [c6n]; exact hZ2)
  have HZl := hid hZl
  have D1 := hid d1
  have D2 := hid d2
  have D3 := hid d3
  have D4 := hid d4
  have H6 : Hid (gn = fs.length) := hid c6n
  have H7 : Hid (hn' = es.length) := hid c7n
  have H2 : Hid (fn = fs.length) := hid c2n
  have H3 : Hid (en = es.length) := hid c3n
  have BW := hid bW
  have HSZ := hid hszW
  have HLX := hid hlx
  clear hY hJa hJxa hZ1 hZ2 hZl d1 d2 d3 d4 d c6n c7n c2n c3n bW hb hbW hx bx hszW hlx hf he z1
  refine callsIn_of_wp Tryz.func65 rfl trivial ?_ hro
  simp only [Tryz.ntmps65, List.size_toArray, List.length_cons, List.length_nil, Nat.reduceAdd, Nat.reduceSub, Array.replicate_succ, Array.replicate_zero, List.push_toArray, List.append_toArray, List.nil_append, List.cons_append]
  obtain ⟨_, _, x6, x7⟩ := CB.out W ⟨Below.refl _ _, rfl⟩
  gi_wp2
  gi_loopw [10] (fun i wr => ∃ k : Nat, k ≤ gn ∧ i = .int .i64 k ∧ J ((allZ Z).take (k)) wr ∧ KB w0.heap.size Bx W wr) (fun i _ => gn - (intOf i).toNat)
  case atStart => exact ⟨0, Nat.zero_le _, rfl, h0, Below.refl _ _, rfl⟩
  case round =>
    obtain ⟨k, hk, rfl, hJs, hnx⟩ := hrel
    by_cases hlt : k < gn
    · have hkZ : k < Z.length := by have := HZl.out; have := H6.out; have := H7.out; omega
      obtain ⟨⟨gh, sg⟩, ⟨fh, fx⟩, hg1, hf1, hzk⟩ := HZ1.out k hkZ (by rw [← H6.out]; exact hlt)
      have bX : Below w0.heap.size w0 wr := BW.out.trans (hnx.1.mono (Nat.le_refl _))
      obtain ⟨gb, gO, rfl, hcf⟩ := CRd.lies D1.out.rd bX (j := k) (r := fh.cs) (by simp [hf1])
      obtain ⟨sb, so, rfl, hcs⟩ := CRd.lies D3.out.rd bX (j := k) (r := gh.cs) (by simp [hg1])
      obtain ⟨regs, oa, on, oc⟩ := fh
      obtain ⟨nm, pa, pn, pc, kd, rr⟩ := gh
      have t0 := hcf 0 (by omega)
      have t1 := hcf 1 (by omega)
      have s0 := hcs 0 (by omega)
      have s1 := hcs 1 (by omega)
      have s2 := hcs 2 (by omega)
      have s3 := hcs 3 (by omega)
      simp only [FH.cs, GH.cs, List.getElem?_cons_zero, List.getElem?_cons_succ, Nat.add_zero] at t0 t1 s0 s1 s2 s3
      obtain ⟨A, hA⟩ : ∃ A, A = wr.alloc (.cells #[.int .i64 regs, .slice oa on oc] 57) := ⟨_, rfl⟩
      have bA : Below wr.heap.size wr A := by rw [hA]; exact (Below.refl _ _).alloc (Nat.le_refl _) _
      have kA : KB w0.heap.size Bx W A := by rw [hA]; exact hnx.alloc (by have := hnx.1.size; have := HSZ.out; omega) (by have := hnx.1.size; have := HLX.out; omega) _
      have mf : A.heap[wr.heap.size]? = some (.cells #[.int .i64 regs, .slice oa on oc] 57 (0, 0)) := by rw [hA]; exact heap_alloc_new _ _
      have al : ∀ (p : Addr) (v : Value), wr.cell? p = some v → A.drew.cell? p = some v := fun p v h => ((bA.cell (p := p) (World.block_lt_of_cell? wr p h)).trans h : A.cell? p = some v)
      have r0 := al _ _ s0
      have r1 := al _ _ s1
      have r2 := al _ _ s2
      have r3 := al _ _ s3
      have g0 : A.drew.cell? ⟨wr.heap.size, 0, none⟩ = some (.int .i64 regs) := cellOf (w := A) mf 0
      have g1 : A.drew.cell? ⟨wr.heap.size, 1, none⟩ = some (.slice oa on oc) := cellOf (w := A) mf 1
      have hB : A.drew.cell? ⟨Bx, 2, none⟩ = some (.slice (some ⟨sb, so, none⟩) fn fc) := (CB.out A kA).1
      obtain ⟨fn', tmps, assign, body, hy, hRd⟩ := yield_F (HY.out _ ⟨k, hkZ⟩ A.drew (HJA.out _ _ _ none hJs (by rw [hA]; exact ⟨rfl, rfl, rfl, by show wr.heap.size ≤ (wr.alloc _).heap.size; rw [World.size_alloc]; omega, fun j hj _ => Below.heap_alloc _ _ _ hj⟩) (fun r e => by cases e)) (by rw [List.length_take, allZ_len]; omega))
      simp only [encZ, hzk, fsg, FH.v] at hy
      have HRd := hid hRd
      have Htk := hid (allZ_take Z (k) hkZ)
      have HkA : Hid (KB w0.heap.size Bx W A.drew) := hid ⟨kA.1.drew, kA.2⟩
      have hks : k < fn := by have := H2.out; have := H3.out; have := H6.out; have := H7.out; omega
      have hkI : (k : Int) < (gn : Int) := by omega
      have hk0 : (0 : Int) ≤ (k : Int) := by omega
      have hsb : fn ≤ 9223372036854775807 := by have := H2.out; have := H3.out; have := H6.out; have := H7.out; omega
      clear hRd hJs hnx hcf hcs bX hg1 hf1 hzk s0 s1 s2 s3 bA kA mf al
      gi_wp2
      rw [← hA]
      clear hA
      refine wpIn_region_any (by kernel_rfl) ?_
      change wpAnyIn _ _ _ _ pop3 _ _ _ _ (World.drew _)
      refine pop3_reads Fence.wide n hro A.drew l Bx wr.heap.size k sb so fn fc nm pa pn pc kd rr regs oa on oc _ _ _ _ _ _ _ _ _ _ _ _ _ _ _ _ _ _ _ _ _ _ _ _ _ _ _ _ _ _ _ _ hB hks hsb r0 r1 r2 r3 g0 g1 ?hend 10 false false false false false false false false _ _ _ _ _ _ _ _ _ _ (fun h => (by cases h)) (fun h => (by cases h)) (fun h => (by cases h)) (fun h => (by cases h)) (fun h => (by cases h)) (fun h => (by cases h)) (fun h => (by cases h)) (fun h => (by cases h)) (fun h => (by cases h)) (fun h => (by cases h)) (fun h => (by cases h)) (fun h => (by cases h)) rfl
      case hend =>
        intro v22 v23
        clear r0 r1 r2 r3 g0 g1 hB t0 t1
        refine wpAnyIn_ready (rs := [8]) (by kernel_rfl) (by simp) (AllReadyIn.cons rfl (fun K hK => ?_) AllReadyIn.nil)
        go_simp
        refine (Hid.out HRd).mono ?_
        rintro e W3 ⟨bb, rfl, hor⟩
        refine hK _ _ ?_
        clear hK K
        refine wpAnyIn_ready (rs := [9]) (by kernel_rfl) (by simp) (AllReadyIn.cons rfl (fun K hK => ?_) AllReadyIn.nil)
        go_simp
        refine hK _ _ ?_
        clear hK K
        refine wpAnyIn_done (by kernel_rfl) ?_ 0
        cases bb with
        | true =>
          have hor' := hor.1 rfl
          clear hor hy HRd
          gi_wp2
          go_roundw
          case rel => exact ⟨k + 1, by omega, by go_num, by rw [Htk.out]; exact hor'.1, KB_t HkA.out hor'.2⟩
          case measure => simp [intOf]; omega
        | false =>
          have hor' := hor.2 rfl
          clear hor hy HRd
          gi_wp2
          refine bodyPost_ret (results_none rfl _ _ _) rfl ?_
          exact ⟨⟨_, rfl⟩, .inr ⟨_, ⟨k + 1, Htk.out.symm⟩, hor'⟩⟩
    · obtain rfl : gn = k := by omega
      have hJ1 := hJs
      have hK1 := hnx
      obtain ⟨_, _, _, x7⟩ := CB.out wr hnx
      clear hJs hnx
      gi_wp2
      gi_loopw [29] (fun i wr => ∃ k : Nat, k ≤ hn' ∧ i = .int .i64 k ∧ J ((allZ Z).take (gn + k)) wr ∧ KB w0.heap.size Bx W wr) (fun i _ => hn' - (intOf i).toNat)
      case atStart => exact ⟨0, Nat.zero_le _, rfl, hJ1, hK1⟩
      case round =>
        obtain ⟨k, hk, rfl, hJs, hnx⟩ := hrel
        by_cases hlt : k < hn'
        · have hkZ : gn + k < Z.length := by have := HZl.out; have := H6.out; have := H7.out; omega
          obtain ⟨⟨gh, sg⟩, ⟨fh, fx⟩, hg1, hf1, hzk⟩ := HZ2.out k hkZ (by rw [← H7.out]; exact hlt)
          have bX : Below w0.heap.size w0 wr := BW.out.trans (hnx.1.mono (Nat.le_refl _))
          obtain ⟨gb, gO, rfl, hcf⟩ := CRd.lies D2.out.rd bX (j := k) (r := fh.cs) (by simp [hf1])
          obtain ⟨sb, so, rfl, hcs⟩ := CRd.lies D4.out.rd bX (j := k) (r := gh.cs) (by simp [hg1])
          obtain ⟨regs, oa, on, oc⟩ := fh
          obtain ⟨nm, pa, pn, pc, kd, rr⟩ := gh
          have t0 := hcf 0 (by omega)
          have t1 := hcf 1 (by omega)
          have s0 := hcs 0 (by omega)
          have s1 := hcs 1 (by omega)
          have s2 := hcs 2 (by omega)
          have s3 := hcs 3 (by omega)
          simp only [FH.cs, GH.cs, List.getElem?_cons_zero, List.getElem?_cons_succ, Nat.add_zero] at t0 t1 s0 s1 s2 s3
          obtain ⟨A, hA⟩ : ∃ A, A = wr.alloc (.cells #[.int .i64 regs, .slice oa on oc] 57) := ⟨_, rfl⟩
          have bA : Below wr.heap.size wr A := by rw [hA]; exact (Below.refl _ _).alloc (Nat.le_refl _) _
          have kA : KB w0.heap.size Bx W A := by rw [hA]; exact hnx.alloc (by have := hnx.1.size; have := HSZ.out; omega) (by have := hnx.1.size; have := HLX.out; omega) _
          have mf : A.heap[wr.heap.size]? = some (.cells #[.int .i64 regs, .slice oa on oc] 57 (0, 0)) := by rw [hA]; exact heap_alloc_new _ _
          have al : ∀ (p : Addr) (v : Value), wr.cell? p = some v → A.drew.cell? p = some v := fun p v h => ((bA.cell (p := p) (World.block_lt_of_cell? wr p h)).trans h : A.cell? p = some v)
          have r0 := al _ _ s0
          have r1 := al _ _ s1
          have r2 := al _ _ s2
          have r3 := al _ _ s3
          have g0 : A.drew.cell? ⟨wr.heap.size, 0, none⟩ = some (.int .i64 regs) := cellOf (w := A) mf 0
          have g1 : A.drew.cell? ⟨wr.heap.size, 1, none⟩ = some (.slice oa on oc) := cellOf (w := A) mf 1
          have hB : A.drew.cell? ⟨Bx, 3, none⟩ = some (.slice (some ⟨sb, so, none⟩) en ec) := (CB.out A kA).2.1
          obtain ⟨fn', tmps, assign, body, hy, hRd⟩ := yield_F (HY.out _ ⟨gn + k, hkZ⟩ A.drew (HJA.out _ _ _ none hJs (by rw [hA]; exact ⟨rfl, rfl, rfl, by show wr.heap.size ≤ (wr.alloc _).heap.size; rw [World.size_alloc]; omega, fun j hj _ => Below.heap_alloc _ _ _ hj⟩) (fun r e => by cases e)) (by rw [List.length_take, allZ_len]; omega))
          simp only [encZ, hzk, fsg, FH.v] at hy
          have HRd := hid hRd
          have Htk := hid (allZ_take Z (gn + k) hkZ)
          have HkA : Hid (KB w0.heap.size Bx W A.drew) := hid ⟨kA.1.drew, kA.2⟩
          have hks : k < en := by have := H2.out; have := H3.out; have := H6.out; have := H7.out; omega
          have hkI : (k : Int) < (hn' : Int) := by omega
          have hk0 : (0 : Int) ≤ (k : Int) := by omega
          have hsb : en ≤ 9223372036854775807 := by have := H2.out; have := H3.out; have := H6.out; have := H7.out; omega
          clear hRd hJs hnx hcf hcs bX hg1 hf1 hzk s0 s1 s2 s3 bA kA mf al
          gi_wp2
          rw [← hA]
          clear hA
          refine wpIn_region_any (by kernel_rfl) ?_
          change wpAnyIn _ _ _ _ pop8 _ _ _ _ (World.drew _)
          refine pop8_reads Fence.wide n hro A.drew l Bx wr.heap.size k sb so en ec nm pa pn pc kd rr regs oa on oc _ _ _ _ _ _ _ _ _ _ _ _ _ _ _ _ _ _ _ _ _ _ _ _ _ _ _ _ _ _ _ _ hB hks hsb r0 r1 r2 r3 g0 g1 ?hend 10 false false false false false false false false _ _ _ _ _ _ _ _ _ _ (fun h => (by cases h)) (fun h => (by cases h)) (fun h => (by cases h)) (fun h => (by cases h)) (fun h => (by cases h)) (fun h => (by cases h)) (fun h => (by cases h)) (fun h => (by cases h)) (fun h => (by cases h)) (fun h => (by cases h)) (fun h => (by cases h)) (fun h => (by cases h)) rfl
          case hend =>
            intro v22 v23
            clear r0 r1 r2 r3 g0 g1 hB t0 t1
            refine wpAnyIn_ready (rs := [8]) (by kernel_rfl) (by simp) (AllReadyIn.cons rfl (fun K hK => ?_) AllReadyIn.nil)
            go_simp
            refine (Hid.out HRd).mono ?_
            rintro e W3 ⟨bb, rfl, hor⟩
            refine hK _ _ ?_
            clear hK K
            refine wpAnyIn_ready (rs := [9]) (by kernel_rfl) (by simp) (AllReadyIn.cons rfl (fun K hK => ?_) AllReadyIn.nil)
            go_simp
            refine hK _ _ ?_
            clear hK K
            refine wpAnyIn_done (by kernel_rfl) ?_ 0
            cases bb with
            | true =>
              have hor' := hor.1 rfl
              clear hor hy HRd
              gi_wp2
              go_roundw
              case rel => exact ⟨k + 1, by omega, by go_num, by rw [← Nat.add_assoc]; rw [Htk.out]; exact hor'.1, KB_t HkA.out hor'.2⟩
              case measure => simp [intOf]; omega
            | false =>
              have hor' := hor.2 rfl
              clear hor hy HRd
              gi_wp2
              refine bodyPost_ret (results_none rfl _ _ _) rfl ?_
              exact ⟨⟨_, rfl⟩, .inr ⟨_, ⟨gn + k + 1, Htk.out.symm⟩, hor'⟩⟩
        · obtain rfl : hn' = k := by omega
          have hfin := hid (show J (allZ Z) wr by have := HZl.out; have e6 := H6.out; have e7 := H7.out; rw [List.take_of_length_le (by rw [allZ_len]; omega)] at hJs; exact hJs)
          clear hJs hnx
          gi_wp2
          go_end0
          exact ⟨⟨_, rfl⟩, .inl ⟨_, rfl, hfin.out⟩⟩
end Go.Proofs.YthnolocldeokeaaGreat

namespace Go.Proofs.YthnolocldeokeaaGreat
open Go.RowKit Go.Deep Go.Shelf
set_option linter.unusedVariables false
set_option linter.unusedSimpArgs false
def lngB (s : ByteArray) : Bool := decide (64 < s.size)
set_option maxRecDepth 100000 in
theorem isLong_any (w : World) (s : ByteArray) (hs : s.size ≤ 9223372036854775807) : Calls Tryz.prog 95 #[.string s] w fun e w' => e = .returned (.bool (lngB s)) ∧ w' = w := by
  have hsI : (s.size : Int) ≤ 9223372036854775807 := by omega
  by_cases h : 64 < s.size
  · have HD : Hid (lngB s = true) := hid (by simp [lngB, h])
    have h' : (64 : Int) < (s.size : Int) := by omega
    go_enter Tryz.func95, Tryz.ntmps95
    go_wp2
    go_ret
    exact ⟨by rw [HD.out]; simp [h], rfl⟩
  · have HD : Hid (lngB s = false) := hid (by simp [lngB, h])
    have h' : ¬ (64 : Int) < (s.size : Int) := by omega
    go_enter Tryz.func95, Tryz.ntmps95
    go_wp2
    go_ret
    exact ⟨by rw [HD.out]; simp, rfl⟩
set_option maxRecDepth 100000 in
set_option maxHeartbeats 1000000 in
theorem indexFunc_any (w : World) (a : Option Addr) (n cap : Nat) (ss : List ByteArray) (hn : n = ss.length) (hn2 : n ≤ 9223372036854775807) (hr : SRd w a ss) :
    Calls Tryz.prog 115 #[.slice a n cap, .func (.func 95) #[] #[]] w fun e w' => ∃ r : Int, e = .returned (.int .i64 r) ∧ w' = w ∧ decide (0 ≤ r) = ss.any lngB := by
  have hnI : (n : Int) ≤ 9223372036854775807 := by omega
  have HN := hid hn
  have HR := hid hr
  clear hn hr
  go_enter Tryz.func115, Tryz.ntmps115
  go_wp2
  go_loopg [8] n (fun g x wr => ∃ j : Nat, j + g = n ∧ x = .int .i64 (j : Int) ∧ (ss.take j).any lngB = false ∧ wr = w)
  case atStart => exact ⟨0, by omega, rfl, by simp, rfl⟩
  case round =>
    obtain ⟨j, hj, rfl, hp, rfl⟩ := hrel
    cases gk with
    | zero =>
      have hjn : j = n := by omega
      subst hjn
      have HP : Hid (ss.any lngB = false) := hid (by rw [HN.out, List.take_of_length_le (Nat.le_refl _)] at hp; exact hp)
      clear hp
      go_wp2
      go_ret
      exact ⟨_, rfl, rfl, by rw [HP.out]; rfl⟩
    | succ g =>
      obtain ⟨s, hs⟩ : ∃ s, ss[j]? = some s := ⟨ss[j]'(by have := HN.out; omega), List.getElem?_eq_getElem _⟩
      obtain ⟨hsz, b, off, rfl, hc⟩ := HR.out j s hs
      have K := hid (isLong_any wr s hsz)
      have hjI : (j : Int) < (n : Int) := by omega
      have hj0 : (0 : Int) ≤ (j : Int) := by omega
      have ht : Hid (ss.take (j + 1) = ss.take j ++ [s]) := hid (by rw [List.take_add_one, hs]; rfl)
      have hm : Hid (lngB s = true → ss.any lngB = true) := hid (fun h => List.any_eq_true.2 ⟨s, List.mem_of_getElem? hs, h⟩)
      have HP := hid hp
      clear hp hs
      cases hl : lngB s with
      | true =>
        rw [hl] at K
        have HM := hid (hm.out hl)
        go_wp2_with (go_at_call 95; (refine (Hid.out K).mono ?_; rintro e wr ⟨rfl, rfl⟩))
        go_ret
        exact ⟨_, rfl, rfl, by rw [HM.out]; simp⟩
      | false =>
        rw [hl] at K
        have HL := hid hl
        go_wp2_with (go_at_call 95; (refine (Hid.out K).mono ?_; rintro e wr ⟨rfl, rfl⟩))
        go_roundg g
        case measure => omega
        exact ⟨j + 1, by omega, by go_num, by rw [ht.out, List.any_append, HP.out]; simp [HL.out], rfl⟩
set_option maxRecDepth 100000 in
theorem containsFunc_any (w : World) (a : Option Addr) (n cap : Nat) (ss : List ByteArray) (hn : n = ss.length) (hn2 : n ≤ 9223372036854775807) (hr : SRd w a ss) :
    Calls Tryz.prog 96 #[.slice a n cap, .func (.func 95) #[] #[]] w fun e w' => e = .returned (.bool (ss.any lngB)) ∧ w' = w := by
  have K := hid (indexFunc_any w a n cap ss hn hn2 hr)
  clear hn hr
  go_enter Tryz.func96, Tryz.ntmps96
  go_wp2_with (go_at_call 115; (refine (Hid.out K).mono ?_; rintro e w ⟨r, rfl, rfl, hr⟩; have HR := hid hr; clear hr))
  go_ret
  exact ⟨by rw [← HR.out]; rfl, rfl⟩
theorem const_any_all (c : Cx) : (c.texts.all fun t => decide (t.size ≤ 64)) = !c.texts.any lngB := by
  rw [List.not_any_eq_all_not]
  congr 1
  funext t
  by_cases h : t.size ≤ 64
  · have : ¬ 64 < t.size := by omega
    simp [lngB, h, this]
  · have : 64 < t.size := by omega
    simp [lngB, h, this]
set_option maxRecDepth 100000 in
set_option maxHeartbeats 1000000 in
theorem areConstants_any (w : World) (C : CH) (c : Cx) (fs es : List (FH × Fx)) (d : CdRd w C c fs es) : Calls Tryz.prog 58 #[C.v] w fun e w' => e = .returned (.bool (constB c)) ∧ Below w.heap.size w w' := by
  obtain ⟨W0, hW0⟩ : ∃ W0, W0 = w.alloc (.cells C.cs 31) := ⟨_, rfl⟩
  have bw : Below w.heap.size w W0 := by rw [hW0]; exact (Below.refl _ _).alloc (Nat.le_refl _) _
  have m0 : W0.heap[w.heap.size]? = some (.cells C.cs 31 (0, 0)) := by rw [hW0]; exact heap_alloc_new w _
  have K := hid (containsFunc_any W0 C.ta C.tn C.tc c.texts d.t1 d.t2 (d.tr.below (Nat.le_refl _) bw))
  have i2 := d.i2
  have t2 := d.t2
  have I1 := hid d.i1
  have T1 := hid d.t1
  have BW := hid bw
  have CA := hid (const_any_all c)
  generalize c.texts.any lngB = lg at K CA
  obtain ⟨⟨ra, rn, rc, ma, mn, mc, fa, fn, fc, ea, en, ec⟩, ia, inn, ic, ta, tn, tc, ga, gn, gc, ha, hn, hc⟩ := C
  simp only [CH.v, CH.cs] at hW0 m0 K i2 t2 I1 T1 ⊢
  have x1 := cellOf m0 4
  have x2 := cellOf m0 5
  simp only [List.getElem?_toArray, List.getElem?_cons_zero, List.getElem?_cons_succ] at x1 x2
  clear d bw m0
  by_cases h1 : inn ≤ 1000
  · have h1' : (inn : Int) ≤ 1000 := by omega
    by_cases h2 : tn ≤ 1000
    · have h2' : (tn : Int) ≤ 1000 := by omega
      have HC : Hid (constB c = !lg) := hid (by unfold constB; rw [← I1.out, ← T1.out, CA.out]; simp [h1, h2])
      go_enter Tryz.func58, Tryz.ntmps58
      go_upto_region 1 with fail
      rw [← hW0]
      clear hW0
      go_wp2_with (go_at_call 96; (refine (Hid.out K).mono ?_; rintro e W0 ⟨rfl, rfl⟩))
      go_ret
      exact ⟨by rw [HC.out]; rfl, BW.out⟩
    · have h2' : ¬ (tn : Int) ≤ 1000 := by omega
      have HC : Hid (constB c = false) := hid (by unfold constB; rw [← T1.out]; simp [h2])
      go_enter Tryz.func58, Tryz.ntmps58
      go_upto_region 1 with fail
      rw [← hW0]
      clear hW0
      go_wp2
      go_ret
      exact ⟨by rw [HC.out]; rfl, BW.out⟩
  · have h1' : ¬ (inn : Int) ≤ 1000 := by omega
    have HC : Hid (constB c = false) := hid (by unfold constB; rw [← I1.out]; simp [h1])
    go_enter Tryz.func58, Tryz.ntmps58
    go_upto_region 1 with fail
    rw [← hW0]
    clear hW0
    go_wp2
    go_ret
    exact ⟨by rw [HC.out]; rfl, BW.out⟩
set_option maxRecDepth 100000 in
set_option maxHeartbeats 4000000 in
theorem isFunction_any (SO : ShapeC) (w : World) (C : CH) (c : Cx) (fs es : List (FH × Fx)) (d : CdRd w C c fs es) (g : GH) (hp2 : g.pn ≤ 9223372036854775807) (F : FH) (f : Fx) (df : FnRd w F f) :
    Calls Tryz.prog 59 #[C.v, fsg g, F.v] w fun e w' => e = .returned (.bool (isFnB c g.pn f)) ∧ Below w.heap.size w w' := by
  obtain ⟨A1, hA1⟩ : ∃ A1, A1 = w.alloc (.cells C.cs 31) := ⟨_, rfl⟩
  obtain ⟨A2, hA2⟩ : ∃ A2, A2 = A1.alloc (.cells g.cs.toArray 49) := ⟨_, rfl⟩
  obtain ⟨W0, hW0⟩ : ∃ W0, W0 = A2.alloc (.cells F.cs.toArray 57) := ⟨_, rfl⟩
  have b1 : Below w.heap.size w A1 := by rw [hA1]; exact (Below.refl _ _).alloc (Nat.le_refl _) _
  have z1 : A1.heap.size = w.heap.size + 1 := by rw [hA1]; simp
  have z2 : A2.heap.size = w.heap.size + 2 := by rw [hA2]; simp; omega
  have z3 : W0.heap.size = w.heap.size + 3 := by rw [hW0]; simp; omega
  have b2 : Below w.heap.size w A2 := by rw [hA2]; exact b1.alloc (by omega) _
  have b3 : Below w.heap.size w W0 := by rw [hW0]; exact b2.alloc (by omega) _
  have m0 : W0.heap[w.heap.size]? = some (.cells C.cs 31 (0, 0)) := by
    rw [hW0, Below.heap_alloc _ _ _ (by omega), hA2, Below.heap_alloc _ _ _ (by omega), hA1]; exact heap_alloc_new w _
  have m1 : W0.heap[w.heap.size + 1]? = some (.cells g.cs.toArray 49 (0, 0)) := by
    rw [hW0, Below.heap_alloc _ _ _ (by omega), hA2, ← z1]; exact heap_alloc_new A1 _
  have m2 : W0.heap[w.heap.size + 2]? = some (.cells F.cs.toArray 57 (0, 0)) := by rw [hW0, ← z2]; exact heap_alloc_new A2 _
  have GT : Hid (∀ V : World, Below W0.heap.size W0 V → V.heap[w.heap.size]? = some (.cells C.cs 31 (0, 0)) ∧ V.heap[w.heap.size + 2]? = some (.cells F.cs.toArray 57 (0, 0)) ∧ Below w.heap.size w V) := hid (fun V hV => ⟨(hV.block _ (by omega)).trans m0, (hV.block _ (by omega)).trans m2, b3.trans (hV.mono b3.size)⟩)
  have KO := hid (fun (V : World) (hV : Below w.heap.size w V) (h0 : 0 ≤ F.regs) (h64 : F.regs ≤ 64) (o : Opx) => isOp_any SO V C c fs es (d.below (Nat.le_refl _) hV) F h0 h64 df.o2 o)
  have HR := hid df.rg
  have HO := hid df.on
  have ORr := hid df.or
  have o2 := df.o2
  have BB := hid b3
  obtain ⟨res, hres⟩ : ∃ res, res = isFnB c g.pn f := ⟨_, rfl⟩
  rw [← hres]
  have HRES : Hid (res = (!(decide (F.regs < (g.pn : Int)) || decide (64 < F.regs) || decide (F.on < 1) || decide (2000 < F.on)) && f.ops.all (isOpB c F.regs F.on))) := hid (by rw [hres, HR.out, HO.out]; rfl)
  clear hres d df b1 b2 b3 m0
  generalize isOpB c F.regs F.on = iob at KO HRES
  obtain ⟨⟨ra, rn, rc, ma, mn, mc, fa, fn, fc, ea, en, ec⟩, ia, inn, ic, ta, tn, tc, ga, gn, gc, ha, hn, hc⟩ := C
  obtain ⟨regs, oa, on, ocp⟩ := F
  obtain ⟨nm, pa, pn, pc, kd, rr⟩ := g
  simp only [CH.v, CH.cs, FH.v, FH.cs, GH.cs, fsg] at hA1 hA2 hW0 GT KO HR HO ORr o2 HRES hp2 m1 m2 ⊢
  have x1 := cellOf m1 1
  have y0 := cellOf m2 0
  have y1 := cellOf m2 1
  simp only [List.getElem?_toArray, List.getElem?_cons_zero, List.getElem?_cons_succ] at x1 y0 y1
  clear m1 m2 z1 z2 z3
  have hpI : (pn : Int) ≤ 9223372036854775807 := by omega
  have hoI : (on : Int) ≤ 9223372036854775807 := by omega
  by_cases h1 : regs < (pn : Int)
  · have HF : Hid (res = false) := hid (by rw [HRES.out]; simp [h1])
    go_enter Tryz.func59, Tryz.ntmps59
    go_upto_region 1 with fail
    rw [← hA1, ← hA2, ← hW0]
    clear hA1 hA2 hW0
    go_wp2
    go_ret
    exact ⟨by rw [HF.out]; rfl, BB.out⟩
  by_cases h2 : 64 < regs
  · have HF : Hid (res = false) := hid (by rw [HRES.out]; simp [h2])
    go_enter Tryz.func59, Tryz.ntmps59
    go_upto_region 1 with fail
    rw [← hA1, ← hA2, ← hW0]
    clear hA1 hA2 hW0
    go_wp2
    go_ret
    exact ⟨by rw [HF.out]; rfl, BB.out⟩
  by_cases h3 : on < 1
  · have HF : Hid (res = false) := hid (by rw [HRES.out]; simp [h3])
    have h3' : (on : Int) < 1 := by omega
    go_enter Tryz.func59, Tryz.ntmps59
    go_upto_region 1 with fail
    rw [← hA1, ← hA2, ← hW0]
    clear hA1 hA2 hW0
    go_wp2
    go_ret
    exact ⟨by rw [HF.out]; rfl, BB.out⟩
  have h3' : ¬ (on : Int) < 1 := by omega
  by_cases h4 : 2000 < on
  · have HF : Hid (res = false) := hid (by rw [HRES.out]; simp [h4])
    have h4' : (2000 : Int) < (on : Int) := by omega
    go_enter Tryz.func59, Tryz.ntmps59
    go_upto_region 1 with fail
    rw [← hA1, ← hA2, ← hW0]
    clear hA1 hA2 hW0
    go_wp2
    go_ret
    exact ⟨by rw [HF.out]; rfl, BB.out⟩
  have h4' : ¬ (2000 : Int) < (on : Int) := by omega
  have HALL : Hid (res = f.ops.all iob) := hid (by rw [HRES.out]; simp [h1, h2, h3, h4])
  have KP := hid (fun (V : World) (hV : Below w.heap.size w V) (o : Opx) => KO.out V hV (by omega) (by omega) o)
  clear HRES KO
  go_enter Tryz.func59, Tryz.ntmps59
  go_upto_region 1 with fail
  rw [← hA1, ← hA2, ← hW0]
  clear hA1 hA2 hW0
  go_wp2
  go_loopg [35] on (fun g x wr => ∃ j : Nat, j + g = on ∧ x = .int .i64 (j : Int) ∧ (f.ops.take j).all iob = true ∧ Below W0.heap.size W0 wr)
  case atStart => exact ⟨0, by omega, rfl, by simp, Below.refl _ _⟩
  case round =>
    obtain ⟨j, hj, rfl, hp, hb⟩ := hrel
    cases gk with
    | zero =>
      have hjn : j = on := by omega
      subst hjn
      have HF : Hid (res = true) := hid (by rw [HALL.out]; rw [HO.out, List.take_of_length_le (Nat.le_refl _)] at hp; exact hp)
      have HB := hid (GT.out wr hb).2.2
      clear hp hb
      go_wp2
      go_ret
      exact ⟨by rw [HF.out]; rfl, HB.out⟩
    | succ g =>
      obtain ⟨o, ho⟩ : ∃ o, f.ops[j]? = some o := ⟨f.ops[j]'(by have := HO.out; omega), List.getElem?_eq_getElem _⟩
      obtain ⟨gg0, gg2, gbb⟩ := GT.out wr hb
      obtain ⟨b, off, rfl, hcl⟩ := (ORr.out.below gbb) j o ho
      have hjI : (j : Int) < (on : Int) := by omega
      have hj0 : (0 : Int) ≤ (j : Int) := by omega
      obtain ⟨A, hA⟩ : ∃ A, A = wr.alloc (.cells o.cs 54) := ⟨_, rfl⟩
      have bA : Below W0.heap.size W0 A := by rw [hA]; exact hb.trans (((Below.refl _ wr).alloc (Nat.le_refl _) _).mono hb.size)
      obtain ⟨a0, a2, ab⟩ := GT.out A bA
      have c0 := cellOf a0 0
      have c1 := cellOf a0 1
      have c2 := cellOf a0 2
      have c3 := cellOf a0 3
      have c4 := cellOf a0 4
      have c5 := cellOf a0 5
      have c6 := cellOf a0 6
      have c7 := cellOf a0 7
      have e0 := cellOf a2 0
      have e1 := cellOf a2 1
      have mo : A.heap[wr.heap.size]? = some (.cells o.cs 54 (0, 0)) := by rw [hA]; exact heap_alloc_new wr _
      have KX := hid (KP.out A ab o)
      have ht : Hid (f.ops.take (j + 1) = f.ops.take j ++ [o]) := hid (by rw [List.take_add_one, ho]; rfl)
      have hno : Hid (iob o = false → res = false) := hid (fun h => by rw [HALL.out, List.all_eq_false]; exact ⟨o, List.mem_of_getElem? ho, by simp [h]⟩)
      have KQ := hid (fun (V : World) (hV : Below A.heap.size A V) => (⟨bA.trans (hV.mono bA.size), ab.trans (hV.mono ab.size)⟩ : Below W0.heap.size W0 V ∧ Below w.heap.size w V))
      have HP := hid hp
      have hvv := hid (rfl : iob o = iob o)
      obtain ⟨v, hv⟩ : ∃ v, iob o = v := ⟨_, rfl⟩
      have HV := hid hv
      rw [hv] at KX hno
      obtain ⟨oc, od, oaa, ob, ok⟩ := o
      have i0 := hcl 0 (by omega)
      have i1 := hcl 1 (by omega)
      have i2 := hcl 2 (by omega)
      have i3 := hcl 3 (by omega)
      have i4 := hcl 4 (by omega)
      have u0 := cellOf mo 0
      have u1 := cellOf mo 1
      have u2 := cellOf mo 2
      have u3 := cellOf mo 3
      have u4 := cellOf mo 4
      simp only [Opx.cs, List.getElem?_toArray, List.getElem?_cons_zero, List.getElem?_cons_succ, Nat.add_zero] at c0 c1 c2 c3 c4 c5 c6 c7 e0 e1 i0 i1 i2 i3 i4 u0 u1 u2 u3 u4 hA KX
      clear hp hb ho gg0 gg2 gbb a0 a2 ab bA hcl mo hv hvv x1 y0 y1
      cases v with
      | true =>
        go_upto_region 6 with fail
        rw [← hA]
        clear hA
        go_wp2_with (go_at_call 97; (refine (Hid.out KX).mono ?_; rintro e w8 ⟨rfl, hb8⟩; have HQ := hid (KQ.out w8 hb8); clear hb8))
        go_roundg g
        case measure => omega
        exact ⟨j + 1, by omega, by go_num, by rw [ht.out, List.all_append, HP.out]; simp [HV.out], HQ.out.1⟩
      | false =>
        have HF := hid (hno.out rfl)
        go_upto_region 6 with fail
        rw [← hA]
        clear hA
        go_wp2_with (go_at_call 97; (refine (Hid.out KX).mono ?_; rintro e w8 ⟨rfl, hb8⟩; have HQ := hid (KQ.out w8 hb8); clear hb8))
        go_ret
        exact ⟨by rw [HF.out]; rfl, HQ.out.2⟩
end Go.Proofs.YthnolocldeokeaaGreat

namespace Go.Proofs.YthnolocldeokeaaGreat
open Go.RowKit Go.Deep Go.Shelf
set_option linter.unusedVariables false
set_option linter.unusedSimpArgs false
attribute [local go_sem] Oper.semAt_some
/- A range over a function whose round begins by laying two boxes. -/
theorem range_box2 {α : Type} {F : Fence} {n : Nat} {P : Program} {g : Operand} {p1 p2 : Tmp} {assign body : Code} {Q : Exit → Act → World → Prop} {a : Act} {w : World}
    (hro : F.round = none) (h1 : 1 ≤ n) {gf : Nat} {lb : Array Value} (hg : a.eval g = .func (.func gf) #[] lb) (hFg : F.fn gf) (eg : ∀ args w, (callFunc gf args).run P w = .ok (.enter gf args) w)
    {enc1 enc2 : α → Value} {Kp : World → World → Prop} {S Sp : List α → Prop} {N : Nat} (hseq : SeqStopsK F (n - 1) P gf lb (fun x => #[enc1 x, enc2 x]) Kp S Sp N w)
    (hKt : ∀ {A B C : World}, Kp A B → Kp B C → Kp A C) (hKb : ∀ (W : World) (l : Nat) (o o' : Obj), w.heap.size ≤ l → W.heap[l]? = some o → o.isCells = false → o.isWalk = false → Kp W (W.putObj l o'))
    (c1 c2 : α → Array Value) (t1 t2 : TypeId)
    (I : List α → World → Prop) (Ix : Code → List α → World → Prop) (hI : OwnFrom w.heap.size I) (hIx : ∀ c, OwnFrom w.heap.size (Ix c)) (h0 : I [] w)
    (hKp : ∀ pre W W', I pre W → Below W.heap.size W W' → Kp W W' ∧ I pre W')
    (hround : ∀ (l : Nat) (x : α) (W : World) (K : Act → World → Prop), (∀ (a' : Act) (W' : World) (X Y : Nat), Below W.heap.size W W' → W'.heap[X]? = some (Obj.cells (c1 x) t1 (0, 0)) → W'.heap[Y]? = some (Obj.cells (c2 x) t2 (0, 0)) → (∀ (l' : Nat) (pre : List α) (W' : World), w.heap.size ≤ l' → (∃ r, W'.heap[l']? = some (.loop r)) → I pre W' → pre.length < N → W'.heap[X]? = some (Obj.cells (c1 x) t1 (0, 0)) → W'.heap[Y]? = some (Obj.cells (c2 x) t2 (0, 0)) → body.wpIn (F.inRound l') (n - 1 - 1) P (ownPostG w.heap.size Kp I Ix (pre ++ [x]) W') a' W') → K a' W') →
      assign.wpIn (F.inRound l) (n - 1 - 1) P (Exit.then K (fun _ _ _ => False)) { tmps := (a.tmps.setIfInBounds p1 (enc1 x)).setIfInBounds p2 (enc2 x), defers := [] } W)
    (hdone : ∀ (D : Nat) (xs : List α) (W : World), w.heap.size ≤ D → S xs → I xs W → W.heap[D]? = some (.deferred (some [])) → Q .normal { a with defers := { target := .collected D, args := #[] } :: a.defers } W)
    (hstop : ∀ (D : Nat) (c : Code) (pre : List α) (W : World), w.heap.size ≤ D → Sp pre → Ix c pre W → W.heap[D]? = some (.deferred (some [])) → c.wpIn F n P Q { a with defers := { target := .collected D, args := #[] } :: a.defers } W) :
    (Code.rangeFunc g #[p1, p2] assign body).wpIn F n P Q a w := by
  refine wpIn_rangeFunc_ownH hro h1 hg hFg eg hseq hKt hKb (Below.refl _ _) (fun _ => rfl) I Ix hI hIx h0 (fun x a' W => ∃ X Y : Nat, (W.heap[X]? = some (Obj.cells (c1 x) t1 (0, 0)) ∧ W.heap[Y]? = some (Obj.cells (c2 x) t2 (0, 0))) ∧ ∀ (l' : Nat) (pre : List α) (W' : World), w.heap.size ≤ l' → (∃ r, W'.heap[l']? = some (.loop r)) → I pre W' → pre.length < N → W'.heap[X]? = some (Obj.cells (c1 x) t1 (0, 0)) → W'.heap[Y]? = some (Obj.cells (c2 x) t2 (0, 0)) → body.wpIn (F.inRound l') (n - 1 - 1) P (ownPostG w.heap.size Kp I Ix (pre ++ [x]) W') a' W') (fun x a' _ A B row hs hg hr => by
      obtain ⟨X, Y, ⟨e1, e2⟩, hb⟩ := hs
      exact ⟨X, Y, ⟨keep_cells e1 hg hr, keep_cells e2 hg hr⟩, hb⟩) ?_ ?_ hdone hstop
  · intro l pre x W K hi hK
    rw [zip2]
    exact hround l x W K (fun a' W' X Y hb e1 e2 hbd => hK a' W' (keepsFrom_below hb) (hKp pre W W' hi hb).1 (hKp pre W W' hi hb).2 ⟨X, Y, ⟨e1, e2⟩, hbd⟩)
  · intro l pre x a' W hl hr hi hA hlt
    obtain ⟨X, Y, ⟨e1, e2⟩, hb⟩ := hA
    exact hb l pre W hl hr hi hlt e1 e2
def okZ (c : Cx) (Z : ZL) (i : Fin Z.length) : Bool := isFnB c (Z[i.val]).1.1.pn (Z[i.val]).2.2
theorem zip_all {c : Cx} {gs : List (GH × Sg)} {fs : List (FH × Fx)} (hg : ∀ p ∈ gs, p.1.pn = p.2.params.length) : isFnsB c (gs.map (·.2)) (fs.map (·.2)) = (gs.zip fs).all fun z => isFnB c z.1.1.pn z.2.2 := by
  unfold isFnsB
  rw [List.zip_map, List.all_map]
  refine Bool.eq_iff_iff.2 ?_
  simp only [List.all_eq_true, Function.comp]
  constructor
  · intro h z hz
    have := h z hz
    rw [hg z.1 (List.of_mem_zip hz).1]; exact this
  · intro h z hz
    have := h z hz
    rw [hg z.1 (List.of_mem_zip hz).1] at this; exact this
theorem okZ_all {c : Cx} {fs es : List (FH × Fx)} {Z : ZL} (hZ : Z = c.p.funcs.zip fs ++ c.p.events.zip es) (hg : ∀ p ∈ c.p.funcs, p.1.pn = p.2.params.length) (he : ∀ p ∈ c.p.events, p.1.pn = p.2.params.length) :
    (isFnsB c (c.p.funcs.map (·.2)) (fs.map (·.2)) && isFnsB c (c.p.events.map (·.2)) (es.map (·.2))) = (allZ Z).all (okZ c Z) := by
  rw [zip_all hg, zip_all he, ← List.all_append, ← hZ]
  refine Bool.eq_iff_iff.2 ?_
  simp only [List.all_eq_true]
  constructor
  · intro h i _
    exact h _ (List.getElem_mem i.isLt)
  · intro h z hz
    obtain ⟨k, hk, rfl⟩ := List.mem_iff_getElem.1 hz
    exact h ⟨k, hk⟩ (allZ_mem Z _)
set_option maxRecDepth 100000 in
set_option maxHeartbeats 4000000 in
theorem codeIs_any (SO : ShapeC) (w : World) (C : CH) (c : Cx) (fs es : List (FH × Fx)) (d : CdRd w C c fs es) : Calls Tryz.prog 17 #[C.v] w fun e w' => e = .returned (.bool (isB c)) ∧ Below w.heap.size w w' := by
  have hro : Fence.wide.round = none := rfl
  obtain ⟨A1, hA1⟩ : ∃ A1, A1 = w.alloc (.cells C.cs 31) := ⟨_, rfl⟩
  obtain ⟨W0, hW0⟩ : ∃ W0, W0 = A1.alloc (.cells #[.bool false] 4) := ⟨_, rfl⟩
  have b1 : Below w.heap.size w A1 := by rw [hA1]; exact (Below.refl _ _).alloc (Nat.le_refl _) _
  have z1 : A1.heap.size = w.heap.size + 1 := by rw [hA1]; simp
  have z2 : W0.heap.size = w.heap.size + 2 := by rw [hW0]; simp; omega
  have b2 : Below w.heap.size w W0 := by rw [hW0]; exact b1.alloc (by omega) _
  have m0 : W0.heap[w.heap.size]? = some (.cells C.cs 31 (0, 0)) := by rw [hW0, Below.heap_alloc _ _ _ (by omega), hA1]; exact heap_alloc_new w _
  have m1 : W0.heap[w.heap.size + 1]? = some (.cells #[.bool false] 4 (0, 0)) := by rw [hW0, ← z1]; exact heap_alloc_new A1 _
  have GT : Hid (∀ V : World, Below W0.heap.size W0 V → V.heap[w.heap.size]? = some (.cells C.cs 31 (0, 0)) ∧ V.heap[w.heap.size + 1]? = some (.cells #[.bool false] 4 (0, 0)) ∧ Below w.heap.size w V) := hid (fun V hV => ⟨(hV.block _ (by omega)).trans m0, (hV.block _ (by omega)).trans m1, b2.trans (hV.mono b2.size)⟩)
  have KR := hid (right_any W0 C.h c.p (d.p.below (Nat.le_refl _) b2))
  have KC := hid (fun (V : World) (hV : Below w.heap.size w V) => areConstants_any V C c fs es (d.below (Nat.le_refl _) hV))
  have KF := hid (fun (V : World) => functions_in Fence.wide 5 trivial hro C V)
  have hg : ∀ p ∈ c.p.funcs, p.1.pn = p.2.params.length := fun p hp => (d.p.f.el p hp).pn
  have he : ∀ p ∈ c.p.events, p.1.pn = p.2.params.length := fun p hp => (d.p.e.el p hp).pn
  obtain ⟨Z, hZ⟩ : ∃ Z : ZL, Z = c.p.funcs.zip fs ++ c.p.events.zip es := ⟨_, rfl⟩
  have OZ := hid (okZ_all hZ hg he)
  have SQ := hid (fun (V : World) (hV : Below w.heap.size w V) (Bx : Nat) (hx : V.heap[Bx]? = some (.cells C.cs 31 (0, 0))) (h1 : fs.length = c.p.funcs.length) (h2 : es.length = c.p.events.length) => functions_stops w V C c fs es d hV Bx hx 5 (by omega) h1 h2 Z hZ)
  have KI := hid (fun (V : World) (hV : Below w.heap.size w V) (i : Fin Z.length) => (by
    have hm : Z[i.val] ∈ Z := List.getElem_mem i.isLt
    have hz : SgRd V (Z[i.val]).1.1 (Z[i.val]).1.2 ∧ FnRd V (Z[i.val]).2.1 (Z[i.val]).2.2 := by
      generalize Z[i.val] = z at hm
      rw [hZ] at hm
      rcases List.mem_append.1 hm with h | h
      · exact ⟨(d.p.f.el _ (List.of_mem_zip h).1).below (Nat.le_refl _) hV, (d.f.el _ (List.of_mem_zip h).2).below (Nat.le_refl _) hV⟩
      · exact ⟨(d.p.e.el _ (List.of_mem_zip h).1).below (Nat.le_refl _) hV, (d.e.el _ (List.of_mem_zip h).2).below (Nat.le_refl _) hV⟩
    exact isFunction_any SO V C c fs es (d.below (Nat.le_refl _) hV) (Z[i.val]).1.1 hz.1.p2 (Z[i.val]).2.1 (Z[i.val]).2.2 hz.2 : Calls Tryz.prog 59 #[C.v, fsg (Z[i.val]).1.1, (Z[i.val]).2.1.v] V fun e w' => e = .returned (.bool (okZ c Z i)) ∧ Below V.heap.size V w'))
  have e1 := hid d.f.n1
  have e2 := hid d.e.n1
  have e3 := hid d.p.f.n1
  have e4 := hid d.p.e.n1
  have l1 := d.f.n2
  have l2 := d.e.n2
  have l3 := d.p.f.n2
  have l4 := d.p.e.n2
  obtain ⟨res, hres⟩ : ∃ res, res = isB c := ⟨_, rfl⟩
  rw [← hres]
  have HRES : Hid (res = (rightB c.p && constB c && decide (fs.length = c.p.funcs.length) && decide (es.length = c.p.events.length) && (allZ Z).all (okZ c Z))) := hid (by
    rw [hres, ← OZ.out, d.fe, d.ee]
    unfold isB
    rw [← d.fe, ← d.ee, List.length_map, List.length_map]
    simp only [Bool.and_assoc])
  have HZ0 := hid z2
  have HB2 := hid b2
  have ZC := hid (fun (i : Fin Z.length) => (rfl : encZ Z i = #[fsg (Z[i.val]).1.1, (Z[i.val]).2.1.v]))
  clear hres d b1 b2 m0 m1 hg he OZ z1 z2 hZ
  generalize okZ c Z = okz at KI HRES
  obtain ⟨⟨ra, rn, rc, ma, mn, mc, fa, fn, fc, ea, en, ec⟩, ia, inn, ic, ta, tn, tc, ga, gn, gc, ha, hn, hc⟩ := C
  simp only [CH.v, CH.cs, PH.v] at hA1 GT KR KC KF SQ KI e1 e2 e3 e4 l1 l2 l3 l4 ⊢
  generalize rightB c.p = rb at KR HRES
  generalize constB c = cb at KC HRES
  refine (callsIn_wide (n := 6)).1 ?_
  refine callsIn_of_wp_marks Tryz.func17 rfl trivial ?_ hro
  simp only [Tryz.ntmps17, List.size_toArray, List.length_cons, List.length_nil, Nat.reduceAdd, Nat.reduceSub, Array.replicate_succ, Array.replicate_zero, List.push_toArray, List.append_toArray, List.nil_append, List.cons_append]
  /- What is stored when it is refused. -/
  have FL : Hid (∀ V : World, Below W0.heap.size W0 V → V.cell? ⟨w.heap.size + 1, 0, none⟩ = some (.bool false) ∧ V.frozen? ⟨w.heap.size + 1, 0, none⟩ = false ∧ (V.setCell ⟨w.heap.size + 1, 0, none⟩ (.bool false)).cell? ⟨w.heap.size + 1, 0, none⟩ = some (.bool false) ∧ Below w.heap.size w (V.setCell ⟨w.heap.size + 1, 0, none⟩ (.bool false))) := hid (fun V hV => by
    obtain ⟨_, g, gb⟩ := GT.out V hV
    exact ⟨cellOf g 0, freeOf g 0, cellOf (set_cells g (.bool false)) 0, gb.setCell (p := ⟨w.heap.size + 1, 0, none⟩) (by show w.heap.size ≤ w.heap.size + 1; omega) _⟩)
  have CL : Hid (∀ V : World, Below W0.heap.size W0 V → (V.cell? ⟨w.heap.size, 0, none⟩ = some (.slice ra rn rc) ∧ V.cell? ⟨w.heap.size, 1, none⟩ = some (.slice ma mn mc) ∧ V.cell? ⟨w.heap.size, 2, none⟩ = some (.slice fa fn fc) ∧ V.cell? ⟨w.heap.size, 3, none⟩ = some (.slice ea en ec)) ∧ V.cell? ⟨w.heap.size, 4, none⟩ = some (.slice ia inn ic) ∧ V.cell? ⟨w.heap.size, 5, none⟩ = some (.slice ta tn tc) ∧ V.cell? ⟨w.heap.size, 6, none⟩ = some (.slice ga gn gc) ∧ V.cell? ⟨w.heap.size, 7, none⟩ = some (.slice ha hn hc)) := hid (fun V hV => by
    obtain ⟨g, _, _⟩ := GT.out V hV
    exact ⟨⟨cellOf g 0, cellOf g 1, cellOf g 2, cellOf g 3⟩, cellOf g 4, cellOf g 5, cellOf g 6, cellOf g 7⟩)
  have TR : Hid (∀ {x y : World}, Below W0.heap.size W0 x → Below x.heap.size x y → Below W0.heap.size W0 y) := hid (fun h1 h2 => h1.trans (h2.mono h1.size))
  /- Refused before a function is looked at. -/
  by_cases hr : rb = true
  · by_cases hcb : cb = true
    · by_cases hf1 : gn = fn
      · by_cases hf2 : hn = en
        · subst hf1 hf2
          have hL1 : fs.length = c.p.funcs.length := by have := e1.out; have := e3.out; omega
          have hL2 : es.length = c.p.events.length := by have := e2.out; have := e4.out; omega
          have HALL : Hid (res = (allZ Z).all okz) := hid (by rw [HRES.out, hr, hcb]; simp [hL1, hL2])
          subst hr hcb
          have SQ' := hid (fun (V : World) (hV : Below w.heap.size w V) (Bx : Nat) hx => SQ.out V hV Bx hx hL1 hL2)
          clear SQ HRES hL1 hL2 e1 e2 e3 e4
          have nb1 : ((gn : Int) != (gn : Int)) = false := by simp
          have nb2 : ((hn : Int) != (hn : Int)) = false := by simp
          gi_wp2_with (refine ⟨trivial, ?_⟩; first
            | (gi_at_call 57; (rw [← hA1, ← hW0]; refine (callsIn_wide.2 (Hid.out KR)).mono ?_; rintro e w1 ⟨rfl, hb1⟩; have HB1 := hid hb1; obtain ⟨⟨c0, c1, c2, c3⟩, c4, c5, c6, c7⟩ := CL.out w1 hb1; have KC1 := hid (KC.out w1 (GT.out w1 hb1).2.2); clear hb1))
            | (gi_at_call 58; (refine (callsIn_wide.2 (Hid.out KC1)).mono ?_; rintro e w2 ⟨rfl, hb2⟩; have HB2' := hid (TR.out HB1.out hb2); clear c0 c1 c2 c3 c4 c5 c6 c7; obtain ⟨⟨c0, c1, c2, c3⟩, c4, c5, c6, c7⟩ := CL.out w2 HB2'.out; clear hb2))
            | (gi_at_call 30; (refine (KF.out _).mono ?_; rintro e w3 ⟨rfl, rfl⟩; clear c0 c1 c2 c3 c4 c5 c6 c7)))
          obtain ⟨V, hV⟩ : ∃ V, V = w2.alloc (.cells #[.slice ra rn rc, .slice ma mn mc, .slice fa gn fc, .slice ea hn ec, .slice ia inn ic, .slice ta tn tc, .slice ga gn gc, .slice ha hn hc] 31) := ⟨_, rfl⟩
          rw [← hV]
          have bV : Below W0.heap.size W0 V := by rw [hV]; exact HB2'.out.alloc HB2'.out.size _
          have mb : V.heap[w2.heap.size]? = some (.cells #[.slice ra rn rc, .slice ma mn mc, .slice fa gn fc, .slice ea hn ec, .slice ia inn ic, .slice ta tn tc, .slice ga gn gc, .slice ha hn hc] 31 (0, 0)) := by rw [hV]; exact heap_alloc_new w2 _
          have zV : w2.heap.size < V.heap.size := lt_of_heap mb
          have bwV := (GT.out V bV).2.2
          have hseq := SQ'.out V bwV w2.heap.size mb
          have hwV : w.heap.size + 1 < V.heap.size := by have := bV.size; have := HZ0.out; omega
          have TV := hid (fun (W : World) (h : Below V.heap.size V W) => bV.trans (h.mono bV.size))
          clear hA1 hW0 hV mb bV bwV KR KC KC1 KF SQ' HB1 HB2'
          have hKp : ∀ (pre : List (Fin Z.length)) (W W' : World), BI V okz pre W → Below W.heap.size W W' → KB w.heap.size w2.heap.size W W' ∧ BI V okz pre W' := fun pre W W' hi hb => by
            have := hi.1.size
            exact ⟨KB_of hb (by omega) (by omega), hi.1.trans (hb.mono hi.1.size), hi.2⟩
          refine range_box2 hro (by omega) (gf := 65) (lb := #[.pointer (some ⟨w2.heap.size, 0, none⟩)]) rfl trivial (enters_of Tryz.func65 (by kernel_rfl) rfl) (enc1 := fun i => fsg (Z[i.val]).1.1) (enc2 := fun i => (Z[i.val]).2.1.v) (Kp := KB w.heap.size w2.heap.size) hseq KB_t (KB_b (n₀ := w.heap.size) (Bx := w2.heap.size) (w := V) (by omega) (by omega)) (fun i => (Z[i.val]).1.1.cs.toArray) (fun i => (Z[i.val]).2.1.cs.toArray) 49 57 (BI V okz) (BX w V (w.heap.size + 1) okz) (BI_own V okz) (fun c => BX_own w V _ okz (by omega) c) ⟨Below.refl _ _, by simp⟩ hKp ?round ?done ?stop
          case round =>
            intro ll x W K hK
            have HKK := hid hK
            have KIx := hid (fun V hV => KI.out V hV x)
            have HIX := hid (rfl : okz x = okz x)
            clear hK
            generalize (Z[x.val]).1.1 = gh at HKK KIx ⊢
            generalize (Z[x.val]).2.1 = fh at HKK KIx ⊢
            obtain ⟨nm, pa, pn, pc, kd, rr⟩ := gh
            obtain ⟨regs, oa, on, oc⟩ := fh
            simp only [fsg, FH.v, FH.cs, GH.cs] at HKK KIx ⊢
            simp only [List.setIfInBounds_toArray, List.set_cons_zero, List.set_cons_succ]
            gi_wp2
            refine HKK.out _ _ W.heap.size (W.heap.size + 1) (((Below.refl _ W).alloc (Nat.le_refl _) _).alloc (by simp) _) ((Below.heap_alloc _ _ _ (by simp)).trans (heap_alloc_new W _)) (by have := heap_alloc_new (W.alloc (.cells #[.string nm, .slice pa pn pc, .int .i64 kd, .int .i64 rr] 49)) (.cells #[.int .i64 regs, .slice oa on oc] 57); rw [World.size_alloc] at this; exact this) ?_
            clear HKK K ll hseq
            generalize W.heap.size = X
            obtain ⟨Y, hY⟩ : ∃ Y, Y = X + 1 := ⟨_, rfl⟩
            rw [← hY]
            clear hY W
            intro l' pre W' hl hrr hi hlt mX mY
            obtain ⟨⟨c0, c1, c2, c3⟩, c4, c5, c6, c7⟩ := CL.out W' (TV.out W' hi.1)
            have KX := hid (KIx.out W' (GT.out W' (TV.out W' hi.1)).2.2)
            have s0 := cellOf mX 0
            have s1 := cellOf mX 1
            have s2 := cellOf mX 2
            have s3 := cellOf mX 3
            have f0 := cellOf mY 0
            have f1 := cellOf mY 1
            simp only [List.getElem?_toArray, List.getElem?_cons_zero, List.getElem?_cons_succ] at s0 s1 s2 s3 f0 f1
            have HI := hid hi
            have hsz : V.heap.size ≤ W'.heap.size := hi.1.size
            clear hrr hi mX mY KIx KI HIX
            obtain ⟨v, hv⟩ : ∃ v, okz x = v := ⟨_, rfl⟩
            rw [hv] at KX
            cases v with
            | true =>
              gi_wp2_with (refine ⟨trivial, ?_⟩; gi_at_call 59; (refine (CallsIn.inRound l' (callsIn_wide.2 (Hid.out KX))).mono ?_; rintro e w8 ⟨rfl, hb8⟩))
              exact ⟨keepsFrom_below hb8, KB_of hb8 (by omega) (by omega), HI.out.snoc hv hb8⟩
            | false =>
              have FIN : Hid (∀ w8 : World, Below W'.heap.size W' w8 → w8.cell? ⟨w.heap.size + 1, 0, none⟩ = some (.bool false) ∧ w8.frozen? ⟨w.heap.size + 1, 0, none⟩ = false ∧ KeepsFrom V.heap.size W' (w8.setCell ⟨w.heap.size + 1, 0, none⟩ (.bool false)) ∧ BX w V (w.heap.size + 1) okz .ret (pre ++ [x]) (w8.setCell ⟨w.heap.size + 1, 0, none⟩ (.bool false))) := hid (fun w8 hb8 => by
                obtain ⟨_, g3, gb⟩ := GT.out w8 (TV.out w8 (HI.out.1.trans (hb8.mono HI.out.1.size)))
                exact ⟨cellOf g3 0, freeOf g3 0, (keepsFrom_below hb8).trans ((KeepsOthers.setCell _ _ _).from _), rfl, ⟨_, List.mem_append.2 (.inr (List.mem_singleton.2 rfl)), hv⟩, set_cells g3 _, gb.setCell (p := ⟨w.heap.size + 1, 0, none⟩) (by show w.heap.size ≤ w.heap.size + 1; omega) _⟩)
              gi_wp2_with (refine ⟨trivial, ?_⟩; gi_at_call 59; (refine (CallsIn.inRound l' (callsIn_wide.2 (Hid.out KX))).mono ?_; rintro e w8 ⟨rfl, hb8⟩; have g6 := (FIN.out w8 hb8).1; have g7 := (FIN.out w8 hb8).2.1))
              exact (FIN.out w8 hb8).2.2
          case done =>
            rintro D' ys W hD rfl hI hK
            have HK := hid hK
            obtain ⟨_, g3, gb⟩ := GT.out W (TV.out W hI.1)
            have g6 := cellOf g3 0
            have g7 := freeOf g3 0
            have hresT : Hid (res = true) := hid (by rw [HALL.out, List.all_eq_true]; exact hI.2)
            have G3 := hid g3
            have GB := hid gb
            clear hseq hI hK g3 gb
            gi_wp2
            have hK' : (W.setCell ⟨w.heap.size + 1, 0, none⟩ (.bool true)).heap[D']? = some (.deferred (some [])) := (Below.heap_setCell _ _ _ _ (by show D' ≠ w.heap.size + 1; omega)).trans HK.out
            have h9 := keep_cells (B := 0) (set_cells G3.out (.bool true)) (grownBy_putObj' _ D' (.deferred none)) (fun r e => by cases e; exact ⟨Nat.zero_le _, _, hK', rfl⟩)
            have h10 : Below w.heap.size w ((W.setCell ⟨w.heap.size + 1, 0, none⟩ (.bool true)).putObj D' (.deferred none)) := ownFrom_below (β := Unit) (Nat.le_refl _) (Nat.le_refl _) () _ _ _ (GB.out.setCell (p := ⟨w.heap.size + 1, 0, none⟩) (by show w.heap.size ≤ w.heap.size + 1; omega) _) (grownBy_putObj' _ D' (.deferred none)) (fun r e => by cases e; exact ⟨by omega, _, hK', rfl⟩)
            have q5 := cellOf h9 0
            simp only [List.getElem?_toArray, List.getElem?_cons_zero] at q5
            refine ⟨by simp, .inl ⟨_, _, rfl, run_takeDeferred hK', ?_⟩⟩
            refine ⟨_, by simp [results, Tryz.results17, go_sem, q5]; rfl, ?_⟩
            exact ⟨by rw [hresT.out], h10⟩
          case stop =>
            rintro D' cc pre W hD ⟨kk, hkk⟩ ⟨rfl, ⟨x, hx, hx2⟩, h5, h6⟩ hK
            have hresF : Hid (res = false) := hid (by rw [HALL.out, List.all_eq_false]; exact ⟨x, allZ_mem Z x, by simp [hx2]⟩)
            have HK := hid hK
            clear hseq hK
            gi_wp2
            have h9 := keep_cells (B := 0) h5 (grownBy_putObj' _ D' (.deferred none)) (fun r e => by cases e; exact ⟨Nat.zero_le _, _, HK.out, rfl⟩)
            have h10 : Below w.heap.size w (W.putObj D' (.deferred none)) := ownFrom_below (β := Unit) (Nat.le_refl _) (Nat.le_refl _) () _ _ _ h6 (grownBy_putObj' _ D' (.deferred none)) (fun r e => by cases e; exact ⟨by omega, _, HK.out, rfl⟩)
            have q5 := cellOf h9 0
            simp only [List.getElem?_toArray, List.getElem?_cons_zero] at q5
            refine ⟨by simp, .inl ⟨_, _, rfl, run_takeDeferred HK.out, ?_⟩⟩
            refine ⟨_, by simp [results, Tryz.results17, go_sem, q5]; rfl, ?_⟩
            exact ⟨by rw [hresF.out], h10⟩
        · subst hr hcb hf1
          have HF : Hid (res = false) := hid (by rw [HRES.out]; have := e2.out; have := e4.out; simp; intro _ h; omega)
          have nb1 : ((gn : Int) != (gn : Int)) = false := by simp
          have nb2 : ((hn : Int) != (en : Int)) = true := by simp; omega
          clear HRES SQ KF KI
          gi_wp2_with (refine ⟨trivial, ?_⟩; first
            | (gi_at_call 57; (rw [← hA1, ← hW0]; refine (callsIn_wide.2 (Hid.out KR)).mono ?_; rintro e w1 ⟨rfl, hb1⟩; have HB1 := hid hb1; have g6 := (FL.out w1 hb1).1; have g7 := (FL.out w1 hb1).2.1; have g8 := (FL.out w1 hb1).2.2.1; have HG := hid (FL.out w1 hb1).2.2.2; obtain ⟨⟨c0, c1, c2, c3⟩, c4, c5, c6, c7⟩ := CL.out w1 hb1; have KC1 := hid (KC.out w1 (GT.out w1 hb1).2.2); clear hb1))
            | (gi_at_call 58; (refine (callsIn_wide.2 (Hid.out KC1)).mono ?_; rintro e w2 ⟨rfl, hb2⟩; have HB2' := hid (TR.out HB1.out hb2); clear c0 c1 c2 c3 c4 c5 c6 c7 g6 g7 g8 HG; have g6 := (FL.out w2 HB2'.out).1; have g7 := (FL.out w2 HB2'.out).2.1; have g8 := (FL.out w2 HB2'.out).2.2.1; have HG := hid (FL.out w2 HB2'.out).2.2.2; obtain ⟨⟨c0, c1, c2, c3⟩, c4, c5, c6, c7⟩ := CL.out w2 HB2'.out; clear hb2)))
          exact ⟨_, by simp [results, Tryz.results17, go_sem, g8]; rfl, by rw [HF.out], HG.out⟩
      · subst hr hcb
        have HF : Hid (res = false) := hid (by rw [HRES.out]; have := e1.out; have := e3.out; simp; intro h; omega)
        have nb1 : ((gn : Int) != (fn : Int)) = true := by simp; omega
        clear HRES SQ KF KI
        gi_wp2_with (refine ⟨trivial, ?_⟩; first
          | (gi_at_call 57; (rw [← hA1, ← hW0]; refine (callsIn_wide.2 (Hid.out KR)).mono ?_; rintro e w1 ⟨rfl, hb1⟩; have HB1 := hid hb1; have g6 := (FL.out w1 hb1).1; have g7 := (FL.out w1 hb1).2.1; have g8 := (FL.out w1 hb1).2.2.1; have HG := hid (FL.out w1 hb1).2.2.2; obtain ⟨⟨c0, c1, c2, c3⟩, c4, c5, c6, c7⟩ := CL.out w1 hb1; have KC1 := hid (KC.out w1 (GT.out w1 hb1).2.2); clear hb1))
          | (gi_at_call 58; (refine (callsIn_wide.2 (Hid.out KC1)).mono ?_; rintro e w2 ⟨rfl, hb2⟩; have HB2' := hid (TR.out HB1.out hb2); clear c0 c1 c2 c3 c4 c5 c6 c7 g6 g7 g8 HG; have g6 := (FL.out w2 HB2'.out).1; have g7 := (FL.out w2 HB2'.out).2.1; have g8 := (FL.out w2 HB2'.out).2.2.1; have HG := hid (FL.out w2 HB2'.out).2.2.2; obtain ⟨⟨c0, c1, c2, c3⟩, c4, c5, c6, c7⟩ := CL.out w2 HB2'.out; clear hb2)))
        exact ⟨_, by simp [results, Tryz.results17, go_sem, g8]; rfl, by rw [HF.out], HG.out⟩
    · obtain rfl : cb = false := by simpa using hcb
      subst hr
      have HF : Hid (res = false) := hid (by rw [HRES.out]; simp)
      clear HRES SQ KF KI
      gi_wp2_with (refine ⟨trivial, ?_⟩; first
        | (gi_at_call 57; (rw [← hA1, ← hW0]; refine (callsIn_wide.2 (Hid.out KR)).mono ?_; rintro e w1 ⟨rfl, hb1⟩; have HB1 := hid hb1; have g6 := (FL.out w1 hb1).1; have g7 := (FL.out w1 hb1).2.1; have g8 := (FL.out w1 hb1).2.2.1; have HG := hid (FL.out w1 hb1).2.2.2; obtain ⟨⟨c0, c1, c2, c3⟩, c4, c5, c6, c7⟩ := CL.out w1 hb1; have KC1 := hid (KC.out w1 (GT.out w1 hb1).2.2); clear hb1))
        | (gi_at_call 58; (refine (callsIn_wide.2 (Hid.out KC1)).mono ?_; rintro e w2 ⟨rfl, hb2⟩; have HB2' := hid (TR.out HB1.out hb2); clear c0 c1 c2 c3 c4 c5 c6 c7 g6 g7 g8 HG; have g6 := (FL.out w2 HB2'.out).1; have g7 := (FL.out w2 HB2'.out).2.1; have g8 := (FL.out w2 HB2'.out).2.2.1; have HG := hid (FL.out w2 HB2'.out).2.2.2; obtain ⟨⟨c0, c1, c2, c3⟩, c4, c5, c6, c7⟩ := CL.out w2 HB2'.out; clear hb2)))
      exact ⟨_, by simp [results, Tryz.results17, go_sem, g8]; rfl, by rw [HF.out], HG.out⟩
  · obtain rfl : rb = false := by simpa using hr
    have HF : Hid (res = false) := hid (by rw [HRES.out]; simp)
    clear HRES SQ KF KI
    gi_wp2_with (refine ⟨trivial, ?_⟩; first
      | (gi_at_call 57; (rw [← hA1, ← hW0]; refine (callsIn_wide.2 (Hid.out KR)).mono ?_; rintro e w1 ⟨rfl, hb1⟩; have HB1 := hid hb1; have g6 := (FL.out w1 hb1).1; have g7 := (FL.out w1 hb1).2.1; have g8 := (FL.out w1 hb1).2.2.1; have HG := hid (FL.out w1 hb1).2.2.2; obtain ⟨⟨c0, c1, c2, c3⟩, c4, c5, c6, c7⟩ := CL.out w1 hb1; have KC1 := hid (KC.out w1 (GT.out w1 hb1).2.2); clear hb1))
      | (gi_at_call 58; (refine (callsIn_wide.2 (Hid.out KC1)).mono ?_; rintro e w2 ⟨rfl, hb2⟩; have HB2' := hid (TR.out HB1.out hb2); clear c0 c1 c2 c3 c4 c5 c6 c7 g6 g7 g8 HG; have g6 := (FL.out w2 HB2'.out).1; have g7 := (FL.out w2 HB2'.out).2.1; have g8 := (FL.out w2 HB2'.out).2.2.1; have HG := hid (FL.out w2 HB2'.out).2.2.2; obtain ⟨⟨c0, c1, c2, c3⟩, c4, c5, c6, c7⟩ := CL.out w2 HB2'.out; clear hb2))
      | (rename_i hz; refine hz _ _ ?_; clear hz))
    exact ⟨_, by simp [results, Tryz.results17, go_sem, g8]; rfl, by rw [HF.out], HG.out⟩
end Go.Proofs.YthnolocldeokeaaGreat

