/- code.reader's op. -/
import Derived.Test.YthnolocldeokeaaGreatDoorJAK
namespace Go.Proofs.YthnolocldeokeaaGreatDoor
open Go.RowKit Go.Deep Go.Shelf
set_option linter.unusedVariables false
set_option linter.unusedSimpArgs false
set_option maxRecDepth 100000
def rSh (k : Int) : Shp := if isC k = true then shpAt k else shp0
def rOs (s : Option (List Nat)) : Option (List Nat) := if isC (rN s).1 = true then (rN s).2 else none
def rO (s : Option (List Nat)) : Opx × Option (List Nat) :=
  let sh := rSh (rN s).1
  let d := rFd sh.d (rOs s)
  let a := rFd sh.a d.2
  let b := rFd sh.b a.2
  let k := rFd sh.k b.2
  (⟨(rN s).1, d.1, a.1, b.1, k.1⟩, k.2)
theorem Rst.alloc {w : World} {R D : Nat} {s : Option (List Nat)} (h : Rst w R D s) (o : Obj) : Rst (w.alloc o) R D s := h.below ((Below.refl _ w).alloc (Nat.le_refl _) o)
theorem Rst.drew {w : World} {R D : Nat} {s : Option (List Nat)} (h : Rst w R D s) : Rst w.drew R D s := h.below (Below.refl _ w).drew
/- The two boxes, and what the reader holds. -/
structure OpW (w V : World) (R D : Nat) (t : Option (List Nat)) (X : Nat) (s : Shp) : Prop where
  st : Rst V R D t
  g : w.grownBy V (some R)
  p : V.heap[w.heap.size]? = some (.cells #[.int .i64 0, .int .i64 0, .int .i64 0, .int .i64 0, .int .i64 0] 23 (0, 0))
  x : V.heap[X]? = some (.cells s.cs.toArray 63 (0, 0))
  hX : w.heap.size < X
theorem OpW.next {w V V' : World} {R D : Nat} {t t' : Option (List Nat)} {X : Nat} {s : Shp} (h : OpW w V R D t X s) (hs : Rst V' R D t') (hg : V.grownBy V' (some R)) : OpW w V' R D t' X s := by
  have h1 := h.st.hR
  have h2 : D ≤ w.heap.size ∨ w.heap.size < D := by omega
  have hne : R ≠ w.heap.size := fun e => by
    obtain ⟨⟨a, n, c, hh, _⟩, _⟩ := h.st
    rw [e, h.p] at hh
    injection hh with hh; injection hh with hh
    simp at hh
  have hnx : R ≠ X := fun e => by
    obtain ⟨⟨a, n, c, hh, _⟩, _⟩ := h.st
    rw [e, h.x] at hh
    injection hh with hh; injection hh with hh
    simp [Shp.cs] at hh
  exact ⟨hs, gtrans h.g hg, (hg.block _ (lt_of_heap h.p) (fun e => hne (by injection e with e; exact e.symm))).trans h.p, (hg.block _ (lt_of_heap h.x) (fun e => hnx (by injection e with e; exact e.symm))).trans h.x, h.hX⟩
theorem OpW.below {w V V' : World} {R D : Nat} {t : Option (List Nat)} {X : Nat} {s : Shp} (h : OpW w V R D t X s) (b : Below V.heap.size V V') : OpW w V' R D t X s := h.next (h.st.below b) (bgrown b _)
theorem OpW.cells {w V : World} {R D : Nat} {t : Option (List Nat)} {X : Nat} {nm : ByteArray} {sd sa sb sk : Int} (h : OpW w V R D t X ⟨nm, sd, sa, sb, sk⟩) : V.cell? ⟨X, 1, none⟩ = some (.int .u8 sd) ∧ V.cell? ⟨X, 2, none⟩ = some (.int .u8 sa) ∧ V.cell? ⟨X, 3, none⟩ = some (.int .u8 sb) ∧ V.cell? ⟨X, 4, none⟩ = some (.int .u8 sk) := by
  have hx := h.x
  simp only [Shp.cs] at hx
  exact ⟨cellOf hx 1, cellOf hx 2, cellOf hx 3, cellOf hx 4⟩
/- The box of the operation: either it is not there yet or it holds still. -/
theorem box_next {V V' : World} {R Q : Nat} {a : Array Value} {t : TypeId} (h : V.heap[Q]? = some (.cells a t (0, 0))) (hg : V.grownBy V' (some R)) (hne : Q ≠ R) : V'.heap[Q]? = some (.cells a t (0, 0)) := (hg.block _ (lt_of_heap h) (fun e => hne (by injection e))).trans h
theorem cell5 {V : World} {Q : Nat} {a b c d e : Value} {t : TypeId} (m : V.heap[Q]? = some (.cells #[a, b, c, d, e] t (0, 0))) : V.cell? ⟨Q, 0, none⟩ = some a ∧ V.cell? ⟨Q, 1, none⟩ = some b ∧ V.cell? ⟨Q, 2, none⟩ = some c ∧ V.cell? ⟨Q, 3, none⟩ = some d ∧ V.cell? ⟨Q, 4, none⟩ = some e := ⟨cellOf m 0, cellOf m 1, cellOf m 2, cellOf m 3, cellOf m 4⟩
theorem free5 {V : World} {Q : Nat} {a b c d e : Value} {t : TypeId} (m : V.heap[Q]? = some (.cells #[a, b, c, d, e] t (0, 0))) : V.frozen? ⟨Q, 0, none⟩ = false ∧ V.frozen? ⟨Q, 1, none⟩ = false ∧ V.frozen? ⟨Q, 2, none⟩ = false ∧ V.frozen? ⟨Q, 3, none⟩ = false ∧ V.frozen? ⟨Q, 4, none⟩ = false := ⟨freeOf m 0, freeOf m 1, freeOf m 2, freeOf m 3, freeOf m 4⟩
def Bx5 (V : World) (Q : Nat) (x0 x1 x2 x3 x4 : Value) : World := (((((V.setCell ⟨Q, 0, none⟩ x0).setCell ⟨Q, 1, none⟩ x1).setCell ⟨Q, 2, none⟩ x2).setCell ⟨Q, 3, none⟩ x3).setCell ⟨Q, 4, none⟩ x4)
theorem OpW.box {w V : World} {R D : Nat} {t : Option (List Nat)} {X Q : Nat} {s : Shp} (h : OpW w V R D t X s) (hQ : w.heap.size ≤ Q) (hX : X ≠ Q) (hP : w.heap.size ≠ Q) (hD : D ≤ w.heap.size) (x0 x1 x2 x3 x4 : Value) : OpW w (((((V.setCell ⟨Q, 0, none⟩ x0).setCell ⟨Q, 1, none⟩ x1).setCell ⟨Q, 2, none⟩ x2).setCell ⟨Q, 3, none⟩ x3).setCell ⟨Q, 4, none⟩ x4) R D t X s := by
  have g : V.grownBy (((((V.setCell ⟨Q, 0, none⟩ x0).setCell ⟨Q, 1, none⟩ x1).setCell ⟨Q, 2, none⟩ x2).setCell ⟨Q, 3, none⟩ x3).setCell ⟨Q, 4, none⟩ x4) (some Q) := gtrans (gtrans (gtrans (gtrans (grown_set V Q 0 x0) (grown_set _ Q 1 x1)) (grown_set _ Q 2 x2)) (grown_set _ Q 3 x3)) (grown_set _ Q 4 x4)
  exact ⟨h.st.grown g (fun r e => by cases e; omega), grown_new h.g g hQ, (g.block _ (lt_of_heap h.p) (fun e => hP (by injection e))).trans h.p, (g.block _ (lt_of_heap h.x) (fun e => hX (by injection e))).trans h.x, h.hX⟩
/- What op answers. -/
def OpP (w : World) (R D : Nat) (o : Opx) (s : Option (List Nat)) (e : Ending) (w' : World) : Prop := e = .returned (.tuple #[.agg o.cs, .bool (!s.isNone)]) ∧ Rst w' R D s ∧ w.grownBy w' (some R)
set_option maxHeartbeats 8000000 in
theorem op_any (SO : ShapeC) (w : World) (R D : Nat) (s : Option (List Nat)) (h : Rst w R D s) : Calls Tryz.prog 66 #[.pointer (some ⟨R, 0, none⟩)] w (OpP w R D (rO s).1 (rO s).2) := by
  obtain ⟨W0, hW0⟩ : ∃ W0, W0 = w.alloc (.cells #[.int .i64 0, .int .i64 0, .int .i64 0, .int .i64 0, .int .i64 0] 23) := ⟨_, rfl⟩
  have b0 : Below w.heap.size w W0 := by rw [hW0]; exact (Below.refl _ _).alloc (Nat.le_refl _) _
  have m0 : W0.heap[w.heap.size]? = some (.cells #[.int .i64 0, .int .i64 0, .int .i64 0, .int .i64 0, .int .i64 0] 23 (0, 0)) := by rw [hW0]; exact heap_alloc_new w _
  have hRD := h.hR
  have hDw := h.hD
  have K1 := number_any W0 R D s (h.below b0)
  obtain ⟨c, s0, hq⟩ : ∃ c s0, rN s = (c, s0) := ⟨_, _, rfl⟩
  have KS := hid (fun (V : World) => SO V c)
  have KFl := hid (fun (V : World) (hV : Rst V R D s0) => fail_any V R D s0 hV)
  unfold rO
  simp only [rOs, hq] at K1 ⊢
  have K1 := hid K1
  have HB0 := hid b0
  have HM0 := hid m0
  have KF := hid (fun (V : World) (u : Int) (t : Option (List Nat)) (hV : Rst V R D t) => field_any V R D t u hV)
  have HSH : (if isC c = true then shpAt c else shp0) = rSh c := rfl
  rw [HSH] at KS
  clear HSH hq h b0 m0
  generalize rSh c = sh at *
  obtain ⟨nm, sd, sa, sb, sk⟩ := sh
  simp only [Shp.cs] at KS
  obtain ⟨ok, hok⟩ : ∃ ok, ok = isC c := ⟨_, rfl⟩
  rw [← hok] at KS ⊢
  clear hok
  obtain ⟨t0, ht0⟩ : ∃ t0, t0 = (if ok = true then s0 else none) := ⟨_, rfl⟩
  rw [← ht0]
  have HT0 := hid ht0
  clear ht0
  have OWX : Hid (∀ (V1 V2 : World) (t : Option (List Nat)), Rst V1 R D t → W0.grownBy V1 (some R) → Below V1.heap.size V1 V2 → OpW w (V2.alloc (.cells #[.string nm, .int .u8 sd, .int .u8 sa, .int .u8 sb, .int .u8 sk] 63)) R D t V2.heap.size ⟨nm, sd, sa, sb, sk⟩) := hid (fun V1 V2 t hs hg hb => by
    have g1 := gbelow hg hb
    have p2 := box_next HM0.out g1 (by omega)
    have b2 := (Below.refl _ V2).alloc (Nat.le_refl _) (.cells #[.string nm, .int .u8 sd, .int .u8 sa, .int .u8 sb, .int .u8 sk] 63)
    exact ⟨(hs.below hb).below b2, gbelow (gtrans (bgrown HB0.out (some R)) g1) b2, (b2.block _ (lt_of_heap p2)).trans p2, heap_alloc_new V2 _, lt_of_heap p2⟩)
  clear HB0 HM0
  go_enter Tryz.func66, Tryz.ntmps66
  go_upto_region 1 with fail
  rw [← hW0]
  clear hW0
  go_upto_region 3 with (first
    | (go_at_call 65; (refine (Hid.out K1).mono ?_; rintro e w1 ⟨rfl, hs, hg⟩; have HS1 := hid hs; have HG1 := hid hg; clear hs hg))
    | (go_at_call 13; (refine (KS.out w1).mono ?_; rintro e w2 ⟨rfl, hb⟩; have OW := hid (OWX.out w1 w2 s0 HS1.out HG1.out hb); clear hb)))
  obtain ⟨A, hA⟩ : ∃ A, A = w2.alloc (.cells #[.string nm, .int .u8 sd, .int .u8 sa, .int .u8 sb, .int .u8 sk] 63) := ⟨_, rfl⟩
  obtain ⟨X, hX⟩ : ∃ X, X = w2.heap.size := ⟨_, rfl⟩
  rw [← hA, ← hX] at OW
  rw [← hA, ← hX]
  clear hA hX OWX HS1 HG1 K1 KS
  have KT := hid (fun (V : World) (hV : OpW w V R D s0 X ⟨nm, sd, sa, sb, sk⟩) => KFl.out V hV.st)
  clear KFl
  go_upto_if 16 with fail
  go_cut [] from 15 to 18 (fun wc => OpW w wc R D t0 X ⟨nm, sd, sa, sb, sk⟩)
  case first =>
    cases ok with
    | true =>
      have e0 : t0 = s0 := by rw [HT0.out]; rfl
      clear HT0 KF
      go_wp2_with fail
      go_meet
      case rel => (rw [e0]; exact OW.out)
    | false =>
      have e0 : t0 = none := by rw [HT0.out]; rfl
      clear HT0 KF
      go_wp2_with (go_at_call 82; (refine (KT.out _ OW.out).mono ?_; rintro e A2 ⟨⟨r2, rfl⟩, hs, hg⟩; have OW2 := hid (OW.out.next hs hg); clear hs hg))
      go_meet
      case rel => (rw [e0]; exact OW2.out)
  case rest =>
  clear HT0 KT OW
  have OW := hid hcut
  clear hcut
  have KF0 := hid (fun (V : World) (hV : Rst V R D t0) => KF.out V sd t0 hV)
  generalize rFd sd t0 = q1 at *
  obtain ⟨zd, t1⟩ := q1
  simp only at *
  have KF1 := hid (fun (V : World) (hV : Rst V R D t1) => KF.out V sa t1 hV)
  generalize rFd sa t1 = q2 at *
  obtain ⟨za, t2⟩ := q2
  simp only at *
  have KF2 := hid (fun (V : World) (hV : Rst V R D t2) => KF.out V sb t2 hV)
  generalize rFd sb t2 = q3 at *
  obtain ⟨zb, t3⟩ := q3
  simp only at *
  have KF3 := hid (fun (V : World) (hV : Rst V R D t3) => KF.out V sk t3 hV)
  generalize rFd sk t3 = q4 at *
  obtain ⟨zk, t4⟩ := q4
  simp only at *
  clear KF
  have KEEP : Hid (∀ (V : World) (Q : Nat), X ≠ Q → ∀ (x0 x1 x2 x3 x4 : Value), OpW w V R D t4 X ⟨nm, sd, sa, sb, sk⟩ → (fun v : World => v.cell? ⟨X, 1, none⟩ = some (.int .u8 sd) ∧ v.cell? ⟨X, 2, none⟩ = some (.int .u8 sa) ∧ v.cell? ⟨X, 3, none⟩ = some (.int .u8 sb) ∧ v.cell? ⟨X, 4, none⟩ = some (.int .u8 sk)) (Bx5 V Q x0 x1 x2 x3 x4)) := hid (fun V Q hQ x0 x1 x2 x3 x4 ho => by
    obtain ⟨y1, y2, y3, y4⟩ := ho.cells
    have hb : (Bx5 V Q x0 x1 x2 x3 x4).heap[X]? = V.heap[X]? := by
      have g : V.grownBy (Bx5 V Q x0 x1 x2 x3 x4) (some Q) := gtrans (gtrans (gtrans (gtrans (grown_set V Q 0 x0) (grown_set _ Q 1 x1)) (grown_set _ Q 2 x2)) (grown_set _ Q 3 x3)) (grown_set _ Q 4 x4)
      exact g.block _ (lt_of_heap ho.x) (fun e => hQ (by injection e))
    have hx := hb.trans ho.x
    simp only [Shp.cs] at hx
    exact ⟨cellOf hx 1, cellOf hx 2, cellOf hx 3, cellOf hx 4⟩)
  have OPQ : Hid (∀ (V : World) (Q : Nat), X ≠ Q → w.heap.size ≠ Q → Q ≠ R → OpW w V R D t4 X ⟨nm, sd, sa, sb, sk⟩ → V.heap[Q]? = some (.cells #[.int .i64 0, .int .i64 0, .int .i64 0, .int .i64 0, .int .i64 0] 23 (0, 0)) → w.heap.size ≤ Q → OpW w ((((((V.setCell ⟨Q, 0, none⟩ (.int .i64 c)).setCell ⟨Q, 1, none⟩ (.int .i64 zd)).setCell ⟨Q, 2, none⟩ (.int .i64 za)).setCell ⟨Q, 3, none⟩ (.int .i64 zb)).setCell ⟨Q, 4, none⟩ (.int .i64 zk))) R D t4 X ⟨nm, sd, sa, sb, sk⟩ ∧ ((((((V.setCell ⟨Q, 0, none⟩ (.int .i64 c)).setCell ⟨Q, 1, none⟩ (.int .i64 zd)).setCell ⟨Q, 2, none⟩ (.int .i64 za)).setCell ⟨Q, 3, none⟩ (.int .i64 zb)).setCell ⟨Q, 4, none⟩ (.int .i64 zk))).heap[Q]? = some (.cells #[.int .i64 c, .int .i64 zd, .int .i64 za, .int .i64 zb, .int .i64 zk] 23 (0, 0)) ∧ (fun v : World => (v.cell? ⟨Q, 0, none⟩ = some (.int .i64 c) ∧ v.cell? ⟨Q, 1, none⟩ = some (.int .i64 zd) ∧ v.cell? ⟨Q, 2, none⟩ = some (.int .i64 za) ∧ v.cell? ⟨Q, 3, none⟩ = some (.int .i64 zb) ∧ v.cell? ⟨Q, 4, none⟩ = some (.int .i64 zk)) ∧ v.cell? ⟨R, 1, none⟩ = some (.bool t4.isNone)) ((((((V.setCell ⟨Q, 0, none⟩ (.int .i64 c)).setCell ⟨Q, 1, none⟩ (.int .i64 zd)).setCell ⟨Q, 2, none⟩ (.int .i64 za)).setCell ⟨Q, 3, none⟩ (.int .i64 zb)).setCell ⟨Q, 4, none⟩ (.int .i64 zk)))) := hid (fun V Q h1 h2 h3 ho hm hle => by
    obtain ⟨k1, k2⟩ := five_set hm (.int .i64 c) (.int .i64 zd) (.int .i64 za) (.int .i64 zb) (.int .i64 zk)
    have o2 := ho.box hle h1 h2 hDw (.int .i64 c) (.int .i64 zd) (.int .i64 za) (.int .i64 zb) (.int .i64 zk)
    obtain ⟨⟨a, n, cc, hh, _⟩, _⟩ := o2.st
    exact ⟨o2, k1, cell5 k1, cellOf hh 1⟩)
  go_upto_region 5 with fail
  go_cut [7] from 19 to 36 (fun s7 wx => ∃ Q : Nat, s7 = .pointer (some ⟨Q, 0, none⟩) ∧ w.heap.size ≠ Q ∧ w.heap.size ≤ Q ∧ Q ≠ R ∧ OpW w wx R D t4 X ⟨nm, sd, sa, sb, sk⟩ ∧ wx.heap[Q]? = some (.cells #[.int .i64 c, .int .i64 zd, .int .i64 za, .int .i64 zb, .int .i64 zk] 23 (0, 0)))
  case first =>
    have OW := hid (OW.out.below (Below.refl _ _).drew)
    obtain ⟨x1, x2, x3, x4⟩ := OW.out.cells
    refine wp_region_held_drew (S := fun v : World => v.cell? ⟨X, 1, none⟩ = some (.int .u8 sd) ∧ v.cell? ⟨X, 2, none⟩ = some (.int .u8 sa) ∧ v.cell? ⟨X, 3, none⟩ = some (.int .u8 sb) ∧ v.cell? ⟨X, 4, none⟩ = some (.int .u8 sk)) (by kernel_rfl) ⟨x1, x2, x3, x4⟩ (fun hHeld => ?_)
    clear x1 x2 x3 x4
    obtain ⟨V0, hV0⟩ : ∃ V0, V0 = wc.drew := ⟨_, rfl⟩
    rw [← hV0] at OW hHeld
    rw [← hV0]
    clear hV0
    refine wpAnyH_take (i := 0) (oi := { dst := some 19, op := Go.Op.move (Go.Operand.tmp 4), type := 3, pos := "decode.go:120", after := #[], guard := none }) (v := ?_) rfl (by kernel_rfl) (by kernel_rfl) (by kernel_rfl) (fun _ _ _ h => h) (Or.inl ⟨by rfl, ?_⟩) (by assumption) ?_
    rotate_left
    · (intro w hSw; (try dsimp only at hSw); go_simp; (try with_reducible rfl))
    (try simp only [Act.put, List.setIfInBounds_toArray, List.set_cons_zero, List.set_cons_succ])
    refine wpAnyH_take (i := 1) (oi := { dst := some 20, op := Go.Op.move (Go.Operand.tmp 0), type := 96, pos := "decode.go:120", after := #[], guard := none }) (v := ?_) rfl (by kernel_rfl) (by kernel_rfl) (by kernel_rfl) (fun _ _ _ h => h) (Or.inl ⟨by rfl, ?_⟩) (by assumption) ?_
    rotate_left
    · (intro w hSw; (try dsimp only at hSw); go_simp; (try with_reducible rfl))
    (try simp only [Act.put, List.setIfInBounds_toArray, List.set_cons_zero, List.set_cons_succ])
    refine wpAnyH_take (i := 2) (oi := { dst := some 21, op := Go.Op.fieldAddr 63 (Go.Operand.tmp 5) 1, type := 0, pos := "decode.go:120", after := #[], guard := none }) (v := ?_) rfl (by kernel_rfl) (by kernel_rfl) (by kernel_rfl) (fun _ _ _ h => h) (Or.inl ⟨by rfl, ?_⟩) (by assumption) ?_
    rotate_left
    · (intro w hSw; (try dsimp only at hSw); go_simp; (try with_reducible rfl))
    (try simp only [Act.put, List.setIfInBounds_toArray, List.set_cons_zero, List.set_cons_succ])
    refine wpAnyH_take (i := 3) (oi := { dst := some 22, op := Go.Op.load 61 (Go.Operand.tmp 21), type := 61, pos := "decode.go:120", after := #[{ on := 2, ground := Go.Ground.data }], guard := none }) (v := ?_) rfl (by kernel_rfl) (by kernel_rfl) (by kernel_rfl) (fun _ _ _ h => h) (Or.inl ⟨by rfl, ?_⟩) (by assumption) ?_
    rotate_left
    · (intro w hSw; (try dsimp only at hSw); go_simp; (try with_reducible rfl))
    (try simp only [Act.put, List.setIfInBounds_toArray, List.set_cons_zero, List.set_cons_succ])
    refine wpAnyH_take (i := 5) (oi := { dst := some 24, op := Go.Op.move (Go.Operand.tmp 0), type := 96, pos := "decode.go:120", after := #[], guard := none }) (v := ?_) rfl (by kernel_rfl) (by kernel_rfl) (by kernel_rfl) (fun _ _ _ h => h) (Or.inl ⟨by rfl, ?_⟩) (by assumption) ?_
    rotate_left
    · (intro w hSw; (try dsimp only at hSw); go_simp; (try with_reducible rfl))
    (try simp only [Act.put, List.setIfInBounds_toArray, List.set_cons_zero, List.set_cons_succ])
    refine wpAnyH_take (i := 6) (oi := { dst := some 25, op := Go.Op.fieldAddr 63 (Go.Operand.tmp 5) 2, type := 0, pos := "decode.go:120", after := #[], guard := none }) (v := ?_) rfl (by kernel_rfl) (by kernel_rfl) (by kernel_rfl) (fun _ _ _ h => h) (Or.inl ⟨by rfl, ?_⟩) (by assumption) ?_
    rotate_left
    · (intro w hSw; (try dsimp only at hSw); go_simp; (try with_reducible rfl))
    (try simp only [Act.put, List.setIfInBounds_toArray, List.set_cons_zero, List.set_cons_succ])
    refine wpAnyH_take (i := 7) (oi := { dst := some 26, op := Go.Op.load 61 (Go.Operand.tmp 25), type := 61, pos := "decode.go:120", after := #[{ on := 6, ground := Go.Ground.data }], guard := none }) (v := ?_) rfl (by kernel_rfl) (by kernel_rfl) (by kernel_rfl) (fun _ _ _ h => h) (Or.inl ⟨by rfl, ?_⟩) (by assumption) ?_
    rotate_left
    · (intro w hSw; (try dsimp only at hSw); go_simp; (try with_reducible rfl))
    (try simp only [Act.put, List.setIfInBounds_toArray, List.set_cons_zero, List.set_cons_succ])
    refine wpAnyH_take (i := 9) (oi := { dst := some 28, op := Go.Op.move (Go.Operand.tmp 0), type := 96, pos := "decode.go:120", after := #[], guard := none }) (v := ?_) rfl (by kernel_rfl) (by kernel_rfl) (by kernel_rfl) (fun _ _ _ h => h) (Or.inl ⟨by rfl, ?_⟩) (by assumption) ?_
    rotate_left
    · (intro w hSw; (try dsimp only at hSw); go_simp; (try with_reducible rfl))
    (try simp only [Act.put, List.setIfInBounds_toArray, List.set_cons_zero, List.set_cons_succ])
    refine wpAnyH_take (i := 10) (oi := { dst := some 29, op := Go.Op.fieldAddr 63 (Go.Operand.tmp 5) 3, type := 0, pos := "decode.go:120", after := #[], guard := none }) (v := ?_) rfl (by kernel_rfl) (by kernel_rfl) (by kernel_rfl) (fun _ _ _ h => h) (Or.inl ⟨by rfl, ?_⟩) (by assumption) ?_
    rotate_left
    · (intro w hSw; (try dsimp only at hSw); go_simp; (try with_reducible rfl))
    (try simp only [Act.put, List.setIfInBounds_toArray, List.set_cons_zero, List.set_cons_succ])
    refine wpAnyH_take (i := 11) (oi := { dst := some 30, op := Go.Op.load 61 (Go.Operand.tmp 29), type := 61, pos := "decode.go:120", after := #[{ on := 10, ground := Go.Ground.data }], guard := none }) (v := ?_) rfl (by kernel_rfl) (by kernel_rfl) (by kernel_rfl) (fun _ _ _ h => h) (Or.inl ⟨by rfl, ?_⟩) (by assumption) ?_
    rotate_left
    · (intro w hSw; (try dsimp only at hSw); go_simp; (try with_reducible rfl))
    (try simp only [Act.put, List.setIfInBounds_toArray, List.set_cons_zero, List.set_cons_succ])
    refine wpAnyH_take (i := 13) (oi := { dst := some 32, op := Go.Op.move (Go.Operand.tmp 0), type := 96, pos := "decode.go:120", after := #[], guard := none }) (v := ?_) rfl (by kernel_rfl) (by kernel_rfl) (by kernel_rfl) (fun _ _ _ h => h) (Or.inl ⟨by rfl, ?_⟩) (by assumption) ?_
    rotate_left
    · (intro w hSw; (try dsimp only at hSw); go_simp; (try with_reducible rfl))
    (try simp only [Act.put, List.setIfInBounds_toArray, List.set_cons_zero, List.set_cons_succ])
    refine wpAnyH_take (i := 14) (oi := { dst := some 33, op := Go.Op.fieldAddr 63 (Go.Operand.tmp 5) 4, type := 0, pos := "decode.go:120", after := #[], guard := none }) (v := ?_) rfl (by kernel_rfl) (by kernel_rfl) (by kernel_rfl) (fun _ _ _ h => h) (Or.inl ⟨by rfl, ?_⟩) (by assumption) ?_
    rotate_left
    · (intro w hSw; (try dsimp only at hSw); go_simp; (try with_reducible rfl))
    (try simp only [Act.put, List.setIfInBounds_toArray, List.set_cons_zero, List.set_cons_succ])
    refine wpAnyH_take (i := 15) (oi := { dst := some 34, op := Go.Op.load 61 (Go.Operand.tmp 33), type := 61, pos := "decode.go:120", after := #[{ on := 14, ground := Go.Ground.data }], guard := none }) (v := ?_) rfl (by kernel_rfl) (by kernel_rfl) (by kernel_rfl) (fun _ _ _ h => h) (Or.inl ⟨by rfl, ?_⟩) (by assumption) ?_
    rotate_left
    · (intro w hSw; (try dsimp only at hSw); go_simp; (try with_reducible rfl))
    (try simp only [Act.put, List.setIfInBounds_toArray, List.set_cons_zero, List.set_cons_succ])
    refine wpAnyH_ready (rs := [4, 18]) (by kernel_rfl) (by simp) ?_
    refine AllReadyH.cons (o := { dst := some 23, op := Go.Op.call { callee := Go.Callee.value (Go.Operand.func 83), args := #[Go.Operand.tmp 20, Go.Operand.tmp 22], argTypes := #[96, 61] }, type := 3, pos := "decode.go:120", after := #[{ on := 1, ground := Go.Ground.data }, { on := 3, ground := Go.Ground.data }], guard := none }) rfl (fun K hK => ?_) (AllReadyH.cons (o := { dst := some 7, op := Go.Op.alloc 23, type := 0, pos := "decode.go:120", after := #[], guard := none }) rfl (fun K hK => ?_) AllReadyH.nil)
    · skip
      go_simp
      (refine (KF0.out V0 OW.out.st).mono ?_; rintro e V1 ⟨rfl, hs, hg⟩; have OW := hid (OW.out.next hs hg); have sS := OW.out.cells; clear hs hg)
      try go_wp2_with fail
      refine hK.out _ _ sS (fun hHeldN => ?_)
      clear hK K hHeld
      have hHeld := hHeldN
      clear hHeldN
      (try simp only [Act.put, List.setIfInBounds_toArray, List.set_cons_zero, List.set_cons_succ])
      refine wpAnyH_ready (rs := [8, 18]) (by kernel_rfl) (by simp) ?_
      refine AllReadyH.cons (o := { dst := some 27, op := Go.Op.call { callee := Go.Callee.value (Go.Operand.func 83), args := #[Go.Operand.tmp 24, Go.Operand.tmp 26], argTypes := #[96, 61] }, type := 3, pos := "decode.go:120", after := #[{ on := 5, ground := Go.Ground.data }, { on := 7, ground := Go.Ground.data }, { on := 4, ground := Go.Ground.chain }], guard := none }) rfl (fun K hK => ?_) (AllReadyH.cons (o := { dst := some 7, op := Go.Op.alloc 23, type := 0, pos := "decode.go:120", after := #[], guard := none }) rfl (fun K hK => ?_) AllReadyH.nil)
      · skip
        go_simp
        (refine (KF1.out V1 OW.out.st).mono ?_; rintro e V2 ⟨rfl, hs, hg⟩; have OW := hid (OW.out.next hs hg); have sS := OW.out.cells; clear hs hg)
        try go_wp2_with fail
        refine hK.out _ _ sS (fun hHeldN => ?_)
        clear hK K hHeld
        have hHeld := hHeldN
        clear hHeldN
        (try simp only [Act.put, List.setIfInBounds_toArray, List.set_cons_zero, List.set_cons_succ])
        refine wpAnyH_ready (rs := [12, 18]) (by kernel_rfl) (by simp) ?_
        refine AllReadyH.cons (o := { dst := some 31, op := Go.Op.call { callee := Go.Callee.value (Go.Operand.func 83), args := #[Go.Operand.tmp 28, Go.Operand.tmp 30], argTypes := #[96, 61] }, type := 3, pos := "decode.go:120", after := #[{ on := 9, ground := Go.Ground.data }, { on := 11, ground := Go.Ground.data }, { on := 8, ground := Go.Ground.chain }], guard := none }) rfl (fun K hK => ?_) (AllReadyH.cons (o := { dst := some 7, op := Go.Op.alloc 23, type := 0, pos := "decode.go:120", after := #[], guard := none }) rfl (fun K hK => ?_) AllReadyH.nil)
        · skip
          go_simp
          (refine (KF2.out V2 OW.out.st).mono ?_; rintro e V3 ⟨rfl, hs, hg⟩; have OW := hid (OW.out.next hs hg); have sS := OW.out.cells; clear hs hg)
          try go_wp2_with fail
          refine hK.out _ _ sS (fun hHeldN => ?_)
          clear hK K hHeld
          have hHeld := hHeldN
          clear hHeldN
          (try simp only [Act.put, List.setIfInBounds_toArray, List.set_cons_zero, List.set_cons_succ])
          refine wpAnyH_ready (rs := [16, 18]) (by kernel_rfl) (by simp) ?_
          refine AllReadyH.cons (o := { dst := some 35, op := Go.Op.call { callee := Go.Callee.value (Go.Operand.func 83), args := #[Go.Operand.tmp 32, Go.Operand.tmp 34], argTypes := #[96, 61] }, type := 3, pos := "decode.go:120", after := #[{ on := 13, ground := Go.Ground.data }, { on := 15, ground := Go.Ground.data }, { on := 12, ground := Go.Ground.chain }], guard := none }) rfl (fun K hK => ?_) (AllReadyH.cons (o := { dst := some 7, op := Go.Op.alloc 23, type := 0, pos := "decode.go:120", after := #[], guard := none }) rfl (fun K hK => ?_) AllReadyH.nil)
          · skip
            go_simp
            (refine (KF3.out V3 OW.out.st).mono ?_; rintro e V4 ⟨rfl, hs, hg⟩; have OW := hid (OW.out.next hs hg); have sS := OW.out.cells; clear hs hg)
            try go_wp2_with fail
            refine hK.out _ _ sS (fun hHeldN => ?_)
            clear hK K hHeld
            have hHeld := hHeldN
            clear hHeldN
            (try simp only [Act.put, List.setIfInBounds_toArray, List.set_cons_zero, List.set_cons_succ])
            refine wpAnyH_take (i := 17) (oi := { dst := some 36, op := Go.Op.build 23 #[(0, Go.Operand.tmp 19), (1, Go.Operand.tmp 23), (2, Go.Operand.tmp 27), (3, Go.Operand.tmp 31), (4, Go.Operand.tmp 35)], type := 23, pos := "decode.go:120", after := #[{ on := 0, ground := Go.Ground.data }, { on := 4, ground := Go.Ground.data }, { on := 8, ground := Go.Ground.data }, { on := 12, ground := Go.Ground.data }, { on := 16, ground := Go.Ground.data }], guard := none }) (v := ?_) rfl (by kernel_rfl) (by kernel_rfl) (by kernel_rfl) (fun _ _ _ h => h) (Or.inl ⟨by rfl, ?_⟩) (by assumption) ?_
            rotate_left
            · (intro w hSw; (try dsimp only at hSw); go_simp; (try with_reducible rfl))
            (try simp only [Act.put, List.setIfInBounds_toArray, List.set_cons_zero, List.set_cons_succ])
            refine wpAnyH_ready (rs := [18]) (by kernel_rfl) (by simp) ?_
            refine AllReadyH.cons (o := { dst := some 7, op := Go.Op.alloc 23, type := 0, pos := "decode.go:120", after := #[], guard := none }) rfl (fun K hK => ?_) AllReadyH.nil
            · skip
              go_simp
              refine hK.out _ _ (OW.out.below ((Below.refl _ _).alloc (Nat.le_refl _) _)).cells (fun hHeldN => ?_)
              clear hK K hHeld
              have hHeld := hHeldN
              clear hHeldN
              (try simp only [Act.put, List.setIfInBounds_toArray, List.set_cons_zero, List.set_cons_succ])
              obtain ⟨V, hV⟩ : ∃ V, V = V4.alloc (.cells #[.int .i64 0, .int .i64 0, .int .i64 0, .int .i64 0, .int .i64 0] 23) := ⟨_, rfl⟩
              obtain ⟨Q, hQ⟩ : ∃ Q, Q = V4.heap.size := ⟨_, rfl⟩
              have mQ : V.heap[Q]? = some (.cells #[.int .i64 0, .int .i64 0, .int .i64 0, .int .i64 0, .int .i64 0] 23 (0, 0)) := by rw [hV, hQ]; exact heap_alloc_new _ _
              have hQR : Q ≠ R := by have h1 := OW.out.st.hR; have h2 := OW.out.st.hD; omega
              have hQP : w.heap.size ≠ Q := by have h1 := lt_of_heap OW.out.p; omega
              have hQle : w.heap.size ≤ Q := by have h1 := lt_of_heap OW.out.p; omega
              have hQX : X ≠ Q := by have h1 := lt_of_heap OW.out.x; omega
              have OW := hid (OW.out.below (V' := V) (by rw [hV]; exact (Below.refl _ _).alloc (Nat.le_refl _) _))
              rw [← hV] at hHeld
              rw [← hV, ← hQ]
              clear hV hQ
              obtain ⟨V4, hV⟩ : ∃ V0, V0 = V := ⟨_, rfl⟩
              subst hV
              refine wpAnyH_ready (rs := [19]) (by kernel_rfl) (by simp) ?_
              refine AllReadyH.cons (o := { dst := none, op := Go.Op.store 23 (Go.Operand.tmp 7) (Go.Operand.tmp 36), type := 0, pos := "decode.go:120", after := #[{ on := 18, ground := Go.Ground.data }, { on := 17, ground := Go.Ground.data }, { on := 16, ground := Go.Ground.chain }, { on := 0, ground := Go.Ground.phase }, { on := 1, ground := Go.Ground.phase }, { on := 2, ground := Go.Ground.phase }, { on := 3, ground := Go.Ground.phase }, { on := 4, ground := Go.Ground.phase }, { on := 5, ground := Go.Ground.phase }, { on := 6, ground := Go.Ground.phase }, { on := 7, ground := Go.Ground.phase }, { on := 8, ground := Go.Ground.phase }, { on := 9, ground := Go.Ground.phase }, { on := 10, ground := Go.Ground.phase }, { on := 11, ground := Go.Ground.phase }, { on := 12, ground := Go.Ground.phase }, { on := 13, ground := Go.Ground.phase }, { on := 14, ground := Go.Ground.phase }, { on := 15, ground := Go.Ground.phase }, { on := 16, ground := Go.Ground.phase }, { on := 17, ground := Go.Ground.phase }, { on := 18, ground := Go.Ground.phase }], guard := none }) rfl (fun K hK => ?_) AllReadyH.nil
              · skip
                obtain ⟨m0, m1, m2, m3, m4⟩ := cell5 mQ
                obtain ⟨n0, n1, n2, n3, n4⟩ := free5 mQ
                have hQX2 : Q ≠ X := hQX.symm
                go_simp
                refine hK.out _ _ (KEEP.out V4 Q hQX (.int .i64 c) (.int .i64 zd) (.int .i64 za) (.int .i64 zb) (.int .i64 zk) OW.out) (fun hHeldN => ?_)
                clear hK K hHeld
                have hHeld := hHeldN
                clear hHeldN
                (try simp only [Act.put, List.setIfInBounds_toArray, List.set_cons_zero, List.set_cons_succ])
                clear m0 m1 m2 m3 m4 n0 n1 n2 n3 n4
                refine wpAnyH_done (by kernel_rfl) ?_ _
                have OQ := OPQ.out V4 Q hQX hQP hQR OW.out mQ hQle
                have OQ := hid OQ
                clear mQ OW hHeld OPQ KEEP
                (try go_wp2_with fail)
                go_meet
                case rel => exact ⟨Q, rfl, hQP, hQle, hQR, OQ.out.1, OQ.out.2.1⟩

          · skip
            go_simp
            refine hK.out _ _ (OW.out.below ((Below.refl _ _).alloc (Nat.le_refl _) _)).cells (fun hHeldN => ?_)
            clear hK K hHeld
            have hHeld := hHeldN
            clear hHeldN
            (try simp only [Act.put, List.setIfInBounds_toArray, List.set_cons_zero, List.set_cons_succ])
            obtain ⟨V, hV⟩ : ∃ V, V = V3.alloc (.cells #[.int .i64 0, .int .i64 0, .int .i64 0, .int .i64 0, .int .i64 0] 23) := ⟨_, rfl⟩
            obtain ⟨Q, hQ⟩ : ∃ Q, Q = V3.heap.size := ⟨_, rfl⟩
            have mQ : V.heap[Q]? = some (.cells #[.int .i64 0, .int .i64 0, .int .i64 0, .int .i64 0, .int .i64 0] 23 (0, 0)) := by rw [hV, hQ]; exact heap_alloc_new _ _
            have hQR : Q ≠ R := by have h1 := OW.out.st.hR; have h2 := OW.out.st.hD; omega
            have hQP : w.heap.size ≠ Q := by have h1 := lt_of_heap OW.out.p; omega
            have hQle : w.heap.size ≤ Q := by have h1 := lt_of_heap OW.out.p; omega
            have hQX : X ≠ Q := by have h1 := lt_of_heap OW.out.x; omega
            have OW := hid (OW.out.below (V' := V) (by rw [hV]; exact (Below.refl _ _).alloc (Nat.le_refl _) _))
            rw [← hV] at hHeld
            rw [← hV, ← hQ]
            clear hV hQ
            obtain ⟨V3, hV⟩ : ∃ V0, V0 = V := ⟨_, rfl⟩
            subst hV
            refine wpAnyH_ready (rs := [16]) (by kernel_rfl) (by simp) ?_
            refine AllReadyH.cons (o := { dst := some 35, op := Go.Op.call { callee := Go.Callee.value (Go.Operand.func 83), args := #[Go.Operand.tmp 32, Go.Operand.tmp 34], argTypes := #[96, 61] }, type := 3, pos := "decode.go:120", after := #[{ on := 13, ground := Go.Ground.data }, { on := 15, ground := Go.Ground.data }, { on := 12, ground := Go.Ground.chain }], guard := none }) rfl (fun K hK => ?_) AllReadyH.nil
            · skip
              go_simp
              (refine (KF3.out V3 OW.out.st).mono ?_; rintro e V4 ⟨rfl, hs, hg⟩; have OW := hid (OW.out.next hs hg); have mQ := box_next mQ hg hQR; have sS := OW.out.cells; clear hs hg)
              try go_wp2_with fail
              refine hK.out _ _ sS (fun hHeldN => ?_)
              clear hK K hHeld
              have hHeld := hHeldN
              clear hHeldN
              (try simp only [Act.put, List.setIfInBounds_toArray, List.set_cons_zero, List.set_cons_succ])
              refine wpAnyH_take (i := 17) (oi := { dst := some 36, op := Go.Op.build 23 #[(0, Go.Operand.tmp 19), (1, Go.Operand.tmp 23), (2, Go.Operand.tmp 27), (3, Go.Operand.tmp 31), (4, Go.Operand.tmp 35)], type := 23, pos := "decode.go:120", after := #[{ on := 0, ground := Go.Ground.data }, { on := 4, ground := Go.Ground.data }, { on := 8, ground := Go.Ground.data }, { on := 12, ground := Go.Ground.data }, { on := 16, ground := Go.Ground.data }], guard := none }) (v := ?_) rfl (by kernel_rfl) (by kernel_rfl) (by kernel_rfl) (fun _ _ _ h => h) (Or.inl ⟨by rfl, ?_⟩) (by assumption) ?_
              rotate_left
              · (intro w hSw; (try dsimp only at hSw); go_simp; (try with_reducible rfl))
              (try simp only [Act.put, List.setIfInBounds_toArray, List.set_cons_zero, List.set_cons_succ])
              refine wpAnyH_ready (rs := [19]) (by kernel_rfl) (by simp) ?_
              refine AllReadyH.cons (o := { dst := none, op := Go.Op.store 23 (Go.Operand.tmp 7) (Go.Operand.tmp 36), type := 0, pos := "decode.go:120", after := #[{ on := 18, ground := Go.Ground.data }, { on := 17, ground := Go.Ground.data }, { on := 16, ground := Go.Ground.chain }, { on := 0, ground := Go.Ground.phase }, { on := 1, ground := Go.Ground.phase }, { on := 2, ground := Go.Ground.phase }, { on := 3, ground := Go.Ground.phase }, { on := 4, ground := Go.Ground.phase }, { on := 5, ground := Go.Ground.phase }, { on := 6, ground := Go.Ground.phase }, { on := 7, ground := Go.Ground.phase }, { on := 8, ground := Go.Ground.phase }, { on := 9, ground := Go.Ground.phase }, { on := 10, ground := Go.Ground.phase }, { on := 11, ground := Go.Ground.phase }, { on := 12, ground := Go.Ground.phase }, { on := 13, ground := Go.Ground.phase }, { on := 14, ground := Go.Ground.phase }, { on := 15, ground := Go.Ground.phase }, { on := 16, ground := Go.Ground.phase }, { on := 17, ground := Go.Ground.phase }, { on := 18, ground := Go.Ground.phase }], guard := none }) rfl (fun K hK => ?_) AllReadyH.nil
              · skip
                obtain ⟨m0, m1, m2, m3, m4⟩ := cell5 mQ
                obtain ⟨n0, n1, n2, n3, n4⟩ := free5 mQ
                have hQX2 : Q ≠ X := hQX.symm
                go_simp
                refine hK.out _ _ (KEEP.out V4 Q hQX (.int .i64 c) (.int .i64 zd) (.int .i64 za) (.int .i64 zb) (.int .i64 zk) OW.out) (fun hHeldN => ?_)
                clear hK K hHeld
                have hHeld := hHeldN
                clear hHeldN
                (try simp only [Act.put, List.setIfInBounds_toArray, List.set_cons_zero, List.set_cons_succ])
                clear m0 m1 m2 m3 m4 n0 n1 n2 n3 n4
                refine wpAnyH_done (by kernel_rfl) ?_ _
                have OQ := OPQ.out V4 Q hQX hQP hQR OW.out mQ hQle
                have OQ := hid OQ
                clear mQ OW hHeld OPQ KEEP
                (try go_wp2_with fail)
                go_meet
                case rel => exact ⟨Q, rfl, hQP, hQle, hQR, OQ.out.1, OQ.out.2.1⟩

        · skip
          go_simp
          refine hK.out _ _ (OW.out.below ((Below.refl _ _).alloc (Nat.le_refl _) _)).cells (fun hHeldN => ?_)
          clear hK K hHeld
          have hHeld := hHeldN
          clear hHeldN
          (try simp only [Act.put, List.setIfInBounds_toArray, List.set_cons_zero, List.set_cons_succ])
          obtain ⟨V, hV⟩ : ∃ V, V = V2.alloc (.cells #[.int .i64 0, .int .i64 0, .int .i64 0, .int .i64 0, .int .i64 0] 23) := ⟨_, rfl⟩
          obtain ⟨Q, hQ⟩ : ∃ Q, Q = V2.heap.size := ⟨_, rfl⟩
          have mQ : V.heap[Q]? = some (.cells #[.int .i64 0, .int .i64 0, .int .i64 0, .int .i64 0, .int .i64 0] 23 (0, 0)) := by rw [hV, hQ]; exact heap_alloc_new _ _
          have hQR : Q ≠ R := by have h1 := OW.out.st.hR; have h2 := OW.out.st.hD; omega
          have hQP : w.heap.size ≠ Q := by have h1 := lt_of_heap OW.out.p; omega
          have hQle : w.heap.size ≤ Q := by have h1 := lt_of_heap OW.out.p; omega
          have hQX : X ≠ Q := by have h1 := lt_of_heap OW.out.x; omega
          have OW := hid (OW.out.below (V' := V) (by rw [hV]; exact (Below.refl _ _).alloc (Nat.le_refl _) _))
          rw [← hV] at hHeld
          rw [← hV, ← hQ]
          clear hV hQ
          obtain ⟨V2, hV⟩ : ∃ V0, V0 = V := ⟨_, rfl⟩
          subst hV
          refine wpAnyH_ready (rs := [12]) (by kernel_rfl) (by simp) ?_
          refine AllReadyH.cons (o := { dst := some 31, op := Go.Op.call { callee := Go.Callee.value (Go.Operand.func 83), args := #[Go.Operand.tmp 28, Go.Operand.tmp 30], argTypes := #[96, 61] }, type := 3, pos := "decode.go:120", after := #[{ on := 9, ground := Go.Ground.data }, { on := 11, ground := Go.Ground.data }, { on := 8, ground := Go.Ground.chain }], guard := none }) rfl (fun K hK => ?_) AllReadyH.nil
          · skip
            go_simp
            (refine (KF2.out V2 OW.out.st).mono ?_; rintro e V3 ⟨rfl, hs, hg⟩; have OW := hid (OW.out.next hs hg); have mQ := box_next mQ hg hQR; have sS := OW.out.cells; clear hs hg)
            try go_wp2_with fail
            refine hK.out _ _ sS (fun hHeldN => ?_)
            clear hK K hHeld
            have hHeld := hHeldN
            clear hHeldN
            (try simp only [Act.put, List.setIfInBounds_toArray, List.set_cons_zero, List.set_cons_succ])
            refine wpAnyH_ready (rs := [16]) (by kernel_rfl) (by simp) ?_
            refine AllReadyH.cons (o := { dst := some 35, op := Go.Op.call { callee := Go.Callee.value (Go.Operand.func 83), args := #[Go.Operand.tmp 32, Go.Operand.tmp 34], argTypes := #[96, 61] }, type := 3, pos := "decode.go:120", after := #[{ on := 13, ground := Go.Ground.data }, { on := 15, ground := Go.Ground.data }, { on := 12, ground := Go.Ground.chain }], guard := none }) rfl (fun K hK => ?_) AllReadyH.nil
            · skip
              go_simp
              (refine (KF3.out V3 OW.out.st).mono ?_; rintro e V4 ⟨rfl, hs, hg⟩; have OW := hid (OW.out.next hs hg); have mQ := box_next mQ hg hQR; have sS := OW.out.cells; clear hs hg)
              try go_wp2_with fail
              refine hK.out _ _ sS (fun hHeldN => ?_)
              clear hK K hHeld
              have hHeld := hHeldN
              clear hHeldN
              (try simp only [Act.put, List.setIfInBounds_toArray, List.set_cons_zero, List.set_cons_succ])
              refine wpAnyH_take (i := 17) (oi := { dst := some 36, op := Go.Op.build 23 #[(0, Go.Operand.tmp 19), (1, Go.Operand.tmp 23), (2, Go.Operand.tmp 27), (3, Go.Operand.tmp 31), (4, Go.Operand.tmp 35)], type := 23, pos := "decode.go:120", after := #[{ on := 0, ground := Go.Ground.data }, { on := 4, ground := Go.Ground.data }, { on := 8, ground := Go.Ground.data }, { on := 12, ground := Go.Ground.data }, { on := 16, ground := Go.Ground.data }], guard := none }) (v := ?_) rfl (by kernel_rfl) (by kernel_rfl) (by kernel_rfl) (fun _ _ _ h => h) (Or.inl ⟨by rfl, ?_⟩) (by assumption) ?_
              rotate_left
              · (intro w hSw; (try dsimp only at hSw); go_simp; (try with_reducible rfl))
              (try simp only [Act.put, List.setIfInBounds_toArray, List.set_cons_zero, List.set_cons_succ])
              refine wpAnyH_ready (rs := [19]) (by kernel_rfl) (by simp) ?_
              refine AllReadyH.cons (o := { dst := none, op := Go.Op.store 23 (Go.Operand.tmp 7) (Go.Operand.tmp 36), type := 0, pos := "decode.go:120", after := #[{ on := 18, ground := Go.Ground.data }, { on := 17, ground := Go.Ground.data }, { on := 16, ground := Go.Ground.chain }, { on := 0, ground := Go.Ground.phase }, { on := 1, ground := Go.Ground.phase }, { on := 2, ground := Go.Ground.phase }, { on := 3, ground := Go.Ground.phase }, { on := 4, ground := Go.Ground.phase }, { on := 5, ground := Go.Ground.phase }, { on := 6, ground := Go.Ground.phase }, { on := 7, ground := Go.Ground.phase }, { on := 8, ground := Go.Ground.phase }, { on := 9, ground := Go.Ground.phase }, { on := 10, ground := Go.Ground.phase }, { on := 11, ground := Go.Ground.phase }, { on := 12, ground := Go.Ground.phase }, { on := 13, ground := Go.Ground.phase }, { on := 14, ground := Go.Ground.phase }, { on := 15, ground := Go.Ground.phase }, { on := 16, ground := Go.Ground.phase }, { on := 17, ground := Go.Ground.phase }, { on := 18, ground := Go.Ground.phase }], guard := none }) rfl (fun K hK => ?_) AllReadyH.nil
              · skip
                obtain ⟨m0, m1, m2, m3, m4⟩ := cell5 mQ
                obtain ⟨n0, n1, n2, n3, n4⟩ := free5 mQ
                have hQX2 : Q ≠ X := hQX.symm
                go_simp
                refine hK.out _ _ (KEEP.out V4 Q hQX (.int .i64 c) (.int .i64 zd) (.int .i64 za) (.int .i64 zb) (.int .i64 zk) OW.out) (fun hHeldN => ?_)
                clear hK K hHeld
                have hHeld := hHeldN
                clear hHeldN
                (try simp only [Act.put, List.setIfInBounds_toArray, List.set_cons_zero, List.set_cons_succ])
                clear m0 m1 m2 m3 m4 n0 n1 n2 n3 n4
                refine wpAnyH_done (by kernel_rfl) ?_ _
                have OQ := OPQ.out V4 Q hQX hQP hQR OW.out mQ hQle
                have OQ := hid OQ
                clear mQ OW hHeld OPQ KEEP
                (try go_wp2_with fail)
                go_meet
                case rel => exact ⟨Q, rfl, hQP, hQle, hQR, OQ.out.1, OQ.out.2.1⟩

      · skip
        go_simp
        refine hK.out _ _ (OW.out.below ((Below.refl _ _).alloc (Nat.le_refl _) _)).cells (fun hHeldN => ?_)
        clear hK K hHeld
        have hHeld := hHeldN
        clear hHeldN
        (try simp only [Act.put, List.setIfInBounds_toArray, List.set_cons_zero, List.set_cons_succ])
        obtain ⟨V, hV⟩ : ∃ V, V = V1.alloc (.cells #[.int .i64 0, .int .i64 0, .int .i64 0, .int .i64 0, .int .i64 0] 23) := ⟨_, rfl⟩
        obtain ⟨Q, hQ⟩ : ∃ Q, Q = V1.heap.size := ⟨_, rfl⟩
        have mQ : V.heap[Q]? = some (.cells #[.int .i64 0, .int .i64 0, .int .i64 0, .int .i64 0, .int .i64 0] 23 (0, 0)) := by rw [hV, hQ]; exact heap_alloc_new _ _
        have hQR : Q ≠ R := by have h1 := OW.out.st.hR; have h2 := OW.out.st.hD; omega
        have hQP : w.heap.size ≠ Q := by have h1 := lt_of_heap OW.out.p; omega
        have hQle : w.heap.size ≤ Q := by have h1 := lt_of_heap OW.out.p; omega
        have hQX : X ≠ Q := by have h1 := lt_of_heap OW.out.x; omega
        have OW := hid (OW.out.below (V' := V) (by rw [hV]; exact (Below.refl _ _).alloc (Nat.le_refl _) _))
        rw [← hV] at hHeld
        rw [← hV, ← hQ]
        clear hV hQ
        obtain ⟨V1, hV⟩ : ∃ V0, V0 = V := ⟨_, rfl⟩
        subst hV
        refine wpAnyH_ready (rs := [8]) (by kernel_rfl) (by simp) ?_
        refine AllReadyH.cons (o := { dst := some 27, op := Go.Op.call { callee := Go.Callee.value (Go.Operand.func 83), args := #[Go.Operand.tmp 24, Go.Operand.tmp 26], argTypes := #[96, 61] }, type := 3, pos := "decode.go:120", after := #[{ on := 5, ground := Go.Ground.data }, { on := 7, ground := Go.Ground.data }, { on := 4, ground := Go.Ground.chain }], guard := none }) rfl (fun K hK => ?_) AllReadyH.nil
        · skip
          go_simp
          (refine (KF1.out V1 OW.out.st).mono ?_; rintro e V2 ⟨rfl, hs, hg⟩; have OW := hid (OW.out.next hs hg); have mQ := box_next mQ hg hQR; have sS := OW.out.cells; clear hs hg)
          try go_wp2_with fail
          refine hK.out _ _ sS (fun hHeldN => ?_)
          clear hK K hHeld
          have hHeld := hHeldN
          clear hHeldN
          (try simp only [Act.put, List.setIfInBounds_toArray, List.set_cons_zero, List.set_cons_succ])
          refine wpAnyH_ready (rs := [12]) (by kernel_rfl) (by simp) ?_
          refine AllReadyH.cons (o := { dst := some 31, op := Go.Op.call { callee := Go.Callee.value (Go.Operand.func 83), args := #[Go.Operand.tmp 28, Go.Operand.tmp 30], argTypes := #[96, 61] }, type := 3, pos := "decode.go:120", after := #[{ on := 9, ground := Go.Ground.data }, { on := 11, ground := Go.Ground.data }, { on := 8, ground := Go.Ground.chain }], guard := none }) rfl (fun K hK => ?_) AllReadyH.nil
          · skip
            go_simp
            (refine (KF2.out V2 OW.out.st).mono ?_; rintro e V3 ⟨rfl, hs, hg⟩; have OW := hid (OW.out.next hs hg); have mQ := box_next mQ hg hQR; have sS := OW.out.cells; clear hs hg)
            try go_wp2_with fail
            refine hK.out _ _ sS (fun hHeldN => ?_)
            clear hK K hHeld
            have hHeld := hHeldN
            clear hHeldN
            (try simp only [Act.put, List.setIfInBounds_toArray, List.set_cons_zero, List.set_cons_succ])
            refine wpAnyH_ready (rs := [16]) (by kernel_rfl) (by simp) ?_
            refine AllReadyH.cons (o := { dst := some 35, op := Go.Op.call { callee := Go.Callee.value (Go.Operand.func 83), args := #[Go.Operand.tmp 32, Go.Operand.tmp 34], argTypes := #[96, 61] }, type := 3, pos := "decode.go:120", after := #[{ on := 13, ground := Go.Ground.data }, { on := 15, ground := Go.Ground.data }, { on := 12, ground := Go.Ground.chain }], guard := none }) rfl (fun K hK => ?_) AllReadyH.nil
            · skip
              go_simp
              (refine (KF3.out V3 OW.out.st).mono ?_; rintro e V4 ⟨rfl, hs, hg⟩; have OW := hid (OW.out.next hs hg); have mQ := box_next mQ hg hQR; have sS := OW.out.cells; clear hs hg)
              try go_wp2_with fail
              refine hK.out _ _ sS (fun hHeldN => ?_)
              clear hK K hHeld
              have hHeld := hHeldN
              clear hHeldN
              (try simp only [Act.put, List.setIfInBounds_toArray, List.set_cons_zero, List.set_cons_succ])
              refine wpAnyH_take (i := 17) (oi := { dst := some 36, op := Go.Op.build 23 #[(0, Go.Operand.tmp 19), (1, Go.Operand.tmp 23), (2, Go.Operand.tmp 27), (3, Go.Operand.tmp 31), (4, Go.Operand.tmp 35)], type := 23, pos := "decode.go:120", after := #[{ on := 0, ground := Go.Ground.data }, { on := 4, ground := Go.Ground.data }, { on := 8, ground := Go.Ground.data }, { on := 12, ground := Go.Ground.data }, { on := 16, ground := Go.Ground.data }], guard := none }) (v := ?_) rfl (by kernel_rfl) (by kernel_rfl) (by kernel_rfl) (fun _ _ _ h => h) (Or.inl ⟨by rfl, ?_⟩) (by assumption) ?_
              rotate_left
              · (intro w hSw; (try dsimp only at hSw); go_simp; (try with_reducible rfl))
              (try simp only [Act.put, List.setIfInBounds_toArray, List.set_cons_zero, List.set_cons_succ])
              refine wpAnyH_ready (rs := [19]) (by kernel_rfl) (by simp) ?_
              refine AllReadyH.cons (o := { dst := none, op := Go.Op.store 23 (Go.Operand.tmp 7) (Go.Operand.tmp 36), type := 0, pos := "decode.go:120", after := #[{ on := 18, ground := Go.Ground.data }, { on := 17, ground := Go.Ground.data }, { on := 16, ground := Go.Ground.chain }, { on := 0, ground := Go.Ground.phase }, { on := 1, ground := Go.Ground.phase }, { on := 2, ground := Go.Ground.phase }, { on := 3, ground := Go.Ground.phase }, { on := 4, ground := Go.Ground.phase }, { on := 5, ground := Go.Ground.phase }, { on := 6, ground := Go.Ground.phase }, { on := 7, ground := Go.Ground.phase }, { on := 8, ground := Go.Ground.phase }, { on := 9, ground := Go.Ground.phase }, { on := 10, ground := Go.Ground.phase }, { on := 11, ground := Go.Ground.phase }, { on := 12, ground := Go.Ground.phase }, { on := 13, ground := Go.Ground.phase }, { on := 14, ground := Go.Ground.phase }, { on := 15, ground := Go.Ground.phase }, { on := 16, ground := Go.Ground.phase }, { on := 17, ground := Go.Ground.phase }, { on := 18, ground := Go.Ground.phase }], guard := none }) rfl (fun K hK => ?_) AllReadyH.nil
              · skip
                obtain ⟨m0, m1, m2, m3, m4⟩ := cell5 mQ
                obtain ⟨n0, n1, n2, n3, n4⟩ := free5 mQ
                have hQX2 : Q ≠ X := hQX.symm
                go_simp
                refine hK.out _ _ (KEEP.out V4 Q hQX (.int .i64 c) (.int .i64 zd) (.int .i64 za) (.int .i64 zb) (.int .i64 zk) OW.out) (fun hHeldN => ?_)
                clear hK K hHeld
                have hHeld := hHeldN
                clear hHeldN
                (try simp only [Act.put, List.setIfInBounds_toArray, List.set_cons_zero, List.set_cons_succ])
                clear m0 m1 m2 m3 m4 n0 n1 n2 n3 n4
                refine wpAnyH_done (by kernel_rfl) ?_ _
                have OQ := OPQ.out V4 Q hQX hQP hQR OW.out mQ hQle
                have OQ := hid OQ
                clear mQ OW hHeld OPQ KEEP
                (try go_wp2_with fail)
                go_meet
                case rel => exact ⟨Q, rfl, hQP, hQle, hQR, OQ.out.1, OQ.out.2.1⟩

    · skip
      go_simp
      refine hK.out _ _ (OW.out.below ((Below.refl _ _).alloc (Nat.le_refl _) _)).cells (fun hHeldN => ?_)
      clear hK K hHeld
      have hHeld := hHeldN
      clear hHeldN
      (try simp only [Act.put, List.setIfInBounds_toArray, List.set_cons_zero, List.set_cons_succ])
      obtain ⟨V, hV⟩ : ∃ V, V = V0.alloc (.cells #[.int .i64 0, .int .i64 0, .int .i64 0, .int .i64 0, .int .i64 0] 23) := ⟨_, rfl⟩
      obtain ⟨Q, hQ⟩ : ∃ Q, Q = V0.heap.size := ⟨_, rfl⟩
      have mQ : V.heap[Q]? = some (.cells #[.int .i64 0, .int .i64 0, .int .i64 0, .int .i64 0, .int .i64 0] 23 (0, 0)) := by rw [hV, hQ]; exact heap_alloc_new _ _
      have hQR : Q ≠ R := by have h1 := OW.out.st.hR; have h2 := OW.out.st.hD; omega
      have hQP : w.heap.size ≠ Q := by have h1 := lt_of_heap OW.out.p; omega
      have hQle : w.heap.size ≤ Q := by have h1 := lt_of_heap OW.out.p; omega
      have hQX : X ≠ Q := by have h1 := lt_of_heap OW.out.x; omega
      have OW := hid (OW.out.below (V' := V) (by rw [hV]; exact (Below.refl _ _).alloc (Nat.le_refl _) _))
      rw [← hV] at hHeld
      rw [← hV, ← hQ]
      clear hV hQ
      obtain ⟨V0, hV⟩ : ∃ V0, V0 = V := ⟨_, rfl⟩
      subst hV
      refine wpAnyH_ready (rs := [4]) (by kernel_rfl) (by simp) ?_
      refine AllReadyH.cons (o := { dst := some 23, op := Go.Op.call { callee := Go.Callee.value (Go.Operand.func 83), args := #[Go.Operand.tmp 20, Go.Operand.tmp 22], argTypes := #[96, 61] }, type := 3, pos := "decode.go:120", after := #[{ on := 1, ground := Go.Ground.data }, { on := 3, ground := Go.Ground.data }], guard := none }) rfl (fun K hK => ?_) AllReadyH.nil
      · skip
        go_simp
        (refine (KF0.out V0 OW.out.st).mono ?_; rintro e V1 ⟨rfl, hs, hg⟩; have OW := hid (OW.out.next hs hg); have mQ := box_next mQ hg hQR; have sS := OW.out.cells; clear hs hg)
        try go_wp2_with fail
        refine hK.out _ _ sS (fun hHeldN => ?_)
        clear hK K hHeld
        have hHeld := hHeldN
        clear hHeldN
        (try simp only [Act.put, List.setIfInBounds_toArray, List.set_cons_zero, List.set_cons_succ])
        refine wpAnyH_ready (rs := [8]) (by kernel_rfl) (by simp) ?_
        refine AllReadyH.cons (o := { dst := some 27, op := Go.Op.call { callee := Go.Callee.value (Go.Operand.func 83), args := #[Go.Operand.tmp 24, Go.Operand.tmp 26], argTypes := #[96, 61] }, type := 3, pos := "decode.go:120", after := #[{ on := 5, ground := Go.Ground.data }, { on := 7, ground := Go.Ground.data }, { on := 4, ground := Go.Ground.chain }], guard := none }) rfl (fun K hK => ?_) AllReadyH.nil
        · skip
          go_simp
          (refine (KF1.out V1 OW.out.st).mono ?_; rintro e V2 ⟨rfl, hs, hg⟩; have OW := hid (OW.out.next hs hg); have mQ := box_next mQ hg hQR; have sS := OW.out.cells; clear hs hg)
          try go_wp2_with fail
          refine hK.out _ _ sS (fun hHeldN => ?_)
          clear hK K hHeld
          have hHeld := hHeldN
          clear hHeldN
          (try simp only [Act.put, List.setIfInBounds_toArray, List.set_cons_zero, List.set_cons_succ])
          refine wpAnyH_ready (rs := [12]) (by kernel_rfl) (by simp) ?_
          refine AllReadyH.cons (o := { dst := some 31, op := Go.Op.call { callee := Go.Callee.value (Go.Operand.func 83), args := #[Go.Operand.tmp 28, Go.Operand.tmp 30], argTypes := #[96, 61] }, type := 3, pos := "decode.go:120", after := #[{ on := 9, ground := Go.Ground.data }, { on := 11, ground := Go.Ground.data }, { on := 8, ground := Go.Ground.chain }], guard := none }) rfl (fun K hK => ?_) AllReadyH.nil
          · skip
            go_simp
            (refine (KF2.out V2 OW.out.st).mono ?_; rintro e V3 ⟨rfl, hs, hg⟩; have OW := hid (OW.out.next hs hg); have mQ := box_next mQ hg hQR; have sS := OW.out.cells; clear hs hg)
            try go_wp2_with fail
            refine hK.out _ _ sS (fun hHeldN => ?_)
            clear hK K hHeld
            have hHeld := hHeldN
            clear hHeldN
            (try simp only [Act.put, List.setIfInBounds_toArray, List.set_cons_zero, List.set_cons_succ])
            refine wpAnyH_ready (rs := [16]) (by kernel_rfl) (by simp) ?_
            refine AllReadyH.cons (o := { dst := some 35, op := Go.Op.call { callee := Go.Callee.value (Go.Operand.func 83), args := #[Go.Operand.tmp 32, Go.Operand.tmp 34], argTypes := #[96, 61] }, type := 3, pos := "decode.go:120", after := #[{ on := 13, ground := Go.Ground.data }, { on := 15, ground := Go.Ground.data }, { on := 12, ground := Go.Ground.chain }], guard := none }) rfl (fun K hK => ?_) AllReadyH.nil
            · skip
              go_simp
              (refine (KF3.out V3 OW.out.st).mono ?_; rintro e V4 ⟨rfl, hs, hg⟩; have OW := hid (OW.out.next hs hg); have mQ := box_next mQ hg hQR; have sS := OW.out.cells; clear hs hg)
              try go_wp2_with fail
              refine hK.out _ _ sS (fun hHeldN => ?_)
              clear hK K hHeld
              have hHeld := hHeldN
              clear hHeldN
              (try simp only [Act.put, List.setIfInBounds_toArray, List.set_cons_zero, List.set_cons_succ])
              refine wpAnyH_take (i := 17) (oi := { dst := some 36, op := Go.Op.build 23 #[(0, Go.Operand.tmp 19), (1, Go.Operand.tmp 23), (2, Go.Operand.tmp 27), (3, Go.Operand.tmp 31), (4, Go.Operand.tmp 35)], type := 23, pos := "decode.go:120", after := #[{ on := 0, ground := Go.Ground.data }, { on := 4, ground := Go.Ground.data }, { on := 8, ground := Go.Ground.data }, { on := 12, ground := Go.Ground.data }, { on := 16, ground := Go.Ground.data }], guard := none }) (v := ?_) rfl (by kernel_rfl) (by kernel_rfl) (by kernel_rfl) (fun _ _ _ h => h) (Or.inl ⟨by rfl, ?_⟩) (by assumption) ?_
              rotate_left
              · (intro w hSw; (try dsimp only at hSw); go_simp; (try with_reducible rfl))
              (try simp only [Act.put, List.setIfInBounds_toArray, List.set_cons_zero, List.set_cons_succ])
              refine wpAnyH_ready (rs := [19]) (by kernel_rfl) (by simp) ?_
              refine AllReadyH.cons (o := { dst := none, op := Go.Op.store 23 (Go.Operand.tmp 7) (Go.Operand.tmp 36), type := 0, pos := "decode.go:120", after := #[{ on := 18, ground := Go.Ground.data }, { on := 17, ground := Go.Ground.data }, { on := 16, ground := Go.Ground.chain }, { on := 0, ground := Go.Ground.phase }, { on := 1, ground := Go.Ground.phase }, { on := 2, ground := Go.Ground.phase }, { on := 3, ground := Go.Ground.phase }, { on := 4, ground := Go.Ground.phase }, { on := 5, ground := Go.Ground.phase }, { on := 6, ground := Go.Ground.phase }, { on := 7, ground := Go.Ground.phase }, { on := 8, ground := Go.Ground.phase }, { on := 9, ground := Go.Ground.phase }, { on := 10, ground := Go.Ground.phase }, { on := 11, ground := Go.Ground.phase }, { on := 12, ground := Go.Ground.phase }, { on := 13, ground := Go.Ground.phase }, { on := 14, ground := Go.Ground.phase }, { on := 15, ground := Go.Ground.phase }, { on := 16, ground := Go.Ground.phase }, { on := 17, ground := Go.Ground.phase }, { on := 18, ground := Go.Ground.phase }], guard := none }) rfl (fun K hK => ?_) AllReadyH.nil
              · skip
                obtain ⟨m0, m1, m2, m3, m4⟩ := cell5 mQ
                obtain ⟨n0, n1, n2, n3, n4⟩ := free5 mQ
                have hQX2 : Q ≠ X := hQX.symm
                go_simp
                refine hK.out _ _ (KEEP.out V4 Q hQX (.int .i64 c) (.int .i64 zd) (.int .i64 za) (.int .i64 zb) (.int .i64 zk) OW.out) (fun hHeldN => ?_)
                clear hK K hHeld
                have hHeld := hHeldN
                clear hHeldN
                (try simp only [Act.put, List.setIfInBounds_toArray, List.set_cons_zero, List.set_cons_succ])
                clear m0 m1 m2 m3 m4 n0 n1 n2 n3 n4
                refine wpAnyH_done (by kernel_rfl) ?_ _
                have OQ := OPQ.out V4 Q hQX hQP hQR OW.out mQ hQle
                have OQ := hid OQ
                clear mQ OW hHeld OPQ KEEP
                (try go_wp2_with fail)
                go_meet
                case rel => exact ⟨Q, rfl, hQP, hQle, hQR, OQ.out.1, OQ.out.2.1⟩
  case rest =>
  obtain ⟨Q, rfl, hQP, hQle, hQR, hO, gQ⟩ := hcut
  have OX := hid hO
  clear hO OW KEEP OPQ KF0 KF1 KF2 KF3
  obtain ⟨p0, p1, p2, p3, p4⟩ := cell5 OX.out.p
  obtain ⟨f0, f1, f2, f3, f4⟩ := free5 OX.out.p
  obtain ⟨s0', s1', s2', s3', s4'⟩ := cell5 gQ
  have s5' : wc.cell? ⟨R, 1, none⟩ = some (.bool t4.isNone) := by
    obtain ⟨⟨a, n, cc, hh, _⟩, _⟩ := OX.out.st
    exact cellOf hh 1
  have sA := And.intro (And.intro s0' (And.intro s1' (And.intro s2' (And.intro s3' s4')))) s5'
  have hQP2 : Q ≠ w.heap.size := hQP.symm
  have hRP : R ≠ w.heap.size := by omega
  have hRP2 : w.heap.size ≠ R := by omega
  go_upto_region 6 with fail
  refine wp_region_held_drew (S := fun v : World => (v.cell? ⟨Q, 0, none⟩ = some (.int .i64 c) ∧ v.cell? ⟨Q, 1, none⟩ = some (.int .i64 zd) ∧ v.cell? ⟨Q, 2, none⟩ = some (.int .i64 za) ∧ v.cell? ⟨Q, 3, none⟩ = some (.int .i64 zb) ∧ v.cell? ⟨Q, 4, none⟩ = some (.int .i64 zk)) ∧ v.cell? ⟨R, 1, none⟩ = some (.bool t4.isNone)) (by kernel_rfl) (by go_keep) (fun hHeld => ?_)
  refine wpAnyH_take (i := 0) (oi := { dst := some 37, op := Go.Op.load 23 (Go.Operand.tmp 7), type := 23, pos := "decode.go:121", after := #[], guard := none }) (v := ?_) rfl (by kernel_rfl) (by kernel_rfl) (by kernel_rfl) (fun _ _ _ h => h) (Or.inl ⟨by rfl, ?_⟩) (by assumption) ?_
  rotate_left
  · (intro w hSw; (try dsimp only at hSw); go_simp; (try with_reducible rfl))
  (try simp only [Act.put, List.setIfInBounds_toArray, List.set_cons_zero, List.set_cons_succ])
  refine wpAnyH_take (i := 1) (oi := { dst := some 38, op := Go.Op.move (Go.Operand.tmp 0), type := 96, pos := "decode.go:121", after := #[{ on := 6, ground := Go.Ground.gcOnly Go.Departure.lateStores }], guard := none }) (v := ?_) rfl (by kernel_rfl) (by kernel_rfl) (by kernel_rfl) (fun _ _ _ h => h) (Or.inl ⟨by rfl, ?_⟩) (by assumption) ?_
  rotate_left
  · (intro w hSw; (try dsimp only at hSw); go_simp; (try with_reducible rfl))
  (try simp only [Act.put, List.setIfInBounds_toArray, List.set_cons_zero, List.set_cons_succ])
  refine wpAnyH_take (i := 2) (oi := { dst := some 39, op := Go.Op.nilCheck (Go.Operand.tmp 38), type := 0, pos := "decode.go:121", after := #[{ on := 1, ground := Go.Ground.data }, { on := 6, ground := Go.Ground.gcOnly Go.Departure.lateStores }], guard := none }) (v := ?_) rfl (by kernel_rfl) (by kernel_rfl) (by kernel_rfl) (fun _ _ _ h => h) (Or.inl ⟨by rfl, ?_⟩) (by assumption) ?_
  rotate_left
  · (intro w hSw; (try dsimp only at hSw); go_simp; (try with_reducible rfl))
  (try simp only [Act.put, List.setIfInBounds_toArray, List.set_cons_zero, List.set_cons_succ])
  refine wpAnyH_take (i := 3) (oi := { dst := some 40, op := Go.Op.fieldAddr 94 (Go.Operand.tmp 39) 1, type := 0, pos := "decode.go:121", after := #[{ on := 2, ground := Go.Ground.data }, { on := 6, ground := Go.Ground.gcOnly Go.Departure.lateStores }], guard := none }) (v := ?_) rfl (by kernel_rfl) (by kernel_rfl) (by kernel_rfl) (fun _ _ _ h => h) (Or.inl ⟨by rfl, ?_⟩) (by assumption) ?_
  rotate_left
  · (intro w hSw; (try dsimp only at hSw); go_simp; (try with_reducible rfl))
  (try simp only [Act.put, List.setIfInBounds_toArray, List.set_cons_zero, List.set_cons_succ])
  refine wpAnyH_take (i := 4) (oi := { dst := some 41, op := Go.Op.load 4 (Go.Operand.tmp 40), type := 4, pos := "decode.go:121", after := #[{ on := 3, ground := Go.Ground.data }, { on := 6, ground := Go.Ground.gcOnly Go.Departure.lateStores }], guard := none }) (v := ?_) rfl (by kernel_rfl) (by kernel_rfl) (by kernel_rfl) (fun _ _ _ h => h) (Or.inl ⟨by rfl, ?_⟩) (by assumption) ?_
  rotate_left
  · (intro w hSw; (try dsimp only at hSw); go_simp; (try with_reducible rfl))
  (try simp only [Act.put, List.setIfInBounds_toArray, List.set_cons_zero, List.set_cons_succ])
  refine wpAnyH_take (i := 5) (oi := { dst := some 42, op := Go.Op.unOp Go.UnOp.not 4 (Go.Operand.tmp 41), type := 4, pos := "decode.go:121", after := #[{ on := 4, ground := Go.Ground.data }, { on := 6, ground := Go.Ground.gcOnly Go.Departure.lateStores }], guard := none }) (v := ?_) rfl (by kernel_rfl) (by kernel_rfl) (by kernel_rfl) (fun _ _ _ h => h) (Or.inl ⟨by rfl, ?_⟩) (by assumption) ?_
  rotate_left
  · (intro w hSw; (try dsimp only at hSw); go_simp; (try with_reducible rfl))
  (try simp only [Act.put, List.setIfInBounds_toArray, List.set_cons_zero, List.set_cons_succ])
  refine wpAnyH_ready (rs := [6]) (by kernel_rfl) (by simp) ?_
  refine AllReadyH.cons (o := { dst := none, op := Go.Op.store 23 (Go.Operand.tmp 2) (Go.Operand.tmp 37), type := 0, pos := "decode.go:121", after := #[{ on := 0, ground := Go.Ground.data }, { on := 0, ground := Go.Ground.phase }, { on := 1, ground := Go.Ground.textOnly Go.Departure.lateStores }, { on := 2, ground := Go.Ground.textOnly Go.Departure.lateStores }, { on := 3, ground := Go.Ground.textOnly Go.Departure.lateStores }, { on := 4, ground := Go.Ground.textOnly Go.Departure.lateStores }, { on := 5, ground := Go.Ground.textOnly Go.Departure.lateStores }], guard := none }) rfl (fun K hK => ?_) AllReadyH.nil
  go_simp
  refine hK.out _ _ (by go_keep) (fun hHeldN => ?_)
  clear hK K hHeld
  have hHeld := hHeldN
  clear hHeldN
  (try simp only [Act.put, List.setIfInBounds_toArray, List.set_cons_zero, List.set_cons_succ])
  refine wpAnyH_ready (rs := [7]) (by kernel_rfl) (by simp) ?_
  refine AllReadyH.cons (o := { dst := some 3, op := Go.Op.assign (Go.Operand.tmp 42), type := 4, pos := "decode.go:121", after := #[{ on := 5, ground := Go.Ground.data }, { on := 6, ground := Go.Ground.chain }, { on := 0, ground := Go.Ground.phase }, { on := 1, ground := Go.Ground.phase }, { on := 2, ground := Go.Ground.phase }, { on := 3, ground := Go.Ground.phase }, { on := 4, ground := Go.Ground.phase }, { on := 5, ground := Go.Ground.phase }, { on := 6, ground := Go.Ground.phase }], guard := none }) rfl (fun K hK => ?_) AllReadyH.nil
  go_simp
  refine hK.out _ _ (by go_keep) (fun hHeldN => ?_)
  clear hK K hHeld
  have hHeld := hHeldN
  clear hHeldN
  (try simp only [Act.put, List.setIfInBounds_toArray, List.set_cons_zero, List.set_cons_succ])
  refine wpAnyH_done (by kernel_rfl) ?_ _
  have fs := five_set (w := wc) OX.out.p (.int .i64 c) (.int .i64 zd) (.int .i64 za) (.int .i64 zb) (.int .i64 zk)
  have q5 := cell5 (show ((((((wc.setCell ⟨w.heap.size, 0, none⟩ (.int .i64 c)).setCell ⟨w.heap.size, 1, none⟩ (.int .i64 zd)).setCell ⟨w.heap.size, 2, none⟩ (.int .i64 za)).setCell ⟨w.heap.size, 3, none⟩ (.int .i64 zb)).setCell ⟨w.heap.size, 4, none⟩ (.int .i64 zk)).drew).heap[w.heap.size]? = _ from fs.1)
  have hst := Rst.drew (OX.out.st.grown fs.2 (fun r e => by cases e; omega))
  have hgr := gbelow (grown_new OX.out.g fs.2 (Nat.le_refl _)) (Below.refl _ _).drew
  have HST := hid hst
  have HGR := hid hgr
  clear hst hgr fs sA s0' s1' s2' s3' s4' s5' p0 p1 p2 p3 p4 f0 f1 f2 f3 f4
  go_wp2
  obtain ⟨q0, q1, q2, q3, q4⟩ := q5
  refine bodyPost_ret (v := .tuple #[.agg #[.int .i64 c, .int .i64 zd, .int .i64 za, .int .i64 zb, .int .i64 zk], .bool (!t4.isNone)]) (by simp [results, Tryz.results66, go_sem, q0, q1, q2, q3, q4]) rfl ⟨rfl, HST.out, HGR.out⟩
end Go.Proofs.YthnolocldeokeaaGreatDoor

