/- tree.isRightStmt. -/
import Derived.Test.YtdfambocenohgaaGreatDoorJAL
namespace Go.Proofs.YtdfambocenohgaaGreatDoor
open Go.RowKit Go.Deep
set_option linter.unusedVariables false
set_option linter.unusedSimpArgs false


set_option maxRecDepth 100000 in
set_option maxHeartbeats 4000000 in
theorem isRightS_5 (w : World) (h : SH) (d : SHr w h) (hm : MX w) (hk : h.kind = 5) : Calls Tryz.prog 85 #[.pointer (some ⟨h.b, h.o, none⟩)] w fun e w' => e = .returned (.bool (rightS h)) ∧ Below w.heap.size w w' := by
  have TR : Hid (∀ {Z x y : World}, Below Z.heap.size Z x → Below x.heap.size x y → Below Z.heap.size Z y) := hid (fun h1 h2 => h1.trans (h2.mono h1.size))
  have ha : (h.an : Int) ≤ 1000000 := by have := d.ab; omega
  have cell : ∀ {p : Addr} {v : Value} (o : Obj), w.cell? p = some v → (w.alloc o).cell? p = some v := fun o hc => (((Below.refl w.heap.size w).alloc (Nat.le_refl _) o).cell (World.block_lt_of_cell? w _ hc)).trans hc
  have c0 := d.c0
  have c4 := d.c4
  have C0 := fun o => cell o d.c0
  have C1 := fun o => cell o d.c1
  have C2 := fun o => cell o d.c2
  have C3 := fun o => cell o d.c3
  have C4 := fun o => cell o d.c4
  have C5 := fun o => cell o d.c5
  have C6 := fun o => cell o d.c6
  obtain ⟨W, hW⟩ : ∃ W, W = ((w.alloc (.cells #[.int .i64 5, .string ⟨#[]⟩, .string ⟨#[]⟩, .string ⟨#[]⟩, .slice h.aa h.an h.ac, .slice h.ba h.bn h.bc, .slice h.ea h.en h.ec, .int .i64 0] 49)).drew.drew : World) := ⟨_, rfl⟩
  have hb : W.heap[w.heap.size]? = some (.cells (meantS h).cs 49 (0, 0)) := by
    rw [hW]
    refine (heap_alloc_new w _).trans ?_
    simp [meantS, SH.cs, emp, hk]
  have hbw : Below w.heap.size w W := by rw [hW]; exact ((Below.refl _ w).alloc (Nat.le_refl _) _).drew.drew
  have KA : Hid (∀ w1 : World, Below W.heap.size W w1 → Calls Tryz.prog 75 #[.pointer (some ⟨h.b, h.o, none⟩), .pointer (some ⟨w.heap.size, 0, none⟩)] w1 fun e w' => e = .returned (.bool (alikeS h (meantS h))) ∧ ∃ m, w' = w1.drewN m) := hid (fun w1 hb1 => by
    have dd := d.below (Nat.le_refl _) (hbw.trans (hb1.mono hbw.size))
    exact alikeS_any w1 h { meantS h with b := w.heap.size, o := 0 } dd (boxS dd ((hb1.block _ (Array.getElem?_eq_some_iff.1 hb).1).trans hb) (by simp [meantS, hk]) (by simp [meantS, hk]) (by simp [meantS, hk]) rfl (by simp [meantS, hk]) (by simp [meantS, hk])))
  have HW := hid hbw
  have KSn : Hid (∀ w1 : World, Below w.heap.size w w1 → Calls Tryz.prog 114 #[.string h.name] w1 fun e w' => e = .returned (.bool (smallB h.name)) ∧ Below w1.heap.size w1 w') := hid (fun w1 hb1 => isSmall_any h.name d.n w1 (hm.below hm.lt hb1))
  have KSv : Hid (∀ w1 : World, Below w.heap.size w w1 → Calls Tryz.prog 114 #[.string h.var] w1 fun e w' => e = .returned (.bool (smallB h.var)) ∧ Below w1.heap.size w1 w') := hid (fun w1 hb1 => isSmall_any h.var d.v w1 (hm.below hm.lt hb1))
  have KLn : Hid (∀ w1 : World, Below w.heap.size w w1 → Calls Tryz.prog 117 #[.string h.name] w1 fun e w' => e = .returned (.bool (labB h.name)) ∧ Below w1.heap.size w1 w') := hid (fun w1 hb1 => isLabel_any h.name d.n w1 (hm.below hm.lt hb1))
  have KLl : Hid (∀ w1 : World, Below w.heap.size w w1 → Calls Tryz.prog 117 #[.string h.label] w1 fun e w' => e = .returned (.bool (labB h.label)) ∧ Below w1.heap.size w1 w') := hid (fun w1 hb1 => isLabel_any h.label d.l w1 (hm.below hm.lt hb1))
  have CV : Hid (∀ w1 : World, Below w.heap.size w w1 → w1.cell? ⟨h.b, h.o + 3, none⟩ = some (.string h.var)) := hid (fun w1 hb1 => belowCell d.c3 (Nat.le_refl _) hb1)
  have CN : Hid (∀ w1 : World, Below w.heap.size w w1 → w1.cell? ⟨h.b, h.o + 1, none⟩ = some (.string h.name)) := hid (fun w1 hb1 => belowCell d.c1 (Nat.le_refl _) hb1)
  have HR : Hid (rightS h = (decide (h.an = 1) && alikeS h (meantS h))) := hid (by unfold rightS okS; simp [hk])
  have fin : Hid (∀ (w1 : World) (m : Nat), Below w.heap.size w w1 → Below w.heap.size w (w1.drewN m)) := hid (fun w1 m hb => bel_drewN hb m)
  generalize alikeS h (meantS h) = al at *
  generalize rightS h = res at *
  generalize smallB h.name = sn at *
  generalize smallB h.var = sv at *
  generalize labB h.name = ln at *
  generalize labB h.label = ll at *
  clear d hm hb hbw cell
  obtain ⟨b, o, kind, name, label, var, aa, an, ac, ba, bn, bc, ea, en, ec, pos⟩ := h
  simp only at c0 c4 C0 C1 C2 C3 C4 C5 C6 hW KA KSn KSv KLn KLl CV CN HR hk ha ⊢
  subst hk
  by_cases q1 : an = 1
  case pos =>
    subst q1
    go_enter Tryz.func85, Tryz.ntmps85
    go_wp2
    go_region_held3 (fun w2 => w2.cell? ⟨b, o, none⟩ = some (.int .i64 5) ∧ w2.cell? ⟨b, o + 4, none⟩ = some (.slice aa 1 ac)) (first | go_keep) (fail)
    go_wp2
    go_region_held3 (fun w2 => w2.cell? ⟨b, o + 5, none⟩ = some (.slice ba bn bc) ∧ w2.cell? ⟨b, o + 6, none⟩ = some (.slice ea en ec)) (first | go_keep) (fail)
    go_wp2_with (go_at_call 75; (rw [← hW]; clear hW; refine (KA.out W (Below.refl _ _)).mono ?_; rintro e w9 ⟨rfl, m, rfl⟩; have HB9 := hid (fin.out W m HW.out)))
    go_ret
    refine ⟨?_, ?_⟩
    · rw [HR.out]; exact ret_bool (by first | (simp; done) | (simp <;> intros <;> omega))
    · first | exact HB9.out | (rw [← hW]; exact HW.out)
  case neg =>
    have q1' : ¬ (an : Int) = 1 := by omega
    go_enter Tryz.func85, Tryz.ntmps85
    go_wp2
    go_region_held3 (fun w2 => w2.cell? ⟨b, o, none⟩ = some (.int .i64 5) ∧ w2.cell? ⟨b, o + 4, none⟩ = some (.slice aa an ac)) (first | go_keep) (fail)
    go_wp2
    go_region_held3 (fun w2 => w2.cell? ⟨b, o + 5, none⟩ = some (.slice ba bn bc) ∧ w2.cell? ⟨b, o + 6, none⟩ = some (.slice ea en ec)) (first | go_keep) (fail)
    go_wp2_with (go_at_call 75; (rw [← hW]; clear hW; refine (KA.out W (Below.refl _ _)).mono ?_; rintro e w9 ⟨rfl, m, rfl⟩; have HB9 := hid (fin.out W m HW.out)))
    go_ret
    refine ⟨?_, ?_⟩
    · rw [HR.out]; exact ret_bool (by first | (simp [q1]; done) | (simp <;> intros <;> omega))
    · first | exact HB9.out | (rw [← hW]; exact HW.out)

set_option maxRecDepth 100000 in
set_option maxHeartbeats 4000000 in
theorem isRightS_6 (w : World) (h : SH) (d : SHr w h) (hm : MX w) (hk : h.kind = 6) : Calls Tryz.prog 85 #[.pointer (some ⟨h.b, h.o, none⟩)] w fun e w' => e = .returned (.bool (rightS h)) ∧ Below w.heap.size w w' := by
  have TR : Hid (∀ {Z x y : World}, Below Z.heap.size Z x → Below x.heap.size x y → Below Z.heap.size Z y) := hid (fun h1 h2 => h1.trans (h2.mono h1.size))
  have ha : (h.an : Int) ≤ 1000000 := by have := d.ab; omega
  have cell : ∀ {p : Addr} {v : Value} (o : Obj), w.cell? p = some v → (w.alloc o).cell? p = some v := fun o hc => (((Below.refl w.heap.size w).alloc (Nat.le_refl _) o).cell (World.block_lt_of_cell? w _ hc)).trans hc
  have c0 := d.c0
  have c4 := d.c4
  have C0 := fun o => cell o d.c0
  have C1 := fun o => cell o d.c1
  have C2 := fun o => cell o d.c2
  have C3 := fun o => cell o d.c3
  have C4 := fun o => cell o d.c4
  have C5 := fun o => cell o d.c5
  have C6 := fun o => cell o d.c6
  obtain ⟨W, hW⟩ : ∃ W, W = ((w.alloc (.cells #[.int .i64 6, .string ⟨#[]⟩, .string h.label, .string ⟨#[]⟩, .slice h.aa h.an h.ac, .slice h.ba h.bn h.bc, .slice none 0 0, .int .i64 0] 49)).drew.drew : World) := ⟨_, rfl⟩
  have hb : W.heap[w.heap.size]? = some (.cells (meantS h).cs 49 (0, 0)) := by
    rw [hW]
    refine (heap_alloc_new w _).trans ?_
    simp [meantS, SH.cs, emp, hk]
  have hbw : Below w.heap.size w W := by rw [hW]; exact ((Below.refl _ w).alloc (Nat.le_refl _) _).drew.drew
  have KA : Hid (∀ w1 : World, Below W.heap.size W w1 → Calls Tryz.prog 75 #[.pointer (some ⟨h.b, h.o, none⟩), .pointer (some ⟨w.heap.size, 0, none⟩)] w1 fun e w' => e = .returned (.bool (alikeS h (meantS h))) ∧ ∃ m, w' = w1.drewN m) := hid (fun w1 hb1 => by
    have dd := d.below (Nat.le_refl _) (hbw.trans (hb1.mono hbw.size))
    exact alikeS_any w1 h { meantS h with b := w.heap.size, o := 0 } dd (boxS dd ((hb1.block _ (Array.getElem?_eq_some_iff.1 hb).1).trans hb) (by simp [meantS, hk]) (by simp [meantS, hk]) (by simp [meantS, hk]) rfl (by simp [meantS, hk]) (by simp [meantS, hk])))
  have HW := hid hbw
  have KSn : Hid (∀ w1 : World, Below w.heap.size w w1 → Calls Tryz.prog 114 #[.string h.name] w1 fun e w' => e = .returned (.bool (smallB h.name)) ∧ Below w1.heap.size w1 w') := hid (fun w1 hb1 => isSmall_any h.name d.n w1 (hm.below hm.lt hb1))
  have KSv : Hid (∀ w1 : World, Below w.heap.size w w1 → Calls Tryz.prog 114 #[.string h.var] w1 fun e w' => e = .returned (.bool (smallB h.var)) ∧ Below w1.heap.size w1 w') := hid (fun w1 hb1 => isSmall_any h.var d.v w1 (hm.below hm.lt hb1))
  have KLn : Hid (∀ w1 : World, Below w.heap.size w w1 → Calls Tryz.prog 117 #[.string h.name] w1 fun e w' => e = .returned (.bool (labB h.name)) ∧ Below w1.heap.size w1 w') := hid (fun w1 hb1 => isLabel_any h.name d.n w1 (hm.below hm.lt hb1))
  have KLl : Hid (∀ w1 : World, Below w.heap.size w w1 → Calls Tryz.prog 117 #[.string h.label] w1 fun e w' => e = .returned (.bool (labB h.label)) ∧ Below w1.heap.size w1 w') := hid (fun w1 hb1 => isLabel_any h.label d.l w1 (hm.below hm.lt hb1))
  have CV : Hid (∀ w1 : World, Below w.heap.size w w1 → w1.cell? ⟨h.b, h.o + 3, none⟩ = some (.string h.var)) := hid (fun w1 hb1 => belowCell d.c3 (Nat.le_refl _) hb1)
  have CN : Hid (∀ w1 : World, Below w.heap.size w w1 → w1.cell? ⟨h.b, h.o + 1, none⟩ = some (.string h.name)) := hid (fun w1 hb1 => belowCell d.c1 (Nat.le_refl _) hb1)
  have HR : Hid (rightS h = ((labB h.label && decide (h.an = 1)) && alikeS h (meantS h))) := hid (by unfold rightS okS; simp [hk])
  have fin : Hid (∀ (w1 : World) (m : Nat), Below w.heap.size w w1 → Below w.heap.size w (w1.drewN m)) := hid (fun w1 m hb => bel_drewN hb m)
  generalize alikeS h (meantS h) = al at *
  generalize rightS h = res at *
  generalize smallB h.name = sn at *
  generalize smallB h.var = sv at *
  generalize labB h.name = ln at *
  generalize labB h.label = ll at *
  clear d hm hb hbw cell
  obtain ⟨b, o, kind, name, label, var, aa, an, ac, ba, bn, bc, ea, en, ec, pos⟩ := h
  simp only at c0 c4 C0 C1 C2 C3 C4 C5 C6 hW KA KSn KSv KLn KLl CV CN HR hk ha ⊢
  subst hk
  cases ll
  case false =>
    go_enter Tryz.func85, Tryz.ntmps85
    go_wp2
    go_region_held3 (fun w2 => w2.cell? ⟨b, o, none⟩ = some (.int .i64 6) ∧ w2.cell? ⟨b, o + 4, none⟩ = some (.slice aa an ac)) (first | go_keep) (fail)
    go_wp2
    go_region_held3 (fun w2 => w2.cell? ⟨b, o + 2, none⟩ = some (.string label) ∧ w2.cell? ⟨b, o + 5, none⟩ = some (.slice ba bn bc)) (first | go_keep) (fail)
    go_wp2_with (first
      | (go_at_call 117; (rw [← hW]; clear hW; refine (KLl.out W HW.out).mono ?_; rintro e w1 ⟨rfl, hb⟩; have HB1 := hid hb; clear hb))
      | (go_at_call 75; (refine (KA.out w1 HB1.out).mono ?_; rintro e w9 ⟨rfl, m, rfl⟩; have HB9 := hid (fin.out w1 m (TR.out HW.out HB1.out)))))
    go_ret
    refine ⟨?_, ?_⟩
    · rw [HR.out]; exact ret_bool (by first | (simp; done) | (simp <;> intros <;> omega))
    · first | exact HB9.out | exact TR.out HW.out HB1.out | (rw [← hW]; exact HW.out)
  case true =>
    by_cases q1 : an = 1
    case pos =>
      subst q1
      go_enter Tryz.func85, Tryz.ntmps85
      go_wp2
      go_region_held3 (fun w2 => w2.cell? ⟨b, o, none⟩ = some (.int .i64 6) ∧ w2.cell? ⟨b, o + 4, none⟩ = some (.slice aa 1 ac)) (first | go_keep) (fail)
      go_wp2
      go_region_held3 (fun w2 => w2.cell? ⟨b, o + 2, none⟩ = some (.string label) ∧ w2.cell? ⟨b, o + 5, none⟩ = some (.slice ba bn bc)) (first | go_keep) (fail)
      go_wp2_with (first
        | (go_at_call 117; (rw [← hW]; clear hW; refine (KLl.out W HW.out).mono ?_; rintro e w1 ⟨rfl, hb⟩; have HB1 := hid hb; clear hb))
        | (go_at_call 75; (refine (KA.out w1 HB1.out).mono ?_; rintro e w9 ⟨rfl, m, rfl⟩; have HB9 := hid (fin.out w1 m (TR.out HW.out HB1.out)))))
      go_ret
      refine ⟨?_, ?_⟩
      · rw [HR.out]; exact ret_bool (by first | (simp; done) | (simp <;> intros <;> omega))
      · first | exact HB9.out | exact TR.out HW.out HB1.out | (rw [← hW]; exact HW.out)
    case neg =>
      have q1' : ¬ (an : Int) = 1 := by omega
      go_enter Tryz.func85, Tryz.ntmps85
      go_wp2
      go_region_held3 (fun w2 => w2.cell? ⟨b, o, none⟩ = some (.int .i64 6) ∧ w2.cell? ⟨b, o + 4, none⟩ = some (.slice aa an ac)) (first | go_keep) (fail)
      go_wp2
      go_region_held3 (fun w2 => w2.cell? ⟨b, o + 2, none⟩ = some (.string label) ∧ w2.cell? ⟨b, o + 5, none⟩ = some (.slice ba bn bc)) (first | go_keep) (fail)
      go_wp2_with (first
        | (go_at_call 117; (rw [← hW]; clear hW; refine (KLl.out W HW.out).mono ?_; rintro e w1 ⟨rfl, hb⟩; have HB1 := hid hb; clear hb))
        | (go_at_call 75; (refine (KA.out w1 HB1.out).mono ?_; rintro e w9 ⟨rfl, m, rfl⟩; have HB9 := hid (fin.out w1 m (TR.out HW.out HB1.out)))))
      go_ret
      refine ⟨?_, ?_⟩
      · rw [HR.out]; exact ret_bool (by first | (simp [q1]; done) | (simp <;> intros <;> omega))
      · first | exact HB9.out | exact TR.out HW.out HB1.out | (rw [← hW]; exact HW.out)

set_option maxRecDepth 100000 in
set_option maxHeartbeats 4000000 in
theorem isRightS_8 (w : World) (h : SH) (d : SHr w h) (hm : MX w) (hk : h.kind = 8) : Calls Tryz.prog 85 #[.pointer (some ⟨h.b, h.o, none⟩)] w fun e w' => e = .returned (.bool (rightS h)) ∧ Below w.heap.size w w' := by
  have TR : Hid (∀ {Z x y : World}, Below Z.heap.size Z x → Below x.heap.size x y → Below Z.heap.size Z y) := hid (fun h1 h2 => h1.trans (h2.mono h1.size))
  have ha : (h.an : Int) ≤ 1000000 := by have := d.ab; omega
  have cell : ∀ {p : Addr} {v : Value} (o : Obj), w.cell? p = some v → (w.alloc o).cell? p = some v := fun o hc => (((Below.refl w.heap.size w).alloc (Nat.le_refl _) o).cell (World.block_lt_of_cell? w _ hc)).trans hc
  have c0 := d.c0
  have c4 := d.c4
  have C0 := fun o => cell o d.c0
  have C1 := fun o => cell o d.c1
  have C2 := fun o => cell o d.c2
  have C3 := fun o => cell o d.c3
  have C4 := fun o => cell o d.c4
  have C5 := fun o => cell o d.c5
  have C6 := fun o => cell o d.c6
  obtain ⟨W, hW⟩ : ∃ W, W = ((w.alloc (.cells #[.int .i64 8, .string h.name, .string ⟨#[]⟩, .string ⟨#[]⟩, .slice h.aa h.an h.ac, .slice none 0 0, .slice none 0 0, .int .i64 0] 49)).drew : World) := ⟨_, rfl⟩
  have hb : W.heap[w.heap.size]? = some (.cells (meantS h).cs 49 (0, 0)) := by
    rw [hW]
    refine (heap_alloc_new w _).trans ?_
    simp [meantS, SH.cs, emp, hk]
  have hbw : Below w.heap.size w W := by rw [hW]; exact ((Below.refl _ w).alloc (Nat.le_refl _) _).drew
  have KA : Hid (∀ w1 : World, Below W.heap.size W w1 → Calls Tryz.prog 75 #[.pointer (some ⟨h.b, h.o, none⟩), .pointer (some ⟨w.heap.size, 0, none⟩)] w1 fun e w' => e = .returned (.bool (alikeS h (meantS h))) ∧ ∃ m, w' = w1.drewN m) := hid (fun w1 hb1 => by
    have dd := d.below (Nat.le_refl _) (hbw.trans (hb1.mono hbw.size))
    exact alikeS_any w1 h { meantS h with b := w.heap.size, o := 0 } dd (boxS dd ((hb1.block _ (Array.getElem?_eq_some_iff.1 hb).1).trans hb) (by simp [meantS, hk]) (by simp [meantS, hk]) (by simp [meantS, hk]) rfl (by simp [meantS, hk]) (by simp [meantS, hk])))
  have HW := hid hbw
  have KSn : Hid (∀ w1 : World, Below w.heap.size w w1 → Calls Tryz.prog 114 #[.string h.name] w1 fun e w' => e = .returned (.bool (smallB h.name)) ∧ Below w1.heap.size w1 w') := hid (fun w1 hb1 => isSmall_any h.name d.n w1 (hm.below hm.lt hb1))
  have KSv : Hid (∀ w1 : World, Below w.heap.size w w1 → Calls Tryz.prog 114 #[.string h.var] w1 fun e w' => e = .returned (.bool (smallB h.var)) ∧ Below w1.heap.size w1 w') := hid (fun w1 hb1 => isSmall_any h.var d.v w1 (hm.below hm.lt hb1))
  have KLn : Hid (∀ w1 : World, Below w.heap.size w w1 → Calls Tryz.prog 117 #[.string h.name] w1 fun e w' => e = .returned (.bool (labB h.name)) ∧ Below w1.heap.size w1 w') := hid (fun w1 hb1 => isLabel_any h.name d.n w1 (hm.below hm.lt hb1))
  have KLl : Hid (∀ w1 : World, Below w.heap.size w w1 → Calls Tryz.prog 117 #[.string h.label] w1 fun e w' => e = .returned (.bool (labB h.label)) ∧ Below w1.heap.size w1 w') := hid (fun w1 hb1 => isLabel_any h.label d.l w1 (hm.below hm.lt hb1))
  have CV : Hid (∀ w1 : World, Below w.heap.size w w1 → w1.cell? ⟨h.b, h.o + 3, none⟩ = some (.string h.var)) := hid (fun w1 hb1 => belowCell d.c3 (Nat.le_refl _) hb1)
  have CN : Hid (∀ w1 : World, Below w.heap.size w w1 → w1.cell? ⟨h.b, h.o + 1, none⟩ = some (.string h.name)) := hid (fun w1 hb1 => belowCell d.c1 (Nat.le_refl _) hb1)
  have HR : Hid (rightS h = ((labB h.name && decide (h.an = 0)) && alikeS h (meantS h))) := hid (by unfold rightS okS; simp [hk])
  have fin : Hid (∀ (w1 : World) (m : Nat), Below w.heap.size w w1 → Below w.heap.size w (w1.drewN m)) := hid (fun w1 m hb => bel_drewN hb m)
  generalize alikeS h (meantS h) = al at *
  generalize rightS h = res at *
  generalize smallB h.name = sn at *
  generalize smallB h.var = sv at *
  generalize labB h.name = ln at *
  generalize labB h.label = ll at *
  clear d hm hb hbw cell
  obtain ⟨b, o, kind, name, label, var, aa, an, ac, ba, bn, bc, ea, en, ec, pos⟩ := h
  simp only at c0 c4 C0 C1 C2 C3 C4 C5 C6 hW KA KSn KSv KLn KLl CV CN HR hk ha ⊢
  subst hk
  cases ln
  case false =>
    go_enter Tryz.func85, Tryz.ntmps85
    go_wp2
    go_region_held3 (fun w2 => w2.cell? ⟨b, o, none⟩ = some (.int .i64 8) ∧ w2.cell? ⟨b, o + 4, none⟩ = some (.slice aa an ac)) (first | go_keep) (fail)
    go_wp2_with (first
      | (go_at_call 117; (rw [← hW]; clear hW; refine (KLn.out W HW.out).mono ?_; rintro e w1 ⟨rfl, hb⟩; have HB1 := hid hb; clear hb))
      | (go_at_call 75; (refine (KA.out w1 HB1.out).mono ?_; rintro e w9 ⟨rfl, m, rfl⟩; have HB9 := hid (fin.out w1 m (TR.out HW.out HB1.out)))))
    go_ret
    refine ⟨?_, ?_⟩
    · rw [HR.out]; exact ret_bool (by first | (simp; done) | (simp <;> intros <;> omega))
    · first | exact HB9.out | exact TR.out HW.out HB1.out | (rw [← hW]; exact HW.out)
  case true =>
    by_cases q1 : an = 0
    case pos =>
      subst q1
      go_enter Tryz.func85, Tryz.ntmps85
      go_wp2
      go_region_held3 (fun w2 => w2.cell? ⟨b, o, none⟩ = some (.int .i64 8) ∧ w2.cell? ⟨b, o + 4, none⟩ = some (.slice aa 0 ac)) (first | go_keep) (fail)
      go_wp2_with (first
        | (go_at_call 117; (rw [← hW]; clear hW; refine (KLn.out W HW.out).mono ?_; rintro e w1 ⟨rfl, hb⟩; have HB1 := hid hb; clear hb))
        | (go_at_call 75; (refine (KA.out w1 HB1.out).mono ?_; rintro e w9 ⟨rfl, m, rfl⟩; have HB9 := hid (fin.out w1 m (TR.out HW.out HB1.out)))))
      go_ret
      refine ⟨?_, ?_⟩
      · rw [HR.out]; exact ret_bool (by first | (simp; done) | (simp <;> intros <;> omega))
      · first | exact HB9.out | exact TR.out HW.out HB1.out | (rw [← hW]; exact HW.out)
    case neg =>
      have q1' : ¬ (an : Int) = 0 := by omega
      go_enter Tryz.func85, Tryz.ntmps85
      go_wp2
      go_region_held3 (fun w2 => w2.cell? ⟨b, o, none⟩ = some (.int .i64 8) ∧ w2.cell? ⟨b, o + 4, none⟩ = some (.slice aa an ac)) (first | go_keep) (fail)
      go_wp2_with (first
        | (go_at_call 117; (rw [← hW]; clear hW; refine (KLn.out W HW.out).mono ?_; rintro e w1 ⟨rfl, hb⟩; have HB1 := hid hb; clear hb))
        | (go_at_call 75; (refine (KA.out w1 HB1.out).mono ?_; rintro e w9 ⟨rfl, m, rfl⟩; have HB9 := hid (fin.out w1 m (TR.out HW.out HB1.out)))))
      go_ret
      refine ⟨?_, ?_⟩
      · rw [HR.out]; exact ret_bool (by first | (simp [q1]; done) | (simp <;> intros <;> omega))
      · first | exact HB9.out | exact TR.out HW.out HB1.out | (rw [← hW]; exact HW.out)

set_option maxRecDepth 100000 in
set_option maxHeartbeats 4000000 in
theorem isRightS_9 (w : World) (h : SH) (d : SHr w h) (hm : MX w) (hk : h.kind = 9) : Calls Tryz.prog 85 #[.pointer (some ⟨h.b, h.o, none⟩)] w fun e w' => e = .returned (.bool (rightS h)) ∧ Below w.heap.size w w' := by
  have TR : Hid (∀ {Z x y : World}, Below Z.heap.size Z x → Below x.heap.size x y → Below Z.heap.size Z y) := hid (fun h1 h2 => h1.trans (h2.mono h1.size))
  have ha : (h.an : Int) ≤ 1000000 := by have := d.ab; omega
  have cell : ∀ {p : Addr} {v : Value} (o : Obj), w.cell? p = some v → (w.alloc o).cell? p = some v := fun o hc => (((Below.refl w.heap.size w).alloc (Nat.le_refl _) o).cell (World.block_lt_of_cell? w _ hc)).trans hc
  have c0 := d.c0
  have c4 := d.c4
  have C0 := fun o => cell o d.c0
  have C1 := fun o => cell o d.c1
  have C2 := fun o => cell o d.c2
  have C3 := fun o => cell o d.c3
  have C4 := fun o => cell o d.c4
  have C5 := fun o => cell o d.c5
  have C6 := fun o => cell o d.c6
  obtain ⟨W, hW⟩ : ∃ W, W = ((w.alloc (.cells #[.int .i64 9, .string h.name, .string ⟨#[]⟩, .string ⟨#[]⟩, .slice h.aa h.an h.ac, .slice none 0 0, .slice none 0 0, .int .i64 0] 49)).drew : World) := ⟨_, rfl⟩
  have hb : W.heap[w.heap.size]? = some (.cells (meantS h).cs 49 (0, 0)) := by
    rw [hW]
    refine (heap_alloc_new w _).trans ?_
    simp [meantS, SH.cs, emp, hk]
  have hbw : Below w.heap.size w W := by rw [hW]; exact ((Below.refl _ w).alloc (Nat.le_refl _) _).drew
  have KA : Hid (∀ w1 : World, Below W.heap.size W w1 → Calls Tryz.prog 75 #[.pointer (some ⟨h.b, h.o, none⟩), .pointer (some ⟨w.heap.size, 0, none⟩)] w1 fun e w' => e = .returned (.bool (alikeS h (meantS h))) ∧ ∃ m, w' = w1.drewN m) := hid (fun w1 hb1 => by
    have dd := d.below (Nat.le_refl _) (hbw.trans (hb1.mono hbw.size))
    exact alikeS_any w1 h { meantS h with b := w.heap.size, o := 0 } dd (boxS dd ((hb1.block _ (Array.getElem?_eq_some_iff.1 hb).1).trans hb) (by simp [meantS, hk]) (by simp [meantS, hk]) (by simp [meantS, hk]) rfl (by simp [meantS, hk]) (by simp [meantS, hk])))
  have HW := hid hbw
  have KSn : Hid (∀ w1 : World, Below w.heap.size w w1 → Calls Tryz.prog 114 #[.string h.name] w1 fun e w' => e = .returned (.bool (smallB h.name)) ∧ Below w1.heap.size w1 w') := hid (fun w1 hb1 => isSmall_any h.name d.n w1 (hm.below hm.lt hb1))
  have KSv : Hid (∀ w1 : World, Below w.heap.size w w1 → Calls Tryz.prog 114 #[.string h.var] w1 fun e w' => e = .returned (.bool (smallB h.var)) ∧ Below w1.heap.size w1 w') := hid (fun w1 hb1 => isSmall_any h.var d.v w1 (hm.below hm.lt hb1))
  have KLn : Hid (∀ w1 : World, Below w.heap.size w w1 → Calls Tryz.prog 117 #[.string h.name] w1 fun e w' => e = .returned (.bool (labB h.name)) ∧ Below w1.heap.size w1 w') := hid (fun w1 hb1 => isLabel_any h.name d.n w1 (hm.below hm.lt hb1))
  have KLl : Hid (∀ w1 : World, Below w.heap.size w w1 → Calls Tryz.prog 117 #[.string h.label] w1 fun e w' => e = .returned (.bool (labB h.label)) ∧ Below w1.heap.size w1 w') := hid (fun w1 hb1 => isLabel_any h.label d.l w1 (hm.below hm.lt hb1))
  have CV : Hid (∀ w1 : World, Below w.heap.size w w1 → w1.cell? ⟨h.b, h.o + 3, none⟩ = some (.string h.var)) := hid (fun w1 hb1 => belowCell d.c3 (Nat.le_refl _) hb1)
  have CN : Hid (∀ w1 : World, Below w.heap.size w w1 → w1.cell? ⟨h.b, h.o + 1, none⟩ = some (.string h.name)) := hid (fun w1 hb1 => belowCell d.c1 (Nat.le_refl _) hb1)
  have HR : Hid (rightS h = ((labB h.name && decide (h.an = 0)) && alikeS h (meantS h))) := hid (by unfold rightS okS; simp [hk])
  have fin : Hid (∀ (w1 : World) (m : Nat), Below w.heap.size w w1 → Below w.heap.size w (w1.drewN m)) := hid (fun w1 m hb => bel_drewN hb m)
  generalize alikeS h (meantS h) = al at *
  generalize rightS h = res at *
  generalize smallB h.name = sn at *
  generalize smallB h.var = sv at *
  generalize labB h.name = ln at *
  generalize labB h.label = ll at *
  clear d hm hb hbw cell
  obtain ⟨b, o, kind, name, label, var, aa, an, ac, ba, bn, bc, ea, en, ec, pos⟩ := h
  simp only at c0 c4 C0 C1 C2 C3 C4 C5 C6 hW KA KSn KSv KLn KLl CV CN HR hk ha ⊢
  subst hk
  cases ln
  case false =>
    go_enter Tryz.func85, Tryz.ntmps85
    go_wp2
    go_region_held3 (fun w2 => w2.cell? ⟨b, o, none⟩ = some (.int .i64 9) ∧ w2.cell? ⟨b, o + 4, none⟩ = some (.slice aa an ac)) (first | go_keep) (fail)
    go_wp2_with (first
      | (go_at_call 117; (rw [← hW]; clear hW; refine (KLn.out W HW.out).mono ?_; rintro e w1 ⟨rfl, hb⟩; have HB1 := hid hb; clear hb))
      | (go_at_call 75; (refine (KA.out w1 HB1.out).mono ?_; rintro e w9 ⟨rfl, m, rfl⟩; have HB9 := hid (fin.out w1 m (TR.out HW.out HB1.out)))))
    go_ret
    refine ⟨?_, ?_⟩
    · rw [HR.out]; exact ret_bool (by first | (simp; done) | (simp <;> intros <;> omega))
    · first | exact HB9.out | exact TR.out HW.out HB1.out | (rw [← hW]; exact HW.out)
  case true =>
    by_cases q1 : an = 0
    case pos =>
      subst q1
      go_enter Tryz.func85, Tryz.ntmps85
      go_wp2
      go_region_held3 (fun w2 => w2.cell? ⟨b, o, none⟩ = some (.int .i64 9) ∧ w2.cell? ⟨b, o + 4, none⟩ = some (.slice aa 0 ac)) (first | go_keep) (fail)
      go_wp2_with (first
        | (go_at_call 117; (rw [← hW]; clear hW; refine (KLn.out W HW.out).mono ?_; rintro e w1 ⟨rfl, hb⟩; have HB1 := hid hb; clear hb))
        | (go_at_call 75; (refine (KA.out w1 HB1.out).mono ?_; rintro e w9 ⟨rfl, m, rfl⟩; have HB9 := hid (fin.out w1 m (TR.out HW.out HB1.out)))))
      go_ret
      refine ⟨?_, ?_⟩
      · rw [HR.out]; exact ret_bool (by first | (simp; done) | (simp <;> intros <;> omega))
      · first | exact HB9.out | exact TR.out HW.out HB1.out | (rw [← hW]; exact HW.out)
    case neg =>
      have q1' : ¬ (an : Int) = 0 := by omega
      go_enter Tryz.func85, Tryz.ntmps85
      go_wp2
      go_region_held3 (fun w2 => w2.cell? ⟨b, o, none⟩ = some (.int .i64 9) ∧ w2.cell? ⟨b, o + 4, none⟩ = some (.slice aa an ac)) (first | go_keep) (fail)
      go_wp2_with (first
        | (go_at_call 117; (rw [← hW]; clear hW; refine (KLn.out W HW.out).mono ?_; rintro e w1 ⟨rfl, hb⟩; have HB1 := hid hb; clear hb))
        | (go_at_call 75; (refine (KA.out w1 HB1.out).mono ?_; rintro e w9 ⟨rfl, m, rfl⟩; have HB9 := hid (fin.out w1 m (TR.out HW.out HB1.out)))))
      go_ret
      refine ⟨?_, ?_⟩
      · rw [HR.out]; exact ret_bool (by first | (simp [q1]; done) | (simp <;> intros <;> omega))
      · first | exact HB9.out | exact TR.out HW.out HB1.out | (rw [← hW]; exact HW.out)
end Go.Proofs.YtdfambocenohgaaGreatDoor

namespace Go.Proofs.YtdfambocenohgaaGreatDoor
open Go.RowKit Go.Deep
set_option linter.unusedVariables false
set_option linter.unusedSimpArgs false


set_option maxRecDepth 100000 in
set_option maxHeartbeats 4000000 in
theorem isRightS_7 (w : World) (h : SH) (d : SHr w h) (hm : MX w) (hk : h.kind = 7) : Calls Tryz.prog 85 #[.pointer (some ⟨h.b, h.o, none⟩)] w fun e w' => e = .returned (.bool (rightS h)) ∧ Below w.heap.size w w' := by
  have TR : Hid (∀ {Z x y : World}, Below Z.heap.size Z x → Below x.heap.size x y → Below Z.heap.size Z y) := hid (fun h1 h2 => h1.trans (h2.mono h1.size))
  have ha : (h.an : Int) ≤ 1000000 := by have := d.ab; omega
  have cell : ∀ {p : Addr} {v : Value} (o : Obj), w.cell? p = some v → (w.alloc o).cell? p = some v := fun o hc => (((Below.refl w.heap.size w).alloc (Nat.le_refl _) o).cell (World.block_lt_of_cell? w _ hc)).trans hc
  have c0 := d.c0
  have c4 := d.c4
  have C0 := fun o => cell o d.c0
  have C1 := fun o => cell o d.c1
  have C2 := fun o => cell o d.c2
  have C3 := fun o => cell o d.c3
  have C4 := fun o => cell o d.c4
  have C5 := fun o => cell o d.c5
  have C6 := fun o => cell o d.c6
  obtain ⟨W, hW⟩ : ∃ W, W = ((w.alloc (.cells #[.int .i64 7, .string h.name, .string h.label, .string h.var, .slice h.aa h.an h.ac, .slice h.ba h.bn h.bc, .slice none 0 0, .int .i64 0] 49)).drew.drew : World) := ⟨_, rfl⟩
  have hb : W.heap[w.heap.size]? = some (.cells (meantS h).cs 49 (0, 0)) := by
    rw [hW]
    refine (heap_alloc_new w _).trans ?_
    simp [meantS, SH.cs, emp, hk]
  have hbw : Below w.heap.size w W := by rw [hW]; exact ((Below.refl _ w).alloc (Nat.le_refl _) _).drew.drew
  have KA : Hid (∀ w1 : World, Below W.heap.size W w1 → Calls Tryz.prog 75 #[.pointer (some ⟨h.b, h.o, none⟩), .pointer (some ⟨w.heap.size, 0, none⟩)] w1 fun e w' => e = .returned (.bool (alikeS h (meantS h))) ∧ ∃ m, w' = w1.drewN m) := hid (fun w1 hb1 => by
    have dd := d.below (Nat.le_refl _) (hbw.trans (hb1.mono hbw.size))
    exact alikeS_any w1 h { meantS h with b := w.heap.size, o := 0 } dd (boxS dd ((hb1.block _ (Array.getElem?_eq_some_iff.1 hb).1).trans hb) (by simp [meantS, hk]) (by simp [meantS, hk]) (by simp [meantS, hk]) rfl (by simp [meantS, hk]) (by simp [meantS, hk])))
  have HW := hid hbw
  have KSn : Hid (∀ w1 : World, Below w.heap.size w w1 → Calls Tryz.prog 114 #[.string h.name] w1 fun e w' => e = .returned (.bool (smallB h.name)) ∧ Below w1.heap.size w1 w') := hid (fun w1 hb1 => isSmall_any h.name d.n w1 (hm.below hm.lt hb1))
  have KSv : Hid (∀ w1 : World, Below w.heap.size w w1 → Calls Tryz.prog 114 #[.string h.var] w1 fun e w' => e = .returned (.bool (smallB h.var)) ∧ Below w1.heap.size w1 w') := hid (fun w1 hb1 => isSmall_any h.var d.v w1 (hm.below hm.lt hb1))
  have KLn : Hid (∀ w1 : World, Below w.heap.size w w1 → Calls Tryz.prog 117 #[.string h.name] w1 fun e w' => e = .returned (.bool (labB h.name)) ∧ Below w1.heap.size w1 w') := hid (fun w1 hb1 => isLabel_any h.name d.n w1 (hm.below hm.lt hb1))
  have KLl : Hid (∀ w1 : World, Below w.heap.size w w1 → Calls Tryz.prog 117 #[.string h.label] w1 fun e w' => e = .returned (.bool (labB h.label)) ∧ Below w1.heap.size w1 w') := hid (fun w1 hb1 => isLabel_any h.label d.l w1 (hm.below hm.lt hb1))
  have CV : Hid (∀ w1 : World, Below w.heap.size w w1 → w1.cell? ⟨h.b, h.o + 3, none⟩ = some (.string h.var)) := hid (fun w1 hb1 => belowCell d.c3 (Nat.le_refl _) hb1)
  have CN : Hid (∀ w1 : World, Below w.heap.size w w1 → w1.cell? ⟨h.b, h.o + 1, none⟩ = some (.string h.name)) := hid (fun w1 hb1 => belowCell d.c1 (Nat.le_refl _) hb1)
  have HR : Hid (rightS h = ((labB h.label && smallB h.var && smallB h.name && decide (h.an = 0)) && alikeS h (meantS h))) := hid (by unfold rightS okS; simp [hk])
  have fin : Hid (∀ (w1 : World) (m : Nat), Below w.heap.size w w1 → Below w.heap.size w (w1.drewN m)) := hid (fun w1 m hb => bel_drewN hb m)
  generalize alikeS h (meantS h) = al at *
  generalize rightS h = res at *
  generalize smallB h.name = sn at *
  generalize smallB h.var = sv at *
  generalize labB h.name = ln at *
  generalize labB h.label = ll at *
  clear d hm hb hbw cell
  obtain ⟨b, o, kind, name, label, var, aa, an, ac, ba, bn, bc, ea, en, ec, pos⟩ := h
  simp only at c0 c4 C0 C1 C2 C3 C4 C5 C6 hW KA KSn KSv KLn KLl CV CN HR hk ha ⊢
  subst hk
  cases ll
  case false =>
    go_enter Tryz.func85, Tryz.ntmps85
    go_wp2
    go_region_held3 (fun w2 => w2.cell? ⟨b, o, none⟩ = some (.int .i64 7) ∧ w2.cell? ⟨b, o + 4, none⟩ = some (.slice aa an ac)) (first | go_keep) (fail)
    go_wp2
    go_region_held3 (fun w2 => w2.cell? ⟨b, o + 2, none⟩ = some (.string label) ∧ w2.cell? ⟨b, o + 3, none⟩ = some (.string var) ∧ w2.cell? ⟨b, o + 1, none⟩ = some (.string name) ∧ w2.cell? ⟨b, o + 5, none⟩ = some (.slice ba bn bc)) (first | go_keep) (fail)
    go_wp2_with (first
      | (go_at_call 114; (have hno := HB2; refine (KSn.out w2 (TR.out HW.out HB2.out)).mono ?_; rintro e w3 ⟨rfl, hb⟩; have HB3 := hid (TR.out HB2.out hb); clear hb))
      | (go_at_call 114; (have hno := HB1; refine (KSv.out w1 (TR.out HW.out HB1.out)).mono ?_; rintro e w2 ⟨rfl, hb⟩; have HB2 := hid (TR.out HB1.out hb); have n20 := CN.out w2 (TR.out HW.out HB2.out); clear hb))
      | (go_at_call 117; (rw [← hW]; clear hW; refine (KLl.out W HW.out).mono ?_; rintro e w1 ⟨rfl, hb⟩; have HB1 := hid hb; have n10 := CV.out w1 (TR.out HW.out HB1.out); clear hb))
      | (go_at_call 75; (refine (KA.out w3 HB3.out).mono ?_; rintro e w9 ⟨rfl, m, rfl⟩; have HB9 := hid (fin.out w3 m (TR.out HW.out HB3.out)))))
    go_ret
    refine ⟨?_, ?_⟩
    · rw [HR.out]; exact ret_bool (by first | (simp; done) | (simp <;> intros <;> omega))
    · first | exact HB9.out | exact TR.out HW.out HB3.out | exact TR.out HW.out HB2.out | exact TR.out HW.out HB1.out | (rw [← hW]; exact HW.out)
  case true =>
    cases sv
    case false =>
      go_enter Tryz.func85, Tryz.ntmps85
      go_wp2
      go_region_held3 (fun w2 => w2.cell? ⟨b, o, none⟩ = some (.int .i64 7) ∧ w2.cell? ⟨b, o + 4, none⟩ = some (.slice aa an ac)) (first | go_keep) (fail)
      go_wp2
      go_region_held3 (fun w2 => w2.cell? ⟨b, o + 2, none⟩ = some (.string label) ∧ w2.cell? ⟨b, o + 3, none⟩ = some (.string var) ∧ w2.cell? ⟨b, o + 1, none⟩ = some (.string name) ∧ w2.cell? ⟨b, o + 5, none⟩ = some (.slice ba bn bc)) (first | go_keep) (fail)
      go_wp2_with (first
        | (go_at_call 114; (have hno := HB2; refine (KSn.out w2 (TR.out HW.out HB2.out)).mono ?_; rintro e w3 ⟨rfl, hb⟩; have HB3 := hid (TR.out HB2.out hb); clear hb))
        | (go_at_call 114; (have hno := HB1; refine (KSv.out w1 (TR.out HW.out HB1.out)).mono ?_; rintro e w2 ⟨rfl, hb⟩; have HB2 := hid (TR.out HB1.out hb); have n20 := CN.out w2 (TR.out HW.out HB2.out); clear hb))
        | (go_at_call 117; (rw [← hW]; clear hW; refine (KLl.out W HW.out).mono ?_; rintro e w1 ⟨rfl, hb⟩; have HB1 := hid hb; have n10 := CV.out w1 (TR.out HW.out HB1.out); clear hb))
        | (go_at_call 75; (refine (KA.out w3 HB3.out).mono ?_; rintro e w9 ⟨rfl, m, rfl⟩; have HB9 := hid (fin.out w3 m (TR.out HW.out HB3.out)))))
      go_ret
      refine ⟨?_, ?_⟩
      · rw [HR.out]; exact ret_bool (by first | (simp; done) | (simp <;> intros <;> omega))
      · first | exact HB9.out | exact TR.out HW.out HB3.out | exact TR.out HW.out HB2.out | exact TR.out HW.out HB1.out | (rw [← hW]; exact HW.out)
    case true =>
      cases sn
      case false =>
        go_enter Tryz.func85, Tryz.ntmps85
        go_wp2
        go_region_held3 (fun w2 => w2.cell? ⟨b, o, none⟩ = some (.int .i64 7) ∧ w2.cell? ⟨b, o + 4, none⟩ = some (.slice aa an ac)) (first | go_keep) (fail)
        go_wp2
        go_region_held3 (fun w2 => w2.cell? ⟨b, o + 2, none⟩ = some (.string label) ∧ w2.cell? ⟨b, o + 3, none⟩ = some (.string var) ∧ w2.cell? ⟨b, o + 1, none⟩ = some (.string name) ∧ w2.cell? ⟨b, o + 5, none⟩ = some (.slice ba bn bc)) (first | go_keep) (fail)
        go_wp2_with (first
          | (go_at_call 114; (have hno := HB2; refine (KSn.out w2 (TR.out HW.out HB2.out)).mono ?_; rintro e w3 ⟨rfl, hb⟩; have HB3 := hid (TR.out HB2.out hb); clear hb))
          | (go_at_call 114; (have hno := HB1; refine (KSv.out w1 (TR.out HW.out HB1.out)).mono ?_; rintro e w2 ⟨rfl, hb⟩; have HB2 := hid (TR.out HB1.out hb); have n20 := CN.out w2 (TR.out HW.out HB2.out); clear hb))
          | (go_at_call 117; (rw [← hW]; clear hW; refine (KLl.out W HW.out).mono ?_; rintro e w1 ⟨rfl, hb⟩; have HB1 := hid hb; have n10 := CV.out w1 (TR.out HW.out HB1.out); clear hb))
          | (go_at_call 75; (refine (KA.out w3 HB3.out).mono ?_; rintro e w9 ⟨rfl, m, rfl⟩; have HB9 := hid (fin.out w3 m (TR.out HW.out HB3.out)))))
        go_ret
        refine ⟨?_, ?_⟩
        · rw [HR.out]; exact ret_bool (by first | (simp; done) | (simp <;> intros <;> omega))
        · first | exact HB9.out | exact TR.out HW.out HB3.out | exact TR.out HW.out HB2.out | exact TR.out HW.out HB1.out | (rw [← hW]; exact HW.out)
      case true =>
        by_cases q1 : an = 0
        case pos =>
          subst q1
          go_enter Tryz.func85, Tryz.ntmps85
          go_wp2
          go_region_held3 (fun w2 => w2.cell? ⟨b, o, none⟩ = some (.int .i64 7) ∧ w2.cell? ⟨b, o + 4, none⟩ = some (.slice aa 0 ac)) (first | go_keep) (fail)
          go_wp2
          go_region_held3 (fun w2 => w2.cell? ⟨b, o + 2, none⟩ = some (.string label) ∧ w2.cell? ⟨b, o + 3, none⟩ = some (.string var) ∧ w2.cell? ⟨b, o + 1, none⟩ = some (.string name) ∧ w2.cell? ⟨b, o + 5, none⟩ = some (.slice ba bn bc)) (first | go_keep) (fail)
          go_wp2_with (first
            | (go_at_call 114; (have hno := HB2; refine (KSn.out w2 (TR.out HW.out HB2.out)).mono ?_; rintro e w3 ⟨rfl, hb⟩; have HB3 := hid (TR.out HB2.out hb); clear hb))
            | (go_at_call 114; (have hno := HB1; refine (KSv.out w1 (TR.out HW.out HB1.out)).mono ?_; rintro e w2 ⟨rfl, hb⟩; have HB2 := hid (TR.out HB1.out hb); have n20 := CN.out w2 (TR.out HW.out HB2.out); clear hb))
            | (go_at_call 117; (rw [← hW]; clear hW; refine (KLl.out W HW.out).mono ?_; rintro e w1 ⟨rfl, hb⟩; have HB1 := hid hb; have n10 := CV.out w1 (TR.out HW.out HB1.out); clear hb))
            | (go_at_call 75; (refine (KA.out w3 HB3.out).mono ?_; rintro e w9 ⟨rfl, m, rfl⟩; have HB9 := hid (fin.out w3 m (TR.out HW.out HB3.out)))))
          go_ret
          refine ⟨?_, ?_⟩
          · rw [HR.out]; exact ret_bool (by first | (simp; done) | (simp <;> intros <;> omega))
          · first | exact HB9.out | exact TR.out HW.out HB3.out | exact TR.out HW.out HB2.out | exact TR.out HW.out HB1.out | (rw [← hW]; exact HW.out)
        case neg =>
          have q1' : ¬ (an : Int) = 0 := by omega
          go_enter Tryz.func85, Tryz.ntmps85
          go_wp2
          go_region_held3 (fun w2 => w2.cell? ⟨b, o, none⟩ = some (.int .i64 7) ∧ w2.cell? ⟨b, o + 4, none⟩ = some (.slice aa an ac)) (first | go_keep) (fail)
          go_wp2
          go_region_held3 (fun w2 => w2.cell? ⟨b, o + 2, none⟩ = some (.string label) ∧ w2.cell? ⟨b, o + 3, none⟩ = some (.string var) ∧ w2.cell? ⟨b, o + 1, none⟩ = some (.string name) ∧ w2.cell? ⟨b, o + 5, none⟩ = some (.slice ba bn bc)) (first | go_keep) (fail)
          go_wp2_with (first
            | (go_at_call 114; (have hno := HB2; refine (KSn.out w2 (TR.out HW.out HB2.out)).mono ?_; rintro e w3 ⟨rfl, hb⟩; have HB3 := hid (TR.out HB2.out hb); clear hb))
            | (go_at_call 114; (have hno := HB1; refine (KSv.out w1 (TR.out HW.out HB1.out)).mono ?_; rintro e w2 ⟨rfl, hb⟩; have HB2 := hid (TR.out HB1.out hb); have n20 := CN.out w2 (TR.out HW.out HB2.out); clear hb))
            | (go_at_call 117; (rw [← hW]; clear hW; refine (KLl.out W HW.out).mono ?_; rintro e w1 ⟨rfl, hb⟩; have HB1 := hid hb; have n10 := CV.out w1 (TR.out HW.out HB1.out); clear hb))
            | (go_at_call 75; (refine (KA.out w3 HB3.out).mono ?_; rintro e w9 ⟨rfl, m, rfl⟩; have HB9 := hid (fin.out w3 m (TR.out HW.out HB3.out)))))
          go_ret
          refine ⟨?_, ?_⟩
          · rw [HR.out]; exact ret_bool (by first | (simp [q1]; done) | (simp <;> intros <;> omega))
          · first | exact HB9.out | exact TR.out HW.out HB3.out | exact TR.out HW.out HB2.out | exact TR.out HW.out HB1.out | (rw [← hW]; exact HW.out)

set_option maxRecDepth 100000 in
set_option maxHeartbeats 4000000 in
theorem isRightS_10 (w : World) (h : SH) (d : SHr w h) (hm : MX w) (hk : h.kind = 10) : Calls Tryz.prog 85 #[.pointer (some ⟨h.b, h.o, none⟩)] w fun e w' => e = .returned (.bool (rightS h)) ∧ Below w.heap.size w w' := by
  have TR : Hid (∀ {Z x y : World}, Below Z.heap.size Z x → Below x.heap.size x y → Below Z.heap.size Z y) := hid (fun h1 h2 => h1.trans (h2.mono h1.size))
  have ha : (h.an : Int) ≤ 1000000 := by have := d.ab; omega
  have cell : ∀ {p : Addr} {v : Value} (o : Obj), w.cell? p = some v → (w.alloc o).cell? p = some v := fun o hc => (((Below.refl w.heap.size w).alloc (Nat.le_refl _) o).cell (World.block_lt_of_cell? w _ hc)).trans hc
  have c0 := d.c0
  have c4 := d.c4
  have C0 := fun o => cell o d.c0
  have C1 := fun o => cell o d.c1
  have C2 := fun o => cell o d.c2
  have C3 := fun o => cell o d.c3
  have C4 := fun o => cell o d.c4
  have C5 := fun o => cell o d.c5
  have C6 := fun o => cell o d.c6
  obtain ⟨W, hW⟩ : ∃ W, W = ((w.alloc (.cells #[.int .i64 10, .string ⟨#[]⟩, .string ⟨#[]⟩, .string ⟨#[]⟩, .slice h.aa h.an h.ac, .slice none 0 0, .slice none 0 0, .int .i64 0] 49)).drew : World) := ⟨_, rfl⟩
  have hb : W.heap[w.heap.size]? = some (.cells (meantS h).cs 49 (0, 0)) := by
    rw [hW]
    refine (heap_alloc_new w _).trans ?_
    simp [meantS, SH.cs, emp, hk]
  have hbw : Below w.heap.size w W := by rw [hW]; exact ((Below.refl _ w).alloc (Nat.le_refl _) _).drew
  have KA : Hid (∀ w1 : World, Below W.heap.size W w1 → Calls Tryz.prog 75 #[.pointer (some ⟨h.b, h.o, none⟩), .pointer (some ⟨w.heap.size, 0, none⟩)] w1 fun e w' => e = .returned (.bool (alikeS h (meantS h))) ∧ ∃ m, w' = w1.drewN m) := hid (fun w1 hb1 => by
    have dd := d.below (Nat.le_refl _) (hbw.trans (hb1.mono hbw.size))
    exact alikeS_any w1 h { meantS h with b := w.heap.size, o := 0 } dd (boxS dd ((hb1.block _ (Array.getElem?_eq_some_iff.1 hb).1).trans hb) (by simp [meantS, hk]) (by simp [meantS, hk]) (by simp [meantS, hk]) rfl (by simp [meantS, hk]) (by simp [meantS, hk])))
  have HW := hid hbw
  have KSn : Hid (∀ w1 : World, Below w.heap.size w w1 → Calls Tryz.prog 114 #[.string h.name] w1 fun e w' => e = .returned (.bool (smallB h.name)) ∧ Below w1.heap.size w1 w') := hid (fun w1 hb1 => isSmall_any h.name d.n w1 (hm.below hm.lt hb1))
  have KSv : Hid (∀ w1 : World, Below w.heap.size w w1 → Calls Tryz.prog 114 #[.string h.var] w1 fun e w' => e = .returned (.bool (smallB h.var)) ∧ Below w1.heap.size w1 w') := hid (fun w1 hb1 => isSmall_any h.var d.v w1 (hm.below hm.lt hb1))
  have KLn : Hid (∀ w1 : World, Below w.heap.size w w1 → Calls Tryz.prog 117 #[.string h.name] w1 fun e w' => e = .returned (.bool (labB h.name)) ∧ Below w1.heap.size w1 w') := hid (fun w1 hb1 => isLabel_any h.name d.n w1 (hm.below hm.lt hb1))
  have KLl : Hid (∀ w1 : World, Below w.heap.size w w1 → Calls Tryz.prog 117 #[.string h.label] w1 fun e w' => e = .returned (.bool (labB h.label)) ∧ Below w1.heap.size w1 w') := hid (fun w1 hb1 => isLabel_any h.label d.l w1 (hm.below hm.lt hb1))
  have CV : Hid (∀ w1 : World, Below w.heap.size w w1 → w1.cell? ⟨h.b, h.o + 3, none⟩ = some (.string h.var)) := hid (fun w1 hb1 => belowCell d.c3 (Nat.le_refl _) hb1)
  have CN : Hid (∀ w1 : World, Below w.heap.size w w1 → w1.cell? ⟨h.b, h.o + 1, none⟩ = some (.string h.name)) := hid (fun w1 hb1 => belowCell d.c1 (Nat.le_refl _) hb1)
  have HR : Hid (rightS h = (decide (h.an ≤ 1) && alikeS h (meantS h))) := hid (by unfold rightS okS; simp [hk])
  have fin : Hid (∀ (w1 : World) (m : Nat), Below w.heap.size w w1 → Below w.heap.size w (w1.drewN m)) := hid (fun w1 m hb => bel_drewN hb m)
  generalize alikeS h (meantS h) = al at *
  generalize rightS h = res at *
  generalize smallB h.name = sn at *
  generalize smallB h.var = sv at *
  generalize labB h.name = ln at *
  generalize labB h.label = ll at *
  clear d hm hb hbw cell
  obtain ⟨b, o, kind, name, label, var, aa, an, ac, ba, bn, bc, ea, en, ec, pos⟩ := h
  simp only at c0 c4 C0 C1 C2 C3 C4 C5 C6 hW KA KSn KSv KLn KLl CV CN HR hk ha ⊢
  subst hk
  by_cases q1 : an ≤ 1
  case pos =>
    have q1' : (an : Int) ≤ 1 := by omega
    go_enter Tryz.func85, Tryz.ntmps85
    go_wp2
    go_region_held3 (fun w2 => w2.cell? ⟨b, o, none⟩ = some (.int .i64 10) ∧ w2.cell? ⟨b, o + 4, none⟩ = some (.slice aa an ac)) (first | go_keep) (fail)
    go_wp2_with (go_at_call 75; (rw [← hW]; clear hW; refine (KA.out W (Below.refl _ _)).mono ?_; rintro e w9 ⟨rfl, m, rfl⟩; have HB9 := hid (fin.out W m HW.out)))
    go_ret
    refine ⟨?_, ?_⟩
    · rw [HR.out]; exact ret_bool (by first | (simp [q1]; done) | (simp <;> intros <;> omega))
    · first | exact HB9.out | (rw [← hW]; exact HW.out)
  case neg =>
    have q1' : ¬ (an : Int) ≤ 1 := by omega
    go_enter Tryz.func85, Tryz.ntmps85
    go_wp2
    go_region_held3 (fun w2 => w2.cell? ⟨b, o, none⟩ = some (.int .i64 10) ∧ w2.cell? ⟨b, o + 4, none⟩ = some (.slice aa an ac)) (first | go_keep) (fail)
    go_wp2_with (go_at_call 75; (rw [← hW]; clear hW; refine (KA.out W (Below.refl _ _)).mono ?_; rintro e w9 ⟨rfl, m, rfl⟩; have HB9 := hid (fin.out W m HW.out)))
    go_ret
    refine ⟨?_, ?_⟩
    · rw [HR.out]; exact ret_bool (by first | (simp [q1]; done) | (simp <;> intros <;> omega))
    · first | exact HB9.out | (rw [← hW]; exact HW.out)

set_option maxRecDepth 100000 in
set_option maxHeartbeats 4000000 in
theorem isRightS_0 (w : World) (h : SH) (d : SHr w h) (hm : MX w) (hk : ¬ h.kind = 1 ∧ ¬ h.kind = 2 ∧ ¬ h.kind = 3 ∧ ¬ h.kind = 4 ∧ ¬ h.kind = 5 ∧ ¬ h.kind = 6 ∧ ¬ h.kind = 7 ∧ ¬ h.kind = 8 ∧ ¬ h.kind = 9 ∧ ¬ h.kind = 10 ∧ ¬ h.kind = 11 ∧ ¬ h.kind = 12 ∧ ¬ h.kind = 13) : Calls Tryz.prog 85 #[.pointer (some ⟨h.b, h.o, none⟩)] w fun e w' => e = .returned (.bool (rightS h)) ∧ Below w.heap.size w w' := by
  have TR : Hid (∀ {Z x y : World}, Below Z.heap.size Z x → Below x.heap.size x y → Below Z.heap.size Z y) := hid (fun h1 h2 => h1.trans (h2.mono h1.size))
  have ha : (h.an : Int) ≤ 1000000 := by have := d.ab; omega
  have cell : ∀ {p : Addr} {v : Value} (o : Obj), w.cell? p = some v → (w.alloc o).cell? p = some v := fun o hc => (((Below.refl w.heap.size w).alloc (Nat.le_refl _) o).cell (World.block_lt_of_cell? w _ hc)).trans hc
  have c0 := d.c0
  have c4 := d.c4
  have C0 := fun o => cell o d.c0
  have C1 := fun o => cell o d.c1
  have C2 := fun o => cell o d.c2
  have C3 := fun o => cell o d.c3
  have C4 := fun o => cell o d.c4
  have C5 := fun o => cell o d.c5
  have C6 := fun o => cell o d.c6
  obtain ⟨W, hW⟩ : ∃ W, W = ((w.alloc (.cells #[.int .i64 h.kind, .string ⟨#[]⟩, .string ⟨#[]⟩, .string ⟨#[]⟩, .slice h.aa h.an h.ac, .slice none 0 0, .slice none 0 0, .int .i64 0] 49)).drew : World) := ⟨_, rfl⟩
  have hb : W.heap[w.heap.size]? = some (.cells (meantS h).cs 49 (0, 0)) := by
    rw [hW]
    refine (heap_alloc_new w _).trans ?_
    simp [meantS, SH.cs, emp, hk]
  have hbw : Below w.heap.size w W := by rw [hW]; exact ((Below.refl _ w).alloc (Nat.le_refl _) _).drew
  have KA : Hid (∀ w1 : World, Below W.heap.size W w1 → Calls Tryz.prog 75 #[.pointer (some ⟨h.b, h.o, none⟩), .pointer (some ⟨w.heap.size, 0, none⟩)] w1 fun e w' => e = .returned (.bool (alikeS h (meantS h))) ∧ ∃ m, w' = w1.drewN m) := hid (fun w1 hb1 => by
    have dd := d.below (Nat.le_refl _) (hbw.trans (hb1.mono hbw.size))
    exact alikeS_any w1 h { meantS h with b := w.heap.size, o := 0 } dd (boxS dd ((hb1.block _ (Array.getElem?_eq_some_iff.1 hb).1).trans hb) (by simp [meantS, hk]) (by simp [meantS, hk]) (by simp [meantS, hk]) rfl (by simp [meantS, hk]) (by simp [meantS, hk])))
  have HW := hid hbw
  have KSn : Hid (∀ w1 : World, Below w.heap.size w w1 → Calls Tryz.prog 114 #[.string h.name] w1 fun e w' => e = .returned (.bool (smallB h.name)) ∧ Below w1.heap.size w1 w') := hid (fun w1 hb1 => isSmall_any h.name d.n w1 (hm.below hm.lt hb1))
  have KSv : Hid (∀ w1 : World, Below w.heap.size w w1 → Calls Tryz.prog 114 #[.string h.var] w1 fun e w' => e = .returned (.bool (smallB h.var)) ∧ Below w1.heap.size w1 w') := hid (fun w1 hb1 => isSmall_any h.var d.v w1 (hm.below hm.lt hb1))
  have KLn : Hid (∀ w1 : World, Below w.heap.size w w1 → Calls Tryz.prog 117 #[.string h.name] w1 fun e w' => e = .returned (.bool (labB h.name)) ∧ Below w1.heap.size w1 w') := hid (fun w1 hb1 => isLabel_any h.name d.n w1 (hm.below hm.lt hb1))
  have KLl : Hid (∀ w1 : World, Below w.heap.size w w1 → Calls Tryz.prog 117 #[.string h.label] w1 fun e w' => e = .returned (.bool (labB h.label)) ∧ Below w1.heap.size w1 w') := hid (fun w1 hb1 => isLabel_any h.label d.l w1 (hm.below hm.lt hb1))
  have CV : Hid (∀ w1 : World, Below w.heap.size w w1 → w1.cell? ⟨h.b, h.o + 3, none⟩ = some (.string h.var)) := hid (fun w1 hb1 => belowCell d.c3 (Nat.le_refl _) hb1)
  have CN : Hid (∀ w1 : World, Below w.heap.size w w1 → w1.cell? ⟨h.b, h.o + 1, none⟩ = some (.string h.name)) := hid (fun w1 hb1 => belowCell d.c1 (Nat.le_refl _) hb1)
  have HR : Hid (rightS h = (false && alikeS h (meantS h))) := hid (by unfold rightS okS; simp [hk])
  have fin : Hid (∀ (w1 : World) (m : Nat), Below w.heap.size w w1 → Below w.heap.size w (w1.drewN m)) := hid (fun w1 m hb => bel_drewN hb m)
  generalize alikeS h (meantS h) = al at *
  generalize rightS h = res at *
  generalize smallB h.name = sn at *
  generalize smallB h.var = sv at *
  generalize labB h.name = ln at *
  generalize labB h.label = ll at *
  clear d hm hb hbw cell
  obtain ⟨b, o, kind, name, label, var, aa, an, ac, ba, bn, bc, ea, en, ec, pos⟩ := h
  simp only at c0 c4 C0 C1 C2 C3 C4 C5 C6 hW KA KSn KSv KLn KLl CV CN HR hk ha ⊢
  obtain ⟨k1, k2, k3, k4, k5, k6, k7, k8, k9, k10, k11, k12, k13⟩ := hk
  have j1 : (kind == 1) = false := by simpa using k1
  have j2 : (kind == 2) = false := by simpa using k2
  have j3 : (kind == 3) = false := by simpa using k3
  have j4 : (kind == 4) = false := by simpa using k4
  have j5 : (kind == 5) = false := by simpa using k5
  have j6 : (kind == 6) = false := by simpa using k6
  have j7 : (kind == 7) = false := by simpa using k7
  have j8 : (kind == 8) = false := by simpa using k8
  have j9 : (kind == 9) = false := by simpa using k9
  have j10 : (kind == 10) = false := by simpa using k10
  have j11 : (kind == 11) = false := by simpa using k11
  have j12 : (kind == 12) = false := by simpa using k12
  have j13 : (kind == 13) = false := by simpa using k13
  go_enter Tryz.func85, Tryz.ntmps85
  go_wp2
  go_region_held3 (fun w2 => w2.cell? ⟨b, o, none⟩ = some (.int .i64 kind) ∧ w2.cell? ⟨b, o + 4, none⟩ = some (.slice aa an ac)) (first | go_keep) (fail)
  go_wp2_with (go_at_call 75; (rw [← hW]; clear hW; refine (KA.out W (Below.refl _ _)).mono ?_; rintro e w9 ⟨rfl, m, rfl⟩; have HB9 := hid (fin.out W m HW.out)))
  go_ret
  refine ⟨?_, ?_⟩
  · rw [HR.out]; exact ret_bool (by first | (simp; done) | (simp <;> intros <;> omega))
  · first | exact HB9.out | (rw [← hW]; exact HW.out)
end Go.Proofs.YtdfambocenohgaaGreatDoor

