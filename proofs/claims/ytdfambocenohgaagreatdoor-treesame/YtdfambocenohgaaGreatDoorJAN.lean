/- tree.isRightStmt. -/
import Derived.Test.YtdfambocenohgaaGreatDoorJAM
namespace Go.Proofs.YtdfambocenohgaaGreatDoor
open Go.RowKit Go.Deep
set_option linter.unusedVariables false
set_option linter.unusedSimpArgs false


set_option maxRecDepth 100000 in
set_option maxHeartbeats 4000000 in
theorem isRightS_11 (w : World) (h : SH) (d : SHr w h) (hm : MX w) (hk : h.kind = 11) : Calls Tryz.prog 85 #[.pointer (some ⟨h.b, h.o, none⟩)] w fun e w' => e = .returned (.bool (rightS h)) ∧ Below w.heap.size w w' := by
  have TR : Hid (∀ {Z x y : World}, Below Z.heap.size Z x → Below x.heap.size x y → Below Z.heap.size Z y) := hid (fun h1 h2 => h1.trans (h2.mono h1.size))
  have ha : (h.an : Int) ≤ 1000000 := by have := d.ab; omega
  have cell : ∀ {p : Addr} {v : Value} (o : Obj), w.cell? p = some v → (w.alloc o).cell? p = some v := fun o hc => (((Below.refl w.heap.size w).alloc (Nat.le_refl _) o).cell (World.block_lt_of_cell? w _ hc)).trans hc
  have c0 := d.c0
  have c4 := d.c4
  have C0 := fun o => cell o d.c0
  have C1 := fun o => cell o d.c1
  have C2 := fun o => cell o d.c2
  have C3 := fun o => cell o d.c3
  have C4 := fun o => cell o d.c4
  have C5 := fun o => cell o d.c5
  have C6 := fun o => cell o d.c6
  obtain ⟨W, hW⟩ : ∃ W, W = ((w.alloc (.cells #[.int .i64 11, .string ⟨#[]⟩, .string ⟨#[]⟩, .string ⟨#[]⟩, .slice h.aa h.an h.ac, .slice none 0 0, .slice none 0 0, .int .i64 0] 49)).drew : World) := ⟨_, rfl⟩
  have hb : W.heap[w.heap.size]? = some (.cells (meantS h).cs 49 (0, 0)) := by
    rw [hW]
    refine (heap_alloc_new w _).trans ?_
    simp [meantS, SH.cs, emp, hk]
  have hbw : Below w.heap.size w W := by rw [hW]; exact ((Below.refl _ w).alloc (Nat.le_refl _) _).drew
  have KA : Hid (∀ w1 : World, Below W.heap.size W w1 → Calls Tryz.prog 75 #[.pointer (some ⟨h.b, h.o, none⟩), .pointer (some ⟨w.heap.size, 0, none⟩)] w1 fun e w' => e = .returned (.bool (alikeS h (meantS h))) ∧ ∃ m, w' = w1.drewN m) := hid (fun w1 hb1 => by
    have dd := d.below (Nat.le_refl _) (hbw.trans (hb1.mono hbw.size))
    exact alikeS_any w1 h { meantS h with b := w.heap.size, o := 0 } dd (boxS dd ((hb1.block _ (Array.getElem?_eq_some_iff.1 hb).1).trans hb) (by simp [meantS, hk]) (by simp [meantS, hk]) (by simp [meantS, hk]) rfl (by simp [meantS, hk]) (by simp [meantS, hk])))
  have HW := hid hbw
  have KSn : Hid (∀ w1 : World, Below w.heap.size w w1 → Calls Tryz.prog 114 #[.string h.name] w1 fun e w' => e = .returned (.bool (smallB h.name)) ∧ Below w1.heap.size w1 w') := hid (fun w1 hb1 => isSmall_any h.name d.n w1 (hm.below hm.lt hb1))
  have KSv : Hid (∀ w1 : World, Below w.heap.size w w1 → Calls Tryz.prog 114 #[.string h.var] w1 fun e w' => e = .returned (.bool (smallB h.var)) ∧ Below w1.heap.size w1 w') := hid (fun w1 hb1 => isSmall_any h.var d.v w1 (hm.below hm.lt hb1))
  have KLn : Hid (∀ w1 : World, Below w.heap.size w w1 → Calls Tryz.prog 117 #[.string h.name] w1 fun e w' => e = .returned (.bool (labB h.name)) ∧ Below w1.heap.size w1 w') := hid (fun w1 hb1 => isLabel_any h.name d.n w1 (hm.below hm.lt hb1))
  have KLl : Hid (∀ w1 : World, Below w.heap.size w w1 → Calls Tryz.prog 117 #[.string h.label] w1 fun e w' => e = .returned (.bool (labB h.label)) ∧ Below w1.heap.size w1 w') := hid (fun w1 hb1 => isLabel_any h.label d.l w1 (hm.below hm.lt hb1))
  have CV : Hid (∀ w1 : World, Below w.heap.size w w1 → w1.cell? ⟨h.b, h.o + 3, none⟩ = some (.string h.var)) := hid (fun w1 hb1 => belowCell d.c3 (Nat.le_refl _) hb1)
  have CN : Hid (∀ w1 : World, Below w.heap.size w w1 → w1.cell? ⟨h.b, h.o + 1, none⟩ = some (.string h.name)) := hid (fun w1 hb1 => belowCell d.c1 (Nat.le_refl _) hb1)
  have HR : Hid (rightS h = (decide (h.an = 1) && alikeS h (meantS h))) := hid (by unfold rightS okS; simp [hk])
  have fin : Hid (∀ (w1 : World) (m : Nat), Below w.heap.size w w1 → Below w.heap.size w (w1.drewN m)) := hid (fun w1 m hb => bel_drewN hb m)
  generalize alikeS h (meantS h) = al at *
  generalize rightS h = res at *
  generalize smallB h.name = sn at *
  generalize smallB h.var = sv at *
  generalize labB h.name = ln at *
  generalize labB h.label = ll at *
  clear d hm hb hbw cell
  obtain ⟨b, o, kind, name, label, var, aa, an, ac, ba, bn, bc, ea, en, ec, pos⟩ := h
  simp only at c0 c4 C0 C1 C2 C3 C4 C5 C6 hW KA KSn KSv KLn KLl CV CN HR hk ha ⊢
  subst hk
  by_cases q1 : an = 1
  case pos =>
    subst q1
    go_enter Tryz.func85, Tryz.ntmps85
    go_wp2
    go_region_held3 (fun w2 => w2.cell? ⟨b, o, none⟩ = some (.int .i64 11) ∧ w2.cell? ⟨b, o + 4, none⟩ = some (.slice aa 1 ac)) (first | go_keep) (fail)
    go_wp2_with (go_at_call 75; (rw [← hW]; clear hW; refine (KA.out W (Below.refl _ _)).mono ?_; rintro e w9 ⟨rfl, m, rfl⟩; have HB9 := hid (fin.out W m HW.out)))
    go_ret
    refine ⟨?_, ?_⟩
    · rw [HR.out]; exact ret_bool (by first | (simp; done) | (simp <;> intros <;> omega))
    · first | exact HB9.out | (rw [← hW]; exact HW.out)
  case neg =>
    have q1' : ¬ (an : Int) = 1 := by omega
    go_enter Tryz.func85, Tryz.ntmps85
    go_wp2
    go_region_held3 (fun w2 => w2.cell? ⟨b, o, none⟩ = some (.int .i64 11) ∧ w2.cell? ⟨b, o + 4, none⟩ = some (.slice aa an ac)) (first | go_keep) (fail)
    go_wp2_with (go_at_call 75; (rw [← hW]; clear hW; refine (KA.out W (Below.refl _ _)).mono ?_; rintro e w9 ⟨rfl, m, rfl⟩; have HB9 := hid (fin.out W m HW.out)))
    go_ret
    refine ⟨?_, ?_⟩
    · rw [HR.out]; exact ret_bool (by first | (simp [q1]; done) | (simp <;> intros <;> omega))
    · first | exact HB9.out | (rw [← hW]; exact HW.out)

set_option maxRecDepth 100000 in
set_option maxHeartbeats 4000000 in
theorem isRightS_12 (w : World) (h : SH) (d : SHr w h) (hm : MX w) (hk : h.kind = 12) : Calls Tryz.prog 85 #[.pointer (some ⟨h.b, h.o, none⟩)] w fun e w' => e = .returned (.bool (rightS h)) ∧ Below w.heap.size w w' := by
  have TR : Hid (∀ {Z x y : World}, Below Z.heap.size Z x → Below x.heap.size x y → Below Z.heap.size Z y) := hid (fun h1 h2 => h1.trans (h2.mono h1.size))
  have ha : (h.an : Int) ≤ 1000000 := by have := d.ab; omega
  have cell : ∀ {p : Addr} {v : Value} (o : Obj), w.cell? p = some v → (w.alloc o).cell? p = some v := fun o hc => (((Below.refl w.heap.size w).alloc (Nat.le_refl _) o).cell (World.block_lt_of_cell? w _ hc)).trans hc
  have c0 := d.c0
  have c4 := d.c4
  have C0 := fun o => cell o d.c0
  have C1 := fun o => cell o d.c1
  have C2 := fun o => cell o d.c2
  have C3 := fun o => cell o d.c3
  have C4 := fun o => cell o d.c4
  have C5 := fun o => cell o d.c5
  have C6 := fun o => cell o d.c6
  obtain ⟨W, hW⟩ : ∃ W, W = ((w.alloc (.cells #[.int .i64 12, .string h.name, .string ⟨#[]⟩, .string ⟨#[]⟩, .slice h.aa h.an h.ac, .slice none 0 0, .slice none 0 0, .int .i64 0] 49)).drew : World) := ⟨_, rfl⟩
  have hb : W.heap[w.heap.size]? = some (.cells (meantS h).cs 49 (0, 0)) := by
    rw [hW]
    refine (heap_alloc_new w _).trans ?_
    simp [meantS, SH.cs, emp, hk]
  have hbw : Below w.heap.size w W := by rw [hW]; exact ((Below.refl _ w).alloc (Nat.le_refl _) _).drew
  have KA : Hid (∀ w1 : World, Below W.heap.size W w1 → Calls Tryz.prog 75 #[.pointer (some ⟨h.b, h.o, none⟩), .pointer (some ⟨w.heap.size, 0, none⟩)] w1 fun e w' => e = .returned (.bool (alikeS h (meantS h))) ∧ ∃ m, w' = w1.drewN m) := hid (fun w1 hb1 => by
    have dd := d.below (Nat.le_refl _) (hbw.trans (hb1.mono hbw.size))
    exact alikeS_any w1 h { meantS h with b := w.heap.size, o := 0 } dd (boxS dd ((hb1.block _ (Array.getElem?_eq_some_iff.1 hb).1).trans hb) (by simp [meantS, hk]) (by simp [meantS, hk]) (by simp [meantS, hk]) rfl (by simp [meantS, hk]) (by simp [meantS, hk])))
  have HW := hid hbw
  have KSn : Hid (∀ w1 : World, Below w.heap.size w w1 → Calls Tryz.prog 114 #[.string h.name] w1 fun e w' => e = .returned (.bool (smallB h.name)) ∧ Below w1.heap.size w1 w') := hid (fun w1 hb1 => isSmall_any h.name d.n w1 (hm.below hm.lt hb1))
  have KSv : Hid (∀ w1 : World, Below w.heap.size w w1 → Calls Tryz.prog 114 #[.string h.var] w1 fun e w' => e = .returned (.bool (smallB h.var)) ∧ Below w1.heap.size w1 w') := hid (fun w1 hb1 => isSmall_any h.var d.v w1 (hm.below hm.lt hb1))
  have KLn : Hid (∀ w1 : World, Below w.heap.size w w1 → Calls Tryz.prog 117 #[.string h.name] w1 fun e w' => e = .returned (.bool (labB h.name)) ∧ Below w1.heap.size w1 w') := hid (fun w1 hb1 => isLabel_any h.name d.n w1 (hm.below hm.lt hb1))
  have KLl : Hid (∀ w1 : World, Below w.heap.size w w1 → Calls Tryz.prog 117 #[.string h.label] w1 fun e w' => e = .returned (.bool (labB h.label)) ∧ Below w1.heap.size w1 w') := hid (fun w1 hb1 => isLabel_any h.label d.l w1 (hm.below hm.lt hb1))
  have CV : Hid (∀ w1 : World, Below w.heap.size w w1 → w1.cell? ⟨h.b, h.o + 3, none⟩ = some (.string h.var)) := hid (fun w1 hb1 => belowCell d.c3 (Nat.le_refl _) hb1)
  have CN : Hid (∀ w1 : World, Below w.heap.size w w1 → w1.cell? ⟨h.b, h.o + 1, none⟩ = some (.string h.name)) := hid (fun w1 hb1 => belowCell d.c1 (Nat.le_refl _) hb1)
  have HR : Hid (rightS h = ((smallB h.name && decide (1 ≤ h.an) && decide (h.an ≤ 13)) && alikeS h (meantS h))) := hid (by unfold rightS okS; simp [hk])
  have fin : Hid (∀ (w1 : World) (m : Nat), Below w.heap.size w w1 → Below w.heap.size w (w1.drewN m)) := hid (fun w1 m hb => bel_drewN hb m)
  generalize alikeS h (meantS h) = al at *
  generalize rightS h = res at *
  generalize smallB h.name = sn at *
  generalize smallB h.var = sv at *
  generalize labB h.name = ln at *
  generalize labB h.label = ll at *
  clear d hm hb hbw cell
  obtain ⟨b, o, kind, name, label, var, aa, an, ac, ba, bn, bc, ea, en, ec, pos⟩ := h
  simp only at c0 c4 C0 C1 C2 C3 C4 C5 C6 hW KA KSn KSv KLn KLl CV CN HR hk ha ⊢
  subst hk
  cases sn
  case false =>
    go_enter Tryz.func85, Tryz.ntmps85
    go_wp2
    go_region_held3 (fun w2 => w2.cell? ⟨b, o, none⟩ = some (.int .i64 12) ∧ w2.cell? ⟨b, o + 4, none⟩ = some (.slice aa an ac)) (first | go_keep) (fail)
    go_wp2_with (first
      | (go_at_call 114; (rw [← hW]; clear hW; refine (KSn.out W HW.out).mono ?_; rintro e w1 ⟨rfl, hb⟩; have HB1 := hid hb; clear hb))
      | (go_at_call 75; (refine (KA.out w1 HB1.out).mono ?_; rintro e w9 ⟨rfl, m, rfl⟩; have HB9 := hid (fin.out w1 m (TR.out HW.out HB1.out)))))
    go_ret
    refine ⟨?_, ?_⟩
    · rw [HR.out]; exact ret_bool (by first | (simp; done) | (simp <;> intros <;> omega))
    · first | exact HB9.out | exact TR.out HW.out HB1.out | (rw [← hW]; exact HW.out)
  case true =>
    by_cases q2 : 1 ≤ an
    case pos =>
      have q2' : (1 : Int) ≤ (an : Int) := by omega
      by_cases q1 : an ≤ 13
      case pos =>
        have q1' : (an : Int) ≤ 13 := by omega
        go_enter Tryz.func85, Tryz.ntmps85
        go_wp2
        go_region_held3 (fun w2 => w2.cell? ⟨b, o, none⟩ = some (.int .i64 12) ∧ w2.cell? ⟨b, o + 4, none⟩ = some (.slice aa an ac)) (first | go_keep) (fail)
        go_wp2_with (first
          | (go_at_call 114; (rw [← hW]; clear hW; refine (KSn.out W HW.out).mono ?_; rintro e w1 ⟨rfl, hb⟩; have HB1 := hid hb; clear hb))
          | (go_at_call 75; (refine (KA.out w1 HB1.out).mono ?_; rintro e w9 ⟨rfl, m, rfl⟩; have HB9 := hid (fin.out w1 m (TR.out HW.out HB1.out)))))
        go_ret
        refine ⟨?_, ?_⟩
        · rw [HR.out]; exact ret_bool (by first | (simp [q2, q1]; done) | (simp <;> intros <;> omega))
        · first | exact HB9.out | exact TR.out HW.out HB1.out | (rw [← hW]; exact HW.out)
      case neg =>
        have q1' : ¬ (an : Int) ≤ 13 := by omega
        go_enter Tryz.func85, Tryz.ntmps85
        go_wp2
        go_region_held3 (fun w2 => w2.cell? ⟨b, o, none⟩ = some (.int .i64 12) ∧ w2.cell? ⟨b, o + 4, none⟩ = some (.slice aa an ac)) (first | go_keep) (fail)
        go_wp2_with (first
          | (go_at_call 114; (rw [← hW]; clear hW; refine (KSn.out W HW.out).mono ?_; rintro e w1 ⟨rfl, hb⟩; have HB1 := hid hb; clear hb))
          | (go_at_call 75; (refine (KA.out w1 HB1.out).mono ?_; rintro e w9 ⟨rfl, m, rfl⟩; have HB9 := hid (fin.out w1 m (TR.out HW.out HB1.out)))))
        go_ret
        refine ⟨?_, ?_⟩
        · rw [HR.out]; exact ret_bool (by first | (simp [q2, q1]; done) | (simp <;> intros <;> omega))
        · first | exact HB9.out | exact TR.out HW.out HB1.out | (rw [← hW]; exact HW.out)
    case neg =>
      have q2' : ¬ (1 : Int) ≤ (an : Int) := by omega
      go_enter Tryz.func85, Tryz.ntmps85
      go_wp2
      go_region_held3 (fun w2 => w2.cell? ⟨b, o, none⟩ = some (.int .i64 12) ∧ w2.cell? ⟨b, o + 4, none⟩ = some (.slice aa an ac)) (first | go_keep) (fail)
      go_wp2_with (first
        | (go_at_call 114; (rw [← hW]; clear hW; refine (KSn.out W HW.out).mono ?_; rintro e w1 ⟨rfl, hb⟩; have HB1 := hid hb; clear hb))
        | (go_at_call 75; (refine (KA.out w1 HB1.out).mono ?_; rintro e w9 ⟨rfl, m, rfl⟩; have HB9 := hid (fin.out w1 m (TR.out HW.out HB1.out)))))
      go_ret
      refine ⟨?_, ?_⟩
      · rw [HR.out]; exact ret_bool (by first | (simp [q2]; done) | (simp <;> intros <;> omega))
      · first | exact HB9.out | exact TR.out HW.out HB1.out | (rw [← hW]; exact HW.out)

set_option maxRecDepth 100000 in
set_option maxHeartbeats 4000000 in
theorem isRightS_13 (w : World) (h : SH) (d : SHr w h) (hm : MX w) (hk : h.kind = 13) : Calls Tryz.prog 85 #[.pointer (some ⟨h.b, h.o, none⟩)] w fun e w' => e = .returned (.bool (rightS h)) ∧ Below w.heap.size w w' := by
  have TR : Hid (∀ {Z x y : World}, Below Z.heap.size Z x → Below x.heap.size x y → Below Z.heap.size Z y) := hid (fun h1 h2 => h1.trans (h2.mono h1.size))
  have ha : (h.an : Int) ≤ 1000000 := by have := d.ab; omega
  have cell : ∀ {p : Addr} {v : Value} (o : Obj), w.cell? p = some v → (w.alloc o).cell? p = some v := fun o hc => (((Below.refl w.heap.size w).alloc (Nat.le_refl _) o).cell (World.block_lt_of_cell? w _ hc)).trans hc
  have c0 := d.c0
  have c4 := d.c4
  have C0 := fun o => cell o d.c0
  have C1 := fun o => cell o d.c1
  have C2 := fun o => cell o d.c2
  have C3 := fun o => cell o d.c3
  have C4 := fun o => cell o d.c4
  have C5 := fun o => cell o d.c5
  have C6 := fun o => cell o d.c6
  obtain ⟨W, hW⟩ : ∃ W, W = ((w.alloc (.cells #[.int .i64 13, .string ⟨#[]⟩, .string ⟨#[]⟩, .string ⟨#[]⟩, .slice h.aa h.an h.ac, .slice none 0 0, .slice none 0 0, .int .i64 0] 49)).drew : World) := ⟨_, rfl⟩
  have hb : W.heap[w.heap.size]? = some (.cells (meantS h).cs 49 (0, 0)) := by
    rw [hW]
    refine (heap_alloc_new w _).trans ?_
    simp [meantS, SH.cs, emp, hk]
  have hbw : Below w.heap.size w W := by rw [hW]; exact ((Below.refl _ w).alloc (Nat.le_refl _) _).drew
  have KA : Hid (∀ w1 : World, Below W.heap.size W w1 → Calls Tryz.prog 75 #[.pointer (some ⟨h.b, h.o, none⟩), .pointer (some ⟨w.heap.size, 0, none⟩)] w1 fun e w' => e = .returned (.bool (alikeS h (meantS h))) ∧ ∃ m, w' = w1.drewN m) := hid (fun w1 hb1 => by
    have dd := d.below (Nat.le_refl _) (hbw.trans (hb1.mono hbw.size))
    exact alikeS_any w1 h { meantS h with b := w.heap.size, o := 0 } dd (boxS dd ((hb1.block _ (Array.getElem?_eq_some_iff.1 hb).1).trans hb) (by simp [meantS, hk]) (by simp [meantS, hk]) (by simp [meantS, hk]) rfl (by simp [meantS, hk]) (by simp [meantS, hk])))
  have HW := hid hbw
  have KSn : Hid (∀ w1 : World, Below w.heap.size w w1 → Calls Tryz.prog 114 #[.string h.name] w1 fun e w' => e = .returned (.bool (smallB h.name)) ∧ Below w1.heap.size w1 w') := hid (fun w1 hb1 => isSmall_any h.name d.n w1 (hm.below hm.lt hb1))
  have KSv : Hid (∀ w1 : World, Below w.heap.size w w1 → Calls Tryz.prog 114 #[.string h.var] w1 fun e w' => e = .returned (.bool (smallB h.var)) ∧ Below w1.heap.size w1 w') := hid (fun w1 hb1 => isSmall_any h.var d.v w1 (hm.below hm.lt hb1))
  have KLn : Hid (∀ w1 : World, Below w.heap.size w w1 → Calls Tryz.prog 117 #[.string h.name] w1 fun e w' => e = .returned (.bool (labB h.name)) ∧ Below w1.heap.size w1 w') := hid (fun w1 hb1 => isLabel_any h.name d.n w1 (hm.below hm.lt hb1))
  have KLl : Hid (∀ w1 : World, Below w.heap.size w w1 → Calls Tryz.prog 117 #[.string h.label] w1 fun e w' => e = .returned (.bool (labB h.label)) ∧ Below w1.heap.size w1 w') := hid (fun w1 hb1 => isLabel_any h.label d.l w1 (hm.below hm.lt hb1))
  have CV : Hid (∀ w1 : World, Below w.heap.size w w1 → w1.cell? ⟨h.b, h.o + 3, none⟩ = some (.string h.var)) := hid (fun w1 hb1 => belowCell d.c3 (Nat.le_refl _) hb1)
  have CN : Hid (∀ w1 : World, Below w.heap.size w w1 → w1.cell? ⟨h.b, h.o + 1, none⟩ = some (.string h.name)) := hid (fun w1 hb1 => belowCell d.c1 (Nat.le_refl _) hb1)
  have HR : Hid (rightS h = (decide (h.an = 1) && alikeS h (meantS h))) := hid (by unfold rightS okS; simp [hk])
  have fin : Hid (∀ (w1 : World) (m : Nat), Below w.heap.size w w1 → Below w.heap.size w (w1.drewN m)) := hid (fun w1 m hb => bel_drewN hb m)
  generalize alikeS h (meantS h) = al at *
  generalize rightS h = res at *
  generalize smallB h.name = sn at *
  generalize smallB h.var = sv at *
  generalize labB h.name = ln at *
  generalize labB h.label = ll at *
  clear d hm hb hbw cell
  obtain ⟨b, o, kind, name, label, var, aa, an, ac, ba, bn, bc, ea, en, ec, pos⟩ := h
  simp only at c0 c4 C0 C1 C2 C3 C4 C5 C6 hW KA KSn KSv KLn KLl CV CN HR hk ha ⊢
  subst hk
  by_cases q1 : an = 1
  case pos =>
    subst q1
    go_enter Tryz.func85, Tryz.ntmps85
    go_wp2
    go_region_held3 (fun w2 => w2.cell? ⟨b, o, none⟩ = some (.int .i64 13) ∧ w2.cell? ⟨b, o + 4, none⟩ = some (.slice aa 1 ac)) (first | go_keep) (fail)
    go_wp2_with (go_at_call 75; (rw [← hW]; clear hW; refine (KA.out W (Below.refl _ _)).mono ?_; rintro e w9 ⟨rfl, m, rfl⟩; have HB9 := hid (fin.out W m HW.out)))
    go_ret
    refine ⟨?_, ?_⟩
    · rw [HR.out]; exact ret_bool (by first | (simp; done) | (simp <;> intros <;> omega))
    · first | exact HB9.out | (rw [← hW]; exact HW.out)
  case neg =>
    have q1' : ¬ (an : Int) = 1 := by omega
    go_enter Tryz.func85, Tryz.ntmps85
    go_wp2
    go_region_held3 (fun w2 => w2.cell? ⟨b, o, none⟩ = some (.int .i64 13) ∧ w2.cell? ⟨b, o + 4, none⟩ = some (.slice aa an ac)) (first | go_keep) (fail)
    go_wp2_with (go_at_call 75; (rw [← hW]; clear hW; refine (KA.out W (Below.refl _ _)).mono ?_; rintro e w9 ⟨rfl, m, rfl⟩; have HB9 := hid (fin.out W m HW.out)))
    go_ret
    refine ⟨?_, ?_⟩
    · rw [HR.out]; exact ret_bool (by first | (simp [q1]; done) | (simp <;> intros <;> omega))
    · first | exact HB9.out | (rw [← hW]; exact HW.out)
end Go.Proofs.YtdfambocenohgaaGreatDoor

namespace Go.Proofs.YtdfambocenohgaaGreatDoor
open Go.RowKit Go.Deep
set_option linter.unusedVariables false
set_option linter.unusedSimpArgs false


theorem isRightS_any (w : World) (h : SH) (d : SHr w h) (hm : MX w) : Calls Tryz.prog 85 #[.pointer (some ⟨h.b, h.o, none⟩)] w fun e w' => e = .returned (.bool (rightS h)) ∧ Below w.heap.size w w' := by
  by_cases k1 : h.kind = 1
  · exact isRightS_1 w h d hm k1
  by_cases k2 : h.kind = 2
  · exact isRightS_2 w h d hm k2
  by_cases k3 : h.kind = 3
  · exact isRightS_3 w h d hm k3
  by_cases k4 : h.kind = 4
  · exact isRightS_4 w h d hm k4
  by_cases k5 : h.kind = 5
  · exact isRightS_5 w h d hm k5
  by_cases k6 : h.kind = 6
  · exact isRightS_6 w h d hm k6
  by_cases k7 : h.kind = 7
  · exact isRightS_7 w h d hm k7
  by_cases k8 : h.kind = 8
  · exact isRightS_8 w h d hm k8
  by_cases k9 : h.kind = 9
  · exact isRightS_9 w h d hm k9
  by_cases k10 : h.kind = 10
  · exact isRightS_10 w h d hm k10
  by_cases k11 : h.kind = 11
  · exact isRightS_11 w h d hm k11
  by_cases k12 : h.kind = 12
  · exact isRightS_12 w h d hm k12
  by_cases k13 : h.kind = 13
  · exact isRightS_13 w h d hm k13
  exact isRightS_0 w h d hm ⟨k1, k2, k3, k4, k5, k6, k7, k8, k9, k10, k11, k12, k13⟩
end Go.Proofs.YtdfambocenohgaaGreatDoor

namespace Go.Proofs.YtdfambocenohgaaGreatDoor
open Go.RowKit Go.Deep
set_option linter.unusedVariables false
set_option linter.unusedSimpArgs false

def DH.cs (m : DH) : Array Value := #[.string m.name, .slice m.pa m.pn m.pc, .string m.key, .string m.value, .string m.result, .slice m.ba m.bn m.bc, .int .i64 m.pos]
/- What the sort has a meaning for. -/
def meantD (h : DH) : DH := { h with pa := if h.sort = wMap then none else h.pa, pn := if h.sort = wMap then 0 else h.pn, pc := if h.sort = wMap then 0 else h.pc, params := if h.sort = wMap then [] else h.params, key := if h.sort = wMap then h.key else emp, value := if h.sort = wMap then h.value else emp, result := if h.sort = wFn then h.result else emp, ba := if h.sort = wFn ∨ h.sort = wOn then h.ba else none, bn := if h.sort = wFn ∨ h.sort = wOn then h.bn else 0, bc := if h.sort = wFn ∨ h.sort = wOn then h.bc else 0, pos := 0 }
def okD (h : DH) : Bool :=
  if h.sort = wRec then greatB h.name && decide (1 ≤ h.pn) && paramsB simpB h.params else
  if h.sort = wMap then smallB h.name && keyB h.key && typB h.value else
  if h.sort = wFn then smallB h.name && paramsB typB h.params && (h.result.toList.isEmpty || typB h.result) else
  if h.sort = wOn then smallB h.name && paramsB typB h.params else false
def rightD (h : DH) : Bool := okD h && alikeD h (meantD h)
def SortOk (h : DH) : Prop := h.sort = wRec ∨ h.sort = wMap ∨ h.sort = wFn ∨ h.sort = wOn
theorem ne_rm : ¬ wRec = wMap := by decide
theorem ne_rf : ¬ wRec = wFn := by decide
theorem ne_ro : ¬ wRec = wOn := by decide
theorem ne_mr : ¬ wMap = wRec := by decide
theorem ne_mf : ¬ wMap = wFn := by decide
theorem ne_mo : ¬ wMap = wOn := by decide
theorem ne_fr : ¬ wFn = wRec := by decide
theorem ne_fm : ¬ wFn = wMap := by decide
theorem ne_fo : ¬ wFn = wOn := by decide
theorem ne_or : ¬ wOn = wRec := by decide
theorem ne_om : ¬ wOn = wMap := by decide
theorem ne_of : ¬ wOn = wFn := by decide
theorem boxD {W : World} {h m : DH} {M : Nat} (d : DHr W h) (hb : W.heap[M]? = some (.cells m.cs 52 (0, 0))) (hn : m.name = h.name) (hk : m.key = h.key ∨ m.key = emp) (hv : m.value = h.value ∨ m.value = emp) (hr : m.result = h.result ∨ m.result = emp) (hp : (m.pa = h.pa ∧ m.pn = h.pn ∧ m.params = h.params) ∨ (m.pn = 0 ∧ m.params = [])) (h1 : m.bn = h.bn ∨ m.bn = 0) : DHr W { m with b := M, o := 0 } := by
  have c := cellT hb
  have e0 : emp.size ≤ 9223372036854775807 := by decide
  refine ⟨c 0, c 1, c 2, c 3, c 4, c 5, c 6, ?_, ?_, ?_, ?_, ?_, ?_, ?_, ?_, ?_⟩
  · show m.name.size ≤ _; rw [hn]; exact d.n
  · rcases hk with e | e
    · show m.key.size ≤ _; rw [e]; exact d.k
    · show m.key.size ≤ _; rw [e]; exact e0
  · rcases hv with e | e
    · show m.value.size ≤ _; rw [e]; exact d.v
    · show m.value.size ≤ _; rw [e]; exact e0
  · rcases hr with e | e
    · show m.result.size ≤ _; rw [e]; exact d.r
    · show m.result.size ≤ _; rw [e]; exact e0
  · rcases hp with ⟨e1, e2, e3⟩ | ⟨e2, e3⟩
    · show m.pn = m.params.length; rw [e2, e3]; exact d.pl
    · show m.pn = m.params.length; rw [e2, e3]; rfl
  · rcases hp with ⟨e1, e2, e3⟩ | ⟨e2, e3⟩
    · show m.pn ≤ _; rw [e2]; exact d.pb
    · show m.pn ≤ _; rw [e2]; decide
  · rcases hp with ⟨e1, e2, e3⟩ | ⟨e2, e3⟩
    · show ∀ s ∈ m.params, _; rw [e3]; exact d.ps
    · show ∀ s ∈ m.params, _; rw [e3]; intro s hs; cases hs
  · rcases hp with ⟨e1, e2, e3⟩ | ⟨e2, e3⟩
    · show PLs W m.pa m.params; rw [e1, e3]; exact d.pr
    · show PLs W m.pa m.params; rw [e3]; intro j s hs; simp at hs
  · rcases h1 with e | e
    · show m.bn ≤ _; rw [e]; exact d.bb
    · show m.bn ≤ _; rw [e]; decide
theorem enters113 : ∀ args w, (callFunc 113 args).run Tryz.prog w = .ok (.enter 113 args) w := enters_of Tryz.func113 (by kernel_rfl) rfl
theorem enters116 : ∀ args w, (callFunc 116 args).run Tryz.prog w = .ok (.enter 116 args) w := enters_of Tryz.func116 (by kernel_rfl) rfl
end Go.Proofs.YtdfambocenohgaaGreatDoor

namespace Go.Proofs.YtdfambocenohgaaGreatDoor
open Go.RowKit Go.Deep
set_option linter.unusedVariables false
set_option linter.unusedSimpArgs false


set_option maxRecDepth 100000 in
set_option maxHeartbeats 4000000 in
theorem isRightD_Rec (w : World) (h : DH) (d : DHr w h) (hm : MX w) (hk : h.sort = wRec) : Calls Tryz.prog 84 #[.agg #[.string h.sort, .pointer (some ⟨h.b, h.o, none⟩)]] w fun e w' => e = .returned (.bool (rightD h)) ∧ Below w.heap.size w w' := by
  have TR : Hid (∀ {Z x y : World}, Below Z.heap.size Z x → Below x.heap.size x y → Below Z.heap.size Z y) := hid (fun h1 h2 => h1.trans (h2.mono h1.size))
  have hpn : (h.pn : Int) ≤ 1000000 := by have := d.pb; omega
  have cell : ∀ {p : Addr} {v : Value} (o : Obj), w.cell? p = some v → (w.alloc o).cell? p = some v := fun o hc => (((Below.refl w.heap.size w).alloc (Nat.le_refl _) o).cell (World.block_lt_of_cell? w _ hc)).trans hc
  have cell2 : ∀ {p : Addr} {v : Value} (o o' : Obj), w.cell? p = some v → ((w.alloc o).alloc o').cell? p = some v := fun o o' hc => ((((Below.refl w.heap.size w).alloc (Nat.le_refl _) o).alloc (by simp) o').cell (World.block_lt_of_cell? w _ hc)).trans hc
  have A0 := fun o => cell o d.c0
  have C0 := fun o o' => cell2 o o' d.c0
  have C1 := fun o o' => cell2 o o' d.c1
  have C2 := fun o o' => cell2 o o' d.c2
  have C3 := fun o o' => cell2 o o' d.c3
  have C4 := fun o o' => cell2 o o' d.c4
  have C5 := fun o o' => cell2 o o' d.c5
  obtain ⟨X, hX⟩ : ∃ X, X = w.alloc (.cells #[.string ⟨#[114, 101, 99, 111, 114, 100]⟩, .pointer (some ⟨h.b, h.o, none⟩)] 105) := ⟨_, rfl⟩
  obtain ⟨W, hW⟩ : ∃ W, W = (((w.alloc (.cells #[.string ⟨#[114, 101, 99, 111, 114, 100]⟩, .pointer (some ⟨h.b, h.o, none⟩)] 105)).alloc (.cells #[.string h.name, .slice h.pa h.pn h.pc, .string ⟨#[]⟩, .string ⟨#[]⟩, .string ⟨#[]⟩, .slice none 0 0, .int .i64 0] 52)) : World) := ⟨_, rfl⟩
  have hb : W.heap[w.heap.size + 1]? = some (.cells (meantD h).cs 52 (0, 0)) := by
    rw [hW, ← hX]
    have := heap_alloc_new X (.cells #[.string h.name, .slice h.pa h.pn h.pc, .string ⟨#[]⟩, .string ⟨#[]⟩, .string ⟨#[]⟩, .slice none 0 0, .int .i64 0] 52)
    rw [show X.heap.size = w.heap.size + 1 by rw [hX]; simp] at this
    refine this.trans ?_
    simp [meantD, DH.cs, emp, hk, ne_rm, ne_rf, ne_ro]
  have hbw : Below w.heap.size w W := by rw [hW]; exact (((Below.refl _ w).alloc (Nat.le_refl _) _).alloc (by simp) _)
  have hbx : W.heap[w.heap.size]? = some (.cells #[.string ⟨#[114, 101, 99, 111, 114, 100]⟩, .pointer (some ⟨h.b, h.o, none⟩)] 105 (0, 0)) := by
    rw [hW]
    exact (Below.heap_alloc _ _ _ (by simp)).trans (heap_alloc_new w _)
  have KA : Hid (∀ w1 : World, Below W.heap.size W w1 → Calls Tryz.prog 74 #[.pointer (some ⟨h.b, h.o, none⟩), .pointer (some ⟨w.heap.size + 1, 0, none⟩)] w1 fun e w' => e = .returned (.bool (alikeD h (meantD h))) ∧ ∃ m, w' = w1.drewN m) := hid (fun w1 hb1 => by
    have dd := d.below (Nat.le_refl _) (hbw.trans (hb1.mono hbw.size))
    exact alikeD_any w1 h { meantD h with b := w.heap.size + 1, o := 0 } dd (boxD dd ((hb1.block _ (Array.getElem?_eq_some_iff.1 hb).1).trans hb) rfl (by simp [meantD, hk, ne_rm, ne_rf, ne_ro]) (by simp [meantD, hk, ne_rm, ne_rf, ne_ro]) (by simp [meantD, hk, ne_rm, ne_rf, ne_ro]) (by simp [meantD, hk, ne_rm, ne_rf, ne_ro]) (by simp [meantD, hk, ne_rm, ne_rf, ne_ro])))
  have HW := hid hbw
  have K111 : Hid (∀ w1 : World, Below w.heap.size w w1 → Calls Tryz.prog 111 #[.string h.name] w1 fun e w' => e = .returned (.bool (greatB h.name)) ∧ Below w1.heap.size w1 w') := hid (fun w1 hb1 => isGreat_any h.name d.n w1 (hm.below hm.lt hb1))
  have K114 : Hid (∀ w1 : World, Below w.heap.size w w1 → Calls Tryz.prog 114 #[.string h.name] w1 fun e w' => e = .returned (.bool (smallB h.name)) ∧ Below w1.heap.size w1 w') := hid (fun w1 hb1 => isSmall_any h.name d.n w1 (hm.below hm.lt hb1))
  have K115 : Hid (∀ w1 : World, Below w.heap.size w w1 → Calls Tryz.prog 115 #[.string h.key] w1 fun e w' => e = .returned (.bool (keyB h.key)) ∧ Below w1.heap.size w1 w') := hid (fun w1 hb1 => (isKey_any h.key w1).mono (fun e w' ⟨h1, h2⟩ => ⟨h1, h2 ▸ Below.refl _ _⟩))
  have K116v : Hid (∀ w1 : World, Below w.heap.size w w1 → Calls Tryz.prog 116 #[.string h.value] w1 fun e w' => e = .returned (.bool (typB h.value)) ∧ Below w1.heap.size w1 w') := hid (fun w1 hb1 => isType_any h.value d.v w1 (hm.below hm.lt hb1))
  have K116r : Hid (∀ w1 : World, Below w.heap.size w w1 → Calls Tryz.prog 116 #[.string h.result] w1 fun e w' => e = .returned (.bool (typB h.result)) ∧ Below w1.heap.size w1 w') := hid (fun w1 hb1 => isType_any h.result d.r w1 (hm.below hm.lt hb1))
  have K112s : Hid (∀ w1 : World, Below w.heap.size w w1 → Calls Tryz.prog 112 #[.slice h.pa h.pn h.pc, .func (.func 113) #[] #[]] w1 fun e w' => e = .returned (.bool (paramsB simpB h.params)) ∧ Below w1.heap.size w1 w') := hid (fun w1 hb1 => params_any 113 simpB enters113 (fun s w _ _ => (isSimple_any s w).mono (fun e w' ⟨h1, h2⟩ => ⟨h1, h2 ▸ Below.refl _ _⟩)) w1 h.pa h.pn h.pc h.params d.pl d.pb (d.pr.below (Nat.le_refl _) hb1) d.ps (hm.below hm.lt hb1))
  have K112t : Hid (∀ w1 : World, Below w.heap.size w w1 → Calls Tryz.prog 112 #[.slice h.pa h.pn h.pc, .func (.func 116) #[] #[]] w1 fun e w' => e = .returned (.bool (paramsB typB h.params)) ∧ Below w1.heap.size w1 w') := hid (fun w1 hb1 => params_any 116 typB enters116 (fun s w hs hm => isType_any s hs w hm) w1 h.pa h.pn h.pc h.params d.pl d.pb (d.pr.below (Nat.le_refl _) hb1) d.ps (hm.below hm.lt hb1))
  have CB : Hid (∀ w1 : World, Below W.heap.size W w1 → w1.cell? ⟨w.heap.size, 1, none⟩ = some (.pointer (some ⟨h.b, h.o, none⟩)) ∧ w1.cell? ⟨h.b, h.o + 1, none⟩ = some (.slice h.pa h.pn h.pc) ∧ w1.cell? ⟨h.b, h.o + 2, none⟩ = some (.string h.key) ∧ w1.cell? ⟨h.b, h.o + 3, none⟩ = some (.string h.value) ∧ w1.cell? ⟨h.b, h.o + 4, none⟩ = some (.string h.result)) := hid (fun w1 hb1 => by
    have dd := d.below (Nat.le_refl _) (hbw.trans (hb1.mono hbw.size))
    exact ⟨cellT ((hb1.block _ (Array.getElem?_eq_some_iff.1 hbx).1).trans hbx) 1, dd.c1, dd.c2, dd.c3, dd.c4⟩)
  have HR : Hid (rightD h = ((greatB h.name && decide (1 ≤ h.pn) && paramsB simpB h.params) && alikeD h (meantD h))) := hid (by unfold rightD okD; simp [hk, ne_rm, ne_rf, ne_ro])
  have fin : Hid (∀ (w1 : World) (m : Nat), Below w.heap.size w w1 → Below w.heap.size w (w1.drewN m)) := hid (fun w1 m hb => bel_drewN hb m)
  generalize alikeD h (meantD h) = al at *
  generalize rightD h = res at *
  generalize greatB h.name = gr at *
  generalize smallB h.name = sm at *
  generalize keyB h.key = ky at *
  generalize typB h.value = tv at *
  generalize typB h.result = tr at *
  generalize paramsB simpB h.params = ps at *
  generalize paramsB typB h.params = pt at *
  clear d hm hb hbx hbw cell cell2 hX
  obtain ⟨sort, b, o, name, pa, pn, pc, key, value, result, ba, bn, bc, pos, params⟩ := h
  simp only at A0 C0 C1 C2 C3 C4 C5 hW KA K111 K114 K115 K116v K116r K112s K112t CB HR hk hpn ⊢
  subst hk
  unfold wRec
  cases gr
  case false =>
    go_enter Tryz.func84, Tryz.ntmps84
    go_wp2_with (first
      | (go_at_call 112; (have hno := HB1; refine (K112s.out w1 (TR.out HW.out HB1.out)).mono ?_; rintro e w2 ⟨rfl, hb⟩; have HB2 := hid (TR.out HB1.out hb); have nn2 := CB.out w2 HB2.out; obtain ⟨n20, n21, n22, n23, n24⟩ := nn2; clear hb))
      | (go_at_call 111; (rw [← hW]; clear hW; refine (K111.out W HW.out).mono ?_; rintro e w1 ⟨rfl, hb⟩; have HB1 := hid hb; have nn1 := CB.out w1 HB1.out; obtain ⟨n10, n11, n12, n13, n14⟩ := nn1; clear hb))
      | (go_at_call 74; (refine (KA.out w2 HB2.out).mono ?_; rintro e w9 ⟨rfl, m, rfl⟩; have HB9 := hid (fin.out w2 m (TR.out HW.out HB2.out)))))
    go_ret
    refine ⟨?_, ?_⟩
    · rw [HR.out]; exact ret_bool (by first | (simp; done) | (simp <;> intros <;> omega))
    · first | exact HB9.out | exact TR.out HW.out HB2.out | exact TR.out HW.out HB1.out
  case true =>
    by_cases q2 : 1 ≤ pn
    case pos =>
      have q2' : (1 : Int) ≤ (pn : Int) := by omega
      cases ps
      case false =>
        go_enter Tryz.func84, Tryz.ntmps84
        go_wp2_with (first
          | (go_at_call 112; (have hno := HB1; refine (K112s.out w1 (TR.out HW.out HB1.out)).mono ?_; rintro e w2 ⟨rfl, hb⟩; have HB2 := hid (TR.out HB1.out hb); have nn2 := CB.out w2 HB2.out; obtain ⟨n20, n21, n22, n23, n24⟩ := nn2; clear hb))
          | (go_at_call 111; (rw [← hW]; clear hW; refine (K111.out W HW.out).mono ?_; rintro e w1 ⟨rfl, hb⟩; have HB1 := hid hb; have nn1 := CB.out w1 HB1.out; obtain ⟨n10, n11, n12, n13, n14⟩ := nn1; clear hb))
          | (go_at_call 74; (refine (KA.out w2 HB2.out).mono ?_; rintro e w9 ⟨rfl, m, rfl⟩; have HB9 := hid (fin.out w2 m (TR.out HW.out HB2.out)))))
        go_ret
        refine ⟨?_, ?_⟩
        · rw [HR.out]; exact ret_bool (by first | (simp [q2]; done) | (simp <;> intros <;> omega))
        · first | exact HB9.out | exact TR.out HW.out HB2.out | exact TR.out HW.out HB1.out
      case true =>
        go_enter Tryz.func84, Tryz.ntmps84
        go_wp2_with (first
          | (go_at_call 112; (have hno := HB1; refine (K112s.out w1 (TR.out HW.out HB1.out)).mono ?_; rintro e w2 ⟨rfl, hb⟩; have HB2 := hid (TR.out HB1.out hb); have nn2 := CB.out w2 HB2.out; obtain ⟨n20, n21, n22, n23, n24⟩ := nn2; clear hb))
          | (go_at_call 111; (rw [← hW]; clear hW; refine (K111.out W HW.out).mono ?_; rintro e w1 ⟨rfl, hb⟩; have HB1 := hid hb; have nn1 := CB.out w1 HB1.out; obtain ⟨n10, n11, n12, n13, n14⟩ := nn1; clear hb))
          | (go_at_call 74; (refine (KA.out w2 HB2.out).mono ?_; rintro e w9 ⟨rfl, m, rfl⟩; have HB9 := hid (fin.out w2 m (TR.out HW.out HB2.out)))))
        go_ret
        refine ⟨?_, ?_⟩
        · rw [HR.out]; exact ret_bool (by first | (simp [q2]; done) | (simp <;> intros <;> omega))
        · first | exact HB9.out | exact TR.out HW.out HB2.out | exact TR.out HW.out HB1.out
    case neg =>
      have q2' : ¬ (1 : Int) ≤ (pn : Int) := by omega
      go_enter Tryz.func84, Tryz.ntmps84
      go_wp2_with (first
        | (go_at_call 112; (have hno := HB1; refine (K112s.out w1 (TR.out HW.out HB1.out)).mono ?_; rintro e w2 ⟨rfl, hb⟩; have HB2 := hid (TR.out HB1.out hb); have nn2 := CB.out w2 HB2.out; obtain ⟨n20, n21, n22, n23, n24⟩ := nn2; clear hb))
        | (go_at_call 111; (rw [← hW]; clear hW; refine (K111.out W HW.out).mono ?_; rintro e w1 ⟨rfl, hb⟩; have HB1 := hid hb; have nn1 := CB.out w1 HB1.out; obtain ⟨n10, n11, n12, n13, n14⟩ := nn1; clear hb))
        | (go_at_call 74; (refine (KA.out w2 HB2.out).mono ?_; rintro e w9 ⟨rfl, m, rfl⟩; have HB9 := hid (fin.out w2 m (TR.out HW.out HB2.out)))))
      go_ret
      refine ⟨?_, ?_⟩
      · rw [HR.out]; exact ret_bool (by first | (simp [q2]; done) | (simp <;> intros <;> omega))
      · first | exact HB9.out | exact TR.out HW.out HB2.out | exact TR.out HW.out HB1.out

set_option maxRecDepth 100000 in
set_option maxHeartbeats 4000000 in
theorem isRightD_Map (w : World) (h : DH) (d : DHr w h) (hm : MX w) (hk : h.sort = wMap) : Calls Tryz.prog 84 #[.agg #[.string h.sort, .pointer (some ⟨h.b, h.o, none⟩)]] w fun e w' => e = .returned (.bool (rightD h)) ∧ Below w.heap.size w w' := by
  have TR : Hid (∀ {Z x y : World}, Below Z.heap.size Z x → Below x.heap.size x y → Below Z.heap.size Z y) := hid (fun h1 h2 => h1.trans (h2.mono h1.size))
  have hpn : (h.pn : Int) ≤ 1000000 := by have := d.pb; omega
  have cell : ∀ {p : Addr} {v : Value} (o : Obj), w.cell? p = some v → (w.alloc o).cell? p = some v := fun o hc => (((Below.refl w.heap.size w).alloc (Nat.le_refl _) o).cell (World.block_lt_of_cell? w _ hc)).trans hc
  have cell2 : ∀ {p : Addr} {v : Value} (o o' : Obj), w.cell? p = some v → ((w.alloc o).alloc o').cell? p = some v := fun o o' hc => ((((Below.refl w.heap.size w).alloc (Nat.le_refl _) o).alloc (by simp) o').cell (World.block_lt_of_cell? w _ hc)).trans hc
  have A0 := fun o => cell o d.c0
  have C0 := fun o o' => cell2 o o' d.c0
  have C1 := fun o o' => cell2 o o' d.c1
  have C2 := fun o o' => cell2 o o' d.c2
  have C3 := fun o o' => cell2 o o' d.c3
  have C4 := fun o o' => cell2 o o' d.c4
  have C5 := fun o o' => cell2 o o' d.c5
  obtain ⟨X, hX⟩ : ∃ X, X = w.alloc (.cells #[.string ⟨#[109, 97, 112]⟩, .pointer (some ⟨h.b, h.o, none⟩)] 105) := ⟨_, rfl⟩
  obtain ⟨W, hW⟩ : ∃ W, W = (((w.alloc (.cells #[.string ⟨#[109, 97, 112]⟩, .pointer (some ⟨h.b, h.o, none⟩)] 105)).alloc (.cells #[.string h.name, .slice none 0 0, .string h.key, .string h.value, .string ⟨#[]⟩, .slice none 0 0, .int .i64 0] 52)).drew : World) := ⟨_, rfl⟩
  have hb : W.heap[w.heap.size + 1]? = some (.cells (meantD h).cs 52 (0, 0)) := by
    rw [hW, ← hX]
    have := heap_alloc_new X (.cells #[.string h.name, .slice none 0 0, .string h.key, .string h.value, .string ⟨#[]⟩, .slice none 0 0, .int .i64 0] 52)
    rw [show X.heap.size = w.heap.size + 1 by rw [hX]; simp] at this
    refine this.trans ?_
    simp [meantD, DH.cs, emp, hk, ne_mr, ne_mf, ne_mo]
  have hbw : Below w.heap.size w W := by rw [hW]; exact (((Below.refl _ w).alloc (Nat.le_refl _) _).alloc (by simp) _).drew
  have hbx : W.heap[w.heap.size]? = some (.cells #[.string ⟨#[109, 97, 112]⟩, .pointer (some ⟨h.b, h.o, none⟩)] 105 (0, 0)) := by
    rw [hW]
    exact (Below.heap_alloc _ _ _ (by simp)).trans (heap_alloc_new w _)
  have KA : Hid (∀ w1 : World, Below W.heap.size W w1 → Calls Tryz.prog 74 #[.pointer (some ⟨h.b, h.o, none⟩), .pointer (some ⟨w.heap.size + 1, 0, none⟩)] w1 fun e w' => e = .returned (.bool (alikeD h (meantD h))) ∧ ∃ m, w' = w1.drewN m) := hid (fun w1 hb1 => by
    have dd := d.below (Nat.le_refl _) (hbw.trans (hb1.mono hbw.size))
    exact alikeD_any w1 h { meantD h with b := w.heap.size + 1, o := 0 } dd (boxD dd ((hb1.block _ (Array.getElem?_eq_some_iff.1 hb).1).trans hb) rfl (by simp [meantD, hk, ne_mr, ne_mf, ne_mo]) (by simp [meantD, hk, ne_mr, ne_mf, ne_mo]) (by simp [meantD, hk, ne_mr, ne_mf, ne_mo]) (by simp [meantD, hk, ne_mr, ne_mf, ne_mo]) (by simp [meantD, hk, ne_mr, ne_mf, ne_mo])))
  have HW := hid hbw
  have K111 : Hid (∀ w1 : World, Below w.heap.size w w1 → Calls Tryz.prog 111 #[.string h.name] w1 fun e w' => e = .returned (.bool (greatB h.name)) ∧ Below w1.heap.size w1 w') := hid (fun w1 hb1 => isGreat_any h.name d.n w1 (hm.below hm.lt hb1))
  have K114 : Hid (∀ w1 : World, Below w.heap.size w w1 → Calls Tryz.prog 114 #[.string h.name] w1 fun e w' => e = .returned (.bool (smallB h.name)) ∧ Below w1.heap.size w1 w') := hid (fun w1 hb1 => isSmall_any h.name d.n w1 (hm.below hm.lt hb1))
  have K115 : Hid (∀ w1 : World, Below w.heap.size w w1 → Calls Tryz.prog 115 #[.string h.key] w1 fun e w' => e = .returned (.bool (keyB h.key)) ∧ Below w1.heap.size w1 w') := hid (fun w1 hb1 => (isKey_any h.key w1).mono (fun e w' ⟨h1, h2⟩ => ⟨h1, h2 ▸ Below.refl _ _⟩))
  have K116v : Hid (∀ w1 : World, Below w.heap.size w w1 → Calls Tryz.prog 116 #[.string h.value] w1 fun e w' => e = .returned (.bool (typB h.value)) ∧ Below w1.heap.size w1 w') := hid (fun w1 hb1 => isType_any h.value d.v w1 (hm.below hm.lt hb1))
  have K116r : Hid (∀ w1 : World, Below w.heap.size w w1 → Calls Tryz.prog 116 #[.string h.result] w1 fun e w' => e = .returned (.bool (typB h.result)) ∧ Below w1.heap.size w1 w') := hid (fun w1 hb1 => isType_any h.result d.r w1 (hm.below hm.lt hb1))
  have K112s : Hid (∀ w1 : World, Below w.heap.size w w1 → Calls Tryz.prog 112 #[.slice h.pa h.pn h.pc, .func (.func 113) #[] #[]] w1 fun e w' => e = .returned (.bool (paramsB simpB h.params)) ∧ Below w1.heap.size w1 w') := hid (fun w1 hb1 => params_any 113 simpB enters113 (fun s w _ _ => (isSimple_any s w).mono (fun e w' ⟨h1, h2⟩ => ⟨h1, h2 ▸ Below.refl _ _⟩)) w1 h.pa h.pn h.pc h.params d.pl d.pb (d.pr.below (Nat.le_refl _) hb1) d.ps (hm.below hm.lt hb1))
  have K112t : Hid (∀ w1 : World, Below w.heap.size w w1 → Calls Tryz.prog 112 #[.slice h.pa h.pn h.pc, .func (.func 116) #[] #[]] w1 fun e w' => e = .returned (.bool (paramsB typB h.params)) ∧ Below w1.heap.size w1 w') := hid (fun w1 hb1 => params_any 116 typB enters116 (fun s w hs hm => isType_any s hs w hm) w1 h.pa h.pn h.pc h.params d.pl d.pb (d.pr.below (Nat.le_refl _) hb1) d.ps (hm.below hm.lt hb1))
  have CB : Hid (∀ w1 : World, Below W.heap.size W w1 → w1.cell? ⟨w.heap.size, 1, none⟩ = some (.pointer (some ⟨h.b, h.o, none⟩)) ∧ w1.cell? ⟨h.b, h.o + 1, none⟩ = some (.slice h.pa h.pn h.pc) ∧ w1.cell? ⟨h.b, h.o + 2, none⟩ = some (.string h.key) ∧ w1.cell? ⟨h.b, h.o + 3, none⟩ = some (.string h.value) ∧ w1.cell? ⟨h.b, h.o + 4, none⟩ = some (.string h.result)) := hid (fun w1 hb1 => by
    have dd := d.below (Nat.le_refl _) (hbw.trans (hb1.mono hbw.size))
    exact ⟨cellT ((hb1.block _ (Array.getElem?_eq_some_iff.1 hbx).1).trans hbx) 1, dd.c1, dd.c2, dd.c3, dd.c4⟩)
  have HR : Hid (rightD h = ((smallB h.name && keyB h.key && typB h.value) && alikeD h (meantD h))) := hid (by unfold rightD okD; simp [hk, ne_mr, ne_mf, ne_mo])
  have fin : Hid (∀ (w1 : World) (m : Nat), Below w.heap.size w w1 → Below w.heap.size w (w1.drewN m)) := hid (fun w1 m hb => bel_drewN hb m)
  generalize alikeD h (meantD h) = al at *
  generalize rightD h = res at *
  generalize greatB h.name = gr at *
  generalize smallB h.name = sm at *
  generalize keyB h.key = ky at *
  generalize typB h.value = tv at *
  generalize typB h.result = tr at *
  generalize paramsB simpB h.params = ps at *
  generalize paramsB typB h.params = pt at *
  clear d hm hb hbx hbw cell cell2 hX
  obtain ⟨sort, b, o, name, pa, pn, pc, key, value, result, ba, bn, bc, pos, params⟩ := h
  simp only at A0 C0 C1 C2 C3 C4 C5 hW KA K111 K114 K115 K116v K116r K112s K112t CB HR hk hpn ⊢
  subst hk
  unfold wMap
  cases sm
  case false =>
    go_enter Tryz.func84, Tryz.ntmps84
    go_wp2
    go_region_held3 (fun w2 => w2.cell? ⟨w.heap.size, 1, none⟩ = some (.pointer (some ⟨b, o, none⟩)) ∧ w2.cell? ⟨b, o + 2, none⟩ = some (.string key) ∧ w2.cell? ⟨b, o + 3, none⟩ = some (.string value)) (first | go_keep) (fail)
    go_wp2_with (first
      | (go_at_call 116; (have hno := HB2; refine (K116v.out w2 (TR.out HW.out HB2.out)).mono ?_; rintro e w3 ⟨rfl, hb⟩; have HB3 := hid (TR.out HB2.out hb); have nn3 := CB.out w3 HB3.out; obtain ⟨n30, n31, n32, n33, n34⟩ := nn3; clear hb))
      | (go_at_call 115; (have hno := HB1; refine (K115.out w1 (TR.out HW.out HB1.out)).mono ?_; rintro e w2 ⟨rfl, hb⟩; have HB2 := hid (TR.out HB1.out hb); have nn2 := CB.out w2 HB2.out; obtain ⟨n20, n21, n22, n23, n24⟩ := nn2; clear hb))
      | (go_at_call 114; (rw [← hW]; clear hW; refine (K114.out W HW.out).mono ?_; rintro e w1 ⟨rfl, hb⟩; have HB1 := hid hb; have nn1 := CB.out w1 HB1.out; obtain ⟨n10, n11, n12, n13, n14⟩ := nn1; clear hb))
      | (go_at_call 74; (refine (KA.out w3 HB3.out).mono ?_; rintro e w9 ⟨rfl, m, rfl⟩; have HB9 := hid (fin.out w3 m (TR.out HW.out HB3.out)))))
    go_ret
    refine ⟨?_, ?_⟩
    · rw [HR.out]; exact ret_bool (by first | (simp; done) | (simp <;> intros <;> omega))
    · first | exact HB9.out | exact TR.out HW.out HB3.out | exact TR.out HW.out HB2.out | exact TR.out HW.out HB1.out
  case true =>
    cases ky
    case false =>
      go_enter Tryz.func84, Tryz.ntmps84
      go_wp2
      go_region_held3 (fun w2 => w2.cell? ⟨w.heap.size, 1, none⟩ = some (.pointer (some ⟨b, o, none⟩)) ∧ w2.cell? ⟨b, o + 2, none⟩ = some (.string key) ∧ w2.cell? ⟨b, o + 3, none⟩ = some (.string value)) (first | go_keep) (fail)
      go_wp2_with (first
        | (go_at_call 116; (have hno := HB2; refine (K116v.out w2 (TR.out HW.out HB2.out)).mono ?_; rintro e w3 ⟨rfl, hb⟩; have HB3 := hid (TR.out HB2.out hb); have nn3 := CB.out w3 HB3.out; obtain ⟨n30, n31, n32, n33, n34⟩ := nn3; clear hb))
        | (go_at_call 115; (have hno := HB1; refine (K115.out w1 (TR.out HW.out HB1.out)).mono ?_; rintro e w2 ⟨rfl, hb⟩; have HB2 := hid (TR.out HB1.out hb); have nn2 := CB.out w2 HB2.out; obtain ⟨n20, n21, n22, n23, n24⟩ := nn2; clear hb))
        | (go_at_call 114; (rw [← hW]; clear hW; refine (K114.out W HW.out).mono ?_; rintro e w1 ⟨rfl, hb⟩; have HB1 := hid hb; have nn1 := CB.out w1 HB1.out; obtain ⟨n10, n11, n12, n13, n14⟩ := nn1; clear hb))
        | (go_at_call 74; (refine (KA.out w3 HB3.out).mono ?_; rintro e w9 ⟨rfl, m, rfl⟩; have HB9 := hid (fin.out w3 m (TR.out HW.out HB3.out)))))
      go_ret
      refine ⟨?_, ?_⟩
      · rw [HR.out]; exact ret_bool (by first | (simp; done) | (simp <;> intros <;> omega))
      · first | exact HB9.out | exact TR.out HW.out HB3.out | exact TR.out HW.out HB2.out | exact TR.out HW.out HB1.out
    case true =>
      cases tv
      case false =>
        go_enter Tryz.func84, Tryz.ntmps84
        go_wp2
        go_region_held3 (fun w2 => w2.cell? ⟨w.heap.size, 1, none⟩ = some (.pointer (some ⟨b, o, none⟩)) ∧ w2.cell? ⟨b, o + 2, none⟩ = some (.string key) ∧ w2.cell? ⟨b, o + 3, none⟩ = some (.string value)) (first | go_keep) (fail)
        go_wp2_with (first
          | (go_at_call 116; (have hno := HB2; refine (K116v.out w2 (TR.out HW.out HB2.out)).mono ?_; rintro e w3 ⟨rfl, hb⟩; have HB3 := hid (TR.out HB2.out hb); have nn3 := CB.out w3 HB3.out; obtain ⟨n30, n31, n32, n33, n34⟩ := nn3; clear hb))
          | (go_at_call 115; (have hno := HB1; refine (K115.out w1 (TR.out HW.out HB1.out)).mono ?_; rintro e w2 ⟨rfl, hb⟩; have HB2 := hid (TR.out HB1.out hb); have nn2 := CB.out w2 HB2.out; obtain ⟨n20, n21, n22, n23, n24⟩ := nn2; clear hb))
          | (go_at_call 114; (rw [← hW]; clear hW; refine (K114.out W HW.out).mono ?_; rintro e w1 ⟨rfl, hb⟩; have HB1 := hid hb; have nn1 := CB.out w1 HB1.out; obtain ⟨n10, n11, n12, n13, n14⟩ := nn1; clear hb))
          | (go_at_call 74; (refine (KA.out w3 HB3.out).mono ?_; rintro e w9 ⟨rfl, m, rfl⟩; have HB9 := hid (fin.out w3 m (TR.out HW.out HB3.out)))))
        go_ret
        refine ⟨?_, ?_⟩
        · rw [HR.out]; exact ret_bool (by first | (simp; done) | (simp <;> intros <;> omega))
        · first | exact HB9.out | exact TR.out HW.out HB3.out | exact TR.out HW.out HB2.out | exact TR.out HW.out HB1.out
      case true =>
        go_enter Tryz.func84, Tryz.ntmps84
        go_wp2
        go_region_held3 (fun w2 => w2.cell? ⟨w.heap.size, 1, none⟩ = some (.pointer (some ⟨b, o, none⟩)) ∧ w2.cell? ⟨b, o + 2, none⟩ = some (.string key) ∧ w2.cell? ⟨b, o + 3, none⟩ = some (.string value)) (first | go_keep) (fail)
        go_wp2_with (first
          | (go_at_call 116; (have hno := HB2; refine (K116v.out w2 (TR.out HW.out HB2.out)).mono ?_; rintro e w3 ⟨rfl, hb⟩; have HB3 := hid (TR.out HB2.out hb); have nn3 := CB.out w3 HB3.out; obtain ⟨n30, n31, n32, n33, n34⟩ := nn3; clear hb))
          | (go_at_call 115; (have hno := HB1; refine (K115.out w1 (TR.out HW.out HB1.out)).mono ?_; rintro e w2 ⟨rfl, hb⟩; have HB2 := hid (TR.out HB1.out hb); have nn2 := CB.out w2 HB2.out; obtain ⟨n20, n21, n22, n23, n24⟩ := nn2; clear hb))
          | (go_at_call 114; (rw [← hW]; clear hW; refine (K114.out W HW.out).mono ?_; rintro e w1 ⟨rfl, hb⟩; have HB1 := hid hb; have nn1 := CB.out w1 HB1.out; obtain ⟨n10, n11, n12, n13, n14⟩ := nn1; clear hb))
          | (go_at_call 74; (refine (KA.out w3 HB3.out).mono ?_; rintro e w9 ⟨rfl, m, rfl⟩; have HB9 := hid (fin.out w3 m (TR.out HW.out HB3.out)))))
        go_ret
        refine ⟨?_, ?_⟩
        · rw [HR.out]; exact ret_bool (by first | (simp; done) | (simp <;> intros <;> omega))
        · first | exact HB9.out | exact TR.out HW.out HB3.out | exact TR.out HW.out HB2.out | exact TR.out HW.out HB1.out
end Go.Proofs.YtdfambocenohgaaGreatDoor

