/- tree.isRightExpr. -/
import Derived.Test.YtdfambocenohgaaGreatDoorJAJ
namespace Go.Proofs.YtdfambocenohgaaGreatDoor
open Go.RowKit Go.Deep
set_option linter.unusedVariables false
set_option linter.unusedSimpArgs false


set_option maxRecDepth 100000 in
set_option maxHeartbeats 4000000 in
theorem isRightE_5 (w : World) (h : EH) (d : EHr w h) (hm : MX w) (hk : h.kind = 5) : Calls Tryz.prog 86 #[.pointer (some ⟨h.b, h.o, none⟩)] w fun e w' => e = .returned (.bool (rightE h)) ∧ Below w.heap.size w w' := by
  have TR : Hid (∀ {Z x y : World}, Below Z.heap.size Z x → Below x.heap.size x y → Below Z.heap.size Z y) := hid (fun h1 h2 => h1.trans (h2.mono h1.size))
  have ha : (h.an : Int) ≤ 1000000 := by have := d.ab; omega
  have hnn : (h.nn : Int) ≤ 1000000 := by have := d.nb; omega
  have htx : (h.text.size : Int) ≤ 9223372036854775807 := by have := d.t; omega
  have cell : ∀ {p : Addr} {v : Value} (o : Obj), w.cell? p = some v → (w.alloc o).cell? p = some v := fun o hc => (((Below.refl w.heap.size w).alloc (Nat.le_refl _) o).cell (World.block_lt_of_cell? w _ hc)).trans hc
  have c0 := d.c0
  have c6 := d.c6
  have C0 := fun o => cell o d.c0
  have C1 := fun o => cell o d.c1
  have C2 := fun o => cell o d.c2
  have C3 := fun o => cell o d.c3
  have C4 := fun o => cell o d.c4
  have C5 := fun o => cell o d.c5
  have C6 := fun o => cell o d.c6
  obtain ⟨W, hW⟩ : ∃ W, W = ((w.alloc (.cells #[.int .i64 5, .int .i64 h.op, .int .i64 0, .string ⟨#[]⟩, .string ⟨#[]⟩, .slice none 0 0, .slice h.aa h.an h.ac, .int .i64 0] 28)).drew : World) := ⟨_, rfl⟩
  have hb : W.heap[w.heap.size]? = some (.cells (meantE h).cs 28 (0, 0)) := by
    rw [hW]
    refine (heap_alloc_new w _).trans ?_
    simp [meantE, EH.cs, emp, hk]
  have hbw : Below w.heap.size w W := by rw [hW]; exact ((Below.refl _ w).alloc (Nat.le_refl _) _).drew
  have KA : Hid (∀ w1 : World, Below W.heap.size W w1 → Calls Tryz.prog 76 #[.pointer (some ⟨h.b, h.o, none⟩), .pointer (some ⟨w.heap.size, 0, none⟩)] w1 fun e w' => e = .returned (.bool (alikeE h (meantE h))) ∧ ∃ m, w' = w1.drewN m) := hid (fun w1 hb1 => by
    have dd := d.below (Nat.le_refl _) (hbw.trans (hb1.mono hbw.size))
    exact alikeE_any w1 h { meantE h with b := w.heap.size, o := 0 } dd (boxE dd ((hb1.block _ (Array.getElem?_eq_some_iff.1 hb).1).trans hb) (by simp [meantE, hk]) (by simp [meantE, hk]) (by simp [meantE, hk]) (by simp [meantE, hk]) rfl))
  have HW := hid hbw
  have KS : Hid (∀ w1 : World, Below w.heap.size w w1 → Calls Tryz.prog 114 #[.string h.name] w1 fun e w' => e = .returned (.bool (smallB h.name)) ∧ Below w1.heap.size w1 w') := hid (fun w1 hb1 => isSmall_any h.name d.n w1 (hm.below hm.lt hb1))
  have KG : Hid (∀ w1 : World, Below w.heap.size w w1 → Calls Tryz.prog 111 #[.string h.name] w1 fun e w' => e = .returned (.bool (greatB h.name)) ∧ Below w1.heap.size w1 w') := hid (fun w1 hb1 => isGreat_any h.name d.n w1 (hm.below hm.lt hb1))
  have KF : Hid (∀ w1 : World, Below w.heap.size w w1 → Calls Tryz.prog 118 #[.slice h.na h.nn h.nc] w1 fun e w' => e = .returned (.bool (fieldsB h.names)) ∧ Below w1.heap.size w1 w') := hid (fun w1 hb1 => areFields_any w1 h.na h.nn h.nc h.names d.nl d.nb (d.nr.below (Nat.le_refl _) hb1) d.ns (hm.below hm.lt hb1))
  have CN : Hid (∀ w1 : World, Below w.heap.size w w1 → w1.cell? ⟨h.b, h.o + 5, none⟩ = some (.slice h.na h.nn h.nc)) := hid (fun w1 hb1 => belowCell d.c5 (Nat.le_refl _) hb1)
  have HR : Hid (rightE h = ((decide (18 ≤ h.op) && decide (h.op ≤ 21) && decide (h.an = 1)) && alikeE h (meantE h))) := hid (by unfold rightE okE; simp [hk])
  have fin : Hid (∀ (w1 : World) (m : Nat), Below w.heap.size w w1 → Below w.heap.size w (w1.drewN m)) := hid (fun w1 m hb => bel_drewN hb m)
  generalize alikeE h (meantE h) = al at *
  generalize rightE h = res at *
  generalize smallB h.name = sm at *
  generalize greatB h.name = gr at *
  generalize fieldsB h.names = fi at *
  clear d hm hb hbw cell
  obtain ⟨b, o, kind, op, int, text, name, na, nn, nc, aa, an, ac, pos, names⟩ := h
  simp only at c0 c6 C0 C1 C2 C3 C4 C5 C6 hW KA KS KG KF CN HR hk ha hnn htx ⊢
  subst hk
  by_cases q3 : 18 ≤ op
  case pos =>
    by_cases q2 : op ≤ 21
    case pos =>
      by_cases q1 : an = 1
      case pos =>
        subst q1
        go_enter Tryz.func86, Tryz.ntmps86
        go_wp2
        go_region_held3 (fun w2 => w2.cell? ⟨b, o, none⟩ = some (.int .i64 5) ∧ w2.cell? ⟨b, o + 6, none⟩ = some (.slice aa 1 ac)) (first | go_keep) (fail)
        go_wp2_with (go_at_call 76; (rw [← hW]; clear hW; refine (KA.out W (Below.refl _ _)).mono ?_; rintro e w2 ⟨rfl, m, rfl⟩; have HB2 := hid (fin.out W m HW.out)))
        go_ret
        refine ⟨?_, ?_⟩
        · rw [HR.out]; exact ret_bool (by first | (simp [q3, q2]; done) | (simp <;> intros <;> omega))
        · first | exact HB2.out | exact TR.out HW.out HB1.out | (rw [← hW]; exact HW.out)
      case neg =>
        have q1' : ¬ (an : Int) = 1 := by omega
        go_enter Tryz.func86, Tryz.ntmps86
        go_wp2
        go_region_held3 (fun w2 => w2.cell? ⟨b, o, none⟩ = some (.int .i64 5) ∧ w2.cell? ⟨b, o + 6, none⟩ = some (.slice aa an ac)) (first | go_keep) (fail)
        go_wp2_with (go_at_call 76; (rw [← hW]; clear hW; refine (KA.out W (Below.refl _ _)).mono ?_; rintro e w2 ⟨rfl, m, rfl⟩; have HB2 := hid (fin.out W m HW.out)))
        go_ret
        refine ⟨?_, ?_⟩
        · rw [HR.out]; exact ret_bool (by first | (simp [q3, q2, q1]; done) | (simp <;> intros <;> omega))
        · first | exact HB2.out | exact TR.out HW.out HB1.out | (rw [← hW]; exact HW.out)
    case neg =>
      go_enter Tryz.func86, Tryz.ntmps86
      go_wp2
      go_region_held3 (fun w2 => w2.cell? ⟨b, o, none⟩ = some (.int .i64 5) ∧ w2.cell? ⟨b, o + 6, none⟩ = some (.slice aa an ac)) (first | go_keep) (fail)
      go_wp2_with (go_at_call 76; (rw [← hW]; clear hW; refine (KA.out W (Below.refl _ _)).mono ?_; rintro e w2 ⟨rfl, m, rfl⟩; have HB2 := hid (fin.out W m HW.out)))
      go_ret
      refine ⟨?_, ?_⟩
      · rw [HR.out]; exact ret_bool (by first | (simp [q3, q2]; done) | (simp <;> intros <;> omega))
      · first | exact HB2.out | exact TR.out HW.out HB1.out | (rw [← hW]; exact HW.out)
  case neg =>
    go_enter Tryz.func86, Tryz.ntmps86
    go_wp2
    go_region_held3 (fun w2 => w2.cell? ⟨b, o, none⟩ = some (.int .i64 5) ∧ w2.cell? ⟨b, o + 6, none⟩ = some (.slice aa an ac)) (first | go_keep) (fail)
    go_wp2_with (go_at_call 76; (rw [← hW]; clear hW; refine (KA.out W (Below.refl _ _)).mono ?_; rintro e w2 ⟨rfl, m, rfl⟩; have HB2 := hid (fin.out W m HW.out)))
    go_ret
    refine ⟨?_, ?_⟩
    · rw [HR.out]; exact ret_bool (by first | (simp [q3]; done) | (simp <;> intros <;> omega))
    · first | exact HB2.out | exact TR.out HW.out HB1.out | (rw [← hW]; exact HW.out)

set_option maxRecDepth 100000 in
set_option maxHeartbeats 4000000 in
theorem isRightE_6 (w : World) (h : EH) (d : EHr w h) (hm : MX w) (hk : h.kind = 6) : Calls Tryz.prog 86 #[.pointer (some ⟨h.b, h.o, none⟩)] w fun e w' => e = .returned (.bool (rightE h)) ∧ Below w.heap.size w w' := by
  have TR : Hid (∀ {Z x y : World}, Below Z.heap.size Z x → Below x.heap.size x y → Below Z.heap.size Z y) := hid (fun h1 h2 => h1.trans (h2.mono h1.size))
  have ha : (h.an : Int) ≤ 1000000 := by have := d.ab; omega
  have hnn : (h.nn : Int) ≤ 1000000 := by have := d.nb; omega
  have htx : (h.text.size : Int) ≤ 9223372036854775807 := by have := d.t; omega
  have cell : ∀ {p : Addr} {v : Value} (o : Obj), w.cell? p = some v → (w.alloc o).cell? p = some v := fun o hc => (((Below.refl w.heap.size w).alloc (Nat.le_refl _) o).cell (World.block_lt_of_cell? w _ hc)).trans hc
  have c0 := d.c0
  have c6 := d.c6
  have C0 := fun o => cell o d.c0
  have C1 := fun o => cell o d.c1
  have C2 := fun o => cell o d.c2
  have C3 := fun o => cell o d.c3
  have C4 := fun o => cell o d.c4
  have C5 := fun o => cell o d.c5
  have C6 := fun o => cell o d.c6
  obtain ⟨W, hW⟩ : ∃ W, W = ((w.alloc (.cells #[.int .i64 6, .int .i64 h.op, .int .i64 0, .string ⟨#[]⟩, .string ⟨#[]⟩, .slice none 0 0, .slice h.aa h.an h.ac, .int .i64 0] 28)).drew : World) := ⟨_, rfl⟩
  have hb : W.heap[w.heap.size]? = some (.cells (meantE h).cs 28 (0, 0)) := by
    rw [hW]
    refine (heap_alloc_new w _).trans ?_
    simp [meantE, EH.cs, emp, hk]
  have hbw : Below w.heap.size w W := by rw [hW]; exact ((Below.refl _ w).alloc (Nat.le_refl _) _).drew
  have KA : Hid (∀ w1 : World, Below W.heap.size W w1 → Calls Tryz.prog 76 #[.pointer (some ⟨h.b, h.o, none⟩), .pointer (some ⟨w.heap.size, 0, none⟩)] w1 fun e w' => e = .returned (.bool (alikeE h (meantE h))) ∧ ∃ m, w' = w1.drewN m) := hid (fun w1 hb1 => by
    have dd := d.below (Nat.le_refl _) (hbw.trans (hb1.mono hbw.size))
    exact alikeE_any w1 h { meantE h with b := w.heap.size, o := 0 } dd (boxE dd ((hb1.block _ (Array.getElem?_eq_some_iff.1 hb).1).trans hb) (by simp [meantE, hk]) (by simp [meantE, hk]) (by simp [meantE, hk]) (by simp [meantE, hk]) rfl))
  have HW := hid hbw
  have KS : Hid (∀ w1 : World, Below w.heap.size w w1 → Calls Tryz.prog 114 #[.string h.name] w1 fun e w' => e = .returned (.bool (smallB h.name)) ∧ Below w1.heap.size w1 w') := hid (fun w1 hb1 => isSmall_any h.name d.n w1 (hm.below hm.lt hb1))
  have KG : Hid (∀ w1 : World, Below w.heap.size w w1 → Calls Tryz.prog 111 #[.string h.name] w1 fun e w' => e = .returned (.bool (greatB h.name)) ∧ Below w1.heap.size w1 w') := hid (fun w1 hb1 => isGreat_any h.name d.n w1 (hm.below hm.lt hb1))
  have KF : Hid (∀ w1 : World, Below w.heap.size w w1 → Calls Tryz.prog 118 #[.slice h.na h.nn h.nc] w1 fun e w' => e = .returned (.bool (fieldsB h.names)) ∧ Below w1.heap.size w1 w') := hid (fun w1 hb1 => areFields_any w1 h.na h.nn h.nc h.names d.nl d.nb (d.nr.below (Nat.le_refl _) hb1) d.ns (hm.below hm.lt hb1))
  have CN : Hid (∀ w1 : World, Below w.heap.size w w1 → w1.cell? ⟨h.b, h.o + 5, none⟩ = some (.slice h.na h.nn h.nc)) := hid (fun w1 hb1 => belowCell d.c5 (Nat.le_refl _) hb1)
  have HR : Hid (rightE h = ((decide (1 ≤ h.op) && decide (h.op ≤ 17) && decide (h.an = 2)) && alikeE h (meantE h))) := hid (by unfold rightE okE; simp [hk])
  have fin : Hid (∀ (w1 : World) (m : Nat), Below w.heap.size w w1 → Below w.heap.size w (w1.drewN m)) := hid (fun w1 m hb => bel_drewN hb m)
  generalize alikeE h (meantE h) = al at *
  generalize rightE h = res at *
  generalize smallB h.name = sm at *
  generalize greatB h.name = gr at *
  generalize fieldsB h.names = fi at *
  clear d hm hb hbw cell
  obtain ⟨b, o, kind, op, int, text, name, na, nn, nc, aa, an, ac, pos, names⟩ := h
  simp only at c0 c6 C0 C1 C2 C3 C4 C5 C6 hW KA KS KG KF CN HR hk ha hnn htx ⊢
  subst hk
  by_cases q3 : 1 ≤ op
  case pos =>
    by_cases q2 : op ≤ 17
    case pos =>
      by_cases q1 : an = 2
      case pos =>
        subst q1
        go_enter Tryz.func86, Tryz.ntmps86
        go_wp2
        go_region_held3 (fun w2 => w2.cell? ⟨b, o, none⟩ = some (.int .i64 6) ∧ w2.cell? ⟨b, o + 6, none⟩ = some (.slice aa 2 ac)) (first | go_keep) (fail)
        go_wp2_with (go_at_call 76; (rw [← hW]; clear hW; refine (KA.out W (Below.refl _ _)).mono ?_; rintro e w2 ⟨rfl, m, rfl⟩; have HB2 := hid (fin.out W m HW.out)))
        go_ret
        refine ⟨?_, ?_⟩
        · rw [HR.out]; exact ret_bool (by first | (simp [q3, q2]; done) | (simp <;> intros <;> omega))
        · first | exact HB2.out | exact TR.out HW.out HB1.out | (rw [← hW]; exact HW.out)
      case neg =>
        have q1' : ¬ (an : Int) = 2 := by omega
        go_enter Tryz.func86, Tryz.ntmps86
        go_wp2
        go_region_held3 (fun w2 => w2.cell? ⟨b, o, none⟩ = some (.int .i64 6) ∧ w2.cell? ⟨b, o + 6, none⟩ = some (.slice aa an ac)) (first | go_keep) (fail)
        go_wp2_with (go_at_call 76; (rw [← hW]; clear hW; refine (KA.out W (Below.refl _ _)).mono ?_; rintro e w2 ⟨rfl, m, rfl⟩; have HB2 := hid (fin.out W m HW.out)))
        go_ret
        refine ⟨?_, ?_⟩
        · rw [HR.out]; exact ret_bool (by first | (simp [q3, q2, q1]; done) | (simp <;> intros <;> omega))
        · first | exact HB2.out | exact TR.out HW.out HB1.out | (rw [← hW]; exact HW.out)
    case neg =>
      go_enter Tryz.func86, Tryz.ntmps86
      go_wp2
      go_region_held3 (fun w2 => w2.cell? ⟨b, o, none⟩ = some (.int .i64 6) ∧ w2.cell? ⟨b, o + 6, none⟩ = some (.slice aa an ac)) (first | go_keep) (fail)
      go_wp2_with (go_at_call 76; (rw [← hW]; clear hW; refine (KA.out W (Below.refl _ _)).mono ?_; rintro e w2 ⟨rfl, m, rfl⟩; have HB2 := hid (fin.out W m HW.out)))
      go_ret
      refine ⟨?_, ?_⟩
      · rw [HR.out]; exact ret_bool (by first | (simp [q3, q2]; done) | (simp <;> intros <;> omega))
      · first | exact HB2.out | exact TR.out HW.out HB1.out | (rw [← hW]; exact HW.out)
  case neg =>
    go_enter Tryz.func86, Tryz.ntmps86
    go_wp2
    go_region_held3 (fun w2 => w2.cell? ⟨b, o, none⟩ = some (.int .i64 6) ∧ w2.cell? ⟨b, o + 6, none⟩ = some (.slice aa an ac)) (first | go_keep) (fail)
    go_wp2_with (go_at_call 76; (rw [← hW]; clear hW; refine (KA.out W (Below.refl _ _)).mono ?_; rintro e w2 ⟨rfl, m, rfl⟩; have HB2 := hid (fin.out W m HW.out)))
    go_ret
    refine ⟨?_, ?_⟩
    · rw [HR.out]; exact ret_bool (by first | (simp [q3]; done) | (simp <;> intros <;> omega))
    · first | exact HB2.out | exact TR.out HW.out HB1.out | (rw [← hW]; exact HW.out)

set_option maxRecDepth 100000 in
set_option maxHeartbeats 4000000 in
theorem isRightE_7 (w : World) (h : EH) (d : EHr w h) (hm : MX w) (hk : h.kind = 7) : Calls Tryz.prog 86 #[.pointer (some ⟨h.b, h.o, none⟩)] w fun e w' => e = .returned (.bool (rightE h)) ∧ Below w.heap.size w w' := by
  have TR : Hid (∀ {Z x y : World}, Below Z.heap.size Z x → Below x.heap.size x y → Below Z.heap.size Z y) := hid (fun h1 h2 => h1.trans (h2.mono h1.size))
  have ha : (h.an : Int) ≤ 1000000 := by have := d.ab; omega
  have hnn : (h.nn : Int) ≤ 1000000 := by have := d.nb; omega
  have htx : (h.text.size : Int) ≤ 9223372036854775807 := by have := d.t; omega
  have cell : ∀ {p : Addr} {v : Value} (o : Obj), w.cell? p = some v → (w.alloc o).cell? p = some v := fun o hc => (((Below.refl w.heap.size w).alloc (Nat.le_refl _) o).cell (World.block_lt_of_cell? w _ hc)).trans hc
  have c0 := d.c0
  have c6 := d.c6
  have C0 := fun o => cell o d.c0
  have C1 := fun o => cell o d.c1
  have C2 := fun o => cell o d.c2
  have C3 := fun o => cell o d.c3
  have C4 := fun o => cell o d.c4
  have C5 := fun o => cell o d.c5
  have C6 := fun o => cell o d.c6
  obtain ⟨W, hW⟩ : ∃ W, W = ((w.alloc (.cells #[.int .i64 7, .int .i64 0, .int .i64 0, .string ⟨#[]⟩, .string h.name, .slice none 0 0, .slice h.aa h.an h.ac, .int .i64 0] 28)).drew : World) := ⟨_, rfl⟩
  have hb : W.heap[w.heap.size]? = some (.cells (meantE h).cs 28 (0, 0)) := by
    rw [hW]
    refine (heap_alloc_new w _).trans ?_
    simp [meantE, EH.cs, emp, hk]
  have hbw : Below w.heap.size w W := by rw [hW]; exact ((Below.refl _ w).alloc (Nat.le_refl _) _).drew
  have KA : Hid (∀ w1 : World, Below W.heap.size W w1 → Calls Tryz.prog 76 #[.pointer (some ⟨h.b, h.o, none⟩), .pointer (some ⟨w.heap.size, 0, none⟩)] w1 fun e w' => e = .returned (.bool (alikeE h (meantE h))) ∧ ∃ m, w' = w1.drewN m) := hid (fun w1 hb1 => by
    have dd := d.below (Nat.le_refl _) (hbw.trans (hb1.mono hbw.size))
    exact alikeE_any w1 h { meantE h with b := w.heap.size, o := 0 } dd (boxE dd ((hb1.block _ (Array.getElem?_eq_some_iff.1 hb).1).trans hb) (by simp [meantE, hk]) (by simp [meantE, hk]) (by simp [meantE, hk]) (by simp [meantE, hk]) rfl))
  have HW := hid hbw
  have KS : Hid (∀ w1 : World, Below w.heap.size w w1 → Calls Tryz.prog 114 #[.string h.name] w1 fun e w' => e = .returned (.bool (smallB h.name)) ∧ Below w1.heap.size w1 w') := hid (fun w1 hb1 => isSmall_any h.name d.n w1 (hm.below hm.lt hb1))
  have KG : Hid (∀ w1 : World, Below w.heap.size w w1 → Calls Tryz.prog 111 #[.string h.name] w1 fun e w' => e = .returned (.bool (greatB h.name)) ∧ Below w1.heap.size w1 w') := hid (fun w1 hb1 => isGreat_any h.name d.n w1 (hm.below hm.lt hb1))
  have KF : Hid (∀ w1 : World, Below w.heap.size w w1 → Calls Tryz.prog 118 #[.slice h.na h.nn h.nc] w1 fun e w' => e = .returned (.bool (fieldsB h.names)) ∧ Below w1.heap.size w1 w') := hid (fun w1 hb1 => areFields_any w1 h.na h.nn h.nc h.names d.nl d.nb (d.nr.below (Nat.le_refl _) hb1) d.ns (hm.below hm.lt hb1))
  have CN : Hid (∀ w1 : World, Below w.heap.size w w1 → w1.cell? ⟨h.b, h.o + 5, none⟩ = some (.slice h.na h.nn h.nc)) := hid (fun w1 hb1 => belowCell d.c5 (Nat.le_refl _) hb1)
  have HR : Hid (rightE h = ((smallB h.name && decide (h.an = 1)) && alikeE h (meantE h))) := hid (by unfold rightE okE; simp [hk])
  have fin : Hid (∀ (w1 : World) (m : Nat), Below w.heap.size w w1 → Below w.heap.size w (w1.drewN m)) := hid (fun w1 m hb => bel_drewN hb m)
  generalize alikeE h (meantE h) = al at *
  generalize rightE h = res at *
  generalize smallB h.name = sm at *
  generalize greatB h.name = gr at *
  generalize fieldsB h.names = fi at *
  clear d hm hb hbw cell
  obtain ⟨b, o, kind, op, int, text, name, na, nn, nc, aa, an, ac, pos, names⟩ := h
  simp only at c0 c6 C0 C1 C2 C3 C4 C5 C6 hW KA KS KG KF CN HR hk ha hnn htx ⊢
  subst hk
  cases sm
  case false =>
    go_enter Tryz.func86, Tryz.ntmps86
    go_wp2
    go_region_held3 (fun w2 => w2.cell? ⟨b, o, none⟩ = some (.int .i64 7) ∧ w2.cell? ⟨b, o + 6, none⟩ = some (.slice aa an ac)) (first | go_keep) (fail)
    go_wp2_with (first
      | (go_at_call 114; (rw [← hW]; clear hW; refine (KS.out W HW.out).mono ?_; rintro e w1 ⟨rfl, hb1⟩; have HB1 := hid hb1; clear hb1))
      | (go_at_call 76; (have hno := HB1; refine (KA.out w1 HB1.out).mono ?_; rintro e w2 ⟨rfl, m, rfl⟩; have HB2 := hid (fin.out w1 m (TR.out HW.out HB1.out))))
      | (go_at_call 76; (rw [← hW]; clear hW; refine (KA.out W (Below.refl _ _)).mono ?_; rintro e w2 ⟨rfl, m, rfl⟩; have HB2 := hid (fin.out W m HW.out))))
    go_ret
    refine ⟨?_, ?_⟩
    · rw [HR.out]; exact ret_bool (by first | (simp; done) | (simp <;> intros <;> omega))
    · first | exact HB2.out | exact TR.out HW.out HB1.out | (rw [← hW]; exact HW.out)
  case true =>
    by_cases q1 : an = 1
    case pos =>
      subst q1
      go_enter Tryz.func86, Tryz.ntmps86
      go_wp2
      go_region_held3 (fun w2 => w2.cell? ⟨b, o, none⟩ = some (.int .i64 7) ∧ w2.cell? ⟨b, o + 6, none⟩ = some (.slice aa 1 ac)) (first | go_keep) (fail)
      go_wp2_with (first
        | (go_at_call 114; (rw [← hW]; clear hW; refine (KS.out W HW.out).mono ?_; rintro e w1 ⟨rfl, hb1⟩; have HB1 := hid hb1; clear hb1))
        | (go_at_call 76; (have hno := HB1; refine (KA.out w1 HB1.out).mono ?_; rintro e w2 ⟨rfl, m, rfl⟩; have HB2 := hid (fin.out w1 m (TR.out HW.out HB1.out))))
        | (go_at_call 76; (rw [← hW]; clear hW; refine (KA.out W (Below.refl _ _)).mono ?_; rintro e w2 ⟨rfl, m, rfl⟩; have HB2 := hid (fin.out W m HW.out))))
      go_ret
      refine ⟨?_, ?_⟩
      · rw [HR.out]; exact ret_bool (by first | (simp; done) | (simp <;> intros <;> omega))
      · first | exact HB2.out | exact TR.out HW.out HB1.out | (rw [← hW]; exact HW.out)
    case neg =>
      have q1' : ¬ (an : Int) = 1 := by omega
      go_enter Tryz.func86, Tryz.ntmps86
      go_wp2
      go_region_held3 (fun w2 => w2.cell? ⟨b, o, none⟩ = some (.int .i64 7) ∧ w2.cell? ⟨b, o + 6, none⟩ = some (.slice aa an ac)) (first | go_keep) (fail)
      go_wp2_with (first
        | (go_at_call 114; (rw [← hW]; clear hW; refine (KS.out W HW.out).mono ?_; rintro e w1 ⟨rfl, hb1⟩; have HB1 := hid hb1; clear hb1))
        | (go_at_call 76; (have hno := HB1; refine (KA.out w1 HB1.out).mono ?_; rintro e w2 ⟨rfl, m, rfl⟩; have HB2 := hid (fin.out w1 m (TR.out HW.out HB1.out))))
        | (go_at_call 76; (rw [← hW]; clear hW; refine (KA.out W (Below.refl _ _)).mono ?_; rintro e w2 ⟨rfl, m, rfl⟩; have HB2 := hid (fin.out W m HW.out))))
      go_ret
      refine ⟨?_, ?_⟩
      · rw [HR.out]; exact ret_bool (by first | (simp [q1]; done) | (simp <;> intros <;> omega))
      · first | exact HB2.out | exact TR.out HW.out HB1.out | (rw [← hW]; exact HW.out)
end Go.Proofs.YtdfambocenohgaaGreatDoor

namespace Go.Proofs.YtdfambocenohgaaGreatDoor
open Go.RowKit Go.Deep
set_option linter.unusedVariables false
set_option linter.unusedSimpArgs false


set_option maxRecDepth 100000 in
set_option maxHeartbeats 4000000 in
theorem isRightE_9 (w : World) (h : EH) (d : EHr w h) (hm : MX w) (hk : h.kind = 9) : Calls Tryz.prog 86 #[.pointer (some ⟨h.b, h.o, none⟩)] w fun e w' => e = .returned (.bool (rightE h)) ∧ Below w.heap.size w w' := by
  have TR : Hid (∀ {Z x y : World}, Below Z.heap.size Z x → Below x.heap.size x y → Below Z.heap.size Z y) := hid (fun h1 h2 => h1.trans (h2.mono h1.size))
  have ha : (h.an : Int) ≤ 1000000 := by have := d.ab; omega
  have hnn : (h.nn : Int) ≤ 1000000 := by have := d.nb; omega
  have htx : (h.text.size : Int) ≤ 9223372036854775807 := by have := d.t; omega
  have cell : ∀ {p : Addr} {v : Value} (o : Obj), w.cell? p = some v → (w.alloc o).cell? p = some v := fun o hc => (((Below.refl w.heap.size w).alloc (Nat.le_refl _) o).cell (World.block_lt_of_cell? w _ hc)).trans hc
  have c0 := d.c0
  have c6 := d.c6
  have C0 := fun o => cell o d.c0
  have C1 := fun o => cell o d.c1
  have C2 := fun o => cell o d.c2
  have C3 := fun o => cell o d.c3
  have C4 := fun o => cell o d.c4
  have C5 := fun o => cell o d.c5
  have C6 := fun o => cell o d.c6
  obtain ⟨W, hW⟩ : ∃ W, W = ((w.alloc (.cells #[.int .i64 9, .int .i64 0, .int .i64 0, .string ⟨#[]⟩, .string h.name, .slice none 0 0, .slice h.aa h.an h.ac, .int .i64 0] 28)).drew : World) := ⟨_, rfl⟩
  have hb : W.heap[w.heap.size]? = some (.cells (meantE h).cs 28 (0, 0)) := by
    rw [hW]
    refine (heap_alloc_new w _).trans ?_
    simp [meantE, EH.cs, emp, hk]
  have hbw : Below w.heap.size w W := by rw [hW]; exact ((Below.refl _ w).alloc (Nat.le_refl _) _).drew
  have KA : Hid (∀ w1 : World, Below W.heap.size W w1 → Calls Tryz.prog 76 #[.pointer (some ⟨h.b, h.o, none⟩), .pointer (some ⟨w.heap.size, 0, none⟩)] w1 fun e w' => e = .returned (.bool (alikeE h (meantE h))) ∧ ∃ m, w' = w1.drewN m) := hid (fun w1 hb1 => by
    have dd := d.below (Nat.le_refl _) (hbw.trans (hb1.mono hbw.size))
    exact alikeE_any w1 h { meantE h with b := w.heap.size, o := 0 } dd (boxE dd ((hb1.block _ (Array.getElem?_eq_some_iff.1 hb).1).trans hb) (by simp [meantE, hk]) (by simp [meantE, hk]) (by simp [meantE, hk]) (by simp [meantE, hk]) rfl))
  have HW := hid hbw
  have KS : Hid (∀ w1 : World, Below w.heap.size w w1 → Calls Tryz.prog 114 #[.string h.name] w1 fun e w' => e = .returned (.bool (smallB h.name)) ∧ Below w1.heap.size w1 w') := hid (fun w1 hb1 => isSmall_any h.name d.n w1 (hm.below hm.lt hb1))
  have KG : Hid (∀ w1 : World, Below w.heap.size w w1 → Calls Tryz.prog 111 #[.string h.name] w1 fun e w' => e = .returned (.bool (greatB h.name)) ∧ Below w1.heap.size w1 w') := hid (fun w1 hb1 => isGreat_any h.name d.n w1 (hm.below hm.lt hb1))
  have KF : Hid (∀ w1 : World, Below w.heap.size w w1 → Calls Tryz.prog 118 #[.slice h.na h.nn h.nc] w1 fun e w' => e = .returned (.bool (fieldsB h.names)) ∧ Below w1.heap.size w1 w') := hid (fun w1 hb1 => areFields_any w1 h.na h.nn h.nc h.names d.nl d.nb (d.nr.below (Nat.le_refl _) hb1) d.ns (hm.below hm.lt hb1))
  have CN : Hid (∀ w1 : World, Below w.heap.size w w1 → w1.cell? ⟨h.b, h.o + 5, none⟩ = some (.slice h.na h.nn h.nc)) := hid (fun w1 hb1 => belowCell d.c5 (Nat.le_refl _) hb1)
  have HR : Hid (rightE h = ((smallB h.name && decide (h.an = 1)) && alikeE h (meantE h))) := hid (by unfold rightE okE; simp [hk])
  have fin : Hid (∀ (w1 : World) (m : Nat), Below w.heap.size w w1 → Below w.heap.size w (w1.drewN m)) := hid (fun w1 m hb => bel_drewN hb m)
  generalize alikeE h (meantE h) = al at *
  generalize rightE h = res at *
  generalize smallB h.name = sm at *
  generalize greatB h.name = gr at *
  generalize fieldsB h.names = fi at *
  clear d hm hb hbw cell
  obtain ⟨b, o, kind, op, int, text, name, na, nn, nc, aa, an, ac, pos, names⟩ := h
  simp only at c0 c6 C0 C1 C2 C3 C4 C5 C6 hW KA KS KG KF CN HR hk ha hnn htx ⊢
  subst hk
  cases sm
  case false =>
    go_enter Tryz.func86, Tryz.ntmps86
    go_wp2
    go_region_held3 (fun w2 => w2.cell? ⟨b, o, none⟩ = some (.int .i64 9) ∧ w2.cell? ⟨b, o + 6, none⟩ = some (.slice aa an ac)) (first | go_keep) (fail)
    go_wp2_with (first
      | (go_at_call 114; (rw [← hW]; clear hW; refine (KS.out W HW.out).mono ?_; rintro e w1 ⟨rfl, hb1⟩; have HB1 := hid hb1; clear hb1))
      | (go_at_call 76; (have hno := HB1; refine (KA.out w1 HB1.out).mono ?_; rintro e w2 ⟨rfl, m, rfl⟩; have HB2 := hid (fin.out w1 m (TR.out HW.out HB1.out))))
      | (go_at_call 76; (rw [← hW]; clear hW; refine (KA.out W (Below.refl _ _)).mono ?_; rintro e w2 ⟨rfl, m, rfl⟩; have HB2 := hid (fin.out W m HW.out))))
    go_ret
    refine ⟨?_, ?_⟩
    · rw [HR.out]; exact ret_bool (by simp)
    · first | exact HB2.out | exact TR.out HW.out HB1.out | (rw [← hW]; exact HW.out)
  case true =>
    by_cases q1 : an = 1
    case pos =>
      subst q1
      go_enter Tryz.func86, Tryz.ntmps86
      go_wp2
      go_region_held3 (fun w2 => w2.cell? ⟨b, o, none⟩ = some (.int .i64 9) ∧ w2.cell? ⟨b, o + 6, none⟩ = some (.slice aa 1 ac)) (first | go_keep) (fail)
      go_wp2_with (first
        | (go_at_call 114; (rw [← hW]; clear hW; refine (KS.out W HW.out).mono ?_; rintro e w1 ⟨rfl, hb1⟩; have HB1 := hid hb1; clear hb1))
        | (go_at_call 76; (have hno := HB1; refine (KA.out w1 HB1.out).mono ?_; rintro e w2 ⟨rfl, m, rfl⟩; have HB2 := hid (fin.out w1 m (TR.out HW.out HB1.out))))
        | (go_at_call 76; (rw [← hW]; clear hW; refine (KA.out W (Below.refl _ _)).mono ?_; rintro e w2 ⟨rfl, m, rfl⟩; have HB2 := hid (fin.out W m HW.out))))
      go_ret
      refine ⟨?_, ?_⟩
      · rw [HR.out]; exact ret_bool (by simp)
      · first | exact HB2.out | exact TR.out HW.out HB1.out | (rw [← hW]; exact HW.out)
    case neg =>
      have q1' : ¬ (an : Int) = 1 := by omega
      go_enter Tryz.func86, Tryz.ntmps86
      go_wp2
      go_region_held3 (fun w2 => w2.cell? ⟨b, o, none⟩ = some (.int .i64 9) ∧ w2.cell? ⟨b, o + 6, none⟩ = some (.slice aa an ac)) (first | go_keep) (fail)
      go_wp2_with (first
        | (go_at_call 114; (rw [← hW]; clear hW; refine (KS.out W HW.out).mono ?_; rintro e w1 ⟨rfl, hb1⟩; have HB1 := hid hb1; clear hb1))
        | (go_at_call 76; (have hno := HB1; refine (KA.out w1 HB1.out).mono ?_; rintro e w2 ⟨rfl, m, rfl⟩; have HB2 := hid (fin.out w1 m (TR.out HW.out HB1.out))))
        | (go_at_call 76; (rw [← hW]; clear hW; refine (KA.out W (Below.refl _ _)).mono ?_; rintro e w2 ⟨rfl, m, rfl⟩; have HB2 := hid (fin.out W m HW.out))))
      go_ret
      refine ⟨?_, ?_⟩
      · rw [HR.out]; exact ret_bool (by simp [q1])
      · first | exact HB2.out | exact TR.out HW.out HB1.out | (rw [← hW]; exact HW.out)

set_option maxRecDepth 100000 in
set_option maxHeartbeats 4000000 in
theorem isRightE_10 (w : World) (h : EH) (d : EHr w h) (hm : MX w) (hk : h.kind = 10) : Calls Tryz.prog 86 #[.pointer (some ⟨h.b, h.o, none⟩)] w fun e w' => e = .returned (.bool (rightE h)) ∧ Below w.heap.size w w' := by
  have TR : Hid (∀ {Z x y : World}, Below Z.heap.size Z x → Below x.heap.size x y → Below Z.heap.size Z y) := hid (fun h1 h2 => h1.trans (h2.mono h1.size))
  have ha : (h.an : Int) ≤ 1000000 := by have := d.ab; omega
  have hnn : (h.nn : Int) ≤ 1000000 := by have := d.nb; omega
  have htx : (h.text.size : Int) ≤ 9223372036854775807 := by have := d.t; omega
  have cell : ∀ {p : Addr} {v : Value} (o : Obj), w.cell? p = some v → (w.alloc o).cell? p = some v := fun o hc => (((Below.refl w.heap.size w).alloc (Nat.le_refl _) o).cell (World.block_lt_of_cell? w _ hc)).trans hc
  have c0 := d.c0
  have c6 := d.c6
  have C0 := fun o => cell o d.c0
  have C1 := fun o => cell o d.c1
  have C2 := fun o => cell o d.c2
  have C3 := fun o => cell o d.c3
  have C4 := fun o => cell o d.c4
  have C5 := fun o => cell o d.c5
  have C6 := fun o => cell o d.c6
  obtain ⟨W, hW⟩ : ∃ W, W = ((w.alloc (.cells #[.int .i64 10, .int .i64 0, .int .i64 0, .string ⟨#[]⟩, .string h.name, .slice none 0 0, .slice h.aa h.an h.ac, .int .i64 0] 28)).drew : World) := ⟨_, rfl⟩
  have hb : W.heap[w.heap.size]? = some (.cells (meantE h).cs 28 (0, 0)) := by
    rw [hW]
    refine (heap_alloc_new w _).trans ?_
    simp [meantE, EH.cs, emp, hk]
  have hbw : Below w.heap.size w W := by rw [hW]; exact ((Below.refl _ w).alloc (Nat.le_refl _) _).drew
  have KA : Hid (∀ w1 : World, Below W.heap.size W w1 → Calls Tryz.prog 76 #[.pointer (some ⟨h.b, h.o, none⟩), .pointer (some ⟨w.heap.size, 0, none⟩)] w1 fun e w' => e = .returned (.bool (alikeE h (meantE h))) ∧ ∃ m, w' = w1.drewN m) := hid (fun w1 hb1 => by
    have dd := d.below (Nat.le_refl _) (hbw.trans (hb1.mono hbw.size))
    exact alikeE_any w1 h { meantE h with b := w.heap.size, o := 0 } dd (boxE dd ((hb1.block _ (Array.getElem?_eq_some_iff.1 hb).1).trans hb) (by simp [meantE, hk]) (by simp [meantE, hk]) (by simp [meantE, hk]) (by simp [meantE, hk]) rfl))
  have HW := hid hbw
  have KS : Hid (∀ w1 : World, Below w.heap.size w w1 → Calls Tryz.prog 114 #[.string h.name] w1 fun e w' => e = .returned (.bool (smallB h.name)) ∧ Below w1.heap.size w1 w') := hid (fun w1 hb1 => isSmall_any h.name d.n w1 (hm.below hm.lt hb1))
  have KG : Hid (∀ w1 : World, Below w.heap.size w w1 → Calls Tryz.prog 111 #[.string h.name] w1 fun e w' => e = .returned (.bool (greatB h.name)) ∧ Below w1.heap.size w1 w') := hid (fun w1 hb1 => isGreat_any h.name d.n w1 (hm.below hm.lt hb1))
  have KF : Hid (∀ w1 : World, Below w.heap.size w w1 → Calls Tryz.prog 118 #[.slice h.na h.nn h.nc] w1 fun e w' => e = .returned (.bool (fieldsB h.names)) ∧ Below w1.heap.size w1 w') := hid (fun w1 hb1 => areFields_any w1 h.na h.nn h.nc h.names d.nl d.nb (d.nr.below (Nat.le_refl _) hb1) d.ns (hm.below hm.lt hb1))
  have CN : Hid (∀ w1 : World, Below w.heap.size w w1 → w1.cell? ⟨h.b, h.o + 5, none⟩ = some (.slice h.na h.nn h.nc)) := hid (fun w1 hb1 => belowCell d.c5 (Nat.le_refl _) hb1)
  have HR : Hid (rightE h = ((smallB h.name && decide (h.an = 1)) && alikeE h (meantE h))) := hid (by unfold rightE okE; simp [hk])
  have fin : Hid (∀ (w1 : World) (m : Nat), Below w.heap.size w w1 → Below w.heap.size w (w1.drewN m)) := hid (fun w1 m hb => bel_drewN hb m)
  generalize alikeE h (meantE h) = al at *
  generalize rightE h = res at *
  generalize smallB h.name = sm at *
  generalize greatB h.name = gr at *
  generalize fieldsB h.names = fi at *
  clear d hm hb hbw cell
  obtain ⟨b, o, kind, op, int, text, name, na, nn, nc, aa, an, ac, pos, names⟩ := h
  simp only at c0 c6 C0 C1 C2 C3 C4 C5 C6 hW KA KS KG KF CN HR hk ha hnn htx ⊢
  subst hk
  cases sm
  case false =>
    go_enter Tryz.func86, Tryz.ntmps86
    go_wp2
    go_region_held3 (fun w2 => w2.cell? ⟨b, o, none⟩ = some (.int .i64 10) ∧ w2.cell? ⟨b, o + 6, none⟩ = some (.slice aa an ac)) (first | go_keep) (fail)
    go_wp2_with (first
      | (go_at_call 114; (rw [← hW]; clear hW; refine (KS.out W HW.out).mono ?_; rintro e w1 ⟨rfl, hb1⟩; have HB1 := hid hb1; clear hb1))
      | (go_at_call 76; (have hno := HB1; refine (KA.out w1 HB1.out).mono ?_; rintro e w2 ⟨rfl, m, rfl⟩; have HB2 := hid (fin.out w1 m (TR.out HW.out HB1.out))))
      | (go_at_call 76; (rw [← hW]; clear hW; refine (KA.out W (Below.refl _ _)).mono ?_; rintro e w2 ⟨rfl, m, rfl⟩; have HB2 := hid (fin.out W m HW.out))))
    go_ret
    refine ⟨?_, ?_⟩
    · rw [HR.out]; exact ret_bool (by simp)
    · first | exact HB2.out | exact TR.out HW.out HB1.out | (rw [← hW]; exact HW.out)
  case true =>
    by_cases q1 : an = 1
    case pos =>
      subst q1
      go_enter Tryz.func86, Tryz.ntmps86
      go_wp2
      go_region_held3 (fun w2 => w2.cell? ⟨b, o, none⟩ = some (.int .i64 10) ∧ w2.cell? ⟨b, o + 6, none⟩ = some (.slice aa 1 ac)) (first | go_keep) (fail)
      go_wp2_with (first
        | (go_at_call 114; (rw [← hW]; clear hW; refine (KS.out W HW.out).mono ?_; rintro e w1 ⟨rfl, hb1⟩; have HB1 := hid hb1; clear hb1))
        | (go_at_call 76; (have hno := HB1; refine (KA.out w1 HB1.out).mono ?_; rintro e w2 ⟨rfl, m, rfl⟩; have HB2 := hid (fin.out w1 m (TR.out HW.out HB1.out))))
        | (go_at_call 76; (rw [← hW]; clear hW; refine (KA.out W (Below.refl _ _)).mono ?_; rintro e w2 ⟨rfl, m, rfl⟩; have HB2 := hid (fin.out W m HW.out))))
      go_ret
      refine ⟨?_, ?_⟩
      · rw [HR.out]; exact ret_bool (by simp)
      · first | exact HB2.out | exact TR.out HW.out HB1.out | (rw [← hW]; exact HW.out)
    case neg =>
      have q1' : ¬ (an : Int) = 1 := by omega
      go_enter Tryz.func86, Tryz.ntmps86
      go_wp2
      go_region_held3 (fun w2 => w2.cell? ⟨b, o, none⟩ = some (.int .i64 10) ∧ w2.cell? ⟨b, o + 6, none⟩ = some (.slice aa an ac)) (first | go_keep) (fail)
      go_wp2_with (first
        | (go_at_call 114; (rw [← hW]; clear hW; refine (KS.out W HW.out).mono ?_; rintro e w1 ⟨rfl, hb1⟩; have HB1 := hid hb1; clear hb1))
        | (go_at_call 76; (have hno := HB1; refine (KA.out w1 HB1.out).mono ?_; rintro e w2 ⟨rfl, m, rfl⟩; have HB2 := hid (fin.out w1 m (TR.out HW.out HB1.out))))
        | (go_at_call 76; (rw [← hW]; clear hW; refine (KA.out W (Below.refl _ _)).mono ?_; rintro e w2 ⟨rfl, m, rfl⟩; have HB2 := hid (fin.out W m HW.out))))
      go_ret
      refine ⟨?_, ?_⟩
      · rw [HR.out]; exact ret_bool (by simp [q1])
      · first | exact HB2.out | exact TR.out HW.out HB1.out | (rw [← hW]; exact HW.out)

set_option maxRecDepth 100000 in
set_option maxHeartbeats 4000000 in
theorem isRightE_11 (w : World) (h : EH) (d : EHr w h) (hm : MX w) (hk : h.kind = 11) : Calls Tryz.prog 86 #[.pointer (some ⟨h.b, h.o, none⟩)] w fun e w' => e = .returned (.bool (rightE h)) ∧ Below w.heap.size w w' := by
  have TR : Hid (∀ {Z x y : World}, Below Z.heap.size Z x → Below x.heap.size x y → Below Z.heap.size Z y) := hid (fun h1 h2 => h1.trans (h2.mono h1.size))
  have ha : (h.an : Int) ≤ 1000000 := by have := d.ab; omega
  have hnn : (h.nn : Int) ≤ 1000000 := by have := d.nb; omega
  have htx : (h.text.size : Int) ≤ 9223372036854775807 := by have := d.t; omega
  have cell : ∀ {p : Addr} {v : Value} (o : Obj), w.cell? p = some v → (w.alloc o).cell? p = some v := fun o hc => (((Below.refl w.heap.size w).alloc (Nat.le_refl _) o).cell (World.block_lt_of_cell? w _ hc)).trans hc
  have c0 := d.c0
  have c6 := d.c6
  have C0 := fun o => cell o d.c0
  have C1 := fun o => cell o d.c1
  have C2 := fun o => cell o d.c2
  have C3 := fun o => cell o d.c3
  have C4 := fun o => cell o d.c4
  have C5 := fun o => cell o d.c5
  have C6 := fun o => cell o d.c6
  obtain ⟨W, hW⟩ : ∃ W, W = ((w.alloc (.cells #[.int .i64 11, .int .i64 0, .int .i64 0, .string ⟨#[]⟩, .string h.name, .slice none 0 0, .slice h.aa h.an h.ac, .int .i64 0] 28)).drew : World) := ⟨_, rfl⟩
  have hb : W.heap[w.heap.size]? = some (.cells (meantE h).cs 28 (0, 0)) := by
    rw [hW]
    refine (heap_alloc_new w _).trans ?_
    simp [meantE, EH.cs, emp, hk]
  have hbw : Below w.heap.size w W := by rw [hW]; exact ((Below.refl _ w).alloc (Nat.le_refl _) _).drew
  have KA : Hid (∀ w1 : World, Below W.heap.size W w1 → Calls Tryz.prog 76 #[.pointer (some ⟨h.b, h.o, none⟩), .pointer (some ⟨w.heap.size, 0, none⟩)] w1 fun e w' => e = .returned (.bool (alikeE h (meantE h))) ∧ ∃ m, w' = w1.drewN m) := hid (fun w1 hb1 => by
    have dd := d.below (Nat.le_refl _) (hbw.trans (hb1.mono hbw.size))
    exact alikeE_any w1 h { meantE h with b := w.heap.size, o := 0 } dd (boxE dd ((hb1.block _ (Array.getElem?_eq_some_iff.1 hb).1).trans hb) (by simp [meantE, hk]) (by simp [meantE, hk]) (by simp [meantE, hk]) (by simp [meantE, hk]) rfl))
  have HW := hid hbw
  have KS : Hid (∀ w1 : World, Below w.heap.size w w1 → Calls Tryz.prog 114 #[.string h.name] w1 fun e w' => e = .returned (.bool (smallB h.name)) ∧ Below w1.heap.size w1 w') := hid (fun w1 hb1 => isSmall_any h.name d.n w1 (hm.below hm.lt hb1))
  have KG : Hid (∀ w1 : World, Below w.heap.size w w1 → Calls Tryz.prog 111 #[.string h.name] w1 fun e w' => e = .returned (.bool (greatB h.name)) ∧ Below w1.heap.size w1 w') := hid (fun w1 hb1 => isGreat_any h.name d.n w1 (hm.below hm.lt hb1))
  have KF : Hid (∀ w1 : World, Below w.heap.size w w1 → Calls Tryz.prog 118 #[.slice h.na h.nn h.nc] w1 fun e w' => e = .returned (.bool (fieldsB h.names)) ∧ Below w1.heap.size w1 w') := hid (fun w1 hb1 => areFields_any w1 h.na h.nn h.nc h.names d.nl d.nb (d.nr.below (Nat.le_refl _) hb1) d.ns (hm.below hm.lt hb1))
  have CN : Hid (∀ w1 : World, Below w.heap.size w w1 → w1.cell? ⟨h.b, h.o + 5, none⟩ = some (.slice h.na h.nn h.nc)) := hid (fun w1 hb1 => belowCell d.c5 (Nat.le_refl _) hb1)
  have HR : Hid (rightE h = ((smallB h.name && decide (h.an ≤ 12)) && alikeE h (meantE h))) := hid (by unfold rightE okE; simp [hk])
  have fin : Hid (∀ (w1 : World) (m : Nat), Below w.heap.size w w1 → Below w.heap.size w (w1.drewN m)) := hid (fun w1 m hb => bel_drewN hb m)
  generalize alikeE h (meantE h) = al at *
  generalize rightE h = res at *
  generalize smallB h.name = sm at *
  generalize greatB h.name = gr at *
  generalize fieldsB h.names = fi at *
  clear d hm hb hbw cell
  obtain ⟨b, o, kind, op, int, text, name, na, nn, nc, aa, an, ac, pos, names⟩ := h
  simp only at c0 c6 C0 C1 C2 C3 C4 C5 C6 hW KA KS KG KF CN HR hk ha hnn htx ⊢
  subst hk
  cases sm
  case false =>
    go_enter Tryz.func86, Tryz.ntmps86
    go_wp2
    go_region_held3 (fun w2 => w2.cell? ⟨b, o, none⟩ = some (.int .i64 11) ∧ w2.cell? ⟨b, o + 6, none⟩ = some (.slice aa an ac)) (first | go_keep) (fail)
    go_wp2_with (first
      | (go_at_call 114; (rw [← hW]; clear hW; refine (KS.out W HW.out).mono ?_; rintro e w1 ⟨rfl, hb1⟩; have HB1 := hid hb1; clear hb1))
      | (go_at_call 76; (have hno := HB1; refine (KA.out w1 HB1.out).mono ?_; rintro e w2 ⟨rfl, m, rfl⟩; have HB2 := hid (fin.out w1 m (TR.out HW.out HB1.out))))
      | (go_at_call 76; (rw [← hW]; clear hW; refine (KA.out W (Below.refl _ _)).mono ?_; rintro e w2 ⟨rfl, m, rfl⟩; have HB2 := hid (fin.out W m HW.out))))
    go_ret
    refine ⟨?_, ?_⟩
    · rw [HR.out]; exact ret_bool (by simp)
    · first | exact HB2.out | exact TR.out HW.out HB1.out | (rw [← hW]; exact HW.out)
  case true =>
    by_cases q1 : an ≤ 12
    case pos =>
      have q1' : (an : Int) ≤ 12 := by omega
      go_enter Tryz.func86, Tryz.ntmps86
      go_wp2
      go_region_held3 (fun w2 => w2.cell? ⟨b, o, none⟩ = some (.int .i64 11) ∧ w2.cell? ⟨b, o + 6, none⟩ = some (.slice aa an ac)) (first | go_keep) (fail)
      go_wp2_with (first
        | (go_at_call 114; (rw [← hW]; clear hW; refine (KS.out W HW.out).mono ?_; rintro e w1 ⟨rfl, hb1⟩; have HB1 := hid hb1; clear hb1))
        | (go_at_call 76; (have hno := HB1; refine (KA.out w1 HB1.out).mono ?_; rintro e w2 ⟨rfl, m, rfl⟩; have HB2 := hid (fin.out w1 m (TR.out HW.out HB1.out))))
        | (go_at_call 76; (rw [← hW]; clear hW; refine (KA.out W (Below.refl _ _)).mono ?_; rintro e w2 ⟨rfl, m, rfl⟩; have HB2 := hid (fin.out W m HW.out))))
      go_ret
      refine ⟨?_, ?_⟩
      · rw [HR.out]; exact ret_bool (by simp [q1])
      · first | exact HB2.out | exact TR.out HW.out HB1.out | (rw [← hW]; exact HW.out)
    case neg =>
      have q1' : ¬ (an : Int) ≤ 12 := by omega
      go_enter Tryz.func86, Tryz.ntmps86
      go_wp2
      go_region_held3 (fun w2 => w2.cell? ⟨b, o, none⟩ = some (.int .i64 11) ∧ w2.cell? ⟨b, o + 6, none⟩ = some (.slice aa an ac)) (first | go_keep) (fail)
      go_wp2_with (first
        | (go_at_call 114; (rw [← hW]; clear hW; refine (KS.out W HW.out).mono ?_; rintro e w1 ⟨rfl, hb1⟩; have HB1 := hid hb1; clear hb1))
        | (go_at_call 76; (have hno := HB1; refine (KA.out w1 HB1.out).mono ?_; rintro e w2 ⟨rfl, m, rfl⟩; have HB2 := hid (fin.out w1 m (TR.out HW.out HB1.out))))
        | (go_at_call 76; (rw [← hW]; clear hW; refine (KA.out W (Below.refl _ _)).mono ?_; rintro e w2 ⟨rfl, m, rfl⟩; have HB2 := hid (fin.out W m HW.out))))
      go_ret
      refine ⟨?_, ?_⟩
      · rw [HR.out]; exact ret_bool (by simp [q1])
      · first | exact HB2.out | exact TR.out HW.out HB1.out | (rw [← hW]; exact HW.out)

set_option maxRecDepth 100000 in
set_option maxHeartbeats 4000000 in
theorem isRightE_12 (w : World) (h : EH) (d : EHr w h) (hm : MX w) (hk : h.kind = 12) : Calls Tryz.prog 86 #[.pointer (some ⟨h.b, h.o, none⟩)] w fun e w' => e = .returned (.bool (rightE h)) ∧ Below w.heap.size w w' := by
  have TR : Hid (∀ {Z x y : World}, Below Z.heap.size Z x → Below x.heap.size x y → Below Z.heap.size Z y) := hid (fun h1 h2 => h1.trans (h2.mono h1.size))
  have ha : (h.an : Int) ≤ 1000000 := by have := d.ab; omega
  have hnn : (h.nn : Int) ≤ 1000000 := by have := d.nb; omega
  have htx : (h.text.size : Int) ≤ 9223372036854775807 := by have := d.t; omega
  have cell : ∀ {p : Addr} {v : Value} (o : Obj), w.cell? p = some v → (w.alloc o).cell? p = some v := fun o hc => (((Below.refl w.heap.size w).alloc (Nat.le_refl _) o).cell (World.block_lt_of_cell? w _ hc)).trans hc
  have c0 := d.c0
  have c6 := d.c6
  have C0 := fun o => cell o d.c0
  have C1 := fun o => cell o d.c1
  have C2 := fun o => cell o d.c2
  have C3 := fun o => cell o d.c3
  have C4 := fun o => cell o d.c4
  have C5 := fun o => cell o d.c5
  have C6 := fun o => cell o d.c6
  obtain ⟨W, hW⟩ : ∃ W, W = ((w.alloc (.cells #[.int .i64 12, .int .i64 0, .int .i64 0, .string ⟨#[]⟩, .string h.name, .slice none 0 0, .slice h.aa h.an h.ac, .int .i64 0] 28)).drew : World) := ⟨_, rfl⟩
  have hb : W.heap[w.heap.size]? = some (.cells (meantE h).cs 28 (0, 0)) := by
    rw [hW]
    refine (heap_alloc_new w _).trans ?_
    simp [meantE, EH.cs, emp, hk]
  have hbw : Below w.heap.size w W := by rw [hW]; exact ((Below.refl _ w).alloc (Nat.le_refl _) _).drew
  have KA : Hid (∀ w1 : World, Below W.heap.size W w1 → Calls Tryz.prog 76 #[.pointer (some ⟨h.b, h.o, none⟩), .pointer (some ⟨w.heap.size, 0, none⟩)] w1 fun e w' => e = .returned (.bool (alikeE h (meantE h))) ∧ ∃ m, w' = w1.drewN m) := hid (fun w1 hb1 => by
    have dd := d.below (Nat.le_refl _) (hbw.trans (hb1.mono hbw.size))
    exact alikeE_any w1 h { meantE h with b := w.heap.size, o := 0 } dd (boxE dd ((hb1.block _ (Array.getElem?_eq_some_iff.1 hb).1).trans hb) (by simp [meantE, hk]) (by simp [meantE, hk]) (by simp [meantE, hk]) (by simp [meantE, hk]) rfl))
  have HW := hid hbw
  have KS : Hid (∀ w1 : World, Below w.heap.size w w1 → Calls Tryz.prog 114 #[.string h.name] w1 fun e w' => e = .returned (.bool (smallB h.name)) ∧ Below w1.heap.size w1 w') := hid (fun w1 hb1 => isSmall_any h.name d.n w1 (hm.below hm.lt hb1))
  have KG : Hid (∀ w1 : World, Below w.heap.size w w1 → Calls Tryz.prog 111 #[.string h.name] w1 fun e w' => e = .returned (.bool (greatB h.name)) ∧ Below w1.heap.size w1 w') := hid (fun w1 hb1 => isGreat_any h.name d.n w1 (hm.below hm.lt hb1))
  have KF : Hid (∀ w1 : World, Below w.heap.size w w1 → Calls Tryz.prog 118 #[.slice h.na h.nn h.nc] w1 fun e w' => e = .returned (.bool (fieldsB h.names)) ∧ Below w1.heap.size w1 w') := hid (fun w1 hb1 => areFields_any w1 h.na h.nn h.nc h.names d.nl d.nb (d.nr.below (Nat.le_refl _) hb1) d.ns (hm.below hm.lt hb1))
  have CN : Hid (∀ w1 : World, Below w.heap.size w w1 → w1.cell? ⟨h.b, h.o + 5, none⟩ = some (.slice h.na h.nn h.nc)) := hid (fun w1 hb1 => belowCell d.c5 (Nat.le_refl _) hb1)
  have HR : Hid (rightE h = ((smallB h.name && decide (h.an = 1)) && alikeE h (meantE h))) := hid (by unfold rightE okE; simp [hk])
  have fin : Hid (∀ (w1 : World) (m : Nat), Below w.heap.size w w1 → Below w.heap.size w (w1.drewN m)) := hid (fun w1 m hb => bel_drewN hb m)
  generalize alikeE h (meantE h) = al at *
  generalize rightE h = res at *
  generalize smallB h.name = sm at *
  generalize greatB h.name = gr at *
  generalize fieldsB h.names = fi at *
  clear d hm hb hbw cell
  obtain ⟨b, o, kind, op, int, text, name, na, nn, nc, aa, an, ac, pos, names⟩ := h
  simp only at c0 c6 C0 C1 C2 C3 C4 C5 C6 hW KA KS KG KF CN HR hk ha hnn htx ⊢
  subst hk
  cases sm
  case false =>
    go_enter Tryz.func86, Tryz.ntmps86
    go_wp2
    go_region_held3 (fun w2 => w2.cell? ⟨b, o, none⟩ = some (.int .i64 12) ∧ w2.cell? ⟨b, o + 6, none⟩ = some (.slice aa an ac)) (first | go_keep) (fail)
    go_wp2_with (first
      | (go_at_call 114; (rw [← hW]; clear hW; refine (KS.out W HW.out).mono ?_; rintro e w1 ⟨rfl, hb1⟩; have HB1 := hid hb1; clear hb1))
      | (go_at_call 76; (have hno := HB1; refine (KA.out w1 HB1.out).mono ?_; rintro e w2 ⟨rfl, m, rfl⟩; have HB2 := hid (fin.out w1 m (TR.out HW.out HB1.out))))
      | (go_at_call 76; (rw [← hW]; clear hW; refine (KA.out W (Below.refl _ _)).mono ?_; rintro e w2 ⟨rfl, m, rfl⟩; have HB2 := hid (fin.out W m HW.out))))
    go_ret
    refine ⟨?_, ?_⟩
    · rw [HR.out]; exact ret_bool (by simp)
    · first | exact HB2.out | exact TR.out HW.out HB1.out | (rw [← hW]; exact HW.out)
  case true =>
    by_cases q1 : an = 1
    case pos =>
      subst q1
      go_enter Tryz.func86, Tryz.ntmps86
      go_wp2
      go_region_held3 (fun w2 => w2.cell? ⟨b, o, none⟩ = some (.int .i64 12) ∧ w2.cell? ⟨b, o + 6, none⟩ = some (.slice aa 1 ac)) (first | go_keep) (fail)
      go_wp2_with (first
        | (go_at_call 114; (rw [← hW]; clear hW; refine (KS.out W HW.out).mono ?_; rintro e w1 ⟨rfl, hb1⟩; have HB1 := hid hb1; clear hb1))
        | (go_at_call 76; (have hno := HB1; refine (KA.out w1 HB1.out).mono ?_; rintro e w2 ⟨rfl, m, rfl⟩; have HB2 := hid (fin.out w1 m (TR.out HW.out HB1.out))))
        | (go_at_call 76; (rw [← hW]; clear hW; refine (KA.out W (Below.refl _ _)).mono ?_; rintro e w2 ⟨rfl, m, rfl⟩; have HB2 := hid (fin.out W m HW.out))))
      go_ret
      refine ⟨?_, ?_⟩
      · rw [HR.out]; exact ret_bool (by simp)
      · first | exact HB2.out | exact TR.out HW.out HB1.out | (rw [← hW]; exact HW.out)
    case neg =>
      have q1' : ¬ (an : Int) = 1 := by omega
      go_enter Tryz.func86, Tryz.ntmps86
      go_wp2
      go_region_held3 (fun w2 => w2.cell? ⟨b, o, none⟩ = some (.int .i64 12) ∧ w2.cell? ⟨b, o + 6, none⟩ = some (.slice aa an ac)) (first | go_keep) (fail)
      go_wp2_with (first
        | (go_at_call 114; (rw [← hW]; clear hW; refine (KS.out W HW.out).mono ?_; rintro e w1 ⟨rfl, hb1⟩; have HB1 := hid hb1; clear hb1))
        | (go_at_call 76; (have hno := HB1; refine (KA.out w1 HB1.out).mono ?_; rintro e w2 ⟨rfl, m, rfl⟩; have HB2 := hid (fin.out w1 m (TR.out HW.out HB1.out))))
        | (go_at_call 76; (rw [← hW]; clear hW; refine (KA.out W (Below.refl _ _)).mono ?_; rintro e w2 ⟨rfl, m, rfl⟩; have HB2 := hid (fin.out W m HW.out))))
      go_ret
      refine ⟨?_, ?_⟩
      · rw [HR.out]; exact ret_bool (by simp [q1])
      · first | exact HB2.out | exact TR.out HW.out HB1.out | (rw [← hW]; exact HW.out)
end Go.Proofs.YtdfambocenohgaaGreatDoor

