/- tree.isRightExpr. -/
import Derived.Test.YtcnohgifihbkdaaGreatDoorJAX
namespace Go.Proofs.YtcnohgifihbkdaaGreatDoor.Lx
open Go.RowKit Go.Deep
set_option linter.unusedVariables false
set_option linter.unusedSimpArgs false


set_option maxRecDepth 100000 in
set_option maxHeartbeats 4000000 in
theorem isRightE_9 (w : World) (h : EH) (d : EHr w h) (hm : MX w) (hk : h.kind = 9) : Calls Tryz.prog 127 #[.pointer (some ⟨h.b, h.o, none⟩)] w fun e w' => e = .returned (.bool (rightE h)) ∧ Below w.heap.size w w' := by
  have TR : Hid (∀ {Z x y : World}, Below Z.heap.size Z x → Below x.heap.size x y → Below Z.heap.size Z y) := hid (fun h1 h2 => h1.trans (h2.mono h1.size))
  have ha : (h.an : Int) ≤ 1000000 := by have := d.ab; omega
  have hnn : (h.nn : Int) ≤ 1000000 := by have := d.nb; omega
  have htx : (h.text.size : Int) ≤ 9223372036854775807 := by have := d.t; omega
  have cell : ∀ {p : Addr} {v : Value} (o : Obj), w.cell? p = some v → (w.alloc o).cell? p = some v := fun o hc => (((Below.refl w.heap.size w).alloc (Nat.le_refl _) o).cell (World.block_lt_of_cell? w _ hc)).trans hc
  have c0 := d.c0
  have c6 := d.c6
  have C0 := fun o => cell o d.c0
  have C1 := fun o => cell o d.c1
  have C2 := fun o => cell o d.c2
  have C3 := fun o => cell o d.c3
  have C4 := fun o => cell o d.c4
  have C5 := fun o => cell o d.c5
  have C6 := fun o => cell o d.c6
  obtain ⟨W, hW⟩ : ∃ W, W = ((w.alloc (.cells #[.int .i64 9, .int .i64 0, .int .i64 0, .string ⟨#[]⟩, .string h.name, .slice none 0 0, .slice h.aa h.an h.ac, .int .i64 0] 45)).drew : World) := ⟨_, rfl⟩
  have hb : W.heap[w.heap.size]? = some (.cells (meantE h).cs 45 (0, 0)) := by
    rw [hW]
    refine (heap_alloc_new w _).trans ?_
    simp [meantE, EH.cs, emp, hk]
  have hbw : Below w.heap.size w W := by rw [hW]; exact ((Below.refl _ w).alloc (Nat.le_refl _) _).drew
  have KA : Hid (∀ w1 : World, Below W.heap.size W w1 → Calls Tryz.prog 168 #[.pointer (some ⟨h.b, h.o, none⟩), .pointer (some ⟨w.heap.size, 0, none⟩)] w1 fun e w' => e = .returned (.bool (alikeE h (meantE h))) ∧ ∃ m, w' = w1.drewN m) := hid (fun w1 hb1 => by
    have dd := d.below (Nat.le_refl _) (hbw.trans (hb1.mono hbw.size))
    exact alikeE_any w1 h { meantE h with b := w.heap.size, o := 0 } dd (boxE dd ((hb1.block _ (Array.getElem?_eq_some_iff.1 hb).1).trans hb) (by simp [meantE, hk]) (by simp [meantE, hk]) (by simp [meantE, hk]) (by simp [meantE, hk]) rfl))
  have HW := hid hbw
  have KS : Hid (∀ w1 : World, Below w.heap.size w w1 → Calls Tryz.prog 161 #[.string h.name] w1 fun e w' => e = .returned (.bool (smallB h.name)) ∧ Below w1.heap.size w1 w') := hid (fun w1 hb1 => isSmall_any h.name d.n w1 (hm.below hm.lt hb1))
  have KG : Hid (∀ w1 : World, Below w.heap.size w w1 → Calls Tryz.prog 158 #[.string h.name] w1 fun e w' => e = .returned (.bool (greatB h.name)) ∧ Below w1.heap.size w1 w') := hid (fun w1 hb1 => isGreat_any h.name d.n w1 (hm.below hm.lt hb1))
  have KF : Hid (∀ w1 : World, Below w.heap.size w w1 → Calls Tryz.prog 167 #[.slice h.na h.nn h.nc] w1 fun e w' => e = .returned (.bool (fieldsB h.names)) ∧ Below w1.heap.size w1 w') := hid (fun w1 hb1 => areFields_any w1 h.na h.nn h.nc h.names d.nl d.nb (d.nr.below (Nat.le_refl _) hb1) d.ns (hm.below hm.lt hb1))
  have CN : Hid (∀ w1 : World, Below w.heap.size w w1 → w1.cell? ⟨h.b, h.o + 5, none⟩ = some (.slice h.na h.nn h.nc)) := hid (fun w1 hb1 => belowCell d.c5 (Nat.le_refl _) hb1)
  have HR : Hid (rightE h = ((smallB h.name && decide (h.an = 1)) && alikeE h (meantE h))) := hid (by unfold rightE okE; simp [hk])
  have fin : Hid (∀ (w1 : World) (m : Nat), Below w.heap.size w w1 → Below w.heap.size w (w1.drewN m)) := hid (fun w1 m hb => bel_drewN hb m)
  generalize alikeE h (meantE h) = al at *
  generalize rightE h = res at *
  generalize smallB h.name = sm at *
  generalize greatB h.name = gr at *
  generalize fieldsB h.names = fi at *
  clear d hm hb hbw cell
  obtain ⟨b, o, kind, op, int, text, name, na, nn, nc, aa, an, ac, pos, names⟩ := h
  simp only at c0 c6 C0 C1 C2 C3 C4 C5 C6 hW KA KS KG KF CN HR hk ha hnn htx ⊢
  subst hk
  cases sm
  case false =>
    go_enter Tryz.func127, Tryz.ntmps127
    go_wp2
    go_region_held3 (fun w2 => w2.cell? ⟨b, o, none⟩ = some (.int .i64 9) ∧ w2.cell? ⟨b, o + 6, none⟩ = some (.slice aa an ac)) (first | go_keep) (fail)
    go_wp2_with (first
      | (go_at_call 161; (rw [← hW]; clear hW; refine (KS.out W HW.out).mono ?_; rintro e w1 ⟨rfl, hb1⟩; have HB1 := hid hb1; clear hb1))
      | (go_at_call 168; (have hno := HB1; refine (KA.out w1 HB1.out).mono ?_; rintro e w2 ⟨rfl, m, rfl⟩; have HB2 := hid (fin.out w1 m (TR.out HW.out HB1.out))))
      | (go_at_call 168; (rw [← hW]; clear hW; refine (KA.out W (Below.refl _ _)).mono ?_; rintro e w2 ⟨rfl, m, rfl⟩; have HB2 := hid (fin.out W m HW.out))))
    go_ret
    refine ⟨?_, ?_⟩
    · rw [HR.out]; exact ret_bool (by simp)
    · first | exact HB2.out | exact TR.out HW.out HB1.out | (rw [← hW]; exact HW.out)
  case true =>
    by_cases q1 : an = 1
    case pos =>
      subst q1
      go_enter Tryz.func127, Tryz.ntmps127
      go_wp2
      go_region_held3 (fun w2 => w2.cell? ⟨b, o, none⟩ = some (.int .i64 9) ∧ w2.cell? ⟨b, o + 6, none⟩ = some (.slice aa 1 ac)) (first | go_keep) (fail)
      go_wp2_with (first
        | (go_at_call 161; (rw [← hW]; clear hW; refine (KS.out W HW.out).mono ?_; rintro e w1 ⟨rfl, hb1⟩; have HB1 := hid hb1; clear hb1))
        | (go_at_call 168; (have hno := HB1; refine (KA.out w1 HB1.out).mono ?_; rintro e w2 ⟨rfl, m, rfl⟩; have HB2 := hid (fin.out w1 m (TR.out HW.out HB1.out))))
        | (go_at_call 168; (rw [← hW]; clear hW; refine (KA.out W (Below.refl _ _)).mono ?_; rintro e w2 ⟨rfl, m, rfl⟩; have HB2 := hid (fin.out W m HW.out))))
      go_ret
      refine ⟨?_, ?_⟩
      · rw [HR.out]; exact ret_bool (by simp)
      · first | exact HB2.out | exact TR.out HW.out HB1.out | (rw [← hW]; exact HW.out)
    case neg =>
      have q1' : ¬ (an : Int) = 1 := by omega
      go_enter Tryz.func127, Tryz.ntmps127
      go_wp2
      go_region_held3 (fun w2 => w2.cell? ⟨b, o, none⟩ = some (.int .i64 9) ∧ w2.cell? ⟨b, o + 6, none⟩ = some (.slice aa an ac)) (first | go_keep) (fail)
      go_wp2_with (first
        | (go_at_call 161; (rw [← hW]; clear hW; refine (KS.out W HW.out).mono ?_; rintro e w1 ⟨rfl, hb1⟩; have HB1 := hid hb1; clear hb1))
        | (go_at_call 168; (have hno := HB1; refine (KA.out w1 HB1.out).mono ?_; rintro e w2 ⟨rfl, m, rfl⟩; have HB2 := hid (fin.out w1 m (TR.out HW.out HB1.out))))
        | (go_at_call 168; (rw [← hW]; clear hW; refine (KA.out W (Below.refl _ _)).mono ?_; rintro e w2 ⟨rfl, m, rfl⟩; have HB2 := hid (fin.out W m HW.out))))
      go_ret
      refine ⟨?_, ?_⟩
      · rw [HR.out]; exact ret_bool (by simp [q1])
      · first | exact HB2.out | exact TR.out HW.out HB1.out | (rw [← hW]; exact HW.out)

set_option maxRecDepth 100000 in
set_option maxHeartbeats 4000000 in
theorem isRightE_10 (w : World) (h : EH) (d : EHr w h) (hm : MX w) (hk : h.kind = 10) : Calls Tryz.prog 127 #[.pointer (some ⟨h.b, h.o, none⟩)] w fun e w' => e = .returned (.bool (rightE h)) ∧ Below w.heap.size w w' := by
  have TR : Hid (∀ {Z x y : World}, Below Z.heap.size Z x → Below x.heap.size x y → Below Z.heap.size Z y) := hid (fun h1 h2 => h1.trans (h2.mono h1.size))
  have ha : (h.an : Int) ≤ 1000000 := by have := d.ab; omega
  have hnn : (h.nn : Int) ≤ 1000000 := by have := d.nb; omega
  have htx : (h.text.size : Int) ≤ 9223372036854775807 := by have := d.t; omega
  have cell : ∀ {p : Addr} {v : Value} (o : Obj), w.cell? p = some v → (w.alloc o).cell? p = some v := fun o hc => (((Below.refl w.heap.size w).alloc (Nat.le_refl _) o).cell (World.block_lt_of_cell? w _ hc)).trans hc
  have c0 := d.c0
  have c6 := d.c6
  have C0 := fun o => cell o d.c0
  have C1 := fun o => cell o d.c1
  have C2 := fun o => cell o d.c2
  have C3 := fun o => cell o d.c3
  have C4 := fun o => cell o d.c4
  have C5 := fun o => cell o d.c5
  have C6 := fun o => cell o d.c6
  obtain ⟨W, hW⟩ : ∃ W, W = ((w.alloc (.cells #[.int .i64 10, .int .i64 0, .int .i64 0, .string ⟨#[]⟩, .string h.name, .slice none 0 0, .slice h.aa h.an h.ac, .int .i64 0] 45)).drew : World) := ⟨_, rfl⟩
  have hb : W.heap[w.heap.size]? = some (.cells (meantE h).cs 45 (0, 0)) := by
    rw [hW]
    refine (heap_alloc_new w _).trans ?_
    simp [meantE, EH.cs, emp, hk]
  have hbw : Below w.heap.size w W := by rw [hW]; exact ((Below.refl _ w).alloc (Nat.le_refl _) _).drew
  have KA : Hid (∀ w1 : World, Below W.heap.size W w1 → Calls Tryz.prog 168 #[.pointer (some ⟨h.b, h.o, none⟩), .pointer (some ⟨w.heap.size, 0, none⟩)] w1 fun e w' => e = .returned (.bool (alikeE h (meantE h))) ∧ ∃ m, w' = w1.drewN m) := hid (fun w1 hb1 => by
    have dd := d.below (Nat.le_refl _) (hbw.trans (hb1.mono hbw.size))
    exact alikeE_any w1 h { meantE h with b := w.heap.size, o := 0 } dd (boxE dd ((hb1.block _ (Array.getElem?_eq_some_iff.1 hb).1).trans hb) (by simp [meantE, hk]) (by simp [meantE, hk]) (by simp [meantE, hk]) (by simp [meantE, hk]) rfl))
  have HW := hid hbw
  have KS : Hid (∀ w1 : World, Below w.heap.size w w1 → Calls Tryz.prog 161 #[.string h.name] w1 fun e w' => e = .returned (.bool (smallB h.name)) ∧ Below w1.heap.size w1 w') := hid (fun w1 hb1 => isSmall_any h.name d.n w1 (hm.below hm.lt hb1))
  have KG : Hid (∀ w1 : World, Below w.heap.size w w1 → Calls Tryz.prog 158 #[.string h.name] w1 fun e w' => e = .returned (.bool (greatB h.name)) ∧ Below w1.heap.size w1 w') := hid (fun w1 hb1 => isGreat_any h.name d.n w1 (hm.below hm.lt hb1))
  have KF : Hid (∀ w1 : World, Below w.heap.size w w1 → Calls Tryz.prog 167 #[.slice h.na h.nn h.nc] w1 fun e w' => e = .returned (.bool (fieldsB h.names)) ∧ Below w1.heap.size w1 w') := hid (fun w1 hb1 => areFields_any w1 h.na h.nn h.nc h.names d.nl d.nb (d.nr.below (Nat.le_refl _) hb1) d.ns (hm.below hm.lt hb1))
  have CN : Hid (∀ w1 : World, Below w.heap.size w w1 → w1.cell? ⟨h.b, h.o + 5, none⟩ = some (.slice h.na h.nn h.nc)) := hid (fun w1 hb1 => belowCell d.c5 (Nat.le_refl _) hb1)
  have HR : Hid (rightE h = ((smallB h.name && decide (h.an = 1)) && alikeE h (meantE h))) := hid (by unfold rightE okE; simp [hk])
  have fin : Hid (∀ (w1 : World) (m : Nat), Below w.heap.size w w1 → Below w.heap.size w (w1.drewN m)) := hid (fun w1 m hb => bel_drewN hb m)
  generalize alikeE h (meantE h) = al at *
  generalize rightE h = res at *
  generalize smallB h.name = sm at *
  generalize greatB h.name = gr at *
  generalize fieldsB h.names = fi at *
  clear d hm hb hbw cell
  obtain ⟨b, o, kind, op, int, text, name, na, nn, nc, aa, an, ac, pos, names⟩ := h
  simp only at c0 c6 C0 C1 C2 C3 C4 C5 C6 hW KA KS KG KF CN HR hk ha hnn htx ⊢
  subst hk
  cases sm
  case false =>
    go_enter Tryz.func127, Tryz.ntmps127
    go_wp2
    go_region_held3 (fun w2 => w2.cell? ⟨b, o, none⟩ = some (.int .i64 10) ∧ w2.cell? ⟨b, o + 6, none⟩ = some (.slice aa an ac)) (first | go_keep) (fail)
    go_wp2_with (first
      | (go_at_call 161; (rw [← hW]; clear hW; refine (KS.out W HW.out).mono ?_; rintro e w1 ⟨rfl, hb1⟩; have HB1 := hid hb1; clear hb1))
      | (go_at_call 168; (have hno := HB1; refine (KA.out w1 HB1.out).mono ?_; rintro e w2 ⟨rfl, m, rfl⟩; have HB2 := hid (fin.out w1 m (TR.out HW.out HB1.out))))
      | (go_at_call 168; (rw [← hW]; clear hW; refine (KA.out W (Below.refl _ _)).mono ?_; rintro e w2 ⟨rfl, m, rfl⟩; have HB2 := hid (fin.out W m HW.out))))
    go_ret
    refine ⟨?_, ?_⟩
    · rw [HR.out]; exact ret_bool (by simp)
    · first | exact HB2.out | exact TR.out HW.out HB1.out | (rw [← hW]; exact HW.out)
  case true =>
    by_cases q1 : an = 1
    case pos =>
      subst q1
      go_enter Tryz.func127, Tryz.ntmps127
      go_wp2
      go_region_held3 (fun w2 => w2.cell? ⟨b, o, none⟩ = some (.int .i64 10) ∧ w2.cell? ⟨b, o + 6, none⟩ = some (.slice aa 1 ac)) (first | go_keep) (fail)
      go_wp2_with (first
        | (go_at_call 161; (rw [← hW]; clear hW; refine (KS.out W HW.out).mono ?_; rintro e w1 ⟨rfl, hb1⟩; have HB1 := hid hb1; clear hb1))
        | (go_at_call 168; (have hno := HB1; refine (KA.out w1 HB1.out).mono ?_; rintro e w2 ⟨rfl, m, rfl⟩; have HB2 := hid (fin.out w1 m (TR.out HW.out HB1.out))))
        | (go_at_call 168; (rw [← hW]; clear hW; refine (KA.out W (Below.refl _ _)).mono ?_; rintro e w2 ⟨rfl, m, rfl⟩; have HB2 := hid (fin.out W m HW.out))))
      go_ret
      refine ⟨?_, ?_⟩
      · rw [HR.out]; exact ret_bool (by simp)
      · first | exact HB2.out | exact TR.out HW.out HB1.out | (rw [← hW]; exact HW.out)
    case neg =>
      have q1' : ¬ (an : Int) = 1 := by omega
      go_enter Tryz.func127, Tryz.ntmps127
      go_wp2
      go_region_held3 (fun w2 => w2.cell? ⟨b, o, none⟩ = some (.int .i64 10) ∧ w2.cell? ⟨b, o + 6, none⟩ = some (.slice aa an ac)) (first | go_keep) (fail)
      go_wp2_with (first
        | (go_at_call 161; (rw [← hW]; clear hW; refine (KS.out W HW.out).mono ?_; rintro e w1 ⟨rfl, hb1⟩; have HB1 := hid hb1; clear hb1))
        | (go_at_call 168; (have hno := HB1; refine (KA.out w1 HB1.out).mono ?_; rintro e w2 ⟨rfl, m, rfl⟩; have HB2 := hid (fin.out w1 m (TR.out HW.out HB1.out))))
        | (go_at_call 168; (rw [← hW]; clear hW; refine (KA.out W (Below.refl _ _)).mono ?_; rintro e w2 ⟨rfl, m, rfl⟩; have HB2 := hid (fin.out W m HW.out))))
      go_ret
      refine ⟨?_, ?_⟩
      · rw [HR.out]; exact ret_bool (by simp [q1])
      · first | exact HB2.out | exact TR.out HW.out HB1.out | (rw [← hW]; exact HW.out)

set_option maxRecDepth 100000 in
set_option maxHeartbeats 4000000 in
theorem isRightE_11 (w : World) (h : EH) (d : EHr w h) (hm : MX w) (hk : h.kind = 11) : Calls Tryz.prog 127 #[.pointer (some ⟨h.b, h.o, none⟩)] w fun e w' => e = .returned (.bool (rightE h)) ∧ Below w.heap.size w w' := by
  have TR : Hid (∀ {Z x y : World}, Below Z.heap.size Z x → Below x.heap.size x y → Below Z.heap.size Z y) := hid (fun h1 h2 => h1.trans (h2.mono h1.size))
  have ha : (h.an : Int) ≤ 1000000 := by have := d.ab; omega
  have hnn : (h.nn : Int) ≤ 1000000 := by have := d.nb; omega
  have htx : (h.text.size : Int) ≤ 9223372036854775807 := by have := d.t; omega
  have cell : ∀ {p : Addr} {v : Value} (o : Obj), w.cell? p = some v → (w.alloc o).cell? p = some v := fun o hc => (((Below.refl w.heap.size w).alloc (Nat.le_refl _) o).cell (World.block_lt_of_cell? w _ hc)).trans hc
  have c0 := d.c0
  have c6 := d.c6
  have C0 := fun o => cell o d.c0
  have C1 := fun o => cell o d.c1
  have C2 := fun o => cell o d.c2
  have C3 := fun o => cell o d.c3
  have C4 := fun o => cell o d.c4
  have C5 := fun o => cell o d.c5
  have C6 := fun o => cell o d.c6
  obtain ⟨W, hW⟩ : ∃ W, W = ((w.alloc (.cells #[.int .i64 11, .int .i64 0, .int .i64 0, .string ⟨#[]⟩, .string h.name, .slice none 0 0, .slice h.aa h.an h.ac, .int .i64 0] 45)).drew : World) := ⟨_, rfl⟩
  have hb : W.heap[w.heap.size]? = some (.cells (meantE h).cs 45 (0, 0)) := by
    rw [hW]
    refine (heap_alloc_new w _).trans ?_
    simp [meantE, EH.cs, emp, hk]
  have hbw : Below w.heap.size w W := by rw [hW]; exact ((Below.refl _ w).alloc (Nat.le_refl _) _).drew
  have KA : Hid (∀ w1 : World, Below W.heap.size W w1 → Calls Tryz.prog 168 #[.pointer (some ⟨h.b, h.o, none⟩), .pointer (some ⟨w.heap.size, 0, none⟩)] w1 fun e w' => e = .returned (.bool (alikeE h (meantE h))) ∧ ∃ m, w' = w1.drewN m) := hid (fun w1 hb1 => by
    have dd := d.below (Nat.le_refl _) (hbw.trans (hb1.mono hbw.size))
    exact alikeE_any w1 h { meantE h with b := w.heap.size, o := 0 } dd (boxE dd ((hb1.block _ (Array.getElem?_eq_some_iff.1 hb).1).trans hb) (by simp [meantE, hk]) (by simp [meantE, hk]) (by simp [meantE, hk]) (by simp [meantE, hk]) rfl))
  have HW := hid hbw
  have KS : Hid (∀ w1 : World, Below w.heap.size w w1 → Calls Tryz.prog 161 #[.string h.name] w1 fun e w' => e = .returned (.bool (smallB h.name)) ∧ Below w1.heap.size w1 w') := hid (fun w1 hb1 => isSmall_any h.name d.n w1 (hm.below hm.lt hb1))
  have KG : Hid (∀ w1 : World, Below w.heap.size w w1 → Calls Tryz.prog 158 #[.string h.name] w1 fun e w' => e = .returned (.bool (greatB h.name)) ∧ Below w1.heap.size w1 w') := hid (fun w1 hb1 => isGreat_any h.name d.n w1 (hm.below hm.lt hb1))
  have KF : Hid (∀ w1 : World, Below w.heap.size w w1 → Calls Tryz.prog 167 #[.slice h.na h.nn h.nc] w1 fun e w' => e = .returned (.bool (fieldsB h.names)) ∧ Below w1.heap.size w1 w') := hid (fun w1 hb1 => areFields_any w1 h.na h.nn h.nc h.names d.nl d.nb (d.nr.below (Nat.le_refl _) hb1) d.ns (hm.below hm.lt hb1))
  have CN : Hid (∀ w1 : World, Below w.heap.size w w1 → w1.cell? ⟨h.b, h.o + 5, none⟩ = some (.slice h.na h.nn h.nc)) := hid (fun w1 hb1 => belowCell d.c5 (Nat.le_refl _) hb1)
  have HR : Hid (rightE h = ((smallB h.name && decide (h.an ≤ 12)) && alikeE h (meantE h))) := hid (by unfold rightE okE; simp [hk])
  have fin : Hid (∀ (w1 : World) (m : Nat), Below w.heap.size w w1 → Below w.heap.size w (w1.drewN m)) := hid (fun w1 m hb => bel_drewN hb m)
  generalize alikeE h (meantE h) = al at *
  generalize rightE h = res at *
  generalize smallB h.name = sm at *
  generalize greatB h.name = gr at *
  generalize fieldsB h.names = fi at *
  clear d hm hb hbw cell
  obtain ⟨b, o, kind, op, int, text, name, na, nn, nc, aa, an, ac, pos, names⟩ := h
  simp only at c0 c6 C0 C1 C2 C3 C4 C5 C6 hW KA KS KG KF CN HR hk ha hnn htx ⊢
  subst hk
  cases sm
  case false =>
    go_enter Tryz.func127, Tryz.ntmps127
    go_wp2
    go_region_held3 (fun w2 => w2.cell? ⟨b, o, none⟩ = some (.int .i64 11) ∧ w2.cell? ⟨b, o + 6, none⟩ = some (.slice aa an ac)) (first | go_keep) (fail)
    go_wp2_with (first
      | (go_at_call 161; (rw [← hW]; clear hW; refine (KS.out W HW.out).mono ?_; rintro e w1 ⟨rfl, hb1⟩; have HB1 := hid hb1; clear hb1))
      | (go_at_call 168; (have hno := HB1; refine (KA.out w1 HB1.out).mono ?_; rintro e w2 ⟨rfl, m, rfl⟩; have HB2 := hid (fin.out w1 m (TR.out HW.out HB1.out))))
      | (go_at_call 168; (rw [← hW]; clear hW; refine (KA.out W (Below.refl _ _)).mono ?_; rintro e w2 ⟨rfl, m, rfl⟩; have HB2 := hid (fin.out W m HW.out))))
    go_ret
    refine ⟨?_, ?_⟩
    · rw [HR.out]; exact ret_bool (by simp)
    · first | exact HB2.out | exact TR.out HW.out HB1.out | (rw [← hW]; exact HW.out)
  case true =>
    by_cases q1 : an ≤ 12
    case pos =>
      have q1' : (an : Int) ≤ 12 := by omega
      go_enter Tryz.func127, Tryz.ntmps127
      go_wp2
      go_region_held3 (fun w2 => w2.cell? ⟨b, o, none⟩ = some (.int .i64 11) ∧ w2.cell? ⟨b, o + 6, none⟩ = some (.slice aa an ac)) (first | go_keep) (fail)
      go_wp2_with (first
        | (go_at_call 161; (rw [← hW]; clear hW; refine (KS.out W HW.out).mono ?_; rintro e w1 ⟨rfl, hb1⟩; have HB1 := hid hb1; clear hb1))
        | (go_at_call 168; (have hno := HB1; refine (KA.out w1 HB1.out).mono ?_; rintro e w2 ⟨rfl, m, rfl⟩; have HB2 := hid (fin.out w1 m (TR.out HW.out HB1.out))))
        | (go_at_call 168; (rw [← hW]; clear hW; refine (KA.out W (Below.refl _ _)).mono ?_; rintro e w2 ⟨rfl, m, rfl⟩; have HB2 := hid (fin.out W m HW.out))))
      go_ret
      refine ⟨?_, ?_⟩
      · rw [HR.out]; exact ret_bool (by simp [q1])
      · first | exact HB2.out | exact TR.out HW.out HB1.out | (rw [← hW]; exact HW.out)
    case neg =>
      have q1' : ¬ (an : Int) ≤ 12 := by omega
      go_enter Tryz.func127, Tryz.ntmps127
      go_wp2
      go_region_held3 (fun w2 => w2.cell? ⟨b, o, none⟩ = some (.int .i64 11) ∧ w2.cell? ⟨b, o + 6, none⟩ = some (.slice aa an ac)) (first | go_keep) (fail)
      go_wp2_with (first
        | (go_at_call 161; (rw [← hW]; clear hW; refine (KS.out W HW.out).mono ?_; rintro e w1 ⟨rfl, hb1⟩; have HB1 := hid hb1; clear hb1))
        | (go_at_call 168; (have hno := HB1; refine (KA.out w1 HB1.out).mono ?_; rintro e w2 ⟨rfl, m, rfl⟩; have HB2 := hid (fin.out w1 m (TR.out HW.out HB1.out))))
        | (go_at_call 168; (rw [← hW]; clear hW; refine (KA.out W (Below.refl _ _)).mono ?_; rintro e w2 ⟨rfl, m, rfl⟩; have HB2 := hid (fin.out W m HW.out))))
      go_ret
      refine ⟨?_, ?_⟩
      · rw [HR.out]; exact ret_bool (by simp [q1])
      · first | exact HB2.out | exact TR.out HW.out HB1.out | (rw [← hW]; exact HW.out)

set_option maxRecDepth 100000 in
set_option maxHeartbeats 4000000 in
theorem isRightE_12 (w : World) (h : EH) (d : EHr w h) (hm : MX w) (hk : h.kind = 12) : Calls Tryz.prog 127 #[.pointer (some ⟨h.b, h.o, none⟩)] w fun e w' => e = .returned (.bool (rightE h)) ∧ Below w.heap.size w w' := by
  have TR : Hid (∀ {Z x y : World}, Below Z.heap.size Z x → Below x.heap.size x y → Below Z.heap.size Z y) := hid (fun h1 h2 => h1.trans (h2.mono h1.size))
  have ha : (h.an : Int) ≤ 1000000 := by have := d.ab; omega
  have hnn : (h.nn : Int) ≤ 1000000 := by have := d.nb; omega
  have htx : (h.text.size : Int) ≤ 9223372036854775807 := by have := d.t; omega
  have cell : ∀ {p : Addr} {v : Value} (o : Obj), w.cell? p = some v → (w.alloc o).cell? p = some v := fun o hc => (((Below.refl w.heap.size w).alloc (Nat.le_refl _) o).cell (World.block_lt_of_cell? w _ hc)).trans hc
  have c0 := d.c0
  have c6 := d.c6
  have C0 := fun o => cell o d.c0
  have C1 := fun o => cell o d.c1
  have C2 := fun o => cell o d.c2
  have C3 := fun o => cell o d.c3
  have C4 := fun o => cell o d.c4
  have C5 := fun o => cell o d.c5
  have C6 := fun o => cell o d.c6
  obtain ⟨W, hW⟩ : ∃ W, W = ((w.alloc (.cells #[.int .i64 12, .int .i64 0, .int .i64 0, .string ⟨#[]⟩, .string h.name, .slice none 0 0, .slice h.aa h.an h.ac, .int .i64 0] 45)).drew : World) := ⟨_, rfl⟩
  have hb : W.heap[w.heap.size]? = some (.cells (meantE h).cs 45 (0, 0)) := by
    rw [hW]
    refine (heap_alloc_new w _).trans ?_
    simp [meantE, EH.cs, emp, hk]
  have hbw : Below w.heap.size w W := by rw [hW]; exact ((Below.refl _ w).alloc (Nat.le_refl _) _).drew
  have KA : Hid (∀ w1 : World, Below W.heap.size W w1 → Calls Tryz.prog 168 #[.pointer (some ⟨h.b, h.o, none⟩), .pointer (some ⟨w.heap.size, 0, none⟩)] w1 fun e w' => e = .returned (.bool (alikeE h (meantE h))) ∧ ∃ m, w' = w1.drewN m) := hid (fun w1 hb1 => by
    have dd := d.below (Nat.le_refl _) (hbw.trans (hb1.mono hbw.size))
    exact alikeE_any w1 h { meantE h with b := w.heap.size, o := 0 } dd (boxE dd ((hb1.block _ (Array.getElem?_eq_some_iff.1 hb).1).trans hb) (by simp [meantE, hk]) (by simp [meantE, hk]) (by simp [meantE, hk]) (by simp [meantE, hk]) rfl))
  have HW := hid hbw
  have KS : Hid (∀ w1 : World, Below w.heap.size w w1 → Calls Tryz.prog 161 #[.string h.name] w1 fun e w' => e = .returned (.bool (smallB h.name)) ∧ Below w1.heap.size w1 w') := hid (fun w1 hb1 => isSmall_any h.name d.n w1 (hm.below hm.lt hb1))
  have KG : Hid (∀ w1 : World, Below w.heap.size w w1 → Calls Tryz.prog 158 #[.string h.name] w1 fun e w' => e = .returned (.bool (greatB h.name)) ∧ Below w1.heap.size w1 w') := hid (fun w1 hb1 => isGreat_any h.name d.n w1 (hm.below hm.lt hb1))
  have KF : Hid (∀ w1 : World, Below w.heap.size w w1 → Calls Tryz.prog 167 #[.slice h.na h.nn h.nc] w1 fun e w' => e = .returned (.bool (fieldsB h.names)) ∧ Below w1.heap.size w1 w') := hid (fun w1 hb1 => areFields_any w1 h.na h.nn h.nc h.names d.nl d.nb (d.nr.below (Nat.le_refl _) hb1) d.ns (hm.below hm.lt hb1))
  have CN : Hid (∀ w1 : World, Below w.heap.size w w1 → w1.cell? ⟨h.b, h.o + 5, none⟩ = some (.slice h.na h.nn h.nc)) := hid (fun w1 hb1 => belowCell d.c5 (Nat.le_refl _) hb1)
  have HR : Hid (rightE h = ((smallB h.name && decide (h.an = 1)) && alikeE h (meantE h))) := hid (by unfold rightE okE; simp [hk])
  have fin : Hid (∀ (w1 : World) (m : Nat), Below w.heap.size w w1 → Below w.heap.size w (w1.drewN m)) := hid (fun w1 m hb => bel_drewN hb m)
  generalize alikeE h (meantE h) = al at *
  generalize rightE h = res at *
  generalize smallB h.name = sm at *
  generalize greatB h.name = gr at *
  generalize fieldsB h.names = fi at *
  clear d hm hb hbw cell
  obtain ⟨b, o, kind, op, int, text, name, na, nn, nc, aa, an, ac, pos, names⟩ := h
  simp only at c0 c6 C0 C1 C2 C3 C4 C5 C6 hW KA KS KG KF CN HR hk ha hnn htx ⊢
  subst hk
  cases sm
  case false =>
    go_enter Tryz.func127, Tryz.ntmps127
    go_wp2
    go_region_held3 (fun w2 => w2.cell? ⟨b, o, none⟩ = some (.int .i64 12) ∧ w2.cell? ⟨b, o + 6, none⟩ = some (.slice aa an ac)) (first | go_keep) (fail)
    go_wp2_with (first
      | (go_at_call 161; (rw [← hW]; clear hW; refine (KS.out W HW.out).mono ?_; rintro e w1 ⟨rfl, hb1⟩; have HB1 := hid hb1; clear hb1))
      | (go_at_call 168; (have hno := HB1; refine (KA.out w1 HB1.out).mono ?_; rintro e w2 ⟨rfl, m, rfl⟩; have HB2 := hid (fin.out w1 m (TR.out HW.out HB1.out))))
      | (go_at_call 168; (rw [← hW]; clear hW; refine (KA.out W (Below.refl _ _)).mono ?_; rintro e w2 ⟨rfl, m, rfl⟩; have HB2 := hid (fin.out W m HW.out))))
    go_ret
    refine ⟨?_, ?_⟩
    · rw [HR.out]; exact ret_bool (by simp)
    · first | exact HB2.out | exact TR.out HW.out HB1.out | (rw [← hW]; exact HW.out)
  case true =>
    by_cases q1 : an = 1
    case pos =>
      subst q1
      go_enter Tryz.func127, Tryz.ntmps127
      go_wp2
      go_region_held3 (fun w2 => w2.cell? ⟨b, o, none⟩ = some (.int .i64 12) ∧ w2.cell? ⟨b, o + 6, none⟩ = some (.slice aa 1 ac)) (first | go_keep) (fail)
      go_wp2_with (first
        | (go_at_call 161; (rw [← hW]; clear hW; refine (KS.out W HW.out).mono ?_; rintro e w1 ⟨rfl, hb1⟩; have HB1 := hid hb1; clear hb1))
        | (go_at_call 168; (have hno := HB1; refine (KA.out w1 HB1.out).mono ?_; rintro e w2 ⟨rfl, m, rfl⟩; have HB2 := hid (fin.out w1 m (TR.out HW.out HB1.out))))
        | (go_at_call 168; (rw [← hW]; clear hW; refine (KA.out W (Below.refl _ _)).mono ?_; rintro e w2 ⟨rfl, m, rfl⟩; have HB2 := hid (fin.out W m HW.out))))
      go_ret
      refine ⟨?_, ?_⟩
      · rw [HR.out]; exact ret_bool (by simp)
      · first | exact HB2.out | exact TR.out HW.out HB1.out | (rw [← hW]; exact HW.out)
    case neg =>
      have q1' : ¬ (an : Int) = 1 := by omega
      go_enter Tryz.func127, Tryz.ntmps127
      go_wp2
      go_region_held3 (fun w2 => w2.cell? ⟨b, o, none⟩ = some (.int .i64 12) ∧ w2.cell? ⟨b, o + 6, none⟩ = some (.slice aa an ac)) (first | go_keep) (fail)
      go_wp2_with (first
        | (go_at_call 161; (rw [← hW]; clear hW; refine (KS.out W HW.out).mono ?_; rintro e w1 ⟨rfl, hb1⟩; have HB1 := hid hb1; clear hb1))
        | (go_at_call 168; (have hno := HB1; refine (KA.out w1 HB1.out).mono ?_; rintro e w2 ⟨rfl, m, rfl⟩; have HB2 := hid (fin.out w1 m (TR.out HW.out HB1.out))))
        | (go_at_call 168; (rw [← hW]; clear hW; refine (KA.out W (Below.refl _ _)).mono ?_; rintro e w2 ⟨rfl, m, rfl⟩; have HB2 := hid (fin.out W m HW.out))))
      go_ret
      refine ⟨?_, ?_⟩
      · rw [HR.out]; exact ret_bool (by simp [q1])
      · first | exact HB2.out | exact TR.out HW.out HB1.out | (rw [← hW]; exact HW.out)
end Go.Proofs.YtcnohgifihbkdaaGreatDoor.Lx

namespace Go.Proofs.YtcnohgifihbkdaaGreatDoor.Lx
open Go.RowKit Go.Deep
set_option linter.unusedVariables false
set_option linter.unusedSimpArgs false


set_option maxRecDepth 100000 in
set_option maxHeartbeats 4000000 in
theorem isRightE_8 (w : World) (h : EH) (d : EHr w h) (hm : MX w) (hk : h.kind = 8) : Calls Tryz.prog 127 #[.pointer (some ⟨h.b, h.o, none⟩)] w fun e w' => e = .returned (.bool (rightE h)) ∧ Below w.heap.size w w' := by
  have TR : Hid (∀ {Z x y : World}, Below Z.heap.size Z x → Below x.heap.size x y → Below Z.heap.size Z y) := hid (fun h1 h2 => h1.trans (h2.mono h1.size))
  have ha : (h.an : Int) ≤ 1000000 := by have := d.ab; omega
  have hnn : (h.nn : Int) ≤ 1000000 := by have := d.nb; omega
  have htx : (h.text.size : Int) ≤ 9223372036854775807 := by have := d.t; omega
  have cell : ∀ {p : Addr} {v : Value} (o : Obj), w.cell? p = some v → (w.alloc o).cell? p = some v := fun o hc => (((Below.refl w.heap.size w).alloc (Nat.le_refl _) o).cell (World.block_lt_of_cell? w _ hc)).trans hc
  have c0 := d.c0
  have c6 := d.c6
  have C0 := fun o => cell o d.c0
  have C1 := fun o => cell o d.c1
  have C2 := fun o => cell o d.c2
  have C3 := fun o => cell o d.c3
  have C4 := fun o => cell o d.c4
  have C5 := fun o => cell o d.c5
  have C6 := fun o => cell o d.c6
  obtain ⟨W, hW⟩ : ∃ W, W = ((w.alloc (.cells #[.int .i64 8, .int .i64 0, .int .i64 0, .string ⟨#[]⟩, .string h.name, .slice h.na h.nn h.nc, .slice h.aa h.an h.ac, .int .i64 0] 45)).drew.drew : World) := ⟨_, rfl⟩
  have hb : W.heap[w.heap.size]? = some (.cells (meantE h).cs 45 (0, 0)) := by
    rw [hW]
    refine (heap_alloc_new w _).trans ?_
    simp [meantE, EH.cs, emp, hk]
  have hbw : Below w.heap.size w W := by rw [hW]; exact ((Below.refl _ w).alloc (Nat.le_refl _) _).drew.drew
  have KA : Hid (∀ w1 : World, Below W.heap.size W w1 → Calls Tryz.prog 168 #[.pointer (some ⟨h.b, h.o, none⟩), .pointer (some ⟨w.heap.size, 0, none⟩)] w1 fun e w' => e = .returned (.bool (alikeE h (meantE h))) ∧ ∃ m, w' = w1.drewN m) := hid (fun w1 hb1 => by
    have dd := d.below (Nat.le_refl _) (hbw.trans (hb1.mono hbw.size))
    exact alikeE_any w1 h { meantE h with b := w.heap.size, o := 0 } dd (boxE dd ((hb1.block _ (Array.getElem?_eq_some_iff.1 hb).1).trans hb) (by simp [meantE, hk]) (by simp [meantE, hk]) (by simp [meantE, hk]) (by simp [meantE, hk]) rfl))
  have HW := hid hbw
  have KS : Hid (∀ w1 : World, Below w.heap.size w w1 → Calls Tryz.prog 161 #[.string h.name] w1 fun e w' => e = .returned (.bool (smallB h.name)) ∧ Below w1.heap.size w1 w') := hid (fun w1 hb1 => isSmall_any h.name d.n w1 (hm.below hm.lt hb1))
  have KG : Hid (∀ w1 : World, Below w.heap.size w w1 → Calls Tryz.prog 158 #[.string h.name] w1 fun e w' => e = .returned (.bool (greatB h.name)) ∧ Below w1.heap.size w1 w') := hid (fun w1 hb1 => isGreat_any h.name d.n w1 (hm.below hm.lt hb1))
  have KF : Hid (∀ w1 : World, Below w.heap.size w w1 → Calls Tryz.prog 167 #[.slice h.na h.nn h.nc] w1 fun e w' => e = .returned (.bool (fieldsB h.names)) ∧ Below w1.heap.size w1 w') := hid (fun w1 hb1 => areFields_any w1 h.na h.nn h.nc h.names d.nl d.nb (d.nr.below (Nat.le_refl _) hb1) d.ns (hm.below hm.lt hb1))
  have CN : Hid (∀ w1 : World, Below w.heap.size w w1 → w1.cell? ⟨h.b, h.o + 5, none⟩ = some (.slice h.na h.nn h.nc)) := hid (fun w1 hb1 => belowCell d.c5 (Nat.le_refl _) hb1)
  have HR : Hid (rightE h = ((greatB h.name && fieldsB h.names && decide (h.an = h.nn)) && alikeE h (meantE h))) := hid (by unfold rightE okE; simp [hk])
  have fin : Hid (∀ (w1 : World) (m : Nat), Below w.heap.size w w1 → Below w.heap.size w (w1.drewN m)) := hid (fun w1 m hb => bel_drewN hb m)
  generalize alikeE h (meantE h) = al at *
  generalize rightE h = res at *
  generalize smallB h.name = sm at *
  generalize greatB h.name = gr at *
  generalize fieldsB h.names = fi at *
  clear d hm hb hbw cell
  obtain ⟨b, o, kind, op, int, text, name, na, nn, nc, aa, an, ac, pos, names⟩ := h
  simp only at c0 c6 C0 C1 C2 C3 C4 C5 C6 hW KA KS KG KF CN HR hk ha hnn htx ⊢
  subst hk
  cases gr
  case false =>
    go_enter Tryz.func127, Tryz.ntmps127
    go_wp2
    go_region_held3 (fun w2 => w2.cell? ⟨b, o, none⟩ = some (.int .i64 8) ∧ w2.cell? ⟨b, o + 6, none⟩ = some (.slice aa an ac)) (first | go_keep) (fail)
    go_wp2
    go_region_held3 (fun w2 => w2.cell? ⟨b, o + 4, none⟩ = some (.string name) ∧ w2.cell? ⟨b, o + 5, none⟩ = some (.slice na nn nc)) (first | go_keep) (fail)
    go_wp2_with (first
      | (go_at_call 158; (rw [← hW]; clear hW; refine (KG.out W HW.out).mono ?_; rintro e w1 ⟨rfl, hb1⟩; have HB1 := hid hb1; have n1 := CN.out w1 (TR.out HW.out hb1); clear hb1))
      | (go_at_call 167; (refine (KF.out w1 (TR.out HW.out HB1.out)).mono ?_; rintro e w2 ⟨rfl, hb2⟩; have HB2 := hid (TR.out HB1.out hb2); have n2 := CN.out w2 (TR.out HW.out (TR.out HB1.out hb2)); clear hb2 n1))
      | (go_at_call 168; (refine (KA.out w2 HB2.out).mono ?_; rintro e w3 ⟨rfl, m, rfl⟩; have HB3 := hid (fin.out w2 m (TR.out HW.out HB2.out)))))
    go_ret
    refine ⟨?_, ?_⟩
    · rw [HR.out]; exact ret_bool (by simp)
    · first | exact HB3.out | exact TR.out HW.out HB2.out | exact TR.out HW.out HB1.out
  case true =>
    cases fi
    case false =>
      go_enter Tryz.func127, Tryz.ntmps127
      go_wp2
      go_region_held3 (fun w2 => w2.cell? ⟨b, o, none⟩ = some (.int .i64 8) ∧ w2.cell? ⟨b, o + 6, none⟩ = some (.slice aa an ac)) (first | go_keep) (fail)
      go_wp2
      go_region_held3 (fun w2 => w2.cell? ⟨b, o + 4, none⟩ = some (.string name) ∧ w2.cell? ⟨b, o + 5, none⟩ = some (.slice na nn nc)) (first | go_keep) (fail)
      go_wp2_with (first
        | (go_at_call 158; (rw [← hW]; clear hW; refine (KG.out W HW.out).mono ?_; rintro e w1 ⟨rfl, hb1⟩; have HB1 := hid hb1; have n1 := CN.out w1 (TR.out HW.out hb1); clear hb1))
        | (go_at_call 167; (refine (KF.out w1 (TR.out HW.out HB1.out)).mono ?_; rintro e w2 ⟨rfl, hb2⟩; have HB2 := hid (TR.out HB1.out hb2); have n2 := CN.out w2 (TR.out HW.out (TR.out HB1.out hb2)); clear hb2 n1))
        | (go_at_call 168; (refine (KA.out w2 HB2.out).mono ?_; rintro e w3 ⟨rfl, m, rfl⟩; have HB3 := hid (fin.out w2 m (TR.out HW.out HB2.out)))))
      go_ret
      refine ⟨?_, ?_⟩
      · rw [HR.out]; exact ret_bool (by simp)
      · first | exact HB3.out | exact TR.out HW.out HB2.out | exact TR.out HW.out HB1.out
    case true =>
      by_cases q1 : an = nn
      case pos =>
        subst q1
        go_enter Tryz.func127, Tryz.ntmps127
        go_wp2
        go_region_held3 (fun w2 => w2.cell? ⟨b, o, none⟩ = some (.int .i64 8) ∧ w2.cell? ⟨b, o + 6, none⟩ = some (.slice aa an ac)) (first | go_keep) (fail)
        go_wp2
        go_region_held3 (fun w2 => w2.cell? ⟨b, o + 4, none⟩ = some (.string name) ∧ w2.cell? ⟨b, o + 5, none⟩ = some (.slice na an nc)) (first | go_keep) (fail)
        go_wp2_with (first
          | (go_at_call 158; (rw [← hW]; clear hW; refine (KG.out W HW.out).mono ?_; rintro e w1 ⟨rfl, hb1⟩; have HB1 := hid hb1; have n1 := CN.out w1 (TR.out HW.out hb1); clear hb1))
          | (go_at_call 167; (refine (KF.out w1 (TR.out HW.out HB1.out)).mono ?_; rintro e w2 ⟨rfl, hb2⟩; have HB2 := hid (TR.out HB1.out hb2); have n2 := CN.out w2 (TR.out HW.out (TR.out HB1.out hb2)); clear hb2 n1))
          | (go_at_call 168; (refine (KA.out w2 HB2.out).mono ?_; rintro e w3 ⟨rfl, m, rfl⟩; have HB3 := hid (fin.out w2 m (TR.out HW.out HB2.out)))))
        go_ret
        refine ⟨?_, ?_⟩
        · rw [HR.out]; exact ret_bool (by simp)
        · first | exact HB3.out | exact TR.out HW.out HB2.out | exact TR.out HW.out HB1.out
      case neg =>
        have q1' : ¬ (an : Int) = (nn : Int) := by omega
        go_enter Tryz.func127, Tryz.ntmps127
        go_wp2
        go_region_held3 (fun w2 => w2.cell? ⟨b, o, none⟩ = some (.int .i64 8) ∧ w2.cell? ⟨b, o + 6, none⟩ = some (.slice aa an ac)) (first | go_keep) (fail)
        go_wp2
        go_region_held3 (fun w2 => w2.cell? ⟨b, o + 4, none⟩ = some (.string name) ∧ w2.cell? ⟨b, o + 5, none⟩ = some (.slice na nn nc)) (first | go_keep) (fail)
        go_wp2_with (first
          | (go_at_call 158; (rw [← hW]; clear hW; refine (KG.out W HW.out).mono ?_; rintro e w1 ⟨rfl, hb1⟩; have HB1 := hid hb1; have n1 := CN.out w1 (TR.out HW.out hb1); clear hb1))
          | (go_at_call 167; (refine (KF.out w1 (TR.out HW.out HB1.out)).mono ?_; rintro e w2 ⟨rfl, hb2⟩; have HB2 := hid (TR.out HB1.out hb2); have n2 := CN.out w2 (TR.out HW.out (TR.out HB1.out hb2)); clear hb2 n1))
          | (go_at_call 168; (refine (KA.out w2 HB2.out).mono ?_; rintro e w3 ⟨rfl, m, rfl⟩; have HB3 := hid (fin.out w2 m (TR.out HW.out HB2.out)))))
        go_ret
        refine ⟨?_, ?_⟩
        · rw [HR.out]; exact ret_bool (by simp [q1])
        · first | exact HB3.out | exact TR.out HW.out HB2.out | exact TR.out HW.out HB1.out

set_option maxRecDepth 100000 in
set_option maxHeartbeats 4000000 in
theorem isRightE_0 (w : World) (h : EH) (d : EHr w h) (hm : MX w) (hk : ¬ h.kind = 1 ∧ ¬ h.kind = 2 ∧ ¬ h.kind = 3 ∧ ¬ h.kind = 4 ∧ ¬ h.kind = 5 ∧ ¬ h.kind = 6 ∧ ¬ h.kind = 7 ∧ ¬ h.kind = 8 ∧ ¬ h.kind = 9 ∧ ¬ h.kind = 10 ∧ ¬ h.kind = 11 ∧ ¬ h.kind = 12) : Calls Tryz.prog 127 #[.pointer (some ⟨h.b, h.o, none⟩)] w fun e w' => e = .returned (.bool (rightE h)) ∧ Below w.heap.size w w' := by
  have TR : Hid (∀ {Z x y : World}, Below Z.heap.size Z x → Below x.heap.size x y → Below Z.heap.size Z y) := hid (fun h1 h2 => h1.trans (h2.mono h1.size))
  have ha : (h.an : Int) ≤ 1000000 := by have := d.ab; omega
  have hnn : (h.nn : Int) ≤ 1000000 := by have := d.nb; omega
  have htx : (h.text.size : Int) ≤ 9223372036854775807 := by have := d.t; omega
  have cell : ∀ {p : Addr} {v : Value} (o : Obj), w.cell? p = some v → (w.alloc o).cell? p = some v := fun o hc => (((Below.refl w.heap.size w).alloc (Nat.le_refl _) o).cell (World.block_lt_of_cell? w _ hc)).trans hc
  have c0 := d.c0
  have c6 := d.c6
  have C0 := fun o => cell o d.c0
  have C1 := fun o => cell o d.c1
  have C2 := fun o => cell o d.c2
  have C3 := fun o => cell o d.c3
  have C4 := fun o => cell o d.c4
  have C5 := fun o => cell o d.c5
  have C6 := fun o => cell o d.c6
  obtain ⟨W, hW⟩ : ∃ W, W = ((w.alloc (.cells #[.int .i64 h.kind, .int .i64 0, .int .i64 0, .string ⟨#[]⟩, .string ⟨#[]⟩, .slice none 0 0, .slice h.aa h.an h.ac, .int .i64 0] 45)).drew : World) := ⟨_, rfl⟩
  have hb : W.heap[w.heap.size]? = some (.cells (meantE h).cs 45 (0, 0)) := by
    rw [hW]
    refine (heap_alloc_new w _).trans ?_
    simp [meantE, EH.cs, emp, hk]
  have hbw : Below w.heap.size w W := by rw [hW]; exact ((Below.refl _ w).alloc (Nat.le_refl _) _).drew
  have KA : Hid (∀ w1 : World, Below W.heap.size W w1 → Calls Tryz.prog 168 #[.pointer (some ⟨h.b, h.o, none⟩), .pointer (some ⟨w.heap.size, 0, none⟩)] w1 fun e w' => e = .returned (.bool (alikeE h (meantE h))) ∧ ∃ m, w' = w1.drewN m) := hid (fun w1 hb1 => by
    have dd := d.below (Nat.le_refl _) (hbw.trans (hb1.mono hbw.size))
    exact alikeE_any w1 h { meantE h with b := w.heap.size, o := 0 } dd (boxE dd ((hb1.block _ (Array.getElem?_eq_some_iff.1 hb).1).trans hb) (by simp [meantE, hk]) (by simp [meantE, hk]) (by simp [meantE, hk]) (by simp [meantE, hk]) rfl))
  have HW := hid hbw
  have KS : Hid (∀ w1 : World, Below w.heap.size w w1 → Calls Tryz.prog 161 #[.string h.name] w1 fun e w' => e = .returned (.bool (smallB h.name)) ∧ Below w1.heap.size w1 w') := hid (fun w1 hb1 => isSmall_any h.name d.n w1 (hm.below hm.lt hb1))
  have KG : Hid (∀ w1 : World, Below w.heap.size w w1 → Calls Tryz.prog 158 #[.string h.name] w1 fun e w' => e = .returned (.bool (greatB h.name)) ∧ Below w1.heap.size w1 w') := hid (fun w1 hb1 => isGreat_any h.name d.n w1 (hm.below hm.lt hb1))
  have KF : Hid (∀ w1 : World, Below w.heap.size w w1 → Calls Tryz.prog 167 #[.slice h.na h.nn h.nc] w1 fun e w' => e = .returned (.bool (fieldsB h.names)) ∧ Below w1.heap.size w1 w') := hid (fun w1 hb1 => areFields_any w1 h.na h.nn h.nc h.names d.nl d.nb (d.nr.below (Nat.le_refl _) hb1) d.ns (hm.below hm.lt hb1))
  have CN : Hid (∀ w1 : World, Below w.heap.size w w1 → w1.cell? ⟨h.b, h.o + 5, none⟩ = some (.slice h.na h.nn h.nc)) := hid (fun w1 hb1 => belowCell d.c5 (Nat.le_refl _) hb1)
  have HR : Hid (rightE h = (false && alikeE h (meantE h))) := hid (by unfold rightE okE; simp [hk])
  have fin : Hid (∀ (w1 : World) (m : Nat), Below w.heap.size w w1 → Below w.heap.size w (w1.drewN m)) := hid (fun w1 m hb => bel_drewN hb m)
  generalize alikeE h (meantE h) = al at *
  generalize rightE h = res at *
  generalize smallB h.name = sm at *
  generalize greatB h.name = gr at *
  generalize fieldsB h.names = fi at *
  clear d hm hb hbw cell
  obtain ⟨b, o, kind, op, int, text, name, na, nn, nc, aa, an, ac, pos, names⟩ := h
  simp only at c0 c6 C0 C1 C2 C3 C4 C5 C6 hW KA KS KG KF CN HR hk ha hnn htx ⊢
  obtain ⟨k1, k2, k3, k4, k5, k6, k7, k8, k9, k10, k11, k12⟩ := hk
  have j1 : (kind == 1) = false := by simpa using k1
  have j2 : (kind == 2) = false := by simpa using k2
  have j3 : (kind == 3) = false := by simpa using k3
  have j4 : (kind == 4) = false := by simpa using k4
  have j5 : (kind == 5) = false := by simpa using k5
  have j6 : (kind == 6) = false := by simpa using k6
  have j7 : (kind == 7) = false := by simpa using k7
  have j8 : (kind == 8) = false := by simpa using k8
  have j9 : (kind == 9) = false := by simpa using k9
  have j10 : (kind == 10) = false := by simpa using k10
  have j11 : (kind == 11) = false := by simpa using k11
  have j12 : (kind == 12) = false := by simpa using k12
  go_enter Tryz.func127, Tryz.ntmps127
  go_wp2
  go_region_held3 (fun w2 => w2.cell? ⟨b, o, none⟩ = some (.int .i64 kind) ∧ w2.cell? ⟨b, o + 6, none⟩ = some (.slice aa an ac)) (first | go_keep) (fail)
  go_wp2_with (go_at_call 168; (rw [← hW]; clear hW; refine (KA.out W (Below.refl _ _)).mono ?_; rintro e w2 ⟨rfl, m, rfl⟩; have HB2 := hid (fin.out W m HW.out)))
  go_ret
  refine ⟨?_, ?_⟩
  · rw [HR.out]; exact ret_bool (by simp)
  · first | exact HB2.out | exact TR.out HW.out HB1.out | (rw [← hW]; exact HW.out)
end Go.Proofs.YtcnohgifihbkdaaGreatDoor.Lx

namespace Go.Proofs.YtcnohgifihbkdaaGreatDoor.Lx
open Go.RowKit Go.Deep
set_option linter.unusedVariables false
set_option linter.unusedSimpArgs false


theorem isRightE_any (w : World) (h : EH) (d : EHr w h) (hm : MX w) : Calls Tryz.prog 127 #[.pointer (some ⟨h.b, h.o, none⟩)] w fun e w' => e = .returned (.bool (rightE h)) ∧ Below w.heap.size w w' := by
  by_cases k1 : h.kind = 1
  · exact isRightE_1 w h d hm k1
  by_cases k2 : h.kind = 2
  · exact isRightE_2 w h d hm k2
  by_cases k3 : h.kind = 3
  · exact isRightE_3 w h d hm k3
  by_cases k4 : h.kind = 4
  · exact isRightE_4 w h d hm k4
  by_cases k5 : h.kind = 5
  · exact isRightE_5 w h d hm k5
  by_cases k6 : h.kind = 6
  · exact isRightE_6 w h d hm k6
  by_cases k7 : h.kind = 7
  · exact isRightE_7 w h d hm k7
  by_cases k8 : h.kind = 8
  · exact isRightE_8 w h d hm k8
  by_cases k9 : h.kind = 9
  · exact isRightE_9 w h d hm k9
  by_cases k10 : h.kind = 10
  · exact isRightE_10 w h d hm k10
  by_cases k11 : h.kind = 11
  · exact isRightE_11 w h d hm k11
  by_cases k12 : h.kind = 12
  · exact isRightE_12 w h d hm k12
  exact isRightE_0 w h d hm ⟨k1, k2, k3, k4, k5, k6, k7, k8, k9, k10, k11, k12⟩
end Go.Proofs.YtcnohgifihbkdaaGreatDoor.Lx

namespace Go.Proofs.YtcnohgifihbkdaaGreatDoor.Lx
open Go.RowKit Go.Deep
set_option linter.unusedVariables false
set_option linter.unusedSimpArgs false

def alikeS (a b : SH) : Bool := decide (a.kind = b.kind) && decide (a.name = b.name) && decide (a.label = b.label) && decide (a.var = b.var) && decide (a.an = b.an) && decide (a.bn = b.bn) && decide (a.en = b.en)
end Go.Proofs.YtcnohgifihbkdaaGreatDoor.Lx

namespace Go.Proofs.YtcnohgifihbkdaaGreatDoor.Lx
open Go.RowKit Go.Deep
set_option linter.unusedVariables false
set_option linter.unusedSimpArgs false

def SH.cs (m : SH) : Array Value := #[.int .i64 m.kind, .string m.name, .string m.label, .string m.var, .slice m.aa m.an m.ac, .slice m.ba m.bn m.bc, .slice m.ea m.en m.ec, .int .i64 m.pos]
/- What s's kind has a meaning for. -/
def meantS (h : SH) : SH := { h with name := if h.kind = 1 ∨ h.kind = 2 ∨ h.kind = 3 ∨ h.kind = 4 ∨ h.kind = 7 ∨ h.kind = 8 ∨ h.kind = 9 ∨ h.kind = 12 then h.name else emp, label := if h.kind = 6 ∨ h.kind = 7 then h.label else emp, var := if h.kind = 7 then h.var else emp, ba := if h.kind = 5 ∨ h.kind = 6 ∨ h.kind = 7 then h.ba else none, bn := if h.kind = 5 ∨ h.kind = 6 ∨ h.kind = 7 then h.bn else 0, bc := if h.kind = 5 ∨ h.kind = 6 ∨ h.kind = 7 then h.bc else 0, ea := if h.kind = 5 then h.ea else none, en := if h.kind = 5 then h.en else 0, ec := if h.kind = 5 then h.ec else 0, pos := 0 }
def okS (h : SH) : Bool :=
  if h.kind = 1 ∨ h.kind = 2 ∨ h.kind = 4 then smallB h.name && decide (h.an = 1) else
  if h.kind = 3 then smallB h.name && decide (h.an = 2) else
  if h.kind = 5 then decide (h.an = 1) else
  if h.kind = 6 then labB h.label && decide (h.an = 1) else
  if h.kind = 7 then labB h.label && smallB h.var && smallB h.name && decide (h.an = 0) else
  if h.kind = 8 ∨ h.kind = 9 then labB h.name && decide (h.an = 0) else
  if h.kind = 10 then decide (h.an ≤ 1) else
  if h.kind = 11 ∨ h.kind = 13 then decide (h.an = 1) else
  if h.kind = 12 then smallB h.name && decide (1 ≤ h.an) && decide (h.an ≤ 13) else false
def rightS (h : SH) : Bool := okS h && alikeS h (meantS h)
end Go.Proofs.YtcnohgifihbkdaaGreatDoor.Lx

namespace Go.Proofs.YtcnohgifihbkdaaGreatDoor.Lx
open Go.RowKit Go.Deep
set_option linter.unusedVariables false
set_option linter.unusedSimpArgs false

def alikeD (a b : DH) : Bool := decide (a.name = b.name) && decide (a.params = b.params) && decide (a.key = b.key) && decide (a.value = b.value) && decide (a.result = b.result) && decide (a.bn = b.bn)
end Go.Proofs.YtcnohgifihbkdaaGreatDoor.Lx

namespace Go.Proofs.YtcnohgifihbkdaaGreatDoor.Lx
open Go.RowKit Go.Deep
set_option linter.unusedVariables false
set_option linter.unusedSimpArgs false

def DH.cs (m : DH) : Array Value := #[.string m.name, .slice m.pa m.pn m.pc, .string m.key, .string m.value, .string m.result, .slice m.ba m.bn m.bc, .int .i64 m.pos]
/- What the sort has a meaning for. -/
def meantD (h : DH) : DH := { h with pa := if h.sort = wMap then none else h.pa, pn := if h.sort = wMap then 0 else h.pn, pc := if h.sort = wMap then 0 else h.pc, params := if h.sort = wMap then [] else h.params, key := if h.sort = wMap then h.key else emp, value := if h.sort = wMap then h.value else emp, result := if h.sort = wFn then h.result else emp, ba := if h.sort = wFn ∨ h.sort = wOn then h.ba else none, bn := if h.sort = wFn ∨ h.sort = wOn then h.bn else 0, bc := if h.sort = wFn ∨ h.sort = wOn then h.bc else 0, pos := 0 }
def okD (h : DH) : Bool :=
  if h.sort = wRec then greatB h.name && decide (1 ≤ h.pn) && paramsB simpB h.params else
  if h.sort = wMap then smallB h.name && keyB h.key && typB h.value else
  if h.sort = wFn then smallB h.name && paramsB typB h.params && (h.result.toList.isEmpty || typB h.result) else
  if h.sort = wOn then smallB h.name && paramsB typB h.params else false
def rightD (h : DH) : Bool := okD h && alikeD h (meantD h)
end Go.Proofs.YtcnohgifihbkdaaGreatDoor.Lx

namespace Go.Proofs.YtcnohgifihbkdaaGreatDoor.Lx
open Go.RowKit Go.Deep
set_option linter.unusedVariables false
set_option linter.unusedSimpArgs false
attribute [local go_sem] as58_58 as105_58 as101_58 as67_58 as58_105 as105_105 as101_105 as67_105 as58_101 as105_101 as101_101 as67_101 as58_67 as105_67 as101_67 as67_67

def rightT (h : TH) : Bool := decide (max (max (max h.rn h.mn) h.fn) h.en ≤ 16)
theorem max2_nat (a b : Nat) (w : World) : (Builtin.max2 (.int .i64 (a : Int)) (.int .i64 (b : Int))).run Tryz.prog w = .ok (.int .i64 ((max a b : Nat) : Int)) w := by
  unfold Builtin.max2
  simp
  split <;> omega
def rightP : Part → Bool
  | .inl (.inl h) => rightT h
  | .inl (.inr h) => rightD h
  | .inr (.inl h) => rightS h
  | .inr (.inr h) => rightE h
end Go.Proofs.YtcnohgifihbkdaaGreatDoor.Lx

namespace Go.Proofs.YtcnohgifihbkdaaGreatDoor.Lx
open Go.RowKit Go.Deep
set_option linter.unusedVariables false
set_option linter.unusedSimpArgs false
attribute [local go_sem] Oper.semAt_some

theorem keep_cells {W W' : World} {row : Option Nat} {B b : Nat} {c : Array Value} {t : TypeId} (hs : W.heap[b]? = some (.cells c t (0, 0))) (hg : W.grownBy W' row) (hr : ∀ r, row = some r → B ≤ r ∧ ∃ o : Obj, W.heap[r]? = some o ∧ o.isCells = false) : W'.heap[b]? = some (.cells c t (0, 0)) := by
  rw [hg.block b (Array.getElem?_eq_some_iff.1 hs).1 (fun e => by
    obtain ⟨_, o, ho, hc⟩ := hr b e.symm
    rw [hs] at ho; cases ho; cases hc)]
  exact hs
theorem keepsFrom_below {B : Nat} {W W' : World} (k : Below W.heap.size W W') : KeepsFrom B W W' := ⟨k.size, fun j o _ hj _ => (k.block j (Array.getElem?_eq_some_iff.1 hj).1).trans hj⟩
theorem set_cells {W : World} {b : Nat} {v0 : Value} {t : TypeId} (h : W.heap[b]? = some (.cells #[v0] t (0, 0))) (v : Value) : (W.setCell ⟨b, 0, none⟩ v).heap[b]? = some (.cells #[v] t (0, 0)) := by
  simp [World.setCell, Array.getElem?_modify, h]
/- Between two rounds: all were right so far. -/
def MI (w : World) (ps : List Part) (pre : List (Fin ps.length)) (W : World) : Prop :=
  W.heap[w.heap.size]? = some (.cells #[.bool false] 4 (0, 0)) ∧ (∀ x ∈ pre, rightP ps[x] = true) ∧ Below w.heap.size w W ∧ w.heap.size + 2 ≤ W.heap.size
theorem MI_own (w : World) (ps : List Part) {B : Nat} (hB : w.heap.size ≤ B) : OwnFrom B (MI w ps) := fun s A A' row hs hg hr =>
  ⟨keep_cells hs.1 hg hr, hs.2.1, ownFrom_below (β := Unit) (Nat.le_refl _) hB () A A' row hs.2.2.1 hg hr, Nat.le_trans hs.2.2.2 hg.size⟩
theorem MI.below {w W W' : World} {ps : List Part} {pre : List (Fin ps.length)} (h : MI w ps pre W) (k : Below W.heap.size W W') : MI w ps pre W' := by
  have hl : ∀ {b : Nat} {o : Obj}, W.heap[b]? = some o → W'.heap[b]? = some o := fun e => (k.block _ (Array.getElem?_eq_some_iff.1 e).1).trans e
  exact ⟨hl h.1, h.2.1, h.2.2.1.trans (k.mono h.2.2.1.size), Nat.le_trans h.2.2.2 k.size⟩
theorem MI.snoc {w W : World} {ps : List Part} {pre : List (Fin ps.length)} {x : Fin ps.length} (h : MI w ps pre W) (hx : rightP ps[x] = true) : MI w ps (pre ++ [x]) W := ⟨h.1, fun y hy => by
  rcases List.mem_append.1 hy with hy | hy
  · exact h.2.1 y hy
  · simp at hy; subst hy; exact hx, h.2.2⟩
def MZ (w : World) (ps : List Part) (c : Code) (pre : List (Fin ps.length)) (W : World) : Prop :=
  c = .ret ∧ ps.all rightP = false ∧ W.heap[w.heap.size]? = some (.cells #[.bool false] 4 (0, 0)) ∧ Below w.heap.size w W
theorem MZ_own (w : World) (ps : List Part) (c : Code) {B : Nat} (hB : w.heap.size ≤ B) : OwnFrom B (MZ w ps c) := fun s A A' row hs hg hr =>
  ⟨hs.1, hs.2.1, keep_cells hs.2.2.1 hg hr, ownFrom_below (β := Unit) (Nat.le_refl _) hB () A A' row hs.2.2.2 hg hr⟩
end Go.Proofs.YtcnohgifihbkdaaGreatDoor.Lx

namespace Go.Proofs.YtcnohgifihbkdaaGreatDoor.Lx
open Go.RowKit Go.Deep
set_option linter.unusedVariables false
set_option linter.unusedSimpArgs false
attribute [local go_sem] Oper.semAt_some

def TH.cs (h : TH) : Array Value := #[.slice h.ra h.rn h.rc, .slice h.ma h.mn h.mc, .slice h.fa h.fn h.fc, .slice h.ea h.en h.ec]
/- A tree that is handed over: its rows, wherever it lies. -/
structure TVs (k : Nat) (w : World) (t : TT k) : Prop where
  rs : DLs k w wRec t.h.ra t.h.rn t.rs
  ms : DLs k w wMap t.h.ma t.h.mn t.ms
  fs : DLs k w wFn t.h.fa t.h.fn t.fs
  es : DLs k w wOn t.h.ea t.h.en t.es
  rb : t.h.rn ≤ 1000000
  mb : t.h.mn ≤ 1000000
  fb : t.h.fn ≤ 1000000
  eb : t.h.en ≤ 1000000
theorem TVs.below {k : Nat} {w w' : World} {t : TT k} {B : Nat} (d : TVs k w t) (hB : w.heap.size ≤ B) (h : Below B w w') : TVs k w' t := ⟨d.rs.below hB h, d.ms.below hB h, d.fs.below hB h, d.es.below hB h, d.rb, d.mb, d.fb, d.eb⟩
def TT.atB {k : Nat} (t : TT k) (M : Nat) : TT k := { t with h := { t.h with b := M, o := 0 } }
theorem TVs.box {k : Nat} {W : World} {t : TT k} {M : Nat} (d : TVs k W t) (hb : W.heap[M]? = some (.cells t.h.cs 25 (0, 0))) : TRds k W (t.atB M) := by
  have c := cellT hb
  exact ⟨⟨c 0, c 1, c 2, c 3, d.rb, d.mb, d.fb, d.eb⟩, d.rs, d.ms, d.fs, d.es⟩
/- The parts, whatever the tree's own place. -/
/- How many statements and expressions. -/
end Go.Proofs.YtcnohgifihbkdaaGreatDoor.Lx

