/- tree.isRightExpr. -/
import Derived.Test.YtdfambocenohgaaGreatDoorJAK
namespace Go.Proofs.YtdfambocenohgaaGreatDoor
open Go.RowKit Go.Deep
set_option linter.unusedVariables false
set_option linter.unusedSimpArgs false


set_option maxRecDepth 100000 in
set_option maxHeartbeats 4000000 in
theorem isRightE_8 (w : World) (h : EH) (d : EHr w h) (hm : MX w) (hk : h.kind = 8) : Calls Tryz.prog 86 #[.pointer (some ⟨h.b, h.o, none⟩)] w fun e w' => e = .returned (.bool (rightE h)) ∧ Below w.heap.size w w' := by
  have TR : Hid (∀ {Z x y : World}, Below Z.heap.size Z x → Below x.heap.size x y → Below Z.heap.size Z y) := hid (fun h1 h2 => h1.trans (h2.mono h1.size))
  have ha : (h.an : Int) ≤ 1000000 := by have := d.ab; omega
  have hnn : (h.nn : Int) ≤ 1000000 := by have := d.nb; omega
  have htx : (h.text.size : Int) ≤ 9223372036854775807 := by have := d.t; omega
  have cell : ∀ {p : Addr} {v : Value} (o : Obj), w.cell? p = some v → (w.alloc o).cell? p = some v := fun o hc => (((Below.refl w.heap.size w).alloc (Nat.le_refl _) o).cell (World.block_lt_of_cell? w _ hc)).trans hc
  have c0 := d.c0
  have c6 := d.c6
  have C0 := fun o => cell o d.c0
  have C1 := fun o => cell o d.c1
  have C2 := fun o => cell o d.c2
  have C3 := fun o => cell o d.c3
  have C4 := fun o => cell o d.c4
  have C5 := fun o => cell o d.c5
  have C6 := fun o => cell o d.c6
  obtain ⟨W, hW⟩ : ∃ W, W = ((w.alloc (.cells #[.int .i64 8, .int .i64 0, .int .i64 0, .string ⟨#[]⟩, .string h.name, .slice h.na h.nn h.nc, .slice h.aa h.an h.ac, .int .i64 0] 28)).drew.drew : World) := ⟨_, rfl⟩
  have hb : W.heap[w.heap.size]? = some (.cells (meantE h).cs 28 (0, 0)) := by
    rw [hW]
    refine (heap_alloc_new w _).trans ?_
    simp [meantE, EH.cs, emp, hk]
  have hbw : Below w.heap.size w W := by rw [hW]; exact ((Below.refl _ w).alloc (Nat.le_refl _) _).drew.drew
  have KA : Hid (∀ w1 : World, Below W.heap.size W w1 → Calls Tryz.prog 76 #[.pointer (some ⟨h.b, h.o, none⟩), .pointer (some ⟨w.heap.size, 0, none⟩)] w1 fun e w' => e = .returned (.bool (alikeE h (meantE h))) ∧ ∃ m, w' = w1.drewN m) := hid (fun w1 hb1 => by
    have dd := d.below (Nat.le_refl _) (hbw.trans (hb1.mono hbw.size))
    exact alikeE_any w1 h { meantE h with b := w.heap.size, o := 0 } dd (boxE dd ((hb1.block _ (Array.getElem?_eq_some_iff.1 hb).1).trans hb) (by simp [meantE, hk]) (by simp [meantE, hk]) (by simp [meantE, hk]) (by simp [meantE, hk]) rfl))
  have HW := hid hbw
  have KS : Hid (∀ w1 : World, Below w.heap.size w w1 → Calls Tryz.prog 114 #[.string h.name] w1 fun e w' => e = .returned (.bool (smallB h.name)) ∧ Below w1.heap.size w1 w') := hid (fun w1 hb1 => isSmall_any h.name d.n w1 (hm.below hm.lt hb1))
  have KG : Hid (∀ w1 : World, Below w.heap.size w w1 → Calls Tryz.prog 111 #[.string h.name] w1 fun e w' => e = .returned (.bool (greatB h.name)) ∧ Below w1.heap.size w1 w') := hid (fun w1 hb1 => isGreat_any h.name d.n w1 (hm.below hm.lt hb1))
  have KF : Hid (∀ w1 : World, Below w.heap.size w w1 → Calls Tryz.prog 118 #[.slice h.na h.nn h.nc] w1 fun e w' => e = .returned (.bool (fieldsB h.names)) ∧ Below w1.heap.size w1 w') := hid (fun w1 hb1 => areFields_any w1 h.na h.nn h.nc h.names d.nl d.nb (d.nr.below (Nat.le_refl _) hb1) d.ns (hm.below hm.lt hb1))
  have CN : Hid (∀ w1 : World, Below w.heap.size w w1 → w1.cell? ⟨h.b, h.o + 5, none⟩ = some (.slice h.na h.nn h.nc)) := hid (fun w1 hb1 => belowCell d.c5 (Nat.le_refl _) hb1)
  have HR : Hid (rightE h = ((greatB h.name && fieldsB h.names && decide (h.an = h.nn)) && alikeE h (meantE h))) := hid (by unfold rightE okE; simp [hk])
  have fin : Hid (∀ (w1 : World) (m : Nat), Below w.heap.size w w1 → Below w.heap.size w (w1.drewN m)) := hid (fun w1 m hb => bel_drewN hb m)
  generalize alikeE h (meantE h) = al at *
  generalize rightE h = res at *
  generalize smallB h.name = sm at *
  generalize greatB h.name = gr at *
  generalize fieldsB h.names = fi at *
  clear d hm hb hbw cell
  obtain ⟨b, o, kind, op, int, text, name, na, nn, nc, aa, an, ac, pos, names⟩ := h
  simp only at c0 c6 C0 C1 C2 C3 C4 C5 C6 hW KA KS KG KF CN HR hk ha hnn htx ⊢
  subst hk
  cases gr
  case false =>
    go_enter Tryz.func86, Tryz.ntmps86
    go_wp2
    go_region_held3 (fun w2 => w2.cell? ⟨b, o, none⟩ = some (.int .i64 8) ∧ w2.cell? ⟨b, o + 6, none⟩ = some (.slice aa an ac)) (first | go_keep) (fail)
    go_wp2
    go_region_held3 (fun w2 => w2.cell? ⟨b, o + 4, none⟩ = some (.string name) ∧ w2.cell? ⟨b, o + 5, none⟩ = some (.slice na nn nc)) (first | go_keep) (fail)
    go_wp2_with (first
      | (go_at_call 111; (rw [← hW]; clear hW; refine (KG.out W HW.out).mono ?_; rintro e w1 ⟨rfl, hb1⟩; have HB1 := hid hb1; have n1 := CN.out w1 (TR.out HW.out hb1); clear hb1))
      | (go_at_call 118; (refine (KF.out w1 (TR.out HW.out HB1.out)).mono ?_; rintro e w2 ⟨rfl, hb2⟩; have HB2 := hid (TR.out HB1.out hb2); have n2 := CN.out w2 (TR.out HW.out (TR.out HB1.out hb2)); clear hb2 n1))
      | (go_at_call 76; (refine (KA.out w2 HB2.out).mono ?_; rintro e w3 ⟨rfl, m, rfl⟩; have HB3 := hid (fin.out w2 m (TR.out HW.out HB2.out)))))
    go_ret
    refine ⟨?_, ?_⟩
    · rw [HR.out]; exact ret_bool (by simp)
    · first | exact HB3.out | exact TR.out HW.out HB2.out | exact TR.out HW.out HB1.out
  case true =>
    cases fi
    case false =>
      go_enter Tryz.func86, Tryz.ntmps86
      go_wp2
      go_region_held3 (fun w2 => w2.cell? ⟨b, o, none⟩ = some (.int .i64 8) ∧ w2.cell? ⟨b, o + 6, none⟩ = some (.slice aa an ac)) (first | go_keep) (fail)
      go_wp2
      go_region_held3 (fun w2 => w2.cell? ⟨b, o + 4, none⟩ = some (.string name) ∧ w2.cell? ⟨b, o + 5, none⟩ = some (.slice na nn nc)) (first | go_keep) (fail)
      go_wp2_with (first
        | (go_at_call 111; (rw [← hW]; clear hW; refine (KG.out W HW.out).mono ?_; rintro e w1 ⟨rfl, hb1⟩; have HB1 := hid hb1; have n1 := CN.out w1 (TR.out HW.out hb1); clear hb1))
        | (go_at_call 118; (refine (KF.out w1 (TR.out HW.out HB1.out)).mono ?_; rintro e w2 ⟨rfl, hb2⟩; have HB2 := hid (TR.out HB1.out hb2); have n2 := CN.out w2 (TR.out HW.out (TR.out HB1.out hb2)); clear hb2 n1))
        | (go_at_call 76; (refine (KA.out w2 HB2.out).mono ?_; rintro e w3 ⟨rfl, m, rfl⟩; have HB3 := hid (fin.out w2 m (TR.out HW.out HB2.out)))))
      go_ret
      refine ⟨?_, ?_⟩
      · rw [HR.out]; exact ret_bool (by simp)
      · first | exact HB3.out | exact TR.out HW.out HB2.out | exact TR.out HW.out HB1.out
    case true =>
      by_cases q1 : an = nn
      case pos =>
        subst q1
        go_enter Tryz.func86, Tryz.ntmps86
        go_wp2
        go_region_held3 (fun w2 => w2.cell? ⟨b, o, none⟩ = some (.int .i64 8) ∧ w2.cell? ⟨b, o + 6, none⟩ = some (.slice aa an ac)) (first | go_keep) (fail)
        go_wp2
        go_region_held3 (fun w2 => w2.cell? ⟨b, o + 4, none⟩ = some (.string name) ∧ w2.cell? ⟨b, o + 5, none⟩ = some (.slice na an nc)) (first | go_keep) (fail)
        go_wp2_with (first
          | (go_at_call 111; (rw [← hW]; clear hW; refine (KG.out W HW.out).mono ?_; rintro e w1 ⟨rfl, hb1⟩; have HB1 := hid hb1; have n1 := CN.out w1 (TR.out HW.out hb1); clear hb1))
          | (go_at_call 118; (refine (KF.out w1 (TR.out HW.out HB1.out)).mono ?_; rintro e w2 ⟨rfl, hb2⟩; have HB2 := hid (TR.out HB1.out hb2); have n2 := CN.out w2 (TR.out HW.out (TR.out HB1.out hb2)); clear hb2 n1))
          | (go_at_call 76; (refine (KA.out w2 HB2.out).mono ?_; rintro e w3 ⟨rfl, m, rfl⟩; have HB3 := hid (fin.out w2 m (TR.out HW.out HB2.out)))))
        go_ret
        refine ⟨?_, ?_⟩
        · rw [HR.out]; exact ret_bool (by simp)
        · first | exact HB3.out | exact TR.out HW.out HB2.out | exact TR.out HW.out HB1.out
      case neg =>
        have q1' : ¬ (an : Int) = (nn : Int) := by omega
        go_enter Tryz.func86, Tryz.ntmps86
        go_wp2
        go_region_held3 (fun w2 => w2.cell? ⟨b, o, none⟩ = some (.int .i64 8) ∧ w2.cell? ⟨b, o + 6, none⟩ = some (.slice aa an ac)) (first | go_keep) (fail)
        go_wp2
        go_region_held3 (fun w2 => w2.cell? ⟨b, o + 4, none⟩ = some (.string name) ∧ w2.cell? ⟨b, o + 5, none⟩ = some (.slice na nn nc)) (first | go_keep) (fail)
        go_wp2_with (first
          | (go_at_call 111; (rw [← hW]; clear hW; refine (KG.out W HW.out).mono ?_; rintro e w1 ⟨rfl, hb1⟩; have HB1 := hid hb1; have n1 := CN.out w1 (TR.out HW.out hb1); clear hb1))
          | (go_at_call 118; (refine (KF.out w1 (TR.out HW.out HB1.out)).mono ?_; rintro e w2 ⟨rfl, hb2⟩; have HB2 := hid (TR.out HB1.out hb2); have n2 := CN.out w2 (TR.out HW.out (TR.out HB1.out hb2)); clear hb2 n1))
          | (go_at_call 76; (refine (KA.out w2 HB2.out).mono ?_; rintro e w3 ⟨rfl, m, rfl⟩; have HB3 := hid (fin.out w2 m (TR.out HW.out HB2.out)))))
        go_ret
        refine ⟨?_, ?_⟩
        · rw [HR.out]; exact ret_bool (by simp [q1])
        · first | exact HB3.out | exact TR.out HW.out HB2.out | exact TR.out HW.out HB1.out

set_option maxRecDepth 100000 in
set_option maxHeartbeats 4000000 in
theorem isRightE_0 (w : World) (h : EH) (d : EHr w h) (hm : MX w) (hk : ¬ h.kind = 1 ∧ ¬ h.kind = 2 ∧ ¬ h.kind = 3 ∧ ¬ h.kind = 4 ∧ ¬ h.kind = 5 ∧ ¬ h.kind = 6 ∧ ¬ h.kind = 7 ∧ ¬ h.kind = 8 ∧ ¬ h.kind = 9 ∧ ¬ h.kind = 10 ∧ ¬ h.kind = 11 ∧ ¬ h.kind = 12) : Calls Tryz.prog 86 #[.pointer (some ⟨h.b, h.o, none⟩)] w fun e w' => e = .returned (.bool (rightE h)) ∧ Below w.heap.size w w' := by
  have TR : Hid (∀ {Z x y : World}, Below Z.heap.size Z x → Below x.heap.size x y → Below Z.heap.size Z y) := hid (fun h1 h2 => h1.trans (h2.mono h1.size))
  have ha : (h.an : Int) ≤ 1000000 := by have := d.ab; omega
  have hnn : (h.nn : Int) ≤ 1000000 := by have := d.nb; omega
  have htx : (h.text.size : Int) ≤ 9223372036854775807 := by have := d.t; omega
  have cell : ∀ {p : Addr} {v : Value} (o : Obj), w.cell? p = some v → (w.alloc o).cell? p = some v := fun o hc => (((Below.refl w.heap.size w).alloc (Nat.le_refl _) o).cell (World.block_lt_of_cell? w _ hc)).trans hc
  have c0 := d.c0
  have c6 := d.c6
  have C0 := fun o => cell o d.c0
  have C1 := fun o => cell o d.c1
  have C2 := fun o => cell o d.c2
  have C3 := fun o => cell o d.c3
  have C4 := fun o => cell o d.c4
  have C5 := fun o => cell o d.c5
  have C6 := fun o => cell o d.c6
  obtain ⟨W, hW⟩ : ∃ W, W = ((w.alloc (.cells #[.int .i64 h.kind, .int .i64 0, .int .i64 0, .string ⟨#[]⟩, .string ⟨#[]⟩, .slice none 0 0, .slice h.aa h.an h.ac, .int .i64 0] 28)).drew : World) := ⟨_, rfl⟩
  have hb : W.heap[w.heap.size]? = some (.cells (meantE h).cs 28 (0, 0)) := by
    rw [hW]
    refine (heap_alloc_new w _).trans ?_
    simp [meantE, EH.cs, emp, hk]
  have hbw : Below w.heap.size w W := by rw [hW]; exact ((Below.refl _ w).alloc (Nat.le_refl _) _).drew
  have KA : Hid (∀ w1 : World, Below W.heap.size W w1 → Calls Tryz.prog 76 #[.pointer (some ⟨h.b, h.o, none⟩), .pointer (some ⟨w.heap.size, 0, none⟩)] w1 fun e w' => e = .returned (.bool (alikeE h (meantE h))) ∧ ∃ m, w' = w1.drewN m) := hid (fun w1 hb1 => by
    have dd := d.below (Nat.le_refl _) (hbw.trans (hb1.mono hbw.size))
    exact alikeE_any w1 h { meantE h with b := w.heap.size, o := 0 } dd (boxE dd ((hb1.block _ (Array.getElem?_eq_some_iff.1 hb).1).trans hb) (by simp [meantE, hk]) (by simp [meantE, hk]) (by simp [meantE, hk]) (by simp [meantE, hk]) rfl))
  have HW := hid hbw
  have KS : Hid (∀ w1 : World, Below w.heap.size w w1 → Calls Tryz.prog 114 #[.string h.name] w1 fun e w' => e = .returned (.bool (smallB h.name)) ∧ Below w1.heap.size w1 w') := hid (fun w1 hb1 => isSmall_any h.name d.n w1 (hm.below hm.lt hb1))
  have KG : Hid (∀ w1 : World, Below w.heap.size w w1 → Calls Tryz.prog 111 #[.string h.name] w1 fun e w' => e = .returned (.bool (greatB h.name)) ∧ Below w1.heap.size w1 w') := hid (fun w1 hb1 => isGreat_any h.name d.n w1 (hm.below hm.lt hb1))
  have KF : Hid (∀ w1 : World, Below w.heap.size w w1 → Calls Tryz.prog 118 #[.slice h.na h.nn h.nc] w1 fun e w' => e = .returned (.bool (fieldsB h.names)) ∧ Below w1.heap.size w1 w') := hid (fun w1 hb1 => areFields_any w1 h.na h.nn h.nc h.names d.nl d.nb (d.nr.below (Nat.le_refl _) hb1) d.ns (hm.below hm.lt hb1))
  have CN : Hid (∀ w1 : World, Below w.heap.size w w1 → w1.cell? ⟨h.b, h.o + 5, none⟩ = some (.slice h.na h.nn h.nc)) := hid (fun w1 hb1 => belowCell d.c5 (Nat.le_refl _) hb1)
  have HR : Hid (rightE h = (false && alikeE h (meantE h))) := hid (by unfold rightE okE; simp [hk])
  have fin : Hid (∀ (w1 : World) (m : Nat), Below w.heap.size w w1 → Below w.heap.size w (w1.drewN m)) := hid (fun w1 m hb => bel_drewN hb m)
  generalize alikeE h (meantE h) = al at *
  generalize rightE h = res at *
  generalize smallB h.name = sm at *
  generalize greatB h.name = gr at *
  generalize fieldsB h.names = fi at *
  clear d hm hb hbw cell
  obtain ⟨b, o, kind, op, int, text, name, na, nn, nc, aa, an, ac, pos, names⟩ := h
  simp only at c0 c6 C0 C1 C2 C3 C4 C5 C6 hW KA KS KG KF CN HR hk ha hnn htx ⊢
  obtain ⟨k1, k2, k3, k4, k5, k6, k7, k8, k9, k10, k11, k12⟩ := hk
  have j1 : (kind == 1) = false := by simpa using k1
  have j2 : (kind == 2) = false := by simpa using k2
  have j3 : (kind == 3) = false := by simpa using k3
  have j4 : (kind == 4) = false := by simpa using k4
  have j5 : (kind == 5) = false := by simpa using k5
  have j6 : (kind == 6) = false := by simpa using k6
  have j7 : (kind == 7) = false := by simpa using k7
  have j8 : (kind == 8) = false := by simpa using k8
  have j9 : (kind == 9) = false := by simpa using k9
  have j10 : (kind == 10) = false := by simpa using k10
  have j11 : (kind == 11) = false := by simpa using k11
  have j12 : (kind == 12) = false := by simpa using k12
  go_enter Tryz.func86, Tryz.ntmps86
  go_wp2
  go_region_held3 (fun w2 => w2.cell? ⟨b, o, none⟩ = some (.int .i64 kind) ∧ w2.cell? ⟨b, o + 6, none⟩ = some (.slice aa an ac)) (first | go_keep) (fail)
  go_wp2_with (go_at_call 76; (rw [← hW]; clear hW; refine (KA.out W (Below.refl _ _)).mono ?_; rintro e w2 ⟨rfl, m, rfl⟩; have HB2 := hid (fin.out W m HW.out)))
  go_ret
  refine ⟨?_, ?_⟩
  · rw [HR.out]; exact ret_bool (by simp)
  · first | exact HB2.out | exact TR.out HW.out HB1.out | (rw [← hW]; exact HW.out)
end Go.Proofs.YtdfambocenohgaaGreatDoor

namespace Go.Proofs.YtdfambocenohgaaGreatDoor
open Go.RowKit Go.Deep
set_option linter.unusedVariables false
set_option linter.unusedSimpArgs false


theorem isRightE_any (w : World) (h : EH) (d : EHr w h) (hm : MX w) : Calls Tryz.prog 86 #[.pointer (some ⟨h.b, h.o, none⟩)] w fun e w' => e = .returned (.bool (rightE h)) ∧ Below w.heap.size w w' := by
  by_cases k1 : h.kind = 1
  · exact isRightE_1 w h d hm k1
  by_cases k2 : h.kind = 2
  · exact isRightE_2 w h d hm k2
  by_cases k3 : h.kind = 3
  · exact isRightE_3 w h d hm k3
  by_cases k4 : h.kind = 4
  · exact isRightE_4 w h d hm k4
  by_cases k5 : h.kind = 5
  · exact isRightE_5 w h d hm k5
  by_cases k6 : h.kind = 6
  · exact isRightE_6 w h d hm k6
  by_cases k7 : h.kind = 7
  · exact isRightE_7 w h d hm k7
  by_cases k8 : h.kind = 8
  · exact isRightE_8 w h d hm k8
  by_cases k9 : h.kind = 9
  · exact isRightE_9 w h d hm k9
  by_cases k10 : h.kind = 10
  · exact isRightE_10 w h d hm k10
  by_cases k11 : h.kind = 11
  · exact isRightE_11 w h d hm k11
  by_cases k12 : h.kind = 12
  · exact isRightE_12 w h d hm k12
  exact isRightE_0 w h d hm ⟨k1, k2, k3, k4, k5, k6, k7, k8, k9, k10, k11, k12⟩
end Go.Proofs.YtdfambocenohgaaGreatDoor

namespace Go.Proofs.YtdfambocenohgaaGreatDoor
open Go.RowKit Go.Deep
set_option linter.unusedVariables false
set_option linter.unusedSimpArgs false

def SH.cs (m : SH) : Array Value := #[.int .i64 m.kind, .string m.name, .string m.label, .string m.var, .slice m.aa m.an m.ac, .slice m.ba m.bn m.bc, .slice m.ea m.en m.ec, .int .i64 m.pos]
/- What s's kind has a meaning for. -/
def meantS (h : SH) : SH := { h with name := if h.kind = 1 ∨ h.kind = 2 ∨ h.kind = 3 ∨ h.kind = 4 ∨ h.kind = 7 ∨ h.kind = 8 ∨ h.kind = 9 ∨ h.kind = 12 then h.name else emp, label := if h.kind = 6 ∨ h.kind = 7 then h.label else emp, var := if h.kind = 7 then h.var else emp, ba := if h.kind = 5 ∨ h.kind = 6 ∨ h.kind = 7 then h.ba else none, bn := if h.kind = 5 ∨ h.kind = 6 ∨ h.kind = 7 then h.bn else 0, bc := if h.kind = 5 ∨ h.kind = 6 ∨ h.kind = 7 then h.bc else 0, ea := if h.kind = 5 then h.ea else none, en := if h.kind = 5 then h.en else 0, ec := if h.kind = 5 then h.ec else 0, pos := 0 }
def okS (h : SH) : Bool :=
  if h.kind = 1 ∨ h.kind = 2 ∨ h.kind = 4 then smallB h.name && decide (h.an = 1) else
  if h.kind = 3 then smallB h.name && decide (h.an = 2) else
  if h.kind = 5 then decide (h.an = 1) else
  if h.kind = 6 then labB h.label && decide (h.an = 1) else
  if h.kind = 7 then labB h.label && smallB h.var && smallB h.name && decide (h.an = 0) else
  if h.kind = 8 ∨ h.kind = 9 then labB h.name && decide (h.an = 0) else
  if h.kind = 10 then decide (h.an ≤ 1) else
  if h.kind = 11 ∨ h.kind = 13 then decide (h.an = 1) else
  if h.kind = 12 then smallB h.name && decide (1 ≤ h.an) && decide (h.an ≤ 13) else false
def rightS (h : SH) : Bool := okS h && alikeS h (meantS h)
theorem boxS {W : World} {h m : SH} {M : Nat} (d : SHr W h) (hb : W.heap[M]? = some (.cells m.cs 49 (0, 0))) (hn : m.name = h.name ∨ m.name = emp) (hl : m.label = h.label ∨ m.label = emp) (hv : m.var = h.var ∨ m.var = emp) (ha : m.an = h.an) (h1 : m.bn = h.bn ∨ m.bn = 0) (h2 : m.en = h.en ∨ m.en = 0) : SHr W { m with b := M, o := 0 } := by
  have c := cellT hb
  have e0 : emp.size ≤ 9223372036854775807 := by decide
  refine ⟨c 0, c 1, c 2, c 3, c 4, c 5, c 6, c 7, ?_, ?_, ?_, ?_, ?_, ?_⟩
  · rcases hn with e | e
    · show m.name.size ≤ _; rw [e]; exact d.n
    · show m.name.size ≤ _; rw [e]; exact e0
  · rcases hl with e | e
    · show m.label.size ≤ _; rw [e]; exact d.l
    · show m.label.size ≤ _; rw [e]; exact e0
  · rcases hv with e | e
    · show m.var.size ≤ _; rw [e]; exact d.v
    · show m.var.size ≤ _; rw [e]; exact e0
  · show m.an ≤ _; rw [ha]; exact d.ab
  · rcases h1 with e | e
    · show m.bn ≤ _; rw [e]; exact d.bb
    · show m.bn ≤ _; rw [e]; decide
  · rcases h2 with e | e
    · show m.en ≤ _; rw [e]; exact d.eb
    · show m.en ≤ _; rw [e]; decide
end Go.Proofs.YtdfambocenohgaaGreatDoor

namespace Go.Proofs.YtdfambocenohgaaGreatDoor
open Go.RowKit Go.Deep
set_option linter.unusedVariables false
set_option linter.unusedSimpArgs false


set_option maxRecDepth 100000 in
set_option maxHeartbeats 4000000 in
theorem isRightS_1 (w : World) (h : SH) (d : SHr w h) (hm : MX w) (hk : h.kind = 1) : Calls Tryz.prog 85 #[.pointer (some ⟨h.b, h.o, none⟩)] w fun e w' => e = .returned (.bool (rightS h)) ∧ Below w.heap.size w w' := by
  have TR : Hid (∀ {Z x y : World}, Below Z.heap.size Z x → Below x.heap.size x y → Below Z.heap.size Z y) := hid (fun h1 h2 => h1.trans (h2.mono h1.size))
  have ha : (h.an : Int) ≤ 1000000 := by have := d.ab; omega
  have cell : ∀ {p : Addr} {v : Value} (o : Obj), w.cell? p = some v → (w.alloc o).cell? p = some v := fun o hc => (((Below.refl w.heap.size w).alloc (Nat.le_refl _) o).cell (World.block_lt_of_cell? w _ hc)).trans hc
  have c0 := d.c0
  have c4 := d.c4
  have C0 := fun o => cell o d.c0
  have C1 := fun o => cell o d.c1
  have C2 := fun o => cell o d.c2
  have C3 := fun o => cell o d.c3
  have C4 := fun o => cell o d.c4
  have C5 := fun o => cell o d.c5
  have C6 := fun o => cell o d.c6
  obtain ⟨W, hW⟩ : ∃ W, W = ((w.alloc (.cells #[.int .i64 1, .string h.name, .string ⟨#[]⟩, .string ⟨#[]⟩, .slice h.aa h.an h.ac, .slice none 0 0, .slice none 0 0, .int .i64 0] 49)).drew : World) := ⟨_, rfl⟩
  have hb : W.heap[w.heap.size]? = some (.cells (meantS h).cs 49 (0, 0)) := by
    rw [hW]
    refine (heap_alloc_new w _).trans ?_
    simp [meantS, SH.cs, emp, hk]
  have hbw : Below w.heap.size w W := by rw [hW]; exact ((Below.refl _ w).alloc (Nat.le_refl _) _).drew
  have KA : Hid (∀ w1 : World, Below W.heap.size W w1 → Calls Tryz.prog 75 #[.pointer (some ⟨h.b, h.o, none⟩), .pointer (some ⟨w.heap.size, 0, none⟩)] w1 fun e w' => e = .returned (.bool (alikeS h (meantS h))) ∧ ∃ m, w' = w1.drewN m) := hid (fun w1 hb1 => by
    have dd := d.below (Nat.le_refl _) (hbw.trans (hb1.mono hbw.size))
    exact alikeS_any w1 h { meantS h with b := w.heap.size, o := 0 } dd (boxS dd ((hb1.block _ (Array.getElem?_eq_some_iff.1 hb).1).trans hb) (by simp [meantS, hk]) (by simp [meantS, hk]) (by simp [meantS, hk]) rfl (by simp [meantS, hk]) (by simp [meantS, hk])))
  have HW := hid hbw
  have KSn : Hid (∀ w1 : World, Below w.heap.size w w1 → Calls Tryz.prog 114 #[.string h.name] w1 fun e w' => e = .returned (.bool (smallB h.name)) ∧ Below w1.heap.size w1 w') := hid (fun w1 hb1 => isSmall_any h.name d.n w1 (hm.below hm.lt hb1))
  have KSv : Hid (∀ w1 : World, Below w.heap.size w w1 → Calls Tryz.prog 114 #[.string h.var] w1 fun e w' => e = .returned (.bool (smallB h.var)) ∧ Below w1.heap.size w1 w') := hid (fun w1 hb1 => isSmall_any h.var d.v w1 (hm.below hm.lt hb1))
  have KLn : Hid (∀ w1 : World, Below w.heap.size w w1 → Calls Tryz.prog 117 #[.string h.name] w1 fun e w' => e = .returned (.bool (labB h.name)) ∧ Below w1.heap.size w1 w') := hid (fun w1 hb1 => isLabel_any h.name d.n w1 (hm.below hm.lt hb1))
  have KLl : Hid (∀ w1 : World, Below w.heap.size w w1 → Calls Tryz.prog 117 #[.string h.label] w1 fun e w' => e = .returned (.bool (labB h.label)) ∧ Below w1.heap.size w1 w') := hid (fun w1 hb1 => isLabel_any h.label d.l w1 (hm.below hm.lt hb1))
  have CV : Hid (∀ w1 : World, Below w.heap.size w w1 → w1.cell? ⟨h.b, h.o + 3, none⟩ = some (.string h.var)) := hid (fun w1 hb1 => belowCell d.c3 (Nat.le_refl _) hb1)
  have CN : Hid (∀ w1 : World, Below w.heap.size w w1 → w1.cell? ⟨h.b, h.o + 1, none⟩ = some (.string h.name)) := hid (fun w1 hb1 => belowCell d.c1 (Nat.le_refl _) hb1)
  have HR : Hid (rightS h = ((smallB h.name && decide (h.an = 1)) && alikeS h (meantS h))) := hid (by unfold rightS okS; simp [hk])
  have fin : Hid (∀ (w1 : World) (m : Nat), Below w.heap.size w w1 → Below w.heap.size w (w1.drewN m)) := hid (fun w1 m hb => bel_drewN hb m)
  generalize alikeS h (meantS h) = al at *
  generalize rightS h = res at *
  generalize smallB h.name = sn at *
  generalize smallB h.var = sv at *
  generalize labB h.name = ln at *
  generalize labB h.label = ll at *
  clear d hm hb hbw cell
  obtain ⟨b, o, kind, name, label, var, aa, an, ac, ba, bn, bc, ea, en, ec, pos⟩ := h
  simp only at c0 c4 C0 C1 C2 C3 C4 C5 C6 hW KA KSn KSv KLn KLl CV CN HR hk ha ⊢
  subst hk
  cases sn
  case false =>
    go_enter Tryz.func85, Tryz.ntmps85
    go_wp2
    go_region_held3 (fun w2 => w2.cell? ⟨b, o, none⟩ = some (.int .i64 1) ∧ w2.cell? ⟨b, o + 4, none⟩ = some (.slice aa an ac)) (first | go_keep) (fail)
    go_wp2_with (first
      | (go_at_call 114; (rw [← hW]; clear hW; refine (KSn.out W HW.out).mono ?_; rintro e w1 ⟨rfl, hb⟩; have HB1 := hid hb; clear hb))
      | (go_at_call 75; (refine (KA.out w1 HB1.out).mono ?_; rintro e w9 ⟨rfl, m, rfl⟩; have HB9 := hid (fin.out w1 m (TR.out HW.out HB1.out)))))
    go_ret
    refine ⟨?_, ?_⟩
    · rw [HR.out]; exact ret_bool (by first | (simp; done) | (simp <;> intros <;> omega))
    · first | exact HB9.out | exact TR.out HW.out HB1.out | (rw [← hW]; exact HW.out)
  case true =>
    by_cases q1 : an = 1
    case pos =>
      subst q1
      go_enter Tryz.func85, Tryz.ntmps85
      go_wp2
      go_region_held3 (fun w2 => w2.cell? ⟨b, o, none⟩ = some (.int .i64 1) ∧ w2.cell? ⟨b, o + 4, none⟩ = some (.slice aa 1 ac)) (first | go_keep) (fail)
      go_wp2_with (first
        | (go_at_call 114; (rw [← hW]; clear hW; refine (KSn.out W HW.out).mono ?_; rintro e w1 ⟨rfl, hb⟩; have HB1 := hid hb; clear hb))
        | (go_at_call 75; (refine (KA.out w1 HB1.out).mono ?_; rintro e w9 ⟨rfl, m, rfl⟩; have HB9 := hid (fin.out w1 m (TR.out HW.out HB1.out)))))
      go_ret
      refine ⟨?_, ?_⟩
      · rw [HR.out]; exact ret_bool (by first | (simp; done) | (simp <;> intros <;> omega))
      · first | exact HB9.out | exact TR.out HW.out HB1.out | (rw [← hW]; exact HW.out)
    case neg =>
      have q1' : ¬ (an : Int) = 1 := by omega
      go_enter Tryz.func85, Tryz.ntmps85
      go_wp2
      go_region_held3 (fun w2 => w2.cell? ⟨b, o, none⟩ = some (.int .i64 1) ∧ w2.cell? ⟨b, o + 4, none⟩ = some (.slice aa an ac)) (first | go_keep) (fail)
      go_wp2_with (first
        | (go_at_call 114; (rw [← hW]; clear hW; refine (KSn.out W HW.out).mono ?_; rintro e w1 ⟨rfl, hb⟩; have HB1 := hid hb; clear hb))
        | (go_at_call 75; (refine (KA.out w1 HB1.out).mono ?_; rintro e w9 ⟨rfl, m, rfl⟩; have HB9 := hid (fin.out w1 m (TR.out HW.out HB1.out)))))
      go_ret
      refine ⟨?_, ?_⟩
      · rw [HR.out]; exact ret_bool (by first | (simp [q1]; done) | (simp <;> intros <;> omega))
      · first | exact HB9.out | exact TR.out HW.out HB1.out | (rw [← hW]; exact HW.out)

set_option maxRecDepth 100000 in
set_option maxHeartbeats 4000000 in
theorem isRightS_2 (w : World) (h : SH) (d : SHr w h) (hm : MX w) (hk : h.kind = 2) : Calls Tryz.prog 85 #[.pointer (some ⟨h.b, h.o, none⟩)] w fun e w' => e = .returned (.bool (rightS h)) ∧ Below w.heap.size w w' := by
  have TR : Hid (∀ {Z x y : World}, Below Z.heap.size Z x → Below x.heap.size x y → Below Z.heap.size Z y) := hid (fun h1 h2 => h1.trans (h2.mono h1.size))
  have ha : (h.an : Int) ≤ 1000000 := by have := d.ab; omega
  have cell : ∀ {p : Addr} {v : Value} (o : Obj), w.cell? p = some v → (w.alloc o).cell? p = some v := fun o hc => (((Below.refl w.heap.size w).alloc (Nat.le_refl _) o).cell (World.block_lt_of_cell? w _ hc)).trans hc
  have c0 := d.c0
  have c4 := d.c4
  have C0 := fun o => cell o d.c0
  have C1 := fun o => cell o d.c1
  have C2 := fun o => cell o d.c2
  have C3 := fun o => cell o d.c3
  have C4 := fun o => cell o d.c4
  have C5 := fun o => cell o d.c5
  have C6 := fun o => cell o d.c6
  obtain ⟨W, hW⟩ : ∃ W, W = ((w.alloc (.cells #[.int .i64 2, .string h.name, .string ⟨#[]⟩, .string ⟨#[]⟩, .slice h.aa h.an h.ac, .slice none 0 0, .slice none 0 0, .int .i64 0] 49)).drew : World) := ⟨_, rfl⟩
  have hb : W.heap[w.heap.size]? = some (.cells (meantS h).cs 49 (0, 0)) := by
    rw [hW]
    refine (heap_alloc_new w _).trans ?_
    simp [meantS, SH.cs, emp, hk]
  have hbw : Below w.heap.size w W := by rw [hW]; exact ((Below.refl _ w).alloc (Nat.le_refl _) _).drew
  have KA : Hid (∀ w1 : World, Below W.heap.size W w1 → Calls Tryz.prog 75 #[.pointer (some ⟨h.b, h.o, none⟩), .pointer (some ⟨w.heap.size, 0, none⟩)] w1 fun e w' => e = .returned (.bool (alikeS h (meantS h))) ∧ ∃ m, w' = w1.drewN m) := hid (fun w1 hb1 => by
    have dd := d.below (Nat.le_refl _) (hbw.trans (hb1.mono hbw.size))
    exact alikeS_any w1 h { meantS h with b := w.heap.size, o := 0 } dd (boxS dd ((hb1.block _ (Array.getElem?_eq_some_iff.1 hb).1).trans hb) (by simp [meantS, hk]) (by simp [meantS, hk]) (by simp [meantS, hk]) rfl (by simp [meantS, hk]) (by simp [meantS, hk])))
  have HW := hid hbw
  have KSn : Hid (∀ w1 : World, Below w.heap.size w w1 → Calls Tryz.prog 114 #[.string h.name] w1 fun e w' => e = .returned (.bool (smallB h.name)) ∧ Below w1.heap.size w1 w') := hid (fun w1 hb1 => isSmall_any h.name d.n w1 (hm.below hm.lt hb1))
  have KSv : Hid (∀ w1 : World, Below w.heap.size w w1 → Calls Tryz.prog 114 #[.string h.var] w1 fun e w' => e = .returned (.bool (smallB h.var)) ∧ Below w1.heap.size w1 w') := hid (fun w1 hb1 => isSmall_any h.var d.v w1 (hm.below hm.lt hb1))
  have KLn : Hid (∀ w1 : World, Below w.heap.size w w1 → Calls Tryz.prog 117 #[.string h.name] w1 fun e w' => e = .returned (.bool (labB h.name)) ∧ Below w1.heap.size w1 w') := hid (fun w1 hb1 => isLabel_any h.name d.n w1 (hm.below hm.lt hb1))
  have KLl : Hid (∀ w1 : World, Below w.heap.size w w1 → Calls Tryz.prog 117 #[.string h.label] w1 fun e w' => e = .returned (.bool (labB h.label)) ∧ Below w1.heap.size w1 w') := hid (fun w1 hb1 => isLabel_any h.label d.l w1 (hm.below hm.lt hb1))
  have CV : Hid (∀ w1 : World, Below w.heap.size w w1 → w1.cell? ⟨h.b, h.o + 3, none⟩ = some (.string h.var)) := hid (fun w1 hb1 => belowCell d.c3 (Nat.le_refl _) hb1)
  have CN : Hid (∀ w1 : World, Below w.heap.size w w1 → w1.cell? ⟨h.b, h.o + 1, none⟩ = some (.string h.name)) := hid (fun w1 hb1 => belowCell d.c1 (Nat.le_refl _) hb1)
  have HR : Hid (rightS h = ((smallB h.name && decide (h.an = 1)) && alikeS h (meantS h))) := hid (by unfold rightS okS; simp [hk])
  have fin : Hid (∀ (w1 : World) (m : Nat), Below w.heap.size w w1 → Below w.heap.size w (w1.drewN m)) := hid (fun w1 m hb => bel_drewN hb m)
  generalize alikeS h (meantS h) = al at *
  generalize rightS h = res at *
  generalize smallB h.name = sn at *
  generalize smallB h.var = sv at *
  generalize labB h.name = ln at *
  generalize labB h.label = ll at *
  clear d hm hb hbw cell
  obtain ⟨b, o, kind, name, label, var, aa, an, ac, ba, bn, bc, ea, en, ec, pos⟩ := h
  simp only at c0 c4 C0 C1 C2 C3 C4 C5 C6 hW KA KSn KSv KLn KLl CV CN HR hk ha ⊢
  subst hk
  cases sn
  case false =>
    go_enter Tryz.func85, Tryz.ntmps85
    go_wp2
    go_region_held3 (fun w2 => w2.cell? ⟨b, o, none⟩ = some (.int .i64 2) ∧ w2.cell? ⟨b, o + 4, none⟩ = some (.slice aa an ac)) (first | go_keep) (fail)
    go_wp2_with (first
      | (go_at_call 114; (rw [← hW]; clear hW; refine (KSn.out W HW.out).mono ?_; rintro e w1 ⟨rfl, hb⟩; have HB1 := hid hb; clear hb))
      | (go_at_call 75; (refine (KA.out w1 HB1.out).mono ?_; rintro e w9 ⟨rfl, m, rfl⟩; have HB9 := hid (fin.out w1 m (TR.out HW.out HB1.out)))))
    go_ret
    refine ⟨?_, ?_⟩
    · rw [HR.out]; exact ret_bool (by first | (simp; done) | (simp <;> intros <;> omega))
    · first | exact HB9.out | exact TR.out HW.out HB1.out | (rw [← hW]; exact HW.out)
  case true =>
    by_cases q1 : an = 1
    case pos =>
      subst q1
      go_enter Tryz.func85, Tryz.ntmps85
      go_wp2
      go_region_held3 (fun w2 => w2.cell? ⟨b, o, none⟩ = some (.int .i64 2) ∧ w2.cell? ⟨b, o + 4, none⟩ = some (.slice aa 1 ac)) (first | go_keep) (fail)
      go_wp2_with (first
        | (go_at_call 114; (rw [← hW]; clear hW; refine (KSn.out W HW.out).mono ?_; rintro e w1 ⟨rfl, hb⟩; have HB1 := hid hb; clear hb))
        | (go_at_call 75; (refine (KA.out w1 HB1.out).mono ?_; rintro e w9 ⟨rfl, m, rfl⟩; have HB9 := hid (fin.out w1 m (TR.out HW.out HB1.out)))))
      go_ret
      refine ⟨?_, ?_⟩
      · rw [HR.out]; exact ret_bool (by first | (simp; done) | (simp <;> intros <;> omega))
      · first | exact HB9.out | exact TR.out HW.out HB1.out | (rw [← hW]; exact HW.out)
    case neg =>
      have q1' : ¬ (an : Int) = 1 := by omega
      go_enter Tryz.func85, Tryz.ntmps85
      go_wp2
      go_region_held3 (fun w2 => w2.cell? ⟨b, o, none⟩ = some (.int .i64 2) ∧ w2.cell? ⟨b, o + 4, none⟩ = some (.slice aa an ac)) (first | go_keep) (fail)
      go_wp2_with (first
        | (go_at_call 114; (rw [← hW]; clear hW; refine (KSn.out W HW.out).mono ?_; rintro e w1 ⟨rfl, hb⟩; have HB1 := hid hb; clear hb))
        | (go_at_call 75; (refine (KA.out w1 HB1.out).mono ?_; rintro e w9 ⟨rfl, m, rfl⟩; have HB9 := hid (fin.out w1 m (TR.out HW.out HB1.out)))))
      go_ret
      refine ⟨?_, ?_⟩
      · rw [HR.out]; exact ret_bool (by first | (simp [q1]; done) | (simp <;> intros <;> omega))
      · first | exact HB9.out | exact TR.out HW.out HB1.out | (rw [← hW]; exact HW.out)

set_option maxRecDepth 100000 in
set_option maxHeartbeats 4000000 in
theorem isRightS_3 (w : World) (h : SH) (d : SHr w h) (hm : MX w) (hk : h.kind = 3) : Calls Tryz.prog 85 #[.pointer (some ⟨h.b, h.o, none⟩)] w fun e w' => e = .returned (.bool (rightS h)) ∧ Below w.heap.size w w' := by
  have TR : Hid (∀ {Z x y : World}, Below Z.heap.size Z x → Below x.heap.size x y → Below Z.heap.size Z y) := hid (fun h1 h2 => h1.trans (h2.mono h1.size))
  have ha : (h.an : Int) ≤ 1000000 := by have := d.ab; omega
  have cell : ∀ {p : Addr} {v : Value} (o : Obj), w.cell? p = some v → (w.alloc o).cell? p = some v := fun o hc => (((Below.refl w.heap.size w).alloc (Nat.le_refl _) o).cell (World.block_lt_of_cell? w _ hc)).trans hc
  have c0 := d.c0
  have c4 := d.c4
  have C0 := fun o => cell o d.c0
  have C1 := fun o => cell o d.c1
  have C2 := fun o => cell o d.c2
  have C3 := fun o => cell o d.c3
  have C4 := fun o => cell o d.c4
  have C5 := fun o => cell o d.c5
  have C6 := fun o => cell o d.c6
  obtain ⟨W, hW⟩ : ∃ W, W = ((w.alloc (.cells #[.int .i64 3, .string h.name, .string ⟨#[]⟩, .string ⟨#[]⟩, .slice h.aa h.an h.ac, .slice none 0 0, .slice none 0 0, .int .i64 0] 49)).drew : World) := ⟨_, rfl⟩
  have hb : W.heap[w.heap.size]? = some (.cells (meantS h).cs 49 (0, 0)) := by
    rw [hW]
    refine (heap_alloc_new w _).trans ?_
    simp [meantS, SH.cs, emp, hk]
  have hbw : Below w.heap.size w W := by rw [hW]; exact ((Below.refl _ w).alloc (Nat.le_refl _) _).drew
  have KA : Hid (∀ w1 : World, Below W.heap.size W w1 → Calls Tryz.prog 75 #[.pointer (some ⟨h.b, h.o, none⟩), .pointer (some ⟨w.heap.size, 0, none⟩)] w1 fun e w' => e = .returned (.bool (alikeS h (meantS h))) ∧ ∃ m, w' = w1.drewN m) := hid (fun w1 hb1 => by
    have dd := d.below (Nat.le_refl _) (hbw.trans (hb1.mono hbw.size))
    exact alikeS_any w1 h { meantS h with b := w.heap.size, o := 0 } dd (boxS dd ((hb1.block _ (Array.getElem?_eq_some_iff.1 hb).1).trans hb) (by simp [meantS, hk]) (by simp [meantS, hk]) (by simp [meantS, hk]) rfl (by simp [meantS, hk]) (by simp [meantS, hk])))
  have HW := hid hbw
  have KSn : Hid (∀ w1 : World, Below w.heap.size w w1 → Calls Tryz.prog 114 #[.string h.name] w1 fun e w' => e = .returned (.bool (smallB h.name)) ∧ Below w1.heap.size w1 w') := hid (fun w1 hb1 => isSmall_any h.name d.n w1 (hm.below hm.lt hb1))
  have KSv : Hid (∀ w1 : World, Below w.heap.size w w1 → Calls Tryz.prog 114 #[.string h.var] w1 fun e w' => e = .returned (.bool (smallB h.var)) ∧ Below w1.heap.size w1 w') := hid (fun w1 hb1 => isSmall_any h.var d.v w1 (hm.below hm.lt hb1))
  have KLn : Hid (∀ w1 : World, Below w.heap.size w w1 → Calls Tryz.prog 117 #[.string h.name] w1 fun e w' => e = .returned (.bool (labB h.name)) ∧ Below w1.heap.size w1 w') := hid (fun w1 hb1 => isLabel_any h.name d.n w1 (hm.below hm.lt hb1))
  have KLl : Hid (∀ w1 : World, Below w.heap.size w w1 → Calls Tryz.prog 117 #[.string h.label] w1 fun e w' => e = .returned (.bool (labB h.label)) ∧ Below w1.heap.size w1 w') := hid (fun w1 hb1 => isLabel_any h.label d.l w1 (hm.below hm.lt hb1))
  have CV : Hid (∀ w1 : World, Below w.heap.size w w1 → w1.cell? ⟨h.b, h.o + 3, none⟩ = some (.string h.var)) := hid (fun w1 hb1 => belowCell d.c3 (Nat.le_refl _) hb1)
  have CN : Hid (∀ w1 : World, Below w.heap.size w w1 → w1.cell? ⟨h.b, h.o + 1, none⟩ = some (.string h.name)) := hid (fun w1 hb1 => belowCell d.c1 (Nat.le_refl _) hb1)
  have HR : Hid (rightS h = ((smallB h.name && decide (h.an = 2)) && alikeS h (meantS h))) := hid (by unfold rightS okS; simp [hk])
  have fin : Hid (∀ (w1 : World) (m : Nat), Below w.heap.size w w1 → Below w.heap.size w (w1.drewN m)) := hid (fun w1 m hb => bel_drewN hb m)
  generalize alikeS h (meantS h) = al at *
  generalize rightS h = res at *
  generalize smallB h.name = sn at *
  generalize smallB h.var = sv at *
  generalize labB h.name = ln at *
  generalize labB h.label = ll at *
  clear d hm hb hbw cell
  obtain ⟨b, o, kind, name, label, var, aa, an, ac, ba, bn, bc, ea, en, ec, pos⟩ := h
  simp only at c0 c4 C0 C1 C2 C3 C4 C5 C6 hW KA KSn KSv KLn KLl CV CN HR hk ha ⊢
  subst hk
  cases sn
  case false =>
    go_enter Tryz.func85, Tryz.ntmps85
    go_wp2
    go_region_held3 (fun w2 => w2.cell? ⟨b, o, none⟩ = some (.int .i64 3) ∧ w2.cell? ⟨b, o + 4, none⟩ = some (.slice aa an ac)) (first | go_keep) (fail)
    go_wp2_with (first
      | (go_at_call 114; (rw [← hW]; clear hW; refine (KSn.out W HW.out).mono ?_; rintro e w1 ⟨rfl, hb⟩; have HB1 := hid hb; clear hb))
      | (go_at_call 75; (refine (KA.out w1 HB1.out).mono ?_; rintro e w9 ⟨rfl, m, rfl⟩; have HB9 := hid (fin.out w1 m (TR.out HW.out HB1.out)))))
    go_ret
    refine ⟨?_, ?_⟩
    · rw [HR.out]; exact ret_bool (by first | (simp; done) | (simp <;> intros <;> omega))
    · first | exact HB9.out | exact TR.out HW.out HB1.out | (rw [← hW]; exact HW.out)
  case true =>
    by_cases q1 : an = 2
    case pos =>
      subst q1
      go_enter Tryz.func85, Tryz.ntmps85
      go_wp2
      go_region_held3 (fun w2 => w2.cell? ⟨b, o, none⟩ = some (.int .i64 3) ∧ w2.cell? ⟨b, o + 4, none⟩ = some (.slice aa 2 ac)) (first | go_keep) (fail)
      go_wp2_with (first
        | (go_at_call 114; (rw [← hW]; clear hW; refine (KSn.out W HW.out).mono ?_; rintro e w1 ⟨rfl, hb⟩; have HB1 := hid hb; clear hb))
        | (go_at_call 75; (refine (KA.out w1 HB1.out).mono ?_; rintro e w9 ⟨rfl, m, rfl⟩; have HB9 := hid (fin.out w1 m (TR.out HW.out HB1.out)))))
      go_ret
      refine ⟨?_, ?_⟩
      · rw [HR.out]; exact ret_bool (by first | (simp; done) | (simp <;> intros <;> omega))
      · first | exact HB9.out | exact TR.out HW.out HB1.out | (rw [← hW]; exact HW.out)
    case neg =>
      have q1' : ¬ (an : Int) = 2 := by omega
      go_enter Tryz.func85, Tryz.ntmps85
      go_wp2
      go_region_held3 (fun w2 => w2.cell? ⟨b, o, none⟩ = some (.int .i64 3) ∧ w2.cell? ⟨b, o + 4, none⟩ = some (.slice aa an ac)) (first | go_keep) (fail)
      go_wp2_with (first
        | (go_at_call 114; (rw [← hW]; clear hW; refine (KSn.out W HW.out).mono ?_; rintro e w1 ⟨rfl, hb⟩; have HB1 := hid hb; clear hb))
        | (go_at_call 75; (refine (KA.out w1 HB1.out).mono ?_; rintro e w9 ⟨rfl, m, rfl⟩; have HB9 := hid (fin.out w1 m (TR.out HW.out HB1.out)))))
      go_ret
      refine ⟨?_, ?_⟩
      · rw [HR.out]; exact ret_bool (by first | (simp [q1]; done) | (simp <;> intros <;> omega))
      · first | exact HB9.out | exact TR.out HW.out HB1.out | (rw [← hW]; exact HW.out)

set_option maxRecDepth 100000 in
set_option maxHeartbeats 4000000 in
theorem isRightS_4 (w : World) (h : SH) (d : SHr w h) (hm : MX w) (hk : h.kind = 4) : Calls Tryz.prog 85 #[.pointer (some ⟨h.b, h.o, none⟩)] w fun e w' => e = .returned (.bool (rightS h)) ∧ Below w.heap.size w w' := by
  have TR : Hid (∀ {Z x y : World}, Below Z.heap.size Z x → Below x.heap.size x y → Below Z.heap.size Z y) := hid (fun h1 h2 => h1.trans (h2.mono h1.size))
  have ha : (h.an : Int) ≤ 1000000 := by have := d.ab; omega
  have cell : ∀ {p : Addr} {v : Value} (o : Obj), w.cell? p = some v → (w.alloc o).cell? p = some v := fun o hc => (((Below.refl w.heap.size w).alloc (Nat.le_refl _) o).cell (World.block_lt_of_cell? w _ hc)).trans hc
  have c0 := d.c0
  have c4 := d.c4
  have C0 := fun o => cell o d.c0
  have C1 := fun o => cell o d.c1
  have C2 := fun o => cell o d.c2
  have C3 := fun o => cell o d.c3
  have C4 := fun o => cell o d.c4
  have C5 := fun o => cell o d.c5
  have C6 := fun o => cell o d.c6
  obtain ⟨W, hW⟩ : ∃ W, W = ((w.alloc (.cells #[.int .i64 4, .string h.name, .string ⟨#[]⟩, .string ⟨#[]⟩, .slice h.aa h.an h.ac, .slice none 0 0, .slice none 0 0, .int .i64 0] 49)).drew : World) := ⟨_, rfl⟩
  have hb : W.heap[w.heap.size]? = some (.cells (meantS h).cs 49 (0, 0)) := by
    rw [hW]
    refine (heap_alloc_new w _).trans ?_
    simp [meantS, SH.cs, emp, hk]
  have hbw : Below w.heap.size w W := by rw [hW]; exact ((Below.refl _ w).alloc (Nat.le_refl _) _).drew
  have KA : Hid (∀ w1 : World, Below W.heap.size W w1 → Calls Tryz.prog 75 #[.pointer (some ⟨h.b, h.o, none⟩), .pointer (some ⟨w.heap.size, 0, none⟩)] w1 fun e w' => e = .returned (.bool (alikeS h (meantS h))) ∧ ∃ m, w' = w1.drewN m) := hid (fun w1 hb1 => by
    have dd := d.below (Nat.le_refl _) (hbw.trans (hb1.mono hbw.size))
    exact alikeS_any w1 h { meantS h with b := w.heap.size, o := 0 } dd (boxS dd ((hb1.block _ (Array.getElem?_eq_some_iff.1 hb).1).trans hb) (by simp [meantS, hk]) (by simp [meantS, hk]) (by simp [meantS, hk]) rfl (by simp [meantS, hk]) (by simp [meantS, hk])))
  have HW := hid hbw
  have KSn : Hid (∀ w1 : World, Below w.heap.size w w1 → Calls Tryz.prog 114 #[.string h.name] w1 fun e w' => e = .returned (.bool (smallB h.name)) ∧ Below w1.heap.size w1 w') := hid (fun w1 hb1 => isSmall_any h.name d.n w1 (hm.below hm.lt hb1))
  have KSv : Hid (∀ w1 : World, Below w.heap.size w w1 → Calls Tryz.prog 114 #[.string h.var] w1 fun e w' => e = .returned (.bool (smallB h.var)) ∧ Below w1.heap.size w1 w') := hid (fun w1 hb1 => isSmall_any h.var d.v w1 (hm.below hm.lt hb1))
  have KLn : Hid (∀ w1 : World, Below w.heap.size w w1 → Calls Tryz.prog 117 #[.string h.name] w1 fun e w' => e = .returned (.bool (labB h.name)) ∧ Below w1.heap.size w1 w') := hid (fun w1 hb1 => isLabel_any h.name d.n w1 (hm.below hm.lt hb1))
  have KLl : Hid (∀ w1 : World, Below w.heap.size w w1 → Calls Tryz.prog 117 #[.string h.label] w1 fun e w' => e = .returned (.bool (labB h.label)) ∧ Below w1.heap.size w1 w') := hid (fun w1 hb1 => isLabel_any h.label d.l w1 (hm.below hm.lt hb1))
  have CV : Hid (∀ w1 : World, Below w.heap.size w w1 → w1.cell? ⟨h.b, h.o + 3, none⟩ = some (.string h.var)) := hid (fun w1 hb1 => belowCell d.c3 (Nat.le_refl _) hb1)
  have CN : Hid (∀ w1 : World, Below w.heap.size w w1 → w1.cell? ⟨h.b, h.o + 1, none⟩ = some (.string h.name)) := hid (fun w1 hb1 => belowCell d.c1 (Nat.le_refl _) hb1)
  have HR : Hid (rightS h = ((smallB h.name && decide (h.an = 1)) && alikeS h (meantS h))) := hid (by unfold rightS okS; simp [hk])
  have fin : Hid (∀ (w1 : World) (m : Nat), Below w.heap.size w w1 → Below w.heap.size w (w1.drewN m)) := hid (fun w1 m hb => bel_drewN hb m)
  generalize alikeS h (meantS h) = al at *
  generalize rightS h = res at *
  generalize smallB h.name = sn at *
  generalize smallB h.var = sv at *
  generalize labB h.name = ln at *
  generalize labB h.label = ll at *
  clear d hm hb hbw cell
  obtain ⟨b, o, kind, name, label, var, aa, an, ac, ba, bn, bc, ea, en, ec, pos⟩ := h
  simp only at c0 c4 C0 C1 C2 C3 C4 C5 C6 hW KA KSn KSv KLn KLl CV CN HR hk ha ⊢
  subst hk
  cases sn
  case false =>
    go_enter Tryz.func85, Tryz.ntmps85
    go_wp2
    go_region_held3 (fun w2 => w2.cell? ⟨b, o, none⟩ = some (.int .i64 4) ∧ w2.cell? ⟨b, o + 4, none⟩ = some (.slice aa an ac)) (first | go_keep) (fail)
    go_wp2_with (first
      | (go_at_call 114; (rw [← hW]; clear hW; refine (KSn.out W HW.out).mono ?_; rintro e w1 ⟨rfl, hb⟩; have HB1 := hid hb; clear hb))
      | (go_at_call 75; (refine (KA.out w1 HB1.out).mono ?_; rintro e w9 ⟨rfl, m, rfl⟩; have HB9 := hid (fin.out w1 m (TR.out HW.out HB1.out)))))
    go_ret
    refine ⟨?_, ?_⟩
    · rw [HR.out]; exact ret_bool (by first | (simp; done) | (simp <;> intros <;> omega))
    · first | exact HB9.out | exact TR.out HW.out HB1.out | (rw [← hW]; exact HW.out)
  case true =>
    by_cases q1 : an = 1
    case pos =>
      subst q1
      go_enter Tryz.func85, Tryz.ntmps85
      go_wp2
      go_region_held3 (fun w2 => w2.cell? ⟨b, o, none⟩ = some (.int .i64 4) ∧ w2.cell? ⟨b, o + 4, none⟩ = some (.slice aa 1 ac)) (first | go_keep) (fail)
      go_wp2_with (first
        | (go_at_call 114; (rw [← hW]; clear hW; refine (KSn.out W HW.out).mono ?_; rintro e w1 ⟨rfl, hb⟩; have HB1 := hid hb; clear hb))
        | (go_at_call 75; (refine (KA.out w1 HB1.out).mono ?_; rintro e w9 ⟨rfl, m, rfl⟩; have HB9 := hid (fin.out w1 m (TR.out HW.out HB1.out)))))
      go_ret
      refine ⟨?_, ?_⟩
      · rw [HR.out]; exact ret_bool (by first | (simp; done) | (simp <;> intros <;> omega))
      · first | exact HB9.out | exact TR.out HW.out HB1.out | (rw [← hW]; exact HW.out)
    case neg =>
      have q1' : ¬ (an : Int) = 1 := by omega
      go_enter Tryz.func85, Tryz.ntmps85
      go_wp2
      go_region_held3 (fun w2 => w2.cell? ⟨b, o, none⟩ = some (.int .i64 4) ∧ w2.cell? ⟨b, o + 4, none⟩ = some (.slice aa an ac)) (first | go_keep) (fail)
      go_wp2_with (first
        | (go_at_call 114; (rw [← hW]; clear hW; refine (KSn.out W HW.out).mono ?_; rintro e w1 ⟨rfl, hb⟩; have HB1 := hid hb; clear hb))
        | (go_at_call 75; (refine (KA.out w1 HB1.out).mono ?_; rintro e w9 ⟨rfl, m, rfl⟩; have HB9 := hid (fin.out w1 m (TR.out HW.out HB1.out)))))
      go_ret
      refine ⟨?_, ?_⟩
      · rw [HR.out]; exact ret_bool (by first | (simp [q1]; done) | (simp <;> intros <;> omega))
      · first | exact HB9.out | exact TR.out HW.out HB1.out | (rw [← hW]; exact HW.out)
end Go.Proofs.YtdfambocenohgaaGreatDoor

