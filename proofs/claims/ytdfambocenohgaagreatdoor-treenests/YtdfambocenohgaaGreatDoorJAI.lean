/- tree.isRightDecl. -/
import Derived.Test.YtdfambocenohgaaGreatDoorJAH
namespace Go.Proofs.YtdfambocenohgaaGreatDoor
open Go.RowKit Go.Deep
set_option linter.unusedVariables false
set_option linter.unusedSimpArgs false


set_option maxRecDepth 100000 in
set_option maxHeartbeats 4000000 in
theorem isRightD_Rec (w : World) (h : DH) (d : DHr w h) (hm : MX w) (hk : h.sort = wRec) : Calls Tryz.prog 84 #[.agg #[.string h.sort, .pointer (some ⟨h.b, h.o, none⟩)]] w fun e w' => e = .returned (.bool (rightD h)) ∧ Below w.heap.size w w' := by
  have TR : Hid (∀ {Z x y : World}, Below Z.heap.size Z x → Below x.heap.size x y → Below Z.heap.size Z y) := hid (fun h1 h2 => h1.trans (h2.mono h1.size))
  have hpn : (h.pn : Int) ≤ 1000000 := by have := d.pb; omega
  have cell : ∀ {p : Addr} {v : Value} (o : Obj), w.cell? p = some v → (w.alloc o).cell? p = some v := fun o hc => (((Below.refl w.heap.size w).alloc (Nat.le_refl _) o).cell (World.block_lt_of_cell? w _ hc)).trans hc
  have cell2 : ∀ {p : Addr} {v : Value} (o o' : Obj), w.cell? p = some v → ((w.alloc o).alloc o').cell? p = some v := fun o o' hc => ((((Below.refl w.heap.size w).alloc (Nat.le_refl _) o).alloc (by simp) o').cell (World.block_lt_of_cell? w _ hc)).trans hc
  have A0 := fun o => cell o d.c0
  have C0 := fun o o' => cell2 o o' d.c0
  have C1 := fun o o' => cell2 o o' d.c1
  have C2 := fun o o' => cell2 o o' d.c2
  have C3 := fun o o' => cell2 o o' d.c3
  have C4 := fun o o' => cell2 o o' d.c4
  have C5 := fun o o' => cell2 o o' d.c5
  obtain ⟨X, hX⟩ : ∃ X, X = w.alloc (.cells #[.string ⟨#[114, 101, 99, 111, 114, 100]⟩, .pointer (some ⟨h.b, h.o, none⟩)] 105) := ⟨_, rfl⟩
  obtain ⟨W, hW⟩ : ∃ W, W = (((w.alloc (.cells #[.string ⟨#[114, 101, 99, 111, 114, 100]⟩, .pointer (some ⟨h.b, h.o, none⟩)] 105)).alloc (.cells #[.string h.name, .slice h.pa h.pn h.pc, .string ⟨#[]⟩, .string ⟨#[]⟩, .string ⟨#[]⟩, .slice none 0 0, .int .i64 0] 52)) : World) := ⟨_, rfl⟩
  have hb : W.heap[w.heap.size + 1]? = some (.cells (meantD h).cs 52 (0, 0)) := by
    rw [hW, ← hX]
    have := heap_alloc_new X (.cells #[.string h.name, .slice h.pa h.pn h.pc, .string ⟨#[]⟩, .string ⟨#[]⟩, .string ⟨#[]⟩, .slice none 0 0, .int .i64 0] 52)
    rw [show X.heap.size = w.heap.size + 1 by rw [hX]; simp] at this
    refine this.trans ?_
    simp [meantD, DH.cs, emp, hk, ne_rm, ne_rf, ne_ro]
  have hbw : Below w.heap.size w W := by rw [hW]; exact (((Below.refl _ w).alloc (Nat.le_refl _) _).alloc (by simp) _)
  have hbx : W.heap[w.heap.size]? = some (.cells #[.string ⟨#[114, 101, 99, 111, 114, 100]⟩, .pointer (some ⟨h.b, h.o, none⟩)] 105 (0, 0)) := by
    rw [hW]
    exact (Below.heap_alloc _ _ _ (by simp)).trans (heap_alloc_new w _)
  have KA : Hid (∀ w1 : World, Below W.heap.size W w1 → Calls Tryz.prog 74 #[.pointer (some ⟨h.b, h.o, none⟩), .pointer (some ⟨w.heap.size + 1, 0, none⟩)] w1 fun e w' => e = .returned (.bool (alikeD h (meantD h))) ∧ ∃ m, w' = w1.drewN m) := hid (fun w1 hb1 => by
    have dd := d.below (Nat.le_refl _) (hbw.trans (hb1.mono hbw.size))
    exact alikeD_any w1 h { meantD h with b := w.heap.size + 1, o := 0 } dd (boxD dd ((hb1.block _ (Array.getElem?_eq_some_iff.1 hb).1).trans hb) rfl (by simp [meantD, hk, ne_rm, ne_rf, ne_ro]) (by simp [meantD, hk, ne_rm, ne_rf, ne_ro]) (by simp [meantD, hk, ne_rm, ne_rf, ne_ro]) (by simp [meantD, hk, ne_rm, ne_rf, ne_ro]) (by simp [meantD, hk, ne_rm, ne_rf, ne_ro])))
  have HW := hid hbw
  have K111 : Hid (∀ w1 : World, Below w.heap.size w w1 → Calls Tryz.prog 111 #[.string h.name] w1 fun e w' => e = .returned (.bool (greatB h.name)) ∧ Below w1.heap.size w1 w') := hid (fun w1 hb1 => isGreat_any h.name d.n w1 (hm.below hm.lt hb1))
  have K114 : Hid (∀ w1 : World, Below w.heap.size w w1 → Calls Tryz.prog 114 #[.string h.name] w1 fun e w' => e = .returned (.bool (smallB h.name)) ∧ Below w1.heap.size w1 w') := hid (fun w1 hb1 => isSmall_any h.name d.n w1 (hm.below hm.lt hb1))
  have K115 : Hid (∀ w1 : World, Below w.heap.size w w1 → Calls Tryz.prog 115 #[.string h.key] w1 fun e w' => e = .returned (.bool (keyB h.key)) ∧ Below w1.heap.size w1 w') := hid (fun w1 hb1 => (isKey_any h.key w1).mono (fun e w' ⟨h1, h2⟩ => ⟨h1, h2 ▸ Below.refl _ _⟩))
  have K116v : Hid (∀ w1 : World, Below w.heap.size w w1 → Calls Tryz.prog 116 #[.string h.value] w1 fun e w' => e = .returned (.bool (typB h.value)) ∧ Below w1.heap.size w1 w') := hid (fun w1 hb1 => isType_any h.value d.v w1 (hm.below hm.lt hb1))
  have K116r : Hid (∀ w1 : World, Below w.heap.size w w1 → Calls Tryz.prog 116 #[.string h.result] w1 fun e w' => e = .returned (.bool (typB h.result)) ∧ Below w1.heap.size w1 w') := hid (fun w1 hb1 => isType_any h.result d.r w1 (hm.below hm.lt hb1))
  have K112s : Hid (∀ w1 : World, Below w.heap.size w w1 → Calls Tryz.prog 112 #[.slice h.pa h.pn h.pc, .func (.func 113) #[] #[]] w1 fun e w' => e = .returned (.bool (paramsB simpB h.params)) ∧ Below w1.heap.size w1 w') := hid (fun w1 hb1 => params_any 113 simpB enters113 (fun s w _ _ => (isSimple_any s w).mono (fun e w' ⟨h1, h2⟩ => ⟨h1, h2 ▸ Below.refl _ _⟩)) w1 h.pa h.pn h.pc h.params d.pl d.pb (d.pr.below (Nat.le_refl _) hb1) d.ps (hm.below hm.lt hb1))
  have K112t : Hid (∀ w1 : World, Below w.heap.size w w1 → Calls Tryz.prog 112 #[.slice h.pa h.pn h.pc, .func (.func 116) #[] #[]] w1 fun e w' => e = .returned (.bool (paramsB typB h.params)) ∧ Below w1.heap.size w1 w') := hid (fun w1 hb1 => params_any 116 typB enters116 (fun s w hs hm => isType_any s hs w hm) w1 h.pa h.pn h.pc h.params d.pl d.pb (d.pr.below (Nat.le_refl _) hb1) d.ps (hm.below hm.lt hb1))
  have CB : Hid (∀ w1 : World, Below W.heap.size W w1 → w1.cell? ⟨w.heap.size, 1, none⟩ = some (.pointer (some ⟨h.b, h.o, none⟩)) ∧ w1.cell? ⟨h.b, h.o + 1, none⟩ = some (.slice h.pa h.pn h.pc) ∧ w1.cell? ⟨h.b, h.o + 2, none⟩ = some (.string h.key) ∧ w1.cell? ⟨h.b, h.o + 3, none⟩ = some (.string h.value) ∧ w1.cell? ⟨h.b, h.o + 4, none⟩ = some (.string h.result)) := hid (fun w1 hb1 => by
    have dd := d.below (Nat.le_refl _) (hbw.trans (hb1.mono hbw.size))
    exact ⟨cellT ((hb1.block _ (Array.getElem?_eq_some_iff.1 hbx).1).trans hbx) 1, dd.c1, dd.c2, dd.c3, dd.c4⟩)
  have HR : Hid (rightD h = ((greatB h.name && decide (1 ≤ h.pn) && paramsB simpB h.params) && alikeD h (meantD h))) := hid (by unfold rightD okD; simp [hk, ne_rm, ne_rf, ne_ro])
  have fin : Hid (∀ (w1 : World) (m : Nat), Below w.heap.size w w1 → Below w.heap.size w (w1.drewN m)) := hid (fun w1 m hb => bel_drewN hb m)
  generalize alikeD h (meantD h) = al at *
  generalize rightD h = res at *
  generalize greatB h.name = gr at *
  generalize smallB h.name = sm at *
  generalize keyB h.key = ky at *
  generalize typB h.value = tv at *
  generalize typB h.result = tr at *
  generalize paramsB simpB h.params = ps at *
  generalize paramsB typB h.params = pt at *
  clear d hm hb hbx hbw cell cell2 hX
  obtain ⟨sort, b, o, name, pa, pn, pc, key, value, result, ba, bn, bc, pos, params⟩ := h
  simp only at A0 C0 C1 C2 C3 C4 C5 hW KA K111 K114 K115 K116v K116r K112s K112t CB HR hk hpn ⊢
  subst hk
  unfold wRec
  cases gr
  case false =>
    go_enter Tryz.func84, Tryz.ntmps84
    go_wp2_with (first
      | (go_at_call 112; (have hno := HB1; refine (K112s.out w1 (TR.out HW.out HB1.out)).mono ?_; rintro e w2 ⟨rfl, hb⟩; have HB2 := hid (TR.out HB1.out hb); have nn2 := CB.out w2 HB2.out; obtain ⟨n20, n21, n22, n23, n24⟩ := nn2; clear hb))
      | (go_at_call 111; (rw [← hW]; clear hW; refine (K111.out W HW.out).mono ?_; rintro e w1 ⟨rfl, hb⟩; have HB1 := hid hb; have nn1 := CB.out w1 HB1.out; obtain ⟨n10, n11, n12, n13, n14⟩ := nn1; clear hb))
      | (go_at_call 74; (refine (KA.out w2 HB2.out).mono ?_; rintro e w9 ⟨rfl, m, rfl⟩; have HB9 := hid (fin.out w2 m (TR.out HW.out HB2.out)))))
    go_ret
    refine ⟨?_, ?_⟩
    · rw [HR.out]; exact ret_bool (by first | (simp; done) | (simp <;> intros <;> omega))
    · first | exact HB9.out | exact TR.out HW.out HB2.out | exact TR.out HW.out HB1.out
  case true =>
    by_cases q2 : 1 ≤ pn
    case pos =>
      have q2' : (1 : Int) ≤ (pn : Int) := by omega
      cases ps
      case false =>
        go_enter Tryz.func84, Tryz.ntmps84
        go_wp2_with (first
          | (go_at_call 112; (have hno := HB1; refine (K112s.out w1 (TR.out HW.out HB1.out)).mono ?_; rintro e w2 ⟨rfl, hb⟩; have HB2 := hid (TR.out HB1.out hb); have nn2 := CB.out w2 HB2.out; obtain ⟨n20, n21, n22, n23, n24⟩ := nn2; clear hb))
          | (go_at_call 111; (rw [← hW]; clear hW; refine (K111.out W HW.out).mono ?_; rintro e w1 ⟨rfl, hb⟩; have HB1 := hid hb; have nn1 := CB.out w1 HB1.out; obtain ⟨n10, n11, n12, n13, n14⟩ := nn1; clear hb))
          | (go_at_call 74; (refine (KA.out w2 HB2.out).mono ?_; rintro e w9 ⟨rfl, m, rfl⟩; have HB9 := hid (fin.out w2 m (TR.out HW.out HB2.out)))))
        go_ret
        refine ⟨?_, ?_⟩
        · rw [HR.out]; exact ret_bool (by first | (simp [q2]; done) | (simp <;> intros <;> omega))
        · first | exact HB9.out | exact TR.out HW.out HB2.out | exact TR.out HW.out HB1.out
      case true =>
        go_enter Tryz.func84, Tryz.ntmps84
        go_wp2_with (first
          | (go_at_call 112; (have hno := HB1; refine (K112s.out w1 (TR.out HW.out HB1.out)).mono ?_; rintro e w2 ⟨rfl, hb⟩; have HB2 := hid (TR.out HB1.out hb); have nn2 := CB.out w2 HB2.out; obtain ⟨n20, n21, n22, n23, n24⟩ := nn2; clear hb))
          | (go_at_call 111; (rw [← hW]; clear hW; refine (K111.out W HW.out).mono ?_; rintro e w1 ⟨rfl, hb⟩; have HB1 := hid hb; have nn1 := CB.out w1 HB1.out; obtain ⟨n10, n11, n12, n13, n14⟩ := nn1; clear hb))
          | (go_at_call 74; (refine (KA.out w2 HB2.out).mono ?_; rintro e w9 ⟨rfl, m, rfl⟩; have HB9 := hid (fin.out w2 m (TR.out HW.out HB2.out)))))
        go_ret
        refine ⟨?_, ?_⟩
        · rw [HR.out]; exact ret_bool (by first | (simp [q2]; done) | (simp <;> intros <;> omega))
        · first | exact HB9.out | exact TR.out HW.out HB2.out | exact TR.out HW.out HB1.out
    case neg =>
      have q2' : ¬ (1 : Int) ≤ (pn : Int) := by omega
      go_enter Tryz.func84, Tryz.ntmps84
      go_wp2_with (first
        | (go_at_call 112; (have hno := HB1; refine (K112s.out w1 (TR.out HW.out HB1.out)).mono ?_; rintro e w2 ⟨rfl, hb⟩; have HB2 := hid (TR.out HB1.out hb); have nn2 := CB.out w2 HB2.out; obtain ⟨n20, n21, n22, n23, n24⟩ := nn2; clear hb))
        | (go_at_call 111; (rw [← hW]; clear hW; refine (K111.out W HW.out).mono ?_; rintro e w1 ⟨rfl, hb⟩; have HB1 := hid hb; have nn1 := CB.out w1 HB1.out; obtain ⟨n10, n11, n12, n13, n14⟩ := nn1; clear hb))
        | (go_at_call 74; (refine (KA.out w2 HB2.out).mono ?_; rintro e w9 ⟨rfl, m, rfl⟩; have HB9 := hid (fin.out w2 m (TR.out HW.out HB2.out)))))
      go_ret
      refine ⟨?_, ?_⟩
      · rw [HR.out]; exact ret_bool (by first | (simp [q2]; done) | (simp <;> intros <;> omega))
      · first | exact HB9.out | exact TR.out HW.out HB2.out | exact TR.out HW.out HB1.out

set_option maxRecDepth 100000 in
set_option maxHeartbeats 4000000 in
theorem isRightD_Map (w : World) (h : DH) (d : DHr w h) (hm : MX w) (hk : h.sort = wMap) : Calls Tryz.prog 84 #[.agg #[.string h.sort, .pointer (some ⟨h.b, h.o, none⟩)]] w fun e w' => e = .returned (.bool (rightD h)) ∧ Below w.heap.size w w' := by
  have TR : Hid (∀ {Z x y : World}, Below Z.heap.size Z x → Below x.heap.size x y → Below Z.heap.size Z y) := hid (fun h1 h2 => h1.trans (h2.mono h1.size))
  have hpn : (h.pn : Int) ≤ 1000000 := by have := d.pb; omega
  have cell : ∀ {p : Addr} {v : Value} (o : Obj), w.cell? p = some v → (w.alloc o).cell? p = some v := fun o hc => (((Below.refl w.heap.size w).alloc (Nat.le_refl _) o).cell (World.block_lt_of_cell? w _ hc)).trans hc
  have cell2 : ∀ {p : Addr} {v : Value} (o o' : Obj), w.cell? p = some v → ((w.alloc o).alloc o').cell? p = some v := fun o o' hc => ((((Below.refl w.heap.size w).alloc (Nat.le_refl _) o).alloc (by simp) o').cell (World.block_lt_of_cell? w _ hc)).trans hc
  have A0 := fun o => cell o d.c0
  have C0 := fun o o' => cell2 o o' d.c0
  have C1 := fun o o' => cell2 o o' d.c1
  have C2 := fun o o' => cell2 o o' d.c2
  have C3 := fun o o' => cell2 o o' d.c3
  have C4 := fun o o' => cell2 o o' d.c4
  have C5 := fun o o' => cell2 o o' d.c5
  obtain ⟨X, hX⟩ : ∃ X, X = w.alloc (.cells #[.string ⟨#[109, 97, 112]⟩, .pointer (some ⟨h.b, h.o, none⟩)] 105) := ⟨_, rfl⟩
  obtain ⟨W, hW⟩ : ∃ W, W = (((w.alloc (.cells #[.string ⟨#[109, 97, 112]⟩, .pointer (some ⟨h.b, h.o, none⟩)] 105)).alloc (.cells #[.string h.name, .slice none 0 0, .string h.key, .string h.value, .string ⟨#[]⟩, .slice none 0 0, .int .i64 0] 52)).drew : World) := ⟨_, rfl⟩
  have hb : W.heap[w.heap.size + 1]? = some (.cells (meantD h).cs 52 (0, 0)) := by
    rw [hW, ← hX]
    have := heap_alloc_new X (.cells #[.string h.name, .slice none 0 0, .string h.key, .string h.value, .string ⟨#[]⟩, .slice none 0 0, .int .i64 0] 52)
    rw [show X.heap.size = w.heap.size + 1 by rw [hX]; simp] at this
    refine this.trans ?_
    simp [meantD, DH.cs, emp, hk, ne_mr, ne_mf, ne_mo]
  have hbw : Below w.heap.size w W := by rw [hW]; exact (((Below.refl _ w).alloc (Nat.le_refl _) _).alloc (by simp) _).drew
  have hbx : W.heap[w.heap.size]? = some (.cells #[.string ⟨#[109, 97, 112]⟩, .pointer (some ⟨h.b, h.o, none⟩)] 105 (0, 0)) := by
    rw [hW]
    exact (Below.heap_alloc _ _ _ (by simp)).trans (heap_alloc_new w _)
  have KA : Hid (∀ w1 : World, Below W.heap.size W w1 → Calls Tryz.prog 74 #[.pointer (some ⟨h.b, h.o, none⟩), .pointer (some ⟨w.heap.size + 1, 0, none⟩)] w1 fun e w' => e = .returned (.bool (alikeD h (meantD h))) ∧ ∃ m, w' = w1.drewN m) := hid (fun w1 hb1 => by
    have dd := d.below (Nat.le_refl _) (hbw.trans (hb1.mono hbw.size))
    exact alikeD_any w1 h { meantD h with b := w.heap.size + 1, o := 0 } dd (boxD dd ((hb1.block _ (Array.getElem?_eq_some_iff.1 hb).1).trans hb) rfl (by simp [meantD, hk, ne_mr, ne_mf, ne_mo]) (by simp [meantD, hk, ne_mr, ne_mf, ne_mo]) (by simp [meantD, hk, ne_mr, ne_mf, ne_mo]) (by simp [meantD, hk, ne_mr, ne_mf, ne_mo]) (by simp [meantD, hk, ne_mr, ne_mf, ne_mo])))
  have HW := hid hbw
  have K111 : Hid (∀ w1 : World, Below w.heap.size w w1 → Calls Tryz.prog 111 #[.string h.name] w1 fun e w' => e = .returned (.bool (greatB h.name)) ∧ Below w1.heap.size w1 w') := hid (fun w1 hb1 => isGreat_any h.name d.n w1 (hm.below hm.lt hb1))
  have K114 : Hid (∀ w1 : World, Below w.heap.size w w1 → Calls Tryz.prog 114 #[.string h.name] w1 fun e w' => e = .returned (.bool (smallB h.name)) ∧ Below w1.heap.size w1 w') := hid (fun w1 hb1 => isSmall_any h.name d.n w1 (hm.below hm.lt hb1))
  have K115 : Hid (∀ w1 : World, Below w.heap.size w w1 → Calls Tryz.prog 115 #[.string h.key] w1 fun e w' => e = .returned (.bool (keyB h.key)) ∧ Below w1.heap.size w1 w') := hid (fun w1 hb1 => (isKey_any h.key w1).mono (fun e w' ⟨h1, h2⟩ => ⟨h1, h2 ▸ Below.refl _ _⟩))
  have K116v : Hid (∀ w1 : World, Below w.heap.size w w1 → Calls Tryz.prog 116 #[.string h.value] w1 fun e w' => e = .returned (.bool (typB h.value)) ∧ Below w1.heap.size w1 w') := hid (fun w1 hb1 => isType_any h.value d.v w1 (hm.below hm.lt hb1))
  have K116r : Hid (∀ w1 : World, Below w.heap.size w w1 → Calls Tryz.prog 116 #[.string h.result] w1 fun e w' => e = .returned (.bool (typB h.result)) ∧ Below w1.heap.size w1 w') := hid (fun w1 hb1 => isType_any h.result d.r w1 (hm.below hm.lt hb1))
  have K112s : Hid (∀ w1 : World, Below w.heap.size w w1 → Calls Tryz.prog 112 #[.slice h.pa h.pn h.pc, .func (.func 113) #[] #[]] w1 fun e w' => e = .returned (.bool (paramsB simpB h.params)) ∧ Below w1.heap.size w1 w') := hid (fun w1 hb1 => params_any 113 simpB enters113 (fun s w _ _ => (isSimple_any s w).mono (fun e w' ⟨h1, h2⟩ => ⟨h1, h2 ▸ Below.refl _ _⟩)) w1 h.pa h.pn h.pc h.params d.pl d.pb (d.pr.below (Nat.le_refl _) hb1) d.ps (hm.below hm.lt hb1))
  have K112t : Hid (∀ w1 : World, Below w.heap.size w w1 → Calls Tryz.prog 112 #[.slice h.pa h.pn h.pc, .func (.func 116) #[] #[]] w1 fun e w' => e = .returned (.bool (paramsB typB h.params)) ∧ Below w1.heap.size w1 w') := hid (fun w1 hb1 => params_any 116 typB enters116 (fun s w hs hm => isType_any s hs w hm) w1 h.pa h.pn h.pc h.params d.pl d.pb (d.pr.below (Nat.le_refl _) hb1) d.ps (hm.below hm.lt hb1))
  have CB : Hid (∀ w1 : World, Below W.heap.size W w1 → w1.cell? ⟨w.heap.size, 1, none⟩ = some (.pointer (some ⟨h.b, h.o, none⟩)) ∧ w1.cell? ⟨h.b, h.o + 1, none⟩ = some (.slice h.pa h.pn h.pc) ∧ w1.cell? ⟨h.b, h.o + 2, none⟩ = some (.string h.key) ∧ w1.cell? ⟨h.b, h.o + 3, none⟩ = some (.string h.value) ∧ w1.cell? ⟨h.b, h.o + 4, none⟩ = some (.string h.result)) := hid (fun w1 hb1 => by
    have dd := d.below (Nat.le_refl _) (hbw.trans (hb1.mono hbw.size))
    exact ⟨cellT ((hb1.block _ (Array.getElem?_eq_some_iff.1 hbx).1).trans hbx) 1, dd.c1, dd.c2, dd.c3, dd.c4⟩)
  have HR : Hid (rightD h = ((smallB h.name && keyB h.key && typB h.value) && alikeD h (meantD h))) := hid (by unfold rightD okD; simp [hk, ne_mr, ne_mf, ne_mo])
  have fin : Hid (∀ (w1 : World) (m : Nat), Below w.heap.size w w1 → Below w.heap.size w (w1.drewN m)) := hid (fun w1 m hb => bel_drewN hb m)
  generalize alikeD h (meantD h) = al at *
  generalize rightD h = res at *
  generalize greatB h.name = gr at *
  generalize smallB h.name = sm at *
  generalize keyB h.key = ky at *
  generalize typB h.value = tv at *
  generalize typB h.result = tr at *
  generalize paramsB simpB h.params = ps at *
  generalize paramsB typB h.params = pt at *
  clear d hm hb hbx hbw cell cell2 hX
  obtain ⟨sort, b, o, name, pa, pn, pc, key, value, result, ba, bn, bc, pos, params⟩ := h
  simp only at A0 C0 C1 C2 C3 C4 C5 hW KA K111 K114 K115 K116v K116r K112s K112t CB HR hk hpn ⊢
  subst hk
  unfold wMap
  cases sm
  case false =>
    go_enter Tryz.func84, Tryz.ntmps84
    go_wp2
    go_region_held3 (fun w2 => w2.cell? ⟨w.heap.size, 1, none⟩ = some (.pointer (some ⟨b, o, none⟩)) ∧ w2.cell? ⟨b, o + 2, none⟩ = some (.string key) ∧ w2.cell? ⟨b, o + 3, none⟩ = some (.string value)) (first | go_keep) (fail)
    go_wp2_with (first
      | (go_at_call 116; (have hno := HB2; refine (K116v.out w2 (TR.out HW.out HB2.out)).mono ?_; rintro e w3 ⟨rfl, hb⟩; have HB3 := hid (TR.out HB2.out hb); have nn3 := CB.out w3 HB3.out; obtain ⟨n30, n31, n32, n33, n34⟩ := nn3; clear hb))
      | (go_at_call 115; (have hno := HB1; refine (K115.out w1 (TR.out HW.out HB1.out)).mono ?_; rintro e w2 ⟨rfl, hb⟩; have HB2 := hid (TR.out HB1.out hb); have nn2 := CB.out w2 HB2.out; obtain ⟨n20, n21, n22, n23, n24⟩ := nn2; clear hb))
      | (go_at_call 114; (rw [← hW]; clear hW; refine (K114.out W HW.out).mono ?_; rintro e w1 ⟨rfl, hb⟩; have HB1 := hid hb; have nn1 := CB.out w1 HB1.out; obtain ⟨n10, n11, n12, n13, n14⟩ := nn1; clear hb))
      | (go_at_call 74; (refine (KA.out w3 HB3.out).mono ?_; rintro e w9 ⟨rfl, m, rfl⟩; have HB9 := hid (fin.out w3 m (TR.out HW.out HB3.out)))))
    go_ret
    refine ⟨?_, ?_⟩
    · rw [HR.out]; exact ret_bool (by first | (simp; done) | (simp <;> intros <;> omega))
    · first | exact HB9.out | exact TR.out HW.out HB3.out | exact TR.out HW.out HB2.out | exact TR.out HW.out HB1.out
  case true =>
    cases ky
    case false =>
      go_enter Tryz.func84, Tryz.ntmps84
      go_wp2
      go_region_held3 (fun w2 => w2.cell? ⟨w.heap.size, 1, none⟩ = some (.pointer (some ⟨b, o, none⟩)) ∧ w2.cell? ⟨b, o + 2, none⟩ = some (.string key) ∧ w2.cell? ⟨b, o + 3, none⟩ = some (.string value)) (first | go_keep) (fail)
      go_wp2_with (first
        | (go_at_call 116; (have hno := HB2; refine (K116v.out w2 (TR.out HW.out HB2.out)).mono ?_; rintro e w3 ⟨rfl, hb⟩; have HB3 := hid (TR.out HB2.out hb); have nn3 := CB.out w3 HB3.out; obtain ⟨n30, n31, n32, n33, n34⟩ := nn3; clear hb))
        | (go_at_call 115; (have hno := HB1; refine (K115.out w1 (TR.out HW.out HB1.out)).mono ?_; rintro e w2 ⟨rfl, hb⟩; have HB2 := hid (TR.out HB1.out hb); have nn2 := CB.out w2 HB2.out; obtain ⟨n20, n21, n22, n23, n24⟩ := nn2; clear hb))
        | (go_at_call 114; (rw [← hW]; clear hW; refine (K114.out W HW.out).mono ?_; rintro e w1 ⟨rfl, hb⟩; have HB1 := hid hb; have nn1 := CB.out w1 HB1.out; obtain ⟨n10, n11, n12, n13, n14⟩ := nn1; clear hb))
        | (go_at_call 74; (refine (KA.out w3 HB3.out).mono ?_; rintro e w9 ⟨rfl, m, rfl⟩; have HB9 := hid (fin.out w3 m (TR.out HW.out HB3.out)))))
      go_ret
      refine ⟨?_, ?_⟩
      · rw [HR.out]; exact ret_bool (by first | (simp; done) | (simp <;> intros <;> omega))
      · first | exact HB9.out | exact TR.out HW.out HB3.out | exact TR.out HW.out HB2.out | exact TR.out HW.out HB1.out
    case true =>
      cases tv
      case false =>
        go_enter Tryz.func84, Tryz.ntmps84
        go_wp2
        go_region_held3 (fun w2 => w2.cell? ⟨w.heap.size, 1, none⟩ = some (.pointer (some ⟨b, o, none⟩)) ∧ w2.cell? ⟨b, o + 2, none⟩ = some (.string key) ∧ w2.cell? ⟨b, o + 3, none⟩ = some (.string value)) (first | go_keep) (fail)
        go_wp2_with (first
          | (go_at_call 116; (have hno := HB2; refine (K116v.out w2 (TR.out HW.out HB2.out)).mono ?_; rintro e w3 ⟨rfl, hb⟩; have HB3 := hid (TR.out HB2.out hb); have nn3 := CB.out w3 HB3.out; obtain ⟨n30, n31, n32, n33, n34⟩ := nn3; clear hb))
          | (go_at_call 115; (have hno := HB1; refine (K115.out w1 (TR.out HW.out HB1.out)).mono ?_; rintro e w2 ⟨rfl, hb⟩; have HB2 := hid (TR.out HB1.out hb); have nn2 := CB.out w2 HB2.out; obtain ⟨n20, n21, n22, n23, n24⟩ := nn2; clear hb))
          | (go_at_call 114; (rw [← hW]; clear hW; refine (K114.out W HW.out).mono ?_; rintro e w1 ⟨rfl, hb⟩; have HB1 := hid hb; have nn1 := CB.out w1 HB1.out; obtain ⟨n10, n11, n12, n13, n14⟩ := nn1; clear hb))
          | (go_at_call 74; (refine (KA.out w3 HB3.out).mono ?_; rintro e w9 ⟨rfl, m, rfl⟩; have HB9 := hid (fin.out w3 m (TR.out HW.out HB3.out)))))
        go_ret
        refine ⟨?_, ?_⟩
        · rw [HR.out]; exact ret_bool (by first | (simp; done) | (simp <;> intros <;> omega))
        · first | exact HB9.out | exact TR.out HW.out HB3.out | exact TR.out HW.out HB2.out | exact TR.out HW.out HB1.out
      case true =>
        go_enter Tryz.func84, Tryz.ntmps84
        go_wp2
        go_region_held3 (fun w2 => w2.cell? ⟨w.heap.size, 1, none⟩ = some (.pointer (some ⟨b, o, none⟩)) ∧ w2.cell? ⟨b, o + 2, none⟩ = some (.string key) ∧ w2.cell? ⟨b, o + 3, none⟩ = some (.string value)) (first | go_keep) (fail)
        go_wp2_with (first
          | (go_at_call 116; (have hno := HB2; refine (K116v.out w2 (TR.out HW.out HB2.out)).mono ?_; rintro e w3 ⟨rfl, hb⟩; have HB3 := hid (TR.out HB2.out hb); have nn3 := CB.out w3 HB3.out; obtain ⟨n30, n31, n32, n33, n34⟩ := nn3; clear hb))
          | (go_at_call 115; (have hno := HB1; refine (K115.out w1 (TR.out HW.out HB1.out)).mono ?_; rintro e w2 ⟨rfl, hb⟩; have HB2 := hid (TR.out HB1.out hb); have nn2 := CB.out w2 HB2.out; obtain ⟨n20, n21, n22, n23, n24⟩ := nn2; clear hb))
          | (go_at_call 114; (rw [← hW]; clear hW; refine (K114.out W HW.out).mono ?_; rintro e w1 ⟨rfl, hb⟩; have HB1 := hid hb; have nn1 := CB.out w1 HB1.out; obtain ⟨n10, n11, n12, n13, n14⟩ := nn1; clear hb))
          | (go_at_call 74; (refine (KA.out w3 HB3.out).mono ?_; rintro e w9 ⟨rfl, m, rfl⟩; have HB9 := hid (fin.out w3 m (TR.out HW.out HB3.out)))))
        go_ret
        refine ⟨?_, ?_⟩
        · rw [HR.out]; exact ret_bool (by first | (simp; done) | (simp <;> intros <;> omega))
        · first | exact HB9.out | exact TR.out HW.out HB3.out | exact TR.out HW.out HB2.out | exact TR.out HW.out HB1.out
end Go.Proofs.YtdfambocenohgaaGreatDoor

namespace Go.Proofs.YtdfambocenohgaaGreatDoor
open Go.RowKit Go.Deep
set_option linter.unusedVariables false
set_option linter.unusedSimpArgs false


set_option maxRecDepth 100000 in
set_option maxHeartbeats 4000000 in
theorem isRightD_Fn (w : World) (h : DH) (d : DHr w h) (hm : MX w) (hk : h.sort = wFn) : Calls Tryz.prog 84 #[.agg #[.string h.sort, .pointer (some ⟨h.b, h.o, none⟩)]] w fun e w' => e = .returned (.bool (rightD h)) ∧ Below w.heap.size w w' := by
  have TR : Hid (∀ {Z x y : World}, Below Z.heap.size Z x → Below x.heap.size x y → Below Z.heap.size Z y) := hid (fun h1 h2 => h1.trans (h2.mono h1.size))
  have hpn : (h.pn : Int) ≤ 1000000 := by have := d.pb; omega
  have cell : ∀ {p : Addr} {v : Value} (o : Obj), w.cell? p = some v → (w.alloc o).cell? p = some v := fun o hc => (((Below.refl w.heap.size w).alloc (Nat.le_refl _) o).cell (World.block_lt_of_cell? w _ hc)).trans hc
  have cell2 : ∀ {p : Addr} {v : Value} (o o' : Obj), w.cell? p = some v → ((w.alloc o).alloc o').cell? p = some v := fun o o' hc => ((((Below.refl w.heap.size w).alloc (Nat.le_refl _) o).alloc (by simp) o').cell (World.block_lt_of_cell? w _ hc)).trans hc
  have A0 := fun o => cell o d.c0
  have C0 := fun o o' => cell2 o o' d.c0
  have C1 := fun o o' => cell2 o o' d.c1
  have C2 := fun o o' => cell2 o o' d.c2
  have C3 := fun o o' => cell2 o o' d.c3
  have C4 := fun o o' => cell2 o o' d.c4
  have C5 := fun o o' => cell2 o o' d.c5
  obtain ⟨X, hX⟩ : ∃ X, X = w.alloc (.cells #[.string ⟨#[102, 110]⟩, .pointer (some ⟨h.b, h.o, none⟩)] 105) := ⟨_, rfl⟩
  obtain ⟨W, hW⟩ : ∃ W, W = (((w.alloc (.cells #[.string ⟨#[102, 110]⟩, .pointer (some ⟨h.b, h.o, none⟩)] 105)).alloc (.cells #[.string h.name, .slice h.pa h.pn h.pc, .string ⟨#[]⟩, .string ⟨#[]⟩, .string h.result, .slice h.ba h.bn h.bc, .int .i64 0] 52)).drew : World) := ⟨_, rfl⟩
  have hb : W.heap[w.heap.size + 1]? = some (.cells (meantD h).cs 52 (0, 0)) := by
    rw [hW, ← hX]
    have := heap_alloc_new X (.cells #[.string h.name, .slice h.pa h.pn h.pc, .string ⟨#[]⟩, .string ⟨#[]⟩, .string h.result, .slice h.ba h.bn h.bc, .int .i64 0] 52)
    rw [show X.heap.size = w.heap.size + 1 by rw [hX]; simp] at this
    refine this.trans ?_
    simp [meantD, DH.cs, emp, hk, ne_fr, ne_fm, ne_fo]
  have hbw : Below w.heap.size w W := by rw [hW]; exact (((Below.refl _ w).alloc (Nat.le_refl _) _).alloc (by simp) _).drew
  have hbx : W.heap[w.heap.size]? = some (.cells #[.string ⟨#[102, 110]⟩, .pointer (some ⟨h.b, h.o, none⟩)] 105 (0, 0)) := by
    rw [hW]
    exact (Below.heap_alloc _ _ _ (by simp)).trans (heap_alloc_new w _)
  have KA : Hid (∀ w1 : World, Below W.heap.size W w1 → Calls Tryz.prog 74 #[.pointer (some ⟨h.b, h.o, none⟩), .pointer (some ⟨w.heap.size + 1, 0, none⟩)] w1 fun e w' => e = .returned (.bool (alikeD h (meantD h))) ∧ ∃ m, w' = w1.drewN m) := hid (fun w1 hb1 => by
    have dd := d.below (Nat.le_refl _) (hbw.trans (hb1.mono hbw.size))
    exact alikeD_any w1 h { meantD h with b := w.heap.size + 1, o := 0 } dd (boxD dd ((hb1.block _ (Array.getElem?_eq_some_iff.1 hb).1).trans hb) rfl (by simp [meantD, hk, ne_fr, ne_fm, ne_fo]) (by simp [meantD, hk, ne_fr, ne_fm, ne_fo]) (by simp [meantD, hk, ne_fr, ne_fm, ne_fo]) (by simp [meantD, hk, ne_fr, ne_fm, ne_fo]) (by simp [meantD, hk, ne_fr, ne_fm, ne_fo])))
  have HW := hid hbw
  have K111 : Hid (∀ w1 : World, Below w.heap.size w w1 → Calls Tryz.prog 111 #[.string h.name] w1 fun e w' => e = .returned (.bool (greatB h.name)) ∧ Below w1.heap.size w1 w') := hid (fun w1 hb1 => isGreat_any h.name d.n w1 (hm.below hm.lt hb1))
  have K114 : Hid (∀ w1 : World, Below w.heap.size w w1 → Calls Tryz.prog 114 #[.string h.name] w1 fun e w' => e = .returned (.bool (smallB h.name)) ∧ Below w1.heap.size w1 w') := hid (fun w1 hb1 => isSmall_any h.name d.n w1 (hm.below hm.lt hb1))
  have K115 : Hid (∀ w1 : World, Below w.heap.size w w1 → Calls Tryz.prog 115 #[.string h.key] w1 fun e w' => e = .returned (.bool (keyB h.key)) ∧ Below w1.heap.size w1 w') := hid (fun w1 hb1 => (isKey_any h.key w1).mono (fun e w' ⟨h1, h2⟩ => ⟨h1, h2 ▸ Below.refl _ _⟩))
  have K116v : Hid (∀ w1 : World, Below w.heap.size w w1 → Calls Tryz.prog 116 #[.string h.value] w1 fun e w' => e = .returned (.bool (typB h.value)) ∧ Below w1.heap.size w1 w') := hid (fun w1 hb1 => isType_any h.value d.v w1 (hm.below hm.lt hb1))
  have K116r : Hid (∀ w1 : World, Below w.heap.size w w1 → Calls Tryz.prog 116 #[.string h.result] w1 fun e w' => e = .returned (.bool (typB h.result)) ∧ Below w1.heap.size w1 w') := hid (fun w1 hb1 => isType_any h.result d.r w1 (hm.below hm.lt hb1))
  have K112s : Hid (∀ w1 : World, Below w.heap.size w w1 → Calls Tryz.prog 112 #[.slice h.pa h.pn h.pc, .func (.func 113) #[] #[]] w1 fun e w' => e = .returned (.bool (paramsB simpB h.params)) ∧ Below w1.heap.size w1 w') := hid (fun w1 hb1 => params_any 113 simpB enters113 (fun s w _ _ => (isSimple_any s w).mono (fun e w' ⟨h1, h2⟩ => ⟨h1, h2 ▸ Below.refl _ _⟩)) w1 h.pa h.pn h.pc h.params d.pl d.pb (d.pr.below (Nat.le_refl _) hb1) d.ps (hm.below hm.lt hb1))
  have K112t : Hid (∀ w1 : World, Below w.heap.size w w1 → Calls Tryz.prog 112 #[.slice h.pa h.pn h.pc, .func (.func 116) #[] #[]] w1 fun e w' => e = .returned (.bool (paramsB typB h.params)) ∧ Below w1.heap.size w1 w') := hid (fun w1 hb1 => params_any 116 typB enters116 (fun s w hs hm => isType_any s hs w hm) w1 h.pa h.pn h.pc h.params d.pl d.pb (d.pr.below (Nat.le_refl _) hb1) d.ps (hm.below hm.lt hb1))
  have CB : Hid (∀ w1 : World, Below W.heap.size W w1 → w1.cell? ⟨w.heap.size, 1, none⟩ = some (.pointer (some ⟨h.b, h.o, none⟩)) ∧ w1.cell? ⟨h.b, h.o + 1, none⟩ = some (.slice h.pa h.pn h.pc) ∧ w1.cell? ⟨h.b, h.o + 2, none⟩ = some (.string h.key) ∧ w1.cell? ⟨h.b, h.o + 3, none⟩ = some (.string h.value) ∧ w1.cell? ⟨h.b, h.o + 4, none⟩ = some (.string h.result)) := hid (fun w1 hb1 => by
    have dd := d.below (Nat.le_refl _) (hbw.trans (hb1.mono hbw.size))
    exact ⟨cellT ((hb1.block _ (Array.getElem?_eq_some_iff.1 hbx).1).trans hbx) 1, dd.c1, dd.c2, dd.c3, dd.c4⟩)
  have HR : Hid (rightD h = ((smallB h.name && paramsB typB h.params && (h.result.toList.isEmpty || typB h.result)) && alikeD h (meantD h))) := hid (by unfold rightD okD; simp [hk, ne_fr, ne_fm, ne_fo])
  have fin : Hid (∀ (w1 : World) (m : Nat), Below w.heap.size w w1 → Below w.heap.size w (w1.drewN m)) := hid (fun w1 m hb => bel_drewN hb m)
  generalize alikeD h (meantD h) = al at *
  generalize rightD h = res at *
  generalize greatB h.name = gr at *
  generalize smallB h.name = sm at *
  generalize keyB h.key = ky at *
  generalize typB h.value = tv at *
  generalize typB h.result = tr at *
  generalize paramsB simpB h.params = ps at *
  generalize paramsB typB h.params = pt at *
  clear d hm hb hbx hbw cell cell2 hX
  obtain ⟨sort, b, o, name, pa, pn, pc, key, value, result, ba, bn, bc, pos, params⟩ := h
  simp only at A0 C0 C1 C2 C3 C4 C5 hW KA K111 K114 K115 K116v K116r K112s K112t CB HR hk hpn ⊢
  subst hk
  unfold wFn
  cases sm
  case false =>
    go_enter Tryz.func84, Tryz.ntmps84
    go_wp2
    go_region_held3 (fun w2 => w2.cell? ⟨w.heap.size, 1, none⟩ = some (.pointer (some ⟨b, o, none⟩)) ∧ w2.cell? ⟨b, o + 1, none⟩ = some (.slice pa pn pc) ∧ w2.cell? ⟨b, o + 4, none⟩ = some (.string result) ∧ w2.cell? ⟨b, o + 5, none⟩ = some (.slice ba bn bc)) (first | go_keep) (fail)
    go_wp2_with (first
      | (go_at_call 112; (have hno := HB1; refine (K112t.out w1 (TR.out HW.out HB1.out)).mono ?_; rintro e w2 ⟨rfl, hb⟩; have HB2 := hid (TR.out HB1.out hb); have nn2 := CB.out w2 HB2.out; obtain ⟨n20, n21, n22, n23, n24⟩ := nn2; clear hb))
      | (go_at_call 114; (rw [← hW]; clear hW; refine (K114.out W HW.out).mono ?_; rintro e w1 ⟨rfl, hb⟩; have HB1 := hid hb; have nn1 := CB.out w1 HB1.out; obtain ⟨n10, n11, n12, n13, n14⟩ := nn1; clear hb))
      | (go_at_call 74; (refine (KA.out w2 HB2.out).mono ?_; rintro e w9 ⟨rfl, m, rfl⟩; have HB9 := hid (fin.out w2 m (TR.out HW.out HB2.out)))))
    go_ret
    refine ⟨?_, ?_⟩
    · rw [HR.out]; exact ret_bool (by first | (simp; done) | (simp <;> intros <;> omega))
    · first | exact HB9.out | exact TR.out HW.out HB2.out | exact TR.out HW.out HB1.out
  case true =>
    cases pt
    case false =>
      go_enter Tryz.func84, Tryz.ntmps84
      go_wp2
      go_region_held3 (fun w2 => w2.cell? ⟨w.heap.size, 1, none⟩ = some (.pointer (some ⟨b, o, none⟩)) ∧ w2.cell? ⟨b, o + 1, none⟩ = some (.slice pa pn pc) ∧ w2.cell? ⟨b, o + 4, none⟩ = some (.string result) ∧ w2.cell? ⟨b, o + 5, none⟩ = some (.slice ba bn bc)) (first | go_keep) (fail)
      go_wp2_with (first
        | (go_at_call 112; (have hno := HB1; refine (K112t.out w1 (TR.out HW.out HB1.out)).mono ?_; rintro e w2 ⟨rfl, hb⟩; have HB2 := hid (TR.out HB1.out hb); have nn2 := CB.out w2 HB2.out; obtain ⟨n20, n21, n22, n23, n24⟩ := nn2; clear hb))
        | (go_at_call 114; (rw [← hW]; clear hW; refine (K114.out W HW.out).mono ?_; rintro e w1 ⟨rfl, hb⟩; have HB1 := hid hb; have nn1 := CB.out w1 HB1.out; obtain ⟨n10, n11, n12, n13, n14⟩ := nn1; clear hb))
        | (go_at_call 74; (refine (KA.out w2 HB2.out).mono ?_; rintro e w9 ⟨rfl, m, rfl⟩; have HB9 := hid (fin.out w2 m (TR.out HW.out HB2.out)))))
      go_ret
      refine ⟨?_, ?_⟩
      · rw [HR.out]; exact ret_bool (by first | (simp; done) | (simp <;> intros <;> omega))
      · first | exact HB9.out | exact TR.out HW.out HB2.out | exact TR.out HW.out HB1.out
    case true =>
      by_cases q2 : result.toList = []
      case pos =>
        go_enter Tryz.func84, Tryz.ntmps84
        go_wp2
        go_region_held3 (fun w2 => w2.cell? ⟨w.heap.size, 1, none⟩ = some (.pointer (some ⟨b, o, none⟩)) ∧ w2.cell? ⟨b, o + 1, none⟩ = some (.slice pa pn pc) ∧ w2.cell? ⟨b, o + 4, none⟩ = some (.string result) ∧ w2.cell? ⟨b, o + 5, none⟩ = some (.slice ba bn bc)) (first | go_keep) (fail)
        go_wp2_with (first
          | (go_at_call 112; (have hno := HB1; refine (K112t.out w1 (TR.out HW.out HB1.out)).mono ?_; rintro e w2 ⟨rfl, hb⟩; have HB2 := hid (TR.out HB1.out hb); have nn2 := CB.out w2 HB2.out; obtain ⟨n20, n21, n22, n23, n24⟩ := nn2; clear hb))
          | (go_at_call 114; (rw [← hW]; clear hW; refine (K114.out W HW.out).mono ?_; rintro e w1 ⟨rfl, hb⟩; have HB1 := hid hb; have nn1 := CB.out w1 HB1.out; obtain ⟨n10, n11, n12, n13, n14⟩ := nn1; clear hb))
          | (go_at_call 74; (refine (KA.out w2 HB2.out).mono ?_; rintro e w9 ⟨rfl, m, rfl⟩; have HB9 := hid (fin.out w2 m (TR.out HW.out HB2.out)))))
        go_ret
        refine ⟨?_, ?_⟩
        · rw [HR.out]; exact ret_bool (by first | (simp [q2]; done) | (simp <;> intros <;> omega))
        · first | exact HB9.out | exact TR.out HW.out HB2.out | exact TR.out HW.out HB1.out
      case neg =>
        have q2' : result.toList.isEmpty = false := by simpa using q2
        cases tr
        case false =>
          go_enter Tryz.func84, Tryz.ntmps84
          go_wp2
          go_region_held3 (fun w2 => w2.cell? ⟨w.heap.size, 1, none⟩ = some (.pointer (some ⟨b, o, none⟩)) ∧ w2.cell? ⟨b, o + 1, none⟩ = some (.slice pa pn pc) ∧ w2.cell? ⟨b, o + 4, none⟩ = some (.string result) ∧ w2.cell? ⟨b, o + 5, none⟩ = some (.slice ba bn bc)) (first | go_keep) (fail)
          go_wp2_with (first
            | (go_at_call 116; (have hno := HB2; refine (K116r.out w2 (TR.out HW.out HB2.out)).mono ?_; rintro e w3 ⟨rfl, hb⟩; have HB3 := hid (TR.out HB2.out hb); have nn3 := CB.out w3 HB3.out; obtain ⟨n30, n31, n32, n33, n34⟩ := nn3; clear hb))
            | (go_at_call 112; (have hno := HB1; refine (K112t.out w1 (TR.out HW.out HB1.out)).mono ?_; rintro e w2 ⟨rfl, hb⟩; have HB2 := hid (TR.out HB1.out hb); have nn2 := CB.out w2 HB2.out; obtain ⟨n20, n21, n22, n23, n24⟩ := nn2; clear hb))
            | (go_at_call 114; (rw [← hW]; clear hW; refine (K114.out W HW.out).mono ?_; rintro e w1 ⟨rfl, hb⟩; have HB1 := hid hb; have nn1 := CB.out w1 HB1.out; obtain ⟨n10, n11, n12, n13, n14⟩ := nn1; clear hb))
            | (go_at_call 74; (refine (KA.out w3 HB3.out).mono ?_; rintro e w9 ⟨rfl, m, rfl⟩; have HB9 := hid (fin.out w3 m (TR.out HW.out HB3.out)))))
          go_ret
          refine ⟨?_, ?_⟩
          · rw [HR.out]; exact ret_bool (by first | (simp [q2, q2']; done) | (simp <;> intros <;> omega))
          · first | exact HB9.out | exact TR.out HW.out HB3.out | exact TR.out HW.out HB2.out | exact TR.out HW.out HB1.out
        case true =>
          go_enter Tryz.func84, Tryz.ntmps84
          go_wp2
          go_region_held3 (fun w2 => w2.cell? ⟨w.heap.size, 1, none⟩ = some (.pointer (some ⟨b, o, none⟩)) ∧ w2.cell? ⟨b, o + 1, none⟩ = some (.slice pa pn pc) ∧ w2.cell? ⟨b, o + 4, none⟩ = some (.string result) ∧ w2.cell? ⟨b, o + 5, none⟩ = some (.slice ba bn bc)) (first | go_keep) (fail)
          go_wp2_with (first
            | (go_at_call 116; (have hno := HB2; refine (K116r.out w2 (TR.out HW.out HB2.out)).mono ?_; rintro e w3 ⟨rfl, hb⟩; have HB3 := hid (TR.out HB2.out hb); have nn3 := CB.out w3 HB3.out; obtain ⟨n30, n31, n32, n33, n34⟩ := nn3; clear hb))
            | (go_at_call 112; (have hno := HB1; refine (K112t.out w1 (TR.out HW.out HB1.out)).mono ?_; rintro e w2 ⟨rfl, hb⟩; have HB2 := hid (TR.out HB1.out hb); have nn2 := CB.out w2 HB2.out; obtain ⟨n20, n21, n22, n23, n24⟩ := nn2; clear hb))
            | (go_at_call 114; (rw [← hW]; clear hW; refine (K114.out W HW.out).mono ?_; rintro e w1 ⟨rfl, hb⟩; have HB1 := hid hb; have nn1 := CB.out w1 HB1.out; obtain ⟨n10, n11, n12, n13, n14⟩ := nn1; clear hb))
            | (go_at_call 74; (refine (KA.out w3 HB3.out).mono ?_; rintro e w9 ⟨rfl, m, rfl⟩; have HB9 := hid (fin.out w3 m (TR.out HW.out HB3.out)))))
          go_ret
          refine ⟨?_, ?_⟩
          · rw [HR.out]; exact ret_bool (by first | (simp [q2, q2']; done) | (simp <;> intros <;> omega))
          · first | exact HB9.out | exact TR.out HW.out HB3.out | exact TR.out HW.out HB2.out | exact TR.out HW.out HB1.out

set_option maxRecDepth 100000 in
set_option maxHeartbeats 4000000 in
theorem isRightD_On (w : World) (h : DH) (d : DHr w h) (hm : MX w) (hk : h.sort = wOn) : Calls Tryz.prog 84 #[.agg #[.string h.sort, .pointer (some ⟨h.b, h.o, none⟩)]] w fun e w' => e = .returned (.bool (rightD h)) ∧ Below w.heap.size w w' := by
  have TR : Hid (∀ {Z x y : World}, Below Z.heap.size Z x → Below x.heap.size x y → Below Z.heap.size Z y) := hid (fun h1 h2 => h1.trans (h2.mono h1.size))
  have hpn : (h.pn : Int) ≤ 1000000 := by have := d.pb; omega
  have cell : ∀ {p : Addr} {v : Value} (o : Obj), w.cell? p = some v → (w.alloc o).cell? p = some v := fun o hc => (((Below.refl w.heap.size w).alloc (Nat.le_refl _) o).cell (World.block_lt_of_cell? w _ hc)).trans hc
  have cell2 : ∀ {p : Addr} {v : Value} (o o' : Obj), w.cell? p = some v → ((w.alloc o).alloc o').cell? p = some v := fun o o' hc => ((((Below.refl w.heap.size w).alloc (Nat.le_refl _) o).alloc (by simp) o').cell (World.block_lt_of_cell? w _ hc)).trans hc
  have A0 := fun o => cell o d.c0
  have C0 := fun o o' => cell2 o o' d.c0
  have C1 := fun o o' => cell2 o o' d.c1
  have C2 := fun o o' => cell2 o o' d.c2
  have C3 := fun o o' => cell2 o o' d.c3
  have C4 := fun o o' => cell2 o o' d.c4
  have C5 := fun o o' => cell2 o o' d.c5
  obtain ⟨X, hX⟩ : ∃ X, X = w.alloc (.cells #[.string ⟨#[111, 110]⟩, .pointer (some ⟨h.b, h.o, none⟩)] 105) := ⟨_, rfl⟩
  obtain ⟨W, hW⟩ : ∃ W, W = (((w.alloc (.cells #[.string ⟨#[111, 110]⟩, .pointer (some ⟨h.b, h.o, none⟩)] 105)).alloc (.cells #[.string h.name, .slice h.pa h.pn h.pc, .string ⟨#[]⟩, .string ⟨#[]⟩, .string ⟨#[]⟩, .slice h.ba h.bn h.bc, .int .i64 0] 52)).drew : World) := ⟨_, rfl⟩
  have hb : W.heap[w.heap.size + 1]? = some (.cells (meantD h).cs 52 (0, 0)) := by
    rw [hW, ← hX]
    have := heap_alloc_new X (.cells #[.string h.name, .slice h.pa h.pn h.pc, .string ⟨#[]⟩, .string ⟨#[]⟩, .string ⟨#[]⟩, .slice h.ba h.bn h.bc, .int .i64 0] 52)
    rw [show X.heap.size = w.heap.size + 1 by rw [hX]; simp] at this
    refine this.trans ?_
    simp [meantD, DH.cs, emp, hk, ne_or, ne_om, ne_of]
  have hbw : Below w.heap.size w W := by rw [hW]; exact (((Below.refl _ w).alloc (Nat.le_refl _) _).alloc (by simp) _).drew
  have hbx : W.heap[w.heap.size]? = some (.cells #[.string ⟨#[111, 110]⟩, .pointer (some ⟨h.b, h.o, none⟩)] 105 (0, 0)) := by
    rw [hW]
    exact (Below.heap_alloc _ _ _ (by simp)).trans (heap_alloc_new w _)
  have KA : Hid (∀ w1 : World, Below W.heap.size W w1 → Calls Tryz.prog 74 #[.pointer (some ⟨h.b, h.o, none⟩), .pointer (some ⟨w.heap.size + 1, 0, none⟩)] w1 fun e w' => e = .returned (.bool (alikeD h (meantD h))) ∧ ∃ m, w' = w1.drewN m) := hid (fun w1 hb1 => by
    have dd := d.below (Nat.le_refl _) (hbw.trans (hb1.mono hbw.size))
    exact alikeD_any w1 h { meantD h with b := w.heap.size + 1, o := 0 } dd (boxD dd ((hb1.block _ (Array.getElem?_eq_some_iff.1 hb).1).trans hb) rfl (by simp [meantD, hk, ne_or, ne_om, ne_of]) (by simp [meantD, hk, ne_or, ne_om, ne_of]) (by simp [meantD, hk, ne_or, ne_om, ne_of]) (by simp [meantD, hk, ne_or, ne_om, ne_of]) (by simp [meantD, hk, ne_or, ne_om, ne_of])))
  have HW := hid hbw
  have K111 : Hid (∀ w1 : World, Below w.heap.size w w1 → Calls Tryz.prog 111 #[.string h.name] w1 fun e w' => e = .returned (.bool (greatB h.name)) ∧ Below w1.heap.size w1 w') := hid (fun w1 hb1 => isGreat_any h.name d.n w1 (hm.below hm.lt hb1))
  have K114 : Hid (∀ w1 : World, Below w.heap.size w w1 → Calls Tryz.prog 114 #[.string h.name] w1 fun e w' => e = .returned (.bool (smallB h.name)) ∧ Below w1.heap.size w1 w') := hid (fun w1 hb1 => isSmall_any h.name d.n w1 (hm.below hm.lt hb1))
  have K115 : Hid (∀ w1 : World, Below w.heap.size w w1 → Calls Tryz.prog 115 #[.string h.key] w1 fun e w' => e = .returned (.bool (keyB h.key)) ∧ Below w1.heap.size w1 w') := hid (fun w1 hb1 => (isKey_any h.key w1).mono (fun e w' ⟨h1, h2⟩ => ⟨h1, h2 ▸ Below.refl _ _⟩))
  have K116v : Hid (∀ w1 : World, Below w.heap.size w w1 → Calls Tryz.prog 116 #[.string h.value] w1 fun e w' => e = .returned (.bool (typB h.value)) ∧ Below w1.heap.size w1 w') := hid (fun w1 hb1 => isType_any h.value d.v w1 (hm.below hm.lt hb1))
  have K116r : Hid (∀ w1 : World, Below w.heap.size w w1 → Calls Tryz.prog 116 #[.string h.result] w1 fun e w' => e = .returned (.bool (typB h.result)) ∧ Below w1.heap.size w1 w') := hid (fun w1 hb1 => isType_any h.result d.r w1 (hm.below hm.lt hb1))
  have K112s : Hid (∀ w1 : World, Below w.heap.size w w1 → Calls Tryz.prog 112 #[.slice h.pa h.pn h.pc, .func (.func 113) #[] #[]] w1 fun e w' => e = .returned (.bool (paramsB simpB h.params)) ∧ Below w1.heap.size w1 w') := hid (fun w1 hb1 => params_any 113 simpB enters113 (fun s w _ _ => (isSimple_any s w).mono (fun e w' ⟨h1, h2⟩ => ⟨h1, h2 ▸ Below.refl _ _⟩)) w1 h.pa h.pn h.pc h.params d.pl d.pb (d.pr.below (Nat.le_refl _) hb1) d.ps (hm.below hm.lt hb1))
  have K112t : Hid (∀ w1 : World, Below w.heap.size w w1 → Calls Tryz.prog 112 #[.slice h.pa h.pn h.pc, .func (.func 116) #[] #[]] w1 fun e w' => e = .returned (.bool (paramsB typB h.params)) ∧ Below w1.heap.size w1 w') := hid (fun w1 hb1 => params_any 116 typB enters116 (fun s w hs hm => isType_any s hs w hm) w1 h.pa h.pn h.pc h.params d.pl d.pb (d.pr.below (Nat.le_refl _) hb1) d.ps (hm.below hm.lt hb1))
  have CB : Hid (∀ w1 : World, Below W.heap.size W w1 → w1.cell? ⟨w.heap.size, 1, none⟩ = some (.pointer (some ⟨h.b, h.o, none⟩)) ∧ w1.cell? ⟨h.b, h.o + 1, none⟩ = some (.slice h.pa h.pn h.pc) ∧ w1.cell? ⟨h.b, h.o + 2, none⟩ = some (.string h.key) ∧ w1.cell? ⟨h.b, h.o + 3, none⟩ = some (.string h.value) ∧ w1.cell? ⟨h.b, h.o + 4, none⟩ = some (.string h.result)) := hid (fun w1 hb1 => by
    have dd := d.below (Nat.le_refl _) (hbw.trans (hb1.mono hbw.size))
    exact ⟨cellT ((hb1.block _ (Array.getElem?_eq_some_iff.1 hbx).1).trans hbx) 1, dd.c1, dd.c2, dd.c3, dd.c4⟩)
  have HR : Hid (rightD h = ((smallB h.name && paramsB typB h.params) && alikeD h (meantD h))) := hid (by unfold rightD okD; simp [hk, ne_or, ne_om, ne_of])
  have fin : Hid (∀ (w1 : World) (m : Nat), Below w.heap.size w w1 → Below w.heap.size w (w1.drewN m)) := hid (fun w1 m hb => bel_drewN hb m)
  generalize alikeD h (meantD h) = al at *
  generalize rightD h = res at *
  generalize greatB h.name = gr at *
  generalize smallB h.name = sm at *
  generalize keyB h.key = ky at *
  generalize typB h.value = tv at *
  generalize typB h.result = tr at *
  generalize paramsB simpB h.params = ps at *
  generalize paramsB typB h.params = pt at *
  clear d hm hb hbx hbw cell cell2 hX
  obtain ⟨sort, b, o, name, pa, pn, pc, key, value, result, ba, bn, bc, pos, params⟩ := h
  simp only at A0 C0 C1 C2 C3 C4 C5 hW KA K111 K114 K115 K116v K116r K112s K112t CB HR hk hpn ⊢
  subst hk
  unfold wOn
  cases sm
  case false =>
    go_enter Tryz.func84, Tryz.ntmps84
    go_wp2
    go_region_held3 (fun w2 => w2.cell? ⟨w.heap.size, 1, none⟩ = some (.pointer (some ⟨b, o, none⟩)) ∧ w2.cell? ⟨b, o + 1, none⟩ = some (.slice pa pn pc) ∧ w2.cell? ⟨b, o + 5, none⟩ = some (.slice ba bn bc)) (first | go_keep) (fail)
    go_wp2_with (first
      | (go_at_call 112; (have hno := HB1; refine (K112t.out w1 (TR.out HW.out HB1.out)).mono ?_; rintro e w2 ⟨rfl, hb⟩; have HB2 := hid (TR.out HB1.out hb); have nn2 := CB.out w2 HB2.out; obtain ⟨n20, n21, n22, n23, n24⟩ := nn2; clear hb))
      | (go_at_call 114; (rw [← hW]; clear hW; refine (K114.out W HW.out).mono ?_; rintro e w1 ⟨rfl, hb⟩; have HB1 := hid hb; have nn1 := CB.out w1 HB1.out; obtain ⟨n10, n11, n12, n13, n14⟩ := nn1; clear hb))
      | (go_at_call 74; (refine (KA.out w2 HB2.out).mono ?_; rintro e w9 ⟨rfl, m, rfl⟩; have HB9 := hid (fin.out w2 m (TR.out HW.out HB2.out)))))
    go_ret
    refine ⟨?_, ?_⟩
    · rw [HR.out]; exact ret_bool (by first | (simp; done) | (simp <;> intros <;> omega))
    · first | exact HB9.out | exact TR.out HW.out HB2.out | exact TR.out HW.out HB1.out
  case true =>
    cases pt
    case false =>
      go_enter Tryz.func84, Tryz.ntmps84
      go_wp2
      go_region_held3 (fun w2 => w2.cell? ⟨w.heap.size, 1, none⟩ = some (.pointer (some ⟨b, o, none⟩)) ∧ w2.cell? ⟨b, o + 1, none⟩ = some (.slice pa pn pc) ∧ w2.cell? ⟨b, o + 5, none⟩ = some (.slice ba bn bc)) (first | go_keep) (fail)
      go_wp2_with (first
        | (go_at_call 112; (have hno := HB1; refine (K112t.out w1 (TR.out HW.out HB1.out)).mono ?_; rintro e w2 ⟨rfl, hb⟩; have HB2 := hid (TR.out HB1.out hb); have nn2 := CB.out w2 HB2.out; obtain ⟨n20, n21, n22, n23, n24⟩ := nn2; clear hb))
        | (go_at_call 114; (rw [← hW]; clear hW; refine (K114.out W HW.out).mono ?_; rintro e w1 ⟨rfl, hb⟩; have HB1 := hid hb; have nn1 := CB.out w1 HB1.out; obtain ⟨n10, n11, n12, n13, n14⟩ := nn1; clear hb))
        | (go_at_call 74; (refine (KA.out w2 HB2.out).mono ?_; rintro e w9 ⟨rfl, m, rfl⟩; have HB9 := hid (fin.out w2 m (TR.out HW.out HB2.out)))))
      go_ret
      refine ⟨?_, ?_⟩
      · rw [HR.out]; exact ret_bool (by first | (simp; done) | (simp <;> intros <;> omega))
      · first | exact HB9.out | exact TR.out HW.out HB2.out | exact TR.out HW.out HB1.out
    case true =>
      go_enter Tryz.func84, Tryz.ntmps84
      go_wp2
      go_region_held3 (fun w2 => w2.cell? ⟨w.heap.size, 1, none⟩ = some (.pointer (some ⟨b, o, none⟩)) ∧ w2.cell? ⟨b, o + 1, none⟩ = some (.slice pa pn pc) ∧ w2.cell? ⟨b, o + 5, none⟩ = some (.slice ba bn bc)) (first | go_keep) (fail)
      go_wp2_with (first
        | (go_at_call 112; (have hno := HB1; refine (K112t.out w1 (TR.out HW.out HB1.out)).mono ?_; rintro e w2 ⟨rfl, hb⟩; have HB2 := hid (TR.out HB1.out hb); have nn2 := CB.out w2 HB2.out; obtain ⟨n20, n21, n22, n23, n24⟩ := nn2; clear hb))
        | (go_at_call 114; (rw [← hW]; clear hW; refine (K114.out W HW.out).mono ?_; rintro e w1 ⟨rfl, hb⟩; have HB1 := hid hb; have nn1 := CB.out w1 HB1.out; obtain ⟨n10, n11, n12, n13, n14⟩ := nn1; clear hb))
        | (go_at_call 74; (refine (KA.out w2 HB2.out).mono ?_; rintro e w9 ⟨rfl, m, rfl⟩; have HB9 := hid (fin.out w2 m (TR.out HW.out HB2.out)))))
      go_ret
      refine ⟨?_, ?_⟩
      · rw [HR.out]; exact ret_bool (by first | (simp; done) | (simp <;> intros <;> omega))
      · first | exact HB9.out | exact TR.out HW.out HB2.out | exact TR.out HW.out HB1.out
end Go.Proofs.YtdfambocenohgaaGreatDoor

namespace Go.Proofs.YtdfambocenohgaaGreatDoor
open Go.RowKit Go.Deep
set_option linter.unusedVariables false
set_option linter.unusedSimpArgs false


theorem isRightD_any (w : World) (h : DH) (d : DHr w h) (hm : MX w) (hs : SortOk h) : Calls Tryz.prog 84 #[.agg #[.string h.sort, .pointer (some ⟨h.b, h.o, none⟩)]] w fun e w' => e = .returned (.bool (rightD h)) ∧ Below w.heap.size w w' := by
  rcases hs with hk | hk | hk | hk
  · exact isRightD_Rec w h d hm hk
  · exact isRightD_Map w h d hm hk
  · exact isRightD_Fn w h d hm hk
  · exact isRightD_On w h d hm hk
end Go.Proofs.YtdfambocenohgaaGreatDoor

namespace Go.Proofs.YtdfambocenohgaaGreatDoor
open Go.RowKit Go.Deep
set_option linter.unusedVariables false
set_option linter.unusedSimpArgs false
attribute [local go_sem] as58_58 as105_58 as101_58 as67_58 as58_105 as105_105 as101_105 as67_105 as58_101 as105_101 as101_101 as67_101 as58_67 as105_67 as101_67 as67_67

def rightT (h : TH) : Bool := decide (max (max (max h.rn h.mn) h.fn) h.en ≤ 16)
theorem max2_nat (a b : Nat) (w : World) : (Builtin.max2 (.int .i64 (a : Int)) (.int .i64 (b : Int))).run Tryz.prog w = .ok (.int .i64 ((max a b : Nat) : Int)) w := by
  unfold Builtin.max2
  simp
  split <;> omega
theorem max4 (t : TypeId) (ts : Array TypeId) (a b c d : Nat) (w : World) : (Builtin.max_ ts t #[.int .i64 (a : Int), .int .i64 (b : Int), .int .i64 (c : Int), .int .i64 (d : Int)]).run Tryz.prog w = .ok (.int .i64 ((max (max (max a b) c) d : Nat) : Int)) w := by
  simp [Builtin.max_, List.foldlM, Sem.run_bind, max2_nat]
set_option maxRecDepth 100000 in
set_option maxHeartbeats 1000000 in
theorem isRightT_any (w : World) (h : TH) (d : THr w h) : Calls Tryz.prog 83 #[.pointer (some ⟨h.b, h.o, none⟩)] w fun e w' => e = .returned (.bool (rightT h)) ∧ Below w.heap.size w w' := by
  obtain ⟨b, o, ra, rn, rc, ma, mn, mc, fa, fn, fc, ea, en, ec⟩ := h
  obtain ⟨c0, c1, c2, c3, b0, b1, b2, b3⟩ := d
  simp only at c0 c1 c2 c3 b0 b1 b2 b3 ⊢
  unfold rightT
  simp only
  have z0 : (rn : Int) ≤ 1000000 := by omega
  have z1 : (mn : Int) ≤ 1000000 := by omega
  have z2 : (fn : Int) ≤ 1000000 := by omega
  have z3 : (en : Int) ≤ 1000000 := by omega
  obtain ⟨M, hM⟩ : ∃ M, M = max (max (max rn mn) fn) en := ⟨_, rfl⟩
  have K : ∀ (t : TypeId) (ts : Array TypeId) (w : World), (Builtin.max_ ts t #[.int .i64 (rn : Int), .int .i64 (mn : Int), .int .i64 (fn : Int), .int .i64 (en : Int)]).run Tryz.prog w = .ok (.int .i64 (M : Int)) w := fun t ts w => by rw [hM]; exact max4 t ts rn mn fn en w
  rw [← hM]
  clear hM b0 b1 b2 b3
  go_enter Tryz.func83, Tryz.ntmps83
  go_wp2_with fail
  go_quiet (fail)
  go_wp2_with fail
  go_ret
  exact ⟨ret_bool (by simp; omega), bel_drewN (Below.refl _ _) _⟩
def rightP : Part → Bool
  | .inl (.inl h) => rightT h
  | .inl (.inr h) => rightD h
  | .inr (.inl h) => rightS h
  | .inr (.inr h) => rightE h
def PartOk : Part → Prop
  | .inl (.inr h) => SortOk h
  | _ => True
set_option maxRecDepth 100000 in
set_option maxHeartbeats 1000000 in
theorem isRight_any (w : World) (p : Part) (d : PRds w p) (hs : PartOk p) (hm : MX w) : Calls Tryz.prog 56 #[labP p] w fun e w' => e = .returned (.bool (rightP p)) ∧ Below w.heap.size w w' := by
  rcases p with (h | h) | (h | h)
  · have K := hid (isRightT_any w h d)
    simp only [labP, rightP]
    generalize rightT h = r at *
    clear d hs hm
    go_enter Tryz.func56, Tryz.ntmps56
    go_wp2_with (go_at_call 83; (refine (Hid.out K).mono ?_; rintro e w1 ⟨rfl, hb⟩))
    go_ret
    exact ⟨rfl, hb⟩
  · have hb0 := (Below.refl w.heap.size w).alloc (Nat.le_refl _) (.cells #[.string h.sort, .pointer (some ⟨h.b, h.o, none⟩)] 105)
    have K := hid (isRightD_any (w.alloc (.cells #[.string h.sort, .pointer (some ⟨h.b, h.o, none⟩)] 105)) h (DHr.below d (Nat.le_refl _) hb0) (hm.below hm.lt hb0) hs)
    have HB := hid hb0
    simp only [labP, rightP]
    generalize rightD h = r at *
    clear d hs hm hb0
    go_enter Tryz.func56, Tryz.ntmps56
    go_wp2_with (go_at_call 84; (refine (Hid.out K).mono ?_; rintro e w1 ⟨rfl, hb⟩; have HB1 := hid (HB.out.trans (hb.mono HB.out.size)); clear hb))
    go_ret
    exact ⟨rfl, HB1.out⟩
  · have K := hid (isRightS_any w h d hm)
    simp only [labP, rightP]
    generalize rightS h = r at *
    clear d hs hm
    go_enter Tryz.func56, Tryz.ntmps56
    go_wp2_with (go_at_call 85; (refine (Hid.out K).mono ?_; rintro e w1 ⟨rfl, hb⟩))
    go_ret
    exact ⟨rfl, hb⟩
  · have K := hid (isRightE_any w h d hm)
    simp only [labP, rightP]
    generalize rightE h = r at *
    clear d hs hm
    go_enter Tryz.func56, Tryz.ntmps56
    go_wp2_with (go_at_call 86; (refine (Hid.out K).mono ?_; rintro e w1 ⟨rfl, hb⟩))
    go_ret
    exact ⟨rfl, hb⟩
end Go.Proofs.YtdfambocenohgaaGreatDoor

