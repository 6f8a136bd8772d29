/- tree.isRightDecl. -/
import Derived.Test.YtdfambocenohgaaGreatDoorJAN
namespace Go.Proofs.YtdfambocenohgaaGreatDoor
open Go.RowKit Go.Deep
set_option linter.unusedVariables false
set_option linter.unusedSimpArgs false


set_option maxRecDepth 100000 in
set_option maxHeartbeats 4000000 in
theorem isRightD_Fn (w : World) (h : DH) (d : DHr w h) (hm : MX w) (hk : h.sort = wFn) : Calls Tryz.prog 84 #[.agg #[.string h.sort, .pointer (some ⟨h.b, h.o, none⟩)]] w fun e w' => e = .returned (.bool (rightD h)) ∧ Below w.heap.size w w' := by
  have TR : Hid (∀ {Z x y : World}, Below Z.heap.size Z x → Below x.heap.size x y → Below Z.heap.size Z y) := hid (fun h1 h2 => h1.trans (h2.mono h1.size))
  have hpn : (h.pn : Int) ≤ 1000000 := by have := d.pb; omega
  have cell : ∀ {p : Addr} {v : Value} (o : Obj), w.cell? p = some v → (w.alloc o).cell? p = some v := fun o hc => (((Below.refl w.heap.size w).alloc (Nat.le_refl _) o).cell (World.block_lt_of_cell? w _ hc)).trans hc
  have cell2 : ∀ {p : Addr} {v : Value} (o o' : Obj), w.cell? p = some v → ((w.alloc o).alloc o').cell? p = some v := fun o o' hc => ((((Below.refl w.heap.size w).alloc (Nat.le_refl _) o).alloc (by simp) o').cell (World.block_lt_of_cell? w _ hc)).trans hc
  have A0 := fun o => cell o d.c0
  have C0 := fun o o' => cell2 o o' d.c0
  have C1 := fun o o' => cell2 o o' d.c1
  have C2 := fun o o' => cell2 o o' d.c2
  have C3 := fun o o' => cell2 o o' d.c3
  have C4 := fun o o' => cell2 o o' d.c4
  have C5 := fun o o' => cell2 o o' d.c5
  obtain ⟨X, hX⟩ : ∃ X, X = w.alloc (.cells #[.string ⟨#[102, 110]⟩, .pointer (some ⟨h.b, h.o, none⟩)] 105) := ⟨_, rfl⟩
  obtain ⟨W, hW⟩ : ∃ W, W = (((w.alloc (.cells #[.string ⟨#[102, 110]⟩, .pointer (some ⟨h.b, h.o, none⟩)] 105)).alloc (.cells #[.string h.name, .slice h.pa h.pn h.pc, .string ⟨#[]⟩, .string ⟨#[]⟩, .string h.result, .slice h.ba h.bn h.bc, .int .i64 0] 52)).drew : World) := ⟨_, rfl⟩
  have hb : W.heap[w.heap.size + 1]? = some (.cells (meantD h).cs 52 (0, 0)) := by
    rw [hW, ← hX]
    have := heap_alloc_new X (.cells #[.string h.name, .slice h.pa h.pn h.pc, .string ⟨#[]⟩, .string ⟨#[]⟩, .string h.result, .slice h.ba h.bn h.bc, .int .i64 0] 52)
    rw [show X.heap.size = w.heap.size + 1 by rw [hX]; simp] at this
    refine this.trans ?_
    simp [meantD, DH.cs, emp, hk, ne_fr, ne_fm, ne_fo]
  have hbw : Below w.heap.size w W := by rw [hW]; exact (((Below.refl _ w).alloc (Nat.le_refl _) _).alloc (by simp) _).drew
  have hbx : W.heap[w.heap.size]? = some (.cells #[.string ⟨#[102, 110]⟩, .pointer (some ⟨h.b, h.o, none⟩)] 105 (0, 0)) := by
    rw [hW]
    exact (Below.heap_alloc _ _ _ (by simp)).trans (heap_alloc_new w _)
  have KA : Hid (∀ w1 : World, Below W.heap.size W w1 → Calls Tryz.prog 74 #[.pointer (some ⟨h.b, h.o, none⟩), .pointer (some ⟨w.heap.size + 1, 0, none⟩)] w1 fun e w' => e = .returned (.bool (alikeD h (meantD h))) ∧ ∃ m, w' = w1.drewN m) := hid (fun w1 hb1 => by
    have dd := d.below (Nat.le_refl _) (hbw.trans (hb1.mono hbw.size))
    exact alikeD_any w1 h { meantD h with b := w.heap.size + 1, o := 0 } dd (boxD dd ((hb1.block _ (Array.getElem?_eq_some_iff.1 hb).1).trans hb) rfl (by simp [meantD, hk, ne_fr, ne_fm, ne_fo]) (by simp [meantD, hk, ne_fr, ne_fm, ne_fo]) (by simp [meantD, hk, ne_fr, ne_fm, ne_fo]) (by simp [meantD, hk, ne_fr, ne_fm, ne_fo]) (by simp [meantD, hk, ne_fr, ne_fm, ne_fo])))
  have HW := hid hbw
  have K111 : Hid (∀ w1 : World, Below w.heap.size w w1 → Calls Tryz.prog 111 #[.string h.name] w1 fun e w' => e = .returned (.bool (greatB h.name)) ∧ Below w1.heap.size w1 w') := hid (fun w1 hb1 => isGreat_any h.name d.n w1 (hm.below hm.lt hb1))
  have K114 : Hid (∀ w1 : World, Below w.heap.size w w1 → Calls Tryz.prog 114 #[.string h.name] w1 fun e w' => e = .returned (.bool (smallB h.name)) ∧ Below w1.heap.size w1 w') := hid (fun w1 hb1 => isSmall_any h.name d.n w1 (hm.below hm.lt hb1))
  have K115 : Hid (∀ w1 : World, Below w.heap.size w w1 → Calls Tryz.prog 115 #[.string h.key] w1 fun e w' => e = .returned (.bool (keyB h.key)) ∧ Below w1.heap.size w1 w') := hid (fun w1 hb1 => (isKey_any h.key w1).mono (fun e w' ⟨h1, h2⟩ => ⟨h1, h2 ▸ Below.refl _ _⟩))
  have K116v : Hid (∀ w1 : World, Below w.heap.size w w1 → Calls Tryz.prog 116 #[.string h.value] w1 fun e w' => e = .returned (.bool (typB h.value)) ∧ Below w1.heap.size w1 w') := hid (fun w1 hb1 => isType_any h.value d.v w1 (hm.below hm.lt hb1))
  have K116r : Hid (∀ w1 : World, Below w.heap.size w w1 → Calls Tryz.prog 116 #[.string h.result] w1 fun e w' => e = .returned (.bool (typB h.result)) ∧ Below w1.heap.size w1 w') := hid (fun w1 hb1 => isType_any h.result d.r w1 (hm.below hm.lt hb1))
  have K112s : Hid (∀ w1 : World, Below w.heap.size w w1 → Calls Tryz.prog 112 #[.slice h.pa h.pn h.pc, .func (.func 113) #[] #[]] w1 fun e w' => e = .returned (.bool (paramsB simpB h.params)) ∧ Below w1.heap.size w1 w') := hid (fun w1 hb1 => params_any 113 simpB enters113 (fun s w _ _ => (isSimple_any s w).mono (fun e w' ⟨h1, h2⟩ => ⟨h1, h2 ▸ Below.refl _ _⟩)) w1 h.pa h.pn h.pc h.params d.pl d.pb (d.pr.below (Nat.le_refl _) hb1) d.ps (hm.below hm.lt hb1))
  have K112t : Hid (∀ w1 : World, Below w.heap.size w w1 → Calls Tryz.prog 112 #[.slice h.pa h.pn h.pc, .func (.func 116) #[] #[]] w1 fun e w' => e = .returned (.bool (paramsB typB h.params)) ∧ Below w1.heap.size w1 w') := hid (fun w1 hb1 => params_any 116 typB enters116 (fun s w hs hm => isType_any s hs w hm) w1 h.pa h.pn h.pc h.params d.pl d.pb (d.pr.below (Nat.le_refl _) hb1) d.ps (hm.below hm.lt hb1))
  have CB : Hid (∀ w1 : World, Below W.heap.size W w1 → w1.cell? ⟨w.heap.size, 1, none⟩ = some (.pointer (some ⟨h.b, h.o, none⟩)) ∧ w1.cell? ⟨h.b, h.o + 1, none⟩ = some (.slice h.pa h.pn h.pc) ∧ w1.cell? ⟨h.b, h.o + 2, none⟩ = some (.string h.key) ∧ w1.cell? ⟨h.b, h.o + 3, none⟩ = some (.string h.value) ∧ w1.cell? ⟨h.b, h.o + 4, none⟩ = some (.string h.result)) := hid (fun w1 hb1 => by
    have dd := d.below (Nat.le_refl _) (hbw.trans (hb1.mono hbw.size))
    exact ⟨cellT ((hb1.block _ (Array.getElem?_eq_some_iff.1 hbx).1).trans hbx) 1, dd.c1, dd.c2, dd.c3, dd.c4⟩)
  have HR : Hid (rightD h = ((smallB h.name && paramsB typB h.params && (h.result.toList.isEmpty || typB h.result)) && alikeD h (meantD h))) := hid (by unfold rightD okD; simp [hk, ne_fr, ne_fm, ne_fo])
  have fin : Hid (∀ (w1 : World) (m : Nat), Below w.heap.size w w1 → Below w.heap.size w (w1.drewN m)) := hid (fun w1 m hb => bel_drewN hb m)
  generalize alikeD h (meantD h) = al at *
  generalize rightD h = res at *
  generalize greatB h.name = gr at *
  generalize smallB h.name = sm at *
  generalize keyB h.key = ky at *
  generalize typB h.value = tv at *
  generalize typB h.result = tr at *
  generalize paramsB simpB h.params = ps at *
  generalize paramsB typB h.params = pt at *
  clear d hm hb hbx hbw cell cell2 hX
  obtain ⟨sort, b, o, name, pa, pn, pc, key, value, result, ba, bn, bc, pos, params⟩ := h
  simp only at A0 C0 C1 C2 C3 C4 C5 hW KA K111 K114 K115 K116v K116r K112s K112t CB HR hk hpn ⊢
  subst hk
  unfold wFn
  cases sm
  case false =>
    go_enter Tryz.func84, Tryz.ntmps84
    go_wp2
    go_region_held3 (fun w2 => w2.cell? ⟨w.heap.size, 1, none⟩ = some (.pointer (some ⟨b, o, none⟩)) ∧ w2.cell? ⟨b, o + 1, none⟩ = some (.slice pa pn pc) ∧ w2.cell? ⟨b, o + 4, none⟩ = some (.string result) ∧ w2.cell? ⟨b, o + 5, none⟩ = some (.slice ba bn bc)) (first | go_keep) (fail)
    go_wp2_with (first
      | (go_at_call 112; (have hno := HB1; refine (K112t.out w1 (TR.out HW.out HB1.out)).mono ?_; rintro e w2 ⟨rfl, hb⟩; have HB2 := hid (TR.out HB1.out hb); have nn2 := CB.out w2 HB2.out; obtain ⟨n20, n21, n22, n23, n24⟩ := nn2; clear hb))
      | (go_at_call 114; (rw [← hW]; clear hW; refine (K114.out W HW.out).mono ?_; rintro e w1 ⟨rfl, hb⟩; have HB1 := hid hb; have nn1 := CB.out w1 HB1.out; obtain ⟨n10, n11, n12, n13, n14⟩ := nn1; clear hb))
      | (go_at_call 74; (refine (KA.out w2 HB2.out).mono ?_; rintro e w9 ⟨rfl, m, rfl⟩; have HB9 := hid (fin.out w2 m (TR.out HW.out HB2.out)))))
    go_ret
    refine ⟨?_, ?_⟩
    · rw [HR.out]; exact ret_bool (by first | (simp; done) | (simp <;> intros <;> omega))
    · first | exact HB9.out | exact TR.out HW.out HB2.out | exact TR.out HW.out HB1.out
  case true =>
    cases pt
    case false =>
      go_enter Tryz.func84, Tryz.ntmps84
      go_wp2
      go_region_held3 (fun w2 => w2.cell? ⟨w.heap.size, 1, none⟩ = some (.pointer (some ⟨b, o, none⟩)) ∧ w2.cell? ⟨b, o + 1, none⟩ = some (.slice pa pn pc) ∧ w2.cell? ⟨b, o + 4, none⟩ = some (.string result) ∧ w2.cell? ⟨b, o + 5, none⟩ = some (.slice ba bn bc)) (first | go_keep) (fail)
      go_wp2_with (first
        | (go_at_call 112; (have hno := HB1; refine (K112t.out w1 (TR.out HW.out HB1.out)).mono ?_; rintro e w2 ⟨rfl, hb⟩; have HB2 := hid (TR.out HB1.out hb); have nn2 := CB.out w2 HB2.out; obtain ⟨n20, n21, n22, n23, n24⟩ := nn2; clear hb))
        | (go_at_call 114; (rw [← hW]; clear hW; refine (K114.out W HW.out).mono ?_; rintro e w1 ⟨rfl, hb⟩; have HB1 := hid hb; have nn1 := CB.out w1 HB1.out; obtain ⟨n10, n11, n12, n13, n14⟩ := nn1; clear hb))
        | (go_at_call 74; (refine (KA.out w2 HB2.out).mono ?_; rintro e w9 ⟨rfl, m, rfl⟩; have HB9 := hid (fin.out w2 m (TR.out HW.out HB2.out)))))
      go_ret
      refine ⟨?_, ?_⟩
      · rw [HR.out]; exact ret_bool (by first | (simp; done) | (simp <;> intros <;> omega))
      · first | exact HB9.out | exact TR.out HW.out HB2.out | exact TR.out HW.out HB1.out
    case true =>
      by_cases q2 : result.toList = []
      case pos =>
        go_enter Tryz.func84, Tryz.ntmps84
        go_wp2
        go_region_held3 (fun w2 => w2.cell? ⟨w.heap.size, 1, none⟩ = some (.pointer (some ⟨b, o, none⟩)) ∧ w2.cell? ⟨b, o + 1, none⟩ = some (.slice pa pn pc) ∧ w2.cell? ⟨b, o + 4, none⟩ = some (.string result) ∧ w2.cell? ⟨b, o + 5, none⟩ = some (.slice ba bn bc)) (first | go_keep) (fail)
        go_wp2_with (first
          | (go_at_call 112; (have hno := HB1; refine (K112t.out w1 (TR.out HW.out HB1.out)).mono ?_; rintro e w2 ⟨rfl, hb⟩; have HB2 := hid (TR.out HB1.out hb); have nn2 := CB.out w2 HB2.out; obtain ⟨n20, n21, n22, n23, n24⟩ := nn2; clear hb))
          | (go_at_call 114; (rw [← hW]; clear hW; refine (K114.out W HW.out).mono ?_; rintro e w1 ⟨rfl, hb⟩; have HB1 := hid hb; have nn1 := CB.out w1 HB1.out; obtain ⟨n10, n11, n12, n13, n14⟩ := nn1; clear hb))
          | (go_at_call 74; (refine (KA.out w2 HB2.out).mono ?_; rintro e w9 ⟨rfl, m, rfl⟩; have HB9 := hid (fin.out w2 m (TR.out HW.out HB2.out)))))
        go_ret
        refine ⟨?_, ?_⟩
        · rw [HR.out]; exact ret_bool (by first | (simp [q2]; done) | (simp <;> intros <;> omega))
        · first | exact HB9.out | exact TR.out HW.out HB2.out | exact TR.out HW.out HB1.out
      case neg =>
        have q2' : result.toList.isEmpty = false := by simpa using q2
        cases tr
        case false =>
          go_enter Tryz.func84, Tryz.ntmps84
          go_wp2
          go_region_held3 (fun w2 => w2.cell? ⟨w.heap.size, 1, none⟩ = some (.pointer (some ⟨b, o, none⟩)) ∧ w2.cell? ⟨b, o + 1, none⟩ = some (.slice pa pn pc) ∧ w2.cell? ⟨b, o + 4, none⟩ = some (.string result) ∧ w2.cell? ⟨b, o + 5, none⟩ = some (.slice ba bn bc)) (first | go_keep) (fail)
          go_wp2_with (first
            | (go_at_call 116; (have hno := HB2; refine (K116r.out w2 (TR.out HW.out HB2.out)).mono ?_; rintro e w3 ⟨rfl, hb⟩; have HB3 := hid (TR.out HB2.out hb); have nn3 := CB.out w3 HB3.out; obtain ⟨n30, n31, n32, n33, n34⟩ := nn3; clear hb))
            | (go_at_call 112; (have hno := HB1; refine (K112t.out w1 (TR.out HW.out HB1.out)).mono ?_; rintro e w2 ⟨rfl, hb⟩; have HB2 := hid (TR.out HB1.out hb); have nn2 := CB.out w2 HB2.out; obtain ⟨n20, n21, n22, n23, n24⟩ := nn2; clear hb))
            | (go_at_call 114; (rw [← hW]; clear hW; refine (K114.out W HW.out).mono ?_; rintro e w1 ⟨rfl, hb⟩; have HB1 := hid hb; have nn1 := CB.out w1 HB1.out; obtain ⟨n10, n11, n12, n13, n14⟩ := nn1; clear hb))
            | (go_at_call 74; (refine (KA.out w3 HB3.out).mono ?_; rintro e w9 ⟨rfl, m, rfl⟩; have HB9 := hid (fin.out w3 m (TR.out HW.out HB3.out)))))
          go_ret
          refine ⟨?_, ?_⟩
          · rw [HR.out]; exact ret_bool (by first | (simp [q2, q2']; done) | (simp <;> intros <;> omega))
          · first | exact HB9.out | exact TR.out HW.out HB3.out | exact TR.out HW.out HB2.out | exact TR.out HW.out HB1.out
        case true =>
          go_enter Tryz.func84, Tryz.ntmps84
          go_wp2
          go_region_held3 (fun w2 => w2.cell? ⟨w.heap.size, 1, none⟩ = some (.pointer (some ⟨b, o, none⟩)) ∧ w2.cell? ⟨b, o + 1, none⟩ = some (.slice pa pn pc) ∧ w2.cell? ⟨b, o + 4, none⟩ = some (.string result) ∧ w2.cell? ⟨b, o + 5, none⟩ = some (.slice ba bn bc)) (first | go_keep) (fail)
          go_wp2_with (first
            | (go_at_call 116; (have hno := HB2; refine (K116r.out w2 (TR.out HW.out HB2.out)).mono ?_; rintro e w3 ⟨rfl, hb⟩; have HB3 := hid (TR.out HB2.out hb); have nn3 := CB.out w3 HB3.out; obtain ⟨n30, n31, n32, n33, n34⟩ := nn3; clear hb))
            | (go_at_call 112; (have hno := HB1; refine (K112t.out w1 (TR.out HW.out HB1.out)).mono ?_; rintro e w2 ⟨rfl, hb⟩; have HB2 := hid (TR.out HB1.out hb); have nn2 := CB.out w2 HB2.out; obtain ⟨n20, n21, n22, n23, n24⟩ := nn2; clear hb))
            | (go_at_call 114; (rw [← hW]; clear hW; refine (K114.out W HW.out).mono ?_; rintro e w1 ⟨rfl, hb⟩; have HB1 := hid hb; have nn1 := CB.out w1 HB1.out; obtain ⟨n10, n11, n12, n13, n14⟩ := nn1; clear hb))
            | (go_at_call 74; (refine (KA.out w3 HB3.out).mono ?_; rintro e w9 ⟨rfl, m, rfl⟩; have HB9 := hid (fin.out w3 m (TR.out HW.out HB3.out)))))
          go_ret
          refine ⟨?_, ?_⟩
          · rw [HR.out]; exact ret_bool (by first | (simp [q2, q2']; done) | (simp <;> intros <;> omega))
          · first | exact HB9.out | exact TR.out HW.out HB3.out | exact TR.out HW.out HB2.out | exact TR.out HW.out HB1.out

set_option maxRecDepth 100000 in
set_option maxHeartbeats 4000000 in
theorem isRightD_On (w : World) (h : DH) (d : DHr w h) (hm : MX w) (hk : h.sort = wOn) : Calls Tryz.prog 84 #[.agg #[.string h.sort, .pointer (some ⟨h.b, h.o, none⟩)]] w fun e w' => e = .returned (.bool (rightD h)) ∧ Below w.heap.size w w' := by
  have TR : Hid (∀ {Z x y : World}, Below Z.heap.size Z x → Below x.heap.size x y → Below Z.heap.size Z y) := hid (fun h1 h2 => h1.trans (h2.mono h1.size))
  have hpn : (h.pn : Int) ≤ 1000000 := by have := d.pb; omega
  have cell : ∀ {p : Addr} {v : Value} (o : Obj), w.cell? p = some v → (w.alloc o).cell? p = some v := fun o hc => (((Below.refl w.heap.size w).alloc (Nat.le_refl _) o).cell (World.block_lt_of_cell? w _ hc)).trans hc
  have cell2 : ∀ {p : Addr} {v : Value} (o o' : Obj), w.cell? p = some v → ((w.alloc o).alloc o').cell? p = some v := fun o o' hc => ((((Below.refl w.heap.size w).alloc (Nat.le_refl _) o).alloc (by simp) o').cell (World.block_lt_of_cell? w _ hc)).trans hc
  have A0 := fun o => cell o d.c0
  have C0 := fun o o' => cell2 o o' d.c0
  have C1 := fun o o' => cell2 o o' d.c1
  have C2 := fun o o' => cell2 o o' d.c2
  have C3 := fun o o' => cell2 o o' d.c3
  have C4 := fun o o' => cell2 o o' d.c4
  have C5 := fun o o' => cell2 o o' d.c5
  obtain ⟨X, hX⟩ : ∃ X, X = w.alloc (.cells #[.string ⟨#[111, 110]⟩, .pointer (some ⟨h.b, h.o, none⟩)] 105) := ⟨_, rfl⟩
  obtain ⟨W, hW⟩ : ∃ W, W = (((w.alloc (.cells #[.string ⟨#[111, 110]⟩, .pointer (some ⟨h.b, h.o, none⟩)] 105)).alloc (.cells #[.string h.name, .slice h.pa h.pn h.pc, .string ⟨#[]⟩, .string ⟨#[]⟩, .string ⟨#[]⟩, .slice h.ba h.bn h.bc, .int .i64 0] 52)).drew : World) := ⟨_, rfl⟩
  have hb : W.heap[w.heap.size + 1]? = some (.cells (meantD h).cs 52 (0, 0)) := by
    rw [hW, ← hX]
    have := heap_alloc_new X (.cells #[.string h.name, .slice h.pa h.pn h.pc, .string ⟨#[]⟩, .string ⟨#[]⟩, .string ⟨#[]⟩, .slice h.ba h.bn h.bc, .int .i64 0] 52)
    rw [show X.heap.size = w.heap.size + 1 by rw [hX]; simp] at this
    refine this.trans ?_
    simp [meantD, DH.cs, emp, hk, ne_or, ne_om, ne_of]
  have hbw : Below w.heap.size w W := by rw [hW]; exact (((Below.refl _ w).alloc (Nat.le_refl _) _).alloc (by simp) _).drew
  have hbx : W.heap[w.heap.size]? = some (.cells #[.string ⟨#[111, 110]⟩, .pointer (some ⟨h.b, h.o, none⟩)] 105 (0, 0)) := by
    rw [hW]
    exact (Below.heap_alloc _ _ _ (by simp)).trans (heap_alloc_new w _)
  have KA : Hid (∀ w1 : World, Below W.heap.size W w1 → Calls Tryz.prog 74 #[.pointer (some ⟨h.b, h.o, none⟩), .pointer (some ⟨w.heap.size + 1, 0, none⟩)] w1 fun e w' => e = .returned (.bool (alikeD h (meantD h))) ∧ ∃ m, w' = w1.drewN m) := hid (fun w1 hb1 => by
    have dd := d.below (Nat.le_refl _) (hbw.trans (hb1.mono hbw.size))
    exact alikeD_any w1 h { meantD h with b := w.heap.size + 1, o := 0 } dd (boxD dd ((hb1.block _ (Array.getElem?_eq_some_iff.1 hb).1).trans hb) rfl (by simp [meantD, hk, ne_or, ne_om, ne_of]) (by simp [meantD, hk, ne_or, ne_om, ne_of]) (by simp [meantD, hk, ne_or, ne_om, ne_of]) (by simp [meantD, hk, ne_or, ne_om, ne_of]) (by simp [meantD, hk, ne_or, ne_om, ne_of])))
  have HW := hid hbw
  have K111 : Hid (∀ w1 : World, Below w.heap.size w w1 → Calls Tryz.prog 111 #[.string h.name] w1 fun e w' => e = .returned (.bool (greatB h.name)) ∧ Below w1.heap.size w1 w') := hid (fun w1 hb1 => isGreat_any h.name d.n w1 (hm.below hm.lt hb1))
  have K114 : Hid (∀ w1 : World, Below w.heap.size w w1 → Calls Tryz.prog 114 #[.string h.name] w1 fun e w' => e = .returned (.bool (smallB h.name)) ∧ Below w1.heap.size w1 w') := hid (fun w1 hb1 => isSmall_any h.name d.n w1 (hm.below hm.lt hb1))
  have K115 : Hid (∀ w1 : World, Below w.heap.size w w1 → Calls Tryz.prog 115 #[.string h.key] w1 fun e w' => e = .returned (.bool (keyB h.key)) ∧ Below w1.heap.size w1 w') := hid (fun w1 hb1 => (isKey_any h.key w1).mono (fun e w' ⟨h1, h2⟩ => ⟨h1, h2 ▸ Below.refl _ _⟩))
  have K116v : Hid (∀ w1 : World, Below w.heap.size w w1 → Calls Tryz.prog 116 #[.string h.value] w1 fun e w' => e = .returned (.bool (typB h.value)) ∧ Below w1.heap.size w1 w') := hid (fun w1 hb1 => isType_any h.value d.v w1 (hm.below hm.lt hb1))
  have K116r : Hid (∀ w1 : World, Below w.heap.size w w1 → Calls Tryz.prog 116 #[.string h.result] w1 fun e w' => e = .returned (.bool (typB h.result)) ∧ Below w1.heap.size w1 w') := hid (fun w1 hb1 => isType_any h.result d.r w1 (hm.below hm.lt hb1))
  have K112s : Hid (∀ w1 : World, Below w.heap.size w w1 → Calls Tryz.prog 112 #[.slice h.pa h.pn h.pc, .func (.func 113) #[] #[]] w1 fun e w' => e = .returned (.bool (paramsB simpB h.params)) ∧ Below w1.heap.size w1 w') := hid (fun w1 hb1 => params_any 113 simpB enters113 (fun s w _ _ => (isSimple_any s w).mono (fun e w' ⟨h1, h2⟩ => ⟨h1, h2 ▸ Below.refl _ _⟩)) w1 h.pa h.pn h.pc h.params d.pl d.pb (d.pr.below (Nat.le_refl _) hb1) d.ps (hm.below hm.lt hb1))
  have K112t : Hid (∀ w1 : World, Below w.heap.size w w1 → Calls Tryz.prog 112 #[.slice h.pa h.pn h.pc, .func (.func 116) #[] #[]] w1 fun e w' => e = .returned (.bool (paramsB typB h.params)) ∧ Below w1.heap.size w1 w') := hid (fun w1 hb1 => params_any 116 typB enters116 (fun s w hs hm => isType_any s hs w hm) w1 h.pa h.pn h.pc h.params d.pl d.pb (d.pr.below (Nat.le_refl _) hb1) d.ps (hm.below hm.lt hb1))
  have CB : Hid (∀ w1 : World, Below W.heap.size W w1 → w1.cell? ⟨w.heap.size, 1, none⟩ = some (.pointer (some ⟨h.b, h.o, none⟩)) ∧ w1.cell? ⟨h.b, h.o + 1, none⟩ = some (.slice h.pa h.pn h.pc) ∧ w1.cell? ⟨h.b, h.o + 2, none⟩ = some (.string h.key) ∧ w1.cell? ⟨h.b, h.o + 3, none⟩ = some (.string h.value) ∧ w1.cell? ⟨h.b, h.o + 4, none⟩ = some (.string h.result)) := hid (fun w1 hb1 => by
    have dd := d.below (Nat.le_refl _) (hbw.trans (hb1.mono hbw.size))
    exact ⟨cellT ((hb1.block _ (Array.getElem?_eq_some_iff.1 hbx).1).trans hbx) 1, dd.c1, dd.c2, dd.c3, dd.c4⟩)
  have HR : Hid (rightD h = ((smallB h.name && paramsB typB h.params) && alikeD h (meantD h))) := hid (by unfold rightD okD; simp [hk, ne_or, ne_om, ne_of])
  have fin : Hid (∀ (w1 : World) (m : Nat), Below w.heap.size w w1 → Below w.heap.size w (w1.drewN m)) := hid (fun w1 m hb => bel_drewN hb m)
  generalize alikeD h (meantD h) = al at *
  generalize rightD h = res at *
  generalize greatB h.name = gr at *
  generalize smallB h.name = sm at *
  generalize keyB h.key = ky at *
  generalize typB h.value = tv at *
  generalize typB h.result = tr at *
  generalize paramsB simpB h.params = ps at *
  generalize paramsB typB h.params = pt at *
  clear d hm hb hbx hbw cell cell2 hX
  obtain ⟨sort, b, o, name, pa, pn, pc, key, value, result, ba, bn, bc, pos, params⟩ := h
  simp only at A0 C0 C1 C2 C3 C4 C5 hW KA K111 K114 K115 K116v K116r K112s K112t CB HR hk hpn ⊢
  subst hk
  unfold wOn
  cases sm
  case false =>
    go_enter Tryz.func84, Tryz.ntmps84
    go_wp2
    go_region_held3 (fun w2 => w2.cell? ⟨w.heap.size, 1, none⟩ = some (.pointer (some ⟨b, o, none⟩)) ∧ w2.cell? ⟨b, o + 1, none⟩ = some (.slice pa pn pc) ∧ w2.cell? ⟨b, o + 5, none⟩ = some (.slice ba bn bc)) (first | go_keep) (fail)
    go_wp2_with (first
      | (go_at_call 112; (have hno := HB1; refine (K112t.out w1 (TR.out HW.out HB1.out)).mono ?_; rintro e w2 ⟨rfl, hb⟩; have HB2 := hid (TR.out HB1.out hb); have nn2 := CB.out w2 HB2.out; obtain ⟨n20, n21, n22, n23, n24⟩ := nn2; clear hb))
      | (go_at_call 114; (rw [← hW]; clear hW; refine (K114.out W HW.out).mono ?_; rintro e w1 ⟨rfl, hb⟩; have HB1 := hid hb; have nn1 := CB.out w1 HB1.out; obtain ⟨n10, n11, n12, n13, n14⟩ := nn1; clear hb))
      | (go_at_call 74; (refine (KA.out w2 HB2.out).mono ?_; rintro e w9 ⟨rfl, m, rfl⟩; have HB9 := hid (fin.out w2 m (TR.out HW.out HB2.out)))))
    go_ret
    refine ⟨?_, ?_⟩
    · rw [HR.out]; exact ret_bool (by first | (simp; done) | (simp <;> intros <;> omega))
    · first | exact HB9.out | exact TR.out HW.out HB2.out | exact TR.out HW.out HB1.out
  case true =>
    cases pt
    case false =>
      go_enter Tryz.func84, Tryz.ntmps84
      go_wp2
      go_region_held3 (fun w2 => w2.cell? ⟨w.heap.size, 1, none⟩ = some (.pointer (some ⟨b, o, none⟩)) ∧ w2.cell? ⟨b, o + 1, none⟩ = some (.slice pa pn pc) ∧ w2.cell? ⟨b, o + 5, none⟩ = some (.slice ba bn bc)) (first | go_keep) (fail)
      go_wp2_with (first
        | (go_at_call 112; (have hno := HB1; refine (K112t.out w1 (TR.out HW.out HB1.out)).mono ?_; rintro e w2 ⟨rfl, hb⟩; have HB2 := hid (TR.out HB1.out hb); have nn2 := CB.out w2 HB2.out; obtain ⟨n20, n21, n22, n23, n24⟩ := nn2; clear hb))
        | (go_at_call 114; (rw [← hW]; clear hW; refine (K114.out W HW.out).mono ?_; rintro e w1 ⟨rfl, hb⟩; have HB1 := hid hb; have nn1 := CB.out w1 HB1.out; obtain ⟨n10, n11, n12, n13, n14⟩ := nn1; clear hb))
        | (go_at_call 74; (refine (KA.out w2 HB2.out).mono ?_; rintro e w9 ⟨rfl, m, rfl⟩; have HB9 := hid (fin.out w2 m (TR.out HW.out HB2.out)))))
      go_ret
      refine ⟨?_, ?_⟩
      · rw [HR.out]; exact ret_bool (by first | (simp; done) | (simp <;> intros <;> omega))
      · first | exact HB9.out | exact TR.out HW.out HB2.out | exact TR.out HW.out HB1.out
    case true =>
      go_enter Tryz.func84, Tryz.ntmps84
      go_wp2
      go_region_held3 (fun w2 => w2.cell? ⟨w.heap.size, 1, none⟩ = some (.pointer (some ⟨b, o, none⟩)) ∧ w2.cell? ⟨b, o + 1, none⟩ = some (.slice pa pn pc) ∧ w2.cell? ⟨b, o + 5, none⟩ = some (.slice ba bn bc)) (first | go_keep) (fail)
      go_wp2_with (first
        | (go_at_call 112; (have hno := HB1; refine (K112t.out w1 (TR.out HW.out HB1.out)).mono ?_; rintro e w2 ⟨rfl, hb⟩; have HB2 := hid (TR.out HB1.out hb); have nn2 := CB.out w2 HB2.out; obtain ⟨n20, n21, n22, n23, n24⟩ := nn2; clear hb))
        | (go_at_call 114; (rw [← hW]; clear hW; refine (K114.out W HW.out).mono ?_; rintro e w1 ⟨rfl, hb⟩; have HB1 := hid hb; have nn1 := CB.out w1 HB1.out; obtain ⟨n10, n11, n12, n13, n14⟩ := nn1; clear hb))
        | (go_at_call 74; (refine (KA.out w2 HB2.out).mono ?_; rintro e w9 ⟨rfl, m, rfl⟩; have HB9 := hid (fin.out w2 m (TR.out HW.out HB2.out)))))
      go_ret
      refine ⟨?_, ?_⟩
      · rw [HR.out]; exact ret_bool (by first | (simp; done) | (simp <;> intros <;> omega))
      · first | exact HB9.out | exact TR.out HW.out HB2.out | exact TR.out HW.out HB1.out
end Go.Proofs.YtdfambocenohgaaGreatDoor

namespace Go.Proofs.YtdfambocenohgaaGreatDoor
open Go.RowKit Go.Deep
set_option linter.unusedVariables false
set_option linter.unusedSimpArgs false


theorem isRightD_any (w : World) (h : DH) (d : DHr w h) (hm : MX w) (hs : SortOk h) : Calls Tryz.prog 84 #[.agg #[.string h.sort, .pointer (some ⟨h.b, h.o, none⟩)]] w fun e w' => e = .returned (.bool (rightD h)) ∧ Below w.heap.size w w' := by
  rcases hs with hk | hk | hk | hk
  · exact isRightD_Rec w h d hm hk
  · exact isRightD_Map w h d hm hk
  · exact isRightD_Fn w h d hm hk
  · exact isRightD_On w h d hm hk
end Go.Proofs.YtdfambocenohgaaGreatDoor

namespace Go.Proofs.YtdfambocenohgaaGreatDoor
open Go.RowKit Go.Deep
set_option linter.unusedVariables false
set_option linter.unusedSimpArgs false
attribute [local go_sem] as58_58 as105_58 as101_58 as67_58 as58_105 as105_105 as101_105 as67_105 as58_101 as105_101 as101_101 as67_101 as58_67 as105_67 as101_67 as67_67

def rightT (h : TH) : Bool := decide (max (max (max h.rn h.mn) h.fn) h.en ≤ 16)
theorem max2_nat (a b : Nat) (w : World) : (Builtin.max2 (.int .i64 (a : Int)) (.int .i64 (b : Int))).run Tryz.prog w = .ok (.int .i64 ((max a b : Nat) : Int)) w := by
  unfold Builtin.max2
  simp
  split <;> omega
theorem max4 (t : TypeId) (ts : Array TypeId) (a b c d : Nat) (w : World) : (Builtin.max_ ts t #[.int .i64 (a : Int), .int .i64 (b : Int), .int .i64 (c : Int), .int .i64 (d : Int)]).run Tryz.prog w = .ok (.int .i64 ((max (max (max a b) c) d : Nat) : Int)) w := by
  simp [Builtin.max_, List.foldlM, Sem.run_bind, max2_nat]
set_option maxRecDepth 100000 in
set_option maxHeartbeats 1000000 in
theorem isRightT_any (w : World) (h : TH) (d : THr w h) : Calls Tryz.prog 83 #[.pointer (some ⟨h.b, h.o, none⟩)] w fun e w' => e = .returned (.bool (rightT h)) ∧ Below w.heap.size w w' := by
  obtain ⟨b, o, ra, rn, rc, ma, mn, mc, fa, fn, fc, ea, en, ec⟩ := h
  obtain ⟨c0, c1, c2, c3, b0, b1, b2, b3⟩ := d
  simp only at c0 c1 c2 c3 b0 b1 b2 b3 ⊢
  unfold rightT
  simp only
  have z0 : (rn : Int) ≤ 1000000 := by omega
  have z1 : (mn : Int) ≤ 1000000 := by omega
  have z2 : (fn : Int) ≤ 1000000 := by omega
  have z3 : (en : Int) ≤ 1000000 := by omega
  obtain ⟨M, hM⟩ : ∃ M, M = max (max (max rn mn) fn) en := ⟨_, rfl⟩
  have K : ∀ (t : TypeId) (ts : Array TypeId) (w : World), (Builtin.max_ ts t #[.int .i64 (rn : Int), .int .i64 (mn : Int), .int .i64 (fn : Int), .int .i64 (en : Int)]).run Tryz.prog w = .ok (.int .i64 (M : Int)) w := fun t ts w => by rw [hM]; exact max4 t ts rn mn fn en w
  rw [← hM]
  clear hM b0 b1 b2 b3
  go_enter Tryz.func83, Tryz.ntmps83
  go_wp2_with fail
  go_quiet (fail)
  go_wp2_with fail
  go_ret
  exact ⟨ret_bool (by simp; omega), bel_drewN (Below.refl _ _) _⟩
def rightP : Part → Bool
  | .inl (.inl h) => rightT h
  | .inl (.inr h) => rightD h
  | .inr (.inl h) => rightS h
  | .inr (.inr h) => rightE h
def PartOk : Part → Prop
  | .inl (.inr h) => SortOk h
  | _ => True
set_option maxRecDepth 100000 in
set_option maxHeartbeats 1000000 in
theorem isRight_any (w : World) (p : Part) (d : PRds w p) (hs : PartOk p) (hm : MX w) : Calls Tryz.prog 56 #[labP p] w fun e w' => e = .returned (.bool (rightP p)) ∧ Below w.heap.size w w' := by
  rcases p with (h | h) | (h | h)
  · have K := hid (isRightT_any w h d)
    simp only [labP, rightP]
    generalize rightT h = r at *
    clear d hs hm
    go_enter Tryz.func56, Tryz.ntmps56
    go_wp2_with (go_at_call 83; (refine (Hid.out K).mono ?_; rintro e w1 ⟨rfl, hb⟩))
    go_ret
    exact ⟨rfl, hb⟩
  · have hb0 := (Below.refl w.heap.size w).alloc (Nat.le_refl _) (.cells #[.string h.sort, .pointer (some ⟨h.b, h.o, none⟩)] 105)
    have K := hid (isRightD_any (w.alloc (.cells #[.string h.sort, .pointer (some ⟨h.b, h.o, none⟩)] 105)) h (DHr.below d (Nat.le_refl _) hb0) (hm.below hm.lt hb0) hs)
    have HB := hid hb0
    simp only [labP, rightP]
    generalize rightD h = r at *
    clear d hs hm hb0
    go_enter Tryz.func56, Tryz.ntmps56
    go_wp2_with (go_at_call 84; (refine (Hid.out K).mono ?_; rintro e w1 ⟨rfl, hb⟩; have HB1 := hid (HB.out.trans (hb.mono HB.out.size)); clear hb))
    go_ret
    exact ⟨rfl, HB1.out⟩
  · have K := hid (isRightS_any w h d hm)
    simp only [labP, rightP]
    generalize rightS h = r at *
    clear d hs hm
    go_enter Tryz.func56, Tryz.ntmps56
    go_wp2_with (go_at_call 85; (refine (Hid.out K).mono ?_; rintro e w1 ⟨rfl, hb⟩))
    go_ret
    exact ⟨rfl, hb⟩
  · have K := hid (isRightE_any w h d hm)
    simp only [labP, rightP]
    generalize rightE h = r at *
    clear d hs hm
    go_enter Tryz.func56, Tryz.ntmps56
    go_wp2_with (go_at_call 86; (refine (Hid.out K).mono ?_; rintro e w1 ⟨rfl, hb⟩))
    go_ret
    exact ⟨rfl, hb⟩
end Go.Proofs.YtdfambocenohgaaGreatDoor

namespace Go.Proofs.YtdfambocenohgaaGreatDoor
open Go.RowKit Go.Deep
set_option linter.unusedVariables false
set_option linter.unusedSimpArgs false
attribute [local go_sem] Oper.semAt_some

theorem keep_cells {W W' : World} {row : Option Nat} {B b : Nat} {c : Array Value} {t : TypeId} (hs : W.heap[b]? = some (.cells c t (0, 0))) (hg : W.grownBy W' row) (hr : ∀ r, row = some r → B ≤ r ∧ ∃ o : Obj, W.heap[r]? = some o ∧ o.isCells = false) : W'.heap[b]? = some (.cells c t (0, 0)) := by
  rw [hg.block b (Array.getElem?_eq_some_iff.1 hs).1 (fun e => by
    obtain ⟨_, o, ho, hc⟩ := hr b e.symm
    rw [hs] at ho; cases ho; cases hc)]
  exact hs
theorem keepsFrom_below {B : Nat} {W W' : World} (k : Below W.heap.size W W') : KeepsFrom B W W' := ⟨k.size, fun j o _ hj _ => (k.block j (Array.getElem?_eq_some_iff.1 hj).1).trans hj⟩
theorem set_cells {W : World} {b : Nat} {v0 : Value} {t : TypeId} (h : W.heap[b]? = some (.cells #[v0] t (0, 0))) (v : Value) : (W.setCell ⟨b, 0, none⟩ v).heap[b]? = some (.cells #[v] t (0, 0)) := by
  simp [World.setCell, Array.getElem?_modify, h]
/- Between two rounds: all were right so far. -/
def MI (w : World) (ps : List Part) (pre : List (Fin ps.length)) (W : World) : Prop :=
  W.heap[w.heap.size]? = some (.cells #[.bool false] 4 (0, 0)) ∧ (∀ x ∈ pre, rightP ps[x] = true) ∧ Below w.heap.size w W ∧ w.heap.size + 2 ≤ W.heap.size
theorem MI_own (w : World) (ps : List Part) {B : Nat} (hB : w.heap.size ≤ B) : OwnFrom B (MI w ps) := fun s A A' row hs hg hr =>
  ⟨keep_cells hs.1 hg hr, hs.2.1, ownFrom_below (β := Unit) (Nat.le_refl _) hB () A A' row hs.2.2.1 hg hr, Nat.le_trans hs.2.2.2 hg.size⟩
theorem MI.below {w W W' : World} {ps : List Part} {pre : List (Fin ps.length)} (h : MI w ps pre W) (k : Below W.heap.size W W') : MI w ps pre W' := by
  have hl : ∀ {b : Nat} {o : Obj}, W.heap[b]? = some o → W'.heap[b]? = some o := fun e => (k.block _ (Array.getElem?_eq_some_iff.1 e).1).trans e
  exact ⟨hl h.1, h.2.1, h.2.2.1.trans (k.mono h.2.2.1.size), Nat.le_trans h.2.2.2 k.size⟩
theorem MI.snoc {w W : World} {ps : List Part} {pre : List (Fin ps.length)} {x : Fin ps.length} (h : MI w ps pre W) (hx : rightP ps[x] = true) : MI w ps (pre ++ [x]) W := ⟨h.1, fun y hy => by
  rcases List.mem_append.1 hy with hy | hy
  · exact h.2.1 y hy
  · simp at hy; subst hy; exact hx, h.2.2⟩
def MZ (w : World) (ps : List Part) (c : Code) (pre : List (Fin ps.length)) (W : World) : Prop :=
  c = .ret ∧ ps.all rightP = false ∧ W.heap[w.heap.size]? = some (.cells #[.bool false] 4 (0, 0)) ∧ Below w.heap.size w W
theorem MZ_own (w : World) (ps : List Part) (c : Code) {B : Nat} (hB : w.heap.size ≤ B) : OwnFrom B (MZ w ps c) := fun s A A' row hs hg hr =>
  ⟨hs.1, hs.2.1, keep_cells hs.2.2.1 hg hr, ownFrom_below (β := Unit) (Nat.le_refl _) hB () A A' row hs.2.2.2 hg hr⟩
set_option maxRecDepth 100000 in
set_option maxHeartbeats 1000000 in
theorem mayBe_any (w : World) (root : Part) (ps : List Part) (h : Whole w root ps) (hok : ∀ p ∈ ps, PartOk p) (hm : MX w) :
    Calls Tryz.prog 31 #[labP root] w fun e w' => e = .returned (.bool (ps.all rightP)) ∧ Below w.heap.size w w' := by
  have hro : Fence.wide.round = none := rfl
  have KC : Hid (∀ (x : Fin ps.length) (w1 : World), Below w.heap.size w w1 → Calls Tryz.prog 56 #[labP ps[x]] w1 fun e w' => e = .returned (.bool (rightP ps[x])) ∧ Below w1.heap.size w1 w') := hid (fun x w1 hb => by
    have hx : ps[x] ∈ ps := List.getElem_mem _
    have hd : PRds w1 ps[x] := by
      have := h.rd _ hx
      generalize ps[x] = p at *
      rcases p with (q | q) | (q | q)
      · exact THr.below this (Nat.le_refl _) hb
      · exact DHr.below this (Nat.le_refl _) hb
      · exact SHr.below this (Nat.le_refl _) hb
      · exact EHr.below this (Nat.le_refl _) hb
    exact isRight_any w1 _ hd (hok _ hx) (hm.below hm.lt hb))
  obtain ⟨W0, hW0⟩ : ∃ W0, W0 = w.alloc (.cells #[.bool false] 4) := ⟨_, rfl⟩
  obtain ⟨W1, hW1⟩ : ∃ W1, W1 = W0.alloc (.cells #[labP root] 20) := ⟨_, rfl⟩
  have hz0 : W0.heap.size = w.heap.size + 1 := by rw [hW0]; simp
  have hz1 : W1.heap.size = w.heap.size + 1 + 1 := by rw [hW1]; simp; omega
  have n0 : W1.heap[w.heap.size]? = some (.cells #[.bool false] 4 (0, 0)) := by rw [hW1]; exact (Below.heap_alloc _ _ _ (by omega)).trans (by rw [hW0]; exact heap_alloc_new _ _)
  have n1 : W1.heap[w.heap.size + 1]? = some (.cells #[labP root] 20 (0, 0)) := by
    have := heap_alloc_new W0 (.cells #[labP root] 20)
    rw [hz0, ← hW1] at this
    exact this
  have hb1 : Below w.heap.size w W1 := by rw [hW1, hW0]; exact ((Below.refl _ w).alloc (Nat.le_refl _) _).alloc (by simp) _
  have hseq := parts_stops h 5 (w.heap.size + 1) W1 hb1 n1
  have h70 : MI w ps [] W1 := ⟨n0, by simp, hb1, by omega⟩
  have hC : w.heap.size ≤ W1.heap.size := by omega
  clear n0 n1 hb1 hm hok h
  refine (callsIn_wide (n := 6)).1 ?_
  refine callsIn_of_wp_marks Tryz.func31 rfl trivial ?_ hro
  simp only [Tryz.ntmps31, List.size_toArray, List.length_cons, List.length_nil, Nat.reduceAdd, Nat.reduceSub, Array.replicate_succ, Array.replicate_zero, List.push_toArray, List.append_toArray, List.nil_append, List.cons_append]
  gi_wp2_with (refine ⟨trivial, ?_⟩; gi_at_call 38; refine (parts_in _ _ trivial hro _ _).mono ?_; rintro e w7 ⟨rfl, rfl⟩)
  rw [← hW0]
  try simp only [hz0]
  rw [← hW1]
  clear hW0 hW1
  refine wpIn_rangeFunc_ownH hro (by omega) (gf := 61) (lb := #[.pointer (some ⟨w.heap.size + 1, 0, none⟩)]) rfl trivial (enters_of Tryz.func61 (by kernel_rfl) rfl) hseq belowK_t (belowK_b (by omega)) (Below.refl _ _) (fun _ => rfl)
      (MI w ps) (MZ w ps) (MI_own w ps hC) (fun c => MZ_own w ps c hC)
      h70
      (fun (x : Fin ps.length) (a' : Act) (W : World) => a' = { tmps := #[labP root, undef, .pointer (some ⟨w.heap.size, 0, none⟩), labP ps[x], labP root, .func (.func 61) #[] #[.pointer (some ⟨w.heap.size + 1, 0, none⟩)], labP ps[x], undef, undef, undef], defers := [] })
      (fun x a' u A B rw' hs hg hr => hs)
      ?assign ?body ?done ?stop
  case assign =>
    rintro ll pre x W K hi hK
    simp only [encP] at hK ⊢
    generalize labP ps[x] = lp at *
    gi_wp2
    exact hK _ _ (keepsFrom_below (Below.refl _ _)) (Below.refl _ _) hi rfl
  case body =>
    rintro ll pre x a' W hll ⟨rr, hrr⟩ hi rfl hlt
    have HI := hid hi
    have K1 := hid (KC.out x W hi.2.2.1)
    have c0 := cellT hi.1 0
    simp only [List.getElem?_toArray, List.getElem?_cons_zero] at c0
    have HS := hid (show ps[x] ∈ ps from List.getElem_mem _)
    clear hseq hi h70
    cases hq : rightP ps[x] with
    | true =>
      rw [hq] at K1
      have HQ := hid hq
      clear hq
      generalize labP ps[x] = lp at *
      gi_wp2_with (refine ⟨trivial, ?_⟩; gi_at_call 56; refine (CallsIn.inRound ll (callsIn_wide.2 (Hid.out K1))).mono ?_; rintro e w8 ⟨rfl, hb8⟩)
      exact ⟨keepsFrom_below hb8, hb8.mono (by have := HI.out.2.2.2; omega), (HI.out.below hb8).snoc HQ.out⟩
    | false =>
      rw [hq] at K1
      have HQ := hid hq
      clear hq
      have HF : Hid (ps.all rightP = false) := hid (by rw [List.all_eq_false]; exact ⟨ps[x], HS.out, by rw [HQ.out]; decide⟩)
      generalize labP ps[x] = lp at *
      gi_wp2_with (refine ⟨trivial, ?_⟩; gi_at_call 56; refine (CallsIn.inRound ll (callsIn_wide.2 (Hid.out K1))).mono ?_; rintro e w8 ⟨rfl, hb8⟩; have hbx := (HI.out.below hb8).1; have y0 := cellT hbx 0; have y1 := freeT hbx 0; simp only [List.getElem?_toArray, List.getElem?_cons_zero] at y0; have HX := hid hbx; have HB8 := hid hb8; clear hbx hb8)
      refine ⟨(keepsFrom_below HB8.out).trans ((KeepsOthers.setCell _ _ _).from _), rfl, HF.out, set_cells HX.out _, ?_⟩
      exact ((HI.out.below HB8.out).2.2.1).setCell (p := ⟨w.heap.size, 0, none⟩) (Nat.le_refl _) _
  case done =>
    rintro D' ys W hD rfl hI hK
    have HT : Hid (ps.all rightP = true) := hid (by
      rw [List.all_eq_true]
      intro p hp
      obtain ⟨k, hk, e⟩ := List.getElem_of_mem hp
      have := hI.2.1 ⟨k, hk⟩ (List.mem_finRange _)
      rw [← e]; exact this)
    have y0 := cellT hI.1 0
    have y1 := freeT hI.1 0
    simp only [List.getElem?_toArray, List.getElem?_cons_zero] at y0
    have HI := hid hI
    have HK := hid hK
    clear hseq hI hK h70
    gi_wp2
    obtain ⟨Wf, hWf⟩ : ∃ Wf, Wf = W.setCell ⟨w.heap.size, 0, none⟩ (.bool true) := ⟨_, rfl⟩
    rw [← hWf]
    have k2 : Wf.heap[w.heap.size]? = some (.cells #[.bool true] 4 (0, 0)) := by rw [hWf]; exact set_cells HI.out.1 _
    have kD : Wf.heap[D']? = some (.deferred (some [])) := by
      rw [hWf]; exact (Below.heap_setCell _ _ _ _ (by show D' ≠ w.heap.size; omega)).trans HK.out
    have kB : Below w.heap.size w Wf := by rw [hWf]; exact HI.out.2.2.1.setCell (p := ⟨w.heap.size, 0, none⟩) (Nat.le_refl _) _
    have h9 := keep_cells (B := 0) k2 (grownBy_putObj' _ D' (.deferred none)) (fun r e => by cases e; exact ⟨Nat.zero_le _, _, kD, rfl⟩)
    have h10 : Below w.heap.size w (Wf.putObj D' (.deferred none)) := ownFrom_below (β := Unit) (Nat.le_refl _) (Nat.le_refl _) () _ _ _ kB (grownBy_putObj' _ D' (.deferred none)) (fun r e => by cases e; exact ⟨by omega, _, kD, rfl⟩)
    have r0 := cellT h9 0
    simp only [List.getElem?_toArray, List.getElem?_cons_zero] at r0
    refine ⟨by simp, .inl ⟨_, _, rfl, run_takeDeferred kD, ?_⟩⟩
    refine ⟨.bool true, by simp [results, Tryz.results31, go_sem, r0], ?_⟩
    rw [HT.out]
    exact ⟨rfl, h10⟩
  case stop =>
    rintro D' c pre W hD hp ⟨rfl, hF, hbx, hbw⟩ hK
    have h9 := keep_cells (B := 0) hbx (grownBy_putObj' _ D' (.deferred none)) (fun r e => by cases e; exact ⟨Nat.zero_le _, _, hK, rfl⟩)
    have h10 : Below w.heap.size w (W.putObj D' (.deferred none)) := ownFrom_below (β := Unit) (Nat.le_refl _) (Nat.le_refl _) () _ _ _ hbw (grownBy_putObj' _ D' (.deferred none)) (fun r e => by cases e; exact ⟨by omega, _, hK, rfl⟩)
    have r0 := cellT h9 0
    simp only [List.getElem?_toArray, List.getElem?_cons_zero] at r0
    clear hseq h70
    gi_wp2
    refine ⟨by simp, .inl ⟨_, _, rfl, run_takeDeferred hK, ?_⟩⟩
    refine ⟨.bool false, by simp [results, Tryz.results31, go_sem, r0], ?_⟩
    rw [hF]
    exact ⟨rfl, h10⟩
end Go.Proofs.YtdfambocenohgaaGreatDoor

namespace Go.Proofs.YtdfambocenohgaaGreatDoor
open Go.RowKit Go.Deep
set_option linter.unusedVariables false
set_option linter.unusedSimpArgs false
attribute [local go_sem] Oper.semAt_some

def TH.cs (h : TH) : Array Value := #[.slice h.ra h.rn h.rc, .slice h.ma h.mn h.mc, .slice h.fa h.fn h.fc, .slice h.ea h.en h.ec]
/- A tree that is handed over: its rows, wherever it lies. -/
structure TVs (k : Nat) (w : World) (t : TT k) : Prop where
  rs : DLs k w wRec t.h.ra t.h.rn t.rs
  ms : DLs k w wMap t.h.ma t.h.mn t.ms
  fs : DLs k w wFn t.h.fa t.h.fn t.fs
  es : DLs k w wOn t.h.ea t.h.en t.es
  rb : t.h.rn ≤ 1000000
  mb : t.h.mn ≤ 1000000
  fb : t.h.fn ≤ 1000000
  eb : t.h.en ≤ 1000000
theorem TVs.below {k : Nat} {w w' : World} {t : TT k} {B : Nat} (d : TVs k w t) (hB : w.heap.size ≤ B) (h : Below B w w') : TVs k w' t := ⟨d.rs.below hB h, d.ms.below hB h, d.fs.below hB h, d.es.below hB h, d.rb, d.mb, d.fb, d.eb⟩
def TT.atB {k : Nat} (t : TT k) (M : Nat) : TT k := { t with h := { t.h with b := M, o := 0 } }
theorem TVs.box {k : Nat} {W : World} {t : TT k} {M : Nat} (d : TVs k W t) (hb : W.heap[M]? = some (.cells t.h.cs 24 (0, 0))) : TRds k W (t.atB M) := by
  have c := cellT hb
  exact ⟨⟨c 0, c 1, c 2, c 3, d.rb, d.mb, d.fb, d.eb⟩, d.rs, d.ms, d.fs, d.es⟩
/- The parts, whatever the tree's own place. -/
def inT {k : Nat} (t : TT k) : List Part := t.rs.flatMap ptD ++ (t.ms.flatMap ptD ++ (t.fs.flatMap ptD ++ t.es.flatMap ptD))
theorem ptT_at {k : Nat} (t : TT k) (M : Nat) : ptT (t.atB M) = .inl (.inl { t.h with b := M, o := 0 }) :: inT t := rfl
theorem sort_rows {k : Nat} {w : World} {s : ByteArray} {a : Option Addr} {n : Nat} {ts : List (DT k)} (d : DLs k w s a n ts) (hs : s = wRec ∨ s = wMap ∨ s = wFn ∨ s = wOn) : ∀ p ∈ ts.flatMap ptD, PartOk p := by
  intro p hp
  obtain ⟨u, hu, hp⟩ := List.mem_flatMap.1 hp
  rcases List.mem_cons.1 hp with rfl | hp
  · show SortOk u.1
    unfold SortOk
    rw [d.s u hu]; exact hs
  · obtain ⟨v, hv, hp⟩ := List.mem_flatMap.1 hp
    have : ∀ (k : Nat) (t : ST k), ∀ p ∈ ptS k t, PartOk p := by
      have hE : ∀ (k : Nat) (t : ET k), ∀ p ∈ ptE k t, PartOk p := by
        intro k
        induction k with
        | zero => intro t; exact Empty.elim t
        | succ k ih =>
          intro t p hp
          rcases List.mem_cons.1 hp with rfl | hp
          · trivial
          · obtain ⟨u, hu, hp⟩ := List.mem_flatMap.1 hp
            exact ih u p hp
      intro k
      induction k with
      | zero => intro t; exact Empty.elim t
      | succ k ih =>
        intro t p hp
        rcases List.mem_cons.1 hp with rfl | hp
        · trivial
        · rcases List.mem_append.1 hp with hp | hp
          · obtain ⟨u, hu, hp⟩ := List.mem_flatMap.1 hp
            exact hE k u p hp
          · rcases List.mem_append.1 hp with hp | hp
            · obtain ⟨u, hu, hp⟩ := List.mem_flatMap.1 hp
              exact ih u p hp
            · obtain ⟨u, hu, hp⟩ := List.mem_flatMap.1 hp
              exact ih u p hp
    exact this k v p hp
theorem inT_ok {k : Nat} {w : World} {t : TT k} (d : TVs k w t) : ∀ p ∈ inT t, PartOk p := by
  intro p hp
  rcases List.mem_append.1 hp with hp | hp
  · exact sort_rows d.rs (.inl rfl) p hp
  · rcases List.mem_append.1 hp with hp | hp
    · exact sort_rows d.ms (.inr (.inl rfl)) p hp
    · rcases List.mem_append.1 hp with hp | hp
      · exact sort_rows d.fs (.inr (.inr (.inl rfl))) p hp
      · exact sort_rows d.es (.inr (.inr (.inr rfl))) p hp
theorem ptT_ok {k : Nat} {w : World} {t : TT k} (d : TVs k w t) (M : Nat) : ∀ p ∈ ptT (t.atB M), PartOk p := by
  intro p hp
  rw [ptT_at] at hp
  rcases List.mem_cons.1 hp with rfl | hp
  · trivial
  · exact inT_ok d p hp
def okT {k : Nat} (t : TT k) : Bool := rightT t.h && (inT t).all rightP
theorem okT_at {k : Nat} (t : TT k) (M : Nat) : (ptT (t.atB M)).all rightP = okT t := rfl
set_option maxRecDepth 100000 in
theorem isTree_any (k : Nat) (w : World) (t : TT k) (d : TVs k w t) (hm : MX w) : Calls Tryz.prog 13 #[.agg t.h.cs] w fun e w' => e = .returned (.bool (okT t)) ∧ Below w.heap.size w w' := by
  obtain ⟨W, hW⟩ : ∃ W, W = w.alloc (.cells t.h.cs 24) := ⟨_, rfl⟩
  have hbw : Below w.heap.size w W := by rw [hW]; exact (Below.refl _ w).alloc (Nat.le_refl _) _
  have hb : W.heap[w.heap.size]? = some (.cells t.h.cs 24 (0, 0)) := by rw [hW]; exact heap_alloc_new _ _
  have dW := d.below (Nat.le_refl _) hbw
  have K := hid (mayBe_any W _ _ (whole_tree (dW.box hb)) (ptT_ok dW _) (hm.below hm.lt hbw))
  rw [okT_at] at K
  have HW := hid hbw
  simp only [TT.atB, labP] at K
  simp only [TH.cs] at hW ⊢
  generalize okT t = r at *
  clear d hm hbw hb dW
  go_enter Tryz.func13, Tryz.ntmps13
  go_wp2_with (go_at_call 31; (rw [← hW]; refine (Hid.out K).mono ?_; rintro e w1 ⟨rfl, hb1⟩; have HB := hid (HW.out.trans (hb1.mono HW.out.size)); clear hb1 hW))
  go_ret
  exact ⟨rfl, HB.out⟩
/- How many statements and expressions. -/
def cnt (ps : List Part) : Nat := (ps.filter szP).length
def SI (w : World) (ps : List Part) (pre : List (Fin ps.length)) (W : World) : Prop :=
  W.heap[w.heap.size + 1]? = some (.cells #[.int .i64 (cnt (pre.map fun x => ps[x]) : Nat)] 3 (0, 0)) ∧ Below w.heap.size w W ∧ w.heap.size + 3 ≤ W.heap.size
theorem SI_own (w : World) (ps : List Part) {B : Nat} (hB : w.heap.size ≤ B) : OwnFrom B (SI w ps) := fun s A A' row hs hg hr =>
  ⟨keep_cells hs.1 hg hr, ownFrom_below (β := Unit) (Nat.le_refl _) hB () A A' row hs.2.1 hg hr, Nat.le_trans hs.2.2 hg.size⟩
def SZ (ps : List Part) (c : Code) (pre : List (Fin ps.length)) (W : World) : Prop := False
theorem cnt_snoc (l : List Part) (p : Part) : cnt (l ++ [p]) = cnt l + (if szP p = true then 1 else 0) := by
  unfold cnt
  rw [List.filter_append, List.length_append]
  cases h : szP p <;> simp [h]
theorem map_fin (ps : List Part) : (List.finRange ps.length).map (fun x => ps[x]) = ps := by
  apply List.ext_getElem?
  intro i
  simp only [List.getElem?_map]
  by_cases h : i < ps.length
  · rw [List.getElem?_eq_getElem (by simpa using h), List.getElem?_eq_getElem h]; simp
  · rw [List.getElem?_eq_none (by simpa using h), List.getElem?_eq_none (by omega)]; rfl
set_option maxRecDepth 100000 in
set_option maxHeartbeats 1000000 in
theorem size_any (k : Nat) (w : World) (t : TT k) (d : TVs k w t) (hn : (inT t).length ≤ 1000000000) : Calls Tryz.prog 17 #[.agg t.h.cs] w fun e w' => e = .returned (.int .i64 (cnt (inT t) : Nat)) ∧ Below w.heap.size w w' := by
  have hro : Fence.wide.round = none := rfl
  obtain ⟨Wa, hWa⟩ : ∃ Wa, Wa = w.alloc (.cells t.h.cs 24) := ⟨_, rfl⟩
  obtain ⟨W0, hW0⟩ : ∃ W0, W0 = Wa.alloc (.cells #[.int .i64 0] 3) := ⟨_, rfl⟩
  have hza : Wa.heap.size = w.heap.size + 1 := by rw [hWa]; simp
  have hz0 : W0.heap.size = w.heap.size + 1 + 1 := by rw [hW0]; simp; omega
  have na : Wa.heap[w.heap.size]? = some (.cells t.h.cs 24 (0, 0)) := by rw [hWa]; exact heap_alloc_new _ _
  have n0 : W0.heap[w.heap.size]? = some (.cells t.h.cs 24 (0, 0)) := by rw [hW0]; exact (Below.heap_alloc _ _ _ (by omega)).trans na
  have n1 : W0.heap[w.heap.size + 1]? = some (.cells #[.int .i64 0] 3 (0, 0)) := by
    have := heap_alloc_new Wa (.cells #[.int .i64 0] 3)
    rw [hza, ← hW0] at this
    exact this
  have hba : Below w.heap.size w Wa := by rw [hWa]; exact (Below.refl _ w).alloc (Nat.le_refl _) _
  have hb0 : Below w.heap.size w W0 := by rw [hW0]; exact hba.alloc (by omega) _
  have hwh := whole_tree ((d.below (Nat.le_refl _) hba).box na)
  rw [ptT_at] at hwh
  obtain ⟨ps, hps⟩ : ∃ ps : List Part, ps = .inl (.inl { t.h with b := w.heap.size, o := 0 }) :: inT t := ⟨_, rfl⟩
  rw [← hps] at hwh
  have hcn : cnt (inT t) = cnt ps := by rw [hps]; rfl
  have hlen : ps.length ≤ 1000000001 := by rw [hps]; simp; omega
  rw [hcn]
  obtain ⟨W1, hW1⟩ : ∃ W1, W1 = W0.alloc (.cells #[labP (.inl (.inl { t.h with b := w.heap.size, o := 0 }))] 20) := ⟨_, rfl⟩
  have hz1 : W1.heap.size = w.heap.size + 1 + 1 + 1 := by rw [hW1]; simp; omega
  have hb1 : Below w.heap.size w W1 := by rw [hW1]; exact hb0.alloc (by omega) _
  have hb01 : Below Wa.heap.size Wa W1 := by rw [hW1, hW0]; exact ((Below.refl _ _).alloc (Nat.le_refl _) _).alloc (by simp) _
  have hb02 : Below W0.heap.size W0 W1 := by rw [hW1]; exact (Below.refl _ _).alloc (Nat.le_refl _) _
  have n2 : W1.heap[w.heap.size + 1 + 1]? = some (.cells #[labP (.inl (.inl { t.h with b := w.heap.size, o := 0 }))] 20 (0, 0)) := by
    have := heap_alloc_new W0 (.cells #[labP (.inl (.inl { t.h with b := w.heap.size, o := 0 }))] 20)
    rw [hz0, ← hW1] at this
    exact this
  have n3 : W1.heap[w.heap.size + 1]? = some (.cells #[.int .i64 0] 3 (0, 0)) := (hb02.block _ (by omega)).trans n1
  have hseq := parts_stops hwh 5 (w.heap.size + 1 + 1) W1 hb01 n2
  have h70 : SI w ps [] W1 := ⟨n3, hb1, by omega⟩
  have hC : w.heap.size ≤ W1.heap.size := by omega
  simp only [TH.cs] at hWa ⊢
  simp only [labP] at hW1
  clear n0 n1 n2 n3 na hb1 hb0 hba d hwh hps hcn hn hb01 hb02
  refine (callsIn_wide (n := 6)).1 ?_
  refine callsIn_of_wp_marks Tryz.func17 rfl trivial ?_ hro
  simp only [Tryz.ntmps17, List.size_toArray, List.length_cons, List.length_nil, Nat.reduceAdd, Nat.reduceSub, Array.replicate_succ, Array.replicate_zero, List.push_toArray, List.append_toArray, List.nil_append, List.cons_append]
  gi_wp2_with (refine ⟨trivial, ?_⟩; gi_at_call 38; refine (parts_in _ _ trivial hro (.inl (.inl { t.h with b := w.heap.size, o := 0 })) _).mono ?_; simp only [labP]; rintro e w7 ⟨rfl, rfl⟩)
  rw [← hWa, ← hW0]
  try simp only [hza, hz0]
  rw [← hW1]
  clear hWa hW0 hW1
  generalize Value.agg #[.slice t.h.ra t.h.rn t.h.rc, .slice t.h.ma t.h.mn t.h.mc, .slice t.h.fa t.h.fn t.h.fc, .slice t.h.ea t.h.en t.h.ec] = tv at *
  refine wpIn_rangeFunc_ownH hro (by omega) (gf := 61) (lb := #[.pointer (some ⟨w.heap.size + 1 + 1, 0, none⟩)]) rfl trivial (enters_of Tryz.func61 (by kernel_rfl) rfl) hseq belowK_t (belowK_b (by omega)) (Below.refl _ _) (fun _ => rfl)
      (SI w ps) (SZ ps) (SI_own w ps hC) (fun c s A A' row hs hg hr => hs)
      h70
      (fun (x : Fin ps.length) (a' : Act) (W : World) => a' = { tmps := #[tv, .pointer (some ⟨w.heap.size, 0, none⟩), .int .i64 0, .pointer (some ⟨w.heap.size + 1, 0, none⟩), labP ps[x], .iface 58 (.pointer (some ⟨w.heap.size, 0, none⟩)), .func (.func 61) #[] #[.pointer (some ⟨w.heap.size + 1 + 1, 0, none⟩)], labP ps[x], undef, undef, undef, undef, undef], defers := [] })
      (fun x a' u A B rw' hs hg hr => hs)
      ?assign ?body ?done ?stop
  case assign =>
    rintro ll pre x W K hi hK
    simp only [encP] at hK ⊢
    generalize labP ps[x] = lp at *
    gi_wp2
    exact hK _ _ (keepsFrom_below (Below.refl _ _)) (Below.refl _ _) hi rfl
  case body =>
    rintro ll pre x a' W hll ⟨rr, hrr⟩ hi rfl hlt
    have HI := hid hi
    have K1 := hid (hasSize_any W ps[x])
    have c0 := cellT hi.1 0
    have f0 := freeT hi.1 0
    simp only [List.getElem?_toArray, List.getElem?_cons_zero] at c0
    have hcl : cnt (pre.map fun x => ps[x]) ≤ 1000000001 := by
      unfold cnt
      have h1 := List.length_filter_le szP (pre.map fun x => ps[x])
      rw [List.length_map] at h1
      omega
    have HC := hid (cnt_snoc (pre.map fun x => ps[x]) ps[x])
    obtain ⟨N, hN⟩ : ∃ N, N = cnt (pre.map fun x => ps[x]) := ⟨_, rfl⟩
    rw [← hN] at c0 hcl HC
    have HN := hid hN
    have hNI : (N : Int) ≤ 1000000001 := by omega
    have HM : Hid ((pre ++ [x]).map (fun x => ps[x]) = pre.map (fun x => ps[x]) ++ [ps[x]]) := hid (by simp)
    clear hseq hi h70 hcl hN
    cases hq : szP ps[x] with
    | true =>
      rw [hq] at K1 HC
      clear hq
      generalize labP ps[x] = lp at *
      gi_wp2_with (refine ⟨trivial, ?_⟩; gi_at_call 39; refine (CallsIn.inRound ll (callsIn_wide.2 (Hid.out K1))).mono ?_; rintro e w8 ⟨rfl, rfl⟩)
      refine ⟨(KeepsOthers.setCell _ _ _).from _, (Below.refl _ _).setCell (p := ⟨w.heap.size + 1, 0, none⟩) (by show _ ≤ w.heap.size + 1; omega) _, ?_, HI.out.2.1.setCell (p := ⟨w.heap.size + 1, 0, none⟩) (by show _ ≤ w.heap.size + 1; omega) _, by simp [World.setCell]; exact HI.out.2.2⟩
      rw [HM.out, HC.out]
      refine (set_cells HI.out.1 _).trans ?_
      simp
    | false =>
      rw [hq] at K1 HC
      clear hq
      generalize labP ps[x] = lp at *
      gi_wp2_with (refine ⟨trivial, ?_⟩; gi_at_call 39; refine (CallsIn.inRound ll (callsIn_wide.2 (Hid.out K1))).mono ?_; rintro e w8 ⟨rfl, rfl⟩)
      refine ⟨keepsFrom_below (Below.refl _ _), Below.refl _ _, ?_, HI.out.2⟩
      rw [HM.out, HC.out, HN.out]
      simpa using HI.out.1
  case done =>
    rintro D' ys W hD rfl hI hK
    have h1 := hI.1
    rw [map_fin] at h1
    have y0 := cellT h1 0
    simp only [List.getElem?_toArray, List.getElem?_cons_zero] at y0
    have HI := hid hI
    have HK := hid hK
    obtain ⟨N, hN⟩ : ∃ N, N = cnt ps := ⟨_, rfl⟩
    rw [← hN] at y0
    have HN := hid hN
    have h10 : Below w.heap.size w (W.putObj D' (.deferred none)) := ownFrom_below (β := Unit) (Nat.le_refl _) (Nat.le_refl _) () _ _ _ hI.2.1 (grownBy_putObj' _ D' (.deferred none)) (fun r e => by cases e; exact ⟨by omega, _, hK, rfl⟩)
    have H10 := hid h10
    clear hseq hI hK h70 h10 h1 hN
    gi_wp2
    refine ⟨by simp, .inl ⟨_, _, rfl, run_takeDeferred HK.out, ?_⟩⟩
    exact ⟨.int .i64 (N : Int), by simp [results, Tryz.results17, go_sem], by rw [HN.out], H10.out⟩
  case stop =>
    rintro D' c pre W hD hp hF hK
    exact hF.elim
end Go.Proofs.YtdfambocenohgaaGreatDoor

