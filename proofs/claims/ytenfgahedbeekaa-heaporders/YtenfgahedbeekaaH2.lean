/- HeapOrders: the walk. -/
import Derived.Test.YtenfgahedbeekaaG2
import Derived.BigQuiet
namespace Go.Proofs.Ytenfgahedbeekaa
open Go.RowKit Go.Deep Go.Shelf
set_option linter.unusedVariables false
set_option linter.unusedSimpArgs false

def K16 (w : World) (a : Option Addr) (xs : List Int) : Prop := ∀ (j : Nat) (x : Int), xs[j]? = some x → (-32768 ≤ x ∧ x ≤ 32767) ∧ ∃ b off, a = some ⟨b, off, none⟩ ∧ w.cell? ⟨b, off + j, none⟩ = some (.int .i16 x)
def K8 (w : World) (a : Option Addr) (xs : List Int) : Prop := ∀ (j : Nat) (x : Int), xs[j]? = some x → (0 ≤ x ∧ x ≤ 255) ∧ ∃ b off, a = some ⟨b, off, none⟩ ∧ w.cell? ⟨b, off + j, none⟩ = some (.int .u8 x)
theorem K16.below {w w' : World} {a : Option Addr} {xs : List Int} (h : K16 w a xs) (hb : Below w.heap.size w w') : K16 w' a xs := fun j x hx => by
  obtain ⟨h1, b, off, e, hc⟩ := h j x hx
  exact ⟨h1, b, off, e, (hb.cell (p := ⟨b, off + j, none⟩) (World.block_lt_of_cell? w _ hc)).trans hc⟩
theorem K8.below {w w' : World} {a : Option Addr} {xs : List Int} (h : K8 w a xs) (hb : Below w.heap.size w w') : K8 w' a xs := fun j x hx => by
  obtain ⟨h1, b, off, e, hc⟩ := h j x hx
  exact ⟨h1, b, off, e, (hb.cell (p := ⟨b, off + j, none⟩) (World.block_lt_of_cell? w _ hc)).trans hc⟩
theorem step_cutM {ops : Array Oper} {o : Oper} {a : Act} {w : World} {K : Act → World → Prop} {Q : Exit → Act → World → Prop} {E : Prop} (hgd : o.guard = none) (s x : Operand)
    (ho : o.op = .call { callee := .builtin .append, args := #[s, x], argTypes := #[67, 67] }) (sv xv : Value) (hs : a.eval s = sv) (hx : a.eval x = xv)
    (B : Nat) (v : Option Addr) (n cap k m : Nat) (hm : m = n - 1) (hsv : sv = .slice v k k) (hxv : xv = sliced v (k + 1) n cap 1) (xs : List Int) (hr : GRow w B v n cap xs) (hn : n ≤ 1000) (hk : k < n) (hB : B ≤ w.heap.size)
    (kk : ∀ v' cap' w', GRow w' B v' m cap' (xs.take k ++ xs.drop (k + 1)) → w.grownBy w' none → (v' = v ∨ ∃ g, v' = some ⟨g, 0, none⟩ ∧ w.heap.size ≤ g) → K (a.put o.dst (.slice v' m cap')) w') :
    if Region.wanted o (yielded ops a.tmps) = true then Oper.wp Try.prog o a w K Q else E := by
  subst hm
  exact step_cutG hgd s x ho sv xv hs hx B v n cap k hsv hxv xs hr hn hk hB kk
theorem wpList_app1M {ops : Array Oper} {rest : List Oper} {o : Oper} {a : Act} {Q : Exit → Act → World → Prop} (w : World) (hgd : o.guard = none) (s x : Operand)
    (ho : o.op = .call { callee := .builtin .append, args := #[s, x], argTypes := #[67, 67] }) (v : Option Addr) (n cap m : Nat) (hm : m = n + 1) (y : Int) (hs : a.eval s = .slice v n cap) (hx : a.eval x = .slice (some ⟨w.heap.size, 0, none⟩) 1 1)
    (B : Nat) (xs : List Int) (hr : GRow w B v n cap xs) (hn : n ≤ 1000) (hB : B ≤ w.heap.size)
    (k : ∀ v' cap' w', GRow w' B v' m cap' (xs ++ [y]) → Gwn (w.alloc (.cells #[.int .i64 y] 2)) v w' v' → wpList Try.prog ops Q rest (a.put o.dst (.slice v' m cap')) w') :
    wpList Try.prog ops Q (o :: rest) a (w.alloc (.cells #[.int .i64 y] 2)) := by
  subst hm
  exact wpList_app1 w hgd s x ho v n cap y hs hx B xs hr hn hB k
theorem put_o (W : World) (sa : Option Addr) (sn sc : Nat) (L : NL) (x i : Int) (hx : In64 x) (hi : In64 i) (hs : StCR 1 W sa sn (([[], L] : List NL).map rowN)) (hok : (placeR (cA x) L).2 = true ∨ L.length < 24) :
    Calls Try.prog 12 #[.agg #[.slice sa sn sc], .int .i64 1, .agg #[.int .i64 1, .int .i64 x, .string ⟨#[]⟩, .int .i64 0, .slice none 0 0], .agg #[.int .i64 1, .int .i64 i, .string ⟨#[]⟩, .int .i64 0, .slice none 0 0]] W (PutTold 1 W (([[], insI x i L] : List NL).map rowN)) := by
  have h := put_n W sa sn sc [[], L] hs 1 L rfl x i hx hi hok
  rw [putR_ins] at h
  exact h
theorem full_o (W : World) (sa : Option Addr) (sn sc : Nat) (L : NL) (x i : Int) (hx : In64 x) (hi : In64 i) (hs : StCR 1 W sa sn (([[], L] : List NL).map rowN)) (hnt : (placeR (cA x) L).2 = false) (hfl : 24 ≤ L.length) :
    Calls Try.prog 12 #[.agg #[.slice sa sn sc], .int .i64 1, .agg #[.int .i64 1, .int .i64 x, .string ⟨#[]⟩, .int .i64 0, .slice none 0 0], .agg #[.int .i64 1, .int .i64 i, .string ⟨#[]⟩, .int .i64 0, .slice none 0 0]] W fun e w' => e = .returned (.tuple #[.agg #[.slice none 0 0], .int .i64 41]) ∧ Below W.heap.size W w' :=
  full_n W sa sn sc [[], L] hs 1 L rfl x i hx hi hnt hfl

structure B3 (wz wd : World) (Bk : Nat) (h : Hd) : Prop where
  bel : Below wz.heap.size wz wd
  lo : wz.heap.size ≤ Bk
  bx : wd.heap[Bk]? = some (.cells #[.int .i64 h.kind, .int .i64 h.int, .string h.text, .int .i64 h.rc, .slice h.a h.n h.cap] 31 (0, 0))
theorem B3.below {wz wd w' : World} {Bk : Nat} {h : Hd} (k : B3 wz wd Bk h) (hb : Below wd.heap.size wd w') : B3 wz w' Bk h := ⟨k.bel.trans (hb.mono k.bel.size), k.lo, (hb.block _ (Array.getElem?_eq_some_iff.1 k.bx).1).trans k.bx⟩
def KeyAt (L : NL) (n : Nat) (h : Hd) : Prop := ∀ a b, L[n]? = some (a, b) → h.kind = 1 ∧ h.int = a ∧ h.text = ⟨#[]⟩ ∧ h.rc = 0 ∧ h.n = 0
theorem num_rd2 (w : World) (n : Int) (ha : Option Addr) (hc : Nat) (h : In64 n) : RdC 1 w ⟨1, n, ⟨#[]⟩, 0, ha, 0, hc⟩ (numC n) :=
  ⟨((⟨1, n, ⟨#[]⟩, 0, ha, 0, hc⟩, []) : VT 1), rfl, ⟨⟨h.1, h.2, by show (-9223372036854775808 : Int) ≤ 1; omega, by show (1 : Int) ≤ 9223372036854775807; omega, by show (-9223372036854775808 : Int) ≤ 0; omega, by show (0 : Int) ≤ 9223372036854775807; omega, by show (⟨#[]⟩ : ByteArray).size ≤ _; decide, by show (0 : Nat) ≤ _; omega⟩, rfl, by show (0 : Nat) ≤ 1000; omega, fun j x hx => by simp at hx, fun u hu => by cases hu⟩, rfl⟩

set_option maxRecDepth 100000 in
set_option maxHeartbeats 8000000 in
theorem orders_any (w : World) (ka : Option Addr) (kn kc : Nat) (keys : List Int) (hk : kn = keys.length) (hkr : K16 w ka keys) (ga : Option Addr) (gn gc : Nat) (gs : List Int) (hg : gn = gs.length) (hgr : K8 w ga gs) (hk60 : kn ≤ 60) (hg60 : gn ≤ 60) :
    Calls Try.prog 6 #[.slice ka kn kc, .slice ga gn gc] w fun e w' => e = .returned (.bool true) ∧ Below w.heap.size w w' := by
  have Hk := hid hk
  have Hkr := hid hkr
  have Hg := hid hg
  have Hgr := hid hgr
  have hk1 : (kn : Int) ≤ 60 := by omega
  have hg1 : (gn : Int) ≤ 60 := by omega
  have hk0 : (0 : Int) ≤ (kn : Int) := by omega
  have hg0 : (0 : Int) ≤ (gn : Int) := by omega
  have K36 := hid (fun (n : Int) (W : World) => num_any W n)
  have TR : Hid (∀ {Z x y : World}, Below Z.heap.size Z x → Below x.heap.size x y → Below Z.heap.size Z y) := hid (fun h1 h2 => h1.trans (h2.mono h1.size))
  clear hk hkr hg hgr
  go_enter Try.func6, Try.ntmps6
  go_wp2_with (go_at_call 9; (refine (known_any _).mono ?_; rintro e w0 ⟨rfl, hb0⟩; have mk2 : (Instr.makeSlice 25 (.int .i64 2) (.int .i64 2)).run Try.prog w0 = .ok (.slice (some ⟨w0.heap.size, 0, none⟩) 2 2) (w0.alloc (.cells #[.slice none 0 0, .slice none 0 0] 70)) := run_mk w0 2 (by omega); have HB0 := hid hb0; clear hb0))
  obtain ⟨W1, hW1⟩ : ∃ W1, W1 = (w0.alloc (.cells #[.slice none 0 0, .slice none 0 0] 70)).alloc (.cells #[.slice (some ⟨w0.heap.size, 0, none⟩) 2 2] 27) := ⟨_, rfl⟩
  rw [← hW1]
  have m0 : HM w0 W1 [] [] [] none 0 none 0 (some ⟨w0.heap.size, 0, none⟩) 2 2 := by
    have q1 : W1.heap[w0.heap.size]? = some (.cells #[.slice none 0 0, .slice none 0 0] 70 (0, 0)) := by rw [hW1]; exact (Below.heap_alloc _ _ _ (by simp)).trans (heap_alloc_new w0 _)
    have q2 : W1.heap[w0.heap.size + 1]? = some (.cells #[.slice (some ⟨w0.heap.size, 0, none⟩) 2 2] 27 (0, 0)) := by
      have := heap_alloc_new (w0.alloc (.cells #[.slice none 0 0, .slice none 0 0] 70)) (.cells #[.slice (some ⟨w0.heap.size, 0, none⟩) 2 2] 27)
      rw [World.size_alloc] at this
      rw [hW1]; exact this
    have hz1 : W1.heap.size = w0.heap.size + 2 := by rw [hW1]; simp
    refine ⟨by rw [hW1]; exact ((Below.refl _ w0).alloc (Nat.le_refl _) _).alloc (by simp) _, q2, st_make (n := 2) q1 ⟨by omega, by omega, fun x e => (by cases e), fun x e => (by cases e)⟩ (by omega), GRow.nil _ _, GRow.nil _ _, fun x y e => (by cases e), by omega⟩
  have M0 := hid m0
  clear m0 mk2 hW1
  go_loopg [6, 7, 8] kn (fun g v6 v7 v8 wr => ∃ i : Nat, i + g = kn ∧ v8 = .int .i64 (i : Int) ∧ ∃ T Z L tn a1 c1 a2 c2 sa sn sc, v6 = .slice a1 tn c1 ∧ v7 = .slice a2 tn c2 ∧ tn = T.length ∧ tn = Z.length ∧ PV T Z L ∧ HM w0 wr T Z L a1 c1 a2 c2 sa sn sc)
  case atStart => exact ⟨0, by omega, rfl, [], [], [], 0, none, 0, none, 0, _, _, _, rfl, rfl, rfl, rfl, PV.nil, M0.out⟩
  case round =>
    obtain ⟨i, hi', rfl, T, Z, L, tn, a1, c1, a2, c2, sa, sn, sc, rfl, rfl, htn, hzn, pv, hm⟩ := hrel
    have Htn := hid htn
    have Hzn := hid hzn
    have PVH := hid pv
    have HMH := hid hm
    have htn1 : (tn : Int) ≤ 24 := by have := pv.le; omega
    have htn0 : (0 : Int) ≤ (tn : Int) := by omega
    clear M0
    cases gk with
    | zero =>
      have hin2 : i = kn := by omega
      subst hin2
      clear hi' htn hzn pv hm
      as_aux_lemma =>
        obtain ⟨wz, hwz⟩ : ∃ wz, wz = wr := ⟨_, rfl⟩
        subst hwz
        have cb := cellOf HMH.out.bx 0
        simp only [List.getElem?_toArray, List.getElem?_cons_zero] at cb
        have HCB : Hid (∀ W : World, Below wz.heap.size wz W → W.cell? ⟨w0.heap.size + 1, 0, none⟩ = some (.slice sa sn sc)) := hid (fun W hb => (hb.cell (p := ⟨w0.heap.size + 1, 0, none⟩) (Array.getElem?_eq_some_iff.1 HMH.out.bx).1).trans cb)
        have KF := hid (first_n wz sa sn sc [[], L] HMH.out.st.cr 1 L rfl)
        have Hln : Hid (L.length = tn) := hid (by rw [PVH.out.ln, ← Htn.out])
        go_upto_region 34 with fail
        go_cut [15, 16] (fun v15 v16 wd => ∃ Bk bb h, v15 = .pointer (some ⟨Bk, 0, none⟩) ∧ v16 = .bool bb ∧ (bb = true ↔ 0 < tn) ∧ B3 wz wd Bk h ∧ KeyAt L 0 h)
        case first =>
          rcases hh : L.head? with _ | ⟨a, b⟩
          · rw [hh] at KF
            have hL0 : L = [] := by cases L; · rfl
                                    · cases hh
            go_wp2_with (go_at_call 21; (refine (KF.out).mono ?_; rintro e w5 ⟨hb5, rfl⟩; have HB5 := hid hb5; clear hb5))
            go_meet
            exact ⟨w5.heap.size, false, ⟨0, 0, ⟨#[]⟩, 0, none, 0, 0⟩, rfl, rfl, ⟨fun e => (by cases e), fun e => (by have := Hln.out; rw [hL0] at this; simp at this; omega)⟩, ⟨HB5.out.alloc HB5.out.size _, HB5.out.size, heap_alloc_new w5 _⟩, fun a b e => by rw [hL0] at e; simp at e⟩
          · rw [hh] at KF
            have hL0 : L[0]? = some (a, b) := by rw [← List.head?_eq_getElem?]; exact hh
            go_wp2_with (go_at_call 21; (refine (KF.out).mono ?_; rintro e w5 ⟨hb5, t, rfl, hrt, het⟩; have Htd := hid (told_num hrt het); simp only [Hd.v]; have HB5 := hid hb5; clear hb5 hrt het))
            go_meet
            exact ⟨w5.heap.size, true, hdT 1 t, rfl, rfl, ⟨fun _ => by have := Hln.out; have := (List.getElem?_eq_some_iff.1 hL0).1; omega, fun _ => rfl⟩, ⟨HB5.out.alloc HB5.out.size _, HB5.out.size, heap_alloc_new w5 _⟩, fun a' b' e => by rw [hL0] at e; cases e; exact Htd.out⟩
        case rest =>
          obtain ⟨Bk, bb, h0, rfl, rfl, hbb, hb3, hka⟩ := hcut
          have Hbb := hid hbb
          have HB3 := hid hb3
          have Hka := hid hka
          clear hbb hb3 hka cb KF
          go_wp2
          go_loopg [14, 16] tn (fun g v14 v16 w3 => ∃ n : Nat, n + g = tn ∧ v14 = .int .i64 (n : Int) ∧ ∃ bb h, v16 = .bool bb ∧ (bb = true ↔ n < tn) ∧ B3 wz w3 Bk h ∧ KeyAt L n h)
          case atStart => exact ⟨0, by omega, rfl, bb, h0, rfl, Hbb.out, HB3.out, Hka.out⟩
          case round =>
            obtain ⟨n, hn', rfl, bb, h, rfl, hbb, hb3, hka⟩ := hrel
            have Hn := hid hn'
            cases gk with
            | zero =>
              have hnn : n = tn := by omega
              subst hnn
              have hbf : bb = false := by cases bb; · rfl
                                          · have := hbb.1 rfl; omega
              subst hbf
              have cb1 := HCB.out _ hb3.bel
              obtain ⟨d1, o1, ra, rn, rc, e1, hc1, hrn, _⟩ := (HMH.out.below hb3.bel).st.cr.at (i := 0) (row := rowN []) rfl
              subst e1
              have hrn' : rn = 0 := hrn
              subst hrn'
              have hsn : sn = 2 := HMH.out.st.cr.len.1
              subst hsn
              simp only [Nat.add_zero] at hc1
              have HF := hid (HMH.out.bel.trans (hb3.bel.mono HMH.out.bel.size))
              clear hn' hbb hb3 hka hrn HMH HCB HB3 Hka
              go_wp2
              go_ret
              exact ⟨rfl, HB0.out.trans (HF.out.mono HB0.out.size)⟩
            | succ gi =>
              have hnt : n < tn := by omega
              have hnt1 : (n : Int) < (tn : Int) := by omega
              have hn00 : (0 : Int) ≤ (n : Int) := by omega
              have hnt2 : ¬ (tn : Int) < (n : Int) := by omega
              have hbt : bb = true := hbb.2 hnt
              subst hbt
              obtain ⟨w3, hw3⟩ : ∃ w3, w3 = wr := ⟨_, rfl⟩
              subst hw3
              obtain ⟨⟨a, b⟩, hab⟩ : ∃ p, L[n]? = some p := ⟨L[n]'(by rw [Hln.out]; exact hnt), List.getElem?_eq_getElem _⟩
              obtain ⟨e1, e2, e3, e4, e5⟩ := hka a b hab
              obtain ⟨hk, hi, ht, hr, ha, hn0, hc⟩ := h
              simp only at e1 e2 e3 e4 e5
              subst e1 e2 e3 e4 e5
              obtain ⟨jj, hTj, hZj⟩ := (PVH.out.mem hi b).1 (List.mem_of_getElem? hab)
              have hIa : In64 hi := ⟨by have := PVH.out.rt hi (List.mem_of_getElem? hTj); omega, by have := PVH.out.rt hi (List.mem_of_getElem? hTj); omega⟩
              have KG := hid (get_n w3 sa sn sc [[], L] (HMH.out.below hb3.bel).st.cr 1 L rfl ⟨1, hi, ⟨#[]⟩, 0, ha, 0, hc⟩ hi (num_rd2 w3 hi ha hc hIa))
              rw [ris_get PVH.out.ris hab] at KG
              have k0 := cellOf hb3.bx 0
              have k1 := cellOf hb3.bx 1
              have k2 := cellOf hb3.bx 2
              have k3 := cellOf hb3.bx 3
              have k4 := cellOf hb3.bx 4
              simp only [List.getElem?_toArray, List.getElem?_cons_zero, List.getElem?_cons_succ] at k0 k1 k2 k3 k4
              have cb3 := HCB.out w3 hb3.bel
              have HB3' := hid hb3
              have Hab := hid hab
              have HIa := hid hIa
              have Hjj : Hid (∃ j : Nat, j < tn ∧ T[j]? = some hi ∧ Z[j]? = some b) := hid ⟨jj, by rw [Htn.out]; exact (List.getElem?_eq_some_iff.1 hTj).1, hTj, hZj⟩
              clear hn' hbb hb3 hka hab hIa hTj hZj HB3 Hka Hbb
              go_wp2_with (go_at_call 17; (refine (KG.out).mono ?_; rintro e w5 ⟨hb5, t5, rfl, hrt, het⟩; obtain ⟨i1, i2, i3, i4, i5⟩ := told_num hrt het; have HB5 := hid hb5; clear hb5 hrt het; generalize hdT 1 t5 = g5 at i1 i2 i3 i4 i5 ⊢; obtain ⟨p1, p2, p3, p4, p5, p6, p7⟩ := g5; simp only at i1 i2 i3 i4 i5; subst i1 i2 i3 i4 i5; simp only [Hd.v]))
              obtain ⟨wq, hwq⟩ : ∃ wq, wq = w5.alloc (.cells #[.int .i64 1, .int .i64 p2, .string ⟨#[]⟩, .int .i64 0, .slice p5 0 p7] 31) := ⟨_, rfl⟩
              have hv1 : wq.cell? ⟨w5.heap.size, 1, none⟩ = some (.int .i64 p2) := by rw [hwq]; exact cellOf (heap_alloc_new w5 _) 1
              have hbq : Below w5.heap.size w5 wq := by rw [hwq]; exact (Below.refl _ w5).alloc (Nat.le_refl _) _
              have hlq : w5.heap.size < wq.heap.size := by rw [hwq]; simp
              rw [← hwq]
              have HBQ := hid (HB5.out.trans (hbq.mono HB5.out.size))
              have HBZ := hid (HB3'.out.bel.trans (HBQ.out.mono HB3'.out.bel.size))
              have HV1 : Hid (∀ W : World, Below wq.heap.size wq W → W.cell? ⟨w5.heap.size, 1, none⟩ = some (.int .i64 p2)) := hid (fun W hb => (hb.cell (p := ⟨w5.heap.size, 1, none⟩) hlq).trans hv1)
              have HBX : Hid (∀ W : World, Below wq.heap.size wq W → W.heap[Bk]? = some (.cells #[.int .i64 1, .int .i64 hi, .string ⟨#[]⟩, .int .i64 0, .slice ha 0 hc] 31 (0, 0))) := hid (fun W hb => (hb.block _ (Nat.lt_of_lt_of_le (Array.getElem?_eq_some_iff.1 HB3'.out.bx).1 HBQ.out.size)).trans ((HBQ.out.block _ (Array.getElem?_eq_some_iff.1 HB3'.out.bx).1).trans HB3'.out.bx))
              clear hwq hv1 hbq hlq k0 k1 k2 k3 k4 cb3 KG
              go_loopg [19, 20] tn (fun g v19 v20 w4 => ∃ k : Nat, k + g = tn ∧ v20 = .int .i64 (k : Int) ∧ ∃ fb, v19 = .bool fb ∧ (fb = true ↔ ∃ j : Nat, j < k ∧ T[j]? = some hi ∧ Z[j]? = some p2) ∧ Below wq.heap.size wq w4)
              case atStart => exact ⟨0, by omega, rfl, false, rfl, ⟨fun e => (by cases e), fun ⟨j, hj, _⟩ => absurd hj (by omega)⟩, Below.refl _ _⟩
              case round =>
                obtain ⟨k, hk', rfl, fb, rfl, hfb, hb4⟩ := hrel
                have Hfb := hid hfb
                have HB4 := hid hb4
                have Hk' := hid hk'
                cases gk with
                | succ gj =>
                  have hkt : (k : Int) < (tn : Int) := by omega
                  have hkt0 : (0 : Int) ≤ (k : Int) := by omega
                  obtain ⟨y, hy⟩ : ∃ y, T[k]? = some y := ⟨T[k]'(by rw [← Htn.out]; omega), List.getElem?_eq_getElem _⟩
                  obtain ⟨z, hz⟩ : ∃ z, Z[k]? = some z := ⟨Z[k]'(by rw [← Hzn.out]; omega), List.getElem?_eq_getElem _⟩
                  have hmm := HMH.out.below (HBZ.out.trans (hb4.mono HBZ.out.size))
                  obtain ⟨g1, f1, _, cy, _⟩ := hmm.g1.cell hy
                  obtain ⟨g2, f2, _, cz, _⟩ := hmm.g2.cell hz
                  subst f1
                  subst f2
                  have c1' := cellOf (HBX.out wr hb4) 1
                  simp only [List.getElem?_toArray, List.getElem?_cons_zero, List.getElem?_cons_succ] at c1'
                  have c2' := HV1.out wr hb4
                  have Hy := hid hy
                  have Hz := hid hz
                  have HBD : Hid (∀ m, Below wq.heap.size wq (wr.drewN m)) := hid (fun m => hb4.trans ⟨rfl, rfl, rfl, Nat.le_refl _, fun _ _ => rfl⟩)
                  clear hk' hfb hb4 hy hz hmm
                  cases fb with
                  | true =>
                    go_wp2
                    go_quiet (fail)
                    go_wp2
                    go_roundg gj
                    case measure => have := Hk'.out; omega
                    case rel => exact ⟨k + 1, by have := Hk'.out; omega, by go_num, true, rfl, ⟨fun _ => (by obtain ⟨j, h1, h2⟩ := Hfb.out.1 (by first | rfl | exact trivial); exact ⟨j, by omega, h2⟩), fun _ => rfl⟩, HBD.out _⟩
                  | false =>
                    have hnf : ¬ ∃ j : Nat, j < k ∧ T[j]? = some hi ∧ Z[j]? = some p2 := fun h => by have := Hfb.out.2 h; cases this
                    have Hnf := hid hnf
                    clear hnf
                    by_cases hya : y = hi
                    · have hyb : (y == hi) = true := by simp [hya]
                      by_cases hzb : z = p2
                      · have hzb' : (z == p2) = true := by simp [hzb]
                        have Hya := hid hya
                        have Hzb := hid hzb
                        clear hya hzb
                        go_wp2
                        go_quiet (fail)
                        go_wp2
                        go_roundg gj
                        case measure => have := Hk'.out; omega
                        case rel => exact ⟨k + 1, by have := Hk'.out; omega, by go_num, true, rfl, ⟨fun _ => ⟨k, by omega, by rw [Hy.out, Hya.out], by rw [Hz.out, Hzb.out]⟩, fun _ => rfl⟩, HBD.out _⟩
                      · have hzb' : (z == p2) = false := by simpa using hzb
                        have Hya := hid hya
                        clear hya
                        go_wp2
                        go_quiet (fail)
                        go_wp2
                        go_roundg gj
                        case measure => have := Hk'.out; omega
                        case rel =>
                          refine ⟨k + 1, by have := Hk'.out; omega, by go_num, false, rfl, ⟨fun e => (by cases e), fun ⟨j, h1, h2, h3⟩ => ?_⟩, HBD.out _⟩
                          rcases Nat.lt_or_ge j k with h4 | h4
                          · exact absurd ⟨j, h4, h2, h3⟩ Hnf.out
                          · have : j = k := by omega
                            subst this
                            rw [Hz.out] at h3
                            cases h3
                            exact absurd rfl hzb
                    · have hyb : (y == hi) = false := by simpa using hya
                      go_wp2
                      go_quiet (fail)
                      go_wp2
                      go_roundg gj
                      case measure => have := Hk'.out; omega
                      case rel =>
                        refine ⟨k + 1, by have := Hk'.out; omega, by go_num, false, rfl, ⟨fun e => (by cases e), fun ⟨j, h1, h2, h3⟩ => ?_⟩, HBD.out _⟩
                        rcases Nat.lt_or_ge j k with h4 | h4
                        · exact absurd ⟨j, h4, h2, h3⟩ Hnf.out
                        · have : j = k := by omega
                          subst this
                          rw [Hy.out] at h2
                          cases h2
                          exact absurd rfl hya
                | zero =>
                  have hkk : k = tn := by omega
                  subst hkk
                  have hft : fb = true := hfb.2 Hjj.out
                  subst hft
                  obtain ⟨w4, hw4⟩ : ∃ w4, w4 = wr := ⟨_, rfl⟩
                  subst hw4
                  have hbz4 := HBZ.out.trans (hb4.mono HBZ.out.size)
                  have cb4 := HCB.out w4 hbz4
                  have bx4 := HBX.out w4 hb4
                  have k0 := cellOf bx4 0
                  have k1 := cellOf bx4 1
                  have k2 := cellOf bx4 2
                  have k3 := cellOf bx4 3
                  have k4 := cellOf bx4 4
                  simp only [List.getElem?_toArray, List.getElem?_cons_zero, List.getElem?_cons_succ] at k0 k1 k2 k3 k4
                  have KN := hid (next_n w4 sa sn sc [[], L] (HMH.out.below hbz4).st.cr 1 L rfl ⟨1, hi, ⟨#[]⟩, 0, ha, 0, hc⟩ hi (num_rd2 w4 hi ha hc HIa.out))
                  rw [ris_next PVH.out.ris Hab.out] at KN
                  have FB : Hid (∀ (w8 : World), Below w4.heap.size w4 w8 → ∀ o : Obj, (w8.alloc o).heap[Bk]? = some (.cells #[.int .i64 1, .int .i64 hi, .string ⟨#[]⟩, .int .i64 0, .slice ha 0 hc] 31 (0, 0))) := hid (fun w8 hb o => (Below.heap_alloc _ _ _ (Nat.lt_of_lt_of_le (Array.getElem?_eq_some_iff.1 bx4).1 hb.size)).trans ((hb.block _ (Array.getElem?_eq_some_iff.1 bx4).1).trans bx4))
                  have HBZ4 := hid hbz4
                  have hlo := HB3'.out.lo
                  clear hk' hfb hb4 hbz4 bx4 HBX HV1 Hjj
                  rcases hq : L[n + 1]? with _ | ⟨a', b'⟩
                  · rw [hq] at KN
                    have Hq := hid hq
                    clear hq
                    go_wp2_with (go_at_call 19; (refine (KN.out).mono ?_; rintro e w8 ⟨hb8, rfl⟩; have HB8 := hid hb8; have q0 := fun o => cellOf (FB.out w8 hb8 o) 0; have q1 := fun o => cellOf (FB.out w8 hb8 o) 1; have q2 := fun o => cellOf (FB.out w8 hb8 o) 2; have q3 := fun o => cellOf (FB.out w8 hb8 o) 3; have q4 := fun o => cellOf (FB.out w8 hb8 o) 4; have s0 := fun o => freeOf (FB.out w8 hb8 o) 0; have s1 := fun o => freeOf (FB.out w8 hb8 o) 1; have s2 := fun o => freeOf (FB.out w8 hb8 o) 2; have s3 := fun o => freeOf (FB.out w8 hb8 o) 3; have s4 := fun o => freeOf (FB.out w8 hb8 o) 4; simp only [List.getElem?_toArray, List.getElem?_cons_zero, List.getElem?_cons_succ] at q0 q1 q2 q3 q4; clear hb8))
                    go_roundg gi
                    case measure => have := Hn.out; omega
                    case rel =>
                      have hbz8 := HBZ4.out.trans (HB8.out.mono HBZ4.out.size)
                      refine ⟨n + 1, by have := Hn.out; omega, by go_num, false, ⟨0, 0, ⟨#[]⟩, 0, none, 0, 0⟩, rfl, ⟨fun e => (by cases e), fun e => ?_⟩, ?_, fun a b e => ?_⟩
                      · have := List.getElem?_eq_none_iff.1 Hq.out
                        have := Hln.out
                        omega
                      · exact ⟨five_below (hbz8.alloc hbz8.size _) hlo ⟨0, 0, ⟨#[]⟩, 0, none, 0, 0⟩, hlo, five_new (FB.out w8 HB8.out _) ⟨0, 0, ⟨#[]⟩, 0, none, 0, 0⟩⟩
                      · rw [Hq.out] at e
                        cases e
                  · rw [hq] at KN
                    have hlt' : hi < a' := by
                      have h1 := (List.getElem?_eq_some_iff.1 Hab.out)
                      have h2 := (List.getElem?_eq_some_iff.1 hq)
                      have := List.pairwise_iff_getElem.1 PVH.out.ris n (n + 1) h1.1 h2.1 (by omega)
                      rw [h1.2, h2.2] at this
                      exact this
                    have hnle : ¬ a' ≤ hi := by omega
                    have hnle' : decide (a' ≤ hi) = false := decide_eq_false hnle
                    have Hq := hid hq
                    clear hq
                    go_wp2_with (go_at_call 19; (refine (KN.out).mono ?_; rintro e w8 ⟨hb8, t8, rfl, hrt, het⟩; obtain ⟨i1, i2, i3, i4, i5⟩ := told_num hrt het; have HB8 := hid hb8; clear hrt het; generalize hdT 1 t8 = g8 at i1 i2 i3 i4 i5 ⊢; obtain ⟨r1, r2, r3, r4, r5, r6, r7⟩ := g8; simp only at i1 i2 i3 i4 i5; subst i1 i3 i4 i5; have hr2' : ¬ r2 ≤ hi := (by omega); have Hi2 := hid i2; clear i2; simp only [Hd.v]; have q0 := fun o => cellOf (FB.out w8 hb8 o) 0; have q1 := fun o => cellOf (FB.out w8 hb8 o) 1; have q2 := fun o => cellOf (FB.out w8 hb8 o) 2; have q3 := fun o => cellOf (FB.out w8 hb8 o) 3; have q4 := fun o => cellOf (FB.out w8 hb8 o) 4; have s0 := fun o => freeOf (FB.out w8 hb8 o) 0; have s1 := fun o => freeOf (FB.out w8 hb8 o) 1; have s2 := fun o => freeOf (FB.out w8 hb8 o) 2; have s3 := fun o => freeOf (FB.out w8 hb8 o) 3; have s4 := fun o => freeOf (FB.out w8 hb8 o) 4; simp only [List.getElem?_toArray, List.getElem?_cons_zero, List.getElem?_cons_succ] at q0 q1 q2 q3 q4; clear hb8))
                    go_roundg gi
                    case measure => have := Hn.out; omega
                    case rel =>
                      have hbz8 := HBZ4.out.trans (HB8.out.mono HBZ4.out.size)
                      refine ⟨n + 1, by have := Hn.out; omega, by go_num, true, ⟨1, r2, ⟨#[]⟩, 0, r5, 0, r7⟩, rfl, ⟨fun _ => ?_, fun _ => rfl⟩, ?_, fun a b e => ?_⟩
                      · have := (List.getElem?_eq_some_iff.1 Hq.out).1
                        have := Hln.out
                        omega
                      · exact ⟨five_below (hbz8.alloc hbz8.size _) hlo ⟨1, r2, ⟨#[]⟩, 0, r5, 0, r7⟩, hlo, five_new (FB.out w8 HB8.out _) ⟨1, r2, ⟨#[]⟩, 0, r5, 0, r7⟩⟩
                      · rw [Hq.out] at e
                        cases e
                        exact ⟨rfl, Hi2.out, rfl, rfl, rfl⟩
    | succ gi =>
      have hlt0 : i < kn := by omega
      have hlt : (i : Int) < (kn : Int) := by omega
      have hi00 : (0 : Int) ≤ (i : Int) := by omega
      obtain ⟨wo, hwo⟩ : ∃ wo, wo = wr := ⟨_, rfl⟩
      subst hwo
      obtain ⟨x, hx⟩ : ∃ x, keys[i]? = some x := ⟨keys[i]'(by rw [← Hk.out]; exact hlt0), List.getElem?_eq_getElem _⟩
      obtain ⟨hxr, b, off, ea, dk⟩ := ((Hkr.out.below HB0.out).below hm.bel) i x hx
      subst ea
      have hcx : IntKind.i64.wrap x = x := by rw [IntKind.wrap_i64]; omega
      have Hi := hid hi'
      have Hxr := hid hxr
      have Hx := hid hx
      have DK : Hid (∀ W : World, Below wo.heap.size wo W → W.cell? ⟨b, off + i, none⟩ = some (.int .i16 x)) := hid (fun W hb => (hb.cell (p := ⟨b, off + i, none⟩) (World.block_lt_of_cell? wo _ dk)).trans dk)
      clear hi' htn hzn pv hm hx hxr
      go_wp2
      go_loopg [9, 10] tn (fun g v9 v10 w2 => ∃ k : Nat, k + g = tn ∧ v10 = .int .i64 (k : Int) ∧ Below wo.heap.size wo w2 ∧ ((∃ j : Nat, v9 = .int .i64 (j : Int) ∧ j < k ∧ T[j]? = some x) ∨ (v9 = .int .i64 (-1) ∧ ∀ j : Nat, j < k → T[j]? ≠ some x)))
      case atStart => exact ⟨0, by omega, rfl, Below.refl _ _, .inr ⟨rfl, fun j hj => absurd hj (by omega)⟩⟩
      case round =>
        obtain ⟨k, hk', rfl, hb2, hat⟩ := hrel
        have Hat := hid hat
        have HB2 := hid hb2
        cases gk with
        | succ gj =>
          have hkt : (k : Int) < (tn : Int) := by omega
          have hkt0 : (0 : Int) ≤ (k : Int) := by omega
          obtain ⟨y, hy⟩ : ∃ y, T[k]? = some y := ⟨T[k]'(by rw [← Htn.out]; omega), List.getElem?_eq_getElem _⟩
          obtain ⟨g1, e1, _, cy, _⟩ := (HMH.out.below hb2).g1.cell hy
          subst e1
          have ck := DK.out wr hb2
          have Hy := hid hy
          have Hk' := hid hk'
          clear hk' hat hb2 hy dk
          by_cases hyx : y = x
          · subst hyx
            go_wp2
            go_region_held3 (fun W' => W'.cell? ⟨g1, k, none⟩ = some (.int .i64 y) ∧ W'.cell? ⟨b, off + i, none⟩ = some (.int .i16 y)) (go_keep) (fail)
            go_wp2
            go_roundg gj
            case measure => have := Hk'.out; omega
            case rel => exact ⟨k + 1, by have := Hk'.out; omega, by go_num, HB2.out.drew, .inl ⟨k, rfl, by omega, Hy.out⟩⟩
          · have hyb : (y == x) = false := by simpa using hyx
            go_wp2
            go_region_held3 (fun W' => W'.cell? ⟨g1, k, none⟩ = some (.int .i64 y) ∧ W'.cell? ⟨b, off + i, none⟩ = some (.int .i16 x)) (go_keep) (fail)
            go_wp2
            go_roundg gj
            case measure => have := Hk'.out; omega
            case rel =>
              refine ⟨k + 1, by have := Hk'.out; omega, by go_num, HB2.out.drew, ?_⟩
              rcases Hat.out with ⟨j, e, h1, h2⟩ | ⟨e, h1⟩
              · exact .inl ⟨j, e, by omega, h2⟩
              · refine .inr ⟨e, fun j hj => ?_⟩
                rcases Nat.lt_or_ge j k with h3 | h3
                · exact h1 j h3
                · have : j = k := by omega
                  subst this
                  rw [Hy.out]
                  intro e2
                  cases e2
                  exact hyx rfl
        | zero =>
          have hkk : k = tn := by omega
          subst hkk
          obtain ⟨wi, hwi⟩ : ∃ wi, wi = wr := ⟨_, rfl⟩
          subst hwi
          have HMI := hid (HMH.out.below hb2)
          have ci := DK.out wi hb2
          have HDK : Hid (∀ W : World, Below wi.heap.size wi W → W.cell? ⟨b, off + i, none⟩ = some (.int .i16 x)) := hid (fun W hb => DK.out W (hb2.trans (hb.mono hb2.size)))
          have cb := cellOf HMI.out.bx 0
          simp only [List.getElem?_toArray, List.getElem?_cons_zero] at cb
          have HCB : Hid (∀ W : World, Below wi.heap.size wi W → W.cell? ⟨w0.heap.size + 1, 0, none⟩ = some (.slice sa sn sc)) := hid (fun W hb => (hb.cell (p := ⟨w0.heap.size + 1, 0, none⟩) (Array.getElem?_eq_some_iff.1 HMI.out.bx).1).trans cb)
          have F0 := hid ((Below.refl wi.heap.size wi).drew)
          have hIx : In64 x := ⟨by have := Hxr.out; omega, by have := Hxr.out; omega⟩
          have hIi : In64 (i : Int) := ⟨by omega, by omega⟩
          have Hix := hid hIx
          have Hii := hid hIi
          clear hk' hat hb2 dk hIx hIi DK
          rcases Hat.out with ⟨j, rfl, hj, hTj⟩ | ⟨rfl, hno⟩
          · have hok : (placeR (cA x) L).2 = true ∨ L.length < 24 := .inl ((PVH.out.there x).2 (List.mem_of_getElem? hTj))
            have hj1 : (j : Int) < (k : Int) := by omega
            have hj0 : (0 : Int) ≤ (j : Int) := by omega
            have HTj := hid hTj
            clear hTj Hat
            as_aux_lemma =>
              have K12 : Hid (∀ W : World, Below wi.heap.size wi W → Calls Try.prog 12 #[.agg #[.slice sa sn sc], .int .i64 1, .agg #[.int .i64 1, .int .i64 x, .string ⟨#[]⟩, .int .i64 0, .slice none 0 0], .agg #[.int .i64 1, .int .i64 (i : Int), .string ⟨#[]⟩, .int .i64 0, .slice none 0 0]] W (PutTold 1 W (([[], insI x (i : Int) L] : List NL).map rowN))) := hid (fun W hb => put_o W sa sn sc L x (i : Int) Hix.out Hii.out (HMI.out.st.cr.below (Nat.le_refl _) hb) hok)
              clear hok
              go_upto_region 17 with fail
              go_cut [11, 12] (fun v11 v12 wd => v12 = .int .i64 0 ∧ ∃ X fa fn fc, v11 = .pointer (some ⟨X, 0, none⟩) ∧ wd.heap[X]? = some (.cells #[.slice fa fn fc] 27 (0, 0)) ∧ StCP 1 wd (fun b => wi.heap.size ≤ b ∧ b < wd.heap.size) fa fn (([[], insI x (i : Int) L] : List NL).map rowN) ∧ Below wi.heap.size wi wd)
              case first =>
                as_aux_lemma =>
                go_region_held3 (fun W' => W'.cell? ⟨w0.heap.size + 1, 0, none⟩ = some (.slice sa sn sc) ∧ W'.cell? ⟨b, off + i, none⟩ = some (.int .i16 x)) (first | with_reducible exact ⟨HCB.out _ (CF03.out.alloc CF03.out.size _), HDK.out _ (CF03.out.alloc CF03.out.size _)⟩ | with_reducible exact ⟨HCB.out _ CF03.out, HDK.out _ CF03.out⟩ | with_reducible exact ⟨HCB.out _ (CF03.out.setCell (by first | exact Nat.le_refl _ | exact CF01.out.size | exact CF02.out.size) _), HDK.out _ (CF03.out.setCell (by first | exact Nat.le_refl _ | exact CF01.out.size | exact CF02.out.size) _)⟩ | with_reducible exact ⟨HCB.out _ CF02.out, HDK.out _ CF02.out⟩ | with_reducible exact ⟨HCB.out _ (CF02.out.alloc CF02.out.size _), HDK.out _ (CF02.out.alloc CF02.out.size _)⟩ | with_reducible exact ⟨HCB.out _ CF01.out, HDK.out _ CF01.out⟩ | with_reducible exact ⟨HCB.out _ (CF01.out.alloc CF01.out.size _), HDK.out _ (CF01.out.alloc CF01.out.size _)⟩ | with_reducible exact ⟨HCB.out _ F0.out, HDK.out _ F0.out⟩ | with_reducible exact ⟨HCB.out _ (F0.out.alloc F0.out.size _), HDK.out _ (F0.out.alloc F0.out.size _)⟩ | go_keep) ((first
                  | (go_at_call 12; (have hno := CF02; refine (K12.out _ (by first | exact CF02.out | exact CF02.out.alloc CF02.out.size _)).mono ?_; rintro e wF03 ⟨fa, fn, fc, rfl, hbF03, hfc, hst⟩; (first | (have CF03 := hid (TR.out CF02.out hbF03); try have zzF03 := (hbF03.block _ (Array.getElem?_eq_some_iff.1 zzF02).1).trans zzF02) | (have CF03 := hid (TR.out (CF02.out.alloc CF02.out.size _) hbF03); have zzF03 : wF03.heap[wF02.heap.size]? = some (.cells #[.slice none 0 0] 27 (0, 0)) := (hbF03.block _ (by simp)).trans (heap_alloc_new _ (.cells #[.slice none 0 0] 27)))); (try (have y0 := cellOf zzF03 0; have v0 := freeOf zzF03 0; simp only [List.getElem?_toArray, List.getElem?_cons_zero, List.getElem?_cons_succ] at y0)); have ST := hid hst; clear hst; clear hbF03))
                  | (go_at_call 36; (have hno := CF01; refine (K36.out _ _).mono ?_; rintro e wF02 ⟨rfl, hbF02⟩; (first | (have CF02 := hid (TR.out CF01.out hbF02); try have zzF02 := (hbF02.block _ (Array.getElem?_eq_some_iff.1 zzF01).1).trans zzF01) | (have CF02 := hid (TR.out (CF01.out.alloc CF01.out.size _) hbF02); have zzF02 : wF02.heap[wF01.heap.size]? = some (.cells #[.slice none 0 0] 27 (0, 0)) := (hbF02.block _ (by simp)).trans (heap_alloc_new _ (.cells #[.slice none 0 0] 27)))); have HXwF02 := CF02; clear hbF02))
                  | (go_at_call 36; (refine (K36.out _ _).mono ?_; rintro e wF01 ⟨rfl, hbF01⟩; (first | (have CF01 := hid (TR.out F0.out hbF01); try have zzF01 := (hbF01.block _ (Array.getElem?_eq_some_iff.1 zzF00).1).trans zzF00) | (have CF01 := hid (TR.out (F0.out.alloc F0.out.size _) hbF01); have zzF01 : wF01.heap[wi.heap.size]? = some (.cells #[.slice none 0 0] 27 (0, 0)) := (hbF01.block _ (by simp)).trans (heap_alloc_new _ (.cells #[.slice none 0 0] 27)))); have HXwF01 := CF01; clear hbF01))))
                all_goals
                  go_wp2_with fail
                  go_meet
                  have s1 := CF01.out.size
                  have s2 := CF02.out.size
                  first
                    | exact ⟨rfl, _, fa, fn, fc, rfl, set_cells zzF03 _, (ST.out.keep (fun b hb => Below.heap_setCell _ _ _ _ (by (try have h3 := (Array.getElem?_eq_some_iff.1 zzF02).1); (try have h4 := (Array.getElem?_eq_some_iff.1 zzF01).1); intro e; (try simp at hb); (try simp at e); (try simp at h3); (try simp at h4); omega))).imp (fun b hb => And.intro (by have h := hb.1; (try simp only [World.size_alloc] at h); omega) (Nat.lt_of_lt_of_eq hb.2 (by simp [World.setCell]))), CF03.out.setCell (by first | exact Nat.le_refl _ | exact CF01.out.size | exact CF02.out.size) _⟩
                    | exact ⟨rfl, wF03.heap.size, fa, fn, fc, rfl, heap_alloc_new wF03 _, (ST.out.keep (fun b hb => Below.heap_alloc _ _ _ hb.2)).imp (fun b hb => And.intro (by have h := hb.1; (try simp only [World.size_alloc] at h); omega) (Nat.lt_of_lt_of_le hb.2 (by simp))), CF03.out.alloc CF03.out.size _⟩
              case rest =>
                obtain ⟨rfl, X, fa, fn, fc, rfl, qX, st5, hbd⟩ := hcut
                obtain ⟨wd, hwd⟩ : ∃ wd, wd = wc := ⟨_, rfl⟩
                subst hwd
                have cX := cellOf qX 0
                simp only [List.getElem?_toArray, List.getElem?_cons_zero] at cX
                have bx5 := (HMI.out.below hbd).bx
                have cb5 := cellOf bx5 0
                have fb5 := freeOf bx5 0
                simp only [List.getElem?_toArray, List.getElem?_cons_zero] at cb5
                have HM5 := hid (HMI.out.state (fc := fc) hbd st5)
                clear qX st5 hbd bx5 F0 HCB HDK cb ci K12
                go_upto_region 24 with fail
                obtain ⟨w5, hw5⟩ : ∃ w5, w5 = wd.setCell ⟨w0.heap.size + 1, 0, none⟩ (.slice fa fn fc) := ⟨_, rfl⟩
                rw [← hw5] at HM5 ⊢
                clear hw5 cX cb5 fb5
                obtain ⟨g2, e2, _, cz, fz⟩ := HM5.out.g2.cell (j := j) (x := Z.getD j 0) (by rw [List.getD_eq_getElem?_getD, List.getElem?_eq_getElem (by rw [← Hzn.out]; omega)]; rfl)
                subst e2
                go_upto_region 28 with fail
                have HM6 := hid (HM5.out.set2 j (by rw [← Hzn.out]; omega) (i : Int))
                have PV6 := hid (PVH.out.upd HTj.out (i := (i : Int)) ⟨by omega, by omega⟩)
                have Hzn6 : Hid (k = (Z.set j (i : Int)).length) := hid (by rw [List.length_set]; exact Hzn.out)
                obtain ⟨w6, hw6⟩ : ∃ w6, w6 = w5.setCell ⟨g2, j, none⟩ (.int .i64 (i : Int)) := ⟨_, rfl⟩
                rw [← hw6] at HM6 ⊢
                obtain ⟨Z6, hZ6⟩ : ∃ Z6, Z6 = Z.set j (i : Int) := ⟨_, rfl⟩
                rw [← hZ6] at HM6 PV6 Hzn6
                obtain ⟨L6, hL6⟩ : ∃ L6, L6 = insI x (i : Int) L := ⟨_, rfl⟩
                rw [← hL6] at HM6 PV6
                clear hw6 cz fz HM5 hZ6 hL6
                by_cases hgi : i < gn
                · have hgi1 : (i : Int) < (gn : Int) := by omega
                  obtain ⟨u, hu⟩ : ∃ u, gs[i]? = some u := ⟨gs[i]'(by rw [← Hg.out]; exact hgi), List.getElem?_eq_getElem _⟩
                  obtain ⟨hur, bg, og, eg, dg⟩ := (((Hgr.out.below HB0.out).below HM6.out.bel)) i u hu
                  subst eg
                  have hcu : IntKind.i64.wrap u = u := by rw [IntKind.wrap_i64]; omega
                  have Hur := hid hur
                  clear hu
                  by_cases h3 : u.tmod 3 = 0
                  · have h3b : (u.tmod 3 == 0) = true := by simp [h3]
                    have htp : 0 < k := by omega
                    obtain ⟨d, hd⟩ : ∃ d : Nat, u.tmod (k : Int) = (d : Int) := ⟨(u.tmod (k : Int)).toNat, by rw [Int.toNat_of_nonneg]; exact Int.tmod_nonneg _ hur.1⟩
                    have hdl : d < k := by have := Int.tmod_lt_of_pos u (show (0 : Int) < (k : Int) by omega); omega
                    have hdl1 : (d : Int) < (k : Int) := by omega
                    have hd0 : (0 : Int) ≤ (d : Int) := by omega
                    have hwd : IntKind.i64.wrap (d : Int) = (d : Int) := by rw [IntKind.wrap_i64]; omega
                    have hnz : ¬ (k : Int) = 0 := by omega
                    clear hur
                    as_aux_lemma =>
                      obtain ⟨y, hy⟩ : ∃ y, T[d]? = some y := ⟨(T)[d]'(by rw [← Htn.out]; exact hdl), List.getElem?_eq_getElem _⟩
                      obtain ⟨g1, e1, _, cT, _⟩ := HM6.out.g1.cell hy
                      subst e1
                      have cb6 := cellOf HM6.out.bx 0
                      simp only [List.getElem?_toArray, List.getElem?_cons_zero] at cb6
                      have HCB6 : Hid (∀ W : World, Below w6.heap.size w6 W → W.cell? ⟨w0.heap.size + 1, 0, none⟩ = some (.slice fa fn fc)) := hid (fun W hb => (hb.cell (p := ⟨w0.heap.size + 1, 0, none⟩) (Array.getElem?_eq_some_iff.1 HM6.out.bx).1).trans cb6)
                      have F6 := hid ((Below.refl w6.heap.size w6).drew)
                      have KD : Hid (∀ W : World, Below w6.heap.size w6 W → Calls Try.prog 15 #[.agg #[.slice fa fn fc], .int .i64 1, .agg #[.int .i64 1, .int .i64 y, .string ⟨#[]⟩, .int .i64 0, .slice none 0 0]] W (StTold 1 W (([[], L6.filter fun p => !(p.1 == y)] : List NL).map rowN))) := hid (fun W hb => del_n W fa fn fc [[], L6] (HM6.out.st.cr.below (Nat.le_refl _) hb) 1 L6 rfl y ⟨by have := PV6.out.rt y (List.mem_of_getElem? hy); omega, by have := PV6.out.rt y (List.mem_of_getElem? hy); omega⟩)
                      have PV7 := hid (PV6.out.del hy)
                      have Hhd := hid hd
                      clear hy
                      go_upto_region 30 with fail
                      clear hd dg
                      go_cut [13] (fun v13 wd => v13 = .int .i64 (d : Int) ∧ ∃ ha hn hc, HM w0 wd T Z6 (L6.filter fun p => !(p.1 == y)) (some ⟨g1, 0, none⟩) c1 (some ⟨g2, 0, none⟩) c2 ha hn hc)
                      case first =>
                        refine wp_region_noPanic ?_
                        go_region_with ((first
                          | (go_at_call 15; (have hno := G1; refine (KD.out _ G1.out).mono ?_; rintro e w8 ⟨ha, hn, hc, rfl, hb8, hhc, hst⟩; have hb8' := TR.out G1.out hb8; have s7 := G1.out.size; have bx8 := (HM6.out.below hb8').bx; have cb8 := cellOf bx8 0; have fb8 := freeOf bx8 0; simp only [List.getElem?_toArray, List.getElem?_cons_zero] at cb8; have HM8 := hid (HM6.out.state (fc := hc) hb8' (hst.imp (fun b hb => And.intro (Nat.le_trans s7 hb.1) hb.2))); clear bx8 hst hb8 hb8'))
                          | (go_at_call 36; (refine (K36.out _ _).mono ?_; rintro e w7 ⟨rfl, hb7⟩; have G1 := hid (TR.out F6.out hb7); have x7 := HCB6.out _ G1.out; clear hb7))))
                        all_goals refine NoPanic.normal ?_
                        all_goals
                          go_wp2_with fail
                          go_meet
                          exact ⟨rfl, ha, hn, hc, HM8.out⟩
                      case rest =>
                        obtain ⟨rfl, ha, hn, hc, hm9⟩ := hcut
                        obtain ⟨w9, hw9⟩ : ∃ w9, w9 = wc := ⟨_, rfl⟩
                        subst hw9
                        have HM9 := hid hm9
                        obtain ⟨tm, htm⟩ : ∃ tm, tm = k - 1 := ⟨_, rfl⟩
                        have Htm := hid htm
                        have hw1 : IntKind.i64.wrap ((d : Int) + 1) = (d : Int) + 1 := by rw [IntKind.wrap_i64]; omega
                        have hd1 : (0 : Int) ≤ (d : Int) + 1 := by omega
                        have hd2 : (d : Int) + 1 ≤ (k : Int) := by omega
                        have hnc1 := hm9.g1.nc
                        rw [← Htn.out] at hnc1
                        have hnc2 := hm9.g2.nc
                        rw [← Hzn6.out] at hnc2
                        have hnc3 : (d : Int) ≤ (c1 : Int) := by omega
                        have hnc4 : (d : Int) ≤ (c2 : Int) := by omega
                        have G1r : Hid (GRow w9.drew (w0.heap.size + 2) (some ⟨g1, 0, none⟩) k c1 T) := hid (by have := hm9.g1.below (Nat.le_refl _) (Below.refl _ w9).drew; rw [← Htn.out] at this; exact this)
                        have hsz9 := hm9.sz
                        clear hm9 htm cT cb6 HCB6 F6 KD HM6
                        go_upto_region 31 with fail
                        go_cut [6] (fun v6 wd => ∃ v1 d1, v6 = .slice v1 tm d1 ∧ GRow wd (w0.heap.size + 2) v1 tm d1 (T.take d ++ T.drop (d + 1)) ∧ (v1 = some ⟨g1, 0, none⟩ ∨ ∃ g, v1 = some ⟨g, 0, none⟩ ∧ w9.heap.size ≤ g) ∧ Below w9.heap.size w9 wd)
                        case first =>
                          by_cases hcd : c1 = d + 1
                          · have hcdt := eq_true hcd
                            have Hcd := hid hcd
                            clear hcd
                            go_region_held3 (fun _ => True) (trivial) ((refine step_cutM (by rfl) _ _ (by rfl) _ _ (by rfl) (by rfl) (w0.heap.size + 2) (some ⟨g1, 0, none⟩) k c1 d tm Htm.out (by rfl) (by unfold sliced; rw [if_pos Hcd.out]; rfl) T G1r.out (by omega) hdl (by simp; omega) ?_; intro v1 d1 w10 hr10 hg10 hv10; have HR10 := hid hr10; have HG10 := hid hg10; have HV10 := hid hv10; clear hr10 hg10 hv10))
                            all_goals
                              go_wp2_with fail
                              go_meet
                              exact ⟨v1, d1, rfl, HR10.out, HV10.out, (Below.refl _ w9).drew.trans (below_of_grown HG10.out)⟩
                          · go_region_held3 (fun _ => True) (trivial) ((refine step_cutM (by rfl) _ _ (by rfl) _ _ (by rfl) (by rfl) (w0.heap.size + 2) (some ⟨g1, 0, none⟩) k c1 d tm Htm.out (by rfl) (by unfold sliced; rw [if_neg hcd]; first | rfl | (simp [Addr.add_lit]; rfl)) T G1r.out (by omega) hdl (by simp; omega) ?_; intro v1 d1 w10 hr10 hg10 hv10; have HR10 := hid hr10; have HG10 := hid hg10; have HV10 := hid hv10; clear hr10 hg10 hv10))
                            all_goals
                              go_wp2_with fail
                              go_meet
                              exact ⟨v1, d1, rfl, HR10.out, HV10.out, (Below.refl _ w9).drew.trans (below_of_grown HG10.out)⟩
                        case rest =>
                          obtain ⟨v1, d1, rfl, hr1, hv1, hb10⟩ := hcut
                          obtain ⟨w10, hw10⟩ : ∃ w10, w10 = wc := ⟨_, rfl⟩
                          subst hw10
                          have HR1 := hid hr1
                          have HV1 := hid hv1
                          have HB10 := hid hb10
                          have G2r : Hid (GRow w10.drew (w0.heap.size + 2) (some ⟨g2, 0, none⟩) k c2 Z6) := hid (by have := (HM9.out.g2.below (Nat.le_refl _) hb10).below (Nat.le_refl _) (Below.refl _ w10).drew; rw [← Hzn6.out] at this; exact this)
                          have hs10 := hb10.size
                          clear hr1 hv1 hb10
                          go_upto_region 32 with fail
                          by_cases hcd : c2 = d + 1
                          · have hcdt := eq_true hcd
                            have Hcd := hid hcd
                            clear hcd
                            go_region_held3 (fun _ => True) (trivial) ((refine step_cutM (by rfl) _ _ (by rfl) _ _ (by rfl) (by rfl) (w0.heap.size + 2) (some ⟨g2, 0, none⟩) k c2 d tm Htm.out (by rfl) (by unfold sliced; rw [if_pos Hcd.out]; rfl) Z6 G2r.out (by omega) hdl (by simp; omega) ?_; intro v2 d2 w11 hr11 hg11 hv11; have HR11 := hid hr11; have HG11 := hid hg11; have HV11 := hid hv11; clear hr11 hg11 hv11))
                            go_wp2
                            have lt7 : tm = (T.take d ++ T.drop (d + 1)).length := HR1.out.n1
                            have lz7 : tm = (Z6.take d ++ Z6.drop (d + 1)).length := HR11.out.n1
                            have Lt7 := hid lt7
                            have Lz7 := hid lz7
                            have HM11 := hid (HM9.out.cut HB10.out (by rw [← lt7]; exact HR1.out) HV1.out ((Below.refl _ w10).drew.trans (below_of_grown HG11.out)) (by rw [← lz7]; exact HR11.out) HV11.out)
                            clear lt7 lz7
                            go_roundg gi
                            case measure => have := Hi.out; omega
                            case rel => exact ⟨i + 1, by have := Hi.out; omega, by go_num, _, _, _, tm, v1, d1, v2, d2, ha, hn, hc, rfl, rfl, Lt7.out, Lz7.out, PV7.out, HM11.out⟩
                          · go_region_held3 (fun _ => True) (trivial) ((refine step_cutM (by rfl) _ _ (by rfl) _ _ (by rfl) (by rfl) (w0.heap.size + 2) (some ⟨g2, 0, none⟩) k c2 d tm Htm.out (by rfl) (by unfold sliced; rw [if_neg hcd]; first | rfl | (simp [Addr.add_lit]; rfl)) Z6 G2r.out (by omega) hdl (by simp; omega) ?_; intro v2 d2 w11 hr11 hg11 hv11; have HR11 := hid hr11; have HG11 := hid hg11; have HV11 := hid hv11; clear hr11 hg11 hv11))
                            go_wp2
                            have lt7 : tm = (T.take d ++ T.drop (d + 1)).length := HR1.out.n1
                            have lz7 : tm = (Z6.take d ++ Z6.drop (d + 1)).length := HR11.out.n1
                            have Lt7 := hid lt7
                            have Lz7 := hid lz7
                            have HM11 := hid (HM9.out.cut HB10.out (by rw [← lt7]; exact HR1.out) HV1.out ((Below.refl _ w10).drew.trans (below_of_grown HG11.out)) (by rw [← lz7]; exact HR11.out) HV11.out)
                            clear lt7 lz7
                            go_roundg gi
                            case measure => have := Hi.out; omega
                            case rel => exact ⟨i + 1, by have := Hi.out; omega, by go_num, _, _, _, tm, v1, d1, v2, d2, ha, hn, hc, rfl, rfl, Lt7.out, Lz7.out, PV7.out, HM11.out⟩
                  · have h3b : (u.tmod 3 == 0) = false := by simpa using h3
                    clear hur
                    go_wp2
                    go_roundg gi
                    case measure => have := Hi.out; omega
                    case rel => exact ⟨i + 1, by have := Hi.out; omega, by go_num, T, Z6, L6, k, a1, c1, (some ⟨g2, 0, none⟩), c2, fa, fn, fc, rfl, rfl, Htn.out, Hzn6.out, PV6.out, HM6.out⟩
                · have hgi1 : ¬ (i : Int) < (gn : Int) := by omega
                  go_wp2
                  go_roundg gi
                  case measure => have := Hi.out; omega
                  case rel => exact ⟨i + 1, by have := Hi.out; omega, by go_num, T, Z6, L6, k, a1, c1, (some ⟨g2, 0, none⟩), c2, fa, fn, fc, rfl, rfl, Htn.out, Hzn6.out, PV6.out, HM6.out⟩
                
          · have hnx : x ∉ T := fun hm => by
              obtain ⟨j, hj⟩ := List.getElem?_of_mem hm
              exact hno j (by rw [Htn.out]; exact (List.getElem?_eq_some_iff.1 hj).1) hj
            have Hnx := hid hnx
            clear hno hnx Hat
            by_cases hfu : k < 24
            · have hok : (placeR (cA x) L).2 = true ∨ L.length < 24 := .inr (by rw [PVH.out.ln, ← Htn.out]; exact hfu)
              have hfu1 : (k : Int) < 24 := by omega
              have hfub : ((k : Int) == 24) = false := by simp; omega
              as_aux_lemma =>
                have K12 : Hid (∀ W : World, Below wi.heap.size wi W → Calls Try.prog 12 #[.agg #[.slice sa sn sc], .int .i64 1, .agg #[.int .i64 1, .int .i64 x, .string ⟨#[]⟩, .int .i64 0, .slice none 0 0], .agg #[.int .i64 1, .int .i64 (i : Int), .string ⟨#[]⟩, .int .i64 0, .slice none 0 0]] W (PutTold 1 W (([[], insI x (i : Int) L] : List NL).map rowN))) := hid (fun W hb => put_o W sa sn sc L x (i : Int) Hix.out Hii.out (HMI.out.st.cr.below (Nat.le_refl _) hb) hok)
                clear hok
                go_upto_region 17 with fail
                go_cut [11, 12] (fun v11 v12 wd => v12 = .int .i64 0 ∧ ∃ X fa fn fc, v11 = .pointer (some ⟨X, 0, none⟩) ∧ wd.heap[X]? = some (.cells #[.slice fa fn fc] 27 (0, 0)) ∧ StCP 1 wd (fun b => wi.heap.size ≤ b ∧ b < wd.heap.size) fa fn (([[], insI x (i : Int) L] : List NL).map rowN) ∧ Below wi.heap.size wi wd)
                case first =>
                  as_aux_lemma =>
                  go_region_held3 (fun W' => W'.cell? ⟨w0.heap.size + 1, 0, none⟩ = some (.slice sa sn sc) ∧ W'.cell? ⟨b, off + i, none⟩ = some (.int .i16 x)) (first | with_reducible exact ⟨HCB.out _ (CF03.out.alloc CF03.out.size _), HDK.out _ (CF03.out.alloc CF03.out.size _)⟩ | with_reducible exact ⟨HCB.out _ CF03.out, HDK.out _ CF03.out⟩ | with_reducible exact ⟨HCB.out _ (CF03.out.setCell (by first | exact Nat.le_refl _ | exact CF01.out.size | exact CF02.out.size) _), HDK.out _ (CF03.out.setCell (by first | exact Nat.le_refl _ | exact CF01.out.size | exact CF02.out.size) _)⟩ | with_reducible exact ⟨HCB.out _ CF02.out, HDK.out _ CF02.out⟩ | with_reducible exact ⟨HCB.out _ (CF02.out.alloc CF02.out.size _), HDK.out _ (CF02.out.alloc CF02.out.size _)⟩ | with_reducible exact ⟨HCB.out _ CF01.out, HDK.out _ CF01.out⟩ | with_reducible exact ⟨HCB.out _ (CF01.out.alloc CF01.out.size _), HDK.out _ (CF01.out.alloc CF01.out.size _)⟩ | with_reducible exact ⟨HCB.out _ F0.out, HDK.out _ F0.out⟩ | with_reducible exact ⟨HCB.out _ (F0.out.alloc F0.out.size _), HDK.out _ (F0.out.alloc F0.out.size _)⟩ | go_keep) ((first
                    | (go_at_call 12; (have hno := CF02; refine (K12.out _ (by first | exact CF02.out | exact CF02.out.alloc CF02.out.size _)).mono ?_; rintro e wF03 ⟨fa, fn, fc, rfl, hbF03, hfc, hst⟩; (first | (have CF03 := hid (TR.out CF02.out hbF03); try have zzF03 := (hbF03.block _ (Array.getElem?_eq_some_iff.1 zzF02).1).trans zzF02) | (have CF03 := hid (TR.out (CF02.out.alloc CF02.out.size _) hbF03); have zzF03 : wF03.heap[wF02.heap.size]? = some (.cells #[.slice none 0 0] 27 (0, 0)) := (hbF03.block _ (by simp)).trans (heap_alloc_new _ (.cells #[.slice none 0 0] 27)))); (try (have y0 := cellOf zzF03 0; have v0 := freeOf zzF03 0; simp only [List.getElem?_toArray, List.getElem?_cons_zero, List.getElem?_cons_succ] at y0)); have ST := hid hst; clear hst; clear hbF03))
                    | (go_at_call 36; (have hno := CF01; refine (K36.out _ _).mono ?_; rintro e wF02 ⟨rfl, hbF02⟩; (first | (have CF02 := hid (TR.out CF01.out hbF02); try have zzF02 := (hbF02.block _ (Array.getElem?_eq_some_iff.1 zzF01).1).trans zzF01) | (have CF02 := hid (TR.out (CF01.out.alloc CF01.out.size _) hbF02); have zzF02 : wF02.heap[wF01.heap.size]? = some (.cells #[.slice none 0 0] 27 (0, 0)) := (hbF02.block _ (by simp)).trans (heap_alloc_new _ (.cells #[.slice none 0 0] 27)))); have HXwF02 := CF02; clear hbF02))
                    | (go_at_call 36; (refine (K36.out _ _).mono ?_; rintro e wF01 ⟨rfl, hbF01⟩; (first | (have CF01 := hid (TR.out F0.out hbF01); try have zzF01 := (hbF01.block _ (Array.getElem?_eq_some_iff.1 zzF00).1).trans zzF00) | (have CF01 := hid (TR.out (F0.out.alloc F0.out.size _) hbF01); have zzF01 : wF01.heap[wi.heap.size]? = some (.cells #[.slice none 0 0] 27 (0, 0)) := (hbF01.block _ (by simp)).trans (heap_alloc_new _ (.cells #[.slice none 0 0] 27)))); have HXwF01 := CF01; clear hbF01))))
                  all_goals
                    go_wp2_with fail
                    go_meet
                    have s1 := CF01.out.size
                    have s2 := CF02.out.size
                    first
                      | exact ⟨rfl, _, fa, fn, fc, rfl, set_cells zzF03 _, (ST.out.keep (fun b hb => Below.heap_setCell _ _ _ _ (by (try have h3 := (Array.getElem?_eq_some_iff.1 zzF02).1); (try have h4 := (Array.getElem?_eq_some_iff.1 zzF01).1); intro e; (try simp at hb); (try simp at e); (try simp at h3); (try simp at h4); omega))).imp (fun b hb => And.intro (by have h := hb.1; (try simp only [World.size_alloc] at h); omega) (Nat.lt_of_lt_of_eq hb.2 (by simp [World.setCell]))), CF03.out.setCell (by first | exact Nat.le_refl _ | exact CF01.out.size | exact CF02.out.size) _⟩
                      | exact ⟨rfl, wF03.heap.size, fa, fn, fc, rfl, heap_alloc_new wF03 _, (ST.out.keep (fun b hb => Below.heap_alloc _ _ _ hb.2)).imp (fun b hb => And.intro (by have h := hb.1; (try simp only [World.size_alloc] at h); omega) (Nat.lt_of_lt_of_le hb.2 (by simp))), CF03.out.alloc CF03.out.size _⟩
                case rest =>
                  obtain ⟨rfl, X, fa, fn, fc, rfl, qX, st5, hbd⟩ := hcut
                  obtain ⟨wd, hwd⟩ : ∃ wd, wd = wc := ⟨_, rfl⟩
                  subst hwd
                  have cX := cellOf qX 0
                  simp only [List.getElem?_toArray, List.getElem?_cons_zero] at cX
                  have bx5 := (HMI.out.below hbd).bx
                  have cb5 := cellOf bx5 0
                  have fb5 := freeOf bx5 0
                  simp only [List.getElem?_toArray, List.getElem?_cons_zero] at cb5
                  have HM5 := hid (HMI.out.state (fc := fc) hbd st5)
                  clear qX st5 hbd bx5 F0 HCB HDK cb ci K12
                  go_upto_region 24 with fail
                  obtain ⟨w5, hw5⟩ : ∃ w5, w5 = wd.setCell ⟨w0.heap.size + 1, 0, none⟩ (.slice fa fn fc) := ⟨_, rfl⟩
                  rw [← hw5] at HM5 ⊢
                  clear hw5 cX cb5 fb5
                  obtain ⟨_, b5, o5, e5, ck5⟩ := ((Hkr.out.below HB0.out).below HM5.out.bel) i x Hx.out
                  cases e5
                  obtain ⟨kp, hkp⟩ : ∃ kp, kp = k + 1 := ⟨_, rfl⟩
                  have Hkp := hid hkp
                  have hkp1 : (kp : Int) ≤ 24 := by omega
                  have hkp0 : 0 < kp := by omega
                  have hkp2 : (0 : Int) ≤ (kp : Int) := by omega
                  have G1 : Hid (GRow w5 (w0.heap.size + 2) a1 k c1 T) := hid (by have := HM5.out.g1; rw [← Htn.out] at this; exact this)
                  have hs5 := HM5.out.sz
                  have HtnN : Hid (kp = (T ++ [x]).length) := hid (by rw [List.length_append, ← Htn.out, hkp]; rfl)
                  have Hzn6 : Hid (kp = (Z ++ [(i : Int)]).length) := hid (by rw [List.length_append, ← Hzn.out, hkp]; rfl)
                  clear hkp
                  go_upto_region 28 with (first
                    | (at_builtin; have hno := HM5b; refine wpList_app1M w5b rfl _ _ rfl a2 k c2 kp Hkp.out (i : Int) (by rfl) (by rfl) (w0.heap.size + 2) Z G2.out (by omega) HM5b.out.sz ?_; intro r2 q2 w6 hr2 hg2; have HM6 := hid (HM5b.out.app2 (Z' := Z ++ [(i : Int)]) (by rw [← Hzn6.out]; exact hr2) hg2); clear hr2 hg2)
                    | (at_builtin; refine wpList_app1M w5 rfl _ _ rfl a1 k c1 kp Hkp.out x (by rfl) (by rfl) (w0.heap.size + 2) T G1.out (by omega) hs5 ?_; intro r1 q1 w5b hr1 hg1; have HM5b := hid (HM5.out.app1 (T' := T ++ [x]) (by rw [← HtnN.out]; exact hr1) hg1); have G2 : Hid (GRow w5b (w0.heap.size + 2) a2 k c2 Z) := hid (by have := HM5b.out.g2; rw [← Hzn.out] at this; exact this); clear hr1 hg1))
                  have PV6 := hid (PVH.out.add Hnx.out (by rw [← Htn.out]; omega) Hxr.out (i := (i : Int)) ⟨by omega, by omega⟩)
                  obtain ⟨T6, hT6⟩ : ∃ T6, T6 = T ++ [x] := ⟨_, rfl⟩
                  rw [← hT6] at HM6 PV6 HtnN
                  obtain ⟨Z6, hZ6⟩ : ∃ Z6, Z6 = Z ++ [(i : Int)] := ⟨_, rfl⟩
                  rw [← hZ6] at HM6 PV6 Hzn6
                  obtain ⟨L6, hL6⟩ : ∃ L6, L6 = insI x (i : Int) L := ⟨_, rfl⟩
                  rw [← hL6] at HM6 PV6
                  clear hT6 hZ6 hL6 ck5 HM5 HM5b G1 G2
                  by_cases hgi : i < gn
                  · have hgi1 : (i : Int) < (gn : Int) := by omega
                    obtain ⟨u, hu⟩ : ∃ u, gs[i]? = some u := ⟨gs[i]'(by rw [← Hg.out]; exact hgi), List.getElem?_eq_getElem _⟩
                    obtain ⟨hur, bg, og, eg, dg⟩ := (((Hgr.out.below HB0.out).below HM6.out.bel)) i u hu
                    subst eg
                    have hcu : IntKind.i64.wrap u = u := by rw [IntKind.wrap_i64]; omega
                    have Hur := hid hur
                    clear hu
                    by_cases h3 : u.tmod 3 = 0
                    · have h3b : (u.tmod 3 == 0) = true := by simp [h3]
                      have htp : 0 < kp := by omega
                      obtain ⟨d, hd⟩ : ∃ d : Nat, u.tmod (kp : Int) = (d : Int) := ⟨(u.tmod (kp : Int)).toNat, by rw [Int.toNat_of_nonneg]; exact Int.tmod_nonneg _ hur.1⟩
                      have hdl : d < kp := by have := Int.tmod_lt_of_pos u (show (0 : Int) < (kp : Int) by omega); omega
                      have hdl1 : (d : Int) < (kp : Int) := by omega
                      have hd0 : (0 : Int) ≤ (d : Int) := by omega
                      have hwd : IntKind.i64.wrap (d : Int) = (d : Int) := by rw [IntKind.wrap_i64]; omega
                      have hnz : ¬ (kp : Int) = 0 := by omega
                      clear hur
                      as_aux_lemma =>
                        obtain ⟨y, hy⟩ : ∃ y, T6[d]? = some y := ⟨(T6)[d]'(by rw [← HtnN.out]; exact hdl), List.getElem?_eq_getElem _⟩
                        obtain ⟨g1, e1, _, cT, _⟩ := HM6.out.g1.cell hy
                        subst e1
                        obtain ⟨z, hz⟩ : ∃ z, Z6[d]? = some z := ⟨Z6[d]'(by rw [← Hzn6.out]; exact hdl), List.getElem?_eq_getElem _⟩
                        obtain ⟨g2, e2, _, _, _⟩ := HM6.out.g2.cell hz
                        subst e2
                        clear hz
                        have cb6 := cellOf HM6.out.bx 0
                        simp only [List.getElem?_toArray, List.getElem?_cons_zero] at cb6
                        have HCB6 : Hid (∀ W : World, Below w6.heap.size w6 W → W.cell? ⟨w0.heap.size + 1, 0, none⟩ = some (.slice fa fn fc)) := hid (fun W hb => (hb.cell (p := ⟨w0.heap.size + 1, 0, none⟩) (Array.getElem?_eq_some_iff.1 HM6.out.bx).1).trans cb6)
                        have F6 := hid ((Below.refl w6.heap.size w6).drew)
                        have KD : Hid (∀ W : World, Below w6.heap.size w6 W → Calls Try.prog 15 #[.agg #[.slice fa fn fc], .int .i64 1, .agg #[.int .i64 1, .int .i64 y, .string ⟨#[]⟩, .int .i64 0, .slice none 0 0]] W (StTold 1 W (([[], L6.filter fun p => !(p.1 == y)] : List NL).map rowN))) := hid (fun W hb => del_n W fa fn fc [[], L6] (HM6.out.st.cr.below (Nat.le_refl _) hb) 1 L6 rfl y ⟨by have := PV6.out.rt y (List.mem_of_getElem? hy); omega, by have := PV6.out.rt y (List.mem_of_getElem? hy); omega⟩)
                        have PV7 := hid (PV6.out.del hy)
                        have Hhd := hid hd
                        clear hy
                        go_upto_region 30 with fail
                        clear hd dg
                        go_cut [13] (fun v13 wd => v13 = .int .i64 (d : Int) ∧ ∃ ha hn hc, HM w0 wd T6 Z6 (L6.filter fun p => !(p.1 == y)) (some ⟨g1, 0, none⟩) q1 (some ⟨g2, 0, none⟩) q2 ha hn hc)
                        case first =>
                          refine wp_region_noPanic ?_
                          go_region_with ((first
                            | (go_at_call 15; (have hno := G1; refine (KD.out _ G1.out).mono ?_; rintro e w8 ⟨ha, hn, hc, rfl, hb8, hhc, hst⟩; have hb8' := TR.out G1.out hb8; have s7 := G1.out.size; have bx8 := (HM6.out.below hb8').bx; have cb8 := cellOf bx8 0; have fb8 := freeOf bx8 0; simp only [List.getElem?_toArray, List.getElem?_cons_zero] at cb8; have HM8 := hid (HM6.out.state (fc := hc) hb8' (hst.imp (fun b hb => And.intro (Nat.le_trans s7 hb.1) hb.2))); clear bx8 hst hb8 hb8'))
                            | (go_at_call 36; (refine (K36.out _ _).mono ?_; rintro e w7 ⟨rfl, hb7⟩; have G1 := hid (TR.out F6.out hb7); have x7 := HCB6.out _ G1.out; clear hb7))))
                          all_goals refine NoPanic.normal ?_
                          all_goals
                            go_wp2_with fail
                            go_meet
                            exact ⟨rfl, ha, hn, hc, HM8.out⟩
                        case rest =>
                          obtain ⟨rfl, ha, hn, hc, hm9⟩ := hcut
                          obtain ⟨w9, hw9⟩ : ∃ w9, w9 = wc := ⟨_, rfl⟩
                          subst hw9
                          have HM9 := hid hm9
                          obtain ⟨tm, htm⟩ : ∃ tm, tm = kp - 1 := ⟨_, rfl⟩
                          have Htm := hid htm
                          have hw1 : IntKind.i64.wrap ((d : Int) + 1) = (d : Int) + 1 := by rw [IntKind.wrap_i64]; omega
                          have hd1 : (0 : Int) ≤ (d : Int) + 1 := by omega
                          have hd2 : (d : Int) + 1 ≤ (kp : Int) := by omega
                          have hnc1 := hm9.g1.nc
                          rw [← HtnN.out] at hnc1
                          have hnc2 := hm9.g2.nc
                          rw [← Hzn6.out] at hnc2
                          have hnc3 : (d : Int) ≤ (q1 : Int) := by omega
                          have hnc4 : (d : Int) ≤ (q2 : Int) := by omega
                          have G1r : Hid (GRow w9.drew (w0.heap.size + 2) (some ⟨g1, 0, none⟩) kp q1 T6) := hid (by have := hm9.g1.below (Nat.le_refl _) (Below.refl _ w9).drew; rw [← HtnN.out] at this; exact this)
                          have hsz9 := hm9.sz
                          clear hm9 htm cT cb6 HCB6 F6 KD HM6
                          go_upto_region 31 with fail
                          go_cut [6] (fun v6 wd => ∃ v1 d1, v6 = .slice v1 tm d1 ∧ GRow wd (w0.heap.size + 2) v1 tm d1 (T6.take d ++ T6.drop (d + 1)) ∧ (v1 = some ⟨g1, 0, none⟩ ∨ ∃ g, v1 = some ⟨g, 0, none⟩ ∧ w9.heap.size ≤ g) ∧ Below w9.heap.size w9 wd)
                          case first =>
                            by_cases hcd : q1 = d + 1
                            · have hcdt := eq_true hcd
                              have Hcd := hid hcd
                              clear hcd
                              go_region_held3 (fun _ => True) (trivial) ((refine step_cutM (by rfl) _ _ (by rfl) _ _ (by rfl) (by rfl) (w0.heap.size + 2) (some ⟨g1, 0, none⟩) kp q1 d tm Htm.out (by rfl) (by unfold sliced; rw [if_pos Hcd.out]; rfl) T6 G1r.out (by omega) hdl (by simp; omega) ?_; intro v1 d1 w10 hr10 hg10 hv10; have HR10 := hid hr10; have HG10 := hid hg10; have HV10 := hid hv10; clear hr10 hg10 hv10))
                              all_goals
                                go_wp2_with fail
                                go_meet
                                exact ⟨v1, d1, rfl, HR10.out, HV10.out, (Below.refl _ w9).drew.trans (below_of_grown HG10.out)⟩
                            · go_region_held3 (fun _ => True) (trivial) ((refine step_cutM (by rfl) _ _ (by rfl) _ _ (by rfl) (by rfl) (w0.heap.size + 2) (some ⟨g1, 0, none⟩) kp q1 d tm Htm.out (by rfl) (by unfold sliced; rw [if_neg hcd]; first | rfl | (simp [Addr.add_lit]; rfl)) T6 G1r.out (by omega) hdl (by simp; omega) ?_; intro v1 d1 w10 hr10 hg10 hv10; have HR10 := hid hr10; have HG10 := hid hg10; have HV10 := hid hv10; clear hr10 hg10 hv10))
                              all_goals
                                go_wp2_with fail
                                go_meet
                                exact ⟨v1, d1, rfl, HR10.out, HV10.out, (Below.refl _ w9).drew.trans (below_of_grown HG10.out)⟩
                          case rest =>
                            obtain ⟨v1, d1, rfl, hr1, hv1, hb10⟩ := hcut
                            obtain ⟨w10, hw10⟩ : ∃ w10, w10 = wc := ⟨_, rfl⟩
                            subst hw10
                            have HR1 := hid hr1
                            have HV1 := hid hv1
                            have HB10 := hid hb10
                            have G2r : Hid (GRow w10.drew (w0.heap.size + 2) (some ⟨g2, 0, none⟩) kp q2 Z6) := hid (by have := (HM9.out.g2.below (Nat.le_refl _) hb10).below (Nat.le_refl _) (Below.refl _ w10).drew; rw [← Hzn6.out] at this; exact this)
                            have hs10 := hb10.size
                            clear hr1 hv1 hb10
                            go_upto_region 32 with fail
                            by_cases hcd : q2 = d + 1
                            · have hcdt := eq_true hcd
                              have Hcd := hid hcd
                              clear hcd
                              go_region_held3 (fun _ => True) (trivial) ((refine step_cutM (by rfl) _ _ (by rfl) _ _ (by rfl) (by rfl) (w0.heap.size + 2) (some ⟨g2, 0, none⟩) kp q2 d tm Htm.out (by rfl) (by unfold sliced; rw [if_pos Hcd.out]; rfl) Z6 G2r.out (by omega) hdl (by simp; omega) ?_; intro v2 d2 w11 hr11 hg11 hv11; have HR11 := hid hr11; have HG11 := hid hg11; have HV11 := hid hv11; clear hr11 hg11 hv11))
                              go_wp2
                              have lt7 : tm = (T6.take d ++ T6.drop (d + 1)).length := HR1.out.n1
                              have lz7 : tm = (Z6.take d ++ Z6.drop (d + 1)).length := HR11.out.n1
                              have Lt7 := hid lt7
                              have Lz7 := hid lz7
                              have HM11 := hid (HM9.out.cut HB10.out (by rw [← lt7]; exact HR1.out) HV1.out ((Below.refl _ w10).drew.trans (below_of_grown HG11.out)) (by rw [← lz7]; exact HR11.out) HV11.out)
                              clear lt7 lz7
                              go_roundg gi
                              case measure => have := Hi.out; omega
                              case rel => exact ⟨i + 1, by have := Hi.out; omega, by go_num, _, _, _, tm, v1, d1, v2, d2, ha, hn, hc, rfl, rfl, Lt7.out, Lz7.out, PV7.out, HM11.out⟩
                            · go_region_held3 (fun _ => True) (trivial) ((refine step_cutM (by rfl) _ _ (by rfl) _ _ (by rfl) (by rfl) (w0.heap.size + 2) (some ⟨g2, 0, none⟩) kp q2 d tm Htm.out (by rfl) (by unfold sliced; rw [if_neg hcd]; first | rfl | (simp [Addr.add_lit]; rfl)) Z6 G2r.out (by omega) hdl (by simp; omega) ?_; intro v2 d2 w11 hr11 hg11 hv11; have HR11 := hid hr11; have HG11 := hid hg11; have HV11 := hid hv11; clear hr11 hg11 hv11))
                              go_wp2
                              have lt7 : tm = (T6.take d ++ T6.drop (d + 1)).length := HR1.out.n1
                              have lz7 : tm = (Z6.take d ++ Z6.drop (d + 1)).length := HR11.out.n1
                              have Lt7 := hid lt7
                              have Lz7 := hid lz7
                              have HM11 := hid (HM9.out.cut HB10.out (by rw [← lt7]; exact HR1.out) HV1.out ((Below.refl _ w10).drew.trans (below_of_grown HG11.out)) (by rw [← lz7]; exact HR11.out) HV11.out)
                              clear lt7 lz7
                              go_roundg gi
                              case measure => have := Hi.out; omega
                              case rel => exact ⟨i + 1, by have := Hi.out; omega, by go_num, _, _, _, tm, v1, d1, v2, d2, ha, hn, hc, rfl, rfl, Lt7.out, Lz7.out, PV7.out, HM11.out⟩
                    · have h3b : (u.tmod 3 == 0) = false := by simpa using h3
                      clear hur
                      go_wp2
                      go_roundg gi
                      case measure => have := Hi.out; omega
                      case rel => exact ⟨i + 1, by have := Hi.out; omega, by go_num, T6, Z6, L6, kp, r1, q1, r2, q2, fa, fn, fc, rfl, rfl, HtnN.out, Hzn6.out, PV6.out, HM6.out⟩
                  · have hgi1 : ¬ (i : Int) < (gn : Int) := by omega
                    go_wp2
                    go_roundg gi
                    case measure => have := Hi.out; omega
                    case rel => exact ⟨i + 1, by have := Hi.out; omega, by go_num, T6, Z6, L6, kp, r1, q1, r2, q2, fa, fn, fc, rfl, rfl, HtnN.out, Hzn6.out, PV6.out, HM6.out⟩
                  
            · as_aux_lemma =>
                have hk24 : k = 24 := by have := PVH.out.le; have := Htn.out; omega
                have hnt : (placeR (cA x) L).2 = false := by
                  cases hq : (placeR (cA x) L).2
                  · rfl
                  · exact absurd ((PVH.out.there x).1 hq) Hnx.out
                have K12 : Hid (∀ W : World, Below wi.heap.size wi W → Calls Try.prog 12 #[.agg #[.slice sa sn sc], .int .i64 1, .agg #[.int .i64 1, .int .i64 x, .string ⟨#[]⟩, .int .i64 0, .slice none 0 0], .agg #[.int .i64 1, .int .i64 (i : Int), .string ⟨#[]⟩, .int .i64 0, .slice none 0 0]] W fun e w' => e = .returned (.tuple #[.agg #[.slice none 0 0], .int .i64 41]) ∧ Below W.heap.size W w') := hid (fun W hb => full_o W sa sn sc L x (i : Int) Hix.out Hii.out (HMI.out.st.cr.below (Nat.le_refl _) hb) hnt (by rw [PVH.out.ln, ← Htn.out, hk24]; exact Nat.le_refl _))
                have hkb : ((k : Int) == 24) = true := by simp [hk24]
                have hk24' : (k : Int) = 24 := by omega
                have Hk24 := hid hk24
                have Hk24' := hid hk24'
                clear hnt hk24 hk24'
                go_upto_region 17 with fail
                go_cut [11, 12] (fun v11 v12 wd => v12 = .int .i64 41 ∧ Below wi.heap.size wi wd)
                case first =>
                  go_region_held3 (fun W' => W'.cell? ⟨w0.heap.size + 1, 0, none⟩ = some (.slice sa sn sc) ∧ W'.cell? ⟨b, off + i, none⟩ = some (.int .i16 x)) (first | with_reducible exact ⟨HCB.out _ (CF03.out.alloc CF03.out.size _), HDK.out _ (CF03.out.alloc CF03.out.size _)⟩ | with_reducible exact ⟨HCB.out _ CF03.out, HDK.out _ CF03.out⟩ | with_reducible exact ⟨HCB.out _ (CF03.out.setCell (by first | exact Nat.le_refl _ | exact CF01.out.size | exact CF02.out.size) _), HDK.out _ (CF03.out.setCell (by first | exact Nat.le_refl _ | exact CF01.out.size | exact CF02.out.size) _)⟩ | with_reducible exact ⟨HCB.out _ CF02.out, HDK.out _ CF02.out⟩ | with_reducible exact ⟨HCB.out _ (CF02.out.alloc CF02.out.size _), HDK.out _ (CF02.out.alloc CF02.out.size _)⟩ | with_reducible exact ⟨HCB.out _ CF01.out, HDK.out _ CF01.out⟩ | with_reducible exact ⟨HCB.out _ (CF01.out.alloc CF01.out.size _), HDK.out _ (CF01.out.alloc CF01.out.size _)⟩ | with_reducible exact ⟨HCB.out _ F0.out, HDK.out _ F0.out⟩ | with_reducible exact ⟨HCB.out _ (F0.out.alloc F0.out.size _), HDK.out _ (F0.out.alloc F0.out.size _)⟩ | go_keep) ((first
                  | (go_at_call 12; (have hno := CF02; refine (K12.out _ (by first | exact CF02.out | exact CF02.out.alloc CF02.out.size _)).mono ?_; rintro e wF03 ⟨rfl, hbF03⟩; (first | (have CF03 := hid (TR.out CF02.out hbF03); try have zzF03 := (hbF03.block _ (Array.getElem?_eq_some_iff.1 zzF02).1).trans zzF02) | (have CF03 := hid (TR.out (CF02.out.alloc CF02.out.size _) hbF03); have zzF03 : wF03.heap[wF02.heap.size]? = some (.cells #[.slice none 0 0] 27 (0, 0)) := (hbF03.block _ (by simp)).trans (heap_alloc_new _ (.cells #[.slice none 0 0] 27)))); (try (have y0 := cellOf zzF03 0; have v0 := freeOf zzF03 0; simp only [List.getElem?_toArray, List.getElem?_cons_zero, List.getElem?_cons_succ] at y0)); have HXwF03 := CF03; clear hbF03))
                  | (go_at_call 36; (have hno := CF01; refine (K36.out _ _).mono ?_; rintro e wF02 ⟨rfl, hbF02⟩; (first | (have CF02 := hid (TR.out CF01.out hbF02); try have zzF02 := (hbF02.block _ (Array.getElem?_eq_some_iff.1 zzF01).1).trans zzF01) | (have CF02 := hid (TR.out (CF01.out.alloc CF01.out.size _) hbF02); have zzF02 : wF02.heap[wF01.heap.size]? = some (.cells #[.slice none 0 0] 27 (0, 0)) := (hbF02.block _ (by simp)).trans (heap_alloc_new _ (.cells #[.slice none 0 0] 27)))); have HXwF02 := CF02; clear hbF02))
                  | (go_at_call 36; (refine (K36.out _ _).mono ?_; rintro e wF01 ⟨rfl, hbF01⟩; (first | (have CF01 := hid (TR.out F0.out hbF01); try have zzF01 := (hbF01.block _ (Array.getElem?_eq_some_iff.1 zzF00).1).trans zzF00) | (have CF01 := hid (TR.out (F0.out.alloc F0.out.size _) hbF01); have zzF01 : wF01.heap[wi.heap.size]? = some (.cells #[.slice none 0 0] 27 (0, 0)) := (hbF01.block _ (by simp)).trans (heap_alloc_new _ (.cells #[.slice none 0 0] 27)))); have HXwF01 := CF01; clear hbF01))))
                  all_goals
                    go_wp2_with fail
                    go_meet
                    first
                      | with_reducible exact ⟨rfl, CF03.out.setCell (by first | exact Nat.le_refl _ | exact CF01.out.size | exact CF02.out.size) _⟩
                      | exact ⟨rfl, CF03.out.alloc CF03.out.size _⟩
                case rest =>
                  obtain ⟨rfl, hbd⟩ := hcut
                  have HBD := hid hbd
                  clear hbd F0 HCB HDK cb ci K12
                  go_wp2
                  go_roundg gi
                  case measure => have := Hi.out; omega
                  case rel => exact ⟨i + 1, by have := Hi.out; omega, by go_num, T, Z, L, k, a1, c1, a2, c2, sa, sn, sc, rfl, rfl, Htn.out, Hzn.out, PVH.out, HMI.out.below HBD.out⟩
end Go.Proofs.Ytenfgahedbeekaa
