/- Name; known. -/
import Derived.Test.YtnmbifoinponeaaGreatDoorX
import Derived.Test.YtnmbifoinponeaaGreatDoorP
namespace Go.Proofs.YtnmbifoinponeaaGreatDoor
open Go.RowKit Go.Deep Go.Shelf
set_option linter.unusedVariables false
set_option linter.unusedSimpArgs false

def noneS : ByteArray := ⟨#[110, 111, 110, 101]⟩
def nameT (p : Pg) (t : TyP) : ByteArray :=
  if typB p.rn t = false then noneS
  else if t.1 = 1 then ⟨#[105, 110, 116]⟩
  else if t.1 = 2 then ⟨#[116, 101, 120, 116]⟩
  else if t.1 = 3 then ⟨#[98, 111, 111, 108]⟩
  else ((p.recs[t.2.toNat]?).map fun x => x.2.name).getD ⟨#[]⟩

set_option maxHeartbeats 1000000 in
theorem name_any (w : World) (h : PH) (p : Pg) (d : PRd w h p) (k r : Int) :
    Calls Tryz.prog 19 #[h.v, ty k r] w fun e w' => e = .returned (.string (nameT p (k, r))) ∧ Below w.heap.size w w' := by
  have K := hid (fun w' => isType_any w' h k r d.r.n2)
  have e0 : h.rn = p.rn := d.r.n1
  have hrn := d.r.n2
  have Dr := hid d.r
  rw [e0] at K
  clear d
  obtain ⟨ra, rn, rc, ma, mn, mc, fa, fn, fc, ea, en, ec⟩ := h
  simp only at e0 hrn
  have E0 := hid e0
  clear e0
  simp only [PH.v, ty] at K ⊢
  obtain ⟨W0, hW0⟩ : ∃ W0, W0 = (w.alloc (.cells #[.slice ra rn rc, .slice ma mn mc, .slice fa fn fc, .slice ea en ec] 26)).alloc (.cells #[.int .i64 k, .int .i64 r] 28) := ⟨_, rfl⟩
  have hb0 : Below w.heap.size w W0 := by rw [hW0]; exact two_boxes _ _ _ _ _
  have b1 : W0.heap[w.heap.size]? = some (.cells #[.slice ra rn rc, .slice ma mn mc, .slice fa fn fc, .slice ea en ec] 26 (0, 0)) := by rw [hW0]; exact boxA _ _ _ _ _
  have b2 : W0.heap[w.heap.size + 1]? = some (.cells #[.int .i64 k, .int .i64 r] 28 (0, 0)) := by rw [hW0]; exact boxB _ _ _ _ _
  have FX : Hid (∀ w2 : World, Below W0.heap.size W0 w2 → w2.cell? ⟨w.heap.size, 0, none⟩ = some (.slice ra rn rc) ∧ w2.cell? ⟨w.heap.size + 1, 0, none⟩ = some (.int .i64 k) ∧ w2.cell? ⟨w.heap.size + 1, 1, none⟩ = some (.int .i64 r) ∧ Below w.heap.size w w2) := hid (fun w2 hb => by
    have bx := (hb.block _ (Array.getElem?_eq_some_iff.1 b1).1).trans b1
    have by' := (hb.block _ (Array.getElem?_eq_some_iff.1 b2).1).trans b2
    exact ⟨cellOf bx 0, cellOf by' 0, cellOf by' 1, hb0.trans (hb.mono hb0.size)⟩)
  clear b1 b2 hb0
  obtain ⟨res, hres⟩ : ∃ res, res = nameT p (k, r) := ⟨_, rfl⟩
  rw [← hres]
  have Hres := hid hres
  clear hres
  cases q : typB p.rn (k, r) with
  | false =>
    simp only [q] at K
    have HV : Hid (res = noneS) := hid (by rw [Hres.out]; unfold nameT; rw [if_pos q])
    go_enter Tryz.func19, Tryz.ntmps19
    go_wp2_with (go_at_call 39; (rw [← hW0]; refine (Hid.out K _).mono ?_; rintro e w1 ⟨rfl, hb1⟩; obtain ⟨p0, p1, p2, pb⟩ := FX.out w1 hb1))
    go_ret
    exact ⟨by rw [HV.out]; rfl, pb⟩
  | true =>
    simp only [q] at K
    have hq : ¬ typB p.rn (k, r) = false := by rw [q]; simp
    by_cases k1 : k = 1
    · subst k1
      have HV : Hid (res = ⟨#[105, 110, 116]⟩) := hid (by rw [Hres.out]; unfold nameT; rw [if_neg hq]; simp)
      clear hq
      go_enter Tryz.func19, Tryz.ntmps19
      go_wp2_with (go_at_call 39; (rw [← hW0]; refine (Hid.out K _).mono ?_; rintro e w1 ⟨rfl, hb1⟩; obtain ⟨p0, p1, p2, pb⟩ := FX.out w1 hb1))
      go_ret
      exact ⟨by rw [HV.out]; rfl, pb⟩
    · have k1' : (k == 1) = false := by simpa using k1
      by_cases k2 : k = 2
      · subst k2
        have HV : Hid (res = ⟨#[116, 101, 120, 116]⟩) := hid (by rw [Hres.out]; unfold nameT; rw [if_neg hq]; simp)
        clear hq
        go_enter Tryz.func19, Tryz.ntmps19
        go_wp2_with (go_at_call 39; (rw [← hW0]; refine (Hid.out K _).mono ?_; rintro e w1 ⟨rfl, hb1⟩; obtain ⟨p0, p1, p2, pb⟩ := FX.out w1 hb1))
        go_ret
        exact ⟨by rw [HV.out]; rfl, pb⟩
      · have k2' : (k == 2) = false := by simpa using k2
        by_cases k3 : k = 3
        · subst k3
          have HV : Hid (res = ⟨#[98, 111, 111, 108]⟩) := hid (by rw [Hres.out]; unfold nameT; rw [if_neg hq]; simp)
          clear hq
          go_enter Tryz.func19, Tryz.ntmps19
          go_wp2_with (go_at_call 39; (rw [← hW0]; refine (Hid.out K _).mono ?_; rintro e w1 ⟨rfl, hb1⟩; obtain ⟨p0, p1, p2, pb⟩ := FX.out w1 hb1))
          go_ret
          exact ⟨by rw [HV.out]; rfl, pb⟩
        · have k3' : (k == 3) = false := by simpa using k3
          have hr : 0 ≤ r ∧ r < (rn : Int) := by
            unfold typB simB at q
            rw [E0.out]
            by_cases h4 : k = 4
            · simp only [h4, if_true, Bool.and_eq_true, decide_eq_true_eq] at q
              exact q
            · simp [h4, k1, k2, k3] at q
          obtain ⟨ri, rfl⟩ : ∃ ri : Nat, r = (ri : Int) := ⟨r.toNat, by omega⟩
          have hri : ri < rn := by omega
          obtain ⟨x, hx⟩ : ∃ x, p.recs[ri]? = some x := ⟨p.recs[ri]'(by have := E0.out; unfold Pg.rn at this; omega), by rw [List.getElem?_eq_getElem]⟩
          have HV : Hid (res = x.1.name) := hid (by
            rw [Hres.out]; unfold nameT; rw [if_neg hq]
            simp only [k1, k2, k3, if_false, Int.toNat_natCast, hx, Option.map_some, Option.getD_some]
            exact (Dr.out.el x (List.mem_of_getElem? hx)).nm.symm)
          obtain ⟨b1, o1, ea', hb1, e1⟩ := Dr.out.rd ri x.1.cs (by simp [hx])
          subst ea'
          have hc := e1 0 (by omega)
          simp only [RH.cs, List.getElem?_cons_zero, Nat.add_zero] at hc
          have Hc := hid hc
          have hi0 : (0 : Int) ≤ (ri : Int) := by omega
          have hi1 : (ri : Int) < (rn : Int) := by omega
          have Hb1 := hid hb1
          clear hq hr e1 hx hc hb1
          go_enter Tryz.func19, Tryz.ntmps19
          go_wp2_with (go_at_call 39; (rw [← hW0]; refine (Hid.out K _).mono ?_; rintro e w1 ⟨rfl, hb1⟩; obtain ⟨p0, p1, p2, pb⟩ := FX.out w1 hb1; have hc1 := (pb.cell (p := ⟨b1, o1 + ri * 3, none⟩) Hb1.out).trans Hc.out))
          go_ret
          exact ⟨by rw [HV.out]; rfl, pb⟩

/- The known value, the known program. -/
def kl1 : VT 1 := (⟨1, 2, ⟨#[]⟩, 0, none, 0, 0⟩, [])
def kl2 : VT 1 := (⟨2, 0, ⟨#[97]⟩, 0, none, 0, 0⟩, [])
def kv (g : Nat) : VT 2 := (⟨4, 0, ⟨#[]⟩, 1, some ⟨g, 0, none⟩, 2, 2⟩, [kl1, kl2])
theorem kv_print (g : Nat) : prT 2 (kv g) = [35, 49, 123, 50, 44, 32, 34, 97, 34, 125] := by
  have h1 : Lib.itoa 1 = [49] := by
    unfold Lib.itoa; rw [if_neg (by omega)]; simp only [Int.toNat_one]; rw [Lib.decDigits, dif_pos (by omega)]; rfl
  have h2 : Lib.itoa 2 = [50] := by
    unfold Lib.itoa; rw [if_neg (by omega)]; rw [show (2 : Int).toNat = 2 from rfl, Lib.decDigits, dif_pos (by omega)]; rfl
  have h3 : quoL ⟨#[97]⟩ = [97] := by rw [quoL_eq]; rfl
  have e : prT 2 (kv g) = ([35] ++ Lib.itoa 1 ++ [123]) ++ joinC [Lib.itoa 2, [34] ++ quoL ⟨#[97]⟩ ++ [34]] ++ [125] := rfl
  rw [e, h1, h2, h3]; rfl
theorem six (w : World) (o1 o2 o3 o4 o5 o6 : Obj) : let W := (((((w.alloc o1).alloc o2).alloc o3).alloc o4).alloc o5).alloc o6
    W.heap[w.heap.size]? = some o1 ∧ W.heap[w.heap.size + 1]? = some o2 ∧ W.heap[w.heap.size + 1 + 1]? = some o3 ∧ W.heap[w.heap.size + 1 + 1 + 1]? = some o4 ∧ W.heap[w.heap.size + 1 + 1 + 1 + 1]? = some o5 ∧ W.heap[w.heap.size + 1 + 1 + 1 + 1 + 1]? = some o6 ∧ Below w.heap.size w W := by
  intro W
  have pl : ∀ {w : World} {o x : Obj} {k : Nat}, w.heap[k]? = some x → (w.alloc o).heap[k]? = some x := fun h => (Below.heap_alloc _ _ _ (Array.getElem?_eq_some_iff.1 h).1).trans h
  have n1 := World.alloc_heap_new w o1
  have n2 := World.alloc_heap_new (w.alloc o1) o2
  have n3 := World.alloc_heap_new ((w.alloc o1).alloc o2) o3
  have n4 := World.alloc_heap_new (((w.alloc o1).alloc o2).alloc o3) o4
  have n5 := World.alloc_heap_new ((((w.alloc o1).alloc o2).alloc o3).alloc o4) o5
  have n6 := World.alloc_heap_new (((((w.alloc o1).alloc o2).alloc o3).alloc o4).alloc o5) o6
  simp only [World.size_alloc] at n2 n3 n4 n5 n6
  exact ⟨pl (pl (pl (pl (pl n1)))), pl (pl (pl (pl n2))), pl (pl (pl n3)), pl (pl n4), pl n5, n6, (((((((Below.refl _ w).alloc (Nat.le_refl _) _).alloc (by simp) _).alloc (by simp; omega) _).alloc (by simp; omega) _).alloc (by simp; omega) _).alloc (by simp; omega) _)⟩
def kp (nm x : ByteArray) (g1 g2 : Nat) : Pg := ⟨[(⟨nm, some ⟨g1, 0, none⟩, 1, 1, some ⟨g2, 0, none⟩, 1, 1⟩, ⟨nm, [x], [(1, 0)]⟩)], [], [], []⟩
theorem kp_right (g1 g2 : Nat) : rightB (kp ⟨#[80]⟩ ⟨#[120]⟩ g1 g2) = true := by rfl
theorem kp_name (g1 g2 : Nat) : nameT (kp ⟨#[80]⟩ ⟨#[120]⟩ g1 g2) (4, 0) = ⟨#[80]⟩ := by rfl

theorem kin (k i r : Int) (t : ByteArray) (a : Option Addr) (n c : Nat) (h1 : k ≤ 10) (h2 : 0 ≤ k) (h3 : i ≤ 10) (h4 : 0 ≤ i) (h5 : r ≤ 10) (h6 : 0 ≤ r) (h7 : t.size ≤ 10) (h8 : n ≤ 10) : (⟨k, i, t, r, a, n, c⟩ : Hd).In := ⟨by simp only; omega, by simp only; omega, by simp only; omega, by simp only; omega, by simp only; omega, by simp only; omega, by simp only; omega, by simp only; omega⟩
theorem kv_rds (W : World) (g : Nat) (h : W.heap[g]? = some (.cells #[.int .i64 1, .int .i64 2, .string ⟨#[]⟩, .int .i64 0, .slice none 0 0, .int .i64 2, .int .i64 0, .string ⟨#[97]⟩, .int .i64 0, .slice none 0 0] 31 (0, 0))) : Rds 2 W (kv g) := by
  refine ⟨kin _ _ _ _ _ _ _ (by decide) (by decide) (by decide) (by decide) (by decide) (by decide) (by decide) (by decide), rfl, by show 2 ≤ 1000; omega, ?_, ?_⟩
  · intro j x e
    refine ⟨g, 0, rfl, fun i hi => ?_⟩
    rw [cellOf h]
    match j, e with
    | 0, e =>
      cases e
      match i, hi with
      | 0, _ => rfl
      | 1, _ => rfl
      | 2, _ => rfl
      | 3, _ => rfl
      | 4, _ => rfl
    | 1, e =>
      cases e
      match i, hi with
      | 0, _ => rfl
      | 1, _ => rfl
      | 2, _ => rfl
      | 3, _ => rfl
      | 4, _ => rfl
    | n + 2, e => cases e
  · intro u hu
    have hu' : u ∈ [kl1, kl2] := hu
    rw [List.mem_cons, List.mem_singleton] at hu'
    rcases hu' with rfl | rfl
    · exact ⟨kin _ _ _ _ _ _ _ (by decide) (by decide) (by decide) (by decide) (by decide) (by decide) (by decide) (by decide), rfl, by decide, fun j x e => (by cases e), fun u hu => (by cases hu)⟩
    · exact ⟨kin _ _ _ _ _ _ _ (by decide) (by decide) (by decide) (by decide) (by decide) (by decide) (by decide) (by decide), rfl, by decide, fun j x e => (by cases e), fun u hu => (by cases hu)⟩
theorem kv_tx (g : Nat) : Tx 2 (kv g) := by
  refine ⟨Nat.le_of_ble_eq_true rfl, fun u hu => ?_⟩
  have hu' : u ∈ [kl1, kl2] := hu
  rw [List.mem_cons, List.mem_singleton] at hu'
  rcases hu' with rfl | rfl
  · exact ⟨by decide, fun u hu => by cases hu⟩
  · exact ⟨by decide, fun u hu => by cases hu⟩
theorem kp_rd (W : World) (g1 g2 g3 : Nat) (h1 : W.heap[g1]? = some (.cells #[.string ⟨#[120]⟩] 9 (0, 0))) (h2 : W.heap[g2]? = some (.cells #[.int .i64 1, .int .i64 0] 28 (0, 0))) (h3 : W.heap[g3]? = some (.cells #[.string ⟨#[80]⟩, .slice (some ⟨g1, 0, none⟩) 1 1, .slice (some ⟨g2, 0, none⟩) 1 1] 45 (0, 0))) :
    PRd W ⟨some ⟨g3, 0, none⟩, 1, 1, none, 0, 0, none, 0, 0, none, 0, 0⟩ (kp ⟨#[80]⟩ ⟨#[120]⟩ g1 g2) := by
  refine ⟨⟨rfl, Nat.le_of_ble_eq_true rfl, ?_, ?_⟩, ⟨rfl, Nat.le_of_ble_eq_true rfl, fun j r e => by simp [kp] at e, fun m hm => by simp [kp] at hm⟩, ⟨rfl, Nat.le_of_ble_eq_true rfl, fun j r e => by simp [kp] at e, fun m hm => by simp [kp] at hm⟩, ⟨rfl, Nat.le_of_ble_eq_true rfl, fun j r e => by simp [kp] at e, fun m hm => by simp [kp] at hm⟩⟩
  · intro j r e
    refine ⟨g3, 0, rfl, (Array.getElem?_eq_some_iff.1 h3).1, fun i hi => ?_⟩
    rw [cellOf h3]
    match j, e with
    | 0, e =>
      cases e
      match i, hi with
      | 0, _ => rfl
      | 1, _ => rfl
      | 2, _ => rfl
    | n + 1, e => cases e
  · intro p hp
    simp only [kp, List.mem_singleton] at hp
    subst hp
    refine ⟨rfl, Nat.le_of_ble_eq_true rfl, rfl, Nat.le_of_ble_eq_true rfl, Nat.le_of_ble_eq_true rfl, ?_, rfl, Nat.le_of_ble_eq_true rfl, ?_⟩
    · intro j s e
      match j, e with
      | 0, e => cases e; exact ⟨Nat.le_of_ble_eq_true rfl, g1, 0, rfl, cellOf h1 0⟩
      | n + 1, e => cases e
    · intro j s e
      match j, e with
      | 0, e => cases e; exact ⟨g2, 0, rfl, cellOf h2 0, cellOf h2 1⟩
      | n + 1, e => cases e

set_option maxRecDepth 100000 in
set_option maxHeartbeats 1000000 in
theorem known_any (w : World) (E : Env w) : Calls Tryz.prog 4 #[] w fun e w' => e = .returned (.bool true) ∧ Below w.heap.size w w' := by
  obtain ⟨W, hW⟩ : ∃ W, W = (((((w.alloc (.cells #[.int .i64 1, .int .i64 2, .string ⟨#[]⟩, .int .i64 0, .slice none 0 0, .int .i64 2, .int .i64 0, .string ⟨#[97]⟩, .int .i64 0, .slice none 0 0] 31)).alloc (.cells #[.int .i64 4, .int .i64 0, .string ⟨#[]⟩, .int .i64 1, .slice (some ⟨w.heap.size, 0, none⟩) 2 2] 31)).alloc (.cells #[.string ⟨#[120]⟩] 9)).alloc (.cells #[.int .i64 1, .int .i64 0] 28)).alloc (.cells #[.string ⟨#[80]⟩, .slice (some ⟨w.heap.size + 1 + 1, 0, none⟩) 1 1, .slice (some ⟨w.heap.size + 1 + 1 + 1, 0, none⟩) 1 1] 45)).alloc (.cells #[.slice (some ⟨w.heap.size + 1 + 1 + 1 + 1, 0, none⟩) 1 1, .slice none 0 0, .slice none 0 0, .slice none 0 0] 26) := ⟨_, rfl⟩
  obtain ⟨b1, b2, b3, b4, b5, b6, hb0⟩ := six w (.cells #[.int .i64 1, .int .i64 2, .string ⟨#[]⟩, .int .i64 0, .slice none 0 0, .int .i64 2, .int .i64 0, .string ⟨#[97]⟩, .int .i64 0, .slice none 0 0] 31) (.cells #[.int .i64 4, .int .i64 0, .string ⟨#[]⟩, .int .i64 1, .slice (some ⟨w.heap.size, 0, none⟩) 2 2] 31) (.cells #[.string ⟨#[120]⟩] 9) (.cells #[.int .i64 1, .int .i64 0] 28) (.cells #[.string ⟨#[80]⟩, .slice (some ⟨w.heap.size + 1 + 1, 0, none⟩) 1 1, .slice (some ⟨w.heap.size + 1 + 1 + 1, 0, none⟩) 1 1] 45) (.cells #[.slice (some ⟨w.heap.size + 1 + 1 + 1 + 1, 0, none⟩) 1 1, .slice none 0 0, .slice none 0 0, .slice none 0 0] 26)
  rw [← hW] at b1 b2 b3 b4 b5 b6 hb0
  have R := kv_rds W _ b1
  have PR := kp_rd W _ _ _ b3 b4 b5
  have K1 : Hid (Calls Tryz.prog 13 #[.agg #[.int .i64 4, .int .i64 0, .string ⟨#[]⟩, .int .i64 1, .slice (some ⟨w.heap.size, 0, none⟩) 2 2]] W fun e w' => e = .returned (.string ⟨#[35, 49, 123, 50, 44, 32, 34, 97, 34, 125]⟩) ∧ Below W.heap.size W w') := hid (by
    have := print_any 2 W (kv w.heap.size) R (kv_tx _) (E.below hb0) (by decide)
    rw [kv_print] at this
    exact this)
  have K2 : Hid (∀ w1 : World, Below W.heap.size W w1 → Calls Tryz.prog 7 #[.agg #[.slice (some ⟨w.heap.size + 1 + 1 + 1 + 1, 0, none⟩) 1 1, .slice none 0 0, .slice none 0 0, .slice none 0 0]] w1 fun e w' => e = .returned (.bool true) ∧ Below w1.heap.size w1 w') := hid (fun w1 hb => by
    have := right_any w1 _ _ (PR.below (Nat.le_refl _) hb)
    rw [kp_right] at this
    exact this)
  have K3 : Hid (∀ w1 : World, Below W.heap.size W w1 → Calls Tryz.prog 19 #[.agg #[.slice (some ⟨w.heap.size + 1 + 1 + 1 + 1, 0, none⟩) 1 1, .slice none 0 0, .slice none 0 0, .slice none 0 0], .agg #[.int .i64 4, .int .i64 0]] w1 fun e w' => e = .returned (.string ⟨#[80]⟩) ∧ Below w1.heap.size w1 w') := hid (fun w1 hb => by
    have := name_any w1 _ _ (PR.below (Nat.le_refl _) hb) 4 0
    rw [kp_name] at this
    exact this)
  have K4 : Hid (∀ w1 : World, Below W.heap.size W w1 → Calls Tryz.prog 9 #[.agg #[.int .i64 4, .int .i64 0, .string ⟨#[]⟩, .int .i64 1, .slice (some ⟨w.heap.size, 0, none⟩) 2 2], .agg #[.int .i64 4, .int .i64 0, .string ⟨#[]⟩, .int .i64 1, .slice (some ⟨w.heap.size, 0, none⟩) 2 2]] w1 fun e w' => e = .returned (.int .i64 0) ∧ Below w1.heap.size w1 w') := hid (fun w1 hb => by
    have := compare_any 2 w1 (kv w.heap.size) (kv w.heap.size) (Rds.below 2 R (Nat.le_refl _) hb) (Rds.below 2 R (Nat.le_refl _) hb)
    rw [(ord_cmpT 2).self] at this
    exact this)
  have FX : Hid (∀ w2 : World, Below W.heap.size W w2 → w2.heap[w.heap.size + 1]? = some (.cells #[.int .i64 4, .int .i64 0, .string ⟨#[]⟩, .int .i64 1, .slice (some ⟨w.heap.size, 0, none⟩) 2 2] 31 (0, 0)) ∧ w2.heap[w.heap.size + 1 + 1 + 1 + 1 + 1]? = some (.cells #[.slice (some ⟨w.heap.size + 1 + 1 + 1 + 1, 0, none⟩) 1 1, .slice none 0 0, .slice none 0 0, .slice none 0 0] 26 (0, 0))) := hid (fun w2 hb => ⟨(hb.block _ (Array.getElem?_eq_some_iff.1 b2).1).trans b2, (hb.block _ (Array.getElem?_eq_some_iff.1 b6).1).trans b6⟩)
  have TR : Hid (∀ {x y : World}, Below W.heap.size W x → Below x.heap.size x y → Below W.heap.size W y) := hid (fun h1 h2 => h1.trans (h2.mono h1.size))
  have HB := hid hb0
  clear R PR b1 b2 b3 b4 b5 b6 hb0 E
  go_enter Tryz.func4, Tryz.ntmps4
  go_wp2_with (first
    | (go_at_call 13; (rw [← hW]; refine (Hid.out K1).mono ?_; rintro e w1 ⟨rfl, hb1⟩; obtain ⟨f1, f2⟩ := FX.out w1 hb1; have p0 := cellOf f2 0; have p1 := cellOf f2 1; have p2 := cellOf f2 2; have p3 := cellOf f2 3; simp only [List.getElem?_toArray, List.getElem?_cons_zero, List.getElem?_cons_succ] at p0 p1 p2 p3; clear f1 f2))
    | (go_at_call 7; (refine (Hid.out K2 _ hb1).mono ?_; rintro e w2 ⟨rfl, hb2'⟩; have hb2 := TR.out hb1 hb2'; obtain ⟨f1, f2⟩ := FX.out w2 hb2; have q0 := cellOf f2 0; have q1 := cellOf f2 1; have q2 := cellOf f2 2; have q3 := cellOf f2 3; simp only [List.getElem?_toArray, List.getElem?_cons_zero, List.getElem?_cons_succ] at q0 q1 q2 q3; clear f1 f2))
    | (go_at_call 19; (refine (Hid.out K3 _ hb2).mono ?_; rintro e w3 ⟨rfl, hb3'⟩; have hb3 := TR.out hb2 hb3'; obtain ⟨f1, f2⟩ := FX.out w3 hb3; have s0 := cellOf f1 0; have s1 := cellOf f1 1; have s2 := cellOf f1 2; have s3 := cellOf f1 3; have s4 := cellOf f1 4; simp only [List.getElem?_toArray, List.getElem?_cons_zero, List.getElem?_cons_succ] at s0 s1 s2 s3 s4; clear f1 f2))
    | (go_at_call 9; (refine (Hid.out K4 _ hb3).mono ?_; rintro e w4 ⟨rfl, hb4'⟩; have hb4 := TR.out hb3 hb4')))
  go_ret
  exact ⟨rfl, HB.out.trans (hb4.mono HB.out.size)⟩
end Go.Proofs.YtnmbifoinponeaaGreatDoor
