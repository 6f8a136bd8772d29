/- code.told, code.Line. -/
import Derived.Test.YthnolocldeokeaaGreatDoorJAD
import Derived.Shelf.Vars
import Derived.Lib.LaidTab
import Derived.Lib.AppendIntMem
import Derived.Lib.ItoaLen
import Derived.Laws.Concat
import Derived.BigQuiet
import Derived.Deep.RegionHeld3
import Derived.Deep.LoopGhost
import Derived.Below
import Derived.Deep.AppendLies
import Derived.Deep.OwnRows
import Derived.Laws.Bits64b
import Derived.Laws.BitsLemmas
import Derived.Lib.AppendStr
import Derived.Maps.AppendAt
import Derived.WalkKit
import Derived.WalkLawsBesides
import Derived.WalkSpells
import Derived.WalkMore
namespace Go.Proofs.YthnolocldeokeaaGreatDoor
open Go.RowKit Go.Deep Go.Shelf
set_option linter.unusedVariables false
set_option linter.unusedSimpArgs false
set_option maxRecDepth 100000
abbrev EnvT (w : World) : Prop := Lib.TabIs Tryz.prog w "internal/strconv.uint64pow10" .u64 Lib.pow10Tab
theorem EnvT.below {w w' : World} (h : EnvT w) (k : Below w.heap.size w w') : EnvT w' := Lib.tabBelow_of_tabIs h w' k
def itoB (n : Int) : ByteArray := ⟨(Lib.itoa n).toArray⟩
theorem it_any (n : Int) (h0 : -9223372036854775808 ≤ n) (h1 : n ≤ 9223372036854775807) (w : World) (E : EnvT w) :
    Calls Tryz.prog 14 #[.int .i64 n] w fun e w' => e = .returned (.string (itoB n)) ∧ Below w.heap.size w w' := by
  refine (Tryz.strconv_Itoa n h0 h1 w E).mono ?_
  rintro e w' ⟨rfl, k, os, rfl⟩
  exact ⟨rfl, Lib.below_grow _ w (Nat.le_refl _) k os⟩
theorem itoB_size (n : Int) (h0 : -9223372036854775808 ≤ n) (h1 : n ≤ 9223372036854775807) : (itoB n).size ≤ 21 := by
  have := Lib.itoa_length_le n h0 h1
  show (Lib.itoa n).toArray.size ≤ 21
  simpa using this
def tld (nm : ByteArray) (r n : Int) : ByteArray := if r = 0 ∧ n = 0 then ⟨#[]⟩ else nm ++ itoB n
theorem tld_size (nm : ByteArray) (r n : Int) (h0 : -9223372036854775808 ≤ n) (h1 : n ≤ 9223372036854775807) : (tld nm r n).size ≤ nm.size + 21 := by
  unfold tld
  split
  · show 0 ≤ _; omega
  · rw [ByteArray.size_append]; have := itoB_size n h0 h1; omega
theorem nm_size (k : Int) : (shpAt k).nm.size ≤ 20 := by
  have h : shpL.all (fun s => decide (s.nm.size ≤ 20)) = true := by kernel_rfl
  unfold shpAt
  rw [List.getD_eq_getElem?_getD]
  rcases hk : shpL[k.toNat]? with _ | s
  · show shp0.nm.size ≤ 20; exact of_decide_eq_true (by kernel_rfl)
  · exact of_decide_eq_true (List.all_eq_true.1 h s (List.mem_of_getElem? hk))
theorem told_any (nm : ByteArray) (hnm : (nm.size : Int) ≤ 1000) (r n : Int) (h0 : -9223372036854775808 ≤ n) (h1 : n ≤ 9223372036854775807) (w : World) (E : EnvT w) :
    Calls Tryz.prog 15 #[.string nm, .int .u8 r, .int .i64 n] w fun e w' => e = .returned (.string (tld nm r n)) ∧ Below w.heap.size w w' := by
  have K := hid (it_any n h0 h1 w E)
  have hz : ((itoB n).size : Int) ≤ 21 := by have := itoB_size n h0 h1; omega
  clear E
  obtain ⟨T, hT⟩ : ∃ T, T = tld nm r n := ⟨_, rfl⟩
  rw [← hT]
  have HT := hid hT
  clear hT
  go_enter Tryz.func15, Tryz.ntmps15
  by_cases hr : r = 0
  · by_cases hn : n = 0
    · have HE : Hid (T = ⟨#[]⟩) := hid (by rw [HT.out]; unfold tld; rw [if_pos ⟨hr, hn⟩])
      subst hr hn
      go_wp2
      go_ret
      exact ⟨by rw [HE.out]; first | done | rfl, Below.refl _ _⟩
    · have HE : Hid (T = nm ++ itoB n) := hid (by rw [HT.out]; unfold tld; rw [if_neg (fun h => hn h.2)])
      have nb : (n == 0) = false := by simp [hn]
      subst hr
      go_wp2_with (go_at_call 14; (refine (Hid.out K).mono ?_; rintro e w1 ⟨rfl, hb⟩; have HB := hid hb; clear hb))
      go_ret
      exact ⟨by rw [HE.out]; first | done | rfl, HB.out⟩
  · have HE : Hid (T = nm ++ itoB n) := hid (by rw [HT.out]; unfold tld; rw [if_neg (fun h => hr h.1)])
    have nb : (r == 0) = false := by simp [hr]
    go_wp2_with (go_at_call 14; (refine (Hid.out K).mono ?_; rintro e w1 ⟨rfl, hb⟩; have HB := hid hb; clear hb))
    go_ret
    exact ⟨by rw [HE.out]; first | done | rfl, HB.out⟩
def lnB (o : Opx) : ByteArray := (shpAt o.c).nm ++ tld ⟨#[32, 68, 61]⟩ (shpAt o.c).d o.d ++ tld ⟨#[32, 65, 61]⟩ (shpAt o.c).a o.a ++ tld ⟨#[32, 66, 61]⟩ (shpAt o.c).b o.b ++ tld ⟨#[32, 75, 61]⟩ (shpAt o.c).k o.k
def inOp (o : Opx) : Prop := (-9223372036854775808 ≤ o.d ∧ o.d ≤ 9223372036854775807) ∧ (-9223372036854775808 ≤ o.a ∧ o.a ≤ 9223372036854775807) ∧ (-9223372036854775808 ≤ o.b ∧ o.b ≤ 9223372036854775807) ∧ (-9223372036854775808 ≤ o.k ∧ o.k ≤ 9223372036854775807)
set_option maxHeartbeats 4000000 in
theorem line_any (SO : ShapeC) (o : Opx) (hi : inOp o) (hc : isC o.c = true) (w : World) (E : EnvT w) :
    Calls Tryz.prog 6 #[.agg o.cs] w fun e w' => e = .returned (.string (lnB o)) ∧ Below w.heap.size w w' := by
  obtain ⟨W0, hW0⟩ : ∃ W0, W0 = w.alloc (.cells o.cs 23) := ⟨_, rfl⟩
  have bW : Below w.heap.size w W0 := by rw [hW0]; exact (Below.refl _ _).alloc (Nat.le_refl _) _
  have m0 : W0.heap[w.heap.size]? = some (.cells o.cs 23 (0, 0)) := by rw [hW0]; exact heap_alloc_new w _
  have KS := SO W0 o.c
  rw [hc, if_pos rfl] at KS
  obtain ⟨s, hs⟩ : ∃ s, s = shpAt o.c := ⟨_, rfl⟩
  rw [← hs] at KS
  obtain ⟨i1, i2, i3, i4⟩ := hi
  have T1 := hid (fun (V : World) (hV : Below w.heap.size w V) => told_any ⟨#[32, 68, 61]⟩ (of_decide_eq_true (by kernel_rfl)) s.d o.d i1.1 i1.2 V (E.below hV))
  have T2 := hid (fun (V : World) (hV : Below w.heap.size w V) => told_any ⟨#[32, 65, 61]⟩ (of_decide_eq_true (by kernel_rfl)) s.a o.a i2.1 i2.2 V (E.below hV))
  have T3 := hid (fun (V : World) (hV : Below w.heap.size w V) => told_any ⟨#[32, 66, 61]⟩ (of_decide_eq_true (by kernel_rfl)) s.b o.b i3.1 i3.2 V (E.below hV))
  have T4 := hid (fun (V : World) (hV : Below w.heap.size w V) => told_any ⟨#[32, 75, 61]⟩ (of_decide_eq_true (by kernel_rfl)) s.k o.k i4.1 i4.2 V (E.below hV))
  obtain ⟨L, hL⟩ : ∃ L, L = lnB o := ⟨_, rfl⟩
  have HL : Hid (L = s.nm ++ tld ⟨#[32, 68, 61]⟩ s.d o.d ++ tld ⟨#[32, 65, 61]⟩ s.a o.a ++ tld ⟨#[32, 66, 61]⟩ s.b o.b ++ tld ⟨#[32, 75, 61]⟩ s.k o.k) := hid (by rw [hL, hs]; rfl)
  rw [← hL]
  have KS := hid KS
  have BW := hid bW
  have zn : (s.nm.size : Int) ≤ 20 := by have := nm_size o.c; rw [← hs] at this; omega
  have z1 : ((tld ⟨#[32, 68, 61]⟩ s.d o.d).size : Int) ≤ 24 := by have := tld_size ⟨#[32, 68, 61]⟩ s.d o.d i1.1 i1.2; have e : (⟨#[32, 68, 61]⟩ : ByteArray).size = 3 := rfl; omega
  have z2 : ((tld ⟨#[32, 65, 61]⟩ s.a o.a).size : Int) ≤ 24 := by have := tld_size ⟨#[32, 65, 61]⟩ s.a o.a i2.1 i2.2; have e : (⟨#[32, 65, 61]⟩ : ByteArray).size = 3 := rfl; omega
  have z3 : ((tld ⟨#[32, 66, 61]⟩ s.b o.b).size : Int) ≤ 24 := by have := tld_size ⟨#[32, 66, 61]⟩ s.b o.b i3.1 i3.2; have e : (⟨#[32, 66, 61]⟩ : ByteArray).size = 3 := rfl; omega
  have z4 : ((tld ⟨#[32, 75, 61]⟩ s.k o.k).size : Int) ≤ 24 := by have := tld_size ⟨#[32, 75, 61]⟩ s.k o.k i4.1 i4.2; have e : (⟨#[32, 75, 61]⟩ : ByteArray).size = 3 := rfl; omega
  clear hL hs hc E SO i1 i2 i3 i4 bW
  obtain ⟨nm, sd, sa, sb, sk⟩ := s
  obtain ⟨oc, od, oa, ob, ok⟩ := o
  obtain ⟨D, hD⟩ : ∃ D, D = tld ⟨#[32, 68, 61]⟩ sd od := ⟨_, rfl⟩
  obtain ⟨A, hA⟩ : ∃ A, A = tld ⟨#[32, 65, 61]⟩ sa oa := ⟨_, rfl⟩
  obtain ⟨B, hB⟩ : ∃ B, B = tld ⟨#[32, 66, 61]⟩ sb ob := ⟨_, rfl⟩
  obtain ⟨K, hK⟩ : ∃ K, K = tld ⟨#[32, 75, 61]⟩ sk ok := ⟨_, rfl⟩
  simp only [Opx.cs, Shp.cs] at hW0 m0 KS T1 T2 T3 T4 HL zn z1 z2 z3 z4 ⊢
  rw [← hD] at T1 HL z1
  rw [← hA] at T2 HL z2
  rw [← hB] at T3 HL z3
  rw [← hK] at T4 HL z4
  clear hD hA hB hK
  have x0 := cellOf m0 0
  simp only [List.getElem?_toArray, List.getElem?_cons_zero, List.getElem?_cons_succ] at x0
  go_enter Tryz.func6, Tryz.ntmps6
  go_upto_region 1 with fail
  rw [← hW0]
  clear hW0
  go_upto_region 2 with (go_at_call 13; (refine (Hid.out KS).mono ?_; rintro e w1 ⟨rfl, hb1⟩; have HB1 := hid hb1; clear hb1))
  obtain ⟨E0, hE0⟩ : ∃ E0, E0 = w1.alloc (.cells #[.string nm, .int .u8 sd, .int .u8 sa, .int .u8 sb, .int .u8 sk] 63) := ⟨_, rfl⟩
  have bE : Below w1.heap.size w1 E0 := by rw [hE0]; exact (Below.refl _ _).alloc (Nat.le_refl _) _
  have mE : E0.heap[w1.heap.size]? = some (.cells #[.string nm, .int .u8 sd, .int .u8 sa, .int .u8 sb, .int .u8 sk] 63 (0, 0)) := by rw [hE0]; exact heap_alloc_new w1 _
  have mO : E0.heap[w.heap.size]? = some (.cells #[.int .i64 oc, .int .i64 od, .int .i64 oa, .int .i64 ob, .int .i64 ok] 23 (0, 0)) := by
    have b := HB1.out.trans (bE.mono HB1.out.size)
    exact (b.block _ (lt_of_heap m0)).trans m0
  have BE := hid (BW.out.trans ((HB1.out.trans (bE.mono HB1.out.size)).mono BW.out.size))
  go_upto_region 4 with fail
  rw [← hE0]
  clear hE0 x0 m0
  have ST : Hid (∀ V : World, Below E0.heap.size E0 V → (V.cell? ⟨w1.heap.size, 0, none⟩ = some (.string nm) ∧ V.cell? ⟨w1.heap.size, 1, none⟩ = some (.int .u8 sd) ∧ V.cell? ⟨w1.heap.size, 2, none⟩ = some (.int .u8 sa) ∧ V.cell? ⟨w1.heap.size, 3, none⟩ = some (.int .u8 sb) ∧ V.cell? ⟨w1.heap.size, 4, none⟩ = some (.int .u8 sk) ∧ V.cell? ⟨w.heap.size, 1, none⟩ = some (.int .i64 od) ∧ V.cell? ⟨w.heap.size, 2, none⟩ = some (.int .i64 oa) ∧ V.cell? ⟨w.heap.size, 3, none⟩ = some (.int .i64 ob) ∧ V.cell? ⟨w.heap.size, 4, none⟩ = some (.int .i64 ok)) ∧ Below w.heap.size w V) := hid (fun V hV => by
    have g := (hV.block _ (lt_of_heap mE)).trans mE
    have g2 := (hV.block _ (lt_of_heap mO)).trans mO
    exact ⟨⟨cellOf g 0, cellOf g 1, cellOf g 2, cellOf g 3, cellOf g 4, cellOf g2 1, cellOf g2 2, cellOf g2 3, cellOf g2 4⟩, BE.out.trans (hV.mono BE.out.size)⟩)
  obtain ⟨⟨x0, x1, x2, x3, x4, y1, y2, y3, y4⟩, _⟩ := ST.out E0 (Below.refl _ _)
  have TR : Hid (∀ {x y : World}, Below E0.heap.size E0 x → Below x.heap.size x y → Below E0.heap.size E0 y) := hid (fun h1 h2 => h1.trans (h2.mono h1.size))
  have hd : Below E0.heap.size E0 E0.drew := (Below.refl _ _).drew
  have K1 := hid (T1.out E0.drew (ST.out _ hd).2)
  have n1 : (nm ++ D).size = nm.size + D.size := ByteArray.size_append
  have n2 : (nm ++ D ++ A).size = (nm ++ D).size + A.size := ByteArray.size_append
  have n3 : (nm ++ D ++ A ++ B).size = (nm ++ D ++ A).size + B.size := ByteArray.size_append
  obtain ⟨u1, a1, e1⟩ : ∃ q : ByteArray, (∀ V : World, (Op.stringOp .add nm D).run Tryz.prog V = .ok (.string q) V) ∧ q = nm ++ D := ⟨_, fun V => run_string_add_sum V _ _ (by omega), rfl⟩
  obtain ⟨u2, a2, e2⟩ : ∃ q : ByteArray, (∀ V : World, (Op.stringOp .add u1 A).run Tryz.prog V = .ok (.string q) V) ∧ q = u1 ++ A := ⟨_, fun V => run_string_add_sum V _ _ (by rw [e1]; omega), rfl⟩
  obtain ⟨u3, a3, e3⟩ : ∃ q : ByteArray, (∀ V : World, (Op.stringOp .add u2 B).run Tryz.prog V = .ok (.string q) V) ∧ q = u2 ++ B := ⟨_, fun V => run_string_add_sum V _ _ (by rw [e2, e1]; omega), rfl⟩
  obtain ⟨u4, a4, e4⟩ : ∃ q : ByteArray, (∀ V : World, (Op.stringOp .add u3 K).run Tryz.prog V = .ok (.string q) V) ∧ q = u3 ++ K := ⟨_, fun V => run_string_add_sum V _ _ (by rw [e3, e2, e1]; omega), rfl⟩
  have HU : Hid (L = u4) := hid (by rw [HL.out, e4, e3, e2, e1])
  clear e1 e2 e3 e4
  clear mE mO bE BE HB1 KS T1 n1 n2 n3 zn z1 z2 z3 z4
  go_region_held3 (fun V => V.cell? ⟨w1.heap.size, 0, none⟩ = some (.string nm) ∧ V.cell? ⟨w1.heap.size, 1, none⟩ = some (.int .u8 sd) ∧ V.cell? ⟨w1.heap.size, 2, none⟩ = some (.int .u8 sa) ∧ V.cell? ⟨w1.heap.size, 3, none⟩ = some (.int .u8 sb) ∧ V.cell? ⟨w1.heap.size, 4, none⟩ = some (.int .u8 sk) ∧ V.cell? ⟨w.heap.size, 1, none⟩ = some (.int .i64 od) ∧ V.cell? ⟨w.heap.size, 2, none⟩ = some (.int .i64 oa) ∧ V.cell? ⟨w.heap.size, 3, none⟩ = some (.int .i64 ob) ∧ V.cell? ⟨w.heap.size, 4, none⟩ = some (.int .i64 ok)) (first | exact s5 | exact s4 | exact s3 | exact s2 | go_keep) (first
    | (have hno := K4; (go_at_call 15; (refine (Hid.out K4).mono ?_; rintro e w5 ⟨rfl, hb⟩; have h5 := TR.out h4 hb; have s5 := (ST.out w5 h5).1; clear hb K4)))
    | (have hno := K3; (go_at_call 15; (refine (Hid.out K3).mono ?_; rintro e w4 ⟨rfl, hb⟩; have h4 := TR.out h3 hb; have s4 := (ST.out w4 h4).1; have K4 := hid (T4.out w4 (ST.out w4 h4).2); clear hb K3)))
    | (have hno := K2; (go_at_call 15; (refine (Hid.out K2).mono ?_; rintro e w3 ⟨rfl, hb⟩; have h3 := TR.out h2 hb; have s3 := (ST.out w3 h3).1; have K3 := hid (T3.out w3 (ST.out w3 h3).2); clear hb K2)))
    | (go_at_call 15; (refine (Hid.out K1).mono ?_; rintro e w2 ⟨rfl, hb⟩; have h2 := TR.out hd hb; have s2 := (ST.out w2 h2).1; have K2 := hid (T2.out w2 (ST.out w2 h2).2); clear hb)))
  go_wp2
  go_ret
  exact ⟨by rw [HU.out]; first | done | rfl, (ST.out w5 h5).2⟩
end Go.Proofs.YthnolocldeokeaaGreatDoor

namespace Go.Proofs.YthnolocldeokeaaGreatDoor
open Go.RowKit Go.Deep Go.Shelf
set_option linter.unusedVariables false
set_option linter.unusedSimpArgs false
set_option maxRecDepth 100000
/- Digits. -/
def dv (l : List UInt8) : Nat := l.foldl (fun a b => a * 10 + (b.toNat - 48)) 0
theorem dig_toNat (d : Nat) (h : d < 10) : (UInt8.ofNat (48 + d)).toNat = 48 + d := by
  rw [UInt8.toNat_ofNat']; omega
theorem dv_dec : ∀ (f u : Nat), u < f → dv (Lib.decDigits u) = u
  | 0, u, h => by omega
  | f + 1, u, h => by
    rw [Lib.decDigits]
    by_cases hu : u < 10
    · rw [dif_pos hu]
      simp only [dv, List.foldl_cons, List.foldl_nil]
      rw [dig_toNat u hu]; omega
    · rw [dif_neg hu]
      have ih := dv_dec f (u / 10) (by omega)
      unfold dv at ih ⊢
      rw [List.foldl_append, ih]
      simp only [List.foldl_cons, List.foldl_nil]
      rw [dig_toNat (u % 10) (by omega)]; omega
theorem dec_inj {u v : Nat} (h : Lib.decDigits u = Lib.decDigits v) : u = v := by
  have h1 := dv_dec (u + 1) u (by omega)
  have h2 := dv_dec (v + 1) v (by omega)
  rw [h] at h1; omega
theorem dec_mem : ∀ (f u : Nat), u < f → ∀ b ∈ Lib.decDigits u, 48 ≤ b.toNat ∧ b.toNat ≤ 57
  | 0, u, h, _, _ => by omega
  | f + 1, u, h, b, hb => by
    rw [Lib.decDigits] at hb
    by_cases hu : u < 10
    · rw [dif_pos hu] at hb
      rw [List.mem_singleton] at hb; subst hb
      rw [dig_toNat u hu]; omega
    · rw [dif_neg hu] at hb
      rcases List.mem_append.1 hb with hb | hb
      · exact dec_mem f (u / 10) (by omega) b hb
      · rw [List.mem_singleton] at hb; subst hb
        rw [dig_toNat (u % 10) (by omega)]; omega
theorem itoa_mem (n : Int) : ∀ b ∈ Lib.itoa n, b = 45 ∨ (48 ≤ b.toNat ∧ b.toNat ≤ 57) := by
  unfold Lib.itoa
  split
  · intro b hb
    rcases List.mem_cons.1 hb with rfl | hb
    · exact .inl rfl
    · exact .inr (dec_mem _ _ (Nat.lt_succ_self _) b hb)
  · intro b hb
    exact .inr (dec_mem _ _ (Nat.lt_succ_self _) b hb)
theorem itoa_inj {m n : Int} (h : Lib.itoa m = Lib.itoa n) : m = n := by
  have hd : ∀ (u v : Nat), Lib.decDigits u ≠ 45 :: Lib.decDigits v := fun u v e => by
    have := dec_mem _ u (Nat.lt_succ_self _) 45 (by rw [e]; simp)
    simp at this
  unfold Lib.itoa at h
  split at h <;> split at h
  · have := dec_inj (List.cons.inj h).2; omega
  · exact absurd h.symm (hd _ _)
  · exact absurd h (hd _ _)
  · have := dec_inj h; omega

def tlL (nm : List UInt8) (r n : Int) : List UInt8 := if r = 0 ∧ n = 0 then [] else nm ++ Lib.itoa n
theorem tld_list (nm : ByteArray) (r n : Int) : (tld nm r n).data.toList = tlL nm.data.toList r n := by
  unfold tld tlL
  split
  · rfl
  · simp [itoB]
def Sp (x : List UInt8) : Prop := x = [] ∨ ∃ t, x = 32 :: t
theorem sp_split : ∀ (u v x y : List UInt8), (∀ b ∈ u, b ≠ 32) → (∀ b ∈ v, b ≠ 32) → Sp x → Sp y → u ++ x = v ++ y → u = v ∧ x = y
  | [], [], x, y, _, _, _, _, h => ⟨rfl, h⟩
  | [], c :: v, x, y, _, hv, hx, _, h => by
    rcases hx with rfl | ⟨t, rfl⟩
    · simp at h
    · simp at h; exact absurd h.1.symm (hv c (by simp))
  | b :: u, [], x, y, hu, _, _, hy, h => by
    rcases hy with rfl | ⟨t, rfl⟩
    · simp at h
    · simp at h; exact absurd h.1 (hu b (by simp))
  | b :: u, c :: v, x, y, hu, hv, hx, hy, h => by
    simp at h
    obtain ⟨h1, h2⟩ := sp_split u v x y (fun z hz => hu z (by simp [hz])) (fun z hz => hv z (by simp [hz])) hx hy h.2
    exact ⟨by rw [h.1, h1], h2⟩
/- Nothing, or a blank and another letter. -/
def Ot (l : UInt8) (x : List UInt8) : Prop := x = [] ∨ ∃ m t, x = 32 :: m :: t ∧ m ≠ l
theorem Ot.sp {l : UInt8} {x : List UInt8} (h : Ot l x) : Sp x := by
  rcases h with h | ⟨m, t, h, _⟩
  · exact .inl h
  · exact .inr ⟨_, h⟩
theorem itoa_sp (n : Int) : ∀ b ∈ Lib.itoa n, b ≠ 32 := fun b hb e => by
  subst e
  rcases itoa_mem n 32 hb with h | h
  · cases h
  · simp at h
theorem part_split {l : UInt8} {r n m : Int} {x y : List UInt8} (hx : Ot l x) (hy : Ot l y) (h : tlL [32, l, 61] r n ++ x = tlL [32, l, 61] r m ++ y) : n = m ∧ x = y := by
  unfold tlL at h
  by_cases h1 : r = 0 ∧ n = 0
  · by_cases h2 : r = 0 ∧ m = 0
    · rw [if_pos h1, if_pos h2] at h
      exact ⟨by rw [h1.2, h2.2], by simpa using h⟩
    · rw [if_pos h1, if_neg h2] at h
      rcases hx with rfl | ⟨k, t, rfl, hk⟩
      · simp at h
      · simp at h; exact absurd h.1 hk
  · by_cases h2 : r = 0 ∧ m = 0
    · rw [if_neg h1, if_pos h2] at h
      rcases hy with rfl | ⟨k, t, rfl, hk⟩
      · simp at h
      · simp at h; exact absurd h.1.symm hk
    · rw [if_neg h1, if_neg h2] at h
      simp only [List.cons_append, List.nil_append, List.cons.injEq, true_and] at h
      obtain ⟨a, b⟩ := sp_split _ _ x y (itoa_sp n) (itoa_sp m) hx.sp hy.sp h
      exact ⟨itoa_inj a, b⟩
theorem ot_part {l k : UInt8} (h : k ≠ l) (r n : Int) {x : List UInt8} (hx : Ot l x) : Ot l (tlL [32, k, 61] r n ++ x) := by
  unfold tlL
  split
  · exact hx
  · exact .inr ⟨k, _, rfl, h⟩
theorem ot_nil (l : UInt8) : Ot l [] := .inl rfl
/- A line as bytes. -/
def lnL (o : Opx) : List UInt8 := (shpAt o.c).nm.data.toList ++ (tlL [32, 68, 61] (shpAt o.c).d o.d ++ (tlL [32, 65, 61] (shpAt o.c).a o.a ++ (tlL [32, 66, 61] (shpAt o.c).b o.b ++ (tlL [32, 75, 61] (shpAt o.c).k o.k ++ []))))
theorem lnB_list (o : Opx) : (lnB o).data.toList = lnL o := by
  unfold lnB lnL
  simp [tld_list]
/- The names: none holds a blank or a line's end, no two are one. -/
theorem nm_all : ((List.range 41).all fun k => ((shpAt (k : Int)).nm.data.toList.all fun b => b != 32 && b != 10)) = true := by kernel_rfl
theorem nm_idx : ((List.range 41).all fun k => decide (shpL.findIdx (fun s => s.nm.data.toList == (shpAt (k : Int)).nm.data.toList) = k)) = true := by kernel_rfl
theorem nm_pos : ((List.range 41).all fun k => decide (k = 0) || decide (0 < (shpAt (k : Int)).nm.size)) = true := by kernel_rfl
theorem isC_nat {c : Int} (h : isC c = true) : ∃ k : Nat, c = (k : Int) ∧ k ∈ List.range 41 ∧ k ≠ 0 := by
  unfold isC at h
  simp only [Bool.and_eq_true, decide_eq_true_eq] at h
  exact ⟨c.toNat, by omega, by rw [List.mem_range]; omega, by omega⟩
theorem nm_clean {c : Int} (h : isC c = true) : ∀ b ∈ (shpAt c).nm.data.toList, b ≠ 32 ∧ b ≠ 10 := fun b hb => by
  obtain ⟨k, rfl, hk, _⟩ := isC_nat h
  have h1 := List.all_eq_true.1 (List.all_eq_true.1 nm_all k hk) b hb
  simp only [Bool.and_eq_true, bne_iff_ne, ne_eq] at h1
  exact h1
theorem nm_inj {c d : Int} (hc : isC c = true) (hd : isC d = true) (h : (shpAt c).nm.data.toList = (shpAt d).nm.data.toList) : c = d := by
  obtain ⟨k, rfl, hk, _⟩ := isC_nat hc
  obtain ⟨m, rfl, hm, _⟩ := isC_nat hd
  have h1 := of_decide_eq_true (List.all_eq_true.1 nm_idx k hk)
  have h2 := of_decide_eq_true (List.all_eq_true.1 nm_idx m hm)
  rw [h] at h1
  rw [← h1, h2]
theorem ln_inj {o p : Opx} (ho : isC o.c = true) (hp : isC p.c = true) (h : lnB o = lnB p) : o = p := by
  have h1 : lnL o = lnL p := by rw [← lnB_list, ← lnB_list, h]
  unfold lnL at h1
  have n1 : Ot 75 [] := ot_nil _
  have sp : ∀ q : Opx, Ot 68 (tlL [32, 65, 61] (shpAt q.c).a q.a ++ (tlL [32, 66, 61] (shpAt q.c).b q.b ++ (tlL [32, 75, 61] (shpAt q.c).k q.k ++ []))) := fun q => ot_part (by decide) _ _ (ot_part (by decide) _ _ (ot_part (by decide) _ _ (ot_nil _)))
  have sp2 : ∀ q : Opx, Ot 65 (tlL [32, 66, 61] (shpAt q.c).b q.b ++ (tlL [32, 75, 61] (shpAt q.c).k q.k ++ [])) := fun q => ot_part (by decide) _ _ (ot_part (by decide) _ _ (ot_nil _))
  have sp3 : ∀ q : Opx, Ot 66 (tlL [32, 75, 61] (shpAt q.c).k q.k ++ []) := fun q => ot_part (by decide) _ _ (ot_nil _)
  have sp0 : ∀ q : Opx, Ot 1 (tlL [32, 68, 61] (shpAt q.c).d q.d ++ (tlL [32, 65, 61] (shpAt q.c).a q.a ++ (tlL [32, 66, 61] (shpAt q.c).b q.b ++ (tlL [32, 75, 61] (shpAt q.c).k q.k ++ [])))) := fun q => ot_part (by decide) _ _ (ot_part (by decide) _ _ (ot_part (by decide) _ _ (ot_part (by decide) _ _ (ot_nil _))))
  obtain ⟨hn, h2⟩ := sp_split _ _ _ _ (fun b hb => (nm_clean ho b hb).1) (fun b hb => (nm_clean hp b hb).1) (sp0 o).sp (sp0 p).sp h1
  have hc := nm_inj ho hp hn
  obtain ⟨c, d, a, b, k⟩ := o
  obtain ⟨c', d', a', b', k'⟩ := p
  simp only at hc h2 sp sp2 sp3
  subst hc
  obtain ⟨rfl, h3⟩ := part_split (sp ⟨c, d, a, b, k⟩) (sp ⟨c, d', a', b', k'⟩) h2
  obtain ⟨rfl, h4⟩ := part_split (sp2 ⟨c, d, a, b, k⟩) (sp2 ⟨c, d, a', b', k'⟩) h3
  obtain ⟨rfl, h5⟩ := part_split (sp3 ⟨c, d, a, b, k⟩) (sp3 ⟨c, d, a, b', k'⟩) h4
  obtain ⟨rfl, _⟩ := part_split n1 n1 h5
  rfl
theorem tl_ten {l : UInt8} (hl : l ≠ 10) (r n : Int) : ∀ b ∈ tlL [32, l, 61] r n, b ≠ 10 := fun b hb e => by
  subst e
  unfold tlL at hb
  split at hb
  · cases hb
  · rcases List.mem_append.1 hb with h | h
    · simp at h; exact hl h.symm
    · rcases itoa_mem n 10 h with h | h
      · cases h
      · simp at h
theorem ln_ten {o : Opx} (ho : isC o.c = true) : ∀ b ∈ (lnB o).data.toList, b ≠ 10 := fun b hb => by
  rw [lnB_list] at hb
  unfold lnL at hb
  rcases List.mem_append.1 hb with h | h
  · exact (nm_clean ho b h).2
  rcases List.mem_append.1 h with h | h
  · exact tl_ten (by decide) _ _ b h
  rcases List.mem_append.1 h with h | h
  · exact tl_ten (by decide) _ _ b h
  rcases List.mem_append.1 h with h | h
  · exact tl_ten (by decide) _ _ b h
  rcases List.mem_append.1 h with h | h
  · exact tl_ten (by decide) _ _ b h
  · cases h
theorem ln_size {o : Opx} (ho : isC o.c = true) (hi : inOp o) : 0 < (lnB o).size ∧ (lnB o).size ≤ 120 := by
  obtain ⟨i1, i2, i3, i4⟩ := hi
  have e1 : (⟨#[32, 68, 61]⟩ : ByteArray).size = 3 := rfl
  have e2 : (⟨#[32, 65, 61]⟩ : ByteArray).size = 3 := rfl
  have e3 : (⟨#[32, 66, 61]⟩ : ByteArray).size = 3 := rfl
  have e4 : (⟨#[32, 75, 61]⟩ : ByteArray).size = 3 := rfl
  have z1 := tld_size ⟨#[32, 68, 61]⟩ (shpAt o.c).d o.d i1.1 i1.2
  have z2 := tld_size ⟨#[32, 65, 61]⟩ (shpAt o.c).a o.a i2.1 i2.2
  have z3 := tld_size ⟨#[32, 66, 61]⟩ (shpAt o.c).b o.b i3.1 i3.2
  have z4 := tld_size ⟨#[32, 75, 61]⟩ (shpAt o.c).k o.k i4.1 i4.2
  have zn := nm_size o.c
  have zp : 0 < (shpAt o.c).nm.size := by
    obtain ⟨k, hk, hm, h0⟩ := isC_nat ho
    have h1 := List.all_eq_true.1 nm_pos k hm
    simp only [Bool.or_eq_true, decide_eq_true_eq] at h1
    rw [hk]
    exact h1.resolve_left h0
  unfold lnB
  simp only [ByteArray.size_append]
  omega
end Go.Proofs.YthnolocldeokeaaGreatDoor

namespace Go.Proofs.YthnolocldeokeaaGreatDoor
set_option maxRecDepth 100000
open Go.RowKit Go.Deep
set_option linter.unusedVariables false
set_option linter.unusedSimpArgs false

def bv (xs : List Nat) : List Value := xs.map fun (x : Nat) => Value.int .u8 (x : Int)
def encF : Nat → Nat → List Nat
  | 0, n => [n]
  | f + 1, n => if n < 128 then [n] else (n % 128 + 128) :: encF f (n / 128)
def enc (n : Nat) : List Nat := encF n n
def Row (w : World) (B : Nat) (v : Value) (xs : List Nat) : Prop := w.ownsRow B 5 1 v xs.length (bv xs)

theorem Row.nil (w : World) (B : Nat) : Row w B (.slice none 0 0) [] := World.ownsRow_nil w B 5 1
theorem Row.own {w B v xs} (h : Row w B v xs) : ∀ k, v.ownBlock = some k → B ≤ k ∧ k < w.heap.size := World.ownsRow.lt h
theorem Row.drew {w B v xs} (h : Row w B v xs) : Row w.drew B v xs := h
theorem Row.same {w w' : World} {B v xs} (h : Row w B v xs) (e : ∀ g, v.ownBlock = some g → w'.heap[g]? = w.heap[g]?) : Row w' B v xs := by
  refine ⟨h.1, ?_⟩
  rcases h.2 with hn | ⟨g, cap, cur, rfl, hb, hgg, rest⟩
  · exact .inl hn
  · exact .inr ⟨g, cap, cur, rfl, hb, (e g rfl).trans hgg, rest⟩
theorem Row.below {w w' : World} {B C v xs} (h : Row w B v xs) (hC : w.heap.size ≤ C) (k : Below C w w') : Row w' B v xs :=
  h.same fun g e => k.block g (by have := (h.own g e).2; omega)
theorem Row.mono {w : World} {B C v xs} (h : Row w B v xs) (hC : C ≤ B) : Row w C v xs := by
  refine ⟨h.1, ?_⟩
  rcases h.2 with hn | ⟨g, cap, cur, rfl, hb, rest⟩
  · exact .inl hn
  · exact .inr ⟨g, cap, cur, rfl, by omega, rest⟩
theorem Grw.below {w w' : World} {v v' : Value} {B : Nat} {xs : List Nat} (h : Grw w v w' v') (hr : Row w B v xs) (hB : B ≤ w.heap.size) : Below B w w' :=
  (Below.refl B w).grown h.1 hB (fun k hk => (hr.own k hk).1)
theorem Grw.nil {w w' : World} {v' : Value} (h : Grw w (.slice none 0 0) w' v') : Below w.heap.size w w' := h.below (Row.nil w _) (Nat.le_refl _)
def sb (s : ByteArray) : List Nat := s.data.toList.map UInt8.toNat
theorem Row.alloc {w : World} {B v xs} (h : Row w B v xs) (o : Obj) : Row (w.alloc o) B v xs := World.ownsRow.alloc h o

end Go.Proofs.YthnolocldeokeaaGreatDoor

namespace Go.Proofs.YthnolocldeokeaaGreatDoor
open Go.RowKit Go.Deep
set_option linter.unusedVariables false
set_option linter.unusedSimpArgs false

/- Bytes as numbers, as values. -/
theorem bv_length (xs : List Nat) : (bv xs).length = xs.length := by simp [bv]
theorem bv_append (xs ys : List Nat) : bv (xs ++ ys) = bv xs ++ bv ys := by simp [bv]
theorem bv_one (xs : List Nat) : ∀ u ∈ bv xs, u.oneCell' = true := by
  intro u hu; simp [bv] at hu; obtain ⟨s, _, rfl⟩ := hu; rfl

/- The bytes of a number. -/
theorem encF_eq : ∀ (f g n : Nat), n ≤ f → n ≤ g → encF f n = encF g n
  | 0, 0, n, _, _ => rfl
  | 0, g + 1, n, h, _ => by simp only [encF]; rw [if_pos (by omega)]
  | f + 1, 0, n, _, h => by simp only [encF]; rw [if_pos (by omega)]
  | f + 1, g + 1, n, h1, h2 => by
    simp only [encF]
    split
    · rfl
    · rw [encF_eq f g (n / 128) (by omega) (by omega)]

theorem enc_small {n : Nat} (h : n < 128) : enc n = [n] := by
  unfold enc
  cases n with
  | zero => rfl
  | succ m => simp only [encF]; rw [if_pos h]
theorem enc_big {n : Nat} (h : ¬ n < 128) : enc n = (n % 128 + 128) :: enc (n / 128) := by
  unfold enc
  cases n with
  | zero => exact absurd (by decide) h
  | succ m =>
    simp only [encF]
    rw [if_neg h, encF_eq m ((m + 1) / 128) ((m + 1) / 128) (by omega) (Nat.le_refl _)]
theorem enc_length : ∀ (k n : Nat), n < 128 ^ (k + 1) → (enc n).length ≤ k + 1
  | 0, n, h => by rw [enc_small (by simpa using h)]; simp
  | k + 1, n, h => by
    by_cases hn : n < 128
    · rw [enc_small hn]; simp
    · rw [enc_big hn]
      have := enc_length k (n / 128) (by rw [Nat.pow_succ] at h; omega)
      simp; omega
theorem enc_le (n : Nat) (h : n < 18446744073709551616) : (enc n).length ≤ 10 :=
  enc_length 9 n (Nat.lt_of_lt_of_le h (by decide))

/- A row of bytes that is the call's own: its block lies from B on. -/
theorem Row.form {w B v xs} (h : Row w B v xs) : ∃ a cap, v = .slice a xs.length cap ∧ xs.length ≤ cap := by
  rcases h.2 with ⟨rfl, hn⟩ | ⟨g, cap, cur, rfl, hb, hgg, hc, rest⟩
  · exact ⟨none, 0, by rw [hn], by omega⟩
  · exact ⟨_, _, rfl, hc⟩

theorem info5 : (Tryz.prog.info? 5).map (fun i => (i.zero, i.size, i.bytes)) = some (some (.int .u8 0), 1, 1) := by kernel_rfl

theorem alloc_grown {w : World} {o : Obj} {w' : World} {row : Option Nat} (h : (w.alloc o).grownBy w' row) : w.grownBy w' row :=
  (World.grownBy_alloc w o row).trans h

/- Between w and w' nothing old has turned but v's own row; and the row is v's still, or new. -/
theorem Grw.unalloc {w w' : World} {v v' : Value} {o : Obj} (h : Grw (w.alloc o) v w' v') : Grw w v w' v' :=
  ⟨(World.grownBy_alloc w o _).trans h.1, by
    rcases h.2 with h | ⟨g, h, hg⟩
    · exact .inl h
    · exact .inr ⟨g, h, by simp at hg; omega⟩⟩
theorem wpList_app1 {ops : Array Oper} {rest : List Oper} {o : Oper} {a : Act} {Q : Exit → Act → World → Prop} (w : World) (hgd : o.guard = none) (s x : Operand)
    (ho : o.op = .call { callee := .builtin .append, args := #[s, x], argTypes := #[52, 52] }) (v : Value) (y : Int) (hs : a.eval s = v) (hx : a.eval x = .slice (some ⟨w.heap.size, 0, none⟩) 1 1)
    (B : Nat) (xs : List Nat) (z : Nat) (hy : y = z) (h : Row w B v xs) (hB : B ≤ w.heap.size) (hl : xs.length ≤ 1099511627776)
    (k : ∀ v' w', Row w' B v' (xs ++ [z]) → Grw w v w' v' → wpList Tryz.prog ops Q rest (a.put o.dst v') w') :
    wpList Tryz.prog ops Q (o :: rest) a (w.alloc (.cells #[.int .u8 y] 5)) := by
  subst hy
  obtain ⟨i0, hi, hz0, hz1, hz2⟩ := info_parts info5
  refine wpList_append_own_at _ hgd s x 52 ho B 5 i0 (.int .u8 0) 1 1 Tryz.underlying52 hi hz0 hz1 hz2 rfl (by decide) v xs.length (bv xs) hs (World.ownsRow.alloc h _) ⟨w.heap.size, 0, none⟩ 1 1 [.int .u8 (z : Int)] hx rfl (cell_one_new _ _ _)
    (by simp [Value.oneCell']) (by unfold maxLen; omega) (by omega) (by simp; omega) ?_
  intro v' w' hown hg _ hat
  refine k v' w' ?_ ?_
  · unfold Row
    rw [bv_append, List.length_append]
    exact hown
  · refine ⟨alloc_grown hg, ?_⟩
    rcases hat with hat | hat
    · exact .inl hat
    · exact .inr ⟨_, hat, by simp⟩

theorem or128 : ∀ a : Fin 256, bits .or .u8 (a.val : Int) 128 = ((a.val % 128 + 128 : Nat) : Int) := by decide +kernel
theorem or_top (n : Nat) : bits .or .u8 ((n : Int) % 256) 128 = ((n % 128 + 128 : Nat) : Int) := by
  have h := or128 ⟨n % 256, by omega⟩
  simp only at h
  rw [show ((n % 256 : Nat) : Int) = (n : Int) % 256 from by omega] at h
  rw [h]
  omega

set_option maxHeartbeats 400000 in
theorem appendUint_any (w : World) (B : Nat) (v : Value) (xs : List Nat) (n : Nat) (h : Row w B v xs) (hB : B ≤ w.heap.size) (hl : xs.length ≤ 1000000000000) (hn : n < 18446744073709551616) :
    Calls Tryz.prog 77 #[v, .int .u64 (n : Int)] w fun e w' => ∃ v', e = .returned v' ∧ Row w' B v' (xs ++ enc n) ∧ Grw w v w' v' := by
  go_enter Tryz.func77, Tryz.ntmps77
  go_wp2
  go_loopw [0, 1] (fun vv nn wr => ∃ (ys : List Nat) (m : Nat), nn = .int .u64 (m : Int) ∧ m ≤ n ∧ Row wr B vv ys ∧ Grw w v wr vv ∧ ys ++ enc m = xs ++ enc n) (fun _ nn _ => (intOf nn).toNat)
  case atStart => exact ⟨xs, n, rfl, Nat.le_refl _, h, Grw.refl _ _, rfl⟩
  case round =>
    obtain ⟨ys, m, rfl, hm, hr, hb, he⟩ := hrel
    have hlen : ys.length ≤ 1099511627776 := by
      have := congrArg List.length he
      have h10 := enc_le n hn
      simp at this; omega
    have hBs : B ≤ wr.heap.size := Nat.le_trans hB hb.size
    have ht := or_top m
    have He := hid he
    clear he
    by_cases hlt : m < 128
    · go_wp2_with (at_builtin; refine wpList_app1 _ rfl _ _ rfl _ _ (by rfl) (by rfl) B ys m ?cy hr hBs hlen ?_)
      case cy => omega
      intro v' w' hr' hb'
      go_wp2
      go_ret
      refine ⟨_, rfl, ?_, hb.trans hb'⟩
      rw [← He.out, enc_small hlt]; exact hr'
    · go_wp2_with (at_builtin; refine wpList_app1 _ rfl _ _ rfl _ _ (by rfl) (by rfl) B ys (m % 128 + 128) ?cy hr hBs hlen ?_)
      case cy => omega
      intro v' w' hr' hb'
      go_wp2
      go_roundw
      case rel =>
        refine ⟨_, m / 128, by go_num, by omega, hr', hb.trans hb', ?_⟩
        rw [← He.out, enc_big hlt]; simp
      case measure => simp [intOf]; omega
end Go.Proofs.YthnolocldeokeaaGreatDoor

namespace Go.Proofs.YthnolocldeokeaaGreatDoor
open Go.RowKit Go.Deep
set_option linter.unusedVariables false
set_option linter.unusedSimpArgs false

def zz (k : Int) : Nat := if k < 0 then (-2 * k - 1).toNat else (2 * k).toNat
theorem zz_neg (m : Nat) : zz (-(m : Int) - 1) = 2 * m + 1 := by unfold zz; rw [if_pos (by omega)]; omega
theorem zz_pos (m : Nat) : zz (m : Int) = 2 * m := by unfold zz; rw [if_neg (by omega)]; omega
theorem zz_lt (k : Int) (h0 : -9223372036854775808 ≤ k) (h1 : k ≤ 9223372036854775807) : zz k < 18446744073709551616 := by
  unfold zz; split <;> omega

theorem sb_length (s : ByteArray) : (sb s).length = s.size := by simp [sb]
theorem strCells_eq (s : ByteArray) : Lib.strCells s = bv (sb s) := by simp [Lib.strCells, bv, sb]

theorem or_one (m : Nat) (h : m < 9223372036854775808) : bits .or .u64 ((m : Int) * 2) 1 = (2 * m + 1 : Nat) := by
  have h' := bits_or_u64_nat (m * 2) 1 (by omega) (by omega)
  have e : m * 2 ||| 1 = 2 * m + 1 := by
    have := Nat.two_pow_add_eq_or_of_lt (i := 1) (b := 1) (by decide) m
    rw [Nat.mul_comm]
    simpa using this.symm
  rw [e] at h'
  simpa using h'

set_option maxHeartbeats 400000 in
theorem putUint_any (w : World) (n : Nat) (hn : n < 18446744073709551616) :
    Calls Tryz.prog 52 #[.int .u64 (n : Int)] w fun e w' => ∃ v', e = .returned v' ∧ Row w' w.heap.size v' (enc n) ∧ Below w.heap.size w w' := by
  have h := hid (appendUint_any w w.heap.size _ [] n (Row.nil _ _) (Nat.le_refl _) (by simp) hn)
  go_enter Tryz.func52, Tryz.ntmps52
  go_wp2_with (go_at_call 77; refine (Hid.out h).mono ?_; rintro e w' ⟨v', rfl, hr, hb⟩)
  go_ret
  exact ⟨_, rfl, by simpa using hr, hb.nil⟩

theorem xor_neg (m : Nat) (h : m < 9223372036854775808) : bits .xor .i64 (if IntKind.i64.signed = true then -1 else 9223372036854775807) (-(m : Int) - 1) = m := by
  show IntKind.i64.wrap ((BitVec.ofInt 64 (-1) ^^^ BitVec.ofInt 64 (-(m : Int) - 1)).toNat : Int) = _
  have e1 : (-(m : Int) - 1) = Int.negSucc m := by omega
  have e2 : BitVec.ofInt 64 (-1) = BitVec.allOnes 64 := by decide
  rw [e1, BitVec.ofInt_negSucc_eq_not_ofNat, e2, BitVec.xor_comm, BitVec.xor_allOnes, BitVec.not_not, BitVec.toNat_ofNat, IntKind.wrap_i64]
  omega

theorem appendUint_int (w : World) (B : Nat) (v : Value) (xs : List Nat) (x : Int) (n : Nat) (hx : x = n) (h : Row w B v xs) (hB : B ≤ w.heap.size) (hl : xs.length ≤ 1000000000000) (hn : n < 18446744073709551616) :
    Calls Tryz.prog 77 #[v, .int .u64 x] w fun e w' => ∃ v', e = .returned v' ∧ Row w' B v' (xs ++ enc n) ∧ Grw w v w' v' := by
  subst hx; exact appendUint_any w B v xs n h hB hl hn

set_option maxHeartbeats 400000 in
theorem appendInt_any (w : World) (B : Nat) (v : Value) (xs : List Nat) (k : Int) (h : Row w B v xs) (hB : B ≤ w.heap.size) (hl : xs.length ≤ 1000000000000) (h0 : -9223372036854775808 ≤ k) (h1 : k ≤ 9223372036854775807) :
    Calls Tryz.prog 78 #[v, .int .i64 k] w fun e w' => ∃ v', e = .returned v' ∧ Row w' B v' (xs ++ enc (zz k)) ∧ Grw w v w' v' := by
  have hz := zz_lt k h0 h1
  by_cases hk : k < 0
  · obtain ⟨m, rfl⟩ : ∃ m : Nat, k = -(m : Int) - 1 := ⟨(-k - 1).toNat, by omega⟩
    rw [zz_neg] at hz ⊢
    have ho := or_one m (by omega)
    go_enter Tryz.func78, Tryz.ntmps78
    go_wp2_with (go_at_call 77; refine (appendUint_int w B v xs _ (2 * m + 1) (by rw [xor_neg m (by omega), IntKind.wrap_u64, IntKind.wrap_u64, Int.emod_eq_of_lt (by omega) (by omega), Int.emod_eq_of_lt (by omega) (by omega), ho]) h hB hl hz).mono ?_; rintro e w1 ⟨v1, rfl, hr, hb⟩)
    go_ret
    exact ⟨_, rfl, hr, hb⟩
  · obtain ⟨m, rfl⟩ := Int.eq_ofNat_of_zero_le (show 0 ≤ k by omega)
    rw [zz_pos] at hz ⊢
    go_enter Tryz.func78, Tryz.ntmps78
    go_wp2_with (go_at_call 77; refine (appendUint_int w B v xs _ (2 * m) (by omega) h hB hl hz).mono ?_; rintro e w1 ⟨v1, rfl, hr, hb⟩)
    go_ret
    exact ⟨_, rfl, hr, hb⟩

set_option maxHeartbeats 400000 in
theorem putInt_any (w : World) (k : Int) (h0 : -9223372036854775808 ≤ k) (h1 : k ≤ 9223372036854775807) :
    Calls Tryz.prog 55 #[.int .i64 k] w fun e w' => ∃ v', e = .returned v' ∧ Row w' w.heap.size v' (enc (zz k)) ∧ Below w.heap.size w w' := by
  have h := hid (appendInt_any w w.heap.size _ [] k (Row.nil _ _) (Nat.le_refl _) (by simp) h0 h1)
  go_enter Tryz.func55, Tryz.ntmps55
  go_wp2_with (go_at_call 78; refine (Hid.out h).mono ?_; rintro e w' ⟨v', rfl, hr, hb⟩)
  go_ret
  exact ⟨_, rfl, by simpa using hr, hb.nil⟩

theorem run_appS (w : World) (ty : TypeId) (B : Nat) (v : Value) (xs : List Nat) (s : ByteArray) (h : Row w B v xs) (hB : B ≤ w.heap.size) (hl : xs.length ≤ 1099511627776) (hl2 : s.size ≤ 1099511627776) :
    ∃ v' w', (Builtin.append_ #[52, 9] ty #[v, .string s]).run Tryz.prog w = .ok v' w' ∧ Row w' B v' (xs ++ sb s) ∧ Grw w v w' v' := by
  obtain ⟨i0, hi, hz0, hz1, hz2⟩ := info_parts info5
  obtain ⟨v', w', hrun, hown, hg, hiff⟩ := Lib.run_append_own_string (P := Tryz.prog) w B 52 9 ty 5 i0 Tryz.underlying52 Tryz.underlying9 hi hz0 hz1 hz2 v xs.length (bv xs) h s (by unfold maxLen; omega) (by omega) hB
  refine ⟨v', w', hrun, ?_, hg, ?_⟩
  · unfold Row
    rw [bv_append, List.length_append, sb_length, ← strCells_eq]
    exact hown
  · rcases h.2 with ⟨rfl, hn⟩ | ⟨g, cap, cur, rfl, hbg, hgg, hnc, hcm, hcs, htake⟩
    · by_cases hm : s.size = 0
      · rw [hiff.2 ⟨rfl, hm⟩]; exact .inl rfl
      · have hr := Lib.run_append_own_string (P := Tryz.prog) w w.heap.size 52 9 ty 5 i0 Tryz.underlying52 Tryz.underlying9 hi hz0 hz1 hz2 (.slice none 0 0) 0 [] (World.ownsRow_nil _ _ _ _) s (by unfold maxLen; omega) (by omega) (Nat.le_refl _)
        obtain ⟨v2, w2, hrun2, hown2, _, _⟩ := hr
        rw [hrun] at hrun2
        cases hrun2
        rcases hown2.2 with ⟨rfl, hn2⟩ | ⟨g, cap, cur, rfl, hbg, _⟩
        · omega
        · exact .inr ⟨g, rfl, hbg⟩
    · by_cases hroom : xs.length + s.size ≤ cap
      · have hcs' : cur.size = cap := by simpa using hcs
        have hr := Lib.run_append_room_string (P := Tryz.prog) w 52 9 ty 5 i0 Tryz.underlying52 Tryz.underlying9 hi hz1 g xs.length cap cur hgg s hroom (by omega)
        rw [hrun] at hr
        cases hr
        exact .inl rfl
      · have hr := Lib.run_append_grow_string (P := Tryz.prog) w 52 9 ty 5 i0 (.int .u8 0) Tryz.underlying52 Tryz.underlying9 hi hz0 ⟨g, 0, none⟩ xs.length cap (bv xs) (by rw [hz1]; simp [bv_length]) (World.ownsRow.cells h (g := g) rfl) s (by omega) (by omega) (by rw [hz2]; exact growslice_fits (by omega) (by omega))
        rw [hrun] at hr
        cases hr
        exact .inr ⟨_, rfl, Nat.le_refl _⟩

theorem wpList_appS {ops : Array Oper} {rest : List Oper} {o : Oper} {a : Act} {Q : Exit → Act → World → Prop} (w : World) (hgd : o.guard = none) (sl x : Operand)
    (ho : o.op = .call { callee := .builtin .append, args := #[sl, x], argTypes := #[52, 9] }) (v : Value) (s : ByteArray) (hs : a.eval sl = v) (hx : a.eval x = .string s)
    (B : Nat) (xs : List Nat) (h : Row w B v xs) (hB : B ≤ w.heap.size) (hl : xs.length ≤ 1099511627776) (hl2 : s.size ≤ 1099511627776)
    (k : ∀ v' w', Row w' B v' (xs ++ sb s) → Grw w v w' v' → wpList Tryz.prog ops Q rest (a.put o.dst v') w') :
    wpList Tryz.prog ops Q (o :: rest) a w := by
  refine wpList_plain hgd fun K hK => ?_
  obtain ⟨v', w', hr, h2, h3⟩ := run_appS w o.type B v xs s h hB hl hl2
  unfold Oper.wp execOp
  simp only [ho, resolve, invoke, builtin, Sem.run_bind, Sem.run_pure, Result.andThen_ok, List.map_toArray, List.map_cons, List.map_nil, hs, hx, hr]
  exact hK _ _ (k v' w' h2 h3)

def encX (s : ByteArray) : List Nat := enc s.size ++ sb s

set_option maxHeartbeats 400000 in
theorem appendText_any (w : World) (B : Nat) (v : Value) (xs : List Nat) (s : ByteArray) (h : Row w B v xs) (hB : B ≤ w.heap.size) (hl : xs.length ≤ 1000000000000) (hs : s.size ≤ 1000000000000) :
    Calls Tryz.prog 79 #[v, .string s] w fun e w' => ∃ v', e = .returned v' ∧ Row w' B v' (xs ++ encX s) ∧ Grw w v w' v' := by
  go_enter Tryz.func79, Tryz.ntmps79
  have h10 := enc_le s.size (by omega)
  have hl1 : (xs ++ enc s.size).length ≤ 1099511627776 := by simp; omega
  go_wp2_with (first
    | (go_at_call 77; refine (appendUint_int w B v xs _ s.size (by omega) h hB hl (by omega)).mono ?_; rintro e w1 ⟨v1, rfl, hr, hb⟩)
    | (at_builtin; refine wpList_appS _ rfl _ _ rfl _ _ (by rfl) (by rfl) B _ hr (Nat.le_trans hB hb.size) hl1 (by omega) ?_))
  intro v2 w2 hr2 hb2
  go_wp2
  go_ret
  exact ⟨_, rfl, by unfold encX; exact hr2, hb.trans hb2⟩

set_option maxHeartbeats 400000 in
theorem putText_any (w : World) (s : ByteArray) (hs : s.size ≤ 1000000000000) :
    Calls Tryz.prog 56 #[.string s] w fun e w' => ∃ v', e = .returned v' ∧ Row w' w.heap.size v' (encX s) ∧ Below w.heap.size w w' := by
  have h := hid (appendText_any w w.heap.size _ [] s (Row.nil _ _) (Nat.le_refl _) (by simp) hs)
  go_enter Tryz.func56, Tryz.ntmps56
  go_wp2_with (go_at_call 79; refine (Hid.out h).mono ?_; rintro e w' ⟨v', rfl, hr, hb⟩)
  go_ret
  exact ⟨_, rfl, by simpa using hr, hb.nil⟩

end Go.Proofs.YthnolocldeokeaaGreatDoor

namespace Go.Proofs.YthnolocldeokeaaGreatDoor
open Go.RowKit Go.Deep
set_option linter.unusedVariables false
set_option linter.unusedSimpArgs false

def Byt (bs : List Nat) : Prop := ∀ x ∈ bs, x < 256
theorem Byt.drop {bs : List Nat} (h : Byt bs) (n : Nat) : Byt (bs.drop n) := fun x hx => h x (List.mem_of_mem_drop hx)
theorem Byt.take {bs : List Nat} (h : Byt bs) (n : Nat) : Byt (bs.take n) := fun x hx => h x (List.mem_of_mem_take hx)
theorem Byt.append {a b : List Nat} (h : Byt a) (k : Byt b) : Byt (a ++ b) := fun x hx => by
  rcases List.mem_append.1 hx with hx | hx
  · exact h x hx
  · exact k x hx
theorem Byt.at {bs : List Nat} (h : Byt bs) {j x : Nat} (e : bs[j]? = some x) : x < 256 := h x (List.mem_of_getElem? e)
theorem enc_byt : ∀ (n : Nat), Byt (enc n) := by
  intro n
  induction n using Nat.strongRecOn with
  | _ n ih =>
    by_cases h : n < 128
    · rw [enc_small h]; intro x hx; simp at hx; omega
    · rw [enc_big h]
      intro x hx
      rcases List.mem_cons.1 hx with rfl | hx
      · omega
      · exact ih (n / 128) (by omega) x hx
theorem sb_byt (s : ByteArray) : Byt (sb s) := by
  intro x hx
  simp only [sb, List.mem_map] at hx
  obtain ⟨u, _, rfl⟩ := hx
  exact u.toNat_lt
theorem encX_byt (s : ByteArray) : Byt (encX s) := (enc_byt _).append (sb_byt _)

def ofB (bs : List Nat) : ByteArray := ⟨(bs.map UInt8.ofNat).toArray⟩
theorem fold_ofB (bs : List Nat) : ∀ (acc : ByteArray), (bs.map (fun (x : Nat) => (x : Int))).foldl (fun r n => r.push (UInt8.ofNat n.toNat)) acc = ⟨acc.data ++ (bs.map UInt8.ofNat).toArray⟩ := by
  induction bs with
  | nil => intro acc; simp
  | cons x r ih =>
    intro acc
    simp only [List.map_cons, List.foldl_cons]
    rw [ih]
    congr 1
    apply Array.ext'
    simp [ByteArray.push]
theorem ofB_size (bs : List Nat) : (ofB bs).size = bs.length := by simp [ofB, ByteArray.size]
/- What a slice of bytes reads. -/
def Rd (w : World) (v : Value) (bs : List Nat) : Prop := ∃ a cap, v = .slice a bs.length cap ∧ bs.length ≤ cap ∧ Byt bs ∧
  ∀ (j x : Nat), bs[j]? = some x → ∃ b off, a = some ⟨b, off, none⟩ ∧ w.cell? ⟨b, off + j, none⟩ = some (.int .u8 (x : Int))

theorem Rd.nil (w : World) : Rd w (.slice none 0 0) [] := ⟨none, 0, rfl, Nat.le_refl _, fun x hx => (by cases hx), fun j x h => by simp at h⟩
theorem Rd.same {w w' : World} {v bs} (h : Rd w v bs) (e : ∀ k, v.ownBlock = some k → k < w.heap.size → w'.heap[k]? = w.heap[k]?) : Rd w' v bs := by
  obtain ⟨a, cap, rfl, h1, h2, h3⟩ := h
  refine ⟨a, cap, rfl, h1, h2, fun j x hx => ?_⟩
  obtain ⟨b, off, rfl, hc⟩ := h3 j x hx
  refine ⟨b, off, rfl, ?_⟩
  rw [World.cell?_of_block (w := w) (e b rfl (World.block_lt_of_cell? _ _ hc))]; exact hc
theorem Rd.below {w w' : World} {v bs B} (h : Rd w v bs) (hB : w.heap.size ≤ B) (k : Below B w w') : Rd w' v bs :=
  h.same fun k' _ hk => k.block k' (by omega)
theorem Row.rd {w : World} {B v xs} (h : Row w B v xs) (hb : Byt xs) : Rd w v xs := by
  rcases h.2 with ⟨rfl, hn⟩ | ⟨g, cap, cur, rfl, hb', hgg, hc, hm, hs, ht⟩
  · have : xs = [] := List.eq_nil_of_length_eq_zero hn
    subst this
    exact Rd.nil w
  · refine ⟨_, _, rfl, hc, hb, fun j x hx => ⟨g, 0, rfl, ?_⟩⟩
    have := World.ownsRow.cells h (g := g) rfl j (.int .u8 (x : Int)) (by simp [bv, hx])
    rw [Addr.add_lit] at this
    exact this
theorem Rd.from {w : World} {a : Option Addr} {n cap : Nat} {bs : List Nat} (h : Rd w (.slice a n cap) bs) (k : Nat) (hk : k ≤ bs.length) : Rd w (sliced a k n cap 1) (bs.drop k) := by
  obtain ⟨a, cap, e, h1, h2, h3⟩ := h
  cases e
  refine ⟨_, _, by unfold sliced; rw [List.length_drop], by rw [List.length_drop]; omega, h2.drop k, fun j x hx => ?_⟩
  rw [List.getElem?_drop] at hx
  obtain ⟨b, off, rfl, hc⟩ := h3 _ _ hx
  have hlt : k + j < bs.length := (List.getElem?_eq_some_iff.1 hx).1
  refine ⟨b, off + k, ?_, ?_⟩
  · rw [if_neg (by omega)]
    simp [Addr.add_lit]
  · rw [Nat.add_assoc]; exact hc
theorem Rd.part {w : World} {a : Option Addr} {n cap : Nat} {bs : List Nat} (h : Rd w (.slice a n cap) bs) (k l : Nat) (hk : k ≤ l) (hl : l ≤ bs.length) : Rd w (sliced a k l cap 1) ((bs.take l).drop k) := by
  obtain ⟨a, cap, e, h1, h2, h3⟩ := h
  cases e
  refine ⟨_, _, by unfold sliced; rw [List.length_drop, List.length_take, Nat.min_eq_left hl], by rw [List.length_drop, List.length_take]; omega, (h2.take l).drop k, fun j x hx => ?_⟩
  rw [List.getElem?_drop, List.getElem?_take] at hx
  split at hx
  · obtain ⟨b, off, rfl, hc⟩ := h3 _ _ hx
    have hlt : k + j < bs.length := (List.getElem?_eq_some_iff.1 hx).1
    refine ⟨b, off + k, ?_, ?_⟩
    · rw [if_neg (by omega)]
      simp [Addr.add_lit]
    · rw [Nat.add_assoc]; exact hc
  · cases hx
theorem Rd.conv {w v bs} (h : Rd w v bs) : (convert 52 9 v).run Tryz.prog w = .ok (.string (ofB bs)) w := by
  obtain ⟨a, cap, rfl, h1, h2, h3⟩ := h
  rw [run_convert_bytes_string w 52 9 5 _ _ _ Tryz.underlying52 Tryz.underlying5 Tryz.underlying9]
  cases a with
  | none =>
    have : bs = [] := by
      cases bs with
      | nil => rfl
      | cons x r => obtain ⟨b, off, e, _⟩ := h3 0 x rfl; cases e
    subst this
    rfl
  | some a =>
    have hl := run_loadCells_list (P := Tryz.prog) w a (bv bs) ?_
    · have := run_bytesToString w a bs.length cap (bs.map (fun (x : Nat) => (x : Int))) (by
        rw [bv_length] at hl
        rw [hl]; simp [bv]) (P := Tryz.prog)
      rw [this, fold_ofB]
      simp [ofB]
    · intro j u hu
      simp only [bv, List.getElem?_map, Option.map_eq_some_iff] at hu
      obtain ⟨x, hx, rfl⟩ := hu
      obtain ⟨b, off, e, hc⟩ := h3 j x hx
      cases e
      rw [Addr.add_lit]; exact hc

end Go.Proofs.YthnolocldeokeaaGreatDoor

namespace Go.Proofs.YthnolocldeokeaaGreatDoor
open Go.RowKit Go.Deep
set_option linter.unusedVariables false
set_option linter.unusedSimpArgs false

def decAt (n i : Nat) : List Nat → Option (Nat × Nat)
  | [] => none
  | c :: r => if 0 < i ∧ c = 0 ∨ i = 9 ∧ 1 < c then none else if c < 128 then some (n + c * 2 ^ (7 * i), i + 1) else decAt (n + (c - 128) * 2 ^ (7 * i)) (i + 1) r
def dec (bs : List Nat) : Option (Nat × Nat) := decAt 0 0 bs

theorem decAt_size (bs : List Nat) : ∀ (n i m k : Nat), decAt n i bs = some (m, k) → i < k ∧ k ≤ i + bs.length := by
  induction bs with
  | nil => intro n i m k h; cases h
  | cons c r ih =>
    intro n i m k h
    simp only [decAt] at h
    split at h
    · cases h
    · split at h
      · cases h; simp
      · have := ih _ _ _ _ h
        simp; omega
theorem decAt_back (bs : List Nat) (hb : Byt bs) : ∀ (n i m k : Nat), i ≤ 9 → n < 2 ^ (7 * i) → decAt n i bs = some (m, k) → ∃ q, m = n + q * 2 ^ (7 * i) ∧ q < 128 ^ (9 - i) * 2 ∧ bs.take (k - i) = enc q ∧ i < k ∧ k ≤ 10 ∧ (0 < i → 0 < q) := by
  induction bs with
  | nil => intro n i m k _ _ h; cases h
  | cons c r ih =>
    intro n i m k hi hn h
    simp only [decAt] at h
    have hc : c < 256 := hb c (by simp)
    split at h
    · cases h
    · rename_i h1
      split at h
      · rename_i h2
        cases h
        refine ⟨c, rfl, ?_, ?_, by omega, by omega, fun a => ?_⟩
        · rcases Nat.lt_or_ge i 9 with h9 | h9
          · have : 128 ^ 1 ≤ 128 ^ (9 - i) := Nat.pow_le_pow_right (by decide) (by omega)
            omega
          · have : i = 9 := by omega
            subst this
            simp at h1 ⊢; omega
        · rw [enc_small h2]; simp
        · have : c ≠ 0 := fun e => h1 (.inl ⟨a, e⟩)
          omega
      · rename_i h2
        have hi9 : i < 9 := by
          rcases Nat.lt_or_ge i 9 with h9 | h9
          · exact h9
          · exact absurd (.inr ⟨by omega, by omega⟩) h1
        have e : 2 ^ (7 * (i + 1)) = 128 * 2 ^ (7 * i) := by rw [Nat.mul_add, Nat.pow_add]; omega
        obtain ⟨q, e1, e2, e3, e4, e5, e6⟩ := ih (fun x hx => hb x (by simp [hx])) _ _ _ _ (by omega) (by
          rw [e]
          have : (c - 128) * 2 ^ (7 * i) ≤ 127 * 2 ^ (7 * i) := Nat.mul_le_mul_right _ (by omega)
          omega) h
        have e6' := e6 (by omega)
        refine ⟨(c - 128) + 128 * q, ?_, ?_, ?_, by omega, by omega, fun _ => by omega⟩
        · rw [e1, e, Nat.add_mul, ← Nat.mul_assoc, Nat.mul_comm 128 q]; omega
        · rw [show 9 - i = (9 - (i + 1)) + 1 from by omega, Nat.pow_succ]; omega
        · rw [show k - i = (k - (i + 1)) + 1 from by omega, List.take_succ_cons, e3, enc_big (n := c - 128 + 128 * q) (by omega)]
          congr 1
          · omega
          · congr 1; omega
theorem dec_back {bs : List Nat} (hb : Byt bs) {m k : Nat} (h : dec bs = some (m, k)) : bs.take k = enc m ∧ m < 18446744073709551616 ∧ k ≤ bs.length ∧ 0 < k ∧ k ≤ 10 := by
  obtain ⟨q, e1, e2, e3, e4, e5, _⟩ := decAt_back bs hb 0 0 m k (by omega) (by simp) h
  have hs := decAt_size bs 0 0 m k h
  simp at e1 e2 e3
  subst e1
  exact ⟨e3, by omega, by omega, by omega, e5⟩
end Go.Proofs.YthnolocldeokeaaGreatDoor

namespace Go.Proofs.YthnolocldeokeaaGreatDoor
open Go.RowKit Go.Deep
set_option linter.unusedVariables false
set_option linter.unusedSimpArgs false

def uintV : Option (Nat × Nat) → Value
  | none => .tuple #[.int .u64 0, .int .i64 0, .int .i64 20]
  | some (n, k) => .tuple #[.int .u64 (n : Int), .int .i64 (k : Int), .int .i64 0]

theorem pow7 (i : Nat) : 2 ^ (7 * (i + 1)) = 128 * 2 ^ (7 * i) := by rw [Nat.mul_add, Nat.pow_add]; omega
theorem pow9 {i : Nat} (h : i ≤ 8) : 128 * 2 ^ (7 * i) ≤ 9223372036854775808 := by
  have : 2 ^ (7 * i) ≤ 2 ^ 56 := Nat.pow_le_pow_right (by decide) (by omega)
  omega
theorem fits7 {c i : Nat} (hc : c < 128) (hi : i ≤ 9) (h9 : i = 9 → c ≤ 1) : c * 2 ^ (7 * i) < 18446744073709551616 := by
  rcases Nat.lt_or_ge i 9 with h | h
  · have h1 := pow9 (i := i) (by omega)
    have : c * 2 ^ (7 * i) ≤ 128 * 2 ^ (7 * i) := Nat.mul_le_mul_right _ (by omega)
    omega
  · have : i = 9 := by omega
    subst this
    have := h9 rfl
    omega
theorem or_join {m c i : Nat} (hm : m < 2 ^ (7 * i)) (hc : c * 2 ^ (7 * i) < 18446744073709551616) (h9 : i ≤ 9) : bits .or .u64 (m : Int) ((c * 2 ^ (7 * i) : Nat) : Int) = ((m + c * 2 ^ (7 * i) : Nat) : Int) := by
  have hp : 2 ^ (7 * i) ≤ 2 ^ 63 := Nat.pow_le_pow_right (by decide) (by omega)
  rw [bits_or_u64_nat m (c * 2 ^ (7 * i)) (by omega) hc]
  have := Nat.two_pow_add_eq_or_of_lt hm c
  rw [Nat.mul_comm c, Nat.or_comm, ← this, Nat.add_comm]
theorem or_shl {m c i : Nat} (hm : m < 2 ^ (7 * i)) (hc : c * 2 ^ (7 * i) < 18446744073709551616) (h9 : i ≤ 9) : bits .or .u64 (m : Int) (IntKind.u64.wrap ((c : Int) * 2 ^ (7 * i))) = ((m + c * 2 ^ (7 * i) : Nat) : Int) := by
  rw [← or_join hm hc h9, IntKind.wrap_u64]
  rw [show (c : Int) * 2 ^ (7 * i) = ((c * 2 ^ (7 * i) : Nat) : Int) from by simp]
  congr 1
  omega
theorem and127_all : ∀ a : Fin 128, bits .and .u8 (128 + (a.val : Int)) 127 = (a.val : Int) := by decide +kernel
theorem and127 (d : Nat) (h : d < 128) : bits .and .u8 (128 + (d : Int)) 127 = (d : Int) := and127_all ⟨d, h⟩

theorem Rd.len {w v bs} (h : Rd w v bs) : ∃ a cap, v = .slice a bs.length cap := by obtain ⟨a, cap, e, _⟩ := h; exact ⟨a, cap, e⟩

set_option maxRecDepth 10000 in
set_option maxHeartbeats 1000000 in
theorem uint_any (w : World) (v : Value) (bs : List Nat) (h : Rd w v bs) (hl : bs.length ≤ 1000000000000) :
    Calls Tryz.prog 81 #[v] w fun e w' => e = .returned (uintV (dec bs)) ∧ w' = w := by
  obtain ⟨a, cap, rfl, h1, h2, h3⟩ := h
  go_enter Tryz.func81, Tryz.ntmps81
  go_wp2; go_step3; go_wp2; go_step3; go_wp2
  go_loopw [5, 10] (fun nn ii wr => ∃ (m i : Nat), nn = .int .u64 (m : Int) ∧ ii = .int .i64 (i : Int) ∧ i ≤ 9 ∧ m < 2 ^ (7 * i) ∧ i ≤ bs.length ∧ dec bs = decAt m i (bs.drop i) ∧ wr = w) (fun _ ii _ => 10 - (intOf ii).toNat)
  case atStart => exact ⟨0, 0, rfl, rfl, by omega, by simp, by omega, rfl, rfl⟩
  case round =>
    obtain ⟨m, i, rfl, rfl, hi, hm, hil, he, rfl⟩ := hrel
    rcases Nat.lt_or_ge i bs.length with hlt | hge
    · obtain ⟨c, hc⟩ : ∃ c, bs[i]? = some c := ⟨bs[i], by simp [hlt]⟩
      obtain ⟨b, off, rfl, hcell⟩ := h3 i c hc
      have hcb := h2.at hc
      have hd : bs.drop i = c :: bs.drop (i + 1) := by rw [List.drop_eq_getElem_cons hlt]; congr 1; simpa [hlt] using hc
      rw [hd] at he
      simp only [decAt] at he
      clear hd hc h1 h2 h3
      by_cases hA : 0 < i ∧ c = 0 ∨ i = 9 ∧ 1 < c
      · rw [if_pos hA] at he
        have He := hid he
        clear he
        rcases hA with ⟨hi0, rfl⟩ | ⟨rfl, hc1⟩
        · go_wp2
          (try rw [Exit.noGoto_ret]); go_ret3
          exact ⟨by rw [He.out]; rfl, rfl⟩
        · have hc0 : (0 : Nat) < c := by omega
          go_wp2
          (try rw [Exit.noGoto_ret]); go_ret3
          exact ⟨by rw [He.out]; rfl, rfl⟩
      · rw [if_neg hA] at he
        have hA1 : ¬ (0 < i ∧ c = 0) := fun x => hA (.inl x)
        have hA2 : ¬ (i = 9 ∧ 1 < c) := fun x => hA (.inr x)
        clear hA
        by_cases hC : c < 128
        · rw [if_pos hC] at he
          have hf := fits7 hC hi (fun e => by omega)
          have E : Hid (Ending.returned (.tuple #[.int .u64 (bits .or .u64 (m : Int) (IntKind.u64.wrap ((c : Int) * 2 ^ (7 * i)))), .int .i64 ((i : Int) + 1), .int .i64 0]) = Ending.returned (uintV (dec bs))) := by
            rw [he, or_shl hm hf hi]; rfl
          clear he hf
          rcases Nat.lt_or_ge i 1 with hi0 | hi0
          · go_wp2
            (try rw [Exit.noGoto_ret]); go_ret3
            exact ⟨E.out, rfl⟩
          · have hc0 : 0 < c := by omega
            rcases Nat.lt_or_ge i 9 with h9 | h9
            · go_wp2
              (try rw [Exit.noGoto_ret]); go_ret3
              exact ⟨E.out, rfl⟩
            · obtain rfl : i = 9 := by omega
              obtain rfl : c = 1 := by omega
              have E9 : Hid (Ending.returned (.tuple #[.int .u64 (bits .or .u64 (m : Int) 9223372036854775808), .int .i64 10, .int .i64 0]) = Ending.returned (uintV (dec bs))) := E
              clear E
              go_wp2
              (try rw [Exit.noGoto_ret]); go_ret3
              exact ⟨E9.out, rfl⟩
        · rw [if_neg hC] at he
          have h9 : i < 9 := by omega
          obtain ⟨d, rfl⟩ : ∃ d, c = 128 + d := ⟨c - 128, by omega⟩
          have hdl : d < 128 := by omega
          rw [show 128 + d - 128 = d from by omega] at he
          have hf := fits7 hdl hi (fun e => by omega)
          have e3 := and127 d hdl
          have hm2 : m + d * 2 ^ (7 * i) < 2 ^ (7 * (i + 1)) := by
            rw [pow7]
            have : d * 2 ^ (7 * i) ≤ 127 * 2 ^ (7 * i) := Nat.mul_le_mul_right _ (by omega)
            omega
          have E := hid (or_shl hm hf hi)
          have He := hid he
          have Hm2 := hid hm2
          clear he hm2 hf hm hA1 hA2
          rcases Nat.lt_or_ge i 1 with hi0 | hi0
          · go_wp2
            go_roundw
            case rel => exact ⟨_, i + 1, congrArg (Value.int .u64) E.out, by go_num, by omega, Hm2.out, by omega, He.out, trivial⟩
            case measure => simp [intOf]; omega
          · go_wp2
            go_roundw
            case rel => exact ⟨_, i + 1, congrArg (Value.int .u64) E.out, by go_num, by omega, Hm2.out, by omega, He.out, trivial⟩
            case measure => simp [intOf]; omega
    · have : i = bs.length := by omega
      subst this
      rw [List.drop_length] at he
      have He := hid he
      clear he h1 h2 h3
      go_wp2
      (try rw [Exit.noGoto_ret]); go_ret3
      exact ⟨by rw [He.out]; rfl, rfl⟩
end Go.Proofs.YthnolocldeokeaaGreatDoor

