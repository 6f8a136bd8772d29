/-
  ParseBinds returns true for every two numbers, and its arguments read behind the call as they read before.
  Its condition: the library's tables and its two errors hold at the call what the program's text lays there.
-/
import Derived.Test.YtcnohgifihbkdaaGreatDoorJBC
import Derived.Test.YtcnohgifihbkdaaGreatDoorTie
import Derived.Test.YtcnohgifihbkdaaGreatDoorCards
import Derived.LaidSub
import Derived.LaidLaws
import Derived.LaidHandle
import Derived.Stop.LaidErr
import Derived.Shelf.Vars
import Derived.Lib.LaidTab
import Derived.Handed
import Derived.HandedShaped
import Derived.ChangeSame
import Derived.ChangeAt
import Derived.ChangeVars
import Derived.JoinedOf
import Derived.RowKit
import Derived.RowKitTokens
import Derived.SevenTiedAt
import Derived.ProofKit
import Derived.OpenShut
import Derived.ChangeOld
import Derived.ChangeMaps5
import GoSem.PinnedTables
namespace Go.Proofs.YtcnohgifihbkdaaGreatDoor
open Go Go.RowKit Go.Deep Go.Shelf
set_option linter.unusedVariables false
set_option linter.unusedSimpArgs false
set_option maxRecDepth 100000
set_option maxHeartbeats 4000000 in
theorem binds_err (w : World) (a b ra rb : Int) (i k : Nat) (hi : i < 17) (hk : k < 17) (ha : a.tmod 17 = ra) (ha2 : IntKind.i64.wrap (ra + 17) = ra + 17) (ha3 : (ra + 17).tmod 17 = (i : Int)) (hb : b.tmod 17 = rb) (hb2 : IntKind.i64.wrap (rb + 17) = rb + 17) (hb3 : (rb + 17).tmod 17 = (k : Int)) (h2 : rkB i = 2 ∧ rkB k = 2) (hE : Lx.EnvT w) (hG : Gl w) : Calls Tryz.prog 5 #[.int .i64 a, .int .i64 b] w fun e w' => e = .returned (.bool true) ∧ Below w.heap.size w w' := by
  have t0 := True.intro
  have H1 := hid hE
  have H2 := hid hG
  have hi' : (i : Int) < 17 := by omega
  have hk' : (k : Int) < 17 := by omega
  have hlS := src_len hi hk
  obtain ⟨_, _, _, hl1⟩ := sgn_is hi
  obtain ⟨_, _, _, hl2⟩ := sgn_is hk
  obtain ⟨e1, e2, e3⟩ := s_len hl1 hl2
  have ad1 : ∀ V : World, (Op.stringOp .add ⟨#[111, 110, 32, 101, 40, 41, 32, 123, 32, 100, 111, 32, 120, 32]⟩ (bs (sgB i))).run Tryz.prog V = .ok (.string (bs (s1B i))) V := fun V => run_cat bdH _ (by have : bdH.length = 14 := rfl; omega) V
  have ad2 : ∀ V : World, (Op.stringOp .add (bs (s1B i)) ⟨#[32, 121, 32]⟩).run Tryz.prog V = .ok (.string (bs (s2B i))) V := fun V => run_cat _ bdY (by have : bdY.length = 3 := rfl; omega) V
  have ad3 : ∀ V : World, (Op.stringOp .add (bs (s2B i)) (bs (sgB k))).run Tryz.prog V = .ok (.string (bs (s3B i k))) V := fun V => run_cat _ _ (by omega) V
  have ad4 : ∀ V : World, (Op.stringOp .add (bs (s3B i k)) ⟨#[32, 122, 59, 32, 125]⟩).run Tryz.prog V = .ok (.string (bs (srcB i k))) V := fun V => run_cat _ bdZ (by have : bdZ.length = 5 := rfl; omega) V
  go_enter Tryz.func5, Tryz.ntmps5
  go_wp2_with ((have hno := t0; (go_at_call 8; (refine (known_any _ hE.mx hG).mono ?_; rintro e w1 ⟨rfl, hb⟩; have hz1 := hid hb.size; have hb1 := hid hb; have t1 := True.intro; clear hb))))
  have hsz : w1.heap.size ≤ w1.heap.size + 1 := by omega
  obtain ⟨W, hW⟩ : ∃ W, W = (w1.alloc (.cells sgV 38)).alloc (.cells rkV 39) := ⟨_, rfl⟩
  have hWz : W.heap.size = w1.heap.size + 1 + 1 := by rw [hW]; simp
  have bW0 : Below w1.heap.size w1 W := by rw [hW]; exact ((Below.refl _ _).alloc (Nat.le_refl _) _).alloc (by simp) _
  have bsg : Box w1.heap.size sgV 38 W := by rw [hW]; exact (Box.new w1 sgV 38).alloc _
  have brk : Box (w1.heap.size + 1) rkV 39 W := by rw [hW]; have q := Box.new (w1.alloc (.cells sgV 38)) rkV 39; rw [World.size_alloc] at q; exact q
  have si := bsg.cell (sgV_at hi).1
  have sk := bsg.cell (sgV_at hk).1
  have ri := brk.cell (sgV_at hi).2
  have rk := brk.cell (sgV_at hk).2
  have bW := hid (hb1.out.trans (bW0.mono hz1.out))
  unfold sgV rkV at hW
  rw [← hW]
  have hEW := hid (H1.out.below bW.out)
  have hGW := hid (gl_below H2.out bW.out)
  clear hW bsg brk bW0 hsz
  generalize w1.heap.size = z at si sk ri rk hWz hz1 ⊢
  have hzi : z < W.heap.size := by omega
  have hzr : z + 1 < W.heap.size := by omega
  have hnz : z ≠ z + 1 + 1 := by omega
  have hnr : z + 1 ≠ z + 1 + 1 := by omega
  rw [h2.1] at ri
  rw [h2.2] at rk
  have ri : W.cell? ⟨z + 1, i, none⟩ = some (.int .i64 2) := ri
  have rk : W.cell? ⟨z + 1, k, none⟩ = some (.int .i64 2) := rk
  have hwz : w.heap.size ≤ z := hz1.out
  have t2 := True.intro
  go_region_held3 (fun V => V.cell? ⟨z, i, none⟩ = some (.string (bs (sgB i))) ∧ V.cell? ⟨z, k, none⟩ = some (.string (bs (sgB k)))) (first | exact ⟨si, sk⟩ | exact ⟨si2, sk2⟩ | exact ⟨si3, sk3⟩ | go_keep) ((first
    | (have hno := t2; (go_at_call 9; (refine (binds_noW ((Below.refl W.heap.size W).drew) hi hk h2 hEW.out hGW.out).mono ?_; rintro e w2 ⟨p, rfl, hb⟩; have si2 := cell_keep hb hzi si; have sk2 := cell_keep hb hzi sk; have ri2 := cell_keep hb hzr ri; have rk2 := cell_keep hb hzr rk; have hlt2 : z + 1 < w2.heap.size := (by have := hb.size; omega); have ri4 := cell_alloc hlt2 ri2; have rk4 := cell_alloc hlt2 rk2; have hb2 := hid hb; have t3 := True.intro; clear hb)))
    | (have hno := t2; (go_at_call 9; (refine (binds_noV hi hk h2 hEW.out hGW.out).mono ?_; rintro e w2 ⟨p, rfl, hb, hB⟩; rw [hWz] at hB; have h0 := hB; have y0 := hB.cell (i := 0) rfl; have x0 := Lx.freeT hB 0; have h1 := set_at4 h0 0 (.slice none 0 0); (simp only [Z4, List.setIfInBounds_toArray, List.set_cons_zero, List.set_cons_succ] at h1); have y1 := Lx.cellT h1 1; have x1 := Lx.freeT h1 1; (simp only [List.getElem?_toArray, List.getElem?_cons_zero, List.getElem?_cons_succ] at y1); have h2 := set_at4 h1 1 (.slice none 0 0); (simp only [Z4, List.setIfInBounds_toArray, List.set_cons_zero, List.set_cons_succ] at h2); have y2 := Lx.cellT h2 2; have x2 := Lx.freeT h2 2; (simp only [List.getElem?_toArray, List.getElem?_cons_zero, List.getElem?_cons_succ] at y2); have h3 := set_at4 h2 2 (.slice none 0 0); (simp only [Z4, List.setIfInBounds_toArray, List.set_cons_zero, List.set_cons_succ] at h3); have y3 := Lx.cellT h3 3; have x3 := Lx.freeT h3 3; (simp only [List.getElem?_toArray, List.getElem?_cons_zero, List.getElem?_cons_succ] at y3); have hB3 := hid h3; clear h0 h1 h2 h3 hB; have si2 := cell_keep hb hzi si; have sk2 := cell_keep hb hzi sk; have ri2 := cell_keep hb hzr ri; have rk2 := cell_keep hb hzr rk; have hlt2 : z + 1 < w2.heap.size := (by have := hb.size; omega); have ri4 := cell_alloc hlt2 ri2; have rk4 := cell_alloc hlt2 rk2; have hb2 := hid hb; have t3 := True.intro; clear hb; have si3 := set4_other (L := z + 1 + 1) (v0 := .slice none 0 0) (v1 := .slice none 0 0) (v2 := .slice none 0 0) (v3 := .slice none 0 0) hnz si2; have sk3 := set4_other (L := z + 1 + 1) (v0 := .slice none 0 0) (v1 := .slice none 0 0) (v2 := .slice none 0 0) (v3 := .slice none 0 0) hnz sk2; have ri3 := set4_other (L := z + 1 + 1) (v0 := .slice none 0 0) (v1 := .slice none 0 0) (v2 := .slice none 0 0) (v3 := .slice none 0 0) hnr ri2; have rk3 := set4_other (L := z + 1 + 1) (v0 := .slice none 0 0) (v1 := .slice none 0 0) (v2 := .slice none 0 0) (v3 := .slice none 0 0) hnr rk2; skip)))))
  · go_wp2
    refine bodyPost_ret (v := .bool true) (by simp [results, Tryz.results5, go_sem]) rfl ⟨rfl, ?_⟩
    exact (bW.out.trans (hb2.out.mono bW.out.size)).alloc (Nat.le_trans bW.out.size hb2.out.size) _
  · go_wp2
    refine bodyPost_ret (v := .bool true) (by simp [results, Tryz.results5, go_sem]) rfl ⟨rfl, ?_⟩
    have hL : ∀ c : Nat, w.heap.size ≤ (⟨z + 1 + 1, c, none⟩ : Addr).block := fun c => by show w.heap.size ≤ z + 1 + 1; omega
    exact ((((bW.out.trans (hb2.out.mono bW.out.size)).setCell (hL 0) _).setCell (hL 1) _).setCell (hL 2) _).setCell (hL 3) _
end Go.Proofs.YtcnohgifihbkdaaGreatDoor

namespace Go.Proofs.YtcnohgifihbkdaaGreatDoor
open Go Go.RowKit Go.Deep Go.Shelf
set_option linter.unusedVariables false
set_option linter.unusedSimpArgs false
set_option maxRecDepth 100000
def c1B (i : Nat) : Bsq := wC1 ++ sgB i
def c2B (i : Nat) : Bsq := c1B i ++ wC2
def c3B (i k : Nat) : Bsq := c2B i ++ sgB k
theorem c_len {i k : Nat} (h1 : (sgB i).length ≤ 3) (h2 : (sgB k).length ≤ 3) : (c1B i).length ≤ 10 ∧ (c2B i).length ≤ 15 ∧ (c3B i k).length ≤ 20 := by
  have e1 : wC1.length = 2 := rfl
  have e2 : wC2.length = 4 := rfl
  unfold c3B c2B c1B
  simp only [List.length_append]
  omega
def a1B (i : Nat) : Bsq := wA1 ++ sgB i
def a2B (i : Nat) : Bsq := a1B i ++ wA2
def a3B (i k : Nat) : Bsq := a2B i ++ sgB k
theorem a_len {i k : Nat} (h1 : (sgB i).length ≤ 3) (h2 : (sgB k).length ≤ 3) : (a1B i).length ≤ 10 ∧ (a2B i).length ≤ 15 ∧ (a3B i k).length ≤ 20 := by
  have e1 : wA1.length = 3 := rfl
  have e2 : wA2.length = 4 := rfl
  unfold a3B a2B a1B
  simp only [List.length_append]
  omega
end Go.Proofs.YtcnohgifihbkdaaGreatDoor

namespace Go.Proofs.YtcnohgifihbkdaaGreatDoor
open Go Go.RowKit Go.Deep Go.Shelf
set_option linter.unusedVariables false
set_option linter.unusedSimpArgs false
set_option maxRecDepth 100000
set_option maxHeartbeats 4000000 in
theorem binds_lt (w : World) (a b ra rb : Int) (i k : Nat) (hi : i < 17) (hk : k < 17) (ha : a.tmod 17 = ra) (ha2 : IntKind.i64.wrap (ra + 17) = ra + 17) (ha3 : (ra + 17).tmod 17 = (i : Int)) (hb : b.tmod 17 = rb) (hb2 : IntKind.i64.wrap (rb + 17) = rb + 17) (hb3 : (rb + 17).tmod 17 = (k : Int)) (h2 : ¬ (rkB i = 2 ∧ rkB k = 2)) (hlt : rkB i < rkB k) (hE : Lx.EnvT w) (hG : Gl w) : Calls Tryz.prog 5 #[.int .i64 a, .int .i64 b] w fun e w' => e = .returned (.bool true) ∧ Below w.heap.size w w' := by
  have t0 := True.intro
  have H1 := hid hE
  have H2 := hid hG
  have hi' : (i : Int) < 17 := by omega
  have hk' : (k : Int) < 17 := by omega
  have hlS := src_len hi hk
  obtain ⟨_, _, _, hl1⟩ := sgn_is hi
  obtain ⟨_, _, _, hl2⟩ := sgn_is hk
  obtain ⟨e1, e2, e3⟩ := s_len hl1 hl2
  have ad1 : ∀ V : World, (Op.stringOp .add ⟨#[111, 110, 32, 101, 40, 41, 32, 123, 32, 100, 111, 32, 120, 32]⟩ (bs (sgB i))).run Tryz.prog V = .ok (.string (bs (s1B i))) V := fun V => run_cat bdH _ (by have : bdH.length = 14 := rfl; omega) V
  have ad2 : ∀ V : World, (Op.stringOp .add (bs (s1B i)) ⟨#[32, 121, 32]⟩).run Tryz.prog V = .ok (.string (bs (s2B i))) V := fun V => run_cat _ bdY (by have : bdY.length = 3 := rfl; omega) V
  have ad3 : ∀ V : World, (Op.stringOp .add (bs (s2B i)) (bs (sgB k))).run Tryz.prog V = .ok (.string (bs (s3B i k))) V := fun V => run_cat _ _ (by omega) V
  have ad4 : ∀ V : World, (Op.stringOp .add (bs (s3B i k)) ⟨#[32, 122, 59, 32, 125]⟩).run Tryz.prog V = .ok (.string (bs (srcB i k))) V := fun V => run_cat _ bdZ (by have : bdZ.length = 5 := rfl; omega) V
  obtain ⟨c1, c2, c3⟩ := c_len hl1 hl2
  obtain ⟨a1', a2', a3'⟩ := a_len hl1 hl2
  have c1 : ∀ V : World, (Op.stringOp .add ⟨#[120, 32]⟩ (bs (sgB i))).run Tryz.prog V = .ok (.string (bs (c1B i))) V := fun V => run_cat wC1 _ (by have : wC1.length = 2 := rfl; omega) V
  have c2 : ∀ V : World, (Op.stringOp .add (bs (c1B i)) ⟨#[32, 40, 121, 32]⟩).run Tryz.prog V = .ok (.string (bs (c2B i))) V := fun V => run_cat _ wC2 (by have : wC2.length = 4 := rfl; omega) V
  have c3 : ∀ V : World, (Op.stringOp .add (bs (c2B i)) (bs (sgB k))).run Tryz.prog V = .ok (.string (bs (c3B i k))) V := fun V => run_cat _ _ (by omega) V
  have c4 : ∀ V : World, (Op.stringOp .add (bs (c3B i k)) ⟨#[32, 122, 41]⟩).run Tryz.prog V = .ok (.string (bs (wC i k))) V := fun V => run_cat _ wC3 (by have : wC3.length = 3 := rfl; omega) V
  have a1 : ∀ V : World, (Op.stringOp .add ⟨#[40, 120, 32]⟩ (bs (sgB i))).run Tryz.prog V = .ok (.string (bs (a1B i))) V := fun V => run_cat wA1 _ (by have : wA1.length = 3 := rfl; omega) V
  have a2 : ∀ V : World, (Op.stringOp .add (bs (a1B i)) ⟨#[32, 121, 41, 32]⟩).run Tryz.prog V = .ok (.string (bs (a2B i))) V := fun V => run_cat _ wA2 (by have : wA2.length = 4 := rfl; omega) V
  have a3 : ∀ V : World, (Op.stringOp .add (bs (a2B i)) (bs (sgB k))).run Tryz.prog V = .ok (.string (bs (a3B i k))) V := fun V => run_cat _ _ (by omega) V
  have a4 : ∀ V : World, (Op.stringOp .add (bs (a3B i k)) ⟨#[32, 122]⟩).run Tryz.prog V = .ok (.string (bs (wA i k))) V := fun V => run_cat _ wA3 (by have : wA3.length = 2 := rfl; omega) V
  have hwt : wantB i k = wC i k := by unfold wantB; rw [if_pos hlt]
  go_enter Tryz.func5, Tryz.ntmps5
  go_wp2_with ((have hno := t0; (go_at_call 8; (refine (known_any _ hE.mx hG).mono ?_; rintro e w1 ⟨rfl, hb⟩; have hz1 := hid hb.size; have hb1 := hid hb; have t1 := True.intro; clear hb))))
  have hsz : w1.heap.size ≤ w1.heap.size + 1 := by omega
  obtain ⟨W, hW⟩ : ∃ W, W = (w1.alloc (.cells sgV 38)).alloc (.cells rkV 39) := ⟨_, rfl⟩
  have hWz : W.heap.size = w1.heap.size + 1 + 1 := by rw [hW]; simp
  have bW0 : Below w1.heap.size w1 W := by rw [hW]; exact ((Below.refl _ _).alloc (Nat.le_refl _) _).alloc (by simp) _
  have bsg : Box w1.heap.size sgV 38 W := by rw [hW]; exact (Box.new w1 sgV 38).alloc _
  have brk : Box (w1.heap.size + 1) rkV 39 W := by rw [hW]; have q := Box.new (w1.alloc (.cells sgV 38)) rkV 39; rw [World.size_alloc] at q; exact q
  have si := bsg.cell (sgV_at hi).1
  have sk := bsg.cell (sgV_at hk).1
  have ri := brk.cell (sgV_at hi).2
  have rk := brk.cell (sgV_at hk).2
  have bW := hid (hb1.out.trans (bW0.mono hz1.out))
  unfold sgV rkV at hW
  rw [← hW]
  have hEW := hid (H1.out.below bW.out)
  have hGW := hid (gl_below H2.out bW.out)
  clear hW bsg brk bW0 hsz
  generalize w1.heap.size = z at si sk ri rk hWz hz1 ⊢
  have hzi : z < W.heap.size := by omega
  have hzr : z + 1 < W.heap.size := by omega
  have hnz : z ≠ z + 1 + 1 := by omega
  have hnr : z + 1 ≠ z + 1 + 1 := by omega
  obtain ⟨ρ, hρ⟩ : ∃ ρ : Int, ρ = (rkB i : Int) := ⟨_, rfl⟩
  obtain ⟨σ, hσ⟩ : ∃ σ : Int, σ = (rkB k : Int) := ⟨_, rfl⟩
  rw [← hρ] at ri
  rw [← hσ] at rk
  have hns : ρ = 2 → ¬ σ = 2 := by omega
  have hrs : ρ < σ := by omega
  have hwz : w.heap.size ≤ z := hz1.out
  have hyi : z < (W.drew.alloc (.cells Z4 25)).heap.size := by rw [World.size_alloc]; show z < W.heap.size + 1; omega
  have hyr : z + 1 < (W.drew.alloc (.cells Z4 25)).heap.size := by rw [World.size_alloc]; show z + 1 < W.heap.size + 1; omega
  clear hρ hσ
  have t2 := True.intro
  obtain ⟨ta, hta⟩ : ∃ v, v = Value.agg sgV := ⟨_, rfl⟩
  obtain ⟨tb, htb⟩ : ∃ v, v = Value.agg rkV := ⟨_, rfl⟩
  unfold sgV at hta
  unfold rkV at htb
  rw [← hta, ← htb]
  clear hta htb
  go_region_held3 (fun V => V.cell? ⟨z, i, none⟩ = some (.string (bs (sgB i))) ∧ V.cell? ⟨z, k, none⟩ = some (.string (bs (sgB k)))) (first | exact ⟨si, sk⟩ | exact ⟨si2, sk2⟩ | exact ⟨si3, sk3⟩ | go_keep) ((first
    | (have hno := t2; (go_at_call 9; (refine (binds_yesW ((Below.refl W.heap.size W).drew) hi hk h2 hEW.out hGW.out).mono ?_; rintro e w2 ⟨a0, a1, a2, n0, n1, n2, k0, k1, k2, g, off, cap, g2, off2, cap2, av, x, rfl, hcap, hg, h5, hcap2, hg2, h4, hX, hx, hb⟩; have si2 := cell_keep hb hzi si; have sk2 := cell_keep hb hzi sk; have ri2 := cell_keep hb hzr ri; have rk2 := cell_keep hb hzr rk; have hb2 := hid hb; have HX := hid hX; have HG1 := hid hg; have HG2 := hid hg2; have H5 := hid h5; have H4 := hid h4; have HXX := hid hx; have t3 := True.intro; clear hb hX hg hg2 h5 h4 hx)))
    | (have hno := t2; (go_at_call 9; (refine (binds_yesW (V := W.drew.alloc (.cells Z4 25)) (((Below.refl W.heap.size W).drew).alloc (Nat.le_refl _) _) hi hk h2 hEW.out hGW.out).mono ?_; rintro e w2 ⟨a0, a1, a2, n0, n1, n2, k0, k1, k2, g, off, cap, g2, off2, cap2, av, x, rfl, hcap, hg, h5, hcap2, hg2, h4, hX, hx, hb⟩; have hB := (Box.new W.drew Z4 25).below hb; have hB : Box W.heap.size Z4 25 w2 := hB; rw [hWz] at hB; have h0 := hB; have y0 := hB.cell (i := 0) rfl; have x0 := Lx.freeT hB 0; have h1 := set_at4 h0 0 (.slice a0 n0 k0); (simp only [Z4, List.setIfInBounds_toArray, List.set_cons_zero, List.set_cons_succ] at h1); have y1 := Lx.cellT h1 1; have x1 := Lx.freeT h1 1; (simp only [List.getElem?_toArray, List.getElem?_cons_zero, List.getElem?_cons_succ] at y1); have h2 := set_at4 h1 1 (.slice a1 n1 k1); (simp only [Z4, List.setIfInBounds_toArray, List.set_cons_zero, List.set_cons_succ] at h2); have y2 := Lx.cellT h2 2; have x2 := Lx.freeT h2 2; (simp only [List.getElem?_toArray, List.getElem?_cons_zero, List.getElem?_cons_succ] at y2); have h3 := set_at4 h2 2 (.slice a2 n2 k2); (simp only [Z4, List.setIfInBounds_toArray, List.set_cons_zero, List.set_cons_succ] at h3); have y3 := Lx.cellT h3 3; have x3 := Lx.freeT h3 3; (simp only [List.getElem?_toArray, List.getElem?_cons_zero, List.getElem?_cons_succ] at y3); have hB3 := hid h3; clear h0 h1 h2 h3 hB; have si2 := cell_keep hb hyi (cell_alloc (w := W.drew) hzi si _); have sk2 := cell_keep hb hyi (cell_alloc (w := W.drew) hzi sk _); have ri2 := cell_keep hb hyr (cell_alloc (w := W.drew) hzr ri _); have rk2 := cell_keep hb hyr (cell_alloc (w := W.drew) hzr rk _); have si3 := set4_other (L := z + 1 + 1) (v0 := .slice a0 n0 k0) (v1 := .slice a1 n1 k1) (v2 := .slice a2 n2 k2) (v3 := .slice (some ⟨g, off, none⟩) 1 cap) hnz si2; have sk3 := set4_other (L := z + 1 + 1) (v0 := .slice a0 n0 k0) (v1 := .slice a1 n1 k1) (v2 := .slice a2 n2 k2) (v3 := .slice (some ⟨g, off, none⟩) 1 cap) hnz sk2; have ri3 := set4_other (L := z + 1 + 1) (v0 := .slice a0 n0 k0) (v1 := .slice a1 n1 k1) (v2 := .slice a2 n2 k2) (v3 := .slice (some ⟨g, off, none⟩) 1 cap) hnr ri2; have rk3 := set4_other (L := z + 1 + 1) (v0 := .slice a0 n0 k0) (v1 := .slice a1 n1 k1) (v2 := .slice a2 n2 k2) (v3 := .slice (some ⟨g, off, none⟩) 1 cap) hnr rk2; have hb2 := hid hb; have HX := hid hX; have HG1 := hid hg; have HG2 := hid hg2; have H5 := hid h5; have H4 := hid h4; have HXX := hid hx; have t3 := True.intro; clear hb hX hg hg2 h5 h4 hx)))))
  all_goals first
    | (
        obtain ⟨X, hXX⟩ : ∃ X, X = w2.alloc (.cells #[.slice a0 n0 k0, .slice a1 n1 k1, .slice a2 n2 k2, .slice (some ⟨g, off, none⟩) 1 cap] 25) := ⟨_, rfl⟩
        obtain ⟨L, hL⟩ : ∃ L, L = w2.heap.size := ⟨_, rfl⟩
        have k3 : X.cell? ⟨L, 3, none⟩ = some (.slice (some ⟨g, off, none⟩) 1 cap) := by rw [hXX, hL]; exact (Box.new w2 #[.slice a0 n0 k0, .slice a1 n1 k1, .slice a2 n2 k2, .slice (some ⟨g, off, none⟩) 1 cap] 25).cell rfl
        have k5 := cell_alloc HG1.out.2 H5.out (.cells #[.slice a0 n0 k0, .slice a1 n1 k1, .slice a2 n2 k2, .slice (some ⟨g, off, none⟩) 1 cap] 25)
        have k4 := cell_alloc HG2.out.2 H4.out (.cells #[.slice a0 n0 k0, .slice a1 n1 k1, .slice a2 n2 k2, .slice (some ⟨g, off, none⟩) 1 cap] 25)
        have y1 := cell_alloc (by have := hb2.out.size; exact Nat.lt_of_lt_of_le hzi this) si2 (.cells #[.slice a0 n0 k0, .slice a1 n1 k1, .slice a2 n2 k2, .slice (some ⟨g, off, none⟩) 1 cap] 25)
        have y2 := cell_alloc (by have := hb2.out.size; exact Nat.lt_of_lt_of_le hzi this) sk2 (.cells #[.slice a0 n0 k0, .slice a1 n1 k1, .slice a2 n2 k2, .slice (some ⟨g, off, none⟩) 1 cap] 25)
        have y3 := cell_alloc (by have := hb2.out.size; exact Nat.lt_of_lt_of_le hzr this) ri2 (.cells #[.slice a0 n0 k0, .slice a1 n1 k1, .slice a2 n2 k2, .slice (some ⟨g, off, none⟩) 1 cap] 25)
        have y4 := cell_alloc (by have := hb2.out.size; exact Nat.lt_of_lt_of_le hzr this) rk2 (.cells #[.slice a0 n0 k0, .slice a1 n1 k1, .slice a2 n2 k2, .slice (some ⟨g, off, none⟩) 1 cap] 25)
        have bX : Below W.heap.size W X := by rw [hXX]; exact (((Below.refl W.heap.size W).drew).trans hb2.out).alloc hb2.out.size _
        have HXR := hid (HX.out.mv (Same.alloc (o := .cells #[.slice a0 n0 k0, .slice a1 n1 k1, .slice a2 n2 k2, .slice (some ⟨g, off, none⟩) 1 cap] 25) (Same.refl _ _) fun g h => h.2) fun g h => h)
        rw [← hXX] at k5 k4 y1 y2 y3 y4 HXR ⊢
        rw [← hL]
        have hEX := hid (hEW.out.below bX)
        obtain ⟨g3, off3, cap3, kd, op, it, tx, nm, na, aa, nn, nc, an, ac, ps, rfl, hc3, e0, e1, e2, e3, e4, e5, e6, e7, HC⟩ := binds_expr hi hk HXR.out HXX.out hEX.out
        have bXw := hid (bW.out.trans (bX.mono bW.out.size))
        have hzX : z < X.heap.size := Nat.lt_of_lt_of_le hzi bX.size
        have hzX1 : z + 1 < X.heap.size := Nat.lt_of_lt_of_le hzr bX.size
        have HC := hid HC
        have t4 := True.intro
        clear hXX hL si2 sk2 ri2 rk2 HX HG1 HG2 H5 H4 HXX HXR hb2 bX hEX si sk ri rk hWz hzi hzr hnz hnr t3
      )
    | (
        obtain ⟨X, hXX⟩ : ∃ X, X = ((((w2.setCell ⟨z + 1 + 1, 0, none⟩ (.slice a0 n0 k0)).setCell ⟨z + 1 + 1, 1, none⟩ (.slice a1 n1 k1)).setCell ⟨z + 1 + 1, 2, none⟩ (.slice a2 n2 k2)).setCell ⟨z + 1 + 1, 3, none⟩ (.slice (some ⟨g, off, none⟩) 1 cap)) := ⟨_, rfl⟩
        obtain ⟨L, hL⟩ : ∃ L, L = z + 1 + 1 := ⟨_, rfl⟩
        have hVz : (W.drew.alloc (.cells Z4 25)).heap.size = z + 1 + 1 + 1 := by rw [World.size_alloc]; show W.heap.size + 1 = _; omega
        have k3 : X.cell? ⟨L, 3, none⟩ = some (.slice (some ⟨g, off, none⟩) 1 cap) := by
          have h4 := set_at4 hB3.out 3 (.slice (some ⟨g, off, none⟩) 1 cap)
          rw [hXX, hL]
          exact (Lx.cellT h4 3).trans rfl
        have k5 := set4_other (L := z + 1 + 1) (v0 := .slice a0 n0 k0) (v1 := .slice a1 n1 k1) (v2 := .slice a2 n2 k2) (v3 := .slice (some ⟨g, off, none⟩) 1 cap) (show g ≠ z + 1 + 1 by have := HG1.out.1; omega) H5.out
        have k4 := set4_other (L := z + 1 + 1) (v0 := .slice a0 n0 k0) (v1 := .slice a1 n1 k1) (v2 := .slice a2 n2 k2) (v3 := .slice (some ⟨g, off, none⟩) 1 cap) (show g2 ≠ z + 1 + 1 by have := HG2.out.1; omega) H4.out
        have y1 := si3
        have y2 := sk3
        have y3 := ri3
        have y4 := rk3
        have hLb : ∀ c : Nat, W.heap.size ≤ (⟨z + 1 + 1, c, none⟩ : Addr).block := fun c => by show W.heap.size ≤ z + 1 + 1; omega
        have bV : Below W.heap.size W (W.drew.alloc (.cells Z4 25)) := ((Below.refl W.heap.size W).drew).alloc (Nat.le_refl _) _
        have bX : Below W.heap.size W X := by rw [hXX]; exact ((((bV.trans (hb2.out.mono bV.size)).setCell (hLb 0) _).setCell (hLb 1) _).setCell (hLb 2) _).setCell (hLb 3) _
        have hnA : ¬ ((W.drew.alloc (.cells Z4 25)).heap.size ≤ z + 1 + 1 ∧ z + 1 + 1 < w2.heap.size) := by omega
        have HXR := hid (HX.out.mv (B := fun g => (W.drew.alloc (.cells Z4 25)).heap.size ≤ g ∧ g < w2.heap.size) (Same.set (b := z + 1 + 1) (i := 3) (v := .slice (some ⟨g, off, none⟩) 1 cap) (Same.set (b := z + 1 + 1) (i := 2) (v := .slice a2 n2 k2) (Same.set (b := z + 1 + 1) (i := 1) (v := .slice a1 n1 k1) (Same.set (b := z + 1 + 1) (i := 0) (v := .slice a0 n0 k0) (Same.refl _ _) hnA) hnA) hnA) hnA) (fun g h => h))
        rw [← hXX] at k5 k4 y1 y2 y3 y4 HXR ⊢
        rw [← hL]
        have hEX := hid (hEW.out.below bX)
        obtain ⟨g3, off3, cap3, kd, op, it, tx, nm, na, aa, nn, nc, an, ac, ps, rfl, hc3, e0, e1, e2, e3, e4, e5, e6, e7, HC⟩ := binds_expr hi hk HXR.out HXX.out hEX.out
        have bXw := hid (bW.out.trans (bX.mono bW.out.size))
        have hzX : z < X.heap.size := Nat.lt_of_lt_of_le hzi bX.size
        have hzX1 : z + 1 < X.heap.size := Nat.lt_of_lt_of_le hzr bX.size
        have HC := hid HC
        have t4 := True.intro
        clear hXX hL si2 sk2 ri2 rk2 si3 sk3 ri3 rk3 HX HG1 HG2 H5 H4 HXX HXR hb2 bX hEX si sk ri rk hWz hzi hzr hnz hnr t3 hVz hLb bV hnA hB3 hyi hyr
      )
  all_goals
    rw [hwt] at HC
    by_cases q2 : ρ = 2
    all_goals
      try have q3 := hns q2
      go_wp2_with ((have hno := t4; (go_at_call 13; (refine HC.out.mono ?_; rintro e w5 ⟨rfl, hb⟩; have si5 := cell_keep hb hzX y1; have sk5 := cell_keep hb hzX y2; have ri5 := cell_keep hb hzX1 y3; have rk5 := cell_keep hb hzX1 y4; have hb5 := hid hb; have t5 := True.intro; clear hb))))
      go_region_held3 (fun V => V.cell? ⟨z, i, none⟩ = some (.string (bs (sgB i))) ∧ V.cell? ⟨z, k, none⟩ = some (.string (bs (sgB k)))) (first | exact ⟨si5, sk5⟩ | go_keep) (fail)
      go_wp2
      go_region_held3 (fun V => V.cell? ⟨z + 1, i, none⟩ = some (.int .i64 ρ) ∧ V.cell? ⟨z + 1, k, none⟩ = some (.int .i64 σ)) (first | exact ⟨ri5, rk5⟩ | go_keep) (fail)
      go_wp2
      go_region_held3 (fun V => V.cell? ⟨z, i, none⟩ = some (.string (bs (sgB i))) ∧ V.cell? ⟨z, k, none⟩ = some (.string (bs (sgB k)))) (first | exact ⟨si5, sk5⟩ | go_keep) (fail)
      go_wp2
      refine bodyPost_ret (v := .bool true) (by simp [results, Tryz.results5, go_sem]) rfl ⟨rfl, ?_⟩
      exact ((bXw.out.trans (hb5.out.mono bXw.out.size))).drew.drew.drew
end Go.Proofs.YtcnohgifihbkdaaGreatDoor

namespace Go.Proofs.YtcnohgifihbkdaaGreatDoor
open Go Go.RowKit Go.Deep Go.Shelf
set_option linter.unusedVariables false
set_option linter.unusedSimpArgs false
set_option maxRecDepth 100000
set_option maxHeartbeats 4000000 in
theorem binds_ge (w : World) (a b ra rb : Int) (i k : Nat) (hi : i < 17) (hk : k < 17) (ha : a.tmod 17 = ra) (ha2 : IntKind.i64.wrap (ra + 17) = ra + 17) (ha3 : (ra + 17).tmod 17 = (i : Int)) (hb : b.tmod 17 = rb) (hb2 : IntKind.i64.wrap (rb + 17) = rb + 17) (hb3 : (rb + 17).tmod 17 = (k : Int)) (h2 : ¬ (rkB i = 2 ∧ rkB k = 2)) (hlt : ¬ rkB i < rkB k) (hE : Lx.EnvT w) (hG : Gl w) : Calls Tryz.prog 5 #[.int .i64 a, .int .i64 b] w fun e w' => e = .returned (.bool true) ∧ Below w.heap.size w w' := by
  have t0 := True.intro
  have H1 := hid hE
  have H2 := hid hG
  have hi' : (i : Int) < 17 := by omega
  have hk' : (k : Int) < 17 := by omega
  have hlS := src_len hi hk
  obtain ⟨_, _, _, hl1⟩ := sgn_is hi
  obtain ⟨_, _, _, hl2⟩ := sgn_is hk
  obtain ⟨e1, e2, e3⟩ := s_len hl1 hl2
  have ad1 : ∀ V : World, (Op.stringOp .add ⟨#[111, 110, 32, 101, 40, 41, 32, 123, 32, 100, 111, 32, 120, 32]⟩ (bs (sgB i))).run Tryz.prog V = .ok (.string (bs (s1B i))) V := fun V => run_cat bdH _ (by have : bdH.length = 14 := rfl; omega) V
  have ad2 : ∀ V : World, (Op.stringOp .add (bs (s1B i)) ⟨#[32, 121, 32]⟩).run Tryz.prog V = .ok (.string (bs (s2B i))) V := fun V => run_cat _ bdY (by have : bdY.length = 3 := rfl; omega) V
  have ad3 : ∀ V : World, (Op.stringOp .add (bs (s2B i)) (bs (sgB k))).run Tryz.prog V = .ok (.string (bs (s3B i k))) V := fun V => run_cat _ _ (by omega) V
  have ad4 : ∀ V : World, (Op.stringOp .add (bs (s3B i k)) ⟨#[32, 122, 59, 32, 125]⟩).run Tryz.prog V = .ok (.string (bs (srcB i k))) V := fun V => run_cat _ bdZ (by have : bdZ.length = 5 := rfl; omega) V
  obtain ⟨c1, c2, c3⟩ := c_len hl1 hl2
  obtain ⟨a1', a2', a3'⟩ := a_len hl1 hl2
  have a1 : ∀ V : World, (Op.stringOp .add ⟨#[40, 120, 32]⟩ (bs (sgB i))).run Tryz.prog V = .ok (.string (bs (a1B i))) V := fun V => run_cat wA1 _ (by have : wA1.length = 3 := rfl; omega) V
  have a2 : ∀ V : World, (Op.stringOp .add (bs (a1B i)) ⟨#[32, 121, 41, 32]⟩).run Tryz.prog V = .ok (.string (bs (a2B i))) V := fun V => run_cat _ wA2 (by have : wA2.length = 4 := rfl; omega) V
  have a3 : ∀ V : World, (Op.stringOp .add (bs (a2B i)) (bs (sgB k))).run Tryz.prog V = .ok (.string (bs (a3B i k))) V := fun V => run_cat _ _ (by omega) V
  have a4 : ∀ V : World, (Op.stringOp .add (bs (a3B i k)) ⟨#[32, 122]⟩).run Tryz.prog V = .ok (.string (bs (wA i k))) V := fun V => run_cat _ wA3 (by have : wA3.length = 2 := rfl; omega) V
  have hwt : wantB i k = wA i k := by unfold wantB; rw [if_neg hlt]
  go_enter Tryz.func5, Tryz.ntmps5
  go_wp2_with ((have hno := t0; (go_at_call 8; (refine (known_any _ hE.mx hG).mono ?_; rintro e w1 ⟨rfl, hb⟩; have hz1 := hid hb.size; have hb1 := hid hb; have t1 := True.intro; clear hb))))
  have hsz : w1.heap.size ≤ w1.heap.size + 1 := by omega
  obtain ⟨W, hW⟩ : ∃ W, W = (w1.alloc (.cells sgV 38)).alloc (.cells rkV 39) := ⟨_, rfl⟩
  have hWz : W.heap.size = w1.heap.size + 1 + 1 := by rw [hW]; simp
  have bW0 : Below w1.heap.size w1 W := by rw [hW]; exact ((Below.refl _ _).alloc (Nat.le_refl _) _).alloc (by simp) _
  have bsg : Box w1.heap.size sgV 38 W := by rw [hW]; exact (Box.new w1 sgV 38).alloc _
  have brk : Box (w1.heap.size + 1) rkV 39 W := by rw [hW]; have q := Box.new (w1.alloc (.cells sgV 38)) rkV 39; rw [World.size_alloc] at q; exact q
  have si := bsg.cell (sgV_at hi).1
  have sk := bsg.cell (sgV_at hk).1
  have ri := brk.cell (sgV_at hi).2
  have rk := brk.cell (sgV_at hk).2
  have bW := hid (hb1.out.trans (bW0.mono hz1.out))
  unfold sgV rkV at hW
  rw [← hW]
  have hEW := hid (H1.out.below bW.out)
  have hGW := hid (gl_below H2.out bW.out)
  clear hW bsg brk bW0 hsz
  generalize w1.heap.size = z at si sk ri rk hWz hz1 ⊢
  have hzi : z < W.heap.size := by omega
  have hzr : z + 1 < W.heap.size := by omega
  have hnz : z ≠ z + 1 + 1 := by omega
  have hnr : z + 1 ≠ z + 1 + 1 := by omega
  obtain ⟨ρ, hρ⟩ : ∃ ρ : Int, ρ = (rkB i : Int) := ⟨_, rfl⟩
  obtain ⟨σ, hσ⟩ : ∃ σ : Int, σ = (rkB k : Int) := ⟨_, rfl⟩
  rw [← hρ] at ri
  rw [← hσ] at rk
  have hns : ρ = 2 → ¬ σ = 2 := by omega
  have hrs : ¬ (ρ < σ) := by omega
  have hwz : w.heap.size ≤ z := hz1.out
  have hyi : z < (W.drew.alloc (.cells Z4 25)).heap.size := by rw [World.size_alloc]; show z < W.heap.size + 1; omega
  have hyr : z + 1 < (W.drew.alloc (.cells Z4 25)).heap.size := by rw [World.size_alloc]; show z + 1 < W.heap.size + 1; omega
  clear hρ hσ
  have t2 := True.intro
  obtain ⟨ta, hta⟩ : ∃ v, v = Value.agg sgV := ⟨_, rfl⟩
  obtain ⟨tb, htb⟩ : ∃ v, v = Value.agg rkV := ⟨_, rfl⟩
  unfold sgV at hta
  unfold rkV at htb
  rw [← hta, ← htb]
  clear hta htb
  go_region_held3 (fun V => V.cell? ⟨z, i, none⟩ = some (.string (bs (sgB i))) ∧ V.cell? ⟨z, k, none⟩ = some (.string (bs (sgB k)))) (first | exact ⟨si, sk⟩ | exact ⟨si2, sk2⟩ | exact ⟨si3, sk3⟩ | go_keep) ((first
    | (have hno := t2; (go_at_call 9; (refine (binds_yesW ((Below.refl W.heap.size W).drew) hi hk h2 hEW.out hGW.out).mono ?_; rintro e w2 ⟨a0, a1, a2, n0, n1, n2, k0, k1, k2, g, off, cap, g2, off2, cap2, av, x, rfl, hcap, hg, h5, hcap2, hg2, h4, hX, hx, hb⟩; have si2 := cell_keep hb hzi si; have sk2 := cell_keep hb hzi sk; have ri2 := cell_keep hb hzr ri; have rk2 := cell_keep hb hzr rk; have hb2 := hid hb; have HX := hid hX; have HG1 := hid hg; have HG2 := hid hg2; have H5 := hid h5; have H4 := hid h4; have HXX := hid hx; have t3 := True.intro; clear hb hX hg hg2 h5 h4 hx)))
    | (have hno := t2; (go_at_call 9; (refine (binds_yesW (V := W.drew.alloc (.cells Z4 25)) (((Below.refl W.heap.size W).drew).alloc (Nat.le_refl _) _) hi hk h2 hEW.out hGW.out).mono ?_; rintro e w2 ⟨a0, a1, a2, n0, n1, n2, k0, k1, k2, g, off, cap, g2, off2, cap2, av, x, rfl, hcap, hg, h5, hcap2, hg2, h4, hX, hx, hb⟩; have hB := (Box.new W.drew Z4 25).below hb; have hB : Box W.heap.size Z4 25 w2 := hB; rw [hWz] at hB; have h0 := hB; have y0 := hB.cell (i := 0) rfl; have x0 := Lx.freeT hB 0; have h1 := set_at4 h0 0 (.slice a0 n0 k0); (simp only [Z4, List.setIfInBounds_toArray, List.set_cons_zero, List.set_cons_succ] at h1); have y1 := Lx.cellT h1 1; have x1 := Lx.freeT h1 1; (simp only [List.getElem?_toArray, List.getElem?_cons_zero, List.getElem?_cons_succ] at y1); have h2 := set_at4 h1 1 (.slice a1 n1 k1); (simp only [Z4, List.setIfInBounds_toArray, List.set_cons_zero, List.set_cons_succ] at h2); have y2 := Lx.cellT h2 2; have x2 := Lx.freeT h2 2; (simp only [List.getElem?_toArray, List.getElem?_cons_zero, List.getElem?_cons_succ] at y2); have h3 := set_at4 h2 2 (.slice a2 n2 k2); (simp only [Z4, List.setIfInBounds_toArray, List.set_cons_zero, List.set_cons_succ] at h3); have y3 := Lx.cellT h3 3; have x3 := Lx.freeT h3 3; (simp only [List.getElem?_toArray, List.getElem?_cons_zero, List.getElem?_cons_succ] at y3); have hB3 := hid h3; clear h0 h1 h2 h3 hB; have si2 := cell_keep hb hyi (cell_alloc (w := W.drew) hzi si _); have sk2 := cell_keep hb hyi (cell_alloc (w := W.drew) hzi sk _); have ri2 := cell_keep hb hyr (cell_alloc (w := W.drew) hzr ri _); have rk2 := cell_keep hb hyr (cell_alloc (w := W.drew) hzr rk _); have si3 := set4_other (L := z + 1 + 1) (v0 := .slice a0 n0 k0) (v1 := .slice a1 n1 k1) (v2 := .slice a2 n2 k2) (v3 := .slice (some ⟨g, off, none⟩) 1 cap) hnz si2; have sk3 := set4_other (L := z + 1 + 1) (v0 := .slice a0 n0 k0) (v1 := .slice a1 n1 k1) (v2 := .slice a2 n2 k2) (v3 := .slice (some ⟨g, off, none⟩) 1 cap) hnz sk2; have ri3 := set4_other (L := z + 1 + 1) (v0 := .slice a0 n0 k0) (v1 := .slice a1 n1 k1) (v2 := .slice a2 n2 k2) (v3 := .slice (some ⟨g, off, none⟩) 1 cap) hnr ri2; have rk3 := set4_other (L := z + 1 + 1) (v0 := .slice a0 n0 k0) (v1 := .slice a1 n1 k1) (v2 := .slice a2 n2 k2) (v3 := .slice (some ⟨g, off, none⟩) 1 cap) hnr rk2; have hb2 := hid hb; have HX := hid hX; have HG1 := hid hg; have HG2 := hid hg2; have H5 := hid h5; have H4 := hid h4; have HXX := hid hx; have t3 := True.intro; clear hb hX hg hg2 h5 h4 hx)))))
  all_goals first
    | (
        obtain ⟨X, hXX⟩ : ∃ X, X = w2.alloc (.cells #[.slice a0 n0 k0, .slice a1 n1 k1, .slice a2 n2 k2, .slice (some ⟨g, off, none⟩) 1 cap] 25) := ⟨_, rfl⟩
        obtain ⟨L, hL⟩ : ∃ L, L = w2.heap.size := ⟨_, rfl⟩
        have k3 : X.cell? ⟨L, 3, none⟩ = some (.slice (some ⟨g, off, none⟩) 1 cap) := by rw [hXX, hL]; exact (Box.new w2 #[.slice a0 n0 k0, .slice a1 n1 k1, .slice a2 n2 k2, .slice (some ⟨g, off, none⟩) 1 cap] 25).cell rfl
        have k5 := cell_alloc HG1.out.2 H5.out (.cells #[.slice a0 n0 k0, .slice a1 n1 k1, .slice a2 n2 k2, .slice (some ⟨g, off, none⟩) 1 cap] 25)
        have k4 := cell_alloc HG2.out.2 H4.out (.cells #[.slice a0 n0 k0, .slice a1 n1 k1, .slice a2 n2 k2, .slice (some ⟨g, off, none⟩) 1 cap] 25)
        have y1 := cell_alloc (by have := hb2.out.size; exact Nat.lt_of_lt_of_le hzi this) si2 (.cells #[.slice a0 n0 k0, .slice a1 n1 k1, .slice a2 n2 k2, .slice (some ⟨g, off, none⟩) 1 cap] 25)
        have y2 := cell_alloc (by have := hb2.out.size; exact Nat.lt_of_lt_of_le hzi this) sk2 (.cells #[.slice a0 n0 k0, .slice a1 n1 k1, .slice a2 n2 k2, .slice (some ⟨g, off, none⟩) 1 cap] 25)
        have y3 := cell_alloc (by have := hb2.out.size; exact Nat.lt_of_lt_of_le hzr this) ri2 (.cells #[.slice a0 n0 k0, .slice a1 n1 k1, .slice a2 n2 k2, .slice (some ⟨g, off, none⟩) 1 cap] 25)
        have y4 := cell_alloc (by have := hb2.out.size; exact Nat.lt_of_lt_of_le hzr this) rk2 (.cells #[.slice a0 n0 k0, .slice a1 n1 k1, .slice a2 n2 k2, .slice (some ⟨g, off, none⟩) 1 cap] 25)
        have bX : Below W.heap.size W X := by rw [hXX]; exact (((Below.refl W.heap.size W).drew).trans hb2.out).alloc hb2.out.size _
        have HXR := hid (HX.out.mv (Same.alloc (o := .cells #[.slice a0 n0 k0, .slice a1 n1 k1, .slice a2 n2 k2, .slice (some ⟨g, off, none⟩) 1 cap] 25) (Same.refl _ _) fun g h => h.2) fun g h => h)
        rw [← hXX] at k5 k4 y1 y2 y3 y4 HXR ⊢
        rw [← hL]
        have hEX := hid (hEW.out.below bX)
        obtain ⟨g3, off3, cap3, kd, op, it, tx, nm, na, aa, nn, nc, an, ac, ps, rfl, hc3, e0, e1, e2, e3, e4, e5, e6, e7, HC⟩ := binds_expr hi hk HXR.out HXX.out hEX.out
        have bXw := hid (bW.out.trans (bX.mono bW.out.size))
        have hzX : z < X.heap.size := Nat.lt_of_lt_of_le hzi bX.size
        have hzX1 : z + 1 < X.heap.size := Nat.lt_of_lt_of_le hzr bX.size
        have HC := hid HC
        have t4 := True.intro
        clear hXX hL si2 sk2 ri2 rk2 HX HG1 HG2 H5 H4 HXX HXR hb2 bX hEX si sk ri rk hWz hzi hzr hnz hnr t3
      )
    | (
        obtain ⟨X, hXX⟩ : ∃ X, X = ((((w2.setCell ⟨z + 1 + 1, 0, none⟩ (.slice a0 n0 k0)).setCell ⟨z + 1 + 1, 1, none⟩ (.slice a1 n1 k1)).setCell ⟨z + 1 + 1, 2, none⟩ (.slice a2 n2 k2)).setCell ⟨z + 1 + 1, 3, none⟩ (.slice (some ⟨g, off, none⟩) 1 cap)) := ⟨_, rfl⟩
        obtain ⟨L, hL⟩ : ∃ L, L = z + 1 + 1 := ⟨_, rfl⟩
        have hVz : (W.drew.alloc (.cells Z4 25)).heap.size = z + 1 + 1 + 1 := by rw [World.size_alloc]; show W.heap.size + 1 = _; omega
        have k3 : X.cell? ⟨L, 3, none⟩ = some (.slice (some ⟨g, off, none⟩) 1 cap) := by
          have h4 := set_at4 hB3.out 3 (.slice (some ⟨g, off, none⟩) 1 cap)
          rw [hXX, hL]
          exact (Lx.cellT h4 3).trans rfl
        have k5 := set4_other (L := z + 1 + 1) (v0 := .slice a0 n0 k0) (v1 := .slice a1 n1 k1) (v2 := .slice a2 n2 k2) (v3 := .slice (some ⟨g, off, none⟩) 1 cap) (show g ≠ z + 1 + 1 by have := HG1.out.1; omega) H5.out
        have k4 := set4_other (L := z + 1 + 1) (v0 := .slice a0 n0 k0) (v1 := .slice a1 n1 k1) (v2 := .slice a2 n2 k2) (v3 := .slice (some ⟨g, off, none⟩) 1 cap) (show g2 ≠ z + 1 + 1 by have := HG2.out.1; omega) H4.out
        have y1 := si3
        have y2 := sk3
        have y3 := ri3
        have y4 := rk3
        have hLb : ∀ c : Nat, W.heap.size ≤ (⟨z + 1 + 1, c, none⟩ : Addr).block := fun c => by show W.heap.size ≤ z + 1 + 1; omega
        have bV : Below W.heap.size W (W.drew.alloc (.cells Z4 25)) := ((Below.refl W.heap.size W).drew).alloc (Nat.le_refl _) _
        have bX : Below W.heap.size W X := by rw [hXX]; exact ((((bV.trans (hb2.out.mono bV.size)).setCell (hLb 0) _).setCell (hLb 1) _).setCell (hLb 2) _).setCell (hLb 3) _
        have hnA : ¬ ((W.drew.alloc (.cells Z4 25)).heap.size ≤ z + 1 + 1 ∧ z + 1 + 1 < w2.heap.size) := by omega
        have HXR := hid (HX.out.mv (B := fun g => (W.drew.alloc (.cells Z4 25)).heap.size ≤ g ∧ g < w2.heap.size) (Same.set (b := z + 1 + 1) (i := 3) (v := .slice (some ⟨g, off, none⟩) 1 cap) (Same.set (b := z + 1 + 1) (i := 2) (v := .slice a2 n2 k2) (Same.set (b := z + 1 + 1) (i := 1) (v := .slice a1 n1 k1) (Same.set (b := z + 1 + 1) (i := 0) (v := .slice a0 n0 k0) (Same.refl _ _) hnA) hnA) hnA) hnA) (fun g h => h))
        rw [← hXX] at k5 k4 y1 y2 y3 y4 HXR ⊢
        rw [← hL]
        have hEX := hid (hEW.out.below bX)
        obtain ⟨g3, off3, cap3, kd, op, it, tx, nm, na, aa, nn, nc, an, ac, ps, rfl, hc3, e0, e1, e2, e3, e4, e5, e6, e7, HC⟩ := binds_expr hi hk HXR.out HXX.out hEX.out
        have bXw := hid (bW.out.trans (bX.mono bW.out.size))
        have hzX : z < X.heap.size := Nat.lt_of_lt_of_le hzi bX.size
        have hzX1 : z + 1 < X.heap.size := Nat.lt_of_lt_of_le hzr bX.size
        have HC := hid HC
        have t4 := True.intro
        clear hXX hL si2 sk2 ri2 rk2 si3 sk3 ri3 rk3 HX HG1 HG2 H5 H4 HXX HXR hb2 bX hEX si sk ri rk hWz hzi hzr hnz hnr t3 hVz hLb bV hnA hB3 hyi hyr
      )
  all_goals
    rw [hwt] at HC
    by_cases q2 : ρ = 2
    all_goals
      try have q3 := hns q2
      go_wp2_with ((have hno := t4; (go_at_call 13; (refine HC.out.mono ?_; rintro e w5 ⟨rfl, hb⟩; have si5 := cell_keep hb hzX y1; have sk5 := cell_keep hb hzX y2; have ri5 := cell_keep hb hzX1 y3; have rk5 := cell_keep hb hzX1 y4; have hb5 := hid hb; have t5 := True.intro; clear hb))))
      go_region_held3 (fun V => V.cell? ⟨z, i, none⟩ = some (.string (bs (sgB i))) ∧ V.cell? ⟨z, k, none⟩ = some (.string (bs (sgB k)))) (first | exact ⟨si5, sk5⟩ | go_keep) (fail)
      go_wp2
      go_region_held3 (fun V => V.cell? ⟨z + 1, i, none⟩ = some (.int .i64 ρ) ∧ V.cell? ⟨z + 1, k, none⟩ = some (.int .i64 σ)) (first | exact ⟨ri5, rk5⟩ | go_keep) (fail)
      go_wp2
      refine bodyPost_ret (v := .bool true) (by simp [results, Tryz.results5, go_sem]) rfl ⟨rfl, ?_⟩
      exact ((bXw.out.trans (hb5.out.mono bXw.out.size))).drew.drew
end Go.Proofs.YtcnohgifihbkdaaGreatDoor

namespace Go.Proofs.YtcnohgifihbkdaaGreatDoor
open Go Go.RowKit Go.Deep Go.Shelf
set_option maxRecDepth 100000
theorem mod17 (a : Int) : ∃ i : Nat, i < 17 ∧ IntKind.i64.wrap (a.tmod 17 + 17) = a.tmod 17 + 17 ∧ (a.tmod 17 + 17).tmod 17 = (i : Int) := by
  have b1 : a.tmod 17 < 17 := Int.tmod_lt_of_pos a (show (0 : Int) < 17 by decide)
  have b2 : -17 < a.tmod 17 := by
    have := Int.neg_tmod a 17
    have q := Int.tmod_lt_of_pos (-a) (show (0 : Int) < 17 by decide)
    omega
  have b3 : 0 ≤ (a.tmod 17 + 17).tmod 17 := Int.tmod_nonneg _ (by omega)
  have b4 : (a.tmod 17 + 17).tmod 17 < 17 := Int.tmod_lt_of_pos _ (show (0 : Int) < 17 by decide)
  refine ⟨((a.tmod 17 + 17).tmod 17).toNat, by omega, wrap_small _ (by omega) (by omega), by omega⟩
theorem binds_any (w : World) (a b : Int) (hE : Lx.EnvT w) (hG : Gl w) : Calls Tryz.prog 5 #[.int .i64 a, .int .i64 b] w fun e w' => e = .returned (.bool true) ∧ Below w.heap.size w w' := by
  obtain ⟨i, hi, ha2, ha3⟩ := mod17 a
  obtain ⟨k, hk, hb2, hb3⟩ := mod17 b
  by_cases h2 : rkB i = 2 ∧ rkB k = 2
  · exact binds_err w a b _ _ i k hi hk rfl ha2 ha3 rfl hb2 hb3 h2 hE hG
  · by_cases hlt : rkB i < rkB k
    · exact binds_lt w a b _ _ i k hi hk rfl ha2 ha3 rfl hb2 hb3 h2 hlt hE hG
    · exact binds_ge w a b _ _ i k hi hk rfl ha2 ha3 rfl hb2 hb3 h2 hlt hE hG
end Go.Proofs.YtcnohgifihbkdaaGreatDoor

namespace Go.Proofs.YtcnohgifihbkdaaGreatDoor
open Go.ChangeShapes Go.WideShapes Go.ChangeAt Go.RowKit Go.Deep Go.Shelf
set_option linter.unusedVariables false
set_option linter.unusedSimpArgs false
set_option maxRecDepth 100000
theorem ownN : ownKnob Tryz.prog.godebug = none := by kernel_rfl
theorem mx_of {W : World} (hs : W.ShapedOpen Tryz.prog) : Lx.MX W :=
  cell_of_shapedOpen_int hs (t := 3) (zero := #[.int .i64 0]) (of_decide_eq_true (by kernel_rfl)) (by kernel_rfl) rfl (by kernel_rfl) (by kernel_rfl) Tryz.underlying3
theorem starE : "*" ++ "errors.errorString" = "*errors.errorString" := by decide
theorem row254 (u : TypeId) (h : Tryz.prog.typeName? 3 u = some "*errors.errorString") : u = 252 :=
  typeName_ptr_named (nm := "errors.errorString") (by rw [starE]; kernel_rfl) (by kernel_rfl) (by decide) u (by rw [starE]; exact h)
def rngData : DataW Unit := .iface "*errors.errorString" (.ptr (.agg [.lit (.string [118, 97, 108, 117, 101, 32, 111, 117, 116, 32, 111, 102, 32, 114, 97, 110, 103, 101])]))
theorem gl_of {W : World} {laid : List (String × DataW Unit)} (hs : W.ShapedOpen Tryz.prog) (hL : laidMetH Tryz.prog laid W) (e : (laid.filter fun x => x.1 == "strconv.ErrRange") = [("strconv.ErrRange", rngData)]) : Gl W := by
  have h := hL.filter (fun x => x.1 == "strconv.ErrRange")
  rw [e] at h
  have h2 : laidMet Tryz.prog [("strconv.ErrRange", rngData)] W := (laidMetH_iff.1 h).1
  obtain ⟨a, s, hv, _, _, _⟩ := laid_sentinel h2 (g := 7) (ti := 176) (tp := 252) (te := 254) (ts := 9) (by kernel_rfl) (by kernel_rfl) Tryz.underlying176 row254 Tryz.underlying252 Tryz.underlying254 rfl rfl Tryz.underlying9 (by kernel_rfl) (by kernel_rfl)
  obtain ⟨cs, hh, hz, _⟩ := hs.1 7 #[.nilIface] 176 (of_decide_eq_true (by kernel_rfl)) (by kernel_rfl)
  have hc : W.cell? ⟨7, 0, none⟩ = some (.iface 252 (.pointer (some a))) := by simpa using World.var?_cell (P := Tryz.prog) (n := "strconv.ErrRange") (g := 7) (by kernel_rfl) hv 0
  have hc2 := (cellOf hh 0).symm.trans hc
  obtain ⟨l⟩ := cs
  match l, hz with
  | [x], _ =>
    have hx : x = .iface 252 (.pointer (some a)) := by simpa using hc2
    subst hx
    exact ⟨_, _, _, hh⟩
/- A contract under the row's conditions, the world's shape and the tables at hand. -/
theorem handed_laid {H : Type} {enc : TypeId × Value → H} {a : Assume} {C : Checked} {os : Os} {f : FuncId} {fn : Func} {s : ChangeSpec} {conds : List PathCond} {apart fresh handsOn again : Bool} {X : World → Array Value → Prop}
    (hX : ∀ (w w' : World) (args : Array Value), w.heap = w'.heap → X w args → X w' args)
    (own : ownKnob C.prog.godebug = none) (started : os.Started) (noInit : C.prog.inits.idxOf? f = none) (hfn : C.prog.funcs[f]? = some fn)
    (witness : ∃ (w : World) (tape : Tape) (i : Input), w.os = os ∧ (w.forCall tape i).Shaped C.prog ∧ i.vars = [] ∧ Input.okWide C.prog (w.forCall tape i) .any w.heap.size f i ∧
      ((s.pre enc C.prog fn conds apart (w.forCall tape i).memory i.args ∧ X (w.forCall tape i).memory i.args) ∧ sizedMet enc C.prog fn (OpenSpec.ofChange s) apart (w.forCall tape i).memory i.args) ∧ a.holds C.prog (lone (Frame.enter C.prog f i.args .normal) [] (w.forCall tape i)))
    (contract : ∀ (W : World) (base : Nat) (args : Array Value) (ds gs : List (DataW H)) (before : List MemPlace),
      (∀ (j : Nat) t v, fn.params[j]? = some t → args[j]? = some v → Value.okWide C.prog W .any base t v) →
      DataW.Whole enc C.prog fn.params.toList s.vars apart W args.toList ds gs before →
      (DataW.weightsEach C.prog (fn.params.toList ++ s.plain.varTypes C.prog) (ds ++ gs)).all (· ≤ reachBytes) = true → X W args → W.ShapedOpen C.prog →
      Calls C.prog f args W fun e W' => ∃ v, e = .returned v ∧ s.post enc C.prog fn apart fresh handsOn again W args v W') :
    ReturnsInHanded a C os f .any (fun w args => (s.pre enc C.prog fn conds apart w args ∧ X w args) ∧ sizedMet enc C.prog fn (OpenSpec.ofChange s) apart w args) (s.post enc C.prog fn apart fresh handsOn again) := by
  refine returnsInHanded_of_calls own started noInit witness ?_
  intro w tape i _ hsh _ hok hpre hholds
  obtain ⟨_, _, _, fn', hfn', _, _, _, _, hval⟩ := hok
  obtain rfl : fn' = fn := Option.some.inj (hfn'.symm.trans hfn)
  obtain ⟨⟨⟨ds, gs, before, hw, hc⟩, hx⟩, hz⟩ := hpre
  refine (contract (w.forCall tape i) w.heap.size i.args ds gs before hval (DataW.Whole.of_heap (w' := w.forCall tape i) (by rfl) hw) (hz.weights hw) (hX _ _ _ (by rfl) hx) hsh).mono fun e W' ⟨v, he, hp⟩ => ?_
  subst he
  exact ChangeSpec.post_blind hp
def cellsIn (c : Array Value) : Obj → Obj
  | .cells _ t frozen => .cells c t frozen
  | o => o
def firstCells : Array Value := (Go.Pinned.utf8FirstZ.map fun (x : Nat) => Value.int .u8 (x : Int)).toArray
def tables (h : Array Obj) : Array Obj := (((((((h.modify 1 (cellsIn firstCells)).modify 2 (cellsIn #[.int .u8 128, .int .u8 191, .int .u8 160, .int .u8 191, .int .u8 128, .int .u8 159, .int .u8 144, .int .u8 191, .int .u8 128, .int .u8 143, .int .u8 0, .int .u8 0, .int .u8 0, .int .u8 0, .int .u8 0, .int .u8 0, .int .u8 0, .int .u8 0, .int .u8 0, .int .u8 0, .int .u8 0, .int .u8 0, .int .u8 0, .int .u8 0, .int .u8 0, .int .u8 0, .int .u8 0, .int .u8 0, .int .u8 0, .int .u8 0, .int .u8 0, .int .u8 0])).modify 3 (cellsIn #[.int .u64 1, .int .u64 10, .int .u64 100, .int .u64 1000, .int .u64 10000, .int .u64 100000, .int .u64 1000000, .int .u64 10000000, .int .u64 100000000, .int .u64 1000000000, .int .u64 10000000000, .int .u64 100000000000, .int .u64 1000000000000, .int .u64 10000000000000, .int .u64 100000000000000, .int .u64 1000000000000000, .int .u64 10000000000000000, .int .u64 100000000000000000, .int .u64 1000000000000000000, .int .u64 10000000000000000000])).modify 4 (cellsIn #[.int .u8 0, .int .u8 1, .int .u8 28, .int .u8 2, .int .u8 29, .int .u8 14, .int .u8 24, .int .u8 3, .int .u8 30, .int .u8 22, .int .u8 20, .int .u8 15, .int .u8 25, .int .u8 17, .int .u8 4, .int .u8 8, .int .u8 31, .int .u8 27, .int .u8 13, .int .u8 23, .int .u8 21, .int .u8 19, .int .u8 16, .int .u8 7, .int .u8 26, .int .u8 12, .int .u8 18, .int .u8 6, .int .u8 11, .int .u8 5, .int .u8 10, .int .u8 9])).modify 5 (cellsIn #[.int .u8 0, .int .u8 1, .int .u8 56, .int .u8 2, .int .u8 57, .int .u8 49, .int .u8 28, .int .u8 3, .int .u8 61, .int .u8 58, .int .u8 42, .int .u8 50, .int .u8 38, .int .u8 29, .int .u8 17, .int .u8 4, .int .u8 62, .int .u8 47, .int .u8 59, .int .u8 36, .int .u8 45, .int .u8 43, .int .u8 51, .int .u8 22, .int .u8 53, .int .u8 39, .int .u8 33, .int .u8 30, .int .u8 24, .int .u8 18, .int .u8 12, .int .u8 5, .int .u8 63, .int .u8 55, .int .u8 48, .int .u8 27, .int .u8 60, .int .u8 41, .int .u8 37, .int .u8 16, .int .u8 46, .int .u8 35, .int .u8 44, .int .u8 21, .int .u8 52, .int .u8 32, .int .u8 23, .int .u8 11, .int .u8 54, .int .u8 26, .int .u8 40, .int .u8 15, .int .u8 34, .int .u8 20, .int .u8 31, .int .u8 10, .int .u8 25, .int .u8 14, .int .u8 19, .int .u8 9, .int .u8 13, .int .u8 8, .int .u8 7, .int .u8 6])).modify 6 (cellsIn #[.iface 252 (.pointer (some ⟨13, 0, none⟩))])).modify 7 (cellsIn #[.iface 252 (.pointer (some ⟨13 + 1, 0, none⟩))]))
def newErrs : Array Obj := #[.cells #[.string ⟨#[105, 110, 118, 97, 108, 105, 100, 32, 115, 121, 110, 116, 97, 120]⟩] 254, .cells #[.string ⟨#[118, 97, 108, 117, 101, 32, 111, 117, 116, 32, 111, 102, 32, 114, 97, 110, 103, 101]⟩] 254]
theorem laid_met {laid : List (String × DataW Unit)} (e : laid = Rows.parseElsesRow.laid) (os : Os) (args : Array Value) : laidMetH Tryz.prog laid (({ World.holding Tryz.prog os ⟨newErrs, #[], []⟩ with heap := tables (World.holding Tryz.prog os ⟨newErrs, #[], []⟩).heap } : World).forCall (fun _ _ => 0) ⟨#[], args, []⟩).memory := by
  subst e
  exact laidMetH_of_parts3 (fuel := 8) (laidMet_of_run' 8 (by kernel_rfl) (by kernel_rfl)) (by kernel_rfl) (by kernel_rfl)
end Go.Proofs.YtcnohgifihbkdaaGreatDoor

namespace Go.Proofs.YtcnohgifihbkdaaGreatDoor
open Go.ChangeShapes Go.WideShapes Go.ChangeAt Go.RowKit Go.Deep Go.Shelf
set_option linter.unusedVariables false
set_option linter.unusedSimpArgs false
set_option maxRecDepth 100000
theorem pow_named : Tryz.prog.globalNamed "internal/strconv.uint64pow10" = some 3 := by kernel_rfl
theorem env_of {W : World} {laid : List (String × DataW Unit)} (hL : laidMetH Tryz.prog laid W) (hs : W.ShapedOpen Tryz.prog) (e : (laid.filter fun x => x.1 == "internal/strconv.uint64pow10") = [("internal/strconv.uint64pow10", Lib.tabData .u64 Lib.pow10Tab)]) : Lx.EnvT W := by
  constructor
  · have h := hL.filter (fun x => x.1 == "internal/strconv.uint64pow10")
    rw [e] at h
    have h2 : laidMet Tryz.prog [("internal/strconv.uint64pow10", Lib.tabData .u64 Lib.pow10Tab)] W := (laidMetH_iff.1 h).1
    exact Lib.tabIs_of_head (t := 212) (e := 196) (n := 20) pow_named (by kernel_rfl) (by kernel_rfl) (by kernel_rfl) (by kernel_rfl) (by kernel_rfl) h2
  · exact mx_of hs
theorem parseBinds_lifted (os : Os) (started : os.Started) (H : Type) (enc : TypeId × Value → H) :
    ReturnsInHanded {} Tryz.checked os 5 .any (fun w args => (Rows.parseBindsSpec.pre enc Tryz.prog Tryz.f5 [] false w args ∧ laidMetH Tryz.prog Rows.parseBindsRow.laid w) ∧ sizedMet enc Tryz.prog Tryz.f5 (OpenSpec.ofChange Rows.parseBindsSpec) false w args)
      (Rows.parseBindsSpec.post enc Tryz.prog Tryz.f5 false true false false) := by
  refine handed_laid (C := Tryz.checked) (X := fun w _ => laidMetH Tryz.prog Rows.parseBindsRow.laid w) (fun _ _ _ hh h => h.of_heap hh) ownN started (by kernel_rfl) Tryz.func5
    (ChangeSpec.witness_at (enc := enc) (C := Tryz.checked) (os := os) (X := fun w _ => laidMetH Tryz.prog Rows.parseBindsRow.laid w) false ({ World.holding Tryz.prog os ⟨newErrs, #[], []⟩ with heap := tables (World.holding Tryz.prog os ⟨newErrs, #[], []⟩).heap } : World) #[.int .i64 0, .int .i64 0] 8 rfl (by kernel_rfl) (by kernel_rfl) (by kernel_rfl) (by kernel_rfl) (by kernel_rfl) (laid_met (by rfl) os _)) ?_
  intro W base args ds gs before hval0 hW _ hL hsh
  have hval : ∀ (j : Nat) t v, Tryz.f5.params[j]? = some t → args[j]? = some v → Value.okWide Tryz.prog W .any base t v := hval0
  have hW' := hW
  obtain ⟨p, q, hA0, hV, rfl, hfz, hnd⟩ := hW
  have hA : DataW.TrodAll enc Tryz.prog W 0 (fun _ => true) true Tryz.f5.params.toList args.toList ds p := hA0
  rw [Tryz.params5] at hA hval
  obtain ⟨v0, vs0, d0, ds0, p0, q0, hargs, rfl, rfl, h0, r0⟩ := trodAll_cons hA
  obtain ⟨v1, vs1, d1, ds1, p1, q1, rfl, rfl, rfl, h1, r1⟩ := trodAll_cons r0
  obtain ⟨rfl, rfl, rfl⟩ := trodAll_nil r1
  obtain rfl : args = #[v0, v1] := by cases args; simp_all
  obtain ⟨rfl, rfl⟩ := trodVars_none hV
  obtain ⟨a0, rfl, rfl, rfl, w0⟩ := open_int Tryz.underlying3 (hval 0 3 v0 rfl rfl) h0
  obtain ⟨a1, rfl, rfl, rfl, w1⟩ := open_int Tryz.underlying3 (hval 1 3 v1 rfl rfl) h1
  clear hA0 hval0
  refine (binds_any W a0 a1 (env_of hL hsh (by kernel_rfl)) (gl_of hsh hL (by kernel_rfl))).mono fun e W' ⟨he, bel⟩ => ?_
  subst he
  exact ⟨_, rfl, _, _, _, [], _, [], hW', trodAll_mk1 (shut_bool Tryz.underlying4 _), (trodAll_cons_mk (shut_int Tryz.underlying3 w0) (trodAll_cons_mk (shut_int Tryz.underlying3 w1) trodAll_mk0)), rfl, bel.frame _, fun h => by cases h⟩
theorem parseBinds_row : Rows.ParseBindsSaid :=
  OpenClaim.holds_of_wide 5 Tryz.f5 rfl rfl rfl rfl rfl rfl rfl ⟨rfl, rfl, rfl, rfl, rfl⟩ rfl rfl rfl rfl rfl (by kernel_rfl) Tryz.func5 (by kernel_rfl)
    (of_decide_eq_true (by kernel_rfl)) (by unfold Func.isWrapper; first | (rw [if_pos (by decide +kernel)]; kernel_rfl) | (rw [if_neg (by decide +kernel)]; exact ⟨rfl, rfl⟩))
    (fun os started H enc _ => parseBinds_lifted os started H enc)
theorem parseBinds_card : Rows.ParseBindsCardSaid :=
  Claim7.holds_tied_plain_at .later [] [.data, .data, .data, .data, .sentinel, .sentinel, .pinned] true (true, "2af5a9e7df016a1072651139e68cb1b512803276da2c1de720d49070802bd75f") true
    parseBinds_row (fun _ h => by cases h) (by kernel_rfl) (fun _ h => by cases h) parseBinds_row_tie rfl ⟨rfl, rfl⟩ (by kernel_rfl) rfl
    (fun f fn hf hfn => by
      obtain rfl : f = 5 := Option.some.inj ((show Tryz.prog.funcNamed "windlass/windlasslaw7.ParseBinds" = some 5 by kernel_rfl).symm.trans hf) |>.symm
      obtain rfl : fn = Tryz.f5 := (Option.some.inj (Tryz.func5.symm.trans hfn)).symm
      exact ⟨by kernel_rfl, fun j t ht => by
        rw [Tryz.params5] at ht
        have hmem := List.mem_of_getElem? (l := [3, 3]) (i := j) (a := t) (by simpa using ht)
        simp only [List.mem_cons, List.mem_nil_iff, or_false] at hmem
        rcases hmem with rfl | rfl <;> first | exact (show Tryz.prog.wantsStandIn 3 = false by kernel_rfl)⟩)
    (by kernel_rfl)
end Go.Proofs.YtcnohgifihbkdaaGreatDoor

