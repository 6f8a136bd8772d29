/- Two operators: parsed, with the expression as it lies. -/
import Derived.Test.YtcnohgifihbkdaaGreatDoorJBB
import Derived.Deep.RegionHeld3
namespace Go.Proofs.YtcnohgifihbkdaaGreatDoor
open Go Go.RowKit Go.Deep Go.Shelf
set_option linter.unusedVariables false
set_option linter.unusedSimpArgs false
set_option maxRecDepth 100000
theorem src_len {i k : Nat} (hi : i < 17) (hk : k < 17) : (srcB i k).length ≤ 40 := by
  obtain ⟨_, _, _, h1⟩ := sgn_is hi
  obtain ⟨_, _, _, h2⟩ := sgn_is hk
  unfold srcB bdH bdY bdZ
  simp only [List.length_append, List.length_cons, List.length_nil]
  omega
theorem evs_of {k : Nat} {w : World} {t : Lx.ET (k + 1)} (d : Lx.ERd (k + 1) w t) : Lx.EVs k w t :=
  ⟨⟨d.1.i0, d.1.i1, d.1.t, d.1.n, d.1.nl, d.1.nb, d.1.ns, d.1.nr, d.1.ab⟩, d.2.1, d.2.2.1, d.2.2.2⟩
theorem binds_no (w : World) {i k : Nat} (hi : i < 17) (hk : k < 17) (h2 : rkB i = 2 ∧ rkB k = 2) (hm : Lx.MX w) (hG : Gl w) : Calls Tryz.prog 9 #[.string (bs (srcB i k))] w fun e w' => ∃ p : Int, e = .returned (.tuple #[.agg #[.slice none 0 0, .slice none 0 0, .slice none 0 0, .slice none 0 0], .int .i64 p, .int .i64 70]) ∧ Below w.heap.size w w' := by
  have hl := src_len hi hk
  refine (parse_any w _ (by rw [show (bs (srcB i k)).size = (srcB i k).length from List.size_toArray]; omega) hm hG).mono ?_
  intro e w' h
  rw [show (bs (srcB i k)).data.toList = srcB i k from rfl, binds_is hi hk, ansB, if_pos h2] at h
  exact ⟨_, h.1, h.2⟩
/- The only handler's body, the blocks told. -/
theorem ev_bodyA {w : World} {A : Nat → Prop} {v : Value} {t : PTr} {d : PDc} (h : RTr w A v t) (he : t.events = [d]) : ∃ (a0 a1 a2 : Option Addr) (n0 n1 n2 k0 k1 k2 g off cap : Nat) (ab : Option Addr) (cb : Nat) (b : List PSt), v = .agg #[.slice a0 n0 k0, .slice a1 n1 k1, .slice a2 n2 k2, .slice (some ⟨g, off, none⟩) 1 cap] ∧ 1 ≤ cap ∧ A g ∧ w.cell? ⟨g, off + 5, none⟩ = some (.slice ab b.length cb) ∧ b.length ≤ cb ∧ SsR w A (.slice ab b.length cb) b ∧ d.body = b.map pkS := by
  obtain ⟨v0, v1, v2, v3, rfl, L0, L1, L2, L3⟩ := h
  obtain ⟨a0, k0, rfl⟩ := L0.form
  obtain ⟨a1, k1, rfl⟩ := L1.form
  obtain ⟨a2, k2, rfl⟩ := L2.form
  rw [he] at L3
  obtain ⟨g, off, cap, r, rfl, hc, hg, hA, ⟨pv, bv, b, rfl, hp, hs, hb⟩, hcell⟩ := L3.at (j := 0) rfl
  obtain ⟨ab, cb, rfl, hcb⟩ := hs.slice
  have h5 := hcell 5 (by omega)
  rw [Nat.zero_mul, Nat.add_zero] at h5
  exact ⟨a0, a1, a2, _, _, _, k0, k1, k2, g, off, cap, ab, cb, b, rfl, hc, hA, h5, hcb, hs.mv (Same.refl _ _) (fun g h => h.1), hb⟩
theorem body_oneA {w : World} {A : Nat → Prop} {v : Value} {b : List PSt} {s : PSt} (h : SsR w A v b) (hb : [pkS s] = b.map pkS) : ∃ (g off cap : Nat) (av bv ev : Value) (xs : List PEx), v = .slice (some ⟨g, off, none⟩) 1 cap ∧ 1 ≤ cap ∧ A g ∧ (XsR w A av xs ∧ s.args = xs.map pkE) ∧ ∀ i, i < 8 → w.cell? ⟨g, off + i, none⟩ = (sC s av bv ev)[i]? := by
  obtain ⟨s', rfl, hs⟩ := map_one hb
  obtain ⟨g, off, cap, av, bv, ev, xs, b, e, rfl, hc, hg, hA, q1, q2, q3, hcell⟩ := h.at (j := 0) rfl
  obtain ⟨_, _, _, _, h5, h6, h7, _⟩ := pkS_eq hs
  refine ⟨g, off, cap, av, bv, ev, xs, rfl, hc, hA, ⟨q1.1, by rw [← h5]; exact q1.2⟩, fun i hi => ?_⟩
  have := hcell i hi
  rw [Nat.zero_mul, Nat.add_zero] at this
  rw [this, sC_eq hs]
theorem binds_yes (w : World) {i k : Nat} (hi : i < 17) (hk : k < 17) (h2 : ¬ (rkB i = 2 ∧ rkB k = 2)) (hm : Lx.MX w) (hG : Gl w) : Calls Tryz.prog 9 #[.string (bs (srcB i k))] w fun e w' =>
    ∃ (a0 a1 a2 : Option Addr) (n0 n1 n2 k0 k1 k2 g off cap g2 off2 cap2 : Nat) (av : Value) (x : PEx), e = .returned (.tuple #[.agg #[.slice a0 n0 k0, .slice a1 n1 k1, .slice a2 n2 k2, .slice (some ⟨g, off, none⟩) 1 cap], .int .i64 0, .int .i64 0]) ∧ (1 : Int) ≤ (cap : Int) ∧ (w.heap.size ≤ g ∧ g < w'.heap.size) ∧
      w'.cell? ⟨g, off + 5, none⟩ = some (.slice (some ⟨g2, off2, none⟩) 1 cap2) ∧ (1 : Int) ≤ (cap2 : Int) ∧ (w.heap.size ≤ g2 ∧ g2 < w'.heap.size) ∧ w'.cell? ⟨g2, off2 + 4, none⟩ = some av ∧
      XsR w' (fun g => w.heap.size ≤ g ∧ g < w'.heap.size) av [x] ∧ pkE x = pkE (eB i k) ∧ Below w.heap.size w w' := by
  have hl := src_len hi hk
  refine (parse_any w _ (by rw [show (bs (srcB i k)).size = (srcB i k).length from List.size_toArray]; omega) hm hG).mono ?_
  intro e w' h
  rw [show (bs (srcB i k)).data.toList = srcB i k from rfl, binds_is hi hk, ansB, if_neg h2] at h
  obtain ⟨v, rfl, hR, hb⟩ := h
  obtain ⟨a0, a1, a2, n0, n1, n2, k0, k1, k2, g, off, cap, ab, cb, b, rfl, hcap, hg, h5, hcb, hS, hB⟩ := ev_bodyA hR rfl
  obtain ⟨g2, off2, cap2, av, bv, ev, xs, hv, hc2, hg2, ⟨hX, hx⟩, hcell⟩ := body_oneA hS hB
  have h4 := hcell 4 (by omega)
  obtain ⟨x, rfl, hx1⟩ := mapE_one (show [pkE (eB i k)] = xs.map pkE from hx)
  rw [hv] at h5
  exact ⟨a0, a1, a2, n0, n1, n2, k0, k1, k2, g, off, cap, g2, off2, cap2, av, x, rfl, by omega, hg, h5, by omega, hg2, h4, hX, hx1, hb⟩
/- The same, told of the world ahead. -/
theorem binds_yesW {W V : World} (bl : Below W.heap.size W V) {i k : Nat} (hi : i < 17) (hk : k < 17) (h2 : ¬ (rkB i = 2 ∧ rkB k = 2)) (hE : Lx.EnvT W) (hG : Gl W) : Calls Tryz.prog 9 #[.string (bs (srcB i k))] V fun e w' =>
    ∃ (a0 a1 a2 : Option Addr) (n0 n1 n2 k0 k1 k2 g off cap g2 off2 cap2 : Nat) (av : Value) (x : PEx), e = .returned (.tuple #[.agg #[.slice a0 n0 k0, .slice a1 n1 k1, .slice a2 n2 k2, .slice (some ⟨g, off, none⟩) 1 cap], .int .i64 0, .int .i64 0]) ∧ (1 : Int) ≤ (cap : Int) ∧ (V.heap.size ≤ g ∧ g < w'.heap.size) ∧
      w'.cell? ⟨g, off + 5, none⟩ = some (.slice (some ⟨g2, off2, none⟩) 1 cap2) ∧ (1 : Int) ≤ (cap2 : Int) ∧ (V.heap.size ≤ g2 ∧ g2 < w'.heap.size) ∧ w'.cell? ⟨g2, off2 + 4, none⟩ = some av ∧
      XsR w' (fun g => V.heap.size ≤ g ∧ g < w'.heap.size) av [x] ∧ pkE x = pkE (eB i k) ∧ Below V.heap.size V w' :=
  binds_yes V hi hk h2 (hE.below bl).mx (gl_below hG bl)
theorem binds_noW {W V : World} (bl : Below W.heap.size W V) {i k : Nat} (hi : i < 17) (hk : k < 17) (h2 : rkB i = 2 ∧ rkB k = 2) (hE : Lx.EnvT W) (hG : Gl W) : Calls Tryz.prog 9 #[.string (bs (srcB i k))] V fun e w' => ∃ p : Int, e = .returned (.tuple #[.agg #[.slice none 0 0, .slice none 0 0, .slice none 0 0, .slice none 0 0], .int .i64 p, .int .i64 70]) ∧ Below W.heap.size W w' :=
  (binds_no V hi hk h2 (hE.below bl).mx (gl_below hG bl)).mono fun e w' ⟨p, he, hb⟩ => ⟨p, he, bl.trans (hb.mono bl.size)⟩
def Z4 : Array Value := #[.slice none 0 0, .slice none 0 0, .slice none 0 0, .slice none 0 0]
theorem binds_noV {W : World} {i k : Nat} (hi : i < 17) (hk : k < 17) (h2 : rkB i = 2 ∧ rkB k = 2) (hE : Lx.EnvT W) (hG : Gl W) : Calls Tryz.prog 9 #[.string (bs (srcB i k))] (W.drew.alloc (.cells Z4 25)) fun e w' => ∃ p : Int, e = .returned (.tuple #[.agg #[.slice none 0 0, .slice none 0 0, .slice none 0 0, .slice none 0 0], .int .i64 p, .int .i64 70]) ∧ Below W.heap.size W w' ∧ Box W.heap.size Z4 25 w' := by
  have bl : Below W.heap.size W (W.drew.alloc (.cells Z4 25)) := ((Below.refl W.heap.size W).drew).alloc (Nat.le_refl _) _
  refine (binds_no _ hi hk h2 (hE.below bl).mx (gl_below hG bl)).mono fun e w' ⟨p, he, hb⟩ => ⟨p, he, bl.trans (hb.mono bl.size), ?_⟩
  exact (Box.new W.drew Z4 25).below hb
theorem want_len {i k : Nat} (hi : i < 17) (hk : k < 17) : (wantB i k).length ≤ 40 ∧ wantB i k ≠ [] := by
  obtain ⟨_, _, _, h1⟩ := sgn_is hi
  obtain ⟨_, _, _, h2⟩ := sgn_is hk
  unfold wantB
  split
  · unfold wC wC1 wC2 wC3
    refine ⟨?_, by simp⟩
    simp only [List.length_append, List.length_cons, List.length_nil]
    omega
  · unfold wA wA1 wA2 wA3
    refine ⟨?_, by simp⟩
    simp only [List.length_append, List.length_cons, List.length_nil]
    omega
/- The expression, read and printed. -/
theorem binds_expr {X : World} {A : Nat → Prop} {av : Value} {x : PEx} {i k : Nat} (hi : i < 17) (hk : k < 17) (h : XsR X A av [x]) (hx : pkE x = pkE (eB i k)) (hE : Lx.EnvT X) :
    ∃ (g off cap : Nat) (kd op it : Int) (tx nm : ByteArray) (na aa : Option Addr) (nn nc an ac : Nat) (ps : Int), av = .slice (some ⟨g, off, none⟩) 1 cap ∧ (1 : Int) ≤ (cap : Int) ∧ X.cell? ⟨g, off, none⟩ = some (.int .i64 kd) ∧ X.cell? ⟨g, off + 1, none⟩ = some (.int .i64 op) ∧ X.cell? ⟨g, off + 2, none⟩ = some (.int .i64 it) ∧ X.cell? ⟨g, off + 3, none⟩ = some (.string tx) ∧ X.cell? ⟨g, off + 4, none⟩ = some (.string nm) ∧ X.cell? ⟨g, off + 5, none⟩ = some (.slice na nn nc) ∧ X.cell? ⟨g, off + 6, none⟩ = some (.slice aa an ac) ∧ X.cell? ⟨g, off + 7, none⟩ = some (.int .i64 ps) ∧
      Calls Tryz.prog 13 #[.agg #[.int .i64 kd, .int .i64 op, .int .i64 it, .string tx, .string nm, .slice na nn nc, .slice aa an ac, .int .i64 ps]] X fun e w' => e = .returned (.tuple #[.string (bs (wantB i k)), .int .i64 0]) ∧ Below X.heap.size X w' := by
  obtain ⟨g, off, cap, t, rfl, hc, hg, hR, hcs, hok, hpr, hdp⟩ := top_of hi hk h hx
  obtain ⟨hl, hne⟩ := want_len hi hk
  have K := Lx.exprX_any 2 X t (evs_of hR) hok hE (by show (Lx.prE 3 t).length ≤ _; rw [hpr]; omega) (by show Lx.prE 3 t ≠ []; rw [hpr]; exact hne) (by show Lx.dpE 3 t ≤ _; omega)
  have c0 := hcs 0 (by omega)
  rw [Nat.add_zero] at c0
  refine ⟨g, off, cap, _, _, _, _, _, _, _, _, _, _, _, _, rfl, by omega, c0, hcs 1 (by omega), hcs 2 (by omega), hcs 3 (by omega), hcs 4 (by omega), hcs 5 (by omega), hcs 6 (by omega), hcs 7 (by omega), K.mono fun e w' h => ⟨?_, h.2⟩⟩
  rw [h.1]
  show Ending.returned (.tuple #[.string ⟨(Lx.prE 3 t).toArray⟩, .int .i64 0]) = _
  rw [hpr]
end Go.Proofs.YtcnohgifihbkdaaGreatDoor

namespace Go.Proofs.YtcnohgifihbkdaaGreatDoor
open Go Go.RowKit Go.Deep Go.Shelf
set_option linter.unusedVariables false
set_option linter.unusedSimpArgs false
set_option maxRecDepth 100000
theorem run_cat (a b : Bsq) (h : a.length + b.length ≤ 100000) (W : World) : (Op.stringOp .add (bs a) (bs b)).run Tryz.prog W = .ok (.string (bs (a ++ b))) W := by
  have q := run_string_add_sum (P := Tryz.prog) W (bs a) (bs b) (by
    show a.toArray.size + b.toArray.size ≤ 9223372036854775807
    rw [List.size_toArray, List.size_toArray]; omega)
  rw [bs_cat] at q
  exact q
end Go.Proofs.YtcnohgifihbkdaaGreatDoor

namespace Go.Proofs.YtcnohgifihbkdaaGreatDoor
open Go Go.RowKit Go.Deep Go.Shelf
set_option linter.unusedVariables false
set_option linter.unusedSimpArgs false
set_option maxRecDepth 100000
def sgV : Array Value := #[.string ⟨#[111, 114]⟩, .string ⟨#[97, 110, 100]⟩, .string ⟨#[61, 61]⟩, .string ⟨#[33, 61]⟩, .string ⟨#[60]⟩, .string ⟨#[60, 61]⟩, .string ⟨#[62]⟩, .string ⟨#[62, 61]⟩, .string ⟨#[43]⟩, .string ⟨#[45]⟩, .string ⟨#[43, 37]⟩, .string ⟨#[45, 37]⟩, .string ⟨#[38]⟩, .string ⟨#[42]⟩, .string ⟨#[42, 37]⟩, .string ⟨#[47]⟩, .string ⟨#[37]⟩]
def rkV : Array Value := #[.int .i64 0, .int .i64 1, .int .i64 2, .int .i64 2, .int .i64 2, .int .i64 2, .int .i64 2, .int .i64 2, .int .i64 3, .int .i64 3, .int .i64 3, .int .i64 3, .int .i64 3, .int .i64 4, .int .i64 4, .int .i64 4, .int .i64 4]
def s1B (i : Nat) : Bsq := bdH ++ sgB i
def s2B (i : Nat) : Bsq := s1B i ++ bdY
def s3B (i k : Nat) : Bsq := s2B i ++ sgB k
theorem s_len {i k : Nat} (h1 : (sgB i).length ≤ 3) (h2 : (sgB k).length ≤ 3) : (s1B i).length ≤ 17 ∧ (s2B i).length ≤ 20 ∧ (s3B i k).length ≤ 23 := by
  have e1 : bdH.length = 14 := rfl
  have e2 : bdY.length = 3 := rfl
  unfold s3B s2B s1B
  simp only [List.length_append]
  omega
theorem set_at4 {w : World} {b : Nat} {c : Array Value} {t : TypeId} (h : w.heap[b]? = some (.cells c t (0, 0))) (k : Nat) (v : Value) : (w.setCell ⟨b, k, none⟩ v).heap[b]? = some (.cells (c.setIfInBounds k v) t (0, 0)) := by
  simp [World.setCell, Array.getElem?_modify, h]
theorem set4_other {w : World} {L g o : Nat} {v0 v1 v2 v3 x : Value} (hn : g ≠ L) (hc : w.cell? ⟨g, o, none⟩ = some x) : ((((w.setCell ⟨L, 0, none⟩ v0).setCell ⟨L, 1, none⟩ v1).setCell ⟨L, 2, none⟩ v2).setCell ⟨L, 3, none⟩ v3).cell? ⟨g, o, none⟩ = some x := by
  rw [World.cell?_of_block (w := w) (by
    rw [Below.heap_setCell _ ⟨L, 3, none⟩ _ _ (show g ≠ L from hn), Below.heap_setCell _ ⟨L, 2, none⟩ _ _ (show g ≠ L from hn), Below.heap_setCell _ ⟨L, 1, none⟩ _ _ (show g ≠ L from hn), Below.heap_setCell _ ⟨L, 0, none⟩ _ _ (show g ≠ L from hn)])]
  exact hc
theorem sgV_at {i : Nat} (h : i < 17) : sgV[i]? = some (.string (bs (sgB i))) ∧ rkV[i]? = some (.int .i64 (rkB i : Int)) := by
  match i, h with
  | 0, _ => exact ⟨rfl, rfl⟩
  | 1, _ => exact ⟨rfl, rfl⟩
  | 2, _ => exact ⟨rfl, rfl⟩
  | 3, _ => exact ⟨rfl, rfl⟩
  | 4, _ => exact ⟨rfl, rfl⟩
  | 5, _ => exact ⟨rfl, rfl⟩
  | 6, _ => exact ⟨rfl, rfl⟩
  | 7, _ => exact ⟨rfl, rfl⟩
  | 8, _ => exact ⟨rfl, rfl⟩
  | 9, _ => exact ⟨rfl, rfl⟩
  | 10, _ => exact ⟨rfl, rfl⟩
  | 11, _ => exact ⟨rfl, rfl⟩
  | 12, _ => exact ⟨rfl, rfl⟩
  | 13, _ => exact ⟨rfl, rfl⟩
  | 14, _ => exact ⟨rfl, rfl⟩
  | 15, _ => exact ⟨rfl, rfl⟩
  | 16, _ => exact ⟨rfl, rfl⟩
  | i + 17, h => exact absurd h (by omega)
end Go.Proofs.YtcnohgifihbkdaaGreatDoor

namespace Go.Proofs.YtcnohgifihbkdaaGreatDoor
open Go Go.RowKit Go.Deep Go.Shelf
set_option linter.unusedVariables false
set_option linter.unusedSimpArgs false
set_option maxRecDepth 100000
set_option maxHeartbeats 4000000 in
theorem binds_err (w : World) (a b ra rb : Int) (i k : Nat) (hi : i < 17) (hk : k < 17) (ha : a.tmod 17 = ra) (ha2 : IntKind.i64.wrap (ra + 17) = ra + 17) (ha3 : (ra + 17).tmod 17 = (i : Int)) (hb : b.tmod 17 = rb) (hb2 : IntKind.i64.wrap (rb + 17) = rb + 17) (hb3 : (rb + 17).tmod 17 = (k : Int)) (h2 : rkB i = 2 ∧ rkB k = 2) (hE : Lx.EnvT w) (hG : Gl w) : Calls Tryz.prog 5 #[.int .i64 a, .int .i64 b] w fun e w' => e = .returned (.bool true) ∧ Below w.heap.size w w' := by
  have t0 := True.intro
  have H1 := hid hE
  have H2 := hid hG
  have hi' : (i : Int) < 17 := by omega
  have hk' : (k : Int) < 17 := by omega
  have hlS := src_len hi hk
  obtain ⟨_, _, _, hl1⟩ := sgn_is hi
  obtain ⟨_, _, _, hl2⟩ := sgn_is hk
  obtain ⟨e1, e2, e3⟩ := s_len hl1 hl2
  have ad1 : ∀ V : World, (Op.stringOp .add ⟨#[111, 110, 32, 101, 40, 41, 32, 123, 32, 100, 111, 32, 120, 32]⟩ (bs (sgB i))).run Tryz.prog V = .ok (.string (bs (s1B i))) V := fun V => run_cat bdH _ (by have : bdH.length = 14 := rfl; omega) V
  have ad2 : ∀ V : World, (Op.stringOp .add (bs (s1B i)) ⟨#[32, 121, 32]⟩).run Tryz.prog V = .ok (.string (bs (s2B i))) V := fun V => run_cat _ bdY (by have : bdY.length = 3 := rfl; omega) V
  have ad3 : ∀ V : World, (Op.stringOp .add (bs (s2B i)) (bs (sgB k))).run Tryz.prog V = .ok (.string (bs (s3B i k))) V := fun V => run_cat _ _ (by omega) V
  have ad4 : ∀ V : World, (Op.stringOp .add (bs (s3B i k)) ⟨#[32, 122, 59, 32, 125]⟩).run Tryz.prog V = .ok (.string (bs (srcB i k))) V := fun V => run_cat _ bdZ (by have : bdZ.length = 5 := rfl; omega) V
  go_enter Tryz.func5, Tryz.ntmps5
  go_wp2_with ((have hno := t0; (go_at_call 8; (refine (known_any _ hE.mx hG).mono ?_; rintro e w1 ⟨rfl, hb⟩; have hz1 := hid hb.size; have hb1 := hid hb; have t1 := True.intro; clear hb))))
  have hsz : w1.heap.size ≤ w1.heap.size + 1 := by omega
  obtain ⟨W, hW⟩ : ∃ W, W = (w1.alloc (.cells sgV 38)).alloc (.cells rkV 39) := ⟨_, rfl⟩
  have hWz : W.heap.size = w1.heap.size + 1 + 1 := by rw [hW]; simp
  have bW0 : Below w1.heap.size w1 W := by rw [hW]; exact ((Below.refl _ _).alloc (Nat.le_refl _) _).alloc (by simp) _
  have bsg : Box w1.heap.size sgV 38 W := by rw [hW]; exact (Box.new w1 sgV 38).alloc _
  have brk : Box (w1.heap.size + 1) rkV 39 W := by rw [hW]; have q := Box.new (w1.alloc (.cells sgV 38)) rkV 39; rw [World.size_alloc] at q; exact q
  have si := bsg.cell (sgV_at hi).1
  have sk := bsg.cell (sgV_at hk).1
  have ri := brk.cell (sgV_at hi).2
  have rk := brk.cell (sgV_at hk).2
  have bW := hid (hb1.out.trans (bW0.mono hz1.out))
  unfold sgV rkV at hW
  rw [← hW]
  have hEW := hid (H1.out.below bW.out)
  have hGW := hid (gl_below H2.out bW.out)
  clear hW bsg brk bW0 hsz
  generalize w1.heap.size = z at si sk ri rk hWz hz1 ⊢
  have hzi : z < W.heap.size := by omega
  have hzr : z + 1 < W.heap.size := by omega
  have hnz : z ≠ z + 1 + 1 := by omega
  have hnr : z + 1 ≠ z + 1 + 1 := by omega
  rw [h2.1] at ri
  rw [h2.2] at rk
  have ri : W.cell? ⟨z + 1, i, none⟩ = some (.int .i64 2) := ri
  have rk : W.cell? ⟨z + 1, k, none⟩ = some (.int .i64 2) := rk
  have hwz : w.heap.size ≤ z := hz1.out
  have t2 := True.intro
  go_region_held3 (fun V => V.cell? ⟨z, i, none⟩ = some (.string (bs (sgB i))) ∧ V.cell? ⟨z, k, none⟩ = some (.string (bs (sgB k)))) (first | exact ⟨si, sk⟩ | exact ⟨si2, sk2⟩ | exact ⟨si3, sk3⟩ | go_keep) ((first
    | (have hno := t2; (go_at_call 9; (refine (binds_noW ((Below.refl W.heap.size W).drew) hi hk h2 hEW.out hGW.out).mono ?_; rintro e w2 ⟨p, rfl, hb⟩; have si2 := cell_keep hb hzi si; have sk2 := cell_keep hb hzi sk; have ri2 := cell_keep hb hzr ri; have rk2 := cell_keep hb hzr rk; have hlt2 : z + 1 < w2.heap.size := (by have := hb.size; omega); have ri4 := cell_alloc hlt2 ri2; have rk4 := cell_alloc hlt2 rk2; have hb2 := hid hb; have t3 := True.intro; clear hb)))
    | (have hno := t2; (go_at_call 9; (refine (binds_noV hi hk h2 hEW.out hGW.out).mono ?_; rintro e w2 ⟨p, rfl, hb, hB⟩; rw [hWz] at hB; have h0 := hB; have y0 := hB.cell (i := 0) rfl; have x0 := Lx.freeT hB 0; have h1 := set_at4 h0 0 (.slice none 0 0); (simp only [Z4, List.setIfInBounds_toArray, List.set_cons_zero, List.set_cons_succ] at h1); have y1 := Lx.cellT h1 1; have x1 := Lx.freeT h1 1; (simp only [List.getElem?_toArray, List.getElem?_cons_zero, List.getElem?_cons_succ] at y1); have h2 := set_at4 h1 1 (.slice none 0 0); (simp only [Z4, List.setIfInBounds_toArray, List.set_cons_zero, List.set_cons_succ] at h2); have y2 := Lx.cellT h2 2; have x2 := Lx.freeT h2 2; (simp only [List.getElem?_toArray, List.getElem?_cons_zero, List.getElem?_cons_succ] at y2); have h3 := set_at4 h2 2 (.slice none 0 0); (simp only [Z4, List.setIfInBounds_toArray, List.set_cons_zero, List.set_cons_succ] at h3); have y3 := Lx.cellT h3 3; have x3 := Lx.freeT h3 3; (simp only [List.getElem?_toArray, List.getElem?_cons_zero, List.getElem?_cons_succ] at y3); have hB3 := hid h3; clear h0 h1 h2 h3 hB; have si2 := cell_keep hb hzi si; have sk2 := cell_keep hb hzi sk; have ri2 := cell_keep hb hzr ri; have rk2 := cell_keep hb hzr rk; have hlt2 : z + 1 < w2.heap.size := (by have := hb.size; omega); have ri4 := cell_alloc hlt2 ri2; have rk4 := cell_alloc hlt2 rk2; have hb2 := hid hb; have t3 := True.intro; clear hb; have si3 := set4_other (L := z + 1 + 1) (v0 := .slice none 0 0) (v1 := .slice none 0 0) (v2 := .slice none 0 0) (v3 := .slice none 0 0) hnz si2; have sk3 := set4_other (L := z + 1 + 1) (v0 := .slice none 0 0) (v1 := .slice none 0 0) (v2 := .slice none 0 0) (v3 := .slice none 0 0) hnz sk2; have ri3 := set4_other (L := z + 1 + 1) (v0 := .slice none 0 0) (v1 := .slice none 0 0) (v2 := .slice none 0 0) (v3 := .slice none 0 0) hnr ri2; have rk3 := set4_other (L := z + 1 + 1) (v0 := .slice none 0 0) (v1 := .slice none 0 0) (v2 := .slice none 0 0) (v3 := .slice none 0 0) hnr rk2; skip)))))
  · go_wp2
    refine bodyPost_ret (v := .bool true) (by simp [results, Tryz.results5, go_sem]) rfl ⟨rfl, ?_⟩
    exact (bW.out.trans (hb2.out.mono bW.out.size)).alloc (Nat.le_trans bW.out.size hb2.out.size) _
  · go_wp2
    refine bodyPost_ret (v := .bool true) (by simp [results, Tryz.results5, go_sem]) rfl ⟨rfl, ?_⟩
    have hL : ∀ c : Nat, w.heap.size ≤ (⟨z + 1 + 1, c, none⟩ : Addr).block := fun c => by show w.heap.size ≤ z + 1 + 1; omega
    exact ((((bW.out.trans (hb2.out.mono bW.out.size)).setCell (hL 0) _).setCell (hL 1) _).setCell (hL 2) _).setCell (hL 3) _
end Go.Proofs.YtcnohgifihbkdaaGreatDoor

namespace Go.Proofs.YtcnohgifihbkdaaGreatDoor
open Go Go.RowKit Go.Deep Go.Shelf
set_option linter.unusedVariables false
set_option linter.unusedSimpArgs false
set_option maxRecDepth 100000
def c1B (i : Nat) : Bsq := wC1 ++ sgB i
def c2B (i : Nat) : Bsq := c1B i ++ wC2
def c3B (i k : Nat) : Bsq := c2B i ++ sgB k
theorem c_len {i k : Nat} (h1 : (sgB i).length ≤ 3) (h2 : (sgB k).length ≤ 3) : (c1B i).length ≤ 10 ∧ (c2B i).length ≤ 15 ∧ (c3B i k).length ≤ 20 := by
  have e1 : wC1.length = 2 := rfl
  have e2 : wC2.length = 4 := rfl
  unfold c3B c2B c1B
  simp only [List.length_append]
  omega
def a1B (i : Nat) : Bsq := wA1 ++ sgB i
def a2B (i : Nat) : Bsq := a1B i ++ wA2
def a3B (i k : Nat) : Bsq := a2B i ++ sgB k
theorem a_len {i k : Nat} (h1 : (sgB i).length ≤ 3) (h2 : (sgB k).length ≤ 3) : (a1B i).length ≤ 10 ∧ (a2B i).length ≤ 15 ∧ (a3B i k).length ≤ 20 := by
  have e1 : wA1.length = 3 := rfl
  have e2 : wA2.length = 4 := rfl
  unfold a3B a2B a1B
  simp only [List.length_append]
  omega
end Go.Proofs.YtcnohgifihbkdaaGreatDoor

namespace Go.Proofs.YtcnohgifihbkdaaGreatDoor
open Go Go.RowKit Go.Deep Go.Shelf
set_option linter.unusedVariables false
set_option linter.unusedSimpArgs false
set_option maxRecDepth 100000
set_option maxHeartbeats 4000000 in
theorem binds_lt (w : World) (a b ra rb : Int) (i k : Nat) (hi : i < 17) (hk : k < 17) (ha : a.tmod 17 = ra) (ha2 : IntKind.i64.wrap (ra + 17) = ra + 17) (ha3 : (ra + 17).tmod 17 = (i : Int)) (hb : b.tmod 17 = rb) (hb2 : IntKind.i64.wrap (rb + 17) = rb + 17) (hb3 : (rb + 17).tmod 17 = (k : Int)) (h2 : ¬ (rkB i = 2 ∧ rkB k = 2)) (hlt : rkB i < rkB k) (hE : Lx.EnvT w) (hG : Gl w) : Calls Tryz.prog 5 #[.int .i64 a, .int .i64 b] w fun e w' => e = .returned (.bool true) ∧ Below w.heap.size w w' := by
  have t0 := True.intro
  have H1 := hid hE
  have H2 := hid hG
  have hi' : (i : Int) < 17 := by omega
  have hk' : (k : Int) < 17 := by omega
  have hlS := src_len hi hk
  obtain ⟨_, _, _, hl1⟩ := sgn_is hi
  obtain ⟨_, _, _, hl2⟩ := sgn_is hk
  obtain ⟨e1, e2, e3⟩ := s_len hl1 hl2
  have ad1 : ∀ V : World, (Op.stringOp .add ⟨#[111, 110, 32, 101, 40, 41, 32, 123, 32, 100, 111, 32, 120, 32]⟩ (bs (sgB i))).run Tryz.prog V = .ok (.string (bs (s1B i))) V := fun V => run_cat bdH _ (by have : bdH.length = 14 := rfl; omega) V
  have ad2 : ∀ V : World, (Op.stringOp .add (bs (s1B i)) ⟨#[32, 121, 32]⟩).run Tryz.prog V = .ok (.string (bs (s2B i))) V := fun V => run_cat _ bdY (by have : bdY.length = 3 := rfl; omega) V
  have ad3 : ∀ V : World, (Op.stringOp .add (bs (s2B i)) (bs (sgB k))).run Tryz.prog V = .ok (.string (bs (s3B i k))) V := fun V => run_cat _ _ (by omega) V
  have ad4 : ∀ V : World, (Op.stringOp .add (bs (s3B i k)) ⟨#[32, 122, 59, 32, 125]⟩).run Tryz.prog V = .ok (.string (bs (srcB i k))) V := fun V => run_cat _ bdZ (by have : bdZ.length = 5 := rfl; omega) V
  obtain ⟨c1, c2, c3⟩ := c_len hl1 hl2
  obtain ⟨a1', a2', a3'⟩ := a_len hl1 hl2
  have c1 : ∀ V : World, (Op.stringOp .add ⟨#[120, 32]⟩ (bs (sgB i))).run Tryz.prog V = .ok (.string (bs (c1B i))) V := fun V => run_cat wC1 _ (by have : wC1.length = 2 := rfl; omega) V
  have c2 : ∀ V : World, (Op.stringOp .add (bs (c1B i)) ⟨#[32, 40, 121, 32]⟩).run Tryz.prog V = .ok (.string (bs (c2B i))) V := fun V => run_cat _ wC2 (by have : wC2.length = 4 := rfl; omega) V
  have c3 : ∀ V : World, (Op.stringOp .add (bs (c2B i)) (bs (sgB k))).run Tryz.prog V = .ok (.string (bs (c3B i k))) V := fun V => run_cat _ _ (by omega) V
  have c4 : ∀ V : World, (Op.stringOp .add (bs (c3B i k)) ⟨#[32, 122, 41]⟩).run Tryz.prog V = .ok (.string (bs (wC i k))) V := fun V => run_cat _ wC3 (by have : wC3.length = 3 := rfl; omega) V
  have a1 : ∀ V : World, (Op.stringOp .add ⟨#[40, 120, 32]⟩ (bs (sgB i))).run Tryz.prog V = .ok (.string (bs (a1B i))) V := fun V => run_cat wA1 _ (by have : wA1.length = 3 := rfl; omega) V
  have a2 : ∀ V : World, (Op.stringOp .add (bs (a1B i)) ⟨#[32, 121, 41, 32]⟩).run Tryz.prog V = .ok (.string (bs (a2B i))) V := fun V => run_cat _ wA2 (by have : wA2.length = 4 := rfl; omega) V
  have a3 : ∀ V : World, (Op.stringOp .add (bs (a2B i)) (bs (sgB k))).run Tryz.prog V = .ok (.string (bs (a3B i k))) V := fun V => run_cat _ _ (by omega) V
  have a4 : ∀ V : World, (Op.stringOp .add (bs (a3B i k)) ⟨#[32, 122]⟩).run Tryz.prog V = .ok (.string (bs (wA i k))) V := fun V => run_cat _ wA3 (by have : wA3.length = 2 := rfl; omega) V
  have hwt : wantB i k = wC i k := by unfold wantB; rw [if_pos hlt]
  go_enter Tryz.func5, Tryz.ntmps5
  go_wp2_with ((have hno := t0; (go_at_call 8; (refine (known_any _ hE.mx hG).mono ?_; rintro e w1 ⟨rfl, hb⟩; have hz1 := hid hb.size; have hb1 := hid hb; have t1 := True.intro; clear hb))))
  have hsz : w1.heap.size ≤ w1.heap.size + 1 := by omega
  obtain ⟨W, hW⟩ : ∃ W, W = (w1.alloc (.cells sgV 38)).alloc (.cells rkV 39) := ⟨_, rfl⟩
  have hWz : W.heap.size = w1.heap.size + 1 + 1 := by rw [hW]; simp
  have bW0 : Below w1.heap.size w1 W := by rw [hW]; exact ((Below.refl _ _).alloc (Nat.le_refl _) _).alloc (by simp) _
  have bsg : Box w1.heap.size sgV 38 W := by rw [hW]; exact (Box.new w1 sgV 38).alloc _
  have brk : Box (w1.heap.size + 1) rkV 39 W := by rw [hW]; have q := Box.new (w1.alloc (.cells sgV 38)) rkV 39; rw [World.size_alloc] at q; exact q
  have si := bsg.cell (sgV_at hi).1
  have sk := bsg.cell (sgV_at hk).1
  have ri := brk.cell (sgV_at hi).2
  have rk := brk.cell (sgV_at hk).2
  have bW := hid (hb1.out.trans (bW0.mono hz1.out))
  unfold sgV rkV at hW
  rw [← hW]
  have hEW := hid (H1.out.below bW.out)
  have hGW := hid (gl_below H2.out bW.out)
  clear hW bsg brk bW0 hsz
  generalize w1.heap.size = z at si sk ri rk hWz hz1 ⊢
  have hzi : z < W.heap.size := by omega
  have hzr : z + 1 < W.heap.size := by omega
  have hnz : z ≠ z + 1 + 1 := by omega
  have hnr : z + 1 ≠ z + 1 + 1 := by omega
  obtain ⟨ρ, hρ⟩ : ∃ ρ : Int, ρ = (rkB i : Int) := ⟨_, rfl⟩
  obtain ⟨σ, hσ⟩ : ∃ σ : Int, σ = (rkB k : Int) := ⟨_, rfl⟩
  rw [← hρ] at ri
  rw [← hσ] at rk
  have hns : ρ = 2 → ¬ σ = 2 := by omega
  have hrs : ρ < σ := by omega
  have hwz : w.heap.size ≤ z := hz1.out
  have hyi : z < (W.drew.alloc (.cells Z4 25)).heap.size := by rw [World.size_alloc]; show z < W.heap.size + 1; omega
  have hyr : z + 1 < (W.drew.alloc (.cells Z4 25)).heap.size := by rw [World.size_alloc]; show z + 1 < W.heap.size + 1; omega
  clear hρ hσ
  have t2 := True.intro
  obtain ⟨ta, hta⟩ : ∃ v, v = Value.agg sgV := ⟨_, rfl⟩
  obtain ⟨tb, htb⟩ : ∃ v, v = Value.agg rkV := ⟨_, rfl⟩
  unfold sgV at hta
  unfold rkV at htb
  rw [← hta, ← htb]
  clear hta htb
  go_region_held3 (fun V => V.cell? ⟨z, i, none⟩ = some (.string (bs (sgB i))) ∧ V.cell? ⟨z, k, none⟩ = some (.string (bs (sgB k)))) (first | exact ⟨si, sk⟩ | exact ⟨si2, sk2⟩ | exact ⟨si3, sk3⟩ | go_keep) ((first
    | (have hno := t2; (go_at_call 9; (refine (binds_yesW ((Below.refl W.heap.size W).drew) hi hk h2 hEW.out hGW.out).mono ?_; rintro e w2 ⟨a0, a1, a2, n0, n1, n2, k0, k1, k2, g, off, cap, g2, off2, cap2, av, x, rfl, hcap, hg, h5, hcap2, hg2, h4, hX, hx, hb⟩; have si2 := cell_keep hb hzi si; have sk2 := cell_keep hb hzi sk; have ri2 := cell_keep hb hzr ri; have rk2 := cell_keep hb hzr rk; have hb2 := hid hb; have HX := hid hX; have HG1 := hid hg; have HG2 := hid hg2; have H5 := hid h5; have H4 := hid h4; have HXX := hid hx; have t3 := True.intro; clear hb hX hg hg2 h5 h4 hx)))
    | (have hno := t2; (go_at_call 9; (refine (binds_yesW (V := W.drew.alloc (.cells Z4 25)) (((Below.refl W.heap.size W).drew).alloc (Nat.le_refl _) _) hi hk h2 hEW.out hGW.out).mono ?_; rintro e w2 ⟨a0, a1, a2, n0, n1, n2, k0, k1, k2, g, off, cap, g2, off2, cap2, av, x, rfl, hcap, hg, h5, hcap2, hg2, h4, hX, hx, hb⟩; have hB := (Box.new W.drew Z4 25).below hb; have hB : Box W.heap.size Z4 25 w2 := hB; rw [hWz] at hB; have h0 := hB; have y0 := hB.cell (i := 0) rfl; have x0 := Lx.freeT hB 0; have h1 := set_at4 h0 0 (.slice a0 n0 k0); (simp only [Z4, List.setIfInBounds_toArray, List.set_cons_zero, List.set_cons_succ] at h1); have y1 := Lx.cellT h1 1; have x1 := Lx.freeT h1 1; (simp only [List.getElem?_toArray, List.getElem?_cons_zero, List.getElem?_cons_succ] at y1); have h2 := set_at4 h1 1 (.slice a1 n1 k1); (simp only [Z4, List.setIfInBounds_toArray, List.set_cons_zero, List.set_cons_succ] at h2); have y2 := Lx.cellT h2 2; have x2 := Lx.freeT h2 2; (simp only [List.getElem?_toArray, List.getElem?_cons_zero, List.getElem?_cons_succ] at y2); have h3 := set_at4 h2 2 (.slice a2 n2 k2); (simp only [Z4, List.setIfInBounds_toArray, List.set_cons_zero, List.set_cons_succ] at h3); have y3 := Lx.cellT h3 3; have x3 := Lx.freeT h3 3; (simp only [List.getElem?_toArray, List.getElem?_cons_zero, List.getElem?_cons_succ] at y3); have hB3 := hid h3; clear h0 h1 h2 h3 hB; have si2 := cell_keep hb hyi (cell_alloc (w := W.drew) hzi si _); have sk2 := cell_keep hb hyi (cell_alloc (w := W.drew) hzi sk _); have ri2 := cell_keep hb hyr (cell_alloc (w := W.drew) hzr ri _); have rk2 := cell_keep hb hyr (cell_alloc (w := W.drew) hzr rk _); have si3 := set4_other (L := z + 1 + 1) (v0 := .slice a0 n0 k0) (v1 := .slice a1 n1 k1) (v2 := .slice a2 n2 k2) (v3 := .slice (some ⟨g, off, none⟩) 1 cap) hnz si2; have sk3 := set4_other (L := z + 1 + 1) (v0 := .slice a0 n0 k0) (v1 := .slice a1 n1 k1) (v2 := .slice a2 n2 k2) (v3 := .slice (some ⟨g, off, none⟩) 1 cap) hnz sk2; have ri3 := set4_other (L := z + 1 + 1) (v0 := .slice a0 n0 k0) (v1 := .slice a1 n1 k1) (v2 := .slice a2 n2 k2) (v3 := .slice (some ⟨g, off, none⟩) 1 cap) hnr ri2; have rk3 := set4_other (L := z + 1 + 1) (v0 := .slice a0 n0 k0) (v1 := .slice a1 n1 k1) (v2 := .slice a2 n2 k2) (v3 := .slice (some ⟨g, off, none⟩) 1 cap) hnr rk2; have hb2 := hid hb; have HX := hid hX; have HG1 := hid hg; have HG2 := hid hg2; have H5 := hid h5; have H4 := hid h4; have HXX := hid hx; have t3 := True.intro; clear hb hX hg hg2 h5 h4 hx)))))
  all_goals first
    | (
        obtain ⟨X, hXX⟩ : ∃ X, X = w2.alloc (.cells #[.slice a0 n0 k0, .slice a1 n1 k1, .slice a2 n2 k2, .slice (some ⟨g, off, none⟩) 1 cap] 25) := ⟨_, rfl⟩
        obtain ⟨L, hL⟩ : ∃ L, L = w2.heap.size := ⟨_, rfl⟩
        have k3 : X.cell? ⟨L, 3, none⟩ = some (.slice (some ⟨g, off, none⟩) 1 cap) := by rw [hXX, hL]; exact (Box.new w2 #[.slice a0 n0 k0, .slice a1 n1 k1, .slice a2 n2 k2, .slice (some ⟨g, off, none⟩) 1 cap] 25).cell rfl
        have k5 := cell_alloc HG1.out.2 H5.out (.cells #[.slice a0 n0 k0, .slice a1 n1 k1, .slice a2 n2 k2, .slice (some ⟨g, off, none⟩) 1 cap] 25)
        have k4 := cell_alloc HG2.out.2 H4.out (.cells #[.slice a0 n0 k0, .slice a1 n1 k1, .slice a2 n2 k2, .slice (some ⟨g, off, none⟩) 1 cap] 25)
        have y1 := cell_alloc (by have := hb2.out.size; exact Nat.lt_of_lt_of_le hzi this) si2 (.cells #[.slice a0 n0 k0, .slice a1 n1 k1, .slice a2 n2 k2, .slice (some ⟨g, off, none⟩) 1 cap] 25)
        have y2 := cell_alloc (by have := hb2.out.size; exact Nat.lt_of_lt_of_le hzi this) sk2 (.cells #[.slice a0 n0 k0, .slice a1 n1 k1, .slice a2 n2 k2, .slice (some ⟨g, off, none⟩) 1 cap] 25)
        have y3 := cell_alloc (by have := hb2.out.size; exact Nat.lt_of_lt_of_le hzr this) ri2 (.cells #[.slice a0 n0 k0, .slice a1 n1 k1, .slice a2 n2 k2, .slice (some ⟨g, off, none⟩) 1 cap] 25)
        have y4 := cell_alloc (by have := hb2.out.size; exact Nat.lt_of_lt_of_le hzr this) rk2 (.cells #[.slice a0 n0 k0, .slice a1 n1 k1, .slice a2 n2 k2, .slice (some ⟨g, off, none⟩) 1 cap] 25)
        have bX : Below W.heap.size W X := by rw [hXX]; exact (((Below.refl W.heap.size W).drew).trans hb2.out).alloc hb2.out.size _
        have HXR := hid (HX.out.mv (Same.alloc (o := .cells #[.slice a0 n0 k0, .slice a1 n1 k1, .slice a2 n2 k2, .slice (some ⟨g, off, none⟩) 1 cap] 25) (Same.refl _ _) fun g h => h.2) fun g h => h)
        rw [← hXX] at k5 k4 y1 y2 y3 y4 HXR ⊢
        rw [← hL]
        have hEX := hid (hEW.out.below bX)
        obtain ⟨g3, off3, cap3, kd, op, it, tx, nm, na, aa, nn, nc, an, ac, ps, rfl, hc3, e0, e1, e2, e3, e4, e5, e6, e7, HC⟩ := binds_expr hi hk HXR.out HXX.out hEX.out
        have bXw := hid (bW.out.trans (bX.mono bW.out.size))
        have hzX : z < X.heap.size := Nat.lt_of_lt_of_le hzi bX.size
        have hzX1 : z + 1 < X.heap.size := Nat.lt_of_lt_of_le hzr bX.size
        have HC := hid HC
        have t4 := True.intro
        clear hXX hL si2 sk2 ri2 rk2 HX HG1 HG2 H5 H4 HXX HXR hb2 bX hEX si sk ri rk hWz hzi hzr hnz hnr t3
      )
    | (
        obtain ⟨X, hXX⟩ : ∃ X, X = ((((w2.setCell ⟨z + 1 + 1, 0, none⟩ (.slice a0 n0 k0)).setCell ⟨z + 1 + 1, 1, none⟩ (.slice a1 n1 k1)).setCell ⟨z + 1 + 1, 2, none⟩ (.slice a2 n2 k2)).setCell ⟨z + 1 + 1, 3, none⟩ (.slice (some ⟨g, off, none⟩) 1 cap)) := ⟨_, rfl⟩
        obtain ⟨L, hL⟩ : ∃ L, L = z + 1 + 1 := ⟨_, rfl⟩
        have hVz : (W.drew.alloc (.cells Z4 25)).heap.size = z + 1 + 1 + 1 := by rw [World.size_alloc]; show W.heap.size + 1 = _; omega
        have k3 : X.cell? ⟨L, 3, none⟩ = some (.slice (some ⟨g, off, none⟩) 1 cap) := by
          have h4 := set_at4 hB3.out 3 (.slice (some ⟨g, off, none⟩) 1 cap)
          rw [hXX, hL]
          exact (Lx.cellT h4 3).trans rfl
        have k5 := set4_other (L := z + 1 + 1) (v0 := .slice a0 n0 k0) (v1 := .slice a1 n1 k1) (v2 := .slice a2 n2 k2) (v3 := .slice (some ⟨g, off, none⟩) 1 cap) (show g ≠ z + 1 + 1 by have := HG1.out.1; omega) H5.out
        have k4 := set4_other (L := z + 1 + 1) (v0 := .slice a0 n0 k0) (v1 := .slice a1 n1 k1) (v2 := .slice a2 n2 k2) (v3 := .slice (some ⟨g, off, none⟩) 1 cap) (show g2 ≠ z + 1 + 1 by have := HG2.out.1; omega) H4.out
        have y1 := si3
        have y2 := sk3
        have y3 := ri3
        have y4 := rk3
        have hLb : ∀ c : Nat, W.heap.size ≤ (⟨z + 1 + 1, c, none⟩ : Addr).block := fun c => by show W.heap.size ≤ z + 1 + 1; omega
        have bV : Below W.heap.size W (W.drew.alloc (.cells Z4 25)) := ((Below.refl W.heap.size W).drew).alloc (Nat.le_refl _) _
        have bX : Below W.heap.size W X := by rw [hXX]; exact ((((bV.trans (hb2.out.mono bV.size)).setCell (hLb 0) _).setCell (hLb 1) _).setCell (hLb 2) _).setCell (hLb 3) _
        have hnA : ¬ ((W.drew.alloc (.cells Z4 25)).heap.size ≤ z + 1 + 1 ∧ z + 1 + 1 < w2.heap.size) := by omega
        have HXR := hid (HX.out.mv (B := fun g => (W.drew.alloc (.cells Z4 25)).heap.size ≤ g ∧ g < w2.heap.size) (Same.set (b := z + 1 + 1) (i := 3) (v := .slice (some ⟨g, off, none⟩) 1 cap) (Same.set (b := z + 1 + 1) (i := 2) (v := .slice a2 n2 k2) (Same.set (b := z + 1 + 1) (i := 1) (v := .slice a1 n1 k1) (Same.set (b := z + 1 + 1) (i := 0) (v := .slice a0 n0 k0) (Same.refl _ _) hnA) hnA) hnA) hnA) (fun g h => h))
        rw [← hXX] at k5 k4 y1 y2 y3 y4 HXR ⊢
        rw [← hL]
        have hEX := hid (hEW.out.below bX)
        obtain ⟨g3, off3, cap3, kd, op, it, tx, nm, na, aa, nn, nc, an, ac, ps, rfl, hc3, e0, e1, e2, e3, e4, e5, e6, e7, HC⟩ := binds_expr hi hk HXR.out HXX.out hEX.out
        have bXw := hid (bW.out.trans (bX.mono bW.out.size))
        have hzX : z < X.heap.size := Nat.lt_of_lt_of_le hzi bX.size
        have hzX1 : z + 1 < X.heap.size := Nat.lt_of_lt_of_le hzr bX.size
        have HC := hid HC
        have t4 := True.intro
        clear hXX hL si2 sk2 ri2 rk2 si3 sk3 ri3 rk3 HX HG1 HG2 H5 H4 HXX HXR hb2 bX hEX si sk ri rk hWz hzi hzr hnz hnr t3 hVz hLb bV hnA hB3 hyi hyr
      )
  all_goals
    rw [hwt] at HC
    by_cases q2 : ρ = 2
    all_goals
      try have q3 := hns q2
      go_wp2_with ((have hno := t4; (go_at_call 13; (refine HC.out.mono ?_; rintro e w5 ⟨rfl, hb⟩; have si5 := cell_keep hb hzX y1; have sk5 := cell_keep hb hzX y2; have ri5 := cell_keep hb hzX1 y3; have rk5 := cell_keep hb hzX1 y4; have hb5 := hid hb; have t5 := True.intro; clear hb))))
      go_region_held3 (fun V => V.cell? ⟨z, i, none⟩ = some (.string (bs (sgB i))) ∧ V.cell? ⟨z, k, none⟩ = some (.string (bs (sgB k)))) (first | exact ⟨si5, sk5⟩ | go_keep) (fail)
      go_wp2
      go_region_held3 (fun V => V.cell? ⟨z + 1, i, none⟩ = some (.int .i64 ρ) ∧ V.cell? ⟨z + 1, k, none⟩ = some (.int .i64 σ)) (first | exact ⟨ri5, rk5⟩ | go_keep) (fail)
      go_wp2
      go_region_held3 (fun V => V.cell? ⟨z, i, none⟩ = some (.string (bs (sgB i))) ∧ V.cell? ⟨z, k, none⟩ = some (.string (bs (sgB k)))) (first | exact ⟨si5, sk5⟩ | go_keep) (fail)
      go_wp2
      refine bodyPost_ret (v := .bool true) (by simp [results, Tryz.results5, go_sem]) rfl ⟨rfl, ?_⟩
      exact ((bXw.out.trans (hb5.out.mono bXw.out.size))).drew.drew.drew
end Go.Proofs.YtcnohgifihbkdaaGreatDoor

namespace Go.Proofs.YtcnohgifihbkdaaGreatDoor
open Go Go.RowKit Go.Deep Go.Shelf
set_option linter.unusedVariables false
set_option linter.unusedSimpArgs false
set_option maxRecDepth 100000
set_option maxHeartbeats 4000000 in
theorem binds_ge (w : World) (a b ra rb : Int) (i k : Nat) (hi : i < 17) (hk : k < 17) (ha : a.tmod 17 = ra) (ha2 : IntKind.i64.wrap (ra + 17) = ra + 17) (ha3 : (ra + 17).tmod 17 = (i : Int)) (hb : b.tmod 17 = rb) (hb2 : IntKind.i64.wrap (rb + 17) = rb + 17) (hb3 : (rb + 17).tmod 17 = (k : Int)) (h2 : ¬ (rkB i = 2 ∧ rkB k = 2)) (hlt : ¬ rkB i < rkB k) (hE : Lx.EnvT w) (hG : Gl w) : Calls Tryz.prog 5 #[.int .i64 a, .int .i64 b] w fun e w' => e = .returned (.bool true) ∧ Below w.heap.size w w' := by
  have t0 := True.intro
  have H1 := hid hE
  have H2 := hid hG
  have hi' : (i : Int) < 17 := by omega
  have hk' : (k : Int) < 17 := by omega
  have hlS := src_len hi hk
  obtain ⟨_, _, _, hl1⟩ := sgn_is hi
  obtain ⟨_, _, _, hl2⟩ := sgn_is hk
  obtain ⟨e1, e2, e3⟩ := s_len hl1 hl2
  have ad1 : ∀ V : World, (Op.stringOp .add ⟨#[111, 110, 32, 101, 40, 41, 32, 123, 32, 100, 111, 32, 120, 32]⟩ (bs (sgB i))).run Tryz.prog V = .ok (.string (bs (s1B i))) V := fun V => run_cat bdH _ (by have : bdH.length = 14 := rfl; omega) V
  have ad2 : ∀ V : World, (Op.stringOp .add (bs (s1B i)) ⟨#[32, 121, 32]⟩).run Tryz.prog V = .ok (.string (bs (s2B i))) V := fun V => run_cat _ bdY (by have : bdY.length = 3 := rfl; omega) V
  have ad3 : ∀ V : World, (Op.stringOp .add (bs (s2B i)) (bs (sgB k))).run Tryz.prog V = .ok (.string (bs (s3B i k))) V := fun V => run_cat _ _ (by omega) V
  have ad4 : ∀ V : World, (Op.stringOp .add (bs (s3B i k)) ⟨#[32, 122, 59, 32, 125]⟩).run Tryz.prog V = .ok (.string (bs (srcB i k))) V := fun V => run_cat _ bdZ (by have : bdZ.length = 5 := rfl; omega) V
  obtain ⟨c1, c2, c3⟩ := c_len hl1 hl2
  obtain ⟨a1', a2', a3'⟩ := a_len hl1 hl2
  have a1 : ∀ V : World, (Op.stringOp .add ⟨#[40, 120, 32]⟩ (bs (sgB i))).run Tryz.prog V = .ok (.string (bs (a1B i))) V := fun V => run_cat wA1 _ (by have : wA1.length = 3 := rfl; omega) V
  have a2 : ∀ V : World, (Op.stringOp .add (bs (a1B i)) ⟨#[32, 121, 41, 32]⟩).run Tryz.prog V = .ok (.string (bs (a2B i))) V := fun V => run_cat _ wA2 (by have : wA2.length = 4 := rfl; omega) V
  have a3 : ∀ V : World, (Op.stringOp .add (bs (a2B i)) (bs (sgB k))).run Tryz.prog V = .ok (.string (bs (a3B i k))) V := fun V => run_cat _ _ (by omega) V
  have a4 : ∀ V : World, (Op.stringOp .add (bs (a3B i k)) ⟨#[32, 122]⟩).run Tryz.prog V = .ok (.string (bs (wA i k))) V := fun V => run_cat _ wA3 (by have : wA3.length = 2 := rfl; omega) V
  have hwt : wantB i k = wA i k := by unfold wantB; rw [if_neg hlt]
  go_enter Tryz.func5, Tryz.ntmps5
  go_wp2_with ((have hno := t0; (go_at_call 8; (refine (known_any _ hE.mx hG).mono ?_; rintro e w1 ⟨rfl, hb⟩; have hz1 := hid hb.size; have hb1 := hid hb; have t1 := True.intro; clear hb))))
  have hsz : w1.heap.size ≤ w1.heap.size + 1 := by omega
  obtain ⟨W, hW⟩ : ∃ W, W = (w1.alloc (.cells sgV 38)).alloc (.cells rkV 39) := ⟨_, rfl⟩
  have hWz : W.heap.size = w1.heap.size + 1 + 1 := by rw [hW]; simp
  have bW0 : Below w1.heap.size w1 W := by rw [hW]; exact ((Below.refl _ _).alloc (Nat.le_refl _) _).alloc (by simp) _
  have bsg : Box w1.heap.size sgV 38 W := by rw [hW]; exact (Box.new w1 sgV 38).alloc _
  have brk : Box (w1.heap.size + 1) rkV 39 W := by rw [hW]; have q := Box.new (w1.alloc (.cells sgV 38)) rkV 39; rw [World.size_alloc] at q; exact q
  have si := bsg.cell (sgV_at hi).1
  have sk := bsg.cell (sgV_at hk).1
  have ri := brk.cell (sgV_at hi).2
  have rk := brk.cell (sgV_at hk).2
  have bW := hid (hb1.out.trans (bW0.mono hz1.out))
  unfold sgV rkV at hW
  rw [← hW]
  have hEW := hid (H1.out.below bW.out)
  have hGW := hid (gl_below H2.out bW.out)
  clear hW bsg brk bW0 hsz
  generalize w1.heap.size = z at si sk ri rk hWz hz1 ⊢
  have hzi : z < W.heap.size := by omega
  have hzr : z + 1 < W.heap.size := by omega
  have hnz : z ≠ z + 1 + 1 := by omega
  have hnr : z + 1 ≠ z + 1 + 1 := by omega
  obtain ⟨ρ, hρ⟩ : ∃ ρ : Int, ρ = (rkB i : Int) := ⟨_, rfl⟩
  obtain ⟨σ, hσ⟩ : ∃ σ : Int, σ = (rkB k : Int) := ⟨_, rfl⟩
  rw [← hρ] at ri
  rw [← hσ] at rk
  have hns : ρ = 2 → ¬ σ = 2 := by omega
  have hrs : ¬ (ρ < σ) := by omega
  have hwz : w.heap.size ≤ z := hz1.out
  have hyi : z < (W.drew.alloc (.cells Z4 25)).heap.size := by rw [World.size_alloc]; show z < W.heap.size + 1; omega
  have hyr : z + 1 < (W.drew.alloc (.cells Z4 25)).heap.size := by rw [World.size_alloc]; show z + 1 < W.heap.size + 1; omega
  clear hρ hσ
  have t2 := True.intro
  obtain ⟨ta, hta⟩ : ∃ v, v = Value.agg sgV := ⟨_, rfl⟩
  obtain ⟨tb, htb⟩ : ∃ v, v = Value.agg rkV := ⟨_, rfl⟩
  unfold sgV at hta
  unfold rkV at htb
  rw [← hta, ← htb]
  clear hta htb
  go_region_held3 (fun V => V.cell? ⟨z, i, none⟩ = some (.string (bs (sgB i))) ∧ V.cell? ⟨z, k, none⟩ = some (.string (bs (sgB k)))) (first | exact ⟨si, sk⟩ | exact ⟨si2, sk2⟩ | exact ⟨si3, sk3⟩ | go_keep) ((first
    | (have hno := t2; (go_at_call 9; (refine (binds_yesW ((Below.refl W.heap.size W).drew) hi hk h2 hEW.out hGW.out).mono ?_; rintro e w2 ⟨a0, a1, a2, n0, n1, n2, k0, k1, k2, g, off, cap, g2, off2, cap2, av, x, rfl, hcap, hg, h5, hcap2, hg2, h4, hX, hx, hb⟩; have si2 := cell_keep hb hzi si; have sk2 := cell_keep hb hzi sk; have ri2 := cell_keep hb hzr ri; have rk2 := cell_keep hb hzr rk; have hb2 := hid hb; have HX := hid hX; have HG1 := hid hg; have HG2 := hid hg2; have H5 := hid h5; have H4 := hid h4; have HXX := hid hx; have t3 := True.intro; clear hb hX hg hg2 h5 h4 hx)))
    | (have hno := t2; (go_at_call 9; (refine (binds_yesW (V := W.drew.alloc (.cells Z4 25)) (((Below.refl W.heap.size W).drew).alloc (Nat.le_refl _) _) hi hk h2 hEW.out hGW.out).mono ?_; rintro e w2 ⟨a0, a1, a2, n0, n1, n2, k0, k1, k2, g, off, cap, g2, off2, cap2, av, x, rfl, hcap, hg, h5, hcap2, hg2, h4, hX, hx, hb⟩; have hB := (Box.new W.drew Z4 25).below hb; have hB : Box W.heap.size Z4 25 w2 := hB; rw [hWz] at hB; have h0 := hB; have y0 := hB.cell (i := 0) rfl; have x0 := Lx.freeT hB 0; have h1 := set_at4 h0 0 (.slice a0 n0 k0); (simp only [Z4, List.setIfInBounds_toArray, List.set_cons_zero, List.set_cons_succ] at h1); have y1 := Lx.cellT h1 1; have x1 := Lx.freeT h1 1; (simp only [List.getElem?_toArray, List.getElem?_cons_zero, List.getElem?_cons_succ] at y1); have h2 := set_at4 h1 1 (.slice a1 n1 k1); (simp only [Z4, List.setIfInBounds_toArray, List.set_cons_zero, List.set_cons_succ] at h2); have y2 := Lx.cellT h2 2; have x2 := Lx.freeT h2 2; (simp only [List.getElem?_toArray, List.getElem?_cons_zero, List.getElem?_cons_succ] at y2); have h3 := set_at4 h2 2 (.slice a2 n2 k2); (simp only [Z4, List.setIfInBounds_toArray, List.set_cons_zero, List.set_cons_succ] at h3); have y3 := Lx.cellT h3 3; have x3 := Lx.freeT h3 3; (simp only [List.getElem?_toArray, List.getElem?_cons_zero, List.getElem?_cons_succ] at y3); have hB3 := hid h3; clear h0 h1 h2 h3 hB; have si2 := cell_keep hb hyi (cell_alloc (w := W.drew) hzi si _); have sk2 := cell_keep hb hyi (cell_alloc (w := W.drew) hzi sk _); have ri2 := cell_keep hb hyr (cell_alloc (w := W.drew) hzr ri _); have rk2 := cell_keep hb hyr (cell_alloc (w := W.drew) hzr rk _); have si3 := set4_other (L := z + 1 + 1) (v0 := .slice a0 n0 k0) (v1 := .slice a1 n1 k1) (v2 := .slice a2 n2 k2) (v3 := .slice (some ⟨g, off, none⟩) 1 cap) hnz si2; have sk3 := set4_other (L := z + 1 + 1) (v0 := .slice a0 n0 k0) (v1 := .slice a1 n1 k1) (v2 := .slice a2 n2 k2) (v3 := .slice (some ⟨g, off, none⟩) 1 cap) hnz sk2; have ri3 := set4_other (L := z + 1 + 1) (v0 := .slice a0 n0 k0) (v1 := .slice a1 n1 k1) (v2 := .slice a2 n2 k2) (v3 := .slice (some ⟨g, off, none⟩) 1 cap) hnr ri2; have rk3 := set4_other (L := z + 1 + 1) (v0 := .slice a0 n0 k0) (v1 := .slice a1 n1 k1) (v2 := .slice a2 n2 k2) (v3 := .slice (some ⟨g, off, none⟩) 1 cap) hnr rk2; have hb2 := hid hb; have HX := hid hX; have HG1 := hid hg; have HG2 := hid hg2; have H5 := hid h5; have H4 := hid h4; have HXX := hid hx; have t3 := True.intro; clear hb hX hg hg2 h5 h4 hx)))))
  all_goals first
    | (
        obtain ⟨X, hXX⟩ : ∃ X, X = w2.alloc (.cells #[.slice a0 n0 k0, .slice a1 n1 k1, .slice a2 n2 k2, .slice (some ⟨g, off, none⟩) 1 cap] 25) := ⟨_, rfl⟩
        obtain ⟨L, hL⟩ : ∃ L, L = w2.heap.size := ⟨_, rfl⟩
        have k3 : X.cell? ⟨L, 3, none⟩ = some (.slice (some ⟨g, off, none⟩) 1 cap) := by rw [hXX, hL]; exact (Box.new w2 #[.slice a0 n0 k0, .slice a1 n1 k1, .slice a2 n2 k2, .slice (some ⟨g, off, none⟩) 1 cap] 25).cell rfl
        have k5 := cell_alloc HG1.out.2 H5.out (.cells #[.slice a0 n0 k0, .slice a1 n1 k1, .slice a2 n2 k2, .slice (some ⟨g, off, none⟩) 1 cap] 25)
        have k4 := cell_alloc HG2.out.2 H4.out (.cells #[.slice a0 n0 k0, .slice a1 n1 k1, .slice a2 n2 k2, .slice (some ⟨g, off, none⟩) 1 cap] 25)
        have y1 := cell_alloc (by have := hb2.out.size; exact Nat.lt_of_lt_of_le hzi this) si2 (.cells #[.slice a0 n0 k0, .slice a1 n1 k1, .slice a2 n2 k2, .slice (some ⟨g, off, none⟩) 1 cap] 25)
        have y2 := cell_alloc (by have := hb2.out.size; exact Nat.lt_of_lt_of_le hzi this) sk2 (.cells #[.slice a0 n0 k0, .slice a1 n1 k1, .slice a2 n2 k2, .slice (some ⟨g, off, none⟩) 1 cap] 25)
        have y3 := cell_alloc (by have := hb2.out.size; exact Nat.lt_of_lt_of_le hzr this) ri2 (.cells #[.slice a0 n0 k0, .slice a1 n1 k1, .slice a2 n2 k2, .slice (some ⟨g, off, none⟩) 1 cap] 25)
        have y4 := cell_alloc (by have := hb2.out.size; exact Nat.lt_of_lt_of_le hzr this) rk2 (.cells #[.slice a0 n0 k0, .slice a1 n1 k1, .slice a2 n2 k2, .slice (some ⟨g, off, none⟩) 1 cap] 25)
        have bX : Below W.heap.size W X := by rw [hXX]; exact (((Below.refl W.heap.size W).drew).trans hb2.out).alloc hb2.out.size _
        have HXR := hid (HX.out.mv (Same.alloc (o := .cells #[.slice a0 n0 k0, .slice a1 n1 k1, .slice a2 n2 k2, .slice (some ⟨g, off, none⟩) 1 cap] 25) (Same.refl _ _) fun g h => h.2) fun g h => h)
        rw [← hXX] at k5 k4 y1 y2 y3 y4 HXR ⊢
        rw [← hL]
        have hEX := hid (hEW.out.below bX)
        obtain ⟨g3, off3, cap3, kd, op, it, tx, nm, na, aa, nn, nc, an, ac, ps, rfl, hc3, e0, e1, e2, e3, e4, e5, e6, e7, HC⟩ := binds_expr hi hk HXR.out HXX.out hEX.out
        have bXw := hid (bW.out.trans (bX.mono bW.out.size))
        have hzX : z < X.heap.size := Nat.lt_of_lt_of_le hzi bX.size
        have hzX1 : z + 1 < X.heap.size := Nat.lt_of_lt_of_le hzr bX.size
        have HC := hid HC
        have t4 := True.intro
        clear hXX hL si2 sk2 ri2 rk2 HX HG1 HG2 H5 H4 HXX HXR hb2 bX hEX si sk ri rk hWz hzi hzr hnz hnr t3
      )
    | (
        obtain ⟨X, hXX⟩ : ∃ X, X = ((((w2.setCell ⟨z + 1 + 1, 0, none⟩ (.slice a0 n0 k0)).setCell ⟨z + 1 + 1, 1, none⟩ (.slice a1 n1 k1)).setCell ⟨z + 1 + 1, 2, none⟩ (.slice a2 n2 k2)).setCell ⟨z + 1 + 1, 3, none⟩ (.slice (some ⟨g, off, none⟩) 1 cap)) := ⟨_, rfl⟩
        obtain ⟨L, hL⟩ : ∃ L, L = z + 1 + 1 := ⟨_, rfl⟩
        have hVz : (W.drew.alloc (.cells Z4 25)).heap.size = z + 1 + 1 + 1 := by rw [World.size_alloc]; show W.heap.size + 1 = _; omega
        have k3 : X.cell? ⟨L, 3, none⟩ = some (.slice (some ⟨g, off, none⟩) 1 cap) := by
          have h4 := set_at4 hB3.out 3 (.slice (some ⟨g, off, none⟩) 1 cap)
          rw [hXX, hL]
          exact (Lx.cellT h4 3).trans rfl
        have k5 := set4_other (L := z + 1 + 1) (v0 := .slice a0 n0 k0) (v1 := .slice a1 n1 k1) (v2 := .slice a2 n2 k2) (v3 := .slice (some ⟨g, off, none⟩) 1 cap) (show g ≠ z + 1 + 1 by have := HG1.out.1; omega) H5.out
        have k4 := set4_other (L := z + 1 + 1) (v0 := .slice a0 n0 k0) (v1 := .slice a1 n1 k1) (v2 := .slice a2 n2 k2) (v3 := .slice (some ⟨g, off, none⟩) 1 cap) (show g2 ≠ z + 1 + 1 by have := HG2.out.1; omega) H4.out
        have y1 := si3
        have y2 := sk3
        have y3 := ri3
        have y4 := rk3
        have hLb : ∀ c : Nat, W.heap.size ≤ (⟨z + 1 + 1, c, none⟩ : Addr).block := fun c => by show W.heap.size ≤ z + 1 + 1; omega
        have bV : Below W.heap.size W (W.drew.alloc (.cells Z4 25)) := ((Below.refl W.heap.size W).drew).alloc (Nat.le_refl _) _
        have bX : Below W.heap.size W X := by rw [hXX]; exact ((((bV.trans (hb2.out.mono bV.size)).setCell (hLb 0) _).setCell (hLb 1) _).setCell (hLb 2) _).setCell (hLb 3) _
        have hnA : ¬ ((W.drew.alloc (.cells Z4 25)).heap.size ≤ z + 1 + 1 ∧ z + 1 + 1 < w2.heap.size) := by omega
        have HXR := hid (HX.out.mv (B := fun g => (W.drew.alloc (.cells Z4 25)).heap.size ≤ g ∧ g < w2.heap.size) (Same.set (b := z + 1 + 1) (i := 3) (v := .slice (some ⟨g, off, none⟩) 1 cap) (Same.set (b := z + 1 + 1) (i := 2) (v := .slice a2 n2 k2) (Same.set (b := z + 1 + 1) (i := 1) (v := .slice a1 n1 k1) (Same.set (b := z + 1 + 1) (i := 0) (v := .slice a0 n0 k0) (Same.refl _ _) hnA) hnA) hnA) hnA) (fun g h => h))
        rw [← hXX] at k5 k4 y1 y2 y3 y4 HXR ⊢
        rw [← hL]
        have hEX := hid (hEW.out.below bX)
        obtain ⟨g3, off3, cap3, kd, op, it, tx, nm, na, aa, nn, nc, an, ac, ps, rfl, hc3, e0, e1, e2, e3, e4, e5, e6, e7, HC⟩ := binds_expr hi hk HXR.out HXX.out hEX.out
        have bXw := hid (bW.out.trans (bX.mono bW.out.size))
        have hzX : z < X.heap.size := Nat.lt_of_lt_of_le hzi bX.size
        have hzX1 : z + 1 < X.heap.size := Nat.lt_of_lt_of_le hzr bX.size
        have HC := hid HC
        have t4 := True.intro
        clear hXX hL si2 sk2 ri2 rk2 si3 sk3 ri3 rk3 HX HG1 HG2 H5 H4 HXX HXR hb2 bX hEX si sk ri rk hWz hzi hzr hnz hnr t3 hVz hLb bV hnA hB3 hyi hyr
      )
  all_goals
    rw [hwt] at HC
    by_cases q2 : ρ = 2
    all_goals
      try have q3 := hns q2
      go_wp2_with ((have hno := t4; (go_at_call 13; (refine HC.out.mono ?_; rintro e w5 ⟨rfl, hb⟩; have si5 := cell_keep hb hzX y1; have sk5 := cell_keep hb hzX y2; have ri5 := cell_keep hb hzX1 y3; have rk5 := cell_keep hb hzX1 y4; have hb5 := hid hb; have t5 := True.intro; clear hb))))
      go_region_held3 (fun V => V.cell? ⟨z, i, none⟩ = some (.string (bs (sgB i))) ∧ V.cell? ⟨z, k, none⟩ = some (.string (bs (sgB k)))) (first | exact ⟨si5, sk5⟩ | go_keep) (fail)
      go_wp2
      go_region_held3 (fun V => V.cell? ⟨z + 1, i, none⟩ = some (.int .i64 ρ) ∧ V.cell? ⟨z + 1, k, none⟩ = some (.int .i64 σ)) (first | exact ⟨ri5, rk5⟩ | go_keep) (fail)
      go_wp2
      refine bodyPost_ret (v := .bool true) (by simp [results, Tryz.results5, go_sem]) rfl ⟨rfl, ?_⟩
      exact ((bXw.out.trans (hb5.out.mono bXw.out.size))).drew.drew
end Go.Proofs.YtcnohgifihbkdaaGreatDoor

namespace Go.Proofs.YtcnohgifihbkdaaGreatDoor
open Go Go.RowKit Go.Deep Go.Shelf
set_option maxRecDepth 100000
theorem mod17 (a : Int) : ∃ i : Nat, i < 17 ∧ IntKind.i64.wrap (a.tmod 17 + 17) = a.tmod 17 + 17 ∧ (a.tmod 17 + 17).tmod 17 = (i : Int) := by
  have b1 : a.tmod 17 < 17 := Int.tmod_lt_of_pos a (show (0 : Int) < 17 by decide)
  have b2 : -17 < a.tmod 17 := by
    have := Int.neg_tmod a 17
    have q := Int.tmod_lt_of_pos (-a) (show (0 : Int) < 17 by decide)
    omega
  have b3 : 0 ≤ (a.tmod 17 + 17).tmod 17 := Int.tmod_nonneg _ (by omega)
  have b4 : (a.tmod 17 + 17).tmod 17 < 17 := Int.tmod_lt_of_pos _ (show (0 : Int) < 17 by decide)
  refine ⟨((a.tmod 17 + 17).tmod 17).toNat, by omega, wrap_small _ (by omega) (by omega), by omega⟩
theorem binds_any (w : World) (a b : Int) (hE : Lx.EnvT w) (hG : Gl w) : Calls Tryz.prog 5 #[.int .i64 a, .int .i64 b] w fun e w' => e = .returned (.bool true) ∧ Below w.heap.size w w' := by
  obtain ⟨i, hi, ha2, ha3⟩ := mod17 a
  obtain ⟨k, hk, hb2, hb3⟩ := mod17 b
  by_cases h2 : rkB i = 2 ∧ rkB k = 2
  · exact binds_err w a b _ _ i k hi hk rfl ha2 ha3 rfl hb2 hb3 h2 hE hG
  · by_cases hlt : rkB i < rkB k
    · exact binds_lt w a b _ _ i k hi hk rfl ha2 ha3 rfl hb2 hb3 h2 hlt hE hG
    · exact binds_ge w a b _ _ i k hi hk rfl ha2 ha3 rfl hb2 hb3 h2 hlt hE hG
end Go.Proofs.YtcnohgifihbkdaaGreatDoor

