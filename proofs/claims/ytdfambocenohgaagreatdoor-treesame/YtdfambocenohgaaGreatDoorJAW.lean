/- The printer: events put off. -/
import Derived.Test.YtdfambocenohgaaGreatDoorJAV
namespace Go.Proofs.YtdfambocenohgaaGreatDoor
open Go.RowKit Go.Deep
set_option linter.unusedVariables false
set_option linter.unusedSimpArgs false

theorem LiesAt.tl {α : Type} {z : Nat} {b off : Nat} {at' : α → Nat × Nat} {t : α} {ts : List α} (h : LiesAt z (some ⟨b, off, none⟩) at' (t :: ts)) : LiesAt z (some ⟨b, off + z, none⟩) at' ts := by
  intro j u hj
  obtain ⟨b', off', e, ha⟩ := h (j + 1) u (by simpa using hj)
  simp at e
  refine ⟨b, off + z, rfl, ?_⟩
  rw [ha, ← e.1, ← e.2, Nat.add_mul, Nat.one_mul, Nat.add_assoc, Nat.add_comm z]

set_option maxRecDepth 100000 in
set_option maxHeartbeats 1000000 in
theorem simple_12e (k : Nat) (w0 : World) (h : SH) (ts : List (ET k)) (hk : h.kind = 12) (dh : SHr w0 h) (hn : h.an = ts.length) (dl : LiesAt 8 h.aa (eAt k) ts) (hr : ∀ u ∈ ts, ERd k w0 u) (hok : ∀ u ∈ ts, okAll k u) (hR : rightS h = true) (B b : Nat) (l : List UInt8) (op mo : Nat) (w : World) (hac : h.ac = 1) (hle : h.an ≤ h.ac) (hcI : h.ac ≤ 9223372036854775807) (hE : EnvT w0) (h0 : w0.heap.size ≤ B) (hb : Below w0.heap.size w0 w) (hB : B ≤ w.heap.size) (hp : Prn w B b l op mo)
    (hl : l.length + (smB h (ts.map (prE k))).length ≤ 900000000) (ho : op + smD h (ts.map (dpE k)) ≤ 900000000) (hm : mo ≤ 900000000) (hmo : op ≤ mo) :
    Calls Tryz.prog 137 #[.pointer (some ⟨b, 0, none⟩), .pointer (some ⟨h.b, h.o, none⟩)] w (PrP w B b (l ++ smB h (ts.map (prE k))) op (max mo (op + smD h (ts.map (dpE k))))) := by
  have hO := okS_of hR
  unfold okS at hO
  have dw := dh.below (Nat.le_refl _) hb
  have c0 := dw.c0
  have ih := expr_all k
  simp only [hk] at hO
  simp at hO
  cases ts with
  | nil => exact absurd hn (by simp only [List.length_nil]; omega)
  | cons t us =>
  have e1 : smB h ((t :: us).map (prE k)) = catL [sAfter] ++ prE k t ++ [32] ++ (bs h.name ++ (40 :: (jn (us.map (prE k)) ++ [41]))) := by unfold smB; simp [hk, h1]
  have e2 : smD h ((t :: us).map (dpE k)) = max (dpE k t) (1 + mxL (us.map (dpE k))) := by unfold smD; simp [hk, h1]
  rw [e1] at hl ⊢
  rw [e2] at ho ⊢
  simp only [List.length_append, List.length_cons, List.length_nil, bs_len] at hl
  have hanI : h.an = us.length + 1 := by simpa using hn
  obtain ⟨ab, aoff, eaa, hat⟩ := dl 0 t rfl
  rw [eaa] at dl
  simp only [eAt, Prod.mk.injEq] at hat
  have hab := dh.ab
  have K0 := hid (write_new w B b l op mo hp [sAfter] 1 rfl (by omega) hB (by omega))
  simp only [List.map_cons, List.map_nil, sAfter] at K0
  have K1 := hid (fun (w1 : World) (h1 : Below B w w1) (hp1 : Prn w1 B b (l ++ catL [sAfter]) op mo) => ih w0 t B b _ op _ w1 (hr t (by simp)) (hok t (by simp)) hE h0 (hb.trans (h1.mono h0)) (Nat.le_trans hB h1.size) hp1 (by simp only [List.length_append, List.length_cons, List.length_nil]; omega) (by omega) (by omega) (by omega))
  simp only [hat.1, hat.2, sAfter] at K1
  have ec : catL [⟨#[32]⟩] = [32] := by simp [catL]
  have K2 := hid (fun (w1 : World) (h1 : Below B w w1) (hp1 : Prn w1 B b (l ++ catL [sAfter] ++ prE k t) op (max mo (op + dpE k t))) => write_new w1 B b _ op _ hp1 [⟨#[32]⟩] 1 rfl (by omega) (Nat.le_trans hB h1.size) (by rw [ec]; simp only [List.length_append, List.length_cons, List.length_nil]; omega))
  simp only [ec, List.map_cons, List.map_nil, sAfter] at K2
  have K3 := hid (fun (w1 : World) (h1 : Below B w w1) (hp1 : Prn w1 B b (l ++ catL [sAfter] ++ prE k t ++ [32]) op (max mo (op + dpE k t))) => (call_of k (prE k) (dpE k) (okAll k) ih w0 h.name (some ⟨ab, aoff, none⟩) 0 0 us (by omega) (by omega) (by have : us = [] := by { cases us with | nil => rfl | cons _ _ => simp at hanI; omega }; subst this; intro j u hj; simp at hj) (fun u hu => hr u (by simp [hu])) (fun u hu => hok u (by simp [hu])) B b _ op _ w1.drew hE h0 (hb.trans (h1.mono h0)).drew (Nat.le_trans hB h1.size) hp1.drew (by simp only [List.length_append, List.length_cons, List.length_nil]; omega) (by omega) (by omega)).mono (fun e w' h' => PrP.of (Nat.le_trans hB h1.size) ((Below.refl _ w1).drew) h'))
  simp only [sAfter] at K3
  have HF : Hid (max (max mo (op + dpE k t)) (op + (1 + mxL (us.map (dpE k)))) = max mo (op + max (dpE k t) (1 + mxL (us.map (dpE k))))) := hid (by omega)
  have C1 := hid (fun (w1 : World) (h1 : Below B w w1) => (dh.below (Nat.le_refl _) (hb.trans (h1.mono h0))).c1)
  have C4 := hid (fun (w1 : World) (h1 : Below B w w1) => (dh.below (Nat.le_refl _) (hb.trans (h1.mono h0))).c4)
  have hus : us = [] := by { cases us with | nil => rfl | cons _ _ => simp at hanI; omega }
  subst hus
  rw [eaa, hanI, hac] at C4
  simp only [List.length_nil] at C4
  clear ih dh hn dl hr hok hR hE h0 hb hp hl ho hm dw hO e1 e2 eaa hat hanI ec hab hmo
  go_enter Tryz.func137, Tryz.ntmps137
  go_wp2_with (first
    | (go_at_call 79; (refine (Hid.out K1').mono ?_; rintro e w2 ⟨rfl, hp2, hk2⟩; have HK2 := hid (HK1.out.trans hk2); have K2' := hid (K2.out w2 HK2.out.1 hp2); clear hp2 hk2 d4))
    | (go_at_call 99; (have hno := K2'; refine (Hid.out K2').mono ?_; rintro e w3 ⟨rfl, hp3, hk3⟩; have HK3 := hid (HK2.out.trans hk3); have d1 := C1.out w3 HK3.out.1; have d5 := C4.out w3 HK3.out.1; have K3' := hid (K3.out w3 HK3.out.1 hp3); clear hp3 hk3))
    | (go_at_call 99; (refine (Hid.out K0).mono ?_; rintro e w1 ⟨rfl, hp1, hk1⟩; have d4 := C4.out w1 hk1.1; have K1' := hid (K1.out w1 hk1.1 hp1); have HK1 := hid hk1; clear hp1 hk1)))
  go_region_held3 (fun w2 => w2.cell? ⟨h.b, h.o + 1, none⟩ = some (.string h.name) ∧ w2.cell? ⟨h.b, h.o + 4, none⟩ = some (.slice (some ⟨ab, aoff, none⟩) (0 + 1) 1)) (first | exact ⟨C1.out _ (HK3.out.trans hk4).1, C4.out _ (HK3.out.trans hk4).1⟩ | go_keep) (first | (go_at_call 110; (refine (Hid.out K3').mono ?_; rintro e w4 ⟨rfl, hp4, hk4⟩)))
  go_wp2
  go_end0
  exact ⟨rfl, hp4.eq (by simp [sAfter]) HF.out, HK3.out.trans hk4⟩

set_option maxRecDepth 100000 in
set_option maxHeartbeats 1000000 in
theorem simple_12n (k : Nat) (w0 : World) (h : SH) (ts : List (ET k)) (hk : h.kind = 12) (dh : SHr w0 h) (hn : h.an = ts.length) (dl : LiesAt 8 h.aa (eAt k) ts) (hr : ∀ u ∈ ts, ERd k w0 u) (hok : ∀ u ∈ ts, okAll k u) (hR : rightS h = true) (B b : Nat) (l : List UInt8) (op mo : Nat) (w : World) (hac : ¬ h.ac = 1) (hle : h.an ≤ h.ac) (hcI : h.ac ≤ 9223372036854775807) (hE : EnvT w0) (h0 : w0.heap.size ≤ B) (hb : Below w0.heap.size w0 w) (hB : B ≤ w.heap.size) (hp : Prn w B b l op mo)
    (hl : l.length + (smB h (ts.map (prE k))).length ≤ 900000000) (ho : op + smD h (ts.map (dpE k)) ≤ 900000000) (hm : mo ≤ 900000000) (hmo : op ≤ mo) :
    Calls Tryz.prog 137 #[.pointer (some ⟨b, 0, none⟩), .pointer (some ⟨h.b, h.o, none⟩)] w (PrP w B b (l ++ smB h (ts.map (prE k))) op (max mo (op + smD h (ts.map (dpE k))))) := by
  have hO := okS_of hR
  unfold okS at hO
  have dw := dh.below (Nat.le_refl _) hb
  have c0 := dw.c0
  have ih := expr_all k
  simp only [hk] at hO
  simp at hO
  cases ts with
  | nil => exact absurd hn (by simp only [List.length_nil]; omega)
  | cons t us =>
  have e1 : smB h ((t :: us).map (prE k)) = catL [sAfter] ++ prE k t ++ [32] ++ (bs h.name ++ (40 :: (jn (us.map (prE k)) ++ [41]))) := by unfold smB; simp [hk, h1]
  have e2 : smD h ((t :: us).map (dpE k)) = max (dpE k t) (1 + mxL (us.map (dpE k))) := by unfold smD; simp [hk, h1]
  rw [e1] at hl ⊢
  rw [e2] at ho ⊢
  simp only [List.length_append, List.length_cons, List.length_nil, bs_len] at hl
  have hanI : h.an = us.length + 1 := by simpa using hn
  obtain ⟨ab, aoff, eaa, hat⟩ := dl 0 t rfl
  rw [eaa] at dl
  simp only [eAt, Prod.mk.injEq] at hat
  have hab := dh.ab
  have K0 := hid (write_new w B b l op mo hp [sAfter] 1 rfl (by omega) hB (by omega))
  simp only [List.map_cons, List.map_nil, sAfter] at K0
  have K1 := hid (fun (w1 : World) (h1 : Below B w w1) (hp1 : Prn w1 B b (l ++ catL [sAfter]) op mo) => ih w0 t B b _ op _ w1 (hr t (by simp)) (hok t (by simp)) hE h0 (hb.trans (h1.mono h0)) (Nat.le_trans hB h1.size) hp1 (by simp only [List.length_append, List.length_cons, List.length_nil]; omega) (by omega) (by omega) (by omega))
  simp only [hat.1, hat.2, sAfter] at K1
  have ec : catL [⟨#[32]⟩] = [32] := by simp [catL]
  have K2 := hid (fun (w1 : World) (h1 : Below B w w1) (hp1 : Prn w1 B b (l ++ catL [sAfter] ++ prE k t) op (max mo (op + dpE k t))) => write_new w1 B b _ op _ hp1 [⟨#[32]⟩] 1 rfl (by omega) (Nat.le_trans hB h1.size) (by rw [ec]; simp only [List.length_append, List.length_cons, List.length_nil]; omega))
  simp only [ec, List.map_cons, List.map_nil, sAfter] at K2
  have K3 := hid (fun (w1 : World) (h1 : Below B w w1) (hp1 : Prn w1 B b (l ++ catL [sAfter] ++ prE k t ++ [32]) op (max mo (op + dpE k t))) => (call_of k (prE k) (dpE k) (okAll k) ih w0 h.name (some ⟨ab, aoff + 8, none⟩) us.length (h.ac - 1) us rfl (by omega) dl.tl (fun u hu => hr u (by simp [hu])) (fun u hu => hok u (by simp [hu])) B b _ op _ w1.drew hE h0 (hb.trans (h1.mono h0)).drew (Nat.le_trans hB h1.size) hp1.drew (by simp only [List.length_append, List.length_cons, List.length_nil]; omega) (by omega) (by omega)).mono (fun e w' h' => PrP.of (Nat.le_trans hB h1.size) ((Below.refl _ w1).drew) h'))
  simp only [sAfter] at K3
  have HF : Hid (max (max mo (op + dpE k t)) (op + (1 + mxL (us.map (dpE k)))) = max mo (op + max (dpE k t) (1 + mxL (us.map (dpE k))))) := hid (by omega)
  have C1 := hid (fun (w1 : World) (h1 : Below B w w1) => (dh.below (Nat.le_refl _) (hb.trans (h1.mono h0))).c1)
  have C4 := hid (fun (w1 : World) (h1 : Below B w w1) => (dh.below (Nat.le_refl _) (hb.trans (h1.mono h0))).c4)
  rw [eaa, hanI] at C4
  have q1 : (1 : Int) ≤ (us.length : Int) + 1 := by omega
  have q2 : (us.length : Int) + 1 ≤ h.ac := by omega
  have q3 : ¬ (h.ac : Int) = 1 := by omega
  have q4 : ¬ 1 = h.ac := by omega
  clear ih dh hn dl hr hok hR hE h0 hb hp hl ho hm dw hO e1 e2 eaa hat hanI ec hab hmo
  go_enter Tryz.func137, Tryz.ntmps137
  go_wp2_with (first
    | (go_at_call 79; (refine (Hid.out K1').mono ?_; rintro e w2 ⟨rfl, hp2, hk2⟩; have HK2 := hid (HK1.out.trans hk2); have K2' := hid (K2.out w2 HK2.out.1 hp2); clear hp2 hk2 d4))
    | (go_at_call 99; (have hno := K2'; refine (Hid.out K2').mono ?_; rintro e w3 ⟨rfl, hp3, hk3⟩; have HK3 := hid (HK2.out.trans hk3); have d1 := C1.out w3 HK3.out.1; have d5 := C4.out w3 HK3.out.1; have K3' := hid (K3.out w3 HK3.out.1 hp3); clear hp3 hk3))
    | (go_at_call 99; (refine (Hid.out K0).mono ?_; rintro e w1 ⟨rfl, hp1, hk1⟩; have d4 := C4.out w1 hk1.1; have K1' := hid (K1.out w1 hk1.1 hp1); have HK1 := hid hk1; clear hp1 hk1)))
  go_region_held3 (fun w2 => w2.cell? ⟨h.b, h.o + 1, none⟩ = some (.string h.name) ∧ w2.cell? ⟨h.b, h.o + 4, none⟩ = some (.slice (some ⟨ab, aoff, none⟩) (us.length + 1) h.ac)) (first | exact ⟨C1.out _ (HK3.out.trans hk4).1, C4.out _ (HK3.out.trans hk4).1⟩ | go_keep) (first | (go_at_call 110; (refine (Hid.out K3').mono ?_; rintro e w4 ⟨rfl, hp4, hk4⟩)))
  go_wp2
  go_end0
  exact ⟨rfl, hp4.eq (by simp [sAfter]) HF.out, HK3.out.trans hk4⟩
end Go.Proofs.YtdfambocenohgaaGreatDoor

namespace Go.Proofs.YtdfambocenohgaaGreatDoor
open Go.RowKit Go.Deep
set_option linter.unusedVariables false
set_option linter.unusedSimpArgs false

def capS (h : SH) : Prop := h.an ≤ h.ac ∧ h.ac ≤ 9223372036854775807
def isSimp (h : SH) : Prop := h.kind = 1 ∨ h.kind = 2 ∨ h.kind = 3 ∨ h.kind = 4 ∨ h.kind = 8 ∨ h.kind = 9 ∨ h.kind = 10 ∨ h.kind = 11 ∨ h.kind = 12 ∨ h.kind = 13
theorem simple_all (k : Nat) (w0 : World) (h : SH) (ts : List (ET k)) (hk : isSimp h) (hc : capS h) (dh : SHr w0 h) (hn : h.an = ts.length) (dl : LiesAt 8 h.aa (eAt k) ts) (hr : ∀ u ∈ ts, ERd k w0 u) (hok : ∀ u ∈ ts, okAll k u) (hR : rightS h = true) (B b : Nat) (l : List UInt8) (op mo : Nat) (w : World) (hE : EnvT w0) (h0 : w0.heap.size ≤ B) (hb : Below w0.heap.size w0 w) (hB : B ≤ w.heap.size) (hp : Prn w B b l op mo)
    (hl : l.length + (smB h (ts.map (prE k))).length ≤ 900000000) (ho : op + smD h (ts.map (dpE k)) ≤ 900000000) (hm : mo ≤ 900000000) (hmo : op ≤ mo) :
    Calls Tryz.prog 137 #[.pointer (some ⟨b, 0, none⟩), .pointer (some ⟨h.b, h.o, none⟩)] w (PrP w B b (l ++ smB h (ts.map (prE k))) op (max mo (op + smD h (ts.map (dpE k))))) := by
  rcases hk with hk | hk | hk | hk | hk | hk | hk | hk | hk | hk
  · exact simple_1 k w0 h ts hk dh hn dl hr hok hR B b l op mo w hE h0 hb hB hp hl ho hm hmo
  · exact simple_2 k w0 h ts hk dh hn dl hr hok hR B b l op mo w hE h0 hb hB hp hl ho hm hmo
  · exact simple_3 k w0 h ts hk dh hn dl hr hok hR B b l op mo w hE h0 hb hB hp hl ho hm hmo
  · exact simple_4 k w0 h ts hk dh hn dl hr hok hR B b l op mo w hE h0 hb hB hp hl ho hm hmo
  · exact simple_8 k w0 h ts hk dh hn dl hr hok hR B b l op mo w hE h0 hb hB hp hl ho hm hmo
  · exact simple_9 k w0 h ts hk dh hn dl hr hok hR B b l op mo w hE h0 hb hB hp hl ho hm hmo
  · exact simple_10 k w0 h ts hk dh hn dl hr hok hR B b l op mo w hE h0 hb hB hp hl ho hm hmo
  · exact simple_11 k w0 h ts hk dh hn dl hr hok hR B b l op mo w hE h0 hb hB hp hl ho hm hmo
  · by_cases hac : h.ac = 1
    · exact simple_12e k w0 h ts hk dh hn dl hr hok hR B b l op mo w hac hc.1 hc.2 hE h0 hb hB hp hl ho hm hmo
    · exact simple_12n k w0 h ts hk dh hn dl hr hok hR B b l op mo w hac hc.1 hc.2 hE h0 hb hB hp hl ho hm hmo
  · exact simple_13 k w0 h ts hk dh hn dl hr hok hR B b l op mo w hE h0 hb hB hp hl ho hm hmo
def sIf : ByteArray := ⟨#[105, 102, 32]⟩
def sElse : ByteArray := ⟨#[32, 101, 108, 115, 101]⟩
def sWhile : ByteArray := ⟨#[119, 104, 105, 108, 101, 32]⟩
def sEach : ByteArray := ⟨#[101, 97, 99, 104, 32]⟩
def sIn : ByteArray := ⟨#[32, 105, 110, 32]⟩
def stB (h : SH) (pe pb pl : List (List UInt8)) : List UInt8 :=
  if h.kind = 5 then catL [sIf] ++ h1 pe (fun p => p) [] ++ bkB pb ++ (if h.en = 0 then [] else catL [sElse] ++ bkB pl) else
  if h.kind = 6 then lbB h.label ++ catL [sWhile] ++ h1 pe (fun p => p) [] ++ bkB pb else
  if h.kind = 7 then lbB h.label ++ catL [sEach, h.var, sIn, h.name] ++ bkB pb else smB h pe ++ [59]
def stD (h : SH) (de db dl : List Nat) : Nat :=
  if h.kind = 5 then max (h1 de (fun d => d) 0) (max (1 + mxL db) (if h.en = 0 then 0 else 1 + mxL dl)) else
  if h.kind = 6 then max (h1 de (fun d => d) 0) (1 + mxL db) else
  if h.kind = 7 then 1 + mxL db else smD h de

set_option maxRecDepth 100000 in
set_option maxHeartbeats 1000000 in
theorem stmt_d (k : Nat) (pr : ST k → List UInt8) (dp : ST k → Nat) (ok : ST k → Prop) (ihs : StSaid k pr dp ok) (w0 : World) (h : SH) (ts : List (ET k)) (bt et : List (ST k)) (hk : isSimp h) (hc : capS h) (dh : SHr w0 h) (hn : h.an = ts.length) (hnb : h.bn = bt.length) (hne : h.en = et.length) (dl : LiesAt 8 h.aa (eAt k) ts) (dlb : LiesAt 8 h.ba (sAt k) bt) (dle : LiesAt 8 h.ea (sAt k) et) (hr : ∀ u ∈ ts, ERd k w0 u) (hrb : ∀ u ∈ bt, SRds k w0 u) (hre : ∀ u ∈ et, SRds k w0 u) (hok : ∀ u ∈ ts, okAll k u) (hokb : ∀ u ∈ bt, ok u) (hoke : ∀ u ∈ et, ok u) (hR : rightS h = true) (B b : Nat) (l : List UInt8) (op mo : Nat) (w : World) (hE : EnvT w0) (h0 : w0.heap.size ≤ B) (hb : Below w0.heap.size w0 w) (hB : B ≤ w.heap.size) (hp : Prn w B b l op mo)
    (hl : l.length + (stB h (ts.map (prE k)) (bt.map pr) (et.map pr)).length ≤ 900000000) (ho : op + stD h (ts.map (dpE k)) (bt.map dp) (et.map dp) ≤ 900000000) (hm : mo ≤ 900000000) (hmo : op ≤ mo) :
    Calls Tryz.prog 128 #[.pointer (some ⟨b, 0, none⟩), .pointer (some ⟨h.b, h.o, none⟩)] w (PrP w B b (l ++ stB h (ts.map (prE k)) (bt.map pr) (et.map pr)) op (max mo (op + stD h (ts.map (dpE k)) (bt.map dp) (et.map dp)))) := by
  have hO := okS_of hR
  unfold okS at hO
  have dw := dh.below (Nat.le_refl _) hb
  have c0 := dw.c0
  have ih := expr_all k
  have e1 : stB h (ts.map (prE k)) (bt.map pr) (et.map pr) = smB h (ts.map (prE k)) ++ [59] := by unfold stB; rw [if_neg (by unfold isSimp at hk; omega), if_neg (by unfold isSimp at hk; omega), if_neg (by unfold isSimp at hk; omega)]
  have e2 : stD h (ts.map (dpE k)) (bt.map dp) (et.map dp) = smD h (ts.map (dpE k)) := by unfold stD; rw [if_neg (by unfold isSimp at hk; omega), if_neg (by unfold isSimp at hk; omega), if_neg (by unfold isSimp at hk; omega)]
  rw [e1] at hl ⊢
  rw [e2] at ho ⊢
  simp only [List.length_append, List.length_cons, List.length_nil] at hl
  have K1 := hid (simple_all k w0 h ts hk hc dh hn dl hr hok hR B b l op mo w hE h0 hb hB hp (by omega) ho hm hmo)
  have ec : catL [⟨#[59]⟩] = [59] := by simp [catL]
  have K2 := hid (fun (w1 : World) (h1 : Below B w w1) (hp1 : Prn w1 B b (l ++ smB h (ts.map (prE k))) op (max mo (op + smD h (ts.map (dpE k))))) => write_new w1 B b _ op _ hp1 [⟨#[59]⟩] 1 rfl (by omega) (Nat.le_trans hB h1.size) (by rw [ec]; simp only [List.length_append, List.length_cons, List.length_nil]; omega))
  simp only [ec, List.map_cons, List.map_nil] at K2
  have n5 : ¬ h.kind = 5 := by unfold isSimp at hk; omega
  have n6 : ¬ h.kind = 6 := by unfold isSimp at hk; omega
  have n7 : ¬ h.kind = 7 := by unfold isSimp at hk; omega
  clear hk
  clear ih ihs dh hn dl hr hok hR hE h0 hb hp hl ho hm dw hO e1 e2 ec hmo hnb hne dlb dle hrb hre hokb hoke hc
  go_enter Tryz.func128, Tryz.ntmps128
  go_wp2_with (first
    | (go_at_call 137; (refine (Hid.out K1).mono ?_; rintro e w1 ⟨rfl, hp1, hk1⟩; have K2' := hid (K2.out w1 hk1.1 hp1); have HK1 := hid hk1; clear hp1 hk1))
    | (go_at_call 99; (refine (Hid.out K2').mono ?_; rintro e w2 ⟨rfl, hp2, hk2⟩)))
  go_end0
  exact ⟨rfl, hp2.eq (by simp) rfl, HK1.out.trans hk2⟩

set_option maxRecDepth 100000 in
set_option maxHeartbeats 1000000 in
theorem stmt_6 (k : Nat) (pr : ST k → List UInt8) (dp : ST k → Nat) (ok : ST k → Prop) (ihs : StSaid k pr dp ok) (w0 : World) (h : SH) (ts : List (ET k)) (bt et : List (ST k)) (hk : h.kind = 6) (hc : capS h) (dh : SHr w0 h) (hn : h.an = ts.length) (hnb : h.bn = bt.length) (hne : h.en = et.length) (dl : LiesAt 8 h.aa (eAt k) ts) (dlb : LiesAt 8 h.ba (sAt k) bt) (dle : LiesAt 8 h.ea (sAt k) et) (hr : ∀ u ∈ ts, ERd k w0 u) (hrb : ∀ u ∈ bt, SRds k w0 u) (hre : ∀ u ∈ et, SRds k w0 u) (hok : ∀ u ∈ ts, okAll k u) (hokb : ∀ u ∈ bt, ok u) (hoke : ∀ u ∈ et, ok u) (hR : rightS h = true) (B b : Nat) (l : List UInt8) (op mo : Nat) (w : World) (hE : EnvT w0) (h0 : w0.heap.size ≤ B) (hb : Below w0.heap.size w0 w) (hB : B ≤ w.heap.size) (hp : Prn w B b l op mo)
    (hl : l.length + (stB h (ts.map (prE k)) (bt.map pr) (et.map pr)).length ≤ 900000000) (ho : op + stD h (ts.map (dpE k)) (bt.map dp) (et.map dp) ≤ 900000000) (hm : mo ≤ 900000000) (hmo : op ≤ mo) :
    Calls Tryz.prog 128 #[.pointer (some ⟨b, 0, none⟩), .pointer (some ⟨h.b, h.o, none⟩)] w (PrP w B b (l ++ stB h (ts.map (prE k)) (bt.map pr) (et.map pr)) op (max mo (op + stD h (ts.map (dpE k)) (bt.map dp) (et.map dp)))) := by
  have hO := okS_of hR
  unfold okS at hO
  have dw := dh.below (Nat.le_refl _) hb
  have c0 := dw.c0
  have ih := expr_all k
  simp only [hk] at hO
  simp at hO
  obtain ⟨t, rfl⟩ := one_of hn (by omega)
  have hanI : h.an = 1 := by omega
  obtain ⟨ab, aoff, eaa, hat⟩ := dl 0 t rfl
  simp only [eAt, Prod.mk.injEq] at hat
  have e1 : stB h ([t].map (prE k)) (bt.map pr) (et.map pr) = lbB h.label ++ catL [sWhile] ++ prE k t ++ bkB (bt.map pr) := by unfold stB; simp [hk, h1]
  have e2 : stD h ([t].map (dpE k)) (bt.map dp) (et.map dp) = max (dpE k t) (1 + mxL (bt.map dp)) := by unfold stD; simp [hk, h1]
  rw [e1] at hl ⊢
  rw [e2] at ho ⊢
  simp only [List.length_append, List.length_cons, List.length_nil] at hl
  have K1 := hid (label_any w B b l op mo hp h.label hB (by omega))
  have K2 := hid (fun (w1 : World) (h1 : Below B w w1) (hp1 : Prn w1 B b (l ++ lbB h.label) op (mo)) => write_new w1 B b _ op _ hp1 [sWhile] 1 rfl (by omega) (Nat.le_trans hB h1.size) (by simp only [List.length_append, List.length_cons, List.length_nil, bs_len]; omega))
  simp only [List.map_cons, List.map_nil] at K2
  simp only [sWhile] at K2
  have K3 := hid (fun (w1 : World) (h1 : Below B w w1) (hp1 : Prn w1 B b (l ++ lbB h.label ++ catL [sWhile]) op (mo)) => ih w0 t B b _ op _ w1 (hr t (by simp)) (hok t (by simp)) hE h0 (hb.trans (h1.mono h0)) (Nat.le_trans hB h1.size) hp1 (by simp only [List.length_append, List.length_cons, List.length_nil, bs_len]; omega) (by omega) (by omega) (by omega))
  simp only [hat.1, hat.2] at K3
  simp only [sWhile] at K3
  have K4 := hid (fun (w1 : World) (h1 : Below B w w1) (hp1 : Prn w1 B b (l ++ lbB h.label ++ catL [sWhile] ++ prE k t) op (max mo (op + dpE k t))) => block_of k pr dp ok ihs w0 h.ba h.bn h.bc bt hnb dh.bb dlb hrb hokb B b _ op _ w1 hE h0 (hb.trans (h1.mono h0)) (Nat.le_trans hB h1.size) hp1 (by simp only [List.length_append, List.length_cons, List.length_nil, bs_len]; omega) (by omega) (by omega))
  simp only [sWhile] at K4
  have C4 := hid (fun (w1 : World) (h1 : Below B w w1) => (dh.below (Nat.le_refl _) (hb.trans (h1.mono h0))).c4)
  rw [eaa, hanI] at C4
  have C5 := hid (fun (w1 : World) (h1 : Below B w w1) => (dh.below (Nat.le_refl _) (hb.trans (h1.mono h0))).c5)
  have c2 := dw.c2
  have HF : Hid (max (max mo (op + dpE k t)) (op + (1 + mxL (bt.map dp))) = max mo (op + max (dpE k t) (1 + mxL (bt.map dp)))) := hid (by omega)
  clear ih ihs dh hn dl hr hok hR hE h0 hb hp hl ho hm dw hO e1 e2 eaa hat hanI hmo hnb hne dlb dle hrb hre hokb hoke hc
  go_enter Tryz.func128, Tryz.ntmps128
  go_wp2_with (first
    | (go_at_call 136; (refine (Hid.out K1).mono ?_; rintro e w1 ⟨rfl, hp1, hk1⟩; have K2' := hid (K2.out w1 hk1.1 hp1); have HK1 := hid hk1; clear hp1 hk1))
    | (go_at_call 99; (refine (Hid.out K2').mono ?_; rintro e w2 ⟨rfl, hp2, hk2⟩; have HK2 := hid (HK1.out.trans hk2); have d4 := C4.out w2 HK2.out.1; have K3' := hid (K3.out w2 HK2.out.1 hp2); clear hp2 hk2))
    | (go_at_call 79; (refine (Hid.out K3').mono ?_; rintro e w3 ⟨rfl, hp3, hk3⟩; have HK3 := hid (HK2.out.trans hk3); have d5 := C5.out w3 HK3.out.1; have K4' := hid (K4.out w3 HK3.out.1 hp3); clear hp3 hk3))
    | (go_at_call 121; (refine (Hid.out K4').mono ?_; rintro e w4 ⟨rfl, hp4, hk4⟩)))
  go_end0
  exact ⟨rfl, hp4.eq (by simp [sWhile]) HF.out, HK3.out.trans hk4⟩

set_option maxRecDepth 100000 in
set_option maxHeartbeats 1000000 in
theorem stmt_5n (k : Nat) (pr : ST k → List UInt8) (dp : ST k → Nat) (ok : ST k → Prop) (ihs : StSaid k pr dp ok) (w0 : World) (h : SH) (ts : List (ET k)) (bt et : List (ST k)) (hk : h.kind = 5) (hen : h.en = 0) (hc : capS h) (dh : SHr w0 h) (hn : h.an = ts.length) (hnb : h.bn = bt.length) (hne : h.en = et.length) (dl : LiesAt 8 h.aa (eAt k) ts) (dlb : LiesAt 8 h.ba (sAt k) bt) (dle : LiesAt 8 h.ea (sAt k) et) (hr : ∀ u ∈ ts, ERd k w0 u) (hrb : ∀ u ∈ bt, SRds k w0 u) (hre : ∀ u ∈ et, SRds k w0 u) (hok : ∀ u ∈ ts, okAll k u) (hokb : ∀ u ∈ bt, ok u) (hoke : ∀ u ∈ et, ok u) (hR : rightS h = true) (B b : Nat) (l : List UInt8) (op mo : Nat) (w : World) (hE : EnvT w0) (h0 : w0.heap.size ≤ B) (hb : Below w0.heap.size w0 w) (hB : B ≤ w.heap.size) (hp : Prn w B b l op mo)
    (hl : l.length + (stB h (ts.map (prE k)) (bt.map pr) (et.map pr)).length ≤ 900000000) (ho : op + stD h (ts.map (dpE k)) (bt.map dp) (et.map dp) ≤ 900000000) (hm : mo ≤ 900000000) (hmo : op ≤ mo) :
    Calls Tryz.prog 128 #[.pointer (some ⟨b, 0, none⟩), .pointer (some ⟨h.b, h.o, none⟩)] w (PrP w B b (l ++ stB h (ts.map (prE k)) (bt.map pr) (et.map pr)) op (max mo (op + stD h (ts.map (dpE k)) (bt.map dp) (et.map dp)))) := by
  have hO := okS_of hR
  unfold okS at hO
  have dw := dh.below (Nat.le_refl _) hb
  have c0 := dw.c0
  have ih := expr_all k
  simp only [hk] at hO
  simp at hO
  obtain ⟨t, rfl⟩ := one_of hn (by omega)
  have hanI : h.an = 1 := by omega
  obtain ⟨ab, aoff, eaa, hat⟩ := dl 0 t rfl
  simp only [eAt, Prod.mk.injEq] at hat
  have e1 : stB h ([t].map (prE k)) (bt.map pr) (et.map pr) = catL [sIf] ++ prE k t ++ bkB (bt.map pr) := by unfold stB; simp [hk, h1, hen]
  have e2 : stD h ([t].map (dpE k)) (bt.map dp) (et.map dp) = max (dpE k t) (1 + mxL (bt.map dp)) := by unfold stD; simp [hk, h1, hen]
  rw [e1] at hl ⊢
  rw [e2] at ho ⊢
  simp only [List.length_append, List.length_cons, List.length_nil] at hl
  have K1 := hid (write_new w B b l op mo hp [sIf] 1 rfl (by omega) hB (by omega))
  simp only [List.map_cons, List.map_nil, sIf] at K1
  have K2 := hid (fun (w1 : World) (h1 : Below B w w1) (hp1 : Prn w1 B b (l ++ catL [sIf]) op (mo)) => ih w0 t B b _ op _ w1 (hr t (by simp)) (hok t (by simp)) hE h0 (hb.trans (h1.mono h0)) (Nat.le_trans hB h1.size) hp1 (by simp only [List.length_append, List.length_cons, List.length_nil, bs_len]; omega) (by omega) (by omega) (by omega))
  simp only [hat.1, hat.2] at K2
  simp only [sIf] at K2
  have K3 := hid (fun (w1 : World) (h1 : Below B w w1) (hp1 : Prn w1 B b (l ++ catL [sIf] ++ prE k t) op (max mo (op + dpE k t))) => block_of k pr dp ok ihs w0 h.ba h.bn h.bc bt hnb dh.bb dlb hrb hokb B b _ op _ w1 hE h0 (hb.trans (h1.mono h0)) (Nat.le_trans hB h1.size) hp1 (by simp only [List.length_append, List.length_cons, List.length_nil, bs_len]; omega) (by omega) (by omega))
  simp only [sIf] at K3
  have HF : Hid (max (max mo (op + dpE k t)) (op + (1 + mxL (bt.map dp))) = max mo (op + max (dpE k t) (1 + mxL (bt.map dp)))) := hid (by omega)
  have C4 := hid (fun (w1 : World) (h1 : Below B w w1) => (dh.below (Nat.le_refl _) (hb.trans (h1.mono h0))).c4)
  rw [eaa, hanI] at C4
  have C5 := hid (fun (w1 : World) (h1 : Below B w w1) => (dh.below (Nat.le_refl _) (hb.trans (h1.mono h0))).c5)
  have C6 := hid (fun (w1 : World) (h1 : Below B w w1) => (dh.below (Nat.le_refl _) (hb.trans (h1.mono h0))).c6)
  rw [hen] at C6
  clear ih ihs dh hn dl hr hok hR hE h0 hb hp hl ho hm dw hO e1 e2 eaa hat hanI hmo hnb hne dlb dle hrb hre hokb hoke hc
  go_enter Tryz.func128, Tryz.ntmps128
  go_wp2_with (first
    | (go_at_call 79; (refine (Hid.out K2').mono ?_; rintro e w2 ⟨rfl, hp2, hk2⟩; have HK2 := hid (HK1.out.trans hk2); have d5 := C5.out w2 HK2.out.1; have K3' := hid (K3.out w2 HK2.out.1 hp2); clear hp2 hk2))
    | (go_at_call 121; (refine (Hid.out K3').mono ?_; rintro e w3 ⟨rfl, hp3, hk3⟩; have d6 := C6.out w3 (HK2.out.trans hk3).1; have HP3 := hid hp3; have HK3 := hid (HK2.out.trans hk3); clear hp3 hk3))
    | (go_at_call 99; (refine (Hid.out K1).mono ?_; rintro e w1 ⟨rfl, hp1, hk1⟩; have d4 := C4.out w1 hk1.1; have K2' := hid (K2.out w1 hk1.1 hp1); have HK1 := hid hk1; clear hp1 hk1)))
  go_end0
  exact ⟨rfl, HP3.out.eq (by simp [sIf]) HF.out, HK3.out⟩

set_option maxRecDepth 100000 in
set_option maxHeartbeats 1000000 in
theorem stmt_5e (k : Nat) (pr : ST k → List UInt8) (dp : ST k → Nat) (ok : ST k → Prop) (ihs : StSaid k pr dp ok) (w0 : World) (h : SH) (ts : List (ET k)) (bt et : List (ST k)) (hk : h.kind = 5) (hen : ¬ h.en = 0) (hc : capS h) (dh : SHr w0 h) (hn : h.an = ts.length) (hnb : h.bn = bt.length) (hne : h.en = et.length) (dl : LiesAt 8 h.aa (eAt k) ts) (dlb : LiesAt 8 h.ba (sAt k) bt) (dle : LiesAt 8 h.ea (sAt k) et) (hr : ∀ u ∈ ts, ERd k w0 u) (hrb : ∀ u ∈ bt, SRds k w0 u) (hre : ∀ u ∈ et, SRds k w0 u) (hok : ∀ u ∈ ts, okAll k u) (hokb : ∀ u ∈ bt, ok u) (hoke : ∀ u ∈ et, ok u) (hR : rightS h = true) (B b : Nat) (l : List UInt8) (op mo : Nat) (w : World) (hE : EnvT w0) (h0 : w0.heap.size ≤ B) (hb : Below w0.heap.size w0 w) (hB : B ≤ w.heap.size) (hp : Prn w B b l op mo)
    (hl : l.length + (stB h (ts.map (prE k)) (bt.map pr) (et.map pr)).length ≤ 900000000) (ho : op + stD h (ts.map (dpE k)) (bt.map dp) (et.map dp) ≤ 900000000) (hm : mo ≤ 900000000) (hmo : op ≤ mo) :
    Calls Tryz.prog 128 #[.pointer (some ⟨b, 0, none⟩), .pointer (some ⟨h.b, h.o, none⟩)] w (PrP w B b (l ++ stB h (ts.map (prE k)) (bt.map pr) (et.map pr)) op (max mo (op + stD h (ts.map (dpE k)) (bt.map dp) (et.map dp)))) := by
  have hO := okS_of hR
  unfold okS at hO
  have dw := dh.below (Nat.le_refl _) hb
  have c0 := dw.c0
  have ih := expr_all k
  simp only [hk] at hO
  simp at hO
  obtain ⟨t, rfl⟩ := one_of hn (by omega)
  have hanI : h.an = 1 := by omega
  obtain ⟨ab, aoff, eaa, hat⟩ := dl 0 t rfl
  simp only [eAt, Prod.mk.injEq] at hat
  have e1 : stB h ([t].map (prE k)) (bt.map pr) (et.map pr) = catL [sIf] ++ prE k t ++ bkB (bt.map pr) ++ (catL [sElse] ++ bkB (et.map pr)) := by unfold stB; simp [hk, h1, hen]
  have e2 : stD h ([t].map (dpE k)) (bt.map dp) (et.map dp) = max (dpE k t) (max (1 + mxL (bt.map dp)) (1 + mxL (et.map dp))) := by unfold stD; simp [hk, h1, hen]
  rw [e1] at hl ⊢
  rw [e2] at ho ⊢
  simp only [List.length_append, List.length_cons, List.length_nil] at hl
  have K1 := hid (write_new w B b l op mo hp [sIf] 1 rfl (by omega) hB (by omega))
  simp only [List.map_cons, List.map_nil, sIf] at K1
  have K2 := hid (fun (w1 : World) (h1 : Below B w w1) (hp1 : Prn w1 B b (l ++ catL [sIf]) op (mo)) => ih w0 t B b _ op _ w1 (hr t (by simp)) (hok t (by simp)) hE h0 (hb.trans (h1.mono h0)) (Nat.le_trans hB h1.size) hp1 (by simp only [List.length_append, List.length_cons, List.length_nil, bs_len]; omega) (by omega) (by omega) (by omega))
  simp only [hat.1, hat.2] at K2
  simp only [sIf] at K2
  have K3 := hid (fun (w1 : World) (h1 : Below B w w1) (hp1 : Prn w1 B b (l ++ catL [sIf] ++ prE k t) op (max mo (op + dpE k t))) => block_of k pr dp ok ihs w0 h.ba h.bn h.bc bt hnb dh.bb dlb hrb hokb B b _ op _ w1 hE h0 (hb.trans (h1.mono h0)) (Nat.le_trans hB h1.size) hp1 (by simp only [List.length_append, List.length_cons, List.length_nil, bs_len]; omega) (by omega) (by omega))
  simp only [sIf] at K3
  have K4 := hid (fun (w1 : World) (h1 : Below B w w1) (hp1 : Prn w1 B b (l ++ catL [sIf] ++ prE k t ++ bkB (bt.map pr)) op (max (max mo (op + dpE k t)) (op + (1 + mxL (bt.map dp))))) => write_new w1 B b _ op _ hp1 [sElse] 1 rfl (by omega) (Nat.le_trans hB h1.size) (by simp only [List.length_append, List.length_cons, List.length_nil, bs_len]; omega))
  simp only [List.map_cons, List.map_nil] at K4
  simp only [sIf, sElse] at K4
  have K5 := hid (fun (w1 : World) (h1 : Below B w w1) (hp1 : Prn w1 B b (l ++ catL [sIf] ++ prE k t ++ bkB (bt.map pr) ++ catL [sElse]) op (max (max mo (op + dpE k t)) (op + (1 + mxL (bt.map dp))))) => block_of k pr dp ok ihs w0 h.ea h.en h.ec et hne dh.eb dle hre hoke B b _ op _ w1 hE h0 (hb.trans (h1.mono h0)) (Nat.le_trans hB h1.size) hp1 (by simp only [List.length_append, List.length_cons, List.length_nil, bs_len]; omega) (by omega) (by omega))
  simp only [sIf, sElse] at K5
  have HF : Hid (max (max (max mo (op + dpE k t)) (op + (1 + mxL (bt.map dp)))) (op + (1 + mxL (et.map dp))) = max mo (op + max (dpE k t) (max (1 + mxL (bt.map dp)) (1 + mxL (et.map dp))))) := hid (by omega)
  have heb := dh.eb
  have hen1 : (0 : Int) < h.en := by omega
  have C4 := hid (fun (w1 : World) (h1 : Below B w w1) => (dh.below (Nat.le_refl _) (hb.trans (h1.mono h0))).c4)
  rw [eaa, hanI] at C4
  have C5 := hid (fun (w1 : World) (h1 : Below B w w1) => (dh.below (Nat.le_refl _) (hb.trans (h1.mono h0))).c5)
  have C6 := hid (fun (w1 : World) (h1 : Below B w w1) => (dh.below (Nat.le_refl _) (hb.trans (h1.mono h0))).c6)
  clear ih ihs dh hn dl hr hok hR hE h0 hb hp hl ho hm dw hO e1 e2 eaa hat hanI hmo hnb hne dlb dle hrb hre hokb hoke hc
  go_enter Tryz.func128, Tryz.ntmps128
  go_wp2_with (first
    | (go_at_call 79; (refine (Hid.out K2').mono ?_; rintro e w2 ⟨rfl, hp2, hk2⟩; have HK2 := hid (HK1.out.trans hk2); have d5 := C5.out w2 HK2.out.1; have K3' := hid (K3.out w2 HK2.out.1 hp2); clear hp2 hk2))
    | (go_at_call 121; (have hno := K5'; refine (Hid.out K5').mono ?_; rintro e w5 ⟨rfl, hp5, hk5⟩))
    | (go_at_call 121; (refine (Hid.out K3').mono ?_; rintro e w3 ⟨rfl, hp3, hk3⟩; have HK3 := hid (HK2.out.trans hk3); have d6 := C6.out w3 HK3.out.1; have K4' := hid (K4.out w3 HK3.out.1 hp3); clear hp3 hk3))
    | (go_at_call 99; (have hno := K4'; refine (Hid.out K4').mono ?_; rintro e w4 ⟨rfl, hp4, hk4⟩; have HK4 := hid (HK3.out.trans hk4); have d7 := C6.out w4 HK4.out.1; have K5' := hid (K5.out w4 HK4.out.1 hp4); clear hp4 hk4))
    | (go_at_call 99; (refine (Hid.out K1).mono ?_; rintro e w1 ⟨rfl, hp1, hk1⟩; have d4 := C4.out w1 hk1.1; have K2' := hid (K2.out w1 hk1.1 hp1); have HK1 := hid hk1; clear hp1 hk1)))
  go_end0
  exact ⟨rfl, hp5.eq (by simp [sIf, sElse]) HF.out, HK4.out.trans hk5⟩

set_option maxRecDepth 100000 in
set_option maxHeartbeats 1000000 in
theorem stmt_7 (k : Nat) (pr : ST k → List UInt8) (dp : ST k → Nat) (ok : ST k → Prop) (ihs : StSaid k pr dp ok) (w0 : World) (h : SH) (ts : List (ET k)) (bt et : List (ST k)) (hk : h.kind = 7) (hc : capS h) (dh : SHr w0 h) (hn : h.an = ts.length) (hnb : h.bn = bt.length) (hne : h.en = et.length) (dl : LiesAt 8 h.aa (eAt k) ts) (dlb : LiesAt 8 h.ba (sAt k) bt) (dle : LiesAt 8 h.ea (sAt k) et) (hr : ∀ u ∈ ts, ERd k w0 u) (hrb : ∀ u ∈ bt, SRds k w0 u) (hre : ∀ u ∈ et, SRds k w0 u) (hok : ∀ u ∈ ts, okAll k u) (hokb : ∀ u ∈ bt, ok u) (hoke : ∀ u ∈ et, ok u) (hR : rightS h = true) (B b : Nat) (l : List UInt8) (op mo : Nat) (w : World) (hE : EnvT w0) (h0 : w0.heap.size ≤ B) (hb : Below w0.heap.size w0 w) (hB : B ≤ w.heap.size) (hp : Prn w B b l op mo)
    (hl : l.length + (stB h (ts.map (prE k)) (bt.map pr) (et.map pr)).length ≤ 900000000) (ho : op + stD h (ts.map (dpE k)) (bt.map dp) (et.map dp) ≤ 900000000) (hm : mo ≤ 900000000) (hmo : op ≤ mo) :
    Calls Tryz.prog 128 #[.pointer (some ⟨b, 0, none⟩), .pointer (some ⟨h.b, h.o, none⟩)] w (PrP w B b (l ++ stB h (ts.map (prE k)) (bt.map pr) (et.map pr)) op (max mo (op + stD h (ts.map (dpE k)) (bt.map dp) (et.map dp)))) := by
  have hO := okS_of hR
  unfold okS at hO
  have dw := dh.below (Nat.le_refl _) hb
  have c0 := dw.c0
  have ih := expr_all k
  have e1 : stB h (ts.map (prE k)) (bt.map pr) (et.map pr) = lbB h.label ++ catL [sEach, h.var, sIn, h.name] ++ bkB (bt.map pr) := by unfold stB; simp [hk]
  have e2 : stD h (ts.map (dpE k)) (bt.map dp) (et.map dp) = 1 + mxL (bt.map dp) := by unfold stD; simp [hk]
  rw [e1] at hl ⊢
  rw [e2] at ho ⊢
  simp only [List.length_append, List.length_cons, List.length_nil] at hl
  have K1 := hid (label_any w B b l op mo hp h.label hB (by omega))
  have K2 := hid (fun (w1 : World) (h1 : Below B w w1) (hp1 : Prn w1 B b (l ++ lbB h.label) op mo) => (write_new w1.drew B b _ op _ hp1.drew [sEach, h.var, sIn, h.name] 4 rfl (by omega) (Nat.le_trans hB h1.size) (by simp only [List.length_append, List.length_cons, List.length_nil, bs_len]; omega)).mono (fun e w' h' => PrP.of (Nat.le_trans hB h1.size) ((Below.refl _ w1).drew) h'))
  simp only [List.map_cons, List.map_nil, sEach, sIn] at K2
  have K4 := hid (fun (w1 : World) (h1 : Below B w w1) (hp1 : Prn w1 B b (l ++ lbB h.label ++ catL [sEach, h.var, sIn, h.name]) op (mo)) => block_of k pr dp ok ihs w0 h.ba h.bn h.bc bt hnb dh.bb dlb hrb hokb B b _ op _ w1 hE h0 (hb.trans (h1.mono h0)) (Nat.le_trans hB h1.size) hp1 (by simp only [List.length_append, List.length_cons, List.length_nil, bs_len]; omega) (by omega) (by omega))
  simp only [sEach, sIn] at K4
  have C1 := hid (fun (w1 : World) (h1 : Below B w w1) => (dh.below (Nat.le_refl _) (hb.trans (h1.mono h0))).c1)
  have C3 := hid (fun (w1 : World) (h1 : Below B w w1) => (dh.below (Nat.le_refl _) (hb.trans (h1.mono h0))).c3)
  have C5 := hid (fun (w1 : World) (h1 : Below B w w1) => (dh.below (Nat.le_refl _) (hb.trans (h1.mono h0))).c5)
  have c2 := dw.c2
  clear ih ihs dh hn dl hr hok hR hE h0 hb hp hl ho hm dw hO e1 e2 hmo hnb hne dlb dle hrb hre hokb hoke hc
  go_enter Tryz.func128, Tryz.ntmps128
  go_wp2_with (go_at_call 136; (refine (Hid.out K1).mono ?_; rintro e w1 ⟨rfl, hp1, hk1⟩; have d1 := C1.out w1 hk1.1; have d3 := C3.out w1 hk1.1; have K2' := hid (K2.out w1 hk1.1 hp1); have HK1 := hid hk1; clear hp1 hk1))
  go_region_held3 (fun w2 => w2.cell? ⟨h.b, h.o + 1, none⟩ = some (.string h.name) ∧ w2.cell? ⟨h.b, h.o + 3, none⟩ = some (.string h.var)) (first | exact ⟨C1.out _ (HK1.out.trans hk2).1, C3.out _ (HK1.out.trans hk2).1⟩ | go_keep) (first | (go_at_call 99; (refine (Hid.out K2').mono ?_; rintro e w2 ⟨rfl, hp2, hk2⟩)))
  have HK2 := hid (HK1.out.trans hk2)
  have d5 := C5.out w2 HK2.out.1
  have K4' := hid (K4.out w2 HK2.out.1 hp2)
  clear hp2 hk2
  go_wp2_with (go_at_call 121; (refine (Hid.out K4').mono ?_; rintro e w4 ⟨rfl, hp4, hk4⟩))
  go_end0
  exact ⟨rfl, hp4.eq (by simp [sEach, sIn]) rfl, HK2.out.trans hk4⟩

def prS : (k : Nat) → ST k → List UInt8
  | 0, _ => []
  | k + 1, t => stB t.1 (t.2.1.map (prE k)) (t.2.2.1.map (prS k)) (t.2.2.2.map (prS k))
def dpS : (k : Nat) → ST k → Nat
  | 0, _ => 0
  | k + 1, t => stD t.1 (t.2.1.map (dpE k)) (t.2.2.1.map (dpS k)) (t.2.2.2.map (dpS k))
def okSt : (k : Nat) → ST k → Prop
  | 0, _ => False
  | k + 1, t => rightS t.1 = true ∧ capS t.1 ∧ (∀ u ∈ t.2.1, okAll k u) ∧ (∀ u ∈ t.2.2.1, okSt k u) ∧ ∀ u ∈ t.2.2.2, okSt k u
theorem skind_of {h : SH} (hO : okS h = true) : isSimp h ∨ h.kind = 5 ∨ h.kind = 6 ∨ h.kind = 7 := by
  unfold okS at hO
  unfold isSimp
  repeat' split at hO
  all_goals first | (simp at hO; done) | omega
theorem stmt_all : ∀ k, StSaid k (prS k) (dpS k) (okSt k)
  | 0 => fun w0 t => Empty.elim t
  | k + 1 => by
    have ih := stmt_all k
    intro w0 t B b l op mo w hrd hok hE h0 hb hB hp hl ho hm hmo
    obtain ⟨h, ts, bt, et⟩ := t
    obtain ⟨dh, ⟨hn, hnb, hne⟩, ⟨dl, dlb, dle⟩, hr, hrb, hre⟩ := hrd
    obtain ⟨hR, hc, hoka, hokb, hoke⟩ := hok
    simp only at dh hn hnb hne dl dlb dle hr hrb hre hR hc hoka hokb hoke
    rcases skind_of (okS_of hR) with hk | hk | hk | hk
    · exact stmt_d k _ _ _ ih w0 h ts bt et hk hc dh hn hnb hne dl dlb dle hr hrb hre hoka hokb hoke hR B b l op mo w hE h0 hb hB hp hl ho hm hmo
    · by_cases hen : h.en = 0
      · exact stmt_5n k _ _ _ ih w0 h ts bt et hk hen hc dh hn hnb hne dl dlb dle hr hrb hre hoka hokb hoke hR B b l op mo w hE h0 hb hB hp hl ho hm hmo
      · exact stmt_5e k _ _ _ ih w0 h ts bt et hk hen hc dh hn hnb hne dl dlb dle hr hrb hre hoka hokb hoke hR B b l op mo w hE h0 hb hB hp hl ho hm hmo
    · exact stmt_6 k _ _ _ ih w0 h ts bt et hk hc dh hn hnb hne dl dlb dle hr hrb hre hoka hokb hoke hR B b l op mo w hE h0 hb hB hp hl ho hm hmo
    · exact stmt_7 k _ _ _ ih w0 h ts bt et hk hc dh hn hnb hne dl dlb dle hr hrb hre hoka hokb hoke hR B b l op mo w hE h0 hb hB hp hl ho hm hmo
end Go.Proofs.YtdfambocenohgaaGreatDoor

namespace Go.Proofs.YtdfambocenohgaaGreatDoor
open Go.RowKit Go.Deep
set_option linter.unusedVariables false
set_option linter.unusedSimpArgs false

def sCol : ByteArray := ⟨#[58, 32]⟩
def pmB (p : ByteArray × ByteArray) : List UInt8 := catL [p.1, sCol, p.2]
set_option maxRecDepth 100000 in
set_option maxHeartbeats 1000000 in
theorem printParams_any (w0 : World) (a : Option Addr) (n c : Nat) (ps : List (ByteArray × ByteArray)) (hn : n = ps.length) (hna : n ≤ 1000000) (hr : PLs w0 a ps) (B b : Nat) (l : List UInt8) (op mo : Nat) (w : World) (h0 : w0.heap.size ≤ B) (hb : Below w0.heap.size w0 w) (hB : B ≤ w.heap.size) (hp : Prn w B b l op mo) (hl : l.length + (jn (ps.map pmB)).length ≤ 900000000) :
    Calls Tryz.prog 120 #[.pointer (some ⟨b, 0, none⟩), .slice a n c] w (PrP w B b (l ++ jn (ps.map pmB)) op mo) := by
  have hnI : (n : Int) ≤ 1000000 := by omega
  have KC := hid (fun (i : Nat) (p : ByteArray × ByteArray) (ht : ps[i]? = some p) (w1 : World) (h1 : Below B w w1) (hp1 : Prn w1 B b (l ++ jn ((ps.take i).map pmB)) op mo) => comma_any w1 B b _ op mo hp1 i (by have := (List.getElem?_eq_some_iff.1 ht).1; omega) (Nat.le_trans hB h1.size) (by
    have := jn_pre pmB ps i
    rw [List.length_append]; omega))
  have K2 := hid (fun (i : Nat) (p : ByteArray × ByteArray) (ht : ps[i]? = some p) (w1 : World) (h1 : Below B w w1) (hp1 : Prn w1 B b (l ++ jn ((ps.take i).map pmB) ++ commaB i) op mo) => write_new w1 B b _ op mo hp1 [p.1, sCol, p.2] 3 rfl (by omega) (Nat.le_trans hB h1.size) (by
    have h2 := jn_pre pmB ps (i + 1)
    rw [jn_take pmB ht] at h2
    simp only [List.length_append, pmB] at h2 ⊢
    omega))
  simp only [List.map_cons, List.map_nil] at K2
  have PL := hid (fun (w1 : World) (h1 : Below B w w1) => hr.below (Nat.le_refl _) (hb.trans (h1.mono h0)))
  have HP := hid hp
  have HN := hid hn
  have HB := hid hB
  clear hr hp hl hb hn
  go_enter Tryz.func120, Tryz.ntmps120
  go_wp2
  go_loopg [8] n (fun g x wr => ∃ i : Nat, i + g = n ∧ x = .int .i64 (i : Int) ∧ Prn wr B b (l ++ jn ((ps.take i).map pmB)) op mo ∧ Kpt B b w wr)
  case atStart => exact ⟨0, by omega, rfl, HP.out.eq (by simp [jn]) rfl, Kpt.refl _ _ _⟩
  case round =>
    obtain ⟨i, hi, rfl, hp2, hk2⟩ := hrel
    cases gk with
    | zero =>
      have hin : i = n := by omega
      subst hin
      rw [HN.out, List.take_of_length_le (Nat.le_refl _)] at hp2
      have HP2 := hid hp2
      have HK2 := hid hk2
      clear hi hp2 hk2
      go_wp2
      go_end0
      exact ⟨rfl, HP2.out, HK2.out⟩
    | succ g =>
      have hil : (i : Int) < (n : Int) := by omega
      have hi0 : (0 : Int) ≤ (i : Int) := by omega
      obtain ⟨⟨s, u⟩, hs⟩ : ∃ s, ps[i]? = some s := ⟨ps[i]'(by rw [← HN.out]; omega), List.getElem?_eq_getElem _⟩
      obtain ⟨ab, off, ea, hc1, hc2⟩ := PL.out wr hk2.1 i (s, u) hs
      subst ea
      simp only at hc1 hc2
      obtain ⟨W, hW⟩ : ∃ W, W = wr.alloc (.cells #[.string s, .string u] 88) := ⟨_, rfl⟩
      have hbW : Below wr.heap.size wr W := by rw [hW]; exact (Below.refl _ wr).alloc (Nat.le_refl _) _
      have hbox : W.heap[wr.heap.size]? = some (.cells #[.string s, .string u] 88 (0, 0)) := by rw [hW]; exact heap_alloc_new _ _
      have hkW : Kpt B b w W := hk2.trans (Kpt.below hbW (Nat.le_trans HB.out hk2.1.size))
      have hne : wr.heap.size ≠ b := by have := hp2.lt; omega
      have KC' := hid (KC.out i (s, u) hs W hkW.1 (hp2.below hbW))
      have K2' := hid (K2.out i (s, u) hs)
      have HX := hid (fun (w1 : World) (h : Kpt B b W w1) => h.2 _ _ _ hne (by decide) hbox)
      have HJ := hid (jn_take pmB hs)
      have HKW := hid hkW
      have Hi := hid hi
      clear hs hi hp2 hk2 hbW hbox hkW hne
      go_upto_region 3 with fail
      try rw [← hW]
      clear hW
      go_wp2_with (first
        | (go_at_call 107; (refine (Hid.out KC').mono ?_; rintro e w1 ⟨rfl, hp3, hk3⟩; have hx := HX.out w1 hk3; have z0 := cellT hx 0; have z1 := cellT hx 1; simp only [List.getElem?_toArray, List.getElem?_cons_zero, List.getElem?_cons_succ] at z0 z1; have HK3 := hid (HKW.out.trans hk3); have K4 := hid (K2'.out w1 HK3.out.1 hp3); simp only [sCol] at K4; clear hp3 hk3 hx))
        | (go_at_call 99; (refine (Hid.out K4).mono ?_; rintro e w3 ⟨rfl, hp4, hk4⟩)))
      go_roundg g
      case measure => omega
      case rel => exact ⟨i + 1, by have := Hi.out; omega, by go_num, hp4.eq (by rw [HJ.out]; simp [pmB, sCol]) rfl, HK3.out.trans hk4⟩
end Go.Proofs.YtdfambocenohgaaGreatDoor

