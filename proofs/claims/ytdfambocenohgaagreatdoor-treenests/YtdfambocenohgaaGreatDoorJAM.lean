/- The printer: statements without a block. -/
import Derived.Test.YtdfambocenohgaaGreatDoorJAL
namespace Go.Proofs.YtdfambocenohgaaGreatDoor
open Go.RowKit Go.Deep
set_option linter.unusedVariables false
set_option linter.unusedSimpArgs false

def h1 {β γ : Type} (ps : List β) (f : β → γ) (z : γ) : γ := match ps with
  | p :: _ => f p
  | _ => z
def h2 {β γ : Type} (ps : List β) (f : β → β → γ) (z : γ) : γ := match ps with
  | p :: q :: _ => f p q
  | _ => z
def sLet : ByteArray := ⟨#[108, 101, 116, 32]⟩
def sEq : ByteArray := ⟨#[32, 61, 32]⟩
def sDel : ByteArray := ⟨#[100, 101, 108, 32]⟩
def sBreak : ByteArray := ⟨#[98, 114, 101, 97, 107]⟩
def sCont : ByteArray := ⟨#[99, 111, 110, 116, 105, 110, 117, 101]⟩
def sRet : ByteArray := ⟨#[114, 101, 116, 117, 114, 110]⟩
def sEmit : ByteArray := ⟨#[101, 109, 105, 116, 32]⟩
def sAfter : ByteArray := ⟨#[97, 102, 116, 101, 114, 32]⟩
def sDo : ByteArray := ⟨#[100, 111, 32]⟩
/- What is written of a statement without a block, but for its end. -/
def smB (h : SH) (ps : List (List UInt8)) : List UInt8 :=
  if h.kind = 1 then h1 ps (fun p => catL [sLet, h.name, sEq] ++ p) [] else
  if h.kind = 2 then h1 ps (fun p => catL [h.name, sEq] ++ p) [] else
  if h.kind = 3 then h2 ps (fun p q => bs h.name ++ (91 :: (p ++ [93])) ++ catL [sEq] ++ q) [] else
  if h.kind = 4 then h1 ps (fun p => catL [sDel] ++ (bs h.name ++ (91 :: (p ++ [93])))) [] else
  if h.kind = 8 then jpB sBreak h.name else
  if h.kind = 9 then jpB sCont h.name else
  if h.kind = 10 then catL [sRet] ++ h1 ps (fun p => 32 :: p) [] else
  if h.kind = 11 then h1 ps (fun p => catL [sEmit] ++ p) [] else
  if h.kind = 12 then h1 ps (fun p => catL [sAfter] ++ p ++ [32] ++ (bs h.name ++ (40 :: (jn ps.tail ++ [41])))) [] else h1 ps (fun p => catL [sDo] ++ p) []
def smD (h : SH) (ds : List Nat) : Nat :=
  if h.kind = 3 then h2 ds (fun d e => max (1 + d) e) 0 else
  if h.kind = 4 then h1 ds (fun d => 1 + d) 0 else
  if h.kind = 8 ∨ h.kind = 9 then 0 else
  if h.kind = 12 then h1 ds (fun d => max d (1 + mxL ds.tail)) 0 else h1 ds (fun d => d) 0
theorem okS_of {h : SH} (hR : rightS h = true) : okS h = true := by unfold rightS at hR; simp only [Bool.and_eq_true] at hR; exact hR.1

set_option maxRecDepth 100000 in
set_option maxHeartbeats 1000000 in
theorem simple_1 (k : Nat) (w0 : World) (h : SH) (ts : List (ET k)) (hk : h.kind = 1) (dh : SHr w0 h) (hn : h.an = ts.length) (dl : LiesAt 8 h.aa (eAt k) ts) (hr : ∀ u ∈ ts, ERd k w0 u) (hok : ∀ u ∈ ts, okAll k u) (hR : rightS h = true) (B b : Nat) (l : List UInt8) (op mo : Nat) (w : World) (hE : EnvT w0) (h0 : w0.heap.size ≤ B) (hb : Below w0.heap.size w0 w) (hB : B ≤ w.heap.size) (hp : Prn w B b l op mo)
    (hl : l.length + (smB h (ts.map (prE k))).length ≤ 900000000) (ho : op + smD h (ts.map (dpE k)) ≤ 900000000) (hm : mo ≤ 900000000) (hmo : op ≤ mo) :
    Calls Tryz.prog 137 #[.pointer (some ⟨b, 0, none⟩), .pointer (some ⟨h.b, h.o, none⟩)] w (PrP w B b (l ++ smB h (ts.map (prE k))) op (max mo (op + smD h (ts.map (dpE k))))) := by
  have hO := okS_of hR
  unfold okS at hO
  have dw := dh.below (Nat.le_refl _) hb
  have c0 := dw.c0
  have ih := expr_all k
  simp only [hk] at hO
  simp at hO
  obtain ⟨t, rfl⟩ := one_of hn (by omega)
  have e1 : smB h ([t].map (prE k)) = catL [sLet, h.name, sEq] ++ prE k t := by unfold smB; simp [hk, h1]
  have e2 : smD h ([t].map (dpE k)) = dpE k t := by unfold smD; simp [hk, h1]
  rw [e1] at hl ⊢
  rw [e2] at ho ⊢
  rw [List.length_append] at hl
  have hanI : h.an = 1 := by omega
  obtain ⟨ab, aoff, eaa, hat⟩ := dl 0 t rfl
  simp only [eAt, Prod.mk.injEq] at hat
  have c1 := dw.c1
  have K1 := hid (write_new w B b l op mo hp [sLet, h.name, sEq] 3 rfl (by omega) hB (by omega))
  simp only [List.map_cons, List.map_nil, sLet, sEq] at K1
  have K2 := hid (fun (w1 : World) (h1 : Below B w w1) (hp1 : Prn w1 B b (l ++ catL [sLet, h.name, sEq]) op mo) => ih w0 t B b _ op mo w1 (hr t (by simp)) (hok t (by simp)) hE h0 (hb.trans (h1.mono h0)) (Nat.le_trans hB h1.size) hp1 (by rw [List.length_append]; omega) ho hm hmo)
  simp only [hat.1, hat.2, sLet, sEq] at K2
  have C4 := hid (fun (w1 : World) (h1 : Below B w w1) => (dh.below (Nat.le_refl _) (hb.trans (h1.mono h0))).c4)
  rw [eaa, hanI] at C4
  clear ih dh hn dl hr hok hR hE h0 hb hp hl ho hm dw hO e1 e2 eaa hat hanI hmo
  go_enter Tryz.func137, Tryz.ntmps137
  go_wp2_with (first
    | (go_at_call 99; (refine (Hid.out K1).mono ?_; rintro e w1 ⟨rfl, hp1, hk1⟩; have d4 := C4.out w1 hk1.1; have K2' := hid (K2.out w1 hk1.1 hp1); have HK1 := hid hk1; clear hp1 hk1))
    | (go_at_call 79; (refine (Hid.out K2').mono ?_; rintro e w2 ⟨rfl, hp2, hk2⟩)))
  go_end0
  exact ⟨rfl, hp2.eq (by simp [sLet, sEq]) rfl, HK1.out.trans hk2⟩

set_option maxRecDepth 100000 in
set_option maxHeartbeats 1000000 in
theorem simple_2 (k : Nat) (w0 : World) (h : SH) (ts : List (ET k)) (hk : h.kind = 2) (dh : SHr w0 h) (hn : h.an = ts.length) (dl : LiesAt 8 h.aa (eAt k) ts) (hr : ∀ u ∈ ts, ERd k w0 u) (hok : ∀ u ∈ ts, okAll k u) (hR : rightS h = true) (B b : Nat) (l : List UInt8) (op mo : Nat) (w : World) (hE : EnvT w0) (h0 : w0.heap.size ≤ B) (hb : Below w0.heap.size w0 w) (hB : B ≤ w.heap.size) (hp : Prn w B b l op mo)
    (hl : l.length + (smB h (ts.map (prE k))).length ≤ 900000000) (ho : op + smD h (ts.map (dpE k)) ≤ 900000000) (hm : mo ≤ 900000000) (hmo : op ≤ mo) :
    Calls Tryz.prog 137 #[.pointer (some ⟨b, 0, none⟩), .pointer (some ⟨h.b, h.o, none⟩)] w (PrP w B b (l ++ smB h (ts.map (prE k))) op (max mo (op + smD h (ts.map (dpE k))))) := by
  have hO := okS_of hR
  unfold okS at hO
  have dw := dh.below (Nat.le_refl _) hb
  have c0 := dw.c0
  have ih := expr_all k
  simp only [hk] at hO
  simp at hO
  obtain ⟨t, rfl⟩ := one_of hn (by omega)
  have e1 : smB h ([t].map (prE k)) = catL [h.name, sEq] ++ prE k t := by unfold smB; simp [hk, h1]
  have e2 : smD h ([t].map (dpE k)) = dpE k t := by unfold smD; simp [hk, h1]
  rw [e1] at hl ⊢
  rw [e2] at ho ⊢
  rw [List.length_append] at hl
  have hanI : h.an = 1 := by omega
  obtain ⟨ab, aoff, eaa, hat⟩ := dl 0 t rfl
  simp only [eAt, Prod.mk.injEq] at hat
  have c1 := dw.c1
  have K1 := hid (write_new w B b l op mo hp [h.name, sEq] 2 rfl (by omega) hB (by omega))
  simp only [List.map_cons, List.map_nil, sEq] at K1
  have K2 := hid (fun (w1 : World) (h1 : Below B w w1) (hp1 : Prn w1 B b (l ++ catL [h.name, sEq]) op mo) => ih w0 t B b _ op mo w1 (hr t (by simp)) (hok t (by simp)) hE h0 (hb.trans (h1.mono h0)) (Nat.le_trans hB h1.size) hp1 (by rw [List.length_append]; omega) ho hm hmo)
  simp only [hat.1, hat.2, sEq] at K2
  have C4 := hid (fun (w1 : World) (h1 : Below B w w1) => (dh.below (Nat.le_refl _) (hb.trans (h1.mono h0))).c4)
  rw [eaa, hanI] at C4
  clear ih dh hn dl hr hok hR hE h0 hb hp hl ho hm dw hO e1 e2 eaa hat hanI hmo
  go_enter Tryz.func137, Tryz.ntmps137
  go_wp2_with (first
    | (go_at_call 99; (refine (Hid.out K1).mono ?_; rintro e w1 ⟨rfl, hp1, hk1⟩; have d4 := C4.out w1 hk1.1; have K2' := hid (K2.out w1 hk1.1 hp1); have HK1 := hid hk1; clear hp1 hk1))
    | (go_at_call 79; (refine (Hid.out K2').mono ?_; rintro e w2 ⟨rfl, hp2, hk2⟩)))
  go_end0
  exact ⟨rfl, hp2.eq (by simp [sEq]) rfl, HK1.out.trans hk2⟩

set_option maxRecDepth 100000 in
set_option maxHeartbeats 1000000 in
theorem simple_11 (k : Nat) (w0 : World) (h : SH) (ts : List (ET k)) (hk : h.kind = 11) (dh : SHr w0 h) (hn : h.an = ts.length) (dl : LiesAt 8 h.aa (eAt k) ts) (hr : ∀ u ∈ ts, ERd k w0 u) (hok : ∀ u ∈ ts, okAll k u) (hR : rightS h = true) (B b : Nat) (l : List UInt8) (op mo : Nat) (w : World) (hE : EnvT w0) (h0 : w0.heap.size ≤ B) (hb : Below w0.heap.size w0 w) (hB : B ≤ w.heap.size) (hp : Prn w B b l op mo)
    (hl : l.length + (smB h (ts.map (prE k))).length ≤ 900000000) (ho : op + smD h (ts.map (dpE k)) ≤ 900000000) (hm : mo ≤ 900000000) (hmo : op ≤ mo) :
    Calls Tryz.prog 137 #[.pointer (some ⟨b, 0, none⟩), .pointer (some ⟨h.b, h.o, none⟩)] w (PrP w B b (l ++ smB h (ts.map (prE k))) op (max mo (op + smD h (ts.map (dpE k))))) := by
  have hO := okS_of hR
  unfold okS at hO
  have dw := dh.below (Nat.le_refl _) hb
  have c0 := dw.c0
  have ih := expr_all k
  simp only [hk] at hO
  simp at hO
  obtain ⟨t, rfl⟩ := one_of hn (by omega)
  have e1 : smB h ([t].map (prE k)) = catL [sEmit] ++ prE k t := by unfold smB; simp [hk, h1]
  have e2 : smD h ([t].map (dpE k)) = dpE k t := by unfold smD; simp [hk, h1]
  rw [e1] at hl ⊢
  rw [e2] at ho ⊢
  rw [List.length_append] at hl
  have hanI : h.an = 1 := by omega
  obtain ⟨ab, aoff, eaa, hat⟩ := dl 0 t rfl
  simp only [eAt, Prod.mk.injEq] at hat
  have c1 := dw.c1
  have K1 := hid (write_new w B b l op mo hp [sEmit] 1 rfl (by omega) hB (by omega))
  simp only [List.map_cons, List.map_nil, sEmit] at K1
  have K2 := hid (fun (w1 : World) (h1 : Below B w w1) (hp1 : Prn w1 B b (l ++ catL [sEmit]) op mo) => ih w0 t B b _ op mo w1 (hr t (by simp)) (hok t (by simp)) hE h0 (hb.trans (h1.mono h0)) (Nat.le_trans hB h1.size) hp1 (by rw [List.length_append]; omega) ho hm hmo)
  simp only [hat.1, hat.2, sEmit] at K2
  have C4 := hid (fun (w1 : World) (h1 : Below B w w1) => (dh.below (Nat.le_refl _) (hb.trans (h1.mono h0))).c4)
  rw [eaa, hanI] at C4
  clear ih dh hn dl hr hok hR hE h0 hb hp hl ho hm dw hO e1 e2 eaa hat hanI hmo
  go_enter Tryz.func137, Tryz.ntmps137
  go_wp2_with (first
    | (go_at_call 99; (refine (Hid.out K1).mono ?_; rintro e w1 ⟨rfl, hp1, hk1⟩; have d4 := C4.out w1 hk1.1; have K2' := hid (K2.out w1 hk1.1 hp1); have HK1 := hid hk1; clear hp1 hk1))
    | (go_at_call 79; (refine (Hid.out K2').mono ?_; rintro e w2 ⟨rfl, hp2, hk2⟩)))
  go_end0
  exact ⟨rfl, hp2.eq (by simp [sEmit]) rfl, HK1.out.trans hk2⟩

set_option maxRecDepth 100000 in
set_option maxHeartbeats 1000000 in
theorem simple_13 (k : Nat) (w0 : World) (h : SH) (ts : List (ET k)) (hk : h.kind = 13) (dh : SHr w0 h) (hn : h.an = ts.length) (dl : LiesAt 8 h.aa (eAt k) ts) (hr : ∀ u ∈ ts, ERd k w0 u) (hok : ∀ u ∈ ts, okAll k u) (hR : rightS h = true) (B b : Nat) (l : List UInt8) (op mo : Nat) (w : World) (hE : EnvT w0) (h0 : w0.heap.size ≤ B) (hb : Below w0.heap.size w0 w) (hB : B ≤ w.heap.size) (hp : Prn w B b l op mo)
    (hl : l.length + (smB h (ts.map (prE k))).length ≤ 900000000) (ho : op + smD h (ts.map (dpE k)) ≤ 900000000) (hm : mo ≤ 900000000) (hmo : op ≤ mo) :
    Calls Tryz.prog 137 #[.pointer (some ⟨b, 0, none⟩), .pointer (some ⟨h.b, h.o, none⟩)] w (PrP w B b (l ++ smB h (ts.map (prE k))) op (max mo (op + smD h (ts.map (dpE k))))) := by
  have hO := okS_of hR
  unfold okS at hO
  have dw := dh.below (Nat.le_refl _) hb
  have c0 := dw.c0
  have ih := expr_all k
  simp only [hk] at hO
  simp at hO
  obtain ⟨t, rfl⟩ := one_of hn (by omega)
  have e1 : smB h ([t].map (prE k)) = catL [sDo] ++ prE k t := by unfold smB; simp [hk, h1]
  have e2 : smD h ([t].map (dpE k)) = dpE k t := by unfold smD; simp [hk, h1]
  rw [e1] at hl ⊢
  rw [e2] at ho ⊢
  rw [List.length_append] at hl
  have hanI : h.an = 1 := by omega
  obtain ⟨ab, aoff, eaa, hat⟩ := dl 0 t rfl
  simp only [eAt, Prod.mk.injEq] at hat
  have c1 := dw.c1
  have K1 := hid (write_new w B b l op mo hp [sDo] 1 rfl (by omega) hB (by omega))
  simp only [List.map_cons, List.map_nil, sDo] at K1
  have K2 := hid (fun (w1 : World) (h1 : Below B w w1) (hp1 : Prn w1 B b (l ++ catL [sDo]) op mo) => ih w0 t B b _ op mo w1 (hr t (by simp)) (hok t (by simp)) hE h0 (hb.trans (h1.mono h0)) (Nat.le_trans hB h1.size) hp1 (by rw [List.length_append]; omega) ho hm hmo)
  simp only [hat.1, hat.2, sDo] at K2
  have C4 := hid (fun (w1 : World) (h1 : Below B w w1) => (dh.below (Nat.le_refl _) (hb.trans (h1.mono h0))).c4)
  rw [eaa, hanI] at C4
  clear ih dh hn dl hr hok hR hE h0 hb hp hl ho hm dw hO e1 e2 eaa hat hanI hmo
  go_enter Tryz.func137, Tryz.ntmps137
  go_wp2_with (first
    | (go_at_call 99; (refine (Hid.out K1).mono ?_; rintro e w1 ⟨rfl, hp1, hk1⟩; have d4 := C4.out w1 hk1.1; have K2' := hid (K2.out w1 hk1.1 hp1); have HK1 := hid hk1; clear hp1 hk1))
    | (go_at_call 79; (refine (Hid.out K2').mono ?_; rintro e w2 ⟨rfl, hp2, hk2⟩)))
  go_end0
  exact ⟨rfl, hp2.eq (by simp [sDo]) rfl, HK1.out.trans hk2⟩

set_option maxRecDepth 100000 in
set_option maxHeartbeats 1000000 in
theorem simple_8 (k : Nat) (w0 : World) (h : SH) (ts : List (ET k)) (hk : h.kind = 8) (dh : SHr w0 h) (hn : h.an = ts.length) (dl : LiesAt 8 h.aa (eAt k) ts) (hr : ∀ u ∈ ts, ERd k w0 u) (hok : ∀ u ∈ ts, okAll k u) (hR : rightS h = true) (B b : Nat) (l : List UInt8) (op mo : Nat) (w : World) (hE : EnvT w0) (h0 : w0.heap.size ≤ B) (hb : Below w0.heap.size w0 w) (hB : B ≤ w.heap.size) (hp : Prn w B b l op mo)
    (hl : l.length + (smB h (ts.map (prE k))).length ≤ 900000000) (ho : op + smD h (ts.map (dpE k)) ≤ 900000000) (hm : mo ≤ 900000000) (hmo : op ≤ mo) :
    Calls Tryz.prog 137 #[.pointer (some ⟨b, 0, none⟩), .pointer (some ⟨h.b, h.o, none⟩)] w (PrP w B b (l ++ smB h (ts.map (prE k))) op (max mo (op + smD h (ts.map (dpE k))))) := by
  have hO := okS_of hR
  unfold okS at hO
  have dw := dh.below (Nat.le_refl _) hb
  have c0 := dw.c0
  have ih := expr_all k
  have e1 : smB h (ts.map (prE k)) = jpB sBreak h.name := by unfold smB; simp [hk]
  have e2 : smD h (ts.map (dpE k)) = 0 := by unfold smD; simp [hk]
  rw [e1] at hl ⊢
  rw [e2] at ho ⊢
  have c1 := dw.c1
  have K1 := hid (jump_any w B b l op mo hp sBreak h.name hB hl)
  simp only [sBreak] at K1
  have HM := hid hmo
  clear ih dh hn dl hr hok hR hE h0 hb hp hl ho hm dw hO e1 e2 hmo
  go_enter Tryz.func137, Tryz.ntmps137
  go_wp2_with (go_at_call 152; (refine (Hid.out K1).mono ?_; rintro e w1 ⟨rfl, hp1, hk1⟩))
  go_end0
  exact ⟨rfl, hp1.eq rfl (by have := HM.out; omega), hk1⟩

set_option maxRecDepth 100000 in
set_option maxHeartbeats 1000000 in
theorem simple_9 (k : Nat) (w0 : World) (h : SH) (ts : List (ET k)) (hk : h.kind = 9) (dh : SHr w0 h) (hn : h.an = ts.length) (dl : LiesAt 8 h.aa (eAt k) ts) (hr : ∀ u ∈ ts, ERd k w0 u) (hok : ∀ u ∈ ts, okAll k u) (hR : rightS h = true) (B b : Nat) (l : List UInt8) (op mo : Nat) (w : World) (hE : EnvT w0) (h0 : w0.heap.size ≤ B) (hb : Below w0.heap.size w0 w) (hB : B ≤ w.heap.size) (hp : Prn w B b l op mo)
    (hl : l.length + (smB h (ts.map (prE k))).length ≤ 900000000) (ho : op + smD h (ts.map (dpE k)) ≤ 900000000) (hm : mo ≤ 900000000) (hmo : op ≤ mo) :
    Calls Tryz.prog 137 #[.pointer (some ⟨b, 0, none⟩), .pointer (some ⟨h.b, h.o, none⟩)] w (PrP w B b (l ++ smB h (ts.map (prE k))) op (max mo (op + smD h (ts.map (dpE k))))) := by
  have hO := okS_of hR
  unfold okS at hO
  have dw := dh.below (Nat.le_refl _) hb
  have c0 := dw.c0
  have ih := expr_all k
  have e1 : smB h (ts.map (prE k)) = jpB sCont h.name := by unfold smB; simp [hk]
  have e2 : smD h (ts.map (dpE k)) = 0 := by unfold smD; simp [hk]
  rw [e1] at hl ⊢
  rw [e2] at ho ⊢
  have c1 := dw.c1
  have K1 := hid (jump_any w B b l op mo hp sCont h.name hB hl)
  simp only [sCont] at K1
  have HM := hid hmo
  clear ih dh hn dl hr hok hR hE h0 hb hp hl ho hm dw hO e1 e2 hmo
  go_enter Tryz.func137, Tryz.ntmps137
  go_wp2_with (go_at_call 152; (refine (Hid.out K1).mono ?_; rintro e w1 ⟨rfl, hp1, hk1⟩))
  go_end0
  exact ⟨rfl, hp1.eq rfl (by have := HM.out; omega), hk1⟩

set_option maxRecDepth 100000 in
set_option maxHeartbeats 1000000 in
theorem simple_10 (k : Nat) (w0 : World) (h : SH) (ts : List (ET k)) (hk : h.kind = 10) (dh : SHr w0 h) (hn : h.an = ts.length) (dl : LiesAt 8 h.aa (eAt k) ts) (hr : ∀ u ∈ ts, ERd k w0 u) (hok : ∀ u ∈ ts, okAll k u) (hR : rightS h = true) (B b : Nat) (l : List UInt8) (op mo : Nat) (w : World) (hE : EnvT w0) (h0 : w0.heap.size ≤ B) (hb : Below w0.heap.size w0 w) (hB : B ≤ w.heap.size) (hp : Prn w B b l op mo)
    (hl : l.length + (smB h (ts.map (prE k))).length ≤ 900000000) (ho : op + smD h (ts.map (dpE k)) ≤ 900000000) (hm : mo ≤ 900000000) (hmo : op ≤ mo) :
    Calls Tryz.prog 137 #[.pointer (some ⟨b, 0, none⟩), .pointer (some ⟨h.b, h.o, none⟩)] w (PrP w B b (l ++ smB h (ts.map (prE k))) op (max mo (op + smD h (ts.map (dpE k))))) := by
  have hO := okS_of hR
  unfold okS at hO
  have dw := dh.below (Nat.le_refl _) hb
  have c0 := dw.c0
  have ih := expr_all k
  simp only [hk] at hO
  simp at hO
  have c4 := dw.c4
  cases ts with
  | nil =>
    have hanI : h.an = 0 := hn
    have e1 : smB h (([] : List (ET k)).map (prE k)) = catL [sRet] := by unfold smB; simp [hk, h1]
    have e2 : smD h (([] : List (ET k)).map (dpE k)) = 0 := by unfold smD; simp [hk, h1]
    rw [e1] at hl ⊢
    rw [e2] at ho ⊢
    have K1 := hid (write_new w B b l op mo hp [sRet] 1 rfl (by omega) hB (by omega))
    simp only [List.map_cons, List.map_nil, sRet] at K1
    have C4 := hid (fun (w1 : World) (h1 : Below B w w1) => (dh.below (Nat.le_refl _) (hb.trans (h1.mono h0))).c4)
    rw [hanI] at C4
    have HM := hid hmo
    clear ih dh hn dl hr hok hR hE h0 hb hp hl ho hm dw hO e1 e2 hmo hanI c4
    go_enter Tryz.func137, Tryz.ntmps137
    go_wp2_with (go_at_call 99; (refine (Hid.out K1).mono ?_; rintro e w1 ⟨rfl, hp1, hk1⟩; have d4 := C4.out w1 hk1.1; have HP1 := hid hp1; have HK1 := hid hk1; clear hp1 hk1))
    go_end0
    exact ⟨rfl, HP1.out.eq (by simp [sRet]) (by have := HM.out; omega), HK1.out⟩
  | cons t r =>
    have hr0 : r = [] := by
      have : (t :: r).length ≤ 1 := by omega
      cases r with
      | nil => rfl
      | cons _ _ => simp at this
    subst hr0
    have hanI : h.an = 1 := hn
    have e1 : smB h ([t].map (prE k)) = catL [sRet] ++ (32 :: prE k t) := by unfold smB; simp [hk, h1]
    have e2 : smD h ([t].map (dpE k)) = dpE k t := by unfold smD; simp [hk, h1]
    rw [e1] at hl ⊢
    rw [e2] at ho ⊢
    rw [List.length_append, List.length_cons] at hl
    obtain ⟨ab, aoff, eaa, hat⟩ := dl 0 t rfl
    simp only [eAt, Prod.mk.injEq] at hat
    have K1 := hid (write_new w B b l op mo hp [sRet] 1 rfl (by omega) hB (by omega))
    simp only [List.map_cons, List.map_nil, sRet] at K1
    have ec : catL [⟨#[32]⟩] = [32] := by simp [catL]
    have K2 := hid (fun (w1 : World) (h1 : Below B w w1) (hp1 : Prn w1 B b (l ++ catL [sRet]) op mo) => write_new w1 B b _ op mo hp1 [⟨#[32]⟩] 1 rfl (by omega) (Nat.le_trans hB h1.size) (by rw [ec, List.length_append]; simp only [List.length_cons, List.length_nil]; omega))
    simp only [ec, List.map_cons, List.map_nil, sRet] at K2
    have K3 := hid (fun (w1 : World) (h1 : Below B w w1) (hp1 : Prn w1 B b (l ++ catL [sRet] ++ [32]) op mo) => ih w0 t B b _ op mo w1 (hr t (by simp)) (hok t (by simp)) hE h0 (hb.trans (h1.mono h0)) (Nat.le_trans hB h1.size) hp1 (by rw [List.length_append, List.length_append]; simp only [List.length_cons, List.length_nil]; omega) ho hm hmo)
    simp only [hat.1, hat.2, sRet] at K3
    have C4 := hid (fun (w1 : World) (h1 : Below B w w1) => (dh.below (Nat.le_refl _) (hb.trans (h1.mono h0))).c4)
    rw [eaa, hanI] at C4
    clear ih dh hn dl hr hok hR hE h0 hb hp hl ho hm dw hO e1 e2 hmo hanI c4 eaa hat ec
    go_enter Tryz.func137, Tryz.ntmps137
    go_wp2_with (first
      | (go_at_call 79; (refine (Hid.out K3').mono ?_; rintro e w3 ⟨rfl, hp3, hk3⟩))
      | (go_at_call 99; (have hno := K2'; refine (Hid.out K2').mono ?_; rintro e w2 ⟨rfl, hp2, hk2⟩; have HK2 := hid (HK1.out.trans hk2); have d5 := C4.out w2 HK2.out.1; have K3' := hid (K3.out w2 HK2.out.1 hp2); clear hp2 hk2))
      | (go_at_call 99; (refine (Hid.out K1).mono ?_; rintro e w1 ⟨rfl, hp1, hk1⟩; have d4 := C4.out w1 hk1.1; have K2' := hid (K2.out w1 hk1.1 hp1); have HK1 := hid hk1; clear hp1 hk1)))
    go_end0
    exact ⟨rfl, hp3.eq (by simp [sRet]) rfl, HK2.out.trans hk3⟩
end Go.Proofs.YtdfambocenohgaaGreatDoor

namespace Go.Proofs.YtdfambocenohgaaGreatDoor
open Go.RowKit Go.Deep
set_option linter.unusedVariables false
set_option linter.unusedSimpArgs false

set_option maxRecDepth 100000 in
set_option maxHeartbeats 1000000 in
theorem simple_4 (k : Nat) (w0 : World) (h : SH) (ts : List (ET k)) (hk : h.kind = 4) (dh : SHr w0 h) (hn : h.an = ts.length) (dl : LiesAt 8 h.aa (eAt k) ts) (hr : ∀ u ∈ ts, ERd k w0 u) (hok : ∀ u ∈ ts, okAll k u) (hR : rightS h = true) (B b : Nat) (l : List UInt8) (op mo : Nat) (w : World) (hE : EnvT w0) (h0 : w0.heap.size ≤ B) (hb : Below w0.heap.size w0 w) (hB : B ≤ w.heap.size) (hp : Prn w B b l op mo)
    (hl : l.length + (smB h (ts.map (prE k))).length ≤ 900000000) (ho : op + smD h (ts.map (dpE k)) ≤ 900000000) (hm : mo ≤ 900000000) (hmo : op ≤ mo) :
    Calls Tryz.prog 137 #[.pointer (some ⟨b, 0, none⟩), .pointer (some ⟨h.b, h.o, none⟩)] w (PrP w B b (l ++ smB h (ts.map (prE k))) op (max mo (op + smD h (ts.map (dpE k))))) := by
  have hO := okS_of hR
  unfold okS at hO
  have dw := dh.below (Nat.le_refl _) hb
  have c0 := dw.c0
  have ih := expr_all k
  simp only [hk] at hO
  simp at hO
  obtain ⟨t, rfl⟩ := one_of hn (by omega)
  have e1 : smB h ([t].map (prE k)) = catL [sDel] ++ (bs h.name ++ (91 :: (prE k t ++ [93]))) := by unfold smB; simp [hk, h1]
  have e2 : smD h ([t].map (dpE k)) = 1 + dpE k t := by unfold smD; simp [hk, h1]
  rw [e1] at hl ⊢
  rw [e2] at ho ⊢
  simp only [List.length_append, List.length_cons, List.length_nil, bs_len] at hl
  have hanI : h.an = 1 := by omega
  obtain ⟨ab, aoff, eaa, hat⟩ := dl 0 t rfl
  simp only [eAt, Prod.mk.injEq] at hat
  have K0 := hid (write_new w B b l op mo hp [sDel] 1 rfl (by omega) hB (by omega))
  simp only [List.map_cons, List.map_nil, sDel] at K0
  have K1 := hid (fun (w1 : World) (h1 : Below B w w1) (hp1 : Prn w1 B b (l ++ catL [sDel]) op mo) => (entry_of k (prE k) (dpE k) (okAll k) ih w0 t h.name B b _ op mo w1.drew (hr t (by simp)) (hok t (by simp)) hE h0 (hb.trans (h1.mono h0)).drew (Nat.le_trans hB h1.size) hp1.drew (by rw [List.length_append]; omega) (by omega) hm).mono (fun e w' h' => PrP.of (Nat.le_trans hB h1.size) ((Below.refl _ w1).drew) h'))
  simp only [hat.1, hat.2, sDel] at K1
  have C1 := hid (fun (w1 : World) (h1 : Below B w w1) => (dh.below (Nat.le_refl _) (hb.trans (h1.mono h0))).c1)
  have C4 := hid (fun (w1 : World) (h1 : Below B w w1) => (dh.below (Nat.le_refl _) (hb.trans (h1.mono h0))).c4)
  rw [eaa, hanI] at C4
  clear ih dh hn dl hr hok hR hE h0 hb hp hl ho hm dw hO e1 e2 eaa hat hanI hmo
  go_enter Tryz.func137, Tryz.ntmps137
  go_wp2_with (go_at_call 99; (refine (Hid.out K0).mono ?_; rintro e w1 ⟨rfl, hp1, hk1⟩; have c1 := C1.out w1 hk1.1; have c4 := C4.out w1 hk1.1; have K1' := hid (K1.out w1 hk1.1 hp1); have HK1 := hid hk1; clear hp1 hk1))
  go_region_held3 (fun w2 => w2.cell? ⟨h.b, h.o + 1, none⟩ = some (.string h.name) ∧ w2.cell? ⟨h.b, h.o + 4, none⟩ = some (.slice (some ⟨ab, aoff, none⟩) 1 h.ac)) (first | exact ⟨C1.out _ (HK1.out.trans hk2).1, C4.out _ (HK1.out.trans hk2).1⟩ | go_keep) (first | (go_at_call 109; (refine (Hid.out K1').mono ?_; rintro e w2 ⟨rfl, hp2, hk2⟩)))
  go_wp2
  go_end0
  exact ⟨rfl, hp2.eq (by simp [sDel]) rfl, HK1.out.trans hk2⟩

set_option maxRecDepth 100000 in
set_option maxHeartbeats 1000000 in
theorem simple_3 (k : Nat) (w0 : World) (h : SH) (ts : List (ET k)) (hk : h.kind = 3) (dh : SHr w0 h) (hn : h.an = ts.length) (dl : LiesAt 8 h.aa (eAt k) ts) (hr : ∀ u ∈ ts, ERd k w0 u) (hok : ∀ u ∈ ts, okAll k u) (hR : rightS h = true) (B b : Nat) (l : List UInt8) (op mo : Nat) (w : World) (hE : EnvT w0) (h0 : w0.heap.size ≤ B) (hb : Below w0.heap.size w0 w) (hB : B ≤ w.heap.size) (hp : Prn w B b l op mo)
    (hl : l.length + (smB h (ts.map (prE k))).length ≤ 900000000) (ho : op + smD h (ts.map (dpE k)) ≤ 900000000) (hm : mo ≤ 900000000) (hmo : op ≤ mo) :
    Calls Tryz.prog 137 #[.pointer (some ⟨b, 0, none⟩), .pointer (some ⟨h.b, h.o, none⟩)] w (PrP w B b (l ++ smB h (ts.map (prE k))) op (max mo (op + smD h (ts.map (dpE k))))) := by
  have hO := okS_of hR
  unfold okS at hO
  have dw := dh.below (Nat.le_refl _) hb
  have c0 := dw.c0
  have ih := expr_all k
  simp only [hk] at hO
  simp at hO
  obtain ⟨t, u, rfl⟩ := two_of' hn (by omega)
  have e1 : smB h ([t, u].map (prE k)) = bs h.name ++ (91 :: (prE k t ++ [93])) ++ catL [sEq] ++ prE k u := by unfold smB; simp [hk, h2]
  have e2 : smD h ([t, u].map (dpE k)) = max (1 + dpE k t) (dpE k u) := by unfold smD; simp [hk, h2]
  rw [e1] at hl ⊢
  rw [e2] at ho ⊢
  simp only [List.length_append, List.length_cons, List.length_nil, bs_len] at hl
  have hanI : h.an = 2 := by omega
  obtain ⟨ab, aoff, eaa, hat⟩ := dl 0 t rfl
  simp only [eAt, Prod.mk.injEq] at hat
  obtain ⟨ab', aoff', eaa', hau⟩ := dl 1 u rfl
  simp only [eAt, Prod.mk.injEq] at hau
  rw [eaa] at eaa'
  obtain ⟨rfl, rfl⟩ : ab = ab' ∧ aoff = aoff' := by simp at eaa'; exact ⟨eaa'.1, eaa'.2⟩
  have K0 := hid ((entry_of k (prE k) (dpE k) (okAll k) ih w0 t h.name B b l op mo w.drew (hr t (by simp)) (hok t (by simp)) hE h0 hb.drew hB hp.drew (by omega) (by omega) hm).mono (fun e w' h' => PrP.of hB ((Below.refl _ w).drew) h'))
  simp only [hat.1, hat.2] at K0
  have K1 := hid (fun (w1 : World) (h1 : Below B w w1) (hp1 : Prn w1 B b (l ++ (bs h.name ++ (91 :: (prE k t ++ [93])))) op (max mo (op + (1 + dpE k t)))) => write_new w1 B b _ op _ hp1 [sEq] 1 rfl (by omega) (Nat.le_trans hB h1.size) (by simp only [List.length_append, List.length_cons, List.length_nil, bs_len]; omega))
  simp only [List.map_cons, List.map_nil, sEq] at K1
  have K2 := hid (fun (w1 : World) (h1 : Below B w w1) (hp1 : Prn w1 B b (l ++ (bs h.name ++ (91 :: (prE k t ++ [93]))) ++ catL [sEq]) op (max mo (op + (1 + dpE k t)))) => ih w0 u B b _ op _ w1 (hr u (by simp)) (hok u (by simp)) hE h0 (hb.trans (h1.mono h0)) (Nat.le_trans hB h1.size) hp1 (by simp only [List.length_append, List.length_cons, List.length_nil, bs_len]; omega) (by omega) (by omega) (by omega))
  simp only [hau.1, hau.2, sEq] at K2
  have HF : Hid (max (max mo (op + (1 + dpE k t))) (op + dpE k u) = max mo (op + max (1 + dpE k t) (dpE k u))) := hid (by omega)
  have c1 := dw.c1
  have c4 := dw.c4
  rw [eaa, hanI] at c4
  have C1 := hid (fun (w1 : World) (h1 : Below B w w1) => (dh.below (Nat.le_refl _) (hb.trans (h1.mono h0))).c1)
  have C4 := hid (fun (w1 : World) (h1 : Below B w w1) => (dh.below (Nat.le_refl _) (hb.trans (h1.mono h0))).c4)
  rw [eaa, hanI] at C4
  clear ih dh hn dl hr hok hR hE h0 hb hp hl ho hm dw hO e1 e2 eaa eaa' hat hau hanI hmo
  go_enter Tryz.func137, Tryz.ntmps137
  go_wp2
  go_region_held3 (fun w2 => w2.cell? ⟨h.b, h.o + 1, none⟩ = some (.string h.name) ∧ w2.cell? ⟨h.b, h.o + 4, none⟩ = some (.slice (some ⟨ab, aoff, none⟩) 2 h.ac)) (first | exact ⟨C1.out _ hk1.1, C4.out _ hk1.1⟩ | go_keep) (first | (go_at_call 109; (refine (Hid.out K0).mono ?_; rintro e w1 ⟨rfl, hp1, hk1⟩)))
  have d4 := C4.out w1 hk1.1
  have K1' := hid (K1.out w1 hk1.1 hp1)
  have HK1 := hid hk1
  clear hp1 hk1 c1 c4
  go_wp2_with (first
    | (go_at_call 99; (refine (Hid.out K1').mono ?_; rintro e w2 ⟨rfl, hp2, hk2⟩; have HK2 := hid (HK1.out.trans hk2); have d5 := C4.out w2 HK2.out.1; have K2' := hid (K2.out w2 HK2.out.1 hp2); clear hp2 hk2))
    | (go_at_call 79; (refine (Hid.out K2').mono ?_; rintro e w3 ⟨rfl, hp3, hk3⟩)))
  go_end0
  exact ⟨rfl, hp3.eq (by simp [sEq]) HF.out, HK2.out.trans hk3⟩
end Go.Proofs.YtdfambocenohgaaGreatDoor

namespace Go.Proofs.YtdfambocenohgaaGreatDoor
open Go.RowKit Go.Deep
set_option linter.unusedVariables false
set_option linter.unusedSimpArgs false

theorem LiesAt.tl {α : Type} {z : Nat} {b off : Nat} {at' : α → Nat × Nat} {t : α} {ts : List α} (h : LiesAt z (some ⟨b, off, none⟩) at' (t :: ts)) : LiesAt z (some ⟨b, off + z, none⟩) at' ts := by
  intro j u hj
  obtain ⟨b', off', e, ha⟩ := h (j + 1) u (by simpa using hj)
  simp at e
  refine ⟨b, off + z, rfl, ?_⟩
  rw [ha, ← e.1, ← e.2, Nat.add_mul, Nat.one_mul, Nat.add_assoc, Nat.add_comm z]

set_option maxRecDepth 100000 in
set_option maxHeartbeats 1000000 in
theorem simple_12e (k : Nat) (w0 : World) (h : SH) (ts : List (ET k)) (hk : h.kind = 12) (dh : SHr w0 h) (hn : h.an = ts.length) (dl : LiesAt 8 h.aa (eAt k) ts) (hr : ∀ u ∈ ts, ERd k w0 u) (hok : ∀ u ∈ ts, okAll k u) (hR : rightS h = true) (B b : Nat) (l : List UInt8) (op mo : Nat) (w : World) (hac : h.ac = 1) (hle : h.an ≤ h.ac) (hcI : h.ac ≤ 9223372036854775807) (hE : EnvT w0) (h0 : w0.heap.size ≤ B) (hb : Below w0.heap.size w0 w) (hB : B ≤ w.heap.size) (hp : Prn w B b l op mo)
    (hl : l.length + (smB h (ts.map (prE k))).length ≤ 900000000) (ho : op + smD h (ts.map (dpE k)) ≤ 900000000) (hm : mo ≤ 900000000) (hmo : op ≤ mo) :
    Calls Tryz.prog 137 #[.pointer (some ⟨b, 0, none⟩), .pointer (some ⟨h.b, h.o, none⟩)] w (PrP w B b (l ++ smB h (ts.map (prE k))) op (max mo (op + smD h (ts.map (dpE k))))) := by
  have hO := okS_of hR
  unfold okS at hO
  have dw := dh.below (Nat.le_refl _) hb
  have c0 := dw.c0
  have ih := expr_all k
  simp only [hk] at hO
  simp at hO
  cases ts with
  | nil => exact absurd hn (by simp only [List.length_nil]; omega)
  | cons t us =>
  have e1 : smB h ((t :: us).map (prE k)) = catL [sAfter] ++ prE k t ++ [32] ++ (bs h.name ++ (40 :: (jn (us.map (prE k)) ++ [41]))) := by unfold smB; simp [hk, h1]
  have e2 : smD h ((t :: us).map (dpE k)) = max (dpE k t) (1 + mxL (us.map (dpE k))) := by unfold smD; simp [hk, h1]
  rw [e1] at hl ⊢
  rw [e2] at ho ⊢
  simp only [List.length_append, List.length_cons, List.length_nil, bs_len] at hl
  have hanI : h.an = us.length + 1 := by simpa using hn
  obtain ⟨ab, aoff, eaa, hat⟩ := dl 0 t rfl
  rw [eaa] at dl
  simp only [eAt, Prod.mk.injEq] at hat
  have hab := dh.ab
  have K0 := hid (write_new w B b l op mo hp [sAfter] 1 rfl (by omega) hB (by omega))
  simp only [List.map_cons, List.map_nil, sAfter] at K0
  have K1 := hid (fun (w1 : World) (h1 : Below B w w1) (hp1 : Prn w1 B b (l ++ catL [sAfter]) op mo) => ih w0 t B b _ op _ w1 (hr t (by simp)) (hok t (by simp)) hE h0 (hb.trans (h1.mono h0)) (Nat.le_trans hB h1.size) hp1 (by simp only [List.length_append, List.length_cons, List.length_nil]; omega) (by omega) (by omega) (by omega))
  simp only [hat.1, hat.2, sAfter] at K1
  have ec : catL [⟨#[32]⟩] = [32] := by simp [catL]
  have K2 := hid (fun (w1 : World) (h1 : Below B w w1) (hp1 : Prn w1 B b (l ++ catL [sAfter] ++ prE k t) op (max mo (op + dpE k t))) => write_new w1 B b _ op _ hp1 [⟨#[32]⟩] 1 rfl (by omega) (Nat.le_trans hB h1.size) (by rw [ec]; simp only [List.length_append, List.length_cons, List.length_nil]; omega))
  simp only [ec, List.map_cons, List.map_nil, sAfter] at K2
  have K3 := hid (fun (w1 : World) (h1 : Below B w w1) (hp1 : Prn w1 B b (l ++ catL [sAfter] ++ prE k t ++ [32]) op (max mo (op + dpE k t))) => (call_of k (prE k) (dpE k) (okAll k) ih w0 h.name (some ⟨ab, aoff, none⟩) 0 0 us (by omega) (by omega) (by have : us = [] := by { cases us with | nil => rfl | cons _ _ => simp at hanI; omega }; subst this; intro j u hj; simp at hj) (fun u hu => hr u (by simp [hu])) (fun u hu => hok u (by simp [hu])) B b _ op _ w1.drew hE h0 (hb.trans (h1.mono h0)).drew (Nat.le_trans hB h1.size) hp1.drew (by simp only [List.length_append, List.length_cons, List.length_nil]; omega) (by omega) (by omega)).mono (fun e w' h' => PrP.of (Nat.le_trans hB h1.size) ((Below.refl _ w1).drew) h'))
  simp only [sAfter] at K3
  have HF : Hid (max (max mo (op + dpE k t)) (op + (1 + mxL (us.map (dpE k)))) = max mo (op + max (dpE k t) (1 + mxL (us.map (dpE k))))) := hid (by omega)
  have C1 := hid (fun (w1 : World) (h1 : Below B w w1) => (dh.below (Nat.le_refl _) (hb.trans (h1.mono h0))).c1)
  have C4 := hid (fun (w1 : World) (h1 : Below B w w1) => (dh.below (Nat.le_refl _) (hb.trans (h1.mono h0))).c4)
  have hus : us = [] := by { cases us with | nil => rfl | cons _ _ => simp at hanI; omega }
  subst hus
  rw [eaa, hanI, hac] at C4
  simp only [List.length_nil] at C4
  clear ih dh hn dl hr hok hR hE h0 hb hp hl ho hm dw hO e1 e2 eaa hat hanI ec hab hmo
  go_enter Tryz.func137, Tryz.ntmps137
  go_wp2_with (first
    | (go_at_call 79; (refine (Hid.out K1').mono ?_; rintro e w2 ⟨rfl, hp2, hk2⟩; have HK2 := hid (HK1.out.trans hk2); have K2' := hid (K2.out w2 HK2.out.1 hp2); clear hp2 hk2 d4))
    | (go_at_call 99; (have hno := K2'; refine (Hid.out K2').mono ?_; rintro e w3 ⟨rfl, hp3, hk3⟩; have HK3 := hid (HK2.out.trans hk3); have d1 := C1.out w3 HK3.out.1; have d5 := C4.out w3 HK3.out.1; have K3' := hid (K3.out w3 HK3.out.1 hp3); clear hp3 hk3))
    | (go_at_call 99; (refine (Hid.out K0).mono ?_; rintro e w1 ⟨rfl, hp1, hk1⟩; have d4 := C4.out w1 hk1.1; have K1' := hid (K1.out w1 hk1.1 hp1); have HK1 := hid hk1; clear hp1 hk1)))
  go_region_held3 (fun w2 => w2.cell? ⟨h.b, h.o + 1, none⟩ = some (.string h.name) ∧ w2.cell? ⟨h.b, h.o + 4, none⟩ = some (.slice (some ⟨ab, aoff, none⟩) (0 + 1) 1)) (first | exact ⟨C1.out _ (HK3.out.trans hk4).1, C4.out _ (HK3.out.trans hk4).1⟩ | go_keep) (first | (go_at_call 110; (refine (Hid.out K3').mono ?_; rintro e w4 ⟨rfl, hp4, hk4⟩)))
  go_wp2
  go_end0
  exact ⟨rfl, hp4.eq (by simp [sAfter]) HF.out, HK3.out.trans hk4⟩

set_option maxRecDepth 100000 in
set_option maxHeartbeats 1000000 in
theorem simple_12n (k : Nat) (w0 : World) (h : SH) (ts : List (ET k)) (hk : h.kind = 12) (dh : SHr w0 h) (hn : h.an = ts.length) (dl : LiesAt 8 h.aa (eAt k) ts) (hr : ∀ u ∈ ts, ERd k w0 u) (hok : ∀ u ∈ ts, okAll k u) (hR : rightS h = true) (B b : Nat) (l : List UInt8) (op mo : Nat) (w : World) (hac : ¬ h.ac = 1) (hle : h.an ≤ h.ac) (hcI : h.ac ≤ 9223372036854775807) (hE : EnvT w0) (h0 : w0.heap.size ≤ B) (hb : Below w0.heap.size w0 w) (hB : B ≤ w.heap.size) (hp : Prn w B b l op mo)
    (hl : l.length + (smB h (ts.map (prE k))).length ≤ 900000000) (ho : op + smD h (ts.map (dpE k)) ≤ 900000000) (hm : mo ≤ 900000000) (hmo : op ≤ mo) :
    Calls Tryz.prog 137 #[.pointer (some ⟨b, 0, none⟩), .pointer (some ⟨h.b, h.o, none⟩)] w (PrP w B b (l ++ smB h (ts.map (prE k))) op (max mo (op + smD h (ts.map (dpE k))))) := by
  have hO := okS_of hR
  unfold okS at hO
  have dw := dh.below (Nat.le_refl _) hb
  have c0 := dw.c0
  have ih := expr_all k
  simp only [hk] at hO
  simp at hO
  cases ts with
  | nil => exact absurd hn (by simp only [List.length_nil]; omega)
  | cons t us =>
  have e1 : smB h ((t :: us).map (prE k)) = catL [sAfter] ++ prE k t ++ [32] ++ (bs h.name ++ (40 :: (jn (us.map (prE k)) ++ [41]))) := by unfold smB; simp [hk, h1]
  have e2 : smD h ((t :: us).map (dpE k)) = max (dpE k t) (1 + mxL (us.map (dpE k))) := by unfold smD; simp [hk, h1]
  rw [e1] at hl ⊢
  rw [e2] at ho ⊢
  simp only [List.length_append, List.length_cons, List.length_nil, bs_len] at hl
  have hanI : h.an = us.length + 1 := by simpa using hn
  obtain ⟨ab, aoff, eaa, hat⟩ := dl 0 t rfl
  rw [eaa] at dl
  simp only [eAt, Prod.mk.injEq] at hat
  have hab := dh.ab
  have K0 := hid (write_new w B b l op mo hp [sAfter] 1 rfl (by omega) hB (by omega))
  simp only [List.map_cons, List.map_nil, sAfter] at K0
  have K1 := hid (fun (w1 : World) (h1 : Below B w w1) (hp1 : Prn w1 B b (l ++ catL [sAfter]) op mo) => ih w0 t B b _ op _ w1 (hr t (by simp)) (hok t (by simp)) hE h0 (hb.trans (h1.mono h0)) (Nat.le_trans hB h1.size) hp1 (by simp only [List.length_append, List.length_cons, List.length_nil]; omega) (by omega) (by omega) (by omega))
  simp only [hat.1, hat.2, sAfter] at K1
  have ec : catL [⟨#[32]⟩] = [32] := by simp [catL]
  have K2 := hid (fun (w1 : World) (h1 : Below B w w1) (hp1 : Prn w1 B b (l ++ catL [sAfter] ++ prE k t) op (max mo (op + dpE k t))) => write_new w1 B b _ op _ hp1 [⟨#[32]⟩] 1 rfl (by omega) (Nat.le_trans hB h1.size) (by rw [ec]; simp only [List.length_append, List.length_cons, List.length_nil]; omega))
  simp only [ec, List.map_cons, List.map_nil, sAfter] at K2
  have K3 := hid (fun (w1 : World) (h1 : Below B w w1) (hp1 : Prn w1 B b (l ++ catL [sAfter] ++ prE k t ++ [32]) op (max mo (op + dpE k t))) => (call_of k (prE k) (dpE k) (okAll k) ih w0 h.name (some ⟨ab, aoff + 8, none⟩) us.length (h.ac - 1) us rfl (by omega) dl.tl (fun u hu => hr u (by simp [hu])) (fun u hu => hok u (by simp [hu])) B b _ op _ w1.drew hE h0 (hb.trans (h1.mono h0)).drew (Nat.le_trans hB h1.size) hp1.drew (by simp only [List.length_append, List.length_cons, List.length_nil]; omega) (by omega) (by omega)).mono (fun e w' h' => PrP.of (Nat.le_trans hB h1.size) ((Below.refl _ w1).drew) h'))
  simp only [sAfter] at K3
  have HF : Hid (max (max mo (op + dpE k t)) (op + (1 + mxL (us.map (dpE k)))) = max mo (op + max (dpE k t) (1 + mxL (us.map (dpE k))))) := hid (by omega)
  have C1 := hid (fun (w1 : World) (h1 : Below B w w1) => (dh.below (Nat.le_refl _) (hb.trans (h1.mono h0))).c1)
  have C4 := hid (fun (w1 : World) (h1 : Below B w w1) => (dh.below (Nat.le_refl _) (hb.trans (h1.mono h0))).c4)
  rw [eaa, hanI] at C4
  have q1 : (1 : Int) ≤ (us.length : Int) + 1 := by omega
  have q2 : (us.length : Int) + 1 ≤ h.ac := by omega
  have q3 : ¬ (h.ac : Int) = 1 := by omega
  have q4 : ¬ 1 = h.ac := by omega
  clear ih dh hn dl hr hok hR hE h0 hb hp hl ho hm dw hO e1 e2 eaa hat hanI ec hab hmo
  go_enter Tryz.func137, Tryz.ntmps137
  go_wp2_with (first
    | (go_at_call 79; (refine (Hid.out K1').mono ?_; rintro e w2 ⟨rfl, hp2, hk2⟩; have HK2 := hid (HK1.out.trans hk2); have K2' := hid (K2.out w2 HK2.out.1 hp2); clear hp2 hk2 d4))
    | (go_at_call 99; (have hno := K2'; refine (Hid.out K2').mono ?_; rintro e w3 ⟨rfl, hp3, hk3⟩; have HK3 := hid (HK2.out.trans hk3); have d1 := C1.out w3 HK3.out.1; have d5 := C4.out w3 HK3.out.1; have K3' := hid (K3.out w3 HK3.out.1 hp3); clear hp3 hk3))
    | (go_at_call 99; (refine (Hid.out K0).mono ?_; rintro e w1 ⟨rfl, hp1, hk1⟩; have d4 := C4.out w1 hk1.1; have K1' := hid (K1.out w1 hk1.1 hp1); have HK1 := hid hk1; clear hp1 hk1)))
  go_region_held3 (fun w2 => w2.cell? ⟨h.b, h.o + 1, none⟩ = some (.string h.name) ∧ w2.cell? ⟨h.b, h.o + 4, none⟩ = some (.slice (some ⟨ab, aoff, none⟩) (us.length + 1) h.ac)) (first | exact ⟨C1.out _ (HK3.out.trans hk4).1, C4.out _ (HK3.out.trans hk4).1⟩ | go_keep) (first | (go_at_call 110; (refine (Hid.out K3').mono ?_; rintro e w4 ⟨rfl, hp4, hk4⟩)))
  go_wp2
  go_end0
  exact ⟨rfl, hp4.eq (by simp [sAfter]) HF.out, HK3.out.trans hk4⟩
end Go.Proofs.YtdfambocenohgaaGreatDoor

