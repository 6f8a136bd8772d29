/- The printer: declarations. -/
import Derived.Test.YtdfambocenohgaaGreatDoorJAW
import Derived.Lib.UnsafeStr
namespace Go.Proofs.YtdfambocenohgaaGreatDoor
open Go.RowKit Go.Deep
set_option linter.unusedVariables false
set_option linter.unusedSimpArgs false

def sSp : ByteArray := ⟨#[32]⟩
def sArr : ByteArray := ⟨#[32, 45, 62, 32]⟩
def sSemi : ByteArray := ⟨#[59]⟩
def sCur : ByteArray := ⟨#[32, 123, 32]⟩
def sPar : ByteArray := ⟨#[40]⟩
def rsB (r : ByteArray) : List UInt8 := if r.toList = [] then [] else catL [sArr, r]
def dcB (h : DH) (pb : List (List UInt8)) : List UInt8 :=
  if h.sort = wRec then catL [wRec, sSp, h.name] ++ catL [sCur] ++ jn (h.params.map pmB) ++ [32, 125] else
  if h.sort = wMap then catL [wMap, sSp, h.name] ++ catL [sCol, h.key, sArr, h.value, sSemi] else
  catL [h.sort, sSp, h.name] ++ catL [sPar] ++ jn (h.params.map pmB) ++ [41] ++ rsB h.result ++ bkB pb
def dcD (h : DH) (db : List Nat) : Nat := if h.sort = wRec then 1 else if h.sort = wMap then 0 else 1 + mxL db

set_option maxRecDepth 100000 in
set_option maxHeartbeats 1000000 in
theorem decl_OnN (k : Nat) (pr : ST k → List UInt8) (dp : ST k → Nat) (ok : ST k → Prop) (ihs : StSaid k pr dp ok) (w0 : World) (h : DH) (bt : List (ST k)) (hk : h.sort = wOn) (hrs : h.result.toList = []) (dh : DHr w0 h) (hnb : h.bn = bt.length) (dlb : LiesAt 8 h.ba (sAt k) bt) (hrb : ∀ u ∈ bt, SRds k w0 u) (hokb : ∀ u ∈ bt, ok u) (B b : Nat) (l : List UInt8) (op mo : Nat) (w : World) (hE : EnvT w0) (h0 : w0.heap.size ≤ B) (hb : Below w0.heap.size w0 w) (hB : B ≤ w.heap.size) (hp : Prn w B b l op mo)
    (hl : l.length + (dcB h (bt.map pr)).length ≤ 900000000) (ho : op + dcD h (bt.map dp) ≤ 900000000) (hm : mo ≤ 900000000) (hmo : op ≤ mo) :
    Calls Tryz.prog 98 #[.pointer (some ⟨b, 0, none⟩), .agg #[.string wOn, .pointer (some ⟨h.b, h.o, none⟩)]] w (PrP w B b (l ++ dcB h (bt.map pr)) op (max mo (op + dcD h (bt.map dp)))) := by
  have n1 : ¬ wMap = wRec := by decide
  have n2 : ¬ wFn = wRec := by decide
  have n3 : ¬ wFn = wMap := by decide
  have n4 : ¬ wOn = wRec := by decide
  have n5 : ¬ wOn = wMap := by decide
  have e1 : dcB h (bt.map pr) = catL [wOn, sSp, h.name] ++ catL [sPar] ++ jn (h.params.map pmB) ++ [41] ++ bkB (bt.map pr) := by unfold dcB rsB; simp [hk, n4, n5, hrs]
  have e2 : dcD h (bt.map dp) = 1 + mxL (bt.map dp) := by unfold dcD; simp [hk, n4, n5]
  rw [e1] at hl ⊢
  rw [e2] at ho ⊢
  simp only [List.length_append, List.length_cons, List.length_nil] at hl
  obtain ⟨W, hW⟩ : ∃ W, W = w.alloc (.cells #[.string wOn, .pointer (some ⟨h.b, h.o, none⟩)] 105) := ⟨_, rfl⟩
  obtain ⟨X, hX⟩ : ∃ X, X = w.heap.size := ⟨_, rfl⟩
  have hbW : Below w.heap.size w W := by rw [hW]; exact (Below.refl _ w).alloc (Nat.le_refl _) _
  have hbox : W.heap[X]? = some (.cells #[.string wOn, .pointer (some ⟨h.b, h.o, none⟩)] 105 (0, 0)) := by rw [hW, hX]; exact heap_alloc_new _ _
  have hkW : Kpt B b w W := Kpt.below hbW hB
  have hne : X ≠ b := by have := hp.lt; omega
  have HX0 := hid (fun (w1 : World) (q : Kpt B b W w1) => cellT (q.2 _ _ _ hne (by decide) hbox) 0)
  have HX1 := hid (fun (w1 : World) (q : Kpt B b W w1) => cellT (q.2 _ _ _ hne (by decide) hbox) 1)
  simp only [List.getElem?_toArray, List.getElem?_cons_zero, List.getElem?_cons_succ, wOn] at HX0 HX1
  have hBW : B ≤ W.heap.size := Nat.le_trans hB hbW.size
  have hpW : Prn W B b l op mo := hp.below hbW
  have hb' : Below w0.heap.size w0 W := hb.trans (hkW.1.mono h0)
  have K1 := hid ((write_new W.drew B b _ op _ hpW.drew [wOn, sSp, h.name] 3 rfl (by omega) hBW (by omega)).mono (fun e w' h' => PrP.of hBW ((Below.refl _ W).drew) h'))
  simp only [List.map_cons, List.map_nil, wOn, sSp] at K1
  have y0 := HX0.out W (Kpt.refl _ _ _)
  have y1 := HX1.out W (Kpt.refl _ _ _)
  have d0 := (dh.below (Nat.le_refl _) hb').c0
  have K2 := hid (fun (w1 : World) (h1 : Below B W w1) (hp1 : Prn w1 B b (l ++ catL [wOn, sSp, h.name]) op mo) => enter_new w1 B b _ op mo hp1 (by omega) (by omega) [sPar] 1 rfl (by omega) (Nat.le_trans hBW h1.size) (by try simp only [List.length_append, List.length_cons, List.length_nil, bs_len]; omega))
  simp only [List.map_cons, List.map_nil, wOn, sSp, sPar] at K2
  have KP := hid (fun (w1 : World) (h1 : Below B W w1) (hp1 : Prn w1 B b (l ++ catL [wOn, sSp, h.name] ++ catL [sPar]) (op + 1) (max mo (op + 1))) => printParams_any w0 h.pa h.pn h.pc h.params dh.pl dh.pb dh.pr B b _ _ _ w1 h0 (hb'.trans (h1.mono h0)) (Nat.le_trans hBW h1.size) hp1 (by try simp only [List.length_append, List.length_cons, List.length_nil, bs_len]; omega))
  simp only [wOn, sSp, sPar] at KP
  have K4 := hid (fun (w1 : World) (h1 : Below B W w1) (hp1 : Prn w1 B b (l ++ catL [wOn, sSp, h.name] ++ catL [sPar] ++ jn (h.params.map pmB)) (op + 1) (max mo (op + 1))) => leave_any w1 B b _ op _ hp1 (by omega) ⟨#[41]⟩ (Nat.le_trans hBW h1.size) (by rw [show (⟨#[41]⟩ : ByteArray).size = 1 from rfl]; try simp only [List.length_append, List.length_cons, List.length_nil, bs_len]; omega))
  simp only [wOn, sSp, sPar] at K4
  have K6 := hid (fun (w1 : World) (h1 : Below B W w1) (hp1 : Prn w1 B b (l ++ catL [wOn, sSp, h.name] ++ catL [sPar] ++ jn (h.params.map pmB) ++ [41]) op (max mo (op + 1))) => block_of k pr dp ok ihs w0 h.ba h.bn h.bc bt hnb dh.bb dlb hrb hokb B b _ op _ w1 hE h0 (hb'.trans (h1.mono h0)) (Nat.le_trans hBW h1.size) hp1 (by try simp only [List.length_append, List.length_cons, List.length_nil, bs_len]; omega) (by omega) (by omega))
  simp only [wOn, sSp, sPar, sArr] at K6
  have HF : Hid (max (max mo (op + 1)) (op + (1 + mxL (bt.map dp))) = max mo (op + (1 + mxL (bt.map dp)))) := hid (by omega)
  have C0 := hid (fun (w1 : World) (h1 : Below B W w1) => (dh.below (Nat.le_refl _) (hb'.trans (h1.mono h0))).c0)
  have C1 := hid (fun (w1 : World) (h1 : Below B W w1) => (dh.below (Nat.le_refl _) (hb'.trans (h1.mono h0))).c1)
  have C4 := hid (fun (w1 : World) (h1 : Below B W w1) => (dh.below (Nat.le_refl _) (hb'.trans (h1.mono h0))).c4)
  have C5 := hid (fun (w1 : World) (h1 : Below B W w1) => (dh.below (Nat.le_refl _) (hb'.trans (h1.mono h0))).c5)
  have HKW := hid hkW
  clear ihs dh hE h0 hb hp hl ho hm hmo hnb dlb hrb hokb e1 e2 n1 n2 n3 n4 n5 hbW hbox hne hBW hpW hb' hkW hk
  go_enter Tryz.func98, Tryz.ntmps98
  go_upto_region 1 with fail
  try rw [← hW, ← hX]
  clear hW hX
  go_region_held3 (fun w2 => w2.cell? ⟨X, 0, none⟩ = some (.string ⟨#[111, 110]⟩) ∧ w2.cell? ⟨X, 1, none⟩ = some (.pointer (some ⟨h.b, h.o, none⟩)) ∧ w2.cell? ⟨h.b, h.o, none⟩ = some (.string h.name)) (first | exact ⟨HX0.out _ hk1, HX1.out _ hk1, C0.out _ hk1.1⟩ | go_keep) (first | (go_at_call 99; (refine (Hid.out K1).mono ?_; rintro e w1 ⟨rfl, hp1, hk1⟩)))
  have K2' := hid (K2.out w1 hk1.1 hp1)
  have HK1 := hid hk1
  have z0 := HX0.out w1 hk1
  have z1 := HX1.out w1 hk1
  clear hp1 hk1 y0 y1 d0
  go_wp2_with (first
    | (go_at_call 106; (refine (Hid.out K2').mono ?_; rintro e w2 ⟨rfl, hp2, hk2⟩; have HK2 := hid (HK1.out.trans hk2); have s1 := HX1.out w2 HK2.out; have d1 := C1.out w2 HK2.out.1; have KP' := hid (KP.out w2 HK2.out.1 hp2); clear hp2 hk2 z1))
    | (go_at_call 120; (refine (Hid.out KP').mono ?_; rintro e w3 ⟨rfl, hp3, hk3⟩; have HK3 := hid (HK2.out.trans hk3); have K4' := hid (K4.out w3 HK3.out.1 hp3); clear hp3 hk3 s1 d1))
    | (go_at_call 108; (refine (Hid.out K4').mono ?_; rintro e w4 ⟨rfl, hp4, hk4⟩; have HK4 := hid (HK3.out.trans hk4); have s4 := HX1.out w4 HK4.out; have d4 := C4.out w4 HK4.out.1; have d5 := C5.out w4 HK4.out.1; have K6' := hid (K6.out w4 HK4.out.1 hp4); clear hp4 hk4))
    | (go_at_call 121; (refine (Hid.out K6').mono ?_; rintro e w6 ⟨rfl, hp6, hk6⟩)))
  go_end0
  exact ⟨rfl, hp6.eq (by simp [wOn, sSp, sPar]) HF.out, HKW.out.trans (HK4.out.trans hk6)⟩

set_option maxRecDepth 100000 in
set_option maxHeartbeats 1000000 in
theorem decl_OnR (k : Nat) (pr : ST k → List UInt8) (dp : ST k → Nat) (ok : ST k → Prop) (ihs : StSaid k pr dp ok) (w0 : World) (h : DH) (bt : List (ST k)) (hk : h.sort = wOn) (hrs : ¬ h.result.toList = []) (dh : DHr w0 h) (hnb : h.bn = bt.length) (dlb : LiesAt 8 h.ba (sAt k) bt) (hrb : ∀ u ∈ bt, SRds k w0 u) (hokb : ∀ u ∈ bt, ok u) (B b : Nat) (l : List UInt8) (op mo : Nat) (w : World) (hE : EnvT w0) (h0 : w0.heap.size ≤ B) (hb : Below w0.heap.size w0 w) (hB : B ≤ w.heap.size) (hp : Prn w B b l op mo)
    (hl : l.length + (dcB h (bt.map pr)).length ≤ 900000000) (ho : op + dcD h (bt.map dp) ≤ 900000000) (hm : mo ≤ 900000000) (hmo : op ≤ mo) :
    Calls Tryz.prog 98 #[.pointer (some ⟨b, 0, none⟩), .agg #[.string wOn, .pointer (some ⟨h.b, h.o, none⟩)]] w (PrP w B b (l ++ dcB h (bt.map pr)) op (max mo (op + dcD h (bt.map dp)))) := by
  have n1 : ¬ wMap = wRec := by decide
  have n2 : ¬ wFn = wRec := by decide
  have n3 : ¬ wFn = wMap := by decide
  have n4 : ¬ wOn = wRec := by decide
  have n5 : ¬ wOn = wMap := by decide
  have e1 : dcB h (bt.map pr) = catL [wOn, sSp, h.name] ++ catL [sPar] ++ jn (h.params.map pmB) ++ [41] ++ catL [sArr, h.result] ++ bkB (bt.map pr) := by unfold dcB rsB; simp [hk, n4, n5, hrs]
  have e2 : dcD h (bt.map dp) = 1 + mxL (bt.map dp) := by unfold dcD; simp [hk, n4, n5]
  rw [e1] at hl ⊢
  rw [e2] at ho ⊢
  simp only [List.length_append, List.length_cons, List.length_nil] at hl
  obtain ⟨W, hW⟩ : ∃ W, W = w.alloc (.cells #[.string wOn, .pointer (some ⟨h.b, h.o, none⟩)] 105) := ⟨_, rfl⟩
  obtain ⟨X, hX⟩ : ∃ X, X = w.heap.size := ⟨_, rfl⟩
  have hbW : Below w.heap.size w W := by rw [hW]; exact (Below.refl _ w).alloc (Nat.le_refl _) _
  have hbox : W.heap[X]? = some (.cells #[.string wOn, .pointer (some ⟨h.b, h.o, none⟩)] 105 (0, 0)) := by rw [hW, hX]; exact heap_alloc_new _ _
  have hkW : Kpt B b w W := Kpt.below hbW hB
  have hne : X ≠ b := by have := hp.lt; omega
  have HX0 := hid (fun (w1 : World) (q : Kpt B b W w1) => cellT (q.2 _ _ _ hne (by decide) hbox) 0)
  have HX1 := hid (fun (w1 : World) (q : Kpt B b W w1) => cellT (q.2 _ _ _ hne (by decide) hbox) 1)
  simp only [List.getElem?_toArray, List.getElem?_cons_zero, List.getElem?_cons_succ, wOn] at HX0 HX1
  have hBW : B ≤ W.heap.size := Nat.le_trans hB hbW.size
  have hpW : Prn W B b l op mo := hp.below hbW
  have hb' : Below w0.heap.size w0 W := hb.trans (hkW.1.mono h0)
  have K1 := hid ((write_new W.drew B b _ op _ hpW.drew [wOn, sSp, h.name] 3 rfl (by omega) hBW (by omega)).mono (fun e w' h' => PrP.of hBW ((Below.refl _ W).drew) h'))
  simp only [List.map_cons, List.map_nil, wOn, sSp] at K1
  have y0 := HX0.out W (Kpt.refl _ _ _)
  have y1 := HX1.out W (Kpt.refl _ _ _)
  have d0 := (dh.below (Nat.le_refl _) hb').c0
  have K2 := hid (fun (w1 : World) (h1 : Below B W w1) (hp1 : Prn w1 B b (l ++ catL [wOn, sSp, h.name]) op mo) => enter_new w1 B b _ op mo hp1 (by omega) (by omega) [sPar] 1 rfl (by omega) (Nat.le_trans hBW h1.size) (by try simp only [List.length_append, List.length_cons, List.length_nil, bs_len]; omega))
  simp only [List.map_cons, List.map_nil, wOn, sSp, sPar] at K2
  have KP := hid (fun (w1 : World) (h1 : Below B W w1) (hp1 : Prn w1 B b (l ++ catL [wOn, sSp, h.name] ++ catL [sPar]) (op + 1) (max mo (op + 1))) => printParams_any w0 h.pa h.pn h.pc h.params dh.pl dh.pb dh.pr B b _ _ _ w1 h0 (hb'.trans (h1.mono h0)) (Nat.le_trans hBW h1.size) hp1 (by try simp only [List.length_append, List.length_cons, List.length_nil, bs_len]; omega))
  simp only [wOn, sSp, sPar] at KP
  have K4 := hid (fun (w1 : World) (h1 : Below B W w1) (hp1 : Prn w1 B b (l ++ catL [wOn, sSp, h.name] ++ catL [sPar] ++ jn (h.params.map pmB)) (op + 1) (max mo (op + 1))) => leave_any w1 B b _ op _ hp1 (by omega) ⟨#[41]⟩ (Nat.le_trans hBW h1.size) (by rw [show (⟨#[41]⟩ : ByteArray).size = 1 from rfl]; try simp only [List.length_append, List.length_cons, List.length_nil, bs_len]; omega))
  simp only [wOn, sSp, sPar] at K4
  have K5 := hid (fun (w1 : World) (h1 : Below B W w1) (hp1 : Prn w1 B b (l ++ catL [wOn, sSp, h.name] ++ catL [sPar] ++ jn (h.params.map pmB) ++ [41]) op (max mo (op + 1))) => write_new w1 B b _ op _ hp1 [sArr, h.result] 2 rfl (by omega) (Nat.le_trans hBW h1.size) (by try simp only [List.length_append, List.length_cons, List.length_nil, bs_len]; omega))
  simp only [List.map_cons, List.map_nil, wOn, sSp, sPar, sArr] at K5
  have hsb : (h.result.toList == []) = false := by simpa using hrs
  have K6 := hid (fun (w1 : World) (h1 : Below B W w1) (hp1 : Prn w1 B b (l ++ catL [wOn, sSp, h.name] ++ catL [sPar] ++ jn (h.params.map pmB) ++ [41] ++ catL [sArr, h.result]) op (max mo (op + 1))) => block_of k pr dp ok ihs w0 h.ba h.bn h.bc bt hnb dh.bb dlb hrb hokb B b _ op _ w1 hE h0 (hb'.trans (h1.mono h0)) (Nat.le_trans hBW h1.size) hp1 (by try simp only [List.length_append, List.length_cons, List.length_nil, bs_len]; omega) (by omega) (by omega))
  simp only [wOn, sSp, sPar, sArr] at K6
  have HF : Hid (max (max mo (op + 1)) (op + (1 + mxL (bt.map dp))) = max mo (op + (1 + mxL (bt.map dp)))) := hid (by omega)
  have C0 := hid (fun (w1 : World) (h1 : Below B W w1) => (dh.below (Nat.le_refl _) (hb'.trans (h1.mono h0))).c0)
  have C1 := hid (fun (w1 : World) (h1 : Below B W w1) => (dh.below (Nat.le_refl _) (hb'.trans (h1.mono h0))).c1)
  have C4 := hid (fun (w1 : World) (h1 : Below B W w1) => (dh.below (Nat.le_refl _) (hb'.trans (h1.mono h0))).c4)
  have C5 := hid (fun (w1 : World) (h1 : Below B W w1) => (dh.below (Nat.le_refl _) (hb'.trans (h1.mono h0))).c5)
  have HKW := hid hkW
  clear ihs dh hE h0 hb hp hl ho hm hmo hnb dlb hrb hokb e1 e2 n1 n2 n3 n4 n5 hbW hbox hne hBW hpW hb' hkW hk
  go_enter Tryz.func98, Tryz.ntmps98
  go_upto_region 1 with fail
  try rw [← hW, ← hX]
  clear hW hX
  go_region_held3 (fun w2 => w2.cell? ⟨X, 0, none⟩ = some (.string ⟨#[111, 110]⟩) ∧ w2.cell? ⟨X, 1, none⟩ = some (.pointer (some ⟨h.b, h.o, none⟩)) ∧ w2.cell? ⟨h.b, h.o, none⟩ = some (.string h.name)) (first | exact ⟨HX0.out _ hk1, HX1.out _ hk1, C0.out _ hk1.1⟩ | go_keep) (first | (go_at_call 99; (refine (Hid.out K1).mono ?_; rintro e w1 ⟨rfl, hp1, hk1⟩)))
  have K2' := hid (K2.out w1 hk1.1 hp1)
  have HK1 := hid hk1
  have z0 := HX0.out w1 hk1
  have z1 := HX1.out w1 hk1
  clear hp1 hk1 y0 y1 d0
  go_wp2_with (first
    | (go_at_call 106; (refine (Hid.out K2').mono ?_; rintro e w2 ⟨rfl, hp2, hk2⟩; have HK2 := hid (HK1.out.trans hk2); have s1 := HX1.out w2 HK2.out; have d1 := C1.out w2 HK2.out.1; have KP' := hid (KP.out w2 HK2.out.1 hp2); clear hp2 hk2 z1))
    | (go_at_call 120; (refine (Hid.out KP').mono ?_; rintro e w3 ⟨rfl, hp3, hk3⟩; have HK3 := hid (HK2.out.trans hk3); have K4' := hid (K4.out w3 HK3.out.1 hp3); clear hp3 hk3 s1 d1))
    | (go_at_call 108; (refine (Hid.out K4').mono ?_; rintro e w4 ⟨rfl, hp4, hk4⟩; have HK4 := hid (HK3.out.trans hk4); have s4 := HX1.out w4 HK4.out; have d4 := C4.out w4 HK4.out.1; have K5' := hid (K5.out w4 HK4.out.1 hp4); clear hp4 hk4))
    | (go_at_call 99; (refine (Hid.out K5').mono ?_; rintro e w5 ⟨rfl, hp5, hk5⟩; have HK5 := hid (HK4.out.trans hk5); have s5 := HX1.out w5 HK5.out; have d5 := C5.out w5 HK5.out.1; have K6' := hid (K6.out w5 HK5.out.1 hp5); clear hp5 hk5))
    | (go_at_call 121; (refine (Hid.out K6').mono ?_; rintro e w6 ⟨rfl, hp6, hk6⟩)))
  go_end0
  exact ⟨rfl, hp6.eq (by simp [wOn, sSp, sPar, sArr]) HF.out, HKW.out.trans (HK5.out.trans hk6)⟩

set_option maxRecDepth 100000 in
set_option maxHeartbeats 1000000 in
theorem decl_FnN (k : Nat) (pr : ST k → List UInt8) (dp : ST k → Nat) (ok : ST k → Prop) (ihs : StSaid k pr dp ok) (w0 : World) (h : DH) (bt : List (ST k)) (hk : h.sort = wFn) (hrs : h.result.toList = []) (dh : DHr w0 h) (hnb : h.bn = bt.length) (dlb : LiesAt 8 h.ba (sAt k) bt) (hrb : ∀ u ∈ bt, SRds k w0 u) (hokb : ∀ u ∈ bt, ok u) (B b : Nat) (l : List UInt8) (op mo : Nat) (w : World) (hE : EnvT w0) (h0 : w0.heap.size ≤ B) (hb : Below w0.heap.size w0 w) (hB : B ≤ w.heap.size) (hp : Prn w B b l op mo)
    (hl : l.length + (dcB h (bt.map pr)).length ≤ 900000000) (ho : op + dcD h (bt.map dp) ≤ 900000000) (hm : mo ≤ 900000000) (hmo : op ≤ mo) :
    Calls Tryz.prog 98 #[.pointer (some ⟨b, 0, none⟩), .agg #[.string wFn, .pointer (some ⟨h.b, h.o, none⟩)]] w (PrP w B b (l ++ dcB h (bt.map pr)) op (max mo (op + dcD h (bt.map dp)))) := by
  have n1 : ¬ wMap = wRec := by decide
  have n2 : ¬ wFn = wRec := by decide
  have n3 : ¬ wFn = wMap := by decide
  have n4 : ¬ wOn = wRec := by decide
  have n5 : ¬ wOn = wMap := by decide
  have e1 : dcB h (bt.map pr) = catL [wFn, sSp, h.name] ++ catL [sPar] ++ jn (h.params.map pmB) ++ [41] ++ bkB (bt.map pr) := by unfold dcB rsB; simp [hk, n2, n3, hrs]
  have e2 : dcD h (bt.map dp) = 1 + mxL (bt.map dp) := by unfold dcD; simp [hk, n2, n3]
  rw [e1] at hl ⊢
  rw [e2] at ho ⊢
  simp only [List.length_append, List.length_cons, List.length_nil] at hl
  obtain ⟨W, hW⟩ : ∃ W, W = w.alloc (.cells #[.string wFn, .pointer (some ⟨h.b, h.o, none⟩)] 105) := ⟨_, rfl⟩
  obtain ⟨X, hX⟩ : ∃ X, X = w.heap.size := ⟨_, rfl⟩
  have hbW : Below w.heap.size w W := by rw [hW]; exact (Below.refl _ w).alloc (Nat.le_refl _) _
  have hbox : W.heap[X]? = some (.cells #[.string wFn, .pointer (some ⟨h.b, h.o, none⟩)] 105 (0, 0)) := by rw [hW, hX]; exact heap_alloc_new _ _
  have hkW : Kpt B b w W := Kpt.below hbW hB
  have hne : X ≠ b := by have := hp.lt; omega
  have HX0 := hid (fun (w1 : World) (q : Kpt B b W w1) => cellT (q.2 _ _ _ hne (by decide) hbox) 0)
  have HX1 := hid (fun (w1 : World) (q : Kpt B b W w1) => cellT (q.2 _ _ _ hne (by decide) hbox) 1)
  simp only [List.getElem?_toArray, List.getElem?_cons_zero, List.getElem?_cons_succ, wFn] at HX0 HX1
  have hBW : B ≤ W.heap.size := Nat.le_trans hB hbW.size
  have hpW : Prn W B b l op mo := hp.below hbW
  have hb' : Below w0.heap.size w0 W := hb.trans (hkW.1.mono h0)
  have K1 := hid ((write_new W.drew B b _ op _ hpW.drew [wFn, sSp, h.name] 3 rfl (by omega) hBW (by omega)).mono (fun e w' h' => PrP.of hBW ((Below.refl _ W).drew) h'))
  simp only [List.map_cons, List.map_nil, wFn, sSp] at K1
  have y0 := HX0.out W (Kpt.refl _ _ _)
  have y1 := HX1.out W (Kpt.refl _ _ _)
  have d0 := (dh.below (Nat.le_refl _) hb').c0
  have K2 := hid (fun (w1 : World) (h1 : Below B W w1) (hp1 : Prn w1 B b (l ++ catL [wFn, sSp, h.name]) op mo) => enter_new w1 B b _ op mo hp1 (by omega) (by omega) [sPar] 1 rfl (by omega) (Nat.le_trans hBW h1.size) (by try simp only [List.length_append, List.length_cons, List.length_nil, bs_len]; omega))
  simp only [List.map_cons, List.map_nil, wFn, sSp, sPar] at K2
  have KP := hid (fun (w1 : World) (h1 : Below B W w1) (hp1 : Prn w1 B b (l ++ catL [wFn, sSp, h.name] ++ catL [sPar]) (op + 1) (max mo (op + 1))) => printParams_any w0 h.pa h.pn h.pc h.params dh.pl dh.pb dh.pr B b _ _ _ w1 h0 (hb'.trans (h1.mono h0)) (Nat.le_trans hBW h1.size) hp1 (by try simp only [List.length_append, List.length_cons, List.length_nil, bs_len]; omega))
  simp only [wFn, sSp, sPar] at KP
  have K4 := hid (fun (w1 : World) (h1 : Below B W w1) (hp1 : Prn w1 B b (l ++ catL [wFn, sSp, h.name] ++ catL [sPar] ++ jn (h.params.map pmB)) (op + 1) (max mo (op + 1))) => leave_any w1 B b _ op _ hp1 (by omega) ⟨#[41]⟩ (Nat.le_trans hBW h1.size) (by rw [show (⟨#[41]⟩ : ByteArray).size = 1 from rfl]; try simp only [List.length_append, List.length_cons, List.length_nil, bs_len]; omega))
  simp only [wFn, sSp, sPar] at K4
  have K6 := hid (fun (w1 : World) (h1 : Below B W w1) (hp1 : Prn w1 B b (l ++ catL [wFn, sSp, h.name] ++ catL [sPar] ++ jn (h.params.map pmB) ++ [41]) op (max mo (op + 1))) => block_of k pr dp ok ihs w0 h.ba h.bn h.bc bt hnb dh.bb dlb hrb hokb B b _ op _ w1 hE h0 (hb'.trans (h1.mono h0)) (Nat.le_trans hBW h1.size) hp1 (by try simp only [List.length_append, List.length_cons, List.length_nil, bs_len]; omega) (by omega) (by omega))
  simp only [wFn, sSp, sPar, sArr] at K6
  have HF : Hid (max (max mo (op + 1)) (op + (1 + mxL (bt.map dp))) = max mo (op + (1 + mxL (bt.map dp)))) := hid (by omega)
  have C0 := hid (fun (w1 : World) (h1 : Below B W w1) => (dh.below (Nat.le_refl _) (hb'.trans (h1.mono h0))).c0)
  have C1 := hid (fun (w1 : World) (h1 : Below B W w1) => (dh.below (Nat.le_refl _) (hb'.trans (h1.mono h0))).c1)
  have C4 := hid (fun (w1 : World) (h1 : Below B W w1) => (dh.below (Nat.le_refl _) (hb'.trans (h1.mono h0))).c4)
  have C5 := hid (fun (w1 : World) (h1 : Below B W w1) => (dh.below (Nat.le_refl _) (hb'.trans (h1.mono h0))).c5)
  have HKW := hid hkW
  clear ihs dh hE h0 hb hp hl ho hm hmo hnb dlb hrb hokb e1 e2 n1 n2 n3 n4 n5 hbW hbox hne hBW hpW hb' hkW hk
  go_enter Tryz.func98, Tryz.ntmps98
  go_upto_region 1 with fail
  try rw [← hW, ← hX]
  clear hW hX
  go_region_held3 (fun w2 => w2.cell? ⟨X, 0, none⟩ = some (.string ⟨#[102, 110]⟩) ∧ w2.cell? ⟨X, 1, none⟩ = some (.pointer (some ⟨h.b, h.o, none⟩)) ∧ w2.cell? ⟨h.b, h.o, none⟩ = some (.string h.name)) (first | exact ⟨HX0.out _ hk1, HX1.out _ hk1, C0.out _ hk1.1⟩ | go_keep) (first | (go_at_call 99; (refine (Hid.out K1).mono ?_; rintro e w1 ⟨rfl, hp1, hk1⟩)))
  have K2' := hid (K2.out w1 hk1.1 hp1)
  have HK1 := hid hk1
  have z0 := HX0.out w1 hk1
  have z1 := HX1.out w1 hk1
  clear hp1 hk1 y0 y1 d0
  go_wp2_with (first
    | (go_at_call 106; (refine (Hid.out K2').mono ?_; rintro e w2 ⟨rfl, hp2, hk2⟩; have HK2 := hid (HK1.out.trans hk2); have s1 := HX1.out w2 HK2.out; have d1 := C1.out w2 HK2.out.1; have KP' := hid (KP.out w2 HK2.out.1 hp2); clear hp2 hk2 z1))
    | (go_at_call 120; (refine (Hid.out KP').mono ?_; rintro e w3 ⟨rfl, hp3, hk3⟩; have HK3 := hid (HK2.out.trans hk3); have K4' := hid (K4.out w3 HK3.out.1 hp3); clear hp3 hk3 s1 d1))
    | (go_at_call 108; (refine (Hid.out K4').mono ?_; rintro e w4 ⟨rfl, hp4, hk4⟩; have HK4 := hid (HK3.out.trans hk4); have s4 := HX1.out w4 HK4.out; have d4 := C4.out w4 HK4.out.1; have d5 := C5.out w4 HK4.out.1; have K6' := hid (K6.out w4 HK4.out.1 hp4); clear hp4 hk4))
    | (go_at_call 121; (refine (Hid.out K6').mono ?_; rintro e w6 ⟨rfl, hp6, hk6⟩)))
  go_end0
  exact ⟨rfl, hp6.eq (by simp [wFn, sSp, sPar]) HF.out, HKW.out.trans (HK4.out.trans hk6)⟩

set_option maxRecDepth 100000 in
set_option maxHeartbeats 1000000 in
theorem decl_FnR (k : Nat) (pr : ST k → List UInt8) (dp : ST k → Nat) (ok : ST k → Prop) (ihs : StSaid k pr dp ok) (w0 : World) (h : DH) (bt : List (ST k)) (hk : h.sort = wFn) (hrs : ¬ h.result.toList = []) (dh : DHr w0 h) (hnb : h.bn = bt.length) (dlb : LiesAt 8 h.ba (sAt k) bt) (hrb : ∀ u ∈ bt, SRds k w0 u) (hokb : ∀ u ∈ bt, ok u) (B b : Nat) (l : List UInt8) (op mo : Nat) (w : World) (hE : EnvT w0) (h0 : w0.heap.size ≤ B) (hb : Below w0.heap.size w0 w) (hB : B ≤ w.heap.size) (hp : Prn w B b l op mo)
    (hl : l.length + (dcB h (bt.map pr)).length ≤ 900000000) (ho : op + dcD h (bt.map dp) ≤ 900000000) (hm : mo ≤ 900000000) (hmo : op ≤ mo) :
    Calls Tryz.prog 98 #[.pointer (some ⟨b, 0, none⟩), .agg #[.string wFn, .pointer (some ⟨h.b, h.o, none⟩)]] w (PrP w B b (l ++ dcB h (bt.map pr)) op (max mo (op + dcD h (bt.map dp)))) := by
  have n1 : ¬ wMap = wRec := by decide
  have n2 : ¬ wFn = wRec := by decide
  have n3 : ¬ wFn = wMap := by decide
  have n4 : ¬ wOn = wRec := by decide
  have n5 : ¬ wOn = wMap := by decide
  have e1 : dcB h (bt.map pr) = catL [wFn, sSp, h.name] ++ catL [sPar] ++ jn (h.params.map pmB) ++ [41] ++ catL [sArr, h.result] ++ bkB (bt.map pr) := by unfold dcB rsB; simp [hk, n2, n3, hrs]
  have e2 : dcD h (bt.map dp) = 1 + mxL (bt.map dp) := by unfold dcD; simp [hk, n2, n3]
  rw [e1] at hl ⊢
  rw [e2] at ho ⊢
  simp only [List.length_append, List.length_cons, List.length_nil] at hl
  obtain ⟨W, hW⟩ : ∃ W, W = w.alloc (.cells #[.string wFn, .pointer (some ⟨h.b, h.o, none⟩)] 105) := ⟨_, rfl⟩
  obtain ⟨X, hX⟩ : ∃ X, X = w.heap.size := ⟨_, rfl⟩
  have hbW : Below w.heap.size w W := by rw [hW]; exact (Below.refl _ w).alloc (Nat.le_refl _) _
  have hbox : W.heap[X]? = some (.cells #[.string wFn, .pointer (some ⟨h.b, h.o, none⟩)] 105 (0, 0)) := by rw [hW, hX]; exact heap_alloc_new _ _
  have hkW : Kpt B b w W := Kpt.below hbW hB
  have hne : X ≠ b := by have := hp.lt; omega
  have HX0 := hid (fun (w1 : World) (q : Kpt B b W w1) => cellT (q.2 _ _ _ hne (by decide) hbox) 0)
  have HX1 := hid (fun (w1 : World) (q : Kpt B b W w1) => cellT (q.2 _ _ _ hne (by decide) hbox) 1)
  simp only [List.getElem?_toArray, List.getElem?_cons_zero, List.getElem?_cons_succ, wFn] at HX0 HX1
  have hBW : B ≤ W.heap.size := Nat.le_trans hB hbW.size
  have hpW : Prn W B b l op mo := hp.below hbW
  have hb' : Below w0.heap.size w0 W := hb.trans (hkW.1.mono h0)
  have K1 := hid ((write_new W.drew B b _ op _ hpW.drew [wFn, sSp, h.name] 3 rfl (by omega) hBW (by omega)).mono (fun e w' h' => PrP.of hBW ((Below.refl _ W).drew) h'))
  simp only [List.map_cons, List.map_nil, wFn, sSp] at K1
  have y0 := HX0.out W (Kpt.refl _ _ _)
  have y1 := HX1.out W (Kpt.refl _ _ _)
  have d0 := (dh.below (Nat.le_refl _) hb').c0
  have K2 := hid (fun (w1 : World) (h1 : Below B W w1) (hp1 : Prn w1 B b (l ++ catL [wFn, sSp, h.name]) op mo) => enter_new w1 B b _ op mo hp1 (by omega) (by omega) [sPar] 1 rfl (by omega) (Nat.le_trans hBW h1.size) (by try simp only [List.length_append, List.length_cons, List.length_nil, bs_len]; omega))
  simp only [List.map_cons, List.map_nil, wFn, sSp, sPar] at K2
  have KP := hid (fun (w1 : World) (h1 : Below B W w1) (hp1 : Prn w1 B b (l ++ catL [wFn, sSp, h.name] ++ catL [sPar]) (op + 1) (max mo (op + 1))) => printParams_any w0 h.pa h.pn h.pc h.params dh.pl dh.pb dh.pr B b _ _ _ w1 h0 (hb'.trans (h1.mono h0)) (Nat.le_trans hBW h1.size) hp1 (by try simp only [List.length_append, List.length_cons, List.length_nil, bs_len]; omega))
  simp only [wFn, sSp, sPar] at KP
  have K4 := hid (fun (w1 : World) (h1 : Below B W w1) (hp1 : Prn w1 B b (l ++ catL [wFn, sSp, h.name] ++ catL [sPar] ++ jn (h.params.map pmB)) (op + 1) (max mo (op + 1))) => leave_any w1 B b _ op _ hp1 (by omega) ⟨#[41]⟩ (Nat.le_trans hBW h1.size) (by rw [show (⟨#[41]⟩ : ByteArray).size = 1 from rfl]; try simp only [List.length_append, List.length_cons, List.length_nil, bs_len]; omega))
  simp only [wFn, sSp, sPar] at K4
  have K5 := hid (fun (w1 : World) (h1 : Below B W w1) (hp1 : Prn w1 B b (l ++ catL [wFn, sSp, h.name] ++ catL [sPar] ++ jn (h.params.map pmB) ++ [41]) op (max mo (op + 1))) => write_new w1 B b _ op _ hp1 [sArr, h.result] 2 rfl (by omega) (Nat.le_trans hBW h1.size) (by try simp only [List.length_append, List.length_cons, List.length_nil, bs_len]; omega))
  simp only [List.map_cons, List.map_nil, wFn, sSp, sPar, sArr] at K5
  have hsb : (h.result.toList == []) = false := by simpa using hrs
  have K6 := hid (fun (w1 : World) (h1 : Below B W w1) (hp1 : Prn w1 B b (l ++ catL [wFn, sSp, h.name] ++ catL [sPar] ++ jn (h.params.map pmB) ++ [41] ++ catL [sArr, h.result]) op (max mo (op + 1))) => block_of k pr dp ok ihs w0 h.ba h.bn h.bc bt hnb dh.bb dlb hrb hokb B b _ op _ w1 hE h0 (hb'.trans (h1.mono h0)) (Nat.le_trans hBW h1.size) hp1 (by try simp only [List.length_append, List.length_cons, List.length_nil, bs_len]; omega) (by omega) (by omega))
  simp only [wFn, sSp, sPar, sArr] at K6
  have HF : Hid (max (max mo (op + 1)) (op + (1 + mxL (bt.map dp))) = max mo (op + (1 + mxL (bt.map dp)))) := hid (by omega)
  have C0 := hid (fun (w1 : World) (h1 : Below B W w1) => (dh.below (Nat.le_refl _) (hb'.trans (h1.mono h0))).c0)
  have C1 := hid (fun (w1 : World) (h1 : Below B W w1) => (dh.below (Nat.le_refl _) (hb'.trans (h1.mono h0))).c1)
  have C4 := hid (fun (w1 : World) (h1 : Below B W w1) => (dh.below (Nat.le_refl _) (hb'.trans (h1.mono h0))).c4)
  have C5 := hid (fun (w1 : World) (h1 : Below B W w1) => (dh.below (Nat.le_refl _) (hb'.trans (h1.mono h0))).c5)
  have HKW := hid hkW
  clear ihs dh hE h0 hb hp hl ho hm hmo hnb dlb hrb hokb e1 e2 n1 n2 n3 n4 n5 hbW hbox hne hBW hpW hb' hkW hk
  go_enter Tryz.func98, Tryz.ntmps98
  go_upto_region 1 with fail
  try rw [← hW, ← hX]
  clear hW hX
  go_region_held3 (fun w2 => w2.cell? ⟨X, 0, none⟩ = some (.string ⟨#[102, 110]⟩) ∧ w2.cell? ⟨X, 1, none⟩ = some (.pointer (some ⟨h.b, h.o, none⟩)) ∧ w2.cell? ⟨h.b, h.o, none⟩ = some (.string h.name)) (first | exact ⟨HX0.out _ hk1, HX1.out _ hk1, C0.out _ hk1.1⟩ | go_keep) (first | (go_at_call 99; (refine (Hid.out K1).mono ?_; rintro e w1 ⟨rfl, hp1, hk1⟩)))
  have K2' := hid (K2.out w1 hk1.1 hp1)
  have HK1 := hid hk1
  have z0 := HX0.out w1 hk1
  have z1 := HX1.out w1 hk1
  clear hp1 hk1 y0 y1 d0
  go_wp2_with (first
    | (go_at_call 106; (refine (Hid.out K2').mono ?_; rintro e w2 ⟨rfl, hp2, hk2⟩; have HK2 := hid (HK1.out.trans hk2); have s1 := HX1.out w2 HK2.out; have d1 := C1.out w2 HK2.out.1; have KP' := hid (KP.out w2 HK2.out.1 hp2); clear hp2 hk2 z1))
    | (go_at_call 120; (refine (Hid.out KP').mono ?_; rintro e w3 ⟨rfl, hp3, hk3⟩; have HK3 := hid (HK2.out.trans hk3); have K4' := hid (K4.out w3 HK3.out.1 hp3); clear hp3 hk3 s1 d1))
    | (go_at_call 108; (refine (Hid.out K4').mono ?_; rintro e w4 ⟨rfl, hp4, hk4⟩; have HK4 := hid (HK3.out.trans hk4); have s4 := HX1.out w4 HK4.out; have d4 := C4.out w4 HK4.out.1; have K5' := hid (K5.out w4 HK4.out.1 hp4); clear hp4 hk4))
    | (go_at_call 99; (refine (Hid.out K5').mono ?_; rintro e w5 ⟨rfl, hp5, hk5⟩; have HK5 := hid (HK4.out.trans hk5); have s5 := HX1.out w5 HK5.out; have d5 := C5.out w5 HK5.out.1; have K6' := hid (K6.out w5 HK5.out.1 hp5); clear hp5 hk5))
    | (go_at_call 121; (refine (Hid.out K6').mono ?_; rintro e w6 ⟨rfl, hp6, hk6⟩)))
  go_end0
  exact ⟨rfl, hp6.eq (by simp [wFn, sSp, sPar, sArr]) HF.out, HKW.out.trans (HK5.out.trans hk6)⟩

set_option maxRecDepth 100000 in
set_option maxHeartbeats 1000000 in
theorem decl_Rec (k : Nat) (pr : ST k → List UInt8) (dp : ST k → Nat) (ok : ST k → Prop) (ihs : StSaid k pr dp ok) (w0 : World) (h : DH) (bt : List (ST k)) (hk : h.sort = wRec) (dh : DHr w0 h) (hnb : h.bn = bt.length) (dlb : LiesAt 8 h.ba (sAt k) bt) (hrb : ∀ u ∈ bt, SRds k w0 u) (hokb : ∀ u ∈ bt, ok u) (B b : Nat) (l : List UInt8) (op mo : Nat) (w : World) (hE : EnvT w0) (h0 : w0.heap.size ≤ B) (hb : Below w0.heap.size w0 w) (hB : B ≤ w.heap.size) (hp : Prn w B b l op mo)
    (hl : l.length + (dcB h (bt.map pr)).length ≤ 900000000) (ho : op + dcD h (bt.map dp) ≤ 900000000) (hm : mo ≤ 900000000) (hmo : op ≤ mo) :
    Calls Tryz.prog 98 #[.pointer (some ⟨b, 0, none⟩), .agg #[.string wRec, .pointer (some ⟨h.b, h.o, none⟩)]] w (PrP w B b (l ++ dcB h (bt.map pr)) op (max mo (op + dcD h (bt.map dp)))) := by
  have n1 : ¬ wMap = wRec := by decide
  have n2 : ¬ wFn = wRec := by decide
  have n3 : ¬ wFn = wMap := by decide
  have n4 : ¬ wOn = wRec := by decide
  have n5 : ¬ wOn = wMap := by decide
  have e1 : dcB h (bt.map pr) = catL [wRec, sSp, h.name] ++ catL [sCur] ++ jn (h.params.map pmB) ++ [32, 125] := by unfold dcB; simp [hk]
  have e2 : dcD h (bt.map dp) = 1 := by unfold dcD; simp [hk]
  rw [e1] at hl ⊢
  rw [e2] at ho ⊢
  simp only [List.length_append, List.length_cons, List.length_nil] at hl
  obtain ⟨W, hW⟩ : ∃ W, W = w.alloc (.cells #[.string wRec, .pointer (some ⟨h.b, h.o, none⟩)] 105) := ⟨_, rfl⟩
  obtain ⟨X, hX⟩ : ∃ X, X = w.heap.size := ⟨_, rfl⟩
  have hbW : Below w.heap.size w W := by rw [hW]; exact (Below.refl _ w).alloc (Nat.le_refl _) _
  have hbox : W.heap[X]? = some (.cells #[.string wRec, .pointer (some ⟨h.b, h.o, none⟩)] 105 (0, 0)) := by rw [hW, hX]; exact heap_alloc_new _ _
  have hkW : Kpt B b w W := Kpt.below hbW hB
  have hne : X ≠ b := by have := hp.lt; omega
  have HX0 := hid (fun (w1 : World) (q : Kpt B b W w1) => cellT (q.2 _ _ _ hne (by decide) hbox) 0)
  have HX1 := hid (fun (w1 : World) (q : Kpt B b W w1) => cellT (q.2 _ _ _ hne (by decide) hbox) 1)
  simp only [List.getElem?_toArray, List.getElem?_cons_zero, List.getElem?_cons_succ, wRec] at HX0 HX1
  have hBW : B ≤ W.heap.size := Nat.le_trans hB hbW.size
  have hpW : Prn W B b l op mo := hp.below hbW
  have hb' : Below w0.heap.size w0 W := hb.trans (hkW.1.mono h0)
  have K1 := hid ((write_new W.drew B b _ op _ hpW.drew [wRec, sSp, h.name] 3 rfl (by omega) hBW (by omega)).mono (fun e w' h' => PrP.of hBW ((Below.refl _ W).drew) h'))
  simp only [List.map_cons, List.map_nil, wRec, sSp] at K1
  have y0 := HX0.out W (Kpt.refl _ _ _)
  have y1 := HX1.out W (Kpt.refl _ _ _)
  have d0 := (dh.below (Nat.le_refl _) hb').c0
  have K2 := hid (fun (w1 : World) (h1 : Below B W w1) (hp1 : Prn w1 B b (l ++ catL [wRec, sSp, h.name]) op mo) => enter_new w1 B b _ op mo hp1 (by omega) (by omega) [sCur] 1 rfl (by omega) (Nat.le_trans hBW h1.size) (by try simp only [List.length_append, List.length_cons, List.length_nil, bs_len]; omega))
  simp only [List.map_cons, List.map_nil, wRec, sSp, sCur] at K2
  have KP := hid (fun (w1 : World) (h1 : Below B W w1) (hp1 : Prn w1 B b (l ++ catL [wRec, sSp, h.name] ++ catL [sCur]) (op + 1) (max mo (op + 1))) => printParams_any w0 h.pa h.pn h.pc h.params dh.pl dh.pb dh.pr B b _ _ _ w1 h0 (hb'.trans (h1.mono h0)) (Nat.le_trans hBW h1.size) hp1 (by try simp only [List.length_append, List.length_cons, List.length_nil, bs_len]; omega))
  simp only [wRec, sSp, sCur] at KP
  have K4 := hid (fun (w1 : World) (h1 : Below B W w1) (hp1 : Prn w1 B b (l ++ catL [wRec, sSp, h.name] ++ catL [sCur] ++ jn (h.params.map pmB)) (op + 1) (max mo (op + 1))) => leave_any w1 B b _ op _ hp1 (by omega) ⟨#[32, 125]⟩ (Nat.le_trans hBW h1.size) (by rw [show (⟨#[32, 125]⟩ : ByteArray).size = 2 from rfl]; try simp only [List.length_append, List.length_cons, List.length_nil, bs_len]; omega))
  simp only [wRec, sSp, sCur] at K4
  have C0 := hid (fun (w1 : World) (h1 : Below B W w1) => (dh.below (Nat.le_refl _) (hb'.trans (h1.mono h0))).c0)
  have C1 := hid (fun (w1 : World) (h1 : Below B W w1) => (dh.below (Nat.le_refl _) (hb'.trans (h1.mono h0))).c1)
  have HKW := hid hkW
  clear ihs dh hE h0 hb hp hl ho hm hmo hnb dlb hrb hokb e1 e2 n1 n2 n3 n4 n5 hbW hbox hne hBW hpW hb' hkW hk
  go_enter Tryz.func98, Tryz.ntmps98
  go_upto_region 1 with fail
  try rw [← hW, ← hX]
  clear hW hX
  go_region_held3 (fun w2 => w2.cell? ⟨X, 0, none⟩ = some (.string ⟨#[114, 101, 99, 111, 114, 100]⟩) ∧ w2.cell? ⟨X, 1, none⟩ = some (.pointer (some ⟨h.b, h.o, none⟩)) ∧ w2.cell? ⟨h.b, h.o, none⟩ = some (.string h.name)) (first | exact ⟨HX0.out _ hk1, HX1.out _ hk1, C0.out _ hk1.1⟩ | go_keep) (first | (go_at_call 99; (refine (Hid.out K1).mono ?_; rintro e w1 ⟨rfl, hp1, hk1⟩)))
  have K2' := hid (K2.out w1 hk1.1 hp1)
  have HK1 := hid hk1
  have z0 := HX0.out w1 hk1
  have z1 := HX1.out w1 hk1
  clear hp1 hk1 y0 y1 d0
  go_wp2_with (first
    | (go_at_call 106; (refine (Hid.out K2').mono ?_; rintro e w2 ⟨rfl, hp2, hk2⟩; have HK2 := hid (HK1.out.trans hk2); have s1 := HX1.out w2 HK2.out; have d1 := C1.out w2 HK2.out.1; have KP' := hid (KP.out w2 HK2.out.1 hp2); clear hp2 hk2 z1))
    | (go_at_call 120; (refine (Hid.out KP').mono ?_; rintro e w3 ⟨rfl, hp3, hk3⟩; have HK3 := hid (HK2.out.trans hk3); have K4' := hid (K4.out w3 HK3.out.1 hp3); clear hp3 hk3 s1 d1))
    | (go_at_call 108; (refine (Hid.out K4').mono ?_; rintro e w4 ⟨rfl, hp4, hk4⟩)))
  go_end0
  exact ⟨rfl, hp4.eq (by simp [wRec, sSp, sCur]) rfl, HKW.out.trans (HK3.out.trans hk4)⟩

set_option maxRecDepth 100000 in
set_option maxHeartbeats 1000000 in
theorem decl_Map (k : Nat) (pr : ST k → List UInt8) (dp : ST k → Nat) (ok : ST k → Prop) (ihs : StSaid k pr dp ok) (w0 : World) (h : DH) (bt : List (ST k)) (hk : h.sort = wMap) (dh : DHr w0 h) (hnb : h.bn = bt.length) (dlb : LiesAt 8 h.ba (sAt k) bt) (hrb : ∀ u ∈ bt, SRds k w0 u) (hokb : ∀ u ∈ bt, ok u) (B b : Nat) (l : List UInt8) (op mo : Nat) (w : World) (hE : EnvT w0) (h0 : w0.heap.size ≤ B) (hb : Below w0.heap.size w0 w) (hB : B ≤ w.heap.size) (hp : Prn w B b l op mo)
    (hl : l.length + (dcB h (bt.map pr)).length ≤ 900000000) (ho : op + dcD h (bt.map dp) ≤ 900000000) (hm : mo ≤ 900000000) (hmo : op ≤ mo) :
    Calls Tryz.prog 98 #[.pointer (some ⟨b, 0, none⟩), .agg #[.string wMap, .pointer (some ⟨h.b, h.o, none⟩)]] w (PrP w B b (l ++ dcB h (bt.map pr)) op (max mo (op + dcD h (bt.map dp)))) := by
  have n1 : ¬ wMap = wRec := by decide
  have n2 : ¬ wFn = wRec := by decide
  have n3 : ¬ wFn = wMap := by decide
  have n4 : ¬ wOn = wRec := by decide
  have n5 : ¬ wOn = wMap := by decide
  have e1 : dcB h (bt.map pr) = catL [wMap, sSp, h.name] ++ catL [sCol, h.key, sArr, h.value, sSemi] := by unfold dcB; simp [hk, n1]
  have e2 : dcD h (bt.map dp) = 0 := by unfold dcD; simp [hk, n1]
  rw [e1] at hl ⊢
  rw [e2] at ho ⊢
  simp only [List.length_append, List.length_cons, List.length_nil] at hl
  obtain ⟨W, hW⟩ : ∃ W, W = w.alloc (.cells #[.string wMap, .pointer (some ⟨h.b, h.o, none⟩)] 105) := ⟨_, rfl⟩
  obtain ⟨X, hX⟩ : ∃ X, X = w.heap.size := ⟨_, rfl⟩
  have hbW : Below w.heap.size w W := by rw [hW]; exact (Below.refl _ w).alloc (Nat.le_refl _) _
  have hbox : W.heap[X]? = some (.cells #[.string wMap, .pointer (some ⟨h.b, h.o, none⟩)] 105 (0, 0)) := by rw [hW, hX]; exact heap_alloc_new _ _
  have hkW : Kpt B b w W := Kpt.below hbW hB
  have hne : X ≠ b := by have := hp.lt; omega
  have HX0 := hid (fun (w1 : World) (q : Kpt B b W w1) => cellT (q.2 _ _ _ hne (by decide) hbox) 0)
  have HX1 := hid (fun (w1 : World) (q : Kpt B b W w1) => cellT (q.2 _ _ _ hne (by decide) hbox) 1)
  simp only [List.getElem?_toArray, List.getElem?_cons_zero, List.getElem?_cons_succ, wMap] at HX0 HX1
  have hBW : B ≤ W.heap.size := Nat.le_trans hB hbW.size
  have hpW : Prn W B b l op mo := hp.below hbW
  have hb' : Below w0.heap.size w0 W := hb.trans (hkW.1.mono h0)
  have K1 := hid ((write_new W.drew B b _ op _ hpW.drew [wMap, sSp, h.name] 3 rfl (by omega) hBW (by omega)).mono (fun e w' h' => PrP.of hBW ((Below.refl _ W).drew) h'))
  simp only [List.map_cons, List.map_nil, wMap, sSp] at K1
  have y0 := HX0.out W (Kpt.refl _ _ _)
  have y1 := HX1.out W (Kpt.refl _ _ _)
  have d0 := (dh.below (Nat.le_refl _) hb').c0
  have K2 := hid (fun (w1 : World) (h1 : Below B W w1) (hp1 : Prn w1 B b (l ++ catL [wMap, sSp, h.name]) op mo) => (write_new w1.drew B b _ op mo hp1.drew [sCol, h.key, sArr, h.value, sSemi] 5 rfl (by omega) (Nat.le_trans hBW h1.size) (by try simp only [List.length_append, List.length_cons, List.length_nil, bs_len]; omega)).mono (fun e w' h' => PrP.of (Nat.le_trans hBW h1.size) ((Below.refl _ w1).drew) h'))
  simp only [List.map_cons, List.map_nil, wMap, sSp, sCol, sArr, sSemi] at K2
  have C0 := hid (fun (w1 : World) (h1 : Below B W w1) => (dh.below (Nat.le_refl _) (hb'.trans (h1.mono h0))).c0)
  have C2 := hid (fun (w1 : World) (h1 : Below B W w1) => (dh.below (Nat.le_refl _) (hb'.trans (h1.mono h0))).c2)
  have C3 := hid (fun (w1 : World) (h1 : Below B W w1) => (dh.below (Nat.le_refl _) (hb'.trans (h1.mono h0))).c3)
  have HKW := hid hkW
  have HM := hid hmo
  clear ihs dh hE h0 hb hp hl ho hm hmo hnb dlb hrb hokb e1 e2 n1 n2 n3 n4 n5 hbW hbox hne hBW hpW hb' hkW hk
  go_enter Tryz.func98, Tryz.ntmps98
  go_upto_region 1 with fail
  try rw [← hW, ← hX]
  clear hW hX
  go_region_held3 (fun w2 => w2.cell? ⟨X, 0, none⟩ = some (.string ⟨#[109, 97, 112]⟩) ∧ w2.cell? ⟨X, 1, none⟩ = some (.pointer (some ⟨h.b, h.o, none⟩)) ∧ w2.cell? ⟨h.b, h.o, none⟩ = some (.string h.name)) (first | exact ⟨HX0.out _ hk1, HX1.out _ hk1, C0.out _ hk1.1⟩ | go_keep) (first | (go_at_call 99; (refine (Hid.out K1).mono ?_; rintro e w1 ⟨rfl, hp1, hk1⟩)))
  have K2' := hid (K2.out w1 hk1.1 hp1)
  have HK1 := hid hk1
  have z0 := HX0.out w1 hk1
  have z1 := HX1.out w1 hk1
  have d2 := C2.out w1 hk1.1
  have d3 := C3.out w1 hk1.1
  clear hp1 hk1 y0 y1 d0
  go_wp2
  go_region_held3 (fun w2 => w2.cell? ⟨X, 1, none⟩ = some (.pointer (some ⟨h.b, h.o, none⟩)) ∧ w2.cell? ⟨h.b, h.o + 2, none⟩ = some (.string h.key) ∧ w2.cell? ⟨h.b, h.o + 3, none⟩ = some (.string h.value)) (first | exact ⟨HX1.out _ (HK1.out.trans hk2), C2.out _ (HK1.out.trans hk2).1, C3.out _ (HK1.out.trans hk2).1⟩ | go_keep) (first | (go_at_call 99; (refine (Hid.out K2').mono ?_; rintro e w2 ⟨rfl, hp2, hk2⟩)))
  go_wp2
  go_end0
  exact ⟨rfl, hp2.eq (by simp [wMap, sSp, sCol, sArr, sSemi]) (by have := HM.out; omega), HKW.out.trans (HK1.out.trans hk2)⟩

set_option maxRecDepth 100000 in
set_option maxHeartbeats 1000000 in
theorem decl_any (k : Nat) (pr : ST k → List UInt8) (dp : ST k → Nat) (ok : ST k → Prop) (ihs : StSaid k pr dp ok) (w0 : World) (h : DH) (bt : List (ST k)) (hk : h.sort = wRec ∨ h.sort = wMap ∨ h.sort = wFn ∨ h.sort = wOn) (dh : DHr w0 h) (hnb : h.bn = bt.length) (dlb : LiesAt 8 h.ba (sAt k) bt) (hrb : ∀ u ∈ bt, SRds k w0 u) (hokb : ∀ u ∈ bt, ok u) (B b : Nat) (l : List UInt8) (op mo : Nat) (w : World) (hE : EnvT w0) (h0 : w0.heap.size ≤ B) (hb : Below w0.heap.size w0 w) (hB : B ≤ w.heap.size) (hp : Prn w B b l op mo)
    (hl : l.length + (dcB h (bt.map pr)).length ≤ 900000000) (ho : op + dcD h (bt.map dp) ≤ 900000000) (hm : mo ≤ 900000000) (hmo : op ≤ mo) :
    Calls Tryz.prog 98 #[.pointer (some ⟨b, 0, none⟩), .agg #[.string h.sort, .pointer (some ⟨h.b, h.o, none⟩)]] w (PrP w B b (l ++ dcB h (bt.map pr)) op (max mo (op + dcD h (bt.map dp)))) := by
  rcases hk with hk | hk | hk | hk
  · rw [hk]; exact decl_Rec k pr dp ok ihs w0 h bt hk dh hnb dlb hrb hokb B b l op mo w hE h0 hb hB hp hl ho hm hmo
  · rw [hk]; exact decl_Map k pr dp ok ihs w0 h bt hk dh hnb dlb hrb hokb B b l op mo w hE h0 hb hB hp hl ho hm hmo
  · rw [hk]
    by_cases hrs : h.result.toList = []
    · exact decl_FnN k pr dp ok ihs w0 h bt hk hrs dh hnb dlb hrb hokb B b l op mo w hE h0 hb hB hp hl ho hm hmo
    · exact decl_FnR k pr dp ok ihs w0 h bt hk hrs dh hnb dlb hrb hokb B b l op mo w hE h0 hb hB hp hl ho hm hmo
  · rw [hk]
    by_cases hrs : h.result.toList = []
    · exact decl_OnN k pr dp ok ihs w0 h bt hk hrs dh hnb dlb hrb hokb B b l op mo w hE h0 hb hB hp hl ho hm hmo
    · exact decl_OnR k pr dp ok ihs w0 h bt hk hrs dh hnb dlb hrb hokb B b l op mo w hE h0 hb hB hp hl ho hm hmo
end Go.Proofs.YtdfambocenohgaaGreatDoor

namespace Go.Proofs.YtdfambocenohgaaGreatDoor
open Go.RowKit Go.Deep
set_option linter.unusedVariables false
set_option linter.unusedSimpArgs false

def prD (k : Nat) (t : DT k) : List UInt8 := dcB t.1 (t.2.map (prS k))
def dpD (k : Nat) (t : DT k) : Nat := dcD t.1 (t.2.map (dpS k))
def okDc (k : Nat) (t : DT k) : Prop := ∀ v ∈ t.2, okSt k v
def lnB (ps : List (List UInt8)) : List UInt8 := ps.flatMap fun p => p ++ [10]
theorem ln_take {α : Type} (f : α → List UInt8) {ts : List α} {i : Nat} {t : α} (h : ts[i]? = some t) : lnB ((ts.take (i + 1)).map f) = lnB ((ts.take i).map f) ++ (f t ++ [10]) := by
  unfold lnB; rw [List.take_add_one, h]; simp [List.flatMap_append]
theorem ln_pre {α : Type} (f : α → List UInt8) (ts : List α) (i : Nat) : (lnB ((ts.take i).map f)).length ≤ (lnB (ts.map f)).length := by
  have : lnB (ts.map f) = lnB ((ts.take i).map f) ++ lnB ((ts.drop i).map f) := by
    unfold lnB; rw [← List.flatMap_append, ← List.map_append, List.take_append_drop]
  rw [this, List.length_append]; omega
set_option maxRecDepth 100000 in
set_option maxHeartbeats 1000000 in
theorem decls_any (k : Nat) (w0 : World) (s : ByteArray) (hs : s = wRec ∨ s = wMap ∨ s = wFn ∨ s = wOn) (aa : Option Addr) (an ac : Nat) (ts : List (DT k)) (han : an ≤ 1000000) (dd : DLs k w0 s aa an ts) (hok : ∀ t ∈ ts, okDc k t) (B b : Nat) (l : List UInt8) (op mo : Nat) (w : World) (hE : EnvT w0) (h0 : w0.heap.size ≤ B) (hb : Below w0.heap.size w0 w) (hB : B ≤ w.heap.size) (hp : Prn w B b l op mo)
    (hl : l.length + (lnB (ts.map (prD k))).length ≤ 900000000) (ho : op + mxL (ts.map (dpD k)) ≤ 900000000) (hm : mo ≤ 900000000) (hmo : op ≤ mo) :
    Calls Tryz.prog 78 #[.pointer (some ⟨b, 0, none⟩), .string s, .slice aa an ac] w (PrP w B b (l ++ lnB (ts.map (prD k))) op (max mo (op + mxL (ts.map (dpD k))))) := by
  have hanI : (an : Int) ≤ 1000000 := by omega
  have K1 := hid (fun (i : Nat) (t : DT k) (ht : ts[i]? = some t) (w1 : World) (h1 : Below B w w1) (hp1 : Prn w1 B b (l ++ lnB ((ts.take i).map (prD k))) op (max mo (op + mxL ((ts.take i).map (dpD k))))) => by
    have d := dd.e t (List.mem_of_getElem? ht)
    have es := dd.s t (List.mem_of_getElem? ht)
    have hq := decl_any k (prS k) (dpS k) (okSt k) (stmt_all k) w0 t.1 t.2 (by rw [es]; exact hs) d.h d.n d.l d.e (hok t (List.mem_of_getElem? ht)) B b _ op _ w1 hE h0 (hb.trans (h1.mono h0)) (Nat.le_trans hB h1.size) hp1 (by
      have h2 := ln_pre (prD k) ts (i + 1)
      rw [ln_take (prD k) ht] at h2
      simp only [List.length_append, List.length_cons, List.length_nil, prD] at h2 hl ⊢
      omega) (by
      have h2 := mx_pre (dpD k) ts (i + 1)
      rw [mx_take (dpD k) ht] at h2
      simp only [dpD] at h2 ho ⊢
      omega) (by
      have h2 := mx_pre (dpD k) ts i
      omega) (by omega)
    rw [es] at hq
    exact hq)
  have hc2 : catL [⟨#[10]⟩] = [10] := by simp [catL]
  have K2 := hid (fun (i : Nat) (t : DT k) (ht : ts[i]? = some t) (w1 : World) (h1 : Below B w w1) (mo1 : Nat) (hp1 : Prn w1 B b (l ++ lnB ((ts.take i).map (prD k)) ++ prD k t) op mo1) => write_new w1 B b _ op mo1 hp1 [⟨#[10]⟩] 1 rfl (by omega) (Nat.le_trans hB h1.size) (by
    have h2 := ln_pre (prD k) ts (i + 1)
    rw [ln_take (prD k) ht] at h2
    rw [hc2]
    simp only [List.length_append, List.length_cons, List.length_nil] at h2 ⊢
    omega))
  simp only [hc2, List.map_cons, List.map_nil] at K2
  have HM0 : Hid (max mo (op + 0) = mo) := hid (by omega)
  have HN := hid dd.n
  have DL := hid dd.l
  have HP := hid hp
  clear hok hE h0 hb hp hl ho hm hc2 dd hmo hs
  go_enter Tryz.func78, Tryz.ntmps78
  go_wp2
  go_loopg [9] an (fun g x wr => ∃ i : Nat, i + g = an ∧ x = .int .i64 (i : Int) ∧ Prn wr B b (l ++ lnB ((ts.take i).map (prD k))) op (max mo (op + mxL ((ts.take i).map (dpD k)))) ∧ Kpt B b w wr)
  case atStart => exact ⟨0, by omega, rfl, HP.out.eq (by simp [lnB]) (by have := HM0.out; simpa [mxL] using this.symm), Kpt.refl _ _ _⟩
  case round =>
    obtain ⟨i, hi, rfl, hp2, hk2⟩ := hrel
    cases gk with
    | zero =>
      have hin : i = an := by omega
      subst hin
      rw [HN.out, List.take_of_length_le (Nat.le_refl _)] at hp2
      have HP2 := hid hp2
      have HK2 := hid hk2
      clear hi hp2 hk2
      go_wp2
      go_end0
      exact ⟨rfl, HP2.out, HK2.out⟩
    | succ g =>
      have hil : (i : Int) < (an : Int) := by omega
      have hi0 : (0 : Int) ≤ (i : Int) := by omega
      obtain ⟨t, ht⟩ : ∃ t, ts[i]? = some t := ⟨ts[i]'(by rw [← HN.out]; omega), List.getElem?_eq_getElem _⟩
      obtain ⟨ab, aoff, eaa, hat⟩ := DL.out i t ht
      subst eaa
      simp only [dAt, Prod.mk.injEq] at hat
      have K1' := hid (K1.out i t ht wr hk2.1 hp2)
      simp only [hat.1, hat.2] at K1'
      have K2' := hid (K2.out i t ht)
      have HJ := hid (ln_take (prD k) ht)
      have HM := hid (mx_take (dpD k) ht)
      have HK2 := hid hk2
      have Hi := hid hi
      clear hp2 hk2 hat ht hi
      go_wp2_with (first
        | (go_at_call 98; (refine (Hid.out K1').mono ?_; rintro e w2 ⟨rfl, hp3, hk3⟩; have HK3 := hid (HK2.out.trans hk3); have K4 := hid (K2'.out w2 HK3.out.1 _ hp3); clear hp3 hk3))
        | (go_at_call 99; (refine (Hid.out K4).mono ?_; rintro e w3 ⟨rfl, hp4, hk4⟩)))
      go_roundg g
      case measure => omega
      case rel => exact ⟨i + 1, by have := Hi.out; omega, by go_num, hp4.eq (by rw [HJ.out]; simp [prD]) (by rw [HM.out]; simp only [dpD]; omega), HK3.out.trans hk4⟩
end Go.Proofs.YtdfambocenohgaaGreatDoor

namespace Go.Proofs.YtdfambocenohgaaGreatDoor
open Go.RowKit Go.Deep
set_option linter.unusedVariables false
set_option linter.unusedSimpArgs false
attribute [local go_sem] as58_58 as105_58 as101_58 as67_58 as58_105 as105_105 as101_105 as67_105 as58_101 as105_101 as101_101 as67_101 as58_67 as105_67 as101_67 as67_67
attribute [local go_sem] Oper.semAt_some

def prT (k : Nat) (t : TT k) : List UInt8 := lnB (t.rs.map (prD k)) ++ lnB (t.ms.map (prD k)) ++ lnB (t.fs.map (prD k)) ++ lnB (t.es.map (prD k))
def dpT (k : Nat) (t : TT k) : Nat := max (max (max (mxL (t.rs.map (dpD k))) (mxL (t.ms.map (dpD k)))) (mxL (t.fs.map (dpD k)))) (mxL (t.es.map (dpD k)))
structure okTr (k : Nat) (t : TT k) : Prop where
  rs : ∀ u ∈ t.rs, okDc k u
  ms : ∀ u ∈ t.ms, okDc k u
  fs : ∀ u ∈ t.fs, okDc k u
  es : ∀ u ∈ t.es, okDc k u
set_option maxRecDepth 100000 in
set_option maxHeartbeats 1000000 in
theorem wholeTree_any (k : Nat) (w0 : World) (t : TT k) (dt : TRds k w0 t) (hok : okTr k t) (B b : Nat) (l : List UInt8) (op mo : Nat) (w : World) (hE : EnvT w0) (h0 : w0.heap.size ≤ B) (hb : Below w0.heap.size w0 w) (hB : B ≤ w.heap.size) (hp : Prn w B b l op mo)
    (hl : l.length + (prT k t).length ≤ 900000000) (ho : op + dpT k t ≤ 900000000) (hm : mo ≤ 900000000) (hmo : op ≤ mo) :
    Calls Tryz.prog 47 #[.pointer (some ⟨b, 0, none⟩), .iface 58 (.pointer (some ⟨t.h.b, t.h.o, none⟩))] w (PrP w B b (l ++ prT k t) op (max mo (op + dpT k t))) := by
  unfold prT at hl ⊢
  unfold dpT at ho ⊢
  simp only [List.length_append] at hl
  have K1 := hid (fun (w1 : World) (h1 : Below B w w1) (hp1 : Prn w1 B b (l) op (mo)) => decls_any k w0 wRec (by simp) t.h.ra t.h.rn t.h.rc t.rs dt.h.rb dt.rs hok.rs B b _ op _ w1 hE h0 (hb.trans (h1.mono h0)) (Nat.le_trans hB h1.size) hp1 (by (try simp only [List.length_append]); omega) (by omega) (by omega) (by omega))
  simp only [wRec] at K1
  have C0 := hid (fun (w1 : World) (h1 : Below B w w1) => (dt.h.below (Nat.le_refl _) (hb.trans (h1.mono h0))).c0)
  have K2 := hid (fun (w1 : World) (h1 : Below B w w1) (hp1 : Prn w1 B b (l ++ lnB (t.rs.map (prD k))) op (max (mo) (op + mxL (t.rs.map (dpD k))))) => decls_any k w0 wMap (by simp) t.h.ma t.h.mn t.h.mc t.ms dt.h.mb dt.ms hok.ms B b _ op _ w1 hE h0 (hb.trans (h1.mono h0)) (Nat.le_trans hB h1.size) hp1 (by (try simp only [List.length_append]); omega) (by omega) (by omega) (by omega))
  simp only [wMap] at K2
  have C1 := hid (fun (w1 : World) (h1 : Below B w w1) => (dt.h.below (Nat.le_refl _) (hb.trans (h1.mono h0))).c1)
  have K3 := hid (fun (w1 : World) (h1 : Below B w w1) (hp1 : Prn w1 B b (l ++ lnB (t.rs.map (prD k)) ++ lnB (t.ms.map (prD k))) op (max (max (mo) (op + mxL (t.rs.map (dpD k)))) (op + mxL (t.ms.map (dpD k))))) => decls_any k w0 wFn (by simp) t.h.fa t.h.fn t.h.fc t.fs dt.h.fb dt.fs hok.fs B b _ op _ w1 hE h0 (hb.trans (h1.mono h0)) (Nat.le_trans hB h1.size) hp1 (by (try simp only [List.length_append]); omega) (by omega) (by omega) (by omega))
  simp only [wFn] at K3
  have C2 := hid (fun (w1 : World) (h1 : Below B w w1) => (dt.h.below (Nat.le_refl _) (hb.trans (h1.mono h0))).c2)
  have K4 := hid (fun (w1 : World) (h1 : Below B w w1) (hp1 : Prn w1 B b (l ++ lnB (t.rs.map (prD k)) ++ lnB (t.ms.map (prD k)) ++ lnB (t.fs.map (prD k))) op (max (max (max (mo) (op + mxL (t.rs.map (dpD k)))) (op + mxL (t.ms.map (dpD k)))) (op + mxL (t.fs.map (dpD k))))) => decls_any k w0 wOn (by simp) t.h.ea t.h.en t.h.ec t.es dt.h.eb dt.es hok.es B b _ op _ w1 hE h0 (hb.trans (h1.mono h0)) (Nat.le_trans hB h1.size) hp1 (by (try simp only [List.length_append]); omega) (by omega) (by omega) (by omega))
  simp only [wOn] at K4
  have C3 := hid (fun (w1 : World) (h1 : Below B w w1) => (dt.h.below (Nat.le_refl _) (hb.trans (h1.mono h0))).c3)
  have HF : Hid (max (max (max (max (mo) (op + mxL (t.rs.map (dpD k)))) (op + mxL (t.ms.map (dpD k)))) (op + mxL (t.fs.map (dpD k)))) (op + mxL (t.es.map (dpD k))) = max mo (op + max (max (max (mxL (t.rs.map (dpD k))) (mxL (t.ms.map (dpD k)))) (mxL (t.fs.map (dpD k)))) (mxL (t.es.map (dpD k))))) := hid (by omega)
  have c0 := C0.out w (Below.refl _ _)
  have K1' := hid (K1.out w (Below.refl _ _) hp)
  clear dt hok hE h0 hb hB hp hl ho hm hmo
  go_enter Tryz.func47, Tryz.ntmps47
  go_wp2_with (first
    | (go_at_call 78; (have hno := K4'; refine (Hid.out K4').mono ?_; rintro e w4 ⟨rfl, hp4, hk4⟩))
    | (go_at_call 78; (have hno := K3'; refine (Hid.out K3').mono ?_; rintro e w3 ⟨rfl, hp3, hk3⟩; have HK3 := hid (HK2.out.trans hk3); have c3 := C3.out w3 HK3.out.1; have K4' := hid (K4.out w3 HK3.out.1 hp3); clear hp3 hk3 K3'))
    | (go_at_call 78; (have hno := K2'; refine (Hid.out K2').mono ?_; rintro e w2 ⟨rfl, hp2, hk2⟩; have HK2 := hid (HK1.out.trans hk2); have c2 := C2.out w2 HK2.out.1; have K3' := hid (K3.out w2 HK2.out.1 hp2); clear hp2 hk2 K2'))
    | (go_at_call 78; (refine (Hid.out K1').mono ?_; rintro e w1 ⟨rfl, hp1, hk1⟩; have HK1 := hid hk1; have c1 := C1.out w1 hk1.1; have K2' := hid (K2.out w1 hk1.1 hp1); clear hp1 hk1 K1')))
  go_end0
  exact ⟨rfl, hp4.eq (by simp) HF.out, HK3.out.trans hk4⟩
set_option maxRecDepth 100000 in
theorem wholeExpr_any (k : Nat) (w0 : World) (t : ET k) (hr : ERd k w0 t) (hok : okAll k t) (B b : Nat) (l : List UInt8) (op mo : Nat) (w : World) (hE : EnvT w0) (h0 : w0.heap.size ≤ B) (hb : Below w0.heap.size w0 w) (hB : B ≤ w.heap.size) (hp : Prn w B b l op mo)
    (hl : l.length + (prE k t).length ≤ 900000000) (ho : op + dpE k t ≤ 900000000) (hm : mo ≤ 900000000) (hmo : op ≤ mo) :
    Calls Tryz.prog 47 #[.pointer (some ⟨b, 0, none⟩), .iface 67 (.pointer (some ⟨(eH k t).b, (eH k t).o, none⟩))] w (PrP w B b (l ++ prE k t) op (max mo (op + dpE k t))) := by
  have K1 := hid (expr_all k w0 t B b l op mo w hr hok hE h0 hb hB hp hl ho hm hmo)
  clear hr hok hE h0 hb hB hp hl ho hm hmo
  go_enter Tryz.func47, Tryz.ntmps47
  go_wp2_with (go_at_call 79; (refine (Hid.out K1).mono ?_; rintro e w1 ⟨rfl, hp1, hk1⟩))
  go_end0
  exact ⟨rfl, hp1, hk1⟩
end Go.Proofs.YtdfambocenohgaaGreatDoor

namespace Go.Proofs.YtdfambocenohgaaGreatDoor
open Go.RowKit Go.Deep
set_option linter.unusedVariables false
set_option linter.unusedSimpArgs false
attribute [local go_sem] Oper.semAt_some

def PdP (w : World) (l : List UInt8) (d : Nat) (e : Ending) (w' : World) : Prop := e = .returned (.tuple #[.pointer (some ⟨w.heap.size, 0, none⟩), .int .i64 0]) ∧ Prn w' w.heap.size w.heap.size l 0 d ∧ Below w.heap.size w w'
set_option maxRecDepth 100000 in
set_option maxHeartbeats 1000000 in
theorem printed_of (w : World) (root : Part) (ps : List Part) (hwh : ∀ (w1 : World), Below w.heap.size w w1 → Whole w1 root ps) (hso : ∀ p ∈ ps, PartOk p) (hall : ps.all rightP = true) (hE : EnvT w) (l : List UInt8) (d : Nat)
    (hw : ∀ (w1 : World), Below w.heap.size w w1 → w.heap.size ≤ w1.heap.size → Prn w1 w.heap.size w.heap.size [] 0 0 → Calls Tryz.prog 47 #[.pointer (some ⟨w.heap.size, 0, none⟩), labP root] w1 (PrP w1 w.heap.size w.heap.size l 0 d)) :
    Calls Tryz.prog 25 #[labP root] w (PdP w l d) := by
  obtain ⟨W, hW⟩ : ∃ W, W = w.alloc (.cells #[.pointer none, .slice none 0 0, .int .i64 0, .int .i64 0] 63) := ⟨_, rfl⟩
  have hbW : Below w.heap.size w W := by rw [hW]; exact (Below.refl _ w).alloc (Nat.le_refl _) _
  have hbox : W.heap[w.heap.size]? = some (.cells #[.pointer none, .slice none 0 0, .int .i64 0, .int .i64 0] 63 (0, 0)) := by rw [hW]; exact heap_alloc_new _ _
  have hpW : Prn W w.heap.size w.heap.size [] 0 0 := ⟨Nat.le_refl _, _, _, .inl rfl, hbox, BRow.nil _ _⟩
  have K1 := hid (mayBe_any W root ps (hwh W hbW) hso (hE.below hbW).mx)
  have K2 := hid (fun (w1 : World) (h1 : Below W.heap.size W w1) => hw w1 (hbW.trans (h1.mono hbW.size)) (Nat.le_trans hbW.size h1.size) (hpW.below h1))
  have TR := hid (fun (w1 : World) (h1 : Below W.heap.size W w1) => hbW.trans (h1.mono hbW.size))
  rw [hall] at K1
  obtain ⟨X, hX⟩ : ∃ X, X = w.heap.size := ⟨_, rfl⟩
  obtain ⟨V, hV⟩ : ∃ V, V = labP root := ⟨_, rfl⟩
  rw [← hV] at K1 K2 ⊢
  clear hwh hso hall hE hw hbox hpW hbW hV
  go_enter Tryz.func25, Tryz.ntmps25
  go_upto_region 2 with fail
  try rw [← hW]
  clear hW
  go_wp2_with (first
    | (go_at_call 31; (refine (Hid.out K1).mono ?_; rintro e w1 ⟨rfl, hb1⟩; have K2' := hid (K2.out w1 hb1); have HB1 := hid (TR.out w1 hb1); clear hb1))
    | (go_at_call 47; (refine (Hid.out K2').mono ?_; rintro e w2 ⟨rfl, hp2, hk2⟩)))
  go_ret2
  exact ⟨rfl, hp2, HB1.out.trans hk2.1⟩
end Go.Proofs.YtdfambocenohgaaGreatDoor

namespace Go.Proofs.YtdfambocenohgaaGreatDoor
open Go.RowKit Go.Deep
set_option linter.unusedVariables false
set_option linter.unusedSimpArgs false
set_option maxRecDepth 100000 in
set_option maxHeartbeats 1000000 in
theorem string_any (w : World) (B b : Nat) (l : List UInt8) (op mo : Nat) (h : Prn w B b l op mo) (h0 : l ≠ []) :
    Calls Tryz.prog 26 #[.pointer (some ⟨b, 0, none⟩)] w fun e w' => e = .returned (.string ⟨l.toArray⟩) ∧ Below B w w' := by
  obtain ⟨hge, p, v, hp, hbk, hown⟩ := h
  have hl0 : l.length ≠ 0 := by simpa using h0
  obtain ⟨g, cap, cur, rfl, hbg, hg, hnc, hcm, hcs, htake⟩ : ∃ g cap cur, v = .slice (some ⟨g, 0, none⟩) l.length cap ∧ B ≤ g ∧ w.heap[g]? = some (.cells cur 5 (0, 0)) ∧ l.length ≤ cap ∧ cap ≤ maxLen ∧ cur.size = cap * 1 ∧ cur.toList.take (l.length * 1) = Lib.byteCells l := by
    rcases hown.2 with ⟨_, hz⟩ | ⟨g, cap, cur, hv, r⟩
    · exact absurd hz hl0
    · exact ⟨g, cap, cur, hv, r⟩
  have c1 : w.drew.cell? ⟨b, 1, none⟩ = some (.slice (some ⟨g, 0, none⟩) l.length cap) := by
    have : w.drew.heap[b]? = some (.cells #[p, .slice (some ⟨g, 0, none⟩) l.length cap, .int .i64 (op : Int), .int .i64 (mo : Int)] 63 (0, 0)) := hbk
    rw [Lib.cell_of_heap this]; rfl
  have hSD : (Builtin.unsafeSliceData_ #[44] 86 #[.slice (some ⟨g, 0, none⟩) l.length cap]).run Tryz.prog w.drew = .ok (.pointer (some ⟨g, 0, none⟩)) w.drew :=
    Lib.run_unsafeSliceData_row _ _ _ _ _ _ (by omega)
  have hUS : (Builtin.unsafeString_ #[86, 3] 9 #[.pointer (some ⟨g, 0, none⟩), .int .i64 l.length]).run Tryz.prog w.drew = .ok (.string ⟨l.toArray⟩) (w.drew.freeze ⟨g, 0, none⟩ l.length) := by
    refine Lib.run_unsafeString_row w.drew 86 3 9 5 (by kernel_rfl) (by kernel_rfl) g cur.size (by have hg' : w.drew.heap[g]? = some (.cells cur 5 (0, 0)) := hg; simp [World.shape?, hg']) l h0 (by omega) (by unfold maxLen at hcm; omega) ?_
    intro j x hx
    have := World.ownsRow.cells (show World.ownsRow w B 5 1 (.slice (some ⟨g, 0, none⟩) l.length cap) l.length (Lib.byteCells l) from hown) (g := g) rfl j (.int .u8 x.toNat) (by simp [Lib.byteCells, hx])
    exact this
  have mixed : Tryz.prog.follows Departure.mixedOrders = true := by kernel_rfl
  clear hown htake hcs hcm hbk
  go_enter Tryz.func26, Tryz.ntmps26
  go_wp2
  go_region_o
  all_goals (go_wp2; go_ret; exact ⟨rfl, Lib.below_freeze (Below.drew (Below.refl B w)) (p := ⟨g, 0, none⟩) hbg _⟩)
end Go.Proofs.YtdfambocenohgaaGreatDoor

