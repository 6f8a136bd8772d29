/- The printer: a record made; expressions of every kind. -/
import Derived.Test.YtdfambocenohgaaGreatDoorJAU
namespace Go.Proofs.YtdfambocenohgaaGreatDoor
open Go.RowKit Go.Deep
set_option linter.unusedVariables false
set_option linter.unusedSimpArgs false

def zp (ns : List ByteArray) (ps : List (List UInt8)) : List (List UInt8) := List.zipWith (fun n p => bs n ++ (58 :: 32 :: p)) ns ps
theorem zp_take {α : Type} (f : α → List UInt8) {ns : List ByteArray} {ts : List α} {i : Nat} {n : ByteArray} {t : α} (hn : ns[i]? = some n) (ht : ts[i]? = some t) : zp (ns.take (i + 1)) ((ts.take (i + 1)).map f) = zp (ns.take i) ((ts.take i).map f) ++ [bs n ++ (58 :: 32 :: f t)] := by
  have h1 := (List.getElem?_eq_some_iff.1 hn).1
  have h2 := (List.getElem?_eq_some_iff.1 ht).1
  unfold zp
  rw [List.take_add_one, List.take_add_one, hn, ht]
  simp only [Option.toList_some, List.map_append, List.map_cons, List.map_nil]
  rw [List.zipWith_append (by simp; omega)]
  rfl
theorem zp_len {α : Type} (f : α → List UInt8) (ns : List ByteArray) (ts : List α) (i : Nat) (h1 : i ≤ ns.length) (h2 : i ≤ ts.length) : (zp (ns.take i) ((ts.take i).map f)).length = i := by
  unfold zp; simp; omega
theorem zp_jn {α : Type} (f : α → List UInt8) {ns : List ByteArray} {ts : List α} {i : Nat} {n : ByteArray} {t : α} (hn : ns[i]? = some n) (ht : ts[i]? = some t) : jn (zp (ns.take (i + 1)) ((ts.take (i + 1)).map f)) = jn (zp (ns.take i) ((ts.take i).map f)) ++ (commaB i ++ (bs n ++ (58 :: 32 :: f t))) := by
  have h1 := (List.getElem?_eq_some_iff.1 hn).1
  have h2 := (List.getElem?_eq_some_iff.1 ht).1
  rw [zp_take f hn ht, jn_snoc, zp_len f ns ts i (by omega) (by omega)]
theorem zp_pre {α : Type} (f : α → List UInt8) (ns : List ByteArray) (ts : List α) (hl : ns.length = ts.length) (i : Nat) : (jn (zp (ns.take i) ((ts.take i).map f))).length ≤ (jn (zp ns (ts.map f))).length := by
  have hm : ∀ j, (jn (zp (ns.take j) ((ts.take j).map f))).length ≤ (jn (zp (ns.take (j + 1)) ((ts.take (j + 1)).map f))).length := fun j => by
    by_cases hj : j < ns.length
    · rw [zp_jn f (List.getElem?_eq_getElem hj) (List.getElem?_eq_getElem (show j < ts.length by omega)), List.length_append]; omega
    · rw [List.take_of_length_le (show ns.length ≤ j by omega), List.take_of_length_le (show ns.length ≤ j + 1 by omega), List.take_of_length_le (show ts.length ≤ j by omega), List.take_of_length_le (show ts.length ≤ j + 1 by omega)]; exact Nat.le_refl _
  have hmm : ∀ d j, (jn (zp (ns.take j) ((ts.take j).map f))).length ≤ (jn (zp (ns.take (j + d)) ((ts.take (j + d)).map f))).length := fun d => by
    induction d with
    | zero => intro j; exact Nat.le_refl _
    | succ d ih => intro j; exact Nat.le_trans (ih j) (hm (j + d))
  have := hmm ts.length i
  rwa [List.take_of_length_le (show ns.length ≤ i + ts.length by omega), List.take_of_length_le (show ts.length ≤ i + ts.length by omega)] at this

set_option maxRecDepth 100000 in
set_option maxHeartbeats 1000000 in
theorem expr_8 (k : Nat) (pr : ET k → List UInt8) (dp : ET k → Nat) (ok : ET k → Prop) (ih : PrSaid k pr dp ok) (w0 : World) (h : EH) (ts : List (ET k)) (hk : h.kind = 8) (dh : EHr w0 h) (hn : h.an = ts.length) (dl : LiesAt 8 h.aa (eAt k) ts) (hr : ∀ u ∈ ts, ERd k w0 u) (hok : ∀ u ∈ ts, ok u) (hR : rightE h = true) (B b : Nat) (l : List UInt8) (op mo : Nat) (w : World) (hE : EnvT w0) (h0 : w0.heap.size ≤ B) (hb : Below w0.heap.size w0 w) (hB : B ≤ w.heap.size) (hp : Prn w B b l op mo)
    (hl : l.length + (prH h (ts.map (eH k)) (ts.map pr)).length ≤ 900000000) (ho : op + dpH h (ts.map (eH k)) (ts.map dp) ≤ 900000000) (hm : mo ≤ 900000000) (hmo : op ≤ mo) :
    Calls Tryz.prog 79 #[.pointer (some ⟨b, 0, none⟩), .pointer (some ⟨h.b, h.o, none⟩)] w (PrP w B b (l ++ prH h (ts.map (eH k)) (ts.map pr)) op (max mo (op + dpH h (ts.map (eH k)) (ts.map dp)))) := by
  have hO := okE_of hR
  unfold okE at hO
  have dw := dh.below (Nat.le_refl _) hb
  have c0 := dw.c0
  simp only [hk] at hO
  simp at hO
  have hnn : h.an = h.nn := hO.2
  have hnl : h.nn = h.names.length := dh.nl
  have hf : fieldsB h.names = true := hO.1.2
  have hf1 : 1 ≤ h.names.length := by unfold fieldsB at hf; simp at hf; omega
  obtain ⟨nb, noff, ena, hc00⟩ := dh.nr 0 (h.names[0]'hf1) (List.getElem?_eq_getElem hf1)
  have hlen : h.names.length = ts.length := by omega
  have e1 : prH h (ts.map (eH k)) (ts.map pr) = bs h.name ++ (123 :: (jn (zp h.names (ts.map pr)) ++ [125])) := by unfold prH; simp [hk, zp]
  have e2 : dpH h (ts.map (eH k)) (ts.map dp) = 1 + mxL (ts.map dp) := by unfold dpH; simp [hk]
  rw [e1] at hl ⊢
  rw [e2] at ho ⊢
  simp only [List.length_append, List.length_cons, List.length_nil, bs_len] at hl
  have hanI : (h.an : Int) ≤ 1000000 := by have := dh.ab; omega
  have hnI : (h.nn : Int) ≤ 1000000 := by omega
  have hab := dh.ab
  have cx4 := dw.c4
  have ec : catL [h.name, ⟨#[123]⟩] = bs h.name ++ [123] := by simp [catL, bs]
  have K1 := hid (enter_new w B b l op mo hp (by omega) (by omega) [h.name, ⟨#[123]⟩] 2 rfl (by omega) hB (by rw [ec, List.length_append, bs_len]; simp; omega))
  simp only [ec, List.map_cons, List.map_nil] at K1
  obtain ⟨L, hL⟩ : ∃ L, L = l ++ (bs h.name ++ [123]) := ⟨_, rfl⟩
  have hLl : L.length = l.length + (h.name.size + 1) := by rw [hL]; simp [bs_len]
  rw [← hL] at K1
  obtain ⟨M1, hM1⟩ : ∃ M1, M1 = max mo (op + 1) := ⟨_, rfl⟩
  rw [← hM1] at K1
  have C5 := hid (fun (w1 : World) (h1 : Below B w w1) => (dh.below (Nat.le_refl _) (hb.trans (h1.mono h0))).c5)
  have C6 := hid (fun (w1 : World) (h1 : Below B w w1) => (dh.below (Nat.le_refl _) (hb.trans (h1.mono h0))).c6)
  rw [ena] at C5
  have CN := hid (fun (w1 : World) (h1 : Below B w w1) (i : Nat) (nm : ByteArray) (hi : h.names[i]? = some nm) => show w1.cell? ⟨nb, noff + i, none⟩ = some (.string nm) from by
    obtain ⟨b', o', e', hc'⟩ := (dh.below (Nat.le_refl _) (hb.trans (h1.mono h0))).nr i nm hi
    rw [ena] at e'
    cases e'
    exact hc')
  have KC := hid (fun (i : Nat) (t : ET k) (ht : ts[i]? = some t) (w1 : World) (h1 : Below B w w1) (mo1 : Nat) (hp1 : Prn w1 B b (L ++ jn (zp (h.names.take i) ((ts.take i).map pr))) (op + 1) mo1) => comma_any w1 B b _ (op + 1) mo1 hp1 i (by have := (List.getElem?_eq_some_iff.1 ht).1; omega) (Nat.le_trans hB h1.size) (by
    have := zp_pre pr h.names ts hlen i
    rw [List.length_append, hLl]; omega))
  have KW := hid (fun (i : Nat) (nm : ByteArray) (t : ET k) (hnm : h.names[i]? = some nm) (ht : ts[i]? = some t) (w1 : World) (h1 : Below B w w1) (mo1 : Nat) (hp1 : Prn w1 B b (L ++ jn (zp (h.names.take i) ((ts.take i).map pr)) ++ commaB i) (op + 1) mo1) => write_new w1 B b _ (op + 1) mo1 hp1 [nm, ⟨#[58, 32]⟩] 2 rfl (by omega) (Nat.le_trans hB h1.size) (by
    have h2 := zp_pre pr h.names ts hlen (i + 1)
    rw [zp_jn pr hnm ht] at h2
    simp only [List.length_append, List.length_cons, hLl, catL, List.flatMap_cons, List.flatMap_nil, List.length_nil, bs] at h2 ⊢
    omega))
  simp only [show ∀ nm : ByteArray, catL [nm, ⟨#[58, 32]⟩] = bs nm ++ [58, 32] from fun nm => by simp [catL, bs], List.map_cons, List.map_nil] at KW
  have K2 := hid (fun (i : Nat) (nm : ByteArray) (t : ET k) (hnm : h.names[i]? = some nm) (ht : ts[i]? = some t) (w1 : World) (h1 : Below B w w1) (hp1 : Prn w1 B b (L ++ jn (zp (h.names.take i) ((ts.take i).map pr)) ++ commaB i ++ (bs nm ++ [58, 32])) (op + 1) (max M1 (op + 1 + mxL ((ts.take i).map dp)))) => ih w0 t B b _ (op + 1) _ w1 (hr t (List.mem_of_getElem? ht)) (hok t (List.mem_of_getElem? ht)) hE h0 (hb.trans (h1.mono h0)) (Nat.le_trans hB h1.size) hp1 (by
    have h2 := zp_pre pr h.names ts hlen (i + 1)
    rw [zp_jn pr hnm ht] at h2
    simp only [List.length_append, List.length_cons, List.length_nil, hLl] at h2 ⊢
    omega) (by
    have h2 := mx_pre dp ts (i + 1)
    rw [mx_take dp ht] at h2
    omega) (by
    have h2 := mx_pre dp ts i
    omega) (by omega))
  have K3 := hid (fun (w2 : World) (h1 : Below B w w2) (hp2 : Prn w2 B b (L ++ jn (zp h.names (ts.map pr))) (op + 1) (max M1 (op + 1 + mxL (ts.map dp)))) => leave_any w2 B b _ op _ hp2 (by omega) ⟨#[125]⟩ (Nat.le_trans hB h1.size) (by rw [show (⟨#[125]⟩ : ByteArray).size = 1 from rfl, List.length_append, hLl]; omega))
  have HF : Hid (max M1 (op + 1 + mxL (ts.map dp)) = max mo (op + (1 + mxL (ts.map dp)))) := hid (by omega)
  have HLe : Hid (L ++ jn (zp h.names (ts.map pr)) ++ [125] = l ++ (bs h.name ++ (123 :: (jn (zp h.names (ts.map pr)) ++ [125])))) := hid (by rw [hL]; simp)
  have HM0 : Hid (max M1 (op + 1 + 0) = M1) := hid (by omega)
  have HNl := hid hnl
  have HNt := hid hlen
  have DL := hid dl
  have HAN := hid hnn
  have hanN : ∀ i : Nat, (i : Int) < (h.nn : Int) → (i : Int) < (h.an : Int) := fun i hi => by omega
  have HAN2 := hid hanN
  clear ih dh hn dl hr hok hR hE h0 hb hp hl ho hm dw hO e1 e2 hmo ec hL hLl hM1 hnl hlen hnn hanN hab hc00 hf hf1 ena
  go_enter Tryz.func79, Tryz.ntmps79
  go_wp2_with (go_at_call 106; (refine (Hid.out K1).mono ?_; rintro e w1 ⟨rfl, hp1, hk1⟩; have d5 := C5.out w1 hk1.1; have HP1 := hid hp1; have HK1 := hid hk1; clear hp1 hk1))
  go_loopg [97] h.nn (fun g x wr => ∃ i : Nat, i + g = h.nn ∧ x = .int .i64 (i : Int) ∧ Prn wr B b (L ++ jn (zp (h.names.take i) ((ts.take i).map pr))) (op + 1) (max M1 (op + 1 + mxL ((ts.take i).map dp))) ∧ Kpt B b w wr)
  case atStart => exact ⟨0, by omega, rfl, HP1.out.eq (by simp [jn, zp]) (by have := HM0.out; simpa [mxL] using this.symm), HK1.out⟩
  case round =>
    obtain ⟨i, hi, rfl, hp2, hk2⟩ := hrel
    cases gk with
    | zero =>
      have hin : i = h.nn := by omega
      subst hin
      rw [HNl.out, List.take_of_length_le (Nat.le_refl _), List.take_of_length_le (by rw [HNt.out]; exact Nat.le_refl _)] at hp2
      have K3' := hid (K3.out wr hk2.1 hp2)
      have HK2 := hid hk2
      clear hi hp2 hk2
      go_wp2_with (go_at_call 108; (refine (Hid.out K3').mono ?_; rintro e w3 ⟨rfl, hp3, hk3⟩))
      go_end0
      exact ⟨rfl, hp3.eq HLe.out HF.out, HK2.out.trans hk3⟩
    | succ g =>
      have hil : (i : Int) < (h.nn : Int) := by omega
      have hil2 := HAN2.out i hil
      have hi0 : (0 : Int) ≤ (i : Int) := by omega
      obtain ⟨nm, hnm⟩ : ∃ nm, h.names[i]? = some nm := ⟨h.names[i]'(by rw [← HNl.out]; omega), List.getElem?_eq_getElem _⟩
      obtain ⟨t, ht⟩ : ∃ t, ts[i]? = some t := ⟨ts[i]'(by rw [← HNt.out, ← HNl.out]; omega), List.getElem?_eq_getElem _⟩
      obtain ⟨ab, aoff, eaa, hat⟩ := DL.out i t ht
      simp only [eAt, Prod.mk.injEq] at hat
      have hcn := CN.out wr hk2.1 i nm hnm
      have C6' := C6
      rw [eaa] at C6'
      have KC' := hid (KC.out i t ht wr hk2.1 _ hp2)
      have KW' := hid (KW.out i nm t hnm ht)
      have K2' := hid (K2.out i nm t hnm ht)
      simp only [hat.1, hat.2] at K2'
      have HJ := hid (zp_jn pr hnm ht)
      have HM := hid (mx_take dp ht)
      have HK2 := hid hk2
      have Hi := hid hi
      clear hp2 hk2 hat ht hnm hi C6 eaa
      go_wp2_with (first
        | (go_at_call 107; (refine (Hid.out KC').mono ?_; rintro e w2 ⟨rfl, hp3, hk3⟩; have HK3 := hid (HK2.out.trans hk3); have K4 := hid (KW'.out w2 HK3.out.1 _ hp3); clear hp3 hk3))
        | (go_at_call 99; (refine (Hid.out K4).mono ?_; rintro e w3 ⟨rfl, hp4, hk4⟩; have HK4 := hid (HK3.out.trans hk4); have d6 := C6'.out w3 HK4.out.1; have K5 := hid (K2'.out w3 HK4.out.1 hp4); clear hp4 hk4))
        | (go_at_call 79; (refine (Hid.out K5).mono ?_; rintro e w4 ⟨rfl, hp5, hk5⟩)))
      go_roundg g
      case measure => omega
      case rel => exact ⟨i + 1, by have := Hi.out; omega, by go_num, hp5.eq (by rw [HJ.out]; simp) (by rw [HM.out]; omega), HK4.out.trans hk5⟩

def prE : (k : Nat) → ET k → List UInt8
  | 0, _ => []
  | k + 1, t => prH t.1 (t.2.map (eH k)) (t.2.map (prE k))
def dpE : (k : Nat) → ET k → Nat
  | 0, _ => 0
  | k + 1, t => dpH t.1 (t.2.map (eH k)) (t.2.map (dpE k))
def okAll (k : Nat) (t : ET k) : Prop := ∀ p ∈ ptE k t, rightP p = true
theorem kind_of {h : EH} (hO : okE h = true) : h.kind = 1 ∨ h.kind = 2 ∨ h.kind = 3 ∨ h.kind = 4 ∨ h.kind = 5 ∨ h.kind = 6 ∨ h.kind = 7 ∨ h.kind = 8 ∨ h.kind = 9 ∨ h.kind = 10 ∨ h.kind = 11 ∨ h.kind = 12 := by
  unfold okE at hO
  repeat' split at hO
  all_goals first | (simp at hO; done) | omega
theorem expr_all : ∀ k, PrSaid k (prE k) (dpE k) (okAll k)
  | 0 => fun w0 t => Empty.elim t
  | k + 1 => by
    have ih := expr_all k
    intro w0 t B b l op mo w hrd hok hE h0 hb hB hp hl ho hm hmo
    obtain ⟨h, ts⟩ := t
    obtain ⟨dh, hn, dl, hr⟩ := hrd
    simp only at dh hn dl hr
    have hR : rightE h = true := hok (.inr (.inr h)) (List.mem_cons_self ..)
    have hok' : ∀ u ∈ ts, okAll k u := fun u hu p hp => hok p (List.mem_cons_of_mem _ (List.mem_flatMap.2 ⟨u, hu, hp⟩))
    rcases kind_of (okE_of hR) with hk | hk | hk | hk | hk | hk | hk | hk | hk | hk | hk | hk
    · exact expr_1 k _ _ _ ih w0 h ts hk dh hn dl hr hok' hR B b l op mo w hE h0 hb hB hp hl ho hm hmo
    · exact expr_2 k _ _ _ ih w0 h ts hk dh hn dl hr hok' hR B b l op mo w hE h0 hb hB hp hl ho hm hmo
    · exact expr_3 k _ _ _ ih w0 h ts hk dh hn dl hr hok' hR B b l op mo w hE h0 hb hB hp hl ho hm hmo
    · exact expr_4 k _ _ _ ih w0 h ts hk dh hn dl hr hok' hR B b l op mo w hE h0 hb hB hp hl ho hm hmo
    · exact expr_5 k _ _ _ ih w0 h ts hk dh hn dl hr hok' hR B b l op mo w hE h0 hb hB hp hl ho hm hmo
    · exact expr_6 k _ _ _ ih w0 h ts hk dh hn dl hr hok' hR B b l op mo w hE h0 hb hB hp hl ho hm hmo
    · exact expr_7 k _ _ _ ih w0 h ts hk dh hn dl hr hok' hR B b l op mo w hE h0 hb hB hp hl ho hm hmo
    · exact expr_8 k _ _ _ ih w0 h ts hk dh hn dl hr hok' hR B b l op mo w hE h0 hb hB hp hl ho hm hmo
    · exact expr_9 k _ _ _ ih w0 h ts hk dh hn dl hr hok' hR B b l op mo w hE h0 hb hB hp hl ho hm hmo
    · exact expr_10 k _ _ _ ih w0 h ts hk dh hn dl hr hok' hR B b l op mo w hE h0 hb hB hp hl ho hm hmo
    · exact expr_11 k _ _ _ ih w0 h ts hk dh hn dl hr hok' hR B b l op mo w hE h0 hb hB hp hl ho hm hmo
    · exact expr_12 k _ _ _ ih w0 h ts hk dh hn dl hr hok' hR B b l op mo w hE h0 hb hB hp hl ho hm hmo
end Go.Proofs.YtdfambocenohgaaGreatDoor

namespace Go.Proofs.YtdfambocenohgaaGreatDoor
open Go.RowKit Go.Deep
set_option linter.unusedVariables false
set_option linter.unusedSimpArgs false

def lbB (s : ByteArray) : List UInt8 := if s.toList = [] then [] else bs s ++ [58, 32]
def jpB (word s : ByteArray) : List UInt8 := bs word ++ (if s.toList = [] then [] else 32 :: bs s)
set_option maxRecDepth 100000 in
theorem label_any (w : World) (B b : Nat) (l : List UInt8) (op mo : Nat) (h : Prn w B b l op mo) (s : ByteArray) (hB : B ≤ w.heap.size) (hl : l.length + (lbB s).length ≤ 900000000) :
    Calls Tryz.prog 136 #[.pointer (some ⟨b, 0, none⟩), .string s] w (PrP w B b (l ++ lbB s) op mo) := by
  unfold lbB at hl ⊢
  by_cases hs : s.toList = []
  · rw [if_pos hs, List.append_nil]
    have HP := hid h
    clear h hl
    go_enter Tryz.func136, Tryz.ntmps136
    go_wp2
    go_end0
    exact ⟨rfl, HP.out, Kpt.refl _ _ _⟩
  · rw [if_neg hs] at hl ⊢
    have ec : catL [s, ⟨#[58, 32]⟩] = bs s ++ [58, 32] := by simp [catL, bs]
    have K := hid (write_new w B b l op mo h [s, ⟨#[58, 32]⟩] 2 rfl (by omega) hB (by rw [ec]; omega))
    simp only [ec, List.map_cons, List.map_nil] at K
    have hsb : (s.toList == []) = false := by simpa using hs
    clear h hl ec
    go_enter Tryz.func136, Tryz.ntmps136
    go_wp2_with (go_at_call 99; (refine (Hid.out K).mono ?_; rintro e w1 ⟨rfl, hp1, hk1⟩))
    go_end0
    exact ⟨rfl, hp1, hk1⟩
set_option maxRecDepth 100000 in
theorem jump_any (w : World) (B b : Nat) (l : List UInt8) (op mo : Nat) (h : Prn w B b l op mo) (word s : ByteArray) (hB : B ≤ w.heap.size) (hl : l.length + (jpB word s).length ≤ 900000000) :
    Calls Tryz.prog 152 #[.pointer (some ⟨b, 0, none⟩), .string word, .string s] w (PrP w B b (l ++ jpB word s) op mo) := by
  unfold jpB at hl ⊢
  have ec : catL [word] = bs word := by simp [catL, bs]
  have hl0 : l.length + (bs word).length ≤ 900000000 := by rw [List.length_append] at hl; omega
  have K := hid (write_new w B b l op mo h [word] 1 rfl (by omega) hB (by rw [ec]; omega))
  simp only [ec, List.map_cons, List.map_nil] at K
  by_cases hs : s.toList = []
  · rw [if_pos hs, List.append_nil]
    clear h hl ec hl0
    go_enter Tryz.func152, Tryz.ntmps152
    go_wp2_with (go_at_call 99; (refine (Hid.out K).mono ?_; rintro e w1 ⟨rfl, hp1, hk1⟩))
    go_end0
    exact ⟨rfl, hp1, hk1⟩
  · rw [if_neg hs] at hl ⊢
    have ec2 : catL [⟨#[32]⟩, s] = 32 :: bs s := by simp [catL, bs]
    have K2 := hid (fun (w1 : World) (h1 : Below B w w1) (hp1 : Prn w1 B b (l ++ bs word) op mo) => write_new w1 B b _ op mo hp1 [⟨#[32]⟩, s] 2 rfl (by omega) (Nat.le_trans hB h1.size) (by rw [ec2]; simp only [List.length_append] at hl ⊢; omega))
    simp only [ec2, List.map_cons, List.map_nil] at K2
    have hsb : (s.toList == []) = false := by simpa using hs
    clear h hl ec ec2 hl0
    go_enter Tryz.func152, Tryz.ntmps152
    go_wp2_with (first
      | (go_at_call 99; (have hno := K2'; refine (Hid.out K2').mono ?_; rintro e w2 ⟨rfl, hp2, hk2⟩))
      | (go_at_call 99; (refine (Hid.out K).mono ?_; rintro e w1 ⟨rfl, hp1, hk1⟩; have K2' := hid (K2.out w1 hk1.1 hp1); have HK1 := hid hk1; clear hp1 hk1)))
    go_end0
    exact ⟨rfl, hp2.eq (by simp) rfl, HK1.out.trans hk2⟩
/- Whatever is printed of a statement of k levels. -/
def StSaid (k : Nat) (pr : ST k → List UInt8) (dp : ST k → Nat) (ok : ST k → Prop) : Prop := ∀ (w0 : World) (t : ST k) (B b : Nat) (l : List UInt8) (op mo : Nat) (w : World), SRds k w0 t → ok t → EnvT w0 → w0.heap.size ≤ B → Below w0.heap.size w0 w → B ≤ w.heap.size → Prn w B b l op mo → l.length + (pr t).length ≤ 900000000 → op + dp t ≤ 900000000 → mo ≤ 900000000 → op ≤ mo →
    Calls Tryz.prog 128 #[.pointer (some ⟨b, 0, none⟩), .pointer (some ⟨(sH k t).b, (sH k t).o, none⟩)] w (PrP w B b (l ++ pr t) op (max mo (op + dp t)))
def bkB (ps : List (List UInt8)) : List UInt8 := 32 :: 123 :: ((ps.flatMap fun p => 32 :: p) ++ [32, 125])
theorem fl_take {α : Type} (f : α → List UInt8) {ts : List α} {i : Nat} {t : α} (h : ts[i]? = some t) : ((ts.take (i + 1)).map f).flatMap (fun p => 32 :: p) = ((ts.take i).map f).flatMap (fun p => 32 :: p) ++ (32 :: f t) := by
  rw [List.take_add_one, h]; simp [List.flatMap_append]
theorem fl_pre {α : Type} (f : α → List UInt8) (ts : List α) (i : Nat) : (((ts.take i).map f).flatMap (fun p => 32 :: p)).length ≤ ((ts.map f).flatMap (fun p => 32 :: p)).length := by
  have : (ts.map f).flatMap (fun p => (32 : UInt8) :: p) = ((ts.take i).map f).flatMap (fun p => 32 :: p) ++ ((ts.drop i).map f).flatMap (fun p => 32 :: p) := by
    rw [← List.flatMap_append, ← List.map_append, List.take_append_drop]
  rw [this, List.length_append]; omega
set_option maxRecDepth 100000 in
set_option maxHeartbeats 1000000 in
theorem block_of (k : Nat) (pr : ST k → List UInt8) (dp : ST k → Nat) (ok : ST k → Prop) (ih : StSaid k pr dp ok) (w0 : World) (aa : Option Addr) (an ac : Nat) (ts : List (ST k)) (hn : an = ts.length) (han : an ≤ 1000000) (dl : LiesAt 8 aa (sAt k) ts) (hr : ∀ t ∈ ts, SRds k w0 t) (hok : ∀ t ∈ ts, ok t) (B b : Nat) (l : List UInt8) (op mo : Nat) (w : World) (hE : EnvT w0) (h0 : w0.heap.size ≤ B) (hb : Below w0.heap.size w0 w) (hB : B ≤ w.heap.size) (hp : Prn w B b l op mo)
    (hl : l.length + (bkB (ts.map pr)).length ≤ 900000000) (ho : op + (1 + mxL (ts.map dp)) ≤ 900000000) (hm : mo ≤ 900000000) :
    Calls Tryz.prog 121 #[.pointer (some ⟨b, 0, none⟩), .slice aa an ac] w (PrP w B b (l ++ bkB (ts.map pr)) op (max mo (op + (1 + mxL (ts.map dp))))) := by
  have hc1 : catL [⟨#[32, 123]⟩] = [32, 123] := by simp [catL]
  have hanI : (an : Int) ≤ 1000000 := by omega
  unfold bkB at hl ⊢
  simp only [List.length_cons, List.length_append, List.length_nil] at hl
  have K1 := hid (enter_new w B b l op mo hp (by omega) (by omega) [⟨#[32, 123]⟩] 1 rfl (by omega) hB (by rw [hc1]; simp; omega))
  simp only [hc1, List.map_cons, List.map_nil] at K1
  obtain ⟨L, hL⟩ : ∃ L, L = l ++ [32, 123] := ⟨_, rfl⟩
  have hLl : L.length = l.length + 2 := by rw [hL]; simp
  rw [← hL] at K1
  obtain ⟨M1, hM1⟩ : ∃ M1, M1 = max mo (op + 1) := ⟨_, rfl⟩
  rw [← hM1] at K1
  have hc2 : catL [⟨#[32]⟩] = [32] := by simp [catL]
  have KC := hid (fun (i : Nat) (t : ST k) (ht : ts[i]? = some t) (w1 : World) (h1 : Below B w w1) (mo1 : Nat) (hp1 : Prn w1 B b (L ++ ((ts.take i).map pr).flatMap (fun p => 32 :: p)) (op + 1) mo1) => write_new w1 B b _ (op + 1) mo1 hp1 [⟨#[32]⟩] 1 rfl (by omega) (Nat.le_trans hB h1.size) (by
    have := fl_pre pr ts i
    rw [hc2, List.length_append, hLl]; simp only [List.length_cons, List.length_nil]; omega))
  simp only [hc2, List.map_cons, List.map_nil] at KC
  have K2 := hid (fun (i : Nat) (t : ST k) (ht : ts[i]? = some t) (w1 : World) (h1 : Below B w w1) (hp1 : Prn w1 B b (L ++ ((ts.take i).map pr).flatMap (fun p => 32 :: p) ++ [32]) (op + 1) (max M1 (op + 1 + mxL ((ts.take i).map dp)))) => ih w0 t B b _ (op + 1) _ w1 (hr t (List.mem_of_getElem? ht)) (hok t (List.mem_of_getElem? ht)) hE h0 (hb.trans (h1.mono h0)) (Nat.le_trans hB h1.size) hp1 (by
    have h2 := fl_pre pr ts (i + 1)
    rw [fl_take pr ht] at h2
    simp only [List.length_append, List.length_cons, List.length_nil, hLl] at h2 ⊢
    omega) (by
    have h2 := mx_pre dp ts (i + 1)
    rw [mx_take dp ht] at h2
    omega) (by
    have h2 := mx_pre dp ts i
    omega) (by omega))
  have K3 := hid (fun (w2 : World) (h1 : Below B w w2) (hp2 : Prn w2 B b (L ++ (ts.map pr).flatMap (fun p => 32 :: p)) (op + 1) (max M1 (op + 1 + mxL (ts.map dp)))) => leave_any w2 B b _ op _ hp2 (by omega) ⟨#[32, 125]⟩ (Nat.le_trans hB h1.size) (by rw [show (⟨#[32, 125]⟩ : ByteArray).size = 2 from rfl, List.length_append, hLl]; omega))
  have HF : Hid (max M1 (op + 1 + mxL (ts.map dp)) = max mo (op + (1 + mxL (ts.map dp)))) := hid (by omega)
  have HLe : Hid (L ++ (ts.map pr).flatMap (fun p => 32 :: p) ++ [32, 125] = l ++ (32 :: 123 :: (((ts.map pr).flatMap fun p => 32 :: p) ++ [32, 125]))) := hid (by rw [hL]; simp)
  have HM0 : Hid (max M1 (op + 1 + 0) = M1) := hid (by omega)
  have HN := hid hn
  have DL := hid dl
  clear hr hok hE h0 hb hp hl ho hm hc1 hc2 ih hL hLl hM1 hn dl
  go_enter Tryz.func121, Tryz.ntmps121
  go_wp2_with (go_at_call 106; (refine (Hid.out K1).mono ?_; rintro e w1 ⟨rfl, hp1, hk1⟩; have HP1 := hid hp1; have HK1 := hid hk1; clear hp1 hk1))
  go_loopg [10] an (fun g x wr => ∃ i : Nat, i + g = an ∧ x = .int .i64 (i : Int) ∧ Prn wr B b (L ++ ((ts.take i).map pr).flatMap (fun p => 32 :: p)) (op + 1) (max M1 (op + 1 + mxL ((ts.take i).map dp))) ∧ Kpt B b w wr)
  case atStart => exact ⟨0, by omega, rfl, HP1.out.eq (by simp) (by have := HM0.out; simpa [mxL] using this.symm), HK1.out⟩
  case round =>
    obtain ⟨i, hi, rfl, hp2, hk2⟩ := hrel
    cases gk with
    | zero =>
      have hin : i = an := by omega
      subst hin
      rw [HN.out, List.take_of_length_le (Nat.le_refl _)] at hp2
      have K3' := hid (K3.out wr hk2.1 hp2)
      have HK2 := hid hk2
      clear hi hp2 hk2
      go_wp2_with (go_at_call 108; (refine (Hid.out K3').mono ?_; rintro e w3 ⟨rfl, hp3, hk3⟩))
      go_end0
      exact ⟨rfl, hp3.eq HLe.out HF.out, HK2.out.trans hk3⟩
    | succ g =>
      have hil : (i : Int) < (an : Int) := by omega
      have hi0 : (0 : Int) ≤ (i : Int) := by omega
      obtain ⟨t, ht⟩ : ∃ t, ts[i]? = some t := ⟨ts[i]'(by rw [← HN.out]; omega), List.getElem?_eq_getElem _⟩
      obtain ⟨ab, aoff, eaa, hat⟩ := DL.out i t ht
      subst eaa
      simp only [sAt, Prod.mk.injEq] at hat
      have KC' := hid (KC.out i t ht wr hk2.1 _ hp2)
      have K2' := hid (K2.out i t ht)
      simp only [hat.1, hat.2] at K2'
      have HJ := hid (fl_take pr ht)
      have HM := hid (mx_take dp ht)
      have HK2 := hid hk2
      have Hi := hid hi
      clear hp2 hk2 hat ht hi
      go_wp2_with (first
        | (go_at_call 99; (refine (Hid.out KC').mono ?_; rintro e w2 ⟨rfl, hp3, hk3⟩; have HK3 := hid (HK2.out.trans hk3); have K4 := hid (K2'.out w2 HK3.out.1 hp3); clear hp3 hk3))
        | (go_at_call 128; (refine (Hid.out K4).mono ?_; rintro e w3 ⟨rfl, hp4, hk4⟩)))
      go_roundg g
      case measure => omega
      case rel => exact ⟨i + 1, by have := Hi.out; omega, by go_num, hp4.eq (by rw [HJ.out]; simp) (by rw [HM.out]; omega), HK3.out.trans hk4⟩
end Go.Proofs.YtdfambocenohgaaGreatDoor

namespace Go.Proofs.YtdfambocenohgaaGreatDoor
open Go.RowKit Go.Deep
set_option linter.unusedVariables false
set_option linter.unusedSimpArgs false

def h1 {β γ : Type} (ps : List β) (f : β → γ) (z : γ) : γ := match ps with
  | p :: _ => f p
  | _ => z
def h2 {β γ : Type} (ps : List β) (f : β → β → γ) (z : γ) : γ := match ps with
  | p :: q :: _ => f p q
  | _ => z
def sLet : ByteArray := ⟨#[108, 101, 116, 32]⟩
def sEq : ByteArray := ⟨#[32, 61, 32]⟩
def sDel : ByteArray := ⟨#[100, 101, 108, 32]⟩
def sBreak : ByteArray := ⟨#[98, 114, 101, 97, 107]⟩
def sCont : ByteArray := ⟨#[99, 111, 110, 116, 105, 110, 117, 101]⟩
def sRet : ByteArray := ⟨#[114, 101, 116, 117, 114, 110]⟩
def sEmit : ByteArray := ⟨#[101, 109, 105, 116, 32]⟩
def sAfter : ByteArray := ⟨#[97, 102, 116, 101, 114, 32]⟩
def sDo : ByteArray := ⟨#[100, 111, 32]⟩
/- What is written of a statement without a block, but for its end. -/
def smB (h : SH) (ps : List (List UInt8)) : List UInt8 :=
  if h.kind = 1 then h1 ps (fun p => catL [sLet, h.name, sEq] ++ p) [] else
  if h.kind = 2 then h1 ps (fun p => catL [h.name, sEq] ++ p) [] else
  if h.kind = 3 then h2 ps (fun p q => bs h.name ++ (91 :: (p ++ [93])) ++ catL [sEq] ++ q) [] else
  if h.kind = 4 then h1 ps (fun p => catL [sDel] ++ (bs h.name ++ (91 :: (p ++ [93])))) [] else
  if h.kind = 8 then jpB sBreak h.name else
  if h.kind = 9 then jpB sCont h.name else
  if h.kind = 10 then catL [sRet] ++ h1 ps (fun p => 32 :: p) [] else
  if h.kind = 11 then h1 ps (fun p => catL [sEmit] ++ p) [] else
  if h.kind = 12 then h1 ps (fun p => catL [sAfter] ++ p ++ [32] ++ (bs h.name ++ (40 :: (jn ps.tail ++ [41])))) [] else h1 ps (fun p => catL [sDo] ++ p) []
def smD (h : SH) (ds : List Nat) : Nat :=
  if h.kind = 3 then h2 ds (fun d e => max (1 + d) e) 0 else
  if h.kind = 4 then h1 ds (fun d => 1 + d) 0 else
  if h.kind = 8 ∨ h.kind = 9 then 0 else
  if h.kind = 12 then h1 ds (fun d => max d (1 + mxL ds.tail)) 0 else h1 ds (fun d => d) 0
theorem okS_of {h : SH} (hR : rightS h = true) : okS h = true := by unfold rightS at hR; simp only [Bool.and_eq_true] at hR; exact hR.1

set_option maxRecDepth 100000 in
set_option maxHeartbeats 1000000 in
theorem simple_1 (k : Nat) (w0 : World) (h : SH) (ts : List (ET k)) (hk : h.kind = 1) (dh : SHr w0 h) (hn : h.an = ts.length) (dl : LiesAt 8 h.aa (eAt k) ts) (hr : ∀ u ∈ ts, ERd k w0 u) (hok : ∀ u ∈ ts, okAll k u) (hR : rightS h = true) (B b : Nat) (l : List UInt8) (op mo : Nat) (w : World) (hE : EnvT w0) (h0 : w0.heap.size ≤ B) (hb : Below w0.heap.size w0 w) (hB : B ≤ w.heap.size) (hp : Prn w B b l op mo)
    (hl : l.length + (smB h (ts.map (prE k))).length ≤ 900000000) (ho : op + smD h (ts.map (dpE k)) ≤ 900000000) (hm : mo ≤ 900000000) (hmo : op ≤ mo) :
    Calls Tryz.prog 137 #[.pointer (some ⟨b, 0, none⟩), .pointer (some ⟨h.b, h.o, none⟩)] w (PrP w B b (l ++ smB h (ts.map (prE k))) op (max mo (op + smD h (ts.map (dpE k))))) := by
  have hO := okS_of hR
  unfold okS at hO
  have dw := dh.below (Nat.le_refl _) hb
  have c0 := dw.c0
  have ih := expr_all k
  simp only [hk] at hO
  simp at hO
  obtain ⟨t, rfl⟩ := one_of hn (by omega)
  have e1 : smB h ([t].map (prE k)) = catL [sLet, h.name, sEq] ++ prE k t := by unfold smB; simp [hk, h1]
  have e2 : smD h ([t].map (dpE k)) = dpE k t := by unfold smD; simp [hk, h1]
  rw [e1] at hl ⊢
  rw [e2] at ho ⊢
  rw [List.length_append] at hl
  have hanI : h.an = 1 := by omega
  obtain ⟨ab, aoff, eaa, hat⟩ := dl 0 t rfl
  simp only [eAt, Prod.mk.injEq] at hat
  have c1 := dw.c1
  have K1 := hid (write_new w B b l op mo hp [sLet, h.name, sEq] 3 rfl (by omega) hB (by omega))
  simp only [List.map_cons, List.map_nil, sLet, sEq] at K1
  have K2 := hid (fun (w1 : World) (h1 : Below B w w1) (hp1 : Prn w1 B b (l ++ catL [sLet, h.name, sEq]) op mo) => ih w0 t B b _ op mo w1 (hr t (by simp)) (hok t (by simp)) hE h0 (hb.trans (h1.mono h0)) (Nat.le_trans hB h1.size) hp1 (by rw [List.length_append]; omega) ho hm hmo)
  simp only [hat.1, hat.2, sLet, sEq] at K2
  have C4 := hid (fun (w1 : World) (h1 : Below B w w1) => (dh.below (Nat.le_refl _) (hb.trans (h1.mono h0))).c4)
  rw [eaa, hanI] at C4
  clear ih dh hn dl hr hok hR hE h0 hb hp hl ho hm dw hO e1 e2 eaa hat hanI hmo
  go_enter Tryz.func137, Tryz.ntmps137
  go_wp2_with (first
    | (go_at_call 99; (refine (Hid.out K1).mono ?_; rintro e w1 ⟨rfl, hp1, hk1⟩; have d4 := C4.out w1 hk1.1; have K2' := hid (K2.out w1 hk1.1 hp1); have HK1 := hid hk1; clear hp1 hk1))
    | (go_at_call 79; (refine (Hid.out K2').mono ?_; rintro e w2 ⟨rfl, hp2, hk2⟩)))
  go_end0
  exact ⟨rfl, hp2.eq (by simp [sLet, sEq]) rfl, HK1.out.trans hk2⟩

set_option maxRecDepth 100000 in
set_option maxHeartbeats 1000000 in
theorem simple_2 (k : Nat) (w0 : World) (h : SH) (ts : List (ET k)) (hk : h.kind = 2) (dh : SHr w0 h) (hn : h.an = ts.length) (dl : LiesAt 8 h.aa (eAt k) ts) (hr : ∀ u ∈ ts, ERd k w0 u) (hok : ∀ u ∈ ts, okAll k u) (hR : rightS h = true) (B b : Nat) (l : List UInt8) (op mo : Nat) (w : World) (hE : EnvT w0) (h0 : w0.heap.size ≤ B) (hb : Below w0.heap.size w0 w) (hB : B ≤ w.heap.size) (hp : Prn w B b l op mo)
    (hl : l.length + (smB h (ts.map (prE k))).length ≤ 900000000) (ho : op + smD h (ts.map (dpE k)) ≤ 900000000) (hm : mo ≤ 900000000) (hmo : op ≤ mo) :
    Calls Tryz.prog 137 #[.pointer (some ⟨b, 0, none⟩), .pointer (some ⟨h.b, h.o, none⟩)] w (PrP w B b (l ++ smB h (ts.map (prE k))) op (max mo (op + smD h (ts.map (dpE k))))) := by
  have hO := okS_of hR
  unfold okS at hO
  have dw := dh.below (Nat.le_refl _) hb
  have c0 := dw.c0
  have ih := expr_all k
  simp only [hk] at hO
  simp at hO
  obtain ⟨t, rfl⟩ := one_of hn (by omega)
  have e1 : smB h ([t].map (prE k)) = catL [h.name, sEq] ++ prE k t := by unfold smB; simp [hk, h1]
  have e2 : smD h ([t].map (dpE k)) = dpE k t := by unfold smD; simp [hk, h1]
  rw [e1] at hl ⊢
  rw [e2] at ho ⊢
  rw [List.length_append] at hl
  have hanI : h.an = 1 := by omega
  obtain ⟨ab, aoff, eaa, hat⟩ := dl 0 t rfl
  simp only [eAt, Prod.mk.injEq] at hat
  have c1 := dw.c1
  have K1 := hid (write_new w B b l op mo hp [h.name, sEq] 2 rfl (by omega) hB (by omega))
  simp only [List.map_cons, List.map_nil, sEq] at K1
  have K2 := hid (fun (w1 : World) (h1 : Below B w w1) (hp1 : Prn w1 B b (l ++ catL [h.name, sEq]) op mo) => ih w0 t B b _ op mo w1 (hr t (by simp)) (hok t (by simp)) hE h0 (hb.trans (h1.mono h0)) (Nat.le_trans hB h1.size) hp1 (by rw [List.length_append]; omega) ho hm hmo)
  simp only [hat.1, hat.2, sEq] at K2
  have C4 := hid (fun (w1 : World) (h1 : Below B w w1) => (dh.below (Nat.le_refl _) (hb.trans (h1.mono h0))).c4)
  rw [eaa, hanI] at C4
  clear ih dh hn dl hr hok hR hE h0 hb hp hl ho hm dw hO e1 e2 eaa hat hanI hmo
  go_enter Tryz.func137, Tryz.ntmps137
  go_wp2_with (first
    | (go_at_call 99; (refine (Hid.out K1).mono ?_; rintro e w1 ⟨rfl, hp1, hk1⟩; have d4 := C4.out w1 hk1.1; have K2' := hid (K2.out w1 hk1.1 hp1); have HK1 := hid hk1; clear hp1 hk1))
    | (go_at_call 79; (refine (Hid.out K2').mono ?_; rintro e w2 ⟨rfl, hp2, hk2⟩)))
  go_end0
  exact ⟨rfl, hp2.eq (by simp [sEq]) rfl, HK1.out.trans hk2⟩

set_option maxRecDepth 100000 in
set_option maxHeartbeats 1000000 in
theorem simple_11 (k : Nat) (w0 : World) (h : SH) (ts : List (ET k)) (hk : h.kind = 11) (dh : SHr w0 h) (hn : h.an = ts.length) (dl : LiesAt 8 h.aa (eAt k) ts) (hr : ∀ u ∈ ts, ERd k w0 u) (hok : ∀ u ∈ ts, okAll k u) (hR : rightS h = true) (B b : Nat) (l : List UInt8) (op mo : Nat) (w : World) (hE : EnvT w0) (h0 : w0.heap.size ≤ B) (hb : Below w0.heap.size w0 w) (hB : B ≤ w.heap.size) (hp : Prn w B b l op mo)
    (hl : l.length + (smB h (ts.map (prE k))).length ≤ 900000000) (ho : op + smD h (ts.map (dpE k)) ≤ 900000000) (hm : mo ≤ 900000000) (hmo : op ≤ mo) :
    Calls Tryz.prog 137 #[.pointer (some ⟨b, 0, none⟩), .pointer (some ⟨h.b, h.o, none⟩)] w (PrP w B b (l ++ smB h (ts.map (prE k))) op (max mo (op + smD h (ts.map (dpE k))))) := by
  have hO := okS_of hR
  unfold okS at hO
  have dw := dh.below (Nat.le_refl _) hb
  have c0 := dw.c0
  have ih := expr_all k
  simp only [hk] at hO
  simp at hO
  obtain ⟨t, rfl⟩ := one_of hn (by omega)
  have e1 : smB h ([t].map (prE k)) = catL [sEmit] ++ prE k t := by unfold smB; simp [hk, h1]
  have e2 : smD h ([t].map (dpE k)) = dpE k t := by unfold smD; simp [hk, h1]
  rw [e1] at hl ⊢
  rw [e2] at ho ⊢
  rw [List.length_append] at hl
  have hanI : h.an = 1 := by omega
  obtain ⟨ab, aoff, eaa, hat⟩ := dl 0 t rfl
  simp only [eAt, Prod.mk.injEq] at hat
  have c1 := dw.c1
  have K1 := hid (write_new w B b l op mo hp [sEmit] 1 rfl (by omega) hB (by omega))
  simp only [List.map_cons, List.map_nil, sEmit] at K1
  have K2 := hid (fun (w1 : World) (h1 : Below B w w1) (hp1 : Prn w1 B b (l ++ catL [sEmit]) op mo) => ih w0 t B b _ op mo w1 (hr t (by simp)) (hok t (by simp)) hE h0 (hb.trans (h1.mono h0)) (Nat.le_trans hB h1.size) hp1 (by rw [List.length_append]; omega) ho hm hmo)
  simp only [hat.1, hat.2, sEmit] at K2
  have C4 := hid (fun (w1 : World) (h1 : Below B w w1) => (dh.below (Nat.le_refl _) (hb.trans (h1.mono h0))).c4)
  rw [eaa, hanI] at C4
  clear ih dh hn dl hr hok hR hE h0 hb hp hl ho hm dw hO e1 e2 eaa hat hanI hmo
  go_enter Tryz.func137, Tryz.ntmps137
  go_wp2_with (first
    | (go_at_call 99; (refine (Hid.out K1).mono ?_; rintro e w1 ⟨rfl, hp1, hk1⟩; have d4 := C4.out w1 hk1.1; have K2' := hid (K2.out w1 hk1.1 hp1); have HK1 := hid hk1; clear hp1 hk1))
    | (go_at_call 79; (refine (Hid.out K2').mono ?_; rintro e w2 ⟨rfl, hp2, hk2⟩)))
  go_end0
  exact ⟨rfl, hp2.eq (by simp [sEmit]) rfl, HK1.out.trans hk2⟩

set_option maxRecDepth 100000 in
set_option maxHeartbeats 1000000 in
theorem simple_13 (k : Nat) (w0 : World) (h : SH) (ts : List (ET k)) (hk : h.kind = 13) (dh : SHr w0 h) (hn : h.an = ts.length) (dl : LiesAt 8 h.aa (eAt k) ts) (hr : ∀ u ∈ ts, ERd k w0 u) (hok : ∀ u ∈ ts, okAll k u) (hR : rightS h = true) (B b : Nat) (l : List UInt8) (op mo : Nat) (w : World) (hE : EnvT w0) (h0 : w0.heap.size ≤ B) (hb : Below w0.heap.size w0 w) (hB : B ≤ w.heap.size) (hp : Prn w B b l op mo)
    (hl : l.length + (smB h (ts.map (prE k))).length ≤ 900000000) (ho : op + smD h (ts.map (dpE k)) ≤ 900000000) (hm : mo ≤ 900000000) (hmo : op ≤ mo) :
    Calls Tryz.prog 137 #[.pointer (some ⟨b, 0, none⟩), .pointer (some ⟨h.b, h.o, none⟩)] w (PrP w B b (l ++ smB h (ts.map (prE k))) op (max mo (op + smD h (ts.map (dpE k))))) := by
  have hO := okS_of hR
  unfold okS at hO
  have dw := dh.below (Nat.le_refl _) hb
  have c0 := dw.c0
  have ih := expr_all k
  simp only [hk] at hO
  simp at hO
  obtain ⟨t, rfl⟩ := one_of hn (by omega)
  have e1 : smB h ([t].map (prE k)) = catL [sDo] ++ prE k t := by unfold smB; simp [hk, h1]
  have e2 : smD h ([t].map (dpE k)) = dpE k t := by unfold smD; simp [hk, h1]
  rw [e1] at hl ⊢
  rw [e2] at ho ⊢
  rw [List.length_append] at hl
  have hanI : h.an = 1 := by omega
  obtain ⟨ab, aoff, eaa, hat⟩ := dl 0 t rfl
  simp only [eAt, Prod.mk.injEq] at hat
  have c1 := dw.c1
  have K1 := hid (write_new w B b l op mo hp [sDo] 1 rfl (by omega) hB (by omega))
  simp only [List.map_cons, List.map_nil, sDo] at K1
  have K2 := hid (fun (w1 : World) (h1 : Below B w w1) (hp1 : Prn w1 B b (l ++ catL [sDo]) op mo) => ih w0 t B b _ op mo w1 (hr t (by simp)) (hok t (by simp)) hE h0 (hb.trans (h1.mono h0)) (Nat.le_trans hB h1.size) hp1 (by rw [List.length_append]; omega) ho hm hmo)
  simp only [hat.1, hat.2, sDo] at K2
  have C4 := hid (fun (w1 : World) (h1 : Below B w w1) => (dh.below (Nat.le_refl _) (hb.trans (h1.mono h0))).c4)
  rw [eaa, hanI] at C4
  clear ih dh hn dl hr hok hR hE h0 hb hp hl ho hm dw hO e1 e2 eaa hat hanI hmo
  go_enter Tryz.func137, Tryz.ntmps137
  go_wp2_with (first
    | (go_at_call 99; (refine (Hid.out K1).mono ?_; rintro e w1 ⟨rfl, hp1, hk1⟩; have d4 := C4.out w1 hk1.1; have K2' := hid (K2.out w1 hk1.1 hp1); have HK1 := hid hk1; clear hp1 hk1))
    | (go_at_call 79; (refine (Hid.out K2').mono ?_; rintro e w2 ⟨rfl, hp2, hk2⟩)))
  go_end0
  exact ⟨rfl, hp2.eq (by simp [sDo]) rfl, HK1.out.trans hk2⟩

set_option maxRecDepth 100000 in
set_option maxHeartbeats 1000000 in
theorem simple_8 (k : Nat) (w0 : World) (h : SH) (ts : List (ET k)) (hk : h.kind = 8) (dh : SHr w0 h) (hn : h.an = ts.length) (dl : LiesAt 8 h.aa (eAt k) ts) (hr : ∀ u ∈ ts, ERd k w0 u) (hok : ∀ u ∈ ts, okAll k u) (hR : rightS h = true) (B b : Nat) (l : List UInt8) (op mo : Nat) (w : World) (hE : EnvT w0) (h0 : w0.heap.size ≤ B) (hb : Below w0.heap.size w0 w) (hB : B ≤ w.heap.size) (hp : Prn w B b l op mo)
    (hl : l.length + (smB h (ts.map (prE k))).length ≤ 900000000) (ho : op + smD h (ts.map (dpE k)) ≤ 900000000) (hm : mo ≤ 900000000) (hmo : op ≤ mo) :
    Calls Tryz.prog 137 #[.pointer (some ⟨b, 0, none⟩), .pointer (some ⟨h.b, h.o, none⟩)] w (PrP w B b (l ++ smB h (ts.map (prE k))) op (max mo (op + smD h (ts.map (dpE k))))) := by
  have hO := okS_of hR
  unfold okS at hO
  have dw := dh.below (Nat.le_refl _) hb
  have c0 := dw.c0
  have ih := expr_all k
  have e1 : smB h (ts.map (prE k)) = jpB sBreak h.name := by unfold smB; simp [hk]
  have e2 : smD h (ts.map (dpE k)) = 0 := by unfold smD; simp [hk]
  rw [e1] at hl ⊢
  rw [e2] at ho ⊢
  have c1 := dw.c1
  have K1 := hid (jump_any w B b l op mo hp sBreak h.name hB hl)
  simp only [sBreak] at K1
  have HM := hid hmo
  clear ih dh hn dl hr hok hR hE h0 hb hp hl ho hm dw hO e1 e2 hmo
  go_enter Tryz.func137, Tryz.ntmps137
  go_wp2_with (go_at_call 152; (refine (Hid.out K1).mono ?_; rintro e w1 ⟨rfl, hp1, hk1⟩))
  go_end0
  exact ⟨rfl, hp1.eq rfl (by have := HM.out; omega), hk1⟩

set_option maxRecDepth 100000 in
set_option maxHeartbeats 1000000 in
theorem simple_9 (k : Nat) (w0 : World) (h : SH) (ts : List (ET k)) (hk : h.kind = 9) (dh : SHr w0 h) (hn : h.an = ts.length) (dl : LiesAt 8 h.aa (eAt k) ts) (hr : ∀ u ∈ ts, ERd k w0 u) (hok : ∀ u ∈ ts, okAll k u) (hR : rightS h = true) (B b : Nat) (l : List UInt8) (op mo : Nat) (w : World) (hE : EnvT w0) (h0 : w0.heap.size ≤ B) (hb : Below w0.heap.size w0 w) (hB : B ≤ w.heap.size) (hp : Prn w B b l op mo)
    (hl : l.length + (smB h (ts.map (prE k))).length ≤ 900000000) (ho : op + smD h (ts.map (dpE k)) ≤ 900000000) (hm : mo ≤ 900000000) (hmo : op ≤ mo) :
    Calls Tryz.prog 137 #[.pointer (some ⟨b, 0, none⟩), .pointer (some ⟨h.b, h.o, none⟩)] w (PrP w B b (l ++ smB h (ts.map (prE k))) op (max mo (op + smD h (ts.map (dpE k))))) := by
  have hO := okS_of hR
  unfold okS at hO
  have dw := dh.below (Nat.le_refl _) hb
  have c0 := dw.c0
  have ih := expr_all k
  have e1 : smB h (ts.map (prE k)) = jpB sCont h.name := by unfold smB; simp [hk]
  have e2 : smD h (ts.map (dpE k)) = 0 := by unfold smD; simp [hk]
  rw [e1] at hl ⊢
  rw [e2] at ho ⊢
  have c1 := dw.c1
  have K1 := hid (jump_any w B b l op mo hp sCont h.name hB hl)
  simp only [sCont] at K1
  have HM := hid hmo
  clear ih dh hn dl hr hok hR hE h0 hb hp hl ho hm dw hO e1 e2 hmo
  go_enter Tryz.func137, Tryz.ntmps137
  go_wp2_with (go_at_call 152; (refine (Hid.out K1).mono ?_; rintro e w1 ⟨rfl, hp1, hk1⟩))
  go_end0
  exact ⟨rfl, hp1.eq rfl (by have := HM.out; omega), hk1⟩

set_option maxRecDepth 100000 in
set_option maxHeartbeats 1000000 in
theorem simple_10 (k : Nat) (w0 : World) (h : SH) (ts : List (ET k)) (hk : h.kind = 10) (dh : SHr w0 h) (hn : h.an = ts.length) (dl : LiesAt 8 h.aa (eAt k) ts) (hr : ∀ u ∈ ts, ERd k w0 u) (hok : ∀ u ∈ ts, okAll k u) (hR : rightS h = true) (B b : Nat) (l : List UInt8) (op mo : Nat) (w : World) (hE : EnvT w0) (h0 : w0.heap.size ≤ B) (hb : Below w0.heap.size w0 w) (hB : B ≤ w.heap.size) (hp : Prn w B b l op mo)
    (hl : l.length + (smB h (ts.map (prE k))).length ≤ 900000000) (ho : op + smD h (ts.map (dpE k)) ≤ 900000000) (hm : mo ≤ 900000000) (hmo : op ≤ mo) :
    Calls Tryz.prog 137 #[.pointer (some ⟨b, 0, none⟩), .pointer (some ⟨h.b, h.o, none⟩)] w (PrP w B b (l ++ smB h (ts.map (prE k))) op (max mo (op + smD h (ts.map (dpE k))))) := by
  have hO := okS_of hR
  unfold okS at hO
  have dw := dh.below (Nat.le_refl _) hb
  have c0 := dw.c0
  have ih := expr_all k
  simp only [hk] at hO
  simp at hO
  have c4 := dw.c4
  cases ts with
  | nil =>
    have hanI : h.an = 0 := hn
    have e1 : smB h (([] : List (ET k)).map (prE k)) = catL [sRet] := by unfold smB; simp [hk, h1]
    have e2 : smD h (([] : List (ET k)).map (dpE k)) = 0 := by unfold smD; simp [hk, h1]
    rw [e1] at hl ⊢
    rw [e2] at ho ⊢
    have K1 := hid (write_new w B b l op mo hp [sRet] 1 rfl (by omega) hB (by omega))
    simp only [List.map_cons, List.map_nil, sRet] at K1
    have C4 := hid (fun (w1 : World) (h1 : Below B w w1) => (dh.below (Nat.le_refl _) (hb.trans (h1.mono h0))).c4)
    rw [hanI] at C4
    have HM := hid hmo
    clear ih dh hn dl hr hok hR hE h0 hb hp hl ho hm dw hO e1 e2 hmo hanI c4
    go_enter Tryz.func137, Tryz.ntmps137
    go_wp2_with (go_at_call 99; (refine (Hid.out K1).mono ?_; rintro e w1 ⟨rfl, hp1, hk1⟩; have d4 := C4.out w1 hk1.1; have HP1 := hid hp1; have HK1 := hid hk1; clear hp1 hk1))
    go_end0
    exact ⟨rfl, HP1.out.eq (by simp [sRet]) (by have := HM.out; omega), HK1.out⟩
  | cons t r =>
    have hr0 : r = [] := by
      have : (t :: r).length ≤ 1 := by omega
      cases r with
      | nil => rfl
      | cons _ _ => simp at this
    subst hr0
    have hanI : h.an = 1 := hn
    have e1 : smB h ([t].map (prE k)) = catL [sRet] ++ (32 :: prE k t) := by unfold smB; simp [hk, h1]
    have e2 : smD h ([t].map (dpE k)) = dpE k t := by unfold smD; simp [hk, h1]
    rw [e1] at hl ⊢
    rw [e2] at ho ⊢
    rw [List.length_append, List.length_cons] at hl
    obtain ⟨ab, aoff, eaa, hat⟩ := dl 0 t rfl
    simp only [eAt, Prod.mk.injEq] at hat
    have K1 := hid (write_new w B b l op mo hp [sRet] 1 rfl (by omega) hB (by omega))
    simp only [List.map_cons, List.map_nil, sRet] at K1
    have ec : catL [⟨#[32]⟩] = [32] := by simp [catL]
    have K2 := hid (fun (w1 : World) (h1 : Below B w w1) (hp1 : Prn w1 B b (l ++ catL [sRet]) op mo) => write_new w1 B b _ op mo hp1 [⟨#[32]⟩] 1 rfl (by omega) (Nat.le_trans hB h1.size) (by rw [ec, List.length_append]; simp only [List.length_cons, List.length_nil]; omega))
    simp only [ec, List.map_cons, List.map_nil, sRet] at K2
    have K3 := hid (fun (w1 : World) (h1 : Below B w w1) (hp1 : Prn w1 B b (l ++ catL [sRet] ++ [32]) op mo) => ih w0 t B b _ op mo w1 (hr t (by simp)) (hok t (by simp)) hE h0 (hb.trans (h1.mono h0)) (Nat.le_trans hB h1.size) hp1 (by rw [List.length_append, List.length_append]; simp only [List.length_cons, List.length_nil]; omega) ho hm hmo)
    simp only [hat.1, hat.2, sRet] at K3
    have C4 := hid (fun (w1 : World) (h1 : Below B w w1) => (dh.below (Nat.le_refl _) (hb.trans (h1.mono h0))).c4)
    rw [eaa, hanI] at C4
    clear ih dh hn dl hr hok hR hE h0 hb hp hl ho hm dw hO e1 e2 hmo hanI c4 eaa hat ec
    go_enter Tryz.func137, Tryz.ntmps137
    go_wp2_with (first
      | (go_at_call 79; (refine (Hid.out K3').mono ?_; rintro e w3 ⟨rfl, hp3, hk3⟩))
      | (go_at_call 99; (have hno := K2'; refine (Hid.out K2').mono ?_; rintro e w2 ⟨rfl, hp2, hk2⟩; have HK2 := hid (HK1.out.trans hk2); have d5 := C4.out w2 HK2.out.1; have K3' := hid (K3.out w2 HK2.out.1 hp2); clear hp2 hk2))
      | (go_at_call 99; (refine (Hid.out K1).mono ?_; rintro e w1 ⟨rfl, hp1, hk1⟩; have d4 := C4.out w1 hk1.1; have K2' := hid (K2.out w1 hk1.1 hp1); have HK1 := hid hk1; clear hp1 hk1)))
    go_end0
    exact ⟨rfl, hp3.eq (by simp [sRet]) rfl, HK2.out.trans hk3⟩
end Go.Proofs.YtdfambocenohgaaGreatDoor

namespace Go.Proofs.YtdfambocenohgaaGreatDoor
open Go.RowKit Go.Deep
set_option linter.unusedVariables false
set_option linter.unusedSimpArgs false

set_option maxRecDepth 100000 in
set_option maxHeartbeats 1000000 in
theorem simple_4 (k : Nat) (w0 : World) (h : SH) (ts : List (ET k)) (hk : h.kind = 4) (dh : SHr w0 h) (hn : h.an = ts.length) (dl : LiesAt 8 h.aa (eAt k) ts) (hr : ∀ u ∈ ts, ERd k w0 u) (hok : ∀ u ∈ ts, okAll k u) (hR : rightS h = true) (B b : Nat) (l : List UInt8) (op mo : Nat) (w : World) (hE : EnvT w0) (h0 : w0.heap.size ≤ B) (hb : Below w0.heap.size w0 w) (hB : B ≤ w.heap.size) (hp : Prn w B b l op mo)
    (hl : l.length + (smB h (ts.map (prE k))).length ≤ 900000000) (ho : op + smD h (ts.map (dpE k)) ≤ 900000000) (hm : mo ≤ 900000000) (hmo : op ≤ mo) :
    Calls Tryz.prog 137 #[.pointer (some ⟨b, 0, none⟩), .pointer (some ⟨h.b, h.o, none⟩)] w (PrP w B b (l ++ smB h (ts.map (prE k))) op (max mo (op + smD h (ts.map (dpE k))))) := by
  have hO := okS_of hR
  unfold okS at hO
  have dw := dh.below (Nat.le_refl _) hb
  have c0 := dw.c0
  have ih := expr_all k
  simp only [hk] at hO
  simp at hO
  obtain ⟨t, rfl⟩ := one_of hn (by omega)
  have e1 : smB h ([t].map (prE k)) = catL [sDel] ++ (bs h.name ++ (91 :: (prE k t ++ [93]))) := by unfold smB; simp [hk, h1]
  have e2 : smD h ([t].map (dpE k)) = 1 + dpE k t := by unfold smD; simp [hk, h1]
  rw [e1] at hl ⊢
  rw [e2] at ho ⊢
  simp only [List.length_append, List.length_cons, List.length_nil, bs_len] at hl
  have hanI : h.an = 1 := by omega
  obtain ⟨ab, aoff, eaa, hat⟩ := dl 0 t rfl
  simp only [eAt, Prod.mk.injEq] at hat
  have K0 := hid (write_new w B b l op mo hp [sDel] 1 rfl (by omega) hB (by omega))
  simp only [List.map_cons, List.map_nil, sDel] at K0
  have K1 := hid (fun (w1 : World) (h1 : Below B w w1) (hp1 : Prn w1 B b (l ++ catL [sDel]) op mo) => (entry_of k (prE k) (dpE k) (okAll k) ih w0 t h.name B b _ op mo w1.drew (hr t (by simp)) (hok t (by simp)) hE h0 (hb.trans (h1.mono h0)).drew (Nat.le_trans hB h1.size) hp1.drew (by rw [List.length_append]; omega) (by omega) hm).mono (fun e w' h' => PrP.of (Nat.le_trans hB h1.size) ((Below.refl _ w1).drew) h'))
  simp only [hat.1, hat.2, sDel] at K1
  have C1 := hid (fun (w1 : World) (h1 : Below B w w1) => (dh.below (Nat.le_refl _) (hb.trans (h1.mono h0))).c1)
  have C4 := hid (fun (w1 : World) (h1 : Below B w w1) => (dh.below (Nat.le_refl _) (hb.trans (h1.mono h0))).c4)
  rw [eaa, hanI] at C4
  clear ih dh hn dl hr hok hR hE h0 hb hp hl ho hm dw hO e1 e2 eaa hat hanI hmo
  go_enter Tryz.func137, Tryz.ntmps137
  go_wp2_with (go_at_call 99; (refine (Hid.out K0).mono ?_; rintro e w1 ⟨rfl, hp1, hk1⟩; have c1 := C1.out w1 hk1.1; have c4 := C4.out w1 hk1.1; have K1' := hid (K1.out w1 hk1.1 hp1); have HK1 := hid hk1; clear hp1 hk1))
  go_region_held3 (fun w2 => w2.cell? ⟨h.b, h.o + 1, none⟩ = some (.string h.name) ∧ w2.cell? ⟨h.b, h.o + 4, none⟩ = some (.slice (some ⟨ab, aoff, none⟩) 1 h.ac)) (first | exact ⟨C1.out _ (HK1.out.trans hk2).1, C4.out _ (HK1.out.trans hk2).1⟩ | go_keep) (first | (go_at_call 109; (refine (Hid.out K1').mono ?_; rintro e w2 ⟨rfl, hp2, hk2⟩)))
  go_wp2
  go_end0
  exact ⟨rfl, hp2.eq (by simp [sDel]) rfl, HK1.out.trans hk2⟩

set_option maxRecDepth 100000 in
set_option maxHeartbeats 1000000 in
theorem simple_3 (k : Nat) (w0 : World) (h : SH) (ts : List (ET k)) (hk : h.kind = 3) (dh : SHr w0 h) (hn : h.an = ts.length) (dl : LiesAt 8 h.aa (eAt k) ts) (hr : ∀ u ∈ ts, ERd k w0 u) (hok : ∀ u ∈ ts, okAll k u) (hR : rightS h = true) (B b : Nat) (l : List UInt8) (op mo : Nat) (w : World) (hE : EnvT w0) (h0 : w0.heap.size ≤ B) (hb : Below w0.heap.size w0 w) (hB : B ≤ w.heap.size) (hp : Prn w B b l op mo)
    (hl : l.length + (smB h (ts.map (prE k))).length ≤ 900000000) (ho : op + smD h (ts.map (dpE k)) ≤ 900000000) (hm : mo ≤ 900000000) (hmo : op ≤ mo) :
    Calls Tryz.prog 137 #[.pointer (some ⟨b, 0, none⟩), .pointer (some ⟨h.b, h.o, none⟩)] w (PrP w B b (l ++ smB h (ts.map (prE k))) op (max mo (op + smD h (ts.map (dpE k))))) := by
  have hO := okS_of hR
  unfold okS at hO
  have dw := dh.below (Nat.le_refl _) hb
  have c0 := dw.c0
  have ih := expr_all k
  simp only [hk] at hO
  simp at hO
  obtain ⟨t, u, rfl⟩ := two_of' hn (by omega)
  have e1 : smB h ([t, u].map (prE k)) = bs h.name ++ (91 :: (prE k t ++ [93])) ++ catL [sEq] ++ prE k u := by unfold smB; simp [hk, h2]
  have e2 : smD h ([t, u].map (dpE k)) = max (1 + dpE k t) (dpE k u) := by unfold smD; simp [hk, h2]
  rw [e1] at hl ⊢
  rw [e2] at ho ⊢
  simp only [List.length_append, List.length_cons, List.length_nil, bs_len] at hl
  have hanI : h.an = 2 := by omega
  obtain ⟨ab, aoff, eaa, hat⟩ := dl 0 t rfl
  simp only [eAt, Prod.mk.injEq] at hat
  obtain ⟨ab', aoff', eaa', hau⟩ := dl 1 u rfl
  simp only [eAt, Prod.mk.injEq] at hau
  rw [eaa] at eaa'
  obtain ⟨rfl, rfl⟩ : ab = ab' ∧ aoff = aoff' := by simp at eaa'; exact ⟨eaa'.1, eaa'.2⟩
  have K0 := hid ((entry_of k (prE k) (dpE k) (okAll k) ih w0 t h.name B b l op mo w.drew (hr t (by simp)) (hok t (by simp)) hE h0 hb.drew hB hp.drew (by omega) (by omega) hm).mono (fun e w' h' => PrP.of hB ((Below.refl _ w).drew) h'))
  simp only [hat.1, hat.2] at K0
  have K1 := hid (fun (w1 : World) (h1 : Below B w w1) (hp1 : Prn w1 B b (l ++ (bs h.name ++ (91 :: (prE k t ++ [93])))) op (max mo (op + (1 + dpE k t)))) => write_new w1 B b _ op _ hp1 [sEq] 1 rfl (by omega) (Nat.le_trans hB h1.size) (by simp only [List.length_append, List.length_cons, List.length_nil, bs_len]; omega))
  simp only [List.map_cons, List.map_nil, sEq] at K1
  have K2 := hid (fun (w1 : World) (h1 : Below B w w1) (hp1 : Prn w1 B b (l ++ (bs h.name ++ (91 :: (prE k t ++ [93]))) ++ catL [sEq]) op (max mo (op + (1 + dpE k t)))) => ih w0 u B b _ op _ w1 (hr u (by simp)) (hok u (by simp)) hE h0 (hb.trans (h1.mono h0)) (Nat.le_trans hB h1.size) hp1 (by simp only [List.length_append, List.length_cons, List.length_nil, bs_len]; omega) (by omega) (by omega) (by omega))
  simp only [hau.1, hau.2, sEq] at K2
  have HF : Hid (max (max mo (op + (1 + dpE k t))) (op + dpE k u) = max mo (op + max (1 + dpE k t) (dpE k u))) := hid (by omega)
  have c1 := dw.c1
  have c4 := dw.c4
  rw [eaa, hanI] at c4
  have C1 := hid (fun (w1 : World) (h1 : Below B w w1) => (dh.below (Nat.le_refl _) (hb.trans (h1.mono h0))).c1)
  have C4 := hid (fun (w1 : World) (h1 : Below B w w1) => (dh.below (Nat.le_refl _) (hb.trans (h1.mono h0))).c4)
  rw [eaa, hanI] at C4
  clear ih dh hn dl hr hok hR hE h0 hb hp hl ho hm dw hO e1 e2 eaa eaa' hat hau hanI hmo
  go_enter Tryz.func137, Tryz.ntmps137
  go_wp2
  go_region_held3 (fun w2 => w2.cell? ⟨h.b, h.o + 1, none⟩ = some (.string h.name) ∧ w2.cell? ⟨h.b, h.o + 4, none⟩ = some (.slice (some ⟨ab, aoff, none⟩) 2 h.ac)) (first | exact ⟨C1.out _ hk1.1, C4.out _ hk1.1⟩ | go_keep) (first | (go_at_call 109; (refine (Hid.out K0).mono ?_; rintro e w1 ⟨rfl, hp1, hk1⟩)))
  have d4 := C4.out w1 hk1.1
  have K1' := hid (K1.out w1 hk1.1 hp1)
  have HK1 := hid hk1
  clear hp1 hk1 c1 c4
  go_wp2_with (first
    | (go_at_call 99; (refine (Hid.out K1').mono ?_; rintro e w2 ⟨rfl, hp2, hk2⟩; have HK2 := hid (HK1.out.trans hk2); have d5 := C4.out w2 HK2.out.1; have K2' := hid (K2.out w2 HK2.out.1 hp2); clear hp2 hk2))
    | (go_at_call 79; (refine (Hid.out K2').mono ?_; rintro e w3 ⟨rfl, hp3, hk3⟩)))
  go_end0
  exact ⟨rfl, hp3.eq (by simp [sEq]) HF.out, HK2.out.trans hk3⟩
end Go.Proofs.YtdfambocenohgaaGreatDoor

