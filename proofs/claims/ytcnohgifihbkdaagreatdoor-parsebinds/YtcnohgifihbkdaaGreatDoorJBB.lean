/- The printer: a record made; expressions of every kind. -/
import Derived.Test.YtcnohgifihbkdaaGreatDoorJBA
import Derived.Lib.UnsafeStr
namespace Go.Proofs.YtcnohgifihbkdaaGreatDoor.Lx
open Go.RowKit Go.Deep
set_option linter.unusedVariables false
set_option linter.unusedSimpArgs false

def zp (ns : List ByteArray) (ps : List (List UInt8)) : List (List UInt8) := List.zipWith (fun n p => bs n ++ (58 :: 32 :: p)) ns ps
theorem zp_take {α : Type} (f : α → List UInt8) {ns : List ByteArray} {ts : List α} {i : Nat} {n : ByteArray} {t : α} (hn : ns[i]? = some n) (ht : ts[i]? = some t) : zp (ns.take (i + 1)) ((ts.take (i + 1)).map f) = zp (ns.take i) ((ts.take i).map f) ++ [bs n ++ (58 :: 32 :: f t)] := by
  have h1 := (List.getElem?_eq_some_iff.1 hn).1
  have h2 := (List.getElem?_eq_some_iff.1 ht).1
  unfold zp
  rw [List.take_add_one, List.take_add_one, hn, ht]
  simp only [Option.toList_some, List.map_append, List.map_cons, List.map_nil]
  rw [List.zipWith_append (by simp; omega)]
  rfl
theorem zp_len {α : Type} (f : α → List UInt8) (ns : List ByteArray) (ts : List α) (i : Nat) (h1 : i ≤ ns.length) (h2 : i ≤ ts.length) : (zp (ns.take i) ((ts.take i).map f)).length = i := by
  unfold zp; simp; omega
theorem zp_jn {α : Type} (f : α → List UInt8) {ns : List ByteArray} {ts : List α} {i : Nat} {n : ByteArray} {t : α} (hn : ns[i]? = some n) (ht : ts[i]? = some t) : jn (zp (ns.take (i + 1)) ((ts.take (i + 1)).map f)) = jn (zp (ns.take i) ((ts.take i).map f)) ++ (commaB i ++ (bs n ++ (58 :: 32 :: f t))) := by
  have h1 := (List.getElem?_eq_some_iff.1 hn).1
  have h2 := (List.getElem?_eq_some_iff.1 ht).1
  rw [zp_take f hn ht, jn_snoc, zp_len f ns ts i (by omega) (by omega)]
theorem zp_pre {α : Type} (f : α → List UInt8) (ns : List ByteArray) (ts : List α) (hl : ns.length = ts.length) (i : Nat) : (jn (zp (ns.take i) ((ts.take i).map f))).length ≤ (jn (zp ns (ts.map f))).length := by
  have hm : ∀ j, (jn (zp (ns.take j) ((ts.take j).map f))).length ≤ (jn (zp (ns.take (j + 1)) ((ts.take (j + 1)).map f))).length := fun j => by
    by_cases hj : j < ns.length
    · rw [zp_jn f (List.getElem?_eq_getElem hj) (List.getElem?_eq_getElem (show j < ts.length by omega)), List.length_append]; omega
    · rw [List.take_of_length_le (show ns.length ≤ j by omega), List.take_of_length_le (show ns.length ≤ j + 1 by omega), List.take_of_length_le (show ts.length ≤ j by omega), List.take_of_length_le (show ts.length ≤ j + 1 by omega)]; exact Nat.le_refl _
  have hmm : ∀ d j, (jn (zp (ns.take j) ((ts.take j).map f))).length ≤ (jn (zp (ns.take (j + d)) ((ts.take (j + d)).map f))).length := fun d => by
    induction d with
    | zero => intro j; exact Nat.le_refl _
    | succ d ih => intro j; exact Nat.le_trans (ih j) (hm (j + d))
  have := hmm ts.length i
  rwa [List.take_of_length_le (show ns.length ≤ i + ts.length by omega), List.take_of_length_le (show ts.length ≤ i + ts.length by omega)] at this

set_option maxRecDepth 100000 in
set_option maxHeartbeats 1000000 in
theorem expr_8 (k : Nat) (pr : ET k → List UInt8) (dp : ET k → Nat) (ok : ET k → Prop) (ih : PrSaid k pr dp ok) (w0 : World) (h : EH) (ts : List (ET k)) (hk : h.kind = 8) (dh : EHr w0 h) (hn : h.an = ts.length) (dl : LiesAt 8 h.aa (eAt k) ts) (hr : ∀ u ∈ ts, ERd k w0 u) (hok : ∀ u ∈ ts, ok u) (hR : rightE h = true) (B b : Nat) (l : List UInt8) (op mo : Nat) (w : World) (hE : EnvT w0) (h0 : w0.heap.size ≤ B) (hb : Below w0.heap.size w0 w) (hB : B ≤ w.heap.size) (hp : Prn w B b l op mo)
    (hl : l.length + (prH h (ts.map (eH k)) (ts.map pr)).length ≤ 900000000) (ho : op + dpH h (ts.map (eH k)) (ts.map dp) ≤ 900000000) (hm : mo ≤ 900000000) (hmo : op ≤ mo) :
    Calls Tryz.prog 97 #[.pointer (some ⟨b, 0, none⟩), .pointer (some ⟨h.b, h.o, none⟩)] w (PrP w B b (l ++ prH h (ts.map (eH k)) (ts.map pr)) op (max mo (op + dpH h (ts.map (eH k)) (ts.map dp)))) := by
  have hO := okE_of hR
  unfold okE at hO
  have dw := dh.below (Nat.le_refl _) hb
  have c0 := dw.c0
  simp only [hk] at hO
  simp at hO
  have hnn : h.an = h.nn := hO.2
  have hnl : h.nn = h.names.length := dh.nl
  have hf : fieldsB h.names = true := hO.1.2
  have hf1 : 1 ≤ h.names.length := by unfold fieldsB at hf; simp at hf; omega
  obtain ⟨nb, noff, ena, hc00⟩ := dh.nr 0 (h.names[0]'hf1) (List.getElem?_eq_getElem hf1)
  have hlen : h.names.length = ts.length := by omega
  have e1 : prH h (ts.map (eH k)) (ts.map pr) = bs h.name ++ (123 :: (jn (zp h.names (ts.map pr)) ++ [125])) := by unfold prH; simp [hk, zp]
  have e2 : dpH h (ts.map (eH k)) (ts.map dp) = 1 + mxL (ts.map dp) := by unfold dpH; simp [hk]
  rw [e1] at hl ⊢
  rw [e2] at ho ⊢
  simp only [List.length_append, List.length_cons, List.length_nil, bs_len] at hl
  have hanI : (h.an : Int) ≤ 1000000 := by have := dh.ab; omega
  have hnI : (h.nn : Int) ≤ 1000000 := by omega
  have hab := dh.ab
  have cx4 := dw.c4
  have ec : catL [h.name, ⟨#[123]⟩] = bs h.name ++ [123] := by simp [catL, bs]
  have K1 := hid (enter_new w B b l op mo hp (by omega) (by omega) [h.name, ⟨#[123]⟩] 2 rfl (by omega) hB (by rw [ec, List.length_append, bs_len]; simp; omega))
  simp only [ec, List.map_cons, List.map_nil] at K1
  obtain ⟨L, hL⟩ : ∃ L, L = l ++ (bs h.name ++ [123]) := ⟨_, rfl⟩
  have hLl : L.length = l.length + (h.name.size + 1) := by rw [hL]; simp [bs_len]
  rw [← hL] at K1
  obtain ⟨M1, hM1⟩ : ∃ M1, M1 = max mo (op + 1) := ⟨_, rfl⟩
  rw [← hM1] at K1
  have C5 := hid (fun (w1 : World) (h1 : Below B w w1) => (dh.below (Nat.le_refl _) (hb.trans (h1.mono h0))).c5)
  have C6 := hid (fun (w1 : World) (h1 : Below B w w1) => (dh.below (Nat.le_refl _) (hb.trans (h1.mono h0))).c6)
  rw [ena] at C5
  have CN := hid (fun (w1 : World) (h1 : Below B w w1) (i : Nat) (nm : ByteArray) (hi : h.names[i]? = some nm) => show w1.cell? ⟨nb, noff + i, none⟩ = some (.string nm) from by
    obtain ⟨b', o', e', hc'⟩ := (dh.below (Nat.le_refl _) (hb.trans (h1.mono h0))).nr i nm hi
    rw [ena] at e'
    cases e'
    exact hc')
  have KC := hid (fun (i : Nat) (t : ET k) (ht : ts[i]? = some t) (w1 : World) (h1 : Below B w w1) (mo1 : Nat) (hp1 : Prn w1 B b (L ++ jn (zp (h.names.take i) ((ts.take i).map pr))) (op + 1) mo1) => comma_any w1 B b _ (op + 1) mo1 hp1 i (by have := (List.getElem?_eq_some_iff.1 ht).1; omega) (Nat.le_trans hB h1.size) (by
    have := zp_pre pr h.names ts hlen i
    rw [List.length_append, hLl]; omega))
  have KW := hid (fun (i : Nat) (nm : ByteArray) (t : ET k) (hnm : h.names[i]? = some nm) (ht : ts[i]? = some t) (w1 : World) (h1 : Below B w w1) (mo1 : Nat) (hp1 : Prn w1 B b (L ++ jn (zp (h.names.take i) ((ts.take i).map pr)) ++ commaB i) (op + 1) mo1) => write_new w1 B b _ (op + 1) mo1 hp1 [nm, ⟨#[58, 32]⟩] 2 rfl (by omega) (Nat.le_trans hB h1.size) (by
    have h2 := zp_pre pr h.names ts hlen (i + 1)
    rw [zp_jn pr hnm ht] at h2
    simp only [List.length_append, List.length_cons, hLl, catL, List.flatMap_cons, List.flatMap_nil, List.length_nil, bs] at h2 ⊢
    omega))
  simp only [show ∀ nm : ByteArray, catL [nm, ⟨#[58, 32]⟩] = bs nm ++ [58, 32] from fun nm => by simp [catL, bs], List.map_cons, List.map_nil] at KW
  have K2 := hid (fun (i : Nat) (nm : ByteArray) (t : ET k) (hnm : h.names[i]? = some nm) (ht : ts[i]? = some t) (w1 : World) (h1 : Below B w w1) (hp1 : Prn w1 B b (L ++ jn (zp (h.names.take i) ((ts.take i).map pr)) ++ commaB i ++ (bs nm ++ [58, 32])) (op + 1) (max M1 (op + 1 + mxL ((ts.take i).map dp)))) => ih w0 t B b _ (op + 1) _ w1 (hr t (List.mem_of_getElem? ht)) (hok t (List.mem_of_getElem? ht)) hE h0 (hb.trans (h1.mono h0)) (Nat.le_trans hB h1.size) hp1 (by
    have h2 := zp_pre pr h.names ts hlen (i + 1)
    rw [zp_jn pr hnm ht] at h2
    simp only [List.length_append, List.length_cons, List.length_nil, hLl] at h2 ⊢
    omega) (by
    have h2 := mx_pre dp ts (i + 1)
    rw [mx_take dp ht] at h2
    omega) (by
    have h2 := mx_pre dp ts i
    omega) (by omega))
  have K3 := hid (fun (w2 : World) (h1 : Below B w w2) (hp2 : Prn w2 B b (L ++ jn (zp h.names (ts.map pr))) (op + 1) (max M1 (op + 1 + mxL (ts.map dp)))) => leave_any w2 B b _ op _ hp2 (by omega) ⟨#[125]⟩ (Nat.le_trans hB h1.size) (by rw [show (⟨#[125]⟩ : ByteArray).size = 1 from rfl, List.length_append, hLl]; omega))
  have HF : Hid (max M1 (op + 1 + mxL (ts.map dp)) = max mo (op + (1 + mxL (ts.map dp)))) := hid (by omega)
  have HLe : Hid (L ++ jn (zp h.names (ts.map pr)) ++ [125] = l ++ (bs h.name ++ (123 :: (jn (zp h.names (ts.map pr)) ++ [125])))) := hid (by rw [hL]; simp)
  have HM0 : Hid (max M1 (op + 1 + 0) = M1) := hid (by omega)
  have HNl := hid hnl
  have HNt := hid hlen
  have DL := hid dl
  have HAN := hid hnn
  have hanN : ∀ i : Nat, (i : Int) < (h.nn : Int) → (i : Int) < (h.an : Int) := fun i hi => by omega
  have HAN2 := hid hanN
  clear ih dh hn dl hr hok hR hE h0 hb hp hl ho hm dw hO e1 e2 hmo ec hL hLl hM1 hnl hlen hnn hanN hab hc00 hf hf1 ena
  go_enter Tryz.func97, Tryz.ntmps97
  go_wp2_with (go_at_call 136; (refine (Hid.out K1).mono ?_; rintro e w1 ⟨rfl, hp1, hk1⟩; have d5 := C5.out w1 hk1.1; have HP1 := hid hp1; have HK1 := hid hk1; clear hp1 hk1))
  go_loopg [97] h.nn (fun g x wr => ∃ i : Nat, i + g = h.nn ∧ x = .int .i64 (i : Int) ∧ Prn wr B b (L ++ jn (zp (h.names.take i) ((ts.take i).map pr))) (op + 1) (max M1 (op + 1 + mxL ((ts.take i).map dp))) ∧ Kpt B b w wr)
  case atStart => exact ⟨0, by omega, rfl, HP1.out.eq (by simp [jn, zp]) (by have := HM0.out; simpa [mxL] using this.symm), HK1.out⟩
  case round =>
    obtain ⟨i, hi, rfl, hp2, hk2⟩ := hrel
    cases gk with
    | zero =>
      have hin : i = h.nn := by omega
      subst hin
      rw [HNl.out, List.take_of_length_le (Nat.le_refl _), List.take_of_length_le (by rw [HNt.out]; exact Nat.le_refl _)] at hp2
      have K3' := hid (K3.out wr hk2.1 hp2)
      have HK2 := hid hk2
      clear hi hp2 hk2
      go_wp2_with (go_at_call 138; (refine (Hid.out K3').mono ?_; rintro e w3 ⟨rfl, hp3, hk3⟩))
      go_end0
      exact ⟨rfl, hp3.eq HLe.out HF.out, HK2.out.trans hk3⟩
    | succ g =>
      have hil : (i : Int) < (h.nn : Int) := by omega
      have hil2 := HAN2.out i hil
      have hi0 : (0 : Int) ≤ (i : Int) := by omega
      obtain ⟨nm, hnm⟩ : ∃ nm, h.names[i]? = some nm := ⟨h.names[i]'(by rw [← HNl.out]; omega), List.getElem?_eq_getElem _⟩
      obtain ⟨t, ht⟩ : ∃ t, ts[i]? = some t := ⟨ts[i]'(by rw [← HNt.out, ← HNl.out]; omega), List.getElem?_eq_getElem _⟩
      obtain ⟨ab, aoff, eaa, hat⟩ := DL.out i t ht
      simp only [eAt, Prod.mk.injEq] at hat
      have hcn := CN.out wr hk2.1 i nm hnm
      have C6' := C6
      rw [eaa] at C6'
      have KC' := hid (KC.out i t ht wr hk2.1 _ hp2)
      have KW' := hid (KW.out i nm t hnm ht)
      have K2' := hid (K2.out i nm t hnm ht)
      simp only [hat.1, hat.2] at K2'
      have HJ := hid (zp_jn pr hnm ht)
      have HM := hid (mx_take dp ht)
      have HK2 := hid hk2
      have Hi := hid hi
      clear hp2 hk2 hat ht hnm hi C6 eaa
      go_wp2_with (first
        | (go_at_call 137; (refine (Hid.out KC').mono ?_; rintro e w2 ⟨rfl, hp3, hk3⟩; have HK3 := hid (HK2.out.trans hk3); have K4 := hid (KW'.out w2 HK3.out.1 _ hp3); clear hp3 hk3))
        | (go_at_call 129; (refine (Hid.out K4).mono ?_; rintro e w3 ⟨rfl, hp4, hk4⟩; have HK4 := hid (HK3.out.trans hk4); have d6 := C6'.out w3 HK4.out.1; have K5 := hid (K2'.out w3 HK4.out.1 hp4); clear hp4 hk4))
        | (go_at_call 97; (refine (Hid.out K5).mono ?_; rintro e w4 ⟨rfl, hp5, hk5⟩)))
      go_roundg g
      case measure => omega
      case rel => exact ⟨i + 1, by have := Hi.out; omega, by go_num, hp5.eq (by rw [HJ.out]; simp) (by rw [HM.out]; omega), HK4.out.trans hk5⟩

def prE : (k : Nat) → ET k → List UInt8
  | 0, _ => []
  | k + 1, t => prH t.1 (t.2.map (eH k)) (t.2.map (prE k))
def dpE : (k : Nat) → ET k → Nat
  | 0, _ => 0
  | k + 1, t => dpH t.1 (t.2.map (eH k)) (t.2.map (dpE k))
def okAll (k : Nat) (t : ET k) : Prop := ∀ p ∈ ptE k t, rightP p = true
theorem kind_of {h : EH} (hO : okE h = true) : h.kind = 1 ∨ h.kind = 2 ∨ h.kind = 3 ∨ h.kind = 4 ∨ h.kind = 5 ∨ h.kind = 6 ∨ h.kind = 7 ∨ h.kind = 8 ∨ h.kind = 9 ∨ h.kind = 10 ∨ h.kind = 11 ∨ h.kind = 12 := by
  unfold okE at hO
  repeat' split at hO
  all_goals first | (simp at hO; done) | omega
theorem expr_all : ∀ k, PrSaid k (prE k) (dpE k) (okAll k)
  | 0 => fun w0 t => Empty.elim t
  | k + 1 => by
    have ih := expr_all k
    intro w0 t B b l op mo w hrd hok hE h0 hb hB hp hl ho hm hmo
    obtain ⟨h, ts⟩ := t
    obtain ⟨dh, hn, dl, hr⟩ := hrd
    simp only at dh hn dl hr
    have hR : rightE h = true := hok (.inr (.inr h)) (List.mem_cons_self ..)
    have hok' : ∀ u ∈ ts, okAll k u := fun u hu p hp => hok p (List.mem_cons_of_mem _ (List.mem_flatMap.2 ⟨u, hu, hp⟩))
    rcases kind_of (okE_of hR) with hk | hk | hk | hk | hk | hk | hk | hk | hk | hk | hk | hk
    · exact expr_1 k _ _ _ ih w0 h ts hk dh hn dl hr hok' hR B b l op mo w hE h0 hb hB hp hl ho hm hmo
    · exact expr_2 k _ _ _ ih w0 h ts hk dh hn dl hr hok' hR B b l op mo w hE h0 hb hB hp hl ho hm hmo
    · exact expr_3 k _ _ _ ih w0 h ts hk dh hn dl hr hok' hR B b l op mo w hE h0 hb hB hp hl ho hm hmo
    · exact expr_4 k _ _ _ ih w0 h ts hk dh hn dl hr hok' hR B b l op mo w hE h0 hb hB hp hl ho hm hmo
    · exact expr_5 k _ _ _ ih w0 h ts hk dh hn dl hr hok' hR B b l op mo w hE h0 hb hB hp hl ho hm hmo
    · exact expr_6 k _ _ _ ih w0 h ts hk dh hn dl hr hok' hR B b l op mo w hE h0 hb hB hp hl ho hm hmo
    · exact expr_7 k _ _ _ ih w0 h ts hk dh hn dl hr hok' hR B b l op mo w hE h0 hb hB hp hl ho hm hmo
    · exact expr_8 k _ _ _ ih w0 h ts hk dh hn dl hr hok' hR B b l op mo w hE h0 hb hB hp hl ho hm hmo
    · exact expr_9 k _ _ _ ih w0 h ts hk dh hn dl hr hok' hR B b l op mo w hE h0 hb hB hp hl ho hm hmo
    · exact expr_10 k _ _ _ ih w0 h ts hk dh hn dl hr hok' hR B b l op mo w hE h0 hb hB hp hl ho hm hmo
    · exact expr_11 k _ _ _ ih w0 h ts hk dh hn dl hr hok' hR B b l op mo w hE h0 hb hB hp hl ho hm hmo
    · exact expr_12 k _ _ _ ih w0 h ts hk dh hn dl hr hok' hR B b l op mo w hE h0 hb hB hp hl ho hm hmo
end Go.Proofs.YtcnohgifihbkdaaGreatDoor.Lx

namespace Go.Proofs.YtcnohgifihbkdaaGreatDoor.Lx
open Go.RowKit Go.Deep
set_option linter.unusedVariables false
set_option linter.unusedSimpArgs false

def h1 {β γ : Type} (ps : List β) (f : β → γ) (z : γ) : γ := match ps with
  | p :: _ => f p
  | _ => z
def h2 {β γ : Type} (ps : List β) (f : β → β → γ) (z : γ) : γ := match ps with
  | p :: q :: _ => f p q
  | _ => z
/- What is written of a statement without a block, but for its end. -/
end Go.Proofs.YtcnohgifihbkdaaGreatDoor.Lx

namespace Go.Proofs.YtcnohgifihbkdaaGreatDoor.Lx
open Go.RowKit Go.Deep
set_option linter.unusedVariables false
set_option linter.unusedSimpArgs false

theorem LiesAt.tl {α : Type} {z : Nat} {b off : Nat} {at' : α → Nat × Nat} {t : α} {ts : List α} (h : LiesAt z (some ⟨b, off, none⟩) at' (t :: ts)) : LiesAt z (some ⟨b, off + z, none⟩) at' ts := by
  intro j u hj
  obtain ⟨b', off', e, ha⟩ := h (j + 1) u (by simpa using hj)
  simp at e
  refine ⟨b, off + z, rfl, ?_⟩
  rw [ha, ← e.1, ← e.2, Nat.add_mul, Nat.one_mul, Nat.add_assoc, Nat.add_comm z]

end Go.Proofs.YtcnohgifihbkdaaGreatDoor.Lx

namespace Go.Proofs.YtcnohgifihbkdaaGreatDoor.Lx
open Go.RowKit Go.Deep
set_option linter.unusedVariables false
set_option linter.unusedSimpArgs false
attribute [local go_sem] as58_58 as105_58 as101_58 as67_58 as58_105 as105_105 as101_105 as67_105 as58_101 as105_101 as101_101 as67_101 as58_67 as105_67 as101_67 as67_67
attribute [local go_sem] Oper.semAt_some

set_option maxRecDepth 100000 in
theorem wholeExpr_any (k : Nat) (w0 : World) (t : ET k) (hr : ERd k w0 t) (hok : okAll k t) (B b : Nat) (l : List UInt8) (op mo : Nat) (w : World) (hE : EnvT w0) (h0 : w0.heap.size ≤ B) (hb : Below w0.heap.size w0 w) (hB : B ≤ w.heap.size) (hp : Prn w B b l op mo)
    (hl : l.length + (prE k t).length ≤ 900000000) (ho : op + dpE k t ≤ 900000000) (hm : mo ≤ 900000000) (hmo : op ≤ mo) :
    Calls Tryz.prog 62 #[.pointer (some ⟨b, 0, none⟩), .iface 89 (.pointer (some ⟨(eH k t).b, (eH k t).o, none⟩))] w (PrP w B b (l ++ prE k t) op (max mo (op + dpE k t))) := by
  have K1 := hid (expr_all k w0 t B b l op mo w hr hok hE h0 hb hB hp hl ho hm hmo)
  clear hr hok hE h0 hb hB hp hl ho hm hmo
  go_enter Tryz.func62, Tryz.ntmps62
  go_wp2_with (go_at_call 97; (refine (Hid.out K1).mono ?_; rintro e w1 ⟨rfl, hp1, hk1⟩))
  go_end0
  exact ⟨rfl, hp1, hk1⟩
end Go.Proofs.YtcnohgifihbkdaaGreatDoor.Lx

namespace Go.Proofs.YtcnohgifihbkdaaGreatDoor.Lx
open Go.RowKit Go.Deep
set_option linter.unusedVariables false
set_option linter.unusedSimpArgs false
attribute [local go_sem] Oper.semAt_some

def PdP (w : World) (l : List UInt8) (d : Nat) (e : Ending) (w' : World) : Prop := e = .returned (.tuple #[.pointer (some ⟨w.heap.size, 0, none⟩), .int .i64 0]) ∧ Prn w' w.heap.size w.heap.size l 0 d ∧ Below w.heap.size w w'
end Go.Proofs.YtcnohgifihbkdaaGreatDoor.Lx

namespace Go.Proofs.YtcnohgifihbkdaaGreatDoor.Lx
open Go.RowKit Go.Deep
set_option linter.unusedVariables false
set_option linter.unusedSimpArgs false
set_option maxRecDepth 100000 in
set_option maxHeartbeats 1000000 in
theorem string_any (w : World) (B b : Nat) (l : List UInt8) (op mo : Nat) (h : Prn w B b l op mo) (h0 : l ≠ []) :
    Calls Tryz.prog 36 #[.pointer (some ⟨b, 0, none⟩)] w fun e w' => e = .returned (.string ⟨l.toArray⟩) ∧ Below B w w' := by
  obtain ⟨hge, p, v, hp, hbk, hown⟩ := h
  have hl0 : l.length ≠ 0 := by simpa using h0
  obtain ⟨g, cap, cur, rfl, hbg, hg, hnc, hcm, hcs, htake⟩ : ∃ g cap cur, v = .slice (some ⟨g, 0, none⟩) l.length cap ∧ B ≤ g ∧ w.heap[g]? = some (.cells cur 5 (0, 0)) ∧ l.length ≤ cap ∧ cap ≤ maxLen ∧ cur.size = cap * 1 ∧ cur.toList.take (l.length * 1) = Lib.byteCells l := by
    rcases hown.2 with ⟨_, hz⟩ | ⟨g, cap, cur, hv, r⟩
    · exact absurd hz hl0
    · exact ⟨g, cap, cur, hv, r⟩
  have c1 : w.drew.cell? ⟨b, 1, none⟩ = some (.slice (some ⟨g, 0, none⟩) l.length cap) := by
    have : w.drew.heap[b]? = some (.cells #[p, .slice (some ⟨g, 0, none⟩) l.length cap, .int .i64 (op : Int), .int .i64 (mo : Int)] 88 (0, 0)) := hbk
    rw [Lib.cell_of_heap this]; rfl
  have hSD : (Builtin.unsafeSliceData_ #[33] 117 #[.slice (some ⟨g, 0, none⟩) l.length cap]).run Tryz.prog w.drew = .ok (.pointer (some ⟨g, 0, none⟩)) w.drew :=
    Lib.run_unsafeSliceData_row _ _ _ _ _ _ (by omega)
  have hUS : (Builtin.unsafeString_ #[117, 3] 9 #[.pointer (some ⟨g, 0, none⟩), .int .i64 l.length]).run Tryz.prog w.drew = .ok (.string ⟨l.toArray⟩) (w.drew.freeze ⟨g, 0, none⟩ l.length) := by
    refine Lib.run_unsafeString_row w.drew 117 3 9 5 (by kernel_rfl) (by kernel_rfl) g cur.size (by have hg' : w.drew.heap[g]? = some (.cells cur 5 (0, 0)) := hg; simp [World.shape?, hg']) l h0 (by omega) (by unfold maxLen at hcm; omega) ?_
    intro j x hx
    have := World.ownsRow.cells (show World.ownsRow w B 5 1 (.slice (some ⟨g, 0, none⟩) l.length cap) l.length (Lib.byteCells l) from hown) (g := g) rfl j (.int .u8 x.toNat) (by simp [Lib.byteCells, hx])
    exact this
  have mixed : Tryz.prog.follows Departure.mixedOrders = true := by kernel_rfl
  clear hown htake hcs hcm hbk
  go_enter Tryz.func36, Tryz.ntmps36
  go_wp2
  go_region_o
  all_goals (go_wp2; go_ret; exact ⟨rfl, Lib.below_freeze (Below.drew (Below.refl B w)) (p := ⟨g, 0, none⟩) hbg _⟩)
end Go.Proofs.YtcnohgifihbkdaaGreatDoor.Lx

namespace Go.Proofs.YtcnohgifihbkdaaGreatDoor.Lx
open Go.RowKit Go.Deep
set_option linter.unusedVariables false
set_option linter.unusedSimpArgs false
attribute [local go_sem] Oper.semAt_some
/- An expression that is handed over, wherever it lies. -/
structure EVh (w : World) (h : EH) : Prop where
  i0 : -9223372036854775808 ≤ h.int
  i1 : h.int ≤ 9223372036854775807
  t : h.text.size ≤ 9223372036854775807
  n : h.name.size ≤ 9223372036854775807
  nl : h.nn = h.names.length
  nb : h.nn ≤ 1000000
  ns : ∀ s ∈ h.names, s.size ≤ 9223372036854775807
  nr : SLs w h.na h.names
  ab : h.an ≤ 1000000
structure EVs (k : Nat) (w : World) (t : ET (k + 1)) : Prop where
  h : EVh w t.1
  n : t.1.an = t.2.length
  l : LiesAt 8 t.1.aa (eAt k) t.2
  e : ∀ u ∈ t.2, ERd k w u
theorem EVs.below {k : Nat} {w w' : World} {t : ET (k + 1)} {B : Nat} (d : EVs k w t) (hB : w.heap.size ≤ B) (h : Below B w w') : EVs k w' t :=
  ⟨⟨d.h.i0, d.h.i1, d.h.t, d.h.n, d.h.nl, d.h.nb, d.h.ns, d.h.nr.below hB h, d.h.ab⟩, d.n, d.l, fun u hu => ERd.below k (d.e u hu) hB h⟩
def eAtB {k : Nat} (t : ET (k + 1)) (M o : Nat) : ET (k + 1) := ({ t.1 with b := M, o := o }, t.2)
theorem EVs.at {k : Nat} {W : World} {t : ET (k + 1)} {M o : Nat} (d : EVs k W t) (c : ∀ j, j < 8 → W.cell? ⟨M, o + j, none⟩ = t.1.cs[j]?) : ERd (k + 1) W (eAtB t M o) :=
  ⟨⟨c 0 (by omega), c 1 (by omega), c 2 (by omega), c 3 (by omega), c 4 (by omega), c 5 (by omega), c 6 (by omega), c 7 (by omega), d.h.i0, d.h.i1, d.h.t, d.h.n, d.h.nl, d.h.nb, d.h.ns, d.h.nr, d.h.ab⟩, d.n, d.l, d.e⟩
theorem EVs.box {k : Nat} {W : World} {t : ET (k + 1)} {M : Nat} (d : EVs k W t) (hb : W.heap[M]? = some (.cells t.1.cs 45 (0, 0))) : ERd (k + 1) W (eAtB t M 0) := d.at fun j _ => by rw [Nat.zero_add]; exact cellT hb j
theorem okAll_at {k : Nat} {t : ET (k + 1)} (h : okAll (k + 1) t) (M o : Nat) : okAll (k + 1) (eAtB t M o) := by
  intro p hp
  rcases List.mem_cons.1 hp with rfl | hp
  · exact h (.inr (.inr t.1)) (List.mem_cons_self ..)
  · exact h p (List.mem_cons_of_mem _ hp)
end Go.Proofs.YtcnohgifihbkdaaGreatDoor.Lx

namespace Go.Proofs.YtcnohgifihbkdaaGreatDoor.Lx
open Go.RowKit Go.Deep
set_option linter.unusedVariables false
set_option linter.unusedSimpArgs false
section
attribute [local go_sem] as58_58 as105_58 as101_58 as67_58 as58_105 as105_105 as101_105 as67_105 as58_101 as105_101 as101_101 as67_101 as58_67 as105_67 as101_67 as67_67
set_option maxRecDepth 100000 in
set_option maxHeartbeats 1000000 in
theorem isRightX_any (w : World) (h : EH) (d : EHr w h) (hm : MX w) : Calls Tryz.prog 95 #[labP (.inr (.inr h))] w fun e w' => e = .returned (.bool (rightP (.inr (.inr h)))) ∧ Below w.heap.size w w' := by
  have K := hid (isRightE_any w h d hm)
  simp only [labP, rightP]
  generalize rightE h = r at *
  clear d hm
  go_enter Tryz.func95, Tryz.ntmps95
  go_wp2_with (go_at_call 127; (refine (Hid.out K).mono ?_; rintro e w1 ⟨rfl, hb⟩))
  go_ret
  exact ⟨rfl, hb⟩
end
attribute [local go_sem] Oper.semAt_some
set_option maxRecDepth 100000 in
set_option maxHeartbeats 1000000 in
theorem mayBeX_any (w : World) (root : Part) (ps : List Part) (h : Whole w root ps) (hR : ∀ p ∈ ps, ∀ (w1 : World), Below w.heap.size w w1 → Calls Tryz.prog 95 #[labP p] w1 fun e w' => e = .returned (.bool (rightP p)) ∧ Below w1.heap.size w1 w') :
    Calls Tryz.prog 61 #[labP root] w fun e w' => e = .returned (.bool (ps.all rightP)) ∧ Below w.heap.size w w' := by
  have hro : Fence.wide.round = none := rfl
  have KC : Hid (∀ (x : Fin ps.length) (w1 : World), Below w.heap.size w w1 → Calls Tryz.prog 95 #[labP ps[x]] w1 fun e w' => e = .returned (.bool (rightP ps[x])) ∧ Below w1.heap.size w1 w') := hid (fun x w1 hb => hR _ (List.getElem_mem _) w1 hb)
  obtain ⟨W0, hW0⟩ : ∃ W0, W0 = w.alloc (.cells #[.bool false] 4) := ⟨_, rfl⟩
  obtain ⟨W1, hW1⟩ : ∃ W1, W1 = W0.alloc (.cells #[labP root] 20) := ⟨_, rfl⟩
  have hz0 : W0.heap.size = w.heap.size + 1 := by rw [hW0]; simp
  have hz1 : W1.heap.size = w.heap.size + 1 + 1 := by rw [hW1]; simp; omega
  have n0 : W1.heap[w.heap.size]? = some (.cells #[.bool false] 4 (0, 0)) := by rw [hW1]; exact (Below.heap_alloc _ _ _ (by omega)).trans (by rw [hW0]; exact heap_alloc_new _ _)
  have n1 : W1.heap[w.heap.size + 1]? = some (.cells #[labP root] 20 (0, 0)) := by
    have := heap_alloc_new W0 (.cells #[labP root] 20)
    rw [hz0, ← hW1] at this
    exact this
  have hb1 : Below w.heap.size w W1 := by rw [hW1, hW0]; exact ((Below.refl _ w).alloc (Nat.le_refl _) _).alloc (by simp) _
  have hseq := parts_stops h 5 (w.heap.size + 1) W1 hb1 n1
  have h70 : MI w ps [] W1 := ⟨n0, by simp, hb1, by omega⟩
  have hC : w.heap.size ≤ W1.heap.size := by omega
  clear n0 n1 hb1 hR h
  refine (callsIn_wide (n := 6)).1 ?_
  refine callsIn_of_wp_marks Tryz.func61 rfl trivial ?_ hro
  simp only [Tryz.ntmps61, List.size_toArray, List.length_cons, List.length_nil, Nat.reduceAdd, Nat.reduceSub, Array.replicate_succ, Array.replicate_zero, List.push_toArray, List.append_toArray, List.nil_append, List.cons_append]
  gi_wp2_with (refine ⟨trivial, ?_⟩; gi_at_call 94; refine (parts_in _ _ trivial hro _ _).mono ?_; rintro e w7 ⟨rfl, rfl⟩)
  rw [← hW0]
  try simp only [hz0]
  rw [← hW1]
  clear hW0 hW1
  refine wpIn_rangeFunc_ownH hro (by omega) (gf := 122) (lb := #[.pointer (some ⟨w.heap.size + 1, 0, none⟩)]) rfl trivial (enters_of Tryz.func122 (by kernel_rfl) rfl) hseq belowK_t (belowK_b (by omega)) (Below.refl _ _) (fun _ => rfl)
      (MI w ps) (MZ w ps) (MI_own w ps hC) (fun c => MZ_own w ps c hC)
      h70
      (fun (x : Fin ps.length) (a' : Act) (W : World) => a' = { tmps := #[labP root, undef, .pointer (some ⟨w.heap.size, 0, none⟩), labP ps[x], labP root, .func (.func 122) #[] #[.pointer (some ⟨w.heap.size + 1, 0, none⟩)], labP ps[x], undef, undef, undef], defers := [] })
      (fun x a' u A B rw' hs hg hr => hs)
      ?assign ?body ?done ?stop
  case assign =>
    rintro ll pre x W K hi hK
    simp only [encP] at hK ⊢
    generalize labP ps[x] = lp at *
    gi_wp2
    exact hK _ _ (keepsFrom_below (Below.refl _ _)) (Below.refl _ _) hi rfl
  case body =>
    rintro ll pre x a' W hll ⟨rr, hrr⟩ hi rfl hlt
    have HI := hid hi
    have K1 := hid (KC.out x W hi.2.2.1)
    have c0 := cellT hi.1 0
    simp only [List.getElem?_toArray, List.getElem?_cons_zero] at c0
    have HS := hid (show ps[x] ∈ ps from List.getElem_mem _)
    clear hseq hi h70
    cases hq : rightP ps[x] with
    | true =>
      rw [hq] at K1
      have HQ := hid hq
      clear hq
      generalize labP ps[x] = lp at *
      gi_wp2_with (refine ⟨trivial, ?_⟩; gi_at_call 95; refine (CallsIn.inRound ll (callsIn_wide.2 (Hid.out K1))).mono ?_; rintro e w8 ⟨rfl, hb8⟩)
      exact ⟨keepsFrom_below hb8, hb8.mono (by have := HI.out.2.2.2; omega), (HI.out.below hb8).snoc HQ.out⟩
    | false =>
      rw [hq] at K1
      have HQ := hid hq
      clear hq
      have HF : Hid (ps.all rightP = false) := hid (by rw [List.all_eq_false]; exact ⟨ps[x], HS.out, by rw [HQ.out]; decide⟩)
      generalize labP ps[x] = lp at *
      gi_wp2_with (refine ⟨trivial, ?_⟩; gi_at_call 95; refine (CallsIn.inRound ll (callsIn_wide.2 (Hid.out K1))).mono ?_; rintro e w8 ⟨rfl, hb8⟩; have hbx := (HI.out.below hb8).1; have y0 := cellT hbx 0; have y1 := freeT hbx 0; simp only [List.getElem?_toArray, List.getElem?_cons_zero] at y0; have HX := hid hbx; have HB8 := hid hb8; clear hbx hb8)
      refine ⟨(keepsFrom_below HB8.out).trans ((KeepsOthers.setCell _ _ _).from _), rfl, HF.out, set_cells HX.out _, ?_⟩
      exact ((HI.out.below HB8.out).2.2.1).setCell (p := ⟨w.heap.size, 0, none⟩) (Nat.le_refl _) _
  case done =>
    rintro D' ys W hD rfl hI hK
    have HT : Hid (ps.all rightP = true) := hid (by
      rw [List.all_eq_true]
      intro p hp
      obtain ⟨k, hk, e⟩ := List.getElem_of_mem hp
      have := hI.2.1 ⟨k, hk⟩ (List.mem_finRange _)
      rw [← e]; exact this)
    have y0 := cellT hI.1 0
    have y1 := freeT hI.1 0
    simp only [List.getElem?_toArray, List.getElem?_cons_zero] at y0
    have HI := hid hI
    have HK := hid hK
    clear hseq hI hK h70
    gi_wp2
    obtain ⟨Wf, hWf⟩ : ∃ Wf, Wf = W.setCell ⟨w.heap.size, 0, none⟩ (.bool true) := ⟨_, rfl⟩
    rw [← hWf]
    have k2 : Wf.heap[w.heap.size]? = some (.cells #[.bool true] 4 (0, 0)) := by rw [hWf]; exact set_cells HI.out.1 _
    have kD : Wf.heap[D']? = some (.deferred (some [])) := by
      rw [hWf]; exact (Below.heap_setCell _ _ _ _ (by show D' ≠ w.heap.size; omega)).trans HK.out
    have kB : Below w.heap.size w Wf := by rw [hWf]; exact HI.out.2.2.1.setCell (p := ⟨w.heap.size, 0, none⟩) (Nat.le_refl _) _
    have h9 := keep_cells (B := 0) k2 (grownBy_putObj' _ D' (.deferred none)) (fun r e => by cases e; exact ⟨Nat.zero_le _, _, kD, rfl⟩)
    have h10 : Below w.heap.size w (Wf.putObj D' (.deferred none)) := ownFrom_below (β := Unit) (Nat.le_refl _) (Nat.le_refl _) () _ _ _ kB (grownBy_putObj' _ D' (.deferred none)) (fun r e => by cases e; exact ⟨by omega, _, kD, rfl⟩)
    have r0 := cellT h9 0
    simp only [List.getElem?_toArray, List.getElem?_cons_zero] at r0
    refine ⟨by simp, .inl ⟨_, _, rfl, run_takeDeferred kD, ?_⟩⟩
    refine ⟨.bool true, by simp [results, Tryz.results61, go_sem, r0], ?_⟩
    rw [HT.out]
    exact ⟨rfl, h10⟩
  case stop =>
    rintro D' c pre W hD hp ⟨rfl, hF, hbx, hbw⟩ hK
    have h9 := keep_cells (B := 0) hbx (grownBy_putObj' _ D' (.deferred none)) (fun r e => by cases e; exact ⟨Nat.zero_le _, _, hK, rfl⟩)
    have h10 : Below w.heap.size w (W.putObj D' (.deferred none)) := ownFrom_below (β := Unit) (Nat.le_refl _) (Nat.le_refl _) () _ _ _ hbw (grownBy_putObj' _ D' (.deferred none)) (fun r e => by cases e; exact ⟨by omega, _, hK, rfl⟩)
    have r0 := cellT h9 0
    simp only [List.getElem?_toArray, List.getElem?_cons_zero] at r0
    clear hseq h70
    gi_wp2
    refine ⟨by simp, .inl ⟨_, _, rfl, run_takeDeferred hK, ?_⟩⟩
    refine ⟨.bool false, by simp [results, Tryz.results61, go_sem, r0], ?_⟩
    rw [hF]
    exact ⟨rfl, h10⟩
set_option maxRecDepth 100000 in
set_option maxHeartbeats 1000000 in
theorem printedX_of (w : World) (root : Part) (ps : List Part) (hwh : ∀ (w1 : World), Below w.heap.size w w1 → Whole w1 root ps) (hR : ∀ p ∈ ps, ∀ (w1 : World), Below w.heap.size w w1 → Calls Tryz.prog 95 #[labP p] w1 fun e w' => e = .returned (.bool (rightP p)) ∧ Below w1.heap.size w1 w') (hall : ps.all rightP = true) (hE : EnvT w) (l : List UInt8) (d : Nat)
    (hw : ∀ (w1 : World), Below w.heap.size w w1 → w.heap.size ≤ w1.heap.size → Prn w1 w.heap.size w.heap.size [] 0 0 → Calls Tryz.prog 62 #[.pointer (some ⟨w.heap.size, 0, none⟩), labP root] w1 (PrP w1 w.heap.size w.heap.size l 0 d)) :
    Calls Tryz.prog 35 #[labP root] w (PdP w l d) := by
  obtain ⟨W, hW⟩ : ∃ W, W = w.alloc (.cells #[.pointer none, .slice none 0 0, .int .i64 0, .int .i64 0] 88) := ⟨_, rfl⟩
  have hbW : Below w.heap.size w W := by rw [hW]; exact (Below.refl _ w).alloc (Nat.le_refl _) _
  have hbox : W.heap[w.heap.size]? = some (.cells #[.pointer none, .slice none 0 0, .int .i64 0, .int .i64 0] 88 (0, 0)) := by rw [hW]; exact heap_alloc_new _ _
  have hpW : Prn W w.heap.size w.heap.size [] 0 0 := ⟨Nat.le_refl _, _, _, .inl rfl, hbox, BRow.nil _ _⟩
  have K1 := hid (mayBeX_any W root ps (hwh W hbW) (fun p hp w1 h1 => hR p hp w1 (hbW.trans (h1.mono hbW.size))))
  have K2 := hid (fun (w1 : World) (h1 : Below W.heap.size W w1) => hw w1 (hbW.trans (h1.mono hbW.size)) (Nat.le_trans hbW.size h1.size) (hpW.below h1))
  have TR := hid (fun (w1 : World) (h1 : Below W.heap.size W w1) => hbW.trans (h1.mono hbW.size))
  rw [hall] at K1
  obtain ⟨X, hX⟩ : ∃ X, X = w.heap.size := ⟨_, rfl⟩
  obtain ⟨V, hV⟩ : ∃ V, V = labP root := ⟨_, rfl⟩
  rw [← hV] at K1 K2 ⊢
  clear hwh hR hall hE hw hbox hpW hbW hV
  go_enter Tryz.func35, Tryz.ntmps35
  go_upto_region 2 with fail
  try rw [← hW]
  clear hW
  go_wp2_with (first
    | (go_at_call 61; (refine (Hid.out K1).mono ?_; rintro e w1 ⟨rfl, hb1⟩; have K2' := hid (K2.out w1 hb1); have HB1 := hid (TR.out w1 hb1); clear hb1))
    | (go_at_call 62; (refine (Hid.out K2').mono ?_; rintro e w2 ⟨rfl, hp2, hk2⟩)))
  go_ret2
  exact ⟨rfl, hp2, HB1.out.trans hk2.1⟩
theorem ptE_only : ∀ (k : Nat) (t : ET k), ∀ p ∈ ptE k t, ∃ h, p = .inr (.inr h)
  | 0, t => Empty.elim t
  | k + 1, t => fun p hp => by
    rcases List.mem_cons.1 hp with rfl | hp
    · exact ⟨_, rfl⟩
    · obtain ⟨u, hu, hp⟩ := List.mem_flatMap.1 hp
      exact ptE_only k u p hp
set_option maxRecDepth 100000 in
set_option maxHeartbeats 1000000 in
theorem exprX_any (k : Nat) (w : World) (t : ET (k + 1)) (d : EVs k w t) (hok : okAll (k + 1) t) (hE : EnvT w) (hl : (prE (k + 1) t).length ≤ 900000000) (hne : prE (k + 1) t ≠ []) (ho : dpE (k + 1) t ≤ 900000000) :
    Calls Tryz.prog 13 #[.agg t.1.cs] w fun e w' => e = .returned (.tuple #[.string ⟨(prE (k + 1) t).toArray⟩, .int .i64 0]) ∧ Below w.heap.size w w' := by
  obtain ⟨W, hW⟩ : ∃ W, W = w.alloc (.cells t.1.cs 45) := ⟨_, rfl⟩
  have hbw : Below w.heap.size w W := by rw [hW]; exact (Below.refl _ w).alloc (Nat.le_refl _) _
  have hb : W.heap[w.heap.size]? = some (.cells t.1.cs 45 (0, 0)) := by rw [hW]; exact heap_alloc_new _ _
  have dB := (d.below (Nat.le_refl _) hbw).box hb
  have hoB := okAll_at hok w.heap.size 0
  have K1 := hid (printedX_of W (.inr (.inr (eH (k + 1) (eAtB t w.heap.size 0)))) (ptE (k + 1) (eAtB t w.heap.size 0)) (fun w1 h1 => whole_expr (ERd.below (k + 1) dB (Nat.le_refl _) h1)) (fun p hp w1 h1 => by obtain ⟨h, rfl⟩ := ptE_only _ _ p hp; exact isRightX_any w1 h (EHr.below (ptE_rd (k + 1) dB _ hp) (Nat.le_refl _) h1) ((hE.below hbw).mx.below (hE.below hbw).mx.lt h1)) (List.all_eq_true.2 hoB) (hE.below hbw) (prE (k + 1) t) (dpE (k + 1) t) (fun w1 h1 hs hp => (wholeExpr_any (k + 1) W (eAtB t w.heap.size 0) dB hoB W.heap.size W.heap.size [] 0 0 w1 (hE.below hbw) (Nat.le_refl _) h1 hs hp (by show 0 + (prE (k + 1) t).length ≤ _; omega) (by show 0 + dpE (k + 1) t ≤ _; omega) (by omega) (by omega)).mono (fun e w' h' => ⟨h'.1, h'.2.1.eq rfl (show max 0 (0 + dpE (k + 1) t) = dpE (k + 1) t by omega), h'.2.2⟩)))
  have HW := hid hbw
  simp only [eAtB, eH, labP] at K1
  have K2 := hid (fun (w1 : World) (hp : Prn w1 W.heap.size W.heap.size (prE (k + 1) t) 0 (dpE (k + 1) t)) => string_any w1 _ _ _ _ _ hp hne)
  generalize prE (k + 1) t = L at *
  generalize dpE (k + 1) t = D at *
  simp only [EH.cs] at hW ⊢
  clear d hok hE hl hne ho hbw hb dB hoB
  go_enter Tryz.func13, Tryz.ntmps13
  go_wp2_with (first
    | (go_at_call 35; (rw [← hW]; refine (Hid.out K1).mono ?_; rintro e w1 ⟨rfl, hp1, hb1⟩; have K2' := hid (K2.out w1 hp1); have HB := hid hb1; clear hp1 hb1 hW))
    | (go_at_call 36; (refine (Hid.out K2').mono ?_; rintro e w2 ⟨rfl, hb2⟩)))
  go_ret2
  exact ⟨rfl, HW.out.trans ((HB.out.trans hb2).mono HW.out.size)⟩
end Go.Proofs.YtcnohgifihbkdaaGreatDoor.Lx

namespace Go.Proofs.YtcnohgifihbkdaaGreatDoor
open Go Go.RowKit Go.Deep Go.Shelf
set_option linter.unusedVariables false
set_option linter.unusedSimpArgs false
set_option maxRecDepth 100000
theorem pkE_names {a b : PEx} (h : pkE a = pkE b) (e : b.names = []) : a.names = [] := by
  unfold pkE pkN at h
  rw [e] at h
  simp only [Value.agg.injEq, Array.mk.injEq, List.cons.injEq, true_and, and_true, List.map_nil] at h
  obtain ⟨_, _, _, _, _, h6, _⟩ := h
  have h6 : a.names.map (fun n => Value.string (bs n)) = [] := by simpa using h6
  exact List.map_eq_nil_iff.1 h6
theorem map_two {l : List PEx} {a b : PEx} (h : [pkE a, pkE b] = l.map pkE) : ∃ x y, l = [x, y] ∧ pkE x = pkE a ∧ pkE y = pkE b := by
  cases l with
  | nil => simp at h
  | cons x l =>
    cases l with
    | nil => simp at h
    | cons y r =>
      cases r with
      | nil =>
        simp only [List.map_cons, List.map_nil, List.cons.injEq, and_true] at h
        exact ⟨x, y, rfl, h.1.symm, h.2.symm⟩
      | cons p q => simp at h
theorem mapE_one {l : List PEx} {a : PEx} (h : [pkE a] = l.map pkE) : ∃ x, l = [x] ∧ pkE x = pkE a := by
  cases l with
  | nil => simp at h
  | cons x l =>
    cases l with
    | nil =>
      simp only [List.map_cons, List.map_nil, List.cons.injEq, and_true] at h
      exact ⟨x, rfl, h.symm⟩
    | cons y r => simp at h
/- An element of a row of expressions, its arguments as they lie. -/
theorem node_of {w : World} {A : Nat → Prop} {v : Value} {l : List PEx} {j : Nat} {x : PEx} (h : XsR w A v l) (hj : l[j]? = some x) (hi : x.int = 0) (ht : x.text.length ≤ 100) (hn : x.name.length ≤ 100) (hs : x.names = []) :
    ∃ (g off cap : Nat) (aa : Option Addr) (ac : Nat) (xs : List PEx), v = .slice (some ⟨g, off, none⟩) l.length cap ∧ l.length ≤ cap ∧ g < w.heap.size ∧ XsR w A (.slice aa xs.length ac) xs ∧ x.args = xs.map pkE ∧
      ∀ (m : Nat) (kids : List (Lx.ET m)), kids.length = xs.length → kids.length ≤ 1000000 → Lx.LiesAt 8 aa (Lx.eAt m) kids → (∀ u ∈ kids, Lx.ERd m w u) →
        ∃ u : Lx.EH, Lx.ERd (m + 1) w (u, kids) ∧ u.b = g ∧ u.o = off + j * 8 ∧ u.kind = x.kind ∧ u.op = x.op ∧ u.int = 0 ∧ u.text = bs x.text ∧ u.name = bs x.name ∧ u.names = [] ∧ u.nn = 0 ∧ u.an = kids.length ∧ ∀ i, i < 8 → w.cell? ⟨g, off + j * 8 + i, none⟩ = u.cs[i]? := by
  obtain ⟨g, off, cap, nv, av, xs, rfl, hc, hg, hA, hN, ⟨hX, hx⟩, hcell⟩ := h.at hj
  obtain ⟨aa, ac, rfl, hac⟩ := hX.slice
  rw [hs] at hN
  obtain ⟨na, nc, rfl, _, _⟩ := hN.1.rd
  refine ⟨g, off, cap, aa, ac, xs, rfl, hc, hg, hX, hx, fun m kids hl hl2 hL hE => ?_⟩
  refine ⟨{ b := g, o := off + j * 8, kind := x.kind, op := x.op, int := x.int, text := bs x.text, name := bs x.name, na := na, nn := 0, nc := nc, aa := aa, an := xs.length, ac := ac, pos := x.pos, names := [] }, ⟨?_, hl.symm, hL, hE⟩, rfl, rfl, rfl, rfl, hi, rfl, rfl, rfl, rfl, hl.symm, ?_⟩
  · have c0 := hcell 0 (by omega)
    have c1 := hcell 1 (by omega)
    have c2 := hcell 2 (by omega)
    have c3 := hcell 3 (by omega)
    have c4 := hcell 4 (by omega)
    have c5 := hcell 5 (by omega)
    have c6 := hcell 6 (by omega)
    have c7 := hcell 7 (by omega)
    have tl : (bs x.text).size ≤ 9223372036854775807 := by rw [show (bs x.text).size = x.text.length from List.size_toArray]; omega
    have nl : (bs x.name).size ≤ 9223372036854775807 := by rw [show (bs x.name).size = x.name.length from List.size_toArray]; omega
    exact ⟨c0, c1, c2, c3, c4, c5, c6, c7, by show _ ≤ x.int; omega, by show x.int ≤ _; omega, tl, nl, rfl, Nat.zero_le _, fun s hs => by simp at hs, fun i s e => by simp at e, by show xs.length ≤ _; omega⟩
  · intro i hi'
    rw [hcell i hi']
    simp only [Lx.EH.cs, eC, List.getElem?_toArray]
    rfl
def LeafB (q : UInt8) (h : Lx.EH) : Prop := h.kind = 4 ∧ h.op = 0 ∧ h.int = 0 ∧ h.text = Lx.emp ∧ h.name = ⟨#[q]⟩ ∧ h.names = [] ∧ h.nn = 0 ∧ h.an = 0
def NodeB (o : Int) (h : Lx.EH) : Prop := h.kind = 6 ∧ h.op = o ∧ h.int = 0 ∧ h.text = Lx.emp ∧ h.name = Lx.emp ∧ h.names = [] ∧ h.nn = 0 ∧ h.an = 2
theorem leaf_of {w : World} {A : Nat → Prop} {v : Value} {l : List PEx} {j : Nat} {x : PEx} {q : UInt8} {p : Int} (h : XsR w A v l) (hj : l[j]? = some x) (hx : pkE x = pkE (nmX q p)) (m : Nat) :
    ∃ (g off cap : Nat) (u : Lx.EH), v = .slice (some ⟨g, off, none⟩) l.length cap ∧ Lx.ERd (m + 1) w ((u, []) : Lx.EH × List (Lx.ET m)) ∧ u.b = g ∧ u.o = off + j * 8 ∧ LeafB q u := by
  obtain ⟨e1, e2, e3, e4, e5, e6, e7⟩ := pkE_eq hx
  obtain ⟨g, off, cap, aa, ac, xs, hv, _, _, hX, hargs, K⟩ := node_of h hj (by rw [e3]; rfl) (by rw [e4]; show (0 : Nat) ≤ 100; omega) (by rw [e5]; show (1 : Nat) ≤ 100; omega) (pkE_names hx rfl)
  have hxs : xs = [] := by
    have : xs.map pkE = [] := by rw [← hargs, e6]; rfl
    exact List.map_eq_nil_iff.1 this
  subst hxs
  obtain ⟨u, h1, h2, h3, h4, h5, h6, h7, h8, h9, h10, h11, _⟩ := K m [] rfl (Nat.zero_le _) (fun i t e => by simp at e) (fun u hu => by simp at hu)
  exact ⟨g, off, cap, u, hv, h1, h2, h3, h4.trans e1, h5.trans e2, h6, by rw [h7, e4]; rfl, by rw [h8, e5]; rfl, h9, h10, h11⟩
/- One with two arguments, which are had by K. -/
theorem twoB_of {w : World} {A : Nat → Prop} {v : Value} {l : List PEx} {j : Nat} {x a b : PEx} {o : Int} {m : Nat} {P Q : Lx.ET m → Prop} (h : XsR w A v l) (hj : l[j]? = some x) (hx : pkE x = pkE (binary o a b))
    (K : ∀ (v' : Value) (xa xb : PEx), XsR w A v' [xa, xb] → pkE xa = pkE a → pkE xb = pkE b → ∃ (g off cap : Nat) (ua ub : Lx.ET m), v' = .slice (some ⟨g, off, none⟩) 2 cap ∧ Lx.ERd m w ua ∧ Lx.ERd m w ub ∧ Lx.eAt m ua = (g, off) ∧ Lx.eAt m ub = (g, off + 8) ∧ P ua ∧ Q ub) :
    ∃ (g off cap : Nat) (u : Lx.EH) (ua ub : Lx.ET m), v = .slice (some ⟨g, off, none⟩) l.length cap ∧ l.length ≤ cap ∧ g < w.heap.size ∧ Lx.ERd (m + 1) w ((u, [ua, ub]) : Lx.EH × List (Lx.ET m)) ∧ u.b = g ∧ u.o = off + j * 8 ∧ NodeB o u ∧ P ua ∧ Q ub ∧ ∀ i, i < 8 → w.cell? ⟨g, off + j * 8 + i, none⟩ = u.cs[i]? := by
  obtain ⟨e1, e2, e3, e4, e5, e6, e7⟩ := pkE_eq hx
  obtain ⟨g, off, cap, aa, ac, xs, hv, hle, hg, hX, hargs, KN⟩ := node_of h hj (by rw [e3]; rfl) (by rw [e4]; show (0 : Nat) ≤ 100; omega) (by rw [e5]; show (0 : Nat) ≤ 100; omega) (pkE_names hx rfl)
  obtain ⟨xa, xb, rfl, ha, hb⟩ := map_two (show [pkE a, pkE b] = xs.map pkE by rw [← hargs, e6]; rfl)
  obtain ⟨g2, off2, cap2, ua, ub, hv2, d1, d2, l1, l2, hP, hQ⟩ := K _ xa xb hX ha hb
  have haa : aa = some ⟨g2, off2, none⟩ := by
    simp only [Value.slice.injEq] at hv2
    exact hv2.1
  obtain ⟨u, h1, h2, h3, h4, h5, h6, h7, h8, h9, h10, h11, hc⟩ := KN m [ua, ub] rfl (by show (2 : Nat) ≤ 1000000; omega) (fun i t e => by
    refine ⟨g2, off2, haa, ?_⟩
    match i, e with
    | 0, e => simp at e; subst e; rw [l1]; simp
    | 1, e => simp at e; subst e; rw [l2]
    | i + 2, e => simp at e) (fun t ht => by
    simp only [List.mem_cons, List.not_mem_nil, or_false] at ht
    rcases ht with rfl | rfl
    · exact d1
    · exact d2)
  exact ⟨g, off, cap, u, ua, ub, hv, hle, hg, h1, h2, h3, ⟨h4.trans e1, h5.trans e2, h6, by rw [h7, e4]; rfl, by rw [h8, e5]; rfl, h9, h10, h11⟩, hP, hQ, hc⟩
theorem leaves_of {w : World} {A : Nat → Prop} {v' : Value} {xa xb : PEx} {q r : UInt8} {p p' : Int} (h : XsR w A v' [xa, xb]) (ha : pkE xa = pkE (nmX q p)) (hb : pkE xb = pkE (nmX r p')) (m : Nat) :
    ∃ (g off cap : Nat) (ua ub : Lx.ET (m + 1)), v' = .slice (some ⟨g, off, none⟩) 2 cap ∧ Lx.ERd (m + 1) w ua ∧ Lx.ERd (m + 1) w ub ∧ Lx.eAt (m + 1) ua = (g, off) ∧ Lx.eAt (m + 1) ub = (g, off + 8) ∧ (ua.2 = [] ∧ LeafB q ua.1) ∧ ub.2 = [] ∧ LeafB r ub.1 := by
  obtain ⟨g, off, cap, u, hv, d1, b1, o1, L1⟩ := leaf_of h (j := 0) rfl ha m
  obtain ⟨g2, off2, cap2, u2, hv2, d2, b2, o2, L2⟩ := leaf_of h (j := 1) rfl hb m
  rw [hv] at hv2
  simp only [Value.slice.injEq, Option.some.injEq, Addr.mk.injEq] at hv2
  obtain ⟨⟨rfl, rfl, _⟩, _, _⟩ := hv2
  refine ⟨g, off, cap, (u, []), (u2, []), hv, d1, d2, ?_, ?_, ⟨rfl, L1⟩, rfl, L2⟩
  · exact Prod.ext b1 (o1.trans (by omega))
  · exact Prod.ext b2 (o2.trans (by omega))
end Go.Proofs.YtcnohgifihbkdaaGreatDoor

namespace Go.Proofs.YtcnohgifihbkdaaGreatDoor
open Go Go.RowKit Go.Deep Go.Shelf
set_option linter.unusedVariables false
set_option linter.unusedSimpArgs false
set_option maxRecDepth 100000
def wA1 : Bsq := [40, 120, 32]
def wA2 : Bsq := [32, 121, 41, 32]
def wA3 : Bsq := [32, 122]
def wC1 : Bsq := [120, 32]
def wC2 : Bsq := [32, 40, 121, 32]
def wC3 : Bsq := [32, 122, 41]
def wA (i k : Nat) : Bsq := (((wA1 ++ sgB i) ++ wA2) ++ sgB k) ++ wA3
def wC (i k : Nat) : Bsq := (((wC1 ++ sgB i) ++ wC2) ++ sgB k) ++ wC3
def wantB (i k : Nat) : Bsq := if rkB i < rkB k then wC i k else wA i k
theorem sgn_is {i : Nat} (h : i < 17) : Lx.bs (Lx.sgnS (opB i)) = sgB i ∧ 1 ≤ opB i ∧ opB i ≤ 17 ∧ (sgB i).length ≤ 3 := by
  match i, h with
  | 0, _ => exact ⟨by kernel_rfl, by decide, by decide, by decide⟩
  | 1, _ => exact ⟨by kernel_rfl, by decide, by decide, by decide⟩
  | 2, _ => exact ⟨by kernel_rfl, by decide, by decide, by decide⟩
  | 3, _ => exact ⟨by kernel_rfl, by decide, by decide, by decide⟩
  | 4, _ => exact ⟨by kernel_rfl, by decide, by decide, by decide⟩
  | 5, _ => exact ⟨by kernel_rfl, by decide, by decide, by decide⟩
  | 6, _ => exact ⟨by kernel_rfl, by decide, by decide, by decide⟩
  | 7, _ => exact ⟨by kernel_rfl, by decide, by decide, by decide⟩
  | 8, _ => exact ⟨by kernel_rfl, by decide, by decide, by decide⟩
  | 9, _ => exact ⟨by kernel_rfl, by decide, by decide, by decide⟩
  | 10, _ => exact ⟨by kernel_rfl, by decide, by decide, by decide⟩
  | 11, _ => exact ⟨by kernel_rfl, by decide, by decide, by decide⟩
  | 12, _ => exact ⟨by kernel_rfl, by decide, by decide, by decide⟩
  | 13, _ => exact ⟨by kernel_rfl, by decide, by decide, by decide⟩
  | 14, _ => exact ⟨by kernel_rfl, by decide, by decide, by decide⟩
  | 15, _ => exact ⟨by kernel_rfl, by decide, by decide, by decide⟩
  | 16, _ => exact ⟨by kernel_rfl, by decide, by decide, by decide⟩
  | i + 17, h => exact absurd h (by omega)
theorem pr_leaf {m : Nat} {u : Lx.ET (m + 1)} {q : UInt8} (h : LeafB q u.1) : Lx.prE (m + 1) u = [q] := by
  show Lx.prH u.1 _ _ = [q]
  obtain ⟨h1, h2, h3, h4, h5, h6, h7, h8⟩ := h
  simp [Lx.prH, h1, h5, Lx.bs]
theorem brk_leaf {h a : Lx.EH} {q : UInt8} (l : LeafB q a) : Lx.brk h a = false := by
  obtain ⟨h1, _⟩ := l
  simp [Lx.brk, h1]
theorem brk_node {h a : Lx.EH} {o : Int} (l : NodeB o a) : Lx.brk h a = true := by
  obtain ⟨h1, _⟩ := l
  simp [Lx.brk, h1]
theorem pr_node {m : Nat} {u : Lx.ET (m + 2)} {ua ub : Lx.ET (m + 1)} {o : Int} (hu : u.2 = [ua, ub]) (h : NodeB o u.1) : Lx.prE (m + 2) u = Lx.argB u.1 ua.1 (Lx.prE (m + 1) ua) ++ (32 :: (Lx.bs (Lx.sgnS o) ++ (32 :: Lx.argB u.1 ub.1 (Lx.prE (m + 1) ub)))) := by
  show Lx.prH u.1 (u.2.map (Lx.eH (m + 1))) (u.2.map (Lx.prE (m + 1))) = _
  obtain ⟨h1, h2, _⟩ := h
  rw [hu]
  simp [Lx.prH, h1, h2, Lx.on2, Lx.eH]
theorem dp_leaf {m : Nat} {u : Lx.ET (m + 1)} {q : UInt8} (h : LeafB q u.1) : Lx.dpE (m + 1) u = 0 := by
  show Lx.dpH u.1 _ _ = 0
  obtain ⟨h1, _⟩ := h
  simp [Lx.dpH, h1]
theorem dp_arg (h a : Lx.EH) (d : Nat) : Lx.argD h a d ≤ 1 + d := by
  unfold Lx.argD; split <;> omega
theorem dp_node {m : Nat} {u : Lx.ET (m + 2)} {ua ub : Lx.ET (m + 1)} {o : Int} (hu : u.2 = [ua, ub]) (h : NodeB o u.1) : Lx.dpE (m + 2) u ≤ 1 + max (Lx.dpE (m + 1) ua) (Lx.dpE (m + 1) ub) := by
  show Lx.dpH u.1 (u.2.map (Lx.eH (m + 1))) (u.2.map (Lx.dpE (m + 1))) ≤ _
  obtain ⟨h1, h2, _⟩ := h
  rw [hu]
  have e1 := dp_arg u.1 ua.1 (Lx.dpE (m + 1) ua)
  have e2 := dp_arg u.1 ub.1 (Lx.dpE (m + 1) ub)
  simp [Lx.dpH, h1, Lx.on2, Lx.eH]
  omega
theorem right_leaf {h : Lx.EH} {q : UInt8} (l : LeafB q h) (hq : Lx.smallB ⟨#[q]⟩ = true) : Lx.rightP (.inr (.inr h)) = true := by
  obtain ⟨h1, h2, h3, h4, h5, h6, h7, h8⟩ := l
  show Lx.rightE h = true
  simp [Lx.rightE, Lx.okE, Lx.alikeE, Lx.meantE, h1, h2, h3, h4, h5, h6, h7, h8, hq]
theorem right_node {h : Lx.EH} {o : Int} (l : NodeB o h) (o1 : 1 ≤ o) (o2 : o ≤ 17) : Lx.rightP (.inr (.inr h)) = true := by
  obtain ⟨h1, h2, h3, h4, h5, h6, h7, h8⟩ := l
  show Lx.rightE h = true
  simp [Lx.rightE, Lx.okE, Lx.alikeE, Lx.meantE, h1, h2, h3, h4, h5, h6, h7, h8, o1, o2]
theorem ok_leaf {m : Nat} {u : Lx.ET (m + 1)} {q : UInt8} (hu : u.2 = []) (l : LeafB q u.1) (hq : Lx.smallB ⟨#[q]⟩ = true) : Lx.okAll (m + 1) u := by
  intro p hp
  rcases List.mem_cons.1 hp with rfl | hp
  · exact right_leaf l hq
  · rw [hu] at hp; simp at hp
theorem ok_node {m : Nat} {u : Lx.ET (m + 2)} {ua ub : Lx.ET (m + 1)} {o : Int} (hu : u.2 = [ua, ub]) (l : NodeB o u.1) (o1 : 1 ≤ o) (o2 : o ≤ 17) (ha : Lx.okAll (m + 1) ua) (hb : Lx.okAll (m + 1) ub) : Lx.okAll (m + 2) u := by
  intro p hp
  rcases List.mem_cons.1 hp with rfl | hp
  · exact right_node l o1 o2
  · rw [hu] at hp
    simp only [List.flatMap_cons, List.flatMap_nil, List.append_nil, List.mem_append] at hp
    rcases hp with hp | hp
    · exact ha p hp
    · exact hb p hp
theorem smX : Lx.smallB ⟨#[120]⟩ = true := by kernel_rfl
theorem smY : Lx.smallB ⟨#[121]⟩ = true := by kernel_rfl
theorem smZ : Lx.smallB ⟨#[122]⟩ = true := by kernel_rfl
/- The one argument of the one statement. -/
theorem top_of {w : World} {A : Nat → Prop} {v : Value} {x : PEx} {i k : Nat} (hi : i < 17) (hk : k < 17) (h : XsR w A v [x]) (hx : pkE x = pkE (eB i k)) :
    ∃ (g off cap : Nat) (t : Lx.ET 3), v = .slice (some ⟨g, off, none⟩) 1 cap ∧ 1 ≤ cap ∧ g < w.heap.size ∧ Lx.ERd 3 w t ∧ (∀ j, j < 8 → w.cell? ⟨g, off + j, none⟩ = t.1.cs[j]?) ∧ Lx.okAll 3 t ∧ Lx.prE 3 t = wantB i k ∧ Lx.dpE 3 t ≤ 2 := by
  obtain ⟨s1, s2, s3, _⟩ := sgn_is hi
  obtain ⟨r1, r2, r3, _⟩ := sgn_is hk
  unfold eB at hx
  unfold wantB
  split at hx
  · rename_i hlt
    rw [if_pos hlt]
    obtain ⟨g, off, cap, u, ua, ub, hv, hc, hg, hE, hb, ho, hN, ⟨ha2, hA⟩, ⟨uc, ud, hB2, hB, ⟨hc2, hC⟩, hd2, hD⟩, hcell⟩ := twoB_of (m := 2) (P := fun ua => ua.2 = [] ∧ LeafB 120 ua.1) (Q := fun ub => ∃ uc ud : Lx.ET 1, ub.2 = [uc, ud] ∧ NodeB (opB k) ub.1 ∧ (uc.2 = [] ∧ LeafB 121 uc.1) ∧ ud.2 = [] ∧ LeafB 122 ud.1) h (j := 0) rfl hx (fun v' xa xb hX e1 e2 => by
      obtain ⟨g, off, cap, u, hv, d1, b1, o1, L1⟩ := leaf_of hX (j := 0) rfl e1 1
      obtain ⟨g2, off2, cap2, u2, uc, ud, hv2, _, _, d2, b2, o2, N2, P2, Q2, _⟩ := twoB_of (m := 1) (P := fun uc => uc.2 = [] ∧ LeafB 121 uc.1) (Q := fun ud => ud.2 = [] ∧ LeafB 122 ud.1) hX (j := 1) rfl e2 (fun v'' ya yb hY f1 f2 => leaves_of hY f1 f2 0)
      rw [hv] at hv2
      simp only [Value.slice.injEq, Option.some.injEq, Addr.mk.injEq] at hv2
      obtain ⟨⟨rfl, rfl, _⟩, _, _⟩ := hv2
      exact ⟨g, off, cap, (u, []), (u2, [uc, ud]), hv, d1, d2, Prod.ext b1 (o1.trans (by omega)), Prod.ext b2 (o2.trans (by omega)), ⟨rfl, L1⟩, uc, ud, rfl, N2, P2, Q2⟩)
    refine ⟨g, off, cap, (u, [ua, ub]), hv, hc, hg, hE, fun j hj => ?_, ?_, ?_, ?_⟩
    · have := hcell j hj
      rw [Nat.zero_mul, Nat.add_zero] at this
      exact this
    · exact ok_node (m := 1) (u := ((u, [ua, ub]) : Lx.ET 3)) rfl hN s2 s3 (ok_leaf ha2 hA smX) (ok_node (m := 0) hB2 hB r2 r3 (ok_leaf hc2 hC smY) (ok_leaf hd2 hD smZ))
    · refine (pr_node (m := 1) (u := ((u, [ua, ub]) : Lx.ET 3)) rfl hN).trans ?_
      rw [pr_leaf hA, pr_node (m := 0) hB2 hB, pr_leaf hC, pr_leaf hD]
      simp only [Lx.argB, brk_leaf hA, brk_leaf hC, brk_leaf hD, brk_node hB, s1, r1, if_true, Bool.false_eq_true, if_false]
      simp [wC, wC1, wC2, wC3]
    · have q : Lx.dpE 3 ((u, [ua, ub]) : Lx.ET 3) ≤ 1 + max (Lx.dpE 2 ua) (Lx.dpE 2 ub) := dp_node (m := 1) (u := ((u, [ua, ub]) : Lx.ET 3)) rfl hN
      have q1 : Lx.dpE 2 ua = 0 := dp_leaf (m := 1) hA
      have q2 : Lx.dpE 2 ub ≤ 1 + max (Lx.dpE 1 uc) (Lx.dpE 1 ud) := dp_node (m := 0) hB2 hB
      have q3 : Lx.dpE 1 uc = 0 := dp_leaf (m := 0) hC
      have q4 : Lx.dpE 1 ud = 0 := dp_leaf (m := 0) hD
      omega
  · rename_i hlt
    rw [if_neg hlt]
    obtain ⟨g, off, cap, u, ua, ub, hv, hc, hg, hE, hb, ho, hN, ⟨uc, ud, hB2, hB, ⟨hc2, hC⟩, hd2, hD⟩, ⟨ha2, hA⟩, hcell⟩ := twoB_of (m := 2) (Q := fun ua => ua.2 = [] ∧ LeafB 122 ua.1) (P := fun ub => ∃ uc ud : Lx.ET 1, ub.2 = [uc, ud] ∧ NodeB (opB i) ub.1 ∧ (uc.2 = [] ∧ LeafB 120 uc.1) ∧ ud.2 = [] ∧ LeafB 121 ud.1) h (j := 0) rfl hx (fun v' xa xb hX e1 e2 => by
      obtain ⟨g, off, cap, u, hv, d1, b1, o1, L1⟩ := leaf_of hX (j := 1) rfl e2 1
      obtain ⟨g2, off2, cap2, u2, uc, ud, hv2, _, _, d2, b2, o2, N2, P2, Q2, _⟩ := twoB_of (m := 1) (P := fun uc => uc.2 = [] ∧ LeafB 120 uc.1) (Q := fun ud => ud.2 = [] ∧ LeafB 121 ud.1) hX (j := 0) rfl e1 (fun v'' ya yb hY f1 f2 => leaves_of hY f1 f2 0)
      rw [hv] at hv2
      simp only [Value.slice.injEq, Option.some.injEq, Addr.mk.injEq] at hv2
      obtain ⟨⟨rfl, rfl, _⟩, _, _⟩ := hv2
      exact ⟨g, off, cap, (u2, [uc, ud]), (u, []), hv, d2, d1, Prod.ext b2 (o2.trans (by omega)), Prod.ext b1 (o1.trans (by omega)), ⟨uc, ud, rfl, N2, P2, Q2⟩, rfl, L1⟩)
    refine ⟨g, off, cap, (u, [ua, ub]), hv, hc, hg, hE, fun j hj => ?_, ?_, ?_, ?_⟩
    · have := hcell j hj
      rw [Nat.zero_mul, Nat.add_zero] at this
      exact this
    · exact ok_node (m := 1) (u := ((u, [ua, ub]) : Lx.ET 3)) rfl hN r2 r3 (ok_node (m := 0) hB2 hB s2 s3 (ok_leaf hc2 hC smX) (ok_leaf hd2 hD smY)) (ok_leaf ha2 hA smZ)
    · refine (pr_node (m := 1) (u := ((u, [ua, ub]) : Lx.ET 3)) rfl hN).trans ?_
      rw [pr_leaf hA, pr_node (m := 0) hB2 hB, pr_leaf hC, pr_leaf hD]
      simp only [Lx.argB, brk_leaf hA, brk_leaf hC, brk_leaf hD, brk_node hB, s1, r1, if_true, Bool.false_eq_true, if_false]
      simp [wA, wA1, wA2, wA3]
    · have q : Lx.dpE 3 ((u, [ua, ub]) : Lx.ET 3) ≤ 1 + max (Lx.dpE 2 ua) (Lx.dpE 2 ub) := dp_node (m := 1) (u := ((u, [ua, ub]) : Lx.ET 3)) rfl hN
      have q1 : Lx.dpE 2 ub = 0 := dp_leaf (m := 1) hA
      have q2 : Lx.dpE 2 ua ≤ 1 + max (Lx.dpE 1 uc) (Lx.dpE 1 ud) := dp_node (m := 0) hB2 hB
      have q3 : Lx.dpE 1 uc = 0 := dp_leaf (m := 0) hC
      have q4 : Lx.dpE 1 ud = 0 := dp_leaf (m := 0) hD
      omega
end Go.Proofs.YtcnohgifihbkdaaGreatDoor

