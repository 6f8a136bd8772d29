/- The printer: labels, jumps, blocks. -/
import Derived.Test.YtcnohgifihbkdaaGreatDoorJBA
namespace Go.Proofs.YtcnohgifihbkdaaGreatDoor.Lx
open Go.RowKit Go.Deep
set_option linter.unusedVariables false
set_option linter.unusedSimpArgs false

def lbB (s : ByteArray) : List UInt8 := if s.toList = [] then [] else bs s ++ [58, 32]
def jpB (word s : ByteArray) : List UInt8 := bs word ++ (if s.toList = [] then [] else 32 :: bs s)
/- Whatever is printed of a statement of k levels. -/
def StSaid (k : Nat) (pr : ST k → List UInt8) (dp : ST k → Nat) (ok : ST k → Prop) : Prop := ∀ (w0 : World) (t : ST k) (B b : Nat) (l : List UInt8) (op mo : Nat) (w : World), SRds k w0 t → ok t → EnvT w0 → w0.heap.size ≤ B → Below w0.heap.size w0 w → B ≤ w.heap.size → Prn w B b l op mo → l.length + (pr t).length ≤ 900000000 → op + dp t ≤ 900000000 → mo ≤ 900000000 → op ≤ mo →
    Calls Tryz.prog 191 #[.pointer (some ⟨b, 0, none⟩), .pointer (some ⟨(sH k t).b, (sH k t).o, none⟩)] w (PrP w B b (l ++ pr t) op (max mo (op + dp t)))
def bkB (ps : List (List UInt8)) : List UInt8 := 32 :: 123 :: ((ps.flatMap fun p => 32 :: p) ++ [32, 125])
theorem fl_take {α : Type} (f : α → List UInt8) {ts : List α} {i : Nat} {t : α} (h : ts[i]? = some t) : ((ts.take (i + 1)).map f).flatMap (fun p => 32 :: p) = ((ts.take i).map f).flatMap (fun p => 32 :: p) ++ (32 :: f t) := by
  rw [List.take_add_one, h]; simp [List.flatMap_append]
theorem fl_pre {α : Type} (f : α → List UInt8) (ts : List α) (i : Nat) : (((ts.take i).map f).flatMap (fun p => 32 :: p)).length ≤ ((ts.map f).flatMap (fun p => 32 :: p)).length := by
  have : (ts.map f).flatMap (fun p => (32 : UInt8) :: p) = ((ts.take i).map f).flatMap (fun p => 32 :: p) ++ ((ts.drop i).map f).flatMap (fun p => 32 :: p) := by
    rw [← List.flatMap_append, ← List.map_append, List.take_append_drop]
  rw [this, List.length_append]; omega
set_option maxRecDepth 100000 in
set_option maxHeartbeats 1000000 in
theorem block_of (k : Nat) (pr : ST k → List UInt8) (dp : ST k → Nat) (ok : ST k → Prop) (ih : StSaid k pr dp ok) (w0 : World) (aa : Option Addr) (an ac : Nat) (ts : List (ST k)) (hn : an = ts.length) (han : an ≤ 1000000) (dl : LiesAt 8 aa (sAt k) ts) (hr : ∀ t ∈ ts, SRds k w0 t) (hok : ∀ t ∈ ts, ok t) (B b : Nat) (l : List UInt8) (op mo : Nat) (w : World) (hE : EnvT w0) (h0 : w0.heap.size ≤ B) (hb : Below w0.heap.size w0 w) (hB : B ≤ w.heap.size) (hp : Prn w B b l op mo)
    (hl : l.length + (bkB (ts.map pr)).length ≤ 900000000) (ho : op + (1 + mxL (ts.map dp)) ≤ 900000000) (hm : mo ≤ 900000000) :
    Calls Tryz.prog 170 #[.pointer (some ⟨b, 0, none⟩), .slice aa an ac] w (PrP w B b (l ++ bkB (ts.map pr)) op (max mo (op + (1 + mxL (ts.map dp))))) := by
  have hc1 : catL [⟨#[32, 123]⟩] = [32, 123] := by simp [catL]
  have hanI : (an : Int) ≤ 1000000 := by omega
  unfold bkB at hl ⊢
  simp only [List.length_cons, List.length_append, List.length_nil] at hl
  have K1 := hid (enter_new w B b l op mo hp (by omega) (by omega) [⟨#[32, 123]⟩] 1 rfl (by omega) hB (by rw [hc1]; simp; omega))
  simp only [hc1, List.map_cons, List.map_nil] at K1
  obtain ⟨L, hL⟩ : ∃ L, L = l ++ [32, 123] := ⟨_, rfl⟩
  have hLl : L.length = l.length + 2 := by rw [hL]; simp
  rw [← hL] at K1
  obtain ⟨M1, hM1⟩ : ∃ M1, M1 = max mo (op + 1) := ⟨_, rfl⟩
  rw [← hM1] at K1
  have hc2 : catL [⟨#[32]⟩] = [32] := by simp [catL]
  have KC := hid (fun (i : Nat) (t : ST k) (ht : ts[i]? = some t) (w1 : World) (h1 : Below B w w1) (mo1 : Nat) (hp1 : Prn w1 B b (L ++ ((ts.take i).map pr).flatMap (fun p => 32 :: p)) (op + 1) mo1) => write_new w1 B b _ (op + 1) mo1 hp1 [⟨#[32]⟩] 1 rfl (by omega) (Nat.le_trans hB h1.size) (by
    have := fl_pre pr ts i
    rw [hc2, List.length_append, hLl]; simp only [List.length_cons, List.length_nil]; omega))
  simp only [hc2, List.map_cons, List.map_nil] at KC
  have K2 := hid (fun (i : Nat) (t : ST k) (ht : ts[i]? = some t) (w1 : World) (h1 : Below B w w1) (hp1 : Prn w1 B b (L ++ ((ts.take i).map pr).flatMap (fun p => 32 :: p) ++ [32]) (op + 1) (max M1 (op + 1 + mxL ((ts.take i).map dp)))) => ih w0 t B b _ (op + 1) _ w1 (hr t (List.mem_of_getElem? ht)) (hok t (List.mem_of_getElem? ht)) hE h0 (hb.trans (h1.mono h0)) (Nat.le_trans hB h1.size) hp1 (by
    have h2 := fl_pre pr ts (i + 1)
    rw [fl_take pr ht] at h2
    simp only [List.length_append, List.length_cons, List.length_nil, hLl] at h2 ⊢
    omega) (by
    have h2 := mx_pre dp ts (i + 1)
    rw [mx_take dp ht] at h2
    omega) (by
    have h2 := mx_pre dp ts i
    omega) (by omega))
  have K3 := hid (fun (w2 : World) (h1 : Below B w w2) (hp2 : Prn w2 B b (L ++ (ts.map pr).flatMap (fun p => 32 :: p)) (op + 1) (max M1 (op + 1 + mxL (ts.map dp)))) => leave_any w2 B b _ op _ hp2 (by omega) ⟨#[32, 125]⟩ (Nat.le_trans hB h1.size) (by rw [show (⟨#[32, 125]⟩ : ByteArray).size = 2 from rfl, List.length_append, hLl]; omega))
  have HF : Hid (max M1 (op + 1 + mxL (ts.map dp)) = max mo (op + (1 + mxL (ts.map dp)))) := hid (by omega)
  have HLe : Hid (L ++ (ts.map pr).flatMap (fun p => 32 :: p) ++ [32, 125] = l ++ (32 :: 123 :: (((ts.map pr).flatMap fun p => 32 :: p) ++ [32, 125]))) := hid (by rw [hL]; simp)
  have HM0 : Hid (max M1 (op + 1 + 0) = M1) := hid (by omega)
  have HN := hid hn
  have DL := hid dl
  clear hr hok hE h0 hb hp hl ho hm hc1 hc2 ih hL hLl hM1 hn dl
  go_enter Tryz.func170, Tryz.ntmps170
  go_wp2_with (go_at_call 136; (refine (Hid.out K1).mono ?_; rintro e w1 ⟨rfl, hp1, hk1⟩; have HP1 := hid hp1; have HK1 := hid hk1; clear hp1 hk1))
  go_loopg [10] an (fun g x wr => ∃ i : Nat, i + g = an ∧ x = .int .i64 (i : Int) ∧ Prn wr B b (L ++ ((ts.take i).map pr).flatMap (fun p => 32 :: p)) (op + 1) (max M1 (op + 1 + mxL ((ts.take i).map dp))) ∧ Kpt B b w wr)
  case atStart => exact ⟨0, by omega, rfl, HP1.out.eq (by simp) (by have := HM0.out; simpa [mxL] using this.symm), HK1.out⟩
  case round =>
    obtain ⟨i, hi, rfl, hp2, hk2⟩ := hrel
    cases gk with
    | zero =>
      have hin : i = an := by omega
      subst hin
      rw [HN.out, List.take_of_length_le (Nat.le_refl _)] at hp2
      have K3' := hid (K3.out wr hk2.1 hp2)
      have HK2 := hid hk2
      clear hi hp2 hk2
      go_wp2_with (go_at_call 138; (refine (Hid.out K3').mono ?_; rintro e w3 ⟨rfl, hp3, hk3⟩))
      go_end0
      exact ⟨rfl, hp3.eq HLe.out HF.out, HK2.out.trans hk3⟩
    | succ g =>
      have hil : (i : Int) < (an : Int) := by omega
      have hi0 : (0 : Int) ≤ (i : Int) := by omega
      obtain ⟨t, ht⟩ : ∃ t, ts[i]? = some t := ⟨ts[i]'(by rw [← HN.out]; omega), List.getElem?_eq_getElem _⟩
      obtain ⟨ab, aoff, eaa, hat⟩ := DL.out i t ht
      subst eaa
      simp only [sAt, Prod.mk.injEq] at hat
      have KC' := hid (KC.out i t ht wr hk2.1 _ hp2)
      have K2' := hid (K2.out i t ht)
      simp only [hat.1, hat.2] at K2'
      have HJ := hid (fl_take pr ht)
      have HM := hid (mx_take dp ht)
      have HK2 := hid hk2
      have Hi := hid hi
      clear hp2 hk2 hat ht hi
      go_wp2_with (first
        | (go_at_call 129; (refine (Hid.out KC').mono ?_; rintro e w2 ⟨rfl, hp3, hk3⟩; have HK3 := hid (HK2.out.trans hk3); have K4 := hid (K2'.out w2 HK3.out.1 hp3); clear hp3 hk3))
        | (go_at_call 191; (refine (Hid.out K4).mono ?_; rintro e w3 ⟨rfl, hp4, hk4⟩)))
      go_roundg g
      case measure => omega
      case rel => exact ⟨i + 1, by have := Hi.out; omega, by go_num, hp4.eq (by rw [HJ.out]; simp) (by rw [HM.out]; omega), HK3.out.trans hk4⟩
end Go.Proofs.YtcnohgifihbkdaaGreatDoor.Lx

namespace Go.Proofs.YtcnohgifihbkdaaGreatDoor.Lx
open Go.RowKit Go.Deep
set_option linter.unusedVariables false
set_option linter.unusedSimpArgs false

def h1 {β γ : Type} (ps : List β) (f : β → γ) (z : γ) : γ := match ps with
  | p :: _ => f p
  | _ => z
def h2 {β γ : Type} (ps : List β) (f : β → β → γ) (z : γ) : γ := match ps with
  | p :: q :: _ => f p q
  | _ => z
def sLet : ByteArray := ⟨#[108, 101, 116, 32]⟩
def sEq : ByteArray := ⟨#[32, 61, 32]⟩
def sDel : ByteArray := ⟨#[100, 101, 108, 32]⟩
def sBreak : ByteArray := ⟨#[98, 114, 101, 97, 107]⟩
def sCont : ByteArray := ⟨#[99, 111, 110, 116, 105, 110, 117, 101]⟩
def sRet : ByteArray := ⟨#[114, 101, 116, 117, 114, 110]⟩
def sEmit : ByteArray := ⟨#[101, 109, 105, 116, 32]⟩
def sAfter : ByteArray := ⟨#[97, 102, 116, 101, 114, 32]⟩
def sDo : ByteArray := ⟨#[100, 111, 32]⟩
/- What is written of a statement without a block, but for its end. -/
def smB (h : SH) (ps : List (List UInt8)) : List UInt8 :=
  if h.kind = 1 then h1 ps (fun p => catL [sLet, h.name, sEq] ++ p) [] else
  if h.kind = 2 then h1 ps (fun p => catL [h.name, sEq] ++ p) [] else
  if h.kind = 3 then h2 ps (fun p q => bs h.name ++ (91 :: (p ++ [93])) ++ catL [sEq] ++ q) [] else
  if h.kind = 4 then h1 ps (fun p => catL [sDel] ++ (bs h.name ++ (91 :: (p ++ [93])))) [] else
  if h.kind = 8 then jpB sBreak h.name else
  if h.kind = 9 then jpB sCont h.name else
  if h.kind = 10 then catL [sRet] ++ h1 ps (fun p => 32 :: p) [] else
  if h.kind = 11 then h1 ps (fun p => catL [sEmit] ++ p) [] else
  if h.kind = 12 then h1 ps (fun p => catL [sAfter] ++ p ++ [32] ++ (bs h.name ++ (40 :: (jn ps.tail ++ [41])))) [] else h1 ps (fun p => catL [sDo] ++ p) []
def smD (h : SH) (ds : List Nat) : Nat :=
  if h.kind = 3 then h2 ds (fun d e => max (1 + d) e) 0 else
  if h.kind = 4 then h1 ds (fun d => 1 + d) 0 else
  if h.kind = 8 ∨ h.kind = 9 then 0 else
  if h.kind = 12 then h1 ds (fun d => max d (1 + mxL ds.tail)) 0 else h1 ds (fun d => d) 0
theorem okS_of {h : SH} (hR : rightS h = true) : okS h = true := by unfold rightS at hR; simp only [Bool.and_eq_true] at hR; exact hR.1

end Go.Proofs.YtcnohgifihbkdaaGreatDoor.Lx

namespace Go.Proofs.YtcnohgifihbkdaaGreatDoor.Lx
open Go.RowKit Go.Deep
set_option linter.unusedVariables false
set_option linter.unusedSimpArgs false

theorem LiesAt.tl {α : Type} {z : Nat} {b off : Nat} {at' : α → Nat × Nat} {t : α} {ts : List α} (h : LiesAt z (some ⟨b, off, none⟩) at' (t :: ts)) : LiesAt z (some ⟨b, off + z, none⟩) at' ts := by
  intro j u hj
  obtain ⟨b', off', e, ha⟩ := h (j + 1) u (by simpa using hj)
  simp at e
  refine ⟨b, off + z, rfl, ?_⟩
  rw [ha, ← e.1, ← e.2, Nat.add_mul, Nat.one_mul, Nat.add_assoc, Nat.add_comm z]

end Go.Proofs.YtcnohgifihbkdaaGreatDoor.Lx

namespace Go.Proofs.YtcnohgifihbkdaaGreatDoor.Lx
open Go.RowKit Go.Deep
set_option linter.unusedVariables false
set_option linter.unusedSimpArgs false

def sIf : ByteArray := ⟨#[105, 102, 32]⟩
def sElse : ByteArray := ⟨#[32, 101, 108, 115, 101]⟩
def sWhile : ByteArray := ⟨#[119, 104, 105, 108, 101, 32]⟩
def sEach : ByteArray := ⟨#[101, 97, 99, 104, 32]⟩
def sIn : ByteArray := ⟨#[32, 105, 110, 32]⟩
def stB (h : SH) (pe pb pl : List (List UInt8)) : List UInt8 :=
  if h.kind = 5 then catL [sIf] ++ h1 pe (fun p => p) [] ++ bkB pb ++ (if h.en = 0 then [] else catL [sElse] ++ bkB pl) else
  if h.kind = 6 then lbB h.label ++ catL [sWhile] ++ h1 pe (fun p => p) [] ++ bkB pb else
  if h.kind = 7 then lbB h.label ++ catL [sEach, h.var, sIn, h.name] ++ bkB pb else smB h pe ++ [59]
def stD (h : SH) (de db dl : List Nat) : Nat :=
  if h.kind = 5 then max (h1 de (fun d => d) 0) (max (1 + mxL db) (if h.en = 0 then 0 else 1 + mxL dl)) else
  if h.kind = 6 then max (h1 de (fun d => d) 0) (1 + mxL db) else
  if h.kind = 7 then 1 + mxL db else smD h de

def prS : (k : Nat) → ST k → List UInt8
  | 0, _ => []
  | k + 1, t => stB t.1 (t.2.1.map (prE k)) (t.2.2.1.map (prS k)) (t.2.2.2.map (prS k))
def dpS : (k : Nat) → ST k → Nat
  | 0, _ => 0
  | k + 1, t => stD t.1 (t.2.1.map (dpE k)) (t.2.2.1.map (dpS k)) (t.2.2.2.map (dpS k))
end Go.Proofs.YtcnohgifihbkdaaGreatDoor.Lx

namespace Go.Proofs.YtcnohgifihbkdaaGreatDoor.Lx
open Go.RowKit Go.Deep
set_option linter.unusedVariables false
set_option linter.unusedSimpArgs false

def sCol : ByteArray := ⟨#[58, 32]⟩
def pmB (p : ByteArray × ByteArray) : List UInt8 := catL [p.1, sCol, p.2]
set_option maxRecDepth 100000 in
set_option maxHeartbeats 1000000 in
theorem printParams_any (w0 : World) (a : Option Addr) (n c : Nat) (ps : List (ByteArray × ByteArray)) (hn : n = ps.length) (hna : n ≤ 1000000) (hr : PLs w0 a ps) (B b : Nat) (l : List UInt8) (op mo : Nat) (w : World) (h0 : w0.heap.size ≤ B) (hb : Below w0.heap.size w0 w) (hB : B ≤ w.heap.size) (hp : Prn w B b l op mo) (hl : l.length + (jn (ps.map pmB)).length ≤ 900000000) :
    Calls Tryz.prog 169 #[.pointer (some ⟨b, 0, none⟩), .slice a n c] w (PrP w B b (l ++ jn (ps.map pmB)) op mo) := by
  have hnI : (n : Int) ≤ 1000000 := by omega
  have KC := hid (fun (i : Nat) (p : ByteArray × ByteArray) (ht : ps[i]? = some p) (w1 : World) (h1 : Below B w w1) (hp1 : Prn w1 B b (l ++ jn ((ps.take i).map pmB)) op mo) => comma_any w1 B b _ op mo hp1 i (by have := (List.getElem?_eq_some_iff.1 ht).1; omega) (Nat.le_trans hB h1.size) (by
    have := jn_pre pmB ps i
    rw [List.length_append]; omega))
  have K2 := hid (fun (i : Nat) (p : ByteArray × ByteArray) (ht : ps[i]? = some p) (w1 : World) (h1 : Below B w w1) (hp1 : Prn w1 B b (l ++ jn ((ps.take i).map pmB) ++ commaB i) op mo) => write_new w1 B b _ op mo hp1 [p.1, sCol, p.2] 3 rfl (by omega) (Nat.le_trans hB h1.size) (by
    have h2 := jn_pre pmB ps (i + 1)
    rw [jn_take pmB ht] at h2
    simp only [List.length_append, pmB] at h2 ⊢
    omega))
  simp only [List.map_cons, List.map_nil] at K2
  have PL := hid (fun (w1 : World) (h1 : Below B w w1) => hr.below (Nat.le_refl _) (hb.trans (h1.mono h0)))
  have HP := hid hp
  have HN := hid hn
  have HB := hid hB
  clear hr hp hl hb hn
  go_enter Tryz.func169, Tryz.ntmps169
  go_wp2
  go_loopg [8] n (fun g x wr => ∃ i : Nat, i + g = n ∧ x = .int .i64 (i : Int) ∧ Prn wr B b (l ++ jn ((ps.take i).map pmB)) op mo ∧ Kpt B b w wr)
  case atStart => exact ⟨0, by omega, rfl, HP.out.eq (by simp [jn]) rfl, Kpt.refl _ _ _⟩
  case round =>
    obtain ⟨i, hi, rfl, hp2, hk2⟩ := hrel
    cases gk with
    | zero =>
      have hin : i = n := by omega
      subst hin
      rw [HN.out, List.take_of_length_le (Nat.le_refl _)] at hp2
      have HP2 := hid hp2
      have HK2 := hid hk2
      clear hi hp2 hk2
      go_wp2
      go_end0
      exact ⟨rfl, HP2.out, HK2.out⟩
    | succ g =>
      have hil : (i : Int) < (n : Int) := by omega
      have hi0 : (0 : Int) ≤ (i : Int) := by omega
      obtain ⟨⟨s, u⟩, hs⟩ : ∃ s, ps[i]? = some s := ⟨ps[i]'(by rw [← HN.out]; omega), List.getElem?_eq_getElem _⟩
      obtain ⟨ab, off, ea, hc1, hc2⟩ := PL.out wr hk2.1 i (s, u) hs
      subst ea
      simp only at hc1 hc2
      obtain ⟨W, hW⟩ : ∃ W, W = wr.alloc (.cells #[.string s, .string u] 112) := ⟨_, rfl⟩
      have hbW : Below wr.heap.size wr W := by rw [hW]; exact (Below.refl _ wr).alloc (Nat.le_refl _) _
      have hbox : W.heap[wr.heap.size]? = some (.cells #[.string s, .string u] 112 (0, 0)) := by rw [hW]; exact heap_alloc_new _ _
      have hkW : Kpt B b w W := hk2.trans (Kpt.below hbW (Nat.le_trans HB.out hk2.1.size))
      have hne : wr.heap.size ≠ b := by have := hp2.lt; omega
      have KC' := hid (KC.out i (s, u) hs W hkW.1 (hp2.below hbW))
      have K2' := hid (K2.out i (s, u) hs)
      have HX := hid (fun (w1 : World) (h : Kpt B b W w1) => h.2 _ _ _ hne (by decide) hbox)
      have HJ := hid (jn_take pmB hs)
      have HKW := hid hkW
      have Hi := hid hi
      clear hs hi hp2 hk2 hbW hbox hkW hne
      go_upto_region 3 with fail
      try rw [← hW]
      clear hW
      go_wp2_with (first
        | (go_at_call 137; (refine (Hid.out KC').mono ?_; rintro e w1 ⟨rfl, hp3, hk3⟩; have hx := HX.out w1 hk3; have z0 := cellT hx 0; have z1 := cellT hx 1; simp only [List.getElem?_toArray, List.getElem?_cons_zero, List.getElem?_cons_succ] at z0 z1; have HK3 := hid (HKW.out.trans hk3); have K4 := hid (K2'.out w1 HK3.out.1 hp3); simp only [sCol] at K4; clear hp3 hk3 hx))
        | (go_at_call 129; (refine (Hid.out K4).mono ?_; rintro e w3 ⟨rfl, hp4, hk4⟩)))
      go_roundg g
      case measure => omega
      case rel => exact ⟨i + 1, by have := Hi.out; omega, by go_num, hp4.eq (by rw [HJ.out]; simp [pmB, sCol]) rfl, HK3.out.trans hk4⟩
end Go.Proofs.YtcnohgifihbkdaaGreatDoor.Lx

namespace Go.Proofs.YtcnohgifihbkdaaGreatDoor.Lx
open Go.RowKit Go.Deep
set_option linter.unusedVariables false
set_option linter.unusedSimpArgs false

def sSp : ByteArray := ⟨#[32]⟩
def sArr : ByteArray := ⟨#[32, 45, 62, 32]⟩
def sSemi : ByteArray := ⟨#[59]⟩
def sCur : ByteArray := ⟨#[32, 123, 32]⟩
def sPar : ByteArray := ⟨#[40]⟩
def rsB (r : ByteArray) : List UInt8 := if r.toList = [] then [] else catL [sArr, r]
def dcB (h : DH) (pb : List (List UInt8)) : List UInt8 :=
  if h.sort = wRec then catL [wRec, sSp, h.name] ++ catL [sCur] ++ jn (h.params.map pmB) ++ [32, 125] else
  if h.sort = wMap then catL [wMap, sSp, h.name] ++ catL [sCol, h.key, sArr, h.value, sSemi] else
  catL [h.sort, sSp, h.name] ++ catL [sPar] ++ jn (h.params.map pmB) ++ [41] ++ rsB h.result ++ bkB pb
def dcD (h : DH) (db : List Nat) : Nat := if h.sort = wRec then 1 else if h.sort = wMap then 0 else 1 + mxL db

set_option maxRecDepth 100000 in
set_option maxHeartbeats 1000000 in
theorem decl_OnN (k : Nat) (pr : ST k → List UInt8) (dp : ST k → Nat) (ok : ST k → Prop) (ihs : StSaid k pr dp ok) (w0 : World) (h : DH) (bt : List (ST k)) (hk : h.sort = wOn) (hrs : h.result.toList = []) (dh : DHr w0 h) (hnb : h.bn = bt.length) (dlb : LiesAt 8 h.ba (sAt k) bt) (hrb : ∀ u ∈ bt, SRds k w0 u) (hokb : ∀ u ∈ bt, ok u) (B b : Nat) (l : List UInt8) (op mo : Nat) (w : World) (hE : EnvT w0) (h0 : w0.heap.size ≤ B) (hb : Below w0.heap.size w0 w) (hB : B ≤ w.heap.size) (hp : Prn w B b l op mo)
    (hl : l.length + (dcB h (bt.map pr)).length ≤ 900000000) (ho : op + dcD h (bt.map dp) ≤ 900000000) (hm : mo ≤ 900000000) (hmo : op ≤ mo) :
    Calls Tryz.prog 128 #[.pointer (some ⟨b, 0, none⟩), .agg #[.string wOn, .pointer (some ⟨h.b, h.o, none⟩)]] w (PrP w B b (l ++ dcB h (bt.map pr)) op (max mo (op + dcD h (bt.map dp)))) := by
  have n1 : ¬ wMap = wRec := by decide
  have n2 : ¬ wFn = wRec := by decide
  have n3 : ¬ wFn = wMap := by decide
  have n4 : ¬ wOn = wRec := by decide
  have n5 : ¬ wOn = wMap := by decide
  have e1 : dcB h (bt.map pr) = catL [wOn, sSp, h.name] ++ catL [sPar] ++ jn (h.params.map pmB) ++ [41] ++ bkB (bt.map pr) := by unfold dcB rsB; simp [hk, n4, n5, hrs]
  have e2 : dcD h (bt.map dp) = 1 + mxL (bt.map dp) := by unfold dcD; simp [hk, n4, n5]
  rw [e1] at hl ⊢
  rw [e2] at ho ⊢
  simp only [List.length_append, List.length_cons, List.length_nil] at hl
  obtain ⟨W, hW⟩ : ∃ W, W = w.alloc (.cells #[.string wOn, .pointer (some ⟨h.b, h.o, none⟩)] 159) := ⟨_, rfl⟩
  obtain ⟨X, hX⟩ : ∃ X, X = w.heap.size := ⟨_, rfl⟩
  have hbW : Below w.heap.size w W := by rw [hW]; exact (Below.refl _ w).alloc (Nat.le_refl _) _
  have hbox : W.heap[X]? = some (.cells #[.string wOn, .pointer (some ⟨h.b, h.o, none⟩)] 159 (0, 0)) := by rw [hW, hX]; exact heap_alloc_new _ _
  have hkW : Kpt B b w W := Kpt.below hbW hB
  have hne : X ≠ b := by have := hp.lt; omega
  have HX0 := hid (fun (w1 : World) (q : Kpt B b W w1) => cellT (q.2 _ _ _ hne (by decide) hbox) 0)
  have HX1 := hid (fun (w1 : World) (q : Kpt B b W w1) => cellT (q.2 _ _ _ hne (by decide) hbox) 1)
  simp only [List.getElem?_toArray, List.getElem?_cons_zero, List.getElem?_cons_succ, wOn] at HX0 HX1
  have hBW : B ≤ W.heap.size := Nat.le_trans hB hbW.size
  have hpW : Prn W B b l op mo := hp.below hbW
  have hb' : Below w0.heap.size w0 W := hb.trans (hkW.1.mono h0)
  have K1 := hid ((write_new W.drew B b _ op _ hpW.drew [wOn, sSp, h.name] 3 rfl (by omega) hBW (by omega)).mono (fun e w' h' => PrP.of hBW ((Below.refl _ W).drew) h'))
  simp only [List.map_cons, List.map_nil, wOn, sSp] at K1
  have y0 := HX0.out W (Kpt.refl _ _ _)
  have y1 := HX1.out W (Kpt.refl _ _ _)
  have d0 := (dh.below (Nat.le_refl _) hb').c0
  have K2 := hid (fun (w1 : World) (h1 : Below B W w1) (hp1 : Prn w1 B b (l ++ catL [wOn, sSp, h.name]) op mo) => enter_new w1 B b _ op mo hp1 (by omega) (by omega) [sPar] 1 rfl (by omega) (Nat.le_trans hBW h1.size) (by try simp only [List.length_append, List.length_cons, List.length_nil, bs_len]; omega))
  simp only [List.map_cons, List.map_nil, wOn, sSp, sPar] at K2
  have KP := hid (fun (w1 : World) (h1 : Below B W w1) (hp1 : Prn w1 B b (l ++ catL [wOn, sSp, h.name] ++ catL [sPar]) (op + 1) (max mo (op + 1))) => printParams_any w0 h.pa h.pn h.pc h.params dh.pl dh.pb dh.pr B b _ _ _ w1 h0 (hb'.trans (h1.mono h0)) (Nat.le_trans hBW h1.size) hp1 (by try simp only [List.length_append, List.length_cons, List.length_nil, bs_len]; omega))
  simp only [wOn, sSp, sPar] at KP
  have K4 := hid (fun (w1 : World) (h1 : Below B W w1) (hp1 : Prn w1 B b (l ++ catL [wOn, sSp, h.name] ++ catL [sPar] ++ jn (h.params.map pmB)) (op + 1) (max mo (op + 1))) => leave_any w1 B b _ op _ hp1 (by omega) ⟨#[41]⟩ (Nat.le_trans hBW h1.size) (by rw [show (⟨#[41]⟩ : ByteArray).size = 1 from rfl]; try simp only [List.length_append, List.length_cons, List.length_nil, bs_len]; omega))
  simp only [wOn, sSp, sPar] at K4
  have K6 := hid (fun (w1 : World) (h1 : Below B W w1) (hp1 : Prn w1 B b (l ++ catL [wOn, sSp, h.name] ++ catL [sPar] ++ jn (h.params.map pmB) ++ [41]) op (max mo (op + 1))) => block_of k pr dp ok ihs w0 h.ba h.bn h.bc bt hnb dh.bb dlb hrb hokb B b _ op _ w1 hE h0 (hb'.trans (h1.mono h0)) (Nat.le_trans hBW h1.size) hp1 (by try simp only [List.length_append, List.length_cons, List.length_nil, bs_len]; omega) (by omega) (by omega))
  simp only [wOn, sSp, sPar, sArr] at K6
  have HF : Hid (max (max mo (op + 1)) (op + (1 + mxL (bt.map dp))) = max mo (op + (1 + mxL (bt.map dp)))) := hid (by omega)
  have C0 := hid (fun (w1 : World) (h1 : Below B W w1) => (dh.below (Nat.le_refl _) (hb'.trans (h1.mono h0))).c0)
  have C1 := hid (fun (w1 : World) (h1 : Below B W w1) => (dh.below (Nat.le_refl _) (hb'.trans (h1.mono h0))).c1)
  have C4 := hid (fun (w1 : World) (h1 : Below B W w1) => (dh.below (Nat.le_refl _) (hb'.trans (h1.mono h0))).c4)
  have C5 := hid (fun (w1 : World) (h1 : Below B W w1) => (dh.below (Nat.le_refl _) (hb'.trans (h1.mono h0))).c5)
  have HKW := hid hkW
  clear ihs dh hE h0 hb hp hl ho hm hmo hnb dlb hrb hokb e1 e2 n1 n2 n3 n4 n5 hbW hbox hne hBW hpW hb' hkW hk
  go_enter Tryz.func128, Tryz.ntmps128
  go_upto_region 1 with fail
  try rw [← hW, ← hX]
  clear hW hX
  go_region_held3 (fun w2 => w2.cell? ⟨X, 0, none⟩ = some (.string ⟨#[111, 110]⟩) ∧ w2.cell? ⟨X, 1, none⟩ = some (.pointer (some ⟨h.b, h.o, none⟩)) ∧ w2.cell? ⟨h.b, h.o, none⟩ = some (.string h.name)) (first | exact ⟨HX0.out _ hk1, HX1.out _ hk1, C0.out _ hk1.1⟩ | go_keep) (first | (go_at_call 129; (refine (Hid.out K1).mono ?_; rintro e w1 ⟨rfl, hp1, hk1⟩)))
  have K2' := hid (K2.out w1 hk1.1 hp1)
  have HK1 := hid hk1
  have z0 := HX0.out w1 hk1
  have z1 := HX1.out w1 hk1
  clear hp1 hk1 y0 y1 d0
  go_wp2_with (first
    | (go_at_call 136; (refine (Hid.out K2').mono ?_; rintro e w2 ⟨rfl, hp2, hk2⟩; have HK2 := hid (HK1.out.trans hk2); have s1 := HX1.out w2 HK2.out; have d1 := C1.out w2 HK2.out.1; have KP' := hid (KP.out w2 HK2.out.1 hp2); clear hp2 hk2 z1))
    | (go_at_call 169; (refine (Hid.out KP').mono ?_; rintro e w3 ⟨rfl, hp3, hk3⟩; have HK3 := hid (HK2.out.trans hk3); have K4' := hid (K4.out w3 HK3.out.1 hp3); clear hp3 hk3 s1 d1))
    | (go_at_call 138; (refine (Hid.out K4').mono ?_; rintro e w4 ⟨rfl, hp4, hk4⟩; have HK4 := hid (HK3.out.trans hk4); have s4 := HX1.out w4 HK4.out; have d4 := C4.out w4 HK4.out.1; have d5 := C5.out w4 HK4.out.1; have K6' := hid (K6.out w4 HK4.out.1 hp4); clear hp4 hk4))
    | (go_at_call 170; (refine (Hid.out K6').mono ?_; rintro e w6 ⟨rfl, hp6, hk6⟩)))
  go_end0
  exact ⟨rfl, hp6.eq (by simp [wOn, sSp, sPar]) HF.out, HKW.out.trans (HK4.out.trans hk6)⟩

end Go.Proofs.YtcnohgifihbkdaaGreatDoor.Lx

namespace Go.Proofs.YtcnohgifihbkdaaGreatDoor.Lx
open Go.RowKit Go.Deep
set_option linter.unusedVariables false
set_option linter.unusedSimpArgs false

def prD (k : Nat) (t : DT k) : List UInt8 := dcB t.1 (t.2.map (prS k))
def dpD (k : Nat) (t : DT k) : Nat := dcD t.1 (t.2.map (dpS k))
def lnB (ps : List (List UInt8)) : List UInt8 := ps.flatMap fun p => p ++ [10]
theorem ln_take {α : Type} (f : α → List UInt8) {ts : List α} {i : Nat} {t : α} (h : ts[i]? = some t) : lnB ((ts.take (i + 1)).map f) = lnB ((ts.take i).map f) ++ (f t ++ [10]) := by
  unfold lnB; rw [List.take_add_one, h]; simp [List.flatMap_append]
theorem ln_pre {α : Type} (f : α → List UInt8) (ts : List α) (i : Nat) : (lnB ((ts.take i).map f)).length ≤ (lnB (ts.map f)).length := by
  have : lnB (ts.map f) = lnB ((ts.take i).map f) ++ lnB ((ts.drop i).map f) := by
    unfold lnB; rw [← List.flatMap_append, ← List.map_append, List.take_append_drop]
  rw [this, List.length_append]; omega
end Go.Proofs.YtcnohgifihbkdaaGreatDoor.Lx

namespace Go.Proofs.YtcnohgifihbkdaaGreatDoor.Lx
open Go.RowKit Go.Deep
set_option linter.unusedVariables false
set_option linter.unusedSimpArgs false
attribute [local go_sem] as58_58 as105_58 as101_58 as67_58 as58_105 as105_105 as101_105 as67_105 as58_101 as105_101 as101_101 as67_101 as58_67 as105_67 as101_67 as67_67
attribute [local go_sem] Oper.semAt_some

def prT (k : Nat) (t : TT k) : List UInt8 := lnB (t.rs.map (prD k)) ++ lnB (t.ms.map (prD k)) ++ lnB (t.fs.map (prD k)) ++ lnB (t.es.map (prD k))
def dpT (k : Nat) (t : TT k) : Nat := max (max (max (mxL (t.rs.map (dpD k))) (mxL (t.ms.map (dpD k)))) (mxL (t.fs.map (dpD k)))) (mxL (t.es.map (dpD k)))
end Go.Proofs.YtcnohgifihbkdaaGreatDoor.Lx

namespace Go.Proofs.YtcnohgifihbkdaaGreatDoor.Lx
open Go.RowKit Go.Deep
set_option linter.unusedVariables false
set_option linter.unusedSimpArgs false
attribute [local go_sem] Oper.semAt_some

def PdP (w : World) (l : List UInt8) (d : Nat) (e : Ending) (w' : World) : Prop := e = .returned (.tuple #[.pointer (some ⟨w.heap.size, 0, none⟩), .int .i64 0]) ∧ Prn w' w.heap.size w.heap.size l 0 d ∧ Below w.heap.size w w'
end Go.Proofs.YtcnohgifihbkdaaGreatDoor.Lx

namespace Go.Proofs.YtcnohgifihbkdaaGreatDoor.Lx
open Go.RowKit Go.Deep
set_option linter.unusedVariables false
set_option linter.unusedSimpArgs false
attribute [local go_sem] Oper.semAt_some
/- An expression that is handed over, wherever it lies. -/
structure EVh (w : World) (h : EH) : Prop where
  i0 : -9223372036854775808 ≤ h.int
  i1 : h.int ≤ 9223372036854775807
  t : h.text.size ≤ 9223372036854775807
  n : h.name.size ≤ 9223372036854775807
  nl : h.nn = h.names.length
  nb : h.nn ≤ 1000000
  ns : ∀ s ∈ h.names, s.size ≤ 9223372036854775807
  nr : SLs w h.na h.names
  ab : h.an ≤ 1000000
structure EVs (k : Nat) (w : World) (t : ET (k + 1)) : Prop where
  h : EVh w t.1
  n : t.1.an = t.2.length
  l : LiesAt 8 t.1.aa (eAt k) t.2
  e : ∀ u ∈ t.2, ERd k w u
theorem EVs.below {k : Nat} {w w' : World} {t : ET (k + 1)} {B : Nat} (d : EVs k w t) (hB : w.heap.size ≤ B) (h : Below B w w') : EVs k w' t :=
  ⟨⟨d.h.i0, d.h.i1, d.h.t, d.h.n, d.h.nl, d.h.nb, d.h.ns, d.h.nr.below hB h, d.h.ab⟩, d.n, d.l, fun u hu => ERd.below k (d.e u hu) hB h⟩
def eAtB {k : Nat} (t : ET (k + 1)) (M o : Nat) : ET (k + 1) := ({ t.1 with b := M, o := o }, t.2)
theorem EVs.at {k : Nat} {W : World} {t : ET (k + 1)} {M o : Nat} (d : EVs k W t) (c : ∀ j, j < 8 → W.cell? ⟨M, o + j, none⟩ = t.1.cs[j]?) : ERd (k + 1) W (eAtB t M o) :=
  ⟨⟨c 0 (by omega), c 1 (by omega), c 2 (by omega), c 3 (by omega), c 4 (by omega), c 5 (by omega), c 6 (by omega), c 7 (by omega), d.h.i0, d.h.i1, d.h.t, d.h.n, d.h.nl, d.h.nb, d.h.ns, d.h.nr, d.h.ab⟩, d.n, d.l, d.e⟩
theorem EVs.box {k : Nat} {W : World} {t : ET (k + 1)} {M : Nat} (d : EVs k W t) (hb : W.heap[M]? = some (.cells t.1.cs 45 (0, 0))) : ERd (k + 1) W (eAtB t M 0) := d.at fun j _ => by rw [Nat.zero_add]; exact cellT hb j
end Go.Proofs.YtcnohgifihbkdaaGreatDoor.Lx

namespace Go.Proofs.YtcnohgifihbkdaaGreatDoor.Lx
open Go.RowKit Go.Deep
set_option linter.unusedVariables false
set_option linter.unusedSimpArgs false
section
attribute [local go_sem] as58_58 as105_58 as101_58 as67_58 as58_105 as105_105 as101_105 as67_105 as58_101 as105_101 as101_101 as67_101 as58_67 as105_67 as101_67 as67_67
end
attribute [local go_sem] Oper.semAt_some
set_option maxRecDepth 100000 in
set_option maxHeartbeats 1000000 in
theorem mayBeX_any (w : World) (root : Part) (ps : List Part) (h : Whole w root ps) (hR : ∀ p ∈ ps, ∀ (w1 : World), Below w.heap.size w w1 → Calls Tryz.prog 95 #[labP p] w1 fun e w' => e = .returned (.bool (rightP p)) ∧ Below w1.heap.size w1 w') :
    Calls Tryz.prog 61 #[labP root] w fun e w' => e = .returned (.bool (ps.all rightP)) ∧ Below w.heap.size w w' := by
  have hro : Fence.wide.round = none := rfl
  have KC : Hid (∀ (x : Fin ps.length) (w1 : World), Below w.heap.size w w1 → Calls Tryz.prog 95 #[labP ps[x]] w1 fun e w' => e = .returned (.bool (rightP ps[x])) ∧ Below w1.heap.size w1 w') := hid (fun x w1 hb => hR _ (List.getElem_mem _) w1 hb)
  obtain ⟨W0, hW0⟩ : ∃ W0, W0 = w.alloc (.cells #[.bool false] 4) := ⟨_, rfl⟩
  obtain ⟨W1, hW1⟩ : ∃ W1, W1 = W0.alloc (.cells #[labP root] 20) := ⟨_, rfl⟩
  have hz0 : W0.heap.size = w.heap.size + 1 := by rw [hW0]; simp
  have hz1 : W1.heap.size = w.heap.size + 1 + 1 := by rw [hW1]; simp; omega
  have n0 : W1.heap[w.heap.size]? = some (.cells #[.bool false] 4 (0, 0)) := by rw [hW1]; exact (Below.heap_alloc _ _ _ (by omega)).trans (by rw [hW0]; exact heap_alloc_new _ _)
  have n1 : W1.heap[w.heap.size + 1]? = some (.cells #[labP root] 20 (0, 0)) := by
    have := heap_alloc_new W0 (.cells #[labP root] 20)
    rw [hz0, ← hW1] at this
    exact this
  have hb1 : Below w.heap.size w W1 := by rw [hW1, hW0]; exact ((Below.refl _ w).alloc (Nat.le_refl _) _).alloc (by simp) _
  have hseq := parts_stops h 5 (w.heap.size + 1) W1 hb1 n1
  have h70 : MI w ps [] W1 := ⟨n0, by simp, hb1, by omega⟩
  have hC : w.heap.size ≤ W1.heap.size := by omega
  clear n0 n1 hb1 hR h
  refine (callsIn_wide (n := 6)).1 ?_
  refine callsIn_of_wp_marks Tryz.func61 rfl trivial ?_ hro
  simp only [Tryz.ntmps61, List.size_toArray, List.length_cons, List.length_nil, Nat.reduceAdd, Nat.reduceSub, Array.replicate_succ, Array.replicate_zero, List.push_toArray, List.append_toArray, List.nil_append, List.cons_append]
  gi_wp2_with (refine ⟨trivial, ?_⟩; gi_at_call 94; refine (parts_in _ _ trivial hro _ _).mono ?_; rintro e w7 ⟨rfl, rfl⟩)
  rw [← hW0]
  try simp only [hz0]
  rw [← hW1]
  clear hW0 hW1
  refine wpIn_rangeFunc_ownH hro (by omega) (gf := 122) (lb := #[.pointer (some ⟨w.heap.size + 1, 0, none⟩)]) rfl trivial (enters_of Tryz.func122 (by kernel_rfl) rfl) hseq belowK_t (belowK_b (by omega)) (Below.refl _ _) (fun _ => rfl)
      (MI w ps) (MZ w ps) (MI_own w ps hC) (fun c => MZ_own w ps c hC)
      h70
      (fun (x : Fin ps.length) (a' : Act) (W : World) => a' = { tmps := #[labP root, undef, .pointer (some ⟨w.heap.size, 0, none⟩), labP ps[x], labP root, .func (.func 122) #[] #[.pointer (some ⟨w.heap.size + 1, 0, none⟩)], labP ps[x], undef, undef, undef], defers := [] })
      (fun x a' u A B rw' hs hg hr => hs)
      ?assign ?body ?done ?stop
  case assign =>
    rintro ll pre x W K hi hK
    simp only [encP] at hK ⊢
    generalize labP ps[x] = lp at *
    gi_wp2
    exact hK _ _ (keepsFrom_below (Below.refl _ _)) (Below.refl _ _) hi rfl
  case body =>
    rintro ll pre x a' W hll ⟨rr, hrr⟩ hi rfl hlt
    have HI := hid hi
    have K1 := hid (KC.out x W hi.2.2.1)
    have c0 := cellT hi.1 0
    simp only [List.getElem?_toArray, List.getElem?_cons_zero] at c0
    have HS := hid (show ps[x] ∈ ps from List.getElem_mem _)
    clear hseq hi h70
    cases hq : rightP ps[x] with
    | true =>
      rw [hq] at K1
      have HQ := hid hq
      clear hq
      generalize labP ps[x] = lp at *
      gi_wp2_with (refine ⟨trivial, ?_⟩; gi_at_call 95; refine (CallsIn.inRound ll (callsIn_wide.2 (Hid.out K1))).mono ?_; rintro e w8 ⟨rfl, hb8⟩)
      exact ⟨keepsFrom_below hb8, hb8.mono (by have := HI.out.2.2.2; omega), (HI.out.below hb8).snoc HQ.out⟩
    | false =>
      rw [hq] at K1
      have HQ := hid hq
      clear hq
      have HF : Hid (ps.all rightP = false) := hid (by rw [List.all_eq_false]; exact ⟨ps[x], HS.out, by rw [HQ.out]; decide⟩)
      generalize labP ps[x] = lp at *
      gi_wp2_with (refine ⟨trivial, ?_⟩; gi_at_call 95; refine (CallsIn.inRound ll (callsIn_wide.2 (Hid.out K1))).mono ?_; rintro e w8 ⟨rfl, hb8⟩; have hbx := (HI.out.below hb8).1; have y0 := cellT hbx 0; have y1 := freeT hbx 0; simp only [List.getElem?_toArray, List.getElem?_cons_zero] at y0; have HX := hid hbx; have HB8 := hid hb8; clear hbx hb8)
      refine ⟨(keepsFrom_below HB8.out).trans ((KeepsOthers.setCell _ _ _).from _), rfl, HF.out, set_cells HX.out _, ?_⟩
      exact ((HI.out.below HB8.out).2.2.1).setCell (p := ⟨w.heap.size, 0, none⟩) (Nat.le_refl _) _
  case done =>
    rintro D' ys W hD rfl hI hK
    have HT : Hid (ps.all rightP = true) := hid (by
      rw [List.all_eq_true]
      intro p hp
      obtain ⟨k, hk, e⟩ := List.getElem_of_mem hp
      have := hI.2.1 ⟨k, hk⟩ (List.mem_finRange _)
      rw [← e]; exact this)
    have y0 := cellT hI.1 0
    have y1 := freeT hI.1 0
    simp only [List.getElem?_toArray, List.getElem?_cons_zero] at y0
    have HI := hid hI
    have HK := hid hK
    clear hseq hI hK h70
    gi_wp2
    obtain ⟨Wf, hWf⟩ : ∃ Wf, Wf = W.setCell ⟨w.heap.size, 0, none⟩ (.bool true) := ⟨_, rfl⟩
    rw [← hWf]
    have k2 : Wf.heap[w.heap.size]? = some (.cells #[.bool true] 4 (0, 0)) := by rw [hWf]; exact set_cells HI.out.1 _
    have kD : Wf.heap[D']? = some (.deferred (some [])) := by
      rw [hWf]; exact (Below.heap_setCell _ _ _ _ (by show D' ≠ w.heap.size; omega)).trans HK.out
    have kB : Below w.heap.size w Wf := by rw [hWf]; exact HI.out.2.2.1.setCell (p := ⟨w.heap.size, 0, none⟩) (Nat.le_refl _) _
    have h9 := keep_cells (B := 0) k2 (grownBy_putObj' _ D' (.deferred none)) (fun r e => by cases e; exact ⟨Nat.zero_le _, _, kD, rfl⟩)
    have h10 : Below w.heap.size w (Wf.putObj D' (.deferred none)) := ownFrom_below (β := Unit) (Nat.le_refl _) (Nat.le_refl _) () _ _ _ kB (grownBy_putObj' _ D' (.deferred none)) (fun r e => by cases e; exact ⟨by omega, _, kD, rfl⟩)
    have r0 := cellT h9 0
    simp only [List.getElem?_toArray, List.getElem?_cons_zero] at r0
    refine ⟨by simp, .inl ⟨_, _, rfl, run_takeDeferred kD, ?_⟩⟩
    refine ⟨.bool true, by simp [results, Tryz.results61, go_sem, r0], ?_⟩
    rw [HT.out]
    exact ⟨rfl, h10⟩
  case stop =>
    rintro D' c pre W hD hp ⟨rfl, hF, hbx, hbw⟩ hK
    have h9 := keep_cells (B := 0) hbx (grownBy_putObj' _ D' (.deferred none)) (fun r e => by cases e; exact ⟨Nat.zero_le _, _, hK, rfl⟩)
    have h10 : Below w.heap.size w (W.putObj D' (.deferred none)) := ownFrom_below (β := Unit) (Nat.le_refl _) (Nat.le_refl _) () _ _ _ hbw (grownBy_putObj' _ D' (.deferred none)) (fun r e => by cases e; exact ⟨by omega, _, hK, rfl⟩)
    have r0 := cellT h9 0
    simp only [List.getElem?_toArray, List.getElem?_cons_zero] at r0
    clear hseq h70
    gi_wp2
    refine ⟨by simp, .inl ⟨_, _, rfl, run_takeDeferred hK, ?_⟩⟩
    refine ⟨.bool false, by simp [results, Tryz.results61, go_sem, r0], ?_⟩
    rw [hF]
    exact ⟨rfl, h10⟩
set_option maxRecDepth 100000 in
set_option maxHeartbeats 1000000 in
theorem printedX_of (w : World) (root : Part) (ps : List Part) (hwh : ∀ (w1 : World), Below w.heap.size w w1 → Whole w1 root ps) (hR : ∀ p ∈ ps, ∀ (w1 : World), Below w.heap.size w w1 → Calls Tryz.prog 95 #[labP p] w1 fun e w' => e = .returned (.bool (rightP p)) ∧ Below w1.heap.size w1 w') (hall : ps.all rightP = true) (hE : EnvT w) (l : List UInt8) (d : Nat)
    (hw : ∀ (w1 : World), Below w.heap.size w w1 → w.heap.size ≤ w1.heap.size → Prn w1 w.heap.size w.heap.size [] 0 0 → Calls Tryz.prog 62 #[.pointer (some ⟨w.heap.size, 0, none⟩), labP root] w1 (PrP w1 w.heap.size w.heap.size l 0 d)) :
    Calls Tryz.prog 35 #[labP root] w (PdP w l d) := by
  obtain ⟨W, hW⟩ : ∃ W, W = w.alloc (.cells #[.pointer none, .slice none 0 0, .int .i64 0, .int .i64 0] 88) := ⟨_, rfl⟩
  have hbW : Below w.heap.size w W := by rw [hW]; exact (Below.refl _ w).alloc (Nat.le_refl _) _
  have hbox : W.heap[w.heap.size]? = some (.cells #[.pointer none, .slice none 0 0, .int .i64 0, .int .i64 0] 88 (0, 0)) := by rw [hW]; exact heap_alloc_new _ _
  have hpW : Prn W w.heap.size w.heap.size [] 0 0 := ⟨Nat.le_refl _, _, _, .inl rfl, hbox, BRow.nil _ _⟩
  have K1 := hid (mayBeX_any W root ps (hwh W hbW) (fun p hp w1 h1 => hR p hp w1 (hbW.trans (h1.mono hbW.size))))
  have K2 := hid (fun (w1 : World) (h1 : Below W.heap.size W w1) => hw w1 (hbW.trans (h1.mono hbW.size)) (Nat.le_trans hbW.size h1.size) (hpW.below h1))
  have TR := hid (fun (w1 : World) (h1 : Below W.heap.size W w1) => hbW.trans (h1.mono hbW.size))
  rw [hall] at K1
  obtain ⟨X, hX⟩ : ∃ X, X = w.heap.size := ⟨_, rfl⟩
  obtain ⟨V, hV⟩ : ∃ V, V = labP root := ⟨_, rfl⟩
  rw [← hV] at K1 K2 ⊢
  clear hwh hR hall hE hw hbox hpW hbW hV
  go_enter Tryz.func35, Tryz.ntmps35
  go_upto_region 2 with fail
  try rw [← hW]
  clear hW
  go_wp2_with (first
    | (go_at_call 61; (refine (Hid.out K1).mono ?_; rintro e w1 ⟨rfl, hb1⟩; have K2' := hid (K2.out w1 hb1); have HB1 := hid (TR.out w1 hb1); clear hb1))
    | (go_at_call 62; (refine (Hid.out K2').mono ?_; rintro e w2 ⟨rfl, hp2, hk2⟩)))
  go_ret2
  exact ⟨rfl, hp2, HB1.out.trans hk2.1⟩
end Go.Proofs.YtcnohgifihbkdaaGreatDoor.Lx

namespace Go.Proofs.YtcnohgifihbkdaaGreatDoor
open Go Go.RowKit Go.Deep Go.Shelf
set_option linter.unusedVariables false
set_option linter.unusedSimpArgs false
set_option maxRecDepth 100000
theorem RTr.mv {w w' : World} {A B : Nat → Prop} {v : Value} {t : PTr} (h : RTr w A v t) (s : Same A w w') (i : ∀ g, A g → B g) : RTr w' B v t := by
  obtain ⟨v0, v1, v2, v3, rfl, L0, L1, L2, L3⟩ := h
  exact ⟨v0, v1, v2, v3, rfl, L0.mv LD_mv s i, L1.mv LD_mv s i, L2.mv LD_mv s i, L3.mv LD_mv s i⟩
def tD (ks : List Nat) : PTr := ⟨[], [], [], [⟨[101], [], [], [], [], [pkS (stX (eD ks 12))], 0⟩]⟩
theorem deep_noW (w : World) (ks : List Nat) (h : 39 < ks.length) (h2 : ks.length ≤ 80) (hm : Lx.MX w) (hG : Gl w) : Calls Tryz.prog 9 #[.string (bs (srcD ks))] w fun e w' => e = .returned (.tuple #[.agg #[.slice none 0 0, .slice none 0 0, .slice none 0 0, .slice none 0 0], .int .i64 ((plD ks 12 39 : Nat) : Int), .int .i64 71]) ∧ Below w.heap.size w w' := by
  have hl := srcD_len ks h2
  refine (parse_any w _ (by rw [show (bs (srcD ks)).size = (srcD ks).length from List.size_toArray]; omega) hm hG).mono ?_
  intro e w' h'
  rw [show (bs (srcD ks)).data.toList = srcD ks from rfl, deep_refused ks h h2] at h'
  exact ⟨h'.1, h'.2⟩
theorem deep_yesW (w : World) (ks : List Nat) (h : ks.length ≤ 39) (hm : Lx.MX w) (hG : Gl w) : Calls Tryz.prog 9 #[.string (bs (srcD ks))] w fun e w' => ∃ (a0 a1 a2 a3 : Option Addr) (k0 k1 k2 k3 : Nat), e = .returned (.tuple #[.agg #[.slice a0 0 k0, .slice a1 0 k1, .slice a2 0 k2, .slice a3 1 k3], .int .i64 0, .int .i64 0]) ∧ RTr w' (fun g => w.heap.size ≤ g ∧ g < w'.heap.size) (.agg #[.slice a0 0 k0, .slice a1 0 k1, .slice a2 0 k2, .slice a3 1 k3]) (tD ks) ∧ Below w.heap.size w w' := by
  have hl := srcD_len ks (by omega)
  refine (parse_any w _ (by rw [show (bs (srcD ks)).size = (srcD ks).length from List.size_toArray]; omega) hm hG).mono ?_
  intro e w' h'
  rw [show (bs (srcD ks)).data.toList = srcD ks from rfl, deep_parsed ks h] at h'
  obtain ⟨v, rfl, hR, hb⟩ := h'
  obtain ⟨v0, v1, v2, v3, rfl, L0, L1, L2, L3⟩ := hR
  obtain ⟨a0, k0, rfl⟩ := L0.form
  obtain ⟨a1, k1, rfl⟩ := L1.form
  obtain ⟨a2, k2, rfl⟩ := L2.form
  obtain ⟨a3, k3, rfl⟩ := L3.form
  exact ⟨a0, a1, a2, a3, k0, k1, k2, k3, rfl, ⟨_, _, _, _, rfl, L0, L1, L2, L3⟩, hb⟩
theorem wrap64_0 : wrap64 0 = 0 := by unfold wrap64; omega
theorem plO_wrap (gs : List Nat) (i : Nat) : wrap64 ((plO (kD gs i) : Nat) : Int) = ((plO (kD gs i) : Nat) : Int) := by
  have h := plO_le (kD gs i)
  generalize plO (kD gs i) = x at h ⊢
  unfold wrap64
  omega
theorem pI_wrap (gs : List Nat) (i : Nat) (hi : i ≤ 80) : wrap64 (((sI gs i).length : Int) + ((plO (kD gs i) : Nat) : Int)) = ((pI gs i : Nat) : Int) := by
  have h := plO_le (kD gs i)
  have h2 := sI_le gs i
  unfold pI
  generalize plO (kD gs i) = x at h ⊢
  generalize (sI gs i).length = y at h2 ⊢
  unfold wrap64
  omega
theorem pI_wrap0 (gs : List Nat) (i : Nat) (hi : i ≤ 80) (h0 : kD gs i = 0) : wrap64 ((sI gs i).length : Int) = ((pI gs i : Nat) : Int) := by
  have h2 := sI_le gs i
  unfold pI
  rw [h0]
  show _ = (((sI gs i).length + 0 : Nat) : Int)
  generalize (sI gs i).length = y at h2 ⊢
  unfold wrap64
  omega
def sX (gs : List Nat) (n : Nat) : Bsq := sI gs n ++ [97]
def sY (gs : List Nat) (n : Nat) : Bsq := sX gs n ++ eI gs n
theorem sY_src (gs : List Nat) (n : Nat) : sY gs n ++ [59, 32, 125] = srcD (ksD gs n) := src_is gs n
end Go.Proofs.YtcnohgifihbkdaaGreatDoor

