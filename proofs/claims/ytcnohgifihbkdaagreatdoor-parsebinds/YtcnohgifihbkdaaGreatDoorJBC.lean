/- The printer: statements of all kinds. -/
import Derived.Test.YtcnohgifihbkdaaGreatDoorJBB
import Derived.Lib.UnsafeStr
import Derived.Deep.RegionHeld3
namespace Go.Proofs.YtcnohgifihbkdaaGreatDoor.Lx
open Go.RowKit Go.Deep
set_option linter.unusedVariables false
set_option linter.unusedSimpArgs false

def capS (h : SH) : Prop := h.an ≤ h.ac ∧ h.ac ≤ 9223372036854775807
def isSimp (h : SH) : Prop := h.kind = 1 ∨ h.kind = 2 ∨ h.kind = 3 ∨ h.kind = 4 ∨ h.kind = 8 ∨ h.kind = 9 ∨ h.kind = 10 ∨ h.kind = 11 ∨ h.kind = 12 ∨ h.kind = 13
theorem simple_all (k : Nat) (w0 : World) (h : SH) (ts : List (ET k)) (hk : isSimp h) (hc : capS h) (dh : SHr w0 h) (hn : h.an = ts.length) (dl : LiesAt 8 h.aa (eAt k) ts) (hr : ∀ u ∈ ts, ERd k w0 u) (hok : ∀ u ∈ ts, okAll k u) (hR : rightS h = true) (B b : Nat) (l : List UInt8) (op mo : Nat) (w : World) (hE : EnvT w0) (h0 : w0.heap.size ≤ B) (hb : Below w0.heap.size w0 w) (hB : B ≤ w.heap.size) (hp : Prn w B b l op mo)
    (hl : l.length + (smB h (ts.map (prE k))).length ≤ 900000000) (ho : op + smD h (ts.map (dpE k)) ≤ 900000000) (hm : mo ≤ 900000000) (hmo : op ≤ mo) :
    Calls Tryz.prog 212 #[.pointer (some ⟨b, 0, none⟩), .pointer (some ⟨h.b, h.o, none⟩)] w (PrP w B b (l ++ smB h (ts.map (prE k))) op (max mo (op + smD h (ts.map (dpE k))))) := by
  rcases hk with hk | hk | hk | hk | hk | hk | hk | hk | hk | hk
  · exact simple_1 k w0 h ts hk dh hn dl hr hok hR B b l op mo w hE h0 hb hB hp hl ho hm hmo
  · exact simple_2 k w0 h ts hk dh hn dl hr hok hR B b l op mo w hE h0 hb hB hp hl ho hm hmo
  · exact simple_3 k w0 h ts hk dh hn dl hr hok hR B b l op mo w hE h0 hb hB hp hl ho hm hmo
  · exact simple_4 k w0 h ts hk dh hn dl hr hok hR B b l op mo w hE h0 hb hB hp hl ho hm hmo
  · exact simple_8 k w0 h ts hk dh hn dl hr hok hR B b l op mo w hE h0 hb hB hp hl ho hm hmo
  · exact simple_9 k w0 h ts hk dh hn dl hr hok hR B b l op mo w hE h0 hb hB hp hl ho hm hmo
  · exact simple_10 k w0 h ts hk dh hn dl hr hok hR B b l op mo w hE h0 hb hB hp hl ho hm hmo
  · exact simple_11 k w0 h ts hk dh hn dl hr hok hR B b l op mo w hE h0 hb hB hp hl ho hm hmo
  · by_cases hac : h.ac = 1
    · exact simple_12e k w0 h ts hk dh hn dl hr hok hR B b l op mo w hac hc.1 hc.2 hE h0 hb hB hp hl ho hm hmo
    · exact simple_12n k w0 h ts hk dh hn dl hr hok hR B b l op mo w hac hc.1 hc.2 hE h0 hb hB hp hl ho hm hmo
  · exact simple_13 k w0 h ts hk dh hn dl hr hok hR B b l op mo w hE h0 hb hB hp hl ho hm hmo
def sIf : ByteArray := ⟨#[105, 102, 32]⟩
def sElse : ByteArray := ⟨#[32, 101, 108, 115, 101]⟩
def sWhile : ByteArray := ⟨#[119, 104, 105, 108, 101, 32]⟩
def sEach : ByteArray := ⟨#[101, 97, 99, 104, 32]⟩
def sIn : ByteArray := ⟨#[32, 105, 110, 32]⟩
def stB (h : SH) (pe pb pl : List (List UInt8)) : List UInt8 :=
  if h.kind = 5 then catL [sIf] ++ h1 pe (fun p => p) [] ++ bkB pb ++ (if h.en = 0 then [] else catL [sElse] ++ bkB pl) else
  if h.kind = 6 then lbB h.label ++ catL [sWhile] ++ h1 pe (fun p => p) [] ++ bkB pb else
  if h.kind = 7 then lbB h.label ++ catL [sEach, h.var, sIn, h.name] ++ bkB pb else smB h pe ++ [59]
def stD (h : SH) (de db dl : List Nat) : Nat :=
  if h.kind = 5 then max (h1 de (fun d => d) 0) (max (1 + mxL db) (if h.en = 0 then 0 else 1 + mxL dl)) else
  if h.kind = 6 then max (h1 de (fun d => d) 0) (1 + mxL db) else
  if h.kind = 7 then 1 + mxL db else smD h de

set_option maxRecDepth 100000 in
set_option maxHeartbeats 1000000 in
theorem stmt_d (k : Nat) (pr : ST k → List UInt8) (dp : ST k → Nat) (ok : ST k → Prop) (ihs : StSaid k pr dp ok) (w0 : World) (h : SH) (ts : List (ET k)) (bt et : List (ST k)) (hk : isSimp h) (hc : capS h) (dh : SHr w0 h) (hn : h.an = ts.length) (hnb : h.bn = bt.length) (hne : h.en = et.length) (dl : LiesAt 8 h.aa (eAt k) ts) (dlb : LiesAt 8 h.ba (sAt k) bt) (dle : LiesAt 8 h.ea (sAt k) et) (hr : ∀ u ∈ ts, ERd k w0 u) (hrb : ∀ u ∈ bt, SRds k w0 u) (hre : ∀ u ∈ et, SRds k w0 u) (hok : ∀ u ∈ ts, okAll k u) (hokb : ∀ u ∈ bt, ok u) (hoke : ∀ u ∈ et, ok u) (hR : rightS h = true) (B b : Nat) (l : List UInt8) (op mo : Nat) (w : World) (hE : EnvT w0) (h0 : w0.heap.size ≤ B) (hb : Below w0.heap.size w0 w) (hB : B ≤ w.heap.size) (hp : Prn w B b l op mo)
    (hl : l.length + (stB h (ts.map (prE k)) (bt.map pr) (et.map pr)).length ≤ 900000000) (ho : op + stD h (ts.map (dpE k)) (bt.map dp) (et.map dp) ≤ 900000000) (hm : mo ≤ 900000000) (hmo : op ≤ mo) :
    Calls Tryz.prog 191 #[.pointer (some ⟨b, 0, none⟩), .pointer (some ⟨h.b, h.o, none⟩)] w (PrP w B b (l ++ stB h (ts.map (prE k)) (bt.map pr) (et.map pr)) op (max mo (op + stD h (ts.map (dpE k)) (bt.map dp) (et.map dp)))) := by
  have hO := okS_of hR
  unfold okS at hO
  have dw := dh.below (Nat.le_refl _) hb
  have c0 := dw.c0
  have ih := expr_all k
  have e1 : stB h (ts.map (prE k)) (bt.map pr) (et.map pr) = smB h (ts.map (prE k)) ++ [59] := by unfold stB; rw [if_neg (by unfold isSimp at hk; omega), if_neg (by unfold isSimp at hk; omega), if_neg (by unfold isSimp at hk; omega)]
  have e2 : stD h (ts.map (dpE k)) (bt.map dp) (et.map dp) = smD h (ts.map (dpE k)) := by unfold stD; rw [if_neg (by unfold isSimp at hk; omega), if_neg (by unfold isSimp at hk; omega), if_neg (by unfold isSimp at hk; omega)]
  rw [e1] at hl ⊢
  rw [e2] at ho ⊢
  simp only [List.length_append, List.length_cons, List.length_nil] at hl
  have K1 := hid (simple_all k w0 h ts hk hc dh hn dl hr hok hR B b l op mo w hE h0 hb hB hp (by omega) ho hm hmo)
  have ec : catL [⟨#[59]⟩] = [59] := by simp [catL]
  have K2 := hid (fun (w1 : World) (h1 : Below B w w1) (hp1 : Prn w1 B b (l ++ smB h (ts.map (prE k))) op (max mo (op + smD h (ts.map (dpE k))))) => write_new w1 B b _ op _ hp1 [⟨#[59]⟩] 1 rfl (by omega) (Nat.le_trans hB h1.size) (by rw [ec]; simp only [List.length_append, List.length_cons, List.length_nil]; omega))
  simp only [ec, List.map_cons, List.map_nil] at K2
  have n5 : ¬ h.kind = 5 := by unfold isSimp at hk; omega
  have n6 : ¬ h.kind = 6 := by unfold isSimp at hk; omega
  have n7 : ¬ h.kind = 7 := by unfold isSimp at hk; omega
  clear hk
  clear ih ihs dh hn dl hr hok hR hE h0 hb hp hl ho hm dw hO e1 e2 ec hmo hnb hne dlb dle hrb hre hokb hoke hc
  go_enter Tryz.func191, Tryz.ntmps191
  go_wp2_with (first
    | (go_at_call 212; (refine (Hid.out K1).mono ?_; rintro e w1 ⟨rfl, hp1, hk1⟩; have K2' := hid (K2.out w1 hk1.1 hp1); have HK1 := hid hk1; clear hp1 hk1))
    | (go_at_call 129; (refine (Hid.out K2').mono ?_; rintro e w2 ⟨rfl, hp2, hk2⟩)))
  go_end0
  exact ⟨rfl, hp2.eq (by simp) rfl, HK1.out.trans hk2⟩

end Go.Proofs.YtcnohgifihbkdaaGreatDoor.Lx

namespace Go.Proofs.YtcnohgifihbkdaaGreatDoor.Lx
open Go.RowKit Go.Deep
set_option linter.unusedVariables false
set_option linter.unusedSimpArgs false
attribute [local go_sem] as58_58 as105_58 as101_58 as67_58 as58_105 as105_105 as101_105 as67_105 as58_101 as105_101 as101_101 as67_101 as58_67 as105_67 as101_67 as67_67
attribute [local go_sem] Oper.semAt_some

set_option maxRecDepth 100000 in
theorem wholeExpr_any (k : Nat) (w0 : World) (t : ET k) (hr : ERd k w0 t) (hok : okAll k t) (B b : Nat) (l : List UInt8) (op mo : Nat) (w : World) (hE : EnvT w0) (h0 : w0.heap.size ≤ B) (hb : Below w0.heap.size w0 w) (hB : B ≤ w.heap.size) (hp : Prn w B b l op mo)
    (hl : l.length + (prE k t).length ≤ 900000000) (ho : op + dpE k t ≤ 900000000) (hm : mo ≤ 900000000) (hmo : op ≤ mo) :
    Calls Tryz.prog 62 #[.pointer (some ⟨b, 0, none⟩), .iface 89 (.pointer (some ⟨(eH k t).b, (eH k t).o, none⟩))] w (PrP w B b (l ++ prE k t) op (max mo (op + dpE k t))) := by
  have K1 := hid (expr_all k w0 t B b l op mo w hr hok hE h0 hb hB hp hl ho hm hmo)
  clear hr hok hE h0 hb hB hp hl ho hm hmo
  go_enter Tryz.func62, Tryz.ntmps62
  go_wp2_with (go_at_call 97; (refine (Hid.out K1).mono ?_; rintro e w1 ⟨rfl, hp1, hk1⟩))
  go_end0
  exact ⟨rfl, hp1, hk1⟩
end Go.Proofs.YtcnohgifihbkdaaGreatDoor.Lx

namespace Go.Proofs.YtcnohgifihbkdaaGreatDoor.Lx
open Go.RowKit Go.Deep
set_option linter.unusedVariables false
set_option linter.unusedSimpArgs false
attribute [local go_sem] Oper.semAt_some

def PdP (w : World) (l : List UInt8) (d : Nat) (e : Ending) (w' : World) : Prop := e = .returned (.tuple #[.pointer (some ⟨w.heap.size, 0, none⟩), .int .i64 0]) ∧ Prn w' w.heap.size w.heap.size l 0 d ∧ Below w.heap.size w w'
end Go.Proofs.YtcnohgifihbkdaaGreatDoor.Lx

namespace Go.Proofs.YtcnohgifihbkdaaGreatDoor.Lx
open Go.RowKit Go.Deep
set_option linter.unusedVariables false
set_option linter.unusedSimpArgs false
set_option maxRecDepth 100000 in
set_option maxHeartbeats 1000000 in
theorem string_any (w : World) (B b : Nat) (l : List UInt8) (op mo : Nat) (h : Prn w B b l op mo) (h0 : l ≠ []) :
    Calls Tryz.prog 36 #[.pointer (some ⟨b, 0, none⟩)] w fun e w' => e = .returned (.string ⟨l.toArray⟩) ∧ Below B w w' := by
  obtain ⟨hge, p, v, hp, hbk, hown⟩ := h
  have hl0 : l.length ≠ 0 := by simpa using h0
  obtain ⟨g, cap, cur, rfl, hbg, hg, hnc, hcm, hcs, htake⟩ : ∃ g cap cur, v = .slice (some ⟨g, 0, none⟩) l.length cap ∧ B ≤ g ∧ w.heap[g]? = some (.cells cur 5 (0, 0)) ∧ l.length ≤ cap ∧ cap ≤ maxLen ∧ cur.size = cap * 1 ∧ cur.toList.take (l.length * 1) = Lib.byteCells l := by
    rcases hown.2 with ⟨_, hz⟩ | ⟨g, cap, cur, hv, r⟩
    · exact absurd hz hl0
    · exact ⟨g, cap, cur, hv, r⟩
  have c1 : w.drew.cell? ⟨b, 1, none⟩ = some (.slice (some ⟨g, 0, none⟩) l.length cap) := by
    have : w.drew.heap[b]? = some (.cells #[p, .slice (some ⟨g, 0, none⟩) l.length cap, .int .i64 (op : Int), .int .i64 (mo : Int)] 88 (0, 0)) := hbk
    rw [Lib.cell_of_heap this]; rfl
  have hSD : (Builtin.unsafeSliceData_ #[33] 117 #[.slice (some ⟨g, 0, none⟩) l.length cap]).run Tryz.prog w.drew = .ok (.pointer (some ⟨g, 0, none⟩)) w.drew :=
    Lib.run_unsafeSliceData_row _ _ _ _ _ _ (by omega)
  have hUS : (Builtin.unsafeString_ #[117, 3] 9 #[.pointer (some ⟨g, 0, none⟩), .int .i64 l.length]).run Tryz.prog w.drew = .ok (.string ⟨l.toArray⟩) (w.drew.freeze ⟨g, 0, none⟩ l.length) := by
    refine Lib.run_unsafeString_row w.drew 117 3 9 5 (by kernel_rfl) (by kernel_rfl) g cur.size (by have hg' : w.drew.heap[g]? = some (.cells cur 5 (0, 0)) := hg; simp [World.shape?, hg']) l h0 (by omega) (by unfold maxLen at hcm; omega) ?_
    intro j x hx
    have := World.ownsRow.cells (show World.ownsRow w B 5 1 (.slice (some ⟨g, 0, none⟩) l.length cap) l.length (Lib.byteCells l) from hown) (g := g) rfl j (.int .u8 x.toNat) (by simp [Lib.byteCells, hx])
    exact this
  have mixed : Tryz.prog.follows Departure.mixedOrders = true := by kernel_rfl
  clear hown htake hcs hcm hbk
  go_enter Tryz.func36, Tryz.ntmps36
  go_wp2
  go_region_o
  all_goals (go_wp2; go_ret; exact ⟨rfl, Lib.below_freeze (Below.drew (Below.refl B w)) (p := ⟨g, 0, none⟩) hbg _⟩)
end Go.Proofs.YtcnohgifihbkdaaGreatDoor.Lx

namespace Go.Proofs.YtcnohgifihbkdaaGreatDoor.Lx
open Go.RowKit Go.Deep
set_option linter.unusedVariables false
set_option linter.unusedSimpArgs false
attribute [local go_sem] Oper.semAt_some
/- An expression that is handed over, wherever it lies. -/
structure EVh (w : World) (h : EH) : Prop where
  i0 : -9223372036854775808 ≤ h.int
  i1 : h.int ≤ 9223372036854775807
  t : h.text.size ≤ 9223372036854775807
  n : h.name.size ≤ 9223372036854775807
  nl : h.nn = h.names.length
  nb : h.nn ≤ 1000000
  ns : ∀ s ∈ h.names, s.size ≤ 9223372036854775807
  nr : SLs w h.na h.names
  ab : h.an ≤ 1000000
structure EVs (k : Nat) (w : World) (t : ET (k + 1)) : Prop where
  h : EVh w t.1
  n : t.1.an = t.2.length
  l : LiesAt 8 t.1.aa (eAt k) t.2
  e : ∀ u ∈ t.2, ERd k w u
theorem EVs.below {k : Nat} {w w' : World} {t : ET (k + 1)} {B : Nat} (d : EVs k w t) (hB : w.heap.size ≤ B) (h : Below B w w') : EVs k w' t :=
  ⟨⟨d.h.i0, d.h.i1, d.h.t, d.h.n, d.h.nl, d.h.nb, d.h.ns, d.h.nr.below hB h, d.h.ab⟩, d.n, d.l, fun u hu => ERd.below k (d.e u hu) hB h⟩
def eAtB {k : Nat} (t : ET (k + 1)) (M o : Nat) : ET (k + 1) := ({ t.1 with b := M, o := o }, t.2)
theorem EVs.at {k : Nat} {W : World} {t : ET (k + 1)} {M o : Nat} (d : EVs k W t) (c : ∀ j, j < 8 → W.cell? ⟨M, o + j, none⟩ = t.1.cs[j]?) : ERd (k + 1) W (eAtB t M o) :=
  ⟨⟨c 0 (by omega), c 1 (by omega), c 2 (by omega), c 3 (by omega), c 4 (by omega), c 5 (by omega), c 6 (by omega), c 7 (by omega), d.h.i0, d.h.i1, d.h.t, d.h.n, d.h.nl, d.h.nb, d.h.ns, d.h.nr, d.h.ab⟩, d.n, d.l, d.e⟩
theorem EVs.box {k : Nat} {W : World} {t : ET (k + 1)} {M : Nat} (d : EVs k W t) (hb : W.heap[M]? = some (.cells t.1.cs 45 (0, 0))) : ERd (k + 1) W (eAtB t M 0) := d.at fun j _ => by rw [Nat.zero_add]; exact cellT hb j
theorem okAll_at {k : Nat} {t : ET (k + 1)} (h : okAll (k + 1) t) (M o : Nat) : okAll (k + 1) (eAtB t M o) := by
  intro p hp
  rcases List.mem_cons.1 hp with rfl | hp
  · exact h (.inr (.inr t.1)) (List.mem_cons_self ..)
  · exact h p (List.mem_cons_of_mem _ hp)
end Go.Proofs.YtcnohgifihbkdaaGreatDoor.Lx

namespace Go.Proofs.YtcnohgifihbkdaaGreatDoor.Lx
open Go.RowKit Go.Deep
set_option linter.unusedVariables false
set_option linter.unusedSimpArgs false
section
attribute [local go_sem] as58_58 as105_58 as101_58 as67_58 as58_105 as105_105 as101_105 as67_105 as58_101 as105_101 as101_101 as67_101 as58_67 as105_67 as101_67 as67_67
set_option maxRecDepth 100000 in
set_option maxHeartbeats 1000000 in
theorem isRightX_any (w : World) (h : EH) (d : EHr w h) (hm : MX w) : Calls Tryz.prog 95 #[labP (.inr (.inr h))] w fun e w' => e = .returned (.bool (rightP (.inr (.inr h)))) ∧ Below w.heap.size w w' := by
  have K := hid (isRightE_any w h d hm)
  simp only [labP, rightP]
  generalize rightE h = r at *
  clear d hm
  go_enter Tryz.func95, Tryz.ntmps95
  go_wp2_with (go_at_call 127; (refine (Hid.out K).mono ?_; rintro e w1 ⟨rfl, hb⟩))
  go_ret
  exact ⟨rfl, hb⟩
end
attribute [local go_sem] Oper.semAt_some
set_option maxRecDepth 100000 in
set_option maxHeartbeats 1000000 in
theorem mayBeX_any (w : World) (root : Part) (ps : List Part) (h : Whole w root ps) (hR : ∀ p ∈ ps, ∀ (w1 : World), Below w.heap.size w w1 → Calls Tryz.prog 95 #[labP p] w1 fun e w' => e = .returned (.bool (rightP p)) ∧ Below w1.heap.size w1 w') :
    Calls Tryz.prog 61 #[labP root] w fun e w' => e = .returned (.bool (ps.all rightP)) ∧ Below w.heap.size w w' := by
  have hro : Fence.wide.round = none := rfl
  have KC : Hid (∀ (x : Fin ps.length) (w1 : World), Below w.heap.size w w1 → Calls Tryz.prog 95 #[labP ps[x]] w1 fun e w' => e = .returned (.bool (rightP ps[x])) ∧ Below w1.heap.size w1 w') := hid (fun x w1 hb => hR _ (List.getElem_mem _) w1 hb)
  obtain ⟨W0, hW0⟩ : ∃ W0, W0 = w.alloc (.cells #[.bool false] 4) := ⟨_, rfl⟩
  obtain ⟨W1, hW1⟩ : ∃ W1, W1 = W0.alloc (.cells #[labP root] 20) := ⟨_, rfl⟩
  have hz0 : W0.heap.size = w.heap.size + 1 := by rw [hW0]; simp
  have hz1 : W1.heap.size = w.heap.size + 1 + 1 := by rw [hW1]; simp; omega
  have n0 : W1.heap[w.heap.size]? = some (.cells #[.bool false] 4 (0, 0)) := by rw [hW1]; exact (Below.heap_alloc _ _ _ (by omega)).trans (by rw [hW0]; exact heap_alloc_new _ _)
  have n1 : W1.heap[w.heap.size + 1]? = some (.cells #[labP root] 20 (0, 0)) := by
    have := heap_alloc_new W0 (.cells #[labP root] 20)
    rw [hz0, ← hW1] at this
    exact this
  have hb1 : Below w.heap.size w W1 := by rw [hW1, hW0]; exact ((Below.refl _ w).alloc (Nat.le_refl _) _).alloc (by simp) _
  have hseq := parts_stops h 5 (w.heap.size + 1) W1 hb1 n1
  have h70 : MI w ps [] W1 := ⟨n0, by simp, hb1, by omega⟩
  have hC : w.heap.size ≤ W1.heap.size := by omega
  clear n0 n1 hb1 hR h
  refine (callsIn_wide (n := 6)).1 ?_
  refine callsIn_of_wp_marks Tryz.func61 rfl trivial ?_ hro
  simp only [Tryz.ntmps61, List.size_toArray, List.length_cons, List.length_nil, Nat.reduceAdd, Nat.reduceSub, Array.replicate_succ, Array.replicate_zero, List.push_toArray, List.append_toArray, List.nil_append, List.cons_append]
  gi_wp2_with (refine ⟨trivial, ?_⟩; gi_at_call 94; refine (parts_in _ _ trivial hro _ _).mono ?_; rintro e w7 ⟨rfl, rfl⟩)
  rw [← hW0]
  try simp only [hz0]
  rw [← hW1]
  clear hW0 hW1
  refine wpIn_rangeFunc_ownH hro (by omega) (gf := 122) (lb := #[.pointer (some ⟨w.heap.size + 1, 0, none⟩)]) rfl trivial (enters_of Tryz.func122 (by kernel_rfl) rfl) hseq belowK_t (belowK_b (by omega)) (Below.refl _ _) (fun _ => rfl)
      (MI w ps) (MZ w ps) (MI_own w ps hC) (fun c => MZ_own w ps c hC)
      h70
      (fun (x : Fin ps.length) (a' : Act) (W : World) => a' = { tmps := #[labP root, undef, .pointer (some ⟨w.heap.size, 0, none⟩), labP ps[x], labP root, .func (.func 122) #[] #[.pointer (some ⟨w.heap.size + 1, 0, none⟩)], labP ps[x], undef, undef, undef], defers := [] })
      (fun x a' u A B rw' hs hg hr => hs)
      ?assign ?body ?done ?stop
  case assign =>
    rintro ll pre x W K hi hK
    simp only [encP] at hK ⊢
    generalize labP ps[x] = lp at *
    gi_wp2
    exact hK _ _ (keepsFrom_below (Below.refl _ _)) (Below.refl _ _) hi rfl
  case body =>
    rintro ll pre x a' W hll ⟨rr, hrr⟩ hi rfl hlt
    have HI := hid hi
    have K1 := hid (KC.out x W hi.2.2.1)
    have c0 := cellT hi.1 0
    simp only [List.getElem?_toArray, List.getElem?_cons_zero] at c0
    have HS := hid (show ps[x] ∈ ps from List.getElem_mem _)
    clear hseq hi h70
    cases hq : rightP ps[x] with
    | true =>
      rw [hq] at K1
      have HQ := hid hq
      clear hq
      generalize labP ps[x] = lp at *
      gi_wp2_with (refine ⟨trivial, ?_⟩; gi_at_call 95; refine (CallsIn.inRound ll (callsIn_wide.2 (Hid.out K1))).mono ?_; rintro e w8 ⟨rfl, hb8⟩)
      exact ⟨keepsFrom_below hb8, hb8.mono (by have := HI.out.2.2.2; omega), (HI.out.below hb8).snoc HQ.out⟩
    | false =>
      rw [hq] at K1
      have HQ := hid hq
      clear hq
      have HF : Hid (ps.all rightP = false) := hid (by rw [List.all_eq_false]; exact ⟨ps[x], HS.out, by rw [HQ.out]; decide⟩)
      generalize labP ps[x] = lp at *
      gi_wp2_with (refine ⟨trivial, ?_⟩; gi_at_call 95; refine (CallsIn.inRound ll (callsIn_wide.2 (Hid.out K1))).mono ?_; rintro e w8 ⟨rfl, hb8⟩; have hbx := (HI.out.below hb8).1; have y0 := cellT hbx 0; have y1 := freeT hbx 0; simp only [List.getElem?_toArray, List.getElem?_cons_zero] at y0; have HX := hid hbx; have HB8 := hid hb8; clear hbx hb8)
      refine ⟨(keepsFrom_below HB8.out).trans ((KeepsOthers.setCell _ _ _).from _), rfl, HF.out, set_cells HX.out _, ?_⟩
      exact ((HI.out.below HB8.out).2.2.1).setCell (p := ⟨w.heap.size, 0, none⟩) (Nat.le_refl _) _
  case done =>
    rintro D' ys W hD rfl hI hK
    have HT : Hid (ps.all rightP = true) := hid (by
      rw [List.all_eq_true]
      intro p hp
      obtain ⟨k, hk, e⟩ := List.getElem_of_mem hp
      have := hI.2.1 ⟨k, hk⟩ (List.mem_finRange _)
      rw [← e]; exact this)
    have y0 := cellT hI.1 0
    have y1 := freeT hI.1 0
    simp only [List.getElem?_toArray, List.getElem?_cons_zero] at y0
    have HI := hid hI
    have HK := hid hK
    clear hseq hI hK h70
    gi_wp2
    obtain ⟨Wf, hWf⟩ : ∃ Wf, Wf = W.setCell ⟨w.heap.size, 0, none⟩ (.bool true) := ⟨_, rfl⟩
    rw [← hWf]
    have k2 : Wf.heap[w.heap.size]? = some (.cells #[.bool true] 4 (0, 0)) := by rw [hWf]; exact set_cells HI.out.1 _
    have kD : Wf.heap[D']? = some (.deferred (some [])) := by
      rw [hWf]; exact (Below.heap_setCell _ _ _ _ (by show D' ≠ w.heap.size; omega)).trans HK.out
    have kB : Below w.heap.size w Wf := by rw [hWf]; exact HI.out.2.2.1.setCell (p := ⟨w.heap.size, 0, none⟩) (Nat.le_refl _) _
    have h9 := keep_cells (B := 0) k2 (grownBy_putObj' _ D' (.deferred none)) (fun r e => by cases e; exact ⟨Nat.zero_le _, _, kD, rfl⟩)
    have h10 : Below w.heap.size w (Wf.putObj D' (.deferred none)) := ownFrom_below (β := Unit) (Nat.le_refl _) (Nat.le_refl _) () _ _ _ kB (grownBy_putObj' _ D' (.deferred none)) (fun r e => by cases e; exact ⟨by omega, _, kD, rfl⟩)
    have r0 := cellT h9 0
    simp only [List.getElem?_toArray, List.getElem?_cons_zero] at r0
    refine ⟨by simp, .inl ⟨_, _, rfl, run_takeDeferred kD, ?_⟩⟩
    refine ⟨.bool true, by simp [results, Tryz.results61, go_sem, r0], ?_⟩
    rw [HT.out]
    exact ⟨rfl, h10⟩
  case stop =>
    rintro D' c pre W hD hp ⟨rfl, hF, hbx, hbw⟩ hK
    have h9 := keep_cells (B := 0) hbx (grownBy_putObj' _ D' (.deferred none)) (fun r e => by cases e; exact ⟨Nat.zero_le _, _, hK, rfl⟩)
    have h10 : Below w.heap.size w (W.putObj D' (.deferred none)) := ownFrom_below (β := Unit) (Nat.le_refl _) (Nat.le_refl _) () _ _ _ hbw (grownBy_putObj' _ D' (.deferred none)) (fun r e => by cases e; exact ⟨by omega, _, hK, rfl⟩)
    have r0 := cellT h9 0
    simp only [List.getElem?_toArray, List.getElem?_cons_zero] at r0
    clear hseq h70
    gi_wp2
    refine ⟨by simp, .inl ⟨_, _, rfl, run_takeDeferred hK, ?_⟩⟩
    refine ⟨.bool false, by simp [results, Tryz.results61, go_sem, r0], ?_⟩
    rw [hF]
    exact ⟨rfl, h10⟩
set_option maxRecDepth 100000 in
set_option maxHeartbeats 1000000 in
theorem printedX_of (w : World) (root : Part) (ps : List Part) (hwh : ∀ (w1 : World), Below w.heap.size w w1 → Whole w1 root ps) (hR : ∀ p ∈ ps, ∀ (w1 : World), Below w.heap.size w w1 → Calls Tryz.prog 95 #[labP p] w1 fun e w' => e = .returned (.bool (rightP p)) ∧ Below w1.heap.size w1 w') (hall : ps.all rightP = true) (hE : EnvT w) (l : List UInt8) (d : Nat)
    (hw : ∀ (w1 : World), Below w.heap.size w w1 → w.heap.size ≤ w1.heap.size → Prn w1 w.heap.size w.heap.size [] 0 0 → Calls Tryz.prog 62 #[.pointer (some ⟨w.heap.size, 0, none⟩), labP root] w1 (PrP w1 w.heap.size w.heap.size l 0 d)) :
    Calls Tryz.prog 35 #[labP root] w (PdP w l d) := by
  obtain ⟨W, hW⟩ : ∃ W, W = w.alloc (.cells #[.pointer none, .slice none 0 0, .int .i64 0, .int .i64 0] 88) := ⟨_, rfl⟩
  have hbW : Below w.heap.size w W := by rw [hW]; exact (Below.refl _ w).alloc (Nat.le_refl _) _
  have hbox : W.heap[w.heap.size]? = some (.cells #[.pointer none, .slice none 0 0, .int .i64 0, .int .i64 0] 88 (0, 0)) := by rw [hW]; exact heap_alloc_new _ _
  have hpW : Prn W w.heap.size w.heap.size [] 0 0 := ⟨Nat.le_refl _, _, _, .inl rfl, hbox, BRow.nil _ _⟩
  have K1 := hid (mayBeX_any W root ps (hwh W hbW) (fun p hp w1 h1 => hR p hp w1 (hbW.trans (h1.mono hbW.size))))
  have K2 := hid (fun (w1 : World) (h1 : Below W.heap.size W w1) => hw w1 (hbW.trans (h1.mono hbW.size)) (Nat.le_trans hbW.size h1.size) (hpW.below h1))
  have TR := hid (fun (w1 : World) (h1 : Below W.heap.size W w1) => hbW.trans (h1.mono hbW.size))
  rw [hall] at K1
  obtain ⟨X, hX⟩ : ∃ X, X = w.heap.size := ⟨_, rfl⟩
  obtain ⟨V, hV⟩ : ∃ V, V = labP root := ⟨_, rfl⟩
  rw [← hV] at K1 K2 ⊢
  clear hwh hR hall hE hw hbox hpW hbW hV
  go_enter Tryz.func35, Tryz.ntmps35
  go_upto_region 2 with fail
  try rw [← hW]
  clear hW
  go_wp2_with (first
    | (go_at_call 61; (refine (Hid.out K1).mono ?_; rintro e w1 ⟨rfl, hb1⟩; have K2' := hid (K2.out w1 hb1); have HB1 := hid (TR.out w1 hb1); clear hb1))
    | (go_at_call 62; (refine (Hid.out K2').mono ?_; rintro e w2 ⟨rfl, hp2, hk2⟩)))
  go_ret2
  exact ⟨rfl, hp2, HB1.out.trans hk2.1⟩
theorem ptE_only : ∀ (k : Nat) (t : ET k), ∀ p ∈ ptE k t, ∃ h, p = .inr (.inr h)
  | 0, t => Empty.elim t
  | k + 1, t => fun p hp => by
    rcases List.mem_cons.1 hp with rfl | hp
    · exact ⟨_, rfl⟩
    · obtain ⟨u, hu, hp⟩ := List.mem_flatMap.1 hp
      exact ptE_only k u p hp
set_option maxRecDepth 100000 in
set_option maxHeartbeats 1000000 in
theorem exprX_any (k : Nat) (w : World) (t : ET (k + 1)) (d : EVs k w t) (hok : okAll (k + 1) t) (hE : EnvT w) (hl : (prE (k + 1) t).length ≤ 900000000) (hne : prE (k + 1) t ≠ []) (ho : dpE (k + 1) t ≤ 900000000) :
    Calls Tryz.prog 13 #[.agg t.1.cs] w fun e w' => e = .returned (.tuple #[.string ⟨(prE (k + 1) t).toArray⟩, .int .i64 0]) ∧ Below w.heap.size w w' := by
  obtain ⟨W, hW⟩ : ∃ W, W = w.alloc (.cells t.1.cs 45) := ⟨_, rfl⟩
  have hbw : Below w.heap.size w W := by rw [hW]; exact (Below.refl _ w).alloc (Nat.le_refl _) _
  have hb : W.heap[w.heap.size]? = some (.cells t.1.cs 45 (0, 0)) := by rw [hW]; exact heap_alloc_new _ _
  have dB := (d.below (Nat.le_refl _) hbw).box hb
  have hoB := okAll_at hok w.heap.size 0
  have K1 := hid (printedX_of W (.inr (.inr (eH (k + 1) (eAtB t w.heap.size 0)))) (ptE (k + 1) (eAtB t w.heap.size 0)) (fun w1 h1 => whole_expr (ERd.below (k + 1) dB (Nat.le_refl _) h1)) (fun p hp w1 h1 => by obtain ⟨h, rfl⟩ := ptE_only _ _ p hp; exact isRightX_any w1 h (EHr.below (ptE_rd (k + 1) dB _ hp) (Nat.le_refl _) h1) ((hE.below hbw).mx.below (hE.below hbw).mx.lt h1)) (List.all_eq_true.2 hoB) (hE.below hbw) (prE (k + 1) t) (dpE (k + 1) t) (fun w1 h1 hs hp => (wholeExpr_any (k + 1) W (eAtB t w.heap.size 0) dB hoB W.heap.size W.heap.size [] 0 0 w1 (hE.below hbw) (Nat.le_refl _) h1 hs hp (by show 0 + (prE (k + 1) t).length ≤ _; omega) (by show 0 + dpE (k + 1) t ≤ _; omega) (by omega) (by omega)).mono (fun e w' h' => ⟨h'.1, h'.2.1.eq rfl (show max 0 (0 + dpE (k + 1) t) = dpE (k + 1) t by omega), h'.2.2⟩)))
  have HW := hid hbw
  simp only [eAtB, eH, labP] at K1
  have K2 := hid (fun (w1 : World) (hp : Prn w1 W.heap.size W.heap.size (prE (k + 1) t) 0 (dpE (k + 1) t)) => string_any w1 _ _ _ _ _ hp hne)
  generalize prE (k + 1) t = L at *
  generalize dpE (k + 1) t = D at *
  simp only [EH.cs] at hW ⊢
  clear d hok hE hl hne ho hbw hb dB hoB
  go_enter Tryz.func13, Tryz.ntmps13
  go_wp2_with (first
    | (go_at_call 35; (rw [← hW]; refine (Hid.out K1).mono ?_; rintro e w1 ⟨rfl, hp1, hb1⟩; have K2' := hid (K2.out w1 hp1); have HB := hid hb1; clear hp1 hb1 hW))
    | (go_at_call 36; (refine (Hid.out K2').mono ?_; rintro e w2 ⟨rfl, hb2⟩)))
  go_ret2
  exact ⟨rfl, HW.out.trans ((HB.out.trans hb2).mono HW.out.size)⟩
end Go.Proofs.YtcnohgifihbkdaaGreatDoor.Lx

namespace Go.Proofs.YtcnohgifihbkdaaGreatDoor
open Go Go.RowKit Go.Deep Go.Shelf
set_option linter.unusedVariables false
set_option linter.unusedSimpArgs false
set_option maxRecDepth 100000
theorem pkE_names {a b : PEx} (h : pkE a = pkE b) (e : b.names = []) : a.names = [] := by
  unfold pkE pkN at h
  rw [e] at h
  simp only [Value.agg.injEq, Array.mk.injEq, List.cons.injEq, true_and, and_true, List.map_nil] at h
  obtain ⟨_, _, _, _, _, h6, _⟩ := h
  have h6 : a.names.map (fun n => Value.string (bs n)) = [] := by simpa using h6
  exact List.map_eq_nil_iff.1 h6
theorem map_two {l : List PEx} {a b : PEx} (h : [pkE a, pkE b] = l.map pkE) : ∃ x y, l = [x, y] ∧ pkE x = pkE a ∧ pkE y = pkE b := by
  cases l with
  | nil => simp at h
  | cons x l =>
    cases l with
    | nil => simp at h
    | cons y r =>
      cases r with
      | nil =>
        simp only [List.map_cons, List.map_nil, List.cons.injEq, and_true] at h
        exact ⟨x, y, rfl, h.1.symm, h.2.symm⟩
      | cons p q => simp at h
theorem mapE_one {l : List PEx} {a : PEx} (h : [pkE a] = l.map pkE) : ∃ x, l = [x] ∧ pkE x = pkE a := by
  cases l with
  | nil => simp at h
  | cons x l =>
    cases l with
    | nil =>
      simp only [List.map_cons, List.map_nil, List.cons.injEq, and_true] at h
      exact ⟨x, rfl, h.symm⟩
    | cons y r => simp at h
/- An element of a row of expressions, its arguments as they lie. -/
theorem node_of {w : World} {A : Nat → Prop} {v : Value} {l : List PEx} {j : Nat} {x : PEx} (h : XsR w A v l) (hj : l[j]? = some x) (hi : x.int = 0) (ht : x.text.length ≤ 100) (hn : x.name.length ≤ 100) (hs : x.names = []) :
    ∃ (g off cap : Nat) (aa : Option Addr) (ac : Nat) (xs : List PEx), v = .slice (some ⟨g, off, none⟩) l.length cap ∧ l.length ≤ cap ∧ g < w.heap.size ∧ XsR w A (.slice aa xs.length ac) xs ∧ x.args = xs.map pkE ∧
      ∀ (m : Nat) (kids : List (Lx.ET m)), kids.length = xs.length → kids.length ≤ 1000000 → Lx.LiesAt 8 aa (Lx.eAt m) kids → (∀ u ∈ kids, Lx.ERd m w u) →
        ∃ u : Lx.EH, Lx.ERd (m + 1) w (u, kids) ∧ u.b = g ∧ u.o = off + j * 8 ∧ u.kind = x.kind ∧ u.op = x.op ∧ u.int = 0 ∧ u.text = bs x.text ∧ u.name = bs x.name ∧ u.names = [] ∧ u.nn = 0 ∧ u.an = kids.length ∧ ∀ i, i < 8 → w.cell? ⟨g, off + j * 8 + i, none⟩ = u.cs[i]? := by
  obtain ⟨g, off, cap, nv, av, xs, rfl, hc, hg, hA, hN, ⟨hX, hx⟩, hcell⟩ := h.at hj
  obtain ⟨aa, ac, rfl, hac⟩ := hX.slice
  rw [hs] at hN
  obtain ⟨na, nc, rfl, _, _⟩ := hN.1.rd
  refine ⟨g, off, cap, aa, ac, xs, rfl, hc, hg, hX, hx, fun m kids hl hl2 hL hE => ?_⟩
  refine ⟨{ b := g, o := off + j * 8, kind := x.kind, op := x.op, int := x.int, text := bs x.text, name := bs x.name, na := na, nn := 0, nc := nc, aa := aa, an := xs.length, ac := ac, pos := x.pos, names := [] }, ⟨?_, hl.symm, hL, hE⟩, rfl, rfl, rfl, rfl, hi, rfl, rfl, rfl, rfl, hl.symm, ?_⟩
  · have c0 := hcell 0 (by omega)
    have c1 := hcell 1 (by omega)
    have c2 := hcell 2 (by omega)
    have c3 := hcell 3 (by omega)
    have c4 := hcell 4 (by omega)
    have c5 := hcell 5 (by omega)
    have c6 := hcell 6 (by omega)
    have c7 := hcell 7 (by omega)
    have tl : (bs x.text).size ≤ 9223372036854775807 := by rw [show (bs x.text).size = x.text.length from List.size_toArray]; omega
    have nl : (bs x.name).size ≤ 9223372036854775807 := by rw [show (bs x.name).size = x.name.length from List.size_toArray]; omega
    exact ⟨c0, c1, c2, c3, c4, c5, c6, c7, by show _ ≤ x.int; omega, by show x.int ≤ _; omega, tl, nl, rfl, Nat.zero_le _, fun s hs => by simp at hs, fun i s e => by simp at e, by show xs.length ≤ _; omega⟩
  · intro i hi'
    rw [hcell i hi']
    simp only [Lx.EH.cs, eC, List.getElem?_toArray]
    rfl
def LeafB (q : UInt8) (h : Lx.EH) : Prop := h.kind = 4 ∧ h.op = 0 ∧ h.int = 0 ∧ h.text = Lx.emp ∧ h.name = ⟨#[q]⟩ ∧ h.names = [] ∧ h.nn = 0 ∧ h.an = 0
def NodeB (o : Int) (h : Lx.EH) : Prop := h.kind = 6 ∧ h.op = o ∧ h.int = 0 ∧ h.text = Lx.emp ∧ h.name = Lx.emp ∧ h.names = [] ∧ h.nn = 0 ∧ h.an = 2
theorem leaf_of {w : World} {A : Nat → Prop} {v : Value} {l : List PEx} {j : Nat} {x : PEx} {q : UInt8} {p : Int} (h : XsR w A v l) (hj : l[j]? = some x) (hx : pkE x = pkE (nmX q p)) (m : Nat) :
    ∃ (g off cap : Nat) (u : Lx.EH), v = .slice (some ⟨g, off, none⟩) l.length cap ∧ Lx.ERd (m + 1) w ((u, []) : Lx.EH × List (Lx.ET m)) ∧ u.b = g ∧ u.o = off + j * 8 ∧ LeafB q u := by
  obtain ⟨e1, e2, e3, e4, e5, e6, e7⟩ := pkE_eq hx
  obtain ⟨g, off, cap, aa, ac, xs, hv, _, _, hX, hargs, K⟩ := node_of h hj (by rw [e3]; rfl) (by rw [e4]; show (0 : Nat) ≤ 100; omega) (by rw [e5]; show (1 : Nat) ≤ 100; omega) (pkE_names hx rfl)
  have hxs : xs = [] := by
    have : xs.map pkE = [] := by rw [← hargs, e6]; rfl
    exact List.map_eq_nil_iff.1 this
  subst hxs
  obtain ⟨u, h1, h2, h3, h4, h5, h6, h7, h8, h9, h10, h11, _⟩ := K m [] rfl (Nat.zero_le _) (fun i t e => by simp at e) (fun u hu => by simp at hu)
  exact ⟨g, off, cap, u, hv, h1, h2, h3, h4.trans e1, h5.trans e2, h6, by rw [h7, e4]; rfl, by rw [h8, e5]; rfl, h9, h10, h11⟩
/- One with two arguments, which are had by K. -/
theorem twoB_of {w : World} {A : Nat → Prop} {v : Value} {l : List PEx} {j : Nat} {x a b : PEx} {o : Int} {m : Nat} {P Q : Lx.ET m → Prop} (h : XsR w A v l) (hj : l[j]? = some x) (hx : pkE x = pkE (binary o a b))
    (K : ∀ (v' : Value) (xa xb : PEx), XsR w A v' [xa, xb] → pkE xa = pkE a → pkE xb = pkE b → ∃ (g off cap : Nat) (ua ub : Lx.ET m), v' = .slice (some ⟨g, off, none⟩) 2 cap ∧ Lx.ERd m w ua ∧ Lx.ERd m w ub ∧ Lx.eAt m ua = (g, off) ∧ Lx.eAt m ub = (g, off + 8) ∧ P ua ∧ Q ub) :
    ∃ (g off cap : Nat) (u : Lx.EH) (ua ub : Lx.ET m), v = .slice (some ⟨g, off, none⟩) l.length cap ∧ l.length ≤ cap ∧ g < w.heap.size ∧ Lx.ERd (m + 1) w ((u, [ua, ub]) : Lx.EH × List (Lx.ET m)) ∧ u.b = g ∧ u.o = off + j * 8 ∧ NodeB o u ∧ P ua ∧ Q ub ∧ ∀ i, i < 8 → w.cell? ⟨g, off + j * 8 + i, none⟩ = u.cs[i]? := by
  obtain ⟨e1, e2, e3, e4, e5, e6, e7⟩ := pkE_eq hx
  obtain ⟨g, off, cap, aa, ac, xs, hv, hle, hg, hX, hargs, KN⟩ := node_of h hj (by rw [e3]; rfl) (by rw [e4]; show (0 : Nat) ≤ 100; omega) (by rw [e5]; show (0 : Nat) ≤ 100; omega) (pkE_names hx rfl)
  obtain ⟨xa, xb, rfl, ha, hb⟩ := map_two (show [pkE a, pkE b] = xs.map pkE by rw [← hargs, e6]; rfl)
  obtain ⟨g2, off2, cap2, ua, ub, hv2, d1, d2, l1, l2, hP, hQ⟩ := K _ xa xb hX ha hb
  have haa : aa = some ⟨g2, off2, none⟩ := by
    simp only [Value.slice.injEq] at hv2
    exact hv2.1
  obtain ⟨u, h1, h2, h3, h4, h5, h6, h7, h8, h9, h10, h11, hc⟩ := KN m [ua, ub] rfl (by show (2 : Nat) ≤ 1000000; omega) (fun i t e => by
    refine ⟨g2, off2, haa, ?_⟩
    match i, e with
    | 0, e => simp at e; subst e; rw [l1]; simp
    | 1, e => simp at e; subst e; rw [l2]
    | i + 2, e => simp at e) (fun t ht => by
    simp only [List.mem_cons, List.not_mem_nil, or_false] at ht
    rcases ht with rfl | rfl
    · exact d1
    · exact d2)
  exact ⟨g, off, cap, u, ua, ub, hv, hle, hg, h1, h2, h3, ⟨h4.trans e1, h5.trans e2, h6, by rw [h7, e4]; rfl, by rw [h8, e5]; rfl, h9, h10, h11⟩, hP, hQ, hc⟩
theorem leaves_of {w : World} {A : Nat → Prop} {v' : Value} {xa xb : PEx} {q r : UInt8} {p p' : Int} (h : XsR w A v' [xa, xb]) (ha : pkE xa = pkE (nmX q p)) (hb : pkE xb = pkE (nmX r p')) (m : Nat) :
    ∃ (g off cap : Nat) (ua ub : Lx.ET (m + 1)), v' = .slice (some ⟨g, off, none⟩) 2 cap ∧ Lx.ERd (m + 1) w ua ∧ Lx.ERd (m + 1) w ub ∧ Lx.eAt (m + 1) ua = (g, off) ∧ Lx.eAt (m + 1) ub = (g, off + 8) ∧ (ua.2 = [] ∧ LeafB q ua.1) ∧ ub.2 = [] ∧ LeafB r ub.1 := by
  obtain ⟨g, off, cap, u, hv, d1, b1, o1, L1⟩ := leaf_of h (j := 0) rfl ha m
  obtain ⟨g2, off2, cap2, u2, hv2, d2, b2, o2, L2⟩ := leaf_of h (j := 1) rfl hb m
  rw [hv] at hv2
  simp only [Value.slice.injEq, Option.some.injEq, Addr.mk.injEq] at hv2
  obtain ⟨⟨rfl, rfl, _⟩, _, _⟩ := hv2
  refine ⟨g, off, cap, (u, []), (u2, []), hv, d1, d2, ?_, ?_, ⟨rfl, L1⟩, rfl, L2⟩
  · exact Prod.ext b1 (o1.trans (by omega))
  · exact Prod.ext b2 (o2.trans (by omega))
end Go.Proofs.YtcnohgifihbkdaaGreatDoor

namespace Go.Proofs.YtcnohgifihbkdaaGreatDoor
open Go Go.RowKit Go.Deep Go.Shelf
set_option linter.unusedVariables false
set_option linter.unusedSimpArgs false
set_option maxRecDepth 100000
def wA1 : Bsq := [40, 120, 32]
def wA2 : Bsq := [32, 121, 41, 32]
def wA3 : Bsq := [32, 122]
def wC1 : Bsq := [120, 32]
def wC2 : Bsq := [32, 40, 121, 32]
def wC3 : Bsq := [32, 122, 41]
def wA (i k : Nat) : Bsq := (((wA1 ++ sgB i) ++ wA2) ++ sgB k) ++ wA3
def wC (i k : Nat) : Bsq := (((wC1 ++ sgB i) ++ wC2) ++ sgB k) ++ wC3
def wantB (i k : Nat) : Bsq := if rkB i < rkB k then wC i k else wA i k
theorem sgn_is {i : Nat} (h : i < 17) : Lx.bs (Lx.sgnS (opB i)) = sgB i ∧ 1 ≤ opB i ∧ opB i ≤ 17 ∧ (sgB i).length ≤ 3 := by
  match i, h with
  | 0, _ => exact ⟨by kernel_rfl, by decide, by decide, by decide⟩
  | 1, _ => exact ⟨by kernel_rfl, by decide, by decide, by decide⟩
  | 2, _ => exact ⟨by kernel_rfl, by decide, by decide, by decide⟩
  | 3, _ => exact ⟨by kernel_rfl, by decide, by decide, by decide⟩
  | 4, _ => exact ⟨by kernel_rfl, by decide, by decide, by decide⟩
  | 5, _ => exact ⟨by kernel_rfl, by decide, by decide, by decide⟩
  | 6, _ => exact ⟨by kernel_rfl, by decide, by decide, by decide⟩
  | 7, _ => exact ⟨by kernel_rfl, by decide, by decide, by decide⟩
  | 8, _ => exact ⟨by kernel_rfl, by decide, by decide, by decide⟩
  | 9, _ => exact ⟨by kernel_rfl, by decide, by decide, by decide⟩
  | 10, _ => exact ⟨by kernel_rfl, by decide, by decide, by decide⟩
  | 11, _ => exact ⟨by kernel_rfl, by decide, by decide, by decide⟩
  | 12, _ => exact ⟨by kernel_rfl, by decide, by decide, by decide⟩
  | 13, _ => exact ⟨by kernel_rfl, by decide, by decide, by decide⟩
  | 14, _ => exact ⟨by kernel_rfl, by decide, by decide, by decide⟩
  | 15, _ => exact ⟨by kernel_rfl, by decide, by decide, by decide⟩
  | 16, _ => exact ⟨by kernel_rfl, by decide, by decide, by decide⟩
  | i + 17, h => exact absurd h (by omega)
theorem pr_leaf {m : Nat} {u : Lx.ET (m + 1)} {q : UInt8} (h : LeafB q u.1) : Lx.prE (m + 1) u = [q] := by
  show Lx.prH u.1 _ _ = [q]
  obtain ⟨h1, h2, h3, h4, h5, h6, h7, h8⟩ := h
  simp [Lx.prH, h1, h5, Lx.bs]
theorem brk_leaf {h a : Lx.EH} {q : UInt8} (l : LeafB q a) : Lx.brk h a = false := by
  obtain ⟨h1, _⟩ := l
  simp [Lx.brk, h1]
theorem brk_node {h a : Lx.EH} {o : Int} (l : NodeB o a) : Lx.brk h a = true := by
  obtain ⟨h1, _⟩ := l
  simp [Lx.brk, h1]
theorem pr_node {m : Nat} {u : Lx.ET (m + 2)} {ua ub : Lx.ET (m + 1)} {o : Int} (hu : u.2 = [ua, ub]) (h : NodeB o u.1) : Lx.prE (m + 2) u = Lx.argB u.1 ua.1 (Lx.prE (m + 1) ua) ++ (32 :: (Lx.bs (Lx.sgnS o) ++ (32 :: Lx.argB u.1 ub.1 (Lx.prE (m + 1) ub)))) := by
  show Lx.prH u.1 (u.2.map (Lx.eH (m + 1))) (u.2.map (Lx.prE (m + 1))) = _
  obtain ⟨h1, h2, _⟩ := h
  rw [hu]
  simp [Lx.prH, h1, h2, Lx.on2, Lx.eH]
theorem dp_leaf {m : Nat} {u : Lx.ET (m + 1)} {q : UInt8} (h : LeafB q u.1) : Lx.dpE (m + 1) u = 0 := by
  show Lx.dpH u.1 _ _ = 0
  obtain ⟨h1, _⟩ := h
  simp [Lx.dpH, h1]
theorem dp_arg (h a : Lx.EH) (d : Nat) : Lx.argD h a d ≤ 1 + d := by
  unfold Lx.argD; split <;> omega
theorem dp_node {m : Nat} {u : Lx.ET (m + 2)} {ua ub : Lx.ET (m + 1)} {o : Int} (hu : u.2 = [ua, ub]) (h : NodeB o u.1) : Lx.dpE (m + 2) u ≤ 1 + max (Lx.dpE (m + 1) ua) (Lx.dpE (m + 1) ub) := by
  show Lx.dpH u.1 (u.2.map (Lx.eH (m + 1))) (u.2.map (Lx.dpE (m + 1))) ≤ _
  obtain ⟨h1, h2, _⟩ := h
  rw [hu]
  have e1 := dp_arg u.1 ua.1 (Lx.dpE (m + 1) ua)
  have e2 := dp_arg u.1 ub.1 (Lx.dpE (m + 1) ub)
  simp [Lx.dpH, h1, Lx.on2, Lx.eH]
  omega
theorem right_leaf {h : Lx.EH} {q : UInt8} (l : LeafB q h) (hq : Lx.smallB ⟨#[q]⟩ = true) : Lx.rightP (.inr (.inr h)) = true := by
  obtain ⟨h1, h2, h3, h4, h5, h6, h7, h8⟩ := l
  show Lx.rightE h = true
  simp [Lx.rightE, Lx.okE, Lx.alikeE, Lx.meantE, h1, h2, h3, h4, h5, h6, h7, h8, hq]
theorem right_node {h : Lx.EH} {o : Int} (l : NodeB o h) (o1 : 1 ≤ o) (o2 : o ≤ 17) : Lx.rightP (.inr (.inr h)) = true := by
  obtain ⟨h1, h2, h3, h4, h5, h6, h7, h8⟩ := l
  show Lx.rightE h = true
  simp [Lx.rightE, Lx.okE, Lx.alikeE, Lx.meantE, h1, h2, h3, h4, h5, h6, h7, h8, o1, o2]
theorem ok_leaf {m : Nat} {u : Lx.ET (m + 1)} {q : UInt8} (hu : u.2 = []) (l : LeafB q u.1) (hq : Lx.smallB ⟨#[q]⟩ = true) : Lx.okAll (m + 1) u := by
  intro p hp
  rcases List.mem_cons.1 hp with rfl | hp
  · exact right_leaf l hq
  · rw [hu] at hp; simp at hp
theorem ok_node {m : Nat} {u : Lx.ET (m + 2)} {ua ub : Lx.ET (m + 1)} {o : Int} (hu : u.2 = [ua, ub]) (l : NodeB o u.1) (o1 : 1 ≤ o) (o2 : o ≤ 17) (ha : Lx.okAll (m + 1) ua) (hb : Lx.okAll (m + 1) ub) : Lx.okAll (m + 2) u := by
  intro p hp
  rcases List.mem_cons.1 hp with rfl | hp
  · exact right_node l o1 o2
  · rw [hu] at hp
    simp only [List.flatMap_cons, List.flatMap_nil, List.append_nil, List.mem_append] at hp
    rcases hp with hp | hp
    · exact ha p hp
    · exact hb p hp
theorem smX : Lx.smallB ⟨#[120]⟩ = true := by kernel_rfl
theorem smY : Lx.smallB ⟨#[121]⟩ = true := by kernel_rfl
theorem smZ : Lx.smallB ⟨#[122]⟩ = true := by kernel_rfl
/- The one argument of the one statement. -/
theorem top_of {w : World} {A : Nat → Prop} {v : Value} {x : PEx} {i k : Nat} (hi : i < 17) (hk : k < 17) (h : XsR w A v [x]) (hx : pkE x = pkE (eB i k)) :
    ∃ (g off cap : Nat) (t : Lx.ET 3), v = .slice (some ⟨g, off, none⟩) 1 cap ∧ 1 ≤ cap ∧ g < w.heap.size ∧ Lx.ERd 3 w t ∧ (∀ j, j < 8 → w.cell? ⟨g, off + j, none⟩ = t.1.cs[j]?) ∧ Lx.okAll 3 t ∧ Lx.prE 3 t = wantB i k ∧ Lx.dpE 3 t ≤ 2 := by
  obtain ⟨s1, s2, s3, _⟩ := sgn_is hi
  obtain ⟨r1, r2, r3, _⟩ := sgn_is hk
  unfold eB at hx
  unfold wantB
  split at hx
  · rename_i hlt
    rw [if_pos hlt]
    obtain ⟨g, off, cap, u, ua, ub, hv, hc, hg, hE, hb, ho, hN, ⟨ha2, hA⟩, ⟨uc, ud, hB2, hB, ⟨hc2, hC⟩, hd2, hD⟩, hcell⟩ := twoB_of (m := 2) (P := fun ua => ua.2 = [] ∧ LeafB 120 ua.1) (Q := fun ub => ∃ uc ud : Lx.ET 1, ub.2 = [uc, ud] ∧ NodeB (opB k) ub.1 ∧ (uc.2 = [] ∧ LeafB 121 uc.1) ∧ ud.2 = [] ∧ LeafB 122 ud.1) h (j := 0) rfl hx (fun v' xa xb hX e1 e2 => by
      obtain ⟨g, off, cap, u, hv, d1, b1, o1, L1⟩ := leaf_of hX (j := 0) rfl e1 1
      obtain ⟨g2, off2, cap2, u2, uc, ud, hv2, _, _, d2, b2, o2, N2, P2, Q2, _⟩ := twoB_of (m := 1) (P := fun uc => uc.2 = [] ∧ LeafB 121 uc.1) (Q := fun ud => ud.2 = [] ∧ LeafB 122 ud.1) hX (j := 1) rfl e2 (fun v'' ya yb hY f1 f2 => leaves_of hY f1 f2 0)
      rw [hv] at hv2
      simp only [Value.slice.injEq, Option.some.injEq, Addr.mk.injEq] at hv2
      obtain ⟨⟨rfl, rfl, _⟩, _, _⟩ := hv2
      exact ⟨g, off, cap, (u, []), (u2, [uc, ud]), hv, d1, d2, Prod.ext b1 (o1.trans (by omega)), Prod.ext b2 (o2.trans (by omega)), ⟨rfl, L1⟩, uc, ud, rfl, N2, P2, Q2⟩)
    refine ⟨g, off, cap, (u, [ua, ub]), hv, hc, hg, hE, fun j hj => ?_, ?_, ?_, ?_⟩
    · have := hcell j hj
      rw [Nat.zero_mul, Nat.add_zero] at this
      exact this
    · exact ok_node (m := 1) (u := ((u, [ua, ub]) : Lx.ET 3)) rfl hN s2 s3 (ok_leaf ha2 hA smX) (ok_node (m := 0) hB2 hB r2 r3 (ok_leaf hc2 hC smY) (ok_leaf hd2 hD smZ))
    · refine (pr_node (m := 1) (u := ((u, [ua, ub]) : Lx.ET 3)) rfl hN).trans ?_
      rw [pr_leaf hA, pr_node (m := 0) hB2 hB, pr_leaf hC, pr_leaf hD]
      simp only [Lx.argB, brk_leaf hA, brk_leaf hC, brk_leaf hD, brk_node hB, s1, r1, if_true, Bool.false_eq_true, if_false]
      simp [wC, wC1, wC2, wC3]
    · have q : Lx.dpE 3 ((u, [ua, ub]) : Lx.ET 3) ≤ 1 + max (Lx.dpE 2 ua) (Lx.dpE 2 ub) := dp_node (m := 1) (u := ((u, [ua, ub]) : Lx.ET 3)) rfl hN
      have q1 : Lx.dpE 2 ua = 0 := dp_leaf (m := 1) hA
      have q2 : Lx.dpE 2 ub ≤ 1 + max (Lx.dpE 1 uc) (Lx.dpE 1 ud) := dp_node (m := 0) hB2 hB
      have q3 : Lx.dpE 1 uc = 0 := dp_leaf (m := 0) hC
      have q4 : Lx.dpE 1 ud = 0 := dp_leaf (m := 0) hD
      omega
  · rename_i hlt
    rw [if_neg hlt]
    obtain ⟨g, off, cap, u, ua, ub, hv, hc, hg, hE, hb, ho, hN, ⟨uc, ud, hB2, hB, ⟨hc2, hC⟩, hd2, hD⟩, ⟨ha2, hA⟩, hcell⟩ := twoB_of (m := 2) (Q := fun ua => ua.2 = [] ∧ LeafB 122 ua.1) (P := fun ub => ∃ uc ud : Lx.ET 1, ub.2 = [uc, ud] ∧ NodeB (opB i) ub.1 ∧ (uc.2 = [] ∧ LeafB 120 uc.1) ∧ ud.2 = [] ∧ LeafB 121 ud.1) h (j := 0) rfl hx (fun v' xa xb hX e1 e2 => by
      obtain ⟨g, off, cap, u, hv, d1, b1, o1, L1⟩ := leaf_of hX (j := 1) rfl e2 1
      obtain ⟨g2, off2, cap2, u2, uc, ud, hv2, _, _, d2, b2, o2, N2, P2, Q2, _⟩ := twoB_of (m := 1) (P := fun uc => uc.2 = [] ∧ LeafB 120 uc.1) (Q := fun ud => ud.2 = [] ∧ LeafB 121 ud.1) hX (j := 0) rfl e1 (fun v'' ya yb hY f1 f2 => leaves_of hY f1 f2 0)
      rw [hv] at hv2
      simp only [Value.slice.injEq, Option.some.injEq, Addr.mk.injEq] at hv2
      obtain ⟨⟨rfl, rfl, _⟩, _, _⟩ := hv2
      exact ⟨g, off, cap, (u2, [uc, ud]), (u, []), hv, d2, d1, Prod.ext b2 (o2.trans (by omega)), Prod.ext b1 (o1.trans (by omega)), ⟨uc, ud, rfl, N2, P2, Q2⟩, rfl, L1⟩)
    refine ⟨g, off, cap, (u, [ua, ub]), hv, hc, hg, hE, fun j hj => ?_, ?_, ?_, ?_⟩
    · have := hcell j hj
      rw [Nat.zero_mul, Nat.add_zero] at this
      exact this
    · exact ok_node (m := 1) (u := ((u, [ua, ub]) : Lx.ET 3)) rfl hN r2 r3 (ok_node (m := 0) hB2 hB s2 s3 (ok_leaf hc2 hC smX) (ok_leaf hd2 hD smY)) (ok_leaf ha2 hA smZ)
    · refine (pr_node (m := 1) (u := ((u, [ua, ub]) : Lx.ET 3)) rfl hN).trans ?_
      rw [pr_leaf hA, pr_node (m := 0) hB2 hB, pr_leaf hC, pr_leaf hD]
      simp only [Lx.argB, brk_leaf hA, brk_leaf hC, brk_leaf hD, brk_node hB, s1, r1, if_true, Bool.false_eq_true, if_false]
      simp [wA, wA1, wA2, wA3]
    · have q : Lx.dpE 3 ((u, [ua, ub]) : Lx.ET 3) ≤ 1 + max (Lx.dpE 2 ua) (Lx.dpE 2 ub) := dp_node (m := 1) (u := ((u, [ua, ub]) : Lx.ET 3)) rfl hN
      have q1 : Lx.dpE 2 ub = 0 := dp_leaf (m := 1) hA
      have q2 : Lx.dpE 2 ua ≤ 1 + max (Lx.dpE 1 uc) (Lx.dpE 1 ud) := dp_node (m := 0) hB2 hB
      have q3 : Lx.dpE 1 uc = 0 := dp_leaf (m := 0) hC
      have q4 : Lx.dpE 1 ud = 0 := dp_leaf (m := 0) hD
      omega
end Go.Proofs.YtcnohgifihbkdaaGreatDoor

namespace Go.Proofs.YtcnohgifihbkdaaGreatDoor
open Go Go.RowKit Go.Deep Go.Shelf
set_option linter.unusedVariables false
set_option linter.unusedSimpArgs false
set_option maxRecDepth 100000
theorem src_len {i k : Nat} (hi : i < 17) (hk : k < 17) : (srcB i k).length ≤ 40 := by
  obtain ⟨_, _, _, h1⟩ := sgn_is hi
  obtain ⟨_, _, _, h2⟩ := sgn_is hk
  unfold srcB bdH bdY bdZ
  simp only [List.length_append, List.length_cons, List.length_nil]
  omega
theorem evs_of {k : Nat} {w : World} {t : Lx.ET (k + 1)} (d : Lx.ERd (k + 1) w t) : Lx.EVs k w t :=
  ⟨⟨d.1.i0, d.1.i1, d.1.t, d.1.n, d.1.nl, d.1.nb, d.1.ns, d.1.nr, d.1.ab⟩, d.2.1, d.2.2.1, d.2.2.2⟩
theorem binds_no (w : World) {i k : Nat} (hi : i < 17) (hk : k < 17) (h2 : rkB i = 2 ∧ rkB k = 2) (hm : Lx.MX w) (hG : Gl w) : Calls Tryz.prog 9 #[.string (bs (srcB i k))] w fun e w' => ∃ p : Int, e = .returned (.tuple #[.agg #[.slice none 0 0, .slice none 0 0, .slice none 0 0, .slice none 0 0], .int .i64 p, .int .i64 70]) ∧ Below w.heap.size w w' := by
  have hl := src_len hi hk
  refine (parse_any w _ (by rw [show (bs (srcB i k)).size = (srcB i k).length from List.size_toArray]; omega) hm hG).mono ?_
  intro e w' h
  rw [show (bs (srcB i k)).data.toList = srcB i k from rfl, binds_is hi hk, ansB, if_pos h2] at h
  exact ⟨_, h.1, h.2⟩
/- The only handler's body, the blocks told. -/
theorem ev_bodyA {w : World} {A : Nat → Prop} {v : Value} {t : PTr} {d : PDc} (h : RTr w A v t) (he : t.events = [d]) : ∃ (a0 a1 a2 : Option Addr) (n0 n1 n2 k0 k1 k2 g off cap : Nat) (ab : Option Addr) (cb : Nat) (b : List PSt), v = .agg #[.slice a0 n0 k0, .slice a1 n1 k1, .slice a2 n2 k2, .slice (some ⟨g, off, none⟩) 1 cap] ∧ 1 ≤ cap ∧ A g ∧ w.cell? ⟨g, off + 5, none⟩ = some (.slice ab b.length cb) ∧ b.length ≤ cb ∧ SsR w A (.slice ab b.length cb) b ∧ d.body = b.map pkS := by
  obtain ⟨v0, v1, v2, v3, rfl, L0, L1, L2, L3⟩ := h
  obtain ⟨a0, k0, rfl⟩ := L0.form
  obtain ⟨a1, k1, rfl⟩ := L1.form
  obtain ⟨a2, k2, rfl⟩ := L2.form
  rw [he] at L3
  obtain ⟨g, off, cap, r, rfl, hc, hg, hA, ⟨pv, bv, b, rfl, hp, hs, hb⟩, hcell⟩ := L3.at (j := 0) rfl
  obtain ⟨ab, cb, rfl, hcb⟩ := hs.slice
  have h5 := hcell 5 (by omega)
  rw [Nat.zero_mul, Nat.add_zero] at h5
  exact ⟨a0, a1, a2, _, _, _, k0, k1, k2, g, off, cap, ab, cb, b, rfl, hc, hA, h5, hcb, hs.mv (Same.refl _ _) (fun g h => h.1), hb⟩
theorem body_oneA {w : World} {A : Nat → Prop} {v : Value} {b : List PSt} {s : PSt} (h : SsR w A v b) (hb : [pkS s] = b.map pkS) : ∃ (g off cap : Nat) (av bv ev : Value) (xs : List PEx), v = .slice (some ⟨g, off, none⟩) 1 cap ∧ 1 ≤ cap ∧ A g ∧ (XsR w A av xs ∧ s.args = xs.map pkE) ∧ ∀ i, i < 8 → w.cell? ⟨g, off + i, none⟩ = (sC s av bv ev)[i]? := by
  obtain ⟨s', rfl, hs⟩ := map_one hb
  obtain ⟨g, off, cap, av, bv, ev, xs, b, e, rfl, hc, hg, hA, q1, q2, q3, hcell⟩ := h.at (j := 0) rfl
  obtain ⟨_, _, _, _, h5, h6, h7, _⟩ := pkS_eq hs
  refine ⟨g, off, cap, av, bv, ev, xs, rfl, hc, hA, ⟨q1.1, by rw [← h5]; exact q1.2⟩, fun i hi => ?_⟩
  have := hcell i hi
  rw [Nat.zero_mul, Nat.add_zero] at this
  rw [this, sC_eq hs]
theorem binds_yes (w : World) {i k : Nat} (hi : i < 17) (hk : k < 17) (h2 : ¬ (rkB i = 2 ∧ rkB k = 2)) (hm : Lx.MX w) (hG : Gl w) : Calls Tryz.prog 9 #[.string (bs (srcB i k))] w fun e w' =>
    ∃ (a0 a1 a2 : Option Addr) (n0 n1 n2 k0 k1 k2 g off cap g2 off2 cap2 : Nat) (av : Value) (x : PEx), e = .returned (.tuple #[.agg #[.slice a0 n0 k0, .slice a1 n1 k1, .slice a2 n2 k2, .slice (some ⟨g, off, none⟩) 1 cap], .int .i64 0, .int .i64 0]) ∧ (1 : Int) ≤ (cap : Int) ∧ (w.heap.size ≤ g ∧ g < w'.heap.size) ∧
      w'.cell? ⟨g, off + 5, none⟩ = some (.slice (some ⟨g2, off2, none⟩) 1 cap2) ∧ (1 : Int) ≤ (cap2 : Int) ∧ (w.heap.size ≤ g2 ∧ g2 < w'.heap.size) ∧ w'.cell? ⟨g2, off2 + 4, none⟩ = some av ∧
      XsR w' (fun g => w.heap.size ≤ g ∧ g < w'.heap.size) av [x] ∧ pkE x = pkE (eB i k) ∧ Below w.heap.size w w' := by
  have hl := src_len hi hk
  refine (parse_any w _ (by rw [show (bs (srcB i k)).size = (srcB i k).length from List.size_toArray]; omega) hm hG).mono ?_
  intro e w' h
  rw [show (bs (srcB i k)).data.toList = srcB i k from rfl, binds_is hi hk, ansB, if_neg h2] at h
  obtain ⟨v, rfl, hR, hb⟩ := h
  obtain ⟨a0, a1, a2, n0, n1, n2, k0, k1, k2, g, off, cap, ab, cb, b, rfl, hcap, hg, h5, hcb, hS, hB⟩ := ev_bodyA hR rfl
  obtain ⟨g2, off2, cap2, av, bv, ev, xs, hv, hc2, hg2, ⟨hX, hx⟩, hcell⟩ := body_oneA hS hB
  have h4 := hcell 4 (by omega)
  obtain ⟨x, rfl, hx1⟩ := mapE_one (show [pkE (eB i k)] = xs.map pkE from hx)
  rw [hv] at h5
  exact ⟨a0, a1, a2, n0, n1, n2, k0, k1, k2, g, off, cap, g2, off2, cap2, av, x, rfl, by omega, hg, h5, by omega, hg2, h4, hX, hx1, hb⟩
/- The same, told of the world ahead. -/
theorem binds_yesW {W V : World} (bl : Below W.heap.size W V) {i k : Nat} (hi : i < 17) (hk : k < 17) (h2 : ¬ (rkB i = 2 ∧ rkB k = 2)) (hE : Lx.EnvT W) (hG : Gl W) : Calls Tryz.prog 9 #[.string (bs (srcB i k))] V fun e w' =>
    ∃ (a0 a1 a2 : Option Addr) (n0 n1 n2 k0 k1 k2 g off cap g2 off2 cap2 : Nat) (av : Value) (x : PEx), e = .returned (.tuple #[.agg #[.slice a0 n0 k0, .slice a1 n1 k1, .slice a2 n2 k2, .slice (some ⟨g, off, none⟩) 1 cap], .int .i64 0, .int .i64 0]) ∧ (1 : Int) ≤ (cap : Int) ∧ (V.heap.size ≤ g ∧ g < w'.heap.size) ∧
      w'.cell? ⟨g, off + 5, none⟩ = some (.slice (some ⟨g2, off2, none⟩) 1 cap2) ∧ (1 : Int) ≤ (cap2 : Int) ∧ (V.heap.size ≤ g2 ∧ g2 < w'.heap.size) ∧ w'.cell? ⟨g2, off2 + 4, none⟩ = some av ∧
      XsR w' (fun g => V.heap.size ≤ g ∧ g < w'.heap.size) av [x] ∧ pkE x = pkE (eB i k) ∧ Below V.heap.size V w' :=
  binds_yes V hi hk h2 (hE.below bl).mx (gl_below hG bl)
theorem binds_noW {W V : World} (bl : Below W.heap.size W V) {i k : Nat} (hi : i < 17) (hk : k < 17) (h2 : rkB i = 2 ∧ rkB k = 2) (hE : Lx.EnvT W) (hG : Gl W) : Calls Tryz.prog 9 #[.string (bs (srcB i k))] V fun e w' => ∃ p : Int, e = .returned (.tuple #[.agg #[.slice none 0 0, .slice none 0 0, .slice none 0 0, .slice none 0 0], .int .i64 p, .int .i64 70]) ∧ Below W.heap.size W w' :=
  (binds_no V hi hk h2 (hE.below bl).mx (gl_below hG bl)).mono fun e w' ⟨p, he, hb⟩ => ⟨p, he, bl.trans (hb.mono bl.size)⟩
def Z4 : Array Value := #[.slice none 0 0, .slice none 0 0, .slice none 0 0, .slice none 0 0]
theorem binds_noV {W : World} {i k : Nat} (hi : i < 17) (hk : k < 17) (h2 : rkB i = 2 ∧ rkB k = 2) (hE : Lx.EnvT W) (hG : Gl W) : Calls Tryz.prog 9 #[.string (bs (srcB i k))] (W.drew.alloc (.cells Z4 25)) fun e w' => ∃ p : Int, e = .returned (.tuple #[.agg #[.slice none 0 0, .slice none 0 0, .slice none 0 0, .slice none 0 0], .int .i64 p, .int .i64 70]) ∧ Below W.heap.size W w' ∧ Box W.heap.size Z4 25 w' := by
  have bl : Below W.heap.size W (W.drew.alloc (.cells Z4 25)) := ((Below.refl W.heap.size W).drew).alloc (Nat.le_refl _) _
  refine (binds_no _ hi hk h2 (hE.below bl).mx (gl_below hG bl)).mono fun e w' ⟨p, he, hb⟩ => ⟨p, he, bl.trans (hb.mono bl.size), ?_⟩
  exact (Box.new W.drew Z4 25).below hb
theorem want_len {i k : Nat} (hi : i < 17) (hk : k < 17) : (wantB i k).length ≤ 40 ∧ wantB i k ≠ [] := by
  obtain ⟨_, _, _, h1⟩ := sgn_is hi
  obtain ⟨_, _, _, h2⟩ := sgn_is hk
  unfold wantB
  split
  · unfold wC wC1 wC2 wC3
    refine ⟨?_, by simp⟩
    simp only [List.length_append, List.length_cons, List.length_nil]
    omega
  · unfold wA wA1 wA2 wA3
    refine ⟨?_, by simp⟩
    simp only [List.length_append, List.length_cons, List.length_nil]
    omega
/- The expression, read and printed. -/
theorem binds_expr {X : World} {A : Nat → Prop} {av : Value} {x : PEx} {i k : Nat} (hi : i < 17) (hk : k < 17) (h : XsR X A av [x]) (hx : pkE x = pkE (eB i k)) (hE : Lx.EnvT X) :
    ∃ (g off cap : Nat) (kd op it : Int) (tx nm : ByteArray) (na aa : Option Addr) (nn nc an ac : Nat) (ps : Int), av = .slice (some ⟨g, off, none⟩) 1 cap ∧ (1 : Int) ≤ (cap : Int) ∧ X.cell? ⟨g, off, none⟩ = some (.int .i64 kd) ∧ X.cell? ⟨g, off + 1, none⟩ = some (.int .i64 op) ∧ X.cell? ⟨g, off + 2, none⟩ = some (.int .i64 it) ∧ X.cell? ⟨g, off + 3, none⟩ = some (.string tx) ∧ X.cell? ⟨g, off + 4, none⟩ = some (.string nm) ∧ X.cell? ⟨g, off + 5, none⟩ = some (.slice na nn nc) ∧ X.cell? ⟨g, off + 6, none⟩ = some (.slice aa an ac) ∧ X.cell? ⟨g, off + 7, none⟩ = some (.int .i64 ps) ∧
      Calls Tryz.prog 13 #[.agg #[.int .i64 kd, .int .i64 op, .int .i64 it, .string tx, .string nm, .slice na nn nc, .slice aa an ac, .int .i64 ps]] X fun e w' => e = .returned (.tuple #[.string (bs (wantB i k)), .int .i64 0]) ∧ Below X.heap.size X w' := by
  obtain ⟨g, off, cap, t, rfl, hc, hg, hR, hcs, hok, hpr, hdp⟩ := top_of hi hk h hx
  obtain ⟨hl, hne⟩ := want_len hi hk
  have K := Lx.exprX_any 2 X t (evs_of hR) hok hE (by show (Lx.prE 3 t).length ≤ _; rw [hpr]; omega) (by show Lx.prE 3 t ≠ []; rw [hpr]; exact hne) (by show Lx.dpE 3 t ≤ _; omega)
  have c0 := hcs 0 (by omega)
  rw [Nat.add_zero] at c0
  refine ⟨g, off, cap, _, _, _, _, _, _, _, _, _, _, _, _, rfl, by omega, c0, hcs 1 (by omega), hcs 2 (by omega), hcs 3 (by omega), hcs 4 (by omega), hcs 5 (by omega), hcs 6 (by omega), hcs 7 (by omega), K.mono fun e w' h => ⟨?_, h.2⟩⟩
  rw [h.1]
  show Ending.returned (.tuple #[.string ⟨(Lx.prE 3 t).toArray⟩, .int .i64 0]) = _
  rw [hpr]
end Go.Proofs.YtcnohgifihbkdaaGreatDoor

namespace Go.Proofs.YtcnohgifihbkdaaGreatDoor
open Go Go.RowKit Go.Deep Go.Shelf
set_option linter.unusedVariables false
set_option linter.unusedSimpArgs false
set_option maxRecDepth 100000
theorem run_cat (a b : Bsq) (h : a.length + b.length ≤ 100000) (W : World) : (Op.stringOp .add (bs a) (bs b)).run Tryz.prog W = .ok (.string (bs (a ++ b))) W := by
  have q := run_string_add_sum (P := Tryz.prog) W (bs a) (bs b) (by
    show a.toArray.size + b.toArray.size ≤ 9223372036854775807
    rw [List.size_toArray, List.size_toArray]; omega)
  rw [bs_cat] at q
  exact q
end Go.Proofs.YtcnohgifihbkdaaGreatDoor

namespace Go.Proofs.YtcnohgifihbkdaaGreatDoor
open Go Go.RowKit Go.Deep Go.Shelf
set_option linter.unusedVariables false
set_option linter.unusedSimpArgs false
set_option maxRecDepth 100000
def sgV : Array Value := #[.string ⟨#[111, 114]⟩, .string ⟨#[97, 110, 100]⟩, .string ⟨#[61, 61]⟩, .string ⟨#[33, 61]⟩, .string ⟨#[60]⟩, .string ⟨#[60, 61]⟩, .string ⟨#[62]⟩, .string ⟨#[62, 61]⟩, .string ⟨#[43]⟩, .string ⟨#[45]⟩, .string ⟨#[43, 37]⟩, .string ⟨#[45, 37]⟩, .string ⟨#[38]⟩, .string ⟨#[42]⟩, .string ⟨#[42, 37]⟩, .string ⟨#[47]⟩, .string ⟨#[37]⟩]
def rkV : Array Value := #[.int .i64 0, .int .i64 1, .int .i64 2, .int .i64 2, .int .i64 2, .int .i64 2, .int .i64 2, .int .i64 2, .int .i64 3, .int .i64 3, .int .i64 3, .int .i64 3, .int .i64 3, .int .i64 4, .int .i64 4, .int .i64 4, .int .i64 4]
def s1B (i : Nat) : Bsq := bdH ++ sgB i
def s2B (i : Nat) : Bsq := s1B i ++ bdY
def s3B (i k : Nat) : Bsq := s2B i ++ sgB k
theorem s_len {i k : Nat} (h1 : (sgB i).length ≤ 3) (h2 : (sgB k).length ≤ 3) : (s1B i).length ≤ 17 ∧ (s2B i).length ≤ 20 ∧ (s3B i k).length ≤ 23 := by
  have e1 : bdH.length = 14 := rfl
  have e2 : bdY.length = 3 := rfl
  unfold s3B s2B s1B
  simp only [List.length_append]
  omega
theorem set_at4 {w : World} {b : Nat} {c : Array Value} {t : TypeId} (h : w.heap[b]? = some (.cells c t (0, 0))) (k : Nat) (v : Value) : (w.setCell ⟨b, k, none⟩ v).heap[b]? = some (.cells (c.setIfInBounds k v) t (0, 0)) := by
  simp [World.setCell, Array.getElem?_modify, h]
theorem set4_other {w : World} {L g o : Nat} {v0 v1 v2 v3 x : Value} (hn : g ≠ L) (hc : w.cell? ⟨g, o, none⟩ = some x) : ((((w.setCell ⟨L, 0, none⟩ v0).setCell ⟨L, 1, none⟩ v1).setCell ⟨L, 2, none⟩ v2).setCell ⟨L, 3, none⟩ v3).cell? ⟨g, o, none⟩ = some x := by
  rw [World.cell?_of_block (w := w) (by
    rw [Below.heap_setCell _ ⟨L, 3, none⟩ _ _ (show g ≠ L from hn), Below.heap_setCell _ ⟨L, 2, none⟩ _ _ (show g ≠ L from hn), Below.heap_setCell _ ⟨L, 1, none⟩ _ _ (show g ≠ L from hn), Below.heap_setCell _ ⟨L, 0, none⟩ _ _ (show g ≠ L from hn)])]
  exact hc
theorem sgV_at {i : Nat} (h : i < 17) : sgV[i]? = some (.string (bs (sgB i))) ∧ rkV[i]? = some (.int .i64 (rkB i : Int)) := by
  match i, h with
  | 0, _ => exact ⟨rfl, rfl⟩
  | 1, _ => exact ⟨rfl, rfl⟩
  | 2, _ => exact ⟨rfl, rfl⟩
  | 3, _ => exact ⟨rfl, rfl⟩
  | 4, _ => exact ⟨rfl, rfl⟩
  | 5, _ => exact ⟨rfl, rfl⟩
  | 6, _ => exact ⟨rfl, rfl⟩
  | 7, _ => exact ⟨rfl, rfl⟩
  | 8, _ => exact ⟨rfl, rfl⟩
  | 9, _ => exact ⟨rfl, rfl⟩
  | 10, _ => exact ⟨rfl, rfl⟩
  | 11, _ => exact ⟨rfl, rfl⟩
  | 12, _ => exact ⟨rfl, rfl⟩
  | 13, _ => exact ⟨rfl, rfl⟩
  | 14, _ => exact ⟨rfl, rfl⟩
  | 15, _ => exact ⟨rfl, rfl⟩
  | 16, _ => exact ⟨rfl, rfl⟩
  | i + 17, h => exact absurd h (by omega)
end Go.Proofs.YtcnohgifihbkdaaGreatDoor

