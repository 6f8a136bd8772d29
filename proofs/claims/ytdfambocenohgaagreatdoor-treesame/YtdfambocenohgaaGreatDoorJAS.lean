/- windlasshelp: how many parts there are, up to a bound. -/
import Derived.Test.YtdfambocenohgaaGreatDoorJAR
import Derived.Deep.CutBlock
import Derived.Deep.DeepCutAuto
import Derived.WalkMore
import Derived.SizedLaws
import Derived.ChangeArms
import Derived.LaidSub
import Derived.LaidLaws
import Derived.LaidHandle
import Derived.Handed
import Derived.ChangeSame
import Derived.ChangeAt
import Derived.OpenShut
import Derived.ProofKit
import Derived.ChangeMaps5
import Derived.ChangeOld
import Derived.ChangeVars
import Derived.Deep.Slices
namespace Go.Proofs.YtdfambocenohgaaGreatDoor
open Go.RowKit Go.Deep
set_option linter.unusedVariables false
set_option linter.unusedSimpArgs false

theorem EW.below {w w' : World} {h : EH} {B : Nat} (d : EW w h) (hB : w.heap.size ≤ B) (k : Below B w w') : EW w' h :=
  ⟨belowCell d.c0 hB k, belowCell d.c1 hB k, belowCell d.c2 hB k, belowCell d.c3 hB k, belowCell d.c4 hB k, belowCell d.c5 hB k, belowCell d.c6 hB k, belowCell d.c7 hB k, d.i0, d.i1, d.t, d.n, d.nl, d.nb, d.ns, d.nr.below hB k, d.ab⟩
theorem SW.below {w w' : World} {h : SH} {B : Nat} (d : SW w h) (hB : w.heap.size ≤ B) (k : Below B w w') : SW w' h :=
  ⟨belowCell d.c0 hB k, belowCell d.c1 hB k, belowCell d.c2 hB k, belowCell d.c3 hB k, belowCell d.c4 hB k, belowCell d.c5 hB k, belowCell d.c6 hB k, belowCell d.c7 hB k, d.n, d.l, d.v, d.ab, d.bb, d.eb⟩
theorem DW.below {w w' : World} {h : DH} {B : Nat} (d : DW w h) (hB : w.heap.size ≤ B) (k : Below B w w') : DW w' h :=
  ⟨belowCell d.c0 hB k, belowCell d.c1 hB k, belowCell d.c2 hB k, belowCell d.c3 hB k, belowCell d.c4 hB k, belowCell d.c5 hB k, belowCell d.c6 hB k, d.n, d.k, d.v, d.r, d.pl, d.pb, d.ps, d.pr.below hB k, d.bb⟩
theorem EWd.below : ∀ (k : Nat) {w w' : World} {t : ET k} {B : Nat}, EWd k w t → w.heap.size ≤ B → Below B w w' → EWd k w' t
  | 0, _, _, _, _, d, _, _ => d.elim
  | k + 1, _, _, _, _, d, hB, h => ⟨d.1.below hB h, d.2.1, d.2.2.1, fun u hu => EWd.below k (d.2.2.2 u hu) hB h⟩
theorem SWd.below : ∀ (k : Nat) {w w' : World} {t : ST k} {B : Nat}, SWd k w t → w.heap.size ≤ B → Below B w w' → SWd k w' t
  | 0, _, _, _, _, d, _, _ => d.elim
  | k + 1, _, _, _, _, d, hB, h => ⟨d.1.below hB h, d.2.1, d.2.2.1, fun u hu => EWd.below k (d.2.2.2.1 u hu) hB h, fun u hu => SWd.below k (d.2.2.2.2.1 u hu) hB h, fun u hu => SWd.below k (d.2.2.2.2.2 u hu) hB h⟩
theorem DWd.below {k : Nat} {w w' : World} {t : DT k} {B : Nat} (d : DWd k w t) (hB : w.heap.size ≤ B) (h : Below B w w') : DWd k w' t := ⟨d.h.below hB h, d.n, d.l, fun u hu => SWd.below k (d.e u hu) hB h⟩
theorem LWs.below {k : Nat} {w w' : World} {s : ByteArray} {a : Option Addr} {n : Nat} {ts : List (DT k)} {B : Nat} (d : LWs k w s a n ts) (hB : w.heap.size ≤ B) (h : Below B w w') : LWs k w' s a n ts := ⟨d.b, d.n, d.l, fun u hu => (d.e u hu).below hB h, d.s⟩
theorem TWs.below {k : Nat} {w w' : World} {t : TT k} {B : Nat} (d : TWs k w t) (hB : w.heap.size ≤ B) (h : Below B w w') : TWs k w' t := ⟨d.rs.below hB h, d.ms.below hB h, d.fs.below hB h, d.es.below hB h⟩
/- What is told of a row: at most the bound's double; and all of it, if it is within the bound. -/
def CntP (w : World) (m z : Nat) (e : Ending) (w' : World) : Prop := w' = w ∧ ∃ r : Nat, e = .returned (.int .i64 (r : Int)) ∧ r ≤ 2 * m + 2 ∧ (r ≤ m → z ≤ r)
def InE (k : Nat) (w : World) (t : ET k) : Prop := ∀ (m : Nat), m ≤ 600 → ∃ z, Calls Tryz.prog 8 #[.slice (eH k t).aa (eH k t).an (eH k t).ac, .int .i64 (m : Int)] w (CntP w m z) ∧ szE k t = 1 + (eH k t).names.length + z
set_option maxRecDepth 100000 in
set_option maxHeartbeats 1000000 in
theorem exprs_row (k : Nat) (w : World) (a : Option Addr) (n c : Nat) (ts : List (ET k)) (m : Nat) (hn : n = ts.length) (hb : n ≤ 9223372036854775807) (hl : LiesAt 8 a (eAt k) ts) (hr : ∀ u ∈ ts, EWd k w u) (hi : ∀ u ∈ ts, InE k w u) (hm : m ≤ 600) :
    Calls Tryz.prog 8 #[.slice a n c, .int .i64 (m : Int)] w (CntP w m (sumL (szE k) ts)) := by
  have HL := hid hl
  have HR := hid hr
  have HI := hid hi
  have HN := hid hn
  have mI : (m : Int) ≤ 600 := by omega
  have m0 : (0 : Int) ≤ (m : Int) := by omega
  have nI : (n : Int) ≤ 9223372036854775807 := by omega
  clear hl hr hi hn hb
  go_enter Tryz.func8, Tryz.ntmps8
  go_wp2
  go_loopg [5, 6] n (fun g x y wr => ∃ i s : Nat, i + g = n ∧ y = .int .i64 (i : Int) ∧ x = .int .i64 (s : Int) ∧ wr = w ∧ s ≤ 2 * m + 2 ∧ (s ≤ m → sumL (szE k) (ts.take i) ≤ s))
  case atStart => exact ⟨0, 0, by omega, rfl, rfl, rfl, by omega, fun _ => by simp [sumL]⟩
  case round =>
    obtain ⟨i, s, hig, rfl, rfl, rfl, hs2, hsum⟩ := hrel
    have HS := hid hsum
    have HG := hid hig
    have s0 : (0 : Int) ≤ (s : Int) := by omega
    have sI : (s : Int) ≤ 1202 := by omega
    clear hsum
    cases gk with
    | zero =>
      have hin : i = n := by omega
      subst hin
      clear hig
      go_wp2
      go_ret
      exact ⟨rfl, s, rfl, hs2, fun h => by have := HS.out h; rwa [List.take_of_length_le (by rw [← HN.out]; exact Nat.le_refl _)] at this⟩
    | succ g =>
      have hil : (i : Int) < (n : Int) := by omega
      have hi0 : (0 : Int) ≤ (i : Int) := by omega
      clear hig
      rcases Nat.lt_or_ge m s with hsm | hsm
      · have q : ¬ ((s : Int) ≤ (m : Int)) := by omega
        go_wp2
        go_ret
        exact ⟨rfl, s, rfl, hs2, fun h => by omega⟩
      · have q : (s : Int) ≤ (m : Int) := by omega
        obtain ⟨t, ht⟩ : ∃ t, ts[i]? = some t := ⟨ts[i]'(by rw [← HN.out]; omega), List.getElem?_eq_getElem _⟩
        have hmem := List.mem_of_getElem? ht
        obtain ⟨b, off, ea, hat⟩ := HL.out i t ht
        subst ea
        simp only [eAt, Prod.mk.injEq] at hat
        have d := (HR.out t hmem).h
        have c5 := d.c5
        have c6 := d.c6
        have hnl := d.nl
        have hnb := d.nb
        rw [hat.1, hat.2] at c5 c6
        have HK := hid (HI.out t hmem)
        have HT := hid (sumL_take (szE k) ts i t ht)
        obtain ⟨nn, hnn⟩ : ∃ nn, nn = (eH k t).nn := ⟨_, rfl⟩
        rw [← hnn] at c5 hnl hnb
        have HNL := hid hnl
        clear hat ht hmem d hnn hnl
        have nn0 : (0 : Int) ≤ (nn : Int) := by omega
        have nnI : (nn : Int) ≤ 9223372036854775807 := by omega
        rcases Nat.lt_or_ge m nn with hnm | hnm
        · have q2 : ¬ ((nn : Int) ≤ (m : Int)) := by omega
          go_wp2
          go_ret
          exact ⟨rfl, m + 1, by congr 2, by omega, fun h => by omega⟩
        · have q2 : (nn : Int) ≤ (m : Int) := by omega
          rcases Nat.lt_or_ge m (s + 1 + nn) with h3 | h3
          · have q3 : ¬ ((s : Int) + 1 + (nn : Int) ≤ (m : Int)) := by omega
            go_wp2
            go_roundg g
            case measure => omega
            case rel => exact ⟨i + 1, s + 1 + nn, by have := HG.out; omega, by go_num, by go_num, rfl, by omega, fun h => by omega⟩
          · have q3 : (s : Int) + 1 + (nn : Int) ≤ (m : Int) := by omega
            obtain ⟨z, K, hz⟩ := HK.out (m - (s + 1 + nn)) (by omega)
            have HZ := hid hz
            have eI : ((m - (s + 1 + nn) : Nat) : Int) = (m : Int) - ((s : Int) + 1 + (nn : Int)) := by omega
            rw [eI] at K
            have KK := hid K
            clear K hz eI
            go_wp2_with (go_at_call 8; (refine (Hid.out KK).mono ?_; rintro e w1 ⟨rfl, r, rfl, h1, h2⟩; have H2 := hid h2; have r0 : (0 : Int) ≤ (r : Int) := Int.natCast_nonneg r; have rI : (r : Int) ≤ 1202 := (by omega); clear h2))
            go_roundg g
            case measure => omega
            case rel => exact ⟨i + 1, s + 1 + nn + r, by have := HG.out; omega, by go_num, by go_num, rfl, by omega, fun h => by
              have h4 := H2.out (by omega)
              have h5 := HS.out (by omega)
              have h6 := HT.out
              have h7 := HZ.out
              have h8 := HNL.out
              omega⟩
theorem inE : ∀ (k : Nat) (w : World) (t : ET k), EWd k w t → InE k w t
  | 0, _, t, _ => Empty.elim t
  | k + 1, w, t, d => fun m hm => ⟨sumL (szE k) t.2, exprs_row k w _ _ _ t.2 m d.2.1 d.1.ab d.2.2.1 d.2.2.2 (fun u hu => inE k w u (d.2.2.2 u hu)) hm, rfl⟩
theorem exprs_any (k : Nat) (w : World) (a : Option Addr) (n c : Nat) (ts : List (ET k)) (m : Nat) (hn : n = ts.length) (hb : n ≤ 9223372036854775807) (hl : LiesAt 8 a (eAt k) ts) (hr : ∀ u ∈ ts, EWd k w u) (hm : m ≤ 600) :
    Calls Tryz.prog 8 #[.slice a n c, .int .i64 (m : Int)] w (CntP w m (sumL (szE k) ts)) :=
  exprs_row k w a n c ts m hn hb hl hr (fun u hu => inE k w u (hr u hu)) hm
def InS (k : Nat) (w : World) (t : ST k) : Prop := ∃ z1 z2 z3, szS k t = 1 + z1 + z2 + z3 ∧ ∀ (m : Nat), m ≤ 600 → Calls Tryz.prog 8 #[.slice (sH k t).aa (sH k t).an (sH k t).ac, .int .i64 (m : Int)] w (CntP w m z1) ∧ Calls Tryz.prog 77 #[.slice (sH k t).ba (sH k t).bn (sH k t).bc, .int .i64 (m : Int)] w (CntP w m z2) ∧ Calls Tryz.prog 77 #[.slice (sH k t).ea (sH k t).en (sH k t).ec, .int .i64 (m : Int)] w (CntP w m z3)
set_option maxRecDepth 100000 in
set_option maxHeartbeats 1000000 in
theorem stmts_row (k : Nat) (w : World) (a : Option Addr) (n c : Nat) (ts : List (ST k)) (m : Nat) (hn : n = ts.length) (hb : n ≤ 9223372036854775807) (hl : LiesAt 8 a (sAt k) ts) (hr : ∀ u ∈ ts, SWd k w u) (hi : ∀ u ∈ ts, InS k w u) (hm : m ≤ 600) :
    Calls Tryz.prog 77 #[.slice a n c, .int .i64 (m : Int)] w (CntP w m (sumL (szS k) ts)) := by
  have HL := hid hl
  have HR := hid hr
  have HI := hid hi
  have HN := hid hn
  have mI : (m : Int) ≤ 600 := by omega
  have m0 : (0 : Int) ≤ (m : Int) := by omega
  have nI : (n : Int) ≤ 9223372036854775807 := by omega
  clear hl hr hi hn hb
  go_enter Tryz.func77, Tryz.ntmps77
  go_wp2
  go_loopg [5, 6] n (fun g x y wr => ∃ i s : Nat, i + g = n ∧ y = .int .i64 (i : Int) ∧ x = .int .i64 (s : Int) ∧ wr = w ∧ s ≤ 2 * m + 2 ∧ (s ≤ m → sumL (szS k) (ts.take i) ≤ s))
  case atStart => exact ⟨0, 0, by omega, rfl, rfl, rfl, by omega, fun _ => by simp [sumL]⟩
  case round =>
    obtain ⟨i, s, hig, rfl, rfl, rfl, hs2, hsum⟩ := hrel
    have HS := hid hsum
    have HG := hid hig
    have s0 : (0 : Int) ≤ (s : Int) := by omega
    have sI : (s : Int) ≤ 1202 := by omega
    clear hsum
    cases gk with
    | zero =>
      have hin : i = n := by omega
      subst hin
      clear hig
      go_wp2
      go_ret
      exact ⟨rfl, s, rfl, hs2, fun h => by have := HS.out h; rwa [List.take_of_length_le (by rw [← HN.out]; exact Nat.le_refl _)] at this⟩
    | succ g =>
      have hil : (i : Int) < (n : Int) := by omega
      have hi0 : (0 : Int) ≤ (i : Int) := by omega
      clear hig
      rcases Nat.lt_or_ge m s with hsm | hsm
      · have q : ¬ ((s : Int) ≤ (m : Int)) := by omega
        go_wp2
        go_ret
        exact ⟨rfl, s, rfl, hs2, fun h => by omega⟩
      · have q : (s : Int) ≤ (m : Int) := by omega
        obtain ⟨t, ht⟩ : ∃ t, ts[i]? = some t := ⟨ts[i]'(by rw [← HN.out]; omega), List.getElem?_eq_getElem _⟩
        have hmem := List.mem_of_getElem? ht
        obtain ⟨b, off, ea, hat⟩ := HL.out i t ht
        subst ea
        simp only [sAt, Prod.mk.injEq] at hat
        have d := (HR.out t hmem).h
        have c4 := d.c4
        have c5 := d.c5
        have c6 := d.c6
        rw [hat.1, hat.2] at c4 c5 c6
        obtain ⟨z1, z2, z3, hz, hk⟩ := HI.out t hmem
        have HK := hid hk
        have HZ := hid hz
        have HT := hid (sumL_take (szS k) ts i t ht)
        clear hat ht hmem d hk hz
        rcases Nat.lt_or_ge m (s + 1) with h3 | h3
        · have q3 : ¬ ((s : Int) + 1 ≤ (m : Int)) := by omega
          go_wp2
          go_roundg g
          case measure => omega
          case rel => exact ⟨i + 1, s + 1, by have := HG.out; omega, by go_num, by go_num, rfl, by omega, fun h => by omega⟩
        have q3 : (s : Int) + 1 ≤ (m : Int) := by omega
        obtain ⟨K, _, _⟩ := HK.out (m - (s + 1)) (by omega)
        have eI : ((m - (s + 1) : Nat) : Int) = (m : Int) - ((s : Int) + 1) := by omega
        rw [eI] at K
        have K1 := hid K
        clear K eI
        go_upto_region 8 with (go_at_call 8; (refine (Hid.out K1).mono ?_; rintro e w1 ⟨rfl, r, rfl, h1, h2⟩; have H2 := hid h2; have r0 : (0 : Int) ≤ (r : Int) := Int.natCast_nonneg r; have rI : (r : Int) ≤ 1202 := (by omega); clear h2))
        rcases Nat.lt_or_ge m (s + 1 + r) with h4 | h4
        · have q4 : ¬ ((s : Int) + 1 + (r : Int) ≤ (m : Int)) := by omega
          go_wp2
          go_roundg g
          case measure => omega
          case rel => exact ⟨i + 1, s + 1 + r, by have := HG.out; omega, by go_num, by go_num, rfl, by omega, fun h => by omega⟩
        have q4 : (s : Int) + 1 + (r : Int) ≤ (m : Int) := by omega
        obtain ⟨_, K, _⟩ := HK.out (m - (s + 1 + r)) (by omega)
        have eI : ((m - (s + 1 + r) : Nat) : Int) = (m : Int) - ((s : Int) + 1 + (r : Int)) := by omega
        rw [eI] at K
        have K2 := hid K
        clear K eI K1
        go_upto_region 10 with (go_at_call 77; (refine (Hid.out K2).mono ?_; rintro e w2 ⟨rfl, r2, rfl, h5, h6⟩; have H6 := hid h6; have r20 : (0 : Int) ≤ (r2 : Int) := Int.natCast_nonneg r2; have r2I : (r2 : Int) ≤ 1202 := (by omega); clear h6))
        rcases Nat.lt_or_ge m (s + 1 + r + r2) with h7 | h7
        · have q5 : ¬ ((s : Int) + 1 + (r : Int) + (r2 : Int) ≤ (m : Int)) := by omega
          go_wp2
          go_roundg g
          case measure => omega
          case rel => exact ⟨i + 1, s + 1 + r + r2, by have := HG.out; omega, by go_num, by go_num, rfl, by omega, fun h => by omega⟩
        have q5 : (s : Int) + 1 + (r : Int) + (r2 : Int) ≤ (m : Int) := by omega
        obtain ⟨_, _, K⟩ := HK.out (m - (s + 1 + r + r2)) (by omega)
        have eI : ((m - (s + 1 + r + r2) : Nat) : Int) = (m : Int) - ((s : Int) + 1 + (r : Int) + (r2 : Int)) := by omega
        rw [eI] at K
        have K3 := hid K
        clear K eI K2
        go_wp2_with (go_at_call 77; (refine (Hid.out K3).mono ?_; rintro e w3 ⟨rfl, r3, rfl, h8, h9⟩; have H9 := hid h9; have r30 : (0 : Int) ≤ (r3 : Int) := Int.natCast_nonneg r3; have r3I : (r3 : Int) ≤ 1202 := (by omega); clear h9))
        go_roundg g
        case measure => omega
        case rel => exact ⟨i + 1, s + 1 + r + r2 + r3, by have := HG.out; omega, by go_num, by go_num, rfl, by omega, fun h => by
          have y1 := H2.out (by omega)
          have y2 := H6.out (by omega)
          have y3 := H9.out (by omega)
          have y5 := HS.out (by omega)
          have y6 := HT.out
          have y7 := HZ.out
          omega⟩
theorem inS : ∀ (k : Nat) (w : World) (t : ST k), SWd k w t → InS k w t
  | 0, _, t, _ => Empty.elim t
  | k + 1, w, t, ⟨d1, ⟨n1, n2, n3⟩, ⟨l1, l2, l3⟩, d4, d5, d6⟩ => ⟨sumL (szE k) t.2.1, sumL (szS k) t.2.2.1, sumL (szS k) t.2.2.2, rfl, fun m hm => ⟨exprs_any k w _ _ _ _ m n1 d1.ab l1 d4 hm, stmts_row k w _ _ _ _ m n2 d1.bb l2 d5 (fun u hu => inS k w u (d5 u hu)) hm, stmts_row k w _ _ _ _ m n3 d1.eb l3 d6 (fun u hu => inS k w u (d6 u hu)) hm⟩⟩
theorem stmts_cnt (k : Nat) (w : World) (a : Option Addr) (n c : Nat) (ts : List (ST k)) (m : Nat) (hn : n = ts.length) (hb : n ≤ 9223372036854775807) (hl : LiesAt 8 a (sAt k) ts) (hr : ∀ u ∈ ts, SWd k w u) (hm : m ≤ 600) :
    Calls Tryz.prog 77 #[.slice a n c, .int .i64 (m : Int)] w (CntP w m (sumL (szS k) ts)) :=
  stmts_row k w a n c ts m hn hb hl hr (fun u hu => inS k w u (hr u hu)) hm
set_option maxRecDepth 100000 in
set_option maxHeartbeats 1000000 in
theorem decls_row (k : Nat) (w : World) (a : Option Addr) (n c : Nat) (ts : List (DT k)) (m : Nat) (hn : n = ts.length) (hb : n ≤ 9223372036854775807) (hl : LiesAt 7 a dAt ts) (hr : ∀ u ∈ ts, DWd k w u) (hm : m ≤ 600) :
    Calls Tryz.prog 46 #[.slice a n c, .int .i64 (m : Int)] w (CntP w m (sumL (szD) ts)) := by
  have HL := hid hl
  have HR := hid hr
  have HN := hid hn
  have mI : (m : Int) ≤ 600 := by omega
  have m0 : (0 : Int) ≤ (m : Int) := by omega
  have nI : (n : Int) ≤ 9223372036854775807 := by omega
  clear hl hr hn hb
  go_enter Tryz.func46, Tryz.ntmps46
  go_wp2
  go_loopg [5, 6] n (fun g x y wr => ∃ i s : Nat, i + g = n ∧ y = .int .i64 (i : Int) ∧ x = .int .i64 (s : Int) ∧ wr = w ∧ s ≤ 2 * m + 2 ∧ (s ≤ m → sumL (szD) (ts.take i) ≤ s))
  case atStart => exact ⟨0, 0, by omega, rfl, rfl, rfl, by omega, fun _ => by simp [sumL]⟩
  case round =>
    obtain ⟨i, s, hig, rfl, rfl, rfl, hs2, hsum⟩ := hrel
    have HS := hid hsum
    have HG := hid hig
    have s0 : (0 : Int) ≤ (s : Int) := by omega
    have sI : (s : Int) ≤ 1202 := by omega
    clear hsum
    cases gk with
    | zero =>
      have hin : i = n := by omega
      subst hin
      clear hig
      go_wp2
      go_ret
      exact ⟨rfl, s, rfl, hs2, fun h => by have := HS.out h; rwa [List.take_of_length_le (by rw [← HN.out]; exact Nat.le_refl _)] at this⟩
    | succ g =>
      have hil : (i : Int) < (n : Int) := by omega
      have hi0 : (0 : Int) ≤ (i : Int) := by omega
      clear hig
      rcases Nat.lt_or_ge m s with hsm | hsm
      · have q : ¬ ((s : Int) ≤ (m : Int)) := by omega
        go_wp2
        go_ret
        exact ⟨rfl, s, rfl, hs2, fun h => by omega⟩
      · have q : (s : Int) ≤ (m : Int) := by omega
        obtain ⟨t, ht⟩ : ∃ t, ts[i]? = some t := ⟨ts[i]'(by rw [← HN.out]; omega), List.getElem?_eq_getElem _⟩
        have hmem := List.mem_of_getElem? ht
        obtain ⟨b, off, ea, hat⟩ := HL.out i t ht
        subst ea
        simp only [dAt, Prod.mk.injEq] at hat
        have d := (HR.out t hmem).h
        have c1 := d.c1
        have c5 := d.c5
        have hnl := d.pl
        have hnb := d.pb
        rw [hat.1, hat.2] at c1 c5
        have de := HR.out t hmem
        have HK := hid (fun (m : Nat) (hm : m ≤ 600) => stmts_cnt k _ t.1.ba t.1.bn t.1.bc t.2 m de.n d.bb de.l de.e hm)
        have HZ : Hid (szD t = 1 + t.1.params.length + sumL (szS k) t.2) := hid rfl
        have HT := hid (sumL_take (szD) ts i t ht)
        obtain ⟨nn, hnn⟩ : ∃ nn, nn = t.1.pn := ⟨_, rfl⟩
        rw [← hnn] at c1 hnl hnb
        have HNL := hid hnl
        clear hat ht hmem d de hnn hnl
        have nn0 : (0 : Int) ≤ (nn : Int) := by omega
        have nnI : (nn : Int) ≤ 9223372036854775807 := by omega
        rcases Nat.lt_or_ge m nn with hnm | hnm
        · have q2 : ¬ ((nn : Int) ≤ (m : Int)) := by omega
          go_wp2
          go_ret
          exact ⟨rfl, m + 1, by congr 2, by omega, fun h => by omega⟩
        · have q2 : (nn : Int) ≤ (m : Int) := by omega
          rcases Nat.lt_or_ge m (s + 1 + nn) with h3 | h3
          · have q3 : ¬ ((s : Int) + 1 + (nn : Int) ≤ (m : Int)) := by omega
            go_wp2
            go_roundg g
            case measure => omega
            case rel => exact ⟨i + 1, s + 1 + nn, by have := HG.out; omega, by go_num, by go_num, rfl, by omega, fun h => by omega⟩
          · have q3 : (s : Int) + 1 + (nn : Int) ≤ (m : Int) := by omega
            have K := HK.out (m - (s + 1 + nn)) (by omega)
            have eI : ((m - (s + 1 + nn) : Nat) : Int) = (m : Int) - ((s : Int) + 1 + (nn : Int)) := by omega
            rw [eI] at K
            have KK := hid K
            clear K eI
            go_wp2_with (go_at_call 77; (refine (Hid.out KK).mono ?_; rintro e w1 ⟨rfl, r, rfl, h1, h2⟩; have H2 := hid h2; have r0 : (0 : Int) ≤ (r : Int) := Int.natCast_nonneg r; have rI : (r : Int) ≤ 1202 := (by omega); clear h2))
            go_roundg g
            case measure => omega
            case rel => exact ⟨i + 1, s + 1 + nn + r, by have := HG.out; omega, by go_num, by go_num, rfl, by omega, fun h => by
              have h4 := H2.out (by omega)
              have h5 := HS.out (by omega)
              have h6 := HT.out
              have h7 := HZ.out
              have h8 := HNL.out
              omega⟩
theorem six (r : Nat) : (¬ ((r : Int) ≤ 600) ∧ 600 < r) ∨ (((r : Int) ≤ 600) ∧ r ≤ 600) := by omega
/- Whether a tree has few. -/
def FewP (w : World) (P : Prop) (e : Ending) (w' : World) : Prop := ∃ b : Bool, e = .returned (.bool b) ∧ (b = true → P) ∧ Below w.heap.size w w'
set_option maxRecDepth 100000 in
set_option maxHeartbeats 1000000 in
theorem helpTree_any (k : Nat) (w : World) (t : TT k) (d : TWs k w t) : Calls Tryz.prog 24 #[.agg #[.slice t.h.ra t.h.rn t.h.rc, .slice t.h.ma t.h.mn t.h.mc, .slice t.h.fa t.h.fn t.h.fc, .slice t.h.ea t.h.en t.h.ec], .int .i64 600] w (FewP w (SzT t)) := by
  obtain ⟨W, hW⟩ : ∃ W, W = w.alloc (.cells #[.slice t.h.ra t.h.rn t.h.rc, .slice t.h.ma t.h.mn t.h.mc, .slice t.h.fa t.h.fn t.h.fc, .slice t.h.ea t.h.en t.h.ec] 24) := ⟨_, rfl⟩
  have hbw : Below w.heap.size w W := by rw [hW]; exact (Below.refl _ w).alloc (Nat.le_refl _) _
  have hb : W.heap[w.heap.size]? = some (.cells #[.slice t.h.ra t.h.rn t.h.rc, .slice t.h.ma t.h.mn t.h.mc, .slice t.h.fa t.h.fn t.h.fc, .slice t.h.ea t.h.en t.h.ec] 24 (0, 0)) := by rw [hW]; exact heap_alloc_new _ _
  have dW := d.below (Nat.le_refl _) hbw
  have c0 := cellT hb 0
  have c1 := cellT hb 1
  have c2 := cellT hb 2
  have c3 := cellT hb 3
  simp only [List.getElem?_toArray, List.getElem?_cons_zero, List.getElem?_cons_succ] at c0 c1 c2 c3
  have K1 := hid (decls_row k W t.h.ra t.h.rn t.h.rc t.rs 600 dW.rs.n dW.rs.b dW.rs.l dW.rs.e (Nat.le_refl _))
  have K2 := hid (decls_row k W t.h.ma t.h.mn t.h.mc t.ms 600 dW.ms.n dW.ms.b dW.ms.l dW.ms.e (Nat.le_refl _))
  have K3 := hid (decls_row k W t.h.fa t.h.fn t.h.fc t.fs 600 dW.fs.n dW.fs.b dW.fs.l dW.fs.e (Nat.le_refl _))
  have K4 := hid (decls_row k W t.h.ea t.h.en t.h.ec t.es 600 dW.es.n dW.es.b dW.es.l dW.es.e (Nat.le_refl _))
  rw [show ((600 : Nat) : Int) = 600 from rfl] at K1 K2 K3 K4
  have HB := hid hbw
  obtain ⟨P, hP⟩ : ∃ P, P = SzT t := ⟨_, rfl⟩
  have HP : Hid (P = (sumL szD t.rs ≤ 600 ∧ sumL szD t.ms ≤ 600 ∧ sumL szD t.fs ≤ 600 ∧ sumL szD t.es ≤ 600)) := hid hP
  rw [← hP]
  generalize sumL szD t.rs = z1 at *
  generalize sumL szD t.ms = z2 at *
  generalize sumL szD t.fs = z3 at *
  generalize sumL szD t.es = z4 at *
  clear d dW hb hbw hP
  go_enter Tryz.func24, Tryz.ntmps24
  go_upto_region 1 with fail
  rw [← hW]
  clear hW
  go_wp2_with (first
    | (have hno := HD; go_at_call 46; refine (Hid.out K4).mono ?_; rintro e v4 ⟨rfl, r4, rfl, _, h4⟩; have r40 : (0 : Int) ≤ (r4 : Int) := Int.natCast_nonneg r4; rcases six r4 with ⟨p4, q4⟩ | ⟨p4, q4⟩ <;> have HE := hid h4 <;> clear h4)
    | (have hno := HC; go_at_call 46; refine (Hid.out K3).mono ?_; rintro e v3 ⟨rfl, r3, rfl, _, h3⟩; have r30 : (0 : Int) ≤ (r3 : Int) := Int.natCast_nonneg r3; rcases six r3 with ⟨p3, q3⟩ | ⟨p3, q3⟩ <;> have HD := hid h3 <;> clear h3)
    | (have hno := HA; go_at_call 46; refine (Hid.out K2).mono ?_; rintro e v2 ⟨rfl, r2, rfl, _, h2⟩; have r20 : (0 : Int) ≤ (r2 : Int) := Int.natCast_nonneg r2; rcases six r2 with ⟨p2, q2⟩ | ⟨p2, q2⟩ <;> have HC := hid h2 <;> clear h2)
    | (go_at_call 46; refine (Hid.out K1).mono ?_; rintro e v1 ⟨rfl, r1, rfl, _, h1⟩; have r10 : (0 : Int) ≤ (r1 : Int) := Int.natCast_nonneg r1; rcases six r1 with ⟨p1, q1⟩ | ⟨p1, q1⟩ <;> have HA := hid h1 <;> clear h1))
  all_goals go_ret
  all_goals first
    | (refine ⟨_, rfl, fun _ => ?_, HB.out⟩; rw [HP.out]; exact ⟨Nat.le_trans (HA.out q1) q1, Nat.le_trans (HC.out q2) q2, Nat.le_trans (HD.out q3) q3, Nat.le_trans (HE.out q4) q4⟩)
    | exact ⟨_, rfl, fun h => (by have h2 := of_decide_eq_true h; omega), HB.out⟩
    | exact ⟨_, rfl, fun h => (by cases h), HB.out⟩
end Go.Proofs.YtdfambocenohgaaGreatDoor

namespace Go.Proofs.YtdfambocenohgaaGreatDoor
open Go.ChangeShapes Go.WideShapes Go.ChangeAt Go.RowKit Go.Deep
set_option linter.unusedVariables false
set_option linter.unusedSimpArgs false
theorem cz3 : Tryz.prog.cellsOf 3 = 1 := by kernel_rfl
theorem cz2 : Tryz.prog.cellsOf 2 = 1 := by kernel_rfl
theorem cz9 : Tryz.prog.cellsOf 9 = 1 := by kernel_rfl
theorem cz22 : Tryz.prog.cellsOf 22 = 1 := by kernel_rfl
theorem cz25 : Tryz.prog.cellsOf 25 = 1 := by kernel_rfl
theorem cz26 : Tryz.prog.cellsOf 26 = 1 := by kernel_rfl
theorem cz47 : Tryz.prog.cellsOf 47 = 1 := by kernel_rfl
theorem cz50 : Tryz.prog.cellsOf 50 = 1 := by kernel_rfl
theorem cz24 : Tryz.prog.cellsOf 24 = 4 := by kernel_rfl
theorem cz28 : Tryz.prog.cellsOf 28 = 8 := by kernel_rfl
theorem cz49 : Tryz.prog.cellsOf 49 = 8 := by kernel_rfl
theorem cz52 : Tryz.prog.cellsOf 52 = 7 := by kernel_rfl
theorem cz88 : Tryz.prog.cellsOf 88 = 2 := by kernel_rfl
theorem reach_is : reachBytes = 140737488351232 := rfl
/- Trees lifted by one level. -/
def lfE : (k : Nat) → ET k → ET (k + 1)
  | 0, t => Empty.elim t
  | k + 1, t => (t.1, t.2.map (lfE k))
theorem lfE_h : ∀ (k : Nat) (t : ET k), eH (k + 1) (lfE k t) = eH k t
  | 0, t => Empty.elim t
  | _ + 1, _ => rfl
theorem lfE_at (k : Nat) (t : ET k) : eAt (k + 1) (lfE k t) = eAt k t := by unfold eAt; rw [lfE_h]
theorem lies_map {α β : Type} {z : Nat} {a : Option Addr} {p : α → Nat × Nat} {q : β → Nat × Nat} {f : α → β} {l : List α} (h : LiesAt z a p l) (hf : ∀ x, q (f x) = p x) : LiesAt z a q (l.map f) := fun j t e => by
  rw [List.getElem?_map] at e
  obtain ⟨x, hx, rfl⟩ := Option.map_eq_some_iff.1 e
  obtain ⟨b, off, ea, e2⟩ := h j x hx
  exact ⟨b, off, ea, by rw [hf, e2]⟩
theorem lfE_wd : ∀ (k : Nat) {w : World} {t : ET k}, EWd k w t → EWd (k + 1) w (lfE k t)
  | 0, _, _, d => d.elim
  | k + 1, w, t, d => ⟨d.1, by show t.1.an = (t.2.map (lfE k)).length; rw [List.length_map]; exact d.2.1, lies_map d.2.2.1 (lfE_at k), fun u hu => by
    obtain ⟨x, hx, rfl⟩ := List.mem_map.1 hu
    exact lfE_wd k (d.2.2.2 x hx)⟩
theorem lfE_sm : ∀ (k : Nat) {t : ET k}, SmE k t → SmE (k + 1) (lfE k t)
  | 0, _, d => d.elim
  | k + 1, t, d => ⟨d.1, fun u hu => by
    obtain ⟨x, hx, rfl⟩ := List.mem_map.1 hu
    exact lfE_sm k (d.2 x hx)⟩
def lfS : (k : Nat) → ST k → ST (k + 1)
  | 0, t => Empty.elim t
  | k + 1, t => (t.1, t.2.1.map (lfE k), t.2.2.1.map (lfS k), t.2.2.2.map (lfS k))
theorem lfS_h : ∀ (k : Nat) (t : ST k), sH (k + 1) (lfS k t) = sH k t
  | 0, t => Empty.elim t
  | _ + 1, _ => rfl
theorem lfS_at (k : Nat) (t : ST k) : sAt (k + 1) (lfS k t) = sAt k t := by unfold sAt; rw [lfS_h]
theorem lfS_wd : ∀ (k : Nat) {w : World} {t : ST k}, SWd k w t → SWd (k + 1) w (lfS k t)
  | 0, _, _, d => d.elim
  | k + 1, w, t, ⟨d1, ⟨n1, n2, n3⟩, ⟨l1, l2, l3⟩, d4, d5, d6⟩ => ⟨d1, ⟨by show t.1.an = (t.2.1.map (lfE k)).length; rw [List.length_map]; exact n1, by show t.1.bn = (t.2.2.1.map (lfS k)).length; rw [List.length_map]; exact n2, by show t.1.en = (t.2.2.2.map (lfS k)).length; rw [List.length_map]; exact n3⟩, ⟨lies_map l1 (lfE_at k), lies_map l2 (lfS_at k), lies_map l3 (lfS_at k)⟩, fun u hu => by
    obtain ⟨x, hx, rfl⟩ := List.mem_map.1 hu
    exact lfE_wd k (d4 x hx), fun u hu => by
    obtain ⟨x, hx, rfl⟩ := List.mem_map.1 hu
    exact lfS_wd k (d5 x hx), fun u hu => by
    obtain ⟨x, hx, rfl⟩ := List.mem_map.1 hu
    exact lfS_wd k (d6 x hx)⟩
theorem lfS_sm : ∀ (k : Nat) {t : ST k}, SmS k t → SmS (k + 1) (lfS k t)
  | 0, _, d => d.elim
  | k + 1, t, ⟨d1, d2, d3, d4⟩ => ⟨d1, fun u hu => by
    obtain ⟨x, hx, rfl⟩ := List.mem_map.1 hu
    exact lfE_sm k (d2 x hx), fun u hu => by
    obtain ⟨x, hx, rfl⟩ := List.mem_map.1 hu
    exact lfS_sm k (d3 x hx), fun u hu => by
    obtain ⟨x, hx, rfl⟩ := List.mem_map.1 hu
    exact lfS_sm k (d4 x hx)⟩
theorem list_ofI {α β : Type} : ∀ (l : List α) (R : Nat → α → β → Prop), (∀ j a, l[j]? = some a → ∃ b, R j a b) → ∃ m : List β, m.length = l.length ∧ ∀ (j : Nat) (b : β), m[j]? = some b → ∃ a, l[j]? = some a ∧ R j a b
  | [], _, _ => ⟨[], rfl, fun j b e => by simp at e⟩
  | a :: l, R, h => by
    obtain ⟨b, hb⟩ := h 0 a rfl
    obtain ⟨m, hm, hr⟩ := list_ofI l (fun j => R (j + 1)) (fun j x e => h (j + 1) x (by simpa using e))
    refine ⟨b :: m, by simp [hm], fun j y e => ?_⟩
    cases j with
    | zero => simp at e; subst e; exact ⟨a, rfl, hb⟩
    | succ j =>
      obtain ⟨x, h1, h2⟩ := hr j y (by simpa using e)
      exact ⟨x, by simpa using h1, h2⟩
section
variable {H : Type} {enc : TypeId × Value → H} {W : World}
def Smw (T : TypeId) (d : DataW H) : Prop := ∀ n ∈ d.weights Tryz.prog T, n ≤ reachBytes
def TF (enc : TypeId × Value → H) (W : World) (fuel : Nat) (T : TypeId) (cs : List Value) : Prop := ∃ x, DataW.trod enc Tryz.prog W 0 (fun _ => true) true fuel T cs = some x ∧ Smw T x.1
theorem tf_zero {T : TypeId} {cs : List Value} (h : TF enc W 0 T cs) : False := by
  obtain ⟨x, h1, _⟩ := h
  simp [DataW.trod] at h1
theorem mem_all {e : TypeId} : ∀ {l : List (DataW H)} {d : DataW H}, d ∈ l → ∀ n ∈ d.weights Tryz.prog e, n ∈ DataW.weightsAll Tryz.prog e l
  | x :: r, d, h, n, hn => by
    simp only [DataW.weightsAll, List.mem_append]
    rcases List.mem_cons.1 h with rfl | h
    · exact .inl hn
    · exact .inr (mem_all h n hn)
theorem mem_each : ∀ {ts : List TypeId} {l : List (DataW H)} {i : Nat} {t : TypeId} {d : DataW H}, ts[i]? = some t → l[i]? = some d → ∀ n ∈ d.weights Tryz.prog t, n ∈ DataW.weightsEach Tryz.prog ts l
  | [], _, _, _, _, e, _, _, _ => by simp at e
  | _ :: _, [], _, _, _, _, e, _, _ => by simp at e
  | t :: ts, x :: l, 0, _, _, e1, e2, n, hn => by
    simp at e1 e2; subst e1; subst e2
    simp only [DataW.weightsEach, List.mem_append]
    exact .inl hn
  | t :: ts, x :: l, i + 1, _, _, e1, e2, n, hn => by
    simp only [DataW.weightsEach, List.mem_append]
    exact .inr (mem_each (by simpa using e1) (by simpa using e2) n hn)
theorem structF {T : TypeId} {fs : Array Field} {fuel : Nat} {cs : List Value} (hT : Tryz.prog.underlying T = some (.struct fs)) (h : TF enc W fuel T cs) :
    ∃ n, fuel = n + 1 ∧ cs.length = Tryz.prog.cellsOf T ∧ ∀ (i : Nat) (f : Field), fs[i]? = some f → TF enc W n f.type ((cs.drop f.offset).take (Tryz.prog.cellsOf f.type)) := by
  obtain ⟨x, hx, hs⟩ := h
  obtain ⟨xs, n, rfl, rfl, hl, hlen, hf⟩ := DataW.trod_struct hT hx
  refine ⟨n, rfl, hl, fun i f e => ?_⟩
  have h1 := hf i f e
  have hi := (Array.getElem?_eq_some_iff.1 e).1
  have e2 : xs[i]? = some (xs[i]'(by omega)) := List.getElem?_eq_getElem _
  rw [e2] at h1
  refine ⟨_, h1, fun m hm => hs m ?_⟩
  simp only [DataW.weights, hT]
  refine mem_each (i := i) (t := f.type) (d := (xs[i]'(by omega)).1) ?_ (by rw [List.getElem?_map, e2]; rfl) m hm
  rw [List.getElem?_map, Array.getElem?_toList, e]; rfl
/- The rows of a slice. -/
def CRd (w : World) (a : Option Addr) (k : Nat) (rows : List (List Value)) : Prop := ∀ (j : Nat) (r : List Value), rows[j]? = some r → ∃ b off, a = some ⟨b, off, none⟩ ∧ ∀ i, i < k → w.cell? ⟨b, off + j * k + i, none⟩ = r[i]?
set_option maxRecDepth 100000 in
theorem rowsF {T E : TypeId} {k m : Nat} (hT : Tryz.prog.underlying T = some (.slice E)) (hk : Tryz.prog.cellsOf E = k) (k0 : 0 < k) {a0 : Option Addr} {len cap : Nat} (h : TF enc W (m + 1) T [.slice a0 len cap]) :
    ∃ rows : List (List Value), rows.length = len ∧ CRd W a0 k rows ∧ (∀ r ∈ rows, r.length = k ∧ TF enc W m E r) ∧ len ≤ 9223372036854775807 := by
  obtain ⟨x, hx, hsm⟩ := h
  rcases DataW.trod_slice hT hx with ⟨hcs, _⟩ | ⟨a, l, c, elems, rest, n, hn, hcs, rfl, _, hlc, hmx, hlen, hel, _, _⟩
  · simp at hcs
    obtain ⟨rfl, rfl, rfl⟩ := hcs
    exact ⟨[], rfl, fun j x hx => by simp at hx, fun h hh => by simp at hh, by omega⟩
  · simp at hcs
    obtain ⟨rfl, rfl, rfl⟩ := hcs
    obtain rfl : m = n := by omega
    have hs : ∀ j, j < len → ∃ r : List Value, (∃ b off, some a = some ⟨b, off, none⟩ ∧ ∀ i, i < k → W.cell? ⟨b, off + j * k + i, none⟩ = r[i]?) ∧ r.length = k ∧ TF enc W m E r := by
      intro j hj
      have hg := hel j hj
      have e2 : elems[j]? = some (elems[j]'(by omega)) := List.getElem?_eq_getElem _
      rw [e2] at hg
      obtain ⟨cs, h1, h2⟩ := Option.bind_eq_some_iff.1 hg
      rw [hk] at h1
      obtain ⟨_, h3, h4⟩ := World.cells?_some h1
      obtain ⟨b, off, spot⟩ := a
      have hspot : spot = none := by
        have hg0 := hel 0 (by omega)
        have e0 : elems[0]? = some (elems[0]'(by omega)) := List.getElem?_eq_getElem _
        rw [e0] at hg0
        obtain ⟨cs', h1', h2'⟩ := Option.bind_eq_some_iff.1 hg0
        rw [hk] at h1'
        obtain ⟨_, h3', h4'⟩ := World.cells?_some h1'
        have := World.cell?_spot ((h4' 0 k0).trans (show cs'[0]? = some (cs'[0]'(by omega)) by rw [List.getElem?_eq_getElem]))
        simpa [Addr.add] using this
      subst hspot
      refine ⟨cs, ⟨b, off, rfl, fun i hi => ?_⟩, h3, _, h2, fun n hn => hsm n ?_⟩
      · have := h4 i hi
        simp only [Addr.add_lit] at this
        exact this
      · simp only [DataW.weights, hT, List.mem_cons, List.mem_append]
        exact .inr (.inl (mem_all (List.mem_map.2 ⟨_, List.getElem_mem _, rfl⟩) n hn))
    obtain ⟨rows, hrl, hrr⟩ := list_ofI (List.range len) (fun j _ (r : List Value) => j < len ∧ (∃ b off, some a = some ⟨b, off, none⟩ ∧ ∀ i, i < k → W.cell? ⟨b, off + j * k + i, none⟩ = r[i]?) ∧ r.length = k ∧ TF enc W m E r) (fun j a' e => by
      have hj := (List.getElem?_eq_some_iff.1 e).1
      rw [List.length_range] at hj
      obtain ⟨r, hr⟩ := hs j hj
      exact ⟨r, hj, hr⟩)
    rw [List.length_range] at hrl
    refine ⟨rows, hrl, fun j r e => ?_, fun r hr => ?_, by unfold maxLen at hmx; omega⟩
    · obtain ⟨_, _, _, h1, _⟩ := hrr j r e
      exact h1
    · obtain ⟨j, hj⟩ := List.getElem?_of_mem hr
      obtain ⟨_, _, _, _, h2, h3⟩ := hrr j r hj
      exact ⟨h2, h3⟩
theorem strF {fuel : Nat} {c : Value} (h : TF enc W fuel 9 [c]) : ∃ s, c = .string s ∧ smT s := by
  obtain ⟨x, hf, hs⟩ := h
  obtain ⟨s, e, hx, w⟩ := DataW.trod_string Tryz.underlying9 hf
  simp at e
  refine ⟨s, e, ?_⟩
  have hx' := hx
  subst hx'
  have := hs s.size (by simp only [DataW.weights, List.mem_singleton, Array.length_toList]; rfl)
  rw [reach_is] at this
  exact this
theorem intF {fuel : Nat} {c : Value} (h : TF enc W fuel 3 [c]) : ∃ n, c = .int .i64 n := by
  obtain ⟨x, hf, _⟩ := h
  obtain ⟨n, e, _, w⟩ := DataW.trod_int Tryz.underlying3 hf
  simp at e
  exact ⟨n, e⟩
theorem int2F {fuel : Nat} {c : Value} (h : TF enc W fuel 2 [c]) : ∃ n, c = .int .i64 n ∧ -9223372036854775808 ≤ n ∧ n ≤ 9223372036854775807 := by
  obtain ⟨x, hf, _⟩ := h
  obtain ⟨n, e, _, w⟩ := DataW.trod_int Tryz.underlying2 hf
  simp at e
  exact ⟨n, e, by simpa [Lit.wf, IntKind.min, IntKind.max, IntKind.signed, IntKind.bits] using w⟩
theorem slcF {T E : TypeId} {fuel : Nat} (hT : Tryz.prog.underlying T = some (.slice E)) {c : Value} (h : TF enc W fuel T [c]) : ∃ a n cap, c = .slice a n cap := by
  obtain ⟨x, hf, _⟩ := h
  rcases DataW.trod_slice hT hf with ⟨hcs, _⟩ | ⟨a, l, c', elems, rest, n, hn, hcs, _⟩
  · simp at hcs; exact ⟨_, _, _, hcs⟩
  · simp at hcs; exact ⟨_, _, _, hcs⟩
theorem namesF {m : Nat} {a : Option Addr} {n cap : Nat} (h : TF enc W (m + 1) 25 [.slice a n cap]) : ∃ ss : List ByteArray, n = ss.length ∧ n ≤ 9223372036854775807 ∧ SLs W a ss ∧ ∀ s ∈ ss, smT s := by
  obtain ⟨rows, hl, hrd, hel, hn⟩ := rowsF Tryz.underlying25 cz9 (by omega) h
  obtain ⟨ss, hm, hr⟩ := list_ofI rows (fun _ r (s : ByteArray) => r = [.string s] ∧ smT s) (fun j r hj => by
    obtain ⟨h1, h2⟩ := hel r (List.mem_of_getElem? hj)
    match r, h1 with
    | [c], _ =>
      obtain ⟨s, rfl, hs⟩ := strF h2
      exact ⟨s, rfl, hs⟩)
  refine ⟨ss, by omega, hn, fun j s e => ?_, fun s hs => ?_⟩
  · obtain ⟨r, hrr, rfl, _⟩ := hr j s e
    obtain ⟨b, off, rfl, hcell⟩ := hrd j _ hrr
    have := hcell 0 (by omega)
    simp only [Nat.mul_one, Nat.add_zero, List.getElem?_cons_zero] at this
    exact ⟨b, off, rfl, this⟩
  · obtain ⟨j, hj⟩ := List.getElem?_of_mem hs
    obtain ⟨_, _, _, h⟩ := hr j s hj
    exact h
set_option maxRecDepth 100000 in
theorem paramsF {m : Nat} {a : Option Addr} {n cap : Nat} (h : TF enc W (m + 1) 50 [.slice a n cap]) : ∃ ss : List (ByteArray × ByteArray), n = ss.length ∧ n ≤ 9223372036854775807 ∧ PLs W a ss ∧ ∀ s ∈ ss, smT s.1 ∧ smT s.2 := by
  obtain ⟨rows, hl, hrd, hel, hn⟩ := rowsF Tryz.underlying50 cz88 (by omega) h
  obtain ⟨ss, hm, hr⟩ := list_ofI rows (fun _ r (s : ByteArray × ByteArray) => r = [.string s.1, .string s.2] ∧ smT s.1 ∧ smT s.2) (fun j r hj => by
    obtain ⟨h1, h2⟩ := hel r (List.mem_of_getElem? hj)
    match r, h1 with
    | [c, d], _ =>
      obtain ⟨n, rfl, _, hf⟩ := structF Tryz.underlying88 h2
      have h0 := hf 0 _ rfl
      have h1 := hf 1 _ rfl
      simp [cz9] at h0 h1
      obtain ⟨s, rfl, hs⟩ := strF h0
      obtain ⟨s', rfl, hs'⟩ := strF h1
      exact ⟨(s, s'), rfl, hs, hs'⟩)
  refine ⟨ss, by omega, hn, fun j s e => ?_, fun s hs => ?_⟩
  · obtain ⟨r, hrr, rfl, _⟩ := hr j s e
    obtain ⟨b, off, rfl, hcell⟩ := hrd j _ hrr
    have h0 := hcell 0 (by omega)
    have h1 := hcell 1 (by omega)
    simp only [Nat.add_zero, List.getElem?_cons_zero, List.getElem?_cons_succ] at h0 h1
    exact ⟨b, off, rfl, h0, h1⟩
  · obtain ⟨j, hj⟩ := List.getElem?_of_mem hs
    obtain ⟨_, _, _, h⟩ := hr j s hj
    exact h
theorem smT_big {s : ByteArray} (h : smT s) : s.size ≤ 9223372036854775807 := by unfold smT at h; omega
set_option maxRecDepth 100000 in
theorem exprF : ∀ (f : Nat) (cs : List Value), cs.length = 8 → TF enc W f 28 cs → ∀ (b o : Nat), (∀ i, i < 8 → W.cell? ⟨b, o + i, none⟩ = cs[i]?) → ∃ t : ET f, eAt f t = (b, o) ∧ EWd f W t ∧ SmE f t
  | 0, _, _, h, _, _, _ => (tf_zero h).elim
  | 1, cs, hl, h, _, _, _ => by
    obtain ⟨n, hn, _, hf⟩ := structF Tryz.underlying28 h
    obtain rfl : n = 0 := by omega
    exact (tf_zero (hf 0 _ rfl)).elim
  | m + 2, cs, hl, h, b, o, hc => by
    obtain ⟨n, hn, _, hf⟩ := structF Tryz.underlying28 h
    obtain rfl : n = m + 1 := by omega
    match cs, hl with
    | [c0, c1, c2, c3, c4, c5, c6, c7], _ =>
      have h0 := hf 0 _ rfl
      have h1 := hf 1 _ rfl
      have h2 := hf 2 _ rfl
      have h3 := hf 3 _ rfl
      have h4 := hf 4 _ rfl
      have h5 := hf 5 _ rfl
      have h6 := hf 6 _ rfl
      have h7 := hf 7 _ rfl
      simp [cz3, cz2, cz9, cz25, cz26] at h0 h1 h2 h3 h4 h5 h6 h7
      obtain ⟨v0, rfl⟩ := intF h0
      obtain ⟨v1, rfl⟩ := intF h1
      obtain ⟨v2, rfl, i0, i1⟩ := int2F h2
      obtain ⟨v3, rfl, s3⟩ := strF h3
      obtain ⟨v4, rfl, s4⟩ := strF h4
      obtain ⟨na, nn, nc, rfl⟩ := slcF Tryz.underlying25 h5
      obtain ⟨aa, an, ac, rfl⟩ := slcF Tryz.underlying26 h6
      obtain ⟨v7, rfl⟩ := intF h7
      obtain ⟨names, nl, nb, nr, ns⟩ := namesF h5
      obtain ⟨rows, hrl, hrd, hel, hrn⟩ := rowsF Tryz.underlying26 cz28 (by omega) h6
      obtain ⟨ts, hm, hr⟩ := list_ofI rows (fun j r (t : ET m) => (∃ b off, aa = some ⟨b, off, none⟩ ∧ eAt m t = (b, off + j * 8)) ∧ EWd m W t ∧ SmE m t) (fun j r hj => by
        obtain ⟨e1, e2⟩ := hel r (List.mem_of_getElem? hj)
        obtain ⟨b', off', rfl, hcell⟩ := hrd j r hj
        obtain ⟨t, t1, t2, t3⟩ := exprF m r e1 e2 b' (off' + j * 8) hcell
        exact ⟨t, ⟨b', off', rfl, t1⟩, t2, t3⟩)
      have hmem : ∀ u ∈ ts, EWd m W u ∧ SmE m u := fun u hu => by
        obtain ⟨j, hj⟩ := List.getElem?_of_mem hu
        obtain ⟨_, _, _, h⟩ := hr j u hj
        exact h
      refine ⟨((⟨b, o, v0, v1, v2, v3, v4, na, nn, nc, aa, an, ac, v7, names⟩ : EH), ts.map (lfE m)), rfl, ⟨⟨hc 0 (by omega), hc 1 (by omega), hc 2 (by omega), hc 3 (by omega), hc 4 (by omega), hc 5 (by omega), hc 6 (by omega), hc 7 (by omega), i0, i1, smT_big s3, smT_big s4, nl, nb, fun s hs => smT_big (ns s hs), nr, by show an ≤ _; omega⟩, by show an = (ts.map (lfE m)).length; rw [List.length_map]; omega, ?_, fun u hu => ?_⟩, ⟨⟨s3, s4, ns⟩, fun u hu => ?_⟩⟩
      · exact lies_map (p := eAt m) (fun j t e => by obtain ⟨_, _, h, _⟩ := hr j t e; exact h) (lfE_at m)
      · obtain ⟨x, hx, rfl⟩ := List.mem_map.1 hu
        exact lfE_wd m (hmem x hx).1
      · obtain ⟨x, hx, rfl⟩ := List.mem_map.1 hu
        exact lfE_sm m (hmem x hx).2
set_option maxRecDepth 100000 in
theorem erowF {m : Nat} {a : Option Addr} {n cap : Nat} (h : TF enc W (m + 1) 26 [.slice a n cap]) : ∃ ts : List (ET m), n = ts.length ∧ n ≤ 9223372036854775807 ∧ LiesAt 8 a (eAt m) ts ∧ (∀ u ∈ ts, EWd m W u) ∧ ∀ u ∈ ts, SmE m u := by
  obtain ⟨rows, hrl, hrd, hel, hrn⟩ := rowsF Tryz.underlying26 cz28 (by omega) h
  obtain ⟨ts, hm, hr⟩ := list_ofI rows (fun j r (t : ET m) => (∃ b off, a = some ⟨b, off, none⟩ ∧ eAt m t = (b, off + j * 8)) ∧ EWd m W t ∧ SmE m t) (fun j r hj => by
    obtain ⟨e1, e2⟩ := hel r (List.mem_of_getElem? hj)
    obtain ⟨b', off', rfl, hcell⟩ := hrd j r hj
    obtain ⟨t, t1, t2, t3⟩ := exprF m r e1 e2 b' (off' + j * 8) hcell
    exact ⟨t, ⟨b', off', rfl, t1⟩, t2, t3⟩)
  have hmem : ∀ u ∈ ts, EWd m W u ∧ SmE m u := fun u hu => by
    obtain ⟨j, hj⟩ := List.getElem?_of_mem hu
    obtain ⟨_, _, _, h⟩ := hr j u hj
    exact h
  exact ⟨ts, by omega, hrn, fun j t e => by obtain ⟨_, _, h, _⟩ := hr j t e; exact h, fun u hu => (hmem u hu).1, fun u hu => (hmem u hu).2⟩
set_option maxRecDepth 100000 in
theorem stmtF : ∀ (f : Nat) (cs : List Value), cs.length = 8 → TF enc W f 49 cs → ∀ (b o : Nat), (∀ i, i < 8 → W.cell? ⟨b, o + i, none⟩ = cs[i]?) → ∃ t : ST f, sAt f t = (b, o) ∧ SWd f W t ∧ SmS f t
  | 0, _, _, h, _, _, _ => (tf_zero h).elim
  | 1, cs, hl, h, _, _, _ => by
    obtain ⟨n, hn, _, hf⟩ := structF Tryz.underlying49 h
    obtain rfl : n = 0 := by omega
    exact (tf_zero (hf 0 _ rfl)).elim
  | m + 2, cs, hl, h, b, o, hc => by
    obtain ⟨n, hn, _, hf⟩ := structF Tryz.underlying49 h
    obtain rfl : n = m + 1 := by omega
    have row : ∀ (a : Option Addr) (n cap : Nat), TF enc W (m + 1) 47 [.slice a n cap] → ∃ ts : List (ST m), n = ts.length ∧ n ≤ 9223372036854775807 ∧ LiesAt 8 a (sAt m) ts ∧ (∀ u ∈ ts, SWd m W u) ∧ ∀ u ∈ ts, SmS m u := fun a n cap h => by
      obtain ⟨rows, hrl, hrd, hel, hrn⟩ := rowsF Tryz.underlying47 cz49 (by omega) h
      obtain ⟨ts, hm, hr⟩ := list_ofI rows (fun j r (t : ST m) => (∃ b off, a = some ⟨b, off, none⟩ ∧ sAt m t = (b, off + j * 8)) ∧ SWd m W t ∧ SmS m t) (fun j r hj => by
        obtain ⟨e1, e2⟩ := hel r (List.mem_of_getElem? hj)
        obtain ⟨b', off', rfl, hcell⟩ := hrd j r hj
        obtain ⟨t, t1, t2, t3⟩ := stmtF m r e1 e2 b' (off' + j * 8) hcell
        exact ⟨t, ⟨b', off', rfl, t1⟩, t2, t3⟩)
      have hmem : ∀ u ∈ ts, SWd m W u ∧ SmS m u := fun u hu => by
        obtain ⟨j, hj⟩ := List.getElem?_of_mem hu
        obtain ⟨_, _, _, h⟩ := hr j u hj
        exact h
      exact ⟨ts, by omega, hrn, fun j t e => by obtain ⟨_, _, h, _⟩ := hr j t e; exact h, fun u hu => (hmem u hu).1, fun u hu => (hmem u hu).2⟩
    match cs, hl with
    | [c0, c1, c2, c3, c4, c5, c6, c7], _ =>
      have h0 := hf 0 _ rfl
      have h1 := hf 1 _ rfl
      have h2 := hf 2 _ rfl
      have h3 := hf 3 _ rfl
      have h4 := hf 4 _ rfl
      have h5 := hf 5 _ rfl
      have h6 := hf 6 _ rfl
      have h7 := hf 7 _ rfl
      simp [cz3, cz9, cz26, cz47] at h0 h1 h2 h3 h4 h5 h6 h7
      obtain ⟨v0, rfl⟩ := intF h0
      obtain ⟨v1, rfl, s1⟩ := strF h1
      obtain ⟨v2, rfl, s2⟩ := strF h2
      obtain ⟨v3, rfl, s3⟩ := strF h3
      obtain ⟨aa, an, ac, rfl⟩ := slcF Tryz.underlying26 h4
      obtain ⟨ba, bn, bc, rfl⟩ := slcF Tryz.underlying47 h5
      obtain ⟨ea, en, ec, rfl⟩ := slcF Tryz.underlying47 h6
      obtain ⟨v7, rfl⟩ := intF h7
      obtain ⟨xs, x1, x2, x3, x4, x5⟩ := erowF h4
      obtain ⟨ys, y1, y2, y3, y4, y5⟩ := row _ _ _ h5
      obtain ⟨zs, z1, z2, z3, z4, z5⟩ := row _ _ _ h6
      refine ⟨((⟨b, o, v0, v1, v2, v3, aa, an, ac, ba, bn, bc, ea, en, ec, v7⟩ : SH), xs.map (lfE m), ys.map (lfS m), zs.map (lfS m)), rfl, ⟨⟨hc 0 (by omega), hc 1 (by omega), hc 2 (by omega), hc 3 (by omega), hc 4 (by omega), hc 5 (by omega), hc 6 (by omega), hc 7 (by omega), smT_big s1, smT_big s2, smT_big s3, x2, y2, z2⟩, ⟨by show an = (xs.map (lfE m)).length; rw [List.length_map]; exact x1, by show bn = (ys.map (lfS m)).length; rw [List.length_map]; exact y1, by show en = (zs.map (lfS m)).length; rw [List.length_map]; exact z1⟩, ⟨lies_map x3 (lfE_at m), lies_map y3 (lfS_at m), lies_map z3 (lfS_at m)⟩, fun u hu => ?_, fun u hu => ?_, fun u hu => ?_⟩, ⟨⟨s1, s2, s3⟩, fun u hu => ?_, fun u hu => ?_, fun u hu => ?_⟩⟩
      · obtain ⟨x, hx, rfl⟩ := List.mem_map.1 hu
        exact lfE_wd m (x4 x hx)
      · obtain ⟨x, hx, rfl⟩ := List.mem_map.1 hu
        exact lfS_wd m (y4 x hx)
      · obtain ⟨x, hx, rfl⟩ := List.mem_map.1 hu
        exact lfS_wd m (z4 x hx)
      · obtain ⟨x, hx, rfl⟩ := List.mem_map.1 hu
        exact lfE_sm m (x5 x hx)
      · obtain ⟨x, hx, rfl⟩ := List.mem_map.1 hu
        exact lfS_sm m (y5 x hx)
      · obtain ⟨x, hx, rfl⟩ := List.mem_map.1 hu
        exact lfS_sm m (z5 x hx)
set_option maxRecDepth 100000 in
theorem declF (m : Nat) (s : ByteArray) (cs : List Value) (hl : cs.length = 7) (h : TF enc W (m + 2) 52 cs) (b o : Nat) (hc : ∀ i, i < 7 → W.cell? ⟨b, o + i, none⟩ = cs[i]?) : ∃ t : DT m, dAt t = (b, o) ∧ DWd m W t ∧ SmD t ∧ t.1.sort = s := by
  obtain ⟨n, hn, _, hf⟩ := structF Tryz.underlying52 h
  obtain rfl : n = m + 1 := by omega
  match cs, hl with
  | [c0, c1, c2, c3, c4, c5, c6], _ =>
    have h0 := hf 0 _ rfl
    have h1 := hf 1 _ rfl
    have h2 := hf 2 _ rfl
    have h3 := hf 3 _ rfl
    have h4 := hf 4 _ rfl
    have h5 := hf 5 _ rfl
    have h6 := hf 6 _ rfl
    simp [cz3, cz9, cz50, cz47] at h0 h1 h2 h3 h4 h5 h6
    obtain ⟨v0, rfl, s0⟩ := strF h0
    obtain ⟨pa, pn, pc, rfl⟩ := slcF Tryz.underlying50 h1
    obtain ⟨v2, rfl, s2⟩ := strF h2
    obtain ⟨v3, rfl, s3⟩ := strF h3
    obtain ⟨v4, rfl, s4⟩ := strF h4
    obtain ⟨ba, bn, bc, rfl⟩ := slcF Tryz.underlying47 h5
    obtain ⟨v6, rfl⟩ := intF h6
    obtain ⟨ps, p1, p2, p3, p4⟩ := paramsF h1
    obtain ⟨rows, hrl, hrd, hel, hrn⟩ := rowsF Tryz.underlying47 cz49 (by omega) h5
    obtain ⟨ts, hm, hr⟩ := list_ofI rows (fun j r (t : ST m) => (∃ b off, ba = some ⟨b, off, none⟩ ∧ sAt m t = (b, off + j * 8)) ∧ SWd m W t ∧ SmS m t) (fun j r hj => by
      obtain ⟨e1, e2⟩ := hel r (List.mem_of_getElem? hj)
      obtain ⟨b', off', rfl, hcell⟩ := hrd j r hj
      obtain ⟨t, t1, t2, t3⟩ := stmtF m r e1 e2 b' (off' + j * 8) hcell
      exact ⟨t, ⟨b', off', rfl, t1⟩, t2, t3⟩)
    have hmem : ∀ u ∈ ts, SWd m W u ∧ SmS m u := fun u hu => by
      obtain ⟨j, hj⟩ := List.getElem?_of_mem hu
      obtain ⟨_, _, _, h⟩ := hr j u hj
      exact h
    exact ⟨((⟨s, b, o, v0, pa, pn, pc, v2, v3, v4, ba, bn, bc, v6, ps⟩ : DH), ts), rfl, ⟨⟨hc 0 (by omega), hc 1 (by omega), hc 2 (by omega), hc 3 (by omega), hc 4 (by omega), hc 5 (by omega), hc 6 (by omega), smT_big s0, smT_big s2, smT_big s3, smT_big s4, p1, p2, fun q hq => ⟨smT_big (p4 q hq).1, smT_big (p4 q hq).2⟩, p3, by show bn ≤ _; omega⟩, by show bn = ts.length; omega, fun j t e => by obtain ⟨_, _, h, _⟩ := hr j t e; exact h, fun u hu => (hmem u hu).1⟩, ⟨⟨s0, s2, s3, s4, p4⟩, fun u hu => (hmem u hu).2⟩, rfl⟩
theorem decl_big {f : Nat} {cs : List Value} (h : TF enc W f 52 cs) : ∃ m, f = m + 2 := by
  obtain ⟨n, rfl, _, hf⟩ := structF Tryz.underlying52 h
  cases n with
  | zero => exact (tf_zero (hf 0 _ rfl)).elim
  | succ m => exact ⟨m, rfl⟩
set_option maxRecDepth 100000 in
theorem drowF {f : Nat} (s : ByteArray) {a : Option Addr} {n cap : Nat} (h : TF enc W (f + 1) 22 [.slice a n cap]) : ∃ ts : List (DT (f - 2)), LWs (f - 2) W s a n ts ∧ ∀ u ∈ ts, SmD u := by
  obtain ⟨rows, hrl, hrd, hel, hrn⟩ := rowsF Tryz.underlying22 cz52 (by omega) h
  obtain ⟨ts, hm, hr⟩ := list_ofI rows (fun j r (t : DT (f - 2)) => (∃ b off, a = some ⟨b, off, none⟩ ∧ dAt t = (b, off + j * 7)) ∧ DWd (f - 2) W t ∧ SmD t ∧ t.1.sort = s) (fun j r hj => by
    obtain ⟨e1, e2⟩ := hel r (List.mem_of_getElem? hj)
    obtain ⟨b', off', rfl, hcell⟩ := hrd j r hj
    obtain ⟨m, rfl⟩ := decl_big e2
    obtain ⟨t, t1, t2, t3, t4⟩ := declF m s r e1 e2 b' (off' + j * 7) hcell
    exact ⟨t, ⟨b', off', rfl, t1⟩, t2, t3, t4⟩)
  have hmem : ∀ u ∈ ts, DWd (f - 2) W u ∧ SmD u ∧ u.1.sort = s := fun u hu => by
    obtain ⟨j, hj⟩ := List.getElem?_of_mem hu
    obtain ⟨_, _, _, h⟩ := hr j u hj
    exact h
  exact ⟨ts, ⟨hrn, by omega, fun j t e => by obtain ⟨_, _, h, _⟩ := hr j t e; exact h, fun u hu => (hmem u hu).1, fun u hu => (hmem u hu).2.2⟩, fun u hu => (hmem u hu).2.1⟩
set_option maxRecDepth 100000 in
theorem treeF {f : Nat} {cs : List Value} (h : TF enc W f 24 cs) : ∃ (k : Nat) (t : TT k), cs = t.h.cs.toList ∧ TWs k W t ∧ SmT t := by
  obtain ⟨n, rfl, hl, hf⟩ := structF Tryz.underlying24 h
  rw [cz24] at hl
  match cs, hl with
  | [c0, c1, c2, c3], _ =>
    have h0 := hf 0 _ rfl
    have h1 := hf 1 _ rfl
    have h2 := hf 2 _ rfl
    have h3 := hf 3 _ rfl
    simp [cz22] at h0 h1 h2 h3
    cases n with
    | zero => exact (tf_zero h0).elim
    | succ g =>
      obtain ⟨ra, rn, rc, rfl⟩ := slcF Tryz.underlying22 h0
      obtain ⟨ma, mn, mc, rfl⟩ := slcF Tryz.underlying22 h1
      obtain ⟨fa, fn, fc, rfl⟩ := slcF Tryz.underlying22 h2
      obtain ⟨ea, en, ec, rfl⟩ := slcF Tryz.underlying22 h3
      obtain ⟨rs, r1, r2⟩ := drowF wRec h0
      obtain ⟨ms, m1, m2⟩ := drowF wMap h1
      obtain ⟨fs, f1, f2⟩ := drowF wFn h2
      obtain ⟨es, e1, e2⟩ := drowF wOn h3
      exact ⟨g - 2, ⟨⟨0, 0, ra, rn, rc, ma, mn, mc, fa, fn, fc, ea, en, ec⟩, rs, ms, fs, es⟩, rfl, ⟨r1, m1, f1, e1⟩, ⟨r2, m2, f2, e2⟩⟩
end
end Go.Proofs.YtdfambocenohgaaGreatDoor

namespace Go.Proofs.YtdfambocenohgaaGreatDoor
open Go.RowKit Go.Deep
set_option linter.unusedVariables false
set_option linter.unusedSimpArgs false
theorem tvs_of {k : Nat} {w : World} {t : TT k} (d : TWs k w t) (h : SzT t) : TVs k w t := by
  obtain ⟨h1, h2, h3, h4⟩ := h
  have l1 := sumL_len szD szD_1 t.rs
  have l2 := sumL_len szD szD_1 t.ms
  have l3 := sumL_len szD szD_1 t.fs
  have l4 := sumL_len szD szD_1 t.es
  have n1 := d.rs.n
  have n2 := d.ms.n
  have n3 := d.fs.n
  have n4 := d.es.n
  exact ⟨dls_of d.rs (by omega), dls_of d.ms (by omega), dls_of d.fs (by omega), dls_of d.es (by omega), by omega, by omega, by omega, by omega⟩
theorem inT_len {k : Nat} (t : TT k) (h : SzT t) : (inT t).length ≤ 2400 := by
  obtain ⟨h1, h2, h3, h4⟩ := h
  have l1 := flat_len szD ptD ptD_len t.rs
  have l2 := flat_len szD ptD ptD_len t.ms
  have l3 := flat_len szD ptD ptD_len t.fs
  have l4 := flat_len szD ptD ptD_len t.es
  unfold inT
  simp only [List.length_append]; omega
end Go.Proofs.YtdfambocenohgaaGreatDoor

