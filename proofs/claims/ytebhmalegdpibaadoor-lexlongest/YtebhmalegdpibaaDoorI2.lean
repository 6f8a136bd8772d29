/- LexLongest: the walk. -/
import Derived.Test.YtebhmalegdpibaaDoorH2
import Derived.Test.YtebhmalegdpibaaDoorB2
import Derived.Test.YtebhmalegdpibaaDoorL2
namespace Go.Proofs.YtebhmalegdpibaaDoor
open Go.RowKit Go.Deep
set_option linter.unusedVariables false
set_option linter.unusedSimpArgs false

theorem slice_part (X : ByteArray) (a b : Nat) (h1 : a ≤ b) (h2 : b ≤ X.size) (W : World) : (Instr.slice 9 (.string X) (some (.int .i64 (a : Int))) (some (.int .i64 (b : Int))) none).run Tryd.prog W = .ok (.string (X.extract a b)) W := by
  have : (b : Int) ≤ (X.size : Int) := by omega
  have : (a : Int) ≤ (b : Int) := by omega
  go_simp
theorem sg_slice (k : Nat) (h : k < 20) (W : World) : (Instr.slice 9 (.string ⟨#[123, 125, 40, 41, 91, 93, 44, 59, 58, 46, 61, 60, 62, 43, 45, 42, 47, 37, 38, 33]⟩) (some (.int .i64 (k : Int))) (some (.int .i64 ((k : Int) + 1))) none).run Tryd.prog W = .ok (.string (ofB [sgs.getD k 0])) W := by
  have e : ∀ j, j < 20 → (sgs.take (j + 1)).drop j = [sgs.getD j 0] := by decide
  have h2 := slice_part ⟨#[123, 125, 40, 41, 91, 93, 44, 59, 58, 46, 61, 60, 62, 43, 45, 42, 47, 37, 38, 33]⟩ k (k + 1) (by omega) (by show k + 1 ≤ 20; omega) W
  rw [show ((k + 1 : Nat) : Int) = (k : Int) + 1 by omega] at h2
  rw [h2]
  congr 2
  exact eq_ofB (by rw [extract_toList]; exact e k h)
set_option maxRecDepth 100000 in
set_option maxHeartbeats 1000000 in
theorem longest_go (a : Option Addr) (cap : Nat) (bs : Bs) (w : World) (hm : MX w) (hb : BRd w a bs) : Calls Tryd.prog 8 #[.slice a bs.length cap] w fun e w' => e = .returned (.bool true) ∧ Below w.heap.size w w' := by
  have HM := hid hm
  have ck := known_any w hm
  have HB := hid hb
  clear hm hb
  by_cases h1 : 80 < bs.length
  · have h1' : (80 : Int) < (bs.length : Int) := by omega
    go_enter Tryd.func8, Tryd.ntmps8
    go_wp2_with (go_at_call 9; refine ck.mono ?_; rintro e w1 ⟨rfl, hb1⟩)
    go_ret
    exact ⟨rfl, hb1⟩
  · have h1' : ¬ (80 : Int) < (bs.length : Int) := by omega
    go_enter Tryd.func8, Tryd.ntmps8
    go_wp2_with (go_at_call 9; refine ck.mono ?_; rintro e w1 ⟨rfl, hb1⟩)
    have HB1 := hid hb1
    have HBW := hid (HB.out.below (Nat.le_refl _) hb1)
    have HMW := hid (HM.out.below HM.out.lt hb1)
    clear hb1
    go_loopg [4, 5] bs.length (fun g s ii wr => ∃ i : Nat, i + g = bs.length ∧ s = .string (ofB (sgS bs i)) ∧ ii = .int .i64 (i : Int) ∧ wr = w1)
    case atStart => exact ⟨0, by omega, rfl, rfl, rfl⟩
    case round =>
      obtain ⟨i, hi, rfl, rfl, rfl⟩ := hrel
      cases gk with
      | succ g =>
        have hlt0 : i < bs.length := by omega
        have hlt : (i : Int) < (bs.length : Int) := by omega
        obtain ⟨c, hc⟩ : ∃ c, bs[i]? = some c := ⟨bs[i], List.getElem?_eq_getElem hlt0⟩
        obtain ⟨b, off, ea, hcell⟩ := HBW.out i c hc
        subst ea
        have hwi : sgI bs i = c.toNat % 20 := by unfold sgI; rw [List.getD_eq_getElem?_getD, hc]; rfl
        have hkx : sgI bs i < 20 := sgI_lt bs i
        have hrem : ((c.toNat : Int).tmod 20) = ((sgI bs i : Nat) : Int) := by rw [hwi]; rfl
        have hsl := sg_slice (sgI bs i) hkx
        obtain ⟨q1, r1, e1, z1⟩ := cat_any (ofB (sgS bs i)) (ofB [sgs.getD (sgI bs i) 0]) (by rw [ofB_size, ofB_size, sgS_len]; simp; omega)
        have hq1 : q1 = ofB (sgS bs (i + 1)) := eq_ofB (by rw [e1, ofB_list, ofB_list]; rfl)
        have Hq := hid hq1
        have Hi := hid hi
        obtain ⟨KX, hKX⟩ : ∃ k, k = sgI bs i := ⟨_, rfl⟩
        rw [← hKX] at hrem hkx hsl r1
        obtain ⟨x, hx⟩ : ∃ z, z = ofB [sgs.getD KX 0] := ⟨_, rfl⟩
        obtain ⟨S0, hS0⟩ : ∃ z, z = ofB (sgS bs i) := ⟨_, rfl⟩
        rw [← hx] at hsl r1
        rw [← hS0] at r1 ⊢
        have hkx' : (KX : Int) < 20 := by omega
        have hcl := c.toNat_lt
        have hw64 : wrap64 (c.toNat : Int) = (c.toNat : Int) := by first | exact wrap_small _ (by omega) (by omega) | (unfold wrap64; omega) | (simp [wrap64]; omega)
        clear hq1 hi hc hwi hKX hx hS0 e1 z1 hlt0
        go_wp2
        go_roundg g
        case measure => omega
        case rel => exact ⟨i + 1, by have := Hi.out; omega, by rw [Hq.out], by go_num, rfl⟩
      | zero =>
        have hin : i = bs.length := by omega
        subst hin
        have hres := signs_res (sgS bs bs.length) (sgS_mem bs _) (by rw [sgS_len]; omega)
        have hsz := sgS_len bs bs.length
        obtain ⟨L, hL⟩ : ∃ L, L = sgS bs bs.length := ⟨_, rfl⟩
        rw [← hL] at hres hsz ⊢
        clear hL hi
        obtain ⟨S0, hS0⟩ : ∃ z, z = ofB L := ⟨_, rfl⟩
        have hs1 : S0.size = L.length := by rw [hS0, ofB_size]
        have hs80 : (S0.size : Int) ≤ 80 := by omega
        cases hx : lexT L with
        | error p =>
          rw [hx] at hres
          obtain ⟨h2, k, h3, h4, h5⟩ := hres
          obtain ⟨p1, p2⟩ := p
          simp only at h2 h3
          subst h2
          have hp1 : p1 = k := by omega
          subst hp1
          have cT := tokens_err (ofB L) (by rw [ofB_size]; omega) (p1, 51) (by rw [ofB_list]; exact hx) wr HMW.out
          have hkl : p1 < L.length := (List.getElem?_eq_some_iff.1 h4).1
          have hks : p1 < S0.size := by omega
          have hks' : (p1 : Int) < (S0.size : Int) := by omega
          have hg : S0[p1]'hks = 33 := get_of_list S0 p1 hks 33 (by rw [hS0, ofB_list]; exact h4)
          rw [← hS0] at cT ⊢
          simp only at cT
          by_cases he : p1 + 1 = S0.size
          · have he' : (p1 : Int) + 1 = (S0.size : Int) := by omega
            clear hx h4 h5 h3 hkl hs1 hsz he hS0
            go_wp2_with (go_at_call 10; refine cT.mono ?_; rintro e w2 ⟨rfl, hb2⟩)
            go_ret
            exact ⟨by rfl, HB1.out.trans (hb2.mono HB1.out.size)⟩
          · have hks2 : p1 + 1 < S0.size := by omega
            have hks2' : (p1 : Int) + 1 < (S0.size : Int) := by omega
            have he' : ¬ (p1 : Int) + 1 = (S0.size : Int) := by omega
            obtain ⟨d, hd, hd1, _⟩ := at_list S0 (p1 + 1) hks2
            have hd61 : ¬ d = 61 := by
              rintro rfl
              rw [hS0, ofB_list] at hd1
              exact h5 hd1
            have hd' : ¬ (d.toNat : Int) = 61 := fun e => hd61 (UInt8.toNat_inj.1 (by have : (61 : UInt8).toNat = 61 := rfl; omega))
            have hqa : ((d.toNat : Int) != 61) = true := by simp; omega
            have hqb : ((p1 : Int) + 1 == (S0.size : Int)) = false := by simp; omega
            clear hx h4 h5 h3 hkl hs1 hsz he hS0 hd1 hd61
            go_wp2_with (go_at_call 10; refine cT.mono ?_; rintro e w2 ⟨rfl, hb2⟩)
            go_ret
            exact ⟨by rfl, HB1.out.trans (hb2.mono HB1.out.size)⟩
        | ok ts =>
          have hrow : SgRow 0 L ts := by rw [hx] at hres; exact hres
          have hts := (lexT_small hx).1
          have hT : (ts.length : Int) ≤ 81 := by omega
          have cT := tokens_ok (ofB L) (by rw [ofB_size]; omega) ts (by rw [ofB_list]; exact hx) wr HMW.out
          rw [← hS0] at cT ⊢
          have Hrow := hid hrow
          have HS0 := hid hS0
          have HL80 : Hid (L.length ≤ 80) := hid (by omega)
          clear hx hres hrow hts hs1 hsz hS0
          go_wp2_with (go_at_call 10; refine cT.mono ?_; rintro e w3 ⟨tb, tcap, rfl, hrd, hB3, hlt3, hb3⟩; have Hrd := hid hrd; clear hrd)
          have HB3 := hid (HB1.out.trans (hb3.mono HB1.out.size))
          clear hb3
          go_loopg [10, 11] ts.length (fun g al ii wq => ∃ (i : Nat) (A R : Bs), i + g = ts.length ∧ al = .string (ofB A) ∧ ii = .int .i64 (i : Int) ∧ A ++ R = L ∧ SgRow A.length R (ts.drop i) ∧ Below w3.heap.size w3 wq)
          case atStart => exact ⟨0, [], L, by omega, rfl, rfl, rfl, Hrow.out, Below.refl _ _⟩
          case round =>
            obtain ⟨i, A, R, hi, rfl, rfl, hAR, hrow, hbq⟩ := hrel
            have hAl : A.length ≤ 80 := by have := HL80.out; have := congrArg List.length hAR; rw [List.length_append] at this; omega
            cases hD : ts.drop i with
            | nil => rw [hD] at hrow; exact absurd hrow (by simp [SgRow])
            | cons t r =>
              rw [hD] at hrow
              have hti : ts[i]? = some t := by have := congrArg (fun l => l[0]?) hD; simpa using this
              have hil : i < ts.length := (List.getElem?_eq_some_iff.1 hti).1
              cases r with
              | nil =>
                have hlen : ts.length = i + 1 := by have := congrArg List.length hD; simp at this; omega
                have hR := hrow.one
                subst hR
                rw [List.append_nil] at hAR
                subst hAR
                have hne : ¬ (i : Int) + 1 < (ts.length : Int) := by omega
                rw [← HS0.out]
                have Hbq := hid hbq
                have hub : (i : Int) ≤ 81 := by omega
                clear hbq hlen hD hti hrow hi hil hAl
                go_wp2
                go_ret
                refine ⟨ret_bool (by simp), HB3.out.trans (Hbq.out.mono HB3.out.size)⟩
              | cons u r' =>
                obtain ⟨hk5, hpos, rest, hR, hl12, hs2, hrow2⟩ := hrow.more
                have hlen : i + 1 < ts.length := by have := congrArg List.length hD; simp at this; omega
                obtain ⟨g', rfl⟩ : ∃ g', gk = g' + 1 := ⟨gk - 1, by omega⟩
                have hlt1 : (i : Int) + 1 < (ts.length : Int) := by omega
                have hlt0 : (i : Int) < (ts.length : Int) := by omega
                have hui : ts[i + 1]? = some u := by have := congrArg (fun l => l[1]?) hD; simpa using this
                have hD1 : ts.drop (i + 1) = u :: r' := by rw [← List.drop_drop, hD]; rfl
                obtain ⟨b', o', eb, hct⟩ := (Hrd.out.below (Nat.le_refl _) hbq) i t hti
                cases eb
                have t0 := hct 0 (by omega)
                have t1 := hct 1 (by omega)
                have t2 := hct 2 (by omega)
                obtain ⟨b', o', eb, hcu⟩ := (Hrd.out.below (Nat.le_refl _) hbq) (i + 1) u hui
                cases eb
                have u1 := hcu 1 (by omega)
                rw [Nat.zero_add] at t0 t1 t2 u1
                simp only [LTok.cs, List.getElem?_cons_zero, List.getElem?_cons_succ, Nat.add_zero] at t0 t1 t2 u1
                rw [hk5] at t0
                rw [hpos] at t2
                have hxs : (ofB t.text).size = t.text.length := ofB_size _
                obtain ⟨q1, r1, e1, z1⟩ := cat_any (ofB A) (ofB t.text) (by rw [ofB_size, ofB_size]; omega)
                have hq1 : q1 = ofB (A ++ t.text) := eq_ofB (by rw [e1, ofB_list, ofB_list])
                have hnext : A ++ t.text ++ rest = L := by rw [← hAR, hR, List.append_assoc]
                have hrow3 : SgRow (A ++ t.text).length rest (ts.drop (i + 1)) := by rw [List.length_append, hD1]; exact hrow2
                have hu := hid (fun v r2 (e : r' = v :: r2) => (show SgRow (A.length + t.text.length) rest (u :: v :: r2) by rw [← e]; exact hrow2).head)
                have Hs2 := hid hs2
                have Hq1 := hid hq1
                have Hnext := hid hnext
                have Hrow3 := hid hrow3
                have Hbq := hid hbq
                have Hi := hid hi
                have HD := hid hD
                have hlr : ts.length = i + 2 + r'.length := by have := congrArg List.length hD; simp at this; omega
                have hAs : (ofB A).size = A.length := ofB_size _
                obtain ⟨X, hX⟩ : ∃ z, z = ofB A := ⟨_, rfl⟩
                obtain ⟨x, hxx⟩ : ∃ z, z = ofB t.text := ⟨_, rfl⟩
                obtain ⟨y, hy⟩ : ∃ z, z = ofB u.text := ⟨_, rfl⟩
                rw [← hX] at r1 hAs ⊢
                rw [← hxx] at r1 t1 hxs
                rw [← hy] at u1
                rw [← hAs] at t2
                have Hxx := hid hxx
                have Hy := hid hy
                clear hct hcu hAR hrow hD hti hui hD1 hk5 hpos hs2 hrow2 hR hq1 hnext hrow3 hX hxx hy hi e1 z1 hbq hil hlen hAs
                cases r' with
                | nil =>
                  have hne : ¬ (i : Int) + 2 < (ts.length : Int) := by simp at hlr; omega
                  clear hlr u1
                  go_wp2
                  go_roundg g'
                  case measure => omega
                  case rel => exact ⟨i + 1, A ++ t.text, rest, by have := Hi.out; omega, by rw [Hq1.out], by go_num, Hnext.out, Hrow3.out, Hbq.out⟩
                | cons v r2 =>
                  have hlt2 : (i : Int) + 2 < (ts.length : Int) := by simp at hlr; omega
                  clear hlr
                  rcases hl12 with h1l | h2l
                  · obtain ⟨a1, ha1⟩ : ∃ a1, t.text = [a1] := by
                      cases ht : t.text with
                      | nil => rw [ht] at h1l; simp at h1l
                      | cons c z =>
                        cases z with
                        | nil => exact ⟨c, rfl⟩
                        | cons c2 z => rw [ht] at h1l; simp at h1l
                    obtain ⟨b1, z1, hb1, hh1⟩ := hu.out v r2 rfl
                    have hno := Hs2.out a1 b1 ha1 hh1
                    have hx1 : (x.size : Int) = 1 := by omega
                    have hys : 1 ≤ y.size := by rw [Hy.out, ofB_size, hb1]; simp
                    have hsl : ∀ W, (Instr.slice 9 (.string y) none (some (.int .i64 1)) none).run Tryd.prog W = .ok (.string (y.extract 0 1)) W := slice_to y 1 hys
                    have hye : y.extract 0 1 = ofB [b1] := eq_ofB (by rw [extract_toList, Hy.out, ofB_list, hb1]; simp)
                    rw [hye] at hsl
                    have hxa : x = ofB [a1] := by rw [Hxx.out, ha1]
                    obtain ⟨q2, r2', e2, z2⟩ := cat_any x (ofB [b1]) (by rw [hxa, ofB_size, ofB_size]; simp)
                    have hq2 : q2.toList = [a1, b1] := by rw [ByteArray.toList_eq, e2, hxa, ofB_list, ofB_list]; rfl
                    have hn : ∀ p ∈ sg2L, (q2.toList == p) = false := by
                      intro p hp
                      rw [hq2, beq_eq_false_iff_ne]
                      rintro rfl
                      rw [(sg2_iff a1 b1).2 hp] at hno
                      cases hno
                    have n1 := hn [61, 61] (by decide)
                    have n2 := hn [33, 61] (by decide)
                    have n3 := hn [60, 61] (by decide)
                    have n4 := hn [62, 61] (by decide)
                    have n5 := hn [43, 37] (by decide)
                    have n6 := hn [45, 37] (by decide)
                    have n7 := hn [42, 37] (by decide)
                    have n8 := hn [45, 62] (by decide)
                    obtain ⟨y1, hy1⟩ : ∃ z, z = ofB [b1] := ⟨_, rfl⟩
                    rw [← hy1] at hsl r2'
                    clear hxs h1l ha1 hb1 hh1 hno hye hxa e2 z2 hq2 hn hy1
                    obtain ⟨I1, hI1⟩ : ∃ n, n = i + 1 := ⟨_, rfl⟩
                    rw [← hI1] at u1
                    have HI1 := hid hI1
                    have hJ : (I1 : Int) < (ts.length : Int) := by omega
                    have HW1 : Hid (IntKind.i64.wrap ((i : Int) + 1) = (I1 : Int)) := hid (by rw [wrap_small _ (by omega) (by omega)]; omega)
                    clear hI1
                    go_wp2
                    have hw1 := HW1.out
                    clear hlt1 hlt2
                    go_region_held3 (fun w2 => w2.cell? ⟨tb, i * 3 + 1, none⟩ = some (.string x) ∧ w2.cell? ⟨tb, I1 * 3 + 1, none⟩ = some (.string y)) (first | go_keep) (fail)
                    go_wp2
                    go_roundg g'
                    case measure => omega
                    case rel => exact ⟨i + 1, A ++ t.text, rest, by have := Hi.out; omega, by rw [Hq1.out], by rw [← HI1.out], Hnext.out, Hrow3.out, Hbq.out.trans (((Below.refl _ wr).drew).mono Hbq.out.size)⟩
                  · have hx2 : (x.size : Int) = 2 := by omega
                    clear u1 hxs h2l
                    go_wp2
                    go_roundg g'
                    case measure => omega
                    case rel => exact ⟨i + 1, A ++ t.text, rest, by have := Hi.out; omega, by rw [Hq1.out], by go_num, Hnext.out, Hrow3.out, Hbq.out⟩
end Go.Proofs.YtebhmalegdpibaaDoor
