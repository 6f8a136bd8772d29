/- CodecRows: the walk. -/
import Derived.Test.YtjfkcafocindjaaJ2
import Derived.Deep.LoopGhost
namespace Go.Proofs.Ytjfkcafocindjaa
open Go.RowKit Go.Deep
set_option linter.unusedVariables false
set_option linter.unusedSimpArgs false

theorem flat_in {f : Hd} (h : f.In) : (flatH f).In := ⟨h.i0, h.i1, h.k0, h.k1, by simp [flatH], by simp [flatH], h.t, by simp [flatH]⟩
theorem rep_below {w w' : World} {x : Vl} {h : Hd} {B : Nat} (r : Rep w x h) (hB : w.heap.size ≤ B) (k : Below B w w') : Rep w' x h := ⟨r.kind, r.int, r.text, r.rc, r.n, r.fs.below hB k⟩

/- A value's bytes, whatever stands behind, are read; what is read is put as these bytes. -/
theorem value_pe (w : World) (v : Value) (p : Hd × List Hd) (m : List Nat) (hp : POk p) (h : Rd w v (pe p ++ m)) (hm : m.length ≤ 100000) :
    Calls Try.prog 23 #[v] w fun e w' => Below w.heap.size w w' ∧ ∃ hh : Hd, e = .returned (.tuple #[hh.v, .int .i64 ((pe p).length : Int), .int .i64 0]) ∧ Rep w' (vlOf p.1 p.2) hh := by
  refine (value_any w v _ h (by have := pe_le hp; simp; omega)).mono ?_
  rintro e w' ⟨hb, hv⟩
  have := valD_encV hp.hin hp.n hp.fin hp.pl m
  unfold pe at hv
  rw [this] at hv
  obtain ⟨hh, he, hr, _⟩ := hv
  exact ⟨hb, hh, he, hr⟩
theorem rep_in {w : World} {p : Hd × List Hd} {hh : Hd} (hp : POk p) (r : Rep w (vlOf p.1 p.2) hh) : hh.In := by
  have hi := hp.hin
  obtain ⟨k1, k2, k3, k4, k5, k6⟩ := r
  simp only [vlOf] at k1 k2 k3 k4 k5
  refine ⟨by rw [k2]; exact hi.i0, by rw [k2]; exact hi.i1, by rw [k1]; exact hi.k0, by rw [k1]; exact hi.k1, by rw [k4]; exact hi.r0, by rw [k4]; exact hi.r1, by rw [k3]; exact hi.t, ?_⟩
  rw [k5]
  split
  · rw [List.length_map, ← hp.n]; exact hi.n
  · simp
theorem Rd.to {w : World} {a : Option Addr} {n cap : Nat} {bs : List Nat} (h : Rd w (.slice a n cap) bs) (l : Nat) (hl : l ≤ bs.length) : Rd w (.slice a l cap) (bs.take l) := by
  obtain ⟨a1, c1, e, h1, h2, h3⟩ := h
  cases e
  refine ⟨_, _, by rw [List.length_take, Nat.min_eq_left hl], by simp; omega, h2.take _, fun j x hx => ?_⟩
  rw [List.getElem?_take] at hx
  split at hx
  · exact h3 j x hx
  · cases hx
theorem value_none (w : World) : Calls Try.prog 23 #[.slice none 0 0] w fun e w' => Below w.heap.size w w' ∧ e = .returned (.tuple #[.agg #[.int .i64 0, .int .i64 0, .string ⟨#[]⟩, .int .i64 0, .slice none 0 0], .int .i64 0, .int .i64 20]) := by
  refine (value_nil w none 0).mono ?_
  rintro e w' ⟨hb, hv⟩
  exact ⟨hb, hv⟩
theorem put_rep (w : World) (p : Hd × List Hd) (hh : Hd) (hp : POk p) (r : Rep w (vlOf p.1 p.2) hh) :
    Calls Try.prog 31 #[hh.v] w fun e w' => Below w.heap.size w w' ∧ ∃ v', e = .returned (.tuple #[v', .int .i64 0]) ∧ Row w' w.heap.size v' (pe p) := by
  obtain ⟨g1, g2⟩ := rep_put hp.n hp.pl r
  have := putValue_any w hh (vlOf p.1 p.2).fs (rep_in hp r) r.n r.fs (by
    intro f hf
    simp only [vlOf] at hf
    split at hf
    · simp only [List.mem_map] at hf
      obtain ⟨g, hg, rfl⟩ := hf
      exact flat_in (hp.fin g hg)
    · cases hf)
  rw [g1, g2] at this
  exact this

set_option maxRecDepth 20000 in
set_option maxHeartbeats 2000000 in
theorem rows_any (w : World) (a : Option Addr) (n cap : Nat) (hs : List Hd) (hn : n = hs.length) (hn2 : n ≤ 9223372036854775807) (hv : VRd w a hs) (hd : DeepAll w hs) :
    Calls Try.prog 8 #[.slice a n cap] w fun e w' => e = .returned (.bool true) ∧ Below w.heap.size w w' := by
  have Hn := hid hn
  have HD := hid hd
  have K1 := hid (known_any w)
  have K2 : Hid (∀ w1 : World, Below w.heap.size w w1 → Calls Try.prog 30 #[.slice a n cap] w1 fun e w' => SomeL n e ∧ Below w1.heap.size w1 w') := hid (fun w1 hb => smalls_any w1 a n cap hs hn hn2 (hv.below (Nat.le_refl _) hb) (fun j h e => by obtain ⟨fs, gs, d⟩ := hd j h e; exact ⟨fs, gs, d.below (Nat.le_refl _) hb⟩))
  clear hn hd
  go_enter Try.func8, Try.ntmps8
  go_wp2_with (first
    | (go_at_call 9; (refine (Hid.out K1).mono ?_; rintro e w1 ⟨rfl, hb1⟩))
    | (go_at_call 30; (refine (Hid.out K2 _ hb1).mono ?_; rintro e w2 ⟨⟨sb, rfl, hsb⟩, hb2⟩; cases sb)))
  · go_ret
    exact ⟨rfl, hb1.trans (hb2.mono hb1.size)⟩
  have hn3 : n ≤ 20 := hsb trivial
  have hbw : Below w.heap.size w w2 := hb1.trans (hb2.mono hb1.size)
  have H0 := hid (StA.mk (ps := []) (Row.nil w2 w.heap.size) (IRow.nil w2 w.heap.size) (fun p hp => by cases hp) hbw)
  clear hb1 hb2 K1 K2 hsb
  go_loopg [3, 4, 5] n (fun g va vs ii wr => ∃ (i : Nat) (ps : List (Hd × List Hd)), i + g = n ∧ ps.length ≤ i ∧ ii = .int .i64 (i : Int) ∧ StA w wr w.heap.size va vs ps)
  case atStart => exact ⟨0, [], by omega, by simp, rfl, H0.out⟩
  case round =>
    obtain ⟨i, ps, hi, hpi, rfl, sA⟩ := hrel
    have Hi := hid hi
    have SA := hid sA
    have hBs : w.heap.size ≤ wr.heap.size := sA.be.size
    cases gk with
    | zero =>
      have hin' : i = n := by omega
      clear hi
      subst hin'
      obtain ⟨m, hm⟩ : ∃ m, m = ps.length := ⟨_, rfl⟩
      have Hm := hid hm
      obtain ⟨aS, cS, hvS, -⟩ := sA.ri.form
      rw [List.length_map, ← hm] at hvS
      subst hvS
      have hm20 : m ≤ 20 := by omega
      have hrd0 := hid (sA.ra.rd (pes_byt sA.ok))
      have hok := hid sA.ok
      clear sA hm
      go_wp2
      go_loopg [3, 8] m (fun g va2 jj wr2 => ∃ j : Nat, j + g = m ∧ jj = .int .i64 (j : Int) ∧ Rd wr2 va2 (pes (ps.drop j)) ∧ Below w.heap.size w wr2 ∧ IRow wr2 w.heap.size (.slice aS m cS) (ps.map fun p => (pe p).length))
      case atStart => exact ⟨0, by omega, rfl, by simpa using hrd0.out, SA.out.be, SA.out.ri⟩
      case round =>
        obtain ⟨j, hj, rfl, hrd, hbe, hir⟩ := hrel
        have Hj := hid hj
        have hBe := hid hbe
        cases gk with
        | zero =>
          have hj' : j = m := by omega
          clear hj
          subst hj'
          have hnil : pes (ps.drop j) = [] := by rw [Hm.out, List.drop_length]; rfl
          rw [hnil] at hrd
          obtain ⟨a0, c0, rfl⟩ := hrd.len
          simp only [List.length_nil]
          clear hnil hrd hir hbe
          go_wp2_with (go_at_call 23; (refine (value_none _).mono ?_; rintro e w5 ⟨hb5, rfl⟩))
          go_ret
          exact ⟨rfl, (hBe.out.trans (hb5.mono hBe.out.size)).alloc (Nat.le_trans hBe.out.size hb5.size) _⟩
        | succ g =>
          have hlt : j < m := by omega
          clear hj
          obtain ⟨p, hpj⟩ : ∃ p, ps[j]? = some p := ⟨ps[j]'(by rw [← Hm.out]; exact hlt), by rw [List.getElem?_eq_getElem]⟩
          have hok1 := hok.out p (List.mem_of_getElem? hpj)
          have hple := pe_le hok1
          have hmle : (pes (ps.drop (j + 1))).length ≤ 20000 := by
            have h1 := pes_le (ps := ps.drop (j + 1)) (fun q hq => hok.out q (List.mem_of_mem_drop hq))
            rw [List.length_drop, ← Hm.out] at h1
            omega
          rw [pes_drop hpj] at hrd
          obtain ⟨bS, rfl, hcS⟩ := hir.at (j := j) (x := (pe p).length) (by simp [hpj])
          have K1 := hid (value_pe wr _ p _ hok1 hrd (by omega))
          have K2 : Hid (∀ (w1 : World) (hh : Hd), Rep w1 (vlOf p.1 p.2) hh → Calls Try.prog 31 #[hh.v] w1 fun e w' => Below w1.heap.size w1 w' ∧ ∃ v', e = .returned (.tuple #[v', .int .i64 0]) ∧ Row w' w1.heap.size v' (pe p)) := hid (fun w1 hh r => put_rep w1 p hh hok1 r)
          have hbyP := hid (pe_byt hok1)
          have Hir := hid hir
          generalize pe p = P at *
          generalize hM : pes (ps.drop (j + 1)) = M at *
          have HM := hid hM
          have hrd' := hrd
          obtain ⟨a0, c0, rfl, hcap, -, -⟩ := hrd'
          have Hrd := hid hrd
          simp only [List.length_append] at hcap K1 Hrd ⊢
          have hbS := World.block_lt_of_cell? wr _ hcS
          clear hrd hir hbe hpj hok1 hM
          go_wp2_with (first
            | (go_at_call 23; (refine (Hid.out K1).mono ?_; rintro e w5 ⟨hb5, hh, rfl, hr5⟩; have hcS5 := (World.cell?_of_block (w := wr) (w' := w5) (a := ⟨bS, j, none⟩) (hb5.block bS hbS)).trans hcS; have hbS5 : bS < w5.heap.size := Nat.lt_of_lt_of_le hbS hb5.size; have K2' := hid (K2.out (w5.alloc (.cells hh.v.cells 45)) hh (rep_below hr5 (Nat.le_refl _) ((Below.refl _ _).alloc (Nat.le_refl _) _))); obtain ⟨qk, qi, qt, qr, qa, qn, qc⟩ := hh; simp only [Hd.v, Value.cells] at K2' ⊢))
            | (go_at_call 31; (refine (Hid.out K2').mono ?_; rintro e w6 ⟨hb6, v6, rfl, hr6⟩; have hbw6 : Below wr.heap.size wr w6 := (hb5.alloc hb5.size _).trans (hb6.mono (by have := hb5.size; simp; omega))))
            | (go_at_call 13; (refine (bytes_same _ _ _ P (hr6.rd hbyP.out) (by have := (Hrd.out.below (Nat.le_refl _) hbw6).to P.length (by simp); rw [List.take_left] at this; exact this)).mono ?_; rintro e w7 ⟨rfl, rfl⟩)))
          all_goals
            go_roundg g
            case measure => omega
            case rel => exact ⟨j + 1, by have := Hj.out; omega, by go_num, by
              rw [HM.out]
              have this := (Hrd.out.below (Nat.le_refl _) hbw6).sl P.length (by simp) rfl rfl rfl
              rw [List.drop_left, show P.length + M.length - P.length = M.length from by omega] at this
              by_cases hc : c0 = P.length
              · rw [if_pos hc, show c0 - P.length = 0 from by omega] at this
                first | exact this | (exfalso; omega)
              · rw [if_neg hc] at this
                first | exact this | (exfalso; omega), hBe.out.trans (hbw6.mono hBe.out.size), Hir.out.below (Nat.le_refl _) hbw6⟩
    | succ g =>
      have hlt : i < n := by omega
      clear hi
      obtain ⟨f, hfi⟩ : ∃ f, hs[i]? = some f := ⟨hs[i]'(by rw [← Hn.out]; exact hlt), by rw [List.getElem?_eq_getElem]⟩
      obtain ⟨b1, o1, rfl, e1⟩ := (hv.below (Nat.le_refl _) sA.be) i f hfi
      obtain ⟨fs, gs, dd⟩ := HD.out i f hfi
      have hc := hid (putValue_any wr f fs dd.hin dd.n (dd.rd.below (Nat.le_refl _) sA.be) dd.fin)
      have x0 := e1 0 (by omega)
      have x1 := e1 1 (by omega)
      have x2 := e1 2 (by omega)
      have x3 := e1 3 (by omega)
      have x4 := e1 4 (by omega)
      cases hp : plainB f fs with
      | false =>
        rw [hp] at hc
        obtain ⟨fk, fi, ft, fr, fa, fn, fc⟩ := f
        simp only [Hd.cs, List.getElem?_cons_zero, List.getElem?_cons_succ, Nat.add_zero] at x0 x1 x2 x3 x4
        simp only [Hd.v] at hc
        clear e1 hfi dd hp sA
        go_wp2_with (go_at_call 31; (refine (Hid.out hc).mono ?_; rintro e w9 ⟨hb9, v9, rfl, hr9⟩))
        go_roundg g
        case measure => omega
        case rel => exact ⟨i + 1, ps, by have := Hi.out; omega, by omega, by go_num, SA.out.below hBs hb9⟩
      | true =>
        have hok : POk (f, fs) := ⟨dd.hin, dd.n, dd.fin, hp⟩
        have Hok := hid hok
        rw [hp] at hc
        have hple := pe_le hok
        have hbyt := hid (pe_byt hok)
        have hpes := pes_le sA.ok
        have hpe : encV f fs = pe (f, fs) := rfl
        rw [hpe] at hc
        have hpl : ((ps.map fun p => (pe p).length)).length = ps.length := List.length_map ..
        generalize hP : pe (f, fs) = P at *
        have HP := hid hP
        generalize hPS : (ps.map fun p => (pe p).length) = PS at *
        have HPS := hid hPS
        obtain ⟨fk, fi, ft, fr, fa, fn, fc⟩ := f
        simp only [Hd.cs, List.getElem?_cons_zero, List.getElem?_cons_succ, Nat.add_zero] at x0 x1 x2 x3 x4
        simp only [Hd.v] at hc
        clear e1 hfi dd hp sA hpe hP hPS hok
        go_wp2_with (first
          | (go_at_call 31; (refine (Hid.out hc).mono ?_; rintro e w9 ⟨hb9, v9, rfl, hr9⟩; simp only [if_true] at hr9; obtain ⟨a9, c9, rfl, _⟩ := hr9.form; have s9 := SA.out.below hBs hb9; have hz9 := hb9.size))
          | (at_builtin; have hno := hg2; refine wpList_appI _ rfl _ _ rfl _ _ (by rfl) (by rfl) w.heap.size PS P.length (by rfl) (by have := s9.ri2 hg2; rw [HPS.out] at this; exact this) (by have := hg2.size; omega) (by omega) ?_; intro v3 w3 hr3 hg3)
          | (at_builtin; refine wpList_appR _ rfl _ _ rfl _ _ (by rfl) (by rfl) w.heap.size (pes ps) P s9.ra (hr9.rd hbyt.out) hr9.nilOf (by omega) (by omega) (by omega) ?_; intro v2 w2 hr2 hg2))
        go_roundg g
        case measure => omega
        case rel => exact ⟨i + 1, ps ++ [(⟨fk, fi, ft, fr, fa, fn, fc⟩, fs)], by have := Hi.out; omega, by simp; omega, by go_num, s9.more (Nat.le_trans hBs hz9) Hok.out (by rw [HP.out]; exact hr2) hg2 (by rw [HP.out, HPS.out]; exact hr3) hg3⟩
end Go.Proofs.Ytjfkcafocindjaa
