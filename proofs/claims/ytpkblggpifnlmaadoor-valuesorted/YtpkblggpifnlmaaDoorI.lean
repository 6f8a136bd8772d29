/- ValueSorted: the walk of the loops. -/
import Derived.Test.YtpkblggpifnlmaaDoorH
namespace Go.Proofs.YtpkblggpifnlmaaDoor
open Go.RowKit Go.Deep
set_option linter.unusedVariables false
set_option linter.unusedSimpArgs false

/- What stands between two rounds: the row holds the trees' heads, in whatever order. -/
structure St (w W : World) (g : Nat) (ts : List (VT 3)) (m : Nat) : Prop where
  row : m ≠ 0 → SRow W g (ts.map (hdT 3))
  len : ts.length = m
  rds : ∀ t ∈ ts, Rds 3 w t
  be : Below w.heap.size w W
theorem St.below {w W W' : World} {g : Nat} {ts : List (VT 3)} {m : Nat} (s : St w W g ts m) (k : Below W.heap.size W W') : St w W' g ts m := ⟨fun h => (s.row h).below k, s.len, s.rds, s.be.trans (k.mono s.be.size)⟩
theorem St.drew {w W : World} {g : Nat} {ts : List (VT 3)} {m : Nat} (s : St w W g ts m) : St w W.drew g ts m := ⟨s.row, s.len, s.rds, s.be.drew⟩
theorem St.cells {w W : World} {g : Nat} {ts : List (VT 3)} {m : Nat} (s : St w W g ts m) {j : Nat} {t : VT 3} (e : ts[j]? = some t) :
    W.cell? ⟨g, j * 5, none⟩ = some (.int .i64 (hdT 3 t).kind) ∧ W.cell? ⟨g, j * 5 + 1, none⟩ = some (.int .i64 (hdT 3 t).int) ∧ W.cell? ⟨g, j * 5 + 2, none⟩ = some (.string (hdT 3 t).text) ∧ W.cell? ⟨g, j * 5 + 3, none⟩ = some (.int .i64 (hdT 3 t).rc) ∧ W.cell? ⟨g, j * 5 + 4, none⟩ = some (.slice (hdT 3 t).a (hdT 3 t).n (hdT 3 t).cap) := by
  have e' : (ts.map (hdT 3))[j]? = some (hdT 3 t) := by simp [e]
  have hm : m ≠ 0 := by have := (List.getElem?_eq_some_iff.1 e).1; have := s.len; omega
  exact ⟨(s.row hm).cell e' 0 (by omega), (s.row hm).cell e' 1 (by omega), (s.row hm).cell e' 2 (by omega), (s.row hm).cell e' 3 (by omega), (s.row hm).cell e' 4 (by omega)⟩
theorem St.cmp {w W : World} {g : Nat} {ts : List (VT 3)} {m : Nat} (s : St w W g ts m) {j i : Nat} {t u : VT 3} (e1 : ts[j]? = some t) (e2 : ts[i]? = some u) :
    Calls Tryd.prog 9 #[(hdT 3 t).v, (hdT 3 u).v] W fun e w' => e = .returned (.int .i64 (cmpT 3 t u)) ∧ Below W.heap.size W w' :=
  compare_any 3 W t u (Rds.below 3 (s.rds t (List.mem_of_getElem? e1)) (Nat.le_refl _) s.be) (Rds.below 3 (s.rds u (List.mem_of_getElem? e2)) (Nat.le_refl _) s.be)
theorem SRow.drew {W : World} {g : Nat} {hs : List Hd} (s : SRow W g hs) : SRow W.drew g hs := s
theorem map_swp (ts : List (VT 3)) (k : Nat) (a b : VT 3) : (swp ts k a b).map (hdT 3) = ((ts.map (hdT 3)).set (k + 1) (hdT 3 b)).set k (hdT 3 a) := by simp [swp, List.map_set]
theorem mem_swp {ts : List (VT 3)} {k : Nat} {a b x : VT 3} (ha : a ∈ ts) (hb : b ∈ ts) (h : x ∈ swp ts k a b) : x ∈ ts := by
  rcases List.mem_or_eq_of_mem_set h with h | rfl
  · rcases List.mem_or_eq_of_mem_set h with h | rfl
    · exact h
    · exact hb
  · exact ha

theorem Grw.nilV {w w' : World} {v' : Value} (h : Grw w (.slice none 0 0) w' v') : Below w.heap.size w w' := (Below.refl _ w).grown h.1 (Nat.le_refl _) (fun k hk => by cases hk)
theorem vv_one (hs : List Hd) : ∀ u ∈ vv hs, u.oneCell' = true := by
  intro u hu
  simp only [vv, List.mem_flatMap] at hu
  obtain ⟨h, _, hu⟩ := hu
  exact cs_one h u hu
theorem run_appN (w : World) (ty : TypeId) (B : Nat) (a : Option Addr) (n cap : Nat) (hs : List Hd) (hn : n = hs.length) (hv : VRd w a hs) (hnil : a = none → n = 0 ∧ cap = 0) (hB : B ≤ w.heap.size) (hl : hs.length ≤ 1000) :
    ∃ v' w', (Builtin.append_ #[29, 29] ty #[.slice none 0 0, .slice a n cap]).run Tryd.prog w = .ok v' w' ∧ VRow w' B v' hs ∧ Grw w (.slice none 0 0) w' v' := by
  obtain ⟨i0, hi, hz0, hz1, hz2⟩ := info_parts info31
  cases a with
  | none =>
    obtain ⟨rfl, rfl⟩ := hnil rfl
    have : hs = [] := List.eq_nil_of_length_eq_zero hn.symm
    subst this
    exact ⟨_, w, run_append_owned_none w B 29 ty 31 i0 5 Tryd.underlying29 hi _ 0 [] (VRow.nil w B), VRow.nil w B, Grw.refl _ _⟩
  | some ad =>
    obtain ⟨v', w', hrun, hown, hg, _, hat⟩ := run_append_own_at (P := Tryd.prog) w B 29 ty 31 i0 zeroV 5 64 Tryd.underlying29 hi hz0 hz1 hz2 rfl (by decide) (.slice none 0 0) 0 [] (VRow.nil w B) ad n cap (vv hs) (by rw [vv_length, hn]) (by
      intro j x hx
      have hj : j < (vv hs).length := (List.getElem?_eq_some_iff.1 hx).1
      rw [vv_length] at hj
      have hlt : j / 5 < hs.length := by omega
      have hv' := vv_at hs (j / 5) hs[j / 5] (by simp [hlt]) (j % 5) (by omega)
      rw [show j / 5 * 5 + j % 5 = j from by omega, hx] at hv'
      obtain ⟨b, off, e, hc⟩ := hv (j / 5) hs[j / 5] (by simp [hlt])
      cases e
      rw [Addr.add_lit, hv']
      have := hc (j % 5) (by omega)
      rw [show off + j / 5 * 5 + j % 5 = off + j from by omega] at this
      exact this) (vv_one hs) (by unfold maxLen; omega) (by omega) hB
    refine ⟨v', w', hrun, ?_, hg, ?_⟩
    · unfold VRow
      rw [← hn]
      simpa using hown
    · rcases hat with hat | hat
      · exact .inl hat
      · exact .inr ⟨_, hat, Nat.le_refl _⟩
theorem wpList_appN {ops : Array Oper} {rest : List Oper} {o : Oper} {a : Act} {Q : Exit → Act → World → Prop} (w : World) (hgd : o.guard = none) (sl x : Operand)
    (ho : o.op = .call { callee := .builtin .append, args := #[sl, x], argTypes := #[29, 29] }) (ad : Option Addr) (n cap : Nat) (hs' : a.eval sl = .slice none 0 0) (hx : a.eval x = .slice ad n cap)
    (B : Nat) (hs : List Hd) (hn : n = hs.length) (hv : VRd w ad hs) (hnil : ad = none → n = 0 ∧ cap = 0) (hB : B ≤ w.heap.size) (hl : hs.length ≤ 1000)
    (k : ∀ v' w', VRow w' B v' hs → Grw w (.slice none 0 0) w' v' → wpList Tryd.prog ops Q rest (a.put o.dst v') w') :
    wpList Tryd.prog ops Q (o :: rest) a w := by
  refine wpList_plain hgd fun K hK => ?_
  obtain ⟨v', w', hrun, h2, h3⟩ := run_appN w o.type B ad n cap hs hn hv hnil hB hl
  unfold Oper.wp execOp
  simp only [ho, resolve, invoke, builtin, Sem.run_bind, Sem.run_pure, Result.andThen_ok, List.map_toArray, List.map_cons, List.map_nil, hs', hx, hrun]
  exact hK _ _ (k v' w' h2 h3)

set_option maxRecDepth 100000 in
set_option maxHeartbeats 800000 in
theorem sorted_go (w : World) (hk : Calls Tryd.prog 6 #[] w fun e w' => e = .returned (.bool true) ∧ Below w.heap.size w w') (a : Option Addr) (n cap : Nat) (hs : List Hd) (hn : n = hs.length) (hn2 : n ≤ 9223372036854775807) (hv : VRd w a hs) (hd : DeepAll w hs) (hnil : a = none → n = 0 ∧ cap = 0) :
    Calls Tryd.prog 5 #[.slice a n cap] w fun e w' => e = .returned (.bool true) ∧ Below w.heap.size w w' := by
  have Hn := hid hn
  have HD := hid hd
  have K1 := hid hk
  have K2 : Hid (∀ w1 : World, Below w.heap.size w w1 → Calls Tryd.prog 17 #[.slice a n cap] w1 fun e w' => SmL w1 hs e ∧ Below w1.heap.size w1 w') :=
    hid (fun w1 hb => smalls_any w1 a n cap hs hn hn2 (hv.below (Nat.le_refl _) hb) (fun j h e => by obtain ⟨fs, gs, d⟩ := hd j h e; exact ⟨fs, gs, d.below (Nat.le_refl _) hb⟩))
  have hN := hid hnil
  clear hn hd hnil
  go_enter Tryd.func5, Tryd.ntmps5
  go_wp2_with (first
    | (go_at_call 6; (refine (Hid.out K1).mono ?_; rintro e w1 ⟨rfl, hb1⟩))
    | (go_at_call 17; (refine (Hid.out K2 _ hb1).mono ?_; rintro e w2 ⟨⟨sb, rfl, hsb⟩, hb2⟩; have Hsb := hid hsb; have hbw : Below w.heap.size w w2 := hb1.trans (hb2.mono hb1.size); clear hsb; cases sb))
    | (at_builtin; (refine wpList_appN _ rfl _ _ rfl a n cap (by rfl) (by rfl) w1.heap.size hs Hn.out (hv.below (Nat.le_refl _) hbw) hN.out hb2.size (by have := (Hsb.out (by first | rfl | trivial)).1; omega) ?_; intro v3 w3 hr3 hg3)))
  · go_ret
    exact ⟨rfl, hb1.trans (hb2.mono hb1.size)⟩
  obtain ⟨hn3, hsm⟩ := Hsb.out (by first | rfl | trivial)
  have hb3 : Below w1.heap.size w1 w3 := hb2.trans (hg3.nilV.mono hb2.size)
  obtain ⟨ts0, hts, hrd⟩ := trees_of hsm
  obtain ⟨g, sa, cs, hform, hcs, hrow⟩ : ∃ g sa cs, v3 = .slice sa n cs ∧ n ≤ cs ∧ (n ≠ 0 → sa = some ⟨g, 0, none⟩ ∧ w1.heap.size ≤ g ∧ SRow w3 g hs) := by
    by_cases h0 : hs = []
    · obtain ⟨sa, cs, e, h⟩ := hr3.form
      have hn0 : n = 0 := by rw [Hn.out, h0]; rfl
      exact ⟨0, sa, cs, by rw [e, ← Hn.out], by rw [Hn.out]; exact h, fun h => absurd hn0 h⟩
    · obtain ⟨g, cs, e, h, hb, hs'⟩ := hr3.srow h0
      exact ⟨g, _, cs, by rw [e, ← Hn.out], by rw [Hn.out]; exact h, fun _ => ⟨rfl, hb, hs'⟩⟩
  subst hform
  have hn20 : n ≤ 20 := by rw [Hn.out]; exact hn3
  have has : n ≠ 0 → sa = some ⟨g, 0, none⟩ ∧ w1.heap.size ≤ g := fun h => ⟨(hrow h).1, (hrow h).2.1⟩
  have HS0 : Hid (St w1 w3 g ts0 n) := hid ⟨fun h => by rw [hts]; exact (hrow h).2.2, by have := congrArg List.length hts; simp at this; rw [this, Hn.out], hrd, hb3⟩
  have Has := hid has
  have Hb1 := hid hb1
  clear hrow hts hrd hr3 hg3 hb3 hb2 hbw hsm Hsb K1 K2 has hb1 hv HD hN hn3 Hn hn2
  go_loopg [4] (n - 1) (fun gg ii wr => ∃ (i : Nat) (ts : List (VT 3)), 1 ≤ i ∧ i ≤ 30 ∧ gg = n - i ∧ ii = .int .i64 (i : Int) ∧ St w1 wr g ts n ∧ Upto ts i)
  case atStart => exact ⟨1, ts0, by omega, by omega, rfl, rfl, HS0.out, fun p q h1 h2 => by omega⟩
  case round =>
    obtain ⟨i, ts, hi1, hi30, hgg, rfl, hst, hup⟩ := hrel
    have Hst := hid hst
    have Hup := hid hup
    cases gk with
    | zero =>
      have hle : n ≤ i := by omega
      have Hup' : Hid (Upto ts n) := hid (fun p q h1 h2 => hup p q h1 (by omega))
      have hnlt : ¬ i < n := by omega
      have hdec : decide (i < n) = false := by simp; omega
      clear hgg hup hst Hup
      go_wp2
      go_loopg [6] n (fun g3 ii3 wr3 => ∃ i3 : Nat, i3 + g3 = n ∧ ii3 = .int .i64 (i3 : Int) ∧ St w1 wr3 g ts n)
      case atStart => exact ⟨0, by omega, rfl, Hst.out⟩
      case round =>
        obtain ⟨i3, hi3, rfl, hst3⟩ := hrel
        have Hst3 := hid hst3
        have Hi3 := hid hi3
        clear hst3
        cases gk with
        | zero =>
          have hi3' : i3 = n := by omega
          clear hi3
          subst hi3'
          go_wp2
          go_ret
          exact ⟨rfl, Hb1.out.trans (Hst3.out.be.mono Hb1.out.size)⟩
        | succ g3 =>
          have hlt3 : i3 < n := by omega
          obtain ⟨rfl, hgb⟩ := Has.out (by omega)
          clear hi3
          go_wp2
          go_loopg [7] i3 (fun g4 kk4 wr4 => ∃ k4 : Nat, k4 + g4 = i3 ∧ kk4 = .int .i64 (k4 : Int) ∧ St w1 wr4 g ts n)
          case atStart => exact ⟨0, by omega, rfl, Hst3.out⟩
          case round =>
            obtain ⟨k4, hk4, rfl, hst4⟩ := hrel
            have Hst4 := hid hst4
            have Hk4 := hid hk4
            clear hst4
            cases gk with
            | zero =>
              have hk4' : k4 = i3 := by omega
              clear hk4
              subst hk4'
              go_wp2
              go_roundg g3
              case measure => omega
              case rel => exact ⟨k4 + 1, by have := Hi3.out; omega, by go_num, Hst4.out⟩
            | succ g4 =>
              have hlt4 : k4 < i3 := by omega
              clear hk4
              have hl2 := Hst4.out.len
              obtain ⟨tA, hA⟩ : ∃ t, ts[k4]? = some t := ⟨ts[k4]'(by omega), by rw [List.getElem?_eq_getElem]⟩
              obtain ⟨tB, hB⟩ : ∃ t, ts[i3]? = some t := ⟨ts[i3]'(by omega), by rw [List.getElem?_eq_getElem]⟩
              have hc := hid (Hst4.out.drew.cmp hA hB)
              obtain ⟨x0, x1, x2, x3, x4⟩ := Hst4.out.cells hA
              obtain ⟨y0, y1, y2, y3, y4⟩ := Hst4.out.cells hB
              have hcle := Hup'.out k4 i3 hlt4 hlt3 tA tB hA hB
              generalize hcv : cmpT 3 tA tB = cv at hc hcle
              generalize hu : hdT 3 tA = u at *
              generalize hvv : hdT 3 tB = v at *
              simp only [Hd.v] at hc
              have hcn : ¬ 0 < cv := by omega
              have hkn4 : k4 < n := by omega
              clear hA hB hcv hu hvv hl2
              go_wp2_with fail
              go_region_held3 (fun w2 => w2.cell? ⟨g, k4 * 5, none⟩ = some (.int .i64 u.kind) ∧ w2.cell? ⟨g, k4 * 5 + 1, none⟩ = some (.int .i64 u.int) ∧ w2.cell? ⟨g, k4 * 5 + 2, none⟩ = some (.string u.text) ∧ w2.cell? ⟨g, k4 * 5 + 3, none⟩ = some (.int .i64 u.rc) ∧ w2.cell? ⟨g, k4 * 5 + 4, none⟩ = some (.slice u.a u.n u.cap) ∧ w2.cell? ⟨g, i3 * 5, none⟩ = some (.int .i64 v.kind) ∧ w2.cell? ⟨g, i3 * 5 + 1, none⟩ = some (.int .i64 v.int) ∧ w2.cell? ⟨g, i3 * 5 + 2, none⟩ = some (.string v.text) ∧ w2.cell? ⟨g, i3 * 5 + 3, none⟩ = some (.int .i64 v.rc) ∧ w2.cell? ⟨g, i3 * 5 + 4, none⟩ = some (.slice v.a v.n v.cap)) (first | exact ⟨tt _ _ x0, tt _ _ x1, tt _ _ x2, tt _ _ x3, tt _ _ x4, tt _ _ y0, tt _ _ y1, tt _ _ y2, tt _ _ y3, tt _ _ y4⟩ | go_keep) ((go_at_call 9; (refine (Hid.out hc).mono ?_; rintro e w9 ⟨rfl, hB9⟩; have tt : ∀ (p : Addr) (v : Value), wr.cell? p = some v → w9.cell? p = some v := fun p v h => (hB9.cell (p := p) (World.block_lt_of_cell? wr p h)).trans h)))
              have Htt := hid tt
              clear tt hc
              go_wp2
              go_roundg g4
              case measure => omega
              case rel => exact ⟨k4 + 1, by have := Hk4.out; omega, by go_num, Hst4.out.drew.below hB9⟩
    | succ gg =>
      have hlt : i < n := by omega
      have Hgg := hid hgg
      clear hgg hst hup
      obtain ⟨rfl, hgb⟩ := Has.out (by omega)
      go_wp2
      go_loopg [5] i (fun g2 kk wr2 => ∃ ts2 : List (VT 3), kk = .int .i64 (g2 : Int) ∧ g2 ≤ i ∧ St w1 wr2 g ts2 n ∧ Srt ts2 g2 i)
      case atStart => exact ⟨ts, rfl, Nat.le_refl _, Hst.out, Hup.out.begin⟩
      case round =>
        obtain ⟨ts2, rfl, hki, hst2, hsr⟩ := hrel
        have Hst2 := hid hst2
        have Hsr := hid hsr
        clear hst2 hsr
        cases gk with
        | zero =>
          go_wp2_with fail
          go_region
          go_wp2
          go_roundg gg
          case measure => omega
          case rel => exact ⟨i + 1, ts2, by omega, by omega, by have := Hgg.out; omega, by go_num, Hst2.out.drew, Hsr.out.stop0⟩
        | succ k =>
          have hl2 := Hst2.out.len
          obtain ⟨tA, hA⟩ : ∃ t, ts2[k + 1]? = some t := ⟨ts2[k + 1]'(by omega), by rw [List.getElem?_eq_getElem]⟩
          obtain ⟨tB, hB⟩ : ∃ t, ts2[k]? = some t := ⟨ts2[k]'(by omega), by rw [List.getElem?_eq_getElem]⟩
          have hc := hid (Hst2.out.drew.cmp hA hB)
          obtain ⟨x0, x1, x2, x3, x4⟩ := Hst2.out.cells hA
          obtain ⟨y0, y1, y2, y3, y4⟩ := Hst2.out.cells hB
          have HA := hid hA
          have HB := hid hB
          generalize hcv : cmpT 3 tA tB = cv at hc
          have Hcv := hid hcv
          generalize hu : hdT 3 tA = u at *
          generalize hvv : hdT 3 tB = v at *
          simp only [Hd.v] at hc
          have Hu := hid hu
          have Hvv := hid hvv
          clear hA hB hcv hu hvv hl2
          have hkn : k + 1 < n := by omega
          have hkn2 : k < n := by omega
          generalize hk1 : k + 1 = k1 at *
          have Hk1 := hid hk1
          have hsub : (k1 : Int) - 1 = (k : Int) := by omega
          have hpos : 0 < k1 := by omega
          have hw1 : IntKind.i64.wrap ((k1 : Int) - 1) = (k : Int) := by rw [hsub, IntKind.wrap_i64]; omega
          have hw2 : wrap64 ((k1 : Int) - 1) = (k : Int) := by unfold wrap64; omega
          have hsubN : k1 - 1 = k := by omega
          have hcast : ((k1 - 1 : Nat) : Int) = (k : Int) := by omega
          have hlt9 : k1 - 1 < n := by omega
          have hs1 : (0 : Int) ≤ (k1 : Int) - 1 := by omega
          have hs2 : (k1 : Int) - 1 < (n : Int) := by omega
          have hs3 : ((k1 : Int) - 1).toNat = k := by omega
          have hin0 : (0 : Int) ≤ (k : Int) := by omega
          have hin1 : (k : Int) < (n : Int) := by omega
          have hin2 : (k1 : Int) < (n : Int) := by omega
          have hpos' : decide (0 < k1) = true := by simp [hpos]
          have hw3 : IntKind.i64.wrap (k : Int) = (k : Int) := by rw [IntKind.wrap_i64]; omega
          clear hsub hs1 hs2 hs3 hsubN hcast hlt9 hw2
          clear hk1
          go_wp2_with fail
          go_region_held3 (fun w2 => w2.cell? ⟨g, k1 * 5, none⟩ = some (.int .i64 u.kind) ∧ w2.cell? ⟨g, k1 * 5 + 1, none⟩ = some (.int .i64 u.int) ∧ w2.cell? ⟨g, k1 * 5 + 2, none⟩ = some (.string u.text) ∧ w2.cell? ⟨g, k1 * 5 + 3, none⟩ = some (.int .i64 u.rc) ∧ w2.cell? ⟨g, k1 * 5 + 4, none⟩ = some (.slice u.a u.n u.cap) ∧ w2.cell? ⟨g, k * 5, none⟩ = some (.int .i64 v.kind) ∧ w2.cell? ⟨g, k * 5 + 1, none⟩ = some (.int .i64 v.int) ∧ w2.cell? ⟨g, k * 5 + 2, none⟩ = some (.string v.text) ∧ w2.cell? ⟨g, k * 5 + 3, none⟩ = some (.int .i64 v.rc) ∧ w2.cell? ⟨g, k * 5 + 4, none⟩ = some (.slice v.a v.n v.cap)) (first | exact ⟨tt _ _ x0, tt _ _ x1, tt _ _ x2, tt _ _ x3, tt _ _ x4, tt _ _ y0, tt _ _ y1, tt _ _ y2, tt _ _ y3, tt _ _ y4⟩ | go_keep) ((go_at_call 9; (refine (Hid.out hc).mono ?_; rintro e w9 ⟨rfl, hB9⟩; have tt : ∀ (p : Addr) (v : Value), wr.cell? p = some v → w9.cell? p = some v := fun p v h => (hB9.cell (p := p) (World.block_lt_of_cell? wr p h)).trans h)))
          have st9 := hid (Hst2.out.drew.below hB9)
          replace x0 := tt _ _ x0
          replace x1 := tt _ _ x1
          replace x2 := tt _ _ x2
          replace x3 := tt _ _ x3
          replace x4 := tt _ _ x4
          replace y0 := tt _ _ y0
          replace y1 := tt _ _ y1
          replace y2 := tt _ _ y2
          replace y3 := tt _ _ y3
          replace y4 := tt _ _ y4
          clear tt hc
          by_cases hneg : cv < 0
          · have fr := (st9.out.row (by omega)).free
            have z0 := fr (k1 * 5)
            have z1 := fr (k1 * 5 + 1)
            have z2 := fr (k1 * 5 + 2)
            have z3 := fr (k1 * 5 + 3)
            have z4 := fr (k1 * 5 + 4)
            have s0 := fr (k * 5)
            have s1 := fr (k * 5 + 1)
            have s2 := fr (k * 5 + 2)
            have s3 := fr (k * 5 + 3)
            have s4 := fr (k * 5 + 4)
            clear fr
            have hne1 : ¬ k1 = k := by have := Hk1.out; omega
            have hne2 : ¬ k = k1 := by have := Hk1.out; omega
            have hne3 : ¬ k1 * 5 = k * 5 := by omega
            have hne4 : ¬ k * 5 = k1 * 5 := by omega
            have hn0 : n ≠ 0 := by omega
            have hl9 := hid st9.out.len
            go_wp2_with fail
            go_region
            go_wp2
            go_roundg k
            case measure => have := Hk1.out; omega
            case rel =>
              refine ⟨swp ts2 k tA tB, rfl, by have := Hk1.out; omega, ⟨fun h => ?_, ?_, ?_, ?_⟩, ?_⟩
              · rw [map_swp, Hu.out, Hvv.out, Hk1.out]
                have e1 := ((st9.out.row hn0).five (k := k1) (by rw [List.length_map, hl9.out]; omega) v).five (k := k) (by rw [List.length_set, List.length_map, hl9.out]; omega) u
                unfold Go.Proofs.YtpkblggpifnlmaaDoor.five at e1
                first | exact e1.drew | exact 5
              · simp [swp, hl9.out]
              · exact fun t ht => st9.out.rds t (mem_swp (List.mem_of_getElem? HA.out) (List.mem_of_getElem? HB.out) ht)
              · exact (five_below (five_below st9.out.be hgb v) hgb u).drew
              · have hA' := HA.out
                rw [← Hk1.out] at hA'
                exact (by have h := Hsr.out; rw [← Hk1.out] at h; exact h : Srt ts2 (k + 1) i).swap hA' HB.out (by have := Hk1.out; omega) (by rw [Hcv.out]; exact hneg)
          · go_wp2
            go_roundg gg
            case measure => omega
            case rel => exact ⟨i + 1, ts2, by omega, by omega, by have := Hgg.out; omega, by go_num, st9.out, (by have h := Hsr.out; rw [← Hk1.out] at h; exact h : Srt ts2 (k + 1) i).stop (by have := Hk1.out; omega) (by have := st9.out.len; omega) (fun a b ea eb => by rw [HB.out] at ea; rw [Hk1.out, HA.out] at eb; cases ea; cases eb; have h1 := (ord_cmpT 3).anti tB tA; have h2 := Hcv.out; omega)⟩
end Go.Proofs.YtpkblggpifnlmaaDoor
