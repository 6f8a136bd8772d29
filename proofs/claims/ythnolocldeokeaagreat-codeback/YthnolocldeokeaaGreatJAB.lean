/- Rows of names of the call's own; rightRecords. -/
import Derived.Test.YthnolocldeokeaaGreatJAA
namespace Go.Proofs.YthnolocldeokeaaGreat
set_option maxRecDepth 100000
open Go.RowKit Go.Deep Go.Shelf
set_option linter.unusedVariables false
set_option linter.unusedSimpArgs false

/- Rows of cells that a slice reads. -/
def CRd (w : World) (a : Option Addr) (k : Nat) (rows : List (List Value)) : Prop := ∀ (j : Nat) (r : List Value), rows[j]? = some r → ∃ b off, a = some ⟨b, off, none⟩ ∧ b < w.heap.size ∧ ∀ i, i < k → w.cell? ⟨b, off + j * k + i, none⟩ = r[i]?
theorem CRd.below {w w' : World} {a : Option Addr} {k : Nat} {rows : List (List Value)} {B : Nat} (h : CRd w a k rows) (hB : w.heap.size ≤ B) (kk : Below B w w') : CRd w' a k rows := by
  intro j r e
  obtain ⟨b, off, rfl, hb, hc⟩ := h j r e
  exact ⟨b, off, rfl, Nat.lt_of_lt_of_le hb kk.size, fun i hi => (kk.cell (p := ⟨b, off + j * k + i, none⟩) (Nat.lt_of_lt_of_le hb hB)).trans (hc i hi)⟩

/- A row of names that is the call's own. -/
def strV (s : ByteArray) : Value := .string s
def NRow (w : World) (B : Nat) (v : Value) (ss : List ByteArray) : Prop := w.ownsRow B 9 1 v ss.length (ss.map strV)
theorem NRow.nil (w : World) (B : Nat) : NRow w B (.slice none 0 0) [] := World.ownsRow_nil w B 9 1
theorem NRow.own {w B v ss} (h : NRow w B v ss) : ∀ k, v.ownBlock = some k → B ≤ k ∧ k < w.heap.size := World.ownsRow.lt h
theorem NRow.below {w w' : World} {B v ss} (h : NRow w B v ss) (k : Below w.heap.size w w') : NRow w' B v ss := by
  refine ⟨h.1, ?_⟩
  rcases h.2 with hn | ⟨g, cap, cur, rfl, hb, hgg, rest⟩
  · exact .inl hn
  · exact .inr ⟨g, cap, cur, rfl, hb, (k.block g (Array.getElem?_eq_some_iff.1 hgg).1).trans hgg, rest⟩
theorem NRow.form {w B v ss} (h : NRow w B v ss) : ∃ a cap, v = .slice a ss.length cap ∧ ss.length ≤ cap := by
  rcases h.2 with ⟨rfl, hn⟩ | ⟨g, cap, cur, rfl, hb, hgg, hc, rest⟩
  · exact ⟨none, 0, by rw [hn], by omega⟩
  · exact ⟨_, _, rfl, hc⟩
theorem NRow.rd {w : World} {B a n cap ss} (h : NRow w B (.slice a n cap) ss) (hz : ∀ s ∈ ss, s.size ≤ 9223372036854775807) : SRd w a ss := by
  intro j s e
  refine ⟨hz s (List.mem_of_getElem? e), ?_⟩
  rcases h.2 with ⟨e', hn⟩ | ⟨g, cap', cur, e', hb, hgg, hc, hm, hs', ht⟩
  · have : ss = [] := List.eq_nil_of_length_eq_zero hn
    subst this; simp at e
  · cases e'
    refine ⟨g, 0, rfl, ?_⟩
    have := World.ownsRow.cells h (g := g) rfl j (strV s) (by simp [e])
    rw [Addr.add_lit] at this
    exact this
theorem NRow.snoc {w' : World} {B : Nat} {v' : Value} {ss : List ByteArray} {s : ByteArray} (h : w'.ownsRow B 9 1 v' (ss.length + 1) (ss.map strV ++ [.string s])) : NRow w' B v' (ss ++ [s]) := by
  unfold NRow; simpa [strV] using h
theorem below_app {w w2 w3 : World} {o : Obj} {v : Value} {ss : List ByteArray} (hb : Below w.heap.size w w2) (hr : NRow w2 w.heap.size v ss) (hg : (w2.alloc o).grownBy w3 v.ownBlock) : Below w.heap.size w w3 :=
  (hb.alloc hb.size o).grown hg (by have := hb.size; simp; omega) (fun k hk => (hr.own k hk).1)
theorem take_map_snoc {α β : Type} {l : List α} {i : Nat} {x : α} (f : α → β) (e : l[i]? = some x) : (l.take (i + 1)).map f = (l.take i).map f ++ [f x] := by
  rw [List.take_add_one, e]; simp
theorem take_acc {α : Type} {l : List α} {i : Nat} {x : α} {p : α → Prop} (e : l[i]? = some x) (h : ∀ y ∈ l.take i, p y) (hx : p x) : ∀ y ∈ l.take (i + 1), p y := by
  rw [List.take_add_one, e]
  intro y hy
  rcases List.mem_append.1 hy with hy | hy
  · exact h y hy
  · simp at hy; subst hy; exact hx
theorem info9 : (Tryz.prog.info? 9).map (fun i => (i.zero, i.size, i.bytes)) = some (some (.string ⟨#[]⟩), 1, 16) := by kernel_rfl

structure RRd (w : World) (a : Option Addr) (n : Nat) (rs : List (RH × Rc)) : Prop where
  n1 : n = rs.length
  n2 : n ≤ 9223372036854775807
  rd : CRd w a 3 (rs.map fun p => p.1.cs)
  el : ∀ p ∈ rs, RcRd w p.1 p.2
theorem RRd.below {w w' : World} {a : Option Addr} {n : Nat} {rs : List (RH × Rc)} {B : Nat} (d : RRd w a n rs) (hB : w.heap.size ≤ B) (k : Below B w w') : RRd w' a n rs :=
  ⟨d.n1, d.n2, d.rd.below hB k, fun p hp => (d.el p hp).below hB k⟩
def recordsB (rs : List Rc) : Bool := decide (rs.length ≤ 16) && rs.all fieldsB && namesB grB (rs.map Rc.name)

set_option maxRecDepth 100000 in
set_option maxHeartbeats 1000000 in
theorem rightRecords_any (w : World) (a : Option Addr) (n cap : Nat) (rs : List (RH × Rc)) (d : RRd w a n rs) :
    Calls Tryz.prog 91 #[.slice a n cap] w fun e w' => e = .returned (.bool (recordsB (rs.map (·.2)))) ∧ Below w.heap.size w w' := by
  have D := hid d
  have hn2 := d.n2
  have Hn := hid d.n1
  obtain ⟨res, hres⟩ : ∃ res, res = recordsB (rs.map (·.2)) := ⟨_, rfl⟩
  rw [← hres]
  have Hres := hid hres
  obtain ⟨i0, hi, hz0, hz1, hz2⟩ := info_parts info9
  clear d hres
  rcases Nat.lt_or_ge 16 n with h1 | h1
  · have hF : res = false := by
      rw [Hres.out]; unfold recordsB
      have : ¬ (rs.map (·.2)).length ≤ 16 := by rw [List.length_map, ← Hn.out]; omega
      rw [decide_eq_false this]; rfl
    have HF := hid hF
    clear hF
    go_enter Tryz.func91, Tryz.ntmps91
    go_wp2
    go_ret
    exact ⟨by rw [HF.out]; rfl, Below.refl _ _⟩
  · go_enter Tryz.func91, Tryz.ntmps91
    go_wp2
    go_loopg [3, 11] n (fun g nv ii wr => ∃ i : Nat, i + g = n ∧ ii = .int .i64 (i : Int) ∧ Below w.heap.size w wr ∧ NRow wr w.heap.size nv ((rs.take i).map fun p => p.2.name) ∧ ∀ p ∈ rs.take i, fieldsB p.2 = true)
    case atStart => exact ⟨0, by omega, rfl, Below.refl _ _, NRow.nil _ _, fun p hp => by simp at hp⟩
    case round =>
      obtain ⟨i, hi', rfl, hbe, hrow, hAc⟩ := hrel
      have Hi := hid hi'
      have Hbe := hid hbe
      have HAc := hid hAc
      have Hrow := hid hrow
      obtain ⟨na, ncap, rfl, hnc⟩ := hrow.form
      clear hAc hbe hrow
      have hlen : ((rs.take i).map fun p => p.2.name).length = i := by rw [List.length_map, List.length_take, ← Hn.out]; omega
      rw [hlen] at Hrow hnc ⊢
      clear hlen
      cases gk with
      | zero =>
        have hin : i = n := by omega
        clear hi'
        subst hin
        have hall : rs.take i = rs := by rw [Hn.out]; exact List.take_length
        have K := hid (rightNames_40 wr na i ncap (rs.map fun p => p.2.name) (by rw [List.length_map]; exact Hn.out) hn2 hnc (by
          have h := Hrow.out; rw [hall] at h
          exact h.rd (fun s hs => by
            rw [List.mem_map] at hs
            obtain ⟨p, hp, rfl⟩ := hs
            have := (D.out.el p hp).ns; rw [(D.out.el p hp).nm] at this; exact this)))
        have hval : res = namesB grB (rs.map fun p => p.2.name) := by
          rw [Hres.out]; unfold recordsB
          have e1 : (rs.map (·.2)).length ≤ 16 := by rw [List.length_map, ← Hn.out]; exact h1
          have e2 : (rs.map (·.2)).all fieldsB = true := by
            rw [List.all_eq_true]; intro r hr
            rw [List.mem_map] at hr
            obtain ⟨p, hp, rfl⟩ := hr
            exact HAc.out p (by rw [hall]; exact hp)
          rw [decide_eq_true e1, e2, List.map_map]; rfl
        have Hval := hid hval
        clear hval hall
        go_wp2_with (go_at_call 109; (refine (Hid.out K).mono ?_; rintro e w2 ⟨rfl, hb2⟩))
        go_ret
        exact ⟨by rw [Hval.out]; rfl, Hbe.out.trans (hb2.mono Hbe.out.size)⟩
      | succ g =>
        have hlt : i < n := by omega
        clear hi'
        obtain ⟨p, hp⟩ : ∃ p, rs[i]? = some p := ⟨rs[i]'(by rw [← Hn.out]; exact hlt), by rw [List.getElem?_eq_getElem]⟩
        have DW := D.out.below (Nat.le_refl _) Hbe.out
        have el := DW.el p (List.mem_of_getElem? hp)
        obtain ⟨b1, o1, rfl, hb1, e1⟩ := DW.rd i p.1.cs (by simp [hp])
        have x0 := e1 0 (by omega)
        have x1 := e1 1 (by omega)
        have x2 := e1 2 (by omega)
        have Hp := hid hp
        have Hel := hid el
        have Hnm := hid el.nm
        clear e1 DW el hp hb1
        obtain ⟨h, r⟩ := p
        obtain ⟨nm, fa, fn, fc, ta, tn, tc⟩ := h
        simp only [RH.cs, List.getElem?_cons_zero, List.getElem?_cons_succ, Nat.add_zero] at x0 x1 x2
        have K1 : Hid (∀ w2 : World, Below wr.heap.size wr w2 → Calls Tryz.prog 108 #[.agg #[.string nm, .slice fa fn fc, .slice ta tn tc]] w2 fun e w' => e = .returned (.bool (fieldsB r)) ∧ Below w2.heap.size w2 w') := hid (fun w2 hb => rightFields_any w2 ⟨nm, fa, fn, fc, ta, tn, tc⟩ r (Hel.out.below (Nat.le_refl _) hb))
        have hba : Below wr.heap.size wr (wr.alloc (.cells #[.string nm, .slice fa fn fc, .slice ta tn tc] 63)) := (Below.refl _ _).alloc (Nat.le_refl _) _
        cases q1 : fieldsB r with
        | false =>
          rw [q1] at K1
          go_wp2_with (go_at_call 108; (refine (Hid.out K1 _ hba).mono ?_; rintro e w2 ⟨rfl, hb2⟩))
          go_ret
          refine ⟨?_, Hbe.out.trans ((hba.trans (hb2.mono hba.size)).mono Hbe.out.size)⟩
          have : res = false := by
            rw [Hres.out]; unfold recordsB
            have : (rs.map (·.2)).all fieldsB = false := by
              rw [List.all_eq_false]
              exact ⟨r, by rw [List.mem_map]; exact ⟨_, List.mem_of_getElem? Hp.out, rfl⟩, by simp [q1]⟩
            rw [this]; simp
          rw [this]; rfl
        | true =>
          rw [q1] at K1
          go_wp2_with (first
            | (go_at_call 108; (refine (Hid.out K1 _ hba).mono ?_; rintro e w2 ⟨rfl, hb2⟩; have hb02 : Below wr.heap.size wr w2 := hba.trans (hb2.mono hba.size); have bx := (hb2.block wr.heap.size (by simp)).trans (heap_alloc_new wr (.cells #[.string nm, .slice fa fn fc, .slice ta tn tc] 63)); have y0 : w2.cell? ⟨wr.heap.size, 0, none⟩ = some (.string nm) := cellOf bx 0; have hrow2 := Hrow.out.below hb02))
            | (at_builtin; ((refine wpList_append_own _ rfl _ _ 28 rfl w.heap.size 9 i0 (.string ⟨#[]⟩) 1 16 Tryz.underlying28 hi hz0 hz1 hz2 rfl (by decide) _ _ _ rfl (hrow2.below ((Below.refl _ w2).alloc (Nat.le_refl _) _)) ⟨w2.heap.size, 0, none⟩ 1 1 [.string nm] rfl rfl (cell_one_new _ _ _) (by simp [Value.oneCell']) (by rw [List.length_map, List.length_take]; unfold maxLen; omega) (by rw [List.length_map, List.length_take]; omega) (by have h1 := Hbe.out.size; have h2 := hb02.size; simp; omega) ?_; intro v3 w3 hrow3 hg3 _))))
          go_roundg g
          case measure => omega
          case rel => exact ⟨i + 1, by have := Hi.out; omega, by go_num, below_app (Hbe.out.trans (hb02.mono Hbe.out.size)) hrow2 hg3, by rw [take_map_snoc _ Hp.out, show r.name = nm from Hnm.out.symm]; exact NRow.snoc hrow3, take_acc Hp.out HAc.out q1⟩
end Go.Proofs.YthnolocldeokeaaGreat

namespace Go.Proofs.YthnolocldeokeaaGreat
set_option maxRecDepth 100000
open Go.RowKit Go.Deep Go.Shelf
set_option linter.unusedVariables false
set_option linter.unusedSimpArgs false

def keyB (t : TyP) : Bool := decide (t.2 = 0) && (decide (t.1 = 1) || decide (t.1 = 2))
def typB (n : Nat) (t : TyP) : Bool := if t.1 = 4 then decide (0 ≤ t.2) && decide (t.2 < (n : Int)) else simB t
def noneB (t : TyP) : Bool := decide (t.1 = 0) && decide (t.2 = 0)
structure PH where
  ra : Option Addr
  rn : Nat
  rc : Nat
  ma : Option Addr
  mn : Nat
  mc : Nat
  fa : Option Addr
  fn : Nat
  fc : Nat
  ea : Option Addr
  en : Nat
  ec : Nat
def PH.v (h : PH) : Value := .agg #[.slice h.ra h.rn h.rc, .slice h.ma h.mn h.mc, .slice h.fa h.fn h.fc, .slice h.ea h.en h.ec]

theorem two_boxes (w : World) (c1 c2 : Array Value) (t1 t2 : TypeId) : Below w.heap.size w ((w.alloc (.cells c1 t1)).alloc (.cells c2 t2)) := ((Below.refl _ _).alloc (Nat.le_refl _) _).alloc (by simp) _

set_option maxHeartbeats 400000 in
theorem isType_any (w : World) (h : PH) (k r : Int) (hn : h.rn ≤ 9223372036854775807) :
    Calls Tryz.prog 112 #[h.v, ty k r] w fun e w' => e = .returned (.bool (typB h.rn (k, r))) ∧ Below w.heap.size w w' := by
  obtain ⟨ra, rn, rc, ma, mn, mc, fa, fn, fc, ea, en, ec⟩ := h
  simp only [PH.v, ty] at hn ⊢
  by_cases h4 : k = 4
  · subst h4
    rcases Int.lt_or_le r 0 with h1 | h1
    · have h1' : ¬ (0 ≤ r) := by omega
      have e0 : typB rn (4, r) = false := by simp [typB]; omega
      rw [e0]
      clear e0
      go_enter Tryz.func112, Tryz.ntmps112
      go_wp2
      go_ret
      exact ⟨rfl, two_boxes _ _ _ _ _⟩
    · rcases Int.lt_or_le r (rn : Int) with h2 | h2
      · have e0 : typB rn (4, r) = true := by simp [typB]; omega
        rw [e0]
        clear e0
        go_enter Tryz.func112, Tryz.ntmps112
        go_wp2
        go_ret
        exact ⟨by simp [h2], two_boxes _ _ _ _ _⟩
      · have h2' : ¬ (r < (rn : Int)) := by omega
        have e0 : typB rn (4, r) = false := by simp [typB]; omega
        rw [e0]
        clear e0
        go_enter Tryz.func112, Tryz.ntmps112
        go_wp2
        go_ret
        exact ⟨by simp [h2], two_boxes _ _ _ _ _⟩
  · have h4' : (k == 4) = false := by simpa using h4
    have e0 : typB rn (k, r) = simB (k, r) := by unfold typB; rw [if_neg h4]
    rw [e0]
    have K : Hid (∀ w' : World, Calls Tryz.prog 118 #[.agg #[.int .i64 k, .int .i64 r]] w' fun e w'' => e = .returned (.bool (simB (k, r))) ∧ Below w'.heap.size w' w'') := hid (fun w' => isSimple_any w' k r)
    clear e0
    generalize simB (k, r) = res at *
    go_enter Tryz.func112, Tryz.ntmps112
    go_wp2_with (go_at_call 118; (refine (Hid.out K _).mono ?_; rintro e w2 ⟨rfl, hb2⟩))
    go_ret
    exact ⟨rfl, (two_boxes w _ _ _ _).trans (hb2.mono (two_boxes w _ _ _ _).size)⟩

set_option maxHeartbeats 400000 in
theorem isNone_any (w : World) (k r : Int) : Calls Tryz.prog 114 #[ty k r] w fun e w' => e = .returned (.bool (noneB (k, r))) ∧ Below w.heap.size w w' := by
  unfold ty
  have hb : Below w.heap.size w (w.alloc (.cells #[.int .i64 k, .int .i64 r] 46)) := (Below.refl _ _).alloc (Nat.le_refl _) _
  by_cases h0 : r = 0
  · subst h0
    by_cases h1 : k = 0
    · subst h1
      go_enter Tryz.func114, Tryz.ntmps114
      go_wp2
      go_ret
      exact ⟨by simp [noneB], hb⟩
    · have h1' : (k == 0) = false := by simpa using h1
      go_enter Tryz.func114, Tryz.ntmps114
      go_wp2
      go_ret
      exact ⟨by simp [noneB, h1], hb⟩
  · have h0' : (r == 0) = false := by simpa using h0
    go_enter Tryz.func114, Tryz.ntmps114
    go_wp2
    all_goals
      go_ret
      exact ⟨by simp_all [noneB], hb⟩

theorem below_app2 {w w2 w3 : World} {o : Obj} {v : Value} {ss : List ByteArray} {B : Nat} (hB : w.heap.size ≤ B) (hb : Below w.heap.size w w2) (hr : NRow w2 B v ss) (hg : (w2.alloc o).grownBy w3 v.ownBlock) : Below w.heap.size w w3 :=
  (hb.alloc hb.size o).grown hg (by have := hb.size; simp; omega) (fun k hk => Nat.le_trans hB (hr.own k hk).1)
structure Mp where
  name : ByteArray
  key : TyP
  val : TyP
def Mp.cs (m : Mp) : List Value := [.string m.name, .int .i64 m.key.1, .int .i64 m.key.2, .int .i64 m.val.1, .int .i64 m.val.2]
structure MRd (w : World) (a : Option Addr) (n : Nat) (ms : List Mp) : Prop where
  n1 : n = ms.length
  n2 : n ≤ 9223372036854775807
  rd : CRd w a 5 (ms.map Mp.cs)
  ns : ∀ m ∈ ms, m.name.size ≤ 9223372036854775807
theorem MRd.below {w w' : World} {a : Option Addr} {n : Nat} {ms : List Mp} {B : Nat} (d : MRd w a n ms) (hB : w.heap.size ≤ B) (k : Below B w w') : MRd w' a n ms :=
  ⟨d.n1, d.n2, d.rd.below hB k, d.ns⟩
def mapB (n : Nat) (m : Mp) : Bool := keyB m.key && typB n m.val
def mapsB (n : Nat) (ms : List Mp) : Bool := decide (ms.length ≤ 16) && ms.all (mapB n) && namesB smB (ms.map Mp.name)

set_option maxRecDepth 100000 in
set_option maxHeartbeats 1000000 in
theorem rightMaps_any (w : World) (h : PH) (ms : List Mp) (d : MRd w h.ma h.mn ms) (hrn : h.rn ≤ 9223372036854775807) :
    Calls Tryz.prog 92 #[h.v] w fun e w' => e = .returned (.bool (mapsB h.rn ms)) ∧ Below w.heap.size w w' := by
  have D := hid d
  have hn2 := d.n2
  have Hn := hid d.n1
  have KT := hid (fun w' k r => isType_any w' h k r hrn)
  obtain ⟨res, hres⟩ : ∃ res, res = mapsB h.rn ms := ⟨_, rfl⟩
  rw [← hres]
  have Hres := hid hres
  obtain ⟨i0, hi, hz0, hz1, hz2⟩ := info_parts info9
  clear d hres
  obtain ⟨ra, rn, rc, a, n, cap, fa, fn, fc, ea, en, ec⟩ := h
  simp only [PH.v, ty] at hn2 KT ⊢
  have hb0 : Below w.heap.size w (w.alloc (.cells #[.slice ra rn rc, .slice a n cap, .slice fa fn fc, .slice ea en ec] 26)) := (Below.refl _ _).alloc (Nat.le_refl _) _
  have bx0 : (w.alloc (.cells #[.slice ra rn rc, .slice a n cap, .slice fa fn fc, .slice ea en ec] 26)).heap[w.heap.size]? = some (.cells #[.slice ra rn rc, .slice a n cap, .slice fa fn fc, .slice ea en ec] 26 (0, 0)) := heap_alloc_new w _
  have HB0 := hid hb0
  have HX0 := hid bx0
  clear hb0 bx0
  rcases Nat.lt_or_ge 16 n with h1 | h1
  · have hF : res = false := by
      rw [Hres.out]; unfold mapsB
      have : ¬ ms.length ≤ 16 := by rw [← show n = ms.length from Hn.out]; omega
      rw [decide_eq_false this]; rfl
    have HF := hid hF
    clear hF
    go_enter Tryz.func92, Tryz.ntmps92
    go_wp2
    go_ret
    exact ⟨by rw [HF.out]; rfl, HB0.out⟩
  · go_enter Tryz.func92, Tryz.ntmps92
    go_wp2
    go_loopg [3, 13] n (fun g nv ii wr => ∃ i : Nat, i + g = n ∧ ii = .int .i64 (i : Int) ∧ Below w.heap.size w wr ∧ wr.heap[w.heap.size]? = some (.cells #[.slice ra rn rc, .slice a n cap, .slice fa fn fc, .slice ea en ec] 26 (0, 0)) ∧ NRow wr (w.heap.size + 1) nv ((ms.take i).map Mp.name) ∧ ∀ m ∈ ms.take i, mapB rn m = true)
    case atStart => exact ⟨0, by omega, rfl, HB0.out, HX0.out, NRow.nil _ _, fun p hp => by simp at hp⟩
    case round =>
      obtain ⟨i, hi', rfl, hbe, hbx, hrow, hAc⟩ := hrel
      have Hi := hid hi'
      have Hbe := hid hbe
      have HAc := hid hAc
      have Hrow := hid hrow
      have Hbx := hid hbx
      obtain ⟨na, ncap, rfl, hnc⟩ := hrow.form
      have hlx : w.heap.size < wr.heap.size := (Array.getElem?_eq_some_iff.1 hbx).1
      clear hAc hbe hrow hbx
      have hlen : ((ms.take i).map Mp.name).length = i := by rw [List.length_map, List.length_take, ← show n = ms.length from Hn.out]; omega
      rw [hlen] at Hrow hnc ⊢
      clear hlen
      cases gk with
      | zero =>
        have hin : i = n := by omega
        clear hi'
        subst hin
        have hall : ms.take i = ms := by rw [show i = ms.length from Hn.out]; exact List.take_length
        have K := hid (rightNames_42 wr na i ncap (ms.map Mp.name) (by rw [List.length_map]; exact Hn.out) hn2 hnc (by
          have h := Hrow.out; rw [hall] at h
          exact h.rd (fun s hs => by
            rw [List.mem_map] at hs
            obtain ⟨p, hp, rfl⟩ := hs
            exact D.out.ns p hp)))
        have hval : res = namesB smB (ms.map Mp.name) := by
          rw [Hres.out]; unfold mapsB
          have e1 : ms.length ≤ 16 := by rw [← show i = ms.length from Hn.out]; exact h1
          have e2 : ms.all (mapB rn) = true := by
            rw [List.all_eq_true]; intro r hr
            exact HAc.out r (by rw [hall]; exact hr)
          rw [decide_eq_true e1, e2]; rfl
        have Hval := hid hval
        clear hval hall
        go_wp2_with (go_at_call 109; (refine (Hid.out K).mono ?_; rintro e w2 ⟨rfl, hb2⟩))
        go_ret
        exact ⟨by rw [Hval.out]; rfl, Hbe.out.trans (hb2.mono Hbe.out.size)⟩
      | succ g =>
        have hlt : i < n := by omega
        clear hi'
        obtain ⟨p, hp⟩ : ∃ p, ms[i]? = some p := ⟨ms[i]'(by rw [← show n = ms.length from Hn.out]; exact hlt), by rw [List.getElem?_eq_getElem]⟩
        have DW := D.out.below (Nat.le_refl _) Hbe.out
        obtain ⟨b1, o1, ea', hb1, e1⟩ := DW.rd i p.cs (by simp [hp])
        subst ea'
        have x0 := e1 0 (by omega)
        have x1 := e1 1 (by omega)
        have x2 := e1 2 (by omega)
        have x3 := e1 3 (by omega)
        have x4 := e1 4 (by omega)
        have Hp := hid hp
        clear e1 DW hp hb1
        obtain ⟨nm, ⟨k1, r1⟩, ⟨k2, r2⟩⟩ := p
        simp only [Mp.cs, List.getElem?_cons_zero, List.getElem?_cons_succ, Nat.add_zero] at x0 x1 x2 x3 x4
        have hba : Below wr.heap.size wr (wr.alloc (.cells #[.string nm, .int .i64 k1, .int .i64 r1, .int .i64 k2, .int .i64 r2] 67)) := (Below.refl _ _).alloc (Nat.le_refl _) _
        have K1 : Hid (∀ w' : World, Calls Tryz.prog 111 #[.agg #[.int .i64 k1, .int .i64 r1]] w' fun e w'' => e = .returned (.bool (keyB (k1, r1))) ∧ Below w'.heap.size w' w'') := hid (fun w' => isKey_any w' k1 r1)
        have K2 := hid (fun w' => KT.out w' k2 r2)
        have HN : Hid (mapB rn ⟨nm, (k1, r1), (k2, r2)⟩ = false → res = false) := hid (fun hq => by
          rw [Hres.out]; unfold mapsB
          have : ms.all (mapB rn) = false := by
            rw [List.all_eq_false]
            exact ⟨_, List.mem_of_getElem? Hp.out, by simp [hq]⟩
          rw [this]; simp)
        cases q1 : keyB (k1, r1) with
        | false =>
          rw [q1] at K1
          go_wp2_with (go_at_call 111; (refine (Hid.out K1 _).mono ?_; rintro e w2 ⟨rfl, hb2⟩))
          go_ret
          exact ⟨by rw [HN.out (by simp [mapB, q1])]; rfl, Hbe.out.trans ((hba.trans (hb2.mono hba.size)).mono Hbe.out.size)⟩
        | true =>
          rw [q1] at K1
          cases q2 : typB rn (k2, r2) with
          | false =>
            simp only [q2] at K2
            go_wp2_with (first
              | (go_at_call 111; (refine (Hid.out K1 _).mono ?_; rintro e w2 ⟨rfl, hb2⟩; have hb02 : Below wr.heap.size wr w2 := hba.trans (hb2.mono hba.size); have bx := (hb2.block wr.heap.size (by simp)).trans (heap_alloc_new wr (.cells #[.string nm, .int .i64 k1, .int .i64 r1, .int .i64 k2, .int .i64 r2] 67)); have y3 := cellOf bx 3; have y4 := cellOf bx 4; have by0 := (hb02.block _ hlx).trans Hbx.out; have z0 := cellOf by0 0; have z1 := cellOf by0 1; have z2 := cellOf by0 2; have z3 := cellOf by0 3; simp only [List.getElem?_toArray, List.getElem?_cons_zero, List.getElem?_cons_succ] at y3 y4 z0 z1 z2 z3; clear bx by0))
              | (go_at_call 112; (refine (Hid.out K2 _).mono ?_; rintro e w4 ⟨rfl, hb4⟩)))
            go_ret
            exact ⟨by rw [HN.out (by simp [mapB, q1, q2])]; rfl, Hbe.out.trans ((hb02.trans (hb4.mono hb02.size)).mono Hbe.out.size)⟩
          | true =>
            simp only [q2] at K2
            go_wp2_with (first
              | (go_at_call 111; (refine (Hid.out K1 _).mono ?_; rintro e w2 ⟨rfl, hb2⟩; have hb02 : Below wr.heap.size wr w2 := hba.trans (hb2.mono hba.size); have bx := (hb2.block wr.heap.size (by simp)).trans (heap_alloc_new wr (.cells #[.string nm, .int .i64 k1, .int .i64 r1, .int .i64 k2, .int .i64 r2] 67)); have y3 := cellOf bx 3; have y4 := cellOf bx 4; have by0 := (hb02.block _ hlx).trans Hbx.out; have z0 := cellOf by0 0; have z1 := cellOf by0 1; have z2 := cellOf by0 2; have z3 := cellOf by0 3; simp only [List.getElem?_toArray, List.getElem?_cons_zero, List.getElem?_cons_succ] at y3 y4 z0 z1 z2 z3; have Hbx2 := hid bx; clear bx by0))
              | (go_at_call 112; (refine (Hid.out K2 _).mono ?_; rintro e w4 ⟨rfl, hb4⟩; have hb04 : Below wr.heap.size wr w4 := hb02.trans (hb4.mono hb02.size); have bx4 := (hb4.block wr.heap.size (Array.getElem?_eq_some_iff.1 Hbx2.out).1).trans Hbx2.out; have y0 : w4.cell? ⟨wr.heap.size, 0, none⟩ = some (.string nm) := cellOf bx4 0; have hrow2 := Hrow.out.below hb04; clear bx4))
              | (at_builtin; (refine wpList_append_own _ rfl _ _ 28 rfl (w.heap.size + 1) 9 i0 (.string ⟨#[]⟩) 1 16 Tryz.underlying28 hi hz0 hz1 hz2 rfl (by decide) _ _ _ rfl (hrow2.below ((Below.refl _ w4).alloc (Nat.le_refl _) _)) ⟨w4.heap.size, 0, none⟩ 1 1 [.string nm] rfl rfl (cell_one_new _ _ _) (by simp [Value.oneCell']) (by rw [List.length_map, List.length_take]; unfold maxLen; omega) (by rw [List.length_map, List.length_take]; omega) (by have h1 := Hbe.out.size; have h2 := hb04.size; simp; omega) ?_; intro v3 w3 hrow3 hg3 _)))
            go_roundg g
            case measure => omega
            case rel => exact ⟨i + 1, by have := Hi.out; omega, by go_num, below_app2 (by omega) (Hbe.out.trans (hb04.mono Hbe.out.size)) hrow2 hg3, by
              rw [hg3.block _ (by have h1 := hb04.size; simp; omega) (fun e => by have := (hrow2.own _ e.symm).1; omega)]
              exact (Below.heap_alloc _ _ _ (by have h1 := hb04.size; omega)).trans ((hb04.block _ hlx).trans Hbx.out), by rw [take_map_snoc _ Hp.out]; exact NRow.snoc hrow3, take_acc Hp.out HAc.out (by simp [mapB, q1, q2])⟩
end Go.Proofs.YthnolocldeokeaaGreat

namespace Go.Proofs.YthnolocldeokeaaGreat
set_option maxRecDepth 100000
open Go.RowKit Go.Deep Go.Shelf
set_option linter.unusedVariables false
set_option linter.unusedSimpArgs false

structure Sg where
  name : ByteArray
  params : List TyP
  res : TyP
structure GH where
  name : ByteArray
  pa : Option Addr
  pn : Nat
  pc : Nat
  k : Int
  r : Int
def GH.cs (h : GH) : List Value := [.string h.name, .slice h.pa h.pn h.pc, .int .i64 h.k, .int .i64 h.r]
structure SgRd (w : World) (h : GH) (s : Sg) : Prop where
  nm : h.name = s.name
  ns : h.name.size ≤ 9223372036854775807
  pn : h.pn = s.params.length
  p2 : h.pn ≤ 9223372036854775807
  pr : TRd w h.pa s.params
  rs : (h.k, h.r) = s.res
theorem SgRd.below {w w' : World} {h : GH} {s : Sg} {B : Nat} (d : SgRd w h s) (hB : w.heap.size ≤ B) (k : Below B w w') : SgRd w' h s := ⟨d.nm, d.ns, d.pn, d.p2, d.pr.below hB k, d.rs⟩
structure GRd (w : World) (a : Option Addr) (n : Nat) (gs : List (GH × Sg)) : Prop where
  n1 : n = gs.length
  n2 : n ≤ 9223372036854775807
  rd : CRd w a 4 (gs.map fun p => p.1.cs)
  el : ∀ p ∈ gs, SgRd w p.1 p.2
theorem GRd.below {w w' : World} {a : Option Addr} {n : Nat} {gs : List (GH × Sg)} {B : Nat} (d : GRd w a n gs) (hB : w.heap.size ≤ B) (k : Below B w w') : GRd w' a n gs :=
  ⟨d.n1, d.n2, d.rd.below hB k, fun p hp => (d.el p hp).below hB k⟩
def sigB (n : Nat) (s : Sg) : Bool := decide (s.params.length ≤ 12) && (noneB s.res || typB n s.res) && s.params.all (typB n)
def sigsB (n : Nat) (ss : List Sg) : Bool := decide (ss.length ≤ 16) && ss.all (sigB n) && namesB smB (ss.map Sg.name)

set_option maxRecDepth 100000 in
set_option maxHeartbeats 2000000 in
theorem rightSigs_any (w : World) (h : PH) (a : Option Addr) (n cap : Nat) (gs : List (GH × Sg)) (d : GRd w a n gs) (hrn : h.rn ≤ 9223372036854775807) :
    Calls Tryz.prog 93 #[h.v, .slice a n cap] w fun e w' => e = .returned (.bool (sigsB h.rn (gs.map (·.2)))) ∧ Below w.heap.size w w' := by
  have D := hid d
  have hn2 := d.n2
  have Hn := hid d.n1
  have KT := hid (fun w' k r => isType_any w' h k r hrn)
  obtain ⟨res, hres⟩ : ∃ res, res = sigsB h.rn (gs.map (·.2)) := ⟨_, rfl⟩
  rw [← hres]
  have Hres := hid hres
  obtain ⟨i0, hi, hz0, hz1, hz2⟩ := info_parts info9
  clear d hres
  obtain ⟨ra, rn, rc, ma, mn, mc, fa, fn, fc, ea, en, ec⟩ := h
  simp only [PH.v, ty] at KT ⊢
  have hb0 : Below w.heap.size w (w.alloc (.cells #[.slice ra rn rc, .slice ma mn mc, .slice fa fn fc, .slice ea en ec] 26)) := (Below.refl _ _).alloc (Nat.le_refl _) _
  have bx0 : (w.alloc (.cells #[.slice ra rn rc, .slice ma mn mc, .slice fa fn fc, .slice ea en ec] 26)).heap[w.heap.size]? = some (.cells #[.slice ra rn rc, .slice ma mn mc, .slice fa fn fc, .slice ea en ec] 26 (0, 0)) := heap_alloc_new w _
  have HB0 := hid hb0
  have HX0 := hid bx0
  clear hb0 bx0
  rcases Nat.lt_or_ge 16 n with h1 | h1
  · have hF : res = false := by
      rw [Hres.out]; unfold sigsB
      have : ¬ (gs.map (·.2)).length ≤ 16 := by rw [List.length_map, ← Hn.out]; omega
      rw [decide_eq_false this]; rfl
    have HF := hid hF
    clear hF
    go_enter Tryz.func93, Tryz.ntmps93
    go_wp2
    go_ret
    exact ⟨by rw [HF.out]; rfl, HB0.out⟩
  · go_enter Tryz.func93, Tryz.ntmps93
    go_wp2
    go_loopg [5, 15] n (fun g nv ii wr => ∃ i : Nat, i + g = n ∧ ii = .int .i64 (i : Int) ∧ Below w.heap.size w wr ∧ wr.heap[w.heap.size]? = some (.cells #[.slice ra rn rc, .slice ma mn mc, .slice fa fn fc, .slice ea en ec] 26 (0, 0)) ∧ NRow wr (w.heap.size + 1) nv ((gs.take i).map fun p => p.2.name) ∧ ∀ p ∈ gs.take i, sigB rn p.2 = true)
    case atStart => exact ⟨0, by omega, rfl, HB0.out, HX0.out, NRow.nil _ _, fun p hp => by simp at hp⟩
    case round =>
      obtain ⟨i, hi', rfl, hbe, hbx, hrow, hAc⟩ := hrel
      obtain ⟨wo, hwo⟩ : ∃ wo, wo = wr := ⟨_, rfl⟩
      subst hwo
      have Hi := hid hi'
      have Hbe := hid hbe
      have HAc := hid hAc
      have Hrow := hid hrow
      have Hbx := hid hbx
      obtain ⟨na, ncap, rfl, hnc⟩ := hrow.form
      have hlx : w.heap.size < wo.heap.size := (Array.getElem?_eq_some_iff.1 hbx).1
      clear hAc hbe hrow hbx
      have hlen : ((gs.take i).map fun p => p.2.name).length = i := by rw [List.length_map, List.length_take, ← Hn.out]; omega
      rw [hlen] at Hrow hnc ⊢
      clear hlen
      cases gk with
      | zero =>
        have hin : i = n := by omega
        clear hi'
        subst hin
        have hall : gs.take i = gs := by rw [Hn.out]; exact List.take_length
        have K := hid (rightNames_42 wo na i ncap (gs.map fun p => p.2.name) (by rw [List.length_map]; exact Hn.out) hn2 hnc (by
          have h := Hrow.out; rw [hall] at h
          exact h.rd (fun s hs => by
            rw [List.mem_map] at hs
            obtain ⟨p, hp, rfl⟩ := hs
            have := (D.out.el p hp).ns; rw [(D.out.el p hp).nm] at this; exact this)))
        have hval : res = namesB smB (gs.map fun p => p.2.name) := by
          rw [Hres.out]; unfold sigsB
          have e1 : (gs.map (·.2)).length ≤ 16 := by rw [List.length_map, ← Hn.out]; exact h1
          have e2 : (gs.map (·.2)).all (sigB rn) = true := by
            rw [List.all_eq_true]; intro r hr
            rw [List.mem_map] at hr
            obtain ⟨p, hp, rfl⟩ := hr
            exact HAc.out p (by rw [hall]; exact hp)
          rw [decide_eq_true e1, e2, List.map_map]; rfl
        have Hval := hid hval
        clear hval hall
        go_wp2_with (go_at_call 109; (refine (Hid.out K).mono ?_; rintro e w2 ⟨rfl, hb2⟩))
        go_ret
        exact ⟨by rw [Hval.out]; rfl, Hbe.out.trans (hb2.mono Hbe.out.size)⟩
      | succ g =>
        have hlt : i < n := by omega
        clear hi'
        obtain ⟨p, hp⟩ : ∃ p, gs[i]? = some p := ⟨gs[i]'(by rw [← Hn.out]; exact hlt), by rw [List.getElem?_eq_getElem]⟩
        have DW := D.out.below (Nat.le_refl _) Hbe.out
        have el := DW.el p (List.mem_of_getElem? hp)
        obtain ⟨b1, o1, rfl, hb1, e1⟩ := DW.rd i p.1.cs (by simp [hp])
        have x0 := e1 0 (by omega)
        have x1 := e1 1 (by omega)
        have x2 := e1 2 (by omega)
        have x3 := e1 3 (by omega)
        have Hp := hid hp
        have Hel := hid el
        have Hnm := hid el.nm
        have Hpn := hid el.pn
        have hp2 := el.p2
        have Hrs := hid el.rs
        clear e1 DW el hp hb1
        obtain ⟨h, s⟩ := p
        obtain ⟨nm, pa, pn, pc, k, r⟩ := h
        simp only [GH.cs, List.getElem?_cons_zero, List.getElem?_cons_succ, Nat.add_zero] at x0 x1 x2 x3 hp2
        have hba : Below wo.heap.size wo (wo.alloc (.cells #[.string nm, .slice pa pn pc, .int .i64 k, .int .i64 r] 49)) := (Below.refl _ _).alloc (Nat.le_refl _) _
        have HN : Hid (sigB rn s = false → res = false) := hid (fun hq => by
          rw [Hres.out]; unfold sigsB
          have : (gs.map (·.2)).all (sigB rn) = false := by
            rw [List.all_eq_false]
            exact ⟨s, by rw [List.mem_map]; exact ⟨_, List.mem_of_getElem? Hp.out, rfl⟩, by simp [hq]⟩
          rw [this]; simp)
        rcases Nat.lt_or_ge 12 pn with h12 | h12
        · go_wp2
          go_ret
          refine ⟨?_, Hbe.out.trans (hba.mono Hbe.out.size)⟩
          rw [HN.out (by
            have : ¬ s.params.length ≤ 12 := by rw [← show pn = s.params.length from Hpn.out]; omega
            unfold sigB; rw [decide_eq_false this]; rfl)]
          rfl
        · have K1 : Hid (∀ w' : World, Calls Tryz.prog 114 #[.agg #[.int .i64 k, .int .i64 r]] w' fun e w'' => e = .returned (.bool (noneB (k, r))) ∧ Below w'.heap.size w' w'') := hid (fun w' => isNone_any w' k r)
          have K2 := hid (fun w' => KT.out w' k r)
          have e12 : s.params.length ≤ 12 := by rw [← show pn = s.params.length from Hpn.out]; exact h12
          have HE12 := hid e12
          clear e12
          cases q1 : noneB (k, r) with
          | true =>
            rw [q1] at K1
            have Hq : Hid ((noneB s.res || typB rn s.res) = true) := hid (by rw [← show (k, r) = s.res from Hrs.out, q1]; rfl)
            go_wp2_with (go_at_call 114; (refine (Hid.out K1 _).mono ?_; rintro e w4 ⟨rfl, hb4'⟩; have hb04 : Below wo.heap.size wo w4 := hba.trans (hb4'.mono hba.size); have bx4 := (hb4'.block wo.heap.size (by simp)).trans (heap_alloc_new wo (.cells #[.string nm, .slice pa pn pc, .int .i64 k, .int .i64 r] 49)); have y1 : w4.cell? ⟨wo.heap.size, 1, none⟩ = some (.slice pa pn pc) := cellOf bx4 1; have HX4 := hid bx4; clear bx4))
            go_loopg [39] pn (fun g2 jj wr => ∃ j : Nat, j + g2 = pn ∧ jj = .int .i64 (j : Int) ∧ Below w4.heap.size w4 wr ∧ ∀ t ∈ s.params.take j, typB rn t = true)
            case atStart => exact ⟨0, by omega, rfl, Below.refl _ _, fun t ht => by simp at ht⟩
            case round =>
              obtain ⟨j, hj', rfl, hbj, hAj⟩ := hrel
              have Hj := hid hj'
              have Hbj := hid hbj
              have HAj := hid hAj
              have hb0j : Below wo.heap.size wo wr := hb04.trans (hbj.mono hb04.size)
              have bxj := (hbj.block wo.heap.size (Array.getElem?_eq_some_iff.1 HX4.out).1).trans HX4.out
              have j0 : wr.cell? ⟨wo.heap.size, 0, none⟩ = some (.string nm) := cellOf bxj 0
              have byj := (hb0j.block _ hlx).trans Hbx.out
              have HBX := hid byj
              have HB0J := hid hb0j
              clear hAj hbj bxj byj hb0j
              cases gk with
              | zero =>
                have hjn : j = pn := by omega
                clear hj'
                subst hjn
                have hrow2 := Hrow.out.below HB0J.out
                have hpall : s.params.all (typB rn) = true := by
                  rw [List.all_eq_true]; intro t ht
                  exact HAj.out t (by rw [show j = s.params.length from Hpn.out, List.take_length]; exact ht)
                have HPA := hid hpall
                clear hpall
                go_wp2_with (at_builtin; (refine wpList_append_own _ rfl _ _ 28 rfl (w.heap.size + 1) 9 i0 (.string ⟨#[]⟩) 1 16 Tryz.underlying28 hi hz0 hz1 hz2 rfl (by decide) _ _ _ rfl (hrow2.below ((Below.refl _ wr).alloc (Nat.le_refl _) _)) ⟨wr.heap.size, 0, none⟩ 1 1 [.string nm] rfl rfl (cell_one_new _ _ _) (by simp [Value.oneCell']) (by rw [List.length_map, List.length_take]; unfold maxLen; omega) (by rw [List.length_map, List.length_take]; omega) (by have h1 := Hbe.out.size; have h2 := HB0J.out.size; simp; omega) ?_; intro v3 w3 hrow3 hg3 _))
                go_roundg g
                case measure => omega
                case rel => exact ⟨i + 1, by have := Hi.out; omega, by go_num, below_app2 (by omega) (Hbe.out.trans (HB0J.out.mono Hbe.out.size)) hrow2 hg3, by
                  rw [hg3.block _ (by have h1 := HB0J.out.size; simp; omega) (fun e => by have := (hrow2.own _ e.symm).1; omega)]
                  exact (Below.heap_alloc _ _ _ (by have h1 := HB0J.out.size; omega)).trans HBX.out, by rw [take_map_snoc _ Hp.out, show s.name = nm from Hnm.out.symm]; exact NRow.snoc hrow3, take_acc Hp.out HAc.out (by unfold sigB; rw [decide_eq_true HE12.out, Hq.out, HPA.out]; rfl)⟩
              | succ g2 =>
                have hjlt : j < pn := by omega
                clear hj'
                obtain ⟨t, ht⟩ : ∃ t, s.params[j]? = some t := ⟨s.params[j]'(by rw [← show pn = s.params.length from Hpn.out]; exact hjlt), by rw [List.getElem?_eq_getElem]⟩
                obtain ⟨b3, o3, epa, t0, t1⟩ := (Hel.out.below (Nat.le_refl _) HB0J.out).pr j t ht
                have Ht := hid ht
                have c0 := cellOf HBX.out 0
                have c1 := cellOf HBX.out 1
                have c2 := cellOf HBX.out 2
                have c3 := cellOf HBX.out 3
                simp only [List.getElem?_toArray, List.getElem?_cons_zero, List.getElem?_cons_succ] at c0 c1 c2 c3
                have al : ∀ (o : Obj) (p : Addr) (v : Value), wr.cell? p = some v → (wr.alloc o).cell? p = some v := fun o p v h => (World.cell?_of_block (Below.heap_alloc _ _ _ (World.block_lt_of_cell? wr p h))).trans h
                have c0' := fun o => al o _ _ c0
                have c1' := fun o => al o _ _ c1
                have c2' := fun o => al o _ _ c2
                have c3' := fun o => al o _ _ c3
                obtain ⟨tk, tr⟩ := t
                simp only at epa
                subst epa
                simp only at t0 t1
                have hbt : Below wr.heap.size wr (wr.alloc (.cells #[.int .i64 tk, .int .i64 tr] 46)) := (Below.refl _ _).alloc (Nat.le_refl _) _
                have K3 := hid (fun w' => KT.out w' tk tr)
                clear al ht
                cases q3 : typB rn (tk, tr) with
                | false =>
                  simp only [q3] at K3
                  go_wp2_with (go_at_call 112; (refine (Hid.out K3 _).mono ?_; rintro e w6 ⟨rfl, hb6⟩))
                  go_ret
                  refine ⟨?_, Hbe.out.trans ((HB0J.out.trans ((hbt.trans (hb6.mono hbt.size)).mono HB0J.out.size)).mono Hbe.out.size)⟩
                  rw [HN.out (by
                    have : s.params.all (typB rn) = false := by
                      rw [List.all_eq_false]
                      exact ⟨_, List.mem_of_getElem? Ht.out, by simp [q3]⟩
                    unfold sigB; rw [this]; simp)]
                  rfl
                | true =>
                  simp only [q3] at K3
                  go_wp2_with (go_at_call 112; (refine (Hid.out K3 _).mono ?_; rintro e w6 ⟨rfl, hb6⟩))
                  go_roundg g2
                  case measure => omega
                  case rel => exact ⟨j + 1, by have := Hj.out; omega, by go_num, Hbj.out.trans ((hbt.trans (hb6.mono hbt.size)).mono Hbj.out.size), take_acc Ht.out HAj.out q3⟩
          | false =>
            rw [q1] at K1
            cases q2 : typB rn (k, r) with
            | false =>
              simp only [q2] at K2
              go_wp2_with (first
                | (go_at_call 114; (refine (Hid.out K1 _).mono ?_; rintro e w2 ⟨rfl, hb2⟩; have hb02 : Below wo.heap.size wo w2 := hba.trans (hb2.mono hba.size); have bx := (hb2.block wo.heap.size (by simp)).trans (heap_alloc_new wo (.cells #[.string nm, .slice pa pn pc, .int .i64 k, .int .i64 r] 49)); have y2 := cellOf bx 2; have y3 := cellOf bx 3; have by0 := (hb02.block _ hlx).trans Hbx.out; have z0 := cellOf by0 0; have z1 := cellOf by0 1; have z2 := cellOf by0 2; have z3 := cellOf by0 3; simp only [List.getElem?_toArray, List.getElem?_cons_zero, List.getElem?_cons_succ] at y2 y3 z0 z1 z2 z3; clear bx by0))
                | (go_at_call 112; (refine (Hid.out K2 _).mono ?_; rintro e w4 ⟨rfl, hb4⟩)))
              go_ret
              refine ⟨?_, Hbe.out.trans ((hb02.trans (hb4.mono hb02.size)).mono Hbe.out.size)⟩
              rw [HN.out (by unfold sigB; rw [← show (k, r) = s.res from Hrs.out, q1, q2]; simp)]
              rfl
            | true =>
              simp only [q2] at K2
              have Hq : Hid ((noneB s.res || typB rn s.res) = true) := hid (by rw [← show (k, r) = s.res from Hrs.out, q2]; simp)
              go_wp2_with (first
                | (go_at_call 114; (refine (Hid.out K1 _).mono ?_; rintro e w2 ⟨rfl, hb2⟩; have hb02 : Below wo.heap.size wo w2 := hba.trans (hb2.mono hba.size); have bx := (hb2.block wo.heap.size (by simp)).trans (heap_alloc_new wo (.cells #[.string nm, .slice pa pn pc, .int .i64 k, .int .i64 r] 49)); have y2 := cellOf bx 2; have y3 := cellOf bx 3; have by0 := (hb02.block _ hlx).trans Hbx.out; have z0 := cellOf by0 0; have z1 := cellOf by0 1; have z2 := cellOf by0 2; have z3 := cellOf by0 3; simp only [List.getElem?_toArray, List.getElem?_cons_zero, List.getElem?_cons_succ] at y2 y3 z0 z1 z2 z3; have Hbx2 := hid bx; clear bx by0))
                | (go_at_call 112; (refine (Hid.out K2 _).mono ?_; rintro e w4 ⟨rfl, hb4⟩; have hb04 : Below wo.heap.size wo w4 := hb02.trans (hb4.mono hb02.size); have bx4 := (hb4.block wo.heap.size (Array.getElem?_eq_some_iff.1 Hbx2.out).1).trans Hbx2.out; have y1 : w4.cell? ⟨wo.heap.size, 1, none⟩ = some (.slice pa pn pc) := cellOf bx4 1; have HX4 := hid bx4; clear bx4)))
              go_loopg [39] pn (fun g2 jj wr => ∃ j : Nat, j + g2 = pn ∧ jj = .int .i64 (j : Int) ∧ Below w4.heap.size w4 wr ∧ ∀ t ∈ s.params.take j, typB rn t = true)
              case atStart => exact ⟨0, by omega, rfl, Below.refl _ _, fun t ht => by simp at ht⟩
              case round =>
                obtain ⟨j, hj', rfl, hbj, hAj⟩ := hrel
                have Hj := hid hj'
                have Hbj := hid hbj
                have HAj := hid hAj
                have hb0j : Below wo.heap.size wo wr := hb04.trans (hbj.mono hb04.size)
                have bxj := (hbj.block wo.heap.size (Array.getElem?_eq_some_iff.1 HX4.out).1).trans HX4.out
                have j0 : wr.cell? ⟨wo.heap.size, 0, none⟩ = some (.string nm) := cellOf bxj 0
                have byj := (hb0j.block _ hlx).trans Hbx.out
                have HBX := hid byj
                have HB0J := hid hb0j
                clear hAj hbj bxj byj hb0j
                cases gk with
                | zero =>
                  have hjn : j = pn := by omega
                  clear hj'
                  subst hjn
                  have hrow2 := Hrow.out.below HB0J.out
                  have hpall : s.params.all (typB rn) = true := by
                    rw [List.all_eq_true]; intro t ht
                    exact HAj.out t (by rw [show j = s.params.length from Hpn.out, List.take_length]; exact ht)
                  have HPA := hid hpall
                  clear hpall
                  go_wp2_with (at_builtin; (refine wpList_append_own _ rfl _ _ 28 rfl (w.heap.size + 1) 9 i0 (.string ⟨#[]⟩) 1 16 Tryz.underlying28 hi hz0 hz1 hz2 rfl (by decide) _ _ _ rfl (hrow2.below ((Below.refl _ wr).alloc (Nat.le_refl _) _)) ⟨wr.heap.size, 0, none⟩ 1 1 [.string nm] rfl rfl (cell_one_new _ _ _) (by simp [Value.oneCell']) (by rw [List.length_map, List.length_take]; unfold maxLen; omega) (by rw [List.length_map, List.length_take]; omega) (by have h1 := Hbe.out.size; have h2 := HB0J.out.size; simp; omega) ?_; intro v3 w3 hrow3 hg3 _))
                  go_roundg g
                  case measure => omega
                  case rel => exact ⟨i + 1, by have := Hi.out; omega, by go_num, below_app2 (by omega) (Hbe.out.trans (HB0J.out.mono Hbe.out.size)) hrow2 hg3, by
                    rw [hg3.block _ (by have h1 := HB0J.out.size; simp; omega) (fun e => by have := (hrow2.own _ e.symm).1; omega)]
                    exact (Below.heap_alloc _ _ _ (by have h1 := HB0J.out.size; omega)).trans HBX.out, by rw [take_map_snoc _ Hp.out, show s.name = nm from Hnm.out.symm]; exact NRow.snoc hrow3, take_acc Hp.out HAc.out (by unfold sigB; rw [decide_eq_true HE12.out, Hq.out, HPA.out]; rfl)⟩
                | succ g2 =>
                  have hjlt : j < pn := by omega
                  clear hj'
                  obtain ⟨t, ht⟩ : ∃ t, s.params[j]? = some t := ⟨s.params[j]'(by rw [← show pn = s.params.length from Hpn.out]; exact hjlt), by rw [List.getElem?_eq_getElem]⟩
                  obtain ⟨b3, o3, epa, t0, t1⟩ := (Hel.out.below (Nat.le_refl _) HB0J.out).pr j t ht
                  have Ht := hid ht
                  have c0 := cellOf HBX.out 0
                  have c1 := cellOf HBX.out 1
                  have c2 := cellOf HBX.out 2
                  have c3 := cellOf HBX.out 3
                  simp only [List.getElem?_toArray, List.getElem?_cons_zero, List.getElem?_cons_succ] at c0 c1 c2 c3
                  have al : ∀ (o : Obj) (p : Addr) (v : Value), wr.cell? p = some v → (wr.alloc o).cell? p = some v := fun o p v h => (World.cell?_of_block (Below.heap_alloc _ _ _ (World.block_lt_of_cell? wr p h))).trans h
                  have c0' := fun o => al o _ _ c0
                  have c1' := fun o => al o _ _ c1
                  have c2' := fun o => al o _ _ c2
                  have c3' := fun o => al o _ _ c3
                  obtain ⟨tk, tr⟩ := t
                  simp only at epa
                  subst epa
                  simp only at t0 t1
                  have hbt : Below wr.heap.size wr (wr.alloc (.cells #[.int .i64 tk, .int .i64 tr] 46)) := (Below.refl _ _).alloc (Nat.le_refl _) _
                  have K3 := hid (fun w' => KT.out w' tk tr)
                  clear al ht
                  cases q3 : typB rn (tk, tr) with
                  | false =>
                    simp only [q3] at K3
                    go_wp2_with (go_at_call 112; (refine (Hid.out K3 _).mono ?_; rintro e w6 ⟨rfl, hb6⟩))
                    go_ret
                    refine ⟨?_, Hbe.out.trans ((HB0J.out.trans ((hbt.trans (hb6.mono hbt.size)).mono HB0J.out.size)).mono Hbe.out.size)⟩
                    rw [HN.out (by
                      have : s.params.all (typB rn) = false := by
                        rw [List.all_eq_false]
                        exact ⟨_, List.mem_of_getElem? Ht.out, by simp [q3]⟩
                      unfold sigB; rw [this]; simp)]
                    rfl
                  | true =>
                    simp only [q3] at K3
                    go_wp2_with (go_at_call 112; (refine (Hid.out K3 _).mono ?_; rintro e w6 ⟨rfl, hb6⟩))
                    go_roundg g2
                    case measure => omega
                    case rel => exact ⟨j + 1, by have := Hj.out; omega, by go_num, Hbj.out.trans ((hbt.trans (hb6.mono hbt.size)).mono Hbj.out.size), take_acc Ht.out HAj.out q3⟩
end Go.Proofs.YthnolocldeokeaaGreat

namespace Go.Proofs.YthnolocldeokeaaGreat
set_option maxRecDepth 100000
open Go.RowKit Go.Deep Go.Shelf
set_option linter.unusedVariables false
set_option linter.unusedSimpArgs false

def nothingB (ss : List Sg) : Bool := ss.all fun s => noneB s.res
set_option maxRecDepth 100000 in
set_option maxHeartbeats 1000000 in
theorem answerNothing_any (w : World) (a : Option Addr) (n cap : Nat) (gs : List (GH × Sg)) (d : GRd w a n gs) :
    Calls Tryz.prog 94 #[.slice a n cap] w fun e w' => e = .returned (.bool (nothingB (gs.map (·.2)))) ∧ Below w.heap.size w w' := by
  have D := hid d
  have hn2 := d.n2
  have Hn := hid d.n1
  obtain ⟨res, hres⟩ : ∃ res, res = nothingB (gs.map (·.2)) := ⟨_, rfl⟩
  rw [← hres]
  have Hres := hid hres
  clear d hres
  go_enter Tryz.func94, Tryz.ntmps94
  go_wp2
  go_loopg [7] n (fun g ii wr => ∃ i : Nat, i + g = n ∧ ii = .int .i64 (i : Int) ∧ Below w.heap.size w wr ∧ ∀ p ∈ gs.take i, noneB p.2.res = true)
  case atStart => exact ⟨0, by omega, rfl, Below.refl _ _, fun p hp => by simp at hp⟩
  case round =>
    obtain ⟨i, hi', rfl, hbe, hAc⟩ := hrel
    have Hi := hid hi'
    have Hbe := hid hbe
    have HAc := hid hAc
    clear hAc hbe
    cases gk with
    | zero =>
      have hin : i = n := by omega
      clear hi'
      subst hin
      have hval : res = true := by
        rw [Hres.out]; unfold nothingB
        rw [List.all_eq_true]; intro r hr
        rw [List.mem_map] at hr
        obtain ⟨p, hp, rfl⟩ := hr
        exact HAc.out p (by rw [Hn.out, List.take_length]; exact hp)
      have Hval := hid hval
      clear hval
      go_wp2
      go_ret
      exact ⟨by rw [Hval.out]; rfl, Hbe.out⟩
    | succ g =>
      have hlt : i < n := by omega
      clear hi'
      obtain ⟨p, hp⟩ : ∃ p, gs[i]? = some p := ⟨gs[i]'(by rw [← Hn.out]; exact hlt), by rw [List.getElem?_eq_getElem]⟩
      have DW := D.out.below (Nat.le_refl _) Hbe.out
      have el := DW.el p (List.mem_of_getElem? hp)
      obtain ⟨b1, o1, rfl, hb1, e1⟩ := DW.rd i p.1.cs (by simp [hp])
      have x0 := e1 0 (by omega)
      have x1 := e1 1 (by omega)
      have x2 := e1 2 (by omega)
      have x3 := e1 3 (by omega)
      have Hp := hid hp
      have Hrs := hid el.rs
      clear e1 DW el hp hb1
      obtain ⟨h, s⟩ := p
      obtain ⟨nm, pa, pn, pc, k, r⟩ := h
      simp only [GH.cs, List.getElem?_cons_zero, List.getElem?_cons_succ, Nat.add_zero] at x0 x1 x2 x3
      have hba : Below wr.heap.size wr (wr.alloc (.cells #[.string nm, .slice pa pn pc, .int .i64 k, .int .i64 r] 49)) := (Below.refl _ _).alloc (Nat.le_refl _) _
      have K1 : Hid (∀ w' : World, Calls Tryz.prog 114 #[.agg #[.int .i64 k, .int .i64 r]] w' fun e w'' => e = .returned (.bool (noneB (k, r))) ∧ Below w'.heap.size w' w'') := hid (fun w' => isNone_any w' k r)
      cases q1 : noneB (k, r) with
      | false =>
        rw [q1] at K1
        go_wp2_with (go_at_call 114; (refine (Hid.out K1 _).mono ?_; rintro e w4 ⟨rfl, hb4⟩))
        go_ret
        have : res = false := by
          rw [Hres.out]; unfold nothingB; rw [List.all_eq_false]
          exact ⟨s, by rw [List.mem_map]; exact ⟨_, List.mem_of_getElem? Hp.out, rfl⟩, by rw [← show (k, r) = s.res from Hrs.out, q1]; simp⟩
        exact ⟨by rw [this]; rfl, Hbe.out.trans ((hba.trans (hb4.mono hba.size)).mono Hbe.out.size)⟩
      | true =>
        rw [q1] at K1
        go_wp2_with (go_at_call 114; (refine (Hid.out K1 _).mono ?_; rintro e w4 ⟨rfl, hb4⟩))
        go_roundg g
        case measure => omega
        case rel => exact ⟨i + 1, by have := Hi.out; omega, by go_num, Hbe.out.trans ((hba.trans (hb4.mono hba.size)).mono Hbe.out.size), take_acc Hp.out HAc.out (by rw [← show (k, r) = s.res from Hrs.out, q1])⟩

structure Pg where
  recs : List (RH × Rc)
  maps : List Mp
  funcs : List (GH × Sg)
  events : List (GH × Sg)
structure PRd (w : World) (h : PH) (p : Pg) : Prop where
  r : RRd w h.ra h.rn p.recs
  m : MRd w h.ma h.mn p.maps
  f : GRd w h.fa h.fn p.funcs
  e : GRd w h.ea h.en p.events
theorem PRd.below {w w' : World} {h : PH} {p : Pg} {B : Nat} (d : PRd w h p) (hB : w.heap.size ≤ B) (k : Below B w w') : PRd w' h p := ⟨d.r.below hB k, d.m.below hB k, d.f.below hB k, d.e.below hB k⟩
def Pg.rn (p : Pg) : Nat := p.recs.length
def rightB (p : Pg) : Bool := recordsB (p.recs.map (·.2)) && mapsB p.rn p.maps && sigsB p.rn (p.funcs.map (·.2)) && sigsB p.rn (p.events.map (·.2)) && nothingB (p.events.map (·.2))

set_option maxRecDepth 100000 in
set_option maxHeartbeats 1000000 in
theorem right_any (w : World) (h : PH) (p : Pg) (d : PRd w h p) : Calls Tryz.prog 57 #[h.v] w fun e w' => e = .returned (.bool (rightB p)) ∧ Below w.heap.size w w' := by
  have hrn := d.r.n2
  have e0 : h.rn = p.rn := d.r.n1
  have K1 := hid (fun w1 (hb : Below w.heap.size w w1) => rightRecords_any w1 h.ra h.rn h.rc p.recs (d.r.below (Nat.le_refl _) hb))
  have K2 := hid (fun w1 (hb : Below w.heap.size w w1) => rightMaps_any w1 h p.maps (d.m.below (Nat.le_refl _) hb) hrn)
  have K3 := hid (fun w1 (hb : Below w.heap.size w w1) => rightSigs_any w1 h h.fa h.fn h.fc p.funcs (d.f.below (Nat.le_refl _) hb) hrn)
  have K4 := hid (fun w1 (hb : Below w.heap.size w w1) => rightSigs_any w1 h h.ea h.en h.ec p.events (d.e.below (Nat.le_refl _) hb) hrn)
  have K5 := hid (fun w1 (hb : Below w.heap.size w w1) => answerNothing_any w1 h.ea h.en h.ec p.events (d.e.below (Nat.le_refl _) hb))
  rw [e0] at K2 K3 K4
  unfold rightB
  clear e0 hrn d
  generalize recordsB (p.recs.map (·.2)) = r1 at *
  generalize mapsB p.rn p.maps = r2 at *
  generalize sigsB p.rn (p.funcs.map (·.2)) = r3 at *
  generalize sigsB p.rn (p.events.map (·.2)) = r4 at *
  generalize nothingB (p.events.map (·.2)) = r5 at *
  obtain ⟨ra, rn, rc, ma, mn, mc, fa, fn, fc, ea, en, ec⟩ := h
  simp only [PH.v] at K1 K2 K3 K4 K5 ⊢
  obtain ⟨W0, hW0⟩ : ∃ W0, W0 = w.alloc (.cells #[.slice ra rn rc, .slice ma mn mc, .slice fa fn fc, .slice ea en ec] 26) := ⟨_, rfl⟩
  have hb0 : Below w.heap.size w W0 := by rw [hW0]; exact (Below.refl _ _).alloc (Nat.le_refl _) _
  have bx0 : W0.heap[w.heap.size]? = some (.cells #[.slice ra rn rc, .slice ma mn mc, .slice fa fn fc, .slice ea en ec] 26 (0, 0)) := by rw [hW0]; exact heap_alloc_new w _
  have HB := hid hb0
  have HX := hid bx0
  have FX : Hid (∀ w2 : World, Below W0.heap.size W0 w2 → w2.cell? ⟨w.heap.size, 0, none⟩ = some (.slice ra rn rc) ∧ w2.cell? ⟨w.heap.size, 1, none⟩ = some (.slice ma mn mc) ∧ w2.cell? ⟨w.heap.size, 2, none⟩ = some (.slice fa fn fc) ∧ w2.cell? ⟨w.heap.size, 3, none⟩ = some (.slice ea en ec) ∧ Below w.heap.size w w2) := hid (fun w2 hb => by
    have bx := (hb.block _ (Array.getElem?_eq_some_iff.1 bx0).1).trans bx0
    exact ⟨cellOf bx 0, cellOf bx 1, cellOf bx 2, cellOf bx 3, hb0.trans (hb.mono hb0.size)⟩)
  have TR : Hid (∀ {x y : World}, Below W0.heap.size W0 x → Below x.heap.size x y → Below W0.heap.size W0 y) := hid (fun h1 h2 => h1.trans (h2.mono h1.size))
  clear bx0 hb0
  cases r1 with
  | false =>
    go_enter Tryz.func57, Tryz.ntmps57
    go_wp2_with (go_at_call 91; (rw [← hW0]; refine (Hid.out K1 _ HB.out).mono ?_; rintro e w1 ⟨rfl, hb1⟩))
    go_ret
    exact ⟨rfl, HB.out.trans (hb1.mono HB.out.size)⟩
  | true =>
    cases r2 with
    | false =>
      go_enter Tryz.func57, Tryz.ntmps57
      go_wp2_with (first
        | (go_at_call 91; (rw [← hW0]; refine (Hid.out K1 _ HB.out).mono ?_; rintro e w1 ⟨rfl, hb1⟩; obtain ⟨p0, p1, p2, p3, pb⟩ := FX.out w1 hb1))
        | (go_at_call 92; (refine (Hid.out K2 _ pb).mono ?_; rintro e w2 ⟨rfl, hb2⟩)))
      go_ret
      exact ⟨rfl, pb.trans (hb2.mono pb.size)⟩
    | true =>
      cases r3 with
      | false =>
        go_enter Tryz.func57, Tryz.ntmps57
        go_wp2_with (first
          | (go_at_call 91; (rw [← hW0]; refine (Hid.out K1 _ HB.out).mono ?_; rintro e w1 ⟨rfl, hb1⟩; obtain ⟨p0, p1, p2, p3, pb⟩ := FX.out w1 hb1))
          | (go_at_call 92; (refine (Hid.out K2 _ pb).mono ?_; rintro e w2 ⟨rfl, hb2⟩; have hb02 := TR.out hb1 hb2; obtain ⟨q0, q1, q2, q3, qb⟩ := FX.out w2 hb02))
          | (go_at_call 93; (refine (Hid.out K3 _ qb).mono ?_; rintro e w3 ⟨rfl, hb3⟩)))
        go_ret
        exact ⟨rfl, qb.trans (hb3.mono qb.size)⟩
      | true =>
        cases r4 with
        | false =>
          go_enter Tryz.func57, Tryz.ntmps57
          go_wp2_with (first
            | (go_at_call 91; (rw [← hW0]; refine (Hid.out K1 _ HB.out).mono ?_; rintro e w1 ⟨rfl, hb1⟩; obtain ⟨p0, p1, p2, p3, pb⟩ := FX.out w1 hb1))
            | (go_at_call 92; (refine (Hid.out K2 _ pb).mono ?_; rintro e w2 ⟨rfl, hb2⟩; have hb02 := TR.out hb1 hb2; obtain ⟨q0, q1, q2, q3, qb⟩ := FX.out w2 hb02))
            | (go_at_call 93; (have hno := s0; refine (Hid.out K4 _ sb).mono ?_; rintro e w4 ⟨rfl, hb4⟩))
            | (go_at_call 93; (refine (Hid.out K3 _ qb).mono ?_; rintro e w3 ⟨rfl, hb3⟩; have hb03 := TR.out hb02 hb3; obtain ⟨s0, s1, s2, s3, sb⟩ := FX.out w3 hb03)))
          go_ret
          exact ⟨rfl, sb.trans (hb4.mono sb.size)⟩
        | true =>
          go_enter Tryz.func57, Tryz.ntmps57
          go_wp2_with (first
            | (go_at_call 91; (rw [← hW0]; refine (Hid.out K1 _ HB.out).mono ?_; rintro e w1 ⟨rfl, hb1⟩; obtain ⟨p0, p1, p2, p3, pb⟩ := FX.out w1 hb1))
            | (go_at_call 92; (refine (Hid.out K2 _ pb).mono ?_; rintro e w2 ⟨rfl, hb2⟩; have hb02 := TR.out hb1 hb2; obtain ⟨q0, q1, q2, q3, qb⟩ := FX.out w2 hb02))
            | (go_at_call 93; (have hno := s0; refine (Hid.out K4 _ sb).mono ?_; rintro e w4 ⟨rfl, hb4⟩; have hb04 := TR.out hb03 hb4; obtain ⟨t0, t1, t2, t3, tb⟩ := FX.out w4 hb04))
            | (go_at_call 93; (refine (Hid.out K3 _ qb).mono ?_; rintro e w3 ⟨rfl, hb3⟩; have hb03 := TR.out hb02 hb3; obtain ⟨s0, s1, s2, s3, sb⟩ := FX.out w3 hb03))
            | (go_at_call 94; (refine (Hid.out K5 _ tb).mono ?_; rintro e w5 ⟨rfl, hb5⟩)))
          go_ret
          exact ⟨rfl, tb.trans (hb5.mono tb.size)⟩
end Go.Proofs.YthnolocldeokeaaGreat

