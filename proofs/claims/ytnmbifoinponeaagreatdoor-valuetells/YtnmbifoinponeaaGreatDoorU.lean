/- Rows of names of the call's own; rightRecords. -/
import Derived.Test.YtnmbifoinponeaaGreatDoorT
namespace Go.Proofs.YtnmbifoinponeaaGreatDoor
open Go.RowKit Go.Deep Go.Shelf
set_option linter.unusedVariables false
set_option linter.unusedSimpArgs false

/- Rows of cells that a slice reads. -/
def CRd (w : World) (a : Option Addr) (k : Nat) (rows : List (List Value)) : Prop := ∀ (j : Nat) (r : List Value), rows[j]? = some r → ∃ b off, a = some ⟨b, off, none⟩ ∧ b < w.heap.size ∧ ∀ i, i < k → w.cell? ⟨b, off + j * k + i, none⟩ = r[i]?
theorem CRd.below {w w' : World} {a : Option Addr} {k : Nat} {rows : List (List Value)} {B : Nat} (h : CRd w a k rows) (hB : w.heap.size ≤ B) (kk : Below B w w') : CRd w' a k rows := by
  intro j r e
  obtain ⟨b, off, rfl, hb, hc⟩ := h j r e
  exact ⟨b, off, rfl, Nat.lt_of_lt_of_le hb kk.size, fun i hi => (kk.cell (p := ⟨b, off + j * k + i, none⟩) (Nat.lt_of_lt_of_le hb hB)).trans (hc i hi)⟩

/- A row of names that is the call's own. -/
def strV (s : ByteArray) : Value := .string s
def NRow (w : World) (B : Nat) (v : Value) (ss : List ByteArray) : Prop := w.ownsRow B 9 1 v ss.length (ss.map strV)
theorem NRow.nil (w : World) (B : Nat) : NRow w B (.slice none 0 0) [] := World.ownsRow_nil w B 9 1
theorem NRow.own {w B v ss} (h : NRow w B v ss) : ∀ k, v.ownBlock = some k → B ≤ k ∧ k < w.heap.size := World.ownsRow.lt h
theorem NRow.below {w w' : World} {B v ss} (h : NRow w B v ss) (k : Below w.heap.size w w') : NRow w' B v ss := by
  refine ⟨h.1, ?_⟩
  rcases h.2 with hn | ⟨g, cap, cur, rfl, hb, hgg, rest⟩
  · exact .inl hn
  · exact .inr ⟨g, cap, cur, rfl, hb, (k.block g (Array.getElem?_eq_some_iff.1 hgg).1).trans hgg, rest⟩
theorem NRow.form {w B v ss} (h : NRow w B v ss) : ∃ a cap, v = .slice a ss.length cap ∧ ss.length ≤ cap := by
  rcases h.2 with ⟨rfl, hn⟩ | ⟨g, cap, cur, rfl, hb, hgg, hc, rest⟩
  · exact ⟨none, 0, by rw [hn], by omega⟩
  · exact ⟨_, _, rfl, hc⟩
theorem NRow.rd {w : World} {B a n cap ss} (h : NRow w B (.slice a n cap) ss) (hz : ∀ s ∈ ss, s.size ≤ 9223372036854775807) : SRd w a ss := by
  intro j s e
  refine ⟨hz s (List.mem_of_getElem? e), ?_⟩
  rcases h.2 with ⟨e', hn⟩ | ⟨g, cap', cur, e', hb, hgg, hc, hm, hs', ht⟩
  · have : ss = [] := List.eq_nil_of_length_eq_zero hn
    subst this; simp at e
  · cases e'
    refine ⟨g, 0, rfl, ?_⟩
    have := World.ownsRow.cells h (g := g) rfl j (strV s) (by simp [e])
    rw [Addr.add_lit] at this
    exact this
theorem NRow.snoc {w' : World} {B : Nat} {v' : Value} {ss : List ByteArray} {s : ByteArray} (h : w'.ownsRow B 9 1 v' (ss.length + 1) (ss.map strV ++ [.string s])) : NRow w' B v' (ss ++ [s]) := by
  unfold NRow; simpa [strV] using h
theorem below_app {w w2 w3 : World} {o : Obj} {v : Value} {ss : List ByteArray} (hb : Below w.heap.size w w2) (hr : NRow w2 w.heap.size v ss) (hg : (w2.alloc o).grownBy w3 v.ownBlock) : Below w.heap.size w w3 :=
  (hb.alloc hb.size o).grown hg (by have := hb.size; simp; omega) (fun k hk => (hr.own k hk).1)
theorem take_map_snoc {α β : Type} {l : List α} {i : Nat} {x : α} (f : α → β) (e : l[i]? = some x) : (l.take (i + 1)).map f = (l.take i).map f ++ [f x] := by
  rw [List.take_add_one, e]; simp
theorem take_acc {α : Type} {l : List α} {i : Nat} {x : α} {p : α → Prop} (e : l[i]? = some x) (h : ∀ y ∈ l.take i, p y) (hx : p x) : ∀ y ∈ l.take (i + 1), p y := by
  rw [List.take_add_one, e]
  intro y hy
  rcases List.mem_append.1 hy with hy | hy
  · exact h y hy
  · simp at hy; subst hy; exact hx
theorem info9 : (Tryz.prog.info? 9).map (fun i => (i.zero, i.size, i.bytes)) = some (some (.string ⟨#[]⟩), 1, 16) := by kernel_rfl

structure RRd (w : World) (a : Option Addr) (n : Nat) (rs : List (RH × Rc)) : Prop where
  n1 : n = rs.length
  n2 : n ≤ 9223372036854775807
  rd : CRd w a 3 (rs.map fun p => p.1.cs)
  el : ∀ p ∈ rs, RcRd w p.1 p.2
theorem RRd.below {w w' : World} {a : Option Addr} {n : Nat} {rs : List (RH × Rc)} {B : Nat} (d : RRd w a n rs) (hB : w.heap.size ≤ B) (k : Below B w w') : RRd w' a n rs :=
  ⟨d.n1, d.n2, d.rd.below hB k, fun p hp => (d.el p hp).below hB k⟩
def recordsB (rs : List Rc) : Bool := decide (rs.length ≤ 16) && rs.all fieldsB && namesB grB (rs.map Rc.name)

set_option maxRecDepth 100000 in
set_option maxHeartbeats 1000000 in
theorem rightRecords_any (w : World) (a : Option Addr) (n cap : Nat) (rs : List (RH × Rc)) (d : RRd w a n rs) :
    Calls Tryz.prog 21 #[.slice a n cap] w fun e w' => e = .returned (.bool (recordsB (rs.map (·.2)))) ∧ Below w.heap.size w w' := by
  have D := hid d
  have hn2 := d.n2
  have Hn := hid d.n1
  obtain ⟨res, hres⟩ : ∃ res, res = recordsB (rs.map (·.2)) := ⟨_, rfl⟩
  rw [← hres]
  have Hres := hid hres
  obtain ⟨i0, hi, hz0, hz1, hz2⟩ := info_parts info9
  clear d hres
  rcases Nat.lt_or_ge 16 n with h1 | h1
  · have hF : res = false := by
      rw [Hres.out]; unfold recordsB
      have : ¬ (rs.map (·.2)).length ≤ 16 := by rw [List.length_map, ← Hn.out]; omega
      rw [decide_eq_false this]; rfl
    have HF := hid hF
    clear hF
    go_enter Tryz.func21, Tryz.ntmps21
    go_wp2
    go_ret
    exact ⟨by rw [HF.out]; rfl, Below.refl _ _⟩
  · go_enter Tryz.func21, Tryz.ntmps21
    go_wp2
    go_loopg [3, 11] n (fun g nv ii wr => ∃ i : Nat, i + g = n ∧ ii = .int .i64 (i : Int) ∧ Below w.heap.size w wr ∧ NRow wr w.heap.size nv ((rs.take i).map fun p => p.2.name) ∧ ∀ p ∈ rs.take i, fieldsB p.2 = true)
    case atStart => exact ⟨0, by omega, rfl, Below.refl _ _, NRow.nil _ _, fun p hp => by simp at hp⟩
    case round =>
      obtain ⟨i, hi', rfl, hbe, hrow, hAc⟩ := hrel
      have Hi := hid hi'
      have Hbe := hid hbe
      have HAc := hid hAc
      have Hrow := hid hrow
      obtain ⟨na, ncap, rfl, hnc⟩ := hrow.form
      clear hAc hbe hrow
      have hlen : ((rs.take i).map fun p => p.2.name).length = i := by rw [List.length_map, List.length_take, ← Hn.out]; omega
      rw [hlen] at Hrow hnc ⊢
      clear hlen
      cases gk with
      | zero =>
        have hin : i = n := by omega
        clear hi'
        subst hin
        have hall : rs.take i = rs := by rw [Hn.out]; exact List.take_length
        have K := hid (rightNames_40 wr na i ncap (rs.map fun p => p.2.name) (by rw [List.length_map]; exact Hn.out) hn2 hnc (by
          have h := Hrow.out; rw [hall] at h
          exact h.rd (fun s hs => by
            rw [List.mem_map] at hs
            obtain ⟨p, hp, rfl⟩ := hs
            have := (D.out.el p hp).ns; rw [(D.out.el p hp).nm] at this; exact this)))
        have hval : res = namesB grB (rs.map fun p => p.2.name) := by
          rw [Hres.out]; unfold recordsB
          have e1 : (rs.map (·.2)).length ≤ 16 := by rw [List.length_map, ← Hn.out]; exact h1
          have e2 : (rs.map (·.2)).all fieldsB = true := by
            rw [List.all_eq_true]; intro r hr
            rw [List.mem_map] at hr
            obtain ⟨p, hp, rfl⟩ := hr
            exact HAc.out p (by rw [hall]; exact hp)
          rw [decide_eq_true e1, e2, List.map_map]; rfl
        have Hval := hid hval
        clear hval hall
        go_wp2_with (go_at_call 46; (refine (Hid.out K).mono ?_; rintro e w2 ⟨rfl, hb2⟩))
        go_ret
        exact ⟨by rw [Hval.out]; rfl, Hbe.out.trans (hb2.mono Hbe.out.size)⟩
      | succ g =>
        have hlt : i < n := by omega
        clear hi'
        obtain ⟨p, hp⟩ : ∃ p, rs[i]? = some p := ⟨rs[i]'(by rw [← Hn.out]; exact hlt), by rw [List.getElem?_eq_getElem]⟩
        have DW := D.out.below (Nat.le_refl _) Hbe.out
        have el := DW.el p (List.mem_of_getElem? hp)
        obtain ⟨b1, o1, rfl, hb1, e1⟩ := DW.rd i p.1.cs (by simp [hp])
        have x0 := e1 0 (by omega)
        have x1 := e1 1 (by omega)
        have x2 := e1 2 (by omega)
        have Hp := hid hp
        have Hel := hid el
        have Hnm := hid el.nm
        clear e1 DW el hp hb1
        obtain ⟨h, r⟩ := p
        obtain ⟨nm, fa, fn, fc, ta, tn, tc⟩ := h
        simp only [RH.cs, List.getElem?_cons_zero, List.getElem?_cons_succ, Nat.add_zero] at x0 x1 x2
        have K1 : Hid (∀ w2 : World, Below wr.heap.size wr w2 → Calls Tryz.prog 45 #[.agg #[.string nm, .slice fa fn fc, .slice ta tn tc]] w2 fun e w' => e = .returned (.bool (fieldsB r)) ∧ Below w2.heap.size w2 w') := hid (fun w2 hb => rightFields_any w2 ⟨nm, fa, fn, fc, ta, tn, tc⟩ r (Hel.out.below (Nat.le_refl _) hb))
        have hba : Below wr.heap.size wr (wr.alloc (.cells #[.string nm, .slice fa fn fc, .slice ta tn tc] 45)) := (Below.refl _ _).alloc (Nat.le_refl _) _
        cases q1 : fieldsB r with
        | false =>
          rw [q1] at K1
          go_wp2_with (go_at_call 45; (refine (Hid.out K1 _ hba).mono ?_; rintro e w2 ⟨rfl, hb2⟩))
          go_ret
          refine ⟨?_, Hbe.out.trans ((hba.trans (hb2.mono hba.size)).mono Hbe.out.size)⟩
          have : res = false := by
            rw [Hres.out]; unfold recordsB
            have : (rs.map (·.2)).all fieldsB = false := by
              rw [List.all_eq_false]
              exact ⟨r, by rw [List.mem_map]; exact ⟨_, List.mem_of_getElem? Hp.out, rfl⟩, by simp [q1]⟩
            rw [this]; simp
          rw [this]; rfl
        | true =>
          rw [q1] at K1
          go_wp2_with (first
            | (go_at_call 45; (refine (Hid.out K1 _ hba).mono ?_; rintro e w2 ⟨rfl, hb2⟩; have hb02 : Below wr.heap.size wr w2 := hba.trans (hb2.mono hba.size); have bx := (hb2.block wr.heap.size (by simp)).trans (heap_alloc_new wr (.cells #[.string nm, .slice fa fn fc, .slice ta tn tc] 45)); have y0 : w2.cell? ⟨wr.heap.size, 0, none⟩ = some (.string nm) := cellOf bx 0; have hrow2 := Hrow.out.below hb02))
            | (at_builtin; ((refine wpList_append_own _ rfl _ _ 42 rfl w.heap.size 9 i0 (.string ⟨#[]⟩) 1 16 Tryz.underlying42 hi hz0 hz1 hz2 rfl (by decide) _ _ _ rfl (hrow2.below ((Below.refl _ w2).alloc (Nat.le_refl _) _)) ⟨w2.heap.size, 0, none⟩ 1 1 [.string nm] rfl rfl (cell_one_new _ _ _) (by simp [Value.oneCell']) (by rw [List.length_map, List.length_take]; unfold maxLen; omega) (by rw [List.length_map, List.length_take]; omega) (by have h1 := Hbe.out.size; have h2 := hb02.size; simp; omega) ?_; intro v3 w3 hrow3 hg3 _))))
          go_roundg g
          case measure => omega
          case rel => exact ⟨i + 1, by have := Hi.out; omega, by go_num, below_app (Hbe.out.trans (hb02.mono Hbe.out.size)) hrow2 hg3, by rw [take_map_snoc _ Hp.out, show r.name = nm from Hnm.out.symm]; exact NRow.snoc hrow3, take_acc Hp.out HAc.out q1⟩
end Go.Proofs.YtnmbifoinponeaaGreatDoor
