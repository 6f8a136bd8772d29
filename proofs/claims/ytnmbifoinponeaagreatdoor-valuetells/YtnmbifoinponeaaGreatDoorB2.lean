/- Values that aren't great: their texts, too. -/
import Derived.Test.YtnmbifoinponeaaGreatDoorA2
namespace Go.Proofs.YtnmbifoinponeaaGreatDoor
open Go.RowKit Go.Deep
set_option linter.unusedVariables false
set_option linter.unusedSimpArgs false

def SmB2 (h : Hd) (fs : List Hd) (gs : Nat → List Hd) : Prop := h.n ≤ 20 ∧ h.text.size ≤ 300 ∧ (∀ f ∈ fs, f.n ≤ 3 ∧ f.text.size ≤ 300) ∧ ∀ (j : Nat), j < fs.length → ∀ g ∈ gs j, g.n = 0 ∧ g.text.size ≤ 300
def SmP2 (h : Hd) (fs : List Hd) (gs : Nat → List Hd) (e : Ending) : Prop := ∃ b, e = .returned (.bool b) ∧ (b = true → SmB2 h fs gs)

def AccA2 (fs : List Hd) (gs : Nat → List Hd) (i : Nat) : Prop := ∀ (j : Nat) (f : Hd), j < i → fs[j]? = some f → (f.n ≤ 3 ∧ f.text.size ≤ 300) ∧ ∀ g ∈ gs j, g.n = 0 ∧ g.text.size ≤ 300
def AccB2 (l : List Hd) (k : Nat) : Prop := ∀ (j : Nat) (q : Hd), j < k → l[j]? = some q → q.n = 0 ∧ q.text.size ≤ 300
theorem AccB2.snoc {l : List Hd} {k : Nat} {q : Hd} (h : AccB2 l k) (e : l[k]? = some q) (hq : q.n = 0 ∧ q.text.size ≤ 300) : AccB2 l (k + 1) := fun j x hj ex => by
  rcases Nat.lt_or_ge j k with h1 | h1
  · exact h j x h1 ex
  · obtain rfl : j = k := by omega
    rw [e] at ex; cases ex; exact hq
theorem AccB2.all {l : List Hd} (h : AccB2 l l.length) : ∀ g ∈ l, g.n = 0 ∧ g.text.size ≤ 300 := fun g hg => by
  obtain ⟨j, hj⟩ := List.getElem?_of_mem hg
  exact h j g (List.getElem?_eq_some_iff.1 hj).1 hj
theorem AccA2.snoc {fs : List Hd} {gs : Nat → List Hd} {i : Nat} {f : Hd} (h : AccA2 fs gs i) (e : fs[i]? = some f) (h1 : f.n ≤ 3 ∧ f.text.size ≤ 300) (h2 : ∀ g ∈ gs i, g.n = 0 ∧ g.text.size ≤ 300) : AccA2 fs gs (i + 1) := fun j x hj ex => by
  rcases Nat.lt_or_ge j i with h3 | h3
  · exact h j x h3 ex
  · obtain rfl : j = i := by omega
    rw [e] at ex; cases ex; exact ⟨h1, h2⟩
theorem AccA2.all {fs : List Hd} {gs : Nat → List Hd} (h : AccA2 fs gs fs.length) : (∀ f ∈ fs, f.n ≤ 3 ∧ f.text.size ≤ 300) ∧ ∀ (j : Nat), j < fs.length → ∀ g ∈ gs j, g.n = 0 ∧ g.text.size ≤ 300 := by
  constructor
  · intro f hf
    obtain ⟨j, hj⟩ := List.getElem?_of_mem hf
    exact (h j f (List.getElem?_eq_some_iff.1 hj).1 hj).1
  · intro j hj
    exact (h j fs[j] hj (by simp [hj])).2

set_option maxRecDepth 10000 in
set_option maxHeartbeats 1000000 in
theorem small_txt (w : World) (h : Hd) (fs : List Hd) (gs : Nat → List Hd) (d : Deep w h fs gs) :
    Calls Tryz.prog 6 #[h.v] w fun e w' => SmP2 h fs gs e ∧ Below w.heap.size w w' := by
  have hbx : Below w.heap.size w (w.alloc (.cells h.v.cells 31)) := (Below.refl _ _).alloc (Nat.le_refl _) _
  have D := hid (d.below (Nat.le_refl _) hbx)
  have D0 := hid d
  have ht := d.hin.t
  have hn := d.hin.n
  obtain ⟨kind, int, text, rc, a, n, cap⟩ := h
  simp only [Hd.v, Value.cells] at D ht hn ⊢
  have hBW := hid hbx
  simp only [Hd.v, Value.cells] at hBW
  clear d hbx
  rcases Nat.lt_or_ge 300 text.size with t1 | t1
  · go_enter Tryz.func6, Tryz.ntmps6
    go_wp2
    go_ret
    exact ⟨⟨false, rfl, fun h => by cases h⟩, hBW.out⟩
  · rcases Nat.lt_or_ge 20 n with n1 | n1
    · go_enter Tryz.func6, Tryz.ntmps6
      go_wp2
      go_ret
      exact ⟨⟨false, rfl, fun h => by cases h⟩, hBW.out⟩
    · have s4 : (w.alloc (.cells #[.int .i64 kind, .int .i64 int, .string text, .int .i64 rc, .slice a n cap] 31)).cell? ⟨w.heap.size, 4, none⟩ = some (.slice a n cap) := cellOf (heap_alloc_new w _) 4
      go_enter Tryz.func6, Tryz.ntmps6
      go_wp2
      generalize (w.alloc (.cells #[.int .i64 kind, .int .i64 int, .string text, .int .i64 rc, .slice a n cap] 31)) = W at *
      go_loopg [3] n (fun g ii wr => ∃ i : Nat, i + g = n ∧ ii = .int .i64 (i : Int) ∧ wr = W ∧ AccA2 fs gs i)
      case atStart => exact ⟨0, by omega, rfl, rfl, fun j f hj => by omega⟩
      case round =>
        obtain ⟨i, hi, rfl, rfl, hAc⟩ := hrel
        have HAc := hid hAc
        clear hAc
        have Hi := hid hi
        cases gk with
        | zero =>
          have hin' : i = n := by omega
          clear hi
          subst hin'
          go_wp2
          go_ret
          refine ⟨⟨true, rfl, fun _ => ⟨n1, t1, ?_⟩⟩, hBW.out⟩
          have hA := HAc.out
          rw [show i = fs.length from D0.out.n] at hA
          exact hA.all
        | succ g =>
          have hlt : i < n := by omega
          clear hi
          obtain ⟨f, hfi⟩ : ∃ f, fs[i]? = some f := ⟨fs[i]'(by have := D.out.n; simp only at this; omega), by rw [List.getElem?_eq_getElem]⟩
          obtain ⟨b1, o1, ea, e1⟩ := D.out.rd i f hfi
          simp only at ea
          subst ea
          have fin := D.out.fin f (List.mem_of_getElem? hfi)
          have gn := hid (D.out.gn i f hfi)
          have grd := hid (D.out.grd i f hfi)
          have gin := hid (D.out.gin i)
          have x2 := e1 2 (by omega)
          have x4 := e1 4 (by omega)
          obtain ⟨fk, fi, ft, fr, fa, fn, fc⟩ := f
          have ft1 := fin.t
          have fn1 := fin.n
          simp only [Hd.cs, List.getElem?_cons_zero, List.getElem?_cons_succ, Nat.add_zero] at x2 x4 ft1 fn1
          have Hfi := hid hfi
          clear e1 hfi fin
          rcases Nat.lt_or_ge 300 ft.size with t2 | t2
          · go_wp2
            go_ret
            exact ⟨⟨false, rfl, fun h => by cases h⟩, hBW.out⟩
          · rcases Nat.lt_or_ge 3 fn with n2 | n2
            · go_wp2
              go_ret
              exact ⟨⟨false, rfl, fun h => by cases h⟩, hBW.out⟩
            · go_wp2
              go_loopg [4] fn (fun g2 kk wr2 => ∃ k : Nat, k + g2 = fn ∧ kk = .int .i64 (k : Int) ∧ wr2 = wr ∧ AccB2 (gs i) k)
              case atStart => exact ⟨0, by omega, rfl, rfl, fun j f hj => by omega⟩
              case round =>
                obtain ⟨k, hk, rfl, rfl, hAb⟩ := hrel
                have HAb := hid hAb
                clear hAb
                have Hk := hid hk
                cases gk with
                | zero =>
                  have hk' : k = fn := by omega
                  clear hk
                  subst hk'
                  go_wp2
                  go_roundg g
                  case measure => omega
                  case rel => exact ⟨i + 1, by have := Hi.out; omega, by go_num, rfl, HAc.out.snoc Hfi.out ⟨n2, t2⟩ (by have hB := HAb.out; rw [show k = (gs i).length from gn.out] at hB; exact hB.all)⟩
                | succ g2 =>
                  have hlt2 : k < fn := by omega
                  clear hk
                  obtain ⟨q, hq⟩ : ∃ q, (gs i)[k]? = some q := ⟨(gs i)[k]'(by have := gn.out; (try simp only at this); omega), by rw [List.getElem?_eq_getElem]⟩
                  obtain ⟨b2, o2, ea2, e2⟩ := grd.out k q hq
                  (try simp only at ea2)
                  subst ea2
                  have qin := gin.out q (List.mem_of_getElem? hq)
                  have y2 := e2 2 (by omega)
                  have y4 := e2 4 (by omega)
                  obtain ⟨qk, qi, qt, qr, qa, qn, qc⟩ := q
                  have qt1 := qin.t
                  have qn1 := qin.n
                  simp only [Hd.cs, List.getElem?_cons_zero, List.getElem?_cons_succ, Nat.add_zero] at y2 y4 qt1 qn1
                  have Hq := hid hq
                  clear e2 hq qin
                  rcases Nat.lt_or_ge 0 qn with n3 | n3
                  · go_wp2
                    go_ret
                    exact ⟨⟨false, rfl, fun h => by cases h⟩, hBW.out⟩
                  · rcases Nat.lt_or_ge 300 qt.size with t3 | t3
                    · go_wp2
                      go_ret
                      exact ⟨⟨false, rfl, fun h => by cases h⟩, hBW.out⟩
                    · go_wp2
                      go_roundg g2
                      case measure => omega
                      case rel => exact ⟨k + 1, by have := Hk.out; omega, by go_num, rfl, HAb.out.snoc Hq.out ⟨by simp only; omega, t3⟩⟩

end Go.Proofs.YtnmbifoinponeaaGreatDoor
