/- The statements' Small: it answers, whatever it is asked. -/
import Derived.Test.YtjfkcafocindjaaE2
import Derived.Deep.LoopGhost
namespace Go.Proofs.Ytjfkcafocindjaa
open Go.RowKit Go.Deep
set_option linter.unusedVariables false
set_option linter.unusedSimpArgs false

def SomeB (e : Ending) : Prop := ∃ b, e = .returned (.bool b)
structure Deep (w : World) (h : Hd) (fs : List Hd) (gs : Nat → List Hd) : Prop where
  hin : h.In
  n : h.n = fs.length
  rd : VRd w h.a fs
  fin : ∀ f ∈ fs, f.In
  gn : ∀ (j : Nat) (f : Hd), fs[j]? = some f → f.n = (gs j).length
  grd : ∀ (j : Nat) (f : Hd), fs[j]? = some f → VRd w f.a (gs j)
  gin : ∀ (j : Nat) (g : Hd), g ∈ gs j → g.In
theorem Deep.below {w w' : World} {h fs gs} {B : Nat} (d : Deep w h fs gs) (hB : w.heap.size ≤ B) (k : Below B w w') : Deep w' h fs gs :=
  ⟨d.hin, d.n, d.rd.below hB k, d.fin, d.gn, fun j f e => (d.grd j f e).below hB k, d.gin⟩

set_option maxRecDepth 10000 in
set_option maxHeartbeats 1000000 in
theorem small_any (w : World) (h : Hd) (fs : List Hd) (gs : Nat → List Hd) (d : Deep w h fs gs) :
    Calls Try.prog 29 #[h.v] w fun e w' => SomeB e ∧ Below w.heap.size w w' := by
  have hbx : Below w.heap.size w (w.alloc (.cells h.v.cells 45)) := (Below.refl _ _).alloc (Nat.le_refl _) _
  have D := hid (d.below (Nat.le_refl _) hbx)
  have ht := d.hin.t
  have hn := d.hin.n
  obtain ⟨kind, int, text, rc, a, n, cap⟩ := h
  simp only [Hd.v, Value.cells] at D ht hn ⊢
  have hBW := hid hbx
  simp only [Hd.v, Value.cells] at hBW
  clear d hbx
  rcases Nat.lt_or_ge 300 text.size with t1 | t1
  · go_enter Try.func29, Try.ntmps29
    go_wp2
    go_ret
    exact ⟨⟨_, rfl⟩, hBW.out⟩
  · rcases Nat.lt_or_ge 20 n with n1 | n1
    · go_enter Try.func29, Try.ntmps29
      go_wp2
      go_ret
      exact ⟨⟨_, rfl⟩, hBW.out⟩
    · have s4 : (w.alloc (.cells #[.int .i64 kind, .int .i64 int, .string text, .int .i64 rc, .slice a n cap] 45)).cell? ⟨w.heap.size, 4, none⟩ = some (.slice a n cap) := cellOf (heap_alloc_new w _) 4
      go_enter Try.func29, Try.ntmps29
      go_wp2
      generalize (w.alloc (.cells #[.int .i64 kind, .int .i64 int, .string text, .int .i64 rc, .slice a n cap] 45)) = W at *
      go_loopg [3] n (fun g ii wr => ∃ i : Nat, i + g = n ∧ ii = .int .i64 (i : Int) ∧ wr = W)
      case atStart => exact ⟨0, by omega, rfl, rfl⟩
      case round =>
        obtain ⟨i, hi, rfl, rfl⟩ := hrel
        have Hi := hid hi
        cases gk with
        | zero =>
          have hin' : i = n := by omega
          clear hi
          subst hin'
          go_wp2
          go_ret
          exact ⟨⟨_, rfl⟩, hBW.out⟩
        | succ g =>
          have hlt : i < n := by omega
          clear hi
          obtain ⟨f, hfi⟩ : ∃ f, fs[i]? = some f := ⟨fs[i]'(by have := D.out.n; simp only at this; omega), by rw [List.getElem?_eq_getElem]⟩
          obtain ⟨b1, o1, ea, e1⟩ := D.out.rd i f hfi
          simp only at ea
          subst ea
          have fin := D.out.fin f (List.mem_of_getElem? hfi)
          have gn := hid (D.out.gn i f hfi)
          have grd := hid (D.out.grd i f hfi)
          have gin := hid (D.out.gin i)
          have x2 := e1 2 (by omega)
          have x4 := e1 4 (by omega)
          obtain ⟨fk, fi, ft, fr, fa, fn, fc⟩ := f
          have ft1 := fin.t
          have fn1 := fin.n
          simp only [Hd.cs, List.getElem?_cons_zero, List.getElem?_cons_succ, Nat.add_zero] at x2 x4 ft1 fn1
          clear e1 hfi fin
          rcases Nat.lt_or_ge 300 ft.size with t2 | t2
          · go_wp2
            go_ret
            exact ⟨⟨_, rfl⟩, hBW.out⟩
          · rcases Nat.lt_or_ge 3 fn with n2 | n2
            · go_wp2
              go_ret
              exact ⟨⟨_, rfl⟩, hBW.out⟩
            · go_wp2
              go_loopg [4] fn (fun g2 kk wr2 => ∃ k : Nat, k + g2 = fn ∧ kk = .int .i64 (k : Int) ∧ wr2 = wr)
              case atStart => exact ⟨0, by omega, rfl, rfl⟩
              case round =>
                obtain ⟨k, hk, rfl, rfl⟩ := hrel
                have Hk := hid hk
                cases gk with
                | zero =>
                  have hk' : k = fn := by omega
                  clear hk
                  subst hk'
                  go_wp2
                  go_roundg g
                  case measure => omega
                  case rel => exact ⟨i + 1, by have := Hi.out; omega, by go_num, rfl⟩
                | succ g2 =>
                  have hlt2 : k < fn := by omega
                  clear hk
                  obtain ⟨q, hq⟩ : ∃ q, (gs i)[k]? = some q := ⟨(gs i)[k]'(by have := gn.out; (try simp only at this); omega), by rw [List.getElem?_eq_getElem]⟩
                  obtain ⟨b2, o2, ea2, e2⟩ := grd.out k q hq
                  (try simp only at ea2)
                  subst ea2
                  have qin := gin.out q (List.mem_of_getElem? hq)
                  have y2 := e2 2 (by omega)
                  have y4 := e2 4 (by omega)
                  obtain ⟨qk, qi, qt, qr, qa, qn, qc⟩ := q
                  have qt1 := qin.t
                  have qn1 := qin.n
                  simp only [Hd.cs, List.getElem?_cons_zero, List.getElem?_cons_succ, Nat.add_zero] at y2 y4 qt1 qn1
                  clear e2 hq qin
                  rcases Nat.lt_or_ge 0 qn with n3 | n3
                  · go_wp2
                    go_ret
                    exact ⟨⟨_, rfl⟩, hBW.out⟩
                  · rcases Nat.lt_or_ge 300 qt.size with t3 | t3
                    · go_wp2
                      go_ret
                      exact ⟨⟨_, rfl⟩, hBW.out⟩
                    · go_wp2
                      go_roundg g2
                      case measure => omega
                      case rel => exact ⟨k + 1, by have := Hk.out; omega, by go_num, rfl⟩

def SomeL (n : Nat) (e : Ending) : Prop := ∃ b, e = .returned (.bool b) ∧ (b = true → n ≤ 20)
def DeepAll (w : World) (hs : List Hd) : Prop := ∀ (j : Nat) (h : Hd), hs[j]? = some h → ∃ fs gs, Deep w h fs gs

set_option maxRecDepth 10000 in
set_option maxHeartbeats 1000000 in
theorem smalls_any (w : World) (a : Option Addr) (n cap : Nat) (hs : List Hd) (hn : n = hs.length) (hn2 : n ≤ 9223372036854775807) (hv : VRd w a hs) (hd : DeepAll w hs) :
    Calls Try.prog 30 #[.slice a n cap] w fun e w' => SomeL n e ∧ Below w.heap.size w w' := by
  have Hn := hid hn
  have HD := hid hd
  have hS := hid (fun w h fs gs d => small_any w h fs gs d)
  clear hn hd
  go_enter Try.func30, Try.ntmps30
  go_wp2
  go_loopg [3] n (fun g ii wr => ∃ i : Nat, i + g = n ∧ ii = .int .i64 (i : Int) ∧ Below w.heap.size w wr)
  case atStart => exact ⟨0, by omega, rfl, Below.refl _ _⟩
  case round =>
    obtain ⟨i, hi, rfl, hbel⟩ := hrel
    have Hi := hid hi
    cases gk with
    | zero =>
      have hin' : i = n := by omega
      clear hi
      subst hin'
      go_wp2
      go_ret
      exact ⟨⟨_, rfl, fun h => by simp at h; omega⟩, hbel⟩
    | succ g =>
      have hlt : i < n := by omega
      clear hi
      obtain ⟨f, hfi⟩ : ∃ f, hs[i]? = some f := ⟨hs[i]'(by rw [← Hn.out]; exact hlt), by rw [List.getElem?_eq_getElem]⟩
      obtain ⟨b1, o1, rfl, e1⟩ := (hv.below (Nat.le_refl _) hbel) i f hfi
      obtain ⟨fs, gs, dd⟩ := HD.out i f hfi
      have hc := hid (Hid.out hS wr f fs gs (dd.below (Nat.le_refl _) hbel))
      have x0 := e1 0 (by omega)
      have x1 := e1 1 (by omega)
      have x2 := e1 2 (by omega)
      have x3 := e1 3 (by omega)
      have x4 := e1 4 (by omega)
      obtain ⟨fk, fi, ft, fr, fa, fn, fc⟩ := f
      simp only [Hd.cs, List.getElem?_cons_zero, List.getElem?_cons_succ, Nat.add_zero] at x0 x1 x2 x3 x4
      simp only [Hd.v] at hc
      clear e1 hfi dd hS
      go_wp2_with (go_at_call 29; (refine (Hid.out hc).mono ?_; rintro e w9 ⟨⟨sb, rfl⟩, hB9⟩; cases sb))
      · go_ret
        exact ⟨⟨_, rfl, fun h => by cases h⟩, hbel.trans (hB9.mono hbel.size)⟩
      · go_roundg g
        case measure => omega
        case rel => exact ⟨i + 1, by have := Hi.out; omega, by go_num, hbel.trans (hB9.mono hbel.size)⟩
end Go.Proofs.Ytjfkcafocindjaa
