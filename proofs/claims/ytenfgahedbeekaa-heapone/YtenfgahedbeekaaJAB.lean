/- The one statement of pairs that draws its order. -/
import Derived.Test.YtenfgahedbeekaaJAA
import Derived.RangeFuncNested
import Derived.RangeFuncBound
import Derived.RangeFuncCalls
import Derived.RangeFuncLeaves
import Derived.Shelf.Abstract
import Derived.Shelf.RegionOpen
import Derived.WalkKit
import Derived.OwnWalkIn
import Derived.TacticsInMore
import Derived.LoopNIn
import Derived.LoopIn
import Derived.BigRegionIn
import Derived.ProofKit
import Derived.OpenShut
import Derived.ChangeOld
import Derived.ChangeMaps5
import Derived.Deep.Slices
import Derived.Deep.RegionHeld3
import Derived.Deep.LoopGhost
namespace Go.Proofs.Ytenfgahedbeekaa
open Go.RowKit Go.Deep Go.Shelf
set_option linter.unusedVariables false
set_option linter.unusedSimpArgs false
attribute [local go_sem] Oper.semAt_some

abbrev pops : Array Oper := #[{ dst := some 13, op := Op.move (Operand.tmp 0), type := 44, pos := "value.go:82", after := #[], guard := none },
  { dst := some 14, op := Op.load 29 (Operand.tmp 1), type := 29, pos := "value.go:82", after := #[], guard := none },
  { dst := some 15, op := Op.move (Operand.tmp 4), type := 3, pos := "value.go:82", after := #[], guard := none },
  { dst := some 16, op := Op.indexAddr 29 (Operand.tmp 14) (Operand.tmp 15), type := 0, pos := "value.go:82", after := #[{ on := 1, ground := Ground.data }, { on := 2, ground := Ground.data }], guard := none },
  { dst := some 17, op := Op.load 31 (Operand.tmp 16), type := 31, pos := "value.go:82", after := #[{ on := 3, ground := Ground.data }], guard := none },
  { dst := some 18, op := Op.load 29 (Operand.tmp 2), type := 29, pos := "value.go:82", after := #[], guard := none },
  { dst := some 19, op := Op.move (Operand.tmp 4), type := 3, pos := "value.go:82", after := #[], guard := none },
  { dst := some 20, op := Op.indexAddr 29 (Operand.tmp 18) (Operand.tmp 19), type := 0, pos := "value.go:82", after := #[{ on := 5, ground := Ground.data }, { on := 6, ground := Ground.data }], guard := none },
  { dst := some 21, op := Op.load 31 (Operand.tmp 20), type := 31, pos := "value.go:82", after := #[{ on := 7, ground := Ground.data }], guard := none },
  { dst := some 22, op := Op.call { callee := Callee.value (Operand.tmp 13), args := #[Operand.tmp 17, Operand.tmp 21], argTypes := #[31, 31] }, type := 4, pos := "value.go:82", after := #[{ on := 0, ground := Ground.data }, { on := 4, ground := Ground.data }, { on := 8, ground := Ground.data }], guard := none },
  { dst := some 23, op := Op.unOp UnOp.not 4 (Operand.tmp 22), type := 4, pos := "value.go:82", after := #[{ on := 9, ground := Ground.data }], guard := none }]

theorem pops_ready : ∀ b0 b1 b2 b3 b4 b5 b6 b7 b8 : Bool, Region.ready .any pops #[b0, b1, b2, b3, b4, b5, b6, b7, b8, false, false] ≠ [] := by decide +kernel

set_option maxRecDepth 100000 in
set_option maxHeartbeats 2000000 in
theorem pops_reads (F : Fence) (n : Nat) (hro : F.round = none) (w : World) (l B1 B2 k b1 o1 n1 c1 b2 o2 n2 c2 : Nat) (h1 h2 : Hd) (p3 p5 p6 p7 p8 p9 p10 p11 p12 p24 : Value) (Q : Exit → Act → World → Prop) (hB1 : w.cell? ⟨B1, 0, none⟩ = some (.slice (some ⟨b1, o1, none⟩) n1 c1)) (hB2 : w.cell? ⟨B2, 0, none⟩ = some (.slice (some ⟨b2, o2, none⟩) n2 c2)) (k1 : k < n1) (k2 : k < n2) (l1 : n1 ≤ 1000) (l2 : n2 ≤ 1000)
    (x0 : w.cell? ⟨b1, o1 + k * 5, none⟩ = some (.int .i64 h1.kind)) (x1 : w.cell? ⟨b1, o1 + k * 5 + 1, none⟩ = some (.int .i64 h1.int)) (x2 : w.cell? ⟨b1, o1 + k * 5 + 2, none⟩ = some (.string h1.text)) (x3 : w.cell? ⟨b1, o1 + k * 5 + 3, none⟩ = some (.int .i64 h1.rc)) (x4 : w.cell? ⟨b1, o1 + k * 5 + 4, none⟩ = some (.slice h1.a h1.n h1.cap))
    (y0 : w.cell? ⟨b2, o2 + k * 5, none⟩ = some (.int .i64 h2.kind)) (y1 : w.cell? ⟨b2, o2 + k * 5 + 1, none⟩ = some (.int .i64 h2.int)) (y2 : w.cell? ⟨b2, o2 + k * 5 + 2, none⟩ = some (.string h2.text)) (y3 : w.cell? ⟨b2, o2 + k * 5 + 3, none⟩ = some (.int .i64 h2.rc)) (y4 : w.cell? ⟨b2, o2 + k * 5 + 4, none⟩ = some (.slice h2.a h2.n h2.cap))
    (hend : ∀ u22' u23', wpAnyIn F n Try.prog .any pops Q 2 #[true, true, true, true, true, true, true, true, true, false, false] { tmps := #[.func (.yield l) #[] #[], .pointer (some ⟨B1, 0, none⟩), .pointer (some ⟨B2, 0, none⟩), p3, .int .i64 (k : Int), p5, p6, p7, p8, p9, p10, p11, p12, .func (.yield l) #[] #[], .slice (some ⟨b1, o1, none⟩) n1 c1, .int .i64 (k : Int), .pointer (some ⟨b1, o1 + k * 5, none⟩), .agg #[.int .i64 h1.kind, .int .i64 h1.int, .string h1.text, .int .i64 h1.rc, .slice h1.a h1.n h1.cap], .slice (some ⟨b2, o2, none⟩) n2 c2, .int .i64 (k : Int), .pointer (some ⟨b2, o2 + k * 5, none⟩), .agg #[.int .i64 h2.kind, .int .i64 h2.int, .string h2.text, .int .i64 h2.rc, .slice h2.a h2.n h2.cap], u22', u23', p24], defers := [] } w) :
    ∀ (fuel : Nat) (q0 q1 q2 q3 q4 q5 q6 q7 q8 : Bool) (u13 u14 u15 u16 u17 u18 u19 u20 u21 u22 u23 : Value) (e0 : q0 = true → u13 = .func (.yield l) #[] #[]) (e1 : q1 = true → u14 = .slice (some ⟨b1, o1, none⟩) n1 c1) (e2 : q2 = true → u15 = .int .i64 (k : Int)) (e3 : q3 = true → u16 = .pointer (some ⟨b1, o1 + k * 5, none⟩)) (e4 : q4 = true → u17 = .agg #[.int .i64 h1.kind, .int .i64 h1.int, .string h1.text, .int .i64 h1.rc, .slice h1.a h1.n h1.cap]) (e5 : q5 = true → u18 = .slice (some ⟨b2, o2, none⟩) n2 c2) (e6 : q6 = true → u19 = .int .i64 (k : Int)) (e7 : q7 = true → u20 = .pointer (some ⟨b2, o2 + k * 5, none⟩)) (e8 : q8 = true → u21 = .agg #[.int .i64 h2.kind, .int .i64 h2.int, .string h2.text, .int .i64 h2.rc, .slice h2.a h2.n h2.cap]) (c3 : q3 = true → q1 = true ∧ q2 = true) (c4 : q4 = true → q3 = true) (c7 : q7 = true → q5 = true ∧ q6 = true) (c8 : q8 = true → q7 = true), (!q0).toNat + (!q1).toNat + (!q2).toNat + (!q3).toNat + (!q4).toNat + (!q5).toNat + (!q6).toNat + (!q7).toNat + (!q8).toNat + 2 = fuel → wpAnyIn F n Try.prog .any pops Q fuel #[q0, q1, q2, q3, q4, q5, q6, q7, q8, false, false] { tmps := #[.func (.yield l) #[] #[], .pointer (some ⟨B1, 0, none⟩), .pointer (some ⟨B2, 0, none⟩), p3, .int .i64 (k : Int), p5, p6, p7, p8, p9, p10, p11, p12, u13, u14, u15, u16, u17, u18, u19, u20, u21, u22, u23, p24], defers := [] } w := by
  intro fuel
  induction fuel with
  | zero => intro q0 q1 q2 q3 q4 q5 q6 q7 q8 u13 u14 u15 u16 u17 u18 u19 u20 u21 u22 u23 e0 e1 e2 e3 e4 e5 e6 e7 e8 c3 c4 c7 c8 hc; omega
  | succ fuel ih =>
  intro q0 q1 q2 q3 q4 q5 q6 q7 q8 u13 u14 u15 u16 u17 u18 u19 u20 u21 u22 u23 e0 e1 e2 e3 e4 e5 e6 e7 e8 c3 c4 c7 c8 hc
  refine ⟨fun h => absurd h (pops_ready _ _ _ _ _ _ _ _ _), fun j hj => ?_⟩
  match j, hj with
  | 0, hj =>
    obtain ⟨hj0, o, ho, hd⟩ := mem_ready.1 hj
    have hq : q0 = false := by simpa using hj0
    refine wpOpIn_step rfl (fun K hK => ?_)
    clear hd ho hj0 hj
    go_simp
    refine hK _ _ ?_
    exact ih true q1 q2 q3 q4 q5 q6 q7 q8 _ _ _ _ _ _ _ _ _ _ _ (fun _ => rfl) (by first | exact e1 | exact fun _ => rfl) (by first | exact e2 | exact fun _ => rfl) (by first | exact e3 | exact fun _ => rfl) (by first | exact e4 | exact fun _ => rfl) (by first | exact e5 | exact fun _ => rfl) (by first | exact e6 | exact fun _ => rfl) (by first | exact e7 | exact fun _ => rfl) (by first | exact e8 | exact fun _ => rfl) c3 c4 c7 c8 (by rw [hq] at hc; simp at hc ⊢; omega)
  | 1, hj =>
    obtain ⟨hj0, o, ho, hd⟩ := mem_ready.1 hj
    have hq : q1 = false := by simpa using hj0
    refine wpOpIn_step rfl (fun K hK => ?_)
    clear hd ho hj0 hj
    go_simp
    refine hK _ _ ?_
    exact ih q0 true q2 q3 q4 q5 q6 q7 q8 _ _ _ _ _ _ _ _ _ _ _ (by first | exact e0 | exact fun _ => rfl) (fun _ => rfl) (by first | exact e2 | exact fun _ => rfl) (by first | exact e3 | exact fun _ => rfl) (by first | exact e4 | exact fun _ => rfl) (by first | exact e5 | exact fun _ => rfl) (by first | exact e6 | exact fun _ => rfl) (by first | exact e7 | exact fun _ => rfl) (by first | exact e8 | exact fun _ => rfl) (fun h => ⟨rfl, (c3 h).2⟩) c4 c7 c8 (by rw [hq] at hc; simp at hc ⊢; omega)
  | 2, hj =>
    obtain ⟨hj0, o, ho, hd⟩ := mem_ready.1 hj
    have hq : q2 = false := by simpa using hj0
    refine wpOpIn_step rfl (fun K hK => ?_)
    clear hd ho hj0 hj
    go_simp
    refine hK _ _ ?_
    exact ih q0 q1 true q3 q4 q5 q6 q7 q8 _ _ _ _ _ _ _ _ _ _ _ (by first | exact e0 | exact fun _ => rfl) (by first | exact e1 | exact fun _ => rfl) (fun _ => rfl) (by first | exact e3 | exact fun _ => rfl) (by first | exact e4 | exact fun _ => rfl) (by first | exact e5 | exact fun _ => rfl) (by first | exact e6 | exact fun _ => rfl) (by first | exact e7 | exact fun _ => rfl) (by first | exact e8 | exact fun _ => rfl) (fun h => ⟨(c3 h).1, rfl⟩) c4 c7 c8 (by rw [hq] at hc; simp at hc ⊢; omega)
  | 3, hj =>
    obtain ⟨hj0, o, ho, hd⟩ := mem_ready.1 hj
    have hq : q3 = false := by simpa using hj0
    obtain rfl : _ = o := Option.some.inj ho
    have z1 : q1 = true := by simpa using hd { on := 1, ground := Ground.data } (by simp) rfl
    have f1 := e1 z1
    have z2 : q2 = true := by simpa using hd { on := 2, ground := Ground.data } (by simp) rfl
    have f2 := e2 z2
    subst f1 f2
    refine wpOpIn_step rfl (fun K hK => ?_)
    clear hd ho hj0 hj
    go_simp
    refine hK _ _ ?_
    exact ih q0 q1 q2 true q4 q5 q6 q7 q8 _ _ _ _ _ _ _ _ _ _ _ (by first | exact e0 | exact fun _ => rfl) (by first | exact e1 | exact fun _ => rfl) (by first | exact e2 | exact fun _ => rfl) (fun _ => rfl) (by first | exact e4 | exact fun _ => rfl) (by first | exact e5 | exact fun _ => rfl) (by first | exact e6 | exact fun _ => rfl) (by first | exact e7 | exact fun _ => rfl) (by first | exact e8 | exact fun _ => rfl) (fun _ => ⟨z1, z2⟩) (fun _ => rfl) c7 c8 (by rw [hq] at hc; simp at hc ⊢; omega)
  | 4, hj =>
    obtain ⟨hj0, o, ho, hd⟩ := mem_ready.1 hj
    have hq : q4 = false := by simpa using hj0
    obtain rfl : _ = o := Option.some.inj ho
    have z3 : q3 = true := by simpa using hd { on := 3, ground := Ground.data } (by simp) rfl
    have f3 := e3 z3
    subst f3
    refine wpOpIn_step rfl (fun K hK => ?_)
    clear hd ho hj0 hj
    go_simp
    refine hK _ _ ?_
    exact ih q0 q1 q2 q3 true q5 q6 q7 q8 _ _ _ _ _ _ _ _ _ _ _ (by first | exact e0 | exact fun _ => rfl) (by first | exact e1 | exact fun _ => rfl) (by first | exact e2 | exact fun _ => rfl) (by first | exact e3 | exact fun _ => rfl) (fun _ => rfl) (by first | exact e5 | exact fun _ => rfl) (by first | exact e6 | exact fun _ => rfl) (by first | exact e7 | exact fun _ => rfl) (by first | exact e8 | exact fun _ => rfl) c3 (fun _ => z3) c7 c8 (by rw [hq] at hc; simp at hc ⊢; omega)
  | 5, hj =>
    obtain ⟨hj0, o, ho, hd⟩ := mem_ready.1 hj
    have hq : q5 = false := by simpa using hj0
    refine wpOpIn_step rfl (fun K hK => ?_)
    clear hd ho hj0 hj
    go_simp
    refine hK _ _ ?_
    exact ih q0 q1 q2 q3 q4 true q6 q7 q8 _ _ _ _ _ _ _ _ _ _ _ (by first | exact e0 | exact fun _ => rfl) (by first | exact e1 | exact fun _ => rfl) (by first | exact e2 | exact fun _ => rfl) (by first | exact e3 | exact fun _ => rfl) (by first | exact e4 | exact fun _ => rfl) (fun _ => rfl) (by first | exact e6 | exact fun _ => rfl) (by first | exact e7 | exact fun _ => rfl) (by first | exact e8 | exact fun _ => rfl) c3 c4 (fun h => ⟨rfl, (c7 h).2⟩) c8 (by rw [hq] at hc; simp at hc ⊢; omega)
  | 6, hj =>
    obtain ⟨hj0, o, ho, hd⟩ := mem_ready.1 hj
    have hq : q6 = false := by simpa using hj0
    refine wpOpIn_step rfl (fun K hK => ?_)
    clear hd ho hj0 hj
    go_simp
    refine hK _ _ ?_
    exact ih q0 q1 q2 q3 q4 q5 true q7 q8 _ _ _ _ _ _ _ _ _ _ _ (by first | exact e0 | exact fun _ => rfl) (by first | exact e1 | exact fun _ => rfl) (by first | exact e2 | exact fun _ => rfl) (by first | exact e3 | exact fun _ => rfl) (by first | exact e4 | exact fun _ => rfl) (by first | exact e5 | exact fun _ => rfl) (fun _ => rfl) (by first | exact e7 | exact fun _ => rfl) (by first | exact e8 | exact fun _ => rfl) c3 c4 (fun h => ⟨(c7 h).1, rfl⟩) c8 (by rw [hq] at hc; simp at hc ⊢; omega)
  | 7, hj =>
    obtain ⟨hj0, o, ho, hd⟩ := mem_ready.1 hj
    have hq : q7 = false := by simpa using hj0
    obtain rfl : _ = o := Option.some.inj ho
    have z5 : q5 = true := by simpa using hd { on := 5, ground := Ground.data } (by simp) rfl
    have f5 := e5 z5
    have z6 : q6 = true := by simpa using hd { on := 6, ground := Ground.data } (by simp) rfl
    have f6 := e6 z6
    subst f5 f6
    refine wpOpIn_step rfl (fun K hK => ?_)
    clear hd ho hj0 hj
    go_simp
    refine hK _ _ ?_
    exact ih q0 q1 q2 q3 q4 q5 q6 true q8 _ _ _ _ _ _ _ _ _ _ _ (by first | exact e0 | exact fun _ => rfl) (by first | exact e1 | exact fun _ => rfl) (by first | exact e2 | exact fun _ => rfl) (by first | exact e3 | exact fun _ => rfl) (by first | exact e4 | exact fun _ => rfl) (by first | exact e5 | exact fun _ => rfl) (by first | exact e6 | exact fun _ => rfl) (fun _ => rfl) (by first | exact e8 | exact fun _ => rfl) c3 c4 (fun _ => ⟨z5, z6⟩) (fun _ => rfl) (by rw [hq] at hc; simp at hc ⊢; omega)
  | 8, hj =>
    obtain ⟨hj0, o, ho, hd⟩ := mem_ready.1 hj
    have hq : q8 = false := by simpa using hj0
    obtain rfl : _ = o := Option.some.inj ho
    have z7 : q7 = true := by simpa using hd { on := 7, ground := Ground.data } (by simp) rfl
    have f7 := e7 z7
    subst f7
    refine wpOpIn_step rfl (fun K hK => ?_)
    clear hd ho hj0 hj
    go_simp
    refine hK _ _ ?_
    exact ih q0 q1 q2 q3 q4 q5 q6 q7 true _ _ _ _ _ _ _ _ _ _ _ (by first | exact e0 | exact fun _ => rfl) (by first | exact e1 | exact fun _ => rfl) (by first | exact e2 | exact fun _ => rfl) (by first | exact e3 | exact fun _ => rfl) (by first | exact e4 | exact fun _ => rfl) (by first | exact e5 | exact fun _ => rfl) (by first | exact e6 | exact fun _ => rfl) (by first | exact e7 | exact fun _ => rfl) (fun _ => rfl) c3 c4 c7 (fun _ => z7) (by rw [hq] at hc; simp at hc ⊢; omega)
  | 9, hj =>
    obtain ⟨hj0, o, ho, hd⟩ := mem_ready.1 hj
    obtain rfl : _ = o := Option.some.inj ho
    have z0 : q0 = true := by simpa using hd { on := 0, ground := Ground.data } (by simp) rfl
    have z4 : q4 = true := by simpa using hd { on := 4, ground := Ground.data } (by simp) rfl
    have z8 : q8 = true := by simpa using hd { on := 8, ground := Ground.data } (by simp) rfl
    have z3 := c4 z4
    have z7 := c8 z8
    obtain ⟨z1, z2⟩ := c3 z3
    obtain ⟨z5, z6⟩ := c7 z7
    have f0 := e0 z0
    have f1 := e1 z1
    have f2 := e2 z2
    have f3 := e3 z3
    have f4 := e4 z4
    have f5 := e5 z5
    have f6 := e6 z6
    have f7 := e7 z7
    have f8 := e8 z8
    subst f0 f1 f2 f3 f4 f5 f6 f7 f8
    subst z0 z1 z2 z3 z4 z5 z6 z7 z8
    obtain rfl : fuel = 1 := by simp at hc; omega
    exact (hend u22 u23).2 9 hj
  | 10, hj =>
    obtain ⟨hj0, o, ho, hd⟩ := mem_ready.1 hj
    obtain rfl : _ = o := Option.some.inj ho
    have := hd { on := 9, ground := Ground.data } (by simp) rfl
    simp at this
  | j + 11, hj =>
    obtain ⟨hj0, o, ho, hd⟩ := mem_ready.1 hj
    simp [pops] at ho
end Go.Proofs.Ytenfgahedbeekaa

namespace Go.Proofs.Ytenfgahedbeekaa
open Go.RowKit Go.Deep Go.Shelf
set_option linter.unusedVariables false
set_option linter.unusedSimpArgs false
attribute [local go_sem] Oper.semAt_some


set_option maxRecDepth 100000 in
set_option maxHeartbeats 1000000 in
theorem pairs1_in {α : Type} (f g : α → Hd) (Z : List α) (F : Fence) (n : Nat) (h37 : F.fn 92) (hro : F.round = none) (hn : 1 ≤ n) (l B1 B2 n₀ : Nat) (a1 a2 : Option Addr) (n1 c1 n2 c2 : Nat) (hz : Z.length = min n1 n2) (l1 : n1 ≤ 1000) (l2 : n2 ≤ 1000)
    (J Jx : List α → World → Prop)
    (hY : ∀ pre x W, J pre W → pre.length < Z.length → YieldAt F (n - 1) Try.prog l (encP f g x) W fun e W' =>
      (e = .returned (.bool true) ∧ J (pre ++ [x]) W' ∧ Below n₀ W W') ∨ (e = .returned (.bool false) ∧ Jx (pre ++ [x]) W'))
    (W : World) (hn0 : n₀ ≤ W.heap.size) (hb1 : B1 < n₀) (hb2 : B2 < n₀) (hB1 : W.cell? ⟨B1, 0, none⟩ = some (.slice a1 n1 c1)) (hB2 : W.cell? ⟨B2, 0, none⟩ = some (.slice a2 n2 c2))
    (hJa : AbidesFrom W.heap.size J) (hr1 : VRd W a1 (Z.map f)) (hr2 : VRd W a2 (Z.map g)) (hl1 : Z ≠ [] → ∀ b off, a1 = some ⟨b, off, none⟩ → b < n₀) (hl2 : Z ≠ [] → ∀ b off, a2 = some ⟨b, off, none⟩ → b < n₀) (h0 : J [] W) :
    CallsIn F n Try.prog 92 #[.func (.yield l) #[] #[], .pointer (some ⟨B1, 0, none⟩), .pointer (some ⟨B2, 0, none⟩)] W fun e W' => (∃ v, e = .returned v) ∧
      ((∃ ys, ys = Z ∧ J ys W') ∨ (∃ pre, (∃ k, k ≤ Z.length ∧ pre = Z.take k) ∧ Jx pre W')) := by
  refine callsIn_of_wp Try.func92 rfl h37 ?_ hro
  simp only [Try.ntmps92, List.size_toArray, List.length_cons, List.length_nil, Nat.reduceAdd, Nat.reduceSub, Array.replicate_succ, Array.replicate_zero, List.push_toArray, List.append_toArray, List.nil_append, List.cons_append]
  generalize hm : Z.length = m at *
  have Hm := hid hm
  have hcase : (m < n1 ∧ n2 = m) ∨ (m ≤ n2 ∧ n1 = m) := by omega
  clear hm hz
  rcases hcase with ⟨hlt12, rfl⟩ | ⟨hle12, rfl⟩
  · gi_wp2
    gi_loopw [10] (fun i wr => ∃ k : Nat, k ≤ n2 ∧ i = .int .i64 k ∧ J (Z.take k) wr ∧ Below n₀ W wr)
      (fun i _ => n2 - (intOf i).toNat)
    case atStart => exact ⟨0, Nat.zero_le _, rfl, h0, Below.refl _ _⟩
    case round =>
      obtain ⟨k, hk, rfl, hJs, hnx⟩ := hrel
      by_cases hlt : k < n2
      · obtain ⟨x, hx⟩ : ∃ x, Z[k]? = some x := ⟨Z[k]'(by rw [Hm.out]; exact hlt), by rw [List.getElem?_eq_getElem]⟩
        have hne : Z ≠ [] := by rintro rfl; simp at hx
        obtain ⟨b1, o1, rfl, e1⟩ := hr1 k (f x) (by simp [hx])
        obtain ⟨b2, o2, rfl, e2⟩ := hr2 k (g x) (by simp [hx])
        have q1 : b1 < n₀ := hl1 hne _ _ rfl
        have q2 : b2 < n₀ := hl2 hne _ _ rfl
        have hc1 := (hnx.cell (p := ⟨B1, 0, none⟩) hb1).trans hB1
        have hc2 := (hnx.cell (p := ⟨B2, 0, none⟩) hb2).trans hB2
        have x0 := (hnx.cell (p := ⟨b1, o1 + k * 5 + 0, none⟩) q1).trans (e1 0 (by omega))
        have x1 := (hnx.cell (p := ⟨b1, o1 + k * 5 + 1, none⟩) q1).trans (e1 1 (by omega))
        have x2 := (hnx.cell (p := ⟨b1, o1 + k * 5 + 2, none⟩) q1).trans (e1 2 (by omega))
        have x3 := (hnx.cell (p := ⟨b1, o1 + k * 5 + 3, none⟩) q1).trans (e1 3 (by omega))
        have x4 := (hnx.cell (p := ⟨b1, o1 + k * 5 + 4, none⟩) q1).trans (e1 4 (by omega))
        have y0 := (hnx.cell (p := ⟨b2, o2 + k * 5 + 0, none⟩) q2).trans (e2 0 (by omega))
        have y1 := (hnx.cell (p := ⟨b2, o2 + k * 5 + 1, none⟩) q2).trans (e2 1 (by omega))
        have y2 := (hnx.cell (p := ⟨b2, o2 + k * 5 + 2, none⟩) q2).trans (e2 2 (by omega))
        have y3 := (hnx.cell (p := ⟨b2, o2 + k * 5 + 3, none⟩) q2).trans (e2 3 (by omega))
        have y4 := (hnx.cell (p := ⟨b2, o2 + k * 5 + 4, none⟩) q2).trans (e2 4 (by omega))
        obtain ⟨fn, tmps, assign, body, hy, hRd⟩ := hY _ x wr.drew (hJa _ _ _ none hJs ⟨rfl, rfl, rfl, Nat.le_refl _, fun _ _ _ => rfl⟩ (by simp)) (by rw [List.length_take, Hm.out]; omega)
        have Htk : Hid (Z.take (k + 1) = Z.take k ++ [x]) := by refine hid ?_; rw [List.take_add_one, hx]; rfl
        have hRd' : RoundIn F (n - 1) Try.prog l fn tmps assign body wr.drew (fun e W' => ∃ b : Bool, e = .returned (.bool b) ∧ ((b = true → J (Z.take k ++ [x]) W' ∧ Below n₀ wr.drew W') ∧ (b = false → Jx (Z.take k ++ [x]) W'))) := by
          refine hRd.mono ?_
          rintro e W' (⟨rfl, h1, h2⟩ | ⟨rfl, h1⟩)
          · exact ⟨true, rfl, ⟨fun _ => ⟨h1, h2⟩, fun h => (by cases h)⟩⟩
          · exact ⟨false, rfl, ⟨fun h => (by cases h), fun _ => h1⟩⟩
        clear hRd
        simp only [encP, Hd.v] at hy
        generalize f x = fx at *
        generalize g x = gx at *
        simp only [Hd.cs, List.getElem?_cons_zero, List.getElem?_cons_succ, Nat.add_zero] at x0 x1 x2 x3 x4 y0 y1 y2 y3 y4
        have HRd := hid hRd'
        have Hnx := hid hnx
        have kn1 : k < n1 := by omega
        have kn2 : k < n2 := by omega
        clear e1 e2 hr1 hr2 hl1 hl2 hY hRd' hnx hJs hJa h0 hx hne hB1 hB2 q1 q2
        gi_wp2
        refine wpIn_region_any (by kernel_rfl) ?_
        change wpAnyIn _ _ _ _ pops _ _ _ _ (World.drew _)
        refine pops_reads F n hro wr.drew l B1 B2 k b1 o1 n1 c1 b2 o2 n2 c2 fx gx _ _ _ _ _ _ _ _ _ _ _ hc1 hc2 kn1 kn2 l1 l2 x0 x1 x2 x3 x4 y0 y1 y2 y3 y4 ?hend 11 false false false false false false false false false _ _ _ _ _ _ _ _ _ _ _ (fun h => (by cases h)) (fun h => (by cases h)) (fun h => (by cases h)) (fun h => (by cases h)) (fun h => (by cases h)) (fun h => (by cases h)) (fun h => (by cases h)) (fun h => (by cases h)) (fun h => (by cases h)) (fun h => (by cases h)) (fun h => (by cases h)) (fun h => (by cases h)) (fun h => (by cases h)) rfl
        case hend =>
          intro v22 v23
          clear x0 x1 x2 x3 x4 y0 y1 y2 y3 y4 hc1 hc2
          refine wpAnyIn_ready (rs := [9]) (by kernel_rfl) (by simp) (AllReadyIn.cons rfl (fun K hK => ?_) AllReadyIn.nil)
          go_simp
          refine (Hid.out HRd).mono ?_
          rintro e W3 ⟨bb, rfl, hor⟩
          refine hK _ _ ?_
          clear hK K
          refine wpAnyIn_ready (rs := [10]) (by kernel_rfl) (by simp) (AllReadyIn.cons rfl (fun K hK => ?_) AllReadyIn.nil)
          go_simp
          refine hK _ _ ?_
          clear hK K
          refine wpAnyIn_done (by kernel_rfl) ?_ 0
          cases bb with
          | true =>
            have hor' := hor.1 rfl
            gi_wp2
            go_roundw
            case rel => exact ⟨k + 1, by omega, by go_num, by rw [Htk.out]; exact hor'.1, Hnx.out.drew.trans hor'.2⟩
            case measure => simp [intOf]; omega
          | false =>
            have hor' := hor.2 rfl
            gi_wp2
            refine bodyPost_ret (results_none rfl _ _ _) rfl ?_
            exact ⟨⟨_, rfl⟩, .inr ⟨_, ⟨k + 1, by omega, Htk.out.symm⟩, hor'⟩⟩
      · obtain rfl : k = n2 := by omega
        gi_wp2
        go_end0
        exact ⟨⟨_, rfl⟩, .inl ⟨_, rfl, by rw [← Hm.out, List.take_length] at hJs; exact hJs⟩⟩
  · gi_wp2
    gi_loopw [10] (fun i wr => ∃ k : Nat, k ≤ n1 ∧ i = .int .i64 k ∧ J (Z.take k) wr ∧ Below n₀ W wr)
      (fun i _ => n1 - (intOf i).toNat)
    case atStart => exact ⟨0, Nat.zero_le _, rfl, h0, Below.refl _ _⟩
    case round =>
      obtain ⟨k, hk, rfl, hJs, hnx⟩ := hrel
      by_cases hlt : k < n1
      · obtain ⟨x, hx⟩ : ∃ x, Z[k]? = some x := ⟨Z[k]'(by rw [Hm.out]; exact hlt), by rw [List.getElem?_eq_getElem]⟩
        have hne : Z ≠ [] := by rintro rfl; simp at hx
        obtain ⟨b1, o1, rfl, e1⟩ := hr1 k (f x) (by simp [hx])
        obtain ⟨b2, o2, rfl, e2⟩ := hr2 k (g x) (by simp [hx])
        have q1 : b1 < n₀ := hl1 hne _ _ rfl
        have q2 : b2 < n₀ := hl2 hne _ _ rfl
        have hc1 := (hnx.cell (p := ⟨B1, 0, none⟩) hb1).trans hB1
        have hc2 := (hnx.cell (p := ⟨B2, 0, none⟩) hb2).trans hB2
        have x0 := (hnx.cell (p := ⟨b1, o1 + k * 5 + 0, none⟩) q1).trans (e1 0 (by omega))
        have x1 := (hnx.cell (p := ⟨b1, o1 + k * 5 + 1, none⟩) q1).trans (e1 1 (by omega))
        have x2 := (hnx.cell (p := ⟨b1, o1 + k * 5 + 2, none⟩) q1).trans (e1 2 (by omega))
        have x3 := (hnx.cell (p := ⟨b1, o1 + k * 5 + 3, none⟩) q1).trans (e1 3 (by omega))
        have x4 := (hnx.cell (p := ⟨b1, o1 + k * 5 + 4, none⟩) q1).trans (e1 4 (by omega))
        have y0 := (hnx.cell (p := ⟨b2, o2 + k * 5 + 0, none⟩) q2).trans (e2 0 (by omega))
        have y1 := (hnx.cell (p := ⟨b2, o2 + k * 5 + 1, none⟩) q2).trans (e2 1 (by omega))
        have y2 := (hnx.cell (p := ⟨b2, o2 + k * 5 + 2, none⟩) q2).trans (e2 2 (by omega))
        have y3 := (hnx.cell (p := ⟨b2, o2 + k * 5 + 3, none⟩) q2).trans (e2 3 (by omega))
        have y4 := (hnx.cell (p := ⟨b2, o2 + k * 5 + 4, none⟩) q2).trans (e2 4 (by omega))
        obtain ⟨fn, tmps, assign, body, hy, hRd⟩ := hY _ x wr.drew (hJa _ _ _ none hJs ⟨rfl, rfl, rfl, Nat.le_refl _, fun _ _ _ => rfl⟩ (by simp)) (by rw [List.length_take, Hm.out]; omega)
        have Htk : Hid (Z.take (k + 1) = Z.take k ++ [x]) := by refine hid ?_; rw [List.take_add_one, hx]; rfl
        have hRd' : RoundIn F (n - 1) Try.prog l fn tmps assign body wr.drew (fun e W' => ∃ b : Bool, e = .returned (.bool b) ∧ ((b = true → J (Z.take k ++ [x]) W' ∧ Below n₀ wr.drew W') ∧ (b = false → Jx (Z.take k ++ [x]) W'))) := by
          refine hRd.mono ?_
          rintro e W' (⟨rfl, h1, h2⟩ | ⟨rfl, h1⟩)
          · exact ⟨true, rfl, ⟨fun _ => ⟨h1, h2⟩, fun h => (by cases h)⟩⟩
          · exact ⟨false, rfl, ⟨fun h => (by cases h), fun _ => h1⟩⟩
        clear hRd
        simp only [encP, Hd.v] at hy
        generalize f x = fx at *
        generalize g x = gx at *
        simp only [Hd.cs, List.getElem?_cons_zero, List.getElem?_cons_succ, Nat.add_zero] at x0 x1 x2 x3 x4 y0 y1 y2 y3 y4
        have HRd := hid hRd'
        have Hnx := hid hnx
        have kn1 : k < n1 := by omega
        have kn2 : k < n2 := by omega
        clear e1 e2 hr1 hr2 hl1 hl2 hY hRd' hnx hJs hJa h0 hx hne hB1 hB2 q1 q2
        gi_wp2
        refine wpIn_region_any (by kernel_rfl) ?_
        change wpAnyIn _ _ _ _ pops _ _ _ _ (World.drew _)
        refine pops_reads F n hro wr.drew l B1 B2 k b1 o1 n1 c1 b2 o2 n2 c2 fx gx _ _ _ _ _ _ _ _ _ _ _ hc1 hc2 kn1 kn2 l1 l2 x0 x1 x2 x3 x4 y0 y1 y2 y3 y4 ?hend 11 false false false false false false false false false _ _ _ _ _ _ _ _ _ _ _ (fun h => (by cases h)) (fun h => (by cases h)) (fun h => (by cases h)) (fun h => (by cases h)) (fun h => (by cases h)) (fun h => (by cases h)) (fun h => (by cases h)) (fun h => (by cases h)) (fun h => (by cases h)) (fun h => (by cases h)) (fun h => (by cases h)) (fun h => (by cases h)) (fun h => (by cases h)) rfl
        case hend =>
          intro v22 v23
          clear x0 x1 x2 x3 x4 y0 y1 y2 y3 y4 hc1 hc2
          refine wpAnyIn_ready (rs := [9]) (by kernel_rfl) (by simp) (AllReadyIn.cons rfl (fun K hK => ?_) AllReadyIn.nil)
          go_simp
          refine (Hid.out HRd).mono ?_
          rintro e W3 ⟨bb, rfl, hor⟩
          refine hK _ _ ?_
          clear hK K
          refine wpAnyIn_ready (rs := [10]) (by kernel_rfl) (by simp) (AllReadyIn.cons rfl (fun K hK => ?_) AllReadyIn.nil)
          go_simp
          refine hK _ _ ?_
          clear hK K
          refine wpAnyIn_done (by kernel_rfl) ?_ 0
          cases bb with
          | true =>
            have hor' := hor.1 rfl
            gi_wp2
            go_roundw
            case rel => exact ⟨k + 1, by omega, by go_num, by rw [Htk.out]; exact hor'.1, Hnx.out.drew.trans hor'.2⟩
            case measure => simp [intOf]; omega
          | false =>
            have hor' := hor.2 rfl
            gi_wp2
            refine bodyPost_ret (results_none rfl _ _ _) rfl ?_
            exact ⟨⟨_, rfl⟩, .inr ⟨_, ⟨k + 1, by omega, Htk.out.symm⟩, hor'⟩⟩
      · obtain rfl : k = n1 := by omega
        gi_wp2
        go_end0
        exact ⟨⟨_, rfl⟩, .inl ⟨_, rfl, by rw [← Hm.out, List.take_length] at hJs; exact hJs⟩⟩

theorem pairs_said : PairsSaid := fun f g Z n hn B1 B2 n₀ a1 a2 n1 c1 n2 c2 hz l1 l2 w hn0 hb1 hb2 hB1 hB2 hr1 hr2 hl1 hl2 => fun l J Jx W hW hJa _ hY h0 =>
  pairs1_in f g Z Fence.wide n trivial rfl hn l B1 B2 n₀ a1 a2 n1 c1 n2 c2 hz l1 l2 J Jx hY W (Nat.le_trans hn0 hW.size) hb1 hb2 ((hW.cell (p := ⟨B1, 0, none⟩) (Nat.lt_of_lt_of_le hb1 hn0)).trans hB1) ((hW.cell (p := ⟨B2, 0, none⟩) (Nat.lt_of_lt_of_le hb2 hn0)).trans hB2) hJa (hr1.below (Nat.le_refl _) hW) (hr2.below (Nat.le_refl _) hW) hl1 hl2 h0
theorem compare_any : ∀ (k : Nat) (w : World) (s t : VT k), Rds k w s → Rds k w t → Calls Try.prog 47 #[(hdT k s).v, (hdT k t).v] w fun e w' => e = .returned (.int .i64 (cmpT k s t)) ∧ Below w.heap.size w w'
  | 0, _, _, _, h, _ => h.elim
  | k + 1, w, s, t, hs, ht => compare_step pairs_said k (compare_any k) w s t hs ht
end Go.Proofs.Ytenfgahedbeekaa

namespace Go.Proofs.Ytenfgahedbeekaa
open Go.ChangeShapes Go.WideShapes Go.ChangeAt Go.RowKit Go.Deep
set_option linter.unusedVariables false
set_option linter.unusedSimpArgs false

section
variable {H : Type} {enc : TypeId × Value → H} {W : World}

/- What the reading of a slice of values tells. -/
end

/- A value that isn't great, as a tree of three levels. -/
def mkV (k : Nat) (h : Hd) (l : List (VT k)) : VT (k + 1) := (h, l)
end Go.Proofs.Ytenfgahedbeekaa

namespace Go.Proofs.Ytenfgahedbeekaa
open Go.RowKit Go.Deep
set_option linter.unusedVariables false
set_option linter.unusedSimpArgs false


/- A row of values that lies whole in a block. -/
def SRow (W : World) (g : Nat) (hs : List Hd) : Prop := ∃ cur, W.heap[g]? = some (.cells cur 31 (0, 0)) ∧ ∀ (j : Nat) (h : Hd), hs[j]? = some h → ∀ i, i < 5 → cur[j * 5 + i]? = h.cs[i]?
theorem SRow.cell {W : World} {g : Nat} {hs : List Hd} (s : SRow W g hs) {j : Nat} {h : Hd} (e : hs[j]? = some h) (i : Nat) (hi : i < 5) : W.cell? ⟨g, j * 5 + i, none⟩ = h.cs[i]? := by
  obtain ⟨cur, h1, h2⟩ := s
  rw [cellOf h1]; exact h2 j h e i hi
theorem SRow.below {W W' : World} {g : Nat} {hs : List Hd} (s : SRow W g hs) (k : Below W.heap.size W W') : SRow W' g hs := by
  obtain ⟨cur, h1, h2⟩ := s
  exact ⟨cur, (k.block g (Array.getElem?_eq_some_iff.1 h1).1).trans h1, h2⟩
theorem SRow.lt {W : World} {g : Nat} {hs : List Hd} (s : SRow W g hs) : g < W.heap.size := by
  obtain ⟨cur, h1, h2⟩ := s
  exact (Array.getElem?_eq_some_iff.1 h1).1
theorem VRow.srow {W : World} {B : Nat} {v : Value} {hs : List Hd} (h : VRow W B v hs) (hne : hs ≠ []) : ∃ g cap, v = .slice (some ⟨g, 0, none⟩) hs.length cap ∧ hs.length ≤ cap ∧ B ≤ g ∧ SRow W g hs := by
  rcases h.2 with ⟨_, e⟩ | ⟨g, cap, cur, rfl, hb, hgg, hc, hm, hs', ht⟩
  · exact absurd (List.eq_nil_of_length_eq_zero e) hne
  · refine ⟨g, cap, rfl, hc, hb, cur, hgg, fun j x e i hi => ?_⟩
    have hj : j < hs.length := (List.getElem?_eq_some_iff.1 e).1
    have hv := vv_at hs j x e i hi
    rw [← hv, ← ht, List.getElem?_take, if_pos (by omega)]
    simp
/- Five cells of a row written. -/
def five (w : World) (b o : Nat) (h : Hd) : World := ((((w.setCell ⟨b, o, none⟩ (.int .i64 h.kind)).setCell ⟨b, o + 1, none⟩ (.int .i64 h.int)).setCell ⟨b, o + 2, none⟩ (.string h.text)).setCell ⟨b, o + 3, none⟩ (.int .i64 h.rc)).setCell ⟨b, o + 4, none⟩ (.slice h.a h.n h.cap)
theorem heap_set_at {w : World} {b : Nat} {c : Array Value} {e : TypeId} {f : Nat × Nat} (h : w.heap[b]? = some (.cells c e f)) (i : Nat) (u : Value) :
    (w.setCell ⟨b, i, none⟩ u).heap[b]? = some (.cells (c.setIfInBounds i u) e f) := by
  simp [World.setCell, Array.getElem?_modify, h]
theorem SRow.five {W : World} {g : Nat} {hs : List Hd} (s : SRow W g hs) {k : Nat} (hk : k < hs.length) (x : Hd) : SRow (five W g (k * 5) x) g (hs.set k x) := by
  obtain ⟨cur, h1, h2⟩ := s
  refine ⟨_, heap_set_at (heap_set_at (heap_set_at (heap_set_at (heap_set_at h1 _ _) _ _) _ _) _ _) _ _, fun j y e i hi => ?_⟩
  have hsz : ∀ i, i < 5 → k * 5 + i < cur.size := fun i hi => by
    have := h2 k hs[k] (by simp [hk]) i hi
    rw [show (hs[k]).cs[i]? = some ((hs[k]).cs[i]'(by simp [Hd.cs]; omega)) from by simp [Hd.cs]] at this
    exact (Array.getElem?_eq_some_iff.1 this).1
  have s0 := hsz 0 (by omega)
  have s1 := hsz 1 (by omega)
  have s2 := hsz 2 (by omega)
  have s3 := hsz 3 (by omega)
  have s4 := hsz 4 (by omega)
  simp only [Array.getElem?_setIfInBounds, Array.size_setIfInBounds]
  by_cases hjk : j = k
  · subst hjk
    rw [List.getElem?_set_self hk] at e
    cases e
    match i, hi with
    | 0, _ => simp [Hd.cs]; omega
    | 1, _ => simp [Hd.cs]; omega
    | 2, _ => simp [Hd.cs]; omega
    | 3, _ => simp [Hd.cs]; omega
    | 4, _ => simp [Hd.cs]; omega
  · rw [List.getElem?_set_ne (fun e => hjk e.symm)] at e
    rw [if_neg (by omega), if_neg (by omega), if_neg (by omega), if_neg (by omega), if_neg (by omega)]
    exact h2 j y e i hi
theorem five_below {B : Nat} {w0 w : World} (hb : Below B w0 w) {b o : Nat} (hB : B ≤ b) (h : Hd) : Below B w0 (five w b o h) := by
  unfold Go.Proofs.Ytenfgahedbeekaa.five
  exact ((((hb.setCell hB _).setCell hB _).setCell hB _).setCell hB _).setCell hB _

/- In order, but for the one at k. -/
def leA (ts : List (VT 3)) (p q : Nat) : Prop := ∀ a b, ts[p]? = some a → ts[q]? = some b → cmpT 3 a b ≤ 0
structure Srt (ts : List (VT 3)) (k i : Nat) : Prop where
  oth : ∀ p q, p < q → q ≤ i → p ≠ k → q ≠ k → leA ts p q
  own : ∀ q, k < q → q ≤ i → leA ts k q
def swp (ts : List (VT 3)) (k : Nat) (a b : VT 3) : List (VT 3) := (ts.set (k + 1) b).set k a
theorem Srt.swap {ts : List (VT 3)} {k i : Nat} {a b : VT 3} (h : Srt ts (k + 1) i) (ea : ts[k + 1]? = some a) (eb : ts[k]? = some b) (hk : k + 1 ≤ i) (hlt : cmpT 3 a b < 0) : Srt (swp ts k a b) k i := by
  have l1 : k + 1 < ts.length := (List.getElem?_eq_some_iff.1 ea).1
  have g : ∀ j, (swp ts k a b)[j]? = if j = k then some a else if j = k + 1 then some b else ts[j]? := fun j => by
    unfold swp
    by_cases h1 : j = k
    · subst h1; rw [List.getElem?_set_self (by simp; omega), if_pos rfl]
    · rw [List.getElem?_set_ne (fun e => h1 e.symm), if_neg h1]
      by_cases h2 : j = k + 1
      · subst h2; rw [List.getElem?_set_self l1, if_pos rfl]
      · rw [List.getElem?_set_ne (fun e => h2 e.symm), if_neg h2]
  constructor
  · intro p q h1 h2 h3 h4 x y ex ey
    rw [g, if_neg h3] at ex
    rw [g, if_neg h4] at ey
    by_cases hp : p = k + 1
    · rw [if_pos hp] at ex
      cases ex
      rw [if_neg (by omega)] at ey
      exact h.oth k q (by omega) h2 (by omega) (by omega) _ _ eb ey
    · rw [if_neg hp] at ex
      by_cases hq : q = k + 1
      · rw [if_pos hq] at ey
        cases ey
        exact h.oth p k (by omega) (by omega) hp (by omega) _ _ ex eb
      · rw [if_neg hq] at ey
        exact h.oth p q h1 h2 hp hq x y ex ey
  · intro q h1 h2 x y ex ey
    rw [g, if_pos rfl] at ex
    cases ex
    rw [g, if_neg (by omega)] at ey
    by_cases hq : q = k + 1
    · rw [if_pos hq] at ey
      cases ey
      omega
    · rw [if_neg hq] at ey
      exact h.own q (by omega) h2 _ _ ea ey
end Go.Proofs.Ytenfgahedbeekaa

namespace Go.Proofs.Ytenfgahedbeekaa
open Go.RowKit Go.Deep Go.Shelf
set_option linter.unusedVariables false
set_option linter.unusedSimpArgs false

theorem five_heap (w : World) (b o : Nat) (h : Hd) {k : Nat} (hk : k ≠ b) : (five w b o h).heap[k]? = w.heap[k]? := by
  unfold Go.Proofs.Ytenfgahedbeekaa.five
  rw [Below.heap_setCell _ _ _ _ hk, Below.heap_setCell _ _ _ _ hk, Below.heap_setCell _ _ _ _ hk, Below.heap_setCell _ _ _ _ hk, Below.heap_setCell _ _ _ _ hk]
theorem VRow.five {w : World} {B : Nat} {v : Value} {hs : List Hd} {g : Nat} (h : VRow w B v hs) (hg : v.ownBlock = some g) {k : Nat} (hk : k < hs.length) (x : Hd) : VRow (five w g (k * 5) x) B v (hs.set k x) := by
  have h1 := h.1
  rcases h.2 with ⟨rfl, _⟩ | ⟨g', cap, cur, rfl, hb, hgg, hc, hm, hs', ht⟩
  · cases hg
  · cases hg
    have hS : SRow w g' hs := ⟨cur, hgg, fun j y e i hi => by
      have hj : j < hs.length := (List.getElem?_eq_some_iff.1 e).1
      rw [← vv_at hs j y e i hi, ← ht, List.getElem?_take, if_pos (by omega)]; simp⟩
    obtain ⟨cur', h2, h3⟩ := hS.five hk x
    have h4 := heap_set_at (heap_set_at (heap_set_at (heap_set_at (heap_set_at hgg (k * 5) (.int .i64 x.kind)) (k * 5 + 1) (.int .i64 x.int)) (k * 5 + 2) (.string x.text)) (k * 5 + 3) (.int .i64 x.rc)) (k * 5 + 4) (.slice x.a x.n x.cap)
    have h5 := h2
    unfold Go.Proofs.Ytenfgahedbeekaa.five at h5
    rw [h4] at h5
    have hsz : cur'.size = cur.size := by
      simp only [Option.some.injEq, Obj.cells.injEq] at h5
      rw [← h5.1]; simp
    refine ⟨by rw [vv_length], .inr ⟨g', cap, cur', by rw [List.length_set], hb, h2, by rw [List.length_set]; exact hc, hm, by rw [hsz]; exact hs', ?_⟩⟩
    rw [List.length_set]
    refine List.ext_getElem? fun j => ?_
    rw [List.getElem?_take]
    split
    · rename_i hj
      have hlt : j / 5 < (hs.set k x).length := by rw [List.length_set]; omega
      have e := h3 (j / 5) (hs.set k x)[j / 5] (by rw [List.getElem?_eq_getElem hlt]) (j % 5) (by omega)
      have e2 := vv_at (hs.set k x) (j / 5) (hs.set k x)[j / 5] (by rw [List.getElem?_eq_getElem hlt]) (j % 5) (by omega)
      rw [show j / 5 * 5 + j % 5 = j from by omega] at e e2
      rw [e2, ← e]; simp
    · rw [List.getElem?_eq_none (by rw [vv_length, List.length_set]; omega)]

theorem run_appV (w : World) (ty : TypeId) (B : Nat) (v : Value) (hs : List Hd) (h : Hd) (g : Nat) (hr : VRow w B v hs) (hg : w.heap[g]? = some (.cells h.cs.toArray 31 (0, 0))) (hB : B ≤ w.heap.size) (hl : hs.length ≤ 1000000) :
    ∃ v' w', (Builtin.append_ #[29, 29] ty #[v, .slice (some ⟨g, 0, none⟩) 1 1]).run Try.prog w = .ok v' w' ∧ VRow w' B v' (hs ++ [h]) ∧ Grw w v w' v' := by
  obtain ⟨i0, hi, hz0, hz1, hz2⟩ := info_parts info31
  obtain ⟨v', w', hrun, hown, hgr, _, hat⟩ := run_append_own_at (P := Try.prog) w B 29 ty 31 i0 zeroV 5 64 Try.underlying29 hi hz0 hz1 hz2 rfl (by decide) v hs.length (vv hs) hr ⟨g, 0, none⟩ 1 1 h.cs rfl (by
    intro j u hu
    exact World.news_of_block hg j u (by simpa using hu)) (cs_one h) (by unfold maxLen; omega) (by omega) hB
  refine ⟨v', w', hrun, ?_, hgr, ?_⟩
  · unfold VRow
    rw [vv_snoc, List.length_append]
    exact hown
  · rcases hat with hat | hat
    · exact .inl hat
    · exact .inr ⟨_, hat, Nat.le_refl _⟩

/- What stays: all but one block and a row. -/
structure Okp (Z : Nat) (v : Value) (W W' : World) : Prop where
  os : W'.os = W.os
  tape : W'.tape = W.tape
  output : W'.output = W.output
  size : W.heap.size ≤ W'.heap.size
  block : ∀ j, j < W.heap.size → j ≠ Z → v.ownBlock ≠ some j → W'.heap[j]? = W.heap[j]?
theorem Okp.set {Z : Nat} {v : Value} {W w : World} (h : Okp Z v W w) (i : Nat) (u : Value) : Okp Z v W (w.setCell ⟨Z, i, none⟩ u) :=
  ⟨h.os, h.tape, h.output, by simpa [World.setCell] using h.size, fun j h1 h2 h3 => (Below.heap_setCell _ _ _ _ h2).trans (h.block j h1 h2 h3)⟩
theorem Okp.five {Z : Nat} {v : Value} {W w : World} (h : Okp Z v W w) (r o : Nat) (hr : v.ownBlock = some r ∨ W.heap.size ≤ r) (x : Hd) : Okp Z v W (five w r o x) :=
  have k := five_below (B := 0) (Below.refl 0 w) (b := r) (o := o) (Nat.zero_le _) x
  ⟨k.os.trans h.os, k.tape.trans h.tape, k.output.trans h.output, Nat.le_trans h.size k.size, fun j h1 h2 h3 => (five_heap _ _ _ _ (fun e => by subst e; rcases hr with hr | hr; exact h3 hr; omega)).trans (h.block j h1 h2 h3)⟩
end Go.Proofs.Ytenfgahedbeekaa

namespace Go.Proofs.Ytenfgahedbeekaa
open Go.RowKit Go.Deep Go.Shelf
set_option linter.unusedVariables false
set_option linter.unusedSimpArgs false

theorem byteArray_ext {a b : ByteArray} (h : a.data.toList = b.data.toList) : a = b := by
  cases a; cases b
  simp only at h
  rw [ByteArray.mk.injEq]
  exact Array.toList_inj.1 h

/- Two simple prints with something behind each: the same, if all is the same. -/
def HEq4 (h g : Hd) : Prop := h.kind = g.kind ∧ h.int = g.int ∧ h.text = g.text ∧ h.rc = g.rc
theorem ci_self (a : Int) : ci a a = 0 := ord_ci.self a
theorem ci_zero {a b : Int} (h : ci a b = 0) : a = b := by
  unfold ci at h; split at h
  · omega
  · split at h <;> omega
theorem cS_zero {s t : ByteArray} (h : cS s t = 0) : s = t := by
  unfold cS cB at h
  split at h
  · omega
  · split at h
    · rename_i h2
      have := beq_iff_eq.1 h2
      rw [ByteArray.toList_eq, ByteArray.toList_eq] at this
      exact byteArray_ext this
    · omega
theorem cH_iff (h g : Hd) : cH h g = 0 ↔ HEq4 h g := by
  constructor
  · intro e
    unfold cH at e
    simp only [orL] at e
    by_cases h1 : ci h.kind g.kind = 0
    · rw [if_pos h1] at e
      by_cases h2 : ci h.int g.int = 0
      · rw [if_pos h2] at e
        by_cases h3 : cS h.text g.text = 0
        · rw [if_pos h3] at e
          by_cases h4 : ci h.rc g.rc = 0
          · exact ⟨ci_zero h1, ci_zero h2, cS_zero h3, ci_zero h4⟩
          · rw [if_neg h4] at e; exact absurd e h4
        · rw [if_neg h3] at e; exact absurd e h3
      · rw [if_neg h2] at e; exact absurd e h2
    · rw [if_neg h1] at e; exact absurd e h1
  · rintro ⟨h1, h2, h3, h4⟩
    unfold cH
    rw [h1, h2, h3, h4, ci_self, ci_self, ci_self, ord_cS.self]
    rfl
structure C4 where
  kind : Int
  int : Int
  text : ByteArray
  rc : Int
def CT : Nat → Type
  | 0 => Empty
  | k + 1 => C4 × List (CT k)
def ofH (h : Hd) : C4 := ⟨h.kind, h.int, h.text, h.rc⟩
def ofT : (k : Nat) → VT k → CT k
  | 0, t => Empty.elim t
  | k + 1, t => (ofH t.1, t.2.map (ofT k))
def cC (a b : C4) : Int := orL [ci a.kind b.kind, ci a.int b.int, cS a.text b.text, ci a.rc b.rc]
def cmpC : (k : Nat) → CT k → CT k → Int
  | 0, _, _ => 0
  | k + 1, s, t => if cC s.1 t.1 = 0 then cmpL (cmpC k) s.2 t.2 else cC s.1 t.1
theorem cmpL_map {α β : Type} {f : α → α → Int} {g : β → β → Int} {m : α → β} (h : ∀ a b, g (m a) (m b) = f a b) : ∀ (l k : List α), cmpL g (l.map m) (k.map m) = cmpL f l k
  | [], [] => rfl
  | [], _ :: _ => rfl
  | _ :: _, [] => rfl
  | a :: l, b :: k => by simp only [List.map_cons, cmpL, h, cmpL_map h l k]
theorem cmpC_of : ∀ (k : Nat) (s t : VT k), cmpC k (ofT k s) (ofT k t) = cmpT k s t
  | 0, _, _ => rfl
  | k + 1, s, t => by
    show (if cC (ofH s.1) (ofH t.1) = 0 then cmpL (cmpC k) (s.2.map (ofT k)) (t.2.map (ofT k)) else cC (ofH s.1) (ofH t.1)) = (if cH s.1 t.1 = 0 then cmpL (cmpT k) s.2 t.2 else cH s.1 t.1)
    rw [cmpL_map (cmpC_of k)]; rfl
/- Contents as trees: each is some tree's. -/
def toT : (k : Nat) → CT k → VT k
  | 0, c => Empty.elim c
  | k + 1, c => (⟨c.1.kind, c.1.int, c.1.text, c.1.rc, none, c.2.length, c.2.length⟩, c.2.map (toT k))
theorem of_toT : ∀ (k : Nat) (c : CT k), ofT k (toT k c) = c
  | 0, c => Empty.elim c
  | k + 1, c => by
    obtain ⟨⟨a, b, t, r⟩, l⟩ := c
    show ((⟨a, b, t, r⟩ : C4), (l.map (toT k)).map (ofT k)) = ((⟨a, b, t, r⟩ : C4), l)
    rw [List.map_map]
    have : (ofT k ∘ toT k) = id := by funext c; exact of_toT k c
    rw [this, List.map_id]
theorem ord_cmpC (k : Nat) : Ord3 (cmpC k) :=
  ⟨fun a b => by have h := (ord_cmpT k).anti (toT k a) (toT k b); rw [← cmpC_of, ← cmpC_of, of_toT, of_toT] at h; exact h,
   fun a b c => by have h := (ord_cmpT k).tr (toT k a) (toT k b) (toT k c); rw [← cmpC_of, ← cmpC_of, ← cmpC_of, of_toT, of_toT, of_toT] at h; exact h⟩
theorem cmpL_eq {α : Type} {f : α → α → Int} (h : ∀ a b, f a b = 0 → a = b) : ∀ (l m : List α), cmpL f l m = 0 → l = m
  | [], [], _ => rfl
  | [], _ :: _, e => by simp [cmpL] at e
  | _ :: _, [], e => by simp [cmpL] at e
  | a :: l, b :: m, e => by
    simp only [cmpL] at e
    split at e
    · rename_i h0
      rw [h a b h0, cmpL_eq h l m e]
    · rename_i h0
      exact absurd e h0
theorem cC_zero {a b : C4} (h : cC a b = 0) : a = b := by
  obtain ⟨a1, a2, a3, a4⟩ := a
  obtain ⟨b1, b2, b3, b4⟩ := b
  have e := (cH_iff ⟨a1, a2, a3, a4, none, 0, 0⟩ ⟨b1, b2, b3, b4, none, 0, 0⟩).1 h
  unfold HEq4 at e
  obtain ⟨e1, e2, e3, e4⟩ := e
  simp only at e1 e2 e3 e4
  subst e1 e2 e3 e4
  rfl
theorem cmpC_zero : ∀ (k : Nat) (a b : CT k), cmpC k a b = 0 → a = b
  | 0, a, _, _ => Empty.elim a
  | k + 1, a, b, h => by
    obtain ⟨a1, a2⟩ := a
    obtain ⟨b1, b2⟩ := b
    change (if cC a1 b1 = 0 then cmpL (cmpC k) a2 b2 else cC a1 b1) = 0 at h
    split at h
    · rename_i h0
      rw [cC_zero h0, cmpL_eq (cmpC_zero k) a2 b2 h]
    · rename_i h0
      exact absurd h h0
theorem cmpC_iff (k : Nat) (a b : CT k) : cmpC k a b = 0 ↔ a = b := ⟨cmpC_zero k a b, fun h => by rw [h]; exact (ord_cmpC k).self b⟩
/- A value that reads as a content. -/
def RdC (k : Nat) (w : World) (h : Hd) (c : CT k) : Prop := ∃ t : VT k, hdT k t = h ∧ Rds k w t ∧ ofT k t = c
theorem RdC.below {k : Nat} {w w' : World} {h : Hd} {c : CT k} {B : Nat} (d : RdC k w h c) (hB : w.heap.size ≤ B) (hb : Below B w w') : RdC k w' h c := by
  obtain ⟨t, h1, h2, h3⟩ := d
  exact ⟨t, h1, Rds.below k h2 hB hb, h3⟩
end Go.Proofs.Ytenfgahedbeekaa

