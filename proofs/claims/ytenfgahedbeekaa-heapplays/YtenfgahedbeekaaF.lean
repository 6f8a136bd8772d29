/- The one statement of pairs that draws its order. -/
import Derived.RangeFuncNested
import Derived.RangeFuncBound
import Derived.RangeFuncCalls
import Derived.RangeFuncLeaves
import Derived.Shelf.Abstract
import Derived.Shelf.RegionOpen
import Derived.WalkKit
import Derived.OwnWalkIn
import Derived.TacticsInMore
import Derived.LoopNIn
import Derived.LoopIn
import Derived.BigRegionIn
import Derived.Test.YtenfgahedbeekaaB
namespace Go.Proofs.Ytenfgahedbeekaa
open Go.RowKit Go.Deep Go.Shelf
set_option linter.unusedVariables false
set_option linter.unusedSimpArgs false
attribute [local go_sem] Oper.semAt_some

abbrev pops : Array Oper := #[{ dst := some 13, op := Op.move (Operand.tmp 0), type := 44, pos := "value.go:82", after := #[], guard := none },
  { dst := some 14, op := Op.load 29 (Operand.tmp 1), type := 29, pos := "value.go:82", after := #[], guard := none },
  { dst := some 15, op := Op.move (Operand.tmp 4), type := 3, pos := "value.go:82", after := #[], guard := none },
  { dst := some 16, op := Op.indexAddr 29 (Operand.tmp 14) (Operand.tmp 15), type := 0, pos := "value.go:82", after := #[{ on := 1, ground := Ground.data }, { on := 2, ground := Ground.data }], guard := none },
  { dst := some 17, op := Op.load 31 (Operand.tmp 16), type := 31, pos := "value.go:82", after := #[{ on := 3, ground := Ground.data }], guard := none },
  { dst := some 18, op := Op.load 29 (Operand.tmp 2), type := 29, pos := "value.go:82", after := #[], guard := none },
  { dst := some 19, op := Op.move (Operand.tmp 4), type := 3, pos := "value.go:82", after := #[], guard := none },
  { dst := some 20, op := Op.indexAddr 29 (Operand.tmp 18) (Operand.tmp 19), type := 0, pos := "value.go:82", after := #[{ on := 5, ground := Ground.data }, { on := 6, ground := Ground.data }], guard := none },
  { dst := some 21, op := Op.load 31 (Operand.tmp 20), type := 31, pos := "value.go:82", after := #[{ on := 7, ground := Ground.data }], guard := none },
  { dst := some 22, op := Op.call { callee := Callee.value (Operand.tmp 13), args := #[Operand.tmp 17, Operand.tmp 21], argTypes := #[31, 31] }, type := 4, pos := "value.go:82", after := #[{ on := 0, ground := Ground.data }, { on := 4, ground := Ground.data }, { on := 8, ground := Ground.data }], guard := none },
  { dst := some 23, op := Op.unOp UnOp.not 4 (Operand.tmp 22), type := 4, pos := "value.go:82", after := #[{ on := 9, ground := Ground.data }], guard := none }]

theorem pops_ready : ∀ b0 b1 b2 b3 b4 b5 b6 b7 b8 : Bool, Region.ready .any pops #[b0, b1, b2, b3, b4, b5, b6, b7, b8, false, false] ≠ [] := by decide +kernel

set_option maxRecDepth 100000 in
set_option maxHeartbeats 2000000 in
theorem pops_reads (F : Fence) (n : Nat) (hro : F.round = none) (w : World) (l B1 B2 k b1 o1 n1 c1 b2 o2 n2 c2 : Nat) (h1 h2 : Hd) (p3 p5 p6 p7 p8 p9 p10 p11 p12 p24 : Value) (Q : Exit → Act → World → Prop) (hB1 : w.cell? ⟨B1, 0, none⟩ = some (.slice (some ⟨b1, o1, none⟩) n1 c1)) (hB2 : w.cell? ⟨B2, 0, none⟩ = some (.slice (some ⟨b2, o2, none⟩) n2 c2)) (k1 : k < n1) (k2 : k < n2) (l1 : n1 ≤ 1000) (l2 : n2 ≤ 1000)
    (x0 : w.cell? ⟨b1, o1 + k * 5, none⟩ = some (.int .i64 h1.kind)) (x1 : w.cell? ⟨b1, o1 + k * 5 + 1, none⟩ = some (.int .i64 h1.int)) (x2 : w.cell? ⟨b1, o1 + k * 5 + 2, none⟩ = some (.string h1.text)) (x3 : w.cell? ⟨b1, o1 + k * 5 + 3, none⟩ = some (.int .i64 h1.rc)) (x4 : w.cell? ⟨b1, o1 + k * 5 + 4, none⟩ = some (.slice h1.a h1.n h1.cap))
    (y0 : w.cell? ⟨b2, o2 + k * 5, none⟩ = some (.int .i64 h2.kind)) (y1 : w.cell? ⟨b2, o2 + k * 5 + 1, none⟩ = some (.int .i64 h2.int)) (y2 : w.cell? ⟨b2, o2 + k * 5 + 2, none⟩ = some (.string h2.text)) (y3 : w.cell? ⟨b2, o2 + k * 5 + 3, none⟩ = some (.int .i64 h2.rc)) (y4 : w.cell? ⟨b2, o2 + k * 5 + 4, none⟩ = some (.slice h2.a h2.n h2.cap))
    (hend : ∀ u22' u23', wpAnyIn F n Try.prog .any pops Q 2 #[true, true, true, true, true, true, true, true, true, false, false] { tmps := #[.func (.yield l) #[] #[], .pointer (some ⟨B1, 0, none⟩), .pointer (some ⟨B2, 0, none⟩), p3, .int .i64 (k : Int), p5, p6, p7, p8, p9, p10, p11, p12, .func (.yield l) #[] #[], .slice (some ⟨b1, o1, none⟩) n1 c1, .int .i64 (k : Int), .pointer (some ⟨b1, o1 + k * 5, none⟩), .agg #[.int .i64 h1.kind, .int .i64 h1.int, .string h1.text, .int .i64 h1.rc, .slice h1.a h1.n h1.cap], .slice (some ⟨b2, o2, none⟩) n2 c2, .int .i64 (k : Int), .pointer (some ⟨b2, o2 + k * 5, none⟩), .agg #[.int .i64 h2.kind, .int .i64 h2.int, .string h2.text, .int .i64 h2.rc, .slice h2.a h2.n h2.cap], u22', u23', p24], defers := [] } w) :
    ∀ (fuel : Nat) (q0 q1 q2 q3 q4 q5 q6 q7 q8 : Bool) (u13 u14 u15 u16 u17 u18 u19 u20 u21 u22 u23 : Value) (e0 : q0 = true → u13 = .func (.yield l) #[] #[]) (e1 : q1 = true → u14 = .slice (some ⟨b1, o1, none⟩) n1 c1) (e2 : q2 = true → u15 = .int .i64 (k : Int)) (e3 : q3 = true → u16 = .pointer (some ⟨b1, o1 + k * 5, none⟩)) (e4 : q4 = true → u17 = .agg #[.int .i64 h1.kind, .int .i64 h1.int, .string h1.text, .int .i64 h1.rc, .slice h1.a h1.n h1.cap]) (e5 : q5 = true → u18 = .slice (some ⟨b2, o2, none⟩) n2 c2) (e6 : q6 = true → u19 = .int .i64 (k : Int)) (e7 : q7 = true → u20 = .pointer (some ⟨b2, o2 + k * 5, none⟩)) (e8 : q8 = true → u21 = .agg #[.int .i64 h2.kind, .int .i64 h2.int, .string h2.text, .int .i64 h2.rc, .slice h2.a h2.n h2.cap]) (c3 : q3 = true → q1 = true ∧ q2 = true) (c4 : q4 = true → q3 = true) (c7 : q7 = true → q5 = true ∧ q6 = true) (c8 : q8 = true → q7 = true), (!q0).toNat + (!q1).toNat + (!q2).toNat + (!q3).toNat + (!q4).toNat + (!q5).toNat + (!q6).toNat + (!q7).toNat + (!q8).toNat + 2 = fuel → wpAnyIn F n Try.prog .any pops Q fuel #[q0, q1, q2, q3, q4, q5, q6, q7, q8, false, false] { tmps := #[.func (.yield l) #[] #[], .pointer (some ⟨B1, 0, none⟩), .pointer (some ⟨B2, 0, none⟩), p3, .int .i64 (k : Int), p5, p6, p7, p8, p9, p10, p11, p12, u13, u14, u15, u16, u17, u18, u19, u20, u21, u22, u23, p24], defers := [] } w := by
  intro fuel
  induction fuel with
  | zero => intro q0 q1 q2 q3 q4 q5 q6 q7 q8 u13 u14 u15 u16 u17 u18 u19 u20 u21 u22 u23 e0 e1 e2 e3 e4 e5 e6 e7 e8 c3 c4 c7 c8 hc; omega
  | succ fuel ih =>
  intro q0 q1 q2 q3 q4 q5 q6 q7 q8 u13 u14 u15 u16 u17 u18 u19 u20 u21 u22 u23 e0 e1 e2 e3 e4 e5 e6 e7 e8 c3 c4 c7 c8 hc
  refine ⟨fun h => absurd h (pops_ready _ _ _ _ _ _ _ _ _), fun j hj => ?_⟩
  match j, hj with
  | 0, hj =>
    obtain ⟨hj0, o, ho, hd⟩ := mem_ready.1 hj
    have hq : q0 = false := by simpa using hj0
    refine wpOpIn_step rfl (fun K hK => ?_)
    clear hd ho hj0 hj
    go_simp
    refine hK _ _ ?_
    exact ih true q1 q2 q3 q4 q5 q6 q7 q8 _ _ _ _ _ _ _ _ _ _ _ (fun _ => rfl) (by first | exact e1 | exact fun _ => rfl) (by first | exact e2 | exact fun _ => rfl) (by first | exact e3 | exact fun _ => rfl) (by first | exact e4 | exact fun _ => rfl) (by first | exact e5 | exact fun _ => rfl) (by first | exact e6 | exact fun _ => rfl) (by first | exact e7 | exact fun _ => rfl) (by first | exact e8 | exact fun _ => rfl) c3 c4 c7 c8 (by rw [hq] at hc; simp at hc ⊢; omega)
  | 1, hj =>
    obtain ⟨hj0, o, ho, hd⟩ := mem_ready.1 hj
    have hq : q1 = false := by simpa using hj0
    refine wpOpIn_step rfl (fun K hK => ?_)
    clear hd ho hj0 hj
    go_simp
    refine hK _ _ ?_
    exact ih q0 true q2 q3 q4 q5 q6 q7 q8 _ _ _ _ _ _ _ _ _ _ _ (by first | exact e0 | exact fun _ => rfl) (fun _ => rfl) (by first | exact e2 | exact fun _ => rfl) (by first | exact e3 | exact fun _ => rfl) (by first | exact e4 | exact fun _ => rfl) (by first | exact e5 | exact fun _ => rfl) (by first | exact e6 | exact fun _ => rfl) (by first | exact e7 | exact fun _ => rfl) (by first | exact e8 | exact fun _ => rfl) (fun h => ⟨rfl, (c3 h).2⟩) c4 c7 c8 (by rw [hq] at hc; simp at hc ⊢; omega)
  | 2, hj =>
    obtain ⟨hj0, o, ho, hd⟩ := mem_ready.1 hj
    have hq : q2 = false := by simpa using hj0
    refine wpOpIn_step rfl (fun K hK => ?_)
    clear hd ho hj0 hj
    go_simp
    refine hK _ _ ?_
    exact ih q0 q1 true q3 q4 q5 q6 q7 q8 _ _ _ _ _ _ _ _ _ _ _ (by first | exact e0 | exact fun _ => rfl) (by first | exact e1 | exact fun _ => rfl) (fun _ => rfl) (by first | exact e3 | exact fun _ => rfl) (by first | exact e4 | exact fun _ => rfl) (by first | exact e5 | exact fun _ => rfl) (by first | exact e6 | exact fun _ => rfl) (by first | exact e7 | exact fun _ => rfl) (by first | exact e8 | exact fun _ => rfl) (fun h => ⟨(c3 h).1, rfl⟩) c4 c7 c8 (by rw [hq] at hc; simp at hc ⊢; omega)
  | 3, hj =>
    obtain ⟨hj0, o, ho, hd⟩ := mem_ready.1 hj
    have hq : q3 = false := by simpa using hj0
    obtain rfl : _ = o := Option.some.inj ho
    have z1 : q1 = true := by simpa using hd { on := 1, ground := Ground.data } (by simp) rfl
    have f1 := e1 z1
    have z2 : q2 = true := by simpa using hd { on := 2, ground := Ground.data } (by simp) rfl
    have f2 := e2 z2
    subst f1 f2
    refine wpOpIn_step rfl (fun K hK => ?_)
    clear hd ho hj0 hj
    go_simp
    refine hK _ _ ?_
    exact ih q0 q1 q2 true q4 q5 q6 q7 q8 _ _ _ _ _ _ _ _ _ _ _ (by first | exact e0 | exact fun _ => rfl) (by first | exact e1 | exact fun _ => rfl) (by first | exact e2 | exact fun _ => rfl) (fun _ => rfl) (by first | exact e4 | exact fun _ => rfl) (by first | exact e5 | exact fun _ => rfl) (by first | exact e6 | exact fun _ => rfl) (by first | exact e7 | exact fun _ => rfl) (by first | exact e8 | exact fun _ => rfl) (fun _ => ⟨z1, z2⟩) (fun _ => rfl) c7 c8 (by rw [hq] at hc; simp at hc ⊢; omega)
  | 4, hj =>
    obtain ⟨hj0, o, ho, hd⟩ := mem_ready.1 hj
    have hq : q4 = false := by simpa using hj0
    obtain rfl : _ = o := Option.some.inj ho
    have z3 : q3 = true := by simpa using hd { on := 3, ground := Ground.data } (by simp) rfl
    have f3 := e3 z3
    subst f3
    refine wpOpIn_step rfl (fun K hK => ?_)
    clear hd ho hj0 hj
    go_simp
    refine hK _ _ ?_
    exact ih q0 q1 q2 q3 true q5 q6 q7 q8 _ _ _ _ _ _ _ _ _ _ _ (by first | exact e0 | exact fun _ => rfl) (by first | exact e1 | exact fun _ => rfl) (by first | exact e2 | exact fun _ => rfl) (by first | exact e3 | exact fun _ => rfl) (fun _ => rfl) (by first | exact e5 | exact fun _ => rfl) (by first | exact e6 | exact fun _ => rfl) (by first | exact e7 | exact fun _ => rfl) (by first | exact e8 | exact fun _ => rfl) c3 (fun _ => z3) c7 c8 (by rw [hq] at hc; simp at hc ⊢; omega)
  | 5, hj =>
    obtain ⟨hj0, o, ho, hd⟩ := mem_ready.1 hj
    have hq : q5 = false := by simpa using hj0
    refine wpOpIn_step rfl (fun K hK => ?_)
    clear hd ho hj0 hj
    go_simp
    refine hK _ _ ?_
    exact ih q0 q1 q2 q3 q4 true q6 q7 q8 _ _ _ _ _ _ _ _ _ _ _ (by first | exact e0 | exact fun _ => rfl) (by first | exact e1 | exact fun _ => rfl) (by first | exact e2 | exact fun _ => rfl) (by first | exact e3 | exact fun _ => rfl) (by first | exact e4 | exact fun _ => rfl) (fun _ => rfl) (by first | exact e6 | exact fun _ => rfl) (by first | exact e7 | exact fun _ => rfl) (by first | exact e8 | exact fun _ => rfl) c3 c4 (fun h => ⟨rfl, (c7 h).2⟩) c8 (by rw [hq] at hc; simp at hc ⊢; omega)
  | 6, hj =>
    obtain ⟨hj0, o, ho, hd⟩ := mem_ready.1 hj
    have hq : q6 = false := by simpa using hj0
    refine wpOpIn_step rfl (fun K hK => ?_)
    clear hd ho hj0 hj
    go_simp
    refine hK _ _ ?_
    exact ih q0 q1 q2 q3 q4 q5 true q7 q8 _ _ _ _ _ _ _ _ _ _ _ (by first | exact e0 | exact fun _ => rfl) (by first | exact e1 | exact fun _ => rfl) (by first | exact e2 | exact fun _ => rfl) (by first | exact e3 | exact fun _ => rfl) (by first | exact e4 | exact fun _ => rfl) (by first | exact e5 | exact fun _ => rfl) (fun _ => rfl) (by first | exact e7 | exact fun _ => rfl) (by first | exact e8 | exact fun _ => rfl) c3 c4 (fun h => ⟨(c7 h).1, rfl⟩) c8 (by rw [hq] at hc; simp at hc ⊢; omega)
  | 7, hj =>
    obtain ⟨hj0, o, ho, hd⟩ := mem_ready.1 hj
    have hq : q7 = false := by simpa using hj0
    obtain rfl : _ = o := Option.some.inj ho
    have z5 : q5 = true := by simpa using hd { on := 5, ground := Ground.data } (by simp) rfl
    have f5 := e5 z5
    have z6 : q6 = true := by simpa using hd { on := 6, ground := Ground.data } (by simp) rfl
    have f6 := e6 z6
    subst f5 f6
    refine wpOpIn_step rfl (fun K hK => ?_)
    clear hd ho hj0 hj
    go_simp
    refine hK _ _ ?_
    exact ih q0 q1 q2 q3 q4 q5 q6 true q8 _ _ _ _ _ _ _ _ _ _ _ (by first | exact e0 | exact fun _ => rfl) (by first | exact e1 | exact fun _ => rfl) (by first | exact e2 | exact fun _ => rfl) (by first | exact e3 | exact fun _ => rfl) (by first | exact e4 | exact fun _ => rfl) (by first | exact e5 | exact fun _ => rfl) (by first | exact e6 | exact fun _ => rfl) (fun _ => rfl) (by first | exact e8 | exact fun _ => rfl) c3 c4 (fun _ => ⟨z5, z6⟩) (fun _ => rfl) (by rw [hq] at hc; simp at hc ⊢; omega)
  | 8, hj =>
    obtain ⟨hj0, o, ho, hd⟩ := mem_ready.1 hj
    have hq : q8 = false := by simpa using hj0
    obtain rfl : _ = o := Option.some.inj ho
    have z7 : q7 = true := by simpa using hd { on := 7, ground := Ground.data } (by simp) rfl
    have f7 := e7 z7
    subst f7
    refine wpOpIn_step rfl (fun K hK => ?_)
    clear hd ho hj0 hj
    go_simp
    refine hK _ _ ?_
    exact ih q0 q1 q2 q3 q4 q5 q6 q7 true _ _ _ _ _ _ _ _ _ _ _ (by first | exact e0 | exact fun _ => rfl) (by first | exact e1 | exact fun _ => rfl) (by first | exact e2 | exact fun _ => rfl) (by first | exact e3 | exact fun _ => rfl) (by first | exact e4 | exact fun _ => rfl) (by first | exact e5 | exact fun _ => rfl) (by first | exact e6 | exact fun _ => rfl) (by first | exact e7 | exact fun _ => rfl) (fun _ => rfl) c3 c4 c7 (fun _ => z7) (by rw [hq] at hc; simp at hc ⊢; omega)
  | 9, hj =>
    obtain ⟨hj0, o, ho, hd⟩ := mem_ready.1 hj
    obtain rfl : _ = o := Option.some.inj ho
    have z0 : q0 = true := by simpa using hd { on := 0, ground := Ground.data } (by simp) rfl
    have z4 : q4 = true := by simpa using hd { on := 4, ground := Ground.data } (by simp) rfl
    have z8 : q8 = true := by simpa using hd { on := 8, ground := Ground.data } (by simp) rfl
    have z3 := c4 z4
    have z7 := c8 z8
    obtain ⟨z1, z2⟩ := c3 z3
    obtain ⟨z5, z6⟩ := c7 z7
    have f0 := e0 z0
    have f1 := e1 z1
    have f2 := e2 z2
    have f3 := e3 z3
    have f4 := e4 z4
    have f5 := e5 z5
    have f6 := e6 z6
    have f7 := e7 z7
    have f8 := e8 z8
    subst f0 f1 f2 f3 f4 f5 f6 f7 f8
    subst z0 z1 z2 z3 z4 z5 z6 z7 z8
    obtain rfl : fuel = 1 := by simp at hc; omega
    exact (hend u22 u23).2 9 hj
  | 10, hj =>
    obtain ⟨hj0, o, ho, hd⟩ := mem_ready.1 hj
    obtain rfl : _ = o := Option.some.inj ho
    have := hd { on := 9, ground := Ground.data } (by simp) rfl
    simp at this
  | j + 11, hj =>
    obtain ⟨hj0, o, ho, hd⟩ := mem_ready.1 hj
    simp [pops] at ho
end Go.Proofs.Ytenfgahedbeekaa
