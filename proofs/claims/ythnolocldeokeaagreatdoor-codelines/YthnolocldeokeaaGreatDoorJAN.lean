/- The functions of a code: a function that is ranged over. -/
import Derived.Test.YthnolocldeokeaaGreatDoorJAM
namespace Go.Proofs.YthnolocldeokeaaGreatDoor
open Go.RowKit Go.Deep Go.Shelf
set_option linter.unusedVariables false
set_option linter.unusedSimpArgs false
attribute [local go_sem] Oper.semAt_some
abbrev pop3 : Array Oper := #[{ dst := some 15, op := Op.move (Operand.tmp 0), type := 121, pos := "code.go:38", after := #[], guard := none }, { dst := some 16, op := Op.fieldAddr 51 (Operand.tmp 1) 0, type := 0, pos := "code.go:38", after := #[], guard := none }, { dst := some 17, op := Op.fieldAddr 40 (Operand.tmp 16) 2, type := 0, pos := "code.go:38", after := #[{ on := 1, ground := Ground.data }], guard := none }, { dst := some 18, op := Op.load 36 (Operand.tmp 17), type := 36, pos := "code.go:38", after := #[{ on := 2, ground := Ground.data }], guard := none }, { dst := some 19, op := Op.move (Operand.tmp 3), type := 3, pos := "code.go:38", after := #[], guard := none }, { dst := some 20, op := Op.indexAddr 36 (Operand.tmp 18) (Operand.tmp 19), type := 0, pos := "code.go:38", after := #[{ on := 3, ground := Ground.data }, { on := 4, ground := Ground.data }], guard := none }, { dst := some 21, op := Op.load 35 (Operand.tmp 20), type := 35, pos := "code.go:38", after := #[{ on := 5, ground := Ground.data }], guard := none }, { dst := some 22, op := Op.load 46 (Operand.tmp 4), type := 46, pos := "code.go:38", after := #[], guard := none }, { dst := some 23, op := Op.call { callee := Callee.value (Operand.tmp 15), args := #[Operand.tmp 21, Operand.tmp 22], argTypes := #[35, 46] }, type := 4, pos := "code.go:38", after := #[{ on := 0, ground := Ground.data }, { on := 6, ground := Ground.data }, { on := 7, ground := Ground.data }], guard := none }, { dst := some 24, op := Op.unOp UnOp.not 4 (Operand.tmp 23), type := 4, pos := "code.go:38", after := #[{ on := 8, ground := Ground.data }], guard := none }]
theorem pop3_ready : ∀ b0 b1 b2 b3 b4 b5 b6 b7 : Bool, Region.ready .any pop3 #[b0, b1, b2, b3, b4, b5, b6, b7, false, false] ≠ [] := by decide +kernel
set_option maxRecDepth 100000 in
set_option maxHeartbeats 2000000 in
theorem pop3_reads (F : Fence) (n : Nat) (hro : F.round = none) (w : World) (l Bx fb k sb so sn sc : Nat) (nm : ByteArray) (pa : Option Addr) (pn pc : Nat) (kd rr regs : Int) (oa : Option Addr) (on oc : Nat) (p2 p5 p6 p7 p8 p9 p10 p11 p12 p13 p14 p25 p26 p27 p28 p29 p30 p31 p32 p33 p34 p35 p36 p37 p38 p39 p40 p41 p42 p43 p44 : Value) (Q : Exit → Act → World → Prop)
    (hB : w.cell? ⟨Bx, 2, none⟩ = some (.slice (some ⟨sb, so, none⟩) sn sc)) (hk : k < sn) (hsn : sn ≤ 9223372036854775807)
    (x0 : w.cell? ⟨sb, so + k * 4, none⟩ = some (.string nm)) (x1 : w.cell? ⟨sb, so + k * 4 + 1, none⟩ = some (.slice pa pn pc)) (x2 : w.cell? ⟨sb, so + k * 4 + 2, none⟩ = some (.int .i64 kd)) (x3 : w.cell? ⟨sb, so + k * 4 + 3, none⟩ = some (.int .i64 rr))
    (y0 : w.cell? ⟨fb, 0, none⟩ = some (.int .i64 regs)) (y1 : w.cell? ⟨fb, 1, none⟩ = some (.slice oa on oc))
    (hend : ∀ u23' u24', wpAnyIn F n Tryz.prog .any pop3 Q 2 #[true, true, true, true, true, true, true, true, false, false] { tmps := #[.func (.yield l) #[] #[], .pointer (some ⟨Bx, 0, none⟩), p2, .int .i64 (k : Int), .pointer (some ⟨fb, 0, none⟩), p5, p6, p7, p8, p9, p10, p11, p12, p13, p14, .func (.yield l) #[] #[], .pointer (some ⟨Bx, 0, none⟩), .pointer (some ⟨Bx, 2, none⟩), .slice (some ⟨sb, so, none⟩) sn sc, .int .i64 (k : Int), .pointer (some ⟨sb, so + k * 4, none⟩), .agg #[.string nm, .slice pa pn pc, .int .i64 kd, .int .i64 rr], .agg #[.int .i64 regs, .slice oa on oc], u23', u24', p25, p26, p27, p28, p29, p30, p31, p32, p33, p34, p35, p36, p37, p38, p39, p40, p41, p42, p43, p44], defers := [] } w) :
    ∀ (fuel : Nat) (q0 q1 q2 q3 q4 q5 q6 q7 : Bool) (u15 u16 u17 u18 u19 u20 u21 u22 u23 u24 : Value) (e0 : q0 = true → u15 = .func (.yield l) #[] #[]) (e1 : q1 = true → u16 = .pointer (some ⟨Bx, 0, none⟩)) (e2 : q2 = true → u17 = .pointer (some ⟨Bx, 2, none⟩)) (e3 : q3 = true → u18 = .slice (some ⟨sb, so, none⟩) sn sc) (e4 : q4 = true → u19 = .int .i64 (k : Int)) (e5 : q5 = true → u20 = .pointer (some ⟨sb, so + k * 4, none⟩)) (e6 : q6 = true → u21 = .agg #[.string nm, .slice pa pn pc, .int .i64 kd, .int .i64 rr]) (e7 : q7 = true → u22 = .agg #[.int .i64 regs, .slice oa on oc]) (c2 : q2 = true → q1 = true) (c3 : q3 = true → q2 = true) (c5 : q5 = true → q3 = true ∧ q4 = true) (c6 : q6 = true → q5 = true), (!q0).toNat + (!q1).toNat + (!q2).toNat + (!q3).toNat + (!q4).toNat + (!q5).toNat + (!q6).toNat + (!q7).toNat + 2 = fuel → wpAnyIn F n Tryz.prog .any pop3 Q fuel #[q0, q1, q2, q3, q4, q5, q6, q7, false, false] { tmps := #[.func (.yield l) #[] #[], .pointer (some ⟨Bx, 0, none⟩), p2, .int .i64 (k : Int), .pointer (some ⟨fb, 0, none⟩), p5, p6, p7, p8, p9, p10, p11, p12, p13, p14, u15, u16, u17, u18, u19, u20, u21, u22, u23, u24, p25, p26, p27, p28, p29, p30, p31, p32, p33, p34, p35, p36, p37, p38, p39, p40, p41, p42, p43, p44], defers := [] } w := by
  have hkI : (k : Int) < (sn : Int) := by omega
  have hk0 : (0 : Int) ≤ (k : Int) := by omega
  intro fuel
  induction fuel with
  | zero => intro q0 q1 q2 q3 q4 q5 q6 q7 u15 u16 u17 u18 u19 u20 u21 u22 u23 u24 e0 e1 e2 e3 e4 e5 e6 e7 c2 c3 c5 c6 hc; omega
  | succ fuel ih =>
  intro q0 q1 q2 q3 q4 q5 q6 q7 u15 u16 u17 u18 u19 u20 u21 u22 u23 u24 e0 e1 e2 e3 e4 e5 e6 e7 c2 c3 c5 c6 hc
  refine ⟨fun h => absurd h (pop3_ready _ _ _ _ _ _ _ _), fun j hj => ?_⟩
  match j, hj with
  | 0, hj =>
    obtain ⟨hj0, o, ho, hd⟩ := mem_ready.1 hj
    have hq : q0 = false := by simpa using hj0
    refine wpOpIn_step rfl (fun K hK => ?_)
    clear hd ho hj0 hj
    go_simp
    refine hK _ _ ?_
    exact ih true q1 q2 q3 q4 q5 q6 q7 _ _ _ _ _ _ _ _ _ _ (fun _ => rfl) (by first | exact e1 | exact fun _ => rfl) (by first | exact e2 | exact fun _ => rfl) (by first | exact e3 | exact fun _ => rfl) (by first | exact e4 | exact fun _ => rfl) (by first | exact e5 | exact fun _ => rfl) (by first | exact e6 | exact fun _ => rfl) (by first | exact e7 | exact fun _ => rfl) c2 c3 c5 c6 (by rw [hq] at hc; simp at hc ⊢; omega)
  | 1, hj =>
    obtain ⟨hj0, o, ho, hd⟩ := mem_ready.1 hj
    have hq : q1 = false := by simpa using hj0
    refine wpOpIn_step rfl (fun K hK => ?_)
    clear hd ho hj0 hj
    go_simp
    refine hK _ _ ?_
    exact ih q0 true q2 q3 q4 q5 q6 q7 _ _ _ _ _ _ _ _ _ _ (by first | exact e0 | exact fun _ => rfl) (fun _ => rfl) (by first | exact e2 | exact fun _ => rfl) (by first | exact e3 | exact fun _ => rfl) (by first | exact e4 | exact fun _ => rfl) (by first | exact e5 | exact fun _ => rfl) (by first | exact e6 | exact fun _ => rfl) (by first | exact e7 | exact fun _ => rfl) (fun _ => rfl) c3 c5 c6 (by rw [hq] at hc; simp at hc ⊢; omega)
  | 2, hj =>
    obtain ⟨hj0, o, ho, hd⟩ := mem_ready.1 hj
    have hq : q2 = false := by simpa using hj0
    obtain rfl : _ = o := Option.some.inj ho
    have z1 : q1 = true := by simpa using hd { on := 1, ground := Ground.data } (by simp) rfl
    have f1 := e1 z1
    subst f1
    refine wpOpIn_step rfl (fun K hK => ?_)
    clear hd ho hj0 hj
    go_simp
    refine hK _ _ ?_
    exact ih q0 q1 true q3 q4 q5 q6 q7 _ _ _ _ _ _ _ _ _ _ (by first | exact e0 | exact fun _ => rfl) (by first | exact e1 | exact fun _ => rfl) (fun _ => rfl) (by first | exact e3 | exact fun _ => rfl) (by first | exact e4 | exact fun _ => rfl) (by first | exact e5 | exact fun _ => rfl) (by first | exact e6 | exact fun _ => rfl) (by first | exact e7 | exact fun _ => rfl) (fun _ => z1) (fun _ => rfl) c5 c6 (by rw [hq] at hc; simp at hc ⊢; omega)
  | 3, hj =>
    obtain ⟨hj0, o, ho, hd⟩ := mem_ready.1 hj
    have hq : q3 = false := by simpa using hj0
    obtain rfl : _ = o := Option.some.inj ho
    have z2 : q2 = true := by simpa using hd { on := 2, ground := Ground.data } (by simp) rfl
    have f2 := e2 z2
    subst f2
    refine wpOpIn_step rfl (fun K hK => ?_)
    clear hd ho hj0 hj
    go_simp
    refine hK _ _ ?_
    exact ih q0 q1 q2 true q4 q5 q6 q7 _ _ _ _ _ _ _ _ _ _ (by first | exact e0 | exact fun _ => rfl) (by first | exact e1 | exact fun _ => rfl) (by first | exact e2 | exact fun _ => rfl) (fun _ => rfl) (by first | exact e4 | exact fun _ => rfl) (by first | exact e5 | exact fun _ => rfl) (by first | exact e6 | exact fun _ => rfl) (by first | exact e7 | exact fun _ => rfl) c2 (fun _ => z2) (fun h => ⟨rfl, (c5 h).2⟩) c6 (by rw [hq] at hc; simp at hc ⊢; omega)
  | 4, hj =>
    obtain ⟨hj0, o, ho, hd⟩ := mem_ready.1 hj
    have hq : q4 = false := by simpa using hj0
    refine wpOpIn_step rfl (fun K hK => ?_)
    clear hd ho hj0 hj
    go_simp
    refine hK _ _ ?_
    exact ih q0 q1 q2 q3 true q5 q6 q7 _ _ _ _ _ _ _ _ _ _ (by first | exact e0 | exact fun _ => rfl) (by first | exact e1 | exact fun _ => rfl) (by first | exact e2 | exact fun _ => rfl) (by first | exact e3 | exact fun _ => rfl) (fun _ => rfl) (by first | exact e5 | exact fun _ => rfl) (by first | exact e6 | exact fun _ => rfl) (by first | exact e7 | exact fun _ => rfl) c2 c3 (fun h => ⟨(c5 h).1, rfl⟩) c6 (by rw [hq] at hc; simp at hc ⊢; omega)
  | 5, hj =>
    obtain ⟨hj0, o, ho, hd⟩ := mem_ready.1 hj
    have hq : q5 = false := by simpa using hj0
    obtain rfl : _ = o := Option.some.inj ho
    have z3 : q3 = true := by simpa using hd { on := 3, ground := Ground.data } (by simp) rfl
    have f3 := e3 z3
    have z4 : q4 = true := by simpa using hd { on := 4, ground := Ground.data } (by simp) rfl
    have f4 := e4 z4
    subst f3 f4
    refine wpOpIn_step rfl (fun K hK => ?_)
    clear hd ho hj0 hj
    go_simp
    refine hK _ _ ?_
    exact ih q0 q1 q2 q3 q4 true q6 q7 _ _ _ _ _ _ _ _ _ _ (by first | exact e0 | exact fun _ => rfl) (by first | exact e1 | exact fun _ => rfl) (by first | exact e2 | exact fun _ => rfl) (by first | exact e3 | exact fun _ => rfl) (by first | exact e4 | exact fun _ => rfl) (fun _ => rfl) (by first | exact e6 | exact fun _ => rfl) (by first | exact e7 | exact fun _ => rfl) c2 c3 (fun _ => ⟨z3, z4⟩) (fun _ => rfl) (by rw [hq] at hc; simp at hc ⊢; omega)
  | 6, hj =>
    obtain ⟨hj0, o, ho, hd⟩ := mem_ready.1 hj
    have hq : q6 = false := by simpa using hj0
    obtain rfl : _ = o := Option.some.inj ho
    have z5 : q5 = true := by simpa using hd { on := 5, ground := Ground.data } (by simp) rfl
    have f5 := e5 z5
    subst f5
    refine wpOpIn_step rfl (fun K hK => ?_)
    clear hd ho hj0 hj
    go_simp
    refine hK _ _ ?_
    exact ih q0 q1 q2 q3 q4 q5 true q7 _ _ _ _ _ _ _ _ _ _ (by first | exact e0 | exact fun _ => rfl) (by first | exact e1 | exact fun _ => rfl) (by first | exact e2 | exact fun _ => rfl) (by first | exact e3 | exact fun _ => rfl) (by first | exact e4 | exact fun _ => rfl) (by first | exact e5 | exact fun _ => rfl) (fun _ => rfl) (by first | exact e7 | exact fun _ => rfl) c2 c3 c5 (fun _ => z5) (by rw [hq] at hc; simp at hc ⊢; omega)
  | 7, hj =>
    obtain ⟨hj0, o, ho, hd⟩ := mem_ready.1 hj
    have hq : q7 = false := by simpa using hj0
    refine wpOpIn_step rfl (fun K hK => ?_)
    clear hd ho hj0 hj
    go_simp
    refine hK _ _ ?_
    exact ih q0 q1 q2 q3 q4 q5 q6 true _ _ _ _ _ _ _ _ _ _ (by first | exact e0 | exact fun _ => rfl) (by first | exact e1 | exact fun _ => rfl) (by first | exact e2 | exact fun _ => rfl) (by first | exact e3 | exact fun _ => rfl) (by first | exact e4 | exact fun _ => rfl) (by first | exact e5 | exact fun _ => rfl) (by first | exact e6 | exact fun _ => rfl) (fun _ => rfl) c2 c3 c5 c6 (by rw [hq] at hc; simp at hc ⊢; omega)
  | 8, hj =>
    obtain ⟨hj0, o, ho, hd⟩ := mem_ready.1 hj
    obtain rfl : _ = o := Option.some.inj ho
    have z0 : q0 = true := by simpa using hd { on := 0, ground := Ground.data } (by simp) rfl
    have z6 : q6 = true := by simpa using hd { on := 6, ground := Ground.data } (by simp) rfl
    have z7 : q7 = true := by simpa using hd { on := 7, ground := Ground.data } (by simp) rfl
    have z5 := c6 z6
    obtain ⟨z3, z4⟩ := c5 z5
    have z2 := c3 z3
    have z1 := c2 z2
    have f0 := e0 z0
    have f1 := e1 z1
    have f2 := e2 z2
    have f3 := e3 z3
    have f4 := e4 z4
    have f5 := e5 z5
    have f6 := e6 z6
    have f7 := e7 z7
    subst f0 f1 f2 f3 f4 f5 f6 f7
    subst z0 z1 z2 z3 z4 z5 z6 z7
    obtain rfl : fuel = 1 := by simp at hc; omega
    exact (hend u23 u24).2 8 hj
  | 9, hj =>
    obtain ⟨hj0, o, ho, hd⟩ := mem_ready.1 hj
    obtain rfl : _ = o := Option.some.inj ho
    have := hd { on := 8, ground := Ground.data } (by simp) rfl
    simp at this
  | j + 10, hj =>
    obtain ⟨hj0, o, ho, hd⟩ := mem_ready.1 hj
    simp [pop3] at ho
abbrev pop8 : Array Oper := #[{ dst := some 34, op := Op.move (Operand.tmp 0), type := 121, pos := "code.go:43", after := #[], guard := none }, { dst := some 35, op := Op.fieldAddr 51 (Operand.tmp 1) 0, type := 0, pos := "code.go:43", after := #[], guard := none }, { dst := some 36, op := Op.fieldAddr 40 (Operand.tmp 35) 3, type := 0, pos := "code.go:43", after := #[{ on := 1, ground := Ground.data }], guard := none }, { dst := some 37, op := Op.load 36 (Operand.tmp 36), type := 36, pos := "code.go:43", after := #[{ on := 2, ground := Ground.data }], guard := none }, { dst := some 38, op := Op.move (Operand.tmp 5), type := 3, pos := "code.go:43", after := #[], guard := none }, { dst := some 39, op := Op.indexAddr 36 (Operand.tmp 37) (Operand.tmp 38), type := 0, pos := "code.go:43", after := #[{ on := 3, ground := Ground.data }, { on := 4, ground := Ground.data }], guard := none }, { dst := some 40, op := Op.load 35 (Operand.tmp 39), type := 35, pos := "code.go:43", after := #[{ on := 5, ground := Ground.data }], guard := none }, { dst := some 41, op := Op.load 46 (Operand.tmp 6), type := 46, pos := "code.go:43", after := #[], guard := none }, { dst := some 42, op := Op.call { callee := Callee.value (Operand.tmp 34), args := #[Operand.tmp 40, Operand.tmp 41], argTypes := #[35, 46] }, type := 4, pos := "code.go:43", after := #[{ on := 0, ground := Ground.data }, { on := 6, ground := Ground.data }, { on := 7, ground := Ground.data }], guard := none }, { dst := some 43, op := Op.unOp UnOp.not 4 (Operand.tmp 42), type := 4, pos := "code.go:43", after := #[{ on := 8, ground := Ground.data }], guard := none }]
theorem pop8_ready : ∀ b0 b1 b2 b3 b4 b5 b6 b7 : Bool, Region.ready .any pop8 #[b0, b1, b2, b3, b4, b5, b6, b7, false, false] ≠ [] := by decide +kernel
set_option maxRecDepth 100000 in
set_option maxHeartbeats 2000000 in
theorem pop8_reads (F : Fence) (n : Nat) (hro : F.round = none) (w : World) (l Bx fb k sb so sn sc : Nat) (nm : ByteArray) (pa : Option Addr) (pn pc : Nat) (kd rr regs : Int) (oa : Option Addr) (on oc : Nat) (p2 p3 p4 p7 p8 p9 p10 p11 p12 p13 p14 p15 p16 p17 p18 p19 p20 p21 p22 p23 p24 p25 p26 p27 p28 p29 p30 p31 p32 p33 p44 : Value) (Q : Exit → Act → World → Prop)
    (hB : w.cell? ⟨Bx, 3, none⟩ = some (.slice (some ⟨sb, so, none⟩) sn sc)) (hk : k < sn) (hsn : sn ≤ 9223372036854775807)
    (x0 : w.cell? ⟨sb, so + k * 4, none⟩ = some (.string nm)) (x1 : w.cell? ⟨sb, so + k * 4 + 1, none⟩ = some (.slice pa pn pc)) (x2 : w.cell? ⟨sb, so + k * 4 + 2, none⟩ = some (.int .i64 kd)) (x3 : w.cell? ⟨sb, so + k * 4 + 3, none⟩ = some (.int .i64 rr))
    (y0 : w.cell? ⟨fb, 0, none⟩ = some (.int .i64 regs)) (y1 : w.cell? ⟨fb, 1, none⟩ = some (.slice oa on oc))
    (hend : ∀ u42' u43', wpAnyIn F n Tryz.prog .any pop8 Q 2 #[true, true, true, true, true, true, true, true, false, false] { tmps := #[.func (.yield l) #[] #[], .pointer (some ⟨Bx, 0, none⟩), p2, p3, p4, .int .i64 (k : Int), .pointer (some ⟨fb, 0, none⟩), p7, p8, p9, p10, p11, p12, p13, p14, p15, p16, p17, p18, p19, p20, p21, p22, p23, p24, p25, p26, p27, p28, p29, p30, p31, p32, p33, .func (.yield l) #[] #[], .pointer (some ⟨Bx, 0, none⟩), .pointer (some ⟨Bx, 3, none⟩), .slice (some ⟨sb, so, none⟩) sn sc, .int .i64 (k : Int), .pointer (some ⟨sb, so + k * 4, none⟩), .agg #[.string nm, .slice pa pn pc, .int .i64 kd, .int .i64 rr], .agg #[.int .i64 regs, .slice oa on oc], u42', u43', p44], defers := [] } w) :
    ∀ (fuel : Nat) (q0 q1 q2 q3 q4 q5 q6 q7 : Bool) (u34 u35 u36 u37 u38 u39 u40 u41 u42 u43 : Value) (e0 : q0 = true → u34 = .func (.yield l) #[] #[]) (e1 : q1 = true → u35 = .pointer (some ⟨Bx, 0, none⟩)) (e2 : q2 = true → u36 = .pointer (some ⟨Bx, 3, none⟩)) (e3 : q3 = true → u37 = .slice (some ⟨sb, so, none⟩) sn sc) (e4 : q4 = true → u38 = .int .i64 (k : Int)) (e5 : q5 = true → u39 = .pointer (some ⟨sb, so + k * 4, none⟩)) (e6 : q6 = true → u40 = .agg #[.string nm, .slice pa pn pc, .int .i64 kd, .int .i64 rr]) (e7 : q7 = true → u41 = .agg #[.int .i64 regs, .slice oa on oc]) (c2 : q2 = true → q1 = true) (c3 : q3 = true → q2 = true) (c5 : q5 = true → q3 = true ∧ q4 = true) (c6 : q6 = true → q5 = true), (!q0).toNat + (!q1).toNat + (!q2).toNat + (!q3).toNat + (!q4).toNat + (!q5).toNat + (!q6).toNat + (!q7).toNat + 2 = fuel → wpAnyIn F n Tryz.prog .any pop8 Q fuel #[q0, q1, q2, q3, q4, q5, q6, q7, false, false] { tmps := #[.func (.yield l) #[] #[], .pointer (some ⟨Bx, 0, none⟩), p2, p3, p4, .int .i64 (k : Int), .pointer (some ⟨fb, 0, none⟩), p7, p8, p9, p10, p11, p12, p13, p14, p15, p16, p17, p18, p19, p20, p21, p22, p23, p24, p25, p26, p27, p28, p29, p30, p31, p32, p33, u34, u35, u36, u37, u38, u39, u40, u41, u42, u43, p44], defers := [] } w := by
  have hkI : (k : Int) < (sn : Int) := by omega
  have hk0 : (0 : Int) ≤ (k : Int) := by omega
  intro fuel
  induction fuel with
  | zero => intro q0 q1 q2 q3 q4 q5 q6 q7 u34 u35 u36 u37 u38 u39 u40 u41 u42 u43 e0 e1 e2 e3 e4 e5 e6 e7 c2 c3 c5 c6 hc; omega
  | succ fuel ih =>
  intro q0 q1 q2 q3 q4 q5 q6 q7 u34 u35 u36 u37 u38 u39 u40 u41 u42 u43 e0 e1 e2 e3 e4 e5 e6 e7 c2 c3 c5 c6 hc
  refine ⟨fun h => absurd h (pop8_ready _ _ _ _ _ _ _ _), fun j hj => ?_⟩
  match j, hj with
  | 0, hj =>
    obtain ⟨hj0, o, ho, hd⟩ := mem_ready.1 hj
    have hq : q0 = false := by simpa using hj0
    refine wpOpIn_step rfl (fun K hK => ?_)
    clear hd ho hj0 hj
    go_simp
    refine hK _ _ ?_
    exact ih true q1 q2 q3 q4 q5 q6 q7 _ _ _ _ _ _ _ _ _ _ (fun _ => rfl) (by first | exact e1 | exact fun _ => rfl) (by first | exact e2 | exact fun _ => rfl) (by first | exact e3 | exact fun _ => rfl) (by first | exact e4 | exact fun _ => rfl) (by first | exact e5 | exact fun _ => rfl) (by first | exact e6 | exact fun _ => rfl) (by first | exact e7 | exact fun _ => rfl) c2 c3 c5 c6 (by rw [hq] at hc; simp at hc ⊢; omega)
  | 1, hj =>
    obtain ⟨hj0, o, ho, hd⟩ := mem_ready.1 hj
    have hq : q1 = false := by simpa using hj0
    refine wpOpIn_step rfl (fun K hK => ?_)
    clear hd ho hj0 hj
    go_simp
    refine hK _ _ ?_
    exact ih q0 true q2 q3 q4 q5 q6 q7 _ _ _ _ _ _ _ _ _ _ (by first | exact e0 | exact fun _ => rfl) (fun _ => rfl) (by first | exact e2 | exact fun _ => rfl) (by first | exact e3 | exact fun _ => rfl) (by first | exact e4 | exact fun _ => rfl) (by first | exact e5 | exact fun _ => rfl) (by first | exact e6 | exact fun _ => rfl) (by first | exact e7 | exact fun _ => rfl) (fun _ => rfl) c3 c5 c6 (by rw [hq] at hc; simp at hc ⊢; omega)
  | 2, hj =>
    obtain ⟨hj0, o, ho, hd⟩ := mem_ready.1 hj
    have hq : q2 = false := by simpa using hj0
    obtain rfl : _ = o := Option.some.inj ho
    have z1 : q1 = true := by simpa using hd { on := 1, ground := Ground.data } (by simp) rfl
    have f1 := e1 z1
    subst f1
    refine wpOpIn_step rfl (fun K hK => ?_)
    clear hd ho hj0 hj
    go_simp
    refine hK _ _ ?_
    exact ih q0 q1 true q3 q4 q5 q6 q7 _ _ _ _ _ _ _ _ _ _ (by first | exact e0 | exact fun _ => rfl) (by first | exact e1 | exact fun _ => rfl) (fun _ => rfl) (by first | exact e3 | exact fun _ => rfl) (by first | exact e4 | exact fun _ => rfl) (by first | exact e5 | exact fun _ => rfl) (by first | exact e6 | exact fun _ => rfl) (by first | exact e7 | exact fun _ => rfl) (fun _ => z1) (fun _ => rfl) c5 c6 (by rw [hq] at hc; simp at hc ⊢; omega)
  | 3, hj =>
    obtain ⟨hj0, o, ho, hd⟩ := mem_ready.1 hj
    have hq : q3 = false := by simpa using hj0
    obtain rfl : _ = o := Option.some.inj ho
    have z2 : q2 = true := by simpa using hd { on := 2, ground := Ground.data } (by simp) rfl
    have f2 := e2 z2
    subst f2
    refine wpOpIn_step rfl (fun K hK => ?_)
    clear hd ho hj0 hj
    go_simp
    refine hK _ _ ?_
    exact ih q0 q1 q2 true q4 q5 q6 q7 _ _ _ _ _ _ _ _ _ _ (by first | exact e0 | exact fun _ => rfl) (by first | exact e1 | exact fun _ => rfl) (by first | exact e2 | exact fun _ => rfl) (fun _ => rfl) (by first | exact e4 | exact fun _ => rfl) (by first | exact e5 | exact fun _ => rfl) (by first | exact e6 | exact fun _ => rfl) (by first | exact e7 | exact fun _ => rfl) c2 (fun _ => z2) (fun h => ⟨rfl, (c5 h).2⟩) c6 (by rw [hq] at hc; simp at hc ⊢; omega)
  | 4, hj =>
    obtain ⟨hj0, o, ho, hd⟩ := mem_ready.1 hj
    have hq : q4 = false := by simpa using hj0
    refine wpOpIn_step rfl (fun K hK => ?_)
    clear hd ho hj0 hj
    go_simp
    refine hK _ _ ?_
    exact ih q0 q1 q2 q3 true q5 q6 q7 _ _ _ _ _ _ _ _ _ _ (by first | exact e0 | exact fun _ => rfl) (by first | exact e1 | exact fun _ => rfl) (by first | exact e2 | exact fun _ => rfl) (by first | exact e3 | exact fun _ => rfl) (fun _ => rfl) (by first | exact e5 | exact fun _ => rfl) (by first | exact e6 | exact fun _ => rfl) (by first | exact e7 | exact fun _ => rfl) c2 c3 (fun h => ⟨(c5 h).1, rfl⟩) c6 (by rw [hq] at hc; simp at hc ⊢; omega)
  | 5, hj =>
    obtain ⟨hj0, o, ho, hd⟩ := mem_ready.1 hj
    have hq : q5 = false := by simpa using hj0
    obtain rfl : _ = o := Option.some.inj ho
    have z3 : q3 = true := by simpa using hd { on := 3, ground := Ground.data } (by simp) rfl
    have f3 := e3 z3
    have z4 : q4 = true := by simpa using hd { on := 4, ground := Ground.data } (by simp) rfl
    have f4 := e4 z4
    subst f3 f4
    refine wpOpIn_step rfl (fun K hK => ?_)
    clear hd ho hj0 hj
    go_simp
    refine hK _ _ ?_
    exact ih q0 q1 q2 q3 q4 true q6 q7 _ _ _ _ _ _ _ _ _ _ (by first | exact e0 | exact fun _ => rfl) (by first | exact e1 | exact fun _ => rfl) (by first | exact e2 | exact fun _ => rfl) (by first | exact e3 | exact fun _ => rfl) (by first | exact e4 | exact fun _ => rfl) (fun _ => rfl) (by first | exact e6 | exact fun _ => rfl) (by first | exact e7 | exact fun _ => rfl) c2 c3 (fun _ => ⟨z3, z4⟩) (fun _ => rfl) (by rw [hq] at hc; simp at hc ⊢; omega)
  | 6, hj =>
    obtain ⟨hj0, o, ho, hd⟩ := mem_ready.1 hj
    have hq : q6 = false := by simpa using hj0
    obtain rfl : _ = o := Option.some.inj ho
    have z5 : q5 = true := by simpa using hd { on := 5, ground := Ground.data } (by simp) rfl
    have f5 := e5 z5
    subst f5
    refine wpOpIn_step rfl (fun K hK => ?_)
    clear hd ho hj0 hj
    go_simp
    refine hK _ _ ?_
    exact ih q0 q1 q2 q3 q4 q5 true q7 _ _ _ _ _ _ _ _ _ _ (by first | exact e0 | exact fun _ => rfl) (by first | exact e1 | exact fun _ => rfl) (by first | exact e2 | exact fun _ => rfl) (by first | exact e3 | exact fun _ => rfl) (by first | exact e4 | exact fun _ => rfl) (by first | exact e5 | exact fun _ => rfl) (fun _ => rfl) (by first | exact e7 | exact fun _ => rfl) c2 c3 c5 (fun _ => z5) (by rw [hq] at hc; simp at hc ⊢; omega)
  | 7, hj =>
    obtain ⟨hj0, o, ho, hd⟩ := mem_ready.1 hj
    have hq : q7 = false := by simpa using hj0
    refine wpOpIn_step rfl (fun K hK => ?_)
    clear hd ho hj0 hj
    go_simp
    refine hK _ _ ?_
    exact ih q0 q1 q2 q3 q4 q5 q6 true _ _ _ _ _ _ _ _ _ _ (by first | exact e0 | exact fun _ => rfl) (by first | exact e1 | exact fun _ => rfl) (by first | exact e2 | exact fun _ => rfl) (by first | exact e3 | exact fun _ => rfl) (by first | exact e4 | exact fun _ => rfl) (by first | exact e5 | exact fun _ => rfl) (by first | exact e6 | exact fun _ => rfl) (fun _ => rfl) c2 c3 c5 c6 (by rw [hq] at hc; simp at hc ⊢; omega)
  | 8, hj =>
    obtain ⟨hj0, o, ho, hd⟩ := mem_ready.1 hj
    obtain rfl : _ = o := Option.some.inj ho
    have z0 : q0 = true := by simpa using hd { on := 0, ground := Ground.data } (by simp) rfl
    have z6 : q6 = true := by simpa using hd { on := 6, ground := Ground.data } (by simp) rfl
    have z7 : q7 = true := by simpa using hd { on := 7, ground := Ground.data } (by simp) rfl
    have z5 := c6 z6
    obtain ⟨z3, z4⟩ := c5 z5
    have z2 := c3 z3
    have z1 := c2 z2
    have f0 := e0 z0
    have f1 := e1 z1
    have f2 := e2 z2
    have f3 := e3 z3
    have f4 := e4 z4
    have f5 := e5 z5
    have f6 := e6 z6
    have f7 := e7 z7
    subst f0 f1 f2 f3 f4 f5 f6 f7
    subst z0 z1 z2 z3 z4 z5 z6 z7
    obtain rfl : fuel = 1 := by simp at hc; omega
    exact (hend u42 u43).2 8 hj
  | 9, hj =>
    obtain ⟨hj0, o, ho, hd⟩ := mem_ready.1 hj
    obtain rfl : _ = o := Option.some.inj ho
    have := hd { on := 8, ground := Ground.data } (by simp) rfl
    simp at this
  | j + 10, hj =>
    obtain ⟨hj0, o, ho, hd⟩ := mem_ready.1 hj
    simp [pop8] at ho
end Go.Proofs.YthnolocldeokeaaGreatDoor

namespace Go.Proofs.YthnolocldeokeaaGreatDoor
open Go.RowKit Go.Deep Go.Shelf
set_option linter.unusedVariables false
set_option linter.unusedSimpArgs false
attribute [local go_sem] Oper.semAt_some
def fsg (h : GH) : Value := .agg #[.string h.name, .slice h.pa h.pn h.pc, .int .i64 h.k, .int .i64 h.r]
abbrev ZL := List ((GH × Sg) × (FH × Fx))
def encZ (Z : ZL) (i : Fin Z.length) : Array Value := #[fsg (Z[i.val]).1.1, (Z[i.val]).2.1.v]
def allZ (Z : ZL) : List (Fin Z.length) := List.finRange Z.length
theorem allZ_at (Z : ZL) (k : Nat) (hk : k < Z.length) : (allZ Z)[k]? = some ⟨k, hk⟩ := by
  unfold allZ
  rw [List.getElem?_eq_getElem (by simpa using hk)]
  simp
theorem allZ_len (Z : ZL) : (allZ Z).length = Z.length := by simp [allZ]
theorem allZ_mem (Z : ZL) (i : Fin Z.length) : i ∈ allZ Z := by simp [allZ]
theorem allZ_take (Z : ZL) (k : Nat) (hk : k < Z.length) : (allZ Z).take (k + 1) = (allZ Z).take k ++ [⟨k, hk⟩] := by
  rw [List.take_add_one, allZ_at Z k hk]; rfl
theorem yield_F {α : Type} {F : Fence} {n l : Nat} {J Jx : List α → World → Prop} {ev : Array Value} {Kp : World → World → Prop} {W : World} {pre : List α} {x : α}
    (h : YieldAt F n Tryz.prog l ev W fun e W' => (e = .returned (.bool true) ∧ J (pre ++ [x]) W' ∧ Kp W W') ∨ (e = .returned (.bool false) ∧ Jx (pre ++ [x]) W')) :
    YieldAt F n Tryz.prog l ev W fun e W' => ∃ b : Bool, e = .returned (.bool b) ∧ ((b = true → J (pre ++ [x]) W' ∧ Kp W W') ∧ (b = false → Jx (pre ++ [x]) W')) := by
  obtain ⟨fn', tmps, assign, body, hy, hRd⟩ := h
  refine ⟨fn', tmps, assign, body, hy, hRd.mono ?_⟩
  rintro e W' (⟨rfl, h1, h2⟩ | ⟨rfl, h1⟩)
  · exact ⟨true, rfl, ⟨fun _ => ⟨h1, h2⟩, fun h => (by cases h)⟩⟩
  · exact ⟨false, rfl, ⟨fun h => (by cases h), fun _ => h1⟩⟩
/- A row's element as it lies in a later world. -/
theorem CRd.lies {w W : World} {a : Option Addr} {k : Nat} {rows : List (List Value)} (h : CRd w a k rows) (hb : Below w.heap.size w W) {j : Nat} {r : List Value} (e : rows[j]? = some r) : ∃ b off, a = some ⟨b, off, none⟩ ∧ ∀ i, i < k → W.cell? ⟨b, off + j * k + i, none⟩ = r[i]? := by
  obtain ⟨b, off, e1, hl, hc⟩ := h j r e
  exact ⟨b, off, e1, fun i hi => (hb.cell (p := ⟨b, off + j * k + i, none⟩) hl).trans (hc i hi)⟩
set_option maxRecDepth 100000 in
theorem functions_in (F : Fence) (n : Nat) (hf : F.fn 28) (hro : F.round = none) (C : CH) (w : World) : CallsIn F n Tryz.prog 28 #[C.v] w fun e w' => e = .returned (.func (.func 57) #[] #[.pointer (some ⟨w.heap.size, 0, none⟩)]) ∧ w' = w.alloc (.cells C.cs 51) := by
  obtain ⟨⟨ra, rn, rc, ma, mn, mc, fa, fn, fc, ea, en, ec⟩, ia, inn, ic, ta, tn, tc, ga, gn, gc, ha, hn, hc⟩ := C
  simp only [CH.v, CH.cs]
  refine callsIn_of_wp Tryz.func28 rfl hf ?_ hro
  simp only [Tryz.ntmps28, List.size_toArray, List.length_cons, List.length_nil, Nat.reduceAdd, Nat.reduceSub, Array.replicate_succ, Array.replicate_zero, List.push_toArray, List.append_toArray, List.nil_append, List.cons_append]
  gi_wp2
  refine bodyPost_ret (v := .func (.func 57) #[] #[.pointer (some ⟨w.heap.size, 0, none⟩)]) (by simp [results, Tryz.results28, go_sem]) rfl ⟨rfl, rfl⟩
set_option maxRecDepth 100000 in
set_option maxHeartbeats 4000000 in
theorem functions_stops (w0 V : World) (C : CH) (c : Cx) (fs es : List (FH × Fx)) (d : CdRd w0 C c fs es) (hb : Below w0.heap.size w0 V) (Bx : Nat) (hx : V.heap[Bx]? = some (.cells C.cs 51 (0, 0))) (n : Nat) (hn : 1 ≤ n) (hf : fs.length = c.p.funcs.length) (he : es.length = c.p.events.length) (Z : ZL) (hZ : Z = c.p.funcs.zip fs ++ c.p.events.zip es) :
    SeqStopsK Fence.wide n Tryz.prog 57 #[.pointer (some ⟨Bx, 0, none⟩)] (encZ Z) (KB w0.heap.size Bx) (fun xs => xs = allZ Z) (fun pre => ∃ k, pre = (allZ Z).take k) Z.length V := by
  intro l J Jx W hbW hJa hJxa hY h0
  have hro : Fence.wide.round = none := rfl
  have bW : Below w0.heap.size w0 W := hb.trans (hbW.mono hb.size)
  have bx : W.heap[Bx]? = some (.cells C.cs 51 (0, 0)) := (hbW.block Bx (lt_of_heap hx)).trans hx
  have hlx : Bx < W.heap.size := lt_of_heap bx
  have hszW : w0.heap.size ≤ W.heap.size := bW.size
  have z1 : (c.p.funcs.zip fs).length = fs.length := by rw [List.length_zip]; omega
  have hZl : Z.length = fs.length + es.length := by rw [hZ, List.length_append, List.length_zip, List.length_zip]; omega
  have hZ1 : ∀ (k : Nat) (h : k < Z.length) (hk : k < fs.length), ∃ g f, c.p.funcs[k]? = some g ∧ fs[k]? = some f ∧ Z[k] = (g, f) := fun k h hk => by
    refine ⟨c.p.funcs[k], fs[k], List.getElem?_eq_getElem _, List.getElem?_eq_getElem _, ?_⟩
    subst hZ
    rw [List.getElem_append_left (by omega), List.getElem_zip]
  have hZ2 : ∀ (k : Nat) (h : fs.length + k < Z.length) (hk : k < es.length), ∃ g f, c.p.events[k]? = some g ∧ es[k]? = some f ∧ Z[fs.length + k] = (g, f) := fun k h hk => by
    refine ⟨c.p.events[k], es[k], List.getElem?_eq_getElem _, List.getElem?_eq_getElem _, ?_⟩
    subst hZ
    rw [List.getElem_append_right (by omega), List.getElem_zip]
    simp only [z1, Nat.add_sub_cancel_left]
  have d1 := d.f
  have d2 := d.e
  have d3 := d.p.f
  have d4 := d.p.e
  have c6n : C.fn = fs.length := d1.n1
  have c7n : C.en = es.length := d2.n1
  have c2n : C.h.fn = fs.length := d3.n1.trans hf.symm
  have c3n : C.h.en = es.length := d4.n1.trans he.symm
  have b6 : C.fn ≤ 9223372036854775807 := d1.n2
  have b7 : C.en ≤ 9223372036854775807 := d2.n2
  obtain ⟨⟨ra, rn, rc, ma, mn, mc, fa, fn, fc, ea, en, ec⟩, ia, inn, ic, ta, tn, tc, ga, gn, gc, ha, hn', hc'⟩ := C
  simp only at d1 d2 d3 d4 c6n c7n c2n c3n b6 b7
  have CB : Hid (∀ X : World, KB w0.heap.size Bx W X → X.cell? ⟨Bx, 2, none⟩ = some (.slice fa fn fc) ∧ X.cell? ⟨Bx, 3, none⟩ = some (.slice ea en ec) ∧ X.cell? ⟨Bx, 6, none⟩ = some (.slice ga gn gc) ∧ X.cell? ⟨Bx, 7, none⟩ = some (.slice ha hn' hc')) := hid (fun X hX => by
    have e1 := hX.2.trans bx
    exact ⟨cellOf e1 2, cellOf e1 3, cellOf e1 6, cellOf e1 7⟩)
  have HY := hid hY
  have HJA := hid hJa
  have HZ1 := hid hZ1
  have HZ2 : Hid (∀ (k : Nat) (h : gn + k < Z.length) (hk : k < es.length), ∃ g f, c.p.events[k]? = some g ∧ es[k]? = some f ∧ Z[gn + k] = (g, f)) := hid (by rw [c6n]; exact hZ2)
  have HZl := hid hZl
  have D1 := hid d1
  have D2 := hid d2
  have D3 := hid d3
  have D4 := hid d4
  have H6 : Hid (gn = fs.length) := hid c6n
  have H7 : Hid (hn' = es.length) := hid c7n
  have H2 : Hid (fn = fs.length) := hid c2n
  have H3 : Hid (en = es.length) := hid c3n
  have BW := hid bW
  have HSZ := hid hszW
  have HLX := hid hlx
  clear hY hJa hJxa hZ1 hZ2 hZl d1 d2 d3 d4 d c6n c7n c2n c3n bW hb hbW hx bx hszW hlx hf he z1
  refine callsIn_of_wp Tryz.func57 rfl trivial ?_ hro
  simp only [Tryz.ntmps57, List.size_toArray, List.length_cons, List.length_nil, Nat.reduceAdd, Nat.reduceSub, Array.replicate_succ, Array.replicate_zero, List.push_toArray, List.append_toArray, List.nil_append, List.cons_append]
  obtain ⟨_, _, x6, x7⟩ := CB.out W ⟨Below.refl _ _, rfl⟩
  gi_wp2
  gi_loopw [10] (fun i wr => ∃ k : Nat, k ≤ gn ∧ i = .int .i64 k ∧ J ((allZ Z).take (k)) wr ∧ KB w0.heap.size Bx W wr) (fun i _ => gn - (intOf i).toNat)
  case atStart => exact ⟨0, Nat.zero_le _, rfl, h0, Below.refl _ _, rfl⟩
  case round =>
    obtain ⟨k, hk, rfl, hJs, hnx⟩ := hrel
    by_cases hlt : k < gn
    · have hkZ : k < Z.length := by have := HZl.out; have := H6.out; have := H7.out; omega
      obtain ⟨⟨gh, sg⟩, ⟨fh, fx⟩, hg1, hf1, hzk⟩ := HZ1.out k hkZ (by rw [← H6.out]; exact hlt)
      have bX : Below w0.heap.size w0 wr := BW.out.trans (hnx.1.mono (Nat.le_refl _))
      obtain ⟨gb, gO, rfl, hcf⟩ := CRd.lies D1.out.rd bX (j := k) (r := fh.cs) (by simp [hf1])
      obtain ⟨sb, so, rfl, hcs⟩ := CRd.lies D3.out.rd bX (j := k) (r := gh.cs) (by simp [hg1])
      obtain ⟨regs, oa, on, oc⟩ := fh
      obtain ⟨nm, pa, pn, pc, kd, rr⟩ := gh
      have t0 := hcf 0 (by omega)
      have t1 := hcf 1 (by omega)
      have s0 := hcs 0 (by omega)
      have s1 := hcs 1 (by omega)
      have s2 := hcs 2 (by omega)
      have s3 := hcs 3 (by omega)
      simp only [FH.cs, GH.cs, List.getElem?_cons_zero, List.getElem?_cons_succ, Nat.add_zero] at t0 t1 s0 s1 s2 s3
      obtain ⟨A, hA⟩ : ∃ A, A = wr.alloc (.cells #[.int .i64 regs, .slice oa on oc] 46) := ⟨_, rfl⟩
      have bA : Below wr.heap.size wr A := by rw [hA]; exact (Below.refl _ _).alloc (Nat.le_refl _) _
      have kA : KB w0.heap.size Bx W A := by rw [hA]; exact hnx.alloc (by have := hnx.1.size; have := HSZ.out; omega) (by have := hnx.1.size; have := HLX.out; omega) _
      have mf : A.heap[wr.heap.size]? = some (.cells #[.int .i64 regs, .slice oa on oc] 46 (0, 0)) := by rw [hA]; exact heap_alloc_new _ _
      have al : ∀ (p : Addr) (v : Value), wr.cell? p = some v → A.drew.cell? p = some v := fun p v h => ((bA.cell (p := p) (World.block_lt_of_cell? wr p h)).trans h : A.cell? p = some v)
      have r0 := al _ _ s0
      have r1 := al _ _ s1
      have r2 := al _ _ s2
      have r3 := al _ _ s3
      have g0 : A.drew.cell? ⟨wr.heap.size, 0, none⟩ = some (.int .i64 regs) := cellOf (w := A) mf 0
      have g1 : A.drew.cell? ⟨wr.heap.size, 1, none⟩ = some (.slice oa on oc) := cellOf (w := A) mf 1
      have hB : A.drew.cell? ⟨Bx, 2, none⟩ = some (.slice (some ⟨sb, so, none⟩) fn fc) := (CB.out A kA).1
      obtain ⟨fn', tmps, assign, body, hy, hRd⟩ := yield_F (HY.out _ ⟨k, hkZ⟩ A.drew (HJA.out _ _ _ none hJs (by rw [hA]; exact ⟨rfl, rfl, rfl, by show wr.heap.size ≤ (wr.alloc _).heap.size; rw [World.size_alloc]; omega, fun j hj _ => Below.heap_alloc _ _ _ hj⟩) (fun r e => by cases e)) (by rw [List.length_take, allZ_len]; omega))
      simp only [encZ, hzk, fsg, FH.v] at hy
      have HRd := hid hRd
      have Htk := hid (allZ_take Z (k) hkZ)
      have HkA : Hid (KB w0.heap.size Bx W A.drew) := hid ⟨kA.1.drew, kA.2⟩
      have hks : k < fn := by have := H2.out; have := H3.out; have := H6.out; have := H7.out; omega
      have hkI : (k : Int) < (gn : Int) := by omega
      have hk0 : (0 : Int) ≤ (k : Int) := by omega
      have hsb : fn ≤ 9223372036854775807 := by have := H2.out; have := H3.out; have := H6.out; have := H7.out; omega
      clear hRd hJs hnx hcf hcs bX hg1 hf1 hzk s0 s1 s2 s3 bA kA mf al
      gi_wp2
      rw [← hA]
      clear hA
      refine wpIn_region_any (by kernel_rfl) ?_
      change wpAnyIn _ _ _ _ pop3 _ _ _ _ (World.drew _)
      refine pop3_reads Fence.wide n hro A.drew l Bx wr.heap.size k sb so fn fc nm pa pn pc kd rr regs oa on oc _ _ _ _ _ _ _ _ _ _ _ _ _ _ _ _ _ _ _ _ _ _ _ _ _ _ _ _ _ _ _ _ hB hks hsb r0 r1 r2 r3 g0 g1 ?hend 10 false false false false false false false false _ _ _ _ _ _ _ _ _ _ (fun h => (by cases h)) (fun h => (by cases h)) (fun h => (by cases h)) (fun h => (by cases h)) (fun h => (by cases h)) (fun h => (by cases h)) (fun h => (by cases h)) (fun h => (by cases h)) (fun h => (by cases h)) (fun h => (by cases h)) (fun h => (by cases h)) (fun h => (by cases h)) rfl
      case hend =>
        intro v22 v23
        clear r0 r1 r2 r3 g0 g1 hB t0 t1
        refine wpAnyIn_ready (rs := [8]) (by kernel_rfl) (by simp) (AllReadyIn.cons rfl (fun K hK => ?_) AllReadyIn.nil)
        go_simp
        refine (Hid.out HRd).mono ?_
        rintro e W3 ⟨bb, rfl, hor⟩
        refine hK _ _ ?_
        clear hK K
        refine wpAnyIn_ready (rs := [9]) (by kernel_rfl) (by simp) (AllReadyIn.cons rfl (fun K hK => ?_) AllReadyIn.nil)
        go_simp
        refine hK _ _ ?_
        clear hK K
        refine wpAnyIn_done (by kernel_rfl) ?_ 0
        cases bb with
        | true =>
          have hor' := hor.1 rfl
          clear hor hy HRd
          gi_wp2
          go_roundw
          case rel => exact ⟨k + 1, by omega, by go_num, by rw [Htk.out]; exact hor'.1, KB_t HkA.out hor'.2⟩
          case measure => simp [intOf]; omega
        | false =>
          have hor' := hor.2 rfl
          clear hor hy HRd
          gi_wp2
          refine bodyPost_ret (results_none rfl _ _ _) rfl ?_
          exact ⟨⟨_, rfl⟩, .inr ⟨_, ⟨k + 1, Htk.out.symm⟩, hor'⟩⟩
    · obtain rfl : gn = k := by omega
      have hJ1 := hJs
      have hK1 := hnx
      obtain ⟨_, _, _, x7⟩ := CB.out wr hnx
      clear hJs hnx
      gi_wp2
      gi_loopw [29] (fun i wr => ∃ k : Nat, k ≤ hn' ∧ i = .int .i64 k ∧ J ((allZ Z).take (gn + k)) wr ∧ KB w0.heap.size Bx W wr) (fun i _ => hn' - (intOf i).toNat)
      case atStart => exact ⟨0, Nat.zero_le _, rfl, hJ1, hK1⟩
      case round =>
        obtain ⟨k, hk, rfl, hJs, hnx⟩ := hrel
        by_cases hlt : k < hn'
        · have hkZ : gn + k < Z.length := by have := HZl.out; have := H6.out; have := H7.out; omega
          obtain ⟨⟨gh, sg⟩, ⟨fh, fx⟩, hg1, hf1, hzk⟩ := HZ2.out k hkZ (by rw [← H7.out]; exact hlt)
          have bX : Below w0.heap.size w0 wr := BW.out.trans (hnx.1.mono (Nat.le_refl _))
          obtain ⟨gb, gO, rfl, hcf⟩ := CRd.lies D2.out.rd bX (j := k) (r := fh.cs) (by simp [hf1])
          obtain ⟨sb, so, rfl, hcs⟩ := CRd.lies D4.out.rd bX (j := k) (r := gh.cs) (by simp [hg1])
          obtain ⟨regs, oa, on, oc⟩ := fh
          obtain ⟨nm, pa, pn, pc, kd, rr⟩ := gh
          have t0 := hcf 0 (by omega)
          have t1 := hcf 1 (by omega)
          have s0 := hcs 0 (by omega)
          have s1 := hcs 1 (by omega)
          have s2 := hcs 2 (by omega)
          have s3 := hcs 3 (by omega)
          simp only [FH.cs, GH.cs, List.getElem?_cons_zero, List.getElem?_cons_succ, Nat.add_zero] at t0 t1 s0 s1 s2 s3
          obtain ⟨A, hA⟩ : ∃ A, A = wr.alloc (.cells #[.int .i64 regs, .slice oa on oc] 46) := ⟨_, rfl⟩
          have bA : Below wr.heap.size wr A := by rw [hA]; exact (Below.refl _ _).alloc (Nat.le_refl _) _
          have kA : KB w0.heap.size Bx W A := by rw [hA]; exact hnx.alloc (by have := hnx.1.size; have := HSZ.out; omega) (by have := hnx.1.size; have := HLX.out; omega) _
          have mf : A.heap[wr.heap.size]? = some (.cells #[.int .i64 regs, .slice oa on oc] 46 (0, 0)) := by rw [hA]; exact heap_alloc_new _ _
          have al : ∀ (p : Addr) (v : Value), wr.cell? p = some v → A.drew.cell? p = some v := fun p v h => ((bA.cell (p := p) (World.block_lt_of_cell? wr p h)).trans h : A.cell? p = some v)
          have r0 := al _ _ s0
          have r1 := al _ _ s1
          have r2 := al _ _ s2
          have r3 := al _ _ s3
          have g0 : A.drew.cell? ⟨wr.heap.size, 0, none⟩ = some (.int .i64 regs) := cellOf (w := A) mf 0
          have g1 : A.drew.cell? ⟨wr.heap.size, 1, none⟩ = some (.slice oa on oc) := cellOf (w := A) mf 1
          have hB : A.drew.cell? ⟨Bx, 3, none⟩ = some (.slice (some ⟨sb, so, none⟩) en ec) := (CB.out A kA).2.1
          obtain ⟨fn', tmps, assign, body, hy, hRd⟩ := yield_F (HY.out _ ⟨gn + k, hkZ⟩ A.drew (HJA.out _ _ _ none hJs (by rw [hA]; exact ⟨rfl, rfl, rfl, by show wr.heap.size ≤ (wr.alloc _).heap.size; rw [World.size_alloc]; omega, fun j hj _ => Below.heap_alloc _ _ _ hj⟩) (fun r e => by cases e)) (by rw [List.length_take, allZ_len]; omega))
          simp only [encZ, hzk, fsg, FH.v] at hy
          have HRd := hid hRd
          have Htk := hid (allZ_take Z (gn + k) hkZ)
          have HkA : Hid (KB w0.heap.size Bx W A.drew) := hid ⟨kA.1.drew, kA.2⟩
          have hks : k < en := by have := H2.out; have := H3.out; have := H6.out; have := H7.out; omega
          have hkI : (k : Int) < (hn' : Int) := by omega
          have hk0 : (0 : Int) ≤ (k : Int) := by omega
          have hsb : en ≤ 9223372036854775807 := by have := H2.out; have := H3.out; have := H6.out; have := H7.out; omega
          clear hRd hJs hnx hcf hcs bX hg1 hf1 hzk s0 s1 s2 s3 bA kA mf al
          gi_wp2
          rw [← hA]
          clear hA
          refine wpIn_region_any (by kernel_rfl) ?_
          change wpAnyIn _ _ _ _ pop8 _ _ _ _ (World.drew _)
          refine pop8_reads Fence.wide n hro A.drew l Bx wr.heap.size k sb so en ec nm pa pn pc kd rr regs oa on oc _ _ _ _ _ _ _ _ _ _ _ _ _ _ _ _ _ _ _ _ _ _ _ _ _ _ _ _ _ _ _ _ hB hks hsb r0 r1 r2 r3 g0 g1 ?hend 10 false false false false false false false false _ _ _ _ _ _ _ _ _ _ (fun h => (by cases h)) (fun h => (by cases h)) (fun h => (by cases h)) (fun h => (by cases h)) (fun h => (by cases h)) (fun h => (by cases h)) (fun h => (by cases h)) (fun h => (by cases h)) (fun h => (by cases h)) (fun h => (by cases h)) (fun h => (by cases h)) (fun h => (by cases h)) rfl
          case hend =>
            intro v22 v23
            clear r0 r1 r2 r3 g0 g1 hB t0 t1
            refine wpAnyIn_ready (rs := [8]) (by kernel_rfl) (by simp) (AllReadyIn.cons rfl (fun K hK => ?_) AllReadyIn.nil)
            go_simp
            refine (Hid.out HRd).mono ?_
            rintro e W3 ⟨bb, rfl, hor⟩
            refine hK _ _ ?_
            clear hK K
            refine wpAnyIn_ready (rs := [9]) (by kernel_rfl) (by simp) (AllReadyIn.cons rfl (fun K hK => ?_) AllReadyIn.nil)
            go_simp
            refine hK _ _ ?_
            clear hK K
            refine wpAnyIn_done (by kernel_rfl) ?_ 0
            cases bb with
            | true =>
              have hor' := hor.1 rfl
              clear hor hy HRd
              gi_wp2
              go_roundw
              case rel => exact ⟨k + 1, by omega, by go_num, by rw [← Nat.add_assoc]; rw [Htk.out]; exact hor'.1, KB_t HkA.out hor'.2⟩
              case measure => simp [intOf]; omega
            | false =>
              have hor' := hor.2 rfl
              clear hor hy HRd
              gi_wp2
              refine bodyPost_ret (results_none rfl _ _ _) rfl ?_
              exact ⟨⟨_, rfl⟩, .inr ⟨_, ⟨gn + k + 1, Htk.out.symm⟩, hor'⟩⟩
        · obtain rfl : hn' = k := by omega
          have hfin := hid (show J (allZ Z) wr by have := HZl.out; have e6 := H6.out; have e7 := H7.out; rw [List.take_of_length_le (by rw [allZ_len]; omega)] at hJs; exact hJs)
          clear hJs hnx
          gi_wp2
          go_end0
          exact ⟨⟨_, rfl⟩, .inl ⟨_, rfl, hfin.out⟩⟩
end Go.Proofs.YthnolocldeokeaaGreatDoor

namespace Go.Proofs.YthnolocldeokeaaGreatDoor
open Go.RowKit Go.Deep Go.Shelf
set_option linter.unusedVariables false
set_option linter.unusedSimpArgs false
def lngB (s : ByteArray) : Bool := decide (64 < s.size)
set_option maxRecDepth 100000 in
theorem isLong_any (w : World) (s : ByteArray) (hs : s.size ≤ 9223372036854775807) : Calls Tryz.prog 73 #[.string s] w fun e w' => e = .returned (.bool (lngB s)) ∧ w' = w := by
  have hsI : (s.size : Int) ≤ 9223372036854775807 := by omega
  by_cases h : 64 < s.size
  · have HD : Hid (lngB s = true) := hid (by simp [lngB, h])
    have h' : (64 : Int) < (s.size : Int) := by omega
    go_enter Tryz.func73, Tryz.ntmps73
    go_wp2
    go_ret
    exact ⟨by rw [HD.out]; simp [h], rfl⟩
  · have HD : Hid (lngB s = false) := hid (by simp [lngB, h])
    have h' : ¬ (64 : Int) < (s.size : Int) := by omega
    go_enter Tryz.func73, Tryz.ntmps73
    go_wp2
    go_ret
    exact ⟨by rw [HD.out]; simp, rfl⟩
set_option maxRecDepth 100000 in
set_option maxHeartbeats 1000000 in
theorem indexFunc_any (w : World) (a : Option Addr) (n cap : Nat) (ss : List ByteArray) (hn : n = ss.length) (hn2 : n ≤ 9223372036854775807) (hr : SRd w a ss) :
    Calls Tryz.prog 91 #[.slice a n cap, .func (.func 73) #[] #[]] w fun e w' => ∃ r : Int, e = .returned (.int .i64 r) ∧ w' = w ∧ decide (0 ≤ r) = ss.any lngB := by
  have hnI : (n : Int) ≤ 9223372036854775807 := by omega
  have HN := hid hn
  have HR := hid hr
  clear hn hr
  go_enter Tryz.func91, Tryz.ntmps91
  go_wp2
  go_loopg [8] n (fun g x wr => ∃ j : Nat, j + g = n ∧ x = .int .i64 (j : Int) ∧ (ss.take j).any lngB = false ∧ wr = w)
  case atStart => exact ⟨0, by omega, rfl, by simp, rfl⟩
  case round =>
    obtain ⟨j, hj, rfl, hp, rfl⟩ := hrel
    cases gk with
    | zero =>
      have hjn : j = n := by omega
      subst hjn
      have HP : Hid (ss.any lngB = false) := hid (by rw [HN.out, List.take_of_length_le (Nat.le_refl _)] at hp; exact hp)
      clear hp
      go_wp2
      go_ret
      exact ⟨_, rfl, rfl, by rw [HP.out]; rfl⟩
    | succ g =>
      obtain ⟨s, hs⟩ : ∃ s, ss[j]? = some s := ⟨ss[j]'(by have := HN.out; omega), List.getElem?_eq_getElem _⟩
      obtain ⟨hsz, b, off, rfl, hc⟩ := HR.out j s hs
      have K := hid (isLong_any wr s hsz)
      have hjI : (j : Int) < (n : Int) := by omega
      have hj0 : (0 : Int) ≤ (j : Int) := by omega
      have ht : Hid (ss.take (j + 1) = ss.take j ++ [s]) := hid (by rw [List.take_add_one, hs]; rfl)
      have hm : Hid (lngB s = true → ss.any lngB = true) := hid (fun h => List.any_eq_true.2 ⟨s, List.mem_of_getElem? hs, h⟩)
      have HP := hid hp
      clear hp hs
      cases hl : lngB s with
      | true =>
        rw [hl] at K
        have HM := hid (hm.out hl)
        go_wp2_with (go_at_call 73; (refine (Hid.out K).mono ?_; rintro e wr ⟨rfl, rfl⟩))
        go_ret
        exact ⟨_, rfl, rfl, by rw [HM.out]; simp⟩
      | false =>
        rw [hl] at K
        have HL := hid hl
        go_wp2_with (go_at_call 73; (refine (Hid.out K).mono ?_; rintro e wr ⟨rfl, rfl⟩))
        go_roundg g
        case measure => omega
        exact ⟨j + 1, by omega, by go_num, by rw [ht.out, List.any_append, HP.out]; simp [HL.out], rfl⟩
set_option maxRecDepth 100000 in
theorem containsFunc_any (w : World) (a : Option Addr) (n cap : Nat) (ss : List ByteArray) (hn : n = ss.length) (hn2 : n ≤ 9223372036854775807) (hr : SRd w a ss) :
    Calls Tryz.prog 74 #[.slice a n cap, .func (.func 73) #[] #[]] w fun e w' => e = .returned (.bool (ss.any lngB)) ∧ w' = w := by
  have K := hid (indexFunc_any w a n cap ss hn hn2 hr)
  clear hn hr
  go_enter Tryz.func74, Tryz.ntmps74
  go_wp2_with (go_at_call 91; (refine (Hid.out K).mono ?_; rintro e w ⟨r, rfl, rfl, hr⟩; have HR := hid hr; clear hr))
  go_ret
  exact ⟨by rw [← HR.out]; rfl, rfl⟩
theorem const_any_all (c : Cx) : (c.texts.all fun t => decide (t.size ≤ 64)) = !c.texts.any lngB := by
  rw [List.not_any_eq_all_not]
  congr 1
  funext t
  by_cases h : t.size ≤ 64
  · have : ¬ 64 < t.size := by omega
    simp [lngB, h, this]
  · have : 64 < t.size := by omega
    simp [lngB, h, this]
set_option maxRecDepth 100000 in
set_option maxHeartbeats 1000000 in
theorem areConstants_any (w : World) (C : CH) (c : Cx) (fs es : List (FH × Fx)) (d : CdRd w C c fs es) : Calls Tryz.prog 46 #[C.v] w fun e w' => e = .returned (.bool (constB c)) ∧ Below w.heap.size w w' := by
  obtain ⟨W0, hW0⟩ : ∃ W0, W0 = w.alloc (.cells C.cs 51) := ⟨_, rfl⟩
  have bw : Below w.heap.size w W0 := by rw [hW0]; exact (Below.refl _ _).alloc (Nat.le_refl _) _
  have m0 : W0.heap[w.heap.size]? = some (.cells C.cs 51 (0, 0)) := by rw [hW0]; exact heap_alloc_new w _
  have K := hid (containsFunc_any W0 C.ta C.tn C.tc c.texts d.t1 d.t2 (d.tr.below (Nat.le_refl _) bw))
  have i2 := d.i2
  have t2 := d.t2
  have I1 := hid d.i1
  have T1 := hid d.t1
  have BW := hid bw
  have CA := hid (const_any_all c)
  generalize c.texts.any lngB = lg at K CA
  obtain ⟨⟨ra, rn, rc, ma, mn, mc, fa, fn, fc, ea, en, ec⟩, ia, inn, ic, ta, tn, tc, ga, gn, gc, ha, hn, hc⟩ := C
  simp only [CH.v, CH.cs] at hW0 m0 K i2 t2 I1 T1 ⊢
  have x1 := cellOf m0 4
  have x2 := cellOf m0 5
  simp only [List.getElem?_toArray, List.getElem?_cons_zero, List.getElem?_cons_succ] at x1 x2
  clear d bw m0
  by_cases h1 : inn ≤ 1000
  · have h1' : (inn : Int) ≤ 1000 := by omega
    by_cases h2 : tn ≤ 1000
    · have h2' : (tn : Int) ≤ 1000 := by omega
      have HC : Hid (constB c = !lg) := hid (by unfold constB; rw [← I1.out, ← T1.out, CA.out]; simp [h1, h2])
      go_enter Tryz.func46, Tryz.ntmps46
      go_upto_region 1 with fail
      rw [← hW0]
      clear hW0
      go_wp2_with (go_at_call 74; (refine (Hid.out K).mono ?_; rintro e W0 ⟨rfl, rfl⟩))
      go_ret
      exact ⟨by rw [HC.out]; rfl, BW.out⟩
    · have h2' : ¬ (tn : Int) ≤ 1000 := by omega
      have HC : Hid (constB c = false) := hid (by unfold constB; rw [← T1.out]; simp [h2])
      go_enter Tryz.func46, Tryz.ntmps46
      go_upto_region 1 with fail
      rw [← hW0]
      clear hW0
      go_wp2
      go_ret
      exact ⟨by rw [HC.out]; rfl, BW.out⟩
  · have h1' : ¬ (inn : Int) ≤ 1000 := by omega
    have HC : Hid (constB c = false) := hid (by unfold constB; rw [← I1.out]; simp [h1])
    go_enter Tryz.func46, Tryz.ntmps46
    go_upto_region 1 with fail
    rw [← hW0]
    clear hW0
    go_wp2
    go_ret
    exact ⟨by rw [HC.out]; rfl, BW.out⟩
set_option maxRecDepth 100000 in
set_option maxHeartbeats 4000000 in
theorem isFunction_any (SO : ShapeC) (w : World) (C : CH) (c : Cx) (fs es : List (FH × Fx)) (d : CdRd w C c fs es) (g : GH) (hp2 : g.pn ≤ 9223372036854775807) (F : FH) (f : Fx) (df : FnRd w F f) :
    Calls Tryz.prog 47 #[C.v, fsg g, F.v] w fun e w' => e = .returned (.bool (isFnB c g.pn f)) ∧ Below w.heap.size w w' := by
  obtain ⟨A1, hA1⟩ : ∃ A1, A1 = w.alloc (.cells C.cs 51) := ⟨_, rfl⟩
  obtain ⟨A2, hA2⟩ : ∃ A2, A2 = A1.alloc (.cells g.cs.toArray 35) := ⟨_, rfl⟩
  obtain ⟨W0, hW0⟩ : ∃ W0, W0 = A2.alloc (.cells F.cs.toArray 46) := ⟨_, rfl⟩
  have b1 : Below w.heap.size w A1 := by rw [hA1]; exact (Below.refl _ _).alloc (Nat.le_refl _) _
  have z1 : A1.heap.size = w.heap.size + 1 := by rw [hA1]; simp
  have z2 : A2.heap.size = w.heap.size + 2 := by rw [hA2]; simp; omega
  have z3 : W0.heap.size = w.heap.size + 3 := by rw [hW0]; simp; omega
  have b2 : Below w.heap.size w A2 := by rw [hA2]; exact b1.alloc (by omega) _
  have b3 : Below w.heap.size w W0 := by rw [hW0]; exact b2.alloc (by omega) _
  have m0 : W0.heap[w.heap.size]? = some (.cells C.cs 51 (0, 0)) := by
    rw [hW0, Below.heap_alloc _ _ _ (by omega), hA2, Below.heap_alloc _ _ _ (by omega), hA1]; exact heap_alloc_new w _
  have m1 : W0.heap[w.heap.size + 1]? = some (.cells g.cs.toArray 35 (0, 0)) := by
    rw [hW0, Below.heap_alloc _ _ _ (by omega), hA2, ← z1]; exact heap_alloc_new A1 _
  have m2 : W0.heap[w.heap.size + 2]? = some (.cells F.cs.toArray 46 (0, 0)) := by rw [hW0, ← z2]; exact heap_alloc_new A2 _
  have GT : Hid (∀ V : World, Below W0.heap.size W0 V → V.heap[w.heap.size]? = some (.cells C.cs 51 (0, 0)) ∧ V.heap[w.heap.size + 2]? = some (.cells F.cs.toArray 46 (0, 0)) ∧ Below w.heap.size w V) := hid (fun V hV => ⟨(hV.block _ (by omega)).trans m0, (hV.block _ (by omega)).trans m2, b3.trans (hV.mono b3.size)⟩)
  have KO := hid (fun (V : World) (hV : Below w.heap.size w V) (h0 : 0 ≤ F.regs) (h64 : F.regs ≤ 64) (o : Opx) => isOp_any SO V C c fs es (d.below (Nat.le_refl _) hV) F h0 h64 df.o2 o)
  have HR := hid df.rg
  have HO := hid df.on
  have ORr := hid df.or
  have o2 := df.o2
  have BB := hid b3
  obtain ⟨res, hres⟩ : ∃ res, res = isFnB c g.pn f := ⟨_, rfl⟩
  rw [← hres]
  have HRES : Hid (res = (!(decide (F.regs < (g.pn : Int)) || decide (64 < F.regs) || decide (F.on < 1) || decide (2000 < F.on)) && f.ops.all (isOpB c F.regs F.on))) := hid (by rw [hres, HR.out, HO.out]; rfl)
  clear hres d df b1 b2 b3 m0
  generalize isOpB c F.regs F.on = iob at KO HRES
  obtain ⟨⟨ra, rn, rc, ma, mn, mc, fa, fn, fc, ea, en, ec⟩, ia, inn, ic, ta, tn, tc, ga, gn, gc, ha, hn, hc⟩ := C
  obtain ⟨regs, oa, on, ocp⟩ := F
  obtain ⟨nm, pa, pn, pc, kd, rr⟩ := g
  simp only [CH.v, CH.cs, FH.v, FH.cs, GH.cs, fsg] at hA1 hA2 hW0 GT KO HR HO ORr o2 HRES hp2 m1 m2 ⊢
  have x1 := cellOf m1 1
  have y0 := cellOf m2 0
  have y1 := cellOf m2 1
  simp only [List.getElem?_toArray, List.getElem?_cons_zero, List.getElem?_cons_succ] at x1 y0 y1
  clear m1 m2 z1 z2 z3
  have hpI : (pn : Int) ≤ 9223372036854775807 := by omega
  have hoI : (on : Int) ≤ 9223372036854775807 := by omega
  by_cases h1 : regs < (pn : Int)
  · have HF : Hid (res = false) := hid (by rw [HRES.out]; simp [h1])
    go_enter Tryz.func47, Tryz.ntmps47
    go_upto_region 1 with fail
    rw [← hA1, ← hA2, ← hW0]
    clear hA1 hA2 hW0
    go_wp2
    go_ret
    exact ⟨by rw [HF.out]; rfl, BB.out⟩
  by_cases h2 : 64 < regs
  · have HF : Hid (res = false) := hid (by rw [HRES.out]; simp [h2])
    go_enter Tryz.func47, Tryz.ntmps47
    go_upto_region 1 with fail
    rw [← hA1, ← hA2, ← hW0]
    clear hA1 hA2 hW0
    go_wp2
    go_ret
    exact ⟨by rw [HF.out]; rfl, BB.out⟩
  by_cases h3 : on < 1
  · have HF : Hid (res = false) := hid (by rw [HRES.out]; simp [h3])
    have h3' : (on : Int) < 1 := by omega
    go_enter Tryz.func47, Tryz.ntmps47
    go_upto_region 1 with fail
    rw [← hA1, ← hA2, ← hW0]
    clear hA1 hA2 hW0
    go_wp2
    go_ret
    exact ⟨by rw [HF.out]; rfl, BB.out⟩
  have h3' : ¬ (on : Int) < 1 := by omega
  by_cases h4 : 2000 < on
  · have HF : Hid (res = false) := hid (by rw [HRES.out]; simp [h4])
    have h4' : (2000 : Int) < (on : Int) := by omega
    go_enter Tryz.func47, Tryz.ntmps47
    go_upto_region 1 with fail
    rw [← hA1, ← hA2, ← hW0]
    clear hA1 hA2 hW0
    go_wp2
    go_ret
    exact ⟨by rw [HF.out]; rfl, BB.out⟩
  have h4' : ¬ (2000 : Int) < (on : Int) := by omega
  have HALL : Hid (res = f.ops.all iob) := hid (by rw [HRES.out]; simp [h1, h2, h3, h4])
  have KP := hid (fun (V : World) (hV : Below w.heap.size w V) (o : Opx) => KO.out V hV (by omega) (by omega) o)
  clear HRES KO
  go_enter Tryz.func47, Tryz.ntmps47
  go_upto_region 1 with fail
  rw [← hA1, ← hA2, ← hW0]
  clear hA1 hA2 hW0
  go_wp2
  go_loopg [35] on (fun g x wr => ∃ j : Nat, j + g = on ∧ x = .int .i64 (j : Int) ∧ (f.ops.take j).all iob = true ∧ Below W0.heap.size W0 wr)
  case atStart => exact ⟨0, by omega, rfl, by simp, Below.refl _ _⟩
  case round =>
    obtain ⟨j, hj, rfl, hp, hb⟩ := hrel
    cases gk with
    | zero =>
      have hjn : j = on := by omega
      subst hjn
      have HF : Hid (res = true) := hid (by rw [HALL.out]; rw [HO.out, List.take_of_length_le (Nat.le_refl _)] at hp; exact hp)
      have HB := hid (GT.out wr hb).2.2
      clear hp hb
      go_wp2
      go_ret
      exact ⟨by rw [HF.out]; rfl, HB.out⟩
    | succ g =>
      obtain ⟨o, ho⟩ : ∃ o, f.ops[j]? = some o := ⟨f.ops[j]'(by have := HO.out; omega), List.getElem?_eq_getElem _⟩
      obtain ⟨gg0, gg2, gbb⟩ := GT.out wr hb
      obtain ⟨b, off, rfl, hcl⟩ := (ORr.out.below gbb) j o ho
      have hjI : (j : Int) < (on : Int) := by omega
      have hj0 : (0 : Int) ≤ (j : Int) := by omega
      obtain ⟨A, hA⟩ : ∃ A, A = wr.alloc (.cells o.cs 23) := ⟨_, rfl⟩
      have bA : Below W0.heap.size W0 A := by rw [hA]; exact hb.trans (((Below.refl _ wr).alloc (Nat.le_refl _) _).mono hb.size)
      obtain ⟨a0, a2, ab⟩ := GT.out A bA
      have c0 := cellOf a0 0
      have c1 := cellOf a0 1
      have c2 := cellOf a0 2
      have c3 := cellOf a0 3
      have c4 := cellOf a0 4
      have c5 := cellOf a0 5
      have c6 := cellOf a0 6
      have c7 := cellOf a0 7
      have e0 := cellOf a2 0
      have e1 := cellOf a2 1
      have mo : A.heap[wr.heap.size]? = some (.cells o.cs 23 (0, 0)) := by rw [hA]; exact heap_alloc_new wr _
      have KX := hid (KP.out A ab o)
      have ht : Hid (f.ops.take (j + 1) = f.ops.take j ++ [o]) := hid (by rw [List.take_add_one, ho]; rfl)
      have hno : Hid (iob o = false → res = false) := hid (fun h => by rw [HALL.out, List.all_eq_false]; exact ⟨o, List.mem_of_getElem? ho, by simp [h]⟩)
      have KQ := hid (fun (V : World) (hV : Below A.heap.size A V) => (⟨bA.trans (hV.mono bA.size), ab.trans (hV.mono ab.size)⟩ : Below W0.heap.size W0 V ∧ Below w.heap.size w V))
      have HP := hid hp
      have hvv := hid (rfl : iob o = iob o)
      obtain ⟨v, hv⟩ : ∃ v, iob o = v := ⟨_, rfl⟩
      have HV := hid hv
      rw [hv] at KX hno
      obtain ⟨oc, od, oaa, ob, ok⟩ := o
      have i0 := hcl 0 (by omega)
      have i1 := hcl 1 (by omega)
      have i2 := hcl 2 (by omega)
      have i3 := hcl 3 (by omega)
      have i4 := hcl 4 (by omega)
      have u0 := cellOf mo 0
      have u1 := cellOf mo 1
      have u2 := cellOf mo 2
      have u3 := cellOf mo 3
      have u4 := cellOf mo 4
      simp only [Opx.cs, List.getElem?_toArray, List.getElem?_cons_zero, List.getElem?_cons_succ, Nat.add_zero] at c0 c1 c2 c3 c4 c5 c6 c7 e0 e1 i0 i1 i2 i3 i4 u0 u1 u2 u3 u4 hA KX
      clear hp hb ho gg0 gg2 gbb a0 a2 ab bA hcl mo hv hvv x1 y0 y1
      cases v with
      | true =>
        go_upto_region 6 with fail
        rw [← hA]
        clear hA
        go_wp2_with (go_at_call 75; (refine (Hid.out KX).mono ?_; rintro e w8 ⟨rfl, hb8⟩; have HQ := hid (KQ.out w8 hb8); clear hb8))
        go_roundg g
        case measure => omega
        exact ⟨j + 1, by omega, by go_num, by rw [ht.out, List.all_append, HP.out]; simp [HV.out], HQ.out.1⟩
      | false =>
        have HF := hid (hno.out rfl)
        go_upto_region 6 with fail
        rw [← hA]
        clear hA
        go_wp2_with (go_at_call 75; (refine (Hid.out KX).mono ?_; rintro e w8 ⟨rfl, hb8⟩; have HQ := hid (KQ.out w8 hb8); clear hb8))
        go_ret
        exact ⟨by rw [HF.out]; rfl, HQ.out.2⟩
end Go.Proofs.YthnolocldeokeaaGreatDoor

