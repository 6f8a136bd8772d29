/- The printer: enter, leave, comma. -/
import Derived.Test.YtcnohgifihbkdaaGreatDoorJAZ
namespace Go.Proofs.YtcnohgifihbkdaaGreatDoor.Lx
open Go.RowKit Go.Deep
set_option linter.unusedVariables false
set_option linter.unusedSimpArgs false

theorem max2_run (t : TypeId) (ts : Array TypeId) (a b : Nat) (w : World) : (Builtin.max_ ts t #[.int .i64 (a : Int), .int .i64 (b : Int)]).run Tryz.prog w = .ok (.int .i64 ((max a b : Nat) : Int)) w := by
  simp [Builtin.max_, List.foldlM, max2_nat]
/- What a printing call leaves: m more bytes, so many open, the most. -/
def PrP (w : World) (B b : Nat) (m : List UInt8) (op mo : Nat) (e : Ending) (w' : World) : Prop := e = .returned (.tuple #[]) ∧ Prn w' B b m op mo ∧ Kpt B b w w'
theorem Prn.num {w : World} {B b : Nat} {l : List UInt8} {op mo : Nat} (h : Prn w B b l op mo) (op' : Nat) : Prn (w.setCell ⟨b, 2, none⟩ (.int .i64 (op' : Int))) B b l op' mo ∧ Kpt B b w (w.setCell ⟨b, 2, none⟩ (.int .i64 (op' : Int))) := by
  obtain ⟨hge, p, v, hp, hb, hr⟩ := h
  exact ⟨⟨hge, p, v, hp, four_set hb 2 _, hr.setB hb 2 _⟩, Prn.kept (l := l) hge hb 2 _⟩
theorem Prn.most {w : World} {B b : Nat} {l : List UInt8} {op mo : Nat} (h : Prn w B b l op mo) (mo' : Nat) : Prn (w.setCell ⟨b, 3, none⟩ (.int .i64 (mo' : Int))) B b l op mo' ∧ Kpt B b w (w.setCell ⟨b, 3, none⟩ (.int .i64 (mo' : Int))) := by
  obtain ⟨hge, p, v, hp, hb, hr⟩ := h
  exact ⟨⟨hge, p, v, hp, four_set hb 3 _, hr.setB hb 3 _⟩, Prn.kept (l := l) hge hb 3 _⟩
theorem Prn.cells {w : World} {B b : Nat} {l : List UInt8} {op mo : Nat} (h : Prn w B b l op mo) : (w.cell? ⟨b, 2, none⟩ = some (.int .i64 (op : Int)) ∧ w.cell? ⟨b, 3, none⟩ = some (.int .i64 (mo : Int))) ∧ (w.frozen? ⟨b, 2, none⟩ = false ∧ w.frozen? ⟨b, 3, none⟩ = false) := by
  obtain ⟨hge, p, v, hp, hb, hr⟩ := h
  exact ⟨⟨cellT hb 2, cellT hb 3⟩, freeT hb 2, freeT hb 3⟩
theorem Prn.drew {w : World} {B b : Nat} {l : List UInt8} {op mo : Nat} (h : Prn w B b l op mo) : Prn w.drew B b l op mo := ⟨h.ge, h.ex⟩
set_option maxRecDepth 100000 in
set_option maxHeartbeats 1000000 in
theorem enter_any (w : World) (B b : Nat) (l : List UInt8) (op mo : Nat) (h : Prn w B b l op mo) (ho : op ≤ 1000000000) (hmo : mo ≤ 1000000000) (X n cap : Nat) (ts : List ByteArray) (hX : X ≠ b) (hx : w.heap[X]? = some (.cells (ts.map Value.string).toArray 9 (0, 0))) (hn : n = ts.length) (hn1 : n ≤ 100) (hB : B ≤ w.heap.size) (hl : l.length + (catL ts).length ≤ 1000000000) :
    Calls Tryz.prog 136 #[.pointer (some ⟨b, 0, none⟩), .slice (some ⟨X, 0, none⟩) n cap] w (PrP w B b (l ++ catL ts) (op + 1) (max mo (op + 1))) := by
  have K := hid (write_any w B b l op mo h X n cap ts hX hx hn hn1 hB hl)
  have hoI : (op : Int) ≤ 1000000000 := by omega
  obtain ⟨O, hO⟩ : ∃ O, O = op + 1 := ⟨_, rfl⟩
  obtain ⟨M, hM⟩ : ∃ M, M = max mo O := ⟨_, rfl⟩
  rw [← hO, ← hM]
  have KM : ∀ (t : TypeId) (ts : Array TypeId) (w : World), (Builtin.max_ ts t #[.int .i64 (mo : Int), .int .i64 (O : Int)]).run Tryz.prog w = .ok (.int .i64 (M : Int)) w := fun t ts w => by rw [hM]; exact max2_run t ts mo O w
  have HO := hid hO
  clear h hx hl hn hM hO
  go_enter Tryz.func136, Tryz.ntmps136
  go_upto_region 2 with (go_at_call 129; (refine (Hid.out K).mono ?_; rintro e w1 ⟨rfl, hp1, hk1⟩; have hcc := hp1.cells; obtain ⟨⟨c2, c3⟩, f2, f3⟩ := hcc; have HP := hid hp1; have HK := hid hk1; clear hp1 hk1))
  obtain ⟨hp2, hk2⟩ := HP.out.num O
  obtain ⟨W, hW⟩ : ∃ W, W = w1.setCell ⟨b, 2, none⟩ (.int .i64 (O : Int)) := ⟨_, rfl⟩
  have hWr : ∀ x : Int, x = (O : Int) → w1.setCell ⟨b, 2, none⟩ (.int .i64 x) = W := fun x e => by rw [hW, e]
  rw [hWr _ (by have := HO.out; omega)]
  rw [← hW] at hp2 hk2
  obtain ⟨⟨d2, d3⟩, g2, g3⟩ := hp2.cells
  have HP2 := hid hp2
  have HK2 := hid (HK.out.trans hk2)
  have D2 := hid ((HP2.out.drew).most M).1.cells.1.1
  clear hp2 hk2 hW hWr c2 c3 f2 f3 HP HK
  refine wp_region_held_drew (S := fun W' => W'.cell? ⟨b, 2, none⟩ = some (.int .i64 (O : Int))) (by kernel_rfl) d2 (fun hHeld => ?_)
  refine wpAnyH_take (i := 0) (oi := ({ dst := some 14, op := Go.Op.move (Go.Operand.tmp 0), type := 80, pos := "print.go:48", after := #[], guard := none } : Oper)) (v := .pointer (some ⟨b, 0, none⟩)) rfl (by kernel_rfl) (by kernel_rfl) (by kernel_rfl) (fun _ _ _ h => h) (Or.inl ⟨by rfl, ?_⟩) (by assumption) ?_
  · intro w hSw; (try dsimp only at hSw); go_simp
  try simp only [Act.put, List.setIfInBounds_toArray, List.set_cons_zero, List.set_cons_succ]
  refine wpAnyH_take (i := 1) (oi := ({ dst := some 15, op := Go.Op.move (Go.Operand.tmp 0), type := 80, pos := "print.go:48", after := #[], guard := none } : Oper)) (v := .pointer (some ⟨b, 0, none⟩)) rfl (by kernel_rfl) (by kernel_rfl) (by kernel_rfl) (fun _ _ _ h => h) (Or.inl ⟨by rfl, ?_⟩) (by assumption) ?_
  · intro w hSw; (try dsimp only at hSw); go_simp
  try simp only [Act.put, List.setIfInBounds_toArray, List.set_cons_zero, List.set_cons_succ]
  refine wpAnyH_take (i := 2) (oi := ({ dst := some 16, op := Go.Op.nilCheck (Go.Operand.tmp 15), type := 0, pos := "print.go:48", after := #[{ on := 1, ground := Go.Ground.data }], guard := none } : Oper)) (v := .pointer (some ⟨b, 0, none⟩)) rfl (by kernel_rfl) (by kernel_rfl) (by kernel_rfl) (fun _ _ _ h => h) (Or.inl ⟨by rfl, ?_⟩) (by assumption) ?_
  · intro w hSw; (try dsimp only at hSw); go_simp
  try simp only [Act.put, List.setIfInBounds_toArray, List.set_cons_zero, List.set_cons_succ]
  refine wpAnyH_take (i := 3) (oi := ({ dst := some 17, op := Go.Op.fieldAddr 88 (Go.Operand.tmp 16) 2, type := 0, pos := "print.go:48", after := #[{ on := 2, ground := Go.Ground.data }], guard := none } : Oper)) (v := .pointer (some ⟨b, 3, none⟩)) rfl (by kernel_rfl) (by kernel_rfl) (by kernel_rfl) (fun _ _ _ h => h) (Or.inl ⟨by rfl, ?_⟩) (by assumption) ?_
  · intro w hSw; (try dsimp only at hSw); go_simp
  try simp only [Act.put, List.setIfInBounds_toArray, List.set_cons_zero, List.set_cons_succ]
  refine wpAnyH_take (i := 5) (oi := ({ dst := some 19, op := Go.Op.move (Go.Operand.tmp 0), type := 80, pos := "print.go:48", after := #[], guard := none } : Oper)) (v := .pointer (some ⟨b, 0, none⟩)) rfl (by kernel_rfl) (by kernel_rfl) (by kernel_rfl) (fun _ _ _ h => h) (Or.inl ⟨by rfl, ?_⟩) (by assumption) ?_
  · intro w hSw; (try dsimp only at hSw); go_simp
  try simp only [Act.put, List.setIfInBounds_toArray, List.set_cons_zero, List.set_cons_succ]
  refine wpAnyH_take (i := 6) (oi := ({ dst := some 20, op := Go.Op.nilCheck (Go.Operand.tmp 19), type := 0, pos := "print.go:48", after := #[{ on := 5, ground := Go.Ground.data }], guard := none } : Oper)) (v := .pointer (some ⟨b, 0, none⟩)) rfl (by kernel_rfl) (by kernel_rfl) (by kernel_rfl) (fun _ _ _ h => h) (Or.inl ⟨by rfl, ?_⟩) (by assumption) ?_
  · intro w hSw; (try dsimp only at hSw); go_simp
  try simp only [Act.put, List.setIfInBounds_toArray, List.set_cons_zero, List.set_cons_succ]
  refine wpAnyH_take (i := 7) (oi := ({ dst := some 21, op := Go.Op.fieldAddr 88 (Go.Operand.tmp 20) 1, type := 0, pos := "print.go:48", after := #[{ on := 6, ground := Go.Ground.data }], guard := none } : Oper)) (v := .pointer (some ⟨b, 2, none⟩)) rfl (by kernel_rfl) (by kernel_rfl) (by kernel_rfl) (fun _ _ _ h => h) (Or.inl ⟨by rfl, ?_⟩) (by assumption) ?_
  · intro w hSw; (try dsimp only at hSw); go_simp
  try simp only [Act.put, List.setIfInBounds_toArray, List.set_cons_zero, List.set_cons_succ]
  refine wpAnyH_take (i := 8) (oi := ({ dst := some 22, op := Go.Op.load 3 (Go.Operand.tmp 21), type := 3, pos := "print.go:48", after := #[{ on := 7, ground := Go.Ground.data }], guard := none } : Oper)) (v := .int .i64 (O : Int)) rfl (by kernel_rfl) (by kernel_rfl) (by kernel_rfl) (fun _ _ _ h => h) (Or.inl ⟨by rfl, ?_⟩) (by assumption) ?_
  · intro w hSw; (try dsimp only at hSw); go_simp
  try simp only [Act.put, List.setIfInBounds_toArray, List.set_cons_zero, List.set_cons_succ]
  refine wpAnyH_ready (rs := [4]) (by kernel_rfl) (by simp) ?_
  refine AllReadyH.cons (o := ({ dst := some 18, op := Go.Op.load 3 (Go.Operand.tmp 17), type := 3, pos := "print.go:48", after := #[{ on := 3, ground := Go.Ground.data }], guard := none } : Oper)) rfl (fun K hK => ?_) AllReadyH.nil
  go_simp
  refine hK.out _ _ d2 (fun hHeldN => ?_)
  clear hK K hHeld
  have hHeld := hHeldN
  clear hHeldN
  try simp only [Act.put, List.setIfInBounds_toArray, List.set_cons_zero, List.set_cons_succ]
  refine wpAnyH_take (i := 9) (oi := ({ dst := some 23, op := Go.Op.call { callee := Go.Callee.builtin Go.Builtin.max, args := #[Go.Operand.tmp 18, Go.Operand.tmp 22], argTypes := #[3, 3] }, type := 3, pos := "print.go:48", after := #[{ on := 4, ground := Go.Ground.data }, { on := 8, ground := Go.Ground.data }], guard := none } : Oper)) (v := .int .i64 (M : Int)) rfl (by kernel_rfl) (by kernel_rfl) (by kernel_rfl) (fun _ _ _ h => h) (Or.inl ⟨by rfl, ?_⟩) (by assumption) ?_
  · intro w hSw; (try dsimp only at hSw); go_simp
  try simp only [Act.put, List.setIfInBounds_toArray, List.set_cons_zero, List.set_cons_succ]
  refine wpAnyH_take (i := 10) (oi := ({ dst := some 24, op := Go.Op.nilCheck (Go.Operand.tmp 14), type := 0, pos := "print.go:48", after := #[{ on := 0, ground := Go.Ground.data }, { on := 0, ground := Go.Ground.phase }, { on := 1, ground := Go.Ground.phase }, { on := 2, ground := Go.Ground.phase }, { on := 3, ground := Go.Ground.phase }, { on := 4, ground := Go.Ground.phase }, { on := 5, ground := Go.Ground.phase }, { on := 6, ground := Go.Ground.phase }, { on := 7, ground := Go.Ground.phase }, { on := 8, ground := Go.Ground.phase }, { on := 9, ground := Go.Ground.phase }], guard := none } : Oper)) (v := .pointer (some ⟨b, 0, none⟩)) rfl (by kernel_rfl) (by kernel_rfl) (by kernel_rfl) (fun _ _ _ h => h) (Or.inl ⟨by rfl, ?_⟩) (by assumption) ?_
  · intro w hSw; (try dsimp only at hSw); go_simp
  try simp only [Act.put, List.setIfInBounds_toArray, List.set_cons_zero, List.set_cons_succ]
  refine wpAnyH_take (i := 11) (oi := ({ dst := some 25, op := Go.Op.fieldAddr 88 (Go.Operand.tmp 24) 2, type := 0, pos := "print.go:48", after := #[{ on := 10, ground := Go.Ground.data }, { on := 0, ground := Go.Ground.phase }, { on := 1, ground := Go.Ground.phase }, { on := 2, ground := Go.Ground.phase }, { on := 3, ground := Go.Ground.phase }, { on := 4, ground := Go.Ground.phase }, { on := 5, ground := Go.Ground.phase }, { on := 6, ground := Go.Ground.phase }, { on := 7, ground := Go.Ground.phase }, { on := 8, ground := Go.Ground.phase }, { on := 9, ground := Go.Ground.phase }], guard := none } : Oper)) (v := .pointer (some ⟨b, 3, none⟩)) rfl (by kernel_rfl) (by kernel_rfl) (by kernel_rfl) (fun _ _ _ h => h) (Or.inl ⟨by rfl, ?_⟩) (by assumption) ?_
  · intro w hSw; (try dsimp only at hSw); go_simp
  try simp only [Act.put, List.setIfInBounds_toArray, List.set_cons_zero, List.set_cons_succ]
  refine wpAnyH_ready (rs := [12]) (by kernel_rfl) (by simp) ?_
  refine AllReadyH.cons (o := ({ dst := none, op := Go.Op.store 3 (Go.Operand.tmp 25) (Go.Operand.tmp 23), type := 0, pos := "print.go:48", after := #[{ on := 11, ground := Go.Ground.data }, { on := 9, ground := Go.Ground.data }, { on := 0, ground := Go.Ground.phase }, { on := 1, ground := Go.Ground.phase }, { on := 2, ground := Go.Ground.phase }, { on := 3, ground := Go.Ground.phase }, { on := 4, ground := Go.Ground.phase }, { on := 5, ground := Go.Ground.phase }, { on := 6, ground := Go.Ground.phase }, { on := 7, ground := Go.Ground.phase }, { on := 8, ground := Go.Ground.phase }, { on := 9, ground := Go.Ground.phase }], guard := none } : Oper)) rfl (fun K hK => ?_) AllReadyH.nil
  go_simp
  refine hK.out _ _ D2.out (fun hHeldN => ?_)
  clear hK K hHeld
  have hHeld := hHeldN
  clear hHeldN
  try simp only [Act.put, List.setIfInBounds_toArray, List.set_cons_zero, List.set_cons_succ]
  refine wpAnyH_done (by kernel_rfl) ?_ _
  go_wp2
  go_end0
  exact ⟨rfl, ((HP2.out).most M).1.drew, HK2.out.trans (((HP2.out).most M).2.trans (Kpt.below ((Below.refl _ _).drew) (by simp [World.setCell]; exact Nat.le_trans hB HK2.out.1.size)))⟩
end Go.Proofs.YtcnohgifihbkdaaGreatDoor.Lx

namespace Go.Proofs.YtcnohgifihbkdaaGreatDoor.Lx
open Go.RowKit Go.Deep
set_option linter.unusedVariables false
set_option linter.unusedSimpArgs false

theorem PrP.of {w W : World} {B b : Nat} {m : List UInt8} {op mo : Nat} {e : Ending} {w' : World} (hB : B ≤ w.heap.size) (hb : Below w.heap.size w W) (h : PrP W B b m op mo e w') : PrP w B b m op mo e w' := ⟨h.1, h.2.1, (Kpt.below hb hB).trans h.2.2⟩
theorem write_new (w : World) (B b : Nat) (l : List UInt8) (op mo : Nat) (h : Prn w B b l op mo) (ts : List ByteArray) (n : Nat) (hn : n = ts.length) (hn1 : n ≤ 100) (hB : B ≤ w.heap.size) (hl : l.length + (catL ts).length ≤ 1000000000) :
    Calls Tryz.prog 129 #[.pointer (some ⟨b, 0, none⟩), .slice (some ⟨w.heap.size, 0, none⟩) n n] (w.alloc (.cells (ts.map Value.string).toArray 9)) (PrP w B b (l ++ catL ts) op mo) := by
  have hb := (Below.refl w.heap.size w).alloc (Nat.le_refl _) (.cells (ts.map Value.string).toArray 9)
  have hlt := h.lt
  refine (write_any _ B b l op mo (h.below hb) w.heap.size n n ts (by omega) (heap_alloc_new _ _) hn hn1 (Nat.le_trans hB hb.size) hl).mono ?_
  intro e w' h'
  exact PrP.of hB hb h'
theorem enter_new (w : World) (B b : Nat) (l : List UInt8) (op mo : Nat) (h : Prn w B b l op mo) (ho : op ≤ 1000000000) (hmo : mo ≤ 1000000000) (ts : List ByteArray) (n : Nat) (hn : n = ts.length) (hn1 : n ≤ 100) (hB : B ≤ w.heap.size) (hl : l.length + (catL ts).length ≤ 1000000000) :
    Calls Tryz.prog 136 #[.pointer (some ⟨b, 0, none⟩), .slice (some ⟨w.heap.size, 0, none⟩) n n] (w.alloc (.cells (ts.map Value.string).toArray 9)) (PrP w B b (l ++ catL ts) (op + 1) (max mo (op + 1))) := by
  have hb := (Below.refl w.heap.size w).alloc (Nat.le_refl _) (.cells (ts.map Value.string).toArray 9)
  have hlt := h.lt
  refine (enter_any _ B b l op mo (h.below hb) ho hmo w.heap.size n n ts (by omega) (heap_alloc_new _ _) hn hn1 (Nat.le_trans hB hb.size) hl).mono ?_
  intro e w' h'
  exact PrP.of hB hb h'
set_option maxRecDepth 100000 in
theorem leave_any (w : World) (B b : Nat) (l : List UInt8) (op mo : Nat) (h : Prn w B b l (op + 1) mo) (ho : op ≤ 1000000000) (s : ByteArray) (hB : B ≤ w.heap.size) (hl : l.length + s.size ≤ 1000000000) :
    Calls Tryz.prog 138 #[.pointer (some ⟨b, 0, none⟩), .string s] w (PrP w B b (l ++ s.data.toList) op mo) := by
  have hc1 : catL [s] = s.data.toList := by simp [catL]
  have K := hid (write_new w B b l (op + 1) mo h [s] 1 rfl (by omega) hB (by rw [hc1, ← Lib.size_eq]; exact hl))
  rw [hc1] at K
  simp only [List.map_cons, List.map_nil] at K
  obtain ⟨O, hO⟩ : ∃ O, O = op + 1 := ⟨_, rfl⟩
  rw [← hO] at K
  have hOI : (O : Int) ≤ 1000000001 := by omega
  have hO1 : (1 : Int) ≤ (O : Int) := by omega
  have HO := hid hO
  clear h hO
  go_enter Tryz.func138, Tryz.ntmps138
  go_wp2_with (go_at_call 129; (refine (Hid.out K).mono ?_; rintro e w1 ⟨rfl, hp1, hk1⟩; have hcc := hp1.cells; obtain ⟨⟨c2, c3⟩, f2, f3⟩ := hcc; have HP := hid hp1; have HK := hid hk1; clear hp1 hk1 c3 f3))
  go_end0
  have hn := HP.out.num op
  have e1 : ((O : Int) - 1) = (op : Int) := by have := HO.out; omega
  rw [e1]
  exact ⟨rfl, hn.1, HK.out.trans hn.2⟩
def commaB (i : Nat) : List UInt8 := if i = 0 then [] else [44, 32]
set_option maxRecDepth 100000 in
theorem comma_any (w : World) (B b : Nat) (l : List UInt8) (op mo : Nat) (h : Prn w B b l op mo) (i : Nat) (hi : i ≤ 1000000) (hB : B ≤ w.heap.size) (hl : l.length + 2 ≤ 1000000000) :
    Calls Tryz.prog 137 #[.pointer (some ⟨b, 0, none⟩), .int .i64 (i : Int)] w (PrP w B b (l ++ commaB i) op mo) := by
  have hc1 : catL [⟨#[44, 32]⟩] = [44, 32] := by simp [catL]
  have K := hid (write_new w B b l op mo h [⟨#[44, 32]⟩] 1 rfl (by omega) hB (by rw [hc1]; exact hl))
  rw [hc1] at K
  simp only [List.map_cons, List.map_nil] at K
  have HP := hid h
  clear h
  by_cases h0 : i = 0
  · subst h0
    go_enter Tryz.func137, Tryz.ntmps137
    go_wp2
    go_end0
    exact ⟨rfl, by simpa [commaB] using HP.out, Kpt.refl _ _ _⟩
  · have h0' : (0 : Int) < (i : Int) := by omega
    have e : commaB i = [44, 32] := by unfold commaB; rw [if_neg h0]
    rw [e]
    clear e
    go_enter Tryz.func137, Tryz.ntmps137
    go_wp2_with (go_at_call 129; (refine (Hid.out K).mono ?_; rintro e w1 ⟨rfl, hp1, hk1⟩))
    go_end0
    exact ⟨rfl, hp1, hk1⟩
/- Is an argument written in brackets? -/
def brk (e a : EH) : Bool :=
  if a.kind = 6 then true else
  if a.kind = 5 then decide (a.op = 18) || decide (a.op = 19) else
  if a.kind = 1 then decide (a.int < 0) || decide (e.op = 18) else
  if a.kind = 10 ∨ a.kind = 12 then decide (e.kind = 7) else false
set_option maxRecDepth 100000 in
set_option maxHeartbeats 1000000 in
theorem brk_any (w : World) (e a : EH) (de : EHr w e) (da : EHr w a) : Calls Tryz.prog 173 #[.pointer (some ⟨e.b, e.o, none⟩), .pointer (some ⟨a.b, a.o, none⟩)] w fun r w' => r = .returned (.bool (brk e a)) ∧ w' = w := by
  have c0 := da.c0
  have c1 := da.c1
  have c2 := da.c2
  have e0 := de.c0
  have e1 := de.c1
  clear de da
  unfold brk
  by_cases k6 : a.kind = 6
  · go_enter Tryz.func173, Tryz.ntmps173
    go_wp2
    go_ret
    exact ⟨by simp [k6], rfl⟩
  · by_cases k5 : a.kind = 5
    · by_cases h1 : a.op = 18
      · go_enter Tryz.func173, Tryz.ntmps173
        go_wp2
        go_ret
        exact ⟨by simp [k5, h1], rfl⟩
      · go_enter Tryz.func173, Tryz.ntmps173
        go_wp2
        go_ret
        exact ⟨ret_bool (by simp [k5, h1]), rfl⟩
    · by_cases k1 : a.kind = 1
      · by_cases h1 : a.int < 0
        · go_enter Tryz.func173, Tryz.ntmps173
          go_wp2
          go_ret
          exact ⟨by simp [k1, h1], rfl⟩
        · go_enter Tryz.func173, Tryz.ntmps173
          go_wp2
          go_ret
          exact ⟨ret_bool (by simp [k1]; omega), rfl⟩
      · by_cases k10 : a.kind = 10
        · go_enter Tryz.func173, Tryz.ntmps173
          go_wp2
          go_ret
          exact ⟨ret_bool (by simp [k10]), rfl⟩
        · by_cases k12 : a.kind = 12
          · go_enter Tryz.func173, Tryz.ntmps173
            go_wp2
            go_ret
            exact ⟨ret_bool (by simp [k12]), rfl⟩
          · go_enter Tryz.func173, Tryz.ntmps173
            go_wp2
            go_ret
            exact ⟨by simp [k6, k5, k1, k10, k12], rfl⟩
end Go.Proofs.YtcnohgifihbkdaaGreatDoor.Lx

namespace Go.Proofs.YtcnohgifihbkdaaGreatDoor.Lx
open Go.RowKit Go.Deep
set_option linter.unusedVariables false
set_option linter.unusedSimpArgs false

/- What the library's tables hold. -/
structure EnvT (w : World) : Prop where
  tab : Lib.TabIs Tryz.prog w "internal/strconv.uint64pow10" .u64 Lib.pow10Tab
  mx : MX w
theorem EnvT.below {w w' : World} (h : EnvT w) (k : Below w.heap.size w w') : EnvT w' := ⟨Lib.tabBelow_of_tabIs h.tab w' k, h.mx.below h.mx.lt k⟩
/- Texts with commas between; the greatest of numbers. -/
def jn (ps : List (List UInt8)) : List UInt8 := (ps.mapIdx fun i x => commaB i ++ x).flatten
def mxL (ds : List Nat) : Nat := ds.foldr max 0
theorem jn_snoc (ps : List (List UInt8)) (x : List UInt8) : jn (ps ++ [x]) = jn ps ++ (commaB ps.length ++ x) := by
  unfold jn
  rw [List.mapIdx_append]; simp
theorem mxL_snoc (ds : List Nat) (x : Nat) : mxL (ds ++ [x]) = max (mxL ds) x := by
  unfold mxL
  induction ds with
  | nil => simp
  | cons d r ih => simp only [List.cons_append, List.foldr_cons, ih]; omega
/- Whatever is printed of a thing of k levels: its bytes, how deep. -/
def PrSaid (k : Nat) (pr : ET k → List UInt8) (dp : ET k → Nat) (ok : ET k → Prop) : Prop := ∀ (w0 : World) (t : ET k) (B b : Nat) (l : List UInt8) (op mo : Nat) (w : World), ERd k w0 t → ok t → EnvT w0 → w0.heap.size ≤ B → Below w0.heap.size w0 w → B ≤ w.heap.size → Prn w B b l op mo → l.length + (pr t).length ≤ 900000000 → op + dp t ≤ 900000000 → mo ≤ 900000000 → op ≤ mo →
    Calls Tryz.prog 97 #[.pointer (some ⟨b, 0, none⟩), .pointer (some ⟨(eH k t).b, (eH k t).o, none⟩)] w (PrP w B b (l ++ pr t) op (max mo (op + dp t)))
theorem PrP.bel {w w' : World} {B b : Nat} {m : List UInt8} {op mo : Nat} {e : Ending} (h : PrP w B b m op mo e w') : Below B w w' := h.2.2.1
def bs (s : ByteArray) : List UInt8 := s.data.toList
theorem bs_len (s : ByteArray) : (bs s).length = s.size := (Lib.size_eq s).symm
theorem Prn.eq {w : World} {B b : Nat} {l l' : List UInt8} {op mo mo' : Nat} (h : Prn w B b l op mo) (e : l = l') (e' : mo = mo') : Prn w B b l' op mo' := by rw [← e, ← e']; exact h
set_option maxRecDepth 100000 in
theorem entry_of (k : Nat) (pr : ET k → List UInt8) (dp : ET k → Nat) (ok : ET k → Prop) (ih : PrSaid k pr dp ok) (w0 : World) (t : ET k) (name : ByteArray) (B b : Nat) (l : List UInt8) (op mo : Nat) (w : World) (hr : ERd k w0 t) (hok : ok t) (hE : EnvT w0) (h0 : w0.heap.size ≤ B) (hb : Below w0.heap.size w0 w) (hB : B ≤ w.heap.size) (hp : Prn w B b l op mo)
    (hl : l.length + (name.size + 2 + (pr t).length) ≤ 900000000) (ho : op + (1 + dp t) ≤ 900000000) (hm : mo ≤ 900000000) :
    Calls Tryz.prog 139 #[.pointer (some ⟨b, 0, none⟩), .string name, .pointer (some ⟨(eH k t).b, (eH k t).o, none⟩)] w (PrP w B b (l ++ (bs name ++ (91 :: (pr t ++ [93])))) op (max mo (op + (1 + dp t)))) := by
  have hc1 : catL [name, ⟨#[91]⟩] = bs name ++ [91] := by simp [catL, bs]
  have hnl := bs_len name
  have K1 := hid (enter_new w B b l op mo hp (by omega) (by omega) [name, ⟨#[91]⟩] 2 rfl (by omega) hB (by rw [hc1, List.length_append, hnl]; simp; omega))
  rw [hc1] at K1
  simp only [List.map_cons, List.map_nil] at K1
  have K2 := hid (fun (w1 : World) (h1 : Below B w w1) (hp1 : Prn w1 B b (l ++ (bs name ++ [91])) (op + 1) (max mo (op + 1))) => ih w0 t B b _ (op + 1) _ w1 hr hok hE h0 (hb.trans (h1.mono h0)) (Nat.le_trans hB h1.size) hp1 (by simp [hnl]; omega) (by omega) (by omega) (by omega))
  have K3 := hid (fun (w2 : World) (h1 : Below B w w2) (hp2 : Prn w2 B b (l ++ (bs name ++ [91]) ++ pr t) (op + 1) (max (max mo (op + 1)) (op + 1 + dp t))) => leave_any w2 B b _ op _ hp2 (by omega) ⟨#[93]⟩ (Nat.le_trans hB h1.size) (by rw [show (⟨#[93]⟩ : ByteArray).size = 1 from rfl]; simp [hnl]; omega))
  have HF : Hid (max (max mo (op + 1)) (op + 1 + dp t) = max mo (op + (1 + dp t))) := hid (by omega)
  generalize eH k t = eh at *
  clear hr hok hE h0 hb hp hl ho hm hc1 ih hnl
  go_enter Tryz.func139, Tryz.ntmps139
  go_wp2_with (first
    | (go_at_call 136; (refine (Hid.out K1).mono ?_; rintro e w1 ⟨rfl, hp1, hk1⟩; have K2' := hid (K2.out w1 hk1.1 hp1); have HK1 := hid hk1; clear hp1 hk1))
    | (go_at_call 97; (refine (Hid.out K2').mono ?_; rintro e w2 ⟨rfl, hp2, hk2⟩; have HK2 := hid (HK1.out.trans hk2); have K3' := hid (K3.out w2 HK2.out.1 hp2); clear hp2 hk2))
    | (go_at_call 138; (refine (Hid.out K3').mono ?_; rintro e w3 ⟨rfl, hp3, hk3⟩)))
  go_end0
  exact ⟨rfl, hp3.eq (by simp [bs]) HF.out, HK2.out.trans hk3⟩
def argB (h a : EH) (p : List UInt8) : List UInt8 := if brk h a then 40 :: (p ++ [41]) else p
def argD (h a : EH) (d : Nat) : Nat := if brk h a then 1 + d else d
set_option maxRecDepth 100000 in
set_option maxHeartbeats 1000000 in
theorem argument_of (k : Nat) (pr : ET k → List UInt8) (dp : ET k → Nat) (ok : ET k → Prop) (ih : PrSaid k pr dp ok) (w0 : World) (h : EH) (ts : List (ET k)) (i : Nat) (t : ET k) (ht : ts[i]? = some t) (hi : i < h.an) (hi2 : i ≤ 10) (dh : EHr w0 h) (dl : LiesAt 8 h.aa (eAt k) ts) (hr : ERd k w0 t) (hok : ok t) (B b : Nat) (l : List UInt8) (op mo : Nat) (w : World) (hE : EnvT w0) (h0 : w0.heap.size ≤ B) (hb : Below w0.heap.size w0 w) (hB : B ≤ w.heap.size) (hp : Prn w B b l op mo)
    (hl : l.length + (argB h (eH k t) (pr t)).length ≤ 900000000) (ho : op + argD h (eH k t) (dp t) ≤ 900000000) (hm : mo ≤ 900000000) (hmo : op ≤ mo) :
    Calls Tryz.prog 134 #[.pointer (some ⟨b, 0, none⟩), .pointer (some ⟨h.b, h.o, none⟩), .int .i64 (i : Int)] w (PrP w B b (l ++ argB h (eH k t) (pr t)) op (max mo (op + argD h (eH k t) (dp t)))) := by
  obtain ⟨ab, aoff, eaa, hat⟩ := dl i t ht
  simp only [eAt, Prod.mk.injEq] at hat
  have hiI : (i : Int) < (h.an : Int) := by omega
  have hi0 : (0 : Int) ≤ (i : Int) := by omega
  have haI : (h.an : Int) ≤ 1000000 := by have := dh.ab; omega
  have c6 := (dh.below (Nat.le_refl _) hb).c6
  rw [eaa] at c6
  have KB := hid (brk_any w h (eH k t) (dh.below (Nat.le_refl _) hb) ((hr.h).below (Nat.le_refl _) hb))
  unfold argB at hl ⊢
  unfold argD at ho ⊢
  cases hq : brk h (eH k t) with
  | false =>
    rw [hq] at KB hl ho
    simp only [Bool.false_eq_true, if_false] at hl ho ⊢
    have K0 := hid (ih w0 t B b l op mo w hr hok hE h0 hb hB hp (by omega) (by omega) hm hmo)
    rw [hat.1, hat.2] at K0 KB
    clear hr hok hE h0 hb hp hl ho hm hmo ih dh dl ht hat eaa
    go_enter Tryz.func134, Tryz.ntmps134
    go_wp2_with (first
      | (go_at_call 173; (refine (Hid.out KB).mono ?_; rintro e w1 ⟨rfl, rfl⟩))
      | (go_at_call 97; (refine (Hid.out K0).mono ?_; rintro e w2 ⟨rfl, hp2, hk2⟩)))
    refine bodyPost_ret (results_none rfl _ _ _) rfl ?_
    exact ⟨rfl, hp2, hk2⟩
  | true =>
    rw [hq] at KB hl ho
    simp only [if_true, List.length_cons, List.length_append, List.length_nil] at hl ho
    simp only [if_true]
    have hc1 : catL [⟨#[40]⟩] = [40] := by simp [catL]
    have K1 := hid (enter_new w B b l op mo hp (by omega) (by omega) [⟨#[40]⟩] 1 rfl (by omega) hB (by rw [hc1]; simp; omega))
    rw [hc1] at K1
    simp only [List.map_cons, List.map_nil] at K1
    have K2 := hid (fun (w1 : World) (h1 : Below B w w1) (hp1 : Prn w1 B b (l ++ [40]) (op + 1) (max mo (op + 1))) => ih w0 t B b _ (op + 1) _ w1 hr hok hE h0 (hb.trans (h1.mono h0)) (Nat.le_trans hB h1.size) hp1 (by simp; omega) (by omega) (by omega) (by omega))
    have K3 := hid (fun (w2 : World) (h1 : Below B w w2) (hp2 : Prn w2 B b (l ++ [40] ++ pr t) (op + 1) (max (max mo (op + 1)) (op + 1 + dp t))) => leave_any w2 B b _ op _ hp2 (by omega) ⟨#[41]⟩ (Nat.le_trans hB h1.size) (by rw [show (⟨#[41]⟩ : ByteArray).size = 1 from rfl]; simp; omega))
    have HF : Hid (max (max mo (op + 1)) (op + 1 + dp t) = max mo (op + (1 + dp t))) := hid (by omega)
    rw [hat.1, hat.2] at KB
    simp only [hat.1, hat.2] at K2
    clear hr hok hE h0 hb hp hl ho hm hmo hc1 ih dh dl ht hat eaa
    go_enter Tryz.func134, Tryz.ntmps134
    go_wp2_with (first
      | (go_at_call 173; (refine (Hid.out KB).mono ?_; rintro e w1 ⟨rfl, rfl⟩))
      | (go_at_call 136; (refine (Hid.out K1).mono ?_; rintro e w1 ⟨rfl, hp1, hk1⟩; have K2' := hid (K2.out w1 hk1.1 hp1); have HK1 := hid hk1; clear hp1 hk1))
      | (go_at_call 97; (refine (Hid.out K2').mono ?_; rintro e w2 ⟨rfl, hp2, hk2⟩; have HK2 := hid (HK1.out.trans hk2); have K3' := hid (K3.out w2 HK2.out.1 hp2); clear hp2 hk2))
      | (go_at_call 138; (refine (Hid.out K3').mono ?_; rintro e w3 ⟨rfl, hp3, hk3⟩)))
    go_end0
    exact ⟨rfl, hp3.eq (by simp) HF.out, HK2.out.trans hk3⟩

theorem jn_take {α : Type} (f : α → List UInt8) {ts : List α} {i : Nat} {t : α} (h : ts[i]? = some t) : jn ((ts.take (i + 1)).map f) = jn ((ts.take i).map f) ++ (commaB i ++ f t) := by
  have hi := (List.getElem?_eq_some_iff.1 h).1
  rw [List.take_add_one, h]
  simp only [Option.toList_some, List.map_append, List.map_cons, List.map_nil]
  rw [jn_snoc, List.length_map, List.length_take, Nat.min_eq_left (by omega)]
theorem mx_take {α : Type} (f : α → Nat) {ts : List α} {i : Nat} {t : α} (h : ts[i]? = some t) : mxL ((ts.take (i + 1)).map f) = max (mxL ((ts.take i).map f)) (f t) := by
  rw [List.take_add_one, h]
  simp only [Option.toList_some, List.map_append, List.map_cons, List.map_nil]
  rw [mxL_snoc]
theorem jn_pre {α : Type} (f : α → List UInt8) (ts : List α) (i : Nat) : (jn ((ts.take i).map f)).length ≤ (jn (ts.map f)).length := by
  have hm : ∀ j, (jn ((ts.take j).map f)).length ≤ (jn ((ts.take (j + 1)).map f)).length := fun j => by
    cases e : ts[j]? with
    | none =>
      have hl : ts.length ≤ j := by simpa using e
      rw [List.take_of_length_le hl, List.take_of_length_le (by omega)]; exact Nat.le_refl _
    | some t => rw [jn_take f e, List.length_append]; omega
  have hmm : ∀ d j, (jn ((ts.take j).map f)).length ≤ (jn ((ts.take (j + d)).map f)).length := fun d => by
    induction d with
    | zero => intro j; exact Nat.le_refl _
    | succ d ih => intro j; exact Nat.le_trans (ih j) (hm (j + d))
  have := hmm ts.length i
  rwa [List.take_of_length_le (show ts.length ≤ i + ts.length by omega)] at this
theorem mx_mem {ds : List Nat} {d : Nat} (h : d ∈ ds) : d ≤ mxL ds := by
  unfold mxL
  induction ds with
  | nil => cases h
  | cons x r ih =>
    rcases List.mem_cons.1 h with rfl | h
    · simp only [List.foldr_cons]; omega
    · have := ih h; simp only [List.foldr_cons]; omega
theorem mx_pre {α : Type} (f : α → Nat) (ts : List α) (i : Nat) : mxL ((ts.take i).map f) ≤ mxL (ts.map f) := by
  have hle : ∀ ds : List Nat, (∀ d ∈ ds, d ≤ mxL (ts.map f)) → mxL ds ≤ mxL (ts.map f) := by
    intro ds
    induction ds with
    | nil => intro _; exact Nat.zero_le _
    | cons x r ih =>
      intro h
      have h1 := h x (List.mem_cons_self ..)
      have h2 := ih (fun d hd => h d (List.mem_cons_of_mem _ hd))
      show max x (mxL r) ≤ _
      omega
  refine hle _ (fun d hd => mx_mem ?_)
  rw [List.mem_map] at hd ⊢
  obtain ⟨t, ht, e⟩ := hd
  exact ⟨t, List.mem_of_mem_take ht, e⟩
set_option maxRecDepth 100000 in
set_option maxHeartbeats 1000000 in
theorem call_of (k : Nat) (pr : ET k → List UInt8) (dp : ET k → Nat) (ok : ET k → Prop) (ih : PrSaid k pr dp ok) (w0 : World) (name : ByteArray) (aa : Option Addr) (an ac : Nat) (ts : List (ET k)) (hn : an = ts.length) (han : an ≤ 1000000) (dl : LiesAt 8 aa (eAt k) ts) (hr : ∀ t ∈ ts, ERd k w0 t) (hok : ∀ t ∈ ts, ok t) (B b : Nat) (l : List UInt8) (op mo : Nat) (w : World) (hE : EnvT w0) (h0 : w0.heap.size ≤ B) (hb : Below w0.heap.size w0 w) (hB : B ≤ w.heap.size) (hp : Prn w B b l op mo)
    (hl : l.length + (name.size + 2 + (jn (ts.map pr)).length) ≤ 900000000) (ho : op + (1 + mxL (ts.map dp)) ≤ 900000000) (hm : mo ≤ 900000000) :
    Calls Tryz.prog 140 #[.pointer (some ⟨b, 0, none⟩), .string name, .slice aa an ac] w (PrP w B b (l ++ (bs name ++ (40 :: (jn (ts.map pr) ++ [41])))) op (max mo (op + (1 + mxL (ts.map dp))))) := by
  have hc1 : catL [name, ⟨#[40]⟩] = bs name ++ [40] := by simp [catL, bs]
  have hnl := bs_len name
  have hanI : (an : Int) ≤ 1000000 := by omega
  have K1 := hid (enter_new w B b l op mo hp (by omega) (by omega) [name, ⟨#[40]⟩] 2 rfl (by omega) hB (by rw [hc1, List.length_append, hnl]; simp; omega))
  rw [hc1] at K1
  simp only [List.map_cons, List.map_nil] at K1
  obtain ⟨L, hL⟩ : ∃ L, L = l ++ (bs name ++ [40]) := ⟨_, rfl⟩
  have hLl : L.length = l.length + (name.size + 1) := by rw [hL]; simp [hnl]
  rw [← hL] at K1
  obtain ⟨M1, hM1⟩ : ∃ M1, M1 = max mo (op + 1) := ⟨_, rfl⟩
  rw [← hM1] at K1
  have hM1l : M1 ≤ 900000000 := by omega
  have KC := hid (fun (i : Nat) (t : ET k) (ht : ts[i]? = some t) (w1 : World) (h1 : Below B w w1) (mo1 : Nat) (hp1 : Prn w1 B b (L ++ jn ((ts.take i).map pr)) (op + 1) mo1) => comma_any w1 B b _ (op + 1) mo1 hp1 i (by have := (List.getElem?_eq_some_iff.1 ht).1; omega) (Nat.le_trans hB h1.size) (by
    have := jn_pre pr ts i
    rw [List.length_append, hLl]; omega))
  have K2 := hid (fun (i : Nat) (t : ET k) (ht : ts[i]? = some t) (w1 : World) (h1 : Below B w w1) (hp1 : Prn w1 B b (L ++ jn ((ts.take i).map pr) ++ commaB i) (op + 1) (max M1 (op + 1 + mxL ((ts.take i).map dp)))) => ih w0 t B b _ (op + 1) _ w1 (hr t (List.mem_of_getElem? ht)) (hok t (List.mem_of_getElem? ht)) hE h0 (hb.trans (h1.mono h0)) (Nat.le_trans hB h1.size) hp1 (by
    have h2 := jn_pre pr ts (i + 1)
    rw [jn_take pr ht] at h2
    simp only [List.length_append, hLl] at h2 ⊢
    omega) (by
    have h2 := mx_pre dp ts (i + 1)
    rw [mx_take dp ht] at h2
    omega) (by
    have h2 := mx_pre dp ts i
    omega) (by omega))
  have K3 := hid (fun (w2 : World) (h1 : Below B w w2) (hp2 : Prn w2 B b (L ++ jn (ts.map pr)) (op + 1) (max M1 (op + 1 + mxL (ts.map dp)))) => leave_any w2 B b _ op _ hp2 (by omega) ⟨#[41]⟩ (Nat.le_trans hB h1.size) (by rw [show (⟨#[41]⟩ : ByteArray).size = 1 from rfl, List.length_append, hLl]; omega))
  have HF : Hid (max M1 (op + 1 + mxL (ts.map dp)) = max mo (op + (1 + mxL (ts.map dp)))) := hid (by omega)
  have HLe : Hid (L ++ jn (ts.map pr) ++ [41] = l ++ (bs name ++ (40 :: (jn (ts.map pr) ++ [41])))) := hid (by rw [hL]; simp)
  have HM0 : Hid (max M1 (op + 1 + 0) = M1) := hid (by omega)
  have HN := hid hn
  have DL := hid dl
  clear hr hok hE h0 hb hp hl ho hm hc1 ih hnl hL hLl hM1 hM1l hn dl
  go_enter Tryz.func140, Tryz.ntmps140
  go_wp2_with (go_at_call 136; (refine (Hid.out K1).mono ?_; rintro e w1 ⟨rfl, hp1, hk1⟩; have HP1 := hid hp1; have HK1 := hid hk1; clear hp1 hk1))
  go_loopg [13] an (fun g x wr => ∃ i : Nat, i + g = an ∧ x = .int .i64 (i : Int) ∧ Prn wr B b (L ++ jn ((ts.take i).map pr)) (op + 1) (max M1 (op + 1 + mxL ((ts.take i).map dp))) ∧ Kpt B b w wr)
  case atStart => exact ⟨0, by omega, rfl, HP1.out.eq (by simp [jn]) (by have := HM0.out; simpa [mxL] using this.symm), HK1.out⟩
  case round =>
    obtain ⟨i, hi, rfl, hp2, hk2⟩ := hrel
    cases gk with
    | zero =>
      have hin : i = an := by omega
      subst hin
      rw [HN.out, List.take_of_length_le (Nat.le_refl _)] at hp2
      have K3' := hid (K3.out wr hk2.1 hp2)
      have HK2 := hid hk2
      clear hi hp2 hk2
      go_wp2_with (go_at_call 138; (refine (Hid.out K3').mono ?_; rintro e w3 ⟨rfl, hp3, hk3⟩))
      go_end0
      exact ⟨rfl, hp3.eq HLe.out HF.out, HK2.out.trans hk3⟩
    | succ g =>
      have hil : (i : Int) < (an : Int) := by omega
      have hi0 : (0 : Int) ≤ (i : Int) := by omega
      obtain ⟨t, ht⟩ : ∃ t, ts[i]? = some t := ⟨ts[i]'(by rw [← HN.out]; omega), List.getElem?_eq_getElem _⟩
      obtain ⟨ab, aoff, eaa, hat⟩ := DL.out i t ht
      subst eaa
      simp only [eAt, Prod.mk.injEq] at hat
      have KC' := hid (KC.out i t ht wr hk2.1 _ hp2)
      have K2' := hid (K2.out i t ht)
      simp only [hat.1, hat.2] at K2'
      have HJ := hid (jn_take pr ht)
      have HM := hid (mx_take dp ht)
      have HK2 := hid hk2
      have Hi := hid hi
      clear hp2 hk2 hat ht hi
      go_wp2_with (first
        | (go_at_call 137; (refine (Hid.out KC').mono ?_; rintro e w2 ⟨rfl, hp3, hk3⟩; have HK3 := hid (HK2.out.trans hk3); have K4 := hid (K2'.out w2 HK3.out.1 hp3); clear hp3 hk3))
        | (go_at_call 97; (refine (Hid.out K4).mono ?_; rintro e w3 ⟨rfl, hp4, hk4⟩)))
      go_roundg g
      case measure => omega
      case rel => exact ⟨i + 1, by have := Hi.out; omega, by go_num, hp4.eq (by rw [HJ.out]; simp) (by rw [HM.out]; omega), HK3.out.trans hk4⟩
end Go.Proofs.YtcnohgifihbkdaaGreatDoor.Lx

namespace Go.Proofs.YtcnohgifihbkdaaGreatDoor.Lx
open Go.RowKit Go.Deep
set_option linter.unusedVariables false
set_option linter.unusedSimpArgs false

def signS : List ByteArray := [⟨#[43]⟩, ⟨#[45]⟩, ⟨#[42]⟩, ⟨#[43, 37]⟩, ⟨#[45, 37]⟩, ⟨#[42, 37]⟩, ⟨#[47]⟩, ⟨#[37]⟩, ⟨#[38]⟩, ⟨#[61, 61]⟩, ⟨#[33, 61]⟩, ⟨#[60]⟩, ⟨#[60, 61]⟩, ⟨#[62]⟩, ⟨#[62, 61]⟩, ⟨#[97, 110, 100]⟩, ⟨#[111, 114]⟩]
def sgnS (op : Int) : ByteArray := signS.getD (op - 1).toNat ⟨#[]⟩
end Go.Proofs.YtcnohgifihbkdaaGreatDoor.Lx

namespace Go.Proofs.YtcnohgifihbkdaaGreatDoor.Lx
open Go.RowKit Go.Deep
set_option linter.unusedVariables false
set_option linter.unusedSimpArgs false

def unB (h a : EH) (p : List UInt8) : List UInt8 :=
  if h.op = 18 then 45 :: 32 :: argB h a p else
  if h.op = 19 then 110 :: 111 :: 116 :: 32 :: argB h a p else
  if h.op = 20 then [108, 101, 110] ++ (40 :: (jn [p] ++ [41])) else [115, 116, 114] ++ (40 :: (jn [p] ++ [41]))
def unD (h a : EH) (d : Nat) : Nat := if h.op = 18 ∨ h.op = 19 then 1 + argD h a d else 1 + mxL [d]
theorem jn1 (p : List UInt8) : jn [p] = p := by simp [jn, commaB]
set_option maxRecDepth 100000 in
set_option maxHeartbeats 1000000 in
theorem unary_of (k : Nat) (pr : ET k → List UInt8) (dp : ET k → Nat) (ok : ET k → Prop) (ih : PrSaid k pr dp ok) (w0 : World) (h : EH) (t : ET k) (han : h.an = 1) (ho1 : 18 ≤ h.op) (ho2 : h.op ≤ 21) (dh : EHr w0 h) (dl : LiesAt 8 h.aa (eAt k) [t]) (hr : ERd k w0 t) (hok : ok t) (B b : Nat) (l : List UInt8) (op mo : Nat) (w : World) (hE : EnvT w0) (h0 : w0.heap.size ≤ B) (hb : Below w0.heap.size w0 w) (hB : B ≤ w.heap.size) (hp : Prn w B b l op mo)
    (hl : l.length + (unB h (eH k t) (pr t)).length ≤ 900000000) (ho : op + unD h (eH k t) (dp t) ≤ 900000000) (hm : mo ≤ 900000000) :
    Calls Tryz.prog 133 #[.pointer (some ⟨b, 0, none⟩), .pointer (some ⟨h.b, h.o, none⟩)] w (PrP w B b (l ++ unB h (eH k t) (pr t)) op (max mo (op + unD h (eH k t) (dp t)))) := by
  have c1 := (dh.below (Nat.le_refl _) hb).c1
  have c6 := (dh.below (Nat.le_refl _) hb).c6
  have EN : ∀ (s : ByteArray), l.length + (s.size + (argB h (eH k t) (pr t)).length) ≤ 900000000 → op + (1 + argD h (eH k t) (dp t)) ≤ 900000000 → Calls Tryz.prog 136 #[.pointer (some ⟨b, 0, none⟩), .slice (some ⟨w.heap.size, 0, none⟩) 1 1] (w.alloc (.cells #[.string s] 9)) (PrP w B b (l ++ bs s) (op + 1) (max mo (op + 1))) := fun s hs hd => by
    have hc1 : catL [s] = bs s := by simp [catL, bs]
    have := enter_new w B b l op mo hp (by omega) (by omega) [s] 1 rfl (by omega) hB (by rw [hc1, bs_len]; omega)
    rw [hc1] at this
    exact this
  have AR : ∀ (s : ByteArray), l.length + (s.size + (argB h (eH k t) (pr t)).length) ≤ 900000000 → op + (1 + argD h (eH k t) (dp t)) ≤ 900000000 → Hid (∀ w1 : World, Below B w w1 → Prn w1 B b (l ++ bs s) (op + 1) (max mo (op + 1)) → Calls Tryz.prog 134 #[.pointer (some ⟨b, 0, none⟩), .pointer (some ⟨h.b, h.o, none⟩), .int .i64 0] w1 (PrP w1 B b (l ++ bs s ++ argB h (eH k t) (pr t)) (op + 1) (max (max mo (op + 1)) (op + 1 + argD h (eH k t) (dp t))))) := fun s hs hd => hid (fun w1 h1 hp1 =>
    argument_of k pr dp ok ih w0 h [t] 0 t rfl (by omega) (by omega) dh dl hr hok B b _ (op + 1) _ w1 hE h0 (hb.trans (h1.mono h0)) (Nat.le_trans hB h1.size) hp1 (by rw [List.length_append, bs_len]; omega) (by omega) (by omega) (by omega))
  have LV : ∀ (s : ByteArray), l.length + (s.size + (argB h (eH k t) (pr t)).length) ≤ 900000000 → op + (1 + argD h (eH k t) (dp t)) ≤ 900000000 → Hid (∀ w2 : World, Below B w w2 → Prn w2 B b (l ++ bs s ++ argB h (eH k t) (pr t)) (op + 1) (max (max mo (op + 1)) (op + 1 + argD h (eH k t) (dp t))) → Calls Tryz.prog 138 #[.pointer (some ⟨b, 0, none⟩), .string ⟨#[]⟩] w2 (PrP w2 B b (l ++ bs s ++ argB h (eH k t) (pr t)) op (max (max mo (op + 1)) (op + 1 + argD h (eH k t) (dp t))))) := fun s hs hd => hid (fun w2 h2 hp2 => by
    have := leave_any w2 B b _ op _ hp2 (by omega) ⟨#[]⟩ (Nat.le_trans hB h2.size) (by rw [List.length_append, List.length_append, bs_len]; simp only [show (⟨#[]⟩ : ByteArray).size = 0 from rfl]; omega)
    simpa using this)
  have CL : ∀ (s : ByteArray), l.length + (s.size + 2 + (pr t).length) ≤ 900000000 → op + (1 + dp t) ≤ 900000000 → Hid (Calls Tryz.prog 140 #[.pointer (some ⟨b, 0, none⟩), .string s, .slice h.aa h.an h.ac] w (PrP w B b (l ++ (bs s ++ (40 :: (jn [pr t] ++ [41])))) op (max mo (op + (1 + mxL [dp t]))))) := fun s hs hd => hid (by
    have := call_of k pr dp ok ih w0 s h.aa h.an h.ac [t] (by rw [han]; rfl) dh.ab dl (fun u hu => by simp at hu; subst hu; exact hr) (fun u hu => by simp at hu; subst hu; exact hok) B b l op mo w hE h0 hb hB hp (by simp only [List.map_cons, List.map_nil]; rw [jn1]; omega) (by simp [mxL]; omega) hm
    simpa using this)
  have HF : Hid (max (max mo (op + 1)) (op + 1 + argD h (eH k t) (dp t)) = max mo (op + (1 + argD h (eH k t) (dp t)))) := hid (by omega)
  clear hr hok hE h0 hb hp hm ih dh dl han
  by_cases k18 : h.op = 18
  · unfold unB at hl
    unfold unD at ho
    rw [if_pos k18] at hl
    rw [if_pos (.inl k18)] at ho
    simp only [List.length_cons] at hl
    have zz : (⟨#[45, 32]⟩ : ByteArray).size = 2 := rfl
    have K1 := hid (EN ⟨#[45, 32]⟩ (by rw [zz]; omega) (by omega))
    have K2 := AR ⟨#[45, 32]⟩ (by rw [zz]; omega) (by omega)
    have K3 := LV ⟨#[45, 32]⟩ (by rw [zz]; omega) (by omega)
    have e1 : unB h (eH k t) (pr t) = bs ⟨#[45, 32]⟩ ++ argB h (eH k t) (pr t) := by unfold unB; rw [if_pos k18]; rfl
    have e2 : unD h (eH k t) (dp t) = 1 + argD h (eH k t) (dp t) := by unfold unD; rw [if_pos (.inl k18)]
    rw [e1, e2]
    clear EN AR LV CL e1 e2 hl ho
    go_enter Tryz.func133, Tryz.ntmps133
    go_wp2_with (first
      | (go_at_call 136; (refine (Hid.out K1).mono ?_; rintro e w1 ⟨rfl, hp1, hk1⟩; have K2' := hid (K2.out w1 hk1.1 hp1); have HK1 := hid hk1; clear hp1 hk1))
      | (go_at_call 134; (refine (Hid.out K2').mono ?_; rintro e w2 ⟨rfl, hp2, hk2⟩; have HK2 := hid (HK1.out.trans hk2); have K3' := hid (K3.out w2 HK2.out.1 hp2); clear hp2 hk2))
      | (go_at_call 138; (refine (Hid.out K3').mono ?_; rintro e w3 ⟨rfl, hp3, hk3⟩)))
    go_end0
    exact ⟨rfl, hp3.eq (by simp) HF.out, HK2.out.trans hk3⟩
  · by_cases k19 : h.op = 19
    · unfold unB at hl
      unfold unD at ho
      rw [if_neg k18, if_pos k19] at hl
      rw [if_pos (.inr k19)] at ho
      simp only [List.length_cons] at hl
      have zz : (⟨#[110, 111, 116, 32]⟩ : ByteArray).size = 4 := rfl
      have K1 := hid (EN ⟨#[110, 111, 116, 32]⟩ (by rw [zz]; omega) (by omega))
      have K2 := AR ⟨#[110, 111, 116, 32]⟩ (by rw [zz]; omega) (by omega)
      have K3 := LV ⟨#[110, 111, 116, 32]⟩ (by rw [zz]; omega) (by omega)
      have e1 : unB h (eH k t) (pr t) = bs ⟨#[110, 111, 116, 32]⟩ ++ argB h (eH k t) (pr t) := by unfold unB; rw [if_neg k18, if_pos k19]; rfl
      have e2 : unD h (eH k t) (dp t) = 1 + argD h (eH k t) (dp t) := by unfold unD; rw [if_pos (.inr k19)]
      rw [e1, e2]
      clear EN AR LV CL e1 e2 hl ho
      go_enter Tryz.func133, Tryz.ntmps133
      go_wp2_with (first
        | (go_at_call 136; (refine (Hid.out K1).mono ?_; rintro e w1 ⟨rfl, hp1, hk1⟩; have K2' := hid (K2.out w1 hk1.1 hp1); have HK1 := hid hk1; clear hp1 hk1))
        | (go_at_call 134; (refine (Hid.out K2').mono ?_; rintro e w2 ⟨rfl, hp2, hk2⟩; have HK2 := hid (HK1.out.trans hk2); have K3' := hid (K3.out w2 HK2.out.1 hp2); clear hp2 hk2))
        | (go_at_call 138; (refine (Hid.out K3').mono ?_; rintro e w3 ⟨rfl, hp3, hk3⟩)))
      go_end0
      exact ⟨rfl, hp3.eq (by simp) HF.out, HK2.out.trans hk3⟩
    · have e2 : unD h (eH k t) (dp t) = 1 + mxL [dp t] := by unfold unD; rw [if_neg (by rintro (h | h); exact k18 h; exact k19 h)]
      by_cases k20 : h.op = 20
      · unfold unB at hl
        rw [e2] at ho
        rw [if_neg k18, if_neg k19, if_pos k20] at hl
        simp only [List.length_append, List.length_cons, List.length_nil, jn1] at hl
        have hd1 : mxL [dp t] = dp t := by simp [mxL]
        rw [hd1] at ho
        have zz : (⟨#[108, 101, 110]⟩ : ByteArray).size = 3 := rfl
        have K1 := CL ⟨#[108, 101, 110]⟩ (by rw [zz]; omega) (by omega)
        have e1 : unB h (eH k t) (pr t) = bs ⟨#[108, 101, 110]⟩ ++ (40 :: (jn [pr t] ++ [41])) := by unfold unB; rw [if_neg k18, if_neg k19, if_pos k20]; rfl
        rw [e1, e2]
        clear EN AR LV CL e1 e2 hl ho
        go_enter Tryz.func133, Tryz.ntmps133
        go_wp2_with (go_at_call 140; (refine (Hid.out K1).mono ?_; rintro e w1 ⟨rfl, hp1, hk1⟩))
        go_end0
        exact ⟨rfl, hp1, hk1⟩
      · have k21 : h.op = 21 := by omega
        unfold unB at hl
        rw [e2] at ho
        rw [if_neg k18, if_neg k19, if_neg k20] at hl
        simp only [List.length_append, List.length_cons, List.length_nil, jn1] at hl
        have hd1 : mxL [dp t] = dp t := by simp [mxL]
        rw [hd1] at ho
        have zz : (⟨#[115, 116, 114]⟩ : ByteArray).size = 3 := rfl
        have K1 := CL ⟨#[115, 116, 114]⟩ (by rw [zz]; omega) (by omega)
        have e1 : unB h (eH k t) (pr t) = bs ⟨#[115, 116, 114]⟩ ++ (40 :: (jn [pr t] ++ [41])) := by unfold unB; rw [if_neg k18, if_neg k19, if_neg k20]; rfl
        rw [e1, e2]
        clear EN AR LV CL e1 e2 hl ho
        go_enter Tryz.func133, Tryz.ntmps133
        go_wp2_with (go_at_call 140; (refine (Hid.out K1).mono ?_; rintro e w1 ⟨rfl, hp1, hk1⟩))
        go_end0
        exact ⟨rfl, hp1, hk1⟩
end Go.Proofs.YtcnohgifihbkdaaGreatDoor.Lx

namespace Go.Proofs.YtcnohgifihbkdaaGreatDoor.Lx
open Go.RowKit Go.Deep
set_option linter.unusedVariables false
set_option linter.unusedSimpArgs false

def on1 {β γ : Type} (es : List EH) (ps : List β) (f : EH → β → γ) (z : γ) : γ := match es, ps with
  | a :: _, p :: _ => f a p
  | _, _ => z
def on2 {β γ : Type} (es : List EH) (ps : List β) (f : EH → β → EH → β → γ) (z : γ) : γ := match es, ps with
  | a :: c :: _, p :: q :: _ => f a p c q
  | _, _ => z
/- What is written of an expression, given what is written of its arguments. -/
def prH (h : EH) (es : List EH) (ps : List (List UInt8)) : List UInt8 :=
  if h.kind = 1 then Lib.itoa h.int else
  if h.kind = 2 then quoB (bs h.text) else
  if h.kind = 3 then Lib.formatBool (decide (h.int = 1)) else
  if h.kind = 4 then bs h.name else
  if h.kind = 5 then on1 es ps (fun a p => unB h a p) [] else
  if h.kind = 6 then on2 es ps (fun a p c q => argB h a p ++ (32 :: (bs (sgnS h.op) ++ (32 :: argB h c q)))) [] else
  if h.kind = 7 then on1 es ps (fun a p => argB h a p ++ (46 :: bs h.name)) [] else
  if h.kind = 8 then bs h.name ++ (123 :: (jn (List.zipWith (fun n p => bs n ++ (58 :: 32 :: p)) h.names ps) ++ [125])) else
  if h.kind = 9 then on1 es ps (fun a p => bs h.name ++ (91 :: (p ++ [93]))) [] else
  if h.kind = 10 then on1 es ps (fun a p => 104 :: 97 :: 115 :: 32 :: (bs h.name ++ (91 :: (p ++ [93])))) [] else
  if h.kind = 11 then bs h.name ++ (40 :: (jn ps ++ [41])) else 97 :: 115 :: 107 :: 32 :: (bs h.name ++ (40 :: (jn ps ++ [41])))
def dpH (h : EH) (es : List EH) (ds : List Nat) : Nat :=
  if h.kind = 5 then on1 es ds (fun a d => unD h a d) 0 else
  if h.kind = 6 then on2 es ds (fun a d c q => max (argD h a d) (argD h c q)) 0 else
  if h.kind = 7 then on1 es ds (fun a d => argD h a d) 0 else
  if h.kind = 9 ∨ h.kind = 10 then on1 es ds (fun a d => 1 + d) 0 else
  if h.kind = 8 ∨ h.kind = 11 ∨ h.kind = 12 then 1 + mxL ds else 0
theorem okE_of {h : EH} (hR : rightE h = true) : okE h = true := by unfold rightE at hR; simp only [Bool.and_eq_true] at hR; exact hR.1
theorem one_of {α : Type} {ts : List α} {n : Nat} (h : n = ts.length) (e : n = 1) : ∃ t, ts = [t] := by
  match ts, h with
  | [t], _ => exact ⟨t, rfl⟩
  | [], h => simp at h; omega
  | _ :: _ :: _, h => simp at h; omega
end Go.Proofs.YtcnohgifihbkdaaGreatDoor.Lx

namespace Go.Proofs.YtcnohgifihbkdaaGreatDoor.Lx
open Go.RowKit Go.Deep
set_option linter.unusedVariables false
set_option linter.unusedSimpArgs false

set_option maxRecDepth 100000 in
set_option maxHeartbeats 1000000 in
theorem expr_4 (k : Nat) (pr : ET k → List UInt8) (dp : ET k → Nat) (ok : ET k → Prop) (ih : PrSaid k pr dp ok) (w0 : World) (h : EH) (ts : List (ET k)) (hk : h.kind = 4) (dh : EHr w0 h) (hn : h.an = ts.length) (dl : LiesAt 8 h.aa (eAt k) ts) (hr : ∀ u ∈ ts, ERd k w0 u) (hok : ∀ u ∈ ts, ok u) (hR : rightE h = true) (B b : Nat) (l : List UInt8) (op mo : Nat) (w : World) (hE : EnvT w0) (h0 : w0.heap.size ≤ B) (hb : Below w0.heap.size w0 w) (hB : B ≤ w.heap.size) (hp : Prn w B b l op mo)
    (hl : l.length + (prH h (ts.map (eH k)) (ts.map pr)).length ≤ 900000000) (ho : op + dpH h (ts.map (eH k)) (ts.map dp) ≤ 900000000) (hm : mo ≤ 900000000) (hmo : op ≤ mo) :
    Calls Tryz.prog 97 #[.pointer (some ⟨b, 0, none⟩), .pointer (some ⟨h.b, h.o, none⟩)] w (PrP w B b (l ++ prH h (ts.map (eH k)) (ts.map pr)) op (max mo (op + dpH h (ts.map (eH k)) (ts.map dp)))) := by
  have hO := okE_of hR
  unfold okE at hO
  have dw := dh.below (Nat.le_refl _) hb
  have c0 := dw.c0
  have e1 : prH h (ts.map (eH k)) (ts.map pr) = bs h.name := by unfold prH; simp [hk]
  have e2 : dpH h (ts.map (eH k)) (ts.map dp) = 0 := by unfold dpH; simp [hk]
  rw [e1] at hl ⊢
  rw [e2] at ho ⊢
  have cx := dw.c4
  have ec : catL [h.name] = bs h.name := by simp [catL, bs]
  have K2 := hid (write_new w B b l op mo hp [h.name] 1 rfl (by omega) hB (by rw [ec]; omega))
  simp only [ec, List.map_cons, List.map_nil] at K2
  have HM := hid hmo
  clear ih dh hn dl hr hok hR hE h0 hb hp hl ho hm dw hO e1 e2 ec hmo
  go_enter Tryz.func97, Tryz.ntmps97
  go_wp2_with (go_at_call 129; (refine (Hid.out K2).mono ?_; rintro e w2 ⟨rfl, hp2, hk2⟩))
  go_end0
  exact ⟨rfl, hp2.eq rfl (by have := HM.out; omega), hk2⟩

set_option maxRecDepth 100000 in
set_option maxHeartbeats 1000000 in
theorem expr_5 (k : Nat) (pr : ET k → List UInt8) (dp : ET k → Nat) (ok : ET k → Prop) (ih : PrSaid k pr dp ok) (w0 : World) (h : EH) (ts : List (ET k)) (hk : h.kind = 5) (dh : EHr w0 h) (hn : h.an = ts.length) (dl : LiesAt 8 h.aa (eAt k) ts) (hr : ∀ u ∈ ts, ERd k w0 u) (hok : ∀ u ∈ ts, ok u) (hR : rightE h = true) (B b : Nat) (l : List UInt8) (op mo : Nat) (w : World) (hE : EnvT w0) (h0 : w0.heap.size ≤ B) (hb : Below w0.heap.size w0 w) (hB : B ≤ w.heap.size) (hp : Prn w B b l op mo)
    (hl : l.length + (prH h (ts.map (eH k)) (ts.map pr)).length ≤ 900000000) (ho : op + dpH h (ts.map (eH k)) (ts.map dp) ≤ 900000000) (hm : mo ≤ 900000000) (hmo : op ≤ mo) :
    Calls Tryz.prog 97 #[.pointer (some ⟨b, 0, none⟩), .pointer (some ⟨h.b, h.o, none⟩)] w (PrP w B b (l ++ prH h (ts.map (eH k)) (ts.map pr)) op (max mo (op + dpH h (ts.map (eH k)) (ts.map dp)))) := by
  have hO := okE_of hR
  unfold okE at hO
  have dw := dh.below (Nat.le_refl _) hb
  have c0 := dw.c0
  simp only [hk] at hO
  simp at hO
  obtain ⟨t, rfl⟩ := one_of hn (by omega)
  have e1 : prH h ([t].map (eH k)) ([t].map pr) = unB h (eH k t) (pr t) := by unfold prH; simp [hk, on1]
  have e2 : dpH h ([t].map (eH k)) ([t].map dp) = unD h (eH k t) (dp t) := by unfold dpH; simp [hk, on1]
  rw [e1] at hl ⊢
  rw [e2] at ho ⊢
  have K1 := hid (unary_of k pr dp ok ih w0 h t (by omega) (by omega) (by omega) dh dl (hr t (by simp)) (hok t (by simp)) B b l op mo w hE h0 hb hB hp hl ho hm)
  clear ih dh hn dl hr hok hR hE h0 hb hp hl ho hm dw hO e1 e2 hmo
  go_enter Tryz.func97, Tryz.ntmps97
  go_wp2_with (go_at_call 133; (refine (Hid.out K1).mono ?_; rintro e w2 ⟨rfl, hp2, hk2⟩))
  go_end0
  exact ⟨rfl, hp2, hk2⟩

set_option maxRecDepth 100000 in
set_option maxHeartbeats 1000000 in
theorem expr_9 (k : Nat) (pr : ET k → List UInt8) (dp : ET k → Nat) (ok : ET k → Prop) (ih : PrSaid k pr dp ok) (w0 : World) (h : EH) (ts : List (ET k)) (hk : h.kind = 9) (dh : EHr w0 h) (hn : h.an = ts.length) (dl : LiesAt 8 h.aa (eAt k) ts) (hr : ∀ u ∈ ts, ERd k w0 u) (hok : ∀ u ∈ ts, ok u) (hR : rightE h = true) (B b : Nat) (l : List UInt8) (op mo : Nat) (w : World) (hE : EnvT w0) (h0 : w0.heap.size ≤ B) (hb : Below w0.heap.size w0 w) (hB : B ≤ w.heap.size) (hp : Prn w B b l op mo)
    (hl : l.length + (prH h (ts.map (eH k)) (ts.map pr)).length ≤ 900000000) (ho : op + dpH h (ts.map (eH k)) (ts.map dp) ≤ 900000000) (hm : mo ≤ 900000000) (hmo : op ≤ mo) :
    Calls Tryz.prog 97 #[.pointer (some ⟨b, 0, none⟩), .pointer (some ⟨h.b, h.o, none⟩)] w (PrP w B b (l ++ prH h (ts.map (eH k)) (ts.map pr)) op (max mo (op + dpH h (ts.map (eH k)) (ts.map dp)))) := by
  have hO := okE_of hR
  unfold okE at hO
  have dw := dh.below (Nat.le_refl _) hb
  have c0 := dw.c0
  simp only [hk] at hO
  simp at hO
  obtain ⟨t, rfl⟩ := one_of hn (by omega)
  have e1 : prH h ([t].map (eH k)) ([t].map pr) = (bs h.name ++ (91 :: (pr t ++ [93]))) := by unfold prH; simp [hk, on1]
  have e2 : dpH h ([t].map (eH k)) ([t].map dp) = 1 + dp t := by unfold dpH; simp [hk, on1]
  rw [e1] at hl ⊢
  rw [e2] at ho ⊢
  simp only [List.length_append, List.length_cons, List.length_nil, bs_len] at hl
  obtain ⟨ab, aoff, eaa, hat⟩ := dl 0 t rfl
  simp only [eAt, Prod.mk.injEq] at hat
  have hanI : h.an = 1 := by omega
  have hbd : Below w.heap.size w w.drew := (Below.refl _ w).drew
  have K1 := hid ((entry_of k pr dp ok ih w0 t h.name B b l op mo w.drew (hr t (by simp)) (hok t (by simp)) hE h0 hb.drew hB hp.drew (by omega) (by omega) hm).mono (fun e w' h' => PrP.of hB hbd h'))
  rw [hat.1, hat.2] at K1
  have c4 := dw.c4
  have c6 := dw.c6
  rw [eaa, hanI] at c6
  have C4 := hid (fun (w1 : World) (h1 : Below B w w1) => (dh.below (Nat.le_refl _) (hb.trans (h1.mono h0))).c4)
  have C6 := hid (fun (w1 : World) (h1 : Below B w w1) => (dh.below (Nat.le_refl _) (hb.trans (h1.mono h0))).c6)
  rw [eaa, hanI] at C6
  clear ih dh hn dl hr hok hR hE h0 hb hp hl ho hm dw hO e1 e2 hat eaa hanI hbd hmo
  go_enter Tryz.func97, Tryz.ntmps97
  go_wp2
  go_region_held3 (fun w2 => w2.cell? ⟨h.b, h.o + 4, none⟩ = some (.string h.name) ∧ w2.cell? ⟨h.b, h.o + 6, none⟩ = some (.slice (some ⟨ab, aoff, none⟩) 1 h.ac)) (first | exact ⟨C4.out _ hk2.1, C6.out _ hk2.1⟩ | go_keep) (first | (go_at_call 139; (refine (Hid.out K1).mono ?_; rintro e w2 ⟨rfl, hp2, hk2⟩)))
  go_wp2
  go_end0
  exact ⟨rfl, hp2, hk2⟩

set_option maxRecDepth 100000 in
set_option maxHeartbeats 1000000 in
theorem expr_11 (k : Nat) (pr : ET k → List UInt8) (dp : ET k → Nat) (ok : ET k → Prop) (ih : PrSaid k pr dp ok) (w0 : World) (h : EH) (ts : List (ET k)) (hk : h.kind = 11) (dh : EHr w0 h) (hn : h.an = ts.length) (dl : LiesAt 8 h.aa (eAt k) ts) (hr : ∀ u ∈ ts, ERd k w0 u) (hok : ∀ u ∈ ts, ok u) (hR : rightE h = true) (B b : Nat) (l : List UInt8) (op mo : Nat) (w : World) (hE : EnvT w0) (h0 : w0.heap.size ≤ B) (hb : Below w0.heap.size w0 w) (hB : B ≤ w.heap.size) (hp : Prn w B b l op mo)
    (hl : l.length + (prH h (ts.map (eH k)) (ts.map pr)).length ≤ 900000000) (ho : op + dpH h (ts.map (eH k)) (ts.map dp) ≤ 900000000) (hm : mo ≤ 900000000) (hmo : op ≤ mo) :
    Calls Tryz.prog 97 #[.pointer (some ⟨b, 0, none⟩), .pointer (some ⟨h.b, h.o, none⟩)] w (PrP w B b (l ++ prH h (ts.map (eH k)) (ts.map pr)) op (max mo (op + dpH h (ts.map (eH k)) (ts.map dp)))) := by
  have hO := okE_of hR
  unfold okE at hO
  have dw := dh.below (Nat.le_refl _) hb
  have c0 := dw.c0
  simp only [hk] at hO
  simp at hO
  have e1 : prH h (ts.map (eH k)) (ts.map pr) = (bs h.name ++ (40 :: (jn (ts.map pr) ++ [41]))) := by unfold prH; simp [hk]
  have e2 : dpH h (ts.map (eH k)) (ts.map dp) = 1 + mxL (ts.map dp) := by unfold dpH; simp [hk]
  rw [e1] at hl ⊢
  rw [e2] at ho ⊢
  simp only [List.length_append, List.length_cons, List.length_nil, bs_len] at hl
  have C4 := hid (fun (w1 : World) (h1 : Below B w w1) => (dh.below (Nat.le_refl _) (hb.trans (h1.mono h0))).c4)
  have C6 := hid (fun (w1 : World) (h1 : Below B w w1) => (dh.below (Nat.le_refl _) (hb.trans (h1.mono h0))).c6)
  have K1 := hid ((call_of k pr dp ok ih w0 h.name h.aa h.an h.ac ts hn dh.ab dl hr hok B b l op mo w.drew hE h0 hb.drew hB hp.drew (by omega) (by omega) hm).mono (fun e w' h' => PrP.of hB ((Below.refl _ w).drew) h'))
  have c4 := dw.c4
  have c6 := dw.c6
  clear ih dh hn dl hr hok hR hE h0 hb hp hl ho hm dw hO e1 e2 hmo
  go_enter Tryz.func97, Tryz.ntmps97
  go_wp2
  go_region_held3 (fun w2 => w2.cell? ⟨h.b, h.o + 4, none⟩ = some (.string h.name) ∧ w2.cell? ⟨h.b, h.o + 6, none⟩ = some (.slice h.aa h.an h.ac)) (first | exact ⟨C4.out _ hk2.1, C6.out _ hk2.1⟩ | go_keep) (first | (go_at_call 140; (refine (Hid.out K1).mono ?_; rintro e w2 ⟨rfl, hp2, hk2⟩)))
  go_wp2
  go_end0
  exact ⟨rfl, hp2, hk2⟩

end Go.Proofs.YtcnohgifihbkdaaGreatDoor.Lx

namespace Go.Proofs.YtcnohgifihbkdaaGreatDoor.Lx
open Go.RowKit Go.Deep
set_option linter.unusedVariables false
set_option linter.unusedSimpArgs false

def prE : (k : Nat) → ET k → List UInt8
  | 0, _ => []
  | k + 1, t => prH t.1 (t.2.map (eH k)) (t.2.map (prE k))
def dpE : (k : Nat) → ET k → Nat
  | 0, _ => 0
  | k + 1, t => dpH t.1 (t.2.map (eH k)) (t.2.map (dpE k))
end Go.Proofs.YtcnohgifihbkdaaGreatDoor.Lx

