/- Parts that are alike but for their places and what is within them. -/
import Derived.Test.YtcnohgifihbkdaaGreatDoorJAY
import Derived.Lib.UnsafeStr
import Derived.Lib.Builder
import Derived.Lib.AppendIntMem
namespace Go.Proofs.YtcnohgifihbkdaaGreatDoor.Lx
open Go.RowKit Go.Deep
set_option linter.unusedVariables false
set_option linter.unusedSimpArgs false

def alikeS (a b : SH) : Bool := decide (a.kind = b.kind) && decide (a.name = b.name) && decide (a.label = b.label) && decide (a.var = b.var) && decide (a.an = b.an) && decide (a.bn = b.bn) && decide (a.en = b.en)
set_option maxRecDepth 100000 in
set_option maxHeartbeats 1000000 in
theorem alikeS_any (w : World) (a b : SH) (da : SHr w a) (db : SHr w b) : Calls Tryz.prog 166 #[.pointer (some ⟨a.b, a.o, none⟩), .pointer (some ⟨b.b, b.o, none⟩)] w fun e w' => e = .returned (.bool (alikeS a b)) ∧ ∃ m, w' = w.drewN m := by
  have x0 := da.c0
  have y0 := db.c0
  have x1 := da.c1
  have y1 := db.c1
  have x2 := da.c2
  have y2 := db.c2
  have x3 := da.c3
  have y3 := db.c3
  have x4 := da.c4
  have y4 := db.c4
  have x5 := da.c5
  have y5 := db.c5
  have x6 := da.c6
  have y6 := db.c6
  have z1 : (a.an : Int) ≤ 1000000 := by have := da.ab; omega
  have z2 : (b.an : Int) ≤ 1000000 := by have := db.ab; omega
  have z3 : (a.bn : Int) ≤ 1000000 := by have := da.bb; omega
  have z4 : (b.bn : Int) ≤ 1000000 := by have := db.bb; omega
  have z5 : (a.en : Int) ≤ 1000000 := by have := da.eb; omega
  have z6 : (b.en : Int) ≤ 1000000 := by have := db.eb; omega
  unfold alikeS
  clear da db
  go_enter Tryz.func166, Tryz.ntmps166
  go_wp2_with fail
  dsimp only [List.append]
  refine wp_region_quiet_lit (by kernel_rfl) (by kernel_rfl) ?_
  by_cases h0 : a.kind = b.kind
  case neg =>
    have g0 : (a.kind == b.kind) = false := by simpa using h0
    repeat (go_big_quiet_step (fail))
    refine wpQuiet_nil ?_
    intro _ hw'
    obtain ⟨nq, rfl⟩ := hw'
    go_wp2_with fail
    go_ret
    exact ⟨ret_bool (by simp_all), nq, rfl⟩
  have g0 : (a.kind == b.kind) = true := by simpa using h0
  by_cases h1 : a.name = b.name
  case neg =>
    have g1 := bneL h1
    have k1 := bne_str h1
    repeat (go_big_quiet_step (fail))
    refine wpQuiet_nil ?_
    intro _ hw'
    obtain ⟨nq, rfl⟩ := hw'
    go_wp2_with fail
    go_ret
    exact ⟨ret_bool (by simp_all), nq, rfl⟩
  have g1 := beqL h1
  by_cases h2 : a.label = b.label
  case neg =>
    have g2 := bneL h2
    have k2 := bne_str h2
    repeat (go_big_quiet_step (fail))
    refine wpQuiet_nil ?_
    intro _ hw'
    obtain ⟨nq, rfl⟩ := hw'
    go_wp2_with fail
    go_ret
    exact ⟨ret_bool (by simp_all), nq, rfl⟩
  have g2 := beqL h2
  by_cases h3 : a.var = b.var
  case neg =>
    have g3 := bneL h3
    have k3 := bne_str h3
    repeat (go_big_quiet_step (fail))
    refine wpQuiet_nil ?_
    intro _ hw'
    obtain ⟨nq, rfl⟩ := hw'
    go_wp2_with fail
    go_ret
    exact ⟨ret_bool (by simp_all), nq, rfl⟩
  have g3 := beqL h3
  by_cases h4 : a.an = b.an
  case neg =>
    have g4 : ¬ (a.an : Int) = (b.an : Int) := by omega
    have k4 : ((a.an : Int) == (b.an : Int)) = false := by simpa using g4
    have j4 : (a.an == b.an) = false := by simpa using h4
    repeat (go_big_quiet_step (fail))
    refine wpQuiet_nil ?_
    intro _ hw'
    obtain ⟨nq, rfl⟩ := hw'
    go_wp2_with fail
    go_ret
    exact ⟨ret_bool (by simp_all), nq, rfl⟩
  have g4 : (a.an : Int) = (b.an : Int) := by omega
  have k4 : ((a.an : Int) == (b.an : Int)) = true := by simpa using g4
  by_cases h5 : a.bn = b.bn
  case neg =>
    have g5 : ¬ (a.bn : Int) = (b.bn : Int) := by omega
    have k5 : ((a.bn : Int) == (b.bn : Int)) = false := by simpa using g5
    have j5 : (a.bn == b.bn) = false := by simpa using h5
    repeat (go_big_quiet_step (fail))
    refine wpQuiet_nil ?_
    intro _ hw'
    obtain ⟨nq, rfl⟩ := hw'
    go_wp2_with fail
    go_ret
    exact ⟨ret_bool (by simp_all), nq, rfl⟩
  have g5 : (a.bn : Int) = (b.bn : Int) := by omega
  have k5 : ((a.bn : Int) == (b.bn : Int)) = true := by simpa using g5
  by_cases h6 : a.en = b.en
  case neg =>
    have g6 : ¬ (a.en : Int) = (b.en : Int) := by omega
    have k6 : ((a.en : Int) == (b.en : Int)) = false := by simpa using g6
    have j6 : (a.en == b.en) = false := by simpa using h6
    repeat (go_big_quiet_step (fail))
    refine wpQuiet_nil ?_
    intro _ hw'
    obtain ⟨nq, rfl⟩ := hw'
    go_wp2_with fail
    go_ret
    exact ⟨ret_bool (by simp_all), nq, rfl⟩
  have g6 : (a.en : Int) = (b.en : Int) := by omega
  have k6 : ((a.en : Int) == (b.en : Int)) = true := by simpa using g6
  repeat (go_big_quiet_step (fail))
  refine wpQuiet_nil ?_
  intro _ hw'
  obtain ⟨nq, rfl⟩ := hw'
  go_wp2_with fail
  go_ret
  exact ⟨ret_bool (by simp_all), nq, rfl⟩
end Go.Proofs.YtcnohgifihbkdaaGreatDoor.Lx

namespace Go.Proofs.YtcnohgifihbkdaaGreatDoor.Lx
open Go.RowKit Go.Deep
set_option linter.unusedVariables false
set_option linter.unusedSimpArgs false

def SH.cs (m : SH) : Array Value := #[.int .i64 m.kind, .string m.name, .string m.label, .string m.var, .slice m.aa m.an m.ac, .slice m.ba m.bn m.bc, .slice m.ea m.en m.ec, .int .i64 m.pos]
/- What s's kind has a meaning for. -/
def meantS (h : SH) : SH := { h with name := if h.kind = 1 ∨ h.kind = 2 ∨ h.kind = 3 ∨ h.kind = 4 ∨ h.kind = 7 ∨ h.kind = 8 ∨ h.kind = 9 ∨ h.kind = 12 then h.name else emp, label := if h.kind = 6 ∨ h.kind = 7 then h.label else emp, var := if h.kind = 7 then h.var else emp, ba := if h.kind = 5 ∨ h.kind = 6 ∨ h.kind = 7 then h.ba else none, bn := if h.kind = 5 ∨ h.kind = 6 ∨ h.kind = 7 then h.bn else 0, bc := if h.kind = 5 ∨ h.kind = 6 ∨ h.kind = 7 then h.bc else 0, ea := if h.kind = 5 then h.ea else none, en := if h.kind = 5 then h.en else 0, ec := if h.kind = 5 then h.ec else 0, pos := 0 }
def okS (h : SH) : Bool :=
  if h.kind = 1 ∨ h.kind = 2 ∨ h.kind = 4 then smallB h.name && decide (h.an = 1) else
  if h.kind = 3 then smallB h.name && decide (h.an = 2) else
  if h.kind = 5 then decide (h.an = 1) else
  if h.kind = 6 then labB h.label && decide (h.an = 1) else
  if h.kind = 7 then labB h.label && smallB h.var && smallB h.name && decide (h.an = 0) else
  if h.kind = 8 ∨ h.kind = 9 then labB h.name && decide (h.an = 0) else
  if h.kind = 10 then decide (h.an ≤ 1) else
  if h.kind = 11 ∨ h.kind = 13 then decide (h.an = 1) else
  if h.kind = 12 then smallB h.name && decide (1 ≤ h.an) && decide (h.an ≤ 13) else false
def rightS (h : SH) : Bool := okS h && alikeS h (meantS h)
theorem boxS {W : World} {h m : SH} {M : Nat} (d : SHr W h) (hb : W.heap[M]? = some (.cells m.cs 48 (0, 0))) (hn : m.name = h.name ∨ m.name = emp) (hl : m.label = h.label ∨ m.label = emp) (hv : m.var = h.var ∨ m.var = emp) (ha : m.an = h.an) (h1 : m.bn = h.bn ∨ m.bn = 0) (h2 : m.en = h.en ∨ m.en = 0) : SHr W { m with b := M, o := 0 } := by
  have c := cellT hb
  have e0 : emp.size ≤ 9223372036854775807 := by decide
  refine ⟨c 0, c 1, c 2, c 3, c 4, c 5, c 6, c 7, ?_, ?_, ?_, ?_, ?_, ?_⟩
  · rcases hn with e | e
    · show m.name.size ≤ _; rw [e]; exact d.n
    · show m.name.size ≤ _; rw [e]; exact e0
  · rcases hl with e | e
    · show m.label.size ≤ _; rw [e]; exact d.l
    · show m.label.size ≤ _; rw [e]; exact e0
  · rcases hv with e | e
    · show m.var.size ≤ _; rw [e]; exact d.v
    · show m.var.size ≤ _; rw [e]; exact e0
  · show m.an ≤ _; rw [ha]; exact d.ab
  · rcases h1 with e | e
    · show m.bn ≤ _; rw [e]; exact d.bb
    · show m.bn ≤ _; rw [e]; decide
  · rcases h2 with e | e
    · show m.en ≤ _; rw [e]; exact d.eb
    · show m.en ≤ _; rw [e]; decide
end Go.Proofs.YtcnohgifihbkdaaGreatDoor.Lx

namespace Go.Proofs.YtcnohgifihbkdaaGreatDoor.Lx
open Go.RowKit Go.Deep
set_option linter.unusedVariables false
set_option linter.unusedSimpArgs false


set_option maxRecDepth 100000 in
set_option maxHeartbeats 4000000 in
theorem isRightS_13 (w : World) (h : SH) (d : SHr w h) (hm : MX w) (hk : h.kind = 13) : Calls Tryz.prog 126 #[.pointer (some ⟨h.b, h.o, none⟩)] w fun e w' => e = .returned (.bool (rightS h)) ∧ Below w.heap.size w w' := by
  have TR : Hid (∀ {Z x y : World}, Below Z.heap.size Z x → Below x.heap.size x y → Below Z.heap.size Z y) := hid (fun h1 h2 => h1.trans (h2.mono h1.size))
  have ha : (h.an : Int) ≤ 1000000 := by have := d.ab; omega
  have cell : ∀ {p : Addr} {v : Value} (o : Obj), w.cell? p = some v → (w.alloc o).cell? p = some v := fun o hc => (((Below.refl w.heap.size w).alloc (Nat.le_refl _) o).cell (World.block_lt_of_cell? w _ hc)).trans hc
  have c0 := d.c0
  have c4 := d.c4
  have C0 := fun o => cell o d.c0
  have C1 := fun o => cell o d.c1
  have C2 := fun o => cell o d.c2
  have C3 := fun o => cell o d.c3
  have C4 := fun o => cell o d.c4
  have C5 := fun o => cell o d.c5
  have C6 := fun o => cell o d.c6
  obtain ⟨W, hW⟩ : ∃ W, W = ((w.alloc (.cells #[.int .i64 13, .string ⟨#[]⟩, .string ⟨#[]⟩, .string ⟨#[]⟩, .slice h.aa h.an h.ac, .slice none 0 0, .slice none 0 0, .int .i64 0] 48)).drew : World) := ⟨_, rfl⟩
  have hb : W.heap[w.heap.size]? = some (.cells (meantS h).cs 48 (0, 0)) := by
    rw [hW]
    refine (heap_alloc_new w _).trans ?_
    simp [meantS, SH.cs, emp, hk]
  have hbw : Below w.heap.size w W := by rw [hW]; exact ((Below.refl _ w).alloc (Nat.le_refl _) _).drew
  have KA : Hid (∀ w1 : World, Below W.heap.size W w1 → Calls Tryz.prog 166 #[.pointer (some ⟨h.b, h.o, none⟩), .pointer (some ⟨w.heap.size, 0, none⟩)] w1 fun e w' => e = .returned (.bool (alikeS h (meantS h))) ∧ ∃ m, w' = w1.drewN m) := hid (fun w1 hb1 => by
    have dd := d.below (Nat.le_refl _) (hbw.trans (hb1.mono hbw.size))
    exact alikeS_any w1 h { meantS h with b := w.heap.size, o := 0 } dd (boxS dd ((hb1.block _ (Array.getElem?_eq_some_iff.1 hb).1).trans hb) (by simp [meantS, hk]) (by simp [meantS, hk]) (by simp [meantS, hk]) rfl (by simp [meantS, hk]) (by simp [meantS, hk])))
  have HW := hid hbw
  have KSn : Hid (∀ w1 : World, Below w.heap.size w w1 → Calls Tryz.prog 161 #[.string h.name] w1 fun e w' => e = .returned (.bool (smallB h.name)) ∧ Below w1.heap.size w1 w') := hid (fun w1 hb1 => isSmall_any h.name d.n w1 (hm.below hm.lt hb1))
  have KSv : Hid (∀ w1 : World, Below w.heap.size w w1 → Calls Tryz.prog 161 #[.string h.var] w1 fun e w' => e = .returned (.bool (smallB h.var)) ∧ Below w1.heap.size w1 w') := hid (fun w1 hb1 => isSmall_any h.var d.v w1 (hm.below hm.lt hb1))
  have KLn : Hid (∀ w1 : World, Below w.heap.size w w1 → Calls Tryz.prog 165 #[.string h.name] w1 fun e w' => e = .returned (.bool (labB h.name)) ∧ Below w1.heap.size w1 w') := hid (fun w1 hb1 => isLabel_any h.name d.n w1 (hm.below hm.lt hb1))
  have KLl : Hid (∀ w1 : World, Below w.heap.size w w1 → Calls Tryz.prog 165 #[.string h.label] w1 fun e w' => e = .returned (.bool (labB h.label)) ∧ Below w1.heap.size w1 w') := hid (fun w1 hb1 => isLabel_any h.label d.l w1 (hm.below hm.lt hb1))
  have CV : Hid (∀ w1 : World, Below w.heap.size w w1 → w1.cell? ⟨h.b, h.o + 3, none⟩ = some (.string h.var)) := hid (fun w1 hb1 => belowCell d.c3 (Nat.le_refl _) hb1)
  have CN : Hid (∀ w1 : World, Below w.heap.size w w1 → w1.cell? ⟨h.b, h.o + 1, none⟩ = some (.string h.name)) := hid (fun w1 hb1 => belowCell d.c1 (Nat.le_refl _) hb1)
  have HR : Hid (rightS h = (decide (h.an = 1) && alikeS h (meantS h))) := hid (by unfold rightS okS; simp [hk])
  have fin : Hid (∀ (w1 : World) (m : Nat), Below w.heap.size w w1 → Below w.heap.size w (w1.drewN m)) := hid (fun w1 m hb => bel_drewN hb m)
  generalize alikeS h (meantS h) = al at *
  generalize rightS h = res at *
  generalize smallB h.name = sn at *
  generalize smallB h.var = sv at *
  generalize labB h.name = ln at *
  generalize labB h.label = ll at *
  clear d hm hb hbw cell
  obtain ⟨b, o, kind, name, label, var, aa, an, ac, ba, bn, bc, ea, en, ec, pos⟩ := h
  simp only at c0 c4 C0 C1 C2 C3 C4 C5 C6 hW KA KSn KSv KLn KLl CV CN HR hk ha ⊢
  subst hk
  by_cases q1 : an = 1
  case pos =>
    subst q1
    go_enter Tryz.func126, Tryz.ntmps126
    go_wp2
    go_region_held3 (fun w2 => w2.cell? ⟨b, o, none⟩ = some (.int .i64 13) ∧ w2.cell? ⟨b, o + 4, none⟩ = some (.slice aa 1 ac)) (first | go_keep) (fail)
    go_wp2_with (go_at_call 166; (rw [← hW]; clear hW; refine (KA.out W (Below.refl _ _)).mono ?_; rintro e w9 ⟨rfl, m, rfl⟩; have HB9 := hid (fin.out W m HW.out)))
    go_ret
    refine ⟨?_, ?_⟩
    · rw [HR.out]; exact ret_bool (by first | (simp; done) | (simp <;> intros <;> omega))
    · first | exact HB9.out | (rw [← hW]; exact HW.out)
  case neg =>
    have q1' : ¬ (an : Int) = 1 := by omega
    go_enter Tryz.func126, Tryz.ntmps126
    go_wp2
    go_region_held3 (fun w2 => w2.cell? ⟨b, o, none⟩ = some (.int .i64 13) ∧ w2.cell? ⟨b, o + 4, none⟩ = some (.slice aa an ac)) (first | go_keep) (fail)
    go_wp2_with (go_at_call 166; (rw [← hW]; clear hW; refine (KA.out W (Below.refl _ _)).mono ?_; rintro e w9 ⟨rfl, m, rfl⟩; have HB9 := hid (fin.out W m HW.out)))
    go_ret
    refine ⟨?_, ?_⟩
    · rw [HR.out]; exact ret_bool (by first | (simp [q1]; done) | (simp <;> intros <;> omega))
    · first | exact HB9.out | (rw [← hW]; exact HW.out)
end Go.Proofs.YtcnohgifihbkdaaGreatDoor.Lx

namespace Go.Proofs.YtcnohgifihbkdaaGreatDoor.Lx
open Go.RowKit Go.Deep
set_option linter.unusedVariables false
set_option linter.unusedSimpArgs false

def alikeD (a b : DH) : Bool := decide (a.name = b.name) && decide (a.params = b.params) && decide (a.key = b.key) && decide (a.value = b.value) && decide (a.result = b.result) && decide (a.bn = b.bn)
set_option maxRecDepth 100000 in
set_option maxHeartbeats 1000000 in
theorem alikeD_any (w : World) (a b : DH) (da : DHr w a) (db : DHr w b) : Calls Tryz.prog 164 #[.pointer (some ⟨a.b, a.o, none⟩), .pointer (some ⟨b.b, b.o, none⟩)] w fun e w' => e = .returned (.bool (alikeD a b)) ∧ ∃ m, w' = w.drewN m := by
  have x0 := da.c0
  have y0 := db.c0
  have x1 := da.c1
  have y1 := db.c1
  have x2 := da.c2
  have y2 := db.c2
  have x3 := da.c3
  have y3 := db.c3
  have x4 := da.c4
  have y4 := db.c4
  have x5 := da.c5
  have y5 := db.c5
  have KR := hid (fun (n : Nat) => equalP_any (w.drewN n) a.pa a.pn a.pc a.params da.pl da.pb (da.pr.drewN n) b.pa b.pn b.pc b.params db.pl db.pb (db.pr.drewN n))
  have z1 : (a.bn : Int) ≤ 1000000 := by have := da.bb; omega
  have z2 : (b.bn : Int) ≤ 1000000 := by have := db.bb; omega
  unfold alikeD
  clear da db
  go_enter Tryz.func164, Tryz.ntmps164
  go_wp2_with fail
  dsimp only [List.append]
  refine wp_region_quiet_lit (by kernel_rfl) (by kernel_rfl) ?_
  by_cases h0 : a.name = b.name
  case neg =>
    have g0 := bneL h0
    have k0 := bne_str h0
    repeat (go_big_quiet_step (first | (go_at_call 190; exact Calls.quiet_of (KR.out _)) | (go_at_call 189; exact Calls.quiet_of (KR.out _))))
    refine wpQuiet_nil ?_
    intro _ hw'
    obtain ⟨nq, rfl⟩ := hw'
    go_wp2_with fail
    go_ret
    exact ⟨ret_bool (by simp_all), nq, rfl⟩
  have g0 := beqL h0
  by_cases h1 : a.params = b.params
  case neg =>
    simp only [decide_eq_false h1] at KR
    repeat (go_big_quiet_step (first | (go_at_call 190; exact Calls.quiet_of (KR.out _)) | (go_at_call 189; exact Calls.quiet_of (KR.out _))))
    refine wpQuiet_nil ?_
    intro _ hw'
    obtain ⟨nq, rfl⟩ := hw'
    go_wp2_with fail
    go_ret
    exact ⟨ret_bool (by simp_all), nq, rfl⟩
  simp only [decide_eq_true h1] at KR
  by_cases h2 : a.key = b.key
  case neg =>
    have g2 := bneL h2
    have k2 := bne_str h2
    repeat (go_big_quiet_step (first | (go_at_call 190; exact Calls.quiet_of (KR.out _)) | (go_at_call 189; exact Calls.quiet_of (KR.out _))))
    refine wpQuiet_nil ?_
    intro _ hw'
    obtain ⟨nq, rfl⟩ := hw'
    go_wp2_with fail
    go_ret
    exact ⟨ret_bool (by simp_all), nq, rfl⟩
  have g2 := beqL h2
  by_cases h3 : a.value = b.value
  case neg =>
    have g3 := bneL h3
    have k3 := bne_str h3
    repeat (go_big_quiet_step (first | (go_at_call 190; exact Calls.quiet_of (KR.out _)) | (go_at_call 189; exact Calls.quiet_of (KR.out _))))
    refine wpQuiet_nil ?_
    intro _ hw'
    obtain ⟨nq, rfl⟩ := hw'
    go_wp2_with fail
    go_ret
    exact ⟨ret_bool (by simp_all), nq, rfl⟩
  have g3 := beqL h3
  by_cases h4 : a.result = b.result
  case neg =>
    have g4 := bneL h4
    have k4 := bne_str h4
    repeat (go_big_quiet_step (first | (go_at_call 190; exact Calls.quiet_of (KR.out _)) | (go_at_call 189; exact Calls.quiet_of (KR.out _))))
    refine wpQuiet_nil ?_
    intro _ hw'
    obtain ⟨nq, rfl⟩ := hw'
    go_wp2_with fail
    go_ret
    exact ⟨ret_bool (by simp_all), nq, rfl⟩
  have g4 := beqL h4
  by_cases h5 : a.bn = b.bn
  case neg =>
    have g5 : ¬ (a.bn : Int) = (b.bn : Int) := by omega
    repeat (go_big_quiet_step (first | (go_at_call 190; exact Calls.quiet_of (KR.out _)) | (go_at_call 189; exact Calls.quiet_of (KR.out _))))
    refine wpQuiet_nil ?_
    intro _ hw'
    obtain ⟨nq, rfl⟩ := hw'
    go_wp2_with fail
    go_ret
    exact ⟨ret_bool (by simp_all), nq, rfl⟩
  have g5 : (a.bn : Int) = (b.bn : Int) := by omega
  repeat (go_big_quiet_step (first | (go_at_call 190; exact Calls.quiet_of (KR.out _)) | (go_at_call 189; exact Calls.quiet_of (KR.out _))))
  refine wpQuiet_nil ?_
  intro _ hw'
  obtain ⟨nq, rfl⟩ := hw'
  go_wp2_with fail
  go_ret
  exact ⟨ret_bool (by simp_all), nq, rfl⟩
end Go.Proofs.YtcnohgifihbkdaaGreatDoor.Lx

namespace Go.Proofs.YtcnohgifihbkdaaGreatDoor.Lx
open Go.RowKit Go.Deep
set_option linter.unusedVariables false
set_option linter.unusedSimpArgs false

def DH.cs (m : DH) : Array Value := #[.string m.name, .slice m.pa m.pn m.pc, .string m.key, .string m.value, .string m.result, .slice m.ba m.bn m.bc, .int .i64 m.pos]
/- What the sort has a meaning for. -/
def meantD (h : DH) : DH := { h with pa := if h.sort = wMap then none else h.pa, pn := if h.sort = wMap then 0 else h.pn, pc := if h.sort = wMap then 0 else h.pc, params := if h.sort = wMap then [] else h.params, key := if h.sort = wMap then h.key else emp, value := if h.sort = wMap then h.value else emp, result := if h.sort = wFn then h.result else emp, ba := if h.sort = wFn ∨ h.sort = wOn then h.ba else none, bn := if h.sort = wFn ∨ h.sort = wOn then h.bn else 0, bc := if h.sort = wFn ∨ h.sort = wOn then h.bc else 0, pos := 0 }
def okD (h : DH) : Bool :=
  if h.sort = wRec then greatB h.name && decide (1 ≤ h.pn) && paramsB simpB h.params else
  if h.sort = wMap then smallB h.name && keyB h.key && typB h.value else
  if h.sort = wFn then smallB h.name && paramsB typB h.params && (h.result.toList.isEmpty || typB h.result) else
  if h.sort = wOn then smallB h.name && paramsB typB h.params else false
def rightD (h : DH) : Bool := okD h && alikeD h (meantD h)
theorem ne_or : ¬ wOn = wRec := by decide
theorem ne_om : ¬ wOn = wMap := by decide
theorem ne_of : ¬ wOn = wFn := by decide
theorem boxD {W : World} {h m : DH} {M : Nat} (d : DHr W h) (hb : W.heap[M]? = some (.cells m.cs 51 (0, 0))) (hn : m.name = h.name) (hk : m.key = h.key ∨ m.key = emp) (hv : m.value = h.value ∨ m.value = emp) (hr : m.result = h.result ∨ m.result = emp) (hp : (m.pa = h.pa ∧ m.pn = h.pn ∧ m.params = h.params) ∨ (m.pn = 0 ∧ m.params = [])) (h1 : m.bn = h.bn ∨ m.bn = 0) : DHr W { m with b := M, o := 0 } := by
  have c := cellT hb
  have e0 : emp.size ≤ 9223372036854775807 := by decide
  refine ⟨c 0, c 1, c 2, c 3, c 4, c 5, c 6, ?_, ?_, ?_, ?_, ?_, ?_, ?_, ?_, ?_⟩
  · show m.name.size ≤ _; rw [hn]; exact d.n
  · rcases hk with e | e
    · show m.key.size ≤ _; rw [e]; exact d.k
    · show m.key.size ≤ _; rw [e]; exact e0
  · rcases hv with e | e
    · show m.value.size ≤ _; rw [e]; exact d.v
    · show m.value.size ≤ _; rw [e]; exact e0
  · rcases hr with e | e
    · show m.result.size ≤ _; rw [e]; exact d.r
    · show m.result.size ≤ _; rw [e]; exact e0
  · rcases hp with ⟨e1, e2, e3⟩ | ⟨e2, e3⟩
    · show m.pn = m.params.length; rw [e2, e3]; exact d.pl
    · show m.pn = m.params.length; rw [e2, e3]; rfl
  · rcases hp with ⟨e1, e2, e3⟩ | ⟨e2, e3⟩
    · show m.pn ≤ _; rw [e2]; exact d.pb
    · show m.pn ≤ _; rw [e2]; decide
  · rcases hp with ⟨e1, e2, e3⟩ | ⟨e2, e3⟩
    · show ∀ s ∈ m.params, _; rw [e3]; exact d.ps
    · show ∀ s ∈ m.params, _; rw [e3]; intro s hs; cases hs
  · rcases hp with ⟨e1, e2, e3⟩ | ⟨e2, e3⟩
    · show PLs W m.pa m.params; rw [e1, e3]; exact d.pr
    · show PLs W m.pa m.params; rw [e3]; intro j s hs; simp at hs
  · rcases h1 with e | e
    · show m.bn ≤ _; rw [e]; exact d.bb
    · show m.bn ≤ _; rw [e]; decide
theorem enters113 : ∀ args w, (callFunc 160 args).run Tryz.prog w = .ok (.enter 160 args) w := enters_of Tryz.func160 (by kernel_rfl) rfl
theorem enters116 : ∀ args w, (callFunc 163 args).run Tryz.prog w = .ok (.enter 163 args) w := enters_of Tryz.func163 (by kernel_rfl) rfl
end Go.Proofs.YtcnohgifihbkdaaGreatDoor.Lx

namespace Go.Proofs.YtcnohgifihbkdaaGreatDoor.Lx
open Go.RowKit Go.Deep
set_option linter.unusedVariables false
set_option linter.unusedSimpArgs false


set_option maxRecDepth 100000 in
set_option maxHeartbeats 4000000 in
theorem isRightD_On (w : World) (h : DH) (d : DHr w h) (hm : MX w) (hk : h.sort = wOn) : Calls Tryz.prog 125 #[.agg #[.string h.sort, .pointer (some ⟨h.b, h.o, none⟩)]] w fun e w' => e = .returned (.bool (rightD h)) ∧ Below w.heap.size w w' := by
  have TR : Hid (∀ {Z x y : World}, Below Z.heap.size Z x → Below x.heap.size x y → Below Z.heap.size Z y) := hid (fun h1 h2 => h1.trans (h2.mono h1.size))
  have hpn : (h.pn : Int) ≤ 1000000 := by have := d.pb; omega
  have cell : ∀ {p : Addr} {v : Value} (o : Obj), w.cell? p = some v → (w.alloc o).cell? p = some v := fun o hc => (((Below.refl w.heap.size w).alloc (Nat.le_refl _) o).cell (World.block_lt_of_cell? w _ hc)).trans hc
  have cell2 : ∀ {p : Addr} {v : Value} (o o' : Obj), w.cell? p = some v → ((w.alloc o).alloc o').cell? p = some v := fun o o' hc => ((((Below.refl w.heap.size w).alloc (Nat.le_refl _) o).alloc (by simp) o').cell (World.block_lt_of_cell? w _ hc)).trans hc
  have A0 := fun o => cell o d.c0
  have C0 := fun o o' => cell2 o o' d.c0
  have C1 := fun o o' => cell2 o o' d.c1
  have C2 := fun o o' => cell2 o o' d.c2
  have C3 := fun o o' => cell2 o o' d.c3
  have C4 := fun o o' => cell2 o o' d.c4
  have C5 := fun o o' => cell2 o o' d.c5
  obtain ⟨X, hX⟩ : ∃ X, X = w.alloc (.cells #[.string ⟨#[111, 110]⟩, .pointer (some ⟨h.b, h.o, none⟩)] 159) := ⟨_, rfl⟩
  obtain ⟨W, hW⟩ : ∃ W, W = (((w.alloc (.cells #[.string ⟨#[111, 110]⟩, .pointer (some ⟨h.b, h.o, none⟩)] 159)).alloc (.cells #[.string h.name, .slice h.pa h.pn h.pc, .string ⟨#[]⟩, .string ⟨#[]⟩, .string ⟨#[]⟩, .slice h.ba h.bn h.bc, .int .i64 0] 51)).drew : World) := ⟨_, rfl⟩
  have hb : W.heap[w.heap.size + 1]? = some (.cells (meantD h).cs 51 (0, 0)) := by
    rw [hW, ← hX]
    have := heap_alloc_new X (.cells #[.string h.name, .slice h.pa h.pn h.pc, .string ⟨#[]⟩, .string ⟨#[]⟩, .string ⟨#[]⟩, .slice h.ba h.bn h.bc, .int .i64 0] 51)
    rw [show X.heap.size = w.heap.size + 1 by rw [hX]; simp] at this
    refine this.trans ?_
    simp [meantD, DH.cs, emp, hk, ne_or, ne_om, ne_of]
  have hbw : Below w.heap.size w W := by rw [hW]; exact (((Below.refl _ w).alloc (Nat.le_refl _) _).alloc (by simp) _).drew
  have hbx : W.heap[w.heap.size]? = some (.cells #[.string ⟨#[111, 110]⟩, .pointer (some ⟨h.b, h.o, none⟩)] 159 (0, 0)) := by
    rw [hW]
    exact (Below.heap_alloc _ _ _ (by simp)).trans (heap_alloc_new w _)
  have KA : Hid (∀ w1 : World, Below W.heap.size W w1 → Calls Tryz.prog 164 #[.pointer (some ⟨h.b, h.o, none⟩), .pointer (some ⟨w.heap.size + 1, 0, none⟩)] w1 fun e w' => e = .returned (.bool (alikeD h (meantD h))) ∧ ∃ m, w' = w1.drewN m) := hid (fun w1 hb1 => by
    have dd := d.below (Nat.le_refl _) (hbw.trans (hb1.mono hbw.size))
    exact alikeD_any w1 h { meantD h with b := w.heap.size + 1, o := 0 } dd (boxD dd ((hb1.block _ (Array.getElem?_eq_some_iff.1 hb).1).trans hb) rfl (by simp [meantD, hk, ne_or, ne_om, ne_of]) (by simp [meantD, hk, ne_or, ne_om, ne_of]) (by simp [meantD, hk, ne_or, ne_om, ne_of]) (by simp [meantD, hk, ne_or, ne_om, ne_of]) (by simp [meantD, hk, ne_or, ne_om, ne_of])))
  have HW := hid hbw
  have K111 : Hid (∀ w1 : World, Below w.heap.size w w1 → Calls Tryz.prog 158 #[.string h.name] w1 fun e w' => e = .returned (.bool (greatB h.name)) ∧ Below w1.heap.size w1 w') := hid (fun w1 hb1 => isGreat_any h.name d.n w1 (hm.below hm.lt hb1))
  have K114 : Hid (∀ w1 : World, Below w.heap.size w w1 → Calls Tryz.prog 161 #[.string h.name] w1 fun e w' => e = .returned (.bool (smallB h.name)) ∧ Below w1.heap.size w1 w') := hid (fun w1 hb1 => isSmall_any h.name d.n w1 (hm.below hm.lt hb1))
  have K115 : Hid (∀ w1 : World, Below w.heap.size w w1 → Calls Tryz.prog 162 #[.string h.key] w1 fun e w' => e = .returned (.bool (keyB h.key)) ∧ Below w1.heap.size w1 w') := hid (fun w1 hb1 => (isKey_any h.key w1).mono (fun e w' ⟨h1, h2⟩ => ⟨h1, h2 ▸ Below.refl _ _⟩))
  have K116v : Hid (∀ w1 : World, Below w.heap.size w w1 → Calls Tryz.prog 163 #[.string h.value] w1 fun e w' => e = .returned (.bool (typB h.value)) ∧ Below w1.heap.size w1 w') := hid (fun w1 hb1 => isType_any h.value d.v w1 (hm.below hm.lt hb1))
  have K116r : Hid (∀ w1 : World, Below w.heap.size w w1 → Calls Tryz.prog 163 #[.string h.result] w1 fun e w' => e = .returned (.bool (typB h.result)) ∧ Below w1.heap.size w1 w') := hid (fun w1 hb1 => isType_any h.result d.r w1 (hm.below hm.lt hb1))
  have K112s : Hid (∀ w1 : World, Below w.heap.size w w1 → Calls Tryz.prog 159 #[.slice h.pa h.pn h.pc, .func (.func 160) #[] #[]] w1 fun e w' => e = .returned (.bool (paramsB simpB h.params)) ∧ Below w1.heap.size w1 w') := hid (fun w1 hb1 => params_any 160 simpB enters113 (fun s w _ _ => (isSimple_any s w).mono (fun e w' ⟨h1, h2⟩ => ⟨h1, h2 ▸ Below.refl _ _⟩)) w1 h.pa h.pn h.pc h.params d.pl d.pb (d.pr.below (Nat.le_refl _) hb1) d.ps (hm.below hm.lt hb1))
  have K112t : Hid (∀ w1 : World, Below w.heap.size w w1 → Calls Tryz.prog 159 #[.slice h.pa h.pn h.pc, .func (.func 163) #[] #[]] w1 fun e w' => e = .returned (.bool (paramsB typB h.params)) ∧ Below w1.heap.size w1 w') := hid (fun w1 hb1 => params_any 163 typB enters116 (fun s w hs hm => isType_any s hs w hm) w1 h.pa h.pn h.pc h.params d.pl d.pb (d.pr.below (Nat.le_refl _) hb1) d.ps (hm.below hm.lt hb1))
  have CB : Hid (∀ w1 : World, Below W.heap.size W w1 → w1.cell? ⟨w.heap.size, 1, none⟩ = some (.pointer (some ⟨h.b, h.o, none⟩)) ∧ w1.cell? ⟨h.b, h.o + 1, none⟩ = some (.slice h.pa h.pn h.pc) ∧ w1.cell? ⟨h.b, h.o + 2, none⟩ = some (.string h.key) ∧ w1.cell? ⟨h.b, h.o + 3, none⟩ = some (.string h.value) ∧ w1.cell? ⟨h.b, h.o + 4, none⟩ = some (.string h.result)) := hid (fun w1 hb1 => by
    have dd := d.below (Nat.le_refl _) (hbw.trans (hb1.mono hbw.size))
    exact ⟨cellT ((hb1.block _ (Array.getElem?_eq_some_iff.1 hbx).1).trans hbx) 1, dd.c1, dd.c2, dd.c3, dd.c4⟩)
  have HR : Hid (rightD h = ((smallB h.name && paramsB typB h.params) && alikeD h (meantD h))) := hid (by unfold rightD okD; simp [hk, ne_or, ne_om, ne_of])
  have fin : Hid (∀ (w1 : World) (m : Nat), Below w.heap.size w w1 → Below w.heap.size w (w1.drewN m)) := hid (fun w1 m hb => bel_drewN hb m)
  generalize alikeD h (meantD h) = al at *
  generalize rightD h = res at *
  generalize greatB h.name = gr at *
  generalize smallB h.name = sm at *
  generalize keyB h.key = ky at *
  generalize typB h.value = tv at *
  generalize typB h.result = tr at *
  generalize paramsB simpB h.params = ps at *
  generalize paramsB typB h.params = pt at *
  clear d hm hb hbx hbw cell cell2 hX
  obtain ⟨sort, b, o, name, pa, pn, pc, key, value, result, ba, bn, bc, pos, params⟩ := h
  simp only at A0 C0 C1 C2 C3 C4 C5 hW KA K111 K114 K115 K116v K116r K112s K112t CB HR hk hpn ⊢
  subst hk
  unfold wOn
  cases sm
  case false =>
    go_enter Tryz.func125, Tryz.ntmps125
    go_wp2
    go_region_held3 (fun w2 => w2.cell? ⟨w.heap.size, 1, none⟩ = some (.pointer (some ⟨b, o, none⟩)) ∧ w2.cell? ⟨b, o + 1, none⟩ = some (.slice pa pn pc) ∧ w2.cell? ⟨b, o + 5, none⟩ = some (.slice ba bn bc)) (first | go_keep) (fail)
    go_wp2_with (first
      | (go_at_call 159; (have hno := HB1; refine (K112t.out w1 (TR.out HW.out HB1.out)).mono ?_; rintro e w2 ⟨rfl, hb⟩; have HB2 := hid (TR.out HB1.out hb); have nn2 := CB.out w2 HB2.out; obtain ⟨n20, n21, n22, n23, n24⟩ := nn2; clear hb))
      | (go_at_call 161; (rw [← hW]; clear hW; refine (K114.out W HW.out).mono ?_; rintro e w1 ⟨rfl, hb⟩; have HB1 := hid hb; have nn1 := CB.out w1 HB1.out; obtain ⟨n10, n11, n12, n13, n14⟩ := nn1; clear hb))
      | (go_at_call 164; (refine (KA.out w2 HB2.out).mono ?_; rintro e w9 ⟨rfl, m, rfl⟩; have HB9 := hid (fin.out w2 m (TR.out HW.out HB2.out)))))
    go_ret
    refine ⟨?_, ?_⟩
    · rw [HR.out]; exact ret_bool (by first | (simp; done) | (simp <;> intros <;> omega))
    · first | exact HB9.out | exact TR.out HW.out HB2.out | exact TR.out HW.out HB1.out
  case true =>
    cases pt
    case false =>
      go_enter Tryz.func125, Tryz.ntmps125
      go_wp2
      go_region_held3 (fun w2 => w2.cell? ⟨w.heap.size, 1, none⟩ = some (.pointer (some ⟨b, o, none⟩)) ∧ w2.cell? ⟨b, o + 1, none⟩ = some (.slice pa pn pc) ∧ w2.cell? ⟨b, o + 5, none⟩ = some (.slice ba bn bc)) (first | go_keep) (fail)
      go_wp2_with (first
        | (go_at_call 159; (have hno := HB1; refine (K112t.out w1 (TR.out HW.out HB1.out)).mono ?_; rintro e w2 ⟨rfl, hb⟩; have HB2 := hid (TR.out HB1.out hb); have nn2 := CB.out w2 HB2.out; obtain ⟨n20, n21, n22, n23, n24⟩ := nn2; clear hb))
        | (go_at_call 161; (rw [← hW]; clear hW; refine (K114.out W HW.out).mono ?_; rintro e w1 ⟨rfl, hb⟩; have HB1 := hid hb; have nn1 := CB.out w1 HB1.out; obtain ⟨n10, n11, n12, n13, n14⟩ := nn1; clear hb))
        | (go_at_call 164; (refine (KA.out w2 HB2.out).mono ?_; rintro e w9 ⟨rfl, m, rfl⟩; have HB9 := hid (fin.out w2 m (TR.out HW.out HB2.out)))))
      go_ret
      refine ⟨?_, ?_⟩
      · rw [HR.out]; exact ret_bool (by first | (simp; done) | (simp <;> intros <;> omega))
      · first | exact HB9.out | exact TR.out HW.out HB2.out | exact TR.out HW.out HB1.out
    case true =>
      go_enter Tryz.func125, Tryz.ntmps125
      go_wp2
      go_region_held3 (fun w2 => w2.cell? ⟨w.heap.size, 1, none⟩ = some (.pointer (some ⟨b, o, none⟩)) ∧ w2.cell? ⟨b, o + 1, none⟩ = some (.slice pa pn pc) ∧ w2.cell? ⟨b, o + 5, none⟩ = some (.slice ba bn bc)) (first | go_keep) (fail)
      go_wp2_with (first
        | (go_at_call 159; (have hno := HB1; refine (K112t.out w1 (TR.out HW.out HB1.out)).mono ?_; rintro e w2 ⟨rfl, hb⟩; have HB2 := hid (TR.out HB1.out hb); have nn2 := CB.out w2 HB2.out; obtain ⟨n20, n21, n22, n23, n24⟩ := nn2; clear hb))
        | (go_at_call 161; (rw [← hW]; clear hW; refine (K114.out W HW.out).mono ?_; rintro e w1 ⟨rfl, hb⟩; have HB1 := hid hb; have nn1 := CB.out w1 HB1.out; obtain ⟨n10, n11, n12, n13, n14⟩ := nn1; clear hb))
        | (go_at_call 164; (refine (KA.out w2 HB2.out).mono ?_; rintro e w9 ⟨rfl, m, rfl⟩; have HB9 := hid (fin.out w2 m (TR.out HW.out HB2.out)))))
      go_ret
      refine ⟨?_, ?_⟩
      · rw [HR.out]; exact ret_bool (by first | (simp; done) | (simp <;> intros <;> omega))
      · first | exact HB9.out | exact TR.out HW.out HB2.out | exact TR.out HW.out HB1.out
end Go.Proofs.YtcnohgifihbkdaaGreatDoor.Lx

namespace Go.Proofs.YtcnohgifihbkdaaGreatDoor.Lx
open Go.RowKit Go.Deep
set_option linter.unusedVariables false
set_option linter.unusedSimpArgs false
attribute [local go_sem] as58_58 as105_58 as101_58 as67_58 as58_105 as105_105 as101_105 as67_105 as58_101 as105_101 as101_101 as67_101 as58_67 as105_67 as101_67 as67_67

def rightT (h : TH) : Bool := decide (max (max (max h.rn h.mn) h.fn) h.en ≤ 16)
theorem max2_nat (a b : Nat) (w : World) : (Builtin.max2 (.int .i64 (a : Int)) (.int .i64 (b : Int))).run Tryz.prog w = .ok (.int .i64 ((max a b : Nat) : Int)) w := by
  unfold Builtin.max2
  simp
  split <;> omega
theorem max4 (t : TypeId) (ts : Array TypeId) (a b c d : Nat) (w : World) : (Builtin.max_ ts t #[.int .i64 (a : Int), .int .i64 (b : Int), .int .i64 (c : Int), .int .i64 (d : Int)]).run Tryz.prog w = .ok (.int .i64 ((max (max (max a b) c) d : Nat) : Int)) w := by
  simp [Builtin.max_, List.foldlM, Sem.run_bind, max2_nat]
set_option maxRecDepth 100000 in
set_option maxHeartbeats 1000000 in
theorem isRightT_any (w : World) (h : TH) (d : THr w h) : Calls Tryz.prog 124 #[.pointer (some ⟨h.b, h.o, none⟩)] w fun e w' => e = .returned (.bool (rightT h)) ∧ Below w.heap.size w w' := by
  obtain ⟨b, o, ra, rn, rc, ma, mn, mc, fa, fn, fc, ea, en, ec⟩ := h
  obtain ⟨c0, c1, c2, c3, b0, b1, b2, b3⟩ := d
  simp only at c0 c1 c2 c3 b0 b1 b2 b3 ⊢
  unfold rightT
  simp only
  have z0 : (rn : Int) ≤ 1000000 := by omega
  have z1 : (mn : Int) ≤ 1000000 := by omega
  have z2 : (fn : Int) ≤ 1000000 := by omega
  have z3 : (en : Int) ≤ 1000000 := by omega
  obtain ⟨M, hM⟩ : ∃ M, M = max (max (max rn mn) fn) en := ⟨_, rfl⟩
  have K : ∀ (t : TypeId) (ts : Array TypeId) (w : World), (Builtin.max_ ts t #[.int .i64 (rn : Int), .int .i64 (mn : Int), .int .i64 (fn : Int), .int .i64 (en : Int)]).run Tryz.prog w = .ok (.int .i64 (M : Int)) w := fun t ts w => by rw [hM]; exact max4 t ts rn mn fn en w
  rw [← hM]
  clear hM b0 b1 b2 b3
  go_enter Tryz.func124, Tryz.ntmps124
  go_wp2_with fail
  go_quiet (fail)
  go_wp2_with fail
  go_ret
  exact ⟨ret_bool (by simp; omega), bel_drewN (Below.refl _ _) _⟩
def rightP : Part → Bool
  | .inl (.inl h) => rightT h
  | .inl (.inr h) => rightD h
  | .inr (.inl h) => rightS h
  | .inr (.inr h) => rightE h
end Go.Proofs.YtcnohgifihbkdaaGreatDoor.Lx

namespace Go.Proofs.YtcnohgifihbkdaaGreatDoor.Lx
open Go.RowKit Go.Deep
set_option linter.unusedVariables false
set_option linter.unusedSimpArgs false
attribute [local go_sem] Oper.semAt_some

theorem keep_cells {W W' : World} {row : Option Nat} {B b : Nat} {c : Array Value} {t : TypeId} (hs : W.heap[b]? = some (.cells c t (0, 0))) (hg : W.grownBy W' row) (hr : ∀ r, row = some r → B ≤ r ∧ ∃ o : Obj, W.heap[r]? = some o ∧ o.isCells = false) : W'.heap[b]? = some (.cells c t (0, 0)) := by
  rw [hg.block b (Array.getElem?_eq_some_iff.1 hs).1 (fun e => by
    obtain ⟨_, o, ho, hc⟩ := hr b e.symm
    rw [hs] at ho; cases ho; cases hc)]
  exact hs
theorem keepsFrom_below {B : Nat} {W W' : World} (k : Below W.heap.size W W') : KeepsFrom B W W' := ⟨k.size, fun j o _ hj _ => (k.block j (Array.getElem?_eq_some_iff.1 hj).1).trans hj⟩
theorem set_cells {W : World} {b : Nat} {v0 : Value} {t : TypeId} (h : W.heap[b]? = some (.cells #[v0] t (0, 0))) (v : Value) : (W.setCell ⟨b, 0, none⟩ v).heap[b]? = some (.cells #[v] t (0, 0)) := by
  simp [World.setCell, Array.getElem?_modify, h]
/- Between two rounds: all were right so far. -/
def MI (w : World) (ps : List Part) (pre : List (Fin ps.length)) (W : World) : Prop :=
  W.heap[w.heap.size]? = some (.cells #[.bool false] 4 (0, 0)) ∧ (∀ x ∈ pre, rightP ps[x] = true) ∧ Below w.heap.size w W ∧ w.heap.size + 2 ≤ W.heap.size
theorem MI_own (w : World) (ps : List Part) {B : Nat} (hB : w.heap.size ≤ B) : OwnFrom B (MI w ps) := fun s A A' row hs hg hr =>
  ⟨keep_cells hs.1 hg hr, hs.2.1, ownFrom_below (β := Unit) (Nat.le_refl _) hB () A A' row hs.2.2.1 hg hr, Nat.le_trans hs.2.2.2 hg.size⟩
theorem MI.below {w W W' : World} {ps : List Part} {pre : List (Fin ps.length)} (h : MI w ps pre W) (k : Below W.heap.size W W') : MI w ps pre W' := by
  have hl : ∀ {b : Nat} {o : Obj}, W.heap[b]? = some o → W'.heap[b]? = some o := fun e => (k.block _ (Array.getElem?_eq_some_iff.1 e).1).trans e
  exact ⟨hl h.1, h.2.1, h.2.2.1.trans (k.mono h.2.2.1.size), Nat.le_trans h.2.2.2 k.size⟩
theorem MI.snoc {w W : World} {ps : List Part} {pre : List (Fin ps.length)} {x : Fin ps.length} (h : MI w ps pre W) (hx : rightP ps[x] = true) : MI w ps (pre ++ [x]) W := ⟨h.1, fun y hy => by
  rcases List.mem_append.1 hy with hy | hy
  · exact h.2.1 y hy
  · simp at hy; subst hy; exact hx, h.2.2⟩
def MZ (w : World) (ps : List Part) (c : Code) (pre : List (Fin ps.length)) (W : World) : Prop :=
  c = .ret ∧ ps.all rightP = false ∧ W.heap[w.heap.size]? = some (.cells #[.bool false] 4 (0, 0)) ∧ Below w.heap.size w W
theorem MZ_own (w : World) (ps : List Part) (c : Code) {B : Nat} (hB : w.heap.size ≤ B) : OwnFrom B (MZ w ps c) := fun s A A' row hs hg hr =>
  ⟨hs.1, hs.2.1, keep_cells hs.2.2.1 hg hr, ownFrom_below (β := Unit) (Nat.le_refl _) hB () A A' row hs.2.2.2 hg hr⟩
end Go.Proofs.YtcnohgifihbkdaaGreatDoor.Lx

namespace Go.Proofs.YtcnohgifihbkdaaGreatDoor.Lx
open Go.RowKit Go.Deep
set_option linter.unusedVariables false
set_option linter.unusedSimpArgs false
attribute [local go_sem] Oper.semAt_some

def TH.cs (h : TH) : Array Value := #[.slice h.ra h.rn h.rc, .slice h.ma h.mn h.mc, .slice h.fa h.fn h.fc, .slice h.ea h.en h.ec]
/- A tree that is handed over: its rows, wherever it lies. -/
structure TVs (k : Nat) (w : World) (t : TT k) : Prop where
  rs : DLs k w wRec t.h.ra t.h.rn t.rs
  ms : DLs k w wMap t.h.ma t.h.mn t.ms
  fs : DLs k w wFn t.h.fa t.h.fn t.fs
  es : DLs k w wOn t.h.ea t.h.en t.es
  rb : t.h.rn ≤ 1000000
  mb : t.h.mn ≤ 1000000
  fb : t.h.fn ≤ 1000000
  eb : t.h.en ≤ 1000000
theorem TVs.below {k : Nat} {w w' : World} {t : TT k} {B : Nat} (d : TVs k w t) (hB : w.heap.size ≤ B) (h : Below B w w') : TVs k w' t := ⟨d.rs.below hB h, d.ms.below hB h, d.fs.below hB h, d.es.below hB h, d.rb, d.mb, d.fb, d.eb⟩
def TT.atB {k : Nat} (t : TT k) (M : Nat) : TT k := { t with h := { t.h with b := M, o := 0 } }
theorem TVs.box {k : Nat} {W : World} {t : TT k} {M : Nat} (d : TVs k W t) (hb : W.heap[M]? = some (.cells t.h.cs 25 (0, 0))) : TRds k W (t.atB M) := by
  have c := cellT hb
  exact ⟨⟨c 0, c 1, c 2, c 3, d.rb, d.mb, d.fb, d.eb⟩, d.rs, d.ms, d.fs, d.es⟩
/- The parts, whatever the tree's own place. -/
def inT {k : Nat} (t : TT k) : List Part := t.rs.flatMap ptD ++ (t.ms.flatMap ptD ++ (t.fs.flatMap ptD ++ t.es.flatMap ptD))
theorem ptT_at {k : Nat} (t : TT k) (M : Nat) : ptT (t.atB M) = .inl (.inl { t.h with b := M, o := 0 }) :: inT t := rfl
def okT {k : Nat} (t : TT k) : Bool := rightT t.h && (inT t).all rightP
theorem okT_at {k : Nat} (t : TT k) (M : Nat) : (ptT (t.atB M)).all rightP = okT t := rfl
/- How many statements and expressions. -/
end Go.Proofs.YtcnohgifihbkdaaGreatDoor.Lx

namespace Go.Proofs.YtcnohgifihbkdaaGreatDoor.Lx
open Go.RowKit Go.Deep
set_option linter.unusedVariables false
set_option linter.unusedSimpArgs false

theorem lies63 : liesAt Tryz.prog Tryz.prog.depth 88 (4 / Tryz.prog.cellsOf 88) 0 86 1 = true := by kernel_rfl
theorem info61 : (Tryz.prog.info? 86).map (fun i => i.size) = some 2 := by kernel_rfl
set_option maxRecDepth 100000 in
theorem copy_none (w : World) (b : Nat) (v o m : Value) (h : w.heap[b]? = some (.cells #[.pointer none, v, o, m] 88 (0, 0))) : Calls Tryz.prog 179 #[.pointer (some ⟨b, 0, none⟩)] w fun e w' => e = .returned (.tuple #[]) ∧ w' = w.setCell ⟨b, 0, none⟩ (.pointer (some ⟨b, 0, none⟩)) := by
  have c0 := cellT h 0
  have f0 := freeT h 0
  have hsh : w.shape? b = some (88, 4) := by simp [World.shape?, h]
  obtain ⟨j, hj, hjs⟩ := Option.map_eq_some_iff.1 info61
  simp only [List.getElem?_toArray, List.getElem?_cons_zero] at c0
  go_enter Tryz.func179, Tryz.ntmps179
  go_wp2
  rw [Lib.run_to_unsafe w ⟨b, 0, none⟩ Tryz.underlying84 Tryz.underlying207 hj (by rw [hjs]; decide) hsh (Nat.zero_lt_succ 3)]
  simp only [Result.andThen]
  rw [Oper.upon_value]
  go_wp2
  rw [run_callFunc_extern Tryz.func199 (by kernel_rfl) (by kernel_rfl) (by kernel_rfl) (e := Extern.AbiNoEscape.same) (by kernel_rfl)]
  rw [Lib.run_noEscape]
  simp only [Result.andThen]
  rw [Oper.upon_value]
  go_wp2
  rw [Lib.run_from_unsafe w ⟨b, 0, none⟩ Tryz.underlying207 Tryz.underlying84 hj hsh lies63]
  simp only [Result.andThen]
  rw [Oper.upon_value]
  go_wp2
  go_end0
  exact ⟨rfl, rfl⟩
set_option maxRecDepth 100000 in
theorem copy_self (w : World) (b : Nat) (v o m : Value) (h : w.heap[b]? = some (.cells #[.pointer (some ⟨b, 0, none⟩), v, o, m] 88 (0, 0))) : Calls Tryz.prog 179 #[.pointer (some ⟨b, 0, none⟩)] w fun e w' => e = .returned (.tuple #[]) ∧ w' = w := by
  have c0 := cellT h 0
  obtain ⟨j, hj, hjs⟩ := Option.map_eq_some_iff.1 info61
  simp only [List.getElem?_toArray, List.getElem?_cons_zero] at c0
  go_enter Tryz.func179, Tryz.ntmps179
  go_wp2
  rw [Lib.run_neq_ptr_same w _ Tryz.underlying84 hj]
  go_wp2
  go_end0
  exact ⟨rfl, rfl⟩
/- Rows of bytes. -/
def BRow (w : World) (B : Nat) (v : Value) (l : List UInt8) : Prop := w.ownsRow B 5 1 v l.length (Lib.byteCells l)
theorem BRow.nil (w : World) (B : Nat) : BRow w B (.slice none 0 0) [] := World.ownsRow_nil w B 5 1
theorem BRow.own {w : World} {B : Nat} {v : Value} {l : List UInt8} (h : BRow w B v l) : ∀ k, v.ownBlock = some k → B ≤ k ∧ k < w.heap.size := World.ownsRow.lt h
theorem BRow.same {w w' : World} {B : Nat} {v : Value} {l : List UInt8} (h : BRow w B v l) (e : ∀ g, v.ownBlock = some g → w'.heap[g]? = w.heap[g]?) : BRow w' B v l := by
  refine ⟨h.1, ?_⟩
  rcases h.2 with hn | ⟨g, cap, cur, rfl, hb, hgg, rest⟩
  · exact .inl hn
  · exact .inr ⟨g, cap, cur, rfl, hb, (e g rfl).trans hgg, rest⟩
theorem BRow.cells {w : World} {B : Nat} {v : Value} {l : List UInt8} (h : BRow w B v l) {g : Nat} (e : v.ownBlock = some g) : ∃ cur, w.heap[g]? = some (.cells cur 5 (0, 0)) := by
  rcases h.2 with ⟨rfl, _⟩ | ⟨g', cap, cur, rfl, hb, hgg, rest⟩
  · cases e
  · cases e; exact ⟨_, hgg⟩
theorem BRow.form {w : World} {B : Nat} {v : Value} {l : List UInt8} (h : BRow w B v l) : ∃ a cap, v = .slice a l.length cap := by
  rcases h.2 with ⟨rfl, hn⟩ | ⟨g, cap, cur, rfl, hb, hgg, hc, rest⟩
  · exact ⟨none, 0, by rw [hn]⟩
  · exact ⟨_, _, rfl⟩
theorem info5 : (Tryz.prog.info? 5).map (fun i => (i.zero, i.size, i.bytes)) = some (some (.int .u8 0), 1, 1) := by kernel_rfl
theorem run_appS (w : World) (ty : TypeId) (B : Nat) (v : Value) (l : List UInt8) (s : ByteArray) (h : BRow w B v l) (hB : B ≤ w.heap.size) (hl : l.length ≤ 1099511627776) (hl2 : s.size ≤ 1099511627776) :
    ∃ v' w', (Builtin.append_ #[33, 9] ty #[v, .string s]).run Tryz.prog w = .ok v' w' ∧ BRow w' B v' (l ++ s.data.toList) ∧ w.grownBy w' v.ownBlock := by
  obtain ⟨i0, hi, hz⟩ := Option.map_eq_some_iff.1 info5
  simp only [Prod.mk.injEq] at hz
  obtain ⟨hz0, hz1, hz2⟩ := hz
  obtain ⟨v', w', hrun, hown, hg, hiff⟩ := Lib.run_append_own_string (P := Tryz.prog) w B 33 9 ty 5 i0 Tryz.underlying33 Tryz.underlying9 hi hz0 hz1 hz2 v l.length (Lib.byteCells l) h s (by unfold maxLen; omega) (by omega) hB
  refine ⟨v', w', hrun, ?_, hg⟩
  unfold BRow
  have e1 : (l ++ s.data.toList).length = l.length + s.size := by rw [List.length_append, Lib.size_eq]
  have e2 : Lib.byteCells (l ++ s.data.toList) = Lib.byteCells l ++ Lib.strCells s := by rw [Lib.strCells_eq]; simp [Lib.byteCells]
  rw [e1, e2]
  exact hown
theorem wpList_appS {ops : Array Oper} {rest : List Oper} {o : Oper} {a : Act} {Q : Exit → Act → World → Prop} (w : World) (hgd : o.guard = none) (sl x : Operand)
    (ho : o.op = .call { callee := .builtin .append, args := #[sl, x], argTypes := #[33, 9] }) (v : Value) (s : ByteArray) (hs : a.eval sl = v) (hx : a.eval x = .string s)
    (B : Nat) (l : List UInt8) (h : BRow w B v l) (hB : B ≤ w.heap.size) (hl : l.length ≤ 1099511627776) (hl2 : s.size ≤ 1099511627776)
    (k : ∀ v' w', BRow w' B v' (l ++ s.data.toList) → w.grownBy w' v.ownBlock → wpList Tryz.prog ops Q rest (a.put o.dst v') w') :
    wpList Tryz.prog ops Q (o :: rest) a w := by
  refine wpList_plain hgd fun K hK => ?_
  obtain ⟨v', w', hr, h2, h3⟩ := run_appS w o.type B v l s h hB hl hl2
  unfold Oper.wp execOp
  simp only [ho, resolve, invoke, builtin, Sem.run_bind, Sem.run_pure, Result.andThen_ok, List.map_toArray, List.map_cons, List.map_nil, hs, hx, hr]
  exact hK _ _ (k v' w' h2 h3)
/- The printer at block b: what is written, what is open, the most. -/
structure Prn (w : World) (B b : Nat) (l : List UInt8) (op mo : Nat) : Prop where
  ge : B ≤ b
  ex : ∃ p v, (p = .pointer none ∨ p = .pointer (some ⟨b, 0, none⟩)) ∧ w.heap[b]? = some (.cells #[p, v, .int .i64 (op : Int), .int .i64 (mo : Int)] 88 (0, 0)) ∧ BRow w B v l
/- What a writing call leaves as it is: all that is no row of bytes, but for the printer. -/
def Kpt (B b : Nat) (w w' : World) : Prop := Below B w w' ∧ ∀ (k : Nat) (c : Array Value) (t : TypeId), k ≠ b → t ≠ 5 → w.heap[k]? = some (.cells c t (0, 0)) → w'.heap[k]? = some (.cells c t (0, 0))
theorem Kpt.refl (B b : Nat) (w : World) : Kpt B b w w := ⟨Below.refl _ _, fun _ _ _ _ _ h => h⟩
theorem Kpt.trans {B b : Nat} {x y z : World} (h : Kpt B b x y) (k : Kpt B b y z) : Kpt B b x z := ⟨h.1.trans k.1, fun n c t h1 h2 h3 => k.2 n c t h1 h2 (h.2 n c t h1 h2 h3)⟩
theorem Kpt.below {B b : Nat} {x y : World} (h : Below x.heap.size x y) (hB : B ≤ x.heap.size) : Kpt B b x y := ⟨h.mono hB, fun n c t _ _ h3 => (h.block n (Array.getElem?_eq_some_iff.1 h3).1).trans h3⟩
theorem Prn.below {w w' : World} {B b : Nat} {l : List UInt8} {op mo : Nat} (h : Prn w B b l op mo) (k : Below w.heap.size w w') : Prn w' B b l op mo := by
  obtain ⟨hge, p, v, hp, hb, hr⟩ := h
  exact ⟨hge, p, v, hp, (k.block _ (Array.getElem?_eq_some_iff.1 hb).1).trans hb, hr.same fun g e => k.block g (hr.own g e).2⟩
theorem Prn.lt {w : World} {B b : Nat} {l : List UInt8} {op mo : Nat} (h : Prn w B b l op mo) : b < w.heap.size := by
  obtain ⟨hge, p, v, hp, hb, hr⟩ := h
  exact (Array.getElem?_eq_some_iff.1 hb).1
theorem row_ne {w : World} {B b : Nat} {c : Array Value} {v : Value} {l : List UInt8} (hb : w.heap[b]? = some (.cells c 88 (0, 0))) (hr : BRow w B v l) : ∀ g, v.ownBlock = some g → g ≠ b := by
  rintro g e rfl
  obtain ⟨cur, hc⟩ := hr.cells e
  rw [hb] at hc; cases hc
theorem four_set {w : World} {b : Nat} {c : Array Value} {t : TypeId} {f : Nat × Nat} (h : w.heap[b]? = some (.cells c t f)) (i : Nat) (u : Value) : (w.setCell ⟨b, i, none⟩ u).heap[b]? = some (.cells (c.setIfInBounds i u) t f) := by
  simp [World.setCell, Array.getElem?_modify, h]
theorem Prn.kept {w : World} {B b : Nat} {p v o m : Value} {l : List UInt8} (hge : B ≤ b) (hb : w.heap[b]? = some (.cells #[p, v, o, m] 88 (0, 0))) (i : Nat) (u : Value) : Kpt B b w (w.setCell ⟨b, i, none⟩ u) :=
  ⟨(Below.refl B w).setCell (p := ⟨b, i, none⟩) hge _, fun k c t h1 _ h3 => (Below.heap_setCell _ _ _ _ h1).trans h3⟩
theorem BRow.setB {w : World} {B b : Nat} {c : Array Value} {v : Value} {l : List UInt8} (hb : w.heap[b]? = some (.cells c 88 (0, 0))) (hr : BRow w B v l) (i : Nat) (u : Value) : BRow (w.setCell ⟨b, i, none⟩ u) B v l :=
  hr.same fun g e => Below.heap_setCell _ _ _ _ (row_ne hb hr g e)
theorem copy_any (w : World) (B b : Nat) (p v o m : Value) (l : List UInt8) (hge : B ≤ b) (hp : p = .pointer none ∨ p = .pointer (some ⟨b, 0, none⟩)) (hb : w.heap[b]? = some (.cells #[p, v, o, m] 88 (0, 0))) (hr : BRow w B v l) :
    Calls Tryz.prog 179 #[.pointer (some ⟨b, 0, none⟩)] w fun e w' => e = .returned (.tuple #[]) ∧ w'.heap[b]? = some (.cells #[.pointer (some ⟨b, 0, none⟩), v, o, m] 88 (0, 0)) ∧ BRow w' B v l ∧ Kpt B b w w' ∧ w.heap.size ≤ w'.heap.size := by
  rcases hp with rfl | rfl
  · refine (copy_none w b v o m hb).mono ?_
    rintro e w' ⟨rfl, rfl⟩
    exact ⟨rfl, four_set hb 0 _, hr.setB hb 0 _, Prn.kept (l := l) hge hb 0 _, by simp [World.setCell]⟩
  · refine (copy_self w b v o m hb).mono ?_
    rintro e w' ⟨rfl, rfl⟩
    exact ⟨rfl, hb, hr, Kpt.refl _ _ _, Nat.le_refl _⟩
set_option maxRecDepth 100000 in
theorem ws_any (w : World) (B b : Nat) (l : List UInt8) (op mo : Nat) (h : Prn w B b l op mo) (s : ByteArray) (hB : B ≤ w.heap.size) (hl : l.length + s.size ≤ 1000000000) :
    Calls Tryz.prog 149 #[.pointer (some ⟨b, 0, none⟩), .string s] w fun e w' => e = .returned (.tuple #[.int .i64 s.size, .nilIface]) ∧ Prn w' B b (l ++ s.data.toList) op mo ∧ Kpt B b w w' := by
  obtain ⟨hge, p, v, hp, hb, hr⟩ := h
  have K := hid (copy_any w B b p v _ _ l hge hp hb hr)
  have hs9 : (s.size : Int) ≤ 1000000000 := by omega
  have HL := hid hl
  obtain ⟨a, cap, rfl⟩ := hr.form
  clear hr hb hp
  go_enter Tryz.func149, Tryz.ntmps149
  go_wp2_with (first
    | (go_at_call 179; (refine (Hid.out K).mono ?_; rintro e w1 ⟨rfl, hb1, hr1, hk1, hs1⟩; have c1 := cellT hb1 1; simp only [List.getElem?_toArray, List.getElem?_cons_zero, List.getElem?_cons_succ] at c1; have HR := hid hr1; have HB := hid hb1; have HK := hid hk1; have HS := hid hs1; clear hr1 hb1 hk1 hs1))
    | (at_builtin; refine wpList_appS _ rfl _ _ rfl _ _ (by rfl) (by rfl) B l HR.out (Nat.le_trans hB HS.out) (by omega) (by omega) ?_; intro v2 w2 hr2 hg2; have hb2 : w2.heap[b]? = _ := (hg2.block b (Array.getElem?_eq_some_iff.1 HB.out).1 (fun e => row_ne HB.out HR.out b e.symm rfl)).trans HB.out; have d1 := cellT hb2 1; have f1 := freeT hb2 1; simp only [List.getElem?_toArray, List.getElem?_cons_zero, List.getElem?_cons_succ] at d1; obtain ⟨a2, cap2, rfl⟩ := hr2.form; have HR2 := hid hr2; have HG2 := hid hg2; have HB2 := hid hb2; clear hr2 hg2 hb2))
  refine bodyPost_ret (v := .tuple #[.int .i64 s.size, .nilIface]) (by simp [results, Tryz.results149, go_sem]) rfl ?_
  have e1 : (l ++ s.data.toList).length = l.length + s.size := by rw [List.length_append, Lib.size_eq]
  rw [← e1]
  refine ⟨rfl, ⟨hge, _, _, .inr rfl, four_set HB2.out 1 _, HR2.out.setB HB2.out 1 _⟩, HK.out.trans (Kpt.trans (y := w2) ⟨?_, ?_⟩ (Prn.kept (l := l) hge HB2.out 1 _))⟩
  · exact (Below.refl B w1).grown HG2.out (Nat.le_trans hB HS.out) (fun k e => (HR.out.own k e).1)
  · intro k c t h1 h2 h3
    refine (HG2.out.block k (Array.getElem?_eq_some_iff.1 h3).1 (fun e => ?_)).trans h3
    obtain ⟨cur, hc⟩ := HR.out.cells e.symm
    rw [h3] at hc; cases hc; exact h2 rfl
def catL (ts : List ByteArray) : List UInt8 := ts.flatMap fun t => t.data.toList
theorem catL_take {ts : List ByteArray} {i : Nat} {t : ByteArray} (h : ts[i]? = some t) : catL (ts.take (i + 1)) = catL (ts.take i) ++ t.data.toList := by
  unfold catL
  rw [List.take_add_one, h, List.flatMap_append]; simp
theorem catL_le {ts : List ByteArray} (i : Nat) : (catL (ts.take i)).length ≤ (catL ts).length := by
  have : catL ts = catL (ts.take i) ++ catL (ts.drop i) := by unfold catL; rw [← List.flatMap_append, List.take_append_drop]
  rw [this, List.length_append]; omega
set_option maxRecDepth 100000 in
set_option maxHeartbeats 1000000 in
theorem write_any (w : World) (B b : Nat) (l : List UInt8) (op mo : Nat) (h : Prn w B b l op mo) (X n cap : Nat) (ts : List ByteArray) (hX : X ≠ b) (hx : w.heap[X]? = some (.cells (ts.map Value.string).toArray 9 (0, 0))) (hn : n = ts.length) (hn1 : n ≤ 100) (hB : B ≤ w.heap.size) (hl : l.length + (catL ts).length ≤ 1000000000) :
    Calls Tryz.prog 129 #[.pointer (some ⟨b, 0, none⟩), .slice (some ⟨X, 0, none⟩) n cap] w fun e w' => e = .returned (.tuple #[]) ∧ Prn w' B b (l ++ catL ts) op mo ∧ Kpt B b w w' := by
  have hnI : (n : Int) ≤ 100 := by omega
  have HP := hid h
  have HXb := hid hx
  have HN := hid hn
  have HL := hid hl
  clear h hx hn hl
  go_enter Tryz.func129, Tryz.ntmps129
  go_wp2
  go_loopg [8] n (fun g x wr => ∃ i : Nat, i + g = n ∧ x = .int .i64 (i : Int) ∧ Prn wr B b (l ++ catL (ts.take i)) op mo ∧ Kpt B b w wr)
  case atStart => exact ⟨0, by omega, rfl, by simpa [catL] using HP.out, Kpt.refl _ _ _⟩
  case round =>
    obtain ⟨i, hi, rfl, hp, hk⟩ := hrel
    cases gk with
    | zero =>
      have hin : i = n := by omega
      subst hin
      clear hi
      go_wp2
      go_end0
      rw [HN.out, List.take_of_length_le (Nat.le_refl _)] at hp
      exact ⟨rfl, hp, hk⟩
    | succ g =>
      have hil : (i : Int) < (n : Int) := by omega
      have hi0 : (0 : Int) ≤ (i : Int) := by omega
      obtain ⟨t, ht⟩ : ∃ t, ts[i]? = some t := ⟨ts[i]'(by rw [← HN.out]; omega), List.getElem?_eq_getElem _⟩
      have hc := cellT (hk.2 X _ 9 hX (by decide) HXb.out) i
      have hc2 : wr.cell? ⟨X, i, none⟩ = some (.string t) := by rw [hc]; simp [ht]
      have hlen : (l ++ catL (ts.take i)).length + t.size ≤ 1000000000 := by
        have h1 := catL_le (ts := ts) (i + 1)
        rw [catL_take ht, List.length_append, ← Lib.size_eq] at h1
        have := HL.out
        rw [List.length_append]; omega
      have K := hid (ws_any wr B b _ op mo hp t (Nat.le_trans hB hk.1.size) hlen)
      have HK := hid hk
      have HT := hid (catL_take ht)
      have Hi := hid hi
      clear hp hk hc ht hlen hi
      go_wp2_with (go_at_call 149; (refine (Hid.out K).mono ?_; rintro e w1 ⟨rfl, hp1, hk1⟩))
      go_roundg g
      case measure => omega
      case rel => exact ⟨i + 1, by have := Hi.out; omega, by go_num, by rw [HT.out, ← List.append_assoc]; exact hp1, HK.out.trans hk1⟩
end Go.Proofs.YtcnohgifihbkdaaGreatDoor.Lx

