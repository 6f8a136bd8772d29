/- Parts that are alike but for their places and what is within them. -/
import Derived.Test.YtdfambocenohgaaGreatDoorJAH
import Derived.Deep.CutBlock
import Derived.Deep.DeepCutAuto
import Derived.WalkMore
namespace Go.Proofs.YtdfambocenohgaaGreatDoor
open Go.RowKit Go.Deep
set_option linter.unusedVariables false
set_option linter.unusedSimpArgs false

def alikeD (a b : DH) : Bool := decide (a.name = b.name) && decide (a.params = b.params) && decide (a.key = b.key) && decide (a.value = b.value) && decide (a.result = b.result) && decide (a.bn = b.bn)
set_option maxRecDepth 100000 in
set_option maxHeartbeats 1000000 in
theorem alikeD_any (w : World) (a b : DH) (da : DHr w a) (db : DHr w b) : Calls Tryz.prog 74 #[.pointer (some ⟨a.b, a.o, none⟩), .pointer (some ⟨b.b, b.o, none⟩)] w fun e w' => e = .returned (.bool (alikeD a b)) ∧ ∃ m, w' = w.drewN m := by
  have x0 := da.c0
  have y0 := db.c0
  have x1 := da.c1
  have y1 := db.c1
  have x2 := da.c2
  have y2 := db.c2
  have x3 := da.c3
  have y3 := db.c3
  have x4 := da.c4
  have y4 := db.c4
  have x5 := da.c5
  have y5 := db.c5
  have KR := hid (fun (n : Nat) => equalP_any (w.drewN n) a.pa a.pn a.pc a.params da.pl da.pb (da.pr.drewN n) b.pa b.pn b.pc b.params db.pl db.pb (db.pr.drewN n))
  have z1 : (a.bn : Int) ≤ 1000000 := by have := da.bb; omega
  have z2 : (b.bn : Int) ≤ 1000000 := by have := db.bb; omega
  unfold alikeD
  clear da db
  go_enter Tryz.func74, Tryz.ntmps74
  go_wp2_with fail
  dsimp only [List.append]
  refine wp_region_quiet_lit (by kernel_rfl) (by kernel_rfl) ?_
  by_cases h0 : a.name = b.name
  case neg =>
    have g0 := bneL h0
    have k0 := bne_str h0
    repeat (go_big_quiet_step (first | (go_at_call 97; exact Calls.quiet_of (KR.out _)) | (go_at_call 96; exact Calls.quiet_of (KR.out _))))
    refine wpQuiet_nil ?_
    intro _ hw'
    obtain ⟨nq, rfl⟩ := hw'
    go_wp2_with fail
    go_ret
    exact ⟨ret_bool (by simp_all), nq, rfl⟩
  have g0 := beqL h0
  by_cases h1 : a.params = b.params
  case neg =>
    simp only [decide_eq_false h1] at KR
    repeat (go_big_quiet_step (first | (go_at_call 97; exact Calls.quiet_of (KR.out _)) | (go_at_call 96; exact Calls.quiet_of (KR.out _))))
    refine wpQuiet_nil ?_
    intro _ hw'
    obtain ⟨nq, rfl⟩ := hw'
    go_wp2_with fail
    go_ret
    exact ⟨ret_bool (by simp_all), nq, rfl⟩
  simp only [decide_eq_true h1] at KR
  by_cases h2 : a.key = b.key
  case neg =>
    have g2 := bneL h2
    have k2 := bne_str h2
    repeat (go_big_quiet_step (first | (go_at_call 97; exact Calls.quiet_of (KR.out _)) | (go_at_call 96; exact Calls.quiet_of (KR.out _))))
    refine wpQuiet_nil ?_
    intro _ hw'
    obtain ⟨nq, rfl⟩ := hw'
    go_wp2_with fail
    go_ret
    exact ⟨ret_bool (by simp_all), nq, rfl⟩
  have g2 := beqL h2
  by_cases h3 : a.value = b.value
  case neg =>
    have g3 := bneL h3
    have k3 := bne_str h3
    repeat (go_big_quiet_step (first | (go_at_call 97; exact Calls.quiet_of (KR.out _)) | (go_at_call 96; exact Calls.quiet_of (KR.out _))))
    refine wpQuiet_nil ?_
    intro _ hw'
    obtain ⟨nq, rfl⟩ := hw'
    go_wp2_with fail
    go_ret
    exact ⟨ret_bool (by simp_all), nq, rfl⟩
  have g3 := beqL h3
  by_cases h4 : a.result = b.result
  case neg =>
    have g4 := bneL h4
    have k4 := bne_str h4
    repeat (go_big_quiet_step (first | (go_at_call 97; exact Calls.quiet_of (KR.out _)) | (go_at_call 96; exact Calls.quiet_of (KR.out _))))
    refine wpQuiet_nil ?_
    intro _ hw'
    obtain ⟨nq, rfl⟩ := hw'
    go_wp2_with fail
    go_ret
    exact ⟨ret_bool (by simp_all), nq, rfl⟩
  have g4 := beqL h4
  by_cases h5 : a.bn = b.bn
  case neg =>
    have g5 : ¬ (a.bn : Int) = (b.bn : Int) := by omega
    repeat (go_big_quiet_step (first | (go_at_call 97; exact Calls.quiet_of (KR.out _)) | (go_at_call 96; exact Calls.quiet_of (KR.out _))))
    refine wpQuiet_nil ?_
    intro _ hw'
    obtain ⟨nq, rfl⟩ := hw'
    go_wp2_with fail
    go_ret
    exact ⟨ret_bool (by simp_all), nq, rfl⟩
  have g5 : (a.bn : Int) = (b.bn : Int) := by omega
  repeat (go_big_quiet_step (first | (go_at_call 97; exact Calls.quiet_of (KR.out _)) | (go_at_call 96; exact Calls.quiet_of (KR.out _))))
  refine wpQuiet_nil ?_
  intro _ hw'
  obtain ⟨nq, rfl⟩ := hw'
  go_wp2_with fail
  go_ret
  exact ⟨ret_bool (by simp_all), nq, rfl⟩
end Go.Proofs.YtdfambocenohgaaGreatDoor

namespace Go.Proofs.YtdfambocenohgaaGreatDoor
open Go.RowKit Go.Deep
set_option linter.unusedVariables false
set_option linter.unusedSimpArgs false

def alikeE (a b : EH) : Bool := decide (a.kind = b.kind) && decide (a.op = b.op) && decide (a.int = b.int) && decide (a.text = b.text) && decide (a.name = b.name) && decide (a.names = b.names) && decide (a.an = b.an)
set_option maxRecDepth 100000 in
set_option maxHeartbeats 1000000 in
theorem alikeE_any (w : World) (a b : EH) (da : EHr w a) (db : EHr w b) : Calls Tryz.prog 76 #[.pointer (some ⟨a.b, a.o, none⟩), .pointer (some ⟨b.b, b.o, none⟩)] w fun e w' => e = .returned (.bool (alikeE a b)) ∧ ∃ m, w' = w.drewN m := by
  have x0 := da.c0
  have y0 := db.c0
  have x1 := da.c1
  have y1 := db.c1
  have x2 := da.c2
  have y2 := db.c2
  have x3 := da.c3
  have y3 := db.c3
  have x4 := da.c4
  have y4 := db.c4
  have x5 := da.c5
  have y5 := db.c5
  have x6 := da.c6
  have y6 := db.c6
  have KR := hid (fun (n : Nat) => equalS_any (w.drewN n) a.na a.nn a.nc a.names da.nl da.nb (da.nr.drewN n) b.na b.nn b.nc b.names db.nl db.nb (db.nr.drewN n))
  have z1 : (a.an : Int) ≤ 1000000 := by have := da.ab; omega
  have z2 : (b.an : Int) ≤ 1000000 := by have := db.ab; omega
  unfold alikeE
  clear da db
  go_enter Tryz.func76, Tryz.ntmps76
  go_wp2_with fail
  dsimp only [List.append]
  refine wp_region_quiet_lit (by kernel_rfl) (by kernel_rfl) ?_
  by_cases h0 : a.kind = b.kind
  case neg =>
    have g0 : (a.kind == b.kind) = false := by simpa using h0
    repeat (go_big_quiet_step (first | (go_at_call 97; exact Calls.quiet_of (KR.out _)) | (go_at_call 96; exact Calls.quiet_of (KR.out _))))
    refine wpQuiet_nil ?_
    intro _ hw'
    obtain ⟨nq, rfl⟩ := hw'
    go_wp2_with fail
    go_ret
    exact ⟨ret_bool (by simp_all), nq, rfl⟩
  have g0 : (a.kind == b.kind) = true := by simpa using h0
  by_cases h1 : a.op = b.op
  case neg =>
    have g1 : (a.op == b.op) = false := by simpa using h1
    repeat (go_big_quiet_step (first | (go_at_call 97; exact Calls.quiet_of (KR.out _)) | (go_at_call 96; exact Calls.quiet_of (KR.out _))))
    refine wpQuiet_nil ?_
    intro _ hw'
    obtain ⟨nq, rfl⟩ := hw'
    go_wp2_with fail
    go_ret
    exact ⟨ret_bool (by simp_all), nq, rfl⟩
  have g1 : (a.op == b.op) = true := by simpa using h1
  by_cases h2 : a.int = b.int
  case neg =>
    have g2 : (a.int == b.int) = false := by simpa using h2
    repeat (go_big_quiet_step (first | (go_at_call 97; exact Calls.quiet_of (KR.out _)) | (go_at_call 96; exact Calls.quiet_of (KR.out _))))
    refine wpQuiet_nil ?_
    intro _ hw'
    obtain ⟨nq, rfl⟩ := hw'
    go_wp2_with fail
    go_ret
    exact ⟨ret_bool (by simp_all), nq, rfl⟩
  have g2 : (a.int == b.int) = true := by simpa using h2
  by_cases h3 : a.text = b.text
  case neg =>
    have g3 := bneL h3
    have k3 := bne_str h3
    repeat (go_big_quiet_step (first | (go_at_call 97; exact Calls.quiet_of (KR.out _)) | (go_at_call 96; exact Calls.quiet_of (KR.out _))))
    refine wpQuiet_nil ?_
    intro _ hw'
    obtain ⟨nq, rfl⟩ := hw'
    go_wp2_with fail
    go_ret
    exact ⟨ret_bool (by simp_all), nq, rfl⟩
  have g3 := beqL h3
  by_cases h4 : a.name = b.name
  case neg =>
    have g4 := bneL h4
    have k4 := bne_str h4
    repeat (go_big_quiet_step (first | (go_at_call 97; exact Calls.quiet_of (KR.out _)) | (go_at_call 96; exact Calls.quiet_of (KR.out _))))
    refine wpQuiet_nil ?_
    intro _ hw'
    obtain ⟨nq, rfl⟩ := hw'
    go_wp2_with fail
    go_ret
    exact ⟨ret_bool (by simp_all), nq, rfl⟩
  have g4 := beqL h4
  by_cases h5 : a.names = b.names
  case neg =>
    simp only [decide_eq_false h5] at KR
    repeat (go_big_quiet_step (first | (go_at_call 97; exact Calls.quiet_of (KR.out _)) | (go_at_call 96; exact Calls.quiet_of (KR.out _))))
    refine wpQuiet_nil ?_
    intro _ hw'
    obtain ⟨nq, rfl⟩ := hw'
    go_wp2_with fail
    go_ret
    exact ⟨ret_bool (by simp_all), nq, rfl⟩
  simp only [decide_eq_true h5] at KR
  by_cases h6 : a.an = b.an
  case neg =>
    have g6 : ¬ (a.an : Int) = (b.an : Int) := by omega
    repeat (go_big_quiet_step (first | (go_at_call 97; exact Calls.quiet_of (KR.out _)) | (go_at_call 96; exact Calls.quiet_of (KR.out _))))
    refine wpQuiet_nil ?_
    intro _ hw'
    obtain ⟨nq, rfl⟩ := hw'
    go_wp2_with fail
    go_ret
    exact ⟨ret_bool (by simp_all), nq, rfl⟩
  have g6 : (a.an : Int) = (b.an : Int) := by omega
  repeat (go_big_quiet_step (first | (go_at_call 97; exact Calls.quiet_of (KR.out _)) | (go_at_call 96; exact Calls.quiet_of (KR.out _))))
  refine wpQuiet_nil ?_
  intro _ hw'
  obtain ⟨nq, rfl⟩ := hw'
  go_wp2_with fail
  go_ret
  exact ⟨ret_bool (by simp_all), nq, rfl⟩
end Go.Proofs.YtdfambocenohgaaGreatDoor

namespace Go.Proofs.YtdfambocenohgaaGreatDoor
open Go.RowKit Go.Deep
set_option linter.unusedVariables false
set_option linter.unusedSimpArgs false

def alikeS (a b : SH) : Bool := decide (a.kind = b.kind) && decide (a.name = b.name) && decide (a.label = b.label) && decide (a.var = b.var) && decide (a.an = b.an) && decide (a.bn = b.bn) && decide (a.en = b.en)
set_option maxRecDepth 100000 in
set_option maxHeartbeats 1000000 in
theorem alikeS_any (w : World) (a b : SH) (da : SHr w a) (db : SHr w b) : Calls Tryz.prog 75 #[.pointer (some ⟨a.b, a.o, none⟩), .pointer (some ⟨b.b, b.o, none⟩)] w fun e w' => e = .returned (.bool (alikeS a b)) ∧ ∃ m, w' = w.drewN m := by
  have x0 := da.c0
  have y0 := db.c0
  have x1 := da.c1
  have y1 := db.c1
  have x2 := da.c2
  have y2 := db.c2
  have x3 := da.c3
  have y3 := db.c3
  have x4 := da.c4
  have y4 := db.c4
  have x5 := da.c5
  have y5 := db.c5
  have x6 := da.c6
  have y6 := db.c6
  have z1 : (a.an : Int) ≤ 1000000 := by have := da.ab; omega
  have z2 : (b.an : Int) ≤ 1000000 := by have := db.ab; omega
  have z3 : (a.bn : Int) ≤ 1000000 := by have := da.bb; omega
  have z4 : (b.bn : Int) ≤ 1000000 := by have := db.bb; omega
  have z5 : (a.en : Int) ≤ 1000000 := by have := da.eb; omega
  have z6 : (b.en : Int) ≤ 1000000 := by have := db.eb; omega
  unfold alikeS
  clear da db
  go_enter Tryz.func75, Tryz.ntmps75
  go_wp2_with fail
  dsimp only [List.append]
  refine wp_region_quiet_lit (by kernel_rfl) (by kernel_rfl) ?_
  by_cases h0 : a.kind = b.kind
  case neg =>
    have g0 : (a.kind == b.kind) = false := by simpa using h0
    repeat (go_big_quiet_step (fail))
    refine wpQuiet_nil ?_
    intro _ hw'
    obtain ⟨nq, rfl⟩ := hw'
    go_wp2_with fail
    go_ret
    exact ⟨ret_bool (by simp_all), nq, rfl⟩
  have g0 : (a.kind == b.kind) = true := by simpa using h0
  by_cases h1 : a.name = b.name
  case neg =>
    have g1 := bneL h1
    have k1 := bne_str h1
    repeat (go_big_quiet_step (fail))
    refine wpQuiet_nil ?_
    intro _ hw'
    obtain ⟨nq, rfl⟩ := hw'
    go_wp2_with fail
    go_ret
    exact ⟨ret_bool (by simp_all), nq, rfl⟩
  have g1 := beqL h1
  by_cases h2 : a.label = b.label
  case neg =>
    have g2 := bneL h2
    have k2 := bne_str h2
    repeat (go_big_quiet_step (fail))
    refine wpQuiet_nil ?_
    intro _ hw'
    obtain ⟨nq, rfl⟩ := hw'
    go_wp2_with fail
    go_ret
    exact ⟨ret_bool (by simp_all), nq, rfl⟩
  have g2 := beqL h2
  by_cases h3 : a.var = b.var
  case neg =>
    have g3 := bneL h3
    have k3 := bne_str h3
    repeat (go_big_quiet_step (fail))
    refine wpQuiet_nil ?_
    intro _ hw'
    obtain ⟨nq, rfl⟩ := hw'
    go_wp2_with fail
    go_ret
    exact ⟨ret_bool (by simp_all), nq, rfl⟩
  have g3 := beqL h3
  by_cases h4 : a.an = b.an
  case neg =>
    have g4 : ¬ (a.an : Int) = (b.an : Int) := by omega
    have k4 : ((a.an : Int) == (b.an : Int)) = false := by simpa using g4
    have j4 : (a.an == b.an) = false := by simpa using h4
    repeat (go_big_quiet_step (fail))
    refine wpQuiet_nil ?_
    intro _ hw'
    obtain ⟨nq, rfl⟩ := hw'
    go_wp2_with fail
    go_ret
    exact ⟨ret_bool (by simp_all), nq, rfl⟩
  have g4 : (a.an : Int) = (b.an : Int) := by omega
  have k4 : ((a.an : Int) == (b.an : Int)) = true := by simpa using g4
  by_cases h5 : a.bn = b.bn
  case neg =>
    have g5 : ¬ (a.bn : Int) = (b.bn : Int) := by omega
    have k5 : ((a.bn : Int) == (b.bn : Int)) = false := by simpa using g5
    have j5 : (a.bn == b.bn) = false := by simpa using h5
    repeat (go_big_quiet_step (fail))
    refine wpQuiet_nil ?_
    intro _ hw'
    obtain ⟨nq, rfl⟩ := hw'
    go_wp2_with fail
    go_ret
    exact ⟨ret_bool (by simp_all), nq, rfl⟩
  have g5 : (a.bn : Int) = (b.bn : Int) := by omega
  have k5 : ((a.bn : Int) == (b.bn : Int)) = true := by simpa using g5
  by_cases h6 : a.en = b.en
  case neg =>
    have g6 : ¬ (a.en : Int) = (b.en : Int) := by omega
    have k6 : ((a.en : Int) == (b.en : Int)) = false := by simpa using g6
    have j6 : (a.en == b.en) = false := by simpa using h6
    repeat (go_big_quiet_step (fail))
    refine wpQuiet_nil ?_
    intro _ hw'
    obtain ⟨nq, rfl⟩ := hw'
    go_wp2_with fail
    go_ret
    exact ⟨ret_bool (by simp_all), nq, rfl⟩
  have g6 : (a.en : Int) = (b.en : Int) := by omega
  have k6 : ((a.en : Int) == (b.en : Int)) = true := by simpa using g6
  repeat (go_big_quiet_step (fail))
  refine wpQuiet_nil ?_
  intro _ hw'
  obtain ⟨nq, rfl⟩ := hw'
  go_wp2_with fail
  go_ret
  exact ⟨ret_bool (by simp_all), nq, rfl⟩
end Go.Proofs.YtdfambocenohgaaGreatDoor

namespace Go.Proofs.YtdfambocenohgaaGreatDoor
open Go.RowKit Go.Deep Go.Shelf
set_option linter.unusedVariables false
set_option linter.unusedSimpArgs false
def AllP {α β : Type} (R : α → β → Prop) (l : List α) (m : List β) : Prop := l.length = m.length ∧ ∀ (j : Nat) (x : α) (y : β), l[j]? = some x → m[j]? = some y → R x y
def BarE : (k : Nat) → ET k → ET k → Prop
  | 0, _, _ => False
  | k + 1, t, u => alikeE t.1 u.1 = true ∧ u.1.pos = 0 ∧ AllP (BarE k) t.2 u.2
def LoE : (k : Nat) → Nat → ET k → Prop
  | 0, _, _ => False
  | k + 1, lo, t => (∀ x, t.1.na = some x → lo ≤ x.block) ∧ (∀ x, t.1.aa = some x → lo ≤ x.block) ∧ ∀ u ∈ t.2, LoE k lo u
def SmE : (k : Nat) → ET k → Prop
  | 0, _ => False
  | k + 1, t => t.1.Sm ∧ ∀ u ∈ t.2, SmE k u
theorem SmE.h : ∀ {k : Nat} {t : ET k}, SmE k t → (eH k t).Sm
  | 0, _, d => d.elim
  | _ + 1, _, d => d.1
def BarS : (k : Nat) → ST k → ST k → Prop
  | 0, _, _ => False
  | k + 1, t, u => alikeS t.1 u.1 = true ∧ u.1.pos = 0 ∧ AllP (BarE k) t.2.1 u.2.1 ∧ AllP (BarS k) t.2.2.1 u.2.2.1 ∧ AllP (BarS k) t.2.2.2 u.2.2.2
def LoS : (k : Nat) → Nat → ST k → Prop
  | 0, _, _ => False
  | k + 1, lo, t => ((∀ x, t.1.aa = some x → lo ≤ x.block) ∧ (∀ x, t.1.ba = some x → lo ≤ x.block) ∧ ∀ x, t.1.ea = some x → lo ≤ x.block) ∧ (∀ u ∈ t.2.1, LoE k lo u) ∧ (∀ u ∈ t.2.2.1, LoS k lo u) ∧ ∀ u ∈ t.2.2.2, LoS k lo u
def SmS : (k : Nat) → ST k → Prop
  | 0, _ => False
  | k + 1, t => t.1.Sm ∧ (∀ u ∈ t.2.1, SmE k u) ∧ (∀ u ∈ t.2.2.1, SmS k u) ∧ ∀ u ∈ t.2.2.2, SmS k u
theorem SmS.h : ∀ {k : Nat} {t : ST k}, SmS k t → (sH k t).Sm
  | 0, _, d => d.elim
  | _ + 1, _, d => d.1
def BarD {k : Nat} (t u : DT k) : Prop := alikeD t.1 u.1 = true ∧ u.1.pos = 0 ∧ AllP (BarS k) t.2 u.2
def LoD {k : Nat} (lo : Nat) (t : DT k) : Prop := (∀ x, t.1.pa = some x → lo ≤ x.block) ∧ (∀ x, t.1.ba = some x → lo ≤ x.block) ∧ ∀ u ∈ t.2, LoS k lo u
def SmD {k : Nat} (t : DT k) : Prop := t.1.Sm ∧ ∀ u ∈ t.2, SmS k u
theorem LoE.mono : ∀ {k : Nat} {t : ET k} {lo lo' : Nat}, LoE k lo t → lo' ≤ lo → LoE k lo' t
  | 0, _, _, _, d, _ => d.elim
  | k + 1, _, _, _, d, h => ⟨fun x e => Nat.le_trans h (d.1 x e), fun x e => Nat.le_trans h (d.2.1 x e), fun u hu => LoE.mono (d.2.2 u hu) h⟩
theorem LoS.mono : ∀ {k : Nat} {t : ST k} {lo lo' : Nat}, LoS k lo t → lo' ≤ lo → LoS k lo' t
  | 0, _, _, _, d, _ => d.elim
  | k + 1, _, _, _, d, h => ⟨⟨fun x e => Nat.le_trans h (d.1.1 x e), fun x e => Nat.le_trans h (d.1.2.1 x e), fun x e => Nat.le_trans h (d.1.2.2 x e)⟩, fun u hu => LoE.mono (d.2.1 u hu) h, fun u hu => LoS.mono (d.2.2.1 u hu) h, fun u hu => LoS.mono (d.2.2.2 u hu) h⟩
theorem LoD.mono {k : Nat} {t : DT k} {lo lo' : Nat} (d : LoD lo t) (h : lo' ≤ lo) : LoD lo' t := ⟨fun x e => Nat.le_trans h (d.1 x e), fun x e => Nat.le_trans h (d.2.1 x e), fun u hu => (d.2.2 u hu).mono h⟩
/- What lies in blocks that are as they were is as it was. -/
def Kp (lo : Nat) (W W' : World) : Prop := ∀ j, lo ≤ j → j < W.heap.size → W'.heap[j]? = W.heap[j]?
theorem kp_cell {lo : Nat} {W W' : World} (h : Kp lo W W') {b o : Nat} {v : Value} (hb : lo ≤ b) (hc : W.cell? ⟨b, o, none⟩ = some v) : W'.cell? ⟨b, o, none⟩ = some v := by
  have h1 := World.block_lt_of_cell? W _ hc
  rw [World.cell?_of_block (w := W) (w' := W') (a := ⟨b, o, none⟩) (h b hb h1)]; exact hc
theorem kp_sls {lo : Nat} {W W' : World} (h : Kp lo W W') {a : Option Addr} {l : List ByteArray} (hl : ∀ x, a = some x → lo ≤ x.block) (r : SLs W a l) : SLs W' a l := fun j s e => by
  obtain ⟨b, off, ea, hc⟩ := r j s e
  exact ⟨b, off, ea, kp_cell h (hl _ ea) hc⟩
theorem kp_pls {lo : Nat} {W W' : World} (h : Kp lo W W') {a : Option Addr} {l : List (ByteArray × ByteArray)} (hl : ∀ x, a = some x → lo ≤ x.block) (r : PLs W a l) : PLs W' a l := fun j s e => by
  obtain ⟨b, off, ea, hc, hd⟩ := r j s e
  exact ⟨b, off, ea, kp_cell h (hl _ ea) hc, kp_cell h (hl _ ea) hd⟩
def Hs (n : Nat) (W W' : World) (p : Nat × Nat) : Prop := ∀ i, i < n → W'.cell? ⟨p.1, p.2 + i, none⟩ = W.cell? ⟨p.1, p.2 + i, none⟩
theorem kp_hs {n lo : Nat} {W W' : World} (h : Kp lo W W') {p : Nat × Nat} (hp : lo ≤ p.1) (hW : p.1 < W.heap.size) : Hs n W W' p := fun i _ => World.cell?_of_block (w := W) (w' := W') (a := ⟨p.1, p.2 + i, none⟩) (h p.1 hp hW)
theorem EHr.keep {W W' : World} {h : EH} (d : EHr W h) {lo : Nat} (hk : Kp lo W W') (hl : ∀ x, h.na = some x → lo ≤ x.block) (hs : Hs 8 W W' (h.b, h.o)) : EHr W' h :=
  ⟨(hs 0 (by omega)).trans d.c0, (hs 1 (by omega)).trans d.c1, (hs 2 (by omega)).trans d.c2, (hs 3 (by omega)).trans d.c3, (hs 4 (by omega)).trans d.c4, (hs 5 (by omega)).trans d.c5, (hs 6 (by omega)).trans d.c6, (hs 7 (by omega)).trans d.c7, d.i0, d.i1, d.t, d.n, d.nl, d.nb, d.ns, kp_sls hk hl d.nr, d.ab⟩
theorem SHr.keep {W W' : World} {h : SH} (d : SHr W h) (hs : Hs 8 W W' (h.b, h.o)) : SHr W' h :=
  ⟨(hs 0 (by omega)).trans d.c0, (hs 1 (by omega)).trans d.c1, (hs 2 (by omega)).trans d.c2, (hs 3 (by omega)).trans d.c3, (hs 4 (by omega)).trans d.c4, (hs 5 (by omega)).trans d.c5, (hs 6 (by omega)).trans d.c6, (hs 7 (by omega)).trans d.c7, d.n, d.l, d.v, d.ab, d.bb, d.eb⟩
theorem DHr.keep {W W' : World} {h : DH} (d : DHr W h) {lo : Nat} (hk : Kp lo W W') (hl : ∀ x, h.pa = some x → lo ≤ x.block) (hs : Hs 7 W W' (h.b, h.o)) : DHr W' h :=
  ⟨(hs 0 (by omega)).trans d.c0, (hs 1 (by omega)).trans d.c1, (hs 2 (by omega)).trans d.c2, (hs 3 (by omega)).trans d.c3, (hs 4 (by omega)).trans d.c4, (hs 5 (by omega)).trans d.c5, (hs 6 (by omega)).trans d.c6, d.n, d.k, d.v, d.r, d.pl, d.pb, d.ps, kp_pls hk hl d.pr, d.bb⟩
theorem lies_blk {α : Type} {z : Nat} {a : Option Addr} {at' : α → Nat × Nat} {ts : List α} (h : LiesAt z a at' ts) {u : α} (hu : u ∈ ts) : ∃ x, a = some x ∧ (at' u).1 = x.block := by
  obtain ⟨j, hj⟩ := List.getElem?_of_mem hu
  obtain ⟨b, off, ea, e⟩ := h j u hj
  exact ⟨_, ea, by rw [e]⟩
theorem lt_of_ERd : ∀ {k : Nat} {W : World} {t : ET k}, ERd k W t → (eAt k t).1 < W.heap.size
  | 0, _, _, d => d.elim
  | _ + 1, _, _, d => World.block_lt_of_cell? _ _ d.1.c0
theorem lt_of_SRd : ∀ {k : Nat} {W : World} {t : ST k}, SRds k W t → (sAt k t).1 < W.heap.size
  | 0, _, _, d => d.elim
  | _ + 1, _, _, d => World.block_lt_of_cell? _ _ d.1.c0
theorem keepE : ∀ (k : Nat) {W W' : World} {t : ET k} {lo : Nat}, ERd k W t → LoE k lo t → Kp lo W W' → Hs 8 W W' (eAt k t) → ERd k W' t
  | 0, _, _, _, _, d, _, _, _ => d.elim
  | k + 1, W, W', t, lo, d, h, hk, hs => ⟨d.1.keep hk h.1 hs, d.2.1, d.2.2.1, fun u hu => keepE k (d.2.2.2 u hu) (h.2.2 u hu) hk (by
      obtain ⟨x, e1, e2⟩ := lies_blk d.2.2.1 hu
      exact kp_hs hk (by rw [e2]; exact h.2.1 x e1) (lt_of_ERd (d.2.2.2 u hu)))⟩
theorem keepS : ∀ (k : Nat) {W W' : World} {t : ST k} {lo : Nat}, SRds k W t → LoS k lo t → Kp lo W W' → Hs 8 W W' (sAt k t) → SRds k W' t
  | 0, _, _, _, _, d, _, _, _ => d.elim
  | k + 1, W, W', t, lo, d, h, hk, hs => ⟨d.1.keep hs, d.2.1, d.2.2.1, fun u hu => keepE k (d.2.2.2.1 u hu) (h.2.1 u hu) hk (by
      obtain ⟨x, e1, e2⟩ := lies_blk d.2.2.1.1 hu
      exact kp_hs hk (by rw [e2]; exact h.1.1 x e1) (lt_of_ERd (d.2.2.2.1 u hu))), fun u hu => keepS k (d.2.2.2.2.1 u hu) (h.2.2.1 u hu) hk (by
      obtain ⟨x, e1, e2⟩ := lies_blk d.2.2.1.2.1 hu
      exact kp_hs hk (by rw [e2]; exact h.1.2.1 x e1) (lt_of_SRd (d.2.2.2.2.1 u hu))), fun u hu => keepS k (d.2.2.2.2.2 u hu) (h.2.2.2 u hu) hk (by
      obtain ⟨x, e1, e2⟩ := lies_blk d.2.2.1.2.2 hu
      exact kp_hs hk (by rw [e2]; exact h.1.2.2 x e1) (lt_of_SRd (d.2.2.2.2.2 u hu)))⟩
theorem keepD {k : Nat} {W W' : World} {t : DT k} {lo : Nat} (d : DRds k W t) (h : LoD lo t) (hk : Kp lo W W') (hs : Hs 7 W W' (dAt t)) : DRds k W' t :=
  ⟨d.h.keep hk h.1 hs, d.n, d.l, fun u hu => keepS k (d.e u hu) (h.2.2 u hu) hk (by
      obtain ⟨x, e1, e2⟩ := lies_blk d.l hu
      exact kp_hs hk (by rw [e2]; exact h.2.1 x e1) (lt_of_SRd (d.e u hu)))⟩
/- The loop's own blocks, and how it takes a part: by makeBare. -/
structure Gl (l D : Nat) (rdy : Obj) (W : World) : Prop where
  d : W.heap[D]? = some (.deferred (some []))
  l : W.heap[l]? = some rdy
theorem Gl.below {l D : Nat} {rdy : Obj} {W W' : World} (h : Gl l D rdy W) (k : Below W.heap.size W W') : Gl l D rdy W' := ⟨(k.block D (heap_lt h.d)).trans h.d, (k.block l (heap_lt h.l)).trans h.l⟩
structure YB (l D : Nat) (rdy : Obj) : Prop where
  y : ∀ (X : World) (v : Value) (P : World → Prop), Gl l D rdy X → (∀ o : Obj, Calls Tryz.prog 42 #[v] (X.putObj l o) fun e Z => (∃ u, e = .returned u) ∧ Z.heap[l]? = (X.putObj l o).heap[l]? ∧ Z.heap[D]? = (X.putObj l o).heap[D]? ∧ P (Z.putObj l rdy)) →
    YieldAt Fence.wide 0 Tryz.prog l #[v] X fun e W' => e = .returned (.bool true) ∧ Gl l D rdy W' ∧ P W'
theorem put_size (W : World) (l : Nat) (o : Obj) : (W.putObj l o).heap.size = W.heap.size := by simp [World.putObj]
theorem below_put {n l : Nat} {W0 W : World} (h : Below n W0 W) (hl : n ≤ l) (o : Obj) : Below n W0 (W.putObj l o) :=
  h.trans ⟨rfl, rfl, rfl, by rw [put_size]; exact Nat.le_refl _, fun k hk => World.putObj_heap_other (by omega)⟩
theorem Fr.wrap {n b o k l : Nat} {X Z : World} {o' rdy : Obj} (h : Fr n b o k (X.putObj l o') Z) (hb : b ≠ l) (hx : X.heap[l]? = some rdy) : Fr n b o k X (Z.putObj l rdy) := by
  have hl := heap_lt hx
  have hz : l < Z.heap.size := Nat.lt_of_lt_of_le (by rw [put_size]; exact hl) h.size
  have key : ∀ j, (j ≠ l → Z.heap[j]? = (X.putObj l o').heap[j]?) → (Z.putObj l rdy).heap[j]? = X.heap[j]? := fun j hj => by
    by_cases hjl : j = l
    · subst hjl; rw [World.putObj_heap_same hz, hx]
    · rw [World.putObj_heap_other hjl, hj hjl, World.putObj_heap_other hjl]
  refine ⟨⟨h.bel.os, h.bel.tape, h.bel.output, ?_, fun j hj => key j (fun _ => h.bel.block j hj)⟩, fun j h1 h2 => key j (fun _ => h.up j h1 h2), fun c T hc => ?_⟩
  · have := h.size; rw [put_size] at this ⊢; exact this
  · obtain ⟨c', h1, h2⟩ := h.at' c T ((World.putObj_heap_other hb).trans hc)
    exact ⟨c', (World.putObj_heap_other hb).trans h1, h2⟩
theorem RowN.wrap {X Z : World} {n l : Nat} {o' rdy : Obj} {E : TypeId} {news : List Value} {a : Option Addr} (h : RowN (X.putObj l o') Z n E news a) (hl : l < X.heap.size) : RowN X (Z.putObj l rdy) n E news a := by
  refine ⟨fun x e => ?_, fun h0 => ?_⟩
  · have := h.1 x e; rw [put_size] at this ⊢; exact this
  · obtain ⟨A, cs, h1, h2, h3, h4⟩ := h.2 h0
    rw [put_size] at h2
    exact ⟨A, cs, h1, h2, (World.putObj_heap_other (by omega)).trans h3, h4⟩
theorem yE {l D : Nat} {rdy : Obj} (hy : YB l D rdy) (w0 W : World) (h : EH) (b o : Nat) (c : Array Value) (T : TypeId) (hg : Gl l D rdy W) (hD : w0.heap.size ≤ l) (b1 : b ≠ l) (b2 : b ≠ D) (hDl : D ≠ l) (hw : Below w0.heap.size w0 W) (hbn : w0.heap.size ≤ b) (hb : W.heap[b]? = some (.cells c T (0, 0))) (hc : Cl c o h.cl) (sm : h.Sm) (nl : h.nn = h.names.length) (nb : h.nn ≤ 1000000) (nr : SLs w0 h.na h.names) (ab : h.an ≤ 1000000) (acs : List Value) (al : acs.length = h.an * 8) (ar : NRd w0 h.aa acs) :
    YieldAt Fence.wide 0 Tryz.prog l #[.iface 67 (.pointer (some ⟨b, o, none⟩))] W fun e W' => e = .returned (.bool true) ∧ Gl l D rdy W' ∧ BE W b o h acs W' :=
  hy.y W _ (fun W' => BE W b o h acs W') hg (fun oo => (bareE_any w0 (W.putObj l oo) h b o c T (below_put hw hD oo) hbn ((World.putObj_heap_other b1).trans hb) hc sm nl nb nr ab acs al ar).mono fun e Z ⟨h1, h2⟩ => ⟨h1, h2.fr.ne (by rw [put_size]; exact heap_lt hg.l) (Ne.symm b1), h2.fr.ne (by rw [put_size]; exact heap_lt hg.d) (Ne.symm b2), by
    have hf := h2.fr
    rw [put_size] at hf
    have hl := heap_lt hg.l
    obtain ⟨na, aa, nc, ac, c2, T2, g1, g2, g3, g4, g5⟩ := h2.r
    exact ⟨hf.wrap b1 hg.l, na, aa, nc, ac, c2, T2, (World.putObj_heap_other b1).trans g1, g2, g3.wrap hl, g4.wrap hl, g5⟩⟩)
theorem yS {l D : Nat} {rdy : Obj} (hy : YB l D rdy) (w0 W : World) (h : SH) (b o : Nat) (c : Array Value) (T : TypeId) (hg : Gl l D rdy W) (hD : w0.heap.size ≤ l) (b1 : b ≠ l) (b2 : b ≠ D) (hDl : D ≠ l) (hw : Below w0.heap.size w0 W) (hbn : w0.heap.size ≤ b) (hb : W.heap[b]? = some (.cells c T (0, 0))) (hc : Cl c o h.cl) (sm : h.Sm) (ab : h.an ≤ 1000000) (bb : h.bn ≤ 1000000) (eb : h.en ≤ 1000000) (acs bcs ecs : List Value) (al : acs.length = h.an * 8) (ar : NRd w0 h.aa acs) (bl : bcs.length = h.bn * 8) (br : NRd w0 h.ba bcs) (el : ecs.length = h.en * 8) (er : NRd w0 h.ea ecs) :
    YieldAt Fence.wide 0 Tryz.prog l #[.iface 101 (.pointer (some ⟨b, o, none⟩))] W fun e W' => e = .returned (.bool true) ∧ Gl l D rdy W' ∧ BS W b o h acs bcs ecs W' :=
  hy.y W _ (fun W' => BS W b o h acs bcs ecs W') hg (fun oo => (bareS_any w0 (W.putObj l oo) h b o c T (below_put hw hD oo) hbn ((World.putObj_heap_other b1).trans hb) hc sm ab bb eb acs bcs ecs al ar bl br el er).mono fun e Z ⟨h1, h2⟩ => ⟨h1, h2.fr.ne (by rw [put_size]; exact heap_lt hg.l) (Ne.symm b1), h2.fr.ne (by rw [put_size]; exact heap_lt hg.d) (Ne.symm b2), by
    have hf := h2.fr
    rw [put_size] at hf
    have hl := heap_lt hg.l
    obtain ⟨aa, ba, ea, ac, bc, ec, c2, T2, g1, g2, g3, g4, g5, g6⟩ := h2.r
    exact ⟨hf.wrap b1 hg.l, aa, ba, ea, ac, bc, ec, c2, T2, (World.putObj_heap_other b1).trans g1, g2, g3.wrap hl, g4.wrap hl, g5.wrap hl, g6⟩⟩)
theorem yD {l D : Nat} {rdy : Obj} (hy : YB l D rdy) (w0 W : World) (h : DH) (b o : Nat) (c : Array Value) (T : TypeId) (hg : Gl l D rdy W) (hD : w0.heap.size ≤ l) (b1 : b ≠ l) (b2 : b ≠ D) (hDl : D ≠ l) (hw : Below w0.heap.size w0 W) (hbn : w0.heap.size ≤ b) (hb : W.heap[b]? = some (.cells c T (0, 0))) (hc : Cl c o h.cl) (sm : h.Sm) (pl : h.pn = h.params.length) (pb : h.pn ≤ 1000000) (pr : PLs w0 h.pa h.params) (bb : h.bn ≤ 1000000) (bcs : List Value) (bl : bcs.length = h.bn * 8) (br : NRd w0 h.ba bcs) :
    YieldAt Fence.wide 0 Tryz.prog l #[.iface 105 (.agg #[.string h.sort, .pointer (some ⟨b, o, none⟩)])] W fun e W' => e = .returned (.bool true) ∧ Gl l D rdy W' ∧ BD W b o h bcs W' :=
  hy.y W _ (fun W' => BD W b o h bcs W') hg (fun oo => (bareD_any w0 (W.putObj l oo) h b o c T (below_put hw hD oo) hbn ((World.putObj_heap_other b1).trans hb) hc sm pl pb pr bb bcs bl br).mono fun e Z ⟨h1, h2⟩ => ⟨h1, h2.fr.ne (by rw [put_size]; exact heap_lt hg.l) (Ne.symm b1), h2.fr.ne (by rw [put_size]; exact heap_lt hg.d) (Ne.symm b2), by
    have hf := h2.fr
    rw [put_size] at hf
    have hl := heap_lt hg.l
    obtain ⟨pa, ba, pc, bc, c2, T2, g1, g2, g3, g4, g5⟩ := h2.r
    exact ⟨hf.wrap b1 hg.l, pa, ba, pc, bc, c2, T2, (World.putObj_heap_other b1).trans g1, g2, g3.wrap hl, g4.wrap hl, g5⟩⟩)
theorem yT {l D : Nat} {rdy : Obj} (hy : YB l D rdy) (w0 W : World) (h : TH) (b o : Nat) (c : Array Value) (T : TypeId) (hg : Gl l D rdy W) (hD : w0.heap.size ≤ l) (b1 : b ≠ l) (b2 : b ≠ D) (hDl : D ≠ l) (hw : Below w0.heap.size w0 W) (hbn : w0.heap.size ≤ b) (hb : W.heap[b]? = some (.cells c T (0, 0))) (hc : Cl c o h.cl) (n1 : h.rn ≤ 1000000) (n2 : h.mn ≤ 1000000) (n3 : h.fn ≤ 1000000) (n4 : h.en ≤ 1000000) (rcs mcs fcs ecs : List Value) (l1 : rcs.length = h.rn * 7) (r1 : NRd w0 h.ra rcs) (l2 : mcs.length = h.mn * 7) (r2 : NRd w0 h.ma mcs) (l3 : fcs.length = h.fn * 7) (r3 : NRd w0 h.fa fcs) (l4 : ecs.length = h.en * 7) (r4 : NRd w0 h.ea ecs) :
    YieldAt Fence.wide 0 Tryz.prog l #[.iface 58 (.pointer (some ⟨b, o, none⟩))] W fun e W' => e = .returned (.bool true) ∧ Gl l D rdy W' ∧ BT W b o h rcs mcs fcs ecs W' :=
  hy.y W _ (fun W' => BT W b o h rcs mcs fcs ecs W') hg (fun oo => (bareT_any w0 (W.putObj l oo) h b o c T (below_put hw hD oo) hbn ((World.putObj_heap_other b1).trans hb) hc n1 n2 n3 n4 rcs mcs fcs ecs l1 r1 l2 r2 l3 r3 l4 r4).mono fun e Z ⟨h1, h2⟩ => ⟨h1, h2.fr.ne (by rw [put_size]; exact heap_lt hg.l) (Ne.symm b1), h2.fr.ne (by rw [put_size]; exact heap_lt hg.d) (Ne.symm b2), by
    have hf := h2.fr
    rw [put_size] at hf
    have hl := heap_lt hg.l
    obtain ⟨ra, ma, fa, ea, rc, mc, fc, ec, c2, T2, g1, g2, g3, g4, g5, g6, g7⟩ := h2.r
    exact ⟨hf.wrap b1 hg.l, ra, ma, fa, ea, rc, mc, fc, ec, c2, T2, (World.putObj_heap_other b1).trans g1, g2, g3.wrap hl, g4.wrap hl, g5.wrap hl, g6.wrap hl, g7⟩⟩)
end Go.Proofs.YtdfambocenohgaaGreatDoor

namespace Go.Proofs.YtdfambocenohgaaGreatDoor
open Go.RowKit Go.Deep Go.Shelf
set_option linter.unusedVariables false
set_option linter.unusedSimpArgs false
def DcP (w : World) (P : Prop) (e : Ending) (w' : World) : Prop := Below w.heap.size w w' ∧ ∃ b, e = .returned (.bool b) ∧ (b = true ↔ P)
theorem DcP.yes {w w' : World} {P : Prop} (h : Below w.heap.size w w') (p : P) : DcP w P (.returned (.bool true)) w' := ⟨h, true, rfl, fun _ => p, fun _ => rfl⟩
theorem DcP.no {w w' : World} {P : Prop} (h : Below w.heap.size w w') (p : ¬ P) : DcP w P (.returned (.bool false)) w' := ⟨h, false, rfl, (fun e => by cases e), fun q => (p q).elim⟩
theorem two_al (w : World) (x y : Array Value) (T : TypeId) : ((w.drew.alloc (.cells x T)).alloc (.cells y T)).heap[w.heap.size]? = some (.cells x T (0, 0)) ∧ ((w.drew.alloc (.cells x T)).alloc (.cells y T)).heap[w.heap.size + 1]? = some (.cells y T (0, 0)) ∧ Below w.heap.size w ((w.drew.alloc (.cells x T)).alloc (.cells y T)) := by
  obtain ⟨A, hA⟩ : ∃ A, A = w.drew.alloc (.cells x T) := ⟨_, rfl⟩
  have z : A.heap.size = w.heap.size + 1 := by rw [hA]; simp
  have b : Below w.heap.size w A := by rw [hA]; exact (Below.refl w.heap.size w).drew.alloc (Nat.le_refl _) _
  refine ⟨?_, ?_, ?_⟩
  · rw [← hA, Below.heap_alloc _ _ _ (by omega), hA]; exact heap_alloc_new w.drew _
  · rw [← hA, ← z]; exact heap_alloc_new A _
  · rw [← hA]; exact b.alloc (by omega) _
def SamE : (k1 k2 : Nat) → ET k1 → ET k2 → Prop
  | 0, _, _, _ => False
  | _ + 1, 0, _, _ => False
  | k1 + 1, k2 + 1, t, u => alikeE t.1 u.1 = true ∧ AllP (SamE k1 k2) t.2 u.2
def ChE (k1 k2 : Nat) (w : World) (t : ET k1) (u : ET k2) : Prop := ∃ C : Prop, (SamE k1 k2 t u ↔ alikeE (eH k1 t) (eH k2 u) = true ∧ C) ∧ (C → (eH k1 t).an = (eH k2 u).an) ∧ ∀ w', Below w.heap.size w w' → Calls Tryz.prog 93 #[.slice (eH k1 t).aa (eH k1 t).an (eH k1 t).ac, .slice (eH k2 u).aa (eH k2 u).an (eH k2 u).ac, .bool false] w' (DcP w' C)
theorem allP_step {α β : Type} {R : α → β → Prop} {l : List α} {m : List β} {i : Nat} {x : α} {y : β} (h : ∀ (j : Nat) (x : α) (y : β), j < i → l[j]? = some x → m[j]? = some y → R x y) (hx : l[i]? = some x) (hy : m[i]? = some y) (hr : R x y) : ∀ (j : Nat) (x : α) (y : β), j < i + 1 → l[j]? = some x → m[j]? = some y → R x y := fun j x' y' hj e1 e2 => by
  rcases Nat.lt_or_ge j i with h1 | h1
  · exact h j x' y' h1 e1 e2
  · obtain rfl : j = i := by omega
    rw [hx] at e1; rw [hy] at e2
    cases e1; cases e2; exact hr
theorem ne_an {a b : EH} (h : ¬ a.kind = b.kind ∨ ¬ a.op = b.op ∨ ¬ a.int = b.int ∨ ¬ a.text = b.text ∨ ¬ a.name = b.name ∨ ¬ a.names = b.names) : ¬ alikeE a b = true := fun e => by
  simp only [alikeE, Bool.and_eq_true, decide_eq_true_eq] at e
  obtain ⟨⟨⟨⟨⟨⟨e1, e2⟩, e3⟩, e4⟩, e5⟩, e6⟩, e7⟩ := e
  rcases h with h | h | h | h | h | h
  · exact h e1
  · exact h e2
  · exact h e3
  · exact h e4
  · exact h e5
  · exact h e6
set_option maxRecDepth 100000 in
set_option maxHeartbeats 4000000 in
theorem rows93 (k1 k2 : Nat) (w : World) (a a' : Option Addr) (n n' c c' : Nat) (ts : List (ET k1)) (us : List (ET k2)) (hn : n = ts.length) (hn' : n' = us.length) (hb : n ≤ 1000000) (hb' : n' ≤ 1000000) (hl : LiesAt 8 a (eAt k1) ts) (hl' : LiesAt 8 a' (eAt k2) us) (hr : ∀ t ∈ ts, ERd k1 w t) (hr' : ∀ u ∈ us, ERd k2 w u) (hch : ∀ t ∈ ts, ∀ u ∈ us, ChE k1 k2 w t u) :
    Calls Tryz.prog 93 #[.slice a n c, .slice a' n' c', .bool false] w (DcP w (AllP (SamE k1 k2) ts us)) := by
  have HL := hid hl
  have HL' := hid hl'
  have HR := hid hr
  have HR' := hid hr'
  have HN := hid hn
  have HN' := hid hn'
  have HCH := hid hch
  have nI : (n : Int) ≤ 1000000 := by omega
  have nI' : (n' : Int) ≤ 1000000 := by omega
  have HP : Hid (ts.length = us.length → (∀ (j : Nat) (x : ET k1) (y : ET k2), j < n → ts[j]? = some x → us[j]? = some y → SamE k1 k2 x y) → AllP (SamE k1 k2) ts us) := hid (fun h1 h2 => ⟨h1, fun j x y e1 e2 => h2 j x y (by have := (List.getElem?_eq_some_iff.1 e1).1; omega) e1 e2⟩)
  have HQ : Hid (∀ (j : Nat) (x : ET k1) (y : ET k2), ts[j]? = some x → us[j]? = some y → ¬ SamE k1 k2 x y → ¬ AllP (SamE k1 k2) ts us) := hid (fun j x y e1 e2 h3 h => h3 (h.2 j x y e1 e2))
  have HZ : Hid (¬ n = n' → ¬ AllP (SamE k1 k2) ts us) := hid (fun h1 h => h1 (by rw [hn, hn']; exact h.1))
  obtain ⟨P, hP⟩ : ∃ P : Prop, P = AllP (SamE k1 k2) ts us := ⟨_, rfl⟩
  rw [← hP] at HP HQ HZ ⊢
  clear hl hl' hr hr' hn hn' hb hb' hch hP
  go_enter Tryz.func93, Tryz.ntmps93
  by_cases hnn : n = n'
  case neg =>
    have nb : ((n : Int) != (n' : Int)) = true := by simp; omega
    have HNN := hid hnn
    clear hnn
    go_wp2
    go_ret
    exact DcP.no (Below.refl _ _) (HZ.out HNN.out)
  subst hnn
  have nb : ((n : Int) != (n : Int)) = false := by simp
  go_wp2
  go_loopg [7] n (fun g x wr => ∃ i : Nat, i + g = n ∧ x = .int .i64 (i : Int) ∧ Below w.heap.size w wr ∧ ∀ (j : Nat) (x : ET k1) (y : ET k2), j < i → ts[j]? = some x → us[j]? = some y → SamE k1 k2 x y)
  case atStart => exact ⟨0, by omega, rfl, Below.refl _ _, fun j x y h => by omega⟩
  case round =>
    obtain ⟨i, hi, rfl, hbw, hpre⟩ := hrel
    have HB := hid hbw
    have HI := hid hi
    have HPR := hid hpre
    clear hpre
    cases gk with
    | zero =>
      have hin : i = n := by omega
      subst hin
      clear hi hbw
      go_wp2
      go_ret
      exact DcP.yes HB.out (HP.out (by rw [← HN.out, ← HN'.out]) HPR.out)
    | succ g =>
      have hil : (i : Int) < (n : Int) := by omega
      have hi0 : (0 : Int) ≤ (i : Int) := by omega
      have l1 := HN.out
      have l2 := HN'.out
      obtain ⟨t, ht⟩ : ∃ t, ts[i]? = some t := ⟨ts[i]'(by omega), List.getElem?_eq_getElem _⟩
      obtain ⟨u, hu⟩ : ∃ u, us[i]? = some u := ⟨us[i]'(by omega), List.getElem?_eq_getElem _⟩
      obtain ⟨b1, o1, ea1, hat1⟩ := HL.out i t ht
      obtain ⟨b2, o2, ea2, hat2⟩ := HL'.out i u hu
      subst ea1
      subst ea2
      have d1 := (HR.out t (List.mem_of_getElem? ht)).h
      have d2 := (HR'.out u (List.mem_of_getElem? hu)).h
      obtain ⟨C, hC, han, hcall⟩ := HCH.out t (List.mem_of_getElem? ht) u (List.mem_of_getElem? hu)
      have HST : Hid (SamE k1 k2 t u → ∀ (j : Nat) (x : ET k1) (y : ET k2), j < i + 1 → ts[j]? = some x → us[j]? = some y → SamE k1 k2 x y) := hid (fun h => allP_step HPR.out ht hu h)
      have HNO : Hid (¬ SamE k1 k2 t u → ¬ P) := hid (HQ.out i t u ht hu)
      rw [hC] at HST HNO
      simp only [eAt, Prod.mk.injEq] at hat1 hat2
      obtain ⟨q1, q2⟩ := hat1
      obtain ⟨q3, q4⟩ := hat2
      generalize eH k1 t = h1 at d1 hcall han q1 q2 HST HNO
      generalize eH k2 u = h2 at d2 hcall han q3 q4 HST HNO
      clear hC ht hu l1 l2 HPR hi
      have e1 := d1.below (Nat.le_refl _) hbw
      have e2 := d2.below (Nat.le_refl _) hbw
      clear d1 d2
      obtain ⟨hb1, ho1, kind1, op1, int1, text1, name1, na1, nn1, nc1, aa1, an1, ac1, pos1, names1⟩ := h1
      obtain ⟨hb2, ho2, kind2, op2, int2, text2, name2, na2, nn2, nc2, aa2, an2, ac2, pos2, names2⟩ := h2
      simp only at q1 q2 q3 q4 hcall han
      have HAN := hid han
      clear han
      subst q1 q2 q3 q4
      have E1 := hid e1
      have E2 := hid e2
      have x0 := e1.c0
      have y0 := e2.c0
      have x1 := e1.c1
      have y1 := e2.c1
      have x2 := e1.c2
      have y2 := e2.c2
      have x3 := e1.c3
      have y3 := e2.c3
      have x4 := e1.c4
      have y4 := e2.c4
      have x5 := e1.c5
      have y5 := e2.c5
      have x6 := e1.c6
      have y6 := e2.c6
      have x7 := e1.c7
      have y7 := e2.c7
      simp only at x0 x1 x2 x3 x4 x5 x6 x7 y0 y1 y2 y3 y4 y5 y6 y7
      have HCALL := hid hcall
      obtain ⟨wo, hwo⟩ : ∃ wo, wo = wr := ⟨_, rfl⟩
      subst hwo
      clear e1 e2 hbw hcall
      go_upto_region 6 with fail
      go_cut [8, 9] from 22 to 29 (fun s6 s7 wx => ∃ X Y : Nat, s6 = .pointer (some ⟨X, 0, none⟩) ∧ s7 = .pointer (some ⟨Y, 0, none⟩) ∧ wx.heap[X]? = some (.cells #[.int .i64 kind1, .int .i64 op1, .int .i64 int1, .string text1, .string name1, .slice na1 nn1 nc1, .slice aa1 an1 ac1, .int .i64 pos1] 28 (0, 0)) ∧ wx.heap[Y]? = some (.cells #[.int .i64 kind2, .int .i64 op2, .int .i64 int2, .string text2, .string name2, .slice na2 nn2 nc2, .slice aa2 an2 ac2, .int .i64 pos2] 28 (0, 0)) ∧ Below wo.heap.size wo wx)
      case first =>
        go_region_held3 (fun v => v.cell? ⟨hb1, o1 + i * 8, none⟩ = some (.int .i64 kind1) ∧ v.cell? ⟨hb1, o1 + i * 8 + 1, none⟩ = some (.int .i64 op1) ∧ v.cell? ⟨hb1, o1 + i * 8 + 2, none⟩ = some (.int .i64 int1) ∧ v.cell? ⟨hb1, o1 + i * 8 + 3, none⟩ = some (.string text1) ∧ v.cell? ⟨hb1, o1 + i * 8 + 4, none⟩ = some (.string name1) ∧ v.cell? ⟨hb1, o1 + i * 8 + 5, none⟩ = some (.slice na1 nn1 nc1) ∧ v.cell? ⟨hb1, o1 + i * 8 + 6, none⟩ = some (.slice aa1 an1 ac1) ∧ v.cell? ⟨hb1, o1 + i * 8 + 7, none⟩ = some (.int .i64 pos1) ∧ v.cell? ⟨hb2, o2 + i * 8, none⟩ = some (.int .i64 kind2) ∧ v.cell? ⟨hb2, o2 + i * 8 + 1, none⟩ = some (.int .i64 op2) ∧ v.cell? ⟨hb2, o2 + i * 8 + 2, none⟩ = some (.int .i64 int2) ∧ v.cell? ⟨hb2, o2 + i * 8 + 3, none⟩ = some (.string text2) ∧ v.cell? ⟨hb2, o2 + i * 8 + 4, none⟩ = some (.string name2) ∧ v.cell? ⟨hb2, o2 + i * 8 + 5, none⟩ = some (.slice na2 nn2 nc2) ∧ v.cell? ⟨hb2, o2 + i * 8 + 6, none⟩ = some (.slice aa2 an2 ac2) ∧ v.cell? ⟨hb2, o2 + i * 8 + 7, none⟩ = some (.int .i64 pos2)) (first | go_keep) (fail)
        all_goals (go_wp2_with fail)
        all_goals go_meet
        · exact ⟨_, _, rfl, rfl, (two_al _ _ _ _).1, (two_al _ _ _ _).2.1, (two_al _ _ _ _).2.2⟩
        · exact ⟨_, _, rfl, rfl, (two_al _ _ _ _).2.1, (two_al _ _ _ _).1, (two_al _ _ _ _).2.2⟩
      case rest =>
        obtain ⟨X, Y, rfl, rfl, mX, mY, bx⟩ := hcut
        have BX := hid (HB.out.trans (bx.mono HB.out.size))
        have HBX := hid bx
        have CB := hid (fun (V : World) (hV : Below wc.heap.size wc V) => (by
          have g1 := (hV.block _ (heap_lt mX)).trans mX
          have g2 := (hV.block _ (heap_lt mY)).trans mY
          exact ⟨⟨cellT g1 0, cellT g1 1, cellT g1 2, cellT g1 3, cellT g1 4, cellT g1 5, cellT g1 6, cellT g1 7⟩, cellT g2 0, cellT g2 1, cellT g2 2, cellT g2 3, cellT g2 4, cellT g2 5, cellT g2 6, cellT g2 7⟩ : (V.cell? ⟨X, 0, none⟩ = some (.int .i64 kind1) ∧ V.cell? ⟨X, 1, none⟩ = some (.int .i64 op1) ∧ V.cell? ⟨X, 2, none⟩ = some (.int .i64 int1) ∧ V.cell? ⟨X, 3, none⟩ = some (.string text1) ∧ V.cell? ⟨X, 4, none⟩ = some (.string name1) ∧ V.cell? ⟨X, 5, none⟩ = some (.slice na1 nn1 nc1) ∧ V.cell? ⟨X, 6, none⟩ = some (.slice aa1 an1 ac1) ∧ V.cell? ⟨X, 7, none⟩ = some (.int .i64 pos1)) ∧ V.cell? ⟨Y, 0, none⟩ = some (.int .i64 kind2) ∧ V.cell? ⟨Y, 1, none⟩ = some (.int .i64 op2) ∧ V.cell? ⟨Y, 2, none⟩ = some (.int .i64 int2) ∧ V.cell? ⟨Y, 3, none⟩ = some (.string text2) ∧ V.cell? ⟨Y, 4, none⟩ = some (.string name2) ∧ V.cell? ⟨Y, 5, none⟩ = some (.slice na2 nn2 nc2) ∧ V.cell? ⟨Y, 6, none⟩ = some (.slice aa2 an2 ac2) ∧ V.cell? ⟨Y, 7, none⟩ = some (.int .i64 pos2)))
        clear x0 x1 x2 x3 x4 x5 x6 x7 y0 y1 y2 y3 y4 y5 y6 y7 mX mY bx HB
        obtain ⟨⟨x0, x1, x2, x3, x4, x5, x6, x7⟩, y0, y1, y2, y3, y4, y5, y6, y7⟩ := CB.out wc (Below.refl _ _)
        by_cases hq : kind1 = kind2
        case neg =>
          have n1 : (kind1 != kind2) = true := by simpa using hq
          have n2 : (kind1 == kind2) = false := by simpa using hq
          have HQQ := hid hq
          clear hq
          go_wp2
          go_ret
          exact DcP.no BX.out (HNO.out (fun h => ne_an (.inl HQQ.out) h.1))
        subst hq
        have n_kind : (kind1 != kind1) = false := by simp
        by_cases hq : op1 = op2
        case neg =>
          have n1 : (op1 != op2) = true := by simpa using hq
          have n2 : (op1 == op2) = false := by simpa using hq
          have HQQ := hid hq
          clear hq
          go_wp2
          go_ret
          exact DcP.no BX.out (HNO.out (fun h => ne_an (.inr (.inl HQQ.out)) h.1))
        subst hq
        have n_op : (op1 != op1) = false := by simp
        by_cases hq : int1 = int2
        case neg =>
          have n1 : (int1 != int2) = true := by simpa using hq
          have n2 : (int1 == int2) = false := by simpa using hq
          have HQQ := hid hq
          clear hq
          go_wp2
          go_ret
          exact DcP.no BX.out (HNO.out (fun h => ne_an (.inr (.inr (.inl HQQ.out))) h.1))
        subst hq
        have n_int : (int1 != int1) = false := by simp
        by_cases hq : text1 = text2
        case neg =>
          have n1 := bneL hq
          have HQQ := hid hq
          clear hq
          go_wp2
          go_ret
          exact DcP.no BX.out (HNO.out (fun h => ne_an (.inr (.inr (.inr (.inl HQQ.out)))) h.1))
        subst hq
        have n_text : (text1.toList == text1.toList) = true := by simp
        by_cases hq : name1 = name2
        case neg =>
          have n1 := bneL hq
          have HQQ := hid hq
          clear hq
          go_wp2
          go_ret
          exact DcP.no BX.out (HNO.out (fun h => ne_an (.inr (.inr (.inr (.inr (.inl HQQ.out))))) h.1))
        subst hq
        have n_name : (name1.toList == name1.toList) = true := by simp
        have nnI1 : (nn1 : Int) ≤ 1000000 := by have : nn1 ≤ 1000000 := E1.out.nb; omega
        have nnI2 : (nn2 : Int) ≤ 1000000 := by have : nn2 ≤ 1000000 := E2.out.nb; omega
        have NL1 : Hid (nn1 = names1.length) := hid E1.out.nl
        have NL2 : Hid (nn2 = names2.length) := hid E2.out.nl
        have NR1 := hid (SLs.below (E1.out.nr) (Nat.le_refl _) HBX.out)
        have NR2 := hid (SLs.below (E2.out.nr) (Nat.le_refl _) HBX.out)
        simp only at NR1 NR2
        by_cases hq : nn1 = nn2
        case neg =>
          have n1 : ((nn1 : Int) != (nn2 : Int)) = true := by simp; omega
          have HQQ : Hid (¬ names1 = names2) := hid (fun e => hq (by rw [NL1.out, NL2.out, e]))
          clear hq E1 E2
          go_wp2
          go_ret
          exact DcP.no BX.out (HNO.out (fun h => ne_an (.inr (.inr (.inr (.inr (.inr HQQ.out))))) h.1))
        subst hq
        have n_nn : ((nn1 : Int) != (nn1 : Int)) = false := by simp
        have K := hid (HCALL.out wc BX.out)
        clear E1 E2 HCALL
        go_upto_region 9 with (go_at_call 93; (refine (Hid.out K).mono ?_; rintro e w4 ⟨hb4, b4, rfl, hi4⟩; have HC := hid hb4; have HI4 := hid hi4; clear x0 x1 x2 x3 x4 x5 x6 x7 y0 y1 y2 y3 y4 y5 y6 y7 hb4 hi4; cases b4))
        · go_ret
          exact DcP.no (BX.out.trans (HC.out.mono BX.out.size)) (HNO.out (fun h => by have := HI4.out.2 h.2; cases this))
        have HCC : Hid C := hid (HI4.out.1 (by first | rfl | trivial))
        clear HI4 K n_kind n_op n_int n_text n_name n_nn
        obtain ⟨⟨x0, x1, x2, x3, x4, x5, x6, x7⟩, y0, y1, y2, y3, y4, y5, y6, y7⟩ := CB.out w4 HC.out
        go_wp2
        go_loopg [10] nn1 (fun g2 x wr2 => ∃ i2 : Nat, i2 + g2 = nn1 ∧ x = .int .i64 (i2 : Int) ∧ names1.take i2 = names2.take i2 ∧ Below wc.heap.size wc wr2)
        case atStart => exact ⟨0, by omega, rfl, by simp, HC.out⟩
        case round =>
          obtain ⟨i2, hi2, rfl, htk, hb3⟩ := hrel
          clear x0 x1 x2 x3 x4 x5 x6 x7 y0 y1 y2 y3 y4 y5 y6 y7
          obtain ⟨⟨x0, x1, x2, x3, x4, x5, x6, x7⟩, y0, y1, y2, y3, y4, y5, y6, y7⟩ := CB.out wr hb3
          have H3 := hid hb3
          cases gk with
          | zero =>
            have hin : i2 = nn1 := by omega
            subst hin
            have hnm : names1 = names2 := by rwa [List.take_of_length_le (by rw [NL1.out]; exact Nat.le_refl _), List.take_of_length_le (by rw [NL2.out]; exact Nat.le_refl _)] at htk
            have HNM := hid hnm
            clear hb3 htk hnm hi2
            go_wp2
            go_roundg g
            case measure => omega
            case rel => exact ⟨i + 1, by have := HI.out; omega, by go_num, BX.out.trans (H3.out.mono BX.out.size), HST.out ⟨by simp [alikeE, HNM.out, HAN.out HCC.out], HCC.out⟩⟩
          | succ g2 =>
            obtain ⟨s, hs⟩ : ∃ s, names1[i2]? = some s := ⟨names1[i2]'(by have := NL1.out; omega), List.getElem?_eq_getElem _⟩
            obtain ⟨s', hs'⟩ : ∃ s, names2[i2]? = some s := ⟨names2[i2]'(by have := NL2.out; omega), List.getElem?_eq_getElem _⟩
            obtain ⟨p1, u1, rfl, z1⟩ := (NR1.out.below (Nat.le_refl _) hb3) i2 s hs
            obtain ⟨p2, u2, rfl, z2⟩ := (NR2.out.below (Nat.le_refl _) hb3) i2 s' hs'
            have hiI : (i2 : Int) < (nn1 : Int) := by omega
            have hi0' : (0 : Int) ≤ (i2 : Int) := by omega
            have HI2 := hid hi2
            by_cases he : s = s'
            · have HT3 := hid (eq_take (by rw [← NL1.out, ← NL2.out]) hs hs' htk he)
              subst he
              have nbs : (s.toList == s.toList) = true := by simp
              clear hb3 hs hs' htk hi2
              go_wp2
              go_quiet (fail)
              go_wp2
              go_roundg g2
              case measure => omega
              case rel => exact ⟨i2 + 1, by have := HI2.out; omega, by go_num, HT3.out, bel_drewN H3.out _⟩
            · have HT3 : Hid (¬ names1 = names2) := hid (fun e => he (by rw [e, hs'] at hs; cases hs; rfl))
              have nbs := bneL he
              clear hb3 hs hs' htk he hi2
              go_wp2
              go_quiet (fail)
              go_wp2
              go_ret
              exact DcP.no (BX.out.trans ((bel_drewN H3.out _).mono BX.out.size)) (HNO.out (fun h => ne_an (.inr (.inr (.inr (.inr (.inr HT3.out))))) h.1))
theorem chE : ∀ (k1 k2 : Nat) (w : World) (t : ET k1) (u : ET k2), ERd k1 w t → ERd k2 w u → ChE k1 k2 w t u
  | 0, _, _, t, _, _, _ => Empty.elim t
  | _ + 1, 0, _, _, u, _, _ => Empty.elim u
  | k1 + 1, k2 + 1, w, t, u, d, e => ⟨AllP (SamE k1 k2) t.2 u.2, Iff.rfl, fun h => by show t.1.an = u.1.an; rw [d.2.1, e.2.1]; exact h.1, fun w' hw => rows93 k1 k2 w' _ _ _ _ _ _ t.2 u.2 d.2.1 e.2.1 d.1.ab e.1.ab d.2.2.1 e.2.2.1 (fun x hx => ERd.below k1 (d.2.2.2 x hx) (Nat.le_refl _) hw) (fun x hx => ERd.below k2 (e.2.2.2 x hx) (Nat.le_refl _) hw) (fun x hx y hy => chE k1 k2 w' x y (ERd.below k1 (d.2.2.2 x hx) (Nat.le_refl _) hw) (ERd.below k2 (e.2.2.2 y hy) (Nat.le_refl _) hw))⟩
end Go.Proofs.YtdfambocenohgaaGreatDoor

