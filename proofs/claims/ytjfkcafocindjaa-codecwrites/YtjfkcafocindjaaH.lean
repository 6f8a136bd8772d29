/- Values that are no records: isSimple, appendValue. -/
import Derived.Test.YtjfkcafocindjaaG
namespace Go.Proofs.Ytjfkcafocindjaa
open Go.RowKit Go.Deep
set_option linter.unusedVariables false
set_option linter.unusedSimpArgs false

/- A value's five cells: its fields as a slice. -/
structure Hd where
  kind : Int
  int : Int
  text : ByteArray
  rc : Int
  a : Option Addr
  n : Nat
  cap : Nat
def Hd.v (h : Hd) : Value := .agg #[.int .i64 h.kind, .int .i64 h.int, .string h.text, .int .i64 h.rc, .slice h.a h.n h.cap]
structure Hd.In (h : Hd) : Prop where
  i0 : -9223372036854775808 ≤ h.int
  i1 : h.int ≤ 9223372036854775807
  k0 : -9223372036854775808 ≤ h.kind
  k1 : h.kind ≤ 9223372036854775807
  r0 : -9223372036854775808 ≤ h.rc
  r1 : h.rc ≤ 9223372036854775807
  t : h.text.size ≤ 9223372036854775807
  n : h.n ≤ 9223372036854775807

def simpleB (h : Hd) : Bool := decide (h.rc = 0) && decide (h.n = 0) &&
  (decide (h.kind = 1) && decide (h.text = ByteArray.empty) || decide (h.kind = 2) && decide (h.int = 0) && decide (h.text.size ≤ 64) || decide (h.kind = 3) && decide (h.text = ByteArray.empty) && (decide (h.int = 0) || decide (h.int = 1)))

theorem stremp (t : ByteArray) : t.toList.isEmpty = decide (t = ByteArray.empty) := by
  rw [ByteArray.toList_eq]
  by_cases h : t = ByteArray.empty
  · subst h; simp
  · have : ¬ t.data = #[] := fun e => h (by cases t; simp at e; simp [e]; rfl)
    simp [h, this]

set_option maxRecDepth 10000 in
set_option maxHeartbeats 1000000 in
theorem isSimple_any (w : World) (h : Hd) (hin : h.In) :
    Calls Try.prog 50 #[h.v] w fun e w' => e = .returned (.bool (simpleB h)) ∧ w' = w.alloc (.cells h.v.cells 45) := by
  obtain ⟨kind, int, text, rc, a, n, cap⟩ := h
  have h1 := hin.t
  have h2 := hin.n
  simp only [Hd.v]
  simp only at h1 h2
  by_cases hr : rc = 0
  · subst hr
    by_cases hn : n = 0
    · subst hn
      by_cases k1 : kind = 1
      · subst k1
        go_enter Try.func50, Try.ntmps50
        go_wp2
        go_ret
        exact ⟨by simp [simpleB, stremp]; try omega, rfl⟩
      · have k1' : (kind == 1) = false := by simpa using k1
        by_cases k2 : kind = 2
        · subst k2
          by_cases i0 : int = 0
          · subst i0
            go_enter Try.func50, Try.ntmps50
            go_wp2
            go_ret
            exact ⟨by simp [simpleB, stremp]; try omega, rfl⟩
          · have i0' : (int == 0) = false := by simpa using i0
            go_enter Try.func50, Try.ntmps50
            go_wp2
            go_ret
            exact ⟨by simp [simpleB, i0], rfl⟩
        · have k2' : (kind == 2) = false := by simpa using k2
          by_cases k3 : kind = 3
          · subst k3
            have hs := stremp text
            by_cases ht : text = ByteArray.empty
            · subst ht
              by_cases i0 : int = 0
              · subst i0
                go_enter Try.func50, Try.ntmps50
                go_wp2
                go_ret
                exact ⟨by simp [simpleB], rfl⟩
              · have i0' : (int == 0) = false := by simpa using i0
                go_enter Try.func50, Try.ntmps50
                go_wp2
                go_ret
                exact ⟨by simp [simpleB, i0]; rfl, rfl⟩
            · simp only [ht, decide_false] at hs
              go_enter Try.func50, Try.ntmps50
              go_wp2
              go_ret
              exact ⟨by simp [simpleB, ht], rfl⟩
          · have k3' : (kind == 3) = false := by simpa using k3
            go_enter Try.func50, Try.ntmps50
            go_wp2
            go_ret
            exact ⟨by simp [simpleB, k1, k2, k3], rfl⟩
    · have hn' : 0 < n := by omega
      go_enter Try.func50, Try.ntmps50
      go_wp2
      go_ret
      exact ⟨by simp [simpleB, hn], rfl⟩
  · have hr' : (rc == 0) = false := by simpa using hr
    go_enter Try.func50, Try.ntmps50
    go_wp2
    go_ret
    exact ⟨by simp [simpleB, hr], rfl⟩
end Go.Proofs.Ytjfkcafocindjaa
