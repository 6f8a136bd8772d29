/- Simple values are written. -/
import Derived.Test.YtjfkcafocindjaaH
namespace Go.Proofs.Ytjfkcafocindjaa
open Go.RowKit Go.Deep
set_option linter.unusedVariables false
set_option linter.unusedSimpArgs false

def encS (h : Hd) : List Nat := if h.kind = 1 then 1 :: enc (zz h.int) else if h.kind = 2 then 2 :: encT h.text else [3, h.int.toNat]

theorem box_at {w w2 : World} {v v2 : Value} {xs : List Nat} {B : Nat} {c : Array Value} {t : TypeId} (hr : Row w B v xs) (h : Grw (w.alloc (.cells c t)) v w2 v2) : w2.heap[w.heap.size]? = some (.cells c t (0, 0)) := by
  rw [h.old (by simp) (fun e => by have := (hr.own _ e.symm).2; omega)]; exact heap_alloc_new w _

theorem Row.alloc {w : World} {B v xs} (h : Row w B v xs) (o : Obj) : Row (w.alloc o) B v xs := World.ownsRow.alloc h o

set_option maxRecDepth 10000 in
set_option maxHeartbeats 1000000 in
theorem appendSimple_any (w : World) (B : Nat) (v : Value) (xs : List Nat) (h : Hd) (hin : h.In) (hs : simpleB h = true) (hr : Row w B v xs) (hB : B ≤ w.heap.size) (hl : xs.length ≤ 100000000000) :
    Calls Try.prog 45 #[v, h.v] w fun e w' => ∃ v', e = .returned v' ∧ Row w' B v' (xs ++ encS h) ∧ Grw w v w' v' := by
  obtain ⟨kind, int, text, rc, a, n, cap⟩ := h
  have h2 := hin.i0
  have h3 := hin.i1
  simp only [Hd.v]
  simp only at h2 h3
  simp only [simpleB, Bool.and_eq_true, Bool.or_eq_true, decide_eq_true_eq] at hs
  have hr1 := hr.alloc (.cells #[.int .i64 kind, .int .i64 int, .string text, .int .i64 rc, .slice a n cap] 45)
  have hB1 : B ≤ (w.alloc (.cells #[.int .i64 kind, .int .i64 int, .string text, .int .i64 rc, .slice a n cap] 45)).heap.size := by simp; omega
  have hl1 : xs.length ≤ 1099511627776 := by omega
  obtain ⟨⟨rfl, rfl⟩, (⟨rfl, rfl⟩ | ⟨⟨rfl, rfl⟩, ht⟩) | ⟨⟨rfl, rfl⟩, hi⟩⟩ := hs
  · have Hr1 := hid hr1
    clear hr1
    go_enter Try.func45, Try.ntmps45
    go_wp2_with (first
      | (at_builtin; (refine wpList_app1 _ rfl _ _ rfl _ _ (by rfl) (by first | rfl | (rw [World.size_alloc]; rfl)) B xs 1 (by rfl) Hr1.out hB1 hl1 ?_; intro v1 w1 hr2 hb1; have hbx := box_at hr hb1; have hc1 := cellOf hbx 1; have hc0 := cellOf hbx 0; simp only [List.getElem?_toArray, List.getElem?_cons_zero, List.getElem?_cons_succ] at hc0 hc1; clear hbx))
      | (go_at_call 36; (refine (appendInt_any w1 B v1 _ int hr2 (Nat.le_trans hB1 hb1.size) (by simp; omega) h2 h3).mono ?_; rintro e w2 ⟨v2, rfl, hr3, hb2⟩)))
    go_ret
    exact ⟨_, rfl, by simpa [encS] using hr3, (hb1.trans hb2).unalloc⟩
  · have Hr1 := hid hr1
    clear hr1
    go_enter Try.func45, Try.ntmps45
    go_wp2_with (first
      | (at_builtin; (refine wpList_app1 _ rfl _ _ rfl _ _ (by rfl) (by first | rfl | (rw [World.size_alloc]; rfl)) B xs 2 (by rfl) Hr1.out hB1 hl1 ?_; intro v1 w1 hr2 hb1; have hbx := box_at hr hb1; have hc2 := cellOf hbx 2; have hc0 := cellOf hbx 0; simp only [List.getElem?_toArray, List.getElem?_cons_zero, List.getElem?_cons_succ] at hc0 hc2; clear hbx))
      | (go_at_call 37; (refine (appendText_any w1 B v1 _ text hr2 (Nat.le_trans hB1 hb1.size) (by simp; omega) (by omega)).mono ?_; rintro e w2 ⟨v2, rfl, hr3, hb2⟩)))
    go_ret
    exact ⟨_, rfl, by simpa [encS] using hr3, (hb1.trans hb2).unalloc⟩
  · obtain ⟨m, rfl⟩ : ∃ m : Nat, int = (m : Int) := ⟨int.toNat, by omega⟩
    have hm : m ≤ 1 := by omega
    have Hr1 := hid hr1
    clear hr1
    go_enter Try.func45, Try.ntmps45
    have hl2 : (xs ++ [3]).length ≤ 1099511627776 := by simp; omega
    go_wp2_with (first
      | (at_builtin; refine wpList_app1 _ rfl _ _ rfl _ _ (by rfl) (by first | rfl | (rw [World.size_alloc]; rfl)) B xs 3 (by rfl) Hr1.out hB1 hl1 ?_; intro v1 w1 hr2 hb1; have hbx := box_at hr hb1; have hc1 := cellOf hbx 1; have hc0 := cellOf hbx 0; simp only [List.getElem?_toArray, List.getElem?_cons_zero, List.getElem?_cons_succ] at hc0 hc1; clear hbx)
      | (at_builtin; (refine wpList_app1 _ rfl _ _ rfl _ _ (by rfl) (by rfl) B _ m (by omega) hr2 (Nat.le_trans hB1 hb1.size) hl2 ?_; intro v2 w2 hr3 hb2)))
    go_ret
    exact ⟨_, rfl, by simpa [encS] using hr3, (hb1.trans hb2).unalloc⟩
end Go.Proofs.Ytjfkcafocindjaa
