/- The disk in memory; holding, New. -/
import Derived.Test.YtbhopjnolgfpnaaD
namespace Go.Proofs.Ytbhopjnolgfpnaa
open Go.RowKit Go.Deep
set_option linter.unusedVariables false
set_option linter.unusedSimpArgs false

def rowVals (R : List (Nat × ByteArray)) : List Value := R.flatMap (fun p => [Value.int .i64 (p.1 : Int), Value.string p.2])

structure Disk (w : World) (bd bf cf bn cn : Nat) (vr : Value) (F N : List ByteArray) (R : List (Nat × ByteArray)) (left : Int) : Prop where
  dk : Dk w bd (.slice (some ⟨bf, 0, none⟩) F.length cf) (.slice (some ⟨bn, 0, none⟩) F.length cn) vr left
  f : w.ownsRow 0 9 1 (.slice (some ⟨bf, 0, none⟩) F.length cf) F.length (strs F)
  n : w.ownsRow 0 9 1 (.slice (some ⟨bn, 0, none⟩) F.length cn) F.length (strs N)
  r : w.ownsRow 0 47 2 vr R.length (rowVals R)
  fn : bf ≠ bn
  pos : 0 < F.length
  small : F.length ≤ 16384
  rin : ∀ p, p ∈ R → p.1 < F.length

theorem ownsRow_block {w : World} {base : Nat} {e : TypeId} {size : Nat} {g n cap : Nat} {xs : List Value} (h : w.ownsRow base e size (.slice (some ⟨g, 0, none⟩) n cap) n xs) :
    ∃ cur, w.heap[g]? = some (.cells cur e (0, 0)) ∧ n ≤ cap ∧ cap ≤ maxLen ∧ cur.size = cap * size ∧ cur.toList.take (n * size) = xs := by
  rcases h.2 with ⟨h, _⟩ | ⟨g', cap', cur, h, _, h1, h2, h3, h4, h5⟩
  · cases h
  · cases h; exact ⟨cur, h1, h2, h3, h4, h5⟩
theorem ownsRow_of_block {w : World} {base : Nat} {e : TypeId} {size : Nat} {g n cap : Nat} {xs : List Value} {cur : Array Value} (hl : xs.length = n * size) (hb : base ≤ g) (h1 : w.heap[g]? = some (.cells cur e (0, 0)))
    (h2 : n ≤ cap) (h3 : cap ≤ maxLen) (h4 : cur.size = cap * size) (h5 : cur.toList.take (n * size) = xs) : w.ownsRow base e size (.slice (some ⟨g, 0, none⟩) n cap) n xs :=
  ⟨hl, .inr ⟨g, cap, cur, rfl, hb, h1, h2, h3, h4, h5⟩⟩
theorem ownsRow_base {w : World} {base base' : Nat} {e : TypeId} {size : Nat} {v : Value} {n : Nat} {xs : List Value} (h : w.ownsRow base e size v n xs) (hb : base' ≤ base) : w.ownsRow base' e size v n xs := by
  refine ⟨h.1, ?_⟩
  rcases h.2 with h | ⟨g, cap, cur, h0, h1, h2⟩
  · exact .inl h
  · exact .inr ⟨g, cap, cur, h0, Nat.le_trans hb h1, h2⟩
theorem ownsRow_same {w w' : World} {base : Nat} {e : TypeId} {size : Nat} {v : Value} {n : Nat} {xs : List Value} (h : w.ownsRow base e size v n xs) (hb : ∀ g, v.ownBlock = some g → w'.heap[g]? = w.heap[g]?) : w'.ownsRow base e size v n xs := by
  refine ⟨h.1, ?_⟩
  rcases h.2 with h | ⟨g, cap, cur, rfl, h1, h2, h3⟩
  · exact .inl h
  · exact .inr ⟨g, cap, cur, rfl, h1, by rw [hb g rfl]; exact h2, h3⟩

theorem Disk.kept {w w' : World} {bd bf cf bn cn vr F N R left} (h : Disk w bd bf cf bn cn vr F N R left) (h1 : w'.heap[bd]? = w.heap[bd]?) (h2 : w'.heap[bf]? = w.heap[bf]?) (h3 : w'.heap[bn]? = w.heap[bn]?)
    (h4 : ∀ g, vr.ownBlock = some g → w'.heap[g]? = w.heap[g]?) : Disk w' bd bf cf bn cn vr F N R left :=
  ⟨by unfold Dk; rw [h1]; exact h.dk, ownsRow_same h.f (fun g e => by cases e; exact h2), ownsRow_same h.n (fun g e => by cases e; exact h3), ownsRow_same h.r h4, h.fn, h.pos, h.small, h.rin⟩

theorem Disk.below {w w' : World} {bd bf cf bn cn vr F N R left} (h : Disk w bd bf cf bn cn vr F N R left) (hb : Below w.heap.size w w') : Disk w' bd bf cf bn cn vr F N R left :=
  h.kept (hb.block _ (Array.getElem?_eq_some_iff.1 h.dk).1) (hb.block _ (h.f.lt bf rfl).2) (hb.block _ (h.n.lt bn rfl).2) (fun g e => hb.block _ (h.r.lt g e).2)

theorem Disk.nlen {w : World} {bd bf cf bn cn vr F N R left} (h : Disk w bd bf cf bn cn vr F N R left) : N.length = F.length := by
  have := h.n.1; rw [strs_length] at this; omega

set_option maxHeartbeats 400000 in
theorem holding_any (w : World) (g n cap : Nat) (ss : List ByteArray) (hn : ss.length = n) (h : w.ownsRow 0 9 1 (.slice (some ⟨g, 0, none⟩) n cap) n (strs ss)) (hpos : 0 < n) (hsz : n ≤ 16384) :
    Calls Try.prog 16 #[.slice (some ⟨g, 0, none⟩) n cap] w fun e w' => ∃ bd bn cn, e = .returned (.pointer (some ⟨bd, 0, none⟩)) ∧ w.heap.size ≤ bd ∧ w.heap.size ≤ bn ∧
      Disk w' bd g cap bn cn (.slice none 0 0) ss ss [] (-1) ∧ Below w.heap.size w w' := by
  go_enter Try.func16, Try.ntmps16
  go_wp2_with (go_at_call 20; refine (clone_any _ _ _ _ ss hn h hpos hsz).mono ?_; rintro e w1 ⟨g1, c1, rfl, hg1, ho1, hb1⟩)
  go_ret
  subst hn
  have hgl := (h.lt g rfl).2
  refine ⟨_, g1, c1, rfl, hb1.size, hg1, ⟨?_, ?_, ?_, World.ownsRow_nil _ _ _ _, by omega, hpos, hsz, by simp⟩, hb1.alloc hb1.size _⟩
  · exact heap_alloc_new w1 _
  · exact (ownsRow_same h (fun k e => by cases e; exact hb1.block _ hgl)).alloc _
  · exact (ownsRow_base ho1 (Nat.zero_le _)).alloc _

set_option maxHeartbeats 400000 in
theorem new_no (w : World) (b : Int) (h : b < 1 ∨ 16384 < b) :
    Calls Try.prog 5 #[.int .i64 b] w fun e w' => e = .returned (.tuple #[.pointer none, .int .i64 10]) ∧ w' = w := by
  rcases h with h | h
  · go_enter Try.func5, Try.ntmps5
    go_wp2
    go_ret2
    exact ⟨rfl, rfl⟩
  · have h' : ¬ b < 1 := by omega
    go_enter Try.func5, Try.ntmps5
    go_wp2
    go_ret2
    exact ⟨rfl, rfl⟩

def zeroN (n : Nat) : List Int := List.replicate n 0
def zeros : List Int := zeroN 256
def zeroS : ByteArray := mkStr zeros
theorem by_zero (w : World) (n : Nat) : By (w.alloc (.cells (fillTo 0 n 0) 5)) w.heap.size n (zeroN n) := by
  refine ⟨by simp [zeroN], _, _, heap_alloc_new w _, by simp [fillTo_size], fun j hj => ?_, fun i _ => by simp⟩
  rw [fillTo_get _ _ _ _ hj]
  simp [zeroN, hj]
theorem repTo_all (s : ByteArray) (m : Nat) : repTo s m m = strs (List.replicate m s) := by simp [repTo, strs]

set_option maxHeartbeats 400000 in
theorem new_yes (w : World) (n : Nat) (h0 : 1 ≤ n) (h1 : n ≤ 16384) :
    Calls Try.prog 5 #[.int .i64 (n : Int)] w fun e w' => ∃ bd bf bn cn, e = .returned (.tuple #[.pointer (some ⟨bd, 0, none⟩), .int .i64 0]) ∧ w.heap.size ≤ bd ∧ w.heap.size ≤ bn ∧ w.heap.size ≤ bf ∧
      Disk w' bd bf n bn cn (.slice none 0 0) (List.replicate n zeroS) (List.replicate n zeroS) [] (-1) ∧ Below w.heap.size w w' := by
  have hmk := mk_bytes 0 256 (by omega)
  rw [show ((256 : Nat) : Int) = 256 from rfl] at hmk
  have hby := by_zero w 256
  have hcv := hby.conv 256
  rw [show mkStr (zeroN 256) = zeroS from rfl] at hcv
  clear hby
  go_enter Try.func5, Try.ntmps5
  go_wp2_with fail
  refine (repeat_any _ (w.heap.size + 1) n zeroS ?_ (by omega) h1).mono ?_
  · have := heap_alloc_new (w.alloc (.cells (fillTo 0 256 0) 5)) (.cells #[.string zeroS] 9)
    simpa using this
  rintro e w1 ⟨g, rfl, hg, hh, hB⟩
  simp only [World.size_alloc] at hg hB
  rw [repTo_all] at hh
  have hown : w1.ownsRow 0 9 1 (.slice (some ⟨g, 0, none⟩) n n) n (strs (List.replicate n zeroS)) :=
    ownsRow_of_block (by simp [strs]) (Nat.zero_le _) hh (Nat.le_refl _) (by unfold maxLen; omega) (by simp [strs]) (by simp [strs])
  have HB : Below w.heap.size w w1 := (((Below.refl w.heap.size w).alloc (Nat.le_refl _) (.cells (fillTo 0 256 0) 5)).alloc (by simp) (.cells #[.string zeroS] 9)).trans (hB.mono (by omega))
  have Hh : Hid _ := hh
  clear hh hB hcv
  go_wp2_with fail
  refine (holding_any _ g n n (List.replicate n zeroS) (by simp) hown (by omega) h1).mono ?_
  rintro e w2 ⟨bd, bn, cn, rfl, hbd, hbn, hD, hB2⟩
  clear hown
  go_wp2
  go_ret2
  have := HB.size
  exact ⟨bd, g, bn, cn, rfl, by omega, by omega, by omega, hD, HB.trans (hB2.mono HB.size)⟩
end Go.Proofs.Ytbhopjnolgfpnaa
