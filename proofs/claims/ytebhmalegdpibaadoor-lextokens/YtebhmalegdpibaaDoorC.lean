/- A run of bytes of one sort, by runes. -/
import Derived.Test.YtebhmalegdpibaaDoorB
import Derived.Lib.OthersKept
import Derived.Lib.TrimU
import Derived.Shelf.Abstract
namespace Go.Proofs.YtebhmalegdpibaaDoor
open Go.RowKit Go.Deep
set_option linter.unusedVariables false
set_option linter.unusedSimpArgs false

theorem runF_all (p : UInt8 → Bool) : ∀ (n : Nat) (l : Bs), n ≤ l.length → (∀ k c, k < n → l[k]? = some c → p c = true) → runF p l = n + runF p (l.drop n)
  | 0, l, _, _ => by simp
  | n + 1, [], h, _ => by simp at h
  | n + 1, c :: t, h, hc => by
    have h0 := hc 0 c (by omega) rfl
    have := runF_all p n t (by simpa using h) (fun k d hk e => hc (k + 1) d (by omega) e)
    simp only [runF, h0, if_true, this, List.drop_succ_cons]
    omega
theorem runF_le (p : UInt8 → Bool) : ∀ l, runF p l ≤ l.length
  | [] => Nat.le_refl _
  | c :: t => by
    have := runF_le p t
    simp only [runF]
    split <;> simp <;> omega
theorem Rune.lt {l : Bs} {pos r wd : Nat} (R : Rune l pos r wd) : pos < l.length := by have := R.one; have := R.fit; omega
theorem Rune.at {l : Bs} {pos r wd : Nat} (R : Rune l pos r wd) : ∃ c, l[pos]? = some c ∧ l.drop pos = c :: l.drop (pos + 1) :=
  ⟨l[pos]'R.lt, List.getElem?_eq_getElem R.lt, List.drop_eq_getElem_cons R.lt⟩
theorem runF_step {l : Bs} {pos r wd : Nat} (R : Rune l pos r wd) (q : Int → Bool) (hh : ∀ a b : Int, 128 ≤ a → 128 ≤ b → q a = q b) :
    (q r = true → runF (fun c => q c.toNat) (l.drop pos) = wd + runF (fun c => q c.toNat) (l.drop (pos + wd))) ∧ (q r = false → runF (fun c => q c.toNat) (l.drop pos) = 0) := by
  obtain ⟨c, e, hd⟩ := R.at
  have hqc : q r = q c.toNat := by
    by_cases hc : c.toNat < 128
    · rw [(R.low c e hc).1]
    · exact hh _ _ (by have := R.high c e (by omega); omega) (by omega)
  constructor
  · intro h
    have hall := runF_all (fun c => q c.toNat) wd (l.drop pos) (by rw [List.length_drop]; have := R.fit; omega) (fun k d hk ek => by
      rw [List.getElem?_drop] at ek
      show q d.toNat = true
      by_cases hc : c.toNat < 128
      · have := (R.low c e hc).2
        have hk0 : k = 0 := by omega
        subst hk0
        rw [Nat.add_zero, e] at ek; cases ek
        rw [← hqc]; exact h
      · have := R.all c e (by omega) k d hk ek
        rw [hh _ (c.toNat : Int) (by omega) (by omega), ← hqc]; exact h)
    rw [hall, List.drop_drop]
  · intro h
    rw [hd]
    have : q c.toNat = false := by rw [← hqc]; exact h
    simp [runF, this]

set_option maxRecDepth 100000 in
theorem run_any (s : ByteArray) (g : Nat) (lb : Array Value) (q : Int → Bool) (hs : s.size ≤ 9223372036854775807) (hh : ∀ a b : Int, 128 ≤ a → 128 ≤ b → q a = q b) (eg : ∀ args w, (callFunc g args).run Tryd.prog w = .ok (.enter g args) w)
    (hg : ∀ (r : Int) (w : World), Calls Tryd.prog g (#[.int .i32 r] ++ lb) w fun e w' => e = .returned (.bool (q r)) ∧ w' = w) (w : World) :
    Calls Tryd.prog 32 #[.string s, .func (.func g) #[] lb] w fun e w' => e = .returned (.int .i64 (runF (fun c => q c.toNat) s.data.toList : Nat)) ∧ Below w.heap.size w w' := by
  go_enter Tryd.func32, Tryd.ntmps32
  go_wp2
  go_loopg [] s.size (fun gf wx => ∃ pos : Nat, wx.heap[w.heap.size]? = some (.stringIter s pos) ∧ Below w.heap.size w wx ∧ pos + runF (fun c => q c.toNat) (s.data.toList.drop pos) = runF (fun c => q c.toNat) s.data.toList ∧ s.size ≤ pos + gf ∧ pos ≤ s.size)
  case atStart => exact ⟨0, World.iter_heap w s 0, (Below.refl _ w).alloc (Nat.le_refl _) _, by simp, by omega, by omega⟩
  case round =>
    obtain ⟨pos, hit, hbw, hleft, hfu, hle⟩ := hrel
    by_cases hps : pos < s.size
    · obtain ⟨g', rfl⟩ : ∃ g', gk = g' + 1 := ⟨gk - 1, by omega⟩
      have hnx : ∀ ty, (Instr.next (.pointer (some ⟨w.heap.size, 0, none⟩)) true ty).run Tryd.prog wr = _ := fun ty => Lib.run_next_any_at wr w.heap.size s pos ty hit hps
      have hR := rune_at s pos hps
      obtain ⟨R, hRe⟩ : ∃ R, (Utf8.decode s pos).1 = R := ⟨_, rfl⟩
      obtain ⟨K, hK⟩ : ∃ K, (Utf8.decode s pos).2 = K := ⟨_, rfl⟩
      rw [hRe, hK] at hnx hR
      have hit2 := Lib.iterAt_heap wr w.heap.size s pos (pos + K) hit
      have hbw2 := Lib.below_iterAt hbw (k := w.heap.size) (Nat.le_refl _) s (pos + K)
      obtain ⟨W, hWd⟩ : ∃ W, wr.iterAt w.heap.size s (pos + K) = W := ⟨_, rfl⟩
      rw [hWd] at hnx hit2 hbw2
      have hst := runF_step hR q hh
      have h1 := hR.one
      have h2 := hR.fit
      rw [← Lib.size_eq] at h2
      have cS := hg R W
      cases hsp : q R <;> rw [hsp] at cS
      · have h3 := hst.2 hsp
        have HX := hid hleft
        clear hg hR hst hleft
        go_wp2_with (go_at_fn g; refine cS.mono ?_; rintro e W' ⟨rfl, rfl⟩)
        go_ret
        refine ⟨?_, hbw2⟩
        rw [← HX.out, h3]; rfl
      · have h3 := hst.1 hsp
        have HX := hid hleft
        have H3 := hid h3
        clear hg hR hst hleft h3
        go_wp2_with (go_at_fn g; refine cS.mono ?_; rintro e W' ⟨rfl, rfl⟩)
        go_roundg g'
        case measure => omega
        case rel => exact ⟨pos + K, hit2, hbw2, by have := HX.out; have := H3.out; omega, by omega, by omega⟩
    · have hnx : ∀ ty, (Instr.next (.pointer (some ⟨w.heap.size, 0, none⟩)) true ty).run Tryd.prog wr = _ := fun ty => Lib.run_next_end_at wr w.heap.size s pos ty hit hps
      have HX := hid hleft
      have : pos = s.size := by omega
      have hn : s.data.toList.drop pos = [] := List.drop_eq_nil_of_le (by rw [← Lib.size_eq]; omega)
      have HN := hid hn
      have HP := hid this
      clear hg hleft hn this
      go_wp2
      go_ret
      refine ⟨?_, hbw⟩
      rw [← HX.out, HN.out, HP.out]; simp [runF]
end Go.Proofs.YtebhmalegdpibaaDoor
