/- tree.handOn, of a tree; tree.parts, and what a range over it hands on. -/
import Derived.Test.YtdfambocenohgaaGreatDoorJAA
import Derived.Lib.OthersKept
import Derived.Lib.TrimU
import Derived.Shelf.Abstract
import Derived.Shelf.Strings.Builder1
import Derived.Shelf.Strings.Builder2
import Derived.Shelf.Strings.Trim
import Derived.Shelf.Small.Utf8
import Derived.Shelf.Small.Strs
import Derived.Shelf.Strings.BuilderF
import Derived.Shelf.Strings.BuilderK
import Derived.Shelf.LaysM
import Derived.Shelf.Strconv.Clone
import Derived.Shelf.Strings.Search1
import Derived.Shelf.Strings.Search2
import Derived.Shelf.Strings.Search3
import Derived.Shelf.Strings.Count
import Derived.Shelf.Strings.Shaped
import Derived.Shelf.Strings.Prefix
import Derived.Shelf.Strings.Split
import Derived.Shelf.Strings.Replace
import Derived.Shelf.Strings.SplitShaped
import Derived.Shelf.Strings.Runes
import Derived.Shelf.Strings.AsciiSet
import Derived.Shelf.Unicode.DecodeSlow
import Derived.Shelf.Unicode.DecodeAny
import Derived.Shelf.Slices.Turned
import Derived.Test.YtdfambocenohgaaGreatDoorProg
import Derived.Deep.RegionHeld3
namespace Go.Proofs.YtdfambocenohgaaGreatDoor
open Go.RowKit Go.Deep
set_option linter.unusedVariables false
set_option linter.unusedSimpArgs false
attribute [local go_sem] as58_58 as105_58 as101_58 as67_58 as58_105 as105_105 as101_105 as67_105 as58_101 as105_101 as101_101 as67_101 as58_67 as105_67 as101_67 as67_67
attribute [local go_sem] Oper.semAt_some

set_option maxRecDepth 100000 in
set_option maxHeartbeats 1000000 in
theorem handT (k : Nat) (w0 : World) (l N : Nat) (lab : Fin N → Value) (J Jx : List (Fin N) → World → Prop) (B : Nat) (hy : Hy w0 l N lab J Jx B) (t : TT k) (i : Nat) (W : World) (hr : TRds k w0 t) (hs : Seg N lab i (ptT t)) (hW : Below w0.heap.size w0 W) (hJ : J ((List.finRange N).take i) W) :
    CallsIn Fence.wide 0 Tryz.prog 62 #[labP (.inl (.inl t.h)), .func (.yield l) #[] #[]] W (HoP w0 N J Jx i (ptT t).length) := by
  have ih := handDs_of k (handD_of k (handSs_of k (hands_all k)))
  obtain ⟨h, rs, ms, fs, es⟩ := t
  obtain ⟨hn, hlb⟩ := Seg.head hs
  obtain ⟨fn', tmps, assign, body, hyr, hRd⟩ := hy.y i hn W hJ
  rw [hlb] at hyr
  obtain ⟨dh, d1, d2, d3, d4⟩ := hr
  simp only at dh d1 d2 d3 d4
  have hRd' : RoundIn Fence.wide 0 Tryz.prog l fn' tmps assign body W (fun e W' => ∃ b : Bool, e = .returned (.bool b) ∧ ((b = true → J ((List.finRange N).take (i + 1)) W' ∧ Below w0.heap.size W W') ∧ (b = false → Jx ((List.finRange N).take (i + 1)) W'))) := by
    refine hRd.mono ?_
    rintro e W' (⟨rfl, h1, h2⟩ | ⟨rfl, h1⟩)
    · exact ⟨true, rfl, ⟨fun _ => ⟨h1, h2⟩, fun h => (by cases h)⟩⟩
    · exact ⟨false, rfl, ⟨fun h => (by cases h), fun _ => h1⟩⟩
  have HRd := hid hRd'
  have HW := hid hW
  have hs1 : Seg N lab (i + 1) (rs.flatMap ptD ++ (ms.flatMap ptD ++ (fs.flatMap ptD ++ es.flatMap ptD))) := hs.tail
  have KA := hid (fun (W1 : World) (hb1 : Below w0.heap.size w0 W1) (hj1 : J ((List.finRange N).take (i + 1)) W1) => ih w0 l N lab J Jx B hy wRec h.ra h.rn h.rc rs (i + 1) W1 dh.rb d1 hs1.left hb1 hj1)
  have KB := hid (fun (W1 : World) (hb1 : Below w0.heap.size w0 W1) (hj1 : J ((List.finRange N).take (i + 1 + (rs.flatMap ptD).length)) W1) => ih w0 l N lab J Jx B hy wMap h.ma h.mn h.mc ms _ W1 dh.mb d2 hs1.right.left hb1 hj1)
  have KC := hid (fun (W1 : World) (hb1 : Below w0.heap.size w0 W1) (hj1 : J ((List.finRange N).take (i + 1 + (rs.flatMap ptD).length + (ms.flatMap ptD).length)) W1) => ih w0 l N lab J Jx B hy wFn h.fa h.fn h.fc fs _ W1 dh.fb d3 hs1.right.right.left hb1 hj1)
  have KE := hid (fun (W1 : World) (hb1 : Below w0.heap.size w0 W1) (hj1 : J ((List.finRange N).take (i + 1 + (rs.flatMap ptD).length + (ms.flatMap ptD).length + (fs.flatMap ptD).length)) W1) => ih w0 l N lab J Jx B hy wOn h.ea h.en h.ec es _ W1 dh.eb d4 hs1.right.right.right hb1 hj1)
  simp only [wRec, wMap, wFn, wOn] at KA KB KC KE
  have HD := hid (fun (W1 : World) (hb1 : Below w0.heap.size w0 W1) => dh.below (Nat.le_refl _) hb1)
  have HN := hid hn
  clear hRd hRd' hs hs1 hJ hlb dh d1 d2 d3 d4 hW ih
  refine callsIn_of_wp Tryz.func62 rfl trivial ?_ rfl
  simp only [Tryz.ntmps62, List.size_toArray, List.length_cons, List.length_nil, Nat.reduceAdd, Nat.reduceSub, Array.replicate_succ, Array.replicate_zero, List.push_toArray, List.append_toArray, List.nil_append, List.cons_append]
  simp only [labP] at hyr ⊢
  gi_wp2
  refine ⟨rfl, (Hid.out HRd).mono ?_⟩
  rintro e W3 ⟨bb, rfl, hor⟩
  cases bb with
  | true =>
    obtain ⟨hj1, hb1⟩ := hor.1 rfl
    have hb3 := HW.out.trans hb1
    have KA3 := hid (Hid.out KA W3 hb3 hj1)
    have e0 := (Hid.out HD W3 hb3).c0
    have e1 := (Hid.out HD W3 hb3).c1
    have e2 := (Hid.out HD W3 hb3).c2
    have e3 := (Hid.out HD W3 hb3).c3
    have HZ := hid (show i + ((rs.flatMap ptD ++ (ms.flatMap ptD ++ (fs.flatMap ptD ++ es.flatMap ptD))).length + 1) = i + 1 + (rs.flatMap ptD).length + (ms.flatMap ptD).length + (fs.flatMap ptD).length + (es.flatMap ptD).length by simp; omega)
    clear hor hj1 hb1
    gi_wp2_with (first
      | (refine ⟨trivial, rfl, ?_⟩; gi_at_call 89; have hno := KE4; refine (Hid.out KE4).mono ?_; rintro e w4 (⟨rfl, hj4, hb4⟩ | ⟨rfl, hx1⟩))
      | (refine ⟨trivial, rfl, ?_⟩; gi_at_call 89; have hno := KC3; refine (Hid.out KC3).mono ?_; rintro e w3 (⟨rfl, hj3, hb3⟩ | ⟨rfl, hx1⟩); all_goals (try (have KE4 := hid (Hid.out KE w3 hb3 hj3); have d6 := (Hid.out HD w3 hb3).c3; have HB3 := hid hb3; clear hj3 hb3 d5)))
      | (refine ⟨trivial, rfl, ?_⟩; gi_at_call 89; have hno := KB3; refine (Hid.out KB3).mono ?_; rintro e w2 (⟨rfl, hj2, hb2⟩ | ⟨rfl, hx1⟩); all_goals (try (have KC3 := hid (Hid.out KC w2 hb2 hj2); have d5 := (Hid.out HD w2 hb2).c2; have HB2 := hid hb2; clear hj2 hb2 d4)))
      | (refine ⟨trivial, rfl, ?_⟩; gi_at_call 89; refine (Hid.out KA3).mono ?_; rintro e w1 (⟨rfl, hj1, hb1⟩ | ⟨rfl, hx1⟩); all_goals (try (have KB3 := hid (Hid.out KB w1 hb1 hj1); have d4 := (Hid.out HD w1 hb1).c1; have HB1 := hid hb1; clear e0 e1 e2 e3 hj1 hb1))))
    all_goals (try (refine ⟨trivial, ?_⟩; gi_wp2))
    all_goals (try (refine ⟨trivial, ?_⟩; gi_wp2))
    all_goals (try (refine ⟨trivial, ?_⟩; gi_wp2))
    all_goals go_ret
    all_goals first
      | exact .inr ⟨rfl, hx1⟩
      | (refine .inl ⟨rfl, ?_, hb4⟩; show J ((List.finRange N).take (i + ((rs.flatMap ptD ++ (ms.flatMap ptD ++ (fs.flatMap ptD ++ es.flatMap ptD))).length + 1))) _; rw [HZ.out]; exact hj4)
  | false =>
    have hx1 := hor.2 rfl
    gi_wp2
    go_ret
    exact .inr ⟨rfl, i + 1, HN.out, hx1⟩

/- A whole: a tree, or an expression. -/
structure Whole (w0 : World) (root : Part) (ps : List Part) : Prop where
  rd : ∀ p ∈ ps, PRds w0 p
  hand : ∀ (l : Nat) (lab : Fin ps.length → Value) (J Jx : List (Fin ps.length) → World → Prop) (B : Nat) (hy : Hy w0 l ps.length lab J Jx B) (W : World), Seg ps.length lab 0 ps → Below w0.heap.size w0 W → J [] W →
    CallsIn Fence.wide 0 Tryz.prog 62 #[labP root, .func (.yield l) #[] #[]] W (HoP w0 ps.length J Jx 0 ps.length)
theorem whole_tree {k : Nat} {w : World} {t : TT k} (h : TRds k w t) : Whole w (.inl (.inl t.h)) (ptT t) := ⟨ptT_rd h, fun l lab J Jx B hy W hs hW hJ => handT k w l _ lab J Jx B hy t 0 W h hs hW hJ⟩
theorem whole_expr {k : Nat} {w : World} {t : ET k} (h : ERd k w t) : Whole w (.inr (.inr (eH k t))) (ptE k t) := ⟨ptE_rd k h, fun l lab J Jx B hy W hs hW hJ => hand_all k w l _ lab J Jx B hy t 0 W h hs hW hJ⟩
def encP (ps : List Part) (x : Fin ps.length) : Array Value := #[labP ps[x]]
theorem roundIn_wide {n m : Nat} {P : Program} {l f : Nat} {tmps : Array Value} {assign body : Code} {w : World} {R : Ending → World → Prop} (h : RoundIn Fence.wide n P l f tmps assign body w R) : RoundIn Fence.wide m P l f tmps assign body w R := ⟨h.1, fun c cs _ => h.2 c cs (room_wide _)⟩
theorem callsIn_n {n m : Nat} {P : Program} {f : Nat} {args : Array Value} {w : World} {R : Ending → World → Prop} (h : CallsIn Fence.wide n P f args w R) : CallsIn Fence.wide m P f args w R := callsIn_wide.2 (callsIn_wide.1 h)
theorem take_snoc (N i : Nat) (h : i < N) : (List.finRange N).take i ++ [⟨i, h⟩] = (List.finRange N).take (i + 1) := by
  rw [List.take_add_one, List.getElem?_eq_getElem (by simpa using h)]
  simp
set_option maxRecDepth 100000 in
theorem parts_stops {w0 : World} {root : Part} {ps : List Part} (h : Whole w0 root ps) (n Bx : Nat) (w : World) (hb : Below w0.heap.size w0 w) (hBx : w.heap[Bx]? = some (.cells #[labP root] 20 (0, 0))) :
    SeqStopsK Fence.wide n Tryz.prog 61 #[.pointer (some ⟨Bx, 0, none⟩)] (encP ps) (Below w0.heap.size) (fun ys => ys = List.finRange ps.length) (fun pre => ∃ i, i ≤ ps.length ∧ pre = (List.finRange ps.length).take i) ps.length w := by
  intro l J Jx W hW hJa _ hY h0
  have K := hid (h.hand l (fun x => labP ps[x]) J Jx W.heap.size ⟨fun i hi W1 hj => by
      obtain ⟨fn, tmps, assign, body, hy, hr⟩ := hY ((List.finRange ps.length).take i) ⟨i, hi⟩ W1 hj (by simp; omega)
      refine ⟨fn, tmps, assign, body, hy, roundIn_wide (hr.mono ?_)⟩
      rw [take_snoc]
      exact fun e w' h => h, hJa⟩ W (fun j p e => by
        obtain ⟨h1, h2⟩ := List.getElem?_eq_some_iff.1 e
        exact ⟨by omega, by simp [h2]⟩) (hb.trans (hW.mono hb.size)) h0)
  have c0 := cellT ((hW.block Bx (Array.getElem?_eq_some_iff.1 hBx).1).trans hBx) 0
  simp only [List.getElem?_toArray, List.getElem?_cons_zero] at c0
  clear hY hBx
  refine callsIn_n (n := 0) ?_
  refine callsIn_of_wp Tryz.func61 rfl trivial ?_ rfl
  simp only [Tryz.ntmps61, List.size_toArray, List.length_cons, List.length_nil, Nat.reduceAdd, Nat.reduceSub, Array.replicate_succ, Array.replicate_zero, List.push_toArray, List.append_toArray, List.nil_append, List.cons_append]
  gi_wp2_with (refine ⟨trivial, rfl, ?_⟩; gi_at_call 62; refine (Hid.out K).mono ?_; rintro e w1 (⟨rfl, hj1, hb1⟩ | ⟨rfl, i', hi', hx1⟩))
  · go_end0
    refine ⟨⟨_, rfl⟩, .inl ⟨_, rfl, ?_⟩⟩
    rw [Nat.zero_add, List.take_of_length_le (by simp)] at hj1
    exact hj1
  · go_end0
    exact ⟨⟨_, rfl⟩, .inr ⟨_, ⟨i', hi', rfl⟩, hx1⟩⟩
set_option maxRecDepth 100000 in
theorem parts_in (F : Fence) (n : Nat) (h38 : F.fn 38) (hro : F.round = none) (p : Part) (w : World) :
    CallsIn F n Tryz.prog 38 #[labP p] w fun e w' => e = .returned (.func (.func 61) #[] #[.pointer (some ⟨w.heap.size, 0, none⟩)]) ∧ w' = w.alloc (.cells #[labP p] 20) := by
  refine callsIn_of_wp Tryz.func38 rfl h38 ?_ hro
  simp only [Tryz.ntmps38, List.size_toArray, List.length_cons, List.length_nil, Nat.reduceAdd, Nat.reduceSub, Array.replicate_succ, Array.replicate_zero, List.push_toArray, List.append_toArray, List.nil_append, List.cons_append]
  rcases p with (h | h) | (h | h) <;> simp only [labP]
  all_goals
    gi_wp2
    go_ret
    exact ⟨rfl, rfl⟩
end Go.Proofs.YtdfambocenohgaaGreatDoor

namespace Go.Proofs.YtdfambocenohgaaGreatDoor
set_option maxRecDepth 100000
open Go.RowKit Go.Deep
set_option linter.unusedVariables false
set_option linter.unusedSimpArgs false

theorem runF_all (p : UInt8 → Bool) : ∀ (n : Nat) (l : Bs), n ≤ l.length → (∀ k c, k < n → l[k]? = some c → p c = true) → runF p l = n + runF p (l.drop n)
  | 0, l, _, _ => by simp
  | n + 1, [], h, _ => by simp at h
  | n + 1, c :: t, h, hc => by
    have h0 := hc 0 c (by omega) rfl
    have := runF_all p n t (by simpa using h) (fun k d hk e => hc (k + 1) d (by omega) e)
    simp only [runF, h0, if_true, this, List.drop_succ_cons]
    omega
theorem runF_le (p : UInt8 → Bool) : ∀ l, runF p l ≤ l.length
  | [] => Nat.le_refl _
  | c :: t => by
    have := runF_le p t
    simp only [runF]
    split <;> simp <;> omega
theorem Rune.lt {l : Bs} {pos r wd : Nat} (R : Rune l pos r wd) : pos < l.length := by have := R.one; have := R.fit; omega
theorem Rune.at {l : Bs} {pos r wd : Nat} (R : Rune l pos r wd) : ∃ c, l[pos]? = some c ∧ l.drop pos = c :: l.drop (pos + 1) :=
  ⟨l[pos]'R.lt, List.getElem?_eq_getElem R.lt, List.drop_eq_getElem_cons R.lt⟩
theorem runF_step {l : Bs} {pos r wd : Nat} (R : Rune l pos r wd) (q : Int → Bool) (hh : ∀ a b : Int, 128 ≤ a → 128 ≤ b → q a = q b) :
    (q r = true → runF (fun c => q c.toNat) (l.drop pos) = wd + runF (fun c => q c.toNat) (l.drop (pos + wd))) ∧ (q r = false → runF (fun c => q c.toNat) (l.drop pos) = 0) := by
  obtain ⟨c, e, hd⟩ := R.at
  have hqc : q r = q c.toNat := by
    by_cases hc : c.toNat < 128
    · rw [(R.low c e hc).1]
    · exact hh _ _ (by have := R.high c e (by omega); omega) (by omega)
  constructor
  · intro h
    have hall := runF_all (fun c => q c.toNat) wd (l.drop pos) (by rw [List.length_drop]; have := R.fit; omega) (fun k d hk ek => by
      rw [List.getElem?_drop] at ek
      show q d.toNat = true
      by_cases hc : c.toNat < 128
      · have := (R.low c e hc).2
        have hk0 : k = 0 := by omega
        subst hk0
        rw [Nat.add_zero, e] at ek; cases ek
        rw [← hqc]; exact h
      · have := R.all c e (by omega) k d hk ek
        rw [hh _ (c.toNat : Int) (by omega) (by omega), ← hqc]; exact h)
    rw [hall, List.drop_drop]
  · intro h
    rw [hd]
    have : q c.toNat = false := by rw [← hqc]; exact h
    simp [runF, this]

set_option maxRecDepth 100000 in
theorem run_any (s : ByteArray) (g : Nat) (lb : Array Value) (q : Int → Bool) (hs : s.size ≤ 9223372036854775807) (hh : ∀ a b : Int, 128 ≤ a → 128 ≤ b → q a = q b) (eg : ∀ args w, (callFunc g args).run Tryz.prog w = .ok (.enter g args) w)
    (hg : ∀ (r : Int) (w : World), Calls Tryz.prog g (#[.int .i32 r] ++ lb) w fun e w' => e = .returned (.bool (q r)) ∧ w' = w) (w : World) :
    Calls Tryz.prog 160 #[.string s, .func (.func g) #[] lb] w fun e w' => e = .returned (.int .i64 (runF (fun c => q c.toNat) s.data.toList : Nat)) ∧ Below w.heap.size w w' := by
  go_enter Tryz.func160, Tryz.ntmps160
  go_wp2
  go_loopg [] s.size (fun gf wx => ∃ pos : Nat, wx.heap[w.heap.size]? = some (.stringIter s pos) ∧ Below w.heap.size w wx ∧ pos + runF (fun c => q c.toNat) (s.data.toList.drop pos) = runF (fun c => q c.toNat) s.data.toList ∧ s.size ≤ pos + gf ∧ pos ≤ s.size)
  case atStart => exact ⟨0, World.iter_heap w s 0, (Below.refl _ w).alloc (Nat.le_refl _) _, by simp, by omega, by omega⟩
  case round =>
    obtain ⟨pos, hit, hbw, hleft, hfu, hle⟩ := hrel
    by_cases hps : pos < s.size
    · obtain ⟨g', rfl⟩ : ∃ g', gk = g' + 1 := ⟨gk - 1, by omega⟩
      have hnx : ∀ ty, (Instr.next (.pointer (some ⟨w.heap.size, 0, none⟩)) true ty).run Tryz.prog wr = _ := fun ty => Lib.run_next_any_at wr w.heap.size s pos ty hit hps
      have hR := rune_at s pos hps
      obtain ⟨R, hRe⟩ : ∃ R, (Utf8.decode s pos).1 = R := ⟨_, rfl⟩
      obtain ⟨K, hK⟩ : ∃ K, (Utf8.decode s pos).2 = K := ⟨_, rfl⟩
      rw [hRe, hK] at hnx hR
      have hit2 := Lib.iterAt_heap wr w.heap.size s pos (pos + K) hit
      have hbw2 := Lib.below_iterAt hbw (k := w.heap.size) (Nat.le_refl _) s (pos + K)
      obtain ⟨W, hWd⟩ : ∃ W, wr.iterAt w.heap.size s (pos + K) = W := ⟨_, rfl⟩
      rw [hWd] at hnx hit2 hbw2
      have hst := runF_step hR q hh
      have h1 := hR.one
      have h2 := hR.fit
      rw [← Lib.size_eq] at h2
      have cS := hg R W
      cases hsp : q R <;> rw [hsp] at cS
      · have h3 := hst.2 hsp
        have HX := hid hleft
        clear hg hR hst hleft
        go_wp2_with (go_at_fn g; refine cS.mono ?_; rintro e W' ⟨rfl, rfl⟩)
        go_ret
        refine ⟨?_, hbw2⟩
        rw [← HX.out, h3]; rfl
      · have h3 := hst.1 hsp
        have HX := hid hleft
        have H3 := hid h3
        clear hg hR hst hleft h3
        go_wp2_with (go_at_fn g; refine cS.mono ?_; rintro e W' ⟨rfl, rfl⟩)
        go_roundg g'
        case measure => omega
        case rel => exact ⟨pos + K, hit2, hbw2, by have := HX.out; have := H3.out; omega, by omega, by omega⟩
    · have hnx : ∀ ty, (Instr.next (.pointer (some ⟨w.heap.size, 0, none⟩)) true ty).run Tryz.prog wr = _ := fun ty => Lib.run_next_end_at wr w.heap.size s pos ty hit hps
      have HX := hid hleft
      have : pos = s.size := by omega
      have hn : s.data.toList.drop pos = [] := List.drop_eq_nil_of_le (by rw [← Lib.size_eq]; omega)
      have HN := hid hn
      have HP := hid this
      clear hg hleft hn this
      go_wp2
      go_ret
      refine ⟨?_, hbw⟩
      rw [← HX.out, HN.out, HP.out]; simp [runF]
end Go.Proofs.YtdfambocenohgaaGreatDoor

namespace Go.Proofs.YtdfambocenohgaaGreatDoor
set_option maxRecDepth 100000
open Go.RowKit Go.Deep
set_option linter.unusedVariables false
set_option linter.unusedSimpArgs false

theorem eq10 (c : UInt8) : (!decide ((c.toNat : Int) = 10)) = !(c == 10) := by
  congr 1
  rw [Bool.eq_iff_iff]
  simp only [decide_eq_true_eq, beq_iff_eq]
  constructor
  · intro h
    exact UInt8.toNat_inj.1 (show c.toNat = 10 from by omega)
  · rintro rfl; rfl
theorem c34 (c : UInt8) : (c = 34) ↔ c.toNat = 34 := by
  constructor
  · rintro rfl; rfl
  · intro h
    exact UInt8.toNat_inj.1 (by simpa using h)
theorem enters33 : ∀ args w, (callFunc 161 args).run Tryz.prog w = .ok (.enter 161 args) w := enters_of Tryz.func161 (by kernel_rfl) rfl
theorem noteSize_any (s : ByteArray) (hs : s.size ≤ 9223372036854775807) (w : World) : Calls Tryz.prog 149 #[.string s] w fun e w' => e = .returned (.int .i64 (noteF s.data.toList : Nat)) ∧ Below w.heap.size w w' := by
  have h := run_any s 161 #[] (fun r => !decide (r = 10)) hs (fun a b ha hb => by simp; omega) enters33 (fun r w => notNl_any r w)
  have e : (fun c : UInt8 => !decide ((c.toNat : Int) = 10)) = fun c => !(c == 10) := funext eq10
  rw [e] at h
  go_enter Tryz.func149, Tryz.ntmps149
  go_wp2_with (go_at_call 160; refine (h _).mono ?_; rintro e w2 ⟨rfl, hb⟩)
  go_ret
  exact ⟨rfl, hb⟩

theorem textF_skip : ∀ (n : Nat) (l : Bs), n ≤ l.length → (∀ k c, k < n → l[k]? = some c → ¬ c = 34) → textF false l = (textF false (l.drop n)).map (· + n)
  | 0, l, _, _ => by simp
  | n + 1, [], h, _ => by simp at h
  | n + 1, c :: t, h, hc => by
    have h0 := hc 0 c (by omega) rfl
    have := textF_skip n t (by simpa using h) (fun k d hk e => hc (k + 1) d (by omega) e)
    simp only [textF, h0, if_false, this, List.drop_succ_cons, Bool.false_eq_true]
    cases textF false (t.drop n) <;> simp
    omega
theorem textF_step {l : Bs} {pos r wd : Nat} (R : Rune l pos r wd) (e : Bool) :
    (r = 34 → wd = 1 ∧ textF e (l.drop pos) = (textF (!e) (l.drop (pos + wd))).map (· + 1)) ∧ (¬ r = 34 → e = true → textF e (l.drop pos) = some 0) ∧
      (¬ r = 34 → e = false → textF e (l.drop pos) = (textF false (l.drop (pos + wd))).map (· + wd)) := by
  obtain ⟨c, ec, hd⟩ := R.at
  have hc : r = 34 ↔ c = 34 := by
    rw [c34]
    by_cases h : c.toNat < 128
    · rw [(R.low c ec h).1]
    · have := R.high c ec (by omega); constructor <;> intro <;> omega
  refine ⟨fun h => ?_, fun h1 h2 => ?_, fun h1 h2 => ?_⟩
  · have hw := (R.low c ec (by rw [hc.1 h]; decide)).2
    refine ⟨hw, ?_⟩
    rw [hd, hw]
    simp [textF, hc.1 h]
  · rw [hd]
    have h3 : ¬ c = 34 := fun h => h1 (hc.2 h)
    simp [textF, h3, h2]
  · subst h2
    rw [textF_skip wd (l.drop pos) (by rw [List.length_drop]; have := R.fit; omega) ?_, List.drop_drop]
    intro k d hk ek
    rw [List.getElem?_drop] at ek
    by_cases h : c.toNat < 128
    · have := (R.low c ec h).2
      have hk0 : k = 0 := by omega
      subst hk0
      rw [Nat.add_zero, ec] at ek; cases ek
      exact fun h => h1 (hc.2 h)
    · have := R.all c ec (by omega) k d hk ek
      rw [c34]; omega

def tsz (t : Bs) : Value := match textF false t with | some n => .tuple #[.int .i64 ((n : Int) + 1), .bool true] | none => .tuple #[.int .i64 ((t.length : Int) + 1), .bool false]
theorem extract_toList (s : ByteArray) (a b : Nat) : (s.extract a b).data.toList = (s.data.toList.take b).drop a := by
  rw [Lib.extract_data]; simp [List.drop_take]
theorem textSize_any (s : ByteArray) (hs : s.size ≤ 9223372036854775807) (h1 : 1 ≤ s.size) (w : World) : Calls Tryz.prog 167 #[.string s] w fun e w' => e = .returned (tsz (s.data.toList.drop 1)) ∧ Below w.heap.size w w' := by
  have hx : (s.extract 1 s.size).data.toList = s.data.toList.drop 1 := by rw [extract_toList, List.take_of_length_le (by rw [← Lib.size_eq]; omega)]
  have hxs : (s.extract 1 s.size).size = s.size - 1 := by rw [Lib.size_eq, hx, List.length_drop, ← Lib.size_eq]
  have hlen : (s.data.toList.drop 1).length = s.size - 1 := by rw [List.length_drop, ← Lib.size_eq]
  obtain ⟨T, hT⟩ : ∃ T, s.data.toList.drop 1 = T := ⟨_, rfl⟩
  rw [hT] at hx hlen ⊢
  have HT := hid hx
  have HL := hid hlen
  clear hx hT hlen
  have hz : (1 : Int) ≤ (s.size : Int) := by omega
  go_enter Tryz.func167, Tryz.ntmps167
  go_wp2
  obtain ⟨t, ht⟩ : ∃ t, s.extract 1 s.size = t := ⟨_, rfl⟩
  simp only [ht] at *
  go_loopg [4] t.size (fun gf e wx => ∃ (pos : Nat) (b : Bool), e = .bool b ∧ wx.heap[w.heap.size]? = some (.stringIter t pos) ∧ Below w.heap.size w wx ∧ (textF b (t.data.toList.drop pos)).map (· + pos) = textF false t.data.toList ∧ t.size ≤ pos + gf ∧ pos ≤ t.size)
  case atStart => exact ⟨0, false, rfl, World.iter_heap w t 0, (Below.refl _ w).alloc (Nat.le_refl _) _, by simp, by omega, by omega⟩
  case round =>
    obtain ⟨pos, b, rfl, hit, hbw, hleft, hfu, hle⟩ := hrel
    by_cases hps : pos < t.size
    · obtain ⟨g', rfl⟩ : ∃ g', gk = g' + 1 := ⟨gk - 1, by omega⟩
      have hnx : ∀ ty, (Instr.next (.pointer (some ⟨w.heap.size, 0, none⟩)) true ty).run Tryz.prog wr = _ := fun ty => Lib.run_next_any_at wr w.heap.size t pos ty hit hps
      have hR := rune_at t pos hps
      obtain ⟨R, hRe⟩ : ∃ R, (Utf8.decode t pos).1 = R := ⟨_, rfl⟩
      obtain ⟨K, hK⟩ : ∃ K, (Utf8.decode t pos).2 = K := ⟨_, rfl⟩
      rw [hRe, hK] at hnx hR
      have hit2 := Lib.iterAt_heap wr w.heap.size t pos (pos + K) hit
      have hbw2 := Lib.below_iterAt hbw (k := w.heap.size) (Nat.le_refl _) t (pos + K)
      obtain ⟨W, hWd⟩ : ∃ W, wr.iterAt w.heap.size t (pos + K) = W := ⟨_, rfl⟩
      rw [hWd] at hnx hit2 hbw2
      have hst := textF_step hR b
      have h1' := hR.one
      have h2 := hR.fit
      rw [← Lib.size_eq] at h2
      have HX := hid hleft
      have HS := hid hst
      clear hR hst hleft
      by_cases hr : R = 34
      · have hr' : (R : Int) = 34 := by omega
        have HR := hid hr
        clear hr
        go_wp2
        go_roundg g'
        case measure => omega
        case rel =>
          have h3 := HS.out.1 HR.out
          have h4 := HX.out
          rw [h3.2] at h4
          refine ⟨pos + K, !b, by simp, hit2, hbw2, ?_, by omega, by omega⟩
          rw [← h4, Option.map_map]
          congr 1
          funext x
          simp
          omega
      · have hr' : ¬ (R : Int) = 34 := by omega
        have HR := hid hr
        clear hr
        cases b
        · go_wp2
          go_roundg g'
          case measure => omega
          case rel =>
            have h3 := HS.out.2.2 HR.out (by trivial)
            have h4 := HX.out
            rw [h3] at h4
            refine ⟨pos + K, false, by simp, hit2, hbw2, ?_, by omega, by omega⟩
            rw [← h4, Option.map_map]
            congr 1
            funext x
            simp
            omega
        · go_wp2
          refine bodyPost_ret (v := .tuple #[.int .i64 ((pos : Int) + 1), .bool true]) (by simp [results, Tryz.results167, go_sem]; try omega) rfl ?_
          have h3 := HS.out.2.1 HR.out (by trivial)
          have h4 := HX.out
          rw [h3, HT.out] at h4
          refine ⟨?_, hbw2⟩
          unfold tsz
          rw [← h4]
          simp
    · have hnx : ∀ ty, (Instr.next (.pointer (some ⟨w.heap.size, 0, none⟩)) true ty).run Tryz.prog wr = _ := fun ty => Lib.run_next_end_at wr w.heap.size t pos ty hit hps
      have HX := hid hleft
      have : pos = t.size := by omega
      have hn : t.data.toList.drop pos = [] := List.drop_eq_nil_of_le (by rw [← Lib.size_eq]; omega)
      have HN := hid hn
      have HP := hid this
      clear hleft hn this
      go_wp2
      refine bodyPost_ret (v := .tuple #[.int .i64 (s.size : Int), .bool b]) (by simp [results, Tryz.results167, go_sem]; try omega) rfl ?_
      refine ⟨?_, hbw⟩
      have h4 := HX.out
      rw [HN.out, HT.out] at h4
      unfold tsz
      rw [← h4, HL.out]
      have := HP.out
      cases b <;> simp [textF] <;> omega
end Go.Proofs.YtdfambocenohgaaGreatDoor

namespace Go.Proofs.YtdfambocenohgaaGreatDoor
set_option maxRecDepth 100000
open Go.RowKit Go.Deep
set_option linter.unusedVariables false
set_option linter.unusedSimpArgs false

def wordsS : List ByteArray := wordsL.map fun l => ⟨l.toArray⟩
def wordsV : Array Value := (wordsS.map Value.string).toArray
theorem words_any (w : World) : Calls Tryz.prog 165 #[] w fun e w' => e = .returned (.slice (some ⟨w.heap.size, 0, none⟩) 29 29) ∧ w' = w.alloc (.cells wordsV 9) := by
  go_enter Tryz.func165, Tryz.ntmps165
  go_wp2
  go_ret
  exact ⟨rfl, rfl⟩
end Go.Proofs.YtdfambocenohgaaGreatDoor

namespace Go.Proofs
set_option maxRecDepth 100000
open Go.Shelf
def Tryz.lays161_ren : Go.Shelf.Ren := ⟨fun | 161 => 169 | 231 => 178 | 227 => 179 | 233 => 180 | 235 => 181 | 228 => 185 | 197 => 147 | 151 => 186 | 260 => 159 | 152 => 187 | 137 => 177 | 119 => 188 | 224 => 173 | 225 => 172 | 217 => 171 | 266 => 182 | n => n, fun | 9 => 9 | 4 => 4 | 3 => 3 | 5 => 5 | 117 => 209 | 116 => 208 | 0 => 0 | 124 => 212 | 105 => 183 | 21 => 21 | 119 => 200 | 46 => 180 | 139 => 203 | 138 => 202 | n => n, fun | 3 => 4 | 4 => 5 | n => n⟩
theorem Tryz.lays161 : Go.Proofs.Lays.n161 Tryz.prog Tryz.lays161_ren := {
  mixed := by kernel_rfl
  f119 := Tryz.func188.trans (congrArg some (by kernel_rfl))
  f137 := Tryz.func177.trans (congrArg some (by kernel_rfl))
  f151 := Tryz.func186.trans (congrArg some (by kernel_rfl))
  f152 := Tryz.func187.trans (congrArg some (by kernel_rfl))
  f161 := Tryz.func169.trans (congrArg some (by kernel_rfl))
  f197 := Tryz.func147.trans (congrArg some (by kernel_rfl))
  f217 := Tryz.func171.trans (congrArg some (by kernel_rfl))
  f224 := Tryz.func173.trans (congrArg some (by kernel_rfl))
  f225 := Tryz.func172.trans (congrArg some (by kernel_rfl))
  f227 := Tryz.func179.trans (congrArg some (by kernel_rfl))
  f228 := Tryz.func185.trans (congrArg some (by kernel_rfl))
  f231 := Tryz.func178.trans (congrArg some (by kernel_rfl))
  f233 := Tryz.func180.trans (congrArg some (by kernel_rfl))
  f235 := Tryz.func181.trans (congrArg some (by kernel_rfl))
  f260 := Tryz.func159.trans (congrArg some (by kernel_rfl))
  f266 := Tryz.func182.trans (congrArg some (by kernel_rfl))
  t0 := Tryz.underlying0
  a0 := Tryz.isAgg0
  z0 := Tryz.sizeOf0
  v0 := Tryz.zeroValue0
  t3 := Tryz.underlying3
  a3 := Tryz.isAgg3
  z3 := Tryz.sizeOf3
  v3 := Tryz.zeroValue3
  t4 := Tryz.underlying4
  a4 := Tryz.isAgg4
  z4 := Tryz.sizeOf4
  v4 := Tryz.zeroValue4
  t5 := Tryz.underlying5
  a5 := Tryz.isAgg5
  z5 := Tryz.sizeOf5
  v5 := Tryz.zeroValue5
  t9 := Tryz.underlying9
  a9 := Tryz.isAgg9
  z9 := Tryz.sizeOf9
  v9 := Tryz.zeroValue9
  t21 := Tryz.underlying21
  a21 := Tryz.isAgg21
  z21 := Tryz.sizeOf21
  v21 := Tryz.zeroValue21
  t46 := Tryz.underlying180
  a46 := Tryz.isAgg180
  z46 := Tryz.sizeOf180
  v46 := Tryz.zeroValue180
  t105 := Tryz.underlying183
  a105 := Tryz.isAgg183
  z105 := Tryz.sizeOf183
  v105 := Tryz.zeroValue183
  t116 := Tryz.underlying208
  a116 := Tryz.isAgg208
  z116 := Tryz.sizeOf208
  t117 := Tryz.underlying209
  a117 := Tryz.isAgg209
  z117 := Tryz.sizeOf209
  v117 := Tryz.zeroValue209
  t119 := Tryz.underlying200
  a119 := Tryz.isAgg200
  z119 := Tryz.sizeOf200
  t124 := Tryz.underlying212
  a124 := Tryz.isAgg212
  z124 := Tryz.sizeOf212
  v124 := Tryz.zeroValue212
  t138 := Tryz.underlying202
  a138 := Tryz.isAgg202
  z138 := Tryz.sizeOf202
  v138 := Tryz.zeroValue202
  t139 := Tryz.underlying203
  a139 := Tryz.isAgg203
  z139 := Tryz.sizeOf203
  v139 := Tryz.zeroValue203
  g3 := by kernel_rfl
  g4 := by kernel_rfl }
open Go.RowKit in
theorem Tryz.strings_TrimLeft_one (s : ByteArray) (c : UInt8) (hc : c.toNat < 128) (w : World) :
    Calls Tryz.prog 169 #[.string s, .string ⟨#[c]⟩] w fun e w' => e = .returned (.string ⟨(Lib.trimLeftB s.data.toList c).toArray⟩) ∧ w' = w := Any.strings_TrimLeft_one Tryz.lays161 s c hc w
def Tryz.lays137_ren : Go.Shelf.Ren := ⟨fun | 137 => 177 | 217 => 171 | 266 => 182 | n => n, fun | 9 => 9 | 5 => 5 | 3 => 3 | n => n, fun | n => n⟩
theorem Tryz.lays137 : Go.Proofs.Lays.n137 Tryz.prog Tryz.lays137_ren := {
  mixed := by kernel_rfl
  f137 := Tryz.func177.trans (congrArg some (by kernel_rfl))
  f217 := Tryz.func171.trans (congrArg some (by kernel_rfl))
  f266 := Tryz.func182.trans (congrArg some (by kernel_rfl))
  t3 := Tryz.underlying3
  a3 := Tryz.isAgg3
  z3 := Tryz.sizeOf3
  v3 := Tryz.zeroValue3
  t5 := Tryz.underlying5
  a5 := Tryz.isAgg5
  z5 := Tryz.sizeOf5
  v5 := Tryz.zeroValue5
  t9 := Tryz.underlying9
  a9 := Tryz.isAgg9
  z9 := Tryz.sizeOf9
  v9 := Tryz.zeroValue9 }
open Go.RowKit in
theorem Tryz.strings_IndexByte (s : ByteArray) (c : Int) (w : World) :
    Calls Tryz.prog 177 #[.string s, .int .u8 c] w fun e w' => e = .returned (.int .i64 (Lib.indexByte s.data.toList c.toNat.toUInt8)) ∧ w' = w := Any.strings_IndexByte Tryz.lays137 s c w
def Tryz.laysM316_ren : Go.Shelf.Ren := ⟨fun | 316 => 119 | n => n, fun | 9 => 9 | 3 => 3 | 4 => 4 | 37 => 44 | 0 => 0 | 127 => 86 | 5 => 5 | n => n, fun | n => n⟩
theorem Tryz.laysM316 : Go.Proofs.LaysM.n316 Tryz.prog Tryz.laysM316_ren := {
  mixed := by kernel_rfl
  f316 := Tryz.func119.trans (congrArg some (by kernel_rfl))
  t0 := Tryz.underlying0
  a0 := Tryz.isAgg0
  z0 := Tryz.sizeOf0
  v0 := Tryz.zeroValue0
  t3 := Tryz.underlying3
  a3 := Tryz.isAgg3
  z3 := Tryz.sizeOf3
  v3 := Tryz.zeroValue3
  t4 := Tryz.underlying4
  a4 := Tryz.isAgg4
  z4 := Tryz.sizeOf4
  v4 := Tryz.zeroValue4
  t9 := Tryz.underlying9
  a9 := Tryz.isAgg9
  z9 := Tryz.sizeOf9
  v9 := Tryz.zeroValue9
  t37 := Tryz.underlying44
  a37 := Tryz.isAgg44
  z37 := Tryz.sizeOf44
  v37 := Tryz.zeroValue44
  t127 := Tryz.underlying86
  a127 := Tryz.isAgg86
  z127 := Tryz.sizeOf86
  v127 := Tryz.zeroValue86
  t5 := Tryz.underlying5
  a5 := Tryz.isAgg5
  z5 := Tryz.sizeOf5
  v5 := Tryz.zeroValue5
  i0 := by kernel_rfl
  i3 := by kernel_rfl
  i4 := by kernel_rfl
  i5 := by kernel_rfl
  i9 := by kernel_rfl
  i37 := by kernel_rfl
  i127 := by kernel_rfl }
open Go.RowKit in
theorem Tryz.stringslite_Clone (s : ByteArray) (w : World) (hlim : s.size ≤ 281474976710656) :
    Calls Tryz.prog 119 #[.string s] w fun e w' => e = .returned (.string s) ∧ Below w.heap.size w w' := Any.stringslite_Clone Tryz.laysM316 s w hlim
def Tryz.lays99_ren : Go.Shelf.Ren := ⟨fun | 99 => 176 | 206 => 184 | n => n, fun | 9 => 9 | 4 => 4 | 3 => 3 | n => n, fun | n => n⟩
theorem Tryz.lays99 : Go.Proofs.Lays.n99 Tryz.prog Tryz.lays99_ren := {
  mixed := by kernel_rfl
  f99 := Tryz.func176.trans (congrArg some (by kernel_rfl))
  f206 := Tryz.func184.trans (congrArg some (by kernel_rfl))
  t3 := Tryz.underlying3
  a3 := Tryz.isAgg3
  z3 := Tryz.sizeOf3
  v3 := Tryz.zeroValue3
  t4 := Tryz.underlying4
  a4 := Tryz.isAgg4
  z4 := Tryz.sizeOf4
  v4 := Tryz.zeroValue4
  t9 := Tryz.underlying9
  a9 := Tryz.isAgg9
  z9 := Tryz.sizeOf9
  v9 := Tryz.zeroValue9 }
open Go.RowKit Go.Lib in
theorem Tryz.strings_HasPrefix (s p : ByteArray) (w : World) :
    Calls Tryz.prog 176 #[.string s, .string p] w fun e w' => e = .returned (.bool (Lib.hasPrefix s.data.toList p.data.toList)) ∧ w' = w := Any.strings_HasPrefix Tryz.lays99 s p w
def Tryz.lays155_ren : Go.Shelf.Ren := ⟨fun | 155 => 124 | 154 => 134 | 138 => 144 | 165 => 145 | 143 => 146 | 166 => 122 | 197 => 147 | 169 => 26 | 195 => 155 | 218 => 156 | 240 => 129 | 241 => 157 | 219 => 158 | 260 => 159 | 276 => 138 | 277 => 170 | 217 => 171 | 225 => 172 | 224 => 173 | 267 => 174 | 266 => 182 | 314 => 183 | n => n, fun | 9 => 9 | 3 => 3 | 4 => 4 | 72 => 61 | 0 => 0 | 76 => 156 | 105 => 183 | 21 => 21 | 5 => 5 | 70 => 59 | 20 => 20 | 37 => 44 | 75 => 155 | 127 => 86 | 164 => 172 | 46 => 180 | 119 => 200 | 139 => 203 | 138 => 202 | 146 => 213 | 51 => 177 | 80 => 64 | n => n, fun | 1 => 3 | 3 => 4 | 4 => 5 | n => n⟩
theorem Tryz.lays155 : Go.Proofs.Lays.n155 Tryz.prog Tryz.lays155_ren := {
  mixed := by kernel_rfl
  f138 := Tryz.func144.trans (congrArg some (by kernel_rfl))
  f143 := Tryz.func146.trans (congrArg some (by kernel_rfl))
  f154 := Tryz.func134.trans (congrArg some (by kernel_rfl))
  f155 := Tryz.func124.trans (congrArg some (by kernel_rfl))
  f165 := Tryz.func145.trans (congrArg some (by kernel_rfl))
  f166 := Tryz.func122.trans (congrArg some (by kernel_rfl))
  f169 := Tryz.func26.trans (congrArg some (by kernel_rfl))
  f195 := Tryz.func155.trans (congrArg some (by kernel_rfl))
  f197 := Tryz.func147.trans (congrArg some (by kernel_rfl))
  f217 := Tryz.func171.trans (congrArg some (by kernel_rfl))
  f218 := Tryz.func156.trans (congrArg some (by kernel_rfl))
  f219 := Tryz.func158.trans (congrArg some (by kernel_rfl))
  f224 := Tryz.func173.trans (congrArg some (by kernel_rfl))
  f225 := Tryz.func172.trans (congrArg some (by kernel_rfl))
  f240 := Tryz.func129.trans (congrArg some (by kernel_rfl))
  f241 := Tryz.func157.trans (congrArg some (by kernel_rfl))
  f260 := Tryz.func159.trans (congrArg some (by kernel_rfl))
  f266 := Tryz.func182.trans (congrArg some (by kernel_rfl))
  f267 := Tryz.func174.trans (congrArg some (by kernel_rfl))
  f276 := Tryz.func138.trans (congrArg some (by kernel_rfl))
  f277 := Tryz.func170.trans (congrArg some (by kernel_rfl))
  f314 := Tryz.func183.trans (congrArg some (by kernel_rfl))
  t0 := Tryz.underlying0
  a0 := Tryz.isAgg0
  z0 := Tryz.sizeOf0
  v0 := Tryz.zeroValue0
  t3 := Tryz.underlying3
  a3 := Tryz.isAgg3
  z3 := Tryz.sizeOf3
  v3 := Tryz.zeroValue3
  t4 := Tryz.underlying4
  a4 := Tryz.isAgg4
  z4 := Tryz.sizeOf4
  v4 := Tryz.zeroValue4
  t5 := Tryz.underlying5
  a5 := Tryz.isAgg5
  z5 := Tryz.sizeOf5
  v5 := Tryz.zeroValue5
  t9 := Tryz.underlying9
  a9 := Tryz.isAgg9
  z9 := Tryz.sizeOf9
  v9 := Tryz.zeroValue9
  t20 := Tryz.underlying20
  a20 := Tryz.isAgg20
  z20 := Tryz.sizeOf20
  v20 := Tryz.zeroValue20
  t21 := Tryz.underlying21
  a21 := Tryz.isAgg21
  z21 := Tryz.sizeOf21
  v21 := Tryz.zeroValue21
  t37 := Tryz.underlying44
  a37 := Tryz.isAgg44
  z37 := Tryz.sizeOf44
  v37 := Tryz.zeroValue44
  t46 := Tryz.underlying180
  a46 := Tryz.isAgg180
  z46 := Tryz.sizeOf180
  v46 := Tryz.zeroValue180
  t51 := Tryz.underlying177
  a51 := Tryz.isAgg177
  z51 := Tryz.sizeOf177
  v51 := Tryz.zeroValue177
  t70 := Tryz.underlying59
  a70 := Tryz.isAgg59
  z70 := Tryz.sizeOf59
  v70 := Tryz.zeroValue59
  t72 := Tryz.underlying61
  a72 := Tryz.isAgg61
  z72 := Tryz.sizeOf61
  v72 := Tryz.zeroValue61
  t75 := Tryz.underlying155
  a75 := Tryz.isAgg155
  z75 := Tryz.sizeOf155
  v75 := Tryz.zeroValue155
  t76 := Tryz.underlying156
  a76 := Tryz.isAgg156
  z76 := Tryz.sizeOf156
  v76 := Tryz.zeroValue156
  t105 := Tryz.underlying183
  a105 := Tryz.isAgg183
  z105 := Tryz.sizeOf183
  v105 := Tryz.zeroValue183
  t119 := Tryz.underlying200
  a119 := Tryz.isAgg200
  z119 := Tryz.sizeOf200
  t127 := Tryz.underlying86
  a127 := Tryz.isAgg86
  z127 := Tryz.sizeOf86
  v127 := Tryz.zeroValue86
  t138 := Tryz.underlying202
  a138 := Tryz.isAgg202
  z138 := Tryz.sizeOf202
  v138 := Tryz.zeroValue202
  t139 := Tryz.underlying203
  a139 := Tryz.isAgg203
  z139 := Tryz.sizeOf203
  v139 := Tryz.zeroValue203
  t146 := Tryz.underlying213
  a146 := Tryz.isAgg213
  z146 := Tryz.sizeOf213
  v146 := Tryz.zeroValue213
  t164 := Tryz.underlying172
  a164 := Tryz.isAgg172
  z164 := Tryz.sizeOf172
  v164 := Tryz.zeroValue172
  g1 := by kernel_rfl
  g3 := by kernel_rfl
  g4 := by kernel_rfl }
theorem Tryz.Builder_Extra_155 : Builder.Extra Tryz.prog Tryz.lays155_ren := {
  sizeBuilder := by kernel_rfl
  liesBuilder := by kernel_rfl
  t5 := Tryz.underlying5
  a5 := Tryz.isAgg5
  z5 := Tryz.sizeOf5
  v5 := Tryz.zeroValue5
  infoByte := by kernel_rfl
  cellsByte := by kernel_rfl
  sizeByte := by kernel_rfl
  neB5 := by decide }
open Go.RowKit Go.Lib in
theorem Tryz.strings_ReplaceAll (s old new : ByteArray) (m : Int) (w : World) (hs : s.size < 4294967281) (hm : w.cell? ⟨3, 0, none⟩ = some (.int .i64 m)) (h1 : 1 ≤ old.size) (hlen : s.size + Lib.countB s old * new.size ≤ 140737488355328) :
    Calls Tryz.prog 124 #[.string s, .string old, .string new] w fun e w' =>
      e = .returned (.string ⟨(Lib.replaceAll s.data.toList old.data.toList new.data.toList).toArray⟩) ∧ Below w.heap.size w w' := Any.strings_ReplaceAll Tryz.lays155 Tryz.Builder_Extra_155 s old new m w hs hm h1 hlen
def Tryz.lays110_ren : Go.Shelf.Ren := ⟨fun | 110 => 164 | 109 => 175 | n => n, fun | 31 => 25 | 9 => 9 | 4 => 4 | 3 => 3 | 0 => 0 | n => n, fun | n => n⟩
theorem Tryz.lays110 : Go.Proofs.Lays.n110 Tryz.prog Tryz.lays110_ren := {
  mixed := by kernel_rfl
  f109 := Tryz.func175.trans (congrArg some (by kernel_rfl))
  f110 := Tryz.func164.trans (congrArg some (by kernel_rfl))
  t0 := Tryz.underlying0
  a0 := Tryz.isAgg0
  z0 := Tryz.sizeOf0
  v0 := Tryz.zeroValue0
  t3 := Tryz.underlying3
  a3 := Tryz.isAgg3
  z3 := Tryz.sizeOf3
  v3 := Tryz.zeroValue3
  t4 := Tryz.underlying4
  a4 := Tryz.isAgg4
  z4 := Tryz.sizeOf4
  v4 := Tryz.zeroValue4
  t9 := Tryz.underlying9
  a9 := Tryz.isAgg9
  z9 := Tryz.sizeOf9
  v9 := Tryz.zeroValue9
  t31 := Tryz.underlying25
  a31 := Tryz.isAgg25
  z31 := Tryz.sizeOf25
  v31 := Tryz.zeroValue25 }
open Go.Lib in
theorem Tryz.slices_Contains_string (b off n c : Nat) (zs : List ByteArray) (x : ByteArray) (w : World) (hz : n ≤ zs.length) (hbig : n ≤ 9223372036854775807) (hc : ∀ j, j < zs.length → w.cell? ⟨b, off + j, none⟩ = some (.string (zs.getD j ByteArray.empty))) :
    Calls Tryz.prog 164 #[.slice (some ⟨b, off, none⟩) n c, .string x] w fun e w' => e = .returned (.bool (Lib.containsS (zs.take n) x)) ∧ w' = w := Any.slices_Contains_string Tryz.lays110 b off n c zs x w hz hbig hc
end Go.Proofs

namespace Go.Proofs.YtdfambocenohgaaGreatDoor
set_option maxRecDepth 100000
open Go.RowKit Go.Deep
set_option linter.unusedVariables false
set_option linter.unusedSimpArgs false

def sg2L : List Bs := [[61, 61], [33, 61], [60, 61], [62, 61], [43, 37], [45, 37], [42, 37], [45, 62]]
theorem pre2 (x y : UInt8) (l : Bs) : List.isPrefixOf [x, y] l = true ↔ ∃ t, l = x :: y :: t := by
  match l with
  | [] => simp [List.isPrefixOf]
  | [a] => simp [List.isPrefixOf]
  | a :: b :: t => simp [List.isPrefixOf]; constructor <;> rintro ⟨rfl, rfl⟩ <;> simp
theorem sg2_iff (a b : UInt8) : sg2 a b = true ↔ [a, b] ∈ sg2L := by
  simp only [sg2, sg2L, Bool.or_eq_true, Bool.and_eq_true, beq_iff_eq, List.mem_cons, List.cons.injEq, List.mem_nil_iff, or_false, and_true]
  constructor
  · rintro ((⟨rfl, ((rfl | rfl) | rfl) | rfl⟩ | ⟨rfl, (rfl | rfl) | rfl⟩) | ⟨rfl, rfl⟩) <;> simp
  · rintro (⟨rfl, rfl⟩ | ⟨rfl, rfl⟩ | ⟨rfl, rfl⟩ | ⟨rfl, rfl⟩ | ⟨rfl, rfl⟩ | ⟨rfl, rfl⟩ | ⟨rfl, rfl⟩ | ⟨rfl, rfl⟩) <;> simp
theorem two_of (p : Bs) (h : p ∈ sg2L) : ∃ x y, p = [x, y] := by
  simp only [sg2L, List.mem_cons, List.mem_nil_iff, or_false] at h
  rcases h with rfl | rfl | rfl | rfl | rfl | rfl | rfl | rfl <;> exact ⟨_, _, rfl⟩
theorem sign_hit (p l : Bs) (h : p ∈ sg2L) (hp : p.isPrefixOf l = true) : signF l = 2 := by
  obtain ⟨x, y, rfl⟩ := two_of p h
  obtain ⟨t, rfl⟩ := (pre2 x y l).1 hp
  simp [signF, (sg2_iff x y).2 h]
theorem sign_miss (a : UInt8) (t : Bs) (h : ∀ p ∈ sg2L, p.isPrefixOf (a :: t) = false) : signF (a :: t) = if sg1 a then 1 else 0 := by
  cases t with
  | nil => rfl
  | cons b t =>
    have : ¬ sg2 a b = true := fun e => by
      have := h _ ((sg2_iff a b).1 e)
      simp [List.isPrefixOf] at this
    simp [signF, this]
theorem idx_contains (c : UInt8) : ∀ l : Bs, (0 ≤ Lib.indexByte l c) ↔ l.contains c = true
  | [] => by simp [Lib.indexByte]
  | b :: l => by
    have ih := idx_contains c l
    have hge := Lib.indexByte_ge l c
    simp only [Lib.indexByte]
    by_cases h : b = c
    · subst h; simp
    · have h' : ¬ c = b := fun e => h e.symm
      have h1 : (b == c) = false := by simpa using h
      have h2 : (c == b) = false := by simpa using h'
      simp only [h1, h2, Bool.false_eq_true, if_false, List.contains_cons, beq_iff_eq, Bool.false_or]
      rw [← ih]
      split <;> omega

theorem get_of_list (s : ByteArray) (i : Nat) (h : i < s.size) (c : UInt8) (e : s.data.toList[i]? = some c) : s[i]'h = c := by
  have : s[i]'h = s.data[i]'h := rfl
  rw [this]
  have h2 : i < s.data.toList.length := by rw [← Lib.size_eq]; exact h
  rw [List.getElem?_eq_getElem h2] at e
  simpa using e
theorem cellOf {w : World} {b : Nat} {c : Array Value} {e : TypeId} {f : Nat × Nat} (h : w.heap[b]? = some (.cells c e f)) (i : Nat) : w.cell? ⟨b, i, none⟩ = c[i]? := by
  simp [World.cell?, h]
set_option maxRecDepth 100000 in
theorem signSize_any (s : ByteArray) (a : UInt8) (t : Bs) (hl : s.data.toList = a :: t) (w : World) : Calls Tryz.prog 168 #[.string s] w fun e w' => e = .returned (.int .i64 (signF (a :: t) : Nat)) ∧ Below w.heap.size w w' := by
  have hsz : 1 ≤ s.size := by rw [Lib.size_eq, hl]; simp
  have hz : (0 : Int) < (s.size : Int) := by omega
  have HP := hid (fun p W => Tryz.strings_HasPrefix s p W)
  have HI := hid (fun c W => Tryz.strings_IndexByte ⟨#[123, 125, 40, 41, 91, 93, 44, 59, 58, 46, 61, 60, 62, 43, 45, 42, 47, 37, 38]⟩ c W)
  have hbw : Below w.heap.size w (w.alloc (.cells #[.string ⟨#[61, 61]⟩, .string ⟨#[33, 61]⟩, .string ⟨#[60, 61]⟩, .string ⟨#[62, 61]⟩, .string ⟨#[43, 37]⟩, .string ⟨#[45, 37]⟩, .string ⟨#[42, 37]⟩, .string ⟨#[45, 62]⟩] 9)) := (Below.refl _ w).alloc (Nat.le_refl _) _
  have hcell : ∀ (i : Nat) (p : Bs), sg2L[i]? = some p → (w.alloc (.cells #[.string ⟨#[61, 61]⟩, .string ⟨#[33, 61]⟩, .string ⟨#[60, 61]⟩, .string ⟨#[62, 61]⟩, .string ⟨#[43, 37]⟩, .string ⟨#[45, 37]⟩, .string ⟨#[42, 37]⟩, .string ⟨#[45, 62]⟩] 9)).cell? ⟨w.heap.size, i, none⟩ = some (.string ⟨p.toArray⟩) := by
    intro i p hp
    rw [cellOf (heap_alloc_new w _) i]
    match i, hp with
    | 0, hp => cases hp; rfl
    | 1, hp => cases hp; rfl
    | 2, hp => cases hp; rfl
    | 3, hp => cases hp; rfl
    | 4, hp => cases hp; rfl
    | 5, hp => cases hp; rfl
    | 6, hp => cases hp; rfl
    | 7, hp => cases hp; rfl
    | n + 8, hp => simp [sg2L] at hp
  have HB := hid hbw
  have HC := hid hcell
  have HL := hid hl
  clear hbw hcell hl
  go_enter Tryz.func168, Tryz.ntmps168
  go_wp2
  generalize (w.alloc (.cells #[.string ⟨#[61, 61]⟩, .string ⟨#[33, 61]⟩, .string ⟨#[60, 61]⟩, .string ⟨#[62, 61]⟩, .string ⟨#[43, 37]⟩, .string ⟨#[45, 37]⟩, .string ⟨#[42, 37]⟩, .string ⟨#[45, 62]⟩] 9)) = W at *
  go_loopg [7] 8 (fun g ii wr => ∃ i : Nat, i + g = 8 ∧ ii = .int .i64 (i : Int) ∧ wr = W ∧ ∀ (j : Nat) (p : Bs), j < i → sg2L[j]? = some p → p.isPrefixOf (a :: t) = false)
  case atStart => exact ⟨0, by omega, rfl, rfl, fun j p hj => by omega⟩
  case round =>
    obtain ⟨i, hi, rfl, rfl, hno⟩ := hrel
    have HN := hid hno
    clear hno
    cases gk with
    | zero =>
      have hi8 : i = 8 := by omega
      subst hi8
      clear hi
      have hs0 : s[0]'hsz = a := get_of_list s 0 hsz a (by rw [HL.out]; rfl)
      have hm : ∀ p ∈ sg2L, p.isPrefixOf (a :: t) = false := fun p hp => by
        obtain ⟨j, hj⟩ := List.getElem?_of_mem hp
        exact HN.out j p (by have := (List.getElem?_eq_some_iff.1 hj).1; exact this) hj
      have hsg := sign_miss a t hm
      have hic := idx_contains a sg1s
      have HS := hid hsg
      have HIC := hid hic
      clear hsg hic hm
      go_wp2_with (go_at_call 177; refine (HI.out _ _).mono ?_; rintro e w2 ⟨rfl, rfl⟩)
      · rename_i hcx
        go_ret
        refine ⟨?_, HB.out⟩
        rw [HS.out, show sg1 a = true from HIC.out.1 hcx]; rfl
      · rename_i hcx
        go_ret
        refine ⟨?_, HB.out⟩
        rw [HS.out, if_neg (fun e : sg1 a = true => absurd hcx (Int.not_lt.2 (HIC.out.2 e)))]; rfl
    | succ g =>
      have hlt : i < 8 := by omega
      have hlt' : (i : Int) < 8 := by omega
      obtain ⟨p, hp⟩ : ∃ p, sg2L[i]? = some p := ⟨sg2L[i]'hlt, List.getElem?_eq_getElem hlt⟩
      have hc := HC.out i p hp
      have hx := HP.out ⟨p.toArray⟩ wr
      have hpm := hid (List.mem_of_getElem? hp)
      have Hp := hid hp
      have Hi := hid hi
      have e : Lib.hasPrefix s.data.toList (ByteArray.mk p.toArray).data.toList = p.isPrefixOf (a :: t) := by rw [HL.out]; simp [Lib.hasPrefix]
      rw [e] at hx
      clear e hp hi
      cases hpx : p.isPrefixOf (a :: t) <;> rw [hpx] at hx
      · have Hpx := hid hpx
        clear hpx
        go_wp2_with (go_at_call 176; refine hx.mono ?_; rintro e w2 ⟨rfl, rfl⟩)
        go_roundg g
        case measure => omega
        case rel => exact ⟨i + 1, by have := Hi.out; omega, by go_num, rfl, fun j q hj hq => by
          rcases Nat.lt_or_ge j i with h1 | h1
          · exact HN.out j q h1 hq
          · obtain rfl : j = i := by omega
            rw [Hp.out] at hq; cases hq; exact Hpx.out⟩
      · have Hpx := hid hpx
        have hp2 : p.length = 2 := by obtain ⟨x, y, rfl⟩ := two_of p hpm.out; rfl
        clear hpx
        go_wp2_with (go_at_call 176; refine hx.mono ?_; rintro e w2 ⟨rfl, rfl⟩)
        go_ret
        refine ⟨?_, HB.out⟩
        rw [sign_hit p (a :: t) hpm.out Hpx.out]
        simp [hp2]
end Go.Proofs.YtdfambocenohgaaGreatDoor

namespace Go.Proofs.YtdfambocenohgaaGreatDoor
set_option maxRecDepth 100000
open Go.RowKit Go.Deep
set_option linter.unusedVariables false
set_option linter.unusedSimpArgs false

theorem ltI_nat (c : UInt8) : ltI (c.toNat : Int) = isLt c := by
  unfold ltI isLt
  rw [Bool.eq_iff_iff]; simp; omega
theorem dgI_nat (c : UInt8) : dgI (c.toNat : Int) = isDg c := by
  unfold dgI isDg
  rw [Bool.eq_iff_iff]; simp; omega
theorem ptI_nat (c : UInt8) : ptI (c.toNat : Int) = isPt c := by unfold ptI isPt; rw [ltI_nat, dgI_nat]
/- r is the rune that begins with c. -/
def RunC (c : UInt8) (r : Int) : Prop := (c.toNat < 128 → r = c.toNat) ∧ (128 ≤ c.toNat → 128 ≤ r)
theorem ltI_run {c : UInt8} {r : Int} (h : RunC c r) : ltI r = isLt c := by
  by_cases hc : c.toNat < 128
  · rw [h.1 hc, ltI_nat]
  · have := h.2 (by omega)
    unfold ltI isLt
    rw [Bool.eq_iff_iff]; simp; omega
theorem dgI_run {c : UInt8} {r : Int} (h : RunC c r) : dgI r = isDg c := by
  by_cases hc : c.toNat < 128
  · rw [h.1 hc, dgI_nat]
  · have := h.2 (by omega)
    unfold dgI isDg
    rw [Bool.eq_iff_iff]; simp; omega
theorem eq_run {c : UInt8} {r : Int} (h : RunC c r) (k : UInt8) (hk : k.toNat < 128) : r = (k.toNat : Int) ↔ c = k := by
  by_cases hc : c.toNat < 128
  · rw [h.1 hc, ← UInt8.toNat_inj]; omega
  · have := h.2 (by omega)
    rw [← UInt8.toNat_inj]; omega
theorem hi_lt (a : Int) (h : 128 ≤ a) : ltI a = false := by unfold ltI; simp; omega
theorem hi_dg (a : Int) (h : 128 ≤ a) : dgI a = false := by unfold dgI; simp; omega
theorem enters35 : ∀ args w, (callFunc 163 args).run Tryz.prog w = .ok (.enter 163 args) w := enters_of Tryz.func163 (by kernel_rfl) rfl
theorem enters37 : ∀ args w, (callFunc 166 args).run Tryz.prog w = .ok (.enter 166 args) w := enters_of Tryz.func166 (by kernel_rfl) rfl
theorem run_part (s : ByteArray) (hs : s.size ≤ 9223372036854775807) (w : World) : Calls Tryz.prog 160 #[.string s, .func (.func 163) #[] #[]] w fun e w' => e = .returned (.int .i64 (runF isPt s.data.toList : Nat)) ∧ Below w.heap.size w w' := by
  have h := run_any s 163 #[] ptI hs (fun a b ha hb => by unfold ptI; rw [hi_lt a ha, hi_lt b hb, hi_dg a ha, hi_dg b hb]) enters35 (fun r w => isPart_any r w) w
  rw [show (fun c : UInt8 => ptI c.toNat) = isPt from funext ptI_nat] at h
  exact h
theorem run_digit (s : ByteArray) (hs : s.size ≤ 9223372036854775807) (w : World) : Calls Tryz.prog 160 #[.string s, .func (.func 166) #[] #[]] w fun e w' => e = .returned (.int .i64 (runF isDg s.data.toList : Nat)) ∧ Below w.heap.size w w' := by
  have h := run_any s 166 #[] dgI hs (fun a b ha hb => by rw [hi_dg a ha, hi_dg b hb]) enters37 (fun r w => isDigit_any r w) w
  rw [show (fun c : UInt8 => dgI c.toNat) = isDg from funext dgI_nat] at h
  exact h
theorem words_mem (x : ByteArray) : Lib.containsS (wordsS.take 29) x = isWd x.data.toList := by
  unfold isWd
  rw [Bool.eq_iff_iff, Lib.containsS_iff, show wordsS.take 29 = wordsS from rfl, List.contains_iff_mem]
  unfold wordsS
  rw [List.mem_map]
  constructor
  · rintro ⟨l, hl, rfl⟩; simpa using hl
  · intro h; exact ⟨_, h, by cases x; simp⟩
theorem words_cells (w : World) (b : Nat) (hb : w.heap[b]? = some (.cells wordsV 9 (0, 0))) : ∀ j, j < wordsS.length → w.cell? ⟨b, 0 + j, none⟩ = some (.string (wordsS.getD j ByteArray.empty)) := by
  intro j hj
  rw [Nat.zero_add, cellOf hb j]
  simp only [wordsV, List.getElem?_toArray, List.getElem?_map, List.getD_eq_getElem?_getD, List.getElem?_eq_getElem hj]
  rfl
theorem contains_words (w : World) (b : Nat) (hb : w.heap[b]? = some (.cells wordsV 9 (0, 0))) (x : ByteArray) : Calls Tryz.prog 164 #[.slice (some ⟨b, 0, none⟩) 29 29, .string x] w fun e w' => e = .returned (.bool (isWd x.data.toList)) ∧ w' = w := by
  have h := Tryz.slices_Contains_string b 0 29 29 wordsS x w (by decide) (by decide) (words_cells w b hb)
  rw [words_mem] at h
  exact h
def frV (x : Nat × Nat × Nat) : Value := .tuple #[.int .i64 x.1, .int .i64 x.2.1, .int .i64 x.2.2]

set_option maxRecDepth 100000 in
theorem first_letter (s : ByteArray) (c : UInt8) (t : Bs) (r : Int) (hs : s.size ≤ 4096) (hl : s.data.toList = c :: t) (hr : RunC c r) (hc : isLt c = true) (w : World) :
    Calls Tryz.prog 150 #[.string s, .int .i32 r] w fun e w' => e = .returned (frV (firstF (c :: t))) ∧ Below w.heap.size w w' := by
  have c1 := isLetter_any r w
  rw [ltI_run hr, hc] at c1
  have c2 := run_part s (by omega) w
  rw [hl] at c2
  have hle : runF isPt (c :: t) ≤ s.size := by rw [Lib.size_eq, hl]; exact runF_le _ _
  have hf : firstF (c :: t) = (if isWd ((c :: t).take (runF isPt (c :: t))) then 2 else 1, runF isPt (c :: t), 0) := by simp only [firstF, hc, if_true]
  obtain ⟨n, hn⟩ : ∃ n, runF isPt (c :: t) = n := ⟨_, rfl⟩
  rw [hn] at c2 hle hf
  have HW := hid contains_words
  have hle' : (n : Int) ≤ (s.size : Int) := by omega
  have HF := hid hf
  have HL := hid hl
  clear hf hl hn
  go_enter Tryz.func150, Tryz.ntmps150
  go_wp2_with (first | (go_at_call 162; refine c1.mono ?_; rintro e w ⟨rfl, rfl⟩) | (go_at_call 160; refine c2.mono ?_; rintro e w2 ⟨rfl, hb⟩))
  go_region_held3 (fun _ => True) (first | trivial | go_keep) ((first
    | (go_at_call 165; (refine (words_any _).mono ?_; rintro e w3 ⟨rfl, rfl⟩))
    | (go_at_call 164; (refine (HW.out _ _ (by exact heap_alloc_new w2 _) _).mono ?_; rintro e w4 ⟨rfl, rfl⟩))))
  cases hwd : isWd (List.take n s.data.toList)
  all_goals
    go_wp2
    refine bodyPost_ret (v := frV (firstF (c :: t))) (by rw [HF.out, ← HL.out]; simp [results, Tryz.results150, go_sem, frV, hwd]) rfl ⟨rfl, (hb.alloc (by exact hb.size) _).drew⟩
end Go.Proofs.YtdfambocenohgaaGreatDoor

namespace Go.Proofs.YtdfambocenohgaaGreatDoor
set_option maxRecDepth 100000
open Go.RowKit Go.Deep
set_option linter.unusedVariables false
set_option linter.unusedSimpArgs false

set_option maxRecDepth 100000 in
theorem first_digit (s : ByteArray) (c : UInt8) (t : Bs) (r : Int) (hs : s.size ≤ 4096) (hl : s.data.toList = c :: t) (hr : RunC c r) (hc : isLt c = false) (hd : isDg c = true) (w : World) :
    Calls Tryz.prog 150 #[.string s, .int .i32 r] w fun e w' => e = .returned (frV (firstF (c :: t))) ∧ Below w.heap.size w w' := by
  have c1 := isLetter_any r w
  rw [ltI_run hr, hc] at c1
  have c3 := isDigit_any r w
  rw [dgI_run hr, hd] at c3
  have c2 := run_digit s (by omega) w
  rw [hl] at c2
  have hf : firstF (c :: t) = (3, runF isDg (c :: t), 0) := by simp only [firstF, hc, hd, if_true, Bool.false_eq_true, if_false]
  obtain ⟨n, hn⟩ : ∃ n, runF isDg (c :: t) = n := ⟨_, rfl⟩
  rw [hn] at c2 hf
  have HF := hid hf
  clear hf hl hn
  go_enter Tryz.func150, Tryz.ntmps150
  go_wp2_with (first | (go_at_call 162; refine c1.mono ?_; rintro e w ⟨rfl, rfl⟩) | (go_at_call 166; refine c3.mono ?_; rintro e w ⟨rfl, rfl⟩) | (go_at_call 160; refine c2.mono ?_; rintro e w2 ⟨rfl, hb⟩))
  refine bodyPost_ret (v := frV (firstF (c :: t))) (by rw [HF.out]; simp [results, Tryz.results150, go_sem, frV]) rfl ⟨rfl, hb⟩
set_option maxRecDepth 100000 in
theorem first_text (s : ByteArray) (c : UInt8) (t : Bs) (r : Int) (hs : s.size ≤ 4096) (hl : s.data.toList = c :: t) (hr : RunC c r) (hc : isLt c = false) (hd : isDg c = false) (hq : c = 34) (w : World) :
    Calls Tryz.prog 150 #[.string s, .int .i32 r] w fun e w' => e = .returned (frV (firstF (c :: t))) ∧ Below w.heap.size w w' := by
  have c1 := isLetter_any r w
  rw [ltI_run hr, hc] at c1
  have c3 := isDigit_any r w
  rw [dgI_run hr, hd] at c3
  have hr34 : r = 34 := by have := (eq_run hr 34 (by decide)).2 hq; simpa using this
  have c2 := textSize_any s (by omega) (by rw [Lib.size_eq, hl]; simp) w
  rw [hl, List.drop_succ_cons, List.drop_zero] at c2
  unfold tsz at c2
  have hf : firstF (c :: t) = (match textF false t with | some n => (4, n + 1, 0) | none => (0, 0, 52)) := by unfold firstF; simp only; rw [if_neg (by simp [hc]), if_neg (by simp [hd]), if_pos hq]; cases textF false t <;> rfl
  subst hr34
  cases htx : textF false t with
  | none =>
    rw [htx] at c2 hf
    simp only at c2 hf
    have HF := hid hf
    clear hf hl htx
    go_enter Tryz.func150, Tryz.ntmps150
    go_wp2_with (first | (go_at_call 162; refine c1.mono ?_; rintro e w ⟨rfl, rfl⟩) | (go_at_call 166; refine c3.mono ?_; rintro e w ⟨rfl, rfl⟩) | (go_at_call 167; refine c2.mono ?_; rintro e w2 ⟨rfl, hb⟩))
    refine bodyPost_ret (v := frV (firstF (c :: t))) (by rw [HF.out]; simp [results, Tryz.results150, go_sem, frV]) rfl ⟨rfl, hb⟩
  | some n =>
    rw [htx] at c2 hf
    simp only at c2 hf
    have HF := hid hf
    clear hf hl htx
    go_enter Tryz.func150, Tryz.ntmps150
    go_wp2_with (first | (go_at_call 162; refine c1.mono ?_; rintro e w ⟨rfl, rfl⟩) | (go_at_call 166; refine c3.mono ?_; rintro e w ⟨rfl, rfl⟩) | (go_at_call 167; refine c2.mono ?_; rintro e w2 ⟨rfl, hb⟩))
    refine bodyPost_ret (v := frV (firstF (c :: t))) (by rw [HF.out]; simp [results, Tryz.results150, go_sem, frV]) rfl ⟨rfl, hb⟩
set_option maxRecDepth 100000 in
theorem first_sign (s : ByteArray) (c : UInt8) (t : Bs) (r : Int) (hs : s.size ≤ 4096) (hl : s.data.toList = c :: t) (hr : RunC c r) (hc : isLt c = false) (hd : isDg c = false) (hq : ¬ c = 34) (w : World) :
    Calls Tryz.prog 150 #[.string s, .int .i32 r] w fun e w' => e = .returned (frV (firstF (c :: t))) ∧ Below w.heap.size w w' := by
  have c1 := isLetter_any r w
  rw [ltI_run hr, hc] at c1
  have c3 := isDigit_any r w
  rw [dgI_run hr, hd] at c3
  have hr34 : ¬ r = 34 := fun e => hq ((eq_run hr 34 (by decide)).1 (by simpa using e))
  have c2 := signSize_any s c t hl w
  have hf : firstF (c :: t) = (if signF (c :: t) = 0 then (0, 0, 51) else (5, signF (c :: t), 0)) := by simp only [firstF, hc, hd, hq, if_true, Bool.false_eq_true, if_false]
  obtain ⟨n, hn⟩ : ∃ n, signF (c :: t) = n := ⟨_, rfl⟩
  rw [hn] at c2 hf
  by_cases hz : n = 0
  · rw [if_pos hz] at hf
    subst hz
    have HF := hid hf
    clear hf hl hn
    go_enter Tryz.func150, Tryz.ntmps150
    go_wp2_with (first | (go_at_call 162; refine c1.mono ?_; rintro e w ⟨rfl, rfl⟩) | (go_at_call 166; refine c3.mono ?_; rintro e w ⟨rfl, rfl⟩) | (go_at_call 168; refine c2.mono ?_; rintro e w2 ⟨rfl, hb⟩))
    refine bodyPost_ret (v := frV (firstF (c :: t))) (by rw [HF.out]; simp [results, Tryz.results150, go_sem, frV]) rfl ⟨rfl, hb⟩
  · rw [if_neg hz] at hf
    have hz' : ¬ (n : Int) = 0 := by omega
    have HF := hid hf
    clear hf hl hn hz
    go_enter Tryz.func150, Tryz.ntmps150
    go_wp2_with (first | (go_at_call 162; refine c1.mono ?_; rintro e w ⟨rfl, rfl⟩) | (go_at_call 166; refine c3.mono ?_; rintro e w ⟨rfl, rfl⟩) | (go_at_call 168; refine c2.mono ?_; rintro e w2 ⟨rfl, hb⟩))
    refine bodyPost_ret (v := frV (firstF (c :: t))) (by rw [HF.out]; simp [results, Tryz.results150, go_sem, frV]) rfl ⟨rfl, hb⟩
theorem first_any (s : ByteArray) (c : UInt8) (t : Bs) (r : Int) (hs : s.size ≤ 4096) (hl : s.data.toList = c :: t) (hr : RunC c r) (w : World) :
    Calls Tryz.prog 150 #[.string s, .int .i32 r] w fun e w' => e = .returned (frV (firstF (c :: t))) ∧ Below w.heap.size w w' := by
  cases hc : isLt c
  · cases hd : isDg c
    · by_cases hq : c = 34
      · exact first_text s c t r hs hl hr hc hd hq w
      · exact first_sign s c t r hs hl hr hc hd hq w
    · exact first_digit s c t r hs hl hr hc hd w
  · exact first_letter s c t r hs hl hr hc w
end Go.Proofs.YtdfambocenohgaaGreatDoor

