/- laid. -/
import Derived.Test.YtmhjnfibpngpmaaJAD
import Derived.Sort.CutIn
namespace Go.Proofs.Ytmhjnfibpngpmaa
set_option maxRecDepth 100000
open Go.RowKit Go.Deep Go.Shelf
set_option linter.unusedVariables false
set_option linter.unusedSimpArgs false
theorem OpR.rdm {w : World} {B : Nat} {v : Value} {l : List Opx} (h : OpR w B v l) : ∃ a m cap, v = .slice a m cap ∧ Hid (m = l.length) ∧ ORd w a l ∧ (a = none → cap = 0) := by
  obtain ⟨a, cap, e, h1, h2⟩ := h.rd
  exact ⟨a, l.length, cap, e, hid rfl, h1, h2⟩
theorem OpR.some {w : World} {B : Nat} {a : Option Addr} {m c : Nat} {l : List Opx} (h : OpR w B (.slice a m c) l) (hl : 0 < l.length) : m = l.length ∧ ∃ g, a = some ⟨g, 0, none⟩ ∧ B ≤ g := by
  rcases h.2 with ⟨e, h2⟩ | ⟨g, cap, cur, e, h3, _⟩
  · omega
  · cases e; exact ⟨rfl, g, rfl, h3⟩
theorem OpR.ord {w : World} {B : Nat} {a : Option Addr} {m c : Nat} {l : List Opx} (h : OpR w B (.slice a m c) l) : ORd w a l := by
  obtain ⟨a', c', e, h1, _⟩ := h.rd
  injection e with e1 e2 e3
  rw [e1]; exact h1
def fxL (bs : List Blk) (A : List Opx) (i : Nat) : List Opx := (A.take i).map (fixO bs) ++ A.drop i
theorem fxL_len (bs : List Blk) (A : List Opx) (i : Nat) : (fxL bs A i).length = A.length := by
  unfold fxL; simp; omega
theorem fxL_get {bs : List Blk} {A : List Opx} {i : Nat} {o : Opx} (h : A[i]? = some o) : (fxL bs A i)[i]? = some o := by
  have hi := (List.getElem?_eq_some_iff.1 h).1
  unfold fxL
  rw [List.getElem?_append_right (by simp; omega)]
  simp only [List.length_map, List.length_take]
  rw [Nat.min_eq_left (by omega), List.getElem?_drop, Nat.sub_self, Nat.add_zero]; exact h
theorem fxL_succ {bs : List Blk} {A : List Opx} {i : Nat} {o : Opx} (h : A[i]? = some o) : fxL bs A (i + 1) = (fxL bs A i).set i (fixO bs o) := by
  have hi := (List.getElem?_eq_some_iff.1 h).1
  unfold fxL
  rw [List.take_add_one, h, List.set_append_right _ _ (by simp; omega)]
  simp only [List.length_map, List.length_take]
  rw [Nat.min_eq_left (by omega), Nat.sub_self]
  have hd : A.drop i = o :: A.drop (i + 1) := by
    rw [List.drop_eq_getElem_cons hi]
    congr 1
    exact (List.getElem?_eq_some_iff.1 h).2
  rw [hd]
  simp
theorem set_same {α : Type} {l : List α} {i : Nat} {o : α} (h : l[i]? = some o) : l.set i o = l := by
  obtain ⟨hi, e⟩ := List.getElem?_eq_some_iff.1 h
  rw [← e]; exact List.set_getElem_self hi
theorem fxL_end (bs : List Blk) (A : List Opx) : fxL bs A A.length = A.map (fixO bs) := by unfold fxL; simp
/- Between two rounds: the row of beginnings, the row of instructions. -/
structure LdR (w : World) (n BB : Nat) (bs : List Blk) (j : Nat) (a : Option Addr) (m c : Nat) (L : List Opx) (wr : World) : Prop where
  b : Below w.heap.size w wr
  g : wr.heap[BB]? = some (.cells (bgC n bs j) 3 (0, 0))
  o : OpR wr (BB + 1) (.slice a m c) L
theorem LdR.below {w : World} {n BB : Nat} {bs : List Blk} {j : Nat} {a : Option Addr} {m c : Nat} {L : List Opx} {wr w' : World} (h : LdR w n BB bs j a m c L wr) (k : Below wr.heap.size wr w') : LdR w n BB bs j a m c L w' :=
  ⟨h.b.trans (k.mono h.b.size), (k.block _ (lt_of_heap h.g)).trans h.g, h.o.below (Nat.le_refl _) k⟩
theorem LdR.app {w : World} {n BB : Nat} {bs : List Blk} {j : Nat} {a : Option Addr} {m c : Nat} {L L' : List Opx} {wr w' : World} {a' : Option Addr} {m' c' : Nat} (h : LdR w n BB bs j a m c L wr) (hg : wr.grownBy w' (Value.ownBlock (.slice a m c))) (ho : OpR w' (BB + 1) (.slice a' m' c') L') (hB : w.heap.size ≤ BB) : LdR w n BB bs j a' m' c' L' w' := by
  have k : Below (BB + 1) wr w' := grown_below h.o hg (lt_of_heap h.g)
  exact ⟨h.b.trans (k.mono (by omega)), (k.block _ (by omega)).trans h.g, ho⟩
set_option maxRecDepth 100000 in
set_option maxHeartbeats 2000000 in
theorem laid_any (w : World) (a : Option Addr) (n c : Nat) (bs : List Blk) (hn : n = bs.length) (hnb : n ≤ 10000) (hr : BRd w a bs) (hnl : ∀ b ∈ bs, b.oa = none → b.oc = 0) (hok : isG bs = true) (hT : (layA 0 bs).length ≤ 100000) : Calls Try.prog 76 #[.slice a n c] w fun e w' => ∃ v, e = .returned v ∧ OpR w' w.heap.size v (layB bs) ∧ Below w.heap.size w w' := by
  have mkI := run_mkI w n (by omega) bs
  obtain ⟨W0, hW0⟩ : ∃ W0, W0 = w.alloc (.cells (bgC n bs 0) 3) := ⟨_, rfl⟩
  have hnI : (n : Int) ≤ 10000 := by omega
  have hnI0 : (0 : Int) ≤ (n : Int) := by omega
  obtain ⟨BB, hBB⟩ : ∃ BB, BB = w.heap.size := ⟨_, rfl⟩
  have bw0 : Below w.heap.size w W0 := by rw [hW0]; exact (Below.refl _ _).alloc (Nat.le_refl _) _
  have m0 : W0.heap[BB]? = some (.cells (bgC n bs 0) 3 (0, 0)) := by rw [hW0, hBB]; exact heap_alloc_new _ _
  have HS : Hid (LdR w n BB bs 0 none 0 0 (layA 0 (bs.take 0)) W0) := hid ⟨bw0, m0, OpR.nil _ _⟩
  have HBB := hid hBB
  have HN := hid hn
  have HR := hid hr
  have HNL := hid hnl
  have HOK := hid hok
  have HT := hid hT
  clear bw0 m0 hn hr hnl hok hT
  go_enter Try.func76, Try.ntmps76
  go_upto_region 3 with fail
  rw [← hBB, ← hW0]
  clear mkI hW0 hBB
  go_wp2
  go_loopg [3, 14] n (fun g x y wr => ∃ (j : Nat) (a3 : Option Addr) (m3 c3 : Nat), j + g = n ∧ y = .int .i64 (j : Int) ∧ x = .slice a3 m3 c3 ∧ m3 = (layA 0 (bs.take j)).length ∧ LdR w n BB bs j a3 m3 c3 (layA 0 (bs.take j)) wr)
  case atStart => exact ⟨0, none, 0, 0, by omega, rfl, rfl, rfl, HS.out⟩
  case round =>
    obtain ⟨j, a3, m3, c3, hj, rfl, rfl, hm3, hL⟩ := hrel
    cases gk with
    | zero =>
      have hjn : j = n := by omega
      subst hjn
      have hA : bs.take j = bs := by rw [HN.out]; exact List.take_of_length_le (Nat.le_refl _)
      rw [hA] at hm3 hL
      obtain ⟨A, hAe⟩ : ∃ A, A = layA 0 bs := ⟨_, rfl⟩
      have hjm : ∀ o ∈ A, jmpB o = true → 0 ≤ o.k ∧ o.k < (j : Int) := by rw [hAe, HN.out]; exact lay_jmp bs 0 (isG_all HOK.out)
      have hTo := HT.out
      rw [← hAe] at hm3 hL hTo
      have HAe := hid hAe
      have hm3b : (m3 : Int) ≤ 100000 := by omega
      have HL0 : Hid (LdR w j BB bs j a3 m3 c3 (fxL bs A 0) wr) := hid (by unfold fxL; simpa using hL)
      have Hm3 := hid hm3
      have HJM := hid hjm
      have hBw : w.heap.size ≤ BB := by rw [HBB.out]; exact Nat.le_refl _
      clear hL HS hA hAe hjm hm3 hTo
      go_wp2
      go_loopg [37] m3 (fun g x wr2 => ∃ i : Nat, i + g = m3 ∧ x = .int .i64 (i : Int) ∧ LdR w j BB bs j a3 m3 c3 (fxL bs A i) wr2)
      case atStart => exact ⟨0, by omega, rfl, HL0.out⟩
      case round =>
        obtain ⟨i, hi, rfl, hL⟩ := hrel
        cases gk with
        | zero =>
          have him : i = m3 := by omega
          subst him
          have HF : Hid (fxL bs A i = layB bs) := hid (by rw [Hm3.out, fxL_end, HAe.out]; rfl)
          have HL := hid hL
          clear hL HL0
          go_wp2
          go_ret
          exact ⟨_, rfl, by rw [← HF.out]; exact HL.out.o.lower (by omega), HL.out.b⟩
        | succ g =>
          obtain ⟨o, ho⟩ : ∃ o, A[i]? = some o := ⟨A[i]'(by have := Hm3.out; omega), List.getElem?_eq_getElem _⟩
          have hi1 : i < A.length := (List.getElem?_eq_some_iff.1 ho).1
          have hfl := fxL_len bs A i
          have hfg := fxL_get (bs := bs) ho
          have hfs := fxL_succ (bs := bs) ho
          obtain ⟨hml, g5, rfl, hB5⟩ := hL.o.some (by omega)
          have hrd := hL.o.ord
          obtain ⟨b', off', e', hc⟩ := hrd i o hfg
          cases e'
          have hjm := HJM.out o (List.mem_of_getElem? ho)
          obtain ⟨oc, od, oa, ob, ok⟩ := o
          have c0 := hc 0 (by omega)
          have c1 := hc 1 (by omega)
          have c2 := hc 2 (by omega)
          have c3' := hc 3 (by omega)
          have c4 := hc 4 (by omega)
          simp only [Opx.cs, List.getElem?_toArray, List.getElem?_cons_zero, List.getElem?_cons_succ, Nat.add_zero, Nat.zero_add] at c0 c1 c2 c3' c4
          have hiI : (i : Int) < (m3 : Int) := by omega
          have hi0 : (0 : Int) ≤ (i : Int) := by omega
          obtain ⟨X, hX⟩ : ∃ X, X = wr.heap.size := ⟨_, rfl⟩
          obtain ⟨W1, hW1⟩ : ∃ W1, W1 = wr.alloc (.cells #[.int .i64 oc, .int .i64 od, .int .i64 oa, .int .i64 ob, .int .i64 ok] 41) := ⟨_, rfl⟩
          have b1 : Below wr.heap.size wr W1 := by rw [hW1]; exact (Below.refl _ _).alloc (Nat.le_refl _) _
          have mX : W1.heap[X]? = some (.cells #[.int .i64 oc, .int .i64 od, .int .i64 oa, .int .i64 ob, .int .i64 ok] 41 (0, 0)) := by rw [hW1, hX]; exact heap_alloc_new _ _
          have hL1 := hL.below b1
          have K1 := hid (isJump_any W1 oc od oa ob ok)
          have CB := hid (fun (v : World) (hv : Below W1.heap.size W1 v) => (by
            have h := (hv.block X (lt_of_heap mX)).trans mX
            exact ⟨cellOf h 0, cellOf h 1, cellOf h 2, cellOf h 3, cellOf h 4⟩ : v.cell? ⟨X, 0, none⟩ = some (.int .i64 oc) ∧ v.cell? ⟨X, 1, none⟩ = some (.int .i64 od) ∧ v.cell? ⟨X, 2, none⟩ = some (.int .i64 oa) ∧ v.cell? ⟨X, 3, none⟩ = some (.int .i64 ob) ∧ v.cell? ⟨X, 4, none⟩ = some (.int .i64 ok)))
          have LB := hid (fun (v : World) (hv : Below W1.heap.size W1 v) => hL1.below hv)
          obtain ⟨x0, x1, x2, x3, x4⟩ := CB.out W1 (Below.refl _ _)
          have Hfs := hid hfs
          have Hfg := hid hfg
          have Hml := hid hml
          cases hjb : jmpB ⟨oc, od, oa, ob, ok⟩ with
          | false =>
            rw [hjb] at K1
            have HF : Hid (fxL bs A (i + 1) = fxL bs A i) := hid (by rw [hfs]; unfold fixO; rw [hjb, if_neg (by simp)]; exact set_same hfg)
            clear hjb hL hfl hfg hfs hml hrd hc b1 mX hL1 hjm ho HL0
            go_upto_region 13 with fail
            rw [← hX, ← hW1]
            clear hX hW1 c0 c1 c2 c3' c4
            go_wp2_with (go_at_call 120; (refine (Hid.out K1).mono ?_; rintro e w2 ⟨rfl, hb2⟩; have HL2 := hid (LB.out w2 hb2); clear hb2 x0 x1 x2 x3 x4))
            go_roundg g
            case measure => omega
            exact ⟨i + 1, by omega, by go_num, by rw [HF.out]; exact HL2.out⟩
          | true =>
            rw [hjb] at K1
            have hk := hjm hjb
            obtain ⟨kk, rfl⟩ : ∃ kk : Nat, ok = (kk : Int) := ⟨ok.toNat, by have := hk.1; simp at this; omega⟩
            have hkj : kk < j := by have := hk.2; simp at this; omega
            have hkI : (kk : Int) < (j : Int) := by omega
            have hkI0 : (0 : Int) ≤ (kk : Int) := by omega
            have HF : Hid (fxL bs A (i + 1) = (fxL bs A i).set i ⟨oc, od, oa, ob, (bg bs kk : Int)⟩) := hid (by rw [hfs]; unfold fixO; rw [hjb, if_pos rfl]; simp)
            /- What is read and written behind the call. -/
            have RD := hid (fun (v : World) (hv : Below W1.heap.size W1 v) => (by
              have h := hL1.below hv
              obtain ⟨b', off', e', hc'⟩ := h.o.ord i _ hfg
              cases e'
              have h1 := cellOf h.g kk
              rw [bgC_get bs hkj, if_pos hkj] at h1
              exact ⟨h1, by have := hc' 4 (by omega); simpa [Opx.cs] using this, h.o.free _⟩ : v.cell? ⟨BB, kk, none⟩ = some (.int .i64 (bg bs kk : Int)) ∧ v.cell? ⟨g5, i * 5 + 4, none⟩ = some (.int .i64 (kk : Int)) ∧ v.frozen? ⟨g5, i * 5 + 4, none⟩ = false))
            have ST := hid (fun (v : World) (hv : Below W1.heap.size W1 v) => (by
              have h := hL1.below hv
              have ho := h.o
              rw [hml] at ho
              have hs := ho.setk hfg (bg bs kk : Int)
              rw [List.length_set, ← hml] at hs
              exact ⟨h.b.setCell (p := ⟨g5, i * 5 + 4, none⟩) (by show w.heap.size ≤ g5; omega) _, (Below.heap_setCell _ _ _ _ (by show BB ≠ g5; omega)).trans h.g, hs⟩ : LdR w j BB bs j (some ⟨g5, 0, none⟩) m3 c3 ((fxL bs A i).set i ⟨oc, od, oa, ob, (bg bs kk : Int)⟩) (v.setCell ⟨g5, i * 5 + 4, none⟩ (.int .i64 (bg bs kk : Int)))))
            clear hjb hL hfl hfg hfs hml hrd hc b1 mX hL1 hjm ho HL0 hk
            go_upto_region 13 with fail
            rw [← hX, ← hW1]
            clear hX hW1 c0 c1 c2 c3' c4
            go_wp2_with (go_at_call 120; (refine (Hid.out K1).mono ?_; rintro e w2 ⟨rfl, hb2⟩; obtain ⟨y0, y1, y2, y3, y4⟩ := CB.out w2 hb2; obtain ⟨r1, r2, r3⟩ := RD.out w2 hb2; have HL2 := hid (ST.out w2 hb2); clear hb2 x0 x1 x2 x3 x4))
            go_roundg g
            case measure => omega
            exact ⟨i + 1, by omega, by go_num, by rw [HF.out]; exact HL2.out⟩
    | succ g =>
      obtain ⟨o, ho⟩ : ∃ o, bs[j]? = some o := ⟨bs[j]'(by have := HN.out; omega), List.getElem?_eq_getElem _⟩
      have hrb := HR.out.below hL.b
      obtain ⟨b, off, ea, hc⟩ := hrb.c j o ho
      have hbk := hrb.e o (List.mem_of_getElem? ho)
      have hnl := HNL.out o (List.mem_of_getElem? ho)
      have hlt := lay_take ho
      have hpre := lay_pre bs j
      have hpre1 := lay_pre bs (j + 1)
      have hTo := HT.out
      obtain ⟨oa, on, oc, en, ba, tt, el, ops⟩ := o
      have c0 := hc 0 (by omega)
      have c1 := hc 1 (by omega)
      have c2 := hc 2 (by omega)
      have c3' := hc 3 (by omega)
      have c4 := hc 4 (by omega)
      simp only [Blk.cs, List.getElem?_toArray, List.getElem?_cons_zero, List.getElem?_cons_succ, Nat.add_zero] at c0 c1 c2 c3' c4
      have hjI : (j : Int) < (n : Int) := by omega
      have hj0 : (0 : Int) ≤ (j : Int) := by omega
      have hon : on = ops.length := hbk.n
      have honb : on ≤ 10000 := hbk.nb
      have hor : ORd wr oa ops := hbk.r
      have hnl' : oa = none → oc = 0 := hnl
      have hlen1 : (layA 0 (bs.take (j + 1))).length = (layA 0 (bs.take j)).length + ops.length + (enB ⟨oa, on, oc, en, ba, tt, el, ops⟩ j).length := by rw [hlt, List.length_append, List.length_append]
      obtain ⟨X, hX⟩ : ∃ X, X = wr.heap.size := ⟨_, rfl⟩
      obtain ⟨W1, hW1⟩ : ∃ W1, W1 = wr.alloc (.cells #[.slice oa on oc, .int .i64 en, .int .i64 ba, .int .i64 tt, .int .i64 el] 89) := ⟨_, rfl⟩
      have b1 : Below wr.heap.size wr W1 := by rw [hW1]; exact (Below.refl _ _).alloc (Nat.le_refl _) _
      have mX : W1.heap[X]? = some (.cells #[.slice oa on oc, .int .i64 en, .int .i64 ba, .int .i64 tt, .int .i64 el] 89 (0, 0)) := by rw [hW1, hX]; exact heap_alloc_new _ _
      have hL1 := hL.below b1
      have s0 := cellOf hL1.g j
      rw [bgC_get bs (by omega)] at s0
      have sf := freeOf hL1.g j
      have hXB : BB < X := by have := lt_of_heap hL.g; omega
      have hBw : w.heap.size ≤ BB := by rw [HBB.out]; exact Nat.le_refl _
      obtain ⟨W2, hW2⟩ : ∃ W2, W2 = W1.setCell ⟨BB, j, none⟩ (.int .i64 (m3 : Int)) := ⟨_, rfl⟩
      have z2 : W2.heap.size = W1.heap.size := by rw [hW2]; simp [World.setCell]
      have hL2 : LdR w n BB bs (j + 1) a3 m3 c3 (layA 0 (bs.take j)) W2 := by
        refine ⟨by rw [hW2]; exact hL1.b.setCell (p := ⟨BB, j, none⟩) hBw _, ?_, hL1.o.keep fun g e => ?_⟩
        · rw [hW2, heap_set_at hL1.g, hm3]
          rw [show ((layA 0 (bs.take j)).length : Int) = (bg bs j : Int) from rfl, bgC_set bs (by omega)]
        · rw [hW2]; exact Below.heap_setCell _ _ _ _ (by have := (hL1.o.own e).1; show g ≠ BB; omega)
      have mX2 : W2.heap[X]? = some (.cells #[.slice oa on oc, .int .i64 en, .int .i64 ba, .int .i64 tt, .int .i64 el] 89 (0, 0)) := by rw [hW2]; exact (Below.heap_setCell _ _ _ _ (by show X ≠ BB; omega)).trans mX
      have hor2 : ORd W2 oa ops := (hrb.e _ (List.mem_of_getElem? ho) |>.r |> fun _ => HR.out.below hL2.b |>.e _ (List.mem_of_getElem? ho)).r
      have hX2 := lt_of_heap mX2
      have d0 := cellOf mX2 0
      have d1 := cellOf mX2 1
      have d2 := cellOf mX2 2
      have d3 := cellOf mX2 3
      have d4 := cellOf mX2 4
      simp only [List.getElem?_toArray, List.getElem?_cons_zero, List.getElem?_cons_succ] at d0 d1 d2 d3 d4
      have HL2 := hid hL2
      have HMX := hid mX2
      have HOR := hid hor2
      have HNL' := hid hnl'
      have Hlt := hid hlt
      have Hlen := hid hlen1
      have Hm3 := hid hm3
      have Hon := hid hon
      have hm3b : (m3 : Int) ≤ 100000 := by omega
      have honI : (on : Int) ≤ 10000 := by omega
      have hlb : (layA 0 (bs.take j)).length ≤ 1000000 := by omega
      have hlb2 : (layA 0 (bs.take j) ++ ops).length ≤ 1000000 := by rw [List.length_append]; omega
      have hlb3 : (enB ⟨oa, on, oc, en, ba, tt, el, ops⟩ j).length ≤ 1000000 := by omega
      have honb2 : on ≤ 1000000 := by omega
      have hBX2 : BB + 1 ≤ W2.heap.size := by omega
      have HRX : Hid (∀ g, Value.ownBlock (.slice a3 m3 c3) = some g → g < X) := hid fun g e => by have := (hL.o.own e).2; omega
      /- Behind the first append. -/
      have FA := hid (fun (w7 : World) (a7 : Option Addr) (m7 c7 : Nat) (ho7 : OpR w7 (BB + 1) (.slice a7 m7 c7) (layA 0 (bs.take j) ++ ops)) (hg7 : W2.grownBy w7 (Value.ownBlock (.slice a3 m3 c3))) => (by
        refine ⟨HL2.out.app hg7 ho7 hBw, ?_⟩
        exact (hg7.block X (lt_of_heap HMX.out) (fun e => by have := HRX.out X e.symm; omega)).trans HMX.out : LdR w n BB bs (j + 1) a7 m7 c7 (layA 0 (bs.take j) ++ ops) w7 ∧ w7.heap[X]? = some (.cells #[.slice oa on oc, .int .i64 en, .int .i64 ba, .int .i64 tt, .int .i64 el] 89 (0, 0))))
      have eB : enO en ba tt el ((j : Int) + 1) = enB ⟨oa, on, oc, en, ba, tt, el, ops⟩ j := rfl
      have K8 := hid (fun (v : World) => ending_any v oa on oc en ba tt el ((j : Int) + 1))
      rw [eB] at K8
      clear eB hL hrb hc hbk hnl hlt hpre hpre1 hTo hon hor hnl' hlen1 b1 mX hL1 z2 hL2 mX2 hor2 ho HS hm3
      subst ea
      go_upto_region 6 with fail
      rw [← hX, ← hW1]
      clear hW1 hX c0 c1 c2 c3' c4
      go_upto_region 7 with fail
      rw [← hW2]
      clear hW2 s0 sf
      go_wp2_with (first
        | (have hno := hrd8; at_builtin; refine wpList_appO w8 rfl _ _ rfl _ _ (by rfl) (by rfl) (BB + 1) (layA 0 (bs.take j) ++ ops) HL8.out.o a8 m8 c8 rfl (enB ⟨oa, on, oc, en, ba, tt, el, ops⟩ j) Hm8.out hrd8 hnil8 hlb2 hm8 (lt_of_heap HL8.out.g) ?_; intro v9 w9 ho9 hg9 hn9; obtain ⟨a9, m9, c9, rfl, Hm9, _, _⟩ := ho9.rdm; have HL9 := hid (HL8.out.app hg9 ho9 hBw); clear ho9 hg9 hn9 hrd8 hnil8)
        | (go_at_call 119; (refine (K8.out w7).mono ?_; rintro e w8 ⟨v8, rfl, ho8, hb8⟩; obtain ⟨a8, m8, c8, rfl, Hm8, hrd8, hnil8⟩ := ho8.rdm; have hm8 : m8 ≤ 1000000 := by { have := Hm8.out; omega }; have HL8 := hid (HF7.out.1.below hb8); clear ho8 hb8 y0 y1 y2 y3 y4))
        | (at_builtin; refine wpList_appO W2 rfl _ _ rfl _ _ (by rfl) (by rfl) (BB + 1) (layA 0 (bs.take j)) HL2.out.o oa on oc rfl ops Hon.out HOR.out HNL'.out hlb honb2 hBX2 ?_; intro v7 w7 ho7 hg7 hn7; obtain ⟨a7, m7, c7, rfl, Hm7, _, _⟩ := ho7.rdm; have HF7 := hid (FA.out w7 a7 m7 c7 ho7 hg7); have y0 := cellOf HF7.out.2 0; have y1 := cellOf HF7.out.2 1; have y2 := cellOf HF7.out.2 2; have y3 := cellOf HF7.out.2 3; have y4 := cellOf HF7.out.2 4; simp only [List.getElem?_toArray, List.getElem?_cons_zero, List.getElem?_cons_succ] at y0 y1 y2 y3 y4; clear ho7 hg7 hn7 d0 d1 d2 d3 d4))
      go_roundg g
      case measure => omega
      exact ⟨j + 1, _, _, _, by omega, by go_num, rfl, by rw [Hlt.out, Hm9.out], by rw [Hlt.out]; exact HL9.out⟩
end Go.Proofs.Ytmhjnfibpngpmaa

namespace Go.Proofs.Ytmhjnfibpngpmaa
set_option maxRecDepth 100000
open Go.RowKit Go.Deep Go.Shelf
set_option linter.unusedVariables false
set_option linter.unusedSimpArgs false
def FnP (w : World) (regs : Int) (bs : List Blk) (bad : Int) (e : Ending) (w' : World) : Prop := Below w.heap.size w w' ∧
  ((isG bs = true ∧ ∃ v, e = .returned (.tuple #[.agg #[.int .i64 regs, v], .int .i64 0]) ∧ OpR w' w.heap.size v (layB bs)) ∨
   (isG bs = false ∧ e = .returned (.tuple #[.agg #[.int .i64 0, .slice none 0 0], .int .i64 bad])))
def two (w : World) (b : Nat) (x y : Value) : World := (w.setCell ⟨b, 0, none⟩ x).setCell ⟨b, 1, none⟩ y
theorem two_new {w : World} {b : Nat} {p q : Value} {t : TypeId} (h : w.heap[b]? = some (.cells #[p, q] t (0, 0))) (x y : Value) : (two w b x y).heap[b]? = some (.cells #[x, y] t (0, 0)) := heap_set_at (heap_set_at h 0 x) 1 y
theorem two_below {B : Nat} {w0 w : World} (hb : Below B w0 w) {b : Nat} (hB : B ≤ b) (x y : Value) : Below B w0 (two w b x y) := by
  unfold two
  exact (hb.setCell hB _).setCell hB _
theorem two_heap (w : World) (b : Nat) (x y : Value) {k : Nat} (hk : k ≠ b) : (two w b x y).heap[k]? = w.heap[k]? := by
  unfold two
  rw [Below.heap_setCell _ _ _ _ hk, Below.heap_setCell _ _ _ _ hk]
set_option maxRecDepth 100000 in
set_option maxHeartbeats 1000000 in
theorem fn_any (w : World) (regs : Int) (a : Option Addr) (n c : Nat) (bs : List Blk) (hn : n = bs.length) (hnb : n ≤ 10000) (hr : BRd w a bs) (hnl : ∀ b ∈ bs, b.oa = none → b.oc = 0) (hT : (layA 0 bs).length ≤ 100000) : Calls Try.prog 27 #[.agg #[.int .i64 regs, .slice a n c]] w (FnP w regs bs 100) := by
  obtain ⟨X, hX⟩ : ∃ X, X = w.heap.size := ⟨_, rfl⟩
  obtain ⟨W0, hW0⟩ : ∃ W0, W0 = (w.alloc (.cells #[.int .i64 regs, .slice a n c] 92)).alloc (.cells #[.int .i64 0, .slice none 0 0] 73) := ⟨_, rfl⟩
  have bw0 : Below w.heap.size w W0 := by rw [hW0]; exact ((Below.refl _ _).alloc (Nat.le_refl _) _).alloc (by simp) _
  have z0 : W0.heap.size = X + 1 + 1 := by rw [hW0, hX]; simp
  have m0 : W0.heap[X]? = some (.cells #[.int .i64 regs, .slice a n c] 92 (0, 0)) := by rw [hW0, hX, Below.heap_alloc _ _ _ (by simp)]; exact heap_alloc_new _ _
  have m1 : W0.heap[X + 1]? = some (.cells #[.int .i64 0, .slice none 0 0] 73 (0, 0)) := by
    have := heap_alloc_new (w.alloc (.cells #[.int .i64 regs, .slice a n c] 92)) (.cells #[.int .i64 0, .slice none 0 0] 73)
    rw [World.size_alloc] at this
    rw [hW0, hX]; exact this
  have K1 := hid (isGraph_any W0 regs a n c bs hn (by omega) (hr.below bw0))
  have MB := hid (fun (v : World) (hv : Below W0.heap.size W0 v) => (⟨(hv.block X (by omega)).trans m0, (hv.block (X + 1) (by omega)).trans m1⟩ : v.heap[X]? = some (.cells #[.int .i64 regs, .slice a n c] 92 (0, 0)) ∧ v.heap[X + 1]? = some (.cells #[.int .i64 0, .slice none 0 0] 73 (0, 0))))
  have BW := hid (fun (v : World) (hv : Below W0.heap.size W0 v) => bw0.trans (hv.mono bw0.size))
  have x0 := cellOf m0 0
  have x1 := cellOf m0 1
  simp only [List.getElem?_toArray, List.getElem?_cons_zero, List.getElem?_cons_succ] at x0 x1
  have HX := hid hX
  have Z0 := hid z0
  cases hok : isG bs with
  | false =>
    rw [hok] at K1
    have HO := hid hok
    clear m0 m1 bw0 hr hn hok hnl hT z0
    go_enter Try.func27, Try.ntmps27
    go_upto_region 1 with fail
    rw [← hX, ← hW0]
    clear hW0 hX
    go_wp2_with (first | (go_at_call 75; (refine (Hid.out K1).mono ?_; rintro e w1 ⟨rfl, hb1⟩; have HM1 := hid (MB.out w1 hb1); have HB1 := hid hb1; have y0 := cellOf HM1.out.2 0; have y1 := cellOf HM1.out.2 1; have f0 := freeOf HM1.out.2 0; have f1 := freeOf HM1.out.2 1; simp only [List.getElem?_toArray, List.getElem?_cons_zero, List.getElem?_cons_succ] at y0 y1; clear hb1 x0 x1)))
    have h3 := two_new HM1.out.2 (.int .i64 0) (.slice none 0 0)
    have hbb := two_below (BW.out w1 HB1.out) (b := X + 1) (by have := HX.out; omega) (.int .i64 0) (.slice none 0 0)
    have q0 := cellOf h3 0
    have q1 := cellOf h3 1
    simp only [two, List.getElem?_toArray, List.getElem?_cons_zero, List.getElem?_cons_succ] at q0 q1 hbb
    refine bodyPost_ret (v := .tuple #[.agg #[.int .i64 0, .slice none 0 0], .int .i64 100]) (by simp [results, Try.results27, go_sem, q0, q1]) rfl ⟨hbb, .inr ⟨HO.out, rfl⟩⟩
  | true =>
    rw [hok] at K1
    have K2 := hid (fun (v : World) (hv : Below W0.heap.size W0 v) => laid_any v a n c bs hn hnb ((hr.below bw0).below hv) hnl hok hT)
    have HO := hid hok
    clear m0 m1 bw0 hr hn hok hnl hT z0
    go_enter Try.func27, Try.ntmps27
    go_upto_region 1 with fail
    rw [← hX, ← hW0]
    clear hW0 hX
    go_wp2_with (first | (go_at_call 75; (refine (Hid.out K1).mono ?_; rintro e w1 ⟨rfl, hb1⟩; have HM1 := hid (MB.out w1 hb1); have HB1 := hid hb1; have y0 := cellOf HM1.out.1 0; have y1 := cellOf HM1.out.1 1; simp only [List.getElem?_toArray, List.getElem?_cons_zero, List.getElem?_cons_succ] at y0 y1; clear hb1 x0 x1)))
    have S2 := hid (fun (v : World) (hv : Below W0.heap.size W0 v) => (⟨cellOf (MB.out v hv).1 0, cellOf (MB.out v hv).1 1⟩ : v.cell? ⟨X, 0, none⟩ = some (.int .i64 regs) ∧ v.cell? ⟨X, 1, none⟩ = some (.slice a n c)))
    have K2' := hid (K2.out w1.drew (HB1.out.trans (((Below.refl _ w1).drew).mono HB1.out.size)))
    go_region_held3 (fun v => v.cell? ⟨X, 0, none⟩ = some (.int .i64 regs) ∧ v.cell? ⟨X, 1, none⟩ = some (.slice a n c)) (first | exact s3 | exact s2 | go_keep) ((first
      | (go_at_call 76; (refine (Hid.out K2').mono ?_; rintro e w2 ⟨v2, rfl, ho2, hb2'⟩; have hb2 := HB1.out.trans ((((Below.refl _ w1).drew).trans hb2').mono HB1.out.size); have s2 := S2.out w2 hb2; have p0 := cellOf (MB.out w2 hb2).2 0; have p1 := cellOf (MB.out w2 hb2).2 1; have f0 := freeOf (MB.out w2 hb2).2 0; have f1 := freeOf (MB.out w2 hb2).2 1; simp only [List.getElem?_toArray, List.getElem?_cons_zero, List.getElem?_cons_succ] at p0 p1; obtain ⟨a2, m2, c2, rfl, Hm2, _, _⟩ := ho2.rdm; have s3 : (two w2 (X + 1) (.int .i64 regs) (.slice a2 m2 c2)).cell? ⟨X, 0, none⟩ = some (.int .i64 regs) ∧ (two w2 (X + 1) (.int .i64 regs) (.slice a2 m2 c2)).cell? ⟨X, 1, none⟩ = some (.slice a n c) := ⟨(cellOf ((two_heap w2 (X + 1) _ _ (by omega)).trans (MB.out w2 hb2).1) 0), (cellOf ((two_heap w2 (X + 1) _ _ (by omega)).trans (MB.out w2 hb2).1) 1)⟩; simp only [two] at s3))))
    have h3 := two_new (MB.out w2 hb2).2 (.int .i64 regs) (.slice a2 m2 c2)
    have hbb := two_below (BW.out w2 hb2) (b := X + 1) (by have := HX.out; omega) (.int .i64 regs) (.slice a2 m2 c2)
    have hoo : OpR (two w2 (X + 1) (.int .i64 regs) (.slice a2 m2 c2)) w.heap.size (.slice a2 m2 c2) (layB bs) := (ho2.lower (show w.heap.size ≤ w1.heap.size from (BW.out w1 HB1.out).size)).keep fun g e => two_heap _ _ _ _ (by have h1 : w1.heap.size ≤ g := (ho2.own e).1; have := HB1.out.size; have := Z0.out; omega)
    have q0 := cellOf h3 0
    have q1 := cellOf h3 1
    simp only [two, List.getElem?_toArray, List.getElem?_cons_zero, List.getElem?_cons_succ] at q0 q1 hbb hoo
    have HBB := hid hbb
    have HOO := hid hoo
    clear s2 s3 hb2 hb2' ho2 p0 p1 f0 f1 h3 hbb hoo
    go_wp2
    refine bodyPost_ret (v := .tuple #[.agg #[.int .i64 regs, .slice a2 m2 c2], .int .i64 0]) (by simp [results, Try.results27, go_sem, q0, q1]) rfl ⟨HBB.out, .inl ⟨HO.out, _, rfl, HOO.out⟩⟩
end Go.Proofs.Ytmhjnfibpngpmaa

namespace Go.Proofs.Ytmhjnfibpngpmaa
set_option maxRecDepth 100000
open Go.RowKit Go.Deep Go.Shelf
set_option linter.unusedVariables false
set_option linter.unusedSimpArgs false
/- What is held of a function that is ranged over: whatever it writes lies in blocks that were laid since it was called. -/
def SeqW {α : Type} (F : Fence) (n : Nat) (g : Nat) (lb : Array Value) (encs : α → Array Value) (Kp : World → World → Prop) (S Sp : List α → Prop) (N : Nat) (w : World) : Prop :=
  ∀ (l : Nat) (J Jx : List α → World → Prop) (W : World), Below w.heap.size w W → w.heap.size ≤ W.heap.size → (∀ s A A' row, J s A → A.grownBy A' row → (∀ r, row = some r → W.heap.size ≤ r) → J s A') →
    (∀ pre x W1, J pre W1 → pre.length < N → YieldAt F (n - 1) Try.prog l (encs x) W1 fun e W' => (e = .returned (.bool true) ∧ J (pre ++ [x]) W' ∧ Kp W1 W') ∨ (e = .returned (.bool false) ∧ Jx (pre ++ [x]) W')) → J [] W →
    CallsIn F n Try.prog g (#[.func (.yield l) #[] #[]] ++ lb) W fun e W' => (∃ v, e = .returned v) ∧ ((∃ xs, S xs ∧ J xs W') ∨ ∃ pre, Sp pre ∧ Jx pre W')
/- How a round may end: it goes on, or the loop is left by the exit q; the two blocks at D are as they were. -/
def rdPost {α : Type} (D q : Nat) (Kp : World → World → Prop) (I Ix : List α → World → Prop) (xs : List α) (W : World) : Exit → Act → World → Prop
  | .normal, _, W' => (W'.heap[D]? = W.heap[D]? ∧ W'.heap[D + 1]? = W.heap[D + 1]?) ∧ Kp W W' ∧ I xs W'
  | .exit id, _, W' => id = q ∧ (W'.heap[D]? = W.heap[D]? ∧ W'.heap[D + 1]? = W.heap[D + 1]?) ∧ Ix xs W'
  | _, _, _ => False
theorem range_own {α : Type} {n q gf : Nat} {g : Operand} {p : Tmp} {assign body : Code} {Q : Exit → Act → World → Prop} {a : Act} {w : World} {lb : Array Value} (h1 : 1 ≤ n)
    (hg : a.eval g = .func (.func gf) #[] lb) (eg : ∀ args w, (callFunc gf args).run Try.prog w = .ok (.enter gf args) w)
    {enc : α → Value} {Kp : World → World → Prop} {S Sp : List α → Prop} {N : Nat} (hseq : SeqW Fence.wide (n - 1) gf lb (fun x => #[enc x]) Kp S Sp N w)
    (hKt : ∀ {A B C : World}, Kp A B → Kp B C → Kp A C) (hKb : ∀ (W : World) (l : Nat) (o o' : Obj), w.heap.size ≤ l → W.heap[l]? = some o → o.isCells = false → o.isWalk = false → Kp W (W.putObj l o'))
    (I Ix : List α → World → Prop) (h0 : I [] w)
    (hI : ∀ s A A' row, I s A → A.grownBy A' row → (∀ r, row = some r → w.heap.size ≤ r) → I s A')
    (hIx : ∀ s A A' row, Ix s A → A.grownBy A' row → (∀ r, row = some r → w.heap.size ≤ r) → Ix s A')
    (aft : α → Act)
    (hassign : ∀ (l : Nat) (x : α) (W : World) (K : Act → World → Prop), K (aft x) W → assign.wpIn (Fence.wide.inRound l) (n - 1 - 1) Try.prog (Exit.then K (fun _ _ _ => False)) { tmps := a.tmps.setIfInBounds p (enc x), defers := [] } W)
    (hbody : ∀ (l : Nat) (pre : List α) (x : α) (W : World), w.heap.size + 2 ≤ W.heap.size → I pre W → pre.length < N → body.wpIn (Fence.wide.inRound l) (n - 1 - 1) Try.prog (rdPost w.heap.size q Kp I Ix (pre ++ [x]) W) (aft x) W)
    (hdone : ∀ (xs : List α) (W : World), S xs → I xs W → W.heap[w.heap.size]? = some (.deferred (some [])) → Q .normal { a with defers := { target := .collected w.heap.size, args := #[] } :: a.defers } W)
    (hstop : ∀ (pre : List α) (W : World), Sp pre → Ix pre W → W.heap[w.heap.size]? = some (.deferred (some [])) → Q (.exit q) { a with defers := { target := .collected w.heap.size, args := #[] } :: a.defers } W) :
    (Code.rangeFunc g #[p] assign body).wpIn Fence.wide n Try.prog Q a w := by
  refine wpIn_rangeFunc fun fn hfn => ?_
  obtain ⟨R, hR⟩ : ∃ R : LoopState → Option Code → Loop, R = fun st pe => { state := st, pending := pe, fn := fn, tmps := a.tmps, params := #[p], assign := assign, body := body, defers := w.heap.size } := ⟨_, rfl⟩
  obtain ⟨V, hV⟩ : ∃ V, V = (w.alloc (.deferred (some []))).alloc (.loop (R .ready none)) := ⟨_, rfl⟩
  have bV : Below w.heap.size w V := by rw [hV]; exact ((Below.refl _ _).alloc (Nat.le_refl _) _).alloc (by rw [World.size_alloc]; omega) _
  have zV : V.heap.size = w.heap.size + 2 := by rw [hV]; simp
  have gV : w.grownBy V none := below_grown bV
  have lV : V.heap[w.heap.size + 1]? = some (.loop (R .ready none)) := by
    have := heap_alloc_new (w.alloc (.deferred (some []))) (.loop (R .ready none))
    rw [World.size_alloc] at this
    rw [hV]; exact this
  have dV : V.heap[w.heap.size]? = some (.deferred (some [])) := by
    rw [hV, Below.heap_alloc _ _ _ (by simp)]; exact heap_alloc_new w _
  have step : ∀ (X : World) (o : Obj), X.grownBy (X.putObj (w.heap.size + 1) o) (some (w.heap.size + 1)) := fun X o => grownBy_putObj' X _ o
  have up : ∀ r, some (w.heap.size + 1) = some r → w.heap.size ≤ r := fun r e => by cases e; omega
  refine ⟨w.heap.size + 1, [{ target := .collected w.heap.size, args := #[] }], V, { target := .fn (.func gf) lb, args := #[.func (.yield (w.heap.size + 1)) #[] #[]] }, V, gf, #[.func (.yield (w.heap.size + 1)) #[] #[]] ++ lb, V, ?_, ?_, fun _ _ => trivial, ?_, fun _ => h1, ?_⟩
  · rw [hV, hR]; exact run_enterLoop_outer fn a.tmps #[p] assign body
  · simp only [resolve, hg]; simp [go_sem]
  · simp [invoke, go_sem, eg]
  refine (hseq (w.heap.size + 1) (fun s X => I s X ∧ X.heap[w.heap.size]? = some (.deferred (some [])) ∧ X.heap[w.heap.size + 1]? = some (.loop (R .ready none))) (fun s X => Ix s X ∧ X.heap[w.heap.size]? = some (.deferred (some [])) ∧ X.heap[w.heap.size + 1]? = some (.loop (R .done (some (.exit q))))) V bV bV.size ?_ ?_ ⟨hI _ _ _ none h0 gV (fun r e => by cases e), dV, lV⟩).mono ?_
  · rintro s A A' row ⟨i1, i2, i3⟩ hgr hr
    have hk : ∀ j, j < w.heap.size + 2 → j < A.heap.size → A'.heap[j]? = A.heap[j]? := fun j hj hl => hgr.block j hl (fun e => by have := hr j e.symm; omega)
    exact ⟨hI _ _ _ row i1 hgr (fun r e => by have := hr r e; omega), (hk _ (by omega) (lt_of_heap i2)).trans i2, (hk _ (by omega) (lt_of_heap i3)).trans i3⟩
  · rintro pre x X ⟨i1, i2, i3⟩ hlen
    have hlt := lt_of_heap i3
    have hy := run_yield (P := Try.prog) (args := #[enc x]) i3 (by rw [hR]; rfl)
    rw [hR] at hy
    refine ⟨fn, _, assign, body, hy, roundIn_of_wpIn hfn ?_⟩
    have et : (#[p].zip #[enc x]).foldl (fun (tmps : Array Value) (y : Tmp × Value) => match y with | (t, b) => tmps.setIfInBounds t b) a.tmps = a.tmps.setIfInBounds p (enc x) := by simp
    show Code.wpIn _ _ _ _ _ { tmps := (#[p].zip #[enc x]).foldl (fun (tmps : Array Value) (y : Tmp × Value) => match y with | (t, b) => tmps.setIfInBounds t b) a.tmps, defers := [] } X
    rw [et]
    refine hassign _ x X _ ?_
    refine ⟨_, run_beginRound i3 (by rw [hR]), ?_⟩
    obtain ⟨Y, hY⟩ : ∃ Y, Y = X.putObj (w.heap.size + 1) (.loop { R .ready none with state := .busy }) := ⟨_, rfl⟩
    have yl : Y.heap[w.heap.size + 1]? = some (.loop { R .ready none with state := .busy }) := by rw [hY]; exact World.putObj_heap_same hlt
    have yd : Y.heap[w.heap.size]? = some (.deferred (some [])) := by rw [hY]; exact (World.putObj_heap_other (by omega)).trans i2
    have yi : I pre Y := by rw [hY]; exact hI _ _ _ _ i1 (step X _) up
    have yk : Kp X Y := by rw [hY]; exact hKb _ _ _ _ (by omega) i3 rfl rfl
    rw [← hY]
    refine wpIn_mono (hbody _ pre x Y (lt_of_heap yl) yi hlen) ?_
    have fin : ∀ (jump : Option Code) (Z : World), Z.heap[w.heap.size]? = Y.heap[w.heap.size]? ∧ Z.heap[w.heap.size + 1]? = Y.heap[w.heap.size + 1]? →
        (Instr.endRound (w.heap.size + 1) jump).run Try.prog Z = .ok (.bool jump.isNone) (Z.putObj (w.heap.size + 1) (.loop (R (if jump.isNone then .ready else .done) jump))) ∧
        (Z.putObj (w.heap.size + 1) (.loop (R (if jump.isNone then .ready else .done) jump))).heap[w.heap.size]? = some (.deferred (some [])) ∧
        (Z.putObj (w.heap.size + 1) (.loop (R (if jump.isNone then .ready else .done) jump))).heap[w.heap.size + 1]? = some (.loop (R (if jump.isNone then .ready else .done) jump)) ∧ Kp Z (Z.putObj (w.heap.size + 1) (.loop (R (if jump.isNone then .ready else .done) jump))) := fun jump Z hz => by
      have z2 := hz.2.trans yl
      have hrun := run_endRound (P := Try.prog) jump z2
      refine ⟨?_, (World.putObj_heap_other (by omega)).trans (hz.1.trans yd), World.putObj_heap_same (lt_of_heap z2), hKb _ _ _ _ (by omega) z2 rfl rfl⟩
      rw [hR] at hrun ⊢
      exact hrun
    intro e b Z hp
    cases e with
    | normal =>
      obtain ⟨hz, hk, hi⟩ := hp
      obtain ⟨hr, f1, f2, f3⟩ := fin none Z hz
      exact ⟨_, _, hr, .inl ⟨rfl, ⟨hI _ _ _ _ hi (step Z _) up, f1, f2⟩, hKt (hKt yk hk) f3⟩⟩
    | exit id =>
      obtain ⟨rfl, hz, hi⟩ := hp
      obtain ⟨hr, f1, f2, f3⟩ := fin (some (.exit id)) Z hz
      exact ⟨_, _, hr, .inr ⟨rfl, hIx _ _ _ _ hi (step Z _) up, f1, f2⟩⟩
    | ret => exact hp.elim
    | goto t => exact hp.elim
    | panic c => exact hp.elim
    | outgrown => exact hp.elim
  · rintro e Z ⟨⟨v, rfl⟩, (⟨xs, hS, i1, i2, i3⟩ | ⟨pre, hS, i1, i2, i3⟩)⟩
    · refine ⟨none, _, by have := run_endLoop (P := Try.prog) i3 (by rw [hR]; simp); rw [hR] at this; exact this, ?_⟩
      exact hdone xs _ hS (hI _ _ _ _ i1 (step Z _) up) ((World.putObj_heap_other (by omega)).trans i2)
    · refine ⟨some (.exit q), _, by have := run_endLoop (P := Try.prog) i3 (by rw [hR]; simp); rw [hR] at this; exact this, ?_⟩
      exact wpIn_exit (hstop pre _ hS (hIx _ _ _ _ i1 (step Z _) up) ((World.putObj_heap_other (by omega)).trans i2))
end Go.Proofs.Ytmhjnfibpngpmaa

namespace Go.Proofs.Ytmhjnfibpngpmaa
set_option maxRecDepth 100000
open Go.RowKit Go.Deep Go.Shelf
set_option linter.unusedVariables false
set_option linter.unusedSimpArgs false
attribute [local go_sem] Oper.semAt_some
theorem noGoto_ret20 {Q : Exit → Act → World → Prop} {a : Act} {w : World} (h : Q .ret a w) : Exit.noGoto Q .ret a w := h
theorem noGoto_nor20 {Q : Exit → Act → World → Prop} {a : Act} {w : World} (h : Q .normal a w) : Exit.noGoto Q .normal a w := h
/- What the ways tell. -/
def Ways20 (w0 : World) (cnt Fb : Nat) (ways : Nat → List Nat) : Prop := ∀ (W : World) (i : Nat), Below w0.heap.size w0 W → i < cnt → Calls Try.prog 78 #[.int .i64 (i : Int), .pointer (some ⟨Fb, 0, none⟩)] W fun e W' => ∃ a c, e = .returned (.slice a (ways i).length c) ∧ GRow W' W.heap.size a (ways i).length c (ofN (ways i)) ∧ Below W.heap.size W W'

set_option maxRecDepth 100000 in
set_option maxHeartbeats 2000000 in
theorem walk20_in (w0 : World) (cnt Fb : Nat) (ways : Nat → List Nat) (h0 : 0 < cnt) (hcn : cnt ≤ 10000) (hwl : ∀ i, (ways i).length ≤ 2) (hwt : ∀ i, i < cnt → ∀ t ∈ ways i, t < cnt) (hW : Ways20 w0 cnt Fb ways) (n : Nat) (hn : 1 ≤ n) (l C1 C2 L T : Nat)
    (d1 : C1 ≠ L) (d2 : C1 ≠ T) (d3 : C2 ≠ L) (d4 : C2 ≠ T)
    (J Jx : List (Fin cnt) → World → Prop)
    (hY : ∀ pre x W, J pre W → pre.length < cnt → YieldAt Fence.wide (n - 1) Try.prog l (f_encF x) W fun e W' =>
      (e = .returned (.bool true) ∧ J (pre ++ [x]) W' ∧ KW w0.heap.size L T W W') ∨ (e = .returned (.bool false) ∧ Jx (pre ++ [x]) W'))
    (W : World) (hb : Below w0.heap.size w0 W) (hC1 : W.heap[C1]? = some (.cells #[.int .i64 (cnt : Int)] 3 (0, 0))) (hC2 : W.heap[C2]? = some (.cells #[.func (.func 78) #[] #[.pointer (some ⟨Fb, 0, none⟩)]] 157 (0, 0))) (hL : L < W.heap.size) (hT : T < W.heap.size)
    (hJa : ∀ s A A' row, J s A → A.grownBy A' row → (∀ r, row = some r → W.heap.size ≤ r) → J s A') (hJ0 : J [] W) :
    CallsIn Fence.wide n Try.prog 151 #[.func (.yield l) #[] #[], .pointer (some ⟨C1, 0, none⟩), .pointer (some ⟨C2, 0, none⟩)] W fun e W' => (∃ v, e = .returned v) ∧
      ((∃ ys : List (Fin cnt), (∀ x : Nat, x ∈ vals ys ↔ Rch ways x) ∧ J ys W') ∨ (∃ pre : List (Fin cnt), ((vals pre).Nodup ∧ ∀ x ∈ vals pre, Rch ways x) ∧ Jx pre W')) := by
  refine callsIn_of_wp Try.func151 rfl trivial ?_ rfl
  simp only [Try.ntmps151, List.size_toArray, List.length_cons, List.length_nil, Nat.reduceAdd, Nat.reduceSub, Array.replicate_succ, Array.replicate_zero, List.push_toArray, List.append_toArray, List.nil_append, List.cons_append]
  have hcI : (cnt : Int) ≤ 10000 := by omega
  have hcI0 : (0 : Int) < (cnt : Int) := by omega
  have HY := hid hY
  have HJa := hid hJa
  obtain ⟨fn', tmps, assign, body, hy, hRd⟩ := HY.out [] ⟨0, h0⟩ W hJ0 h0
  have hRd' : RoundIn Fence.wide (n - 1) Try.prog l fn' tmps assign body W (fun e W' => ∃ b : Bool, e = .returned (.bool b) ∧ ((b = true → J ([] ++ [⟨0, h0⟩]) W' ∧ KW w0.heap.size L T W W') ∧ (b = false → Jx ([] ++ [⟨0, h0⟩]) W'))) := by
    refine hRd.mono ?_
    rintro e W' (⟨rfl, h1, h2⟩ | ⟨rfl, h1⟩)
    · exact ⟨true, rfl, ⟨fun _ => ⟨h1, h2⟩, fun h => (by cases h)⟩⟩
    · exact ⟨false, rfl, ⟨fun h => (by cases h), fun _ => h1⟩⟩
  clear hRd
  have HRd := hid hRd'
  rw [show f_encF (⟨0, h0⟩ : Fin cnt) = #[.int .i64 0] from rfl] at hy
  have HC1 := hid hC1
  have HC2 := hid hC2
  have HB := hid hb
  have HW := hid hW
  have HJ0 := hid hJ0
  clear hRd' hY hJa hC1 hC2 hb hW hJ0
  refine wpIn_scope_wide ?_
  gi_wp2
  refine (Hid.out HRd).mono ?_
  rintro e W1 ⟨bb, rfl, hor⟩
  cases bb with
  | false =>
    have hor' := hor.2 rfl
    gi_wp2
    refine noGoto_ret20 ?_
    refine bodyPost_ret (results_none rfl _ _ _) rfl ?_
    exact ⟨⟨_, rfl⟩, .inr ⟨_, ⟨by simp [vals], fun x hx => by simp [vals] at hx; subst hx; exact .zero⟩, hor'⟩⟩
  | true =>
    have hor' := hor.1 rfl
    have HJ1 := hid hor'.1
    have HK1 := hid hor'.2
    have k1 := HK1.out.2 _ _ _ _ d1 d2 HC1.out
    have k2 := HK1.out.2 _ _ _ _ d3 d4 HC2.out
    have e1 := cellOf k1 0
    have e2 := cellOf k2 0
    have hl1 := lt_of_heap k1
    have hl2 := lt_of_heap k2
    have hz1 : W.heap.size ≤ W1.heap.size := HK1.out.1.size
    obtain ⟨SB, hSB⟩ : ∃ SB, SB = W1.heap.size := ⟨_, rfl⟩
    have mkB := run_mkB W1 cnt (by omega)
    have mk0 : (mk cnt [])[0]? = some (.bool false) := by rw [mk_get h0]; simp
    obtain ⟨Ws, hWs⟩ : ∃ Ws, Ws = (W1.alloc (.cells ((mk cnt []).setIfInBounds 0 (.bool true)) 4)).alloc (.cells #[.int .i64 0] 3) := ⟨_, rfl⟩
    have bs : Below W1.heap.size W1 Ws := by rw [hWs]; exact ((Below.refl _ _).alloc (Nat.le_refl _) _).alloc (by rw [World.size_alloc]; omega) _
    have zs : Ws.heap.size = SB + 2 := by rw [hWs, hSB]; simp
    have ms : Ws.heap[SB]? = some (.cells (mk cnt [0]) 4 (0, 0)) := by
      have := heap_alloc_new W1 (.cells ((mk cnt []).setIfInBounds 0 (.bool true)) 4)
      rw [hWs, hSB, Below.heap_alloc _ _ _ (by simp), this, mk_snoc [] h0]
      rfl
    have mo : Ws.heap[SB + 1]? = some (.cells #[.int .i64 0] 3 (0, 0)) := by
      have := heap_alloc_new (W1.alloc (.cells ((mk cnt []).setIfInBounds 0 (.bool true)) 4)) (.cells #[.int .i64 0] 3)
      rw [World.size_alloc] at this
      rw [hWs, hSB]; exact this
    have HK : Hid (WkR w0 C1 C2 SB cnt (.func (.func 78) #[] #[.pointer (some ⟨Fb, 0, none⟩)]) [0] Ws) := hid ⟨(HB.out.trans HK1.out.1).trans (bs.mono (by have := HB.out.size; omega)), (bs.block _ hl1).trans k1, (bs.block _ hl2).trans k2, ms⟩
    have HG : Hid (GRow Ws (SB + 1) (some ⟨SB + 1, 0, none⟩) 1 1 (ofN [0])) := hid ⟨rfl, Nat.le_refl _, fun x ex => by cases ex; exact ⟨_, rfl, by omega, by omega⟩, fun _ => ⟨_, _, rfl, mo, Nat.le_refl _, rfl⟩⟩
    have HJ : Hid (J [⟨0, h0⟩] Ws) := hid (HJa.out _ _ _ none HJ1.out (below_grown bs) (by simp))
    have hC1s : C1 < SB := by omega
    have hC2s : C2 < SB := by omega
    have hLs : L < SB := by omega
    have hTs : T < SB := by omega
    have hSw : W.heap.size ≤ SB := by omega
    have hS0 : w0.heap.size ≤ SB := by have := HB.out.size; omega
    have HSB := hid hSB
    clear hor hor' HRd hy bs zs ms mo k1 k2 HJ0 hl1 hl2 hz1
    gi_wp2
    refine wpIn_label ?_
    rw [← hSB, ← hWs]
    clear mkB hWs e1 e2 mk0 HSB hSB HC1 HC2 HJ1 HK1
    gi_wp2
    gi_loopg [5] (2 * (cnt - 1) + 1) (fun g x wr => ∃ (pre : List (Fin cnt)) (op : List Nat) (a : Option Addr) (m c : Nat), x = .slice a m c ∧ m = op.length ∧ 2 * (cnt - pre.length) + op.length = g ∧ pre.length ≤ cnt ∧ op.length ≤ pre.length ∧ GRow wr (SB + 1) a m c (ofN op) ∧ WkR w0 C1 C2 SB cnt (.func (.func 78) #[] #[.pointer (some ⟨Fb, 0, none⟩)]) (vals pre) wr ∧ J pre wr ∧ Good cnt ways (vals pre) op)
    case atStart => exact ⟨[⟨0, h0⟩], [0], _, _, _, rfl, rfl, by simp, h0, Nat.le_refl _, HG.out, HK.out, HJ.out, Good.start h0⟩
    case round =>
      obtain ⟨pre, op, a, m, c, rfl, hm, hg, hpc, hop, hGr, hWk, hJr, hGd⟩ := hrel
      rcases List.eq_nil_or_concat op with rfl | ⟨op', fr, rfl⟩
      · have hm0 : m = 0 := hm
        subst hm0
        have HJ2 := hid hJr
        have HG2 := hid hGd
        clear hGr hWk hJr hGd HG HK HJ hg hm
        gi_wp2
        refine noGoto_nor20 ?_
        go_end0
        exact ⟨⟨_, rfl⟩, .inl ⟨pre, HG2.out.fin, HJ2.out⟩⟩
      · rw [List.concat_eq_append] at hg hop hGd hm hGr
        obtain ⟨k, hk⟩ : ∃ k, k = op'.length := ⟨_, rfl⟩
        have hm1 : m = k + 1 := by rw [hm, hk]; simp
        subst hm1
        have hfr : fr < cnt := hGd.lt _ (hGd.o _ (by simp))
        obtain ⟨g5, rfl, hBg, hcell, _⟩ := hGr.cell (j := k) (x := (fr : Int)) (by rw [ofN_snoc, hk, ← ofN_len]; simp)
        have e2 := cellOf hWk.c2 0
        simp only [List.getElem?_toArray, List.getElem?_cons_zero] at e2
        have hkI : ((k + 1 : Nat) : Int) - 1 = (k : Int) := by omega
        have hkI0 : (0 : Int) ≤ (k : Int) := by omega
        have hkI1 : (k : Int) < 10000 := by simp at hop; omega
        have hGc := hGr
        rw [ofN_snoc] at hGc
        have HGr := hid hGc.cut
        have hcap := hGr.nc
        have hgl := lt_of_heap hWk.s
        have hSr : W.heap.size ≤ wr.heap.size := by omega
        have K9 := hid (HW.out wr fr hWk.b hfr)
        have HWk := hid hWk
        have HJr := hid hJr
        have HGd := hid hGd.pop
        have Hg := hid hg
        have Hop := hid hop
        have Hk := hid hk
        clear hGr hGc hWk hJr hGd HG HK HJ hm hg hop hk
        gi_wp2_with (refine ⟨trivial, ?_⟩; gi_at_call 78; refine (callsIn_wide.2 (Hid.out K9)).mono ?_; rintro e w1 ⟨ra, rc, rfl, hrr, hb1⟩; have HRR := hid hrr; have HB1 := hid hb1; clear hrr hb1)
        obtain ⟨q, hq⟩ : ∃ q, q = (ways fr).length := ⟨_, rfl⟩
        have hqI : (q : Int) ≤ 2 := by have := hwl fr; omega
        have HRq : Hid (GRow w1 wr.heap.size ra q rc (ofN (ways fr))) := hid (by rw [hq]; exact HRR.out)
        rw [← hq]
        have Hq := hid hq
        have HWk1 := hid (HWk.out.below HB1.out)
        have HGr1 := hid (HGr.out.below (Nat.le_refl _) HB1.out)
        have HJr1 := hid (HJa.out _ _ _ none HJr.out (below_grown HB1.out) (by simp))
        have HGr0 := HGr
        clear hq HRR e2 hcell K9 HWk HGr HJr
        obtain ⟨gk0, hgk0⟩ : ∃ x, x = gk := ⟨_, rfl⟩
        obtain ⟨r0, hr0⟩ : ∃ x, x = wr.heap.size := ⟨_, rfl⟩
        rw [← hr0] at HRq hgl
        rw [← hgk0] at Hg
        gi_loopg [5, 35] q (fun g x y wr2 => ∃ (j : Nat) (pre2 : List (Fin cnt)) (op2 : List Nat) (a2 : Option Addr) (m5 c5 : Nat), y = .int .i64 (j : Int) ∧ j + g = q ∧ x = .slice a2 m5 c5 ∧ m5 = op2.length ∧ 2 * (cnt - pre2.length) + op2.length + 1 ≤ gk0 ∧ pre2.length ≤ cnt ∧ op2.length + 1 ≤ pre2.length ∧ (∀ x y : Addr, a2 = some x → ra = some y → x.block ≠ y.block) ∧ GRow wr2 (SB + 1) a2 m5 c5 (ofN op2) ∧ GRow wr2 r0 ra q rc (ofN (ways fr)) ∧ WkR w0 C1 C2 SB cnt (.func (.func 78) #[] #[.pointer (some ⟨Fb, 0, none⟩)]) (vals pre2) wr2 ∧ J pre2 wr2 ∧ Goin cnt ways fr j (vals pre2) op2)
        case atStart => exact ⟨0, pre, op', _, _, _, rfl, by omega, rfl, Hk.out, by have := Hg.out; simp at this; omega, hpc, by have := Hop.out; simpa using this, fun x y ex ey => by obtain ⟨g1, e1, h1, h2⟩ := HGr0.out.at' x ex; obtain ⟨g2, e2, h3, h4⟩ := HRq.out.at' y ey; subst e1; subst e2; show g1 ≠ g2; omega, HGr1.out, HRq.out, HWk1.out, HJr1.out, HGd.out⟩
        case round =>
          obtain ⟨j, pre2, op2, a2, m5, c5, rfl, hj, rfl, hm5, hg2, hpc2, hop2, hdj, hGr2, hRq2, hWk2, hJr2, hGd2⟩ := hrel
          cases gk with
          | zero =>
            have hjq : j = q := by omega
            subst hjq
            have HG3 : Hid (Good cnt ways (vals pre2) op2) := hid (by have := hGd2; rw [Hq.out] at this; exact this.done)
            have HGr3 := hid hGr2
            have HWk3 := hid hWk2
            have HJ3 := hid hJr2
            have HM5 := hid hm5
            have Hgk := hid hgk0
            clear hGr2 hWk2 hJr2 hGd2 hm5 hgk0 hr0 hRq2 HWk1 HGr1 HJr1 HRq HGd Hq Hk
            gi_wp2
            gi_roundg (2 * (cnt - pre2.length) + op2.length)
            case measure => have := Hgk.out; omega
            exact ⟨pre2, op2, _, _, _, rfl, HM5.out, rfl, hpc2, by omega, HGr3.out, HWk3.out, HJ3.out, HG3.out⟩
          | succ g =>
            obtain ⟨t, ht⟩ : ∃ t, (ways fr)[j]? = some t := ⟨(ways fr)[j]'(by have := Hq.out; omega), List.getElem?_eq_getElem _⟩
            have htc : t < cnt := hwt fr hfr t (List.mem_of_getElem? ht)
            obtain ⟨g6, rfl, hB6, hc6, _⟩ := hRq2.cell (ofN_get ht)
            have hj0 : (0 : Int) ≤ (j : Int) := by omega
            have hj1 : (j : Int) < (q : Int) := by omega
            have ht0 : (0 : Int) ≤ (t : Int) := by omega
            have ht1 : (t : Int) < (cnt : Int) := by omega
            have hsc := cellOf hWk2.s t
            rw [mk_get htc] at hsc
            have Hm5 := hid hm5
            have Ht := hid ht
            have Hgk := hid hgk0
            by_cases hin : t ∈ vals pre2
            · rw [decide_eq_true hin] at hsc
              have HGr3 := hid hGr2
              have HWk3 := hid hWk2
              have HJ3 := hid hJr2
              have HRq3 := hid hRq2
              have HG3 := hid (hGd2.skip ht hin)
              clear hGr2 hWk2 hJr2 hGd2 hm5 hgk0 hr0 hRq2 HWk1 HGr1 HJr1 HRq HGd Hk ht
              gi_wp2
              gi_roundg g
              case measure => omega
              exact ⟨j + 1, pre2, op2, _, _, _, by go_num, by omega, rfl, Hm5.out, hg2, hpc2, hop2, hdj, HGr3.out, HRq3.out, HWk3.out, HJ3.out, HG3.out⟩
            · rw [decide_eq_false hin] at hsc
              have hroom : pre2.length < cnt := by have := hGd2.room hin htc; rw [vals_len] at this; exact this
              obtain ⟨fn2, tmps2, assign2, body2, hy2, hRd2⟩ := HY.out pre2 ⟨t, htc⟩ _ hJr2 hroom
              have hRd3 : RoundIn Fence.wide (n - 1) Try.prog l fn2 tmps2 assign2 body2 wr (fun e W' => ∃ b : Bool, e = .returned (.bool b) ∧ ((b = true → J (pre2 ++ [⟨t, htc⟩]) W' ∧ KW w0.heap.size L T wr W') ∧ (b = false → Jx (pre2 ++ [⟨t, htc⟩]) W'))) := by
                refine hRd2.mono ?_
                rintro e W' (⟨rfl, h1, h2⟩ | ⟨rfl, h1⟩)
                · exact ⟨true, rfl, ⟨fun _ => ⟨h1, h2⟩, fun h => (by cases h)⟩⟩
                · exact ⟨false, rfl, ⟨fun h => (by cases h), fun _ => h1⟩⟩
              rw [show f_encF (⟨t, htc⟩ : Fin cnt) = #[.int .i64 (t : Int)] from rfl] at hy2
              have HRd3 := hid hRd3
              have HGr3 := hid hGr2
              have HWk3 := hid hWk2
              have HJ3 := hid hJr2
              have HRq3 := hid hRq2
              have HG3 := hid (hGd2.take ht hin htc)
              have Hr0 : Hid (SB < r0) := hid hgl
              clear hGr2 hWk2 hJr2 hGd2 hm5 hgk0 hr0 hRq2 HWk1 HGr1 HJr1 HRq HGd Hk ht hRd2 hRd3
              gi_wp2
              refine (Hid.out HRd3).mono ?_
              rintro e W3 ⟨bb, rfl, hor⟩
              cases bb with
              | false =>
                have hor' := hor.2 rfl
                gi_wp2
                refine noGoto_nor20 ?_
                go_end0
                exact ⟨⟨_, rfl⟩, .inr ⟨_, ⟨by rw [vals_snoc]; exact HG3.out.nod, fun x hx => by rw [vals_snoc] at hx; exact HG3.out.rch x hx⟩, hor'⟩⟩
              | true =>
                have hor' := hor.1 rfl
                have HJ4 := hid hor'.1
                have hk4 := hor'.2
                have HWk4 := hid (HWk3.out.kw hk4 d1 d2 d3 d4 (by omega) (by omega))
                have HGr4 := hid (HGr3.out.kw hk4 (by omega) (by omega))
                have HRq4 := hid (HRq3.out.kw hk4 (by omega) (by omega))
                have hsc4 := cellOf HWk4.out.s t
                rw [mk_get htc, decide_eq_false hin] at hsc4
                have hsf4 := freeOf HWk4.out.s t
                have hSl := lt_of_heap HWk4.out.s
                have HWk5 := hid (HWk4.out.set (x := t) htc (by omega) (by omega) hS0)
                obtain ⟨W4, hW4⟩ : ∃ W4, W4 = W3.setCell ⟨SB, t, none⟩ (.bool true) := ⟨_, rfl⟩
                rw [← hW4] at HWk5
                have hz4 : W4.heap.size = W3.heap.size := by rw [hW4]; simp [World.setCell]
                have hkp : ∀ b, b ≠ SB → W4.heap[b]? = W3.heap[b]? := fun b hb => by rw [hW4]; exact Below.heap_setCell _ _ _ _ hb
                have HGr5 : Hid (GRow W4 (SB + 1) a2 m5 c5 (ofN op2)) := hid (HGr4.out.keep (by omega) (fun x ex => by obtain ⟨g', rfl, h1, h2⟩ := HGr4.out.at' x ex; exact hkp g' (by omega)))
                have HRq5 : Hid (GRow W4 r0 (some ⟨g6, 0, none⟩) q rc (ofN (ways fr))) := hid (HRq4.out.keep (by omega) (fun x ex => by obtain ⟨g', rfl, h1, h2⟩ := HRq4.out.at' x ex; exact hkp g' (by show g' ≠ SB; omega)))
                have HJ5 : Hid (J (pre2 ++ [⟨t, htc⟩]) W4) := hid (HJa.out _ _ _ (some SB) HJ4.out (by rw [hW4]; exact ⟨rfl, rfl, rfl, by simp [World.setCell], fun i hi hne => Below.heap_setCell _ _ _ _ (fun e => hne (by rw [e]))⟩) (fun b e => by cases e; exact hSw))
                have hm5b : m5 ≤ 1000000 := by have := Hm5.out; omega
                have hS5 : SB + 1 ≤ W4.heap.size := by omega
                clear hor hor' hk4 hy2 hsc hc6 hz4 hkp
                gi_upto_region 13 with fail
                rw [← hW4]
                clear hW4 hsc4 hsf4
                gi_wp2_with (gi_at_builtin; refine wpListIn_app1 W4 rfl _ _ rfl a2 m5 c5 (t : Int) (by rfl) (by rfl) (SB + 1) (ofN op2) HGr5.out hm5b hS5 ?_; intro a5 c6 W5 hg5 hgw5; have HG5 := hid hg5; have HW5 := hid hgw5; clear hg5 hgw5)
                obtain ⟨⟨row, hgr, hrow⟩, hnew⟩ := HW5.out
                have hrb : ∀ b, row = some b → SB + 1 ≤ b ∧ b ≠ g6 := fun b e => by
                  obtain ⟨x, ex, rfl⟩ := hrow b e
                  obtain ⟨g', rfl, h1, h2⟩ := HGr5.out.at' x ex
                  exact ⟨h1, hdj _ _ ex rfl⟩
                have hg6 : g6 < W4.heap.size := by
                  obtain ⟨g', e, h1, h2⟩ := HRq5.out.at' _ rfl
                  cases e; exact h2
                have ba : Below W4.heap.size W4 (W4.alloc (.cells #[.int .i64 (t : Int)] 3)) := (Below.refl _ _).alloc (Nat.le_refl _) _
                gi_roundg g
                case measure => omega
                refine ⟨j + 1, pre2 ++ [⟨t, htc⟩], op2 ++ [t], a5, m5 + 1, c6, by go_num, by omega, rfl, by rw [List.length_append, Hm5.out]; rfl, by simp only [List.length_append, List.length_cons, List.length_nil]; omega, by simp only [List.length_append, List.length_cons, List.length_nil]; omega, by simp only [List.length_append, List.length_cons, List.length_nil]; omega, ?_, by rw [ofN_snoc]; exact HG5.out, ?_, ?_, ?_, by rw [vals_snoc]; exact HG3.out⟩
                · intro x y ex ey
                  cases ey
                  rcases hnew with h | ⟨g', h, hg'⟩
                  · exact hdj x _ (h.symm.trans ex) rfl
                  · rw [ex] at h; cases h; show g' ≠ g6; rw [World.size_alloc] at hg'; omega
                · exact (HRq5.out.below (Nat.le_refl _) ba).keep hgr.size (fun x ex => by
                    cases ex
                    exact hgr.block g6 (by rw [World.size_alloc]; omega) (fun e => (hrb g6 e.symm).2 rfl))
                · rw [vals_snoc]
                  exact (HWk5.out.below ba).grown hgr (fun b e => by have := (hrb b e).1; exact ⟨by omega, by omega, by omega, by omega⟩)
                · exact HJa.out _ _ _ row (HJa.out _ _ _ none HJ5.out (below_grown ba) (fun r e => by cases e)) hgr (fun b e => by have := (hrb b e).1; omega)
end Go.Proofs.Ytmhjnfibpngpmaa

