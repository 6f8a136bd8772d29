/- heap.entries: what a range over it hands on. -/
import Derived.Test.YtenfgahedbeekaaJAF
namespace Go.Proofs.Ytenfgahedbeekaa
open Go.RowKit Go.Deep Go.Shelf
set_option linter.unusedVariables false
set_option linter.unusedSimpArgs false
attribute [local go_sem] Oper.semAt_some

/- What a round keeps: all below, and the two boxes. -/
def KB (n₀ Bx By : Nat) (W W' : World) : Prop := Below n₀ W W' ∧ W'.heap[Bx]? = W.heap[Bx]? ∧ W'.heap[By]? = W.heap[By]?
theorem KB_t {n₀ Bx By : Nat} {A B C : World} (h : KB n₀ Bx By A B) (k : KB n₀ Bx By B C) : KB n₀ Bx By A C := ⟨h.1.trans k.1, k.2.1.trans h.2.1, k.2.2.trans h.2.2⟩
theorem KB_b {n₀ Bx By : Nat} {w : World} (hn : n₀ ≤ w.heap.size) (hB : Bx < w.heap.size) (hC : By < w.heap.size) (W : World) (l : Nat) (o o' : Obj) (hl : w.heap.size ≤ l) (h : W.heap[l]? = some o) (hc : o.isCells = false) (hw : o.isWalk = false) : KB n₀ Bx By W (W.putObj l o') :=
  ⟨belowK_b hn W l o o' hl h hc hw, (grownBy_putObj' W l o').block Bx (by have := (Array.getElem?_eq_some_iff.1 h).1; omega) (fun e => by cases e; omega), (grownBy_putObj' W l o').block By (by have := (Array.getElem?_eq_some_iff.1 h).1; omega) (fun e => by cases e; omega)⟩
theorem KB_of {n₀ Bx By : Nat} {W W' : World} (h : Below W.heap.size W W') (hn : n₀ ≤ W.heap.size) (hB : Bx < W.heap.size) (hC : By < W.heap.size) : KB n₀ Bx By W W' := ⟨h.mono hn, h.block Bx hB, h.block By hC⟩
theorem below_grown {W W' : World} (h : Below W.heap.size W W') : W.grownBy W' none := ⟨h.os, h.tape, h.output, h.size, fun i hi _ => h.block i hi⟩
theorem finr (m k : Nat) (x : Fin m) (h : (List.finRange m)[k]? = some x) : x.val = k := by
  obtain ⟨h1, h2⟩ := List.getElem?_eq_some_iff.1 h
  rw [← h2]; simp
def encE {k : Nat} (r : Rw k) (x : Fin r.length) : Array Value := #[.int .i64 (x.val : Int), (enT k r[x]).v]

set_option maxRecDepth 100000 in
set_option maxHeartbeats 1000000 in
theorem entries1_in (k : Nat) (w0 : World) (sa : Option Addr) (sn sc : Nat) (ms : List (Sl × Rw k)) (hd : StR k w0 sa sn ms) (m : Int) (row : Rw k) (hrow : row = rowAt ms m) (n : Nat) (hn : 1 ≤ n) (l Bx By : Nat)
    (J Jx : List (Fin row.length) → World → Prop)
    (hY : ∀ pre x W, J pre W → pre.length < row.length → YieldAt Fence.wide (n - 1) Try.prog l (encE row x) W fun e W' =>
      (e = .returned (.bool true) ∧ J (pre ++ [x]) W' ∧ KB w0.heap.size Bx By W W') ∨ (e = .returned (.bool false) ∧ Jx (pre ++ [x]) W'))
    (W : World) (hb : Below w0.heap.size w0 W) (hBx : W.heap[Bx]? = some (.cells #[.slice sa sn sc] 27 (0, 0))) (hBy : W.heap[By]? = some (.cells #[.int .i64 m] 3 (0, 0)))
    (hJa : AbidesFrom W.heap.size J) (h0 : J [] W) :
    CallsIn Fence.wide n Try.prog 63 #[.func (.yield l) #[] #[], .pointer (some ⟨Bx, 0, none⟩), .pointer (some ⟨By, 0, none⟩)] W fun e W' => (∃ v, e = .returned v) ∧
      ((∃ ys, ys = List.finRange row.length ∧ J ys W') ∨ (∃ pre, (∃ i, i ≤ row.length ∧ pre = (List.finRange row.length).take i) ∧ Jx pre W')) := by
  refine callsIn_of_wp Try.func63 rfl trivial ?_ rfl
  simp only [Try.ntmps63, List.size_toArray, List.length_cons, List.length_nil, Nat.reduceAdd, Nat.reduceSub, Array.replicate_succ, Array.replicate_zero, List.push_toArray, List.append_toArray, List.nil_append, List.cons_append]
  have D := hid hd
  have Hn := hid hd.n1
  have hle := hd.n2
  have hle2 : (sn : Int) ≤ 1000 := by omega
  have K39 := hid (hasMap_any W sa sn sc m (by omega))
  have HBx := hid hBx
  have HBy := hid hBy
  have hlx : Bx < W.heap.size := (Array.getElem?_eq_some_iff.1 hBx).1
  have hly : By < W.heap.size := (Array.getElem?_eq_some_iff.1 hBy).1
  have c1 : W.cell? ⟨Bx, 0, none⟩ = some (.slice sa sn sc) := cellOf hBx 0
  have c2 : W.cell? ⟨By, 0, none⟩ = some (.int .i64 m) := cellOf hBy 0
  have hn0 : w0.heap.size ≤ W.heap.size := hb.size
  have Hb := hid hb
  clear hd hBx hBy hb
  cases hh : hasB sn m with
  | false =>
    simp only [hh] at K39
    have hr0 : row.length = 0 := by rw [hrow, rowAt_no Hn.out hh]; rfl
    have Hr0 := hid hr0
    clear hY hr0 hrow
    gi_wp2_with (refine ⟨trivial, ?_⟩; gi_at_call 39; refine (callsIn_wide.2 (Hid.out K39)).mono ?_; rintro e w1 ⟨rfl, hb1⟩)
    refine bodyPost_ret (results_none rfl _ _ _) rfl ?_
    refine ⟨⟨_, rfl⟩, .inl ⟨[], ?_, hJa _ _ _ none h0 (below_grown hb1) (by simp)⟩⟩
    exact (List.eq_nil_of_length_eq_zero (by rw [List.length_finRange, Hr0.out])).symm
  | true =>
    have hm : 0 ≤ m ∧ m < (sn : Int) := by simpa [hasB] using hh
    simp only [hh] at K39
    obtain ⟨i0, rfl⟩ : ∃ i0 : Nat, m = (i0 : Int) := ⟨m.toNat, by omega⟩
    have hi0 := hm.1
    have hi1 := hm.2
    obtain ⟨p, hp⟩ : ∃ p, ms[i0]? = some p := ⟨ms[i0]'(by rw [← Hn.out]; omega), List.getElem?_eq_getElem _⟩
    rw [rowAt_yes hp] at hrow
    obtain ⟨b, off, ea, dc⟩ := D.out.rd i0 p.1 (by rw [List.getElem?_map, hp]; rfl)
    subst ea
    have hel := (D.out.el p (List.mem_of_getElem? hp)).1
    obtain ⟨⟨ma, mn, mc⟩, mr⟩ := p
    simp only [Sl.v] at dc
    simp only at hel hrow
    subst hrow
    have dc1 : W.cell? ⟨b, off + i0, none⟩ = some (.slice ma mn mc) := (Hb.out.cell (p := ⟨b, off + i0, none⟩) (World.block_lt_of_cell? w0 _ dc)).trans dc
    have hmn2 := hel.n2
    have hmn3 : (mn : Int) ≤ 1000 := by omega
    have Hmn := hid hel.n1
    have Hel := hid hel
    have hfx : Hid (∀ w1 : World, Below W.heap.size W w1 → w1.cell? ⟨Bx, 0, none⟩ = some (.slice (some ⟨b, off, none⟩) sn sc) ∧ w1.cell? ⟨By, 0, none⟩ = some (.int .i64 (i0 : Int)) ∧ w1.cell? ⟨b, off + i0, none⟩ = some (.slice ma mn mc)) := hid (fun w1 h1 => ⟨(h1.cell (p := ⟨Bx, 0, none⟩) hlx).trans c1, (h1.cell (p := ⟨By, 0, none⟩) hly).trans c2, (h1.cell (p := ⟨b, off + i0, none⟩) (World.block_lt_of_cell? W _ dc1)).trans dc1⟩)
    have HY := hid hY
    have HJa := hid hJa
    have H0 := hid h0
    clear dc hp hel hh hm hY hJa h0 D dc1
    gi_wp2_with (refine ⟨trivial, ?_⟩; gi_at_call 39; refine (callsIn_wide.2 (Hid.out K39)).mono ?_; rintro e w1 ⟨rfl, hb1⟩; obtain ⟨y1, y2, y3⟩ := hfx.out w1 hb1; have HB1 := hid hb1; clear hb1 c1 c2)
    gi_loopw [16] (fun i wr => ∃ j : Nat, j ≤ mn ∧ i = .int .i64 j ∧ J ((List.finRange row.length).take j) wr ∧ KB w0.heap.size Bx By W wr)
      (fun i _ => mn - (intOf i).toNat)
    case atStart => exact ⟨0, Nat.zero_le _, rfl, HJa.out _ _ _ none H0.out (below_grown HB1.out) (by simp), KB_of HB1.out hn0 hlx hly⟩
    case round =>
      obtain ⟨j, hj, rfl, hJs, hnx⟩ := hrel
      by_cases hlt : j < mn
      · have hlt' : (j : Int) < (mn : Int) := by omega
        have hj0 : (0 : Int) ≤ (j : Int) := by omega
        obtain ⟨x, hx⟩ : ∃ x, (List.finRange row.length)[j]? = some x := ⟨(List.finRange row.length)[j]'(by rw [List.length_finRange, ← Hmn.out]; exact hlt), List.getElem?_eq_getElem _⟩
        have hix := finr _ _ x hx
        have hsz : W.heap.size ≤ wr.heap.size := hnx.1.size
        have hgx : row[j]? = some row[x] := by
          rw [List.getElem?_eq_some_iff]
          exact ⟨by rw [← Hmn.out]; exact hlt, by simp only [← hix]; rfl⟩
        obtain ⟨b1, o1, ea, dh⟩ := (Hel.out.below (Nat.le_refl _) (Hb.out.trans hnx.1)).rd j (enT k row[x]) (by rw [List.getElem?_map, hgx]; rfl)
        subst ea
        have d0 := dh 0 (by omega)
        have d1 := dh 1 (by omega)
        have d2 := dh 2 (by omega)
        have d3 := dh 3 (by omega)
        have d4 := dh 4 (by omega)
        have d5 := dh 5 (by omega)
        have d6 := dh 6 (by omega)
        have d7 := dh 7 (by omega)
        have d8 := dh 8 (by omega)
        have d9 := dh 9 (by omega)
        simp only [En.cs, enT, List.getElem?_cons_zero, List.getElem?_cons_succ, Nat.add_zero] at d0 d1 d2 d3 d4 d5 d6 d7 d8 d9
        obtain ⟨fn', tmps, assign, body, hy, hRd⟩ := HY.out _ x (wr.alloc (.cells (enT k row[x]).cs.toArray 81)) (HJa.out _ _ _ none hJs (World.grownBy_alloc _ _ _) (by simp)) (by rw [List.length_take, List.length_finRange, ← Hmn.out]; omega)
        have Htk : Hid ((List.finRange row.length).take (j + 1) = (List.finRange row.length).take j ++ [x]) := by refine hid ?_; rw [List.take_add_one, hx]; rfl
        have hRd' : RoundIn Fence.wide (n - 1) Try.prog l fn' tmps assign body (wr.alloc (.cells (enT k row[x]).cs.toArray 81)) (fun e W' => ∃ b : Bool, e = .returned (.bool b) ∧ ((b = true → J ((List.finRange row.length).take j ++ [x]) W' ∧ KB w0.heap.size Bx By (wr.alloc (.cells (enT k row[x]).cs.toArray 81)) W') ∧ (b = false → Jx ((List.finRange row.length).take j ++ [x]) W'))) := by
          refine hRd.mono ?_
          rintro e W' (⟨rfl, h1, h2⟩ | ⟨rfl, h1⟩)
          · exact ⟨true, rfl, ⟨fun _ => ⟨h1, h2⟩, fun h => (by cases h)⟩⟩
          · exact ⟨false, rfl, ⟨fun h => (by cases h), fun _ => h1⟩⟩
        clear hRd
        have Hnx := hid (KB_t hnx (KB_of ((Below.refl _ wr).alloc (Nat.le_refl _) (.cells (enT k row[x]).cs.toArray 81)) (by omega) (by omega) (by omega)))
        simp only [encE, En.v, En.cs, enT, hix] at hy hRd' Hnx
        generalize hdT k row[x].1 = hd1 at *
        generalize hdT k row[x].2 = hd2 at *
        obtain ⟨yk, yi, yt, yr, ya, yn, yc⟩ := hd1
        obtain ⟨zk, zi, zt, zr, za, zn, zc⟩ := hd2
        simp only at hy hRd' Hnx d0 d1 d2 d3 d4 d5 d6 d7 d8 d9
        have HRd := hid hRd'
        clear hRd' hnx hJs hx hgx dh hix hfx y1 y2 y3 HY
        gi_wp2
        refine (Hid.out HRd).mono ?_
        rintro e W3 ⟨bb, rfl, hor⟩
        cases bb with
        | true =>
          have hor' := hor.1 rfl
          gi_wp2
          go_roundw
          case rel => exact ⟨j + 1, by omega, by go_num, by rw [Htk.out]; exact hor'.1, KB_t Hnx.out hor'.2⟩
          case measure => simp [intOf]; omega
        | false =>
          have hor' := hor.2 rfl
          gi_wp2
          refine bodyPost_ret (results_none rfl _ _ _) rfl ?_
          exact ⟨⟨_, rfl⟩, .inr ⟨_, ⟨j + 1, by rw [← Hmn.out]; omega, Htk.out.symm⟩, hor'⟩⟩
      · obtain rfl : j = mn := by omega
        gi_wp2
        go_end0
        exact ⟨⟨_, rfl⟩, .inl ⟨_, rfl, by rw [Hmn.out, List.take_of_length_le (by rw [List.length_finRange]; exact Nat.le_refl _)] at hJs; exact hJs⟩⟩

theorem entries_stops (k : Nat) (w0 : World) (sa : Option Addr) (sn sc : Nat) (ms : List (Sl × Rw k)) (hd : StR k w0 sa sn ms) (m : Int) (row : Rw k) (hrow : row = rowAt ms m) (n : Nat) (hn : 1 ≤ n) (Bx By : Nat) (w : World)
    (hb : Below w0.heap.size w0 w) (hBx : w.heap[Bx]? = some (.cells #[.slice sa sn sc] 27 (0, 0))) (hBy : w.heap[By]? = some (.cells #[.int .i64 m] 3 (0, 0))) :
    SeqStopsK Fence.wide n Try.prog 63 #[.pointer (some ⟨Bx, 0, none⟩), .pointer (some ⟨By, 0, none⟩)] (encE row) (KB w0.heap.size Bx By) (fun ys => ys = List.finRange row.length) (fun pre => ∃ i, i ≤ row.length ∧ pre = (List.finRange row.length).take i) row.length w := fun l J Jx W hW hJa _ hY h0 =>
  entries1_in k w0 sa sn sc ms hd m row hrow n hn l Bx By J Jx hY W (hb.trans (hW.mono hb.size)) ((hW.block Bx (Array.getElem?_eq_some_iff.1 hBx).1).trans hBx) ((hW.block By (Array.getElem?_eq_some_iff.1 hBy).1).trans hBy) hJa h0

set_option maxHeartbeats 400000 in
theorem entries_in (F : Fence) (n : Nat) (h44 : F.fn 44) (hro : F.round = none) (v1 : Value) (h1 : v1.oneCell' = true) (m : Int) (w : World) :
    CallsIn F n Try.prog 44 #[.agg #[v1], .int .i64 m] w fun e w' => e = .returned (.func (.func 63) #[] #[.pointer (some ⟨w.heap.size, 0, none⟩), .pointer (some ⟨w.heap.size + 1, 0, none⟩)]) ∧ w' = (w.alloc (.cells #[v1] 27)).alloc (.cells #[.int .i64 m] 3) := by
  refine callsIn_of_wp Try.func44 rfl h44 ?_ hro
  simp only [Try.ntmps44, List.size_toArray, List.length_cons, List.length_nil, Nat.reduceAdd, Nat.reduceSub, Array.replicate_succ, Array.replicate_zero, List.push_toArray, List.append_toArray, List.nil_append, List.cons_append]
  gi_wp2
  go_ret
  exact ⟨rfl, rfl⟩
end Go.Proofs.Ytenfgahedbeekaa

namespace Go.Proofs.Ytenfgahedbeekaa
open Go.RowKit Go.Deep
set_option linter.unusedVariables false
set_option linter.unusedSimpArgs false

theorem encR_byt {fs : List Hd} (hs : fs.all simpleB = true) : Byt (encR fs) := by
  intro x hx
  simp only [encR, List.mem_flatMap] at hx
  obtain ⟨f, hf, hx⟩ := hx
  exact encS_byt (List.all_eq_true.1 hs f hf) x hx
theorem encV_byt {h : Hd} {fs : List Hd} (hp : plainB h fs = true) : Byt (encV h fs) := by
  by_cases hk : h.kind = 4
  · rw [plainB_rec hk] at hp
    simp only [Bool.and_eq_true, decide_eq_true_eq] at hp
    unfold encV
    rw [if_pos hk]
    intro x hx
    rcases List.mem_cons.1 hx with rfl | hx
    · decide
    · exact ((enc_byt _).append ((enc_byt _).append (encR_byt hp.2))) x hx
  · unfold encV
    rw [if_neg hk]
    unfold plainB at hp
    rw [if_neg hk] at hp
    exact encS_byt hp
theorem encV_le {h : Hd} {fs : List Hd} (hp : plainB h fs = true) (hin : h.In) (hn : h.n = fs.length) (hfs : ∀ f ∈ fs, f.In) : (encV h fs).length ≤ 1000 := by
  by_cases hk : h.kind = 4
  · rw [plainB_rec hk] at hp
    simp only [Bool.and_eq_true, decide_eq_true_eq] at hp
    unfold encV
    rw [if_pos hk]
    have h1 := enc_le h.rc.toNat (by omega)
    have h2 := enc_le h.n (by omega)
    have h3 := encR_le hp.2 hfs
    simp only [List.length_cons, List.length_append]
    omega
  · unfold encV
    rw [if_neg hk]
    unfold plainB at hp
    rw [if_neg hk] at hp
    have := encS_le hp hin
    omega
set_option maxRecDepth 10000 in
set_option maxHeartbeats 1000000 in
theorem heapAppend_any (w : World) (B : Nat) (v : Value) (xs : List Nat) (h : Hd) (fs : List Hd) (hin : h.In) (hn : h.n = fs.length) (hv : VRd w h.a fs) (hfs : ∀ f ∈ fs, f.In) (hp : plainB h fs = true) (hr : Row w B v xs) (hB : B ≤ w.heap.size) (hl : xs.length ≤ 1000000000) :
    Calls Try.prog 56 #[v, h.v] w fun e w' => ∃ v', e = .returned v' ∧ Row w' B v' (xs ++ encV h fs) ∧ Grw w v w' v' := by
  have K := hid (putValue_any (w.alloc (.cells h.v.cells 31)) h fs hin hn (hv.below (Nat.le_refl _) ((Below.refl _ _).alloc (Nat.le_refl _) _)) hfs)
  have hr0 := hr.alloc (.cells h.v.cells 31)
  have hby := encV_byt hp
  have hle := encV_le hp hin hn hfs
  rw [hp] at K
  simp only [↓reduceIte] at K
  obtain ⟨bs, hbs⟩ : ∃ bs, bs = encV h fs := ⟨_, rfl⟩
  rw [← hbs] at K hby hle ⊢
  obtain ⟨kind, int, text, rc, a, n, cap⟩ := h
  simp only [Hd.v, Value.cells] at K hr0 ⊢
  have Hby := hid hby
  clear hin hn hv hfs hp hbs hby
  go_enter Try.func56, Try.ntmps56
  have hl1 : xs.length ≤ 1099511627776 := by omega
  have hl2 : bs.length ≤ 1099511627776 := by omega
  have Hr := hid hr0
  clear hr hr0
  go_wp2_with (first
    | (go_at_call 83; (refine (Hid.out K).mono ?_; rintro e w1 ⟨hb1, u, rfl, hu⟩; have Hu := hid hu; have HB1 := hid hb1; have hs1 := hb1.size; rw [World.size_alloc] at hs1; clear hu hb1))
    | (at_builtin; refine wpList_appR _ rfl _ _ rfl _ _ (by rfl) (by rfl) B xs bs (Hr.out.below (Nat.le_refl _) HB1.out) (Hu.out.rd Hby.out) Hu.out.nilOf (by omega) hl1 hl2 ?_; intro v2 w2 hr2 hg2))
  go_ret
  exact ⟨_, rfl, hr2, Grw.unalloc (Grw.trans ⟨⟨HB1.out.os, HB1.out.tape, HB1.out.output, HB1.out.size, fun i hi _ => HB1.out.block i hi⟩, .inl rfl⟩ hg2)⟩
/- The bytes of a tree of values, an entry, a row, a state. -/
def plV (k : Nat) (v : VT (k + 2)) : Bool := plainB v.1 (v.2.map (hdT (k + 1)))
def encW (k : Nat) (v : VT (k + 2)) : List Nat := encV v.1 (v.2.map (hdT (k + 1)))
def encN (k : Nat) (q : VT (k + 2) × VT (k + 2)) : List Nat := encW k q.1 ++ encW k q.2
def encRw (k : Nat) (r : Rw (k + 2)) : List Nat := enc r.length ++ r.flatMap (encN k)
def encSt (k : Nat) (rows : List (Rw (k + 2))) : List Nat := rows.flatMap (encRw k)
theorem Rds.fin {k : Nat} {w : World} {v : VT (k + 2)} (hv : Rds (k + 2) w v) : ∀ f ∈ v.2.map (hdT (k + 1)), f.In := fun f hf => by
  simp only [List.mem_map] at hf
  obtain ⟨u, hu, rfl⟩ := hf
  exact (hv.2.2.2.2 u hu).1
theorem encW_le {k : Nat} {w : World} {v : VT (k + 2)} (hv : Rds (k + 2) w v) (hp : plV k v = true) : (encW k v).length ≤ 1000 :=
  encV_le hp hv.1 (by rw [List.length_map]; exact hv.2.1) hv.fin
theorem encW_byt {k : Nat} {v : VT (k + 2)} (hp : plV k v = true) : Byt (encW k v) := encV_byt hp
theorem heapAppendT_any (k : Nat) (w : World) (B : Nat) (v : Value) (xs : List Nat) (t : VT (k + 2)) (hv : Rds (k + 2) w t) (hp : plV k t = true) (hr : Row w B v xs) (hB : B ≤ w.heap.size) (hl : xs.length ≤ 1000000000) :
    Calls Try.prog 56 #[v, (hdT (k + 2) t).v] w fun e w' => ∃ v', e = .returned v' ∧ Row w' B v' (xs ++ encW k t) ∧ Grw w v w' v' :=
  heapAppend_any w B v xs t.1 (t.2.map (hdT (k + 1))) hv.1 (by rw [List.length_map]; exact hv.2.1) hv.2.2.2.1 hv.fin hp hr hB hl
end Go.Proofs.Ytenfgahedbeekaa

