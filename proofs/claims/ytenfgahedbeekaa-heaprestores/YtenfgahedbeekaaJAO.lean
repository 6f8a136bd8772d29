/- heap.Put. -/
import Derived.Test.YtenfgahedbeekaaJAN
namespace Go.Proofs.Ytenfgahedbeekaa
open Go.RowKit Go.Deep Go.Shelf
set_option linter.unusedVariables false
set_option linter.unusedSimpArgs false

theorem below_of_grown {W W' : World} (h : W.grownBy W' none) : Below W.heap.size W W' := ⟨h.os, h.tape, h.output, h.size, fun i hi => h.block i hi (by simp)⟩
@[reducible] def SC (s : Nat) (sv : Value) (kk ki : Int) (kx : ByteArray) (kr : Int) (ka : Option Addr) (kn kc : Nat) (vk vi : Int) (vx : ByteArray) (vr : Int) (va : Option Addr) (vn vc : Nat) (W' : World) : Prop := (W'.cell? ⟨s, 0, none⟩ = some sv ∧ W'.cell? ⟨s + 1, 0, none⟩ = some (.int .i64 kk) ∧ W'.cell? ⟨s + 1, 1, none⟩ = some (.int .i64 ki) ∧ W'.cell? ⟨s + 1, 2, none⟩ = some (.string kx) ∧ W'.cell? ⟨s + 1, 3, none⟩ = some (.int .i64 kr) ∧ W'.cell? ⟨s + 1, 4, none⟩ = some (.slice ka kn kc)) ∧ W'.cell? ⟨s + 1 + 1, 0, none⟩ = some (.int .i64 vk) ∧ W'.cell? ⟨s + 1 + 1, 1, none⟩ = some (.int .i64 vi) ∧ W'.cell? ⟨s + 1 + 1, 2, none⟩ = some (.string vx) ∧ W'.cell? ⟨s + 1 + 1, 3, none⟩ = some (.int .i64 vr) ∧ W'.cell? ⟨s + 1 + 1, 4, none⟩ = some (.slice va vn vc)
theorem grw_below {W0 W W' : World} {B : Nat} {v v' : Value} {es : List En} (h : Below W0.heap.size W0 W) (hr : ERow W B v es) (hg : Grw W v W' v') (hB : W0.heap.size ≤ B) : Below W0.heap.size W0 W' :=
  ⟨hg.1.os.trans h.os, hg.1.tape.trans h.tape, hg.1.output.trans h.output, Nat.le_trans h.size hg.1.size, fun i hi => (hg.1.block i (Nat.lt_of_lt_of_le hi h.size) (fun e => by have := (hr.own i e.symm).1; omega)).trans (h.block i hi)⟩
theorem SC.set {s : Nat} {sv : Value} {kk ki : Int} {kx : ByteArray} {kr : Int} {ka : Option Addr} {kn kc : Nat} {vk vi : Int} {vx : ByteArray} {vr : Int} {va : Option Addr} {vn vc : Nat} {W : World} (h : SC s sv kk ki kx kr ka kn kc vk vi vx vr va vn vc W) (v : Value) : SC s sv kk ki kx kr ka kn kc vk vi vx vr va vn vc (W.setCell ⟨s + 1 + 1 + 1, 0, none⟩ v) := by
  have st : ∀ b i, b ≠ s + 1 + 1 + 1 → (W.setCell ⟨s + 1 + 1 + 1, 0, none⟩ v).cell? ⟨b, i, none⟩ = W.cell? ⟨b, i, none⟩ := fun b i hb => World.cell?_of_block (a := ⟨b, i, none⟩) (Below.heap_setCell _ _ _ _ hb)
  exact ⟨⟨(st _ _ (by omega)).trans h.1.1, (st _ _ (by omega)).trans h.1.2.1, (st _ _ (by omega)).trans h.1.2.2.1, (st _ _ (by omega)).trans h.1.2.2.2.1, (st _ _ (by omega)).trans h.1.2.2.2.2.1, (st _ _ (by omega)).trans h.1.2.2.2.2.2⟩, (st _ _ (by omega)).trans h.2.1, (st _ _ (by omega)).trans h.2.2.1, (st _ _ (by omega)).trans h.2.2.2.1, (st _ _ (by omega)).trans h.2.2.2.2.1, (st _ _ (by omega)).trans h.2.2.2.2.2⟩
/- What is put: the row with one entry more, or with another. -/
def putR {α : Type} (c : α → Int) (x : α) (l : List α) : List α := l.take (placeR c l).1 ++ [x] ++ l.drop (if (placeR c l).2 then (placeR c l).1 + 1 else (placeR c l).1)

def PtP (k : Nat) (w : World) (m : Int) (row : Rw k) (ms : List (Sl × Rw k)) (e : Ending) (w' : World) : Prop := ∃ fa fn fc ns, e = .returned (.tuple #[.agg #[.slice fa fn fc], .int .i64 0]) ∧ Below w.heap.size w w' ∧ fn ≤ fc ∧ StP k w' (fun b => w.heap.size ≤ b ∧ b < w'.heap.size) fa fn ns ∧ ns.map (fun q => rowC k q.2) = wth m (rowC k row) (ms.map fun q => rowC k q.2)

set_option maxRecDepth 100000 in
set_option maxHeartbeats 2000000 in
theorem put_ok (k : Nat) (w : World) (sa : Option Addr) (sn sc : Nat) (ms : List (Sl × Rw k)) (hd : StR k w sa sn ms) (m : Int) (kt vt : VT k) (hk : Rds k w kt) (hv : Rds k w vt) (hh : hasB sn m = true) (hok : (placeR (fun p => cmpT k p.1 kt) (rowAt ms m)).2 = true ∨ (rowAt ms m).length < 24) :
    Calls Try.prog 12 #[.agg #[.slice sa sn sc], .int .i64 m, (hdT k kt).v, (hdT k vt).v] w (PtP k w m (putR (fun p => cmpT k p.1 kt) (kt, vt) (rowAt ms m)) ms) := by
  have D := hid hd
  have Hn := hid hd.n1
  have hle := hd.n2
  have hle2 : (sn : Int) ≤ 1000 := by omega
  have K39 := hid (fun w1 => hasMap_any w1 sa sn sc m (by omega))
  have DK := hid hk
  have DV := hid hv
  have K40 := hid (fun (w1 : World) (hb : Below w.heap.size w w1) => place_any k w1 sa sn sc ms (hd.below (Nat.le_refl _) hb) m kt (Rds.below k hk (Nat.le_refl _) hb))
  clear hd hk hv
  obtain ⟨enk, henk⟩ : ∃ enk : En, enk = enT k (kt, vt) := ⟨_, rfl⟩
  have Henk := hid henk
  clear henk
  have Hk1 : Hid (hdT k kt = enk.key) := hid (by rw [Henk.out]; rfl)
  have Hv1 : Hid (hdT k vt = enk.val) := hid (by rw [Henk.out]; rfl)
  rw [Hk1.out] at K40 ⊢
  rw [Hv1.out]
  obtain ⟨⟨kk, ki, kx, kr, ka, kn, kc⟩, ⟨vk, vi, vx, vr, va, vn, vc⟩⟩ := enk
  simp only [Hd.v] at K40 ⊢
  obtain ⟨W0, hW0⟩ : ∃ W0, W0 = (((w.alloc (.cells #[.slice sa sn sc] 27)).alloc (.cells #[.int .i64 kk, .int .i64 ki, .string kx, .int .i64 kr, .slice ka kn kc] 31)).alloc (.cells #[.int .i64 vk, .int .i64 vi, .string vx, .int .i64 vr, .slice va vn vc] 31)).alloc (.cells #[.slice none 0 0] 27) := ⟨_, rfl⟩
  have pl' : ∀ {w : World} {o x : Obj} {k : Nat}, w.heap[k]? = some x → (w.alloc o).heap[k]? = some x := fun h => (Below.heap_alloc _ _ _ (Array.getElem?_eq_some_iff.1 h).1).trans h
  have n1 := heap_alloc_new w (.cells #[.slice sa sn sc] 27)
  have n2 := heap_alloc_new (w.alloc (.cells #[.slice sa sn sc] 27)) (.cells #[.int .i64 kk, .int .i64 ki, .string kx, .int .i64 kr, .slice ka kn kc] 31)
  have n3 := heap_alloc_new ((w.alloc (.cells #[.slice sa sn sc] 27)).alloc (.cells #[.int .i64 kk, .int .i64 ki, .string kx, .int .i64 kr, .slice ka kn kc] 31)) (.cells #[.int .i64 vk, .int .i64 vi, .string vx, .int .i64 vr, .slice va vn vc] 31)
  have n4 := heap_alloc_new (((w.alloc (.cells #[.slice sa sn sc] 27)).alloc (.cells #[.int .i64 kk, .int .i64 ki, .string kx, .int .i64 kr, .slice ka kn kc] 31)).alloc (.cells #[.int .i64 vk, .int .i64 vi, .string vx, .int .i64 vr, .slice va vn vc] 31)) (.cells #[.slice none 0 0] 27)
  have hz0 : W0.heap.size = w.heap.size + 1 + 1 + 1 + 1 := by rw [hW0]; simp
  simp only [World.size_alloc] at n2 n3 n4
  have q1 : W0.heap[w.heap.size]? = some (.cells #[.slice sa sn sc] 27 (0, 0)) := by rw [hW0]; exact pl' (pl' (pl' n1))
  have q2 : W0.heap[w.heap.size + 1]? = some (.cells #[.int .i64 kk, .int .i64 ki, .string kx, .int .i64 kr, .slice ka kn kc] 31 (0, 0)) := by rw [hW0]; exact pl' (pl' n2)
  have q3 : W0.heap[w.heap.size + 1 + 1]? = some (.cells #[.int .i64 vk, .int .i64 vi, .string vx, .int .i64 vr, .slice va vn vc] 31 (0, 0)) := by rw [hW0]; exact pl' n3
  have q4 : W0.heap[w.heap.size + 1 + 1 + 1]? = some (.cells #[.slice none 0 0] 27 (0, 0)) := by rw [hW0]; exact n4
  have hb0 : Below w.heap.size w W0 := by
    rw [hW0]; exact ((((Below.refl _ w).alloc (Nat.le_refl _) _).alloc (by simp) _).alloc (by simp; omega) _).alloc (by simp; omega) _
  have FX : Hid (∀ w2 : World, Below W0.heap.size W0 w2 → ((w2.cell? ⟨w.heap.size, 0, none⟩ = some (.slice sa sn sc) ∧ w2.cell? ⟨w.heap.size + 1, 0, none⟩ = some (.int .i64 kk) ∧ w2.cell? ⟨w.heap.size + 1, 1, none⟩ = some (.int .i64 ki) ∧ w2.cell? ⟨w.heap.size + 1, 2, none⟩ = some (.string kx) ∧ w2.cell? ⟨w.heap.size + 1, 3, none⟩ = some (.int .i64 kr) ∧ w2.cell? ⟨w.heap.size + 1, 4, none⟩ = some (.slice ka kn kc)) ∧ w2.cell? ⟨w.heap.size + 1 + 1, 0, none⟩ = some (.int .i64 vk) ∧ w2.cell? ⟨w.heap.size + 1 + 1, 1, none⟩ = some (.int .i64 vi) ∧ w2.cell? ⟨w.heap.size + 1 + 1, 2, none⟩ = some (.string vx) ∧ w2.cell? ⟨w.heap.size + 1 + 1, 3, none⟩ = some (.int .i64 vr) ∧ w2.cell? ⟨w.heap.size + 1 + 1, 4, none⟩ = some (.slice va vn vc)) ∧ w2.heap[w.heap.size + 1 + 1 + 1]? = some (.cells #[.slice none 0 0] 27 (0, 0)) ∧ Below w.heap.size w w2) := hid (fun w2 hb => by
    have bx := (hb.block _ (Array.getElem?_eq_some_iff.1 q1).1).trans q1
    have by' := (hb.block _ (Array.getElem?_eq_some_iff.1 q2).1).trans q2
    have bz := (hb.block _ (Array.getElem?_eq_some_iff.1 q3).1).trans q3
    exact ⟨⟨⟨cellOf bx 0, cellOf by' 0, cellOf by' 1, cellOf by' 2, cellOf by' 3, cellOf by' 4⟩, cellOf bz 0, cellOf bz 1, cellOf bz 2, cellOf bz 3, cellOf bz 4⟩, (hb.block _ (Array.getElem?_eq_some_iff.1 q4).1).trans q4, hb0.trans (hb.mono hb0.size)⟩)
  have TR : Hid (∀ {x y : World}, Below W0.heap.size W0 x → Below x.heap.size x y → Below W0.heap.size W0 y) := hid (fun h1 h2 => h1.trans (h2.mono h1.size))
  have HR0 := hid (Below.refl W0.heap.size W0)
  clear n1 n2 n3 n4 pl' q1 q2 q3 q4 hb0

  have hm : 0 ≤ m ∧ m < (sn : Int) := by simpa [hasB] using hh
  simp only [hh] at K39
  obtain ⟨i0, rfl⟩ : ∃ i0 : Nat, m = (i0 : Int) := ⟨m.toNat, by omega⟩
  have hi0 := hm.1
  have hi1 := hm.2
  obtain ⟨p, hp⟩ : ∃ p, ms[i0]? = some p := ⟨ms[i0]'(by rw [← Hn.out]; omega), List.getElem?_eq_getElem _⟩
  rw [rowAt_yes hp] at *
  obtain ⟨b, off, ea, dc⟩ := D.out.rd i0 p.1 (by rw [List.getElem?_map, hp]; rfl)
  subst ea
  have hel := (D.out.el p (List.mem_of_getElem? hp)).1
  have hcap := (D.out.el p (List.mem_of_getElem? hp)).2
  obtain ⟨⟨ma, mn, mc⟩, mr⟩ := p
  simp only [Sl.v] at dc
  simp only at hel hcap K40
  simp only at hok ⊢
  have Hdc : Hid (∀ w2 : World, Below w.heap.size w w2 → w2.cell? ⟨b, off + i0, none⟩ = some (.slice ma mn mc)) := hid (fun w2 hb => (hb.cell (p := ⟨b, off + i0, none⟩) (World.block_lt_of_cell? w _ dc)).trans dc)
  have Hmn := hid hel.n1
  have hmn2 := hel.n2
  have hmn3 : (mn : Int) ≤ 1000 := by omega
  have Hel := hid hel
  have hpl : (placeR (fun p => cmpT k p.1 kt) mr).1 ≤ mn := by rw [Hmn.out]; exact placeR_le _ _
  have hpl2 : (placeR (fun p => cmpT k p.1 kt) mr).2 = true → (placeR (fun p => cmpT k p.1 kt) mr).1 < mn := by rw [Hmn.out]; exact placeR_lt _ _

  obtain ⟨row', hrow'⟩ : ∃ row', row' = putR (fun p => cmpT k p.1 kt) (kt, vt) mr := ⟨_, rfl⟩
  rw [← hrow']
  unfold putR at hrow'
  obtain ⟨at', hat⟩ : ∃ at', at' = (placeR (fun p => cmpT k p.1 kt) mr).1 := ⟨_, rfl⟩
  obtain ⟨th, hth⟩ : ∃ th, th = (placeR (fun p => cmpT k p.1 kt) mr).2 := ⟨_, rfl⟩
  rw [← hat, ← hth] at K40 hrow'
  rw [← hat] at hpl
  rw [← hat, ← hth] at hpl2
  rw [← hth, ← Hmn.out] at hok
  clear hat hth
  have Hrow' := hid hrow'
  have hat2 : (at' : Int) ≤ (mn : Int) := by omega
  have hat0 : (0 : Int) ≤ (at' : Int) := by omega
  have hcap2 : (mn : Int) ≤ (mc : Int) := by omega
  have hatc : (at' : Int) ≤ (mc : Int) := by omega
  have E1 : Hid (∀ w1 : World, Below w.heap.size w w1 → ERd w1 ma (mr.map (enT k))) := hid (fun w1 hb => (Hel.out.below (Nat.le_refl _) hb).rd)
  have hr1 : Hid (∀ w1 : World, Below w.heap.size w w1 → ∀ q ∈ row', Rds k w1 q.1 ∧ Rds k w1 q.2) := hid (fun w1 hb q hq => by
    rw [Hrow'.out] at hq
    rcases List.mem_append.1 hq with hq | hq
    · rcases List.mem_append.1 hq with hq | hq
      · exact (Hel.out.below (Nat.le_refl _) hb).el q (List.mem_of_mem_take hq)
      · rw [List.mem_singleton] at hq
        subst hq
        exact ⟨Rds.below k DK.out (Nat.le_refl _) hb, Rds.below k DV.out (Nat.le_refl _) hb⟩
    · exact (Hel.out.below (Nat.le_refl _) hb).el q (List.mem_of_mem_drop hq))
  have K41 : Hid (∀ (w1 : World), Below w.heap.size w w1 → ∀ (ra : Option Addr) (rn rc : Nat), RwR k w1 ra rn row' → Calls Try.prog 41 #[.agg #[.slice (some ⟨b, off, none⟩) sn sc], .int .i64 (i0 : Int), .slice ra rn rc] w1 (CwP k w1 (i0 : Int) row' ms)) := hid (fun w1 hb ra rn rc hr => with_any k w1 _ sn sc ms (D.out.below (Nat.le_refl _) hb) _ ra rn rc row' hr)
  clear dc hp hel hh hm D hrow'
  have hen : (enT k (kt, vt)) = ⟨⟨kk, ki, kx, kr, ka, kn, kc⟩, ⟨vk, vi, vx, vr, va, vn, vc⟩⟩ := Henk.out.symm
  have Hen := hid hen
  clear hen Henk Hk1 Hv1
  obtain ⟨bh, hbh⟩ : ∃ bh, bh = if th then at' + 1 else at' := ⟨_, rfl⟩
  have Hbh := hid hbh
  have hbh2 : bh ≤ mn := by
    rw [hbh]; split
    · rename_i h; have := hpl2 h; omega
    · exact hpl
  have hbh3 : (bh : Int) ≤ (mn : Int) := by omega
  have hbh0 : (0 : Int) ≤ (bh : Int) := by omega
  have hrlen : row'.length ≤ 1000 := by
    rw [Hrow'.out, ← hbh]
    simp only [List.length_append, List.length_take, List.length_drop, List.length_singleton, ← Hmn.out]
    rcases hok with h | h
    · have := hpl2 h
      have : bh = at' + 1 := by rw [hbh, if_pos h]
      omega
    · have : at' ≤ bh := by rw [hbh]; split <;> omega
      omega
  have hmap : row'.map (enT k) = (mr.map (enT k)).take at' ++ [(⟨⟨kk, ki, kx, kr, ka, kn, kc⟩, ⟨vk, vi, vx, vr, va, vn, vc⟩⟩ : En)] ++ (mr.map (enT k)).drop bh := by
    rw [Hrow'.out, ← hbh, List.map_append, List.map_append, List.map_take, List.map_drop, ← Hen.out]; rfl
  have Hmap := hid hmap
  have HSE : Hid (∀ w2 : World, Below W0.heap.size W0 w2 → SC w.heap.size (.slice (some ⟨b, off, none⟩) sn sc) kk ki kx kr ka kn kc vk vi vx vr va vn vc w2) := hid (fun w2 hb => (FX.out w2 hb).1)
  clear hbh hmap
  have hwr : IntKind.i64.wrap ((at' : Int) + 1) = ((at' + 1 : Nat) : Int) := by rw [IntKind.wrap_i64]; omega
  clear hpl2
  have hbt : th = true → bh = at' + 1 := fun h => by rw [Hbh.out, if_pos h]
  have hbf : th = false → bh = at' := fun h => by rw [Hbh.out, h]; rfl
  cases th with
  | true =>
    have hb1 := hbt rfl
    clear hbt hbf hok
    subst hb1
    by_cases hmb : mc = (at' + 1)
    · have hmt := eq_true hmb
      have Hmb := hid hmb
      clear hmb
      go_enter Try.func12, Try.ntmps12
      go_wp2_with (first
        | (go_at_call 39; (rw [← hW0]; refine (Hid.out K39 _).mono ?_; rintro e w1 ⟨rfl, hb1⟩; obtain ⟨⟨⟨c0, c1, c2, c3, c4, c5⟩, c6, c7, c8, c9, c10⟩, x2, bb⟩ := FX.out w1 hb1; have y0 := Hdc.out w1 bb; have HB1 := hid hb1; clear hb1 x2))
        | (go_at_call 40; (refine (Hid.out K40 w1 bb).mono ?_; rintro e w2 ⟨rfl, hb2⟩; have hb2' := TR.out HB1.out hb2; clear c0 c1 c2 c3 c4 c5 c6 c7 c8 c9 c10; obtain ⟨⟨⟨c0, c1, c2, c3, c4, c5⟩, c6, c7, c8, c9, c10⟩, x2, bb2⟩ := FX.out w2 hb2'; have HB2 := hid hb2'; have BB2 := hid bb2; clear hb2 hb2' x2)))
      have BD := hid HB2.out.drew
      have hs2 := HB2.out.size
      have hlow : (0 : Int) ≤ (at' : Int) + 1 := by omega
      try have hlow2 : (at' : Int) + 1 ≤ (mn : Int) := by omega
      have BA : Hid (∀ o, Below W0.heap.size W0 (w2.drew.alloc o)) := hid (fun o => HB2.out.drew.alloc HB2.out.drew.size o)
      have BW : Hid (∀ o, Below w.heap.size w (w2.drew.alloc o)) := hid (fun o => (FX.out _ (BA.out o)).2.2)
      go_region_held3 (fun W' => (W'.cell? ⟨w.heap.size, 0, none⟩ = some (.slice (some ⟨b, off, none⟩) sn sc) ∧ W'.cell? ⟨w.heap.size + 1, 0, none⟩ = some (.int .i64 kk) ∧ W'.cell? ⟨w.heap.size + 1, 1, none⟩ = some (.int .i64 ki) ∧ W'.cell? ⟨w.heap.size + 1, 2, none⟩ = some (.string kx) ∧ W'.cell? ⟨w.heap.size + 1, 3, none⟩ = some (.int .i64 kr) ∧ W'.cell? ⟨w.heap.size + 1, 4, none⟩ = some (.slice ka kn kc)) ∧ W'.cell? ⟨w.heap.size + 1 + 1, 0, none⟩ = some (.int .i64 vk) ∧ W'.cell? ⟨w.heap.size + 1 + 1, 1, none⟩ = some (.int .i64 vi) ∧ W'.cell? ⟨w.heap.size + 1 + 1, 2, none⟩ = some (.string vx) ∧ W'.cell? ⟨w.heap.size + 1 + 1, 3, none⟩ = some (.int .i64 vr) ∧ W'.cell? ⟨w.heap.size + 1 + 1, 4, none⟩ = some (.slice va vn vc)) (first | exact HSE.out _ B4.out | exact HSE.out _ (BA.out _) | exact HSE.out _ BD.out | go_keep) ((first
        | (refine step_appT (by rfl) _ _ (by rfl) _ (by rfl) w2.heap.size ⟨⟨kk, ki, kx, kr, ka, kn, kc⟩, ⟨vk, vi, vx, vr, va, vn, vc⟩⟩ (by rfl) ma at' (by rfl) ((mr.map (enT k)).take at') (by rw [List.length_take, List.length_map, ← Hmn.out]; omega) (by omega) ((E1.out _ (BW.out _)).take at') (heap_alloc_new w2.drew _) ?_; intro v4 w4 hr4 hg4; have B4 := hid (TR.out (BA.out _) (below_of_grown hg4)); obtain ⟨fa, fc, e4, hc4⟩ := hr4.form; obtain ⟨fn, hfn⟩ : ∃ fn, fn = ((mr.map (enT k)).take at' ++ [(⟨⟨kk, ki, kx, kr, ka, kn, kc⟩, ⟨vk, vi, vx, vr, va, vn, vc⟩⟩ : En)]).length := ⟨_, rfl⟩; rw [← hfn] at e4; subst e4; have R4 := hid hr4; have G4 := hid hg4.size; have H4l : Hid (((mr.map (enT k)).take at' ++ [(⟨⟨kk, ki, kx, kr, ka, kn, kc⟩, ⟨vk, vi, vx, vr, va, vn, vc⟩⟩ : En)]).length ≤ 1001) := hid (by simp only [List.length_append, List.length_take, List.length_map, List.length_singleton]; omega); have GA := hid (BA.out (.cells (⟨⟨kk, ki, kx, kr, ka, kn, kc⟩, ⟨vk, vi, vx, vr, va, vn, vc⟩⟩ : En).cs.toArray 81)).size; clear hr4 hg4 hc4 hfn)))
      go_wp2
      have BD4 := hid B4.out.drew
      have W4 := hid (FX.out _ B4.out).2.2
      have W4d := hid (FX.out _ BD4.out).2.2
      go_region_held3 (fun W' => (W'.cell? ⟨w.heap.size, 0, none⟩ = some (.slice (some ⟨b, off, none⟩) sn sc) ∧ W'.cell? ⟨w.heap.size + 1, 0, none⟩ = some (.int .i64 kk) ∧ W'.cell? ⟨w.heap.size + 1, 1, none⟩ = some (.int .i64 ki) ∧ W'.cell? ⟨w.heap.size + 1, 2, none⟩ = some (.string kx) ∧ W'.cell? ⟨w.heap.size + 1, 3, none⟩ = some (.int .i64 kr) ∧ W'.cell? ⟨w.heap.size + 1, 4, none⟩ = some (.slice ka kn kc)) ∧ W'.cell? ⟨w.heap.size + 1 + 1, 0, none⟩ = some (.int .i64 vk) ∧ W'.cell? ⟨w.heap.size + 1 + 1, 1, none⟩ = some (.int .i64 vi) ∧ W'.cell? ⟨w.heap.size + 1 + 1, 2, none⟩ = some (.string vx) ∧ W'.cell? ⟨w.heap.size + 1 + 1, 3, none⟩ = some (.int .i64 vr) ∧ W'.cell? ⟨w.heap.size + 1 + 1, 4, none⟩ = some (.slice va vn vc)) (first | exact SC.set (HSE.out _ B6.out) _ | exact HSE.out _ B6.out | exact HSE.out _ B5.out | exact HSE.out _ BD4.out | exact HSE.out _ B4.out | go_keep) ((first
        | (go_at_call 41; (have hno := R5; refine (K41.out w5 W5.out ga gn gc R5.out).mono ?_; rintro e w6 ⟨ja, jn, jc, ns, rfl, hb6, hjc, hst, hns⟩; have B6 := hid (TR.out B5.out hb6); obtain ⟨_, x6, bb6⟩ := FX.out w6 B6.out; have x60 := cellOf x6 0; have x6f := freeOf x6 0; simp only [List.getElem?_toArray, List.getElem?_cons_zero] at x60; have X6 := hid x6; have BB6 := hid bb6; have HST := hid hst; have HNS := hid hns; have hs6 := hb6.size; clear x6 bb6 hst hns hb6))
        | (refine step_appX (by rfl) _ _ (by rfl) (.slice fa fn fc) (by rfl) _ (by rfl) _ _ (R4.out.below (Nat.le_refl _) (Below.refl _ w4).drew) (by have := G4.out; simpa using this) ma mn mc (at' + 1) (by unfold sliced; rw [if_pos Hmb.out]; rfl) (mr.map (enT k)) (by rw [List.length_map]; exact Hmn.out) hmn2 hbh2 hcap (E1.out _ W4d.out) (by have := H4l.out; omega) ?_; intro v5 w5 hr5 hg5; rw [← Hmap.out] at hr5; have B5 := hid (grw_below BD4.out (R4.out.below (Nat.le_refl _) (Below.refl _ w4).drew) hg5 (by simp; omega)); obtain ⟨ga, gc, e5, hc5⟩ := hr5.form; obtain ⟨gn, hgn⟩ : ∃ gn, gn = (row'.map (enT k)).length := ⟨_, rfl⟩; rw [← hgn] at e5; subst e5; have W5 := hid (FX.out _ B5.out).2.2; have R5 : Hid (RwR k w5 ga gn row') := hid ⟨by rw [hgn, List.length_map], by rw [hgn, List.length_map]; exact hrlen, hr5.rd, fun q hq => hr1.out _ W5.out q hq⟩; clear hr5 hg5 hc5 hgn)))
      go_wp2
      have h5 := set_cells X6.out (.slice ja jn jc)
      have r0 := cellOf h5 0
      simp only [List.getElem?_toArray, List.getElem?_cons_zero, List.getElem?_cons_succ] at r0
      have hb5 := BB6.out.setCell (p := ⟨w.heap.size + 1 + 1 + 1, 0, none⟩) (by show w.heap.size ≤ w.heap.size + 1 + 1 + 1; omega) (.slice ja jn jc)
      have hs5 : (w6.setCell ⟨w.heap.size + 1 + 1 + 1, 0, none⟩ (.slice ja jn jc)).heap.size = w6.heap.size := by simp [World.setCell]
      have hsB := B5.out.size
      have hkp : ∀ x, w5.heap.size ≤ x → (w6.setCell ⟨w.heap.size + 1 + 1 + 1, 0, none⟩ (.slice ja jn jc)).heap[x]? = w6.heap[x]? := fun x hx => Below.heap_setCell _ _ _ _ (by show x ≠ w.heap.size + 1 + 1 + 1; omega)
      generalize w6.setCell ⟨w.heap.size + 1 + 1 + 1, 0, none⟩ (.slice ja jn jc) = W9 at *
      refine bodyPost_ret (v := .tuple #[.agg #[.slice ja jn jc], .int .i64 0]) (by simp [results, Try.results12, go_sem, r0]) rfl ⟨ja, jn, jc, ns, rfl, hb5, hjc, (HST.out.keep (fun x hx => hkp x hx.1)).imp (fun x hx => ⟨by omega, by omega⟩), HNS.out⟩
    · go_enter Try.func12, Try.ntmps12
      go_wp2_with (first
        | (go_at_call 39; (rw [← hW0]; refine (Hid.out K39 _).mono ?_; rintro e w1 ⟨rfl, hb1⟩; obtain ⟨⟨⟨c0, c1, c2, c3, c4, c5⟩, c6, c7, c8, c9, c10⟩, x2, bb⟩ := FX.out w1 hb1; have y0 := Hdc.out w1 bb; have HB1 := hid hb1; clear hb1 x2))
        | (go_at_call 40; (refine (Hid.out K40 w1 bb).mono ?_; rintro e w2 ⟨rfl, hb2⟩; have hb2' := TR.out HB1.out hb2; clear c0 c1 c2 c3 c4 c5 c6 c7 c8 c9 c10; obtain ⟨⟨⟨c0, c1, c2, c3, c4, c5⟩, c6, c7, c8, c9, c10⟩, x2, bb2⟩ := FX.out w2 hb2'; have HB2 := hid hb2'; have BB2 := hid bb2; clear hb2 hb2' x2)))
      have BD := hid HB2.out.drew
      have hs2 := HB2.out.size
      have hlow : (0 : Int) ≤ (at' : Int) + 1 := by omega
      try have hlow2 : (at' : Int) + 1 ≤ (mn : Int) := by omega
      have BA : Hid (∀ o, Below W0.heap.size W0 (w2.drew.alloc o)) := hid (fun o => HB2.out.drew.alloc HB2.out.drew.size o)
      have BW : Hid (∀ o, Below w.heap.size w (w2.drew.alloc o)) := hid (fun o => (FX.out _ (BA.out o)).2.2)
      go_region_held3 (fun W' => (W'.cell? ⟨w.heap.size, 0, none⟩ = some (.slice (some ⟨b, off, none⟩) sn sc) ∧ W'.cell? ⟨w.heap.size + 1, 0, none⟩ = some (.int .i64 kk) ∧ W'.cell? ⟨w.heap.size + 1, 1, none⟩ = some (.int .i64 ki) ∧ W'.cell? ⟨w.heap.size + 1, 2, none⟩ = some (.string kx) ∧ W'.cell? ⟨w.heap.size + 1, 3, none⟩ = some (.int .i64 kr) ∧ W'.cell? ⟨w.heap.size + 1, 4, none⟩ = some (.slice ka kn kc)) ∧ W'.cell? ⟨w.heap.size + 1 + 1, 0, none⟩ = some (.int .i64 vk) ∧ W'.cell? ⟨w.heap.size + 1 + 1, 1, none⟩ = some (.int .i64 vi) ∧ W'.cell? ⟨w.heap.size + 1 + 1, 2, none⟩ = some (.string vx) ∧ W'.cell? ⟨w.heap.size + 1 + 1, 3, none⟩ = some (.int .i64 vr) ∧ W'.cell? ⟨w.heap.size + 1 + 1, 4, none⟩ = some (.slice va vn vc)) (first | exact HSE.out _ B4.out | exact HSE.out _ (BA.out _) | exact HSE.out _ BD.out | go_keep) ((first
        | (refine step_appT (by rfl) _ _ (by rfl) _ (by rfl) w2.heap.size ⟨⟨kk, ki, kx, kr, ka, kn, kc⟩, ⟨vk, vi, vx, vr, va, vn, vc⟩⟩ (by rfl) ma at' (by rfl) ((mr.map (enT k)).take at') (by rw [List.length_take, List.length_map, ← Hmn.out]; omega) (by omega) ((E1.out _ (BW.out _)).take at') (heap_alloc_new w2.drew _) ?_; intro v4 w4 hr4 hg4; have B4 := hid (TR.out (BA.out _) (below_of_grown hg4)); obtain ⟨fa, fc, e4, hc4⟩ := hr4.form; obtain ⟨fn, hfn⟩ : ∃ fn, fn = ((mr.map (enT k)).take at' ++ [(⟨⟨kk, ki, kx, kr, ka, kn, kc⟩, ⟨vk, vi, vx, vr, va, vn, vc⟩⟩ : En)]).length := ⟨_, rfl⟩; rw [← hfn] at e4; subst e4; have R4 := hid hr4; have G4 := hid hg4.size; have H4l : Hid (((mr.map (enT k)).take at' ++ [(⟨⟨kk, ki, kx, kr, ka, kn, kc⟩, ⟨vk, vi, vx, vr, va, vn, vc⟩⟩ : En)]).length ≤ 1001) := hid (by simp only [List.length_append, List.length_take, List.length_map, List.length_singleton]; omega); have GA := hid (BA.out (.cells (⟨⟨kk, ki, kx, kr, ka, kn, kc⟩, ⟨vk, vi, vx, vr, va, vn, vc⟩⟩ : En).cs.toArray 81)).size; clear hr4 hg4 hc4 hfn)))
      go_wp2
      have BD4 := hid B4.out.drew
      have W4 := hid (FX.out _ B4.out).2.2
      have W4d := hid (FX.out _ BD4.out).2.2
      go_region_held3 (fun W' => (W'.cell? ⟨w.heap.size, 0, none⟩ = some (.slice (some ⟨b, off, none⟩) sn sc) ∧ W'.cell? ⟨w.heap.size + 1, 0, none⟩ = some (.int .i64 kk) ∧ W'.cell? ⟨w.heap.size + 1, 1, none⟩ = some (.int .i64 ki) ∧ W'.cell? ⟨w.heap.size + 1, 2, none⟩ = some (.string kx) ∧ W'.cell? ⟨w.heap.size + 1, 3, none⟩ = some (.int .i64 kr) ∧ W'.cell? ⟨w.heap.size + 1, 4, none⟩ = some (.slice ka kn kc)) ∧ W'.cell? ⟨w.heap.size + 1 + 1, 0, none⟩ = some (.int .i64 vk) ∧ W'.cell? ⟨w.heap.size + 1 + 1, 1, none⟩ = some (.int .i64 vi) ∧ W'.cell? ⟨w.heap.size + 1 + 1, 2, none⟩ = some (.string vx) ∧ W'.cell? ⟨w.heap.size + 1 + 1, 3, none⟩ = some (.int .i64 vr) ∧ W'.cell? ⟨w.heap.size + 1 + 1, 4, none⟩ = some (.slice va vn vc)) (first | exact SC.set (HSE.out _ B6.out) _ | exact HSE.out _ B6.out | exact HSE.out _ B5.out | exact HSE.out _ BD4.out | exact HSE.out _ B4.out | go_keep) ((first
        | (go_at_call 41; (have hno := R5; refine (K41.out w5 W5.out ga gn gc R5.out).mono ?_; rintro e w6 ⟨ja, jn, jc, ns, rfl, hb6, hjc, hst, hns⟩; have B6 := hid (TR.out B5.out hb6); obtain ⟨_, x6, bb6⟩ := FX.out w6 B6.out; have x60 := cellOf x6 0; have x6f := freeOf x6 0; simp only [List.getElem?_toArray, List.getElem?_cons_zero] at x60; have X6 := hid x6; have BB6 := hid bb6; have HST := hid hst; have HNS := hid hns; have hs6 := hb6.size; clear x6 bb6 hst hns hb6))
        | (refine step_appX (by rfl) _ _ (by rfl) (.slice fa fn fc) (by rfl) _ (by rfl) _ _ (R4.out.below (Nat.le_refl _) (Below.refl _ w4).drew) (by have := G4.out; simpa using this) ma mn mc (at' + 1) (by unfold sliced; rw [if_neg hmb]; rfl) (mr.map (enT k)) (by rw [List.length_map]; exact Hmn.out) hmn2 hbh2 hcap (E1.out _ W4d.out) (by have := H4l.out; omega) ?_; intro v5 w5 hr5 hg5; rw [← Hmap.out] at hr5; have B5 := hid (grw_below BD4.out (R4.out.below (Nat.le_refl _) (Below.refl _ w4).drew) hg5 (by simp; omega)); obtain ⟨ga, gc, e5, hc5⟩ := hr5.form; obtain ⟨gn, hgn⟩ : ∃ gn, gn = (row'.map (enT k)).length := ⟨_, rfl⟩; rw [← hgn] at e5; subst e5; have W5 := hid (FX.out _ B5.out).2.2; have R5 : Hid (RwR k w5 ga gn row') := hid ⟨by rw [hgn, List.length_map], by rw [hgn, List.length_map]; exact hrlen, hr5.rd, fun q hq => hr1.out _ W5.out q hq⟩; clear hr5 hg5 hc5 hgn)))
      go_wp2
      have h5 := set_cells X6.out (.slice ja jn jc)
      have r0 := cellOf h5 0
      simp only [List.getElem?_toArray, List.getElem?_cons_zero, List.getElem?_cons_succ] at r0
      have hb5 := BB6.out.setCell (p := ⟨w.heap.size + 1 + 1 + 1, 0, none⟩) (by show w.heap.size ≤ w.heap.size + 1 + 1 + 1; omega) (.slice ja jn jc)
      have hs5 : (w6.setCell ⟨w.heap.size + 1 + 1 + 1, 0, none⟩ (.slice ja jn jc)).heap.size = w6.heap.size := by simp [World.setCell]
      have hsB := B5.out.size
      have hkp : ∀ x, w5.heap.size ≤ x → (w6.setCell ⟨w.heap.size + 1 + 1 + 1, 0, none⟩ (.slice ja jn jc)).heap[x]? = w6.heap[x]? := fun x hx => Below.heap_setCell _ _ _ _ (by show x ≠ w.heap.size + 1 + 1 + 1; omega)
      generalize w6.setCell ⟨w.heap.size + 1 + 1 + 1, 0, none⟩ (.slice ja jn jc) = W9 at *
      refine bodyPost_ret (v := .tuple #[.agg #[.slice ja jn jc], .int .i64 0]) (by simp [results, Try.results12, go_sem, r0]) rfl ⟨ja, jn, jc, ns, rfl, hb5, hjc, (HST.out.keep (fun x hx => hkp x hx.1)).imp (fun x hx => ⟨by omega, by omega⟩), HNS.out⟩

  | false =>
    have hb1 := (hbf rfl).symm
    have hlt24 : mn < 24 := by rcases hok with h | h; · cases h
                               · exact h
    have hlt24' : ¬ (24 : Int) ≤ (mn : Int) := by omega
    clear hbt hbf hok
    subst hb1
    by_cases hmb : mc = at'
    · have hmt := eq_true hmb
      have Hmb := hid hmb
      clear hmb
      go_enter Try.func12, Try.ntmps12
      go_wp2_with (first
        | (go_at_call 39; (rw [← hW0]; refine (Hid.out K39 _).mono ?_; rintro e w1 ⟨rfl, hb1⟩; obtain ⟨⟨⟨c0, c1, c2, c3, c4, c5⟩, c6, c7, c8, c9, c10⟩, x2, bb⟩ := FX.out w1 hb1; have y0 := Hdc.out w1 bb; have HB1 := hid hb1; clear hb1 x2))
        | (go_at_call 40; (refine (Hid.out K40 w1 bb).mono ?_; rintro e w2 ⟨rfl, hb2⟩; have hb2' := TR.out HB1.out hb2; clear c0 c1 c2 c3 c4 c5 c6 c7 c8 c9 c10; obtain ⟨⟨⟨c0, c1, c2, c3, c4, c5⟩, c6, c7, c8, c9, c10⟩, x2, bb2⟩ := FX.out w2 hb2'; have HB2 := hid hb2'; have BB2 := hid bb2; clear hb2 hb2' x2)))
      have BD := hid HB2.out.drew
      have hs2 := HB2.out.size
      have hlow : (0 : Int) ≤ (at' : Int) + 1 := by omega
      try have hlow2 : (at' : Int) + 1 ≤ (mn : Int) := by omega
      have BA : Hid (∀ o, Below W0.heap.size W0 (w2.drew.alloc o)) := hid (fun o => HB2.out.drew.alloc HB2.out.drew.size o)
      have BW : Hid (∀ o, Below w.heap.size w (w2.drew.alloc o)) := hid (fun o => (FX.out _ (BA.out o)).2.2)
      go_region_held3 (fun W' => (W'.cell? ⟨w.heap.size, 0, none⟩ = some (.slice (some ⟨b, off, none⟩) sn sc) ∧ W'.cell? ⟨w.heap.size + 1, 0, none⟩ = some (.int .i64 kk) ∧ W'.cell? ⟨w.heap.size + 1, 1, none⟩ = some (.int .i64 ki) ∧ W'.cell? ⟨w.heap.size + 1, 2, none⟩ = some (.string kx) ∧ W'.cell? ⟨w.heap.size + 1, 3, none⟩ = some (.int .i64 kr) ∧ W'.cell? ⟨w.heap.size + 1, 4, none⟩ = some (.slice ka kn kc)) ∧ W'.cell? ⟨w.heap.size + 1 + 1, 0, none⟩ = some (.int .i64 vk) ∧ W'.cell? ⟨w.heap.size + 1 + 1, 1, none⟩ = some (.int .i64 vi) ∧ W'.cell? ⟨w.heap.size + 1 + 1, 2, none⟩ = some (.string vx) ∧ W'.cell? ⟨w.heap.size + 1 + 1, 3, none⟩ = some (.int .i64 vr) ∧ W'.cell? ⟨w.heap.size + 1 + 1, 4, none⟩ = some (.slice va vn vc)) (first | exact HSE.out _ B4.out | exact HSE.out _ (BA.out _) | exact HSE.out _ BD.out | go_keep) ((first
        | (refine step_appT (by rfl) _ _ (by rfl) _ (by rfl) w2.heap.size ⟨⟨kk, ki, kx, kr, ka, kn, kc⟩, ⟨vk, vi, vx, vr, va, vn, vc⟩⟩ (by rfl) ma at' (by rfl) ((mr.map (enT k)).take at') (by rw [List.length_take, List.length_map, ← Hmn.out]; omega) (by omega) ((E1.out _ (BW.out _)).take at') (heap_alloc_new w2.drew _) ?_; intro v4 w4 hr4 hg4; have B4 := hid (TR.out (BA.out _) (below_of_grown hg4)); obtain ⟨fa, fc, e4, hc4⟩ := hr4.form; obtain ⟨fn, hfn⟩ : ∃ fn, fn = ((mr.map (enT k)).take at' ++ [(⟨⟨kk, ki, kx, kr, ka, kn, kc⟩, ⟨vk, vi, vx, vr, va, vn, vc⟩⟩ : En)]).length := ⟨_, rfl⟩; rw [← hfn] at e4; subst e4; have R4 := hid hr4; have G4 := hid hg4.size; have H4l : Hid (((mr.map (enT k)).take at' ++ [(⟨⟨kk, ki, kx, kr, ka, kn, kc⟩, ⟨vk, vi, vx, vr, va, vn, vc⟩⟩ : En)]).length ≤ 1001) := hid (by simp only [List.length_append, List.length_take, List.length_map, List.length_singleton]; omega); have GA := hid (BA.out (.cells (⟨⟨kk, ki, kx, kr, ka, kn, kc⟩, ⟨vk, vi, vx, vr, va, vn, vc⟩⟩ : En).cs.toArray 81)).size; clear hr4 hg4 hc4 hfn)))
      go_wp2
      have BD4 := hid B4.out.drew
      have W4 := hid (FX.out _ B4.out).2.2
      have W4d := hid (FX.out _ BD4.out).2.2
      go_region_held3 (fun W' => (W'.cell? ⟨w.heap.size, 0, none⟩ = some (.slice (some ⟨b, off, none⟩) sn sc) ∧ W'.cell? ⟨w.heap.size + 1, 0, none⟩ = some (.int .i64 kk) ∧ W'.cell? ⟨w.heap.size + 1, 1, none⟩ = some (.int .i64 ki) ∧ W'.cell? ⟨w.heap.size + 1, 2, none⟩ = some (.string kx) ∧ W'.cell? ⟨w.heap.size + 1, 3, none⟩ = some (.int .i64 kr) ∧ W'.cell? ⟨w.heap.size + 1, 4, none⟩ = some (.slice ka kn kc)) ∧ W'.cell? ⟨w.heap.size + 1 + 1, 0, none⟩ = some (.int .i64 vk) ∧ W'.cell? ⟨w.heap.size + 1 + 1, 1, none⟩ = some (.int .i64 vi) ∧ W'.cell? ⟨w.heap.size + 1 + 1, 2, none⟩ = some (.string vx) ∧ W'.cell? ⟨w.heap.size + 1 + 1, 3, none⟩ = some (.int .i64 vr) ∧ W'.cell? ⟨w.heap.size + 1 + 1, 4, none⟩ = some (.slice va vn vc)) (first | exact SC.set (HSE.out _ B6.out) _ | exact HSE.out _ B6.out | exact HSE.out _ B5.out | exact HSE.out _ BD4.out | exact HSE.out _ B4.out | go_keep) ((first
        | (go_at_call 41; (have hno := R5; refine (K41.out w5 W5.out ga gn gc R5.out).mono ?_; rintro e w6 ⟨ja, jn, jc, ns, rfl, hb6, hjc, hst, hns⟩; have B6 := hid (TR.out B5.out hb6); obtain ⟨_, x6, bb6⟩ := FX.out w6 B6.out; have x60 := cellOf x6 0; have x6f := freeOf x6 0; simp only [List.getElem?_toArray, List.getElem?_cons_zero] at x60; have X6 := hid x6; have BB6 := hid bb6; have HST := hid hst; have HNS := hid hns; have hs6 := hb6.size; clear x6 bb6 hst hns hb6))
        | (refine step_appX (by rfl) _ _ (by rfl) (.slice fa fn fc) (by rfl) _ (by rfl) _ _ (R4.out.below (Nat.le_refl _) (Below.refl _ w4).drew) (by have := G4.out; simpa using this) ma mn mc at' (by unfold sliced; rw [if_pos Hmb.out]; rfl) (mr.map (enT k)) (by rw [List.length_map]; exact Hmn.out) hmn2 hbh2 hcap (E1.out _ W4d.out) (by have := H4l.out; omega) ?_; intro v5 w5 hr5 hg5; rw [← Hmap.out] at hr5; have B5 := hid (grw_below BD4.out (R4.out.below (Nat.le_refl _) (Below.refl _ w4).drew) hg5 (by simp; omega)); obtain ⟨ga, gc, e5, hc5⟩ := hr5.form; obtain ⟨gn, hgn⟩ : ∃ gn, gn = (row'.map (enT k)).length := ⟨_, rfl⟩; rw [← hgn] at e5; subst e5; have W5 := hid (FX.out _ B5.out).2.2; have R5 : Hid (RwR k w5 ga gn row') := hid ⟨by rw [hgn, List.length_map], by rw [hgn, List.length_map]; exact hrlen, hr5.rd, fun q hq => hr1.out _ W5.out q hq⟩; clear hr5 hg5 hc5 hgn)))
      go_wp2
      have h5 := set_cells X6.out (.slice ja jn jc)
      have r0 := cellOf h5 0
      simp only [List.getElem?_toArray, List.getElem?_cons_zero, List.getElem?_cons_succ] at r0
      have hb5 := BB6.out.setCell (p := ⟨w.heap.size + 1 + 1 + 1, 0, none⟩) (by show w.heap.size ≤ w.heap.size + 1 + 1 + 1; omega) (.slice ja jn jc)
      have hs5 : (w6.setCell ⟨w.heap.size + 1 + 1 + 1, 0, none⟩ (.slice ja jn jc)).heap.size = w6.heap.size := by simp [World.setCell]
      have hsB := B5.out.size
      have hkp : ∀ x, w5.heap.size ≤ x → (w6.setCell ⟨w.heap.size + 1 + 1 + 1, 0, none⟩ (.slice ja jn jc)).heap[x]? = w6.heap[x]? := fun x hx => Below.heap_setCell _ _ _ _ (by show x ≠ w.heap.size + 1 + 1 + 1; omega)
      generalize w6.setCell ⟨w.heap.size + 1 + 1 + 1, 0, none⟩ (.slice ja jn jc) = W9 at *
      refine bodyPost_ret (v := .tuple #[.agg #[.slice ja jn jc], .int .i64 0]) (by simp [results, Try.results12, go_sem, r0]) rfl ⟨ja, jn, jc, ns, rfl, hb5, hjc, (HST.out.keep (fun x hx => hkp x hx.1)).imp (fun x hx => ⟨by omega, by omega⟩), HNS.out⟩
    · go_enter Try.func12, Try.ntmps12
      go_wp2_with (first
        | (go_at_call 39; (rw [← hW0]; refine (Hid.out K39 _).mono ?_; rintro e w1 ⟨rfl, hb1⟩; obtain ⟨⟨⟨c0, c1, c2, c3, c4, c5⟩, c6, c7, c8, c9, c10⟩, x2, bb⟩ := FX.out w1 hb1; have y0 := Hdc.out w1 bb; have HB1 := hid hb1; clear hb1 x2))
        | (go_at_call 40; (refine (Hid.out K40 w1 bb).mono ?_; rintro e w2 ⟨rfl, hb2⟩; have hb2' := TR.out HB1.out hb2; clear c0 c1 c2 c3 c4 c5 c6 c7 c8 c9 c10; obtain ⟨⟨⟨c0, c1, c2, c3, c4, c5⟩, c6, c7, c8, c9, c10⟩, x2, bb2⟩ := FX.out w2 hb2'; have HB2 := hid hb2'; have BB2 := hid bb2; clear hb2 hb2' x2)))
      have BD := hid HB2.out.drew
      have hs2 := HB2.out.size
      have hlow : (0 : Int) ≤ (at' : Int) + 1 := by omega
      try have hlow2 : (at' : Int) + 1 ≤ (mn : Int) := by omega
      have BA : Hid (∀ o, Below W0.heap.size W0 (w2.drew.alloc o)) := hid (fun o => HB2.out.drew.alloc HB2.out.drew.size o)
      have BW : Hid (∀ o, Below w.heap.size w (w2.drew.alloc o)) := hid (fun o => (FX.out _ (BA.out o)).2.2)
      go_region_held3 (fun W' => (W'.cell? ⟨w.heap.size, 0, none⟩ = some (.slice (some ⟨b, off, none⟩) sn sc) ∧ W'.cell? ⟨w.heap.size + 1, 0, none⟩ = some (.int .i64 kk) ∧ W'.cell? ⟨w.heap.size + 1, 1, none⟩ = some (.int .i64 ki) ∧ W'.cell? ⟨w.heap.size + 1, 2, none⟩ = some (.string kx) ∧ W'.cell? ⟨w.heap.size + 1, 3, none⟩ = some (.int .i64 kr) ∧ W'.cell? ⟨w.heap.size + 1, 4, none⟩ = some (.slice ka kn kc)) ∧ W'.cell? ⟨w.heap.size + 1 + 1, 0, none⟩ = some (.int .i64 vk) ∧ W'.cell? ⟨w.heap.size + 1 + 1, 1, none⟩ = some (.int .i64 vi) ∧ W'.cell? ⟨w.heap.size + 1 + 1, 2, none⟩ = some (.string vx) ∧ W'.cell? ⟨w.heap.size + 1 + 1, 3, none⟩ = some (.int .i64 vr) ∧ W'.cell? ⟨w.heap.size + 1 + 1, 4, none⟩ = some (.slice va vn vc)) (first | exact HSE.out _ B4.out | exact HSE.out _ (BA.out _) | exact HSE.out _ BD.out | go_keep) ((first
        | (refine step_appT (by rfl) _ _ (by rfl) _ (by rfl) w2.heap.size ⟨⟨kk, ki, kx, kr, ka, kn, kc⟩, ⟨vk, vi, vx, vr, va, vn, vc⟩⟩ (by rfl) ma at' (by rfl) ((mr.map (enT k)).take at') (by rw [List.length_take, List.length_map, ← Hmn.out]; omega) (by omega) ((E1.out _ (BW.out _)).take at') (heap_alloc_new w2.drew _) ?_; intro v4 w4 hr4 hg4; have B4 := hid (TR.out (BA.out _) (below_of_grown hg4)); obtain ⟨fa, fc, e4, hc4⟩ := hr4.form; obtain ⟨fn, hfn⟩ : ∃ fn, fn = ((mr.map (enT k)).take at' ++ [(⟨⟨kk, ki, kx, kr, ka, kn, kc⟩, ⟨vk, vi, vx, vr, va, vn, vc⟩⟩ : En)]).length := ⟨_, rfl⟩; rw [← hfn] at e4; subst e4; have R4 := hid hr4; have G4 := hid hg4.size; have H4l : Hid (((mr.map (enT k)).take at' ++ [(⟨⟨kk, ki, kx, kr, ka, kn, kc⟩, ⟨vk, vi, vx, vr, va, vn, vc⟩⟩ : En)]).length ≤ 1001) := hid (by simp only [List.length_append, List.length_take, List.length_map, List.length_singleton]; omega); have GA := hid (BA.out (.cells (⟨⟨kk, ki, kx, kr, ka, kn, kc⟩, ⟨vk, vi, vx, vr, va, vn, vc⟩⟩ : En).cs.toArray 81)).size; clear hr4 hg4 hc4 hfn)))
      go_wp2
      have BD4 := hid B4.out.drew
      have W4 := hid (FX.out _ B4.out).2.2
      have W4d := hid (FX.out _ BD4.out).2.2
      go_region_held3 (fun W' => (W'.cell? ⟨w.heap.size, 0, none⟩ = some (.slice (some ⟨b, off, none⟩) sn sc) ∧ W'.cell? ⟨w.heap.size + 1, 0, none⟩ = some (.int .i64 kk) ∧ W'.cell? ⟨w.heap.size + 1, 1, none⟩ = some (.int .i64 ki) ∧ W'.cell? ⟨w.heap.size + 1, 2, none⟩ = some (.string kx) ∧ W'.cell? ⟨w.heap.size + 1, 3, none⟩ = some (.int .i64 kr) ∧ W'.cell? ⟨w.heap.size + 1, 4, none⟩ = some (.slice ka kn kc)) ∧ W'.cell? ⟨w.heap.size + 1 + 1, 0, none⟩ = some (.int .i64 vk) ∧ W'.cell? ⟨w.heap.size + 1 + 1, 1, none⟩ = some (.int .i64 vi) ∧ W'.cell? ⟨w.heap.size + 1 + 1, 2, none⟩ = some (.string vx) ∧ W'.cell? ⟨w.heap.size + 1 + 1, 3, none⟩ = some (.int .i64 vr) ∧ W'.cell? ⟨w.heap.size + 1 + 1, 4, none⟩ = some (.slice va vn vc)) (first | exact SC.set (HSE.out _ B6.out) _ | exact HSE.out _ B6.out | exact HSE.out _ B5.out | exact HSE.out _ BD4.out | exact HSE.out _ B4.out | go_keep) ((first
        | (go_at_call 41; (have hno := R5; refine (K41.out w5 W5.out ga gn gc R5.out).mono ?_; rintro e w6 ⟨ja, jn, jc, ns, rfl, hb6, hjc, hst, hns⟩; have B6 := hid (TR.out B5.out hb6); obtain ⟨_, x6, bb6⟩ := FX.out w6 B6.out; have x60 := cellOf x6 0; have x6f := freeOf x6 0; simp only [List.getElem?_toArray, List.getElem?_cons_zero] at x60; have X6 := hid x6; have BB6 := hid bb6; have HST := hid hst; have HNS := hid hns; have hs6 := hb6.size; clear x6 bb6 hst hns hb6))
        | (refine step_appX (by rfl) _ _ (by rfl) (.slice fa fn fc) (by rfl) _ (by rfl) _ _ (R4.out.below (Nat.le_refl _) (Below.refl _ w4).drew) (by have := G4.out; simpa using this) ma mn mc at' (by unfold sliced; rw [if_neg hmb]; rfl) (mr.map (enT k)) (by rw [List.length_map]; exact Hmn.out) hmn2 hbh2 hcap (E1.out _ W4d.out) (by have := H4l.out; omega) ?_; intro v5 w5 hr5 hg5; rw [← Hmap.out] at hr5; have B5 := hid (grw_below BD4.out (R4.out.below (Nat.le_refl _) (Below.refl _ w4).drew) hg5 (by simp; omega)); obtain ⟨ga, gc, e5, hc5⟩ := hr5.form; obtain ⟨gn, hgn⟩ : ∃ gn, gn = (row'.map (enT k)).length := ⟨_, rfl⟩; rw [← hgn] at e5; subst e5; have W5 := hid (FX.out _ B5.out).2.2; have R5 : Hid (RwR k w5 ga gn row') := hid ⟨by rw [hgn, List.length_map], by rw [hgn, List.length_map]; exact hrlen, hr5.rd, fun q hq => hr1.out _ W5.out q hq⟩; clear hr5 hg5 hc5 hgn)))
      go_wp2
      have h5 := set_cells X6.out (.slice ja jn jc)
      have r0 := cellOf h5 0
      simp only [List.getElem?_toArray, List.getElem?_cons_zero, List.getElem?_cons_succ] at r0
      have hb5 := BB6.out.setCell (p := ⟨w.heap.size + 1 + 1 + 1, 0, none⟩) (by show w.heap.size ≤ w.heap.size + 1 + 1 + 1; omega) (.slice ja jn jc)
      have hs5 : (w6.setCell ⟨w.heap.size + 1 + 1 + 1, 0, none⟩ (.slice ja jn jc)).heap.size = w6.heap.size := by simp [World.setCell]
      have hsB := B5.out.size
      have hkp : ∀ x, w5.heap.size ≤ x → (w6.setCell ⟨w.heap.size + 1 + 1 + 1, 0, none⟩ (.slice ja jn jc)).heap[x]? = w6.heap[x]? := fun x hx => Below.heap_setCell _ _ _ _ (by show x ≠ w.heap.size + 1 + 1 + 1; omega)
      generalize w6.setCell ⟨w.heap.size + 1 + 1 + 1, 0, none⟩ (.slice ja jn jc) = W9 at *
      refine bodyPost_ret (v := .tuple #[.agg #[.slice ja jn jc], .int .i64 0]) (by simp [results, Try.results12, go_sem, r0]) rfl ⟨ja, jn, jc, ns, rfl, hb5, hjc, (HST.out.keep (fun x hx => hkp x hx.1)).imp (fun x hx => ⟨by omega, by omega⟩), HNS.out⟩



end Go.Proofs.Ytenfgahedbeekaa

namespace Go.Proofs.Ytenfgahedbeekaa
open Go.RowKit Go.Deep Go.Shelf
set_option linter.unusedVariables false
set_option linter.unusedSimpArgs false

abbrev RC (k : Nat) := List (CT k × CT k)
def StCR (k : Nat) (w : World) (a : Option Addr) (n : Nat) (S : List (RC k)) : Prop := ∃ ms, StR k w a n ms ∧ ms.map (fun q => rowC k q.2) = S
def StCP (k : Nat) (w : World) (A : Nat → Prop) (a : Option Addr) (n : Nat) (S : List (RC k)) : Prop := ∃ ms, StP k w A a n ms ∧ ms.map (fun q => rowC k q.2) = S
theorem StCP.cr {k : Nat} {w : World} {A : Nat → Prop} {a : Option Addr} {n : Nat} {S : List (RC k)} (h : StCP k w A a n S) : StCR k w a n S := by
  obtain ⟨ms, h1, h2⟩ := h
  exact ⟨ms, h1.str, h2⟩
theorem StCP.keep {k : Nat} {w w' : World} {A : Nat → Prop} {a : Option Addr} {n : Nat} {S : List (RC k)} (h : StCP k w A a n S) (e : ∀ b, A b → w'.heap[b]? = w.heap[b]?) : StCP k w' A a n S := by
  obtain ⟨ms, h1, h2⟩ := h
  exact ⟨ms, h1.keep e, h2⟩
theorem StCP.imp {k : Nat} {w : World} {A B : Nat → Prop} {a : Option Addr} {n : Nat} {S : List (RC k)} (h : StCP k w A a n S) (i : ∀ b, A b → B b) : StCP k w B a n S := by
  obtain ⟨ms, h1, h2⟩ := h
  exact ⟨ms, h1.imp i, h2⟩
theorem StCR.below {k : Nat} {w w' : World} {a : Option Addr} {n : Nat} {S : List (RC k)} {B : Nat} (h : StCR k w a n S) (hB : w.heap.size ≤ B) (hb : Below B w w') : StCR k w' a n S := by
  obtain ⟨ms, h1, h2⟩ := h
  exact ⟨ms, h1.below hB hb, h2⟩
theorem StCR.len {k : Nat} {w : World} {a : Option Addr} {n : Nat} {S : List (RC k)} (h : StCR k w a n S) : n = S.length ∧ n ≤ 1000 := by
  obtain ⟨ms, h1, h2⟩ := h
  exact ⟨by rw [← h2, List.length_map, h1.n1], h1.n2⟩
def rowOf {k : Nat} (S : List (RC k)) (m : Int) : RC k := if 0 ≤ m then (S[m.toNat]?).getD [] else []
theorem rowAt_c {k : Nat} {ms : List (Sl × Rw k)} {S : List (RC k)} (h : ms.map (fun q => rowC k q.2) = S) (m : Int) : rowC k (rowAt ms m) = rowOf S m := by
  unfold rowAt rowOf
  split
  · rw [← h, List.getElem?_map]
    cases ms[m.toNat]? <;> rfl
  · rfl
theorem find_c {k : Nat} (r : Rw k) (P : CT k → Bool) (f : CT k × CT k → CT k) (g : VT k × VT k → CT k) (hg : ∀ p, g p = f (ofP k p)) : (r.find? (fun p => P (ofT k p.1))).map g = ((rowC k r).find? (fun q => P q.1)).map f := by
  unfold rowC
  rw [List.find?_map]
  have : (fun q : CT k × CT k => P q.1) ∘ ofP k = fun p => P (ofT k p.1) := rfl
  rw [this]
  cases r.find? (fun p => P (ofT k p.1)) with
  | none => rfl
  | some p => simp [hg]
theorem next_c (k : Nat) (w : World) (sa : Option Addr) (sn sc : Nat) (S : List (RC k)) (hd : StCR k w sa sn S) (m : Int) (h : Hd) (c : CT k) (hk : RdC k w h c) :
    Calls Try.prog 19 #[.agg #[.slice sa sn sc], .int .i64 m, h.v] w (MbP k w (((rowOf S m).find? (fun q => decide (0 < cmpC k q.1 c))).map (·.1))) := by
  obtain ⟨ms, h1, h2⟩ := hd
  obtain ⟨t, rfl, t2, rfl⟩ := hk
  have := next_any k w sa sn sc ms h1 m t t2
  have e : ((rowAt ms m).find? (fun p => decide (0 < cmpT k p.1 t))).map (fun p => ofT k p.1) = ((rowOf S m).find? (fun q => decide (0 < cmpC k q.1 (ofT k t)))).map (·.1) := by
    rw [← rowAt_c h2 m, ← find_c (rowAt ms m) (fun c => decide (0 < cmpC k c (ofT k t))) (·.1) (fun p => ofT k p.1) (fun p => rfl)]
    simp only [cmpC_of]
  rw [e] at this
  exact this
theorem first_c (k : Nat) (w : World) (sa : Option Addr) (sn sc : Nat) (S : List (RC k)) (hd : StCR k w sa sn S) (m : Int) :
    Calls Try.prog 21 #[.agg #[.slice sa sn sc], .int .i64 m] w (MbP k w ((rowOf S m).head?.map (·.1))) := by
  obtain ⟨ms, h1, h2⟩ := hd
  have := first_any k w sa sn sc ms h1 m
  have e : ((rowAt ms m).head?.map fun p => ofT k p.1) = (rowOf S m).head?.map (·.1) := by
    rw [← rowAt_c h2 m]
    unfold rowC
    cases rowAt ms m <;> rfl
  rw [e] at this
  exact this
/- A state told: in new memory. -/
theorem wth_c {k : Nat} (m : Int) (r : RC k) (S : List (RC k)) : wth m r S = if 0 ≤ m then S.set m.toNat r else S := by
  unfold wth
  by_cases h0 : 0 ≤ m
  · rw [if_pos h0]
    apply List.ext_getElem?
    intro i
    rw [List.getElem?_mapIdx, List.getElem?_set]
    by_cases h : m.toNat = i
    · rw [if_pos h]
      subst h
      by_cases hl : m.toNat < S.length
      · rw [if_pos hl, List.getElem?_eq_getElem hl, Option.map_some, if_pos (by omega)]
      · rw [if_neg hl, List.getElem?_eq_none (by omega)]
        rfl
    · rw [if_neg h]
      cases S[i]? with
      | none => rfl
      | some x => rw [Option.map_some, if_neg (by omega)]
  · rw [if_neg h0]
    apply List.ext_getElem?
    intro i
    rw [List.getElem?_mapIdx]
    cases S[i]? with
    | none => rfl
    | some x => rw [Option.map_some, if_neg (by omega)]
theorem placeR_map {α β : Type} (c : β → Int) (f : α → β) (l : List α) : placeR (fun a => c (f a)) l = placeR c (l.map f) := by
  unfold placeR
  have e : plQ c ∘ f = plQ (fun a => c (f a)) := rfl
  rw [List.findIdx_map, List.find?_map, e]
  refine Prod.ext rfl ?_
  show _ = Option.getD (Option.map (fun a => c a == 0) (Option.map f (List.find? (plQ fun a => c (f a)) l))) false
  cases List.find? (plQ fun a => c (f a)) l <;> rfl
theorem putR_map {α β : Type} (c : β → Int) (f : α → β) (x : α) (l : List α) : (putR (fun a => c (f a)) x l).map f = putR c (f x) (l.map f) := by
  unfold putR
  rw [placeR_map]
  simp only [List.map_append, List.map_take, List.map_drop, List.map_cons, List.map_nil]
def PutTold (k : Nat) (w : World) (S : List (RC k)) (e : Ending) (w' : World) : Prop := ∃ fa fn fc, e = .returned (.tuple #[.agg #[.slice fa fn fc], .int .i64 0]) ∧ Below w.heap.size w w' ∧ fn ≤ fc ∧ StCP k w' (fun b => w.heap.size ≤ b ∧ b < w'.heap.size) fa fn S
theorem place_c {k : Nat} {ms : List (Sl × Rw k)} {S : List (RC k)} (h2 : ms.map (fun q => rowC k q.2) = S) (m : Int) (t : VT k) : placeR (fun p => cmpT k p.1 t) (rowAt ms m) = placeR (fun q => cmpC k q.1 (ofT k t)) (rowOf S m) := by
  rw [← rowAt_c h2 m]
  unfold rowC
  rw [← placeR_map]
  congr 1
  funext p
  exact (cmpC_of k p.1 t).symm
theorem put_c_ok (k : Nat) (w : World) (sa : Option Addr) (sn sc : Nat) (S : List (RC k)) (hd : StCR k w sa sn S) (m : Int) (h g : Hd) (c d : CT k) (hk : RdC k w h c) (hv : RdC k w g d) (hm : hasB sn m = true) (hok : (placeR (fun q => cmpC k q.1 c) (rowOf S m)).2 = true ∨ (rowOf S m).length < 24) :
    Calls Try.prog 12 #[.agg #[.slice sa sn sc], .int .i64 m, h.v, g.v] w (PutTold k w (S.set m.toNat (putR (fun q => cmpC k q.1 c) (c, d) (rowOf S m)))) := by
  obtain ⟨ms, h1, h2⟩ := hd
  obtain ⟨t, rfl, t2, rfl⟩ := hk
  obtain ⟨u, rfl, u2, rfl⟩ := hv
  have hl : (rowAt ms m).length = (rowOf S m).length := by rw [← rowAt_c h2 m]; simp [rowC]
  have h0 : 0 ≤ m := by
    have : 0 ≤ m ∧ m < (sn : Int) := by simpa [hasB] using hm
    exact this.1
  refine (put_ok k w sa sn sc ms h1 m t u t2 u2 hm (by rw [place_c h2, hl]; exact hok)).mono ?_
  rintro e w' ⟨fa, fn, fc, ns, he, hb, hc, hs, hn⟩
  refine ⟨fa, fn, fc, he, hb, hc, ns, hs, ?_⟩
  rw [hn, wth_c, h2, if_pos h0]
  have : rowC k (putR (fun p => cmpT k p.1 t) (t, u) (rowAt ms m)) = putR (fun q => cmpC k q.1 (ofT k t)) (ofT k t, ofT k u) (rowOf S m) := by
    rw [← rowAt_c h2 m]
    unfold rowC
    rw [show (ofT k t, ofT k u) = ofP k (t, u) from rfl, ← putR_map]
    congr 2
    funext p
    exact (cmpC_of k p.1 t).symm
  rw [this]
end Go.Proofs.Ytenfgahedbeekaa

namespace Go.Proofs.Ytenfgahedbeekaa
open Go.RowKit Go.Deep Go.Shelf
set_option linter.unusedVariables false
set_option linter.unusedSimpArgs false

def numH (n : Int) : Hd := ⟨1, n, ⟨#[]⟩, 0, none, 0, 0⟩
def numC (n : Int) : CT 1 := ((⟨1, n, ⟨#[]⟩, 0⟩ : C4), [])
theorem num_rd (w : World) (n : Int) (h0 : -9223372036854775808 ≤ n) (h1 : n ≤ 9223372036854775807) : RdC 1 w (numH n) (numC n) :=
  ⟨((numH n, []) : VT 1), rfl, ⟨⟨h0, h1, by show (-9223372036854775808 : Int) ≤ 1; omega, by show (1 : Int) ≤ 9223372036854775807; omega, by show (-9223372036854775808 : Int) ≤ 0; omega, by show (0 : Int) ≤ 9223372036854775807; omega, by show (⟨#[]⟩ : ByteArray).size ≤ _; decide, by show (0 : Nat) ≤ _; omega⟩, rfl, by show (0 : Nat) ≤ 1000; omega, fun j x hx => by simp at hx, fun u hu => by cases hu⟩, rfl⟩
theorem cmp_num (a b : Int) : cmpC 1 (numC a) (numC b) = ci a b := by
  show (if cC ⟨1, a, ⟨#[]⟩, 0⟩ ⟨1, b, ⟨#[]⟩, 0⟩ = 0 then cmpL (cmpC 0) [] [] else cC ⟨1, a, ⟨#[]⟩, 0⟩ ⟨1, b, ⟨#[]⟩, 0⟩) = ci a b
  have h1 : ci (1 : Int) 1 = 0 := ci_self 1
  have h2 : cS (⟨#[]⟩ : ByteArray) ⟨#[]⟩ = 0 := ord_cS.self _
  have h3 : ci (0 : Int) 0 = 0 := ci_self 0
  have e : cC ⟨1, a, ⟨#[]⟩, 0⟩ ⟨1, b, ⟨#[]⟩, 0⟩ = ci a b := by
    unfold cC
    simp only [orL, h1, h2, h3, if_true]
    by_cases h : ci a b = 0
    · rw [if_pos h, h]
    · rw [if_neg h]
  rw [e]
  by_cases h : ci a b = 0
  · rw [if_pos h, h]; rfl
  · rw [if_neg h]
set_option maxHeartbeats 400000 in
theorem num_any (w : World) (n : Int) : Calls Try.prog 36 #[.int .i64 n] w fun e w' => e = .returned (.agg #[.int .i64 1, .int .i64 n, .string ⟨#[]⟩, .int .i64 0, .slice none 0 0]) ∧ Below w.heap.size w w' := by
  obtain ⟨W0, hW0⟩ : ∃ W0, W0 = w.alloc (.cells #[.int .i64 1, .int .i64 n, .string ⟨#[]⟩, .int .i64 0, .slice none 0 0] 31) := ⟨_, rfl⟩
  have h5 : W0.heap[w.heap.size]? = some (.cells #[.int .i64 1, .int .i64 n, .string ⟨#[]⟩, .int .i64 0, .slice none 0 0] 31 (0, 0)) := by rw [hW0]; exact heap_alloc_new w _
  have hb : Below w.heap.size w W0 := by rw [hW0]; exact (Below.refl _ w).alloc (Nat.le_refl _) _
  have q0 := cellOf h5 0
  have q1 := cellOf h5 1
  have q2 := cellOf h5 2
  have q3 := cellOf h5 3
  have q4 := cellOf h5 4
  simp only [List.getElem?_toArray, List.getElem?_cons_zero, List.getElem?_cons_succ] at q0 q1 q2 q3 q4
  go_enter Try.func36, Try.ntmps36
  go_wp2
  rw [← hW0]
  exact bodyPost_ret (v := .agg #[.int .i64 1, .int .i64 n, .string ⟨#[]⟩, .int .i64 0, .slice none 0 0]) (by simp [results, Try.results36, go_sem, q0, q1, q2, q3, q4]) rfl ⟨rfl, hb⟩
/- A number told. -/
theorem told_num {w' : World} {A : Nat → Prop} {t : VT 1} {n : Int} (h : RdP 1 w' A t) (e : ofT 1 t = numC n) : (hdT 1 t).kind = 1 ∧ (hdT 1 t).int = n ∧ (hdT 1 t).text = ⟨#[]⟩ ∧ (hdT 1 t).rc = 0 ∧ (hdT 1 t).n = 0 := by
  obtain ⟨⟨k, i, x, r, a, m, c⟩, us⟩ := t
  have e1 : (⟨k, i, x, r⟩ : C4) = ⟨1, n, ⟨#[]⟩, 0⟩ := congrArg Prod.fst e
  have e2 : us.map (ofT 0) = [] := congrArg Prod.snd e
  injection e1 with g1 g2 g3 g4
  have h2 : m = us.length := h.2.1
  exact ⟨g1, g2, g3, g4, by rw [show (hdT 1 ((⟨k, i, x, r, a, m, c⟩ : Hd), us)).n = m from rfl, h2, List.map_eq_nil_iff.1 e2]; rfl⟩
/- A state's map as it lies. -/
theorem StCR.at {k : Nat} {w : World} {a : Option Addr} {n : Nat} {S : List (RC k)} (h : StCR k w a n S) {i : Nat} {row : RC k} (hi : S[i]? = some row) : ∃ b off ra rn rc, a = some ⟨b, off, none⟩ ∧ w.cell? ⟨b, off + i, none⟩ = some (.slice ra rn rc) ∧ rn = row.length ∧ rn ≤ 1000 := by
  obtain ⟨ms, h1, h2⟩ := h
  rw [← h2, List.getElem?_map] at hi
  cases hp : ms[i]? with
  | none => rw [hp] at hi; cases hi
  | some p =>
    rw [hp] at hi
    obtain ⟨b, off, e, hc⟩ := h1.rd i p.1 (by rw [List.getElem?_map, hp]; rfl)
    have h3 := (h1.el p (List.mem_of_getElem? hp)).1
    refine ⟨b, off, p.1.a, p.1.n, p.1.cap, e, hc, ?_, h3.n2⟩
    have : row = rowC k p.2 := by simpa using hi.symm
    rw [this, h3.n1]
    simp [rowC]
theorem st_make {k : Nat} {w : World} {A : Nat → Prop} {g n : Nat} (h : w.heap[g]? = some (.cells (List.replicate n (.slice none 0 0)).toArray 70 (0, 0))) (hA : A g) (hn : n ≤ 1000) : StCP k w A (some ⟨g, 0, none⟩) n (List.replicate n []) := by
  refine ⟨List.replicate n ((⟨none, 0, 0⟩ : Sl), ([] : Rw k)), ⟨by simp, hn, ?_, ?_, ?_⟩, by simp [rowC]⟩
  · intro j m hm
    rw [List.map_replicate] at hm
    have hj : j < n := by
      have := (List.getElem?_eq_some_iff.1 hm).1
      simpa using this
    refine ⟨g, 0, rfl, ?_⟩
    rw [Nat.zero_add, cellOf h j]
    rw [List.getElem?_replicate, if_pos hj] at hm
    cases hm
    simp [hj, Sl.v]
  · intro x e _
    cases e
    exact hA
  · intro m hm
    rw [List.mem_replicate] at hm
    obtain ⟨_, rfl⟩ := hm
    exact ⟨⟨rfl, by show (0 : Nat) ≤ 1000; omega, fun j x hx => by simp at hx, fun x e ne => absurd rfl ne, fun p hp => by simp at hp⟩, Nat.le_refl _⟩
end Go.Proofs.Ytenfgahedbeekaa

namespace Go.Proofs.Ytenfgahedbeekaa
open Go.RowKit Go.Deep Go.Shelf
set_option linter.unusedVariables false
set_option linter.unusedSimpArgs false

abbrev NL := List (Int × Int)
def numP (p : Int × Int) : CT 1 × CT 1 := (numC p.1, numC p.2)
def rowN (L : NL) : RC 1 := L.map numP
def cA (a : Int) (p : Int × Int) : Int := ci p.1 a
theorem ci_pos_iff (x a : Int) : decide (0 < ci x a) = decide (a < x) := by
  unfold ci
  by_cases h1 : x < a
  · rw [if_pos h1]
    have : ¬ a < x := by omega
    simp [this]
  · rw [if_neg h1]
    by_cases h2 : a < x
    · rw [if_pos h2]; simp [h2]
    · rw [if_neg h2]; simp [h2]
theorem rowOf_n {SS : List NL} {i : Nat} {L : NL} (hi : SS[i]? = some L) : rowOf (SS.map rowN) (i : Int) = rowN L := by
  unfold rowOf
  rw [if_pos (by omega), Int.toNat_natCast, List.getElem?_map, hi]; rfl
theorem cA_n (a : Int) : (fun q : CT 1 × CT 1 => cmpC 1 q.1 (numC a)) ∘ numP = cA a := by
  funext p
  exact cmp_num p.1 a
theorem place_n (a : Int) (L : NL) : placeR (fun q => cmpC 1 q.1 (numC a)) (rowN L) = placeR (cA a) L := by
  unfold rowN
  rw [← placeR_map (fun q : CT 1 × CT 1 => cmpC 1 q.1 (numC a)) numP L]
  congr 1
  exact cA_n a
theorem put_n_row (a b : Int) (L : NL) : putR (fun q => cmpC 1 q.1 (numC a)) (numC a, numC b) (rowN L) = rowN (putR (cA a) (a, b) L) := by
  unfold rowN
  rw [show (numC a, numC b) = numP (a, b) from rfl, ← putR_map (fun q : CT 1 × CT 1 => cmpC 1 q.1 (numC a)) numP (a, b) L]
  congr 2
  exact cA_n a
def In64 (a : Int) : Prop := -9223372036854775808 ≤ a ∧ a ≤ 9223372036854775807
theorem hasB_n {n i : Nat} (h : i < n) : hasB n (i : Int) = true := by
  simp [hasB, h]
theorem put_n (w : World) (sa : Option Addr) (sn sc : Nat) (SS : List NL) (hd : StCR 1 w sa sn (SS.map rowN)) (i : Nat) (L : NL) (hi : SS[i]? = some L) (a b : Int) (ha : In64 a) (hb : In64 b) (hok : (placeR (cA a) L).2 = true ∨ L.length < 24) :
    Calls Try.prog 12 #[.agg #[.slice sa sn sc], .int .i64 (i : Int), (numH a).v, (numH b).v] w (PutTold 1 w ((SS.set i (putR (cA a) (a, b) L)).map rowN)) := by
  have hl : i < sn := by
    have := hd.len.1
    rw [List.length_map] at this
    have := (List.getElem?_eq_some_iff.1 hi).1
    omega
  have h := put_c_ok 1 w sa sn sc _ hd (i : Int) (numH a) (numH b) (numC a) (numC b) (num_rd w a ha.1 ha.2) (num_rd w b hb.1 hb.2) (hasB_n hl) (by
    rw [rowOf_n hi, place_n]
    rcases hok with h | h
    · exact .inl h
    · exact .inr (by unfold rowN; rw [List.length_map]; exact h))
  rw [rowOf_n hi, put_n_row, Int.toNat_natCast, ← List.map_set] at h
  exact h
theorem find_n (L : NL) (P : CT 1 → Bool) (Q : Int → Bool) (hPQ : ∀ x, P (numC x) = Q x) (f : CT 1 × CT 1 → CT 1) : ((rowN L).find? (fun q => P q.1)).map f = (L.find? (fun p => Q p.1)).map (fun p => f (numP p)) := by
  unfold rowN
  rw [List.find?_map]
  have : (fun q : CT 1 × CT 1 => P q.1) ∘ numP = fun p => Q p.1 := by funext p; exact hPQ p.1
  rw [this]
  cases L.find? (fun p => Q p.1) <;> rfl
theorem next_n (w : World) (sa : Option Addr) (sn sc : Nat) (SS : List NL) (hd : StCR 1 w sa sn (SS.map rowN)) (i : Nat) (L : NL) (hi : SS[i]? = some L) (h : Hd) (a : Int) (hk : RdC 1 w h (numC a)) :
    Calls Try.prog 19 #[.agg #[.slice sa sn sc], .int .i64 (i : Int), h.v] w (MbP 1 w ((L.find? (fun p => decide (a < p.1))).map (fun p => numC p.1))) := by
  have h := next_c 1 w sa sn sc _ hd (i : Int) h (numC a) hk
  rw [rowOf_n hi, find_n L (fun c => decide (0 < cmpC 1 c (numC a))) (fun x => decide (a < x)) (fun x => by rw [cmp_num]; exact ci_pos_iff x a) (·.1)] at h
  exact h
theorem first_n (w : World) (sa : Option Addr) (sn sc : Nat) (SS : List NL) (hd : StCR 1 w sa sn (SS.map rowN)) (i : Nat) (L : NL) (hi : SS[i]? = some L) :
    Calls Try.prog 21 #[.agg #[.slice sa sn sc], .int .i64 (i : Int)] w (MbP 1 w (L.head?.map (fun p => numC p.1))) := by
  have h := first_c 1 w sa sn sc _ hd (i : Int)
  rw [rowOf_n hi] at h
  have e : (rowN L).head?.map (·.1) = L.head?.map (fun p => numC p.1) := by
    unfold rowN
    cases L <;> rfl
  rw [e] at h
  exact h
/- Put, on a list. -/
end Go.Proofs.Ytenfgahedbeekaa

