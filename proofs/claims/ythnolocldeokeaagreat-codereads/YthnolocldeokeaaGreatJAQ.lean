/- code.reader: mapType, field, sig, record. -/
import Derived.Test.YthnolocldeokeaaGreatJAP
namespace Go.Proofs.YthnolocldeokeaaGreat
open Go.RowKit Go.Deep Go.Shelf
set_option linter.unusedVariables false
set_option linter.unusedSimpArgs false
set_option maxRecDepth 100000
theorem three_set {w : World} {b : Nat} {p0 p1 p2 : Value} {t : TypeId} (h : w.heap[b]? = some (.cells #[p0, p1, p2] t (0, 0))) (x0 x1 x2 : Value) : (((w.setCell ⟨b, 0, none⟩ x0).setCell ⟨b, 1, none⟩ x1).setCell ⟨b, 2, none⟩ x2).heap[b]? = some (.cells #[x0, x1, x2] t (0, 0)) ∧ w.grownBy (((w.setCell ⟨b, 0, none⟩ x0).setCell ⟨b, 1, none⟩ x1).setCell ⟨b, 2, none⟩ x2) (some b) := by
  have h0 := heap_set_at h 0 x0
  simp only [List.setIfInBounds_toArray, List.set_cons_zero, List.set_cons_succ] at h0
  have h1 := heap_set_at h0 1 x1
  simp only [List.setIfInBounds_toArray, List.set_cons_zero, List.set_cons_succ] at h1
  have h2 := heap_set_at h1 2 x2
  simp only [List.setIfInBounds_toArray, List.set_cons_zero, List.set_cons_succ] at h2
  exact ⟨h2, gtrans (gtrans (grown_set w b 0 x0) (grown_set _ b 1 x1)) (grown_set _ b 2 x2)⟩
theorem four_set {w : World} {b : Nat} {p0 p1 p2 p3 : Value} {t : TypeId} (h : w.heap[b]? = some (.cells #[p0, p1, p2, p3] t (0, 0))) (x0 x1 x2 x3 : Value) : ((((w.setCell ⟨b, 0, none⟩ x0).setCell ⟨b, 1, none⟩ x1).setCell ⟨b, 2, none⟩ x2).setCell ⟨b, 3, none⟩ x3).heap[b]? = some (.cells #[x0, x1, x2, x3] t (0, 0)) ∧ w.grownBy ((((w.setCell ⟨b, 0, none⟩ x0).setCell ⟨b, 1, none⟩ x1).setCell ⟨b, 2, none⟩ x2).setCell ⟨b, 3, none⟩ x3) (some b) := by
  have h0 := heap_set_at h 0 x0
  simp only [List.setIfInBounds_toArray, List.set_cons_zero, List.set_cons_succ] at h0
  have h1 := heap_set_at h0 1 x1
  simp only [List.setIfInBounds_toArray, List.set_cons_zero, List.set_cons_succ] at h1
  have h2 := heap_set_at h1 2 x2
  simp only [List.setIfInBounds_toArray, List.set_cons_zero, List.set_cons_succ] at h2
  have h3 := heap_set_at h2 3 x3
  simp only [List.setIfInBounds_toArray, List.set_cons_zero, List.set_cons_succ] at h3
  exact ⟨h3, gtrans (gtrans (gtrans (grown_set w b 0 x0) (grown_set _ b 1 x1)) (grown_set _ b 2 x2)) (grown_set _ b 3 x3)⟩
theorem five_set {w : World} {b : Nat} {p0 p1 p2 p3 p4 : Value} {t : TypeId} (h : w.heap[b]? = some (.cells #[p0, p1, p2, p3, p4] t (0, 0))) (x0 x1 x2 x3 x4 : Value) : (((((w.setCell ⟨b, 0, none⟩ x0).setCell ⟨b, 1, none⟩ x1).setCell ⟨b, 2, none⟩ x2).setCell ⟨b, 3, none⟩ x3).setCell ⟨b, 4, none⟩ x4).heap[b]? = some (.cells #[x0, x1, x2, x3, x4] t (0, 0)) ∧ w.grownBy (((((w.setCell ⟨b, 0, none⟩ x0).setCell ⟨b, 1, none⟩ x1).setCell ⟨b, 2, none⟩ x2).setCell ⟨b, 3, none⟩ x3).setCell ⟨b, 4, none⟩ x4) (some b) := by
  have h0 := heap_set_at h 0 x0
  simp only [List.setIfInBounds_toArray, List.set_cons_zero, List.set_cons_succ] at h0
  have h1 := heap_set_at h0 1 x1
  simp only [List.setIfInBounds_toArray, List.set_cons_zero, List.set_cons_succ] at h1
  have h2 := heap_set_at h1 2 x2
  simp only [List.setIfInBounds_toArray, List.set_cons_zero, List.set_cons_succ] at h2
  have h3 := heap_set_at h2 3 x3
  simp only [List.setIfInBounds_toArray, List.set_cons_zero, List.set_cons_succ] at h3
  have h4 := heap_set_at h3 4 x4
  simp only [List.setIfInBounds_toArray, List.set_cons_zero, List.set_cons_succ] at h4
  exact ⟨h4, gtrans (gtrans (gtrans (gtrans (grown_set w b 0 x0) (grown_set _ b 1 x1)) (grown_set _ b 2 x2)) (grown_set _ b 3 x3)) (grown_set _ b 4 x4)⟩
theorem rT_le (s : Option (List Nat)) : (rT s).1.size ≤ 64 := by
  unfold rT
  split
  · simp
  · rename_i t k hd
    unfold textD at hd
    split at hd
    · cases hd
    · split at hd
      · cases hd
      · split at hd
        · cases hd
        · injection hd with hd
          injection hd with hd _
          subst hd
          rw [ofB_size, List.length_take]
          omega
def rMp (s : Option (List Nat)) : Mp × Option (List Nat) := (⟨(rT s).1, (rTy (rT s).2).1, (rTy (rTy (rT s).2).2).1⟩, (rTy (rTy (rT s).2).2).2)
set_option maxHeartbeats 2000000 in
theorem mapType_any (w : World) (R D : Nat) (s : Option (List Nat)) (h : Rst w R D s) : Calls Tryz.prog 39 #[.pointer (some ⟨R, 0, none⟩)] w (RdP w R D (.agg #[.string (rMp s).1.name, .int .i64 (rMp s).1.key.1, .int .i64 (rMp s).1.key.2, .int .i64 (rMp s).1.val.1, .int .i64 (rMp s).1.val.2]) (rMp s).2) := by
  obtain ⟨W0, hW0⟩ : ∃ W0, W0 = w.alloc (.cells #[.string ⟨#[]⟩, .int .i64 0, .int .i64 0, .int .i64 0, .int .i64 0] 67) := ⟨_, rfl⟩
  have b0 : Below w.heap.size w W0 := by rw [hW0]; exact (Below.refl _ _).alloc (Nat.le_refl _) _
  have m0 : W0.heap[w.heap.size]? = some (.cells #[.string ⟨#[]⟩, .int .i64 0, .int .i64 0, .int .i64 0, .int .i64 0] 67 (0, 0)) := by rw [hW0]; exact heap_alloc_new w _
  have K1 := text_rd W0 R D s (h.below b0)
  have K2 := hid (fun (V : World) (t : Option (List Nat)) (hV : Rst V R D t) => oneType_any V R D t hV)
  have hRD := h.hR
  have hDw := h.hD
  have FIN : Hid (∀ (V : World) (t : Option (List Nat)) (x0 x1 x2 x3 x4 : Value), Rst V R D t → W0.grownBy V (some R) → (V.cell? ⟨w.heap.size, 0, none⟩ = some (.string ⟨#[]⟩) ∧ V.cell? ⟨w.heap.size, 1, none⟩ = some (.int .i64 0) ∧ V.cell? ⟨w.heap.size, 2, none⟩ = some (.int .i64 0) ∧ V.cell? ⟨w.heap.size, 3, none⟩ = some (.int .i64 0) ∧ V.cell? ⟨w.heap.size, 4, none⟩ = some (.int .i64 0)) ∧ (V.frozen? ⟨w.heap.size, 0, none⟩ = false ∧ V.frozen? ⟨w.heap.size, 1, none⟩ = false ∧ V.frozen? ⟨w.heap.size, 2, none⟩ = false ∧ V.frozen? ⟨w.heap.size, 3, none⟩ = false ∧ V.frozen? ⟨w.heap.size, 4, none⟩ = false) ∧ (((((V.setCell ⟨w.heap.size, 0, none⟩ x0).setCell ⟨w.heap.size, 1, none⟩ x1).setCell ⟨w.heap.size, 2, none⟩ x2).setCell ⟨w.heap.size, 3, none⟩ x3).setCell ⟨w.heap.size, 4, none⟩ x4).heap[w.heap.size]? = some (.cells #[x0, x1, x2, x3, x4] 67 (0, 0)) ∧ Rst (((((V.setCell ⟨w.heap.size, 0, none⟩ x0).setCell ⟨w.heap.size, 1, none⟩ x1).setCell ⟨w.heap.size, 2, none⟩ x2).setCell ⟨w.heap.size, 3, none⟩ x3).setCell ⟨w.heap.size, 4, none⟩ x4) R D t ∧ w.grownBy (((((V.setCell ⟨w.heap.size, 0, none⟩ x0).setCell ⟨w.heap.size, 1, none⟩ x1).setCell ⟨w.heap.size, 2, none⟩ x2).setCell ⟨w.heap.size, 3, none⟩ x3).setCell ⟨w.heap.size, 4, none⟩ x4) (some R)) := hid (fun V t x0 x1 x2 x3 x4 hs hg => by
    have k0 := (hg.block _ (lt_of_heap m0) (fun e => by cases e; omega)).trans m0
    obtain ⟨f1, g2⟩ := five_set k0 x0 x1 x2 x3 x4
    exact ⟨⟨cellOf k0 0, cellOf k0 1, cellOf k0 2, cellOf k0 3, cellOf k0 4⟩, ⟨freeOf k0 0, freeOf k0 1, freeOf k0 2, freeOf k0 3, freeOf k0 4⟩, f1, hs.grown g2 (fun r e => by cases e; omega), grown_new (gtrans (bgrown b0 (some R)) hg) g2 (Nat.le_refl _)⟩)
  have K1 := hid K1
  unfold rMp
  simp only
  generalize rT s = q at *
  obtain ⟨nm, s1⟩ := q
  simp only at *
  have K21 := hid (fun (V : World) (hV : Rst V R D s1) => K2.out V s1 hV)
  generalize rTy s1 = q2 at *
  obtain ⟨⟨k1, k2⟩, s2⟩ := q2
  simp only at *
  have K22 := hid (fun (V : World) (hV : Rst V R D s2) => K2.out V s2 hV)
  clear K2
  generalize rTy s2 = q3 at *
  obtain ⟨⟨v1, v2⟩, s3⟩ := q3
  simp only at *
  clear h b0 m0 hRD hDw
  go_enter Tryz.func39, Tryz.ntmps39
  go_upto_region 1 with fail
  rw [← hW0]
  clear hW0
  go_wp2_with (first
    | (go_at_call 45; (refine (Hid.out K1).mono ?_; rintro e w1 ⟨rfl, hs, hg⟩; have HG1 := hid hg; have K2a := hid (K21.out w1 hs); clear hs hg))
    | (have hno := hs1; (go_at_call 73; (refine (Hid.out K2b).mono ?_; rintro e w3 ⟨rfl, hs, hg⟩; obtain ⟨⟨c0, c1, c2, c3, c4⟩, ⟨f0, f1, f2, f3, f4⟩, d2, d3, d4⟩ := FIN.out w3 s3 (.string nm) (.int .i64 k1) (.int .i64 k2) (.int .i64 v1) (.int .i64 v2) hs (gtrans HG2.out hg); have D2 := hid d2; have D3 := hid d3; have D4 := hid d4; clear hs hg d2 d3 d4)))
    | (go_at_call 73; (refine (Hid.out K2a).mono ?_; rintro e w2 ⟨rfl, hs, hg⟩; have HG2 := hid (gtrans HG1.out hg); have K2b := hid (K22.out w2 hs); have hs1 := True.intro; clear hs hg)))
  have q0 := cellOf D2.out 0
  have q1 := cellOf D2.out 1
  have q2 := cellOf D2.out 2
  have q3 := cellOf D2.out 3
  have q4 := cellOf D2.out 4
  simp only [List.getElem?_toArray, List.getElem?_cons_zero, List.getElem?_cons_succ] at q0 q1 q2 q3 q4
  refine bodyPost_ret (v := .agg #[.string nm, .int .i64 k1, .int .i64 k2, .int .i64 v1, .int .i64 v2]) (by simp [results, Tryz.results39, go_sem, q0, q1, q2, q3, q4]) rfl ⟨rfl, D3.out, D4.out⟩
def rFd (what : Int) (s : Option (List Nat)) : Int × Option (List Nat) := if what = 0 then (0, s) else rN s
set_option maxHeartbeats 1000000 in
theorem field_any (w : World) (R D : Nat) (s : Option (List Nat)) (what : Int) (h : Rst w R D s) : Calls Tryz.prog 106 #[.pointer (some ⟨R, 0, none⟩), .int .u8 what] w (RdP w R D (.int .i64 (rFd what s).1) (rFd what s).2) := by
  have K := hid (number_any w R D s h)
  have HS0 := hid h
  clear h
  unfold rFd
  by_cases h0 : what = 0
  · subst h0
    rw [if_pos rfl]
    go_enter Tryz.func106, Tryz.ntmps106
    go_wp2
    go_ret
    exact ⟨rfl, HS0.out, bgrown (Below.refl _ _) _⟩
  · have h1 : ¬ (what : Int) = 0 := by omega
    rw [if_neg h0]
    clear h0
    go_enter Tryz.func106, Tryz.ntmps106
    go_wp2_with (go_at_call 78; (refine (Hid.out K).mono ?_; rintro e w1 ⟨rfl, hs, hg⟩; have HS := hid hs; have HG := hid hg; clear hs hg))
    go_ret
    exact ⟨rfl, HS.out, HG.out⟩
/- A signature that was read. -/
def SgP (w : World) (R D : Nat) (sg : Sg) (s : Option (List Nat)) (e : Ending) (w' : World) : Prop := ∃ g : GH, e = .returned (.agg #[.string g.name, .slice g.pa g.pn g.pc, .int .i64 g.k, .int .i64 g.r]) ∧ GNew w' w.heap.size (g, sg) ∧ Rst w' R D s ∧ w.grownBy w' (some R)
def rSg (s : Option (List Nat)) : Sg × Option (List Nat) := (⟨(rT s).1, (rL rTy 12 (rT s).2).1, (rTy (rL rTy 12 (rT s).2).2).1⟩, (rTy (rL rTy 12 (rT s).2).2).2)
/- A record that was read. -/
structure RNw (w : World) (B : Nat) (p : RH × Rc) : Prop where
  nm : p.1.name = p.2.name
  ns : p.1.name.size ≤ 64
  fl : p.2.fields.length ≤ 12
  tl : p.2.types.length ≤ 12
  fs : ∀ x ∈ p.2.fields, x.size ≤ 64
  fr : KR 9 1 w B (.slice p.1.fa p.1.fn p.1.fc) (p.2.fields.map stc)
  tr : KR 46 2 w B (.slice p.1.ta p.1.tn p.1.tc) (p.2.types.map tyc)
def RcP (w : World) (R D : Nat) (rc : Rc) (s : Option (List Nat)) (e : Ending) (w' : World) : Prop := ∃ g : RH, e = .returned (.agg #[.string g.name, .slice g.fa g.fn g.fc, .slice g.ta g.tn g.tc]) ∧ RNw w' w.heap.size (g, rc) ∧ Rst w' R D s ∧ w.grownBy w' (some R)
def rRc (s : Option (List Nat)) : Rc × Option (List Nat) := (⟨(rT s).1, (rL rT 12 (rT s).2).1, (rL rTy 12 (rL rT 12 (rT s).2).2).1⟩, (rL rTy 12 (rL rT 12 (rT s).2).2).2)
theorem rL_len {α : Type} (one : Option (List Nat) → α × Option (List Nat)) (most : Nat) (s : Option (List Nat)) : (rL one most s).1.length ≤ most := Nat.le_trans (rLn_len _ _) (rC_le most s)
theorem rLn_all {α : Type} {one : Option (List Nat) → α × Option (List Nat)} {P : α → Prop} (h : ∀ t, P (one t).1) : ∀ (n : Nat) (s : Option (List Nat)), ∀ x ∈ (rLn one n s).1, P x
  | 0, s => fun x hx => by simp [rLn] at hx
  | n + 1, s => fun x hx => by
    have ih := rLn_all h n s
    rw [rLn] at hx
    split at hx
    · rename_i xs bs e
      rw [e] at ih
      split at hx
      · rename_i y bs' e2
        rcases List.mem_append.1 hx with hx | hx
        · exact ih x hx
        · simp at hx; subst hx
          have := h (some bs); rw [e2] at this; exact this
      · simp at hx
    · simp at hx
theorem KR.at {E : TypeId} {k : Nat} {w w' : World} {B b : Nat} {v : Value} {l : List (List Value)} (h : KR E k w (b + 1) v l) (hg : w.grownBy w' (some b)) (hB : B ≤ b) : KR E k w' B v l := (h.keep fun g e => hg.block g (h.own e).2 (fun e2 => by cases e2; have := (h.own e).1; omega)).lower (by omega)
set_option maxHeartbeats 2000000 in
theorem sig_any (w : World) (R D : Nat) (s : Option (List Nat)) (h : Rst w R D s) : Calls Tryz.prog 41 #[.pointer (some ⟨R, 0, none⟩)] w (SgP w R D (rSg s).1 (rSg s).2) := by
  obtain ⟨W0, hW0⟩ : ∃ W0, W0 = w.alloc (.cells #[.string ⟨#[]⟩, .slice none 0 0, .int .i64 0, .int .i64 0] 49) := ⟨_, rfl⟩
  have b0 : Below w.heap.size w W0 := by rw [hW0]; exact (Below.refl _ _).alloc (Nat.le_refl _) _
  have m0 : W0.heap[w.heap.size]? = some (.cells #[.string ⟨#[]⟩, .slice none 0 0, .int .i64 0, .int .i64 0] 49 (0, 0)) := by rw [hW0]; exact heap_alloc_new w _
  have hz0 : w.heap.size + 1 ≤ W0.heap.size := by rw [hW0, World.size_alloc]; exact Nat.le_refl _
  have K1 := hid (text_rd W0 R D s (h.below b0))
  have hRD := h.hR
  have hDw := h.hD
  have FIN : Hid (∀ (V : World) (t : Option (List Nat)) (x0 x1 x2 x3 : Value), Rst V R D t → W0.grownBy V (some R) → (V.cell? ⟨w.heap.size, 0, none⟩ = some (.string ⟨#[]⟩) ∧ V.cell? ⟨w.heap.size, 1, none⟩ = some (.slice none 0 0) ∧ V.cell? ⟨w.heap.size, 2, none⟩ = some (.int .i64 0) ∧ V.cell? ⟨w.heap.size, 3, none⟩ = some (.int .i64 0)) ∧ (V.frozen? ⟨w.heap.size, 0, none⟩ = false ∧ V.frozen? ⟨w.heap.size, 1, none⟩ = false ∧ V.frozen? ⟨w.heap.size, 2, none⟩ = false ∧ V.frozen? ⟨w.heap.size, 3, none⟩ = false) ∧ ((((V.setCell ⟨w.heap.size, 0, none⟩ x0).setCell ⟨w.heap.size, 1, none⟩ x1).setCell ⟨w.heap.size, 2, none⟩ x2).setCell ⟨w.heap.size, 3, none⟩ x3).heap[w.heap.size]? = some (.cells #[x0, x1, x2, x3] 49 (0, 0)) ∧ Rst ((((V.setCell ⟨w.heap.size, 0, none⟩ x0).setCell ⟨w.heap.size, 1, none⟩ x1).setCell ⟨w.heap.size, 2, none⟩ x2).setCell ⟨w.heap.size, 3, none⟩ x3) R D t ∧ w.grownBy ((((V.setCell ⟨w.heap.size, 0, none⟩ x0).setCell ⟨w.heap.size, 1, none⟩ x1).setCell ⟨w.heap.size, 2, none⟩ x2).setCell ⟨w.heap.size, 3, none⟩ x3) (some R) ∧ V.grownBy ((((V.setCell ⟨w.heap.size, 0, none⟩ x0).setCell ⟨w.heap.size, 1, none⟩ x1).setCell ⟨w.heap.size, 2, none⟩ x2).setCell ⟨w.heap.size, 3, none⟩ x3) (some w.heap.size)) := hid (fun V t x0 x1 x2 x3 hs hg => by
    have k0 := (hg.block _ (lt_of_heap m0) (fun e => by cases e; omega)).trans m0
    obtain ⟨f1, g2⟩ := four_set k0 x0 x1 x2 x3
    exact ⟨⟨cellOf k0 0, cellOf k0 1, cellOf k0 2, cellOf k0 3⟩, ⟨freeOf k0 0, freeOf k0 1, freeOf k0 2, freeOf k0 3⟩, f1, hs.grown g2 (fun r e => by cases e; omega), grown_new (gtrans (bgrown b0 (some R)) hg) g2 (Nat.le_refl _), g2⟩)
  have hnm := rT_le s
  unfold rSg
  simp only
  generalize rT s = q at *
  obtain ⟨nm, s1⟩ := q
  simp only at *
  have K2 := hid (fun (V : World) (hV : Rst V R D s1) => (show Calls Tryz.prog 72 #[.pointer (some ⟨R, 0, none⟩), .int .u64 12, .func (.func 73) #[.pointer (some ⟨R, 0, none⟩)] #[]] V (LsP 46 2 V R D ((rL rTy 12 s1).1.map tyc) (rL rTy 12 s1).2) from rdTypes_any V R D s1 12 rTy hV (by omega) (fun X u hX => oneType_any X R D u hX)))
  generalize rL rTy 12 s1 = q2 at *
  obtain ⟨ps, s2⟩ := q2
  simp only at *
  have K3 := hid (fun (V : World) (hV : Rst V R D s2) => oneType_any V R D s2 hV)
  generalize rTy s2 = q3 at *
  obtain ⟨⟨v1, v2⟩, s3⟩ := q3
  simp only at *
  have HNM := hid hnm
  have HRD := hid hRD
  have HDW := hid hDw
  have HZ := hid hz0
  clear h b0 m0 hRD hDw hnm hz0
  go_enter Tryz.func41, Tryz.ntmps41
  go_upto_region 1 with fail
  rw [← hW0]
  clear hW0
  go_wp2_with (first
    | (go_at_call 45; (refine (Hid.out K1).mono ?_; rintro e w1 ⟨rfl, hs, hg⟩; have HG1 := hid hg; have K2a := hid (K2.out w1 hs); clear hs hg))
    | (go_at_call 72; (refine (Hid.out K2a).mono ?_; rintro e w2 ⟨v8, rfl, hk8, hs, hg⟩; obtain ⟨a8, c8, hv8, _, _, _, _⟩ := hk8.rd; obtain ⟨l8, hl8⟩ : ∃ l8, l8 = (ps.map tyc).length := ⟨_, rfl⟩; rw [← hl8] at hv8; subst hv8; clear hl8; have HK := hid (hk8.lower (Nat.le_trans HZ.out HG1.out.size)); have HG2 := hid (gtrans HG1.out hg); have K3a := hid (K3.out w2 hs); clear hs hg hk8))
    | (go_at_call 73; (refine (Hid.out K3a).mono ?_; rintro e w3 ⟨rfl, hs, hg⟩; obtain ⟨⟨c0, c1, c2, c3⟩, ⟨f0, f1, f2, f3⟩, d2, d3, d4, d5⟩ := FIN.out w3 s3 (.string nm) (.slice a8 l8 c8) (.int .i64 v1) (.int .i64 v2) hs (gtrans HG2.out hg); have D2 := hid d2; have D3 := hid d3; have D4 := hid d4; have D5 := hid ((HK.out.grownR hg (by have := HRD.out; have := HDW.out; omega)).at d5 (Nat.le_refl _)); clear hs hg d2 d3 d4 d5)))
  have q0 := cellOf D2.out 0
  have q1 := cellOf D2.out 1
  have q2 := cellOf D2.out 2
  have q3 := cellOf D2.out 3
  simp only [List.getElem?_toArray, List.getElem?_cons_zero, List.getElem?_cons_succ] at q0 q1 q2 q3
  refine bodyPost_ret (v := .agg #[.string nm, .slice a8 l8 c8, .int .i64 v1, .int .i64 v2]) (by simp [results, Tryz.results41, go_sem, q0, q1, q2, q3]) rfl ⟨⟨nm, a8, l8, c8, v1, v2⟩, rfl, ⟨rfl, by have := HNM.out; show nm.size ≤ 1000000; omega, D5.out, rfl⟩, D3.out, D4.out⟩
set_option maxHeartbeats 2000000 in
theorem record_any (w : World) (R D : Nat) (s : Option (List Nat)) (h : Rst w R D s) : Calls Tryz.prog 37 #[.pointer (some ⟨R, 0, none⟩)] w (RcP w R D (rRc s).1 (rRc s).2) := by
  obtain ⟨W0, hW0⟩ : ∃ W0, W0 = w.alloc (.cells #[.string ⟨#[]⟩, .slice none 0 0, .slice none 0 0] 63) := ⟨_, rfl⟩
  have b0 : Below w.heap.size w W0 := by rw [hW0]; exact (Below.refl _ _).alloc (Nat.le_refl _) _
  have m0 : W0.heap[w.heap.size]? = some (.cells #[.string ⟨#[]⟩, .slice none 0 0, .slice none 0 0] 63 (0, 0)) := by rw [hW0]; exact heap_alloc_new w _
  have hz0 : w.heap.size + 1 ≤ W0.heap.size := by rw [hW0, World.size_alloc]; exact Nat.le_refl _
  have K1 := hid (text_rd W0 R D s (h.below b0))
  have hRD := h.hR
  have hDw := h.hD
  have FIN : Hid (∀ (V : World) (t : Option (List Nat)) (x0 x1 x2 : Value), Rst V R D t → W0.grownBy V (some R) → (V.cell? ⟨w.heap.size, 0, none⟩ = some (.string ⟨#[]⟩) ∧ V.cell? ⟨w.heap.size, 1, none⟩ = some (.slice none 0 0) ∧ V.cell? ⟨w.heap.size, 2, none⟩ = some (.slice none 0 0)) ∧ (V.frozen? ⟨w.heap.size, 0, none⟩ = false ∧ V.frozen? ⟨w.heap.size, 1, none⟩ = false ∧ V.frozen? ⟨w.heap.size, 2, none⟩ = false) ∧ (((V.setCell ⟨w.heap.size, 0, none⟩ x0).setCell ⟨w.heap.size, 1, none⟩ x1).setCell ⟨w.heap.size, 2, none⟩ x2).heap[w.heap.size]? = some (.cells #[x0, x1, x2] 63 (0, 0)) ∧ Rst (((V.setCell ⟨w.heap.size, 0, none⟩ x0).setCell ⟨w.heap.size, 1, none⟩ x1).setCell ⟨w.heap.size, 2, none⟩ x2) R D t ∧ w.grownBy (((V.setCell ⟨w.heap.size, 0, none⟩ x0).setCell ⟨w.heap.size, 1, none⟩ x1).setCell ⟨w.heap.size, 2, none⟩ x2) (some R) ∧ V.grownBy (((V.setCell ⟨w.heap.size, 0, none⟩ x0).setCell ⟨w.heap.size, 1, none⟩ x1).setCell ⟨w.heap.size, 2, none⟩ x2) (some w.heap.size)) := hid (fun V t x0 x1 x2 hs hg => by
    have k0 := (hg.block _ (lt_of_heap m0) (fun e => by cases e; omega)).trans m0
    obtain ⟨f1, g2⟩ := three_set k0 x0 x1 x2
    exact ⟨⟨cellOf k0 0, cellOf k0 1, cellOf k0 2⟩, ⟨freeOf k0 0, freeOf k0 1, freeOf k0 2⟩, f1, hs.grown g2 (fun r e => by cases e; omega), grown_new (gtrans (bgrown b0 (some R)) hg) g2 (Nat.le_refl _), g2⟩)
  have hnm := rT_le s
  unfold rRc
  simp only
  generalize rT s = q at *
  obtain ⟨nm, s1⟩ := q
  simp only at *
  have K2 := hid (fun (V : World) (hV : Rst V R D s1) => (show Calls Tryz.prog 44 #[.pointer (some ⟨R, 0, none⟩), .int .u64 12, .func (.func 45) #[.pointer (some ⟨R, 0, none⟩)] #[]] V (LsP 9 1 V R D ((rL rT 12 s1).1.map stc) (rL rT 12 s1).2) from rdTexts_any V R D s1 12 rT hV (by omega) (fun X u hX => text_rd X R D u hX)))
  have HL1 := hid (rL_len rT 12 s1)
  have HA1 := hid (rLn_all (P := fun x => x.size ≤ 64) (one := rT) rT_le (rC 12 s1).1 (rC 12 s1).2)
  have HA1 : Hid (∀ x ∈ (rL rT 12 s1).1, x.size ≤ 64) := HA1
  generalize rL rT 12 s1 = q2 at *
  obtain ⟨fs, s2⟩ := q2
  simp only at *
  have K3 := hid (fun (V : World) (hV : Rst V R D s2) => (show Calls Tryz.prog 72 #[.pointer (some ⟨R, 0, none⟩), .int .u64 12, .func (.func 73) #[.pointer (some ⟨R, 0, none⟩)] #[]] V (LsP 46 2 V R D ((rL rTy 12 s2).1.map tyc) (rL rTy 12 s2).2) from rdTypes_any V R D s2 12 rTy hV (by omega) (fun X u hX => oneType_any X R D u hX)))
  have HL2 := hid (rL_len rTy 12 s2)
  generalize rL rTy 12 s2 = q3 at *
  obtain ⟨ts, s3⟩ := q3
  simp only at *
  have HNM := hid hnm
  have HRD := hid hRD
  have HDW := hid hDw
  have HZ := hid hz0
  clear h b0 m0 hRD hDw hnm hz0
  go_enter Tryz.func37, Tryz.ntmps37
  go_upto_region 1 with fail
  rw [← hW0]
  clear hW0
  go_wp2_with (first
    | (go_at_call 45; (refine (Hid.out K1).mono ?_; rintro e w1 ⟨rfl, hs, hg⟩; have HG1 := hid hg; have K2a := hid (K2.out w1 hs); clear hs hg))
    | (go_at_call 44; (refine (Hid.out K2a).mono ?_; rintro e w2 ⟨v8, rfl, hk8, hs, hg⟩; obtain ⟨a8, c8, hv8, _, _, _, _⟩ := hk8.rd; obtain ⟨l8, hl8⟩ : ∃ l8, l8 = (fs.map stc).length := ⟨_, rfl⟩; rw [← hl8] at hv8; subst hv8; clear hl8; have HK := hid (hk8.lower (Nat.le_trans HZ.out HG1.out.size)); have HG2 := hid (gtrans HG1.out hg); have K3a := hid (K3.out w2 hs); clear hs hg hk8))
    | (go_at_call 72; (refine (Hid.out K3a).mono ?_; rintro e w3 ⟨v9, rfl, hk9, hs, hg⟩; obtain ⟨a9, c9, hv9, _, _, _, _⟩ := hk9.rd; obtain ⟨l9, hl9⟩ : ∃ l9, l9 = (ts.map tyc).length := ⟨_, rfl⟩; rw [← hl9] at hv9; subst hv9; clear hl9; obtain ⟨⟨c0, c1, c2⟩, ⟨f0, f1, f2⟩, d2, d3, d4, d5⟩ := FIN.out w3 s3 (.string nm) (.slice a8 l8 c8) (.slice a9 l9 c9) hs (gtrans HG2.out hg); have D2 := hid d2; have D3 := hid d3; have D4 := hid d4; have D5 := hid ((HK.out.grownR hg (by have := HRD.out; have := HDW.out; omega)).at d5 (Nat.le_refl _)); have D6 := hid ((hk9.lower (Nat.le_trans HZ.out HG2.out.size)).at d5 (Nat.le_refl _)); clear hs hg hk9 d2 d3 d4 d5)))
  have q0 := cellOf D2.out 0
  have q1 := cellOf D2.out 1
  have q2 := cellOf D2.out 2
  simp only [List.getElem?_toArray, List.getElem?_cons_zero, List.getElem?_cons_succ] at q0 q1 q2
  refine bodyPost_ret (v := .agg #[.string nm, .slice a8 l8 c8, .slice a9 l9 c9]) (by simp [results, Tryz.results37, go_sem, q0, q1, q2]) rfl ⟨⟨nm, a8, l8, c8, a9, l9, c9⟩, rfl, ⟨rfl, HNM.out, HL1.out, HL2.out, HA1.out, D5.out, D6.out⟩, D3.out, D4.out⟩
end Go.Proofs.YthnolocldeokeaaGreat

namespace Go.Proofs.YthnolocldeokeaaGreat
open Go.RowKit Go.Deep Go.Shelf
set_option linter.unusedVariables false
set_option linter.unusedSimpArgs false
set_option maxRecDepth 100000
theorem GNew.grownR {w w' : World} {B R : Nat} {p : GH × Sg} (h : GNew w B p) (hg : w.grownBy w' (some R)) (hR : R < B) : GNew w' B p := ⟨h.nm, h.ns, h.pr.grownR hg hR, h.rs⟩
theorem GNew.lower {w : World} {B C : Nat} {p : GH × Sg} (h : GNew w B p) (hC : C ≤ B) : GNew w C p := ⟨h.nm, h.ns, h.pr.lower hC, h.rs⟩
theorem RNw.grownR {w w' : World} {B R : Nat} {p : RH × Rc} (h : RNw w B p) (hg : w.grownBy w' (some R)) (hR : R < B) : RNw w' B p := ⟨h.nm, h.ns, h.fl, h.tl, h.fs, h.fr.grownR hg hR, h.tr.grownR hg hR⟩
theorem RNw.lower {w : World} {B C : Nat} {p : RH × Rc} (h : RNw w B p) (hC : C ≤ B) : RNw w C p := ⟨h.nm, h.ns, h.fl, h.tl, h.fs, h.fr.lower hC, h.tr.lower hC⟩
theorem RNw.below {w w' : World} {B C : Nat} {p : RH × Rc} (h : RNw w B p) (hC : w.heap.size ≤ C) (q : Below C w w') : RNw w' B p := ⟨h.nm, h.ns, h.fl, h.tl, h.fs, h.fr.below hC q, h.tr.below hC q⟩
theorem RNw.above {w w' : World} {B : Nat} {p : RH × Rc} (h : RNw w B p) (e : ∀ g, B ≤ g → g < w.heap.size → w'.heap[g]? = w.heap[g]?) : RNw w' B p := ⟨h.nm, h.ns, h.fl, h.tl, h.fs, h.fr.above e, h.tr.above e⟩
theorem RNw.other {F : TypeId} (h1 : 9 ≠ F) (h2 : 46 ≠ F) {q : Nat} {w w' : World} {B C : Nat} {r : Value} {m : List (List Value)} {p : RH × Rc} (h : RNw w B p) (g : KR F q w C r m) (hg : w.grownBy w' r.ownBlock) : RNw w' B p := ⟨h.nm, h.ns, h.fl, h.tl, h.fs, h.fr.other h1 g hg, h.tr.other h2 g hg⟩
theorem RNw.rd {w : World} {B : Nat} {p : RH × Rc} (h : RNw w B p) : RcRd w p.1 p.2 := by
  obtain ⟨⟨nm, fa, fn, fc, ta, tn, tc⟩, s⟩ := p
  obtain ⟨a1, cap1, e1, hc1, hr1, _, _⟩ := h.fr.rd
  obtain ⟨a2, cap2, e2, hc2, hr2, _, _⟩ := h.tr.rd
  injection e1 with e1a e1b e1c
  injection e2 with e2a e2b e2c
  simp only at *
  have hns := h.ns
  have hfl := h.fl
  have htl := h.tl
  simp only at hns hfl htl
  have l1 : fn = s.fields.length := by rw [e1b, List.length_map]
  have l2 : tn = s.types.length := by rw [e2b, List.length_map]
  exact ⟨h.nm, by show nm.size ≤ _; omega, l1, by rw [List.length_map] at hc1; show fn ≤ fc; omega, by show fn ≤ _; omega, h.fr.srd (fun x hx => by have := h.fs x hx; omega), l2, by show tn ≤ _; omega, by show TRd w ta s.types; rw [e2a]; exact CRd.trd hr2⟩
def RcsD (w : World) (B : Nat) (v : Value) (rs : List Rc) : Prop := ∃ l : List (RH × Rc), l.map (·.2) = rs ∧ KR 63 3 w B v (l.map fun p => p.1.cs) ∧ ∀ p ∈ l, RNw w B p
theorem RcsD.above {w w' : World} {B : Nat} {v : Value} {rs : List Rc} (h : RcsD w B v rs) (e : ∀ g, B ≤ g → g < w.heap.size → w'.heap[g]? = w.heap[g]?) : RcsD w' B v rs := by
  obtain ⟨l, h1, h2, h3⟩ := h
  exact ⟨l, h1, h2.above e, fun p hp => (h3 p hp).above e⟩
theorem RcsD.lower {w : World} {B C : Nat} {v : Value} {rs : List Rc} (h : RcsD w B v rs) (hC : C ≤ B) : RcsD w C v rs := by
  obtain ⟨l, h1, h2, h3⟩ := h
  exact ⟨l, h1, h2.lower hC, fun p hp => (h3 p hp).lower hC⟩
/- What a reader of such a list answers. -/
def LgP (w : World) (R D : Nat) (ss : List Sg) (s : Option (List Nat)) (e : Ending) (w' : World) : Prop := ∃ v, e = .returned v ∧ SgsN w' w.heap.size v ss ∧ Rst w' R D s ∧ w.grownBy w' (some R)
def LrP (w : World) (R D : Nat) (ss : List Rc) (s : Option (List Nat)) (e : Ending) (w' : World) : Prop := ∃ v, e = .returned v ∧ RcsD w' w.heap.size v ss ∧ Rst w' R D s ∧ w.grownBy w' (some R)
set_option maxHeartbeats 4000000 in
theorem rdSigs_any (w : World) (R D : Nat) (s : Option (List Nat)) (most : Nat) (h : Rst w R D s) (hm : most ≤ 100000) :
    Calls Tryz.prog 40 #[.pointer (some ⟨R, 0, none⟩), .int .u64 (most : Int), .func (.func 41) #[.pointer (some ⟨R, 0, none⟩)] #[]] w (LgP w R D (rL rSg most s).1 (rL rSg most s).2) := by
  have K0 := count_any w R D s most h
  have hle := rC_le most s
  have hso := rC_some most s
  obtain ⟨n, s1, hq⟩ : ∃ n s1, rC most s = (n, s1) := ⟨_, _, rfl⟩
  simp only [rL, hq] at K0 hle hso ⊢
  have K0 := hid K0
  have HSO := hid hso
  have ONE := hid (fun (V : World) (t : Option (List Nat)) (hV : Rst V R D t) => sig_any V R D t hV)
  have hRD : R < D := h.hR
  have hDw : D ≤ w.heap.size := h.hD
  have nI : (n : Int) ≤ 100000 := by omega
  have FL : Hid (∀ (V : World) (t : Option (List Nat)), Rst V R D t → V.cell? ⟨R, 1, none⟩ = some (.bool t.isNone)) := hid (fun V t hV => by
    obtain ⟨⟨a, n, c, h1, _⟩, _⟩ := hV
    exact cellOf h1 1)
  clear h hq hso
  go_enter Tryz.func40, Tryz.ntmps40
  go_wp2_with (go_at_call 71; (refine (Hid.out K0).mono ?_; rintro e w0 ⟨rfl, hs, hg⟩; have HS0 := hid hs; have HG0 := hid hg; clear hs hg))
  clear K0
  go_loopg [7, 12] n (fun g v x wr => ∃ j : Nat, j + g = n ∧ x = .int .u64 (j : Int) ∧ SgsN wr w.heap.size v (rLn rSg j s1).1 ∧ Rst wr R D (rLn rSg j s1).2 ∧ ((rLn rSg j s1).2 ≠ none ∨ n = 0) ∧ w.grownBy wr (some R))
  case atStart => exact ⟨0, by omega, rfl, ⟨[], rfl, KR.nil _ _ _ _, fun p hp => by simp at hp⟩, HS0.out, (Nat.eq_zero_or_pos n).elim .inr (fun h => .inl (HSO.out h)), HG0.out⟩
  case round =>
    obtain ⟨j, hj, rfl, hk, hs, hn, hg⟩ := hrel
    obtain ⟨v, hv⟩ : ∃ v, v = u7 := ⟨_, rfl⟩
    subst hv
    cases gk with
    | zero =>
      have hjn : j = n := by omega
      subst hjn
      have HK := hid hk
      have HS := hid hs
      have HG := hid hg
      clear hk hs hg hn
      go_wp2
      go_ret
      exact ⟨_, rfl, HK.out, HS.out, HG.out⟩
    | succ g =>
      have hnn : (rLn rSg j s1).2 ≠ none := hn.resolve_right (by omega)
      obtain ⟨xs, st, hx⟩ : ∃ xs st, rLn rSg j s1 = (xs, st) := ⟨_, _, rfl⟩
      have hlx := rLn_len (one := rSg) j s1
      rw [hx] at hk hnn hlx hs
      simp only at hk hnn hlx hs
      obtain ⟨bs, rfl⟩ : ∃ bs, st = some bs := Option.ne_none_iff_exists'.1 hnn
      have K1 := ONE.out wr (some bs) hs
      obtain ⟨xx, s2, hy⟩ : ∃ xx s2, rSg (some bs) = (xx, s2) := ⟨_, _, rfl⟩
      have hjI : (j : Int) < (n : Int) := by omega
      have hj0 : (0 : Int) ≤ (j : Int) := by omega
      obtain ⟨gs', hg1, hg2, hg3⟩ := hk
      have hlm : (gs'.map fun p => p.1.cs).length ≤ 1000000 := by
        have := congrArg List.length hg1
        rw [List.length_map] at this ⊢
        omega
      have HG := hid hg
      have HK := hid hg2
      have HE := hid hg3
      have HL := hid hg1
      rw [hy] at K1
      simp only at K1
      have K1 := hid K1
      have HX := hid hx
      have HY := hid hy
      have HJ := hid hj
      have hwr := hg.size
      clear hg1 hg2 hg3 hs hn hg hnn hlx hx hy
      go_upto_region 5 with (go_at_call 41; (refine (Hid.out K1).mono ?_; rintro e w1 ⟨⟨nm, pa, pn, pc, kd, rr⟩, rfl, hn1, hs1, hg1⟩; have HN1 := hid hn1; have HS1 := hid hs1; have HG1 := hid hg1; clear hn1 hs1 hg1))
      obtain ⟨A, hA⟩ : ∃ A, A = w1.alloc (.cells #[.string nm, .slice pa pn pc, .int .i64 kd, .int .i64 rr] 49) := ⟨_, rfl⟩
      obtain ⟨Y, hY⟩ : ∃ Y, Y = w1.heap.size := ⟨_, rfl⟩
      have bA : Below w1.heap.size w1 A := by rw [hA]; exact (Below.refl _ _).alloc (Nat.le_refl _) _
      have mY : A.heap[Y]? = some (.cells #[.string nm, .slice pa pn pc, .int .i64 kd, .int .i64 rr] 49 (0, 0)) := by rw [hA, hY]; exact heap_alloc_new w1 _
      rw [← hA, ← hY]
      clear hA hY
      have y0 := cellOf mY 0
      have y1 := cellOf mY 1
      have y2 := cellOf mY 2
      have y3 := cellOf mY 3
      simp only [List.getElem?_toArray, List.getElem?_cons_zero, List.getElem?_cons_succ] at y0 y1 y2 y3
      clear mY
      have SA := hid (HS1.out.below bA)
      have GA := hid (gbelow (gtrans HG.out HG1.out) bA)
      have KA := hid ((HK.out.grownR HG1.out (by omega)).below (Nat.le_refl _) bA)
      have EA : Hid (∀ p ∈ gs' ++ [((⟨nm, pa, pn, pc, kd, rr⟩ : GH), xx)], GNew A w.heap.size p) := hid (fun p hp => by
        rcases List.mem_append.1 hp with hp | hp
        · exact ((HE.out p hp).grownR HG1.out (by omega)).below (Nat.le_refl _) bA
        · simp at hp
          subst hp
          exact (HN1.out.lower hwr).below (Nat.le_refl _) bA)
      have c1 := FL.out A _ SA.out
      clear bA
      cases s2 with
      | none =>
        simp only [Option.isNone_none] at c1
        go_wp2
        go_ret
        have e1 : rLn rSg n s1 = ([], none) := by
          have := rLn_stop (rLn_fail HX.out HY.out) g
          rw [show j + 1 + g = n from by have := HJ.out; omega] at this; exact this
        rw [e1]
        exact ⟨_, rfl, ⟨[], rfl, KR.nil _ _ _ _, fun p hp => by simp at hp⟩, SA.out, GA.out⟩
      | some bs2 =>
        simp only [Option.isNone_some] at c1
        have BA : Hid (Below A.heap.size A (A.alloc (.cells #[.string nm, .slice pa pn pc, .int .i64 kd, .int .i64 rr] 49))) := hid ((Below.refl _ A).alloc (Nat.le_refl _) _)
        have hwA : w.heap.size ≤ (A.alloc (.cells #[.string nm, .slice pa pn pc, .int .i64 kd, .int .i64 rr] 49)).heap.size := by rw [World.size_alloc]; have := GA.out.size; omega
        go_wp2_with (at_builtin; refine wpList_appK Tryz.underlying24 infoG rfl (by decide) (by decide) (A.alloc (.cells #[.string nm, .slice pa pn pc, .int .i64 kd, .int .i64 rr] 49)) rfl _ _ rfl _ (.slice (some ⟨A.heap.size, 0, none⟩) 1 1) (by rfl) (by rfl) w.heap.size (gs'.map fun p => p.1.cs) (KA.out.below (Nat.le_refl _) BA.out) (some ⟨A.heap.size, 0, none⟩) 1 1 rfl [(⟨nm, pa, pn, pc, kd, rr⟩ : GH).cs] rfl (crd_one 49 A ((⟨nm, pa, pn, pc, kd, rr⟩ : GH).cs) 4 rfl) (rk_gh _) (fun e => by cases e) hlm (by omega) hwA ?_; intro v2 w2 h1 h2 h3; have H1 := hid h1; have H2 := hid h2; clear h1 h2 h3)
        go_roundg g
        case measure => omega
        have hA2 := gbelow GA.out BA.out
        have kr2 := KA.out.below (Nat.le_refl _) BA.out
        exact ⟨j + 1, by omega, by go_num, by rw [rLn_step HX.out HY.out]; exact ⟨gs' ++ [((⟨nm, pa, pn, pc, kd, rr⟩ : GH), xx)], by rw [List.map_append, HL.out]; rfl, by rw [List.map_append]; exact H1.out, fun p hp => ((EA.out p hp).below (Nat.le_refl _) BA.out).other (by decide) kr2 H2.out⟩, by rw [rLn_step HX.out HY.out]; exact (SA.out.below BA.out).grown H2.out (fun r e => by have := (kr2.own e).1; omega), by rw [rLn_step HX.out HY.out]; exact .inl (by simp), grown_own hA2 kr2 H2.out⟩
set_option maxHeartbeats 4000000 in
theorem rdRecords_any (w : World) (R D : Nat) (s : Option (List Nat)) (most : Nat) (h : Rst w R D s) (hm : most ≤ 100000) :
    Calls Tryz.prog 36 #[.pointer (some ⟨R, 0, none⟩), .int .u64 (most : Int), .func (.func 37) #[.pointer (some ⟨R, 0, none⟩)] #[]] w (LrP w R D (rL rRc most s).1 (rL rRc most s).2) := by
  have K0 := count_any w R D s most h
  have hle := rC_le most s
  have hso := rC_some most s
  obtain ⟨n, s1, hq⟩ : ∃ n s1, rC most s = (n, s1) := ⟨_, _, rfl⟩
  simp only [rL, hq] at K0 hle hso ⊢
  have K0 := hid K0
  have HSO := hid hso
  have ONE := hid (fun (V : World) (t : Option (List Nat)) (hV : Rst V R D t) => record_any V R D t hV)
  have hRD : R < D := h.hR
  have hDw : D ≤ w.heap.size := h.hD
  have nI : (n : Int) ≤ 100000 := by omega
  have FL : Hid (∀ (V : World) (t : Option (List Nat)), Rst V R D t → V.cell? ⟨R, 1, none⟩ = some (.bool t.isNone)) := hid (fun V t hV => by
    obtain ⟨⟨a, n, c, h1, _⟩, _⟩ := hV
    exact cellOf h1 1)
  clear h hq hso
  go_enter Tryz.func36, Tryz.ntmps36
  go_wp2_with (go_at_call 71; (refine (Hid.out K0).mono ?_; rintro e w0 ⟨rfl, hs, hg⟩; have HS0 := hid hs; have HG0 := hid hg; clear hs hg))
  clear K0
  go_loopg [7, 12] n (fun g v x wr => ∃ j : Nat, j + g = n ∧ x = .int .u64 (j : Int) ∧ RcsD wr w.heap.size v (rLn rRc j s1).1 ∧ Rst wr R D (rLn rRc j s1).2 ∧ ((rLn rRc j s1).2 ≠ none ∨ n = 0) ∧ w.grownBy wr (some R))
  case atStart => exact ⟨0, by omega, rfl, ⟨[], rfl, KR.nil _ _ _ _, fun p hp => by simp at hp⟩, HS0.out, (Nat.eq_zero_or_pos n).elim .inr (fun h => .inl (HSO.out h)), HG0.out⟩
  case round =>
    obtain ⟨j, hj, rfl, hk, hs, hn, hg⟩ := hrel
    obtain ⟨v, hv⟩ : ∃ v, v = u7 := ⟨_, rfl⟩
    subst hv
    cases gk with
    | zero =>
      have hjn : j = n := by omega
      subst hjn
      have HK := hid hk
      have HS := hid hs
      have HG := hid hg
      clear hk hs hg hn
      go_wp2
      go_ret
      exact ⟨_, rfl, HK.out, HS.out, HG.out⟩
    | succ g =>
      have hnn : (rLn rRc j s1).2 ≠ none := hn.resolve_right (by omega)
      obtain ⟨xs, st, hx⟩ : ∃ xs st, rLn rRc j s1 = (xs, st) := ⟨_, _, rfl⟩
      have hlx := rLn_len (one := rRc) j s1
      rw [hx] at hk hnn hlx hs
      simp only at hk hnn hlx hs
      obtain ⟨bs, rfl⟩ : ∃ bs, st = some bs := Option.ne_none_iff_exists'.1 hnn
      have K1 := ONE.out wr (some bs) hs
      obtain ⟨xx, s2, hy⟩ : ∃ xx s2, rRc (some bs) = (xx, s2) := ⟨_, _, rfl⟩
      have hjI : (j : Int) < (n : Int) := by omega
      have hj0 : (0 : Int) ≤ (j : Int) := by omega
      obtain ⟨gs', hg1, hg2, hg3⟩ := hk
      have hlm : (gs'.map fun p => p.1.cs).length ≤ 1000000 := by
        have := congrArg List.length hg1
        rw [List.length_map] at this ⊢
        omega
      have HG := hid hg
      have HK := hid hg2
      have HE := hid hg3
      have HL := hid hg1
      rw [hy] at K1
      simp only at K1
      have K1 := hid K1
      have HX := hid hx
      have HY := hid hy
      have HJ := hid hj
      have hwr := hg.size
      clear hg1 hg2 hg3 hs hn hg hnn hlx hx hy
      go_upto_region 5 with (go_at_call 37; (refine (Hid.out K1).mono ?_; rintro e w1 ⟨⟨nm, fa, fn, fc, ta, tn, tc⟩, rfl, hn1, hs1, hg1⟩; have HN1 := hid hn1; have HS1 := hid hs1; have HG1 := hid hg1; clear hn1 hs1 hg1))
      obtain ⟨A, hA⟩ : ∃ A, A = w1.alloc (.cells #[.string nm, .slice fa fn fc, .slice ta tn tc] 63) := ⟨_, rfl⟩
      obtain ⟨Y, hY⟩ : ∃ Y, Y = w1.heap.size := ⟨_, rfl⟩
      have bA : Below w1.heap.size w1 A := by rw [hA]; exact (Below.refl _ _).alloc (Nat.le_refl _) _
      have mY : A.heap[Y]? = some (.cells #[.string nm, .slice fa fn fc, .slice ta tn tc] 63 (0, 0)) := by rw [hA, hY]; exact heap_alloc_new w1 _
      rw [← hA, ← hY]
      clear hA hY
      have y0 := cellOf mY 0
      have y1 := cellOf mY 1
      have y2 := cellOf mY 2
      simp only [List.getElem?_toArray, List.getElem?_cons_zero, List.getElem?_cons_succ] at y0 y1 y2
      clear mY
      have SA := hid (HS1.out.below bA)
      have GA := hid (gbelow (gtrans HG.out HG1.out) bA)
      have KA := hid ((HK.out.grownR HG1.out (by omega)).below (Nat.le_refl _) bA)
      have EA : Hid (∀ p ∈ gs' ++ [((⟨nm, fa, fn, fc, ta, tn, tc⟩ : RH), xx)], RNw A w.heap.size p) := hid (fun p hp => by
        rcases List.mem_append.1 hp with hp | hp
        · exact ((HE.out p hp).grownR HG1.out (by omega)).below (Nat.le_refl _) bA
        · simp at hp
          subst hp
          exact (HN1.out.lower hwr).below (Nat.le_refl _) bA)
      have c1 := FL.out A _ SA.out
      clear bA
      cases s2 with
      | none =>
        simp only [Option.isNone_none] at c1
        go_wp2
        go_ret
        have e1 : rLn rRc n s1 = ([], none) := by
          have := rLn_stop (rLn_fail HX.out HY.out) g
          rw [show j + 1 + g = n from by have := HJ.out; omega] at this; exact this
        rw [e1]
        exact ⟨_, rfl, ⟨[], rfl, KR.nil _ _ _ _, fun p hp => by simp at hp⟩, SA.out, GA.out⟩
      | some bs2 =>
        simp only [Option.isNone_some] at c1
        have BA : Hid (Below A.heap.size A (A.alloc (.cells #[.string nm, .slice fa fn fc, .slice ta tn tc] 63))) := hid ((Below.refl _ A).alloc (Nat.le_refl _) _)
        have hwA : w.heap.size ≤ (A.alloc (.cells #[.string nm, .slice fa fn fc, .slice ta tn tc] 63)).heap.size := by rw [World.size_alloc]; have := GA.out.size; omega
        go_wp2_with (at_builtin; refine wpList_appK Tryz.underlying22 infoR rfl (by decide) (by decide) (A.alloc (.cells #[.string nm, .slice fa fn fc, .slice ta tn tc] 63)) rfl _ _ rfl _ (.slice (some ⟨A.heap.size, 0, none⟩) 1 1) (by rfl) (by rfl) w.heap.size (gs'.map fun p => p.1.cs) (KA.out.below (Nat.le_refl _) BA.out) (some ⟨A.heap.size, 0, none⟩) 1 1 rfl [(⟨nm, fa, fn, fc, ta, tn, tc⟩ : RH).cs] rfl (crd_one 63 A ((⟨nm, fa, fn, fc, ta, tn, tc⟩ : RH).cs) 3 rfl) (rk_rh _) (fun e => by cases e) hlm (by omega) hwA ?_; intro v2 w2 h1 h2 h3; have H1 := hid h1; have H2 := hid h2; clear h1 h2 h3)
        go_roundg g
        case measure => omega
        have hA2 := gbelow GA.out BA.out
        have kr2 := KA.out.below (Nat.le_refl _) BA.out
        exact ⟨j + 1, by omega, by go_num, by rw [rLn_step HX.out HY.out]; exact ⟨gs' ++ [((⟨nm, fa, fn, fc, ta, tn, tc⟩ : RH), xx)], by rw [List.map_append, HL.out]; rfl, by rw [List.map_append]; exact H1.out, fun p hp => ((EA.out p hp).below (Nat.le_refl _) BA.out).other (by decide) (by decide) kr2 H2.out⟩, by rw [rLn_step HX.out HY.out]; exact (SA.out.below BA.out).grown H2.out (fun r e => by have := (kr2.own e).1; omega), by rw [rLn_step HX.out HY.out]; exact .inl (by simp), grown_own hA2 kr2 H2.out⟩
end Go.Proofs.YthnolocldeokeaaGreat

