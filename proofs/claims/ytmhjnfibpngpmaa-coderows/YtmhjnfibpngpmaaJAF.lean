/- appendMap, appendSig, appendRecord. -/
import Derived.Test.YtmhjnfibpngpmaaJAE
namespace Go.Proofs.Ytmhjnfibpngpmaa
open Go.RowKit Go.Deep Go.Shelf
set_option linter.unusedVariables false
set_option linter.unusedSimpArgs false
set_option maxRecDepth 100000
def encTys (ts : List TyP) : List Nat := enc ts.length ++ (ts.map encTy).flatten
def encSs (ss : List ByteArray) : List Nat := enc ss.length ++ (ss.map encX).flatten
def encMp (m : Mp) : List Nat := encX m.name ++ encTy m.key ++ encTy m.val
def encSg (s : Sg) : List Nat := encX s.name ++ encTys s.params ++ encTy s.res
def encRc (r : Rc) : List Nat := encX r.name ++ encSs r.fields ++ encTys r.types
def inT (t : TyP) : Prop := inR t.1 ∧ inR t.2
theorem appTys_any (w0 w : World) (v : Value) (xs : List Nat) (a : Option Addr) (n cap : Nat) (ts : List TyP) (hw : Below w0.heap.size w0 w) (h : Row w w0.heap.size v xs) (hn : n = ts.length) (hnb : n ≤ 1000000) (hr : TRd w0 a ts) (hl : (xs ++ encTys ts).length ≤ 100000000) (hi : ∀ t ∈ ts, inT t) :
    Calls Try.prog 95 #[v, .slice a n cap, .func (.func 96) #[] #[]] w (ApP w w0.heap.size v (xs ++ encTys ts)) := by
  have := appTypes_any w0 w v xs a n cap ts encTy hw h hn hnb hr.crd (by rw [hn, List.append_assoc]; exact hl) (fun V u ys x hx hV hu hy => appType_any V w0.heap.size u ys x hu hV.size (by rw [List.length_append] at hy; omega) (hi x hx))
  rw [hn, List.append_assoc] at this
  rw [hn]; exact this
theorem appSs_any (w0 w : World) (v : Value) (xs : List Nat) (a : Option Addr) (n cap : Nat) (ss : List ByteArray) (hw : Below w0.heap.size w0 w) (h : Row w w0.heap.size v xs) (hn : n = ss.length) (hnb : n ≤ 1000000) (hr : SRd w0 a ss) (hl : (xs ++ encSs ss).length ≤ 100000000) (hi : ∀ s ∈ ss, s.size ≤ 1000000) :
    Calls Try.prog 52 #[v, .slice a n cap, .func (.func 53) #[] #[]] w (ApP w w0.heap.size v (xs ++ encSs ss)) := by
  have := appTexts_any w0 w v xs a n cap ss encX hw h hn hnb hr.crd (by rw [hn, List.append_assoc]; exact hl) (fun V u ys x hx hV hu hy => appText_any V w0.heap.size u ys x hu hV.size (by rw [List.length_append] at hy; omega) (hi x hx))
  rw [hn, List.append_assoc] at this
  rw [hn]; exact this
set_option maxHeartbeats 2000000 in
theorem appMap_x (w0 w : World) (v : Value) (xs : List Nat) (nm : ByteArray) (k1 k2 v1 v2 : Int) (hw : Below w0.heap.size w0 w) (h : Row w w0.heap.size v xs) (hl : (xs ++ (encX nm ++ encTy (k1, k2) ++ encTy (v1, v2))).length ≤ 100000000) (hnm : nm.size ≤ 1000000) (hk : inT (k1, k2)) (hv : inT (v1, v2)) :
    Calls Try.prog 47 #[v, .agg #[.string nm, .int .i64 k1, .int .i64 k2, .int .i64 v1, .int .i64 v2]] w (ApP w w0.heap.size v (xs ++ (encX nm ++ encTy (k1, k2) ++ encTy (v1, v2)))) := by
  obtain ⟨W0, hW0⟩ : ∃ W0, W0 = w.alloc (.cells #[.string nm, .int .i64 k1, .int .i64 k2, .int .i64 v1, .int .i64 v2] 120) := ⟨_, rfl⟩
  obtain ⟨X, hX⟩ : ∃ X, X = w.heap.size := ⟨_, rfl⟩
  have mX : W0.heap[X]? = some (.cells #[.string nm, .int .i64 k1, .int .i64 k2, .int .i64 v1, .int .i64 v2] 120 (0, 0)) := by rw [hW0, hX]; exact heap_alloc_new w _
  have r0 : Row W0 w0.heap.size v xs := by rw [hW0]; exact h.alloc _
  have bW : Below w0.heap.size w0 W0 := by rw [hW0]; exact hw.alloc hw.size _
  have hB0 : w0.heap.size ≤ W0.heap.size := bW.size
  have own : some X ≠ v.ownBlock := fun e => by have := (h.own X e.symm).2; omega
  have K1 := hid (fun (V : World) (u : Value) (hb : Below w0.heap.size w0 V) (hr : Row V w0.heap.size u (xs)) => (appText_any V w0.heap.size u (xs) nm hr hb.size (by simp only [List.length_append] at hl ⊢; omega) hnm : Calls Try.prog 53 #[u, .string nm] V (ApP V w0.heap.size u (xs ++ encX nm))))
  have K2 := hid (fun (V : World) (u : Value) (hb : Below w0.heap.size w0 V) (hr : Row V w0.heap.size u (xs ++ encX nm)) => (appType_any V w0.heap.size u (xs ++ encX nm) (k1, k2) hr hb.size (by simp only [List.length_append] at hl ⊢; omega) hk : Calls Try.prog 96 #[u, .agg #[.int .i64 k1, .int .i64 k2]] V (ApP V w0.heap.size u (xs ++ encX nm ++ encTy (k1, k2)))))
  have K3 := hid (fun (V : World) (u : Value) (hb : Below w0.heap.size w0 V) (hr : Row V w0.heap.size u (xs ++ encX nm ++ encTy (k1, k2))) => (appType_any V w0.heap.size u (xs ++ encX nm ++ encTy (k1, k2)) (v1, v2) hr hb.size (by simp only [List.length_append] at hl ⊢; omega) hv : Calls Try.prog 96 #[u, .agg #[.int .i64 v1, .int .i64 v2]] V (ApP V w0.heap.size u (xs ++ encX nm ++ encTy (k1, k2) ++ encTy (v1, v2)))))
  have ST : Hid (∀ (V : World) (u : Value), Grw W0 v V u → (V.cell? ⟨X, 0, none⟩ = some (.string nm) ∧ V.cell? ⟨X, 1, none⟩ = some (.int .i64 k1) ∧ V.cell? ⟨X, 2, none⟩ = some (.int .i64 k2) ∧ V.cell? ⟨X, 3, none⟩ = some (.int .i64 v1) ∧ V.cell? ⟨X, 4, none⟩ = some (.int .i64 v2)) ∧ Below w0.heap.size w0 V) := hid (fun V u hg => by
    have h2 := (hg.1.block X (lt_of_heap mX) own).trans mX
    exact ⟨⟨cellOf h2 0, cellOf h2 1, cellOf h2 2, cellOf h2 3, cellOf h2 4⟩, bW.trans (hg.below r0 hB0)⟩)
  have UN : Hid (∀ (V : World) (u : Value), Grw W0 v V u → Grw w v V u) := hid (fun V u hg => by rw [hW0] at hg; exact hg.unalloc)
  obtain ⟨⟨x0, x1, x2, x3, x4⟩, _⟩ := ST.out W0 v (Grw.refl _ _)
  have K1' := hid (K1.out W0.drew v bW.drew r0.drew)
  have HE : Hid (xs ++ (encX nm ++ encTy (k1, k2) ++ encTy (v1, v2)) = xs ++ encX nm ++ encTy (k1, k2) ++ encTy (v1, v2)) := hid (by simp [List.append_assoc])
  clear h r0 mX own hl hw bW
  clear hnm hk hv
  go_enter Try.func47, Try.ntmps47
  go_upto_region 1 with fail
  rw [← hX, ← hW0]
  clear hX hW0
  go_region_held3 (fun V => V.cell? ⟨X, 0, none⟩ = some (.string nm) ∧ V.cell? ⟨X, 1, none⟩ = some (.int .i64 k1) ∧ V.cell? ⟨X, 2, none⟩ = some (.int .i64 k2) ∧ V.cell? ⟨X, 3, none⟩ = some (.int .i64 v1) ∧ V.cell? ⟨X, 4, none⟩ = some (.int .i64 v2)) (first | exact s3 | exact s2 | exact s1 | go_keep) (first
    | (have hno := hs2; (go_at_call 96; (refine (K3.out w2 u2 (ST.out w2 u2 HG2.out).2 HR2.out).mono ?_; rintro e w3 ⟨u3, rfl, hr3, hg3⟩; have HR3 := hid hr3; have HG3 := hid (HG2.out.trans hg3); have s3 := (ST.out w3 u3 HG3.out).1; have hs3 := True.intro; clear hr3 hg3)))
    | (have hno := hs1; (go_at_call 96; (refine (K2.out w1 u1 (ST.out w1 u1 HG1.out).2 HR1.out).mono ?_; rintro e w2 ⟨u2, rfl, hr2, hg2⟩; have HR2 := hid hr2; have HG2 := hid (HG1.out.trans hg2); have s2 := (ST.out w2 u2 HG2.out).1; have hs2 := True.intro; clear hr2 hg2)))
    | (go_at_call 53; (refine (Hid.out K1').mono ?_; rintro e w1 ⟨u1, rfl, hr1, hg1⟩; have HR1 := hid hr1; have HG1 := hid hg1.undrew; have s1 := (ST.out w1 u1 HG1.out).1; have hs1 := True.intro; clear hr1 hg1)))
  go_wp2
  go_ret
  exact ⟨_, rfl, by rw [HE.out]; exact HR3.out, UN.out _ _ HG3.out⟩
set_option maxHeartbeats 2000000 in
theorem appSig_x (w0 w : World) (v : Value) (xs : List Nat) (nm : ByteArray) (pa : Option Addr) (pn pc : Nat) (ps : List TyP) (kd rr : Int) (hw : Below w0.heap.size w0 w) (h : Row w w0.heap.size v xs) (hl : (xs ++ (encX nm ++ encTys ps ++ encTy (kd, rr))).length ≤ 100000000) (hnm : nm.size ≤ 1000000) (hpn : pn = ps.length) (hpb : pn ≤ 1000000) (hpr : TRd w0 pa ps) (hpi : ∀ t ∈ ps, inT t) (hk : inT (kd, rr)) :
    Calls Try.prog 49 #[v, .agg #[.string nm, .slice pa pn pc, .int .i64 kd, .int .i64 rr]] w (ApP w w0.heap.size v (xs ++ (encX nm ++ encTys ps ++ encTy (kd, rr)))) := by
  obtain ⟨W0, hW0⟩ : ∃ W0, W0 = w.alloc (.cells #[.string nm, .slice pa pn pc, .int .i64 kd, .int .i64 rr] 29) := ⟨_, rfl⟩
  obtain ⟨X, hX⟩ : ∃ X, X = w.heap.size := ⟨_, rfl⟩
  have mX : W0.heap[X]? = some (.cells #[.string nm, .slice pa pn pc, .int .i64 kd, .int .i64 rr] 29 (0, 0)) := by rw [hW0, hX]; exact heap_alloc_new w _
  have r0 : Row W0 w0.heap.size v xs := by rw [hW0]; exact h.alloc _
  have bW : Below w0.heap.size w0 W0 := by rw [hW0]; exact hw.alloc hw.size _
  have hB0 : w0.heap.size ≤ W0.heap.size := bW.size
  have own : some X ≠ v.ownBlock := fun e => by have := (h.own X e.symm).2; omega
  have K1 := hid (fun (V : World) (u : Value) (hb : Below w0.heap.size w0 V) (hr : Row V w0.heap.size u (xs)) => (appText_any V w0.heap.size u (xs) nm hr hb.size (by simp only [List.length_append] at hl ⊢; omega) hnm : Calls Try.prog 53 #[u, .string nm] V (ApP V w0.heap.size u (xs ++ encX nm))))
  have K2 := hid (fun (V : World) (u : Value) (hb : Below w0.heap.size w0 V) (hr : Row V w0.heap.size u (xs ++ encX nm)) => (appTys_any w0 V u (xs ++ encX nm) pa pn pc ps hb hr hpn hpb hpr (by simp only [List.length_append] at hl ⊢; omega) hpi : Calls Try.prog 95 #[u, .slice pa pn pc, .func (.func 96) #[] #[]] V (ApP V w0.heap.size u (xs ++ encX nm ++ encTys ps))))
  have K3 := hid (fun (V : World) (u : Value) (hb : Below w0.heap.size w0 V) (hr : Row V w0.heap.size u (xs ++ encX nm ++ encTys ps)) => (appType_any V w0.heap.size u (xs ++ encX nm ++ encTys ps) (kd, rr) hr hb.size (by simp only [List.length_append] at hl ⊢; omega) hk : Calls Try.prog 96 #[u, .agg #[.int .i64 kd, .int .i64 rr]] V (ApP V w0.heap.size u (xs ++ encX nm ++ encTys ps ++ encTy (kd, rr)))))
  have ST : Hid (∀ (V : World) (u : Value), Grw W0 v V u → (V.cell? ⟨X, 0, none⟩ = some (.string nm) ∧ V.cell? ⟨X, 1, none⟩ = some (.slice pa pn pc) ∧ V.cell? ⟨X, 2, none⟩ = some (.int .i64 kd) ∧ V.cell? ⟨X, 3, none⟩ = some (.int .i64 rr)) ∧ Below w0.heap.size w0 V) := hid (fun V u hg => by
    have h2 := (hg.1.block X (lt_of_heap mX) own).trans mX
    exact ⟨⟨cellOf h2 0, cellOf h2 1, cellOf h2 2, cellOf h2 3⟩, bW.trans (hg.below r0 hB0)⟩)
  have UN : Hid (∀ (V : World) (u : Value), Grw W0 v V u → Grw w v V u) := hid (fun V u hg => by rw [hW0] at hg; exact hg.unalloc)
  obtain ⟨⟨x0, x1, x2, x3⟩, _⟩ := ST.out W0 v (Grw.refl _ _)
  have K1' := hid (K1.out W0.drew v bW.drew r0.drew)
  have HE : Hid (xs ++ (encX nm ++ encTys ps ++ encTy (kd, rr)) = xs ++ encX nm ++ encTys ps ++ encTy (kd, rr)) := hid (by simp [List.append_assoc])
  clear h r0 mX own hl hw bW
  clear hnm hpn hpr hpi hk hpb
  go_enter Try.func49, Try.ntmps49
  go_upto_region 1 with fail
  rw [← hX, ← hW0]
  clear hX hW0
  go_region_held3 (fun V => V.cell? ⟨X, 0, none⟩ = some (.string nm) ∧ V.cell? ⟨X, 1, none⟩ = some (.slice pa pn pc) ∧ V.cell? ⟨X, 2, none⟩ = some (.int .i64 kd) ∧ V.cell? ⟨X, 3, none⟩ = some (.int .i64 rr)) (first | exact s3 | exact s2 | exact s1 | go_keep) (first
    | (have hno := hs2; (go_at_call 96; (refine (K3.out w2 u2 (ST.out w2 u2 HG2.out).2 HR2.out).mono ?_; rintro e w3 ⟨u3, rfl, hr3, hg3⟩; have HR3 := hid hr3; have HG3 := hid (HG2.out.trans hg3); have s3 := (ST.out w3 u3 HG3.out).1; have hs3 := True.intro; clear hr3 hg3)))
    | (have hno := hs1; (go_at_call 95; (refine (K2.out w1 u1 (ST.out w1 u1 HG1.out).2 HR1.out).mono ?_; rintro e w2 ⟨u2, rfl, hr2, hg2⟩; have HR2 := hid hr2; have HG2 := hid (HG1.out.trans hg2); have s2 := (ST.out w2 u2 HG2.out).1; have hs2 := True.intro; clear hr2 hg2)))
    | (go_at_call 53; (refine (Hid.out K1').mono ?_; rintro e w1 ⟨u1, rfl, hr1, hg1⟩; have HR1 := hid hr1; have HG1 := hid hg1.undrew; have s1 := (ST.out w1 u1 HG1.out).1; have hs1 := True.intro; clear hr1 hg1)))
  go_wp2
  go_ret
  exact ⟨_, rfl, by rw [HE.out]; exact HR3.out, UN.out _ _ HG3.out⟩
set_option maxHeartbeats 2000000 in
theorem appRecord_x (w0 w : World) (v : Value) (xs : List Nat) (nm : ByteArray) (fa : Option Addr) (fn fc : Nat) (fs : List ByteArray) (ta : Option Addr) (tn tc : Nat) (ts : List TyP) (hw : Below w0.heap.size w0 w) (h : Row w w0.heap.size v xs) (hl : (xs ++ (encX nm ++ encSs fs ++ encTys ts)).length ≤ 100000000) (hnm : nm.size ≤ 1000000) (hfn : fn = fs.length) (hfb : fn ≤ 1000000) (hfr : SRd w0 fa fs) (hfs : ∀ s ∈ fs, s.size ≤ 1000000) (htn : tn = ts.length) (htb : tn ≤ 1000000) (htr : TRd w0 ta ts) (hti : ∀ t ∈ ts, inT t) :
    Calls Try.prog 45 #[v, .agg #[.string nm, .slice fa fn fc, .slice ta tn tc]] w (ApP w w0.heap.size v (xs ++ (encX nm ++ encSs fs ++ encTys ts))) := by
  obtain ⟨W0, hW0⟩ : ∃ W0, W0 = w.alloc (.cells #[.string nm, .slice fa fn fc, .slice ta tn tc] 32) := ⟨_, rfl⟩
  obtain ⟨X, hX⟩ : ∃ X, X = w.heap.size := ⟨_, rfl⟩
  have mX : W0.heap[X]? = some (.cells #[.string nm, .slice fa fn fc, .slice ta tn tc] 32 (0, 0)) := by rw [hW0, hX]; exact heap_alloc_new w _
  have r0 : Row W0 w0.heap.size v xs := by rw [hW0]; exact h.alloc _
  have bW : Below w0.heap.size w0 W0 := by rw [hW0]; exact hw.alloc hw.size _
  have hB0 : w0.heap.size ≤ W0.heap.size := bW.size
  have own : some X ≠ v.ownBlock := fun e => by have := (h.own X e.symm).2; omega
  have K1 := hid (fun (V : World) (u : Value) (hb : Below w0.heap.size w0 V) (hr : Row V w0.heap.size u (xs)) => (appText_any V w0.heap.size u (xs) nm hr hb.size (by simp only [List.length_append] at hl ⊢; omega) hnm : Calls Try.prog 53 #[u, .string nm] V (ApP V w0.heap.size u (xs ++ encX nm))))
  have K2 := hid (fun (V : World) (u : Value) (hb : Below w0.heap.size w0 V) (hr : Row V w0.heap.size u (xs ++ encX nm)) => (appSs_any w0 V u (xs ++ encX nm) fa fn fc fs hb hr hfn hfb hfr (by simp only [List.length_append] at hl ⊢; omega) hfs : Calls Try.prog 52 #[u, .slice fa fn fc, .func (.func 53) #[] #[]] V (ApP V w0.heap.size u (xs ++ encX nm ++ encSs fs))))
  have K3 := hid (fun (V : World) (u : Value) (hb : Below w0.heap.size w0 V) (hr : Row V w0.heap.size u (xs ++ encX nm ++ encSs fs)) => (appTys_any w0 V u (xs ++ encX nm ++ encSs fs) ta tn tc ts hb hr htn htb htr (by simp only [List.length_append] at hl ⊢; omega) hti : Calls Try.prog 95 #[u, .slice ta tn tc, .func (.func 96) #[] #[]] V (ApP V w0.heap.size u (xs ++ encX nm ++ encSs fs ++ encTys ts))))
  have ST : Hid (∀ (V : World) (u : Value), Grw W0 v V u → (V.cell? ⟨X, 0, none⟩ = some (.string nm) ∧ V.cell? ⟨X, 1, none⟩ = some (.slice fa fn fc) ∧ V.cell? ⟨X, 2, none⟩ = some (.slice ta tn tc)) ∧ Below w0.heap.size w0 V) := hid (fun V u hg => by
    have h2 := (hg.1.block X (lt_of_heap mX) own).trans mX
    exact ⟨⟨cellOf h2 0, cellOf h2 1, cellOf h2 2⟩, bW.trans (hg.below r0 hB0)⟩)
  have UN : Hid (∀ (V : World) (u : Value), Grw W0 v V u → Grw w v V u) := hid (fun V u hg => by rw [hW0] at hg; exact hg.unalloc)
  obtain ⟨⟨x0, x1, x2⟩, _⟩ := ST.out W0 v (Grw.refl _ _)
  have K1' := hid (K1.out W0.drew v bW.drew r0.drew)
  have HE : Hid (xs ++ (encX nm ++ encSs fs ++ encTys ts) = xs ++ encX nm ++ encSs fs ++ encTys ts) := hid (by simp [List.append_assoc])
  clear h r0 mX own hl hw bW
  clear hnm hfn hfb hfr hfs htn htb htr hti
  go_enter Try.func45, Try.ntmps45
  go_upto_region 1 with fail
  rw [← hX, ← hW0]
  clear hX hW0
  go_region_held3 (fun V => V.cell? ⟨X, 0, none⟩ = some (.string nm) ∧ V.cell? ⟨X, 1, none⟩ = some (.slice fa fn fc) ∧ V.cell? ⟨X, 2, none⟩ = some (.slice ta tn tc)) (first | exact s2 | exact s1 | go_keep) (first
    | (have hno := hs1; (go_at_call 52; (refine (K2.out w1 u1 (ST.out w1 u1 HG1.out).2 HR1.out).mono ?_; rintro e w2 ⟨u2, rfl, hr2, hg2⟩; have HR2 := hid hr2; have HG2 := hid (HG1.out.trans hg2); have s2 := (ST.out w2 u2 HG2.out).1; have hs2 := True.intro; clear hr2 hg2)))
    | (go_at_call 53; (refine (Hid.out K1').mono ?_; rintro e w1 ⟨u1, rfl, hr1, hg1⟩; have HR1 := hid hr1; have HG1 := hid hg1.undrew; have s1 := (ST.out w1 u1 HG1.out).1; have hs1 := True.intro; clear hr1 hg1)))
  obtain ⟨z0, z1, z2⟩ := s2
  go_wp2_with (first
    | (have hno := hs2; (go_at_call 95; (refine (K3.out w2 u2 (ST.out w2 u2 HG2.out).2 HR2.out).mono ?_; rintro e w3 ⟨u3, rfl, hr3, hg3⟩; have HR3 := hid hr3; have HG3 := hid (HG2.out.trans hg3); have s3 := (ST.out w3 u3 HG3.out).1; have hs3 := True.intro; clear hr3 hg3))))
  go_ret
  exact ⟨_, rfl, by rw [HE.out]; exact HR3.out, UN.out _ _ HG3.out⟩
end Go.Proofs.Ytmhjnfibpngpmaa

namespace Go.Proofs.Ytmhjnfibpngpmaa
open Go.RowKit Go.Deep Go.Shelf
set_option linter.unusedVariables false
set_option linter.unusedSimpArgs false
def fl (s : Shp) (o : Opx) (i : Fin 4) : Int × Int := match i with
  | 0 => (s.d, o.d)
  | 1 => (s.a, o.a)
  | 2 => (s.b, o.b)
  | 3 => (s.k, o.k)
def encS (s : Shp) (o : Opx) (i : Fin 4) : Array Value := #[.int .u8 (fl s o i).1, .int .i64 (fl s o i).2]
def fourL : List (Fin 4) := [0, 1, 2, 3]
/- The two boxes stay. -/
def K2 (X : Nat) (W W' : World) : Prop := W'.heap[X]? = W.heap[X]? ∧ W'.heap[X + 1]? = W.heap[X + 1]?
theorem K2_t {X : Nat} {A B C : World} (h : K2 X A B) (k : K2 X B C) : K2 X A C := ⟨k.1.trans h.1, k.2.trans h.2⟩
theorem K2_b {X : Nat} {w : World} (hB : X + 1 < w.heap.size) (W : World) (l : Nat) (o o' : Obj) (hl : w.heap.size ≤ l) (h : W.heap[l]? = some o) (hc : o.isCells = false) (hw : o.isWalk = false) : K2 X W (W.putObj l o') :=
  ⟨(grownBy_putObj' W l o').block X (by have := (Array.getElem?_eq_some_iff.1 h).1; omega) (fun e => by cases e; omega), (grownBy_putObj' W l o').block (X + 1) (by have := (Array.getElem?_eq_some_iff.1 h).1; omega) (fun e => by cases e; omega)⟩
theorem K2_of {X : Nat} {W W' : World} (h : Below W.heap.size W W') (hB : X + 1 < W.heap.size) : K2 X W W' := ⟨h.block X (by omega), h.block _ hB⟩
set_option maxRecDepth 100000 in
theorem fields_in (F : Fence) (n : Nat) (h26 : F.fn 26) (hro : F.round = none) (s : Shp) (o : Opx) (w : World) : CallsIn F n Try.prog 26 #[.agg s.cs.toArray, .agg o.cs] w fun e w' => e = .returned (.func (.func 74) #[] #[.pointer (some ⟨w.heap.size, 0, none⟩), .pointer (some ⟨w.heap.size + 1, 0, none⟩)]) ∧ w' = (w.alloc (.cells s.cs.toArray 81)).alloc (.cells o.cs 41) := by
  obtain ⟨nm, sd, sa, sb, sk⟩ := s
  obtain ⟨oc, od, oa, ob, ok⟩ := o
  simp only [Shp.cs, Opx.cs]
  refine callsIn_of_wp Try.func26 rfl h26 ?_ hro
  simp only [Try.ntmps26, List.size_toArray, List.length_cons, List.length_nil, Nat.reduceAdd, Nat.reduceSub, Array.replicate_succ, Array.replicate_zero, List.push_toArray, List.append_toArray, List.nil_append, List.cons_append]
  gi_wp2
  refine bodyPost_ret (v := .func (.func 74) #[] #[.pointer (some ⟨w.heap.size, 0, none⟩), .pointer (some ⟨w.heap.size + 1, 0, none⟩)]) (by simp [results, Try.results26, go_sem]) rfl ⟨rfl, rfl⟩
theorem yield_bool {α : Type} {F : Fence} {n l : Nat} {J Jx : List α → World → Prop} {encs : α → Array Value} {Kp : World → World → Prop} {W : World} {pre : List α} {x : α}
    (h : YieldAt F n Try.prog l (encs x) W fun e W' => (e = .returned (.bool true) ∧ J (pre ++ [x]) W' ∧ Kp W W') ∨ (e = .returned (.bool false) ∧ Jx (pre ++ [x]) W')) :
    YieldAt F n Try.prog l (encs x) W fun e W' => ∃ b : Bool, e = .returned (.bool b) ∧ ((b = true → J (pre ++ [x]) W' ∧ Kp W W') ∧ (b = false → Jx (pre ++ [x]) W')) := by
  obtain ⟨fn', tmps, assign, body, hy, hRd⟩ := h
  refine ⟨fn', tmps, assign, body, hy, hRd.mono ?_⟩
  rintro e W' (⟨rfl, h1, h2⟩ | ⟨rfl, h1⟩)
  · exact ⟨true, rfl, ⟨fun _ => ⟨h1, h2⟩, fun h => (by cases h)⟩⟩
  · exact ⟨false, rfl, ⟨fun h => (by cases h), fun _ => h1⟩⟩
set_option maxRecDepth 100000 in
set_option maxHeartbeats 1000000 in
theorem fields_stops (s : Shp) (o : Opx) (X n : Nat) (hn : 1 ≤ n) (w : World) (hs : w.heap[X]? = some (.cells s.cs.toArray 81 (0, 0))) (ho : w.heap[X + 1]? = some (.cells o.cs 41 (0, 0))) :
    SeqStopsK Fence.wide n Try.prog 74 #[.pointer (some ⟨X, 0, none⟩), .pointer (some ⟨X + 1, 0, none⟩)] (encS s o) (K2 X) (fun xs => xs = fourL) (fun pre => ∃ k, pre = fourL.take k) 4 w := by
  intro l J Jx W hb hJa hJxa hY h0
  have hro : Fence.wide.round = none := rfl
  have bs : W.heap[X]? = some (.cells s.cs.toArray 81 (0, 0)) := (hb.block X (lt_of_heap hs)).trans hs
  have bo : W.heap[X + 1]? = some (.cells o.cs 41 (0, 0)) := (hb.block _ (lt_of_heap ho)).trans ho
  obtain ⟨nm, sd, sa, sb, sk⟩ := s
  obtain ⟨oc, od, oa, ob, ok⟩ := o
  have CB : Hid (∀ V : World, K2 X W V → (V.cell? ⟨X, 1, none⟩ = some (.int .u8 sd) ∧ V.cell? ⟨X, 2, none⟩ = some (.int .u8 sa) ∧ V.cell? ⟨X, 3, none⟩ = some (.int .u8 sb) ∧ V.cell? ⟨X, 4, none⟩ = some (.int .u8 sk)) ∧ V.cell? ⟨X + 1, 1, none⟩ = some (.int .i64 od) ∧ V.cell? ⟨X + 1, 2, none⟩ = some (.int .i64 oa) ∧ V.cell? ⟨X + 1, 3, none⟩ = some (.int .i64 ob) ∧ V.cell? ⟨X + 1, 4, none⟩ = some (.int .i64 ok)) := hid (fun V hV => by
    have e1 := hV.1.trans bs
    have e2 := hV.2.trans bo
    exact ⟨⟨cellOf e1 1, cellOf e1 2, cellOf e1 3, cellOf e1 4⟩, cellOf e2 1, cellOf e2 2, cellOf e2 3, cellOf e2 4⟩)
  clear hs ho bs bo hb
  refine callsIn_of_wp Try.func74 rfl trivial ?_ hro
  simp only [Try.ntmps74, List.size_toArray, List.length_cons, List.length_nil, Nat.reduceAdd, Nat.reduceSub, Array.replicate_succ, Array.replicate_zero, List.push_toArray, List.append_toArray, List.nil_append, List.cons_append]
  have HY := hid hY
  clear hY hJa hJxa
  obtain ⟨⟨x1, x2, x3, x4⟩, y1, y2, y3, y4⟩ := CB.out W ⟨rfl, rfl⟩
  obtain ⟨fn', tmps, assign, body, hy, hRd⟩ := yield_bool (HY.out [] 0 W h0 (by simp))
  have HRd := hid hRd
  simp only [encS, fl] at hy HRd
  clear hRd
  gi_wp2
  refine (Hid.out HRd).mono ?_
  rintro e W1 ⟨bb, rfl, hor⟩
  clear hy HRd x1 x2 x3 x4 y1 y2 y3 y4
  cases bb with
  | false =>
    have hor' := hid (hor.2 rfl)
    clear hor
    gi_wp2_with (refine ⟨(fun _ h => by cases h), ?_⟩)
    refine bodyPost_end (results_none rfl _ _ _) rfl ?_
    exact ⟨⟨_, rfl⟩, .inr ⟨_, ⟨1, rfl⟩, hor'.out⟩⟩
  | true =>
    obtain ⟨hJ1, hk1⟩ := hor.1 rfl
    obtain ⟨⟨x1, x2, x3, x4⟩, y1, y2, y3, y4⟩ := CB.out W1 hk1
    obtain ⟨fn', tmps, assign, body, hy, hRd⟩ := yield_bool (HY.out [0] 1 W1 hJ1 (by simp))
    have HRd := hid hRd
    simp only [encS, fl] at hy HRd
    have HK1 := hid hk1
    clear hRd hor hJ1 hk1
    gi_wp2
    refine (Hid.out HRd).mono ?_
    rintro e W2 ⟨bb, rfl, hor⟩
    clear hy HRd x1 x2 x3 x4 y1 y2 y3 y4
    cases bb with
    | false =>
      have hor' := hid (hor.2 rfl)
      clear hor
      gi_wp2_with (refine ⟨(fun _ h => by cases h), ?_⟩)
      refine bodyPost_end (results_none rfl _ _ _) rfl ?_
      exact ⟨⟨_, rfl⟩, .inr ⟨_, ⟨2, rfl⟩, hor'.out⟩⟩
    | true =>
      obtain ⟨hJ1, hk1⟩ := hor.1 rfl
      have hk2 := K2_t HK1.out hk1
      obtain ⟨⟨x1, x2, x3, x4⟩, y1, y2, y3, y4⟩ := CB.out W2 hk2
      obtain ⟨fn', tmps, assign, body, hy, hRd⟩ := yield_bool (HY.out [0, 1] 2 W2 hJ1 (by simp))
      have HRd := hid hRd
      simp only [encS, fl] at hy HRd
      have HK2 := hid hk2
      clear hRd hor hJ1 hk1 hk2
      gi_wp2
      refine (Hid.out HRd).mono ?_
      rintro e W3 ⟨bb, rfl, hor⟩
      clear hy HRd x1 x2 x3 x4 y1 y2 y3 y4
      cases bb with
      | false =>
        have hor' := hid (hor.2 rfl)
        clear hor
        gi_wp2_with (refine ⟨(fun _ h => by cases h), ?_⟩)
        refine bodyPost_end (results_none rfl _ _ _) rfl ?_
        exact ⟨⟨_, rfl⟩, .inr ⟨_, ⟨3, rfl⟩, hor'.out⟩⟩
      | true =>
        obtain ⟨hJ1, hk1⟩ := hor.1 rfl
        have hk3 := K2_t HK2.out hk1
        obtain ⟨⟨x1, x2, x3, x4⟩, y1, y2, y3, y4⟩ := CB.out W3 hk3
        obtain ⟨fn', tmps, assign, body, hy, hRd⟩ := yield_bool (HY.out [0, 1, 2] 3 W3 hJ1 (by simp))
        have HRd := hid hRd
        simp only [encS, fl] at hy HRd
        clear hRd hor hJ1 hk1 hk3
        gi_wp2
        refine (Hid.out HRd).mono ?_
        rintro e W4 ⟨bb, rfl, hor⟩
        clear hy HRd x1 x2 x3 x4 y1 y2 y3 y4
        cases bb with
        | false =>
          have hor' := hid (hor.2 rfl)
          clear hor
          gi_wp2_with (refine ⟨(fun _ h => by cases h), ?_⟩)
          refine bodyPost_end (results_none rfl _ _ _) rfl ?_
          exact ⟨⟨_, rfl⟩, .inr ⟨_, ⟨4, rfl⟩, hor'.out⟩⟩
        | true =>
          have hor' := hid (hor.1 rfl).1
          clear hor
          gi_wp2_with (refine ⟨(fun _ h => by cases h), ?_⟩)
          refine bodyPost_end (results_none rfl _ _ _) rfl ?_
          exact ⟨⟨_, rfl⟩, .inl ⟨_, rfl, hor'.out⟩⟩
end Go.Proofs.Ytmhjnfibpngpmaa

namespace Go.Proofs.Ytmhjnfibpngpmaa
open Go.RowKit Go.Deep Go.Shelf
set_option linter.unusedVariables false
set_option linter.unusedSimpArgs false
theorem range_go {α : Type} {F : Fence} {n : Nat} {P : Program} {g : Operand} {ps : Array Tmp} {assign body : Code} {Q : Exit → Act → World → Prop} {a : Act} {w : World}
    (hro : F.round = none) (h1 : 1 ≤ n) {gf : Nat} {lb : Array Value} (hg : a.eval g = .func (.func gf) #[] lb) (hFg : F.fn gf) (eg : ∀ args w, (callFunc gf args).run P w = .ok (.enter gf args) w)
    {encs : α → Array Value} {Kp : World → World → Prop} {S Sp : List α → Prop} {N : Nat} (hseq : SeqStopsK F (n - 1) P gf lb encs Kp S Sp N w)
    (hKr : ∀ A : World, Kp A A) (hKt : ∀ {A B C : World}, Kp A B → Kp B C → Kp A C) (hKb : ∀ (W : World) (l : Nat) (o o' : Obj), w.heap.size ≤ l → W.heap[l]? = some o → o.isCells = false → o.isWalk = false → Kp W (W.putObj l o')) (hps : ∀ x, (encs x).size = ps.size)
    (I : List α → World → Prop) (Ix : Code → List α → World → Prop) (hI : OwnFrom w.heap.size I) (hIx : ∀ c, OwnFrom w.heap.size (Ix c)) (h0 : I [] w)
    (hround : ∀ (l : Nat) (x : α) (W : World) (K : Act → World → Prop), (∀ a', (∀ (l' : Nat) (pre : List α) (W' : World), w.heap.size ≤ l' → (∃ r, W'.heap[l']? = some (.loop r)) → I pre W' → pre.length < N → body.wpIn (F.inRound l') (n - 1 - 1) P (ownPostG w.heap.size Kp I Ix (pre ++ [x]) W') a' W') → K a' W) →
      assign.wpIn (F.inRound l) (n - 1 - 1) P (Exit.then K (fun _ _ _ => False)) { tmps := (ps.zip (encs x)).foldl (fun t (p, v) => t.setIfInBounds p v) a.tmps, defers := [] } W)
    (hdone : ∀ (D : Nat) (xs : List α) (W : World), w.heap.size ≤ D → S xs → I xs W → W.heap[D]? = some (.deferred (some [])) → Q .normal { a with defers := { target := .collected D, args := #[] } :: a.defers } W)
    (hstop : ∀ (D : Nat) (c : Code) (pre : List α) (W : World), w.heap.size ≤ D → Sp pre → Ix c pre W → W.heap[D]? = some (.deferred (some [])) → c.wpIn F n P Q { a with defers := { target := .collected D, args := #[] } :: a.defers } W) :
    (Code.rangeFunc g ps assign body).wpIn F n P Q a w := by
  refine wpIn_rangeFunc_ownH hro h1 hg hFg eg hseq hKt hKb (Below.refl _ _) hps I Ix hI hIx h0 (fun x a' _ => ∀ (l' : Nat) (pre : List α) (W' : World), w.heap.size ≤ l' → (∃ r, W'.heap[l']? = some (.loop r)) → I pre W' → pre.length < N → body.wpIn (F.inRound l') (n - 1 - 1) P (ownPostG w.heap.size Kp I Ix (pre ++ [x]) W') a' W') (fun x a' _ A B row hs _ _ => hs) ?_ ?_ hdone hstop
  · intro l pre x W K hi hK
    exact hround l x W K (fun a' h => hK a' W (KeepsFrom.refl _ _) (hKr W) hi h)
  · intro l pre x a' W hl hr hi hA hlt
    exact hA l pre W hl hr hi hlt
theorem zip2 (p1 p2 : Tmp) (v1 v2 : Value) (t : Array Value) : ((#[p1, p2] : Array Tmp).zip #[v1, v2]).foldl (fun t (p, v) => t.setIfInBounds p v) t = (t.setIfInBounds p1 v1).setIfInBounds p2 v2 := by simp
theorem range_go2 {α : Type} {F : Fence} {n : Nat} {P : Program} {g : Operand} {p1 p2 : Tmp} {assign body : Code} {Q : Exit → Act → World → Prop} {a : Act} {w : World}
    (hro : F.round = none) (h1 : 1 ≤ n) {gf : Nat} {lb : Array Value} (hg : a.eval g = .func (.func gf) #[] lb) (hFg : F.fn gf) (eg : ∀ args w, (callFunc gf args).run P w = .ok (.enter gf args) w)
    {enc1 enc2 : α → Value} {Kp : World → World → Prop} {S Sp : List α → Prop} {N : Nat} (hseq : SeqStopsK F (n - 1) P gf lb (fun x => #[enc1 x, enc2 x]) Kp S Sp N w)
    (hKr : ∀ A : World, Kp A A) (hKt : ∀ {A B C : World}, Kp A B → Kp B C → Kp A C) (hKb : ∀ (W : World) (l : Nat) (o o' : Obj), w.heap.size ≤ l → W.heap[l]? = some o → o.isCells = false → o.isWalk = false → Kp W (W.putObj l o'))
    (I : List α → World → Prop) (Ix : Code → List α → World → Prop) (hI : OwnFrom w.heap.size I) (hIx : ∀ c, OwnFrom w.heap.size (Ix c)) (h0 : I [] w)
    (hround : ∀ (l : Nat) (x : α) (W : World) (K : Act → World → Prop), (∀ a', (∀ (l' : Nat) (pre : List α) (W' : World), w.heap.size ≤ l' → (∃ r, W'.heap[l']? = some (.loop r)) → I pre W' → pre.length < N → body.wpIn (F.inRound l') (n - 1 - 1) P (ownPostG w.heap.size Kp I Ix (pre ++ [x]) W') a' W') → K a' W) →
      assign.wpIn (F.inRound l) (n - 1 - 1) P (Exit.then K (fun _ _ _ => False)) { tmps := (a.tmps.setIfInBounds p1 (enc1 x)).setIfInBounds p2 (enc2 x), defers := [] } W)
    (hdone : ∀ (D : Nat) (xs : List α) (W : World), w.heap.size ≤ D → S xs → I xs W → W.heap[D]? = some (.deferred (some [])) → Q .normal { a with defers := { target := .collected D, args := #[] } :: a.defers } W)
    (hstop : ∀ (D : Nat) (c : Code) (pre : List α) (W : World), w.heap.size ≤ D → Sp pre → Ix c pre W → W.heap[D]? = some (.deferred (some [])) → c.wpIn F n P Q { a with defers := { target := .collected D, args := #[] } :: a.defers } W) :
    (Code.rangeFunc g #[p1, p2] assign body).wpIn F n P Q a w := by
  refine range_go hro h1 hg hFg eg hseq hKr hKt hKb (fun _ => rfl) I Ix hI hIx h0 (fun l x W K hK => ?_) hdone hstop
  rw [zip2]
  exact hround l x W K hK
theorem K2_r {X : Nat} (A : World) : K2 X A A := ⟨rfl, rfl⟩
/- Between two rounds nothing but what is new has turned since V. -/
def BI {α : Type} (V : World) (ok : α → Bool) (pre : List α) (W : World) : Prop := Below V.heap.size V W ∧ ∀ x ∈ pre, ok x = true
theorem BI_own {α : Type} (V : World) (ok : α → Bool) : OwnFrom V.heap.size (BI V ok) := fun s A A' row hs hg hr => ⟨ownFrom_below (β := Unit) (Nat.le_refl _) (Nat.le_refl _) () A A' row hs.1 hg hr, hs.2⟩
theorem BI.snoc {α : Type} {V : World} {ok : α → Bool} {pre : List α} {W W' : World} {x : α} (h : BI V ok pre W) (hx : ok x = true) (k : Below W.heap.size W W') : BI V ok (pre ++ [x]) W' := ⟨h.1.trans (k.mono h.1.size), fun y hy => by
  rcases List.mem_append.1 hy with hy | hy
  · exact h.2 y hy
  · simp at hy; subst hy; exact hx⟩
/- The loop was left by a return of false. -/
def BX {α : Type} (w V : World) (R : Nat) (ok : α → Bool) (c : Code) (pre : List α) (W : World) : Prop := c = .ret ∧ (∃ x ∈ pre, ok x = false) ∧ W.heap[R]? = some (.cells #[.bool false] 4 (0, 0)) ∧ Below w.heap.size w W
theorem BX_own {α : Type} (w V : World) (R : Nat) (ok : α → Bool) (hw : w.heap.size ≤ V.heap.size) (c : Code) : OwnFrom V.heap.size (BX w V R ok c) := fun s A A' row hs hg hr =>
  ⟨hs.1, hs.2.1, keep_cells hs.2.2.1 hg hr, ownFrom_below (β := Unit) (Nat.le_refl _) hw () A A' row hs.2.2.2 hg hr⟩
end Go.Proofs.Ytmhjnfibpngpmaa

namespace Go.Proofs.Ytmhjnfibpngpmaa
open Go.RowKit Go.Deep Go.Shelf
set_option linter.unusedVariables false
set_option linter.unusedSimpArgs false
attribute [local go_sem] Oper.semAt_some
def ShapeC : Prop := ∀ (w : World) (k : Int), Calls Try.prog 24 #[.int .i64 k] w fun e w' => e = .returned (.tuple #[.agg (if isC k = true then shpAt k else shp0).cs.toArray, .bool (isC k)]) ∧ Below w.heap.size w w'
def okF (c : Cx) (regs : Int) (nops : Nat) (o : Opx) (i : Fin 4) : Bool := inB (bnd c regs nops (fl (shpAt o.c) o i).1 (rowLen (shpAt o.c).k c.p o.k).1) (fl (shpAt o.c) o i).2
theorem okF_all {c : Cx} {regs : Int} {nops : Nat} {o : Opx} (h : isC o.c = true) (hf : ∀ x ∈ fourL, okF c regs nops o x = true) : isOpB c regs nops o = true := by
  have h0 := hf 0 (by simp [fourL])
  have h1 := hf 1 (by simp [fourL])
  have h2 := hf 2 (by simp [fourL])
  have h3 := hf 3 (by simp [fourL])
  simp only [okF, fl] at h0 h1 h2 h3
  simp [isOpB, h, h0, h1, h2, h3]
theorem okF_no {c : Cx} {regs : Int} {nops : Nat} {o : Opx} {i : Fin 4} (hf : okF c regs nops o i = false) : isOpB c regs nops o = false := by
  unfold okF at hf
  unfold isOpB
  rcases (show i = 0 ∨ i = 1 ∨ i = 2 ∨ i = 3 by omega) with rfl | rfl | rfl | rfl <;> (simp only [fl] at hf; simp [hf])
theorem rowLen_bounds (c : Cx) (C : CH) (L : Lns C c) (w : World) (d : PRd w C.h c.p) (r k : Int) : 0 ≤ (rowLen r c.p k).1 ∧ (rowLen r c.p k).1 ≤ 9223372036854775807 := by
  have pm : ∀ {a : Option Addr} {n : Nat} {gs : List (GH × Sg)}, GRd w a n gs → 0 ≤ (parmB (gs.map (·.2)) k).1 ∧ (parmB (gs.map (·.2)) k).1 ≤ 9223372036854775807 := by
    intro a n gs dg
    cases hb : blw k (gs.length : Int) with
    | false => unfold parmB; rw [List.length_map, hb]; simp
    | true =>
      obtain ⟨kk, rfl, hk⟩ := blw_nat hb
      obtain ⟨g, hg, sg, _⟩ := dg.sig (by rw [dg.n1]; exact hk)
      rw [parm_at hg hb]
      have h1 := sg.pn
      have h2 := sg.p2
      simp only
      omega
  unfold rowLen
  split
  · cases hb : blw k (c.p.recs.length : Int) with
    | false => simp
    | true =>
      obtain ⟨kk, rfl, hk⟩ := blw_nat hb
      obtain ⟨g, hg, sg, _⟩ := d.r.recd (by rw [d.r.n1]; exact hk)
      have h1 := sg.fn
      have h2 := sg.f2
      simp only [if_true, Int.toNat_natCast, List.getD_eq_getElem?_getD, List.getElem?_map, hg, Option.map_some, Option.getD_some]
      omega
  · split
    · simp
    · split
      · exact pm d.f
      · split
        · exact pm d.e
        · simp
set_option maxRecDepth 100000 in
set_option maxHeartbeats 2000000 in
theorem isOp_any (SO : ShapeC) (w : World) (C : CH) (c : Cx) (fs es : List (FH × Fx)) (d : CdRd w C c fs es) (F : FH) (h0 : 0 ≤ F.regs) (h64 : F.regs ≤ 64) (ho : F.on ≤ 9223372036854775807) (o : Opx) :
    Calls Try.prog 115 #[C.v, F.v, .agg o.cs] w fun e w' => e = .returned (.bool (isOpB c F.regs F.on o)) ∧ Below w.heap.size w w' := by
  have hro : Fence.wide.round = none := rfl
  obtain ⟨A1, hA1⟩ : ∃ A1, A1 = w.alloc (.cells C.cs 52) := ⟨_, rfl⟩
  obtain ⟨A2, hA2⟩ : ∃ A2, A2 = A1.alloc (.cells F.cs.toArray 73) := ⟨_, rfl⟩
  obtain ⟨A3, hA3⟩ : ∃ A3, A3 = A2.alloc (.cells o.cs 41) := ⟨_, rfl⟩
  obtain ⟨W0, hW0⟩ : ∃ W0, W0 = A3.alloc (.cells #[.bool false] 4) := ⟨_, rfl⟩
  have b1 : Below w.heap.size w A1 := by rw [hA1]; exact (Below.refl _ _).alloc (Nat.le_refl _) _
  have z1 : A1.heap.size = w.heap.size + 1 := by rw [hA1]; simp
  have z2 : A2.heap.size = w.heap.size + 2 := by rw [hA2]; simp; omega
  have z3 : A3.heap.size = w.heap.size + 3 := by rw [hA3]; simp; omega
  have z4 : W0.heap.size = w.heap.size + 4 := by rw [hW0]; simp; omega
  have b2 : Below w.heap.size w A2 := by rw [hA2]; exact b1.alloc (by omega) _
  have b3 : Below w.heap.size w A3 := by rw [hA3]; exact b2.alloc (by omega) _
  have b4 : Below w.heap.size w W0 := by rw [hW0]; exact b3.alloc (by omega) _
  have m0 : W0.heap[w.heap.size]? = some (.cells C.cs 52 (0, 0)) := by
    rw [hW0, Below.heap_alloc _ _ _ (by omega), hA3, Below.heap_alloc _ _ _ (by omega), hA2, Below.heap_alloc _ _ _ (by omega), hA1]; exact heap_alloc_new w _
  have m1 : W0.heap[w.heap.size + 1]? = some (.cells F.cs.toArray 73 (0, 0)) := by
    rw [hW0, Below.heap_alloc _ _ _ (by omega), hA3, Below.heap_alloc _ _ _ (by omega), hA2, ← z1]; exact heap_alloc_new A1 _
  have m2 : W0.heap[w.heap.size + 2]? = some (.cells o.cs 41 (0, 0)) := by
    rw [hW0, Below.heap_alloc _ _ _ (by omega), hA3, ← z2]; exact heap_alloc_new A2 _
  have m3 : W0.heap[w.heap.size + 3]? = some (.cells #[.bool false] 4 (0, 0)) := by rw [hW0, ← z3]; exact heap_alloc_new A3 _
  have KS := hid (SO W0 o.c)
  have L := d.lns
  have D := hid (fun (V : World) (hV : Below w.heap.size w V) => d.p.below (Nat.le_refl _) hV)
  have LB := hid (rowLen_bounds c C L w d.p)
  have HZ := hid z4
  have HB4 := hid b4
  have GT : Hid (∀ V : World, Below W0.heap.size W0 V → V.heap[w.heap.size]? = some (.cells C.cs 52 (0, 0)) ∧ V.heap[w.heap.size + 1]? = some (.cells F.cs.toArray 73 (0, 0)) ∧ V.heap[w.heap.size + 2]? = some (.cells o.cs 41 (0, 0)) ∧ V.heap[w.heap.size + 3]? = some (.cells #[.bool false] 4 (0, 0))) := hid (fun V hV => ⟨(hV.block _ (by omega)).trans m0, (hV.block _ (by omega)).trans m1, (hV.block _ (by omega)).trans m2, (hV.block _ (by omega)).trans m3⟩)
  clear m0 m1 m2 m3 b1 b2 b3 b4 z1 z2 z3 z4 d
  have KB := hid (fun (V : World) (r len : Int) (l0 : 0 ≤ len) (l1 : len ≤ 9223372036854775807) => bounds_any V C c L F h0 h64 ho r len l0 l1)
  have KR := hid (fun (V : World) (hV : Below w.heap.size w V) => rowLen_any V (shpAt o.c) C.h c.p (D.out V hV) o.k)
  have KF := hid (fun (V : World) => fields_in Fence.wide 5 trivial hro (shpAt o.c) o V)
  have SQ := hid (fun (V : World) (X : Nat) => fields_stops (shpAt o.c) o X 5 (by omega) V)
  obtain ⟨s, hs⟩ : ∃ s, s = shpAt o.c := ⟨_, rfl⟩
  have OKA := hid (fun (h : isC o.c = true) (hf : ∀ x ∈ fourL, okF c F.regs F.on o x = true) => okF_all h hf)
  have OKN := hid (fun (i : Fin 4) (hf : okF c F.regs F.on o i = false) => okF_no hf)
  have OKD : Hid (∀ i : Fin 4, okF c F.regs F.on o i = inB (bnd c F.regs F.on (fl (shpAt o.c) o i).1 (rowLen (shpAt o.c).k c.p o.k).1) (fl (shpAt o.c) o i).2) := hid (fun i => rfl)
  have LBk : Hid (0 ≤ (rowLen (shpAt o.c).k c.p o.k).1 ∧ (rowLen (shpAt o.c).k c.p o.k).1 ≤ 9223372036854775807) := hid (LB.out (shpAt o.c).k o.k)
  rw [← hs] at KR KF SQ KS OKD LBk
  generalize okF c F.regs F.on o = okf at OKA OKN OKD
  obtain ⟨len, lb, hlen⟩ : ∃ (len : Int) (lb : Bool), rowLen s.k c.p o.k = (len, lb) := ⟨_, _, rfl⟩
  simp only [hlen] at KR OKD LBk
  generalize bnd c F.regs F.on = bn at KB OKD
  obtain ⟨res, hres⟩ : ∃ res, res = isOpB c F.regs F.on o := ⟨_, rfl⟩
  rw [← hres] at OKA OKN ⊢
  have HRN : Hid (isC o.c = false → res = false) := hid (fun h => by rw [hres]; simp [isOpB, h])
  obtain ⟨⟨ra, rn, rc, ma, mn, mc, fa, fn, fc, ea, en, ec⟩, ia, inn, ic, ta, tn, tc, ga, gn, gc, ha, hn, hc⟩ := C
  obtain ⟨regs, oa, on, ocp⟩ := F
  obtain ⟨oc, od, oaa, ob, ok⟩ := o
  obtain ⟨nm, sd, sa, sb, sk⟩ := s
  simp only [CH.v, CH.cs, FH.v, FH.cs, Opx.cs, PH.v, Shp.cs] at hA1 hA2 hA3 KB KR KF SQ KS GT OKD OKA OKN HRN LBk ⊢
  clear LB D hlen hres hs L h0 h64 ho
  refine (callsIn_wide (n := 6)).1 ?_
  refine callsIn_of_wp_marks Try.func115 rfl trivial ?_ hro
  simp only [Try.ntmps115, List.size_toArray, List.length_cons, List.length_nil, Nat.reduceAdd, Nat.reduceSub, Array.replicate_succ, Array.replicate_zero, List.push_toArray, List.append_toArray, List.nil_append, List.cons_append]
  cases hC : isC oc with
  | false =>
    rw [hC] at KS HRN
    have hresF := hid (HRN.out rfl)
    simp only [Bool.false_eq_true, if_false, shp0, Shp.cs] at KS
    clear KB KR KF SQ OKD OKA OKN HRN LBk
    have AF := hid (fun (V : World) (hV : Below W0.heap.size W0 V) (q : Obj) => (by
      have bq := hV.trans (((Below.refl _ V).alloc (Nat.le_refl _) q).mono hV.size)
      have g := (GT.out _ bq).2.2.2
      have g8 := set_cells g (.bool false)
      exact ⟨cellOf g 0, freeOf g 0, cellOf g8 0, (HB4.out.trans (bq.mono HB4.out.size)).setCell (p := ⟨w.heap.size + 3, 0, none⟩) (by show w.heap.size ≤ w.heap.size + 3; omega) _⟩ : (V.alloc q).cell? ⟨w.heap.size + 3, 0, none⟩ = some (.bool false) ∧ (V.alloc q).frozen? ⟨w.heap.size + 3, 0, none⟩ = false ∧ ((V.alloc q).setCell ⟨w.heap.size + 3, 0, none⟩ (.bool false)).cell? ⟨w.heap.size + 3, 0, none⟩ = some (.bool false) ∧ Below w.heap.size w ((V.alloc q).setCell ⟨w.heap.size + 3, 0, none⟩ (.bool false))))
    gi_wp2_with (refine ⟨trivial, ?_⟩; gi_at_call 24; (rw [← hA1, ← hA2, ← hA3, ← hW0]; refine (callsIn_wide.2 (Hid.out KS)).mono ?_; rintro e w1 ⟨rfl, hb1⟩; have HA1 := hid (fun q => (AF.out w1 hb1 q).2.2.2); have g6 := fun q => (AF.out w1 hb1 q).1; have g7 := fun q => (AF.out w1 hb1 q).2.1; have g8 := fun q => (AF.out w1 hb1 q).2.2.1; clear hb1))
    exact ⟨_, by simp [results, Try.results115, go_sem, g8]; rfl, by rw [hresF.out], HA1.out _⟩
  | true =>
    rw [hC] at KS
    simp only [if_true, Shp.cs] at KS
    have hOKA := hid (OKA.out hC)
    clear HRN OKA
    have AF := hid (fun (V : World) (hV : Below W0.heap.size W0 V) (q : Obj) => (by
      have bq := hV.trans (((Below.refl _ V).alloc (Nat.le_refl _) q).mono hV.size)
      have g := GT.out _ bq
      exact ⟨HB4.out.trans (bq.mono HB4.out.size), cellOf g.1 0, cellOf g.1 1, cellOf g.1 2, cellOf g.1 3, cellOf g.2.2.1 4⟩ : Below w.heap.size w (V.alloc q) ∧ (V.alloc q).cell? ⟨w.heap.size, 0, none⟩ = some (.slice ra rn rc) ∧ (V.alloc q).cell? ⟨w.heap.size, 1, none⟩ = some (.slice ma mn mc) ∧ (V.alloc q).cell? ⟨w.heap.size, 2, none⟩ = some (.slice fa fn fc) ∧ (V.alloc q).cell? ⟨w.heap.size, 3, none⟩ = some (.slice ea en ec) ∧ (V.alloc q).cell? ⟨w.heap.size + 2, 4, none⟩ = some (.int .i64 ok)))
    have AG := hid (fun (V V2 : World) (hV : Below W0.heap.size W0 V) (h2 : Below (V.alloc (.cells #[.string nm, .int .u8 sd, .int .u8 sa, .int .u8 sb, .int .u8 sk] 81)).heap.size (V.alloc (.cells #[.string nm, .int .u8 sd, .int .u8 sa, .int .u8 sb, .int .u8 sk] 81)) V2) (q : Obj) => (by
      have bq := hV.trans (((Below.refl _ V).alloc (Nat.le_refl _) (.cells #[.string nm, .int .u8 sd, .int .u8 sa, .int .u8 sb, .int .u8 sk] 81)).mono hV.size)
      have b2 := bq.trans (h2.mono bq.size)
      have b3 := b2.trans (((Below.refl _ V2).alloc (Nat.le_refl _) q).mono b2.size)
      have g := (GT.out _ b3).2.2.1
      have hs1 : V2.heap[V.heap.size]? = some (.cells #[.string nm, .int .u8 sd, .int .u8 sa, .int .u8 sb, .int .u8 sk] 81 (0, 0)) := (h2.block _ (by rw [World.size_alloc]; omega)).trans (heap_alloc_new V _)
      have hs2 := (Below.heap_alloc V2 q _ (lt_of_heap hs1)).trans hs1
      exact ⟨b3, ⟨cellOf g 0, cellOf g 1, cellOf g 2, cellOf g 3, cellOf g 4⟩, cellOf hs2 0, cellOf hs2 1, cellOf hs2 2, cellOf hs2 3, cellOf hs2 4⟩ : Below W0.heap.size W0 (V2.alloc q) ∧ ((V2.alloc q).cell? ⟨w.heap.size + 2, 0, none⟩ = some (.int .i64 oc) ∧ (V2.alloc q).cell? ⟨w.heap.size + 2, 1, none⟩ = some (.int .i64 od) ∧ (V2.alloc q).cell? ⟨w.heap.size + 2, 2, none⟩ = some (.int .i64 oaa) ∧ (V2.alloc q).cell? ⟨w.heap.size + 2, 3, none⟩ = some (.int .i64 ob) ∧ (V2.alloc q).cell? ⟨w.heap.size + 2, 4, none⟩ = some (.int .i64 ok)) ∧ (V2.alloc q).cell? ⟨V.heap.size, 0, none⟩ = some (.string nm) ∧ (V2.alloc q).cell? ⟨V.heap.size, 1, none⟩ = some (.int .u8 sd) ∧ (V2.alloc q).cell? ⟨V.heap.size, 2, none⟩ = some (.int .u8 sa) ∧ (V2.alloc q).cell? ⟨V.heap.size, 3, none⟩ = some (.int .u8 sb) ∧ (V2.alloc q).cell? ⟨V.heap.size, 4, none⟩ = some (.int .u8 sk)))
    gi_wp2_with (refine ⟨trivial, ?_⟩; first
      | (gi_at_call 24; (rw [← hA1, ← hA2, ← hA3, ← hW0]; refine (callsIn_wide.2 (Hid.out KS)).mono ?_; rintro e w1 ⟨rfl, hb1⟩; have HB1 := hid hb1; have HA1 := hid (fun q => (AF.out w1 hb1 q).1); have y0 := fun q => (AF.out w1 hb1 q).2.1; have y1 := fun q => (AF.out w1 hb1 q).2.2.1; have y2 := fun q => (AF.out w1 hb1 q).2.2.2.1; have y3 := fun q => (AF.out w1 hb1 q).2.2.2.2.1; have y4 := fun q => (AF.out w1 hb1 q).2.2.2.2.2; clear hb1))
      | (gi_at_call 25; (refine (callsIn_wide.2 (KR.out _ (HA1.out _))).mono ?_; rintro e w2 ⟨rfl, hb2⟩; have HG := hid (AG.out w1 w2 HB1.out hb2); have u0 := fun q => (HG.out q).2.1.1; have u1 := fun q => (HG.out q).2.1.2.1; have u2 := fun q => (HG.out q).2.1.2.2.1; have u3 := fun q => (HG.out q).2.1.2.2.2.1; have u4 := fun q => (HG.out q).2.1.2.2.2.2; have v0 := fun q => (HG.out q).2.2.1; have v1 := fun q => (HG.out q).2.2.2.1; have v2 := fun q => (HG.out q).2.2.2.2.1; have v3 := fun q => (HG.out q).2.2.2.2.2.1; have v4 := fun q => (HG.out q).2.2.2.2.2.2; clear hb2 y0 y1 y2 y3 y4))
      | (gi_at_call 26; (refine (KF.out _).mono ?_; rintro e w3 ⟨rfl, rfl⟩; clear u0 u1 u2 u3 u4 v0 v1 v2 v3 v4)))
    obtain ⟨V, hV⟩ : ∃ V, V = ((w2.alloc (.cells #[.int .i64 len] 3)).alloc (.cells #[.string nm, .int .u8 sd, .int .u8 sa, .int .u8 sb, .int .u8 sk] 81)).alloc (.cells #[.int .i64 oc, .int .i64 od, .int .i64 oaa, .int .i64 ob, .int .i64 ok] 41) := ⟨_, rfl⟩
    rw [← hV]
    have bL := (HG.out (.cells #[.int .i64 len] 3)).1
    have bV : Below W0.heap.size W0 V := by rw [hV]; exact (bL.alloc bL.size _).alloc (by rw [World.size_alloc]; have := bL.size; omega) _
    have mlen : V.heap[w2.heap.size]? = some (.cells #[.int .i64 len] 3 (0, 0)) := by
      rw [hV, Below.heap_alloc _ _ _ (by simp; omega), Below.heap_alloc _ _ _ (by simp)]; exact heap_alloc_new w2 _
    have ms : V.heap[w2.heap.size + 1]? = some (.cells #[.string nm, .int .u8 sd, .int .u8 sa, .int .u8 sb, .int .u8 sk] 81 (0, 0)) := by
      rw [hV, Below.heap_alloc _ _ _ (by simp)]
      have := heap_alloc_new (w2.alloc (.cells #[.int .i64 len] 3)) (.cells #[.string nm, .int .u8 sd, .int .u8 sa, .int .u8 sb, .int .u8 sk] 81)
      rw [World.size_alloc] at this; exact this
    have mo : V.heap[w2.heap.size + 1 + 1]? = some (.cells #[.int .i64 oc, .int .i64 od, .int .i64 oaa, .int .i64 ob, .int .i64 ok] 41 (0, 0)) := by
      have := heap_alloc_new ((w2.alloc (.cells #[.int .i64 len] 3)).alloc (.cells #[.string nm, .int .u8 sd, .int .u8 sa, .int .u8 sb, .int .u8 sk] 81)) (.cells #[.int .i64 oc, .int .i64 od, .int .i64 oaa, .int .i64 ob, .int .i64 ok] 41)
      rw [World.size_alloc, World.size_alloc] at this; rw [hV]; exact this
    have zV : w2.heap.size + 1 + 1 < V.heap.size := lt_of_heap mo
    have bwV : Below w.heap.size w V := HB4.out.trans (bV.mono HB4.out.size)
    have hseq := SQ.out V (w2.heap.size + 1) ms mo
    have GV : Hid (∀ W : World, Below V.heap.size V W → (W.heap[w.heap.size]? = some (.cells #[.slice ra rn rc, .slice ma mn mc, .slice fa fn fc, .slice ea en ec, .slice ia inn ic, .slice ta tn tc, .slice ga gn gc, .slice ha hn hc] 52 (0, 0)) ∧ W.heap[w.heap.size + 1]? = some (.cells #[.int .i64 regs, .slice oa on ocp] 73 (0, 0)) ∧ W.heap[w.heap.size + 3]? = some (.cells #[.bool false] 4 (0, 0))) ∧ W.heap[w2.heap.size]? = some (.cells #[.int .i64 len] 3 (0, 0)) ∧ Below w.heap.size w W) := hid (fun W h => by
      have g := GT.out W (bV.trans (h.mono bV.size))
      exact ⟨⟨g.1, g.2.1, g.2.2.2⟩, (h.block _ (lt_of_heap mlen)).trans mlen, bwV.trans (h.mono bwV.size)⟩)
    have hwV : w.heap.size + 3 < V.heap.size := by have := bV.size; have := HZ.out; omega
    clear hA1 hA2 hA3 hW0 hV bL mlen ms mo bV bwV KS KR KF SQ GT AF AG HB1 HA1 HG
    refine range_go2 hro (by omega) (gf := 74) (lb := #[.pointer (some ⟨w2.heap.size + 1, 0, none⟩), .pointer (some ⟨w2.heap.size + 1 + 1, 0, none⟩)]) rfl trivial (enters_of Try.func74 (by kernel_rfl) rfl) (enc1 := fun x => .int .u8 (fl ⟨nm, sd, sa, sb, sk⟩ ⟨oc, od, oaa, ob, ok⟩ x).1) (enc2 := fun x => .int .i64 (fl ⟨nm, sd, sa, sb, sk⟩ ⟨oc, od, oaa, ob, ok⟩ x).2) hseq K2_r K2_t (K2_b (by omega)) (BI V okf) (BX w V (w.heap.size + 3) okf) (BI_own V okf) (fun c => BX_own w V _ okf (by omega) c) ⟨Below.refl _ _, by simp⟩ ?round ?done ?stop
    case round =>
      intro ll x W K hK
      have HKK := hid hK
      clear hK
      have HOK := hid (OKD.out x)
      generalize fl ⟨nm, sd, sa, sb, sk⟩ ⟨oc, od, oaa, ob, ok⟩ x = fx at HOK ⊢
      obtain ⟨rx, nx⟩ := fx
      simp only [List.setIfInBounds_toArray, List.set_cons_zero, List.set_cons_succ] at HOK ⊢
      gi_wp2
      refine HKK.out _ ?_
      clear HKK K W ll hseq
      intro l' pre W' hl hrr hi hlt
      have KBx := hid (KB.out W' rx len LBk.out.1 LBk.out.2)
      obtain ⟨lo, hi', hb⟩ : ∃ lo hi', bn rx len = (lo, hi') := ⟨_, _, rfl⟩
      simp only [hb] at KBx HOK
      obtain ⟨⟨g0, g1, g3⟩, gl, gb⟩ := GV.out W' hi.1
      have c0 := cellOf g0 0
      have c1 := cellOf g0 1
      have c2 := cellOf g0 2
      have c3 := cellOf g0 3
      have c4 := cellOf g0 4
      have c5 := cellOf g0 5
      have c6 := cellOf g0 6
      have c7 := cellOf g0 7
      have e0 := cellOf g1 0
      have e1 := cellOf g1 1
      have cl := cellOf gl 0
      simp only [List.getElem?_toArray, List.getElem?_cons_zero, List.getElem?_cons_succ] at c0 c1 c2 c3 c4 c5 c6 c7 e0 e1 cl
      have HI := hid hi
      have hsz : V.heap.size ≤ W'.heap.size := hi.1.size
      clear g0 g1 g3 gl hrr hi hb KB LBk OKD
      cases hq : okf x with
      | true =>
        have hin : ¬ nx < lo ∧ ¬ hi' < nx := by
          have := HOK.out; rw [hq] at this; unfold inB at this; simp at this; omega
        obtain ⟨n1, n2⟩ := hin
        gi_wp2_with (refine ⟨trivial, ?_⟩; gi_at_call 149; (refine (CallsIn.inRound l' (callsIn_wide.2 (Hid.out KBx))).mono ?_; rintro e w8 ⟨rfl, hb8⟩))
        exact ⟨keepsFrom_below hb8, K2_of hb8 (by omega), HI.out.snoc hq hb8⟩
      | false =>
        have hin : nx < lo ∨ (¬ nx < lo ∧ hi' < nx) := by
          have := HOK.out; rw [hq] at this; unfold inB at this; simp at this; omega
        have FIN : Hid (∀ w8 : World, Below W'.heap.size W' w8 → w8.cell? ⟨w.heap.size + 3, 0, none⟩ = some (.bool false) ∧ w8.frozen? ⟨w.heap.size + 3, 0, none⟩ = false ∧ KeepsFrom V.heap.size W' (w8.setCell ⟨w.heap.size + 3, 0, none⟩ (.bool false)) ∧ BX w V (w.heap.size + 3) okf .ret (pre ++ [x]) (w8.setCell ⟨w.heap.size + 3, 0, none⟩ (.bool false))) := hid (fun w8 hb8 => by
          obtain ⟨⟨_, _, g3⟩, _, gb⟩ := GV.out w8 (HI.out.1.trans (hb8.mono HI.out.1.size))
          exact ⟨cellOf g3 0, freeOf g3 0, (keepsFrom_below hb8).trans ((KeepsOthers.setCell _ _ _).from _), rfl, ⟨_, List.mem_append.2 (.inr (List.mem_singleton.2 rfl)), hq⟩, set_cells g3 _, gb.setCell (p := ⟨w.heap.size + 3, 0, none⟩) (by show w.heap.size ≤ w.heap.size + 3; omega) _⟩)
        rcases hin with n1 | ⟨n1, n2⟩
        · gi_wp2_with (refine ⟨trivial, ?_⟩; gi_at_call 149; (refine (CallsIn.inRound l' (callsIn_wide.2 (Hid.out KBx))).mono ?_; rintro e w8 ⟨rfl, hb8⟩; have g6 := (FIN.out w8 hb8).1; have g7 := (FIN.out w8 hb8).2.1))
          exact (FIN.out w8 hb8).2.2
        · gi_wp2_with (refine ⟨trivial, ?_⟩; gi_at_call 149; (refine (CallsIn.inRound l' (callsIn_wide.2 (Hid.out KBx))).mono ?_; rintro e w8 ⟨rfl, hb8⟩; have g6 := (FIN.out w8 hb8).1; have g7 := (FIN.out w8 hb8).2.1))
          exact (FIN.out w8 hb8).2.2
    case done =>
      rintro D' ys W hD rfl hI hK
      have HI := hid hI
      have HK := hid hK
      obtain ⟨⟨_, _, g3⟩, _, gb⟩ := GV.out W hI.1
      have g6 := cellOf g3 0
      have g7 := freeOf g3 0
      have hresT := hid (hOKA.out hI.2)
      have G3 := hid g3
      have GB := hid gb
      clear hseq hI hK g3 gb
      gi_wp2
      have hK' : (W.setCell ⟨w.heap.size + 3, 0, none⟩ (.bool true)).heap[D']? = some (.deferred (some [])) := (Below.heap_setCell _ _ _ _ (by show D' ≠ w.heap.size + 3; omega)).trans HK.out
      have h9 := keep_cells (B := 0) (set_cells G3.out (.bool true)) (grownBy_putObj' _ D' (.deferred none)) (fun r e => by cases e; exact ⟨Nat.zero_le _, _, hK', rfl⟩)
      have h10 : Below w.heap.size w ((W.setCell ⟨w.heap.size + 3, 0, none⟩ (.bool true)).putObj D' (.deferred none)) := ownFrom_below (β := Unit) (Nat.le_refl _) (Nat.le_refl _) () _ _ _ (GB.out.setCell (p := ⟨w.heap.size + 3, 0, none⟩) (by show w.heap.size ≤ w.heap.size + 3; omega) _) (grownBy_putObj' _ D' (.deferred none)) (fun r e => by cases e; exact ⟨by omega, _, hK', rfl⟩)
      have q5 := cellOf h9 0
      simp only [List.getElem?_toArray, List.getElem?_cons_zero] at q5
      refine ⟨by simp, .inl ⟨_, _, rfl, run_takeDeferred hK', ?_⟩⟩
      refine ⟨_, by simp [results, Try.results115, go_sem, q5]; rfl, ?_⟩
      exact ⟨by rw [hresT.out], h10⟩
    case stop =>
      rintro D' cc pre W hD ⟨kk, hkk⟩ ⟨rfl, ⟨x, hx, hx2⟩, h5, h6⟩ hK
      have hresF := hid (OKN.out x hx2)
      have HK := hid hK
      clear hseq hK
      gi_wp2
      have h9 := keep_cells (B := 0) h5 (grownBy_putObj' _ D' (.deferred none)) (fun r e => by cases e; exact ⟨Nat.zero_le _, _, HK.out, rfl⟩)
      have h10 : Below w.heap.size w (W.putObj D' (.deferred none)) := ownFrom_below (β := Unit) (Nat.le_refl _) (Nat.le_refl _) () _ _ _ h6 (grownBy_putObj' _ D' (.deferred none)) (fun r e => by cases e; exact ⟨by omega, _, HK.out, rfl⟩)
      have q5 := cellOf h9 0
      simp only [List.getElem?_toArray, List.getElem?_cons_zero] at q5
      refine ⟨by simp, .inl ⟨_, _, rfl, run_takeDeferred HK.out, ?_⟩⟩
      refine ⟨_, by simp [results, Try.results115, go_sem, q5]; rfl, ?_⟩
      exact ⟨by rw [hresF.out], h10⟩
end Go.Proofs.Ytmhjnfibpngpmaa

