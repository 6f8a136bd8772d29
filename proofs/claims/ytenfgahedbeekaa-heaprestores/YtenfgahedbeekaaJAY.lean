/- Snapshot of both sides, of whatever program and state. -/
import Derived.Test.YtenfgahedbeekaaJAX
import Derived.Deep.RegionHeld3
import Derived.BigQuiet
import Derived.Deep.DeepCutAuto
namespace Go.Proofs.Ytenfgahedbeekaa
open Go.RowKit Go.Deep Go.Shelf
set_option linter.unusedVariables false
set_option linter.unusedSimpArgs false

theorem stV_pl {k : Nat} {p : Pg} {ms : List (Sl × Rw (k + 2))} (h : stV k p (ms.map (·.2)) = true) : ∀ m ∈ ms, m.2.length ≤ 24 ∧ ∀ q ∈ m.2, plV k q.1 = true ∧ plV k q.2 = true := by
  intro m hm
  unfold stV at h
  simp only [Bool.and_eq_true, decide_eq_true_eq, List.all_eq_true, List.mem_range] at h
  obtain ⟨⟨_, hl⟩, ha⟩ := h
  obtain ⟨i, hi, hmi⟩ := List.mem_iff_getElem.1 hm
  have hi2 : i < p.maps.length := by rw [← hl, List.length_map]; exact hi
  have h1 := ha i hi2
  unfold mpV at h1
  rw [List.getElem?_eq_getElem hi2, List.getElem?_map, List.getElem?_eq_getElem hi, hmi] at h1
  simp only [Option.map_some] at h1
  unfold mapV at h1
  simp only [Bool.and_eq_true, decide_eq_true_eq, List.all_eq_true, List.mem_range] at h1
  refine ⟨h1.1, fun q hq => ?_⟩
  obtain ⟨j, hj, hqj⟩ := List.mem_iff_getElem.1 hq
  have h2 := h1.2 j hj
  unfold entV at h2
  rw [List.getElem?_eq_getElem hj, hqj] at h2
  simp only [Bool.and_eq_true] at h2
  obtain ⟨⟨a, b⟩, _⟩ := h2
  unfold isV isB at a b
  simp only [Bool.and_eq_true] at a b
  exact ⟨a.1.1.2, b.1.1.2⟩
def SnP (k : Nat) (w : World) (p : Pg) (ms : List (Sl × Rw (k + 2))) (e : Ending) (w' : World) : Prop :=
  Below w.heap.size w w' ∧ ∃ v', e = .returned (.tuple #[v', .int .i64 (if stV k p (ms.map (·.2)) then 0 else 40)]) ∧ Row w' w.heap.size v' (if stV k p (ms.map (·.2)) then encSt k (ms.map (·.2)) else [])
theorem heapSnap_any (k : Nat) (w : World) (g : PH) (p : Pg) (d : PRd w g p) (sa : Option Addr) (sn sc : Nat) (ms : List (Sl × Rw (k + 2))) (hs : StR (k + 2) w sa sn ms) :
    Calls Try.prog 31 #[g.v, .agg #[.slice sa sn sc]] w (SnP k w p ms) := by
  obtain ⟨ra, rn, rc, ma, mn, mc, fa, fn, fc, ea, en, ec⟩ := g
  exact snap31 k w ra ma fa ea sa rn rc mn mc fn fc en ec sn sc ms hs _ (fun w1 hb => heapIs_any k w1 _ p (d.below (Nat.le_refl _) hb) sa sn sc ms (hs.below (Nat.le_refl _) hb)) stV_pl
theorem encN_byt {k : Nat} {q : VT (k + 2) × VT (k + 2)} (h : plV k q.1 = true ∧ plV k q.2 = true) : Byt (encN k q) := (encW_byt h.1).append (encW_byt h.2)
theorem encSt_byt {k : Nat} {p : Pg} {ms : List (Sl × Rw (k + 2))} (h : stV k p (ms.map (·.2)) = true) : Byt (encSt k (ms.map (·.2))) := by
  have h1 := stV_pl h
  intro x hx
  simp only [encSt, List.mem_flatMap, List.mem_map] at hx
  obtain ⟨r, ⟨m, hm, rfl⟩, hx⟩ := hx
  unfold encRw at hx
  rcases List.mem_append.1 hx with hx | hx
  · exact enc_byt _ x hx
  · simp only [List.mem_flatMap] at hx
    obtain ⟨q, hq, hx⟩ := hx
    exact encN_byt ((h1 m hm).2 q hq) x hx
end Go.Proofs.Ytenfgahedbeekaa

namespace Go.Proofs.Ytenfgahedbeekaa
open Go.RowKit Go.Deep Go.Shelf
set_option linter.unusedVariables false
set_option linter.unusedSimpArgs false

def pj (h : Hd) : Hd := ⟨h.kind, h.int, h.text, h.rc, none, h.n, h.n⟩
theorem all_pj (fs : List Hd) : (fs.map pj).all simpleB = fs.all simpleB := by
  rw [List.all_map]; rfl
theorem fieldsAre_pj (r : Rc) (fs : List Hd) : fieldsAre r (fs.map pj) = fieldsAre r fs := by
  unfold fieldsAre
  rw [List.length_map]
  congr 1
  refine congrArg (fun f => (List.range r.fields.length).all f) (funext fun i => ?_)
  rw [List.getElem?_map, Option.map_map]; rfl
theorem plainB_pj (h : Hd) (fs : List Hd) : plainB (pj h) (fs.map pj) = plainB h fs := by
  unfold plainB
  rw [all_pj]; rfl
theorem isB_pj (p : Pg) (t : TyP) (h : Hd) (fs : List Hd) : isB p t (pj h) (fs.map pj) = isB p t h fs := by
  unfold isB
  rw [plainB_pj]
  congr 1
  split
  · congr 1
    congr 1
    funext x
    exact fieldsAre_pj x.2 fs
  · rfl
structure WF (v : VT 3) : Prop where
  n : v.1.n = v.2.length
  c : ∀ u ∈ v.2, (hdT 2 u).n = u.2.length
def can (v : VT 3) : VT 3 := toT 3 (ofT 3 v)
theorem can_hd (v : VT 3) (h : v.1.n = v.2.length) : (can v).1 = pj v.1 := by
  show (⟨v.1.kind, v.1.int, v.1.text, v.1.rc, none, (v.2.map (ofT 2)).length, (v.2.map (ofT 2)).length⟩ : Hd) = pj v.1
  rw [List.length_map, ← h]; rfl
theorem can_fs (v : VT 3) (h : ∀ u ∈ v.2, (hdT 2 u).n = u.2.length) : (can v).2.map (hdT 2) = (v.2.map (hdT 2)).map pj := by
  show ((v.2.map (ofT 2)).map (toT 2)).map (hdT 2) = (v.2.map (hdT 2)).map pj
  rw [List.map_map, List.map_map, List.map_map]
  refine List.map_congr_left (fun u hu => ?_)
  show (⟨u.1.kind, u.1.int, u.1.text, u.1.rc, none, (u.2.map (ofT 1)).length, (u.2.map (ofT 1)).length⟩ : Hd) = pj u.1
  rw [List.length_map, ← h u hu]; rfl
theorem isV_can (p : Pg) (t : TyP) (v : VT 3) (h : WF v) : isV 1 p t (can v) = isV 1 p t v := by
  show isB p t (can v).1 ((can v).2.map (hdT 2)) = isB p t v.1 (v.2.map (hdT 2))
  rw [can_hd v h.n, can_fs v h.c, isB_pj]
theorem cmp_can (s t : VT 3) : cmpT 3 (can s) (can t) = cmpT 3 s t := by
  unfold can
  rw [← cmpC_of, of_toT, of_toT, cmpC_of]
def canP (q : VT 3 × VT 3) : VT 3 × VT 3 := (can q.1, can q.2)
def WFr (r : Rw 3) : Prop := ∀ q ∈ r, WF q.1 ∧ WF q.2
def WFs (rows : List (Rw 3)) : Prop := ∀ r ∈ rows, WFr r
theorem entV_can (p : Pg) (m : Mp) (row : Rw 3) (h : WFr row) (i : Nat) : entV 1 p m (row.map canP) i = entV 1 p m row i := by
  unfold entV
  rw [List.getElem?_map]
  cases h1 : row[i]? with
  | none => rfl
  | some q =>
    have hq := h q (List.mem_of_getElem? h1)
    simp only [Option.map_some, canP, isV_can _ _ _ hq.1, isV_can _ _ _ hq.2]
    rw [List.getElem?_map]
    cases h2 : row[i - 1]? with
    | none => rfl
    | some o =>
      simp only [Option.map_some, canP]
      rw [show cmpT (1 + 2) (can o.1) (can q.1) = cmpT (1 + 2) o.1 q.1 from cmp_can _ _]
theorem mapV_can (p : Pg) (m : Mp) (row : Rw 3) (h : WFr row) : mapV 1 p m (row.map canP) = mapV 1 p m row := by
  unfold mapV
  rw [List.length_map]
  congr 1
  exact congrArg (fun f => (List.range row.length).all f) (funext (entV_can p m row h))
theorem stV_can (p : Pg) (rows : List (Rw 3)) (h : WFs rows) : stV 1 p (rows.map fun r => r.map canP) = stV 1 p rows := by
  unfold stV
  rw [List.length_map]
  congr 1
  refine congrArg (fun f => (List.range p.maps.length).all f) (funext fun i => ?_)
  unfold mpV
  rw [List.getElem?_map]
  cases h1 : p.maps[i]? with
  | none => rfl
  | some m =>
    cases h2 : rows[i]? with
    | none => rfl
    | some r => simp only [Option.map_some, mapV_can p m r (h r (List.mem_of_getElem? h2))]
/- What a state holds tells its bytes, and whether it is one. -/
def ctS (rows : List (Rw 3)) : List (RC 3) := rows.map (rowC 3)
def toS (C : List (RC 3)) : List (Rw 3) := C.map fun r => r.map fun c => (toT 3 c.1, toT 3 c.2)
theorem toS_ct (rows : List (Rw 3)) : toS (ctS rows) = rows.map fun r => r.map canP := by
  unfold toS ctS
  rw [List.map_map]
  refine List.map_congr_left (fun r _ => ?_)
  show ((r.map (ofP 3)).map fun c => (toT 3 c.1, toT 3 c.2)) = r.map canP
  rw [List.map_map]; rfl
theorem stV_ct {p : Pg} {rows rows' : List (Rw 3)} (h : WFs rows) (h' : WFs rows') (e : ctS rows = ctS rows') : stV 1 p rows = stV 1 p rows' := by
  rw [← stV_can p rows h, ← stV_can p rows' h', ← toS_ct, ← toS_ct, e]
theorem Rds.wf {w : World} {v : VT 3} (h : Rds 3 w v) : WF v := ⟨h.2.1, fun u hu => (h.2.2.2.2 u hu).2.1⟩
theorem StR.wf {w : World} {a : Option Addr} {n : Nat} {ms : List (Sl × Rw 3)} (h : StR 3 w a n ms) : WFs (ms.map (·.2)) := fun r hr q hq => by
  simp only [List.mem_map] at hr
  obtain ⟨m, hm, rfl⟩ := hr
  exact ⟨((h.el m hm).1.el q hq).1.wf, ((h.el m hm).1.el q hq).2.wf⟩
/- Back: what was read has just these bytes. -/
end Go.Proofs.Ytenfgahedbeekaa

namespace Go.Proofs.Ytenfgahedbeekaa
open Go.RowKit Go.Deep Go.Shelf
set_option linter.unusedVariables false
set_option linter.unusedSimpArgs false

theorem goD_fwd {α β : Type} {D : List Nat → Option (α × Nat)} {E : β → List Nat} {V : β → α} : ∀ (ys : List β), (∀ y ∈ ys, ∀ more, D (E y ++ more) = some (V y, (E y).length)) →
    ∀ (pre more : List Nat) (acc : List α), goD D (pre ++ (ys.flatMap E ++ more)) ys.length pre.length acc = some (acc ++ ys.map V, pre.length + (ys.flatMap E).length)
  | [], _, pre, more, acc => by simp [goD]
  | y :: ys, h, pre, more, acc => by
    have h1 := h y (List.mem_cons_self ..) (ys.flatMap E ++ more)
    have hd : (pre ++ ((y :: ys).flatMap E ++ more)).drop pre.length = E y ++ (ys.flatMap E ++ more) := by
      rw [List.drop_left', List.flatMap_cons, List.append_assoc]
      rfl
    have ih := goD_fwd ys (fun y hy => h y (List.mem_cons_of_mem _ hy)) (pre ++ E y) more (acc ++ [V y])
    have e1 : pre ++ ((y :: ys).flatMap E ++ more) = (pre ++ E y) ++ (ys.flatMap E ++ more) := by rw [List.flatMap_cons, List.append_assoc, List.append_assoc]
    simp only [List.length_cons, goD, hd, h1]
    rw [e1, show pre.length + (E y).length = (pre ++ E y).length by rw [List.length_append], ih]
    simp [Nat.add_assoc]
def vlT (v : VT 3) : Vl := vlOf v.1 (v.2.map (hdT 2))
def vlQ (q : VT 3 × VT 3) : Vl × Vl := (vlT q.1, vlT q.2)
structure Gd (v : VT 3) : Prop where
  hin : v.1.In
  wf : WF v
  fin : ∀ f ∈ v.2.map (hdT 2), f.In
  pl : plV 1 v = true
theorem valD_T {v : VT 3} (g : Gd v) (more : List Nat) : valD (encW 1 v ++ more) = some (vlT v, (encW 1 v).length) :=
  valD_encV g.hin (by rw [g.wf.n, List.length_map]) g.fin g.pl more
theorem entD_Q {q : VT 3 × VT 3} (h1 : Gd q.1) (h2 : Gd q.2) (more : List Nat) : entD (encN 1 q ++ more) = some (vlQ q, (encN 1 q).length) := by
  unfold entD encN
  rw [List.append_assoc, valD_T h1]
  simp only
  rw [List.drop_left', valD_T h2]
  · simp only [List.length_append]; rfl
  · rfl
theorem rwD_R {r : Rw 3} (h24 : r.length ≤ 24) (h : ∀ q ∈ r, Gd q.1 ∧ Gd q.2) (more : List Nat) : rwD (encRw 1 r ++ more) = some (r.map vlQ, (encRw 1 r).length) := by
  unfold rwD encRw
  rw [List.append_assoc, dec_enc r.length _ (by omega)]
  simp only
  rw [if_neg (by omega)]
  have := goD_fwd (D := entD) (E := encN 1) (V := vlQ) r (fun q hq more => entD_Q (h q hq).1 (h q hq).2 more) (enc r.length) more []
  rw [this]
  simp
theorem ct_T {v : VT 3} (g : Gd v) : ofT 3 (tvl (vlT v)) = ofT 3 v := by
  have hp := g.pl
  unfold plV at hp
  have hw := g.wf
  obtain ⟨h, us⟩ := v
  by_cases hk : h.kind = 4
  · have hp' : plainB h (us.map (hdT 2)) = true := hp
    rw [plainB_rec hk] at hp'
    simp only [Bool.and_eq_true, decide_eq_true_eq] at hp'
    have hall := hp'.2
    show ((ofH (hdOf (vlT (h, us)))), ((vlT (h, us)).fs.map fl).map (ofT 2)) = (ofH h, us.map (ofT 2))
    have e1 : (vlT (h, us)).fs = (us.map (hdT 2)).map flatH := by
      show (if h.kind = 4 then (us.map (hdT 2)).map flatH else []) = _
      rw [if_pos hk]
    rw [e1]
    refine Prod.ext rfl ?_
    simp only [List.map_map]
    refine List.map_congr_left (fun u hu => ?_)
    have hs := List.all_eq_true.1 hall (hdT 2 u) (List.mem_map.2 ⟨u, hu, rfl⟩)
    obtain ⟨r0, n0, _⟩ := simpleB_cases hs
    have hn := hw.c u hu
    obtain ⟨uh, uu⟩ := u
    have hu0 : uu = [] := List.eq_nil_of_length_eq_zero (hn.symm.trans n0)
    subst hu0
    show ((⟨uh.kind, uh.int, uh.text, 0⟩ : C4), ([] : List (CT 1))) = ((⟨uh.kind, uh.int, uh.text, uh.rc⟩ : C4), ([] : List (CT 1)))
    have r0' : uh.rc = 0 := r0
    rw [r0']
  · have hp' : plainB h (us.map (hdT 2)) = true := hp
    unfold plainB at hp'
    rw [if_neg hk] at hp'
    obtain ⟨r0, n0, _⟩ := simpleB_cases hp'
    have hn := hw.n
    have hu0 : us = [] := List.eq_nil_of_length_eq_zero (hn.symm.trans n0)
    subst hu0
    show ((ofH (hdOf (vlT (h, [])))), ((vlT (h, [])).fs.map fl).map (ofT 2)) = (ofH h, [])
    have e1 : (vlT (h, [])).fs = [] := by
      show (if h.kind = 4 then _ else []) = _
      rw [if_neg hk]
    rw [e1]
    rfl
theorem wf_T (v : VT 3) : WF (tvl (vlT v)) := ⟨(List.length_map (f := fl)).symm, fun u hu => by
  have hu' : u ∈ (vlT v).fs.map fl := hu
  obtain ⟨f, hf, rfl⟩ := List.mem_map.1 hu'
  have hf' : f ∈ (if v.1.kind = 4 then (v.2.map (hdT 2)).map flatH else []) := hf
  split at hf'
  · obtain ⟨f', _, rfl⟩ := List.mem_map.1 hf'
    rfl
  · cases hf'⟩
theorem resD_fwd {p : Pg} {rows : List (Rw 3)} (hs : stV 1 p rows = true) (h24 : ∀ r ∈ rows, r.length ≤ 24) (hg : ∀ r ∈ rows, ∀ q ∈ r, Gd q.1 ∧ Gd q.2) :
    ∃ X, resD p (encSt 1 rows) = some X ∧ ctS (rowsT X) = ctS rows := by
  have hwf : WFs rows := fun r hr q hq => ⟨(hg r hr q hq).1.wf, (hg r hr q hq).2.wf⟩
  have hlen : rows.length = p.maps.length := by
    unfold stV at hs
    simp only [Bool.and_eq_true, decide_eq_true_eq] at hs
    exact hs.1.2
  have h1 := goD_fwd (D := rwD) (E := encRw 1) (V := fun r => r.map vlQ) rows (fun r hr more => rwD_R (h24 r hr) (hg r hr) more) [] [] []
  simp only [List.nil_append, List.append_nil, List.length_nil, Nat.zero_add] at h1
  have hct : ctS (rowsT (rows.map fun r => r.map vlQ)) = ctS rows := by
    unfold ctS rowsT
    rw [List.map_map, List.map_map]
    refine List.map_congr_left (fun r hr => ?_)
    show ((r.map vlQ).map tvlP).map (ofP 3) = r.map (ofP 3)
    rw [List.map_map, List.map_map]
    refine List.map_congr_left (fun q hq => ?_)
    show (ofT 3 (tvl (vlT q.1)), ofT 3 (tvl (vlT q.2))) = (ofT 3 q.1, ofT 3 q.2)
    rw [ct_T (hg r hr q hq).1, ct_T (hg r hr q hq).2]
  have hwt : WFs (rowsT (rows.map fun r => r.map vlQ)) := fun r hr q hq => by
    unfold rowsT at hr
    simp only [List.mem_map] at hr
    obtain ⟨r1, ⟨r2, _, rfl⟩, rfl⟩ := hr
    simp only [List.mem_map] at hq
    obtain ⟨e, ⟨q2, _, rfl⟩, rfl⟩ := hq
    exact ⟨wf_T _, wf_T _⟩
  refine ⟨rows.map fun r => r.map vlQ, ?_, hct⟩
  unfold resD
  rw [← hlen]
  have h2 : goD rwD (encSt 1 rows) rows.length 0 [] = some (rows.map fun r => r.map vlQ, (encSt 1 rows).length) := h1
  rw [h2]
  unfold resOf
  simp only
  rw [if_pos ⟨trivial, by rw [stV_ct hwt hwf hct]; exact hs⟩]
theorem Rds.gd {w : World} {v : VT 3} (h : Rds 3 w v) (hp : plV 1 v = true) : Gd v := ⟨h.1, h.wf, h.fin, hp⟩
theorem state_fwd {p : Pg} {w : World} {a : Option Addr} {n : Nat} {ms : List (Sl × Rw 3)} (h : StR 3 w a n ms) (hs : stV 1 p (ms.map (·.2)) = true) :
    ∃ X, resD p (encSt 1 (ms.map (·.2))) = some X ∧ ctS (rowsT X) = ctS (ms.map (·.2)) := by
  have h1 := stV_pl hs
  refine resD_fwd hs (fun r hr => ?_) (fun r hr q hq => ?_)
  · simp only [List.mem_map] at hr
    obtain ⟨m, hm, rfl⟩ := hr
    exact (h1 m hm).1
  · simp only [List.mem_map] at hr
    obtain ⟨m, hm, rfl⟩ := hr
    have h2 := (h.el m hm).1.el q hq
    have h3 := (h1 m hm).2 q hq
    exact ⟨h2.1.gd h3.1, h2.2.gd h3.2⟩
/- What was restored. -/
theorem ct_nrm {ns : List (Sl × Rw 3)} {X : List (List (Vl × Vl))} (h : ns.map (fun q => q.2.map nrmP) = X.map (fun r => r.map tvlP)) : ctS (ns.map (·.2)) = ctS (rowsT X) := by
  unfold ctS rowsT
  rw [← h, List.map_map, List.map_map]
  refine List.map_congr_left (fun q _ => ?_)
  show q.2.map (ofP 3) = (q.2.map nrmP).map (ofP 3)
  rw [List.map_map]; rfl
theorem stB_ct (ps qs : List (Sl × Rw 3)) : stB 3 ps qs = true ↔ ctS (ps.map (·.2)) = ctS (qs.map (·.2)) := by
  rw [stB_iff]
  unfold ctS
  rw [List.map_map, List.map_map]
  rfl
end Go.Proofs.Ytenfgahedbeekaa

namespace Go.Proofs.Ytenfgahedbeekaa
open Go.RowKit Go.Deep Go.Shelf
set_option linter.unusedVariables false
set_option linter.unusedSimpArgs false

def SomM (n : Nat) (w : World) (e : Ending) (w' : World) : Prop := ∃ b : Bool, e = .returned (.bool b) ∧ (b = true → n ≤ 30) ∧ Below w.heap.size w w'
set_option maxRecDepth 100000 in
set_option maxHeartbeats 2000000 in
theorem plainM_any (w : World) (h : PH) (p : Pg) (d : PRd w h p) : Calls Try.prog 25 #[h.v] w (SomM h.mn w) := by
  have D := hid d
  have r2 := d.r.n2
  have m2 := d.m.n2
  have f2 := d.f.n2
  have e2 := d.e.n2
  have Hr := hid d.r.n1
  have Hf := hid d.f.n1
  have He := hid d.e.n1
  clear d
  obtain ⟨ra, rn, rc, ma, mn, mc, fa, fn, fc, ea, en, ec⟩ := h
  simp only [PH.v] at r2 m2 f2 e2 ⊢
  obtain ⟨W0, hW0⟩ : ∃ W0, W0 = w.alloc (.cells #[.slice ra rn rc, .slice ma mn mc, .slice fa fn fc, .slice ea en ec] 50) := ⟨_, rfl⟩
  have hb0 : Below w.heap.size w W0 := by rw [hW0]; exact (Below.refl _ _).alloc (Nat.le_refl _) _
  have bx0 : W0.heap[w.heap.size]? = some (.cells #[.slice ra rn rc, .slice ma mn mc, .slice fa fn fc, .slice ea en ec] 50 (0, 0)) := by rw [hW0]; exact heap_alloc_new w _
  have z0 : W0.cell? ⟨w.heap.size, 0, none⟩ = some (.slice ra rn rc) := cellOf bx0 0
  have z1 : W0.cell? ⟨w.heap.size, 1, none⟩ = some (.slice ma mn mc) := cellOf bx0 1
  have z2 : W0.cell? ⟨w.heap.size, 2, none⟩ = some (.slice fa fn fc) := cellOf bx0 2
  have z3 : W0.cell? ⟨w.heap.size, 3, none⟩ = some (.slice ea en ec) := cellOf bx0 3
  have HB := hid hb0
  have DW := hid (D.out.below (Nat.le_refl _) hb0)
  clear hb0 bx0 D
  go_enter Try.func25, Try.ntmps25
  go_wp2
  rw [← hW0]
  clear hW0
  go_loopg [3] rn (fun g ii wr => ∃ i : Nat, i + g = rn ∧ ii = .int .i64 (i : Int) ∧ wr = W0)
  case atStart => exact ⟨0, by omega, rfl, rfl⟩
  case round =>
    obtain ⟨i, hi', rfl, rfl⟩ := hrel
    have Hi := hid hi'
    cases gk with
    | zero =>
      have hin : i = rn := by omega
      clear hi'
      subst hin
      go_wp2
      go_loopg [4] fn (fun g ii wr2 => ∃ j : Nat, j + g = fn ∧ ii = .int .i64 (j : Int) ∧ wr2 = wr)
      case atStart => exact ⟨0, by omega, rfl, rfl⟩
      case round =>
        obtain ⟨j, hj', rfl, rfl⟩ := hrel
        have Hj := hid hj'
        cases gk with
        | zero =>
          have hjn : j = fn := by omega
          clear hj'
          subst hjn
          go_wp2
          go_loopg [5] en (fun g ii wr2 => ∃ l : Nat, l + g = en ∧ ii = .int .i64 (l : Int) ∧ wr2 = wr)
          case atStart => exact ⟨0, by omega, rfl, rfl⟩
          case round =>
            obtain ⟨l, hl', rfl, rfl⟩ := hrel
            have Hl := hid hl'
            cases gk with
            | zero =>
              have hln : l = en := by omega
              clear hl'
              subst hln
              rcases Nat.lt_or_ge 30 i with q1 | q1
              · have q1' : ¬ ((i : Int) ≤ 30) := by omega
                go_wp2
                go_ret
                exact ⟨_, rfl, by first | (intro hh; cases hh; done) | (intro _; omega), HB.out⟩
              · rcases Nat.lt_or_ge 30 mn with q2 | q2
                · have q2' : ¬ ((mn : Int) ≤ 30) := by omega
                  go_wp2
                  go_ret
                  exact ⟨_, rfl, by first | (intro hh; cases hh; done) | (intro _; omega), HB.out⟩
                · rcases Nat.lt_or_ge 30 j with q3 | q3
                  · have q3' : ¬ ((j : Int) ≤ 30) := by omega
                    go_wp2
                    go_ret
                    exact ⟨_, rfl, by first | (intro hh; cases hh; done) | (intro _; omega), HB.out⟩
                  · go_wp2
                    go_ret
                    exact ⟨_, rfl, by first | (intro hh; cases hh; done) | (intro _; omega), HB.out⟩
            | succ g =>
              have hlt : l < en := by omega
              clear hl'
              obtain ⟨p', hp⟩ : ∃ p', p.events[l]? = some p' := ⟨p.events[l]'(by rw [← show en = p.events.length from He.out]; exact hlt), by rw [List.getElem?_eq_getElem]⟩
              have el := DW.out.e.el p' (List.mem_of_getElem? hp)
              obtain ⟨b1, o1, ea', hb1, e1⟩ := DW.out.e.rd l p'.1.cs (by simp [hp])
              subst ea'
              have x1 := e1 1 (by omega)
              have hp2 := el.p2
              clear e1 el hp hb1
              obtain ⟨h, s⟩ := p'
              obtain ⟨nm, pa, pn, pc, k, r⟩ := h
              simp only [GH.cs, List.getElem?_cons_zero, List.getElem?_cons_succ] at x1 hp2
              rcases Nat.lt_or_ge 30 pn with q1 | q1
              · go_wp2
                go_ret
                exact ⟨_, rfl, by first | (intro hh; cases hh; done) | (intro _; omega), HB.out⟩
              · go_wp2
                go_roundg g
                case measure => omega
                case rel => exact ⟨l + 1, by have := Hl.out; omega, by go_num, rfl⟩
        | succ g =>
          have hlt : j < fn := by omega
          clear hj'
          obtain ⟨p', hp⟩ : ∃ p', p.funcs[j]? = some p' := ⟨p.funcs[j]'(by rw [← show fn = p.funcs.length from Hf.out]; exact hlt), by rw [List.getElem?_eq_getElem]⟩
          have el := DW.out.f.el p' (List.mem_of_getElem? hp)
          obtain ⟨b1, o1, ea', hb1, e1⟩ := DW.out.f.rd j p'.1.cs (by simp [hp])
          subst ea'
          have x1 := e1 1 (by omega)
          have hp2 := el.p2
          clear e1 el hp hb1
          obtain ⟨h, s⟩ := p'
          obtain ⟨nm, pa, pn, pc, k, r⟩ := h
          simp only [GH.cs, List.getElem?_cons_zero, List.getElem?_cons_succ] at x1 hp2
          rcases Nat.lt_or_ge 30 pn with q1 | q1
          · go_wp2
            go_ret
            exact ⟨_, rfl, by first | (intro hh; cases hh; done) | (intro _; omega), HB.out⟩
          · go_wp2
            go_roundg g
            case measure => omega
            case rel => exact ⟨j + 1, by have := Hj.out; omega, by go_num, rfl⟩
    | succ g =>
      have hlt : i < rn := by omega
      clear hi'
      obtain ⟨p', hp⟩ : ∃ p', p.recs[i]? = some p' := ⟨p.recs[i]'(by rw [← show rn = p.recs.length from Hr.out]; exact hlt), by rw [List.getElem?_eq_getElem]⟩
      have el := DW.out.r.el p' (List.mem_of_getElem? hp)
      obtain ⟨b1, o1, ea', hb1, e1⟩ := DW.out.r.rd i p'.1.cs (by simp [hp])
      subst ea'
      have x1 := e1 1 (by omega)
      have x2 := e1 2 (by omega)
      have hp2 := el.f2
      have hp3 := el.t2
      clear e1 el hp hb1
      obtain ⟨h, s⟩ := p'
      obtain ⟨nm, fa', fn', fc', ta, tn, tc⟩ := h
      simp only [RH.cs, List.getElem?_cons_zero, List.getElem?_cons_succ] at x1 x2 hp2 hp3
      rcases Nat.lt_or_ge 30 fn' with q1 | q1
      · go_wp2
        go_ret
        exact ⟨_, rfl, by first | (intro hh; cases hh; done) | (intro _; omega), HB.out⟩
      · rcases Nat.lt_or_ge 30 tn with q2 | q2
        · go_wp2
          go_ret
          exact ⟨_, rfl, by first | (intro hh; cases hh; done) | (intro _; omega), HB.out⟩
        · go_wp2
          go_roundg g
          case measure => omega
          case rel => exact ⟨i + 1, by have := Hi.out; omega, by go_num, rfl⟩
end Go.Proofs.Ytenfgahedbeekaa

namespace Go.Proofs.Ytenfgahedbeekaa
open Go.ChangeShapes Go.WideShapes Go.ChangeAt Go.RowKit Go.Deep
set_option linter.unusedVariables false
set_option linter.unusedSimpArgs false

structure Sp where
  what : Int
  m : Int
  key : Hd
  val : Hd
def Sp.cs (x : Sp) : List Value := [.int .i64 x.what, .int .i64 x.m, .int .i64 x.key.kind, .int .i64 x.key.int, .string x.key.text, .int .i64 x.key.rc, .slice x.key.a x.key.n x.key.cap, .int .i64 x.val.kind, .int .i64 x.val.int, .string x.val.text, .int .i64 x.val.rc, .slice x.val.a x.val.n x.val.cap]
def SpRd (w : World) (a : Option Addr) (ss : List Sp) : Prop := ∀ (j : Nat) (x : Sp), ss[j]? = some x → ∃ b off, a = some ⟨b, off, none⟩ ∧ ∀ i, i < 12 → w.cell? ⟨b, off + j * 12 + i, none⟩ = x.cs[i]?
theorem SpRd.below {w w' : World} {a ss B} (h : SpRd w a ss) (hB : w.heap.size ≤ B) (k : Below B w w') : SpRd w' a ss := by
  intro j x e
  obtain ⟨b, off, rfl, hc⟩ := h j x e
  refine ⟨b, off, rfl, fun i hi => ?_⟩
  have h1 := hc i hi
  have hl : x.cs.length = 12 := rfl
  have : ∃ v, x.cs[i]? = some v := ⟨x.cs[i]'(by omega), List.getElem?_eq_getElem _⟩
  obtain ⟨v, hv⟩ := this
  rw [hv] at h1 ⊢
  exact (k.cell (p := ⟨b, off + j * 12 + i, none⟩) (Nat.lt_of_lt_of_le (World.block_lt_of_cell? w _ h1) hB)).trans h1
section
variable {H : Type} {enc : TypeId × Value → H} {W : World}
end
end Go.Proofs.Ytenfgahedbeekaa

namespace Go.Proofs.Ytenfgahedbeekaa
open Go.RowKit Go.Deep Go.Shelf
set_option linter.unusedVariables false
set_option linter.unusedSimpArgs false

/- A state that came in. -/
structure EnD (w : World) (m : Sl × List En) : Prop where
  n1 : m.1.n = m.2.length
  n2 : m.1.n ≤ 9223372036854775807
  cap : m.1.n ≤ m.1.cap
  rd : ERd w m.1.a m.2
  el : ∀ e ∈ m.2, (∃ fs gs, Deep w e.key fs gs) ∧ (∃ fs gs, Deep w e.val fs gs)
structure StD (w : World) (a : Option Addr) (n : Nat) (ms : List (Sl × List En)) : Prop where
  n1 : n = ms.length
  n2 : n ≤ 9223372036854775807
  rd : MRd w a (ms.map (·.1))
  el : ∀ m ∈ ms, EnD w m
theorem EnD.below {w w' : World} {m : Sl × List En} {B : Nat} (h : EnD w m) (hB : w.heap.size ≤ B) (hb : Below B w w') : EnD w' m :=
  ⟨h.n1, h.n2, h.cap, h.rd.below hB hb, fun e he => by
    obtain ⟨⟨fs, gs, d⟩, ⟨fs2, gs2, d2⟩⟩ := h.el e he
    exact ⟨⟨fs, gs, d.below hB hb⟩, ⟨fs2, gs2, d2.below hB hb⟩⟩⟩
theorem StD.below {w w' : World} {a : Option Addr} {n : Nat} {ms : List (Sl × List En)} {B : Nat} (h : StD w a n ms) (hB : w.heap.size ≤ B) (hb : Below B w w') : StD w' a n ms :=
  ⟨h.n1, h.n2, h.rd.below hB hb, fun m hm => (h.el m hm).below hB hb⟩
def EnS (w : World) (m : Sl × List En) : Prop := m.2.length ≤ 30 ∧ ∀ e ∈ m.2, Sm w e.key ∧ Sm w e.val
def FsP (w : World) (ms : List (Sl × List En)) (e : Ending) : Prop := ∃ b, e = .returned (.bool b) ∧ (b = true → ms.length ≤ 20 ∧ ∀ m ∈ ms, EnS w m)
set_option maxRecDepth 100000 in
set_option maxHeartbeats 2000000 in
theorem fewS_any (w : World) (a : Option Addr) (n cap : Nat) (ms : List (Sl × List En)) (hd : StD w a n ms) :
    Calls Try.prog 26 #[.agg #[.slice a n cap]] w fun e w' => FsP w ms e ∧ Below w.heap.size w w' := by
  have Hn := hid hd.n1
  have hn2 := hd.n2
  have hnI : (n : Int) ≤ 9223372036854775807 := by omega
  have hn0 : (0 : Int) ≤ (n : Int) := by omega
  have D := hid hd
  have hS := hid (fun w h fs gs d => small_any w h fs gs d)
  clear hd
  obtain ⟨W0, hW0⟩ : ∃ W0, W0 = w.alloc (.cells #[.slice a n cap] 27) := ⟨_, rfl⟩
  have q1 : W0.heap[w.heap.size]? = some (.cells #[.slice a n cap] 27 (0, 0)) := by rw [hW0]; exact heap_alloc_new w _
  have hb0 : Below w.heap.size w W0 := by rw [hW0]; exact (Below.refl _ w).alloc (Nat.le_refl _) _
  have FX : Hid (∀ w2 : World, Below W0.heap.size W0 w2 → w2.cell? ⟨w.heap.size, 0, none⟩ = some (.slice a n cap) ∧ Below w.heap.size w w2) := hid (fun w2 hb => ⟨cellOf ((hb.block _ (Array.getElem?_eq_some_iff.1 q1).1).trans q1) 0, hb0.trans (hb.mono hb0.size)⟩)
  have TR : Hid (∀ {Z x y : World}, Below Z.heap.size Z x → Below x.heap.size x y → Below Z.heap.size Z y) := hid (fun h1 h2 => h1.trans (h2.mono h1.size))
  have f0 := (FX.out W0 (Below.refl _ _)).1
  have HB0 := hid hb0
  clear q1 hb0
  by_cases h20 : 20 < n
  · have h20' : (20 : Int) < (n : Int) := by omega
    go_enter Try.func26, Try.ntmps26
    go_upto_region 1 with fail
    rw [← hW0]
    clear hW0
    go_wp2
    go_ret
    exact ⟨⟨false, rfl, fun h => by cases h⟩, HB0.out⟩
  · have h20' : ¬ (20 : Int) < (n : Int) := by omega
    go_enter Try.func26, Try.ntmps26
    go_upto_region 1 with fail
    rw [← hW0]
    clear hW0
    go_wp2
    go_loopg [3] n (fun g ii wr => ∃ i : Nat, i + g = n ∧ ii = .int .i64 (i : Int) ∧ Below W0.heap.size W0 wr ∧ ∀ m ∈ ms.take i, EnS w m)
    case atStart => exact ⟨0, by omega, rfl, Below.refl _ _, fun m hm => by simp at hm⟩
    case round =>
      obtain ⟨i, hi', rfl, hbr, hacc⟩ := hrel
      have Hbr := hid hbr
      have Hacc := hid hacc
      have Hi := hid hi'
      clear hacc f0
      obtain ⟨f0, hbw⟩ := FX.out wr hbr
      cases gk with
      | zero =>
        have hin2 : i = n := by omega
        subst hin2
        clear hi' hbr
        go_wp2
        go_ret
        refine ⟨⟨true, rfl, fun _ => ⟨by rw [← Hn.out]; omega, ?_⟩⟩, hbw⟩
        have hA := Hacc.out
        rw [Hn.out, List.take_length] at hA
        exact hA
      | succ gi =>
        have hlt0 : i < n := by omega
        have hlt : (i : Int) < (n : Int) := by omega
        have hi00 : (0 : Int) ≤ (i : Int) := by omega
        obtain ⟨x, hx⟩ : ∃ x, ms[i]? = some x := ⟨ms[i]'(by rw [← Hn.out]; exact hlt0), List.getElem?_eq_getElem _⟩
        have Hx := hid hx
        have HX : Hid (∀ W', Below W0.heap.size W0 W' → EnD W' x) := hid (fun W' hb => (D.out.below (Nat.le_refl _) (FX.out W' hb).2).el x (List.mem_of_getElem? hx))
        have HD0 : Hid (EnD w x) := hid (D.out.el x (List.mem_of_getElem? hx))
        obtain ⟨b1, o1, ea1, dc⟩ := (D.out.below (Nat.le_refl _) hbw).rd i x.1 (by rw [List.getElem?_map, hx]; rfl)
        subst ea1
        have HC : Hid (∀ W', Below W0.heap.size W0 W' → W'.cell? ⟨b1, o1 + i, none⟩ = some x.1.v) := hid (fun W' hb => by
          obtain ⟨b9, o9, e9, d9⟩ := (D.out.below (Nat.le_refl _) (FX.out W' hb).2).rd i x.1 (by rw [List.getElem?_map, hx]; rfl)
          cases e9
          exact d9)
        obtain ⟨⟨la, ln, lc⟩, lr⟩ := x
        simp only [Sl.v] at dc HC
        try simp only at Hln hln2
        have Hln := hid HD0.out.n1
        have hln2 := HD0.out.n2
        simp only at Hln hln2
        have hlnI : (ln : Int) ≤ 9223372036854775807 := by omega
        have hln0 : (0 : Int) ≤ (ln : Int) := by omega
        clear hx hi' hbr hbw
        by_cases h30 : 30 < ln
        · have h30' : (30 : Int) < (ln : Int) := by omega
          go_wp2
          go_ret
          exact ⟨⟨false, rfl, fun h => by cases h⟩, (FX.out _ Hbr.out).2⟩
        · have h30' : ¬ (30 : Int) < (ln : Int) := by omega
          go_wp2
          clear f0 dc
          go_loopg [4] ln (fun g2 jj wr2 => ∃ j : Nat, j + g2 = ln ∧ jj = .int .i64 (j : Int) ∧ Below W0.heap.size W0 wr2 ∧ ∀ e ∈ lr.take j, Sm w e.key ∧ Sm w e.val)
          case atStart => exact ⟨0, by omega, rfl, Hbr.out, fun e he => by simp at he⟩
          case round =>
            obtain ⟨j, hj', rfl, hbr2, hacc2⟩ := hrel
            have Hbr2 := hid hbr2
            have Hacc2 := hid hacc2
            have Hj := hid hj'
            clear hacc2
            have f0 := (FX.out _ hbr2).1
            have dc := HC.out _ hbr2
            cases gk with
            | zero =>
              have hin2 : j = ln := by omega
              subst hin2
              clear hj' hbr2
              go_wp2
              go_roundg gi
              case measure => omega
              case rel => exact ⟨i + 1, by have := Hi.out; omega, by go_num, Hbr2.out, fun m hm => by
                rw [List.take_add_one, Hx.out] at hm
                rcases List.mem_append.1 hm with hm | hm
                · exact Hacc.out m hm
                · simp at hm
                  subst hm
                  refine ⟨by show lr.length ≤ 30; rw [← Hln.out]; omega, ?_⟩
                  have hA := Hacc2.out
                  rw [Hln.out, List.take_length] at hA
                  exact hA⟩
            | succ gj =>
              have hjt0 : j < ln := by omega
              have hjt : (j : Int) < (ln : Int) := by omega
              have hj00 : (0 : Int) ≤ (j : Int) := by omega
              clear hj'
              obtain ⟨q, hq⟩ : ∃ q, lr[j]? = some q := ⟨lr[j]'(by rw [← Hln.out]; exact hjt0), List.getElem?_eq_getElem _⟩
              have Hq := hid hq
              obtain ⟨b3, o3, ea3, dh⟩ := (HX.out _ hbr2).rd j q hq
              subst ea3
              obtain ⟨⟨fs, gs, dd⟩, ⟨fs2, gs2, dd2⟩⟩ := HD0.out.el q (List.mem_of_getElem? hq)
              have hc : Hid (∀ w1, Below W0.heap.size W0 w1 → Calls Try.prog 37 #[q.key.v] w1 fun e w' => (∃ b, e = .returned (.bool b) ∧ (b = true → Sm w q.key)) ∧ Below w1.heap.size w1 w') := by
                refine hid (fun w1 hb1 => (Hid.out hS w1 q.key fs gs (dd.below (Nat.le_refl _) (FX.out w1 hb1).2)).mono ?_)
                rintro e w' ⟨⟨b, rfl, hb⟩, h2⟩
                exact ⟨⟨b, rfl, fun h => ⟨fs, gs, dd, hb h⟩⟩, h2⟩
              have hc2 : Hid (∀ w1, Below W0.heap.size W0 w1 → Calls Try.prog 37 #[q.val.v] w1 fun e w' => (∃ b, e = .returned (.bool b) ∧ (b = true → Sm w q.val)) ∧ Below w1.heap.size w1 w') := by
                refine hid (fun w1 hb1 => (Hid.out hS w1 q.val fs2 gs2 (dd2.below (Nat.le_refl _) (FX.out w1 hb1).2)).mono ?_)
                rintro e w' ⟨⟨b, rfl, hb⟩, h2⟩
                exact ⟨⟨b, rfl, fun h => ⟨fs2, gs2, dd2, hb h⟩⟩, h2⟩
              have d0 := dh 0 (by omega)
              have d1 := dh 1 (by omega)
              have d2 := dh 2 (by omega)
              have d3 := dh 3 (by omega)
              have d4 := dh 4 (by omega)
              have d5 := dh 5 (by omega)
              have d6 := dh 6 (by omega)
              have d7 := dh 7 (by omega)
              have d8 := dh 8 (by omega)
              have d9 := dh 9 (by omega)
              obtain ⟨⟨xk, xi, xt, xr, xa, xn, xc⟩, ⟨yk, yi, yt, yr, ya, yn, yc⟩⟩ := q
              simp only [En.cs, List.getElem?_cons_zero, List.getElem?_cons_succ, Nat.add_zero] at d0 d1 d2 d3 d4 d5 d6 d7 d8 d9
              simp only [Hd.v] at hc hc2
              have GE : Hid (∀ W' : World, Below wr.heap.size wr W' → W'.cell? ⟨w.heap.size, 0, none⟩ = some (.slice (some ⟨b1, o1, none⟩) n cap) ∧ W'.cell? ⟨b1, o1 + i, none⟩ = some (.slice (some ⟨b3, o3, none⟩) ln lc) ∧ W'.cell? ⟨b3, o3 + j * 10 + 5, none⟩ = some (.int .i64 yk) ∧ W'.cell? ⟨b3, o3 + j * 10 + 6, none⟩ = some (.int .i64 yi) ∧ W'.cell? ⟨b3, o3 + j * 10 + 7, none⟩ = some (.string yt) ∧ W'.cell? ⟨b3, o3 + j * 10 + 8, none⟩ = some (.int .i64 yr) ∧ W'.cell? ⟨b3, o3 + j * 10 + 9, none⟩ = some (.slice ya yn yc)) := hid (fun W' hb => by
                have ge : ∀ (p : Addr) (v : Value), wr.cell? p = some v → W'.cell? p = some v := fun p v e => (hb.cell (World.block_lt_of_cell? wr _ e)).trans e
                exact ⟨ge _ _ f0, ge _ _ dc, ge _ _ d5, ge _ _ d6, ge _ _ d7, ge _ _ d8, ge _ _ d9⟩)
              clear dh hq dd dd2 hbr2 d5 d6 d7 d8 d9
              go_wp2_with (first
                | (go_at_call 37; (refine (Hid.out hc _ Hbr2.out).mono ?_; rintro e w9 ⟨⟨sb, rfl, hsb⟩, hB9⟩; have Hsb := hid hsb; have B9 := hid (TR.out Hbr2.out hB9); clear f0 dc d0 d1 d2 d3 d4; obtain ⟨f0, dc, d5, d6, d7, d8, d9⟩ := GE.out w9 hB9; clear hsb hc hB9; cases sb))
                | (go_at_call 37; (refine (Hid.out hc2 _ B9.out).mono ?_; rintro e w10 ⟨⟨sb2, rfl, hsb2⟩, hB10⟩; have Hsb2 := hid hsb2; have B10 := hid (TR.out B9.out hB10); clear hsb2 hB10; cases sb2)))
              · go_ret
                exact ⟨⟨false, rfl, fun h => by cases h⟩, (FX.out _ B9.out).2⟩
              · go_ret
                exact ⟨⟨false, rfl, fun h => by cases h⟩, (FX.out _ B10.out).2⟩
              · go_roundg gj
                case measure => omega
                case rel => exact ⟨j + 1, by have := Hj.out; omega, by go_num, B10.out, fun e he => by
                  rw [List.take_add_one, Hq.out] at he
                  rcases List.mem_append.1 he with he | he
                  · exact Hacc2.out e he
                  · simp at he; subst he; exact ⟨Hsb.out (by first | rfl | trivial), Hsb2.out (by first | rfl | trivial)⟩⟩
end Go.Proofs.Ytenfgahedbeekaa

namespace Go.Proofs.Ytenfgahedbeekaa
open Go.ChangeShapes Go.WideShapes Go.ChangeAt Go.RowKit Go.Deep
set_option linter.unusedVariables false
set_option linter.unusedSimpArgs false

theorem cells81 : Try.prog.cellsOf 81 = 10 := by kernel_rfl
theorem cells70 : Try.prog.cellsOf 70 = 1 := by kernel_rfl
theorem cells25 : Try.prog.cellsOf 25 = 1 := by kernel_rfl
theorem cells27 : Try.prog.cellsOf 27 = 1 := by kernel_rfl
section
variable {H : Type} {enc : TypeId × Value → H} {W : World}
def EnT' (enc : TypeId × Value → H) (W : World) (e : En) : Prop := (e.key.In ∧ Trd enc W e.key.a e.key.n e.key.cap) ∧ (e.val.In ∧ Trd enc W e.val.a e.val.n e.val.cap)
set_option maxRecDepth 100000 in
theorem en_of {fuel : Nat} {cs : List Value} {x : DataW H × List MemPlace} (h : DataW.trod enc Try.prog W 0 (fun _ => true) true fuel 81 cs = some x) :
    ∃ s : En, cs = s.cs ∧ EnT' enc W s := by
  obtain ⟨xs, n, _, rfl, hl, hlen, hf⟩ := DataW.trod_struct Try.underlying81 h
  rw [cells81] at hl
  match cs, hl with
  | [c0, c1, c2, c3, c4, c5, c6, c7, c8, c9], _ =>
    match xs, hlen with
    | [y0, y1], _ =>
      have h0 := hf 0 _ rfl
      have h1 := hf 1 _ rfl
      simp [cells31] at h0 h1
      obtain ⟨k, e2, k1, k2⟩ := val_of h0
      obtain ⟨v, e3, v1, v2⟩ := val_of h1
      simp [Hd.cs] at e2 e3
      obtain ⟨rfl, rfl, rfl, rfl, rfl⟩ := e2
      obtain ⟨rfl, rfl, rfl, rfl, rfl⟩ := e3
      exact ⟨⟨k, v⟩, rfl, ⟨k1, k2⟩, ⟨v1, v2⟩⟩
set_option maxRecDepth 100000 in
theorem enrow_of {fuel : Nat} {v : Value} {x : DataW H × List MemPlace} (h : DataW.trod enc Try.prog W 0 (fun _ => true) true fuel 70 [v] = some x) : ∃ (s : Sl) (es : List En), v = s.v ∧ EnD W (s, es) := by
  rcases open_slice Try.underlying70 h with ⟨hcs, _⟩ | ⟨a, l, c, m, n, D, Pl, hcs, _, hl, hm', hm, _, hx⟩
  · simp at hcs
    subst hcs
    exact ⟨⟨none, 0, 0⟩, [], rfl, ⟨rfl, by show (0 : Nat) ≤ _; omega, Nat.le_refl _, fun j x hx => by simp at hx, fun e he => by cases he⟩⟩
  · simp at hcs
    subst hcs
    simp at hm
    subst hm
    have hs : ∀ j, j < l → ∃ s : En, (∃ b off, some a = some ⟨b, off, none⟩ ∧ ∀ i, i < 10 → W.cell? ⟨b, off + j * 10 + i, none⟩ = s.cs[i]?) ∧ EnT' enc W s := by
      intro j hj
      obtain ⟨cs, h1, h2⟩ := hx j (by omega)
      obtain ⟨s, rfl, h3⟩ := en_of h2
      rw [cells81] at h1
      obtain ⟨_, _, h4⟩ := World.cells?_some h1
      obtain ⟨b, off, spot⟩ := a
      have hspot : spot = none := by
        obtain ⟨cs', h1', h2'⟩ := hx 0 (by omega)
        rw [cells81] at h1'
        obtain ⟨s', rfl, _⟩ := en_of h2'
        obtain ⟨_, _, h4'⟩ := World.cells?_some h1'
        have := h4' 0 (by omega)
        simpa [Addr.add] using World.cell?_spot (v := .int .i64 s'.key.kind) (this.trans rfl)
      subst hspot
      refine ⟨s, ⟨b, off, rfl, fun i hi => ?_⟩, h3⟩
      have := h4 i hi
      simp only [Addr.add_lit] at this
      exact this
    refine ⟨⟨some a, l, _⟩, (List.range l).map (fun j => if hj : j < l then Classical.choose (hs j hj) else ⟨⟨0, 0, ByteArray.empty, 0, none, 0, 0⟩, ⟨0, 0, ByteArray.empty, 0, none, 0, 0⟩⟩), rfl, ⟨by simp, by show l ≤ _; unfold maxLen at hm'; omega, by show l ≤ _; omega, ?_, ?_⟩⟩
    · intro j h hjh
      simp only [List.getElem?_map, Option.map_eq_some_iff] at hjh
      obtain ⟨j', hj', rfl⟩ := hjh
      have hj : j < l := by have := (List.getElem?_eq_some_iff.1 hj').1; simpa using this
      have : j' = j := by simpa [hj] using hj'.symm
      subst this
      simp only [hj, dif_pos]
      exact (Classical.choose_spec (hs j' hj)).1
    · intro h hh
      simp only [List.mem_map, List.mem_range] at hh
      obtain ⟨j, hj, rfl⟩ := hh
      simp only [hj, dif_pos]
      have := (Classical.choose_spec (hs j hj)).2
      exact ⟨deep_of this.1.1 this.1.2, deep_of this.2.1 this.2.2⟩
set_option maxRecDepth 100000 in
theorem state_of {a0 : Option Addr} {len cap : Nat} {d : DataW H} {ps : List MemPlace} (h : DataW.Trod enc Try.prog W 0 (fun _ => true) true 27 (.agg #[.slice a0 len cap]) d ps) : ∃ ms : List (Sl × List En), StD W a0 len ms ∧ len ≤ cap := by
  obtain ⟨fuel, hf0⟩ := h
  obtain ⟨xs, n, _, _, hl0, hlen0, hf⟩ := DataW.trod_struct Try.underlying27 hf0
  match xs, hlen0 with
  | [y0], _ =>
    have h0 := hf 0 _ rfl
    simp [cells25, Value.cells] at h0
    rcases open_slice Try.underlying25 h0 with ⟨hcs, _⟩ | ⟨a, l, c, m, n, D, Pl, hcs, _, hl, hm', hm, _, hx⟩
    · simp at hcs
      obtain ⟨rfl, rfl, rfl⟩ := hcs
      exact ⟨[], ⟨rfl, by omega, fun j x hx => by simp at hx, fun m hm => by cases hm⟩, Nat.le_refl _⟩
    · simp at hcs
      obtain ⟨rfl, rfl, rfl⟩ := hcs
      simp at hm
      subst hm
      have hs : ∀ j, j < len → ∃ s : Sl × List En, (∃ b off, some a = some ⟨b, off, none⟩ ∧ W.cell? ⟨b, off + j, none⟩ = some s.1.v) ∧ EnD W s := by
        intro j hj
        obtain ⟨cs, h1, h2⟩ := hx j (by omega)
        rw [cells70] at h1
        obtain ⟨hsz, _, h4⟩ := World.cells?_some h1
        obtain ⟨v, rfl⟩ : ∃ v, cs = [v] := by
          match cs, hsz with
          | [v], _ => exact ⟨v, rfl⟩
        obtain ⟨s, es, rfl, h3⟩ := enrow_of h2
        have h5 := h4 0 (by omega)
        obtain ⟨b, off, spot⟩ := a
        have hspot : spot = none := by
          obtain ⟨cs', h1', h2'⟩ := hx 0 (by omega)
          rw [cells70] at h1'
          obtain ⟨hsz', _, h4'⟩ := World.cells?_some h1'
          obtain ⟨v', rfl⟩ : ∃ v, cs' = [v] := by
            match cs', hsz' with
            | [v], _ => exact ⟨v, rfl⟩
          have := h4' 0 (by omega)
          simpa [Addr.add] using World.cell?_spot (v := v') (this.trans rfl)
        subst hspot
        refine ⟨(s, es), ⟨b, off, rfl, ?_⟩, h3⟩
        simp only [Addr.add_lit, Nat.mul_one, Nat.add_zero] at h5
        exact h5
      refine ⟨(List.range len).map (fun j => if hj : j < len then Classical.choose (hs j hj) else (⟨none, 0, 0⟩, [])), ⟨by simp, by unfold maxLen at hm'; omega, ?_, ?_⟩, by omega⟩
      · intro j h hjh
        simp only [List.getElem?_map, Option.map_eq_some_iff] at hjh
        obtain ⟨y, ⟨j', hj', rfl⟩, rfl⟩ := hjh
        have hj : j < len := by have := (List.getElem?_eq_some_iff.1 hj').1; simpa using this
        have : j' = j := by simpa [hj] using hj'.symm
        subst this
        simp only [hj, dif_pos]
        exact (Classical.choose_spec (hs j' hj)).1
      · intro h hh
        simp only [List.mem_map, List.mem_range] at hh
        obtain ⟨j, hj, rfl⟩ := hh
        simp only [hj, dif_pos]
        exact (Classical.choose_spec (hs j hj)).2
end
/- What isn't great, as trees. -/
theorem entries_of {w : World} : ∀ (es : List En), (∀ e ∈ es, Sm w e.key ∧ Sm w e.val) → ∃ ps : Rw 3, ps.map (enT 3) = es ∧ ∀ p ∈ ps, Rds 3 w p.1 ∧ Rds 3 w p.2 := by
  intro es hs
  induction es with
  | nil => exact ⟨[], rfl, fun p hp => by cases hp⟩
  | cons e r ih =>
    obtain ⟨t, h1, h2⟩ := tree_of (hs e (by simp)).1
    obtain ⟨u, g1, g2⟩ := tree_of (hs e (by simp)).2
    obtain ⟨ps, h3, h4⟩ := ih (fun x hx => hs x (by simp [hx]))
    refine ⟨(t, u) :: ps, by simp [enT, h1, g1, h3], fun p hp => ?_⟩
    rcases List.mem_cons.1 hp with rfl | hp
    · exact ⟨h2, g2⟩
    · exact h4 p hp
theorem rows_small {w : World} : ∀ (ms : List (Sl × List En)), (∀ m ∈ ms, EnD w m) → (∀ m ∈ ms, EnS w m) → ∃ rs : List (Sl × Rw 3), rs.map (·.1) = ms.map (·.1) ∧ ∀ r ∈ rs, RwR 3 w r.1.a r.1.n r.2 ∧ r.1.n ≤ r.1.cap := by
  intro ms hd hs
  induction ms with
  | nil => exact ⟨[], rfl, fun r hr => by cases hr⟩
  | cons m r ih =>
    obtain ⟨ps, h1, h2⟩ := entries_of m.2 (hs m (by simp)).2
    obtain ⟨rs, h3, h4⟩ := ih (fun x hx => hd x (by simp [hx])) (fun x hx => hs x (by simp [hx]))
    have dm := hd m (by simp)
    have hl : ps.length = m.2.length := by rw [← h1, List.length_map]
    refine ⟨(m.1, ps) :: rs, by simp [h3], fun x hx => ?_⟩
    rcases List.mem_cons.1 hx with rfl | hx
    · exact ⟨⟨by show m.1.n = ps.length; rw [hl]; exact dm.n1, by show m.1.n ≤ 1000; have := (hs m (by simp)).1; have := dm.n1; omega, by show ERd w m.1.a (ps.map (enT 3)); rw [h1]; exact dm.rd, h2⟩, dm.cap⟩
    · exact h4 x hx
theorem small_state {w : World} {a : Option Addr} {n : Nat} {ms : List (Sl × List En)} (d : StD w a n ms) (h20 : ms.length ≤ 20) (h : ∀ m ∈ ms, EnS w m) : ∃ rs : List (Sl × Rw 3), StR 3 w a n rs := by
  obtain ⟨rs, h1, h2⟩ := rows_small ms d.el h
  have hl : rs.length = ms.length := by have := congrArg List.length h1; simpa using this
  exact ⟨rs, by rw [hl]; exact d.n1, by have := d.n1; omega, by rw [h1]; exact d.rd, h2⟩
end Go.Proofs.Ytenfgahedbeekaa

namespace Go.Proofs.Ytenfgahedbeekaa
open Go.RowKit Go.Deep Go.Shelf
set_option linter.unusedVariables false
set_option linter.unusedSimpArgs false

theorem MRow.set {w : World} {B g n cap : Nat} {ms : List Sl} (h : MRow w B (.slice (some ⟨g, 0, none⟩) n cap) ms) (j : Nat) (hj : j < ms.length) (x : Sl) : MRow (w.setCell ⟨g, j, none⟩ x.v) B (.slice (some ⟨g, 0, none⟩) n cap) (ms.set j x) := by
  refine ⟨by rw [List.length_map, List.length_set, Nat.mul_one], ?_⟩
  rcases h.2 with ⟨e, _⟩ | ⟨g', cap', cur, e, hb, hgg, hc, hm, hs, ht⟩
  · cases e
  · cases e
    refine .inr ⟨g, cap, _, by rw [List.length_set], hb, heap_set_at hgg j x.v, by rw [List.length_set]; exact hc, hm, by simpa using hs, ?_⟩
    rw [List.length_set, Array.toList_setIfInBounds, List.take_set, ht, List.map_set]
end Go.Proofs.Ytenfgahedbeekaa

