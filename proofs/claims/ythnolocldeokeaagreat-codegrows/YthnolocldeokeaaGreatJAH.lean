/- Code as bytes: sizes; the lists of a program put behind a row. -/
import Derived.Test.YthnolocldeokeaaGreatJAG
namespace Go.Proofs.YthnolocldeokeaaGreat
open Go.RowKit Go.Deep Go.Shelf
set_option linter.unusedVariables false
set_option linter.unusedSimpArgs false
set_option maxRecDepth 100000
structure FxSm (f : Fx) : Prop where
  r : 0 ≤ f.regs ∧ f.regs ≤ 64
  l : f.ops.length ≤ 2000
  o : ∀ o ∈ f.ops, inO o ∧ isC o.c = true
structure CxSm (c : Cx) : Prop where
  p : PgSm c.p
  tr : ∀ x ∈ c.p.recs, ∀ t ∈ x.2.types, inT t
  tm : ∀ m ∈ c.p.maps, inT m.key ∧ inT m.val
  tf : ∀ x ∈ c.p.funcs, (∀ t ∈ x.2.params, inT t) ∧ inT x.2.res
  te : ∀ x ∈ c.p.events, (∀ t ∈ x.2.params, inT t) ∧ inT x.2.res
  il : c.ints ≤ 1000
  tl : c.texts.length ≤ 1000
  ts : ∀ t ∈ c.texts, t.size ≤ 64
  fl : c.funcs.length = c.p.funcs.length
  el : c.events.length = c.p.events.length
  f : ∀ f ∈ c.funcs, FxSm f
  e : ∀ f ∈ c.events, FxSm f
theorem inR_sm {x : Int} (h : -1 ≤ x ∧ x ≤ 1000000) : inR x := ⟨by omega, by omega⟩
theorem simB_in {t : TyP} (h : simB t = true) : inT t := by
  unfold simB at h
  simp only [Bool.and_eq_true, Bool.or_eq_true, decide_eq_true_eq] at h
  exact ⟨inR_sm (by omega), inR_sm (by omega)⟩
theorem typB_in {n : Nat} (hn : n ≤ 16) {t : TyP} (h : typB n t = true) : inT t := by
  unfold typB at h
  split at h
  · simp only [Bool.and_eq_true, decide_eq_true_eq] at h
    exact ⟨inR_sm (by omega), inR_sm (by omega)⟩
  · exact simB_in h
theorem keyB_in {t : TyP} (h : keyB t = true) : inT t := by
  unfold keyB at h
  simp only [Bool.and_eq_true, Bool.or_eq_true, decide_eq_true_eq] at h
  exact ⟨inR_sm (by omega), inR_sm (by omega)⟩
theorem noneB_in {t : TyP} (h : noneB t = true) : inT t := by
  unfold noneB at h
  simp only [Bool.and_eq_true, decide_eq_true_eq] at h
  exact ⟨inR_sm (by omega), inR_sm (by omega)⟩
theorem sigs_in {n : Nat} (hn : n ≤ 16) {l : List (GH × Sg)} (h : sigsB n (l.map (·.2)) = true) : ∀ x ∈ l, (∀ t ∈ x.2.params, inT t) ∧ inT x.2.res := fun x hx => by
  unfold sigsB at h
  simp only [Bool.and_eq_true, decide_eq_true_eq, List.length_map] at h
  have h2 := List.all_eq_true.1 h.1.2 x.2 (List.mem_map.2 ⟨x, hx, rfl⟩)
  unfold sigB at h2
  simp only [Bool.and_eq_true, Bool.or_eq_true, decide_eq_true_eq] at h2
  exact ⟨fun t ht => typB_in hn (List.all_eq_true.1 h2.2 t ht), h2.1.2.elim noneB_in (typB_in hn)⟩
theorem rowLen_nn (r : Int) (p : Pg) (k : Int) : 0 ≤ (rowLen r p k).1 := by
  unfold rowLen parmB
  repeat' split
  all_goals (try simp)
  all_goals omega
theorem bnd_bounds {c : Cx} {regs : Int} {nops : Nat} (hr : 0 ≤ regs ∧ regs ≤ 64) (hn : nops ≤ 2000) (hi : c.ints ≤ 1000) (ht : c.texts.length ≤ 1000) (hp : PgSm c.p) (r : Int) {len : Int} (hl : 0 ≤ len) : -1 ≤ (bnd c regs nops r len).1 ∧ (bnd c regs nops r len).2 ≤ 2000 := by
  have h1 := hp.rl
  have h2 := hp.ml
  have h3 := hp.fl
  have h4 := hp.el
  obtain ⟨q, hq⟩ : ∃ q, q = bnd c regs nops r len := ⟨_, rfl⟩
  rw [← hq]
  unfold bnd at hq
  by_cases r1 : r = 1 ∨ r = 3
  · rw [if_pos r1] at hq; subst hq; simp only; omega
  rw [if_neg r1] at hq
  by_cases r2 : r = 2 ∨ r = 4
  · rw [if_pos r2] at hq; subst hq; simp only; omega
  rw [if_neg r2] at hq
  by_cases r5 : r = 5
  · rw [if_pos r5] at hq; subst hq; simp only; omega
  rw [if_neg r5] at hq
  by_cases r6 : r = 6
  · rw [if_pos r6] at hq; subst hq; simp only; omega
  rw [if_neg r6] at hq
  by_cases r7 : r = 7
  · rw [if_pos r7] at hq; subst hq; simp only; omega
  rw [if_neg r7] at hq
  by_cases r8 : r = 8
  · rw [if_pos r8] at hq; subst hq; simp only; omega
  rw [if_neg r8] at hq
  by_cases r9 : r = 9
  · rw [if_pos r9] at hq; subst hq; simp only; omega
  rw [if_neg r9] at hq
  by_cases r10 : r = 10
  · rw [if_pos r10] at hq; subst hq; simp only; omega
  rw [if_neg r10] at hq
  by_cases r11 : r = 11
  · rw [if_pos r11] at hq; subst hq; simp only; omega
  rw [if_neg r11] at hq
  by_cases r12 : r = 12
  · rw [if_pos r12] at hq; subst hq; simp only; omega
  rw [if_neg r12] at hq
  by_cases r13 : r = 13
  · rw [if_pos r13] at hq; subst hq; simp only; omega
  rw [if_neg r13] at hq
  by_cases r14 : r = 14
  · rw [if_pos r14] at hq; subst hq; simp only; omega
  rw [if_neg r14] at hq
  subst hq; simp only; omega
theorem bnd_in {c : Cx} {regs : Int} {nops : Nat} (hr : 0 ≤ regs ∧ regs ≤ 64) (hn : nops ≤ 2000) (hi : c.ints ≤ 1000) (ht : c.texts.length ≤ 1000) (hp : PgSm c.p) {r len x : Int} (hl : 0 ≤ len) (h : inB (bnd c regs nops r len) x = true) : inR x := by
  obtain ⟨h1, h2⟩ := bnd_bounds hr hn hi ht hp r hl
  refine inR_sm ?_
  unfold inB at h
  simp only [Bool.not_eq_true', Bool.or_eq_false_iff, decide_eq_false_iff_not] at h
  omega
theorem fn_sm {c : Cx} (hi : c.ints ≤ 1000) (ht : c.texts.length ≤ 1000) (hp : PgSm c.p) {n : Nat} {f : Fx} (h : isFnB c n f = true) : FxSm f := by
  unfold isFnB at h
  simp only [Bool.and_eq_true, Bool.not_eq_true', Bool.or_eq_false_iff, decide_eq_false_iff_not] at h
  obtain ⟨⟨⟨⟨h1, h2⟩, h3⟩, h4⟩, h5⟩ := h
  have hr : 0 ≤ f.regs ∧ f.regs ≤ 64 := by omega
  refine ⟨hr, by omega, fun o ho => ?_⟩
  have h6 := List.all_eq_true.1 h5 o ho
  unfold isOpB at h6
  simp only [Bool.and_eq_true] at h6
  obtain ⟨hc, ⟨⟨hd, ha⟩, hb⟩, hk⟩ := h6
  have hl := rowLen_nn (shpAt o.c).k c.p o.k
  have hcc : inR o.c := by
    unfold isC at hc
    simp only [Bool.and_eq_true, decide_eq_true_eq] at hc
    exact inR_sm (by omega)
  exact ⟨⟨hcc, bnd_in hr (by omega) hi ht hp hl hd, bnd_in hr (by omega) hi ht hp hl ha, bnd_in hr (by omega) hi ht hp hl hb, bnd_in hr (by omega) hi ht hp hl hk⟩, hc⟩
theorem fns_sm {c : Cx} (hi : c.ints ≤ 1000) (ht : c.texts.length ≤ 1000) (hp : PgSm c.p) {ss : List Sg} {fs : List Fx} (hl : fs.length = ss.length) (h : isFnsB c ss fs = true) : ∀ f ∈ fs, FxSm f := fun f hf => by
  obtain ⟨i, hi2, rfl⟩ := List.mem_iff_getElem.1 hf
  have hz : (ss[i]'(by omega), fs[i]) ∈ ss.zip fs := List.mem_iff_getElem.2 ⟨i, by rw [List.length_zip]; omega, List.getElem_zip⟩
  unfold isFnsB at h
  have h1 := List.all_eq_true.1 h _ hz
  exact fn_sm (n := (ss[i]'(by omega)).params.length) hi ht hp h1
theorem is_sm {c : Cx} (h : isB c = true) : CxSm c := by
  unfold isB at h
  simp only [Bool.and_eq_true, decide_eq_true_eq] at h
  obtain ⟨⟨⟨⟨⟨h1, h2⟩, h3⟩, h4⟩, h5⟩, h6⟩ := h
  have sm := right_sm h1
  unfold constB at h2
  simp only [Bool.and_eq_true, decide_eq_true_eq] at h2
  unfold rightB at h1
  simp only [Bool.and_eq_true] at h1
  obtain ⟨⟨⟨⟨r1, r2⟩, r3⟩, r4⟩, _⟩ := h1
  unfold recordsB at r1
  simp only [Bool.and_eq_true, decide_eq_true_eq, List.length_map] at r1
  unfold mapsB at r2
  simp only [Bool.and_eq_true, decide_eq_true_eq] at r2
  have hrn : c.p.rn ≤ 16 := sm.rl
  refine ⟨sm, fun x hx t ht => ?_, fun m hm => ?_, sigs_in hrn r3, sigs_in hrn r4, h2.1.1, h2.1.2, fun t ht => of_decide_eq_true (List.all_eq_true.1 h2.2 t ht), h3, h4, fns_sm h2.1.1 h2.1.2 sm (by rw [List.length_map]; exact h3) h5, fns_sm h2.1.1 h2.1.2 sm (by rw [List.length_map]; exact h4) h6⟩
  · have q := List.all_eq_true.1 r1.1.2 x.2 (List.mem_map.2 ⟨x, hx, rfl⟩)
    unfold fieldsB at q
    simp only [Bool.and_eq_true] at q
    exact simB_in (List.all_eq_true.1 q.1.2 t ht)
  · have q := List.all_eq_true.1 r2.1.2 m hm
    unfold mapB at q
    simp only [Bool.and_eq_true] at q
    exact ⟨keyB_in q.1, typB_in hrn q.2⟩
/- What code is as bytes. -/
def encRcs (rs : List Rc) : List Nat := enc rs.length ++ (rs.map encRc).flatten
def encMps (ms : List Mp) : List Nat := enc ms.length ++ (ms.map encMp).flatten
def encSgs (ss : List Sg) : List Nat := enc ss.length ++ (ss.map encSg).flatten
def encZ1 (x : Int) : List Nat := enc (zz x)
def encIns (xs : List Int) : List Nat := enc xs.length ++ (xs.map encZ1).flatten
def encOps (os : List Opx) : List Nat := enc os.length ++ (os.map encOp).flatten
def encFx (f : Fx) : List Nat := enc (zz f.regs) ++ encOps f.ops
def encP (c : Cx) (xs : List Int) : List Nat := encRcs (c.p.recs.map (·.2)) ++ encMps c.p.maps ++ encSgs (c.p.funcs.map (·.2)) ++ encSgs (c.p.events.map (·.2)) ++ encIns xs ++ encSs c.texts
def encC (c : Cx) (xs : List Int) : List Nat := encP c xs ++ ((c.funcs ++ c.events).map encFx).flatten
theorem flat_le {α : Type} {f : α → List Nat} {K : Nat} : ∀ {l : List α}, (∀ x ∈ l, (f x).length ≤ K) → ((l.map f).flatten).length ≤ K * l.length
  | [], _ => by simp
  | x :: r, h => by
    have h1 := flat_le (l := r) (fun y hy => h y (List.mem_cons_of_mem _ hy))
    have h2 := h x (List.mem_cons_self ..)
    simp only [List.map_cons, List.flatten_cons, List.length_append, List.length_cons, Nat.mul_add, Nat.mul_one]
    omega
theorem encX_le {s : ByteArray} {n : Nat} (h : s.size ≤ n) (hn : n ≤ 1000000) : (encX s).length ≤ 10 + n := by
  unfold encX; rw [List.length_append, sb_length]; have := enc_le s.size (by omega); omega
theorem encTy_le {t : TyP} (h : inT t) : (encTy t).length ≤ 20 := by
  unfold encTy; rw [List.length_append]; have := enc_zz_le _ h.1; have := enc_zz_le _ h.2; omega
theorem encTys_le {ts : List TyP} (h : ∀ t ∈ ts, inT t) (hl : ts.length ≤ 12) : (encTys ts).length ≤ 250 := by
  unfold encTys; rw [List.length_append]
  have h1 := enc_le ts.length (by omega)
  have h2 := flat_le (K := 20) (l := ts) (f := encTy) (fun t ht => encTy_le (h t ht))
  have : 20 * ts.length ≤ 240 := by omega
  omega
theorem encSs_le {ss : List ByteArray} {n m : Nat} (h : ∀ s ∈ ss, s.size ≤ n) (hn : n ≤ 64) (hl : ss.length ≤ m) (hm : m ≤ 1000) : (encSs ss).length ≤ 10 + 74 * m := by
  unfold encSs; rw [List.length_append]
  have h1 := enc_le ss.length (by omega)
  have h2 := flat_le (K := 74) (l := ss) (f := encX) (fun t ht => by have := encX_le (h t ht) (by omega); omega)
  have : 74 * ss.length ≤ 74 * m := Nat.mul_le_mul_left _ hl
  omega
theorem encRc_le {r : Rc} (h : RcSm r) (ht : ∀ t ∈ r.types, inT t) : (encRc r).length ≤ 1200 := by
  unfold encRc
  simp only [List.length_append]
  have h1 := encX_le h.nm (by omega)
  have h2 := encSs_le (m := 12) h.fs (by omega) h.fl (by omega)
  have h3 := encTys_le ht h.tl
  omega
theorem encMp_le {m : Mp} (h : m.name.size ≤ 20) (ht : inT m.key ∧ inT m.val) : (encMp m).length ≤ 100 := by
  unfold encMp
  simp only [List.length_append]
  have h1 := encX_le h (by omega)
  have h2 := encTy_le ht.1
  have h3 := encTy_le ht.2
  omega
theorem encSg_le {s : Sg} (h : s.name.size ≤ 20 ∧ s.params.length ≤ 12) (ht : (∀ t ∈ s.params, inT t) ∧ inT s.res) : (encSg s).length ≤ 400 := by
  unfold encSg
  simp only [List.length_append]
  have h1 := encX_le h.1 (by omega)
  have h2 := encTys_le ht.1 h.2
  have h3 := encTy_le ht.2
  omega
theorem encOp_le {o : Opx} (h : inO o) : (encOp o).length ≤ 50 := by
  unfold encOp
  rw [List.length_append]
  have h1 := enc_zz_le _ h.c
  have h2 := flat10 (foe_le h (shpAt o.c)) fourL
  have : fourL.length = 4 := rfl
  omega
theorem encFx_le {f : Fx} (h : FxSm f) : (encFx f).length ≤ 100100 := by
  unfold encFx encOps
  simp only [List.length_append]
  have h1 := enc_zz_le f.regs (inR_sm (by have := h.r; omega))
  have h2 := enc_le f.ops.length (by have := h.l; omega)
  have h3 := flat_le (K := 50) (l := f.ops) (f := encOp) (fun o ho => encOp_le (h.o o ho).1)
  have := h.l
  omega
theorem cnt_le {α : Type} {f : α → List Nat} {K m : Nat} {l : List α} (h : ∀ x ∈ l, (f x).length ≤ K) (hl : l.length ≤ m) (hm : m ≤ 1000) : (enc l.length ++ (l.map f).flatten).length ≤ 10 + K * m := by
  rw [List.length_append]
  have h1 := enc_le l.length (by omega)
  have h2 := flat_le h
  have : K * l.length ≤ K * m := Nat.mul_le_mul_left _ hl
  omega
theorem encC_le {c : Cx} (h : CxSm c) {xs : List Int} (hx : xs.length = c.ints) (hi : ∀ x ∈ xs, inR x) : (encC c xs).length ≤ 10000000 := by
  have h1 : (encRcs (c.p.recs.map (·.2))).length ≤ 10 + 1200 * 16 := cnt_le (fun r hr => by obtain ⟨x, hx, rfl⟩ := List.mem_map.1 hr; exact encRc_le (h.p.r x hx) (h.tr x hx)) (by rw [List.length_map]; exact h.p.rl) (by omega)
  have h2 : (encMps c.p.maps).length ≤ 10 + 100 * 16 := cnt_le (fun m hm => encMp_le (h.p.m m hm) (h.tm m hm)) h.p.ml (by omega)
  have h3 : (encSgs (c.p.funcs.map (·.2))).length ≤ 10 + 400 * 16 := cnt_le (fun r hr => by obtain ⟨x, hx, rfl⟩ := List.mem_map.1 hr; exact encSg_le (h.p.f x hx) (h.tf x hx)) (by rw [List.length_map]; exact h.p.fl) (by omega)
  have h4 : (encSgs (c.p.events.map (·.2))).length ≤ 10 + 400 * 16 := cnt_le (fun r hr => by obtain ⟨x, hx, rfl⟩ := List.mem_map.1 hr; exact encSg_le (h.p.e x hx) (h.te x hx)) (by rw [List.length_map]; exact h.p.el) (by omega)
  have h5 : (encIns xs).length ≤ 10 + 10 * 1000 := cnt_le (fun x hx => enc_zz_le x (hi x hx)) (by rw [hx]; exact h.il) (by omega)
  have h6 := encSs_le (m := 1000) h.ts (by omega) h.tl (by omega)
  have h7 := flat_le (K := 100100) (l := c.funcs ++ c.events) (f := encFx) (fun f hf => (List.mem_append.1 hf).elim (fun q => encFx_le (h.f f q)) (fun q => encFx_le (h.e f q)))
  have h8 : (c.funcs ++ c.events).length ≤ 32 := by rw [List.length_append, h.fl, h.el]; have := h.p.fl; have := h.p.el; omega
  unfold encC encP
  simp only [List.length_append] at h7 h8 ⊢
  have : 100100 * (c.funcs.length + c.events.length) ≤ 100100 * 32 := Nat.mul_le_mul_left _ h8
  omega
/- The lists of a program. -/
theorem ORd.crd {w : World} {a : Option Addr} {l : List Opx} (h : ORd w a l) : CRd w a 5 (l.map fun o => o.cs.toList) := fun j r e => by
  rw [List.getElem?_map] at e
  obtain ⟨o, ho, rfl⟩ := Option.map_eq_some_iff.1 e
  obtain ⟨b, off, e1, hc⟩ := h j o ho
  have h0 := hc 0 (by omega)
  refine ⟨b, off, e1, World.block_lt_of_cell? w ⟨b, off + j * 5 + 0, none⟩ (u := .int .i64 o.c) (by rw [h0]; rfl), fun i hi => ?_⟩
  rw [hc i hi]
  simp
theorem appRcs_any (w0 w : World) (v : Value) (xs : List Nat) (a : Option Addr) (n cap : Nat) (l : List (RH × Rc)) (hw : Below w0.heap.size w0 w) (h : Row w w0.heap.size v xs) (d : RRd w0 a n l) (hn : n ≤ 1000000) (hl : (xs ++ encRcs (l.map (·.2))).length ≤ 100000000) (hs : ∀ x ∈ l, RcSm x.2) (ht : ∀ x ∈ l, ∀ t ∈ x.2.types, inT t) :
    Calls Tryz.prog 20 #[v, .slice a n cap, .func (.func 21) #[] #[]] w (ApP w w0.heap.size v (xs ++ encRcs (l.map (·.2)))) := by
  have e : encRcs (l.map (·.2)) = enc n ++ (l.map fun x => encRc x.2).flatten := by unfold encRcs; rw [List.length_map, d.n1, List.map_map]; rfl
  rw [e, ← List.append_assoc] at hl ⊢
  refine appRecords_any w0 w v xs a n cap l (fun x => encRc x.2) hw h d.n1 hn d.rd hl (fun V u ys x hx hV hu hy => ?_)
  have rd := d.el x hx
  have sm := hs x hx
  have := appRecord_x w0 V u ys x.1.name x.1.fa x.1.fn x.1.fc x.2.fields x.1.ta x.1.tn x.1.tc x.2.types hV hu (by rw [rd.nm]; exact hy) (by rw [rd.nm]; have := sm.nm; omega) rd.fn (by rw [rd.fn]; have := sm.fl; omega) rd.fr (fun s hs => by have := sm.fs s hs; omega) rd.tn (by rw [rd.tn]; have := sm.tl; omega) rd.tr (ht x hx)
  rw [show (encX x.1.name ++ encSs x.2.fields ++ encTys x.2.types) = encRc x.2 from by rw [rd.nm]; rfl] at this
  exact this
theorem appMps_any (w0 w : World) (v : Value) (xs : List Nat) (a : Option Addr) (n cap : Nat) (l : List Mp) (hw : Below w0.heap.size w0 w) (h : Row w w0.heap.size v xs) (d : MRd w0 a n l) (hn : n ≤ 1000000) (hl : (xs ++ encMps l).length ≤ 100000000) (hs : ∀ x ∈ l, x.name.size ≤ 20) (ht : ∀ x ∈ l, inT x.key ∧ inT x.val) :
    Calls Tryz.prog 22 #[v, .slice a n cap, .func (.func 23) #[] #[]] w (ApP w w0.heap.size v (xs ++ encMps l)) := by
  have e : encMps l = enc n ++ (l.map encMp).flatten := by unfold encMps; rw [d.n1]
  rw [e, ← List.append_assoc] at hl ⊢
  exact appMaps_any w0 w v xs a n cap l encMp hw h d.n1 hn d.rd hl (fun V u ys x hx hV hu hy => appMap_x w0 V u ys x.name x.key.1 x.key.2 x.val.1 x.val.2 hV hu hy (by have := hs x hx; omega) (ht x hx).1 (ht x hx).2)
theorem appSgs_any (w0 w : World) (v : Value) (xs : List Nat) (a : Option Addr) (n cap : Nat) (l : List (GH × Sg)) (hw : Below w0.heap.size w0 w) (h : Row w w0.heap.size v xs) (d : GRd w0 a n l) (hn : n ≤ 1000000) (hl : (xs ++ encSgs (l.map (·.2))).length ≤ 100000000) (hs : ∀ x ∈ l, x.2.name.size ≤ 20 ∧ x.2.params.length ≤ 12) (ht : ∀ x ∈ l, (∀ t ∈ x.2.params, inT t) ∧ inT x.2.res) :
    Calls Tryz.prog 24 #[v, .slice a n cap, .func (.func 25) #[] #[]] w (ApP w w0.heap.size v (xs ++ encSgs (l.map (·.2)))) := by
  have e : encSgs (l.map (·.2)) = enc n ++ (l.map fun x => encSg x.2).flatten := by unfold encSgs; rw [List.length_map, d.n1, List.map_map]; rfl
  rw [e, ← List.append_assoc] at hl ⊢
  refine appSigs_any w0 w v xs a n cap l (fun x => encSg x.2) hw h d.n1 hn d.rd hl (fun V u ys x hx hV hu hy => ?_)
  have rd := d.el x hx
  have sm := hs x hx
  have er : (x.1.k, x.1.r) = x.2.res := rd.rs
  have := appSig_x w0 V u ys x.1.name x.1.pa x.1.pn x.1.pc x.2.params x.1.k x.1.r hV hu (by rw [rd.nm, er]; exact hy) (by rw [rd.nm]; have := sm.1; omega) rd.pn (by rw [rd.pn]; have := sm.2; omega) rd.pr (ht x hx).1 (by rw [er]; exact (ht x hx).2)
  rw [show (encX x.1.name ++ encTys x.2.params ++ encTy (x.1.k, x.1.r)) = encSg x.2 from by rw [rd.nm, er]; rfl] at this
  exact this
theorem appIns_any (w0 w : World) (v : Value) (xs : List Nat) (a : Option Addr) (n cap : Nat) (l : List Int) (hw : Below w0.heap.size w0 w) (h : Row w w0.heap.size v xs) (hn1 : n = l.length) (d : JRd w0 a l) (hn : n ≤ 1000000) (hl : (xs ++ encIns l).length ≤ 100000000) (ht : ∀ x ∈ l, inR x) :
    Calls Tryz.prog 26 #[v, .slice a n cap, .func (.func 27) #[] #[]] w (ApP w w0.heap.size v (xs ++ encIns l)) := by
  have e : encIns l = enc n ++ (l.map encZ1).flatten := by unfold encIns; rw [hn1]
  rw [e, ← List.append_assoc] at hl ⊢
  exact appInts_any w0 w v xs a n cap l encZ1 hw h hn1 hn d hl (fun V u ys x hx hV hu hy => appInt_any V w0.heap.size u ys x hu hV.size (by rw [List.length_append] at hy; omega) (ht x hx))
theorem appOs_any (SO : ShapeC) (w0 w : World) (v : Value) (xs : List Nat) (a : Option Addr) (n cap : Nat) (l : List Opx) (hw : Below w0.heap.size w0 w) (h : Row w w0.heap.size v xs) (hn1 : n = l.length) (d : ORd w0 a l) (hn : n ≤ 1000000) (hl : (xs ++ encOps l).length ≤ 100000000) (ht : ∀ o ∈ l, inO o ∧ isC o.c = true) :
    Calls Tryz.prog 31 #[v, .slice a n cap, .func (.func 33) #[] #[]] w (ApP w w0.heap.size v (xs ++ encOps l)) := by
  have e : encOps l = enc n ++ (l.map encOp).flatten := by unfold encOps; rw [hn1]
  rw [e, ← List.append_assoc] at hl ⊢
  exact appOps_any w0 w v xs a n cap l encOp hw h hn1 hn d.crd hl (fun V u ys x hx hV hu hy => appOp_any SO V w0.heap.size u ys x hu hV.size (by rw [List.length_append] at hy; omega) (ht x hx).1 (ht x hx).2)
end Go.Proofs.YthnolocldeokeaaGreat

namespace Go.Proofs.YthnolocldeokeaaGreat
open Go.RowKit Go.Deep Go.Shelf
set_option linter.unusedVariables false
set_option linter.unusedSimpArgs false
attribute [local go_sem] Oper.semAt_some
abbrev pop3 : Array Oper := #[{ dst := some 15, op := Op.move (Operand.tmp 0), type := 119, pos := "code.go:38", after := #[], guard := none }, { dst := some 16, op := Op.fieldAddr 31 (Operand.tmp 1) 0, type := 0, pos := "code.go:38", after := #[], guard := none }, { dst := some 17, op := Op.fieldAddr 26 (Operand.tmp 16) 2, type := 0, pos := "code.go:38", after := #[{ on := 1, ground := Ground.data }], guard := none }, { dst := some 18, op := Op.load 24 (Operand.tmp 17), type := 24, pos := "code.go:38", after := #[{ on := 2, ground := Ground.data }], guard := none }, { dst := some 19, op := Op.move (Operand.tmp 3), type := 3, pos := "code.go:38", after := #[], guard := none }, { dst := some 20, op := Op.indexAddr 24 (Operand.tmp 18) (Operand.tmp 19), type := 0, pos := "code.go:38", after := #[{ on := 3, ground := Ground.data }, { on := 4, ground := Ground.data }], guard := none }, { dst := some 21, op := Op.load 49 (Operand.tmp 20), type := 49, pos := "code.go:38", after := #[{ on := 5, ground := Ground.data }], guard := none }, { dst := some 22, op := Op.load 57 (Operand.tmp 4), type := 57, pos := "code.go:38", after := #[], guard := none }, { dst := some 23, op := Op.call { callee := Callee.value (Operand.tmp 15), args := #[Operand.tmp 21, Operand.tmp 22], argTypes := #[49, 57] }, type := 4, pos := "code.go:38", after := #[{ on := 0, ground := Ground.data }, { on := 6, ground := Ground.data }, { on := 7, ground := Ground.data }], guard := none }, { dst := some 24, op := Op.unOp UnOp.not 4 (Operand.tmp 23), type := 4, pos := "code.go:38", after := #[{ on := 8, ground := Ground.data }], guard := none }]
theorem pop3_ready : ∀ b0 b1 b2 b3 b4 b5 b6 b7 : Bool, Region.ready .any pop3 #[b0, b1, b2, b3, b4, b5, b6, b7, false, false] ≠ [] := by decide +kernel
set_option maxRecDepth 100000 in
set_option maxHeartbeats 2000000 in
theorem pop3_reads (F : Fence) (n : Nat) (hro : F.round = none) (w : World) (l Bx fb k sb so sn sc : Nat) (nm : ByteArray) (pa : Option Addr) (pn pc : Nat) (kd rr regs : Int) (oa : Option Addr) (on oc : Nat) (p2 p5 p6 p7 p8 p9 p10 p11 p12 p13 p14 p25 p26 p27 p28 p29 p30 p31 p32 p33 p34 p35 p36 p37 p38 p39 p40 p41 p42 p43 p44 : Value) (Q : Exit → Act → World → Prop)
    (hB : w.cell? ⟨Bx, 2, none⟩ = some (.slice (some ⟨sb, so, none⟩) sn sc)) (hk : k < sn) (hsn : sn ≤ 9223372036854775807)
    (x0 : w.cell? ⟨sb, so + k * 4, none⟩ = some (.string nm)) (x1 : w.cell? ⟨sb, so + k * 4 + 1, none⟩ = some (.slice pa pn pc)) (x2 : w.cell? ⟨sb, so + k * 4 + 2, none⟩ = some (.int .i64 kd)) (x3 : w.cell? ⟨sb, so + k * 4 + 3, none⟩ = some (.int .i64 rr))
    (y0 : w.cell? ⟨fb, 0, none⟩ = some (.int .i64 regs)) (y1 : w.cell? ⟨fb, 1, none⟩ = some (.slice oa on oc))
    (hend : ∀ u23' u24', wpAnyIn F n Tryz.prog .any pop3 Q 2 #[true, true, true, true, true, true, true, true, false, false] { tmps := #[.func (.yield l) #[] #[], .pointer (some ⟨Bx, 0, none⟩), p2, .int .i64 (k : Int), .pointer (some ⟨fb, 0, none⟩), p5, p6, p7, p8, p9, p10, p11, p12, p13, p14, .func (.yield l) #[] #[], .pointer (some ⟨Bx, 0, none⟩), .pointer (some ⟨Bx, 2, none⟩), .slice (some ⟨sb, so, none⟩) sn sc, .int .i64 (k : Int), .pointer (some ⟨sb, so + k * 4, none⟩), .agg #[.string nm, .slice pa pn pc, .int .i64 kd, .int .i64 rr], .agg #[.int .i64 regs, .slice oa on oc], u23', u24', p25, p26, p27, p28, p29, p30, p31, p32, p33, p34, p35, p36, p37, p38, p39, p40, p41, p42, p43, p44], defers := [] } w) :
    ∀ (fuel : Nat) (q0 q1 q2 q3 q4 q5 q6 q7 : Bool) (u15 u16 u17 u18 u19 u20 u21 u22 u23 u24 : Value) (e0 : q0 = true → u15 = .func (.yield l) #[] #[]) (e1 : q1 = true → u16 = .pointer (some ⟨Bx, 0, none⟩)) (e2 : q2 = true → u17 = .pointer (some ⟨Bx, 2, none⟩)) (e3 : q3 = true → u18 = .slice (some ⟨sb, so, none⟩) sn sc) (e4 : q4 = true → u19 = .int .i64 (k : Int)) (e5 : q5 = true → u20 = .pointer (some ⟨sb, so + k * 4, none⟩)) (e6 : q6 = true → u21 = .agg #[.string nm, .slice pa pn pc, .int .i64 kd, .int .i64 rr]) (e7 : q7 = true → u22 = .agg #[.int .i64 regs, .slice oa on oc]) (c2 : q2 = true → q1 = true) (c3 : q3 = true → q2 = true) (c5 : q5 = true → q3 = true ∧ q4 = true) (c6 : q6 = true → q5 = true), (!q0).toNat + (!q1).toNat + (!q2).toNat + (!q3).toNat + (!q4).toNat + (!q5).toNat + (!q6).toNat + (!q7).toNat + 2 = fuel → wpAnyIn F n Tryz.prog .any pop3 Q fuel #[q0, q1, q2, q3, q4, q5, q6, q7, false, false] { tmps := #[.func (.yield l) #[] #[], .pointer (some ⟨Bx, 0, none⟩), p2, .int .i64 (k : Int), .pointer (some ⟨fb, 0, none⟩), p5, p6, p7, p8, p9, p10, p11, p12, p13, p14, u15, u16, u17, u18, u19, u20, u21, u22, u23, u24, p25, p26, p27, p28, p29, p30, p31, p32, p33, p34, p35, p36, p37, p38, p39, p40, p41, p42, p43, p44], defers := [] } w := by
  have hkI : (k : Int) < (sn : Int) := by omega
  have hk0 : (0 : Int) ≤ (k : Int) := by omega
  intro fuel
  induction fuel with
  | zero => intro q0 q1 q2 q3 q4 q5 q6 q7 u15 u16 u17 u18 u19 u20 u21 u22 u23 u24 e0 e1 e2 e3 e4 e5 e6 e7 c2 c3 c5 c6 hc; omega
  | succ fuel ih =>
  intro q0 q1 q2 q3 q4 q5 q6 q7 u15 u16 u17 u18 u19 u20 u21 u22 u23 u24 e0 e1 e2 e3 e4 e5 e6 e7 c2 c3 c5 c6 hc
  refine ⟨fun h => absurd h (pop3_ready _ _ _ _ _ _ _ _), fun j hj => ?_⟩
  match j, hj with
  | 0, hj =>
    obtain ⟨hj0, o, ho, hd⟩ := mem_ready.1 hj
    have hq : q0 = false := by simpa using hj0
    refine wpOpIn_step rfl (fun K hK => ?_)
    clear hd ho hj0 hj
    go_simp
    refine hK _ _ ?_
    exact ih true q1 q2 q3 q4 q5 q6 q7 _ _ _ _ _ _ _ _ _ _ (fun _ => rfl) (by first | exact e1 | exact fun _ => rfl) (by first | exact e2 | exact fun _ => rfl) (by first | exact e3 | exact fun _ => rfl) (by first | exact e4 | exact fun _ => rfl) (by first | exact e5 | exact fun _ => rfl) (by first | exact e6 | exact fun _ => rfl) (by first | exact e7 | exact fun _ => rfl) c2 c3 c5 c6 (by rw [hq] at hc; simp at hc ⊢; omega)
  | 1, hj =>
    obtain ⟨hj0, o, ho, hd⟩ := mem_ready.1 hj
    have hq : q1 = false := by simpa using hj0
    refine wpOpIn_step rfl (fun K hK => ?_)
    clear hd ho hj0 hj
    go_simp
    refine hK _ _ ?_
    exact ih q0 true q2 q3 q4 q5 q6 q7 _ _ _ _ _ _ _ _ _ _ (by first | exact e0 | exact fun _ => rfl) (fun _ => rfl) (by first | exact e2 | exact fun _ => rfl) (by first | exact e3 | exact fun _ => rfl) (by first | exact e4 | exact fun _ => rfl) (by first | exact e5 | exact fun _ => rfl) (by first | exact e6 | exact fun _ => rfl) (by first | exact e7 | exact fun _ => rfl) (fun _ => rfl) c3 c5 c6 (by rw [hq] at hc; simp at hc ⊢; omega)
  | 2, hj =>
    obtain ⟨hj0, o, ho, hd⟩ := mem_ready.1 hj
    have hq : q2 = false := by simpa using hj0
    obtain rfl : _ = o := Option.some.inj ho
    have z1 : q1 = true := by simpa using hd { on := 1, ground := Ground.data } (by simp) rfl
    have f1 := e1 z1
    subst f1
    refine wpOpIn_step rfl (fun K hK => ?_)
    clear hd ho hj0 hj
    go_simp
    refine hK _ _ ?_
    exact ih q0 q1 true q3 q4 q5 q6 q7 _ _ _ _ _ _ _ _ _ _ (by first | exact e0 | exact fun _ => rfl) (by first | exact e1 | exact fun _ => rfl) (fun _ => rfl) (by first | exact e3 | exact fun _ => rfl) (by first | exact e4 | exact fun _ => rfl) (by first | exact e5 | exact fun _ => rfl) (by first | exact e6 | exact fun _ => rfl) (by first | exact e7 | exact fun _ => rfl) (fun _ => z1) (fun _ => rfl) c5 c6 (by rw [hq] at hc; simp at hc ⊢; omega)
  | 3, hj =>
    obtain ⟨hj0, o, ho, hd⟩ := mem_ready.1 hj
    have hq : q3 = false := by simpa using hj0
    obtain rfl : _ = o := Option.some.inj ho
    have z2 : q2 = true := by simpa using hd { on := 2, ground := Ground.data } (by simp) rfl
    have f2 := e2 z2
    subst f2
    refine wpOpIn_step rfl (fun K hK => ?_)
    clear hd ho hj0 hj
    go_simp
    refine hK _ _ ?_
    exact ih q0 q1 q2 true q4 q5 q6 q7 _ _ _ _ _ _ _ _ _ _ (by first | exact e0 | exact fun _ => rfl) (by first | exact e1 | exact fun _ => rfl) (by first | exact e2 | exact fun _ => rfl) (fun _ => rfl) (by first | exact e4 | exact fun _ => rfl) (by first | exact e5 | exact fun _ => rfl) (by first | exact e6 | exact fun _ => rfl) (by first | exact e7 | exact fun _ => rfl) c2 (fun _ => z2) (fun h => ⟨rfl, (c5 h).2⟩) c6 (by rw [hq] at hc; simp at hc ⊢; omega)
  | 4, hj =>
    obtain ⟨hj0, o, ho, hd⟩ := mem_ready.1 hj
    have hq : q4 = false := by simpa using hj0
    refine wpOpIn_step rfl (fun K hK => ?_)
    clear hd ho hj0 hj
    go_simp
    refine hK _ _ ?_
    exact ih q0 q1 q2 q3 true q5 q6 q7 _ _ _ _ _ _ _ _ _ _ (by first | exact e0 | exact fun _ => rfl) (by first | exact e1 | exact fun _ => rfl) (by first | exact e2 | exact fun _ => rfl) (by first | exact e3 | exact fun _ => rfl) (fun _ => rfl) (by first | exact e5 | exact fun _ => rfl) (by first | exact e6 | exact fun _ => rfl) (by first | exact e7 | exact fun _ => rfl) c2 c3 (fun h => ⟨(c5 h).1, rfl⟩) c6 (by rw [hq] at hc; simp at hc ⊢; omega)
  | 5, hj =>
    obtain ⟨hj0, o, ho, hd⟩ := mem_ready.1 hj
    have hq : q5 = false := by simpa using hj0
    obtain rfl : _ = o := Option.some.inj ho
    have z3 : q3 = true := by simpa using hd { on := 3, ground := Ground.data } (by simp) rfl
    have f3 := e3 z3
    have z4 : q4 = true := by simpa using hd { on := 4, ground := Ground.data } (by simp) rfl
    have f4 := e4 z4
    subst f3 f4
    refine wpOpIn_step rfl (fun K hK => ?_)
    clear hd ho hj0 hj
    go_simp
    refine hK _ _ ?_
    exact ih q0 q1 q2 q3 q4 true q6 q7 _ _ _ _ _ _ _ _ _ _ (by first | exact e0 | exact fun _ => rfl) (by first | exact e1 | exact fun _ => rfl) (by first | exact e2 | exact fun _ => rfl) (by first | exact e3 | exact fun _ => rfl) (by first | exact e4 | exact fun _ => rfl) (fun _ => rfl) (by first | exact e6 | exact fun _ => rfl) (by first | exact e7 | exact fun _ => rfl) c2 c3 (fun _ => ⟨z3, z4⟩) (fun _ => rfl) (by rw [hq] at hc; simp at hc ⊢; omega)
  | 6, hj =>
    obtain ⟨hj0, o, ho, hd⟩ := mem_ready.1 hj
    have hq : q6 = false := by simpa using hj0
    obtain rfl : _ = o := Option.some.inj ho
    have z5 : q5 = true := by simpa using hd { on := 5, ground := Ground.data } (by simp) rfl
    have f5 := e5 z5
    subst f5
    refine wpOpIn_step rfl (fun K hK => ?_)
    clear hd ho hj0 hj
    go_simp
    refine hK _ _ ?_
    exact ih q0 q1 q2 q3 q4 q5 true q7 _ _ _ _ _ _ _ _ _ _ (by first | exact e0 | exact fun _ => rfl) (by first | exact e1 | exact fun _ => rfl) (by first | exact e2 | exact fun _ => rfl) (by first | exact e3 | exact fun _ => rfl) (by first | exact e4 | exact fun _ => rfl) (by first | exact e5 | exact fun _ => rfl) (fun _ => rfl) (by first | exact e7 | exact fun _ => rfl) c2 c3 c5 (fun _ => z5) (by rw [hq] at hc; simp at hc ⊢; omega)
  | 7, hj =>
    obtain ⟨hj0, o, ho, hd⟩ := mem_ready.1 hj
    have hq : q7 = false := by simpa using hj0
    refine wpOpIn_step rfl (fun K hK => ?_)
    clear hd ho hj0 hj
    go_simp
    refine hK _ _ ?_
    exact ih q0 q1 q2 q3 q4 q5 q6 true _ _ _ _ _ _ _ _ _ _ (by first | exact e0 | exact fun _ => rfl) (by first | exact e1 | exact fun _ => rfl) (by first | exact e2 | exact fun _ => rfl) (by first | exact e3 | exact fun _ => rfl) (by first | exact e4 | exact fun _ => rfl) (by first | exact e5 | exact fun _ => rfl) (by first | exact e6 | exact fun _ => rfl) (fun _ => rfl) c2 c3 c5 c6 (by rw [hq] at hc; simp at hc ⊢; omega)
  | 8, hj =>
    obtain ⟨hj0, o, ho, hd⟩ := mem_ready.1 hj
    obtain rfl : _ = o := Option.some.inj ho
    have z0 : q0 = true := by simpa using hd { on := 0, ground := Ground.data } (by simp) rfl
    have z6 : q6 = true := by simpa using hd { on := 6, ground := Ground.data } (by simp) rfl
    have z7 : q7 = true := by simpa using hd { on := 7, ground := Ground.data } (by simp) rfl
    have z5 := c6 z6
    obtain ⟨z3, z4⟩ := c5 z5
    have z2 := c3 z3
    have z1 := c2 z2
    have f0 := e0 z0
    have f1 := e1 z1
    have f2 := e2 z2
    have f3 := e3 z3
    have f4 := e4 z4
    have f5 := e5 z5
    have f6 := e6 z6
    have f7 := e7 z7
    subst f0 f1 f2 f3 f4 f5 f6 f7
    subst z0 z1 z2 z3 z4 z5 z6 z7
    obtain rfl : fuel = 1 := by simp at hc; omega
    exact (hend u23 u24).2 8 hj
  | 9, hj =>
    obtain ⟨hj0, o, ho, hd⟩ := mem_ready.1 hj
    obtain rfl : _ = o := Option.some.inj ho
    have := hd { on := 8, ground := Ground.data } (by simp) rfl
    simp at this
  | j + 10, hj =>
    obtain ⟨hj0, o, ho, hd⟩ := mem_ready.1 hj
    simp [pop3] at ho
abbrev pop8 : Array Oper := #[{ dst := some 34, op := Op.move (Operand.tmp 0), type := 119, pos := "code.go:43", after := #[], guard := none }, { dst := some 35, op := Op.fieldAddr 31 (Operand.tmp 1) 0, type := 0, pos := "code.go:43", after := #[], guard := none }, { dst := some 36, op := Op.fieldAddr 26 (Operand.tmp 35) 3, type := 0, pos := "code.go:43", after := #[{ on := 1, ground := Ground.data }], guard := none }, { dst := some 37, op := Op.load 24 (Operand.tmp 36), type := 24, pos := "code.go:43", after := #[{ on := 2, ground := Ground.data }], guard := none }, { dst := some 38, op := Op.move (Operand.tmp 5), type := 3, pos := "code.go:43", after := #[], guard := none }, { dst := some 39, op := Op.indexAddr 24 (Operand.tmp 37) (Operand.tmp 38), type := 0, pos := "code.go:43", after := #[{ on := 3, ground := Ground.data }, { on := 4, ground := Ground.data }], guard := none }, { dst := some 40, op := Op.load 49 (Operand.tmp 39), type := 49, pos := "code.go:43", after := #[{ on := 5, ground := Ground.data }], guard := none }, { dst := some 41, op := Op.load 57 (Operand.tmp 6), type := 57, pos := "code.go:43", after := #[], guard := none }, { dst := some 42, op := Op.call { callee := Callee.value (Operand.tmp 34), args := #[Operand.tmp 40, Operand.tmp 41], argTypes := #[49, 57] }, type := 4, pos := "code.go:43", after := #[{ on := 0, ground := Ground.data }, { on := 6, ground := Ground.data }, { on := 7, ground := Ground.data }], guard := none }, { dst := some 43, op := Op.unOp UnOp.not 4 (Operand.tmp 42), type := 4, pos := "code.go:43", after := #[{ on := 8, ground := Ground.data }], guard := none }]
theorem pop8_ready : ∀ b0 b1 b2 b3 b4 b5 b6 b7 : Bool, Region.ready .any pop8 #[b0, b1, b2, b3, b4, b5, b6, b7, false, false] ≠ [] := by decide +kernel
set_option maxRecDepth 100000 in
set_option maxHeartbeats 2000000 in
theorem pop8_reads (F : Fence) (n : Nat) (hro : F.round = none) (w : World) (l Bx fb k sb so sn sc : Nat) (nm : ByteArray) (pa : Option Addr) (pn pc : Nat) (kd rr regs : Int) (oa : Option Addr) (on oc : Nat) (p2 p3 p4 p7 p8 p9 p10 p11 p12 p13 p14 p15 p16 p17 p18 p19 p20 p21 p22 p23 p24 p25 p26 p27 p28 p29 p30 p31 p32 p33 p44 : Value) (Q : Exit → Act → World → Prop)
    (hB : w.cell? ⟨Bx, 3, none⟩ = some (.slice (some ⟨sb, so, none⟩) sn sc)) (hk : k < sn) (hsn : sn ≤ 9223372036854775807)
    (x0 : w.cell? ⟨sb, so + k * 4, none⟩ = some (.string nm)) (x1 : w.cell? ⟨sb, so + k * 4 + 1, none⟩ = some (.slice pa pn pc)) (x2 : w.cell? ⟨sb, so + k * 4 + 2, none⟩ = some (.int .i64 kd)) (x3 : w.cell? ⟨sb, so + k * 4 + 3, none⟩ = some (.int .i64 rr))
    (y0 : w.cell? ⟨fb, 0, none⟩ = some (.int .i64 regs)) (y1 : w.cell? ⟨fb, 1, none⟩ = some (.slice oa on oc))
    (hend : ∀ u42' u43', wpAnyIn F n Tryz.prog .any pop8 Q 2 #[true, true, true, true, true, true, true, true, false, false] { tmps := #[.func (.yield l) #[] #[], .pointer (some ⟨Bx, 0, none⟩), p2, p3, p4, .int .i64 (k : Int), .pointer (some ⟨fb, 0, none⟩), p7, p8, p9, p10, p11, p12, p13, p14, p15, p16, p17, p18, p19, p20, p21, p22, p23, p24, p25, p26, p27, p28, p29, p30, p31, p32, p33, .func (.yield l) #[] #[], .pointer (some ⟨Bx, 0, none⟩), .pointer (some ⟨Bx, 3, none⟩), .slice (some ⟨sb, so, none⟩) sn sc, .int .i64 (k : Int), .pointer (some ⟨sb, so + k * 4, none⟩), .agg #[.string nm, .slice pa pn pc, .int .i64 kd, .int .i64 rr], .agg #[.int .i64 regs, .slice oa on oc], u42', u43', p44], defers := [] } w) :
    ∀ (fuel : Nat) (q0 q1 q2 q3 q4 q5 q6 q7 : Bool) (u34 u35 u36 u37 u38 u39 u40 u41 u42 u43 : Value) (e0 : q0 = true → u34 = .func (.yield l) #[] #[]) (e1 : q1 = true → u35 = .pointer (some ⟨Bx, 0, none⟩)) (e2 : q2 = true → u36 = .pointer (some ⟨Bx, 3, none⟩)) (e3 : q3 = true → u37 = .slice (some ⟨sb, so, none⟩) sn sc) (e4 : q4 = true → u38 = .int .i64 (k : Int)) (e5 : q5 = true → u39 = .pointer (some ⟨sb, so + k * 4, none⟩)) (e6 : q6 = true → u40 = .agg #[.string nm, .slice pa pn pc, .int .i64 kd, .int .i64 rr]) (e7 : q7 = true → u41 = .agg #[.int .i64 regs, .slice oa on oc]) (c2 : q2 = true → q1 = true) (c3 : q3 = true → q2 = true) (c5 : q5 = true → q3 = true ∧ q4 = true) (c6 : q6 = true → q5 = true), (!q0).toNat + (!q1).toNat + (!q2).toNat + (!q3).toNat + (!q4).toNat + (!q5).toNat + (!q6).toNat + (!q7).toNat + 2 = fuel → wpAnyIn F n Tryz.prog .any pop8 Q fuel #[q0, q1, q2, q3, q4, q5, q6, q7, false, false] { tmps := #[.func (.yield l) #[] #[], .pointer (some ⟨Bx, 0, none⟩), p2, p3, p4, .int .i64 (k : Int), .pointer (some ⟨fb, 0, none⟩), p7, p8, p9, p10, p11, p12, p13, p14, p15, p16, p17, p18, p19, p20, p21, p22, p23, p24, p25, p26, p27, p28, p29, p30, p31, p32, p33, u34, u35, u36, u37, u38, u39, u40, u41, u42, u43, p44], defers := [] } w := by
  have hkI : (k : Int) < (sn : Int) := by omega
  have hk0 : (0 : Int) ≤ (k : Int) := by omega
  intro fuel
  induction fuel with
  | zero => intro q0 q1 q2 q3 q4 q5 q6 q7 u34 u35 u36 u37 u38 u39 u40 u41 u42 u43 e0 e1 e2 e3 e4 e5 e6 e7 c2 c3 c5 c6 hc; omega
  | succ fuel ih =>
  intro q0 q1 q2 q3 q4 q5 q6 q7 u34 u35 u36 u37 u38 u39 u40 u41 u42 u43 e0 e1 e2 e3 e4 e5 e6 e7 c2 c3 c5 c6 hc
  refine ⟨fun h => absurd h (pop8_ready _ _ _ _ _ _ _ _), fun j hj => ?_⟩
  match j, hj with
  | 0, hj =>
    obtain ⟨hj0, o, ho, hd⟩ := mem_ready.1 hj
    have hq : q0 = false := by simpa using hj0
    refine wpOpIn_step rfl (fun K hK => ?_)
    clear hd ho hj0 hj
    go_simp
    refine hK _ _ ?_
    exact ih true q1 q2 q3 q4 q5 q6 q7 _ _ _ _ _ _ _ _ _ _ (fun _ => rfl) (by first | exact e1 | exact fun _ => rfl) (by first | exact e2 | exact fun _ => rfl) (by first | exact e3 | exact fun _ => rfl) (by first | exact e4 | exact fun _ => rfl) (by first | exact e5 | exact fun _ => rfl) (by first | exact e6 | exact fun _ => rfl) (by first | exact e7 | exact fun _ => rfl) c2 c3 c5 c6 (by rw [hq] at hc; simp at hc ⊢; omega)
  | 1, hj =>
    obtain ⟨hj0, o, ho, hd⟩ := mem_ready.1 hj
    have hq : q1 = false := by simpa using hj0
    refine wpOpIn_step rfl (fun K hK => ?_)
    clear hd ho hj0 hj
    go_simp
    refine hK _ _ ?_
    exact ih q0 true q2 q3 q4 q5 q6 q7 _ _ _ _ _ _ _ _ _ _ (by first | exact e0 | exact fun _ => rfl) (fun _ => rfl) (by first | exact e2 | exact fun _ => rfl) (by first | exact e3 | exact fun _ => rfl) (by first | exact e4 | exact fun _ => rfl) (by first | exact e5 | exact fun _ => rfl) (by first | exact e6 | exact fun _ => rfl) (by first | exact e7 | exact fun _ => rfl) (fun _ => rfl) c3 c5 c6 (by rw [hq] at hc; simp at hc ⊢; omega)
  | 2, hj =>
    obtain ⟨hj0, o, ho, hd⟩ := mem_ready.1 hj
    have hq : q2 = false := by simpa using hj0
    obtain rfl : _ = o := Option.some.inj ho
    have z1 : q1 = true := by simpa using hd { on := 1, ground := Ground.data } (by simp) rfl
    have f1 := e1 z1
    subst f1
    refine wpOpIn_step rfl (fun K hK => ?_)
    clear hd ho hj0 hj
    go_simp
    refine hK _ _ ?_
    exact ih q0 q1 true q3 q4 q5 q6 q7 _ _ _ _ _ _ _ _ _ _ (by first | exact e0 | exact fun _ => rfl) (by first | exact e1 | exact fun _ => rfl) (fun _ => rfl) (by first | exact e3 | exact fun _ => rfl) (by first | exact e4 | exact fun _ => rfl) (by first | exact e5 | exact fun _ => rfl) (by first | exact e6 | exact fun _ => rfl) (by first | exact e7 | exact fun _ => rfl) (fun _ => z1) (fun _ => rfl) c5 c6 (by rw [hq] at hc; simp at hc ⊢; omega)
  | 3, hj =>
    obtain ⟨hj0, o, ho, hd⟩ := mem_ready.1 hj
    have hq : q3 = false := by simpa using hj0
    obtain rfl : _ = o := Option.some.inj ho
    have z2 : q2 = true := by simpa using hd { on := 2, ground := Ground.data } (by simp) rfl
    have f2 := e2 z2
    subst f2
    refine wpOpIn_step rfl (fun K hK => ?_)
    clear hd ho hj0 hj
    go_simp
    refine hK _ _ ?_
    exact ih q0 q1 q2 true q4 q5 q6 q7 _ _ _ _ _ _ _ _ _ _ (by first | exact e0 | exact fun _ => rfl) (by first | exact e1 | exact fun _ => rfl) (by first | exact e2 | exact fun _ => rfl) (fun _ => rfl) (by first | exact e4 | exact fun _ => rfl) (by first | exact e5 | exact fun _ => rfl) (by first | exact e6 | exact fun _ => rfl) (by first | exact e7 | exact fun _ => rfl) c2 (fun _ => z2) (fun h => ⟨rfl, (c5 h).2⟩) c6 (by rw [hq] at hc; simp at hc ⊢; omega)
  | 4, hj =>
    obtain ⟨hj0, o, ho, hd⟩ := mem_ready.1 hj
    have hq : q4 = false := by simpa using hj0
    refine wpOpIn_step rfl (fun K hK => ?_)
    clear hd ho hj0 hj
    go_simp
    refine hK _ _ ?_
    exact ih q0 q1 q2 q3 true q5 q6 q7 _ _ _ _ _ _ _ _ _ _ (by first | exact e0 | exact fun _ => rfl) (by first | exact e1 | exact fun _ => rfl) (by first | exact e2 | exact fun _ => rfl) (by first | exact e3 | exact fun _ => rfl) (fun _ => rfl) (by first | exact e5 | exact fun _ => rfl) (by first | exact e6 | exact fun _ => rfl) (by first | exact e7 | exact fun _ => rfl) c2 c3 (fun h => ⟨(c5 h).1, rfl⟩) c6 (by rw [hq] at hc; simp at hc ⊢; omega)
  | 5, hj =>
    obtain ⟨hj0, o, ho, hd⟩ := mem_ready.1 hj
    have hq : q5 = false := by simpa using hj0
    obtain rfl : _ = o := Option.some.inj ho
    have z3 : q3 = true := by simpa using hd { on := 3, ground := Ground.data } (by simp) rfl
    have f3 := e3 z3
    have z4 : q4 = true := by simpa using hd { on := 4, ground := Ground.data } (by simp) rfl
    have f4 := e4 z4
    subst f3 f4
    refine wpOpIn_step rfl (fun K hK => ?_)
    clear hd ho hj0 hj
    go_simp
    refine hK _ _ ?_
    exact ih q0 q1 q2 q3 q4 true q6 q7 _ _ _ _ _ _ _ _ _ _ (by first | exact e0 | exact fun _ => rfl) (by first | exact e1 | exact fun _ => rfl) (by first | exact e2 | exact fun _ => rfl) (by first | exact e3 | exact fun _ => rfl) (by first | exact e4 | exact fun _ => rfl) (fun _ => rfl) (by first | exact e6 | exact fun _ => rfl) (by first | exact e7 | exact fun _ => rfl) c2 c3 (fun _ => ⟨z3, z4⟩) (fun _ => rfl) (by rw [hq] at hc; simp at hc ⊢; omega)
  | 6, hj =>
    obtain ⟨hj0, o, ho, hd⟩ := mem_ready.1 hj
    have hq : q6 = false := by simpa using hj0
    obtain rfl : _ = o := Option.some.inj ho
    have z5 : q5 = true := by simpa using hd { on := 5, ground := Ground.data } (by simp) rfl
    have f5 := e5 z5
    subst f5
    refine wpOpIn_step rfl (fun K hK => ?_)
    clear hd ho hj0 hj
    go_simp
    refine hK _ _ ?_
    exact ih q0 q1 q2 q3 q4 q5 true q7 _ _ _ _ _ _ _ _ _ _ (by first | exact e0 | exact fun _ => rfl) (by first | exact e1 | exact fun _ => rfl) (by first | exact e2 | exact fun _ => rfl) (by first | exact e3 | exact fun _ => rfl) (by first | exact e4 | exact fun _ => rfl) (by first | exact e5 | exact fun _ => rfl) (fun _ => rfl) (by first | exact e7 | exact fun _ => rfl) c2 c3 c5 (fun _ => z5) (by rw [hq] at hc; simp at hc ⊢; omega)
  | 7, hj =>
    obtain ⟨hj0, o, ho, hd⟩ := mem_ready.1 hj
    have hq : q7 = false := by simpa using hj0
    refine wpOpIn_step rfl (fun K hK => ?_)
    clear hd ho hj0 hj
    go_simp
    refine hK _ _ ?_
    exact ih q0 q1 q2 q3 q4 q5 q6 true _ _ _ _ _ _ _ _ _ _ (by first | exact e0 | exact fun _ => rfl) (by first | exact e1 | exact fun _ => rfl) (by first | exact e2 | exact fun _ => rfl) (by first | exact e3 | exact fun _ => rfl) (by first | exact e4 | exact fun _ => rfl) (by first | exact e5 | exact fun _ => rfl) (by first | exact e6 | exact fun _ => rfl) (fun _ => rfl) c2 c3 c5 c6 (by rw [hq] at hc; simp at hc ⊢; omega)
  | 8, hj =>
    obtain ⟨hj0, o, ho, hd⟩ := mem_ready.1 hj
    obtain rfl : _ = o := Option.some.inj ho
    have z0 : q0 = true := by simpa using hd { on := 0, ground := Ground.data } (by simp) rfl
    have z6 : q6 = true := by simpa using hd { on := 6, ground := Ground.data } (by simp) rfl
    have z7 : q7 = true := by simpa using hd { on := 7, ground := Ground.data } (by simp) rfl
    have z5 := c6 z6
    obtain ⟨z3, z4⟩ := c5 z5
    have z2 := c3 z3
    have z1 := c2 z2
    have f0 := e0 z0
    have f1 := e1 z1
    have f2 := e2 z2
    have f3 := e3 z3
    have f4 := e4 z4
    have f5 := e5 z5
    have f6 := e6 z6
    have f7 := e7 z7
    subst f0 f1 f2 f3 f4 f5 f6 f7
    subst z0 z1 z2 z3 z4 z5 z6 z7
    obtain rfl : fuel = 1 := by simp at hc; omega
    exact (hend u42 u43).2 8 hj
  | 9, hj =>
    obtain ⟨hj0, o, ho, hd⟩ := mem_ready.1 hj
    obtain rfl : _ = o := Option.some.inj ho
    have := hd { on := 8, ground := Ground.data } (by simp) rfl
    simp at this
  | j + 10, hj =>
    obtain ⟨hj0, o, ho, hd⟩ := mem_ready.1 hj
    simp [pop8] at ho
end Go.Proofs.YthnolocldeokeaaGreat

