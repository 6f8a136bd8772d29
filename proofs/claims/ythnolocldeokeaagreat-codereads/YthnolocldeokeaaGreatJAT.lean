/- What is written is read back; what is read has just these bytes. -/
import Derived.Test.YthnolocldeokeaaGreatJAS
import Derived.Sort.LoopGhostIn
import Derived.OrdersIn
namespace Go.Proofs.YthnolocldeokeaaGreat
open Go.RowKit Go.Deep Go.Shelf
set_option linter.unusedVariables false
set_option linter.unusedSimpArgs false
set_option maxRecDepth 100000
structure Trip {α : Type} (r : Option (List Nat) → α × Option (List Nat)) (e : α → List Nat) (P : α → Prop) : Prop where
  fw : ∀ x m, P x → r (some (e x ++ m)) = (x, some m)
  bk : ∀ bs x m, Byt bs → r (some bs) = (x, some m) → bs = e x ++ m ∧ P x
  no : (r none).2 = none
theorem Byt.tail {a m : List Nat} (h : Byt (a ++ m)) : Byt m := fun x hx => h x (List.mem_append.2 (.inr hx))
theorem Trip.via {α : Type} {r : Option (List Nat) → α × Option (List Nat)} {e e' : α → List Nat} {P : α → Prop} (h : Trip r e P) (he : ∀ x, e' x = e x) : Trip r e' P :=
  ⟨fun x m hp => by rw [he]; exact h.fw x m hp, fun bs x m hb q => by rw [he]; exact h.bk bs x m hb q, h.no⟩
theorem tripU : Trip rU enc (fun n => n < 18446744073709551616) := by
  refine ⟨fun x m h => ?_, fun bs x m hb h => ?_, by simp [rU, dec, decAt]⟩
  · unfold rU
    rw [Option.getD_some, dec_enc x m h]
    simp
  · unfold rU at h
    rw [Option.getD_some] at h
    cases hd : dec bs with
    | none => rw [hd] at h; simp at h
    | some p =>
      obtain ⟨q, k⟩ := p
      rw [hd] at h
      simp only [Prod.mk.injEq, Option.some.injEq] at h
      obtain ⟨rfl, rfl⟩ := h
      obtain ⟨h1, h2, _⟩ := dec_back hb hd
      exact ⟨by rw [← h1, List.take_append_drop], h2⟩
theorem unzz_inR {q : Nat} (h : q < 18446744073709551616) : inR (unzz q) := by
  unfold unzz inR
  split <;> omega
theorem tripI : Trip rI (fun k => enc (zz k)) inR := by
  refine ⟨fun x m h => ?_, fun bs x m hb h => ?_, by simp [rI, dec, decAt]⟩
  · unfold rI
    rw [Option.getD_some, dec_enc _ m (zz_lt x h.1 h.2)]
    simp [unzz_zz]
  · unfold rI at h
    rw [Option.getD_some] at h
    cases hd : dec bs with
    | none => rw [hd] at h; simp at h
    | some p =>
      obtain ⟨q, k⟩ := p
      rw [hd] at h
      simp only [Prod.mk.injEq, Option.some.injEq] at h
      obtain ⟨rfl, rfl⟩ := h
      obtain ⟨h1, h2, _⟩ := dec_back hb hd
      exact ⟨by rw [zz_unzz, ← h1, List.take_append_drop], unzz_inR h2⟩
theorem tripC (most : Nat) (hm : most < 18446744073709551616) : Trip (rC most) enc (fun n => n ≤ most) := by
  refine ⟨fun x m h => ?_, fun bs x m hb h => ?_, ?_⟩
  · unfold rC
    rw [tripU.fw x m (by omega), if_neg (by simp; omega)]
  · unfold rC at h
    split at h
    · simp at h
    · rename_i hn
      obtain ⟨h1, h2⟩ := tripU.bk bs x m hb h
      rw [h] at hn
      exact ⟨h1, by simpa using hn⟩
  · unfold rC
    split
    · rfl
    · exact tripU.no
def PN (k : Int) : Prop := -1 ≤ k ∧ k ≤ 2000
theorem tripN : Trip rN (fun k => enc (zz k)) PN := by
  refine ⟨fun x m h => ?_, fun bs x m hb h => ?_, ?_⟩
  · obtain ⟨h1, h2⟩ := h
    unfold rN
    rw [tripI.fw x m ⟨by omega, by omega⟩, if_neg (by simp; omega)]
  · unfold rN at h
    split at h
    · simp at h
    · rename_i hn
      obtain ⟨h1, h2⟩ := tripI.bk bs x m hb h
      rw [h] at hn
      simp at hn
      exact ⟨h1, ⟨by omega, by omega⟩⟩
  · unfold rN
    split
    · rfl
    · exact tripI.no
theorem tripT : Trip rT encX (fun s => s.size ≤ 64) := by
  refine ⟨fun x m h => ?_, fun bs x m hb h => ?_, by simp [rT, textD, dec, decAt]⟩
  · unfold rT
    rw [Option.getD_some, textD_more 64 x m (by omega), if_neg (by omega)]
    simp [ofB_sb]
  · unfold rT at h
    rw [Option.getD_some] at h
    cases ht : textD 64 bs with
    | error e => rw [ht] at h; simp at h
    | ok p =>
      obtain ⟨t, k⟩ := p
      rw [ht] at h
      simp only [Prod.mk.injEq, Option.some.injEq] at h
      obtain ⟨rfl, rfl⟩ := h
      unfold textD at ht
      cases hd : dec bs with
      | none => rw [hd] at ht; cases ht
      | some p =>
        obtain ⟨n, k'⟩ := p
        rw [hd] at ht
        simp only at ht
        split at ht
        · cases ht
        · split at ht
          · cases ht
          · rename_i h1 h2
            simp only [Except.ok.injEq, Prod.mk.injEq] at ht
            obtain ⟨rfl, rfl⟩ := ht
            obtain ⟨e1, _⟩ := dec_back hb hd
            have hl : ((bs.drop k').take n).length = n := by rw [List.length_take, List.length_drop]; omega
            have hB : Byt ((bs.drop k').take n) := (hb.drop k').take n
            refine ⟨?_, by rw [ofB_size, hl]; omega⟩
            unfold encX
            rw [ofB_size, hl, sb_ofB hB, ← e1, List.append_assoc, ← List.drop_drop, List.take_append_drop, List.take_append_drop]
theorem Trip.two {α β γ : Type} {r1 : Option (List Nat) → α × Option (List Nat)} {e1 : α → List Nat} {P1 : α → Prop} {r2 : Option (List Nat) → β × Option (List Nat)} {e2 : β → List Nat} {P2 : β → Prop} (h1 : Trip r1 e1 P1) (h2 : Trip r2 e2 P2) (mk : α → β → γ) (a : γ → α) (b : γ → β) (ha : ∀ x y, a (mk x y) = x) (hb : ∀ x y, b (mk x y) = y) (hm : ∀ z, mk (a z) (b z) = z) :
    Trip (fun s => (mk (r1 s).1 (r2 (r1 s).2).1, (r2 (r1 s).2).2)) (fun z => e1 (a z) ++ e2 (b z)) (fun z => P1 (a z) ∧ P2 (b z)) := by
  refine ⟨fun z m h => ?_, fun bs z m hB h => ?_, ?_⟩
  · simp only [List.append_assoc, h1.fw _ _ h.1, h2.fw _ _ h.2, hm]
  · simp only [Prod.mk.injEq] at h
    obtain ⟨hz, hs⟩ := h
    rcases q1 : r1 (some bs) with ⟨x, s1⟩
    rw [q1] at hz hs
    simp only at hz hs
    cases s1 with
    | none => rw [h2.no] at hs; cases hs
    | some m1 =>
      obtain ⟨e, p⟩ := h1.bk _ _ _ hB q1
      rcases q2 : r2 (some m1) with ⟨y, s2⟩
      rw [q2] at hz hs
      simp only at hz hs
      subst hs
      have hB2 : Byt m1 := by rw [e] at hB; exact hB.tail
      obtain ⟨e', p'⟩ := h2.bk _ _ _ hB2 q2
      subst hz
      refine ⟨?_, by rw [ha]; exact p, by rw [hb]; exact p'⟩
      rw [ha, hb, List.append_assoc, ← e', ← e]
  · show (r2 (r1 none).2).2 = none
    rw [h1.no]; exact h2.no
theorem Trip.three {α β δ γ : Type} {r1 : Option (List Nat) → α × Option (List Nat)} {e1 : α → List Nat} {P1 : α → Prop} {r2 : Option (List Nat) → β × Option (List Nat)} {e2 : β → List Nat} {P2 : β → Prop} {r3 : Option (List Nat) → δ × Option (List Nat)} {e3 : δ → List Nat} {P3 : δ → Prop} (h1 : Trip r1 e1 P1) (h2 : Trip r2 e2 P2) (h3 : Trip r3 e3 P3) (mk : α → β → δ → γ) (a : γ → α) (b : γ → β) (c : γ → δ) (ha : ∀ x y z, a (mk x y z) = x) (hb : ∀ x y z, b (mk x y z) = y) (hc : ∀ x y z, c (mk x y z) = z) (hm : ∀ z, mk (a z) (b z) (c z) = z) :
    Trip (fun s => (mk (r1 s).1 (r2 (r1 s).2).1 (r3 (r2 (r1 s).2).2).1, (r3 (r2 (r1 s).2).2).2)) (fun z => e1 (a z) ++ e2 (b z) ++ e3 (c z)) (fun z => P1 (a z) ∧ P2 (b z) ∧ P3 (c z)) :=
  (h1.two (h2.two h3 Prod.mk Prod.fst Prod.snd (fun _ _ => rfl) (fun _ _ => rfl) (fun _ => rfl)) (fun x p => mk x p.1 p.2) a (fun z => (b z, c z)) (fun x y => ha _ _ _) (fun x y => by rw [hb, hc]) hm).via (fun x => List.append_assoc _ _ _)
def PT (t : TyP) : Prop := PN t.1 ∧ PN t.2
theorem tripTy : Trip rTy encTy PT := tripN.two tripN Prod.mk Prod.fst Prod.snd (fun _ _ => rfl) (fun _ _ => rfl) (fun _ => rfl)
theorem ln_fw {α : Type} {r : Option (List Nat) → α × Option (List Nat)} {e : α → List Nat} {P : α → Prop} (h : Trip r e P) : ∀ (n : Nat) (l : List α), l.length = n → (∀ x ∈ l, P x) → ∀ m, rLn r n (some ((l.map e).flatten ++ m)) = (l, some m)
  | 0, l, hl, _, m => by
    have := List.eq_nil_of_length_eq_zero hl
    subst this
    simp [rLn]
  | n + 1, l, hl, hp, m => by
    rcases List.eq_nil_or_concat l with rfl | ⟨L, b, hL⟩
    · simp at hl
    · rw [List.concat_eq_append] at hL
      subst hL
      have ih := ln_fw h n L (by simpa using hl) (fun x hx => hp x (by simp [hx])) (e b ++ m)
      have hb := h.fw b m (hp b (by simp))
      have e1 : ((L ++ [b]).map e).flatten ++ m = (L.map e).flatten ++ (e b ++ m) := by simp
      rw [e1, rLn, ih]
      simp only [hb]
theorem ln_bk {α : Type} {r : Option (List Nat) → α × Option (List Nat)} {e : α → List Nat} {P : α → Prop} (h : Trip r e P) : ∀ (n : Nat) (bs : List Nat) (l : List α) (m : List Nat), Byt bs → rLn r n (some bs) = (l, some m) → l.length = n ∧ bs = (l.map e).flatten ++ m ∧ ∀ x ∈ l, P x
  | 0, bs, l, m, hb, q => by
    simp only [rLn, Prod.mk.injEq, Option.some.injEq] at q
    obtain ⟨rfl, rfl⟩ := q
    simp
  | n + 1, bs, l, m, hb, q => by
    rw [rLn] at q
    rcases q1 : rLn r n (some bs) with ⟨xs, st⟩
    rw [q1] at q
    cases st with
    | none => simp at q
    | some b1 =>
      simp only at q
      rcases q2 : r (some b1) with ⟨x, s2⟩
      rw [q2] at q
      cases s2 with
      | none => simp at q
      | some b2 =>
        simp only [Prod.mk.injEq, Option.some.injEq] at q
        obtain ⟨rfl, rfl⟩ := q
        obtain ⟨i1, i2, i3⟩ := ln_bk h n bs xs b1 hb q1
        have hB : Byt b1 := by rw [i2] at hb; exact hb.tail
        obtain ⟨j1, j2⟩ := h.bk b1 x b2 hB q2
        refine ⟨by simp [i1], ?_, fun y hy => ?_⟩
        · rw [i2, j1]; simp
        · rcases List.mem_append.1 hy with hy | hy
          · exact i3 y hy
          · simp at hy; subst hy; exact j2
theorem Trip.list {α : Type} {r : Option (List Nat) → α × Option (List Nat)} {e : α → List Nat} {P : α → Prop} (h : Trip r e P) (most : Nat) (hm : most < 18446744073709551616) : Trip (rL r most) (fun l => enc l.length ++ (l.map e).flatten) (fun l => l.length ≤ most ∧ ∀ x ∈ l, P x) := by
  have hC := tripC most hm
  refine ⟨fun l m hl => ?_, fun bs l m hB q => ?_, ?_⟩
  · unfold rL
    rw [List.append_assoc, hC.fw _ _ hl.1]
    exact ln_fw h _ l rfl hl.2 m
  · unfold rL at q
    rcases q1 : rC most (some bs) with ⟨n, st⟩
    rw [q1] at q
    simp only at q
    cases st with
    | none => have := rLn_from (one := r) n; rw [q] at this; cases this
    | some b1 =>
      obtain ⟨j1, j2⟩ := hC.bk bs n b1 hB q1
      have hB1 : Byt b1 := by rw [j1] at hB; exact hB.tail
      obtain ⟨i1, i2, i3⟩ := ln_bk h n b1 l m hB1 q
      exact ⟨by rw [i1, List.append_assoc, ← i2, ← j1], by rw [i1]; exact j2, i3⟩
  · unfold rL
    rw [hC.no]
    exact rLn_from _
theorem tripMp : Trip rMp encMp (fun m => m.name.size ≤ 64 ∧ PT m.key ∧ PT m.val) :=
  tripT.three tripTy tripTy (fun a b c => (⟨a, b, c⟩ : Mp)) Mp.name Mp.key Mp.val (fun _ _ _ => rfl) (fun _ _ _ => rfl) (fun _ _ _ => rfl) (fun _ => rfl)
def PTs (ts : List TyP) : Prop := ts.length ≤ 12 ∧ ∀ t ∈ ts, PT t
def PSs (ss : List ByteArray) : Prop := ss.length ≤ 12 ∧ ∀ s ∈ ss, s.size ≤ 64
def PSg (s : Sg) : Prop := s.name.size ≤ 64 ∧ PTs s.params ∧ PT s.res
def PRc (r : Rc) : Prop := r.name.size ≤ 64 ∧ PSs r.fields ∧ PTs r.types
theorem tripSg : Trip rSg encSg PSg :=
  tripT.three (tripTy.list 12 (by omega)) tripTy (fun a b c => (⟨a, b, c⟩ : Sg)) Sg.name Sg.params Sg.res (fun _ _ _ => rfl) (fun _ _ _ => rfl) (fun _ _ _ => rfl) (fun _ => rfl)
theorem tripRc : Trip rRc encRc PRc :=
  tripT.three (tripT.list 12 (by omega)) (tripTy.list 12 (by omega)) (fun a b c => (⟨a, b, c⟩ : Rc)) Rc.name Rc.fields Rc.types (fun _ _ _ => rfl) (fun _ _ _ => rfl) (fun _ _ _ => rfl) (fun _ => rfl)
def fde (what v : Int) : List Nat := if what = 0 then [] else enc (zz v)
def PF (what v : Int) : Prop := if what = 0 then v = 0 else PN v
theorem tripFd (what : Int) : Trip (rFd what) (fde what) (PF what) := by
  by_cases h : what = 0
  · refine ⟨fun x m hp => ?_, fun bs x m hb q => ?_, ?_⟩
    · simp only [PF, if_pos h] at hp
      simp [rFd, fde, h, hp]
    · simp only [rFd, if_pos h, Prod.mk.injEq, Option.some.injEq] at q
      obtain ⟨rfl, rfl⟩ := q
      simp [fde, PF, h]
    · simp [rFd, h]
  · refine ⟨fun x m hp => ?_, fun bs x m hb q => ?_, ?_⟩
    · simp only [PF, if_neg h] at hp
      simp only [rFd, fde, if_neg h]
      exact tripN.fw x m hp
    · simp only [rFd, if_neg h] at q
      simp only [fde, PF, if_neg h]
      exact tripN.bk bs x m hb q
    · simp only [rFd, if_neg h]
      exact tripN.no
def r4 (s : Shp) (st : Option (List Nat)) : (Int × Int × Int × Int) × Option (List Nat) :=
  (((rFd s.d st).1, (rFd s.a (rFd s.d st).2).1, (rFd s.b (rFd s.a (rFd s.d st).2).2).1, (rFd s.k (rFd s.b (rFd s.a (rFd s.d st).2).2).2).1), (rFd s.k (rFd s.b (rFd s.a (rFd s.d st).2).2).2).2)
theorem trip4 (s : Shp) : Trip (r4 s) (fun z => fde s.d z.1 ++ (fde s.a z.2.1 ++ (fde s.b z.2.2.1 ++ fde s.k z.2.2.2))) (fun z => PF s.d z.1 ∧ PF s.a z.2.1 ∧ PF s.b z.2.2.1 ∧ PF s.k z.2.2.2) :=
  (tripFd s.d).two ((tripFd s.a).two ((tripFd s.b).two (tripFd s.k) Prod.mk Prod.fst Prod.snd (fun _ _ => rfl) (fun _ _ => rfl) (fun _ => rfl)) Prod.mk Prod.fst Prod.snd (fun _ _ => rfl) (fun _ _ => rfl) (fun _ => rfl)) Prod.mk Prod.fst Prod.snd (fun _ _ => rfl) (fun _ _ => rfl) (fun _ => rfl)
theorem rO_eq (s : Option (List Nat)) : rO s = (⟨(rN s).1, (r4 (rSh (rN s).1) (rOs s)).1.1, (r4 (rSh (rN s).1) (rOs s)).1.2.1, (r4 (rSh (rN s).1) (rOs s)).1.2.2.1, (r4 (rSh (rN s).1) (rOs s)).1.2.2.2⟩, (r4 (rSh (rN s).1) (rOs s)).2) := rfl
theorem encOp_eq (o : Opx) : encOp o = enc (zz o.c) ++ (fde (shpAt o.c).d o.d ++ (fde (shpAt o.c).a o.a ++ (fde (shpAt o.c).b o.b ++ fde (shpAt o.c).k o.k))) := by
  simp [encOp, fourL, foe, fl, fde]
  rfl
def PO (o : Opx) : Prop := isC o.c = true ∧ PF (shpAt o.c).d o.d ∧ PF (shpAt o.c).a o.a ∧ PF (shpAt o.c).b o.b ∧ PF (shpAt o.c).k o.k
theorem tripO : Trip rO encOp PO := by
  refine ⟨fun o m hp => ?_, fun bs o m hB q => ?_, ?_⟩
  · obtain ⟨hc, hp⟩ := hp
    have hc2 : PN o.c := by unfold isC at hc; simp only [Bool.and_eq_true, decide_eq_true_eq] at hc; exact ⟨by omega, by omega⟩
    have q0 : rN (some (encOp o ++ m)) = (o.c, some ((fde (shpAt o.c).d o.d ++ (fde (shpAt o.c).a o.a ++ (fde (shpAt o.c).b o.b ++ fde (shpAt o.c).k o.k))) ++ m)) := by
      rw [encOp_eq, List.append_assoc]; exact tripN.fw _ _ hc2
    have q1 := (trip4 (shpAt o.c)).fw (o.d, o.a, o.b, o.k) m hp
    rw [rO_eq]
    simp only [q0, rOs, rSh, hc, if_pos]
    simp only at q1
    rw [q1]
  · rw [rO_eq] at q
    rcases q0 : rN (some bs) with ⟨c, s0⟩
    simp only [q0, rOs, rSh] at q
    cases hc : isC c with
    | false =>
      rw [hc] at q
      simp only [Bool.false_eq_true, if_false] at q
      have := congrArg Prod.snd q
      simp only at this
      rw [(trip4 shp0).no] at this
      cases this
    | true =>
      rw [hc] at q
      simp only [if_true] at q
      cases s0 with
      | none =>
        have := congrArg Prod.snd q
        simp only at this
        rw [(trip4 (shpAt c)).no] at this
        cases this
      | some b1 =>
        obtain ⟨e1, p1⟩ := tripN.bk bs c b1 hB q0
        have hB1 : Byt b1 := by rw [e1] at hB; exact hB.tail
        rcases q2 : r4 (shpAt c) (some b1) with ⟨⟨d, a, b, k⟩, s2⟩
        rw [q2] at q
        simp only [Prod.mk.injEq] at q
        obtain ⟨rfl, rfl⟩ := q
        obtain ⟨e2, p2⟩ := (trip4 (shpAt c)).bk b1 (d, a, b, k) m hB1 q2
        refine ⟨?_, hc, p2⟩
        rw [encOp_eq, List.append_assoc, ← e2, ← e1]
  · rw [rO_eq]
    simp only [rOs]
    have : (if isC (rN none).1 = true then (rN none).2 else none) = none := by
      split
      · exact tripN.no
      · rfl
    rw [this]
    exact (trip4 _).no
def PFx (f : Fx) : Prop := PN f.regs ∧ f.ops.length ≤ 2000 ∧ ∀ o ∈ f.ops, PO o
theorem tripFn : Trip rFn encFx PFx :=
  tripN.two (tripO.list 2000 (by omega)) (fun a b => (⟨a, b⟩ : Fx)) Fx.regs Fx.ops (fun _ _ => rfl) (fun _ _ => rfl) (fun _ => rfl)
end Go.Proofs.YthnolocldeokeaaGreat

namespace Go.Proofs.YthnolocldeokeaaGreat
open Go.RowKit Go.Deep Go.Shelf
set_option linter.unusedVariables false
set_option linter.unusedSimpArgs false
set_option maxRecDepth 100000
attribute [local go_sem] Oper.semAt_some
theorem infoI3 : (Tryz.prog.info? 3).map (fun i => (i.zero, i.size, i.bytes)) = some (some (.int .i64 0), 1, 8) := by kernel_rfl
theorem KR.cells {E : TypeId} {k : Nat} {w : World} {B : Nat} {v : Value} {l : List (List Value)} (h : KR E k w B v l) {g : Nat} (e : v.ownBlock = some g) : ∃ cur, w.heap[g]? = some (.cells cur E (0, 0)) := by
  rcases h.1.2 with ⟨rfl, _⟩ | ⟨g', cap, cur, rfl, _, h4, _⟩
  · cases e
  · cases e; exact ⟨cur, h4⟩
theorem wpListIn_appI {F : Fence} {fnn : Nat} {ops : Array Oper} {rest : List Oper} {o : Oper} {act : Act} {Q : Exit → Act → World → Prop} (w : World) (hgd : o.guard = none) (s x : Operand)
    (ho : o.op = .call { callee := .builtin .append, args := #[s, x], argTypes := #[50, 50] }) (v : Value) (y : Int) (hs : act.eval s = v) (hx : act.eval x = .slice (some ⟨w.heap.size, 0, none⟩) 1 1)
    (B : Nat) (xs : List Int) (h : KR 3 1 w B v (xs.map inc)) (hn : xs.length ≤ 100000) (hB : B ≤ w.heap.size)
    (k : ∀ v' w', KR 3 1 w' B v' ((xs ++ [y]).map inc) → (w.alloc (.cells #[.int .i64 y] 3)).grownBy w' v.ownBlock → wpListIn F fnn Tryz.prog ops Q rest (act.put o.dst v') w') :
    wpListIn F fnn Tryz.prog ops Q (o :: rest) act (w.alloc (.cells #[.int .i64 y] 3)) := by
  refine wpListIn_plain hgd fun K hK => ?_
  obtain ⟨v', w', hrun, h2, h3, _⟩ := run_appK Tryz.underlying50 infoI3 rfl (by decide) (by decide) (w.alloc (.cells #[.int .i64 y] 3)) o.type B v (xs.map inc) (h.below (Nat.le_refl _) ((Below.refl _ w).alloc (Nat.le_refl _) _)) (some ⟨w.heap.size, 0, none⟩) 1 1 [inc y] rfl (crd_one 3 w (inc y) 1 rfl) (rk_inc y) (fun e => by cases e) (by rw [List.length_map]; omega) (by omega) (by rw [World.size_alloc]; omega)
  have h2' : KR 3 1 w' B v' ((xs ++ [y]).map inc) := by rw [List.map_append]; exact h2
  unfold Oper.wpIn
  refine ⟨?_, ?_⟩
  · simp [Oper.about, ho, resolve, Target.leads, Sem.run_pure]
  · rw [Oper.semAt_plain F _ _ (by rw [ho]; intro c hc'; cases hc')]
    simp [execOp, ho, resolve, invoke, builtin, hs, hx, hrun, Result.andThen]
    exact hK _ _ (k v' w' h2' h3)
theorem KR.form' {E : TypeId} {k : Nat} {w : World} {B : Nat} {v : Value} {l : List (List Value)} (h : KR E k w B v l) : ∃ a n c, v = .slice a n c := by
  obtain ⟨a, cap, e, _⟩ := h.rd
  exact ⟨a, _, cap, e⟩
/- What is used so far lies in the box P, all else holds still. -/
def US (V : World) (P : Nat) (L : List Int) (W : World) : Prop := (∃ a n c, W.heap[P]? = some (.cells #[.slice a n c] 50 (0, 0)) ∧ KR 3 1 W V.heap.size (.slice a n c) (L.map inc)) ∧ V.grownBy W (some P)
theorem US_own {α : Type} {V : World} {P : Nat} (f : List α → List Int) : OwnFrom V.heap.size (fun pre W => US V P (f pre) W) := fun s A A' row hs hg hr => by
  obtain ⟨⟨a, n, c, h1, h2⟩, h3⟩ := hs
  refine ⟨⟨a, n, c, keep_cells h1 hg hr, h2.keep fun g e => ?_⟩, ⟨hg.os.trans h3.os, hg.tape.trans h3.tape, hg.output.trans h3.output, Nat.le_trans h3.size hg.size, fun j hj hne => ?_⟩⟩
  · obtain ⟨cur, hc⟩ := h2.cells e
    exact (keep_cells hc hg hr).trans hc.symm
  · exact (hg.block j (by have := h3.size; omega) (fun e => by have := (hr j e.symm).1; omega)).trans (h3.block j hj hne)
theorem US.step {V W w8 : World} {P : Nat} {L : List Int} {y : Int} {a a8 : Option Addr} {n c n8 c8 : Nat} (hP : P < V.heap.size) (h1 : W.heap[P]? = some (.cells #[.slice a n c] 50 (0, 0))) (h2 : KR 3 1 W V.heap.size (.slice a n c) (L.map inc)) (h3 : V.grownBy W (some P)) (h4 : KR 3 1 w8 V.heap.size (.slice a8 n8 c8) ((L ++ [y]).map inc)) (h5 : (W.alloc (.cells #[.int .i64 y] 3)).grownBy w8 (Value.slice a n c).ownBlock) :
    w8.cell? ⟨P, 0, none⟩ = some (.slice a n c) ∧ w8.frozen? ⟨P, 0, none⟩ = false ∧ US V P (L ++ [y]) (w8.setCell ⟨P, 0, none⟩ (.slice a8 n8 c8)) ∧ KeepsFrom V.heap.size W (w8.setCell ⟨P, 0, none⟩ (.slice a8 n8 c8)) := by
  have zW := h3.size
  have bA : Below W.heap.size W (W.alloc (.cells #[.int .i64 y] 3)) := (Below.refl _ W).alloc (Nat.le_refl _) _
  have hown : ∀ g, (Value.slice a n c).ownBlock = some g → V.heap.size ≤ g := fun g e => (h2.own e).1
  have kk : ∀ g, g < V.heap.size → w8.heap[g]? = W.heap[g]? := fun g hg => by
    rw [h5.block g (by rw [World.size_alloc]; omega) (fun e => by have := hown g e.symm; omega)]
    exact bA.block g (by omega)
  have k1 := (kk P hP).trans h1
  refine ⟨cellOf k1 0, freeOf k1 0, ⟨⟨a8, n8, c8, set_cells k1 _, h4.keep fun g e => Below.heap_setCell _ ⟨P, 0, none⟩ _ _ (show g ≠ P from fun e2 => by have := (h4.own e).1; omega)⟩, ?_⟩, ?_⟩
  · have gs := grown_set w8 P 0 (.slice a8 n8 c8)
    refine ⟨gs.os.trans (h5.os.trans (bA.os.trans h3.os)), gs.tape.trans (h5.tape.trans (bA.tape.trans h3.tape)), gs.output.trans (h5.output.trans (bA.output.trans h3.output)), Nat.le_trans zW (Nat.le_trans bA.size (Nat.le_trans h5.size gs.size)), fun j hj hne => ?_⟩
    rw [Below.heap_setCell _ ⟨P, 0, none⟩ _ _ (show j ≠ P from fun e => hne (by rw [e])), kk j hj]
    exact h3.block j hj hne
  · refine ⟨by simp; exact Nat.le_trans bA.size h5.size, fun k o hk ho hc => ?_⟩
    rw [Below.heap_setCell _ ⟨P, 0, none⟩ _ _ (show k ≠ P by omega)]
    have hk2 : k < W.heap.size := lt_of_heap ho
    rw [h5.block k (by rw [World.size_alloc]; omega) (fun e => by
      obtain ⟨cur, hq⟩ := h2.cells e.symm
      rw [ho] at hq; cases hq; cases hc), bA.block k hk2]
    exact ho
def usF (len : Nat) (s : Shp) (o : Opx) (i : Fin 4) : List Int :=
  if (fl s o i).1 = 3 ∨ ((fl s o i).1 = 4 ∧ (fl s o i).2 ≠ -1) then [(fl s o i).2] else if (fl s o i).1 = 5 then (List.range len).map (fun (j : Nat) => (fl s o i).2 + (j : Int)) else []
def usL (len : Nat) (s : Shp) (o : Opx) : List Int := (fourL.map (usF len s o)).flatten
theorem usF_len (len : Nat) (hl : len ≤ 1000) (s : Shp) (o : Opx) (i : Fin 4) : (usF len s o i).length ≤ 1000 := by
  unfold usF
  split
  · simp
  · split
    · simp; exact hl
    · simp
theorem flatM {α : Type} {f : α → List Int} {m : Nat} (h : ∀ i, (f i).length ≤ m) : ∀ l : List α, ((l.map f).flatten).length ≤ m * l.length
  | [] => by simp
  | x :: r => by
    have h1 := flatM h r
    have h2 := h x
    simp only [List.map_cons, List.flatten_cons, List.length_append, List.length_cons, Nat.mul_add, Nat.mul_one]
    omega
structure smO (o : Opx) : Prop where
  d : -1000000 ≤ o.d ∧ o.d ≤ 1000000
  a : -1000000 ≤ o.a ∧ o.a ≤ 1000000
  b : -1000000 ≤ o.b ∧ o.b ≤ 1000000
  k : -1000000 ≤ o.k ∧ o.k ≤ 1000000
theorem smO.fl {o : Opx} (h : smO o) (s : Shp) (i : Fin 4) : -1000000 ≤ (Go.Proofs.YthnolocldeokeaaGreat.fl s o i).2 ∧ (Go.Proofs.YthnolocldeokeaaGreat.fl s o i).2 ≤ 1000000 := by
  rcases (show i = 0 ∨ i = 1 ∨ i = 2 ∨ i = 3 by omega) with rfl | rfl | rfl | rfl
  · exact h.d
  · exact h.a
  · exact h.b
  · exact h.k
def UsP (w : World) (L : List Int) (e : Ending) (w' : World) : Prop := ∃ v, e = .returned (.tuple #[v, .bool true]) ∧ KR 3 1 w' w.heap.size v (L.map inc) ∧ Below w.heap.size w w'
set_option maxHeartbeats 4000000 in
theorem uses_any (SO : ShapeC) (w : World) (h : PH) (p : Pg) (d : PRd w h p) (o : Opx) (hC : isC o.c = true) (len : Nat) (hl : len ≤ 1000) (hlen : rowLen (shpAt o.c).k p o.k = ((len : Int), true)) (so : smO o) :
    Calls Tryz.prog 15 #[h.v, .agg o.cs] w (UsP w (usL len (shpAt o.c) o)) := by
  have hro : Fence.wide.round = none := rfl
  have D := hid (fun (V : World) (hV : Below w.heap.size w V) => d.below (Nat.le_refl _) hV)
  have KR' : Hid (∀ V : World, Below w.heap.size w V → Calls Tryz.prog 55 #[.agg (shpAt o.c).cs.toArray, h.v, .int .i64 o.k] V fun e w' => e = .returned (.tuple #[.int .i64 (len : Int), .bool true]) ∧ Below V.heap.size V w') := hid (fun V hV => by
    have := rowLen_any V (shpAt o.c) h p (D.out V hV) o.k
    rw [hlen] at this
    exact this)
  obtain ⟨ra, rn, rc, ma, mn, mc, fa, fn, fc, ea, en, ec⟩ := h
  simp only [PH.v] at KR' ⊢
  obtain ⟨A1, hA1⟩ : ∃ A1, A1 = w.alloc (.cells #[.slice ra rn rc, .slice ma mn mc, .slice fa fn fc, .slice ea en ec] 26) := ⟨_, rfl⟩
  obtain ⟨W0, hW0⟩ : ∃ W0, W0 = A1.alloc (.cells o.cs 54) := ⟨_, rfl⟩
  have b1 : Below w.heap.size w A1 := by rw [hA1]; exact (Below.refl _ _).alloc (Nat.le_refl _) _
  have z1 : A1.heap.size = w.heap.size + 1 := by rw [hA1]; simp
  have z2 : W0.heap.size = w.heap.size + 2 := by rw [hW0]; simp; omega
  have b2 : Below w.heap.size w W0 := by rw [hW0]; exact b1.alloc (by omega) _
  have m0 : W0.heap[w.heap.size]? = some (.cells #[.slice ra rn rc, .slice ma mn mc, .slice fa fn fc, .slice ea en ec] 26 (0, 0)) := by rw [hW0, Below.heap_alloc _ _ _ (by omega), hA1]; exact heap_alloc_new w _
  have m1 : W0.heap[w.heap.size + 1]? = some (.cells o.cs 54 (0, 0)) := by rw [hW0, ← z1]; exact heap_alloc_new A1 _
  have KS := SO W0 o.c
  rw [hC, if_pos rfl] at KS
  have HB0 := hid b2
  have HZ := hid z2
  have GT : Hid (∀ V : World, Below W0.heap.size W0 V → V.heap[w.heap.size]? = some (.cells #[.slice ra rn rc, .slice ma mn mc, .slice fa fn fc, .slice ea en ec] 26 (0, 0)) ∧ V.heap[w.heap.size + 1]? = some (.cells o.cs 54 (0, 0)) ∧ Below w.heap.size w V) := hid (fun V hV => ⟨(hV.block _ (by omega)).trans m0, (hV.block _ (by omega)).trans m1, b2.trans (hV.mono b2.size)⟩)
  clear m0 m1 b1 b2 z1 z2 d
  have KF := hid (fun (V : World) => fields_in Fence.wide 5 trivial hro (shpAt o.c) o V)
  have SQ := hid (fun (V : World) (X : Nat) => fields_stops (shpAt o.c) o X 5 (by omega) V)
  have UF : Hid (∀ i, usF len (shpAt o.c) o i = if (fl (shpAt o.c) o i).1 = 3 ∨ ((fl (shpAt o.c) o i).1 = 4 ∧ (fl (shpAt o.c) o i).2 ≠ -1) then [(fl (shpAt o.c) o i).2] else if (fl (shpAt o.c) o i).1 = 5 then (List.range len).map (fun (j : Nat) => (fl (shpAt o.c) o i).2 + (j : Int)) else []) := hid (fun i => rfl)
  have ULE := hid (usF_len len hl (shpAt o.c) o)
  have INF : Hid (∀ i, -1000000 ≤ (fl (shpAt o.c) o i).2 ∧ (fl (shpAt o.c) o i).2 ≤ 1000000) := hid (fun i => so.fl _ i)
  have USL : Hid (usL len (shpAt o.c) o = (fourL.map (usF len (shpAt o.c) o)).flatten) := hid rfl
  obtain ⟨s, hs⟩ : ∃ s, s = shpAt o.c := ⟨_, rfl⟩
  rw [← hs] at KS KF SQ UF INF ULE USL KR' ⊢
  generalize usL len s o = LL at USL ⊢
  generalize usF len s o = ff at UF ULE USL
  clear hs hC so hlen D
  obtain ⟨oc, od, oaa, ob, ok⟩ := o
  obtain ⟨nm, sd, sa, sb, sk⟩ := s
  simp only [Opx.cs, Shp.cs] at hW0 KS KF SQ UF INF GT KR' ⊢
  have KS := hid KS
  have lenI : (len : Int) ≤ 1000 := by omega
  have AF := hid (fun (V : World) (hV : Below W0.heap.size W0 V) (q : Obj) => (by
    have bq := hV.trans (((Below.refl _ V).alloc (Nat.le_refl _) q).mono hV.size)
    have g := GT.out _ bq
    exact ⟨g.2.2, cellOf g.1 0, cellOf g.1 1, cellOf g.1 2, cellOf g.1 3, cellOf g.2.1 4⟩ : Below w.heap.size w (V.alloc q) ∧ (V.alloc q).cell? ⟨w.heap.size, 0, none⟩ = some (.slice ra rn rc) ∧ (V.alloc q).cell? ⟨w.heap.size, 1, none⟩ = some (.slice ma mn mc) ∧ (V.alloc q).cell? ⟨w.heap.size, 2, none⟩ = some (.slice fa fn fc) ∧ (V.alloc q).cell? ⟨w.heap.size, 3, none⟩ = some (.slice ea en ec) ∧ (V.alloc q).cell? ⟨w.heap.size + 1, 4, none⟩ = some (.int .i64 ok)))
  have AG := hid (fun (V V2 : World) (hV : Below W0.heap.size W0 V) (h2 : Below (V.alloc (.cells #[.string nm, .int .u8 sd, .int .u8 sa, .int .u8 sb, .int .u8 sk] 105)).heap.size (V.alloc (.cells #[.string nm, .int .u8 sd, .int .u8 sa, .int .u8 sb, .int .u8 sk] 105)) V2) (q q2 : Obj) => (by
    have bq := hV.trans (((Below.refl _ V).alloc (Nat.le_refl _) (.cells #[.string nm, .int .u8 sd, .int .u8 sa, .int .u8 sb, .int .u8 sk] 105)).mono hV.size)
    have b2 := bq.trans (h2.mono bq.size)
    have b3 := b2.alloc b2.size q
    have b4 := b3.alloc b3.size q2
    have g := (GT.out _ b4).2.1
    have hs1 : V2.heap[V.heap.size]? = some (.cells #[.string nm, .int .u8 sd, .int .u8 sa, .int .u8 sb, .int .u8 sk] 105 (0, 0)) := (h2.block _ (by rw [World.size_alloc]; omega)).trans (heap_alloc_new V _)
    have hs2 := (Below.heap_alloc V2 q _ (lt_of_heap hs1)).trans hs1
    have hs3 := (Below.heap_alloc (V2.alloc q) q2 _ (lt_of_heap hs2)).trans hs2
    exact ⟨b4, ⟨cellOf g 0, cellOf g 1, cellOf g 2, cellOf g 3, cellOf g 4⟩, cellOf hs3 0, cellOf hs3 1, cellOf hs3 2, cellOf hs3 3, cellOf hs3 4⟩ : Below W0.heap.size W0 ((V2.alloc q).alloc q2) ∧ (((V2.alloc q).alloc q2).cell? ⟨w.heap.size + 1, 0, none⟩ = some (.int .i64 oc) ∧ ((V2.alloc q).alloc q2).cell? ⟨w.heap.size + 1, 1, none⟩ = some (.int .i64 od) ∧ ((V2.alloc q).alloc q2).cell? ⟨w.heap.size + 1, 2, none⟩ = some (.int .i64 oaa) ∧ ((V2.alloc q).alloc q2).cell? ⟨w.heap.size + 1, 3, none⟩ = some (.int .i64 ob) ∧ ((V2.alloc q).alloc q2).cell? ⟨w.heap.size + 1, 4, none⟩ = some (.int .i64 ok)) ∧ ((V2.alloc q).alloc q2).cell? ⟨V.heap.size, 0, none⟩ = some (.string nm) ∧ ((V2.alloc q).alloc q2).cell? ⟨V.heap.size, 1, none⟩ = some (.int .u8 sd) ∧ ((V2.alloc q).alloc q2).cell? ⟨V.heap.size, 2, none⟩ = some (.int .u8 sa) ∧ ((V2.alloc q).alloc q2).cell? ⟨V.heap.size, 3, none⟩ = some (.int .u8 sb) ∧ ((V2.alloc q).alloc q2).cell? ⟨V.heap.size, 4, none⟩ = some (.int .u8 sk)))
  refine (callsIn_wide (n := 6)).1 ?_
  refine callsIn_of_wp_marks Tryz.func15 rfl trivial ?_ hro
  simp only [Tryz.ntmps15, List.size_toArray, List.length_cons, List.length_nil, Nat.reduceAdd, Nat.reduceSub, Array.replicate_succ, Array.replicate_zero, List.push_toArray, List.append_toArray, List.nil_append, List.cons_append]
  gi_wp2_with (refine ⟨trivial, ?_⟩; first
    | (gi_at_call 54; (rw [← hA1, ← hW0]; refine (callsIn_wide.2 (Hid.out KS)).mono ?_; rintro e w1 ⟨rfl, hb1⟩; have HB1 := hid hb1; have HA1 := hid (fun q => (AF.out w1 hb1 q).1); have y0 := fun q => (AF.out w1 hb1 q).2.1; have y1 := fun q => (AF.out w1 hb1 q).2.2.1; have y2 := fun q => (AF.out w1 hb1 q).2.2.2.1; have y3 := fun q => (AF.out w1 hb1 q).2.2.2.2.1; have y4 := fun q => (AF.out w1 hb1 q).2.2.2.2.2; clear hb1))
    | (gi_at_call 55; (refine (callsIn_wide.2 (KR'.out _ (HA1.out _))).mono ?_; rintro e w2 ⟨rfl, hb2⟩; have HG := hid (AG.out w1 w2 HB1.out hb2); have u0 := fun q q2 => (HG.out q q2).2.1.1; have u1 := fun q q2 => (HG.out q q2).2.1.2.1; have u2 := fun q q2 => (HG.out q q2).2.1.2.2.1; have u3 := fun q q2 => (HG.out q q2).2.1.2.2.2.1; have u4 := fun q q2 => (HG.out q q2).2.1.2.2.2.2; have v0 := fun q q2 => (HG.out q q2).2.2.1; have v1 := fun q q2 => (HG.out q q2).2.2.2.1; have v2 := fun q q2 => (HG.out q q2).2.2.2.2.1; have v3 := fun q q2 => (HG.out q q2).2.2.2.2.2.1; have v4 := fun q q2 => (HG.out q q2).2.2.2.2.2.2; clear hb2 y0 y1 y2 y3 y4))
    | (gi_at_call 56; (refine (KF.out _).mono ?_; rintro e w3 ⟨rfl, rfl⟩; clear u0 u1 u2 u3 u4 v0 v1 v2 v3 v4)))
  obtain ⟨U, hU⟩ : ∃ U, U = (w2.alloc (.cells #[.int .i64 (len : Int)] 3)).alloc (.cells #[.slice none 0 0] 50) := ⟨_, rfl⟩
  obtain ⟨V, hV⟩ : ∃ V, V = (U.alloc (.cells #[.string nm, .int .u8 sd, .int .u8 sa, .int .u8 sb, .int .u8 sk] 105)).alloc (.cells #[.int .i64 oc, .int .i64 od, .int .i64 oaa, .int .i64 ob, .int .i64 ok] 54) := ⟨_, rfl⟩
  rw [← hU, ← hV]
  have bL := (HG.out (.cells #[.int .i64 (len : Int)] 3) (.cells #[.slice none 0 0] 50)).1
  rw [← hU] at bL
  have zU : U.heap.size = w2.heap.size + 1 + 1 := by rw [hU]; simp
  have bV : Below W0.heap.size W0 V := by rw [hV]; exact (bL.alloc bL.size _).alloc (by rw [World.size_alloc]; have := bL.size; omega) _
  have bUV : Below U.heap.size U V := by rw [hV]; exact ((Below.refl _ _).alloc (Nat.le_refl _) _).alloc (by simp) _
  have mlen : V.heap[w2.heap.size]? = some (.cells #[.int .i64 (len : Int)] 3 (0, 0)) := by
    rw [bUV.block _ (by omega), hU, Below.heap_alloc _ _ _ (by simp)]; exact heap_alloc_new w2 _
  have mP : V.heap[w2.heap.size + 1]? = some (.cells #[.slice none 0 0] 50 (0, 0)) := by
    rw [bUV.block _ (by omega), hU]
    have := heap_alloc_new (w2.alloc (.cells #[.int .i64 (len : Int)] 3)) (.cells #[.slice none 0 0] 50)
    rw [World.size_alloc] at this; exact this
  have ms : V.heap[w2.heap.size + 1 + 1]? = some (.cells #[.string nm, .int .u8 sd, .int .u8 sa, .int .u8 sb, .int .u8 sk] 105 (0, 0)) := by
    rw [hV, Below.heap_alloc _ _ _ (by simp; omega), ← zU]; exact heap_alloc_new U _
  have mo : V.heap[w2.heap.size + 1 + 1 + 1]? = some (.cells #[.int .i64 oc, .int .i64 od, .int .i64 oaa, .int .i64 ob, .int .i64 ok] 54 (0, 0)) := by
    have := heap_alloc_new (U.alloc (.cells #[.string nm, .int .u8 sd, .int .u8 sa, .int .u8 sb, .int .u8 sk] 105)) (.cells #[.int .i64 oc, .int .i64 od, .int .i64 oaa, .int .i64 ob, .int .i64 ok] 54)
    rw [World.size_alloc, zU] at this; rw [hV]; exact this
  have zV : w2.heap.size + 1 + 1 + 1 < V.heap.size := lt_of_heap mo
  have bwV : Below w.heap.size w V := HB0.out.trans (bV.mono HB0.out.size)
  have hseq := SQ.out V (w2.heap.size + 1 + 1) ms mo
  have hw2 : w.heap.size < w2.heap.size + 1 := by have := bL.size; have := HZ.out; omega
  have hwV : w.heap.size ≤ V.heap.size := bwV.size
  have GV : Hid (∀ W : World, V.grownBy W (some (w2.heap.size + 1)) → W.heap[w2.heap.size]? = some (.cells #[.int .i64 (len : Int)] 3 (0, 0))) := hid (fun W g => (g.block _ (by omega) (fun e => by injection e with e; omega)).trans mlen)
  have K2V : Hid (∀ W W' : World, V.grownBy W (some (w2.heap.size + 1)) → V.grownBy W' (some (w2.heap.size + 1)) → K2 (w2.heap.size + 1 + 1) W W') := hid (fun W W' g g' => ⟨(g'.block _ (by omega) (fun e => by injection e with e; omega)).trans (g.block _ (by omega) (fun e => by injection e with e; omega)).symm, (g'.block _ zV (fun e => by injection e with e; omega)).trans (g.block _ zV (fun e => by injection e with e; omega)).symm⟩)
  have hPV : w2.heap.size + 1 < V.heap.size := by omega
  have BWV := hid bwV
  clear hA1 hW0 hV hU bL zU mlen ms mo bV bUV bwV KS KR' KF SQ GT AF AG HB1 HA1 HG HZ HB0
  refine range_go2 hro (by omega) (gf := 90) (lb := #[.pointer (some ⟨w2.heap.size + 1 + 1, 0, none⟩), .pointer (some ⟨w2.heap.size + 1 + 1 + 1, 0, none⟩)]) rfl trivial (enters_of Tryz.func90 (by kernel_rfl) rfl) (enc1 := fun x => .int .u8 (fl ⟨nm, sd, sa, sb, sk⟩ ⟨oc, od, oaa, ob, ok⟩ x).1) (enc2 := fun x => .int .i64 (fl ⟨nm, sd, sa, sb, sk⟩ ⟨oc, od, oaa, ob, ok⟩ x).2) hseq K2_r K2_t (K2_b (by omega)) (fun pre W => US V (w2.heap.size + 1) ((pre.map ff).flatten) W) (fun _ _ _ => False) (US_own _) (fun c s A A' row hs _ _ => hs) ⟨⟨none, 0, 0, mP, KR.nil _ _ _ _⟩, ⟨rfl, rfl, rfl, Nat.le_refl _, fun _ _ _ => rfl⟩⟩ ?round ?done ?stop
  case round =>
    intro ll x W K hK
    have HKK := hid hK
    clear hK
    have HF := hid (UF.out x)
    have HIx := INF.out x
    generalize fl ⟨nm, sd, sa, sb, sk⟩ ⟨oc, od, oaa, ob, ok⟩ x = fx at HF HIx ⊢
    obtain ⟨rx, nx⟩ := fx
    simp only [List.setIfInBounds_toArray, List.set_cons_zero, List.set_cons_succ] at HF HIx ⊢
    gi_wp2
    refine HKK.out _ ?_
    clear HKK K W ll hseq
    intro l' pre W' hll hrr hi hlt
    obtain ⟨⟨a, n, c, h1, h2⟩, h3⟩ := hi
    have hMF : ((pre ++ [x]).map ff).flatten = (pre.map ff).flatten ++ ff x := by simp
    have hle : ((pre.map ff).flatten).length ≤ 1000 * pre.length := flatM ULE.out pre
    have hle2 : ((pre.map ff).flatten).length ≤ 10000 := by omega
    have hsz := h3.size
    have cL := cellOf (GV.out W' h3) 0
    have c0 := cellOf h1 0
    simp only [List.getElem?_toArray, List.getElem?_cons_zero] at c0 cL
    by_cases hA : rx = 3 ∨ (rx = 4 ∧ nx ≠ -1)
    · have FIN : Hid (∀ (w8 : World) (a8 : Option Addr) (n8 c8 : Nat), KR 3 1 w8 V.heap.size (.slice a8 n8 c8) (((pre.map ff).flatten ++ [nx]).map inc) → (W'.alloc (.cells #[.int .i64 nx] 3)).grownBy w8 (Value.slice a n c).ownBlock → (w8.cell? ⟨w2.heap.size + 1, 0, none⟩ = some (.slice a n c) ∧ w8.frozen? ⟨w2.heap.size + 1, 0, none⟩ = false) ∧ KeepsFrom V.heap.size W' (w8.setCell ⟨w2.heap.size + 1, 0, none⟩ (.slice a8 n8 c8)) ∧ K2 (w2.heap.size + 1 + 1) W' (w8.setCell ⟨w2.heap.size + 1, 0, none⟩ (.slice a8 n8 c8)) ∧ US V (w2.heap.size + 1) (((pre ++ [x]).map ff).flatten) (w8.setCell ⟨w2.heap.size + 1, 0, none⟩ (.slice a8 n8 c8))) := hid (fun w8 a8 n8 c8 h4 h5 => by
        obtain ⟨q1, q2, q3, q4⟩ := US.step hPV h1 h2 h3 h4 h5
        refine ⟨⟨q1, q2⟩, q4, K2V.out _ _ h3 q3.2, ?_⟩
        rw [hMF, HF.out, if_pos hA]
        exact q3)
      have HKR := hid h2
      clear h1 h2 h3 hrr hMF hle cL
      rcases hA with hA | ⟨hA, hA2⟩
      · have z3 : (rx == 3) = true := by simp [hA]
        clear hA
        gi_wp2_with (gi_at_builtin; refine wpListIn_appI W' rfl _ _ rfl (.slice a n c) nx (by rfl) (by rfl) V.heap.size ((pre.map ff).flatten) HKR.out (by omega) hsz ?_; intro v8 w8 hk8 hg8; obtain ⟨a8, n8, c8, rfl⟩ := hk8.form'; obtain ⟨⟨p0, p1⟩, p2⟩ := FIN.out w8 a8 n8 c8 hk8 hg8; have P2 := hid p2; clear hk8 hg8 p2)
        exact P2.out
      · have z3 : (rx == 3) = false := by simp [hA]
        have z4 : (rx == 4) = true := by simp [hA]
        have zm : (nx != -1) = true := by simp [hA2]
        clear hA hA2
        gi_wp2_with (gi_at_builtin; refine wpListIn_appI W' rfl _ _ rfl (.slice a n c) nx (by rfl) (by rfl) V.heap.size ((pre.map ff).flatten) HKR.out (by omega) hsz ?_; intro v8 w8 hk8 hg8; obtain ⟨a8, n8, c8, rfl⟩ := hk8.form'; obtain ⟨⟨p0, p1⟩, p2⟩ := FIN.out w8 a8 n8 c8 hk8 hg8; have P2 := hid p2; clear hk8 hg8 p2)
        exact P2.out
    · by_cases hB : rx = 5
      · subst hB
        have H1 := hid h1
        have H2 := hid h2
        have H3 := hid h3
        have HR : Hid (((pre ++ [x]).map ff).flatten = (pre.map ff).flatten ++ (List.range len).map (fun (j : Nat) => nx + (j : Int))) := hid (by rw [hMF, HF.out, if_neg hA, if_pos rfl])
        clear h1 h2 h3 hrr hMF hle c0 hA
        gi_wp2
        gi_loopg [56] len (fun g y wr => ∃ i : Nat, i + g = len ∧ y = .int .i64 (i : Int) ∧ US V (w2.heap.size + 1) ((pre.map ff).flatten ++ (List.range i).map (fun (j : Nat) => nx + (j : Int))) wr ∧ KeepsFrom V.heap.size W' wr)
        case atStart => exact ⟨0, by omega, rfl, by simpa using ⟨⟨a, n, c, H1.out, H2.out⟩, H3.out⟩, KeepsFrom.refl _ _⟩
        case round =>
          obtain ⟨i, hi, rfl, hu, hkf⟩ := hrel
          cases gk with
          | zero =>
            have hin : i = len := by omega
            subst hin
            have E1 : Hid (KeepsFrom V.heap.size W' wr ∧ K2 (w2.heap.size + 1 + 1) W' wr ∧ US V (w2.heap.size + 1) (((pre ++ [x]).map ff).flatten) wr) := hid ⟨hkf, K2V.out _ _ H3.out hu.2, by rw [HR.out]; exact hu⟩
            clear hu hkf
            gi_wp2
            exact E1.out
          | succ g =>
            obtain ⟨⟨a', n', c', h1, h2⟩, h3⟩ := hu
            have c0 := cellOf h1 0
            simp only [List.getElem?_toArray, List.getElem?_cons_zero] at c0
            have hiI : (i : Int) < (len : Int) := by omega
            have hi0 : (0 : Int) ≤ (i : Int) := by omega
            have hle3 : ((pre.map ff).flatten ++ (List.range i).map (fun (j : Nat) => nx + (j : Int))).length ≤ 100000 := by simp only [List.length_append, List.length_map, List.length_range]; omega
            have hsz3 := h3.size
            have FIN : Hid (∀ (w8 : World) (a8 : Option Addr) (n8 c8 : Nat), KR 3 1 w8 V.heap.size (.slice a8 n8 c8) ((((pre.map ff).flatten ++ (List.range i).map (fun (j : Nat) => nx + (j : Int))) ++ [nx + (i : Int)]).map inc) → (wr.alloc (.cells #[.int .i64 (nx + (i : Int))] 3)).grownBy w8 (Value.slice a' n' c').ownBlock → (w8.cell? ⟨w2.heap.size + 1, 0, none⟩ = some (.slice a' n' c') ∧ w8.frozen? ⟨w2.heap.size + 1, 0, none⟩ = false) ∧ US V (w2.heap.size + 1) ((pre.map ff).flatten ++ (List.range (i + 1)).map (fun (j : Nat) => nx + (j : Int))) (w8.setCell ⟨w2.heap.size + 1, 0, none⟩ (.slice a8 n8 c8)) ∧ KeepsFrom V.heap.size W' (w8.setCell ⟨w2.heap.size + 1, 0, none⟩ (.slice a8 n8 c8))) := hid (fun w8 a8 n8 c8 h4 h5 => by
              obtain ⟨q1, q2, q3, q4⟩ := US.step hPV h1 h2 h3 h4 h5
              refine ⟨⟨q1, q2⟩, ?_, hkf.trans q4⟩
              rw [List.range_succ, List.map_append, ← List.append_assoc]
              exact q3)
            have HKR := hid h2
            clear h1 h2 h3 hkf
            have wr1 : IntKind.i64.wrap (nx + (i : Int)) = nx + (i : Int) := by rw [IntKind.wrap_i64]; omega
            gi_wp2_with (gi_at_builtin; refine wpListIn_appI wr rfl _ _ rfl (.slice a' n' c') (nx + (i : Int)) (by rfl) (by rfl) V.heap.size ((pre.map ff).flatten ++ (List.range i).map (fun (j : Nat) => nx + (j : Int))) HKR.out hle3 hsz3 ?_; intro v8 w8 hk8 hg8; obtain ⟨a8, n8, c8, rfl⟩ := hk8.form'; obtain ⟨⟨p0, p1⟩, p2⟩ := FIN.out w8 a8 n8 c8 hk8 hg8; have P2 := hid p2; clear hk8 hg8 p2)
            gi_roundg g
            case measure => omega
            exact ⟨i + 1, by omega, by go_num, P2.out.1, P2.out.2⟩
      · have H1 : Hid (US V (w2.heap.size + 1) (((pre ++ [x]).map ff).flatten) W') := hid (by rw [hMF, HF.out, if_neg hA, if_neg hB, List.append_nil]; exact ⟨⟨a, n, c, h1, h2⟩, h3⟩)
        have z3 : (rx == 3) = false := by simp; omega
        have z5 : (rx == 5) = false := by simp; omega
        clear h1 h2 h3 hrr hMF hle cL c0
        by_cases h4 : rx = 4
        · have z4 : (rx == 4) = true := by simp [h4]
          have zn : nx = -1 := by omega
          have zm : (nx != -1) = false := by simp [zn]
          clear hA hB h4 zn
          gi_wp2
          exact ⟨KeepsFrom.refl _ _, K2_r _, H1.out⟩
        · have z4 : (rx == 4) = false := by simp [h4]
          clear hA hB h4
          gi_wp2
          exact ⟨KeepsFrom.refl _ _, K2_r _, H1.out⟩
  case done =>
    rintro D' ys W hD rfl hI hK
    obtain ⟨⟨a, n, c, h1, h2⟩, h3⟩ := hI
    have c0 := cellOf h1 0
    simp only [List.getElem?_toArray, List.getElem?_cons_zero] at c0
    have HK := hid hK
    have H2 := hid h2
    have H3 := hid h3
    clear hseq hK h1 h2 h3
    gi_wp2
    refine ⟨by simp, .inl ⟨_, _, rfl, run_takeDeferred HK.out, ?_⟩⟩
    refine ⟨_, by simp [results, Tryz.results15, go_sem]; rfl, ?_⟩
    have hr : ∀ r, some D' = some r → V.heap.size ≤ r ∧ ∃ o : Obj, W.heap[r]? = some o ∧ o.isCells = false := fun r e => by cases e; exact ⟨hD, _, HK.out, rfl⟩
    have gp := grownBy_putObj' W D' (.deferred none)
    refine ⟨_, rfl, ?_, ?_⟩
    · rw [USL.out]
      refine (H2.out.keep fun g e => ?_).lower hwV
      obtain ⟨cur, hc⟩ := H2.out.cells e
      exact (keep_cells hc gp hr).trans hc.symm
    · have bW : Below w.heap.size w W := BWV.out.grown H3.out hwV (fun k e => by injection e with e; omega)
      exact bW.grown gp (by have := H3.out.size; omega) (fun k e => by have := (hr k e).1; omega)
  case stop =>
    rintro D' cc pre W hD _ hf
    exact hf.elim
end Go.Proofs.YthnolocldeokeaaGreat

namespace Go.Proofs.YthnolocldeokeaaGreat
open Go.RowKit Go.Deep Go.Shelf
set_option linter.unusedVariables false
set_option linter.unusedSimpArgs false
set_option maxRecDepth 100000
def IRd3 (w : World) (a : Option Addr) (l : List Int) : Prop := ∀ (j : Nat) (x : Int), l[j]? = some x → ∃ b off, a = some ⟨b, off, none⟩ ∧ w.cell? ⟨b, off + j, none⟩ = some (.int .i64 x)
theorem KR.ird {w : World} {B : Nat} {v : Value} {xs : List Int} (h : KR 3 1 w B v (xs.map inc)) : ∃ a c, v = .slice a xs.length c ∧ IRd3 w a xs := by
  obtain ⟨a, cap, e, _, hr, _, _⟩ := h.rd
  rw [List.length_map] at e
  refine ⟨a, cap, e, fun j x hx => ?_⟩
  obtain ⟨b, off, e2, _, hc⟩ := hr j (inc x) (by rw [List.getElem?_map, hx]; rfl)
  exact ⟨b, off, e2, by have := hc 0 (by omega); simpa [inc] using this⟩
theorem IRd3.below {w w' : World} {a : Option Addr} {l : List Int} (h : IRd3 w a l) (hb : Below w.heap.size w w') : IRd3 w' a l := fun j x hx => by
  obtain ⟨b, off, e, hc⟩ := h j x hx
  exact ⟨b, off, e, bel_cell hb hc⟩
set_option maxHeartbeats 2000000 in
theorem ints_yes (w : World) (a1 a2 : Option Addr) (n c1 c2 : Nat) (l : List Int) (hn : n = l.length) (hnb : n ≤ 1000000) (h1 : IRd3 w a1 l) (h2 : IRd3 w a2 l) : Calls Tryz.prog 16 #[.slice a1 n c1, .slice a2 n c2] w fun e w' => e = .returned (.bool true) ∧ Below w.heap.size w w' := by
  have hnI : (n : Int) ≤ 1000000 := by omega
  have HN := hid hn
  have H1 := hid h1
  have H2 := hid h2
  clear hn h1 h2
  go_enter Tryz.func16, Tryz.ntmps16
  go_wp2
  go_loopg [5] n (fun g x wr => ∃ j : Nat, j + g = n ∧ x = .int .i64 (j : Int) ∧ Below w.heap.size w wr)
  case atStart => exact ⟨0, by omega, rfl, Below.refl _ _⟩
  case round =>
    obtain ⟨j, hj, rfl, hb⟩ := hrel
    cases gk with
    | zero =>
      have hjn : j = n := by omega
      subst hjn
      have HB := hid hb
      clear hb
      go_wp2
      go_ret
      exact ⟨rfl, HB.out⟩
    | succ g =>
      obtain ⟨x, hx⟩ : ∃ x, l[j]? = some x := ⟨l[j]'(by have := HN.out; omega), List.getElem?_eq_getElem _⟩
      obtain ⟨b1, o1, rfl, q1⟩ := H1.out j x hx
      obtain ⟨b2, o2, rfl, q2⟩ := H2.out j x hx
      have r1 := bel_cell hb q1
      have r2 := bel_cell hb q2
      have hjI : (j : Int) < (n : Int) := by omega
      have hj0 : (0 : Int) ≤ (j : Int) := by omega
      have HB := hid hb
      clear q1 q2 hx hb
      go_wp2
      go_region_held3 (fun v => v.cell? ⟨b1, o1 + j, none⟩ = some (.int .i64 x) ∧ v.cell? ⟨b2, o2 + j, none⟩ = some (.int .i64 x)) (first | go_keep) (fail)
      go_wp2
      go_roundg g
      case measure => omega
      exact ⟨j + 1, by omega, by go_num, HB.out.drew⟩
/- What a code holds tells whether it may be. -/
theorem isB_of {c d : Cx} (hp : PEq c.p d.p) (hi : c.ints = d.ints) (ht : c.texts = d.texts) (hf : c.funcs = d.funcs) (he : c.events = d.events) : isB c = isB d := by
  obtain ⟨⟨r1, m1, f1, e1⟩, i1, t1, F1, E1⟩ := c
  obtain ⟨⟨r2, m2, f2, e2⟩, i2, t2, F2, E2⟩ := d
  obtain ⟨pr, pm, pf, pe⟩ := hp
  simp only at hi ht hf he pr pm pf pe
  subst hi ht hf he pm
  have lr : r1.length = r2.length := by have := congrArg List.length pr; simpa using this
  have lf : f1.length = f2.length := by have := congrArg List.length pf; simpa using this
  have le : e1.length = e2.length := by have := congrArg List.length pe; simpa using this
  have hrow : ∀ r k, rowLen r ⟨r1, m1, f1, e1⟩ k = rowLen r ⟨r2, m1, f2, e2⟩ k := fun r k => by unfold rowLen; simp only [pr, pf, pe, lr]
  have hop : ∀ regs nops o, isOpB ⟨⟨r1, m1, f1, e1⟩, i1, t1, F1, E1⟩ regs nops o = isOpB ⟨⟨r2, m1, f2, e2⟩, i1, t1, F1, E1⟩ regs nops o := fun regs nops o => by
    unfold isOpB bnd
    simp only [hrow, lr, lf, le]
  have hfn : ∀ ps f, isFnB ⟨⟨r1, m1, f1, e1⟩, i1, t1, F1, E1⟩ ps f = isFnB ⟨⟨r2, m1, f2, e2⟩, i1, t1, F1, E1⟩ ps f := fun ps f => by
    unfold isFnB
    have : isOpB ⟨⟨r1, m1, f1, e1⟩, i1, t1, F1, E1⟩ f.regs f.ops.length = isOpB ⟨⟨r2, m1, f2, e2⟩, i1, t1, F1, E1⟩ f.regs f.ops.length := funext fun o => hop _ _ o
    rw [this]
  unfold isB isFnsB constB rightB Pg.rn
  simp only [hfn, pr, pf, pe, lr, lf, le]
end Go.Proofs.YthnolocldeokeaaGreat

namespace Go.Proofs.YthnolocldeokeaaGreat
open Go.RowKit Go.Deep Go.Shelf
set_option linter.unusedVariables false
set_option linter.unusedSimpArgs false
section
variable {P : Program} {ops : Array Oper} {Q : Exit → Act → World → Prop} {md : Region.Mode} {l n : Nat}
theorem rowsIn_round {row : String} {args : Array Value} {w : World} {R : Value → World → Prop} (h : Go.Rows P row args w R) : RowsIn (Fence.wide.inRound l) n P row args w R := fun c cs _ => by
  obtain ⟨v, w', r, s⟩ := h c cs
  exact ⟨v, w', r, stepsIn_wide.2 s⟩
theorem oper_round {o : Oper} (hd : ∀ c, o.op ≠ .defer c) {a : Act} {w : World} {K : Act → World → Prop} (h : o.wp P a w K Q) : o.wpIn (Fence.wide.inRound l) n P a w K Q := by
  refine ⟨fun f _ => trivial, ?_⟩
  rw [show (Fence.wide.inRound l).round = some l from rfl, Oper.semAt_some l a.eval o hd]
  unfold Oper.wp at h
  generalize (execOp a.eval o).run P w = r at *
  cases r with
  | ok x w' =>
    cases x <;> simp only [Oper.upon, Oper.uponIn] at h ⊢
    case value => exact h
    case skip => exact h
    case defer => exact h
    case enter f args => exact ⟨fun e => by simp [Fence.wide] at e, callsIn_wide.2 h⟩
    case row row args => exact ⟨fun e => by simp [Fence.wide] at e, rowsIn_round h⟩
  | halt x w' => cases x <;> simp only [Oper.upon, Oper.uponIn] at h ⊢; exact h
theorem any_round (hd : ∀ (i : Nat) (o : Oper), ops[i]? = some o → ∀ c, o.op ≠ .defer c) (hL : ¬ LetsOut Q) : ∀ (fuel : Nat) (listed : Array Bool) (a : Act) (w : World), wpAny P md ops Q fuel listed a w → wpAnyIn (Fence.wide.inRound l) n P md ops Q fuel listed a w
  | 0, listed, a, w, h => h
  | fuel + 1, listed, a, w, h => ⟨h.1, fun i hi => by
    have h1 := wpOp_mono (any_round hd hL fuel (listed.setIfInBounds i true)) (h.2 i hi)
    unfold wpOp at h1
    unfold wpOpIn
    cases ho : ops[i]? with
    | none => simp only [ho] at h1 ⊢; exact h1
    | some o =>
      simp only [ho] at h1 ⊢
      split
      · rename_i hw
        rw [if_pos hw] at h1
        rcases h1 with h1 | h1
        · exact oper_round (hd i o ho) h1
        · exact absurd h1.2 hL
      · rename_i hw
        rw [if_neg hw] at h1
        exact ⟨fun f _ => trivial, h1⟩⟩
theorem wpIn_region_roundI {id : Nat} {a : Act} {w : World} (L : Nat) (S : World → Prop) (hm : P.follows .mixedOrders = true) (hd : ∀ (i : Nat) (o : Oper), ops[i]? = some o → ∀ c, o.op ≠ .defer c) (hL : ¬ LetsOut Q) (hS : S w.drew)
    (h : S w.drew → wpAnyI P .any ops Q L S ops.size (Array.replicate ops.size false) a w.drew) : (Code.region id ops true).wpIn (Fence.wide.inRound l) n P Q a w :=
  wpIn_region_any hm (any_round hd hL _ _ _ _ (wpAny_of_I _ _ _ _ (h hS)))
end
theorem nodefer {ops : Array Oper} (h : (ops.all fun o => match o.op with | .defer _ => false | _ => true) = true) : ∀ (i : Nat) (o : Oper), ops[i]? = some o → ∀ c, o.op ≠ .defer c := fun i o hi c e => by
  obtain ⟨h1, h2⟩ := Array.getElem?_eq_some_iff.1 hi
  have h3 := (Array.all_eq_true.1 h) i h1
  rw [h2, e] at h3
  cases h3
theorem range_box1 {α : Type} {F : Fence} {n : Nat} {P : Program} {g : Operand} {p1 p2 : Tmp} {assign body : Code} {Q : Exit → Act → World → Prop} {a : Act} {w : World}
    (hro : F.round = none) (h1 : 1 ≤ n) {gf : Nat} {lb : Array Value} (hg : a.eval g = .func (.func gf) #[] lb) (hFg : F.fn gf) (eg : ∀ args w, (callFunc gf args).run P w = .ok (.enter gf args) w)
    {enc1 enc2 : α → Value} {Kp : World → World → Prop} {S Sp : List α → Prop} {N : Nat} (hseq : SeqStopsK F (n - 1) P gf lb (fun x => #[enc1 x, enc2 x]) Kp S Sp N w)
    (hKt : ∀ {A B C : World}, Kp A B → Kp B C → Kp A C) (hKb : ∀ (W : World) (l : Nat) (o o' : Obj), w.heap.size ≤ l → W.heap[l]? = some o → o.isCells = false → o.isWalk = false → Kp W (W.putObj l o'))
    (c2 : α → Array Value) (t2 : TypeId)
    (I : List α → World → Prop) (Ix : Code → List α → World → Prop) (hI : OwnFrom w.heap.size I) (hIx : ∀ c, OwnFrom w.heap.size (Ix c)) (h0 : I [] w)
    (hKp : ∀ pre W W', I pre W → Below W.heap.size W W' → Kp W W' ∧ I pre W')
    (hround : ∀ (l : Nat) (x : α) (W : World) (K : Act → World → Prop), (∀ (a' : Act) (W' : World) (Y : Nat), Below W.heap.size W W' → W'.heap[Y]? = some (Obj.cells (c2 x) t2 (0, 0)) → (∀ (l' : Nat) (pre : List α) (W' : World), w.heap.size ≤ l' → (∃ r, W'.heap[l']? = some (.loop r)) → I pre W' → pre.length < N → W'.heap[Y]? = some (Obj.cells (c2 x) t2 (0, 0)) → body.wpIn (F.inRound l') (n - 1 - 1) P (ownPostG w.heap.size Kp I Ix (pre ++ [x]) W') a' W') → K a' W') →
      assign.wpIn (F.inRound l) (n - 1 - 1) P (Exit.then K (fun _ _ _ => False)) { tmps := (a.tmps.setIfInBounds p1 (enc1 x)).setIfInBounds p2 (enc2 x), defers := [] } W)
    (hdone : ∀ (D : Nat) (xs : List α) (W : World), w.heap.size ≤ D → S xs → I xs W → W.heap[D]? = some (.deferred (some [])) → Q .normal { a with defers := { target := .collected D, args := #[] } :: a.defers } W)
    (hstop : ∀ (D : Nat) (c : Code) (pre : List α) (W : World), w.heap.size ≤ D → Sp pre → Ix c pre W → W.heap[D]? = some (.deferred (some [])) → c.wpIn F n P Q { a with defers := { target := .collected D, args := #[] } :: a.defers } W) :
    (Code.rangeFunc g #[p1, p2] assign body).wpIn F n P Q a w := by
  refine wpIn_rangeFunc_ownH hro h1 hg hFg eg hseq hKt hKb (Below.refl _ _) (fun _ => rfl) I Ix hI hIx h0 (fun x a' W => ∃ Y : Nat, W.heap[Y]? = some (Obj.cells (c2 x) t2 (0, 0)) ∧ ∀ (l' : Nat) (pre : List α) (W' : World), w.heap.size ≤ l' → (∃ r, W'.heap[l']? = some (.loop r)) → I pre W' → pre.length < N → W'.heap[Y]? = some (Obj.cells (c2 x) t2 (0, 0)) → body.wpIn (F.inRound l') (n - 1 - 1) P (ownPostG w.heap.size Kp I Ix (pre ++ [x]) W') a' W') (fun x a' _ A B row hs hg hr => by
      obtain ⟨Y, e2, hb⟩ := hs
      exact ⟨Y, keep_cells e2 hg hr, hb⟩) ?_ ?_ hdone hstop
  · intro l pre x W K hi hK
    rw [zip2]
    exact hround l x W K (fun a' W' Y hb e2 hbd => hK a' W' (keepsFrom_below hb) (hKp pre W W' hi hb).1 (hKp pre W W' hi hb).2 ⟨Y, e2, hbd⟩)
  · intro l pre x a' W hl hr hi hA hlt
    obtain ⟨Y, e2, hb⟩ := hA
    exact hb l pre W hl hr hi hlt e2
end Go.Proofs.YthnolocldeokeaaGreat

