/- What is written is read back; what is read has just these bytes. -/
import Derived.Test.YthnolocldeokeaaGreatJAW
namespace Go.Proofs.YthnolocldeokeaaGreat
open Go.RowKit Go.Deep Go.Shelf
set_option linter.unusedVariables false
set_option linter.unusedSimpArgs false
set_option maxRecDepth 100000
structure Trip {α : Type} (r : Option (List Nat) → α × Option (List Nat)) (e : α → List Nat) (P : α → Prop) : Prop where
  fw : ∀ x m, P x → r (some (e x ++ m)) = (x, some m)
  bk : ∀ bs x m, Byt bs → r (some bs) = (x, some m) → bs = e x ++ m ∧ P x
  no : (r none).2 = none
theorem Byt.tail {a m : List Nat} (h : Byt (a ++ m)) : Byt m := fun x hx => h x (List.mem_append.2 (.inr hx))
theorem Trip.via {α : Type} {r : Option (List Nat) → α × Option (List Nat)} {e e' : α → List Nat} {P : α → Prop} (h : Trip r e P) (he : ∀ x, e' x = e x) : Trip r e' P :=
  ⟨fun x m hp => by rw [he]; exact h.fw x m hp, fun bs x m hb q => by rw [he]; exact h.bk bs x m hb q, h.no⟩
theorem tripU : Trip rU enc (fun n => n < 18446744073709551616) := by
  refine ⟨fun x m h => ?_, fun bs x m hb h => ?_, by simp [rU, dec, decAt]⟩
  · unfold rU
    rw [Option.getD_some, dec_enc x m h]
    simp
  · unfold rU at h
    rw [Option.getD_some] at h
    cases hd : dec bs with
    | none => rw [hd] at h; simp at h
    | some p =>
      obtain ⟨q, k⟩ := p
      rw [hd] at h
      simp only [Prod.mk.injEq, Option.some.injEq] at h
      obtain ⟨rfl, rfl⟩ := h
      obtain ⟨h1, h2, _⟩ := dec_back hb hd
      exact ⟨by rw [← h1, List.take_append_drop], h2⟩
theorem unzz_inR {q : Nat} (h : q < 18446744073709551616) : inR (unzz q) := by
  unfold unzz inR
  split <;> omega
theorem tripI : Trip rI (fun k => enc (zz k)) inR := by
  refine ⟨fun x m h => ?_, fun bs x m hb h => ?_, by simp [rI, dec, decAt]⟩
  · unfold rI
    rw [Option.getD_some, dec_enc _ m (zz_lt x h.1 h.2)]
    simp [unzz_zz]
  · unfold rI at h
    rw [Option.getD_some] at h
    cases hd : dec bs with
    | none => rw [hd] at h; simp at h
    | some p =>
      obtain ⟨q, k⟩ := p
      rw [hd] at h
      simp only [Prod.mk.injEq, Option.some.injEq] at h
      obtain ⟨rfl, rfl⟩ := h
      obtain ⟨h1, h2, _⟩ := dec_back hb hd
      exact ⟨by rw [zz_unzz, ← h1, List.take_append_drop], unzz_inR h2⟩
theorem tripC (most : Nat) (hm : most < 18446744073709551616) : Trip (rC most) enc (fun n => n ≤ most) := by
  refine ⟨fun x m h => ?_, fun bs x m hb h => ?_, ?_⟩
  · unfold rC
    rw [tripU.fw x m (by omega), if_neg (by simp; omega)]
  · unfold rC at h
    split at h
    · simp at h
    · rename_i hn
      obtain ⟨h1, h2⟩ := tripU.bk bs x m hb h
      rw [h] at hn
      exact ⟨h1, by simpa using hn⟩
  · unfold rC
    split
    · rfl
    · exact tripU.no
def PN (k : Int) : Prop := -1 ≤ k ∧ k ≤ 2000
theorem tripN : Trip rN (fun k => enc (zz k)) PN := by
  refine ⟨fun x m h => ?_, fun bs x m hb h => ?_, ?_⟩
  · obtain ⟨h1, h2⟩ := h
    unfold rN
    rw [tripI.fw x m ⟨by omega, by omega⟩, if_neg (by simp; omega)]
  · unfold rN at h
    split at h
    · simp at h
    · rename_i hn
      obtain ⟨h1, h2⟩ := tripI.bk bs x m hb h
      rw [h] at hn
      simp at hn
      exact ⟨h1, ⟨by omega, by omega⟩⟩
  · unfold rN
    split
    · rfl
    · exact tripI.no
theorem tripT : Trip rT encX (fun s => s.size ≤ 64) := by
  refine ⟨fun x m h => ?_, fun bs x m hb h => ?_, by simp [rT, textD, dec, decAt]⟩
  · unfold rT
    rw [Option.getD_some, textD_more 64 x m (by omega), if_neg (by omega)]
    simp [ofB_sb]
  · unfold rT at h
    rw [Option.getD_some] at h
    cases ht : textD 64 bs with
    | error e => rw [ht] at h; simp at h
    | ok p =>
      obtain ⟨t, k⟩ := p
      rw [ht] at h
      simp only [Prod.mk.injEq, Option.some.injEq] at h
      obtain ⟨rfl, rfl⟩ := h
      unfold textD at ht
      cases hd : dec bs with
      | none => rw [hd] at ht; cases ht
      | some p =>
        obtain ⟨n, k'⟩ := p
        rw [hd] at ht
        simp only at ht
        split at ht
        · cases ht
        · split at ht
          · cases ht
          · rename_i h1 h2
            simp only [Except.ok.injEq, Prod.mk.injEq] at ht
            obtain ⟨rfl, rfl⟩ := ht
            obtain ⟨e1, _⟩ := dec_back hb hd
            have hl : ((bs.drop k').take n).length = n := by rw [List.length_take, List.length_drop]; omega
            have hB : Byt ((bs.drop k').take n) := (hb.drop k').take n
            refine ⟨?_, by rw [ofB_size, hl]; omega⟩
            unfold encX
            rw [ofB_size, hl, sb_ofB hB, ← e1, List.append_assoc, ← List.drop_drop, List.take_append_drop, List.take_append_drop]
theorem Trip.two {α β γ : Type} {r1 : Option (List Nat) → α × Option (List Nat)} {e1 : α → List Nat} {P1 : α → Prop} {r2 : Option (List Nat) → β × Option (List Nat)} {e2 : β → List Nat} {P2 : β → Prop} (h1 : Trip r1 e1 P1) (h2 : Trip r2 e2 P2) (mk : α → β → γ) (a : γ → α) (b : γ → β) (ha : ∀ x y, a (mk x y) = x) (hb : ∀ x y, b (mk x y) = y) (hm : ∀ z, mk (a z) (b z) = z) :
    Trip (fun s => (mk (r1 s).1 (r2 (r1 s).2).1, (r2 (r1 s).2).2)) (fun z => e1 (a z) ++ e2 (b z)) (fun z => P1 (a z) ∧ P2 (b z)) := by
  refine ⟨fun z m h => ?_, fun bs z m hB h => ?_, ?_⟩
  · simp only [List.append_assoc, h1.fw _ _ h.1, h2.fw _ _ h.2, hm]
  · simp only [Prod.mk.injEq] at h
    obtain ⟨hz, hs⟩ := h
    rcases q1 : r1 (some bs) with ⟨x, s1⟩
    rw [q1] at hz hs
    simp only at hz hs
    cases s1 with
    | none => rw [h2.no] at hs; cases hs
    | some m1 =>
      obtain ⟨e, p⟩ := h1.bk _ _ _ hB q1
      rcases q2 : r2 (some m1) with ⟨y, s2⟩
      rw [q2] at hz hs
      simp only at hz hs
      subst hs
      have hB2 : Byt m1 := by rw [e] at hB; exact hB.tail
      obtain ⟨e', p'⟩ := h2.bk _ _ _ hB2 q2
      subst hz
      refine ⟨?_, by rw [ha]; exact p, by rw [hb]; exact p'⟩
      rw [ha, hb, List.append_assoc, ← e', ← e]
  · show (r2 (r1 none).2).2 = none
    rw [h1.no]; exact h2.no
theorem Trip.three {α β δ γ : Type} {r1 : Option (List Nat) → α × Option (List Nat)} {e1 : α → List Nat} {P1 : α → Prop} {r2 : Option (List Nat) → β × Option (List Nat)} {e2 : β → List Nat} {P2 : β → Prop} {r3 : Option (List Nat) → δ × Option (List Nat)} {e3 : δ → List Nat} {P3 : δ → Prop} (h1 : Trip r1 e1 P1) (h2 : Trip r2 e2 P2) (h3 : Trip r3 e3 P3) (mk : α → β → δ → γ) (a : γ → α) (b : γ → β) (c : γ → δ) (ha : ∀ x y z, a (mk x y z) = x) (hb : ∀ x y z, b (mk x y z) = y) (hc : ∀ x y z, c (mk x y z) = z) (hm : ∀ z, mk (a z) (b z) (c z) = z) :
    Trip (fun s => (mk (r1 s).1 (r2 (r1 s).2).1 (r3 (r2 (r1 s).2).2).1, (r3 (r2 (r1 s).2).2).2)) (fun z => e1 (a z) ++ e2 (b z) ++ e3 (c z)) (fun z => P1 (a z) ∧ P2 (b z) ∧ P3 (c z)) :=
  (h1.two (h2.two h3 Prod.mk Prod.fst Prod.snd (fun _ _ => rfl) (fun _ _ => rfl) (fun _ => rfl)) (fun x p => mk x p.1 p.2) a (fun z => (b z, c z)) (fun x y => ha _ _ _) (fun x y => by rw [hb, hc]) hm).via (fun x => List.append_assoc _ _ _)
def PT (t : TyP) : Prop := PN t.1 ∧ PN t.2
theorem tripTy : Trip rTy encTy PT := tripN.two tripN Prod.mk Prod.fst Prod.snd (fun _ _ => rfl) (fun _ _ => rfl) (fun _ => rfl)
theorem ln_fw {α : Type} {r : Option (List Nat) → α × Option (List Nat)} {e : α → List Nat} {P : α → Prop} (h : Trip r e P) : ∀ (n : Nat) (l : List α), l.length = n → (∀ x ∈ l, P x) → ∀ m, rLn r n (some ((l.map e).flatten ++ m)) = (l, some m)
  | 0, l, hl, _, m => by
    have := List.eq_nil_of_length_eq_zero hl
    subst this
    simp [rLn]
  | n + 1, l, hl, hp, m => by
    rcases List.eq_nil_or_concat l with rfl | ⟨L, b, hL⟩
    · simp at hl
    · rw [List.concat_eq_append] at hL
      subst hL
      have ih := ln_fw h n L (by simpa using hl) (fun x hx => hp x (by simp [hx])) (e b ++ m)
      have hb := h.fw b m (hp b (by simp))
      have e1 : ((L ++ [b]).map e).flatten ++ m = (L.map e).flatten ++ (e b ++ m) := by simp
      rw [e1, rLn, ih]
      simp only [hb]
theorem ln_bk {α : Type} {r : Option (List Nat) → α × Option (List Nat)} {e : α → List Nat} {P : α → Prop} (h : Trip r e P) : ∀ (n : Nat) (bs : List Nat) (l : List α) (m : List Nat), Byt bs → rLn r n (some bs) = (l, some m) → l.length = n ∧ bs = (l.map e).flatten ++ m ∧ ∀ x ∈ l, P x
  | 0, bs, l, m, hb, q => by
    simp only [rLn, Prod.mk.injEq, Option.some.injEq] at q
    obtain ⟨rfl, rfl⟩ := q
    simp
  | n + 1, bs, l, m, hb, q => by
    rw [rLn] at q
    rcases q1 : rLn r n (some bs) with ⟨xs, st⟩
    rw [q1] at q
    cases st with
    | none => simp at q
    | some b1 =>
      simp only at q
      rcases q2 : r (some b1) with ⟨x, s2⟩
      rw [q2] at q
      cases s2 with
      | none => simp at q
      | some b2 =>
        simp only [Prod.mk.injEq, Option.some.injEq] at q
        obtain ⟨rfl, rfl⟩ := q
        obtain ⟨i1, i2, i3⟩ := ln_bk h n bs xs b1 hb q1
        have hB : Byt b1 := by rw [i2] at hb; exact hb.tail
        obtain ⟨j1, j2⟩ := h.bk b1 x b2 hB q2
        refine ⟨by simp [i1], ?_, fun y hy => ?_⟩
        · rw [i2, j1]; simp
        · rcases List.mem_append.1 hy with hy | hy
          · exact i3 y hy
          · simp at hy; subst hy; exact j2
theorem Trip.list {α : Type} {r : Option (List Nat) → α × Option (List Nat)} {e : α → List Nat} {P : α → Prop} (h : Trip r e P) (most : Nat) (hm : most < 18446744073709551616) : Trip (rL r most) (fun l => enc l.length ++ (l.map e).flatten) (fun l => l.length ≤ most ∧ ∀ x ∈ l, P x) := by
  have hC := tripC most hm
  refine ⟨fun l m hl => ?_, fun bs l m hB q => ?_, ?_⟩
  · unfold rL
    rw [List.append_assoc, hC.fw _ _ hl.1]
    exact ln_fw h _ l rfl hl.2 m
  · unfold rL at q
    rcases q1 : rC most (some bs) with ⟨n, st⟩
    rw [q1] at q
    simp only at q
    cases st with
    | none => have := rLn_from (one := r) n; rw [q] at this; cases this
    | some b1 =>
      obtain ⟨j1, j2⟩ := hC.bk bs n b1 hB q1
      have hB1 : Byt b1 := by rw [j1] at hB; exact hB.tail
      obtain ⟨i1, i2, i3⟩ := ln_bk h n b1 l m hB1 q
      exact ⟨by rw [i1, List.append_assoc, ← i2, ← j1], by rw [i1]; exact j2, i3⟩
  · unfold rL
    rw [hC.no]
    exact rLn_from _
theorem tripMp : Trip rMp encMp (fun m => m.name.size ≤ 64 ∧ PT m.key ∧ PT m.val) :=
  tripT.three tripTy tripTy (fun a b c => (⟨a, b, c⟩ : Mp)) Mp.name Mp.key Mp.val (fun _ _ _ => rfl) (fun _ _ _ => rfl) (fun _ _ _ => rfl) (fun _ => rfl)
def PTs (ts : List TyP) : Prop := ts.length ≤ 12 ∧ ∀ t ∈ ts, PT t
def PSs (ss : List ByteArray) : Prop := ss.length ≤ 12 ∧ ∀ s ∈ ss, s.size ≤ 64
def PSg (s : Sg) : Prop := s.name.size ≤ 64 ∧ PTs s.params ∧ PT s.res
def PRc (r : Rc) : Prop := r.name.size ≤ 64 ∧ PSs r.fields ∧ PTs r.types
theorem tripSg : Trip rSg encSg PSg :=
  tripT.three (tripTy.list 12 (by omega)) tripTy (fun a b c => (⟨a, b, c⟩ : Sg)) Sg.name Sg.params Sg.res (fun _ _ _ => rfl) (fun _ _ _ => rfl) (fun _ _ _ => rfl) (fun _ => rfl)
theorem tripRc : Trip rRc encRc PRc :=
  tripT.three (tripT.list 12 (by omega)) (tripTy.list 12 (by omega)) (fun a b c => (⟨a, b, c⟩ : Rc)) Rc.name Rc.fields Rc.types (fun _ _ _ => rfl) (fun _ _ _ => rfl) (fun _ _ _ => rfl) (fun _ => rfl)
def fde (what v : Int) : List Nat := if what = 0 then [] else enc (zz v)
def PF (what v : Int) : Prop := if what = 0 then v = 0 else PN v
theorem tripFd (what : Int) : Trip (rFd what) (fde what) (PF what) := by
  by_cases h : what = 0
  · refine ⟨fun x m hp => ?_, fun bs x m hb q => ?_, ?_⟩
    · simp only [PF, if_pos h] at hp
      simp [rFd, fde, h, hp]
    · simp only [rFd, if_pos h, Prod.mk.injEq, Option.some.injEq] at q
      obtain ⟨rfl, rfl⟩ := q
      simp [fde, PF, h]
    · simp [rFd, h]
  · refine ⟨fun x m hp => ?_, fun bs x m hb q => ?_, ?_⟩
    · simp only [PF, if_neg h] at hp
      simp only [rFd, fde, if_neg h]
      exact tripN.fw x m hp
    · simp only [rFd, if_neg h] at q
      simp only [fde, PF, if_neg h]
      exact tripN.bk bs x m hb q
    · simp only [rFd, if_neg h]
      exact tripN.no
def r4 (s : Shp) (st : Option (List Nat)) : (Int × Int × Int × Int) × Option (List Nat) :=
  (((rFd s.d st).1, (rFd s.a (rFd s.d st).2).1, (rFd s.b (rFd s.a (rFd s.d st).2).2).1, (rFd s.k (rFd s.b (rFd s.a (rFd s.d st).2).2).2).1), (rFd s.k (rFd s.b (rFd s.a (rFd s.d st).2).2).2).2)
theorem trip4 (s : Shp) : Trip (r4 s) (fun z => fde s.d z.1 ++ (fde s.a z.2.1 ++ (fde s.b z.2.2.1 ++ fde s.k z.2.2.2))) (fun z => PF s.d z.1 ∧ PF s.a z.2.1 ∧ PF s.b z.2.2.1 ∧ PF s.k z.2.2.2) :=
  (tripFd s.d).two ((tripFd s.a).two ((tripFd s.b).two (tripFd s.k) Prod.mk Prod.fst Prod.snd (fun _ _ => rfl) (fun _ _ => rfl) (fun _ => rfl)) Prod.mk Prod.fst Prod.snd (fun _ _ => rfl) (fun _ _ => rfl) (fun _ => rfl)) Prod.mk Prod.fst Prod.snd (fun _ _ => rfl) (fun _ _ => rfl) (fun _ => rfl)
theorem rO_eq (s : Option (List Nat)) : rO s = (⟨(rN s).1, (r4 (rSh (rN s).1) (rOs s)).1.1, (r4 (rSh (rN s).1) (rOs s)).1.2.1, (r4 (rSh (rN s).1) (rOs s)).1.2.2.1, (r4 (rSh (rN s).1) (rOs s)).1.2.2.2⟩, (r4 (rSh (rN s).1) (rOs s)).2) := rfl
theorem encOp_eq (o : Opx) : encOp o = enc (zz o.c) ++ (fde (shpAt o.c).d o.d ++ (fde (shpAt o.c).a o.a ++ (fde (shpAt o.c).b o.b ++ fde (shpAt o.c).k o.k))) := by
  simp [encOp, fourL, foe, fl, fde]
  rfl
def PO (o : Opx) : Prop := isC o.c = true ∧ PF (shpAt o.c).d o.d ∧ PF (shpAt o.c).a o.a ∧ PF (shpAt o.c).b o.b ∧ PF (shpAt o.c).k o.k
theorem tripO : Trip rO encOp PO := by
  refine ⟨fun o m hp => ?_, fun bs o m hB q => ?_, ?_⟩
  · obtain ⟨hc, hp⟩ := hp
    have hc2 : PN o.c := by unfold isC at hc; simp only [Bool.and_eq_true, decide_eq_true_eq] at hc; exact ⟨by omega, by omega⟩
    have q0 : rN (some (encOp o ++ m)) = (o.c, some ((fde (shpAt o.c).d o.d ++ (fde (shpAt o.c).a o.a ++ (fde (shpAt o.c).b o.b ++ fde (shpAt o.c).k o.k))) ++ m)) := by
      rw [encOp_eq, List.append_assoc]; exact tripN.fw _ _ hc2
    have q1 := (trip4 (shpAt o.c)).fw (o.d, o.a, o.b, o.k) m hp
    rw [rO_eq]
    simp only [q0, rOs, rSh, hc, if_pos]
    simp only at q1
    rw [q1]
  · rw [rO_eq] at q
    rcases q0 : rN (some bs) with ⟨c, s0⟩
    simp only [q0, rOs, rSh] at q
    cases hc : isC c with
    | false =>
      rw [hc] at q
      simp only [Bool.false_eq_true, if_false] at q
      have := congrArg Prod.snd q
      simp only at this
      rw [(trip4 shp0).no] at this
      cases this
    | true =>
      rw [hc] at q
      simp only [if_true] at q
      cases s0 with
      | none =>
        have := congrArg Prod.snd q
        simp only at this
        rw [(trip4 (shpAt c)).no] at this
        cases this
      | some b1 =>
        obtain ⟨e1, p1⟩ := tripN.bk bs c b1 hB q0
        have hB1 : Byt b1 := by rw [e1] at hB; exact hB.tail
        rcases q2 : r4 (shpAt c) (some b1) with ⟨⟨d, a, b, k⟩, s2⟩
        rw [q2] at q
        simp only [Prod.mk.injEq] at q
        obtain ⟨rfl, rfl⟩ := q
        obtain ⟨e2, p2⟩ := (trip4 (shpAt c)).bk b1 (d, a, b, k) m hB1 q2
        refine ⟨?_, hc, p2⟩
        rw [encOp_eq, List.append_assoc, ← e2, ← e1]
  · rw [rO_eq]
    simp only [rOs]
    have : (if isC (rN none).1 = true then (rN none).2 else none) = none := by
      split
      · exact tripN.no
      · rfl
    rw [this]
    exact (trip4 _).no
def PFx (f : Fx) : Prop := PN f.regs ∧ f.ops.length ≤ 2000 ∧ ∀ o ∈ f.ops, PO o
theorem tripFn : Trip rFn encFx PFx :=
  tripN.two (tripO.list 2000 (by omega)) (fun a b => (⟨a, b⟩ : Fx)) Fx.regs Fx.ops (fun _ _ => rfl) (fun _ _ => rfl) (fun _ => rfl)
end Go.Proofs.YthnolocldeokeaaGreat

namespace Go.Proofs.YthnolocldeokeaaGreat
open Go.RowKit Go.Deep Go.Shelf
set_option linter.unusedVariables false
set_option linter.unusedSimpArgs false
set_option maxRecDepth 100000
theorem simB_P {t : TyP} (h : simB t = true) : PT t := by
  unfold simB at h
  simp only [Bool.and_eq_true, Bool.or_eq_true, decide_eq_true_eq] at h
  exact ⟨⟨by omega, by omega⟩, ⟨by omega, by omega⟩⟩
theorem typB_P {n : Nat} (hn : n ≤ 16) {t : TyP} (h : typB n t = true) : PT t := by
  unfold typB at h
  split at h
  · simp only [Bool.and_eq_true, decide_eq_true_eq] at h
    exact ⟨⟨by omega, by omega⟩, ⟨by omega, by omega⟩⟩
  · exact simB_P h
theorem keyB_P {t : TyP} (h : keyB t = true) : PT t := by
  unfold keyB at h
  simp only [Bool.and_eq_true, Bool.or_eq_true, decide_eq_true_eq] at h
  exact ⟨⟨by omega, by omega⟩, ⟨by omega, by omega⟩⟩
theorem noneB_P {t : TyP} (h : noneB t = true) : PT t := by
  unfold noneB at h
  simp only [Bool.and_eq_true, decide_eq_true_eq] at h
  exact ⟨⟨by omega, by omega⟩, ⟨by omega, by omega⟩⟩
theorem sigs_P {n : Nat} (hn : n ≤ 16) {l : List (GH × Sg)} (h : sigsB n (l.map (·.2)) = true) : (l.map (·.2)).length ≤ 16 ∧ ∀ s ∈ l.map (·.2), PSg s := by
  have sm := sigs_sm h
  unfold sigsB at h
  simp only [Bool.and_eq_true, decide_eq_true_eq] at h
  refine ⟨h.1.1, fun s hs => ?_⟩
  obtain ⟨x, hx, rfl⟩ := List.mem_map.1 hs
  have q := List.all_eq_true.1 h.1.2 _ hs
  unfold sigB at q
  simp only [Bool.and_eq_true, Bool.or_eq_true, decide_eq_true_eq] at q
  have := (sm.2 x hx).1
  exact ⟨by omega, ⟨q.1.1, fun t ht => typB_P hn (List.all_eq_true.1 q.2 t ht)⟩, q.1.2.elim noneB_P (typB_P hn)⟩
theorem bnd_PF {c : Cx} {regs : Int} {nops : Nat} (hr : 0 ≤ regs ∧ regs ≤ 64) (hn : nops ≤ 2000) (hi : c.ints ≤ 1000) (ht : c.texts.length ≤ 1000) (hp : PgSm c.p) {r len x : Int} (hl : 0 ≤ len) (h : inB (bnd c regs nops r len) x = true) : PF r x := by
  have h1 := hp.rl
  have h2 := hp.ml
  have h3 := hp.fl
  have h4 := hp.el
  obtain ⟨q, hq⟩ : ∃ q, q = bnd c regs nops r len := ⟨_, rfl⟩
  rw [← hq] at h
  unfold inB at h
  simp only [Bool.not_eq_true', Bool.or_eq_false_iff, decide_eq_false_iff_not] at h
  unfold bnd at hq
  unfold PF PN
  by_cases c0 : r = 1 ∨ r = 3
  · rw [if_pos c0] at hq; rw [if_neg (by omega : ¬ r = 0)]; subst hq; simp only at h; omega
  rw [if_neg c0] at hq
  by_cases c1 : r = 2 ∨ r = 4
  · rw [if_pos c1] at hq; rw [if_neg (by omega : ¬ r = 0)]; subst hq; simp only at h; omega
  rw [if_neg c1] at hq
  by_cases c2 : r = 5
  · rw [if_pos c2] at hq; rw [if_neg (by omega : ¬ r = 0)]; subst hq; simp only at h; omega
  rw [if_neg c2] at hq
  by_cases c3 : r = 6
  · rw [if_pos c3] at hq; rw [if_neg (by omega : ¬ r = 0)]; subst hq; simp only at h; omega
  rw [if_neg c3] at hq
  by_cases c4 : r = 7
  · rw [if_pos c4] at hq; rw [if_neg (by omega : ¬ r = 0)]; subst hq; simp only at h; omega
  rw [if_neg c4] at hq
  by_cases c5 : r = 8
  · rw [if_pos c5] at hq; rw [if_neg (by omega : ¬ r = 0)]; subst hq; simp only at h; omega
  rw [if_neg c5] at hq
  by_cases c6 : r = 9
  · rw [if_pos c6] at hq; rw [if_neg (by omega : ¬ r = 0)]; subst hq; simp only at h; omega
  rw [if_neg c6] at hq
  by_cases c7 : r = 10
  · rw [if_pos c7] at hq; rw [if_neg (by omega : ¬ r = 0)]; subst hq; simp only at h; omega
  rw [if_neg c7] at hq
  by_cases c8 : r = 11
  · rw [if_pos c8] at hq; rw [if_neg (by omega : ¬ r = 0)]; subst hq; simp only at h; omega
  rw [if_neg c8] at hq
  by_cases c9 : r = 12
  · rw [if_pos c9] at hq; rw [if_neg (by omega : ¬ r = 0)]; subst hq; simp only at h; omega
  rw [if_neg c9] at hq
  by_cases c10 : r = 13
  · rw [if_pos c10] at hq; rw [if_neg (by omega : ¬ r = 0)]; subst hq; simp only at h; omega
  rw [if_neg c10] at hq
  by_cases c11 : r = 14
  · rw [if_pos c11] at hq; rw [if_neg (by omega : ¬ r = 0)]; subst hq; simp only at h; omega
  rw [if_neg c11] at hq
  subst hq
  simp only at h
  split <;> omega
theorem fn_P {c : Cx} (hi : c.ints ≤ 1000) (ht : c.texts.length ≤ 1000) (hp : PgSm c.p) {n : Nat} {f : Fx} (h : isFnB c n f = true) : PFx f := by
  unfold isFnB at h
  simp only [Bool.and_eq_true, Bool.not_eq_true', Bool.or_eq_false_iff, decide_eq_false_iff_not] at h
  obtain ⟨⟨⟨⟨h1, h2⟩, h3⟩, h4⟩, h5⟩ := h
  have hr : 0 ≤ f.regs ∧ f.regs ≤ 64 := by omega
  refine ⟨⟨by omega, by omega⟩, by omega, fun o ho => ?_⟩
  have h6 := List.all_eq_true.1 h5 o ho
  unfold isOpB at h6
  simp only [Bool.and_eq_true] at h6
  obtain ⟨hc, ⟨⟨hd, ha⟩, hb⟩, hk⟩ := h6
  have hl := rowLen_nn (shpAt o.c).k c.p o.k
  exact ⟨hc, bnd_PF hr (by omega) hi ht hp hl hd, bnd_PF hr (by omega) hi ht hp hl ha, bnd_PF hr (by omega) hi ht hp hl hb, bnd_PF hr (by omega) hi ht hp hl hk⟩
theorem fns_P {c : Cx} (hi : c.ints ≤ 1000) (ht : c.texts.length ≤ 1000) (hp : PgSm c.p) {ss : List Sg} {fs : List Fx} (hl : fs.length = ss.length) (h : isFnsB c ss fs = true) : ∀ f ∈ fs, PFx f := fun f hf => by
  obtain ⟨i, hi2, rfl⟩ := List.mem_iff_getElem.1 hf
  have hz : (ss[i]'(by omega), fs[i]) ∈ ss.zip fs := List.mem_iff_getElem.2 ⟨i, by rw [List.length_zip]; omega, List.getElem_zip⟩
  unfold isFnsB at h
  have h1 := List.all_eq_true.1 h _ hz
  exact fn_P (n := (ss[i]'(by omega)).params.length) hi ht hp h1
def PMp (m : Mp) : Prop := m.name.size ≤ 64 ∧ PT m.key ∧ PT m.val
/- What is read may be written. -/
structure AllP (rs : List Rc) (ms : List Mp) (fs es : List Sg) (is : List Int) (ts : List ByteArray) (F E : List Fx) : Prop where
  r : rs.length ≤ 16 ∧ ∀ x ∈ rs, PRc x
  m : ms.length ≤ 16 ∧ ∀ x ∈ ms, PMp x
  f : fs.length ≤ 16 ∧ ∀ x ∈ fs, PSg x
  e : es.length ≤ 16 ∧ ∀ x ∈ es, PSg x
  i : is.length ≤ 1000 ∧ ∀ x ∈ is, inR x
  t : ts.length ≤ 1000 ∧ ∀ x ∈ ts, x.size ≤ 64
  F1 : F.length = fs.length
  F2 : ∀ x ∈ F, PFx x
  E1 : E.length = es.length
  E2 : ∀ x ∈ E, PFx x
theorem is_P {c : Cx} {xs : List Int} (h : isB c = true) (hx : xs.length = c.ints) (hin : ∀ x ∈ xs, inR x) : AllP (c.p.recs.map (·.2)) c.p.maps (c.p.funcs.map (·.2)) (c.p.events.map (·.2)) xs c.texts c.funcs c.events := by
  unfold isB at h
  simp only [Bool.and_eq_true, decide_eq_true_eq] at h
  obtain ⟨⟨⟨⟨⟨h1, h2⟩, h3⟩, h4⟩, h5⟩, h6⟩ := h
  have sm := right_sm h1
  unfold constB at h2
  simp only [Bool.and_eq_true, decide_eq_true_eq] at h2
  unfold rightB at h1
  simp only [Bool.and_eq_true] at h1
  obtain ⟨⟨⟨⟨r1, r2⟩, r3⟩, r4⟩, _⟩ := h1
  unfold recordsB at r1
  simp only [Bool.and_eq_true, decide_eq_true_eq] at r1
  unfold mapsB at r2
  simp only [Bool.and_eq_true, decide_eq_true_eq] at r2
  have hrn : c.p.rn ≤ 16 := sm.rl
  refine ⟨⟨r1.1.1, fun x hx => ?_⟩, ⟨r2.1.1, fun m hm => ?_⟩, sigs_P hrn r3, sigs_P hrn r4, ⟨by omega, hin⟩, ⟨h2.1.2, fun t ht => of_decide_eq_true (List.all_eq_true.1 h2.2 t ht)⟩, by rw [List.length_map]; exact h3, fns_P h2.1.1 h2.1.2 sm (by rw [List.length_map]; exact h3) h5, by rw [List.length_map]; exact h4, fns_P h2.1.1 h2.1.2 sm (by rw [List.length_map]; exact h4) h6⟩
  · have q := List.all_eq_true.1 r1.1.2 x hx
    obtain ⟨y, hy, rfl⟩ := List.mem_map.1 hx
    unfold fieldsB at q
    simp only [Bool.and_eq_true, decide_eq_true_eq] at q
    have s := sm.r y hy
    have s1 := s.nm
    exact ⟨by omega, ⟨s.fl, fun z hz => by have := s.fs z hz; omega⟩, ⟨s.tl, fun t ht => simB_P (List.all_eq_true.1 q.1.2 t ht)⟩⟩
  · have q := List.all_eq_true.1 r2.1.2 m hm
    unfold mapB at q
    simp only [Bool.and_eq_true] at q
    have := sm.m m hm
    exact ⟨by omega, keyB_P q.1, typB_P hrn q.2⟩
def encAll (rs : List Rc) (ms : List Mp) (fs es : List Sg) (is : List Int) (ts : List ByteArray) (F E : List Fx) : List Nat := encRcs rs ++ encMps ms ++ encSgs fs ++ encSgs es ++ encIns is ++ encSs ts ++ ((F ++ E).map encFx).flatten
theorem encC_all (c : Cx) (xs : List Int) : encC c xs = encAll (c.p.recs.map (·.2)) c.p.maps (c.p.funcs.map (·.2)) (c.p.events.map (·.2)) xs c.texts c.funcs c.events := rfl
theorem encAll_eq (rs : List Rc) (ms : List Mp) (fs es : List Sg) (is : List Int) (ts : List ByteArray) (F E : List Fx) (m : List Nat) : encAll rs ms fs es is ts F E ++ m = encRcs rs ++ (encMps ms ++ (encSgs fs ++ (encSgs es ++ (encIns is ++ (encSs ts ++ ((F.map encFx).flatten ++ ((E.map encFx).flatten ++ m))))))) := by
  simp [encAll]
theorem tRcs : Trip (rL rRc 16) encRcs (fun l => l.length ≤ 16 ∧ ∀ x ∈ l, PRc x) := tripRc.list 16 (by omega)
theorem tMps : Trip (rL rMp 16) encMps (fun l => l.length ≤ 16 ∧ ∀ x ∈ l, PMp x) := tripMp.list 16 (by omega)
theorem tSgs : Trip (rL rSg 16) encSgs (fun l => l.length ≤ 16 ∧ ∀ x ∈ l, PSg x) := tripSg.list 16 (by omega)
theorem tIns : Trip (rL rI 1000) encIns (fun l => l.length ≤ 1000 ∧ ∀ x ∈ l, inR x) := tripI.list 1000 (by omega)
theorem tSs : Trip (rL rT 1000) encSs (fun l => l.length ≤ 1000 ∧ ∀ x ∈ l, x.size ≤ 64) := tripT.list 1000 (by omega)
theorem chain_fw {rs : List Rc} {ms : List Mp} {fs es : List Sg} {is : List Int} {ts : List ByteArray} {F E : List Fx} (h : AllP rs ms fs es is ts F E) (m : List Nat) :
    ∃ s1 s2 s3 s4 s5 s6 s7, rL rRc 16 (some (encAll rs ms fs es is ts F E ++ m)) = (rs, s1) ∧ rL rMp 16 s1 = (ms, s2) ∧ rL rSg 16 s2 = (fs, s3) ∧ rL rSg 16 s3 = (es, s4) ∧ rL rI 1000 s4 = (is, s5) ∧ rL rT 1000 s5 = (ts, s6) ∧ rLn rFn fs.length s6 = (F, s7) ∧ rLn rFn es.length s7 = (E, some m) := by
  rw [encAll_eq]
  exact ⟨_, _, _, _, _, _, _, tRcs.fw _ _ h.r, tMps.fw _ _ h.m, tSgs.fw _ _ h.f, tSgs.fw _ _ h.e, tIns.fw _ _ h.i, tSs.fw _ _ h.t, ln_fw tripFn _ F h.F1 h.F2 _, ln_fw tripFn _ E h.E1 h.E2 m⟩
theorem Trip.some {α : Type} {r : Option (List Nat) → α × Option (List Nat)} {e : α → List Nat} {P : α → Prop} (h : Trip r e P) {s : Option (List Nat)} {x : α} {b : List Nat} (q : r s = (x, .some b)) : ∃ bs, s = .some bs := by
  cases s with
  | none => have := h.no; rw [q] at this; cases this
  | some bs => exact ⟨bs, rfl⟩
theorem AllP.des {rs : List Rc} {ms : List Mp} {fs es : List Sg} {is : List Int} {ts : List ByteArray} {F E : List Fx} (h : AllP rs ms fs es is ts F E) : DeS rs ms fs es is ts F E := by
  obtain ⟨⟨r1, r2⟩, ⟨m1, m2⟩, ⟨f1, f2⟩, ⟨e1, e2⟩, ⟨i1, i2⟩, ⟨t1, t2⟩, F1, F2, E1, E2⟩ := h
  exact ⟨by omega, by omega, fun m hm => by have := (m2 m hm).1; omega, by omega, fun s hs => by have := (f2 s hs).2.1.1; omega, by omega, fun s hs => by have := (e2 s hs).2.1.1; omega, by omega, by omega, fun s hs => by have := t2 s hs; omega, by omega, fun x hx => by have := (F2 x hx).2.1; omega, by omega, fun x hx => by have := (E2 x hx).2.1; omega⟩
/- Code that may be comes back from its bytes. -/
theorem decode_enc (SO : ShapeC) (w : World) (a : Option Addr) (n c : Nat) (cx : Cx) (xs : List Int) (his : isB cx = true) (hx : xs.length = cx.ints) (hin : ∀ x ∈ xs, inR x) (hb : Rd w (.slice a n c) (encC cx xs)) (hl : (encC cx xs).length ≤ 1000000000) (ho : ∀ k, (Value.slice a n c).ownBlock = some k → k < w.heap.size) :
    Calls Tryz.prog 10 #[.slice a n c] w fun e w' => Below w.heap.size w w' ∧ ∃ C cy fl el, e = .returned (.tuple #[C.v, .int .i64 0]) ∧ isB cy = true ∧ CEq cx cy ∧ CdRd w' C cy fl el ∧ JRd w' C.ia xs ∧ C.inn = xs.length := by
  have P := is_P his hx hin
  obtain ⟨s1, s2, s3, s4, s5, s6, s7, q0, q1, q2, q3, q4, q5, q6, q7⟩ := chain_fw P []
  rw [List.append_nil, ← encC_all] at q0
  have h := decode_go SO w a n c (encC cx xs) hb hl ho _ _ _ _ _ _ _ _ (some (encC cx xs)) s1 s2 s3 s4 s5 s6 s7 (some []) rfl q0 q1 q2 q3 q4 q5 q6 q7 (fun _ => P.des) P.f.1 P.e.1
  refine h.mono ?_
  rintro e w' ⟨hbl, h | h⟩
  · obtain ⟨_, C, cy, fl, el, he, hi, d, hc, hj, hn⟩ := h
    exact ⟨hbl, C, cy, fl, el, he, hi, ⟨⟨d.r.symm, d.m.symm, d.f.symm, d.e.symm⟩, d.t.symm, d.F.symm, d.E.symm⟩, hc, hj, hn⟩
  · obtain ⟨c', d, hf⟩ := h.1 rfl
    have : isB c' = isB cx := isB_of ⟨d.r, d.m, d.f, d.e⟩ (d.i.trans hx) d.t d.F d.E
    rw [hf, his] at this
    cases this
/- Whatever bytes: what is read of them may be and has just these bytes, or they are refused. -/
end Go.Proofs.YthnolocldeokeaaGreat

namespace Go.Proofs.YthnolocldeokeaaGreat
open Go.RowKit Go.Deep Go.Shelf
set_option linter.unusedVariables false
set_option linter.unusedSimpArgs false
set_option maxRecDepth 100000
set_option maxHeartbeats 4000000 in
theorem known9_any (SO : ShapeC) (w : World) : Calls Tryz.prog 6 #[] w fun e w' => e = .returned (.bool true) ∧ Below w.heap.size w w' := by
  obtain ⟨A0, hA0⟩ : ∃ A0, A0 = w.alloc (.cells #[.int .i64 1, .int .i64 0, .int .i64 1, .int .i64 0] 46) := ⟨_, rfl⟩
  obtain ⟨A1, hA1⟩ : ∃ A1, A1 = A0.alloc (.cells #[.string ⟨#[102]⟩, .slice (some ⟨w.heap.size, 0, none⟩) 2 2, .int .i64 0, .int .i64 0] 49) := ⟨_, rfl⟩
  obtain ⟨A, hA⟩ : ∃ A, A = A1.alloc (.cells #[.slice none 0 0, .slice none 0 0, .slice (some ⟨w.heap.size + 1, 0, none⟩) 1 1, .slice none 0 0] 26) := ⟨_, rfl⟩
  have z0 : A0.heap.size = w.heap.size + 1 := by rw [hA0]; simp
  have z1 : A1.heap.size = w.heap.size + 2 := by rw [hA1]; simp; omega
  have z2 : A.heap.size = w.heap.size + 3 := by rw [hA]; simp; omega
  have b0 : Below w.heap.size w A0 := by rw [hA0]; exact (Below.refl _ _).alloc (Nat.le_refl _) _
  have b1 : Below w.heap.size w A1 := by rw [hA1]; exact b0.alloc (by omega) _
  have b2 : Below w.heap.size w A := by rw [hA]; exact b1.alloc (by omega) _
  have m0 : A.heap[w.heap.size]? = some (.cells #[.int .i64 1, .int .i64 0, .int .i64 1, .int .i64 0] 46 (0, 0)) := by rw [hA, Below.heap_alloc _ _ _ (by omega), hA1, Below.heap_alloc _ _ _ (by omega), hA0]; exact heap_alloc_new w _
  have m1 : A.heap[w.heap.size + 1]? = some (.cells #[.string ⟨#[102]⟩, .slice (some ⟨w.heap.size, 0, none⟩) 2 2, .int .i64 0, .int .i64 0] 49 (0, 0)) := by rw [hA, Below.heap_alloc _ _ _ (by omega), hA1, ← z0]; exact heap_alloc_new A0 _
  have m2 : A.heap[w.heap.size + 2]? = some (.cells #[.slice none 0 0, .slice none 0 0, .slice (some ⟨w.heap.size + 1, 0, none⟩) 1 1, .slice none 0 0] 26 (0, 0)) := by rw [hA, ← z1]; exact heap_alloc_new A1 _
  have c0 := cellOf m2 0
  have c1 := cellOf m2 1
  have c2 := cellOf m2 2
  have c3 := cellOf m2 3
  simp only [List.getElem?_toArray, List.getElem?_cons_zero, List.getElem?_cons_succ] at c0 c1 c2 c3
  have K1 := uses_any SO A _ _ (kPRd m0 m1) ⟨31, -1, 3, 0, 0⟩ (by kernel_rfl) 2 (by omega) (kPf_len _) ⟨by simp, by simp, by simp, by simp⟩
  rw [kUs] at K1
  simp only [PH.v, Opx.cs] at K1
  have K1 := hid K1
  have HBA := hid b2
  clear m0 m1 m2 b0 b1 b2 z0 z1 z2
  have KD := hid (fun (V : World) (a : Option Addr) (n c : Nat) hb ho => kDec SO V a n c hb ho)
  have KE := hid (fun (V : World) (C : CH) (fs es : List (FH × Fx)) (d : CdRd V C kCx fs es) (jr : JRd V C.ia []) (jn : C.inn = ([] : List Int).length) => (encode_any SO V C kCx fs es d [] jr jn (fun x hx => by simp at hx)).mono (fun e w' h => (by
    obtain ⟨hb, h | h⟩ := h
    · rw [kCx_is] at h; cases h.1
    · obtain ⟨_, v, he, hr⟩ := h
      rw [kCx_enc] at hr
      exact ⟨hb, v, he, hr⟩ : Below V.heap.size V w' ∧ ∃ v, e = .returned (.tuple #[v, .int .i64 0]) ∧ Row w' V.heap.size v kBs)))
  have KI := hid (fun (V : World) (C : CH) (fs es : List (FH × Fx)) (d : CdRd V C kCx fs es) => (by
    have := codeIs_any SO V C kCx fs es d
    rw [kCx_is] at this; exact this : Calls Tryz.prog 17 #[C.v] V fun e w' => e = .returned (.bool true) ∧ Below V.heap.size V w'))
  /- the code that the law makes, from a world on -/
  have MK : Hid (∀ V : World, ∃ B : World, B = (((V.alloc (.cells #[.string ⟨#[101]⟩, .slice none 0 0, .int .i64 0, .int .i64 0] 49)).alloc (.cells #[.int .i64 35, .int .i64 0, .int .i64 0, .int .i64 0, .int .i64 0, .int .i64 40, .int .i64 0, .int .i64 (-1), .int .i64 0, .int .i64 0] 54)).alloc (.cells #[.int .i64 0, .slice (some ⟨V.heap.size + 1, 0, none⟩) 2 2] 57)).alloc (.cells #[.slice none 0 0, .slice none 0 0, .slice none 0 0, .slice (some ⟨V.heap.size, 0, none⟩) 1 1, .slice none 0 0, .slice none 0 0, .slice none 0 0, .slice (some ⟨V.heap.size + 1 + 1, 0, none⟩) 1 1] 31) ∧ Below V.heap.size V B ∧ B.heap[V.heap.size + 1 + 1 + 1]? = some (.cells #[.slice none 0 0, .slice none 0 0, .slice none 0 0, .slice (some ⟨V.heap.size, 0, none⟩) 1 1, .slice none 0 0, .slice none 0 0, .slice none 0 0, .slice (some ⟨V.heap.size + 1 + 1, 0, none⟩) 1 1] 31 (0, 0)) ∧ CdRd B ⟨⟨none, 0, 0, none, 0, 0, none, 0, 0, some ⟨V.heap.size, 0, none⟩, 1, 1⟩, none, 0, 0, none, 0, 0, none, 0, 0, some ⟨V.heap.size + 1 + 1, 0, none⟩, 1, 1⟩ kCx [] [((⟨0, some ⟨V.heap.size + 1, 0, none⟩, 2, 2⟩ : FH), kFx)]) := hid (fun V => by
    refine ⟨_, rfl, ?_⟩
    obtain ⟨B0, hB0⟩ : ∃ B0, B0 = V.alloc (.cells #[.string ⟨#[101]⟩, .slice none 0 0, .int .i64 0, .int .i64 0] 49) := ⟨_, rfl⟩
    rw [← hB0]
    obtain ⟨B1, hB1⟩ : ∃ B1, B1 = B0.alloc (.cells #[.int .i64 35, .int .i64 0, .int .i64 0, .int .i64 0, .int .i64 0, .int .i64 40, .int .i64 0, .int .i64 (-1), .int .i64 0, .int .i64 0] 54) := ⟨_, rfl⟩
    rw [← hB1]
    obtain ⟨B2, hB2⟩ : ∃ B2, B2 = B1.alloc (.cells #[.int .i64 0, .slice (some ⟨V.heap.size + 1, 0, none⟩) 2 2] 57) := ⟨_, rfl⟩
    rw [← hB2]
    obtain ⟨B3, hB3⟩ : ∃ B3, B3 = B2.alloc (.cells #[.slice none 0 0, .slice none 0 0, .slice none 0 0, .slice (some ⟨V.heap.size, 0, none⟩) 1 1, .slice none 0 0, .slice none 0 0, .slice none 0 0, .slice (some ⟨V.heap.size + 1 + 1, 0, none⟩) 1 1] 31) := ⟨_, rfl⟩
    rw [← hB3]
    have z0 : B0.heap.size = V.heap.size + 1 := by rw [hB0]; simp
    have z1 : B1.heap.size = V.heap.size + 1 + 1 := by rw [hB1]; simp; omega
    have z2 : B2.heap.size = V.heap.size + 1 + 1 + 1 := by rw [hB2]; simp; omega
    have b0 : Below V.heap.size V B0 := by rw [hB0]; exact (Below.refl _ _).alloc (Nat.le_refl _) _
    have b1 : Below V.heap.size V B1 := by rw [hB1]; exact b0.alloc (by omega) _
    have b2 : Below V.heap.size V B2 := by rw [hB2]; exact b1.alloc (by omega) _
    have b3 : Below V.heap.size V B3 := by rw [hB3]; exact b2.alloc (by omega) _
    refine ⟨b3, by rw [hB3, ← z2]; exact heap_alloc_new B2 _, kCd ?_ ?_ ?_⟩
    · rw [hB3, Below.heap_alloc _ _ _ (by omega), hB2, Below.heap_alloc _ _ _ (by omega), hB1, Below.heap_alloc _ _ _ (by omega), hB0]; exact heap_alloc_new V _
    · rw [hB3, Below.heap_alloc _ _ _ (by omega), hB2, Below.heap_alloc _ _ _ (by omega), hB1, ← z0]; exact heap_alloc_new B0 _
    · rw [hB3, Below.heap_alloc _ _ _ (by omega), hB2, ← z1]; exact heap_alloc_new B1 _)
  clear SO
  go_enter Tryz.func6, Tryz.ntmps6
  go_upto_region 2 with fail
  rw [← hA0, ← hA1, ← hA]
  clear hA0 hA1 hA
  rw [show w.heap.size + 1 + 1 = w.heap.size + 2 from rfl]
  go_upto_region 3 with (go_at_call 15; (refine (Hid.out K1).mono ?_; rintro e w1 ⟨v1, rfl, hk1, hb1⟩; obtain ⟨la, lc, rfl, hi1⟩ := hk1.ird; have HI1 := hid hi1; have HW1 := hid (HBA.out.trans (hb1.mono HBA.out.size)); clear hk1 hb1 hi1))
  clear c0 c1 c2 c3 K1 HBA
  obtain ⟨B, hB, bB, mB, cB⟩ := MK.out w1
  go_upto_region 4 with fail
  rw [← hB]
  clear hB
  obtain ⟨k0, k1, k2, k3, k4, k5, k6, k7⟩ := cell_eight mB
  have K2 := KE.out B _ _ _ cB (jrd_nil _ _) rfl
  simp only [CH.v, CH.cs] at K2
  have K2 := hid K2
  have CB := hid cB
  have MB := hid mB
  have HWB := hid (HW1.out.trans (bB.mono HW1.out.size))
  have HIB := hid (HI1.out.below bB)
  have hzB : w1.heap.size + 1 + 1 + 1 < B.heap.size := lt_of_heap mB
  clear cB mB bB HI1 HW1 MK KE
  go_upto_region 5 with (go_at_call 8; (refine (Hid.out K2).mono ?_; rintro e w2 ⟨hb2, v2, rfl, hr2⟩; obtain ⟨va, vc, rfl, _⟩ := hr2.form; have K3 := hid (KD.out w2 va _ vc (hr2.rd (by unfold Byt; simp [kBs])) (fun k e => by obtain ⟨cur, hc⟩ := hr2.cells e; exact lt_of_heap hc)); have HB2 := hid hb2; clear hr2 hb2))
  clear k0 k1 k2 k3 k4 k5 k6 k7 K2 KD
  go_upto_region 6 with (go_at_call 10; (refine (Hid.out K3).mono ?_; rintro e w3 ⟨hb3, ⟨⟨ra, rn, rc, ma, mn, mc, fa, fn, fc, ea, en, ec⟩, ia, inn, ic, ta, tn, tc, ga, gn, gc, ha, hn, hc⟩, cx, fl, el, rfl, hce, hcd, hjr, hjn⟩; simp only [CH.v, CH.cs]; have HB3 := hid (HB2.out.trans (hb3.mono HB2.out.size)); have CE := hid hce; have CD := hid hcd; have JR := hid hjr; have JN := hid hjn; clear hb3 hce hcd hjr hjn))
  obtain ⟨E0, hE0⟩ : ∃ E0, E0 = w3.alloc (.cells #[.slice ra rn rc, .slice ma mn mc, .slice fa fn fc, .slice ea en ec, .slice ia inn ic, .slice ta tn tc, .slice ga gn gc, .slice ha hn hc] 31) := ⟨_, rfl⟩
  have bE : Below w3.heap.size w3 E0 := by rw [hE0]; exact (Below.refl _ _).alloc (Nat.le_refl _) _
  have mE : E0.heap[w3.heap.size]? = some (.cells #[.slice ra rn rc, .slice ma mn mc, .slice fa fn fc, .slice ea en ec, .slice ia inn ic, .slice ta tn tc, .slice ga gn gc, .slice ha hn hc] 31 (0, 0)) := by rw [hE0]; exact heap_alloc_new w3 _
  rw [← hE0]
  clear hE0
  have bBE : Below B.heap.size B E0 := HB3.out.trans (bE.mono HB3.out.size)
  have GT : Hid (∀ V : World, Below E0.heap.size E0 V → V.heap[w1.heap.size + 1 + 1 + 1]? = some (.cells #[.slice none 0 0, .slice none 0 0, .slice none 0 0, .slice (some ⟨w1.heap.size, 0, none⟩) 1 1, .slice none 0 0, .slice none 0 0, .slice none 0 0, .slice (some ⟨w1.heap.size + 1 + 1, 0, none⟩) 1 1] 31 (0, 0)) ∧ V.heap[w3.heap.size]? = some (.cells #[.slice ra rn rc, .slice ma mn mc, .slice fa fn fc, .slice ea en ec, .slice ia inn ic, .slice ta tn tc, .slice ga gn gc, .slice ha hn hc] 31 (0, 0)) ∧ CdRd V (⟨⟨none, 0, 0, none, 0, 0, none, 0, 0, some ⟨w1.heap.size, 0, none⟩, 1, 1⟩, none, 0, 0, none, 0, 0, none, 0, 0, some ⟨w1.heap.size + 1 + 1, 0, none⟩, 1, 1⟩ : CH) kCx [] [((⟨0, some ⟨w1.heap.size + 1, 0, none⟩, 2, 2⟩ : FH), kFx)] ∧ CdRd V (⟨⟨ra, rn, rc, ma, mn, mc, fa, fn, fc, ea, en, ec⟩, ia, inn, ic, ta, tn, tc, ga, gn, gc, ha, hn, hc⟩ : CH) cx fl el ∧ JRd V ia [] ∧ Below w.heap.size w V) := hid (fun V hV => by
    have b1 : Below B.heap.size B V := bBE.trans (hV.mono bBE.size)
    have b2 : Below w3.heap.size w3 V := bE.trans (hV.mono bE.size)
    exact ⟨(b1.block _ hzB).trans MB.out, (hV.block _ (lt_of_heap mE)).trans mE, CB.out.below (Nat.le_refl _) b1, CD.out.below (Nat.le_refl _) b2, CRd.below JR.out (Nat.le_refl _) b2, HWB.out.trans (b1.mono HWB.out.size)⟩)
  have b5 : Below E0.heap.size E0 (E0.alloc (.cells #[.int .i64 3, .int .i64 4] 3)) := (Below.refl _ _).alloc (Nat.le_refl _) _
  have K4 := ints_yes (E0.alloc (.cells #[.int .i64 3, .int .i64 4] 3)) la (some ⟨E0.heap.size, 0, none⟩) 2 lc 2 [3, 4] rfl (by omega) (HIB.out.below (bBE.trans (b5.mono bBE.size))) (fun j x hx => ⟨E0.heap.size, 0, rfl, by
    have q := cellOf (heap_alloc_new E0 (.cells #[.int .i64 3, .int .i64 4] 3))
    match j, hx with
    | 0, hx => simp at hx; subst hx; exact q 0
    | 1, hx => simp at hx; subst hx; exact q 1
    | j + 2, hx => simp at hx⟩)
  have K4 := hid K4
  have B5 := hid b5
  have K5 : Hid (∀ V : World, Below E0.heap.size E0 V → Calls Tryz.prog 11 #[(⟨⟨none, 0, 0, none, 0, 0, none, 0, 0, some ⟨w1.heap.size, 0, none⟩, 1, 1⟩, none, 0, 0, none, 0, 0, none, 0, 0, some ⟨w1.heap.size + 1 + 1, 0, none⟩, 1, 1⟩ : CH).v, (⟨⟨ra, rn, rc, ma, mn, mc, fa, fn, fc, ea, en, ec⟩, ia, inn, ic, ta, tn, tc, ga, gn, gc, ha, hn, hc⟩ : CH).v] V fun e w' => e = .returned (.bool true) ∧ Below V.heap.size V w') := hid (fun V hV => by
    obtain ⟨_, _, h1, h2, h3, _⟩ := GT.out V hV
    exact same_yes V (⟨⟨none, 0, 0, none, 0, 0, none, 0, 0, some ⟨w1.heap.size, 0, none⟩, 1, 1⟩, none, 0, 0, none, 0, 0, none, 0, 0, some ⟨w1.heap.size + 1 + 1, 0, none⟩, 1, 1⟩ : CH) (⟨⟨ra, rn, rc, ma, mn, mc, fa, fn, fc, ea, en, ec⟩, ia, inn, ic, ta, tn, tc, ga, gn, gc, ha, hn, hc⟩ : CH) kCx cx _ _ fl el [] h1 h2 CE.out (jrd_nil _ _) h3 rfl JN.out)
  have K6 : Hid (∀ V : World, Below E0.heap.size E0 V → Calls Tryz.prog 17 #[(⟨⟨none, 0, 0, none, 0, 0, none, 0, 0, some ⟨w1.heap.size, 0, none⟩, 1, 1⟩, none, 0, 0, none, 0, 0, none, 0, 0, some ⟨w1.heap.size + 1 + 1, 0, none⟩, 1, 1⟩ : CH).v] V fun e w' => e = .returned (.bool true) ∧ Below V.heap.size V w') := hid (fun V hV => KI.out V (⟨⟨none, 0, 0, none, 0, 0, none, 0, 0, some ⟨w1.heap.size, 0, none⟩, 1, 1⟩, none, 0, 0, none, 0, 0, none, 0, 0, some ⟨w1.heap.size + 1 + 1, 0, none⟩, 1, 1⟩ : CH) _ _ (GT.out V hV).2.2.1)
  simp only [CH.v, CH.cs] at K5 K6
  clear bE mE bBE b5 MB CB CE CD JR JN HB2 HB3 HIB K3 HWB KI
  go_wp2_with (first
    | (go_at_call 16; (refine (Hid.out K4).mono ?_; rintro e w4 ⟨rfl, hb4⟩; have HB4 := hid (B5.out.trans (hb4.mono B5.out.size)); obtain ⟨k0, k1, k2, k3, k4, k5, k6, k7⟩ := cell_eight (GT.out w4 HB4.out).1; obtain ⟨j0, j1, j2, j3, j4, j5, j6, j7⟩ := cell_eight (GT.out w4 HB4.out).2.1; clear hb4))
    | (go_at_call 11; (refine (K5.out w4 HB4.out).mono ?_; rintro e w5 ⟨rfl, hb5⟩; have HB5 := hid (HB4.out.trans (hb5.mono HB4.out.size)); clear k0 k1 k2 k3 k4 k5 k6 k7 j0 j1 j2 j3 j4 j5 j6 j7; obtain ⟨k0, k1, k2, k3, k4, k5, k6, k7⟩ := cell_eight (GT.out w5 HB5.out).1; clear hb5))
    | (go_at_call 17; (refine (K6.out w5 HB5.out).mono ?_; rintro e w6 ⟨rfl, hb6⟩; have HB6 := hid (GT.out w6 (HB5.out.trans (hb6.mono HB5.out.size))).2.2.2.2.2; clear hb6)))
  go_ret
  exact ⟨rfl, HB6.out⟩
end Go.Proofs.YthnolocldeokeaaGreat

namespace Go.Proofs.YthnolocldeokeaaGreat
open Go.RowKit Go.Deep Go.Shelf
set_option linter.unusedVariables false
set_option linter.unusedSimpArgs false
set_option maxRecDepth 100000
theorem Row.len {w : World} {B : Nat} {a : Option Addr} {n cap : Nat} {xs : List Nat} (h : Row w B (.slice a n cap) xs) : n = xs.length ∧ xs.length ≤ cap := by
  rcases h.2 with ⟨e, hn⟩ | ⟨g, cap', cur, e, hb, hgg, hc, rest⟩
  · cases e; exact ⟨hn.symm, by omega⟩
  · cases e; exact ⟨rfl, hc⟩
theorem Row.set {w : World} {B g n cap : Nat} {xs : List Nat} (h : Row w B (.slice (some ⟨g, 0, none⟩) n cap) xs) (j x : Nat) (hj : j < xs.length) : Row (w.setCell ⟨g, j, none⟩ (.int .u8 (x : Int))) B (.slice (some ⟨g, 0, none⟩) n cap) (xs.set j x) := by
  rcases h.2 with ⟨e, hn⟩ | ⟨g', cap', cur, e, hb, hgg, hc, hm, hs, ht⟩
  · cases e
  · cases e
    refine ⟨by simp [bv], .inr ⟨g, cap, _, by rw [List.length_set], hb, heap_set_at hgg j _, by rw [List.length_set]; exact hc, hm, by simpa using hs, ?_⟩⟩
    rw [List.length_set, Array.toList_setIfInBounds, List.take_set, ht]
    simp [bv]
theorem Byt.set {xs : List Nat} (h : Byt xs) (j x : Nat) (hx : x < 256) : Byt (xs.set j x) := fun y hy => by
  rcases List.mem_or_eq_of_mem_set hy with h1 | h1
  · exact h y h1
  · rw [h1]; exact hx
theorem ofB_inj' {a b : List Nat} (ha : Byt a) (hb : Byt b) (h : ofB a = ofB b) : a = b := by
  rw [← sb_ofB ha, h, sb_ofB hb]
theorem streq' (a b : ByteArray) : (a.toList == b.toList) = decide (a = b) := by
  rw [ByteArray.toList_eq, ByteArray.toList_eq]
  by_cases h : a = b
  · simp [h]
  · have : ¬ a.data = b.data := fun e => h (by cases a; cases b; simp at e; simp [e])
    simp [h, this]
theorem bytes_any (w : World) (v1 v2 : Value) (xs ys : List Nat) (h1 : Rd w v1 xs) (h2 : Rd w v2 ys) :
    Calls Tryz.prog 13 #[v1, v2] w fun e w' => e = .returned (.bool (decide (xs = ys))) ∧ w' = w := by
  have e1 := h1.conv
  have e2 := h2.conv
  obtain ⟨a1, c1, rfl, _, b1, _⟩ := h1
  obtain ⟨a2, c2, rfl, _, b2, _⟩ := h2
  have e3 : decide (ofB xs = ofB ys) = decide (xs = ys) := by
    by_cases h : xs = ys
    · simp [h]
    · have : ¬ ofB xs = ofB ys := fun e => h (ofB_inj' b1 b2 e)
      simp [h, this]
  rw [← e3]
  clear e3
  go_enter Tryz.func13, Tryz.ntmps13
  go_wp2
  go_ret
  exact ⟨by simp [streq'], rfl⟩
/- The bytes of whatever is written. -/
theorem flat_byt {α : Type} {f : α → List Nat} (h : ∀ x, Byt (f x)) : ∀ l : List α, Byt ((l.map f).flatten)
  | [] => fun x hx => by cases hx
  | a :: l => by rw [List.map_cons, List.flatten_cons]; exact (h a).append (flat_byt h l)
theorem encTy_byt (t : TyP) : Byt (encTy t) := (enc_byt _).append (enc_byt _)
theorem cnt_byt {α : Type} {f : α → List Nat} (h : ∀ x, Byt (f x)) (l : List α) : Byt (enc l.length ++ (l.map f).flatten) := (enc_byt _).append (flat_byt h l)
theorem encSg_byt (s : Sg) : Byt (encSg s) := ((encX_byt _).append (cnt_byt encTy_byt _)).append (encTy_byt _)
theorem encMp_byt (m : Mp) : Byt (encMp m) := ((encX_byt _).append (encTy_byt _)).append (encTy_byt _)
theorem encRc_byt (r : Rc) : Byt (encRc r) := ((encX_byt _).append (cnt_byt encX_byt _)).append (cnt_byt encTy_byt _)
theorem foe_byt (s : Shp) (o : Opx) (i : Fin 4) : Byt (foe s o i) := by
  unfold foe
  split
  · exact fun x hx => by cases hx
  · exact enc_byt _
theorem encOp_byt (o : Opx) : Byt (encOp o) := (enc_byt _).append (flat_byt (foe_byt _ _) _)
theorem encFx_byt (f : Fx) : Byt (encFx f) := (enc_byt _).append (cnt_byt encOp_byt _)
theorem encC_byt (c : Cx) (xs : List Int) : Byt (encC c xs) :=
  ((((((cnt_byt encRc_byt _).append (cnt_byt encMp_byt _)).append (cnt_byt encSg_byt _)).append (cnt_byt encSg_byt _)).append (cnt_byt (fun _ => enc_byt _) _)).append (cnt_byt encX_byt _)).append (flat_byt encFx_byt _)
/- What Encode gives, in one form: some bytes. -/
end Go.Proofs.YthnolocldeokeaaGreat

namespace Go.Proofs.YthnolocldeokeaaGreat
open Go.RowKit Go.Deep Go.Shelf
set_option linter.unusedVariables false
set_option linter.unusedSimpArgs false
set_option maxRecDepth 100000
theorem s3 : (shpAt 3).d = 1 ∧ (shpAt 3).a = 0 ∧ (shpAt 3).b = 0 ∧ (shpAt 3).k = 8 := ⟨by kernel_rfl, by kernel_rfl, by kernel_rfl, by kernel_rfl⟩
/- No two unlike codes have the same bytes. -/
theorem encC_inj {c d : Cx} {xs ys : List Int} (hc : isB c = true) (hx : xs.length = c.ints) (hxi : ∀ x ∈ xs, inR x) (hd : isB d = true) (hy : ys.length = d.ints) (hyi : ∀ x ∈ ys, inR x) (e : encC c xs = encC d ys) : xs = ys ∧ CEq c d := by
  have P := is_P hc hx hxi
  have Q := is_P hd hy hyi
  obtain ⟨s1, s2, s3, s4, s5, s6, s7, q0, q1, q2, q3, q4, q5, q6, q7⟩ := chain_fw P []
  obtain ⟨t1, t2, t3, t4, t5, t6, t7, r0, r1, r2, r3, r4, r5, r6, r7⟩ := chain_fw Q []
  rw [List.append_nil, ← encC_all] at q0 r0
  rw [e] at q0
  obtain ⟨z0, rfl⟩ := Prod.mk.inj (q0.symm.trans r0)
  obtain ⟨z1, rfl⟩ := Prod.mk.inj (q1.symm.trans r1)
  obtain ⟨z2, rfl⟩ := Prod.mk.inj (q2.symm.trans r2)
  obtain ⟨z3, rfl⟩ := Prod.mk.inj (q3.symm.trans r3)
  obtain ⟨z4, rfl⟩ := Prod.mk.inj (q4.symm.trans r4)
  obtain ⟨z5, rfl⟩ := Prod.mk.inj (q5.symm.trans r5)
  rw [z2] at q6
  obtain ⟨z6, rfl⟩ := Prod.mk.inj (q6.symm.trans r6)
  rw [z3] at q7
  obtain ⟨z7, _⟩ := Prod.mk.inj (q7.symm.trans r7)
  exact ⟨z4, ⟨⟨z0, z1, z2, z3⟩, z5, z6, z7⟩⟩
end Go.Proofs.YthnolocldeokeaaGreat

