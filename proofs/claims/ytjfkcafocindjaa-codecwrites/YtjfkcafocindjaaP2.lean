/- CodecBack: the walk. -/
import Derived.Test.YtjfkcafocindjaaK2
import Derived.Test.YtjfkcafocindjaaM2
import Derived.Test.YtjfkcafocindjaaO2
import Derived.Deep.DeepCutAuto
import Derived.Deep.CutBlock
namespace Go.Proofs.Ytjfkcafocindjaa
open Go.RowKit Go.Deep
set_option linter.unusedVariables false
set_option linter.unusedSimpArgs false

/- Behind the two boxes nothing that was there has turned, nor have they. -/
def Jb (w : World) (c1 c2 : Array Value) (wr : World) : Prop := Below (w.heap.size + 2) ((w.alloc (.cells c1 45)).alloc (.cells c2 52)) wr
section
variable {w wr w' : World} {c1 c2 : Array Value}
theorem Jb.size (h : Jb w c1 c2 wr) : w.heap.size + 2 ≤ wr.heap.size := by have := Below.size h; simp at this; omega
theorem Jb.step (h : Jb w c1 c2 wr) (k : Below wr.heap.size wr w') : Jb w c1 c2 w' := Below.trans h (k.mono h.size)
theorem Jb.alloc (h : Jb w c1 c2 wr) (o : Obj) : Jb w c1 c2 (wr.alloc o) := Below.alloc h h.size o
theorem Jb.base (h : Jb w c1 c2 wr) : Below w.heap.size w wr := (((Below.refl _ _).alloc (Nat.le_refl _) _).alloc (by simp) _).trans (Below.mono h (by omega))
theorem Jb.grw (h : Jb w c1 c2 wr) {v v' : Value} {xs : List Nat} (g : Grw wr v w' v') (r : Row wr (w.heap.size + 2) v xs) : Jb w c1 c2 w' := Below.trans h (g.below r h.size)
theorem Jb.at1 (h : Jb w c1 c2 wr) (i : Nat) : wr.cell? ⟨w.heap.size, i, none⟩ = c1[i]? := by
  have e : wr.heap[w.heap.size]? = some (.cells c1 45 (0, 0)) := by
    rw [Below.block h _ (by omega), Below.heap_alloc _ _ _ (by simp)]; exact heap_alloc_new w _
  exact cellOf e i
theorem Jb.at2 (h : Jb w c1 c2 wr) (i : Nat) : wr.cell? ⟨w.heap.size + 1, i, none⟩ = c2[i]? := by
  have e : wr.heap[w.heap.size + 1]? = some (.cells c2 52 (0, 0)) := by
    rw [Below.block h _ (by omega)]
    have := heap_alloc_new (w.alloc (.cells c1 45)) (.cells c2 52)
    rw [World.size_alloc] at this
    exact this
  exact cellOf e i
end
theorem Jb.cells {w wr : World} {kind int rc : Int} {text s : ByteArray} {a b : Option Addr} {n m c d : Nat} (h : Jb w #[.int .i64 kind, .int .i64 int, .string text, .int .i64 rc, .slice a n c] #[.string s, .slice b m d] wr) :
    wr.cell? ⟨w.heap.size, 0, none⟩ = some (.int .i64 kind) ∧ wr.cell? ⟨w.heap.size, 1, none⟩ = some (.int .i64 int) ∧ wr.cell? ⟨w.heap.size, 2, none⟩ = some (.string text) ∧ wr.cell? ⟨w.heap.size, 3, none⟩ = some (.int .i64 rc) ∧ wr.cell? ⟨w.heap.size, 4, none⟩ = some (.slice a n c) ∧ wr.cell? ⟨w.heap.size + 1, 0, none⟩ = some (.string s) ∧ wr.cell? ⟨w.heap.size + 1, 1, none⟩ = some (.slice b m d) :=
  ⟨h.at1 0, h.at1 1, h.at1 2, h.at1 3, h.at1 4, h.at2 0, h.at2 1⟩

/- What came in. -/
structure BIn (w : World) (h : Hd) (fs : List Hd) (gs : Nat → List Hd) (s : ByteArray) (a : Option Addr) (n cap : Nat) (hs : List Hd) (ps : List (Hd × List Hd)) (am : Option Addr) (nm cm : Nat) (ms : List Nat) (ab : Option Addr) (nb cb : Nat) (bs : List Nat) : Prop where
  d : Deep w h fs gs
  nh : n = hs.length
  n2 : n ≤ 9223372036854775807
  vr : VRd w a hs
  dl : DeepAll w hs
  np : n = ps.length
  pr : PRd w a ps
  md : Rd w (.slice am nm cm) ms
  mnil : (Value.slice am nm cm).ownBlock = none → Value.slice am nm cm = .slice none 0 0
  bd : Rd w (.slice ab nb cb) bs

def wX : Option (Vl × Nat) → Vl | none => vl zeroH | some (x, _) => x
def wK : Option (Vl × Nat) → Int | none => 0 | some (_, k) => (k : Int)
def wE : Option (Vl × Nat) → Int | none => 20 | some _ => 0
theorem valQ_eq {B : Nat} {o : Option (Vl × Nat)} {e : Ending} {w' : World} (h : ValP B o e w') : ∃ h : Hd, e = .returned (.tuple #[h.v, .int .i64 (wK o), .int .i64 (wE o)]) ∧ Rep w' (wX o) h := by
  rcases o with _ | ⟨x, k⟩
  · exact ⟨zeroH, h, ⟨rfl, rfl, rfl, rfl, rfl, fun j x hx => by simp [wX, vl] at hx⟩⟩
  · obtain ⟨hh, he, hr, _⟩ := h
    exact ⟨hh, he, hr⟩
def xS : Option ((ByteArray × List Vl) × Nat) → ByteArray | none => ⟨#[]⟩ | some ((s, _), _) => s
def xX : Option ((ByteArray × List Vl) × Nat) → List Vl | none => [] | some ((_, xs), _) => xs
def xK : Option ((ByteArray × List Vl) × Nat) → Int | none => 0 | some (_, k) => (k : Int)
def xE : Option ((ByteArray × List Vl) × Nat) → Int | none => 20 | some _ => 0
theorem evQ_eq {B : Nat} {o : Option ((ByteArray × List Vl) × Nat)} {e : Ending} {w' : World} (h : EvP B o e w') : ∃ (a : Option Addr) (c : Nat) (hs : List Hd), e = .returned (.tuple #[.agg #[.string (xS o), .slice a (xX o).length c], .int .i64 (xK o), .int .i64 (xE o)]) ∧ VRd w' a hs ∧ Reps w' (xX o) hs := by
  rcases o with _ | ⟨⟨s, xs⟩, k⟩
  · exact ⟨none, 0, [], h, fun j x hx => by simp at hx, Reps.nil _⟩
  · obtain ⟨v', hs, he, hrow, hr⟩ := h
    obtain ⟨a, cap, rfl, _⟩ := hrow.form
    rw [hr.len] at he
    exact ⟨a, cap, hs, he, hrow.rd, hr⟩
/- What was read of bytes is put as these. -/
theorem put_back (w : World) (bs : List Nat) (hb : Byt bs) (x : Vl) (k : Nat) (e : valD bs = some (x, k)) (hh : Hd) (r : Rep w x hh) :
    Calls Try.prog 31 #[hh.v] w fun e w' => Below w.heap.size w w' ∧ ∃ a' c', e = .returned (.tuple #[.slice a' k c', .int .i64 0]) ∧ Row w' w.heap.size (.slice a' k c') (bs.take k) := by
  obtain ⟨h1, h2, h3, h4⟩ := valD_back hb e
  have hk := valD_le hb e
  obtain ⟨ho, he⟩ := rep_hp r ⟨h3, rfl, h4, h2⟩
  refine (putValue_any w hh x.fs ho.hin r.n r.fs ho.fin).mono ?_
  rintro e w' ⟨hb', v', rfl, hr⟩
  have hpl : plainB hh x.fs = true := ho.pl
  have hen : encV hh x.fs = bs.take k := by
    rw [h1]; exact he
  rw [hpl] at hr ⊢
  simp only [if_true] at hr ⊢
  rw [hen] at hr
  obtain ⟨a', c', rfl, _⟩ := hr.form
  have hl : (bs.take k).length = k := by simp; omega
  rw [hl] at hr ⊢
  exact ⟨hb', a', c', rfl, hr⟩
theorem pute_back (w : World) (bs : List Nat) (hb : Byt bs) (s : ByteArray) (xs : List Vl) (k : Nat) (e : evD bs = some ((s, xs), k)) (a : Option Addr) (c : Nat) (hs : List Hd) (hv : VRd w a hs) (r : Reps w xs hs) :
    Calls Try.prog 33 #[.agg #[.string s, .slice a xs.length c]] w fun e w' => Below w.heap.size w w' ∧ ∃ a' c', e = .returned (.tuple #[.slice a' k c', .int .i64 0]) ∧ Row w' w.heap.size (.slice a' k c') (bs.take k) := by
  obtain ⟨h1, h2, h3, h4, h5⟩ := evD_back hb e
  obtain ⟨ps, e1, e2, e3, e4⟩ := reps_hp xs hs r h3 a hv
  have hev : evB s ps = true := by
    simp only [evB, Bool.and_eq_true, decide_eq_true_eq, List.length_map] at h2 ⊢
    exact ⟨h2.1, by rw [e1]; exact h2.2.1, e4⟩
  have h12 : xs.length ≤ 12 := by
    simp only [evB, Bool.and_eq_true, decide_eq_true_eq, List.length_map] at h2
    exact h2.2.1
  refine (putEvent_any w s a xs.length c ps e1.symm (by omega) (by omega) e2).mono ?_
  rintro e w' ⟨hb', v', rfl, hr⟩
  rw [hev] at hr ⊢
  simp only [if_true] at hr ⊢
  have hen : encE s ps = bs.take k := by
    rw [h1]
    unfold encE
    rw [e1, e3, List.length_map]
  rw [hen] at hr
  obtain ⟨a', c', rfl, _⟩ := hr.form
  have hl : (bs.take k).length = k := by simp; omega
  rw [hl] at hr ⊢
  exact ⟨hb', a', c', rfl, hr⟩
/- Plain arguments of an event hold what they are. -/
theorem own_laxs {w : World} {a : Option Addr} {ps : List (Hd × List Hd)} (h : PRd w a ps) (hp : ps.all plB = true) : RepsL w (ps.map vlP) (ps.map Prod.fst) := by
  refine ⟨by simp, fun j x g e1 e2 => ?_⟩
  simp only [List.getElem?_map, Option.map_eq_some_iff] at e1 e2
  obtain ⟨p, hp1, rfl⟩ := e1
  obtain ⟨q, hq1, rfl⟩ := e2
  rw [hp1] at hq1
  cases hq1
  have hm := List.mem_of_getElem? hp1
  exact own_lax (h.n p hm) (List.all_eq_true.1 hp p hm) (h.frd p hm)
theorem Reps.lax {w : World} {ps : List (Hd × List Hd)} {hs : List Hd} (r : Reps w (ps.map vlP) hs) : RepsL w (ps.map vlP) hs := by
  refine ⟨r.len, fun j x g e1 e2 => ?_⟩
  have h1 := r.each j x g e1 e2
  simp only [List.getElem?_map, Option.map_eq_some_iff] at e1
  obtain ⟨p, hp1, rfl⟩ := e1
  exact Rep.lax h1
theorem vlP_le {p : Hd × List Hd} (h : POk p) : (vlP p).fs.length ≤ 12 := by
  have h1 := h.pl
  have h2 := h.n
  simp only [vlP, vlOf]
  split
  · rename_i hk
    rw [plainB_rec hk] at h1
    simp only [Bool.and_eq_true, decide_eq_true_eq] at h1
    simp; omega
  · simp
theorem encE_le {s : ByteArray} {ps : List (Hd × List Hd)} (h : evB s ps = true) (hp : ∀ p ∈ ps, POk p) : (encE s ps).length ≤ 20000 ∧ Byt (encE s ps) := by
  simp only [evB, Bool.and_eq_true, decide_eq_true_eq] at h
  obtain ⟨⟨h1, h2⟩, h3, h4⟩ := h
  have e1 := enc_le s.size (by omega)
  have e2 := enc_le ps.length (by omega)
  have e3 := pes_le hp
  refine ⟨?_, ((encT_byt s).append (enc_byt _)).append (pes_byt hp)⟩
  simp only [encE, encT, List.length_append, sb_length]
  omega

set_option maxRecDepth 100000 in
set_option maxHeartbeats 2000000 in
theorem back_long (w : World) (h : Hd) (fs : List Hd) (gs : Nat → List Hd) (s : ByteArray) (a : Option Addr) (n cap : Nat) (hs : List Hd) (ps : List (Hd × List Hd)) (am : Option Addr) (nm cm : Nat) (ms : List Nat) (ab : Option Addr) (nb cb : Nat) (bs : List Nat)
    (I : BIn w h fs gs s a n cap hs ps am nm cm ms ab nb cb bs) (hl : 100 < s.size ∨ (s.size ≤ 100 ∧ 200 < nm) ∨ (s.size ≤ 100 ∧ nm ≤ 200 ∧ 1500 < nb)) :
    Calls Try.prog 6 #[h.v, .agg #[.string s, .slice a n cap], .slice am nm cm, .slice ab nb cb] w fun e w' => e = .returned (.bool true) ∧ Below w.heap.size w w' := by
  have K29 : Hid (∀ w1 : World, Below w.heap.size w w1 → Calls Try.prog 29 #[h.v] w1 fun e w' => SomeB e ∧ Below w1.heap.size w1 w') := hid (fun w1 hb => small_any w1 h fs gs (I.d.below (Nat.le_refl _) hb))
  have K30 : Hid (∀ w1 : World, Below w.heap.size w w1 → Calls Try.prog 30 #[.slice a n cap] w1 fun e w' => SomeL n e ∧ Below w1.heap.size w1 w') := hid (fun w1 hb => smalls_any w1 a n cap hs I.nh I.n2 (I.vr.below (Nat.le_refl _) hb) (fun j h e => by obtain ⟨fs, gs, d⟩ := I.dl j h e; exact ⟨fs, gs, d.below (Nat.le_refl _) hb⟩))
  clear I
  obtain ⟨kind, int, text, rc, ha, hn, hc⟩ := h
  simp only [Hd.v] at K29 ⊢
  have J0 : Jb w #[.int .i64 kind, .int .i64 int, .string text, .int .i64 rc, .slice ha hn hc] #[.string s, .slice a n cap] ((w.alloc (.cells #[.int .i64 kind, .int .i64 int, .string text, .int .i64 rc, .slice ha hn hc] 45)).alloc (.cells #[.string s, .slice a n cap] 52)) := Below.refl _ _
  rcases hl with hl | ⟨hl, hl2⟩ | ⟨hl, hl2, hl3⟩
  all_goals
    go_enter Try.func6, Try.ntmps6
    go_wp2_with (first
      | (go_at_call 9; (refine (known_any _).mono ?_; rintro e w1 ⟨rfl, hb1⟩; have J := J0.step hb1; obtain ⟨p0, p1, p2, p3, p4, q0, q1⟩ := J.cells))
      | (go_at_call 29; (refine (K29.out _ J.base).mono ?_; rintro e w2 ⟨⟨sb, rfl⟩, hb2⟩; clear p0 p1 p2 p3 p4 q0 q1; replace J := J.step hb2; obtain ⟨p0, p1, p2, p3, p4, q0, q1⟩ := J.cells; cases sb))
      | (go_at_call 30; (refine (K30.out _ J.base).mono ?_; rintro e w3 ⟨⟨tb, rfl, _⟩, hb3⟩; clear p0 p1 p2 p3 p4 q0 q1; replace J := J.step hb3; obtain ⟨p0, p1, p2, p3, p4, q0, q1⟩ := J.cells; cases tb)))
    all_goals
      go_ret
      exact ⟨rfl, J.base⟩
end Go.Proofs.Ytjfkcafocindjaa
