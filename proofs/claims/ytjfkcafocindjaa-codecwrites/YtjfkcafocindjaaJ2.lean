/- Rows of values: their bytes one behind the other, and how many each has. -/
import Derived.Test.YtjfkcafocindjaaH2
import Derived.Test.YtjfkcafocindjaaI2
import Derived.Test.YtjfkcafocindjaaM
namespace Go.Proofs.Ytjfkcafocindjaa
open Go.RowKit Go.Deep
set_option linter.unusedVariables false
set_option linter.unusedSimpArgs false

def iv (ns : List Nat) : List Value := ns.map fun (n : Nat) => Value.int .i64 (n : Int)
theorem iv_append (xs ys : List Nat) : iv (xs ++ ys) = iv xs ++ iv ys := by simp [iv]
def IRow (w : World) (B : Nat) (v : Value) (ns : List Nat) : Prop := w.ownsRow B 3 1 v ns.length (iv ns)
theorem IRow.nil (w : World) (B : Nat) : IRow w B (.slice none 0 0) [] := World.ownsRow_nil w B 3 1
theorem IRow.own {w B v hs} (h : IRow w B v hs) : ∀ k, v.ownBlock = some k → B ≤ k ∧ k < w.heap.size := World.ownsRow.lt h
theorem IRow.same {w w' : World} {B v xs} (h : IRow w B v xs) (e : ∀ g, v.ownBlock = some g → w'.heap[g]? = w.heap[g]?) : IRow w' B v xs := by
  refine ⟨h.1, ?_⟩
  rcases h.2 with hn | ⟨g, cap, cur, rfl, hb, hgg, rest⟩
  · exact .inl hn
  · exact .inr ⟨g, cap, cur, rfl, hb, (e g rfl).trans hgg, rest⟩
theorem IRow.below {w w' : World} {B C v xs} (h : IRow w B v xs) (hC : w.heap.size ≤ C) (k : Below C w w') : IRow w' B v xs :=
  h.same fun g e => k.block g (by have := (h.own g e).2; omega)
theorem IRow.form {w B v xs} (h : IRow w B v xs) : ∃ a cap, v = .slice a xs.length cap ∧ xs.length ≤ cap := by
  rcases h.2 with ⟨rfl, hn⟩ | ⟨g, cap, cur, rfl, hb, hgg, hc, rest⟩
  · exact ⟨none, 0, by rw [hn], by omega⟩
  · exact ⟨_, _, rfl, hc⟩
theorem IRow.at {w : World} {B a n cap ns} (h : IRow w B (.slice a n cap) ns) {j x : Nat} (hx : ns[j]? = some x) : ∃ b, a = some ⟨b, 0, none⟩ ∧ w.cell? ⟨b, j, none⟩ = some (.int .i64 (x : Int)) := by
  rcases h.2 with ⟨e, hn⟩ | ⟨g, cap', cur, e, hb, hgg, hc, hm, hs', ht⟩
  · have : ns = [] := List.eq_nil_of_length_eq_zero hn
    subst this; simp at hx
  · cases e
    refine ⟨g, rfl, ?_⟩
    have := World.ownsRow.cells h (g := g) rfl j (.int .i64 (x : Int)) (by simp [iv, hx])
    rw [Addr.add_lit, Nat.zero_add] at this
    exact this
theorem row_irow {w : World} {B : Nat} {v u : Value} {xs ns : List Nat} (h : Row w B v xs) (k : IRow w B u ns) {g : Nat} (e1 : v.ownBlock = some g) (e2 : u.ownBlock = some g) : False := by
  rcases h.2 with ⟨rfl, _⟩ | ⟨g1, cap, cur, rfl, hb, hgg, _⟩
  · cases e1
  · rcases k.2 with ⟨rfl, _⟩ | ⟨g2, cap2, cur2, rfl, hb2, hgg2, _⟩
    · cases e2
    · cases e1
      cases e2
      rw [hgg] at hgg2
      cases hgg2
theorem info3 : (Try.prog.info? 3).map (fun i => (i.zero, i.size, i.bytes)) = some (some (.int .i64 0), 1, 8) := by kernel_rfl
theorem wpList_appI {ops : Array Oper} {rest : List Oper} {o : Oper} {a : Act} {Q : Exit → Act → World → Prop} (w : World) (hgd : o.guard = none) (s x : Operand)
    (ho : o.op = .call { callee := .builtin .append, args := #[s, x], argTypes := #[70, 70] }) (v : Value) (y : Int) (hs : a.eval s = v) (hx : a.eval x = .slice (some ⟨w.heap.size, 0, none⟩) 1 1)
    (B : Nat) (xs : List Nat) (z : Nat) (hy : y = z) (h : IRow w B v xs) (hB : B ≤ w.heap.size) (hl : xs.length ≤ 1099511627)
    (k : ∀ v' w', IRow w' B v' (xs ++ [z]) → Grw w v w' v' → wpList Try.prog ops Q rest (a.put o.dst v') w') :
    wpList Try.prog ops Q (o :: rest) a (w.alloc (.cells #[.int .i64 y] 3)) := by
  subst hy
  obtain ⟨i0, hi, hz0, hz1, hz2⟩ := info_parts info3
  refine wpList_append_own_at _ hgd s x 70 ho B 3 i0 (.int .i64 0) 1 8 Try.underlying70 hi hz0 hz1 hz2 rfl (by decide) v xs.length (iv xs) hs (World.ownsRow.alloc h _) ⟨w.heap.size, 0, none⟩ 1 1 [.int .i64 (z : Int)] hx rfl (cell_one_new _ _ _)
    (by simp [Value.oneCell']) (by unfold maxLen; omega) (by omega) (by simp; omega) ?_
  intro v' w' hown hg _ hat
  refine k v' w' ?_ ?_
  · unfold IRow
    rw [iv_append, List.length_append]
    exact hown
  · refine ⟨alloc_grown hg, ?_⟩
    rcases hat with hat | hat
    · exact .inl hat
    · exact .inr ⟨_, hat, by simp⟩

/- Plain values, with what they are. -/
structure POk (p : Hd × List Hd) : Prop where
  hin : p.1.In
  n : p.1.n = p.2.length
  fin : ∀ f ∈ p.2, f.In
  pl : plainB p.1 p.2 = true
def pe (p : Hd × List Hd) : List Nat := encV p.1 p.2
def pes (ps : List (Hd × List Hd)) : List Nat := ps.flatMap pe
theorem pes_snoc (ps : List (Hd × List Hd)) (p : Hd × List Hd) : pes (ps ++ [p]) = pes ps ++ pe p := by simp [pes]
theorem pe_le {p : Hd × List Hd} (h : POk p) : (pe p).length ≤ 1000 := by
  obtain ⟨h1, h2, h3, h4⟩ := h
  unfold pe encV
  by_cases hk : p.1.kind = 4
  · rw [plainB_rec hk] at h4
    simp only [Bool.and_eq_true, decide_eq_true_eq] at h4
    obtain ⟨⟨⟨⟨⟨_, _⟩, g3⟩, g4⟩, g5⟩, g6⟩ := h4
    rw [if_pos hk]
    have e1 := enc_le p.1.rc.toNat (by omega)
    have e2 := enc_le p.1.n (by omega)
    have e3 := encR_le g6 h3
    simp only [List.length_cons, List.length_append]
    omega
  · rw [if_neg hk]
    unfold plainB at h4
    rw [if_neg hk] at h4
    have := encS_le h4 h1
    omega
theorem encR_byt {fs : List Hd} (hs : fs.all simpleB = true) : Byt (encR fs) := by
  intro x hx
  simp only [encR, List.mem_flatMap] at hx
  obtain ⟨f, hf, hx⟩ := hx
  exact encS_byt (List.all_eq_true.1 hs f hf) x hx
theorem pe_byt {p : Hd × List Hd} (h : POk p) : Byt (pe p) := by
  obtain ⟨h1, h2, h3, h4⟩ := h
  unfold pe encV
  by_cases hk : p.1.kind = 4
  · rw [plainB_rec hk] at h4
    simp only [Bool.and_eq_true, decide_eq_true_eq] at h4
    rw [if_pos hk]
    intro x hx
    rcases List.mem_cons.1 hx with rfl | hx
    · omega
    · exact ((enc_byt _).append ((enc_byt _).append (encR_byt h4.2))) x hx
  · rw [if_neg hk]
    unfold plainB at h4
    rw [if_neg hk] at h4
    exact encS_byt h4
theorem pes_byt {ps : List (Hd × List Hd)} (h : ∀ p ∈ ps, POk p) : Byt (pes ps) := by
  intro x hx
  simp only [pes, List.mem_flatMap] at hx
  obtain ⟨p, hp, hx⟩ := hx
  exact pe_byt (h p hp) x hx
theorem pes_le {ps : List (Hd × List Hd)} (h : ∀ p ∈ ps, POk p) : (pes ps).length ≤ 1000 * ps.length := by
  induction ps with
  | nil => simp [pes]
  | cons p r ih =>
    have h1 := pe_le (h p (by simp))
    have h2 := ih (fun q hq => h q (by simp [hq]))
    simp only [pes, List.flatMap_cons, List.length_append, List.length_cons] at h2 ⊢
    omega
theorem pes_drop {ps : List (Hd × List Hd)} {i : Nat} {p : Hd × List Hd} (h : ps[i]? = some p) : pes (ps.drop i) = pe p ++ pes (ps.drop (i + 1)) := by
  have hlt : i < ps.length := (List.getElem?_eq_some_iff.1 h).1
  rw [List.drop_eq_getElem_cons hlt]
  have : ps[i] = p := by simpa [hlt] using h
  rw [this]; rfl

/- What stands between two rounds of the first loop. -/
structure StA (w0 wr : World) (B : Nat) (va vs : Value) (ps : List (Hd × List Hd)) : Prop where
  ra : Row wr B va (pes ps)
  ri : IRow wr B vs (ps.map fun p => (pe p).length)
  ok : ∀ p ∈ ps, POk p
  be : Below B w0 wr
theorem Grw.belowI {w w' : World} {v v' : Value} {B : Nat} {xs : List Nat} (h : Grw w v w' v') (hr : IRow w B v xs) (hB : B ≤ w.heap.size) : Below B w w' :=
  (Below.refl B w).grown h.1 hB (fun k hk => (hr.own k hk).1)
theorem StA.below {w0 wr w' : World} {B : Nat} {va vs : Value} {ps} (s : StA w0 wr B va vs ps) (hB : B ≤ wr.heap.size) (k : Below wr.heap.size wr w') : StA w0 w' B va vs ps :=
  ⟨s.ra.below (Nat.le_refl _) k, s.ri.below (Nat.le_refl _) k, s.ok, s.be.trans (k.mono hB)⟩
/- Behind the two appends. -/
theorem StA.more {w0 wr w2 w3 : World} {B : Nat} {va vs va' vs' : Value} {ps} {p : Hd × List Hd} (s : StA w0 wr B va vs ps) (hB : B ≤ wr.heap.size) (hp : POk p)
    (h2 : Row w2 B va' (pes ps ++ pe p)) (g2 : Grw wr va w2 va') (h3 : IRow w3 B vs' ((ps.map fun p => (pe p).length) ++ [(pe p).length])) (g3 : Grw w2 vs w3 vs') : StA w0 w3 B va' vs' (ps ++ [p]) := by
  have ri2 : IRow w2 B vs (ps.map fun p => (pe p).length) := s.ri.same fun g e => g2.old (s.ri.own g e).2 (fun e' => row_irow s.ra s.ri e'.symm e)
  refine ⟨?_, ?_, ?_, ?_⟩
  · rw [pes_snoc]
    exact h2.same fun g e => g3.old (h2.own g e).2 (fun e' => row_irow h2 ri2 e e'.symm)
  · simpa using h3
  · intro q hq
    rcases List.mem_append.1 hq with hq | hq
    · exact s.ok q hq
    · simp at hq; subst hq; exact hp
  · exact (s.be.trans (g2.below s.ra hB)).trans (g3.belowI ri2 (Nat.le_trans hB g2.size))
theorem StA.ri2 {w0 wr w2 : World} {B : Nat} {va vs va' : Value} {ps} (s : StA w0 wr B va vs ps) (g2 : Grw wr va w2 va') : IRow w2 B vs (ps.map fun p => (pe p).length) := s.ri.same fun g e => g2.old (s.ri.own g e).2 (fun e' => row_irow s.ra s.ri e'.symm e)
end Go.Proofs.Ytjfkcafocindjaa
