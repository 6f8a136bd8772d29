/- Values as trees, and how they compare. -/
import Derived.Test.YtenfgahedbeekaaB
namespace Go.Proofs.Ytenfgahedbeekaa
open Go.RowKit Go.Deep
set_option linter.unusedVariables false
set_option linter.unusedSimpArgs false

def VT : Nat → Type
  | 0 => Empty
  | k + 1 => Hd × List (VT k)
def hdT : (k : Nat) → VT k → Hd
  | 0, t => Empty.elim t
  | _ + 1, t => t.1
def Rds : (k : Nat) → World → VT k → Prop
  | 0, _, _ => False
  | k + 1, w, t => t.1.In ∧ t.1.n = t.2.length ∧ t.1.n ≤ 1000 ∧ VRd w t.1.a (t.2.map (hdT k)) ∧ ∀ u ∈ t.2, Rds k w u
theorem Rds.below : ∀ (k : Nat) {w w' : World} {t : VT k} {B : Nat}, Rds k w t → w.heap.size ≤ B → Below B w w' → Rds k w' t
  | 0, _, _, _, _, h, _, _ => h.elim
  | k + 1, w, w', t, B, h, hB, kk => ⟨h.1, h.2.1, h.2.2.1, h.2.2.2.1.below hB kk, fun u hu => Rds.below k (h.2.2.2.2 u hu) hB kk⟩
def cH (a b : Hd) : Int := orL [ci a.kind b.kind, ci a.int b.int, cS a.text b.text, ci a.rc b.rc]
def cmpT : (k : Nat) → VT k → VT k → Int
  | 0, _, _ => 0
  | k + 1, s, t => if cH s.1 t.1 = 0 then cmpL (cmpT k) s.2 t.2 else cH s.1 t.1
theorem ord_cH : Ord3 cH := by
  have e : cH = lex (fun a b : Hd => ci a.kind b.kind) (lex (fun a b : Hd => ci a.int b.int) (lex (fun a b : Hd => cS a.text b.text) (fun a b : Hd => ci a.rc b.rc))) := by
    funext a b
    simp only [cH, orL, lex]
    by_cases h : ci a.rc b.rc = 0
    · simp [h]
    · simp [h]
  rw [e]
  exact ord_lex (ord_on ord_ci _) (ord_lex (ord_on ord_ci _) (ord_lex (ord_on ord_cS _) (ord_on ord_ci _)))
theorem ord_cmpT : ∀ k, Ord3 (cmpT k)
  | 0 => ⟨fun _ _ => rfl, fun _ _ _ _ _ => Int.le_refl _⟩
  | k + 1 => by
    have e : cmpT (k + 1) = lex (fun s t : VT (k + 1) => cH s.1 t.1) (fun s t : VT (k + 1) => cmpL (cmpT k) s.2 t.2) := by
      funext s t; rfl
    rw [e]
    exact ord_lex (ord_on ord_cH _) (ord_on (ord_cmpL (ord_cmpT k)) _)
theorem cmpL_zip {α : Type} (f : α → α → Int) : ∀ (l m : List α), cmpL f l m = if orL ((l.zip m).map fun p => f p.1 p.2) = 0 then ci l.length m.length else orL ((l.zip m).map fun p => f p.1 p.2)
  | [], [] => rfl
  | [], _ :: m => by simp only [cmpL, List.zip_nil_left, List.map_nil, orL, if_true, ci, List.length_nil, List.length_cons]; rw [if_pos (by omega)]
  | _ :: l, [] => by simp only [cmpL, List.zip_nil_right, List.map_nil, orL, if_true, ci, List.length_nil, List.length_cons]; rw [if_neg (by omega), if_pos (by omega)]
  | a :: l, b :: m => by
    have ih := cmpL_zip f l m
    have e : ci ((l.length + 1 : Nat) : Int) ((m.length + 1 : Nat) : Int) = ci (l.length : Int) (m.length : Int) := by
      unfold ci
      have h1 : (((l.length + 1 : Nat) : Int) < ((m.length + 1 : Nat) : Int)) ↔ ((l.length : Int) < (m.length : Int)) := by omega
      have h2 : (((m.length + 1 : Nat) : Int) < ((l.length + 1 : Nat) : Int)) ↔ ((m.length : Int) < (l.length : Int)) := by omega
      simp only [h1, h2]
    simp only [cmpL, List.zip_cons_cons, List.map_cons, orL, List.length_cons]
    rw [e]
    by_cases h : f a b = 0
    · rw [if_pos h, if_pos h]; exact ih
    · rw [if_neg h, if_neg h, if_neg h]
theorem orL_zeros {l : List Int} (h : ∀ x ∈ l, x = 0) : orL l = 0 := by
  induction l with
  | nil => rfl
  | cons x l ih => rw [orL, if_pos (h x (by simp))]; exact ih (fun y hy => h y (by simp [hy]))
theorem orL_at {p q : List Int} {x : Int} (h : ∀ y ∈ p, y = 0) (hx : x ≠ 0) : orL (p ++ x :: q) = x := by
  induction p with
  | nil => rw [List.nil_append, orL, if_neg hx]
  | cons y p ih => rw [List.cons_append, orL, if_pos (h y (by simp))]; exact ih (fun z hz => h z (by simp [hz]))

/- Pairs that read in a world. -/
abbrev Pr (k : Nat) (w : World) := { x : VT k × VT k // Rds k w x.1 ∧ Rds k w x.2 }
def prs (k : Nat) (w : World) : (l m : List (VT k)) → (∀ u ∈ l, Rds k w u) → (∀ u ∈ m, Rds k w u) → List (Pr k w)
  | [], _, _, _ => []
  | _ :: _, [], _, _ => []
  | a :: l, b :: m, h1, h2 => ⟨(a, b), h1 a (by simp), h2 b (by simp)⟩ :: prs k w l m (fun u hu => h1 u (by simp [hu])) (fun u hu => h2 u (by simp [hu]))
theorem prs_zip (k : Nat) (w : World) : ∀ (l m : List (VT k)) (h1 : ∀ u ∈ l, Rds k w u) (h2 : ∀ u ∈ m, Rds k w u), (prs k w l m h1 h2).map (fun x => x.1) = l.zip m
  | [], _, _, _ => by simp [prs]
  | _ :: _, [], _, _ => by simp [prs]
  | a :: l, b :: m, h1, h2 => by simp only [prs, List.map_cons, List.zip_cons_cons]; rw [prs_zip k w l m]
theorem prs_length (k : Nat) (w : World) (l m : List (VT k)) (h1 : ∀ u ∈ l, Rds k w u) (h2 : ∀ u ∈ m, Rds k w u) : (prs k w l m h1 h2).length = min l.length m.length := by
  have := congrArg List.length (prs_zip k w l m h1 h2)
  simpa using this
/- What reads a row reads its beginning. -/
theorem VRd.pre {w : World} {a : Option Addr} {l m : List Hd} (h : VRd w a l) (hp : ∀ (j : Nat) (x : Hd), m[j]? = some x → l[j]? = some x) : VRd w a m := fun j x hx => h j x (hp j x hx)
theorem prs_left {k : Nat} {w : World} {l m : List (VT k)} {h1 : ∀ u ∈ l, Rds k w u} {h2 : ∀ u ∈ m, Rds k w u} (j : Nat) (x : Hd) (h : ((prs k w l m h1 h2).map fun x => hdT k x.1.1)[j]? = some x) : (l.map (hdT k))[j]? = some x := by
  have e : (prs k w l m h1 h2).map (fun x => hdT k x.1.1) = (l.zip m).map (fun p => hdT k p.1) := by rw [← prs_zip k w l m h1 h2, List.map_map]; rfl
  rw [e] at h
  simp only [List.getElem?_map, List.getElem?_zip_eq_some, Option.map_eq_some_iff] at h ⊢
  obtain ⟨p, hp, rfl⟩ := h
  exact ⟨_, hp.1, rfl⟩
theorem prs_right {k : Nat} {w : World} {l m : List (VT k)} {h1 : ∀ u ∈ l, Rds k w u} {h2 : ∀ u ∈ m, Rds k w u} (j : Nat) (x : Hd) (h : ((prs k w l m h1 h2).map fun x => hdT k x.1.2)[j]? = some x) : (m.map (hdT k))[j]? = some x := by
  have e : (prs k w l m h1 h2).map (fun x => hdT k x.1.2) = (l.zip m).map (fun p => hdT k p.2) := by rw [← prs_zip k w l m h1 h2, List.map_map]; rfl
  rw [e] at h
  simp only [List.getElem?_map, List.getElem?_zip_eq_some, Option.map_eq_some_iff] at h ⊢
  obtain ⟨p, hp, rfl⟩ := h
  exact ⟨_, hp.2, rfl⟩
end Go.Proofs.Ytenfgahedbeekaa
