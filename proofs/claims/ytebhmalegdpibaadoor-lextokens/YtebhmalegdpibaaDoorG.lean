/- A sign's size. -/
import Derived.Test.YtebhmalegdpibaaDoorE
import Derived.Test.YtebhmalegdpibaaDoorShelf
namespace Go.Proofs.YtebhmalegdpibaaDoor
open Go.RowKit Go.Deep
set_option linter.unusedVariables false
set_option linter.unusedSimpArgs false

def sg2L : List Bs := [[61, 61], [33, 61], [60, 61], [62, 61], [43, 37], [45, 37], [42, 37], [45, 62]]
theorem pre2 (x y : UInt8) (l : Bs) : List.isPrefixOf [x, y] l = true ↔ ∃ t, l = x :: y :: t := by
  match l with
  | [] => simp [List.isPrefixOf]
  | [a] => simp [List.isPrefixOf]
  | a :: b :: t => simp [List.isPrefixOf]; constructor <;> rintro ⟨rfl, rfl⟩ <;> simp
theorem sg2_iff (a b : UInt8) : sg2 a b = true ↔ [a, b] ∈ sg2L := by
  simp only [sg2, sg2L, Bool.or_eq_true, Bool.and_eq_true, beq_iff_eq, List.mem_cons, List.cons.injEq, List.mem_nil_iff, or_false, and_true]
  constructor
  · rintro ((⟨rfl, ((rfl | rfl) | rfl) | rfl⟩ | ⟨rfl, (rfl | rfl) | rfl⟩) | ⟨rfl, rfl⟩) <;> simp
  · rintro (⟨rfl, rfl⟩ | ⟨rfl, rfl⟩ | ⟨rfl, rfl⟩ | ⟨rfl, rfl⟩ | ⟨rfl, rfl⟩ | ⟨rfl, rfl⟩ | ⟨rfl, rfl⟩ | ⟨rfl, rfl⟩) <;> simp
theorem two_of (p : Bs) (h : p ∈ sg2L) : ∃ x y, p = [x, y] := by
  simp only [sg2L, List.mem_cons, List.mem_nil_iff, or_false] at h
  rcases h with rfl | rfl | rfl | rfl | rfl | rfl | rfl | rfl <;> exact ⟨_, _, rfl⟩
theorem sign_hit (p l : Bs) (h : p ∈ sg2L) (hp : p.isPrefixOf l = true) : signF l = 2 := by
  obtain ⟨x, y, rfl⟩ := two_of p h
  obtain ⟨t, rfl⟩ := (pre2 x y l).1 hp
  simp [signF, (sg2_iff x y).2 h]
theorem sign_miss (a : UInt8) (t : Bs) (h : ∀ p ∈ sg2L, p.isPrefixOf (a :: t) = false) : signF (a :: t) = if sg1 a then 1 else 0 := by
  cases t with
  | nil => rfl
  | cons b t =>
    have : ¬ sg2 a b = true := fun e => by
      have := h _ ((sg2_iff a b).1 e)
      simp [List.isPrefixOf] at this
    simp [signF, this]
theorem idx_contains (c : UInt8) : ∀ l : Bs, (0 ≤ Lib.indexByte l c) ↔ l.contains c = true
  | [] => by simp [Lib.indexByte]
  | b :: l => by
    have ih := idx_contains c l
    have hge := Lib.indexByte_ge l c
    simp only [Lib.indexByte]
    by_cases h : b = c
    · subst h; simp
    · have h' : ¬ c = b := fun e => h e.symm
      have h1 : (b == c) = false := by simpa using h
      have h2 : (c == b) = false := by simpa using h'
      simp only [h1, h2, Bool.false_eq_true, if_false, List.contains_cons, beq_iff_eq, Bool.false_or]
      rw [← ih]
      split <;> omega

theorem get_of_list (s : ByteArray) (i : Nat) (h : i < s.size) (c : UInt8) (e : s.data.toList[i]? = some c) : s[i]'h = c := by
  have : s[i]'h = s.data[i]'h := rfl
  rw [this]
  have h2 : i < s.data.toList.length := by rw [← Lib.size_eq]; exact h
  rw [List.getElem?_eq_getElem h2] at e
  simpa using e
theorem cellOf {w : World} {b : Nat} {c : Array Value} {e : TypeId} {f : Nat × Nat} (h : w.heap[b]? = some (.cells c e f)) (i : Nat) : w.cell? ⟨b, i, none⟩ = c[i]? := by
  simp [World.cell?, h]
set_option maxRecDepth 100000 in
theorem signSize_any (s : ByteArray) (a : UInt8) (t : Bs) (hl : s.data.toList = a :: t) (w : World) : Calls Tryd.prog 39 #[.string s] w fun e w' => e = .returned (.int .i64 (signF (a :: t) : Nat)) ∧ Below w.heap.size w w' := by
  have hsz : 1 ≤ s.size := by rw [Lib.size_eq, hl]; simp
  have hz : (0 : Int) < (s.size : Int) := by omega
  have HP := hid (fun p W => Tryd.strings_HasPrefix s p W)
  have HI := hid (fun c W => Tryd.strings_IndexByte ⟨#[123, 125, 40, 41, 91, 93, 44, 59, 58, 46, 61, 60, 62, 43, 45, 42, 47, 37, 38]⟩ c W)
  have hbw : Below w.heap.size w (w.alloc (.cells #[.string ⟨#[61, 61]⟩, .string ⟨#[33, 61]⟩, .string ⟨#[60, 61]⟩, .string ⟨#[62, 61]⟩, .string ⟨#[43, 37]⟩, .string ⟨#[45, 37]⟩, .string ⟨#[42, 37]⟩, .string ⟨#[45, 62]⟩] 9)) := (Below.refl _ w).alloc (Nat.le_refl _) _
  have hcell : ∀ (i : Nat) (p : Bs), sg2L[i]? = some p → (w.alloc (.cells #[.string ⟨#[61, 61]⟩, .string ⟨#[33, 61]⟩, .string ⟨#[60, 61]⟩, .string ⟨#[62, 61]⟩, .string ⟨#[43, 37]⟩, .string ⟨#[45, 37]⟩, .string ⟨#[42, 37]⟩, .string ⟨#[45, 62]⟩] 9)).cell? ⟨w.heap.size, i, none⟩ = some (.string ⟨p.toArray⟩) := by
    intro i p hp
    rw [cellOf (heap_alloc_new w _) i]
    match i, hp with
    | 0, hp => cases hp; rfl
    | 1, hp => cases hp; rfl
    | 2, hp => cases hp; rfl
    | 3, hp => cases hp; rfl
    | 4, hp => cases hp; rfl
    | 5, hp => cases hp; rfl
    | 6, hp => cases hp; rfl
    | 7, hp => cases hp; rfl
    | n + 8, hp => simp [sg2L] at hp
  have HB := hid hbw
  have HC := hid hcell
  have HL := hid hl
  clear hbw hcell hl
  go_enter Tryd.func39, Tryd.ntmps39
  go_wp2
  generalize (w.alloc (.cells #[.string ⟨#[61, 61]⟩, .string ⟨#[33, 61]⟩, .string ⟨#[60, 61]⟩, .string ⟨#[62, 61]⟩, .string ⟨#[43, 37]⟩, .string ⟨#[45, 37]⟩, .string ⟨#[42, 37]⟩, .string ⟨#[45, 62]⟩] 9)) = W at *
  go_loopg [7] 8 (fun g ii wr => ∃ i : Nat, i + g = 8 ∧ ii = .int .i64 (i : Int) ∧ wr = W ∧ ∀ (j : Nat) (p : Bs), j < i → sg2L[j]? = some p → p.isPrefixOf (a :: t) = false)
  case atStart => exact ⟨0, by omega, rfl, rfl, fun j p hj => by omega⟩
  case round =>
    obtain ⟨i, hi, rfl, rfl, hno⟩ := hrel
    have HN := hid hno
    clear hno
    cases gk with
    | zero =>
      have hi8 : i = 8 := by omega
      subst hi8
      clear hi
      have hs0 : s[0]'hsz = a := get_of_list s 0 hsz a (by rw [HL.out]; rfl)
      have hm : ∀ p ∈ sg2L, p.isPrefixOf (a :: t) = false := fun p hp => by
        obtain ⟨j, hj⟩ := List.getElem?_of_mem hp
        exact HN.out j p (by have := (List.getElem?_eq_some_iff.1 hj).1; exact this) hj
      have hsg := sign_miss a t hm
      have hic := idx_contains a sg1s
      have HS := hid hsg
      have HIC := hid hic
      clear hsg hic hm
      go_wp2_with (go_at_call 45; refine (HI.out _ _).mono ?_; rintro e w2 ⟨rfl, rfl⟩)
      · rename_i hcx
        go_ret
        refine ⟨?_, HB.out⟩
        rw [HS.out, show sg1 a = true from HIC.out.1 hcx]; rfl
      · rename_i hcx
        go_ret
        refine ⟨?_, HB.out⟩
        rw [HS.out, if_neg (fun e : sg1 a = true => absurd hcx (Int.not_lt.2 (HIC.out.2 e)))]; rfl
    | succ g =>
      have hlt : i < 8 := by omega
      have hlt' : (i : Int) < 8 := by omega
      obtain ⟨p, hp⟩ : ∃ p, sg2L[i]? = some p := ⟨sg2L[i]'hlt, List.getElem?_eq_getElem hlt⟩
      have hc := HC.out i p hp
      have hx := HP.out ⟨p.toArray⟩ wr
      have hpm := hid (List.mem_of_getElem? hp)
      have Hp := hid hp
      have Hi := hid hi
      have e : Lib.hasPrefix s.data.toList (ByteArray.mk p.toArray).data.toList = p.isPrefixOf (a :: t) := by rw [HL.out]; simp [Lib.hasPrefix]
      rw [e] at hx
      clear e hp hi
      cases hpx : p.isPrefixOf (a :: t) <;> rw [hpx] at hx
      · have Hpx := hid hpx
        clear hpx
        go_wp2_with (go_at_call 44; refine hx.mono ?_; rintro e w2 ⟨rfl, rfl⟩)
        go_roundg g
        case measure => omega
        case rel => exact ⟨i + 1, by have := Hi.out; omega, by go_num, rfl, fun j q hj hq => by
          rcases Nat.lt_or_ge j i with h1 | h1
          · exact HN.out j q h1 hq
          · obtain rfl : j = i := by omega
            rw [Hp.out] at hq; cases hq; exact Hpx.out⟩
      · have Hpx := hid hpx
        have hp2 : p.length = 2 := by obtain ⟨x, y, rfl⟩ := two_of p hpm.out; rfl
        clear hpx
        go_wp2_with (go_at_call 44; refine hx.mono ?_; rintro e w2 ⟨rfl, rfl⟩)
        go_ret
        refine ⟨?_, HB.out⟩
        rw [sign_hit p (a :: t) hpm.out Hpx.out]
        simp [hp2]
end Go.Proofs.YtebhmalegdpibaaDoor
