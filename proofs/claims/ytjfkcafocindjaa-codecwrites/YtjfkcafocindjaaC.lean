/- Rows of bytes that are read; texts; the statement's Bytes. -/
import Derived.Test.YtjfkcafocindjaaB
namespace Go.Proofs.Ytjfkcafocindjaa
open Go.RowKit Go.Deep
set_option linter.unusedVariables false
set_option linter.unusedSimpArgs false

def Byt (bs : List Nat) : Prop := ∀ x ∈ bs, x < 256
theorem Byt.drop {bs : List Nat} (h : Byt bs) (n : Nat) : Byt (bs.drop n) := fun x hx => h x (List.mem_of_mem_drop hx)
theorem Byt.take {bs : List Nat} (h : Byt bs) (n : Nat) : Byt (bs.take n) := fun x hx => h x (List.mem_of_mem_take hx)
theorem Byt.append {a b : List Nat} (h : Byt a) (k : Byt b) : Byt (a ++ b) := fun x hx => by
  rcases List.mem_append.1 hx with hx | hx
  · exact h x hx
  · exact k x hx
theorem Byt.at {bs : List Nat} (h : Byt bs) {j x : Nat} (e : bs[j]? = some x) : x < 256 := h x (List.mem_of_getElem? e)
theorem enc_byt : ∀ (n : Nat), Byt (enc n) := by
  intro n
  induction n using Nat.strongRecOn with
  | _ n ih =>
    by_cases h : n < 128
    · rw [enc_small h]; intro x hx; simp at hx; omega
    · rw [enc_big h]
      intro x hx
      rcases List.mem_cons.1 hx with rfl | hx
      · omega
      · exact ih (n / 128) (by omega) x hx
theorem sb_byt (s : ByteArray) : Byt (sb s) := by
  intro x hx
  simp only [sb, List.mem_map] at hx
  obtain ⟨u, _, rfl⟩ := hx
  exact u.toNat_lt
theorem encT_byt (s : ByteArray) : Byt (encT s) := (enc_byt _).append (sb_byt _)

def ofB (bs : List Nat) : ByteArray := ⟨(bs.map UInt8.ofNat).toArray⟩
theorem sb_ofB {bs : List Nat} (h : Byt bs) : sb (ofB bs) = bs := by
  simp only [sb, ofB, List.map_map]
  conv => rhs; rw [← List.map_id bs]
  refine List.map_congr_left fun x hx => ?_
  have := h x hx
  simp; omega
theorem ofB_sb (s : ByteArray) : ofB (sb s) = s := by
  cases s with
  | mk d =>
    simp only [sb, ofB, List.map_map]
    congr 1
    apply Array.ext'
    simp
    conv => rhs; rw [← List.map_id d.toList]
    exact List.map_congr_left fun x hx => by simp
theorem ofB_inj {a b : List Nat} (ha : Byt a) (hb : Byt b) (h : ofB a = ofB b) : a = b := by
  rw [← sb_ofB ha, h, sb_ofB hb]
theorem fold_ofB (bs : List Nat) : ∀ (acc : ByteArray), (bs.map (fun (x : Nat) => (x : Int))).foldl (fun r n => r.push (UInt8.ofNat n.toNat)) acc = ⟨acc.data ++ (bs.map UInt8.ofNat).toArray⟩ := by
  induction bs with
  | nil => intro acc; simp
  | cons x r ih =>
    intro acc
    simp only [List.map_cons, List.foldl_cons]
    rw [ih]
    congr 1
    apply Array.ext'
    simp [ByteArray.push]
theorem ofB_size (bs : List Nat) : (ofB bs).size = bs.length := by simp [ofB, ByteArray.size]
theorem ofB_nil : ofB [] = ByteArray.empty := rfl

/- What a slice of bytes reads. -/
def Rd (w : World) (v : Value) (bs : List Nat) : Prop := ∃ a cap, v = .slice a bs.length cap ∧ bs.length ≤ cap ∧ Byt bs ∧
  ∀ (j x : Nat), bs[j]? = some x → ∃ b off, a = some ⟨b, off, none⟩ ∧ w.cell? ⟨b, off + j, none⟩ = some (.int .u8 (x : Int))

theorem Rd.nil (w : World) : Rd w (.slice none 0 0) [] := ⟨none, 0, rfl, Nat.le_refl _, fun x hx => (by cases hx), fun j x h => by simp at h⟩
theorem Rd.same {w w' : World} {v bs} (h : Rd w v bs) (e : ∀ k, v.ownBlock = some k → k < w.heap.size → w'.heap[k]? = w.heap[k]?) : Rd w' v bs := by
  obtain ⟨a, cap, rfl, h1, h2, h3⟩ := h
  refine ⟨a, cap, rfl, h1, h2, fun j x hx => ?_⟩
  obtain ⟨b, off, rfl, hc⟩ := h3 j x hx
  refine ⟨b, off, rfl, ?_⟩
  rw [World.cell?_of_block (w := w) (e b rfl (World.block_lt_of_cell? _ _ hc))]; exact hc
theorem Rd.below {w w' : World} {v bs B} (h : Rd w v bs) (hB : w.heap.size ≤ B) (k : Below B w w') : Rd w' v bs :=
  h.same fun k' _ hk => k.block k' (by omega)
theorem Row.rd {w : World} {B v xs} (h : Row w B v xs) (hb : Byt xs) : Rd w v xs := by
  rcases h.2 with ⟨rfl, hn⟩ | ⟨g, cap, cur, rfl, hb', hgg, hc, hm, hs, ht⟩
  · have : xs = [] := List.eq_nil_of_length_eq_zero hn
    subst this
    exact Rd.nil w
  · refine ⟨_, _, rfl, hc, hb, fun j x hx => ⟨g, 0, rfl, ?_⟩⟩
    have := World.ownsRow.cells h (g := g) rfl j (.int .u8 (x : Int)) (by simp [bv, hx])
    rw [Addr.add_lit] at this
    exact this
theorem Rd.from {w : World} {a : Option Addr} {n cap : Nat} {bs : List Nat} (h : Rd w (.slice a n cap) bs) (k : Nat) (hk : k ≤ bs.length) : Rd w (sliced a k n cap 1) (bs.drop k) := by
  obtain ⟨a, cap, e, h1, h2, h3⟩ := h
  cases e
  refine ⟨_, _, by unfold sliced; rw [List.length_drop], by rw [List.length_drop]; omega, h2.drop k, fun j x hx => ?_⟩
  rw [List.getElem?_drop] at hx
  obtain ⟨b, off, rfl, hc⟩ := h3 _ _ hx
  have hlt : k + j < bs.length := (List.getElem?_eq_some_iff.1 hx).1
  refine ⟨b, off + k, ?_, ?_⟩
  · rw [if_neg (by omega)]
    simp [Addr.add_lit]
  · rw [Nat.add_assoc]; exact hc
theorem Rd.part {w : World} {a : Option Addr} {n cap : Nat} {bs : List Nat} (h : Rd w (.slice a n cap) bs) (k l : Nat) (hk : k ≤ l) (hl : l ≤ bs.length) : Rd w (sliced a k l cap 1) ((bs.take l).drop k) := by
  obtain ⟨a, cap, e, h1, h2, h3⟩ := h
  cases e
  refine ⟨_, _, by unfold sliced; rw [List.length_drop, List.length_take, Nat.min_eq_left hl], by rw [List.length_drop, List.length_take]; omega, (h2.take l).drop k, fun j x hx => ?_⟩
  rw [List.getElem?_drop, List.getElem?_take] at hx
  split at hx
  · obtain ⟨b, off, rfl, hc⟩ := h3 _ _ hx
    have hlt : k + j < bs.length := (List.getElem?_eq_some_iff.1 hx).1
    refine ⟨b, off + k, ?_, ?_⟩
    · rw [if_neg (by omega)]
      simp [Addr.add_lit]
    · rw [Nat.add_assoc]; exact hc
  · cases hx
theorem Rd.conv {w v bs} (h : Rd w v bs) : (convert 23 9 v).run Try.prog w = .ok (.string (ofB bs)) w := by
  obtain ⟨a, cap, rfl, h1, h2, h3⟩ := h
  rw [run_convert_bytes_string w 23 9 5 _ _ _ Try.underlying23 Try.underlying5 Try.underlying9]
  cases a with
  | none =>
    have : bs = [] := by
      cases bs with
      | nil => rfl
      | cons x r => obtain ⟨b, off, e, _⟩ := h3 0 x rfl; cases e
    subst this
    rfl
  | some a =>
    have hl := run_loadCells_list (P := Try.prog) w a (bv bs) ?_
    · have := run_bytesToString w a bs.length cap (bs.map (fun (x : Nat) => (x : Int))) (by
        rw [bv_length] at hl
        rw [hl]; simp [bv]) (P := Try.prog)
      rw [this, fold_ofB]
      simp [ofB]
    · intro j u hu
      simp only [bv, List.getElem?_map, Option.map_eq_some_iff] at hu
      obtain ⟨x, hx, rfl⟩ := hu
      obtain ⟨b, off, e, hc⟩ := h3 j x hx
      cases e
      rw [Addr.add_lit]; exact hc

theorem streq (a b : ByteArray) : (a.toList == b.toList) = decide (a = b) := by
  rw [ByteArray.toList_eq, ByteArray.toList_eq]
  by_cases h : a = b
  · simp [h]
  · have : ¬ a.data = b.data := fun e => h (by cases a; cases b; simp at e; simp [e])
    simp [h, this]

set_option maxHeartbeats 400000 in
theorem bytes_any (w : World) (v1 v2 : Value) (xs ys : List Nat) (h1 : Rd w v1 xs) (h2 : Rd w v2 ys) :
    Calls Try.prog 13 #[v1, v2] w fun e w' => e = .returned (.bool (decide (xs = ys))) ∧ w' = w := by
  have e1 := h1.conv
  have e2 := h2.conv
  obtain ⟨a1, c1, rfl, _, b1, _⟩ := h1
  obtain ⟨a2, c2, rfl, _, b2, _⟩ := h2
  have e3 : decide (ofB xs = ofB ys) = decide (xs = ys) := by
    by_cases h : xs = ys
    · simp [h]
    · have : ¬ ofB xs = ofB ys := fun e => h (ofB_inj b1 b2 e)
      simp [h, this]
  rw [← e3]
  clear e3
  go_enter Try.func13, Try.ntmps13
  go_wp2
  go_ret
  exact ⟨by simp [streq], rfl⟩
end Go.Proofs.Ytjfkcafocindjaa
