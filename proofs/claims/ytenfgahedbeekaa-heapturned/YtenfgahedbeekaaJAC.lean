/- The bytes of numbers and values: PutUint of both sides, the document's PutValue, Bytes. -/
import Derived.Test.YtenfgahedbeekaaJAB
import Derived.Below
import Derived.Deep.AppendLies
import Derived.Deep.OwnRows
import Derived.Deep.RegionHeld3
import Derived.Laws.Bits64b
import Derived.Laws.BitsLemmas
import Derived.Lib.AppendStr
import Derived.Maps.AppendAt
import Derived.WalkKit
import Derived.WalkLawsBesides
import Derived.WalkSpells
import Derived.Deep.LoopGhost
namespace Go.Proofs.Ytenfgahedbeekaa
open Go.RowKit Go.Deep
set_option linter.unusedVariables false
set_option linter.unusedSimpArgs false

theorem Byt.append {a b : List Nat} (h : Byt a) (k : Byt b) : Byt (a ++ b) := fun x hx => by
  rcases List.mem_append.1 hx with h1 | h1
  · exact h x h1
  · exact k x h1
theorem bv_one (xs : List Nat) : ∀ u ∈ bv xs, u.oneCell' = true := by
  intro u hu; simp [bv] at hu; obtain ⟨s, _, rfl⟩ := hu; rfl

set_option maxHeartbeats 400000 in
theorem putUint_any (w : World) (n : Nat) (hn : n < 18446744073709551616) :
    Calls Try.prog 55 #[.int .u64 (n : Int)] w fun e w' => ∃ v', e = .returned v' ∧ Row w' w.heap.size v' (enc n) ∧ Below w.heap.size w w' := by
  have h := hid (appendUint_any w w.heap.size _ [] n (Row.nil _ _) (Nat.le_refl _) (by simp) hn)
  go_enter Try.func55, Try.ntmps55
  go_wp2_with (go_at_call 82; refine (Hid.out h).mono ?_; rintro e w' ⟨v', rfl, hr, hb⟩)
  go_ret
  exact ⟨_, rfl, by simpa using hr, hb.nil⟩

set_option maxRecDepth 10000 in
set_option maxHeartbeats 400000 in
theorem refPutUint_any (w : World) (x : Int) (n : Nat) (hx : x = n) (hn : n < 18446744073709551616) :
    Calls Try.prog 57 #[.int .u64 x] w fun e w' => ∃ v', e = .returned v' ∧ Row w' w.heap.size v' (enc n) ∧ Grw w (.slice none 0 0) w' v' := by
  subst hx
  go_enter Try.func57, Try.ntmps57
  go_wp2
  go_loopw [0, 3] (fun nn vv wr => ∃ (ys : List Nat) (m : Nat), nn = .int .u64 (m : Int) ∧ m ≤ n ∧ Row wr w.heap.size vv ys ∧ Grw w (.slice none 0 0) wr vv ∧ ys ++ enc m = enc n) (fun nn _ _ => (intOf nn).toNat)
  case atStart => exact ⟨[], n, rfl, Nat.le_refl _, Row.nil _ _, Grw.refl _ _, rfl⟩
  case round =>
    obtain ⟨ys, m, rfl, hm, hr, hb, he⟩ := hrel
    have hlen : ys.length ≤ 1099511627776 := by
      have := congrArg List.length he
      have h10 := enc_le n hn
      simp at this; omega
    have hBs : w.heap.size ≤ wr.heap.size := hb.size
    have He := hid he
    clear he
    by_cases hlt : m < 128
    · go_wp2_with (at_builtin; refine wpList_app1P _ rfl _ _ rfl _ _ (by rfl) (by rfl) _ ys m ?cy hr hBs hlen ?_)
      case cy => omega
      intro v' w' hr' hb'
      go_wp2
      go_ret
      refine ⟨_, rfl, ?_, hb.trans hb'⟩
      rw [← He.out, enc_small hlt]; exact hr'
    · go_wp2_with (at_builtin; refine wpList_app1P _ rfl _ _ rfl _ _ (by rfl) (by rfl) _ ys (m % 128 + 128) ?cy hr hBs hlen ?_)
      case cy => omega
      intro v' w' hr' hb'
      go_wp2
      go_roundw
      case rel =>
        refine ⟨_, m / 128, by go_num, by omega, hr', hb.trans hb', ?_⟩
        rw [← He.out, enc_big hlt]; simp
      case measure => simp [intOf]; omega

set_option maxHeartbeats 400000 in
theorem refPutInt_any (w : World) (k : Int) (h0 : -9223372036854775808 ≤ k) (h1 : k ≤ 9223372036854775807) :
    Calls Try.prog 84 #[.int .i64 k] w fun e w' => ∃ v', e = .returned v' ∧ Row w' w.heap.size v' (enc (zz k)) ∧ Below w.heap.size w w' := by
  have hz := zz_lt k h0 h1
  by_cases hk : k < 0
  · obtain ⟨m, rfl⟩ : ∃ m : Nat, k = -(m : Int) - 1 := ⟨(-k - 1).toNat, by omega⟩
    rw [zz_neg] at hz ⊢
    go_enter Try.func84, Try.ntmps84
    go_wp2_with (go_at_call 57; refine (refPutUint_any w _ (2 * m + 1) (by omega) hz).mono ?_; rintro e w' ⟨v', rfl, hr, hb⟩)
    go_ret
    exact ⟨_, rfl, hr, hb.nil⟩
  · obtain ⟨m, rfl⟩ := Int.eq_ofNat_of_zero_le (show 0 ≤ k by omega)
    rw [zz_pos] at hz ⊢
    go_enter Try.func84, Try.ntmps84
    go_wp2_with (go_at_call 57; refine (refPutUint_any w _ (2 * m) (by omega) hz).mono ?_; rintro e w' ⟨v', rfl, hr, hb⟩)
    go_ret
    exact ⟨_, rfl, hr, hb.nil⟩

set_option maxHeartbeats 400000 in
theorem refPutText_any (w : World) (s : ByteArray) (hs : s.size ≤ 1000000000000) :
    Calls Try.prog 85 #[.string s] w fun e w' => ∃ v', e = .returned v' ∧ Row w' w.heap.size v' (cd_encT s) ∧ Below w.heap.size w w' := by
  go_enter Try.func85, Try.ntmps85
  have h10 := enc_le s.size (by omega)
  have hl1 : (enc s.size).length ≤ 1099511627776 := by omega
  go_wp2_with (first
    | (go_at_call 57; refine (refPutUint_any w _ s.size (by omega) (by omega)).mono ?_; rintro e w1 ⟨v1, rfl, hr, hb⟩)
    | (at_builtin; refine wpList_appS _ rfl _ _ rfl _ _ (by rfl) (by rfl) _ _ hr hb.size hl1 (by omega) ?_))
  intro v2 w2 hr2 hb2
  go_wp2
  go_ret
  exact ⟨_, rfl, hr2, (hb.trans hb2).nil⟩
theorem enc_byt : ∀ (n : Nat), Byt (enc n) := by
  intro n
  induction n using Nat.strongRecOn with
  | _ n ih =>
    by_cases h : n < 128
    · rw [enc_small h]; intro x hx; simp at hx; omega
    · rw [enc_big h]
      intro x hx
      rcases List.mem_cons.1 hx with rfl | hx
      · omega
      · exact ih (n / 128) (by omega) x hx
theorem sb_byt (s : ByteArray) : Byt (sb s) := by
  intro x hx
  simp only [sb, List.mem_map] at hx
  obtain ⟨u, _, rfl⟩ := hx
  exact u.toNat_lt
theorem encT_byt (s : ByteArray) : Byt (cd_encT s) := (enc_byt _).append (sb_byt _)

def ofB (bs : List Nat) : ByteArray := ⟨(bs.map UInt8.ofNat).toArray⟩
theorem sb_ofB {bs : List Nat} (h : Byt bs) : sb (ofB bs) = bs := by
  simp only [sb, ofB, List.map_map]
  conv => rhs; rw [← List.map_id bs]
  refine List.map_congr_left fun x hx => ?_
  have := h x hx
  simp; omega
theorem ofB_inj {a b : List Nat} (ha : Byt a) (hb : Byt b) (h : ofB a = ofB b) : a = b := by
  rw [← sb_ofB ha, h, sb_ofB hb]
theorem fold_ofB (bs : List Nat) : ∀ (acc : ByteArray), (bs.map (fun (x : Nat) => (x : Int))).foldl (fun r n => r.push (UInt8.ofNat n.toNat)) acc = ⟨acc.data ++ (bs.map UInt8.ofNat).toArray⟩ := by
  induction bs with
  | nil => intro acc; simp
  | cons x r ih =>
    intro acc
    simp only [List.map_cons, List.foldl_cons]
    rw [ih]
    congr 1
    apply Array.ext'
    simp [ByteArray.push]
theorem Row.rd {w : World} {B v xs} (h : Row w B v xs) (hb : Byt xs) : Rd w v xs := by
  rcases h.2 with ⟨rfl, hn⟩ | ⟨g, cap, cur, rfl, hb', hgg, hc, hm, hs, ht⟩
  · have : xs = [] := List.eq_nil_of_length_eq_zero hn
    subst this
    exact Rd.nil w
  · refine ⟨_, _, rfl, hc, hb, fun j x hx => ⟨g, 0, rfl, ?_⟩⟩
    have := World.ownsRow.cells h (g := g) rfl j (.int .u8 (x : Int)) (by simp [bv, hx])
    rw [Addr.add_lit] at this
    exact this
theorem Rd.conv {w v bs} (h : Rd w v bs) : (convert 56 9 v).run Try.prog w = .ok (.string (ofB bs)) w := by
  obtain ⟨a, cap, rfl, h1, h2, h3⟩ := h
  rw [run_convert_bytes_string w 56 9 5 _ _ _ Try.underlying56 Try.underlying5 Try.underlying9]
  cases a with
  | none =>
    have : bs = [] := by
      cases bs with
      | nil => rfl
      | cons x r => obtain ⟨b, off, e, _⟩ := h3 0 x rfl; cases e
    subst this
    rfl
  | some a =>
    have hl := run_loadCells_list (P := Try.prog) w a (bv bs) ?_
    · have := run_bytesToString w a bs.length cap (bs.map (fun (x : Nat) => (x : Int))) (by
        rw [bv_length] at hl
        rw [hl]; simp [bv]) (P := Try.prog)
      rw [this, fold_ofB]
      simp [ofB]
    · intro j u hu
      simp only [bv, List.getElem?_map, Option.map_eq_some_iff] at hu
      obtain ⟨x, hx, rfl⟩ := hu
      obtain ⟨b, off, e, hc⟩ := h3 j x hx
      cases e
      rw [Addr.add_lit]; exact hc

theorem streq (a b : ByteArray) : (a.toList == b.toList) = decide (a = b) := by
  rw [ByteArray.toList_eq, ByteArray.toList_eq]
  by_cases h : a = b
  · simp [h]
  · have : ¬ a.data = b.data := fun e => h (by cases a; cases b; simp at e; simp [e])
    simp [h, this]

set_option maxHeartbeats 400000 in
theorem bytes_any (w : World) (v1 v2 : Value) (xs ys : List Nat) (h1 : Rd w v1 xs) (h2 : Rd w v2 ys) :
    Calls Try.prog 33 #[v1, v2] w fun e w' => e = .returned (.bool (decide (xs = ys))) ∧ w' = w := by
  have e1 := h1.conv
  have e2 := h2.conv
  obtain ⟨a1, c1, rfl, _, b1, _⟩ := h1
  obtain ⟨a2, c2, rfl, _, b2, _⟩ := h2
  have e3 : decide (ofB xs = ofB ys) = decide (xs = ys) := by
    by_cases h : xs = ys
    · simp [h]
    · have : ¬ ofB xs = ofB ys := fun e => h (ofB_inj b1 b2 e)
      simp [h, this]
  rw [← e3]
  clear e3
  go_enter Try.func33, Try.ntmps33
  go_wp2
  go_ret
  exact ⟨by simp [streq], rfl⟩
theorem Rd.lit {w : World} {b : Nat} (xs : List Nat) (hb : Byt xs) {c : Array Value} {f : Nat × Nat} (h : w.heap[b]? = some (.cells c 5 f)) (hc : c = (bv xs).toArray) : Rd w (.slice (some ⟨b, 0, none⟩) xs.length xs.length) xs := by
  subst hc
  refine ⟨_, _, rfl, Nat.le_refl _, hb, fun j x hx => ⟨b, 0, rfl, ?_⟩⟩
  rw [cellOf h]
  simp [bv, hx]

theorem run_appR (w : World) (ty : TypeId) (B : Nat) (v u : Value) (xs ys : List Nat) (h : Row w B v xs) (hu : Rd w u ys) (hnil : u.ownBlock = none → u = .slice none 0 0) (hB : B ≤ w.heap.size) (hl : xs.length ≤ 1099511627776) (hl2 : ys.length ≤ 1099511627776) :
    ∃ v' w', (Builtin.append_ #[56, 56] ty #[v, u]).run Try.prog w = .ok v' w' ∧ Row w' B v' (xs ++ ys) ∧ Grw w v w' v' := by
  obtain ⟨i0, hi, hz0, hz1, hz2⟩ := info_parts info5
  obtain ⟨a, cap, rfl, hc, hb, h3⟩ := hu
  cases a with
  | none =>
    have e := hnil rfl
    injection e with _ e1 e2
    have : ys = [] := List.eq_nil_of_length_eq_zero e1
    subst this
    subst e2
    exact ⟨v, w, run_append_owned_none w B 56 ty 5 i0 1 Try.underlying56 hi v xs.length (bv xs) h, by simpa using h, Grw.refl _ _⟩
  | some ad =>
    obtain ⟨v', w', hrun, hown, hg, _, hat⟩ := run_append_own_at (P := Try.prog) w B 56 ty 5 i0 (.int .u8 0) 1 1 Try.underlying56 hi hz0 hz1 hz2 rfl (by decide) v xs.length (bv xs) h ad ys.length cap (bv ys) (by simp [bv_length]) (by
      intro j x hx
      simp only [bv, List.getElem?_map, Option.map_eq_some_iff] at hx
      obtain ⟨y, hy, rfl⟩ := hx
      obtain ⟨b, off, e, hcell⟩ := h3 j y hy
      cases e
      rw [Addr.add_lit]; exact hcell) (bv_one ys) (by unfold maxLen; omega) (by omega) hB
    refine ⟨v', w', hrun, ?_, hg, ?_⟩
    · unfold Row
      rw [bv_append, List.length_append]
      exact hown
    · rcases hat with hat | hat
      · exact .inl hat
      · exact .inr ⟨_, hat, Nat.le_refl _⟩

theorem wpList_appR {ops : Array Oper} {rest : List Oper} {o : Oper} {a : Act} {Q : Exit → Act → World → Prop} (w : World) (hgd : o.guard = none) (sl x : Operand)
    (ho : o.op = .call { callee := .builtin .append, args := #[sl, x], argTypes := #[56, 56] }) (v u : Value) (hs : a.eval sl = v) (hx : a.eval x = u)
    (B : Nat) (xs ys : List Nat) (h : Row w B v xs) (hu : Rd w u ys) (hnil : u.ownBlock = none → u = .slice none 0 0) (hB : B ≤ w.heap.size) (hl : xs.length ≤ 1099511627776) (hl2 : ys.length ≤ 1099511627776)
    (k : ∀ v' w', Row w' B v' (xs ++ ys) → Grw w v w' v' → wpList Try.prog ops Q rest (a.put o.dst v') w') :
    wpList Try.prog ops Q (o :: rest) a w := by
  refine wpList_plain hgd fun K hK => ?_
  obtain ⟨v', w', hr, h2, h3⟩ := run_appR w o.type B v u xs ys h hu hnil hB hl hl2
  unfold Oper.wp execOp
  simp only [ho, resolve, invoke, builtin, Sem.run_bind, Sem.run_pure, Result.andThen_ok, List.map_toArray, List.map_cons, List.map_nil, hs, hx, hr]
  exact hK _ _ (k v' w' h2 h3)

theorem Row.nilOf {w B v xs} (h : Row w B v xs) : v.ownBlock = none → v = .slice none 0 0 := by
  intro e
  rcases h.2 with ⟨rfl, _⟩ | ⟨g, cap, cur, rfl, _⟩
  · rfl
  · cases e

theorem Rd.empty (w : World) (a : Option Addr) (cap : Nat) : Rd w (.slice a 0 cap) [] := ⟨a, cap, rfl, Nat.zero_le _, fun x hx => (by cases hx), fun j x h => by simp at h⟩
structure Vl where
  kind : Int
  int : Int
  text : ByteArray
  rc : Int
  fs : List Hd
theorem encS_byt {h : Hd} (hs : simpleB h = true) : Byt (encS h) := by
  obtain ⟨_, _, (⟨hk, _⟩ | ⟨hk, _, ht⟩ | ⟨hk, _, hi⟩)⟩ := simpleB_cases hs
  · unfold encS; rw [if_pos hk]
    intro x hx
    rcases List.mem_cons.1 hx with rfl | hx
    · omega
    · exact enc_byt _ x hx
  · unfold encS; rw [if_neg (by omega), if_pos hk]
    intro x hx
    rcases List.mem_cons.1 hx with rfl | hx
    · omega
    · exact encT_byt _ x hx
  · unfold encS; rw [if_neg (by omega), if_neg (by omega)]
    intro x hx
    simp at hx
    omega
def hdOf (x : Vl) : Hd := ⟨x.kind, x.int, x.text, x.rc, none, x.fs.length, 0⟩
def PutP (B : Nat) (b : Bool) (bs : List Nat) (e : Ending) (w' : World) : Prop := ∃ v', e = .returned (.tuple #[v', .int .i64 (if b then 0 else 20)]) ∧ Row w' B v' (if b then bs else [])

def hp (x : Vl) : Hd × List Hd := (hdOf x, x.fs)
theorem Row.lit {w : World} {b B x : Nat} {y : Int} (hy : y = x) (h : w.heap[b]? = some (.cells #[.int .u8 y] 5 (0, 0))) (hB : B ≤ b) : Row w B (.slice (some ⟨b, 0, none⟩) 1 1) [x] := by
  subst hy
  exact ⟨by simp [bv], .inr ⟨b, 1, _, rfl, hB, h, by simp, by unfold maxLen; omega, by simp, by simp [bv]⟩⟩
theorem lit_after {w1 w2 : World} {B x : Nat} {y : Int} (hy : y = x) (hB : B ≤ w1.heap.size) (hb : Below (w1.heap.size + 1) (w1.alloc (.cells #[.int .u8 y] 5)) w2) : Row w2 B (.slice (some ⟨w1.heap.size, 0, none⟩) 1 1) [x] :=
  Row.lit hy ((hb.block _ (by omega)).trans (heap_alloc_new w1 _)) hB
theorem step_appR {ops : Array Oper} {o : Oper} {a : Act} {w : World} {K : Act → World → Prop} {Q : Exit → Act → World → Prop} {E : Prop} (hgd : o.guard = none) (s x : Operand)
    (ho : o.op = .call { callee := .builtin .append, args := #[s, x], argTypes := #[56, 56] }) (v u : Value) (hs : a.eval s = v) (hx : a.eval x = u)
    (B : Nat) (xs ys : List Nat) (h : Row w B v xs) (hu : Rd w u ys) (hnil : u.ownBlock = none → u = .slice none 0 0) (hB : B ≤ w.heap.size) (hl : xs.length ≤ 1099511627776) (hl2 : ys.length ≤ 1099511627776)
    (k : ∀ v' w', Row w' B v' (xs ++ ys) → Grw w v w' v' → K (a.put o.dst v') w') :
    if Region.wanted o (yielded ops a.tmps) = true then Oper.wp Try.prog o a w K Q else E := by
  have hw : Region.wanted o (yielded ops a.tmps) = true := by simp [Region.wanted, hgd]
  rw [if_pos hw]
  obtain ⟨v', w', hr, h2, h3⟩ := run_appR w o.type B v u xs ys h hu hnil hB hl hl2
  unfold Oper.wp execOp
  simp only [ho, resolve, invoke, builtin, Sem.run_bind, Sem.run_pure, Result.andThen_ok, List.map_toArray, List.map_cons, List.map_nil, hs, hx, hr]
  exact k v' w' h2 h3

set_option maxRecDepth 10000 in
set_option maxHeartbeats 2000000 in
theorem refPut_simple (w : World) (h : Hd) (hin : h.In) (hk : h.kind ≠ 4) :
    Calls Try.prog 58 #[h.v] w fun e w' => Below w.heap.size w w' ∧ PutP w.heap.size (simpleB h) (encS h) e w' := by
  have K46 : Hid (Calls Try.prog 81 #[h.v] (w.alloc (.cells h.v.cells 31)) fun e w' => e = .returned (.bool (simpleB h)) ∧ Below (w.heap.size + 1) (w.alloc (.cells h.v.cells 31)) w') := by
    refine hid ((refPlain_simple (w.alloc (.cells h.v.cells 31)) h hin hk).mono ?_)
    rintro e w' ⟨rfl, rfl⟩
    exact ⟨rfl, (Below.refl _ _).alloc (by simp) _⟩
  have hB0 : Below w.heap.size w (w.alloc (.cells h.v.cells 31)) := (Below.refl _ _).alloc (Nat.le_refl _) _
  cases hs : simpleB h with
  | false =>
    rw [hs] at K46
    obtain ⟨kind, int, text, rc, a, n, cap⟩ := h
    simp only [Hd.v, Value.cells] at K46 hB0 ⊢
    clear hin hk hs
    go_enter Try.func58, Try.ntmps58
    go_wp2_with (go_at_call 81; (refine (Hid.out K46).mono ?_; rintro e w1 ⟨rfl, hb1⟩))
    go_ret2
    exact ⟨hB0.trans (hb1.mono (by omega)), .slice none 0 0, rfl, Row.nil _ _⟩
  | true =>
    rw [hs] at K46
    have hi0 := hin.i0
    have hi1 := hin.i1
    have ht0 := hin.t
    obtain ⟨h1, h2, h3⟩ := simpleB_cases hs
    obtain ⟨kind, int, text, rc, a, n, cap⟩ := h
    simp only [Hd.v, Value.cells] at K46 hB0 h1 h2 h3 hi0 hi1 ht0 ⊢
    clear hin hk hs
    subst h1 h2
    rcases h3 with ⟨rfl, rfl⟩ | ⟨rfl, rfl, ht⟩ | ⟨rfl, rfl, hi⟩
    · go_enter Try.func58, Try.ntmps58
      go_wp2_with (first
        | (go_at_call 81; (refine (Hid.out K46).mono ?_; rintro e w1 ⟨rfl, hb1⟩; have hbx := res_cells' hb1; have g0 := cellOf hbx 0; have g1 := cellOf hbx 1; simp only [List.getElem?_toArray, List.getElem?_cons_zero, List.getElem?_cons_succ] at g0 g1; clear hbx; have hsz : w.heap.size < w1.heap.size := (by have := hb1.size; simp at this; omega)))
        | (go_at_call 84; (refine (refPutInt_any _ int hi0 hi1).mono ?_; rintro e w2 ⟨v2, rfl, hr2, hb2⟩; have hz2 := hb2.size; simp only [World.size_alloc] at hr2 hb2 hz2))
        | (at_builtin; (refine wpList_appR _ rfl _ _ rfl _ _ (by rfl) (by rfl) w.heap.size [1] (enc (zz int)) (lit_after rfl (by omega) hb2) (hr2.rd (enc_byt _)) hr2.nilOf (by omega) (by simp) (by have := enc_le (zz int) (zz_lt _ hi0 hi1); omega) ?_; intro v3 w3 hr3 hg3)))
      go_ret2
      refine ⟨?_, v3, rfl, by simpa [encS] using hr3⟩
      exact ((hB0.trans (hb1.mono (by omega))).alloc (by omega) _).trans ((hb2.mono (by omega)).trans (hg3.below (lit_after rfl (by omega) hb2) (by omega)))
    · go_enter Try.func58, Try.ntmps58
      go_wp2_with (first
        | (go_at_call 81; (refine (Hid.out K46).mono ?_; rintro e w1 ⟨rfl, hb1⟩; have hbx := res_cells' hb1; have g0 := cellOf hbx 0; have g2 := cellOf hbx 2; simp only [List.getElem?_toArray, List.getElem?_cons_zero, List.getElem?_cons_succ] at g0 g2; clear hbx; have hsz : w.heap.size < w1.heap.size := (by have := hb1.size; simp at this; omega)))
        | (go_at_call 85; (refine (refPutText_any _ text (by omega)).mono ?_; rintro e w2 ⟨v2, rfl, hr2, hb2⟩; have hz2 := hb2.size; simp only [World.size_alloc] at hr2 hb2 hz2))
        | (at_builtin; (refine wpList_appR _ rfl _ _ rfl _ _ (by rfl) (by rfl) w.heap.size [2] (cd_encT text) (lit_after rfl (by omega) hb2) (hr2.rd (encT_byt _)) hr2.nilOf (by omega) (by simp) (by have := enc_le text.size (by omega); simp [cd_encT, sb_length]; omega) ?_; intro v3 w3 hr3 hg3)))
      go_ret2
      refine ⟨?_, v3, rfl, by simpa [encS] using hr3⟩
      exact ((hB0.trans (hb1.mono (by omega))).alloc (by omega) _).trans ((hb2.mono (by omega)).trans (hg3.below (lit_after rfl (by omega) hb2) (by omega)))
    · obtain ⟨m, rfl⟩ : ∃ m : Nat, int = (m : Int) := ⟨int.toNat, by omega⟩
      have hm : m ≤ 1 := by omega
      go_enter Try.func58, Try.ntmps58
      go_wp2_with (first
        | (go_at_call 81; (refine (Hid.out K46).mono ?_; rintro e w1 ⟨rfl, hb1⟩; have hbx := res_cells' hb1; have g0 := cellOf hbx 0; have g1 := cellOf hbx 1; simp only [List.getElem?_toArray, List.getElem?_cons_zero, List.getElem?_cons_succ] at g0 g1; clear hbx; have hsz : w.heap.size < w1.heap.size := (by have := hb1.size; simp at this; omega)))
        | (at_builtin; (refine wpList_app1P _ rfl _ _ rfl _ _ (by rfl) (by first | rfl | (rw [World.size_alloc]; rfl)) w.heap.size [3] m (by omega) (lit_after rfl (by omega) (Below.refl _ _)) (by simp; omega) (by simp) ?_; intro v3 w3 hr3 hg3)))
      go_ret2
      refine ⟨?_, v3, rfl, by simpa [encS] using hr3⟩
      exact ((hB0.trans (hb1.mono (by omega))).alloc (by omega) _).trans (hg3.below (lit_after rfl (by omega) (Below.refl _ _)) (by simp; omega))
theorem box34 {w wr : World} {c0 c1 c2 c3 c4 : Value} (h : Below (w.heap.size + 1) (w.alloc (.cells #[c0, c1, c2, c3, c4] 31)) wr) : wr.cell? ⟨w.heap.size, 3, none⟩ = some c3 ∧ wr.cell? ⟨w.heap.size, 4, none⟩ = some c4 :=
  ⟨cellOf (res_cells' h) 3, cellOf (res_cells' h) 4⟩
set_option maxRecDepth 10000 in
set_option maxHeartbeats 2000000 in
theorem refPut_rec (w : World) (q : Nat) (a : Option Addr) (n cap : Nat) (fs : List Hd) (hn : n = fs.length) (hn2 : n ≤ 12) (hq : q ≤ 15) (hv : VRd w a fs) (hs : fs.all simpleB = true) (hin : ∀ f ∈ fs, f.In) :
    Calls Try.prog 58 #[Hd.v ⟨4, 0, ByteArray.empty, (q : Int), a, n, cap⟩] w fun e w' => Below w.heap.size w w' ∧ PutP w.heap.size true (4 :: (enc q ++ (enc n ++ encR fs))) e w' := by
  simp only [Hd.v]
  have hB0 : Below w.heap.size w (w.alloc (.cells #[.int .i64 4, .int .i64 0, .string ByteArray.empty, .int .i64 (q : Int), .slice a n cap] 31)) := (Below.refl _ _).alloc (Nat.le_refl _) _
  have K46 : Hid (Calls Try.prog 81 #[.agg #[.int .i64 4, .int .i64 0, .string ByteArray.empty, .int .i64 (q : Int), .slice a n cap]] (w.alloc (.cells #[.int .i64 4, .int .i64 0, .string ByteArray.empty, .int .i64 (q : Int), .slice a n cap] 31)) fun e w' => e = .returned (.bool true) ∧ Below (w.heap.size + 1) (w.alloc (.cells #[.int .i64 4, .int .i64 0, .string ByteArray.empty, .int .i64 (q : Int), .slice a n cap] 31)) w') := by
    refine hid ((refPlain_fields _ (q : Int) a n cap fs hn (by omega) (by omega) hn2 (hv.below (Nat.le_refl _) hB0) hin).mono ?_)
    rintro e w' ⟨rfl, hb⟩
    rw [hs]
    exact ⟨rfl, by simpa using hb⟩
  have Hn := hid hn
  have hle1 := enc_le q (by omega)
  have hle2 := enc_le n (by omega)
  have hle3 : (encR fs).length ≤ 1000 := by have := encR_le hs hin; omega
  have by1 := hid (enc_byt q)
  have by2 := hid (enc_byt n)
  clear hn
  have hS := hid (fun w f h k => refPut_simple w f h k)
  go_enter Try.func58, Try.ntmps58
  go_wp2_with (go_at_call 81; (refine (Hid.out K46).mono ?_; rintro e w1 ⟨rfl, hb1⟩; have hbx := res_cells' hb1; have g0 := cellOf hbx 0; have g3 := cellOf hbx 3; have g4 := cellOf hbx 4; simp only [List.getElem?_toArray, List.getElem?_cons_zero, List.getElem?_cons_succ] at g0 g3 g4; clear hbx; have hsz : w.heap.size < w1.heap.size := (by have := hb1.size; simp at this; omega)))
  have hW : Below (w.heap.size + 1) (w.alloc (.cells #[.int .i64 4, .int .i64 0, .string ByteArray.empty, .int .i64 (q : Int), .slice a n cap] 31)) (w1.alloc (.cells #[.int .u8 4] 5)) := hb1.alloc (by omega) _
  have hr0 : Row (w1.alloc (.cells #[.int .u8 4] 5)) (w.heap.size + 1) (.slice (some ⟨w1.heap.size, 0, none⟩) 1 1) [4] := lit_after rfl (by omega) (Below.refl _ _)
  have hsz2 : w.heap.size + 2 ≤ (w1.alloc (.cells #[.int .u8 4] 5)).heap.size := by simp; omega
  have g3' : (w1.alloc (.cells #[.int .u8 4] 5)).cell? ⟨w.heap.size, 3, none⟩ = some (.int .i64 (q : Int)) := by have := cellOf (res_cells' hW) 3; simpa using this
  have g4' : (w1.alloc (.cells #[.int .u8 4] 5)).cell? ⟨w.heap.size, 4, none⟩ = some (.slice a n cap) := by have := cellOf (res_cells' hW) 4; simpa using this
  generalize (w1.alloc (.cells #[.int .u8 4] 5)) = W at *
  clear g0 g3 g4 hb1
  go_region_held3 (fun w2 => w2.cell? ⟨w.heap.size, 3, none⟩ = some (.int .i64 (q : Int)) ∧ w2.cell? ⟨w.heap.size, 4, none⟩ = some (.slice a n cap)) (first | exact s6 | exact s5 | exact s4 | exact s3 | go_keep) ((first
    | (have hno := hr5; (refine step_appR (by rfl) _ _ (by rfl) _ _ (by rfl) (by rfl) (w.heap.size + 1) ([4] ++ enc q) (enc n) hr4' (hr5.rd by2.out) hr5.nilOf (by have := J5.size; simp at this; omega) (by simp; omega) (by omega) ?_; intro v6 w6 hr6 hg6; have J6 := J5.trans (hg6.below hr4' (by have := J5.size; simp at this; omega)); have s6 := box34 J6))
    | (go_at_call 57; have hno := hg4; (refine (refPutUint_any _ _ n (by first | omega | (rw [IntKind.wrap_u64]; omega)) (by omega)).mono ?_; rintro e w5 ⟨v5, rfl, hr5, hg5⟩; have J5 := J4.trans (hg5.nil.mono (by have := J4.size; simp at this; omega)); have hr4' := hr4.below (Nat.le_refl _) hg5.nil; have s5 := box34 J5))
    | (have hno := hg3; (refine step_appR (by rfl) _ _ (by rfl) _ _ (by rfl) (by rfl) (w.heap.size + 1) [4] (enc q) (hr0.drew.below (Nat.le_refl _) hg3.nil) (hr3.rd by1.out) hr3.nilOf (by have := J3.size; simp at this; omega) (by simp) (by omega) ?_; intro v4 w4 hr4 hg4; have J4 := J3.trans (hg4.below (hr0.drew.below (Nat.le_refl _) hg3.nil) (by have := J3.size; simp at this; omega)); have s4 := box34 J4))
    | (go_at_call 57; (refine (refPutUint_any _ _ q (by first | omega | (rw [IntKind.wrap_u64]; omega)) (by omega)).mono ?_; rintro e w3 ⟨v3, rfl, hr3, hg3⟩; have J3 := hW.drew.trans (hg3.nil.mono (by simp; omega)); have s3 := box34 J3))))
  have hwq : IntKind.u64.wrap (q : Int) = (q : Int) := by rw [IntKind.wrap_u64]; omega
  have hwn : IntKind.u64.wrap (n : Int) = (n : Int) := by rw [IntKind.wrap_u64]; omega
  rw [hwq, hwn]
  clear hwq hwn
  have HJ6 := hid J6
  clear s3 s4 s5 s6 J3 J4 J5 J6 hr0 hr3 hr4 hr4' hr5 hg3 hg4 hg5 hg6 hW g3' g4' K46
  go_wp2
  go_loopg [4, 5] n (fun g vb ii wr => ∃ (i : Nat) (ys : List Nat), i + g = n ∧ ii = .int .i64 (i : Int) ∧ Row wr (w.heap.size + 1) vb ys ∧ Below (w.heap.size + 1) (w.alloc (.cells #[.int .i64 4, .int .i64 0, .string ByteArray.empty, .int .i64 (q : Int), .slice a n cap] 31)) wr ∧ ys ++ encR (fs.drop i) = ([4] ++ enc q) ++ enc n ++ encR fs)
  case atStart => exact ⟨0, _, by omega, rfl, hr6, HJ6.out, rfl⟩
  case round =>
    obtain ⟨i, ys, hi, rfl, hry, hbel, hT⟩ := hrel
    have Hi := hid hi
    have HT := hid hT
    have hys : ys.length ≤ 2000 := by
      have h1 := congrArg List.length hT
      simp only [List.length_append, List.length_cons, List.length_nil] at h1
      omega
    have hBw : Below w.heap.size w wr := hB0.trans (hbel.mono (by omega))
    have Hbw := hid hBw
    have hsz : w.heap.size + 1 ≤ wr.heap.size := by have := hbel.size; simp at this; exact this
    have g4 := (box34 hbel).2
    have Hbel := hid hbel
    have Hry := hid hry
    clear hT hbel
    cases gk with
    | zero =>
      have hin' : i = n := by omega
      clear hi
      subst hin'
      go_wp2
      go_ret2
      refine ⟨Hbw.out, _, rfl, ?_⟩
      have h1 := HT.out
      rw [show fs.drop i = [] from by rw [Hn.out, List.drop_length]] at h1
      simp only [encR, List.flatMap_nil, List.append_nil, List.append_assoc, List.cons_append, List.nil_append] at h1
      have h2 := hry.mono (C := w.heap.size) (by omega)
      rw [h1] at h2
      exact h2
    | succ g =>
      have hlt : i < n := by omega
      clear hi
      obtain ⟨f, hfi⟩ : ∃ f, fs[i]? = some f := ⟨fs[i]'(by rw [← Hn.out]; exact hlt), by rw [List.getElem?_eq_getElem]⟩
      have hfin := hin f (List.mem_of_getElem? hfi)
      have hfs : simpleB f = true := List.all_eq_true.1 hs f (List.mem_of_getElem? hfi)
      have hk : f.kind ≠ 4 := by have := (simpleB_cases hfs).2.2; omega
      obtain ⟨b1, o1, rfl, e1⟩ := (hv.below (Nat.le_refl _) hBw) i f hfi
      have hd := hid (encR_drop hfi)
      have hc := hid (Hid.out hS wr f hfin hk)
      rw [hfs] at hc
      have hEl := encS_le hfs hfin
      have hEb := hid (encS_byt hfs)
      have x0 := e1 0 (by omega)
      have x1 := e1 1 (by omega)
      have x2 := e1 2 (by omega)
      have x3 := e1 3 (by omega)
      have x4 := e1 4 (by omega)
      generalize hE : encS f = E at *
      obtain ⟨fk, fi, ft, fr, fa, fn, fc⟩ := f
      simp only [Hd.cs, List.getElem?_cons_zero, List.getElem?_cons_succ, Nat.add_zero] at x0 x1 x2 x3 x4
      simp only [Hd.v, Value.cells] at hc
      clear e1 hfi hfin hfs hE hBw hk hry hS
      go_wp2_with (first
        | (go_at_call 58; (refine (Hid.out hc).mono ?_; rintro e w9 ⟨hb9, v9, rfl, hr9⟩; simp only [if_true] at hr9))
        | (at_builtin; (refine wpList_appR _ rfl _ _ rfl _ _ (by rfl) (by rfl) (w.heap.size + 1) ys E (Hry.out.below (Nat.le_refl _) hb9) (hr9.rd hEb.out) hr9.nilOf (by have := hb9.size; omega) (by omega) (by omega) ?_; intro v10 w10 hr10 hg10)))
      go_roundg g
      case measure => omega
      case rel => exact ⟨i + 1, ys ++ E, by have := Hi.out; omega, by go_num, hr10, (Hbel.out.trans (hb9.mono hsz)).trans (hg10.below (Hry.out.below (Nat.le_refl _) hb9) (by have := hb9.size; omega)), by rw [← HT.out, hd.out]; simp⟩

set_option maxHeartbeats 1000000 in
theorem refPut_no (w : World) (h : Hd) (fs : List Hd) (hin : h.In) (hn : h.n = fs.length) (hv : VRd w h.a fs) (hfs : ∀ f ∈ fs, f.In) (hp : plainB h fs = false) :
    Calls Try.prog 58 #[h.v] w fun e w' => Below w.heap.size w w' ∧ PutP w.heap.size false (encV h fs) e w' := by
  have hB0 : Below w.heap.size w (w.alloc (.cells h.v.cells 31)) := (Below.refl _ _).alloc (Nat.le_refl _) _
  have H1 := refPlain_any (w.alloc (.cells h.v.cells 31)) h fs hin hn (hv.below (Nat.le_refl _) hB0) hfs
  rw [hp] at H1
  generalize encV h fs = EV
  obtain ⟨kind, int, text, rc, a, n, cap⟩ := h
  simp only [Hd.v, Value.cells] at H1 hB0 ⊢
  have K1 := hid H1
  clear H1 hin hn hv hfs hp
  go_enter Try.func58, Try.ntmps58
  go_wp2_with (go_at_call 81; (refine (Hid.out K1).mono ?_; rintro e w1 ⟨rfl, hb1⟩))
  go_ret2
  exact ⟨hB0.trans (hb1.mono (by simp)), .slice none 0 0, rfl, Row.nil _ _⟩

theorem refPut_any (w : World) (h : Hd) (fs : List Hd) (hin : h.In) (hn : h.n = fs.length) (hv : VRd w h.a fs) (hfs : ∀ f ∈ fs, f.In) :
    Calls Try.prog 58 #[h.v] w fun e w' => Below w.heap.size w w' ∧ PutP w.heap.size (plainB h fs) (encV h fs) e w' := by
  by_cases hk : h.kind = 4
  · cases hp : plainB h fs with
    | true =>
      have hp' := hp
      rw [plainB_rec hk] at hp'
      simp only [Bool.and_eq_true, decide_eq_true_eq] at hp'
      obtain ⟨⟨⟨⟨⟨h1, h2⟩, h3⟩, h4⟩, h5⟩, h6⟩ := hp'
      unfold encV
      rw [if_pos hk]
      obtain ⟨kind, int, text, rc, a, n, cap⟩ := h
      simp only at hk hn hv h1 h2 h3 h4 h5 ⊢
      subst hk h1 h2
      obtain ⟨q, rfl⟩ := Int.eq_ofNat_of_zero_le h3
      exact refPut_rec w q a n cap fs hn h5 (by omega) hv h6 hfs
    | false => exact refPut_no w h fs hin hn hv hfs hp
  · have e1 : plainB h fs = simpleB h := by unfold plainB; rw [if_neg hk]
    unfold encV
    rw [if_neg hk, e1]
    exact refPut_simple w h hin hk
end Go.Proofs.Ytenfgahedbeekaa

namespace Go.Proofs.Ytenfgahedbeekaa
open Go.RowKit Go.Deep
set_option linter.unusedVariables false
set_option linter.unusedSimpArgs false

structure Ord3 {α : Type} (f : α → α → Int) : Prop where
  anti : ∀ a b, f a b = - f b a
  tr : ∀ a b c, f a b ≤ 0 → f b c ≤ 0 → f a c ≤ 0
theorem Ord3.self {α : Type} {f : α → α → Int} (h : Ord3 f) (a : α) : f a a = 0 := by have := h.anti a a; omega
def lex {α : Type} (f g : α → α → Int) (a b : α) : Int := if f a b = 0 then g a b else f a b
/- What one step of a comparing by steps says of three. -/
theorem lex_step {x y z x' y' z' p q r : Int} (h1 : (if x = 0 then p else x) ≤ 0) (h2 : (if y = 0 then q else y) ≤ 0) (hz : x ≤ 0 → y ≤ 0 → z ≤ 0) (hx : x = -x') (hy : y = -y') (hz' : z = -z') (hy' : z' ≤ 0 → x ≤ 0 → y' ≤ 0) (hx' : y ≤ 0 → z' ≤ 0 → x' ≤ 0) (hr : x = 0 → y = 0 → z = 0 → p ≤ 0 → q ≤ 0 → r ≤ 0) : (if z = 0 then r else z) ≤ 0 := by
  have hx0 : x ≤ 0 := by split at h1 <;> omega
  have hy0 : y ≤ 0 := by split at h2 <;> omega
  have hz0 := hz hx0 hy0
  split
  · rename_i hzz
    have a1 := hy' (by omega) hx0
    have a2 := hx' hy0 (by omega)
    have e1 : x = 0 := by omega
    have e2 : y = 0 := by omega
    rw [if_pos e1] at h1
    rw [if_pos e2] at h2
    exact hr e1 e2 hzz h1 h2
  · exact hz0
theorem ord_lex {α : Type} {f g : α → α → Int} (hf : Ord3 f) (hg : Ord3 g) : Ord3 (lex f g) := by
  constructor
  · intro a b
    unfold lex
    have h1 := hf.anti a b
    have h2 := hg.anti a b
    by_cases h : f a b = 0
    · rw [if_pos h, if_pos (by omega)]; exact h2
    · rw [if_neg h, if_neg (by omega)]; exact h1
  · intro a b c h1 h2
    unfold lex at h1 h2 ⊢
    exact lex_step h1 h2 (hf.tr a b c) (hf.anti a b) (hf.anti b c) (hf.anti a c) (hf.tr c a b) (hf.tr b c a) (fun _ _ _ => hg.tr a b c)
theorem ord_on {α β : Type} {f : β → β → Int} (hf : Ord3 f) (p : α → β) : Ord3 (fun a b => f (p a) (p b)) := ⟨fun a b => hf.anti _ _, fun a b c => hf.tr _ _ _⟩
def ci (a b : Int) : Int := if a < b then -1 else if b < a then 1 else 0
theorem ord_ci : Ord3 ci := by
  constructor
  · intro a b; unfold ci; split <;> split <;> (try split) <;> omega
  · intro a b c; unfold ci; intro h1 h2; (repeat' split at h1) <;> (repeat' split at h2) <;> (repeat' split) <;> omega
def cmpL {α : Type} (f : α → α → Int) : List α → List α → Int
  | [], [] => 0
  | [], _ :: _ => -1
  | _ :: _, [] => 1
  | a :: l, b :: m => if f a b = 0 then cmpL f l m else f a b
theorem ord_cmpL {α : Type} {f : α → α → Int} (hf : Ord3 f) : Ord3 (cmpL f) := by
  constructor
  · intro a
    induction a with
    | nil => intro b; cases b <;> rfl
    | cons x l ih =>
      intro b
      cases b with
      | nil => rfl
      | cons y m =>
        simp only [cmpL]
        have h1 := hf.anti x y
        have h2 := ih m
        by_cases h : f x y = 0
        · rw [if_pos h, if_pos (by omega)]; exact h2
        · rw [if_neg h, if_neg (by omega)]; exact h1
  · intro a
    induction a with
    | nil => intro b c h1 h2; cases c <;> simp [cmpL]
    | cons x l ih =>
      intro b c h1 h2
      cases b with
      | nil => simp [cmpL] at h1
      | cons y m =>
        cases c with
        | nil => simp [cmpL] at h2
        | cons z k =>
          simp only [cmpL] at h1 h2 ⊢
          exact lex_step h1 h2 (hf.tr x y z) (hf.anti x y) (hf.anti y z) (hf.anti x z) (hf.tr z x y) (hf.tr y z x) (fun _ _ _ => ih m k)
def cB (l m : List UInt8) : Int := if Op.bytesLess l m then -1 else if l == m then 0 else 1
def cS (s t : ByteArray) : Int := cB s.toList t.toList
theorem cB_eq : ∀ (l m : List UInt8), cB l m = cmpL (fun a b : UInt8 => ci a.toNat b.toNat) l m
  | [], [] => rfl
  | [], _ :: _ => rfl
  | _ :: _, [] => rfl
  | a :: l, b :: m => by
    have ih := cB_eq l m
    simp only [cmpL, ← ih]
    simp only [cB, Op.bytesLess, ci]
    rcases Nat.lt_trichotomy a.toNat b.toNat with h | h | h
    · have h1 : a < b := UInt8.lt_iff_toNat_lt.2 h
      have h2 : ((a.toNat : Int) < (b.toNat : Int)) := by omega
      simp [h1, h2]
    · have h1 : a = b := UInt8.toNat_inj.1 h
      subst h1
      have h2 : ¬ ((a.toNat : Int) < (a.toNat : Int)) := by omega
      simp
    · have h1 : ¬ a < b := fun e => by have := UInt8.lt_iff_toNat_lt.1 e; omega
      have h2 : ((b.toNat : Int) < (a.toNat : Int)) := by omega
      have h3 : ¬ ((a.toNat : Int) < (b.toNat : Int)) := by omega
      have h4 : ¬ a = b := fun e => by subst e; omega
      simp [h1, h2, h3, h4]
theorem ord_cS : Ord3 cS := by
  have : cS = fun s t => cmpL (fun a b : UInt8 => ci a.toNat b.toNat) s.toList t.toList := by
    funext s t; exact cB_eq _ _
  rw [this]
  exact ord_on (ord_cmpL (ord_on ord_ci (fun a : UInt8 => (a.toNat : Int)))) _

set_option maxHeartbeats 400000 in
theorem nan_i (w : World) (x : Int) : Calls Try.prog 89 #[.int .i64 x] w fun e w' => e = .returned (.bool false) ∧ w' = w := by
  go_enter Try.func89, Try.ntmps89
  go_wp2
  go_ret
  exact ⟨by simp, rfl⟩
set_option maxHeartbeats 400000 in
theorem nan_i2 (w : World) (x : Int) : Calls Try.prog 90 #[.int .i64 x] w fun e w' => e = .returned (.bool false) ∧ w' = w := by
  go_enter Try.func90, Try.ntmps90
  go_wp2
  go_ret
  exact ⟨by simp, rfl⟩
set_option maxHeartbeats 400000 in
theorem nan_s (w : World) (x : ByteArray) : Calls Try.prog 91 #[.string x] w fun e w' => e = .returned (.bool false) ∧ w' = w := by
  go_enter Try.func91, Try.ntmps91
  go_wp2
  go_ret
  exact ⟨by simp, rfl⟩
set_option maxHeartbeats 400000 in
theorem cmp_i (w : World) (a b : Int) : Calls Try.prog 65 #[.int .i64 a, .int .i64 b] w fun e w' => e = .returned (.int .i64 (ci a b)) ∧ w' = w := by
  have K := hid (fun w x => nan_i w x)
  unfold ci
  by_cases h1 : a < b
  · rw [if_pos h1]
    go_enter Try.func65, Try.ntmps65
    go_wp2_with (go_at_call 89; (refine (Hid.out K _ _).mono ?_; rintro e w1 ⟨rfl, rfl⟩))
    go_ret
    exact ⟨rfl, rfl⟩
  · rw [if_neg h1]
    by_cases h2 : b < a
    · rw [if_pos h2]
      go_enter Try.func65, Try.ntmps65
      go_wp2_with (go_at_call 89; (refine (Hid.out K _ _).mono ?_; rintro e w1 ⟨rfl, rfl⟩))
      go_ret
      exact ⟨rfl, rfl⟩
    · rw [if_neg h2]
      go_enter Try.func65, Try.ntmps65
      go_wp2_with (go_at_call 89; (refine (Hid.out K _ _).mono ?_; rintro e w1 ⟨rfl, rfl⟩))
      go_ret
      exact ⟨rfl, rfl⟩
set_option maxHeartbeats 400000 in
theorem cmp_i2 (w : World) (a b : Int) : Calls Try.prog 66 #[.int .i64 a, .int .i64 b] w fun e w' => e = .returned (.int .i64 (ci a b)) ∧ w' = w := by
  have K := hid (fun w x => nan_i2 w x)
  unfold ci
  by_cases h1 : a < b
  · rw [if_pos h1]
    go_enter Try.func66, Try.ntmps66
    go_wp2_with (go_at_call 90; (refine (Hid.out K _ _).mono ?_; rintro e w1 ⟨rfl, rfl⟩))
    go_ret
    exact ⟨rfl, rfl⟩
  · rw [if_neg h1]
    by_cases h2 : b < a
    · rw [if_pos h2]
      go_enter Try.func66, Try.ntmps66
      go_wp2_with (go_at_call 90; (refine (Hid.out K _ _).mono ?_; rintro e w1 ⟨rfl, rfl⟩))
      go_ret
      exact ⟨rfl, rfl⟩
    · rw [if_neg h2]
      go_enter Try.func66, Try.ntmps66
      go_wp2_with (go_at_call 90; (refine (Hid.out K _ _).mono ?_; rintro e w1 ⟨rfl, rfl⟩))
      go_ret
      exact ⟨rfl, rfl⟩
set_option maxHeartbeats 400000 in
theorem cmp_s (w : World) (a b : ByteArray) : Calls Try.prog 67 #[.string a, .string b] w fun e w' => e = .returned (.int .i64 (cS a b)) ∧ w' = w := by
  have K := hid (fun w x => nan_s w x)
  unfold cS cB
  cases h1 : Op.bytesLess a.toList b.toList with
  | true =>
    go_enter Try.func67, Try.ntmps67
    go_wp2_with (go_at_call 91; (refine (Hid.out K _ _).mono ?_; rintro e w1 ⟨rfl, rfl⟩))
    go_ret
    exact ⟨rfl, rfl⟩
  | false =>
    cases h2 : a.toList == b.toList with
    | true =>
      go_enter Try.func67, Try.ntmps67
      go_wp2_with (go_at_call 91; (refine (Hid.out K _ _).mono ?_; rintro e w1 ⟨rfl, rfl⟩))
      go_ret
      exact ⟨rfl, rfl⟩
    | false =>
      go_enter Try.func67, Try.ntmps67
      go_wp2_with (go_at_call 91; (refine (Hid.out K _ _).mono ?_; rintro e w1 ⟨rfl, rfl⟩))
      go_ret
      exact ⟨rfl, rfl⟩
def orL : List Int → Int
  | [] => 0
  | x :: l => if x = 0 then orL l else x
theorem orL_drop {l : List Int} {i : Nat} {x : Int} (h : l[i]? = some x) : orL (l.drop i) = if x = 0 then orL (l.drop (i + 1)) else x := by
  have hlt : i < l.length := (List.getElem?_eq_some_iff.1 h).1
  rw [List.drop_eq_getElem_cons hlt]
  have : l[i] = x := by simpa [hlt] using h
  rw [this]; rfl
set_option maxHeartbeats 1000000 in
theorem or_any (w : World) (b0 n : Nat) (l : List Int) (hn : n = l.length) (hn2 : n ≤ 1000) (hc : ∀ (j : Nat) (x : Int), l[j]? = some x → w.cell? ⟨b0, j, none⟩ = some (.int .i64 x)) :
    Calls Try.prog 64 #[.slice (some ⟨b0, 0, none⟩) n n] w fun e w' => e = .returned (.int .i64 (orL l)) ∧ w' = w := by
  have Hn := hid hn
  have Hc := hid hc
  clear hn hc
  go_enter Try.func64, Try.ntmps64
  go_wp2
  go_loopg [8] n (fun g ii wr => ∃ i : Nat, i + g = n ∧ ii = .int .i64 (i : Int) ∧ wr = w ∧ orL l = orL (l.drop i))
  case atStart => exact ⟨0, by omega, rfl, rfl, rfl⟩
  case round =>
    obtain ⟨i, hi, rfl, rfl, ho⟩ := hrel
    have Hi := hid hi
    have Ho := hid ho
    clear ho
    cases gk with
    | zero =>
      have hin' : i = n := by omega
      clear hi
      subst hin'
      go_wp2
      go_ret
      refine ⟨?_, rfl⟩
      rw [Ho.out, Hn.out, List.drop_length]; rfl
    | succ g =>
      have hlt : i < n := by omega
      clear hi
      obtain ⟨x, hx⟩ : ∃ x, l[i]? = some x := ⟨l[i]'(by rw [← Hn.out]; exact hlt), by rw [List.getElem?_eq_getElem]⟩
      have x0 := Hc.out i x hx
      have hd := hid (orL_drop hx)
      clear hx
      by_cases h0 : x = 0
      · subst h0
        go_wp2
        go_roundg g
        case measure => omega
        case rel => exact ⟨i + 1, by have := Hi.out; omega, by go_num, rfl, by rw [Ho.out, hd.out]; rfl⟩
      · have h0' : (x != 0) = true := by simpa using h0
        go_wp2
        go_ret
        refine ⟨?_, rfl⟩
        rw [Ho.out, hd.out, if_neg h0]; rfl
end Go.Proofs.Ytenfgahedbeekaa

namespace Go.Proofs.Ytenfgahedbeekaa
open Go.RowKit Go.Deep
set_option linter.unusedVariables false
set_option linter.unusedSimpArgs false

def VT : Nat → Type
  | 0 => Empty
  | k + 1 => Hd × List (VT k)
def hdT : (k : Nat) → VT k → Hd
  | 0, t => Empty.elim t
  | _ + 1, t => t.1
def Rds : (k : Nat) → World → VT k → Prop
  | 0, _, _ => False
  | k + 1, w, t => t.1.In ∧ t.1.n = t.2.length ∧ t.1.n ≤ 1000 ∧ VRd w t.1.a (t.2.map (hdT k)) ∧ ∀ u ∈ t.2, Rds k w u
theorem Rds.below : ∀ (k : Nat) {w w' : World} {t : VT k} {B : Nat}, Rds k w t → w.heap.size ≤ B → Below B w w' → Rds k w' t
  | 0, _, _, _, _, h, _, _ => h.elim
  | k + 1, w, w', t, B, h, hB, kk => ⟨h.1, h.2.1, h.2.2.1, h.2.2.2.1.below hB kk, fun u hu => Rds.below k (h.2.2.2.2 u hu) hB kk⟩
def cH (a b : Hd) : Int := orL [ci a.kind b.kind, ci a.int b.int, cS a.text b.text, ci a.rc b.rc]
def cmpT : (k : Nat) → VT k → VT k → Int
  | 0, _, _ => 0
  | k + 1, s, t => if cH s.1 t.1 = 0 then cmpL (cmpT k) s.2 t.2 else cH s.1 t.1
theorem ord_cH : Ord3 cH := by
  have e : cH = lex (fun a b : Hd => ci a.kind b.kind) (lex (fun a b : Hd => ci a.int b.int) (lex (fun a b : Hd => cS a.text b.text) (fun a b : Hd => ci a.rc b.rc))) := by
    funext a b
    simp only [cH, orL, lex]
    by_cases h : ci a.rc b.rc = 0
    · simp [h]
    · simp [h]
  rw [e]
  exact ord_lex (ord_on ord_ci _) (ord_lex (ord_on ord_ci _) (ord_lex (ord_on ord_cS _) (ord_on ord_ci _)))
theorem ord_cmpT : ∀ k, Ord3 (cmpT k)
  | 0 => ⟨fun _ _ => rfl, fun _ _ _ _ _ => Int.le_refl _⟩
  | k + 1 => by
    have e : cmpT (k + 1) = lex (fun s t : VT (k + 1) => cH s.1 t.1) (fun s t : VT (k + 1) => cmpL (cmpT k) s.2 t.2) := by
      funext s t; rfl
    rw [e]
    exact ord_lex (ord_on ord_cH _) (ord_on (ord_cmpL (ord_cmpT k)) _)
theorem cmpL_zip {α : Type} (f : α → α → Int) : ∀ (l m : List α), cmpL f l m = if orL ((l.zip m).map fun p => f p.1 p.2) = 0 then ci l.length m.length else orL ((l.zip m).map fun p => f p.1 p.2)
  | [], [] => rfl
  | [], _ :: m => by simp only [cmpL, List.zip_nil_left, List.map_nil, orL, if_true, ci, List.length_nil, List.length_cons]; rw [if_pos (by omega)]
  | _ :: l, [] => by simp only [cmpL, List.zip_nil_right, List.map_nil, orL, if_true, ci, List.length_nil, List.length_cons]; rw [if_neg (by omega), if_pos (by omega)]
  | a :: l, b :: m => by
    have ih := cmpL_zip f l m
    have e : ci ((l.length + 1 : Nat) : Int) ((m.length + 1 : Nat) : Int) = ci (l.length : Int) (m.length : Int) := by
      unfold ci
      have h1 : (((l.length + 1 : Nat) : Int) < ((m.length + 1 : Nat) : Int)) ↔ ((l.length : Int) < (m.length : Int)) := by omega
      have h2 : (((m.length + 1 : Nat) : Int) < ((l.length + 1 : Nat) : Int)) ↔ ((m.length : Int) < (l.length : Int)) := by omega
      simp only [h1, h2]
    simp only [cmpL, List.zip_cons_cons, List.map_cons, orL, List.length_cons]
    rw [e]
    by_cases h : f a b = 0
    · rw [if_pos h, if_pos h]; exact ih
    · rw [if_neg h, if_neg h, if_neg h]
theorem orL_zeros {l : List Int} (h : ∀ x ∈ l, x = 0) : orL l = 0 := by
  induction l with
  | nil => rfl
  | cons x l ih => rw [orL, if_pos (h x (by simp))]; exact ih (fun y hy => h y (by simp [hy]))
theorem orL_at {p q : List Int} {x : Int} (h : ∀ y ∈ p, y = 0) (hx : x ≠ 0) : orL (p ++ x :: q) = x := by
  induction p with
  | nil => rw [List.nil_append, orL, if_neg hx]
  | cons y p ih => rw [List.cons_append, orL, if_pos (h y (by simp))]; exact ih (fun z hz => h z (by simp [hz]))

/- Pairs that read in a world. -/
abbrev Pr (k : Nat) (w : World) := { x : VT k × VT k // Rds k w x.1 ∧ Rds k w x.2 }
def prs (k : Nat) (w : World) : (l m : List (VT k)) → (∀ u ∈ l, Rds k w u) → (∀ u ∈ m, Rds k w u) → List (Pr k w)
  | [], _, _, _ => []
  | _ :: _, [], _, _ => []
  | a :: l, b :: m, h1, h2 => ⟨(a, b), h1 a (by simp), h2 b (by simp)⟩ :: prs k w l m (fun u hu => h1 u (by simp [hu])) (fun u hu => h2 u (by simp [hu]))
theorem prs_zip (k : Nat) (w : World) : ∀ (l m : List (VT k)) (h1 : ∀ u ∈ l, Rds k w u) (h2 : ∀ u ∈ m, Rds k w u), (prs k w l m h1 h2).map (fun x => x.1) = l.zip m
  | [], _, _, _ => by simp [prs]
  | _ :: _, [], _, _ => by simp [prs]
  | a :: l, b :: m, h1, h2 => by simp only [prs, List.map_cons, List.zip_cons_cons]; rw [prs_zip k w l m]
theorem prs_length (k : Nat) (w : World) (l m : List (VT k)) (h1 : ∀ u ∈ l, Rds k w u) (h2 : ∀ u ∈ m, Rds k w u) : (prs k w l m h1 h2).length = min l.length m.length := by
  have := congrArg List.length (prs_zip k w l m h1 h2)
  simpa using this
/- What reads a row reads its beginning. -/
theorem VRd.pre {w : World} {a : Option Addr} {l m : List Hd} (h : VRd w a l) (hp : ∀ (j : Nat) (x : Hd), m[j]? = some x → l[j]? = some x) : VRd w a m := fun j x hx => h j x (hp j x hx)
theorem prs_left {k : Nat} {w : World} {l m : List (VT k)} {h1 : ∀ u ∈ l, Rds k w u} {h2 : ∀ u ∈ m, Rds k w u} (j : Nat) (x : Hd) (h : ((prs k w l m h1 h2).map fun x => hdT k x.1.1)[j]? = some x) : (l.map (hdT k))[j]? = some x := by
  have e : (prs k w l m h1 h2).map (fun x => hdT k x.1.1) = (l.zip m).map (fun p => hdT k p.1) := by rw [← prs_zip k w l m h1 h2, List.map_map]; rfl
  rw [e] at h
  simp only [List.getElem?_map, List.getElem?_zip_eq_some, Option.map_eq_some_iff] at h ⊢
  obtain ⟨p, hp, rfl⟩ := h
  exact ⟨_, hp.1, rfl⟩
theorem prs_right {k : Nat} {w : World} {l m : List (VT k)} {h1 : ∀ u ∈ l, Rds k w u} {h2 : ∀ u ∈ m, Rds k w u} (j : Nat) (x : Hd) (h : ((prs k w l m h1 h2).map fun x => hdT k x.1.2)[j]? = some x) : (m.map (hdT k))[j]? = some x := by
  have e : (prs k w l m h1 h2).map (fun x => hdT k x.1.2) = (l.zip m).map (fun p => hdT k p.2) := by rw [← prs_zip k w l m h1 h2, List.map_map]; rfl
  rw [e] at h
  simp only [List.getElem?_map, List.getElem?_zip_eq_some, Option.map_eq_some_iff] at h ⊢
  obtain ⟨p, hp, rfl⟩ := h
  exact ⟨_, hp.2, rfl⟩
end Go.Proofs.Ytenfgahedbeekaa

