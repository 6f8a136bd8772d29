/- The document's side: an order of two, names, names that come twice. -/
import Derived.Test.YthnolocldeokeaaGreatJAI
import Derived.BigQuiet
namespace Go.Proofs.YthnolocldeokeaaGreat
set_option maxRecDepth 100000
open Go.RowKit Go.Deep Go.Shelf
set_option linter.unusedVariables false
set_option linter.unusedSimpArgs false

theorem ret_boolG {a b : Bool} (h : a = true ↔ b = true) : Ending.returned (.bool a) = .returned (.bool b) := congrArg _ (congrArg _ (Bool.eq_iff_iff.2 h))
theorem atS (s : ByteArray) (pos : Nat) (h : pos < s.size) : ∃ c, s[pos]'h = c ∧ s.data.toList[pos]? = some c := by
  have hl : pos < s.data.toList.length := by rw [Array.length_toList]; exact h
  refine ⟨s.data.toList[pos], ?_, List.getElem?_eq_getElem hl⟩
  simp
  rfl
def nvOk (g : Bool) (l : List UInt8) (j : Nat) : Bool := nmB (l.getD j 0).toNat && (decide (0 < j) || (if g then grB (l.getD j 0).toNat else smB (l.getD j 0).toNat))
def nvF (g : Bool) (l : List UInt8) : Nat → Bool
  | 0 => true
  | i + 1 => nvF g l i && nvOk g l i
theorem nvF_iff (g : Bool) (l : List UInt8) : ∀ n, nvF g l n = true ↔ ∀ j, j < n → nvOk g l j = true
  | 0 => by simp [nvF]
  | n + 1 => by
    simp only [nvF, Bool.and_eq_true, nvF_iff g l n]
    constructor
    · rintro ⟨h1, h2⟩ j hj
      rcases Nat.lt_or_ge j n with h | h
      · exact h1 j h
      · obtain rfl : j = n := by omega
        exact h2
    · intro h
      exact ⟨fun j hj => h j (by omega), h n (by omega)⟩
theorem nvF_no {g : Bool} {l : List UInt8} {i n : Nat} (hi : i < n) (h : nvOk g l i = false) : nvF g l n = false := by
  cases hx : nvF g l n
  · rfl
  · rw [(nvF_iff g l n).1 hx i hi] at h; cases h
theorem nvOk_pos {g : Bool} {l : List UInt8} {i : Nat} {c : UInt8} (h : 0 < i) (e : l[i]? = some c) : nvOk g l i = nmB c.toNat := by
  unfold nvOk
  rw [List.getD_eq_getElem?_getD, e, Option.getD_some, decide_eq_true h]
  simp
theorem nvOk_zero {g : Bool} {l : List UInt8} {c : UInt8} (e : l[0]? = some c) : nvOk g l 0 = (if g then grB c.toNat else smB c.toNat) := by
  unfold nvOk nmB
  rw [List.getD_eq_getElem?_getD, e, Option.getD_some]
  cases g <;> cases smB (c.toNat : Int) <;> cases grB (c.toNat : Int) <;> simp
/- A name that begins as it must. -/
def nmdB (g : Bool) (s : ByteArray) : Bool := nameB s && (if g then grB else smB) (s.data.toList.getD 0 0).toNat
theorem nmd_eq (g : Bool) (s : ByteArray) (h1 : 1 ≤ s.size) (h2 : s.size ≤ 20) : nmdB g s = nvF g s.data.toList s.size := by
  have hl : s.data.toList.length = s.size := Array.length_toList
  rw [Bool.eq_iff_iff, nvF_iff]
  unfold nmdB nameB
  rw [decide_eq_true h1, decide_eq_true h2]
  simp only [Bool.true_and, Bool.and_eq_true, List.all_eq_true]
  obtain ⟨c, hc⟩ : ∃ c, s.data.toList[0]? = some c := ⟨s.data.toList[0]'(by omega), List.getElem?_eq_getElem _⟩
  constructor
  · rintro ⟨ha, hf⟩ j hj
    obtain ⟨d, hd⟩ : ∃ d, s.data.toList[j]? = some d := ⟨s.data.toList[j]'(by omega), List.getElem?_eq_getElem _⟩
    cases j with
    | zero =>
      rw [nvOk_zero hd]
      rw [List.getD_eq_getElem?_getD, hd, Option.getD_some] at hf
      cases g <;> simpa using hf
    | succ j => rw [nvOk_pos (by omega) hd]; exact ha d (List.mem_of_getElem? hd)
  · intro h
    have h0 := h 0 (by omega)
    rw [nvOk_zero hc] at h0
    refine ⟨fun x hx => ?_, ?_⟩
    · obtain ⟨j, hj⟩ := List.getElem?_of_mem hx
      have hjl : j < s.size := by rw [← hl]; exact (List.getElem?_eq_some_iff.1 hj).1
      have := h j hjl
      unfold nvOk at this
      rw [List.getD_eq_getElem?_getD, hj, Option.getD_some, Bool.and_eq_true] at this
      exact this.1
    · rw [List.getD_eq_getElem?_getD, hc, Option.getD_some]
      cases g <;> simpa using h0
set_option maxRecDepth 100000 in
set_option maxHeartbeats 2000000 in
theorem refNamed (s : ByteArray) (g : Bool) (w : World) : Calls Tryz.prog 66 #[.string s, .bool g] w fun e w' => e = .returned (.bool (nmdB g s)) ∧ w' = w := by
  by_cases h1 : s.size < 1
  · have h1' : (s.size : Int) < 1 := by omega
    have hx : nmdB g s = false := by unfold nmdB nameB; rw [decide_eq_false (show ¬ 1 ≤ s.size by omega)]; rfl
    rw [hx]
    clear hx
    go_enter Tryz.func66, Tryz.ntmps66
    go_wp2
    go_ret
    exact ⟨rfl, rfl⟩
  · by_cases h2 : 20 < s.size
    · have h1' : ¬ (s.size : Int) < 1 := by omega
      have h2' : (20 : Int) < (s.size : Int) := by omega
      have hx : nmdB g s = false := by unfold nmdB nameB; rw [decide_eq_false (show ¬ s.size ≤ 20 by omega)]; simp
      rw [hx]
      clear hx
      go_enter Tryz.func66, Tryz.ntmps66
      go_wp2
      go_ret
      exact ⟨rfl, rfl⟩
    · have h1' : ¬ (s.size : Int) < 1 := by omega
      have h2' : ¬ (20 : Int) < (s.size : Int) := by omega
      rw [nmd_eq g s (by omega) (by omega)]
      have hnz : (nvF g s.data.toList 0) = true := rfl
      go_enter Tryz.func66, Tryz.ntmps66
      go_wp2
      go_loopg [5] s.size (fun gf ii wr => ∃ i : Nat, i + gf = s.size ∧ ii = .int .i64 (i : Int) ∧ wr = w ∧ nvF g s.data.toList i = true)
      case atStart => exact ⟨0, by omega, rfl, rfl, hnz⟩
      case round =>
        obtain ⟨i, hi, rfl, rfl, hok⟩ := hrel
        have HOK := hid hok
        clear hok hnz
        cases gk with
        | zero =>
          have hin : i = s.size := by omega
          subst hin
          clear hi
          go_wp2
          go_ret
          exact ⟨by rw [HOK.out]; rfl, rfl⟩
        | succ gf =>
          have hil : i < s.size := by omega
          have hil' : (i : Int) < (s.size : Int) := by omega
          obtain ⟨c, hc, hc1⟩ := atS s i hil
          have HC1 := hid hc1
          have Hi := hid hi
          clear hc1 hi
          have HIL := hid hil
          by_cases h95 : c.toNat = 95
          · have g1 : ((c.toNat : Int) == 95) = true := by simp; omega
            have g2 : (c.toNat : Int) = 95 := by omega
            by_cases hi0 : i = 0
            · subst hi0
              cases g
              · have Hv := hid (nvOk_zero (g := false) HC1.out)
                rw [if_neg (by decide)] at Hv
                go_wp2
                all_goals first
                  | (go_roundg gf
                     case measure => omega
                     case rel => exact ⟨0 + 1, by have := Hi.out; omega, by go_num, rfl, by rw [nvF, HOK.out, Hv.out, Bool.true_and]; simp [nmB, smB, grB]; omega⟩)
                  | (go_ret; exact ⟨by rw [nvF_no HIL.out (by rw [Hv.out]; simp [nmB, smB, grB]; omega)]; rfl, rfl⟩)
              · have Hv := hid (nvOk_zero (g := true) HC1.out)
                rw [if_pos rfl] at Hv
                go_wp2
                all_goals first
                  | (go_roundg gf
                     case measure => omega
                     case rel => exact ⟨0 + 1, by have := Hi.out; omega, by go_num, rfl, by rw [nvF, HOK.out, Hv.out, Bool.true_and]; simp [nmB, smB, grB]; omega⟩)
                  | (go_ret; exact ⟨by rw [nvF_no HIL.out (by rw [Hv.out]; simp [nmB, smB, grB]; omega)]; rfl, rfl⟩)
            · have Hv := hid (nvOk_pos (g := g) (Nat.pos_of_ne_zero hi0) HC1.out)
              have hi0' : ¬ (i : Int) = 0 := by omega
              go_wp2
              all_goals first
                | (go_roundg gf
                   case measure => omega
                   case rel => exact ⟨i + 1, by have := Hi.out; omega, by go_num, rfl, by rw [nvF, HOK.out, Hv.out, Bool.true_and]; simp [nmB, smB, grB]; omega⟩)
                | (go_ret; exact ⟨by rw [nvF_no HIL.out (by rw [Hv.out]; simp [nmB, smB, grB]; omega)]; rfl, rfl⟩)
          · have g1 : ((c.toNat : Int) == 95) = false := by simp; omega
            have g2 : ¬ (c.toNat : Int) = 95 := by omega
            by_cases hi0 : i = 0
            · subst hi0
              cases g
              · have Hv := hid (nvOk_zero (g := false) HC1.out)
                rw [if_neg (by decide)] at Hv
                go_wp2
                all_goals first
                  | (go_roundg gf
                     case measure => omega
                     case rel => exact ⟨0 + 1, by have := Hi.out; omega, by go_num, rfl, by rw [nvF, HOK.out, Hv.out, Bool.true_and]; simp [nmB, smB, grB]; omega⟩)
                  | (go_ret; exact ⟨by rw [nvF_no HIL.out (by rw [Hv.out]; simp [nmB, smB, grB]; omega)]; rfl, rfl⟩)
              · have Hv := hid (nvOk_zero (g := true) HC1.out)
                rw [if_pos rfl] at Hv
                go_wp2
                all_goals first
                  | (go_roundg gf
                     case measure => omega
                     case rel => exact ⟨0 + 1, by have := Hi.out; omega, by go_num, rfl, by rw [nvF, HOK.out, Hv.out, Bool.true_and]; simp [nmB, smB, grB]; omega⟩)
                  | (go_ret; exact ⟨by rw [nvF_no HIL.out (by rw [Hv.out]; simp [nmB, smB, grB]; omega)]; rfl, rfl⟩)
            · have Hv := hid (nvOk_pos (g := g) (Nat.pos_of_ne_zero hi0) HC1.out)
              have hi0' : ¬ (i : Int) = 0 := by omega
              go_wp2
              all_goals first
                | (go_roundg gf
                   case measure => omega
                   case rel => exact ⟨i + 1, by have := Hi.out; omega, by go_num, rfl, by rw [nvF, HOK.out, Hv.out, Bool.true_and]; simp [nmB, smB, grB]; omega⟩)
                | (go_ret; exact ⟨by rw [nvF_no HIL.out (by rw [Hv.out]; simp [nmB, smB, grB]; omega)]; rfl, rfl⟩)
/- Whether a name comes twice. -/
def dupB (ss : List ByteArray) : Bool := (List.range ss.length).any fun i => Lib.containsS (ss.take i) (ss.getD i ByteArray.empty)
theorem dupB_no {ss : List ByteArray} (h : ∀ i s, ss[i]? = some s → Lib.containsS (ss.take i) s = false) : dupB ss = false := by
  unfold dupB
  rw [List.any_eq_false]
  intro i hi
  have hl := List.mem_range.1 hi
  rw [List.getD_eq_getElem?_getD, List.getElem?_eq_getElem hl, Option.getD_some, h i _ (List.getElem?_eq_getElem hl)]
  simp
theorem dupB_yes {ss : List ByteArray} {i : Nat} {s : ByteArray} (e : ss[i]? = some s) (h : Lib.containsS (ss.take i) s = true) : dupB ss = true := by
  unfold dupB
  rw [List.any_eq_true]
  refine ⟨i, List.mem_range.2 (List.getElem?_eq_some_iff.1 e).1, ?_⟩
  rw [List.getD_eq_getElem?_getD, e]
  exact h
theorem namesB_split (g : Bool) (ss : List ByteArray) : namesB (if g then grB else smB) ss = (ss.all (nmdB g) && !dupB ss) := by
  rw [Bool.eq_iff_iff]
  constructor
  · intro h
    unfold namesB at h
    rw [List.all_eq_true] at h
    have h2 : ∀ i s, ss[i]? = some s → nmdB g s = true ∧ Lib.containsS (ss.take i) s = false := fun i s e => by
      have := h i (List.mem_range.2 (List.getElem?_eq_some_iff.1 e).1)
      rw [okAt_some e] at this
      simp only [Bool.and_eq_true, Bool.not_eq_true'] at this
      exact ⟨by unfold nmdB; rw [this.1.1, this.1.2]; rfl, this.2⟩
    rw [Bool.and_eq_true, List.all_eq_true, dupB_no (fun i s e => (h2 i s e).2)]
    refine ⟨fun s hs => ?_, rfl⟩
    obtain ⟨i, hi⟩ := List.getElem?_of_mem hs
    exact (h2 i s hi).1
  · intro h
    rw [Bool.and_eq_true, List.all_eq_true, Bool.not_eq_true'] at h
    refine namesB_yes fun j hj => ?_
    rw [okAt_some (List.getElem?_eq_getElem hj)]
    have h1 := h.1 _ (List.getElem_mem hj)
    have h2 : Lib.containsS (ss.take j) ss[j] = false := by
      cases hx : Lib.containsS (ss.take j) ss[j]
      · rfl
      · rw [dupB_yes (List.getElem?_eq_getElem hj) hx] at h; simp at h
    unfold nmdB at h1
    rw [h1, h2]
    rfl
theorem contains_take {ss : List ByteArray} {i : Nat} {s x : ByteArray} (e : ss[i]? = some s) : Lib.containsS (ss.take (i + 1)) x = (Lib.containsS (ss.take i) x || decide (x = s)) := by
  rw [Bool.eq_iff_iff, Bool.or_eq_true, Lib.containsS_iff, Lib.containsS_iff, List.take_add_one, e]
  simp
theorem toList_inj {x y : ByteArray} : (x.toList == y.toList) = decide (x = y) := by
  rw [Bool.eq_iff_iff, beq_iff_eq, decide_eq_true_eq, ByteArray.toList_eq, ByteArray.toList_eq]
  constructor
  · intro h; cases x; cases y; simp_all
  · rintro rfl; rfl
set_option maxRecDepth 100000 in
set_option maxHeartbeats 1000000 in
theorem refTwice (w : World) (a : Option Addr) (n cap : Nat) (ss : List ByteArray) (hn : n = ss.length) (hn2 : n ≤ 1000000) (d : SRd w a ss) : Calls Tryz.prog 67 #[.slice a n cap] w fun e w' => e = .returned (.bool (dupB ss)) ∧ Below w.heap.size w w' := by
  have hn2' : (n : Int) ≤ 1000000 := by omega
  have D := hid d
  have Hn := hid hn
  clear hn d
  go_enter Tryz.func67, Tryz.ntmps67
  go_wp2
  go_loopg [3] n (fun g ii wr => ∃ i : Nat, i + g = n ∧ ii = .int .i64 (i : Int) ∧ Below w.heap.size w wr ∧ ∀ j s, j < i → ss[j]? = some s → Lib.containsS (ss.take j) s = false)
  case atStart => exact ⟨0, by omega, rfl, Below.refl _ _, fun j s h => by omega⟩
  case round =>
    obtain ⟨i, hi, rfl, hbr, hno⟩ := hrel
    obtain ⟨wo, hwo⟩ : ∃ wo, wo = wr := ⟨_, rfl⟩
    subst hwo
    have HB := hid hbr
    have HN := hid hno
    clear hbr hno
    cases gk with
    | zero =>
      have hin : i = n := by omega
      subst hin
      clear hi
      go_wp2
      go_ret
      refine ⟨?_, HB.out⟩
      rw [dupB_no (fun j s e => HN.out j s (by rw [Hn.out]; exact (List.getElem?_eq_some_iff.1 e).1) e)]
      rfl
    | succ gi =>
      have hlt0 : i < n := by omega
      have hlt : (i : Int) < (n : Int) := by omega
      obtain ⟨s, hs⟩ : ∃ s, ss[i]? = some s := ⟨ss[i]'(by rw [← Hn.out]; exact hlt0), List.getElem?_eq_getElem _⟩
      have Hs := hid hs
      have Hi := hid hi
      clear hs hi
      go_wp2
      go_loopg [4] i (fun g kk wx => ∃ k : Nat, k + g = i ∧ kk = .int .i64 (k : Int) ∧ Below w.heap.size w wx ∧ Lib.containsS (ss.take k) s = false)
      case atStart => exact ⟨0, by omega, rfl, HB.out, rfl⟩
      case round =>
        obtain ⟨k, hk, rfl, hbk, hck⟩ := hrel
        have HCK := hid hck
        have HBK := hid hbk
        clear hck
        cases gk with
        | zero =>
          have hki : k = i := by omega
          subst hki
          clear hk hbk
          go_wp2
          go_roundg gi
          case measure => omega
          case rel => exact ⟨k + 1, by have := Hi.out; omega, by go_num, HBK.out, fun j s' hj e => by
            rcases Nat.lt_or_ge j k with h | h
            · exact HN.out j s' h e
            · obtain rfl : j = k := by omega
              rw [Hs.out] at e; cases e; exact HCK.out⟩
        | succ gj =>
          have hklt : k < i := by omega
          have hklt' : (k : Int) < (i : Int) := by omega
          have hkn : (k : Int) < (n : Int) := by omega
          obtain ⟨t, ht⟩ : ∃ t, ss[k]? = some t := ⟨ss[k]'(by rw [← Hn.out]; omega), List.getElem?_eq_getElem _⟩
          obtain ⟨_, b, off, ea, hc1⟩ := (D.out.below (Nat.le_refl _) hbk) i s Hs.out
          subst ea
          obtain ⟨_, b', off', ea, hc2⟩ := (D.out.below (Nat.le_refl _) hbk) k t ht
          cases ea
          have hmore := contains_take (x := s) ht
          have Hk := hid hk
          have HMo := hid hmore
          have Ht := hid ht
          clear hk hbk hmore ht
          cases heq : (s.toList == t.toList)
          · have Heq := hid heq
            go_wp2
            go_region_held3 (fun w2 => w2.cell? ⟨b, off + i, none⟩ = some (.string s) ∧ w2.cell? ⟨b, off + k, none⟩ = some (.string t)) (first | go_keep) (fail)
            go_wp2
            go_roundg gj
            case measure => omega
            case rel => exact ⟨k + 1, by have := Hk.out; omega, by go_num, HBK.out.trans (((Below.refl _ wr).drew).mono HBK.out.size), by rw [HMo.out, HCK.out, ← toList_inj, Heq.out]; rfl⟩
          · have Heq := hid heq
            have Hkl := hid hklt
            go_wp2
            go_region_held3 (fun w2 => w2.cell? ⟨b, off + i, none⟩ = some (.string s) ∧ w2.cell? ⟨b, off + k, none⟩ = some (.string t)) (first | go_keep) (fail)
            go_wp2
            go_ret
            refine ⟨?_, HBK.out.trans (((Below.refl _ wr).drew).mono HBK.out.size)⟩
            rw [dupB_yes Hs.out (by
              rw [Lib.containsS_iff]
              have e2 := Heq.out
              rw [toList_inj, decide_eq_true_eq] at e2
              rw [e2]
              exact List.mem_of_getElem? (i := k) (by rw [List.getElem?_take, if_pos Hkl.out]; exact Ht.out))]
            rfl
set_option maxRecDepth 100000 in
theorem refIsType (w : World) (h : PH) (k r : Int) (hn : h.rn ≤ 9223372036854775807) :
    Calls Tryz.prog 68 #[h.v, ty k r] w fun e w' => e = .returned (.bool (typB h.rn (k, r))) ∧ Below w.heap.size w w' := by
  obtain ⟨ra, rn, rc, ma, mn, mc, fa, fn, fc, ea, en, ec⟩ := h
  simp only [PH.v, ty] at hn ⊢
  have hb := two_boxes w #[.slice ra rn rc, .slice ma mn mc, .slice fa fn fc, .slice ea en ec] #[.int .i64 k, .int .i64 r] 26 46
  by_cases h4 : k = 4
  · subst h4
    have ht : typB rn (4, r) = (decide (0 ≤ r) && decide (r < (rn : Int))) := by simp [typB]
    rw [ht]
    clear ht
    go_enter Tryz.func68, Tryz.ntmps68
    go_wp2
    all_goals (go_ret; exact ⟨ret_boolG (by simp; try omega), hb⟩)
  · have ht : typB rn (k, r) = simB (k, r) := by simp [typB, h4]
    rw [ht]
    clear ht
    by_cases h1 : 1 ≤ k
    · by_cases h3 : k ≤ 3
      · by_cases hr : r = 0
        · subst hr
          go_enter Tryz.func68, Tryz.ntmps68
          go_wp2
          all_goals (go_ret; exact ⟨ret_boolG (by simp [simB]; try omega), hb⟩)
        · have hr' : (r == 0) = false := by simpa using hr
          go_enter Tryz.func68, Tryz.ntmps68
          go_wp2
          all_goals (go_ret; exact ⟨ret_boolG (by simp [simB]; try omega), hb⟩)
      · go_enter Tryz.func68, Tryz.ntmps68
        go_wp2
        all_goals (go_ret; exact ⟨ret_boolG (by simp [simB]; try omega), hb⟩)
    · go_enter Tryz.func68, Tryz.ntmps68
      go_wp2
      all_goals (go_ret; exact ⟨ret_boolG (by simp [simB]; try omega), hb⟩)
end Go.Proofs.YthnolocldeokeaaGreat

namespace Go.Proofs.YthnolocldeokeaaGreat
set_option maxRecDepth 100000
open Go.RowKit Go.Deep Go.Shelf
set_option linter.unusedVariables false
set_option linter.unusedSimpArgs false

theorem bel_drewN {B : Nat} {a w : World} (h : Below B a w) (n : Nat) : Below B a (w.drewN n) := h.trans ⟨rfl, rfl, rfl, Nat.le_refl _, fun _ _ => rfl⟩
theorem run_appN1 (w : World) (ty : TypeId) (B : Nat) (v : Value) (ss : List ByteArray) (s : ByteArray) (hr : NRow w B v ss) (hB : B ≤ w.heap.size) (hl : ss.length ≤ 1000) :
    ∃ v' w', (Builtin.append_ #[28, 28] ty #[v, .slice (some ⟨w.heap.size, 0, none⟩) 1 1]).run Tryz.prog (w.alloc (.cells #[.string s] 9)) = .ok v' w' ∧ NRow w' B v' (ss ++ [s]) ∧ Grw w v w' v' := by
  obtain ⟨i0, hi, hz0, hz1, hz2⟩ := info_parts info9
  have hr2 : NRow (w.alloc (.cells #[.string s] 9)) B v ss := hr.below ((Below.refl _ w).alloc (Nat.le_refl _) _)
  obtain ⟨v', w', hrun, hown, hgr, _, hat⟩ := run_append_own_at (P := Tryz.prog) (w.alloc (.cells #[.string s] 9)) B 28 ty 9 i0 (.string ⟨#[]⟩) 1 16 Tryz.underlying28 hi hz0 hz1 hz2 rfl (by decide) v ss.length (ss.map strV) hr2 ⟨w.heap.size, 0, none⟩ 1 1 [.string s] rfl (by
    intro j u hu
    exact World.news_of_block (heap_alloc_new w _) j u (by simpa using hu)) (by intro u hu; simp at hu; subst hu; rfl) (by unfold maxLen; omega) (by omega) (by simp; omega)
  refine ⟨v', w', hrun, NRow.snoc hown, (World.grownBy_alloc w _ _).trans hgr, ?_⟩
  rcases hat with hat | hat
  · exact .inl hat
  · exact .inr ⟨_, hat, by simp⟩
theorem wpList_appN1 {ops : Array Oper} {rest : List Oper} {o : Oper} {a : Act} {Q : Exit → Act → World → Prop} (w : World) (hgd : o.guard = none) (sl x : Operand)
    (ho : o.op = .call { callee := .builtin .append, args := #[sl, x], argTypes := #[28, 28] }) (v : Value) (s : ByteArray) (hs : a.eval sl = v) (hx : a.eval x = .slice (some ⟨w.heap.size, 0, none⟩) 1 1)
    (B : Nat) (ss : List ByteArray) (hr : NRow w B v ss) (hB : B ≤ w.heap.size) (hl : ss.length ≤ 1000)
    (k : ∀ v' w', NRow w' B v' (ss ++ [s]) → Grw w v w' v' → wpList Tryz.prog ops Q rest (a.put o.dst v') w') :
    wpList Tryz.prog ops Q (o :: rest) a (w.alloc (.cells #[.string s] 9)) := by
  refine wpList_plain hgd fun K hK => ?_
  obtain ⟨v', w', hrun, h2, h3⟩ := run_appN1 w o.type B v ss s hr hB hl
  unfold Oper.wp execOp
  simp only [ho, resolve, invoke, builtin, Sem.run_bind, Sem.run_pure, Result.andThen_ok, List.map_toArray, List.map_cons, List.map_nil, hs, hx, hrun]
  exact hK _ _ (k v' w' h2 h3)
theorem Grw.belowN {w0 w w' : World} {v v' : Value} {B C : Nat} (hb : Below B w0 w) (h : Grw w v w' v') (hv : ∀ k, v.ownBlock = some k → C ≤ k) (hC : B ≤ C) (hB : B ≤ w.heap.size) : Below B w0 w' :=
  ⟨h.1.os.trans hb.os, h.1.tape.trans hb.tape, h.1.output.trans hb.output, Nat.le_trans hb.size h.1.size, fun j hj => (h.1.block j (by omega) (fun e => by have := hv j e.symm; omega)).trans (hb.block j hj)⟩
/- A signature that may be. -/
def sgE (rs : Bool) (n : Nat) (s : Sg) : Bool := nmdB false s.name && sigB n s && (rs || noneB s.res)
def sgsR (rs : Bool) (n : Nat) (ss : List Sg) : Bool := decide (ss.length ≤ 16) && ss.all (sgE rs n) && !dupB (ss.map Sg.name)
theorem sgs_eq (rs : Bool) (n : Nat) (ss : List Sg) : sgsR rs n ss = (sigsB n ss && (rs || nothingB ss)) := by
  unfold sgsR sigsB nothingB
  have h := namesB_split false (ss.map Sg.name)
  rw [if_neg (by decide)] at h
  rw [h]
  have e : ss.all (sgE rs n) = (ss.all (fun s => nmdB false s.name) && ss.all (sigB n) && ss.all (fun s => rs || noneB s.res)) := by
    rw [Bool.eq_iff_iff]
    simp only [Bool.and_eq_true, List.all_eq_true, sgE]
    exact ⟨fun h => ⟨⟨fun s hs => (h s hs).1.1, fun s hs => (h s hs).1.2⟩, fun s hs => (h s hs).2⟩, fun h s hs => ⟨⟨h.1.1 s hs, h.1.2 s hs⟩, h.2 s hs⟩⟩
  rw [e, List.all_map]
  have hc : ss.all (nmdB false ∘ Sg.name) = ss.all (fun s => nmdB false s.name) := rfl
  have ht : ss.all (fun s => true || noneB s.res) = true := by rw [List.all_eq_true]; intro s _; rfl
  rw [hc]
  cases rs
  · have hf : ss.all (fun s => false || noneB s.res) = ss.all (fun s => noneB s.res) := rfl
    rw [hf]
    generalize decide (ss.length ≤ 16) = A
    generalize ss.all (fun s => nmdB false s.name) = B
    generalize ss.all (sigB n) = C
    generalize ss.all (fun s => noneB s.res) = D
    generalize dupB (ss.map Sg.name) = E
    cases A <;> cases B <;> cases C <;> cases D <;> cases E <;> rfl
  · rw [ht]
    generalize decide (ss.length ≤ 16) = A
    generalize ss.all (fun s => nmdB false s.name) = B
    generalize ss.all (sigB n) = C
    generalize dupB (ss.map Sg.name) = E
    cases A <;> cases B <;> cases C <;> cases E <;> rfl
theorem sgs_no {rs : Bool} {n : Nat} {ss : List Sg} {s : Sg} (hs : s ∈ ss) (h : sgE rs n s = false) : sgsR rs n ss = false := by
  unfold sgsR
  have : ss.all (sgE rs n) = false := by rw [List.all_eq_false]; exact ⟨s, hs, by simp [h]⟩
  rw [this]; simp
set_option maxRecDepth 100000 in
set_option maxHeartbeats 4000000 in
theorem refSigs (w : World) (h : PH) (a : Option Addr) (n cap : Nat) (rs : Bool) (gs : List (GH × Sg)) (d : GRd w a n gs) (hrn : h.rn ≤ 9223372036854775807) :
    Calls Tryz.prog 69 #[h.v, .slice a n cap, .bool rs] w fun e w' => e = .returned (.bool (sgsR rs h.rn (gs.map (·.2)))) ∧ Below w.heap.size w w' := by
  have D := hid d
  have hn2 := d.n2
  have Hn := hid d.n1
  have KT := hid (fun w' k r => refIsType w' h k r hrn)
  have KN := hid (fun s w' => refNamed s false w')
  obtain ⟨res, hres⟩ : ∃ res, res = sgsR rs h.rn (gs.map (·.2)) := ⟨_, rfl⟩
  rw [← hres]
  have Hres := hid hres
  clear d hres
  obtain ⟨ra, rn, rc, ma, mn, mc, fa, fn, fc, ea, en, ec⟩ := h
  simp only [PH.v, ty] at KT ⊢
  have hb0 : Below w.heap.size w (w.alloc (.cells #[.slice ra rn rc, .slice ma mn mc, .slice fa fn fc, .slice ea en ec] 26)) := (Below.refl _ _).alloc (Nat.le_refl _) _
  have bx0 : (w.alloc (.cells #[.slice ra rn rc, .slice ma mn mc, .slice fa fn fc, .slice ea en ec] 26)).heap[w.heap.size]? = some (.cells #[.slice ra rn rc, .slice ma mn mc, .slice fa fn fc, .slice ea en ec] 26 (0, 0)) := heap_alloc_new w _
  have HB0 := hid hb0
  have HX0 := hid bx0
  clear hb0 bx0
  rcases Nat.lt_or_ge 16 n with h1 | h1
  · have hF : res = false := by
      rw [Hres.out]; unfold sgsR
      have : ¬ (gs.map (·.2)).length ≤ 16 := by rw [List.length_map, ← Hn.out]; omega
      rw [decide_eq_false this]; rfl
    have HF := hid hF
    clear hF
    go_enter Tryz.func69, Tryz.ntmps69
    go_wp2
    go_ret
    exact ⟨by rw [HF.out]; rfl, HB0.out⟩
  · have h1' : (n : Int) ≤ 16 := by omega
    go_enter Tryz.func69, Tryz.ntmps69
    go_wp2
    go_loopg [7, 8] n (fun g nv ii wr => ∃ i : Nat, i + g = n ∧ ii = .int .i64 (i : Int) ∧ Below w.heap.size w wr ∧ wr.heap[w.heap.size]? = some (.cells #[.slice ra rn rc, .slice ma mn mc, .slice fa fn fc, .slice ea en ec] 26 (0, 0)) ∧ NRow wr (w.heap.size + 1) nv ((gs.take i).map fun p => p.2.name) ∧ ∀ p ∈ gs.take i, sgE rs rn p.2 = true)
    case atStart => exact ⟨0, by omega, rfl, HB0.out, HX0.out, NRow.nil _ _, fun p hp => by simp at hp⟩
    case round =>
      obtain ⟨i, hi', rfl, hbe, hbx, hrow, hAc⟩ := hrel
      obtain ⟨wo, hwo⟩ : ∃ wo, wo = wr := ⟨_, rfl⟩
      subst hwo
      have Hi := hid hi'
      have Hbe := hid hbe
      have HAc := hid hAc
      have Hrow := hid hrow
      have Hbx := hid hbx
      obtain ⟨na, ncap, rfl, hnc⟩ := hrow.form
      have hlx : w.heap.size < wo.heap.size := (Array.getElem?_eq_some_iff.1 hbx).1
      clear hAc hbe hrow hbx
      have hlen : ((gs.take i).map fun p => p.2.name).length = i := by rw [List.length_map, List.length_take, ← Hn.out]; omega
      rw [hlen] at Hrow hnc ⊢
      clear hlen
      cases gk with
      | zero =>
        have hin : i = n := by omega
        clear hi'
        subst hin
        have hall : gs.take i = gs := by rw [Hn.out]; exact List.take_length
        have K := hid (refTwice wo na i ncap (gs.map fun p => p.2.name) (by rw [List.length_map]; exact Hn.out) (by omega) (by
          have h := Hrow.out; rw [hall] at h
          exact h.rd (fun s hs => by
            rw [List.mem_map] at hs
            obtain ⟨p, hp, rfl⟩ := hs
            have := (D.out.el p hp).ns; rw [(D.out.el p hp).nm] at this; exact this)))
        have hval : res = !dupB (gs.map fun p => p.2.name) := by
          rw [Hres.out]; unfold sgsR
          have e1 : (gs.map (·.2)).length ≤ 16 := by rw [List.length_map, ← Hn.out]; exact h1
          have e2 : (gs.map (·.2)).all (sgE rs rn) = true := by
            rw [List.all_eq_true]; intro r hr
            rw [List.mem_map] at hr
            obtain ⟨p, hp, rfl⟩ := hr
            exact HAc.out p (by rw [hall]; exact hp)
          rw [decide_eq_true e1, e2, List.map_map]; rfl
        have Hval := hid hval
        generalize dupB (gs.map fun p => p.2.name) = dd at *
        clear hval hall
        go_wp2_with (go_at_call 67; (refine (Hid.out K).mono ?_; rintro e w2 ⟨rfl, hb2⟩))
        go_ret
        exact ⟨by rw [Hval.out]; rfl, Hbe.out.trans (hb2.mono Hbe.out.size)⟩
      | succ g =>
        have hlt : i < n := by omega
        have hlt' : (i : Int) < (n : Int) := by omega
        clear hi'
        obtain ⟨p, hp⟩ : ∃ p, gs[i]? = some p := ⟨gs[i]'(by rw [← Hn.out]; exact hlt), by rw [List.getElem?_eq_getElem]⟩
        have DW := D.out.below (Nat.le_refl _) Hbe.out
        have el := DW.el p (List.mem_of_getElem? hp)
        obtain ⟨b1, o1, rfl, hb1, e1⟩ := DW.rd i p.1.cs (by simp [hp])
        have x0 := e1 0 (by omega)
        have x1 := e1 1 (by omega)
        have x2 := e1 2 (by omega)
        have x3 := e1 3 (by omega)
        have Hp := hid hp
        have Hel := hid el
        have Hnm := hid el.nm
        have Hpn := hid el.pn
        have hp2 := el.p2
        have Hrs := hid el.rs
        have Hb1 := hid hb1
        have HNo : Hid (sgE rs rn p.2 = false → res = false) := hid (fun e => by rw [Hres.out]; exact sgs_no (List.mem_map.2 ⟨p, List.mem_of_getElem? hp, rfl⟩) e)
        clear e1 DW el hp hb1
        obtain ⟨h, s⟩ := p
        obtain ⟨nm, pa, pn, pc, k, r⟩ := h
        simp only [GH.cs, List.getElem?_cons_zero, List.getElem?_cons_succ, Nat.add_zero] at x0 x1 x2 x3 hp2
        simp only at HNo
        have HX : Hid (∀ wz : World, Below wo.heap.size wo wz → wz.cell? ⟨b1, o1 + i * 4, none⟩ = some (.string nm) ∧ wz.cell? ⟨b1, o1 + i * 4 + 1, none⟩ = some (.slice pa pn pc) ∧ wz.cell? ⟨b1, o1 + i * 4 + 2, none⟩ = some (.int .i64 k) ∧ wz.cell? ⟨b1, o1 + i * 4 + 3, none⟩ = some (.int .i64 r)) := hid (fun wz hb =>
          ⟨(hb.cell (p := ⟨b1, o1 + i * 4, none⟩) Hb1.out).trans x0, (hb.cell (p := ⟨b1, o1 + i * 4 + 1, none⟩) Hb1.out).trans x1, (hb.cell (p := ⟨b1, o1 + i * 4 + 2, none⟩) Hb1.out).trans x2, (hb.cell (p := ⟨b1, o1 + i * 4 + 3, none⟩) Hb1.out).trans x3⟩)
        have c1 := KN.out nm wo
        have hnm : nm = s.name := Hnm.out
        cases q1 : nmdB false nm
        · rw [q1] at c1
          have HF : Hid (res = false) := hid (HNo.out (by unfold sgE; rw [← hnm, q1]; rfl))
          clear q1 hnm
          go_wp2_with (go_at_call 66; refine c1.mono ?_; rintro e wo ⟨rfl, rfl⟩)
          go_ret
          exact ⟨by rw [HF.out]; rfl, Hbe.out⟩
        · rw [q1] at c1
          have Hq1 := hid q1
          clear q1
          have hsp : pn = s.params.length := Hpn.out
          rcases Nat.lt_or_ge 12 pn with h12 | h12
          · have h12' : (12 : Int) < (pn : Int) := by omega
            have HF : Hid (res = false) := hid (HNo.out (by unfold sgE sigB; rw [decide_eq_false (by omega)]; simp))
            clear hnm hsp
            go_wp2_with (go_at_call 66; refine c1.mono ?_; rintro e wo ⟨rfl, rfl⟩)
            go_ret
            exact ⟨by rw [HF.out]; rfl, Hbe.out⟩
          · have h12' : (pn : Int) ≤ 12 := by omega
            have Hsp := hid hsp
            have Hnm2 := hid hnm
            clear hnm hsp
            go_wp2_with (go_at_call 66; refine c1.mono ?_; rintro e wo ⟨rfl, rfl⟩)
            clear x0 x1 x2 x3
            go_loopg [9] pn (fun g2 jj wx => ∃ j : Nat, j + g2 = pn ∧ jj = .int .i64 (j : Int) ∧ Below wo.heap.size wo wx ∧ ∀ t ∈ s.params.take j, typB rn t = true)
            case atStart => exact ⟨0, by omega, rfl, Below.refl _ _, fun t ht => by simp at ht⟩
            case round =>
              obtain ⟨j, hj', rfl, hbj, hAj⟩ := hrel
              have hbx2 := (hbj.block _ hlx).trans Hbx.out
              obtain ⟨y0, y1, y2, y3⟩ := HX.out wr hbj
              have k0 := cellOf hbx2 0
              have k1 := cellOf hbx2 1
              have k2 := cellOf hbx2 2
              have k3 := cellOf hbx2 3
              simp only [List.getElem?_toArray, List.getElem?_cons_zero, List.getElem?_cons_succ] at k0 k1 k2 k3
              have HAj := hid hAj
              have HBJ := hid hbj
              have Hbx2 := hid hbx2
              have hwrb : Below w.heap.size w wr := Hbe.out.trans (hbj.mono Hbe.out.size)
              have HWB := hid hwrb
              have hrow2 := Hrow.out.below hbj
              have Hrow2 := hid hrow2
              have Hj := hid hj'
              have hwsz : w.heap.size + 1 ≤ wr.heap.size := by have := hbj.size; omega
              cases gk with
              | succ g2 =>
                have hjlt : j < pn := by omega
                have hjlt' : (j : Int) < (pn : Int) := by omega
                obtain ⟨t, ht⟩ : ∃ t, s.params[j]? = some t := ⟨s.params[j]'(by rw [← Hsp.out]; exact hjlt), by rw [List.getElem?_eq_getElem]⟩
                obtain ⟨b3, o3, epa, t0, t1⟩ := (Hel.out.below (Nat.le_refl _) hbj).pr j t ht
                simp only at epa
                subst epa
                obtain ⟨tk, tr⟩ := t
                simp only at t0 t1
                have Ht := hid ht
                have cT := hid (fun wz => KT.out wz tk tr)
                clear hj' hbj hAj hbx2 hwrb hrow2 ht
                cases q2 : typB rn (tk, tr)
                · simp only [q2] at cT
                  have HF : Hid (res = false) := hid (HNo.out (by
                    unfold sgE sigB
                    have : s.params.all (typB rn) = false := by rw [List.all_eq_false]; exact ⟨(tk, tr), List.mem_of_getElem? Ht.out, by simp [q2]⟩
                    rw [this]; simp))
                  clear q2
                  go_wp2
                  go_region_held3 (fun wz => wz.cell? ⟨w.heap.size, 0, none⟩ = some (.slice ra rn rc) ∧ wz.cell? ⟨w.heap.size, 1, none⟩ = some (.slice ma mn mc) ∧ wz.cell? ⟨w.heap.size, 2, none⟩ = some (.slice fa fn fc) ∧ wz.cell? ⟨w.heap.size, 3, none⟩ = some (.slice ea en ec) ∧ wz.cell? ⟨b1, o1 + i * 4 + 1, none⟩ = some (.slice (some ⟨b3, o3, none⟩) pn pc) ∧ wz.cell? ⟨b3, o3 + j * 2, none⟩ = some (.int .i64 tk) ∧ wz.cell? ⟨b3, o3 + j * 2 + 1, none⟩ = some (.int .i64 tr)) (first | exact ⟨tt _ _ k0, tt _ _ k1, tt _ _ k2, tt _ _ k3, tt _ _ y1, tt _ _ t0, tt _ _ t1⟩ | go_keep) ((go_at_call 68; (refine (cT.out _).mono ?_; rintro e w9 ⟨rfl, hB9⟩; have tt : ∀ (p : Addr) (v : Value), wr.cell? p = some v → w9.cell? p = some v := fun p v h => (hB9.cell (p := p) (World.block_lt_of_cell? wr p h)).trans h)))
                  have Htt := hid tt
                  clear tt
                  go_wp2
                  go_ret
                  exact ⟨by rw [HF.out]; rfl, HWB.out.drew.trans (hB9.mono HWB.out.size)⟩
                · simp only [q2] at cT
                  have Hq2 := hid q2
                  clear q2
                  go_wp2
                  go_region_held3 (fun wz => wz.cell? ⟨w.heap.size, 0, none⟩ = some (.slice ra rn rc) ∧ wz.cell? ⟨w.heap.size, 1, none⟩ = some (.slice ma mn mc) ∧ wz.cell? ⟨w.heap.size, 2, none⟩ = some (.slice fa fn fc) ∧ wz.cell? ⟨w.heap.size, 3, none⟩ = some (.slice ea en ec) ∧ wz.cell? ⟨b1, o1 + i * 4 + 1, none⟩ = some (.slice (some ⟨b3, o3, none⟩) pn pc) ∧ wz.cell? ⟨b3, o3 + j * 2, none⟩ = some (.int .i64 tk) ∧ wz.cell? ⟨b3, o3 + j * 2 + 1, none⟩ = some (.int .i64 tr)) (first | exact ⟨tt _ _ k0, tt _ _ k1, tt _ _ k2, tt _ _ k3, tt _ _ y1, tt _ _ t0, tt _ _ t1⟩ | go_keep) ((go_at_call 68; (refine (cT.out _).mono ?_; rintro e w9 ⟨rfl, hB9⟩; have tt : ∀ (p : Addr) (v : Value), wr.cell? p = some v → w9.cell? p = some v := fun p v h => (hB9.cell (p := p) (World.block_lt_of_cell? wr p h)).trans h)))
                  have Htt := hid tt
                  clear tt
                  go_wp2
                  go_roundg g2
                  case measure => omega
                  case rel => exact ⟨j + 1, by have := Hj.out; omega, by go_num, HBJ.out.drew.trans (hB9.mono HBJ.out.size), take_acc Ht.out HAj.out Hq2.out⟩
              | zero =>
                have hjn : j = pn := by omega
                subst hjn
                have hpall : s.params.all (typB rn) = true := by
                  rw [List.all_eq_true]; intro t ht
                  exact hAj t (by rw [Hsp.out, List.take_length]; exact ht)
                have HPA := hid hpall
                have hsr : (k, r) = s.res := Hrs.out
                have Hsr := hid hsr
                have Hfin : Hid (∀ v4 w4 wq, sgE rs rn s = true → Below wr.heap.size wr wq → NRow w4 (w.heap.size + 1) v4 (((gs.take i).map fun p => p.2.name) ++ [nm]) → Grw wq (.slice na i ncap) w4 v4 → ∃ i' : Nat, i' + g = n ∧ Value.int .i64 ((i : Int) + 1) = .int .i64 (i' : Int) ∧ Below w.heap.size w w4 ∧ w4.heap[w.heap.size]? = some (.cells #[.slice ra rn rc, .slice ma mn mc, .slice fa fn fc, .slice ea en ec] 26 (0, 0)) ∧ NRow w4 (w.heap.size + 1) v4 ((gs.take i').map fun p => p.2.name) ∧ ∀ p ∈ gs.take i', sgE rs rn p.2 = true) := hid (fun v4 w4 wq hs hbq hr4 hg4 => by
                  have hown : ∀ k, (Value.slice na i ncap).ownBlock = some k → w.heap.size + 1 ≤ k := fun k e => (Hrow2.out.own k e).1
                  have hbwq : Below w.heap.size w wq := HWB.out.trans (hbq.mono HWB.out.size)
                  refine ⟨i + 1, by have := Hi.out; omega, by simp, Grw.belowN hbwq hg4 hown (by omega) hbwq.size, ?_, ?_, take_acc Hp.out HAc.out hs⟩
                  · rw [hg4.1.block _ (by have := hbq.size; omega) (fun e => by have := hown _ e.symm; omega), hbq.block _ (by omega)]
                    exact Hbx2.out
                  · rw [take_map_snoc _ Hp.out, show s.name = nm from Hnm2.out.symm]; exact hr4)
                have HSE : Hid (sgE rs rn s = ((noneB (k, r) || typB rn (k, r)) && (rs || noneB (k, r)))) := hid (by
                  unfold sgE sigB
                  rw [← Hnm2.out, Hq1.out, HPA.out, ← Hsr.out, decide_eq_true (show s.params.length ≤ 12 by have := Hsp.out; omega)]
                  simp)
                have cT := hid (fun wz => KT.out wz k r)
                have hal : Hid ((((gs.take i).map fun p => p.2.name)).length ≤ 1000) := hid (by rw [List.length_map, List.length_take]; omega)
                clear hj' hbj hAj hbx2 hwrb hrow2 hpall hsr
                by_cases hkz : k = 0
                · subst hkz
                  by_cases hrz : r = 0
                  · subst hrz
                    have HSE2 : Hid (sgE rs rn s = true) := hid (by rw [HSE.out]; simp [noneB])
                    go_wp2
                    go_quiet (fail)
                    go_wp2_with (at_builtin; refine wpList_appN1 _ rfl _ _ rfl _ nm (by rfl) (by rfl) (w.heap.size + 1) ((gs.take i).map fun p => p.2.name) (Hrow2.out.below (bel_drewN (Below.refl _ wr) _)) hwsz hal.out ?_; intro v4 w4 hr4 hg4)
                    go_roundg g
                    case measure => omega
                    case rel => exact Hfin.out v4 w4 _ HSE2.out (bel_drewN (Below.refl _ wr) _) hr4 hg4
                  · have hrb : (r == 0) = false := by simpa using hrz
                    cases rs
                    · have HF : Hid (res = false) := hid (HNo.out (by rw [HSE.out]; simp [noneB, hrz]))
                      go_wp2
                      go_quiet (fail)
                      go_wp2
                      go_ret
                      exact ⟨by rw [HF.out]; rfl, bel_drewN HWB.out _⟩
                    · cases q2 : typB rn (0, r)
                      · simp only [q2] at cT
                        have HF : Hid (res = false) := hid (HNo.out (by rw [HSE.out, q2]; simp [noneB, hrz]))
                        clear q2
                        go_wp2
                        go_region_held3 (fun wz => wz.cell? ⟨w.heap.size, 0, none⟩ = some (.slice ra rn rc) ∧ wz.cell? ⟨w.heap.size, 1, none⟩ = some (.slice ma mn mc) ∧ wz.cell? ⟨w.heap.size, 2, none⟩ = some (.slice fa fn fc) ∧ wz.cell? ⟨w.heap.size, 3, none⟩ = some (.slice ea en ec) ∧ wz.cell? ⟨b1, o1 + i * 4 + 2, none⟩ = some (.int .i64 0) ∧ wz.cell? ⟨b1, o1 + i * 4 + 3, none⟩ = some (.int .i64 r)) (first | exact ⟨tt _ _ k0, tt _ _ k1, tt _ _ k2, tt _ _ k3, tt _ _ y2, tt _ _ y3⟩ | go_keep) ((go_at_call 68; (refine (cT.out _).mono ?_; rintro e w9 ⟨rfl, hB9⟩; have tt : ∀ (p : Addr) (v : Value), wr.cell? p = some v → w9.cell? p = some v := fun p v h => (hB9.cell (p := p) (World.block_lt_of_cell? wr p h)).trans h)))
                        have Htt := hid tt
                        clear tt
                        go_wp2
                        go_ret
                        exact ⟨by rw [HF.out]; rfl, HWB.out.drew.trans (hB9.mono HWB.out.size)⟩
                      · simp only [q2] at cT
                        have HSE2 : Hid (sgE true rn s = true) := hid (by rw [HSE.out, q2]; simp)
                        clear q2
                        go_wp2
                        go_region_held3 (fun wz => wz.cell? ⟨w.heap.size, 0, none⟩ = some (.slice ra rn rc) ∧ wz.cell? ⟨w.heap.size, 1, none⟩ = some (.slice ma mn mc) ∧ wz.cell? ⟨w.heap.size, 2, none⟩ = some (.slice fa fn fc) ∧ wz.cell? ⟨w.heap.size, 3, none⟩ = some (.slice ea en ec) ∧ wz.cell? ⟨b1, o1 + i * 4 + 2, none⟩ = some (.int .i64 0) ∧ wz.cell? ⟨b1, o1 + i * 4 + 3, none⟩ = some (.int .i64 r)) (first | exact ⟨tt _ _ k0, tt _ _ k1, tt _ _ k2, tt _ _ k3, tt _ _ y2, tt _ _ y3⟩ | go_keep) ((go_at_call 68; (refine (cT.out _).mono ?_; rintro e w9 ⟨rfl, hB9⟩; have tt : ∀ (p : Addr) (v : Value), wr.cell? p = some v → w9.cell? p = some v := fun p v h => (hB9.cell (p := p) (World.block_lt_of_cell? wr p h)).trans h)))
                        have z0 := tt _ _ y0
                        have Htt := hid tt
                        clear tt
                        go_wp2_with (at_builtin; refine wpList_appN1 _ rfl _ _ rfl _ nm (by rfl) (by rfl) (w.heap.size + 1) ((gs.take i).map fun p => p.2.name) (Hrow2.out.below ((Below.refl _ wr).drew.trans (hB9.mono (Nat.le_refl _)))) (Nat.le_trans hwsz ((Below.refl _ wr).drew.trans (hB9.mono (Nat.le_refl _))).size) hal.out ?_; intro v4 w4 hr4 hg4)
                        go_roundg g
                        case measure => omega
                        case rel => exact Hfin.out v4 w4 _ HSE2.out ((Below.refl _ wr).drew.trans (hB9.mono (Nat.le_refl _))) hr4 hg4
                · have hkb : (k == 0) = false := by simpa using hkz
                  cases rs
                  · have HF : Hid (res = false) := hid (HNo.out (by rw [HSE.out]; simp [noneB, hkz]))
                    go_wp2
                    go_quiet (fail)
                    go_wp2
                    go_ret
                    exact ⟨by rw [HF.out]; rfl, bel_drewN HWB.out _⟩
                  · cases q2 : typB rn (k, r)
                    · simp only [q2] at cT
                      have HF : Hid (res = false) := hid (HNo.out (by rw [HSE.out, q2]; simp [noneB, hkz]))
                      clear q2
                      go_wp2
                      go_region_held3 (fun wz => wz.cell? ⟨w.heap.size, 0, none⟩ = some (.slice ra rn rc) ∧ wz.cell? ⟨w.heap.size, 1, none⟩ = some (.slice ma mn mc) ∧ wz.cell? ⟨w.heap.size, 2, none⟩ = some (.slice fa fn fc) ∧ wz.cell? ⟨w.heap.size, 3, none⟩ = some (.slice ea en ec) ∧ wz.cell? ⟨b1, o1 + i * 4 + 2, none⟩ = some (.int .i64 k) ∧ wz.cell? ⟨b1, o1 + i * 4 + 3, none⟩ = some (.int .i64 r)) (first | exact ⟨tt _ _ k0, tt _ _ k1, tt _ _ k2, tt _ _ k3, tt _ _ y2, tt _ _ y3⟩ | go_keep) ((go_at_call 68; (refine (cT.out _).mono ?_; rintro e w9 ⟨rfl, hB9⟩; have tt : ∀ (p : Addr) (v : Value), wr.cell? p = some v → w9.cell? p = some v := fun p v h => (hB9.cell (p := p) (World.block_lt_of_cell? wr p h)).trans h)))
                      have Htt := hid tt
                      clear tt
                      go_wp2
                      go_ret
                      exact ⟨by rw [HF.out]; rfl, HWB.out.drew.trans (hB9.mono HWB.out.size)⟩
                    · simp only [q2] at cT
                      have HSE2 : Hid (sgE true rn s = true) := hid (by rw [HSE.out, q2]; simp)
                      clear q2
                      go_wp2
                      go_region_held3 (fun wz => wz.cell? ⟨w.heap.size, 0, none⟩ = some (.slice ra rn rc) ∧ wz.cell? ⟨w.heap.size, 1, none⟩ = some (.slice ma mn mc) ∧ wz.cell? ⟨w.heap.size, 2, none⟩ = some (.slice fa fn fc) ∧ wz.cell? ⟨w.heap.size, 3, none⟩ = some (.slice ea en ec) ∧ wz.cell? ⟨b1, o1 + i * 4 + 2, none⟩ = some (.int .i64 k) ∧ wz.cell? ⟨b1, o1 + i * 4 + 3, none⟩ = some (.int .i64 r)) (first | exact ⟨tt _ _ k0, tt _ _ k1, tt _ _ k2, tt _ _ k3, tt _ _ y2, tt _ _ y3⟩ | go_keep) ((go_at_call 68; (refine (cT.out _).mono ?_; rintro e w9 ⟨rfl, hB9⟩; have tt : ∀ (p : Addr) (v : Value), wr.cell? p = some v → w9.cell? p = some v := fun p v h => (hB9.cell (p := p) (World.block_lt_of_cell? wr p h)).trans h)))
                      have z0 := tt _ _ y0
                      have Htt := hid tt
                      clear tt
                      go_wp2_with (at_builtin; refine wpList_appN1 _ rfl _ _ rfl _ nm (by rfl) (by rfl) (w.heap.size + 1) ((gs.take i).map fun p => p.2.name) (Hrow2.out.below ((Below.refl _ wr).drew.trans (hB9.mono (Nat.le_refl _)))) (Nat.le_trans hwsz ((Below.refl _ wr).drew.trans (hB9.mono (Nat.le_refl _))).size) hal.out ?_; intro v4 w4 hr4 hg4)
                      go_roundg g
                      case measure => omega
                      case rel => exact Hfin.out v4 w4 _ HSE2.out ((Below.refl _ wr).drew.trans (hB9.mono (Nat.le_refl _))) hr4 hg4
end Go.Proofs.YthnolocldeokeaaGreat

