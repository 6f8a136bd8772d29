/- The document's side: an order of two, names, names that come twice. -/
import Derived.Test.YtnmbifoinponeaaGreatDoorV
import Derived.Test.YtnmbifoinponeaaGreatDoorB
namespace Go.Proofs.YtnmbifoinponeaaGreatDoor
open Go.RowKit Go.Deep Go.Shelf
set_option linter.unusedVariables false
set_option linter.unusedSimpArgs false

theorem ret_boolG {a b : Bool} (h : a = true ↔ b = true) : Ending.returned (.bool a) = .returned (.bool b) := congrArg _ (congrArg _ (Bool.eq_iff_iff.2 h))
def ordI (a b : Bool) : Int := if a then -1 else if b then 1 else 0
theorem refOrder (a b : Bool) (w : World) : Calls Tryz.prog 34 #[.bool a, .bool b] w fun e w' => e = .returned (.int .i64 (ordI a b)) ∧ w' = w := by
  cases a <;> cases b <;>
    (go_enter Tryz.func34, Tryz.ntmps34
     go_wp2
     go_ret
     exact ⟨rfl, rfl⟩)
theorem atS (s : ByteArray) (pos : Nat) (h : pos < s.size) : ∃ c, s[pos]'h = c ∧ s.data.toList[pos]? = some c := by
  have hl : pos < s.data.toList.length := by rw [Array.length_toList]; exact h
  refine ⟨s.data.toList[pos], ?_, List.getElem?_eq_getElem hl⟩
  simp
  rfl
def nvOk (g : Bool) (l : List UInt8) (j : Nat) : Bool := nmB (l.getD j 0).toNat && (decide (0 < j) || (if g then grB (l.getD j 0).toNat else smB (l.getD j 0).toNat))
def nvF (g : Bool) (l : List UInt8) : Nat → Bool
  | 0 => true
  | i + 1 => nvF g l i && nvOk g l i
theorem nvF_iff (g : Bool) (l : List UInt8) : ∀ n, nvF g l n = true ↔ ∀ j, j < n → nvOk g l j = true
  | 0 => by simp [nvF]
  | n + 1 => by
    simp only [nvF, Bool.and_eq_true, nvF_iff g l n]
    constructor
    · rintro ⟨h1, h2⟩ j hj
      rcases Nat.lt_or_ge j n with h | h
      · exact h1 j h
      · obtain rfl : j = n := by omega
        exact h2
    · intro h
      exact ⟨fun j hj => h j (by omega), h n (by omega)⟩
theorem nvF_no {g : Bool} {l : List UInt8} {i n : Nat} (hi : i < n) (h : nvOk g l i = false) : nvF g l n = false := by
  cases hx : nvF g l n
  · rfl
  · rw [(nvF_iff g l n).1 hx i hi] at h; cases h
theorem nvOk_pos {g : Bool} {l : List UInt8} {i : Nat} {c : UInt8} (h : 0 < i) (e : l[i]? = some c) : nvOk g l i = nmB c.toNat := by
  unfold nvOk
  rw [List.getD_eq_getElem?_getD, e, Option.getD_some, decide_eq_true h]
  simp
theorem nvOk_zero {g : Bool} {l : List UInt8} {c : UInt8} (e : l[0]? = some c) : nvOk g l 0 = (if g then grB c.toNat else smB c.toNat) := by
  unfold nvOk nmB
  rw [List.getD_eq_getElem?_getD, e, Option.getD_some]
  cases g <;> cases smB (c.toNat : Int) <;> cases grB (c.toNat : Int) <;> simp
/- A name that begins as it must. -/
def nmdB (g : Bool) (s : ByteArray) : Bool := nameB s && (if g then grB else smB) (s.data.toList.getD 0 0).toNat
theorem nmd_eq (g : Bool) (s : ByteArray) (h1 : 1 ≤ s.size) (h2 : s.size ≤ 20) : nmdB g s = nvF g s.data.toList s.size := by
  have hl : s.data.toList.length = s.size := Array.length_toList
  rw [Bool.eq_iff_iff, nvF_iff]
  unfold nmdB nameB
  rw [decide_eq_true h1, decide_eq_true h2]
  simp only [Bool.true_and, Bool.and_eq_true, List.all_eq_true]
  obtain ⟨c, hc⟩ : ∃ c, s.data.toList[0]? = some c := ⟨s.data.toList[0]'(by omega), List.getElem?_eq_getElem _⟩
  constructor
  · rintro ⟨ha, hf⟩ j hj
    obtain ⟨d, hd⟩ : ∃ d, s.data.toList[j]? = some d := ⟨s.data.toList[j]'(by omega), List.getElem?_eq_getElem _⟩
    cases j with
    | zero =>
      rw [nvOk_zero hd]
      rw [List.getD_eq_getElem?_getD, hd, Option.getD_some] at hf
      cases g <;> simpa using hf
    | succ j => rw [nvOk_pos (by omega) hd]; exact ha d (List.mem_of_getElem? hd)
  · intro h
    have h0 := h 0 (by omega)
    rw [nvOk_zero hc] at h0
    refine ⟨fun x hx => ?_, ?_⟩
    · obtain ⟨j, hj⟩ := List.getElem?_of_mem hx
      have hjl : j < s.size := by rw [← hl]; exact (List.getElem?_eq_some_iff.1 hj).1
      have := h j hjl
      unfold nvOk at this
      rw [List.getD_eq_getElem?_getD, hj, Option.getD_some, Bool.and_eq_true] at this
      exact this.1
    · rw [List.getD_eq_getElem?_getD, hc, Option.getD_some]
      cases g <;> simpa using h0
set_option maxRecDepth 100000 in
set_option maxHeartbeats 2000000 in
theorem refNamed (s : ByteArray) (g : Bool) (w : World) : Calls Tryz.prog 25 #[.string s, .bool g] w fun e w' => e = .returned (.bool (nmdB g s)) ∧ w' = w := by
  by_cases h1 : s.size < 1
  · have h1' : (s.size : Int) < 1 := by omega
    have hx : nmdB g s = false := by unfold nmdB nameB; rw [decide_eq_false (show ¬ 1 ≤ s.size by omega)]; rfl
    rw [hx]
    clear hx
    go_enter Tryz.func25, Tryz.ntmps25
    go_wp2
    go_ret
    exact ⟨rfl, rfl⟩
  · by_cases h2 : 20 < s.size
    · have h1' : ¬ (s.size : Int) < 1 := by omega
      have h2' : (20 : Int) < (s.size : Int) := by omega
      have hx : nmdB g s = false := by unfold nmdB nameB; rw [decide_eq_false (show ¬ s.size ≤ 20 by omega)]; simp
      rw [hx]
      clear hx
      go_enter Tryz.func25, Tryz.ntmps25
      go_wp2
      go_ret
      exact ⟨rfl, rfl⟩
    · have h1' : ¬ (s.size : Int) < 1 := by omega
      have h2' : ¬ (20 : Int) < (s.size : Int) := by omega
      rw [nmd_eq g s (by omega) (by omega)]
      have hnz : (nvF g s.data.toList 0) = true := rfl
      go_enter Tryz.func25, Tryz.ntmps25
      go_wp2
      go_loopg [5] s.size (fun gf ii wr => ∃ i : Nat, i + gf = s.size ∧ ii = .int .i64 (i : Int) ∧ wr = w ∧ nvF g s.data.toList i = true)
      case atStart => exact ⟨0, by omega, rfl, rfl, hnz⟩
      case round =>
        obtain ⟨i, hi, rfl, rfl, hok⟩ := hrel
        have HOK := hid hok
        clear hok hnz
        cases gk with
        | zero =>
          have hin : i = s.size := by omega
          subst hin
          clear hi
          go_wp2
          go_ret
          exact ⟨by rw [HOK.out]; rfl, rfl⟩
        | succ gf =>
          have hil : i < s.size := by omega
          have hil' : (i : Int) < (s.size : Int) := by omega
          obtain ⟨c, hc, hc1⟩ := atS s i hil
          have HC1 := hid hc1
          have Hi := hid hi
          clear hc1 hi
          have HIL := hid hil
          by_cases h95 : c.toNat = 95
          · have g1 : ((c.toNat : Int) == 95) = true := by simp; omega
            have g2 : (c.toNat : Int) = 95 := by omega
            by_cases hi0 : i = 0
            · subst hi0
              cases g
              · have Hv := hid (nvOk_zero (g := false) HC1.out)
                rw [if_neg (by decide)] at Hv
                go_wp2
                all_goals first
                  | (go_roundg gf
                     case measure => omega
                     case rel => exact ⟨0 + 1, by have := Hi.out; omega, by go_num, rfl, by rw [nvF, HOK.out, Hv.out, Bool.true_and]; simp [nmB, smB, grB]; omega⟩)
                  | (go_ret; exact ⟨by rw [nvF_no HIL.out (by rw [Hv.out]; simp [nmB, smB, grB]; omega)]; rfl, rfl⟩)
              · have Hv := hid (nvOk_zero (g := true) HC1.out)
                rw [if_pos rfl] at Hv
                go_wp2
                all_goals first
                  | (go_roundg gf
                     case measure => omega
                     case rel => exact ⟨0 + 1, by have := Hi.out; omega, by go_num, rfl, by rw [nvF, HOK.out, Hv.out, Bool.true_and]; simp [nmB, smB, grB]; omega⟩)
                  | (go_ret; exact ⟨by rw [nvF_no HIL.out (by rw [Hv.out]; simp [nmB, smB, grB]; omega)]; rfl, rfl⟩)
            · have Hv := hid (nvOk_pos (g := g) (Nat.pos_of_ne_zero hi0) HC1.out)
              have hi0' : ¬ (i : Int) = 0 := by omega
              go_wp2
              all_goals first
                | (go_roundg gf
                   case measure => omega
                   case rel => exact ⟨i + 1, by have := Hi.out; omega, by go_num, rfl, by rw [nvF, HOK.out, Hv.out, Bool.true_and]; simp [nmB, smB, grB]; omega⟩)
                | (go_ret; exact ⟨by rw [nvF_no HIL.out (by rw [Hv.out]; simp [nmB, smB, grB]; omega)]; rfl, rfl⟩)
          · have g1 : ((c.toNat : Int) == 95) = false := by simp; omega
            have g2 : ¬ (c.toNat : Int) = 95 := by omega
            by_cases hi0 : i = 0
            · subst hi0
              cases g
              · have Hv := hid (nvOk_zero (g := false) HC1.out)
                rw [if_neg (by decide)] at Hv
                go_wp2
                all_goals first
                  | (go_roundg gf
                     case measure => omega
                     case rel => exact ⟨0 + 1, by have := Hi.out; omega, by go_num, rfl, by rw [nvF, HOK.out, Hv.out, Bool.true_and]; simp [nmB, smB, grB]; omega⟩)
                  | (go_ret; exact ⟨by rw [nvF_no HIL.out (by rw [Hv.out]; simp [nmB, smB, grB]; omega)]; rfl, rfl⟩)
              · have Hv := hid (nvOk_zero (g := true) HC1.out)
                rw [if_pos rfl] at Hv
                go_wp2
                all_goals first
                  | (go_roundg gf
                     case measure => omega
                     case rel => exact ⟨0 + 1, by have := Hi.out; omega, by go_num, rfl, by rw [nvF, HOK.out, Hv.out, Bool.true_and]; simp [nmB, smB, grB]; omega⟩)
                  | (go_ret; exact ⟨by rw [nvF_no HIL.out (by rw [Hv.out]; simp [nmB, smB, grB]; omega)]; rfl, rfl⟩)
            · have Hv := hid (nvOk_pos (g := g) (Nat.pos_of_ne_zero hi0) HC1.out)
              have hi0' : ¬ (i : Int) = 0 := by omega
              go_wp2
              all_goals first
                | (go_roundg gf
                   case measure => omega
                   case rel => exact ⟨i + 1, by have := Hi.out; omega, by go_num, rfl, by rw [nvF, HOK.out, Hv.out, Bool.true_and]; simp [nmB, smB, grB]; omega⟩)
                | (go_ret; exact ⟨by rw [nvF_no HIL.out (by rw [Hv.out]; simp [nmB, smB, grB]; omega)]; rfl, rfl⟩)
/- Whether a name comes twice. -/
def dupB (ss : List ByteArray) : Bool := (List.range ss.length).any fun i => Lib.containsS (ss.take i) (ss.getD i ByteArray.empty)
theorem dupB_no {ss : List ByteArray} (h : ∀ i s, ss[i]? = some s → Lib.containsS (ss.take i) s = false) : dupB ss = false := by
  unfold dupB
  rw [List.any_eq_false]
  intro i hi
  have hl := List.mem_range.1 hi
  rw [List.getD_eq_getElem?_getD, List.getElem?_eq_getElem hl, Option.getD_some, h i _ (List.getElem?_eq_getElem hl)]
  simp
theorem dupB_yes {ss : List ByteArray} {i : Nat} {s : ByteArray} (e : ss[i]? = some s) (h : Lib.containsS (ss.take i) s = true) : dupB ss = true := by
  unfold dupB
  rw [List.any_eq_true]
  refine ⟨i, List.mem_range.2 (List.getElem?_eq_some_iff.1 e).1, ?_⟩
  rw [List.getD_eq_getElem?_getD, e]
  exact h
theorem namesB_split (g : Bool) (ss : List ByteArray) : namesB (if g then grB else smB) ss = (ss.all (nmdB g) && !dupB ss) := by
  rw [Bool.eq_iff_iff]
  constructor
  · intro h
    unfold namesB at h
    rw [List.all_eq_true] at h
    have h2 : ∀ i s, ss[i]? = some s → nmdB g s = true ∧ Lib.containsS (ss.take i) s = false := fun i s e => by
      have := h i (List.mem_range.2 (List.getElem?_eq_some_iff.1 e).1)
      rw [okAt_some e] at this
      simp only [Bool.and_eq_true, Bool.not_eq_true'] at this
      exact ⟨by unfold nmdB; rw [this.1.1, this.1.2]; rfl, this.2⟩
    rw [Bool.and_eq_true, List.all_eq_true, dupB_no (fun i s e => (h2 i s e).2)]
    refine ⟨fun s hs => ?_, rfl⟩
    obtain ⟨i, hi⟩ := List.getElem?_of_mem hs
    exact (h2 i s hi).1
  · intro h
    rw [Bool.and_eq_true, List.all_eq_true, Bool.not_eq_true'] at h
    refine namesB_yes fun j hj => ?_
    rw [okAt_some (List.getElem?_eq_getElem hj)]
    have h1 := h.1 _ (List.getElem_mem hj)
    have h2 : Lib.containsS (ss.take j) ss[j] = false := by
      cases hx : Lib.containsS (ss.take j) ss[j]
      · rfl
      · rw [dupB_yes (List.getElem?_eq_getElem hj) hx] at h; simp at h
    unfold nmdB at h1
    rw [h1, h2]
    rfl
theorem contains_take {ss : List ByteArray} {i : Nat} {s x : ByteArray} (e : ss[i]? = some s) : Lib.containsS (ss.take (i + 1)) x = (Lib.containsS (ss.take i) x || decide (x = s)) := by
  rw [Bool.eq_iff_iff, Bool.or_eq_true, Lib.containsS_iff, Lib.containsS_iff, List.take_add_one, e]
  simp
theorem toList_inj {x y : ByteArray} : (x.toList == y.toList) = decide (x = y) := by
  rw [Bool.eq_iff_iff, beq_iff_eq, decide_eq_true_eq, ByteArray.toList_eq, ByteArray.toList_eq]
  constructor
  · intro h; cases x; cases y; simp_all
  · rintro rfl; rfl
set_option maxRecDepth 100000 in
set_option maxHeartbeats 1000000 in
theorem refTwice (w : World) (a : Option Addr) (n cap : Nat) (ss : List ByteArray) (hn : n = ss.length) (hn2 : n ≤ 1000000) (d : SRd w a ss) : Calls Tryz.prog 26 #[.slice a n cap] w fun e w' => e = .returned (.bool (dupB ss)) ∧ Below w.heap.size w w' := by
  have hn2' : (n : Int) ≤ 1000000 := by omega
  have D := hid d
  have Hn := hid hn
  clear hn d
  go_enter Tryz.func26, Tryz.ntmps26
  go_wp2
  go_loopg [3] n (fun g ii wr => ∃ i : Nat, i + g = n ∧ ii = .int .i64 (i : Int) ∧ Below w.heap.size w wr ∧ ∀ j s, j < i → ss[j]? = some s → Lib.containsS (ss.take j) s = false)
  case atStart => exact ⟨0, by omega, rfl, Below.refl _ _, fun j s h => by omega⟩
  case round =>
    obtain ⟨i, hi, rfl, hbr, hno⟩ := hrel
    obtain ⟨wo, hwo⟩ : ∃ wo, wo = wr := ⟨_, rfl⟩
    subst hwo
    have HB := hid hbr
    have HN := hid hno
    clear hbr hno
    cases gk with
    | zero =>
      have hin : i = n := by omega
      subst hin
      clear hi
      go_wp2
      go_ret
      refine ⟨?_, HB.out⟩
      rw [dupB_no (fun j s e => HN.out j s (by rw [Hn.out]; exact (List.getElem?_eq_some_iff.1 e).1) e)]
      rfl
    | succ gi =>
      have hlt0 : i < n := by omega
      have hlt : (i : Int) < (n : Int) := by omega
      obtain ⟨s, hs⟩ : ∃ s, ss[i]? = some s := ⟨ss[i]'(by rw [← Hn.out]; exact hlt0), List.getElem?_eq_getElem _⟩
      have Hs := hid hs
      have Hi := hid hi
      clear hs hi
      go_wp2
      go_loopg [4] i (fun g kk wx => ∃ k : Nat, k + g = i ∧ kk = .int .i64 (k : Int) ∧ Below w.heap.size w wx ∧ Lib.containsS (ss.take k) s = false)
      case atStart => exact ⟨0, by omega, rfl, HB.out, rfl⟩
      case round =>
        obtain ⟨k, hk, rfl, hbk, hck⟩ := hrel
        have HCK := hid hck
        have HBK := hid hbk
        clear hck
        cases gk with
        | zero =>
          have hki : k = i := by omega
          subst hki
          clear hk hbk
          go_wp2
          go_roundg gi
          case measure => omega
          case rel => exact ⟨k + 1, by have := Hi.out; omega, by go_num, HBK.out, fun j s' hj e => by
            rcases Nat.lt_or_ge j k with h | h
            · exact HN.out j s' h e
            · obtain rfl : j = k := by omega
              rw [Hs.out] at e; cases e; exact HCK.out⟩
        | succ gj =>
          have hklt : k < i := by omega
          have hklt' : (k : Int) < (i : Int) := by omega
          have hkn : (k : Int) < (n : Int) := by omega
          obtain ⟨t, ht⟩ : ∃ t, ss[k]? = some t := ⟨ss[k]'(by rw [← Hn.out]; omega), List.getElem?_eq_getElem _⟩
          obtain ⟨_, b, off, ea, hc1⟩ := (D.out.below (Nat.le_refl _) hbk) i s Hs.out
          subst ea
          obtain ⟨_, b', off', ea, hc2⟩ := (D.out.below (Nat.le_refl _) hbk) k t ht
          cases ea
          have hmore := contains_take (x := s) ht
          have Hk := hid hk
          have HMo := hid hmore
          have Ht := hid ht
          clear hk hbk hmore ht
          cases heq : (s.toList == t.toList)
          · have Heq := hid heq
            go_wp2
            go_region_held3 (fun w2 => w2.cell? ⟨b, off + i, none⟩ = some (.string s) ∧ w2.cell? ⟨b, off + k, none⟩ = some (.string t)) (first | go_keep) (fail)
            go_wp2
            go_roundg gj
            case measure => omega
            case rel => exact ⟨k + 1, by have := Hk.out; omega, by go_num, HBK.out.trans (((Below.refl _ wr).drew).mono HBK.out.size), by rw [HMo.out, HCK.out, ← toList_inj, Heq.out]; rfl⟩
          · have Heq := hid heq
            have Hkl := hid hklt
            go_wp2
            go_region_held3 (fun w2 => w2.cell? ⟨b, off + i, none⟩ = some (.string s) ∧ w2.cell? ⟨b, off + k, none⟩ = some (.string t)) (first | go_keep) (fail)
            go_wp2
            go_ret
            refine ⟨?_, HBK.out.trans (((Below.refl _ wr).drew).mono HBK.out.size)⟩
            rw [dupB_yes Hs.out (by
              rw [Lib.containsS_iff]
              have e2 := Heq.out
              rw [toList_inj, decide_eq_true_eq] at e2
              rw [e2]
              exact List.mem_of_getElem? (i := k) (by rw [List.getElem?_take, if_pos Hkl.out]; exact Ht.out))]
            rfl
set_option maxRecDepth 100000 in
theorem refIsType (w : World) (h : PH) (k r : Int) (hn : h.rn ≤ 9223372036854775807) :
    Calls Tryz.prog 27 #[h.v, ty k r] w fun e w' => e = .returned (.bool (typB h.rn (k, r))) ∧ Below w.heap.size w w' := by
  obtain ⟨ra, rn, rc, ma, mn, mc, fa, fn, fc, ea, en, ec⟩ := h
  simp only [PH.v, ty] at hn ⊢
  have hb := two_boxes w #[.slice ra rn rc, .slice ma mn mc, .slice fa fn fc, .slice ea en ec] #[.int .i64 k, .int .i64 r] 26 28
  by_cases h4 : k = 4
  · subst h4
    have ht : typB rn (4, r) = (decide (0 ≤ r) && decide (r < (rn : Int))) := by simp [typB]
    rw [ht]
    clear ht
    go_enter Tryz.func27, Tryz.ntmps27
    go_wp2
    all_goals (go_ret; exact ⟨ret_boolG (by simp; try omega), hb⟩)
  · have ht : typB rn (k, r) = simB (k, r) := by simp [typB, h4]
    rw [ht]
    clear ht
    by_cases h1 : 1 ≤ k
    · by_cases h3 : k ≤ 3
      · by_cases hr : r = 0
        · subst hr
          go_enter Tryz.func27, Tryz.ntmps27
          go_wp2
          all_goals (go_ret; exact ⟨ret_boolG (by simp [simB]; try omega), hb⟩)
        · have hr' : (r == 0) = false := by simpa using hr
          go_enter Tryz.func27, Tryz.ntmps27
          go_wp2
          all_goals (go_ret; exact ⟨ret_boolG (by simp [simB]; try omega), hb⟩)
      · go_enter Tryz.func27, Tryz.ntmps27
        go_wp2
        all_goals (go_ret; exact ⟨ret_boolG (by simp [simB]; try omega), hb⟩)
    · go_enter Tryz.func27, Tryz.ntmps27
      go_wp2
      all_goals (go_ret; exact ⟨ret_boolG (by simp [simB]; try omega), hb⟩)
end Go.Proofs.YtnmbifoinponeaaGreatDoor
