/- The document's Event. -/
import Derived.Test.YtjfkcafocindjaaY
namespace Go.Proofs.Ytjfkcafocindjaa
open Go.RowKit Go.Deep
set_option linter.unusedVariables false
set_option linter.unusedSimpArgs false

def Ze : Array Value := #[.string ⟨#[]⟩, .slice none 0 0]
def Be (s : List Nat) (v : Value) : Array Value := #[.string (ofB s), v]
theorem Be_set (s : List Nat) (v u : Value) : (Be s v).setIfInBounds 1 u = Be s u := rfl
theorem two_size (w : World) (b : Nat) (s v : Value) : (two w b s v).heap.size = w.heap.size := by simp [two, World.setCell]
theorem textD_20_bad {bs : List Nat} {e : Nat} (h : textD 64 bs = .error e) : ∃ e', textD 20 bs = .error e' ∧ (e' = 20 ∨ e' = 21) := by
  unfold textD at h ⊢
  cases hd : dec bs with
  | none => exact ⟨20, rfl, .inl rfl⟩
  | some p =>
    obtain ⟨n, k⟩ := p
    rw [hd] at h
    simp only at h ⊢
    by_cases h1 : 20 < n
    · exact ⟨21, by rw [if_pos h1], .inr rfl⟩
    · rw [if_neg (by omega)] at h
      rw [if_neg h1]
      split at h
      · rename_i h2; exact ⟨20, by rw [if_pos h2], .inl rfl⟩
      · cases h
theorem textD_20_good {bs : List Nat} {s : List Nat} {i : Nat} (h : textD 64 bs = .ok (s, i)) : textD 20 bs = if 20 < s.length then .error 21 else .ok (s, i) := by
  unfold textD at h ⊢
  cases hd : dec bs with
  | none => rw [hd] at h; cases h
  | some p =>
    obtain ⟨n, k⟩ := p
    rw [hd] at h
    simp only at h ⊢
    split at h
    · cases h
    · split at h
      · cases h
      · rename_i h1 h2
        cases h
        have : ((bs.drop k).take n).length = n := by simp; omega
        rw [this]
        split
        · rfl
        · rfl

def Low (B : Nat) (hs : List Hd) : Prop := ∀ h ∈ hs, ∀ b, (Value.slice h.a h.n h.cap).ownBlock = some b → B ≤ b
theorem Reps.other {w w' : World} {xs hs} (r : Reps w xs hs) {B : Nat} (hl : Low B hs) (k : ∀ j, B ≤ j → w'.heap[j]? = w.heap[j]?) : Reps w' xs hs :=
  r.keep fun j x h e1 e2 hf b hb eb => k b (hl h (List.mem_of_getElem? e2) b eb)

structure Evt (w : World) (a : Option Addr) (n cap : Nat) (bs : List Nat) : Prop where
  rd : Rd w (.slice a n cap) bs
  hl : n ≤ 1000000
theorem Evt.at {w wr : World} {a n cap bs} (h : Evt w a n cap bs) (hb : Below w.heap.size w wr) {i : Nat} (hi : i ≤ bs.length) {a' : Option Addr} {m c' : Nat} (ea : a' = (if cap = i then a else Option.map (fun x => x.add i) a)) (em : m = n - i) (ec : c' = cap - i) : Rd wr (.slice a' m c') (bs.drop i) :=
  (h.rd.below (Nat.le_refl _) hb).sl i hi ea em ec

theorem first2 (w : World) (o : Obj) : Below w.heap.size w (w.alloc o) := (Below.refl _ _).alloc (Nat.le_refl _) _

set_option maxRecDepth 10000 in
set_option maxHeartbeats 1000000 in
theorem refEvent_any (w : World) (v : Value) (bs : List Nat) (h0 : Rd w v bs) (hl : bs.length ≤ 1000000) :
    Calls Try.prog 27 #[v] w fun e w' => Below w.heap.size w w' ∧ EvP (w.heap.size + 1) (evD bs) e w' := by
  obtain ⟨a, cap, rfl⟩ := h0.len
  have hby : Byt bs := by obtain ⟨_, _, _, _, hb, _⟩ := h0; exact hb
  have hcap := h0.cap.2
  have h : Evt w a bs.length cap bs := ⟨h0, hl⟩
  have H1 := reft_any (w.alloc (.cells Ze 52)) _ bs 20 (by omega) (h0.below (Nat.le_refl _) (first2 w _)) (by omega)
  generalize hn : bs.length = n at *
  clear h0
  cases ht : textD 64 bs with
  | error x =>
    have V : Hid (evD bs = none) := by refine hid ?_; simp [evD, ht]
    obtain ⟨e', ht2, he'⟩ := textD_20_bad ht
    rw [ht2] at H1
    unfold Ze at H1
    have K1 := hid H1
    clear H1 h hn
    rcases he' with rfl | rfl
    all_goals
      go_enter Try.func27, Try.ntmps27
      go_wp2_with (go_at_call 38; (refine (Hid.out K1).mono ?_; rintro e w2 ⟨rfl, rfl⟩; simp only [textV]))
      refine bodyPost_ret (v := evZ) (by simp [results, Try.results27, go_sem, evZ]) rfl ⟨first2 w _, by rw [V.out]; rfl⟩
  | ok pp =>
    obtain ⟨s, i0⟩ := pp
    have hi := textD_le hby ht
    rw [hn] at hi
    rw [textD_20_good ht] at H1
    have hss : (ofB s).size = s.length := ofB_size s
    by_cases h20 : 20 < s.length
    · have V : Hid (evD bs = none) := by refine hid ?_; simp only [evD, ht]; rw [if_pos (.inr h20)]
      rw [if_pos h20] at H1
      unfold Ze at H1
      have K1 := hid H1
      clear H1 h hn hss
      go_enter Try.func27, Try.ntmps27
      go_wp2_with (go_at_call 38; (refine (Hid.out K1).mono ?_; rintro e w2 ⟨rfl, rfl⟩; simp only [textV]))
      refine bodyPost_ret (v := evZ) (by simp [results, Try.results27, go_sem, evZ]) rfl ⟨first2 w _, by rw [V.out]; rfl⟩
    · rw [if_neg h20] at H1
      unfold Ze at H1
      have K1 := hid H1
      clear H1
      by_cases hs0 : s.length < 1
      · have V : Hid (evD bs = none) := by refine hid ?_; simp only [evD, ht]; rw [if_pos (.inl hs0)]
        have : s = [] := List.eq_nil_of_length_eq_zero (by omega)
        subst this
        have e0 : (ofB []).toList.isEmpty = true := by rw [stremp]; rfl
        clear h hn hss
        go_enter Try.func27, Try.ntmps27
        go_wp2_with (go_at_call 38; (refine (Hid.out K1).mono ?_; rintro e w2 ⟨rfl, rfl⟩; simp only [textV]))
        refine bodyPost_ret (v := evZ) (by simp [results, Try.results27, go_sem, evZ]) rfl ⟨first2 w _, by rw [V.out]; rfl⟩
      · have e0 : (ofB s).toList.isEmpty = false := by
          rw [stremp]
          have : ¬ ofB s = ByteArray.empty := fun e => by rw [e] at hss; simp at hss; omega
          simp [this]
        have hin : i0 ≤ n := hi.1
        have H2 : Hid (∀ (a' : Option Addr) (m c' : Nat), a' = (if cap = i0 then a else Option.map (fun x => x.add i0) a) → m = n - i0 → c' = cap - i0 → Calls Try.prog 20 #[.slice a' m c'] (w.alloc (.cells #[.string ⟨#[]⟩, .slice none 0 0] 52)) fun e w' => e = .returned (uintV (dec (bs.drop i0))) ∧ w' = w.alloc (.cells #[.string ⟨#[]⟩, .slice none 0 0] 52)) := hid (fun a' m c' ea em ec => refUint_any _ _ _ (h.at (first2 w _) (by omega) ea em ec) (by simp; omega))
        have hN : ¬ (s.length < 1 ∨ 20 < s.length) := by omega
        cases hd : dec (bs.drop i0) with
        | none =>
          have V : Hid (evD bs = none) := by refine hid ?_; simp only [evD, ht]; rw [if_neg hN]; simp [rowD, hd]
          rw [hd] at H2
          clear h hn hss
          by_cases hcs : cap = i0
          · subst hcs
            go_enter Try.func27, Try.ntmps27
            go_wp2_with (first
              | (go_at_call 38; (refine (Hid.out K1).mono ?_; rintro e w2 ⟨rfl, rfl⟩; simp only [textV]))
              | (go_at_call 20; (refine (Hid.out H2 _ _ _ (by simp) (by omega) (by omega)).mono ?_; rintro e w2 ⟨rfl, rfl⟩; simp only [uintV])))
            refine bodyPost_ret (v := evZ) (by simp [results, Try.results27, go_sem, evZ]) rfl ⟨first2 w _, by rw [V.out]; rfl⟩
          · go_enter Try.func27, Try.ntmps27
            go_wp2_with (first
              | (go_at_call 38; (refine (Hid.out K1).mono ?_; rintro e w2 ⟨rfl, rfl⟩; simp only [textV]))
              | (go_at_call 20; (refine (Hid.out H2 _ _ _ (by rw [if_neg hcs]) (by omega) (by omega)).mono ?_; rintro e w2 ⟨rfl, rfl⟩; simp only [uintV])))
            refine bodyPost_ret (v := evZ) (by simp [results, Try.results27, go_sem, evZ]) rfl ⟨first2 w _, by rw [V.out]; rfl⟩
        | some p =>
          obtain ⟨c, k⟩ := p
          obtain ⟨_, hc64, hk, hk0, hk1⟩ := dec_back (hby.drop i0) hd
          rw [List.length_drop, hn] at hk
          rw [hd] at H2
          have hcs : ¬ cap = i0 := by omega
          by_cases hc12 : 12 < c
          · have V : Hid (evD bs = none) := by refine hid ?_; simp only [evD, ht]; rw [if_neg hN]; simp [rowD, hd, hc12]
            clear h hn hss
            go_enter Try.func27, Try.ntmps27
            go_wp2_with (first
              | (go_at_call 38; (refine (Hid.out K1).mono ?_; rintro e w2 ⟨rfl, rfl⟩; simp only [textV]))
              | (go_at_call 20; (refine (Hid.out H2 _ _ _ (by rw [if_neg hcs]) (by omega) (by omega)).mono ?_; rintro e w2 ⟨rfl, rfl⟩; simp only [uintV])))
            refine bodyPost_ret (v := evZ) (by simp [results, Try.results27, go_sem, evZ]) rfl ⟨first2 w _, by rw [V.out]; rfl⟩
          · have V : Hid (evD bs = match goD valD (bs.drop i0) c k [] with | none => none | some (xs, k') => some ((ofB s, xs), i0 + k')) := by
              refine hid ?_; simp only [evD, ht]; rw [if_neg hN]; simp only [rowD, hd, if_neg hc12]
              cases goD valD (bs.drop i0) c k [] <;> rfl
            have Hn := hid hn
            have HR := hid h
            have Hby := hid hby
            clear h hn hss hby
            go_enter Try.func27, Try.ntmps27
            go_wp2_with (first
              | (go_at_call 38; (refine (Hid.out K1).mono ?_; rintro e w2 ⟨rfl, rfl⟩; simp only [textV]))
              | (go_at_call 20; (refine (Hid.out H2 _ _ _ (by rw [if_neg hcs]) (by omega) (by omega)).mono ?_; rintro e w2 ⟨rfl, rfl⟩; simp only [uintV])))
            go_loopg [6, 11] c (fun g nn ii wr => ∃ (i at1 : Nat) (hs : List Hd) (xs : List Vl) (vals : Value), i + g = c ∧ ii = .int .u64 (i : Int) ∧ nn = .int .i64 ((i0 + at1 : Nat) : Int) ∧ at1 ≤ n - i0 ∧ hs.length = i ∧ wr.heap[w.heap.size]? = some (.cells Ze 52 (0, 0)) ∧ wr.heap[w.heap.size + 1]? = some (.cells (Be s vals) 52 (0, 0)) ∧ VRow wr (w.heap.size + 2) vals hs ∧ Reps wr xs hs ∧ Apart vals xs hs ∧ Low (w.heap.size + 2) hs ∧ Below w.heap.size w wr ∧ w.heap.size + 2 ≤ wr.heap.size ∧ goD valD (bs.drop i0) c k [] = goD valD (bs.drop i0) g at1 xs)
            case atStart =>
              refine ⟨0, k, [], [], _, by omega, rfl, by go_num, hk, rfl, ?_, ?_, VRow.nil _ _, Reps.nil _, fun j x h e => by simp at e, fun h hh => by simp at hh, ?_, ?_, rfl⟩
              · rw [Below.heap_alloc _ _ _ (by simp)]; exact heap_alloc_new w _
              · have := heap_alloc_new (w.alloc (.cells Ze 52)) (.cells (Be s (.slice none 0 0)) 52)
                rw [World.size_alloc] at this
                exact this
              · exact ((Below.refl _ _).alloc (Nat.le_refl _) _).alloc (by simp) _
              · simp
            case round =>
              obtain ⟨i, at1, hs, xs, vals, hii, rfl, rfl, hat1, hhs, hZ, hB, hrow, hreps, hap, hlow, hbel, hsize, hgo⟩ := hrel
              have Hi := hid hii
              have Hgo := hid hgo
              have Hhs := hid hhs
              have HZ := hid hZ
              have HB := hid hB
              have Hreps := hid hreps
              have Hap := hid hap
              have Hlow := hid hlow
              have z0 := cellOf hZ 0
              have z1 := cellOf hZ 1
              have zf := freeOf hZ
              have b0 := cellOf hB 0
              have b1 := cellOf hB 1
              simp only [Ze, Be, List.getElem?_toArray, List.getElem?_cons_zero, List.getElem?_cons_succ] at z0 z1 b0 b1
              clear hgo hhs hZ hB hreps hap hlow
              cases gk with
              | zero =>
                have hic : i = c := by omega
                clear hii
                subst hic
                obtain ⟨a3, c3, rfl, _⟩ := hrow.form
                have hat2 : i0 + at1 ≤ 1000000 := by omega
                go_wp2
                refine bodyPost_ret (v := .tuple #[.agg #[.string (ofB s), .slice a3 hs.length c3], .int .i64 ((i0 + at1 : Nat) : Int), .int .i64 0]) (by simp [results, Try.results27, go_sem, z0, z1]; try omega) rfl ⟨two_below hbel (Nat.le_refl _) _ _, ?_⟩
                rw [V.out, Hgo.out]
                refine ⟨_, hs, rfl, VRow.mono (hrow.same fun g' e' => two_heap _ _ _ _ (by have := (hrow.own g' e').1; omega)) (by omega), Hreps.out.other Hlow.out fun j hj => two_heap _ _ _ _ (by omega)⟩
              | succ g =>
                have hic : i < c := by omega
                have hic2 : c ≤ 12 := by omega
                clear hii
                have hnn := Hn.out
                have H3 : Hid (∀ (a' : Option Addr) (m c' : Nat), a' = (if cap = i0 + at1 then a else Option.map (fun x => x.add (i0 + at1)) a) → m = n - (i0 + at1) → c' = cap - (i0 + at1) → Calls Try.prog 24 #[.slice a' m c'] wr fun e w' => Below wr.heap.size wr w' ∧ ValP wr.heap.size (valD ((bs.drop i0).drop at1)) e w') := hid (by
                  intro a' m c' ea em ec
                  have hs := HR.out.at hbel (i := i0 + at1) (by omega) ea em ec
                  rw [← List.drop_drop] at hs
                  exact refValue_any wr _ _ hs (by simp; omega))
                have hat2 : i0 + at1 ≤ n := by omega
                have hat3 : i0 + at1 ≤ 1000000000 := by omega
                have hlen : hs.length ≤ 1000000 := by have := Hhs.out; omega
                have hown : ∀ j, vals.ownBlock = some j → w.heap.size + 2 ≤ j ∧ j < wr.heap.size := hrow.own
                have Hown := hid hown
                have Hnn := hid hnn
                clear hnn hown
                cases hsd : valD ((bs.drop i0).drop at1) with
                | none =>
                  have E : Hid (goD valD (bs.drop i0) (g + 1) at1 xs = none) := by refine hid ?_; simp only [goD, hsd]
                  rw [hsd] at H3
                  by_cases hcs2 : cap = i0 + at1
                  · subst hcs2
                    go_wp2_with (go_at_call 24; (refine (Hid.out H3 _ _ _ (by simp) (by omega) (by omega)).mono ?_; rintro e w2 ⟨hb2, hP⟩; obtain rfl := hP; have hZ2 : w2.heap[w.heap.size]? = some (.cells Ze 52 (0, 0)) := (hb2.block _ (by omega)).trans HZ.out; have y0 := cellOf hZ2 0; have y1 := cellOf hZ2 1; have yf := freeOf hZ2; have hB2 : w2.heap[w.heap.size + 1]? = some (.cells (Be s vals) 52 (0, 0)) := (hb2.block _ (by omega)).trans HB.out; have x4 := cellOf hB2 1; have xf := freeOf hB2; simp only [Ze, Be, List.getElem?_toArray, List.getElem?_cons_zero, List.getElem?_cons_succ] at y0 y1 x4; have hR2 : w.heap.size < w2.heap.size := (by have := hb2.size; omega); have hR3 : w.heap.size + 1 < w2.heap.size := (by have := hb2.size; omega); have HZ2 := hid hZ2; have HB2 := hid hB2; clear hZ2 hB2 z0 z1 zf b0 b1; simp only [valV, zeroV]))
                    refine bodyPost_ret (v := evZ) (by simp [results, Try.results27, go_sem, evZ, y0, y1, hR2]) rfl ⟨(two_below (hbel.trans (hb2.mono (by omega))) (Nat.le_refl _) _ _).alloc (by rw [two_size]; omega) _, by rw [V.out, Hgo.out, E.out]; rfl⟩
                  · go_wp2_with (go_at_call 24; (refine (Hid.out H3 _ _ _ (by rw [if_neg hcs2]) (by omega) (by omega)).mono ?_; rintro e w2 ⟨hb2, hP⟩; obtain rfl := hP; have hZ2 : w2.heap[w.heap.size]? = some (.cells Ze 52 (0, 0)) := (hb2.block _ (by omega)).trans HZ.out; have y0 := cellOf hZ2 0; have y1 := cellOf hZ2 1; have yf := freeOf hZ2; have hB2 : w2.heap[w.heap.size + 1]? = some (.cells (Be s vals) 52 (0, 0)) := (hb2.block _ (by omega)).trans HB.out; have x4 := cellOf hB2 1; have xf := freeOf hB2; simp only [Ze, Be, List.getElem?_toArray, List.getElem?_cons_zero, List.getElem?_cons_succ] at y0 y1 x4; have hR2 : w.heap.size < w2.heap.size := (by have := hb2.size; omega); have hR3 : w.heap.size + 1 < w2.heap.size := (by have := hb2.size; omega); have HZ2 := hid hZ2; have HB2 := hid hB2; clear hZ2 hB2 z0 z1 zf b0 b1; simp only [valV, zeroV]))
                    refine bodyPost_ret (v := evZ) (by simp [results, Try.results27, go_sem, evZ, y0, y1, hR2]) rfl ⟨(two_below (hbel.trans (hb2.mono (by omega))) (Nat.le_refl _) _ _).alloc (by rw [two_size]; omega) _, by rw [V.out, Hgo.out, E.out]; rfl⟩
                | some p =>
                  obtain ⟨xx, k2⟩ := p
                  have hk2 := valD_le ((Hby.out.drop i0).drop at1) hsd
                  simp only [List.length_drop] at hk2
                  rw [Hnn.out] at hk2
                  have hcs2 : ¬ cap = i0 + at1 := by
                    have := Hnn.out
                    intro e
                    rw [List.drop_eq_nil_of_le (by simp; omega)] at hsd
                    cases hsd
                  have E : Hid (goD valD (bs.drop i0) (g + 1) at1 xs = goD valD (bs.drop i0) g (at1 + k2) (xs ++ [xx])) := by refine hid ?_; simp only [goD, hsd]
                  rw [hsd] at H3
                  have hk3 : i0 + at1 + k2 ≤ 1000000000 := by omega
                  go_wp2_with (first
                    | (go_at_call 24; (refine (Hid.out H3 _ _ _ (by rw [if_neg hcs2]) (by omega) (by omega)).mono ?_; rintro e w2 ⟨hb2, hP⟩; obtain ⟨hh, rfl, hrep, hnew⟩ := hP; have Hrep := hid hrep; have Hnew := hid hnew; clear hrep hnew; have hZ2 : w2.heap[w.heap.size]? = some (.cells Ze 52 (0, 0)) := (hb2.block _ (by omega)).trans HZ.out; have y0 := cellOf hZ2 0; have y1 := cellOf hZ2 1; have yf := freeOf hZ2; have hB2 : w2.heap[w.heap.size + 1]? = some (.cells (Be s vals) 52 (0, 0)) := (hb2.block _ (by omega)).trans HB.out; have x4 := cellOf hB2 1; have xf := freeOf hB2; simp only [Ze, Be, List.getElem?_toArray, List.getElem?_cons_zero, List.getElem?_cons_succ] at y0 y1 x4; have hR2 : w.heap.size < w2.heap.size := (by have := hb2.size; omega); have hR3 : w.heap.size + 1 < w2.heap.size := (by have := hb2.size; omega); have HZ2 := hid hZ2; have HB2 := hid hB2; clear hZ2 hB2 z0 z1 zf b0 b1; simp only [Hd.v]))
                    | (at_builtin; have hno := hb2; (refine wpList_appV _ rfl _ _ rfl _ hh (by rfl) (by first | rfl | (rw [World.size_alloc]; rfl)) (w.heap.size + 2) hs ((VRow.below hrow (Nat.le_refl _) hb2).same (fun g' e' => by rw [Below.heap_alloc]; exact (hrow.below (Nat.le_refl _) hb2 |>.own g' e').2)) (by simp; omega) hlen ?_; intro v3 w3 hr3 hg3; obtain ⟨a3, c3, rfl, _⟩ := hr3.form; have hB3 : w3.heap[w.heap.size + 1]? = some (.cells (Be s vals) 52 (0, 0)) := (by rw [hg3.old (by simp; omega) (fun e => by have := Hown.out _ e.symm; omega), Below.heap_alloc _ _ _ hR3]; exact HB2.out); have hZ3 : w3.heap[w.heap.size]? = some (.cells Ze 52 (0, 0)) := (by rw [hg3.old (by simp; omega) (fun e => by have := Hown.out _ e.symm; omega), Below.heap_alloc _ _ _ hR2]; exact HZ2.out); have v4 := cellOf hB3 1; have vf := freeOf hB3; simp only [Be, List.getElem?_toArray, List.getElem?_cons_zero, List.getElem?_cons_succ] at v4; have HB3 := hid hB3; have HZ3 := hid hZ3; clear hB3 hZ3)))
                  go_roundg g
                  case measure => omega
                  case rel =>
                    have s2 := hb2.size
                    have s3 := hg3.size
                    simp at s3
                    have hr4 : VRow w3 (w.heap.size + 2) (.slice a3 (hs.length + 1) c3) (hs ++ [hh]) := by simpa using hr3
                    have hg4 : Grw (w2.alloc (.cells hh.cs.toArray 45)) vals w3 (.slice a3 (hs.length + 1) c3) := by simpa [Hd.cs] using hg3
                    have r2 := (Hreps.out.below (Nat.le_refl _) hb2).below (Nat.le_refl _) (first2 w2 (.cells hh.cs.toArray 45))
                    have x2 := Hrep.out.below (Nat.le_refl _) (first2 w2 (.cells hh.cs.toArray 45))
                    have r3 : Reps w3 (xs ++ [xx]) (hs ++ [hh]) := by
                      refine Reps.snoc (r2.keep fun j x h e1 e2 hf b hb eb => hg3.old hb (Hap.out j x h e1 e2 hf b eb)) (x2.keep fun hf b hb eb => hg3.old hb fun e => ?_)
                      have h1 := Hnew.out b eb
                      have h2 := (hrow.own b e.symm).2
                      omega
                    have l3 : Low (w.heap.size + 2) (hs ++ [hh]) := by
                      intro h hm b eb
                      rcases List.mem_append.1 hm with hm | hm
                      · exact Hlow.out h hm b eb
                      · simp at hm; subst hm; have := Hnew.out b eb; omega
                    refine ⟨i + 1, at1 + k2, hs ++ [hh], xs ++ [xx], .slice a3 (hs.length + 1) c3, by have := Hi.out; omega, by go_num, by go_num, by omega, by simp; exact Hhs.out, ?_, ?_, hr4.same fun g' e' => Below.heap_setCell _ _ _ _ (by have := (hr4.own g' e').1; simp; omega), r3.other l3 fun j hj => Below.heap_setCell _ _ _ _ (by simp; omega), ?_, l3, ?_, ?_, by rw [Hgo.out, E.out]⟩
                    · rw [Below.heap_setCell _ _ _ _ (by simp)]; exact HZ3.out
                    · rw [heap_setCell_at HB3.out 1, Be_set]
                    · exact Apart.snoc (w := wr) (by rw [Hreps.out.len]) Hap.out r2 x2 (by simp; omega) (fun k hk => (hrow.own k hk).2) Hnew.out hg4
                    · exact (((hbel.trans (hb2.mono (by omega))).alloc (by omega) _).grown hg3.1 (by simp; omega) (fun k hk => by have := (Hown.out k hk).1; omega)).setCell (by simp) _
                    · simp [World.setCell]; omega
end Go.Proofs.Ytjfkcafocindjaa
