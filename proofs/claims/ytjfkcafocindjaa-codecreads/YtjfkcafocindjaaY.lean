/- The document's value: a record that is one. -/
import Derived.Test.YtjfkcafocindjaaX
namespace Go.Proofs.Ytjfkcafocindjaa
open Go.RowKit Go.Deep
set_option linter.unusedVariables false
set_option linter.unusedSimpArgs false

theorem heap_setCell_at {w : World} {b : Nat} {c : Array Value} {e : TypeId} {f : Nat × Nat} (h : w.heap[b]? = some (.cells c e f)) (i : Nat) (u : Value) :
    (w.setCell ⟨b, i, none⟩ u).heap[b]? = some (.cells (c.setIfInBounds i u) e f) := by
  simp [World.setCell, Array.getElem?_modify, h]
theorem five_size (w : World) (b : Nat) (h : Hd) : (five w b h).heap.size = w.heap.size := by simp [five, World.setCell]
def Bx (q : Nat) (v : Value) : Array Value := #[.int .i64 4, .int .i64 0, .string ⟨#[]⟩, .int .i64 (q : Int), v]
theorem Bx_set (q : Nat) (v u : Value) : (Bx q v).setIfInBounds 4 u = Bx q u := rfl
def Zx : Array Value := #[.int .i64 0, .int .i64 0, .string ⟨#[]⟩, .int .i64 0, .slice none 0 0]

set_option maxRecDepth 10000 in
set_option maxHeartbeats 1000000 in
theorem rvr_yes (w : World) (b off n cap : Nat) (r : List Nat) (h : Rec w b off n cap r) (q size : Nat) (hd : dec r = some (q, size)) (hq : ¬ 15 < q) (c k : Nat) (hd2 : dec (r.drop size) = some (c, k)) (hc12 : ¬ 12 < c) :
    Calls Try.prog 41 #[.slice (some ⟨b, off, none⟩) n cap, .bool true] w fun e w' => Below w.heap.size w w' ∧ ValP w.heap.size (valD (4 :: r)) e w' := by
  have hn := h.n
  have hl := h.hl
  have hc := h.hc
  have hb := World.block_lt_of_cell? _ _ hc
  simp only at hb
  have q0 : ((n : Int) == 0) = false := by simp; omega
  have q1 : 0 < n := by omega
  have q2 : 1 ≤ n := by omega
  obtain ⟨_, hq64, hsz, hsz0, hsz1⟩ := dec_back h.byt hd
  obtain ⟨_, _, hk, hk0, hk1⟩ := dec_back (h.byt.drop size) hd2
  have H1 : Hid (∀ (a' : Option Addr) (m c' : Nat), a' = (if cap = 1 then some ⟨b, off, none⟩ else some ⟨b, off + 1, none⟩) → m = n - 1 → c' = cap - 1 → Calls Try.prog 20 #[.slice a' m c'] (W2 w) fun e w' => e = .returned (uintV (dec r)) ∧ w' = W2 w) := hid fun a' m c' ea em ec => h.c1 ea em ec
  rw [hd] at H1
  have H2 : Hid (∀ (a' : Option Addr) (m c' : Nat), a' = (if cap = 1 + size then some ⟨b, off, none⟩ else some ⟨b, off + (1 + size), none⟩) → m = n - (1 + size) → c' = cap - (1 + size) → Calls Try.prog 20 #[.slice a' m c'] (W2 w) fun e w' => e = .returned (uintV (dec (r.drop size))) ∧ w' = W2 w) := hid fun a' m c' ea em ec => h.c2 hsz ea em ec
  rw [hd2] at H2
  unfold W2 at H1 H2
  have hncap := hn.2
  have hsn : 1 + size ≤ n := by omega
  have hc1 : ¬ cap = 1 := by omega
  rw [List.length_drop] at hk
  have hcs : ¬ cap = 1 + size := by omega
  have V : Hid (valD (4 :: r) = match goD simpD (r.drop size) c k [] with | none => none | some (fs, k') => some (⟨4, 0, ⟨#[]⟩, (q : Int), fs⟩, 1 + size + k')) := by
    refine hid ?_
    simp only [valD, if_true, hd, if_neg hq, rowD, hd2, if_neg hc12]
    rfl
  have Hn := hid hn.1
  have HR := hid h
  have hby := hid h.byt
  clear h hn
  go_enter Try.func41, Try.ntmps41
  go_wp2_with (first
    | (go_at_call 20; have hno := hm1; (refine (Hid.out H2 _ _ _ (by rw [if_neg hcs]) (by omega) (by omega)).mono ?_; rintro e w2 ⟨rfl, rfl⟩; simp only [uintV]))
    | (go_at_call 20; (refine (Hid.out H1 _ _ _ (by rw [if_neg hc1]) (by omega) (by omega)).mono ?_; rintro e w2 ⟨rfl, rfl⟩; simp only [uintV]; have hm1 : True := trivial)))
  go_loopg [8, 13] c (fun g nn ii wr => ∃ (i at1 : Nat) (hs : List Hd) (vals : Value), i + g = c ∧ ii = .int .u64 (i : Int) ∧ nn = .int .i64 ((size + at1 : Nat) : Int) ∧ at1 ≤ r.length - size ∧ hs.length = i ∧ wr.heap[w.heap.size]? = some (.cells Zx 45 (0, 0)) ∧ wr.heap[w.heap.size + 1]? = some (.cells (Bx q vals) 45 (0, 0)) ∧ VRow wr (w.heap.size + 2) vals hs ∧ Below w.heap.size w wr ∧ w.heap.size + 2 ≤ wr.heap.size ∧ goD simpD (r.drop size) c k [] = goD simpD (r.drop size) g at1 hs)
  case atStart =>
    refine ⟨0, k, [], _, by omega, rfl, by go_num, hk, rfl, ?_, ?_, VRow.nil _ _, ?_, ?_, rfl⟩
    · rw [Below.heap_alloc _ _ _ (by simp)]; exact heap_alloc_new w _
    · have := heap_alloc_new (w.alloc (.cells Zx 45)) (.cells (Bx q (.slice none 0 0)) 45)
      rw [World.size_alloc] at this
      exact this
    · exact ((Below.refl _ _).alloc (Nat.le_refl _) _).alloc (by simp) _
    · simp
  case round =>
    obtain ⟨i, at1, hs, vals, hi, rfl, rfl, hat1, hhs, hZ, hB, hrow, hbel, hsize, hgo⟩ := hrel
    have Hi := hid hi
    have Hgo := hid hgo
    have Hhs := hid hhs
    have HZ := hid hZ
    have HB := hid hB
    have z0 := cellOf hZ 0
    have z1 := cellOf hZ 1
    have z2 := cellOf hZ 2
    have z3 := cellOf hZ 3
    have z4 := cellOf hZ 4
    have zf := freeOf hZ
    have b0 := cellOf hB 0
    have b1 := cellOf hB 1
    have b2 := cellOf hB 2
    have b3 := cellOf hB 3
    have b4 := cellOf hB 4
    simp only [Zx, Bx, List.getElem?_toArray, List.getElem?_cons_zero, List.getElem?_cons_succ] at z0 z1 z2 z3 z4 b0 b1 b2 b3 b4
    clear hgo hhs hZ hB
    cases gk with
    | zero =>
      have hic : i = c := by omega
      clear hi
      subst hic
      obtain ⟨a3, c3, rfl, _⟩ := hrow.form
      have hat2 : size + at1 ≤ 1000000000 := by have := Hn.out; omega
      go_wp2
      refine bodyPost_ret (v := .tuple #[Hd.v ⟨4, 0, ⟨#[]⟩, (q : Int), a3, hs.length, c3⟩, .int .i64 ((1 + size + at1 : Nat) : Int), .int .i64 0]) (by simp [results, Try.results41, go_sem, Hd.v, z0, z1, z2, z3, z4]; try omega) rfl ⟨five_below hbel (Nat.le_refl _) ⟨4, 0, ⟨#[]⟩, (q : Int), a3, hs.length, c3⟩, ?_⟩
      rw [V.out, Hgo.out]
      refine ⟨_, rfl, ⟨rfl, rfl, rfl, rfl, rfl, ?_⟩, fun b' e' => by have := (hrow.own b' e').1; omega⟩
      exact VRow.rd (hrow.same fun g' e' => five_heap _ _ ⟨4, 0, ⟨#[]⟩, (q : Int), a3, hs.length, c3⟩ (by have := (hrow.own g' e').1; omega))
    | succ g =>
      have hic : i < c := by omega
      have hic2 : c ≤ 12 := by omega
      clear hi
      have hnn := Hn.out
      have H3 : Hid (∀ (a' : Option Addr) (m c' : Nat), a' = (if cap = 1 + (size + at1) then some ⟨b, off, none⟩ else some ⟨b, off + (1 + (size + at1)), none⟩) → m = n - (1 + (size + at1)) → c' = cap - (1 + (size + at1)) → Calls Try.prog 41 #[.slice a' m c', .bool false] wr fun e w' => e = .returned (valV (simpD ((r.drop size).drop at1))) ∧ Below wr.heap.size wr w') := hid (by
        intro a' m c' ea em ec
        have hs := HR.out.at hbel (i := size + at1) (by omega) ea em ec
        rw [← List.drop_drop] at hs
        exact rv_false wr _ _ hs (by simp; omega))
      have hat2 : 1 + (size + at1) ≤ n := by omega
      have hat3 : size + at1 ≤ 1000000000 := by omega
      have hlen : hs.length ≤ 1000000 := by have := Hhs.out; omega
      have hown : ∀ j, vals.ownBlock = some j → w.heap.size + 2 ≤ j ∧ j < wr.heap.size := hrow.own
      have Hown := hid hown
      have Hnn := hid hnn
      clear hnn hown
      cases hsd : simpD ((r.drop size).drop at1) with
      | none =>
        have E : Hid (goD simpD (r.drop size) (g + 1) at1 hs = none) := by refine hid ?_; simp only [goD, hsd]
        rw [hsd] at H3
        by_cases hcs2 : cap = 1 + (size + at1)
        · subst hcs2
          go_wp2_with (go_at_call 41; (refine (Hid.out H3 _ _ _ (by simp) (by omega) (by omega)).mono ?_; rintro e w2 ⟨rfl, hb2⟩; have hZ2 : w2.heap[w.heap.size]? = some (.cells Zx 45 (0, 0)) := (hb2.block _ (by omega)).trans HZ.out; have y0 := cellOf hZ2 0; have y1 := cellOf hZ2 1; have y2 := cellOf hZ2 2; have y3 := cellOf hZ2 3; have y4 := cellOf hZ2 4; have yf := freeOf hZ2; have hB2 : w2.heap[w.heap.size + 1]? = some (.cells (Bx q vals) 45 (0, 0)) := (hb2.block _ (by omega)).trans HB.out; have x4 := cellOf hB2 4; have xf := freeOf hB2; simp only [Zx, Bx, List.getElem?_toArray, List.getElem?_cons_zero, List.getElem?_cons_succ] at y0 y1 y2 y3 y4 x4; have hR2 : w.heap.size < w2.heap.size := (by have := hb2.size; omega); have hR3 : w.heap.size + 1 < w2.heap.size := (by have := hb2.size; omega); have HZ2 := hid hZ2; have HB2 := hid hB2; clear hZ2 hB2 z0 z1 z2 z3 z4 zf b0 b1 b2 b3 b4; simp only [valV, zeroV]))
          refine bodyPost_ret (v := valV none) (by simp [results, Try.results41, go_sem, valV, zeroV, y0, y1, y2, y3, y4, hR2]) rfl ⟨(five_below (hbel.trans (hb2.mono (by omega))) (Nat.le_refl _) zeroH).alloc (by rw [five_size]; omega) _, by rw [V.out, Hgo.out, E.out]; rfl⟩
        · go_wp2_with (go_at_call 41; (refine (Hid.out H3 _ _ _ (by rw [if_neg hcs2]) (by omega) (by omega)).mono ?_; rintro e w2 ⟨rfl, hb2⟩; have hZ2 : w2.heap[w.heap.size]? = some (.cells Zx 45 (0, 0)) := (hb2.block _ (by omega)).trans HZ.out; have y0 := cellOf hZ2 0; have y1 := cellOf hZ2 1; have y2 := cellOf hZ2 2; have y3 := cellOf hZ2 3; have y4 := cellOf hZ2 4; have yf := freeOf hZ2; have hB2 : w2.heap[w.heap.size + 1]? = some (.cells (Bx q vals) 45 (0, 0)) := (hb2.block _ (by omega)).trans HB.out; have x4 := cellOf hB2 4; have xf := freeOf hB2; simp only [Zx, Bx, List.getElem?_toArray, List.getElem?_cons_zero, List.getElem?_cons_succ] at y0 y1 y2 y3 y4 x4; have hR2 : w.heap.size < w2.heap.size := (by have := hb2.size; omega); have hR3 : w.heap.size + 1 < w2.heap.size := (by have := hb2.size; omega); have HZ2 := hid hZ2; have HB2 := hid hB2; clear hZ2 hB2 z0 z1 z2 z3 z4 zf b0 b1 b2 b3 b4; simp only [valV, zeroV]))
          refine bodyPost_ret (v := valV none) (by simp [results, Try.results41, go_sem, valV, zeroV, y0, y1, y2, y3, y4, hR2]) rfl ⟨(five_below (hbel.trans (hb2.mono (by omega))) (Nat.le_refl _) zeroH).alloc (by rw [five_size]; omega) _, by rw [V.out, Hgo.out, E.out]; rfl⟩
      | some p =>
        obtain ⟨hh, k2⟩ := p
        have hk2 := simpD_le ((hby.out.drop size).drop at1) hsd
        simp only [List.length_drop] at hk2
        have hcs2 : ¬ cap = 1 + (size + at1) := by
          have := Hnn.out
          intro e
          rw [List.drop_eq_nil_of_le (by simp; omega)] at hsd
          cases hsd
        have E : Hid (goD simpD (r.drop size) (g + 1) at1 hs = goD simpD (r.drop size) g (at1 + k2) (hs ++ [hh])) := by refine hid ?_; simp only [goD, hsd]
        rw [hsd] at H3
        have hk3 : size + at1 + k2 ≤ 1000000000 := by have := Hnn.out; omega
        go_wp2_with (first
          | (go_at_call 41; (refine (Hid.out H3 _ _ _ (by rw [if_neg hcs2]) (by omega) (by omega)).mono ?_; rintro e w2 ⟨rfl, hb2⟩; have hZ2 : w2.heap[w.heap.size]? = some (.cells Zx 45 (0, 0)) := (hb2.block _ (by omega)).trans HZ.out; have y0 := cellOf hZ2 0; have y1 := cellOf hZ2 1; have y2 := cellOf hZ2 2; have y3 := cellOf hZ2 3; have y4 := cellOf hZ2 4; have yf := freeOf hZ2; have hB2 : w2.heap[w.heap.size + 1]? = some (.cells (Bx q vals) 45 (0, 0)) := (hb2.block _ (by omega)).trans HB.out; have x4 := cellOf hB2 4; have xf := freeOf hB2; simp only [Zx, Bx, List.getElem?_toArray, List.getElem?_cons_zero, List.getElem?_cons_succ] at y0 y1 y2 y3 y4 x4; have hR2 : w.heap.size < w2.heap.size := (by have := hb2.size; omega); have hR3 : w.heap.size + 1 < w2.heap.size := (by have := hb2.size; omega); have HZ2 := hid hZ2; have HB2 := hid hB2; clear hZ2 hB2 z0 z1 z2 z3 z4 zf b0 b1 b2 b3 b4; simp only [valV, Hd.v]))
          | (at_builtin; have hno := hb2; (refine wpList_appV _ rfl _ _ rfl _ hh (by rfl) (by first | rfl | (rw [World.size_alloc]; rfl)) (w.heap.size + 2) hs ((VRow.below hrow (Nat.le_refl _) hb2).same (fun g' e' => by rw [Below.heap_alloc]; exact (hrow.below (Nat.le_refl _) hb2 |>.own g' e').2)) (by simp; omega) hlen ?_; intro v3 w3 hr3 hg3; obtain ⟨a3, c3, rfl, _⟩ := hr3.form; have hB3 : w3.heap[w.heap.size + 1]? = some (.cells (Bx q vals) 45 (0, 0)) := (by rw [hg3.old (by simp; omega) (fun e => by have := Hown.out _ e.symm; omega), Below.heap_alloc _ _ _ hR3]; exact HB2.out); have hZ3 : w3.heap[w.heap.size]? = some (.cells Zx 45 (0, 0)) := (by rw [hg3.old (by simp; omega) (fun e => by have := Hown.out _ e.symm; omega), Below.heap_alloc _ _ _ hR2]; exact HZ2.out); have v4 := cellOf hB3 4; have vf := freeOf hB3; simp only [Bx, List.getElem?_toArray, List.getElem?_cons_zero, List.getElem?_cons_succ] at v4; have HB3 := hid hB3; have HZ3 := hid hZ3; clear hB3 hZ3)))
        go_roundg g
        case measure => omega
        case rel =>
          have s2 := hb2.size
          have s3 := hg3.size
          simp at s3
          have hr4 : VRow w3 (w.heap.size + 2) (.slice a3 (hs.length + 1) c3) (hs ++ [hh]) := by simpa using hr3
          refine ⟨i + 1, at1 + k2, hs ++ [hh], .slice a3 (hs.length + 1) c3, by have := Hi.out; omega, by go_num, by go_num, by have := Hnn.out; omega, by simp; exact Hhs.out, ?_, ?_, hr4.same fun g' e' => Below.heap_setCell _ _ _ _ (by have := (hr4.own g' e').1; simp; omega), ?_, ?_, by rw [Hgo.out, E.out]⟩
          · rw [Below.heap_setCell _ _ _ _ (by simp)]; exact HZ3.out
          · rw [heap_setCell_at HB3.out 4, Bx_set]
          · exact (((hbel.trans (hb2.mono (by omega))).alloc (by omega) _).grown hg3.1 (by simp; omega) (fun k hk => by have := (Hown.out k hk).1; omega)).setCell (by simp) _
          · simp [World.setCell]; omega

theorem valP_none {B : Nat} {o : Option (Vl × Nat)} (ho : o = none) {e : Ending} {w' : World} (he : e = .returned (valV none)) : ValP B o e w' := by subst ho; exact he
theorem rv_true (w : World) (v : Value) (bs : List Nat) (h : Rd w v bs) (hl : bs.length ≤ 1000000000) :
    Calls Try.prog 41 #[v, .bool true] w fun e w' => Below w.heap.size w w' ∧ ValP w.heap.size (valD bs) e w' := by
  cases bs with
  | nil =>
    obtain ⟨a, cap, rfl⟩ := h.len
    exact (rv_nil w a cap true).mono fun e w' ⟨he, hb⟩ => ⟨hb, valP_none rfl he⟩
  | cons c r =>
    by_cases h4 : c = 4
    · subst h4
      have h' := h
      obtain ⟨a, cap, rfl, h1, h2, h3⟩ := h
      obtain ⟨b, off, rfl, hc⟩ := h3 0 4 rfl
      rw [Nat.add_zero] at hc
      cases hd : dec r with
      | none => exact (rvr_none1 w b off _ cap r true ⟨h', hl, hc⟩ hd).mono fun e w' ⟨he, hb⟩ => ⟨hb, valP_none (by simp [valD, hd]) he⟩
      | some p =>
        obtain ⟨q, size⟩ := p
        by_cases hq : 15 < q
        · exact (rvr_none2 w b off _ cap r true ⟨h', hl, hc⟩ q size hd (.inr (.inr (.inl hq)))).mono fun e w' ⟨he, hb⟩ => ⟨hb, valP_none (by simp [valD, hd, hq]) he⟩
        · cases hd2 : dec (r.drop size) with
          | none => exact (rvr_none2 w b off _ cap r true ⟨h', hl, hc⟩ q size hd (.inl hd2)).mono fun e w' ⟨he, hb⟩ => ⟨hb, valP_none (by simp [valD, hd, hq, rowD, hd2]) he⟩
          | some p =>
            obtain ⟨c, k⟩ := p
            by_cases hc12 : 12 < c
            · exact (rvr_none2 w b off _ cap r true ⟨h', hl, hc⟩ q size hd (.inr (.inr (.inr ⟨c, k, hd2, hc12⟩)))).mono fun e w' ⟨he, hb⟩ => ⟨hb, valP_none (by simp [valD, hd, hq, rowD, hd2, hc12]) he⟩
            · exact rvr_yes w b off _ cap r ⟨h', hl, hc⟩ q size hd hq c k hd2 hc12
    · refine (rv_flat w v true c r h (by simp at hl; omega) h4).mono fun e w' ⟨he, hb⟩ => ⟨hb, ?_⟩
      have hv : valD (c :: r) = match simpD (c :: r) with | none => none | some (h, k) => some (vl h, k) := by simp only [valD]; rw [if_neg h4]; cases simpD (c :: r) <;> rfl
      rw [hv]
      cases hs : simpD (c :: r) with
      | none => rw [hs] at he; exact he
      | some p =>
        obtain ⟨hh, k⟩ := p
        rw [hs] at he
        exact ⟨hh, he, Rep.flat w' hs, fun b e' => by rw [(simpD_flat hs).2.1] at e'; cases e'⟩

set_option maxRecDepth 10000 in
set_option maxHeartbeats 1000000 in
theorem refValue_any (w : World) (v : Value) (bs : List Nat) (h : Rd w v bs) (hl : bs.length ≤ 1000000000) :
    Calls Try.prog 24 #[v] w fun e w' => Below w.heap.size w w' ∧ ValP w.heap.size (valD bs) e w' := by
  have hv := rv_true (w.alloc (.cells Zx 45)) v bs (h.below (Nat.le_refl _) ((Below.refl _ _).alloc (Nat.le_refl _) _)) hl
  simp only [World.size_alloc, Zx] at hv
  obtain ⟨a, cap, rfl⟩ := h.len
  cases hd : valD bs with
  | none =>
    rw [hd] at hv
    have Hv := hid hv
    clear hv h hd
    go_enter Try.func24, Try.ntmps24
    go_wp2_with (go_at_call 41; (refine (Hid.out Hv).mono ?_; rintro e w2 ⟨hb2, hP⟩; obtain rfl := hP; have hr := res_cells hb2; have g0 := cellOf hr 0; have g1 := cellOf hr 1; have g2 := cellOf hr 2; have g3 := cellOf hr 3; have g4 := cellOf hr 4; have gf := freeOf hr; simp only [List.getElem?_toArray, List.getElem?_cons_zero, List.getElem?_cons_succ] at g0 g1 g2 g3 g4; clear hr; simp only [valV, zeroV]))
    refine bodyPost_ret (v := valV none) (by simp [results, Try.results24, go_sem, valV, zeroV, g0, g1, g2, g3, g4]) rfl ⟨five_below (first_below hb2) (Nat.le_refl _) zeroH, rfl⟩
  | some p =>
    obtain ⟨x, k⟩ := p
    rw [hd] at hv
    have Hv := hid hv
    clear hv h hd
    go_enter Try.func24, Try.ntmps24
    go_wp2_with (go_at_call 41; (refine (Hid.out Hv).mono ?_; rintro e w2 ⟨hb2, hP⟩; obtain ⟨hh, rfl, hrep, hnew⟩ := hP; have Hrep := hid hrep; have Hnew := hid hnew; clear hrep hnew; have hr := res_cells hb2; have g0 := cellOf hr 0; have g1 := cellOf hr 1; have g2 := cellOf hr 2; have g3 := cellOf hr 3; have g4 := cellOf hr 4; have gf := freeOf hr; simp only [List.getElem?_toArray, List.getElem?_cons_zero, List.getElem?_cons_succ] at g0 g1 g2 g3 g4; clear hr; simp only [Hd.v]))
    refine bodyPost_ret (v := .tuple #[hh.v, .int .i64 (k : Int), .int .i64 0]) (by simp [results, Try.results24, go_sem, Hd.v, g0, g1, g2, g3, g4]) rfl ⟨five_below (first_below hb2) (Nat.le_refl _) hh, ?_⟩
    exact ⟨hh, rfl, Hrep.out.keep fun hf b hb eb => five_heap _ _ hh (by have := Hnew.out b eb; omega), fun b eb => by have := Hnew.out b eb; omega⟩
end Go.Proofs.Ytjfkcafocindjaa
