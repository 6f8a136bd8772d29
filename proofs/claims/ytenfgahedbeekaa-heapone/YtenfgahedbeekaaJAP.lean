/- HeapOne: the walk. -/
import Derived.Test.YtenfgahedbeekaaJAO
namespace Go.Proofs.Ytenfgahedbeekaa
open Go.RowKit Go.Deep Go.Shelf
set_option linter.unusedVariables false
set_option linter.unusedSimpArgs false

theorem st_one (w : World) (A : Nat → Prop) (g : Nat) (h : StCP 3 w A (some ⟨g, 0, none⟩) 1 (List.replicate 1 [])) : StCP 3 w A (some ⟨g, 0, none⟩) 1 (([[]] : List NL).map rowN3) := h

/- A box with a state of one map, made since wr. -/
def BoxIn (wr wc : World) (C : Nat) (fa : Option Addr) (fc : Nat) (S : NL) : Prop := Below wr.heap.size wr wc ∧ wc.heap[C]? = some (.cells #[.slice fa 1 fc] 27 (0, 0)) ∧ StCP 3 wc (fun b => b ≠ C ∧ b < wc.heap.size) fa 1 (([S] : List NL).map rowN3)
theorem box_in {wr w9 : World} {C : Nat} {fa : Option Addr} {fc : Nat} {S : NL} {A : Nat → Prop} (hb : Below wr.heap.size wr w9) (hC : wr.heap.size ≤ C) (hz : w9.heap[C]? = some (.cells #[.slice none 0 0] 27 (0, 0))) (hs : StCP 3 w9 A fa 1 (([S] : List NL).map rowN3)) (hA : ∀ b, A b → b ≠ C ∧ b < w9.heap.size) : BoxIn wr (w9.setCell ⟨C, 0, none⟩ (.slice fa 1 fc)) C fa fc S := by
  have hsz : (w9.setCell ⟨C, 0, none⟩ (.slice fa 1 fc)).heap.size = w9.heap.size := by simp [World.setCell]
  refine ⟨hb.setCell (p := ⟨C, 0, none⟩) hC _, set_cells hz _, ?_⟩
  exact (hs.keep (fun b h => Below.heap_setCell _ _ _ _ (hA b h).1)).imp (fun b h => ⟨(hA b h).1, by rw [hsz]; exact (hA b h).2⟩)
theorem box_new {wr w9 : World} {fa : Option Addr} {fc : Nat} {S : NL} {A : Nat → Prop} (hb : Below wr.heap.size wr w9) (hs : StCP 3 w9 A fa 1 (([S] : List NL).map rowN3)) (hA : ∀ b, A b → b < w9.heap.size) : BoxIn wr (w9.alloc (.cells #[.slice fa 1 fc] 27)) w9.heap.size fa fc S := by
  refine ⟨hb.alloc hb.size _, heap_alloc_new _ _, ?_⟩
  exact (hs.keep (fun b h => Below.heap_alloc _ _ _ (hA b h))).imp (fun b h => by have := hA b h; exact ⟨by omega, by simp; omega⟩)
theorem keys_low {w : World} {ka : Option Addr} {keys : List Int} (H : ∀ (w1 : World), Below w.heap.size w w1 → KI16 w1 ka keys) {t : Int} {j : Nat} {k : Int} (hk : k ∈ rotL keys t j) : k ≤ 32767 := by
  unfold rotL at hk
  obtain ⟨i, _, rfl⟩ := List.mem_map.1 hk
  rw [List.getD_eq_getElem?_getD]
  cases e : keys[rotN keys.length t i]? with
  | none => simp
  | some x => exact (H w (Below.refl _ _) _ x e).1.2
set_option maxRecDepth 100000 in
set_option maxHeartbeats 2000000 in
theorem one_any (w : World) (ka : Option Addr) (kn kc : Nat) (keys : List Int) (hk : kn = keys.length) (hkr : KI16 w ka keys) (ea : Option Addr) (en ec : Nat) (ex : List Int) (he : en = ex.length) (her : KI16 w ea ex) (t : Int) (hk20 : kn ≤ 20) (he20 : en ≤ 20) :
    Calls Try.prog 7 #[.slice ka kn kc, .slice ea en ec, .int .i64 t] w fun e w' => e = .returned (.bool true) ∧ Below w.heap.size w w' := by
  have hkI : (kn : Int) ≤ 20 := by omega
  have heI : (en : Int) ≤ 20 := by omega
  have hkI' : ¬ (20 : Int) < (kn : Int) := by omega
  have heI' : ¬ (20 : Int) < (en : Int) := by omega
  have HK := hid (fun (w1 : World) (hb : Below w.heap.size w w1) => hkr.below hb)
  have HX := hid (fun (w1 : World) (hb : Below w.heap.size w w1) => her.below hb)
  have Hk := hid hk
  have He := hid he
  clear hk he hkr her
  have TR : Hid (∀ {Z x y : World}, Below Z.heap.size Z x → Below x.heap.size x y → Below Z.heap.size Z y) := hid (fun h1 h2 => h1.trans (h2.mono h1.size))
  go_enter Try.func7, Try.ntmps7
  go_upto_region 7 with (go_at_call 9; (refine (known_any _).mono ?_; rintro e w0 ⟨rfl, hb0⟩; have B0 := hid hb0; clear hb0))
  obtain ⟨W3, hW3⟩ : ∃ W3, W3 = ((w0.alloc (.cells #[.int .i64 1, .int .i64 0] 73)).alloc (.cells #[.string ⟨#[109]⟩, .int .i64 1, .int .i64 0, .int .i64 1, .int .i64 0] 75)).alloc (.cells #[.slice none 0 0, .slice (some ⟨w0.heap.size + 1, 0, none⟩) 1 1, .slice none 0 0, .slice none 0 0] 50) := ⟨_, rfl⟩
  rw [← hW3]
  have m1 : W3.heap[w0.heap.size + 1]? = some (.cells #[.string ⟨#[109]⟩, .int .i64 1, .int .i64 0, .int .i64 1, .int .i64 0] 75 (0, 0)) := by
    rw [hW3]
    refine alN ?_ _
    have := heap_alloc_new (w0.alloc (.cells #[.int .i64 1, .int .i64 0] 73)) (.cells #[.string ⟨#[109]⟩, .int .i64 1, .int .i64 0, .int .i64 1, .int .i64 0] 75)
    rw [World.size_alloc] at this
    exact this
  have m2 : W3.heap[w0.heap.size + 1 + 1]? = some (.cells #[.slice none 0 0, .slice (some ⟨w0.heap.size + 1, 0, none⟩) 1 1, .slice none 0 0, .slice none 0 0] 50 (0, 0)) := by
    rw [hW3]
    have := heap_alloc_new ((w0.alloc (.cells #[.int .i64 1, .int .i64 0] 73)).alloc (.cells #[.string ⟨#[109]⟩, .int .i64 1, .int .i64 0, .int .i64 1, .int .i64 0] 75)) (.cells #[.slice none 0 0, .slice (some ⟨w0.heap.size + 1, 0, none⟩) 1 1, .slice none 0 0, .slice none 0 0] 50)
    simp only [World.size_alloc] at this
    exact this
  have hb3 : Below w.heap.size w W3 := by
    rw [hW3]
    have h1 := B0.out.alloc B0.out.size (.cells #[.int .i64 1, .int .i64 0] 73)
    have h2 := h1.alloc h1.size (.cells #[.string ⟨#[109]⟩, .int .i64 1, .int .i64 0, .int .i64 1, .int .i64 0] 75)
    exact h2.alloc h2.size _
  have FP : Hid (∀ w2 : World, Below W3.heap.size W3 w2 → (w2.cell? ⟨w0.heap.size + 1 + 1, 0, none⟩ = some (.slice none 0 0) ∧ w2.cell? ⟨w0.heap.size + 1 + 1, 1, none⟩ = some (.slice (some ⟨w0.heap.size + 1, 0, none⟩) 1 1) ∧ w2.cell? ⟨w0.heap.size + 1 + 1, 2, none⟩ = some (.slice none 0 0) ∧ w2.cell? ⟨w0.heap.size + 1 + 1, 3, none⟩ = some (.slice none 0 0)) ∧ PRd w2 ⟨none, 0, 0, some ⟨w0.heap.size + 1, 0, none⟩, 1, 1, none, 0, 0, none, 0, 0⟩ pOne ∧ Below w.heap.size w w2) := hid (fun w2 hb => by
    have b2 := (hb.block _ (Array.getElem?_eq_some_iff.1 m2).1).trans m2
    exact ⟨⟨cellOf b2 0, cellOf b2 1, cellOf b2 2, cellOf b2 3⟩, prd_one ((hb.block _ (Array.getElem?_eq_some_iff.1 m1).1).trans m1), hb3.trans (hb.mono hb3.size)⟩)
  have hs03 : w0.heap.size + 1 + 1 < W3.heap.size := (Array.getElem?_eq_some_iff.1 m2).1
  have hs0 := hb3.size
  have KN := hid (heapNew_any 3 W3 _ pOne (FP.out W3 (Below.refl _ _)).2.1)
  unfold NwP at KN
  rw [right_one] at KN
  simp only [PH.v, show pOne.maps.length = 1 from rfl] at KN
  obtain ⟨⟨f0, f1, f2, f3⟩, _, _⟩ := FP.out W3 (Below.refl _ _)
  clear hW3 m1 m2 hb3 B0
  go_upto_region 9 with (go_at_call 27; (refine (Hid.out KN).mono ?_; rintro e w4 ⟨hb4, ⟨h9, _⟩ | ⟨_, g, rfl, hg⟩⟩; (exact absurd h9 (by simp)); have B4 := hid hb4; have HG := hid hg; clear hb4 hg f0 f1 f2 f3))
  obtain ⟨W5, hW5⟩ : ∃ W5, W5 = (w4.alloc (.cells #[.slice (some ⟨g, 0, none⟩) 1 1] 27)).alloc (.cells #[.slice (some ⟨g, 0, none⟩) 1 1] 27) := ⟨_, rfl⟩
  rw [← hW5]
  have I0 : OnI W3 W5 w4.heap.size (w4.heap.size + 1) [] [] := by
    have hs4 := B4.out.size
    have a1 := heap_alloc_new w4 (.cells #[.slice (some ⟨g, 0, none⟩) 1 1] 27)
    have a2 := heap_alloc_new (w4.alloc (.cells #[.slice (some ⟨g, 0, none⟩) 1 1] 27)) (.cells #[.slice (some ⟨g, 0, none⟩) 1 1] 27)
    rw [World.size_alloc] at a2
    have hz : W5.heap.size = w4.heap.size + 1 + 1 := by rw [hW5]; simp
    have bl : ∀ b, b < w4.heap.size → W5.heap[b]? = w4.heap[b]? := fun b hb => by rw [hW5]; exact (Below.heap_alloc _ _ _ (by simp; omega)).trans (Below.heap_alloc _ _ _ hb)
    have st : StCP 3 W5 (fun b => (b ≠ w4.heap.size ∧ b ≠ w4.heap.size + 1) ∧ b < W5.heap.size) (some ⟨g, 0, none⟩) 1 (([[]] : List NL).map rowN3) := ((st_one _ _ _ HG.out).keep (fun b hA => bl b hA.2)).imp (fun b hA => ⟨⟨by omega, by omega⟩, by omega⟩)
    refine ⟨?_, ⟨hs4, by omega⟩, ⟨by omega, by omega⟩, by omega, ⟨_, _, by rw [hW5]; exact alN a1 _, st⟩, ⟨_, _, by rw [hW5]; exact a2, st⟩⟩
    rw [hW5]
    have h1 := B4.out.alloc B4.out.size (.cells #[.slice (some ⟨g, 0, none⟩) 1 1] 27)
    exact h1.alloc h1.size _
  have HI0 := hid I0
  obtain ⟨BA, hBA⟩ : ∃ BA, BA = w4.heap.size := ⟨_, rfl⟩
  obtain ⟨BB, hBB⟩ : ∃ BB, BB = w4.heap.size + 1 := ⟨_, rfl⟩
  rw [← hBB, ← hBA] at HI0
  rw [← hBB, ← hBA]
  clear hW5 I0 HG B4 hBA hBB KN
  go_wp2
  go_loopg [13] kn (fun gg v13 wr => ∃ (i : Nat) (L : NL), i + gg = kn ∧ v13 = .int .i64 (i : Int) ∧ OneI (keys.take i) L ∧ OnI W3 wr BA BB L [])
  case atStart => exact ⟨0, [], by omega, rfl, OneI.nil, HI0.out⟩
  case round =>
    obtain ⟨i, L, hi, rfl, hL, hI⟩ := hrel
    have HL := hid hL
    have HI := hid hI
    clear hL hI
    cases gk with
    | zero =>
      have hik : i = kn := by omega
      subst hik
      have hL' : OneI keys L := by have := HL.out; rwa [List.take_of_length_le (by rw [← Hk.out]; exact Nat.le_refl _)] at this
      have HLa := hid hL'
      have HI1 := hid HI.out
      clear hL' HL HI HI0 hi
      go_wp2
      go_loopg [14] i (fun gg v14 wr => ∃ (j : Nat) (M : NL), j + gg = i ∧ v14 = .int .i64 (j : Int) ∧ OneI (rotL keys t j) M ∧ OnI W3 wr BA BB L M)
      case atStart => exact ⟨0, [], by omega, rfl, OneI.nil, HI1.out⟩
      case round =>
        obtain ⟨j, M, hj, rfl, hM, hI⟩ := hrel
        have HM := hid hM
        have HI := hid hI
        clear hM hI
        cases gk with
        | zero =>
          have hji : j = i := by omega
          subst hji
          have hLM : L = M := HLa.out.eq HM.out (fun a => by rw [Hk.out, rotL_mem])
          subst hLM
          have hsh : L.length ≤ 24 := by have h1 := HLa.out.len; have h2 := Hk.out; omega
          obtain ⟨aa, ac, ha1, ha2⟩ := HI.out.a
          obtain ⟨ba, bc, hb1, hb2⟩ := HI.out.b
          have SA := hid (fun (W : World) (hb : Below wr.heap.size wr W) => ha2.cr.below (Nat.le_refl _) hb)
          have SB := hid (fun (W : World) (hb : Below wr.heap.size wr W) => hb2.cr.below (Nat.le_refl _) hb)
          have SNA := hid (fun (W : World) (hb : Below wr.heap.size wr W) => snap_1 W _ (FP.out W (HI.out.bel.trans (hb.mono HI.out.bel.size))).2.1 aa ac L (SA.out W hb) HLa.out.ris hsh)
          have SNB := hid (fun (W : World) (hb : Below wr.heap.size wr W) => snap_1 W _ (FP.out W (HI.out.bel.trans (hb.mono HI.out.bel.size))).2.1 ba bc L (SB.out W hb) HLa.out.ris hsh)
          simp only [PH.v] at SNA SNB
          have FC : Hid (∀ W : World, Below wr.heap.size wr W → W.cell? ⟨BA, 0, none⟩ = some (.slice aa 1 ac) ∧ W.cell? ⟨BB, 0, none⟩ = some (.slice ba 1 bc) ∧ W.cell? ⟨w0.heap.size + 1 + 1, 0, none⟩ = some (.slice none 0 0) ∧ W.cell? ⟨w0.heap.size + 1 + 1, 1, none⟩ = some (.slice (some ⟨w0.heap.size + 1, 0, none⟩) 1 1) ∧ W.cell? ⟨w0.heap.size + 1 + 1, 2, none⟩ = some (.slice none 0 0) ∧ W.cell? ⟨w0.heap.size + 1 + 1, 3, none⟩ = some (.slice none 0 0)) := hid (fun W hb => by
            have f := (FP.out W (HI.out.bel.trans (hb.mono HI.out.bel.size))).1
            exact ⟨cellOf ((hb.block _ HI.out.ha.2).trans ha1) 0, cellOf ((hb.block _ HI.out.hb.2).trans hb1) 0, f.1, f.2.1, f.2.2.1, f.2.2.2⟩)
          have hby : Byt (encSt 1 [rowT3 L]) := by
            have := encSt_byt (k := 1) (p := pOne) (ms := [((⟨none, 0, 0⟩ : Sl), rowT3 L)]) (stV_one L HLa.out.ris hsh)
            exact this
          have HBy := hid hby
          obtain ⟨bs, hbs⟩ : ∃ bs, bs = encSt 1 [rowT3 L] := ⟨_, rfl⟩
          rw [← hbs] at HBy
          simp only [← hbs] at SNA SNB
          obtain ⟨c0, c1, f0, f1, f2, f3⟩ := FC.out wr (Below.refl _ _)
          clear ha1 ha2 hb1 hb2 hby hbs hj
          go_upto_region 33 with (go_at_call 31; (refine (SNA.out wr (Below.refl _ _)).mono ?_; rintro e w5 ⟨hb5, va, rfl, hva⟩; have B5 := hid hb5; have HVA := hid hva; clear hb5 hva c0 c1 f0 f1 f2 f3))
          obtain ⟨c0, c1, f0, f1, f2, f3⟩ := FC.out w5 B5.out
          go_upto_region 34 with (go_at_call 31; (refine (SNB.out w5 B5.out).mono ?_; rintro e w6 ⟨hb6, vb, rfl, hvb⟩; have B6 := hid (TR.out B5.out hb6); have B56 := hid hb6; have HVB := hid hvb; clear hb6 hvb c0 c1 f0 f1 f2 f3))
          obtain ⟨c0, c1, f0, f1, f2, f3⟩ := FC.out w6 B6.out
          go_wp2_with (first
            | (go_at_call 24; (refine (same_1 w6 aa ba ac bc L (SA.out w6 B6.out) (SB.out w6 B6.out)).mono ?_; rintro e w7 ⟨rfl, hb7⟩; have B7 := hid (TR.out B6.out hb7); have RA := hid ((HVA.out.rd HBy.out).below (Nat.le_refl _) (TR.out B56.out hb7)); have RB := hid ((HVB.out.rd HBy.out).below (Nat.le_refl _) hb7); clear hb7 c0 c1 f0 f1 f2 f3))
            | (go_at_call 33; (refine (bytes_any w7 va vb bs bs RA.out RB.out).mono ?_; rw [decide_eq_true rfl]; rintro e w8 ⟨rfl, rfl⟩)))
          go_ret
          exact ⟨rfl, (FP.out _ (HI.out.bel.trans (B7.out.mono HI.out.bel.size))).2.2⟩
        | succ gi =>
          have hji : j < i := by omega
          have hjI : (j : Int) < (i : Int) := by omega
          have hj0 : (0 : Int) ≤ (j : Int) := by omega
          have hi0 : ¬ (i : Int) = 0 := by omega
          have hrl : rotN i t j < i := rot_lt (by omega) t j
          obtain ⟨r, hr⟩ : ∃ r, r = rotN i t j := ⟨_, rfl⟩
          have hrv : (((j : Int) + t.tmod i).tmod i + i).tmod i = (r : Int) := by
            have h3 : 0 ≤ (((j : Int) + t.tmod i).tmod i + i).tmod i := Int.tmod_nonneg _ (by have := Int.lt_tmod_of_pos ((j : Int) + t.tmod i) (show (0 : Int) < i by omega); omega)
            rw [hr]; unfold rotN; omega
          rw [← hr] at hrl
          have q1 : -(i : Int) < t.tmod i := Int.lt_tmod_of_pos t (show (0 : Int) < i by omega)
          have q2 : t.tmod i < (i : Int) := Int.tmod_lt_of_pos t (by omega)
          have q3 : -(i : Int) < ((j : Int) + t.tmod i).tmod i := Int.lt_tmod_of_pos _ (show (0 : Int) < i by omega)
          have q4 : ((j : Int) + t.tmod i).tmod i < (i : Int) := Int.tmod_lt_of_pos _ (by omega)
          have hrI : (r : Int) < (i : Int) := by omega
          have hr0 : (0 : Int) ≤ (r : Int) := by omega
          obtain ⟨x, hx⟩ : ∃ x, keys[r]? = some x := ⟨keys[r]'(by rw [← Hk.out]; exact hrl), List.getElem?_eq_getElem _⟩
          have hWw := (FP.out wr HI.out.bel).2.2
          obtain ⟨⟨hx1, hx2⟩, b, off, eka, hcx⟩ := HK.out wr hWw r x hx
          subst eka
          have Hr := hid hr
          have Hj := hid hj
          have Hx := hid hx
          clear hr hx hj
          have HKL := hid (fun k (hk : k ∈ rotL keys t j) => (keys_low HK.out hk))
          go_upto_if 94 with fail
          go_cut [16, 17] (fun v16 v17 wc => OnI W3 wc BA BB L M)
          case first =>
            by_cases hje : j < en
            · have hjeI : (j : Int) < (en : Int) := by omega
              obtain ⟨y, hy⟩ : ∃ y, ex[j]? = some y := ⟨ex[j]'(by rw [← He.out]; exact hje), List.getElem?_eq_getElem _⟩
              obtain ⟨⟨hy1, hy2⟩, b2, off2, eea, hcy⟩ := HX.out wr hWw j y hy
              subst eea
              obtain ⟨ba, bc, hb1, hb2⟩ := HI.out.b
              have PUT := hid (fun (W : World) (hb : Below wr.heap.size wr W) => put_1 W ba bc M (y + 100000) 1 ⟨by omega, by omega⟩ ⟨by omega, by omega⟩ (hb2.cr.below (Nat.le_refl _) hb) (place_short HM.out (by rw [rotL_len]; omega) (y + 100000)))
              simp only [Hd.v, numH] at PUT
              have z0 := cellOf hb1 0
              simp only [List.getElem?_toArray, List.getElem?_cons_zero] at z0
              have KS : Hid (∀ W : World, Below wr.heap.size wr W → W.cell? ⟨b2, off2 + j, none⟩ = some (.int .i16 y) ∧ W.cell? ⟨BB, 0, none⟩ = some (.slice ba 1 bc)) := hid (fun W hb => ⟨(hb.cell (World.block_lt_of_cell? wr _ hcy)).trans hcy, (hb.cell (World.block_lt_of_cell? wr _ z0)).trans z0⟩)
              have B0 : Below wr.heap.size wr wr.drew := (Below.refl _ wr).drew
              have hyw : IntKind.i64.wrap y = y := by rw [IntKind.wrap_i64]; omega
              have hyw2 : IntKind.i64.wrap (y + 100000) = y + 100000 := by rw [IntKind.wrap_i64]; omega
              clear hb1 hb2 hcx hcy z0
              have HWw := hid hWw
              clear hWw
              go_upto_region 23 with fail
              go_cut [16, 17] (fun v16 v17 wc => ∃ C fa fc, v16 = .pointer (some ⟨C, 0, none⟩) ∧ v17 = .int .i64 0 ∧ wr.heap.size ≤ C ∧ BoxIn wr wc C fa fc (insI (y + 100000) 1 M))
              case first =>
                refine wp_region_held_drew (S := fun W => W.cell? ⟨b2, off2 + j, none⟩ = some (.int .i16 y) ∧ W.cell? ⟨BB, 0, none⟩ = some (.slice ba 1 bc)) (by kernel_rfl) (KS.out _ B0) (fun hHeld => ?_)
                refine wpAnyH_take (i := 0) (oi := ({ dst := some 96, op := Go.Op.load 27 (Go.Operand.tmp 11), type := 27, pos := "family.go:35", after := #[], guard := none } : Oper)) (v := .agg #[.slice ba 1 bc]) rfl (by kernel_rfl) (by kernel_rfl) (by kernel_rfl) (fun _ _ _ h => h) (Or.inl ⟨by rfl, ?_⟩) (by assumption) ?_
                · intro w hSw; (try dsimp only at hSw); (obtain ⟨hS1, hS2⟩ := hSw); go_simp
                try simp only [Act.put, List.setIfInBounds_toArray, List.set_cons_zero, List.set_cons_succ]
                refine wpAnyH_take (i := 1) (oi := ({ dst := some 97, op := Go.Op.move (Go.Operand.tmp 1), type := 66, pos := "family.go:35", after := #[], guard := none } : Oper)) (v := .slice (some ⟨b2, off2, none⟩) en ec) rfl (by kernel_rfl) (by kernel_rfl) (by kernel_rfl) (fun _ _ _ h => h) (Or.inl ⟨by rfl, ?_⟩) (by assumption) ?_
                · intro w hSw; (try dsimp only at hSw); (obtain ⟨hS1, hS2⟩ := hSw); go_simp
                try simp only [Act.put, List.setIfInBounds_toArray, List.set_cons_zero, List.set_cons_succ]
                refine wpAnyH_take (i := 2) (oi := ({ dst := some 98, op := Go.Op.move (Go.Operand.tmp 14), type := 3, pos := "family.go:35", after := #[], guard := none } : Oper)) (v := .int .i64 (j : Int)) rfl (by kernel_rfl) (by kernel_rfl) (by kernel_rfl) (fun _ _ _ h => h) (Or.inl ⟨by rfl, ?_⟩) (by assumption) ?_
                · intro w hSw; (try dsimp only at hSw); (obtain ⟨hS1, hS2⟩ := hSw); go_simp
                try simp only [Act.put, List.setIfInBounds_toArray, List.set_cons_zero, List.set_cons_succ]
                refine wpAnyH_take (i := 3) (oi := ({ dst := some 99, op := Go.Op.indexAddr 66 (Go.Operand.tmp 97) (Go.Operand.tmp 98), type := 0, pos := "family.go:35", after := #[{ on := 1, ground := Go.Ground.data }, { on := 2, ground := Go.Ground.data }], guard := none } : Oper)) (v := .pointer (some ⟨b2, off2 + j, none⟩)) rfl (by kernel_rfl) (by kernel_rfl) (by kernel_rfl) (fun _ _ _ h => h) (Or.inl ⟨by rfl, ?_⟩) (by assumption) ?_
                · intro w hSw; (try dsimp only at hSw); (obtain ⟨hS1, hS2⟩ := hSw); go_simp
                try simp only [Act.put, List.setIfInBounds_toArray, List.set_cons_zero, List.set_cons_succ]
                refine wpAnyH_take (i := 4) (oi := ({ dst := some 100, op := Go.Op.load 68 (Go.Operand.tmp 99), type := 68, pos := "family.go:35", after := #[{ on := 3, ground := Go.Ground.data }], guard := none } : Oper)) (v := .int .i16 y) rfl (by kernel_rfl) (by kernel_rfl) (by kernel_rfl) (fun _ _ _ h => h) (Or.inl ⟨by rfl, ?_⟩) (by assumption) ?_
                · intro w hSw; (try dsimp only at hSw); (obtain ⟨hS1, hS2⟩ := hSw); go_simp
                try simp only [Act.put, List.setIfInBounds_toArray, List.set_cons_zero, List.set_cons_succ]
                refine wpAnyH_take (i := 5) (oi := ({ dst := some 101, op := Go.Op.convert 68 2 (Go.Operand.tmp 100), type := 2, pos := "family.go:35", after := #[{ on := 4, ground := Go.Ground.data }], guard := none } : Oper)) (v := .int .i64 y) rfl (by kernel_rfl) (by kernel_rfl) (by kernel_rfl) (fun _ _ _ h => h) (Or.inl ⟨by rfl, ?_⟩) (by assumption) ?_
                · intro w hSw; (try dsimp only at hSw); (obtain ⟨hS1, hS2⟩ := hSw); go_simp
                try simp only [Act.put, List.setIfInBounds_toArray, List.set_cons_zero, List.set_cons_succ]
                refine wpAnyH_take (i := 6) (oi := ({ dst := some 102, op := Go.Op.binOp Go.BinOp.add 2 (Go.Operand.tmp 101) (Go.Operand.const (Go.Value.int Go.IntKind.i64 100000)) 2, type := 2, pos := "family.go:35", after := #[{ on := 5, ground := Go.Ground.data }], guard := none } : Oper)) (v := .int .i64 (y + 100000)) rfl (by kernel_rfl) (by kernel_rfl) (by kernel_rfl) (fun _ _ _ h => h) (Or.inl ⟨by rfl, ?_⟩) (by assumption) ?_
                · intro w hSw; (try dsimp only at hSw); (obtain ⟨hS1, hS2⟩ := hSw); go_simp
                try simp only [Act.put, List.setIfInBounds_toArray, List.set_cons_zero, List.set_cons_succ]
                refine wpAnyH_ready (rs := [7, 13]) (by kernel_rfl) (by simp) ?_
                refine AllReadyH.cons (o := ({ dst := some 103, op := Go.Op.call { callee := Go.Callee.value (Go.Operand.func 36), args := #[Go.Operand.tmp 102], argTypes := #[2] }, type := 31, pos := "family.go:35", after := #[{ on := 6, ground := Go.Ground.data }], guard := none } : Oper)) rfl (fun K hK => ?_) ?_
                · refine step_call rfl 36 _ _ rfl (enters_of Try.func36 (by kernel_rfl) rfl) [.int .i64 (y + 100000)] rfl (num_any wr.drew (y + 100000)) ?_
                  rintro e w6 ⟨rfl, hbw6⟩
                  refine ⟨_, rfl, ?_⟩
                  have Bw6 : Below wr.heap.size wr w6 := (B0).trans (hbw6.mono (B0).size)
                  refine hK.out _ _ (KS.out _ Bw6) (fun hHeldN => ?_)
                  clear hK K hHeld
                  have hHeld := hHeldN
                  clear hHeldN
                  try simp only [Act.put, List.setIfInBounds_toArray, List.set_cons_zero, List.set_cons_succ]
                  refine wpAnyH_ready (rs := [8, 13]) (by kernel_rfl) (by simp) ?_
                  refine AllReadyH.cons (o := ({ dst := some 104, op := Go.Op.call { callee := Go.Callee.value (Go.Operand.func 36), args := #[Go.Operand.const (Go.Value.int Go.IntKind.i64 1)], argTypes := #[2] }, type := 31, pos := "family.go:35", after := #[{ on := 7, ground := Go.Ground.chain }], guard := none } : Oper)) rfl (fun K hK => ?_) ?_
                  · refine step_call rfl 36 _ _ rfl (enters_of Try.func36 (by kernel_rfl) rfl) [.int .i64 (1)] rfl (num_any w6 (1)) ?_
                    rintro e w7 ⟨rfl, hbw7⟩
                    refine ⟨_, rfl, ?_⟩
                    have Bw7 : Below wr.heap.size wr w7 := (Bw6).trans (hbw7.mono (Bw6).size)
                    refine hK.out _ _ (KS.out _ Bw7) (fun hHeldN => ?_)
                    clear hK K hHeld
                    have hHeld := hHeldN
                    clear hHeldN
                    try simp only [Act.put, List.setIfInBounds_toArray, List.set_cons_zero, List.set_cons_succ]
                    refine wpAnyH_ready (rs := [9, 13]) (by kernel_rfl) (by simp) ?_
                    refine AllReadyH.cons (o := ({ dst := some 105, op := Go.Op.call { callee := Go.Callee.value (Go.Operand.func 12), args := #[Go.Operand.tmp 96, Go.Operand.const (Go.Value.int Go.IntKind.i64 0), Go.Operand.tmp 103, Go.Operand.tmp 104], argTypes := #[27, 3, 31, 31] }, type := 35, pos := "family.go:35", after := #[{ on := 0, ground := Go.Ground.data }, { on := 7, ground := Go.Ground.data }, { on := 8, ground := Go.Ground.data }, { on := 8, ground := Go.Ground.chain }], guard := none } : Oper)) rfl (fun K hK => ?_) ?_
                    · refine step_call rfl 12 _ _ rfl (enters_of Try.func12 (by kernel_rfl) rfl) [.agg #[.slice ba 1 bc], .int .i64 0, .agg #[.int .i64 1, .int .i64 (y + 100000), .string ⟨#[]⟩, .int .i64 0, .slice none 0 0], .agg #[.int .i64 1, .int .i64 (1), .string ⟨#[]⟩, .int .i64 0, .slice none 0 0]] rfl (PUT.out w7 (Bw7)) ?_
                      rintro e w9 ⟨fa, fn, fc, rfl, hb9, hfc, hs9⟩
                      refine ⟨_, rfl, ?_⟩
                      have hfn := told_len hs9
                      simp only [List.map_cons, List.map_nil, List.length_cons, List.length_nil, Nat.zero_add] at hfn
                      subst hfn
                      have B9 : Below wr.heap.size wr w9 := (Bw7).trans (hb9.mono (Bw7).size)
                      refine hK.out _ _ (KS.out _ B9) (fun hHeldN => ?_)
                      clear hK K hHeld
                      have hHeld := hHeldN
                      clear hHeldN
                      try simp only [Act.put, List.setIfInBounds_toArray, List.set_cons_zero, List.set_cons_succ]
                      refine wpAnyH_take (i := 10) (oi := ({ dst := some 95, op := Go.Op.move (Go.Operand.tmp 105), type := 35, pos := "family.go:35", after := #[{ on := 9, ground := Go.Ground.data }], guard := none } : Oper)) (v := .tuple #[.agg #[.slice fa 1 fc], .int .i64 0]) rfl (by kernel_rfl) (by kernel_rfl) (by kernel_rfl) (fun _ _ _ h => h) (Or.inl ⟨by rfl, ?_⟩) (by assumption) ?_
                      · intro w hSw; (try dsimp only at hSw); go_simp
                      try simp only [Act.put, List.setIfInBounds_toArray, List.set_cons_zero, List.set_cons_succ]
                      refine wpAnyH_take (i := 11) (oi := ({ dst := some 106, op := Go.Op.extract (Go.Operand.tmp 95) 0, type := 27, pos := "family.go:35", after := #[{ on := 10, ground := Go.Ground.data }], guard := none } : Oper)) (v := .agg #[.slice fa 1 fc]) rfl (by kernel_rfl) (by kernel_rfl) (by kernel_rfl) (fun _ _ _ h => h) (Or.inl ⟨by rfl, ?_⟩) (by assumption) ?_
                      · intro w hSw; (try dsimp only at hSw); go_simp
                      try simp only [Act.put, List.setIfInBounds_toArray, List.set_cons_zero, List.set_cons_succ]
                      refine wpAnyH_take (i := 12) (oi := ({ dst := some 107, op := Go.Op.extract (Go.Operand.tmp 95) 1, type := 34, pos := "family.go:35", after := #[{ on := 10, ground := Go.Ground.data }, { on := 14, ground := Go.Ground.gcOnly Go.Departure.lateStores }], guard := none } : Oper)) (v := .int .i64 0) rfl (by kernel_rfl) (by kernel_rfl) (by kernel_rfl) (fun _ _ _ h => h) (Or.inl ⟨by rfl, ?_⟩) (by assumption) ?_
                      · intro w hSw; (try dsimp only at hSw); go_simp
                      try simp only [Act.put, List.setIfInBounds_toArray, List.set_cons_zero, List.set_cons_succ]
                      refine wpAnyH_ready (rs := [13]) (by kernel_rfl) (by simp) ?_
                      refine AllReadyH.cons (o := ({ dst := some 16, op := Go.Op.alloc 27, type := 0, pos := "family.go:35", after := #[], guard := none } : Oper)) rfl (fun K hK => ?_) AllReadyH.nil
                      go_simp
                      have zc : (w9.alloc (.cells #[.slice none 0 0] 27)).heap[w9.heap.size]? = some (.cells #[.slice none 0 0] 27 (0, 0)) := heap_alloc_new w9 _
                      have hC : wr.heap.size ≤ w9.heap.size := (B9).size
                      refine hK.out _ _ (KS.out _ ((B9).alloc (B9).size (.cells #[.slice none 0 0] 27))) (fun hHeldN => ?_)
                      clear hK K hHeld
                      have hHeld := hHeldN
                      clear hHeldN
                      try simp only [Act.put, List.setIfInBounds_toArray, List.set_cons_zero, List.set_cons_succ]
                      refine wpAnyH_ready (rs := [14]) (by kernel_rfl) (by simp) ?_
                      refine AllReadyH.cons (o := ({ dst := none, op := Go.Op.store 27 (Go.Operand.tmp 16) (Go.Operand.tmp 106), type := 0, pos := "family.go:35", after := #[{ on := 13, ground := Go.Ground.data }, { on := 11, ground := Go.Ground.data }, { on := 9, ground := Go.Ground.chain }, { on := 0, ground := Go.Ground.phase }, { on := 1, ground := Go.Ground.phase }, { on := 2, ground := Go.Ground.phase }, { on := 3, ground := Go.Ground.phase }, { on := 4, ground := Go.Ground.phase }, { on := 5, ground := Go.Ground.phase }, { on := 6, ground := Go.Ground.phase }, { on := 7, ground := Go.Ground.phase }, { on := 8, ground := Go.Ground.phase }, { on := 9, ground := Go.Ground.phase }, { on := 10, ground := Go.Ground.phase }, { on := 11, ground := Go.Ground.phase }, { on := 12, ground := Go.Ground.textOnly Go.Departure.lateStores }, { on := 13, ground := Go.Ground.phase }], guard := none } : Oper)) rfl (fun K hK => ?_) AllReadyH.nil
                      have y9 := cellOf zc 0
                      have f9 := freeOf zc 0
                      simp only [List.getElem?_toArray, List.getElem?_cons_zero] at y9
                      have T9 := box_new (fc := fc) B9 hs9 (fun b hb => hb.2)
                      go_simp
                      refine hK.out _ _ (KS.out _ T9.1) (fun hHeldN => ?_)
                      clear hK K hHeld
                      have hHeld := hHeldN
                      clear hHeldN
                      try simp only [Act.put, List.setIfInBounds_toArray, List.set_cons_zero, List.set_cons_succ]
                      refine wpAnyH_take (i := 15) (oi := ({ dst := some 17, op := Go.Op.assign (Go.Operand.tmp 107), type := 34, pos := "family.go:35", after := #[{ on := 12, ground := Go.Ground.data }, { on := 14, ground := Go.Ground.chain }, { on := 0, ground := Go.Ground.phase }, { on := 1, ground := Go.Ground.phase }, { on := 2, ground := Go.Ground.phase }, { on := 3, ground := Go.Ground.phase }, { on := 4, ground := Go.Ground.phase }, { on := 5, ground := Go.Ground.phase }, { on := 6, ground := Go.Ground.phase }, { on := 7, ground := Go.Ground.phase }, { on := 8, ground := Go.Ground.phase }, { on := 9, ground := Go.Ground.phase }, { on := 10, ground := Go.Ground.phase }, { on := 11, ground := Go.Ground.phase }, { on := 12, ground := Go.Ground.phase }, { on := 13, ground := Go.Ground.phase }, { on := 14, ground := Go.Ground.phase }], guard := none } : Oper)) (v := .int .i64 0) rfl (by kernel_rfl) (by kernel_rfl) (by kernel_rfl) (fun _ _ _ h => h) (Or.inl ⟨by rfl, ?_⟩) (by assumption) ?_
                      · intro w hSw; (try dsimp only at hSw); go_simp
                      try simp only [Act.put, List.setIfInBounds_toArray, List.set_cons_zero, List.set_cons_succ]
                      refine wpAnyH_done (by kernel_rfl) ?_ _
                      have HT9 := hid T9
                      have HC := hid hC
                      clear T9 y9 f9
                      go_wp2
                      go_meet
                      case rel => exact ⟨w9.heap.size, fa, fc, rfl, rfl, HC.out, HT9.out⟩
                    · refine AllReadyH.cons (o := ({ dst := some 16, op := Go.Op.alloc 27, type := 0, pos := "family.go:35", after := #[], guard := none } : Oper)) rfl (fun K hK => ?_) AllReadyH.nil
                      go_simp
                      have zc : (w7.alloc (.cells #[.slice none 0 0] 27)).heap[w7.heap.size]? = some (.cells #[.slice none 0 0] 27 (0, 0)) := heap_alloc_new w7 _
                      have hC : wr.heap.size ≤ w7.heap.size := (Bw7).size
                      refine hK.out _ _ (KS.out _ ((Bw7).alloc (Bw7).size (.cells #[.slice none 0 0] 27))) (fun hHeldN => ?_)
                      clear hK K hHeld
                      have hHeld := hHeldN
                      clear hHeldN
                      try simp only [Act.put, List.setIfInBounds_toArray, List.set_cons_zero, List.set_cons_succ]
                      refine wpAnyH_ready (rs := [9]) (by kernel_rfl) (by simp) ?_
                      refine AllReadyH.cons (o := ({ dst := some 105, op := Go.Op.call { callee := Go.Callee.value (Go.Operand.func 12), args := #[Go.Operand.tmp 96, Go.Operand.const (Go.Value.int Go.IntKind.i64 0), Go.Operand.tmp 103, Go.Operand.tmp 104], argTypes := #[27, 3, 31, 31] }, type := 35, pos := "family.go:35", after := #[{ on := 0, ground := Go.Ground.data }, { on := 7, ground := Go.Ground.data }, { on := 8, ground := Go.Ground.data }, { on := 8, ground := Go.Ground.chain }], guard := none } : Oper)) rfl (fun K hK => ?_) AllReadyH.nil
                      refine step_call rfl 12 _ _ rfl (enters_of Try.func12 (by kernel_rfl) rfl) [.agg #[.slice ba 1 bc], .int .i64 0, .agg #[.int .i64 1, .int .i64 (y + 100000), .string ⟨#[]⟩, .int .i64 0, .slice none 0 0], .agg #[.int .i64 1, .int .i64 (1), .string ⟨#[]⟩, .int .i64 0, .slice none 0 0]] rfl (PUT.out (w7.alloc (.cells #[.slice none 0 0] 27)) ((Bw7).alloc (Bw7).size (.cells #[.slice none 0 0] 27))) ?_
                      rintro e w9 ⟨fa, fn, fc, rfl, hb9, hfc, hs9⟩
                      refine ⟨_, rfl, ?_⟩
                      have hfn := told_len hs9
                      simp only [List.map_cons, List.map_nil, List.length_cons, List.length_nil, Nat.zero_add] at hfn
                      subst hfn
                      have B9 : Below wr.heap.size wr w9 := ((Bw7).alloc (Bw7).size (.cells #[.slice none 0 0] 27)).trans (hb9.mono ((Bw7).alloc (Bw7).size (.cells #[.slice none 0 0] 27)).size)
                      have hCl := (Array.getElem?_eq_some_iff.1 zc).1
                      have zc9 := (hb9.block _ hCl).trans zc
                      refine hK.out _ _ (KS.out _ B9) (fun hHeldN => ?_)
                      clear hK K hHeld
                      have hHeld := hHeldN
                      clear hHeldN
                      try simp only [Act.put, List.setIfInBounds_toArray, List.set_cons_zero, List.set_cons_succ]
                      refine wpAnyH_take (i := 10) (oi := ({ dst := some 95, op := Go.Op.move (Go.Operand.tmp 105), type := 35, pos := "family.go:35", after := #[{ on := 9, ground := Go.Ground.data }], guard := none } : Oper)) (v := .tuple #[.agg #[.slice fa 1 fc], .int .i64 0]) rfl (by kernel_rfl) (by kernel_rfl) (by kernel_rfl) (fun _ _ _ h => h) (Or.inl ⟨by rfl, ?_⟩) (by assumption) ?_
                      · intro w hSw; (try dsimp only at hSw); go_simp
                      try simp only [Act.put, List.setIfInBounds_toArray, List.set_cons_zero, List.set_cons_succ]
                      refine wpAnyH_take (i := 11) (oi := ({ dst := some 106, op := Go.Op.extract (Go.Operand.tmp 95) 0, type := 27, pos := "family.go:35", after := #[{ on := 10, ground := Go.Ground.data }], guard := none } : Oper)) (v := .agg #[.slice fa 1 fc]) rfl (by kernel_rfl) (by kernel_rfl) (by kernel_rfl) (fun _ _ _ h => h) (Or.inl ⟨by rfl, ?_⟩) (by assumption) ?_
                      · intro w hSw; (try dsimp only at hSw); go_simp
                      try simp only [Act.put, List.setIfInBounds_toArray, List.set_cons_zero, List.set_cons_succ]
                      refine wpAnyH_take (i := 12) (oi := ({ dst := some 107, op := Go.Op.extract (Go.Operand.tmp 95) 1, type := 34, pos := "family.go:35", after := #[{ on := 10, ground := Go.Ground.data }, { on := 14, ground := Go.Ground.gcOnly Go.Departure.lateStores }], guard := none } : Oper)) (v := .int .i64 0) rfl (by kernel_rfl) (by kernel_rfl) (by kernel_rfl) (fun _ _ _ h => h) (Or.inl ⟨by rfl, ?_⟩) (by assumption) ?_
                      · intro w hSw; (try dsimp only at hSw); go_simp
                      try simp only [Act.put, List.setIfInBounds_toArray, List.set_cons_zero, List.set_cons_succ]
                      refine wpAnyH_ready (rs := [14]) (by kernel_rfl) (by simp) ?_
                      refine AllReadyH.cons (o := ({ dst := none, op := Go.Op.store 27 (Go.Operand.tmp 16) (Go.Operand.tmp 106), type := 0, pos := "family.go:35", after := #[{ on := 13, ground := Go.Ground.data }, { on := 11, ground := Go.Ground.data }, { on := 9, ground := Go.Ground.chain }, { on := 0, ground := Go.Ground.phase }, { on := 1, ground := Go.Ground.phase }, { on := 2, ground := Go.Ground.phase }, { on := 3, ground := Go.Ground.phase }, { on := 4, ground := Go.Ground.phase }, { on := 5, ground := Go.Ground.phase }, { on := 6, ground := Go.Ground.phase }, { on := 7, ground := Go.Ground.phase }, { on := 8, ground := Go.Ground.phase }, { on := 9, ground := Go.Ground.phase }, { on := 10, ground := Go.Ground.phase }, { on := 11, ground := Go.Ground.phase }, { on := 12, ground := Go.Ground.textOnly Go.Departure.lateStores }, { on := 13, ground := Go.Ground.phase }], guard := none } : Oper)) rfl (fun K hK => ?_) AllReadyH.nil
                      have y9 := cellOf zc9 0
                      have f9 := freeOf zc9 0
                      simp only [List.getElem?_toArray, List.getElem?_cons_zero] at y9
                      have T9 := box_in (fc := fc) (B9) hC zc9 (hs9.keep (fun b hb => rfl)) (fun b hb => by omega)
                      go_simp
                      refine hK.out _ _ (KS.out _ T9.1) (fun hHeldN => ?_)
                      clear hK K hHeld
                      have hHeld := hHeldN
                      clear hHeldN
                      try simp only [Act.put, List.setIfInBounds_toArray, List.set_cons_zero, List.set_cons_succ]
                      refine wpAnyH_take (i := 15) (oi := ({ dst := some 17, op := Go.Op.assign (Go.Operand.tmp 107), type := 34, pos := "family.go:35", after := #[{ on := 12, ground := Go.Ground.data }, { on := 14, ground := Go.Ground.chain }, { on := 0, ground := Go.Ground.phase }, { on := 1, ground := Go.Ground.phase }, { on := 2, ground := Go.Ground.phase }, { on := 3, ground := Go.Ground.phase }, { on := 4, ground := Go.Ground.phase }, { on := 5, ground := Go.Ground.phase }, { on := 6, ground := Go.Ground.phase }, { on := 7, ground := Go.Ground.phase }, { on := 8, ground := Go.Ground.phase }, { on := 9, ground := Go.Ground.phase }, { on := 10, ground := Go.Ground.phase }, { on := 11, ground := Go.Ground.phase }, { on := 12, ground := Go.Ground.phase }, { on := 13, ground := Go.Ground.phase }, { on := 14, ground := Go.Ground.phase }], guard := none } : Oper)) (v := .int .i64 0) rfl (by kernel_rfl) (by kernel_rfl) (by kernel_rfl) (fun _ _ _ h => h) (Or.inl ⟨by rfl, ?_⟩) (by assumption) ?_
                      · intro w hSw; (try dsimp only at hSw); go_simp
                      try simp only [Act.put, List.setIfInBounds_toArray, List.set_cons_zero, List.set_cons_succ]
                      refine wpAnyH_done (by kernel_rfl) ?_ _
                      have HT9 := hid T9
                      have HC := hid hC
                      clear T9 y9 f9
                      go_wp2
                      go_meet
                      case rel => exact ⟨w7.heap.size, fa, fc, rfl, rfl, HC.out, HT9.out⟩
                  · refine AllReadyH.cons (o := ({ dst := some 16, op := Go.Op.alloc 27, type := 0, pos := "family.go:35", after := #[], guard := none } : Oper)) rfl (fun K hK => ?_) AllReadyH.nil
                    go_simp
                    have zc : (w6.alloc (.cells #[.slice none 0 0] 27)).heap[w6.heap.size]? = some (.cells #[.slice none 0 0] 27 (0, 0)) := heap_alloc_new w6 _
                    have hC : wr.heap.size ≤ w6.heap.size := (Bw6).size
                    refine hK.out _ _ (KS.out _ ((Bw6).alloc (Bw6).size (.cells #[.slice none 0 0] 27))) (fun hHeldN => ?_)
                    clear hK K hHeld
                    have hHeld := hHeldN
                    clear hHeldN
                    try simp only [Act.put, List.setIfInBounds_toArray, List.set_cons_zero, List.set_cons_succ]
                    refine wpAnyH_ready (rs := [8]) (by kernel_rfl) (by simp) ?_
                    refine AllReadyH.cons (o := ({ dst := some 104, op := Go.Op.call { callee := Go.Callee.value (Go.Operand.func 36), args := #[Go.Operand.const (Go.Value.int Go.IntKind.i64 1)], argTypes := #[2] }, type := 31, pos := "family.go:35", after := #[{ on := 7, ground := Go.Ground.chain }], guard := none } : Oper)) rfl (fun K hK => ?_) AllReadyH.nil
                    refine step_call rfl 36 _ _ rfl (enters_of Try.func36 (by kernel_rfl) rfl) [.int .i64 (1)] rfl (num_any (w6.alloc (.cells #[.slice none 0 0] 27)) (1)) ?_
                    rintro e w7 ⟨rfl, hbw7⟩
                    refine ⟨_, rfl, ?_⟩
                    have Bw7 : Below wr.heap.size wr w7 := ((Bw6).alloc (Bw6).size (.cells #[.slice none 0 0] 27)).trans (hbw7.mono ((Bw6).alloc (Bw6).size (.cells #[.slice none 0 0] 27)).size)
                    have zc8 := (hbw7.block _ (Array.getElem?_eq_some_iff.1 zc).1).trans zc
                    refine hK.out _ _ (KS.out _ Bw7) (fun hHeldN => ?_)
                    clear hK K hHeld
                    have hHeld := hHeldN
                    clear hHeldN
                    try simp only [Act.put, List.setIfInBounds_toArray, List.set_cons_zero, List.set_cons_succ]
                    refine wpAnyH_ready (rs := [9]) (by kernel_rfl) (by simp) ?_
                    refine AllReadyH.cons (o := ({ dst := some 105, op := Go.Op.call { callee := Go.Callee.value (Go.Operand.func 12), args := #[Go.Operand.tmp 96, Go.Operand.const (Go.Value.int Go.IntKind.i64 0), Go.Operand.tmp 103, Go.Operand.tmp 104], argTypes := #[27, 3, 31, 31] }, type := 35, pos := "family.go:35", after := #[{ on := 0, ground := Go.Ground.data }, { on := 7, ground := Go.Ground.data }, { on := 8, ground := Go.Ground.data }, { on := 8, ground := Go.Ground.chain }], guard := none } : Oper)) rfl (fun K hK => ?_) AllReadyH.nil
                    refine step_call rfl 12 _ _ rfl (enters_of Try.func12 (by kernel_rfl) rfl) [.agg #[.slice ba 1 bc], .int .i64 0, .agg #[.int .i64 1, .int .i64 (y + 100000), .string ⟨#[]⟩, .int .i64 0, .slice none 0 0], .agg #[.int .i64 1, .int .i64 (1), .string ⟨#[]⟩, .int .i64 0, .slice none 0 0]] rfl (PUT.out w7 (Bw7)) ?_
                    rintro e w9 ⟨fa, fn, fc, rfl, hb9, hfc, hs9⟩
                    refine ⟨_, rfl, ?_⟩
                    have hfn := told_len hs9
                    simp only [List.map_cons, List.map_nil, List.length_cons, List.length_nil, Nat.zero_add] at hfn
                    subst hfn
                    have B9 : Below wr.heap.size wr w9 := (Bw7).trans (hb9.mono (Bw7).size)
                    have hCl := (Array.getElem?_eq_some_iff.1 zc8).1
                    have zc9 := (hb9.block _ hCl).trans zc8
                    refine hK.out _ _ (KS.out _ B9) (fun hHeldN => ?_)
                    clear hK K hHeld
                    have hHeld := hHeldN
                    clear hHeldN
                    try simp only [Act.put, List.setIfInBounds_toArray, List.set_cons_zero, List.set_cons_succ]
                    refine wpAnyH_take (i := 10) (oi := ({ dst := some 95, op := Go.Op.move (Go.Operand.tmp 105), type := 35, pos := "family.go:35", after := #[{ on := 9, ground := Go.Ground.data }], guard := none } : Oper)) (v := .tuple #[.agg #[.slice fa 1 fc], .int .i64 0]) rfl (by kernel_rfl) (by kernel_rfl) (by kernel_rfl) (fun _ _ _ h => h) (Or.inl ⟨by rfl, ?_⟩) (by assumption) ?_
                    · intro w hSw; (try dsimp only at hSw); go_simp
                    try simp only [Act.put, List.setIfInBounds_toArray, List.set_cons_zero, List.set_cons_succ]
                    refine wpAnyH_take (i := 11) (oi := ({ dst := some 106, op := Go.Op.extract (Go.Operand.tmp 95) 0, type := 27, pos := "family.go:35", after := #[{ on := 10, ground := Go.Ground.data }], guard := none } : Oper)) (v := .agg #[.slice fa 1 fc]) rfl (by kernel_rfl) (by kernel_rfl) (by kernel_rfl) (fun _ _ _ h => h) (Or.inl ⟨by rfl, ?_⟩) (by assumption) ?_
                    · intro w hSw; (try dsimp only at hSw); go_simp
                    try simp only [Act.put, List.setIfInBounds_toArray, List.set_cons_zero, List.set_cons_succ]
                    refine wpAnyH_take (i := 12) (oi := ({ dst := some 107, op := Go.Op.extract (Go.Operand.tmp 95) 1, type := 34, pos := "family.go:35", after := #[{ on := 10, ground := Go.Ground.data }, { on := 14, ground := Go.Ground.gcOnly Go.Departure.lateStores }], guard := none } : Oper)) (v := .int .i64 0) rfl (by kernel_rfl) (by kernel_rfl) (by kernel_rfl) (fun _ _ _ h => h) (Or.inl ⟨by rfl, ?_⟩) (by assumption) ?_
                    · intro w hSw; (try dsimp only at hSw); go_simp
                    try simp only [Act.put, List.setIfInBounds_toArray, List.set_cons_zero, List.set_cons_succ]
                    refine wpAnyH_ready (rs := [14]) (by kernel_rfl) (by simp) ?_
                    refine AllReadyH.cons (o := ({ dst := none, op := Go.Op.store 27 (Go.Operand.tmp 16) (Go.Operand.tmp 106), type := 0, pos := "family.go:35", after := #[{ on := 13, ground := Go.Ground.data }, { on := 11, ground := Go.Ground.data }, { on := 9, ground := Go.Ground.chain }, { on := 0, ground := Go.Ground.phase }, { on := 1, ground := Go.Ground.phase }, { on := 2, ground := Go.Ground.phase }, { on := 3, ground := Go.Ground.phase }, { on := 4, ground := Go.Ground.phase }, { on := 5, ground := Go.Ground.phase }, { on := 6, ground := Go.Ground.phase }, { on := 7, ground := Go.Ground.phase }, { on := 8, ground := Go.Ground.phase }, { on := 9, ground := Go.Ground.phase }, { on := 10, ground := Go.Ground.phase }, { on := 11, ground := Go.Ground.phase }, { on := 12, ground := Go.Ground.textOnly Go.Departure.lateStores }, { on := 13, ground := Go.Ground.phase }], guard := none } : Oper)) rfl (fun K hK => ?_) AllReadyH.nil
                    have y9 := cellOf zc9 0
                    have f9 := freeOf zc9 0
                    simp only [List.getElem?_toArray, List.getElem?_cons_zero] at y9
                    have T9 := box_in (fc := fc) (B9) hC zc9 (hs9.keep (fun b hb => rfl)) (fun b hb => by omega)
                    go_simp
                    refine hK.out _ _ (KS.out _ T9.1) (fun hHeldN => ?_)
                    clear hK K hHeld
                    have hHeld := hHeldN
                    clear hHeldN
                    try simp only [Act.put, List.setIfInBounds_toArray, List.set_cons_zero, List.set_cons_succ]
                    refine wpAnyH_take (i := 15) (oi := ({ dst := some 17, op := Go.Op.assign (Go.Operand.tmp 107), type := 34, pos := "family.go:35", after := #[{ on := 12, ground := Go.Ground.data }, { on := 14, ground := Go.Ground.chain }, { on := 0, ground := Go.Ground.phase }, { on := 1, ground := Go.Ground.phase }, { on := 2, ground := Go.Ground.phase }, { on := 3, ground := Go.Ground.phase }, { on := 4, ground := Go.Ground.phase }, { on := 5, ground := Go.Ground.phase }, { on := 6, ground := Go.Ground.phase }, { on := 7, ground := Go.Ground.phase }, { on := 8, ground := Go.Ground.phase }, { on := 9, ground := Go.Ground.phase }, { on := 10, ground := Go.Ground.phase }, { on := 11, ground := Go.Ground.phase }, { on := 12, ground := Go.Ground.phase }, { on := 13, ground := Go.Ground.phase }, { on := 14, ground := Go.Ground.phase }], guard := none } : Oper)) (v := .int .i64 0) rfl (by kernel_rfl) (by kernel_rfl) (by kernel_rfl) (fun _ _ _ h => h) (Or.inl ⟨by rfl, ?_⟩) (by assumption) ?_
                    · intro w hSw; (try dsimp only at hSw); go_simp
                    try simp only [Act.put, List.setIfInBounds_toArray, List.set_cons_zero, List.set_cons_succ]
                    refine wpAnyH_done (by kernel_rfl) ?_ _
                    have HT9 := hid T9
                    have HC := hid hC
                    clear T9 y9 f9
                    go_wp2
                    go_meet
                    case rel => exact ⟨w6.heap.size, fa, fc, rfl, rfl, HC.out, HT9.out⟩
                · refine AllReadyH.cons (o := ({ dst := some 16, op := Go.Op.alloc 27, type := 0, pos := "family.go:35", after := #[], guard := none } : Oper)) rfl (fun K hK => ?_) AllReadyH.nil
                  go_simp
                  have zc : (wr.drew.alloc (.cells #[.slice none 0 0] 27)).heap[wr.heap.size]? = some (.cells #[.slice none 0 0] 27 (0, 0)) := heap_alloc_new wr.drew _
                  have hC : wr.heap.size ≤ wr.heap.size := (B0).size
                  refine hK.out _ _ (KS.out _ ((B0).alloc (B0).size (.cells #[.slice none 0 0] 27))) (fun hHeldN => ?_)
                  clear hK K hHeld
                  have hHeld := hHeldN
                  clear hHeldN
                  try simp only [Act.put, List.setIfInBounds_toArray, List.set_cons_zero, List.set_cons_succ]
                  refine wpAnyH_ready (rs := [7]) (by kernel_rfl) (by simp) ?_
                  refine AllReadyH.cons (o := ({ dst := some 103, op := Go.Op.call { callee := Go.Callee.value (Go.Operand.func 36), args := #[Go.Operand.tmp 102], argTypes := #[2] }, type := 31, pos := "family.go:35", after := #[{ on := 6, ground := Go.Ground.data }], guard := none } : Oper)) rfl (fun K hK => ?_) AllReadyH.nil
                  refine step_call rfl 36 _ _ rfl (enters_of Try.func36 (by kernel_rfl) rfl) [.int .i64 (y + 100000)] rfl (num_any (wr.drew.alloc (.cells #[.slice none 0 0] 27)) (y + 100000)) ?_
                  rintro e w6 ⟨rfl, hbw6⟩
                  refine ⟨_, rfl, ?_⟩
                  have Bw6 : Below wr.heap.size wr w6 := ((B0).alloc (B0).size (.cells #[.slice none 0 0] 27)).trans (hbw6.mono ((B0).alloc (B0).size (.cells #[.slice none 0 0] 27)).size)
                  have zc7 := (hbw6.block _ (Array.getElem?_eq_some_iff.1 zc).1).trans zc
                  refine hK.out _ _ (KS.out _ Bw6) (fun hHeldN => ?_)
                  clear hK K hHeld
                  have hHeld := hHeldN
                  clear hHeldN
                  try simp only [Act.put, List.setIfInBounds_toArray, List.set_cons_zero, List.set_cons_succ]
                  refine wpAnyH_ready (rs := [8]) (by kernel_rfl) (by simp) ?_
                  refine AllReadyH.cons (o := ({ dst := some 104, op := Go.Op.call { callee := Go.Callee.value (Go.Operand.func 36), args := #[Go.Operand.const (Go.Value.int Go.IntKind.i64 1)], argTypes := #[2] }, type := 31, pos := "family.go:35", after := #[{ on := 7, ground := Go.Ground.chain }], guard := none } : Oper)) rfl (fun K hK => ?_) AllReadyH.nil
                  refine step_call rfl 36 _ _ rfl (enters_of Try.func36 (by kernel_rfl) rfl) [.int .i64 (1)] rfl (num_any w6 (1)) ?_
                  rintro e w7 ⟨rfl, hbw7⟩
                  refine ⟨_, rfl, ?_⟩
                  have Bw7 : Below wr.heap.size wr w7 := (Bw6).trans (hbw7.mono (Bw6).size)
                  have zc8 := (hbw7.block _ (Array.getElem?_eq_some_iff.1 zc7).1).trans zc7
                  refine hK.out _ _ (KS.out _ Bw7) (fun hHeldN => ?_)
                  clear hK K hHeld
                  have hHeld := hHeldN
                  clear hHeldN
                  try simp only [Act.put, List.setIfInBounds_toArray, List.set_cons_zero, List.set_cons_succ]
                  refine wpAnyH_ready (rs := [9]) (by kernel_rfl) (by simp) ?_
                  refine AllReadyH.cons (o := ({ dst := some 105, op := Go.Op.call { callee := Go.Callee.value (Go.Operand.func 12), args := #[Go.Operand.tmp 96, Go.Operand.const (Go.Value.int Go.IntKind.i64 0), Go.Operand.tmp 103, Go.Operand.tmp 104], argTypes := #[27, 3, 31, 31] }, type := 35, pos := "family.go:35", after := #[{ on := 0, ground := Go.Ground.data }, { on := 7, ground := Go.Ground.data }, { on := 8, ground := Go.Ground.data }, { on := 8, ground := Go.Ground.chain }], guard := none } : Oper)) rfl (fun K hK => ?_) AllReadyH.nil
                  refine step_call rfl 12 _ _ rfl (enters_of Try.func12 (by kernel_rfl) rfl) [.agg #[.slice ba 1 bc], .int .i64 0, .agg #[.int .i64 1, .int .i64 (y + 100000), .string ⟨#[]⟩, .int .i64 0, .slice none 0 0], .agg #[.int .i64 1, .int .i64 (1), .string ⟨#[]⟩, .int .i64 0, .slice none 0 0]] rfl (PUT.out w7 (Bw7)) ?_
                  rintro e w9 ⟨fa, fn, fc, rfl, hb9, hfc, hs9⟩
                  refine ⟨_, rfl, ?_⟩
                  have hfn := told_len hs9
                  simp only [List.map_cons, List.map_nil, List.length_cons, List.length_nil, Nat.zero_add] at hfn
                  subst hfn
                  have B9 : Below wr.heap.size wr w9 := (Bw7).trans (hb9.mono (Bw7).size)
                  have hCl := (Array.getElem?_eq_some_iff.1 zc8).1
                  have zc9 := (hb9.block _ hCl).trans zc8
                  refine hK.out _ _ (KS.out _ B9) (fun hHeldN => ?_)
                  clear hK K hHeld
                  have hHeld := hHeldN
                  clear hHeldN
                  try simp only [Act.put, List.setIfInBounds_toArray, List.set_cons_zero, List.set_cons_succ]
                  refine wpAnyH_take (i := 10) (oi := ({ dst := some 95, op := Go.Op.move (Go.Operand.tmp 105), type := 35, pos := "family.go:35", after := #[{ on := 9, ground := Go.Ground.data }], guard := none } : Oper)) (v := .tuple #[.agg #[.slice fa 1 fc], .int .i64 0]) rfl (by kernel_rfl) (by kernel_rfl) (by kernel_rfl) (fun _ _ _ h => h) (Or.inl ⟨by rfl, ?_⟩) (by assumption) ?_
                  · intro w hSw; (try dsimp only at hSw); go_simp
                  try simp only [Act.put, List.setIfInBounds_toArray, List.set_cons_zero, List.set_cons_succ]
                  refine wpAnyH_take (i := 11) (oi := ({ dst := some 106, op := Go.Op.extract (Go.Operand.tmp 95) 0, type := 27, pos := "family.go:35", after := #[{ on := 10, ground := Go.Ground.data }], guard := none } : Oper)) (v := .agg #[.slice fa 1 fc]) rfl (by kernel_rfl) (by kernel_rfl) (by kernel_rfl) (fun _ _ _ h => h) (Or.inl ⟨by rfl, ?_⟩) (by assumption) ?_
                  · intro w hSw; (try dsimp only at hSw); go_simp
                  try simp only [Act.put, List.setIfInBounds_toArray, List.set_cons_zero, List.set_cons_succ]
                  refine wpAnyH_take (i := 12) (oi := ({ dst := some 107, op := Go.Op.extract (Go.Operand.tmp 95) 1, type := 34, pos := "family.go:35", after := #[{ on := 10, ground := Go.Ground.data }, { on := 14, ground := Go.Ground.gcOnly Go.Departure.lateStores }], guard := none } : Oper)) (v := .int .i64 0) rfl (by kernel_rfl) (by kernel_rfl) (by kernel_rfl) (fun _ _ _ h => h) (Or.inl ⟨by rfl, ?_⟩) (by assumption) ?_
                  · intro w hSw; (try dsimp only at hSw); go_simp
                  try simp only [Act.put, List.setIfInBounds_toArray, List.set_cons_zero, List.set_cons_succ]
                  refine wpAnyH_ready (rs := [14]) (by kernel_rfl) (by simp) ?_
                  refine AllReadyH.cons (o := ({ dst := none, op := Go.Op.store 27 (Go.Operand.tmp 16) (Go.Operand.tmp 106), type := 0, pos := "family.go:35", after := #[{ on := 13, ground := Go.Ground.data }, { on := 11, ground := Go.Ground.data }, { on := 9, ground := Go.Ground.chain }, { on := 0, ground := Go.Ground.phase }, { on := 1, ground := Go.Ground.phase }, { on := 2, ground := Go.Ground.phase }, { on := 3, ground := Go.Ground.phase }, { on := 4, ground := Go.Ground.phase }, { on := 5, ground := Go.Ground.phase }, { on := 6, ground := Go.Ground.phase }, { on := 7, ground := Go.Ground.phase }, { on := 8, ground := Go.Ground.phase }, { on := 9, ground := Go.Ground.phase }, { on := 10, ground := Go.Ground.phase }, { on := 11, ground := Go.Ground.phase }, { on := 12, ground := Go.Ground.textOnly Go.Departure.lateStores }, { on := 13, ground := Go.Ground.phase }], guard := none } : Oper)) rfl (fun K hK => ?_) AllReadyH.nil
                  have y9 := cellOf zc9 0
                  have f9 := freeOf zc9 0
                  simp only [List.getElem?_toArray, List.getElem?_cons_zero] at y9
                  have T9 := box_in (fc := fc) (B9) hC zc9 (hs9.keep (fun b hb => rfl)) (fun b hb => by omega)
                  go_simp
                  refine hK.out _ _ (KS.out _ T9.1) (fun hHeldN => ?_)
                  clear hK K hHeld
                  have hHeld := hHeldN
                  clear hHeldN
                  try simp only [Act.put, List.setIfInBounds_toArray, List.set_cons_zero, List.set_cons_succ]
                  refine wpAnyH_take (i := 15) (oi := ({ dst := some 17, op := Go.Op.assign (Go.Operand.tmp 107), type := 34, pos := "family.go:35", after := #[{ on := 12, ground := Go.Ground.data }, { on := 14, ground := Go.Ground.chain }, { on := 0, ground := Go.Ground.phase }, { on := 1, ground := Go.Ground.phase }, { on := 2, ground := Go.Ground.phase }, { on := 3, ground := Go.Ground.phase }, { on := 4, ground := Go.Ground.phase }, { on := 5, ground := Go.Ground.phase }, { on := 6, ground := Go.Ground.phase }, { on := 7, ground := Go.Ground.phase }, { on := 8, ground := Go.Ground.phase }, { on := 9, ground := Go.Ground.phase }, { on := 10, ground := Go.Ground.phase }, { on := 11, ground := Go.Ground.phase }, { on := 12, ground := Go.Ground.phase }, { on := 13, ground := Go.Ground.phase }, { on := 14, ground := Go.Ground.phase }], guard := none } : Oper)) (v := .int .i64 0) rfl (by kernel_rfl) (by kernel_rfl) (by kernel_rfl) (fun _ _ _ h => h) (Or.inl ⟨by rfl, ?_⟩) (by assumption) ?_
                  · intro w hSw; (try dsimp only at hSw); go_simp
                  try simp only [Act.put, List.setIfInBounds_toArray, List.set_cons_zero, List.set_cons_succ]
                  refine wpAnyH_done (by kernel_rfl) ?_ _
                  have HT9 := hid T9
                  have HC := hid hC
                  clear T9 y9 f9
                  go_wp2
                  go_meet
                  case rel => exact ⟨wr.heap.size, fa, fc, rfl, rfl, HC.out, HT9.out⟩
              case rest =>
                obtain ⟨C, fa, fc, rfl, rfl, hC, hT⟩ := hcut
                have DEL := hid (fun (W : World) (hb : Below wc.heap.size wc W) => del_1 W fa fc (insI (y + 100000) 1 M) (y + 100000) ⟨by omega, by omega⟩ (hT.2.2.cr.below (Nat.le_refl _) hb))
                rw [ins_out _ _ _ HM.out.ris (HM.out.far (fun k hk => HKL.out k hk) (by omega))] at DEL
                simp only [Hd.v, numH] at DEL
                have z1 := cellOf hT.2.1 0
                simp only [List.getElem?_toArray, List.getElem?_cons_zero] at z1
                have hcy := (KS.out _ hT.1).1
                have KT : Hid (∀ W : World, Below wc.heap.size wc W → W.cell? ⟨b2, off2 + j, none⟩ = some (.int .i16 y) ∧ W.cell? ⟨C, 0, none⟩ = some (.slice fa 1 fc)) := hid (fun W hb => ⟨(hb.cell (World.block_lt_of_cell? wc _ hcy)).trans hcy, (hb.cell (World.block_lt_of_cell? wc _ z1)).trans z1⟩)
                have KT2 : Hid (∀ W : World, Below wc.heap.size wc W → ∀ v, (W.setCell ⟨BB, 0, none⟩ v).cell? ⟨b2, off2 + j, none⟩ = some (.int .i16 y) ∧ (W.setCell ⟨BB, 0, none⟩ v).cell? ⟨C, 0, none⟩ = some (.slice fa 1 fc)) := hid (fun W hb v => by
                  have hbl : b2 < w.heap.size := by
                    obtain ⟨_, b', off', e, c⟩ := HX.out w (Below.refl _ _) j y hy
                    cases e
                    exact World.block_lt_of_cell? w _ c
                  have h1 := HI.out.hb
                  obtain ⟨k1, k2⟩ := KT.out W hb
                  refine ⟨?_, ?_⟩
                  · rw [World.cell?_setCell_far _ _ _ _ (by show BB ≠ b2; omega)]; exact k1
                  · rw [World.cell?_setCell_far _ _ _ _ (by show BB ≠ C; omega)]; exact k2)
                have HT := hid hT
                have HIc := hid (HI.out.below hT.1)
                have Bc : Below wc.heap.size wc wc.drew := (Below.refl _ wc).drew
                clear hT hC hcy z1 KS PUT
                go_upto_region 25 with fail
                refine wp_region_held_drew (S := fun W => W.cell? ⟨b2, off2 + j, none⟩ = some (.int .i16 y) ∧ W.cell? ⟨C, 0, none⟩ = some (.slice fa 1 fc)) (by kernel_rfl) (KT.out _ Bc) (fun hHeld => ?_)
                refine wpAnyH_take (i := 0) (oi := ({ dst := some 110, op := Go.Op.load 27 (Go.Operand.tmp 16), type := 27, pos := "family.go:37", after := #[], guard := none } : Oper)) (v := .agg #[.slice fa 1 fc]) rfl (by kernel_rfl) (by kernel_rfl) (by kernel_rfl) (fun _ _ _ h => h) (Or.inl ⟨by rfl, ?_⟩) (by assumption) ?_
                · intro w hSw; (try dsimp only at hSw); (obtain ⟨hS1, hS2⟩ := hSw); go_simp
                try simp only [Act.put, List.setIfInBounds_toArray, List.set_cons_zero, List.set_cons_succ]
                refine wpAnyH_take (i := 1) (oi := ({ dst := some 111, op := Go.Op.move (Go.Operand.tmp 1), type := 66, pos := "family.go:37", after := #[], guard := none } : Oper)) (v := .slice (some ⟨b2, off2, none⟩) en ec) rfl (by kernel_rfl) (by kernel_rfl) (by kernel_rfl) (fun _ _ _ h => h) (Or.inl ⟨by rfl, ?_⟩) (by assumption) ?_
                · intro w hSw; (try dsimp only at hSw); (obtain ⟨hS1, hS2⟩ := hSw); go_simp
                try simp only [Act.put, List.setIfInBounds_toArray, List.set_cons_zero, List.set_cons_succ]
                refine wpAnyH_take (i := 2) (oi := ({ dst := some 112, op := Go.Op.move (Go.Operand.tmp 14), type := 3, pos := "family.go:37", after := #[], guard := none } : Oper)) (v := .int .i64 (j : Int)) rfl (by kernel_rfl) (by kernel_rfl) (by kernel_rfl) (fun _ _ _ h => h) (Or.inl ⟨by rfl, ?_⟩) (by assumption) ?_
                · intro w hSw; (try dsimp only at hSw); (obtain ⟨hS1, hS2⟩ := hSw); go_simp
                try simp only [Act.put, List.setIfInBounds_toArray, List.set_cons_zero, List.set_cons_succ]
                refine wpAnyH_take (i := 3) (oi := ({ dst := some 113, op := Go.Op.indexAddr 66 (Go.Operand.tmp 111) (Go.Operand.tmp 112), type := 0, pos := "family.go:37", after := #[{ on := 1, ground := Go.Ground.data }, { on := 2, ground := Go.Ground.data }], guard := none } : Oper)) (v := .pointer (some ⟨b2, off2 + j, none⟩)) rfl (by kernel_rfl) (by kernel_rfl) (by kernel_rfl) (fun _ _ _ h => h) (Or.inl ⟨by rfl, ?_⟩) (by assumption) ?_
                · intro w hSw; (try dsimp only at hSw); (obtain ⟨hS1, hS2⟩ := hSw); go_simp
                try simp only [Act.put, List.setIfInBounds_toArray, List.set_cons_zero, List.set_cons_succ]
                refine wpAnyH_take (i := 4) (oi := ({ dst := some 114, op := Go.Op.load 68 (Go.Operand.tmp 113), type := 68, pos := "family.go:37", after := #[{ on := 3, ground := Go.Ground.data }], guard := none } : Oper)) (v := .int .i16 y) rfl (by kernel_rfl) (by kernel_rfl) (by kernel_rfl) (fun _ _ _ h => h) (Or.inl ⟨by rfl, ?_⟩) (by assumption) ?_
                · intro w hSw; (try dsimp only at hSw); (obtain ⟨hS1, hS2⟩ := hSw); go_simp
                try simp only [Act.put, List.setIfInBounds_toArray, List.set_cons_zero, List.set_cons_succ]
                refine wpAnyH_take (i := 5) (oi := ({ dst := some 115, op := Go.Op.convert 68 2 (Go.Operand.tmp 114), type := 2, pos := "family.go:37", after := #[{ on := 4, ground := Go.Ground.data }], guard := none } : Oper)) (v := .int .i64 y) rfl (by kernel_rfl) (by kernel_rfl) (by kernel_rfl) (fun _ _ _ h => h) (Or.inl ⟨by rfl, ?_⟩) (by assumption) ?_
                · intro w hSw; (try dsimp only at hSw); (obtain ⟨hS1, hS2⟩ := hSw); go_simp
                try simp only [Act.put, List.setIfInBounds_toArray, List.set_cons_zero, List.set_cons_succ]
                refine wpAnyH_take (i := 6) (oi := ({ dst := some 116, op := Go.Op.binOp Go.BinOp.add 2 (Go.Operand.tmp 115) (Go.Operand.const (Go.Value.int Go.IntKind.i64 100000)) 2, type := 2, pos := "family.go:37", after := #[{ on := 5, ground := Go.Ground.data }], guard := none } : Oper)) (v := .int .i64 (y + 100000)) rfl (by kernel_rfl) (by kernel_rfl) (by kernel_rfl) (fun _ _ _ h => h) (Or.inl ⟨by rfl, ?_⟩) (by assumption) ?_
                · intro w hSw; (try dsimp only at hSw); (obtain ⟨hS1, hS2⟩ := hSw); go_simp
                try simp only [Act.put, List.setIfInBounds_toArray, List.set_cons_zero, List.set_cons_succ]
                refine wpAnyH_ready (rs := [7]) (by kernel_rfl) (by simp) ?_
                refine AllReadyH.cons (o := ({ dst := some 117, op := Go.Op.call { callee := Go.Callee.value (Go.Operand.func 36), args := #[Go.Operand.tmp 116], argTypes := #[2] }, type := 31, pos := "family.go:37", after := #[{ on := 6, ground := Go.Ground.data }], guard := none } : Oper)) rfl (fun K hK => ?_) AllReadyH.nil
                refine step_call rfl 36 _ _ rfl (enters_of Try.func36 (by kernel_rfl) rfl) [.int .i64 (y + 100000)] rfl (num_any wc.drew (y + 100000)) ?_
                rintro e w6 ⟨rfl, hbw6⟩
                refine ⟨_, rfl, ?_⟩
                have Bw6 : Below wc.heap.size wc w6 := Bc.trans (hbw6.mono Bc.size)
                refine hK.out _ _ (KT.out _ Bw6) (fun hHeldN => ?_)
                clear hK K hHeld
                have hHeld := hHeldN
                clear hHeldN
                try simp only [Act.put, List.setIfInBounds_toArray, List.set_cons_zero, List.set_cons_succ]
                refine wpAnyH_ready (rs := [8]) (by kernel_rfl) (by simp) ?_
                refine AllReadyH.cons (o := ({ dst := some 118, op := Go.Op.call { callee := Go.Callee.value (Go.Operand.func 15), args := #[Go.Operand.tmp 110, Go.Operand.const (Go.Value.int Go.IntKind.i64 0), Go.Operand.tmp 117], argTypes := #[27, 3, 31] }, type := 27, pos := "family.go:37", after := #[{ on := 0, ground := Go.Ground.data }, { on := 7, ground := Go.Ground.data }, { on := 7, ground := Go.Ground.chain }], guard := none } : Oper)) rfl (fun K hK => ?_) AllReadyH.nil
                refine step_call rfl 15 _ _ rfl (enters_of Try.func15 (by kernel_rfl) rfl) [.agg #[.slice fa 1 fc], .int .i64 0, .agg #[.int .i64 1, .int .i64 (y + 100000), .string ⟨#[]⟩, .int .i64 0, .slice none 0 0]] rfl (DEL.out w6 Bw6) ?_
                rintro e w9 ⟨ga, gn, gc, rfl, hb9, hgc, hs9⟩
                refine ⟨_, rfl, ?_⟩
                have hgn := told_len hs9
                simp only [List.map_cons, List.map_nil, List.length_cons, List.length_nil, Nat.zero_add] at hgn
                subst hgn
                have B9 : Below wc.heap.size wc w9 := Bw6.trans (hb9.mono Bw6.size)
                have I9 := (HIc.out.swap.put (fc := gc) B9 Bw6.size hs9).swap
                obtain ⟨bA, bC, hbb, _⟩ := (HIc.out.below B9).b
                have y9 := cellOf hbb 0
                have f9 := freeOf hbb 0
                simp only [List.getElem?_toArray, List.getElem?_cons_zero] at y9
                refine hK.out _ _ (KT.out _ B9) (fun hHeldN => ?_)
                clear hK K hHeld
                have hHeld := hHeldN
                clear hHeldN
                try simp only [Act.put, List.setIfInBounds_toArray, List.set_cons_zero, List.set_cons_succ]
                refine wpAnyH_ready (rs := [9]) (by kernel_rfl) (by simp) ?_
                refine AllReadyH.cons (o := ({ dst := none, op := Go.Op.store 27 (Go.Operand.tmp 11) (Go.Operand.tmp 118), type := 0, pos := "family.go:37", after := #[{ on := 8, ground := Go.Ground.data }, { on := 8, ground := Go.Ground.chain }, { on := 0, ground := Go.Ground.phase }, { on := 1, ground := Go.Ground.phase }, { on := 2, ground := Go.Ground.phase }, { on := 3, ground := Go.Ground.phase }, { on := 4, ground := Go.Ground.phase }, { on := 5, ground := Go.Ground.phase }, { on := 6, ground := Go.Ground.phase }, { on := 7, ground := Go.Ground.phase }, { on := 8, ground := Go.Ground.phase }], guard := none } : Oper)) rfl (fun K hK => ?_) AllReadyH.nil
                go_simp
                refine hK.out _ _ (KT2.out _ B9 _) (fun hHeldN => ?_)
                clear hK K hHeld
                have hHeld := hHeldN
                clear hHeldN
                try simp only [Act.put, List.setIfInBounds_toArray, List.set_cons_zero, List.set_cons_succ]
                refine wpAnyH_done (by kernel_rfl) ?_ _
                have HI9 := hid I9
                clear I9 y9 f9 hbb
                go_wp2
                go_meet
                case rel => exact HI9.out
            · have hjeI : ¬ (j : Int) < (en : Int) := by omega
              go_wp2
              go_meet
              case rel => exact HI.out
          case rest =>
            have HIc := hid hcut
            clear hcut HI hcx hWw
            obtain ⟨wz, hwz⟩ : ∃ wz, wz = wr := ⟨_, rfl⟩
            obtain ⟨wr, hwr⟩ : ∃ wr, wr = wc := ⟨_, rfl⟩
            subst hwr
            have HI := HIc
            clear HIc
            obtain ⟨ba, bc, hb1, hb2⟩ := HI.out.b
            have Hb1 := hid hb1
            have PUT := hid (fun (W : World) (hb : Below wr.heap.size wr W) => put_1 W ba bc (M) (x) (7) ⟨by omega, by omega⟩ ⟨by omega, by omega⟩ (hb2.cr.below (Nat.le_refl _) hb) (place_short HM.out (by rw [rotL_len]; omega) x))
            simp only [Hd.v, numH] at PUT
            have z0 := cellOf hb1 0
            simp only [List.getElem?_toArray, List.getElem?_cons_zero] at z0
            have zz : Hid (∀ W : World, Below wr.heap.size wr W → W.cell? ⟨BB, 0, none⟩ = some (.slice ba 1 bc)) := hid (fun W hb => (hb.cell (World.block_lt_of_cell? wr _ z0)).trans z0)
            have B0 : Below wr.heap.size wr wr.drew := (Below.refl _ wr).drew
            have hxw : IntKind.i64.wrap x = x := by rw [IntKind.wrap_i64]; omega
            have hxw2 : IntKind.i64.wrap (2 * x) = 2 * x := by rw [IntKind.wrap_i64]; omega
            clear hb1 hb2
            go_upto_region 26 with fail
            go_cut [10] (fun v10 wc => v10 = .int .i64 0 ∧ OnI W3 wc BA BB L (insI x 7 M))
            case first =>
              refine wp_region_held_drew (S := fun _ => True) (by kernel_rfl) trivial (fun hHeld => ?_)
              refine wpAnyH_take (i := 1) (oi := ({ dst := some 121, op := Go.Op.move (Go.Operand.tmp 15), type := 68, pos := "family.go:40", after := #[], guard := none } : Oper)) (v := .int .i16 x) rfl (by kernel_rfl) (by kernel_rfl) (by kernel_rfl) (fun _ _ _ h => h) (Or.inl ⟨by rfl, ?_⟩) (by trivial) ?_
              · intro w hSw; (try dsimp only at hSw); go_simp
              try simp only [Act.put, List.setIfInBounds_toArray, List.set_cons_zero, List.set_cons_succ]
              refine wpAnyH_take (i := 2) (oi := ({ dst := some 122, op := Go.Op.convert 68 2 (Go.Operand.tmp 121), type := 2, pos := "family.go:40", after := #[{ on := 1, ground := Go.Ground.data }], guard := none } : Oper)) (v := .int .i64 x) rfl (by kernel_rfl) (by kernel_rfl) (by kernel_rfl) (fun _ _ _ h => h) (Or.inl ⟨by rfl, ?_⟩) (by trivial) ?_
              · intro w hSw; (try dsimp only at hSw); go_simp
              try simp only [Act.put, List.setIfInBounds_toArray, List.set_cons_zero, List.set_cons_succ]
              refine wpAnyH_ready (rs := [0, 3]) (by kernel_rfl) (by simp) ?_
              refine AllReadyH.cons (o := ({ dst := some 120, op := Go.Op.load 27 (Go.Operand.tmp 11), type := 27, pos := "family.go:40", after := #[], guard := none } : Oper)) rfl (fun K hK => ?_) ?_
              · go_simp
                refine hK.out _ _ trivial (fun hHeldN => ?_)
                clear hK K hHeld
                have hHeld := hHeldN
                clear hHeldN
                try simp only [Act.put, List.setIfInBounds_toArray, List.set_cons_zero, List.set_cons_succ]
                refine wpAnyH_ready (rs := [3]) (by kernel_rfl) (by simp) ?_
                refine AllReadyH.cons (o := ({ dst := some 123, op := Go.Op.call { callee := Go.Callee.value (Go.Operand.func 36), args := #[Go.Operand.tmp 122], argTypes := #[2] }, type := 31, pos := "family.go:40", after := #[{ on := 2, ground := Go.Ground.data }], guard := none } : Oper)) rfl (fun K hK => ?_) AllReadyH.nil
                refine step_call rfl 36 _ _ rfl (enters_of Try.func36 (by kernel_rfl) rfl) [.int .i64 (x)] rfl (num_any wr.drew (x)) ?_
                rintro e w6 ⟨rfl, hbw6⟩
                refine ⟨_, rfl, ?_⟩
                have Bw6 : Below wr.heap.size wr w6 := B0.trans (hbw6.mono B0.size)
                refine hK.out _ _ trivial (fun hHeldN => ?_)
                clear hK K hHeld
                have hHeld := hHeldN
                clear hHeldN
                try simp only [Act.put, List.setIfInBounds_toArray, List.set_cons_zero, List.set_cons_succ]
                refine wpAnyH_ready (rs := [4]) (by kernel_rfl) (by simp) ?_
                refine AllReadyH.cons (o := ({ dst := some 124, op := Go.Op.call { callee := Go.Callee.value (Go.Operand.func 36), args := #[Go.Operand.const (Go.Value.int Go.IntKind.i64 7)], argTypes := #[2] }, type := 31, pos := "family.go:40", after := #[{ on := 3, ground := Go.Ground.chain }], guard := none } : Oper)) rfl (fun K hK => ?_) AllReadyH.nil
                refine step_call rfl 36 _ _ rfl (enters_of Try.func36 (by kernel_rfl) rfl) [.int .i64 (7)] rfl (num_any w6 (7)) ?_
                rintro e w7 ⟨rfl, hbw7⟩
                refine ⟨_, rfl, ?_⟩
                have Bw7 : Below wr.heap.size wr w7 := Bw6.trans (hbw7.mono Bw6.size)
                refine hK.out _ _ trivial (fun hHeldN => ?_)
                clear hK K hHeld
                have hHeld := hHeldN
                clear hHeldN
                try simp only [Act.put, List.setIfInBounds_toArray, List.set_cons_zero, List.set_cons_succ]
                refine wpAnyH_ready (rs := [5]) (by kernel_rfl) (by simp) ?_
                refine AllReadyH.cons (o := ({ dst := some 125, op := Go.Op.call { callee := Go.Callee.value (Go.Operand.func 12), args := #[Go.Operand.tmp 120, Go.Operand.const (Go.Value.int Go.IntKind.i64 0), Go.Operand.tmp 123, Go.Operand.tmp 124], argTypes := #[27, 3, 31, 31] }, type := 35, pos := "family.go:40", after := #[{ on := 0, ground := Go.Ground.data }, { on := 3, ground := Go.Ground.data }, { on := 4, ground := Go.Ground.data }, { on := 4, ground := Go.Ground.chain }], guard := none } : Oper)) rfl (fun K hK => ?_) AllReadyH.nil
                refine step_call rfl 12 _ _ rfl (enters_of Try.func12 (by kernel_rfl) rfl) [.agg #[.slice ba 1 bc], .int .i64 0, .agg #[.int .i64 1, .int .i64 (x), .string ⟨#[]⟩, .int .i64 0, .slice none 0 0], .agg #[.int .i64 1, .int .i64 (7), .string ⟨#[]⟩, .int .i64 0, .slice none 0 0]] rfl (PUT.out w7 Bw7) ?_
                rintro e w9 ⟨fa, fn, fc, rfl, hb9, hfc, hs9⟩
                refine ⟨_, rfl, ?_⟩
                have hfn := told_len hs9
                simp only [List.map_cons, List.map_nil, List.length_cons, List.length_nil, Nat.zero_add] at hfn
                subst hfn
                have B9 := Bw7.trans (hb9.mono Bw7.size)
                have I9 := (HI.out.swap.put (fc := fc) B9 Bw7.size hs9).swap
                have bx9 := (B9.block _ HI.out.hb.2).trans Hb1.out
                have z9 := cellOf bx9 0
                have y9 := freeOf bx9 0
                simp only [List.getElem?_toArray, List.getElem?_cons_zero] at z9
                refine hK.out _ _ trivial (fun hHeldN => ?_)
                clear hK K hHeld
                have hHeld := hHeldN
                clear hHeldN
                try simp only [Act.put, List.setIfInBounds_toArray, List.set_cons_zero, List.set_cons_succ]
                refine wpAnyH_take (i := 6) (oi := ({ dst := some 119, op := Go.Op.move (Go.Operand.tmp 125), type := 35, pos := "family.go:40", after := #[{ on := 5, ground := Go.Ground.data }], guard := none } : Oper)) (v := .tuple #[.agg #[.slice fa 1 fc], .int .i64 0]) rfl (by kernel_rfl) (by kernel_rfl) (by kernel_rfl) (fun _ _ _ h => h) (Or.inl ⟨by rfl, ?_⟩) (by trivial) ?_
                · intro w hSw; (try dsimp only at hSw); go_simp
                try simp only [Act.put, List.setIfInBounds_toArray, List.set_cons_zero, List.set_cons_succ]
                refine wpAnyH_take (i := 7) (oi := ({ dst := some 126, op := Go.Op.extract (Go.Operand.tmp 119) 0, type := 27, pos := "family.go:40", after := #[{ on := 6, ground := Go.Ground.data }], guard := none } : Oper)) (v := .agg #[.slice fa 1 fc]) rfl (by kernel_rfl) (by kernel_rfl) (by kernel_rfl) (fun _ _ _ h => h) (Or.inl ⟨by rfl, ?_⟩) (by trivial) ?_
                · intro w hSw; (try dsimp only at hSw); go_simp
                try simp only [Act.put, List.setIfInBounds_toArray, List.set_cons_zero, List.set_cons_succ]
                refine wpAnyH_take (i := 8) (oi := ({ dst := some 127, op := Go.Op.extract (Go.Operand.tmp 119) 1, type := 34, pos := "family.go:40", after := #[{ on := 6, ground := Go.Ground.data }, { on := 9, ground := Go.Ground.gcOnly Go.Departure.lateStores }], guard := none } : Oper)) (v := .int .i64 0) rfl (by kernel_rfl) (by kernel_rfl) (by kernel_rfl) (fun _ _ _ h => h) (Or.inl ⟨by rfl, ?_⟩) (by trivial) ?_
                · intro w hSw; (try dsimp only at hSw); go_simp
                try simp only [Act.put, List.setIfInBounds_toArray, List.set_cons_zero, List.set_cons_succ]
                refine wpAnyH_ready (rs := [9]) (by kernel_rfl) (by simp) ?_
                refine AllReadyH.cons (o := ({ dst := none, op := Go.Op.store 27 (Go.Operand.tmp 11) (Go.Operand.tmp 126), type := 0, pos := "family.go:40", after := #[{ on := 7, ground := Go.Ground.data }, { on := 5, ground := Go.Ground.chain }, { on := 0, ground := Go.Ground.phase }, { on := 1, ground := Go.Ground.phase }, { on := 2, ground := Go.Ground.phase }, { on := 3, ground := Go.Ground.phase }, { on := 4, ground := Go.Ground.phase }, { on := 5, ground := Go.Ground.phase }, { on := 6, ground := Go.Ground.phase }, { on := 7, ground := Go.Ground.phase }, { on := 8, ground := Go.Ground.textOnly Go.Departure.lateStores }], guard := none } : Oper)) rfl (fun K hK => ?_) AllReadyH.nil
                go_simp
                refine hK.out _ _ trivial (fun hHeldN => ?_)
                clear hK K hHeld
                have hHeld := hHeldN
                clear hHeldN
                try simp only [Act.put, List.setIfInBounds_toArray, List.set_cons_zero, List.set_cons_succ]
                refine wpAnyH_take (i := 10) (oi := ({ dst := some 10, op := Go.Op.assign (Go.Operand.tmp 127), type := 34, pos := "family.go:40", after := #[{ on := 8, ground := Go.Ground.data }, { on := 9, ground := Go.Ground.chain }, { on := 0, ground := Go.Ground.phase }, { on := 1, ground := Go.Ground.phase }, { on := 2, ground := Go.Ground.phase }, { on := 3, ground := Go.Ground.phase }, { on := 4, ground := Go.Ground.phase }, { on := 5, ground := Go.Ground.phase }, { on := 6, ground := Go.Ground.phase }, { on := 7, ground := Go.Ground.phase }, { on := 8, ground := Go.Ground.phase }, { on := 9, ground := Go.Ground.phase }], guard := none } : Oper)) (v := .int .i64 0) rfl (by kernel_rfl) (by kernel_rfl) (by kernel_rfl) (fun _ _ _ h => h) (Or.inl ⟨by rfl, ?_⟩) (by trivial) ?_
                · intro w hSw; (try dsimp only at hSw); go_simp
                try simp only [Act.put, List.setIfInBounds_toArray, List.set_cons_zero, List.set_cons_succ]
                refine wpAnyH_done (by kernel_rfl) ?_ _
                have HI9 := hid I9
                clear I9 z9 y9 bx9
                go_wp2
                go_meet
                case rel => exact ⟨rfl, HI9.out⟩
              · refine AllReadyH.cons (o := ({ dst := some 123, op := Go.Op.call { callee := Go.Callee.value (Go.Operand.func 36), args := #[Go.Operand.tmp 122], argTypes := #[2] }, type := 31, pos := "family.go:40", after := #[{ on := 2, ground := Go.Ground.data }], guard := none } : Oper)) rfl (fun K hK => ?_) AllReadyH.nil
                refine step_call rfl 36 _ _ rfl (enters_of Try.func36 (by kernel_rfl) rfl) [.int .i64 (x)] rfl (num_any wr.drew (x)) ?_
                rintro e w6 ⟨rfl, hbw6⟩
                refine ⟨_, rfl, ?_⟩
                have Bw6 : Below wr.heap.size wr w6 := B0.trans (hbw6.mono B0.size)
                refine hK.out _ _ trivial (fun hHeldN => ?_)
                clear hK K hHeld
                have hHeld := hHeldN
                clear hHeldN
                try simp only [Act.put, List.setIfInBounds_toArray, List.set_cons_zero, List.set_cons_succ]
                have z6 := zz.out _ Bw6
                refine wpAnyH_ready (rs := [0, 4]) (by kernel_rfl) (by simp) ?_
                refine AllReadyH.cons (o := ({ dst := some 120, op := Go.Op.load 27 (Go.Operand.tmp 11), type := 27, pos := "family.go:40", after := #[], guard := none } : Oper)) rfl (fun K hK => ?_) ?_
                · go_simp
                  refine hK.out _ _ trivial (fun hHeldN => ?_)
                  clear hK K hHeld
                  have hHeld := hHeldN
                  clear hHeldN
                  try simp only [Act.put, List.setIfInBounds_toArray, List.set_cons_zero, List.set_cons_succ]
                  refine wpAnyH_ready (rs := [4]) (by kernel_rfl) (by simp) ?_
                  refine AllReadyH.cons (o := ({ dst := some 124, op := Go.Op.call { callee := Go.Callee.value (Go.Operand.func 36), args := #[Go.Operand.const (Go.Value.int Go.IntKind.i64 7)], argTypes := #[2] }, type := 31, pos := "family.go:40", after := #[{ on := 3, ground := Go.Ground.chain }], guard := none } : Oper)) rfl (fun K hK => ?_) AllReadyH.nil
                  refine step_call rfl 36 _ _ rfl (enters_of Try.func36 (by kernel_rfl) rfl) [.int .i64 (7)] rfl (num_any w6 (7)) ?_
                  rintro e w7 ⟨rfl, hbw7⟩
                  refine ⟨_, rfl, ?_⟩
                  have Bw7 : Below wr.heap.size wr w7 := Bw6.trans (hbw7.mono Bw6.size)
                  refine hK.out _ _ trivial (fun hHeldN => ?_)
                  clear hK K hHeld
                  have hHeld := hHeldN
                  clear hHeldN
                  try simp only [Act.put, List.setIfInBounds_toArray, List.set_cons_zero, List.set_cons_succ]
                  refine wpAnyH_ready (rs := [5]) (by kernel_rfl) (by simp) ?_
                  refine AllReadyH.cons (o := ({ dst := some 125, op := Go.Op.call { callee := Go.Callee.value (Go.Operand.func 12), args := #[Go.Operand.tmp 120, Go.Operand.const (Go.Value.int Go.IntKind.i64 0), Go.Operand.tmp 123, Go.Operand.tmp 124], argTypes := #[27, 3, 31, 31] }, type := 35, pos := "family.go:40", after := #[{ on := 0, ground := Go.Ground.data }, { on := 3, ground := Go.Ground.data }, { on := 4, ground := Go.Ground.data }, { on := 4, ground := Go.Ground.chain }], guard := none } : Oper)) rfl (fun K hK => ?_) AllReadyH.nil
                  refine step_call rfl 12 _ _ rfl (enters_of Try.func12 (by kernel_rfl) rfl) [.agg #[.slice ba 1 bc], .int .i64 0, .agg #[.int .i64 1, .int .i64 (x), .string ⟨#[]⟩, .int .i64 0, .slice none 0 0], .agg #[.int .i64 1, .int .i64 (7), .string ⟨#[]⟩, .int .i64 0, .slice none 0 0]] rfl (PUT.out w7 Bw7) ?_
                  rintro e w9 ⟨fa, fn, fc, rfl, hb9, hfc, hs9⟩
                  refine ⟨_, rfl, ?_⟩
                  have hfn := told_len hs9
                  simp only [List.map_cons, List.map_nil, List.length_cons, List.length_nil, Nat.zero_add] at hfn
                  subst hfn
                  have B9 := Bw7.trans (hb9.mono Bw7.size)
                  have I9 := (HI.out.swap.put (fc := fc) B9 Bw7.size hs9).swap
                  have bx9 := (B9.block _ HI.out.hb.2).trans Hb1.out
                  have z9 := cellOf bx9 0
                  have y9 := freeOf bx9 0
                  simp only [List.getElem?_toArray, List.getElem?_cons_zero] at z9
                  refine hK.out _ _ trivial (fun hHeldN => ?_)
                  clear hK K hHeld
                  have hHeld := hHeldN
                  clear hHeldN
                  try simp only [Act.put, List.setIfInBounds_toArray, List.set_cons_zero, List.set_cons_succ]
                  refine wpAnyH_take (i := 6) (oi := ({ dst := some 119, op := Go.Op.move (Go.Operand.tmp 125), type := 35, pos := "family.go:40", after := #[{ on := 5, ground := Go.Ground.data }], guard := none } : Oper)) (v := .tuple #[.agg #[.slice fa 1 fc], .int .i64 0]) rfl (by kernel_rfl) (by kernel_rfl) (by kernel_rfl) (fun _ _ _ h => h) (Or.inl ⟨by rfl, ?_⟩) (by trivial) ?_
                  · intro w hSw; (try dsimp only at hSw); go_simp
                  try simp only [Act.put, List.setIfInBounds_toArray, List.set_cons_zero, List.set_cons_succ]
                  refine wpAnyH_take (i := 7) (oi := ({ dst := some 126, op := Go.Op.extract (Go.Operand.tmp 119) 0, type := 27, pos := "family.go:40", after := #[{ on := 6, ground := Go.Ground.data }], guard := none } : Oper)) (v := .agg #[.slice fa 1 fc]) rfl (by kernel_rfl) (by kernel_rfl) (by kernel_rfl) (fun _ _ _ h => h) (Or.inl ⟨by rfl, ?_⟩) (by trivial) ?_
                  · intro w hSw; (try dsimp only at hSw); go_simp
                  try simp only [Act.put, List.setIfInBounds_toArray, List.set_cons_zero, List.set_cons_succ]
                  refine wpAnyH_take (i := 8) (oi := ({ dst := some 127, op := Go.Op.extract (Go.Operand.tmp 119) 1, type := 34, pos := "family.go:40", after := #[{ on := 6, ground := Go.Ground.data }, { on := 9, ground := Go.Ground.gcOnly Go.Departure.lateStores }], guard := none } : Oper)) (v := .int .i64 0) rfl (by kernel_rfl) (by kernel_rfl) (by kernel_rfl) (fun _ _ _ h => h) (Or.inl ⟨by rfl, ?_⟩) (by trivial) ?_
                  · intro w hSw; (try dsimp only at hSw); go_simp
                  try simp only [Act.put, List.setIfInBounds_toArray, List.set_cons_zero, List.set_cons_succ]
                  refine wpAnyH_ready (rs := [9]) (by kernel_rfl) (by simp) ?_
                  refine AllReadyH.cons (o := ({ dst := none, op := Go.Op.store 27 (Go.Operand.tmp 11) (Go.Operand.tmp 126), type := 0, pos := "family.go:40", after := #[{ on := 7, ground := Go.Ground.data }, { on := 5, ground := Go.Ground.chain }, { on := 0, ground := Go.Ground.phase }, { on := 1, ground := Go.Ground.phase }, { on := 2, ground := Go.Ground.phase }, { on := 3, ground := Go.Ground.phase }, { on := 4, ground := Go.Ground.phase }, { on := 5, ground := Go.Ground.phase }, { on := 6, ground := Go.Ground.phase }, { on := 7, ground := Go.Ground.phase }, { on := 8, ground := Go.Ground.textOnly Go.Departure.lateStores }], guard := none } : Oper)) rfl (fun K hK => ?_) AllReadyH.nil
                  go_simp
                  refine hK.out _ _ trivial (fun hHeldN => ?_)
                  clear hK K hHeld
                  have hHeld := hHeldN
                  clear hHeldN
                  try simp only [Act.put, List.setIfInBounds_toArray, List.set_cons_zero, List.set_cons_succ]
                  refine wpAnyH_take (i := 10) (oi := ({ dst := some 10, op := Go.Op.assign (Go.Operand.tmp 127), type := 34, pos := "family.go:40", after := #[{ on := 8, ground := Go.Ground.data }, { on := 9, ground := Go.Ground.chain }, { on := 0, ground := Go.Ground.phase }, { on := 1, ground := Go.Ground.phase }, { on := 2, ground := Go.Ground.phase }, { on := 3, ground := Go.Ground.phase }, { on := 4, ground := Go.Ground.phase }, { on := 5, ground := Go.Ground.phase }, { on := 6, ground := Go.Ground.phase }, { on := 7, ground := Go.Ground.phase }, { on := 8, ground := Go.Ground.phase }, { on := 9, ground := Go.Ground.phase }], guard := none } : Oper)) (v := .int .i64 0) rfl (by kernel_rfl) (by kernel_rfl) (by kernel_rfl) (fun _ _ _ h => h) (Or.inl ⟨by rfl, ?_⟩) (by trivial) ?_
                  · intro w hSw; (try dsimp only at hSw); go_simp
                  try simp only [Act.put, List.setIfInBounds_toArray, List.set_cons_zero, List.set_cons_succ]
                  refine wpAnyH_done (by kernel_rfl) ?_ _
                  have HI9 := hid I9
                  clear I9 z9 y9 bx9
                  go_wp2
                  go_meet
                  case rel => exact ⟨rfl, HI9.out⟩
                · refine AllReadyH.cons (o := ({ dst := some 124, op := Go.Op.call { callee := Go.Callee.value (Go.Operand.func 36), args := #[Go.Operand.const (Go.Value.int Go.IntKind.i64 7)], argTypes := #[2] }, type := 31, pos := "family.go:40", after := #[{ on := 3, ground := Go.Ground.chain }], guard := none } : Oper)) rfl (fun K hK => ?_) AllReadyH.nil
                  refine step_call rfl 36 _ _ rfl (enters_of Try.func36 (by kernel_rfl) rfl) [.int .i64 (7)] rfl (num_any w6 (7)) ?_
                  rintro e w7 ⟨rfl, hbw7⟩
                  refine ⟨_, rfl, ?_⟩
                  have Bw7 : Below wr.heap.size wr w7 := Bw6.trans (hbw7.mono Bw6.size)
                  refine hK.out _ _ trivial (fun hHeldN => ?_)
                  clear hK K hHeld
                  have hHeld := hHeldN
                  clear hHeldN
                  try simp only [Act.put, List.setIfInBounds_toArray, List.set_cons_zero, List.set_cons_succ]
                  have z7 := zz.out _ Bw7
                  refine wpAnyH_ready (rs := [0]) (by kernel_rfl) (by simp) ?_
                  refine AllReadyH.cons (o := ({ dst := some 120, op := Go.Op.load 27 (Go.Operand.tmp 11), type := 27, pos := "family.go:40", after := #[], guard := none } : Oper)) rfl (fun K hK => ?_) AllReadyH.nil
                  go_simp
                  refine hK.out _ _ trivial (fun hHeldN => ?_)
                  clear hK K hHeld
                  have hHeld := hHeldN
                  clear hHeldN
                  try simp only [Act.put, List.setIfInBounds_toArray, List.set_cons_zero, List.set_cons_succ]
                  refine wpAnyH_ready (rs := [5]) (by kernel_rfl) (by simp) ?_
                  refine AllReadyH.cons (o := ({ dst := some 125, op := Go.Op.call { callee := Go.Callee.value (Go.Operand.func 12), args := #[Go.Operand.tmp 120, Go.Operand.const (Go.Value.int Go.IntKind.i64 0), Go.Operand.tmp 123, Go.Operand.tmp 124], argTypes := #[27, 3, 31, 31] }, type := 35, pos := "family.go:40", after := #[{ on := 0, ground := Go.Ground.data }, { on := 3, ground := Go.Ground.data }, { on := 4, ground := Go.Ground.data }, { on := 4, ground := Go.Ground.chain }], guard := none } : Oper)) rfl (fun K hK => ?_) AllReadyH.nil
                  refine step_call rfl 12 _ _ rfl (enters_of Try.func12 (by kernel_rfl) rfl) [.agg #[.slice ba 1 bc], .int .i64 0, .agg #[.int .i64 1, .int .i64 (x), .string ⟨#[]⟩, .int .i64 0, .slice none 0 0], .agg #[.int .i64 1, .int .i64 (7), .string ⟨#[]⟩, .int .i64 0, .slice none 0 0]] rfl (PUT.out w7 Bw7) ?_
                  rintro e w9 ⟨fa, fn, fc, rfl, hb9, hfc, hs9⟩
                  refine ⟨_, rfl, ?_⟩
                  have hfn := told_len hs9
                  simp only [List.map_cons, List.map_nil, List.length_cons, List.length_nil, Nat.zero_add] at hfn
                  subst hfn
                  have B9 := Bw7.trans (hb9.mono Bw7.size)
                  have I9 := (HI.out.swap.put (fc := fc) B9 Bw7.size hs9).swap
                  have bx9 := (B9.block _ HI.out.hb.2).trans Hb1.out
                  have z9 := cellOf bx9 0
                  have y9 := freeOf bx9 0
                  simp only [List.getElem?_toArray, List.getElem?_cons_zero] at z9
                  refine hK.out _ _ trivial (fun hHeldN => ?_)
                  clear hK K hHeld
                  have hHeld := hHeldN
                  clear hHeldN
                  try simp only [Act.put, List.setIfInBounds_toArray, List.set_cons_zero, List.set_cons_succ]
                  refine wpAnyH_take (i := 6) (oi := ({ dst := some 119, op := Go.Op.move (Go.Operand.tmp 125), type := 35, pos := "family.go:40", after := #[{ on := 5, ground := Go.Ground.data }], guard := none } : Oper)) (v := .tuple #[.agg #[.slice fa 1 fc], .int .i64 0]) rfl (by kernel_rfl) (by kernel_rfl) (by kernel_rfl) (fun _ _ _ h => h) (Or.inl ⟨by rfl, ?_⟩) (by trivial) ?_
                  · intro w hSw; (try dsimp only at hSw); go_simp
                  try simp only [Act.put, List.setIfInBounds_toArray, List.set_cons_zero, List.set_cons_succ]
                  refine wpAnyH_take (i := 7) (oi := ({ dst := some 126, op := Go.Op.extract (Go.Operand.tmp 119) 0, type := 27, pos := "family.go:40", after := #[{ on := 6, ground := Go.Ground.data }], guard := none } : Oper)) (v := .agg #[.slice fa 1 fc]) rfl (by kernel_rfl) (by kernel_rfl) (by kernel_rfl) (fun _ _ _ h => h) (Or.inl ⟨by rfl, ?_⟩) (by trivial) ?_
                  · intro w hSw; (try dsimp only at hSw); go_simp
                  try simp only [Act.put, List.setIfInBounds_toArray, List.set_cons_zero, List.set_cons_succ]
                  refine wpAnyH_take (i := 8) (oi := ({ dst := some 127, op := Go.Op.extract (Go.Operand.tmp 119) 1, type := 34, pos := "family.go:40", after := #[{ on := 6, ground := Go.Ground.data }, { on := 9, ground := Go.Ground.gcOnly Go.Departure.lateStores }], guard := none } : Oper)) (v := .int .i64 0) rfl (by kernel_rfl) (by kernel_rfl) (by kernel_rfl) (fun _ _ _ h => h) (Or.inl ⟨by rfl, ?_⟩) (by trivial) ?_
                  · intro w hSw; (try dsimp only at hSw); go_simp
                  try simp only [Act.put, List.setIfInBounds_toArray, List.set_cons_zero, List.set_cons_succ]
                  refine wpAnyH_ready (rs := [9]) (by kernel_rfl) (by simp) ?_
                  refine AllReadyH.cons (o := ({ dst := none, op := Go.Op.store 27 (Go.Operand.tmp 11) (Go.Operand.tmp 126), type := 0, pos := "family.go:40", after := #[{ on := 7, ground := Go.Ground.data }, { on := 5, ground := Go.Ground.chain }, { on := 0, ground := Go.Ground.phase }, { on := 1, ground := Go.Ground.phase }, { on := 2, ground := Go.Ground.phase }, { on := 3, ground := Go.Ground.phase }, { on := 4, ground := Go.Ground.phase }, { on := 5, ground := Go.Ground.phase }, { on := 6, ground := Go.Ground.phase }, { on := 7, ground := Go.Ground.phase }, { on := 8, ground := Go.Ground.textOnly Go.Departure.lateStores }], guard := none } : Oper)) rfl (fun K hK => ?_) AllReadyH.nil
                  go_simp
                  refine hK.out _ _ trivial (fun hHeldN => ?_)
                  clear hK K hHeld
                  have hHeld := hHeldN
                  clear hHeldN
                  try simp only [Act.put, List.setIfInBounds_toArray, List.set_cons_zero, List.set_cons_succ]
                  refine wpAnyH_take (i := 10) (oi := ({ dst := some 10, op := Go.Op.assign (Go.Operand.tmp 127), type := 34, pos := "family.go:40", after := #[{ on := 8, ground := Go.Ground.data }, { on := 9, ground := Go.Ground.chain }, { on := 0, ground := Go.Ground.phase }, { on := 1, ground := Go.Ground.phase }, { on := 2, ground := Go.Ground.phase }, { on := 3, ground := Go.Ground.phase }, { on := 4, ground := Go.Ground.phase }, { on := 5, ground := Go.Ground.phase }, { on := 6, ground := Go.Ground.phase }, { on := 7, ground := Go.Ground.phase }, { on := 8, ground := Go.Ground.phase }, { on := 9, ground := Go.Ground.phase }], guard := none } : Oper)) (v := .int .i64 0) rfl (by kernel_rfl) (by kernel_rfl) (by kernel_rfl) (fun _ _ _ h => h) (Or.inl ⟨by rfl, ?_⟩) (by trivial) ?_
                  · intro w hSw; (try dsimp only at hSw); go_simp
                  try simp only [Act.put, List.setIfInBounds_toArray, List.set_cons_zero, List.set_cons_succ]
                  refine wpAnyH_done (by kernel_rfl) ?_ _
                  have HI9 := hid I9
                  clear I9 z9 y9 bx9
                  go_wp2
                  go_meet
                  case rel => exact ⟨rfl, HI9.out⟩
            case rest =>
              obtain ⟨rfl, hcut2⟩ := hcut
              have HIc := hid hcut2
              clear hcut2 HI z0 zz PUT Hb1 B0
              obtain ⟨wr, hwr⟩ : ∃ wr, wr = wc := ⟨_, rfl⟩
              subst hwr
              have HI := HIc
              clear HIc
              obtain ⟨ba, bc, hb1, hb2⟩ := HI.out.b
              have Hb1 := hid hb1
              have PUT := hid (fun (W : World) (hb : Below wr.heap.size wr W) => put_1 W ba bc (insI x 7 M) (x) (2 * x) ⟨by omega, by omega⟩ ⟨by omega, by omega⟩ (hb2.cr.below (Nat.le_refl _) hb) (.inr (ins_short HM.out (by rw [rotL_len]; omega) x 7)))
              simp only [Hd.v, numH] at PUT
              have z0 := cellOf hb1 0
              simp only [List.getElem?_toArray, List.getElem?_cons_zero] at z0
              have zz : Hid (∀ W : World, Below wr.heap.size wr W → W.cell? ⟨BB, 0, none⟩ = some (.slice ba 1 bc)) := hid (fun W hb => (hb.cell (World.block_lt_of_cell? wr _ z0)).trans z0)
              have B0 : Below wr.heap.size wr wr.drew := (Below.refl _ wr).drew
              have hxw : IntKind.i64.wrap x = x := by rw [IntKind.wrap_i64]; omega
              have hxw2 : IntKind.i64.wrap (2 * x) = 2 * x := by rw [IntKind.wrap_i64]; omega
              clear hb1 hb2
              go_upto_region 29 with fail
              go_cut [10] (fun v10 wc => v10 = .int .i64 0 ∧ OnI W3 wc BA BB L (insI x (2 * x) (insI x 7 M)))
              case first =>
                refine wp_region_held_drew (S := fun _ => True) (by kernel_rfl) trivial (fun hHeld => ?_)
                refine wpAnyH_take (i := 1) (oi := ({ dst := some 132, op := Go.Op.move (Go.Operand.tmp 15), type := 68, pos := "family.go:44", after := #[], guard := none } : Oper)) (v := .int .i16 x) rfl (by kernel_rfl) (by kernel_rfl) (by kernel_rfl) (fun _ _ _ h => h) (Or.inl ⟨by rfl, ?_⟩) (by trivial) ?_
                · intro w hSw; (try dsimp only at hSw); go_simp
                try simp only [Act.put, List.setIfInBounds_toArray, List.set_cons_zero, List.set_cons_succ]
                refine wpAnyH_take (i := 2) (oi := ({ dst := some 133, op := Go.Op.convert 68 2 (Go.Operand.tmp 132), type := 2, pos := "family.go:44", after := #[{ on := 1, ground := Go.Ground.data }], guard := none } : Oper)) (v := .int .i64 x) rfl (by kernel_rfl) (by kernel_rfl) (by kernel_rfl) (fun _ _ _ h => h) (Or.inl ⟨by rfl, ?_⟩) (by trivial) ?_
                · intro w hSw; (try dsimp only at hSw); go_simp
                try simp only [Act.put, List.setIfInBounds_toArray, List.set_cons_zero, List.set_cons_succ]
                refine wpAnyH_take (i := 4) (oi := ({ dst := some 135, op := Go.Op.move (Go.Operand.tmp 15), type := 68, pos := "family.go:44", after := #[], guard := none } : Oper)) (v := .int .i16 x) rfl (by kernel_rfl) (by kernel_rfl) (by kernel_rfl) (fun _ _ _ h => h) (Or.inl ⟨by rfl, ?_⟩) (by trivial) ?_
                · intro w hSw; (try dsimp only at hSw); go_simp
                try simp only [Act.put, List.setIfInBounds_toArray, List.set_cons_zero, List.set_cons_succ]
                refine wpAnyH_take (i := 5) (oi := ({ dst := some 136, op := Go.Op.convert 68 2 (Go.Operand.tmp 135), type := 2, pos := "family.go:44", after := #[{ on := 4, ground := Go.Ground.data }], guard := none } : Oper)) (v := .int .i64 x) rfl (by kernel_rfl) (by kernel_rfl) (by kernel_rfl) (fun _ _ _ h => h) (Or.inl ⟨by rfl, ?_⟩) (by trivial) ?_
                · intro w hSw; (try dsimp only at hSw); go_simp
                try simp only [Act.put, List.setIfInBounds_toArray, List.set_cons_zero, List.set_cons_succ]
                refine wpAnyH_take (i := 6) (oi := ({ dst := some 137, op := Go.Op.binOp Go.BinOp.mul 2 (Go.Operand.const (Go.Value.int Go.IntKind.i64 2)) (Go.Operand.tmp 136) 2, type := 2, pos := "family.go:44", after := #[{ on := 5, ground := Go.Ground.data }], guard := none } : Oper)) (v := .int .i64 (2 * x)) rfl (by kernel_rfl) (by kernel_rfl) (by kernel_rfl) (fun _ _ _ h => h) (Or.inl ⟨by rfl, ?_⟩) (by trivial) ?_
                · intro w hSw; (try dsimp only at hSw); go_simp
                try simp only [Act.put, List.setIfInBounds_toArray, List.set_cons_zero, List.set_cons_succ]
                refine wpAnyH_ready (rs := [0, 3]) (by kernel_rfl) (by simp) ?_
                refine AllReadyH.cons (o := ({ dst := some 131, op := Go.Op.load 27 (Go.Operand.tmp 11), type := 27, pos := "family.go:44", after := #[], guard := none } : Oper)) rfl (fun K hK => ?_) ?_
                · go_simp
                  refine hK.out _ _ trivial (fun hHeldN => ?_)
                  clear hK K hHeld
                  have hHeld := hHeldN
                  clear hHeldN
                  try simp only [Act.put, List.setIfInBounds_toArray, List.set_cons_zero, List.set_cons_succ]
                  refine wpAnyH_ready (rs := [3]) (by kernel_rfl) (by simp) ?_
                  refine AllReadyH.cons (o := ({ dst := some 134, op := Go.Op.call { callee := Go.Callee.value (Go.Operand.func 36), args := #[Go.Operand.tmp 133], argTypes := #[2] }, type := 31, pos := "family.go:44", after := #[{ on := 2, ground := Go.Ground.data }], guard := none } : Oper)) rfl (fun K hK => ?_) AllReadyH.nil
                  refine step_call rfl 36 _ _ rfl (enters_of Try.func36 (by kernel_rfl) rfl) [.int .i64 (x)] rfl (num_any wr.drew (x)) ?_
                  rintro e w6 ⟨rfl, hbw6⟩
                  refine ⟨_, rfl, ?_⟩
                  have Bw6 : Below wr.heap.size wr w6 := B0.trans (hbw6.mono B0.size)
                  refine hK.out _ _ trivial (fun hHeldN => ?_)
                  clear hK K hHeld
                  have hHeld := hHeldN
                  clear hHeldN
                  try simp only [Act.put, List.setIfInBounds_toArray, List.set_cons_zero, List.set_cons_succ]
                  refine wpAnyH_ready (rs := [7]) (by kernel_rfl) (by simp) ?_
                  refine AllReadyH.cons (o := ({ dst := some 138, op := Go.Op.call { callee := Go.Callee.value (Go.Operand.func 36), args := #[Go.Operand.tmp 137], argTypes := #[2] }, type := 31, pos := "family.go:44", after := #[{ on := 6, ground := Go.Ground.data }, { on := 3, ground := Go.Ground.chain }], guard := none } : Oper)) rfl (fun K hK => ?_) AllReadyH.nil
                  refine step_call rfl 36 _ _ rfl (enters_of Try.func36 (by kernel_rfl) rfl) [.int .i64 (2 * x)] rfl (num_any w6 (2 * x)) ?_
                  rintro e w7 ⟨rfl, hbw7⟩
                  refine ⟨_, rfl, ?_⟩
                  have Bw7 : Below wr.heap.size wr w7 := Bw6.trans (hbw7.mono Bw6.size)
                  refine hK.out _ _ trivial (fun hHeldN => ?_)
                  clear hK K hHeld
                  have hHeld := hHeldN
                  clear hHeldN
                  try simp only [Act.put, List.setIfInBounds_toArray, List.set_cons_zero, List.set_cons_succ]
                  refine wpAnyH_ready (rs := [8]) (by kernel_rfl) (by simp) ?_
                  refine AllReadyH.cons (o := ({ dst := some 139, op := Go.Op.call { callee := Go.Callee.value (Go.Operand.func 12), args := #[Go.Operand.tmp 131, Go.Operand.const (Go.Value.int Go.IntKind.i64 0), Go.Operand.tmp 134, Go.Operand.tmp 138], argTypes := #[27, 3, 31, 31] }, type := 35, pos := "family.go:44", after := #[{ on := 0, ground := Go.Ground.data }, { on := 3, ground := Go.Ground.data }, { on := 7, ground := Go.Ground.data }, { on := 7, ground := Go.Ground.chain }], guard := none } : Oper)) rfl (fun K hK => ?_) AllReadyH.nil
                  refine step_call rfl 12 _ _ rfl (enters_of Try.func12 (by kernel_rfl) rfl) [.agg #[.slice ba 1 bc], .int .i64 0, .agg #[.int .i64 1, .int .i64 (x), .string ⟨#[]⟩, .int .i64 0, .slice none 0 0], .agg #[.int .i64 1, .int .i64 (2 * x), .string ⟨#[]⟩, .int .i64 0, .slice none 0 0]] rfl (PUT.out w7 Bw7) ?_
                  rintro e w9 ⟨fa, fn, fc, rfl, hb9, hfc, hs9⟩
                  refine ⟨_, rfl, ?_⟩
                  have hfn := told_len hs9
                  simp only [List.map_cons, List.map_nil, List.length_cons, List.length_nil, Nat.zero_add] at hfn
                  subst hfn
                  have B9 := Bw7.trans (hb9.mono Bw7.size)
                  have I9 := (HI.out.swap.put (fc := fc) B9 Bw7.size hs9).swap
                  have bx9 := (B9.block _ HI.out.hb.2).trans Hb1.out
                  have z9 := cellOf bx9 0
                  have y9 := freeOf bx9 0
                  simp only [List.getElem?_toArray, List.getElem?_cons_zero] at z9
                  refine hK.out _ _ trivial (fun hHeldN => ?_)
                  clear hK K hHeld
                  have hHeld := hHeldN
                  clear hHeldN
                  try simp only [Act.put, List.setIfInBounds_toArray, List.set_cons_zero, List.set_cons_succ]
                  refine wpAnyH_take (i := 9) (oi := ({ dst := some 130, op := Go.Op.move (Go.Operand.tmp 139), type := 35, pos := "family.go:44", after := #[{ on := 8, ground := Go.Ground.data }], guard := none } : Oper)) (v := .tuple #[.agg #[.slice fa 1 fc], .int .i64 0]) rfl (by kernel_rfl) (by kernel_rfl) (by kernel_rfl) (fun _ _ _ h => h) (Or.inl ⟨by rfl, ?_⟩) (by trivial) ?_
                  · intro w hSw; (try dsimp only at hSw); go_simp
                  try simp only [Act.put, List.setIfInBounds_toArray, List.set_cons_zero, List.set_cons_succ]
                  refine wpAnyH_take (i := 10) (oi := ({ dst := some 140, op := Go.Op.extract (Go.Operand.tmp 130) 0, type := 27, pos := "family.go:44", after := #[{ on := 9, ground := Go.Ground.data }], guard := none } : Oper)) (v := .agg #[.slice fa 1 fc]) rfl (by kernel_rfl) (by kernel_rfl) (by kernel_rfl) (fun _ _ _ h => h) (Or.inl ⟨by rfl, ?_⟩) (by trivial) ?_
                  · intro w hSw; (try dsimp only at hSw); go_simp
                  try simp only [Act.put, List.setIfInBounds_toArray, List.set_cons_zero, List.set_cons_succ]
                  refine wpAnyH_take (i := 11) (oi := ({ dst := some 141, op := Go.Op.extract (Go.Operand.tmp 130) 1, type := 34, pos := "family.go:44", after := #[{ on := 9, ground := Go.Ground.data }, { on := 12, ground := Go.Ground.gcOnly Go.Departure.lateStores }], guard := none } : Oper)) (v := .int .i64 0) rfl (by kernel_rfl) (by kernel_rfl) (by kernel_rfl) (fun _ _ _ h => h) (Or.inl ⟨by rfl, ?_⟩) (by trivial) ?_
                  · intro w hSw; (try dsimp only at hSw); go_simp
                  try simp only [Act.put, List.setIfInBounds_toArray, List.set_cons_zero, List.set_cons_succ]
                  refine wpAnyH_ready (rs := [12]) (by kernel_rfl) (by simp) ?_
                  refine AllReadyH.cons (o := ({ dst := none, op := Go.Op.store 27 (Go.Operand.tmp 11) (Go.Operand.tmp 140), type := 0, pos := "family.go:44", after := #[{ on := 10, ground := Go.Ground.data }, { on := 8, ground := Go.Ground.chain }, { on := 0, ground := Go.Ground.phase }, { on := 1, ground := Go.Ground.phase }, { on := 2, ground := Go.Ground.phase }, { on := 3, ground := Go.Ground.phase }, { on := 4, ground := Go.Ground.phase }, { on := 5, ground := Go.Ground.phase }, { on := 6, ground := Go.Ground.phase }, { on := 7, ground := Go.Ground.phase }, { on := 8, ground := Go.Ground.phase }, { on := 9, ground := Go.Ground.phase }, { on := 10, ground := Go.Ground.phase }, { on := 11, ground := Go.Ground.textOnly Go.Departure.lateStores }], guard := none } : Oper)) rfl (fun K hK => ?_) AllReadyH.nil
                  go_simp
                  refine hK.out _ _ trivial (fun hHeldN => ?_)
                  clear hK K hHeld
                  have hHeld := hHeldN
                  clear hHeldN
                  try simp only [Act.put, List.setIfInBounds_toArray, List.set_cons_zero, List.set_cons_succ]
                  refine wpAnyH_take (i := 13) (oi := ({ dst := some 10, op := Go.Op.assign (Go.Operand.tmp 141), type := 34, pos := "family.go:44", after := #[{ on := 11, ground := Go.Ground.data }, { on := 12, ground := Go.Ground.chain }, { on := 0, ground := Go.Ground.phase }, { on := 1, ground := Go.Ground.phase }, { on := 2, ground := Go.Ground.phase }, { on := 3, ground := Go.Ground.phase }, { on := 4, ground := Go.Ground.phase }, { on := 5, ground := Go.Ground.phase }, { on := 6, ground := Go.Ground.phase }, { on := 7, ground := Go.Ground.phase }, { on := 8, ground := Go.Ground.phase }, { on := 9, ground := Go.Ground.phase }, { on := 10, ground := Go.Ground.phase }, { on := 11, ground := Go.Ground.phase }, { on := 12, ground := Go.Ground.phase }], guard := none } : Oper)) (v := .int .i64 0) rfl (by kernel_rfl) (by kernel_rfl) (by kernel_rfl) (fun _ _ _ h => h) (Or.inl ⟨by rfl, ?_⟩) (by trivial) ?_
                  · intro w hSw; (try dsimp only at hSw); go_simp
                  try simp only [Act.put, List.setIfInBounds_toArray, List.set_cons_zero, List.set_cons_succ]
                  refine wpAnyH_done (by kernel_rfl) ?_ _
                  have HI9 := hid I9
                  clear I9 z9 y9 bx9
                  go_wp2
                  go_meet
                  case rel => exact ⟨rfl, HI9.out⟩
                · refine AllReadyH.cons (o := ({ dst := some 134, op := Go.Op.call { callee := Go.Callee.value (Go.Operand.func 36), args := #[Go.Operand.tmp 133], argTypes := #[2] }, type := 31, pos := "family.go:44", after := #[{ on := 2, ground := Go.Ground.data }], guard := none } : Oper)) rfl (fun K hK => ?_) AllReadyH.nil
                  refine step_call rfl 36 _ _ rfl (enters_of Try.func36 (by kernel_rfl) rfl) [.int .i64 (x)] rfl (num_any wr.drew (x)) ?_
                  rintro e w6 ⟨rfl, hbw6⟩
                  refine ⟨_, rfl, ?_⟩
                  have Bw6 : Below wr.heap.size wr w6 := B0.trans (hbw6.mono B0.size)
                  refine hK.out _ _ trivial (fun hHeldN => ?_)
                  clear hK K hHeld
                  have hHeld := hHeldN
                  clear hHeldN
                  try simp only [Act.put, List.setIfInBounds_toArray, List.set_cons_zero, List.set_cons_succ]
                  have z6 := zz.out _ Bw6
                  refine wpAnyH_ready (rs := [0, 7]) (by kernel_rfl) (by simp) ?_
                  refine AllReadyH.cons (o := ({ dst := some 131, op := Go.Op.load 27 (Go.Operand.tmp 11), type := 27, pos := "family.go:44", after := #[], guard := none } : Oper)) rfl (fun K hK => ?_) ?_
                  · go_simp
                    refine hK.out _ _ trivial (fun hHeldN => ?_)
                    clear hK K hHeld
                    have hHeld := hHeldN
                    clear hHeldN
                    try simp only [Act.put, List.setIfInBounds_toArray, List.set_cons_zero, List.set_cons_succ]
                    refine wpAnyH_ready (rs := [7]) (by kernel_rfl) (by simp) ?_
                    refine AllReadyH.cons (o := ({ dst := some 138, op := Go.Op.call { callee := Go.Callee.value (Go.Operand.func 36), args := #[Go.Operand.tmp 137], argTypes := #[2] }, type := 31, pos := "family.go:44", after := #[{ on := 6, ground := Go.Ground.data }, { on := 3, ground := Go.Ground.chain }], guard := none } : Oper)) rfl (fun K hK => ?_) AllReadyH.nil
                    refine step_call rfl 36 _ _ rfl (enters_of Try.func36 (by kernel_rfl) rfl) [.int .i64 (2 * x)] rfl (num_any w6 (2 * x)) ?_
                    rintro e w7 ⟨rfl, hbw7⟩
                    refine ⟨_, rfl, ?_⟩
                    have Bw7 : Below wr.heap.size wr w7 := Bw6.trans (hbw7.mono Bw6.size)
                    refine hK.out _ _ trivial (fun hHeldN => ?_)
                    clear hK K hHeld
                    have hHeld := hHeldN
                    clear hHeldN
                    try simp only [Act.put, List.setIfInBounds_toArray, List.set_cons_zero, List.set_cons_succ]
                    refine wpAnyH_ready (rs := [8]) (by kernel_rfl) (by simp) ?_
                    refine AllReadyH.cons (o := ({ dst := some 139, op := Go.Op.call { callee := Go.Callee.value (Go.Operand.func 12), args := #[Go.Operand.tmp 131, Go.Operand.const (Go.Value.int Go.IntKind.i64 0), Go.Operand.tmp 134, Go.Operand.tmp 138], argTypes := #[27, 3, 31, 31] }, type := 35, pos := "family.go:44", after := #[{ on := 0, ground := Go.Ground.data }, { on := 3, ground := Go.Ground.data }, { on := 7, ground := Go.Ground.data }, { on := 7, ground := Go.Ground.chain }], guard := none } : Oper)) rfl (fun K hK => ?_) AllReadyH.nil
                    refine step_call rfl 12 _ _ rfl (enters_of Try.func12 (by kernel_rfl) rfl) [.agg #[.slice ba 1 bc], .int .i64 0, .agg #[.int .i64 1, .int .i64 (x), .string ⟨#[]⟩, .int .i64 0, .slice none 0 0], .agg #[.int .i64 1, .int .i64 (2 * x), .string ⟨#[]⟩, .int .i64 0, .slice none 0 0]] rfl (PUT.out w7 Bw7) ?_
                    rintro e w9 ⟨fa, fn, fc, rfl, hb9, hfc, hs9⟩
                    refine ⟨_, rfl, ?_⟩
                    have hfn := told_len hs9
                    simp only [List.map_cons, List.map_nil, List.length_cons, List.length_nil, Nat.zero_add] at hfn
                    subst hfn
                    have B9 := Bw7.trans (hb9.mono Bw7.size)
                    have I9 := (HI.out.swap.put (fc := fc) B9 Bw7.size hs9).swap
                    have bx9 := (B9.block _ HI.out.hb.2).trans Hb1.out
                    have z9 := cellOf bx9 0
                    have y9 := freeOf bx9 0
                    simp only [List.getElem?_toArray, List.getElem?_cons_zero] at z9
                    refine hK.out _ _ trivial (fun hHeldN => ?_)
                    clear hK K hHeld
                    have hHeld := hHeldN
                    clear hHeldN
                    try simp only [Act.put, List.setIfInBounds_toArray, List.set_cons_zero, List.set_cons_succ]
                    refine wpAnyH_take (i := 9) (oi := ({ dst := some 130, op := Go.Op.move (Go.Operand.tmp 139), type := 35, pos := "family.go:44", after := #[{ on := 8, ground := Go.Ground.data }], guard := none } : Oper)) (v := .tuple #[.agg #[.slice fa 1 fc], .int .i64 0]) rfl (by kernel_rfl) (by kernel_rfl) (by kernel_rfl) (fun _ _ _ h => h) (Or.inl ⟨by rfl, ?_⟩) (by trivial) ?_
                    · intro w hSw; (try dsimp only at hSw); go_simp
                    try simp only [Act.put, List.setIfInBounds_toArray, List.set_cons_zero, List.set_cons_succ]
                    refine wpAnyH_take (i := 10) (oi := ({ dst := some 140, op := Go.Op.extract (Go.Operand.tmp 130) 0, type := 27, pos := "family.go:44", after := #[{ on := 9, ground := Go.Ground.data }], guard := none } : Oper)) (v := .agg #[.slice fa 1 fc]) rfl (by kernel_rfl) (by kernel_rfl) (by kernel_rfl) (fun _ _ _ h => h) (Or.inl ⟨by rfl, ?_⟩) (by trivial) ?_
                    · intro w hSw; (try dsimp only at hSw); go_simp
                    try simp only [Act.put, List.setIfInBounds_toArray, List.set_cons_zero, List.set_cons_succ]
                    refine wpAnyH_take (i := 11) (oi := ({ dst := some 141, op := Go.Op.extract (Go.Operand.tmp 130) 1, type := 34, pos := "family.go:44", after := #[{ on := 9, ground := Go.Ground.data }, { on := 12, ground := Go.Ground.gcOnly Go.Departure.lateStores }], guard := none } : Oper)) (v := .int .i64 0) rfl (by kernel_rfl) (by kernel_rfl) (by kernel_rfl) (fun _ _ _ h => h) (Or.inl ⟨by rfl, ?_⟩) (by trivial) ?_
                    · intro w hSw; (try dsimp only at hSw); go_simp
                    try simp only [Act.put, List.setIfInBounds_toArray, List.set_cons_zero, List.set_cons_succ]
                    refine wpAnyH_ready (rs := [12]) (by kernel_rfl) (by simp) ?_
                    refine AllReadyH.cons (o := ({ dst := none, op := Go.Op.store 27 (Go.Operand.tmp 11) (Go.Operand.tmp 140), type := 0, pos := "family.go:44", after := #[{ on := 10, ground := Go.Ground.data }, { on := 8, ground := Go.Ground.chain }, { on := 0, ground := Go.Ground.phase }, { on := 1, ground := Go.Ground.phase }, { on := 2, ground := Go.Ground.phase }, { on := 3, ground := Go.Ground.phase }, { on := 4, ground := Go.Ground.phase }, { on := 5, ground := Go.Ground.phase }, { on := 6, ground := Go.Ground.phase }, { on := 7, ground := Go.Ground.phase }, { on := 8, ground := Go.Ground.phase }, { on := 9, ground := Go.Ground.phase }, { on := 10, ground := Go.Ground.phase }, { on := 11, ground := Go.Ground.textOnly Go.Departure.lateStores }], guard := none } : Oper)) rfl (fun K hK => ?_) AllReadyH.nil
                    go_simp
                    refine hK.out _ _ trivial (fun hHeldN => ?_)
                    clear hK K hHeld
                    have hHeld := hHeldN
                    clear hHeldN
                    try simp only [Act.put, List.setIfInBounds_toArray, List.set_cons_zero, List.set_cons_succ]
                    refine wpAnyH_take (i := 13) (oi := ({ dst := some 10, op := Go.Op.assign (Go.Operand.tmp 141), type := 34, pos := "family.go:44", after := #[{ on := 11, ground := Go.Ground.data }, { on := 12, ground := Go.Ground.chain }, { on := 0, ground := Go.Ground.phase }, { on := 1, ground := Go.Ground.phase }, { on := 2, ground := Go.Ground.phase }, { on := 3, ground := Go.Ground.phase }, { on := 4, ground := Go.Ground.phase }, { on := 5, ground := Go.Ground.phase }, { on := 6, ground := Go.Ground.phase }, { on := 7, ground := Go.Ground.phase }, { on := 8, ground := Go.Ground.phase }, { on := 9, ground := Go.Ground.phase }, { on := 10, ground := Go.Ground.phase }, { on := 11, ground := Go.Ground.phase }, { on := 12, ground := Go.Ground.phase }], guard := none } : Oper)) (v := .int .i64 0) rfl (by kernel_rfl) (by kernel_rfl) (by kernel_rfl) (fun _ _ _ h => h) (Or.inl ⟨by rfl, ?_⟩) (by trivial) ?_
                    · intro w hSw; (try dsimp only at hSw); go_simp
                    try simp only [Act.put, List.setIfInBounds_toArray, List.set_cons_zero, List.set_cons_succ]
                    refine wpAnyH_done (by kernel_rfl) ?_ _
                    have HI9 := hid I9
                    clear I9 z9 y9 bx9
                    go_wp2
                    go_meet
                    case rel => exact ⟨rfl, HI9.out⟩
                  · refine AllReadyH.cons (o := ({ dst := some 138, op := Go.Op.call { callee := Go.Callee.value (Go.Operand.func 36), args := #[Go.Operand.tmp 137], argTypes := #[2] }, type := 31, pos := "family.go:44", after := #[{ on := 6, ground := Go.Ground.data }, { on := 3, ground := Go.Ground.chain }], guard := none } : Oper)) rfl (fun K hK => ?_) AllReadyH.nil
                    refine step_call rfl 36 _ _ rfl (enters_of Try.func36 (by kernel_rfl) rfl) [.int .i64 (2 * x)] rfl (num_any w6 (2 * x)) ?_
                    rintro e w7 ⟨rfl, hbw7⟩
                    refine ⟨_, rfl, ?_⟩
                    have Bw7 : Below wr.heap.size wr w7 := Bw6.trans (hbw7.mono Bw6.size)
                    refine hK.out _ _ trivial (fun hHeldN => ?_)
                    clear hK K hHeld
                    have hHeld := hHeldN
                    clear hHeldN
                    try simp only [Act.put, List.setIfInBounds_toArray, List.set_cons_zero, List.set_cons_succ]
                    have z7 := zz.out _ Bw7
                    refine wpAnyH_ready (rs := [0]) (by kernel_rfl) (by simp) ?_
                    refine AllReadyH.cons (o := ({ dst := some 131, op := Go.Op.load 27 (Go.Operand.tmp 11), type := 27, pos := "family.go:44", after := #[], guard := none } : Oper)) rfl (fun K hK => ?_) AllReadyH.nil
                    go_simp
                    refine hK.out _ _ trivial (fun hHeldN => ?_)
                    clear hK K hHeld
                    have hHeld := hHeldN
                    clear hHeldN
                    try simp only [Act.put, List.setIfInBounds_toArray, List.set_cons_zero, List.set_cons_succ]
                    refine wpAnyH_ready (rs := [8]) (by kernel_rfl) (by simp) ?_
                    refine AllReadyH.cons (o := ({ dst := some 139, op := Go.Op.call { callee := Go.Callee.value (Go.Operand.func 12), args := #[Go.Operand.tmp 131, Go.Operand.const (Go.Value.int Go.IntKind.i64 0), Go.Operand.tmp 134, Go.Operand.tmp 138], argTypes := #[27, 3, 31, 31] }, type := 35, pos := "family.go:44", after := #[{ on := 0, ground := Go.Ground.data }, { on := 3, ground := Go.Ground.data }, { on := 7, ground := Go.Ground.data }, { on := 7, ground := Go.Ground.chain }], guard := none } : Oper)) rfl (fun K hK => ?_) AllReadyH.nil
                    refine step_call rfl 12 _ _ rfl (enters_of Try.func12 (by kernel_rfl) rfl) [.agg #[.slice ba 1 bc], .int .i64 0, .agg #[.int .i64 1, .int .i64 (x), .string ⟨#[]⟩, .int .i64 0, .slice none 0 0], .agg #[.int .i64 1, .int .i64 (2 * x), .string ⟨#[]⟩, .int .i64 0, .slice none 0 0]] rfl (PUT.out w7 Bw7) ?_
                    rintro e w9 ⟨fa, fn, fc, rfl, hb9, hfc, hs9⟩
                    refine ⟨_, rfl, ?_⟩
                    have hfn := told_len hs9
                    simp only [List.map_cons, List.map_nil, List.length_cons, List.length_nil, Nat.zero_add] at hfn
                    subst hfn
                    have B9 := Bw7.trans (hb9.mono Bw7.size)
                    have I9 := (HI.out.swap.put (fc := fc) B9 Bw7.size hs9).swap
                    have bx9 := (B9.block _ HI.out.hb.2).trans Hb1.out
                    have z9 := cellOf bx9 0
                    have y9 := freeOf bx9 0
                    simp only [List.getElem?_toArray, List.getElem?_cons_zero] at z9
                    refine hK.out _ _ trivial (fun hHeldN => ?_)
                    clear hK K hHeld
                    have hHeld := hHeldN
                    clear hHeldN
                    try simp only [Act.put, List.setIfInBounds_toArray, List.set_cons_zero, List.set_cons_succ]
                    refine wpAnyH_take (i := 9) (oi := ({ dst := some 130, op := Go.Op.move (Go.Operand.tmp 139), type := 35, pos := "family.go:44", after := #[{ on := 8, ground := Go.Ground.data }], guard := none } : Oper)) (v := .tuple #[.agg #[.slice fa 1 fc], .int .i64 0]) rfl (by kernel_rfl) (by kernel_rfl) (by kernel_rfl) (fun _ _ _ h => h) (Or.inl ⟨by rfl, ?_⟩) (by trivial) ?_
                    · intro w hSw; (try dsimp only at hSw); go_simp
                    try simp only [Act.put, List.setIfInBounds_toArray, List.set_cons_zero, List.set_cons_succ]
                    refine wpAnyH_take (i := 10) (oi := ({ dst := some 140, op := Go.Op.extract (Go.Operand.tmp 130) 0, type := 27, pos := "family.go:44", after := #[{ on := 9, ground := Go.Ground.data }], guard := none } : Oper)) (v := .agg #[.slice fa 1 fc]) rfl (by kernel_rfl) (by kernel_rfl) (by kernel_rfl) (fun _ _ _ h => h) (Or.inl ⟨by rfl, ?_⟩) (by trivial) ?_
                    · intro w hSw; (try dsimp only at hSw); go_simp
                    try simp only [Act.put, List.setIfInBounds_toArray, List.set_cons_zero, List.set_cons_succ]
                    refine wpAnyH_take (i := 11) (oi := ({ dst := some 141, op := Go.Op.extract (Go.Operand.tmp 130) 1, type := 34, pos := "family.go:44", after := #[{ on := 9, ground := Go.Ground.data }, { on := 12, ground := Go.Ground.gcOnly Go.Departure.lateStores }], guard := none } : Oper)) (v := .int .i64 0) rfl (by kernel_rfl) (by kernel_rfl) (by kernel_rfl) (fun _ _ _ h => h) (Or.inl ⟨by rfl, ?_⟩) (by trivial) ?_
                    · intro w hSw; (try dsimp only at hSw); go_simp
                    try simp only [Act.put, List.setIfInBounds_toArray, List.set_cons_zero, List.set_cons_succ]
                    refine wpAnyH_ready (rs := [12]) (by kernel_rfl) (by simp) ?_
                    refine AllReadyH.cons (o := ({ dst := none, op := Go.Op.store 27 (Go.Operand.tmp 11) (Go.Operand.tmp 140), type := 0, pos := "family.go:44", after := #[{ on := 10, ground := Go.Ground.data }, { on := 8, ground := Go.Ground.chain }, { on := 0, ground := Go.Ground.phase }, { on := 1, ground := Go.Ground.phase }, { on := 2, ground := Go.Ground.phase }, { on := 3, ground := Go.Ground.phase }, { on := 4, ground := Go.Ground.phase }, { on := 5, ground := Go.Ground.phase }, { on := 6, ground := Go.Ground.phase }, { on := 7, ground := Go.Ground.phase }, { on := 8, ground := Go.Ground.phase }, { on := 9, ground := Go.Ground.phase }, { on := 10, ground := Go.Ground.phase }, { on := 11, ground := Go.Ground.textOnly Go.Departure.lateStores }], guard := none } : Oper)) rfl (fun K hK => ?_) AllReadyH.nil
                    go_simp
                    refine hK.out _ _ trivial (fun hHeldN => ?_)
                    clear hK K hHeld
                    have hHeld := hHeldN
                    clear hHeldN
                    try simp only [Act.put, List.setIfInBounds_toArray, List.set_cons_zero, List.set_cons_succ]
                    refine wpAnyH_take (i := 13) (oi := ({ dst := some 10, op := Go.Op.assign (Go.Operand.tmp 141), type := 34, pos := "family.go:44", after := #[{ on := 11, ground := Go.Ground.data }, { on := 12, ground := Go.Ground.chain }, { on := 0, ground := Go.Ground.phase }, { on := 1, ground := Go.Ground.phase }, { on := 2, ground := Go.Ground.phase }, { on := 3, ground := Go.Ground.phase }, { on := 4, ground := Go.Ground.phase }, { on := 5, ground := Go.Ground.phase }, { on := 6, ground := Go.Ground.phase }, { on := 7, ground := Go.Ground.phase }, { on := 8, ground := Go.Ground.phase }, { on := 9, ground := Go.Ground.phase }, { on := 10, ground := Go.Ground.phase }, { on := 11, ground := Go.Ground.phase }, { on := 12, ground := Go.Ground.phase }], guard := none } : Oper)) (v := .int .i64 0) rfl (by kernel_rfl) (by kernel_rfl) (by kernel_rfl) (fun _ _ _ h => h) (Or.inl ⟨by rfl, ?_⟩) (by trivial) ?_
                    · intro w hSw; (try dsimp only at hSw); go_simp
                    try simp only [Act.put, List.setIfInBounds_toArray, List.set_cons_zero, List.set_cons_succ]
                    refine wpAnyH_done (by kernel_rfl) ?_ _
                    have HI9 := hid I9
                    clear I9 z9 y9 bx9
                    go_wp2
                    go_meet
                    case rel => exact ⟨rfl, HI9.out⟩
              case rest =>
                obtain ⟨rfl, hcut2⟩ := hcut
                rw [ins_twice _ _ _ _ HM.out.ris] at hcut2
                have HI9 := hid hcut2
                clear hcut2
                go_wp2
                go_roundg gi
                case measure => omega
                case rel => exact ⟨j + 1, _, by have := Hj.out; omega, by go_num, by rw [rotL_succ, ← Hk.out, ← Hr.out, List.getD_eq_getElem?_getD, Hx.out]; exact HM.out.add x, HI9.out⟩
    | succ gi =>
      have hik : i < kn := by omega
      have hikI : (i : Int) < (kn : Int) := by omega
      have hi0 : (0 : Int) ≤ (i : Int) := by omega
      have Hi := hid hi
      obtain ⟨x, hx⟩ : ∃ x, keys[i]? = some x := ⟨keys[i]'(by rw [← Hk.out]; exact hik), List.getElem?_eq_getElem _⟩
      have hWw := (FP.out wr HI.out.bel).2.2
      obtain ⟨⟨hx1, hx2⟩, b, off, eka, hcx⟩ := HK.out wr hWw i x hx
      subst eka
      have Hx := hid hx
      have KP : Hid (∀ W : World, Below wr.heap.size wr W → W.cell? ⟨b, off + i, none⟩ = some (.int .i16 x)) := hid (fun W hb => (hb.cell (World.block_lt_of_cell? wr _ hcx)).trans hcx)
      have KP2 : Hid (∀ W : World, Below wr.heap.size wr W → ∀ v, (W.setCell ⟨BA, 0, none⟩ v).cell? ⟨b, off + i, none⟩ = some (.int .i16 x)) := hid (fun W hb v => by
        have hbl : b < w.heap.size := by
          obtain ⟨_, b', off', e, c⟩ := HK.out w (Below.refl _ _) i x hx
          cases e
          exact World.block_lt_of_cell? w _ c
        have h1 := HI.out.ha.1
        rw [World.cell?_setCell_far _ _ _ _ (by show BA ≠ b; omega)]
        exact (hb.cell (World.block_lt_of_cell? wr _ hcx)).trans hcx)
      obtain ⟨aa, ac, ha1, ha2⟩ := HI.out.a
      have Ha1 := hid ha1
      have PUT := hid (fun (W : World) (hb : Below wr.heap.size wr W) => put_1 W aa ac L x (2 * x) ⟨by omega, by omega⟩ ⟨by omega, by omega⟩ (ha2.cr.below (Nat.le_refl _) hb) (place_short HL.out (by rw [List.length_take]; omega) x))
      simp only [Hd.v, numH] at PUT
      have z0 := cellOf ha1 0
      simp only [List.getElem?_toArray, List.getElem?_cons_zero] at z0
      have zz : Hid (∀ W : World, Below wr.heap.size wr W → W.cell? ⟨BA, 0, none⟩ = some (.slice aa 1 ac)) := hid (fun W hb => (hb.cell (World.block_lt_of_cell? wr _ z0)).trans z0)
      have hBr := HI.out.ha.2
      have B0 : Below wr.heap.size wr wr.drew := (Below.refl _ wr).drew
      have hxw : IntKind.i64.wrap x = x := by rw [IntKind.wrap_i64]; omega
      have hxw2 : IntKind.i64.wrap (2 * x) = 2 * x := by rw [IntKind.wrap_i64]; omega
      clear hx hWw ha1 ha2 hi
      go_upto_region 15 with fail
      go_cut [10] (fun v10 wc => v10 = .int .i64 0 ∧ OnI W3 wc BA BB (insI x (2 * x) L) [])
      case first =>
        refine wp_region_held_drew (S := fun W => W.cell? ⟨b, off + i, none⟩ = some (.int .i16 x)) (by kernel_rfl) (KP.out _ B0) (fun hHeld => ?_)
        refine wpAnyH_take (i := 1) (oi := ({ dst := some 54, op := Go.Op.move (Go.Operand.tmp 0), type := 66, pos := "family.go:27", after := #[], guard := none } : Oper)) (v := .slice (some ⟨b, off, none⟩) kn kc) rfl (by kernel_rfl) (by kernel_rfl) (by kernel_rfl) (fun _ _ _ h => h) (Or.inl ⟨by rfl, ?_⟩) (by assumption) ?_
        · intro w hSw; (try dsimp only at hSw); go_simp
        try simp only [Act.put, List.setIfInBounds_toArray, List.set_cons_zero, List.set_cons_succ]
        refine wpAnyH_take (i := 2) (oi := ({ dst := some 55, op := Go.Op.move (Go.Operand.tmp 13), type := 3, pos := "family.go:27", after := #[], guard := none } : Oper)) (v := .int .i64 (i : Int)) rfl (by kernel_rfl) (by kernel_rfl) (by kernel_rfl) (fun _ _ _ h => h) (Or.inl ⟨by rfl, ?_⟩) (by assumption) ?_
        · intro w hSw; (try dsimp only at hSw); go_simp
        try simp only [Act.put, List.setIfInBounds_toArray, List.set_cons_zero, List.set_cons_succ]
        refine wpAnyH_take (i := 3) (oi := ({ dst := some 56, op := Go.Op.indexAddr 66 (Go.Operand.tmp 54) (Go.Operand.tmp 55), type := 0, pos := "family.go:27", after := #[{ on := 1, ground := Go.Ground.data }, { on := 2, ground := Go.Ground.data }], guard := none } : Oper)) (v := .pointer (some ⟨b, off + i, none⟩)) rfl (by kernel_rfl) (by kernel_rfl) (by kernel_rfl) (fun _ _ _ h => h) (Or.inl ⟨by rfl, ?_⟩) (by assumption) ?_
        · intro w hSw; (try dsimp only at hSw); go_simp
        try simp only [Act.put, List.setIfInBounds_toArray, List.set_cons_zero, List.set_cons_succ]
        refine wpAnyH_take (i := 4) (oi := ({ dst := some 57, op := Go.Op.load 68 (Go.Operand.tmp 56), type := 68, pos := "family.go:27", after := #[{ on := 3, ground := Go.Ground.data }], guard := none } : Oper)) (v := .int .i16 x) rfl (by kernel_rfl) (by kernel_rfl) (by kernel_rfl) (fun _ _ _ h => h) (Or.inl ⟨by rfl, ?_⟩) (by assumption) ?_
        · intro w hSw; (try dsimp only at hSw); go_simp
        try simp only [Act.put, List.setIfInBounds_toArray, List.set_cons_zero, List.set_cons_succ]
        refine wpAnyH_take (i := 5) (oi := ({ dst := some 58, op := Go.Op.convert 68 2 (Go.Operand.tmp 57), type := 2, pos := "family.go:27", after := #[{ on := 4, ground := Go.Ground.data }], guard := none } : Oper)) (v := .int .i64 x) rfl (by kernel_rfl) (by kernel_rfl) (by kernel_rfl) (fun _ _ _ h => h) (Or.inl ⟨by rfl, ?_⟩) (by assumption) ?_
        · intro w hSw; (try dsimp only at hSw); go_simp
        try simp only [Act.put, List.setIfInBounds_toArray, List.set_cons_zero, List.set_cons_succ]
        refine wpAnyH_take (i := 7) (oi := ({ dst := some 60, op := Go.Op.move (Go.Operand.tmp 0), type := 66, pos := "family.go:27", after := #[], guard := none } : Oper)) (v := .slice (some ⟨b, off, none⟩) kn kc) rfl (by kernel_rfl) (by kernel_rfl) (by kernel_rfl) (fun _ _ _ h => h) (Or.inl ⟨by rfl, ?_⟩) (by assumption) ?_
        · intro w hSw; (try dsimp only at hSw); go_simp
        try simp only [Act.put, List.setIfInBounds_toArray, List.set_cons_zero, List.set_cons_succ]
        refine wpAnyH_take (i := 8) (oi := ({ dst := some 61, op := Go.Op.move (Go.Operand.tmp 13), type := 3, pos := "family.go:27", after := #[], guard := none } : Oper)) (v := .int .i64 (i : Int)) rfl (by kernel_rfl) (by kernel_rfl) (by kernel_rfl) (fun _ _ _ h => h) (Or.inl ⟨by rfl, ?_⟩) (by assumption) ?_
        · intro w hSw; (try dsimp only at hSw); go_simp
        try simp only [Act.put, List.setIfInBounds_toArray, List.set_cons_zero, List.set_cons_succ]
        refine wpAnyH_take (i := 9) (oi := ({ dst := some 62, op := Go.Op.indexAddr 66 (Go.Operand.tmp 60) (Go.Operand.tmp 61), type := 0, pos := "family.go:27", after := #[{ on := 7, ground := Go.Ground.data }, { on := 8, ground := Go.Ground.data }], guard := none } : Oper)) (v := .pointer (some ⟨b, off + i, none⟩)) rfl (by kernel_rfl) (by kernel_rfl) (by kernel_rfl) (fun _ _ _ h => h) (Or.inl ⟨by rfl, ?_⟩) (by assumption) ?_
        · intro w hSw; (try dsimp only at hSw); go_simp
        try simp only [Act.put, List.setIfInBounds_toArray, List.set_cons_zero, List.set_cons_succ]
        refine wpAnyH_take (i := 10) (oi := ({ dst := some 63, op := Go.Op.load 68 (Go.Operand.tmp 62), type := 68, pos := "family.go:27", after := #[{ on := 9, ground := Go.Ground.data }], guard := none } : Oper)) (v := .int .i16 x) rfl (by kernel_rfl) (by kernel_rfl) (by kernel_rfl) (fun _ _ _ h => h) (Or.inl ⟨by rfl, ?_⟩) (by assumption) ?_
        · intro w hSw; (try dsimp only at hSw); go_simp
        try simp only [Act.put, List.setIfInBounds_toArray, List.set_cons_zero, List.set_cons_succ]
        refine wpAnyH_take (i := 11) (oi := ({ dst := some 64, op := Go.Op.convert 68 2 (Go.Operand.tmp 63), type := 2, pos := "family.go:27", after := #[{ on := 10, ground := Go.Ground.data }], guard := none } : Oper)) (v := .int .i64 x) rfl (by kernel_rfl) (by kernel_rfl) (by kernel_rfl) (fun _ _ _ h => h) (Or.inl ⟨by rfl, ?_⟩) (by assumption) ?_
        · intro w hSw; (try dsimp only at hSw); go_simp
        try simp only [Act.put, List.setIfInBounds_toArray, List.set_cons_zero, List.set_cons_succ]
        refine wpAnyH_take (i := 12) (oi := ({ dst := some 65, op := Go.Op.binOp Go.BinOp.mul 2 (Go.Operand.const (Go.Value.int Go.IntKind.i64 2)) (Go.Operand.tmp 64) 2, type := 2, pos := "family.go:27", after := #[{ on := 11, ground := Go.Ground.data }], guard := none } : Oper)) (v := .int .i64 (2 * x)) rfl (by kernel_rfl) (by kernel_rfl) (by kernel_rfl) (fun _ _ _ h => h) (Or.inl ⟨by rfl, ?_⟩) (by assumption) ?_
        · intro w hSw; (try dsimp only at hSw); go_simp
        try simp only [Act.put, List.setIfInBounds_toArray, List.set_cons_zero, List.set_cons_succ]
        refine wpAnyH_ready (rs := [0, 6]) (by kernel_rfl) (by simp) ?_
        refine AllReadyH.cons (o := ({ dst := some 53, op := Go.Op.load 27 (Go.Operand.tmp 9), type := 27, pos := "family.go:27", after := #[], guard := none } : Oper)) rfl (fun K hK => ?_) ?_
        · go_simp
          refine hK.out _ _ (KP.out _ B0) (fun hHeldN => ?_)
          clear hK K hHeld
          have hHeld := hHeldN
          clear hHeldN
          try simp only [Act.put, List.setIfInBounds_toArray, List.set_cons_zero, List.set_cons_succ]
          refine wpAnyH_ready (rs := [6]) (by kernel_rfl) (by simp) ?_
          refine AllReadyH.cons (o := ({ dst := some 59, op := Go.Op.call { callee := Go.Callee.value (Go.Operand.func 36), args := #[Go.Operand.tmp 58], argTypes := #[2] }, type := 31, pos := "family.go:27", after := #[{ on := 5, ground := Go.Ground.data }], guard := none } : Oper)) rfl (fun K hK => ?_) AllReadyH.nil
          refine step_call rfl 36 _ _ rfl (enters_of Try.func36 (by kernel_rfl) rfl) [.int .i64 (x)] rfl (num_any wr.drew (x)) ?_
          rintro e w6 ⟨rfl, hbw6⟩
          refine ⟨_, rfl, ?_⟩
          have Bw6 : Below wr.heap.size wr w6 := B0.trans (hbw6.mono B0.size)
          refine hK.out _ _ (KP.out _ Bw6) (fun hHeldN => ?_)
          clear hK K hHeld
          have hHeld := hHeldN
          clear hHeldN
          try simp only [Act.put, List.setIfInBounds_toArray, List.set_cons_zero, List.set_cons_succ]
          refine wpAnyH_ready (rs := [13]) (by kernel_rfl) (by simp) ?_
          refine AllReadyH.cons (o := ({ dst := some 66, op := Go.Op.call { callee := Go.Callee.value (Go.Operand.func 36), args := #[Go.Operand.tmp 65], argTypes := #[2] }, type := 31, pos := "family.go:27", after := #[{ on := 12, ground := Go.Ground.data }, { on := 6, ground := Go.Ground.chain }], guard := none } : Oper)) rfl (fun K hK => ?_) AllReadyH.nil
          refine step_call rfl 36 _ _ rfl (enters_of Try.func36 (by kernel_rfl) rfl) [.int .i64 (2 * x)] rfl (num_any w6 (2 * x)) ?_
          rintro e w7 ⟨rfl, hbw7⟩
          refine ⟨_, rfl, ?_⟩
          have Bw7 : Below wr.heap.size wr w7 := Bw6.trans (hbw7.mono Bw6.size)
          refine hK.out _ _ (KP.out _ Bw7) (fun hHeldN => ?_)
          clear hK K hHeld
          have hHeld := hHeldN
          clear hHeldN
          try simp only [Act.put, List.setIfInBounds_toArray, List.set_cons_zero, List.set_cons_succ]
          refine wpAnyH_ready (rs := [14]) (by kernel_rfl) (by simp) ?_
          refine AllReadyH.cons (o := ({ dst := some 67, op := Go.Op.call { callee := Go.Callee.value (Go.Operand.func 12), args := #[Go.Operand.tmp 53, Go.Operand.const (Go.Value.int Go.IntKind.i64 0), Go.Operand.tmp 59, Go.Operand.tmp 66], argTypes := #[27, 3, 31, 31] }, type := 35, pos := "family.go:27", after := #[{ on := 0, ground := Go.Ground.data }, { on := 6, ground := Go.Ground.data }, { on := 13, ground := Go.Ground.data }, { on := 13, ground := Go.Ground.chain }], guard := none } : Oper)) rfl (fun K hK => ?_) AllReadyH.nil
          refine step_call rfl 12 _ _ rfl (enters_of Try.func12 (by kernel_rfl) rfl) [.agg #[.slice aa 1 ac], .int .i64 0, .agg #[.int .i64 1, .int .i64 x, .string ⟨#[]⟩, .int .i64 0, .slice none 0 0], .agg #[.int .i64 1, .int .i64 (2 * x), .string ⟨#[]⟩, .int .i64 0, .slice none 0 0]] rfl (PUT.out w7 Bw7) ?_
          rintro e w9 ⟨fa, fn, fc, rfl, hb9, hfc, hs9⟩
          refine ⟨_, rfl, ?_⟩
          have hfn := told_len hs9
          simp only [List.map_cons, List.map_nil, List.length_cons, List.length_nil, Nat.zero_add] at hfn
          subst hfn
          have B9 := Bw7.trans (hb9.mono Bw7.size)
          have I9 := HI.out.put (fc := fc) B9 Bw7.size hs9
          have bx9 := (B9.block _ HI.out.ha.2).trans Ha1.out
          have z9 := cellOf bx9 0
          have y9 := freeOf bx9 0
          simp only [List.getElem?_toArray, List.getElem?_cons_zero] at z9
          refine hK.out _ _ (KP.out _ B9) (fun hHeldN => ?_)
          clear hK K hHeld
          have hHeld := hHeldN
          clear hHeldN
          try simp only [Act.put, List.setIfInBounds_toArray, List.set_cons_zero, List.set_cons_succ]
          refine wpAnyH_take (i := 15) (oi := ({ dst := some 52, op := Go.Op.move (Go.Operand.tmp 67), type := 35, pos := "family.go:27", after := #[{ on := 14, ground := Go.Ground.data }], guard := none } : Oper)) (v := .tuple #[.agg #[.slice fa 1 fc], .int .i64 0]) rfl (by kernel_rfl) (by kernel_rfl) (by kernel_rfl) (fun _ _ _ h => h) (Or.inl ⟨by rfl, ?_⟩) (by assumption) ?_
          · intro w hSw; (try dsimp only at hSw); go_simp
          try simp only [Act.put, List.setIfInBounds_toArray, List.set_cons_zero, List.set_cons_succ]
          refine wpAnyH_take (i := 16) (oi := ({ dst := some 68, op := Go.Op.extract (Go.Operand.tmp 52) 0, type := 27, pos := "family.go:27", after := #[{ on := 15, ground := Go.Ground.data }], guard := none } : Oper)) (v := .agg #[.slice fa 1 fc]) rfl (by kernel_rfl) (by kernel_rfl) (by kernel_rfl) (fun _ _ _ h => h) (Or.inl ⟨by rfl, ?_⟩) (by assumption) ?_
          · intro w hSw; (try dsimp only at hSw); go_simp
          try simp only [Act.put, List.setIfInBounds_toArray, List.set_cons_zero, List.set_cons_succ]
          refine wpAnyH_take (i := 17) (oi := ({ dst := some 69, op := Go.Op.extract (Go.Operand.tmp 52) 1, type := 34, pos := "family.go:27", after := #[{ on := 15, ground := Go.Ground.data }, { on := 18, ground := Go.Ground.gcOnly Go.Departure.lateStores }], guard := none } : Oper)) (v := .int .i64 0) rfl (by kernel_rfl) (by kernel_rfl) (by kernel_rfl) (fun _ _ _ h => h) (Or.inl ⟨by rfl, ?_⟩) (by assumption) ?_
          · intro w hSw; (try dsimp only at hSw); go_simp
          try simp only [Act.put, List.setIfInBounds_toArray, List.set_cons_zero, List.set_cons_succ]
          refine wpAnyH_ready (rs := [18]) (by kernel_rfl) (by simp) ?_
          refine AllReadyH.cons (o := ({ dst := none, op := Go.Op.store 27 (Go.Operand.tmp 9) (Go.Operand.tmp 68), type := 0, pos := "family.go:27", after := #[{ on := 16, ground := Go.Ground.data }, { on := 14, ground := Go.Ground.chain }, { on := 0, ground := Go.Ground.phase }, { on := 1, ground := Go.Ground.phase }, { on := 2, ground := Go.Ground.phase }, { on := 3, ground := Go.Ground.phase }, { on := 4, ground := Go.Ground.phase }, { on := 5, ground := Go.Ground.phase }, { on := 6, ground := Go.Ground.phase }, { on := 7, ground := Go.Ground.phase }, { on := 8, ground := Go.Ground.phase }, { on := 9, ground := Go.Ground.phase }, { on := 10, ground := Go.Ground.phase }, { on := 11, ground := Go.Ground.phase }, { on := 12, ground := Go.Ground.phase }, { on := 13, ground := Go.Ground.phase }, { on := 14, ground := Go.Ground.phase }, { on := 15, ground := Go.Ground.phase }, { on := 16, ground := Go.Ground.phase }, { on := 17, ground := Go.Ground.textOnly Go.Departure.lateStores }], guard := none } : Oper)) rfl (fun K hK => ?_) AllReadyH.nil
          go_simp
          refine hK.out _ _ (KP2.out _ B9 _) (fun hHeldN => ?_)
          clear hK K hHeld
          have hHeld := hHeldN
          clear hHeldN
          try simp only [Act.put, List.setIfInBounds_toArray, List.set_cons_zero, List.set_cons_succ]
          refine wpAnyH_take (i := 19) (oi := ({ dst := some 10, op := Go.Op.assign (Go.Operand.tmp 69), type := 34, pos := "family.go:27", after := #[{ on := 17, ground := Go.Ground.data }, { on := 18, ground := Go.Ground.chain }, { on := 0, ground := Go.Ground.phase }, { on := 1, ground := Go.Ground.phase }, { on := 2, ground := Go.Ground.phase }, { on := 3, ground := Go.Ground.phase }, { on := 4, ground := Go.Ground.phase }, { on := 5, ground := Go.Ground.phase }, { on := 6, ground := Go.Ground.phase }, { on := 7, ground := Go.Ground.phase }, { on := 8, ground := Go.Ground.phase }, { on := 9, ground := Go.Ground.phase }, { on := 10, ground := Go.Ground.phase }, { on := 11, ground := Go.Ground.phase }, { on := 12, ground := Go.Ground.phase }, { on := 13, ground := Go.Ground.phase }, { on := 14, ground := Go.Ground.phase }, { on := 15, ground := Go.Ground.phase }, { on := 16, ground := Go.Ground.phase }, { on := 17, ground := Go.Ground.phase }, { on := 18, ground := Go.Ground.phase }], guard := none } : Oper)) (v := .int .i64 0) rfl (by kernel_rfl) (by kernel_rfl) (by kernel_rfl) (fun _ _ _ h => h) (Or.inl ⟨by rfl, ?_⟩) (by assumption) ?_
          · intro w hSw; (try dsimp only at hSw); go_simp
          try simp only [Act.put, List.setIfInBounds_toArray, List.set_cons_zero, List.set_cons_succ]
          refine wpAnyH_done (by kernel_rfl) ?_ _
          have HI9 := hid I9
          clear I9 z9 y9 bx9
          go_wp2
          go_meet
          case rel => exact ⟨rfl, HI9.out⟩
        · refine AllReadyH.cons (o := ({ dst := some 59, op := Go.Op.call { callee := Go.Callee.value (Go.Operand.func 36), args := #[Go.Operand.tmp 58], argTypes := #[2] }, type := 31, pos := "family.go:27", after := #[{ on := 5, ground := Go.Ground.data }], guard := none } : Oper)) rfl (fun K hK => ?_) AllReadyH.nil
          refine step_call rfl 36 _ _ rfl (enters_of Try.func36 (by kernel_rfl) rfl) [.int .i64 (x)] rfl (num_any wr.drew (x)) ?_
          rintro e w6 ⟨rfl, hbw6⟩
          refine ⟨_, rfl, ?_⟩
          have Bw6 : Below wr.heap.size wr w6 := B0.trans (hbw6.mono B0.size)
          refine hK.out _ _ (KP.out _ Bw6) (fun hHeldN => ?_)
          clear hK K hHeld
          have hHeld := hHeldN
          clear hHeldN
          try simp only [Act.put, List.setIfInBounds_toArray, List.set_cons_zero, List.set_cons_succ]
          have z6 := zz.out _ Bw6
          refine wpAnyH_ready (rs := [0, 13]) (by kernel_rfl) (by simp) ?_
          refine AllReadyH.cons (o := ({ dst := some 53, op := Go.Op.load 27 (Go.Operand.tmp 9), type := 27, pos := "family.go:27", after := #[], guard := none } : Oper)) rfl (fun K hK => ?_) ?_
          · go_simp
            refine hK.out _ _ (KP.out _ Bw6) (fun hHeldN => ?_)
            clear hK K hHeld
            have hHeld := hHeldN
            clear hHeldN
            try simp only [Act.put, List.setIfInBounds_toArray, List.set_cons_zero, List.set_cons_succ]
            refine wpAnyH_ready (rs := [13]) (by kernel_rfl) (by simp) ?_
            refine AllReadyH.cons (o := ({ dst := some 66, op := Go.Op.call { callee := Go.Callee.value (Go.Operand.func 36), args := #[Go.Operand.tmp 65], argTypes := #[2] }, type := 31, pos := "family.go:27", after := #[{ on := 12, ground := Go.Ground.data }, { on := 6, ground := Go.Ground.chain }], guard := none } : Oper)) rfl (fun K hK => ?_) AllReadyH.nil
            refine step_call rfl 36 _ _ rfl (enters_of Try.func36 (by kernel_rfl) rfl) [.int .i64 (2 * x)] rfl (num_any w6 (2 * x)) ?_
            rintro e w7 ⟨rfl, hbw7⟩
            refine ⟨_, rfl, ?_⟩
            have Bw7 : Below wr.heap.size wr w7 := Bw6.trans (hbw7.mono Bw6.size)
            refine hK.out _ _ (KP.out _ Bw7) (fun hHeldN => ?_)
            clear hK K hHeld
            have hHeld := hHeldN
            clear hHeldN
            try simp only [Act.put, List.setIfInBounds_toArray, List.set_cons_zero, List.set_cons_succ]
            refine wpAnyH_ready (rs := [14]) (by kernel_rfl) (by simp) ?_
            refine AllReadyH.cons (o := ({ dst := some 67, op := Go.Op.call { callee := Go.Callee.value (Go.Operand.func 12), args := #[Go.Operand.tmp 53, Go.Operand.const (Go.Value.int Go.IntKind.i64 0), Go.Operand.tmp 59, Go.Operand.tmp 66], argTypes := #[27, 3, 31, 31] }, type := 35, pos := "family.go:27", after := #[{ on := 0, ground := Go.Ground.data }, { on := 6, ground := Go.Ground.data }, { on := 13, ground := Go.Ground.data }, { on := 13, ground := Go.Ground.chain }], guard := none } : Oper)) rfl (fun K hK => ?_) AllReadyH.nil
            refine step_call rfl 12 _ _ rfl (enters_of Try.func12 (by kernel_rfl) rfl) [.agg #[.slice aa 1 ac], .int .i64 0, .agg #[.int .i64 1, .int .i64 x, .string ⟨#[]⟩, .int .i64 0, .slice none 0 0], .agg #[.int .i64 1, .int .i64 (2 * x), .string ⟨#[]⟩, .int .i64 0, .slice none 0 0]] rfl (PUT.out w7 Bw7) ?_
            rintro e w9 ⟨fa, fn, fc, rfl, hb9, hfc, hs9⟩
            refine ⟨_, rfl, ?_⟩
            have hfn := told_len hs9
            simp only [List.map_cons, List.map_nil, List.length_cons, List.length_nil, Nat.zero_add] at hfn
            subst hfn
            have B9 := Bw7.trans (hb9.mono Bw7.size)
            have I9 := HI.out.put (fc := fc) B9 Bw7.size hs9
            have bx9 := (B9.block _ HI.out.ha.2).trans Ha1.out
            have z9 := cellOf bx9 0
            have y9 := freeOf bx9 0
            simp only [List.getElem?_toArray, List.getElem?_cons_zero] at z9
            refine hK.out _ _ (KP.out _ B9) (fun hHeldN => ?_)
            clear hK K hHeld
            have hHeld := hHeldN
            clear hHeldN
            try simp only [Act.put, List.setIfInBounds_toArray, List.set_cons_zero, List.set_cons_succ]
            refine wpAnyH_take (i := 15) (oi := ({ dst := some 52, op := Go.Op.move (Go.Operand.tmp 67), type := 35, pos := "family.go:27", after := #[{ on := 14, ground := Go.Ground.data }], guard := none } : Oper)) (v := .tuple #[.agg #[.slice fa 1 fc], .int .i64 0]) rfl (by kernel_rfl) (by kernel_rfl) (by kernel_rfl) (fun _ _ _ h => h) (Or.inl ⟨by rfl, ?_⟩) (by assumption) ?_
            · intro w hSw; (try dsimp only at hSw); go_simp
            try simp only [Act.put, List.setIfInBounds_toArray, List.set_cons_zero, List.set_cons_succ]
            refine wpAnyH_take (i := 16) (oi := ({ dst := some 68, op := Go.Op.extract (Go.Operand.tmp 52) 0, type := 27, pos := "family.go:27", after := #[{ on := 15, ground := Go.Ground.data }], guard := none } : Oper)) (v := .agg #[.slice fa 1 fc]) rfl (by kernel_rfl) (by kernel_rfl) (by kernel_rfl) (fun _ _ _ h => h) (Or.inl ⟨by rfl, ?_⟩) (by assumption) ?_
            · intro w hSw; (try dsimp only at hSw); go_simp
            try simp only [Act.put, List.setIfInBounds_toArray, List.set_cons_zero, List.set_cons_succ]
            refine wpAnyH_take (i := 17) (oi := ({ dst := some 69, op := Go.Op.extract (Go.Operand.tmp 52) 1, type := 34, pos := "family.go:27", after := #[{ on := 15, ground := Go.Ground.data }, { on := 18, ground := Go.Ground.gcOnly Go.Departure.lateStores }], guard := none } : Oper)) (v := .int .i64 0) rfl (by kernel_rfl) (by kernel_rfl) (by kernel_rfl) (fun _ _ _ h => h) (Or.inl ⟨by rfl, ?_⟩) (by assumption) ?_
            · intro w hSw; (try dsimp only at hSw); go_simp
            try simp only [Act.put, List.setIfInBounds_toArray, List.set_cons_zero, List.set_cons_succ]
            refine wpAnyH_ready (rs := [18]) (by kernel_rfl) (by simp) ?_
            refine AllReadyH.cons (o := ({ dst := none, op := Go.Op.store 27 (Go.Operand.tmp 9) (Go.Operand.tmp 68), type := 0, pos := "family.go:27", after := #[{ on := 16, ground := Go.Ground.data }, { on := 14, ground := Go.Ground.chain }, { on := 0, ground := Go.Ground.phase }, { on := 1, ground := Go.Ground.phase }, { on := 2, ground := Go.Ground.phase }, { on := 3, ground := Go.Ground.phase }, { on := 4, ground := Go.Ground.phase }, { on := 5, ground := Go.Ground.phase }, { on := 6, ground := Go.Ground.phase }, { on := 7, ground := Go.Ground.phase }, { on := 8, ground := Go.Ground.phase }, { on := 9, ground := Go.Ground.phase }, { on := 10, ground := Go.Ground.phase }, { on := 11, ground := Go.Ground.phase }, { on := 12, ground := Go.Ground.phase }, { on := 13, ground := Go.Ground.phase }, { on := 14, ground := Go.Ground.phase }, { on := 15, ground := Go.Ground.phase }, { on := 16, ground := Go.Ground.phase }, { on := 17, ground := Go.Ground.textOnly Go.Departure.lateStores }], guard := none } : Oper)) rfl (fun K hK => ?_) AllReadyH.nil
            go_simp
            refine hK.out _ _ (KP2.out _ B9 _) (fun hHeldN => ?_)
            clear hK K hHeld
            have hHeld := hHeldN
            clear hHeldN
            try simp only [Act.put, List.setIfInBounds_toArray, List.set_cons_zero, List.set_cons_succ]
            refine wpAnyH_take (i := 19) (oi := ({ dst := some 10, op := Go.Op.assign (Go.Operand.tmp 69), type := 34, pos := "family.go:27", after := #[{ on := 17, ground := Go.Ground.data }, { on := 18, ground := Go.Ground.chain }, { on := 0, ground := Go.Ground.phase }, { on := 1, ground := Go.Ground.phase }, { on := 2, ground := Go.Ground.phase }, { on := 3, ground := Go.Ground.phase }, { on := 4, ground := Go.Ground.phase }, { on := 5, ground := Go.Ground.phase }, { on := 6, ground := Go.Ground.phase }, { on := 7, ground := Go.Ground.phase }, { on := 8, ground := Go.Ground.phase }, { on := 9, ground := Go.Ground.phase }, { on := 10, ground := Go.Ground.phase }, { on := 11, ground := Go.Ground.phase }, { on := 12, ground := Go.Ground.phase }, { on := 13, ground := Go.Ground.phase }, { on := 14, ground := Go.Ground.phase }, { on := 15, ground := Go.Ground.phase }, { on := 16, ground := Go.Ground.phase }, { on := 17, ground := Go.Ground.phase }, { on := 18, ground := Go.Ground.phase }], guard := none } : Oper)) (v := .int .i64 0) rfl (by kernel_rfl) (by kernel_rfl) (by kernel_rfl) (fun _ _ _ h => h) (Or.inl ⟨by rfl, ?_⟩) (by assumption) ?_
            · intro w hSw; (try dsimp only at hSw); go_simp
            try simp only [Act.put, List.setIfInBounds_toArray, List.set_cons_zero, List.set_cons_succ]
            refine wpAnyH_done (by kernel_rfl) ?_ _
            have HI9 := hid I9
            clear I9 z9 y9 bx9
            go_wp2
            go_meet
            case rel => exact ⟨rfl, HI9.out⟩
          · refine AllReadyH.cons (o := ({ dst := some 66, op := Go.Op.call { callee := Go.Callee.value (Go.Operand.func 36), args := #[Go.Operand.tmp 65], argTypes := #[2] }, type := 31, pos := "family.go:27", after := #[{ on := 12, ground := Go.Ground.data }, { on := 6, ground := Go.Ground.chain }], guard := none } : Oper)) rfl (fun K hK => ?_) AllReadyH.nil
            refine step_call rfl 36 _ _ rfl (enters_of Try.func36 (by kernel_rfl) rfl) [.int .i64 (2 * x)] rfl (num_any w6 (2 * x)) ?_
            rintro e w7 ⟨rfl, hbw7⟩
            refine ⟨_, rfl, ?_⟩
            have Bw7 : Below wr.heap.size wr w7 := Bw6.trans (hbw7.mono Bw6.size)
            refine hK.out _ _ (KP.out _ Bw7) (fun hHeldN => ?_)
            clear hK K hHeld
            have hHeld := hHeldN
            clear hHeldN
            try simp only [Act.put, List.setIfInBounds_toArray, List.set_cons_zero, List.set_cons_succ]
            have z7 := zz.out _ Bw7
            refine wpAnyH_ready (rs := [0]) (by kernel_rfl) (by simp) ?_
            refine AllReadyH.cons (o := ({ dst := some 53, op := Go.Op.load 27 (Go.Operand.tmp 9), type := 27, pos := "family.go:27", after := #[], guard := none } : Oper)) rfl (fun K hK => ?_) AllReadyH.nil
            go_simp
            refine hK.out _ _ (KP.out _ Bw7) (fun hHeldN => ?_)
            clear hK K hHeld
            have hHeld := hHeldN
            clear hHeldN
            try simp only [Act.put, List.setIfInBounds_toArray, List.set_cons_zero, List.set_cons_succ]
            refine wpAnyH_ready (rs := [14]) (by kernel_rfl) (by simp) ?_
            refine AllReadyH.cons (o := ({ dst := some 67, op := Go.Op.call { callee := Go.Callee.value (Go.Operand.func 12), args := #[Go.Operand.tmp 53, Go.Operand.const (Go.Value.int Go.IntKind.i64 0), Go.Operand.tmp 59, Go.Operand.tmp 66], argTypes := #[27, 3, 31, 31] }, type := 35, pos := "family.go:27", after := #[{ on := 0, ground := Go.Ground.data }, { on := 6, ground := Go.Ground.data }, { on := 13, ground := Go.Ground.data }, { on := 13, ground := Go.Ground.chain }], guard := none } : Oper)) rfl (fun K hK => ?_) AllReadyH.nil
            refine step_call rfl 12 _ _ rfl (enters_of Try.func12 (by kernel_rfl) rfl) [.agg #[.slice aa 1 ac], .int .i64 0, .agg #[.int .i64 1, .int .i64 x, .string ⟨#[]⟩, .int .i64 0, .slice none 0 0], .agg #[.int .i64 1, .int .i64 (2 * x), .string ⟨#[]⟩, .int .i64 0, .slice none 0 0]] rfl (PUT.out w7 Bw7) ?_
            rintro e w9 ⟨fa, fn, fc, rfl, hb9, hfc, hs9⟩
            refine ⟨_, rfl, ?_⟩
            have hfn := told_len hs9
            simp only [List.map_cons, List.map_nil, List.length_cons, List.length_nil, Nat.zero_add] at hfn
            subst hfn
            have B9 := Bw7.trans (hb9.mono Bw7.size)
            have I9 := HI.out.put (fc := fc) B9 Bw7.size hs9
            have bx9 := (B9.block _ HI.out.ha.2).trans Ha1.out
            have z9 := cellOf bx9 0
            have y9 := freeOf bx9 0
            simp only [List.getElem?_toArray, List.getElem?_cons_zero] at z9
            refine hK.out _ _ (KP.out _ B9) (fun hHeldN => ?_)
            clear hK K hHeld
            have hHeld := hHeldN
            clear hHeldN
            try simp only [Act.put, List.setIfInBounds_toArray, List.set_cons_zero, List.set_cons_succ]
            refine wpAnyH_take (i := 15) (oi := ({ dst := some 52, op := Go.Op.move (Go.Operand.tmp 67), type := 35, pos := "family.go:27", after := #[{ on := 14, ground := Go.Ground.data }], guard := none } : Oper)) (v := .tuple #[.agg #[.slice fa 1 fc], .int .i64 0]) rfl (by kernel_rfl) (by kernel_rfl) (by kernel_rfl) (fun _ _ _ h => h) (Or.inl ⟨by rfl, ?_⟩) (by assumption) ?_
            · intro w hSw; (try dsimp only at hSw); go_simp
            try simp only [Act.put, List.setIfInBounds_toArray, List.set_cons_zero, List.set_cons_succ]
            refine wpAnyH_take (i := 16) (oi := ({ dst := some 68, op := Go.Op.extract (Go.Operand.tmp 52) 0, type := 27, pos := "family.go:27", after := #[{ on := 15, ground := Go.Ground.data }], guard := none } : Oper)) (v := .agg #[.slice fa 1 fc]) rfl (by kernel_rfl) (by kernel_rfl) (by kernel_rfl) (fun _ _ _ h => h) (Or.inl ⟨by rfl, ?_⟩) (by assumption) ?_
            · intro w hSw; (try dsimp only at hSw); go_simp
            try simp only [Act.put, List.setIfInBounds_toArray, List.set_cons_zero, List.set_cons_succ]
            refine wpAnyH_take (i := 17) (oi := ({ dst := some 69, op := Go.Op.extract (Go.Operand.tmp 52) 1, type := 34, pos := "family.go:27", after := #[{ on := 15, ground := Go.Ground.data }, { on := 18, ground := Go.Ground.gcOnly Go.Departure.lateStores }], guard := none } : Oper)) (v := .int .i64 0) rfl (by kernel_rfl) (by kernel_rfl) (by kernel_rfl) (fun _ _ _ h => h) (Or.inl ⟨by rfl, ?_⟩) (by assumption) ?_
            · intro w hSw; (try dsimp only at hSw); go_simp
            try simp only [Act.put, List.setIfInBounds_toArray, List.set_cons_zero, List.set_cons_succ]
            refine wpAnyH_ready (rs := [18]) (by kernel_rfl) (by simp) ?_
            refine AllReadyH.cons (o := ({ dst := none, op := Go.Op.store 27 (Go.Operand.tmp 9) (Go.Operand.tmp 68), type := 0, pos := "family.go:27", after := #[{ on := 16, ground := Go.Ground.data }, { on := 14, ground := Go.Ground.chain }, { on := 0, ground := Go.Ground.phase }, { on := 1, ground := Go.Ground.phase }, { on := 2, ground := Go.Ground.phase }, { on := 3, ground := Go.Ground.phase }, { on := 4, ground := Go.Ground.phase }, { on := 5, ground := Go.Ground.phase }, { on := 6, ground := Go.Ground.phase }, { on := 7, ground := Go.Ground.phase }, { on := 8, ground := Go.Ground.phase }, { on := 9, ground := Go.Ground.phase }, { on := 10, ground := Go.Ground.phase }, { on := 11, ground := Go.Ground.phase }, { on := 12, ground := Go.Ground.phase }, { on := 13, ground := Go.Ground.phase }, { on := 14, ground := Go.Ground.phase }, { on := 15, ground := Go.Ground.phase }, { on := 16, ground := Go.Ground.phase }, { on := 17, ground := Go.Ground.textOnly Go.Departure.lateStores }], guard := none } : Oper)) rfl (fun K hK => ?_) AllReadyH.nil
            go_simp
            refine hK.out _ _ (KP2.out _ B9 _) (fun hHeldN => ?_)
            clear hK K hHeld
            have hHeld := hHeldN
            clear hHeldN
            try simp only [Act.put, List.setIfInBounds_toArray, List.set_cons_zero, List.set_cons_succ]
            refine wpAnyH_take (i := 19) (oi := ({ dst := some 10, op := Go.Op.assign (Go.Operand.tmp 69), type := 34, pos := "family.go:27", after := #[{ on := 17, ground := Go.Ground.data }, { on := 18, ground := Go.Ground.chain }, { on := 0, ground := Go.Ground.phase }, { on := 1, ground := Go.Ground.phase }, { on := 2, ground := Go.Ground.phase }, { on := 3, ground := Go.Ground.phase }, { on := 4, ground := Go.Ground.phase }, { on := 5, ground := Go.Ground.phase }, { on := 6, ground := Go.Ground.phase }, { on := 7, ground := Go.Ground.phase }, { on := 8, ground := Go.Ground.phase }, { on := 9, ground := Go.Ground.phase }, { on := 10, ground := Go.Ground.phase }, { on := 11, ground := Go.Ground.phase }, { on := 12, ground := Go.Ground.phase }, { on := 13, ground := Go.Ground.phase }, { on := 14, ground := Go.Ground.phase }, { on := 15, ground := Go.Ground.phase }, { on := 16, ground := Go.Ground.phase }, { on := 17, ground := Go.Ground.phase }, { on := 18, ground := Go.Ground.phase }], guard := none } : Oper)) (v := .int .i64 0) rfl (by kernel_rfl) (by kernel_rfl) (by kernel_rfl) (fun _ _ _ h => h) (Or.inl ⟨by rfl, ?_⟩) (by assumption) ?_
            · intro w hSw; (try dsimp only at hSw); go_simp
            try simp only [Act.put, List.setIfInBounds_toArray, List.set_cons_zero, List.set_cons_succ]
            refine wpAnyH_done (by kernel_rfl) ?_ _
            have HI9 := hid I9
            clear I9 z9 y9 bx9
            go_wp2
            go_meet
            case rel => exact ⟨rfl, HI9.out⟩
      case rest =>
        obtain ⟨rfl, hI9⟩ := hcut
        have HI9 := hid hI9
        clear hI9
        go_wp2
        go_roundg gi
        case measure => omega
        case rel => exact ⟨i + 1, _, by have := Hi.out; omega, by go_num, by rw [List.take_add_one, Hx.out]; exact HL.out.add x, HI9.out⟩
end Go.Proofs.Ytenfgahedbeekaa

