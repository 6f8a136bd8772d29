/- heap.copyOfRow: the walk. -/
import Derived.Test.YtenfgahedbeekaaM
namespace Go.Proofs.Ytenfgahedbeekaa
open Go.RowKit Go.Deep Go.Shelf
set_option linter.unusedVariables false
set_option linter.unusedSimpArgs false

def CrP (k : Nat) (w : World) (ps : List (VT k × VT k)) (e : Ending) (w' : World) : Prop := ∃ fa fn fc qs, e = .returned (.slice fa fn fc) ∧ Below w.heap.size w w' ∧ fn ≤ fc ∧ RwP k w' (fun b => w.heap.size ≤ b ∧ b < w'.heap.size) fa fn qs ∧ qs.map (ofP k) = ps.map (ofP k)
set_option maxRecDepth 100000 in
set_option maxHeartbeats 2000000 in
theorem copyRow_any (k : Nat) (w : World) (a : Option Addr) (n cap : Nat) (ps : List (VT k × VT k)) (hd : RwR k w a n ps) :
    Calls Try.prog 62 #[.slice a n cap] w (CrP k w ps) := by
  have D := hid hd
  have Hn := hid hd.n1
  have hle := hd.n2
  have hle2 : (n : Int) ≤ 1000 := by omega
  have hn0 : (0 : Int) ≤ (n : Int) := by omega
  clear hd
  go_enter Try.func62, Try.ntmps62
  go_wp2
  go_loopg [3, 8] n (fun g fv ii wr => ∃ i : Nat, i + g = n ∧ ii = .int .i64 (i : Int) ∧ ∃ fa fn fc qs, fv = .slice fa fn fc ∧ CrL k w wr ps i fa fn fc qs)
  case atStart => exact ⟨0, by omega, rfl, none, 0, 0, [], rfl, ⟨Below.refl _ _, by simpa using ERow.nil _ _, fun q hq => by simp at hq, rfl⟩⟩
  case round =>
    obtain ⟨i, hi', rfl, fa, fn, fc, qs, rfl, hc⟩ := hrel
    have HC := hid hc
    cases gk with
    | zero =>
      have hin2 : i = n := by omega
      subst hin2
      clear hi' hc
      go_wp2
      go_ret
      have hlen : qs.length = i := by
        have := congrArg List.length HC.out.same
        rw [List.length_map, List.length_map, List.length_take, ← Hn.out] at this
        omega
      obtain ⟨a9, c9, e9, hcap⟩ := HC.out.row.form
      have hrow := HC.out.row
      have hta : ps.take i = ps := List.take_of_length_le (by rw [← Hn.out]; exact Nat.le_refl _)
      cases e9
      rw [List.length_map] at hcap hrow ⊢
      refine ⟨fa, _, fc, qs, rfl, HC.out.bel, hcap, ⟨rfl, by omega, hrow.rd, ?_, ?_⟩, by rw [HC.out.same, hta]⟩
      · intro x ex ne
        subst ex
        have hrow0 := HC.out.row
        rcases hrow0.2 with ⟨e, hn⟩ | ⟨g, cap', cur, e, hb, rest⟩
        · cases e
        · cases e
          exact hrow0.own g rfl
      · intro q hq
        have h := HC.out.rd q hq
        exact ⟨h.1.imp k (fun b hb => ⟨hb.1, hb.2.1⟩), h.2.imp k (fun b hb => ⟨hb.1, hb.2.1⟩)⟩
    | succ gi =>
      have hlt0 : i < n := by omega
      have hlt : (i : Int) < (n : Int) := by omega
      have hi00 : (0 : Int) ≤ (i : Int) := by omega
      obtain ⟨p, hp⟩ : ∃ p, ps[i]? = some p := ⟨ps[i]'(by rw [← Hn.out]; exact hlt0), List.getElem?_eq_getElem _⟩
      have hD := D.out.below (Nat.le_refl _) hc.bel
      obtain ⟨b, off, ea, dh⟩ := hD.rd i (enT k p) (by rw [List.getElem?_map, hp]; rfl)
      subst ea
      obtain ⟨he1, he2⟩ := hD.el p (List.mem_of_getElem? hp)
      have d0 := dh 0 (by omega)
      have d1 := dh 1 (by omega)
      have d2 := dh 2 (by omega)
      have d3 := dh 3 (by omega)
      have d4 := dh 4 (by omega)
      have d5 := dh 5 (by omega)
      have d6 := dh 6 (by omega)
      have d7 := dh 7 (by omega)
      have d8 := dh 8 (by omega)
      have d9 := dh 9 (by omega)
      simp only [En.cs, enT, List.getElem?_cons_zero, List.getElem?_cons_succ, Nat.add_zero] at d0 d1 d2 d3 d4 d5 d6 d7 d8 d9
      have bA : ∀ o, Below wr.heap.size wr ((wr.alloc o).drew) := fun o => ((Below.refl _ wr).alloc (Nat.le_refl _) o).drew
      have CA := hid (fun o => copy_any k ((wr.alloc o).drew) p.1 (Rds.below k he1 (Nat.le_refl _) (bA o)))
      have CB := hid (fun (w8 : World) (h8 : Below wr.heap.size wr w8) => copy_any k w8 p.2 (Rds.below k he2 (Nat.le_refl _) h8))
      have Hp := hid hp
      have Hi := hid hi'
      have hlv : (qs.map (enT k)).length ≤ 1000000 := by
        have := congrArg List.length hc.same
        rw [List.length_map, List.length_map, List.length_take] at this
        rw [List.length_map]; omega
      have Hlv := hid hlv
      have hsz := hc.bel.size
      have HBA := hid bA
      generalize hdT k p.1 = hd1 at *
      generalize hdT k p.2 = hd2 at *
      obtain ⟨yk, yi, yt, yr, ya, yn, yc⟩ := hd1
      obtain ⟨zk, zi, zt, zr, za, zn, zc⟩ := hd2
      simp only [Hd.v] at CA CB d0 d1 d2 d3 d4 d5 d6 d7 d8 d9
      have nb := heap_alloc_new wr (.cells #[.int .i64 yk, .int .i64 yi, .string yt, .int .i64 yr, .slice ya yn yc, .int .i64 zk, .int .i64 zi, .string zt, .int .i64 zr, .slice za zn zc] 81)
      have SE : Hid (∀ W' : World, W'.heap[wr.heap.size]? = some (.cells #[.int .i64 yk, .int .i64 yi, .string yt, .int .i64 yr, .slice ya yn yc, .int .i64 zk, .int .i64 zi, .string zt, .int .i64 zr, .slice za zn zc] 81 (0, 0)) → (W'.cell? ⟨wr.heap.size, 0, none⟩ = some (.int .i64 yk) ∧ W'.cell? ⟨wr.heap.size, 1, none⟩ = some (.int .i64 yi) ∧ W'.cell? ⟨wr.heap.size, 2, none⟩ = some (.string yt) ∧ W'.cell? ⟨wr.heap.size, 3, none⟩ = some (.int .i64 yr) ∧ W'.cell? ⟨wr.heap.size, 4, none⟩ = some (.slice ya yn yc) ∧ W'.cell? ⟨wr.heap.size, 5, none⟩ = some (.int .i64 zk) ∧ W'.cell? ⟨wr.heap.size, 6, none⟩ = some (.int .i64 zi) ∧ W'.cell? ⟨wr.heap.size, 7, none⟩ = some (.string zt) ∧ W'.cell? ⟨wr.heap.size, 8, none⟩ = some (.int .i64 zr) ∧ W'.cell? ⟨wr.heap.size, 9, none⟩ = some (.slice za zn zc))) := hid (fun W' h => ⟨cellOf h 0, cellOf h 1, cellOf h 2, cellOf h 3, cellOf h 4, cellOf h 5, cellOf h 6, cellOf h 7, cellOf h 8, cellOf h 9⟩)
      obtain ⟨s0, s1, s2, s3, s4, s5, s6, s7, s8, s9⟩ := SE.out _ nb
      have NB := hid nb
      clear hc dh hp he1 he2 hlv hi' hD bA nb
      go_wp2
      go_region_held3 (fun W' => W'.cell? ⟨wr.heap.size, 0, none⟩ = some (.int .i64 yk) ∧ W'.cell? ⟨wr.heap.size, 1, none⟩ = some (.int .i64 yi) ∧ W'.cell? ⟨wr.heap.size, 2, none⟩ = some (.string yt) ∧ W'.cell? ⟨wr.heap.size, 3, none⟩ = some (.int .i64 yr) ∧ W'.cell? ⟨wr.heap.size, 4, none⟩ = some (.slice ya yn yc) ∧ W'.cell? ⟨wr.heap.size, 5, none⟩ = some (.int .i64 zk) ∧ W'.cell? ⟨wr.heap.size, 6, none⟩ = some (.int .i64 zi) ∧ W'.cell? ⟨wr.heap.size, 7, none⟩ = some (.string zt) ∧ W'.cell? ⟨wr.heap.size, 8, none⟩ = some (.int .i64 zr) ∧ W'.cell? ⟨wr.heap.size, 9, none⟩ = some (.slice za zn zc)) (first | exact SE.out _ e4 | exact SE.out _ (e9' _) | exact SE.out _ e9 | exact SE.out _ e8 | exact SE.out _ NB.out | go_keep) ((first
        | (have hno := e9; (refine step_appE (by rfl) _ _ (by rfl) (.slice fa fn fc) w9.heap.size (enT k (x, y)) (by rfl) (by rfl) w.heap.size (qs.map (enT k)) ((HC.out.row.below (Nat.le_refl _) B9.out).below (Nat.le_refl _) ((Below.refl _ w9).alloc (Nat.le_refl _) _)) (heap_alloc_new w9 _) (by have := B9.out.size; simp; omega) Hlv.out ?_; intro v4 w4 hr4 hg4; have e4 : w4.heap[wr.heap.size]? = some (.cells #[.int .i64 yk, .int .i64 yi, .string yt, .int .i64 yr, .slice ya yn yc, .int .i64 zk, .int .i64 zi, .string zt, .int .i64 zr, .slice za zn zc] 81 (0, 0)) := (hg4.1.block _ (by have := (Array.getElem?_eq_some_iff.1 e9).1; simp; omega) (fun e => by have := (HC.out.row.own _ e.symm).2; omega)).trans (e9' _); obtain ⟨fa2, fn2, fc2, rfl, hc2⟩ := HC.out.more Hp.out (HBA.out _) H8.out Hrx.out Hex.out H9.out Hry.out Hey.out hr4 hg4; have HC2 := hid hc2; clear hc2 hr4 hg4))
        | (go_at_call 46; (have hno := H8; refine (CB.out _ B8.out).mono ?_; rintro e w9 ⟨y, rfl, hb9, hry, hey⟩; simp only [Hd.v]; have H9 := hid hb9; have Hry := hid hry; have Hey := hid hey; have B9 := hid (B8.out.trans (hb9.mono B8.out.size)); have e9 : w9.heap[wr.heap.size]? = some (.cells #[.int .i64 yk, .int .i64 yi, .string yt, .int .i64 yr, .slice ya yn yc, .int .i64 zk, .int .i64 zi, .string zt, .int .i64 zr, .slice za zn zc] 81 (0, 0)) := (hb9.block _ (Array.getElem?_eq_some_iff.1 e8).1).trans e8; have e9' : ∀ o, (w9.alloc o).heap[wr.heap.size]? = some (.cells #[.int .i64 yk, .int .i64 yi, .string yt, .int .i64 yr, .slice ya yn yc, .int .i64 zk, .int .i64 zi, .string zt, .int .i64 zr, .slice za zn zc] 81 (0, 0)) := fun o => (Below.heap_alloc _ _ _ (Array.getElem?_eq_some_iff.1 e9).1).trans e9; clear hb9 hry hey))
        | (go_at_call 46; (refine (CA.out _).mono ?_; rintro e w8 ⟨x, rfl, hb8, hrx, hex⟩; simp only [Hd.v]; have H8 := hid hb8; have Hrx := hid hrx; have Hex := hid hex; have B8 := hid ((HBA.out _).trans (hb8.mono (HBA.out _).size)); have e8 : w8.heap[wr.heap.size]? = some (.cells #[.int .i64 yk, .int .i64 yi, .string yt, .int .i64 yr, .slice ya yn yc, .int .i64 zk, .int .i64 zi, .string zt, .int .i64 zr, .slice za zn zc] 81 (0, 0)) := (hb8.block _ (Array.getElem?_eq_some_iff.1 NB.out).1).trans NB.out; clear hb8 hrx hex))))
      go_wp2
      go_roundg gi
      case measure => omega
      case rel => exact ⟨i + 1, by have := Hi.out; omega, by go_num, fa2, fn2, fc2, _, rfl, HC2.out⟩
end Go.Proofs.Ytenfgahedbeekaa
