/- The document's side: Copy. -/
import Derived.Test.YtenfgahedbeekaaP2
import Derived.Test.YtenfgahedbeekaaQ
namespace Go.Proofs.Ytenfgahedbeekaa
open Go.RowKit Go.Deep Go.Shelf
set_option linter.unusedVariables false
set_option linter.unusedSimpArgs false

def CoP (k : Nat) (w : World) (ms : List (Sl × Rw k)) (e : Ending) (w' : World) : Prop := ∃ fa fn fc ns, e = .returned (.agg #[.slice fa fn fc]) ∧ Below w.heap.size w w' ∧ fn ≤ fc ∧ StP k w' (fun b => w.heap.size ≤ b ∧ b < w'.heap.size) fa fn ns ∧ ns.map (fun q => rowC k q.2) = ms.map fun q => rowC k q.2
theorem wpList_appM {ops : Array Oper} {rest : List Oper} {o : Oper} {a : Act} {Q : Exit → Act → World → Prop} (w : World) (hgd : o.guard = none) (sl x : Operand)
    (ho : o.op = .call { callee := .builtin .append, args := #[sl, x], argTypes := #[25, 25] }) (v : Value) (h : Sl) (g : Nat) (hs : a.eval sl = v) (hx : a.eval x = .slice (some ⟨g, 0, none⟩) 1 1)
    (hg : w.heap[g]? = some (.cells #[h.v] 70 (0, 0))) (B : Nat) (ms : List Sl) (hr : MRow w B v ms) (hB : B ≤ w.heap.size) (hl : ms.length ≤ 1000000)
    (k : ∀ v' w', MRow w' B v' (ms ++ [h]) → Grw w v w' v' → wpList Try.prog ops Q rest (a.put o.dst v') w') :
    wpList Try.prog ops Q (o :: rest) a w := by
  refine wpList_plain hgd fun K hK => ?_
  obtain ⟨v', w', hrun, h2, h3⟩ := run_appM w o.type B v ms h g hr hg hB hl
  unfold Oper.wp execOp
  simp only [ho, resolve, invoke, builtin, Sem.run_bind, Sem.run_pure, Result.andThen_ok, List.map_toArray, List.map_cons, List.map_nil, hs, hx, hrun]
  exact hK _ _ (k v' w' h2 h3)
@[reducible] def W4S (w : World) (b b1 off o1 i j sn sc mn mc : Nat) (yk yi : Int) (yt : ByteArray) (yr : Int) (ya : Option Addr) (yn yc : Nat) (zk zi : Int) (zt : ByteArray) (zr : Int) (za : Option Addr) (zn zc : Nat) (W' : World) : Prop := W'.cell? ⟨w.heap.size, 0, none⟩ = some (.slice (some ⟨b, off, none⟩) sn sc) ∧ W'.cell? ⟨b, off + i, none⟩ = some (.slice (some ⟨b1, o1, none⟩) mn mc) ∧ W'.cell? ⟨b1, o1 + j * 10, none⟩ = some (.int .i64 yk) ∧ W'.cell? ⟨b1, o1 + j * 10 + 1, none⟩ = some (.int .i64 yi) ∧ W'.cell? ⟨b1, o1 + j * 10 + 2, none⟩ = some (.string yt) ∧ W'.cell? ⟨b1, o1 + j * 10 + 3, none⟩ = some (.int .i64 yr) ∧ W'.cell? ⟨b1, o1 + j * 10 + 4, none⟩ = some (.slice ya yn yc) ∧ W'.cell? ⟨b1, o1 + j * 10 + 5, none⟩ = some (.int .i64 zk) ∧ W'.cell? ⟨b1, o1 + j * 10 + 6, none⟩ = some (.int .i64 zi) ∧ W'.cell? ⟨b1, o1 + j * 10 + 7, none⟩ = some (.string zt) ∧ W'.cell? ⟨b1, o1 + j * 10 + 8, none⟩ = some (.int .i64 zr) ∧ W'.cell? ⟨b1, o1 + j * 10 + 9, none⟩ = some (.slice za zn zc)
set_option maxRecDepth 100000 in
set_option maxHeartbeats 2000000 in
theorem refCopy_any (k : Nat) (w : World) (sa : Option Addr) (sn sc : Nat) (ms : List (Sl × Rw k)) (hd : StR k w sa sn ms) :
    Calls Try.prog 11 #[.agg #[.slice sa sn sc]] w (CoP k w ms) := by
  have D := hid hd
  have Hn := hid hd.n1
  have hle := hd.n2
  have hle2 : (sn : Int) ≤ 1000 := by omega
  have hn0 : (0 : Int) ≤ (sn : Int) := by omega
  obtain ⟨cs, hcs⟩ : ∃ cs, cs = ms.map fun q => rowC k q.2 := ⟨_, rfl⟩
  have Hcs := hid hcs
  have Hcl : Hid (cs.length = sn) := hid (by rw [hcs, List.length_map, hd.n1])
  clear hd hcs
  obtain ⟨W0, hW0⟩ : ∃ W0, W0 = ((w.alloc (.cells #[.slice sa sn sc] 27)).alloc (.cells #[.slice none 0 0] 27)).alloc (.cells #[.slice none 0 0] 27) := ⟨_, rfl⟩
  have c0 : CwL k w W0 (.slice sa sn sc) cs 0 none 0 0 [] := by
    have m0 := heap_alloc_new w (.cells #[.slice sa sn sc] 27)
    have m1 := heap_alloc_new (w.alloc (.cells #[.slice sa sn sc] 27)) (.cells #[.slice none 0 0] 27)
    have m2 := heap_alloc_new ((w.alloc (.cells #[.slice sa sn sc] 27)).alloc (.cells #[.slice none 0 0] 27)) (.cells #[.slice none 0 0] 27)
    simp only [World.size_alloc] at m1 m2
    have pl' : ∀ {w : World} {o x : Obj} {k : Nat}, w.heap[k]? = some x → (w.alloc o).heap[k]? = some x := fun h => (Below.heap_alloc _ _ _ (Array.getElem?_eq_some_iff.1 h).1).trans h
    refine ⟨?_, ?_, ?_, ?_, by simpa using MRow.nil _ _, fun q hq => by simp at hq, rfl⟩
    · rw [hW0]; exact (((Below.refl _ w).alloc (Nat.le_refl _) _).alloc (by simp) _).alloc (by simp; omega) _
    · rw [hW0]; exact pl' (pl' m0)
    · rw [hW0]; exact pl' m1
    · rw [hW0]; exact m2
  have C0 := hid c0
  have g0 : W0.cell? ⟨w.heap.size, 0, none⟩ = some (.slice sa sn sc) := cellOf c0.b0 0
  clear c0
  go_enter Try.func11, Try.ntmps11
  go_wp2
  rw [← hW0]
  clear hW0
  go_loopg [4] sn (fun g ii wr => ∃ i : Nat, i + g = sn ∧ ii = .int .i64 (i : Int) ∧ ∃ fa fn fc ns, CwL k w wr (.slice sa sn sc) cs i fa fn fc ns)
  case atStart => exact ⟨0, by omega, rfl, none, 0, 0, [], C0.out⟩
  case round =>
    obtain ⟨i, hi', rfl, fa, fn, fc, ns, hc⟩ := hrel
    have HC := hid hc
    have g1 : wr.cell? ⟨w.heap.size, 0, none⟩ = some (.slice sa sn sc) := cellOf hc.b0 0
    cases gk with
    | zero =>
      have hin2 : i = sn := by omega
      subst hin2
      have y0 := cellOf hc.b2 0
      have e0 := cellOf hc.b1 0
      have f0 := freeOf hc.b1 0
      simp only [List.getElem?_toArray, List.getElem?_cons_zero, List.getElem?_cons_succ] at y0 e0
      clear hi' hc g0
      go_wp2
      have h5 := heap_set_at HC.out.b1 0 (.slice fa fn fc)
      have hb5 : Below w.heap.size w (wr.setCell ⟨w.heap.size + 1, 0, none⟩ (.slice fa fn fc)) := HC.out.bel.setCell (by show w.heap.size ≤ w.heap.size + 1; omega) _
      have hkp : ∀ b, w.heap.size + 3 ≤ b → (wr.setCell ⟨w.heap.size + 1, 0, none⟩ (.slice fa fn fc)).heap[b]? = wr.heap[b]? := fun b hb => Below.heap_setCell _ _ _ _ (by show b ≠ w.heap.size + 1; omega)
      have hs5 : (wr.setCell ⟨w.heap.size + 1, 0, none⟩ (.slice fa fn fc)).heap.size = wr.heap.size := by simp [World.setCell]
      have q0 : (wr.setCell ⟨w.heap.size + 1, 0, none⟩ (.slice fa fn fc)).cell? ⟨w.heap.size + 1, 0, none⟩ = some (.slice fa fn fc) := by have := cellOf h5 0; simpa using this
      generalize wr.setCell ⟨w.heap.size + 1, 0, none⟩ (.slice fa fn fc) = W5 at *
      have hlen : ns.length = i := by
        have := congrArg List.length HC.out.same
        rw [List.length_map, List.length_take, Hcl.out] at this
        omega
      have row5 := HC.out.row.same (w' := W5) (fun q e => hkp q (HC.out.row.own q e).1)
      have hta : cs.take i = cs := List.take_of_length_le (by rw [Hcl.out]; exact Nat.le_refl _)
      have hfn : fn = ns.length ∧ fn ≤ fc := by
        obtain ⟨a9, c9, e9, h9⟩ := HC.out.row.form
        cases e9
        rw [List.length_map] at h9 ⊢
        exact ⟨rfl, h9⟩
      refine bodyPost_ret (v := .agg #[.slice fa fn fc]) (by simp [results, Try.results11, go_sem, q0]) rfl ⟨fa, fn, fc, ns, rfl, hb5, hfn.2, ⟨hfn.1, by omega, row5.rd, ?_, ?_⟩, by rw [HC.out.same, hta, Hcs.out]⟩
      · intro x ex ne
        have hrow0 := HC.out.row
        rcases hrow0.2 with ⟨e, hn⟩ | ⟨g, cap', cur, e, hb, rest⟩
        · exact absurd (List.map_eq_nil_iff.1 (List.eq_nil_of_length_eq_zero hn)) ne
        · rw [ex] at e
          cases e
          subst ex
          have := hrow0.own g rfl
          exact ⟨by show w.heap.size ≤ g; omega, by show g < _; omega⟩
      · intro q hq
        exact ⟨((HC.out.rd q hq).1.keep (fun b hb => hkp b hb.1)).imp (fun b hb => ⟨by omega, by omega⟩), (HC.out.rd q hq).2⟩
    | succ gi =>
      have hlt0 : i < sn := by omega
      have hlt : (i : Int) < (sn : Int) := by omega
      have hi00 : (0 : Int) ≤ (i : Int) := by omega
      obtain ⟨p, hp⟩ : ∃ p, ms[i]? = some p := ⟨ms[i]'(by rw [← Hn.out]; exact hlt0), List.getElem?_eq_getElem _⟩
      obtain ⟨b, off, ea, dc⟩ := (D.out.rd.below (Nat.le_refl _) hc.bel) i p.1 (by rw [List.getElem?_map, hp]; rfl)
      subst ea
      have hel := ((D.out.el p (List.mem_of_getElem? hp)).1).below (Nat.le_refl _) hc.bel
      have he : cs[i]? = some (rowC k p.2) := by rw [Hcs.out, List.getElem?_map, hp]; rfl
      have hlv : (ns.map (·.1)).length ≤ 1000000 := by
        have := congrArg List.length hc.same
        rw [List.length_map, List.length_take] at this
        rw [List.length_map]; omega
      have Hlv := hid hlv
      have Hi := hid hi'
      have HE := hid he
      have HEL := hid hel
      obtain ⟨⟨ma, mn, mc⟩, mr⟩ := p
      simp only [Sl.v] at dc
      simp only at hel HE HEL
      have Hmn := hid hel.n1
      have hmn2 := hel.n2
      have hmn3 : (mn : Int) ≤ 1000 := by omega
      have hmn0 : (0 : Int) ≤ (mn : Int) := by omega
      have DC := hid dc
      have G1 := hid g1
      clear hc hel he hlv hi' hp g0
      obtain ⟨wo, hwo⟩ : ∃ wo, wo = wr := ⟨_, rfl⟩
      rw [← hwo] at HC HEL DC G1 dc g1
      rw [← hwo]
      clear hwo
      go_wp2
      go_loopg [5, 6] mn (fun g fv ii wr => ∃ j : Nat, j + g = mn ∧ ii = .int .i64 (j : Int) ∧ ∃ la ln lc qs, fv = .slice la ln lc ∧ CrL k wo wr mr j la ln lc qs)
      case atStart => exact ⟨0, by omega, rfl, none, 0, 0, [], rfl, ⟨Below.refl _ _, by simpa using ERow.nil _ _, fun q hq => by simp at hq, rfl⟩⟩
      case round =>
        obtain ⟨j, hj', rfl, la, ln, lc, qs, rfl, hl⟩ := hrel
        have HL := hid hl
        have g2 : wr.cell? ⟨w.heap.size, 0, none⟩ = some (.slice (some ⟨b, off, none⟩) sn sc) := (hl.bel.cell (World.block_lt_of_cell? wo _ G1.out)).trans G1.out
        have dc2 : wr.cell? ⟨b, off + i, none⟩ = some (.slice ma mn mc) := (hl.bel.cell (World.block_lt_of_cell? wo _ DC.out)).trans DC.out
        cases gk with
        | zero =>
          have hin2 : j = mn := by omega
          subst hin2
          clear hj'
          have hbW : Below wo.heap.size wo wr := HL.out.bel
          have hta : mr.take j = mr := List.take_of_length_le (by rw [← Hmn.out]; exact Nat.le_refl _)
          have hsame : cs[i]? = some (rowC k qs) := by
            rw [HE.out]
            show some (mr.map (ofP k)) = some (qs.map (ofP k))
            rw [HL.out.same, hta]
          have hlen : qs.length = j := by
            have := congrArg List.length HL.out.same
            rw [List.length_map, List.length_map, List.length_take, ← Hmn.out] at this
            omega
          obtain ⟨hln, hlc⟩ : ln = qs.length ∧ ln ≤ lc := by
            obtain ⟨a9, c9, e9, hcap⟩ := HL.out.row.form
            cases e9
            rw [List.length_map] at hcap ⊢
            exact ⟨rfl, hcap⟩
          have hrow : RwP k wr (fun b => wo.heap.size ≤ b ∧ b < wr.heap.size) la ln qs := by
            refine ⟨hln, by omega, HL.out.row.rd, ?_, ?_⟩
            · intro x ex ne
              subst ex
              have hrow0 := HL.out.row
              rcases hrow0.2 with ⟨e, hn⟩ | ⟨g, cap', cur, e, hb, rest⟩
              · cases e
              · cases e
                exact hrow0.own g rfl
            · intro q hq
              have h := HL.out.rd q hq
              exact ⟨h.1.imp k (fun b hb => ⟨hb.1, hb.2.1⟩), h.2.imp k (fun b hb => ⟨hb.1, hb.2.1⟩)⟩
          have hsw := HC.out.sz
          have ob : wr.heap[w.heap.size + 1 + 1]? = some (.cells #[.slice fa fn fc] 27 (0, 0)) := (hbW.block _ (by omega)).trans HC.out.b2
          have v0 := cellOf ob 0
          simp only [List.getElem?_toArray, List.getElem?_cons_zero] at v0
          have HBW := hid hbW
          have HRW := hid hrow
          have HSM := hid hsame
          have Hlc := hid hlc
          clear hl hbW hrow hsame hlc hln hlen hta ob dc g1
          go_wp2_with (at_builtin; refine wpList_appM _ rfl _ _ rfl (.slice fa fn fc) ⟨la, ln, lc⟩ wr.heap.size (by rfl) (by rfl) (heap_alloc_new wr _) (w.heap.size + 3) (ns.map (·.1)) ((HC.out.row.below (Nat.le_refl _) HBW.out).below (Nat.le_refl _) ((Below.refl _ wr).alloc (Nat.le_refl _) _)) (by have := HBW.out.size; simp; omega) Hlv.out ?_; intro v10 w10 hr10 hg10; obtain ⟨f2, c2, e10, hcc⟩ := hr10.form; obtain ⟨n2, hn2⟩ : ∃ n2, n2 = (ns.map (·.1) ++ [(⟨la, ln, lc⟩ : Sl)]).length := ⟨_, rfl⟩; rw [← hn2] at e10; subst e10; have o10 := HC.out.grown HBW.out hg10; have z10 := cellOf o10 0; have f10 := freeOf o10 0; simp only [List.getElem?_toArray, List.getElem?_cons_zero] at z10; have R10 := hid hr10; have G10 := hid hg10; clear hcc hn2 hr10 hg10 o10)
          go_roundg gi
          case measure => omega
          case rel => exact ⟨i + 1, by have := Hi.out; omega, by go_num, f2, n2, c2, _, HC.out.more HBW.out HRW.out Hlc.out HSM.out R10.out G10.out⟩

        | succ gj =>
          have hjt0 : j < mn := by omega
          have hjt : (j : Int) < (mn : Int) := by omega
          have hj00 : (0 : Int) ≤ (j : Int) := by omega
          obtain ⟨p, hp⟩ : ∃ p, mr[j]? = some p := ⟨mr[j]'(by rw [← Hmn.out]; exact hjt0), List.getElem?_eq_getElem _⟩
          have hD := HEL.out.below (Nat.le_refl _) hl.bel
          obtain ⟨b1, o1, ea, dh⟩ := hD.rd j (enT k p) (by rw [List.getElem?_map, hp]; rfl)
          subst ea
          have LE : Hid (b1 < wo.heap.size) := hid (by
            obtain ⟨b2, o2, ea2, dh2⟩ := HEL.out.rd j (enT k p) (by rw [List.getElem?_map, hp]; rfl)
            cases ea2
            exact World.block_lt_of_cell? wo ⟨_, _, none⟩ (u := .int .i64 (hdT k p.1).kind) (dh2 0 (by omega)))
          obtain ⟨he1, he2⟩ := hD.el p (List.mem_of_getElem? hp)
          have d0 := dh 0 (by omega)
          have d1 := dh 1 (by omega)
          have d2 := dh 2 (by omega)
          have d3 := dh 3 (by omega)
          have d4 := dh 4 (by omega)
          have d5 := dh 5 (by omega)
          have d6 := dh 6 (by omega)
          have d7 := dh 7 (by omega)
          have d8 := dh 8 (by omega)
          have d9 := dh 9 (by omega)
          simp only [En.cs, enT, List.getElem?_cons_zero, List.getElem?_cons_succ, Nat.add_zero] at d0 d1 d2 d3 d4 d5 d6 d7 d8 d9
          have CA := hid (own_any k wr.drew p.1 (Rds.below k he1 (Nat.le_refl _) (Below.refl _ wr).drew))
          have CB := hid (fun (w8 : World) (h8 : Below wr.heap.size wr w8) => own_any k w8 p.2 (Rds.below k he2 (Nat.le_refl _) h8))
          have Hp := hid hp
          have Hj := hid hj'
          have hlq : (qs.map (enT k)).length ≤ 1000000 := by
            have := congrArg List.length hl.same
            rw [List.length_map, List.length_map, List.length_take] at this
            rw [List.length_map]; omega
          have Hlq := hid hlq
          have hsz := hl.bel.size
          have HD' := hid ((Below.refl wr.heap.size wr).drew)
          generalize hdT k p.1 = hd1 at *
          generalize hdT k p.2 = hd2 at *
          obtain ⟨yk, yi, yt, yr, ya, yn, yc⟩ := hd1
          obtain ⟨zk, zi, zt, zr, za, zn, zc⟩ := hd2
          simp only [Hd.v] at CA CB d0 d1 d2 d3 d4 d5 d6 d7 d8 d9
          have SE : Hid (∀ W' : World, Below wr.heap.size wr W' → (W'.cell? ⟨w.heap.size, 0, none⟩ = some (.slice (some ⟨b, off, none⟩) sn sc) ∧ W'.cell? ⟨b, off + i, none⟩ = some (.slice (some ⟨b1, o1, none⟩) mn mc) ∧ W'.cell? ⟨b1, o1 + j * 10, none⟩ = some (.int .i64 yk) ∧ W'.cell? ⟨b1, o1 + j * 10 + 1, none⟩ = some (.int .i64 yi) ∧ W'.cell? ⟨b1, o1 + j * 10 + 2, none⟩ = some (.string yt) ∧ W'.cell? ⟨b1, o1 + j * 10 + 3, none⟩ = some (.int .i64 yr) ∧ W'.cell? ⟨b1, o1 + j * 10 + 4, none⟩ = some (.slice ya yn yc) ∧ W'.cell? ⟨b1, o1 + j * 10 + 5, none⟩ = some (.int .i64 zk) ∧ W'.cell? ⟨b1, o1 + j * 10 + 6, none⟩ = some (.int .i64 zi) ∧ W'.cell? ⟨b1, o1 + j * 10 + 7, none⟩ = some (.string zt) ∧ W'.cell? ⟨b1, o1 + j * 10 + 8, none⟩ = some (.int .i64 zr) ∧ W'.cell? ⟨b1, o1 + j * 10 + 9, none⟩ = some (.slice za zn zc))) := hid (fun W' h => by
            have ge : ∀ (p : Addr) (v : Value), wr.cell? p = some v → W'.cell? p = some v := fun p v e => (h.cell (World.block_lt_of_cell? wr _ e)).trans e
            exact ⟨ge _ _ g2, ge _ _ dc2, ge _ _ d0, ge _ _ d1, ge _ _ d2, ge _ _ d3, ge _ _ d4, ge _ _ d5, ge _ _ d6, ge _ _ d7, ge _ _ d8, ge _ _ d9⟩)
          have SEK : Hid (∀ (w9 w4 : World) (v4 : Value) (o2 : Obj), Below wr.heap.size wr w9 → Grw (w9.alloc o2) (.slice la ln lc) w4 v4 → (W4S w b b1 off o1 i j sn sc mn mc yk yi yt yr ya yn yc zk zi zt zr za zn zc w4)) := hid (fun w9 w4 v4 o2 h9 hg => by
            have ge : ∀ (p : Addr) (v : Value), p.block < wo.heap.size → wr.cell? p = some v → w4.cell? p = some v := fun p v hl e => by
              have h1 : w4.heap[p.block]? = wr.heap[p.block]? := (hg.1.block _ (by have := h9.size; have := hsz; simp; omega) (fun e => by have := (HL.out.row.own _ e.symm).1; omega)).trans ((h9.alloc h9.size _).block _ (by have := hsz; omega))
              rw [← e]
              exact World.cell?_of_block h1
            have lb : ∀ (p : Addr) (v : Value), wo.cell? p = some v → p.block < wo.heap.size := fun p v e => World.block_lt_of_cell? wo _ e
            have lg := lb _ _ G1.out
            have ld := lb _ _ DC.out
            have le : b1 < wo.heap.size := LE.out
            exact ⟨ge _ _ lg g2, ge _ _ ld dc2, ge _ _ le d0, ge _ _ le d1, ge _ _ le d2, ge _ _ le d3, ge _ _ le d4, ge _ _ le d5, ge _ _ le d6, ge _ _ le d7, ge _ _ le d8, ge _ _ le d9⟩)
          have OWN : Hid (∀ g, (Value.slice la ln lc).ownBlock = some g → wo.heap.size ≤ g) := hid (fun g e => (HL.out.row.own g e).1)
          clear hl dh hp he1 he2 hlq hj' hD dc g1
          go_wp2
          go_region_held3 (fun W' => W'.cell? ⟨w.heap.size, 0, none⟩ = some (.slice (some ⟨b, off, none⟩) sn sc) ∧ W'.cell? ⟨b, off + i, none⟩ = some (.slice (some ⟨b1, o1, none⟩) mn mc) ∧ W'.cell? ⟨b1, o1 + j * 10, none⟩ = some (.int .i64 yk) ∧ W'.cell? ⟨b1, o1 + j * 10 + 1, none⟩ = some (.int .i64 yi) ∧ W'.cell? ⟨b1, o1 + j * 10 + 2, none⟩ = some (.string yt) ∧ W'.cell? ⟨b1, o1 + j * 10 + 3, none⟩ = some (.int .i64 yr) ∧ W'.cell? ⟨b1, o1 + j * 10 + 4, none⟩ = some (.slice ya yn yc) ∧ W'.cell? ⟨b1, o1 + j * 10 + 5, none⟩ = some (.int .i64 zk) ∧ W'.cell? ⟨b1, o1 + j * 10 + 6, none⟩ = some (.int .i64 zi) ∧ W'.cell? ⟨b1, o1 + j * 10 + 7, none⟩ = some (.string zt) ∧ W'.cell? ⟨b1, o1 + j * 10 + 8, none⟩ = some (.int .i64 zr) ∧ W'.cell? ⟨b1, o1 + j * 10 + 9, none⟩ = some (.slice za zn zc)) (first | exact KP.out | exact SE.out _ (B9.out.alloc B9.out.size _) | exact SE.out _ B9.out | exact SE.out _ B8.out | exact SE.out _ HD'.out | go_keep) ((first
            | (have hno := B9; (refine step_appE (by rfl) _ _ (by rfl) (.slice la ln lc) w9.heap.size (enT k (x, y)) (by rfl) (by rfl) wo.heap.size (qs.map (enT k)) ((HL.out.row.below (Nat.le_refl _) B9.out).below (Nat.le_refl _) ((Below.refl _ w9).alloc (Nat.le_refl _) _)) (heap_alloc_new w9 _) (by have := B9.out.size; simp; omega) Hlq.out ?_; intro v4 w4 hr4 hg4; have KP := hid (SEK.out w9 w4 v4 _ B9.out hg4); obtain ⟨fa2, fn2, fc2, rfl, hc2⟩ := HL.out.more Hp.out HD'.out H8.out Hrx.out Hex.out H9.out Hry.out Hey.out hr4 hg4; have HC2 := hid hc2; clear hc2 hr4 hg4))
            | (go_at_call 38; (have hno := H8; refine (CB.out _ B8.out).mono ?_; rintro e w9 ⟨y, rfl, hb9, hry, hey⟩; simp only [Hd.v]; have H9 := hid hb9; have Hry := hid hry; have Hey := hid hey; have B9 := hid (B8.out.trans (hb9.mono B8.out.size)); clear hb9 hry hey))
            | (go_at_call 38; (refine (CA.out).mono ?_; rintro e w8 ⟨x, rfl, hb8, hrx, hex⟩; simp only [Hd.v]; have H8 := hid hb8; have Hrx := hid hrx; have Hex := hid hex; have B8 := hid (HD'.out.trans (hb8.mono HD'.out.size)); clear hb8 hrx hex))))
          go_wp2
          go_roundg gj
          case measure => omega
          case rel => exact ⟨j + 1, by have := Hj.out; omega, by go_num, fa2, fn2, fc2, _, rfl, HC2.out⟩



end Go.Proofs.Ytenfgahedbeekaa
