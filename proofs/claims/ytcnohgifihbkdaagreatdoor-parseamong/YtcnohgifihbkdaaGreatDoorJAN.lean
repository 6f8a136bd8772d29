/- The parser: unary expressions. -/
import Derived.Test.YtcnohgifihbkdaaGreatDoorJAM
namespace Go.Proofs.YtcnohgifihbkdaaGreatDoor
open Go.RowKit Go.Deep Go.Shelf
set_option linter.unusedVariables false
set_option linter.unusedSimpArgs false
set_option maxRecDepth 100000
set_option maxHeartbeats 400000 in
theorem unary_fac (w : World) (P D : Nat) (s : PS) (op : Int) (e : Pr PEx) (HP : Pst w P D s) (HK : (nxt s).kind ≠ 0) (J : ∀ (V : World) (t : PS), Pst V P D t → w.grownBy V (some P) → Fed (e t) → Calls Tryz.prog 243 #[.pointer (some ⟨P, 0, none⟩)] V (Rt RE P D V (e t))) (HF : Fed (unary op e s)) : Calls Tryz.prog 233 #[.pointer (some ⟨P, 0, none⟩), .int .i64 op, .func (.func 243) #[.pointer (some ⟨P, 0, none⟩)] #[]] w (Rt RE P D w (unary op e s)) := by
  have H := hid (show unary op e s = bd enter (fun t => bd e fun x => bd leave fun _ => ret ⟨5, op, 0, [], [], [], [pkE x], t.pos⟩) s from rfl)
  have HG := World.grownBy.refl w (some P)
  have hPw := HP.lt
  have hD := HP.dw
  have hPD := HP.pd
  have t0 := True.intro
  have J := hid J
  have HF := hid HF
  go_enter Tryz.func233, Tryz.ntmps233
  go_wp2_with (first
    | (have hno := t2; (go_at_call 151; (refine (leave_any _ _ _ _ (by with_reducible repeat first | exact HP | apply pA | refine pS (by omega) ?_)).mono ?_; intro e w3 hrt; rcases hrt.go (W := w) (by with_reducible repeat first | exact HG | apply gA | apply gB | refine gS (by omega) ?_) with ⟨f, hx, rfl, hg⟩ | ⟨u, s3, v, hx, rfl, hv, HP, hGw3, HG, hcw3, hfw3, hzw3, hPw3⟩; exact ⟨rfl, Rt.err (H.out.trans (bd_err hx)) hg⟩; (have hv2 : v = .tuple #[] := hv; subst hv2); have H := hid (H.out.trans (bd_ok hx)); (try simp only [szA, szS] at hzw3); have hleww3 := le1 w w3 (by omega); (try have hltww3 := lt1 w w3 (by omega)); have hlew1w3 := le1 w1 w3 (by omega); (try have hltw1w3 := lt1 w1 w3 (by omega)); have hlew2w3 := le1 w2 w3 (by omega); (try have hltw2w3 := lt1 w2 w3 (by omega)); have t3 := True.intro)))
    | (have hno := t1; (go_at_call 243; (refine (J.out _ _ (by with_reducible repeat first | exact HP | apply pA | refine pS (by omega) ?_) (by with_reducible repeat first | exact HG | apply gA | apply gB | refine gS (by omega) ?_) (fun h => HF.out (H.out.trans (bd_err h)))).mono ?_; intro e w2 hrt; rcases hrt.go (W := w) (by with_reducible repeat first | exact HG | apply gA | apply gB | refine gS (by omega) ?_) with ⟨f, hx, rfl, hg⟩ | ⟨a, s2, v, hx, rfl, hv, HP, hGw2, HG, hcw2, hfw2, hzw2, hPw2⟩; exact ⟨rfl, Rt.err (H.out.trans (bd_err hx)) hg⟩; (obtain ⟨na, nn, nc, aa, an, ac, es, rfl, hN, hX, hA⟩ := hv.parts; have hE := hv); have H := hid (H.out.trans (bd_ok hx)); (try simp only [szA, szS] at hzw2); have hleww2 := le1 w w2 (by omega); (try have hltww2 := lt1 w w2 (by omega)); have hlew1w2 := le1 w1 w2 (by omega); (try have hltw1w2 := lt1 w1 w2 (by omega)); have t2 := True.intro; have hx1 : w.heap.size < w2.heap.size + 1 + 1 := (by omega))))
    | (have hno := t0; (go_at_call 150; (refine (enter_any _ _ _ _ (by with_reducible repeat first | exact HP | apply pA | refine pS (by omega) ?_) HK).mono ?_; intro e w1 hrt; rcases hrt.go (W := w) (by with_reducible repeat first | exact HG | apply gA | apply gB | refine gS (by omega) ?_) with ⟨f, hx, rfl, hg⟩ | ⟨k, s1, v, hx, rfl, hv, HP, hGw1, HG, hcw1, hfw1, hzw1, hPw1⟩; exact ⟨rfl, Rt.err (H.out.trans (bd_err hx)) hg⟩; (have hv2 : v = tokV k := hv; subst hv2; unfold tokV); have H := hid (H.out.trans (bd_ok hx)); (try simp only [szA, szS] at hzw1); have hleww1 := le1 w w1 (by omega); (try have hltww1 := lt1 w w1 (by omega)); have t1 := True.intro)))
    )
  refine ret8 Tryz.results233 rfl (by repeat (first | (with_reducible apply Bx.put8) | (with_reducible apply Box.alloc) | ((with_reducible refine Box.set ?_ ?_); rotate_left; omega) | ((with_reducible refine Bx.new _ _ _ ?_); rfl) | (with_reducible apply Bx.alloc) | (with_reducible apply Bx.set) | ((with_reducible refine Bx.call hGw1 ?_ ?_); omega) | ((with_reducible refine Bx.call hGw2 ?_ ?_); omega) | ((with_reducible refine Bx.call hGw3 ?_ ?_); omega))) rfl ?_
  refine Rt.ok (H.out.trans rfl) ?_ (by with_reducible repeat first | exact HP | apply pA | refine pS (by omega) ?_) (by with_reducible repeat first | exact HG | apply gA | apply gB | refine gS (by omega) ?_)
  have xs := XsR.one (B := fun g => w1.heap.size ≤ g ∧ g < w2.heap.size + 1) hE (by rintro g ⟨q1, q2⟩; exact q2) (by rintro g ⟨q1, q2⟩; exact ⟨q1, by omega⟩) ⟨by omega, by omega⟩
  refine RE.mk2 (es := [a]) rfl (Rws.nil _ _ _ _) (XsR.mv xs (show Same (fun g => w1.heap.size ≤ g ∧ g < w2.heap.size + 1) _ _ from ?_) ?_) rfl
  · exact (by repeat (first | (with_reducible exact Same.refl _ _) | ((with_reducible apply Same.alloc); rotate_left; (rintro g ⟨q1, q2⟩; (try simp only [szA, szS]); omega)) | ((with_reducible apply Same.set); rotate_left; (rintro ⟨q1, q2⟩; omega)) | ((with_reducible refine Same.call hGw3 ?_ ?_ ?_); rotate_left; (rintro g ⟨q1, q2⟩; (try simp only [szA, szS]); omega); (rintro ⟨q1, q2⟩; omega))))
  · exact (by rintro g ⟨q1, q2⟩; (try simp only [szA, szS] at q1 q2); exact ⟨by omega, by (try simp only [szA, szS]); omega⟩)
set_option maxHeartbeats 400000 in
theorem unary_neg (w : World) (P D : Nat) (s : PS) (op : Int) (e : Pr PEx) (HP : Pst w P D s) (HK : (nxt s).kind ≠ 0) (J : ∀ (V : World) (t : PS), Pst V P D t → w.grownBy V (some P) → Fed (e t) → Calls Tryz.prog 229 #[.pointer (some ⟨P, 0, none⟩)] V (Rt RE P D V (e t))) (HF : Fed (unary op e s)) : Calls Tryz.prog 233 #[.pointer (some ⟨P, 0, none⟩), .int .i64 op, .func (.func 229) #[.pointer (some ⟨P, 0, none⟩)] #[]] w (Rt RE P D w (unary op e s)) := by
  have H := hid (show unary op e s = bd enter (fun t => bd e fun x => bd leave fun _ => ret ⟨5, op, 0, [], [], [], [pkE x], t.pos⟩) s from rfl)
  have HG := World.grownBy.refl w (some P)
  have hPw := HP.lt
  have hD := HP.dw
  have hPD := HP.pd
  have t0 := True.intro
  have J := hid J
  have HF := hid HF
  go_enter Tryz.func233, Tryz.ntmps233
  go_wp2_with (first
    | (have hno := t2; (go_at_call 151; (refine (leave_any _ _ _ _ (by with_reducible repeat first | exact HP | apply pA | refine pS (by omega) ?_)).mono ?_; intro e w3 hrt; rcases hrt.go (W := w) (by with_reducible repeat first | exact HG | apply gA | apply gB | refine gS (by omega) ?_) with ⟨f, hx, rfl, hg⟩ | ⟨u, s3, v, hx, rfl, hv, HP, hGw3, HG, hcw3, hfw3, hzw3, hPw3⟩; exact ⟨rfl, Rt.err (H.out.trans (bd_err hx)) hg⟩; (have hv2 : v = .tuple #[] := hv; subst hv2); have H := hid (H.out.trans (bd_ok hx)); (try simp only [szA, szS] at hzw3); have hleww3 := le1 w w3 (by omega); (try have hltww3 := lt1 w w3 (by omega)); have hlew1w3 := le1 w1 w3 (by omega); (try have hltw1w3 := lt1 w1 w3 (by omega)); have hlew2w3 := le1 w2 w3 (by omega); (try have hltw2w3 := lt1 w2 w3 (by omega)); have t3 := True.intro)))
    | (have hno := t1; (go_at_call 229; (refine (J.out _ _ (by with_reducible repeat first | exact HP | apply pA | refine pS (by omega) ?_) (by with_reducible repeat first | exact HG | apply gA | apply gB | refine gS (by omega) ?_) (fun h => HF.out (H.out.trans (bd_err h)))).mono ?_; intro e w2 hrt; rcases hrt.go (W := w) (by with_reducible repeat first | exact HG | apply gA | apply gB | refine gS (by omega) ?_) with ⟨f, hx, rfl, hg⟩ | ⟨a, s2, v, hx, rfl, hv, HP, hGw2, HG, hcw2, hfw2, hzw2, hPw2⟩; exact ⟨rfl, Rt.err (H.out.trans (bd_err hx)) hg⟩; (obtain ⟨na, nn, nc, aa, an, ac, es, rfl, hN, hX, hA⟩ := hv.parts; have hE := hv); have H := hid (H.out.trans (bd_ok hx)); (try simp only [szA, szS] at hzw2); have hleww2 := le1 w w2 (by omega); (try have hltww2 := lt1 w w2 (by omega)); have hlew1w2 := le1 w1 w2 (by omega); (try have hltw1w2 := lt1 w1 w2 (by omega)); have t2 := True.intro; have hx1 : w.heap.size < w2.heap.size + 1 + 1 := (by omega))))
    | (have hno := t0; (go_at_call 150; (refine (enter_any _ _ _ _ (by with_reducible repeat first | exact HP | apply pA | refine pS (by omega) ?_) HK).mono ?_; intro e w1 hrt; rcases hrt.go (W := w) (by with_reducible repeat first | exact HG | apply gA | apply gB | refine gS (by omega) ?_) with ⟨f, hx, rfl, hg⟩ | ⟨k, s1, v, hx, rfl, hv, HP, hGw1, HG, hcw1, hfw1, hzw1, hPw1⟩; exact ⟨rfl, Rt.err (H.out.trans (bd_err hx)) hg⟩; (have hv2 : v = tokV k := hv; subst hv2; unfold tokV); have H := hid (H.out.trans (bd_ok hx)); (try simp only [szA, szS] at hzw1); have hleww1 := le1 w w1 (by omega); (try have hltww1 := lt1 w w1 (by omega)); have t1 := True.intro)))
    )
  refine ret8 Tryz.results233 rfl (by repeat (first | (with_reducible apply Bx.put8) | (with_reducible apply Box.alloc) | ((with_reducible refine Box.set ?_ ?_); rotate_left; omega) | ((with_reducible refine Bx.new _ _ _ ?_); rfl) | (with_reducible apply Bx.alloc) | (with_reducible apply Bx.set) | ((with_reducible refine Bx.call hGw1 ?_ ?_); omega) | ((with_reducible refine Bx.call hGw2 ?_ ?_); omega) | ((with_reducible refine Bx.call hGw3 ?_ ?_); omega))) rfl ?_
  refine Rt.ok (H.out.trans rfl) ?_ (by with_reducible repeat first | exact HP | apply pA | refine pS (by omega) ?_) (by with_reducible repeat first | exact HG | apply gA | apply gB | refine gS (by omega) ?_)
  have xs := XsR.one (B := fun g => w1.heap.size ≤ g ∧ g < w2.heap.size + 1) hE (by rintro g ⟨q1, q2⟩; exact q2) (by rintro g ⟨q1, q2⟩; exact ⟨q1, by omega⟩) ⟨by omega, by omega⟩
  refine RE.mk2 (es := [a]) rfl (Rws.nil _ _ _ _) (XsR.mv xs (show Same (fun g => w1.heap.size ≤ g ∧ g < w2.heap.size + 1) _ _ from ?_) ?_) rfl
  · exact (by repeat (first | (with_reducible exact Same.refl _ _) | ((with_reducible apply Same.alloc); rotate_left; (rintro g ⟨q1, q2⟩; (try simp only [szA, szS]); omega)) | ((with_reducible apply Same.set); rotate_left; (rintro ⟨q1, q2⟩; omega)) | ((with_reducible refine Same.call hGw3 ?_ ?_ ?_); rotate_left; (rintro g ⟨q1, q2⟩; (try simp only [szA, szS]); omega); (rintro ⟨q1, q2⟩; omega))))
  · exact (by rintro g ⟨q1, q2⟩; (try simp only [szA, szS] at q1 q2); exact ⟨by omega, by (try simp only [szA, szS]); omega⟩)
end Go.Proofs.YtcnohgifihbkdaaGreatDoor

namespace Go.Proofs.YtcnohgifihbkdaaGreatDoor
open Go Go.RowKit Go.Deep Go.Shelf
set_option linter.unusedVariables false
set_option linter.unusedSimpArgs false
set_option maxRecDepth 100000
section
variable {P : Program} {ops : Array Oper} {Q : Exit → Act → World → Prop} {md : Region.Mode} {S : World → Prop} {L : Nat}
/- Two operations may come up, neither the last. -/
theorem wpAnyI_two {i j : Nat} {o p : Oper} {fuel : Nat} {listed : Array Bool} {a : Act} {w : World} (hr : Region.ready md ops listed = [i, j]) (ho : ops[i]? = some o) (hp : ops[j]? = some p)
    (h1 : ∀ K' : Act → World → Prop, Shut (∀ a w, S w → (S w → wpAnyI P md ops Q L S fuel (listed.setIfInBounds i true) a w) → K' a w) → if Region.wanted o (yielded ops a.tmps) = true then Oper.wp P o a w K' Q else K' (a.put o.dst undef) w)
    (h2 : ∀ K' : Act → World → Prop, Shut (∀ a w, S w → (S w → wpAnyI P md ops Q L S fuel (listed.setIfInBounds j true) a w) → K' a w) → if Region.wanted p (yielded ops a.tmps) = true then Oper.wp P p a w K' Q else K' (a.put p.dst undef) w) :
    wpAnyI P md ops Q L S (fuel + 1) listed a w :=
  ⟨fun h0 => (by rw [hr] at h0; cases h0), fun k hk => by
    rw [hr] at hk
    have hk2 : k = i ∨ k = j := by simpa using hk
    rcases hk2 with rfl | rfl
    · exact wpOp_step ho (fun K' hK => h1 K' (fun a w hS hW => hK a w ⟨.inr hS, hW hS⟩))
    · exact wpOp_step hp (fun K' hK => h2 K' (fun a w hS hW => hK a w ⟨.inr hS, hW hS⟩))⟩
end
set_option maxHeartbeats 4000000 in
theorem post_any (w : World) (P D n : Nat) (s : PS) (e0 : Pr PEx) (HP : Pst w P D s) (hn : n ≤ 10000) (J : ∀ (V : World) (t : PS), Pst V P D t → w.grownBy V (some P) → Fed (e0 t) → Calls Tryz.prog 205 #[.pointer (some ⟨P, 0, none⟩)] V (Rt RE P D V (e0 t))) (HN : NumC) (HF : Fed (post n e0 s)) : Calls Tryz.prog 244 #[.pointer (some ⟨P, 0, none⟩)] w (Rt RE P D w (post n e0 s)) := by
  have HG := World.grownBy.refl w (some P)
  have hPw := HP.lt
  have hD := HP.dw
  have hPD := HP.pd
  have t0 := True.intro
  have hmf : ∀ (fn : Fn) (first cap : Array Value) (w : World), (Instr.makeFunc fn first cap).run Tryz.prog w = .ok (.func fn first cap) w := fun _ _ _ _ => rfl
  have H := hid (show post n e0 s = bd (prim n e0) (fun x => postL n x) s from rfl)
  have J := hid J
  have HF := hid HF
  have HN := hid HN
  go_enter Tryz.func244, Tryz.ntmps244
  go_wp2_with ((have hno := t0; (go_at_call 246; (refine (prim_any _ _ _ _ _ _ (by with_reducible repeat first | exact HP | apply pA | refine pS (by omega) ?_) hn (fun X u hX hVX => J.out X u hX (gtrans (by with_reducible repeat first | exact HG | apply gA | apply gB | refine gS (by omega) ?_) hVX)) HN.out (fun h => HF.out (H.out.trans (bd_err h)))).mono ?_; intro e w1 hrt; rcases hrt.go (W := w) (by with_reducible repeat first | exact HG | apply gA | apply gB | refine gS (by omega) ?_) with ⟨f, hx, rfl, hg⟩ | ⟨a, s1, v, hx, rfl, hv, HP, hGw1, HG, hcw1, hfw1, hzw1, hPw1⟩; exact ⟨rfl, Rt.err (H.out.trans (bd_err hx)) hg⟩; (obtain ⟨na, nn, nc, aa, an, ac, es, rfl, hN, hX, hA⟩ := hv.parts; have hE := hv); have H := hid (H.out.trans (bd_ok hx)); (try simp only [szA, szS] at hzw1); have hleww1 := le1 w w1 (by omega); (try have hltww1 := lt1 w w1 (by omega)); have t1 := True.intro))))
  have HB6 : Bx 8 w.heap.size 45 w1 := Bx.call hGw1 (by omega) (by refine Bx.new _ _ _ ?_; rfl)
  have HE1 := hid hE
  have HB6 := hid HB6
  clear hX hN hA hE
  go_loopg [] n (fun g wr => ∃ (e : PEx) (t : PS) (cs : Array Value), Box w1.heap.size cs 45 wr ∧ RE wr (fun g => w.heap.size ≤ g ∧ g < wr.heap.size ∧ g ≠ w.heap.size ∧ g ≠ w1.heap.size) (.agg cs) e ∧ Bx 8 w.heap.size 45 wr ∧ post n e0 s = postL g e t ∧ Pst wr P D t ∧ w.grownBy wr (some P))
  case atStart => exact ⟨a, s1, _, Box.new w1 _ 45, HE1.out.mv ((Same.refl _ _).alloc (by rintro g ⟨q1, q2⟩; exact q2)) (by rintro g ⟨q1, q2⟩; simp only [World.size_alloc] at q1 ⊢; exact ⟨by omega, by omega, by omega, by omega⟩), HB6.out.alloc _, H.out, HP.alloc _, grown_alloc HG _⟩
  case round =>
    obtain ⟨e, t, cs, HB7, HE, HBX, ho, HP, HG⟩ := hrel
    cases gk with
    | zero => exact absurd (ho.trans rfl) HF.out
    | succ g =>
      have H := hid (show post n e0 s = bd (maybe [46]) (fun b => if b = true then bd small fun nm => postL g ⟨7, 0, 0, [], nm, [], [pkE e], e.at⟩ else ret e) t from ho)
      obtain ⟨na, nn, nc, aa, an, ac, es, hcs, _⟩ := HE.parts
      cases hcs
      have hgz := HG.size
      have hPr := HP.lt
      have hb7 := HB7.lt
      have y0 := HB7.cell (i := 0) rfl
      have y1 := HB7.cell (i := 1) rfl
      have y2 := HB7.cell (i := 2) rfl
      have y3 := HB7.cell (i := 3) rfl
      have y4 := HB7.cell (i := 4) rfl
      have y5 := HB7.cell (i := 5) rfl
      have y6 := HB7.cell (i := 6) rfl
      have y7 := HB7.cell (i := 7) rfl
      obtain ⟨⟨l6⟩, hl6, hB6⟩ := HBX
      obtain ⟨z0, z1, z2, z3, z4, z5, z6, z7, rfl⟩ := eight_of l6 hl6
      have hb6 := hB6.lt
      have x0 := hB6.cell (i := 0) rfl
      have x1 := hB6.cell (i := 1) rfl
      have x2 := hB6.cell (i := 2) rfl
      have x3 := hB6.cell (i := 3) rfl
      have x4 := hB6.cell (i := 4) rfl
      have x5 := hB6.cell (i := 5) rfl
      have x6 := hB6.cell (i := 6) rfl
      have x7 := hB6.cell (i := 7) rfl
      have xf : ∀ o, wr.frozen? ⟨w.heap.size, o, none⟩ = false := fun o => freeOf hB6 o
      have yf : ∀ o, wr.frozen? ⟨w1.heap.size, o, none⟩ = false := fun o => freeOf HB7 o
      have HE := hid HE
      have HB7 := hid HB7
      have HBX : Bx 8 w.heap.size 45 wr := ⟨_, rfl, hB6⟩
      clear ho
      go_wp2_with ((have hno := t1; (go_at_call 85; (refine (maybe_any _ _ _ _ _ (by with_reducible repeat first | exact HP | apply pA | refine pS (by omega) ?_)).mono ?_; intro e w2 hrt; rcases hrt.go (W := w) (by with_reducible repeat first | exact HG | apply gA | apply gB | refine gS (by omega) ?_) with ⟨f, hx, rfl, hg⟩ | ⟨b, s2, v, hx, rfl, hv, HP, hGw2, HG, hcw2, hfw2, hzw2, hPw2⟩; exact ⟨rfl, Rt.err (H.out.trans (bd_err hx)) hg⟩; (have hv2 : v = .bool b := hv; subst hv2); have H := hid (H.out.trans (bd_ok hx)); (try simp only [szA, szS] at hzw2); have hleww2 := le1 w w2 (by omega); (try have hltww2 := lt1 w w2 (by omega)); have hlew1w2 := le1 w1 w2 (by omega); (try have hltw1w2 := lt1 w1 w2 (by omega)); have hlewrw2 := le1 wr w2 (by omega); (try have hltwrw2 := lt1 wr w2 (by omega)); have t2 := True.intro; skip; cases b))))
      · refine ret8 Tryz.results244 rfl (Bx.put8 (Bx.call hGw2 (by omega) HBX)) rfl ?_
        refine Rt.ok (H.out.trans rfl) ?_ (by with_reducible repeat first | exact HP | apply pA | refine pS (by omega) ?_) (by with_reducible repeat first | exact HG | apply gA | apply gB | refine gS (by omega) ?_)
        refine RE.mv HE.out (show Same (fun g => w.heap.size ≤ g ∧ g < wr.heap.size ∧ g ≠ w.heap.size ∧ g ≠ w1.heap.size) wr _ from ?_) ?_
        · exact (by repeat (first | (with_reducible exact Same.refl _ _) | ((with_reducible apply Same.set); rotate_left; (rintro ⟨q1, q2, q3, q4⟩; omega)) | ((with_reducible refine Same.call hGw2 ?_ ?_ ?_); rotate_left; (rintro g ⟨q1, q2, q3, q4⟩; (try simp only [szA, szS]); omega); (rintro ⟨q1, q2, q3, q4⟩; omega))))
        · rintro g ⟨q1, q2, q3, q4⟩; exact ⟨q1, by simp only [World.size_setCell]; omega⟩
      · have H2 := hid (show post n e0 s = bd small (fun nm => postL g ⟨7, 0, 0, [], nm, [], [pkE e], e.pos⟩) s2 from H.out.trans rfl)
        have hB7 := HB7.out.call hGw2 (by omega)
        have ST : ∀ v : World, Box w1.heap.size #[.int .i64 e.kind, .int .i64 e.op, .int .i64 e.int, .string (bs e.text), .string (bs e.name), .slice na nn nc, .slice aa an ac, .int .i64 e.pos] 45 v → v.cell? ⟨w1.heap.size, 0, none⟩ = some (.int .i64 e.kind) ∧ v.cell? ⟨w1.heap.size, 1, none⟩ = some (.int .i64 e.op) ∧ v.cell? ⟨w1.heap.size, 2, none⟩ = some (.int .i64 e.int) ∧ v.cell? ⟨w1.heap.size, 3, none⟩ = some (.string (bs e.text)) ∧ v.cell? ⟨w1.heap.size, 4, none⟩ = some (.string (bs e.name)) ∧ v.cell? ⟨w1.heap.size, 5, none⟩ = some (.slice na nn nc) ∧ v.cell? ⟨w1.heap.size, 6, none⟩ = some (.slice aa an ac) ∧ v.cell? ⟨w1.heap.size, 7, none⟩ = some (.int .i64 e.pos) := fun v hv => ⟨hv.cell rfl, hv.cell rfl, hv.cell rfl, hv.cell rfl, hv.cell rfl, hv.cell rfl, hv.cell rfl, hv.cell rfl⟩
        have HE2 := hid (RE.mv HE.out (w' := w2.drew) (B := fun g => w.heap.size ≤ g ∧ g < w2.heap.size ∧ g ≠ w.heap.size ∧ g ≠ w1.heap.size) (by repeat (first | (with_reducible exact Same.refl _ _) | ((with_reducible apply Same.set); rotate_left; (rintro ⟨q1, q2, q3, q4⟩; omega)) | ((with_reducible refine Same.call hGw2 ?_ ?_ ?_); rotate_left; (rintro g ⟨q1, q2, q3, q4⟩; (try simp only [szA, szS]); omega); (rintro ⟨q1, q2, q3, q4⟩; omega)) | (refine Same.call hGw2 ?_ ?_ ?_; rotate_left; (rintro g ⟨q1, q2, q3, q4⟩; omega); (rintro ⟨q1, q2, q3, q4⟩; omega)) | (with_reducible apply Same.drw))) (by rintro g ⟨q1, q2, q3, q4⟩; exact ⟨q1, by omega, q3, q4⟩))
        have HBX2 := (HBX.call' hGw2 (by omega)).drw
        have HB7 := hid hB7
        have HP2 := HP.drw
        have HG2 := grown_drew HG
        have hzd : w2.drew.heap.size = w2.heap.size := rfl
        clear x0 x1 x2 x3 x4 x5 x6 x7 xf y0 y1 y2 y3 y4 y5 y6 y7 yf hcw2 hfw2
        refine wp_region_I 7 (fun v : World => v.cell? ⟨w1.heap.size, 0, none⟩ = some (.int .i64 e.kind) ∧ v.cell? ⟨w1.heap.size, 1, none⟩ = some (.int .i64 e.op) ∧ v.cell? ⟨w1.heap.size, 2, none⟩ = some (.int .i64 e.int) ∧ v.cell? ⟨w1.heap.size, 3, none⟩ = some (.string (bs e.text)) ∧ v.cell? ⟨w1.heap.size, 4, none⟩ = some (.string (bs e.name)) ∧ v.cell? ⟨w1.heap.size, 5, none⟩ = some (.slice na nn nc) ∧ v.cell? ⟨w1.heap.size, 6, none⟩ = some (.slice aa an ac) ∧ v.cell? ⟨w1.heap.size, 7, none⟩ = some (.int .i64 e.pos)) (by kernel_rfl) (ST _ HB7.out.drw) (fun hHeld => ?_)
        refine wpAnyI_take (i := 0) (oi := { dst := some 8, op := Go.Op.move (Go.Operand.tmp 0), type := 99, pos := "expr.go:131", after := #[], guard := none }) (v := ?_) [7] rfl (by kernel_rfl) (by kernel_rfl) (by kernel_rfl) (by kernel_rfl) (fun _ _ _ h => h) (Or.inl ⟨by rfl, ?_⟩) (by assumption) ?_
        rotate_left
        · (intro w hSw; (try dsimp only at hSw); go_simp; (try with_reducible rfl))
        (try simp only [Act.put, List.setIfInBounds_toArray, List.set_cons_zero, List.set_cons_succ])
        refine wpAnyI_take (i := 2) (oi := { dst := some 10, op := Go.Op.load 45 (Go.Operand.tmp 3), type := 45, pos := "expr.go:131", after := #[], guard := none }) (v := ?_) [7] rfl (by kernel_rfl) (by kernel_rfl) (by kernel_rfl) (by kernel_rfl) (fun _ _ _ h => h) (Or.inl ⟨by rfl, ?_⟩) (by assumption) ?_
        rotate_left
        · (intro w hSw; (try dsimp only at hSw); go_simp; (try with_reducible rfl))
        (try simp only [Act.put, List.setIfInBounds_toArray, List.set_cons_zero, List.set_cons_succ])
        refine wpAnyI_take (i := 4) (oi := { dst := some 12, op := Go.Op.fieldAddr 45 (Go.Operand.tmp 3) 7, type := 0, pos := "expr.go:131", after := #[], guard := none }) (v := ?_) [7] rfl (by kernel_rfl) (by kernel_rfl) (by kernel_rfl) (by kernel_rfl) (fun _ _ _ h => h) (Or.inl ⟨by rfl, ?_⟩) (by assumption) ?_
        rotate_left
        · (intro w hSw; (try dsimp only at hSw); go_simp; (try with_reducible rfl))
        (try simp only [Act.put, List.setIfInBounds_toArray, List.set_cons_zero, List.set_cons_succ])
        refine wpAnyI_take (i := 5) (oi := { dst := some 13, op := Go.Op.load 3 (Go.Operand.tmp 12), type := 3, pos := "expr.go:131", after := #[{ on := 4, ground := Go.Ground.data }], guard := none }) (v := ?_) [7] rfl (by kernel_rfl) (by kernel_rfl) (by kernel_rfl) (by kernel_rfl) (fun _ _ _ h => h) (Or.inl ⟨by rfl, ?_⟩) (by assumption) ?_
        rotate_left
        · (intro w hSw; (try dsimp only at hSw); go_simp; (try with_reducible rfl))
        (try simp only [Act.put, List.setIfInBounds_toArray, List.set_cons_zero, List.set_cons_succ])
        refine wpAnyI_two (i := 1) (j := 3) (o := { dst := some 9, op := Go.Op.call { callee := Go.Callee.value (Go.Operand.func 79), args := #[Go.Operand.tmp 8], argTypes := #[99] }, type := 9, pos := "expr.go:131", after := #[{ on := 0, ground := Go.Ground.data }], guard := none }) (p := { dst := some 11, op := Go.Op.buildSlice 43 1 #[(0, Go.Operand.tmp 10)], type := 43, pos := "expr.go:131", after := #[{ on := 2, ground := Go.Ground.data }], guard := none }) (by kernel_rfl) rfl rfl (fun K hK => ?_) (fun K hK => ?_)
        · go_simp
          (refine (small_any w2.drew P D s2 HP2).mono ?_; intro e4 w4 hrt; rcases hrt.cases with ⟨f, hx, rfl, hg⟩ | ⟨fn, s3, v, hx, rfl, hv, hs, hg⟩; (focus (exact ⟨rfl, Rt.err (H2.out.trans (bd_err hx)) (gtrans HG2 hg)⟩)); (have hv2 : v = .string (bs fn) := hv; subst hv2); have H3 := hid (H2.out.trans (bd_ok hx)); have hz4 := hg.size; have hB74 := Box.call (HB7.out.drw) hg (by omega); have HG4 := gtrans HG2 hg; have HP4 := hs; have hG4 := hid hg; clear hg hs)
          try go_wp2_with fail
          refine hK.out _ _ (ST _ hB74) (fun hHeldN => ?_)
          clear hK K hHeld; have hHeld := hHeldN; clear hHeldN; (try simp only [Act.put, List.setIfInBounds_toArray, List.set_cons_zero, List.set_cons_succ])
          refine wpAnyI_one (i := 3) (o := { dst := some 11, op := Go.Op.buildSlice 43 1 #[(0, Go.Operand.tmp 10)], type := 43, pos := "expr.go:131", after := #[{ on := 2, ground := Go.Ground.data }], guard := none }) (by kernel_rfl) rfl (fun K hK => ?_)
          go_simp
          refine hK.out _ _ (ST _ (hB74.alloc _)) (fun hHeldN => ?_)
          clear hK K hHeld; have hHeld := hHeldN; clear hHeldN; (try simp only [Act.put, List.setIfInBounds_toArray, List.set_cons_zero, List.set_cons_succ])
          have yf : ∀ o, w4.frozen? ⟨w1.heap.size, o, none⟩ = false := (fun o => freeOf hB74 o)
          have hb74 := hB74.lt
          obtain ⟨j0, j1, j2, j3, j4, j5, j6, j7⟩ := ST _ hB74
          refine wpAnyI_take (i := 6) (oi := { dst := some 14, op := Go.Op.build 45 #[(0, Go.Operand.const (Go.Value.int Go.IntKind.i64 7)), (4, Go.Operand.tmp 9), (6, Go.Operand.tmp 11), (7, Go.Operand.tmp 13)], type := 45, pos := "expr.go:131", after := #[{ on := 1, ground := Go.Ground.data }, { on := 3, ground := Go.Ground.data }, { on := 5, ground := Go.Ground.data }], guard := none }) (v := ?_) [7] rfl (by kernel_rfl) (by kernel_rfl) (by kernel_rfl) (by kernel_rfl) (fun _ _ _ h => h) (Or.inl ⟨by rfl, ?_⟩) (by assumption) ?_
          rotate_left
          · (intro w hSw; (try dsimp only at hSw); go_simp; (try with_reducible rfl))
          (try simp only [Act.put, List.setIfInBounds_toArray, List.set_cons_zero, List.set_cons_succ])
          refine wpAnyI_last (o := { dst := none, op := Go.Op.store 45 (Go.Operand.tmp 3) (Go.Operand.tmp 14), type := 0, pos := "expr.go:131", after := #[{ on := 6, ground := Go.Ground.data }, { on := 1, ground := Go.Ground.chain }, { on := 0, ground := Go.Ground.phase }, { on := 1, ground := Go.Ground.phase }, { on := 2, ground := Go.Ground.phase }, { on := 3, ground := Go.Ground.phase }, { on := 4, ground := Go.Ground.phase }, { on := 5, ground := Go.Ground.phase }, { on := 6, ground := Go.Ground.phase }], guard := none }) (by kernel_rfl) rfl (by kernel_rfl) (fun K hK => ?_)
          go_simp
          refine hK.out _ _ ?_
          clear hK K hHeld
          (try simp only [Act.put, List.setIfInBounds_toArray, List.set_cons_zero, List.set_cons_succ])
          go_wp2
          go_roundg g
          case measure => omega
          have hnA : ¬ (fun g => w.heap.size ≤ g ∧ g < w4.heap.size ∧ g ≠ w.heap.size ∧ g ≠ w1.heap.size) w1.heap.size := fun h => h.2.2.2 rfl
          obtain ⟨Ws, hWs⟩ : ∃ Ws, Ws = ((((((((w4.setCell ⟨w1.heap.size, 0, none⟩ (.int .i64 7)).setCell ⟨w1.heap.size, 1, none⟩ (.int .i64 0)).setCell ⟨w1.heap.size, 2, none⟩ (.int .i64 0)).setCell ⟨w1.heap.size, 3, none⟩ (.string ⟨#[]⟩)).setCell ⟨w1.heap.size, 4, none⟩ (.string (bs fn))).setCell ⟨w1.heap.size, 5, none⟩ (.slice none 0 0)).setCell ⟨w1.heap.size, 6, none⟩ (.slice (some ⟨w4.heap.size, 0, none⟩) 1 1)).setCell ⟨w1.heap.size, 7, none⟩ (.int .i64 e.pos)) := ⟨_, rfl⟩
          have hzs : Ws.heap.size = w4.heap.size := by rw [hWs]; simp only [World.size_setCell]
          have hB := Bx.put8 (x0 := .int .i64 7) (x1 := .int .i64 0) (x2 := .int .i64 0) (x3 := .string ⟨#[]⟩) (x4 := .string (bs fn)) (x5 := .slice none 0 0) (x6 := .slice (some ⟨w4.heap.size, 0, none⟩) 1 1) (x7 := .int .i64 e.pos) (show Bx 8 w1.heap.size 45 w4 from ⟨_, rfl, hB74⟩)
          have hE4 := RE.mv HE2.out (w' := w4) (B := fun g => w.heap.size ≤ g ∧ g < w4.heap.size ∧ g ≠ w.heap.size ∧ g ≠ w1.heap.size) (Same.call hG4.out (Same.refl _ _) (by rintro g ⟨q1, q2, q3, q4⟩; omega) (by rintro ⟨q1, q2, q3, q4⟩; omega)) (by rintro g ⟨q1, q2, q3, q4⟩; exact ⟨q1, by omega, q3, q4⟩)
          have sS : Same (fun g => w.heap.size ≤ g ∧ g < w4.heap.size ∧ g ≠ w.heap.size ∧ g ≠ w1.heap.size) w4 Ws := by
            rw [hWs]
            repeat (first | (with_reducible exact Same.refl _ _) | ((with_reducible apply Same.set); rotate_left; exact hnA))
          have hEs := RE.mv hE4 sS (fun g h => h)
          have XF := XsR.one (B := fun g => w.heap.size ≤ g ∧ g < w4.heap.size + 1 ∧ g ≠ w.heap.size ∧ g ≠ w1.heap.size) hEs (by rintro g ⟨q1, q2, q3, q4⟩; omega) (by rintro g ⟨q1, q2, q3, q4⟩; exact ⟨q1, by omega, q3, q4⟩) ⟨by omega, by omega, by omega, by omega⟩
          rw [hzs] at XF
          rw [← hWs] at hB ⊢
          have HP : Pst Ws P D s3 := by
            rw [hWs]
            have HP := HP4
            exact (by with_reducible repeat first | exact HP | apply pA | refine pS (by omega) ?_)
          have HG : w.grownBy Ws (some P) := by
            rw [hWs]
            have HG := HG4
            exact (by with_reducible repeat first | exact HG | apply gA | apply gB | refine gS (by omega) ?_)
          have hX6 : Bx 8 w.heap.size 45 Ws := by
            rw [hWs]
            have q := HBX2.call' hG4.out (by omega)
            repeat (first | (with_reducible exact q) | (with_reducible apply Bx.set))
          exact ⟨⟨7, 0, 0, [], fn, [], [pkE e], e.pos⟩, s3, _, hB.alloc _, RE.mk2 (es := [e]) rfl (Rws.nil _ _ _ _) (XsR.mv XF (Same.refl _ _) (by rintro g ⟨q1, q2, q3, q4⟩; exact ⟨q1, by rw [World.size_alloc]; omega, q3, q4⟩)) rfl, hX6.alloc _, H3.out, HP.alloc _, grown_alloc HG _⟩
        · go_simp
          refine hK.out _ _ (ST _ ((HB7.out.drw).alloc _)) (fun hHeldN => ?_)
          clear hK K hHeld; have hHeld := hHeldN; clear hHeldN; (try simp only [Act.put, List.setIfInBounds_toArray, List.set_cons_zero, List.set_cons_succ])
          refine wpAnyI_one (i := 1) (o := { dst := some 9, op := Go.Op.call { callee := Go.Callee.value (Go.Operand.func 79), args := #[Go.Operand.tmp 8], argTypes := #[99] }, type := 9, pos := "expr.go:131", after := #[{ on := 0, ground := Go.Ground.data }], guard := none }) (by kernel_rfl) rfl (fun K hK => ?_)
          go_simp
          (refine (small_any (w2.drew.alloc (.cells #[.int .i64 e.kind, .int .i64 e.op, .int .i64 e.int, .string (bs e.text), .string (bs e.name), .slice na nn nc, .slice aa an ac, .int .i64 e.pos] 45)) P D s2 (HP2.alloc _)).mono ?_; intro e4 w4 hrt; rcases hrt.cases with ⟨f, hx, rfl, hg⟩ | ⟨fn, s3, v, hx, rfl, hv, hs, hg⟩; (focus (exact ⟨rfl, Rt.err (H2.out.trans (bd_err hx)) (gtrans (grown_alloc HG2 _) hg)⟩)); (have hv2 : v = .string (bs fn) := hv; subst hv2); have H3 := hid (H2.out.trans (bd_ok hx)); have hz4 := hg.size; have hB74 := Box.call ((HB7.out.drw).alloc _) hg (by omega); have HG4 := gtrans (grown_alloc HG2 _) hg; have HP4 := hs; have hG4 := hid hg; clear hg hs)
          try go_wp2_with fail
          refine hK.out _ _ (ST _ hB74) (fun hHeldN => ?_)
          clear hK K hHeld; have hHeld := hHeldN; clear hHeldN; (try simp only [Act.put, List.setIfInBounds_toArray, List.set_cons_zero, List.set_cons_succ])
          have yf : ∀ o, w4.frozen? ⟨w1.heap.size, o, none⟩ = false := (fun o => freeOf hB74 o)
          obtain ⟨j0, j1, j2, j3, j4, j5, j6, j7⟩ := ST _ hB74
          refine wpAnyI_take (i := 6) (oi := { dst := some 14, op := Go.Op.build 45 #[(0, Go.Operand.const (Go.Value.int Go.IntKind.i64 7)), (4, Go.Operand.tmp 9), (6, Go.Operand.tmp 11), (7, Go.Operand.tmp 13)], type := 45, pos := "expr.go:131", after := #[{ on := 1, ground := Go.Ground.data }, { on := 3, ground := Go.Ground.data }, { on := 5, ground := Go.Ground.data }], guard := none }) (v := ?_) [7] rfl (by kernel_rfl) (by kernel_rfl) (by kernel_rfl) (by kernel_rfl) (fun _ _ _ h => h) (Or.inl ⟨by rfl, ?_⟩) (by assumption) ?_
          rotate_left
          · (intro w hSw; (try dsimp only at hSw); go_simp; (try with_reducible rfl))
          (try simp only [Act.put, List.setIfInBounds_toArray, List.set_cons_zero, List.set_cons_succ])
          refine wpAnyI_last (o := { dst := none, op := Go.Op.store 45 (Go.Operand.tmp 3) (Go.Operand.tmp 14), type := 0, pos := "expr.go:131", after := #[{ on := 6, ground := Go.Ground.data }, { on := 1, ground := Go.Ground.chain }, { on := 0, ground := Go.Ground.phase }, { on := 1, ground := Go.Ground.phase }, { on := 2, ground := Go.Ground.phase }, { on := 3, ground := Go.Ground.phase }, { on := 4, ground := Go.Ground.phase }, { on := 5, ground := Go.Ground.phase }, { on := 6, ground := Go.Ground.phase }], guard := none }) (by kernel_rfl) rfl (by kernel_rfl) (fun K hK => ?_)
          go_simp
          refine hK.out _ _ ?_
          clear hK K hHeld
          (try simp only [Act.put, List.setIfInBounds_toArray, List.set_cons_zero, List.set_cons_succ])
          go_wp2
          go_roundg g
          case measure => omega
          have hnA : ¬ (fun g => w.heap.size ≤ g ∧ g < w4.heap.size ∧ g ≠ w.heap.size ∧ g ≠ w1.heap.size) w1.heap.size := fun h => h.2.2.2 rfl
          have hz5 := hz4
          rw [World.size_alloc] at hz5
          have hB := Bx.put8 (x0 := .int .i64 7) (x1 := .int .i64 0) (x2 := .int .i64 0) (x3 := .string ⟨#[]⟩) (x4 := .string (bs fn)) (x5 := .slice none 0 0) (x6 := .slice (some ⟨w2.heap.size, 0, none⟩) 1 1) (x7 := .int .i64 e.pos) (show Bx 8 w1.heap.size 45 w4 from ⟨_, rfl, hB74⟩)
          have XF := XsR.one (B := fun g => w.heap.size ≤ g ∧ g < w2.heap.size + 1 ∧ g ≠ w.heap.size ∧ g ≠ w1.heap.size) HE2.out (by rintro g ⟨q1, q2, q3, q4⟩; omega) (by rintro g ⟨q1, q2, q3, q4⟩; exact ⟨q1, by omega, q3, q4⟩) ⟨by omega, by omega, by omega, by omega⟩
          have XG := XsR.mv XF (w' := w4) (B := fun g => w.heap.size ≤ g ∧ g < w4.heap.size ∧ g ≠ w.heap.size ∧ g ≠ w1.heap.size) (Same.call hG4.out (Same.refl _ _) (by rintro g ⟨q1, q2, q3, q4⟩; rw [World.size_alloc]; omega) (by rintro ⟨q1, q2, q3, q4⟩; omega)) (by rintro g ⟨q1, q2, q3, q4⟩; exact ⟨q1, by omega, q3, q4⟩)
          refine ⟨⟨7, 0, 0, [], fn, [], [pkE e], e.pos⟩, s3, _, hB, RE.mk2 (es := [e]) rfl (Rws.nil _ _ _ _) (XsR.mv XG ?_ ?_) rfl, ?_, H3.out, ?_, ?_⟩
          · repeat (first | (with_reducible exact Same.refl _ _) | ((with_reducible apply Same.set); rotate_left; exact hnA))
          · rintro g ⟨q1, q2, q3, q4⟩; exact ⟨q1, by simp only [World.size_setCell]; exact q2, q3, q4⟩
          · have q := (HBX2.alloc _).call' hG4.out (by omega)
            repeat (first | (with_reducible exact q) | (with_reducible apply Bx.set))
          · have HP := HP4
            exact (by with_reducible repeat first | exact HP | apply pA | refine pS (by omega) ?_)
          · have HG := HG4
            exact (by with_reducible repeat first | exact HG | apply gA | apply gB | refine gS (by omega) ?_)
end Go.Proofs.YtcnohgifihbkdaaGreatDoor

