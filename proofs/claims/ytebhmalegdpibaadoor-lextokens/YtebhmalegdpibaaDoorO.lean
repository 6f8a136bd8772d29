/- The two examples and the quote that every statement looks at first. -/
import Derived.Test.YtebhmalegdpibaaDoorN
namespace Go.Proofs.YtebhmalegdpibaaDoor
open Go.RowKit Go.Deep
set_option linter.unusedVariables false
set_option linter.unusedSimpArgs false

theorem kn1 : lexT [97, 43, 37, 98] = .ok [⟨1, [97], 0⟩, ⟨5, [43, 37], 1⟩, ⟨1, [98], 3⟩, ⟨0, [], 4⟩] := by rfl
theorem kn2 : lexT [33] = .error (0, 51) := by rfl
theorem kn3 : quoB [97, 34] = [34, 97, 34, 34, 34] := by rfl
set_option maxRecDepth 100000 in
theorem known_any (w : World) (hm : MX w) : Calls Tryd.prog 9 #[] w fun e w' => e = .returned (.bool true) ∧ Below w.heap.size w w' := by
  have HM := hid hm
  have c1 := hid (fun (w : World) (h : MX w) => tokens_ok ⟨#[97, 43, 37, 98]⟩ (by decide) _ kn1 w h)
  have c2 := hid (fun (w : World) (h : MX w) => tokens_err ⟨#[33]⟩ (by decide) _ kn2 w h)
  have c3 := hid (fun (w : World) (h : MX w) => quote_any ⟨#[97, 34]⟩ (by decide) w h)
  clear hm
  go_enter Tryd.func9, Tryd.ntmps9
  go_wp2_with (first
    | (go_at_call 10; have hno := hb; clear hno; refine (c2.out _ (HM.out.below HM.out.lt hb)).mono ?_; rintro e w3 ⟨rfl, hb3⟩; have G1 : w3.cell? ⟨b, 4, none⟩ = some (.string ⟨#[43, 37]⟩) := (World.cell?_of_block (hb3.block b hlt)).trans g1; have G2 : w3.cell? ⟨b, 9, none⟩ = some (.int .i64 0) := (World.cell?_of_block (hb3.block b hlt)).trans g2)
    | (go_at_call 10; refine (c1.out _ HM.out).mono ?_; rintro e w2 ⟨b, cap, rfl, hrd, hB, hlt, hb⟩; obtain ⟨b', o', eb, hc⟩ := hrd 1 _ rfl; cases eb; have g1 : w2.cell? ⟨b, 4, none⟩ = some (.string ⟨#[43, 37]⟩) := hc 1 (by omega); obtain ⟨b', o', eb, hd⟩ := hrd 3 _ rfl; cases eb; have g2 : w2.cell? ⟨b, 9, none⟩ = some (.int .i64 0) := hd 0 (by omega); clear hc hd hrd)
    | (go_at_call 18; refine (c3.out _ ((HM.out.below HM.out.lt hb).below (Nat.lt_of_lt_of_le HM.out.lt hb.size) hb3)).mono ?_; rintro e w4 ⟨rfl, hb4⟩))
  go_ret
  refine ⟨ret_bool ?_, (hb.trans (hb3.mono hb.size)).trans (hb4.mono (Nat.le_trans hb.size hb3.size))⟩
  rw [ByteArray.toList_eq, ofB_list, kn3]
  simp
end Go.Proofs.YtebhmalegdpibaaDoor
