/- DiskPlays: the row of steps. -/
import Derived.Test.YtbhopjnolgfpnaaL
import Derived.Deep.AppendLies
import Derived.Deep.RegionHeld3
import Derived.Deep.RegionWith
namespace Go.Proofs.Ytbhopjnolgfpnaa
open Go.RowKit Go.Deep
set_option linter.unusedVariables false
set_option linter.unusedSimpArgs false

def findBlock (n : Nat) : Code → Option Code
  | .block m c => if m = n then some (.block m c) else findBlock n c
  | .seq a b => match findBlock n a with
    | some c => some c
    | none => findBlock n b
  | .cond _ a b => match findBlock n a with
    | some c => some c
    | none => findBlock n b
  | .loop c => findBlock n c
  | .scope c => findBlock n c
  | _ => none

def zs (n : Nat) : List ByteArray := List.replicate n zeroS

structure Stp where
  what : Int
  i : Int
  n : Int
  fill : Int
  short : Bool

def StIn (w0 : World) (a0 : Option Addr) (len N0 : Nat) (st : Nat → Stp) : Prop :=
  ∀ j, j < len → ∃ b off, a0 = some ⟨b, off, none⟩ ∧ b < N0 ∧ w0.cell? ⟨b, off + j * 5, none⟩ = some (.int .i64 (st j).what) ∧ w0.cell? ⟨b, off + j * 5 + 1, none⟩ = some (.int .i64 (st j).i) ∧
      w0.cell? ⟨b, off + j * 5 + 2, none⟩ = some (.int .i64 (st j).n) ∧ w0.cell? ⟨b, off + j * 5 + 3, none⟩ = some (.int .u8 (st j).fill) ∧ w0.cell? ⟨b, off + j * 5 + 4, none⟩ = some (.bool (st j).short) ∧
      -9223372036854775808 ≤ (st j).n ∧ (st j).n ≤ 9223372036854775807 ∧ 0 ≤ (st j).fill ∧ (st j).fill ≤ 255

/- What holds behind k steps: the writes that were done, how many are left, whether it is cut. -/
def L2 (w0 : World) (N0 bd bf cf bn cn bw n : Nat) (R : List (Nat × ByteArray)) (dl : Int) (k : Nat) (vm : Value) (left : Int) (cut : Bool) (W : World) : Prop :=
  LI w0 N0 bd bf cf bn cn bw (zs n) R R R dl vm W ∧ R.length ≤ k ∧ (∀ p, p ∈ R → p.2.size = 256) ∧ cut = decide (dl = 0) ∧ (dl ≠ 0 → left = dl ∨ (dl < 0 ∧ left = -1)) ∧ dl ≤ 9223372036854775807 ∧ -1 ≤ left ∧ left ≤ 9223372036854775807

theorem L2.vmIs {w0 : World} {N0 bd bf cf bn cn bw n : Nat} {R : List (Nat × ByteArray)} {dl : Int} {k : Nat} {vm : Value} {left : Int} {cut : Bool} {W : World} (h : L2 w0 N0 bd bf cf bn cn bw n R dl k vm left cut W) : ∃ gm cm, vm = .slice (some ⟨gm, 0, none⟩) (R.length + 1) cm := by
  obtain ⟨ms, h1, _⟩ := h.1.moms
  rcases h1.2 with ⟨_, h2⟩ | ⟨g, c, cur, rfl, _⟩
  · omega
  · exact ⟨g, c, rfl⟩

def nOf (short : Bool) : Nat := if short then 255 else 256
theorem block_gen (w : World) (fill : Int) (short : Bool) (hf0 : 0 ≤ fill) (hf1 : fill ≤ 255) :
    Calls Try.prog 6 #[.int .u8 fill, .bool short] w fun e w' => e = .returned (.slice (some ⟨w.heap.size, 0, none⟩) (nOf short) (nOf short)) ∧ By w' w.heap.size (nOf short) (blkList fill (nOf short)) ∧ Below w.heap.size w w' ∧ w'.heap.size = w.heap.size + 1 := by
  refine (block_any w fill short (nOf short) rfl hf0 hf1).mono ?_
  rintro e w' ⟨h1, h2, h3, h4⟩
  exact ⟨h1, By.of_block h2, h3, h4⟩
theorem nOf_le (short : Bool) : nOf short ≤ 1000 := by cases short <;> simp [nOf]

variable {w0 : World} {N0 bd bf cf bn cn bw n : Nat} {R : List (Nat × ByteArray)} {dl : Int} {k : Nat} {vm : Value} {left : Int} {cut : Bool} {W W' : World}
theorem L2.step (h : L2 w0 N0 bd bf cf bn cn bw n R dl k vm left cut W) (hb : Below W.heap.size W W') : L2 w0 N0 bd bf cf bn cn bw n R dl (k + 1) vm left cut W' := by
  obtain ⟨h1, h2, h3⟩ := h
  exact ⟨h1.step hb, by omega, h3⟩
theorem L2.same (h : L2 w0 N0 bd bf cf bn cn bw n R dl k vm left cut W) (hb : Below W.heap.size W W') : L2 w0 N0 bd bf cf bn cn bw n R dl k vm left cut W' := by
  obtain ⟨h1, h2⟩ := h
  exact ⟨h1.step hb, h2⟩
theorem L2.halted (h : L2 w0 N0 bd bf cf bn cn bw n R dl k vm left cut W) (l : Int) (h1 : -9223372036854775808 ≤ l) (h2 : l ≤ 9223372036854775807) : L2 w0 N0 bd bf cf bn cn bw n R l (k + 1) vm (max l (-1)) (decide (max l (-1) = 0)) (W.setCell ⟨bd, 3, none⟩ (.int .i64 l)) := by
  obtain ⟨a, b, c, d, e, f, g⟩ := h
  refine ⟨a.setLeft l, by omega, c, ?_, fun hl => ?_, h2, by omega, by omega⟩
  · congr 1; rw [eq_iff_iff]; omega
  · omega
end Go.Proofs.Ytbhopjnolgfpnaa
