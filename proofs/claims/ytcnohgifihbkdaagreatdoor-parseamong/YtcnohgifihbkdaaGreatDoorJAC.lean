/- A note's size, a text's size. -/
import Derived.Test.YtcnohgifihbkdaaGreatDoorJAB
import Derived.Shelf.Strings.Builder1
import Derived.Shelf.Strings.Builder2
import Derived.Shelf.Strings.Trim
import Derived.Shelf.Small.Utf8
import Derived.Shelf.Small.Strs
import Derived.Shelf.Strings.BuilderF
import Derived.Shelf.Strings.BuilderK
import Derived.Shelf.LaysM
import Derived.Shelf.Strconv.Clone
import Derived.Shelf.Strings.Search1
import Derived.Shelf.Strings.Search2
import Derived.Shelf.Strings.Search3
import Derived.Shelf.Strings.Count
import Derived.Shelf.Strings.Shaped
import Derived.Shelf.Strings.Prefix
import Derived.Shelf.Strings.Split
import Derived.Shelf.Strings.Replace
import Derived.Shelf.Strings.SplitShaped
import Derived.Shelf.Strings.Runes
import Derived.Shelf.Strings.AsciiSet
import Derived.Shelf.Unicode.DecodeSlow
import Derived.Shelf.Unicode.DecodeAny
import Derived.Shelf.Slices.Turned
import Derived.Test.YtcnohgifihbkdaaGreatDoorChecked
import Derived.Deep.RegionHeld3
import Derived.Lib.Replace
namespace Go.Proofs.YtcnohgifihbkdaaGreatDoor.Lx
open Go.RowKit Go.Deep
set_option linter.unusedVariables false
set_option maxRecDepth 100000
set_option linter.unusedSimpArgs false

theorem eq10 (c : UInt8) : (!decide ((c.toNat : Int) = 10)) = !(c == 10) := by
  congr 1
  rw [Bool.eq_iff_iff]
  simp only [decide_eq_true_eq, beq_iff_eq]
  constructor
  · intro h
    exact UInt8.toNat_inj.1 (show c.toNat = 10 from by omega)
  · rintro rfl; rfl
theorem c34 (c : UInt8) : (c = 34) ↔ c.toNat = 34 := by
  constructor
  · rintro rfl; rfl
  · intro h
    exact UInt8.toNat_inj.1 (by simpa using h)
theorem enters33 : ∀ args w, (callFunc 64 args).run Tryz.prog w = .ok (.enter 64 args) w := enters_of Tryz.func64 (by kernel_rfl) rfl
theorem noteSize_any (s : ByteArray) (hs : s.size ≤ 9223372036854775807) (w : World) : Calls Tryz.prog 38 #[.string s] w fun e w' => e = .returned (.int .i64 (noteF s.data.toList : Nat)) ∧ Below w.heap.size w w' := by
  have h := run_any s 64 #[] (fun r => !decide (r = 10)) hs (fun a b ha hb => by simp; omega) enters33 (fun r w => notNl_any r w)
  have e : (fun c : UInt8 => !decide ((c.toNat : Int) = 10)) = fun c => !(c == 10) := funext eq10
  rw [e] at h
  go_enter Tryz.func38, Tryz.ntmps38
  go_wp2_with (go_at_call 63; refine (h _).mono ?_; rintro e w2 ⟨rfl, hb⟩)
  go_ret
  exact ⟨rfl, hb⟩

theorem textF_skip : ∀ (n : Nat) (l : Bs), n ≤ l.length → (∀ k c, k < n → l[k]? = some c → ¬ c = 34) → textF false l = (textF false (l.drop n)).map (· + n)
  | 0, l, _, _ => by simp
  | n + 1, [], h, _ => by simp at h
  | n + 1, c :: t, h, hc => by
    have h0 := hc 0 c (by omega) rfl
    have := textF_skip n t (by simpa using h) (fun k d hk e => hc (k + 1) d (by omega) e)
    simp only [textF, h0, if_false, this, List.drop_succ_cons, Bool.false_eq_true]
    cases textF false (t.drop n) <;> simp
    omega
theorem textF_step {l : Bs} {pos r wd : Nat} (R : Rune l pos r wd) (e : Bool) :
    (r = 34 → wd = 1 ∧ textF e (l.drop pos) = (textF (!e) (l.drop (pos + wd))).map (· + 1)) ∧ (¬ r = 34 → e = true → textF e (l.drop pos) = some 0) ∧
      (¬ r = 34 → e = false → textF e (l.drop pos) = (textF false (l.drop (pos + wd))).map (· + wd)) := by
  obtain ⟨c, ec, hd⟩ := R.at
  have hc : r = 34 ↔ c = 34 := by
    rw [c34]
    by_cases h : c.toNat < 128
    · rw [(R.low c ec h).1]
    · have := R.high c ec (by omega); constructor <;> intro <;> omega
  refine ⟨fun h => ?_, fun h1 h2 => ?_, fun h1 h2 => ?_⟩
  · have hw := (R.low c ec (by rw [hc.1 h]; decide)).2
    refine ⟨hw, ?_⟩
    rw [hd, hw]
    simp [textF, hc.1 h]
  · rw [hd]
    have h3 : ¬ c = 34 := fun h => h1 (hc.2 h)
    simp [textF, h3, h2]
  · subst h2
    rw [textF_skip wd (l.drop pos) (by rw [List.length_drop]; have := R.fit; omega) ?_, List.drop_drop]
    intro k d hk ek
    rw [List.getElem?_drop] at ek
    by_cases h : c.toNat < 128
    · have := (R.low c ec h).2
      have hk0 : k = 0 := by omega
      subst hk0
      rw [Nat.add_zero, ec] at ek; cases ek
      exact fun h => h1 (hc.2 h)
    · have := R.all c ec (by omega) k d hk ek
      rw [c34]; omega

def tsz (t : Bs) : Value := match textF false t with | some n => .tuple #[.int .i64 ((n : Int) + 1), .bool true] | none => .tuple #[.int .i64 ((t.length : Int) + 1), .bool false]
theorem extract_toList (s : ByteArray) (a b : Nat) : (s.extract a b).data.toList = (s.data.toList.take b).drop a := by
  rw [Lib.extract_data]; simp [List.drop_take]
theorem textSize_any (s : ByteArray) (hs : s.size ≤ 9223372036854775807) (h1 : 1 ≤ s.size) (w : World) : Calls Tryz.prog 70 #[.string s] w fun e w' => e = .returned (tsz (s.data.toList.drop 1)) ∧ Below w.heap.size w w' := by
  have hx : (s.extract 1 s.size).data.toList = s.data.toList.drop 1 := by rw [extract_toList, List.take_of_length_le (by rw [← Lib.size_eq]; omega)]
  have hxs : (s.extract 1 s.size).size = s.size - 1 := by rw [Lib.size_eq, hx, List.length_drop, ← Lib.size_eq]
  have hlen : (s.data.toList.drop 1).length = s.size - 1 := by rw [List.length_drop, ← Lib.size_eq]
  obtain ⟨T, hT⟩ : ∃ T, s.data.toList.drop 1 = T := ⟨_, rfl⟩
  rw [hT] at hx hlen ⊢
  have HT := hid hx
  have HL := hid hlen
  clear hx hT hlen
  have hz : (1 : Int) ≤ (s.size : Int) := by omega
  go_enter Tryz.func70, Tryz.ntmps70
  go_wp2
  obtain ⟨t, ht⟩ : ∃ t, s.extract 1 s.size = t := ⟨_, rfl⟩
  simp only [ht] at *
  go_loopg [4] t.size (fun gf e wx => ∃ (pos : Nat) (b : Bool), e = .bool b ∧ wx.heap[w.heap.size]? = some (.stringIter t pos) ∧ Below w.heap.size w wx ∧ (textF b (t.data.toList.drop pos)).map (· + pos) = textF false t.data.toList ∧ t.size ≤ pos + gf ∧ pos ≤ t.size)
  case atStart => exact ⟨0, false, rfl, World.iter_heap w t 0, (Below.refl _ w).alloc (Nat.le_refl _) _, by simp, by omega, by omega⟩
  case round =>
    obtain ⟨pos, b, rfl, hit, hbw, hleft, hfu, hle⟩ := hrel
    by_cases hps : pos < t.size
    · obtain ⟨g', rfl⟩ : ∃ g', gk = g' + 1 := ⟨gk - 1, by omega⟩
      have hnx : ∀ ty, (Instr.next (.pointer (some ⟨w.heap.size, 0, none⟩)) true ty).run Tryz.prog wr = _ := fun ty => Lib.run_next_any_at wr w.heap.size t pos ty hit hps
      have hR := rune_at t pos hps
      obtain ⟨R, hRe⟩ : ∃ R, (Utf8.decode t pos).1 = R := ⟨_, rfl⟩
      obtain ⟨K, hK⟩ : ∃ K, (Utf8.decode t pos).2 = K := ⟨_, rfl⟩
      rw [hRe, hK] at hnx hR
      have hit2 := Lib.iterAt_heap wr w.heap.size t pos (pos + K) hit
      have hbw2 := Lib.below_iterAt hbw (k := w.heap.size) (Nat.le_refl _) t (pos + K)
      obtain ⟨W, hWd⟩ : ∃ W, wr.iterAt w.heap.size t (pos + K) = W := ⟨_, rfl⟩
      rw [hWd] at hnx hit2 hbw2
      have hst := textF_step hR b
      have h1' := hR.one
      have h2 := hR.fit
      rw [← Lib.size_eq] at h2
      have HX := hid hleft
      have HS := hid hst
      clear hR hst hleft
      by_cases hr : R = 34
      · have hr' : (R : Int) = 34 := by omega
        have HR := hid hr
        clear hr
        go_wp2
        go_roundg g'
        case measure => omega
        case rel =>
          have h3 := HS.out.1 HR.out
          have h4 := HX.out
          rw [h3.2] at h4
          refine ⟨pos + K, !b, by simp, hit2, hbw2, ?_, by omega, by omega⟩
          rw [← h4, Option.map_map]
          congr 1
          funext x
          simp
          omega
      · have hr' : ¬ (R : Int) = 34 := by omega
        have HR := hid hr
        clear hr
        cases b
        · go_wp2
          go_roundg g'
          case measure => omega
          case rel =>
            have h3 := HS.out.2.2 HR.out (by trivial)
            have h4 := HX.out
            rw [h3] at h4
            refine ⟨pos + K, false, by simp, hit2, hbw2, ?_, by omega, by omega⟩
            rw [← h4, Option.map_map]
            congr 1
            funext x
            simp
            omega
        · go_wp2
          refine bodyPost_ret (v := .tuple #[.int .i64 ((pos : Int) + 1), .bool true]) (by simp [results, Tryz.results70, go_sem]; try omega) rfl ?_
          have h3 := HS.out.2.1 HR.out (by trivial)
          have h4 := HX.out
          rw [h3, HT.out] at h4
          refine ⟨?_, hbw2⟩
          unfold tsz
          rw [← h4]
          simp
    · have hnx : ∀ ty, (Instr.next (.pointer (some ⟨w.heap.size, 0, none⟩)) true ty).run Tryz.prog wr = _ := fun ty => Lib.run_next_end_at wr w.heap.size t pos ty hit hps
      have HX := hid hleft
      have : pos = t.size := by omega
      have hn : t.data.toList.drop pos = [] := List.drop_eq_nil_of_le (by rw [← Lib.size_eq]; omega)
      have HN := hid hn
      have HP := hid this
      clear hleft hn this
      go_wp2
      refine bodyPost_ret (v := .tuple #[.int .i64 (s.size : Int), .bool b]) (by simp [results, Tryz.results70, go_sem]; try omega) rfl ?_
      refine ⟨?_, hbw⟩
      have h4 := HX.out
      rw [HN.out, HT.out] at h4
      unfold tsz
      rw [← h4, HL.out]
      have := HP.out
      cases b <;> simp [textF] <;> omega
end Go.Proofs.YtcnohgifihbkdaaGreatDoor.Lx

namespace Go.Proofs.YtcnohgifihbkdaaGreatDoor.Lx
open Go.RowKit Go.Deep
set_option linter.unusedVariables false
set_option maxRecDepth 100000
set_option linter.unusedSimpArgs false

def wordsS : List ByteArray := wordsL.map fun l => ⟨l.toArray⟩
def wordsV : Array Value := (wordsS.map Value.string).toArray
theorem words_any (w : World) : Calls Tryz.prog 68 #[] w fun e w' => e = .returned (.slice (some ⟨w.heap.size, 0, none⟩) 29 29) ∧ w' = w.alloc (.cells wordsV 9) := by
  go_enter Tryz.func68, Tryz.ntmps68
  go_wp2
  go_ret
  exact ⟨rfl, rfl⟩
end Go.Proofs.YtcnohgifihbkdaaGreatDoor.Lx

namespace Go.Proofs
open Go.Shelf
def Tryz.lays161_ren : Go.Shelf.Ren := ⟨fun | 161 => 72 | 231 => 101 | 227 => 102 | 233 => 103 | 235 => 104 | 228 => 143 | 197 => 144 | 151 => 145 | 260 => 175 | 152 => 176 | 137 => 100 | 119 => 196 | 224 => 197 | 225 => 198 | 217 => 142 | 266 => 174 | n => n, fun | 9 => 9 | 4 => 4 | 3 => 3 | 5 => 5 | 117 => 145 | 116 => 144 | 0 => 0 | 124 => 148 | 105 => 171 | 21 => 21 | 119 => 201 | 46 => 202 | 139 => 205 | 138 => 204 | n => n, fun | 3 => 1 | 4 => 2 | n => n⟩
theorem Tryz.lays161 : Go.Proofs.Lays.n161 Tryz.prog Tryz.lays161_ren := {
  mixed := by kernel_rfl
  f119 := Tryz.func196.trans (congrArg some (by kernel_rfl))
  f137 := Tryz.func100.trans (congrArg some (by kernel_rfl))
  f151 := Tryz.func145.trans (congrArg some (by kernel_rfl))
  f152 := Tryz.func176.trans (congrArg some (by kernel_rfl))
  f161 := Tryz.func72.trans (congrArg some (by kernel_rfl))
  f197 := Tryz.func144.trans (congrArg some (by kernel_rfl))
  f217 := Tryz.func142.trans (congrArg some (by kernel_rfl))
  f224 := Tryz.func197.trans (congrArg some (by kernel_rfl))
  f225 := Tryz.func198.trans (congrArg some (by kernel_rfl))
  f227 := Tryz.func102.trans (congrArg some (by kernel_rfl))
  f228 := Tryz.func143.trans (congrArg some (by kernel_rfl))
  f231 := Tryz.func101.trans (congrArg some (by kernel_rfl))
  f233 := Tryz.func103.trans (congrArg some (by kernel_rfl))
  f235 := Tryz.func104.trans (congrArg some (by kernel_rfl))
  f260 := Tryz.func175.trans (congrArg some (by kernel_rfl))
  f266 := Tryz.func174.trans (congrArg some (by kernel_rfl))
  t0 := Tryz.underlying0
  a0 := Tryz.isAgg0
  z0 := Tryz.sizeOf0
  v0 := Tryz.zeroValue0
  t3 := Tryz.underlying3
  a3 := Tryz.isAgg3
  z3 := Tryz.sizeOf3
  v3 := Tryz.zeroValue3
  t4 := Tryz.underlying4
  a4 := Tryz.isAgg4
  z4 := Tryz.sizeOf4
  v4 := Tryz.zeroValue4
  t5 := Tryz.underlying5
  a5 := Tryz.isAgg5
  z5 := Tryz.sizeOf5
  v5 := Tryz.zeroValue5
  t9 := Tryz.underlying9
  a9 := Tryz.isAgg9
  z9 := Tryz.sizeOf9
  v9 := Tryz.zeroValue9
  t21 := Tryz.underlying21
  a21 := Tryz.isAgg21
  z21 := Tryz.sizeOf21
  v21 := Tryz.zeroValue21
  t46 := Tryz.underlying202
  a46 := Tryz.isAgg202
  z46 := Tryz.sizeOf202
  v46 := Tryz.zeroValue202
  t105 := Tryz.underlying171
  a105 := Tryz.isAgg171
  z105 := Tryz.sizeOf171
  v105 := Tryz.zeroValue171
  t116 := Tryz.underlying144
  a116 := Tryz.isAgg144
  z116 := Tryz.sizeOf144
  t117 := Tryz.underlying145
  a117 := Tryz.isAgg145
  z117 := Tryz.sizeOf145
  v117 := Tryz.zeroValue145
  t119 := Tryz.underlying201
  a119 := Tryz.isAgg201
  z119 := Tryz.sizeOf201
  t124 := Tryz.underlying148
  a124 := Tryz.isAgg148
  z124 := Tryz.sizeOf148
  v124 := Tryz.zeroValue148
  t138 := Tryz.underlying204
  a138 := Tryz.isAgg204
  z138 := Tryz.sizeOf204
  v138 := Tryz.zeroValue204
  t139 := Tryz.underlying205
  a139 := Tryz.isAgg205
  z139 := Tryz.sizeOf205
  v139 := Tryz.zeroValue205
  g3 := by kernel_rfl
  g4 := by kernel_rfl }
open Go.RowKit in
theorem Tryz.strings_TrimLeft_one (s : ByteArray) (c : UInt8) (hc : c.toNat < 128) (w : World) :
    Calls Tryz.prog 72 #[.string s, .string ⟨#[c]⟩] w fun e w' => e = .returned (.string ⟨(Lib.trimLeftB s.data.toList c).toArray⟩) ∧ w' = w := Any.strings_TrimLeft_one Tryz.lays161 s c hc w
def Tryz.lays137_ren : Go.Shelf.Ren := ⟨fun | 137 => 100 | 217 => 142 | 266 => 174 | n => n, fun | 9 => 9 | 5 => 5 | 3 => 3 | n => n, fun | n => n⟩
theorem Tryz.lays137 : Go.Proofs.Lays.n137 Tryz.prog Tryz.lays137_ren := {
  mixed := by kernel_rfl
  f137 := Tryz.func100.trans (congrArg some (by kernel_rfl))
  f217 := Tryz.func142.trans (congrArg some (by kernel_rfl))
  f266 := Tryz.func174.trans (congrArg some (by kernel_rfl))
  t3 := Tryz.underlying3
  a3 := Tryz.isAgg3
  z3 := Tryz.sizeOf3
  v3 := Tryz.zeroValue3
  t5 := Tryz.underlying5
  a5 := Tryz.isAgg5
  z5 := Tryz.sizeOf5
  v5 := Tryz.zeroValue5
  t9 := Tryz.underlying9
  a9 := Tryz.isAgg9
  z9 := Tryz.sizeOf9
  v9 := Tryz.zeroValue9 }
open Go.RowKit in
theorem Tryz.strings_IndexByte (s : ByteArray) (c : Int) (w : World) :
    Calls Tryz.prog 100 #[.string s, .int .u8 c] w fun e w' => e = .returned (.int .i64 (Lib.indexByte s.data.toList c.toNat.toUInt8)) ∧ w' = w := Any.strings_IndexByte Tryz.lays137 s c w
def Tryz.laysM316_ren : Go.Shelf.Ren := ⟨fun | 316 => 106 | n => n, fun | 9 => 9 | 3 => 3 | 4 => 4 | 37 => 33 | 0 => 0 | 127 => 117 | 5 => 5 | n => n, fun | n => n⟩
theorem Tryz.laysM316 : Go.Proofs.LaysM.n316 Tryz.prog Tryz.laysM316_ren := {
  mixed := by kernel_rfl
  f316 := Tryz.func106.trans (congrArg some (by kernel_rfl))
  t0 := Tryz.underlying0
  a0 := Tryz.isAgg0
  z0 := Tryz.sizeOf0
  v0 := Tryz.zeroValue0
  t3 := Tryz.underlying3
  a3 := Tryz.isAgg3
  z3 := Tryz.sizeOf3
  v3 := Tryz.zeroValue3
  t4 := Tryz.underlying4
  a4 := Tryz.isAgg4
  z4 := Tryz.sizeOf4
  v4 := Tryz.zeroValue4
  t9 := Tryz.underlying9
  a9 := Tryz.isAgg9
  z9 := Tryz.sizeOf9
  v9 := Tryz.zeroValue9
  t37 := Tryz.underlying33
  a37 := Tryz.isAgg33
  z37 := Tryz.sizeOf33
  v37 := Tryz.zeroValue33
  t127 := Tryz.underlying117
  a127 := Tryz.isAgg117
  z127 := Tryz.sizeOf117
  v127 := Tryz.zeroValue117
  t5 := Tryz.underlying5
  a5 := Tryz.isAgg5
  z5 := Tryz.sizeOf5
  v5 := Tryz.zeroValue5
  i0 := by kernel_rfl
  i3 := by kernel_rfl
  i4 := by kernel_rfl
  i5 := by kernel_rfl
  i9 := by kernel_rfl
  i37 := by kernel_rfl
  i127 := by kernel_rfl }
open Go.RowKit in
theorem Tryz.stringslite_Clone (s : ByteArray) (w : World) (hlim : s.size ≤ 281474976710656) :
    Calls Tryz.prog 106 #[.string s] w fun e w' => e = .returned (.string s) ∧ Below w.heap.size w w' := Any.stringslite_Clone Tryz.laysM316 s w hlim
def Tryz.lays99_ren : Go.Shelf.Ren := ⟨fun | 99 => 99 | 206 => 141 | n => n, fun | 9 => 9 | 4 => 4 | 3 => 3 | n => n, fun | n => n⟩
theorem Tryz.lays99 : Go.Proofs.Lays.n99 Tryz.prog Tryz.lays99_ren := {
  mixed := by kernel_rfl
  f99 := Tryz.func99.trans (congrArg some (by kernel_rfl))
  f206 := Tryz.func141.trans (congrArg some (by kernel_rfl))
  t3 := Tryz.underlying3
  a3 := Tryz.isAgg3
  z3 := Tryz.sizeOf3
  v3 := Tryz.zeroValue3
  t4 := Tryz.underlying4
  a4 := Tryz.isAgg4
  z4 := Tryz.sizeOf4
  v4 := Tryz.zeroValue4
  t9 := Tryz.underlying9
  a9 := Tryz.isAgg9
  z9 := Tryz.sizeOf9
  v9 := Tryz.zeroValue9 }
open Go.RowKit Go.Lib in
theorem Tryz.strings_HasPrefix (s p : ByteArray) (w : World) :
    Calls Tryz.prog 99 #[.string s, .string p] w fun e w' => e = .returned (.bool (Lib.hasPrefix s.data.toList p.data.toList)) ∧ w' = w := Any.strings_HasPrefix Tryz.lays99 s p w
def Tryz.lays155_ren : Go.Shelf.Ren := ⟨fun | 155 => 73 | 154 => 105 | 138 => 146 | 165 => 147 | 143 => 148 | 166 => 149 | 197 => 144 | 169 => 36 | 195 => 177 | 218 => 178 | 240 => 179 | 241 => 180 | 219 => 181 | 260 => 175 | 276 => 199 | 277 => 200 | 217 => 142 | 225 => 198 | 224 => 197 | 267 => 201 | 266 => 174 | 314 => 218 | n => n, fun | 9 => 9 | 3 => 3 | 4 => 4 | 72 => 86 | 0 => 0 | 76 => 177 | 105 => 171 | 21 => 21 | 5 => 5 | 70 => 84 | 20 => 20 | 37 => 33 | 75 => 176 | 127 => 117 | 164 => 207 | 46 => 202 | 119 => 201 | 139 => 205 | 138 => 204 | 146 => 217 | 51 => 213 | 80 => 90 | n => n, fun | 1 => 0 | 3 => 1 | 4 => 2 | n => n⟩
theorem Tryz.lays155 : Go.Proofs.Lays.n155 Tryz.prog Tryz.lays155_ren := {
  mixed := by kernel_rfl
  f138 := Tryz.func146.trans (congrArg some (by kernel_rfl))
  f143 := Tryz.func148.trans (congrArg some (by kernel_rfl))
  f154 := Tryz.func105.trans (congrArg some (by kernel_rfl))
  f155 := Tryz.func73.trans (congrArg some (by kernel_rfl))
  f165 := Tryz.func147.trans (congrArg some (by kernel_rfl))
  f166 := Tryz.func149.trans (congrArg some (by kernel_rfl))
  f169 := Tryz.func36.trans (congrArg some (by kernel_rfl))
  f195 := Tryz.func177.trans (congrArg some (by kernel_rfl))
  f197 := Tryz.func144.trans (congrArg some (by kernel_rfl))
  f217 := Tryz.func142.trans (congrArg some (by kernel_rfl))
  f218 := Tryz.func178.trans (congrArg some (by kernel_rfl))
  f219 := Tryz.func181.trans (congrArg some (by kernel_rfl))
  f224 := Tryz.func197.trans (congrArg some (by kernel_rfl))
  f225 := Tryz.func198.trans (congrArg some (by kernel_rfl))
  f240 := Tryz.func179.trans (congrArg some (by kernel_rfl))
  f241 := Tryz.func180.trans (congrArg some (by kernel_rfl))
  f260 := Tryz.func175.trans (congrArg some (by kernel_rfl))
  f266 := Tryz.func174.trans (congrArg some (by kernel_rfl))
  f267 := Tryz.func201.trans (congrArg some (by kernel_rfl))
  f276 := Tryz.func199.trans (congrArg some (by kernel_rfl))
  f277 := Tryz.func200.trans (congrArg some (by kernel_rfl))
  f314 := Tryz.func218.trans (congrArg some (by kernel_rfl))
  t0 := Tryz.underlying0
  a0 := Tryz.isAgg0
  z0 := Tryz.sizeOf0
  v0 := Tryz.zeroValue0
  t3 := Tryz.underlying3
  a3 := Tryz.isAgg3
  z3 := Tryz.sizeOf3
  v3 := Tryz.zeroValue3
  t4 := Tryz.underlying4
  a4 := Tryz.isAgg4
  z4 := Tryz.sizeOf4
  v4 := Tryz.zeroValue4
  t5 := Tryz.underlying5
  a5 := Tryz.isAgg5
  z5 := Tryz.sizeOf5
  v5 := Tryz.zeroValue5
  t9 := Tryz.underlying9
  a9 := Tryz.isAgg9
  z9 := Tryz.sizeOf9
  v9 := Tryz.zeroValue9
  t20 := Tryz.underlying20
  a20 := Tryz.isAgg20
  z20 := Tryz.sizeOf20
  v20 := Tryz.zeroValue20
  t21 := Tryz.underlying21
  a21 := Tryz.isAgg21
  z21 := Tryz.sizeOf21
  v21 := Tryz.zeroValue21
  t37 := Tryz.underlying33
  a37 := Tryz.isAgg33
  z37 := Tryz.sizeOf33
  v37 := Tryz.zeroValue33
  t46 := Tryz.underlying202
  a46 := Tryz.isAgg202
  z46 := Tryz.sizeOf202
  v46 := Tryz.zeroValue202
  t51 := Tryz.underlying213
  a51 := Tryz.isAgg213
  z51 := Tryz.sizeOf213
  v51 := Tryz.zeroValue213
  t70 := Tryz.underlying84
  a70 := Tryz.isAgg84
  z70 := Tryz.sizeOf84
  v70 := Tryz.zeroValue84
  t72 := Tryz.underlying86
  a72 := Tryz.isAgg86
  z72 := Tryz.sizeOf86
  v72 := Tryz.zeroValue86
  t75 := Tryz.underlying176
  a75 := Tryz.isAgg176
  z75 := Tryz.sizeOf176
  v75 := Tryz.zeroValue176
  t76 := Tryz.underlying177
  a76 := Tryz.isAgg177
  z76 := Tryz.sizeOf177
  v76 := Tryz.zeroValue177
  t105 := Tryz.underlying171
  a105 := Tryz.isAgg171
  z105 := Tryz.sizeOf171
  v105 := Tryz.zeroValue171
  t119 := Tryz.underlying201
  a119 := Tryz.isAgg201
  z119 := Tryz.sizeOf201
  t127 := Tryz.underlying117
  a127 := Tryz.isAgg117
  z127 := Tryz.sizeOf117
  v127 := Tryz.zeroValue117
  t138 := Tryz.underlying204
  a138 := Tryz.isAgg204
  z138 := Tryz.sizeOf204
  v138 := Tryz.zeroValue204
  t139 := Tryz.underlying205
  a139 := Tryz.isAgg205
  z139 := Tryz.sizeOf205
  v139 := Tryz.zeroValue205
  t146 := Tryz.underlying217
  a146 := Tryz.isAgg217
  z146 := Tryz.sizeOf217
  v146 := Tryz.zeroValue217
  t164 := Tryz.underlying207
  a164 := Tryz.isAgg207
  z164 := Tryz.sizeOf207
  v164 := Tryz.zeroValue207
  g1 := by kernel_rfl
  g3 := by kernel_rfl
  g4 := by kernel_rfl }
theorem Tryz.Builder_Extra_155 : Builder.Extra Tryz.prog Tryz.lays155_ren := {
  sizeBuilder := by kernel_rfl
  liesBuilder := by kernel_rfl
  t5 := Tryz.underlying5
  a5 := Tryz.isAgg5
  z5 := Tryz.sizeOf5
  v5 := Tryz.zeroValue5
  infoByte := by kernel_rfl
  cellsByte := by kernel_rfl
  sizeByte := by kernel_rfl
  neB5 := by decide }
open Go.RowKit Go.Lib in
theorem Tryz.strings_ReplaceAll (s old new : ByteArray) (m : Int) (w : World) (hs : s.size < 4294967281) (hm : w.cell? ⟨0, 0, none⟩ = some (.int .i64 m)) (h1 : 1 ≤ old.size) (hlen : s.size + Lib.countB s old * new.size ≤ 140737488355328) :
    Calls Tryz.prog 73 #[.string s, .string old, .string new] w fun e w' =>
      e = .returned (.string ⟨(Lib.replaceAll s.data.toList old.data.toList new.data.toList).toArray⟩) ∧ Below w.heap.size w w' := Any.strings_ReplaceAll Tryz.lays155 Tryz.Builder_Extra_155 s old new m w hs hm h1 hlen
def Tryz.lays110_ren : Go.Shelf.Ren := ⟨fun | 110 => 67 | 109 => 98 | n => n, fun | 31 => 42 | 9 => 9 | 4 => 4 | 3 => 3 | 0 => 0 | n => n, fun | n => n⟩
theorem Tryz.lays110 : Go.Proofs.Lays.n110 Tryz.prog Tryz.lays110_ren := {
  mixed := by kernel_rfl
  f109 := Tryz.func98.trans (congrArg some (by kernel_rfl))
  f110 := Tryz.func67.trans (congrArg some (by kernel_rfl))
  t0 := Tryz.underlying0
  a0 := Tryz.isAgg0
  z0 := Tryz.sizeOf0
  v0 := Tryz.zeroValue0
  t3 := Tryz.underlying3
  a3 := Tryz.isAgg3
  z3 := Tryz.sizeOf3
  v3 := Tryz.zeroValue3
  t4 := Tryz.underlying4
  a4 := Tryz.isAgg4
  z4 := Tryz.sizeOf4
  v4 := Tryz.zeroValue4
  t9 := Tryz.underlying9
  a9 := Tryz.isAgg9
  z9 := Tryz.sizeOf9
  v9 := Tryz.zeroValue9
  t31 := Tryz.underlying42
  a31 := Tryz.isAgg42
  z31 := Tryz.sizeOf42
  v31 := Tryz.zeroValue42 }
open Go.Lib in
theorem Tryz.slices_Contains_string (b off n c : Nat) (zs : List ByteArray) (x : ByteArray) (w : World) (hz : n ≤ zs.length) (hbig : n ≤ 9223372036854775807) (hc : ∀ j, j < zs.length → w.cell? ⟨b, off + j, none⟩ = some (.string (zs.getD j ByteArray.empty))) :
    Calls Tryz.prog 67 #[.slice (some ⟨b, off, none⟩) n c, .string x] w fun e w' => e = .returned (.bool (Lib.containsS (zs.take n) x)) ∧ w' = w := Any.slices_Contains_string Tryz.lays110 b off n c zs x w hz hbig hc
end Go.Proofs

namespace Go.Proofs.YtcnohgifihbkdaaGreatDoor.Lx
open Go.RowKit Go.Deep
set_option linter.unusedVariables false
set_option linter.unusedSimpArgs false

def sg2L : List Bs := [[61, 61], [33, 61], [60, 61], [62, 61], [43, 37], [45, 37], [42, 37], [45, 62]]
theorem pre2 (x y : UInt8) (l : Bs) : List.isPrefixOf [x, y] l = true ↔ ∃ t, l = x :: y :: t := by
  match l with
  | [] => simp [List.isPrefixOf]
  | [a] => simp [List.isPrefixOf]
  | a :: b :: t => simp [List.isPrefixOf]; constructor <;> rintro ⟨rfl, rfl⟩ <;> simp
theorem sg2_iff (a b : UInt8) : sg2 a b = true ↔ [a, b] ∈ sg2L := by
  simp only [sg2, sg2L, Bool.or_eq_true, Bool.and_eq_true, beq_iff_eq, List.mem_cons, List.cons.injEq, List.mem_nil_iff, or_false, and_true]
  constructor
  · rintro ((⟨rfl, ((rfl | rfl) | rfl) | rfl⟩ | ⟨rfl, (rfl | rfl) | rfl⟩) | ⟨rfl, rfl⟩) <;> simp
  · rintro (⟨rfl, rfl⟩ | ⟨rfl, rfl⟩ | ⟨rfl, rfl⟩ | ⟨rfl, rfl⟩ | ⟨rfl, rfl⟩ | ⟨rfl, rfl⟩ | ⟨rfl, rfl⟩ | ⟨rfl, rfl⟩) <;> simp
theorem two_of (p : Bs) (h : p ∈ sg2L) : ∃ x y, p = [x, y] := by
  simp only [sg2L, List.mem_cons, List.mem_nil_iff, or_false] at h
  rcases h with rfl | rfl | rfl | rfl | rfl | rfl | rfl | rfl <;> exact ⟨_, _, rfl⟩
theorem sign_hit (p l : Bs) (h : p ∈ sg2L) (hp : p.isPrefixOf l = true) : signF l = 2 := by
  obtain ⟨x, y, rfl⟩ := two_of p h
  obtain ⟨t, rfl⟩ := (pre2 x y l).1 hp
  simp [signF, (sg2_iff x y).2 h]
theorem sign_miss (a : UInt8) (t : Bs) (h : ∀ p ∈ sg2L, p.isPrefixOf (a :: t) = false) : signF (a :: t) = if sg1 a then 1 else 0 := by
  cases t with
  | nil => rfl
  | cons b t =>
    have : ¬ sg2 a b = true := fun e => by
      have := h _ ((sg2_iff a b).1 e)
      simp [List.isPrefixOf] at this
    simp [signF, this]
theorem idx_contains (c : UInt8) : ∀ l : Bs, (0 ≤ Lib.indexByte l c) ↔ l.contains c = true
  | [] => by simp [Lib.indexByte]
  | b :: l => by
    have ih := idx_contains c l
    have hge := Lib.indexByte_ge l c
    simp only [Lib.indexByte]
    by_cases h : b = c
    · subst h; simp
    · have h' : ¬ c = b := fun e => h e.symm
      have h1 : (b == c) = false := by simpa using h
      have h2 : (c == b) = false := by simpa using h'
      simp only [h1, h2, Bool.false_eq_true, if_false, List.contains_cons, beq_iff_eq, Bool.false_or]
      rw [← ih]
      split <;> omega

theorem get_of_list (s : ByteArray) (i : Nat) (h : i < s.size) (c : UInt8) (e : s.data.toList[i]? = some c) : s[i]'h = c := by
  have : s[i]'h = s.data[i]'h := rfl
  rw [this]
  have h2 : i < s.data.toList.length := by rw [← Lib.size_eq]; exact h
  rw [List.getElem?_eq_getElem h2] at e
  simpa using e
theorem cellOf {w : World} {b : Nat} {c : Array Value} {e : TypeId} {f : Nat × Nat} (h : w.heap[b]? = some (.cells c e f)) (i : Nat) : w.cell? ⟨b, i, none⟩ = c[i]? := by
  simp [World.cell?, h]
set_option maxRecDepth 100000 in
theorem signSize_any (s : ByteArray) (a : UInt8) (t : Bs) (hl : s.data.toList = a :: t) (w : World) : Calls Tryz.prog 71 #[.string s] w fun e w' => e = .returned (.int .i64 (signF (a :: t) : Nat)) ∧ Below w.heap.size w w' := by
  have hsz : 1 ≤ s.size := by rw [Lib.size_eq, hl]; simp
  have hz : (0 : Int) < (s.size : Int) := by omega
  have HP := hid (fun p W => Tryz.strings_HasPrefix s p W)
  have HI := hid (fun c W => Tryz.strings_IndexByte ⟨#[123, 125, 40, 41, 91, 93, 44, 59, 58, 46, 61, 60, 62, 43, 45, 42, 47, 37, 38]⟩ c W)
  have hbw : Below w.heap.size w (w.alloc (.cells #[.string ⟨#[61, 61]⟩, .string ⟨#[33, 61]⟩, .string ⟨#[60, 61]⟩, .string ⟨#[62, 61]⟩, .string ⟨#[43, 37]⟩, .string ⟨#[45, 37]⟩, .string ⟨#[42, 37]⟩, .string ⟨#[45, 62]⟩] 9)) := (Below.refl _ w).alloc (Nat.le_refl _) _
  have hcell : ∀ (i : Nat) (p : Bs), sg2L[i]? = some p → (w.alloc (.cells #[.string ⟨#[61, 61]⟩, .string ⟨#[33, 61]⟩, .string ⟨#[60, 61]⟩, .string ⟨#[62, 61]⟩, .string ⟨#[43, 37]⟩, .string ⟨#[45, 37]⟩, .string ⟨#[42, 37]⟩, .string ⟨#[45, 62]⟩] 9)).cell? ⟨w.heap.size, i, none⟩ = some (.string ⟨p.toArray⟩) := by
    intro i p hp
    rw [cellOf (heap_alloc_new w _) i]
    match i, hp with
    | 0, hp => cases hp; rfl
    | 1, hp => cases hp; rfl
    | 2, hp => cases hp; rfl
    | 3, hp => cases hp; rfl
    | 4, hp => cases hp; rfl
    | 5, hp => cases hp; rfl
    | 6, hp => cases hp; rfl
    | 7, hp => cases hp; rfl
    | n + 8, hp => simp [sg2L] at hp
  have HB := hid hbw
  have HC := hid hcell
  have HL := hid hl
  clear hbw hcell hl
  go_enter Tryz.func71, Tryz.ntmps71
  go_wp2
  generalize (w.alloc (.cells #[.string ⟨#[61, 61]⟩, .string ⟨#[33, 61]⟩, .string ⟨#[60, 61]⟩, .string ⟨#[62, 61]⟩, .string ⟨#[43, 37]⟩, .string ⟨#[45, 37]⟩, .string ⟨#[42, 37]⟩, .string ⟨#[45, 62]⟩] 9)) = W at *
  go_loopg [7] 8 (fun g ii wr => ∃ i : Nat, i + g = 8 ∧ ii = .int .i64 (i : Int) ∧ wr = W ∧ ∀ (j : Nat) (p : Bs), j < i → sg2L[j]? = some p → p.isPrefixOf (a :: t) = false)
  case atStart => exact ⟨0, by omega, rfl, rfl, fun j p hj => by omega⟩
  case round =>
    obtain ⟨i, hi, rfl, rfl, hno⟩ := hrel
    have HN := hid hno
    clear hno
    cases gk with
    | zero =>
      have hi8 : i = 8 := by omega
      subst hi8
      clear hi
      have hs0 : s[0]'hsz = a := get_of_list s 0 hsz a (by rw [HL.out]; rfl)
      have hm : ∀ p ∈ sg2L, p.isPrefixOf (a :: t) = false := fun p hp => by
        obtain ⟨j, hj⟩ := List.getElem?_of_mem hp
        exact HN.out j p (by have := (List.getElem?_eq_some_iff.1 hj).1; exact this) hj
      have hsg := sign_miss a t hm
      have hic := idx_contains a sg1s
      have HS := hid hsg
      have HIC := hid hic
      clear hsg hic hm
      go_wp2_with (go_at_call 100; refine (HI.out _ _).mono ?_; rintro e w2 ⟨rfl, rfl⟩)
      · rename_i hcx
        go_ret
        refine ⟨?_, HB.out⟩
        rw [HS.out, show sg1 a = true from HIC.out.1 hcx]; rfl
      · rename_i hcx
        go_ret
        refine ⟨?_, HB.out⟩
        rw [HS.out, if_neg (fun e : sg1 a = true => absurd hcx (Int.not_lt.2 (HIC.out.2 e)))]; rfl
    | succ g =>
      have hlt : i < 8 := by omega
      have hlt' : (i : Int) < 8 := by omega
      obtain ⟨p, hp⟩ : ∃ p, sg2L[i]? = some p := ⟨sg2L[i]'hlt, List.getElem?_eq_getElem hlt⟩
      have hc := HC.out i p hp
      have hx := HP.out ⟨p.toArray⟩ wr
      have hpm := hid (List.mem_of_getElem? hp)
      have Hp := hid hp
      have Hi := hid hi
      have e : Lib.hasPrefix s.data.toList (ByteArray.mk p.toArray).data.toList = p.isPrefixOf (a :: t) := by rw [HL.out]; simp [Lib.hasPrefix]
      rw [e] at hx
      clear e hp hi
      cases hpx : p.isPrefixOf (a :: t) <;> rw [hpx] at hx
      · have Hpx := hid hpx
        clear hpx
        go_wp2_with (go_at_call 99; refine hx.mono ?_; rintro e w2 ⟨rfl, rfl⟩)
        go_roundg g
        case measure => omega
        case rel => exact ⟨i + 1, by have := Hi.out; omega, by go_num, rfl, fun j q hj hq => by
          rcases Nat.lt_or_ge j i with h1 | h1
          · exact HN.out j q h1 hq
          · obtain rfl : j = i := by omega
            rw [Hp.out] at hq; cases hq; exact Hpx.out⟩
      · have Hpx := hid hpx
        have hp2 : p.length = 2 := by obtain ⟨x, y, rfl⟩ := two_of p hpm.out; rfl
        clear hpx
        go_wp2_with (go_at_call 99; refine hx.mono ?_; rintro e w2 ⟨rfl, rfl⟩)
        go_ret
        refine ⟨?_, HB.out⟩
        rw [sign_hit p (a :: t) hpm.out Hpx.out]
        simp [hp2]
end Go.Proofs.YtcnohgifihbkdaaGreatDoor.Lx

namespace Go.Proofs.YtcnohgifihbkdaaGreatDoor.Lx
open Go.RowKit Go.Deep
set_option linter.unusedVariables false
set_option linter.unusedSimpArgs false

theorem ltI_nat (c : UInt8) : ltI (c.toNat : Int) = isLt c := by
  unfold ltI isLt
  rw [Bool.eq_iff_iff]; simp; omega
theorem dgI_nat (c : UInt8) : dgI (c.toNat : Int) = isDg c := by
  unfold dgI isDg
  rw [Bool.eq_iff_iff]; simp; omega
theorem ptI_nat (c : UInt8) : ptI (c.toNat : Int) = isPt c := by unfold ptI isPt; rw [ltI_nat, dgI_nat]
/- r is the rune that begins with c. -/
def RunC (c : UInt8) (r : Int) : Prop := (c.toNat < 128 → r = c.toNat) ∧ (128 ≤ c.toNat → 128 ≤ r)
theorem ltI_run {c : UInt8} {r : Int} (h : RunC c r) : ltI r = isLt c := by
  by_cases hc : c.toNat < 128
  · rw [h.1 hc, ltI_nat]
  · have := h.2 (by omega)
    unfold ltI isLt
    rw [Bool.eq_iff_iff]; simp; omega
theorem dgI_run {c : UInt8} {r : Int} (h : RunC c r) : dgI r = isDg c := by
  by_cases hc : c.toNat < 128
  · rw [h.1 hc, dgI_nat]
  · have := h.2 (by omega)
    unfold dgI isDg
    rw [Bool.eq_iff_iff]; simp; omega
theorem eq_run {c : UInt8} {r : Int} (h : RunC c r) (k : UInt8) (hk : k.toNat < 128) : r = (k.toNat : Int) ↔ c = k := by
  by_cases hc : c.toNat < 128
  · rw [h.1 hc, ← UInt8.toNat_inj]; omega
  · have := h.2 (by omega)
    rw [← UInt8.toNat_inj]; omega
theorem hi_lt (a : Int) (h : 128 ≤ a) : ltI a = false := by unfold ltI; simp; omega
theorem hi_dg (a : Int) (h : 128 ≤ a) : dgI a = false := by unfold dgI; simp; omega
theorem enters35 : ∀ args w, (callFunc 66 args).run Tryz.prog w = .ok (.enter 66 args) w := enters_of Tryz.func66 (by kernel_rfl) rfl
theorem enters37 : ∀ args w, (callFunc 69 args).run Tryz.prog w = .ok (.enter 69 args) w := enters_of Tryz.func69 (by kernel_rfl) rfl
theorem run_part (s : ByteArray) (hs : s.size ≤ 9223372036854775807) (w : World) : Calls Tryz.prog 63 #[.string s, .func (.func 66) #[] #[]] w fun e w' => e = .returned (.int .i64 (runF isPt s.data.toList : Nat)) ∧ Below w.heap.size w w' := by
  have h := run_any s 66 #[] ptI hs (fun a b ha hb => by unfold ptI; rw [hi_lt a ha, hi_lt b hb, hi_dg a ha, hi_dg b hb]) enters35 (fun r w => isPart_any r w) w
  rw [show (fun c : UInt8 => ptI c.toNat) = isPt from funext ptI_nat] at h
  exact h
theorem run_digit (s : ByteArray) (hs : s.size ≤ 9223372036854775807) (w : World) : Calls Tryz.prog 63 #[.string s, .func (.func 69) #[] #[]] w fun e w' => e = .returned (.int .i64 (runF isDg s.data.toList : Nat)) ∧ Below w.heap.size w w' := by
  have h := run_any s 69 #[] dgI hs (fun a b ha hb => by rw [hi_dg a ha, hi_dg b hb]) enters37 (fun r w => isDigit_any r w) w
  rw [show (fun c : UInt8 => dgI c.toNat) = isDg from funext dgI_nat] at h
  exact h
theorem words_mem (x : ByteArray) : Lib.containsS (wordsS.take 29) x = isWd x.data.toList := by
  unfold isWd
  rw [Bool.eq_iff_iff, Lib.containsS_iff, show wordsS.take 29 = wordsS from rfl, List.contains_iff_mem]
  unfold wordsS
  rw [List.mem_map]
  constructor
  · rintro ⟨l, hl, rfl⟩; simpa using hl
  · intro h; exact ⟨_, h, by cases x; simp⟩
theorem words_cells (w : World) (b : Nat) (hb : w.heap[b]? = some (.cells wordsV 9 (0, 0))) : ∀ j, j < wordsS.length → w.cell? ⟨b, 0 + j, none⟩ = some (.string (wordsS.getD j ByteArray.empty)) := by
  intro j hj
  rw [Nat.zero_add, cellOf hb j]
  simp only [wordsV, List.getElem?_toArray, List.getElem?_map, List.getD_eq_getElem?_getD, List.getElem?_eq_getElem hj]
  rfl
theorem contains_words (w : World) (b : Nat) (hb : w.heap[b]? = some (.cells wordsV 9 (0, 0))) (x : ByteArray) : Calls Tryz.prog 67 #[.slice (some ⟨b, 0, none⟩) 29 29, .string x] w fun e w' => e = .returned (.bool (isWd x.data.toList)) ∧ w' = w := by
  have h := Tryz.slices_Contains_string b 0 29 29 wordsS x w (by decide) (by decide) (words_cells w b hb)
  rw [words_mem] at h
  exact h
def frV (x : Nat × Nat × Nat) : Value := .tuple #[.int .i64 x.1, .int .i64 x.2.1, .int .i64 x.2.2]

set_option maxRecDepth 100000 in
theorem first_letter (s : ByteArray) (c : UInt8) (t : Bs) (r : Int) (hs : s.size ≤ 4096) (hl : s.data.toList = c :: t) (hr : RunC c r) (hc : isLt c = true) (w : World) :
    Calls Tryz.prog 39 #[.string s, .int .i32 r] w fun e w' => e = .returned (frV (firstF (c :: t))) ∧ Below w.heap.size w w' := by
  have c1 := isLetter_any r w
  rw [ltI_run hr, hc] at c1
  have c2 := run_part s (by omega) w
  rw [hl] at c2
  have hle : runF isPt (c :: t) ≤ s.size := by rw [Lib.size_eq, hl]; exact runF_le _ _
  have hf : firstF (c :: t) = (if isWd ((c :: t).take (runF isPt (c :: t))) then 2 else 1, runF isPt (c :: t), 0) := by simp only [firstF, hc, if_true]
  obtain ⟨n, hn⟩ : ∃ n, runF isPt (c :: t) = n := ⟨_, rfl⟩
  rw [hn] at c2 hle hf
  have HW := hid contains_words
  have hle' : (n : Int) ≤ (s.size : Int) := by omega
  have HF := hid hf
  have HL := hid hl
  clear hf hl hn
  go_enter Tryz.func39, Tryz.ntmps39
  go_wp2_with (first | (go_at_call 65; refine c1.mono ?_; rintro e w ⟨rfl, rfl⟩) | (go_at_call 63; refine c2.mono ?_; rintro e w2 ⟨rfl, hb⟩))
  go_region_held3 (fun _ => True) (first | trivial | go_keep) ((first
    | (go_at_call 68; (refine (words_any _).mono ?_; rintro e w3 ⟨rfl, rfl⟩))
    | (go_at_call 67; (refine (HW.out _ _ (by exact heap_alloc_new w2 _) _).mono ?_; rintro e w4 ⟨rfl, rfl⟩))))
  cases hwd : isWd (List.take n s.data.toList)
  all_goals
    go_wp2
    refine bodyPost_ret (v := frV (firstF (c :: t))) (by rw [HF.out, ← HL.out]; simp [results, Tryz.results39, go_sem, frV, hwd]) rfl ⟨rfl, (hb.alloc (by exact hb.size) _).drew⟩
end Go.Proofs.YtcnohgifihbkdaaGreatDoor.Lx

namespace Go.Proofs.YtcnohgifihbkdaaGreatDoor.Lx
open Go.RowKit Go.Deep
set_option linter.unusedVariables false
set_option linter.unusedSimpArgs false

set_option maxRecDepth 100000 in
theorem first_digit (s : ByteArray) (c : UInt8) (t : Bs) (r : Int) (hs : s.size ≤ 4096) (hl : s.data.toList = c :: t) (hr : RunC c r) (hc : isLt c = false) (hd : isDg c = true) (w : World) :
    Calls Tryz.prog 39 #[.string s, .int .i32 r] w fun e w' => e = .returned (frV (firstF (c :: t))) ∧ Below w.heap.size w w' := by
  have c1 := isLetter_any r w
  rw [ltI_run hr, hc] at c1
  have c3 := isDigit_any r w
  rw [dgI_run hr, hd] at c3
  have c2 := run_digit s (by omega) w
  rw [hl] at c2
  have hf : firstF (c :: t) = (3, runF isDg (c :: t), 0) := by simp only [firstF, hc, hd, if_true, Bool.false_eq_true, if_false]
  obtain ⟨n, hn⟩ : ∃ n, runF isDg (c :: t) = n := ⟨_, rfl⟩
  rw [hn] at c2 hf
  have HF := hid hf
  clear hf hl hn
  go_enter Tryz.func39, Tryz.ntmps39
  go_wp2_with (first | (go_at_call 65; refine c1.mono ?_; rintro e w ⟨rfl, rfl⟩) | (go_at_call 69; refine c3.mono ?_; rintro e w ⟨rfl, rfl⟩) | (go_at_call 63; refine c2.mono ?_; rintro e w2 ⟨rfl, hb⟩))
  refine bodyPost_ret (v := frV (firstF (c :: t))) (by rw [HF.out]; simp [results, Tryz.results39, go_sem, frV]) rfl ⟨rfl, hb⟩
set_option maxRecDepth 100000 in
theorem first_text (s : ByteArray) (c : UInt8) (t : Bs) (r : Int) (hs : s.size ≤ 4096) (hl : s.data.toList = c :: t) (hr : RunC c r) (hc : isLt c = false) (hd : isDg c = false) (hq : c = 34) (w : World) :
    Calls Tryz.prog 39 #[.string s, .int .i32 r] w fun e w' => e = .returned (frV (firstF (c :: t))) ∧ Below w.heap.size w w' := by
  have c1 := isLetter_any r w
  rw [ltI_run hr, hc] at c1
  have c3 := isDigit_any r w
  rw [dgI_run hr, hd] at c3
  have hr34 : r = 34 := by have := (eq_run hr 34 (by decide)).2 hq; simpa using this
  have c2 := textSize_any s (by omega) (by rw [Lib.size_eq, hl]; simp) w
  rw [hl, List.drop_succ_cons, List.drop_zero] at c2
  unfold tsz at c2
  have hf : firstF (c :: t) = (match textF false t with | some n => (4, n + 1, 0) | none => (0, 0, 52)) := by unfold firstF; simp only; rw [if_neg (by simp [hc]), if_neg (by simp [hd]), if_pos hq]; cases textF false t <;> rfl
  subst hr34
  cases htx : textF false t with
  | none =>
    rw [htx] at c2 hf
    simp only at c2 hf
    have HF := hid hf
    clear hf hl htx
    go_enter Tryz.func39, Tryz.ntmps39
    go_wp2_with (first | (go_at_call 65; refine c1.mono ?_; rintro e w ⟨rfl, rfl⟩) | (go_at_call 69; refine c3.mono ?_; rintro e w ⟨rfl, rfl⟩) | (go_at_call 70; refine c2.mono ?_; rintro e w2 ⟨rfl, hb⟩))
    refine bodyPost_ret (v := frV (firstF (c :: t))) (by rw [HF.out]; simp [results, Tryz.results39, go_sem, frV]) rfl ⟨rfl, hb⟩
  | some n =>
    rw [htx] at c2 hf
    simp only at c2 hf
    have HF := hid hf
    clear hf hl htx
    go_enter Tryz.func39, Tryz.ntmps39
    go_wp2_with (first | (go_at_call 65; refine c1.mono ?_; rintro e w ⟨rfl, rfl⟩) | (go_at_call 69; refine c3.mono ?_; rintro e w ⟨rfl, rfl⟩) | (go_at_call 70; refine c2.mono ?_; rintro e w2 ⟨rfl, hb⟩))
    refine bodyPost_ret (v := frV (firstF (c :: t))) (by rw [HF.out]; simp [results, Tryz.results39, go_sem, frV]) rfl ⟨rfl, hb⟩
set_option maxRecDepth 100000 in
theorem first_sign (s : ByteArray) (c : UInt8) (t : Bs) (r : Int) (hs : s.size ≤ 4096) (hl : s.data.toList = c :: t) (hr : RunC c r) (hc : isLt c = false) (hd : isDg c = false) (hq : ¬ c = 34) (w : World) :
    Calls Tryz.prog 39 #[.string s, .int .i32 r] w fun e w' => e = .returned (frV (firstF (c :: t))) ∧ Below w.heap.size w w' := by
  have c1 := isLetter_any r w
  rw [ltI_run hr, hc] at c1
  have c3 := isDigit_any r w
  rw [dgI_run hr, hd] at c3
  have hr34 : ¬ r = 34 := fun e => hq ((eq_run hr 34 (by decide)).1 (by simpa using e))
  have c2 := signSize_any s c t hl w
  have hf : firstF (c :: t) = (if signF (c :: t) = 0 then (0, 0, 51) else (5, signF (c :: t), 0)) := by simp only [firstF, hc, hd, hq, if_true, Bool.false_eq_true, if_false]
  obtain ⟨n, hn⟩ : ∃ n, signF (c :: t) = n := ⟨_, rfl⟩
  rw [hn] at c2 hf
  by_cases hz : n = 0
  · rw [if_pos hz] at hf
    subst hz
    have HF := hid hf
    clear hf hl hn
    go_enter Tryz.func39, Tryz.ntmps39
    go_wp2_with (first | (go_at_call 65; refine c1.mono ?_; rintro e w ⟨rfl, rfl⟩) | (go_at_call 69; refine c3.mono ?_; rintro e w ⟨rfl, rfl⟩) | (go_at_call 71; refine c2.mono ?_; rintro e w2 ⟨rfl, hb⟩))
    refine bodyPost_ret (v := frV (firstF (c :: t))) (by rw [HF.out]; simp [results, Tryz.results39, go_sem, frV]) rfl ⟨rfl, hb⟩
  · rw [if_neg hz] at hf
    have hz' : ¬ (n : Int) = 0 := by omega
    have HF := hid hf
    clear hf hl hn hz
    go_enter Tryz.func39, Tryz.ntmps39
    go_wp2_with (first | (go_at_call 65; refine c1.mono ?_; rintro e w ⟨rfl, rfl⟩) | (go_at_call 69; refine c3.mono ?_; rintro e w ⟨rfl, rfl⟩) | (go_at_call 71; refine c2.mono ?_; rintro e w2 ⟨rfl, hb⟩))
    refine bodyPost_ret (v := frV (firstF (c :: t))) (by rw [HF.out]; simp [results, Tryz.results39, go_sem, frV]) rfl ⟨rfl, hb⟩
theorem first_any (s : ByteArray) (c : UInt8) (t : Bs) (r : Int) (hs : s.size ≤ 4096) (hl : s.data.toList = c :: t) (hr : RunC c r) (w : World) :
    Calls Tryz.prog 39 #[.string s, .int .i32 r] w fun e w' => e = .returned (frV (firstF (c :: t))) ∧ Below w.heap.size w w' := by
  cases hc : isLt c
  · cases hd : isDg c
    · by_cases hq : c = 34
      · exact first_text s c t r hs hl hr hc hd hq w
      · exact first_sign s c t r hs hl hr hc hd hq w
    · exact first_digit s c t r hs hl hr hc hd w
  · exact first_letter s c t r hs hl hr hc w
end Go.Proofs.YtcnohgifihbkdaaGreatDoor.Lx

namespace Go.Proofs.YtcnohgifihbkdaaGreatDoor.Lx
set_option maxRecDepth 100000
set_option linter.unusedVariables false
set_option linter.unusedSimpArgs false

def repF (sub new : Bs) (l : Bs) : Bs := Lib.replaceK sub new (Lib.count l sub) l
theorem repF_nil (sub new : Bs) (hs : sub ≠ []) : repF sub new [] = [] := by
  have : Lib.index [] sub = -1 := by
    cases sub with
    | nil => exact absurd rfl hs
    | cons a b => rfl
  unfold repF
  rw [Lib.count_miss this]; rfl
theorem repF_hit (sub new : Bs) (hs : sub ≠ []) (l : Bs) (hp : sub.isPrefixOf l = true) : repF sub new l = new ++ repF sub new (l.drop sub.length) := by
  have hi : Lib.index l sub = (0 : Nat) := by
    cases l with
    | nil => cases sub with
      | nil => exact absurd rfl hs
      | cons a b => simp [List.isPrefixOf] at hp
    | cons c t => simp [Lib.index, hp]
  unfold repF
  rw [Lib.count_hit hs hi, Nat.add_comm, Lib.replaceK_hit _ _ _ _ 0 hi]
  simp
theorem repF_miss (sub new : Bs) (hs : sub ≠ []) (c : UInt8) (t : Bs) (hp : sub.isPrefixOf (c :: t) = false) : repF sub new (c :: t) = c :: repF sub new t := by
  have hx : Lib.index (c :: t) sub = if Lib.index t sub = -1 then -1 else Lib.index t sub + 1 := by simp [Lib.index, hp]
  unfold repF
  by_cases hi : Lib.index t sub = -1
  · rw [Lib.count_miss hi, Lib.count_miss (by rw [hx, if_pos hi])]; rfl
  · have hge := Lib.index_ge t sub
    obtain ⟨i, e⟩ : ∃ i : Nat, Lib.index t sub = i := ⟨(Lib.index t sub).toNat, by omega⟩
    have e2 : Lib.index (c :: t) sub = ((i + 1 : Nat) : Int) := by rw [hx, if_neg hi, e]; rfl
    rw [Lib.count_hit hs e, Lib.count_hit hs e2, show i + 1 + sub.length = (i + sub.length) + 1 from by omega, List.drop_succ_cons, Nat.add_comm 1, Lib.replaceK_hit _ _ _ _ i e, Lib.replaceK_hit _ _ _ _ (i + 1) e2]
    rw [show i + 1 + sub.length = (i + sub.length) + 1 from by omega, List.drop_succ_cons]
    simp
theorem repF_unq : ∀ (n : Nat) (l : Bs), l.length ≤ n → repF [34, 34] [34] l = unq l
  | _, [], _ => repF_nil _ _ (by simp)
  | _, [c], _ => by
    rw [repF_miss _ _ (by simp) _ _ (by simp [List.isPrefixOf]), repF_nil _ _ (by simp)]; rfl
  | 0, c :: d :: t, h => by simp at h
  | n + 1, c :: d :: t, h => by
    simp only [List.length_cons] at h
    unfold unq
    by_cases hc : c = 34 ∧ d = 34
    · rw [if_pos hc]
      obtain ⟨rfl, rfl⟩ := hc
      rw [repF_hit _ _ (by simp) _ (by simp [List.isPrefixOf])]
      simp [repF_unq n t (by omega)]
    · rw [if_neg hc]
      have hp : List.isPrefixOf [34, 34] (c :: d :: t) = false := by
        simp only [List.isPrefixOf, Bool.and_eq_false_iff, beq_eq_false_iff_ne]
        by_cases h1 : c = 34
        · exact .inr (.inl fun e => hc ⟨h1, e.symm⟩)
        · exact .inl fun e => h1 e.symm
      rw [repF_miss _ _ (by simp) _ _ hp, repF_unq n (d :: t) (by simp; omega)]
theorem replace_eq (l sub new : Bs) (h : sub ≠ new) : Lib.replaceAll l sub new = repF sub new l := by
  unfold Lib.replaceAll Lib.replace Lib.replaceNum repF
  rw [if_neg (by simpa using h), if_pos (.inl (by omega))]
theorem replace_unq (l : Bs) : Lib.replaceAll l [34, 34] [34] = unq l := by rw [replace_eq _ _ _ (by decide), repF_unq _ l (Nat.le_refl _)]
end Go.Proofs.YtcnohgifihbkdaaGreatDoor.Lx

namespace Go.Proofs.YtcnohgifihbkdaaGreatDoor.Lx
set_option maxRecDepth 100000
open Go.RowKit Go.Deep
set_option linter.unusedVariables false
set_option linter.unusedSimpArgs false

def ofB (l : Bs) : ByteArray := ⟨l.toArray⟩
theorem list_ofB (s : ByteArray) : ofB s.data.toList = s := by cases s; simp [ofB]
def tokV (t : LTok) : Value := .agg #[.int .i64 t.kind, .string (ofB t.text), .int .i64 t.pos]
def MX (w : World) : Prop := ∃ m : Int, w.cell? ⟨0, 0, none⟩ = some (.int .i64 m)
theorem MX.lt {w : World} (h : MX w) : 0 < w.heap.size := by
  obtain ⟨m, h⟩ := h
  exact World.block_lt_of_cell? w _ h
theorem MX.below {w w' : World} {B : Nat} (h : MX w) (hB : 0 < B) (k : Below B w w') : MX w' := by
  obtain ⟨m, h⟩ := h
  exact ⟨m, by rw [World.cell?_of_block (w := w) (k.block 0 hB)]; exact h⟩
theorem clone_any (s : ByteArray) (w : World) (hlim : s.size ≤ 281474976710656) : Calls Tryz.prog 74 #[.string s] w fun e w' => e = .returned (.string s) ∧ Below w.heap.size w w' := by
  go_enter Tryz.func74, Tryz.ntmps74
  go_wp2_with (go_at_call 106; refine (Tryz.stringslite_Clone s _ hlim).mono ?_; rintro e w2 ⟨rfl, hb⟩)
  go_ret
  exact ⟨rfl, hb⟩
theorem freeOf {w : World} {b : Nat} {c : Array Value} {e : TypeId} (h : w.heap[b]? = some (.cells c e (0, 0))) (i : Nat) : w.frozen? ⟨b, i, none⟩ = false := by
  simp [World.frozen?, h]
theorem heap_set_at {w : World} {b : Nat} {c : Array Value} {e : TypeId} {f : Nat × Nat} (h : w.heap[b]? = some (.cells c e f)) (i : Nat) (u : Value) :
    (w.setCell ⟨b, i, none⟩ u).heap[b]? = some (.cells (c.setIfInBounds i u) e f) := by
  simp [World.setCell, Array.getElem?_modify, h]
def three (w : World) (b o : Nat) (x y z : Value) : World := ((w.setCell ⟨b, o, none⟩ x).setCell ⟨b, o + 1, none⟩ y).setCell ⟨b, o + 2, none⟩ z
theorem three_heap {w : World} {b : Nat} {p q r : Value} {e : TypeId} (h : w.heap[b]? = some (.cells #[p, q, r] e (0, 0))) (x y z : Value) : (three w b 0 x y z).heap[b]? = some (.cells #[x, y, z] e (0, 0)) := by
  unfold three
  exact heap_set_at (heap_set_at (heap_set_at h 0 x) 1 y) 2 z
theorem three_below {B : Nat} {w0 w : World} (hb : Below B w0 w) {b o : Nat} (hB : B ≤ b) (x y z : Value) : Below B w0 (three w b o x y z) := by
  unfold three
  exact ((hb.setCell hB _).setCell hB _).setCell hB _
theorem tokV_plain (k : Nat) (p : Bs) (at' : Nat) (h3 : ¬ k = 3) (h4 : ¬ k = 4) : tokText k p = p := by simp [tokText, h3, h4]

set_option maxRecDepth 100000 in
theorem token_plain (k : Nat) (s : ByteArray) (at' : Nat) (hk : k ≤ 5) (hs : s.size ≤ 4096) (h3 : ¬ k = 3) (h4 : ¬ k = 4) (w : World) :
    Calls Tryz.prog 40 #[.int .i64 (k : Int), .string s, .int .i64 (at' : Int)] w fun e w' => e = .returned (tokV ⟨k, tokText k s.data.toList, at'⟩) ∧ Below w.heap.size w w' := by
  have h3' : ¬ (k : Int) = 3 := by omega
  have h4' : ¬ (k : Int) = 4 := by omega
  have HT := hid (tokV_plain k s.data.toList at' h3 h4)
  clear h3 h4
  go_enter Tryz.func40, Tryz.ntmps40
  go_wp2_with (go_at_call 74; refine (clone_any s _ (by omega)).mono ?_; rintro e w2 ⟨rfl, hb⟩; have f := (hb.block w.heap.size (by simp)).trans (heap_alloc_new w _); have g0 := cellOf f 0; have g1 := cellOf f 1; have g2 := cellOf f 2; have F0 := freeOf f 0; have F1 := freeOf f 1; have F2 := freeOf f 2; have HF := hid f; clear f)
  have h3 := three_heap HF.out (.int .i64 k) (.string s) (.int .i64 at')
  have hbb : Below w.heap.size w (three w2 w.heap.size 0 (.int .i64 k) (.string s) (.int .i64 at')) := three_below (((Below.refl _ w).alloc (Nat.le_refl _) _).trans (hb.mono (by simp))) (Nat.le_refl _) _ _ _
  have z0 := cellOf h3 0
  have z1 := cellOf h3 1
  have z2 := cellOf h3 2
  clear h3
  simp only [three, Nat.zero_add] at z0 z1 z2 hbb
  refine bodyPost_ret (v := tokV ⟨k, tokText k s.data.toList, at'⟩) (by rw [HT.out]; simp [results, Tryz.results40, go_sem, z0, z1, z2, tokV, list_ofB]) rfl ⟨rfl, hbb⟩

theorem trim_any (x : ByteArray) (w : World) : Calls Tryz.prog 72 #[.string x, .string ⟨#[48]⟩] w fun e w' => ∃ q : ByteArray, e = .returned (.string q) ∧ q.data.toList = x.data.toList.dropWhile (· == 48) ∧ w' = w := by
  refine (Tryz.strings_TrimLeft_one x 48 (by decide) w).mono ?_
  rintro e w' ⟨rfl, rfl⟩
  exact ⟨_, rfl, rfl, rfl⟩
theorem cat_any (a b : ByteArray) (h : a.size + b.size ≤ 140737488355328) : ∃ q : ByteArray, (∀ w : World, (Op.stringOp .add a b).run Tryz.prog w = .ok (.string q) w) ∧ q.data.toList = a.data.toList ++ b.data.toList ∧ q.size = a.size + b.size :=
  ⟨a ++ b, fun w => run_string_add_sum w _ _ (by omega), by simp, ByteArray.size_append⟩
theorem dropWhile_le (p : UInt8 → Bool) : ∀ l : Bs, (l.dropWhile p).length ≤ l.length
  | [] => Nat.le_refl _
  | c :: t => by
    have := dropWhile_le p t
    simp only [List.dropWhile]
    split <;> simp <;> omega
theorem ext_size (s : ByteArray) (a b : Nat) (hb : b ≤ s.size) : (s.extract a b).size = b - a := by
  rw [Lib.size_eq, extract_toList, List.length_drop, List.length_take, ← Lib.size_eq]; omega

set_option maxRecDepth 100000 in
theorem token_int (s : ByteArray) (at' : Nat) (hs : s.size ≤ 4096) (h1 : 1 ≤ s.size) (w : World) :
    Calls Tryz.prog 40 #[.int .i64 3, .string s, .int .i64 (at' : Int)] w fun e w' => e = .returned (tokV ⟨3, tokText 3 s.data.toList, at'⟩) ∧ Below w.heap.size w w' := by
  have wr : IntKind.i64.wrap ((s.size : Int) - 1) = ((s.size - 1 : Nat) : Int) := by
    rw [show ((s.size : Int) - 1) = ((s.size - 1 : Nat) : Int) by omega]
    exact wrap_small _ (by omega) (by omega)
  have hsl1 : ∀ W, (Instr.slice 9 (.string s) none (some (.int .i64 ((s.size - 1 : Nat) : Int))) none).run Tryz.prog W = .ok (.string (s.extract 0 (s.size - 1))) W := fun W => by
    have : ((s.size - 1 : Nat) : Int) ≤ (s.size : Int) := by omega
    go_simp
  have hsl2 : ∀ W, (Instr.slice 9 (.string s) (some (.int .i64 ((s.size - 1 : Nat) : Int))) none none).run Tryz.prog W = .ok (.string (s.extract (s.size - 1) s.size)) W := fun W => by
    have : ((s.size - 1 : Nat) : Int) ≤ (s.size : Int) := by omega
    go_simp
  have H1 := hid h1
  have HS := hid hs
  clear h1 hs
  go_enter Tryz.func40, Tryz.ntmps40
  go_wp2
  go_region_held3 (fun _ => True) (first | trivial | go_keep) ((first
    | (go_at_call 72; (refine (trim_any _ _).mono ?_; rintro e w3 ⟨q, rfl, hq, rfl⟩; obtain ⟨q2, r2, hq2, hz2⟩ := cat_any q (s.extract (s.size - 1) s.size) (by have h5 := ext_size s (s.size - 1) s.size (Nat.le_refl _); have h6 := dropWhile_le (· == 48) (s.extract 0 (s.size - 1)).data.toList; rw [← hq, ← Lib.size_eq, ← Lib.size_eq] at h6; have h7 := ext_size s 0 (s.size - 1) (by omega); have := H1.out; have := HS.out; omega); have HQS : Hid (q.size + (s.extract (s.size - 1) s.size).size ≤ 4096) := hid (by have h5 := ext_size s (s.size - 1) s.size (Nat.le_refl _); have h6 := dropWhile_le (· == 48) (s.extract 0 (s.size - 1)).data.toList; rw [← hq, ← Lib.size_eq, ← Lib.size_eq] at h6; have h7 := ext_size s 0 (s.size - 1) (by omega); have := H1.out; have := HS.out; omega); have HQ := hid hq; have HQ2 := hid hq2; have HZ := hid hz2; clear hq hq2 hz2))))
  go_wp2_with (go_at_call 74; refine (clone_any q2 _ (by have := HZ.out; have := HQS.out; have := HS.out; omega)).mono ?_; rintro e w2 ⟨rfl, hb⟩; have f : w2.heap[w.heap.size]? = some (.cells #[.int .i64 0, .string ⟨#[]⟩, .int .i64 0] 69 (0, 0)) := (hb.block w.heap.size (by simp)).trans (heap_alloc_new w _); have g0 := cellOf f 0; have g1 := cellOf f 1; have g2 := cellOf f 2; have F0 := freeOf f 0; have F1 := freeOf f 1; have F2 := freeOf f 2; have HF := hid f; clear f)
  have h3 := three_heap HF.out (.int .i64 3) (.string q2) (.int .i64 at')
  have hbb : Below w.heap.size w (three w2 w.heap.size 0 (.int .i64 3) (.string q2) (.int .i64 at')) := three_below (((Below.refl _ w).alloc (Nat.le_refl _) _).drew.trans (hb.mono (by simp))) (Nat.le_refl _) _ _ _
  have z0 := cellOf h3 0
  have z1 := cellOf h3 1
  have z2 := cellOf h3 2
  clear h3
  simp only [three, Nat.zero_add] at z0 z1 z2 hbb
  refine bodyPost_ret (v := tokV ⟨3, tokText 3 s.data.toList, at'⟩) (by
    rw [show tokText 3 s.data.toList = q2.data.toList from by rw [HQ2.out, HQ.out, extract_toList, extract_toList, List.take_of_length_le (i := s.size) (by rw [← Lib.size_eq]; omega), List.drop_zero, tokText, if_pos rfl, ← Lib.size_eq]]
    simp [results, Tryz.results40, go_sem, z0, z1, z2, tokV, list_ofB]) rfl ⟨rfl, hbb⟩
theorem unq_len : ∀ (n : Nat) (l : Bs), l.length ≤ n → (unq l).length ≤ l.length
  | _, [], _ => Nat.le_refl _
  | _, [c], _ => Nat.le_refl _
  | 0, c :: d :: t, h => by simp at h
  | n + 1, c :: d :: t, h => by
    simp only [List.length_cons] at h
    unfold unq
    split
    · have := unq_len n t (by omega); simp; omega
    · have := unq_len n (d :: t) (by simp; omega); simp at this ⊢; omega
theorem unq_any (x : ByteArray) (w : World) (hx : x.size ≤ 4096) (hm : MX w) : Calls Tryz.prog 73 #[.string x, .string ⟨#[34, 34]⟩, .string ⟨#[34]⟩] w fun e w' => ∃ q : ByteArray, e = .returned (.string q) ∧ q.data.toList = unq x.data.toList ∧ Below w.heap.size w w' := by
  obtain ⟨m, hm⟩ := hm
  refine (Tryz.strings_ReplaceAll x ⟨#[34, 34]⟩ ⟨#[34]⟩ m w (by omega) hm (by decide) ?_).mono ?_
  · have := Lib.countB_le ⟨#[34, 34]⟩ (by decide) x.size x (Nat.le_refl _)
    have e : (⟨#[34]⟩ : ByteArray).size = 1 := rfl
    rw [e]; omega
  · rintro e w' ⟨rfl, h⟩
    exact ⟨_, rfl, by rw [show (ByteArray.mk #[34, 34]).data.toList = [34, 34] from rfl, show (ByteArray.mk #[34]).data.toList = [34] from rfl, replace_unq], h⟩
set_option maxRecDepth 100000 in
theorem token_text (s : ByteArray) (at' : Nat) (hs : s.size ≤ 4096) (h1 : 2 ≤ s.size) (w : World) (hm : MX w) :
    Calls Tryz.prog 40 #[.int .i64 4, .string s, .int .i64 (at' : Int)] w fun e w' => e = .returned (tokV ⟨4, tokText 4 s.data.toList, at'⟩) ∧ Below w.heap.size w w' := by
  have wr : IntKind.i64.wrap ((s.size : Int) - 1) = ((s.size - 1 : Nat) : Int) := by
    rw [show ((s.size : Int) - 1) = ((s.size - 1 : Nat) : Int) by omega]
    exact wrap_small _ (by omega) (by omega)
  have hsl1 : ∀ W, (Instr.slice 9 (.string s) (some (.int .i64 1)) (some (.int .i64 ((s.size - 1 : Nat) : Int))) none).run Tryz.prog W = .ok (.string (s.extract 1 (s.size - 1))) W := fun W => by
    have : ((s.size - 1 : Nat) : Int) ≤ (s.size : Int) := by omega
    have : (1 : Int) ≤ ((s.size - 1 : Nat) : Int) := by omega
    go_simp
  have H1 := hid h1
  have HS := hid hs
  have HM := hid hm
  clear h1 hs hm
  go_enter Tryz.func40, Tryz.ntmps40
  go_wp2_with (first
    | (go_at_call 73; (refine (unq_any _ _ (by have h5 := ext_size s 1 (s.size - 1) (by omega); have := HS.out; omega) (HM.out.below HM.out.lt ((Below.refl _ w).alloc (Nat.le_refl _) _))).mono ?_; rintro e w4 ⟨q2, rfl, hq, hb4⟩; have HQ := hid hq; have HB4 := hid hb4; have HZ : Hid (q2.size ≤ s.size) := hid (by have h5 := ext_size s 1 (s.size - 1) (by omega); have h6 := unq_len _ (s.extract 1 (s.size - 1)).data.toList (Nat.le_refl _); rw [← hq, ← Lib.size_eq, ← Lib.size_eq] at h6; omega); clear hq hb4))
    | (go_at_call 74; refine (clone_any q2 _ (by have := HZ.out; have := HS.out; omega)).mono ?_; rintro e w2 ⟨rfl, hb⟩; have f : w2.heap[w.heap.size]? = some (.cells #[.int .i64 0, .string ⟨#[]⟩, .int .i64 0] 69 (0, 0)) := (hb.block w.heap.size (by have := HB4.out.size; simp at this; omega)).trans ((HB4.out.block w.heap.size (by simp)).trans (heap_alloc_new w _)); have g0 := cellOf f 0; have g1 := cellOf f 1; have g2 := cellOf f 2; have F0 := freeOf f 0; have F1 := freeOf f 1; have F2 := freeOf f 2; have HF := hid f; clear f))
  have h3 := three_heap HF.out (.int .i64 4) (.string q2) (.int .i64 at')
  have hbb : Below w.heap.size w (three w2 w.heap.size 0 (.int .i64 4) (.string q2) (.int .i64 at')) := three_below ((((Below.refl _ w).alloc (Nat.le_refl _) _).trans (HB4.out.mono (by simp))).trans (hb.mono (by have := HB4.out.size; simp at this; omega))) (Nat.le_refl _) _ _ _
  have z0 := cellOf h3 0
  have z1 := cellOf h3 1
  have z2 := cellOf h3 2
  clear h3
  simp only [three, Nat.zero_add] at z0 z1 z2 hbb
  refine bodyPost_ret (v := tokV ⟨4, tokText 4 s.data.toList, at'⟩) (by
    rw [show tokText 4 s.data.toList = q2.data.toList from by rw [HQ.out, extract_toList, tokText, if_neg (by decide), if_pos rfl, ← Lib.size_eq]]
    simp [results, Tryz.results40, go_sem, z0, z1, z2, tokV, list_ofB]) rfl ⟨rfl, hbb⟩
end Go.Proofs.YtcnohgifihbkdaaGreatDoor.Lx

