/- The printer: unary. -/
import Derived.Test.YtdfambocenohgaaGreatDoorJAT
import Derived.Shelf.Strings.Builder1
import Derived.Shelf.Strings.Builder2
import Derived.Shelf.Small.Wraps
import Derived.Shelf.Strings.BuilderF
import Derived.Shelf.Strings.BuilderK
import Derived.Shelf.Strconv.Itoa0
import Derived.Shelf.Strconv.Itoa1
import Derived.Shelf.LaysM
import Derived.Shelf.Strconv.Itoa2
import Derived.Shelf.Strconv.Itoa3
import Derived.Shelf.Strconv.Itoa4
import Derived.Shelf.Strings.Search1
import Derived.Shelf.Strings.Search2
import Derived.Shelf.Strings.Search3
import Derived.Shelf.Strings.Count
import Derived.Shelf.Strings.Shaped
import Derived.Shelf.Strings.Split
import Derived.Shelf.Strings.Replace
import Derived.Shelf.Strings.SplitShaped
import Derived.Shelf.Unicode.DecodeSlow
import Derived.Shelf.Slices.Turned
import Derived.Test.YtdfambocenohgaaGreatDoorProg
namespace Go.Proofs.YtdfambocenohgaaGreatDoor
open Go.RowKit Go.Deep
set_option linter.unusedVariables false
set_option linter.unusedSimpArgs false

def unB (h a : EH) (p : List UInt8) : List UInt8 :=
  if h.op = 18 then 45 :: 32 :: argB h a p else
  if h.op = 19 then 110 :: 111 :: 116 :: 32 :: argB h a p else
  if h.op = 20 then [108, 101, 110] ++ (40 :: (jn [p] ++ [41])) else [115, 116, 114] ++ (40 :: (jn [p] ++ [41]))
def unD (h a : EH) (d : Nat) : Nat := if h.op = 18 ∨ h.op = 19 then 1 + argD h a d else 1 + mxL [d]
theorem jn1 (p : List UInt8) : jn [p] = p := by simp [jn, commaB]
set_option maxRecDepth 100000 in
set_option maxHeartbeats 1000000 in
theorem unary_of (k : Nat) (pr : ET k → List UInt8) (dp : ET k → Nat) (ok : ET k → Prop) (ih : PrSaid k pr dp ok) (w0 : World) (h : EH) (t : ET k) (han : h.an = 1) (ho1 : 18 ≤ h.op) (ho2 : h.op ≤ 21) (dh : EHr w0 h) (dl : LiesAt 8 h.aa (eAt k) [t]) (hr : ERd k w0 t) (hok : ok t) (B b : Nat) (l : List UInt8) (op mo : Nat) (w : World) (hE : EnvT w0) (h0 : w0.heap.size ≤ B) (hb : Below w0.heap.size w0 w) (hB : B ≤ w.heap.size) (hp : Prn w B b l op mo)
    (hl : l.length + (unB h (eH k t) (pr t)).length ≤ 900000000) (ho : op + unD h (eH k t) (dp t) ≤ 900000000) (hm : mo ≤ 900000000) :
    Calls Tryz.prog 103 #[.pointer (some ⟨b, 0, none⟩), .pointer (some ⟨h.b, h.o, none⟩)] w (PrP w B b (l ++ unB h (eH k t) (pr t)) op (max mo (op + unD h (eH k t) (dp t)))) := by
  have c1 := (dh.below (Nat.le_refl _) hb).c1
  have c6 := (dh.below (Nat.le_refl _) hb).c6
  have EN : ∀ (s : ByteArray), l.length + (s.size + (argB h (eH k t) (pr t)).length) ≤ 900000000 → op + (1 + argD h (eH k t) (dp t)) ≤ 900000000 → Calls Tryz.prog 106 #[.pointer (some ⟨b, 0, none⟩), .slice (some ⟨w.heap.size, 0, none⟩) 1 1] (w.alloc (.cells #[.string s] 9)) (PrP w B b (l ++ bs s) (op + 1) (max mo (op + 1))) := fun s hs hd => by
    have hc1 : catL [s] = bs s := by simp [catL, bs]
    have := enter_new w B b l op mo hp (by omega) (by omega) [s] 1 rfl (by omega) hB (by rw [hc1, bs_len]; omega)
    rw [hc1] at this
    exact this
  have AR : ∀ (s : ByteArray), l.length + (s.size + (argB h (eH k t) (pr t)).length) ≤ 900000000 → op + (1 + argD h (eH k t) (dp t)) ≤ 900000000 → Hid (∀ w1 : World, Below B w w1 → Prn w1 B b (l ++ bs s) (op + 1) (max mo (op + 1)) → Calls Tryz.prog 104 #[.pointer (some ⟨b, 0, none⟩), .pointer (some ⟨h.b, h.o, none⟩), .int .i64 0] w1 (PrP w1 B b (l ++ bs s ++ argB h (eH k t) (pr t)) (op + 1) (max (max mo (op + 1)) (op + 1 + argD h (eH k t) (dp t))))) := fun s hs hd => hid (fun w1 h1 hp1 =>
    argument_of k pr dp ok ih w0 h [t] 0 t rfl (by omega) (by omega) dh dl hr hok B b _ (op + 1) _ w1 hE h0 (hb.trans (h1.mono h0)) (Nat.le_trans hB h1.size) hp1 (by rw [List.length_append, bs_len]; omega) (by omega) (by omega) (by omega))
  have LV : ∀ (s : ByteArray), l.length + (s.size + (argB h (eH k t) (pr t)).length) ≤ 900000000 → op + (1 + argD h (eH k t) (dp t)) ≤ 900000000 → Hid (∀ w2 : World, Below B w w2 → Prn w2 B b (l ++ bs s ++ argB h (eH k t) (pr t)) (op + 1) (max (max mo (op + 1)) (op + 1 + argD h (eH k t) (dp t))) → Calls Tryz.prog 108 #[.pointer (some ⟨b, 0, none⟩), .string ⟨#[]⟩] w2 (PrP w2 B b (l ++ bs s ++ argB h (eH k t) (pr t)) op (max (max mo (op + 1)) (op + 1 + argD h (eH k t) (dp t))))) := fun s hs hd => hid (fun w2 h2 hp2 => by
    have := leave_any w2 B b _ op _ hp2 (by omega) ⟨#[]⟩ (Nat.le_trans hB h2.size) (by rw [List.length_append, List.length_append, bs_len]; simp only [show (⟨#[]⟩ : ByteArray).size = 0 from rfl]; omega)
    simpa using this)
  have CL : ∀ (s : ByteArray), l.length + (s.size + 2 + (pr t).length) ≤ 900000000 → op + (1 + dp t) ≤ 900000000 → Hid (Calls Tryz.prog 110 #[.pointer (some ⟨b, 0, none⟩), .string s, .slice h.aa h.an h.ac] w (PrP w B b (l ++ (bs s ++ (40 :: (jn [pr t] ++ [41])))) op (max mo (op + (1 + mxL [dp t]))))) := fun s hs hd => hid (by
    have := call_of k pr dp ok ih w0 s h.aa h.an h.ac [t] (by rw [han]; rfl) dh.ab dl (fun u hu => by simp at hu; subst hu; exact hr) (fun u hu => by simp at hu; subst hu; exact hok) B b l op mo w hE h0 hb hB hp (by simp only [List.map_cons, List.map_nil]; rw [jn1]; omega) (by simp [mxL]; omega) hm
    simpa using this)
  have HF : Hid (max (max mo (op + 1)) (op + 1 + argD h (eH k t) (dp t)) = max mo (op + (1 + argD h (eH k t) (dp t)))) := hid (by omega)
  clear hr hok hE h0 hb hp hm ih dh dl han
  by_cases k18 : h.op = 18
  · unfold unB at hl
    unfold unD at ho
    rw [if_pos k18] at hl
    rw [if_pos (.inl k18)] at ho
    simp only [List.length_cons] at hl
    have zz : (⟨#[45, 32]⟩ : ByteArray).size = 2 := rfl
    have K1 := hid (EN ⟨#[45, 32]⟩ (by rw [zz]; omega) (by omega))
    have K2 := AR ⟨#[45, 32]⟩ (by rw [zz]; omega) (by omega)
    have K3 := LV ⟨#[45, 32]⟩ (by rw [zz]; omega) (by omega)
    have e1 : unB h (eH k t) (pr t) = bs ⟨#[45, 32]⟩ ++ argB h (eH k t) (pr t) := by unfold unB; rw [if_pos k18]; rfl
    have e2 : unD h (eH k t) (dp t) = 1 + argD h (eH k t) (dp t) := by unfold unD; rw [if_pos (.inl k18)]
    rw [e1, e2]
    clear EN AR LV CL e1 e2 hl ho
    go_enter Tryz.func103, Tryz.ntmps103
    go_wp2_with (first
      | (go_at_call 106; (refine (Hid.out K1).mono ?_; rintro e w1 ⟨rfl, hp1, hk1⟩; have K2' := hid (K2.out w1 hk1.1 hp1); have HK1 := hid hk1; clear hp1 hk1))
      | (go_at_call 104; (refine (Hid.out K2').mono ?_; rintro e w2 ⟨rfl, hp2, hk2⟩; have HK2 := hid (HK1.out.trans hk2); have K3' := hid (K3.out w2 HK2.out.1 hp2); clear hp2 hk2))
      | (go_at_call 108; (refine (Hid.out K3').mono ?_; rintro e w3 ⟨rfl, hp3, hk3⟩)))
    go_end0
    exact ⟨rfl, hp3.eq (by simp) HF.out, HK2.out.trans hk3⟩
  · by_cases k19 : h.op = 19
    · unfold unB at hl
      unfold unD at ho
      rw [if_neg k18, if_pos k19] at hl
      rw [if_pos (.inr k19)] at ho
      simp only [List.length_cons] at hl
      have zz : (⟨#[110, 111, 116, 32]⟩ : ByteArray).size = 4 := rfl
      have K1 := hid (EN ⟨#[110, 111, 116, 32]⟩ (by rw [zz]; omega) (by omega))
      have K2 := AR ⟨#[110, 111, 116, 32]⟩ (by rw [zz]; omega) (by omega)
      have K3 := LV ⟨#[110, 111, 116, 32]⟩ (by rw [zz]; omega) (by omega)
      have e1 : unB h (eH k t) (pr t) = bs ⟨#[110, 111, 116, 32]⟩ ++ argB h (eH k t) (pr t) := by unfold unB; rw [if_neg k18, if_pos k19]; rfl
      have e2 : unD h (eH k t) (dp t) = 1 + argD h (eH k t) (dp t) := by unfold unD; rw [if_pos (.inr k19)]
      rw [e1, e2]
      clear EN AR LV CL e1 e2 hl ho
      go_enter Tryz.func103, Tryz.ntmps103
      go_wp2_with (first
        | (go_at_call 106; (refine (Hid.out K1).mono ?_; rintro e w1 ⟨rfl, hp1, hk1⟩; have K2' := hid (K2.out w1 hk1.1 hp1); have HK1 := hid hk1; clear hp1 hk1))
        | (go_at_call 104; (refine (Hid.out K2').mono ?_; rintro e w2 ⟨rfl, hp2, hk2⟩; have HK2 := hid (HK1.out.trans hk2); have K3' := hid (K3.out w2 HK2.out.1 hp2); clear hp2 hk2))
        | (go_at_call 108; (refine (Hid.out K3').mono ?_; rintro e w3 ⟨rfl, hp3, hk3⟩)))
      go_end0
      exact ⟨rfl, hp3.eq (by simp) HF.out, HK2.out.trans hk3⟩
    · have e2 : unD h (eH k t) (dp t) = 1 + mxL [dp t] := by unfold unD; rw [if_neg (by rintro (h | h); exact k18 h; exact k19 h)]
      by_cases k20 : h.op = 20
      · unfold unB at hl
        rw [e2] at ho
        rw [if_neg k18, if_neg k19, if_pos k20] at hl
        simp only [List.length_append, List.length_cons, List.length_nil, jn1] at hl
        have hd1 : mxL [dp t] = dp t := by simp [mxL]
        rw [hd1] at ho
        have zz : (⟨#[108, 101, 110]⟩ : ByteArray).size = 3 := rfl
        have K1 := CL ⟨#[108, 101, 110]⟩ (by rw [zz]; omega) (by omega)
        have e1 : unB h (eH k t) (pr t) = bs ⟨#[108, 101, 110]⟩ ++ (40 :: (jn [pr t] ++ [41])) := by unfold unB; rw [if_neg k18, if_neg k19, if_pos k20]; rfl
        rw [e1, e2]
        clear EN AR LV CL e1 e2 hl ho
        go_enter Tryz.func103, Tryz.ntmps103
        go_wp2_with (go_at_call 110; (refine (Hid.out K1).mono ?_; rintro e w1 ⟨rfl, hp1, hk1⟩))
        go_end0
        exact ⟨rfl, hp1, hk1⟩
      · have k21 : h.op = 21 := by omega
        unfold unB at hl
        rw [e2] at ho
        rw [if_neg k18, if_neg k19, if_neg k20] at hl
        simp only [List.length_append, List.length_cons, List.length_nil, jn1] at hl
        have hd1 : mxL [dp t] = dp t := by simp [mxL]
        rw [hd1] at ho
        have zz : (⟨#[115, 116, 114]⟩ : ByteArray).size = 3 := rfl
        have K1 := CL ⟨#[115, 116, 114]⟩ (by rw [zz]; omega) (by omega)
        have e1 : unB h (eH k t) (pr t) = bs ⟨#[115, 116, 114]⟩ ++ (40 :: (jn [pr t] ++ [41])) := by unfold unB; rw [if_neg k18, if_neg k19, if_neg k20]; rfl
        rw [e1, e2]
        clear EN AR LV CL e1 e2 hl ho
        go_enter Tryz.func103, Tryz.ntmps103
        go_wp2_with (go_at_call 110; (refine (Hid.out K1).mono ?_; rintro e w1 ⟨rfl, hp1, hk1⟩))
        go_end0
        exact ⟨rfl, hp1, hk1⟩
end Go.Proofs.YtdfambocenohgaaGreatDoor

namespace Go.Proofs
set_option linter.unusedVariables false
set_option linter.unusedSimpArgs false
open Go.Shelf
open Go.RowKit in
def Tryz.lays121_ren : Go.Shelf.Ren := ⟨fun | 121 => 102 | 214 => 125 | n => n, fun | 4 => 4 | 9 => 9 | n => n, fun | n => n⟩
theorem Tryz.lays121 : Go.Proofs.Lays.n121 Tryz.prog Tryz.lays121_ren := {
  mixed := by kernel_rfl
  f121 := Tryz.func102.trans (congrArg some (by kernel_rfl))
  f214 := Tryz.func125.trans (congrArg some (by kernel_rfl))
  t4 := Tryz.underlying4
  a4 := Tryz.isAgg4
  z4 := Tryz.sizeOf4
  v4 := Tryz.zeroValue4
  t9 := Tryz.underlying9
  a9 := Tryz.isAgg9
  z9 := Tryz.sizeOf9
  v9 := Tryz.zeroValue9 }
open Go.RowKit in
theorem Tryz.strconv_FormatBool (b : Bool) (w : World) :
    Calls Tryz.prog 102 #[.bool b] w fun e w' => e = .returned (.string ⟨(Lib.formatBool b).toArray⟩) ∧ w' = w := Any.strconv_FormatBool Tryz.lays121 b w
open Go.RowKit in
open Go.RowKit Go.Sort Go.Lib in
def Tryz.laysM173_ren : Go.Shelf.Ren := ⟨fun | 173 => 100 | 246 => 123 | 283 => 130 | 284 => 131 | 285 => 132 | 286 => 133 | 129 => 140 | 317 => 139 | 318 => 141 | 319 => 142 | 320 => 143 | 337 => 153 | 338 => 154 | n => n, fun | 2 => 2 | 3 => 3 | 9 => 9 | 4 => 4 | 171 => 161 | 0 => 0 | 53 => 125 | 37 => 44 | 5 => 5 | 173 => 164 | 212 => 176 | 51 => 177 | 20 => 20 | 213 => 178 | 46 => 180 | 232 => 197 | 233 => 198 | n => n, fun | 17 => 0 | 18 => 1 | 19 => 2 | n => n⟩
theorem Tryz.laysM173 : Go.Proofs.LaysM.n173 Tryz.prog Tryz.laysM173_ren := {
  mixed := by kernel_rfl
  f129 := Tryz.func140.trans (congrArg some (by kernel_rfl))
  f173 := Tryz.func100.trans (congrArg some (by kernel_rfl))
  f246 := Tryz.func123.trans (congrArg some (by kernel_rfl))
  f283 := Tryz.func130.trans (congrArg some (by kernel_rfl))
  f284 := Tryz.func131.trans (congrArg some (by kernel_rfl))
  f285 := Tryz.func132.trans (congrArg some (by kernel_rfl))
  f286 := Tryz.func133.trans (congrArg some (by kernel_rfl))
  f317 := Tryz.func139.trans (congrArg some (by kernel_rfl))
  f318 := Tryz.func141.trans (congrArg some (by kernel_rfl))
  f319 := Tryz.func142.trans (congrArg some (by kernel_rfl))
  f320 := Tryz.func143.trans (congrArg some (by kernel_rfl))
  f337 := Tryz.func153.trans (congrArg some (by kernel_rfl))
  f338 := Tryz.func154.trans (congrArg some (by kernel_rfl))
  t0 := Tryz.underlying0
  a0 := Tryz.isAgg0
  z0 := Tryz.sizeOf0
  v0 := Tryz.zeroValue0
  t2 := Tryz.underlying2
  a2 := Tryz.isAgg2
  z2 := Tryz.sizeOf2
  v2 := Tryz.zeroValue2
  t3 := Tryz.underlying3
  a3 := Tryz.isAgg3
  z3 := Tryz.sizeOf3
  v3 := Tryz.zeroValue3
  t4 := Tryz.underlying4
  a4 := Tryz.isAgg4
  z4 := Tryz.sizeOf4
  v4 := Tryz.zeroValue4
  t5 := Tryz.underlying5
  a5 := Tryz.isAgg5
  z5 := Tryz.sizeOf5
  v5 := Tryz.zeroValue5
  t9 := Tryz.underlying9
  a9 := Tryz.isAgg9
  z9 := Tryz.sizeOf9
  v9 := Tryz.zeroValue9
  t20 := Tryz.underlying20
  a20 := Tryz.isAgg20
  z20 := Tryz.sizeOf20
  v20 := Tryz.zeroValue20
  t37 := Tryz.underlying44
  a37 := Tryz.isAgg44
  z37 := Tryz.sizeOf44
  v37 := Tryz.zeroValue44
  t46 := Tryz.underlying180
  a46 := Tryz.isAgg180
  z46 := Tryz.sizeOf180
  v46 := Tryz.zeroValue180
  t51 := Tryz.underlying177
  a51 := Tryz.isAgg177
  z51 := Tryz.sizeOf177
  v51 := Tryz.zeroValue177
  t53 := Tryz.underlying125
  a53 := Tryz.isAgg125
  z53 := Tryz.sizeOf125
  v53 := Tryz.zeroValue125
  t171 := Tryz.underlying161
  a171 := Tryz.isAgg161
  z171 := Tryz.sizeOf161
  v171 := Tryz.zeroValue161
  t173 := Tryz.underlying164
  a173 := Tryz.isAgg164
  z173 := Tryz.sizeOf164
  v173 := Tryz.zeroValue164
  t212 := Tryz.underlying176
  a212 := Tryz.isAgg176
  z212 := Tryz.sizeOf176
  v212 := Tryz.zeroValue176
  t213 := Tryz.underlying178
  a213 := Tryz.isAgg178
  z213 := Tryz.sizeOf178
  t232 := Tryz.underlying197
  a232 := Tryz.isAgg197
  z232 := Tryz.sizeOf197
  v232 := Tryz.zeroValue197
  t233 := Tryz.underlying198
  a233 := Tryz.isAgg198
  z233 := Tryz.sizeOf198
  v233 := Tryz.zeroValue198
  g17 := by kernel_rfl
  g18 := by kernel_rfl
  g19 := by kernel_rfl
  i0 := by kernel_rfl
  i2 := by kernel_rfl
  i3 := by kernel_rfl
  i4 := by kernel_rfl
  i5 := by kernel_rfl
  i9 := by kernel_rfl
  i20 := by kernel_rfl
  i37 := by kernel_rfl
  i46 := by kernel_rfl
  i51 := by kernel_rfl
  i53 := by kernel_rfl
  i171 := by kernel_rfl
  i173 := by kernel_rfl
  i212 := by kernel_rfl
  i232 := by kernel_rfl
  i233 := by kernel_rfl
  m17 := by kernel_rfl
  m18 := by kernel_rfl
  m19 := by kernel_rfl }
open Go.RowKit Go.Sort Go.Lib in
theorem Tryz.strconv_FormatInt_10 (n : Int) (h0 : -9223372036854775808 ≤ n) (h1 : n ≤ 9223372036854775807) (w : World) (htab : Lib.TabIs Tryz.prog w "internal/strconv.uint64pow10" .u64 Lib.pow10Tab) :
    Calls Tryz.prog 100 #[.int .i64 n, .int .i64 10] w fun e w' => e = .returned (.string ⟨(Lib.itoa n).toArray⟩) ∧ ∃ k os, w' = grow (w.drewN k) os := Any.strconv_FormatInt_10 Tryz.laysM173 n h0 h1 w htab
end Go.Proofs

namespace Go.Proofs.YtdfambocenohgaaGreatDoor
open Go.RowKit Go.Deep
set_option linter.unusedVariables false
set_option linter.unusedSimpArgs false

theorem fi_any (n : Int) (h0 : -9223372036854775808 ≤ n) (h1 : n ≤ 9223372036854775807) (w : World) (E : EnvT w) :
    Calls Tryz.prog 100 #[.int .i64 n, .int .i64 10] w fun e w' => e = .returned (.string (ofB (Lib.itoa n))) ∧ Below w.heap.size w w' := by
  refine (Tryz.strconv_FormatInt_10 n h0 h1 w E.tab).mono ?_
  rintro e w' ⟨rfl, k, os, rfl⟩
  exact ⟨rfl, Lib.below_grow _ w (Nat.le_refl _) k os⟩
theorem fb_any (x : Bool) (w : World) : Calls Tryz.prog 102 #[.bool x] w fun e w' => e = .returned (.string (ofB (Lib.formatBool x))) ∧ Below w.heap.size w w' := by
  refine (Tryz.strconv_FormatBool x w).mono ?_
  rintro e w' ⟨rfl, rfl⟩
  exact ⟨rfl, Below.refl _ _⟩
def on1 {β γ : Type} (es : List EH) (ps : List β) (f : EH → β → γ) (z : γ) : γ := match es, ps with
  | a :: _, p :: _ => f a p
  | _, _ => z
def on2 {β γ : Type} (es : List EH) (ps : List β) (f : EH → β → EH → β → γ) (z : γ) : γ := match es, ps with
  | a :: c :: _, p :: q :: _ => f a p c q
  | _, _ => z
/- What is written of an expression, given what is written of its arguments. -/
def prH (h : EH) (es : List EH) (ps : List (List UInt8)) : List UInt8 :=
  if h.kind = 1 then Lib.itoa h.int else
  if h.kind = 2 then quoB (bs h.text) else
  if h.kind = 3 then Lib.formatBool (decide (h.int = 1)) else
  if h.kind = 4 then bs h.name else
  if h.kind = 5 then on1 es ps (fun a p => unB h a p) [] else
  if h.kind = 6 then on2 es ps (fun a p c q => argB h a p ++ (32 :: (bs (sgnS h.op) ++ (32 :: argB h c q)))) [] else
  if h.kind = 7 then on1 es ps (fun a p => argB h a p ++ (46 :: bs h.name)) [] else
  if h.kind = 8 then bs h.name ++ (123 :: (jn (List.zipWith (fun n p => bs n ++ (58 :: 32 :: p)) h.names ps) ++ [125])) else
  if h.kind = 9 then on1 es ps (fun a p => bs h.name ++ (91 :: (p ++ [93]))) [] else
  if h.kind = 10 then on1 es ps (fun a p => 104 :: 97 :: 115 :: 32 :: (bs h.name ++ (91 :: (p ++ [93])))) [] else
  if h.kind = 11 then bs h.name ++ (40 :: (jn ps ++ [41])) else 97 :: 115 :: 107 :: 32 :: (bs h.name ++ (40 :: (jn ps ++ [41])))
def dpH (h : EH) (es : List EH) (ds : List Nat) : Nat :=
  if h.kind = 5 then on1 es ds (fun a d => unD h a d) 0 else
  if h.kind = 6 then on2 es ds (fun a d c q => max (argD h a d) (argD h c q)) 0 else
  if h.kind = 7 then on1 es ds (fun a d => argD h a d) 0 else
  if h.kind = 9 ∨ h.kind = 10 then on1 es ds (fun a d => 1 + d) 0 else
  if h.kind = 8 ∨ h.kind = 11 ∨ h.kind = 12 then 1 + mxL ds else 0
theorem okE_of {h : EH} (hR : rightE h = true) : okE h = true := by unfold rightE at hR; simp only [Bool.and_eq_true] at hR; exact hR.1
theorem one_of {α : Type} {ts : List α} {n : Nat} (h : n = ts.length) (e : n = 1) : ∃ t, ts = [t] := by
  match ts, h with
  | [t], _ => exact ⟨t, rfl⟩
  | [], h => simp at h; omega
  | _ :: _ :: _, h => simp at h; omega
theorem two_of' {α : Type} {ts : List α} {n : Nat} (h : n = ts.length) (e : n = 2) : ∃ t u, ts = [t, u] := by
  match ts, h with
  | [t, u], _ => exact ⟨t, u, rfl⟩
  | [], h => simp at h; omega
  | [_], h => simp at h; omega
  | _ :: _ :: _ :: _, h => simp at h; omega

set_option maxRecDepth 100000 in
set_option maxHeartbeats 1000000 in
theorem expr_1 (k : Nat) (pr : ET k → List UInt8) (dp : ET k → Nat) (ok : ET k → Prop) (ih : PrSaid k pr dp ok) (w0 : World) (h : EH) (ts : List (ET k)) (hk : h.kind = 1) (dh : EHr w0 h) (hn : h.an = ts.length) (dl : LiesAt 8 h.aa (eAt k) ts) (hr : ∀ u ∈ ts, ERd k w0 u) (hok : ∀ u ∈ ts, ok u) (hR : rightE h = true) (B b : Nat) (l : List UInt8) (op mo : Nat) (w : World) (hE : EnvT w0) (h0 : w0.heap.size ≤ B) (hb : Below w0.heap.size w0 w) (hB : B ≤ w.heap.size) (hp : Prn w B b l op mo)
    (hl : l.length + (prH h (ts.map (eH k)) (ts.map pr)).length ≤ 900000000) (ho : op + dpH h (ts.map (eH k)) (ts.map dp) ≤ 900000000) (hm : mo ≤ 900000000) (hmo : op ≤ mo) :
    Calls Tryz.prog 79 #[.pointer (some ⟨b, 0, none⟩), .pointer (some ⟨h.b, h.o, none⟩)] w (PrP w B b (l ++ prH h (ts.map (eH k)) (ts.map pr)) op (max mo (op + dpH h (ts.map (eH k)) (ts.map dp)))) := by
  have hO := okE_of hR
  unfold okE at hO
  have dw := dh.below (Nat.le_refl _) hb
  have c0 := dw.c0
  have e1 : prH h (ts.map (eH k)) (ts.map pr) = Lib.itoa h.int := by unfold prH; simp [hk]
  have e2 : dpH h (ts.map (eH k)) (ts.map dp) = 0 := by unfold dpH; simp [hk]
  rw [e1] at hl ⊢
  rw [e2] at ho ⊢
  have cx := dw.c2
  have K1 := hid (fi_any h.int dh.i0 dh.i1 w (hE.below hb))
  have ec : catL [ofB (Lib.itoa h.int)] = Lib.itoa h.int := by simp [catL, ofB]
  have K2 := hid (fun (w1 : World) (h1 : Below w.heap.size w w1) => write_new w1 B b l op mo (hp.below h1) [ofB (Lib.itoa h.int)] 1 rfl (by omega) (Nat.le_trans hB h1.size) (by rw [ec]; omega))
  simp only [ec, List.map_cons, List.map_nil] at K2
  have HM := hid hmo
  have HB := hid hB
  clear ih dh hn dl hr hok hR hE h0 hb hp hl ho hm dw hO e1 e2 ec hmo
  go_enter Tryz.func79, Tryz.ntmps79
  go_wp2_with (first
    | (go_at_call 100; (refine (Hid.out K1).mono ?_; rintro e w1 ⟨rfl, hb1⟩; have K2' := hid (K2.out w1 hb1); have HB1 := hid hb1; clear hb1))
    | (go_at_call 99; (refine (Hid.out K2').mono ?_; rintro e w2 ⟨rfl, hp2, hk2⟩)))
  go_end0
  exact ⟨rfl, hp2.eq rfl (by have := HM.out; omega), (Kpt.below HB1.out HB.out).trans hk2⟩

set_option maxRecDepth 100000 in
set_option maxHeartbeats 1000000 in
theorem expr_2 (k : Nat) (pr : ET k → List UInt8) (dp : ET k → Nat) (ok : ET k → Prop) (ih : PrSaid k pr dp ok) (w0 : World) (h : EH) (ts : List (ET k)) (hk : h.kind = 2) (dh : EHr w0 h) (hn : h.an = ts.length) (dl : LiesAt 8 h.aa (eAt k) ts) (hr : ∀ u ∈ ts, ERd k w0 u) (hok : ∀ u ∈ ts, ok u) (hR : rightE h = true) (B b : Nat) (l : List UInt8) (op mo : Nat) (w : World) (hE : EnvT w0) (h0 : w0.heap.size ≤ B) (hb : Below w0.heap.size w0 w) (hB : B ≤ w.heap.size) (hp : Prn w B b l op mo)
    (hl : l.length + (prH h (ts.map (eH k)) (ts.map pr)).length ≤ 900000000) (ho : op + dpH h (ts.map (eH k)) (ts.map dp) ≤ 900000000) (hm : mo ≤ 900000000) (hmo : op ≤ mo) :
    Calls Tryz.prog 79 #[.pointer (some ⟨b, 0, none⟩), .pointer (some ⟨h.b, h.o, none⟩)] w (PrP w B b (l ++ prH h (ts.map (eH k)) (ts.map pr)) op (max mo (op + dpH h (ts.map (eH k)) (ts.map dp)))) := by
  have hO := okE_of hR
  unfold okE at hO
  have dw := dh.below (Nat.le_refl _) hb
  have c0 := dw.c0
  have e1 : prH h (ts.map (eH k)) (ts.map pr) = quoB (bs h.text) := by unfold prH; simp [hk]
  have e2 : dpH h (ts.map (eH k)) (ts.map dp) = 0 := by unfold dpH; simp [hk]
  rw [e1] at hl ⊢
  rw [e2] at ho ⊢
  have cx := dw.c3
  have K1 := hid (quote_any h.text (by simp only [hk] at hO; simp at hO; omega) w ((hE.below hb).mx))
  have ec : catL [ofB (quoB (bs h.text))] = quoB (bs h.text) := by simp [catL, ofB]
  have K2 := hid (fun (w1 : World) (h1 : Below w.heap.size w w1) => write_new w1 B b l op mo (hp.below h1) [ofB (quoB (bs h.text))] 1 rfl (by omega) (Nat.le_trans hB h1.size) (by rw [ec]; omega))
  simp only [ec, List.map_cons, List.map_nil] at K2
  have HM := hid hmo
  have HB := hid hB
  clear ih dh hn dl hr hok hR hE h0 hb hp hl ho hm dw hO e1 e2 ec hmo
  go_enter Tryz.func79, Tryz.ntmps79
  go_wp2_with (first
    | (go_at_call 101; (refine (Hid.out K1).mono ?_; rintro e w1 ⟨rfl, hb1⟩; have K2' := hid (K2.out w1 hb1); have HB1 := hid hb1; clear hb1))
    | (go_at_call 99; (refine (Hid.out K2').mono ?_; rintro e w2 ⟨rfl, hp2, hk2⟩)))
  go_end0
  exact ⟨rfl, hp2.eq rfl (by have := HM.out; omega), (Kpt.below HB1.out HB.out).trans hk2⟩

set_option maxRecDepth 100000 in
set_option maxHeartbeats 1000000 in
theorem expr_3 (k : Nat) (pr : ET k → List UInt8) (dp : ET k → Nat) (ok : ET k → Prop) (ih : PrSaid k pr dp ok) (w0 : World) (h : EH) (ts : List (ET k)) (hk : h.kind = 3) (dh : EHr w0 h) (hn : h.an = ts.length) (dl : LiesAt 8 h.aa (eAt k) ts) (hr : ∀ u ∈ ts, ERd k w0 u) (hok : ∀ u ∈ ts, ok u) (hR : rightE h = true) (B b : Nat) (l : List UInt8) (op mo : Nat) (w : World) (hE : EnvT w0) (h0 : w0.heap.size ≤ B) (hb : Below w0.heap.size w0 w) (hB : B ≤ w.heap.size) (hp : Prn w B b l op mo)
    (hl : l.length + (prH h (ts.map (eH k)) (ts.map pr)).length ≤ 900000000) (ho : op + dpH h (ts.map (eH k)) (ts.map dp) ≤ 900000000) (hm : mo ≤ 900000000) (hmo : op ≤ mo) :
    Calls Tryz.prog 79 #[.pointer (some ⟨b, 0, none⟩), .pointer (some ⟨h.b, h.o, none⟩)] w (PrP w B b (l ++ prH h (ts.map (eH k)) (ts.map pr)) op (max mo (op + dpH h (ts.map (eH k)) (ts.map dp)))) := by
  have hO := okE_of hR
  unfold okE at hO
  have dw := dh.below (Nat.le_refl _) hb
  have c0 := dw.c0
  have e1 : prH h (ts.map (eH k)) (ts.map pr) = Lib.formatBool (decide (h.int = 1)) := by unfold prH; simp [hk]
  have e2 : dpH h (ts.map (eH k)) (ts.map dp) = 0 := by unfold dpH; simp [hk]
  rw [e1] at hl ⊢
  rw [e2] at ho ⊢
  have cx := dw.c2
  have K1 := hid (fb_any (decide (h.int = 1)) w)
  have ec : catL [ofB (Lib.formatBool (decide (h.int = 1)))] = Lib.formatBool (decide (h.int = 1)) := by simp [catL, ofB]
  have K2 := hid (fun (w1 : World) (h1 : Below w.heap.size w w1) => write_new w1 B b l op mo (hp.below h1) [ofB (Lib.formatBool (decide (h.int = 1)))] 1 rfl (by omega) (Nat.le_trans hB h1.size) (by rw [ec]; omega))
  simp only [ec, List.map_cons, List.map_nil] at K2
  have HM := hid hmo
  have HB := hid hB
  clear ih dh hn dl hr hok hR hE h0 hb hp hl ho hm dw hO e1 e2 ec hmo
  go_enter Tryz.func79, Tryz.ntmps79
  go_wp2_with (first
    | (go_at_call 102; (refine (Hid.out K1).mono ?_; rintro e w1 ⟨rfl, hb1⟩; have K2' := hid (K2.out w1 hb1); have HB1 := hid hb1; clear hb1))
    | (go_at_call 99; (refine (Hid.out K2').mono ?_; rintro e w2 ⟨rfl, hp2, hk2⟩)))
  go_end0
  exact ⟨rfl, hp2.eq rfl (by have := HM.out; omega), (Kpt.below HB1.out HB.out).trans hk2⟩
end Go.Proofs.YtdfambocenohgaaGreatDoor

namespace Go.Proofs.YtdfambocenohgaaGreatDoor
open Go.RowKit Go.Deep
set_option linter.unusedVariables false
set_option linter.unusedSimpArgs false

set_option maxRecDepth 100000 in
set_option maxHeartbeats 1000000 in
theorem expr_4 (k : Nat) (pr : ET k → List UInt8) (dp : ET k → Nat) (ok : ET k → Prop) (ih : PrSaid k pr dp ok) (w0 : World) (h : EH) (ts : List (ET k)) (hk : h.kind = 4) (dh : EHr w0 h) (hn : h.an = ts.length) (dl : LiesAt 8 h.aa (eAt k) ts) (hr : ∀ u ∈ ts, ERd k w0 u) (hok : ∀ u ∈ ts, ok u) (hR : rightE h = true) (B b : Nat) (l : List UInt8) (op mo : Nat) (w : World) (hE : EnvT w0) (h0 : w0.heap.size ≤ B) (hb : Below w0.heap.size w0 w) (hB : B ≤ w.heap.size) (hp : Prn w B b l op mo)
    (hl : l.length + (prH h (ts.map (eH k)) (ts.map pr)).length ≤ 900000000) (ho : op + dpH h (ts.map (eH k)) (ts.map dp) ≤ 900000000) (hm : mo ≤ 900000000) (hmo : op ≤ mo) :
    Calls Tryz.prog 79 #[.pointer (some ⟨b, 0, none⟩), .pointer (some ⟨h.b, h.o, none⟩)] w (PrP w B b (l ++ prH h (ts.map (eH k)) (ts.map pr)) op (max mo (op + dpH h (ts.map (eH k)) (ts.map dp)))) := by
  have hO := okE_of hR
  unfold okE at hO
  have dw := dh.below (Nat.le_refl _) hb
  have c0 := dw.c0
  have e1 : prH h (ts.map (eH k)) (ts.map pr) = bs h.name := by unfold prH; simp [hk]
  have e2 : dpH h (ts.map (eH k)) (ts.map dp) = 0 := by unfold dpH; simp [hk]
  rw [e1] at hl ⊢
  rw [e2] at ho ⊢
  have cx := dw.c4
  have ec : catL [h.name] = bs h.name := by simp [catL, bs]
  have K2 := hid (write_new w B b l op mo hp [h.name] 1 rfl (by omega) hB (by rw [ec]; omega))
  simp only [ec, List.map_cons, List.map_nil] at K2
  have HM := hid hmo
  clear ih dh hn dl hr hok hR hE h0 hb hp hl ho hm dw hO e1 e2 ec hmo
  go_enter Tryz.func79, Tryz.ntmps79
  go_wp2_with (go_at_call 99; (refine (Hid.out K2).mono ?_; rintro e w2 ⟨rfl, hp2, hk2⟩))
  go_end0
  exact ⟨rfl, hp2.eq rfl (by have := HM.out; omega), hk2⟩

set_option maxRecDepth 100000 in
set_option maxHeartbeats 1000000 in
theorem expr_5 (k : Nat) (pr : ET k → List UInt8) (dp : ET k → Nat) (ok : ET k → Prop) (ih : PrSaid k pr dp ok) (w0 : World) (h : EH) (ts : List (ET k)) (hk : h.kind = 5) (dh : EHr w0 h) (hn : h.an = ts.length) (dl : LiesAt 8 h.aa (eAt k) ts) (hr : ∀ u ∈ ts, ERd k w0 u) (hok : ∀ u ∈ ts, ok u) (hR : rightE h = true) (B b : Nat) (l : List UInt8) (op mo : Nat) (w : World) (hE : EnvT w0) (h0 : w0.heap.size ≤ B) (hb : Below w0.heap.size w0 w) (hB : B ≤ w.heap.size) (hp : Prn w B b l op mo)
    (hl : l.length + (prH h (ts.map (eH k)) (ts.map pr)).length ≤ 900000000) (ho : op + dpH h (ts.map (eH k)) (ts.map dp) ≤ 900000000) (hm : mo ≤ 900000000) (hmo : op ≤ mo) :
    Calls Tryz.prog 79 #[.pointer (some ⟨b, 0, none⟩), .pointer (some ⟨h.b, h.o, none⟩)] w (PrP w B b (l ++ prH h (ts.map (eH k)) (ts.map pr)) op (max mo (op + dpH h (ts.map (eH k)) (ts.map dp)))) := by
  have hO := okE_of hR
  unfold okE at hO
  have dw := dh.below (Nat.le_refl _) hb
  have c0 := dw.c0
  simp only [hk] at hO
  simp at hO
  obtain ⟨t, rfl⟩ := one_of hn (by omega)
  have e1 : prH h ([t].map (eH k)) ([t].map pr) = unB h (eH k t) (pr t) := by unfold prH; simp [hk, on1]
  have e2 : dpH h ([t].map (eH k)) ([t].map dp) = unD h (eH k t) (dp t) := by unfold dpH; simp [hk, on1]
  rw [e1] at hl ⊢
  rw [e2] at ho ⊢
  have K1 := hid (unary_of k pr dp ok ih w0 h t (by omega) (by omega) (by omega) dh dl (hr t (by simp)) (hok t (by simp)) B b l op mo w hE h0 hb hB hp hl ho hm)
  clear ih dh hn dl hr hok hR hE h0 hb hp hl ho hm dw hO e1 e2 hmo
  go_enter Tryz.func79, Tryz.ntmps79
  go_wp2_with (go_at_call 103; (refine (Hid.out K1).mono ?_; rintro e w2 ⟨rfl, hp2, hk2⟩))
  go_end0
  exact ⟨rfl, hp2, hk2⟩

set_option maxRecDepth 100000 in
set_option maxHeartbeats 1000000 in
theorem expr_6 (k : Nat) (pr : ET k → List UInt8) (dp : ET k → Nat) (ok : ET k → Prop) (ih : PrSaid k pr dp ok) (w0 : World) (h : EH) (ts : List (ET k)) (hk : h.kind = 6) (dh : EHr w0 h) (hn : h.an = ts.length) (dl : LiesAt 8 h.aa (eAt k) ts) (hr : ∀ u ∈ ts, ERd k w0 u) (hok : ∀ u ∈ ts, ok u) (hR : rightE h = true) (B b : Nat) (l : List UInt8) (op mo : Nat) (w : World) (hE : EnvT w0) (h0 : w0.heap.size ≤ B) (hb : Below w0.heap.size w0 w) (hB : B ≤ w.heap.size) (hp : Prn w B b l op mo)
    (hl : l.length + (prH h (ts.map (eH k)) (ts.map pr)).length ≤ 900000000) (ho : op + dpH h (ts.map (eH k)) (ts.map dp) ≤ 900000000) (hm : mo ≤ 900000000) (hmo : op ≤ mo) :
    Calls Tryz.prog 79 #[.pointer (some ⟨b, 0, none⟩), .pointer (some ⟨h.b, h.o, none⟩)] w (PrP w B b (l ++ prH h (ts.map (eH k)) (ts.map pr)) op (max mo (op + dpH h (ts.map (eH k)) (ts.map dp)))) := by
  have hO := okE_of hR
  unfold okE at hO
  have dw := dh.below (Nat.le_refl _) hb
  have c0 := dw.c0
  simp only [hk] at hO
  simp at hO
  obtain ⟨t, u, rfl⟩ := two_of' hn (by omega)
  have e1 : prH h ([t, u].map (eH k)) ([t, u].map pr) = argB h (eH k t) (pr t) ++ (32 :: (bs (sgnS h.op) ++ (32 :: argB h (eH k u) (pr u)))) := by unfold prH; simp [hk, on2]
  have e2 : dpH h ([t, u].map (eH k)) ([t, u].map dp) = max (argD h (eH k t) (dp t)) (argD h (eH k u) (dp u)) := by unfold dpH; simp [hk, on2]
  rw [e1] at hl ⊢
  rw [e2] at ho ⊢
  simp only [List.length_append, List.length_cons] at hl
  have K1 := hid (argument_of k pr dp ok ih w0 h [t, u] 0 t rfl (by omega) (by omega) dh dl (hr t (by simp)) (hok t (by simp)) B b l op mo w hE h0 hb hB hp (by omega) (by omega) hm hmo)
  have KS := hid (fun (w1 : World) => sign_any w1 h.op (by omega) (by omega))
  have ec : catL [⟨#[32]⟩, sgnS h.op, ⟨#[32]⟩] = 32 :: (bs (sgnS h.op) ++ [32]) := by simp [catL, bs]
  have K2 := hid (fun (w1 w2 : World) (h1 : Below B w w1) (h2 : Below w1.heap.size w1 w2) (hp1 : Prn w1 B b (l ++ argB h (eH k t) (pr t)) op (max mo (op + argD h (eH k t) (dp t)))) => write_new w2 B b _ op _ (hp1.below h2) [⟨#[32]⟩, sgnS h.op, ⟨#[32]⟩] 3 rfl (by omega) (Nat.le_trans hB (Nat.le_trans h1.size h2.size)) (by rw [ec]; simp; omega))
  simp only [ec, List.map_cons, List.map_nil] at K2
  have K3 := hid (fun (w1 : World) (h1 : Below B w w1) (hp1 : Prn w1 B b (l ++ argB h (eH k t) (pr t) ++ (32 :: (bs (sgnS h.op) ++ [32]))) op (max mo (op + argD h (eH k t) (dp t)))) => argument_of k pr dp ok ih w0 h [t, u] 1 u rfl (by omega) (by omega) dh dl (hr u (by simp)) (hok u (by simp)) B b _ op _ w1 hE h0 (hb.trans (h1.mono h0)) (Nat.le_trans hB h1.size) hp1 (by simp; omega) (by omega) (by omega) (by omega))
  have CX := hid (fun (w1 : World) (h1 : Below B w w1) => (dh.below (Nat.le_refl _) (hb.trans (h1.mono h0))).c1)
  have HF : Hid (max (max mo (op + argD h (eH k t) (dp t))) (op + argD h (eH k u) (dp u)) = max mo (op + max (argD h (eH k t) (dp t)) (argD h (eH k u) (dp u)))) := hid (by omega)
  have HB := hid hB
  clear ih dh hn dl hr hok hR hE h0 hb hp hl ho hm dw hO e1 e2 ec hmo
  go_enter Tryz.func79, Tryz.ntmps79
  go_wp2_with (first
    | (go_at_call 105; (have hno := HP1; refine (KS.out w1).mono ?_; rintro e w2 ⟨rfl, hb2⟩; have K2' := hid (K2.out w1 w2 HK1.out.1 hb2 HP1.out); have HK2 := hid (HK1.out.trans (Kpt.below hb2 (Nat.le_trans HB.out HK1.out.1.size))); clear hb2 cy))
    | (go_at_call 99; (refine (Hid.out K2').mono ?_; rintro e w3 ⟨rfl, hp3, hk3⟩; have HK3 := hid (HK2.out.trans hk3); have K3' := hid (K3.out w3 HK3.out.1 hp3); clear hp3 hk3))
    | (go_at_call 104; (have hno := K3'; refine (Hid.out K3').mono ?_; rintro e w4 ⟨rfl, hp4, hk4⟩))
    | (go_at_call 104; (refine (Hid.out K1).mono ?_; rintro e w1 ⟨rfl, hp1, hk1⟩; have cy := CX.out w1 hk1.1; have HP1 := hid hp1; have HK1 := hid hk1; clear hp1 hk1)))
  go_end0
  exact ⟨rfl, hp4.eq (by simp) HF.out, HK3.out.trans hk4⟩

set_option maxRecDepth 100000 in
set_option maxHeartbeats 1000000 in
theorem expr_7 (k : Nat) (pr : ET k → List UInt8) (dp : ET k → Nat) (ok : ET k → Prop) (ih : PrSaid k pr dp ok) (w0 : World) (h : EH) (ts : List (ET k)) (hk : h.kind = 7) (dh : EHr w0 h) (hn : h.an = ts.length) (dl : LiesAt 8 h.aa (eAt k) ts) (hr : ∀ u ∈ ts, ERd k w0 u) (hok : ∀ u ∈ ts, ok u) (hR : rightE h = true) (B b : Nat) (l : List UInt8) (op mo : Nat) (w : World) (hE : EnvT w0) (h0 : w0.heap.size ≤ B) (hb : Below w0.heap.size w0 w) (hB : B ≤ w.heap.size) (hp : Prn w B b l op mo)
    (hl : l.length + (prH h (ts.map (eH k)) (ts.map pr)).length ≤ 900000000) (ho : op + dpH h (ts.map (eH k)) (ts.map dp) ≤ 900000000) (hm : mo ≤ 900000000) (hmo : op ≤ mo) :
    Calls Tryz.prog 79 #[.pointer (some ⟨b, 0, none⟩), .pointer (some ⟨h.b, h.o, none⟩)] w (PrP w B b (l ++ prH h (ts.map (eH k)) (ts.map pr)) op (max mo (op + dpH h (ts.map (eH k)) (ts.map dp)))) := by
  have hO := okE_of hR
  unfold okE at hO
  have dw := dh.below (Nat.le_refl _) hb
  have c0 := dw.c0
  simp only [hk] at hO
  simp at hO
  obtain ⟨t, rfl⟩ := one_of hn (by omega)
  have e1 : prH h ([t].map (eH k)) ([t].map pr) = argB h (eH k t) (pr t) ++ (46 :: bs h.name) := by unfold prH; simp [hk, on1]
  have e2 : dpH h ([t].map (eH k)) ([t].map dp) = argD h (eH k t) (dp t) := by unfold dpH; simp [hk, on1]
  rw [e1] at hl ⊢
  rw [e2] at ho ⊢
  simp only [List.length_append, List.length_cons] at hl
  have K1 := hid (argument_of k pr dp ok ih w0 h [t] 0 t rfl (by omega) (by omega) dh dl (hr t (by simp)) (hok t (by simp)) B b l op mo w hE h0 hb hB hp (by omega) (by omega) hm hmo)
  have ec : catL [⟨#[46]⟩, h.name] = 46 :: bs h.name := by simp [catL, bs]
  have K2 := hid (fun (w1 : World) (h1 : Below B w w1) (hp1 : Prn w1 B b (l ++ argB h (eH k t) (pr t)) op (max mo (op + argD h (eH k t) (dp t)))) => write_new w1 B b _ op _ hp1 [⟨#[46]⟩, h.name] 2 rfl (by omega) (Nat.le_trans hB h1.size) (by rw [ec]; simp; omega))
  simp only [ec, List.map_cons, List.map_nil] at K2
  have CX := hid (fun (w1 : World) (h1 : Below B w w1) => (dh.below (Nat.le_refl _) (hb.trans (h1.mono h0))).c4)
  clear ih dh hn dl hr hok hR hE h0 hb hp hl ho hm dw hO e1 e2 ec hmo
  go_enter Tryz.func79, Tryz.ntmps79
  go_wp2_with (first
    | (go_at_call 99; (refine (Hid.out K2').mono ?_; rintro e w3 ⟨rfl, hp3, hk3⟩))
    | (go_at_call 104; (refine (Hid.out K1).mono ?_; rintro e w1 ⟨rfl, hp1, hk1⟩; have cy := CX.out w1 hk1.1; have K2' := hid (K2.out w1 hk1.1 hp1); have HK1 := hid hk1; clear hp1 hk1)))
  go_end0
  exact ⟨rfl, hp3.eq (by simp) rfl, HK1.out.trans hk3⟩

set_option maxRecDepth 100000 in
set_option maxHeartbeats 1000000 in
theorem expr_9 (k : Nat) (pr : ET k → List UInt8) (dp : ET k → Nat) (ok : ET k → Prop) (ih : PrSaid k pr dp ok) (w0 : World) (h : EH) (ts : List (ET k)) (hk : h.kind = 9) (dh : EHr w0 h) (hn : h.an = ts.length) (dl : LiesAt 8 h.aa (eAt k) ts) (hr : ∀ u ∈ ts, ERd k w0 u) (hok : ∀ u ∈ ts, ok u) (hR : rightE h = true) (B b : Nat) (l : List UInt8) (op mo : Nat) (w : World) (hE : EnvT w0) (h0 : w0.heap.size ≤ B) (hb : Below w0.heap.size w0 w) (hB : B ≤ w.heap.size) (hp : Prn w B b l op mo)
    (hl : l.length + (prH h (ts.map (eH k)) (ts.map pr)).length ≤ 900000000) (ho : op + dpH h (ts.map (eH k)) (ts.map dp) ≤ 900000000) (hm : mo ≤ 900000000) (hmo : op ≤ mo) :
    Calls Tryz.prog 79 #[.pointer (some ⟨b, 0, none⟩), .pointer (some ⟨h.b, h.o, none⟩)] w (PrP w B b (l ++ prH h (ts.map (eH k)) (ts.map pr)) op (max mo (op + dpH h (ts.map (eH k)) (ts.map dp)))) := by
  have hO := okE_of hR
  unfold okE at hO
  have dw := dh.below (Nat.le_refl _) hb
  have c0 := dw.c0
  simp only [hk] at hO
  simp at hO
  obtain ⟨t, rfl⟩ := one_of hn (by omega)
  have e1 : prH h ([t].map (eH k)) ([t].map pr) = (bs h.name ++ (91 :: (pr t ++ [93]))) := by unfold prH; simp [hk, on1]
  have e2 : dpH h ([t].map (eH k)) ([t].map dp) = 1 + dp t := by unfold dpH; simp [hk, on1]
  rw [e1] at hl ⊢
  rw [e2] at ho ⊢
  simp only [List.length_append, List.length_cons, List.length_nil, bs_len] at hl
  obtain ⟨ab, aoff, eaa, hat⟩ := dl 0 t rfl
  simp only [eAt, Prod.mk.injEq] at hat
  have hanI : h.an = 1 := by omega
  have hbd : Below w.heap.size w w.drew := (Below.refl _ w).drew
  have K1 := hid ((entry_of k pr dp ok ih w0 t h.name B b l op mo w.drew (hr t (by simp)) (hok t (by simp)) hE h0 hb.drew hB hp.drew (by omega) (by omega) hm).mono (fun e w' h' => PrP.of hB hbd h'))
  rw [hat.1, hat.2] at K1
  have c4 := dw.c4
  have c6 := dw.c6
  rw [eaa, hanI] at c6
  have C4 := hid (fun (w1 : World) (h1 : Below B w w1) => (dh.below (Nat.le_refl _) (hb.trans (h1.mono h0))).c4)
  have C6 := hid (fun (w1 : World) (h1 : Below B w w1) => (dh.below (Nat.le_refl _) (hb.trans (h1.mono h0))).c6)
  rw [eaa, hanI] at C6
  clear ih dh hn dl hr hok hR hE h0 hb hp hl ho hm dw hO e1 e2 hat eaa hanI hbd hmo
  go_enter Tryz.func79, Tryz.ntmps79
  go_wp2
  go_region_held3 (fun w2 => w2.cell? ⟨h.b, h.o + 4, none⟩ = some (.string h.name) ∧ w2.cell? ⟨h.b, h.o + 6, none⟩ = some (.slice (some ⟨ab, aoff, none⟩) 1 h.ac)) (first | exact ⟨C4.out _ hk2.1, C6.out _ hk2.1⟩ | go_keep) (first | (go_at_call 109; (refine (Hid.out K1).mono ?_; rintro e w2 ⟨rfl, hp2, hk2⟩)))
  go_wp2
  go_end0
  exact ⟨rfl, hp2, hk2⟩

set_option maxRecDepth 100000 in
set_option maxHeartbeats 1000000 in
theorem expr_10 (k : Nat) (pr : ET k → List UInt8) (dp : ET k → Nat) (ok : ET k → Prop) (ih : PrSaid k pr dp ok) (w0 : World) (h : EH) (ts : List (ET k)) (hk : h.kind = 10) (dh : EHr w0 h) (hn : h.an = ts.length) (dl : LiesAt 8 h.aa (eAt k) ts) (hr : ∀ u ∈ ts, ERd k w0 u) (hok : ∀ u ∈ ts, ok u) (hR : rightE h = true) (B b : Nat) (l : List UInt8) (op mo : Nat) (w : World) (hE : EnvT w0) (h0 : w0.heap.size ≤ B) (hb : Below w0.heap.size w0 w) (hB : B ≤ w.heap.size) (hp : Prn w B b l op mo)
    (hl : l.length + (prH h (ts.map (eH k)) (ts.map pr)).length ≤ 900000000) (ho : op + dpH h (ts.map (eH k)) (ts.map dp) ≤ 900000000) (hm : mo ≤ 900000000) (hmo : op ≤ mo) :
    Calls Tryz.prog 79 #[.pointer (some ⟨b, 0, none⟩), .pointer (some ⟨h.b, h.o, none⟩)] w (PrP w B b (l ++ prH h (ts.map (eH k)) (ts.map pr)) op (max mo (op + dpH h (ts.map (eH k)) (ts.map dp)))) := by
  have hO := okE_of hR
  unfold okE at hO
  have dw := dh.below (Nat.le_refl _) hb
  have c0 := dw.c0
  simp only [hk] at hO
  simp at hO
  obtain ⟨t, rfl⟩ := one_of hn (by omega)
  have e1 : prH h ([t].map (eH k)) ([t].map pr) = 104 :: 97 :: 115 :: 32 :: (bs h.name ++ (91 :: (pr t ++ [93]))) := by unfold prH; simp [hk, on1]
  have e2 : dpH h ([t].map (eH k)) ([t].map dp) = 1 + dp t := by unfold dpH; simp [hk, on1]
  rw [e1] at hl ⊢
  rw [e2] at ho ⊢
  simp only [List.length_append, List.length_cons, List.length_nil, bs_len] at hl
  obtain ⟨ab, aoff, eaa, hat⟩ := dl 0 t rfl
  simp only [eAt, Prod.mk.injEq] at hat
  have hanI : h.an = 1 := by omega
  have ec : catL [⟨#[104, 97, 115, 32]⟩] = [104, 97, 115, 32] := by simp [catL]
  have K0 := hid (write_new w B b l op mo hp [⟨#[104, 97, 115, 32]⟩] 1 rfl (by omega) hB (by rw [ec]; simp; omega))
  simp only [ec, List.map_cons, List.map_nil] at K0
  have K1 := hid (fun (w1 : World) (h1 : Below B w w1) (hp1 : Prn w1 B b (l ++ [104, 97, 115, 32]) op mo) => (entry_of k pr dp ok ih w0 t h.name B b _ op mo w1.drew (hr t (by simp)) (hok t (by simp)) hE h0 (hb.trans (h1.mono h0)).drew (Nat.le_trans hB h1.size) hp1.drew (by simp; omega) (by omega) hm).mono (fun e w' h' => PrP.of (Nat.le_trans hB h1.size) ((Below.refl _ w1).drew) h'))
  simp only [hat.1, hat.2] at K1
  have C4 := hid (fun (w1 : World) (h1 : Below B w w1) => (dh.below (Nat.le_refl _) (hb.trans (h1.mono h0))).c4)
  have C6 := hid (fun (w1 : World) (h1 : Below B w w1) => (dh.below (Nat.le_refl _) (hb.trans (h1.mono h0))).c6)
  rw [eaa, hanI] at C6
  clear ih dh hn dl hr hok hR hE h0 hb hp hl ho hm dw hO e1 e2 hat eaa hanI ec hmo
  go_enter Tryz.func79, Tryz.ntmps79
  go_wp2_with (go_at_call 99; (refine (Hid.out K0).mono ?_; rintro e w1 ⟨rfl, hp1, hk1⟩; have c4 := C4.out w1 hk1.1; have c6 := C6.out w1 hk1.1; have K1' := hid (K1.out w1 hk1.1 hp1); have HK1 := hid hk1; clear hp1 hk1))
  go_region_held3 (fun w2 => w2.cell? ⟨h.b, h.o + 4, none⟩ = some (.string h.name) ∧ w2.cell? ⟨h.b, h.o + 6, none⟩ = some (.slice (some ⟨ab, aoff, none⟩) 1 h.ac)) (first | exact ⟨C4.out _ (HK1.out.trans hk2).1, C6.out _ (HK1.out.trans hk2).1⟩ | go_keep) (first | (go_at_call 109; (refine (Hid.out K1').mono ?_; rintro e w2 ⟨rfl, hp2, hk2⟩)))
  go_wp2
  go_end0
  exact ⟨rfl, hp2.eq (by simp) rfl, HK1.out.trans hk2⟩

set_option maxRecDepth 100000 in
set_option maxHeartbeats 1000000 in
theorem expr_11 (k : Nat) (pr : ET k → List UInt8) (dp : ET k → Nat) (ok : ET k → Prop) (ih : PrSaid k pr dp ok) (w0 : World) (h : EH) (ts : List (ET k)) (hk : h.kind = 11) (dh : EHr w0 h) (hn : h.an = ts.length) (dl : LiesAt 8 h.aa (eAt k) ts) (hr : ∀ u ∈ ts, ERd k w0 u) (hok : ∀ u ∈ ts, ok u) (hR : rightE h = true) (B b : Nat) (l : List UInt8) (op mo : Nat) (w : World) (hE : EnvT w0) (h0 : w0.heap.size ≤ B) (hb : Below w0.heap.size w0 w) (hB : B ≤ w.heap.size) (hp : Prn w B b l op mo)
    (hl : l.length + (prH h (ts.map (eH k)) (ts.map pr)).length ≤ 900000000) (ho : op + dpH h (ts.map (eH k)) (ts.map dp) ≤ 900000000) (hm : mo ≤ 900000000) (hmo : op ≤ mo) :
    Calls Tryz.prog 79 #[.pointer (some ⟨b, 0, none⟩), .pointer (some ⟨h.b, h.o, none⟩)] w (PrP w B b (l ++ prH h (ts.map (eH k)) (ts.map pr)) op (max mo (op + dpH h (ts.map (eH k)) (ts.map dp)))) := by
  have hO := okE_of hR
  unfold okE at hO
  have dw := dh.below (Nat.le_refl _) hb
  have c0 := dw.c0
  simp only [hk] at hO
  simp at hO
  have e1 : prH h (ts.map (eH k)) (ts.map pr) = (bs h.name ++ (40 :: (jn (ts.map pr) ++ [41]))) := by unfold prH; simp [hk]
  have e2 : dpH h (ts.map (eH k)) (ts.map dp) = 1 + mxL (ts.map dp) := by unfold dpH; simp [hk]
  rw [e1] at hl ⊢
  rw [e2] at ho ⊢
  simp only [List.length_append, List.length_cons, List.length_nil, bs_len] at hl
  have C4 := hid (fun (w1 : World) (h1 : Below B w w1) => (dh.below (Nat.le_refl _) (hb.trans (h1.mono h0))).c4)
  have C6 := hid (fun (w1 : World) (h1 : Below B w w1) => (dh.below (Nat.le_refl _) (hb.trans (h1.mono h0))).c6)
  have K1 := hid ((call_of k pr dp ok ih w0 h.name h.aa h.an h.ac ts hn dh.ab dl hr hok B b l op mo w.drew hE h0 hb.drew hB hp.drew (by omega) (by omega) hm).mono (fun e w' h' => PrP.of hB ((Below.refl _ w).drew) h'))
  have c4 := dw.c4
  have c6 := dw.c6
  clear ih dh hn dl hr hok hR hE h0 hb hp hl ho hm dw hO e1 e2 hmo
  go_enter Tryz.func79, Tryz.ntmps79
  go_wp2
  go_region_held3 (fun w2 => w2.cell? ⟨h.b, h.o + 4, none⟩ = some (.string h.name) ∧ w2.cell? ⟨h.b, h.o + 6, none⟩ = some (.slice h.aa h.an h.ac)) (first | exact ⟨C4.out _ hk2.1, C6.out _ hk2.1⟩ | go_keep) (first | (go_at_call 110; (refine (Hid.out K1).mono ?_; rintro e w2 ⟨rfl, hp2, hk2⟩)))
  go_wp2
  go_end0
  exact ⟨rfl, hp2, hk2⟩

set_option maxRecDepth 100000 in
set_option maxHeartbeats 1000000 in
theorem expr_12 (k : Nat) (pr : ET k → List UInt8) (dp : ET k → Nat) (ok : ET k → Prop) (ih : PrSaid k pr dp ok) (w0 : World) (h : EH) (ts : List (ET k)) (hk : h.kind = 12) (dh : EHr w0 h) (hn : h.an = ts.length) (dl : LiesAt 8 h.aa (eAt k) ts) (hr : ∀ u ∈ ts, ERd k w0 u) (hok : ∀ u ∈ ts, ok u) (hR : rightE h = true) (B b : Nat) (l : List UInt8) (op mo : Nat) (w : World) (hE : EnvT w0) (h0 : w0.heap.size ≤ B) (hb : Below w0.heap.size w0 w) (hB : B ≤ w.heap.size) (hp : Prn w B b l op mo)
    (hl : l.length + (prH h (ts.map (eH k)) (ts.map pr)).length ≤ 900000000) (ho : op + dpH h (ts.map (eH k)) (ts.map dp) ≤ 900000000) (hm : mo ≤ 900000000) (hmo : op ≤ mo) :
    Calls Tryz.prog 79 #[.pointer (some ⟨b, 0, none⟩), .pointer (some ⟨h.b, h.o, none⟩)] w (PrP w B b (l ++ prH h (ts.map (eH k)) (ts.map pr)) op (max mo (op + dpH h (ts.map (eH k)) (ts.map dp)))) := by
  have hO := okE_of hR
  unfold okE at hO
  have dw := dh.below (Nat.le_refl _) hb
  have c0 := dw.c0
  simp only [hk] at hO
  simp at hO
  have e1 : prH h (ts.map (eH k)) (ts.map pr) = 97 :: 115 :: 107 :: 32 :: (bs h.name ++ (40 :: (jn (ts.map pr) ++ [41]))) := by unfold prH; simp [hk]
  have e2 : dpH h (ts.map (eH k)) (ts.map dp) = 1 + mxL (ts.map dp) := by unfold dpH; simp [hk]
  rw [e1] at hl ⊢
  rw [e2] at ho ⊢
  simp only [List.length_append, List.length_cons, List.length_nil, bs_len] at hl
  have C4 := hid (fun (w1 : World) (h1 : Below B w w1) => (dh.below (Nat.le_refl _) (hb.trans (h1.mono h0))).c4)
  have C6 := hid (fun (w1 : World) (h1 : Below B w w1) => (dh.below (Nat.le_refl _) (hb.trans (h1.mono h0))).c6)
  have ec : catL [⟨#[97, 115, 107, 32]⟩] = [97, 115, 107, 32] := by simp [catL]
  have K0 := hid (write_new w B b l op mo hp [⟨#[97, 115, 107, 32]⟩] 1 rfl (by omega) hB (by rw [ec]; simp; omega))
  simp only [ec, List.map_cons, List.map_nil] at K0
  have K1 := hid (fun (w1 : World) (h1 : Below B w w1) (hp1 : Prn w1 B b (l ++ [97, 115, 107, 32]) op mo) => (call_of k pr dp ok ih w0 h.name h.aa h.an h.ac ts hn dh.ab dl hr hok B b _ op mo w1.drew hE h0 (hb.trans (h1.mono h0)).drew (Nat.le_trans hB h1.size) hp1.drew (by simp; omega) (by omega) hm).mono (fun e w' h' => PrP.of (Nat.le_trans hB h1.size) ((Below.refl _ w1).drew) h'))
  clear ih dh hn dl hr hok hR hE h0 hb hp hl ho hm dw hO e1 e2 ec hmo
  go_enter Tryz.func79, Tryz.ntmps79
  go_wp2_with (go_at_call 99; (refine (Hid.out K0).mono ?_; rintro e w1 ⟨rfl, hp1, hk1⟩; have c4 := C4.out w1 hk1.1; have c6 := C6.out w1 hk1.1; have K1' := hid (K1.out w1 hk1.1 hp1); have HK1 := hid hk1; clear hp1 hk1))
  go_region_held3 (fun w2 => w2.cell? ⟨h.b, h.o + 4, none⟩ = some (.string h.name) ∧ w2.cell? ⟨h.b, h.o + 6, none⟩ = some (.slice h.aa h.an h.ac)) (first | exact ⟨C4.out _ (HK1.out.trans hk2).1, C6.out _ (HK1.out.trans hk2).1⟩ | go_keep) (first | (go_at_call 110; (refine (Hid.out K1').mono ?_; rintro e w2 ⟨rfl, hp2, hk2⟩)))
  go_wp2
  go_end0
  exact ⟨rfl, hp2.eq (by simp) rfl, HK1.out.trans hk2⟩
end Go.Proofs.YtdfambocenohgaaGreatDoor

