/- DiskPlays: the long way. -/
import Derived.Test.YtbhopjnolgfpnaaS
import Derived.Test.YtbhopjnolgfpnaaT
import Derived.Test.YtbhopjnolgfpnaaU
namespace Go.Proofs.Ytbhopjnolgfpnaa
open Go.RowKit Go.Deep
set_option linter.unusedVariables false
set_option linter.unusedSimpArgs false

set_option maxRecDepth 100000 in
set_option maxHeartbeats 4000000 in
theorem plays_yes (w : World) (n : Nat) (a0 : Option Addr) (len cap : Nat) (hlen : len ≤ 50) (hb : 1 ≤ n) (hb' : n ≤ 20) (st : Nat → Stp)
    (hst : StIn w a0 len w.heap.size st) :
    Calls Try.prog 3 #[.int .i64 (n : Int), .slice a0 len cap] w fun e w' => e = .returned (.bool true) ∧ Below w.heap.size w w' := by
  have h' : ¬ (50 : Int) < (len : Int) := by omega
  have hmk := mk_rows n hb'
  have hst' := hid hst
  clear hst
  go_enter Try.func3, Try.ntmps3
  go_upto_block 0 with (first | (go_at_call 4; refine (known_any _).mono ?_; rintro e w1 ⟨rfl, hB1⟩) | (go_at_call 5; refine (new_at _ _ n rfl hb (by omega)).mono ?_; rintro e w2 ⟨bd, bf, bn, cn, rfl, h1, h2, h3, hD, hB2⟩))
  clear hmk
  have hN : Now1 (w2.alloc (.cells (List.replicate n (.slice none 0 0)).toArray 30)) w2.heap.size n 0 := ⟨_, heap_alloc_new w2 _, by simp, fun i hi => by omega⟩
  have hBs : Below w2.heap.size w2 (w2.alloc (.cells (List.replicate n (.slice none 0 0)).toArray 30)) := (Below.refl _ _).alloc (Nat.le_refl _) _
  go_cut [9] from 28 (fun _ wc => Now1 wc w2.heap.size n n ∧ Below w2.heap.size w2 wc)
  case first =>
    go_wp2_with fail
    have hmb := mk_bytes 0 256 (by omega)
    rw [show ((256 : Nat) : Int) = 256 from rfl] at hmb
    go_loopg [9] n (fun g i wr => ∃ k : Nat, k + g = n ∧ i = .int .i64 k ∧ Now1 wr w2.heap.size n k ∧ Below w2.heap.size w2 wr)
    case atStart => exact ⟨0, by omega, rfl, hN, hBs⟩
    case round =>
      obtain ⟨k, hk, rfl, hn1, hbw⟩ := hrel
      have Hk := hid hk
      have hkn : k ≤ n := by omega
      clear hk
      by_cases hlt : k < n
      · obtain ⟨⟨u, hu⟩, hf, hl⟩ := hn1.cell hlt
        have hne : ¬ w2.heap.size = wr.heap.size := by omega
        go_wp2
        go_roundg (n - (k + 1))
        case measure => have := Hk.out; omega
        case rel => exact ⟨k + 1, by omega, by go_num, hn1.next' hlt, (hbw.setCell (p := ⟨w2.heap.size, k, none⟩) (Nat.le_refl _) _).alloc (by have := hbw.size; simp [World.setCell]; omega) _⟩
      · have hke : k = n := by omega
        subst hke
        go_wp2
        go_meet
        case rel => exact ⟨hn1, hbw⟩
  case rest =>
    obtain ⟨hn1, hbl⟩ := hcut
    have hnow := hn1.all
    obtain ⟨vals, hv1, hv2⟩ := hnow
    have hvl : vals.length = n := by rw [hv2.1]; simp [replay]
    have hcv : ∀ j u, vals[j]? = some u → wc.cell? ((⟨w2.heap.size, 0, none⟩ : Addr).add j) = some u := fun j u hu => by
      rw [Addr.add_lit, Nat.zero_add, cellOf hv1]; simpa using hu
    have h1v := hv2.one
    obtain ⟨i30, hi30, hz30, hs30, hy30⟩ := info_parts info30
    obtain ⟨i29, hi29, hz29, hs29, hy29⟩ := info_parts info29
    have Hv1 := hid hv1
    have Hcv := hid hcv
    have H1v := hid h1v
    have Hhn := hid hvl
    clear hv1 hcv h1v hvl hN hBs
    go_upto_block 2 with (first | (at_builtin; refine wpList_append_lies _ rfl (.const (.slice none 0 0)) (.tmp 76) 29 rfl w2.heap.size 30 i30 (.slice none 0 0) 1 24 Try.underlying29 hi30 hz30 hs30 hy30 rfl (by decide) (.slice none 0 0) 0 [] rfl (World.ownsRow_nil _ _ _ _) ⟨w2.heap.size, 0, none⟩ n n vals rfl (by rw [Hhn.out]; omega) Hcv.out H1v.out (by omega) (by unfold maxLen; omega) (by omega) hbl.size _ rfl ?_; intro g1 c1 w3 ho3 hg3 ha3 hl3) | (at_builtin; refine wpList_append_lies _ rfl (.tmp 75) (.tmp 78) 28 rfl w1.heap.size 29 i29 (.slice none 0 0) 1 24 Try.underlying28 hi29 hz29 hs29 hy29 rfl (by decide) (.slice none 0 0) 0 [] rfl (World.ownsRow_nil _ _ _ _) ⟨w3.heap.size, 0, none⟩ 1 1 [.slice (some ⟨g1, 0, none⟩) n c1] rfl rfl (cell_one_new _ _ _) (by simp [Value.oneCell']) (by omega) (by unfold maxLen; omega) (by omega) (by have := hB2.size; have := hbl.size; have := hg3.size; simp; omega) _ rfl ?_; intro g2 c2 w4 ho4 hg4 ha4 hl4))
    have hs2 := hB2.size
    have hsc := hbl.size
    have hs3 := hg3.size
    have hs4 := hg4.size
    simp only [World.size_alloc] at hs4
    have hLI : LI w1 w1.heap.size bd bf n bn cn w2.heap.size (zs n) [] [] [] (-1) (.slice (some ⟨g2, 0, none⟩) 1 c2) w4 := by
      have hB3 : Below wc.heap.size wc w3 := ⟨hg3.os, hg3.tape, hg3.output, hg3.size, fun k hk => hg3.block k hk (by simp [Value.ownBlock])⟩
      have hB4 : Below (w3.heap.size + 1) (w3.alloc (.cells #[.slice (some ⟨g1, 0, none⟩) n c1] 29)) w4 := ⟨hg4.os, hg4.tape, hg4.output, hg4.size, fun k hk => hg4.block k (by simpa using hk) (by simp [Value.ownBlock])⟩
      have hB34 : Below w3.heap.size w3 w4 := ((Below.refl _ _).alloc (Nat.le_refl _) _).trans (hB4.mono (by omega))
      have hBc4 : Below wc.heap.size wc w4 := hB3.trans (hB34.mono hs3)
      have hnow : NowIs wc w2.heap.size (replay (zs n) []) := ⟨vals, Hv1.out, hv2⟩
      have hl0 : (replay (zs n) []).length = n := by simp [replay, zs]
      have hm3 : MomIs w3 w2.heap.size (.slice (some ⟨g1, 0, none⟩) (replay (zs n) []).length c1) (replay (zs n) []) := moment_of Hv1.out hv2 (by rw [hl0]; simpa using ho3) hg3 (by rcases ha3 with h | h; (cases h); have := (Array.getElem?_eq_some_iff.1 Hv1.out).1; omega)
      rw [hl0] at hm3
      have kk : ∀ (j : Nat) (o : Obj), wc.heap[j]? = some o → w4.heap[j]? = wc.heap[j]? := fun j o ho => hBc4.block j (Array.getElem?_eq_some_iff.1 ho).1
      have k3 : ∀ (j : Nat) (o : Obj), w3.heap[j]? = some o → w4.heap[j]? = w3.heap[j]? := fun j o ho => hB34.block j (Array.getElem?_eq_some_iff.1 ho).1
      refine ⟨(hB2.trans (hbl.mono hs2)).trans (hBc4.mono (by omega)), ⟨.slice none 0 0, ?_, fun g e => by cases e⟩, hnow.kept (hBc4.block _ (Array.getElem?_eq_some_iff.1 Hv1.out).1) (fun j c f => kk j _), ⟨[.slice (some ⟨g1, 0, none⟩) n c1], by simpa using ho4, fun m hm => ?_⟩, Nat.le_refl _, h1, h2, hs2⟩
      · exact hD.below (hbl.trans (hBc4.mono hsc))
      · have : m = 0 := by simpa using hm
        subst this
        exact ⟨_, rfl, by simpa using hm3.kept (fun j c f => k3 j _) (fun j c f _ => k3 j _)⟩
    have hL2 : L2 w1 w1.heap.size bd bf n bn cn w2.heap.size n [] (-1) 0 (.slice (some ⟨g2, 0, none⟩) 1 c2) (-1) false w4 :=
      ⟨hLI, by simp, by simp, by decide, fun _ => .inl rfl, by omega, by omega, by omega⟩
    have hst1 : StIn w1 a0 len w1.heap.size st := fun j hj => by
      obtain ⟨b, off, q0, q1, q2, q3, q4, q5, q6, q7⟩ := hst'.out j hj
      have hs1 := hB1.size
      exact ⟨b, off, q0, by omega, (hB1.cell (p := ⟨b, _, none⟩) q1).trans q2, (hB1.cell (p := ⟨b, _, none⟩) q1).trans q3, (hB1.cell (p := ⟨b, _, none⟩) q1).trans q4, (hB1.cell (p := ⟨b, _, none⟩) q1).trans q5, (hB1.cell (p := ⟨b, _, none⟩) q1).trans q6, q7⟩
    have HLI := hid hL2
    clear hLI hL2 hv2 hn1 ho3 ho4 hg3 hg4 ha3 ha4 hl3 hl4 hD
    refine loop2 w1 w1.heap.size bd bf n bn cn w2.heap.size n a0 len cap hlen hb hb' st hst1 (Nat.le_refl _) _ _ ?_ _ w4 HLI.out _ _ _ _ _ _ _ _ _ _ _ _ _ _ _ _ _ _ _ _ _ _ _ _ _ _ _ _ _ _ _ _ _ _ _ _ _ _ _ _ _ _ _ _ _ _ _ _ _ _ _ _ _ _ _ _ _ _ _ _ _ _ _ _ _ _ _ _ _ _ _ _ _ _ _ _ _ _ _ _ _ _ _ _ _ _ _ _ _ _ _ _ _ _ _ _ _ _ _ _ _ _ _ _ _ _ _ _ _ _ _ _ _ _ _ _ _ _ _ _ _ _ _ _ _ _ _ _ _ _ _ _ _ _ _ _ _ _ _ _ _ _ _ _ _ _ _ _ _ _ _ _ _ _ _ _ _ _ _ _ _ _ _ _ _ _ _ _ _ _ _ _ _ _ _ _ _ _ _ _ _ _ _ _ _ _ _ _ _ _ _ _ _ _ _ _ _ _ _ _ _ _ _ _ _ _ _ _ _ _ _ _ _ _ _ _ _ _ _ _ _ _ _ _ _ _ _ _ _ _ _ _ _ _ _ _ _ _ _ _ _ _ _ _ _ _ _ _ _ _ _ _ _ _ _ _ _ _ _ _ _ _ _ _ _ _ _ _ _ _ _ _ _ _ _ _ _ _ _ _ _ _ _ _ _ _ _ _ _ _ _ _ _ _ _ _ _ _ _ _
    intro vm3 left3 cut3 k3 x2 x3 x4 x6 x9 x13 x14 x15 x16 x17 x18 x19 x20 x21 x22 x23 x24 x25 x26 x27 x28 x29 x30 x31 x32 x33 x34 x35 x36 x37 x38 x39 x40 x41 x42 x43 x44 x45 x46 x47 x48 x49 x50 x51 x52 x53 x54 x55 x56 x57 x58 x59 x60 x61 x62 x63 x64 x65 x66 x67 x68 x69 x70 x71 x72 x73 x74 x75 x76 x77 x78 x79 x80 x81 x82 x83 x84 x85 x86 x87 x88 x89 x90 x91 x92 x93 x94 x95 x96 x97 x98 x99 x100 x101 x102 x103 x104 x105 x106 x107 x108 x109 x110 x111 x112 x113 x114 x115 x116 x117 x118 x119 x120 x121 x122 x123 x124 x125 x126 x127 x128 x129 x130 x131 x132 x133 x134 x135 x136 x137 x138 x139 x140 x141 x142 x143 x144 x145 x146 x147 x148 x149 x150 x151 x152 x153 x154 x155 x156 x157 x158 x159 x160 x161 x162 x163 x164 x165 x166 x167 x168 x169 x170 x171 x172 x173 x174 x175 x176 x177 x178 x179 x180 x181 x182 x183 x184 x185 x186 x187 x188 x189 x190 x191 x192 x193 x194 x195 x196 x197 x198 x199 x200 x201 x202 x203 x204 x205 x206 x207 x208 x209 x210 x211 x212 x213 x214 x215 x216 x217 x218 x219 x220 x221 x222 x223 x224 x225 x226 x227 x228 x229 x230 x231 x232 x233 x234 x235 x236 x237 x238 x239 x240 x241 x242 x243 x244 x245 x246 x247 x248 x249 x250 x251 x252 x253 x254 x255 x256 x257 x258 x259 x260 x261 x262 x263 x264 x265 x266 x267 x268 x269 x270 x271 x272 x273 x274 x275 x276 x277 x278 x279 x280 x281 x282 x283 x284 x285 x286 x287 x288 x289 x290 x291 x292 x293 x294 x295 x296 x297 x298 x299 x300 x301 x302 x303 x304 x305 x306 x307 W3 hW3
    obtain ⟨R, dl, hL3⟩ := hW3
    obtain ⟨gm, cm, rfl⟩ := hL3.vmIs
    have HL3 := hid hL3
    clear hL3 HLI hst1
    go_upto_block 7 with fail
    refine loop3 w1 w1.heap.size bd bf n bn cn w2.heap.size n gm cm hb hb' R (Nat.le_trans HL3.out.2.1 hlen) HL3.out.2.2.1 dl W3 HL3.out.1 _ _ _ _ _ _ _ _ _ _ _ _ _ _ _ _ _ _ _ _ _ _ _ _ _ _ _ _ _ _ _ _ _ _ _ _ _ _ _ _ _ _ _ _ _ _ _ _ _ _ _ _ _ _ _ _ _ _ _ _ _ _ _ _ _ _ _ _ _ _ _ _ _ _ _ _ _ _ _ _ _ _ _ _ _ _ _ _ _ _ _ _ _ _ _ _ _ _ _ _ _ _ _ _ _ _ _ _ _ _ _ _ _ _ _ _ _ _ _ _ _ _ _ _ _ _ _ _ _ _ _ _ _ _ _ _ _ _ _ _ _ _ _ _ _ _ _ _ _ _ _ _ _ _ _ _ _ _ _ _ _ _ _ _ _ _ _ _ _ _ _ _ _ _ _ _ _ _ _ _ _ _ _ _ _ _ _ _ _ _ _ _ _ _ _ _ _ _ _ _ _ _ _ _ _ _ _ _ _ _ _ _ _ _ _ _ _ _ _ _ _ _ _ _ _ _ _ _ _ _ _ _ _ _ _ _ _ _ _ _ _ _ _ _ _ _ _ _ _ _ _ _ _ _ _ _ _ _ _ _ _ _ _ _ _ _ _ _ _ _ _ _ _ _ _ _ _ _ _ _ _ _ _ _ _ _ _ _ _ _ _ _ _ _ _ _ _ _ _ _ _ _ _ _ _ _ ?_
    intro y19 y4 y20 y21 y22 y23 y24 y208 y209 y210 y211 y212 y213 y214 y215 y216 y217 y218 y219 y220 y221 y222 y223 y224 y225 y226 y227 y228 y229 y230 y231 y232 y233 y234 y235 y236 y237 y238 y239 y240 y241 y242 y243 y244 y245 y246 y247 y248 y249 y250 y251 y252 y253 y254 y255 y256 y257 y258 y259 y260 y261 y262 y263 y264 y265 y266 y267 y268 y269 y270 y271 y272 y273 y274 y275 y276 y277 y278 y279 y280 y281 y282 y283 W5 hL5
    obtain ⟨vr5, hD5, hvr5⟩ := hL5.disk
    have hrs := hid (restart_any W5 bd _ _ _ _ hD5.dk)
    have HL5 := hid (hL5.setLeft (-1))
    clear hL5 hD5 hvr5
    go_upto_block 11 with (go_at_call 10; refine (Hid.out hrs).mono ?_; rintro e W6 ⟨rfl, rfl⟩)
    refine loop5 w1 w1.heap.size bd bf n bn cn w2.heap.size n _ hb hb' R HL3.out.2.2.1 _ HL5.out _ _ _ _ _ _ _ _ _ _ _ _ _ _ _ _ _ _ _ _ _ _ _ _ _ _ _ _ _ _ _ _ _ _ _ _ _ _ _ _ _ _ _ _ _ _ _ _ _ _ _ _ _ _ _ _ _ _ _ _ _ _ _ _ _ _ _ _ _ _ _ _ _ _ _ _ _ _ _ _ _ _ _ _ _ _ _ _ _ _ _ _ _ _ _ _ _ _ _ _ _ _ _ _ _ _ _ _ _ _ _ _ _ _ _ _ _ _ _ _ _ _ _ _ _ _ _ _ _ _ _ _ _ _ _ _ _ _ _ _ _ _ _ _ _ _ _ _ _ _ _ _ _ _ _ _ _ _ _ _ _ _ _ _ _ _ _ _ _ _ _ _ _ _ _ _ _ _ _ _ _ _ _ _ _ _ _ _ _ _ _ _ _ _ _ _ _ _ _ _ _ _ _ _ _ _ _ _ _ _ _ _ _ _ _ _ _ _ _ _ _ _ _ _ _ _ _ _ _ _ _ _ _ _ _ _ _ _ _ _ _ _ _ _ _ _ _ _ _ _ _ _ _ _ _ _ _ _ _ _ _ _ _ _ _ _ _ _ _ _ _ _ _ _ _ _ _ _ _ _ _ _ _ _ _ _ _ _ _ _ _ _ _ _ _ _ _ _ _ _ _ _ _ _ _ _ ?_
    intro z25 z4 z26 z27 z286 z287 z288 z289 z290 z291 z292 z293 z294 z295 z296 z297 z298 z299 z300 z301 z302 z303 z304 z305 z306 z307 W7 hL7
    go_wp2
    go_ret
    exact ⟨rfl, hB1.trans (hL7.below.mono hB1.size)⟩
end Go.Proofs.Ytbhopjnolgfpnaa
