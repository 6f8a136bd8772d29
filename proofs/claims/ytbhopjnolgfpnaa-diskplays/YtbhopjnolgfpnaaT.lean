/- DiskPlays: every moment, asked for later. -/
import Derived.Test.YtbhopjnolgfpnaaR
import Derived.Test.YtbhopjnolgfpnaaP
namespace Go.Proofs.Ytbhopjnolgfpnaa
open Go.RowKit Go.Deep
set_option linter.unusedVariables false
set_option linter.unusedSimpArgs false

/- What moment m reads, block by block. -/
theorem LI.moment {w0 : World} {N0 bd bf cf bn cn bw n gm cm : Nat} {R : List (Nat × ByteArray)} {dl : Int} {W : World} (h : LI w0 N0 bd bf cf bn cn bw (zs n) R R R dl (.slice (some ⟨gm, 0, none⟩) (R.length + 1) cm) W) (m : Nat) (hm : m ≤ R.length) :
    ∃ g c, W.cell? ⟨gm, m, none⟩ = some (.slice (some ⟨g, 0, none⟩) n c) ∧ gm < W.heap.size ∧ g < W.heap.size ∧ ∀ k s, (replay (zs n) (R.take m))[k]? = some s → ∃ b ns, W.cell? ⟨g, k, none⟩ = some (.slice (some ⟨b, 0, none⟩) 256 256) ∧ By W b 256 ns ∧ mkStr ns = s := by
  obtain ⟨ms, hms, hmm⟩ := h.moms
  obtain ⟨v, h1, g, c, vals, rfl, _, h4, h5⟩ := hmm m hm
  have hl : (replay (zs n) (R.take m)).length = n := by rw [replay_length]; simp [zs]
  have e1 := hms.cells (g := gm) rfl m _ h1
  rw [Addr.add_lit, Nat.zero_add, hl] at e1
  refine ⟨g, c, e1, (hms.lt gm rfl).2, (h4.lt g rfl).2, fun k s hs => ?_⟩
  obtain ⟨b, ns, h6, h7, h8⟩ := h5.2 k s hs
  have e2 := h4.cells (g := g) rfl k _ h6
  rw [Addr.add_lit, Nat.zero_add] at e2
  exact ⟨b, ns, e2, h7, h8⟩

set_option maxRecDepth 100000 in
set_option maxHeartbeats 2000000 in
theorem loop3 (w0 : World) (N0 bd bf cf bn cn bw n gm cm : Nat) (hb : 1 ≤ n) (hb' : n ≤ 20) (R : List (Nat × ByteArray)) (hR : R.length ≤ 50) (hR2 : ∀ p, p ∈ R → p.2.size = 256) (dl : Int) (W : World) (hL : LI w0 N0 bd bf cf bn cn bw (zs n) R R R dl (.slice (some ⟨gm, 0, none⟩) (R.length + 1) cm) W)
    (K : Act → World → Prop) (Q : Exit → Act → World → Prop) (c1 c2 c3 c4 c6 c8 c9 c10 c11 c12 c13 c14 c15 c16 c17 c18 c20 c21 c22 c23 c24 c25 c26 c27 c28 c29 c30 c31 c32 c33 c34 c35 c36 c37 c38 c39 c40 c41 c42 c43 c44 c45 c46 c47 c48 c49 c50 c51 c52 c53 c54 c55 c56 c57 c58 c59 c60 c61 c62 c63 c64 c65 c66 c67 c68 c69 c70 c71 c72 c73 c74 c75 c76 c77 c78 c79 c80 c81 c82 c83 c84 c85 c86 c87 c88 c89 c90 c91 c92 c93 c94 c95 c96 c97 c98 c99 c100 c101 c102 c103 c104 c105 c106 c107 c108 c109 c110 c111 c112 c113 c114 c115 c116 c117 c118 c119 c120 c121 c122 c123 c124 c125 c126 c127 c128 c129 c130 c131 c132 c133 c134 c135 c136 c137 c138 c139 c140 c141 c142 c143 c144 c145 c146 c147 c148 c149 c150 c151 c152 c153 c154 c155 c156 c157 c158 c159 c160 c161 c162 c163 c164 c165 c166 c167 c168 c169 c170 c171 c172 c173 c174 c175 c176 c177 c178 c179 c180 c181 c182 c183 c184 c185 c186 c187 c188 c189 c190 c191 c192 c193 c194 c195 c196 c197 c198 c199 c200 c201 c202 c203 c204 c205 c206 c207 c208 c209 c210 c211 c212 c213 c214 c215 c216 c217 c218 c219 c220 c221 c222 c223 c224 c225 c226 c227 c228 c229 c230 c231 c232 c233 c234 c235 c236 c237 c238 c239 c240 c241 c242 c243 c244 c245 c246 c247 c248 c249 c250 c251 c252 c253 c254 c255 c256 c257 c258 c259 c260 c261 c262 c263 c264 c265 c266 c267 c268 c269 c270 c271 c272 c273 c274 c275 c276 c277 c278 c279 c280 c281 c282 c283 c284 c285 c286 c287 c288 c289 c290 c291 c292 c293 c294 c295 c296 c297 c298 c299 c300 c301 c302 c303 c304 c305 c306 c307 : Value)
    (hK : ∀ (d19 d4 d20 d21 d22 d23 d24 d208 d209 d210 d211 d212 d213 d214 d215 d216 d217 d218 d219 d220 d221 d222 d223 d224 d225 d226 d227 d228 d229 d230 d231 d232 d233 d234 d235 d236 d237 d238 d239 d240 d241 d242 d243 d244 d245 d246 d247 d248 d249 d250 d251 d252 d253 d254 d255 d256 d257 d258 d259 d260 d261 d262 d263 d264 d265 d266 d267 d268 d269 d270 d271 d272 d273 d274 d275 d276 d277 d278 d279 d280 d281 d282 d283 : Value) (W : World), LI w0 N0 bd bf cf bn cn bw (zs n) R R R dl (.slice (some ⟨gm, 0, none⟩) (R.length + 1) cm) W → K ⟨(List.toArray (.int .i64 (n : Int) :: c1 :: c2 :: c3 :: d4 :: .pointer (some ⟨bd, 0, none⟩) :: c6 :: .slice (some ⟨gm, 0, none⟩) (R.length + 1) cm :: c8 :: c9 :: c10 :: c11 :: c12 :: c13 :: c14 :: c15 :: c16 :: c17 :: c18 :: d19 :: d20 :: d21 :: d22 :: d23 :: d24 :: c25 :: c26 :: c27 :: c28 :: c29 :: c30 :: c31 :: c32 :: c33 :: c34 :: c35 :: c36 :: c37 :: c38 :: c39 :: c40 :: c41 :: c42 :: c43 :: c44 :: c45 :: c46 :: c47 :: c48 :: c49 :: c50 :: c51 :: c52 :: c53 :: c54 :: c55 :: c56 :: c57 :: c58 :: c59 :: c60 :: c61 :: c62 :: c63 :: c64 :: c65 :: c66 :: c67 :: c68 :: c69 :: c70 :: c71 :: c72 :: c73 :: c74 :: c75 :: c76 :: c77 :: c78 :: c79 :: c80 :: c81 :: c82 :: c83 :: c84 :: c85 :: c86 :: c87 :: c88 :: c89 :: c90 :: c91 :: c92 :: c93 :: c94 :: c95 :: c96 :: c97 :: c98 :: c99 :: c100 :: c101 :: c102 :: c103 :: c104 :: c105 :: c106 :: c107 :: c108 :: c109 :: c110 :: c111 :: c112 :: c113 :: c114 :: c115 :: c116 :: c117 :: c118 :: c119 :: c120 :: c121 :: c122 :: c123 :: c124 :: c125 :: c126 :: c127 :: c128 :: c129 :: c130 :: c131 :: c132 :: c133 :: c134 :: c135 :: c136 :: c137 :: c138 :: c139 :: c140 :: c141 :: c142 :: c143 :: c144 :: c145 :: c146 :: c147 :: c148 :: c149 :: c150 :: c151 :: c152 :: c153 :: c154 :: c155 :: c156 :: c157 :: c158 :: c159 :: c160 :: c161 :: c162 :: c163 :: c164 :: c165 :: c166 :: c167 :: c168 :: c169 :: c170 :: c171 :: c172 :: c173 :: c174 :: c175 :: c176 :: c177 :: c178 :: c179 :: c180 :: c181 :: c182 :: c183 :: c184 :: c185 :: c186 :: c187 :: c188 :: c189 :: c190 :: c191 :: c192 :: c193 :: c194 :: c195 :: c196 :: c197 :: c198 :: c199 :: c200 :: c201 :: c202 :: c203 :: c204 :: c205 :: c206 :: c207 :: d208 :: d209 :: d210 :: d211 :: d212 :: d213 :: d214 :: d215 :: d216 :: d217 :: d218 :: d219 :: d220 :: d221 :: d222 :: d223 :: d224 :: d225 :: d226 :: d227 :: d228 :: d229 :: d230 :: d231 :: d232 :: d233 :: d234 :: d235 :: d236 :: d237 :: d238 :: d239 :: d240 :: d241 :: d242 :: d243 :: d244 :: d245 :: d246 :: d247 :: d248 :: d249 :: d250 :: d251 :: d252 :: d253 :: d254 :: d255 :: d256 :: d257 :: d258 :: d259 :: d260 :: d261 :: d262 :: d263 :: d264 :: d265 :: d266 :: d267 :: d268 :: d269 :: d270 :: d271 :: d272 :: d273 :: d274 :: d275 :: d276 :: d277 :: d278 :: d279 :: d280 :: d281 :: d282 :: d283 :: c284 :: c285 :: c286 :: c287 :: c288 :: c289 :: c290 :: c291 :: c292 :: c293 :: c294 :: c295 :: c296 :: c297 :: c298 :: c299 :: c300 :: c301 :: c302 :: c303 :: c304 :: c305 :: c306 :: c307 :: [])), []⟩ W) :
    Code.wp Try.prog ((findBlock 7 (Try.f3.body.getD .skip)).getD .skip) (Exit.then K Q) ⟨(List.toArray (.int .i64 (n : Int) :: c1 :: c2 :: c3 :: c4 :: .pointer (some ⟨bd, 0, none⟩) :: c6 :: .slice (some ⟨gm, 0, none⟩) (R.length + 1) cm :: c8 :: c9 :: c10 :: c11 :: c12 :: c13 :: c14 :: c15 :: c16 :: c17 :: c18 :: .int .i64 (-1) :: c20 :: c21 :: c22 :: c23 :: c24 :: c25 :: c26 :: c27 :: c28 :: c29 :: c30 :: c31 :: c32 :: c33 :: c34 :: c35 :: c36 :: c37 :: c38 :: c39 :: c40 :: c41 :: c42 :: c43 :: c44 :: c45 :: c46 :: c47 :: c48 :: c49 :: c50 :: c51 :: c52 :: c53 :: c54 :: c55 :: c56 :: c57 :: c58 :: c59 :: c60 :: c61 :: c62 :: c63 :: c64 :: c65 :: c66 :: c67 :: c68 :: c69 :: c70 :: c71 :: c72 :: c73 :: c74 :: c75 :: c76 :: c77 :: c78 :: c79 :: c80 :: c81 :: c82 :: c83 :: c84 :: c85 :: c86 :: c87 :: c88 :: c89 :: c90 :: c91 :: c92 :: c93 :: c94 :: c95 :: c96 :: c97 :: c98 :: c99 :: c100 :: c101 :: c102 :: c103 :: c104 :: c105 :: c106 :: c107 :: c108 :: c109 :: c110 :: c111 :: c112 :: c113 :: c114 :: c115 :: c116 :: c117 :: c118 :: c119 :: c120 :: c121 :: c122 :: c123 :: c124 :: c125 :: c126 :: c127 :: c128 :: c129 :: c130 :: c131 :: c132 :: c133 :: c134 :: c135 :: c136 :: c137 :: c138 :: c139 :: c140 :: c141 :: c142 :: c143 :: c144 :: c145 :: c146 :: c147 :: c148 :: c149 :: c150 :: c151 :: c152 :: c153 :: c154 :: c155 :: c156 :: c157 :: c158 :: c159 :: c160 :: c161 :: c162 :: c163 :: c164 :: c165 :: c166 :: c167 :: c168 :: c169 :: c170 :: c171 :: c172 :: c173 :: c174 :: c175 :: c176 :: c177 :: c178 :: c179 :: c180 :: c181 :: c182 :: c183 :: c184 :: c185 :: c186 :: c187 :: c188 :: c189 :: c190 :: c191 :: c192 :: c193 :: c194 :: c195 :: c196 :: c197 :: c198 :: c199 :: c200 :: c201 :: c202 :: c203 :: c204 :: c205 :: c206 :: c207 :: c208 :: c209 :: c210 :: c211 :: c212 :: c213 :: c214 :: c215 :: c216 :: c217 :: c218 :: c219 :: c220 :: c221 :: c222 :: c223 :: c224 :: c225 :: c226 :: c227 :: c228 :: c229 :: c230 :: c231 :: c232 :: c233 :: c234 :: c235 :: c236 :: c237 :: c238 :: c239 :: c240 :: c241 :: c242 :: c243 :: c244 :: c245 :: c246 :: c247 :: c248 :: c249 :: c250 :: c251 :: c252 :: c253 :: c254 :: c255 :: c256 :: c257 :: c258 :: c259 :: c260 :: c261 :: c262 :: c263 :: c264 :: c265 :: c266 :: c267 :: c268 :: c269 :: c270 :: c271 :: c272 :: c273 :: c274 :: c275 :: c276 :: c277 :: c278 :: c279 :: c280 :: c281 :: c282 :: c283 :: c284 :: c285 :: c286 :: c287 :: c288 :: c289 :: c290 :: c291 :: c292 :: c293 :: c294 :: c295 :: c296 :: c297 :: c298 :: c299 :: c300 :: c301 :: c302 :: c303 :: c304 :: c305 :: c306 :: c307 :: [])), []⟩ W := by
  have HK := hid hK
  have HR2 := hid hR2
  clear hK hR2
  conv => arg 2; whnf
  go_wp2_with fail
  go_loopg [19] (R.length + 3) (fun g i wr => ∃ q : Int, q + g = R.length + 2 ∧ -1 ≤ q ∧ i = .int .i64 q ∧ LI w0 N0 bd bf cf bn cn bw (zs n) R R R dl (.slice (some ⟨gm, 0, none⟩) (R.length + 1) cm) wr)
  case atStart => exact ⟨-1, by omega, by omega, rfl, hL⟩
  case round =>
    clear hL
    rename World => Wo
    obtain ⟨q, hq, hq1, rfl, hL⟩ := hrel
    have Hq := hid hq
    have hq2 : q ≤ R.length + 2 := by omega
    clear hq
    obtain ⟨vr, hD, hvr⟩ := hL.disk
    rcases (show q = R.length + 2 ∨ (q = -1 ∨ q = R.length + 1) ∨ (0 ≤ q ∧ q ≤ R.length) from by omega) with h | h | ⟨h, h2⟩
    · subst h
      go_wp2_with fail
      refine HK.out _ _ _ _ _ _ _ _ _ _ _ _ _ _ _ _ _ _ _ _ _ _ _ _ _ _ _ _ _ _ _ _ _ _ _ _ _ _ _ _ _ _ _ _ _ _ _ _ _ _ _ _ _ _ _ _ _ _ _ _ _ _ _ _ _ _ _ _ _ _ _ _ _ _ _ _ _ _ _ _ _ _ _ Wo hL
    · have ha := hid (at_no Wo hD q (by omega))
      have hq3 : q ≤ R.length + 1 := by omega
      have HL := hid hL
      have Hh := hid h
      clear hL hD h hvr
      rcases Hh.out with rfl | rfl
      · go_wp2_with (go_at_call 15; refine (Hid.out ha).mono ?_; rintro e w6 ⟨rfl, rfl⟩)
        go_roundg (R.length + 2)
        case measure => have := Hq.out; omega
        case rel => exact ⟨0, by omega, by omega, by go_num, HL.out⟩
      · have t1 : (((R.length : Nat) : Int) + 1 == (R.length : Int) + 1) = true := by simp
        go_wp2_with (go_at_call 15; refine (Hid.out ha).mono ?_; rintro e w6 ⟨rfl, rfl⟩)
        go_roundg 0
        case measure => have := Hq.out; omega
        case rel => exact ⟨(R.length : Int) + 2, by omega, by omega, by go_num, HL.out⟩
    · obtain ⟨m, rfl⟩ := Int.eq_ofNat_of_zero_le h
      have hmR : m ≤ R.length := by omega
      have t1 : (((m : Nat) : Int) == (R.length : Int) + 1) = false := by simp; omega
      obtain ⟨g, c, e1, hgm, hgl, hrow⟩ := hL.moment m hmR
      have ha := hid (at_at Wo hD (m : Int) m rfl hmR (by omega))
      have hls : (replay (zs n) (R.take m)).length = n := by rw [replay_length]; simp [zs]
      have Hls := hid hls
      have HL := hid hL
      have Hrow := hid hrow
      clear hL hD hvr hrow hls
      go_upto_block 9 with (first | (go_at_call 15; refine (Hid.out ha).mono ?_; rintro e w6 ⟨bd', bf', cf', bn', cn', rfl, a1, a2, a3, hC, hB6⟩) | (go_at_call 13; refine (writes_at _ hC 0 (by simp)).mono ?_; rintro e w7 ⟨rfl, rfl⟩) | (go_at_call 14; refine (blocks_at _ hC (n : Int) (by rw [Hls.out])).mono ?_; rintro e w7 ⟨rfl, rfl⟩))
      go_cut [22] from 208 to 283 (fun _ wd => Below Wo.heap.size Wo wd ∧ Disk wd bd' bf' cf' bn' cn' (.slice none 0 0) (replay (zs n) (R.take m)) (replay (zs n) (R.take m)) [] (-1))
      case first =>
        go_wp2_with fail
        go_loopg [22] n (fun g i wd => ∃ k : Nat, k + g = n ∧ i = .int .i64 k ∧ Below Wo.heap.size Wo wd ∧ Disk wd bd' bf' cf' bn' cn' (.slice none 0 0) (replay (zs n) (R.take m)) (replay (zs n) (R.take m)) [] (-1))
        case atStart => exact ⟨0, by omega, rfl, hB6, hC⟩
        case round =>
          obtain ⟨k, hk, rfl, hBk, hCk⟩ := hrel
          have Hk := hid hk
          have hkn : k ≤ n := by omega
          clear hk
          by_cases hlt : k < n
          · obtain ⟨s, hs⟩ : ∃ s, (replay (zs n) (R.take m))[k]? = some s := ⟨_, List.getElem?_eq_getElem (by rw [Hls.out]; exact hlt)⟩
            have hsz : s.size = 256 := replay_size (fun p hp => HR2.out p (List.mem_of_mem_take hp)) (by intro q hq; rw [List.eq_of_mem_replicate hq]; exact zeroS_size) (List.mem_of_getElem? hs)
            obtain ⟨b, ns, e2, hy, hm⟩ := Hrow.out k s hs
            have hrd := hid (read_at wr hCk (k : Int) k rfl s hs (by omega) 256 hsz)
            have Hm := hid hm
            have hsBk := hBk.size
            clear hs hsz hm
            go_wp2_with fail
            refine (Hid.out hrd).mono ?_
            rintro e w8 ⟨cap8, rfl, hy8, hB8, hz8⟩
            have f1 : w8.cell? ⟨gm, m, none⟩ = some (.slice (some ⟨g, 0, none⟩) n c) := (hB8.cell (p := ⟨gm, m, none⟩) (by show gm < _; omega)).trans ((hBk.cell (p := ⟨gm, m, none⟩) hgm).trans e1)
            have f2 : w8.cell? ⟨g, k, none⟩ = some (.slice (some ⟨b, 0, none⟩) 256 256) := (hB8.cell (p := ⟨g, k, none⟩) (by show g < _; omega)).trans ((hBk.cell (p := ⟨g, k, none⟩) hgl).trans e2)
            have hyb : By w8 b 256 ns := hy.kept ((hB8.block b (by have := hy.lt; omega)).trans (hBk.block b hy.lt))
            have hbs := hid (bytes_same w8 wr.heap.size 256 cap8 b 256 256 (strNs s) ns hy8 hyb (by rw [mkStr_strNs, Hm.out]))
            have hkm : (m : Int) < (R.length : Int) + 1 := by omega
            clear hz8
            go_wp2_with (go_at_call 12; refine (Hid.out hbs).mono ?_; rintro e w9 ⟨rfl, rfl⟩)
            go_roundg (n - (k + 1))
            case measure => have := Hk.out; omega
            case rel => exact ⟨k + 1, by omega, by go_num, hBk.trans (hB8.mono hsBk), hCk.below hB8⟩
          · have hke : k = n := by omega
            subst hke
            go_wp2
            go_meet
            case rel => exact ⟨hBk, hCk⟩
      case rest =>
        obtain ⟨hB7, hC7⟩ := hcut
        have hbk := hid (block_at wc 9 (by omega) (by omega))
        have hn0 : (0 : Int) < (n : Int) := by omega
        go_wp2_with fail
        refine (Hid.out hbk).mono ?_
        rintro e w9 ⟨rfl, hy9, hB9, hz9⟩
        have hC9 := hC7.below hB9
        have hwr := hid (write_at w9 hC9 0 0 rfl (by rw [Hls.out]; omega) (by omega) wc.heap.size 256 _ hy9 (by simp) (by omega))
        have s7 := hB7.size
        have s9 := hB9.size
        clear hz9
        go_wp2_with fail
        refine (Hid.out hwr).mono ?_
        rintro e w10 ⟨rfl, vr10, hD10, hv10, hz10, hf10, hb10⟩
        have HF := hid (And.intro hf10 hb10)
        clear hf10 hb10 hD10 hv10
        go_wp2_with fail
        go_roundg (R.length + 1 - m)
        case measure => have := Hq.out; omega
        case rel =>
          refine ⟨(m : Int) + 1, by omega, by omega, by go_num, HL.out.step ((hB7.trans (hB9.mono s7)).trans ?_)⟩
          exact below_of_far HF.out.2 HF.out.1 (by omega) a1 a2 (fun g e => by cases e)
end Go.Proofs.Ytbhopjnolgfpnaa
