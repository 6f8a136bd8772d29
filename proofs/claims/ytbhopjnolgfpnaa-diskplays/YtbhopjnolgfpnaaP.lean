/- DiskPlays: a step: Read. -/
import Derived.Test.YtbhopjnolgfpnaaN
import Derived.Deep.AppendLies
import Derived.Deep.RegionHeld3
import Derived.Deep.RegionWith
namespace Go.Proofs.Ytbhopjnolgfpnaa
open Go.RowKit Go.Deep
set_option linter.unusedVariables false
set_option linter.unusedSimpArgs false

theorem zeroS_size : zeroS.size = 256 := by rw [zeroS, size_mkStr]; exact List.length_replicate
theorem replay_size {F : List ByteArray} {R : List (Nat × ByteArray)} (hR : ∀ p, p ∈ R → p.2.size = 256) (hF : ∀ s, s ∈ F → s.size = 256) {s : ByteArray} (hs : s ∈ replay F R) : s.size = 256 := by
  unfold replay at hs
  induction R generalizing F with
  | nil => exact hF s hs
  | cons p R ih =>
    rw [List.foldl_cons] at hs
    refine ih (fun q hq => hR q (List.mem_cons_of_mem _ hq)) (fun q hq => ?_) hs
    rcases List.mem_or_eq_of_mem_set hq with h | h
    · exact hF q h
    · rw [h]; exact hR p List.mem_cons_self

set_option maxRecDepth 100000 in
set_option maxHeartbeats 1000000 in
theorem sw_read_cut (w0 : World) (N0 bd bf cf bn cn bw n : Nat) (hb : 1 ≤ n) (hb' : n ≤ 20) (R : List (Nat × ByteArray)) (dl : Int) (k : Nat) (hk : k ≤ 50) (vm : Value) (left : Int) (cut : Bool) (W5 : World) (hL : L2 w0 N0 bd bf cf bn cn bw n R dl k vm left cut W5)
    (bs : Nat) (what si sn fill : Int) (short inb : Bool) (hbx : W5.heap[bs]? = some (.cells #[.int .i64 what, .int .i64 si, .int .i64 sn, .int .u8 fill, .bool short] 32 (0, 0))) (hin : decide (0 ≤ si ∧ si < (n : Int)) = inb)
    (l1 : -9223372036854775808 ≤ sn) (l2 : sn ≤ 9223372036854775807) (f0 : 0 ≤ fill) (f1 : fill ≤ 255) (hw : what < 0 ∨ 5 < what) (hd : dl = 0)
    (K : Act → World → Prop) (Q : Exit → Act → World → Prop) (c1 c2 c3 c4 c6 c9 c12 c15 c16 c17 c18 c19 c20 c21 c22 c23 c24 c25 c26 c27 c28 c29 c30 c31 c32 c33 c34 c35 c36 c37 c38 c39 c40 c41 c42 c43 c44 c45 c46 c47 c48 c49 c50 c51 c52 c53 c54 c55 c56 c57 c58 c59 c60 c61 c62 c63 c64 c65 c66 c67 c68 c69 c70 c71 c72 c73 c74 c75 c76 c77 c78 c79 c80 c81 c82 c83 c84 c85 c86 c87 c88 c89 c90 c91 c92 c93 c94 c95 c96 c97 c98 c99 c101 c102 c103 c104 c105 c106 c107 c108 c109 c110 c111 c112 c113 c114 c115 c116 c117 c118 c119 c120 c121 c122 c123 c124 c125 c126 c127 c128 c129 c130 c131 c132 c133 c134 c135 c136 c137 c138 c139 c140 c141 c142 c143 c144 c145 c146 c147 c148 c149 c150 c151 c152 c153 c154 c155 c156 c157 c158 c159 c160 c161 c162 c163 c164 c165 c166 c167 c168 c169 c170 c171 c172 c173 c174 c175 c176 c177 c178 c179 c180 c181 c182 c183 c184 c185 c186 c187 c188 c189 c190 c191 c192 c193 c194 c195 c196 c197 c198 c199 c200 c201 c202 c203 c204 c205 c206 c207 c208 c209 c210 c211 c212 c213 c214 c215 c216 c217 c218 c219 c220 c221 c222 c223 c224 c225 c226 c227 c228 c229 c230 c231 c232 c233 c234 c235 c236 c237 c238 c239 c240 c241 c242 c243 c244 c245 c246 c247 c248 c249 c250 c251 c252 c253 c254 c255 c256 c257 c258 c259 c260 c261 c262 c263 c264 c265 c266 c267 c268 c269 c270 c271 c272 c273 c274 c275 c276 c277 c278 c279 c280 c281 c282 c283 c284 c285 c286 c287 c288 c289 c290 c291 c292 c293 c294 c295 c296 c297 c298 c299 c300 c301 c302 c303 c304 c305 c306 c307 : Value)
    (hK : ∀ (vm1 : Value) (left1 : Int) (cut1 : Bool) (d4 d15 d16 d17 d18 d80 d81 d82 d83 d84 d85 d86 d87 d88 d89 d90 d91 d92 d93 d94 d95 d96 d97 d98 d99 d100 d101 d102 d103 d104 d105 d106 d107 d108 d109 d110 d111 d112 d113 d114 d115 d116 d117 d118 d119 d120 d121 d122 d123 d124 d125 d126 d127 d128 d129 d130 d131 d132 d133 d134 d135 d136 d137 d138 d139 d140 d141 d142 d143 d144 d145 d146 d147 d148 d149 d150 d151 d152 d153 d154 d155 d156 d157 d158 d159 d160 d161 d162 d163 d164 d165 d166 d167 d168 d169 d170 d171 d172 d173 d174 d175 d176 d177 d178 d179 d180 d181 d182 d183 d184 d185 d186 d187 d188 d189 d190 d191 d192 d193 d194 d195 d196 d197 d198 d199 d200 d201 d202 d203 d204 d205 d206 d207 : Value) (W : World), (∃ R dl, L2 w0 N0 bd bf cf bn cn bw n R dl (k + 1) vm1 left1 cut1 W) → K ⟨(List.toArray (.int .i64 (n : Int) :: c1 :: c2 :: c3 :: d4 :: .pointer (some ⟨bd, 0, none⟩) :: c6 :: vm1 :: .slice (some ⟨bw, 0, none⟩) n n :: c9 :: .int .i64 left1 :: .bool cut1 :: c12 :: .pointer (some ⟨bs, 0, none⟩) :: .bool inb :: d15 :: d16 :: d17 :: d18 :: c19 :: c20 :: c21 :: c22 :: c23 :: c24 :: c25 :: c26 :: c27 :: c28 :: c29 :: c30 :: c31 :: c32 :: c33 :: c34 :: c35 :: c36 :: c37 :: c38 :: c39 :: c40 :: c41 :: c42 :: c43 :: c44 :: c45 :: c46 :: c47 :: c48 :: c49 :: c50 :: c51 :: c52 :: c53 :: c54 :: c55 :: c56 :: c57 :: c58 :: c59 :: c60 :: c61 :: c62 :: c63 :: c64 :: c65 :: c66 :: c67 :: c68 :: c69 :: c70 :: c71 :: c72 :: c73 :: c74 :: c75 :: c76 :: c77 :: c78 :: c79 :: d80 :: d81 :: d82 :: d83 :: d84 :: d85 :: d86 :: d87 :: d88 :: d89 :: d90 :: d91 :: d92 :: d93 :: d94 :: d95 :: d96 :: d97 :: d98 :: d99 :: d100 :: d101 :: d102 :: d103 :: d104 :: d105 :: d106 :: d107 :: d108 :: d109 :: d110 :: d111 :: d112 :: d113 :: d114 :: d115 :: d116 :: d117 :: d118 :: d119 :: d120 :: d121 :: d122 :: d123 :: d124 :: d125 :: d126 :: d127 :: d128 :: d129 :: d130 :: d131 :: d132 :: d133 :: d134 :: d135 :: d136 :: d137 :: d138 :: d139 :: d140 :: d141 :: d142 :: d143 :: d144 :: d145 :: d146 :: d147 :: d148 :: d149 :: d150 :: d151 :: d152 :: d153 :: d154 :: d155 :: d156 :: d157 :: d158 :: d159 :: d160 :: d161 :: d162 :: d163 :: d164 :: d165 :: d166 :: d167 :: d168 :: d169 :: d170 :: d171 :: d172 :: d173 :: d174 :: d175 :: d176 :: d177 :: d178 :: d179 :: d180 :: d181 :: d182 :: d183 :: d184 :: d185 :: d186 :: d187 :: d188 :: d189 :: d190 :: d191 :: d192 :: d193 :: d194 :: d195 :: d196 :: d197 :: d198 :: d199 :: d200 :: d201 :: d202 :: d203 :: d204 :: d205 :: d206 :: d207 :: c208 :: c209 :: c210 :: c211 :: c212 :: c213 :: c214 :: c215 :: c216 :: c217 :: c218 :: c219 :: c220 :: c221 :: c222 :: c223 :: c224 :: c225 :: c226 :: c227 :: c228 :: c229 :: c230 :: c231 :: c232 :: c233 :: c234 :: c235 :: c236 :: c237 :: c238 :: c239 :: c240 :: c241 :: c242 :: c243 :: c244 :: c245 :: c246 :: c247 :: c248 :: c249 :: c250 :: c251 :: c252 :: c253 :: c254 :: c255 :: c256 :: c257 :: c258 :: c259 :: c260 :: c261 :: c262 :: c263 :: c264 :: c265 :: c266 :: c267 :: c268 :: c269 :: c270 :: c271 :: c272 :: c273 :: c274 :: c275 :: c276 :: c277 :: c278 :: c279 :: c280 :: c281 :: c282 :: c283 :: c284 :: c285 :: c286 :: c287 :: c288 :: c289 :: c290 :: c291 :: c292 :: c293 :: c294 :: c295 :: c296 :: c297 :: c298 :: c299 :: c300 :: c301 :: c302 :: c303 :: c304 :: c305 :: c306 :: c307 :: [])), []⟩ W) :
    Code.wp Try.prog ((findBlock 4 (Try.f3.body.getD .skip)).getD .skip) (Exit.then K Q) ⟨(List.toArray (.int .i64 (n : Int) :: c1 :: c2 :: c3 :: c4 :: .pointer (some ⟨bd, 0, none⟩) :: c6 :: vm :: .slice (some ⟨bw, 0, none⟩) n n :: c9 :: .int .i64 left :: .bool cut :: c12 :: .pointer (some ⟨bs, 0, none⟩) :: .bool inb :: c15 :: c16 :: c17 :: c18 :: c19 :: c20 :: c21 :: c22 :: c23 :: c24 :: c25 :: c26 :: c27 :: c28 :: c29 :: c30 :: c31 :: c32 :: c33 :: c34 :: c35 :: c36 :: c37 :: c38 :: c39 :: c40 :: c41 :: c42 :: c43 :: c44 :: c45 :: c46 :: c47 :: c48 :: c49 :: c50 :: c51 :: c52 :: c53 :: c54 :: c55 :: c56 :: c57 :: c58 :: c59 :: c60 :: c61 :: c62 :: c63 :: c64 :: c65 :: c66 :: c67 :: c68 :: c69 :: c70 :: c71 :: c72 :: c73 :: c74 :: c75 :: c76 :: c77 :: c78 :: c79 :: c80 :: c81 :: c82 :: c83 :: c84 :: c85 :: c86 :: c87 :: c88 :: c89 :: c90 :: c91 :: c92 :: c93 :: c94 :: c95 :: c96 :: c97 :: c98 :: c99 :: .int .i64 what :: c101 :: c102 :: c103 :: c104 :: c105 :: c106 :: c107 :: c108 :: c109 :: c110 :: c111 :: c112 :: c113 :: c114 :: c115 :: c116 :: c117 :: c118 :: c119 :: c120 :: c121 :: c122 :: c123 :: c124 :: c125 :: c126 :: c127 :: c128 :: c129 :: c130 :: c131 :: c132 :: c133 :: c134 :: c135 :: c136 :: c137 :: c138 :: c139 :: c140 :: c141 :: c142 :: c143 :: c144 :: c145 :: c146 :: c147 :: c148 :: c149 :: c150 :: c151 :: c152 :: c153 :: c154 :: c155 :: c156 :: c157 :: c158 :: c159 :: c160 :: c161 :: c162 :: c163 :: c164 :: c165 :: c166 :: c167 :: c168 :: c169 :: c170 :: c171 :: c172 :: c173 :: c174 :: c175 :: c176 :: c177 :: c178 :: c179 :: c180 :: c181 :: c182 :: c183 :: c184 :: c185 :: c186 :: c187 :: c188 :: c189 :: c190 :: c191 :: c192 :: c193 :: c194 :: c195 :: c196 :: c197 :: c198 :: c199 :: c200 :: c201 :: c202 :: c203 :: c204 :: c205 :: c206 :: c207 :: c208 :: c209 :: c210 :: c211 :: c212 :: c213 :: c214 :: c215 :: c216 :: c217 :: c218 :: c219 :: c220 :: c221 :: c222 :: c223 :: c224 :: c225 :: c226 :: c227 :: c228 :: c229 :: c230 :: c231 :: c232 :: c233 :: c234 :: c235 :: c236 :: c237 :: c238 :: c239 :: c240 :: c241 :: c242 :: c243 :: c244 :: c245 :: c246 :: c247 :: c248 :: c249 :: c250 :: c251 :: c252 :: c253 :: c254 :: c255 :: c256 :: c257 :: c258 :: c259 :: c260 :: c261 :: c262 :: c263 :: c264 :: c265 :: c266 :: c267 :: c268 :: c269 :: c270 :: c271 :: c272 :: c273 :: c274 :: c275 :: c276 :: c277 :: c278 :: c279 :: c280 :: c281 :: c282 :: c283 :: c284 :: c285 :: c286 :: c287 :: c288 :: c289 :: c290 :: c291 :: c292 :: c293 :: c294 :: c295 :: c296 :: c297 :: c298 :: c299 :: c300 :: c301 :: c302 :: c303 :: c304 :: c305 :: c306 :: c307 :: [])), []⟩ W5 := by
  have HK := hid hK
  clear hK
  have hlt5 : bs < W5.heap.size := (Array.getElem?_eq_some_iff.1 hbx).1
  have b0 : W5.cell? ⟨bs, 0, none⟩ = some (.int .i64 what) := by rw [cellOf hbx]; rfl
  have b1 : W5.cell? ⟨bs, 1, none⟩ = some (.int .i64 si) := by rw [cellOf hbx]; rfl
  have b2 : W5.cell? ⟨bs, 2, none⟩ = some (.int .i64 sn) := by rw [cellOf hbx]; rfl
  have b3 : W5.cell? ⟨bs, 3, none⟩ = some (.int .u8 fill) := by rw [cellOf hbx]; rfl
  have b4 : W5.cell? ⟨bs, 4, none⟩ = some (.bool short) := by rw [cellOf hbx]; rfl
  have Hbx := hid hbx
  have Hin := hid hin
  clear hbx hin
  conv => arg 2; whnf
  obtain ⟨vr, hD, _⟩ := hL.1.disk
  have t0 : (what == 0) = false := by simp; omega
  have t1 : (what == 1) = false := by simp; omega
  have t2 : (what == 2) = false := by simp; omega
  have t3 : (what == 3) = false := by simp; omega
  have t4 : (what == 4) = false := by simp; omega
  have t5 : (what == 5) = false := by simp; omega
  have hc := hL.2.2.2.1
  have HL := hid (hL.step (Below.refl _ _))
  subst hd
  simp at hc
  subst hc
  have hr := hid (read_no W5 hD si 12 (by have := Hin.out; simp [reachB, zs] at this ⊢; try omega) (by decide))
  go_wp2_with (first | (go_at_call 11; refine (Hid.out hr).mono ?_; rintro e w6 ⟨rfl, rfl⟩) | (go_at_call 8; refine (spoil_nil _).mono ?_; rintro e w6 ⟨rfl, rfl⟩))
  apply HK.out
  exact ⟨R, _, HL.out⟩

set_option maxRecDepth 100000 in
set_option maxHeartbeats 1000000 in
theorem sw_read_out (w0 : World) (N0 bd bf cf bn cn bw n : Nat) (hb : 1 ≤ n) (hb' : n ≤ 20) (R : List (Nat × ByteArray)) (dl : Int) (k : Nat) (hk : k ≤ 50) (vm : Value) (left : Int) (cut : Bool) (W5 : World) (hL : L2 w0 N0 bd bf cf bn cn bw n R dl k vm left cut W5)
    (bs : Nat) (what si sn fill : Int) (short inb : Bool) (hbx : W5.heap[bs]? = some (.cells #[.int .i64 what, .int .i64 si, .int .i64 sn, .int .u8 fill, .bool short] 32 (0, 0))) (hin : decide (0 ≤ si ∧ si < (n : Int)) = inb)
    (l1 : -9223372036854775808 ≤ sn) (l2 : sn ≤ 9223372036854775807) (f0 : 0 ≤ fill) (f1 : fill ≤ 255) (hw : what < 0 ∨ 5 < what) (hd : dl ≠ 0) (hi : inb = false)
    (K : Act → World → Prop) (Q : Exit → Act → World → Prop) (c1 c2 c3 c4 c6 c9 c12 c15 c16 c17 c18 c19 c20 c21 c22 c23 c24 c25 c26 c27 c28 c29 c30 c31 c32 c33 c34 c35 c36 c37 c38 c39 c40 c41 c42 c43 c44 c45 c46 c47 c48 c49 c50 c51 c52 c53 c54 c55 c56 c57 c58 c59 c60 c61 c62 c63 c64 c65 c66 c67 c68 c69 c70 c71 c72 c73 c74 c75 c76 c77 c78 c79 c80 c81 c82 c83 c84 c85 c86 c87 c88 c89 c90 c91 c92 c93 c94 c95 c96 c97 c98 c99 c101 c102 c103 c104 c105 c106 c107 c108 c109 c110 c111 c112 c113 c114 c115 c116 c117 c118 c119 c120 c121 c122 c123 c124 c125 c126 c127 c128 c129 c130 c131 c132 c133 c134 c135 c136 c137 c138 c139 c140 c141 c142 c143 c144 c145 c146 c147 c148 c149 c150 c151 c152 c153 c154 c155 c156 c157 c158 c159 c160 c161 c162 c163 c164 c165 c166 c167 c168 c169 c170 c171 c172 c173 c174 c175 c176 c177 c178 c179 c180 c181 c182 c183 c184 c185 c186 c187 c188 c189 c190 c191 c192 c193 c194 c195 c196 c197 c198 c199 c200 c201 c202 c203 c204 c205 c206 c207 c208 c209 c210 c211 c212 c213 c214 c215 c216 c217 c218 c219 c220 c221 c222 c223 c224 c225 c226 c227 c228 c229 c230 c231 c232 c233 c234 c235 c236 c237 c238 c239 c240 c241 c242 c243 c244 c245 c246 c247 c248 c249 c250 c251 c252 c253 c254 c255 c256 c257 c258 c259 c260 c261 c262 c263 c264 c265 c266 c267 c268 c269 c270 c271 c272 c273 c274 c275 c276 c277 c278 c279 c280 c281 c282 c283 c284 c285 c286 c287 c288 c289 c290 c291 c292 c293 c294 c295 c296 c297 c298 c299 c300 c301 c302 c303 c304 c305 c306 c307 : Value)
    (hK : ∀ (vm1 : Value) (left1 : Int) (cut1 : Bool) (d4 d15 d16 d17 d18 d80 d81 d82 d83 d84 d85 d86 d87 d88 d89 d90 d91 d92 d93 d94 d95 d96 d97 d98 d99 d100 d101 d102 d103 d104 d105 d106 d107 d108 d109 d110 d111 d112 d113 d114 d115 d116 d117 d118 d119 d120 d121 d122 d123 d124 d125 d126 d127 d128 d129 d130 d131 d132 d133 d134 d135 d136 d137 d138 d139 d140 d141 d142 d143 d144 d145 d146 d147 d148 d149 d150 d151 d152 d153 d154 d155 d156 d157 d158 d159 d160 d161 d162 d163 d164 d165 d166 d167 d168 d169 d170 d171 d172 d173 d174 d175 d176 d177 d178 d179 d180 d181 d182 d183 d184 d185 d186 d187 d188 d189 d190 d191 d192 d193 d194 d195 d196 d197 d198 d199 d200 d201 d202 d203 d204 d205 d206 d207 : Value) (W : World), (∃ R dl, L2 w0 N0 bd bf cf bn cn bw n R dl (k + 1) vm1 left1 cut1 W) → K ⟨(List.toArray (.int .i64 (n : Int) :: c1 :: c2 :: c3 :: d4 :: .pointer (some ⟨bd, 0, none⟩) :: c6 :: vm1 :: .slice (some ⟨bw, 0, none⟩) n n :: c9 :: .int .i64 left1 :: .bool cut1 :: c12 :: .pointer (some ⟨bs, 0, none⟩) :: .bool inb :: d15 :: d16 :: d17 :: d18 :: c19 :: c20 :: c21 :: c22 :: c23 :: c24 :: c25 :: c26 :: c27 :: c28 :: c29 :: c30 :: c31 :: c32 :: c33 :: c34 :: c35 :: c36 :: c37 :: c38 :: c39 :: c40 :: c41 :: c42 :: c43 :: c44 :: c45 :: c46 :: c47 :: c48 :: c49 :: c50 :: c51 :: c52 :: c53 :: c54 :: c55 :: c56 :: c57 :: c58 :: c59 :: c60 :: c61 :: c62 :: c63 :: c64 :: c65 :: c66 :: c67 :: c68 :: c69 :: c70 :: c71 :: c72 :: c73 :: c74 :: c75 :: c76 :: c77 :: c78 :: c79 :: d80 :: d81 :: d82 :: d83 :: d84 :: d85 :: d86 :: d87 :: d88 :: d89 :: d90 :: d91 :: d92 :: d93 :: d94 :: d95 :: d96 :: d97 :: d98 :: d99 :: d100 :: d101 :: d102 :: d103 :: d104 :: d105 :: d106 :: d107 :: d108 :: d109 :: d110 :: d111 :: d112 :: d113 :: d114 :: d115 :: d116 :: d117 :: d118 :: d119 :: d120 :: d121 :: d122 :: d123 :: d124 :: d125 :: d126 :: d127 :: d128 :: d129 :: d130 :: d131 :: d132 :: d133 :: d134 :: d135 :: d136 :: d137 :: d138 :: d139 :: d140 :: d141 :: d142 :: d143 :: d144 :: d145 :: d146 :: d147 :: d148 :: d149 :: d150 :: d151 :: d152 :: d153 :: d154 :: d155 :: d156 :: d157 :: d158 :: d159 :: d160 :: d161 :: d162 :: d163 :: d164 :: d165 :: d166 :: d167 :: d168 :: d169 :: d170 :: d171 :: d172 :: d173 :: d174 :: d175 :: d176 :: d177 :: d178 :: d179 :: d180 :: d181 :: d182 :: d183 :: d184 :: d185 :: d186 :: d187 :: d188 :: d189 :: d190 :: d191 :: d192 :: d193 :: d194 :: d195 :: d196 :: d197 :: d198 :: d199 :: d200 :: d201 :: d202 :: d203 :: d204 :: d205 :: d206 :: d207 :: c208 :: c209 :: c210 :: c211 :: c212 :: c213 :: c214 :: c215 :: c216 :: c217 :: c218 :: c219 :: c220 :: c221 :: c222 :: c223 :: c224 :: c225 :: c226 :: c227 :: c228 :: c229 :: c230 :: c231 :: c232 :: c233 :: c234 :: c235 :: c236 :: c237 :: c238 :: c239 :: c240 :: c241 :: c242 :: c243 :: c244 :: c245 :: c246 :: c247 :: c248 :: c249 :: c250 :: c251 :: c252 :: c253 :: c254 :: c255 :: c256 :: c257 :: c258 :: c259 :: c260 :: c261 :: c262 :: c263 :: c264 :: c265 :: c266 :: c267 :: c268 :: c269 :: c270 :: c271 :: c272 :: c273 :: c274 :: c275 :: c276 :: c277 :: c278 :: c279 :: c280 :: c281 :: c282 :: c283 :: c284 :: c285 :: c286 :: c287 :: c288 :: c289 :: c290 :: c291 :: c292 :: c293 :: c294 :: c295 :: c296 :: c297 :: c298 :: c299 :: c300 :: c301 :: c302 :: c303 :: c304 :: c305 :: c306 :: c307 :: [])), []⟩ W) :
    Code.wp Try.prog ((findBlock 4 (Try.f3.body.getD .skip)).getD .skip) (Exit.then K Q) ⟨(List.toArray (.int .i64 (n : Int) :: c1 :: c2 :: c3 :: c4 :: .pointer (some ⟨bd, 0, none⟩) :: c6 :: vm :: .slice (some ⟨bw, 0, none⟩) n n :: c9 :: .int .i64 left :: .bool cut :: c12 :: .pointer (some ⟨bs, 0, none⟩) :: .bool inb :: c15 :: c16 :: c17 :: c18 :: c19 :: c20 :: c21 :: c22 :: c23 :: c24 :: c25 :: c26 :: c27 :: c28 :: c29 :: c30 :: c31 :: c32 :: c33 :: c34 :: c35 :: c36 :: c37 :: c38 :: c39 :: c40 :: c41 :: c42 :: c43 :: c44 :: c45 :: c46 :: c47 :: c48 :: c49 :: c50 :: c51 :: c52 :: c53 :: c54 :: c55 :: c56 :: c57 :: c58 :: c59 :: c60 :: c61 :: c62 :: c63 :: c64 :: c65 :: c66 :: c67 :: c68 :: c69 :: c70 :: c71 :: c72 :: c73 :: c74 :: c75 :: c76 :: c77 :: c78 :: c79 :: c80 :: c81 :: c82 :: c83 :: c84 :: c85 :: c86 :: c87 :: c88 :: c89 :: c90 :: c91 :: c92 :: c93 :: c94 :: c95 :: c96 :: c97 :: c98 :: c99 :: .int .i64 what :: c101 :: c102 :: c103 :: c104 :: c105 :: c106 :: c107 :: c108 :: c109 :: c110 :: c111 :: c112 :: c113 :: c114 :: c115 :: c116 :: c117 :: c118 :: c119 :: c120 :: c121 :: c122 :: c123 :: c124 :: c125 :: c126 :: c127 :: c128 :: c129 :: c130 :: c131 :: c132 :: c133 :: c134 :: c135 :: c136 :: c137 :: c138 :: c139 :: c140 :: c141 :: c142 :: c143 :: c144 :: c145 :: c146 :: c147 :: c148 :: c149 :: c150 :: c151 :: c152 :: c153 :: c154 :: c155 :: c156 :: c157 :: c158 :: c159 :: c160 :: c161 :: c162 :: c163 :: c164 :: c165 :: c166 :: c167 :: c168 :: c169 :: c170 :: c171 :: c172 :: c173 :: c174 :: c175 :: c176 :: c177 :: c178 :: c179 :: c180 :: c181 :: c182 :: c183 :: c184 :: c185 :: c186 :: c187 :: c188 :: c189 :: c190 :: c191 :: c192 :: c193 :: c194 :: c195 :: c196 :: c197 :: c198 :: c199 :: c200 :: c201 :: c202 :: c203 :: c204 :: c205 :: c206 :: c207 :: c208 :: c209 :: c210 :: c211 :: c212 :: c213 :: c214 :: c215 :: c216 :: c217 :: c218 :: c219 :: c220 :: c221 :: c222 :: c223 :: c224 :: c225 :: c226 :: c227 :: c228 :: c229 :: c230 :: c231 :: c232 :: c233 :: c234 :: c235 :: c236 :: c237 :: c238 :: c239 :: c240 :: c241 :: c242 :: c243 :: c244 :: c245 :: c246 :: c247 :: c248 :: c249 :: c250 :: c251 :: c252 :: c253 :: c254 :: c255 :: c256 :: c257 :: c258 :: c259 :: c260 :: c261 :: c262 :: c263 :: c264 :: c265 :: c266 :: c267 :: c268 :: c269 :: c270 :: c271 :: c272 :: c273 :: c274 :: c275 :: c276 :: c277 :: c278 :: c279 :: c280 :: c281 :: c282 :: c283 :: c284 :: c285 :: c286 :: c287 :: c288 :: c289 :: c290 :: c291 :: c292 :: c293 :: c294 :: c295 :: c296 :: c297 :: c298 :: c299 :: c300 :: c301 :: c302 :: c303 :: c304 :: c305 :: c306 :: c307 :: [])), []⟩ W5 := by
  have HK := hid hK
  clear hK
  have hlt5 : bs < W5.heap.size := (Array.getElem?_eq_some_iff.1 hbx).1
  have b0 : W5.cell? ⟨bs, 0, none⟩ = some (.int .i64 what) := by rw [cellOf hbx]; rfl
  have b1 : W5.cell? ⟨bs, 1, none⟩ = some (.int .i64 si) := by rw [cellOf hbx]; rfl
  have b2 : W5.cell? ⟨bs, 2, none⟩ = some (.int .i64 sn) := by rw [cellOf hbx]; rfl
  have b3 : W5.cell? ⟨bs, 3, none⟩ = some (.int .u8 fill) := by rw [cellOf hbx]; rfl
  have b4 : W5.cell? ⟨bs, 4, none⟩ = some (.bool short) := by rw [cellOf hbx]; rfl
  have Hbx := hid hbx
  have Hin := hid hin
  clear hbx hin
  conv => arg 2; whnf
  obtain ⟨vr, hD, _⟩ := hL.1.disk
  have t0 : (what == 0) = false := by simp; omega
  have t1 : (what == 1) = false := by simp; omega
  have t2 : (what == 2) = false := by simp; omega
  have t3 : (what == 3) = false := by simp; omega
  have t4 : (what == 4) = false := by simp; omega
  have t5 : (what == 5) = false := by simp; omega
  have hc := hL.2.2.2.1
  have HL := hid (hL.step (Below.refl _ _))
  simp [hd] at hc
  subst hc
  subst hi
  have hr := hid (read_no W5 hD si 11 (by have := Hin.out; simp [reachB, zs] at this ⊢; try omega) (by decide))
  go_wp2_with (first | (go_at_call 11; refine (Hid.out hr).mono ?_; rintro e w6 ⟨rfl, rfl⟩) | (go_at_call 8; refine (spoil_nil _).mono ?_; rintro e w6 ⟨rfl, rfl⟩))
  apply HK.out
  exact ⟨R, _, HL.out⟩

set_option maxRecDepth 100000 in
set_option maxHeartbeats 1000000 in
theorem sw_read_yes (w0 : World) (N0 bd bf cf bn cn bw n : Nat) (hb : 1 ≤ n) (hb' : n ≤ 20) (R : List (Nat × ByteArray)) (dl : Int) (k : Nat) (hk : k ≤ 50) (vm : Value) (left : Int) (cut : Bool) (W5 : World) (hL : L2 w0 N0 bd bf cf bn cn bw n R dl k vm left cut W5)
    (bs : Nat) (what si sn fill : Int) (short inb : Bool) (hbx : W5.heap[bs]? = some (.cells #[.int .i64 what, .int .i64 si, .int .i64 sn, .int .u8 fill, .bool short] 32 (0, 0))) (hin : decide (0 ≤ si ∧ si < (n : Int)) = inb)
    (l1 : -9223372036854775808 ≤ sn) (l2 : sn ≤ 9223372036854775807) (f0 : 0 ≤ fill) (f1 : fill ≤ 255) (hw : what < 0 ∨ 5 < what) (hd : dl ≠ 0) (hi : inb = true)
    (K : Act → World → Prop) (Q : Exit → Act → World → Prop) (c1 c2 c3 c4 c6 c9 c12 c15 c16 c17 c18 c19 c20 c21 c22 c23 c24 c25 c26 c27 c28 c29 c30 c31 c32 c33 c34 c35 c36 c37 c38 c39 c40 c41 c42 c43 c44 c45 c46 c47 c48 c49 c50 c51 c52 c53 c54 c55 c56 c57 c58 c59 c60 c61 c62 c63 c64 c65 c66 c67 c68 c69 c70 c71 c72 c73 c74 c75 c76 c77 c78 c79 c80 c81 c82 c83 c84 c85 c86 c87 c88 c89 c90 c91 c92 c93 c94 c95 c96 c97 c98 c99 c101 c102 c103 c104 c105 c106 c107 c108 c109 c110 c111 c112 c113 c114 c115 c116 c117 c118 c119 c120 c121 c122 c123 c124 c125 c126 c127 c128 c129 c130 c131 c132 c133 c134 c135 c136 c137 c138 c139 c140 c141 c142 c143 c144 c145 c146 c147 c148 c149 c150 c151 c152 c153 c154 c155 c156 c157 c158 c159 c160 c161 c162 c163 c164 c165 c166 c167 c168 c169 c170 c171 c172 c173 c174 c175 c176 c177 c178 c179 c180 c181 c182 c183 c184 c185 c186 c187 c188 c189 c190 c191 c192 c193 c194 c195 c196 c197 c198 c199 c200 c201 c202 c203 c204 c205 c206 c207 c208 c209 c210 c211 c212 c213 c214 c215 c216 c217 c218 c219 c220 c221 c222 c223 c224 c225 c226 c227 c228 c229 c230 c231 c232 c233 c234 c235 c236 c237 c238 c239 c240 c241 c242 c243 c244 c245 c246 c247 c248 c249 c250 c251 c252 c253 c254 c255 c256 c257 c258 c259 c260 c261 c262 c263 c264 c265 c266 c267 c268 c269 c270 c271 c272 c273 c274 c275 c276 c277 c278 c279 c280 c281 c282 c283 c284 c285 c286 c287 c288 c289 c290 c291 c292 c293 c294 c295 c296 c297 c298 c299 c300 c301 c302 c303 c304 c305 c306 c307 : Value)
    (hK : ∀ (vm1 : Value) (left1 : Int) (cut1 : Bool) (d4 d15 d16 d17 d18 d80 d81 d82 d83 d84 d85 d86 d87 d88 d89 d90 d91 d92 d93 d94 d95 d96 d97 d98 d99 d100 d101 d102 d103 d104 d105 d106 d107 d108 d109 d110 d111 d112 d113 d114 d115 d116 d117 d118 d119 d120 d121 d122 d123 d124 d125 d126 d127 d128 d129 d130 d131 d132 d133 d134 d135 d136 d137 d138 d139 d140 d141 d142 d143 d144 d145 d146 d147 d148 d149 d150 d151 d152 d153 d154 d155 d156 d157 d158 d159 d160 d161 d162 d163 d164 d165 d166 d167 d168 d169 d170 d171 d172 d173 d174 d175 d176 d177 d178 d179 d180 d181 d182 d183 d184 d185 d186 d187 d188 d189 d190 d191 d192 d193 d194 d195 d196 d197 d198 d199 d200 d201 d202 d203 d204 d205 d206 d207 : Value) (W : World), (∃ R dl, L2 w0 N0 bd bf cf bn cn bw n R dl (k + 1) vm1 left1 cut1 W) → K ⟨(List.toArray (.int .i64 (n : Int) :: c1 :: c2 :: c3 :: d4 :: .pointer (some ⟨bd, 0, none⟩) :: c6 :: vm1 :: .slice (some ⟨bw, 0, none⟩) n n :: c9 :: .int .i64 left1 :: .bool cut1 :: c12 :: .pointer (some ⟨bs, 0, none⟩) :: .bool inb :: d15 :: d16 :: d17 :: d18 :: c19 :: c20 :: c21 :: c22 :: c23 :: c24 :: c25 :: c26 :: c27 :: c28 :: c29 :: c30 :: c31 :: c32 :: c33 :: c34 :: c35 :: c36 :: c37 :: c38 :: c39 :: c40 :: c41 :: c42 :: c43 :: c44 :: c45 :: c46 :: c47 :: c48 :: c49 :: c50 :: c51 :: c52 :: c53 :: c54 :: c55 :: c56 :: c57 :: c58 :: c59 :: c60 :: c61 :: c62 :: c63 :: c64 :: c65 :: c66 :: c67 :: c68 :: c69 :: c70 :: c71 :: c72 :: c73 :: c74 :: c75 :: c76 :: c77 :: c78 :: c79 :: d80 :: d81 :: d82 :: d83 :: d84 :: d85 :: d86 :: d87 :: d88 :: d89 :: d90 :: d91 :: d92 :: d93 :: d94 :: d95 :: d96 :: d97 :: d98 :: d99 :: d100 :: d101 :: d102 :: d103 :: d104 :: d105 :: d106 :: d107 :: d108 :: d109 :: d110 :: d111 :: d112 :: d113 :: d114 :: d115 :: d116 :: d117 :: d118 :: d119 :: d120 :: d121 :: d122 :: d123 :: d124 :: d125 :: d126 :: d127 :: d128 :: d129 :: d130 :: d131 :: d132 :: d133 :: d134 :: d135 :: d136 :: d137 :: d138 :: d139 :: d140 :: d141 :: d142 :: d143 :: d144 :: d145 :: d146 :: d147 :: d148 :: d149 :: d150 :: d151 :: d152 :: d153 :: d154 :: d155 :: d156 :: d157 :: d158 :: d159 :: d160 :: d161 :: d162 :: d163 :: d164 :: d165 :: d166 :: d167 :: d168 :: d169 :: d170 :: d171 :: d172 :: d173 :: d174 :: d175 :: d176 :: d177 :: d178 :: d179 :: d180 :: d181 :: d182 :: d183 :: d184 :: d185 :: d186 :: d187 :: d188 :: d189 :: d190 :: d191 :: d192 :: d193 :: d194 :: d195 :: d196 :: d197 :: d198 :: d199 :: d200 :: d201 :: d202 :: d203 :: d204 :: d205 :: d206 :: d207 :: c208 :: c209 :: c210 :: c211 :: c212 :: c213 :: c214 :: c215 :: c216 :: c217 :: c218 :: c219 :: c220 :: c221 :: c222 :: c223 :: c224 :: c225 :: c226 :: c227 :: c228 :: c229 :: c230 :: c231 :: c232 :: c233 :: c234 :: c235 :: c236 :: c237 :: c238 :: c239 :: c240 :: c241 :: c242 :: c243 :: c244 :: c245 :: c246 :: c247 :: c248 :: c249 :: c250 :: c251 :: c252 :: c253 :: c254 :: c255 :: c256 :: c257 :: c258 :: c259 :: c260 :: c261 :: c262 :: c263 :: c264 :: c265 :: c266 :: c267 :: c268 :: c269 :: c270 :: c271 :: c272 :: c273 :: c274 :: c275 :: c276 :: c277 :: c278 :: c279 :: c280 :: c281 :: c282 :: c283 :: c284 :: c285 :: c286 :: c287 :: c288 :: c289 :: c290 :: c291 :: c292 :: c293 :: c294 :: c295 :: c296 :: c297 :: c298 :: c299 :: c300 :: c301 :: c302 :: c303 :: c304 :: c305 :: c306 :: c307 :: [])), []⟩ W) :
    Code.wp Try.prog ((findBlock 4 (Try.f3.body.getD .skip)).getD .skip) (Exit.then K Q) ⟨(List.toArray (.int .i64 (n : Int) :: c1 :: c2 :: c3 :: c4 :: .pointer (some ⟨bd, 0, none⟩) :: c6 :: vm :: .slice (some ⟨bw, 0, none⟩) n n :: c9 :: .int .i64 left :: .bool cut :: c12 :: .pointer (some ⟨bs, 0, none⟩) :: .bool inb :: c15 :: c16 :: c17 :: c18 :: c19 :: c20 :: c21 :: c22 :: c23 :: c24 :: c25 :: c26 :: c27 :: c28 :: c29 :: c30 :: c31 :: c32 :: c33 :: c34 :: c35 :: c36 :: c37 :: c38 :: c39 :: c40 :: c41 :: c42 :: c43 :: c44 :: c45 :: c46 :: c47 :: c48 :: c49 :: c50 :: c51 :: c52 :: c53 :: c54 :: c55 :: c56 :: c57 :: c58 :: c59 :: c60 :: c61 :: c62 :: c63 :: c64 :: c65 :: c66 :: c67 :: c68 :: c69 :: c70 :: c71 :: c72 :: c73 :: c74 :: c75 :: c76 :: c77 :: c78 :: c79 :: c80 :: c81 :: c82 :: c83 :: c84 :: c85 :: c86 :: c87 :: c88 :: c89 :: c90 :: c91 :: c92 :: c93 :: c94 :: c95 :: c96 :: c97 :: c98 :: c99 :: .int .i64 what :: c101 :: c102 :: c103 :: c104 :: c105 :: c106 :: c107 :: c108 :: c109 :: c110 :: c111 :: c112 :: c113 :: c114 :: c115 :: c116 :: c117 :: c118 :: c119 :: c120 :: c121 :: c122 :: c123 :: c124 :: c125 :: c126 :: c127 :: c128 :: c129 :: c130 :: c131 :: c132 :: c133 :: c134 :: c135 :: c136 :: c137 :: c138 :: c139 :: c140 :: c141 :: c142 :: c143 :: c144 :: c145 :: c146 :: c147 :: c148 :: c149 :: c150 :: c151 :: c152 :: c153 :: c154 :: c155 :: c156 :: c157 :: c158 :: c159 :: c160 :: c161 :: c162 :: c163 :: c164 :: c165 :: c166 :: c167 :: c168 :: c169 :: c170 :: c171 :: c172 :: c173 :: c174 :: c175 :: c176 :: c177 :: c178 :: c179 :: c180 :: c181 :: c182 :: c183 :: c184 :: c185 :: c186 :: c187 :: c188 :: c189 :: c190 :: c191 :: c192 :: c193 :: c194 :: c195 :: c196 :: c197 :: c198 :: c199 :: c200 :: c201 :: c202 :: c203 :: c204 :: c205 :: c206 :: c207 :: c208 :: c209 :: c210 :: c211 :: c212 :: c213 :: c214 :: c215 :: c216 :: c217 :: c218 :: c219 :: c220 :: c221 :: c222 :: c223 :: c224 :: c225 :: c226 :: c227 :: c228 :: c229 :: c230 :: c231 :: c232 :: c233 :: c234 :: c235 :: c236 :: c237 :: c238 :: c239 :: c240 :: c241 :: c242 :: c243 :: c244 :: c245 :: c246 :: c247 :: c248 :: c249 :: c250 :: c251 :: c252 :: c253 :: c254 :: c255 :: c256 :: c257 :: c258 :: c259 :: c260 :: c261 :: c262 :: c263 :: c264 :: c265 :: c266 :: c267 :: c268 :: c269 :: c270 :: c271 :: c272 :: c273 :: c274 :: c275 :: c276 :: c277 :: c278 :: c279 :: c280 :: c281 :: c282 :: c283 :: c284 :: c285 :: c286 :: c287 :: c288 :: c289 :: c290 :: c291 :: c292 :: c293 :: c294 :: c295 :: c296 :: c297 :: c298 :: c299 :: c300 :: c301 :: c302 :: c303 :: c304 :: c305 :: c306 :: c307 :: [])), []⟩ W5 := by
  have HK := hid hK
  clear hK
  have hlt5 : bs < W5.heap.size := (Array.getElem?_eq_some_iff.1 hbx).1
  have b0 : W5.cell? ⟨bs, 0, none⟩ = some (.int .i64 what) := by rw [cellOf hbx]; rfl
  have b1 : W5.cell? ⟨bs, 1, none⟩ = some (.int .i64 si) := by rw [cellOf hbx]; rfl
  have b2 : W5.cell? ⟨bs, 2, none⟩ = some (.int .i64 sn) := by rw [cellOf hbx]; rfl
  have b3 : W5.cell? ⟨bs, 3, none⟩ = some (.int .u8 fill) := by rw [cellOf hbx]; rfl
  have b4 : W5.cell? ⟨bs, 4, none⟩ = some (.bool short) := by rw [cellOf hbx]; rfl
  have Hbx := hid hbx
  have Hin := hid hin
  clear hbx hin
  conv => arg 2; whnf
  obtain ⟨vr, hD, _⟩ := hL.1.disk
  have t0 : (what == 0) = false := by simp; omega
  have t1 : (what == 1) = false := by simp; omega
  have t2 : (what == 2) = false := by simp; omega
  have t3 : (what == 3) = false := by simp; omega
  have t4 : (what == 4) = false := by simp; omega
  have t5 : (what == 5) = false := by simp; omega
  have hc := hL.2.2.2.1
  have HL := hid (hL.step (Below.refl _ _))
  simp [hd] at hc
  subst hc
  subst hi
  have hin := Hin.out
  simp at hin
  obtain ⟨j, rfl⟩ := Int.eq_ofNat_of_zero_le hin.1
  have hjn : j < n := by omega
  have hlen := hD.nlen
  have hjl : j < (replay (zs n) R).length := by rw [hlen]; simp [zs]; exact hjn
  obtain ⟨s, hs⟩ : ∃ s, (replay (zs n) R)[j]? = some s := ⟨_, List.getElem?_eq_getElem hjl⟩
  have hsz : s.size = 256 := replay_size hL.2.2.1 (by intro q hq; rw [List.eq_of_mem_replicate hq]; exact zeroS_size) (List.mem_of_getElem? hs)
  have hr := hid (read_at W5 hD (j : Int) j rfl s hs hd 256 hsz)
  obtain ⟨vals, hn1, hn2⟩ := hL.1.now
  obtain ⟨b', ns', hv', hy', hm'⟩ := hn2.2 j s hs
  have hcn : W5.cell? ⟨bw, j, none⟩ = some (.slice (some ⟨b', 0, none⟩) 256 256) := by rw [cellOf hn1]; simpa using hv'
  have hbw : bw < W5.heap.size := hL.1.lt
  have HD := hid (And.intro hD (And.intro hL (And.intro hn1 hn2)))
  have Hs := hid hs
  have Hm := hid hm'
  clear hn1 hn2 hv' hm' hlen hin hsz hs hD hL
  go_wp2_with fail
  refine (Hid.out hr).mono ?_
  rintro e w6 ⟨cap6, rfl, hy6, hB6, hz6⟩
  have b1' : w6.cell? ⟨bs, 1, none⟩ = some (.int .i64 (j : Int)) := (hB6.cell (p := ⟨bs, 1, none⟩) hlt5).trans b1
  have hcn' : w6.cell? ⟨bw, j, none⟩ = some (.slice (some ⟨b', 0, none⟩) 256 256) := (hB6.cell (p := ⟨bw, j, none⟩) hbw).trans hcn
  have hyb : By w6 b' 256 ns' := hy'.kept (hB6.block b' hy'.lt)
  have hbs := hid (bytes_same w6 W5.heap.size 256 cap6 b' 256 256 (strNs s) ns' hy6 hyb (by rw [mkStr_strNs, Hm.out]))
  have hsp := hid (spoil_any w6 W5.heap.size 256 cap6 (strNs s) hy6 (by omega))
  have Hz6 := hid hz6
  clear hz6 b0 b1 b2 b3 b4
  go_wp2_with (first | (go_at_call 12; refine (Hid.out hbs).mono ?_; rintro e w7 ⟨rfl, rfl⟩) | (go_at_call 8; refine (Hid.out hsp).mono ?_; rintro e w8 ⟨rfl, hg8, hz8⟩))
  apply HK.out
  obtain ⟨hD, hL, _⟩ := HD.out
  refine ⟨R, dl, hL.step (hB6.grown hg8 hB6.size (fun k e => by cases e; exact Nat.le_refl _))⟩
end Go.Proofs.Ytbhopjnolgfpnaa
