/- DiskPlays: a step: a Write that is done. -/
import Derived.Test.YtbhopjnolgfpnaaN
import Derived.Deep.AppendLies
import Derived.Deep.RegionHeld3
import Derived.Deep.RegionWith
namespace Go.Proofs.Ytbhopjnolgfpnaa
open Go.RowKit Go.Deep
set_option linter.unusedVariables false
set_option linter.unusedSimpArgs false

variable {w0 : World} {N0 bd bf cf bn cn bw : Nat} {F : List ByteArray} {R R' : List (Nat × ByteArray)} {dl : Int} {vm : Value} {W W' : World}

theorem Disk.far {vr : Value} {N : List ByteArray} (h : Disk W bd bf cf bn cn vr F N R dl) (hf : ∀ j, j < W.heap.size → j ≠ bd → j ≠ bn → some j ≠ vr.ownBlock → W'.heap[j]? = W.heap[j]?) {j : Nat} {c : Array Value} {t : TypeId} {f : Nat × Nat} (ht1 : t ≠ 50) (ht2 : t ≠ 9) (ht3 : t ≠ 47) (hj : W.heap[j]? = some (.cells c t f)) : W'.heap[j]? = W.heap[j]? := by
  have hd := h.dk
  unfold Dk at hd
  obtain ⟨cn1, hn1, _⟩ := ownsRow_block h.n
  refine hf j (Array.getElem?_eq_some_iff.1 hj).1 ?_ ?_ ?_
  · rintro rfl; rw [hd] at hj; cases hj; exact ht1 rfl
  · rintro rfl; rw [hn1] at hj; cases hj; exact ht2 rfl
  · intro e
    rcases h.r.2 with ⟨rfl, _⟩ | ⟨g, cp, cur, rfl, _, hh, _⟩
    · cases e
    · cases e; rw [hh] at hj; cases hj; exact ht3 rfl

/- A row of bytes was spoilt: the disk is as it was. -/
theorem Disk.spoilt {vr : Value} {N : List ByteArray} (h : Disk W bd bf cf bn cn vr F N R dl) {b n : Nat} {ns : List Int} (hb : By W b n ns) (hg : W.grownBy W' (some b)) : Disk W' bd bf cf bn cn vr F N R dl := by
  obtain ⟨_, c5, f5, hb5, _⟩ := hb
  have hd := h.dk
  unfold Dk at hd
  obtain ⟨cn1, hn1, _⟩ := ownsRow_block h.n
  obtain ⟨cf1, hf1, _⟩ := ownsRow_block h.f
  have q : ∀ (j : Nat) (c : Array Value) (t : TypeId) (f : Nat × Nat), t ≠ 5 → W.heap[j]? = some (.cells c t f) → W'.heap[j]? = W.heap[j]? := fun j c t f ht hj =>
    hg.block j (Array.getElem?_eq_some_iff.1 hj).1 (fun e => by cases e; rw [hb5] at hj; cases hj; exact ht rfl)
  refine h.kept (q _ _ _ _ (by decide) hd) (q _ _ _ _ (by decide) hf1) (q _ _ _ _ (by decide) hn1) (fun g e => ?_)
  rcases h.r.2 with ⟨rfl, _⟩ | ⟨g, cp, cur, rfl, _, hh, _⟩
  · cases e
  · cases e; exact q _ _ _ _ (by decide) hh

theorem LI.done (h : LI w0 N0 bd bf cf bn cn bw F R' R' R dl vm W) {p : Nat × ByteArray} (hR' : R' = R ++ [p]) {vals : List Value} (hv1 : W.heap[bw]? = some (.cells vals.toArray 30 (0, 0))) (hv2 : RowsOf W vals (replay F R')) {n b3 g1 c1 g2 c2 : Nat} (hn : F.length = n)
    {w11 w12 : World} (ho3 : w11.ownsRow b3 30 1 (.slice (some ⟨g1, 0, none⟩) n c1) n vals) (hg3 : W.grownBy w11 none) (hgb : g1 ≠ bw) {ms : List Value} (hms : W.ownsRow N0 29 1 vm (R.length + 1) ms) (hmm : ∀ m, m ≤ R.length → ∃ v, ms[m]? = some v ∧ MomIs W bw v (replay F (R.take m)))
    (ho4 : w12.ownsRow N0 29 1 (.slice (some ⟨g2, 0, none⟩) (R.length + 1 + 1) c2) (R.length + 1 + 1) (ms ++ [.slice (some ⟨g1, 0, none⟩) n c1])) {o : Obj} (hg4 : (w11.alloc o).grownBy w12 vm.ownBlock) :
    LI w0 N0 bd bf cf bn cn bw F R' R' R' dl (.slice (some ⟨g2, 0, none⟩) (R.length + 1 + 1) c2) w12 := by
  have hB : Below W.heap.size W w11 := ⟨hg3.os, hg3.tape, hg3.output, hg3.size, fun k hk => hg3.block k hk (by simp)⟩
  have hB2 : Below w11.heap.size w11 (w11.alloc o) := (Below.refl _ _).alloc (Nat.le_refl _) _
  have hB3 : Below W.heap.size W (w11.alloc o) := hB.trans (hB2.mono hg3.size)
  have hl : (replay F R').length = n := by rw [replay_length, hn]
  have k : ∀ (j : Nat) (q : Obj), W.heap[j]? = some q → (w11.alloc o).heap[j]? = W.heap[j]? := fun j q hq => hB3.block j (Array.getElem?_eq_some_iff.1 hq).1
  have hm : MomIs w11 bw (.slice (some ⟨g1, 0, none⟩) (replay F R').length c1) (replay F R') := moment_of hv1 hv2 (by rw [hl]; exact ho3) hg3 hgb
  have hm2 : MomIs (w11.alloc o) bw (.slice (some ⟨g1, 0, none⟩) n c1) (replay F R') := by
    rw [← hl]
    exact hm.kept (fun j c f hj => hB2.block j (Array.getElem?_eq_some_iff.1 hj).1) (fun j c f _ hj => hB2.block j (Array.getElem?_eq_some_iff.1 hj).1)
  subst hR'
  refine (h.step hB3).noted hm2 (ownsRow_same hms (fun g e => hB3.block g (hms.lt g e).2)) (fun m hm' => ?_) ho4 hg4
  obtain ⟨v, h1, h2⟩ := hmm m hm'
  exact ⟨v, h1, h2.kept (fun j c f => k j _) (fun j c f _ => k j _)⟩

theorem L2.wrote {n k : Nat} {left : Int} {vm' : Value} (hL : L2 w0 N0 bd bf cf bn cn bw n R dl k vm left false W) (hd : dl ≠ 0) (p : Nat × ByteArray) (hp : p.2.size = 256) (h : LI w0 N0 bd bf cf bn cn bw (zs n) (R ++ [p]) (R ++ [p]) (R ++ [p]) (decLeft dl) vm' W')
    (left' : Int) (cut' : Bool) (hl' : left' = if 0 < left then left - 1 else left) (hc' : cut' = decide (left' = 0)) : L2 w0 N0 bd bf cf bn cn bw n (R ++ [p]) (decLeft dl) (k + 1) vm' left' cut' W' := by
  obtain ⟨_, h2, h3, _, h5, h6, h7, h8⟩ := hL
  have h5' := h5 hd
  subst hl'
  subst hc'
  refine ⟨h, by simp; omega, fun q hq => ?_, ?_, fun hq => ?_, ?_, ?_, ?_⟩
  · rw [List.mem_append] at hq
    rcases hq with hq | hq
    · exact h3 q hq
    · simp at hq; subst hq; exact hp
  · congr 1
    rw [eq_iff_iff]
    unfold decLeft
    rcases h5' with rfl | ⟨a, rfl⟩
    · rfl
    · simp; rw [if_neg (by omega)]; omega
  · unfold decLeft
    rcases h5' with rfl | ⟨a, rfl⟩
    · exact .inl rfl
    · rw [if_neg (show ¬ (0 < dl) by omega)]; exact .inr ⟨a, rfl⟩
  · unfold decLeft; split <;> omega
  · split <;> omega
  · split <;> omega

set_option maxRecDepth 100000 in
set_option maxHeartbeats 1000000 in
theorem sw_write_yes (w0 : World) (N0 bd bf cf bn cn bw n : Nat) (hb : 1 ≤ n) (hb' : n ≤ 20) (R : List (Nat × ByteArray)) (dl : Int) (k : Nat) (hk : k ≤ 50) (vm : Value) (left : Int) (cut : Bool) (W5 : World) (hL : L2 w0 N0 bd bf cf bn cn bw n R dl k vm left cut W5)
    (bs : Nat) (what si sn fill : Int) (short inb : Bool) (hbx : W5.heap[bs]? = some (.cells #[.int .i64 what, .int .i64 si, .int .i64 sn, .int .u8 fill, .bool short] 32 (0, 0))) (hin : decide (0 ≤ si ∧ si < (n : Int)) = inb)
    (l1 : -9223372036854775808 ≤ sn) (l2 : sn ≤ 9223372036854775807) (f0 : 0 ≤ fill) (f1 : fill ≤ 255) (hw : what = 0 ∨ what = 1 ∨ what = 2 ∨ what = 3) (hd : dl ≠ 0) (hi : inb = true) (hsh : short = false)
    (K : Act → World → Prop) (Q : Exit → Act → World → Prop) (c1 c2 c3 c4 c6 c9 c12 c15 c16 c17 c18 c19 c20 c21 c22 c23 c24 c25 c26 c27 c28 c29 c30 c31 c32 c33 c34 c35 c36 c37 c38 c39 c40 c41 c42 c43 c44 c45 c46 c47 c48 c49 c50 c51 c52 c53 c54 c55 c56 c57 c58 c59 c60 c61 c62 c63 c64 c65 c66 c67 c68 c69 c70 c71 c72 c73 c74 c75 c76 c77 c78 c79 c80 c81 c82 c83 c84 c85 c86 c87 c88 c89 c90 c91 c92 c93 c94 c95 c96 c97 c98 c99 c101 c102 c103 c104 c105 c106 c107 c108 c109 c110 c111 c112 c113 c114 c115 c116 c117 c118 c119 c120 c121 c122 c123 c124 c125 c126 c127 c128 c129 c130 c131 c132 c133 c134 c135 c136 c137 c138 c139 c140 c141 c142 c143 c144 c145 c146 c147 c148 c149 c150 c151 c152 c153 c154 c155 c156 c157 c158 c159 c160 c161 c162 c163 c164 c165 c166 c167 c168 c169 c170 c171 c172 c173 c174 c175 c176 c177 c178 c179 c180 c181 c182 c183 c184 c185 c186 c187 c188 c189 c190 c191 c192 c193 c194 c195 c196 c197 c198 c199 c200 c201 c202 c203 c204 c205 c206 c207 c208 c209 c210 c211 c212 c213 c214 c215 c216 c217 c218 c219 c220 c221 c222 c223 c224 c225 c226 c227 c228 c229 c230 c231 c232 c233 c234 c235 c236 c237 c238 c239 c240 c241 c242 c243 c244 c245 c246 c247 c248 c249 c250 c251 c252 c253 c254 c255 c256 c257 c258 c259 c260 c261 c262 c263 c264 c265 c266 c267 c268 c269 c270 c271 c272 c273 c274 c275 c276 c277 c278 c279 c280 c281 c282 c283 c284 c285 c286 c287 c288 c289 c290 c291 c292 c293 c294 c295 c296 c297 c298 c299 c300 c301 c302 c303 c304 c305 c306 c307 : Value)
    (hK : ∀ (vm1 : Value) (left1 : Int) (cut1 : Bool) (d4 d15 d16 d17 d18 d80 d81 d82 d83 d84 d85 d86 d87 d88 d89 d90 d91 d92 d93 d94 d95 d96 d97 d98 d99 d100 d101 d102 d103 d104 d105 d106 d107 d108 d109 d110 d111 d112 d113 d114 d115 d116 d117 d118 d119 d120 d121 d122 d123 d124 d125 d126 d127 d128 d129 d130 d131 d132 d133 d134 d135 d136 d137 d138 d139 d140 d141 d142 d143 d144 d145 d146 d147 d148 d149 d150 d151 d152 d153 d154 d155 d156 d157 d158 d159 d160 d161 d162 d163 d164 d165 d166 d167 d168 d169 d170 d171 d172 d173 d174 d175 d176 d177 d178 d179 d180 d181 d182 d183 d184 d185 d186 d187 d188 d189 d190 d191 d192 d193 d194 d195 d196 d197 d198 d199 d200 d201 d202 d203 d204 d205 d206 d207 : Value) (W : World), (∃ R dl, L2 w0 N0 bd bf cf bn cn bw n R dl (k + 1) vm1 left1 cut1 W) → K ⟨(List.toArray (.int .i64 (n : Int) :: c1 :: c2 :: c3 :: d4 :: .pointer (some ⟨bd, 0, none⟩) :: c6 :: vm1 :: .slice (some ⟨bw, 0, none⟩) n n :: c9 :: .int .i64 left1 :: .bool cut1 :: c12 :: .pointer (some ⟨bs, 0, none⟩) :: .bool inb :: d15 :: d16 :: d17 :: d18 :: c19 :: c20 :: c21 :: c22 :: c23 :: c24 :: c25 :: c26 :: c27 :: c28 :: c29 :: c30 :: c31 :: c32 :: c33 :: c34 :: c35 :: c36 :: c37 :: c38 :: c39 :: c40 :: c41 :: c42 :: c43 :: c44 :: c45 :: c46 :: c47 :: c48 :: c49 :: c50 :: c51 :: c52 :: c53 :: c54 :: c55 :: c56 :: c57 :: c58 :: c59 :: c60 :: c61 :: c62 :: c63 :: c64 :: c65 :: c66 :: c67 :: c68 :: c69 :: c70 :: c71 :: c72 :: c73 :: c74 :: c75 :: c76 :: c77 :: c78 :: c79 :: d80 :: d81 :: d82 :: d83 :: d84 :: d85 :: d86 :: d87 :: d88 :: d89 :: d90 :: d91 :: d92 :: d93 :: d94 :: d95 :: d96 :: d97 :: d98 :: d99 :: d100 :: d101 :: d102 :: d103 :: d104 :: d105 :: d106 :: d107 :: d108 :: d109 :: d110 :: d111 :: d112 :: d113 :: d114 :: d115 :: d116 :: d117 :: d118 :: d119 :: d120 :: d121 :: d122 :: d123 :: d124 :: d125 :: d126 :: d127 :: d128 :: d129 :: d130 :: d131 :: d132 :: d133 :: d134 :: d135 :: d136 :: d137 :: d138 :: d139 :: d140 :: d141 :: d142 :: d143 :: d144 :: d145 :: d146 :: d147 :: d148 :: d149 :: d150 :: d151 :: d152 :: d153 :: d154 :: d155 :: d156 :: d157 :: d158 :: d159 :: d160 :: d161 :: d162 :: d163 :: d164 :: d165 :: d166 :: d167 :: d168 :: d169 :: d170 :: d171 :: d172 :: d173 :: d174 :: d175 :: d176 :: d177 :: d178 :: d179 :: d180 :: d181 :: d182 :: d183 :: d184 :: d185 :: d186 :: d187 :: d188 :: d189 :: d190 :: d191 :: d192 :: d193 :: d194 :: d195 :: d196 :: d197 :: d198 :: d199 :: d200 :: d201 :: d202 :: d203 :: d204 :: d205 :: d206 :: d207 :: c208 :: c209 :: c210 :: c211 :: c212 :: c213 :: c214 :: c215 :: c216 :: c217 :: c218 :: c219 :: c220 :: c221 :: c222 :: c223 :: c224 :: c225 :: c226 :: c227 :: c228 :: c229 :: c230 :: c231 :: c232 :: c233 :: c234 :: c235 :: c236 :: c237 :: c238 :: c239 :: c240 :: c241 :: c242 :: c243 :: c244 :: c245 :: c246 :: c247 :: c248 :: c249 :: c250 :: c251 :: c252 :: c253 :: c254 :: c255 :: c256 :: c257 :: c258 :: c259 :: c260 :: c261 :: c262 :: c263 :: c264 :: c265 :: c266 :: c267 :: c268 :: c269 :: c270 :: c271 :: c272 :: c273 :: c274 :: c275 :: c276 :: c277 :: c278 :: c279 :: c280 :: c281 :: c282 :: c283 :: c284 :: c285 :: c286 :: c287 :: c288 :: c289 :: c290 :: c291 :: c292 :: c293 :: c294 :: c295 :: c296 :: c297 :: c298 :: c299 :: c300 :: c301 :: c302 :: c303 :: c304 :: c305 :: c306 :: c307 :: [])), []⟩ W) :
    Code.wp Try.prog ((findBlock 4 (Try.f3.body.getD .skip)).getD .skip) (Exit.then K Q) ⟨(List.toArray (.int .i64 (n : Int) :: c1 :: c2 :: c3 :: c4 :: .pointer (some ⟨bd, 0, none⟩) :: c6 :: vm :: .slice (some ⟨bw, 0, none⟩) n n :: c9 :: .int .i64 left :: .bool cut :: c12 :: .pointer (some ⟨bs, 0, none⟩) :: .bool inb :: c15 :: c16 :: c17 :: c18 :: c19 :: c20 :: c21 :: c22 :: c23 :: c24 :: c25 :: c26 :: c27 :: c28 :: c29 :: c30 :: c31 :: c32 :: c33 :: c34 :: c35 :: c36 :: c37 :: c38 :: c39 :: c40 :: c41 :: c42 :: c43 :: c44 :: c45 :: c46 :: c47 :: c48 :: c49 :: c50 :: c51 :: c52 :: c53 :: c54 :: c55 :: c56 :: c57 :: c58 :: c59 :: c60 :: c61 :: c62 :: c63 :: c64 :: c65 :: c66 :: c67 :: c68 :: c69 :: c70 :: c71 :: c72 :: c73 :: c74 :: c75 :: c76 :: c77 :: c78 :: c79 :: c80 :: c81 :: c82 :: c83 :: c84 :: c85 :: c86 :: c87 :: c88 :: c89 :: c90 :: c91 :: c92 :: c93 :: c94 :: c95 :: c96 :: c97 :: c98 :: c99 :: .int .i64 what :: c101 :: c102 :: c103 :: c104 :: c105 :: c106 :: c107 :: c108 :: c109 :: c110 :: c111 :: c112 :: c113 :: c114 :: c115 :: c116 :: c117 :: c118 :: c119 :: c120 :: c121 :: c122 :: c123 :: c124 :: c125 :: c126 :: c127 :: c128 :: c129 :: c130 :: c131 :: c132 :: c133 :: c134 :: c135 :: c136 :: c137 :: c138 :: c139 :: c140 :: c141 :: c142 :: c143 :: c144 :: c145 :: c146 :: c147 :: c148 :: c149 :: c150 :: c151 :: c152 :: c153 :: c154 :: c155 :: c156 :: c157 :: c158 :: c159 :: c160 :: c161 :: c162 :: c163 :: c164 :: c165 :: c166 :: c167 :: c168 :: c169 :: c170 :: c171 :: c172 :: c173 :: c174 :: c175 :: c176 :: c177 :: c178 :: c179 :: c180 :: c181 :: c182 :: c183 :: c184 :: c185 :: c186 :: c187 :: c188 :: c189 :: c190 :: c191 :: c192 :: c193 :: c194 :: c195 :: c196 :: c197 :: c198 :: c199 :: c200 :: c201 :: c202 :: c203 :: c204 :: c205 :: c206 :: c207 :: c208 :: c209 :: c210 :: c211 :: c212 :: c213 :: c214 :: c215 :: c216 :: c217 :: c218 :: c219 :: c220 :: c221 :: c222 :: c223 :: c224 :: c225 :: c226 :: c227 :: c228 :: c229 :: c230 :: c231 :: c232 :: c233 :: c234 :: c235 :: c236 :: c237 :: c238 :: c239 :: c240 :: c241 :: c242 :: c243 :: c244 :: c245 :: c246 :: c247 :: c248 :: c249 :: c250 :: c251 :: c252 :: c253 :: c254 :: c255 :: c256 :: c257 :: c258 :: c259 :: c260 :: c261 :: c262 :: c263 :: c264 :: c265 :: c266 :: c267 :: c268 :: c269 :: c270 :: c271 :: c272 :: c273 :: c274 :: c275 :: c276 :: c277 :: c278 :: c279 :: c280 :: c281 :: c282 :: c283 :: c284 :: c285 :: c286 :: c287 :: c288 :: c289 :: c290 :: c291 :: c292 :: c293 :: c294 :: c295 :: c296 :: c297 :: c298 :: c299 :: c300 :: c301 :: c302 :: c303 :: c304 :: c305 :: c306 :: c307 :: [])), []⟩ W5 := by
  have HK := hid hK
  clear hK
  have hlt5 : bs < W5.heap.size := (Array.getElem?_eq_some_iff.1 hbx).1
  have b0 : W5.cell? ⟨bs, 0, none⟩ = some (.int .i64 what) := by rw [cellOf hbx]; rfl
  have b1 : W5.cell? ⟨bs, 1, none⟩ = some (.int .i64 si) := by rw [cellOf hbx]; rfl
  have b2 : W5.cell? ⟨bs, 2, none⟩ = some (.int .i64 sn) := by rw [cellOf hbx]; rfl
  have b3 : W5.cell? ⟨bs, 3, none⟩ = some (.int .u8 fill) := by rw [cellOf hbx]; rfl
  have b4 : W5.cell? ⟨bs, 4, none⟩ = some (.bool short) := by rw [cellOf hbx]; rfl
  have Hbx := hid hbx
  have Hin := hid hin
  clear hbx hin
  conv => arg 2; whnf
  obtain ⟨vr, hD, hvr⟩ := hL.1.disk
  have hc := hL.2.2.2.1
  have HW := hid hw
  clear hw
  simp [hd] at hc
  subst hc
  subst hi
  subst hsh
  have hin := Hin.out
  simp at hin
  obtain ⟨j, rfl⟩ := Int.eq_ofNat_of_zero_le hin.1
  have hjn : j < n := by omega
  clear hin
  obtain ⟨gm, cm, rfl⟩ := hL.vmIs
  go_upto_if 131 with fail
  go_cut [131] from 132 to 135 (fun v wc => v = .bool true ∧ wc = W5)
  case first =>
    rcases HW.out with rfl | rfl | rfl | rfl
    all_goals
      go_wp2
      go_meet
      case rel => exact ⟨rfl, rfl⟩
  case rest =>
    obtain ⟨rfl, rfl⟩ := hcut
    have hbk := hid (block_at wc fill f0 f1)
    go_wp2_with fail
    refine (Hid.out hbk).mono ?_
    rintro e w6 ⟨rfl, hy6, hB6, hz6⟩
    have b1' : w6.cell? ⟨bs, 1, none⟩ = some (.int .i64 (j : Int)) := (hB6.cell (p := ⟨bs, 1, none⟩) hlt5).trans b1
    have b4' : w6.cell? ⟨bs, 4, none⟩ = some (.bool false) := (hB6.cell (p := ⟨bs, 4, none⟩) hlt5).trans b4
    have hbx6 : w6.heap[bs]? = _ := (hB6.block bs hlt5).trans Hbx.out
    have hD6 := hD.below hB6
    have hRk := hL.2.1
    have hdm := hL.2.2.2.2.2.1
    have hwr := hid (write_at w6 hD6 (j : Int) j rfl (by simp [zs]; exact hjn) hd wc.heap.size 256 _ hy6 (by omega) hdm)
    have Hz6 := hid hz6
    clear hz6 b0 b1 b2 b3 b4
    go_wp2_with fail
    refine (Hid.out hwr).mono ?_
    rintro e w7 ⟨rfl, vr7, hD7, hv7, hz7, hf7, hb7⟩
    have hbx7 : w7.heap[bs]? = _ := (hD6.far hf7 (by decide) (by decide) (by decide) hbx6).trans hbx6
    have hy7 : By w7 wc.heap.size 256 (blkList fill 256) := hy6.kept (by obtain ⟨_, c, f, hq, _⟩ := hy6; exact hD6.far hf7 (by decide) (by decide) (by decide) hq)
    have hsp := hid (spoil_any w7 wc.heap.size 256 256 _ hy7 (by omega))
    clear b1' b4'
    go_wp2_with fail
    refine (Hid.out hsp).mono ?_
    rintro e w8 ⟨rfl, hg8, hz8⟩
    have hs7 := hB6.size
    have hs8 := hb7.size
    have hbx8 : w8.heap[bs]? = some (.cells #[.int .i64 what, .int .i64 (j : Int), .int .i64 sn, .int .u8 fill, .bool false] 32 (0, 0)) := (hg8.block bs (by omega) (fun e => by cases e; omega)).trans hbx7
    have hL8 : LI w0 N0 bd bf cf bn cn bw (zs n) (R ++ [(j, blkS fill)]) R R (decLeft dl) (.slice (some ⟨gm, 0, none⟩) (R.length + 1) cm) w8 := by
      refine hL.1.written hD hvr (hD7.spoilt hy7 hg8) (by rw [replay_snoc]; rfl) (by
        rcases hv7 with h | ⟨g, h1, h2⟩
        · exact .inl h
        · exact .inr ⟨g, h1, by omega⟩) (fun q hq a b c => ?_) ⟨?_, ?_, ?_, by have := hg8.size; omega, fun q hq => by omega⟩
      · rw [hg8.block q (by omega) (fun e => by cases e; omega), hf7 q (by omega) a b c, hB6.block q hq]
      · rw [hg8.os, hb7.os, hB6.os]
      · rw [hg8.tape, hb7.tape, hB6.tape]
      · rw [hg8.output, hb7.output, hB6.output]
    have hL8' := hL8.step (W' := w8.drew) ((Below.refl _ _).drew)
    have HL := hid (And.intro hL hL8)
    have s1 : w8.cell? ⟨bs, 1, none⟩ = some (.int .i64 (j : Int)) := by rw [cellOf hbx8]; rfl
    have s3 : w8.cell? ⟨bs, 3, none⟩ = some (.int .u8 fill) := by rw [cellOf hbx8]; rfl
    have hlt8 : bs < w8.heap.size := (Array.getElem?_eq_some_iff.1 hbx8).1
    have hj0 : (0 : Int) ≤ (j : Int) := Int.natCast_nonneg _
    have hj1 : (j : Int) < (n : Int) := by omega
    have hbk9 := hid (block_at w8.drew fill f0 f1)
    obtain ⟨vals8, hn8, hr8⟩ := hL8.now
    have hv8l : j < vals8.length := by rw [hr8.1, replay_length]; simp [zs]; exact hjn
    have u8 : w8.cell? ⟨bw, j, none⟩ = some (vals8[j]'hv8l) := by rw [cellOf hn8]; simp [hv8l]
    have q8 := freeOf hn8 j
    have hbw8 : bw < w8.heap.size := hL8.lt
    have hne1 : ¬ bs = bw := by rintro rfl; rw [hn8] at hbx8; cases hbx8
    have hne2 : ¬ bw = bs := fun e => hne1 e.symm
    clear hn8 hr8
    clear hL hL8 hL8' hD hD6 hD7 hv7 hf7 hb7 hg8 hz8 hy6 hy7 hB6 hbx6 hbx7 hbx8 hwr hsp hbk hz7 hvr hlt5 hs7 hs8
    generalize vals8[j]'hv8l = uu at *
    go_wp2_with fail
    go_region_held3 (fun w2 => w2.cell? ⟨bs, 1, none⟩ = some (.int .i64 (j : Int)) ∧ w2.cell? ⟨bs, 3, none⟩ = some (.int .u8 fill)) (first | exact ⟨t1, t3⟩ | go_keep) ((go_at_call 6; refine (Hid.out hbk9).mono ?_; rintro e w9 ⟨rfl, hy9, hB9, hz9⟩; have t1 : w9.cell? ⟨bs, 1, none⟩ = some (.int .i64 (j : Int)) := (hB9.cell (p := ⟨bs, 1, none⟩) hlt8).trans s1; have t3 : w9.cell? ⟨bs, 3, none⟩ = some (.int .u8 fill) := (hB9.cell (p := ⟨bs, 3, none⟩) hlt8).trans s3; have t5 : w9.cell? ⟨bw, j, none⟩ = some uu := (hB9.cell (p := ⟨bw, j, none⟩) hbw8).trans u8; have t6 : w9.frozen? ⟨bw, j, none⟩ = false := (hB9.frozen (p := ⟨bw, j, none⟩) hbw8).trans q8; have Hz9 := hid hz9; clear hz9))
    have hL9 := (HL.out.2.step (W' := w8.drew) ((Below.refl _ _).drew)).step hB9
    have hL10 : LI w0 N0 bd bf cf bn cn bw (zs n) (R ++ [(j, blkS fill)]) (R ++ [(j, blkS fill)]) R (decLeft dl) (.slice (some ⟨gm, 0, none⟩) (R.length + 1) cm) (w9.setCell ⟨bw, j, none⟩ (.slice (some ⟨w8.heap.size, 0, none⟩) 256 256)) := hL9.stored hy9
    generalize w9.setCell ⟨bw, j, none⟩ (.slice (some ⟨w8.heap.size, 0, none⟩) 256 256) = W10 at hL10 ⊢
    clear hL9 hy9 hB9 t1 t3 t5 t6 s1 s3 u8 q8 hbk9
    obtain ⟨vals, hv1, hv2⟩ := hL10.now
    obtain ⟨ms, hms, hmm⟩ := hL10.moms
    have hvl : vals.length = n := by rw [hv2.1, replay_length]; simp [zs]
    have hcv : ∀ i u, vals[i]? = some u → W10.cell? ((⟨bw, 0, none⟩ : Addr).add i) = some u := fun i u hu => by
      rw [Addr.add_lit, Nat.zero_add, cellOf hv1]; simpa using hu
    obtain ⟨i30, hi30, hz30, hs30, hy30⟩ := info_parts info30
    obtain ⟨i29, hi29, hz29, hs29, hy29⟩ := info_parts info29
    have hbwW : bw < W10.heap.size := hL10.lt
    have hNW : N0 ≤ W10.heap.size := Nat.le_trans hL10.hN hL10.below.size
    have Hcv := hid hcv
    have H1v := hid hv2.one
    have Hhn := hid hvl
    have Hms := hid hms
    have HA := hid (And.intro hL10 (And.intro hv1 (And.intro hv2 hmm)))
    clear hv1 hv2 hcv hvl hms hmm hL10
    have hll := HL.out.1.2.2.2.2.1 hd
    have Hll := hid hll
    clear hll
    go_wp2_with (first | (at_builtin; refine wpList_append_lies _ rfl (.const (.slice none 0 0)) (.tmp 168) 29 rfl 0 30 i30 (.slice none 0 0) 1 24 Try.underlying29 hi30 hz30 hs30 hy30 rfl (by decide) (.slice none 0 0) 0 [] rfl (World.ownsRow_nil _ _ _ _) ⟨bw, 0, none⟩ n n vals rfl (by rw [Hhn.out]; omega) Hcv.out H1v.out (by omega) (by unfold maxLen; omega) (by omega) (Nat.zero_le _) _ rfl ?_; intro g1 c1 w11 ho3 hg3 ha3 hl3) | (at_builtin; refine wpList_append_lies _ rfl (.tmp 167) (.tmp 170) 28 rfl N0 29 i29 (.slice none 0 0) 1 24 Try.underlying28 hi29 hz29 hs29 hy29 rfl (by decide) (.slice (some ⟨gm, 0, none⟩) (R.length + 1) cm) (R.length + 1) ms rfl ((Hms.out.kept hg3 (.inr (by simp [Value.ownBlock]))).alloc _) ⟨w11.heap.size, 0, none⟩ 1 1 [.slice (some ⟨g1, 0, none⟩) n c1] rfl rfl (cell_one_new _ _ _) (by simp [Value.oneCell']) (by omega) (by unfold maxLen; omega) (by omega) (by have := hg3.size; simp; omega) _ rfl ?_; intro g2 c2 w12 ho4 hg4 ha4 hl4; rcases Hll.out with hq | ⟨hq1, hq2⟩))
    all_goals
      refine HK.out _ _ _ _ _ _ _ _ _ _ _ _ _ _ _ _ _ _ _ _ _ _ _ _ _ _ _ _ _ _ _ _ _ _ _ _ _ _ _ _ _ _ _ _ _ _ _ _ _ _ _ _ _ _ _ _ _ _ _ _ _ _ _ _ _ _ _ _ _ _ _ _ _ _ _ _ _ _ _ _ _ _ _ _ _ _ _ _ _ _ _ _ _ _ _ _ _ _ _ _ _ _ _ _ _ _ _ _ _ _ _ _ _ _ _ _ _ _ _ _ _ _ _ _ _ _ _ _ _ _ _ _ _ _ _ _ _ ?_
      obtain ⟨hL10, hv1, hv2, hmm⟩ := HA.out
      have hdone := hL10.done rfl hv1 hv2 (show (zs n).length = n by simp [zs]) (by simpa using ho3) hg3 (by rcases ha3 with h | h; (cases h); omega) Hms.out hmm ho4 hg4
      refine ⟨R ++ [(j, blkS fill)], decLeft dl, HL.out.1.wrote hd (j, blkS fill) (blkS_size fill) hdone _ _ ?_ ?_⟩
      · first | (rw [if_pos (by omega)]; done) | (rw [if_neg (by omega)]; done) | (rw [if_pos (by omega)]; omega) | (rw [if_neg (by omega)]; omega)
      · first | rfl | (simp; omega)
end Go.Proofs.Ytbhopjnolgfpnaa
