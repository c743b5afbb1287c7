/-
  FringeMore's region 5: four fringes are made, in whatever order.
-/
import Derived.Test.YtoidnbpbeblokaaMc
import Derived.Test.YtoidnbpbeblokaaTa
import Derived.Test.YtoidnbpbeblokaaUb
import Derived.RegionTactic
import Derived.NoCompiler
namespace Go.Proofs.Ytoidnbpbeblokaa
open Go.RowKit Go.Shelf

def more5 : Array Oper := #[
  { dst := some 66, op := .load 27 (.tmp 3), type := 27, pos := "outright.go:350", after := #[], guard := none },
  { dst := some 67, op := .load 41 (.tmp 4), type := 41, pos := "outright.go:350", after := #[], guard := none },
  { dst := some 68, op := .call { callee := .value (.func 32), args := #[.tmp 66, .tmp 67], argTypes := #[27, 41] }, type := 27, pos := "outright.go:350", after := #[{ on := 0, ground := .data }, { on := 1, ground := .data }], guard := none },
  { dst := some 69, op := .load 27 (.tmp 3), type := 27, pos := "outright.go:350", after := #[{ on := 10, ground := .gcOnly .lateStores }], guard := none },
  { dst := some 70, op := .load 27 (.tmp 3), type := 27, pos := "outright.go:350", after := #[{ on := 11, ground := .gcOnly .lateStores }], guard := none },
  { dst := some 71, op := .load 27 (.tmp 3), type := 27, pos := "outright.go:350", after := #[{ on := 12, ground := .gcOnly .lateStores }], guard := none },
  { dst := some 9, op := .alloc 27, type := 0, pos := "outright.go:350", after := #[], guard := none },
  { dst := some 10, op := .alloc 27, type := 0, pos := "outright.go:350", after := #[], guard := none },
  { dst := some 11, op := .alloc 27, type := 0, pos := "outright.go:350", after := #[], guard := none },
  { dst := some 12, op := .alloc 27, type := 0, pos := "outright.go:350", after := #[], guard := none },
  { dst := none, op := .store 27 (.tmp 9) (.tmp 68), type := 0, pos := "outright.go:350", after := #[{ on := 6, ground := .data }, { on := 2, ground := .data }, { on := 2, ground := .chain }, { on := 0, ground := .phase }, { on := 1, ground := .phase }, { on := 2, ground := .phase }, { on := 3, ground := .textOnly .lateStores }, { on := 4, ground := .textOnly .lateStores }, { on := 5, ground := .textOnly .lateStores }, { on := 6, ground := .phase }, { on := 7, ground := .phase }, { on := 8, ground := .phase }, { on := 9, ground := .phase }], guard := none },
  { dst := none, op := .store 27 (.tmp 10) (.tmp 69), type := 0, pos := "outright.go:350", after := #[{ on := 7, ground := .data }, { on := 3, ground := .data }, { on := 10, ground := .chain }, { on := 0, ground := .phase }, { on := 1, ground := .phase }, { on := 2, ground := .phase }, { on := 3, ground := .phase }, { on := 4, ground := .textOnly .lateStores }, { on := 5, ground := .textOnly .lateStores }, { on := 6, ground := .phase }, { on := 7, ground := .phase }, { on := 8, ground := .phase }, { on := 9, ground := .phase }, { on := 10, ground := .phase }], guard := none },
  { dst := none, op := .store 27 (.tmp 11) (.tmp 70), type := 0, pos := "outright.go:350", after := #[{ on := 8, ground := .data }, { on := 4, ground := .data }, { on := 11, ground := .chain }, { on := 0, ground := .phase }, { on := 1, ground := .phase }, { on := 2, ground := .phase }, { on := 3, ground := .phase }, { on := 4, ground := .phase }, { on := 5, ground := .textOnly .lateStores }, { on := 6, ground := .phase }, { on := 7, ground := .phase }, { on := 8, ground := .phase }, { on := 9, ground := .phase }, { on := 10, ground := .phase }, { on := 11, ground := .phase }], guard := none },
  { dst := none, op := .store 27 (.tmp 12) (.tmp 71), type := 0, pos := "outright.go:350", after := #[{ on := 9, ground := .data }, { on := 5, ground := .data }, { on := 12, ground := .chain }, { on := 0, ground := .phase }, { on := 1, ground := .phase }, { on := 2, ground := .phase }, { on := 3, ground := .phase }, { on := 4, ground := .phase }, { on := 5, ground := .phase }, { on := 6, ground := .phase }, { on := 7, ground := .phase }, { on := 8, ground := .phase }, { on := 9, ground := .phase }, { on := 10, ground := .phase }, { on := 11, ground := .phase }, { on := 12, ground := .phase }], guard := none }]
theorem ready_dep {md : Region.Mode} {ops : Array Oper} {listed : Array Bool} {i : Nat} (h : i ∈ Region.ready md ops listed) {ds : List Nat} (hd : (Region.tabAfter md ops)[i]? = some ds) : listed.getD i true = false ∧ ds.all (fun d => listed.getD d false) = true := by
  unfold Region.ready at h
  rw [List.mem_filter, Bool.and_eq_true] at h
  obtain ⟨_, h1, h2⟩ := h
  refine ⟨by simpa using h1, ?_⟩
  unfold Region.tabAfter at hd
  rw [List.getElem?_map] at hd
  cases ho : ops[i]? with
  | none => rw [Array.getElem?_toList, ho] at hd; simp at hd
  | some o =>
    rw [ho] at h2
    simp only [Option.map_some, Option.getD_some] at h2
    rw [Array.getElem?_toList, ho] at hd
    simp only [Option.map_some, Option.some.injEq] at hd
    subst hd
    rw [List.all_map, List.all_eq_true]
    intro e he
    rw [List.mem_filter, Array.mem_toList_iff] at he
    have := Array.all_eq_true_iff_forall_mem.1 h2 e he.1
    simpa [he.2] using this
theorem ready_lt {md : Region.Mode} {ops : Array Oper} {listed : Array Bool} {i : Nat} (h : i ∈ Region.ready md ops listed) : i < ops.size := by
  unfold Region.ready at h
  rw [List.mem_filter] at h
  exact List.mem_range.1 h.1
theorem r5_tab : Region.tabAfter .any more5 = [[], [], [0, 1], [], [], [], [], [], [], [], [6, 2, 2, 0, 1, 2, 6, 7, 8, 9], [7, 3, 10, 0, 1, 2, 3, 6, 7, 8, 9, 10],
  [8, 4, 11, 0, 1, 2, 3, 4, 6, 7, 8, 9, 10, 11], [9, 5, 12, 0, 1, 2, 3, 4, 5, 6, 7, 8, 9, 10, 11, 12]] := by decide +kernel
theorem r5_ready (l0 l1 l2 l3 l4 l5 l6 l7 l8 l9 l10 l11 l12 l13 : Bool) (h : (l0 && l1 && l2 && l3 && l4 && l5 && l6 && l7 && l8 && l9 && l10 && l11 && l12 && l13) = false) : (Region.ready .any more5 #[l0, l1, l2, l3, l4, l5, l6, l7, l8, l9, l10, l11, l12, l13]).isEmpty = false := by
  cases l0
  · kernel_rfl
  cases l1
  · kernel_rfl
  cases l2
  · kernel_rfl
  cases l3
  · kernel_rfl
  cases l4
  · kernel_rfl
  cases l5
  · kernel_rfl
  cases l6
  · kernel_rfl
  cases l7
  · kernel_rfl
  cases l8
  · kernel_rfl
  cases l9
  · kernel_rfl
  cases l10
  · kernel_rfl
  cases l11
  · kernel_rfl
  cases l12
  · kernel_rfl
  cases l13
  · kernel_rfl
  cases h
theorem r5_none : Region.ready .any more5 #[true, true, true, true, true, true, true, true, true, true, true, true, true, true] = [] := by decide +kernel
theorem wpAny_count {P : Program} {md : Region.Mode} {ops : Array Oper} {Q : Exit → Act → World → Prop} {g : Nat} {I : Nat → Array Bool → Act → World → Prop}
    (hs : ∀ n listed a w, I (n + 1) listed a w → Region.ready md ops listed ≠ [] ∧ ∀ i ∈ Region.ready md ops listed, wpOp P ops Q i (I n (listed.setIfInBounds i true)) a w)
    (he : ∀ listed a w, I 0 listed a w → wpAny P md ops Q g listed a w) : ∀ n listed a w, I n listed a w → wpAny P md ops Q (n + g) listed a w
  | 0, listed, a, w, h => by rw [Nat.zero_add]; exact he _ _ _ h
  | n + 1, listed, a, w, h => by
    obtain ⟨h1, h2⟩ := hs n listed a w h
    rw [show n + 1 + g = (n + g) + 1 by omega]
    exact ⟨fun h0 => absurd h0 h1, fun i hi => wpOp_mono (fun a' w' h' => wpAny_count hs he n _ a' w' h') (h2 i hi)⟩
/-- While region 5 is under way: what has been done of it, in whatever order. -/
structure In5 (wa : Option Addr) (wc : Nat) (ws : List Int) (lo hi : Int) (ra : Option Addr) (rc : Nat) (rs : List Rd) (p q r : Int) (b3 b4 : Nat) (w0 w : World) (l0 l1 l2 l3 l4 l5 l6 l7 l8 l9 l10 l11 l12 l13 : Bool) (s9 s10 s11 s12 s66 s67 s68 s69 s70 s71 : Value) (b9 b10 b11 b12 : Nat) (xa : Option Addr) (xc : Nat) : Prop where
  k : Keeps w0 w
  h0 : l0 = true → s66 = .agg #[.slice wa ws.length wc, .int .i64 lo, .int .i64 hi, .slice ra rs.length rc]
  h1 : l1 = true → s67 = .agg #[.int .i64 p, .int .i64 q, .int .i64 r]
  h2 : l2 = true → s68 = .agg #[.slice wa ws.length wc, .int .i64 lo, .int .i64 hi, .slice xa (rs.length + 1) xc] ∧ Fr.In ⟨wa, wc, ws, lo, hi, xa, xc, rs ++ [(p, q, r)]⟩ w ∧ (∀ b o, xa = some ⟨b, o, none⟩ → w0.heap.size ≤ b) ∧ ∃ b o, xa = some ⟨b, o, none⟩ ∧ b < w.heap.size
  h3 : l3 = true → s69 = .agg #[.slice wa ws.length wc, .int .i64 lo, .int .i64 hi, .slice ra rs.length rc]
  h4 : l4 = true → s70 = .agg #[.slice wa ws.length wc, .int .i64 lo, .int .i64 hi, .slice ra rs.length rc]
  h5 : l5 = true → s71 = .agg #[.slice wa ws.length wc, .int .i64 lo, .int .i64 hi, .slice ra rs.length rc]
  h6 : l6 = true → s9 = .pointer (some ⟨b9, 0, none⟩) ∧ w0.heap.size ≤ b9 ∧ b9 < w.heap.size ∧ (l10 = false → Four w b9 (.slice none 0 0) (.int .i64 0) (.int .i64 0) (.slice none 0 0)) ∧ (l10 = true → Four w b9 (.slice wa ws.length wc) (.int .i64 lo) (.int .i64 hi) (.slice xa (rs.length + 1) xc)) ∧ (l2 = true → ∀ b o, xa = some ⟨b, o, none⟩ → b ≠ b9)
  h7 : l7 = true → s10 = .pointer (some ⟨b10, 0, none⟩) ∧ w0.heap.size ≤ b10 ∧ b10 < w.heap.size ∧ (l11 = false → Four w b10 (.slice none 0 0) (.int .i64 0) (.int .i64 0) (.slice none 0 0)) ∧ (l11 = true → Four w b10 (.slice wa ws.length wc) (.int .i64 lo) (.int .i64 hi) (.slice ra rs.length rc)) ∧ (l2 = true → ∀ b o, xa = some ⟨b, o, none⟩ → b ≠ b10)
  h8 : l8 = true → s11 = .pointer (some ⟨b11, 0, none⟩) ∧ w0.heap.size ≤ b11 ∧ b11 < w.heap.size ∧ (l12 = false → Four w b11 (.slice none 0 0) (.int .i64 0) (.int .i64 0) (.slice none 0 0)) ∧ (l12 = true → Four w b11 (.slice wa ws.length wc) (.int .i64 lo) (.int .i64 hi) (.slice ra rs.length rc)) ∧ (l2 = true → ∀ b o, xa = some ⟨b, o, none⟩ → b ≠ b11)
  h9 : l9 = true → s12 = .pointer (some ⟨b12, 0, none⟩) ∧ w0.heap.size ≤ b12 ∧ b12 < w.heap.size ∧ (l13 = false → Four w b12 (.slice none 0 0) (.int .i64 0) (.int .i64 0) (.slice none 0 0)) ∧ (l13 = true → Four w b12 (.slice wa ws.length wc) (.int .i64 lo) (.int .i64 hi) (.slice ra rs.length rc)) ∧ (l2 = true → ∀ b o, xa = some ⟨b, o, none⟩ → b ≠ b12)
  d6 : l6 = false → l10 = false
  d7 : l7 = false → l11 = false
  d8 : l8 = false → l12 = false
  d9 : l9 = false → l13 = false
  dx : l2 = false → l10 = false
  n67 : l6 = true → l7 = true → b9 ≠ b10
  n68 : l6 = true → l8 = true → b9 ≠ b11
  n69 : l6 = true → l9 = true → b9 ≠ b12
  n78 : l7 = true → l8 = true → b10 ≠ b11
  n79 : l7 = true → l9 = true → b10 ≠ b12
  n89 : l8 = true → l9 = true → b11 ≠ b12
/-- A fringe stored into a block. -/
abbrev stor (X : World) (b : Nat) (v0 v1 v2 v3 : Value) : World := (((X.setCell ⟨b, 0, none⟩ v0).setCell ⟨b, 1, none⟩ v1).setCell ⟨b, 2, none⟩ v2).setCell ⟨b, 3, none⟩ v3
theorem Four.stored {X : World} {b : Nat} {u0 u1 u2 u3 : Value} (h : Four X b u0 u1 u2 u3) (v0 v1 v2 v3 : Value) : Four (stor X b v0 v1 v2 v3) b v0 v1 v2 v3 := by
  obtain ⟨r0, r1, r2, r3, _⟩ := four_set (X := X) (b := b) (v0 := v0) (v1 := v1) (v2 := v2) (v3 := v3) (by rw [h.c0]; rfl) (by rw [h.c1]; rfl) (by rw [h.c2]; rfl) (by rw [h.c3]; rfl)
  exact ⟨r0, r1, r2, r3, fun o => by rw [World.frozen?_setCell, World.frozen?_setCell, World.frozen?_setCell, World.frozen?_setCell]; exact h.fr o⟩
theorem stor_cell (X : World) {b b' : Nat} (hb : b' ≠ b) (v0 v1 v2 v3 : Value) (o : Nat) : (stor X b v0 v1 v2 v3).cell? ⟨b', o, none⟩ = X.cell? ⟨b', o, none⟩ := by
  rw [cell_set_other (by omega), cell_set_other (by omega), cell_set_other (by omega), cell_set_other (by omega)]
theorem Four.other {X : World} {b b' : Nat} {u0 u1 u2 u3 : Value} (h : Four X b u0 u1 u2 u3) (hb : b ≠ b') (v0 v1 v2 v3 : Value) : Four (stor X b' v0 v1 v2 v3) b u0 u1 u2 u3 :=
  ⟨(stor_cell X hb _ _ _ _ _).trans h.c0, (stor_cell X hb _ _ _ _ _).trans h.c1, (stor_cell X hb _ _ _ _ _).trans h.c2, (stor_cell X hb _ _ _ _ _).trans h.c3, fun o => by rw [World.frozen?_setCell, World.frozen?_setCell, World.frozen?_setCell, World.frozen?_setCell]; exact h.fr o⟩
theorem Keeps.stor {a X : World} {b : Nat} (h : Keeps a X) (hb : a.heap.size ≤ b) (v0 v1 v2 v3 : Value) : Keeps a (stor X b v0 v1 v2 v3) :=
  (((h.setCell v0 hb).setCell v1 hb).setCell v2 hb).setCell v3 hb
theorem stor_size (X : World) (b : Nat) (v0 v1 v2 v3 : Value) : (stor X b v0 v1 v2 v3).heap.size = X.heap.size := by simp
theorem In5.keep {wa : Option Addr} {wc : Nat} {ws : List Int} {lo hi : Int} {ra : Option Addr} {rc : Nat} {rs : List Rd} {p q r : Int} {b3 b4 : Nat} {w0 w w' : World} {l0 l1 l2 l3 l4 l5 l6 l7 l8 l9 l10 l11 l12 l13 : Bool} {s9 s10 s11 s12 s66 s67 s68 s69 s70 s71 : Value} {b9 b10 b11 b12 : Nat} {xa : Option Addr} {xc : Nat} (h : In5 wa wc ws lo hi ra rc rs p q r b3 b4 w0 w l0 l1 l2 l3 l4 l5 l6 l7 l8 l9 l10 l11 l12 l13 s9 s10 s11 s12 s66 s67 s68 s69 s70 s71 b9 b10 b11 b12 xa xc) (kk : Keeps w w') : In5 wa wc ws lo hi ra rc rs p q r b3 b4 w0 w' l0 l1 l2 l3 l4 l5 l6 l7 l8 l9 l10 l11 l12 l13 s9 s10 s11 s12 s66 s67 s68 s69 s70 s71 b9 b10 b11 b12 xa xc :=
  have hz := kk.size
  ⟨h.k.trans kk, h.h0, h.h1, fun e => by obtain ⟨a1, a2, a3, b, o, a4, a5⟩ := h.h2 e; exact ⟨a1, a2.keep kk, a3, b, o, a4, by omega⟩, h.h3, h.h4, h.h5,
    fun e => by obtain ⟨a1, a2, a3, a4, a5, a6⟩ := h.h6 e; exact ⟨a1, a2, by omega, fun e => (a4 e).keep kk, fun e => (a5 e).keep kk, a6⟩,
    fun e => by obtain ⟨a1, a2, a3, a4, a5, a6⟩ := h.h7 e; exact ⟨a1, a2, by omega, fun e => (a4 e).keep kk, fun e => (a5 e).keep kk, a6⟩,
    fun e => by obtain ⟨a1, a2, a3, a4, a5, a6⟩ := h.h8 e; exact ⟨a1, a2, by omega, fun e => (a4 e).keep kk, fun e => (a5 e).keep kk, a6⟩,
    fun e => by obtain ⟨a1, a2, a3, a4, a5, a6⟩ := h.h9 e; exact ⟨a1, a2, by omega, fun e => (a4 e).keep kk, fun e => (a5 e).keep kk, a6⟩,
    h.d6, h.d7, h.d8, h.d9, h.dx, h.n67, h.n68, h.n69, h.n78, h.n79, h.n89⟩
set_option maxRecDepth 100000 in
set_option maxHeartbeats 40000000 in
theorem more_5 (wa : Option Addr) (wc : Nat) (ws : List Int) (lo hi : Int) (ra : Option Addr) (rc : Nat) (rs : List Rd) (p q r : Int) (b3 b4 : Nat) (w0 : World) (hB : Fr.Box ⟨wa, wc, ws, lo, hi, ra, rc, rs⟩ w0 b3) (hI : Fr.In ⟨wa, wc, ws, lo, hi, ra, rc, rs⟩ w0) (hl : rs.length ≤ 6) (c0 : w0.cell? ⟨b4, 0, none⟩ = some (.int .i64 p)) (c1 : w0.cell? ⟨b4, 1, none⟩ = some (.int .i64 q)) (c2 : w0.cell? ⟨b4, 2, none⟩ = some (.int .i64 r))
    (x0 x1 x2 x5 x6 x7 x8 x13 x14 x15 x16 x17 x18 x19 x20 x21 x22 x23 x24 x25 x26 x27 x28 x29 x30 x31 x32 x33 x34 x35 x36 x37 x38 x39 x40 x41 x42 x43 x44 x45 x46 x47 x48 x49 x50 x51 x52 x53 x54 x55 x56 x57 x58 x59 x60 x61 x62 x63 x64 x65 x72 x73 x74 x75 x76 x77 x78 x79 x80 x81 x82 x83 x84 x85 x86 x87 x88 x89 x90 x91 x92 x93 x94 x95 x96 x97 x98 x99 x100 x101 x102 x103 x104 x105 x106 x107 x108 x109 x110 x111 x112 x113 x114 x115 x116 x117 x118 x119 x120 x121 x122 x123 x124 x125 x126 x127 x128 x129 x130 x131 x132 x133 x134 x135 x136 x137 x138 x139 x140 x141 x142 x143 x144 x145 x146 x147 x148 x149 x150 x151 x152 x153 x154 x155 x156 x157 x158 x159 x160 x161 x162 x163 x164 x165 x166 x167 x168 x169 x170 x171 x172 x173 x174 x175 x176 x177 x178 x179 x180 x181 x182 x183 x184 x185 x186 x187 x188 x189 x190 x191 x192 x193 x194 x195 x196 x197 x198 x199 x200 x201 x202 x203 x204 x205 x206 x207 x208 x209 x210 x211 x212 x213 x214 x215 x216 x217 x218 x219 x220 x221 x222 x223 x224 x225 x226 x227 x228 x229 x230 x231 x232 x233 x234 x235 x236 x237 x238 x239 x240 x241 x242 x243 x244 x245 x246 x247 x248 x249 x250 x251 x252 x253 x254 x255 x256 x257 x258 x259 x260 x261 x262 x263 x264 x265 x266 x267 x268 x269 x270 x271 x272 x273 x274 x275 x276 x277 x278 x279 x280 x281 x282 x283 x284 x285 x286 x287 x288 x289 x290 x291 x292 x293 x294 x295 x296 x297 x298 x299 x300 x301 x302 x303 x304 x305 x306 x307 x308 x309 x310 x311 x312 x313 x314 x315 x316 x317 x318 x319 x320 x321 x322 x323 x324 x325 x326 x327 x328 x329 x330 x331 x332 x333 x334 x335 x336 x337 x338 x339 x340 x341 x342 x343 x344 x345 x346 x347 x348 x349 x350 x351 x352 x353 x354 x355 x356 x357 x358 x359 x360 x361 x362 x363 x364 x365 x366 x367 x368 x369 x370 x371 x372 x373 x374 x375 x376 x377 x378 x379 x380 x381 x382 x383 x384 x385 x386 x387 x388 x389 x390 x391 x392 x393 x394 x395 x396 y9 y10 y11 y12 y66 y67 y68 y69 y70 y71 : Value) (Q : Exit → Act → World → Prop)
    (hQ : Hid (∀ (w : World) (s9 s10 s11 s12 s66 s67 s68 s69 s70 s71 : Value) (b9 b10 b11 b12 : Nat) (xa : Option Addr) (xc : Nat), In5 wa wc ws lo hi ra rc rs p q r b3 b4 w0 w true true true true true true true true true true true true true true s9 s10 s11 s12 s66 s67 s68 s69 s70 s71 b9 b10 b11 b12 xa xc → Q .normal { tmps := #[x0, x1, x2, .pointer (some ⟨b3, 0, none⟩), .pointer (some ⟨b4, 0, none⟩), x5, x6, x7, x8, s9, s10, s11, s12, x13, x14, x15, x16, x17, x18, x19, x20, x21, x22, x23, x24, x25, x26, x27, x28, x29, x30, x31, x32, x33, x34, x35, x36, x37, x38, x39, x40, x41, x42, x43, x44, x45, x46, x47, x48, x49, x50, x51, x52, x53, x54, x55, x56, x57, x58, x59, x60, x61, x62, x63, x64, x65, s66, s67, s68, s69, s70, s71, x72, x73, x74, x75, x76, x77, x78, x79, x80, x81, x82, x83, x84, x85, x86, x87, x88, x89, x90, x91, x92, x93, x94, x95, x96, x97, x98, x99, x100, x101, x102, x103, x104, x105, x106, x107, x108, x109, x110, x111, x112, x113, x114, x115, x116, x117, x118, x119, x120, x121, x122, x123, x124, x125, x126, x127, x128, x129, x130, x131, x132, x133, x134, x135, x136, x137, x138, x139, x140, x141, x142, x143, x144, x145, x146, x147, x148, x149, x150, x151, x152, x153, x154, x155, x156, x157, x158, x159, x160, x161, x162, x163, x164, x165, x166, x167, x168, x169, x170, x171, x172, x173, x174, x175, x176, x177, x178, x179, x180, x181, x182, x183, x184, x185, x186, x187, x188, x189, x190, x191, x192, x193, x194, x195, x196, x197, x198, x199, x200, x201, x202, x203, x204, x205, x206, x207, x208, x209, x210, x211, x212, x213, x214, x215, x216, x217, x218, x219, x220, x221, x222, x223, x224, x225, x226, x227, x228, x229, x230, x231, x232, x233, x234, x235, x236, x237, x238, x239, x240, x241, x242, x243, x244, x245, x246, x247, x248, x249, x250, x251, x252, x253, x254, x255, x256, x257, x258, x259, x260, x261, x262, x263, x264, x265, x266, x267, x268, x269, x270, x271, x272, x273, x274, x275, x276, x277, x278, x279, x280, x281, x282, x283, x284, x285, x286, x287, x288, x289, x290, x291, x292, x293, x294, x295, x296, x297, x298, x299, x300, x301, x302, x303, x304, x305, x306, x307, x308, x309, x310, x311, x312, x313, x314, x315, x316, x317, x318, x319, x320, x321, x322, x323, x324, x325, x326, x327, x328, x329, x330, x331, x332, x333, x334, x335, x336, x337, x338, x339, x340, x341, x342, x343, x344, x345, x346, x347, x348, x349, x350, x351, x352, x353, x354, x355, x356, x357, x358, x359, x360, x361, x362, x363, x364, x365, x366, x367, x368, x369, x370, x371, x372, x373, x374, x375, x376, x377, x378, x379, x380, x381, x382, x383, x384, x385, x386, x387, x388, x389, x390, x391, x392, x393, x394, x395, x396], defers := [] } w)) :
    Code.wp Try.prog (.region 5 more5 true) Q { tmps := #[x0, x1, x2, .pointer (some ⟨b3, 0, none⟩), .pointer (some ⟨b4, 0, none⟩), x5, x6, x7, x8, y9, y10, y11, y12, x13, x14, x15, x16, x17, x18, x19, x20, x21, x22, x23, x24, x25, x26, x27, x28, x29, x30, x31, x32, x33, x34, x35, x36, x37, x38, x39, x40, x41, x42, x43, x44, x45, x46, x47, x48, x49, x50, x51, x52, x53, x54, x55, x56, x57, x58, x59, x60, x61, x62, x63, x64, x65, y66, y67, y68, y69, y70, y71, x72, x73, x74, x75, x76, x77, x78, x79, x80, x81, x82, x83, x84, x85, x86, x87, x88, x89, x90, x91, x92, x93, x94, x95, x96, x97, x98, x99, x100, x101, x102, x103, x104, x105, x106, x107, x108, x109, x110, x111, x112, x113, x114, x115, x116, x117, x118, x119, x120, x121, x122, x123, x124, x125, x126, x127, x128, x129, x130, x131, x132, x133, x134, x135, x136, x137, x138, x139, x140, x141, x142, x143, x144, x145, x146, x147, x148, x149, x150, x151, x152, x153, x154, x155, x156, x157, x158, x159, x160, x161, x162, x163, x164, x165, x166, x167, x168, x169, x170, x171, x172, x173, x174, x175, x176, x177, x178, x179, x180, x181, x182, x183, x184, x185, x186, x187, x188, x189, x190, x191, x192, x193, x194, x195, x196, x197, x198, x199, x200, x201, x202, x203, x204, x205, x206, x207, x208, x209, x210, x211, x212, x213, x214, x215, x216, x217, x218, x219, x220, x221, x222, x223, x224, x225, x226, x227, x228, x229, x230, x231, x232, x233, x234, x235, x236, x237, x238, x239, x240, x241, x242, x243, x244, x245, x246, x247, x248, x249, x250, x251, x252, x253, x254, x255, x256, x257, x258, x259, x260, x261, x262, x263, x264, x265, x266, x267, x268, x269, x270, x271, x272, x273, x274, x275, x276, x277, x278, x279, x280, x281, x282, x283, x284, x285, x286, x287, x288, x289, x290, x291, x292, x293, x294, x295, x296, x297, x298, x299, x300, x301, x302, x303, x304, x305, x306, x307, x308, x309, x310, x311, x312, x313, x314, x315, x316, x317, x318, x319, x320, x321, x322, x323, x324, x325, x326, x327, x328, x329, x330, x331, x332, x333, x334, x335, x336, x337, x338, x339, x340, x341, x342, x343, x344, x345, x346, x347, x348, x349, x350, x351, x352, x353, x354, x355, x356, x357, x358, x359, x360, x361, x362, x363, x364, x365, x366, x367, x368, x369, x370, x371, x372, x373, x374, x375, x376, x377, x378, x379, x380, x381, x382, x383, x384, x385, x386, x387, x388, x389, x390, x391, x392, x393, x394, x395, x396], defers := [] } w0 := by
  have WF := Lib.hid (fun w1 (k : Keeps w0 w1) => with_fresh ⟨wa, wc, ws, lo, hi, ra, rc, rs⟩ (p, q, r) w1 (hI.keep k) hl)
  dsimp only [Fr.v] at WF
  refine wp_region_any (by kernel_rfl) ?_
  change wpAny Try.prog .any more5 Q (14 + 0) #[false, false, false, false, false, false, false, false, false, false, false, false, false, false] _ (World.drew w0)
  refine wpAny_count (I := fun n listed a w => ∃ (l0 l1 l2 l3 l4 l5 l6 l7 l8 l9 l10 l11 l12 l13 : Bool) (s9 s10 s11 s12 s66 s67 s68 s69 s70 s71 : Value) (b9 b10 b11 b12 : Nat) (xa : Option Addr) (xc : Nat), listed = #[l0, l1, l2, l3, l4, l5, l6, l7, l8, l9, l10, l11, l12, l13] ∧ a = { tmps := #[x0, x1, x2, .pointer (some ⟨b3, 0, none⟩), .pointer (some ⟨b4, 0, none⟩), x5, x6, x7, x8, s9, s10, s11, s12, x13, x14, x15, x16, x17, x18, x19, x20, x21, x22, x23, x24, x25, x26, x27, x28, x29, x30, x31, x32, x33, x34, x35, x36, x37, x38, x39, x40, x41, x42, x43, x44, x45, x46, x47, x48, x49, x50, x51, x52, x53, x54, x55, x56, x57, x58, x59, x60, x61, x62, x63, x64, x65, s66, s67, s68, s69, s70, s71, x72, x73, x74, x75, x76, x77, x78, x79, x80, x81, x82, x83, x84, x85, x86, x87, x88, x89, x90, x91, x92, x93, x94, x95, x96, x97, x98, x99, x100, x101, x102, x103, x104, x105, x106, x107, x108, x109, x110, x111, x112, x113, x114, x115, x116, x117, x118, x119, x120, x121, x122, x123, x124, x125, x126, x127, x128, x129, x130, x131, x132, x133, x134, x135, x136, x137, x138, x139, x140, x141, x142, x143, x144, x145, x146, x147, x148, x149, x150, x151, x152, x153, x154, x155, x156, x157, x158, x159, x160, x161, x162, x163, x164, x165, x166, x167, x168, x169, x170, x171, x172, x173, x174, x175, x176, x177, x178, x179, x180, x181, x182, x183, x184, x185, x186, x187, x188, x189, x190, x191, x192, x193, x194, x195, x196, x197, x198, x199, x200, x201, x202, x203, x204, x205, x206, x207, x208, x209, x210, x211, x212, x213, x214, x215, x216, x217, x218, x219, x220, x221, x222, x223, x224, x225, x226, x227, x228, x229, x230, x231, x232, x233, x234, x235, x236, x237, x238, x239, x240, x241, x242, x243, x244, x245, x246, x247, x248, x249, x250, x251, x252, x253, x254, x255, x256, x257, x258, x259, x260, x261, x262, x263, x264, x265, x266, x267, x268, x269, x270, x271, x272, x273, x274, x275, x276, x277, x278, x279, x280, x281, x282, x283, x284, x285, x286, x287, x288, x289, x290, x291, x292, x293, x294, x295, x296, x297, x298, x299, x300, x301, x302, x303, x304, x305, x306, x307, x308, x309, x310, x311, x312, x313, x314, x315, x316, x317, x318, x319, x320, x321, x322, x323, x324, x325, x326, x327, x328, x329, x330, x331, x332, x333, x334, x335, x336, x337, x338, x339, x340, x341, x342, x343, x344, x345, x346, x347, x348, x349, x350, x351, x352, x353, x354, x355, x356, x357, x358, x359, x360, x361, x362, x363, x364, x365, x366, x367, x368, x369, x370, x371, x372, x373, x374, x375, x376, x377, x378, x379, x380, x381, x382, x383, x384, x385, x386, x387, x388, x389, x390, x391, x392, x393, x394, x395, x396], defers := [] } ∧ (!l0).toNat + (!l1).toNat + (!l2).toNat + (!l3).toNat + (!l4).toNat + (!l5).toNat + (!l6).toNat + (!l7).toNat + (!l8).toNat + (!l9).toNat + (!l10).toNat + (!l11).toNat + (!l12).toNat + (!l13).toNat = n ∧ In5 wa wc ws lo hi ra rc rs p q r b3 b4 w0 w l0 l1 l2 l3 l4 l5 l6 l7 l8 l9 l10 l11 l12 l13 s9 s10 s11 s12 s66 s67 s68 s69 s70 s71 b9 b10 b11 b12 xa xc) ?_ ?_ 14 _ _ _ ?_
  · rintro n _ _ w ⟨l0, l1, l2, l3, l4, l5, l6, l7, l8, l9, l10, l11, l12, l13, s9, s10, s11, s12, s66, s67, s68, s69, s70, s71, b9, b10, b11, b12, xa, xc, rfl, rfl, hn, h⟩
    refine ⟨fun e => ?_, fun i hi => ?_⟩
    · have := r5_ready l0 l1 l2 l3 l4 l5 l6 l7 l8 l9 l10 l11 l12 l13 (by
        rw [← Bool.not_eq_true]
        intro ha
        simp only [Bool.and_eq_true] at ha
        obtain ⟨⟨⟨⟨⟨⟨⟨⟨⟨⟨⟨⟨⟨a0, a1⟩, a2⟩, a3⟩, a4⟩, a5⟩, a6⟩, a7⟩, a8⟩, a9⟩, a10⟩, a11⟩, a12⟩, a13⟩ := ha
        subst a0 a1 a2 a3 a4 a5 a6 a7 a8 a9 a10 a11 a12 a13
        simp at hn)
      rw [e] at this
      cases this
    · have hlt : i < 14 := ready_lt hi
      have hBx := hB.keep h.k
      obtain ⟨g0, g1, g2, g3⟩ := hBx
      dsimp only at g0 g1 g2 g3
      have e0 := h.k.cell c0
      have e1 := h.k.cell c1
      have e2 := h.k.cell c2
      have gl := lt_of_cell g0
      have el := lt_of_cell e0
      obtain rfl | rfl | rfl | rfl | rfl | rfl | rfl | rfl | rfl | rfl | rfl | rfl | rfl | rfl : i = 0 ∨ i = 1 ∨ i = 2 ∨ i = 3 ∨ i = 4 ∨ i = 5 ∨ i = 6 ∨ i = 7 ∨ i = 8 ∨ i = 9 ∨ i = 10 ∨ i = 11 ∨ i = 12 ∨ i = 13 := by omega
      · have hli : l0 = false := (ready_dep hi (ds := []) (by rw [r5_tab]; rfl)).1
        refine wpOp_step (o := { dst := some 66, op := .load 27 (.tmp 3), type := 27, pos := "outright.go:350", after := #[], guard := none }) rfl (fun K hK => ?_)
        go_simp
        exact hK _ _ ⟨true, l1, l2, l3, l4, l5, l6, l7, l8, l9, l10, l11, l12, l13, s9, s10, s11, s12, _, s67, s68, s69, s70, s71, b9, b10, b11, b12, xa, xc, rfl, rfl, by rw [hli] at hn; simp at hn ⊢; omega, ⟨h.k, fun _ => rfl, h.h1, h.h2, h.h3, h.h4, h.h5, h.h6, h.h7, h.h8, h.h9, h.d6, h.d7, h.d8, h.d9, h.dx, h.n67, h.n68, h.n69, h.n78, h.n79, h.n89⟩⟩
      · have hli : l1 = false := (ready_dep hi (ds := []) (by rw [r5_tab]; rfl)).1
        refine wpOp_step (o := { dst := some 67, op := .load 41 (.tmp 4), type := 41, pos := "outright.go:350", after := #[], guard := none }) rfl (fun K hK => ?_)
        go_simp
        exact hK _ _ ⟨l0, true, l2, l3, l4, l5, l6, l7, l8, l9, l10, l11, l12, l13, s9, s10, s11, s12, s66, _, s68, s69, s70, s71, b9, b10, b11, b12, xa, xc, rfl, rfl, by rw [hli] at hn; simp at hn ⊢; omega, ⟨h.k, h.h0, fun _ => rfl, h.h2, h.h3, h.h4, h.h5, h.h6, h.h7, h.h8, h.h9, h.d6, h.d7, h.d8, h.d9, h.dx, h.n67, h.n68, h.n69, h.n78, h.n79, h.n89⟩⟩
      · have hli : l2 = false := (ready_dep hi (ds := [0, 1]) (by rw [r5_tab]; rfl)).1
        have hdd := (ready_dep hi (ds := [0, 1]) (by rw [r5_tab]; rfl)).2
        have t0 : l0 = true := List.all_eq_true.1 hdd 0 (by simp)
        have t1 : l1 = true := List.all_eq_true.1 hdd 1 (by simp)
        obtain rfl := h.h0 t0
        obtain rfl := h.h1 t1
        refine wpOp_step (o := { dst := some 68, op := .call { callee := .value (.func 32), args := #[.tmp 66, .tmp 67], argTypes := #[27, 41] }, type := 27, pos := "outright.go:350", after := #[{ on := 0, ground := .data }, { on := 1, ground := .data }], guard := none }) rfl (fun K hK => ?_)
        go_simp
        refine Calls.mono (WF.out _ h.k) ?_
        rintro e w4 ⟨xa2, xc2, rfl, hX, hfr, k4⟩
        have hk := h.keep k4
        obtain ⟨bx, ox, hbx, hcx⟩ := hX.rds (by simp)
        have hlx := lt_of_cell (hcx 0 (by simp)).1
        exact hK _ _ ⟨l0, l1, true, l3, l4, l5, l6, l7, l8, l9, l10, l11, l12, l13, s9, s10, s11, s12, _, _, _, s69, s70, s71, b9, b10, b11, b12, xa2, xc2, rfl, rfl, by rw [hli] at hn; simp at hn ⊢; omega, ⟨hk.k, hk.h0, hk.h1, fun _ => ⟨by simp, hX, fun b o e => Nat.le_trans h.k.size (hfr b o e), bx, ox, hbx, hlx⟩, hk.h3, hk.h4, hk.h5, fun e => by obtain ⟨a1, a2, a3, a4, a5, a6⟩ := hk.h6 e; exact ⟨a1, a2, a3, a4, fun e2 => (by rw [h.dx hli] at e2; cases e2), fun _ b o eq => by have := hfr b o eq; have := (h.h6 e).2.2.1; omega⟩, fun e => by obtain ⟨a1, a2, a3, a4, a5, a6⟩ := hk.h7 e; exact ⟨a1, a2, a3, a4, a5, fun _ b o eq => by have := hfr b o eq; have := (h.h7 e).2.2.1; omega⟩, fun e => by obtain ⟨a1, a2, a3, a4, a5, a6⟩ := hk.h8 e; exact ⟨a1, a2, a3, a4, a5, fun _ b o eq => by have := hfr b o eq; have := (h.h8 e).2.2.1; omega⟩, fun e => by obtain ⟨a1, a2, a3, a4, a5, a6⟩ := hk.h9 e; exact ⟨a1, a2, a3, a4, a5, fun _ b o eq => by have := hfr b o eq; have := (h.h9 e).2.2.1; omega⟩, hk.d6, hk.d7, hk.d8, hk.d9, fun e => (by cases e), hk.n67, hk.n68, hk.n69, hk.n78, hk.n79, hk.n89⟩⟩
      · have hli : l3 = false := (ready_dep hi (ds := []) (by rw [r5_tab]; rfl)).1
        refine wpOp_step (o := { dst := some 69, op := .load 27 (.tmp 3), type := 27, pos := "outright.go:350", after := #[{ on := 10, ground := .gcOnly .lateStores }], guard := none }) rfl (fun K hK => ?_)
        go_simp
        exact hK _ _ ⟨l0, l1, l2, true, l4, l5, l6, l7, l8, l9, l10, l11, l12, l13, s9, s10, s11, s12, s66, s67, s68, _, s70, s71, b9, b10, b11, b12, xa, xc, rfl, rfl, by rw [hli] at hn; simp at hn ⊢; omega, ⟨h.k, h.h0, h.h1, h.h2, fun _ => rfl, h.h4, h.h5, h.h6, h.h7, h.h8, h.h9, h.d6, h.d7, h.d8, h.d9, h.dx, h.n67, h.n68, h.n69, h.n78, h.n79, h.n89⟩⟩
      · have hli : l4 = false := (ready_dep hi (ds := []) (by rw [r5_tab]; rfl)).1
        refine wpOp_step (o := { dst := some 70, op := .load 27 (.tmp 3), type := 27, pos := "outright.go:350", after := #[{ on := 11, ground := .gcOnly .lateStores }], guard := none }) rfl (fun K hK => ?_)
        go_simp
        exact hK _ _ ⟨l0, l1, l2, l3, true, l5, l6, l7, l8, l9, l10, l11, l12, l13, s9, s10, s11, s12, s66, s67, s68, s69, _, s71, b9, b10, b11, b12, xa, xc, rfl, rfl, by rw [hli] at hn; simp at hn ⊢; omega, ⟨h.k, h.h0, h.h1, h.h2, h.h3, fun _ => rfl, h.h5, h.h6, h.h7, h.h8, h.h9, h.d6, h.d7, h.d8, h.d9, h.dx, h.n67, h.n68, h.n69, h.n78, h.n79, h.n89⟩⟩
      · have hli : l5 = false := (ready_dep hi (ds := []) (by rw [r5_tab]; rfl)).1
        refine wpOp_step (o := { dst := some 71, op := .load 27 (.tmp 3), type := 27, pos := "outright.go:350", after := #[{ on := 12, ground := .gcOnly .lateStores }], guard := none }) rfl (fun K hK => ?_)
        go_simp
        exact hK _ _ ⟨l0, l1, l2, l3, l4, true, l6, l7, l8, l9, l10, l11, l12, l13, s9, s10, s11, s12, s66, s67, s68, s69, s70, _, b9, b10, b11, b12, xa, xc, rfl, rfl, by rw [hli] at hn; simp at hn ⊢; omega, ⟨h.k, h.h0, h.h1, h.h2, h.h3, h.h4, fun _ => rfl, h.h6, h.h7, h.h8, h.h9, h.d6, h.d7, h.d8, h.d9, h.dx, h.n67, h.n68, h.n69, h.n78, h.n79, h.n89⟩⟩
      · have hli : l6 = false := (ready_dep hi (ds := []) (by rw [r5_tab]; rfl)).1
        have hk := h.keep ((Keeps.refl w).alloc (.cells #[.slice none 0 0, .int .i64 0, .int .i64 0, .slice none 0 0] 27))
        refine wpOp_step (o := { dst := some 9, op := .alloc 27, type := 0, pos := "outright.go:350", after := #[], guard := none }) rfl (fun K hK => ?_)
        go_simp
        exact hK _ _ ⟨l0, l1, l2, l3, l4, l5, true, l7, l8, l9, l10, l11, l12, l13, _, s10, s11, s12, s66, s67, s68, s69, s70, s71, w.heap.size, b10, b11, b12, xa, xc, rfl, rfl, by rw [hli] at hn; simp at hn ⊢; omega, ⟨hk.k, hk.h0, hk.h1, hk.h2, hk.h3, hk.h4, hk.h5, fun _ => ⟨rfl, h.k.size, by simp, fun _ => Four.boxed _ _ _ _ _ _, fun e => (by rw [h.d6 hli] at e; cases e), fun e b o eq => by obtain ⟨_, _, _, b2, o2, e2, hl2⟩ := h.h2 e; rw [e2] at eq; cases eq; omega⟩, hk.h7, hk.h8, hk.h9, fun e => (by cases e), hk.d7, hk.d8, hk.d9, hk.dx, fun _ e => by have := (h.h7 e).2.2.1; omega, fun _ e => by have := (h.h8 e).2.2.1; omega, fun _ e => by have := (h.h9 e).2.2.1; omega, hk.n78, hk.n79, hk.n89⟩⟩
      · have hli : l7 = false := (ready_dep hi (ds := []) (by rw [r5_tab]; rfl)).1
        have hk := h.keep ((Keeps.refl w).alloc (.cells #[.slice none 0 0, .int .i64 0, .int .i64 0, .slice none 0 0] 27))
        refine wpOp_step (o := { dst := some 10, op := .alloc 27, type := 0, pos := "outright.go:350", after := #[], guard := none }) rfl (fun K hK => ?_)
        go_simp
        exact hK _ _ ⟨l0, l1, l2, l3, l4, l5, l6, true, l8, l9, l10, l11, l12, l13, s9, _, s11, s12, s66, s67, s68, s69, s70, s71, b9, w.heap.size, b11, b12, xa, xc, rfl, rfl, by rw [hli] at hn; simp at hn ⊢; omega, ⟨hk.k, hk.h0, hk.h1, hk.h2, hk.h3, hk.h4, hk.h5, hk.h6, fun _ => ⟨rfl, h.k.size, by simp, fun _ => Four.boxed _ _ _ _ _ _, fun e => (by rw [h.d7 hli] at e; cases e), fun e b o eq => by obtain ⟨_, _, _, b2, o2, e2, hl2⟩ := h.h2 e; rw [e2] at eq; cases eq; omega⟩, hk.h8, hk.h9, hk.d6, fun e => (by cases e), hk.d8, hk.d9, hk.dx, fun e _ => by have := (h.h6 e).2.2.1; omega, hk.n68, hk.n69, fun _ e => by have := (h.h8 e).2.2.1; omega, fun _ e => by have := (h.h9 e).2.2.1; omega, hk.n89⟩⟩
      · have hli : l8 = false := (ready_dep hi (ds := []) (by rw [r5_tab]; rfl)).1
        have hk := h.keep ((Keeps.refl w).alloc (.cells #[.slice none 0 0, .int .i64 0, .int .i64 0, .slice none 0 0] 27))
        refine wpOp_step (o := { dst := some 11, op := .alloc 27, type := 0, pos := "outright.go:350", after := #[], guard := none }) rfl (fun K hK => ?_)
        go_simp
        exact hK _ _ ⟨l0, l1, l2, l3, l4, l5, l6, l7, true, l9, l10, l11, l12, l13, s9, s10, _, s12, s66, s67, s68, s69, s70, s71, b9, b10, w.heap.size, b12, xa, xc, rfl, rfl, by rw [hli] at hn; simp at hn ⊢; omega, ⟨hk.k, hk.h0, hk.h1, hk.h2, hk.h3, hk.h4, hk.h5, hk.h6, hk.h7, fun _ => ⟨rfl, h.k.size, by simp, fun _ => Four.boxed _ _ _ _ _ _, fun e => (by rw [h.d8 hli] at e; cases e), fun e b o eq => by obtain ⟨_, _, _, b2, o2, e2, hl2⟩ := h.h2 e; rw [e2] at eq; cases eq; omega⟩, hk.h9, hk.d6, hk.d7, fun e => (by cases e), hk.d9, hk.dx, hk.n67, fun e _ => by have := (h.h6 e).2.2.1; omega, hk.n69, fun e _ => by have := (h.h7 e).2.2.1; omega, hk.n79, fun _ e => by have := (h.h9 e).2.2.1; omega⟩⟩
      · have hli : l9 = false := (ready_dep hi (ds := []) (by rw [r5_tab]; rfl)).1
        have hk := h.keep ((Keeps.refl w).alloc (.cells #[.slice none 0 0, .int .i64 0, .int .i64 0, .slice none 0 0] 27))
        refine wpOp_step (o := { dst := some 12, op := .alloc 27, type := 0, pos := "outright.go:350", after := #[], guard := none }) rfl (fun K hK => ?_)
        go_simp
        exact hK _ _ ⟨l0, l1, l2, l3, l4, l5, l6, l7, l8, true, l10, l11, l12, l13, s9, s10, s11, _, s66, s67, s68, s69, s70, s71, b9, b10, b11, w.heap.size, xa, xc, rfl, rfl, by rw [hli] at hn; simp at hn ⊢; omega, ⟨hk.k, hk.h0, hk.h1, hk.h2, hk.h3, hk.h4, hk.h5, hk.h6, hk.h7, hk.h8, fun _ => ⟨rfl, h.k.size, by simp, fun _ => Four.boxed _ _ _ _ _ _, fun e => (by rw [h.d9 hli] at e; cases e), fun e b o eq => by obtain ⟨_, _, _, b2, o2, e2, hl2⟩ := h.h2 e; rw [e2] at eq; cases eq; omega⟩, hk.d6, hk.d7, hk.d8, fun e => (by cases e), hk.dx, hk.n67, hk.n68, fun e _ => by have := (h.h6 e).2.2.1; omega, hk.n78, fun e _ => by have := (h.h7 e).2.2.1; omega, fun e _ => by have := (h.h8 e).2.2.1; omega⟩⟩
      · have hli : l10 = false := (ready_dep hi (ds := [6, 2, 2, 0, 1, 2, 6, 7, 8, 9]) (by rw [r5_tab]; rfl)).1
        have hdd := (ready_dep hi (ds := [6, 2, 2, 0, 1, 2, 6, 7, 8, 9]) (by rw [r5_tab]; rfl)).2
        have t6 : l6 = true := List.all_eq_true.1 hdd 6 (by simp)
        have t2 : l2 = true := List.all_eq_true.1 hdd 2 (by simp)
        have hsv := h.h2 t2
        obtain ⟨rfl, _⟩ := hsv
        obtain ⟨hs9, a2, a3, a4, a5, a6⟩ := h.h6 t6
        subst hs9
        have hF := a4 hli
        obtain ⟨f0, f1, f2, f3, ff⟩ := hF
        have ff0 := ff 0
        have ff1 := ff 1
        have ff2 := ff 2
        have ff3 := ff 3
        have hF : Four w b9 (.slice none 0 0) (.int .i64 0) (.int .i64 0) (.slice none 0 0) := ⟨f0, f1, f2, f3, ff⟩
        refine wpOp_step (o := { dst := none, op := .store 27 (.tmp 9) (.tmp 68), type := 0, pos := "outright.go:350", after := #[{ on := 6, ground := .data }, { on := 2, ground := .data }, { on := 2, ground := .chain }, { on := 0, ground := .phase }, { on := 1, ground := .phase }, { on := 2, ground := .phase }, { on := 3, ground := .textOnly .lateStores }, { on := 4, ground := .textOnly .lateStores }, { on := 5, ground := .textOnly .lateStores }, { on := 6, ground := .phase }, { on := 7, ground := .phase }, { on := 8, ground := .phase }, { on := 9, ground := .phase }], guard := none }) rfl (fun K hK => ?_)
        go_simp
        exact hK _ _ ⟨l0, l1, l2, l3, l4, l5, l6, l7, l8, l9, true, l11, l12, l13, _, s10, s11, s12, s66, s67, _, s69, s70, s71, b9, b10, b11, b12, xa, xc, rfl, rfl, by rw [hli] at hn; simp at hn ⊢; omega, ⟨h.k.stor a2 _ _ _ _, h.h0, h.h1, fun e => by obtain ⟨x1, x2, x3, b, o, x4, x5⟩ := h.h2 e; exact ⟨x1, ⟨hI.ints.keep (h.k.stor a2 _ _ _ _), x2.rds.of_eq (fun b3 o3 e3 o4 => stor_cell w (a6 e b3 o3 e3) _ _ _ _ o4), x2.wl, x2.rl⟩, x3, b, o, x4, by rw [stor_size]; exact x5⟩, h.h3, h.h4, h.h5, fun _ => ⟨rfl, a2, by rw [stor_size]; exact a3, fun e => (by cases e), fun _ => hF.stored _ _ _ _, a6⟩, fun e => by obtain ⟨c1, c2, c3, c4, c5, c6⟩ := h.h7 e; exact ⟨c1, c2, by rw [stor_size]; exact c3, fun e2 => (c4 e2).other (h.n67 t6 e).symm _ _ _ _, fun e2 => (c5 e2).other (h.n67 t6 e).symm _ _ _ _, c6⟩, fun e => by obtain ⟨c1, c2, c3, c4, c5, c6⟩ := h.h8 e; exact ⟨c1, c2, by rw [stor_size]; exact c3, fun e2 => (c4 e2).other (h.n68 t6 e).symm _ _ _ _, fun e2 => (c5 e2).other (h.n68 t6 e).symm _ _ _ _, c6⟩, fun e => by obtain ⟨c1, c2, c3, c4, c5, c6⟩ := h.h9 e; exact ⟨c1, c2, by rw [stor_size]; exact c3, fun e2 => (c4 e2).other (h.n69 t6 e).symm _ _ _ _, fun e2 => (c5 e2).other (h.n69 t6 e).symm _ _ _ _, c6⟩, fun e => (by rw [t6] at e; cases e), h.d7, h.d8, h.d9, fun e => (by rw [t2] at e; cases e), h.n67, h.n68, h.n69, h.n78, h.n79, h.n89⟩⟩
      · have hli : l11 = false := (ready_dep hi (ds := [7, 3, 10, 0, 1, 2, 3, 6, 7, 8, 9, 10]) (by rw [r5_tab]; rfl)).1
        have hdd := (ready_dep hi (ds := [7, 3, 10, 0, 1, 2, 3, 6, 7, 8, 9, 10]) (by rw [r5_tab]; rfl)).2
        have t7 : l7 = true := List.all_eq_true.1 hdd 7 (by simp)
        have t3 : l3 = true := List.all_eq_true.1 hdd 3 (by simp)
        have hsv := h.h3 t3
        subst hsv
        obtain ⟨hs9, a2, a3, a4, a5, a6⟩ := h.h7 t7
        subst hs9
        have hF := a4 hli
        obtain ⟨f0, f1, f2, f3, ff⟩ := hF
        have ff0 := ff 0
        have ff1 := ff 1
        have ff2 := ff 2
        have ff3 := ff 3
        have hF : Four w b10 (.slice none 0 0) (.int .i64 0) (.int .i64 0) (.slice none 0 0) := ⟨f0, f1, f2, f3, ff⟩
        refine wpOp_step (o := { dst := none, op := .store 27 (.tmp 10) (.tmp 69), type := 0, pos := "outright.go:350", after := #[{ on := 7, ground := .data }, { on := 3, ground := .data }, { on := 10, ground := .chain }, { on := 0, ground := .phase }, { on := 1, ground := .phase }, { on := 2, ground := .phase }, { on := 3, ground := .phase }, { on := 4, ground := .textOnly .lateStores }, { on := 5, ground := .textOnly .lateStores }, { on := 6, ground := .phase }, { on := 7, ground := .phase }, { on := 8, ground := .phase }, { on := 9, ground := .phase }, { on := 10, ground := .phase }], guard := none }) rfl (fun K hK => ?_)
        go_simp
        exact hK _ _ ⟨l0, l1, l2, l3, l4, l5, l6, l7, l8, l9, l10, true, l12, l13, s9, _, s11, s12, s66, s67, s68, _, s70, s71, b9, b10, b11, b12, xa, xc, rfl, rfl, by rw [hli] at hn; simp at hn ⊢; omega, ⟨h.k.stor a2 _ _ _ _, h.h0, h.h1, fun e => by obtain ⟨x1, x2, x3, b, o, x4, x5⟩ := h.h2 e; exact ⟨x1, ⟨hI.ints.keep (h.k.stor a2 _ _ _ _), x2.rds.of_eq (fun b3 o3 e3 o4 => stor_cell w (a6 e b3 o3 e3) _ _ _ _ o4), x2.wl, x2.rl⟩, x3, b, o, x4, by rw [stor_size]; exact x5⟩, h.h3, h.h4, h.h5, fun e => by obtain ⟨c1, c2, c3, c4, c5, c6⟩ := h.h6 e; exact ⟨c1, c2, by rw [stor_size]; exact c3, fun e2 => (c4 e2).other (h.n67 e t7) _ _ _ _, fun e2 => (c5 e2).other (h.n67 e t7) _ _ _ _, c6⟩, fun _ => ⟨rfl, a2, by rw [stor_size]; exact a3, fun e => (by cases e), fun _ => hF.stored _ _ _ _, a6⟩, fun e => by obtain ⟨c1, c2, c3, c4, c5, c6⟩ := h.h8 e; exact ⟨c1, c2, by rw [stor_size]; exact c3, fun e2 => (c4 e2).other (h.n78 t7 e).symm _ _ _ _, fun e2 => (c5 e2).other (h.n78 t7 e).symm _ _ _ _, c6⟩, fun e => by obtain ⟨c1, c2, c3, c4, c5, c6⟩ := h.h9 e; exact ⟨c1, c2, by rw [stor_size]; exact c3, fun e2 => (c4 e2).other (h.n79 t7 e).symm _ _ _ _, fun e2 => (c5 e2).other (h.n79 t7 e).symm _ _ _ _, c6⟩, h.d6, fun e => (by rw [t7] at e; cases e), h.d8, h.d9, h.dx, h.n67, h.n68, h.n69, h.n78, h.n79, h.n89⟩⟩
      · have hli : l12 = false := (ready_dep hi (ds := [8, 4, 11, 0, 1, 2, 3, 4, 6, 7, 8, 9, 10, 11]) (by rw [r5_tab]; rfl)).1
        have hdd := (ready_dep hi (ds := [8, 4, 11, 0, 1, 2, 3, 4, 6, 7, 8, 9, 10, 11]) (by rw [r5_tab]; rfl)).2
        have t8 : l8 = true := List.all_eq_true.1 hdd 8 (by simp)
        have t4 : l4 = true := List.all_eq_true.1 hdd 4 (by simp)
        have hsv := h.h4 t4
        subst hsv
        obtain ⟨hs9, a2, a3, a4, a5, a6⟩ := h.h8 t8
        subst hs9
        have hF := a4 hli
        obtain ⟨f0, f1, f2, f3, ff⟩ := hF
        have ff0 := ff 0
        have ff1 := ff 1
        have ff2 := ff 2
        have ff3 := ff 3
        have hF : Four w b11 (.slice none 0 0) (.int .i64 0) (.int .i64 0) (.slice none 0 0) := ⟨f0, f1, f2, f3, ff⟩
        refine wpOp_step (o := { dst := none, op := .store 27 (.tmp 11) (.tmp 70), type := 0, pos := "outright.go:350", after := #[{ on := 8, ground := .data }, { on := 4, ground := .data }, { on := 11, ground := .chain }, { on := 0, ground := .phase }, { on := 1, ground := .phase }, { on := 2, ground := .phase }, { on := 3, ground := .phase }, { on := 4, ground := .phase }, { on := 5, ground := .textOnly .lateStores }, { on := 6, ground := .phase }, { on := 7, ground := .phase }, { on := 8, ground := .phase }, { on := 9, ground := .phase }, { on := 10, ground := .phase }, { on := 11, ground := .phase }], guard := none }) rfl (fun K hK => ?_)
        go_simp
        exact hK _ _ ⟨l0, l1, l2, l3, l4, l5, l6, l7, l8, l9, l10, l11, true, l13, s9, s10, _, s12, s66, s67, s68, s69, _, s71, b9, b10, b11, b12, xa, xc, rfl, rfl, by rw [hli] at hn; simp at hn ⊢; omega, ⟨h.k.stor a2 _ _ _ _, h.h0, h.h1, fun e => by obtain ⟨x1, x2, x3, b, o, x4, x5⟩ := h.h2 e; exact ⟨x1, ⟨hI.ints.keep (h.k.stor a2 _ _ _ _), x2.rds.of_eq (fun b3 o3 e3 o4 => stor_cell w (a6 e b3 o3 e3) _ _ _ _ o4), x2.wl, x2.rl⟩, x3, b, o, x4, by rw [stor_size]; exact x5⟩, h.h3, h.h4, h.h5, fun e => by obtain ⟨c1, c2, c3, c4, c5, c6⟩ := h.h6 e; exact ⟨c1, c2, by rw [stor_size]; exact c3, fun e2 => (c4 e2).other (h.n68 e t8) _ _ _ _, fun e2 => (c5 e2).other (h.n68 e t8) _ _ _ _, c6⟩, fun e => by obtain ⟨c1, c2, c3, c4, c5, c6⟩ := h.h7 e; exact ⟨c1, c2, by rw [stor_size]; exact c3, fun e2 => (c4 e2).other (h.n78 e t8) _ _ _ _, fun e2 => (c5 e2).other (h.n78 e t8) _ _ _ _, c6⟩, fun _ => ⟨rfl, a2, by rw [stor_size]; exact a3, fun e => (by cases e), fun _ => hF.stored _ _ _ _, a6⟩, fun e => by obtain ⟨c1, c2, c3, c4, c5, c6⟩ := h.h9 e; exact ⟨c1, c2, by rw [stor_size]; exact c3, fun e2 => (c4 e2).other (h.n89 t8 e).symm _ _ _ _, fun e2 => (c5 e2).other (h.n89 t8 e).symm _ _ _ _, c6⟩, h.d6, h.d7, fun e => (by rw [t8] at e; cases e), h.d9, h.dx, h.n67, h.n68, h.n69, h.n78, h.n79, h.n89⟩⟩
      · have hli : l13 = false := (ready_dep hi (ds := [9, 5, 12, 0, 1, 2, 3, 4, 5, 6, 7, 8, 9, 10, 11, 12]) (by rw [r5_tab]; rfl)).1
        have hdd := (ready_dep hi (ds := [9, 5, 12, 0, 1, 2, 3, 4, 5, 6, 7, 8, 9, 10, 11, 12]) (by rw [r5_tab]; rfl)).2
        have t9 : l9 = true := List.all_eq_true.1 hdd 9 (by simp)
        have t5 : l5 = true := List.all_eq_true.1 hdd 5 (by simp)
        have hsv := h.h5 t5
        subst hsv
        obtain ⟨hs9, a2, a3, a4, a5, a6⟩ := h.h9 t9
        subst hs9
        have hF := a4 hli
        obtain ⟨f0, f1, f2, f3, ff⟩ := hF
        have ff0 := ff 0
        have ff1 := ff 1
        have ff2 := ff 2
        have ff3 := ff 3
        have hF : Four w b12 (.slice none 0 0) (.int .i64 0) (.int .i64 0) (.slice none 0 0) := ⟨f0, f1, f2, f3, ff⟩
        refine wpOp_step (o := { dst := none, op := .store 27 (.tmp 12) (.tmp 71), type := 0, pos := "outright.go:350", after := #[{ on := 9, ground := .data }, { on := 5, ground := .data }, { on := 12, ground := .chain }, { on := 0, ground := .phase }, { on := 1, ground := .phase }, { on := 2, ground := .phase }, { on := 3, ground := .phase }, { on := 4, ground := .phase }, { on := 5, ground := .phase }, { on := 6, ground := .phase }, { on := 7, ground := .phase }, { on := 8, ground := .phase }, { on := 9, ground := .phase }, { on := 10, ground := .phase }, { on := 11, ground := .phase }, { on := 12, ground := .phase }], guard := none }) rfl (fun K hK => ?_)
        go_simp
        exact hK _ _ ⟨l0, l1, l2, l3, l4, l5, l6, l7, l8, l9, l10, l11, l12, true, s9, s10, s11, _, s66, s67, s68, s69, s70, _, b9, b10, b11, b12, xa, xc, rfl, rfl, by rw [hli] at hn; simp at hn ⊢; omega, ⟨h.k.stor a2 _ _ _ _, h.h0, h.h1, fun e => by obtain ⟨x1, x2, x3, b, o, x4, x5⟩ := h.h2 e; exact ⟨x1, ⟨hI.ints.keep (h.k.stor a2 _ _ _ _), x2.rds.of_eq (fun b3 o3 e3 o4 => stor_cell w (a6 e b3 o3 e3) _ _ _ _ o4), x2.wl, x2.rl⟩, x3, b, o, x4, by rw [stor_size]; exact x5⟩, h.h3, h.h4, h.h5, fun e => by obtain ⟨c1, c2, c3, c4, c5, c6⟩ := h.h6 e; exact ⟨c1, c2, by rw [stor_size]; exact c3, fun e2 => (c4 e2).other (h.n69 e t9) _ _ _ _, fun e2 => (c5 e2).other (h.n69 e t9) _ _ _ _, c6⟩, fun e => by obtain ⟨c1, c2, c3, c4, c5, c6⟩ := h.h7 e; exact ⟨c1, c2, by rw [stor_size]; exact c3, fun e2 => (c4 e2).other (h.n79 e t9) _ _ _ _, fun e2 => (c5 e2).other (h.n79 e t9) _ _ _ _, c6⟩, fun e => by obtain ⟨c1, c2, c3, c4, c5, c6⟩ := h.h8 e; exact ⟨c1, c2, by rw [stor_size]; exact c3, fun e2 => (c4 e2).other (h.n89 e t9) _ _ _ _, fun e2 => (c5 e2).other (h.n89 e t9) _ _ _ _, c6⟩, fun _ => ⟨rfl, a2, by rw [stor_size]; exact a3, fun e => (by cases e), fun _ => hF.stored _ _ _ _, a6⟩, h.d6, h.d7, h.d8, fun e => (by rw [t9] at e; cases e), h.dx, h.n67, h.n68, h.n69, h.n78, h.n79, h.n89⟩⟩
  · rintro _ _ w ⟨l0, l1, l2, l3, l4, l5, l6, l7, l8, l9, l10, l11, l12, l13, s9, s10, s11, s12, s66, s67, s68, s69, s70, s71, b9, b10, b11, b12, xa, xc, rfl, rfl, hn, h⟩
    obtain ⟨t0, t1, t2, t3, t4, t5, t6, t7, t8, t9, t10, t11, t12, t13⟩ : l0 = true ∧ l1 = true ∧ l2 = true ∧ l3 = true ∧ l4 = true ∧ l5 = true ∧ l6 = true ∧ l7 = true ∧ l8 = true ∧ l9 = true ∧ l10 = true ∧ l11 = true ∧ l12 = true ∧ l13 = true := by
      refine ⟨?_, ?_, ?_, ?_, ?_, ?_, ?_, ?_, ?_, ?_, ?_, ?_, ?_, ?_⟩ <;> (rw [← Bool.not_eq_false]; intro e; rw [e] at hn; simp at hn)
    subst t0 t1 t2 t3 t4 t5 t6 t7 t8 t9 t10 t11 t12 t13
    exact ⟨r5_none, hQ.out _ _ _ _ _ _ _ _ _ _ _ _ _ _ _ _ _ h⟩
  · exact ⟨false, false, false, false, false, false, false, false, false, false, false, false, false, false, y9, y10, y11, y12, y66, y67, y68, y69, y70, y71, 0, 0, 0, 0, none, 0, rfl, rfl, rfl, (Keeps.refl w0).drew, nofun, nofun, nofun, nofun, nofun, nofun, nofun, nofun, nofun, nofun, fun _ => rfl, fun _ => rfl, fun _ => rfl, fun _ => rfl, fun _ => rfl, nofun, nofun, nofun, nofun, nofun, nofun⟩
end Go.Proofs.Ytoidnbpbeblokaa
