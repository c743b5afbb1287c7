/-
  WarmMore's region 4: three new blocks, in any order.
-/
import Derived.Test.YtmhpgjlegajpeaaMB
import Derived.Deep.DeepCutAuto
namespace Go.Proofs.Ytmhpgjlegajpeaa
open Go.RowKit

section
variable {F : Fence} {n : Nat} {P : Program} {Q : Exit → Act → World → Prop} {C : World → Prop}
theorem cix_three {m k : Nat} {ops : List Oper} {L : Array Bool} {a : Act} {w : World} (i : Nat) (o : Oper) (i' : Nat) (o' : Oper) (i'' : Nat) (o'' : Oper) (hk : k = m + 1) (ho : ops[i]? = some o) (ho' : ops[i']? = some o') (ho'' : ops[i'']? = some o'') (hr : (Region.ready .any ops.toArray L == [i, i', i'']) = true)
    (h : wpListIn F n P ops.toArray (fun e a' w' => (e = .normal ∧ C w' ∧ wpAnyC F n P .any ops.toArray Q C m (L.setIfInBounds i true) a' w') ∨ ((∃ c, e = .panic c) ∧ Q e a' w')) [o] a w)
    (h' : wpListIn F n P ops.toArray (fun e a' w' => (e = .normal ∧ C w' ∧ wpAnyC F n P .any ops.toArray Q C m (L.setIfInBounds i' true) a' w') ∨ ((∃ c, e = .panic c) ∧ Q e a' w')) [o'] a w)
    (h'' : wpListIn F n P ops.toArray (fun e a' w' => (e = .normal ∧ C w' ∧ wpAnyC F n P .any ops.toArray Q C m (L.setIfInBounds i'' true) a' w') ∨ ((∃ c, e = .panic c) ∧ Q e a' w')) [o''] a w) : wpAnyC F n P .any ops.toArray Q C k L a w := by
  subst hk
  rw [beq_iff_eq] at hr
  refine ⟨fun e => (by rw [hr] at e; cases e), fun j hj => ?_⟩
  rw [hr] at hj
  rcases List.mem_cons.1 hj with rfl | hj
  · exact mono_op ho (fun e a w h => h.imp (fun h => ⟨h.1, .inl h.2.1, h.2.2⟩) id) h
  rcases List.mem_cons.1 hj with rfl | hj
  · exact mono_op ho' (fun e a w h => h.imp (fun h => ⟨h.1, .inl h.2.1, h.2.2⟩) id) h'
  rw [List.mem_singleton] at hj
  subst hj
  exact mono_op ho'' (fun e a w h => h.imp (fun h => ⟨h.1, .inl h.2.1, h.2.2⟩) id) h''
end
/-- A block stored whole. -/
abbrev sto6 (X : World) (b : Nat) (v0 v1 v2 v3 v4 v5 : Value) : World := (((((X.setCell ⟨b, 0, none⟩ v0).setCell ⟨b, 1, none⟩ v1).setCell ⟨b, 2, none⟩ v2).setCell ⟨b, 3, none⟩ v3).setCell ⟨b, 4, none⟩ v4).setCell ⟨b, 5, none⟩ v5
theorem Six.stored {X : World} {b : Nat} {u0 u1 u2 u3 u4 u5 : Value} (h : Six X b u0 u1 u2 u3 u4 u5) (v0 v1 v2 v3 v4 v5 : Value) : Six (sto6 X b v0 v1 v2 v3 v4 v5) b v0 v1 v2 v3 v4 v5 :=
  ⟨by rw [cell_set_other (by omega), cell_set_other (by omega), cell_set_other (by omega), cell_set_other (by omega), cell_set_other (by omega)]; exact cell_set_same (by rw [h.c0]; rfl),
   by rw [cell_set_other (by omega), cell_set_other (by omega), cell_set_other (by omega), cell_set_other (by omega)]; exact cell_set_same (by rw [cell_set_other (by omega), h.c1]; rfl),
   by rw [cell_set_other (by omega), cell_set_other (by omega), cell_set_other (by omega)]; exact cell_set_same (by rw [cell_set_other (by omega), cell_set_other (by omega), h.c2]; rfl),
   by rw [cell_set_other (by omega), cell_set_other (by omega)]; exact cell_set_same (by rw [cell_set_other (by omega), cell_set_other (by omega), cell_set_other (by omega), h.c3]; rfl),
   by rw [cell_set_other (by omega)]; exact cell_set_same (by rw [cell_set_other (by omega), cell_set_other (by omega), cell_set_other (by omega), cell_set_other (by omega), h.c4]; rfl),
   cell_set_same (by rw [cell_set_other (by omega), cell_set_other (by omega), cell_set_other (by omega), cell_set_other (by omega), cell_set_other (by omega), h.c5]; rfl),
   fun o => by rw [World.frozen?_setCell, World.frozen?_setCell, World.frozen?_setCell, World.frozen?_setCell, World.frozen?_setCell, World.frozen?_setCell]; exact h.fr o⟩
theorem Six.away {X : World} {b b' : Nat} {u0 u1 u2 u3 u4 u5 : Value} (h : Six X b u0 u1 u2 u3 u4 u5) (hb : b' ≠ b) (v0 v1 v2 v3 v4 v5 : Value) : Six (sto6 X b' v0 v1 v2 v3 v4 v5) b u0 u1 u2 u3 u4 u5 :=
  (((((h.others hb).others hb).others hb).others hb).others hb).others hb
theorem Keeps.sto6 {a X : World} {b : Nat} (h : Keeps a X) (hb : a.heap.size ≤ b) (v0 v1 v2 v3 v4 v5 : Value) : Keeps a (sto6 X b v0 v1 v2 v3 v4 v5) :=
  (((((h.setCell v0 hb).setCell v1 hb).setCell v2 hb).setCell v3 hb).setCell v4 hb).setCell v5 hb
set_option maxRecDepth 100000 in
set_option maxHeartbeats 40000000 in
theorem more_4x (mark llo lhi clo chi : Int) (ra : Option Addr) (rc : Nat) (rs : List Wr) (b0 : Nat) (wr : World) (hB : Wm.Box ⟨mark, llo, lhi, clo, chi, ra, rc, rs⟩ wr b0) (Q : Exit → Act → World → Prop)
    (x0 x1 x2 x3 x4 x5 x7 x8 x9 x10 x11 x12 x13 x14 x15 x16 x17 x18 x19 x20 x21 x22 x23 x24 x25 x26 x27 x28 x29 x30 x31 x32 x33 x34 x35 x36 x37 x38 x39 x40 x41 x42 x43 x44 x45 x46 x47 x48 x49 x50 x51 x52 x53 x54 x55 x56 x57 x58 x59 x60 x61 x62 x63 x64 x65 x66 x67 x68 x69 x70 x71 x72 x73 x74 x75 x76 x77 x78 x79 x80 x81 x82 x83 x84 x85 x86 x87 x88 x89 x90 x91 x92 x93 x94 x95 x96 x97 x98 x99 x100 x101 x102 x103 x104 x105 x106 x107 x108 x109 x110 x111 x112 x113 x114 x115 x116 x117 x118 x119 x120 x121 x122 x123 x124 x125 x126 x127 x128 x129 x130 x131 x132 x133 x134 x135 x136 x137 x138 x139 x140 x141 x142 x143 x144 x145 x146 x147 x148 x149 x150 x151 x152 x153 x154 x155 x156 x157 x158 x159 x160 x161 x162 x163 x164 x165 x166 x167 x168 x169 x170 x171 x172 x173 x174 x175 x176 x177 x178 x179 x180 x181 x182 x183 x184 x185 x186 x187 x188 x189 x190 x191 x192 x193 x194 x195 x196 x197 x198 x199 x200 x201 x202 x203 x204 x205 x206 x207 x208 x209 x210 x211 x212 x213 x214 x215 x216 x217 x218 x219 x220 x221 x222 x223 x224 x225 x226 x227 x228 x229 x230 x231 x232 x233 x234 x235 x236 x237 x238 x239 x240 x241 x242 x243 x244 x245 x246 x247 x248 x249 x250 x251 x252 x253 x254 x255 x256 x257 x258 x259 x260 x261 x262 x263 x264 x265 x266 x267 x268 x269 x270 x271 x272 x273 x274 x275 x276 x277 x278 x279 x280 x281 x282 x283 x284 x285 x286 x287 x288 x289 x290 x291 x292 x293 x294 x295 x296 x297 x298 x299 x300 x301 x302 x303 x304 x305 x306 x307 x308 x309 x310 x311 x312 x313 x314 x315 x316 x317 x318 x319 x320 x321 x322 x323 x324 x325 x326 x327 x328 x329 x330 x331 x332 x333 x334 x335 x336 x337 x338 x339 x340 x341 x342 x343 x344 x345 x346 x347 x348 x349 x350 x351 x352 x353 x354 x355 x356 x357 x358 x359 x360 x361 x362 x363 x364 x365 x366 x367 x368 x369 x370 x371 x372 x373 x374 x375 x376 x377 x378 x379 x380 x381 x382 x383 : Value)
    (hQ : Hid (∀ (w' : World) (s1 s2 s3 : Nat) (y53 y54 y55 : Value), Keeps wr w' → Six w' s1 (.int .i64 mark) (.int .i64 llo) (.int .i64 lhi) (.int .i64 clo) (.int .i64 chi) (.slice ra rs.length rc) → Six w' s2 (.int .i64 mark) (.int .i64 llo) (.int .i64 lhi) (.int .i64 clo) (.int .i64 chi) (.slice ra rs.length rc) → Six w' s3 (.int .i64 mark) (.int .i64 llo) (.int .i64 lhi) (.int .i64 clo) (.int .i64 chi) (.slice ra rs.length rc) → wr.heap.size ≤ s1 → wr.heap.size ≤ s2 → wr.heap.size ≤ s3 → s1 ≠ s2 → s1 ≠ s3 → s2 ≠ s3 → Q .normal { tmps := #[x0, x1, x2, x3, x4, x5, .pointer (some ⟨b0, 0, none⟩), x7, x8, x9, x10, x11, x12, x13, .pointer (some ⟨s1, 0, none⟩), .pointer (some ⟨s2, 0, none⟩), .pointer (some ⟨s3, 0, none⟩), x17, x18, x19, x20, x21, x22, x23, x24, x25, x26, x27, x28, x29, x30, x31, x32, x33, x34, x35, x36, x37, x38, x39, x40, x41, x42, x43, x44, x45, x46, x47, x48, x49, x50, x51, x52, y53, y54, y55, x56, x57, x58, x59, x60, x61, x62, x63, x64, x65, x66, x67, x68, x69, x70, x71, x72, x73, x74, x75, x76, x77, x78, x79, x80, x81, x82, x83, x84, x85, x86, x87, x88, x89, x90, x91, x92, x93, x94, x95, x96, x97, x98, x99, x100, x101, x102, x103, x104, x105, x106, x107, x108, x109, x110, x111, x112, x113, x114, x115, x116, x117, x118, x119, x120, x121, x122, x123, x124, x125, x126, x127, x128, x129, x130, x131, x132, x133, x134, x135, x136, x137, x138, x139, x140, x141, x142, x143, x144, x145, x146, x147, x148, x149, x150, x151, x152, x153, x154, x155, x156, x157, x158, x159, x160, x161, x162, x163, x164, x165, x166, x167, x168, x169, x170, x171, x172, x173, x174, x175, x176, x177, x178, x179, x180, x181, x182, x183, x184, x185, x186, x187, x188, x189, x190, x191, x192, x193, x194, x195, x196, x197, x198, x199, x200, x201, x202, x203, x204, x205, x206, x207, x208, x209, x210, x211, x212, x213, x214, x215, x216, x217, x218, x219, x220, x221, x222, x223, x224, x225, x226, x227, x228, x229, x230, x231, x232, x233, x234, x235, x236, x237, x238, x239, x240, x241, x242, x243, x244, x245, x246, x247, x248, x249, x250, x251, x252, x253, x254, x255, x256, x257, x258, x259, x260, x261, x262, x263, x264, x265, x266, x267, x268, x269, x270, x271, x272, x273, x274, x275, x276, x277, x278, x279, x280, x281, x282, x283, x284, x285, x286, x287, x288, x289, x290, x291, x292, x293, x294, x295, x296, x297, x298, x299, x300, x301, x302, x303, x304, x305, x306, x307, x308, x309, x310, x311, x312, x313, x314, x315, x316, x317, x318, x319, x320, x321, x322, x323, x324, x325, x326, x327, x328, x329, x330, x331, x332, x333, x334, x335, x336, x337, x338, x339, x340, x341, x342, x343, x344, x345, x346, x347, x348, x349, x350, x351, x352, x353, x354, x355, x356, x357, x358, x359, x360, x361, x362, x363, x364, x365, x366, x367, x368, x369, x370, x371, x372, x373, x374, x375, x376, x377, x378, x379, x380, x381, x382, x383], defers := [] } w')) :
    Code.wp Try.prog (more_at 4) Q { tmps := #[x0, x1, x2, x3, x4, x5, .pointer (some ⟨b0, 0, none⟩), x7, x8, x9, x10, x11, x12, x13, x14, x15, x16, x17, x18, x19, x20, x21, x22, x23, x24, x25, x26, x27, x28, x29, x30, x31, x32, x33, x34, x35, x36, x37, x38, x39, x40, x41, x42, x43, x44, x45, x46, x47, x48, x49, x50, x51, x52, x53, x54, x55, x56, x57, x58, x59, x60, x61, x62, x63, x64, x65, x66, x67, x68, x69, x70, x71, x72, x73, x74, x75, x76, x77, x78, x79, x80, x81, x82, x83, x84, x85, x86, x87, x88, x89, x90, x91, x92, x93, x94, x95, x96, x97, x98, x99, x100, x101, x102, x103, x104, x105, x106, x107, x108, x109, x110, x111, x112, x113, x114, x115, x116, x117, x118, x119, x120, x121, x122, x123, x124, x125, x126, x127, x128, x129, x130, x131, x132, x133, x134, x135, x136, x137, x138, x139, x140, x141, x142, x143, x144, x145, x146, x147, x148, x149, x150, x151, x152, x153, x154, x155, x156, x157, x158, x159, x160, x161, x162, x163, x164, x165, x166, x167, x168, x169, x170, x171, x172, x173, x174, x175, x176, x177, x178, x179, x180, x181, x182, x183, x184, x185, x186, x187, x188, x189, x190, x191, x192, x193, x194, x195, x196, x197, x198, x199, x200, x201, x202, x203, x204, x205, x206, x207, x208, x209, x210, x211, x212, x213, x214, x215, x216, x217, x218, x219, x220, x221, x222, x223, x224, x225, x226, x227, x228, x229, x230, x231, x232, x233, x234, x235, x236, x237, x238, x239, x240, x241, x242, x243, x244, x245, x246, x247, x248, x249, x250, x251, x252, x253, x254, x255, x256, x257, x258, x259, x260, x261, x262, x263, x264, x265, x266, x267, x268, x269, x270, x271, x272, x273, x274, x275, x276, x277, x278, x279, x280, x281, x282, x283, x284, x285, x286, x287, x288, x289, x290, x291, x292, x293, x294, x295, x296, x297, x298, x299, x300, x301, x302, x303, x304, x305, x306, x307, x308, x309, x310, x311, x312, x313, x314, x315, x316, x317, x318, x319, x320, x321, x322, x323, x324, x325, x326, x327, x328, x329, x330, x331, x332, x333, x334, x335, x336, x337, x338, x339, x340, x341, x342, x343, x344, x345, x346, x347, x348, x349, x350, x351, x352, x353, x354, x355, x356, x357, x358, x359, x360, x361, x362, x363, x364, x365, x366, x367, x368, x369, x370, x371, x372, x373, x374, x375, x376, x377, x378, x379, x380, x381, x382, x383], defers := [] } wr := by
  conv => arg 2; whnf
  try dsimp only
  have hmx : Try.prog.follows .mixedOrders = true := by kernel_rfl
  obtain ⟨g0, g1, g2, g3, g4, g5⟩ := hB
  dsimp only at g0 g1 g2 g3 g4 g5
  have kd := (Keeps.refl wr).drew
  haveI : Nonempty (Inw (fun w' => Keeps wr w')) := ⟨⟨wr, Keeps.refl _⟩⟩
  have e0 : ∀ q : Inw (fun w' => Keeps wr w'), q.W.cell? ⟨b0, 0, none⟩ = some (.int .i64 mark) := fun q => q.h.cell g0
  have e1 : ∀ q : Inw (fun w' => Keeps wr w'), q.W.cell? ⟨b0, 1, none⟩ = some (.int .i64 llo) := fun q => q.h.cell g1
  have e2 : ∀ q : Inw (fun w' => Keeps wr w'), q.W.cell? ⟨b0, 2, none⟩ = some (.int .i64 lhi) := fun q => q.h.cell g2
  have e3 : ∀ q : Inw (fun w' => Keeps wr w'), q.W.cell? ⟨b0, 3, none⟩ = some (.int .i64 clo) := fun q => q.h.cell g3
  have e4 : ∀ q : Inw (fun w' => Keeps wr w'), q.W.cell? ⟨b0, 4, none⟩ = some (.int .i64 chi) := fun q => q.h.cell g4
  have e5 : ∀ q : Inw (fun w' => Keeps wr w'), q.W.cell? ⟨b0, 5, none⟩ = some (.slice ra rs.length rc) := fun q => q.h.cell g5
  refine (wpIn_wide (n := 3)).1 (calm ?_)
  refine cix_start hmx (fun w' => Keeps wr w') ?_
  refine cix_quiet (m := 6) (calm_ok (fun _ => trivial) (by kernel_rfl)) [0, 1, 2] rfl (by kernel_rfl) kd ?_
  show wpQuietIn _ _ _ _ _ _ [_, _, _] _
  iterate 3 (gi_big_quiet_step (fail))
  refine wpQuietIn_nil ?_
  clear e0 e1 e2 e3 e4 e5 g0 g1 g2 g3 g4 g5
  refine cix_three (m := 5) 3 _ 4 _ 5 _ rfl rfl rfl rfl (by kernel_rfl) ?_ ?_ ?_
  · show wpListIn _ _ _ _ _ [_] _ _
    obtain ⟨u0, hu0⟩ : ∃ W, wr.drew.alloc (.cells #[.int .i64 0, .int .i64 0, .int .i64 0, .int .i64 0, .int .i64 0, .slice none 0 0] 26) = W := ⟨_, rfl⟩
    have ku0 : Keeps wr u0 := by rw [← hu0]; exact kd.alloc _
    have lu0 : Keeps wr.drew u0 := by rw [← hu0]; exact (Keeps.refl _).alloc _
    obtain ⟨S0, hS0⟩ : ∃ s, wr.drew.heap.size = s := ⟨_, rfl⟩
    have hH0 : wr.heap.size ≤ S0 := by rw [← hS0]; exact kd.size
    have X0 : Six u0 S0 (.int .i64 0) (.int .i64 0) (.int .i64 0) (.int .i64 0) (.int .i64 0) (.slice none 0 0) := by rw [← hu0, ← hS0]; exact Six.boxed _ _ _ _ _ _ _ _
    gi_wp2_with fail
    clear hu0 hS0 lu0
    refine cix_two (m := 4) 4 _ 5 _ rfl rfl rfl (by kernel_rfl) ?_ ?_
    · show wpListIn _ _ _ _ _ [_] _ _
      obtain ⟨u1, hu1⟩ : ∃ W, u0.alloc (.cells #[.int .i64 0, .int .i64 0, .int .i64 0, .int .i64 0, .int .i64 0, .slice none 0 0] 26) = W := ⟨_, rfl⟩
      have ku1 : Keeps wr u1 := by rw [← hu1]; exact ku0.alloc _
      have lu1 : Keeps u0 u1 := by rw [← hu1]; exact (Keeps.refl _).alloc _
      obtain ⟨S1, hS1⟩ : ∃ s, u0.heap.size = s := ⟨_, rfl⟩
      have hH1 : wr.heap.size ≤ S1 := by rw [← hS1]; exact ku0.size
      have X1 : Six u1 S1 (.int .i64 0) (.int .i64 0) (.int .i64 0) (.int .i64 0) (.int .i64 0) (.slice none 0 0) := by rw [← hu1, ← hS1]; exact Six.boxed _ _ _ _ _ _ _ _
      have n01 : S0 < S1 := by rw [← hS1]; exact X0.lt
      replace X0 := X0.keep lu1
      gi_wp2_with fail
      clear hu1 hS1 lu1
      refine cix_one (m := 3) 5 _ rfl rfl (by kernel_rfl) ?_
      show wpListIn _ _ _ _ _ [_] _ _
      obtain ⟨u2, hu2⟩ : ∃ W, u1.alloc (.cells #[.int .i64 0, .int .i64 0, .int .i64 0, .int .i64 0, .int .i64 0, .slice none 0 0] 26) = W := ⟨_, rfl⟩
      have ku2 : Keeps wr u2 := by rw [← hu2]; exact ku1.alloc _
      have lu2 : Keeps u1 u2 := by rw [← hu2]; exact (Keeps.refl _).alloc _
      obtain ⟨S2, hS2⟩ : ∃ s, u1.heap.size = s := ⟨_, rfl⟩
      have hH2 : wr.heap.size ≤ S2 := by rw [← hS2]; exact ku1.size
      have X2 : Six u2 S2 (.int .i64 0) (.int .i64 0) (.int .i64 0) (.int .i64 0) (.int .i64 0) (.slice none 0 0) := by rw [← hu2, ← hS2]; exact Six.boxed _ _ _ _ _ _ _ _
      have n02 : S0 < S2 := by rw [← hS2]; exact X0.lt
      replace X0 := X0.keep lu2
      have n12 : S1 < S2 := by rw [← hS2]; exact X1.lt
      replace X1 := X1.keep lu2
      gi_wp2_with fail
      clear hu2 hS2 lu2
      refine cix_one (m := 2) 6 _ rfl rfl (by kernel_rfl) ?_
      show wpListIn _ _ _ _ _ [_] _ _
      have q0 := X0.c0
      have q1 := X0.c1
      have q2 := X0.c2
      have q3 := X0.c3
      have q4 := X0.c4
      have q5 := X0.c5
      have f0 := X0.fr 0
      have f1 := X0.fr 1
      have f2 := X0.fr 2
      have f3 := X0.fr 3
      have f4 := X0.fr 4
      have f5 := X0.fr 5
      have ql := X0.lt
      obtain ⟨v0, hv0⟩ : ∃ W, sto6 u2 S0 (.int .i64 mark) (.int .i64 llo) (.int .i64 lhi) (.int .i64 clo) (.int .i64 chi) (.slice ra rs.length rc) = W := ⟨_, rfl⟩
      have kv0 : Keeps wr v0 := by rw [← hv0]; exact ku2.sto6 hH0 _ _ _ _ _ _
      replace X0 : Six v0 S0 (.int .i64 mark) (.int .i64 llo) (.int .i64 lhi) (.int .i64 clo) (.int .i64 chi) (.slice ra rs.length rc) := by rw [← hv0]; exact X0.stored _ _ _ _ _ _
      replace X1 := X1.away (show S0 ≠ S1 by omega) (.int .i64 mark) (.int .i64 llo) (.int .i64 lhi) (.int .i64 clo) (.int .i64 chi) (.slice ra rs.length rc)
      rw [hv0] at X1
      replace X2 := X2.away (show S0 ≠ S2 by omega) (.int .i64 mark) (.int .i64 llo) (.int .i64 lhi) (.int .i64 clo) (.int .i64 chi) (.slice ra rs.length rc)
      rw [hv0] at X2
      gi_wp2_with fail
      clear hv0 q0 q1 q2 q3 q4 q5 f0 f1 f2 f3 f4 f5 ql
      refine cix_one (m := 1) 7 _ rfl rfl (by kernel_rfl) ?_
      show wpListIn _ _ _ _ _ [_] _ _
      have q0 := X1.c0
      have q1 := X1.c1
      have q2 := X1.c2
      have q3 := X1.c3
      have q4 := X1.c4
      have q5 := X1.c5
      have f0 := X1.fr 0
      have f1 := X1.fr 1
      have f2 := X1.fr 2
      have f3 := X1.fr 3
      have f4 := X1.fr 4
      have f5 := X1.fr 5
      have ql := X1.lt
      obtain ⟨v1, hv1⟩ : ∃ W, sto6 v0 S1 (.int .i64 mark) (.int .i64 llo) (.int .i64 lhi) (.int .i64 clo) (.int .i64 chi) (.slice ra rs.length rc) = W := ⟨_, rfl⟩
      have kv1 : Keeps wr v1 := by rw [← hv1]; exact kv0.sto6 hH1 _ _ _ _ _ _
      replace X0 := X0.away (show S1 ≠ S0 by omega) (.int .i64 mark) (.int .i64 llo) (.int .i64 lhi) (.int .i64 clo) (.int .i64 chi) (.slice ra rs.length rc)
      rw [hv1] at X0
      replace X1 : Six v1 S1 (.int .i64 mark) (.int .i64 llo) (.int .i64 lhi) (.int .i64 clo) (.int .i64 chi) (.slice ra rs.length rc) := by rw [← hv1]; exact X1.stored _ _ _ _ _ _
      replace X2 := X2.away (show S1 ≠ S2 by omega) (.int .i64 mark) (.int .i64 llo) (.int .i64 lhi) (.int .i64 clo) (.int .i64 chi) (.slice ra rs.length rc)
      rw [hv1] at X2
      gi_wp2_with fail
      clear hv1 q0 q1 q2 q3 q4 q5 f0 f1 f2 f3 f4 f5 ql
      refine cix_last (m := 0) 8 _ rfl rfl (by kernel_rfl) (by kernel_rfl) (by kernel_rfl) ?_
      show wpListIn _ _ _ _ _ [_] _ _
      have q0 := X2.c0
      have q1 := X2.c1
      have q2 := X2.c2
      have q3 := X2.c3
      have q4 := X2.c4
      have q5 := X2.c5
      have f0 := X2.fr 0
      have f1 := X2.fr 1
      have f2 := X2.fr 2
      have f3 := X2.fr 3
      have f4 := X2.fr 4
      have f5 := X2.fr 5
      have ql := X2.lt
      obtain ⟨v2, hv2⟩ : ∃ W, sto6 v1 S2 (.int .i64 mark) (.int .i64 llo) (.int .i64 lhi) (.int .i64 clo) (.int .i64 chi) (.slice ra rs.length rc) = W := ⟨_, rfl⟩
      have kv2 : Keeps wr v2 := by rw [← hv2]; exact kv1.sto6 hH2 _ _ _ _ _ _
      replace X0 := X0.away (show S2 ≠ S0 by omega) (.int .i64 mark) (.int .i64 llo) (.int .i64 lhi) (.int .i64 clo) (.int .i64 chi) (.slice ra rs.length rc)
      rw [hv2] at X0
      replace X1 := X1.away (show S2 ≠ S1 by omega) (.int .i64 mark) (.int .i64 llo) (.int .i64 lhi) (.int .i64 clo) (.int .i64 chi) (.slice ra rs.length rc)
      rw [hv2] at X1
      replace X2 : Six v2 S2 (.int .i64 mark) (.int .i64 llo) (.int .i64 lhi) (.int .i64 clo) (.int .i64 chi) (.slice ra rs.length rc) := by rw [← hv2]; exact X2.stored _ _ _ _ _ _
      gi_wp2_with fail
      first
        | exact hQ.out _ _ _ _ _ _ _ (by first | exact kv2 | (rw [hv2]; exact kv2)) (by first | exact X0 | (rw [hv2]; exact X0)) (by first | exact X1 | (rw [hv2]; exact X1)) (by first | exact X2 | (rw [hv2]; exact X2)) hH0 hH1 hH2 (by omega) (by omega) (by omega)
        | exact ⟨rfl, hQ.out _ _ _ _ _ _ _ kv2 X0 X1 X2 hH0 hH1 hH2 (by omega) (by omega) (by omega)⟩
        | trace_state
    · show wpListIn _ _ _ _ _ [_] _ _
      obtain ⟨u2, hu2⟩ : ∃ W, u0.alloc (.cells #[.int .i64 0, .int .i64 0, .int .i64 0, .int .i64 0, .int .i64 0, .slice none 0 0] 26) = W := ⟨_, rfl⟩
      have ku2 : Keeps wr u2 := by rw [← hu2]; exact ku0.alloc _
      have lu2 : Keeps u0 u2 := by rw [← hu2]; exact (Keeps.refl _).alloc _
      obtain ⟨S2, hS2⟩ : ∃ s, u0.heap.size = s := ⟨_, rfl⟩
      have hH2 : wr.heap.size ≤ S2 := by rw [← hS2]; exact ku0.size
      have X2 : Six u2 S2 (.int .i64 0) (.int .i64 0) (.int .i64 0) (.int .i64 0) (.int .i64 0) (.slice none 0 0) := by rw [← hu2, ← hS2]; exact Six.boxed _ _ _ _ _ _ _ _
      have n02 : S0 < S2 := by rw [← hS2]; exact X0.lt
      replace X0 := X0.keep lu2
      gi_wp2_with fail
      clear hu2 hS2 lu2
      refine cix_one (m := 3) 4 _ rfl rfl (by kernel_rfl) ?_
      show wpListIn _ _ _ _ _ [_] _ _
      obtain ⟨u1, hu1⟩ : ∃ W, u2.alloc (.cells #[.int .i64 0, .int .i64 0, .int .i64 0, .int .i64 0, .int .i64 0, .slice none 0 0] 26) = W := ⟨_, rfl⟩
      have ku1 : Keeps wr u1 := by rw [← hu1]; exact ku2.alloc _
      have lu1 : Keeps u2 u1 := by rw [← hu1]; exact (Keeps.refl _).alloc _
      obtain ⟨S1, hS1⟩ : ∃ s, u2.heap.size = s := ⟨_, rfl⟩
      have hH1 : wr.heap.size ≤ S1 := by rw [← hS1]; exact ku2.size
      have X1 : Six u1 S1 (.int .i64 0) (.int .i64 0) (.int .i64 0) (.int .i64 0) (.int .i64 0) (.slice none 0 0) := by rw [← hu1, ← hS1]; exact Six.boxed _ _ _ _ _ _ _ _
      have n01 : S0 < S1 := by rw [← hS1]; exact X0.lt
      replace X0 := X0.keep lu1
      have n21 : S2 < S1 := by rw [← hS1]; exact X2.lt
      replace X2 := X2.keep lu1
      gi_wp2_with fail
      clear hu1 hS1 lu1
      refine cix_one (m := 2) 6 _ rfl rfl (by kernel_rfl) ?_
      show wpListIn _ _ _ _ _ [_] _ _
      have q0 := X0.c0
      have q1 := X0.c1
      have q2 := X0.c2
      have q3 := X0.c3
      have q4 := X0.c4
      have q5 := X0.c5
      have f0 := X0.fr 0
      have f1 := X0.fr 1
      have f2 := X0.fr 2
      have f3 := X0.fr 3
      have f4 := X0.fr 4
      have f5 := X0.fr 5
      have ql := X0.lt
      obtain ⟨v0, hv0⟩ : ∃ W, sto6 u1 S0 (.int .i64 mark) (.int .i64 llo) (.int .i64 lhi) (.int .i64 clo) (.int .i64 chi) (.slice ra rs.length rc) = W := ⟨_, rfl⟩
      have kv0 : Keeps wr v0 := by rw [← hv0]; exact ku1.sto6 hH0 _ _ _ _ _ _
      replace X0 : Six v0 S0 (.int .i64 mark) (.int .i64 llo) (.int .i64 lhi) (.int .i64 clo) (.int .i64 chi) (.slice ra rs.length rc) := by rw [← hv0]; exact X0.stored _ _ _ _ _ _
      replace X1 := X1.away (show S0 ≠ S1 by omega) (.int .i64 mark) (.int .i64 llo) (.int .i64 lhi) (.int .i64 clo) (.int .i64 chi) (.slice ra rs.length rc)
      rw [hv0] at X1
      replace X2 := X2.away (show S0 ≠ S2 by omega) (.int .i64 mark) (.int .i64 llo) (.int .i64 lhi) (.int .i64 clo) (.int .i64 chi) (.slice ra rs.length rc)
      rw [hv0] at X2
      gi_wp2_with fail
      clear hv0 q0 q1 q2 q3 q4 q5 f0 f1 f2 f3 f4 f5 ql
      refine cix_one (m := 1) 7 _ rfl rfl (by kernel_rfl) ?_
      show wpListIn _ _ _ _ _ [_] _ _
      have q0 := X1.c0
      have q1 := X1.c1
      have q2 := X1.c2
      have q3 := X1.c3
      have q4 := X1.c4
      have q5 := X1.c5
      have f0 := X1.fr 0
      have f1 := X1.fr 1
      have f2 := X1.fr 2
      have f3 := X1.fr 3
      have f4 := X1.fr 4
      have f5 := X1.fr 5
      have ql := X1.lt
      obtain ⟨v1, hv1⟩ : ∃ W, sto6 v0 S1 (.int .i64 mark) (.int .i64 llo) (.int .i64 lhi) (.int .i64 clo) (.int .i64 chi) (.slice ra rs.length rc) = W := ⟨_, rfl⟩
      have kv1 : Keeps wr v1 := by rw [← hv1]; exact kv0.sto6 hH1 _ _ _ _ _ _
      replace X0 := X0.away (show S1 ≠ S0 by omega) (.int .i64 mark) (.int .i64 llo) (.int .i64 lhi) (.int .i64 clo) (.int .i64 chi) (.slice ra rs.length rc)
      rw [hv1] at X0
      replace X1 : Six v1 S1 (.int .i64 mark) (.int .i64 llo) (.int .i64 lhi) (.int .i64 clo) (.int .i64 chi) (.slice ra rs.length rc) := by rw [← hv1]; exact X1.stored _ _ _ _ _ _
      replace X2 := X2.away (show S1 ≠ S2 by omega) (.int .i64 mark) (.int .i64 llo) (.int .i64 lhi) (.int .i64 clo) (.int .i64 chi) (.slice ra rs.length rc)
      rw [hv1] at X2
      gi_wp2_with fail
      clear hv1 q0 q1 q2 q3 q4 q5 f0 f1 f2 f3 f4 f5 ql
      refine cix_last (m := 0) 8 _ rfl rfl (by kernel_rfl) (by kernel_rfl) (by kernel_rfl) ?_
      show wpListIn _ _ _ _ _ [_] _ _
      have q0 := X2.c0
      have q1 := X2.c1
      have q2 := X2.c2
      have q3 := X2.c3
      have q4 := X2.c4
      have q5 := X2.c5
      have f0 := X2.fr 0
      have f1 := X2.fr 1
      have f2 := X2.fr 2
      have f3 := X2.fr 3
      have f4 := X2.fr 4
      have f5 := X2.fr 5
      have ql := X2.lt
      obtain ⟨v2, hv2⟩ : ∃ W, sto6 v1 S2 (.int .i64 mark) (.int .i64 llo) (.int .i64 lhi) (.int .i64 clo) (.int .i64 chi) (.slice ra rs.length rc) = W := ⟨_, rfl⟩
      have kv2 : Keeps wr v2 := by rw [← hv2]; exact kv1.sto6 hH2 _ _ _ _ _ _
      replace X0 := X0.away (show S2 ≠ S0 by omega) (.int .i64 mark) (.int .i64 llo) (.int .i64 lhi) (.int .i64 clo) (.int .i64 chi) (.slice ra rs.length rc)
      rw [hv2] at X0
      replace X1 := X1.away (show S2 ≠ S1 by omega) (.int .i64 mark) (.int .i64 llo) (.int .i64 lhi) (.int .i64 clo) (.int .i64 chi) (.slice ra rs.length rc)
      rw [hv2] at X1
      replace X2 : Six v2 S2 (.int .i64 mark) (.int .i64 llo) (.int .i64 lhi) (.int .i64 clo) (.int .i64 chi) (.slice ra rs.length rc) := by rw [← hv2]; exact X2.stored _ _ _ _ _ _
      gi_wp2_with fail
      first
        | exact hQ.out _ _ _ _ _ _ _ (by first | exact kv2 | (rw [hv2]; exact kv2)) (by first | exact X0 | (rw [hv2]; exact X0)) (by first | exact X1 | (rw [hv2]; exact X1)) (by first | exact X2 | (rw [hv2]; exact X2)) hH0 hH1 hH2 (by omega) (by omega) (by omega)
        | exact ⟨rfl, hQ.out _ _ _ _ _ _ _ kv2 X0 X1 X2 hH0 hH1 hH2 (by omega) (by omega) (by omega)⟩
        | trace_state
  · show wpListIn _ _ _ _ _ [_] _ _
    obtain ⟨u1, hu1⟩ : ∃ W, wr.drew.alloc (.cells #[.int .i64 0, .int .i64 0, .int .i64 0, .int .i64 0, .int .i64 0, .slice none 0 0] 26) = W := ⟨_, rfl⟩
    have ku1 : Keeps wr u1 := by rw [← hu1]; exact kd.alloc _
    have lu1 : Keeps wr.drew u1 := by rw [← hu1]; exact (Keeps.refl _).alloc _
    obtain ⟨S1, hS1⟩ : ∃ s, wr.drew.heap.size = s := ⟨_, rfl⟩
    have hH1 : wr.heap.size ≤ S1 := by rw [← hS1]; exact kd.size
    have X1 : Six u1 S1 (.int .i64 0) (.int .i64 0) (.int .i64 0) (.int .i64 0) (.int .i64 0) (.slice none 0 0) := by rw [← hu1, ← hS1]; exact Six.boxed _ _ _ _ _ _ _ _
    gi_wp2_with fail
    clear hu1 hS1 lu1
    refine cix_two (m := 4) 3 _ 5 _ rfl rfl rfl (by kernel_rfl) ?_ ?_
    · show wpListIn _ _ _ _ _ [_] _ _
      obtain ⟨u0, hu0⟩ : ∃ W, u1.alloc (.cells #[.int .i64 0, .int .i64 0, .int .i64 0, .int .i64 0, .int .i64 0, .slice none 0 0] 26) = W := ⟨_, rfl⟩
      have ku0 : Keeps wr u0 := by rw [← hu0]; exact ku1.alloc _
      have lu0 : Keeps u1 u0 := by rw [← hu0]; exact (Keeps.refl _).alloc _
      obtain ⟨S0, hS0⟩ : ∃ s, u1.heap.size = s := ⟨_, rfl⟩
      have hH0 : wr.heap.size ≤ S0 := by rw [← hS0]; exact ku1.size
      have X0 : Six u0 S0 (.int .i64 0) (.int .i64 0) (.int .i64 0) (.int .i64 0) (.int .i64 0) (.slice none 0 0) := by rw [← hu0, ← hS0]; exact Six.boxed _ _ _ _ _ _ _ _
      have n10 : S1 < S0 := by rw [← hS0]; exact X1.lt
      replace X1 := X1.keep lu0
      gi_wp2_with fail
      clear hu0 hS0 lu0
      refine cix_one (m := 3) 5 _ rfl rfl (by kernel_rfl) ?_
      show wpListIn _ _ _ _ _ [_] _ _
      obtain ⟨u2, hu2⟩ : ∃ W, u0.alloc (.cells #[.int .i64 0, .int .i64 0, .int .i64 0, .int .i64 0, .int .i64 0, .slice none 0 0] 26) = W := ⟨_, rfl⟩
      have ku2 : Keeps wr u2 := by rw [← hu2]; exact ku0.alloc _
      have lu2 : Keeps u0 u2 := by rw [← hu2]; exact (Keeps.refl _).alloc _
      obtain ⟨S2, hS2⟩ : ∃ s, u0.heap.size = s := ⟨_, rfl⟩
      have hH2 : wr.heap.size ≤ S2 := by rw [← hS2]; exact ku0.size
      have X2 : Six u2 S2 (.int .i64 0) (.int .i64 0) (.int .i64 0) (.int .i64 0) (.int .i64 0) (.slice none 0 0) := by rw [← hu2, ← hS2]; exact Six.boxed _ _ _ _ _ _ _ _
      have n12 : S1 < S2 := by rw [← hS2]; exact X1.lt
      replace X1 := X1.keep lu2
      have n02 : S0 < S2 := by rw [← hS2]; exact X0.lt
      replace X0 := X0.keep lu2
      gi_wp2_with fail
      clear hu2 hS2 lu2
      refine cix_one (m := 2) 6 _ rfl rfl (by kernel_rfl) ?_
      show wpListIn _ _ _ _ _ [_] _ _
      have q0 := X0.c0
      have q1 := X0.c1
      have q2 := X0.c2
      have q3 := X0.c3
      have q4 := X0.c4
      have q5 := X0.c5
      have f0 := X0.fr 0
      have f1 := X0.fr 1
      have f2 := X0.fr 2
      have f3 := X0.fr 3
      have f4 := X0.fr 4
      have f5 := X0.fr 5
      have ql := X0.lt
      obtain ⟨v0, hv0⟩ : ∃ W, sto6 u2 S0 (.int .i64 mark) (.int .i64 llo) (.int .i64 lhi) (.int .i64 clo) (.int .i64 chi) (.slice ra rs.length rc) = W := ⟨_, rfl⟩
      have kv0 : Keeps wr v0 := by rw [← hv0]; exact ku2.sto6 hH0 _ _ _ _ _ _
      replace X0 : Six v0 S0 (.int .i64 mark) (.int .i64 llo) (.int .i64 lhi) (.int .i64 clo) (.int .i64 chi) (.slice ra rs.length rc) := by rw [← hv0]; exact X0.stored _ _ _ _ _ _
      replace X1 := X1.away (show S0 ≠ S1 by omega) (.int .i64 mark) (.int .i64 llo) (.int .i64 lhi) (.int .i64 clo) (.int .i64 chi) (.slice ra rs.length rc)
      rw [hv0] at X1
      replace X2 := X2.away (show S0 ≠ S2 by omega) (.int .i64 mark) (.int .i64 llo) (.int .i64 lhi) (.int .i64 clo) (.int .i64 chi) (.slice ra rs.length rc)
      rw [hv0] at X2
      gi_wp2_with fail
      clear hv0 q0 q1 q2 q3 q4 q5 f0 f1 f2 f3 f4 f5 ql
      refine cix_one (m := 1) 7 _ rfl rfl (by kernel_rfl) ?_
      show wpListIn _ _ _ _ _ [_] _ _
      have q0 := X1.c0
      have q1 := X1.c1
      have q2 := X1.c2
      have q3 := X1.c3
      have q4 := X1.c4
      have q5 := X1.c5
      have f0 := X1.fr 0
      have f1 := X1.fr 1
      have f2 := X1.fr 2
      have f3 := X1.fr 3
      have f4 := X1.fr 4
      have f5 := X1.fr 5
      have ql := X1.lt
      obtain ⟨v1, hv1⟩ : ∃ W, sto6 v0 S1 (.int .i64 mark) (.int .i64 llo) (.int .i64 lhi) (.int .i64 clo) (.int .i64 chi) (.slice ra rs.length rc) = W := ⟨_, rfl⟩
      have kv1 : Keeps wr v1 := by rw [← hv1]; exact kv0.sto6 hH1 _ _ _ _ _ _
      replace X0 := X0.away (show S1 ≠ S0 by omega) (.int .i64 mark) (.int .i64 llo) (.int .i64 lhi) (.int .i64 clo) (.int .i64 chi) (.slice ra rs.length rc)
      rw [hv1] at X0
      replace X1 : Six v1 S1 (.int .i64 mark) (.int .i64 llo) (.int .i64 lhi) (.int .i64 clo) (.int .i64 chi) (.slice ra rs.length rc) := by rw [← hv1]; exact X1.stored _ _ _ _ _ _
      replace X2 := X2.away (show S1 ≠ S2 by omega) (.int .i64 mark) (.int .i64 llo) (.int .i64 lhi) (.int .i64 clo) (.int .i64 chi) (.slice ra rs.length rc)
      rw [hv1] at X2
      gi_wp2_with fail
      clear hv1 q0 q1 q2 q3 q4 q5 f0 f1 f2 f3 f4 f5 ql
      refine cix_last (m := 0) 8 _ rfl rfl (by kernel_rfl) (by kernel_rfl) (by kernel_rfl) ?_
      show wpListIn _ _ _ _ _ [_] _ _
      have q0 := X2.c0
      have q1 := X2.c1
      have q2 := X2.c2
      have q3 := X2.c3
      have q4 := X2.c4
      have q5 := X2.c5
      have f0 := X2.fr 0
      have f1 := X2.fr 1
      have f2 := X2.fr 2
      have f3 := X2.fr 3
      have f4 := X2.fr 4
      have f5 := X2.fr 5
      have ql := X2.lt
      obtain ⟨v2, hv2⟩ : ∃ W, sto6 v1 S2 (.int .i64 mark) (.int .i64 llo) (.int .i64 lhi) (.int .i64 clo) (.int .i64 chi) (.slice ra rs.length rc) = W := ⟨_, rfl⟩
      have kv2 : Keeps wr v2 := by rw [← hv2]; exact kv1.sto6 hH2 _ _ _ _ _ _
      replace X0 := X0.away (show S2 ≠ S0 by omega) (.int .i64 mark) (.int .i64 llo) (.int .i64 lhi) (.int .i64 clo) (.int .i64 chi) (.slice ra rs.length rc)
      rw [hv2] at X0
      replace X1 := X1.away (show S2 ≠ S1 by omega) (.int .i64 mark) (.int .i64 llo) (.int .i64 lhi) (.int .i64 clo) (.int .i64 chi) (.slice ra rs.length rc)
      rw [hv2] at X1
      replace X2 : Six v2 S2 (.int .i64 mark) (.int .i64 llo) (.int .i64 lhi) (.int .i64 clo) (.int .i64 chi) (.slice ra rs.length rc) := by rw [← hv2]; exact X2.stored _ _ _ _ _ _
      gi_wp2_with fail
      first
        | exact hQ.out _ _ _ _ _ _ _ (by first | exact kv2 | (rw [hv2]; exact kv2)) (by first | exact X0 | (rw [hv2]; exact X0)) (by first | exact X1 | (rw [hv2]; exact X1)) (by first | exact X2 | (rw [hv2]; exact X2)) hH0 hH1 hH2 (by omega) (by omega) (by omega)
        | exact ⟨rfl, hQ.out _ _ _ _ _ _ _ kv2 X0 X1 X2 hH0 hH1 hH2 (by omega) (by omega) (by omega)⟩
        | trace_state
    · show wpListIn _ _ _ _ _ [_] _ _
      obtain ⟨u2, hu2⟩ : ∃ W, u1.alloc (.cells #[.int .i64 0, .int .i64 0, .int .i64 0, .int .i64 0, .int .i64 0, .slice none 0 0] 26) = W := ⟨_, rfl⟩
      have ku2 : Keeps wr u2 := by rw [← hu2]; exact ku1.alloc _
      have lu2 : Keeps u1 u2 := by rw [← hu2]; exact (Keeps.refl _).alloc _
      obtain ⟨S2, hS2⟩ : ∃ s, u1.heap.size = s := ⟨_, rfl⟩
      have hH2 : wr.heap.size ≤ S2 := by rw [← hS2]; exact ku1.size
      have X2 : Six u2 S2 (.int .i64 0) (.int .i64 0) (.int .i64 0) (.int .i64 0) (.int .i64 0) (.slice none 0 0) := by rw [← hu2, ← hS2]; exact Six.boxed _ _ _ _ _ _ _ _
      have n12 : S1 < S2 := by rw [← hS2]; exact X1.lt
      replace X1 := X1.keep lu2
      gi_wp2_with fail
      clear hu2 hS2 lu2
      refine cix_one (m := 3) 3 _ rfl rfl (by kernel_rfl) ?_
      show wpListIn _ _ _ _ _ [_] _ _
      obtain ⟨u0, hu0⟩ : ∃ W, u2.alloc (.cells #[.int .i64 0, .int .i64 0, .int .i64 0, .int .i64 0, .int .i64 0, .slice none 0 0] 26) = W := ⟨_, rfl⟩
      have ku0 : Keeps wr u0 := by rw [← hu0]; exact ku2.alloc _
      have lu0 : Keeps u2 u0 := by rw [← hu0]; exact (Keeps.refl _).alloc _
      obtain ⟨S0, hS0⟩ : ∃ s, u2.heap.size = s := ⟨_, rfl⟩
      have hH0 : wr.heap.size ≤ S0 := by rw [← hS0]; exact ku2.size
      have X0 : Six u0 S0 (.int .i64 0) (.int .i64 0) (.int .i64 0) (.int .i64 0) (.int .i64 0) (.slice none 0 0) := by rw [← hu0, ← hS0]; exact Six.boxed _ _ _ _ _ _ _ _
      have n10 : S1 < S0 := by rw [← hS0]; exact X1.lt
      replace X1 := X1.keep lu0
      have n20 : S2 < S0 := by rw [← hS0]; exact X2.lt
      replace X2 := X2.keep lu0
      gi_wp2_with fail
      clear hu0 hS0 lu0
      refine cix_one (m := 2) 6 _ rfl rfl (by kernel_rfl) ?_
      show wpListIn _ _ _ _ _ [_] _ _
      have q0 := X0.c0
      have q1 := X0.c1
      have q2 := X0.c2
      have q3 := X0.c3
      have q4 := X0.c4
      have q5 := X0.c5
      have f0 := X0.fr 0
      have f1 := X0.fr 1
      have f2 := X0.fr 2
      have f3 := X0.fr 3
      have f4 := X0.fr 4
      have f5 := X0.fr 5
      have ql := X0.lt
      obtain ⟨v0, hv0⟩ : ∃ W, sto6 u0 S0 (.int .i64 mark) (.int .i64 llo) (.int .i64 lhi) (.int .i64 clo) (.int .i64 chi) (.slice ra rs.length rc) = W := ⟨_, rfl⟩
      have kv0 : Keeps wr v0 := by rw [← hv0]; exact ku0.sto6 hH0 _ _ _ _ _ _
      replace X0 : Six v0 S0 (.int .i64 mark) (.int .i64 llo) (.int .i64 lhi) (.int .i64 clo) (.int .i64 chi) (.slice ra rs.length rc) := by rw [← hv0]; exact X0.stored _ _ _ _ _ _
      replace X1 := X1.away (show S0 ≠ S1 by omega) (.int .i64 mark) (.int .i64 llo) (.int .i64 lhi) (.int .i64 clo) (.int .i64 chi) (.slice ra rs.length rc)
      rw [hv0] at X1
      replace X2 := X2.away (show S0 ≠ S2 by omega) (.int .i64 mark) (.int .i64 llo) (.int .i64 lhi) (.int .i64 clo) (.int .i64 chi) (.slice ra rs.length rc)
      rw [hv0] at X2
      gi_wp2_with fail
      clear hv0 q0 q1 q2 q3 q4 q5 f0 f1 f2 f3 f4 f5 ql
      refine cix_one (m := 1) 7 _ rfl rfl (by kernel_rfl) ?_
      show wpListIn _ _ _ _ _ [_] _ _
      have q0 := X1.c0
      have q1 := X1.c1
      have q2 := X1.c2
      have q3 := X1.c3
      have q4 := X1.c4
      have q5 := X1.c5
      have f0 := X1.fr 0
      have f1 := X1.fr 1
      have f2 := X1.fr 2
      have f3 := X1.fr 3
      have f4 := X1.fr 4
      have f5 := X1.fr 5
      have ql := X1.lt
      obtain ⟨v1, hv1⟩ : ∃ W, sto6 v0 S1 (.int .i64 mark) (.int .i64 llo) (.int .i64 lhi) (.int .i64 clo) (.int .i64 chi) (.slice ra rs.length rc) = W := ⟨_, rfl⟩
      have kv1 : Keeps wr v1 := by rw [← hv1]; exact kv0.sto6 hH1 _ _ _ _ _ _
      replace X0 := X0.away (show S1 ≠ S0 by omega) (.int .i64 mark) (.int .i64 llo) (.int .i64 lhi) (.int .i64 clo) (.int .i64 chi) (.slice ra rs.length rc)
      rw [hv1] at X0
      replace X1 : Six v1 S1 (.int .i64 mark) (.int .i64 llo) (.int .i64 lhi) (.int .i64 clo) (.int .i64 chi) (.slice ra rs.length rc) := by rw [← hv1]; exact X1.stored _ _ _ _ _ _
      replace X2 := X2.away (show S1 ≠ S2 by omega) (.int .i64 mark) (.int .i64 llo) (.int .i64 lhi) (.int .i64 clo) (.int .i64 chi) (.slice ra rs.length rc)
      rw [hv1] at X2
      gi_wp2_with fail
      clear hv1 q0 q1 q2 q3 q4 q5 f0 f1 f2 f3 f4 f5 ql
      refine cix_last (m := 0) 8 _ rfl rfl (by kernel_rfl) (by kernel_rfl) (by kernel_rfl) ?_
      show wpListIn _ _ _ _ _ [_] _ _
      have q0 := X2.c0
      have q1 := X2.c1
      have q2 := X2.c2
      have q3 := X2.c3
      have q4 := X2.c4
      have q5 := X2.c5
      have f0 := X2.fr 0
      have f1 := X2.fr 1
      have f2 := X2.fr 2
      have f3 := X2.fr 3
      have f4 := X2.fr 4
      have f5 := X2.fr 5
      have ql := X2.lt
      obtain ⟨v2, hv2⟩ : ∃ W, sto6 v1 S2 (.int .i64 mark) (.int .i64 llo) (.int .i64 lhi) (.int .i64 clo) (.int .i64 chi) (.slice ra rs.length rc) = W := ⟨_, rfl⟩
      have kv2 : Keeps wr v2 := by rw [← hv2]; exact kv1.sto6 hH2 _ _ _ _ _ _
      replace X0 := X0.away (show S2 ≠ S0 by omega) (.int .i64 mark) (.int .i64 llo) (.int .i64 lhi) (.int .i64 clo) (.int .i64 chi) (.slice ra rs.length rc)
      rw [hv2] at X0
      replace X1 := X1.away (show S2 ≠ S1 by omega) (.int .i64 mark) (.int .i64 llo) (.int .i64 lhi) (.int .i64 clo) (.int .i64 chi) (.slice ra rs.length rc)
      rw [hv2] at X1
      replace X2 : Six v2 S2 (.int .i64 mark) (.int .i64 llo) (.int .i64 lhi) (.int .i64 clo) (.int .i64 chi) (.slice ra rs.length rc) := by rw [← hv2]; exact X2.stored _ _ _ _ _ _
      gi_wp2_with fail
      first
        | exact hQ.out _ _ _ _ _ _ _ (by first | exact kv2 | (rw [hv2]; exact kv2)) (by first | exact X0 | (rw [hv2]; exact X0)) (by first | exact X1 | (rw [hv2]; exact X1)) (by first | exact X2 | (rw [hv2]; exact X2)) hH0 hH1 hH2 (by omega) (by omega) (by omega)
        | exact ⟨rfl, hQ.out _ _ _ _ _ _ _ kv2 X0 X1 X2 hH0 hH1 hH2 (by omega) (by omega) (by omega)⟩
        | trace_state
  · show wpListIn _ _ _ _ _ [_] _ _
    obtain ⟨u2, hu2⟩ : ∃ W, wr.drew.alloc (.cells #[.int .i64 0, .int .i64 0, .int .i64 0, .int .i64 0, .int .i64 0, .slice none 0 0] 26) = W := ⟨_, rfl⟩
    have ku2 : Keeps wr u2 := by rw [← hu2]; exact kd.alloc _
    have lu2 : Keeps wr.drew u2 := by rw [← hu2]; exact (Keeps.refl _).alloc _
    obtain ⟨S2, hS2⟩ : ∃ s, wr.drew.heap.size = s := ⟨_, rfl⟩
    have hH2 : wr.heap.size ≤ S2 := by rw [← hS2]; exact kd.size
    have X2 : Six u2 S2 (.int .i64 0) (.int .i64 0) (.int .i64 0) (.int .i64 0) (.int .i64 0) (.slice none 0 0) := by rw [← hu2, ← hS2]; exact Six.boxed _ _ _ _ _ _ _ _
    gi_wp2_with fail
    clear hu2 hS2 lu2
    refine cix_two (m := 4) 3 _ 4 _ rfl rfl rfl (by kernel_rfl) ?_ ?_
    · show wpListIn _ _ _ _ _ [_] _ _
      obtain ⟨u0, hu0⟩ : ∃ W, u2.alloc (.cells #[.int .i64 0, .int .i64 0, .int .i64 0, .int .i64 0, .int .i64 0, .slice none 0 0] 26) = W := ⟨_, rfl⟩
      have ku0 : Keeps wr u0 := by rw [← hu0]; exact ku2.alloc _
      have lu0 : Keeps u2 u0 := by rw [← hu0]; exact (Keeps.refl _).alloc _
      obtain ⟨S0, hS0⟩ : ∃ s, u2.heap.size = s := ⟨_, rfl⟩
      have hH0 : wr.heap.size ≤ S0 := by rw [← hS0]; exact ku2.size
      have X0 : Six u0 S0 (.int .i64 0) (.int .i64 0) (.int .i64 0) (.int .i64 0) (.int .i64 0) (.slice none 0 0) := by rw [← hu0, ← hS0]; exact Six.boxed _ _ _ _ _ _ _ _
      have n20 : S2 < S0 := by rw [← hS0]; exact X2.lt
      replace X2 := X2.keep lu0
      gi_wp2_with fail
      clear hu0 hS0 lu0
      refine cix_one (m := 3) 4 _ rfl rfl (by kernel_rfl) ?_
      show wpListIn _ _ _ _ _ [_] _ _
      obtain ⟨u1, hu1⟩ : ∃ W, u0.alloc (.cells #[.int .i64 0, .int .i64 0, .int .i64 0, .int .i64 0, .int .i64 0, .slice none 0 0] 26) = W := ⟨_, rfl⟩
      have ku1 : Keeps wr u1 := by rw [← hu1]; exact ku0.alloc _
      have lu1 : Keeps u0 u1 := by rw [← hu1]; exact (Keeps.refl _).alloc _
      obtain ⟨S1, hS1⟩ : ∃ s, u0.heap.size = s := ⟨_, rfl⟩
      have hH1 : wr.heap.size ≤ S1 := by rw [← hS1]; exact ku0.size
      have X1 : Six u1 S1 (.int .i64 0) (.int .i64 0) (.int .i64 0) (.int .i64 0) (.int .i64 0) (.slice none 0 0) := by rw [← hu1, ← hS1]; exact Six.boxed _ _ _ _ _ _ _ _
      have n21 : S2 < S1 := by rw [← hS1]; exact X2.lt
      replace X2 := X2.keep lu1
      have n01 : S0 < S1 := by rw [← hS1]; exact X0.lt
      replace X0 := X0.keep lu1
      gi_wp2_with fail
      clear hu1 hS1 lu1
      refine cix_one (m := 2) 6 _ rfl rfl (by kernel_rfl) ?_
      show wpListIn _ _ _ _ _ [_] _ _
      have q0 := X0.c0
      have q1 := X0.c1
      have q2 := X0.c2
      have q3 := X0.c3
      have q4 := X0.c4
      have q5 := X0.c5
      have f0 := X0.fr 0
      have f1 := X0.fr 1
      have f2 := X0.fr 2
      have f3 := X0.fr 3
      have f4 := X0.fr 4
      have f5 := X0.fr 5
      have ql := X0.lt
      obtain ⟨v0, hv0⟩ : ∃ W, sto6 u1 S0 (.int .i64 mark) (.int .i64 llo) (.int .i64 lhi) (.int .i64 clo) (.int .i64 chi) (.slice ra rs.length rc) = W := ⟨_, rfl⟩
      have kv0 : Keeps wr v0 := by rw [← hv0]; exact ku1.sto6 hH0 _ _ _ _ _ _
      replace X0 : Six v0 S0 (.int .i64 mark) (.int .i64 llo) (.int .i64 lhi) (.int .i64 clo) (.int .i64 chi) (.slice ra rs.length rc) := by rw [← hv0]; exact X0.stored _ _ _ _ _ _
      replace X1 := X1.away (show S0 ≠ S1 by omega) (.int .i64 mark) (.int .i64 llo) (.int .i64 lhi) (.int .i64 clo) (.int .i64 chi) (.slice ra rs.length rc)
      rw [hv0] at X1
      replace X2 := X2.away (show S0 ≠ S2 by omega) (.int .i64 mark) (.int .i64 llo) (.int .i64 lhi) (.int .i64 clo) (.int .i64 chi) (.slice ra rs.length rc)
      rw [hv0] at X2
      gi_wp2_with fail
      clear hv0 q0 q1 q2 q3 q4 q5 f0 f1 f2 f3 f4 f5 ql
      refine cix_one (m := 1) 7 _ rfl rfl (by kernel_rfl) ?_
      show wpListIn _ _ _ _ _ [_] _ _
      have q0 := X1.c0
      have q1 := X1.c1
      have q2 := X1.c2
      have q3 := X1.c3
      have q4 := X1.c4
      have q5 := X1.c5
      have f0 := X1.fr 0
      have f1 := X1.fr 1
      have f2 := X1.fr 2
      have f3 := X1.fr 3
      have f4 := X1.fr 4
      have f5 := X1.fr 5
      have ql := X1.lt
      obtain ⟨v1, hv1⟩ : ∃ W, sto6 v0 S1 (.int .i64 mark) (.int .i64 llo) (.int .i64 lhi) (.int .i64 clo) (.int .i64 chi) (.slice ra rs.length rc) = W := ⟨_, rfl⟩
      have kv1 : Keeps wr v1 := by rw [← hv1]; exact kv0.sto6 hH1 _ _ _ _ _ _
      replace X0 := X0.away (show S1 ≠ S0 by omega) (.int .i64 mark) (.int .i64 llo) (.int .i64 lhi) (.int .i64 clo) (.int .i64 chi) (.slice ra rs.length rc)
      rw [hv1] at X0
      replace X1 : Six v1 S1 (.int .i64 mark) (.int .i64 llo) (.int .i64 lhi) (.int .i64 clo) (.int .i64 chi) (.slice ra rs.length rc) := by rw [← hv1]; exact X1.stored _ _ _ _ _ _
      replace X2 := X2.away (show S1 ≠ S2 by omega) (.int .i64 mark) (.int .i64 llo) (.int .i64 lhi) (.int .i64 clo) (.int .i64 chi) (.slice ra rs.length rc)
      rw [hv1] at X2
      gi_wp2_with fail
      clear hv1 q0 q1 q2 q3 q4 q5 f0 f1 f2 f3 f4 f5 ql
      refine cix_last (m := 0) 8 _ rfl rfl (by kernel_rfl) (by kernel_rfl) (by kernel_rfl) ?_
      show wpListIn _ _ _ _ _ [_] _ _
      have q0 := X2.c0
      have q1 := X2.c1
      have q2 := X2.c2
      have q3 := X2.c3
      have q4 := X2.c4
      have q5 := X2.c5
      have f0 := X2.fr 0
      have f1 := X2.fr 1
      have f2 := X2.fr 2
      have f3 := X2.fr 3
      have f4 := X2.fr 4
      have f5 := X2.fr 5
      have ql := X2.lt
      obtain ⟨v2, hv2⟩ : ∃ W, sto6 v1 S2 (.int .i64 mark) (.int .i64 llo) (.int .i64 lhi) (.int .i64 clo) (.int .i64 chi) (.slice ra rs.length rc) = W := ⟨_, rfl⟩
      have kv2 : Keeps wr v2 := by rw [← hv2]; exact kv1.sto6 hH2 _ _ _ _ _ _
      replace X0 := X0.away (show S2 ≠ S0 by omega) (.int .i64 mark) (.int .i64 llo) (.int .i64 lhi) (.int .i64 clo) (.int .i64 chi) (.slice ra rs.length rc)
      rw [hv2] at X0
      replace X1 := X1.away (show S2 ≠ S1 by omega) (.int .i64 mark) (.int .i64 llo) (.int .i64 lhi) (.int .i64 clo) (.int .i64 chi) (.slice ra rs.length rc)
      rw [hv2] at X1
      replace X2 : Six v2 S2 (.int .i64 mark) (.int .i64 llo) (.int .i64 lhi) (.int .i64 clo) (.int .i64 chi) (.slice ra rs.length rc) := by rw [← hv2]; exact X2.stored _ _ _ _ _ _
      gi_wp2_with fail
      first
        | exact hQ.out _ _ _ _ _ _ _ (by first | exact kv2 | (rw [hv2]; exact kv2)) (by first | exact X0 | (rw [hv2]; exact X0)) (by first | exact X1 | (rw [hv2]; exact X1)) (by first | exact X2 | (rw [hv2]; exact X2)) hH0 hH1 hH2 (by omega) (by omega) (by omega)
        | exact ⟨rfl, hQ.out _ _ _ _ _ _ _ kv2 X0 X1 X2 hH0 hH1 hH2 (by omega) (by omega) (by omega)⟩
        | trace_state
    · show wpListIn _ _ _ _ _ [_] _ _
      obtain ⟨u1, hu1⟩ : ∃ W, u2.alloc (.cells #[.int .i64 0, .int .i64 0, .int .i64 0, .int .i64 0, .int .i64 0, .slice none 0 0] 26) = W := ⟨_, rfl⟩
      have ku1 : Keeps wr u1 := by rw [← hu1]; exact ku2.alloc _
      have lu1 : Keeps u2 u1 := by rw [← hu1]; exact (Keeps.refl _).alloc _
      obtain ⟨S1, hS1⟩ : ∃ s, u2.heap.size = s := ⟨_, rfl⟩
      have hH1 : wr.heap.size ≤ S1 := by rw [← hS1]; exact ku2.size
      have X1 : Six u1 S1 (.int .i64 0) (.int .i64 0) (.int .i64 0) (.int .i64 0) (.int .i64 0) (.slice none 0 0) := by rw [← hu1, ← hS1]; exact Six.boxed _ _ _ _ _ _ _ _
      have n21 : S2 < S1 := by rw [← hS1]; exact X2.lt
      replace X2 := X2.keep lu1
      gi_wp2_with fail
      clear hu1 hS1 lu1
      refine cix_one (m := 3) 3 _ rfl rfl (by kernel_rfl) ?_
      show wpListIn _ _ _ _ _ [_] _ _
      obtain ⟨u0, hu0⟩ : ∃ W, u1.alloc (.cells #[.int .i64 0, .int .i64 0, .int .i64 0, .int .i64 0, .int .i64 0, .slice none 0 0] 26) = W := ⟨_, rfl⟩
      have ku0 : Keeps wr u0 := by rw [← hu0]; exact ku1.alloc _
      have lu0 : Keeps u1 u0 := by rw [← hu0]; exact (Keeps.refl _).alloc _
      obtain ⟨S0, hS0⟩ : ∃ s, u1.heap.size = s := ⟨_, rfl⟩
      have hH0 : wr.heap.size ≤ S0 := by rw [← hS0]; exact ku1.size
      have X0 : Six u0 S0 (.int .i64 0) (.int .i64 0) (.int .i64 0) (.int .i64 0) (.int .i64 0) (.slice none 0 0) := by rw [← hu0, ← hS0]; exact Six.boxed _ _ _ _ _ _ _ _
      have n20 : S2 < S0 := by rw [← hS0]; exact X2.lt
      replace X2 := X2.keep lu0
      have n10 : S1 < S0 := by rw [← hS0]; exact X1.lt
      replace X1 := X1.keep lu0
      gi_wp2_with fail
      clear hu0 hS0 lu0
      refine cix_one (m := 2) 6 _ rfl rfl (by kernel_rfl) ?_
      show wpListIn _ _ _ _ _ [_] _ _
      have q0 := X0.c0
      have q1 := X0.c1
      have q2 := X0.c2
      have q3 := X0.c3
      have q4 := X0.c4
      have q5 := X0.c5
      have f0 := X0.fr 0
      have f1 := X0.fr 1
      have f2 := X0.fr 2
      have f3 := X0.fr 3
      have f4 := X0.fr 4
      have f5 := X0.fr 5
      have ql := X0.lt
      obtain ⟨v0, hv0⟩ : ∃ W, sto6 u0 S0 (.int .i64 mark) (.int .i64 llo) (.int .i64 lhi) (.int .i64 clo) (.int .i64 chi) (.slice ra rs.length rc) = W := ⟨_, rfl⟩
      have kv0 : Keeps wr v0 := by rw [← hv0]; exact ku0.sto6 hH0 _ _ _ _ _ _
      replace X0 : Six v0 S0 (.int .i64 mark) (.int .i64 llo) (.int .i64 lhi) (.int .i64 clo) (.int .i64 chi) (.slice ra rs.length rc) := by rw [← hv0]; exact X0.stored _ _ _ _ _ _
      replace X1 := X1.away (show S0 ≠ S1 by omega) (.int .i64 mark) (.int .i64 llo) (.int .i64 lhi) (.int .i64 clo) (.int .i64 chi) (.slice ra rs.length rc)
      rw [hv0] at X1
      replace X2 := X2.away (show S0 ≠ S2 by omega) (.int .i64 mark) (.int .i64 llo) (.int .i64 lhi) (.int .i64 clo) (.int .i64 chi) (.slice ra rs.length rc)
      rw [hv0] at X2
      gi_wp2_with fail
      clear hv0 q0 q1 q2 q3 q4 q5 f0 f1 f2 f3 f4 f5 ql
      refine cix_one (m := 1) 7 _ rfl rfl (by kernel_rfl) ?_
      show wpListIn _ _ _ _ _ [_] _ _
      have q0 := X1.c0
      have q1 := X1.c1
      have q2 := X1.c2
      have q3 := X1.c3
      have q4 := X1.c4
      have q5 := X1.c5
      have f0 := X1.fr 0
      have f1 := X1.fr 1
      have f2 := X1.fr 2
      have f3 := X1.fr 3
      have f4 := X1.fr 4
      have f5 := X1.fr 5
      have ql := X1.lt
      obtain ⟨v1, hv1⟩ : ∃ W, sto6 v0 S1 (.int .i64 mark) (.int .i64 llo) (.int .i64 lhi) (.int .i64 clo) (.int .i64 chi) (.slice ra rs.length rc) = W := ⟨_, rfl⟩
      have kv1 : Keeps wr v1 := by rw [← hv1]; exact kv0.sto6 hH1 _ _ _ _ _ _
      replace X0 := X0.away (show S1 ≠ S0 by omega) (.int .i64 mark) (.int .i64 llo) (.int .i64 lhi) (.int .i64 clo) (.int .i64 chi) (.slice ra rs.length rc)
      rw [hv1] at X0
      replace X1 : Six v1 S1 (.int .i64 mark) (.int .i64 llo) (.int .i64 lhi) (.int .i64 clo) (.int .i64 chi) (.slice ra rs.length rc) := by rw [← hv1]; exact X1.stored _ _ _ _ _ _
      replace X2 := X2.away (show S1 ≠ S2 by omega) (.int .i64 mark) (.int .i64 llo) (.int .i64 lhi) (.int .i64 clo) (.int .i64 chi) (.slice ra rs.length rc)
      rw [hv1] at X2
      gi_wp2_with fail
      clear hv1 q0 q1 q2 q3 q4 q5 f0 f1 f2 f3 f4 f5 ql
      refine cix_last (m := 0) 8 _ rfl rfl (by kernel_rfl) (by kernel_rfl) (by kernel_rfl) ?_
      show wpListIn _ _ _ _ _ [_] _ _
      have q0 := X2.c0
      have q1 := X2.c1
      have q2 := X2.c2
      have q3 := X2.c3
      have q4 := X2.c4
      have q5 := X2.c5
      have f0 := X2.fr 0
      have f1 := X2.fr 1
      have f2 := X2.fr 2
      have f3 := X2.fr 3
      have f4 := X2.fr 4
      have f5 := X2.fr 5
      have ql := X2.lt
      obtain ⟨v2, hv2⟩ : ∃ W, sto6 v1 S2 (.int .i64 mark) (.int .i64 llo) (.int .i64 lhi) (.int .i64 clo) (.int .i64 chi) (.slice ra rs.length rc) = W := ⟨_, rfl⟩
      have kv2 : Keeps wr v2 := by rw [← hv2]; exact kv1.sto6 hH2 _ _ _ _ _ _
      replace X0 := X0.away (show S2 ≠ S0 by omega) (.int .i64 mark) (.int .i64 llo) (.int .i64 lhi) (.int .i64 clo) (.int .i64 chi) (.slice ra rs.length rc)
      rw [hv2] at X0
      replace X1 := X1.away (show S2 ≠ S1 by omega) (.int .i64 mark) (.int .i64 llo) (.int .i64 lhi) (.int .i64 clo) (.int .i64 chi) (.slice ra rs.length rc)
      rw [hv2] at X1
      replace X2 : Six v2 S2 (.int .i64 mark) (.int .i64 llo) (.int .i64 lhi) (.int .i64 clo) (.int .i64 chi) (.slice ra rs.length rc) := by rw [← hv2]; exact X2.stored _ _ _ _ _ _
      gi_wp2_with fail
      first
        | exact hQ.out _ _ _ _ _ _ _ (by first | exact kv2 | (rw [hv2]; exact kv2)) (by first | exact X0 | (rw [hv2]; exact X0)) (by first | exact X1 | (rw [hv2]; exact X1)) (by first | exact X2 | (rw [hv2]; exact X2)) hH0 hH1 hH2 (by omega) (by omega) (by omega)
        | exact ⟨rfl, hQ.out _ _ _ _ _ _ _ kv2 X0 X1 X2 hH0 hH1 hH2 (by omega) (by omega) (by omega)⟩
        | trace_state
end Go.Proofs.Ytmhpgjlegajpeaa
