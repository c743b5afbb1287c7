/-
  WarmMore: what is asked of each of the three blocks.
-/
import Derived.Test.YtmhpgjlegajpeaaM4
namespace Go.Proofs.Ytmhpgjlegajpeaa
open Go.RowKit

set_option maxRecDepth 100000 in
set_option maxHeartbeats 40000000 in
theorem more_41 (E dd cn ax ay bx bz cx cy lx ly m ox oy qx qy sd ac : Int) (sa sb sc sl so sq j : Nat) (wr : World)
    (hac : ac ≤ cn) (hm : m = 10 ∨ (m = 0 ∧ E = 0 ∧ (ax ≤ lx ∧ ly ≤ ay) ∧ (bx ≤ ox ∧ oy ≤ bz) ∧ (cx ≤ qx ∧ qy ≤ cy) ∧ dd ≤ sd))
    (ca0 : wr.cell? ⟨sa, 0, none⟩ = some (.int .i64 ax)) (ca1 : wr.cell? ⟨sa, 1, none⟩ = some (.int .i64 ay)) (cb0 : wr.cell? ⟨sb, 0, none⟩ = some (.int .i64 bx)) (cb1 : wr.cell? ⟨sb, 1, none⟩ = some (.int .i64 bz)) (cc0 : wr.cell? ⟨sc, 0, none⟩ = some (.int .i64 cx)) (cc1 : wr.cell? ⟨sc, 1, none⟩ = some (.int .i64 cy))
    (cl0 : wr.cell? ⟨sl, 0, none⟩ = some (.int .i64 lx)) (cl1 : wr.cell? ⟨sl, 1, none⟩ = some (.int .i64 ly)) (co0 : wr.cell? ⟨so, 0, none⟩ = some (.int .i64 ox)) (co1 : wr.cell? ⟨so, 1, none⟩ = some (.int .i64 oy)) (cq0 : wr.cell? ⟨sq, 0, none⟩ = some (.int .i64 qx)) (cq1 : wr.cell? ⟨sq, 1, none⟩ = some (.int .i64 qy))
    (Q : Exit → Act → World → Prop)
    (x0 x1 x2 x3 x4 x5 x6 x7 x8 x9 x10 x11 x12 x13 x14 x15 x16 x17 x18 x19 x20 x21 x26 x28 x30 x32 x34 x45 x46 x47 x48 x49 x50 x51 x52 x53 x54 x55 x56 x57 x58 x59 x60 x61 x62 x63 x64 x65 x66 x67 x68 x69 x70 x71 x72 x73 x74 x75 x76 x77 x78 x79 x80 x81 x82 x83 x84 x85 x86 x87 x88 x89 x90 x91 x92 x93 x94 x95 x96 x97 x98 x99 x100 x101 x102 x103 x104 x105 x106 x107 x108 x109 x110 x111 x112 x113 x114 x115 x116 x117 x118 x119 x120 x121 x122 x123 x124 x125 x126 x127 x128 x129 x130 x131 x132 x133 x134 x135 x136 x137 x138 x139 x140 x141 x142 x143 x144 x145 x146 x147 x148 x149 x150 x151 x152 x153 x154 x155 x156 x157 x158 x159 x160 x161 x162 x163 x164 x165 x166 x167 x168 x169 x170 x171 x172 x173 x174 x175 x176 x177 x178 x179 x180 x181 x182 x183 x184 x185 x186 x187 x188 x189 x190 x191 x192 x193 x194 x195 x196 x197 x198 x199 x200 x201 x202 x203 x204 x205 x206 x207 x208 x209 x210 x211 x212 x213 x214 x215 x216 x217 x218 x219 x220 x221 x222 x223 x224 x225 x226 x227 x228 x229 x230 x231 x232 x233 x234 x235 x236 x237 x238 x239 x240 x241 x242 x243 x244 x245 x246 x247 x248 x249 x250 x251 x252 x253 x254 x255 x256 x257 x258 x259 x260 x261 x262 x263 x264 x265 x266 x267 x268 x269 x270 x271 x272 x273 x274 x275 x276 x277 x278 x279 x280 x281 x282 x283 x284 x285 x286 x287 x288 x289 x290 x291 x292 x293 x294 x295 x296 x297 x298 x299 x300 x301 x302 x303 x304 x305 x306 x307 x308 x309 x310 x311 x312 x313 x314 x315 x316 x317 x318 x319 x320 x321 x322 x323 x324 x325 x326 x327 x328 x329 x330 x331 x332 x333 x334 x335 x336 x337 x338 x339 x340 x341 x342 x343 x344 x345 x346 x347 x348 x349 x350 x351 x352 x353 x354 x355 x356 x357 x358 x359 x360 x361 x362 x363 x364 x365 x366 x367 x368 x369 x370 x371 x372 x373 x374 x375 x376 x377 x378 x379 x380 x381 x382 x383 : Value)
    (hQ : Hid (∀ (w' : World) (_ : Keeps wr w') (y270 y271 y272 y273 y274 y275 y276 y277 y278 y279 y280 y281 y282 y283 y284 y285 y286 y287 y288 y289 y290 y291 y292 y293 y294 y295 y296 y297 y298 y299 y300 y301 y302 y303 y304 y305 y306 y307 y308 y309 y310 y311 y312 y313 y314 y315 y316 y317 y318 y319 y320 y321 y322 y323 y324 y325 y326 y327 y328 y329 y330 y331 y332 : Value), Q .normal { tmps := #[x0, x1, x2, x3, x4, x5, x6, x7, x8, x9, x10, x11, x12, x13, x14, x15, x16, x17, x18, x19, x20, x21, .func (.func 43) #[] #[], .pointer (some ⟨sa, 0, none⟩), .int .i64 E, .pointer (some ⟨sb, 0, none⟩), x26, .pointer (some ⟨sc, 0, none⟩), x28, .int .i64 dd, x30, .int .i64 cn, x32, .int .i64 (j : Int), x34, .pointer (some ⟨sl, 0, none⟩), .int .i64 m, .pointer (some ⟨so, 0, none⟩), .int .i64 m, .pointer (some ⟨sq, 0, none⟩), .int .i64 m, .int .i64 sd, .int .i64 m, .int .i64 ac, .int .i64 0, x45, x46, x47, x48, x49, x50, x51, x52, x53, x54, x55, x56, x57, x58, x59, x60, x61, x62, x63, x64, x65, x66, x67, x68, x69, x70, x71, x72, x73, x74, x75, x76, x77, x78, x79, x80, x81, x82, x83, x84, x85, x86, x87, x88, x89, x90, x91, x92, x93, x94, x95, x96, x97, x98, x99, x100, x101, x102, x103, x104, x105, x106, x107, x108, x109, x110, x111, x112, x113, x114, x115, x116, x117, x118, x119, x120, x121, x122, x123, x124, x125, x126, x127, x128, x129, x130, x131, x132, x133, x134, x135, x136, x137, x138, x139, x140, x141, x142, x143, x144, x145, x146, x147, x148, x149, x150, x151, x152, x153, x154, x155, x156, x157, x158, x159, x160, x161, x162, x163, x164, x165, x166, x167, x168, x169, x170, x171, x172, x173, x174, x175, x176, x177, x178, x179, x180, x181, x182, x183, x184, x185, x186, x187, x188, x189, x190, x191, x192, x193, x194, x195, x196, x197, x198, x199, x200, x201, x202, x203, x204, x205, x206, x207, x208, x209, x210, x211, x212, x213, x214, x215, x216, x217, x218, x219, x220, x221, x222, x223, x224, x225, x226, x227, x228, x229, x230, x231, x232, x233, x234, x235, x236, x237, x238, x239, x240, x241, x242, x243, x244, x245, x246, x247, x248, x249, x250, x251, x252, x253, x254, x255, x256, x257, x258, x259, x260, x261, x262, x263, x264, x265, x266, x267, x268, x269, y270, y271, y272, y273, y274, y275, y276, y277, y278, y279, y280, y281, y282, y283, y284, y285, y286, y287, y288, y289, y290, y291, y292, y293, y294, y295, y296, y297, y298, y299, y300, y301, y302, y303, y304, y305, y306, y307, y308, y309, y310, y311, y312, y313, y314, y315, y316, y317, y318, y319, y320, y321, y322, y323, y324, y325, y326, y327, y328, y329, y330, y331, y332, .bool false, x334, x335, x336, x337, x338, x339, x340, x341, x342, x343, x344, x345, x346, x347, x348, x349, x350, x351, x352, x353, x354, x355, x356, x357, x358, x359, x360, x361, x362, x363, x364, x365, x366, x367, x368, x369, x370, x371, x372, x373, x374, x375, x376, x377, x378, x379, x380, x381, x382, x383], defers := [] } w')) :
    Code.wp Try.prog (more_at 41) Q { tmps := #[x0, x1, x2, x3, x4, x5, x6, x7, x8, x9, x10, x11, x12, x13, x14, x15, x16, x17, x18, x19, x20, x21, .func (.func 43) #[] #[], .pointer (some ⟨sa, 0, none⟩), .int .i64 E, .pointer (some ⟨sb, 0, none⟩), x26, .pointer (some ⟨sc, 0, none⟩), x28, .int .i64 dd, x30, .int .i64 cn, x32, .int .i64 (j : Int), x34, .pointer (some ⟨sl, 0, none⟩), .int .i64 m, .pointer (some ⟨so, 0, none⟩), .int .i64 m, .pointer (some ⟨sq, 0, none⟩), .int .i64 m, .int .i64 sd, .int .i64 m, .int .i64 ac, .int .i64 0, x45, x46, x47, x48, x49, x50, x51, x52, x53, x54, x55, x56, x57, x58, x59, x60, x61, x62, x63, x64, x65, x66, x67, x68, x69, x70, x71, x72, x73, x74, x75, x76, x77, x78, x79, x80, x81, x82, x83, x84, x85, x86, x87, x88, x89, x90, x91, x92, x93, x94, x95, x96, x97, x98, x99, x100, x101, x102, x103, x104, x105, x106, x107, x108, x109, x110, x111, x112, x113, x114, x115, x116, x117, x118, x119, x120, x121, x122, x123, x124, x125, x126, x127, x128, x129, x130, x131, x132, x133, x134, x135, x136, x137, x138, x139, x140, x141, x142, x143, x144, x145, x146, x147, x148, x149, x150, x151, x152, x153, x154, x155, x156, x157, x158, x159, x160, x161, x162, x163, x164, x165, x166, x167, x168, x169, x170, x171, x172, x173, x174, x175, x176, x177, x178, x179, x180, x181, x182, x183, x184, x185, x186, x187, x188, x189, x190, x191, x192, x193, x194, x195, x196, x197, x198, x199, x200, x201, x202, x203, x204, x205, x206, x207, x208, x209, x210, x211, x212, x213, x214, x215, x216, x217, x218, x219, x220, x221, x222, x223, x224, x225, x226, x227, x228, x229, x230, x231, x232, x233, x234, x235, x236, x237, x238, x239, x240, x241, x242, x243, x244, x245, x246, x247, x248, x249, x250, x251, x252, x253, x254, x255, x256, x257, x258, x259, x260, x261, x262, x263, x264, x265, x266, x267, x268, x269, x270, x271, x272, x273, x274, x275, x276, x277, x278, x279, x280, x281, x282, x283, x284, x285, x286, x287, x288, x289, x290, x291, x292, x293, x294, x295, x296, x297, x298, x299, x300, x301, x302, x303, x304, x305, x306, x307, x308, x309, x310, x311, x312, x313, x314, x315, x316, x317, x318, x319, x320, x321, x322, x323, x324, x325, x326, x327, x328, x329, x330, x331, x332, x333, x334, x335, x336, x337, x338, x339, x340, x341, x342, x343, x344, x345, x346, x347, x348, x349, x350, x351, x352, x353, x354, x355, x356, x357, x358, x359, x360, x361, x362, x363, x364, x365, x366, x367, x368, x369, x370, x371, x372, x373, x374, x375, x376, x377, x378, x379, x380, x381, x382, x383], defers := [] } wr := by
  conv => arg 2; whnf
  have IN := Lib.hid (fun a b c d w1 => in_any a b c d w1)
  have hcf : ∀ w, (callFunc 43 #[]).run Try.prog w = .ok (.enter 43 #[]) w := fun w => enters_of Try.func43 (by kernel_rfl) rfl #[] w
  have hk1 : decide (cn < ac) = false := decide_eq_false (by omega)
  have h1l := lt_of_cell ca0
  have h2l := lt_of_cell cb0
  have h3l := lt_of_cell cc0
  have h4l := lt_of_cell cl0
  have h5l := lt_of_cell co0
  have h6l := lt_of_cell cq0
  clear hac
  rcases hm with rfl | ⟨rfl, rfl, ⟨i1, i2⟩, ⟨i3, i4⟩, ⟨i5, i6⟩, i7⟩
  · go_wp2_with fail
    exact hQ.out _ (Keeps.refl _) _ _ _ _ _ _ _ _ _ _ _ _ _ _ _ _ _ _ _ _ _ _ _ _ _ _ _ _ _ _ _ _ _ _ _ _ _ _ _ _ _ _ _ _ _ _ _ _ _ _ _ _ _ _ _ _ _ _ _ _ _ _ _
  have hsd : decide (sd < dd) = false := decide_eq_false (by omega)
  have N1 := Lib.hid (fun w1 => show Calls Try.prog 43 #[.agg #[.int .i64 lx, .int .i64 ly], .agg #[.int .i64 ax, .int .i64 ay]] w1 (RetB true w1) from by have := IN.out lx ly ax ay w1; rwa [decide_eq_true ⟨i1, i2⟩] at this)
  have N2 := Lib.hid (fun w1 => show Calls Try.prog 43 #[.agg #[.int .i64 ox, .int .i64 oy], .agg #[.int .i64 bx, .int .i64 bz]] w1 (RetB true w1) from by have := IN.out ox oy bx bz w1; rwa [decide_eq_true ⟨i3, i4⟩] at this)
  have N3 := Lib.hid (fun w1 => show Calls Try.prog 43 #[.agg #[.int .i64 qx, .int .i64 qy], .agg #[.int .i64 cx, .int .i64 cy]] w1 (RetB true w1) from by have := IN.out qx qy cx cy w1; rwa [decide_eq_true ⟨i5, i6⟩] at this)
  clear i1 i2 i3 i4 i5 i6 i7 IN
  go_wp2_with fail
  refine (N1.out _).mono ?_
  rintro e u1 ⟨rfl, l1⟩
  replace ca0 := l1.cell ca0
  replace ca1 := l1.cell ca1
  replace cb0 := l1.cell cb0
  replace cb1 := l1.cell cb1
  replace cc0 := l1.cell cc0
  replace cc1 := l1.cell cc1
  replace cl0 := l1.cell cl0
  replace cl1 := l1.cell cl1
  replace co0 := l1.cell co0
  replace co1 := l1.cell co1
  replace cq0 := l1.cell cq0
  replace cq1 := l1.cell cq1
  replace h1l := lt_of_cell ca0
  replace h2l := lt_of_cell cb0
  replace h3l := lt_of_cell cc0
  replace h4l := lt_of_cell cl0
  replace h5l := lt_of_cell co0
  replace h6l := lt_of_cell cq0
  go_wp2_with fail
  refine (N2.out _).mono ?_
  rintro e u2 ⟨rfl, l2⟩
  replace ca0 := l2.cell ca0
  replace ca1 := l2.cell ca1
  replace cb0 := l2.cell cb0
  replace cb1 := l2.cell cb1
  replace cc0 := l2.cell cc0
  replace cc1 := l2.cell cc1
  replace cl0 := l2.cell cl0
  replace cl1 := l2.cell cl1
  replace co0 := l2.cell co0
  replace co1 := l2.cell co1
  replace cq0 := l2.cell cq0
  replace cq1 := l2.cell cq1
  replace h1l := lt_of_cell ca0
  replace h2l := lt_of_cell cb0
  replace h3l := lt_of_cell cc0
  replace h4l := lt_of_cell cl0
  replace h5l := lt_of_cell co0
  replace h6l := lt_of_cell cq0
  go_wp2_with fail
  refine (N3.out _).mono ?_
  rintro e u3 ⟨rfl, l3⟩
  replace ca0 := l3.cell ca0
  replace ca1 := l3.cell ca1
  replace cb0 := l3.cell cb0
  replace cb1 := l3.cell cb1
  replace cc0 := l3.cell cc0
  replace cc1 := l3.cell cc1
  replace cl0 := l3.cell cl0
  replace cl1 := l3.cell cl1
  replace co0 := l3.cell co0
  replace co1 := l3.cell co1
  replace cq0 := l3.cell cq0
  replace cq1 := l3.cell cq1
  replace h1l := lt_of_cell ca0
  replace h2l := lt_of_cell cb0
  replace h3l := lt_of_cell cc0
  replace h4l := lt_of_cell cl0
  replace h5l := lt_of_cell co0
  replace h6l := lt_of_cell cq0
  go_wp2_with fail
  exact hQ.out _ ((l1.trans l2).trans l3) _ _ _ _ _ _ _ _ _ _ _ _ _ _ _ _ _ _ _ _ _ _ _ _ _ _ _ _ _ _ _ _ _ _ _ _ _ _ _ _ _ _ _ _ _ _ _ _ _ _ _ _ _ _ _ _ _ _ _ _ _ _ _
set_option maxRecDepth 100000 in
set_option maxHeartbeats 40000000 in
theorem more_43 (E dd cn ax ay bx bz cx cy lx ly m ox oy qx qy sd ac : Int) (sa sb sc sl so sq j : Nat) (wr : World)
    (hzj : j = 2 → ((lx, ly), m) = ((ax, ay), E) ∧ ((ox, oy), m) = ((bx, bz), E) ∧ ((qx, qy), m) = ((cx, cy), E) ∧ (sd, m) = (dd, E) ∧ (ac, (0 : Int)) = (cn, 0))
    (ca0 : wr.cell? ⟨sa, 0, none⟩ = some (.int .i64 ax)) (ca1 : wr.cell? ⟨sa, 1, none⟩ = some (.int .i64 ay)) (cb0 : wr.cell? ⟨sb, 0, none⟩ = some (.int .i64 bx)) (cb1 : wr.cell? ⟨sb, 1, none⟩ = some (.int .i64 bz)) (cc0 : wr.cell? ⟨sc, 0, none⟩ = some (.int .i64 cx)) (cc1 : wr.cell? ⟨sc, 1, none⟩ = some (.int .i64 cy))
    (cl0 : wr.cell? ⟨sl, 0, none⟩ = some (.int .i64 lx)) (cl1 : wr.cell? ⟨sl, 1, none⟩ = some (.int .i64 ly)) (co0 : wr.cell? ⟨so, 0, none⟩ = some (.int .i64 ox)) (co1 : wr.cell? ⟨so, 1, none⟩ = some (.int .i64 oy)) (cq0 : wr.cell? ⟨sq, 0, none⟩ = some (.int .i64 qx)) (cq1 : wr.cell? ⟨sq, 1, none⟩ = some (.int .i64 qy))
    (Q : Exit → Act → World → Prop)
    (x0 x1 x2 x3 x4 x5 x6 x7 x8 x9 x10 x11 x12 x13 x14 x15 x16 x17 x18 x19 x20 x21 x26 x28 x30 x32 x34 x45 x46 x47 x48 x49 x50 x51 x52 x53 x54 x55 x56 x57 x58 x59 x60 x61 x62 x63 x64 x65 x66 x67 x68 x69 x70 x71 x72 x73 x74 x75 x76 x77 x78 x79 x80 x81 x82 x83 x84 x85 x86 x87 x88 x89 x90 x91 x92 x93 x94 x95 x96 x97 x98 x99 x100 x101 x102 x103 x104 x105 x106 x107 x108 x109 x110 x111 x112 x113 x114 x115 x116 x117 x118 x119 x120 x121 x122 x123 x124 x125 x126 x127 x128 x129 x130 x131 x132 x133 x134 x135 x136 x137 x138 x139 x140 x141 x142 x143 x144 x145 x146 x147 x148 x149 x150 x151 x152 x153 x154 x155 x156 x157 x158 x159 x160 x161 x162 x163 x164 x165 x166 x167 x168 x169 x170 x171 x172 x173 x174 x175 x176 x177 x178 x179 x180 x181 x182 x183 x184 x185 x186 x187 x188 x189 x190 x191 x192 x193 x194 x195 x196 x197 x198 x199 x200 x201 x202 x203 x204 x205 x206 x207 x208 x209 x210 x211 x212 x213 x214 x215 x216 x217 x218 x219 x220 x221 x222 x223 x224 x225 x226 x227 x228 x229 x230 x231 x232 x233 x234 x235 x236 x237 x238 x239 x240 x241 x242 x243 x244 x245 x246 x247 x248 x249 x250 x251 x252 x253 x254 x255 x256 x257 x258 x259 x260 x261 x262 x263 x264 x265 x266 x267 x268 x269 x270 x271 x272 x273 x274 x275 x276 x277 x278 x279 x280 x281 x282 x283 x284 x285 x286 x287 x288 x289 x290 x291 x292 x293 x294 x295 x296 x297 x298 x299 x300 x301 x302 x303 x304 x305 x306 x307 x308 x309 x310 x311 x312 x313 x314 x315 x316 x317 x318 x319 x320 x321 x322 x323 x324 x325 x326 x327 x328 x329 x330 x331 x332 x333 x334 x335 x336 x337 x338 x339 x340 x341 x342 x343 x344 x345 x346 x347 x348 x349 x350 x351 x352 x353 x354 x355 x356 x357 x358 x359 x360 x361 x362 x363 x364 x365 x366 x367 x368 x369 x370 x371 x372 x373 x374 x375 x376 x377 x378 x379 x380 x381 x382 x383 : Value)
    (hQ : Hid (∀ (y334 y335 y336 y337 y338 y339 y340 y341 y342 y343 y344 y345 y346 y347 y348 y349 y350 y351 y352 y353 y354 y355 y356 y357 y358 y359 y360 y361 y362 y363 y364 : Value), Q .normal { tmps := #[x0, x1, x2, x3, x4, x5, x6, x7, x8, x9, x10, x11, x12, x13, x14, x15, x16, x17, x18, x19, x20, x21, .func (.func 43) #[] #[], .pointer (some ⟨sa, 0, none⟩), .int .i64 E, .pointer (some ⟨sb, 0, none⟩), x26, .pointer (some ⟨sc, 0, none⟩), x28, .int .i64 dd, x30, .int .i64 cn, x32, .int .i64 (j : Int), x34, .pointer (some ⟨sl, 0, none⟩), .int .i64 m, .pointer (some ⟨so, 0, none⟩), .int .i64 m, .pointer (some ⟨sq, 0, none⟩), .int .i64 m, .int .i64 sd, .int .i64 m, .int .i64 ac, .int .i64 0, x45, x46, x47, x48, x49, x50, x51, x52, x53, x54, x55, x56, x57, x58, x59, x60, x61, x62, x63, x64, x65, x66, x67, x68, x69, x70, x71, x72, x73, x74, x75, x76, x77, x78, x79, x80, x81, x82, x83, x84, x85, x86, x87, x88, x89, x90, x91, x92, x93, x94, x95, x96, x97, x98, x99, x100, x101, x102, x103, x104, x105, x106, x107, x108, x109, x110, x111, x112, x113, x114, x115, x116, x117, x118, x119, x120, x121, x122, x123, x124, x125, x126, x127, x128, x129, x130, x131, x132, x133, x134, x135, x136, x137, x138, x139, x140, x141, x142, x143, x144, x145, x146, x147, x148, x149, x150, x151, x152, x153, x154, x155, x156, x157, x158, x159, x160, x161, x162, x163, x164, x165, x166, x167, x168, x169, x170, x171, x172, x173, x174, x175, x176, x177, x178, x179, x180, x181, x182, x183, x184, x185, x186, x187, x188, x189, x190, x191, x192, x193, x194, x195, x196, x197, x198, x199, x200, x201, x202, x203, x204, x205, x206, x207, x208, x209, x210, x211, x212, x213, x214, x215, x216, x217, x218, x219, x220, x221, x222, x223, x224, x225, x226, x227, x228, x229, x230, x231, x232, x233, x234, x235, x236, x237, x238, x239, x240, x241, x242, x243, x244, x245, x246, x247, x248, x249, x250, x251, x252, x253, x254, x255, x256, x257, x258, x259, x260, x261, x262, x263, x264, x265, x266, x267, x268, x269, x270, x271, x272, x273, x274, x275, x276, x277, x278, x279, x280, x281, x282, x283, x284, x285, x286, x287, x288, x289, x290, x291, x292, x293, x294, x295, x296, x297, x298, x299, x300, x301, x302, x303, x304, x305, x306, x307, x308, x309, x310, x311, x312, x313, x314, x315, x316, x317, x318, x319, x320, x321, x322, x323, x324, x325, x326, x327, x328, x329, x330, x331, x332, x333, y334, y335, y336, y337, y338, y339, y340, y341, y342, y343, y344, y345, y346, y347, y348, y349, y350, y351, y352, y353, y354, y355, y356, y357, y358, y359, y360, y361, y362, y363, y364, .bool false, x366, x367, x368, x369, x370, x371, x372, x373, x374, x375, x376, x377, x378, x379, x380, x381, x382, x383], defers := [] } wr)) :
    Code.wp Try.prog (more_at 43) Q { tmps := #[x0, x1, x2, x3, x4, x5, x6, x7, x8, x9, x10, x11, x12, x13, x14, x15, x16, x17, x18, x19, x20, x21, .func (.func 43) #[] #[], .pointer (some ⟨sa, 0, none⟩), .int .i64 E, .pointer (some ⟨sb, 0, none⟩), x26, .pointer (some ⟨sc, 0, none⟩), x28, .int .i64 dd, x30, .int .i64 cn, x32, .int .i64 (j : Int), x34, .pointer (some ⟨sl, 0, none⟩), .int .i64 m, .pointer (some ⟨so, 0, none⟩), .int .i64 m, .pointer (some ⟨sq, 0, none⟩), .int .i64 m, .int .i64 sd, .int .i64 m, .int .i64 ac, .int .i64 0, x45, x46, x47, x48, x49, x50, x51, x52, x53, x54, x55, x56, x57, x58, x59, x60, x61, x62, x63, x64, x65, x66, x67, x68, x69, x70, x71, x72, x73, x74, x75, x76, x77, x78, x79, x80, x81, x82, x83, x84, x85, x86, x87, x88, x89, x90, x91, x92, x93, x94, x95, x96, x97, x98, x99, x100, x101, x102, x103, x104, x105, x106, x107, x108, x109, x110, x111, x112, x113, x114, x115, x116, x117, x118, x119, x120, x121, x122, x123, x124, x125, x126, x127, x128, x129, x130, x131, x132, x133, x134, x135, x136, x137, x138, x139, x140, x141, x142, x143, x144, x145, x146, x147, x148, x149, x150, x151, x152, x153, x154, x155, x156, x157, x158, x159, x160, x161, x162, x163, x164, x165, x166, x167, x168, x169, x170, x171, x172, x173, x174, x175, x176, x177, x178, x179, x180, x181, x182, x183, x184, x185, x186, x187, x188, x189, x190, x191, x192, x193, x194, x195, x196, x197, x198, x199, x200, x201, x202, x203, x204, x205, x206, x207, x208, x209, x210, x211, x212, x213, x214, x215, x216, x217, x218, x219, x220, x221, x222, x223, x224, x225, x226, x227, x228, x229, x230, x231, x232, x233, x234, x235, x236, x237, x238, x239, x240, x241, x242, x243, x244, x245, x246, x247, x248, x249, x250, x251, x252, x253, x254, x255, x256, x257, x258, x259, x260, x261, x262, x263, x264, x265, x266, x267, x268, x269, x270, x271, x272, x273, x274, x275, x276, x277, x278, x279, x280, x281, x282, x283, x284, x285, x286, x287, x288, x289, x290, x291, x292, x293, x294, x295, x296, x297, x298, x299, x300, x301, x302, x303, x304, x305, x306, x307, x308, x309, x310, x311, x312, x313, x314, x315, x316, x317, x318, x319, x320, x321, x322, x323, x324, x325, x326, x327, x328, x329, x330, x331, x332, x333, x334, x335, x336, x337, x338, x339, x340, x341, x342, x343, x344, x345, x346, x347, x348, x349, x350, x351, x352, x353, x354, x355, x356, x357, x358, x359, x360, x361, x362, x363, x364, x365, x366, x367, x368, x369, x370, x371, x372, x373, x374, x375, x376, x377, x378, x379, x380, x381, x382, x383], defers := [] } wr := by
  conv => arg 2; whnf
  have hj1 : ((j : Int) == 2) = decide (j = 2) := by rw [Bool.eq_iff_iff, beq_iff_eq, decide_eq_true_eq]; omega
  have h1l := lt_of_cell ca0
  have h2l := lt_of_cell cb0
  have h3l := lt_of_cell cc0
  have h4l := lt_of_cell cl0
  have h5l := lt_of_cell co0
  have h6l := lt_of_cell cq0
  by_cases hj2 : j = 2
  · obtain ⟨z1, z2, z3, z4, z5⟩ := hzj hj2
    simp only [Prod.mk.injEq] at z1 z2 z3 z4 z5
    obtain ⟨⟨rfl, rfl⟩, rfl⟩ := z1
    obtain ⟨⟨rfl, rfl⟩, _⟩ := z2
    obtain ⟨⟨rfl, rfl⟩, _⟩ := z3
    obtain ⟨rfl, _⟩ := z4
    obtain ⟨rfl, _⟩ := z5
    have hjb : ((j : Int) == 2) = true := by rw [hj1]; exact decide_eq_true hj2
    have fnL : ∀ w1, (binOp .neq 23 (.agg #[.int .i64 lx, .int .i64 ly]) (.agg #[.int .i64 lx, .int .i64 ly])).run Try.prog w1 = .ok (.bool false) w1 := fun w1 => by rw [neq_span]; simp
    have fnO : ∀ w1, (binOp .neq 23 (.agg #[.int .i64 ox, .int .i64 oy]) (.agg #[.int .i64 ox, .int .i64 oy])).run Try.prog w1 = .ok (.bool false) w1 := fun w1 => by rw [neq_span]; simp
    have fnQ : ∀ w1, (binOp .neq 23 (.agg #[.int .i64 qx, .int .i64 qy]) (.agg #[.int .i64 qx, .int .i64 qy])).run Try.prog w1 = .ok (.bool false) w1 := fun w1 => by rw [neq_span]; simp
    clear hj1 hj2 hzj
    go_wp2_with fail
    exact hQ.out _ _ _ _ _ _ _ _ _ _ _ _ _ _ _ _ _ _ _ _ _ _ _ _ _ _ _ _ _ _ _
  · have hjb : ((j : Int) == 2) = false := by rw [hj1]; exact decide_eq_false hj2
    clear hj1 hj2 hzj
    go_wp2_with fail
    exact hQ.out _ _ _ _ _ _ _ _ _ _ _ _ _ _ _ _ _ _ _ _ _ _ _ _ _ _ _ _ _ _ _
end Go.Proofs.Ytmhpgjlegajpeaa
