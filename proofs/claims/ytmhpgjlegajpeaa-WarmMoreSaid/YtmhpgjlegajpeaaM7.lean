/-
  WarmMore from its region 24 on: what is told of the block itself.
-/
import Derived.Test.YtmhpgjlegajpeaaM5
import Derived.Deep.DeepCutAuto
namespace Go.Proofs.Ytmhpgjlegajpeaa
open Go.RowKit

set_option maxRecDepth 100000 in
set_option maxHeartbeats 40000000 in
theorem more_28 (mark llo lhi clo chi : Int) (ra : Option Addr) (rc : Nat) (rs : List Wr) (b0 s1 s2 s3 sa sb sc : Nat) (ka : Option Addr) (kc : Nat) (t off E dd cn ax ay bx bz cx cy : Int) (X Y Z : Wm) (w wr : World)
    (hI : Wm.In ⟨mark, llo, lhi, clo, chi, ra, rc, rs⟩ w) (kk : Keeps w wr) (hB : Wm.Box ⟨mark, llo, lhi, clo, chi, ra, rc, rs⟩ wr b0) (hK : Wrs wr ka rs) (hl : rs.length ≤ 5)
    (bX : X.Box wr s1) (hX : X.In wr) (bY : Y.Box wr s2) (hY : Y.In wr) (bZ : Z.Box wr s3) (hZ : Z.In wr)
    (fX : X.ok = true → Narrower X ⟨mark, llo, lhi, clo, chi, ra, rc, rs⟩ t off) (fY : Y.ok = true → Narrower Y ⟨mark, llo, lhi, clo, chi, ra, rc, rs⟩ t off) (fZ : Z.ok = true → Narrower Z ⟨mark, llo, lhi, clo, chi, ra, rc, rs⟩ t off)
    (sZ : Z.lenA = Wm.lenA ⟨mark, llo, lhi, clo, chi, ra, rc, rs⟩ ∧ Z.coeffA = Wm.coeffA ⟨mark, llo, lhi, clo, chi, ra, rc, rs⟩ ∧ Z.showsA t t = Wm.showsA ⟨mark, llo, lhi, clo, chi, ra, rc, rs⟩ t t ∧ Z.roomA off = Wm.roomA ⟨mark, llo, lhi, clo, chi, ra, rc, rs⟩ off ∧ Z.countA = Wm.countA ⟨mark, llo, lhi, clo, chi, ra, rc, rs⟩)
    (e1 : Wm.lenA ⟨mark, llo, lhi, clo, chi, ra, rc, rs⟩ = ((ax, ay), E)) (e2 : Wm.coeffA ⟨mark, llo, lhi, clo, chi, ra, rc, rs⟩ = ((bx, bz), E)) (e3 : Wm.showsA ⟨mark, llo, lhi, clo, chi, ra, rc, rs⟩ t t = ((cx, cy), E)) (e4 : Wm.roomA ⟨mark, llo, lhi, clo, chi, ra, rc, rs⟩ off = (dd, E)) (e5 : Wm.countA ⟨mark, llo, lhi, clo, chi, ra, rc, rs⟩ = (cn, 0))
    (ca0 : wr.cell? ⟨sa, 0, none⟩ = some (.int .i64 ax)) (ca1 : wr.cell? ⟨sa, 1, none⟩ = some (.int .i64 ay))
    (cb0 : wr.cell? ⟨sb, 0, none⟩ = some (.int .i64 bx)) (cb1 : wr.cell? ⟨sb, 1, none⟩ = some (.int .i64 bz))
    (cc0 : wr.cell? ⟨sc, 0, none⟩ = some (.int .i64 cx)) (cc1 : wr.cell? ⟨sc, 1, none⟩ = some (.int .i64 cy))
    (x0 x1 x2 x3 x4 x5 x7 x8 x9 x10 x11 x12 x13 x17 x18 x29 x30 x31 x32 x33 x34 x35 x36 x37 x38 x39 x40 x41 x42 x43 x44 x45 x46 x47 x48 x49 x50 x51 x52 x53 x54 x55 x56 x57 x58 x59 x60 x61 x62 x63 x64 x65 x66 x67 x68 x69 x70 x71 x72 x73 x74 x75 x76 x77 x78 x79 x80 x81 x82 x83 x84 x85 x86 x87 x88 x89 x90 x91 x92 x93 x94 x95 x96 x97 x98 x99 x100 x101 x102 x103 x104 x105 x106 x107 x108 x109 x110 x111 x112 x113 x114 x115 x116 x117 x118 x119 x120 x121 x122 x123 x124 x125 x126 x127 x128 x129 x130 x131 x132 x133 x134 x135 x136 x137 x138 x139 x140 x141 x142 x143 x144 x145 x146 x147 x148 x149 x150 x151 x152 x153 x154 x155 x156 x157 x158 x159 x160 x161 x162 x163 x164 x165 x166 x167 x168 x169 x170 x171 x172 x173 x174 x175 x176 x177 x178 x179 x180 x181 x182 x183 x184 x185 x186 x187 x188 x189 x190 x191 x192 x193 x194 x195 x196 x197 x198 x199 x200 x201 x202 x203 x204 x205 x206 x207 x208 x209 x210 x211 x212 x213 x214 x215 x216 x217 x218 x219 x220 x221 x222 x223 x224 x225 x226 x227 x228 x229 x230 x231 x232 x233 x234 x235 x236 x237 x238 x239 x240 x241 x242 x243 x244 x245 x246 x247 x248 x249 x250 x251 x252 x253 x254 x255 x256 x257 x258 x259 x260 x261 x262 x263 x264 x265 x266 x267 x268 x269 x270 x271 x272 x273 x274 x275 x276 x277 x278 x279 x280 x281 x282 x283 x284 x285 x286 x287 x288 x289 x290 x291 x292 x293 x294 x295 x296 x297 x298 x299 x300 x301 x302 x303 x304 x305 x306 x307 x308 x309 x310 x311 x312 x313 x314 x315 x316 x317 x318 x319 x320 x321 x322 x323 x324 x325 x326 x327 x328 x329 x330 x331 x332 x333 x334 x335 x336 x337 x338 x339 x340 x341 x342 x343 x344 x345 x346 x347 x348 x349 x350 x351 x352 x353 x354 x355 x356 x357 x358 x359 x360 x361 x362 x363 x364 x365 x366 x367 x368 x369 x370 x371 x372 x373 x374 x375 x376 x377 x378 x379 x380 x381 x382 x383 : Value) :
    Code.wp Try.prog (more_from 28) (bodyPost Try.prog Try.f12 (RetB true w)) { tmps := #[x0, x1, x2, x3, x4, x5, .pointer (some ⟨b0, 0, none⟩), x7, x8, x9, x10, x11, x12, x13, .pointer (some ⟨s1, 0, none⟩), .pointer (some ⟨s2, 0, none⟩), .pointer (some ⟨s3, 0, none⟩), x17, x18, .slice ka rs.length kc, .int .i64 t, .int .i64 off, .func (.func 43) #[] #[], .pointer (some ⟨sa, 0, none⟩), .int .i64 E, .pointer (some ⟨sb, 0, none⟩), .int .i64 E, .pointer (some ⟨sc, 0, none⟩), .int .i64 E, x29, x30, x31, x32, x33, x34, x35, x36, x37, x38, x39, x40, x41, x42, x43, x44, x45, x46, x47, x48, x49, x50, x51, x52, x53, x54, x55, x56, x57, x58, x59, x60, x61, x62, x63, x64, x65, x66, x67, x68, x69, x70, x71, x72, x73, x74, x75, x76, x77, x78, x79, x80, x81, x82, x83, x84, x85, x86, x87, x88, x89, x90, x91, x92, x93, x94, x95, x96, x97, x98, x99, x100, x101, x102, x103, x104, x105, x106, x107, x108, x109, x110, x111, x112, x113, x114, x115, x116, x117, x118, x119, x120, x121, x122, x123, x124, x125, x126, x127, x128, x129, x130, x131, x132, x133, x134, x135, x136, x137, x138, x139, x140, x141, x142, x143, x144, x145, x146, x147, x148, x149, x150, x151, x152, x153, x154, x155, x156, x157, x158, x159, x160, x161, x162, x163, x164, x165, x166, x167, x168, x169, x170, x171, x172, x173, x174, x175, x176, x177, x178, x179, x180, x181, x182, x183, x184, x185, x186, x187, x188, x189, x190, x191, x192, x193, x194, x195, x196, x197, x198, x199, x200, x201, x202, x203, x204, x205, x206, x207, x208, x209, x210, x211, x212, x213, x214, x215, x216, x217, x218, x219, x220, x221, x222, x223, x224, x225, x226, x227, x228, x229, x230, x231, x232, x233, x234, x235, x236, x237, x238, x239, x240, x241, x242, x243, x244, x245, x246, x247, x248, x249, x250, x251, x252, x253, x254, x255, x256, x257, x258, x259, x260, x261, x262, x263, x264, x265, x266, x267, x268, x269, x270, x271, x272, x273, x274, x275, x276, x277, x278, x279, x280, x281, x282, x283, x284, x285, x286, x287, x288, x289, x290, x291, x292, x293, x294, x295, x296, x297, x298, x299, x300, x301, x302, x303, x304, x305, x306, x307, x308, x309, x310, x311, x312, x313, x314, x315, x316, x317, x318, x319, x320, x321, x322, x323, x324, x325, x326, x327, x328, x329, x330, x331, x332, x333, x334, x335, x336, x337, x338, x339, x340, x341, x342, x343, x344, x345, x346, x347, x348, x349, x350, x351, x352, x353, x354, x355, x356, x357, x358, x359, x360, x361, x362, x363, x364, x365, x366, x367, x368, x369, x370, x371, x372, x373, x374, x375, x376, x377, x378, x379, x380, x381, x382, x383], defers := [] } wr := by
  conv => arg 2; whnf
  have LD := Lib.hid (fun w1 (k : Keeps w w1) => Room_any ⟨mark, llo, lhi, clo, chi, ra, rc, rs⟩ off w1 (hI.keep k))
  have LE := Lib.hid (fun w1 (k : Keeps w w1) => Count_any ⟨mark, llo, lhi, clo, chi, ra, rc, rs⟩ w1 (hI.keep k))
  rw [e4] at LD
  rw [e5] at LE
  dsimp only [Wm.v] at LD LE
  have H1 := Lib.hid e1
  have H2 := Lib.hid e2
  have H3 := Lib.hid e3
  have H4 := Lib.hid e4
  have H5 := Lib.hid e5
  have HI := Lib.hid hI
  have HBX := Lib.hid bX
  have HBY := Lib.hid bY
  have HBZ := Lib.hid bZ
  have HX := Lib.hid hX
  have HY := Lib.hid hY
  have HZ := Lib.hid hZ
  have HB := Lib.hid hB
  have NX := Lib.hid fX
  have NY := Lib.hid fY
  have NZ := Lib.hid fZ
  have SZ := Lib.hid sZ
  have HRD := Lib.hid hK
  obtain ⟨g0, g1, g2, g3, g4, g5⟩ := hB
  dsimp only at g0 g1 g2 g3 g4 g5
  have hlv := lt_of_cell g0
  clear e1 e2 e3 e4 e5 hI bX bY bZ hX hY hZ fX fY fZ sZ hK
  go_wp2_with fail
  refine (LD.out _ kk).mono ?_
  rintro e w8 ⟨rfl, kw⟩
  replace g0 := kw.cell g0
  replace g1 := kw.cell g1
  replace g2 := kw.cell g2
  replace g3 := kw.cell g3
  replace g4 := kw.cell g4
  replace g5 := kw.cell g5
  replace ca0 := kw.cell ca0
  replace ca1 := kw.cell ca1
  replace cb0 := kw.cell cb0
  replace cb1 := kw.cell cb1
  replace cc0 := kw.cell cc0
  replace cc1 := kw.cell cc1
  replace hlv := lt_of_cell g0
  go_upto_region 29 with fail
  go_cut [31, 32] (fun p q wx => p = .int .i64 cn ∧ q = .int .i64 0 ∧ Keeps w8 wx)
  case first =>
    go_wp2_with fail
    refine (LE.out _ (kk.trans kw)).mono ?_
    rintro e u1 ⟨rfl, l1⟩
    go_wp2_with fail
    go_meet
    exact ⟨rfl, rfl, l1⟩
  case rest =>
    obtain ⟨rfl, rfl, k9⟩ := hcut
    rename_i hK
    refine hK _ _ (wp_mo (c' := more_two 30) (by kernel_rfl) ?_)
    replace kw := kw.trans k9
    exact more_30 mark llo lhi clo chi ra rc rs b0 s1 s2 s3 sa sb sc ka kc t off E dd cn ax ay bx bz cx cy X Y Z w _ HI.out (kk.trans kw) (HB.out.keep kw) (HRD.out.keep kw) hl (HBX.out.keep kw) (HX.out.keep kw) (HBY.out.keep kw) (HY.out.keep kw) (HBZ.out.keep kw) (HZ.out.keep kw) NX.out NY.out NZ.out SZ.out H1.out H2.out H3.out H4.out H5.out (k9.cell ca0) (k9.cell ca1) (k9.cell cb0) (k9.cell cb1) (k9.cell cc0) (k9.cell cc1) _ _ _ _ _ _ _ _ _ _ _ _ _ _ _ _ _ _ _ _ _ _ _ _ _ _ _ _ _ _ _ _ _ _ _ _ _ _ _ _ _ _ _ _ _ _ _ _ _ _ _ _ _ _ _ _ _ _ _ _ _ _ _ _ _ _ _ _ _ _ _ _ _ _ _ _ _ _ _ _ _ _ _ _ _ _ _ _ _ _ _ _ _ _ _ _ _ _ _ _ _ _ _ _ _ _ _ _ _ _ _ _ _ _ _ _ _ _ _ _ _ _ _ _ _ _ _ _ _ _ _ _ _ _ _ _ _ _ _ _ _ _ _ _ _ _ _ _ _ _ _ _ _ _ _ _ _ _ _ _ _ _ _ _ _ _ _ _ _ _ _ _ _ _ _ _ _ _ _ _ _ _ _ _ _ _ _ _ _ _ _ _ _ _ _ _ _ _ _ _ _ _ _ _ _ _ _ _ _ _ _ _ _ _ _ _ _ _ _ _ _ _ _ _ _ _ _ _ _ _ _ _ _ _ _ _ _ _ _ _ _ _ _ _ _ _ _ _ _ _ _ _ _ _ _ _ _ _ _ _ _ _ _ _ _ _ _ _ _ _ _ _ _ _ _ _ _ _ _ _ _ _ _ _ _ _ _ _ _ _ _ _ _ _ _ _ _ _ _ _ _ _ _ _ _ _ _ _ _ _ _ _ _ _ _ _ _ _ _ _ _ _ _ _ _ _ _ _ _ _ _ _ _ _ _ _ _ _ _ _ _ _ _ _ _ _ _ _ _ _ _ _ _ _ _ _ _ _ _ _ _ _ _ _ _ _
set_option maxRecDepth 100000 in
set_option maxHeartbeats 40000000 in
theorem more_24 (mark llo lhi clo chi : Int) (ra : Option Addr) (rc : Nat) (rs : List Wr) (b0 s1 s2 s3 : Nat) (ka : Option Addr) (kc : Nat) (t off E dd cn ax ay bx bz cx cy : Int) (X Y Z : Wm) (w wr : World)
    (hI : Wm.In ⟨mark, llo, lhi, clo, chi, ra, rc, rs⟩ w) (kk : Keeps w wr) (hB : Wm.Box ⟨mark, llo, lhi, clo, chi, ra, rc, rs⟩ wr b0) (hK : Wrs wr ka rs) (hl : rs.length ≤ 5)
    (bX : X.Box wr s1) (hX : X.In wr) (bY : Y.Box wr s2) (hY : Y.In wr) (bZ : Z.Box wr s3) (hZ : Z.In wr)
    (fX : X.ok = true → Narrower X ⟨mark, llo, lhi, clo, chi, ra, rc, rs⟩ t off) (fY : Y.ok = true → Narrower Y ⟨mark, llo, lhi, clo, chi, ra, rc, rs⟩ t off) (fZ : Z.ok = true → Narrower Z ⟨mark, llo, lhi, clo, chi, ra, rc, rs⟩ t off)
    (sZ : Z.lenA = Wm.lenA ⟨mark, llo, lhi, clo, chi, ra, rc, rs⟩ ∧ Z.coeffA = Wm.coeffA ⟨mark, llo, lhi, clo, chi, ra, rc, rs⟩ ∧ Z.showsA t t = Wm.showsA ⟨mark, llo, lhi, clo, chi, ra, rc, rs⟩ t t ∧ Z.roomA off = Wm.roomA ⟨mark, llo, lhi, clo, chi, ra, rc, rs⟩ off ∧ Z.countA = Wm.countA ⟨mark, llo, lhi, clo, chi, ra, rc, rs⟩)
    (e1 : Wm.lenA ⟨mark, llo, lhi, clo, chi, ra, rc, rs⟩ = ((ax, ay), E)) (e2 : Wm.coeffA ⟨mark, llo, lhi, clo, chi, ra, rc, rs⟩ = ((bx, bz), E)) (e3 : Wm.showsA ⟨mark, llo, lhi, clo, chi, ra, rc, rs⟩ t t = ((cx, cy), E)) (e4 : Wm.roomA ⟨mark, llo, lhi, clo, chi, ra, rc, rs⟩ off = (dd, E)) (e5 : Wm.countA ⟨mark, llo, lhi, clo, chi, ra, rc, rs⟩ = (cn, 0))
    (x0 x1 x2 x3 x4 x5 x7 x8 x9 x10 x11 x12 x13 x17 x18 x22 x23 x24 x25 x26 x27 x28 x29 x30 x31 x32 x33 x34 x35 x36 x37 x38 x39 x40 x41 x42 x43 x44 x45 x46 x47 x48 x49 x50 x51 x52 x53 x54 x55 x56 x57 x58 x59 x60 x61 x62 x63 x64 x65 x66 x67 x68 x69 x70 x71 x72 x73 x74 x75 x76 x77 x78 x79 x80 x81 x82 x83 x84 x85 x86 x87 x88 x89 x90 x91 x92 x93 x94 x95 x96 x97 x98 x99 x100 x101 x102 x103 x104 x105 x106 x107 x108 x109 x110 x111 x112 x113 x114 x115 x116 x117 x118 x119 x120 x121 x122 x123 x124 x125 x126 x127 x128 x129 x130 x131 x132 x133 x134 x135 x136 x137 x138 x139 x140 x141 x142 x143 x144 x145 x146 x147 x148 x149 x150 x151 x152 x153 x154 x155 x156 x157 x158 x159 x160 x161 x162 x163 x164 x165 x166 x167 x168 x169 x170 x171 x172 x173 x174 x175 x176 x177 x178 x179 x180 x181 x182 x183 x184 x185 x186 x187 x188 x189 x190 x191 x192 x193 x194 x195 x196 x197 x198 x199 x200 x201 x202 x203 x204 x205 x206 x207 x208 x209 x210 x211 x212 x213 x214 x215 x216 x217 x218 x219 x220 x221 x222 x223 x224 x225 x226 x227 x228 x229 x230 x231 x232 x233 x234 x235 x236 x237 x238 x239 x240 x241 x242 x243 x244 x245 x246 x247 x248 x249 x250 x251 x252 x253 x254 x255 x256 x257 x258 x259 x260 x261 x262 x263 x264 x265 x266 x267 x268 x269 x270 x271 x272 x273 x274 x275 x276 x277 x278 x279 x280 x281 x282 x283 x284 x285 x286 x287 x288 x289 x290 x291 x292 x293 x294 x295 x296 x297 x298 x299 x300 x301 x302 x303 x304 x305 x306 x307 x308 x309 x310 x311 x312 x313 x314 x315 x316 x317 x318 x319 x320 x321 x322 x323 x324 x325 x326 x327 x328 x329 x330 x331 x332 x333 x334 x335 x336 x337 x338 x339 x340 x341 x342 x343 x344 x345 x346 x347 x348 x349 x350 x351 x352 x353 x354 x355 x356 x357 x358 x359 x360 x361 x362 x363 x364 x365 x366 x367 x368 x369 x370 x371 x372 x373 x374 x375 x376 x377 x378 x379 x380 x381 x382 x383 : Value) :
    Code.wp Try.prog (more_from 24) (bodyPost Try.prog Try.f12 (RetB true w)) { tmps := #[x0, x1, x2, x3, x4, x5, .pointer (some ⟨b0, 0, none⟩), x7, x8, x9, x10, x11, x12, x13, .pointer (some ⟨s1, 0, none⟩), .pointer (some ⟨s2, 0, none⟩), .pointer (some ⟨s3, 0, none⟩), x17, x18, .slice ka rs.length kc, .int .i64 t, .int .i64 off, x22, x23, x24, x25, x26, x27, x28, x29, x30, x31, x32, x33, x34, x35, x36, x37, x38, x39, x40, x41, x42, x43, x44, x45, x46, x47, x48, x49, x50, x51, x52, x53, x54, x55, x56, x57, x58, x59, x60, x61, x62, x63, x64, x65, x66, x67, x68, x69, x70, x71, x72, x73, x74, x75, x76, x77, x78, x79, x80, x81, x82, x83, x84, x85, x86, x87, x88, x89, x90, x91, x92, x93, x94, x95, x96, x97, x98, x99, x100, x101, x102, x103, x104, x105, x106, x107, x108, x109, x110, x111, x112, x113, x114, x115, x116, x117, x118, x119, x120, x121, x122, x123, x124, x125, x126, x127, x128, x129, x130, x131, x132, x133, x134, x135, x136, x137, x138, x139, x140, x141, x142, x143, x144, x145, x146, x147, x148, x149, x150, x151, x152, x153, x154, x155, x156, x157, x158, x159, x160, x161, x162, x163, x164, x165, x166, x167, x168, x169, x170, x171, x172, x173, x174, x175, x176, x177, x178, x179, x180, x181, x182, x183, x184, x185, x186, x187, x188, x189, x190, x191, x192, x193, x194, x195, x196, x197, x198, x199, x200, x201, x202, x203, x204, x205, x206, x207, x208, x209, x210, x211, x212, x213, x214, x215, x216, x217, x218, x219, x220, x221, x222, x223, x224, x225, x226, x227, x228, x229, x230, x231, x232, x233, x234, x235, x236, x237, x238, x239, x240, x241, x242, x243, x244, x245, x246, x247, x248, x249, x250, x251, x252, x253, x254, x255, x256, x257, x258, x259, x260, x261, x262, x263, x264, x265, x266, x267, x268, x269, x270, x271, x272, x273, x274, x275, x276, x277, x278, x279, x280, x281, x282, x283, x284, x285, x286, x287, x288, x289, x290, x291, x292, x293, x294, x295, x296, x297, x298, x299, x300, x301, x302, x303, x304, x305, x306, x307, x308, x309, x310, x311, x312, x313, x314, x315, x316, x317, x318, x319, x320, x321, x322, x323, x324, x325, x326, x327, x328, x329, x330, x331, x332, x333, x334, x335, x336, x337, x338, x339, x340, x341, x342, x343, x344, x345, x346, x347, x348, x349, x350, x351, x352, x353, x354, x355, x356, x357, x358, x359, x360, x361, x362, x363, x364, x365, x366, x367, x368, x369, x370, x371, x372, x373, x374, x375, x376, x377, x378, x379, x380, x381, x382, x383], defers := [] } wr := by
  conv => arg 2; whnf
  have hmx : Try.prog.follows .mixedOrders = true := by kernel_rfl
  have SP := Lib.hid (fun a b w1 => lawSpan_any a b w1)
  have LA := Lib.hid (fun w1 (k : Keeps w w1) => Length_any ⟨mark, llo, lhi, clo, chi, ra, rc, rs⟩ w1 (hI.keep k))
  have LB := Lib.hid (fun w1 (k : Keeps w w1) => Coeff_any ⟨mark, llo, lhi, clo, chi, ra, rc, rs⟩ w1 (hI.keep k))
  have LC := Lib.hid (fun w1 (k : Keeps w w1) => Shows_any ⟨mark, llo, lhi, clo, chi, ra, rc, rs⟩ t t w1 (hI.keep k))
  rw [e1] at LA
  rw [e2] at LB
  rw [e3] at LC
  dsimp only [Wm.v, spV] at LA LB LC
  have H1 := Lib.hid e1
  have H2 := Lib.hid e2
  have H3 := Lib.hid e3
  have H4 := Lib.hid e4
  have H5 := Lib.hid e5
  have HI := Lib.hid hI
  have HBX := Lib.hid bX
  have HBY := Lib.hid bY
  have HBZ := Lib.hid bZ
  have HX := Lib.hid hX
  have HY := Lib.hid hY
  have HZ := Lib.hid hZ
  have HB := Lib.hid hB
  have NX := Lib.hid fX
  have NY := Lib.hid fY
  have NZ := Lib.hid fZ
  have SZ := Lib.hid sZ
  have HRD := Lib.hid hK
  obtain ⟨g0, g1, g2, g3, g4, g5⟩ := hB
  dsimp only at g0 g1 g2 g3 g4 g5
  have hlv := lt_of_cell g0
  clear e1 e2 e3 e4 e5 hI bX bY bZ hX hY hZ fX fY fZ sZ hK
  go_wp2_with fail
  refine (LA.out _ kk).mono ?_
  rintro e w2 ⟨rfl, kw⟩
  replace g0 := kw.cell g0
  replace g1 := kw.cell g1
  replace g2 := kw.cell g2
  replace g3 := kw.cell g3
  replace g4 := kw.cell g4
  replace g5 := kw.cell g5
  replace hlv := lt_of_cell g0
  go_wp2_with fail
  obtain ⟨sa, hsa⟩ : ∃ s, w2.heap.size = s := ⟨_, rfl⟩
  obtain ⟨w3, hw3⟩ : ∃ s, w2.alloc (.cells #[.int .i64 ax, .int .i64 ay] 23) = s := ⟨_, rfl⟩
  have k3 : Keeps w2 w3 := by rw [← hw3]; exact (Keeps.refl _).alloc _
  have ca0 : w3.cell? ⟨sa, 0, none⟩ = some (.int .i64 ax) := by rw [← hw3, ← hsa]; simp [go_sem]
  have ca1 : w3.cell? ⟨sa, 1, none⟩ = some (.int .i64 ay) := by rw [← hw3, ← hsa]; simp [go_sem]
  rw [hw3, hsa]
  clear hw3 hsa
  replace kw := kw.trans k3
  replace g0 := k3.cell g0
  replace g1 := k3.cell g1
  replace g2 := k3.cell g2
  replace g3 := k3.cell g3
  replace g4 := k3.cell g4
  replace g5 := k3.cell g5
  refine (LB.out _ (kk.trans kw)).mono ?_
  rintro e w4 ⟨rfl, k4⟩
  replace kw := kw.trans k4
  replace g0 := k4.cell g0
  replace g1 := k4.cell g1
  replace g2 := k4.cell g2
  replace g3 := k4.cell g3
  replace g4 := k4.cell g4
  replace g5 := k4.cell g5
  replace ca0 := k4.cell ca0
  replace ca1 := k4.cell ca1
  replace hlv := lt_of_cell g0
  have hl5 := lt_of_cell ca0
  go_upto_region 27 with fail
  obtain ⟨sb, hsb⟩ : ∃ s, w4.heap.size = s := ⟨_, rfl⟩
  obtain ⟨w6, hw6⟩ : ∃ s, w4.alloc (.cells #[.int .i64 bx, .int .i64 bz] 23) = s := ⟨_, rfl⟩
  have k6 : Keeps w4 w6 := by rw [← hw6]; exact (Keeps.refl _).alloc _
  have cb0 : w6.cell? ⟨sb, 0, none⟩ = some (.int .i64 bx) := by rw [← hw6, ← hsb]; simp [go_sem]
  have cb1 : w6.cell? ⟨sb, 1, none⟩ = some (.int .i64 bz) := by rw [← hw6, ← hsb]; simp [go_sem]
  rw [hw6, hsb]
  clear hw6 hsb
  replace kw := kw.trans k6
  replace g0 := k6.cell g0
  replace g1 := k6.cell g1
  replace g2 := k6.cell g2
  replace g3 := k6.cell g3
  replace g4 := k6.cell g4
  replace g5 := k6.cell g5
  replace ca0 := k6.cell ca0
  replace ca1 := k6.cell ca1
  replace hlv := lt_of_cell g0
  go_cut [27, 28] (fun p q wx => Tolm w6 cx cy E p q wx)
  case first =>
    have k5d := (Keeps.refl w6).drew
    haveI : Nonempty (Inw (fun w' => Keeps w6 w')) := ⟨⟨w6, Keeps.refl _⟩⟩
    have e0 : ∀ q : Inw (fun w' => Keeps w6 w'), q.W.cell? ⟨b0, 0, none⟩ = some (.int .i64 mark) := fun q => q.h.cell g0
    have e1 : ∀ q : Inw (fun w' => Keeps w6 w'), q.W.cell? ⟨b0, 1, none⟩ = some (.int .i64 llo) := fun q => q.h.cell g1
    have e2 : ∀ q : Inw (fun w' => Keeps w6 w'), q.W.cell? ⟨b0, 2, none⟩ = some (.int .i64 lhi) := fun q => q.h.cell g2
    have e3 : ∀ q : Inw (fun w' => Keeps w6 w'), q.W.cell? ⟨b0, 3, none⟩ = some (.int .i64 clo) := fun q => q.h.cell g3
    have e4 : ∀ q : Inw (fun w' => Keeps w6 w'), q.W.cell? ⟨b0, 4, none⟩ = some (.int .i64 chi) := fun q => q.h.cell g4
    have e5 : ∀ q : Inw (fun w' => Keeps w6 w'), q.W.cell? ⟨b0, 5, none⟩ = some (.slice ra rs.length rc) := fun q => q.h.cell g5
    go_wp2_with fail
    refine (wpIn_wide (n := 3)).1 ?_
    refine cix_start hmx (fun w' => Keeps w6 w') ?_
    refine cix_quiet (m := 8) (CixOk.of (fun _ => trivial) (fun _ _ _ _ hd h => ⟨hd.symm.trans h.1, h.2⟩) (by kernel_rfl)) [0, 1, 2] rfl (by kernel_rfl) k5d ?_
    show wpQuietIn _ _ _ _ _ _ [_, _, _] _
    iterate 3 (gi_big_quiet_step (fail))
    refine wpQuietIn_nil ?_
    refine cix_two (m := 7) 3 _ 8 _ rfl rfl rfl (by kernel_rfl) ?_ ?_
    · show wpListIn _ _ _ _ _ [_] _ _
      gi_wp2_with fail
      rename_i hK
      refine ⟨trivial, ((callsIn_wide (n := 2)).2 (SP.out (t) (t) _)).mono ?_⟩
      rintro e u1 ⟨rfl, k⟩
      have c1 := k5d.trans k
      refine hK _ _ (.inl ⟨rfl, c1, ?_⟩)
      clear hK k
      refine cix_two (m := 6) 4 _ 8 _ rfl rfl rfl (by kernel_rfl) ?_ ?_
      · show wpListIn _ _ _ _ _ [_] _ _
        gi_wp2_with fail
        rename_i hK
        refine ⟨trivial, ((callsIn_wide (n := 2)).2 (LC.out _ (kk.trans (kw.trans c1)))).mono ?_⟩
        rintro e u2 ⟨rfl, k⟩
        have c2 := c1.trans k
        refine hK _ _ (.inl ⟨rfl, c2, ?_⟩)
        clear hK k
        refine cix_quiet (m := 3) (CixOk.of (fun _ => trivial) (fun _ _ _ _ hd h => ⟨hd.symm.trans h.1, h.2⟩) (by kernel_rfl)) [5, 6, 7] rfl (by kernel_rfl) c2 ?_
        show wpQuietIn _ _ _ _ _ _ [_, _, _] _
        iterate 3 (gi_big_quiet_step (fail))
        refine wpQuietIn_nil ?_
        refine cix_one (m := 2) 8 _ rfl rfl (by kernel_rfl) ?_
        show wpListIn _ _ _ _ _ [_] _ _
        gi_wp2_with fail
        obtain ⟨s, hs⟩ : ∃ s, u2.heap.size = s := ⟨_, rfl⟩
        obtain ⟨u3, hu3⟩ : ∃ v, u2.alloc (.cells #[.int .i64 0, .int .i64 0] 23) = v := ⟨_, rfl⟩
        have c3 : Keeps w6 u3 := by rw [← hu3]; exact c2.alloc _
        have a0 : u3.cell? ⟨s, 0, none⟩ = some (.int .i64 0) := by rw [← hu3, ← hs]; simp [go_sem]
        have a1 : u3.cell? ⟨s, 1, none⟩ = some (.int .i64 0) := by rw [← hu3, ← hs]; simp [go_sem]
        have z0 : u3.frozen? ⟨s, 0, none⟩ = false := by rw [← hu3, ← hs]; simp [go_sem]
        have z1 : u3.frozen? ⟨s, 1, none⟩ = false := by rw [← hu3, ← hs]; simp [go_sem]
        have hsz : w6.heap.size ≤ s := by rw [← hs]; exact c2.size
        rw [hu3, hs]
        clear hu3 hs
        refine ⟨c3, ?_⟩
        refine cix_one (m := 1) 9 _ rfl rfl (by kernel_rfl) ?_
        show wpListIn _ _ _ _ _ [_] _ _
        have hT : TwoI u3 s 0 0 := ⟨a0, a1, z0, z1⟩
        have kY : Keeps w6 ((u3.setCell ⟨s, 0, none⟩ (.int .i64 cx)).setCell ⟨s, 1, none⟩ (.int .i64 cy)) := (c3.setCell (p := ⟨s, 0, none⟩) _ hsz).setCell (p := ⟨s, 1, none⟩) _ hsz
        have hT2 := (hT.set0 (cx)).set1 (cy)
        gi_wp2_with fail
        refine cix_one (m := 0) 10 _ rfl rfl (by kernel_rfl) ?_
        show wpListIn _ _ _ _ _ [_] _ _
        gi_wp2_with fail
        refine cix_done (by kernel_rfl) ?_ _
        go_wp2_with fail
        go_meet
        exact ⟨s, rfl, hsz, hT2, kY, rfl⟩
      · show wpListIn _ _ _ _ _ [_] _ _
        gi_wp2_with fail
        obtain ⟨s, hs⟩ : ∃ s, u1.heap.size = s := ⟨_, rfl⟩
        obtain ⟨u2, hu2⟩ : ∃ v, u1.alloc (.cells #[.int .i64 0, .int .i64 0] 23) = v := ⟨_, rfl⟩
        have c2 : Keeps w6 u2 := by rw [← hu2]; exact c1.alloc _
        have a0 : u2.cell? ⟨s, 0, none⟩ = some (.int .i64 0) := by rw [← hu2, ← hs]; simp [go_sem]
        have a1 : u2.cell? ⟨s, 1, none⟩ = some (.int .i64 0) := by rw [← hu2, ← hs]; simp [go_sem]
        have z0 : u2.frozen? ⟨s, 0, none⟩ = false := by rw [← hu2, ← hs]; simp [go_sem]
        have z1 : u2.frozen? ⟨s, 1, none⟩ = false := by rw [← hu2, ← hs]; simp [go_sem]
        have hsz : w6.heap.size ≤ s := by rw [← hs]; exact c1.size
        rw [hu2, hs]
        clear hu2 hs
        refine ⟨c2, ?_⟩
        refine cix_one (m := 5) 4 _ rfl rfl (by kernel_rfl) ?_
        show wpListIn _ _ _ _ _ [_] _ _
        gi_wp2_with fail
        rename_i hK
        refine ⟨trivial, ((callsIn_wide (n := 2)).2 (LC.out _ (kk.trans (kw.trans c2)))).mono ?_⟩
        rintro e u3 ⟨rfl, k⟩
        have c3 := c2.trans k
        have hss := lt_of_cell a0
        replace z0 := (k.cells.2 s 0 hss).trans z0
        replace z1 := (k.cells.2 s 1 hss).trans z1
        replace a0 := k.cell a0
        replace a1 := k.cell a1
        refine hK _ _ (.inl ⟨rfl, c3, ?_⟩)
        clear hK k
        refine cix_quiet (m := 2) (CixOk.of (fun _ => trivial) (fun _ _ _ _ hd h => ⟨hd.symm.trans h.1, h.2⟩) (by kernel_rfl)) [5, 6, 7] rfl (by kernel_rfl) c3 ?_
        show wpQuietIn _ _ _ _ _ _ [_, _, _] _
        iterate 3 (gi_big_quiet_step (fail))
        refine wpQuietIn_nil ?_
        refine cix_one (m := 1) 9 _ rfl rfl (by kernel_rfl) ?_
        show wpListIn _ _ _ _ _ [_] _ _
        have hT : TwoI u3 s 0 0 := ⟨a0, a1, z0, z1⟩
        have kY : Keeps w6 ((u3.setCell ⟨s, 0, none⟩ (.int .i64 cx)).setCell ⟨s, 1, none⟩ (.int .i64 cy)) := (c3.setCell (p := ⟨s, 0, none⟩) _ hsz).setCell (p := ⟨s, 1, none⟩) _ hsz
        have hT2 := (hT.set0 (cx)).set1 (cy)
        gi_wp2_with fail
        refine cix_one (m := 0) 10 _ rfl rfl (by kernel_rfl) ?_
        show wpListIn _ _ _ _ _ [_] _ _
        gi_wp2_with fail
        refine cix_done (by kernel_rfl) ?_ _
        go_wp2_with fail
        go_meet
        exact ⟨s, rfl, hsz, hT2, kY, rfl⟩
    · show wpListIn _ _ _ _ _ [_] _ _
      gi_wp2_with fail
      obtain ⟨s, hs⟩ : ∃ s, w6.heap.size = s := ⟨_, rfl⟩
      obtain ⟨u1, hu1⟩ : ∃ v, (w6.alloc (.cells #[.int .i64 0, .int .i64 0] 23)).drew = v := ⟨_, rfl⟩
      have c1 : Keeps w6 u1 := by rw [← hu1]; exact ((Keeps.refl w6).alloc _).drew
      have a0 : u1.cell? ⟨s, 0, none⟩ = some (.int .i64 0) := by rw [← hu1, ← hs]; simp [go_sem]
      have a1 : u1.cell? ⟨s, 1, none⟩ = some (.int .i64 0) := by rw [← hu1, ← hs]; simp [go_sem]
      have z0 : u1.frozen? ⟨s, 0, none⟩ = false := by rw [← hu1, ← hs]; simp [go_sem]
      have z1 : u1.frozen? ⟨s, 1, none⟩ = false := by rw [← hu1, ← hs]; simp [go_sem]
      have hsz : w6.heap.size ≤ s := by rw [← hs]; exact (Keeps.refl w6).size
      rw [hu1, hs]
      clear hu1 hs
      refine ⟨c1, ?_⟩
      refine cix_one (m := 6) 3 _ rfl rfl (by kernel_rfl) ?_
      show wpListIn _ _ _ _ _ [_] _ _
      gi_wp2_with fail
      rename_i hK
      refine ⟨trivial, ((callsIn_wide (n := 2)).2 (SP.out (t) (t) _)).mono ?_⟩
      rintro e u2 ⟨rfl, k⟩
      have c2 := c1.trans k
      have hss := lt_of_cell a0
      replace z0 := (k.cells.2 s 0 hss).trans z0
      replace z1 := (k.cells.2 s 1 hss).trans z1
      replace a0 := k.cell a0
      replace a1 := k.cell a1
      refine hK _ _ (.inl ⟨rfl, c2, ?_⟩)
      clear hK k
      refine cix_one (m := 5) 4 _ rfl rfl (by kernel_rfl) ?_
      show wpListIn _ _ _ _ _ [_] _ _
      gi_wp2_with fail
      rename_i hK
      refine ⟨trivial, ((callsIn_wide (n := 2)).2 (LC.out _ (kk.trans (kw.trans c2)))).mono ?_⟩
      rintro e u3 ⟨rfl, k⟩
      have c3 := c2.trans k
      have hss := lt_of_cell a0
      replace z0 := (k.cells.2 s 0 hss).trans z0
      replace z1 := (k.cells.2 s 1 hss).trans z1
      replace a0 := k.cell a0
      replace a1 := k.cell a1
      refine hK _ _ (.inl ⟨rfl, c3, ?_⟩)
      clear hK k
      refine cix_quiet (m := 2) (CixOk.of (fun _ => trivial) (fun _ _ _ _ hd h => ⟨hd.symm.trans h.1, h.2⟩) (by kernel_rfl)) [5, 6, 7] rfl (by kernel_rfl) c3 ?_
      show wpQuietIn _ _ _ _ _ _ [_, _, _] _
      iterate 3 (gi_big_quiet_step (fail))
      refine wpQuietIn_nil ?_
      refine cix_one (m := 1) 9 _ rfl rfl (by kernel_rfl) ?_
      show wpListIn _ _ _ _ _ [_] _ _
      have hT : TwoI u3 s 0 0 := ⟨a0, a1, z0, z1⟩
      have kY : Keeps w6 ((u3.setCell ⟨s, 0, none⟩ (.int .i64 cx)).setCell ⟨s, 1, none⟩ (.int .i64 cy)) := (c3.setCell (p := ⟨s, 0, none⟩) _ hsz).setCell (p := ⟨s, 1, none⟩) _ hsz
      have hT2 := (hT.set0 (cx)).set1 (cy)
      gi_wp2_with fail
      refine cix_one (m := 0) 10 _ rfl rfl (by kernel_rfl) ?_
      show wpListIn _ _ _ _ _ [_] _ _
      gi_wp2_with fail
      refine cix_done (by kernel_rfl) ?_ _
      go_wp2_with fail
      go_meet
      exact ⟨s, rfl, hsz, hT2, kY, rfl⟩
  case rest =>
    obtain ⟨sc, rfl, hsq, hTQ, k7, rfl⟩ := hcut
    rename_i hK
    refine hK _ _ (wp_mo (c' := more_from 28) (by kernel_rfl) ?_)
    replace kw := kw.trans k7
    exact more_28 mark llo lhi clo chi ra rc rs b0 s1 s2 s3 sa sb sc ka kc t off E dd cn ax ay bx bz cx cy X Y Z w _ HI.out (kk.trans kw) (HB.out.keep kw) (HRD.out.keep kw) hl (HBX.out.keep kw) (HX.out.keep kw) (HBY.out.keep kw) (HY.out.keep kw) (HBZ.out.keep kw) (HZ.out.keep kw) NX.out NY.out NZ.out SZ.out H1.out H2.out H3.out H4.out H5.out (k7.cell ca0) (k7.cell ca1) (k7.cell cb0) (k7.cell cb1) hTQ.c0 hTQ.c1 _ _ _ _ _ _ _ _ _ _ _ _ _ _ _ _ _ _ _ _ _ _ _ _ _ _ _ _ _ _ _ _ _ _ _ _ _ _ _ _ _ _ _ _ _ _ _ _ _ _ _ _ _ _ _ _ _ _ _ _ _ _ _ _ _ _ _ _ _ _ _ _ _ _ _ _ _ _ _ _ _ _ _ _ _ _ _ _ _ _ _ _ _ _ _ _ _ _ _ _ _ _ _ _ _ _ _ _ _ _ _ _ _ _ _ _ _ _ _ _ _ _ _ _ _ _ _ _ _ _ _ _ _ _ _ _ _ _ _ _ _ _ _ _ _ _ _ _ _ _ _ _ _ _ _ _ _ _ _ _ _ _ _ _ _ _ _ _ _ _ _ _ _ _ _ _ _ _ _ _ _ _ _ _ _ _ _ _ _ _ _ _ _ _ _ _ _ _ _ _ _ _ _ _ _ _ _ _ _ _ _ _ _ _ _ _ _ _ _ _ _ _ _ _ _ _ _ _ _ _ _ _ _ _ _ _ _ _ _ _ _ _ _ _ _ _ _ _ _ _ _ _ _ _ _ _ _ _ _ _ _ _ _ _ _ _ _ _ _ _ _ _ _ _ _ _ _ _ _ _ _ _ _ _ _ _ _ _ _ _ _ _ _ _ _ _ _ _ _ _ _ _ _ _ _ _ _ _ _ _ _ _ _ _ _ _ _ _ _ _ _ _ _ _ _ _ _ _ _ _ _ _ _ _ _ _ _ _ _ _ _ _ _ _ _ _ _ _ _ _ _ _ _ _ _ _ _ _ _ _ _ _ _ _ _ _ _ _ _ _
end Go.Proofs.Ytmhpgjlegajpeaa
