/-
  WarmMore from its region 22 on: the readings kept; the warmth and the number that are asked for.
-/
import Derived.Test.YtmhpgjlegajpeaaM7
import Derived.Test.YtmhpgjlegajpeaaN1
import Derived.Deep.DeepCutAuto
namespace Go.Proofs.Ytmhpgjlegajpeaa
open Go.RowKit

set_option maxRecDepth 100000 in
set_option maxHeartbeats 40000000 in
theorem more_22 (mark llo lhi clo chi : Int) (ra : Option Addr) (rc : Nat) (rs : List Wr) (b0 s1 s2 s3 : Nat) (at8 of16 : Int) (X Y Z : Wm) (w wr : World)
    (hok : Wm.ok ⟨mark, llo, lhi, clo, chi, ra, rc, rs⟩ = true) (hI : Wm.In ⟨mark, llo, lhi, clo, chi, ra, rc, rs⟩ w) (kk : Keeps w wr) (hB : Wm.Box ⟨mark, llo, lhi, clo, chi, ra, rc, rs⟩ wr b0) (hl : rs.length ≤ 5)
    (bX : X.Box wr s1) (hX : X.In wr) (bY : Y.Box wr s2) (hY : Y.In wr) (bZ : Z.Box wr s3) (hZ : Z.In wr)
    (a0 : 0 ≤ at8) (a1 : at8 ≤ 255) (f0 : 0 ≤ of16) (f1 : of16 ≤ 65535)
    (fX : X.ok = true → Less X ⟨mark, llo, lhi, clo, chi, ra, rc, rs⟩) (fY : Y.ok = true → Less Y ⟨mark, llo, lhi, clo, chi, ra, rc, rs⟩) (fZ : Z.ok = true → Less Z ⟨mark, llo, lhi, clo, chi, ra, rc, rs⟩) (z1 : Z.mark = mark) (z2 : Z.ok = Wm.ok ⟨mark, llo, lhi, clo, chi, ra, rc, rs⟩) (z3 : Z.truths = Wm.truths ⟨mark, llo, lhi, clo, chi, ra, rc, rs⟩)
    (x0 x1 x2 x3 x7 x8 x9 x10 x11 x12 x13 x17 x18 x19 x20 x21 x22 x23 x24 x25 x26 x27 x28 x29 x30 x31 x32 x33 x34 x35 x36 x37 x38 x39 x40 x41 x42 x43 x44 x45 x46 x47 x48 x49 x50 x51 x52 x53 x54 x55 x56 x57 x58 x59 x60 x61 x62 x63 x64 x65 x66 x67 x68 x69 x70 x71 x72 x73 x74 x75 x76 x77 x78 x79 x80 x81 x82 x83 x84 x85 x86 x87 x88 x89 x90 x91 x92 x93 x94 x95 x96 x97 x98 x99 x100 x101 x102 x103 x104 x105 x106 x107 x108 x109 x110 x111 x112 x113 x114 x115 x116 x117 x118 x119 x120 x121 x122 x123 x124 x125 x126 x127 x128 x129 x130 x131 x132 x133 x134 x135 x136 x137 x138 x139 x140 x141 x142 x143 x144 x145 x146 x147 x148 x149 x150 x151 x152 x153 x154 x155 x156 x157 x158 x159 x160 x161 x162 x163 x164 x165 x166 x167 x168 x169 x170 x171 x172 x173 x174 x175 x176 x177 x178 x179 x180 x181 x182 x183 x184 x185 x186 x187 x188 x189 x190 x191 x192 x193 x194 x195 x196 x197 x198 x199 x200 x201 x202 x203 x204 x205 x206 x207 x208 x209 x210 x211 x212 x213 x214 x215 x216 x217 x218 x219 x220 x221 x222 x223 x224 x225 x226 x227 x228 x229 x230 x231 x232 x233 x234 x235 x236 x237 x238 x239 x240 x241 x242 x243 x244 x245 x246 x247 x248 x249 x250 x251 x252 x253 x254 x255 x256 x257 x258 x259 x260 x261 x262 x263 x264 x265 x266 x267 x268 x269 x270 x271 x272 x273 x274 x275 x276 x277 x278 x279 x280 x281 x282 x283 x284 x285 x286 x287 x288 x289 x290 x291 x292 x293 x294 x295 x296 x297 x298 x299 x300 x301 x302 x303 x304 x305 x306 x307 x308 x309 x310 x311 x312 x313 x314 x315 x316 x317 x318 x319 x320 x321 x322 x323 x324 x325 x326 x327 x328 x329 x330 x331 x332 x333 x334 x335 x336 x337 x338 x339 x340 x341 x342 x343 x344 x345 x346 x347 x348 x349 x350 x351 x352 x353 x354 x355 x356 x357 x358 x359 x360 x361 x362 x363 x364 x365 x366 x367 x368 x369 x370 x371 x372 x373 x374 x375 x376 x377 x378 x379 x380 x381 x382 x383 : Value) :
    Code.wp Try.prog (more_from 22) (bodyPost Try.prog Try.f12 (RetB true w)) { tmps := #[x0, x1, x2, x3, .int .u8 at8, .int .u16 of16, .pointer (some ⟨b0, 0, none⟩), x7, x8, x9, x10, x11, x12, x13, .pointer (some ⟨s1, 0, none⟩), .pointer (some ⟨s2, 0, none⟩), .pointer (some ⟨s3, 0, none⟩), x17, x18, x19, x20, x21, x22, x23, x24, x25, x26, x27, x28, x29, x30, x31, x32, x33, x34, x35, x36, x37, x38, x39, x40, x41, x42, x43, x44, x45, x46, x47, x48, x49, x50, x51, x52, x53, x54, x55, x56, x57, x58, x59, x60, x61, x62, x63, x64, x65, x66, x67, x68, x69, x70, x71, x72, x73, x74, x75, x76, x77, x78, x79, x80, x81, x82, x83, x84, x85, x86, x87, x88, x89, x90, x91, x92, x93, x94, x95, x96, x97, x98, x99, x100, x101, x102, x103, x104, x105, x106, x107, x108, x109, x110, x111, x112, x113, x114, x115, x116, x117, x118, x119, x120, x121, x122, x123, x124, x125, x126, x127, x128, x129, x130, x131, x132, x133, x134, x135, x136, x137, x138, x139, x140, x141, x142, x143, x144, x145, x146, x147, x148, x149, x150, x151, x152, x153, x154, x155, x156, x157, x158, x159, x160, x161, x162, x163, x164, x165, x166, x167, x168, x169, x170, x171, x172, x173, x174, x175, x176, x177, x178, x179, x180, x181, x182, x183, x184, x185, x186, x187, x188, x189, x190, x191, x192, x193, x194, x195, x196, x197, x198, x199, x200, x201, x202, x203, x204, x205, x206, x207, x208, x209, x210, x211, x212, x213, x214, x215, x216, x217, x218, x219, x220, x221, x222, x223, x224, x225, x226, x227, x228, x229, x230, x231, x232, x233, x234, x235, x236, x237, x238, x239, x240, x241, x242, x243, x244, x245, x246, x247, x248, x249, x250, x251, x252, x253, x254, x255, x256, x257, x258, x259, x260, x261, x262, x263, x264, x265, x266, x267, x268, x269, x270, x271, x272, x273, x274, x275, x276, x277, x278, x279, x280, x281, x282, x283, x284, x285, x286, x287, x288, x289, x290, x291, x292, x293, x294, x295, x296, x297, x298, x299, x300, x301, x302, x303, x304, x305, x306, x307, x308, x309, x310, x311, x312, x313, x314, x315, x316, x317, x318, x319, x320, x321, x322, x323, x324, x325, x326, x327, x328, x329, x330, x331, x332, x333, x334, x335, x336, x337, x338, x339, x340, x341, x342, x343, x344, x345, x346, x347, x348, x349, x350, x351, x352, x353, x354, x355, x356, x357, x358, x359, x360, x361, x362, x363, x364, x365, x366, x367, x368, x369, x370, x371, x372, x373, x374, x375, x376, x377, x378, x379, x380, x381, x382, x383], defers := [] } wr := by
  conv => arg 2; whnf
  obtain ⟨r, hr⟩ : ∃ r, at8 % 201 = r := ⟨_, rfl⟩
  obtain ⟨t, ht⟩ : ∃ t, r - 100 = t := ⟨_, rfl⟩
  obtain ⟨off, hoff⟩ : ∃ r, of16 % 30001 = r := ⟨_, rfl⟩
  have t0 : -100 ≤ t := by omega
  have t1 : t ≤ 100 := by omega
  have o0 : 0 ≤ off := by omega
  have o1 : off ≤ 30000 := by omega
  have hN := (Less.same ⟨mark, llo, lhi, clo, chi, ra, rc, rs⟩).narrower hok hok t0 t1 o0 o1
  have NX := Lib.hid (fun h => (fX h).narrower h hok t0 t1 o0 o1)
  have NY := Lib.hid (fun h => (fY h).narrower h hok t0 t1 o0 o1)
  have NZ := Lib.hid (fun h => (fZ h).narrower h hok t0 t1 o0 o1)
  have SZ := Lib.hid (turned_same (B := ⟨mark, llo, lhi, clo, chi, ra, rc, rs⟩) z1 z2 z3 t off)
  obtain ⟨r1, hr1⟩ : ∃ r, Wm.lenA ⟨mark, llo, lhi, clo, chi, ra, rc, rs⟩ = r := ⟨_, rfl⟩
  obtain ⟨r2, hr2⟩ : ∃ r, Wm.coeffA ⟨mark, llo, lhi, clo, chi, ra, rc, rs⟩ = r := ⟨_, rfl⟩
  obtain ⟨r3, hr3⟩ : ∃ r, Wm.showsA ⟨mark, llo, lhi, clo, chi, ra, rc, rs⟩ t t = r := ⟨_, rfl⟩
  obtain ⟨r4, hr4⟩ : ∃ r, Wm.roomA ⟨mark, llo, lhi, clo, chi, ra, rc, rs⟩ off = r := ⟨_, rfl⟩
  obtain ⟨r5, hr5⟩ : ∃ r, Wm.countA ⟨mark, llo, lhi, clo, chi, ra, rc, rs⟩ = r := ⟨_, rfl⟩
  unfold Narrower at hN
  rw [hr1, hr2, hr3, hr4, hr5] at hN
  obtain ⟨⟨ax, ay⟩, E⟩ := r1
  obtain ⟨⟨bx, bz⟩, E2⟩ := r2
  obtain ⟨⟨cx, cy⟩, E3⟩ := r3
  obtain ⟨dd, E4⟩ := r4
  obtain ⟨cn, E5⟩ := r5
  obtain ⟨q2, q3, q4, q5, _, _⟩ := hN
  dsimp only at q2 q3 q4 q5
  rw [q2] at hr2
  rw [q3] at hr3
  rw [q4] at hr4
  rw [q5] at hr5
  have H1 := Lib.hid hr1
  have H2 := Lib.hid hr2
  have H3 := Lib.hid hr3
  have H4 := Lib.hid hr4
  have H5 := Lib.hid hr5
  have HI := Lib.hid hI
  have HBX := Lib.hid bX
  have HBY := Lib.hid bY
  have HBZ := Lib.hid bZ
  have HX := Lib.hid hX
  have HY := Lib.hid hY
  have HZ := Lib.hid hZ
  have HB := Lib.hid hB
  have g5 := hB.c5
  dsimp only at g5
  clear q2 q3 q4 q5 hr1 hr2 hr3 hr4 hr5 bX bY bZ hX hY hZ hB fX fY fZ z1 z2 z3 hok
  obtain ⟨M, hM⟩ : ∃ s, wr.heap.size = s := ⟨_, rfl⟩
  have k1 := (Keeps.refl wr).alloc (.cells #[] 53)
  have AQ := Lib.hid (append_reads (wr.alloc (.cells #[] 53)) M 24 (.slice (some ⟨M, 0, none⟩) 0 0) 0 [] (by rw [← hM]; exact World.ownsRow_lit (base := wr.heap.size) (e := 53) (size := 4) wr #[] 0 (Nat.le_refl _) (by simp [maxLen]) rfl) ra rc rs ((hI.rds).keep (kk.trans k1)) (by omega) (by rw [← hM]; simp))
  have g5b := k1.cell g5
  have hlb5 := lt_of_cell g5b
  have hlb6 := lt_of_cell g5
  clear hI
  go_upto_region 23 with (at_builtin; refine wpList_step ?_; intro K hK6; refine step_append_run (by rfl) (.tmp 171) (.tmp 173) 24 (by rfl) (.slice (some ⟨M, 0, none⟩) 0 0) (.slice ra rs.length rc) (by simp [Act.eval]) (by simp [Act.eval]) _ AQ.out ?_; rintro v1 w1 hgr; refine hK6 _ _ ?_)
  have hg3 : (wr.alloc (.cells #[] 53)).grownBy w1 (some M) := hgr.2
  have ho3 : w1.ownsRow M 53 4 v1 rs.length (wrCells rs) := by simpa using hgr.1
  have kw : Keeps wr w1 := Below.grown k1 hg3 k1.size (fun j e => by injection e with e; omega)
  obtain ⟨ka, kc, rfl, hrd, hkab⟩ := Wrs.of_owns (l := rs) ho3
  clear hkab
  have HRD := Lib.hid hrd
  clear hgr hg3 ho3 hrd AQ k1 g5 g5b hlb5 hlb6 hM
  go_cut [20, 21] (fun p q wx => p = .int .i64 t ∧ q = .int .i64 off ∧ Keeps w1 wx)
  case first =>
    go_wp2_with fail
    go_meet
    exact ⟨rfl, by first | rfl | rw [hoff], by first | exact Keeps.refl _ | exact (Keeps.refl _).drew⟩
  case rest =>
    obtain ⟨rfl, rfl, kz⟩ := hcut
    replace kw := kw.trans kz
    rename_i hK
    refine hK _ _ (wp_mo (c' := more_from 24) (by kernel_rfl) ?_)
    exact more_24 mark llo lhi clo chi ra rc rs b0 s1 s2 s3 ka kc t off E dd cn ax ay bx bz cx cy X Y Z w _ HI.out (kk.trans kw) (HB.out.keep kw) (HRD.out.keep kz) hl (HBX.out.keep kw) (HX.out.keep kw) (HBY.out.keep kw) (HY.out.keep kw) (HBZ.out.keep kw) (HZ.out.keep kw) NX.out NY.out NZ.out SZ.out H1.out H2.out H3.out H4.out H5.out _ _ _ _ _ _ _ _ _ _ _ _ _ _ _ _ _ _ _ _ _ _ _ _ _ _ _ _ _ _ _ _ _ _ _ _ _ _ _ _ _ _ _ _ _ _ _ _ _ _ _ _ _ _ _ _ _ _ _ _ _ _ _ _ _ _ _ _ _ _ _ _ _ _ _ _ _ _ _ _ _ _ _ _ _ _ _ _ _ _ _ _ _ _ _ _ _ _ _ _ _ _ _ _ _ _ _ _ _ _ _ _ _ _ _ _ _ _ _ _ _ _ _ _ _ _ _ _ _ _ _ _ _ _ _ _ _ _ _ _ _ _ _ _ _ _ _ _ _ _ _ _ _ _ _ _ _ _ _ _ _ _ _ _ _ _ _ _ _ _ _ _ _ _ _ _ _ _ _ _ _ _ _ _ _ _ _ _ _ _ _ _ _ _ _ _ _ _ _ _ _ _ _ _ _ _ _ _ _ _ _ _ _ _ _ _ _ _ _ _ _ _ _ _ _ _ _ _ _ _ _ _ _ _ _ _ _ _ _ _ _ _ _ _ _ _ _ _ _ _ _ _ _ _ _ _ _ _ _ _ _ _ _ _ _ _ _ _ _ _ _ _ _ _ _ _ _ _ _ _ _ _ _ _ _ _ _ _ _ _ _ _ _ _ _ _ _ _ _ _ _ _ _ _ _ _ _ _ _ _ _ _ _ _ _ _ _ _ _ _ _ _ _ _ _ _ _ _ _ _ _ _ _ _ _ _ _ _ _ _ _ _ _ _ _ _ _ _ _ _ _ _ _ _ _ _ _ _ _ _ _ _ _ _ _ _ _ _ _ _ _ _ _ _ _ _ _
end Go.Proofs.Ytmhpgjlegajpeaa
