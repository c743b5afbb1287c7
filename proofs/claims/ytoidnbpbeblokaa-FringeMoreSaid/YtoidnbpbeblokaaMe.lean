/-
  FringeMore, from where the fringe itself is asked.
-/
import Derived.Test.YtoidnbpbeblokaaMd
namespace Go.Proofs.Ytoidnbpbeblokaa
open Go.RowKit Go.Shelf

/-- Four cells at an offset hold a fringe. -/
def FrAt (W : World) (b o : Nat) (Q : Fr) : Prop := W.cell? ⟨b, o, none⟩ = some (.slice Q.wa Q.ws.length Q.wc) ∧ W.cell? ⟨b, o + 1, none⟩ = some (.int .i64 Q.lo) ∧ W.cell? ⟨b, o + 2, none⟩ = some (.int .i64 Q.hi) ∧ W.cell? ⟨b, o + 3, none⟩ = some (.slice Q.ra Q.rs.length Q.rc)
/-- What is told of Q tells no more than these numbers. -/
def LessT (cnt ps wn : Nat) (Q : Fr) (c : Nat) (first : Prop) : Prop := Q.ok = true → Q.truths.length ≤ cnt ∧ colE Q c = (if Q.truths.length = 0 then 10 else 0) ∧
  (Q.truths.length ≠ 0 → bits .andNot .i64 ((parS Q c : Nat) : Int) (ps : Int) = 0) ∧ wn ≤ Q.wn ∧ (first → Q.wn ≤ wn + 1)
theorem colE_lenE (F : Fr) (hok : F.ok = true) {c : Nat} (hc : c < F.ws.length) : colE F c = lenE F := by
  by_cases ht : F.truths = []
  · rw [colE_10 hok (by omega) ht]; simp [lenE, hok, ht]
  · rw [colE_0 hok (by omega) ht]; simp [lenE, hok, ht]
theorem FrAt.keep {W W' : World} {b o : Nat} {Q : Fr} (h : FrAt W b o Q) (k : Keeps W W') : FrAt W' b o Q := ⟨k.cell h.1, k.cell h.2.1, k.cell h.2.2.1, k.cell h.2.2.2⟩
set_option maxRecDepth 100000 in
set_option maxHeartbeats 40000000 in
theorem more_24 (wa : Option Addr) (wc : Nat) (ws : List Int) (lo hi : Int) (ra : Option Addr) (rc : Nat) (rs : List Rd) (X Y Z : Fr) (b3 b9 b10 b11 b12 c : Nat) (aw : Option Addr) (cw : Nat) (ar : Option Addr) (cr : Nat) (ta : Option Addr) (tc : Nat) (ua : Option Addr) (uc : Nat) (w wr : World) (AL : Hid (∀ w, Calls Try.prog 13 #[] w (RetB true w)))
    (hok : Fr.ok ⟨wa, wc, ws, lo, hi, ra, rc, rs⟩ = true) (hc : c < ws.length) (hB : Fr.Box ⟨wa, wc, ws, lo, hi, ra, rc, rs⟩ wr b3) (hI : Fr.In ⟨wa, wc, ws, lo, hi, ra, rc, rs⟩ wr) (hX : Fr.Box X wr b9) (hXI : Fr.In X wr) (lX : Less ⟨wa, wc, ws, lo, hi, ra, rc, rs⟩ X c True) (hY : Fr.Box Y wr b10) (hYI : Fr.In Y wr) (lY : Less ⟨wa, wc, ws, lo, hi, ra, rc, rs⟩ Y c False) (hZ : Fr.Box Z wr b11) (hZI : Fr.In Z wr) (lZ : Less ⟨wa, wc, ws, lo, hi, ra, rc, rs⟩ Z c False)
    (hT : Fr.Box (Fr.turn ⟨wa, wc, ws, lo, hi, ra, rc, rs⟩ ta tc ua uc) wr b12) (hTI : Fr.In (Fr.turn ⟨wa, wc, ws, lo, hi, ra, rc, rs⟩ ta tc ua uc) wr) (hW : Ints wr aw ws) (hR : Rds wr ar rs) (kr : Keeps w wr)
    (x0 x1 x2 x4 x5 x6 x13 x14 x15 x16 x19 x20 x21 x22 x23 x24 x25 x26 x27 x28 x29 x30 x31 x32 x33 x34 x35 x36 x37 x38 x39 x40 x41 x42 x43 x44 x45 x46 x47 x48 x49 x50 x51 x52 x53 x54 x55 x56 x57 x58 x59 x60 x61 x62 x63 x64 x65 x66 x67 x68 x69 x70 x71 x72 x73 x74 x75 x76 x77 x78 x79 x80 x81 x82 x83 x84 x85 x86 x87 x88 x89 x90 x91 x92 x93 x94 x95 x96 x97 x98 x99 x100 x101 x102 x103 x104 x105 x106 x107 x108 x109 x110 x111 x112 x113 x114 x115 x116 x117 x118 x119 x120 x121 x122 x123 x124 x125 x126 x127 x128 x129 x130 x131 x132 x133 x134 x135 x136 x137 x138 x139 x140 x141 x142 x143 x144 x145 x146 x147 x148 x149 x150 x151 x152 x153 x154 x155 x156 x157 x158 x159 x160 x161 x162 x163 x164 x165 x166 x167 x168 x169 x170 x171 x172 x173 x174 x175 x176 x177 x178 x179 x180 x181 x182 x183 x184 x185 x186 x187 x188 x189 x190 x191 x192 x193 x194 x195 x196 x197 x198 x199 x200 x201 x202 x203 x204 x205 x206 x207 x208 x209 x210 x211 x212 x213 x214 x215 x216 x217 x218 x219 x220 x221 x222 x223 x224 x225 x226 x227 x228 x229 x230 x231 x232 x233 x234 x235 x236 x237 x238 x239 x240 x241 x242 x243 x244 x245 x246 x247 x248 x249 x250 x251 x252 x253 x254 x255 x256 x257 x258 x259 x260 x261 x262 x263 x264 x265 x266 x267 x268 x269 x270 x271 x272 x273 x274 x275 x276 x277 x278 x279 x280 x281 x282 x283 x284 x285 x286 x287 x288 x289 x290 x291 x292 x293 x294 x295 x296 x297 x298 x299 x300 x301 x302 x303 x304 x305 x306 x307 x308 x309 x310 x311 x312 x313 x314 x315 x316 x317 x318 x319 x320 x321 x322 x323 x324 x325 x326 x327 x328 x329 x330 x331 x332 x333 x334 x335 x336 x337 x338 x339 x340 x341 x342 x343 x344 x345 x346 x347 x348 x349 x350 x351 x352 x353 x354 x355 x356 x357 x358 x359 x360 x361 x362 x363 x364 x365 x366 x367 x368 x369 x370 x371 x372 x373 x374 x375 x376 x377 x378 x379 x380 x381 x382 x383 x384 x385 x386 x387 x388 x389 x390 x391 x392 x393 x394 x395 x396 : Value) :
    Code.wp Try.prog (more_from 24) (bodyPost Try.prog Try.f11 (RetB true w)) { tmps := #[x0, x1, x2, .pointer (some ⟨b3, 0, none⟩), x4, x5, x6, .int .i64 (ws.length : Int), .int .i64 (c : Int), .pointer (some ⟨b9, 0, none⟩), .pointer (some ⟨b10, 0, none⟩), .pointer (some ⟨b11, 0, none⟩), .pointer (some ⟨b12, 0, none⟩), x13, x14, x15, x16, .slice aw ws.length cw, .slice ar rs.length cr, x19, x20, x21, x22, x23, x24, x25, x26, x27, x28, x29, x30, x31, x32, x33, x34, x35, x36, x37, x38, x39, x40, x41, x42, x43, x44, x45, x46, x47, x48, x49, x50, x51, x52, x53, x54, x55, x56, x57, x58, x59, x60, x61, x62, x63, x64, x65, x66, x67, x68, x69, x70, x71, x72, x73, x74, x75, x76, x77, x78, x79, x80, x81, x82, x83, x84, x85, x86, x87, x88, x89, x90, x91, x92, x93, x94, x95, x96, x97, x98, x99, x100, x101, x102, x103, x104, x105, x106, x107, x108, x109, x110, x111, x112, x113, x114, x115, x116, x117, x118, x119, x120, x121, x122, x123, x124, x125, x126, x127, x128, x129, x130, x131, x132, x133, x134, x135, x136, x137, x138, x139, x140, x141, x142, x143, x144, x145, x146, x147, x148, x149, x150, x151, x152, x153, x154, x155, x156, x157, x158, x159, x160, x161, x162, x163, x164, x165, x166, x167, x168, x169, x170, x171, x172, x173, x174, x175, x176, x177, x178, x179, x180, x181, x182, x183, x184, x185, x186, x187, x188, x189, x190, x191, x192, x193, x194, x195, x196, x197, x198, x199, x200, x201, x202, x203, x204, x205, x206, x207, x208, x209, x210, x211, x212, x213, x214, x215, x216, x217, x218, x219, x220, x221, x222, x223, x224, x225, x226, x227, x228, x229, x230, x231, x232, x233, x234, x235, x236, x237, x238, x239, x240, x241, x242, x243, x244, x245, x246, x247, x248, x249, x250, x251, x252, x253, x254, x255, x256, x257, x258, x259, x260, x261, x262, x263, x264, x265, x266, x267, x268, x269, x270, x271, x272, x273, x274, x275, x276, x277, x278, x279, x280, x281, x282, x283, x284, x285, x286, x287, x288, x289, x290, x291, x292, x293, x294, x295, x296, x297, x298, x299, x300, x301, x302, x303, x304, x305, x306, x307, x308, x309, x310, x311, x312, x313, x314, x315, x316, x317, x318, x319, x320, x321, x322, x323, x324, x325, x326, x327, x328, x329, x330, x331, x332, x333, x334, x335, x336, x337, x338, x339, x340, x341, x342, x343, x344, x345, x346, x347, x348, x349, x350, x351, x352, x353, x354, x355, x356, x357, x358, x359, x360, x361, x362, x363, x364, x365, x366, x367, x368, x369, x370, x371, x372, x373, x374, x375, x376, x377, x378, x379, x380, x381, x382, x383, x384, x385, x386, x387, x388, x389, x390, x391, x392, x393, x394, x395, x396], defers := [] } wr := by
  conv => arg 2; whnf
  have LE := Lib.hid (fun w1 (k : Keeps wr w1) => Lengths_at _ w1 (hI.keep k))
  have CN := Lib.hid (fun w1 (k : Keeps wr w1) => Count_any _ w1 (hI.keep k))
  have PS := Lib.hid (fun w1 (k : Keeps wr w1) => Parts_any _ (c : Int) w1 (hI.keep k))
  have WR := Lib.hid (fun w1 (k : Keeps wr w1) => Wrong_any _ w1 (hI.keep k))
  have PD := Lib.hid (fun w1 (k : Keeps wr w1) => Period_any _ w1 (hI.keep k))
  obtain ⟨r1, r2⟩ := wrongR_is _ hok
  have htl := Fr.truths_len _ hok
  have hw6 := wn_le6 _ hok
  rw [r1, r2] at WR
  have hce : colE ⟨wa, wc, ws, lo, hi, ra, rc, rs⟩ c = lenE ⟨wa, wc, ws, lo, hi, ra, rc, rs⟩ := colE_lenE _ hok hc
  rw [hce] at PS
  obtain ⟨E, hE⟩ : ∃ E, lenE ⟨wa, wc, ws, lo, hi, ra, rc, rs⟩ = E := ⟨_, rfl⟩
  obtain ⟨L, hL⟩ : ∃ L, lenL ⟨wa, wc, ws, lo, hi, ra, rc, rs⟩ = L := ⟨_, rfl⟩
  obtain ⟨cnt, hcn⟩ : ∃ cnt, (Fr.truths ⟨wa, wc, ws, lo, hi, ra, rc, rs⟩).length = cnt := ⟨_, rfl⟩
  have hct : countR ⟨wa, wc, ws, lo, hi, ra, rc, rs⟩ = ((cnt : Int), 0) := by rw [countR, if_pos hok, hcn]
  obtain ⟨ps, hps⟩ : ∃ ps, parS ⟨wa, wc, ws, lo, hi, ra, rc, rs⟩ (c : Int) = ps := ⟨_, rfl⟩
  obtain ⟨wn, hwn⟩ : ∃ wn, Fr.wn ⟨wa, wc, ws, lo, hi, ra, rc, rs⟩ = wn := ⟨_, rfl⟩
  obtain ⟨pd, hpd⟩ : ∃ pd, period ws = pd := ⟨_, rfl⟩
  have hpr : periodR ⟨wa, wc, ws, lo, hi, ra, rc, rs⟩ = ((pd : Int), 0) := by rw [periodR, if_pos hok, ← hpd]
  obtain ⟨wx, hwx⟩ : ∃ wx, (wrongR ⟨wa, wc, ws, lo, hi, ra, rc, rs⟩).1 = wx := ⟨_, rfl⟩
  have HEND := Lib.hid (And.intro hE (And.intro hL (And.intro hct (And.intro (hce.trans hE) (And.intro hps (And.intro hwn hpr))))))
  unfold Less at lX lY lZ
  rw [hcn, hps, hwn] at lX lY lZ
  rw [hE, hL] at LE
  rw [hct] at CN
  rw [hE, hps] at PS
  rw [hwn, hwx] at WR
  rw [hpr] at PD
  rw [hwn] at hw6
  rw [hcn] at htl
  have HOK := Lib.hid hok
  have LX := Lib.hid lX
  have LY := Lib.hid lY
  have LZ := Lib.hid lZ
  have HB := Lib.hid hB
  have HX := Lib.hid hX
  have HY := Lib.hid hY
  have HZ := Lib.hid hZ
  have HT := Lib.hid hT
  have HW := Lib.hid hW
  have HR := Lib.hid hR
  have HF := Lib.hid hI
  have HFX := Lib.hid hXI
  have HFY := Lib.hid hYI
  have HFZ := Lib.hid hZI
  have HFT := Lib.hid hTI
  have g0 := HB.out.c0
  have g1 := HB.out.c1
  have g2 := HB.out.c2
  have g3 := HB.out.c3
  dsimp only [Fr.v] at g0 g1 g2 g3 LE CN PS WR PD
  have hgl := lt_of_cell g0
  have k := Keeps.refl wr
  clear hok hB hI hX hXI lX hY hYI lY hZ hZI lZ hT hTI hW hR hce hE hL hcn hct hps hwn hpd hpr hwx r1 r2
  go_wp2_with fail
  refine (LE.out _ k).mono ?_
  rintro e w2 ⟨al, cl, rfl, hs1, k1⟩
  have HL := Lib.hid hs1
  clear hs1
  replace HB := Lib.hid (HB.out.keep k1)
  replace HX := Lib.hid (HX.out.keep k1)
  replace HY := Lib.hid (HY.out.keep k1)
  replace HZ := Lib.hid (HZ.out.keep k1)
  replace HT := Lib.hid (HT.out.keep k1)
  replace HW := Lib.hid (HW.out.keep k1)
  replace HR := Lib.hid (HR.out.keep k1)
  replace HF := Lib.hid (HF.out.keep k1)
  replace HFX := Lib.hid (HFX.out.keep k1)
  replace HFY := Lib.hid (HFY.out.keep k1)
  replace HFZ := Lib.hid (HFZ.out.keep k1)
  replace HFT := Lib.hid (HFT.out.keep k1)
  replace g0 := HB.out.c0
  replace g1 := HB.out.c1
  replace g2 := HB.out.c2
  replace g3 := HB.out.c3
  dsimp only at g0 g1 g2 g3
  replace hgl := lt_of_cell g0
  replace k := k.trans k1
  clear k1 LE
  go_wp2_with fail
  refine (CN.out _ k).mono ?_
  rintro e w1 ⟨rfl, k1⟩
  replace HL := Lib.hid (HL.out.keep k1)
  replace HB := Lib.hid (HB.out.keep k1)
  replace HX := Lib.hid (HX.out.keep k1)
  replace HY := Lib.hid (HY.out.keep k1)
  replace HZ := Lib.hid (HZ.out.keep k1)
  replace HT := Lib.hid (HT.out.keep k1)
  replace HW := Lib.hid (HW.out.keep k1)
  replace HR := Lib.hid (HR.out.keep k1)
  replace HF := Lib.hid (HF.out.keep k1)
  replace HFX := Lib.hid (HFX.out.keep k1)
  replace HFY := Lib.hid (HFY.out.keep k1)
  replace HFZ := Lib.hid (HFZ.out.keep k1)
  replace HFT := Lib.hid (HFT.out.keep k1)
  replace g0 := HB.out.c0
  replace g1 := HB.out.c1
  replace g2 := HB.out.c2
  replace g3 := HB.out.c3
  dsimp only at g0 g1 g2 g3
  replace hgl := lt_of_cell g0
  replace k := k.trans k1
  clear k1 CN
  go_wp2_with fail
  refine (PS.out _ k).mono ?_
  rintro e w1 ⟨rfl, k1⟩
  replace HL := Lib.hid (HL.out.keep k1)
  replace HB := Lib.hid (HB.out.keep k1)
  replace HX := Lib.hid (HX.out.keep k1)
  replace HY := Lib.hid (HY.out.keep k1)
  replace HZ := Lib.hid (HZ.out.keep k1)
  replace HT := Lib.hid (HT.out.keep k1)
  replace HW := Lib.hid (HW.out.keep k1)
  replace HR := Lib.hid (HR.out.keep k1)
  replace HF := Lib.hid (HF.out.keep k1)
  replace HFX := Lib.hid (HFX.out.keep k1)
  replace HFY := Lib.hid (HFY.out.keep k1)
  replace HFZ := Lib.hid (HFZ.out.keep k1)
  replace HFT := Lib.hid (HFT.out.keep k1)
  replace g0 := HB.out.c0
  replace g1 := HB.out.c1
  replace g2 := HB.out.c2
  replace g3 := HB.out.c3
  dsimp only at g0 g1 g2 g3
  replace hgl := lt_of_cell g0
  replace k := k.trans k1
  clear k1 PS
  go_wp2_with fail
  refine (WR.out _ k).mono ?_
  rintro e w1 ⟨rfl, k1⟩
  replace HL := Lib.hid (HL.out.keep k1)
  replace HB := Lib.hid (HB.out.keep k1)
  replace HX := Lib.hid (HX.out.keep k1)
  replace HY := Lib.hid (HY.out.keep k1)
  replace HZ := Lib.hid (HZ.out.keep k1)
  replace HT := Lib.hid (HT.out.keep k1)
  replace HW := Lib.hid (HW.out.keep k1)
  replace HR := Lib.hid (HR.out.keep k1)
  replace HF := Lib.hid (HF.out.keep k1)
  replace HFX := Lib.hid (HFX.out.keep k1)
  replace HFY := Lib.hid (HFY.out.keep k1)
  replace HFZ := Lib.hid (HFZ.out.keep k1)
  replace HFT := Lib.hid (HFT.out.keep k1)
  replace g0 := HB.out.c0
  replace g1 := HB.out.c1
  replace g2 := HB.out.c2
  replace g3 := HB.out.c3
  dsimp only at g0 g1 g2 g3
  replace hgl := lt_of_cell g0
  replace k := k.trans k1
  clear k1 WR
  go_wp2_with fail
  refine (PD.out _ k).mono ?_
  rintro e w1 ⟨rfl, k1⟩
  replace HL := Lib.hid (HL.out.keep k1)
  replace HB := Lib.hid (HB.out.keep k1)
  replace HX := Lib.hid (HX.out.keep k1)
  replace HY := Lib.hid (HY.out.keep k1)
  replace HZ := Lib.hid (HZ.out.keep k1)
  replace HT := Lib.hid (HT.out.keep k1)
  replace HW := Lib.hid (HW.out.keep k1)
  replace HR := Lib.hid (HR.out.keep k1)
  replace HF := Lib.hid (HF.out.keep k1)
  replace HFX := Lib.hid (HFX.out.keep k1)
  replace HFY := Lib.hid (HFY.out.keep k1)
  replace HFZ := Lib.hid (HFZ.out.keep k1)
  replace HFT := Lib.hid (HFT.out.keep k1)
  replace g0 := HB.out.c0
  replace g1 := HB.out.c1
  replace g2 := HB.out.c2
  replace g3 := HB.out.c3
  dsimp only at g0 g1 g2 g3
  replace hgl := lt_of_cell g0
  replace k := k.trans k1
  clear k1 PD
  have eE : (E != E) = false := by simp
  clear g0 g1 g2 g3 hgl
  have vx0 := HX.out.c0
  have vx1 := HX.out.c1
  have vx2 := HX.out.c2
  have vx3 := HX.out.c3
  have vy0 := HY.out.c0
  have vy1 := HY.out.c1
  have vy2 := HY.out.c2
  have vy3 := HY.out.c3
  have vz0 := HZ.out.c0
  have vz1 := HZ.out.c1
  have vz2 := HZ.out.c2
  have vz3 := HZ.out.c3
  have lx := lt_of_cell vx0
  have ly := lt_of_cell vy0
  have lz := lt_of_cell vz0
  go_wp2_with fail
  obtain ⟨W, hW⟩ : ∃ W : World, w1.alloc (.cells #[.slice X.wa X.ws.length X.wc, .int .i64 X.lo, .int .i64 X.hi, .slice X.ra X.rs.length X.rc, .slice Y.wa Y.ws.length Y.wc, .int .i64 Y.lo, .int .i64 Y.hi, .slice Y.ra Y.rs.length Y.rc, .slice Z.wa Z.ws.length Z.wc, .int .i64 Z.lo, .int .i64 Z.hi, .slice Z.ra Z.rs.length Z.rc] 27) = W := ⟨_, rfl⟩
  have kW : Keeps w1 W := hW ▸ (Keeps.refl w1).alloc _
  have QS := Lib.hid (show ∀ k : Nat, k < 3 → ∃ Q : Fr, FrAt W w1.heap.size (k * 4) Q ∧ Q.In W ∧ LessT cnt ps wn Q c (k = 0) from fun k hk => by
    rcases Nat.lt_or_ge k 1 with h | h
    · obtain rfl : k = 0 := by omega
      exact ⟨X, by subst hW; refine ⟨?_, ?_, ?_, ?_⟩ <;> simp [go_sem], HFX.out.keep kW, fun h => by obtain ⟨a1, a2, a3, a4, a5⟩ := LX.out h; exact ⟨a1, a2, a3, a4, fun _ => a5 trivial⟩⟩
    · rcases Nat.lt_or_ge k 2 with h' | h'
      · obtain rfl : k = 1 := by omega
        exact ⟨Y, by subst hW; refine ⟨?_, ?_, ?_, ?_⟩ <;> simp [go_sem], HFY.out.keep kW, fun h => by obtain ⟨a1, a2, a3, a4, _⟩ := LY.out h; exact ⟨a1, a2, a3, a4, fun h => absurd h (by omega)⟩⟩
      · obtain rfl : k = 2 := by omega
        exact ⟨Z, by subst hW; refine ⟨?_, ?_, ?_, ?_⟩ <;> simp [go_sem], HFZ.out.keep kW, fun h => by obtain ⟨a1, a2, a3, a4, _⟩ := LZ.out h; exact ⟨a1, a2, a3, a4, fun h => absurd h (by omega)⟩⟩)
  have hsz := kW.size
  have kw := kr.trans k
  have hlq : w1.heap.size < W.heap.size := by subst hW; simp
  rw [hW]
  clear hW vx0 vx1 vx2 vx3 vy0 vy1 vy2 vy3 vz0 vz1 vz2 vz3 lx ly lz HX HY HZ HFX HFY HFZ LX LY LZ
  go_loopw [225] (fun i wx => ∃ j : Nat, j ≤ 3 ∧ i = .int .i64 j ∧ Keeps W wx) (fun i _ => 3 - (intOf i).toNat)
  case atStart => exact ⟨0, Nat.zero_le _, rfl, Keeps.refl _⟩
  case round =>
    obtain ⟨j, hj, rfl, hkp⟩ := hrel
    by_cases hlt : j < 3
    · obtain ⟨Q, hq, hqi, hql⟩ := QS.out j hlt
      have RF := Lib.hid (fun w2 (kk : Keeps W w2) => refFringe_any Q w2 (hqi.keep kk))
      have CQ := Lib.hid (fun w2 (kk : Keeps W w2) => Count_any Q w2 (hqi.keep kk))
      have PQ := Lib.hid (fun w2 (kk : Keeps W w2) => Parts_any Q (c : Int) w2 (hqi.keep kk))
      have WQ := Lib.hid (fun w2 (kk : Keeps W w2) => Wrong_any Q w2 (hqi.keep kk))
      obtain ⟨c0, c1, c2, c3⟩ := hq.keep hkp
      have hlc := lt_of_cell c0
      have hkz := hkp.size
      cases hqk : Q.ok with
      | false =>
        rw [hqk] at RF
        obtain ⟨qwa, qwc, qws, qlo, qhi, qra, qrc, qrs⟩ := Q
        dsimp only [Fr.v] at c0 c1 c2 c3 RF
        clear CQ PQ WQ hq hqi hql hqk
        go_wp2_with fail
        refine (RF.out _ (hkp.alloc _)).mono ?_
        rintro e w3 ⟨rfl, k3⟩
        have kq := (hkp.alloc (.cells #[.slice qwa qws.length qwc, .int .i64 qlo, .int .i64 qhi, .slice qra qrs.length qrc] 27)).trans k3
        clear k3 RF c0 c1 c2 c3
        go_wp2_with fail
        go_roundw
        case rel => exact ⟨j + 1, by omega, by go_num, kq⟩
        case measure => simp [intOf]; omega
      | true =>
        rw [hqk] at RF
        obtain ⟨a1, a2, a3, a4, a5⟩ := hql hqk
        obtain ⟨r1, r2⟩ := wrongR_is Q hqk
        rw [r1, r2] at WQ
        rw [show countR Q = (((Q.truths.length : Nat) : Int), 0) by rw [countR, if_pos hqk]] at CQ
        have hw6' := wn_le6 Q hqk
        have hq4 := Q.truths_len hqk
        rw [a2] at PQ
        obtain ⟨cq, hcq⟩ : ∃ cq, Q.truths.length = cq := ⟨_, rfl⟩
        obtain ⟨pq, hpq⟩ : ∃ pq, parS Q (c : Int) = pq := ⟨_, rfl⟩
        obtain ⟨wq, hwq⟩ : ∃ wq, Q.wn = wq := ⟨_, rfl⟩
        obtain ⟨wy, hwy⟩ : ∃ wy, (wrongR Q).1 = wy := ⟨_, rfl⟩
        rw [hcq] at CQ PQ a1 a3 hq4
        rw [hpq] at PQ a3
        rw [hwq, hwy] at WQ
        rw [hwq] at a4 a5 hw6'
        have HQ0 := Lib.hid (Fr.Box.new Q wr)
        obtain ⟨qwa, qwc, qws, qlo, qhi, qra, qrc, qrs⟩ := Q
        dsimp only [Fr.v] at c0 c1 c2 c3 RF CQ PQ WQ HQ0
        clear hq hqi hql hqk a2 r1 r2 hcq hpq hwq hwy
        have d1 : decide (cnt < cq) = false := by simp; omega
        have d4 : decide (wq < wn) = false := by simp; omega
        go_wp2_with fail
        refine (RF.out _ (hkp.alloc _)).mono ?_
        rintro e w3 ⟨rfl, k3⟩
        have kq := (hkp.alloc (.cells #[.slice qwa qws.length qwc, .int .i64 qlo, .int .i64 qhi, .slice qra qrs.length qrc] 27)).trans k3
        have HQ := Lib.hid (HQ0.out.keep k3)
        have q0 := HQ.out.c0
        have q1 := HQ.out.c1
        have q2 := HQ.out.c2
        have q3 := HQ.out.c3
        dsimp only at q0 q1 q2 q3
        have ql := lt_of_cell q0
        clear k3 RF c0 c1 c2 c3 HQ0
        go_wp2_with fail
        refine (CQ.out _ kq).mono ?_
        rintro e w3 ⟨rfl, k3⟩
        replace HQ := Lib.hid (HQ.out.keep k3)
        replace q0 := HQ.out.c0
        replace q1 := HQ.out.c1
        replace q2 := HQ.out.c2
        replace q3 := HQ.out.c3
        dsimp only at q0 q1 q2 q3
        replace ql := lt_of_cell q0
        replace kq := kq.trans k3
        clear k3 CQ
        go_wp2_with fail
        by_cases h0 : cq = 0
        · subst h0
          rw [if_pos rfl] at PQ
          clear a1 a3
          refine (PQ.out _ kq).mono ?_
          rintro e w3 ⟨rfl, k3⟩
          replace HQ := Lib.hid (HQ.out.keep k3)
          replace q0 := HQ.out.c0
          replace q1 := HQ.out.c1
          replace q2 := HQ.out.c2
          replace q3 := HQ.out.c3
          dsimp only at q0 q1 q2 q3
          replace ql := lt_of_cell q0
          replace kq := kq.trans k3
          clear k3 PQ
          by_cases hj0 : j = 0
          · have d5 := a5 hj0
            have d6 : decide ((wn : Int) + 1 < (wq : Int)) = false := by simp; omega
            have d7 : ((j : Int) == 0) = true := by simp [hj0]
            clear a5 hj0
            go_wp2_with fail
            refine (WQ.out _ kq).mono ?_
            rintro e w3 ⟨rfl, k3⟩
            replace kq := kq.trans k3
            clear k3 WQ q0 q1 q2 q3 ql
            go_wp2_with fail
            go_roundw
            case rel => exact ⟨j + 1, by omega, by go_num, kq⟩
            case measure => simp [intOf]; omega
          · have d7 : ((j : Int) == 0) = false := by simp; omega
            clear a5 hj0
            go_wp2_with fail
            refine (WQ.out _ kq).mono ?_
            rintro e w3 ⟨rfl, k3⟩
            replace kq := kq.trans k3
            clear k3 WQ q0 q1 q2 q3 ql
            go_wp2_with fail
            go_roundw
            case rel => exact ⟨j + 1, by omega, by go_num, kq⟩
            case measure => simp [intOf]; omega
        · have d2 : decide (0 < cq) = true := by simp; omega
          have d3 := a3 h0
          rw [if_neg h0] at PQ
          clear a1 a3 h0
          refine (PQ.out _ kq).mono ?_
          rintro e w3 ⟨rfl, k3⟩
          replace HQ := Lib.hid (HQ.out.keep k3)
          replace q0 := HQ.out.c0
          replace q1 := HQ.out.c1
          replace q2 := HQ.out.c2
          replace q3 := HQ.out.c3
          dsimp only at q0 q1 q2 q3
          replace ql := lt_of_cell q0
          replace kq := kq.trans k3
          clear k3 PQ
          by_cases hj0 : j = 0
          · have d5 := a5 hj0
            have d6 : decide ((wn : Int) + 1 < (wq : Int)) = false := by simp; omega
            have d7 : ((j : Int) == 0) = true := by simp [hj0]
            clear a5 hj0
            go_wp2_with fail
            refine (WQ.out _ kq).mono ?_
            rintro e w3 ⟨rfl, k3⟩
            replace kq := kq.trans k3
            clear k3 WQ q0 q1 q2 q3 ql
            go_wp2_with fail
            go_roundw
            case rel => exact ⟨j + 1, by omega, by go_num, kq⟩
            case measure => simp [intOf]; omega
          · have d7 : ((j : Int) == 0) = false := by simp; omega
            clear a5 hj0
            go_wp2_with fail
            refine (WQ.out _ kq).mono ?_
            rintro e w3 ⟨rfl, k3⟩
            replace kq := kq.trans k3
            clear k3 WQ q0 q1 q2 q3 ql
            go_wp2_with fail
            go_roundw
            case rel => exact ⟨j + 1, by omega, by go_num, kq⟩
            case measure => simp [intOf]; omega
    · obtain rfl : j = 3 := by omega
      have kx := kW.trans hkp
      obtain ⟨e2, e1, e3, e4, e5, e6, e7⟩ := HEND.out
      have TOK := turn_ok _ HOK.out ta tc ua uc
      obtain ⟨t1, t2⟩ := turn_lens _ HOK.out ta tc ua uc
      have LT := Lib.hid (Lengths_at _ wr (HFT.out.keep kx))
      rw [t1, t2, e1, e2] at LT
      have HT2 := Lib.hid (HT.out.keep kx)
      have g0 := HT2.out.c0
      have g1 := HT2.out.c1
      have g2 := HT2.out.c2
      have g3 := HT2.out.c3
      dsimp only [Fr.turn, Fr.v] at g0 g1 g2 g3 LT
      simp only [List.length_reverse, List.length_map] at g0 g1 g2 g3 LT
      have hgl := lt_of_cell g0
      clear t1 t2 TOK
      go_upto_region 41 with fail
      go_cut [39, 40] (fun a b wx => (∃ at_ ct, a = .slice at_ L.length ct ∧ Sps wx at_ L) ∧ b = .int .i64 E ∧ Keeps wr wx)
      case first =>
        go_wp2_with fail
        refine LT.out.mono ?_
        rintro e w4 ⟨at_, ct, rfl, hA, k4⟩
        have HA := Lib.hid hA
        clear hA LT g0 g1 g2 g3 hgl
        go_wp2_with fail
        go_meet
        exact ⟨⟨_, _, rfl, HA.out⟩, rfl, k4⟩
      case rest =>
        obtain ⟨⟨at_, ct, rfl, hA⟩, rfl, k4⟩ := hcut
        rename_i hK
        have ky := kx.trans k4
        refine hK _ _ (wp_on (c' := more_from 42) (by kernel_rfl) ?_)
        exact more_42 at_ ct wa _ ws lo hi ra rc rs b3 b12 c cnt wn pd ps E E L aw cw ar cr al cl ta tc ua uc w _ AL HOK.out hc (HB.out.keep ky) (HF.out.keep ky) (HT.out.keep ky) (HFT.out.keep ky) (HW.out.keep ky) (HR.out.keep ky) (HL.out.keep ky) hA (kw.trans ky) e1 e3 e4 e5 e6 e7 _ _ _ _ _ _ _ _ _ _ _ _ _ _ _ _ _ _ _ _ _ _ _ _ _ _ _ _ _ _ _ _ _ _ _ _ _ _ _ _ _ _ _ _ _ _ _ _ _ _ _ _ _ _ _ _ _ _ _ _ _ _ _ _ _ _ _ _ _ _ _ _ _ _ _ _ _ _ _ _ _ _ _ _ _ _ _ _ _ _ _ _ _ _ _ _ _ _ _ _ _ _ _ _ _ _ _ _ _ _ _ _ _ _ _ _ _ _ _ _ _ _ _ _ _ _ _ _ _ _ _ _ _ _ _ _ _ _ _ _ _ _ _ _ _ _ _ _ _ _ _ _ _ _ _ _ _ _ _ _ _ _ _ _ _ _ _ _ _ _ _ _ _ _ _ _ _ _ _ _ _ _ _ _ _ _ _ _ _ _ _ _ _ _ _ _ _ _ _ _ _ _ _ _ _ _ _ _ _ _ _ _ _ _ _ _ _ _ _ _ _ _ _ _ _ _ _ _ _ _ _ _ _ _ _ _ _ _ _ _ _ _ _ _ _ _ _ _ _ _ _ _ _ _ _ _ _ _ _ _ _ _ _ _ _ _ _ _ _ _ _ _ _ _ _ _ _ _ _ _ _ _ _ _ _ _ _ _ _ _ _ _ _ _ _ _ _ _ _ _ _ _ _ _ _ _ _ _ _ _ _ _ _ _ _ _ _ _ _ _ _ _ _ _ _ _ _ _ _ _ _ _ _ _ _ _ _ _ _ _ _ _ _ _ _ _ _ _ _ _ _ _ _ _ _ _ _ _ _ _ _ _ _ _ _ _ _ _ _ _ _ _ _ _ _ _ _ _ _
end Go.Proofs.Ytoidnbpbeblokaa
