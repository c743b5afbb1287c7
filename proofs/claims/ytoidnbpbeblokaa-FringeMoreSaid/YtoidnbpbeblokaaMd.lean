/-
  FringeMore, from where the fringe that is turned round is asked.
-/
import Derived.Test.YtoidnbpbeblokaaMc
namespace Go.Proofs.Ytoidnbpbeblokaa
open Go.RowKit Go.Shelf

set_option maxRecDepth 100000 in
set_option maxHeartbeats 40000000 in
theorem more_42 (at_ : Option Addr) (ct : Nat) (wa : Option Addr) (wc : Nat) (ws : List Int) (lo hi : Int) (ra : Option Addr) (rc : Nat) (rs : List Rd) (b3 b12 c cnt wn pd ps : Nat) (E E2 : Int) (L : List Sp) (aw : Option Addr) (cw : Nat) (ar : Option Addr) (cr : Nat) (al : Option Addr) (cl : Nat) (ta : Option Addr) (tc : Nat) (ua : Option Addr) (uc : Nat) (w wr : World) (AL : Hid (∀ w, Calls Try.prog 13 #[] w (RetB true w)))
    (hok : Fr.ok ⟨wa, wc, ws, lo, hi, ra, rc, rs⟩ = true) (hc : c < ws.length) (hB : Fr.Box ⟨wa, wc, ws, lo, hi, ra, rc, rs⟩ wr b3) (hI : Fr.In ⟨wa, wc, ws, lo, hi, ra, rc, rs⟩ wr) (hT : Fr.Box (Fr.turn ⟨wa, wc, ws, lo, hi, ra, rc, rs⟩ ta tc ua uc) wr b12) (hTI : Fr.In (Fr.turn ⟨wa, wc, ws, lo, hi, ra, rc, rs⟩ ta tc ua uc) wr) (hW : Ints wr aw ws) (hR : Rds wr ar rs) (hL : Sps wr al L) (hA : Sps wr at_ L) (kr : Keeps w wr)
    (e1 : lenL ⟨wa, wc, ws, lo, hi, ra, rc, rs⟩ = L) (e3 : countR ⟨wa, wc, ws, lo, hi, ra, rc, rs⟩ = ((cnt : Int), 0)) (e4 : colE ⟨wa, wc, ws, lo, hi, ra, rc, rs⟩ c = E2) (e5 : parS ⟨wa, wc, ws, lo, hi, ra, rc, rs⟩ c = ps) (e6 : Fr.wn ⟨wa, wc, ws, lo, hi, ra, rc, rs⟩ = wn) (e7 : periodR ⟨wa, wc, ws, lo, hi, ra, rc, rs⟩ = ((pd : Int), 0))
    (x0 x1 x2 x4 x5 x6 x9 x10 x11 x13 x14 x15 x16 x26 x30 x31 x32 x33 x34 x35 x36 x37 x38 x41 x42 x43 x44 x45 x46 x47 x48 x49 x50 x51 x52 x53 x54 x55 x56 x57 x58 x59 x60 x61 x62 x63 x64 x65 x66 x67 x68 x69 x70 x71 x72 x73 x74 x75 x76 x77 x78 x79 x80 x81 x82 x83 x84 x85 x86 x87 x88 x89 x90 x91 x92 x93 x94 x95 x96 x97 x98 x99 x100 x101 x102 x103 x104 x105 x106 x107 x108 x109 x110 x111 x112 x113 x114 x115 x116 x117 x118 x119 x120 x121 x122 x123 x124 x125 x126 x127 x128 x129 x130 x131 x132 x133 x134 x135 x136 x137 x138 x139 x140 x141 x142 x143 x144 x145 x146 x147 x148 x149 x150 x151 x152 x153 x154 x155 x156 x157 x158 x159 x160 x161 x162 x163 x164 x165 x166 x167 x168 x169 x170 x171 x172 x173 x174 x175 x176 x177 x178 x179 x180 x181 x182 x183 x184 x185 x186 x187 x188 x189 x190 x191 x192 x193 x194 x195 x196 x197 x198 x199 x200 x201 x202 x203 x204 x205 x206 x207 x208 x209 x210 x211 x212 x213 x214 x215 x216 x217 x218 x219 x220 x221 x222 x223 x224 x225 x226 x227 x228 x229 x230 x231 x232 x233 x234 x235 x236 x237 x238 x239 x240 x241 x242 x243 x244 x245 x246 x247 x248 x249 x250 x251 x252 x253 x254 x255 x256 x257 x258 x259 x260 x261 x262 x263 x264 x265 x266 x267 x268 x269 x270 x271 x272 x273 x274 x275 x276 x277 x278 x279 x280 x281 x282 x283 x284 x285 x286 x287 x288 x289 x290 x291 x292 x293 x294 x295 x296 x297 x298 x299 x300 x301 x302 x303 x304 x305 x306 x307 x308 x309 x310 x311 x312 x313 x314 x315 x316 x317 x318 x319 x320 x321 x322 x323 x324 x325 x326 x327 x328 x329 x330 x331 x332 x333 x334 x335 x336 x337 x338 x339 x340 x341 x342 x343 x344 x345 x346 x347 x348 x349 x350 x351 x352 x353 x354 x355 x356 x357 x358 x359 x360 x361 x362 x363 x364 x365 x366 x367 x368 x369 x370 x371 x372 x373 x374 x375 x376 x377 x378 x379 x380 x381 x382 x383 x384 x385 x386 x387 x388 x389 x390 x391 x392 x393 x394 x395 x396 : Value) :
    Code.wp Try.prog (more_from 42) (bodyPost Try.prog Try.f11 (RetB true w)) { tmps := #[x0, x1, x2, .pointer (some ⟨b3, 0, none⟩), x4, x5, x6, .int .i64 (ws.length : Int), .int .i64 (c : Int), x9, x10, x11, .pointer (some ⟨b12, 0, none⟩), x13, x14, x15, x16, .slice aw ws.length cw, .slice ar rs.length cr, .slice al L.length cl, .int .i64 E, .int .i64 (cnt : Int), .int .i64 0, .int .i64 (ps : Int), .int .i64 E2, .int .i64 (wn : Int), x26, .int .i64 0, .int .i64 (pd : Int), .int .i64 0, x30, x31, x32, x33, x34, x35, x36, x37, x38, .slice at_ L.length ct, .int .i64 E, x41, x42, x43, x44, x45, x46, x47, x48, x49, x50, x51, x52, x53, x54, x55, x56, x57, x58, x59, x60, x61, x62, x63, x64, x65, x66, x67, x68, x69, x70, x71, x72, x73, x74, x75, x76, x77, x78, x79, x80, x81, x82, x83, x84, x85, x86, x87, x88, x89, x90, x91, x92, x93, x94, x95, x96, x97, x98, x99, x100, x101, x102, x103, x104, x105, x106, x107, x108, x109, x110, x111, x112, x113, x114, x115, x116, x117, x118, x119, x120, x121, x122, x123, x124, x125, x126, x127, x128, x129, x130, x131, x132, x133, x134, x135, x136, x137, x138, x139, x140, x141, x142, x143, x144, x145, x146, x147, x148, x149, x150, x151, x152, x153, x154, x155, x156, x157, x158, x159, x160, x161, x162, x163, x164, x165, x166, x167, x168, x169, x170, x171, x172, x173, x174, x175, x176, x177, x178, x179, x180, x181, x182, x183, x184, x185, x186, x187, x188, x189, x190, x191, x192, x193, x194, x195, x196, x197, x198, x199, x200, x201, x202, x203, x204, x205, x206, x207, x208, x209, x210, x211, x212, x213, x214, x215, x216, x217, x218, x219, x220, x221, x222, x223, x224, x225, x226, x227, x228, x229, x230, x231, x232, x233, x234, x235, x236, x237, x238, x239, x240, x241, x242, x243, x244, x245, x246, x247, x248, x249, x250, x251, x252, x253, x254, x255, x256, x257, x258, x259, x260, x261, x262, x263, x264, x265, x266, x267, x268, x269, x270, x271, x272, x273, x274, x275, x276, x277, x278, x279, x280, x281, x282, x283, x284, x285, x286, x287, x288, x289, x290, x291, x292, x293, x294, x295, x296, x297, x298, x299, x300, x301, x302, x303, x304, x305, x306, x307, x308, x309, x310, x311, x312, x313, x314, x315, x316, x317, x318, x319, x320, x321, x322, x323, x324, x325, x326, x327, x328, x329, x330, x331, x332, x333, x334, x335, x336, x337, x338, x339, x340, x341, x342, x343, x344, x345, x346, x347, x348, x349, x350, x351, x352, x353, x354, x355, x356, x357, x358, x359, x360, x361, x362, x363, x364, x365, x366, x367, x368, x369, x370, x371, x372, x373, x374, x375, x376, x377, x378, x379, x380, x381, x382, x383, x384, x385, x386, x387, x388, x389, x390, x391, x392, x393, x394, x395, x396], defers := [] } wr := by
  conv => arg 2; whnf
  have TOK := turn_ok _ hok ta tc ua uc
  have t3 := turn_count _ hok ta tc ua uc
  have t4 := turn_colE _ hok ta tc ua uc hc
  have t5 := turn_parS _ hok ta tc ua uc hc
  have t6 := turn_wn _ hok ta tc ua uc
  have t7 := turn_period _ hok ta tc ua uc
  have CN := Lib.hid (fun w1 (k : Keeps wr w1) => Count_any _ w1 (hTI.keep k))
  have PS := Lib.hid (fun w1 (k : Keeps wr w1) => Parts_any _ ((ws.length - 1 - c : Nat) : Int) w1 (hTI.keep k))
  have WR := Lib.hid (fun w1 (k : Keeps wr w1) => Wrong_any _ w1 (hTI.keep k))
  have PD := Lib.hid (fun w1 (k : Keeps wr w1) => Period_any _ w1 (hTI.keep k))
  obtain ⟨r1, r2⟩ := wrongR_is _ TOK
  rw [r1, r2, t6, e6] at WR
  rw [t3, e3] at CN
  rw [t7, e7] at PD
  dsimp only at t4 t5
  rw [t4, t5, e4, e5] at PS
  obtain ⟨wx, hwx⟩ : ∃ wx, (wrongR (Fr.turn ⟨wa, wc, ws, lo, hi, ra, rc, rs⟩ ta tc ua uc)).1 = wx := ⟨_, rfl⟩
  rw [hwx] at WR
  have hLl : L.length ≤ 401 := by
    rw [← e1]
    unfold lenL
    split
    · simp
    · split
      · simp
      · exact Nat.le_trans (spansOf_len _) (Fr.truths_len _ hok)
  have SP := Lib.hid (fun a b ca cb w1 (ha : Sps w1 a L) (hb : Sps w1 b L) => refSpans_any a b ca cb L L w1 ha hb (by unfold maxLen; omega))
  rw [decide_eq_true (rfl : L = L)] at SP
  have hwl := Fr.wl_in _ hok
  have hrl := Fr.rl_in _ hok
  dsimp only at hwl hrl
  have IN := Lib.hid (fun a b ca cb w1 (ha : Ints w1 a ws) (hb : Ints w1 b ws) => refInts_any a b ca cb ws ws w1 ha hb (by unfold maxLen; omega))
  rw [decide_eq_true (rfl : ws = ws)] at IN
  have HB := Lib.hid hB
  have HT := Lib.hid hT
  have HW := Lib.hid hW
  have HR := Lib.hid hR
  have HF := Lib.hid hI
  have HL := Lib.hid hL
  have HA := Lib.hid hA
  have g0 := HT.out.c0
  have g1 := HT.out.c1
  have g2 := HT.out.c2
  have g3 := HT.out.c3
  dsimp only [Fr.turn, Fr.v] at g0 g1 g2 g3 CN PS WR PD
  simp only [List.length_reverse, List.length_map] at g0 g1 g2 g3 CN PS WR PD
  rw [show ((ws.length - 1 - c : Nat) : Int) = (ws.length : Int) - 1 - (c : Int) by omega] at PS
  have hgl := lt_of_cell g0
  have k := Keeps.refl wr
  clear hok hB hT hW hR hI hTI hL hA e1 e3 e4 e5 e6 e7 t3 t4 t5 t6 t7 TOK r1 r2 hwx
  go_wp2_with fail
  refine (CN.out _ k).mono ?_
  rintro e w1 ⟨rfl, k1⟩
  replace HA := Lib.hid (HA.out.keep k1)
  replace HB := Lib.hid (HB.out.keep k1)
  replace HT := Lib.hid (HT.out.keep k1)
  replace HW := Lib.hid (HW.out.keep k1)
  replace HR := Lib.hid (HR.out.keep k1)
  replace HF := Lib.hid (HF.out.keep k1)
  replace HL := Lib.hid (HL.out.keep k1)
  replace g0 := HT.out.c0
  replace g1 := HT.out.c1
  replace g2 := HT.out.c2
  replace g3 := HT.out.c3
  simp only [Fr.turn, List.length_reverse, List.length_map] at g0 g1 g2 g3
  replace hgl := lt_of_cell g0
  replace k := k.trans k1
  clear k1 CN
  go_wp2_with fail
  refine (PS.out _ k).mono ?_
  rintro e w1 ⟨rfl, k1⟩
  replace HA := Lib.hid (HA.out.keep k1)
  replace HB := Lib.hid (HB.out.keep k1)
  replace HT := Lib.hid (HT.out.keep k1)
  replace HW := Lib.hid (HW.out.keep k1)
  replace HR := Lib.hid (HR.out.keep k1)
  replace HF := Lib.hid (HF.out.keep k1)
  replace HL := Lib.hid (HL.out.keep k1)
  replace g0 := HT.out.c0
  replace g1 := HT.out.c1
  replace g2 := HT.out.c2
  replace g3 := HT.out.c3
  simp only [Fr.turn, List.length_reverse, List.length_map] at g0 g1 g2 g3
  replace hgl := lt_of_cell g0
  replace k := k.trans k1
  clear k1 PS
  go_wp2_with fail
  refine (WR.out _ k).mono ?_
  rintro e w1 ⟨rfl, k1⟩
  replace HA := Lib.hid (HA.out.keep k1)
  replace HB := Lib.hid (HB.out.keep k1)
  replace HT := Lib.hid (HT.out.keep k1)
  replace HW := Lib.hid (HW.out.keep k1)
  replace HR := Lib.hid (HR.out.keep k1)
  replace HF := Lib.hid (HF.out.keep k1)
  replace HL := Lib.hid (HL.out.keep k1)
  replace g0 := HT.out.c0
  replace g1 := HT.out.c1
  replace g2 := HT.out.c2
  replace g3 := HT.out.c3
  simp only [Fr.turn, List.length_reverse, List.length_map] at g0 g1 g2 g3
  replace hgl := lt_of_cell g0
  replace k := k.trans k1
  clear k1 WR
  go_wp2_with fail
  refine (PD.out _ k).mono ?_
  rintro e w1 ⟨rfl, k1⟩
  replace HA := Lib.hid (HA.out.keep k1)
  replace HB := Lib.hid (HB.out.keep k1)
  replace HT := Lib.hid (HT.out.keep k1)
  replace HW := Lib.hid (HW.out.keep k1)
  replace HR := Lib.hid (HR.out.keep k1)
  replace HF := Lib.hid (HF.out.keep k1)
  replace HL := Lib.hid (HL.out.keep k1)
  replace g0 := HT.out.c0
  replace g1 := HT.out.c1
  replace g2 := HT.out.c2
  replace g3 := HT.out.c3
  simp only [Fr.turn, List.length_reverse, List.length_map] at g0 g1 g2 g3
  replace hgl := lt_of_cell g0
  replace k := k.trans k1
  clear k1 PD
  go_wp2_with fail
  refine (SP.out _ _ _ _ _ HA.out HL.out).mono ?_
  rintro e w3 ⟨rfl, k1⟩
  replace HB := Lib.hid (HB.out.keep k1)
  replace HW := Lib.hid (HW.out.keep k1)
  replace HR := Lib.hid (HR.out.keep k1)
  replace HF := Lib.hid (HF.out.keep k1)
  replace k := k.trans k1
  clear k1 SP HA HL HT g0 g1 g2 g3 hgl
  have g0 := HB.out.c0
  have g1 := HB.out.c1
  have g2 := HB.out.c2
  have g3 := HB.out.c3
  dsimp only at g0 g1 g2 g3
  have hgl := lt_of_cell g0
  go_wp2_with fail
  refine (IN.out _ _ _ _ _ HW.out HF.out.ints).mono ?_
  rintro e w4 ⟨rfl, k1⟩
  replace HB := Lib.hid (HB.out.keep k1)
  replace HR := Lib.hid (HR.out.keep k1)
  replace HF := Lib.hid (HF.out.keep k1)
  replace k := k.trans k1
  clear k1 IN HW g0 g1 g2 g3 hgl
  go_wp2_with fail
  go_loopw [382] (fun i wx => ∃ j : Nat, j ≤ rs.length ∧ i = .int .i64 j ∧ Keeps w4 wx) (fun i _ => rs.length - (intOf i).toNat)
  case atStart => exact ⟨0, Nat.zero_le _, rfl, Keeps.refl _⟩
  case round =>
    obtain ⟨j, hj, rfl, hkp⟩ := hrel
    by_cases hlt : j < rs.length
    · obtain ⟨b1, o1, rfl, hc1⟩ := (HR.out.keep hkp) (by intro e; rw [e] at hlt; simp at hlt)
      obtain ⟨b2, o2, rfl, hc2⟩ := (HF.out.keep hkp).rds (by intro e; simp only at e; rw [e] at hlt; simp at hlt)
      have h1 := hc1 j hlt
      have h2 := hc2 j hlt
      obtain ⟨⟨p, q, r⟩, hx⟩ : ∃ x, rs[j]?.getD (0, 0, 0) = x := ⟨_, rfl⟩
      dsimp only at h2
      rw [hx] at h1 h2
      dsimp only at h1 h2
      obtain ⟨h10, h11, h12⟩ := h1
      obtain ⟨h20, h21, h22⟩ := h2
      have hB2 := HB.out.keep hkp
      have f0 := hB2.c0
      have f1 := hB2.c1
      have f2 := hB2.c2
      have f3 := hB2.c3
      dsimp only at f0 f1 f2 f3
      have l1 := lt_of_cell h10
      have l2 := lt_of_cell h20
      have l3 := lt_of_cell f0
      have eb : ∀ w, (binOp .neq 41 (.agg #[.int .i64 p, .int .i64 q, .int .i64 r]) (.agg #[.int .i64 p, .int .i64 q, .int .i64 r])).run Try.prog w = .ok (.bool false) w := fun w => neq_read p q r w
      have gd := fun (o1 o2 : Operand) (w : World) => run_eqGuard_agg w .neq 41 o1 o2 #[.int .i64 p, .int .i64 q, .int .i64 r] #[.int .i64 p, .int .i64 q, .int .i64 r] guard_read
      clear hx hc1 hc2 hB2
      go_wp2
      go_region
      go_wp2
      go_roundw
      case rel => exact ⟨j + 1, by omega, by go_num, by first | exact hkp.drew | exact hkp⟩
      case measure => simp [intOf]; omega
    · obtain rfl : j = rs.length := by omega
      clear HB HF HR
      go_wp2_with fail
      refine (AL.out _).mono ?_
      rintro e w5 ⟨rfl, k5⟩
      go_wp2_with fail
      go_ret
      exact ⟨rfl, ((kr.trans k).trans hkp).trans k5⟩
end Go.Proofs.Ytoidnbpbeblokaa
