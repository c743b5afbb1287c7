/-
  WarmMore from its region 30 on: the three blocks are gone through.
-/
import Derived.Test.YtmhpgjlegajpeaaM6
import Derived.Test.YtmhpgjlegajpeaaE2
import Derived.Deep.DeepCutAuto
namespace Go.Proofs.Ytmhpgjlegajpeaa
open Go.RowKit

/-- A span in a block of its own, and what is said beside it. -/
def Tolm (W : World) (u v err : Int) (a b : Value) (wx : World) : Prop := ∃ s, a = .pointer (some ⟨s, 0, none⟩) ∧ W.heap.size ≤ s ∧ TwoI wx s u v ∧ Keeps W wx ∧ b = .int .i64 err
set_option maxRecDepth 100000 in
set_option maxHeartbeats 40000000 in
theorem more_30 (mark llo lhi clo chi : Int) (ra : Option Addr) (rc : Nat) (rs : List Wr) (b0 s1 s2 s3 sa sb sc : Nat) (ka : Option Addr) (kc : Nat) (t off E dd cn ax ay bx bz cx cy : Int) (X Y Z : Wm) (w wr : World)
    (hI : Wm.In ⟨mark, llo, lhi, clo, chi, ra, rc, rs⟩ w) (kk : Keeps w wr) (hB : Wm.Box ⟨mark, llo, lhi, clo, chi, ra, rc, rs⟩ wr b0) (hK : Wrs wr ka rs) (hl : rs.length ≤ 5)
    (bX : X.Box wr s1) (hX : X.In wr) (bY : Y.Box wr s2) (hY : Y.In wr) (bZ : Z.Box wr s3) (hZ : Z.In wr)
    (fX : X.ok = true → Narrower X ⟨mark, llo, lhi, clo, chi, ra, rc, rs⟩ t off) (fY : Y.ok = true → Narrower Y ⟨mark, llo, lhi, clo, chi, ra, rc, rs⟩ t off) (fZ : Z.ok = true → Narrower Z ⟨mark, llo, lhi, clo, chi, ra, rc, rs⟩ t off)
    (sZ : Z.lenA = Wm.lenA ⟨mark, llo, lhi, clo, chi, ra, rc, rs⟩ ∧ Z.coeffA = Wm.coeffA ⟨mark, llo, lhi, clo, chi, ra, rc, rs⟩ ∧ Z.showsA t t = Wm.showsA ⟨mark, llo, lhi, clo, chi, ra, rc, rs⟩ t t ∧ Z.roomA off = Wm.roomA ⟨mark, llo, lhi, clo, chi, ra, rc, rs⟩ off ∧ Z.countA = Wm.countA ⟨mark, llo, lhi, clo, chi, ra, rc, rs⟩)
    (e1 : Wm.lenA ⟨mark, llo, lhi, clo, chi, ra, rc, rs⟩ = ((ax, ay), E)) (e2 : Wm.coeffA ⟨mark, llo, lhi, clo, chi, ra, rc, rs⟩ = ((bx, bz), E)) (e3 : Wm.showsA ⟨mark, llo, lhi, clo, chi, ra, rc, rs⟩ t t = ((cx, cy), E)) (e4 : Wm.roomA ⟨mark, llo, lhi, clo, chi, ra, rc, rs⟩ off = (dd, E)) (e5 : Wm.countA ⟨mark, llo, lhi, clo, chi, ra, rc, rs⟩ = (cn, 0))
    (ca0 : wr.cell? ⟨sa, 0, none⟩ = some (.int .i64 ax)) (ca1 : wr.cell? ⟨sa, 1, none⟩ = some (.int .i64 ay)) (cb0 : wr.cell? ⟨sb, 0, none⟩ = some (.int .i64 bx)) (cb1 : wr.cell? ⟨sb, 1, none⟩ = some (.int .i64 bz)) (cc0 : wr.cell? ⟨sc, 0, none⟩ = some (.int .i64 cx)) (cc1 : wr.cell? ⟨sc, 1, none⟩ = some (.int .i64 cy))
    (x0 x1 x2 x3 x4 x5 x7 x8 x9 x10 x11 x12 x13 x17 x18 x33 x34 x35 x36 x37 x38 x39 x40 x41 x42 x43 x44 x45 x46 x47 x48 x49 x50 x51 x52 x53 x54 x55 x56 x57 x58 x59 x60 x61 x62 x63 x64 x65 x66 x67 x68 x69 x70 x71 x72 x73 x74 x75 x76 x77 x78 x79 x80 x81 x82 x83 x84 x85 x86 x87 x88 x89 x90 x91 x92 x93 x94 x95 x96 x97 x98 x99 x100 x101 x102 x103 x104 x105 x106 x107 x108 x109 x110 x111 x112 x113 x114 x115 x116 x117 x118 x119 x120 x121 x122 x123 x124 x125 x126 x127 x128 x129 x130 x131 x132 x133 x134 x135 x136 x137 x138 x139 x140 x141 x142 x143 x144 x145 x146 x147 x148 x149 x150 x151 x152 x153 x154 x155 x156 x157 x158 x159 x160 x161 x162 x163 x164 x165 x166 x167 x168 x169 x170 x171 x172 x173 x174 x175 x176 x177 x178 x179 x180 x181 x182 x183 x184 x185 x186 x187 x188 x189 x190 x191 x192 x193 x194 x195 x196 x197 x198 x199 x200 x201 x202 x203 x204 x205 x206 x207 x208 x209 x210 x211 x212 x213 x214 x215 x216 x217 x218 x219 x220 x221 x222 x223 x224 x225 x226 x227 x228 x229 x230 x231 x232 x233 x234 x235 x236 x237 x238 x239 x240 x241 x242 x243 x244 x245 x246 x247 x248 x249 x250 x251 x252 x253 x254 x255 x256 x257 x258 x259 x260 x261 x262 x263 x264 x265 x266 x267 x268 x269 x270 x271 x272 x273 x274 x275 x276 x277 x278 x279 x280 x281 x282 x283 x284 x285 x286 x287 x288 x289 x290 x291 x292 x293 x294 x295 x296 x297 x298 x299 x300 x301 x302 x303 x304 x305 x306 x307 x308 x309 x310 x311 x312 x313 x314 x315 x316 x317 x318 x319 x320 x321 x322 x323 x324 x325 x326 x327 x328 x329 x330 x331 x332 x333 x334 x335 x336 x337 x338 x339 x340 x341 x342 x343 x344 x345 x346 x347 x348 x349 x350 x351 x352 x353 x354 x355 x356 x357 x358 x359 x360 x361 x362 x363 x364 x365 x366 x367 x368 x369 x370 x371 x372 x373 x374 x375 x376 x377 x378 x379 x380 x381 x382 x383 : Value) :
    Code.wp Try.prog (more_two 30) (bodyPost Try.prog Try.f12 (RetB true w)) { tmps := #[x0, x1, x2, x3, x4, x5, .pointer (some ⟨b0, 0, none⟩), x7, x8, x9, x10, x11, x12, x13, .pointer (some ⟨s1, 0, none⟩), .pointer (some ⟨s2, 0, none⟩), .pointer (some ⟨s3, 0, none⟩), x17, x18, .slice ka rs.length kc, .int .i64 t, .int .i64 off, .func (.func 43) #[] #[], .pointer (some ⟨sa, 0, none⟩), .int .i64 E, .pointer (some ⟨sb, 0, none⟩), .int .i64 E, .pointer (some ⟨sc, 0, none⟩), .int .i64 E, .int .i64 dd, .int .i64 E, .int .i64 cn, .int .i64 0, x33, x34, x35, x36, x37, x38, x39, x40, x41, x42, x43, x44, x45, x46, x47, x48, x49, x50, x51, x52, x53, x54, x55, x56, x57, x58, x59, x60, x61, x62, x63, x64, x65, x66, x67, x68, x69, x70, x71, x72, x73, x74, x75, x76, x77, x78, x79, x80, x81, x82, x83, x84, x85, x86, x87, x88, x89, x90, x91, x92, x93, x94, x95, x96, x97, x98, x99, x100, x101, x102, x103, x104, x105, x106, x107, x108, x109, x110, x111, x112, x113, x114, x115, x116, x117, x118, x119, x120, x121, x122, x123, x124, x125, x126, x127, x128, x129, x130, x131, x132, x133, x134, x135, x136, x137, x138, x139, x140, x141, x142, x143, x144, x145, x146, x147, x148, x149, x150, x151, x152, x153, x154, x155, x156, x157, x158, x159, x160, x161, x162, x163, x164, x165, x166, x167, x168, x169, x170, x171, x172, x173, x174, x175, x176, x177, x178, x179, x180, x181, x182, x183, x184, x185, x186, x187, x188, x189, x190, x191, x192, x193, x194, x195, x196, x197, x198, x199, x200, x201, x202, x203, x204, x205, x206, x207, x208, x209, x210, x211, x212, x213, x214, x215, x216, x217, x218, x219, x220, x221, x222, x223, x224, x225, x226, x227, x228, x229, x230, x231, x232, x233, x234, x235, x236, x237, x238, x239, x240, x241, x242, x243, x244, x245, x246, x247, x248, x249, x250, x251, x252, x253, x254, x255, x256, x257, x258, x259, x260, x261, x262, x263, x264, x265, x266, x267, x268, x269, x270, x271, x272, x273, x274, x275, x276, x277, x278, x279, x280, x281, x282, x283, x284, x285, x286, x287, x288, x289, x290, x291, x292, x293, x294, x295, x296, x297, x298, x299, x300, x301, x302, x303, x304, x305, x306, x307, x308, x309, x310, x311, x312, x313, x314, x315, x316, x317, x318, x319, x320, x321, x322, x323, x324, x325, x326, x327, x328, x329, x330, x331, x332, x333, x334, x335, x336, x337, x338, x339, x340, x341, x342, x343, x344, x345, x346, x347, x348, x349, x350, x351, x352, x353, x354, x355, x356, x357, x358, x359, x360, x361, x362, x363, x364, x365, x366, x367, x368, x369, x370, x371, x372, x373, x374, x375, x376, x377, x378, x379, x380, x381, x382, x383], defers := [] } wr := by
  conv => arg 2; whnf
  have hmx : Try.prog.follows .mixedOrders = true := by kernel_rfl
  have AW := Lib.hid (fun w1 => awake_any w1)
  have SP := Lib.hid (fun a b w1 => lawSpan_any a b w1)
  have IN := Lib.hid (fun a b c d w1 => in_any a b c d w1)
  have hcf : ∀ w, (callFunc 43 #[]).run Try.prog w = .ok (.enter 43 #[]) w := fun w => enters_of Try.func43 (by kernel_rfl) rfl #[] w
  obtain ⟨V, hV⟩ : ∃ V : Nat → Wm, V = fun j => if j = 0 then X else if j = 1 then Y else Z := ⟨_, rfl⟩
  have v0 : V 0 = X := by rw [hV]; rfl
  have v1 : V 1 = Y := by rw [hV]; rfl
  have v2 : V 2 = Z := by rw [hV]; rfl
  have three : ∀ j, j < 3 → j = 0 ∨ j = 1 ∨ j = 2 := fun j h => by omega
  have VI := Lib.hid (show ∀ j, j < 3 → (V j).In wr from fun j h => by
    rcases three j h with rfl | rfl | rfl
    · rw [v0]; exact hX
    · rw [v1]; exact hY
    · rw [v2]; exact hZ)
  have VF := Lib.hid (show ∀ j, j < 3 → (V j).ok = true → Narrower (V j) ⟨mark, llo, lhi, clo, chi, ra, rc, rs⟩ t off from fun j h => by
    rcases three j h with rfl | rfl | rfl
    · rw [v0]; exact fX
    · rw [v1]; exact fY
    · rw [v2]; exact fZ)
  have VZ := Lib.hid (show (V 2).lenA = ((ax, ay), E) ∧ (V 2).coeffA = ((bx, bz), E) ∧ (V 2).showsA t t = ((cx, cy), E) ∧ (V 2).roomA off = (dd, E) ∧ (V 2).countA = (cn, 0) from by
    rw [v2]
    obtain ⟨z1, z2, z3, z4, z5⟩ := sZ
    exact ⟨z1.trans e1, z2.trans e2, z3.trans e3, z4.trans e4, z5.trans e5⟩)
  have HE1 := Lib.hid e1
  have HE2 := Lib.hid e2
  have HE3 := Lib.hid e3
  have HE4 := Lib.hid e4
  have HE5 := Lib.hid e5
  obtain ⟨x0', x1', x2', x3', x4', x5'⟩ := bX
  obtain ⟨y0', y1', y2', y3', y4', y5'⟩ := bY
  obtain ⟨z0', z1', z2', z3', z4', z5'⟩ := bZ
  have lx1 := lt_of_cell x0'
  have ly1 := lt_of_cell y0'
  have lz1 := lt_of_cell z0'
  have HB := Lib.hid hB
  have HKK := Lib.hid hK
  have HI := Lib.hid hI
  clear fX fY fZ sZ e1 e2 e3 e4 e5 hX hY hZ hB hK hI
  go_wp2_with fail
  obtain ⟨S, hS⟩ : ∃ s, wr.heap.size = s := ⟨_, rfl⟩
  obtain ⟨W1, hW1⟩ : ∃ W, wr.alloc (.cells #[.int .i64 X.mark, .int .i64 X.llo, .int .i64 X.lhi, .int .i64 X.clo, .int .i64 X.chi, .slice X.ra X.rs.length X.rc, .int .i64 Y.mark, .int .i64 Y.llo, .int .i64 Y.lhi, .int .i64 Y.clo, .int .i64 Y.chi, .slice Y.ra Y.rs.length Y.rc, .int .i64 Z.mark, .int .i64 Z.llo, .int .i64 Z.lhi, .int .i64 Z.clo, .int .i64 Z.chi, .slice Z.ra Z.rs.length Z.rc] 26) = W := ⟨_, rfl⟩
  have k1 : Keeps wr W1 := by rw [← hW1]; exact (Keeps.refl _).alloc _
  have VC := Lib.hid (show ∀ j, j < 3 → W1.cell? ⟨S, j * 6, none⟩ = some (.int .i64 (V j).mark) ∧ W1.cell? ⟨S, j * 6 + 1, none⟩ = some (.int .i64 (V j).llo) ∧ W1.cell? ⟨S, j * 6 + 2, none⟩ = some (.int .i64 (V j).lhi) ∧ W1.cell? ⟨S, j * 6 + 3, none⟩ = some (.int .i64 (V j).clo) ∧ W1.cell? ⟨S, j * 6 + 4, none⟩ = some (.int .i64 (V j).chi) ∧ W1.cell? ⟨S, j * 6 + 5, none⟩ = some (.slice (V j).ra (V j).rs.length (V j).rc) from fun j h => by
    rcases three j h with rfl | rfl | rfl
    · rw [v0, ← hW1, ← hS]; refine ⟨?_, ?_, ?_, ?_, ?_, ?_⟩ <;> simp [go_sem]
    · rw [v1, ← hW1, ← hS]; refine ⟨?_, ?_, ?_, ?_, ?_, ?_⟩ <;> simp [go_sem]
    · rw [v2, ← hW1, ← hS]; refine ⟨?_, ?_, ?_, ?_, ?_, ?_⟩ <;> simp [go_sem])
  rw [hW1, hS]
  have hSl : S < W1.heap.size := by rw [← hW1, ← hS]; simp
  clear hW1 hS hV v0 v1 v2 three x0' x1' x2' x3' x4' x5' y0' y1' y2' y3' y4' y5' z0' z1' z2' z3' z4' z5' lx1 ly1 lz1
  replace ca0 := k1.cell ca0
  replace ca1 := k1.cell ca1
  replace cb0 := k1.cell cb0
  replace cb1 := k1.cell cb1
  replace cc0 := k1.cell cc0
  replace cc1 := k1.cell cc1
  obtain ⟨wq, rfl⟩ : ∃ W : World, W = wr := ⟨_, rfl⟩
  go_loopw [233] (fun i wx => ∃ j : Nat, j ≤ 3 ∧ i = .int .i64 j ∧ Keeps W1 wx) (fun i _ => 3 - (intOf i).toNat)
  case atStart => exact ⟨0, by omega, rfl, Keeps.refl _⟩
  case round =>
    obtain ⟨j, hj, rfl, kr⟩ := hrel
    have kv := k1.trans kr
    by_cases hlt : j < 3
    · obtain ⟨p0, p1, p2, p3, p4, p5⟩ := VC.out j hlt
      have hAI := VI.out j hlt
      have hNF := VF.out j hlt
      have hZJ : j = 2 → _ := fun h => (by have := VZ.out; rw [← h] at this; exact this)
      obtain ⟨A, hA⟩ : ∃ A, V j = A := ⟨_, rfl⟩
      rw [hA] at p0 p1 p2 p3 p4 p5 hAI hNF hZJ
      have RW := Lib.hid (fun w1 (k : Keeps wq w1) => refWarm_any A w1 (hAI.keep k))
      have A0 := Lib.hid (fun w1 (k : Keeps wq w1) => Length_any A w1 (hAI.keep k))
      have A1 := Lib.hid (fun w1 (k : Keeps wq w1) => Coeff_any A w1 (hAI.keep k))
      have A2 := Lib.hid (fun w1 (k : Keeps wq w1) => Shows_any A t t w1 (hAI.keep k))
      have A3 := Lib.hid (fun w1 (k : Keeps wq w1) => Room_any A off w1 (hAI.keep k))
      have A4 := Lib.hid (fun w1 (k : Keeps wq w1) => Count_any A w1 (hAI.keep k))
      have HNF := Lib.hid hNF
      have HZJ := Lib.hid hZJ
      obtain ⟨ok, hok⟩ : ∃ b, A.ok = b := ⟨_, rfl⟩
      rw [hok] at RW HNF
      obtain ⟨r1, hr1⟩ : ∃ r, A.lenA = r := ⟨_, rfl⟩
      obtain ⟨r2, hr2⟩ : ∃ r, A.coeffA = r := ⟨_, rfl⟩
      obtain ⟨r3, hr3⟩ : ∃ r, A.showsA t t = r := ⟨_, rfl⟩
      obtain ⟨r4, hr4⟩ : ∃ r, A.roomA off = r := ⟨_, rfl⟩
      obtain ⟨r5, hr5⟩ : ∃ r, A.countA = r := ⟨_, rfl⟩
      unfold Narrower at HNF
      rw [hr1, hr2, hr3, hr4, hr5, HE1.out, HE2.out, HE3.out, HE4.out, HE5.out] at HNF
      rw [hr1, hr2, hr3, hr4, hr5] at HZJ
      rw [hr1] at A0
      rw [hr2] at A1
      rw [hr3] at A2
      rw [hr4] at A3
      rw [hr5] at A4
      obtain ⟨⟨lx, ly⟩, m⟩ := r1
      obtain ⟨⟨ox, oy⟩, m2⟩ := r2
      obtain ⟨⟨qx, qy⟩, m3⟩ := r3
      obtain ⟨sd, m4⟩ := r4
      obtain ⟨ac, m5⟩ := r5
      obtain ⟨vm, vl, vh, vc, vd, va, vq, vs⟩ := A
      dsimp only [Wm.v, spV] at p0 p1 p2 p3 p4 p5 RW A0 A1 A2 A3 A4 HNF HZJ
      clear hA hAI hNF hZJ hok hr1 hr2 hr3 hr4 hr5
      replace p0 := kr.cell p0
      replace p1 := kr.cell p1
      replace p2 := kr.cell p2
      replace p3 := kr.cell p3
      replace p4 := kr.cell p4
      replace p5 := kr.cell p5
      have hlp := lt_of_cell p0
      obtain ⟨sv, hsv⟩ : ∃ s, wr.heap.size = s := ⟨_, rfl⟩
      obtain ⟨w1, hw1⟩ : ∃ W, wr.alloc (.cells #[.int .i64 vm, .int .i64 vl, .int .i64 vh, .int .i64 vc, .int .i64 vd, .slice va vs.length vq] 26) = W := ⟨_, rfl⟩
      have kw1 : Keeps wr w1 := by rw [← hw1]; exact (Keeps.refl _).alloc _
      have BX := Wm.Box.new ⟨vm, vl, vh, vc, vd, va, vq, vs⟩ wr
      rw [hw1, hsv] at BX
      obtain ⟨g0, g1, g2, g3, g4, g5⟩ := BX
      dsimp only at g0 g1 g2 g3 g4 g5
      cases ok with
      | false =>
        clear HNF HZJ A0 A1 A2 A3 A4
        go_wp2_with fail
        refine (RW.out _ (kv.trans kw1)).mono ?_
        rintro e w2 ⟨rfl, k2⟩
        go_wp2_with fail
        go_roundw
        case rel => exact ⟨j + 1, by omega, by go_num, (kr.trans kw1).trans k2⟩
        case measure => simp [intOf]; omega
      | true =>
        obtain ⟨q2, q3, q4, q5, hac, hm⟩ := HNF.out rfl
        subst q5
        rw [q2] at A1 HZJ
        rw [q3] at A2 HZJ
        rw [q4] at A3 HZJ
        clear HNF q2 q3 q4
        go_wp2_with fail
        refine (RW.out _ (kv.trans kw1)).mono ?_
        rintro e w2 ⟨rfl, k2⟩
        clear kv
        have kv : Keeps W1 w2 := (kr.trans kw1).trans k2
        replace g0 := k2.cell g0
        replace g1 := k2.cell g1
        replace g2 := k2.cell g2
        replace g3 := k2.cell g3
        replace g4 := k2.cell g4
        replace g5 := k2.cell g5
        have hlv := lt_of_cell g0
        have kq2 := kv
        replace ca0 := kq2.cell ca0
        replace ca1 := kq2.cell ca1
        replace cb0 := kq2.cell cb0
        replace cb1 := kq2.cell cb1
        replace cc0 := kq2.cell cc0
        replace cc1 := kq2.cell cc1
        clear p0 p1 p2 p3 p4 p5 hlp hw1 kw1 k2 kr RW kq2
        go_wp2_with fail
        refine (A0.out _ (k1.trans kv)).mono ?_
        rintro e w3 ⟨rfl, k3⟩
        replace kv := kv.trans k3
        replace g0 := k3.cell g0
        replace g1 := k3.cell g1
        replace g2 := k3.cell g2
        replace g3 := k3.cell g3
        replace g4 := k3.cell g4
        replace g5 := k3.cell g5
        replace ca0 := k3.cell ca0
        replace ca1 := k3.cell ca1
        replace cb0 := k3.cell cb0
        replace cb1 := k3.cell cb1
        replace cc0 := k3.cell cc0
        replace cc1 := k3.cell cc1
        replace hlv := lt_of_cell g0
        go_wp2_with fail
        obtain ⟨sl, hsl⟩ : ∃ s, w3.heap.size = s := ⟨_, rfl⟩
        obtain ⟨w4, hw4⟩ : ∃ s, w3.alloc (.cells #[.int .i64 lx, .int .i64 ly] 23) = s := ⟨_, rfl⟩
        have k4 : Keeps w3 w4 := by rw [← hw4]; exact (Keeps.refl _).alloc _
        have cl0 : w4.cell? ⟨sl, 0, none⟩ = some (.int .i64 lx) := by rw [← hw4, ← hsl]; simp [go_sem]
        have cl1 : w4.cell? ⟨sl, 1, none⟩ = some (.int .i64 ly) := by rw [← hw4, ← hsl]; simp [go_sem]
        rw [hw4, hsl]
        clear hw4 hsl
        replace kv := kv.trans k4
        replace g0 := k4.cell g0
        replace g1 := k4.cell g1
        replace g2 := k4.cell g2
        replace g3 := k4.cell g3
        replace g4 := k4.cell g4
        replace g5 := k4.cell g5
        replace ca0 := k4.cell ca0
        replace ca1 := k4.cell ca1
        replace cb0 := k4.cell cb0
        replace cb1 := k4.cell cb1
        replace cc0 := k4.cell cc0
        replace cc1 := k4.cell cc1
        refine (A1.out _ (k1.trans kv)).mono ?_
        rintro e w5 ⟨rfl, k5⟩
        replace kv := kv.trans k5
        replace g0 := k5.cell g0
        replace g1 := k5.cell g1
        replace g2 := k5.cell g2
        replace g3 := k5.cell g3
        replace g4 := k5.cell g4
        replace g5 := k5.cell g5
        replace ca0 := k5.cell ca0
        replace ca1 := k5.cell ca1
        replace cb0 := k5.cell cb0
        replace cb1 := k5.cell cb1
        replace cc0 := k5.cell cc0
        replace cc1 := k5.cell cc1
        replace cl0 := k5.cell cl0
        replace cl1 := k5.cell cl1
        replace hlv := lt_of_cell g0
        have hl5 := lt_of_cell cl0
        go_upto_region 38 with fail
        obtain ⟨so, hso⟩ : ∃ s, w5.heap.size = s := ⟨_, rfl⟩
        obtain ⟨w6, hw6⟩ : ∃ s, w5.alloc (.cells #[.int .i64 ox, .int .i64 oy] 23) = s := ⟨_, rfl⟩
        have k6 : Keeps w5 w6 := by rw [← hw6]; exact (Keeps.refl _).alloc _
        have co0 : w6.cell? ⟨so, 0, none⟩ = some (.int .i64 ox) := by rw [← hw6, ← hso]; simp [go_sem]
        have co1 : w6.cell? ⟨so, 1, none⟩ = some (.int .i64 oy) := by rw [← hw6, ← hso]; simp [go_sem]
        rw [hw6, hso]
        clear hw6 hso
        replace kv := kv.trans k6
        replace g0 := k6.cell g0
        replace g1 := k6.cell g1
        replace g2 := k6.cell g2
        replace g3 := k6.cell g3
        replace g4 := k6.cell g4
        replace g5 := k6.cell g5
        replace ca0 := k6.cell ca0
        replace ca1 := k6.cell ca1
        replace cb0 := k6.cell cb0
        replace cb1 := k6.cell cb1
        replace cc0 := k6.cell cc0
        replace cc1 := k6.cell cc1
        replace cl0 := k6.cell cl0
        replace cl1 := k6.cell cl1
        replace hlv := lt_of_cell g0
        go_cut [39, 40] (fun p q wx => Tolm w6 qx qy m p q wx)
        case first =>
          have k5d := (Keeps.refl w6).drew
          haveI : Nonempty (Inw (fun w' => Keeps w6 w')) := ⟨⟨w6, Keeps.refl _⟩⟩
          have e0 : ∀ q : Inw (fun w' => Keeps w6 w'), q.W.cell? ⟨sv, 0, none⟩ = some (.int .i64 vm) := fun q => q.h.cell g0
          have e1 : ∀ q : Inw (fun w' => Keeps w6 w'), q.W.cell? ⟨sv, 1, none⟩ = some (.int .i64 vl) := fun q => q.h.cell g1
          have e2 : ∀ q : Inw (fun w' => Keeps w6 w'), q.W.cell? ⟨sv, 2, none⟩ = some (.int .i64 vh) := fun q => q.h.cell g2
          have e3 : ∀ q : Inw (fun w' => Keeps w6 w'), q.W.cell? ⟨sv, 3, none⟩ = some (.int .i64 vc) := fun q => q.h.cell g3
          have e4 : ∀ q : Inw (fun w' => Keeps w6 w'), q.W.cell? ⟨sv, 4, none⟩ = some (.int .i64 vd) := fun q => q.h.cell g4
          have e5 : ∀ q : Inw (fun w' => Keeps w6 w'), q.W.cell? ⟨sv, 5, none⟩ = some (.slice va vs.length vq) := fun q => q.h.cell g5
          go_wp2_with fail
          refine (wpIn_wide (n := 3)).1 ?_
          refine cix_start hmx (fun w' => Keeps w6 w') ?_
          refine cix_quiet (m := 8) (CixOk.of (fun _ => trivial) (fun _ _ _ _ hd h => ⟨hd.symm.trans h.1, h.2⟩) (by kernel_rfl)) [0, 1, 2] rfl (by kernel_rfl) k5d ?_
          show wpQuietIn _ _ _ _ _ _ [_, _, _] _
          iterate 3 (gi_big_quiet_step (fail))
          refine wpQuietIn_nil ?_
          refine cix_two (m := 7) 3 _ 8 _ rfl rfl rfl (by kernel_rfl) ?_ ?_
          · show wpListIn _ _ _ _ _ [_] _ _
            gi_wp2_with fail
            rename_i hK
            refine ⟨trivial, ((callsIn_wide (n := 2)).2 (SP.out (t) (t) _)).mono ?_⟩
            rintro e u1 ⟨rfl, k⟩
            have c1 := k5d.trans k
            refine hK _ _ (.inl ⟨rfl, c1, ?_⟩)
            clear hK k
            refine cix_two (m := 6) 4 _ 8 _ rfl rfl rfl (by kernel_rfl) ?_ ?_
            · show wpListIn _ _ _ _ _ [_] _ _
              gi_wp2_with fail
              rename_i hK
              refine ⟨trivial, ((callsIn_wide (n := 2)).2 (A2.out _ (k1.trans (kv.trans c1)))).mono ?_⟩
              rintro e u2 ⟨rfl, k⟩
              have c2 := c1.trans k
              refine hK _ _ (.inl ⟨rfl, c2, ?_⟩)
              clear hK k
              refine cix_quiet (m := 3) (CixOk.of (fun _ => trivial) (fun _ _ _ _ hd h => ⟨hd.symm.trans h.1, h.2⟩) (by kernel_rfl)) [5, 6, 7] rfl (by kernel_rfl) c2 ?_
              show wpQuietIn _ _ _ _ _ _ [_, _, _] _
              iterate 3 (gi_big_quiet_step (fail))
              refine wpQuietIn_nil ?_
              refine cix_one (m := 2) 8 _ rfl rfl (by kernel_rfl) ?_
              show wpListIn _ _ _ _ _ [_] _ _
              gi_wp2_with fail
              obtain ⟨s, hs⟩ : ∃ s, u2.heap.size = s := ⟨_, rfl⟩
              obtain ⟨u3, hu3⟩ : ∃ v, u2.alloc (.cells #[.int .i64 0, .int .i64 0] 23) = v := ⟨_, rfl⟩
              have c3 : Keeps w6 u3 := by rw [← hu3]; exact c2.alloc _
              have a0 : u3.cell? ⟨s, 0, none⟩ = some (.int .i64 0) := by rw [← hu3, ← hs]; simp [go_sem]
              have a1 : u3.cell? ⟨s, 1, none⟩ = some (.int .i64 0) := by rw [← hu3, ← hs]; simp [go_sem]
              have z0 : u3.frozen? ⟨s, 0, none⟩ = false := by rw [← hu3, ← hs]; simp [go_sem]
              have z1 : u3.frozen? ⟨s, 1, none⟩ = false := by rw [← hu3, ← hs]; simp [go_sem]
              have hsz : w6.heap.size ≤ s := by rw [← hs]; exact c2.size
              rw [hu3, hs]
              clear hu3 hs
              refine ⟨c3, ?_⟩
              refine cix_one (m := 1) 9 _ rfl rfl (by kernel_rfl) ?_
              show wpListIn _ _ _ _ _ [_] _ _
              have hT : TwoI u3 s 0 0 := ⟨a0, a1, z0, z1⟩
              have kY : Keeps w6 ((u3.setCell ⟨s, 0, none⟩ (.int .i64 qx)).setCell ⟨s, 1, none⟩ (.int .i64 qy)) := (c3.setCell (p := ⟨s, 0, none⟩) _ hsz).setCell (p := ⟨s, 1, none⟩) _ hsz
              have hT2 := (hT.set0 (qx)).set1 (qy)
              gi_wp2_with fail
              refine cix_one (m := 0) 10 _ rfl rfl (by kernel_rfl) ?_
              show wpListIn _ _ _ _ _ [_] _ _
              gi_wp2_with fail
              refine cix_done (by kernel_rfl) ?_ _
              go_wp2_with fail
              go_meet
              exact ⟨s, rfl, hsz, hT2, kY, rfl⟩
            · show wpListIn _ _ _ _ _ [_] _ _
              gi_wp2_with fail
              obtain ⟨s, hs⟩ : ∃ s, u1.heap.size = s := ⟨_, rfl⟩
              obtain ⟨u2, hu2⟩ : ∃ v, u1.alloc (.cells #[.int .i64 0, .int .i64 0] 23) = v := ⟨_, rfl⟩
              have c2 : Keeps w6 u2 := by rw [← hu2]; exact c1.alloc _
              have a0 : u2.cell? ⟨s, 0, none⟩ = some (.int .i64 0) := by rw [← hu2, ← hs]; simp [go_sem]
              have a1 : u2.cell? ⟨s, 1, none⟩ = some (.int .i64 0) := by rw [← hu2, ← hs]; simp [go_sem]
              have z0 : u2.frozen? ⟨s, 0, none⟩ = false := by rw [← hu2, ← hs]; simp [go_sem]
              have z1 : u2.frozen? ⟨s, 1, none⟩ = false := by rw [← hu2, ← hs]; simp [go_sem]
              have hsz : w6.heap.size ≤ s := by rw [← hs]; exact c1.size
              rw [hu2, hs]
              clear hu2 hs
              refine ⟨c2, ?_⟩
              refine cix_one (m := 5) 4 _ rfl rfl (by kernel_rfl) ?_
              show wpListIn _ _ _ _ _ [_] _ _
              gi_wp2_with fail
              rename_i hK
              refine ⟨trivial, ((callsIn_wide (n := 2)).2 (A2.out _ (k1.trans (kv.trans c2)))).mono ?_⟩
              rintro e u3 ⟨rfl, k⟩
              have c3 := c2.trans k
              have hss := lt_of_cell a0
              replace z0 := (k.cells.2 s 0 hss).trans z0
              replace z1 := (k.cells.2 s 1 hss).trans z1
              replace a0 := k.cell a0
              replace a1 := k.cell a1
              refine hK _ _ (.inl ⟨rfl, c3, ?_⟩)
              clear hK k
              refine cix_quiet (m := 2) (CixOk.of (fun _ => trivial) (fun _ _ _ _ hd h => ⟨hd.symm.trans h.1, h.2⟩) (by kernel_rfl)) [5, 6, 7] rfl (by kernel_rfl) c3 ?_
              show wpQuietIn _ _ _ _ _ _ [_, _, _] _
              iterate 3 (gi_big_quiet_step (fail))
              refine wpQuietIn_nil ?_
              refine cix_one (m := 1) 9 _ rfl rfl (by kernel_rfl) ?_
              show wpListIn _ _ _ _ _ [_] _ _
              have hT : TwoI u3 s 0 0 := ⟨a0, a1, z0, z1⟩
              have kY : Keeps w6 ((u3.setCell ⟨s, 0, none⟩ (.int .i64 qx)).setCell ⟨s, 1, none⟩ (.int .i64 qy)) := (c3.setCell (p := ⟨s, 0, none⟩) _ hsz).setCell (p := ⟨s, 1, none⟩) _ hsz
              have hT2 := (hT.set0 (qx)).set1 (qy)
              gi_wp2_with fail
              refine cix_one (m := 0) 10 _ rfl rfl (by kernel_rfl) ?_
              show wpListIn _ _ _ _ _ [_] _ _
              gi_wp2_with fail
              refine cix_done (by kernel_rfl) ?_ _
              go_wp2_with fail
              go_meet
              exact ⟨s, rfl, hsz, hT2, kY, rfl⟩
          · show wpListIn _ _ _ _ _ [_] _ _
            gi_wp2_with fail
            obtain ⟨s, hs⟩ : ∃ s, w6.heap.size = s := ⟨_, rfl⟩
            obtain ⟨u1, hu1⟩ : ∃ v, (w6.alloc (.cells #[.int .i64 0, .int .i64 0] 23)).drew = v := ⟨_, rfl⟩
            have c1 : Keeps w6 u1 := by rw [← hu1]; exact ((Keeps.refl w6).alloc _).drew
            have a0 : u1.cell? ⟨s, 0, none⟩ = some (.int .i64 0) := by rw [← hu1, ← hs]; simp [go_sem]
            have a1 : u1.cell? ⟨s, 1, none⟩ = some (.int .i64 0) := by rw [← hu1, ← hs]; simp [go_sem]
            have z0 : u1.frozen? ⟨s, 0, none⟩ = false := by rw [← hu1, ← hs]; simp [go_sem]
            have z1 : u1.frozen? ⟨s, 1, none⟩ = false := by rw [← hu1, ← hs]; simp [go_sem]
            have hsz : w6.heap.size ≤ s := by rw [← hs]; exact (Keeps.refl w6).size
            rw [hu1, hs]
            clear hu1 hs
            refine ⟨c1, ?_⟩
            refine cix_one (m := 6) 3 _ rfl rfl (by kernel_rfl) ?_
            show wpListIn _ _ _ _ _ [_] _ _
            gi_wp2_with fail
            rename_i hK
            refine ⟨trivial, ((callsIn_wide (n := 2)).2 (SP.out (t) (t) _)).mono ?_⟩
            rintro e u2 ⟨rfl, k⟩
            have c2 := c1.trans k
            have hss := lt_of_cell a0
            replace z0 := (k.cells.2 s 0 hss).trans z0
            replace z1 := (k.cells.2 s 1 hss).trans z1
            replace a0 := k.cell a0
            replace a1 := k.cell a1
            refine hK _ _ (.inl ⟨rfl, c2, ?_⟩)
            clear hK k
            refine cix_one (m := 5) 4 _ rfl rfl (by kernel_rfl) ?_
            show wpListIn _ _ _ _ _ [_] _ _
            gi_wp2_with fail
            rename_i hK
            refine ⟨trivial, ((callsIn_wide (n := 2)).2 (A2.out _ (k1.trans (kv.trans c2)))).mono ?_⟩
            rintro e u3 ⟨rfl, k⟩
            have c3 := c2.trans k
            have hss := lt_of_cell a0
            replace z0 := (k.cells.2 s 0 hss).trans z0
            replace z1 := (k.cells.2 s 1 hss).trans z1
            replace a0 := k.cell a0
            replace a1 := k.cell a1
            refine hK _ _ (.inl ⟨rfl, c3, ?_⟩)
            clear hK k
            refine cix_quiet (m := 2) (CixOk.of (fun _ => trivial) (fun _ _ _ _ hd h => ⟨hd.symm.trans h.1, h.2⟩) (by kernel_rfl)) [5, 6, 7] rfl (by kernel_rfl) c3 ?_
            show wpQuietIn _ _ _ _ _ _ [_, _, _] _
            iterate 3 (gi_big_quiet_step (fail))
            refine wpQuietIn_nil ?_
            refine cix_one (m := 1) 9 _ rfl rfl (by kernel_rfl) ?_
            show wpListIn _ _ _ _ _ [_] _ _
            have hT : TwoI u3 s 0 0 := ⟨a0, a1, z0, z1⟩
            have kY : Keeps w6 ((u3.setCell ⟨s, 0, none⟩ (.int .i64 qx)).setCell ⟨s, 1, none⟩ (.int .i64 qy)) := (c3.setCell (p := ⟨s, 0, none⟩) _ hsz).setCell (p := ⟨s, 1, none⟩) _ hsz
            have hT2 := (hT.set0 (qx)).set1 (qy)
            gi_wp2_with fail
            refine cix_one (m := 0) 10 _ rfl rfl (by kernel_rfl) ?_
            show wpListIn _ _ _ _ _ [_] _ _
            gi_wp2_with fail
            refine cix_done (by kernel_rfl) ?_ _
            go_wp2_with fail
            go_meet
            exact ⟨s, rfl, hsz, hT2, kY, rfl⟩
        case rest =>
          obtain ⟨sq, rfl, hsq, hTQ, k7, rfl⟩ := hcut
          rename_i hK
          refine hK _ _ ?_
          clear hK
          have cq0 := hTQ.c0
          have cq1 := hTQ.c1
          clear hTQ
          replace kv := kv.trans k7
          replace g0 := k7.cell g0
          replace g1 := k7.cell g1
          replace g2 := k7.cell g2
          replace g3 := k7.cell g3
          replace g4 := k7.cell g4
          replace g5 := k7.cell g5
          replace ca0 := k7.cell ca0
          replace ca1 := k7.cell ca1
          replace cb0 := k7.cell cb0
          replace cb1 := k7.cell cb1
          replace cc0 := k7.cell cc0
          replace cc1 := k7.cell cc1
          replace cl0 := k7.cell cl0
          replace cl1 := k7.cell cl1
          replace co0 := k7.cell co0
          replace co1 := k7.cell co1
          replace hlv := lt_of_cell g0
          obtain ⟨w7, hw7⟩ : ∃ W : World, W = wc := ⟨_, rfl⟩
          go_wp2_with fail
          refine (A3.out _ (k1.trans kv)).mono ?_
          rintro e w8 ⟨rfl, k8⟩
          replace kv := kv.trans k8
          replace g0 := k8.cell g0
          replace g1 := k8.cell g1
          replace g2 := k8.cell g2
          replace g3 := k8.cell g3
          replace g4 := k8.cell g4
          replace g5 := k8.cell g5
          replace ca0 := k8.cell ca0
          replace ca1 := k8.cell ca1
          replace cb0 := k8.cell cb0
          replace cb1 := k8.cell cb1
          replace cc0 := k8.cell cc0
          replace cc1 := k8.cell cc1
          replace cl0 := k8.cell cl0
          replace cl1 := k8.cell cl1
          replace co0 := k8.cell co0
          replace co1 := k8.cell co1
          replace cq0 := k8.cell cq0
          replace cq1 := k8.cell cq1
          replace hlv := lt_of_cell g0
          clear hw7
          go_wp2_with fail
          refine (A4.out _ (k1.trans kv)).mono ?_
          rintro e w9 ⟨rfl, k9⟩
          replace kv := kv.trans k9
          replace g0 := k9.cell g0
          replace g1 := k9.cell g1
          replace g2 := k9.cell g2
          replace g3 := k9.cell g3
          replace g4 := k9.cell g4
          replace g5 := k9.cell g5
          replace ca0 := k9.cell ca0
          replace ca1 := k9.cell ca1
          replace cb0 := k9.cell cb0
          replace cb1 := k9.cell cb1
          replace cc0 := k9.cell cc0
          replace cc1 := k9.cell cc1
          replace cl0 := k9.cell cl0
          replace cl1 := k9.cell cl1
          replace co0 := k9.cell co0
          replace co1 := k9.cell co1
          replace cq0 := k9.cell cq0
          replace cq1 := k9.cell cq1
          clear g0 g1 g2 g3 g4 g5 hlv hl5 A0 A1 A2 A3 A4 SP
          go_upto_region 41 with fail
          refine wp_mo (c' := more_at 41) (by kernel_rfl) ?_
          refine more_41 E dd cn ax ay bx bz cx cy lx ly m ox oy qx qy sd ac sa sb sc sl so sq j _ hac hm ca0 ca1 cb0 cb1 cc0 cc1 cl0 cl1 co0 co1 cq0 cq1 _ _ _ _ _ _ _ _ _ _ _ _ _ _ _ _ _ _ _ _ _ _ _ _ _ _ _ _ _ _ _ _ _ _ _ _ _ _ _ _ _ _ _ _ _ _ _ _ _ _ _ _ _ _ _ _ _ _ _ _ _ _ _ _ _ _ _ _ _ _ _ _ _ _ _ _ _ _ _ _ _ _ _ _ _ _ _ _ _ _ _ _ _ _ _ _ _ _ _ _ _ _ _ _ _ _ _ _ _ _ _ _ _ _ _ _ _ _ _ _ _ _ _ _ _ _ _ _ _ _ _ _ _ _ _ _ _ _ _ _ _ _ _ _ _ _ _ _ _ _ _ _ _ _ _ _ _ _ _ _ _ _ _ _ _ _ _ _ _ _ _ _ _ _ _ _ _ _ _ _ _ _ _ _ _ _ _ _ _ _ _ _ _ _ _ _ _ _ _ _ _ _ _ _ _ _ _ _ _ _ _ _ _ _ _ _ _ _ _ _ _ _ _ _ _ _ _ _ _ _ _ _ _ _ _ _ _ _ _ _ _ _ _ _ _ _ _ _ _ _ _ _ _ _ _ _ _ _ _ _ _ _ _ _ _ _ _ _ _ _ _ _ _ _ _ _ _ _ _ _ _ _ _ _ _ _ _ _ _ _ _ _ _ _ _ _ _ _ _ _ _ _ _ _ _ _ _ _ _ _ _ _ _ _ _ _ _ _ _ _ _ _ _ _ _ _ _ _ _ _ _ _ _ _ _ _ _ _ _ _ _ _ _ _ _ _ _ _ _ _ _ _ _ _ _ _ _ _ _ _ _ _ _ _ _ _ _ (Lib.hid fun wz kz y270 y271 y272 y273 y274 y275 y276 y277 y278 y279 y280 y281 y282 y283 y284 y285 y286 y287 y288 y289 y290 y291 y292 y293 y294 y295 y296 y297 y298 y299 y300 y301 y302 y303 y304 y305 y306 y307 y308 y309 y310 y311 y312 y313 y314 y315 y316 y317 y318 y319 y320 y321 y322 y323 y324 y325 y326 y327 y328 y329 y330 y331 y332 => ?_)
          replace kv := kv.trans kz
          replace ca0 := kz.cell ca0
          replace ca1 := kz.cell ca1
          replace cb0 := kz.cell cb0
          replace cb1 := kz.cell cb1
          replace cc0 := kz.cell cc0
          replace cc1 := kz.cell cc1
          replace cl0 := kz.cell cl0
          replace cl1 := kz.cell cl1
          replace co0 := kz.cell co0
          replace co1 := kz.cell co1
          replace cq0 := kz.cell cq0
          replace cq1 := kz.cell cq1
          go_upto_region 43 with fail
          refine wp_mo (c' := more_at 43) (by kernel_rfl) ?_
          refine more_43 E dd cn ax ay bx bz cx cy lx ly m ox oy qx qy sd ac sa sb sc sl so sq j _ HZJ.out ca0 ca1 cb0 cb1 cc0 cc1 cl0 cl1 co0 co1 cq0 cq1 _ _ _ _ _ _ _ _ _ _ _ _ _ _ _ _ _ _ _ _ _ _ _ _ _ _ _ _ _ _ _ _ _ _ _ _ _ _ _ _ _ _ _ _ _ _ _ _ _ _ _ _ _ _ _ _ _ _ _ _ _ _ _ _ _ _ _ _ _ _ _ _ _ _ _ _ _ _ _ _ _ _ _ _ _ _ _ _ _ _ _ _ _ _ _ _ _ _ _ _ _ _ _ _ _ _ _ _ _ _ _ _ _ _ _ _ _ _ _ _ _ _ _ _ _ _ _ _ _ _ _ _ _ _ _ _ _ _ _ _ _ _ _ _ _ _ _ _ _ _ _ _ _ _ _ _ _ _ _ _ _ _ _ _ _ _ _ _ _ _ _ _ _ _ _ _ _ _ _ _ _ _ _ _ _ _ _ _ _ _ _ _ _ _ _ _ _ _ _ _ _ _ _ _ _ _ _ _ _ _ _ _ _ _ _ _ _ _ _ _ _ _ _ _ _ _ _ _ _ _ _ _ _ _ _ _ _ _ _ _ _ _ _ _ _ _ _ _ _ _ _ _ _ _ _ _ _ _ _ _ _ _ _ _ _ _ _ _ _ _ _ _ _ _ _ _ _ _ _ _ _ _ _ _ _ _ _ _ _ _ _ _ _ _ _ _ _ _ _ _ _ _ _ _ _ _ _ _ _ _ _ _ _ _ _ _ _ _ _ _ _ _ _ _ _ _ _ _ _ _ _ _ _ _ _ _ _ _ _ _ _ _ _ _ _ _ _ _ _ _ _ _ _ _ _ _ _ _ _ _ _ _ _ _ _ _ _ (Lib.hid fun y334 y335 y336 y337 y338 y339 y340 y341 y342 y343 y344 y345 y346 y347 y348 y349 y350 y351 y352 y353 y354 y355 y356 y357 y358 y359 y360 y361 y362 y363 y364 => ?_)
          go_wp2_with fail
          go_roundw
          case rel => exact ⟨j + 1, by omega, by go_num, kv⟩
          case measure => simp [intOf]; omega
    · obtain rfl : j = 3 := by omega
      have kz := kk.trans kv
      go_wp2_with fail
      go_loopw [369] (fun i wx => ∃ k : Nat, k ≤ rs.length ∧ i = .int .i64 k ∧ Keeps wr wx) (fun i _ => rs.length - (intOf i).toNat)
      case atStart => exact ⟨0, Nat.zero_le _, rfl, Keeps.refl _⟩
      case round =>
        obtain ⟨k, hk, rfl, kx⟩ := hrel
        obtain ⟨wx, rfl⟩ : ∃ W : World, W = wr := ⟨_, rfl⟩
        by_cases hlt : k < rs.length
        · obtain ⟨b1, o1, rfl, hc1⟩ := HKK.out (by intro e; rw [e] at hlt; simp at hlt)
          obtain ⟨b2, o2, hra, hc2⟩ := HI.out.rds (by intro e; simp only at e; rw [e] at hlt; simp at hlt)
          dsimp only at hra
          subst hra
          have g5 := HB.out.c5
          dsimp only at g5
          have h1 := hc1 k hlt
          have h2 := hc2 k hlt
          dsimp only at h2
          obtain ⟨⟨p, q, r, s⟩, hx⟩ : ∃ x, rs[k]?.getD (0, 0, 0, 0) = x := ⟨_, rfl⟩
          rw [hx] at h1 h2
          dsimp only at h1 h2
          obtain ⟨h10, h11, h12, h13⟩ := h1
          obtain ⟨h20, h21, h22, h23⟩ := h2
          have ky := (kv).trans kx
          replace g5 := ky.cell g5
          replace h10 := ky.cell h10
          replace h11 := ky.cell h11
          replace h12 := ky.cell h12
          replace h13 := ky.cell h13
          have kz := (kz).trans kx
          replace h20 := kz.cell h20
          replace h21 := kz.cell h21
          replace h22 := kz.cell h22
          replace h23 := kz.cell h23
          have l1 := lt_of_cell h10
          have l2 := lt_of_cell h20
          have l3 := lt_of_cell g5
          have eb : ∀ w, (binOp .neq 53 (.agg #[.int .i64 p, .int .i64 q, .int .i64 r, .int .i64 s]) (.agg #[.int .i64 p, .int .i64 q, .int .i64 r, .int .i64 s])).run Try.prog w = .ok (.bool false) w := fun w => neq_wread p q r s w
          have gd := fun (o1 o2 : Operand) (w : World) => run_eqGuard_agg w .neq 53 o1 o2 #[.int .i64 p, .int .i64 q, .int .i64 r, .int .i64 s] #[.int .i64 p, .int .i64 q, .int .i64 r, .int .i64 s] guard_wread
          clear hx hc1 hc2 HB HKK HI
          go_wp2
          go_region
          go_wp2
          go_roundw
          case rel => exact ⟨k + 1, by omega, by go_num, by first | exact kx.drew | exact kx⟩
          case measure => simp [intOf]; omega
        · obtain rfl : k = rs.length := by omega
          clear HB HKK HI
          have hge : decide ((rs.length : Int) < (rs.length : Int)) = false := decide_eq_false (by omega)
          go_wp2_with fail
          refine (AW.out _).mono ?_
          rintro e w5 ⟨rfl, k5⟩
          go_wp2_with fail
          go_ret
          exact RetB.mk rfl (((kz).trans kx).trans k5)
end Go.Proofs.Ytmhpgjlegajpeaa
