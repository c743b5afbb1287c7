/-
  WarmMore from its region 5 on, whole.
-/
import Derived.Test.YtmhpgjlegajpeaaMA
import Derived.Deep.DeepCutAuto
import Derived.Deep.CutBlock
namespace Go.Proofs.Ytmhpgjlegajpeaa
open Go.RowKit

theorem own_block_slice {a : Option Addr} {n c b o : Nat} (h : a = some ⟨b, o, none⟩) : (Value.slice a n c).ownBlock = some b := by subst h; rfl
theorem six_box {B : Wm} {w : World} {b : Nat} {a : Option Addr} {c : Nat} {rs : List Wr} (h : Six w b (.int .i64 B.mark) (.int .i64 B.llo) (.int .i64 B.lhi) (.int .i64 B.clo) (.int .i64 B.chi) (.slice a rs.length c)) : Wm.Box ⟨B.mark, B.llo, B.lhi, B.clo, B.chi, a, c, rs⟩ w b := ⟨h.c0, h.c1, h.c2, h.c3, h.c4, h.c5⟩
theorem Wm.Box.grown {B : Wm} {w w' : World} {row : Option Nat} {b : Nat} (h : B.Box w b) (hg : w.grownBy w' row) (hne : some b ≠ row) : B.Box w' b :=
  ⟨hg.cell h.c0 hne, hg.cell h.c1 hne, hg.cell h.c2 hne, hg.cell h.c3 hne, hg.cell h.c4 hne, hg.cell h.c5 hne⟩
/-- What the switch needs of the readings that may be made narrower. -/
theorem own_row {w0 wx : World} {ya xa za : Option Addr} {yc n M1 M2 b0 s1 s2 s3 H xn xc : Nat} {l : List Value} (ry : wx.ownsRow M1 53 4 (.slice ya n yc) n l) (hn : 0 < n) (hx : ∀ j, (Value.slice xa xn xc).ownBlock = some j → j < M1) (hy : ∀ j, (Value.slice ya n yc).ownBlock = some j → j < M2)
    (hz : ∀ b o, za = some ⟨b, o, none⟩ → M2 ≤ b) (n0 : b0 < H) (n1 : s1 < H) (n2 : s2 < H) (n3 : s3 < H) (hH : H ≤ M1) (hw : w0.heap.size ≤ H) :
    ∃ g, ya = some ⟨g, 0, none⟩ ∧ (∀ o, wx.frozen? ⟨g, o, none⟩ = false) ∧ (∀ b o, xa = some ⟨b, o, none⟩ → b ≠ g) ∧ (∀ b o, za = some ⟨b, o, none⟩ → b ≠ g) ∧ b0 ≠ g ∧ s1 ≠ g ∧ s2 ≠ g ∧ s3 ≠ g ∧ w0.heap.size ≤ g := by
  rcases ry.2 with ⟨h1, h2⟩ | ⟨g, cap, cur, hv, hb, hh, _⟩
  · omega
  · injection hv with e1 _ _
    subst e1
    have hg2 : g < M2 := hy g rfl
    refine ⟨g, rfl, fun o => by simp [World.frozen?, hh], fun b o e => ?_, fun b o e => ?_, by omega, by omega, by omega, by omega, by omega⟩
    · have := hx b (own_block_slice e)
      omega
    · have := hz b o e
      omega
set_option maxRecDepth 100000 in
set_option maxHeartbeats 40000000 in
theorem more_5 (mark llo lhi clo chi : Int) (ra : Option Addr) (rc : Nat) (rs : List Wr) (b0 b7 s1 s2 s3 : Nat) (ep eq ey ez wh wt at8 of16 : Int) (w wr : World)
    (hok : Wm.ok ⟨mark, llo, lhi, clo, chi, ra, rc, rs⟩ = true) (hI : Wm.In ⟨mark, llo, lhi, clo, chi, ra, rc, rs⟩ w) (kk : Keeps w wr) (hB : Wm.Box ⟨mark, llo, lhi, clo, chi, ra, rc, rs⟩ wr b0) (hl : rs.length ≤ 5)
    (h0 : 0 ≤ wh) (h1 : wh ≤ 255) (i0 : 0 ≤ wt) (a0 : 0 ≤ at8) (a1 : at8 ≤ 255) (f0 : 0 ≤ of16) (f1 : of16 ≤ 65535)
    (c0 : wr.cell? ⟨b7, 0, none⟩ = some (.int .i64 ep)) (c1 : wr.cell? ⟨b7, 1, none⟩ = some (.int .i64 eq)) (c2 : wr.cell? ⟨b7, 2, none⟩ = some (.int .i64 ey)) (c3 : wr.cell? ⟨b7, 3, none⟩ = some (.int .i64 ez))
    (hx : Six wr s1 (.int .i64 mark) (.int .i64 llo) (.int .i64 lhi) (.int .i64 clo) (.int .i64 chi) (.slice ra rs.length rc)) (hy : Six wr s2 (.int .i64 mark) (.int .i64 llo) (.int .i64 lhi) (.int .i64 clo) (.int .i64 chi) (.slice ra rs.length rc)) (hz : Six wr s3 (.int .i64 mark) (.int .i64 llo) (.int .i64 lhi) (.int .i64 clo) (.int .i64 chi) (.slice ra rs.length rc)) (w1' : w.heap.size ≤ s1) (w2' : w.heap.size ≤ s2) (w3' : w.heap.size ≤ s3)
    (d1 : b0 ≠ s1) (d2 : b0 ≠ s2) (d3 : b0 ≠ s3) (d12 : s1 ≠ s2) (d13 : s1 ≠ s3) (d23 : s2 ≠ s3)
    (x0 x1 x8 x9 x10 x11 x12 x17 x18 x19 x20 x21 x22 x23 x24 x25 x26 x27 x28 x29 x30 x31 x32 x33 x34 x35 x36 x37 x38 x39 x40 x41 x42 x43 x44 x45 x46 x47 x48 x49 x50 x51 x52 x53 x54 x55 x56 x57 x58 x59 x60 x61 x62 x63 x64 x65 x66 x67 x68 x69 x70 x71 x72 x73 x74 x75 x76 x77 x78 x79 x80 x81 x82 x83 x84 x85 x86 x87 x88 x89 x90 x91 x92 x93 x94 x95 x96 x97 x98 x99 x100 x101 x102 x103 x104 x105 x106 x107 x108 x109 x110 x111 x112 x113 x114 x115 x116 x117 x118 x119 x120 x121 x122 x123 x124 x125 x126 x127 x128 x129 x130 x131 x132 x133 x134 x135 x136 x137 x138 x139 x140 x141 x142 x143 x144 x145 x146 x147 x148 x149 x150 x151 x152 x153 x154 x155 x156 x157 x158 x159 x160 x161 x162 x163 x164 x165 x166 x167 x168 x169 x170 x171 x172 x173 x174 x175 x176 x177 x178 x179 x180 x181 x182 x183 x184 x185 x186 x187 x188 x189 x190 x191 x192 x193 x194 x195 x196 x197 x198 x199 x200 x201 x202 x203 x204 x205 x206 x207 x208 x209 x210 x211 x212 x213 x214 x215 x216 x217 x218 x219 x220 x221 x222 x223 x224 x225 x226 x227 x228 x229 x230 x231 x232 x233 x234 x235 x236 x237 x238 x239 x240 x241 x242 x243 x244 x245 x246 x247 x248 x249 x250 x251 x252 x253 x254 x255 x256 x257 x258 x259 x260 x261 x262 x263 x264 x265 x266 x267 x268 x269 x270 x271 x272 x273 x274 x275 x276 x277 x278 x279 x280 x281 x282 x283 x284 x285 x286 x287 x288 x289 x290 x291 x292 x293 x294 x295 x296 x297 x298 x299 x300 x301 x302 x303 x304 x305 x306 x307 x308 x309 x310 x311 x312 x313 x314 x315 x316 x317 x318 x319 x320 x321 x322 x323 x324 x325 x326 x327 x328 x329 x330 x331 x332 x333 x334 x335 x336 x337 x338 x339 x340 x341 x342 x343 x344 x345 x346 x347 x348 x349 x350 x351 x352 x353 x354 x355 x356 x357 x358 x359 x360 x361 x362 x363 x364 x365 x366 x367 x368 x369 x370 x371 x372 x373 x374 x375 x376 x377 x378 x379 x380 x381 x382 x383 : Value) :
    Code.wp Try.prog (more_from 5) (bodyPost Try.prog Try.f12 (RetB true w)) { tmps := #[x0, x1, .int .u8 wh, .int .u8 wt, .int .u8 at8, .int .u16 of16, .pointer (some ⟨b0, 0, none⟩), .pointer (some ⟨b7, 0, none⟩), x8, x9, x10, x11, x12, .int .i64 (rs.length : Int), .pointer (some ⟨s1, 0, none⟩), .pointer (some ⟨s2, 0, none⟩), .pointer (some ⟨s3, 0, none⟩), x17, x18, x19, x20, x21, x22, x23, x24, x25, x26, x27, x28, x29, x30, x31, x32, x33, x34, x35, x36, x37, x38, x39, x40, x41, x42, x43, x44, x45, x46, x47, x48, x49, x50, x51, x52, x53, x54, x55, x56, x57, x58, x59, x60, x61, x62, x63, x64, x65, x66, x67, x68, x69, x70, x71, x72, x73, x74, x75, x76, x77, x78, x79, x80, x81, x82, x83, x84, x85, x86, x87, x88, x89, x90, x91, x92, x93, x94, x95, x96, x97, x98, x99, x100, x101, x102, x103, x104, x105, x106, x107, x108, x109, x110, x111, x112, x113, x114, x115, x116, x117, x118, x119, x120, x121, x122, x123, x124, x125, x126, x127, x128, x129, x130, x131, x132, x133, x134, x135, x136, x137, x138, x139, x140, x141, x142, x143, x144, x145, x146, x147, x148, x149, x150, x151, x152, x153, x154, x155, x156, x157, x158, x159, x160, x161, x162, x163, x164, x165, x166, x167, x168, x169, x170, x171, x172, x173, x174, x175, x176, x177, x178, x179, x180, x181, x182, x183, x184, x185, x186, x187, x188, x189, x190, x191, x192, x193, x194, x195, x196, x197, x198, x199, x200, x201, x202, x203, x204, x205, x206, x207, x208, x209, x210, x211, x212, x213, x214, x215, x216, x217, x218, x219, x220, x221, x222, x223, x224, x225, x226, x227, x228, x229, x230, x231, x232, x233, x234, x235, x236, x237, x238, x239, x240, x241, x242, x243, x244, x245, x246, x247, x248, x249, x250, x251, x252, x253, x254, x255, x256, x257, x258, x259, x260, x261, x262, x263, x264, x265, x266, x267, x268, x269, x270, x271, x272, x273, x274, x275, x276, x277, x278, x279, x280, x281, x282, x283, x284, x285, x286, x287, x288, x289, x290, x291, x292, x293, x294, x295, x296, x297, x298, x299, x300, x301, x302, x303, x304, x305, x306, x307, x308, x309, x310, x311, x312, x313, x314, x315, x316, x317, x318, x319, x320, x321, x322, x323, x324, x325, x326, x327, x328, x329, x330, x331, x332, x333, x334, x335, x336, x337, x338, x339, x340, x341, x342, x343, x344, x345, x346, x347, x348, x349, x350, x351, x352, x353, x354, x355, x356, x357, x358, x359, x360, x361, x362, x363, x364, x365, x366, x367, x368, x369, x370, x371, x372, x373, x374, x375, x376, x377, x378, x379, x380, x381, x382, x383], defers := [] } wr := by
  conv => arg 2; whnf
  try dsimp only
  have hmx : Try.prog.follows .mixedOrders = true := by kernel_rfl
  obtain ⟨i0', hi0, hz0, hz1, hz2⟩ := info_parts info_read
  obtain ⟨H, hH⟩ : ∃ H, wr.heap.size = H := ⟨_, rfl⟩
  have n0 : b0 < H := by rw [← hH]; exact lt_of_cell hB.c0
  have n1 : s1 < H := by rw [← hH]; exact hx.lt
  have n2 : s2 < H := by rw [← hH]; exact hy.lt
  have n3 : s3 < H := by rw [← hH]; exact hz.lt
  have hwH : w.heap.size ≤ H := by omega
  have HOK := Lib.hid hok
  have HI := Lib.hid hI
  go_upto_region 5 with fail
  refine wp_mo (c' := more_at 5) (by kernel_rfl) ?_
  refine more_5x mark llo lhi clo chi ra rc rs b0 b7 s1 s2 s3 H ep eq ey ez wh wt at8 of16 w _ hI kk hB hl c0 c1 c2 c3 hx hy hz w1' d1 d12 d13 hH _ _ _ _ _ _ _ _ _ _ _ _ _ _ _ _ _ _ _ _ _ _ _ _ _ _ _ _ _ _ _ _ _ _ _ _ _ _ _ _ _ _ _ _ _ _ _ _ _ _ _ _ _ _ _ _ _ _ _ _ _ _ _ _ _ _ _ _ _ _ _ _ _ _ _ _ _ _ _ _ _ _ _ _ _ _ _ _ _ _ _ _ _ _ _ _ _ _ _ _ _ _ _ _ _ _ _ _ _ _ _ _ _ _ _ _ _ _ _ _ _ _ _ _ _ _ _ _ _ _ _ _ _ _ _ _ _ _ _ _ _ _ _ _ _ _ _ _ _ _ _ _ _ _ _ _ _ _ _ _ _ _ _ _ _ _ _ _ _ _ _ _ _ _ _ _ _ _ _ _ _ _ _ _ _ _ _ _ _ _ _ _ _ _ _ _ _ _ _ _ _ _ _ _ _ _ _ _ _ _ _ _ _ _ _ _ _ _ _ _ _ _ _ _ _ _ _ _ _ _ _ _ _ _ _ _ _ _ _ _ _ _ _ _ _ _ _ _ _ _ _ _ _ _ _ _ _ _ _ _ _ _ _ _ _ _ _ _ _ _ _ _ _ _ _ _ _ _ _ _ _ _ _ _ _ _ _ _ _ _ _ _ _ _ _ _ _ _ _ _ _ _ _ _ _ _ _ _ _ _ _ _ _ _ _ _ _ _ _ _ _ _ _ _ _ _ _ _ _ _ _ _ _ _ _ _ _ _ _ _ _ _ _ _ _ _ _ _ _ _ _ _ _ _ _ _ _ _ _ _ _ _ _ _ _ _ _ _ _ _ _ _ _ _ _ (Lib.hid fun w1 y56 y57 y58 y59 y60 y61 y62 y63 hR => ?_)
  obtain ⟨vx, bB, x, y, z, k1, rx, hsz⟩ := hR
  dsimp only at x y z rx
  rename_i hK
  refine hK _ _ ?_
  clear hK
  try dsimp only
  clear c0 c1 c2 c3 hx hy hz hB hok hI kk hH w1'
  obtain ⟨M1, hM1⟩ : ∃ s, w1.heap.size = s := ⟨_, rfl⟩
  have hHM : H ≤ M1 := by rw [← hM1]; exact hsz
  have hbx : ∀ j, vx.ownBlock = some j → j < M1 := fun j hj => by rw [← hM1]; exact (rx.lt j hj).2
  have ka := (Keeps.refl w1).alloc (.cells #[] 53)
  have AQ := Lib.hid (append_reads (w1.alloc (.cells #[] 53)) M1 24 (.slice (some ⟨M1, 0, none⟩) 0 0) 0 [] (by rw [← hM1]; exact World.ownsRow_lit (base := w1.heap.size) (e := 53) (size := 4) w1 #[] 0 (Nat.le_refl _) (by simp [maxLen]) rfl) ra rc rs ((HI.out.rds).keep (k1.trans ka)) (by omega) (by rw [← hM1]; simp))
  have SY := Lib.hid (y.keep ka)
  have SZ := Lib.hid (z.keep ka)
  have NE2 : some s2 ≠ some M1 := fun e => by injection e with e; omega
  have NE3 : some s3 ≠ some M1 := fun e => by injection e with e; omega
  have g5 := bB.c5
  dsimp only at g5
  have g5a := ka.cell g5
  have lg := lt_of_cell g5
  have lga := lt_of_cell g5a
  go_upto_region 7 with (at_builtin; refine wpList_step ?_; intro K hK6; refine step_append_run (by rfl) (.tmp 64) (.tmp 66) 24 (by rfl) (.slice (some ⟨M1, 0, none⟩) 0 0) (.slice ra rs.length rc) (by simp [Act.eval]) (by simp [Act.eval]) _ AQ.out ?_; rintro v1 X3 hgr; have hg3 : (w1.alloc (.cells #[] 53)).grownBy X3 (some M1) := hgr.2; have ry := hgr.1; simp only [Nat.zero_add, List.nil_append] at ry; obtain ⟨ya, yc, rfl, hrd, hab⟩ := Wrs.of_owns (l := rs) ry; have sy := SY.out.kept hg3 NE2; have sz := SZ.out.kept hg3 NE3; have cy5 := sy.c5; have fy5 := sy.fr 5; have cz5 := sz.c5; have fz5 := sz.fr 5; have ly := sy.lt; have lz := sz.lt; refine hK6 _ _ ?_)
  have sx := (x.keep ka).kept hg3 (fun e => by injection e with e; omega)
  obtain ⟨M2, hM2⟩ : ∃ s, X3.heap.size = s := ⟨_, rfl⟩
  have hMM : M1 ≤ M2 := by
    have h1 := hg3.size
    rw [← hM2, ← hM1]
    simp at h1
    omega
  have hby : ∀ j, (Value.slice ya rs.length yc).ownBlock = some j → j < M2 := fun j hj => by rw [← hM2]; exact (ry.lt j hj).2
  obtain ⟨W4, hW4⟩ : ∃ W, (X3.setCell ⟨s2, 5, none⟩ (.slice ya rs.length yc)).setCell ⟨s3, 5, none⟩ (.slice none 0 0) = W := ⟨_, rfl⟩
  have MOO : Mo ⟨mark, llo, lhi, clo, chi, ra, rc, rs⟩ b0 s1 s2 s3 H M1 M2 (ep, eq, ey, ez) vx (.slice ya rs.length yc) (.slice none 0 0) [] w W4 := by
    rw [← hW4]
    have kx : Keeps w X3 := Below.grown (k1.trans ka) hg3 (k1.trans ka).size (fun j e => by injection e with e; omega)
    have rx3 := (rx.kept (ka.grown none) (ownZ _)).kept hg3 (by
      cases e1 : vx.ownBlock with
      | none => exact .inl rfl
      | some j => exact .inr (fun e2 => by injection e2 with e2; have := hbx j e1; omega))
    have bX3 := (bB.keep ka).grown hg3 (fun e => by injection e with e; omega)
    exact ⟨(bX3.set d2 _).set d3 _, (sx.others (fun e => d12 e.symm)).others (fun e => d13 e.symm), (sy.set5 _).others (fun e => d23 e.symm), (sz.others d23).set5 _, (kx.setCell (p := ⟨s2, 5, none⟩) _ w2').setCell (p := ⟨s3, 5, none⟩) _ w3', ownsRow_setCell_below (ownsRow_setCell_below rx3 (a := ⟨s2, 5, none⟩) n2 _) (a := ⟨s3, 5, none⟩) n3 _, ownsRow_setCell_below (ownsRow_setCell_below ry (a := ⟨s2, 5, none⟩) (by dsimp only; omega) _) (a := ⟨s3, 5, none⟩) (by dsimp only; omega) _, World.ownsRow_nil _ _ _ _, by simp [World.setCell]; omega⟩
  rw [hW4]
  clear hW4 hM2 sx sy sz cy5 fy5 cz5 fz5 ly lz hg3 ry rx x y z bB k1 ka g5 g5a lg lga SY SZ AQ NE2 NE3 hM1 hsz hrd hab hgr
  have g5 := MOO.bB.c5
  dsimp only at g5
  have lg := lt_of_cell g5
  go_upto_block 0 with fail
  go_cut [17] from 73 to 89 (fun _ wx => ∃ vz, Mo ⟨mark, llo, lhi, clo, chi, ra, rc, rs⟩ b0 s1 s2 s3 H M1 M2 (ep, eq, ey, ez) vx (.slice ya rs.length yc) vz rs.reverse w wx)
  case first =>
    clear g5 lg
    go_wp2_with fail
    go_loopw [73] (fun ix wx => ∃ (k : Nat) (vz : Value), k ≤ rs.length ∧ ix = .int .i64 k ∧ Mo ⟨mark, llo, lhi, clo, chi, ra, rc, rs⟩ b0 s1 s2 s3 H M1 M2 (ep, eq, ey, ez) vx (.slice ya rs.length yc) vz (rs.reverse.take k) w wx) (fun ix _ => rs.length - (intOf ix).toNat)
    case atStart => exact ⟨0, _, Nat.zero_le _, rfl, MOO⟩
    case round =>
      obtain ⟨k, vz, hk, rfl, mo⟩ := hrel
      have HMO := Lib.hid mo
      clear MOO
      by_cases hlt : k < rs.length
      · obtain ⟨i, hi⟩ : ∃ i, rs.length - 1 - k = i := ⟨_, rfl⟩
        have hil : i < rs.length := by omega
        obtain ⟨rb, ro, hra, hcs⟩ := HI.out.rds (by intro e; simp only at e; rw [e] at hlt; simp at hlt)
        dsimp only at hra hcs
        subst hra
        have HTK := Lib.hid (rev_take hlt hi)
        obtain ⟨q0, q1, q2, q3⟩ := hcs i hil
        rw [show rs[i]?.getD (0, 0, 0, 0) = rs[i]'hil by rw [List.getElem?_eq_getElem hil, Option.getD_some]] at q0 q1 q2 q3
        obtain ⟨⟨p, q, y, z⟩, hr⟩ : ∃ r : Wr, rs[i]'hil = r := ⟨_, rfl⟩
        rw [hr] at q0 q1 q2 q3 HTK
        dsimp only at q0 q1 q2 q3
        have hrb : rb < H := Nat.lt_of_lt_of_le (lt_of_cell q0) hwH
        replace q0 := mo.kp.cell q0
        replace q1 := mo.kp.cell q1
        replace q2 := mo.kp.cell q2
        replace q3 := mo.kp.cell q3
        have g5 := mo.bB.c5
        dsimp only at g5
        have z5 := mo.z.c5
        have fz := mo.z.fr 5
        have hw1 : IntKind.i64.wrap ((rs.length : Int) - 1) = (rs.length : Int) - 1 := IntWalk.i64_in _ (by constructor <;> omega)
        have hw2 : IntKind.i64.wrap ((rs.length : Int) - 1 - (k : Int)) = (i : Int) := by rw [show (rs.length : Int) - 1 - (k : Int) = (i : Int) by omega]; exact IntWalk.i64_in _ (by constructor <;> omega)
        have hC : (fun w' => w'.cell? ⟨s3, 5, none⟩ = some vz ∧ w'.cell? ⟨b0, 5, none⟩ = some (.slice (some ⟨rb, ro, none⟩) rs.length rc) ∧ w'.cell? ⟨rb, ro + i * 4, none⟩ = some (.int .i64 p) ∧ w'.cell? ⟨rb, ro + i * 4 + 1, none⟩ = some (.int .i64 q) ∧ w'.cell? ⟨rb, ro + i * 4 + 2, none⟩ = some (.int .i64 y) ∧ w'.cell? ⟨rb, ro + i * 4 + 3, none⟩ = some (.int .i64 z)) wr.drew := ⟨z5, g5, q0, q1, q2, q3⟩
        clear hcs hr mo g5 z5 q0 q1 q2 q3
        haveI : Nonempty (Inw (fun w' => w'.cell? ⟨s3, 5, none⟩ = some vz ∧ w'.cell? ⟨b0, 5, none⟩ = some (.slice (some ⟨rb, ro, none⟩) rs.length rc) ∧ w'.cell? ⟨rb, ro + i * 4, none⟩ = some (.int .i64 p) ∧ w'.cell? ⟨rb, ro + i * 4 + 1, none⟩ = some (.int .i64 q) ∧ w'.cell? ⟨rb, ro + i * 4 + 2, none⟩ = some (.int .i64 y) ∧ w'.cell? ⟨rb, ro + i * 4 + 3, none⟩ = some (.int .i64 z))) := ⟨⟨wr.drew, hC⟩⟩
        have j0 : ∀ q : Inw (fun w' => w'.cell? ⟨s3, 5, none⟩ = some vz ∧ w'.cell? ⟨b0, 5, none⟩ = some (.slice (some ⟨rb, ro, none⟩) rs.length rc) ∧ w'.cell? ⟨rb, ro + i * 4, none⟩ = some (.int .i64 p) ∧ w'.cell? ⟨rb, ro + i * 4 + 1, none⟩ = some (.int .i64 q) ∧ w'.cell? ⟨rb, ro + i * 4 + 2, none⟩ = some (.int .i64 y) ∧ w'.cell? ⟨rb, ro + i * 4 + 3, none⟩ = some (.int .i64 z)), _ := fun q => q.h.1
        have j1 : ∀ q : Inw (fun w' => w'.cell? ⟨s3, 5, none⟩ = some vz ∧ w'.cell? ⟨b0, 5, none⟩ = some (.slice (some ⟨rb, ro, none⟩) rs.length rc) ∧ w'.cell? ⟨rb, ro + i * 4, none⟩ = some (.int .i64 p) ∧ w'.cell? ⟨rb, ro + i * 4 + 1, none⟩ = some (.int .i64 q) ∧ w'.cell? ⟨rb, ro + i * 4 + 2, none⟩ = some (.int .i64 y) ∧ w'.cell? ⟨rb, ro + i * 4 + 3, none⟩ = some (.int .i64 z)), _ := fun q => q.h.2.1
        have j2 : ∀ q : Inw (fun w' => w'.cell? ⟨s3, 5, none⟩ = some vz ∧ w'.cell? ⟨b0, 5, none⟩ = some (.slice (some ⟨rb, ro, none⟩) rs.length rc) ∧ w'.cell? ⟨rb, ro + i * 4, none⟩ = some (.int .i64 p) ∧ w'.cell? ⟨rb, ro + i * 4 + 1, none⟩ = some (.int .i64 q) ∧ w'.cell? ⟨rb, ro + i * 4 + 2, none⟩ = some (.int .i64 y) ∧ w'.cell? ⟨rb, ro + i * 4 + 3, none⟩ = some (.int .i64 z)), _ := fun q => q.h.2.2.1
        have j3 : ∀ q : Inw (fun w' => w'.cell? ⟨s3, 5, none⟩ = some vz ∧ w'.cell? ⟨b0, 5, none⟩ = some (.slice (some ⟨rb, ro, none⟩) rs.length rc) ∧ w'.cell? ⟨rb, ro + i * 4, none⟩ = some (.int .i64 p) ∧ w'.cell? ⟨rb, ro + i * 4 + 1, none⟩ = some (.int .i64 q) ∧ w'.cell? ⟨rb, ro + i * 4 + 2, none⟩ = some (.int .i64 y) ∧ w'.cell? ⟨rb, ro + i * 4 + 3, none⟩ = some (.int .i64 z)), _ := fun q => q.h.2.2.2.1
        have j4 : ∀ q : Inw (fun w' => w'.cell? ⟨s3, 5, none⟩ = some vz ∧ w'.cell? ⟨b0, 5, none⟩ = some (.slice (some ⟨rb, ro, none⟩) rs.length rc) ∧ w'.cell? ⟨rb, ro + i * 4, none⟩ = some (.int .i64 p) ∧ w'.cell? ⟨rb, ro + i * 4 + 1, none⟩ = some (.int .i64 q) ∧ w'.cell? ⟨rb, ro + i * 4 + 2, none⟩ = some (.int .i64 y) ∧ w'.cell? ⟨rb, ro + i * 4 + 3, none⟩ = some (.int .i64 z)), _ := fun q => q.h.2.2.2.2.1
        have j5 : ∀ q : Inw (fun w' => w'.cell? ⟨s3, 5, none⟩ = some vz ∧ w'.cell? ⟨b0, 5, none⟩ = some (.slice (some ⟨rb, ro, none⟩) rs.length rc) ∧ w'.cell? ⟨rb, ro + i * 4, none⟩ = some (.int .i64 p) ∧ w'.cell? ⟨rb, ro + i * 4 + 1, none⟩ = some (.int .i64 q) ∧ w'.cell? ⟨rb, ro + i * 4 + 2, none⟩ = some (.int .i64 y) ∧ w'.cell? ⟨rb, ro + i * 4 + 3, none⟩ = some (.int .i64 z)), _ := fun q => q.h.2.2.2.2.2
        have hln : (rs.reverse.take k).length = k := by rw [List.length_take, List.length_reverse]; omega
        go_wp2_with fail
        rename_i hKr
        refine (wpIn_wide (n := 3)).1 (calm ?_)
        refine cix_start hmx (fun w' => w'.cell? ⟨s3, 5, none⟩ = some vz ∧ w'.cell? ⟨b0, 5, none⟩ = some (.slice (some ⟨rb, ro, none⟩) rs.length rc) ∧ w'.cell? ⟨rb, ro + i * 4, none⟩ = some (.int .i64 p) ∧ w'.cell? ⟨rb, ro + i * 4 + 1, none⟩ = some (.int .i64 q) ∧ w'.cell? ⟨rb, ro + i * 4 + 2, none⟩ = some (.int .i64 y) ∧ w'.cell? ⟨rb, ro + i * 4 + 3, none⟩ = some (.int .i64 z)) ?_
        refine cix_quiet (m := 4) (calm_ok (fun _ => trivial) (by kernel_rfl)) [0, 1, 2, 3, 4, 5, 6, 7, 8, 9] rfl (by kernel_rfl) hC ?_
        show wpQuietIn _ _ _ _ _ _ [_, _, _, _, _, _, _, _, _, _] _
        iterate 10 (gi_big_quiet_step (fail))
        refine wpQuietIn_nil ?_
        clear j0 j1 j2 j3 j4 j5 hw1 hw2
        refine cix_one (m := 3) 10 _ rfl rfl (by kernel_rfl) ?_
        show wpListIn _ _ _ _ _ [_] _ _
        obtain ⟨U, hU⟩ : ∃ W, wr.drew.alloc (.cells #[.int .i64 p, .int .i64 q, .int .i64 y, .int .i64 z] 53) = W := ⟨_, rfl⟩
        have kU : Keeps wr U := by rw [← hU]; exact ((Keeps.refl wr).drew).alloc _
        obtain ⟨SU, hSU⟩ : ∃ s, wr.drew.heap.size = s := ⟨_, rfl⟩
        have hcU : (fun w' => w'.cell? ⟨s3, 5, none⟩ = some vz ∧ w'.cell? ⟨b0, 5, none⟩ = some (.slice (some ⟨rb, ro, none⟩) rs.length rc) ∧ w'.cell? ⟨rb, ro + i * 4, none⟩ = some (.int .i64 p) ∧ w'.cell? ⟨rb, ro + i * 4 + 1, none⟩ = some (.int .i64 q) ∧ w'.cell? ⟨rb, ro + i * 4 + 2, none⟩ = some (.int .i64 y) ∧ w'.cell? ⟨rb, ro + i * 4 + 3, none⟩ = some (.int .i64 z)) U := ⟨kU.cell hC.1, kU.cell hC.2.1, kU.cell hC.2.2.1, kU.cell hC.2.2.2.1, kU.cell hC.2.2.2.2.1, kU.cell hC.2.2.2.2.2⟩
        have HCS := Lib.hid (four_cells (W := U) (b := SU) (u0 := .int .i64 p) (u1 := .int .i64 q) (u2 := .int .i64 y) (u3 := .int .i64 z) (by rw [← hU, ← hSU]; simp [go_sem]) (by rw [← hU, ← hSU]; simp [go_sem]) (by rw [← hU, ← hSU]; simp [go_sem]) (by rw [← hU, ← hSU]; simp [go_sem]))
        have HMU := Lib.hid (HMO.out.keep kU)
        have HRZ := Lib.hid (by have h := HMU.out.rz; rw [hln] at h; exact h)
        have NB : ∀ b, b < H → some b ≠ vz.ownBlock := fun b hb e => by have := (HRZ.out.lt b e.symm).1; omega
        gi_wp2_with fail
        clear hU hSU
        refine cix_one (m := 2) 11 _ rfl rfl (by kernel_rfl) ?_
        show wpListIn _ _ _ _ _ [_] _ _
        refine wpListIn_append_own _ rfl _ _ 24 rfl M2 53 i0' (.agg #[.int .i64 0, .int .i64 0, .int .i64 0, .int .i64 0]) 4 32 Try.underlying24 hi0 hz0 hz1 hz2 rfl (by decide) vz k _ rfl HRZ.out ⟨SU, 0, none⟩ 1 1 [.int .i64 p, .int .i64 q, .int .i64 y, .int .i64 z] rfl rfl HCS.out (by simp [Value.oneCell']) (by unfold maxLen; omega) (by omega) HMU.out.sz ?_
        intro v2 ud row2 hg2 _
        have hcd : (fun w' => w'.cell? ⟨s3, 5, none⟩ = some vz ∧ w'.cell? ⟨b0, 5, none⟩ = some (.slice (some ⟨rb, ro, none⟩) rs.length rc) ∧ w'.cell? ⟨rb, ro + i * 4, none⟩ = some (.int .i64 p) ∧ w'.cell? ⟨rb, ro + i * 4 + 1, none⟩ = some (.int .i64 q) ∧ w'.cell? ⟨rb, ro + i * 4 + 2, none⟩ = some (.int .i64 y) ∧ w'.cell? ⟨rb, ro + i * 4 + 3, none⟩ = some (.int .i64 z)) ud := ⟨hg2.cell hcU.1 (NB _ n3), hg2.cell hcU.2.1 (NB _ n0), hg2.cell hcU.2.2.1 (NB _ hrb), hg2.cell hcU.2.2.2.1 (NB _ hrb), hg2.cell hcU.2.2.2.2.1 (NB _ hrb), hg2.cell hcU.2.2.2.2.2 (NB _ hrb)⟩
        have zz := HMU.out.z.kept hg2 (NB _ n3)
        have NX := Lib.hid (HMU.out.step (r := (p, q, y, z)) hbx hby n0 n1 n2 n3 hHM hMM d3 d13 d23 w3' hg2 (by rw [hln]; exact row2))
        obtain ⟨g2, cap2, rfl⟩ := ownsRow_succ row2
        have u5 := zz.c5
        have fu := zz.fr 5
        have lu := zz.lt
        clear zz hcU kU
        gi_wp2_with fail
        refine cix_quiet (m := 1) (calm_ok (Q := fun _ => _) (fun _ => trivial) (by kernel_rfl)) [12] rfl (by kernel_rfl) hcd ?_
        show wpQuietIn _ _ _ _ _ _ [_] _
        iterate 1 (gi_big_quiet_step (fail))
        refine wpQuietIn_nil ?_
        refine cix_last (m := 0) 13 _ rfl rfl (by kernel_rfl) (by kernel_rfl) (by kernel_rfl) ?_
        show wpListIn _ _ _ _ _ [_] _ _
        gi_wp2_with fail
        go_wp2_with fail
        go_roundw
        case rel => exact ⟨k + 1, _, by omega, by go_num, by rw [HTK.out]; exact NX.out⟩
        case measure => simp [intOf]; omega
      · obtain rfl : k = rs.length := by omega
        have hge : decide ((rs.length : Int) < (rs.length : Int)) = false := decide_eq_false (by omega)
        go_wp2_with fail
        go_meet
        exact ⟨vz, by have h := HMO.out; rw [List.take_of_length_le (by rw [List.length_reverse]; exact Nat.le_refl _)] at h; exact h⟩
  case rest =>
    obtain ⟨vz, mo⟩ := hcut
    rename_i hK
    refine hK _ _ (wp_mo (c' := more_two 12) (by kernel_rfl) ?_)
    obtain ⟨xa, xc, rfl, hxr, hxb⟩ := Wrs.of_owns (l := rs ++ [(ep, eq, ey, ez)]) (by rw [List.length_append, List.length_singleton]; exact mo.rx)
    obtain ⟨ya', yc', hye, hyr, _⟩ := Wrs.of_owns (l := rs) mo.ry
    injection hye with e1 _ e2
    subst e1 e2
    obtain ⟨za, zc, rfl, hzr, hzb⟩ := Wrs.of_owns (l := rs.reverse) mo.rz
    have hzL : rs.reverse.length = rs.length := List.length_reverse
    refine more_12 mark llo lhi clo chi ra rc rs b0 s1 s2 s3 wh wt at8 of16 ⟨mark, llo, lhi, clo, chi, xa, xc, rs ++ [(ep, eq, ey, ez)]⟩ ⟨mark, llo, lhi, clo, chi, za, zc, rs.reverse⟩ ya yc w _ HOK.out HI.out mo.kp mo.bB hl (six_box (B := ⟨mark, llo, lhi, clo, chi, ra, rc, rs⟩) mo.x) ⟨hxr, by dsimp only; rw [List.length_append, List.length_singleton]; unfold maxLen; omega⟩ (six_box (B := ⟨mark, llo, lhi, clo, chi, ra, rc, rs⟩) mo.y) hyr (six_box (B := ⟨mark, llo, lhi, clo, chi, ra, rc, rs⟩) mo.z) ⟨hzr, by dsimp only; rw [hzL]; unfold maxLen; omega⟩ h0 h1 i0 a0 a1 f0 f1 (fun _ => less_more rfl rfl rfl) (fun _ => less_perm rfl rfl (fun r h => List.mem_reverse.2 h)) rfl (turned_ok rfl rfl rfl rfl rfl rfl) (turned_truths rfl rfl rfl) (fun hne => ?_) _ _ _ _ _ _ _ _ _ _ _ _ _ _ _ _ _ _ _ _ _ _ _ _ _ _ _ _ _ _ _ _ _ _ _ _ _ _ _ _ _ _ _ _ _ _ _ _ _ _ _ _ _ _ _ _ _ _ _ _ _ _ _ _ _ _ _ _ _ _ _ _ _ _ _ _ _ _ _ _ _ _ _ _ _ _ _ _ _ _ _ _ _ _ _ _ _ _ _ _ _ _ _ _ _ _ _ _ _ _ _ _ _ _ _ _ _ _ _ _ _ _ _ _ _ _ _ _ _ _ _ _ _ _ _ _ _ _ _ _ _ _ _ _ _ _ _ _ _ _ _ _ _ _ _ _ _ _ _ _ _ _ _ _ _ _ _ _ _ _ _ _ _ _ _ _ _ _ _ _ _ _ _ _ _ _ _ _ _ _ _ _ _ _ _ _ _ _ _ _ _ _ _ _ _ _ _ _ _ _ _ _ _ _ _ _ _ _ _ _ _ _ _ _ _ _ _ _ _ _ _ _ _ _ _ _ _ _ _ _ _ _ _ _ _ _ _ _ _ _ _ _ _ _ _ _ _ _ _ _ _ _ _ _ _ _ _ _ _ _ _ _ _ _ _ _ _ _ _ _ _ _ _ _ _ _ _ _ _ _ _ _ _ _ _ _ _ _ _ _ _ _ _ _ _ _ _ _ _ _ _ _ _ _ _ _ _ _ _ _ _ _ _ _ _ _ _ _ _ _ _ _ _ _ _ _ _ _ _ _ _ _ _ _ _ _ _ _ _ _ _ _ _ _ _ _ _ _ _ _ _ _ _ _ _ _ _ _ _ _ _ _ _ _ _
    exact own_row mo.ry (List.length_pos_iff.2 hne) hbx hby hzb n0 n1 n2 n3 hHM hwH
end Go.Proofs.Ytmhpgjlegajpeaa
