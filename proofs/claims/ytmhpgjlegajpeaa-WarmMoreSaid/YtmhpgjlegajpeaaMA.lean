/-
  WarmMore from its region 5 on: the three blocks get their readings.
-/
import Derived.Test.YtmhpgjlegajpeaaM9
import Derived.Test.YtmhpgjlegajpeaaH1
import Derived.Laws.OwnMore
import Derived.Maps.OwnIn
import Derived.Deep.DeepCutAuto
namespace Go.Proofs.Ytmhpgjlegajpeaa
open Go.RowKit

theorem Six.others {W : World} {b b' o : Nat} {v0 v1 v2 v3 v4 v5 u : Value} (h : Six W b v0 v1 v2 v3 v4 v5) (hb : b' ≠ b) : Six (W.setCell ⟨b', o, none⟩ u) b v0 v1 v2 v3 v4 v5 :=
  ⟨(cell_set_other (.inl hb)).trans h.c0, (cell_set_other (.inl hb)).trans h.c1, (cell_set_other (.inl hb)).trans h.c2, (cell_set_other (.inl hb)).trans h.c3, (cell_set_other (.inl hb)).trans h.c4, (cell_set_other (.inl hb)).trans h.c5, fun o => by rw [World.frozen?_setCell]; exact h.fr o⟩
theorem ownZ (v : Value) : v.ownBlock = none ∨ v.ownBlock ≠ none := by cases hv : v.ownBlock <;> simp
/-- The three new blocks and their readings, while the readings of the third one come in. -/
structure Mo (B : Wm) (b0 s1 s2 s3 H M1 M2 : Nat) (e : Wr) (vx vy vz : Value) (zs : List Wr) (w wx : World) : Prop where
  bB : B.Box wx b0
  x : Six wx s1 (.int .i64 B.mark) (.int .i64 B.llo) (.int .i64 B.lhi) (.int .i64 B.clo) (.int .i64 B.chi) vx
  y : Six wx s2 (.int .i64 B.mark) (.int .i64 B.llo) (.int .i64 B.lhi) (.int .i64 B.clo) (.int .i64 B.chi) vy
  z : Six wx s3 (.int .i64 B.mark) (.int .i64 B.llo) (.int .i64 B.lhi) (.int .i64 B.clo) (.int .i64 B.chi) vz
  kp : Keeps w wx
  rx : wx.ownsRow H 53 4 vx (B.rs.length + 1) (wrCells (B.rs ++ [e]))
  ry : wx.ownsRow M1 53 4 vy B.rs.length (wrCells B.rs)
  rz : wx.ownsRow M2 53 4 vz zs.length (wrCells zs)
  sz : M2 ≤ wx.heap.size
theorem Mo.keep {B : Wm} {b0 s1 s2 s3 H M1 M2 : Nat} {e : Wr} {vx vy vz : Value} {zs : List Wr} {w wx wy : World} (h : Mo B b0 s1 s2 s3 H M1 M2 e vx vy vz zs w wx) (k : Keeps wx wy) : Mo B b0 s1 s2 s3 H M1 M2 e vx vy vz zs w wy :=
  ⟨h.bB.keep k, h.x.keep k, h.y.keep k, h.z.keep k, h.kp.trans k, h.rx.kept (k.grown none) (ownZ _), h.ry.kept (k.grown none) (ownZ _), h.rz.kept (k.grown none) (ownZ _), Nat.le_trans h.sz k.size⟩
theorem Mo.step {B : Wm} {b0 s1 s2 s3 H M1 M2 : Nat} {e r : Wr} {vx vy vz vz' : Value} {zs : List Wr} {w wx wy : World} (h : Mo B b0 s1 s2 s3 H M1 M2 e vx vy vz zs w wx) (hx : ∀ j, vx.ownBlock = some j → j < M1) (hy : ∀ j, vy.ownBlock = some j → j < M2) (n0 : b0 < H) (n1 : s1 < H) (n2 : s2 < H) (n3 : s3 < H) (hH : H ≤ M1) (hM : M1 ≤ M2)
    (d0 : b0 ≠ s3) (d1 : s1 ≠ s3) (d2 : s2 ≠ s3) (hw : w.heap.size ≤ s3) (hg : wx.grownBy wy vz.ownBlock) (hr : wy.ownsRow M2 53 4 vz' (zs.length + 1) (wrCells zs ++ wrCells [r])) : Mo B b0 s1 s2 s3 H M1 M2 e vx vy vz' (zs ++ [r]) w (wy.setCell ⟨s3, 5, none⟩ vz') := by
  have hl : ∀ j, vz.ownBlock = some j → M2 ≤ j := fun j hj => (h.rz.lt j hj).1
  have nb : ∀ b, b < H → some b ≠ vz.ownBlock := fun b hb e => by have := hl b e.symm; omega
  have hc : ∀ b o v, b < H → wx.cell? ⟨b, o, none⟩ = some v → wy.cell? ⟨b, o, none⟩ = some v := fun b o v hb hv => hg.cell hv (nb b hb)
  have ex : vx.ownBlock = none ∨ vx.ownBlock ≠ vz.ownBlock := by
    cases e1 : vx.ownBlock with
    | none => exact .inl rfl
    | some j => exact .inr (fun e2 => by have := hx j e1; have := hl j e2.symm; omega)
  have ey : vy.ownBlock = none ∨ vy.ownBlock ≠ vz.ownBlock := by
    cases e1 : vy.ownBlock with
    | none => exact .inl rfl
    | some j => exact .inr (fun e2 => by have := hy j e1; have := hl j e2.symm; omega)
  have bY : B.Box wy b0 := ⟨hc _ _ _ n0 h.bB.c0, hc _ _ _ n0 h.bB.c1, hc _ _ _ n0 h.bB.c2, hc _ _ _ n0 h.bB.c3, hc _ _ _ n0 h.bB.c4, hc _ _ _ n0 h.bB.c5⟩
  have kg : Keeps w wy := Below.grown h.kp hg h.kp.size (fun j e => by have := hl j e; omega)
  refine ⟨bY.set d0 _, (h.x.kept hg (nb _ n1)).others (fun e => d1 e.symm), (h.y.kept hg (nb _ n2)).others (fun e => d2 e.symm), (h.z.kept hg (nb _ n3)).set5 _, kg.setCell (p := ⟨s3, 5, none⟩) _ hw, ownsRow_setCell_below (h.rx.kept hg ex) n3 _, ownsRow_setCell_below (h.ry.kept hg ey) (by dsimp only; omega) _, ?_, ?_⟩
  · have := ownsRow_setCell_below hr (a := ⟨s3, 5, none⟩) (by dsimp only; omega) vz'
    rw [List.length_append, List.length_singleton, wrCells_append]
    exact this
  · have h1 := h.sz
    have h2 := hg.size
    simp [World.setCell] at *
    omega
theorem rev_take {rs : List Wr} {k i : Nat} (hk : k < rs.length) (hi : rs.length - 1 - k = i) : rs.reverse.take (k + 1) = rs.reverse.take k ++ [rs[i]'(by omega)] := by
  subst hi
  rw [List.take_add_one, List.getElem?_reverse hk, List.getElem?_eq_getElem (by omega)]
  rfl
/-- What region 5 leaves. -/
def R5 (B : Wm) (b0 s1 s2 s3 H : Nat) (e : Wr) (w wx : World) : Prop :=
  ∃ vx, B.Box wx b0 ∧ Six wx s1 (.int .i64 B.mark) (.int .i64 B.llo) (.int .i64 B.lhi) (.int .i64 B.clo) (.int .i64 B.chi) vx ∧ Six wx s2 (.int .i64 B.mark) (.int .i64 B.llo) (.int .i64 B.lhi) (.int .i64 B.clo) (.int .i64 B.chi) (.slice B.ra B.rs.length B.rc) ∧ Six wx s3 (.int .i64 B.mark) (.int .i64 B.llo) (.int .i64 B.lhi) (.int .i64 B.clo) (.int .i64 B.chi) (.slice B.ra B.rs.length B.rc) ∧ Keeps w wx ∧ wx.ownsRow H 53 4 vx (B.rs.length + 1) (wrCells (B.rs ++ [e])) ∧ H ≤ wx.heap.size
theorem R5.of {B : Wm} {b0 s1 s2 s3 H : Nat} {e : Wr} {vx : Value} {w wr wx : World} (hB : B.Box wr b0) (x : Six wr s1 (.int .i64 B.mark) (.int .i64 B.llo) (.int .i64 B.lhi) (.int .i64 B.clo) (.int .i64 B.chi) (.slice B.ra B.rs.length B.rc)) (y : Six wr s2 (.int .i64 B.mark) (.int .i64 B.llo) (.int .i64 B.lhi) (.int .i64 B.clo) (.int .i64 B.chi) (.slice B.ra B.rs.length B.rc)) (z : Six wr s3 (.int .i64 B.mark) (.int .i64 B.llo) (.int .i64 B.lhi) (.int .i64 B.clo) (.int .i64 B.chi) (.slice B.ra B.rs.length B.rc)) (kk : Keeps w wr) (hw : w.heap.size ≤ s1)
    (d0 : b0 ≠ s1) (d2 : s1 ≠ s2) (d3 : s1 ≠ s3) (hH : wr.heap.size = H) (k : Keeps wr wx) (row : wx.ownsRow H 53 4 vx (B.rs.length + 1) (wrCells (B.rs ++ [e]))) : R5 B b0 s1 s2 s3 H e w (wx.setCell ⟨s1, 5, none⟩ vx) := by
  have h1 : s1 < H := by rw [← hH]; exact x.lt
  refine ⟨vx, (hB.keep k).set d0 _, (x.keep k).set5 _, (y.keep k).others d2, (z.keep k).others d3, (kk.trans k).setCell (p := ⟨s1, 5, none⟩) _ hw, ownsRow_setCell_below row h1 _, ?_⟩
  have := k.size
  simp [World.setCell]
  omega
set_option maxRecDepth 100000 in
set_option maxHeartbeats 40000000 in
theorem more_5x (mark llo lhi clo chi : Int) (ra : Option Addr) (rc : Nat) (rs : List Wr) (b0 b7 s1 s2 s3 H : Nat) (ep eq ey ez wh wt at8 of16 : Int) (w wr : World)
    (hI : Wm.In ⟨mark, llo, lhi, clo, chi, ra, rc, rs⟩ w) (kk : Keeps w wr) (hB : Wm.Box ⟨mark, llo, lhi, clo, chi, ra, rc, rs⟩ wr b0) (hl : rs.length ≤ 5)
    (c0 : wr.cell? ⟨b7, 0, none⟩ = some (.int .i64 ep)) (c1 : wr.cell? ⟨b7, 1, none⟩ = some (.int .i64 eq)) (c2 : wr.cell? ⟨b7, 2, none⟩ = some (.int .i64 ey)) (c3 : wr.cell? ⟨b7, 3, none⟩ = some (.int .i64 ez))
    (hx : Six wr s1 (.int .i64 mark) (.int .i64 llo) (.int .i64 lhi) (.int .i64 clo) (.int .i64 chi) (.slice ra rs.length rc)) (hy : Six wr s2 (.int .i64 mark) (.int .i64 llo) (.int .i64 lhi) (.int .i64 clo) (.int .i64 chi) (.slice ra rs.length rc)) (hz : Six wr s3 (.int .i64 mark) (.int .i64 llo) (.int .i64 lhi) (.int .i64 clo) (.int .i64 chi) (.slice ra rs.length rc)) (hw : w.heap.size ≤ s1)
    (d0 : b0 ≠ s1) (d2 : s1 ≠ s2) (d3 : s1 ≠ s3) (hH : wr.heap.size = H) (Q : Exit → Act → World → Prop)
    (x0 x1 x8 x9 x10 x11 x12 x17 x18 x19 x20 x21 x22 x23 x24 x25 x26 x27 x28 x29 x30 x31 x32 x33 x34 x35 x36 x37 x38 x39 x40 x41 x42 x43 x44 x45 x46 x47 x48 x49 x50 x51 x52 x53 x54 x55 x56 x57 x58 x59 x60 x61 x62 x63 x64 x65 x66 x67 x68 x69 x70 x71 x72 x73 x74 x75 x76 x77 x78 x79 x80 x81 x82 x83 x84 x85 x86 x87 x88 x89 x90 x91 x92 x93 x94 x95 x96 x97 x98 x99 x100 x101 x102 x103 x104 x105 x106 x107 x108 x109 x110 x111 x112 x113 x114 x115 x116 x117 x118 x119 x120 x121 x122 x123 x124 x125 x126 x127 x128 x129 x130 x131 x132 x133 x134 x135 x136 x137 x138 x139 x140 x141 x142 x143 x144 x145 x146 x147 x148 x149 x150 x151 x152 x153 x154 x155 x156 x157 x158 x159 x160 x161 x162 x163 x164 x165 x166 x167 x168 x169 x170 x171 x172 x173 x174 x175 x176 x177 x178 x179 x180 x181 x182 x183 x184 x185 x186 x187 x188 x189 x190 x191 x192 x193 x194 x195 x196 x197 x198 x199 x200 x201 x202 x203 x204 x205 x206 x207 x208 x209 x210 x211 x212 x213 x214 x215 x216 x217 x218 x219 x220 x221 x222 x223 x224 x225 x226 x227 x228 x229 x230 x231 x232 x233 x234 x235 x236 x237 x238 x239 x240 x241 x242 x243 x244 x245 x246 x247 x248 x249 x250 x251 x252 x253 x254 x255 x256 x257 x258 x259 x260 x261 x262 x263 x264 x265 x266 x267 x268 x269 x270 x271 x272 x273 x274 x275 x276 x277 x278 x279 x280 x281 x282 x283 x284 x285 x286 x287 x288 x289 x290 x291 x292 x293 x294 x295 x296 x297 x298 x299 x300 x301 x302 x303 x304 x305 x306 x307 x308 x309 x310 x311 x312 x313 x314 x315 x316 x317 x318 x319 x320 x321 x322 x323 x324 x325 x326 x327 x328 x329 x330 x331 x332 x333 x334 x335 x336 x337 x338 x339 x340 x341 x342 x343 x344 x345 x346 x347 x348 x349 x350 x351 x352 x353 x354 x355 x356 x357 x358 x359 x360 x361 x362 x363 x364 x365 x366 x367 x368 x369 x370 x371 x372 x373 x374 x375 x376 x377 x378 x379 x380 x381 x382 x383 : Value)
    (hQ : Hid (∀ (w' : World) (y56 y57 y58 y59 y60 y61 y62 y63 : Value), R5 ⟨mark, llo, lhi, clo, chi, ra, rc, rs⟩ b0 s1 s2 s3 H (ep, eq, ey, ez) w w' → Q .normal { tmps := #[x0, x1, .int .u8 wh, .int .u8 wt, .int .u8 at8, .int .u16 of16, .pointer (some ⟨b0, 0, none⟩), .pointer (some ⟨b7, 0, none⟩), x8, x9, x10, x11, x12, .int .i64 (rs.length : Int), .pointer (some ⟨s1, 0, none⟩), .pointer (some ⟨s2, 0, none⟩), .pointer (some ⟨s3, 0, none⟩), x17, x18, x19, x20, x21, x22, x23, x24, x25, x26, x27, x28, x29, x30, x31, x32, x33, x34, x35, x36, x37, x38, x39, x40, x41, x42, x43, x44, x45, x46, x47, x48, x49, x50, x51, x52, x53, x54, x55, y56, y57, y58, y59, y60, y61, y62, y63, x64, x65, x66, x67, x68, x69, x70, x71, x72, x73, x74, x75, x76, x77, x78, x79, x80, x81, x82, x83, x84, x85, x86, x87, x88, x89, x90, x91, x92, x93, x94, x95, x96, x97, x98, x99, x100, x101, x102, x103, x104, x105, x106, x107, x108, x109, x110, x111, x112, x113, x114, x115, x116, x117, x118, x119, x120, x121, x122, x123, x124, x125, x126, x127, x128, x129, x130, x131, x132, x133, x134, x135, x136, x137, x138, x139, x140, x141, x142, x143, x144, x145, x146, x147, x148, x149, x150, x151, x152, x153, x154, x155, x156, x157, x158, x159, x160, x161, x162, x163, x164, x165, x166, x167, x168, x169, x170, x171, x172, x173, x174, x175, x176, x177, x178, x179, x180, x181, x182, x183, x184, x185, x186, x187, x188, x189, x190, x191, x192, x193, x194, x195, x196, x197, x198, x199, x200, x201, x202, x203, x204, x205, x206, x207, x208, x209, x210, x211, x212, x213, x214, x215, x216, x217, x218, x219, x220, x221, x222, x223, x224, x225, x226, x227, x228, x229, x230, x231, x232, x233, x234, x235, x236, x237, x238, x239, x240, x241, x242, x243, x244, x245, x246, x247, x248, x249, x250, x251, x252, x253, x254, x255, x256, x257, x258, x259, x260, x261, x262, x263, x264, x265, x266, x267, x268, x269, x270, x271, x272, x273, x274, x275, x276, x277, x278, x279, x280, x281, x282, x283, x284, x285, x286, x287, x288, x289, x290, x291, x292, x293, x294, x295, x296, x297, x298, x299, x300, x301, x302, x303, x304, x305, x306, x307, x308, x309, x310, x311, x312, x313, x314, x315, x316, x317, x318, x319, x320, x321, x322, x323, x324, x325, x326, x327, x328, x329, x330, x331, x332, x333, x334, x335, x336, x337, x338, x339, x340, x341, x342, x343, x344, x345, x346, x347, x348, x349, x350, x351, x352, x353, x354, x355, x356, x357, x358, x359, x360, x361, x362, x363, x364, x365, x366, x367, x368, x369, x370, x371, x372, x373, x374, x375, x376, x377, x378, x379, x380, x381, x382, x383], defers := [] } w')) :
    Code.wp Try.prog (more_at 5) Q { tmps := #[x0, x1, .int .u8 wh, .int .u8 wt, .int .u8 at8, .int .u16 of16, .pointer (some ⟨b0, 0, none⟩), .pointer (some ⟨b7, 0, none⟩), x8, x9, x10, x11, x12, .int .i64 (rs.length : Int), .pointer (some ⟨s1, 0, none⟩), .pointer (some ⟨s2, 0, none⟩), .pointer (some ⟨s3, 0, none⟩), x17, x18, x19, x20, x21, x22, x23, x24, x25, x26, x27, x28, x29, x30, x31, x32, x33, x34, x35, x36, x37, x38, x39, x40, x41, x42, x43, x44, x45, x46, x47, x48, x49, x50, x51, x52, x53, x54, x55, x56, x57, x58, x59, x60, x61, x62, x63, x64, x65, x66, x67, x68, x69, x70, x71, x72, x73, x74, x75, x76, x77, x78, x79, x80, x81, x82, x83, x84, x85, x86, x87, x88, x89, x90, x91, x92, x93, x94, x95, x96, x97, x98, x99, x100, x101, x102, x103, x104, x105, x106, x107, x108, x109, x110, x111, x112, x113, x114, x115, x116, x117, x118, x119, x120, x121, x122, x123, x124, x125, x126, x127, x128, x129, x130, x131, x132, x133, x134, x135, x136, x137, x138, x139, x140, x141, x142, x143, x144, x145, x146, x147, x148, x149, x150, x151, x152, x153, x154, x155, x156, x157, x158, x159, x160, x161, x162, x163, x164, x165, x166, x167, x168, x169, x170, x171, x172, x173, x174, x175, x176, x177, x178, x179, x180, x181, x182, x183, x184, x185, x186, x187, x188, x189, x190, x191, x192, x193, x194, x195, x196, x197, x198, x199, x200, x201, x202, x203, x204, x205, x206, x207, x208, x209, x210, x211, x212, x213, x214, x215, x216, x217, x218, x219, x220, x221, x222, x223, x224, x225, x226, x227, x228, x229, x230, x231, x232, x233, x234, x235, x236, x237, x238, x239, x240, x241, x242, x243, x244, x245, x246, x247, x248, x249, x250, x251, x252, x253, x254, x255, x256, x257, x258, x259, x260, x261, x262, x263, x264, x265, x266, x267, x268, x269, x270, x271, x272, x273, x274, x275, x276, x277, x278, x279, x280, x281, x282, x283, x284, x285, x286, x287, x288, x289, x290, x291, x292, x293, x294, x295, x296, x297, x298, x299, x300, x301, x302, x303, x304, x305, x306, x307, x308, x309, x310, x311, x312, x313, x314, x315, x316, x317, x318, x319, x320, x321, x322, x323, x324, x325, x326, x327, x328, x329, x330, x331, x332, x333, x334, x335, x336, x337, x338, x339, x340, x341, x342, x343, x344, x345, x346, x347, x348, x349, x350, x351, x352, x353, x354, x355, x356, x357, x358, x359, x360, x361, x362, x363, x364, x365, x366, x367, x368, x369, x370, x371, x372, x373, x374, x375, x376, x377, x378, x379, x380, x381, x382, x383], defers := [] } wr := by
  conv => arg 2; whnf
  try dsimp only
  have hmx : Try.prog.follows .mixedOrders = true := by kernel_rfl
  obtain ⟨i0, hi0, hz0, hz1, hz2⟩ := info_parts info_read
  have RF := Lib.hid (fun vx wx k row => R5.of (B := ⟨mark, llo, lhi, clo, chi, ra, rc, rs⟩) (e := (ep, eq, ey, ez)) (vx := vx) (wx := wx) hB hx hy hz kk hw d0 d2 d3 hH k row)
  have g5 := hB.c5
  dsimp only at g5
  have HI := Lib.hid (fun W (k : Keeps wr W) => (hI.rds).keep (kk.trans k))
  have x5 := hx.c5
  have f5 := hx.fr 5
  have hls := hx.lt
  have hlb := lt_of_cell g5
  have hl7 := lt_of_cell c0
  have kd := (Keeps.refl wr).drew
  have hAQ := Lib.hid (fun (W : World) (v : Value) (h : W.ownsRow H 53 4 v 0 []) (hk : Keeps wr W) => append_reads W H 24 v 0 [] h ra rc rs (HI.out W hk) (by omega) (by have := hk.size; omega))
  haveI : Nonempty (Inw (fun w' => Keeps wr w')) := ⟨⟨wr, Keeps.refl _⟩⟩
  have e0 : ∀ q : Inw (fun w' => Keeps wr w'), q.W.cell? ⟨b0, 5, none⟩ = some (.slice ra rs.length rc) := fun q => q.h.cell g5
  have e1 : ∀ q : Inw (fun w' => Keeps wr w'), q.W.cell? ⟨b7, 0, none⟩ = some (.int .i64 ep) := fun q => q.h.cell c0
  have e2 : ∀ q : Inw (fun w' => Keeps wr w'), q.W.cell? ⟨b7, 1, none⟩ = some (.int .i64 eq) := fun q => q.h.cell c1
  have e3 : ∀ q : Inw (fun w' => Keeps wr w'), q.W.cell? ⟨b7, 2, none⟩ = some (.int .i64 ey) := fun q => q.h.cell c2
  have e4 : ∀ q : Inw (fun w' => Keeps wr w'), q.W.cell? ⟨b7, 3, none⟩ = some (.int .i64 ez) := fun q => q.h.cell c3
  clear hI hB hx hy hz kk d0 d2 d3 hw
  refine (wpIn_wide (n := 3)).1 (calm ?_)
  refine cix_start hmx (fun w' => Keeps wr w') ?_
  refine cix_quiet (m := 6) (calm_ok (fun _ => trivial) (by kernel_rfl)) [1, 2, 4] rfl (by kernel_rfl) kd ?_
  show wpQuietIn _ _ _ _ _ _ [_, _, _] _
  iterate 3 (gi_big_quiet_step (fail))
  refine wpQuietIn_nil ?_
  clear e0 e1 e2 e3 e4
  have LAST := Lib.hid (fun (u : World) (v : Value) (k : Keeps wr u) (row : u.ownsRow H 53 4 v (rs.length + 1) (wrCells (rs ++ [(ep, eq, ey, ez)]))) => RF.out v u k row)
  refine cix_two (m := 5) 0 _ 5 _ rfl rfl rfl (by kernel_rfl) ?_ ?_
  · show wpListIn _ _ _ _ _ [_] _ _
    obtain ⟨ua, hua⟩ : ∃ W, wr.drew.alloc (.cells #[] 53) = W := ⟨_, rfl⟩
    have ka : Keeps wr ua := by rw [← hua]; exact kd.alloc _
    have lua : Keeps wr.drew ua := by rw [← hua]; exact (Keeps.refl _).alloc _
    obtain ⟨Sua, hSua⟩ : ∃ s, wr.drew.heap.size = s := ⟨_, rfl⟩
    have hHua : H ≤ Sua := by rw [← hSua, ← hH]; exact kd.size
    have row0 : ua.ownsRow H 53 4 (.slice (some ⟨Sua, 0, none⟩) 0 0) 0 [] := by rw [← hua, ← hSua]; exact World.ownsRow_lit (base := H) (e := 53) (size := 4) wr.drew #[] 0 (by rw [hSua]; exact hHua) (by simp [maxLen]) rfl
    have ltua : Sua < ua.heap.size := by rw [← hua, ← hSua]; simp
    gi_wp2_with fail
    clear hua hSua
    refine cix_two (m := 4) 3 _ 5 _ rfl rfl rfl (by kernel_rfl) ?_ ?_
    · show wpListIn _ _ _ _ _ [_] _ _
      refine wpListIn_append_run rfl (.tmp 56) (.tmp 58) 24 rfl _ _ rfl rfl _ (hAQ.out ua _ row0 ka) ?_
      rintro v1 ub hgr
      have row1 : ub.ownsRow H 53 4 v1 rs.length (wrCells rs) := by simpa using hgr.1
      have hg1 : ua.grownBy ub (some Sua) := hgr.2
      have kb : Keeps wr ub := Below.grown ka hg1 ka.size (fun j e => by injection e with e; omega)
      gi_wp2_with fail
      refine cix_one (m := 3) 5 _ rfl rfl (by kernel_rfl) ?_
      show wpListIn _ _ _ _ _ [_] _ _
      obtain ⟨uc, huc⟩ : ∃ W, ub.alloc (.cells #[.int .i64 ep, .int .i64 eq, .int .i64 ey, .int .i64 ez] 53) = W := ⟨_, rfl⟩
      have kc2 : Keeps wr uc := by rw [← huc]; exact kb.alloc _
      have luc : Keeps ub uc := by rw [← huc]; exact (Keeps.refl _).alloc _
      obtain ⟨Suc, hSuc⟩ : ∃ s, ub.heap.size = s := ⟨_, rfl⟩
      have hHuc : H ≤ Suc := by rw [← hSuc, ← hH]; exact kb.size
      have q0 : uc.cell? ⟨Suc, 0, none⟩ = some (.int .i64 ep) := by rw [← huc, ← hSuc]; simp [go_sem]
      have q1 : uc.cell? ⟨Suc, 1, none⟩ = some (.int .i64 eq) := by rw [← huc, ← hSuc]; simp [go_sem]
      have q2 : uc.cell? ⟨Suc, 2, none⟩ = some (.int .i64 ey) := by rw [← huc, ← hSuc]; simp [go_sem]
      have q3 : uc.cell? ⟨Suc, 3, none⟩ = some (.int .i64 ez) := by rw [← huc, ← hSuc]; simp [go_sem]
      have hcl : Suc < uc.heap.size := by rw [← huc, ← hSuc]; simp
      have ltuc : Suc < uc.heap.size := by rw [← huc, ← hSuc]; simp
      gi_wp2_with fail
      clear huc hSuc
      replace row1 := row1.kept (luc.grown none) (ownZ _)
      refine cix_one (m := 2) 6 _ rfl rfl (by kernel_rfl) ?_
      show wpListIn _ _ _ _ _ [_] _ _
      refine wpListIn_append_own _ rfl _ _ 24 rfl H 53 i0 (.agg #[.int .i64 0, .int .i64 0, .int .i64 0, .int .i64 0]) 4 32 Try.underlying24 hi0 hz0 hz1 hz2 rfl (by decide) v1 rs.length _ rfl row1 ⟨Suc, 0, none⟩ 1 1 [.int .i64 ep, .int .i64 eq, .int .i64 ey, .int .i64 ez] rfl rfl (four_cells q0 q1 q2 q3) (by simp [Value.oneCell']) (by unfold maxLen; omega) (by omega) (by have := kc2.size; omega) ?_
      intro v2 ud row2 hg2 _
      obtain ⟨g2, cap2, rfl⟩ := ownsRow_succ row2
      have kd2 : Keeps wr ud := Below.grown kc2 hg2 kc2.size (fun j e => by have := (row1.lt j e).1; omega)
      have hrow : ud.ownsRow H 53 4 (.slice (some ⟨g2, 0, none⟩) (rs.length + 1) cap2) (rs.length + 1) (wrCells (rs ++ [(ep, eq, ey, ez)])) := by rw [wrCells_append]; exact row2
      have HR := Lib.hid (LAST.out _ _ kd2 hrow)
      have y5 := kd2.cell x5
      have fy := (kd2.cells.2 _ _ hls).trans f5
      have ly := lt_of_cell y5
      gi_wp2_with fail
      refine cix_quiet (m := 1) (calm_ok (fun _ => trivial) (by kernel_rfl)) [7] rfl (by kernel_rfl) kd2 ?_
      show wpQuietIn _ _ _ _ _ _ [_] _
      iterate 1 (gi_big_quiet_step (fail))
      refine wpQuietIn_nil ?_
      refine cix_last (m := 0) 8 _ rfl rfl (by kernel_rfl) (by kernel_rfl) (by kernel_rfl) ?_
      show wpListIn _ _ _ _ _ [_] _ _
      gi_wp2_with fail
      first
        | exact hQ.out _ _ _ _ _ _ _ _ _ HR.out
        | exact .inl ⟨rfl, rfl, hQ.out _ _ _ _ _ _ _ _ _ HR.out⟩
        | exact ⟨rfl, hQ.out _ _ _ _ _ _ _ _ _ HR.out⟩
        | trace_state
    · show wpListIn _ _ _ _ _ [_] _ _
      obtain ⟨ub, hub⟩ : ∃ W, ua.alloc (.cells #[.int .i64 ep, .int .i64 eq, .int .i64 ey, .int .i64 ez] 53) = W := ⟨_, rfl⟩
      have kb : Keeps wr ub := by rw [← hub]; exact ka.alloc _
      have lub : Keeps ua ub := by rw [← hub]; exact (Keeps.refl _).alloc _
      obtain ⟨Sub, hSub⟩ : ∃ s, ua.heap.size = s := ⟨_, rfl⟩
      have hHub : H ≤ Sub := by rw [← hSub, ← hH]; exact ka.size
      have q0 : ub.cell? ⟨Sub, 0, none⟩ = some (.int .i64 ep) := by rw [← hub, ← hSub]; simp [go_sem]
      have q1 : ub.cell? ⟨Sub, 1, none⟩ = some (.int .i64 eq) := by rw [← hub, ← hSub]; simp [go_sem]
      have q2 : ub.cell? ⟨Sub, 2, none⟩ = some (.int .i64 ey) := by rw [← hub, ← hSub]; simp [go_sem]
      have q3 : ub.cell? ⟨Sub, 3, none⟩ = some (.int .i64 ez) := by rw [← hub, ← hSub]; simp [go_sem]
      have hcl : Sub < ub.heap.size := by rw [← hub, ← hSub]; simp
      have ltub : Sub < ub.heap.size := by rw [← hub, ← hSub]; simp
      have orub : Sua < Sub := by rw [← hSub]; exact ltua
      gi_wp2_with fail
      clear hub hSub
      replace row0 := row0.kept (lub.grown none) (ownZ _)
      refine cix_one (m := 3) 3 _ rfl rfl (by kernel_rfl) ?_
      show wpListIn _ _ _ _ _ [_] _ _
      refine wpListIn_append_run rfl (.tmp 56) (.tmp 58) 24 rfl _ _ rfl rfl _ (hAQ.out ub _ row0 kb) ?_
      rintro v1 uc hgr
      have row1 : uc.ownsRow H 53 4 v1 rs.length (wrCells rs) := by simpa using hgr.1
      have hg1 : ub.grownBy uc (some Sua) := hgr.2
      have kc2 : Keeps wr uc := Below.grown kb hg1 kb.size (fun j e => by injection e with e; omega)
      have NEQ : Sub ≠ Sua := by omega
      replace q0 := hg1.cell q0 (fun e => NEQ (Option.some.inj e))
      replace q1 := hg1.cell q1 (fun e => NEQ (Option.some.inj e))
      replace q2 := hg1.cell q2 (fun e => NEQ (Option.some.inj e))
      replace q3 := hg1.cell q3 (fun e => NEQ (Option.some.inj e))
      gi_wp2_with fail
      refine cix_one (m := 2) 6 _ rfl rfl (by kernel_rfl) ?_
      show wpListIn _ _ _ _ _ [_] _ _
      refine wpListIn_append_own _ rfl _ _ 24 rfl H 53 i0 (.agg #[.int .i64 0, .int .i64 0, .int .i64 0, .int .i64 0]) 4 32 Try.underlying24 hi0 hz0 hz1 hz2 rfl (by decide) v1 rs.length _ rfl row1 ⟨Sub, 0, none⟩ 1 1 [.int .i64 ep, .int .i64 eq, .int .i64 ey, .int .i64 ez] rfl rfl (four_cells q0 q1 q2 q3) (by simp [Value.oneCell']) (by unfold maxLen; omega) (by omega) (by have := kc2.size; omega) ?_
      intro v2 ud row2 hg2 _
      obtain ⟨g2, cap2, rfl⟩ := ownsRow_succ row2
      have kd2 : Keeps wr ud := Below.grown kc2 hg2 kc2.size (fun j e => by have := (row1.lt j e).1; omega)
      have hrow : ud.ownsRow H 53 4 (.slice (some ⟨g2, 0, none⟩) (rs.length + 1) cap2) (rs.length + 1) (wrCells (rs ++ [(ep, eq, ey, ez)])) := by rw [wrCells_append]; exact row2
      have HR := Lib.hid (LAST.out _ _ kd2 hrow)
      have y5 := kd2.cell x5
      have fy := (kd2.cells.2 _ _ hls).trans f5
      have ly := lt_of_cell y5
      gi_wp2_with fail
      refine cix_quiet (m := 1) (calm_ok (fun _ => trivial) (by kernel_rfl)) [7] rfl (by kernel_rfl) kd2 ?_
      show wpQuietIn _ _ _ _ _ _ [_] _
      iterate 1 (gi_big_quiet_step (fail))
      refine wpQuietIn_nil ?_
      refine cix_last (m := 0) 8 _ rfl rfl (by kernel_rfl) (by kernel_rfl) (by kernel_rfl) ?_
      show wpListIn _ _ _ _ _ [_] _ _
      gi_wp2_with fail
      first
        | exact hQ.out _ _ _ _ _ _ _ _ _ HR.out
        | exact .inl ⟨rfl, rfl, hQ.out _ _ _ _ _ _ _ _ _ HR.out⟩
        | exact ⟨rfl, hQ.out _ _ _ _ _ _ _ _ _ HR.out⟩
        | trace_state
  · show wpListIn _ _ _ _ _ [_] _ _
    obtain ⟨ua, hua⟩ : ∃ W, wr.drew.alloc (.cells #[.int .i64 ep, .int .i64 eq, .int .i64 ey, .int .i64 ez] 53) = W := ⟨_, rfl⟩
    have ka : Keeps wr ua := by rw [← hua]; exact kd.alloc _
    have lua : Keeps wr.drew ua := by rw [← hua]; exact (Keeps.refl _).alloc _
    obtain ⟨Sua, hSua⟩ : ∃ s, wr.drew.heap.size = s := ⟨_, rfl⟩
    have hHua : H ≤ Sua := by rw [← hSua, ← hH]; exact kd.size
    have q0 : ua.cell? ⟨Sua, 0, none⟩ = some (.int .i64 ep) := by rw [← hua, ← hSua]; simp [go_sem]
    have q1 : ua.cell? ⟨Sua, 1, none⟩ = some (.int .i64 eq) := by rw [← hua, ← hSua]; simp [go_sem]
    have q2 : ua.cell? ⟨Sua, 2, none⟩ = some (.int .i64 ey) := by rw [← hua, ← hSua]; simp [go_sem]
    have q3 : ua.cell? ⟨Sua, 3, none⟩ = some (.int .i64 ez) := by rw [← hua, ← hSua]; simp [go_sem]
    have hcl : Sua < ua.heap.size := by rw [← hua, ← hSua]; simp
    have ltua : Sua < ua.heap.size := by rw [← hua, ← hSua]; simp
    gi_wp2_with fail
    clear hua hSua
    refine cix_one (m := 4) 0 _ rfl rfl (by kernel_rfl) ?_
    show wpListIn _ _ _ _ _ [_] _ _
    obtain ⟨ub, hub⟩ : ∃ W, ua.alloc (.cells #[] 53) = W := ⟨_, rfl⟩
    have kb : Keeps wr ub := by rw [← hub]; exact ka.alloc _
    have lub : Keeps ua ub := by rw [← hub]; exact (Keeps.refl _).alloc _
    obtain ⟨Sub, hSub⟩ : ∃ s, ua.heap.size = s := ⟨_, rfl⟩
    have hHub : H ≤ Sub := by rw [← hSub, ← hH]; exact ka.size
    have row0 : ub.ownsRow H 53 4 (.slice (some ⟨Sub, 0, none⟩) 0 0) 0 [] := by rw [← hub, ← hSub]; exact World.ownsRow_lit (base := H) (e := 53) (size := 4) ua #[] 0 (by rw [hSub]; exact hHub) (by simp [maxLen]) rfl
    have ltub : Sub < ub.heap.size := by rw [← hub, ← hSub]; simp
    have orub : Sua < Sub := by rw [← hSub]; exact ltua
    gi_wp2_with fail
    clear hub hSub
    replace q0 := lub.cell q0
    replace q1 := lub.cell q1
    replace q2 := lub.cell q2
    replace q3 := lub.cell q3
    refine cix_one (m := 3) 3 _ rfl rfl (by kernel_rfl) ?_
    show wpListIn _ _ _ _ _ [_] _ _
    refine wpListIn_append_run rfl (.tmp 56) (.tmp 58) 24 rfl _ _ rfl rfl _ (hAQ.out ub _ row0 kb) ?_
    rintro v1 uc hgr
    have row1 : uc.ownsRow H 53 4 v1 rs.length (wrCells rs) := by simpa using hgr.1
    have hg1 : ub.grownBy uc (some Sub) := hgr.2
    have kc2 : Keeps wr uc := Below.grown kb hg1 kb.size (fun j e => by injection e with e; omega)
    have NEQ : Sua ≠ Sub := by omega
    replace q0 := hg1.cell q0 (fun e => NEQ (Option.some.inj e))
    replace q1 := hg1.cell q1 (fun e => NEQ (Option.some.inj e))
    replace q2 := hg1.cell q2 (fun e => NEQ (Option.some.inj e))
    replace q3 := hg1.cell q3 (fun e => NEQ (Option.some.inj e))
    gi_wp2_with fail
    refine cix_one (m := 2) 6 _ rfl rfl (by kernel_rfl) ?_
    show wpListIn _ _ _ _ _ [_] _ _
    refine wpListIn_append_own _ rfl _ _ 24 rfl H 53 i0 (.agg #[.int .i64 0, .int .i64 0, .int .i64 0, .int .i64 0]) 4 32 Try.underlying24 hi0 hz0 hz1 hz2 rfl (by decide) v1 rs.length _ rfl row1 ⟨Sua, 0, none⟩ 1 1 [.int .i64 ep, .int .i64 eq, .int .i64 ey, .int .i64 ez] rfl rfl (four_cells q0 q1 q2 q3) (by simp [Value.oneCell']) (by unfold maxLen; omega) (by omega) (by have := kc2.size; omega) ?_
    intro v2 ud row2 hg2 _
    obtain ⟨g2, cap2, rfl⟩ := ownsRow_succ row2
    have kd2 : Keeps wr ud := Below.grown kc2 hg2 kc2.size (fun j e => by have := (row1.lt j e).1; omega)
    have hrow : ud.ownsRow H 53 4 (.slice (some ⟨g2, 0, none⟩) (rs.length + 1) cap2) (rs.length + 1) (wrCells (rs ++ [(ep, eq, ey, ez)])) := by rw [wrCells_append]; exact row2
    have HR := Lib.hid (LAST.out _ _ kd2 hrow)
    have y5 := kd2.cell x5
    have fy := (kd2.cells.2 _ _ hls).trans f5
    have ly := lt_of_cell y5
    gi_wp2_with fail
    refine cix_quiet (m := 1) (calm_ok (fun _ => trivial) (by kernel_rfl)) [7] rfl (by kernel_rfl) kd2 ?_
    show wpQuietIn _ _ _ _ _ _ [_] _
    iterate 1 (gi_big_quiet_step (fail))
    refine wpQuietIn_nil ?_
    refine cix_last (m := 0) 8 _ rfl rfl (by kernel_rfl) (by kernel_rfl) (by kernel_rfl) ?_
    show wpListIn _ _ _ _ _ [_] _ _
    gi_wp2_with fail
    first
      | exact hQ.out _ _ _ _ _ _ _ _ _ HR.out
      | exact .inl ⟨rfl, rfl, hQ.out _ _ _ _ _ _ _ _ _ HR.out⟩
      | exact ⟨rfl, hQ.out _ _ _ _ _ _ _ _ _ HR.out⟩
      | trace_state
end Go.Proofs.Ytmhpgjlegajpeaa
