/-
  WarmMore from its region 12 on: one reading is made narrower.
-/
import Derived.Test.YtmhpgjlegajpeaaM8
import Derived.Deep.DeepCutAuto
namespace Go.Proofs.Ytmhpgjlegajpeaa
open Go.RowKit

theorem vWr_bd2 {r : Wr} (h : vWr r = true) : -100 ≤ r.1 ∧ r.1 ≤ r.2.1 ∧ r.2.1 ≤ 100 ∧ r.2.1 - r.1 ≤ 4 ∧ -30000 ≤ r.2.2.1 ∧ r.2.2.1 ≤ r.2.2.2 ∧ r.2.2.2 ≤ 30000 := by
  simp only [vWr, inS, Bool.and_eq_true, decide_eq_true_eq] at h
  omega
theorem ok_rs2 {B : Wm} (h : B.ok = true) : B.rs.length ≤ 5 ∧ ∀ i, i < B.rs.length → vWr (B.rs[i]?.getD (0, 0, 0, 0)) = true := by
  simp only [Wm.ok, Bool.and_eq_true, vWrs, decide_eq_true_eq] at h
  refine ⟨h.2.1, fun i hi => ?_⟩
  rw [List.getElem?_eq_getElem hi]
  exact List.all_eq_true.1 h.2.2 _ (List.getElem_mem hi)
def compR (r : Wr) : Nat → Int
  | 0 => r.1
  | 1 => r.2.1
  | 2 => r.2.2.1
  | _ => r.2.2.2
def putR (r : Wr) (v : Int) : Nat → Wr
  | 0 => (v, r.2.1, r.2.2.1, r.2.2.2)
  | 1 => (r.1, v, r.2.2.1, r.2.2.2)
  | 2 => (r.1, r.2.1, v, r.2.2.2)
  | _ => (r.1, r.2.1, r.2.2.1, v)
theorem comp_put (r : Wr) (v : Int) : ∀ c e, c < 4 → e < 4 → compR (putR r v c) e = if e = c then v else compR r e
  | 0, 0, _, _ => rfl | 0, 1, _, _ => rfl | 0, 2, _, _ => rfl | 0, 3, _, _ => rfl
  | 1, 0, _, _ => rfl | 1, 1, _, _ => rfl | 1, 2, _, _ => rfl | 1, 3, _, _ => rfl
  | 2, 0, _, _ => rfl | 2, 1, _, _ => rfl | 2, 2, _, _ => rfl | 2, 3, _, _ => rfl
  | 3, 0, _, _ => rfl | 3, 1, _, _ => rfl | 3, 2, _, _ => rfl | 3, 3, _, _ => rfl
  | _ + 4, _, h, _ => absurd h (by omega)
  | 0, _ + 4, _, h => absurd h (by omega) | 1, _ + 4, _, h => absurd h (by omega) | 2, _ + 4, _, h => absurd h (by omega) | 3, _ + 4, _, h => absurd h (by omega)
/-- What a row's cells hold, number by number. -/
theorem wrs_comp {w : World} {g : Nat} {rs : List Wr} : (∀ i, i < rs.length → ∀ e, e < 4 → w.cell? ⟨g, i * 4 + e, none⟩ = some (.int .i64 (compR (rs[i]?.getD (0, 0, 0, 0)) e))) → Wrs w (some ⟨g, 0, none⟩) rs := by
  intro h _
  refine ⟨g, 0, rfl, fun i hi => ?_⟩
  rw [Nat.zero_add]
  exact ⟨h i hi 0 (by omega), h i hi 1 (by omega), h i hi 2 (by omega), h i hi 3 (by omega)⟩
theorem comp_wrs {w : World} {g : Nat} {rs : List Wr} (hr : Wrs w (some ⟨g, 0, none⟩) rs) : ∀ i, i < rs.length → ∀ e, e < 4 → w.cell? ⟨g, i * 4 + e, none⟩ = some (.int .i64 (compR (rs[i]?.getD (0, 0, 0, 0)) e)) := by
  intro i hi e he
  obtain ⟨b, o, e1, hc⟩ := hr (by intro e; rw [e] at hi; simp at hi)
  cases e1
  have h := hc i hi
  rw [Nat.zero_add] at h
  match e, he with
  | 0, _ => exact h.1
  | 1, _ => exact h.2.1
  | 2, _ => exact h.2.2.1
  | 3, _ => exact h.2.2.2
theorem wrs_put {w : World} {g : Nat} {rs : List Wr} (hr : Wrs w (some ⟨g, 0, none⟩) rs) {i c : Nat} (hi : i < rs.length) (hc : c < 4) (v : Int) :
    Wrs (w.setCell ⟨g, i * 4 + c, none⟩ (.int .i64 v)) (some ⟨g, 0, none⟩) (rs.set i (putR (rs[i]?.getD (0, 0, 0, 0)) v c)) := by
  have h := comp_wrs hr
  refine wrs_comp fun j hj e he => ?_
  rw [List.length_set] at hj
  by_cases hji : i = j
  · subst hji
    rw [List.getElem?_set_self hi, Option.getD_some, comp_put _ _ _ _ hc he]
    by_cases hec : e = c
    · subst hec
      rw [if_pos rfl]
      exact cell_set_same (by rw [h i hi e he]; rfl)
    · rw [if_neg hec, cell_set_other (.inr (by omega))]
      exact h i hi e he
  · rw [List.getElem?_set_ne hji, cell_set_other (.inr (by omega))]
    exact h j hj e he
theorem Wm.Box.set {B : Wm} {w : World} {b g o : Nat} (h : B.Box w b) (hb : b ≠ g) (v : Value) : B.Box (w.setCell ⟨g, o, none⟩ v) b :=
  ⟨(cell_set_other (.inl (by omega))).trans h.c0, (cell_set_other (.inl (by omega))).trans h.c1, (cell_set_other (.inl (by omega))).trans h.c2, (cell_set_other (.inl (by omega))).trans h.c3, (cell_set_other (.inl (by omega))).trans h.c4, (cell_set_other (.inl (by omega))).trans h.c5⟩
theorem Wm.In.set {B : Wm} {w : World} {g o : Nat} (h : B.In w) (hb : ∀ b o, B.ra = some ⟨b, o, none⟩ → b ≠ g) (v : Value) : B.In (w.setCell ⟨g, o, none⟩ v) :=
  ⟨h.rds.of_eq (fun b o e _ => cell_set_other (.inl (fun e' => hb b o e e'.symm))), h.rl⟩
/-- What the switch leaves: a block whose readings are no wider, and all others as they were. -/
def Sw (B X Z : Wm) (b0 s1 s2 s3 : Nat) (ya : Option Addr) (yc : Nat) (w wx : World) : Prop :=
  ∃ ys : List Wr, ys.length = B.rs.length ∧ Wrs wx ya ys ∧ Less ⟨B.mark, B.llo, B.lhi, B.clo, B.chi, ya, yc, ys⟩ B ∧ X.In wx ∧ Z.In wx ∧ X.Box wx s1 ∧ Z.Box wx s3 ∧ Wm.Box ⟨B.mark, B.llo, B.lhi, B.clo, B.chi, ya, yc, ys⟩ wx s2 ∧ B.Box wx b0 ∧ Keeps w wx
theorem Sw.stored {B X Z : Wm} {b0 s1 s2 s3 g yc : Nat} {w wr : World} (hrow : Wrs wr (some ⟨g, 0, none⟩) B.rs) (hX : X.In wr) (hZ : Z.In wr) (bX : X.Box wr s1) (bZ : Z.Box wr s3) (bY : Wm.Box ⟨B.mark, B.llo, B.lhi, B.clo, B.chi, some ⟨g, 0, none⟩, yc, B.rs⟩ wr s2) (bB : B.Box wr b0) (kk : Keeps w wr)
    (xg : ∀ b o, X.ra = some ⟨b, o, none⟩ → b ≠ g) (zg : ∀ b o, Z.ra = some ⟨b, o, none⟩ → b ≠ g) (n0 : b0 ≠ g) (n1 : s1 ≠ g) (n2 : s2 ≠ g) (n3 : s3 ≠ g) (hg : w.heap.size ≤ g) {i c : Nat} (hi : i < B.rs.length) (hc : c < 4) (v : Int)
    (h1 : (B.rs[i]).1 ≤ (putR (B.rs[i]) v c).1) (h2 : (putR (B.rs[i]) v c).2.1 ≤ (B.rs[i]).2.1) (h3 : (B.rs[i]).2.2.1 ≤ (putR (B.rs[i]) v c).2.2.1) (h4 : (putR (B.rs[i]) v c).2.2.2 ≤ (B.rs[i]).2.2.2) :
    Sw B X Z b0 s1 s2 s3 (some ⟨g, 0, none⟩) yc w (wr.setCell ⟨g, i * 4 + c, none⟩ (.int .i64 v)) := by
  refine ⟨B.rs.set i (putR (B.rs[i]) v c), List.length_set, ?_, ?_, hX.set xg _, hZ.set zg _, bX.set n1 _, bZ.set n3 _, ?_, bB.set n0 _, kk.setCell (p := ⟨g, i * 4 + c, none⟩) _ hg⟩
  · have h := wrs_put hrow hi hc v
    rw [List.getElem?_eq_getElem hi, Option.getD_some] at h
    exact h
  · exact less_narrow (A := ⟨B.mark, B.llo, B.lhi, B.clo, B.chi, some ⟨g, 0, none⟩, yc, B.rs.set i (putR (B.rs[i]) v c)⟩) (B := B) rfl rfl hi rfl h1 h2 h3 h4
  · have h := bY.set (o := i * 4 + c) n2 (.int .i64 v)
    refine ⟨h.c0, h.c1, h.c2, h.c3, h.c4, ?_⟩
    have h5 := h.c5
    dsimp only at h5 ⊢
    rw [List.length_set]
    exact h5
theorem Sw.drew {B X Z : Wm} {b0 s1 s2 s3 : Nat} {ya : Option Addr} {yc : Nat} {w wx : World} (h : Sw B X Z b0 s1 s2 s3 ya yc w wx) : Sw B X Z b0 s1 s2 s3 ya yc w wx.drew := by
  obtain ⟨ys, a1, a2, a3, a4, a5, a6, a7, a8, a9, a10⟩ := h
  have k := (Keeps.refl wx).drew
  exact ⟨ys, a1, a2.keep k, a3, a4.keep k, a5.keep k, a6.keep k, a7.keep k, a8.keep k, a9.keep k, a10.trans k⟩
theorem Sw.keeps {B X Z : Wm} {b0 s1 s2 s3 : Nat} {ya : Option Addr} {yc : Nat} {w wx wy : World} (h : Sw B X Z b0 s1 s2 s3 ya yc w wx) (k : Keeps wx wy) : Sw B X Z b0 s1 s2 s3 ya yc w wy := by
  obtain ⟨ys, a1, a2, a3, a4, a5, a6, a7, a8, a9, a10⟩ := h
  exact ⟨ys, a1, a2.keep k, a3, a4.keep k, a5.keep k, a6.keep k, a7.keep k, a8.keep k, a9.keep k, a10.trans k⟩
set_option maxRecDepth 100000 in
set_option maxHeartbeats 40000000 in
theorem more_12 (mark llo lhi clo chi : Int) (ra : Option Addr) (rc : Nat) (rs : List Wr) (b0 s1 s2 s3 : Nat) (wh wt at8 of16 : Int) (X Z : Wm) (ya : Option Addr) (yc : Nat) (w wr : World)
    (hok : Wm.ok ⟨mark, llo, lhi, clo, chi, ra, rc, rs⟩ = true) (hI : Wm.In ⟨mark, llo, lhi, clo, chi, ra, rc, rs⟩ w) (kk : Keeps w wr) (hB : Wm.Box ⟨mark, llo, lhi, clo, chi, ra, rc, rs⟩ wr b0) (hl : rs.length ≤ 5)
    (bX : X.Box wr s1) (hX : X.In wr) (bY : Wm.Box ⟨mark, llo, lhi, clo, chi, ya, yc, rs⟩ wr s2) (hY : Wrs wr ya rs) (bZ : Z.Box wr s3) (hZ : Z.In wr)
    (h0 : 0 ≤ wh) (h1 : wh ≤ 255) (i0 : 0 ≤ wt) (a0 : 0 ≤ at8) (a1 : at8 ≤ 255) (f0 : 0 ≤ of16) (f1 : of16 ≤ 65535)
    (fX : X.ok = true → Less X ⟨mark, llo, lhi, clo, chi, ra, rc, rs⟩) (fZ : Z.ok = true → Less Z ⟨mark, llo, lhi, clo, chi, ra, rc, rs⟩) (z1 : Z.mark = mark) (z2 : Z.ok = Wm.ok ⟨mark, llo, lhi, clo, chi, ra, rc, rs⟩) (z3 : Z.truths = Wm.truths ⟨mark, llo, lhi, clo, chi, ra, rc, rs⟩)
    (own : rs ≠ [] → ∃ g, ya = some ⟨g, 0, none⟩ ∧ (∀ o, wr.frozen? ⟨g, o, none⟩ = false) ∧ (∀ b o, X.ra = some ⟨b, o, none⟩ → b ≠ g) ∧ (∀ b o, Z.ra = some ⟨b, o, none⟩ → b ≠ g) ∧ b0 ≠ g ∧ s1 ≠ g ∧ s2 ≠ g ∧ s3 ≠ g ∧ w.heap.size ≤ g)
    (x0 x1 x7 x8 x9 x10 x11 x12 x17 x18 x19 x20 x21 x22 x23 x24 x25 x26 x27 x28 x29 x30 x31 x32 x33 x34 x35 x36 x37 x38 x39 x40 x41 x42 x43 x44 x45 x46 x47 x48 x49 x50 x51 x52 x53 x54 x55 x56 x57 x58 x59 x60 x61 x62 x63 x64 x65 x66 x67 x68 x69 x70 x71 x72 x73 x74 x75 x76 x77 x78 x79 x80 x81 x82 x83 x84 x85 x86 x87 x88 x89 x90 x91 x92 x93 x94 x95 x96 x97 x98 x99 x100 x101 x102 x103 x104 x105 x106 x107 x108 x109 x110 x111 x112 x113 x114 x115 x116 x117 x118 x119 x120 x121 x122 x123 x124 x125 x126 x127 x128 x129 x130 x131 x132 x133 x134 x135 x136 x137 x138 x139 x140 x141 x142 x143 x144 x145 x146 x147 x148 x149 x150 x151 x152 x153 x154 x155 x156 x157 x158 x159 x160 x161 x162 x163 x164 x165 x166 x167 x168 x169 x170 x171 x172 x173 x174 x175 x176 x177 x178 x179 x180 x181 x182 x183 x184 x185 x186 x187 x188 x189 x190 x191 x192 x193 x194 x195 x196 x197 x198 x199 x200 x201 x202 x203 x204 x205 x206 x207 x208 x209 x210 x211 x212 x213 x214 x215 x216 x217 x218 x219 x220 x221 x222 x223 x224 x225 x226 x227 x228 x229 x230 x231 x232 x233 x234 x235 x236 x237 x238 x239 x240 x241 x242 x243 x244 x245 x246 x247 x248 x249 x250 x251 x252 x253 x254 x255 x256 x257 x258 x259 x260 x261 x262 x263 x264 x265 x266 x267 x268 x269 x270 x271 x272 x273 x274 x275 x276 x277 x278 x279 x280 x281 x282 x283 x284 x285 x286 x287 x288 x289 x290 x291 x292 x293 x294 x295 x296 x297 x298 x299 x300 x301 x302 x303 x304 x305 x306 x307 x308 x309 x310 x311 x312 x313 x314 x315 x316 x317 x318 x319 x320 x321 x322 x323 x324 x325 x326 x327 x328 x329 x330 x331 x332 x333 x334 x335 x336 x337 x338 x339 x340 x341 x342 x343 x344 x345 x346 x347 x348 x349 x350 x351 x352 x353 x354 x355 x356 x357 x358 x359 x360 x361 x362 x363 x364 x365 x366 x367 x368 x369 x370 x371 x372 x373 x374 x375 x376 x377 x378 x379 x380 x381 x382 x383 : Value) :
    Code.wp Try.prog (more_two 12) (bodyPost Try.prog Try.f12 (RetB true w)) { tmps := #[x0, x1, .int .u8 wh, .int .u8 wt, .int .u8 at8, .int .u16 of16, .pointer (some ⟨b0, 0, none⟩), x7, x8, x9, x10, x11, x12, .int .i64 (rs.length : Int), .pointer (some ⟨s1, 0, none⟩), .pointer (some ⟨s2, 0, none⟩), .pointer (some ⟨s3, 0, none⟩), x17, x18, x19, x20, x21, x22, x23, x24, x25, x26, x27, x28, x29, x30, x31, x32, x33, x34, x35, x36, x37, x38, x39, x40, x41, x42, x43, x44, x45, x46, x47, x48, x49, x50, x51, x52, x53, x54, x55, x56, x57, x58, x59, x60, x61, x62, x63, x64, x65, x66, x67, x68, x69, x70, x71, x72, x73, x74, x75, x76, x77, x78, x79, x80, x81, x82, x83, x84, x85, x86, x87, x88, x89, x90, x91, x92, x93, x94, x95, x96, x97, x98, x99, x100, x101, x102, x103, x104, x105, x106, x107, x108, x109, x110, x111, x112, x113, x114, x115, x116, x117, x118, x119, x120, x121, x122, x123, x124, x125, x126, x127, x128, x129, x130, x131, x132, x133, x134, x135, x136, x137, x138, x139, x140, x141, x142, x143, x144, x145, x146, x147, x148, x149, x150, x151, x152, x153, x154, x155, x156, x157, x158, x159, x160, x161, x162, x163, x164, x165, x166, x167, x168, x169, x170, x171, x172, x173, x174, x175, x176, x177, x178, x179, x180, x181, x182, x183, x184, x185, x186, x187, x188, x189, x190, x191, x192, x193, x194, x195, x196, x197, x198, x199, x200, x201, x202, x203, x204, x205, x206, x207, x208, x209, x210, x211, x212, x213, x214, x215, x216, x217, x218, x219, x220, x221, x222, x223, x224, x225, x226, x227, x228, x229, x230, x231, x232, x233, x234, x235, x236, x237, x238, x239, x240, x241, x242, x243, x244, x245, x246, x247, x248, x249, x250, x251, x252, x253, x254, x255, x256, x257, x258, x259, x260, x261, x262, x263, x264, x265, x266, x267, x268, x269, x270, x271, x272, x273, x274, x275, x276, x277, x278, x279, x280, x281, x282, x283, x284, x285, x286, x287, x288, x289, x290, x291, x292, x293, x294, x295, x296, x297, x298, x299, x300, x301, x302, x303, x304, x305, x306, x307, x308, x309, x310, x311, x312, x313, x314, x315, x316, x317, x318, x319, x320, x321, x322, x323, x324, x325, x326, x327, x328, x329, x330, x331, x332, x333, x334, x335, x336, x337, x338, x339, x340, x341, x342, x343, x344, x345, x346, x347, x348, x349, x350, x351, x352, x353, x354, x355, x356, x357, x358, x359, x360, x361, x362, x363, x364, x365, x366, x367, x368, x369, x370, x371, x372, x373, x374, x375, x376, x377, x378, x379, x380, x381, x382, x383], defers := [] } wr := by
  conv => arg 2; whnf
  have hmx : Try.prog.follows .mixedOrders = true := by kernel_rfl
  have HB0 := Lib.hid (show Sw ⟨mark, llo, lhi, clo, chi, ra, rc, rs⟩ X Z b0 s1 s2 s3 ya yc w wr from ⟨rs, rfl, hY, ⟨rfl, rfl, fun _ h => h⟩, hX, hZ, bX, bZ, bY, hB, kk⟩)
  have HI := Lib.hid hI
  have HOK := Lib.hid hok
  have HFX := Lib.hid fX
  have HFZ := Lib.hid fZ
  have Z1 := Lib.hid z1
  have Z2 := Lib.hid z2
  have Z3 := Lib.hid z3
  have HYY := Lib.hid hY
  have HBY := Lib.hid bY
  have STQ := Lib.hid (fun g (i c : Nat) (W' : World) (k : Keeps wr W') (hya : ya = some ⟨g, 0, none⟩) xg zg n0 n1 n2 n3 hg (hi : i < rs.length) (hc : c < 4) v a b d e => Sw.stored (B := ⟨mark, llo, lhi, clo, chi, ra, rc, rs⟩) (X := X) (Z := Z) (b0 := b0) (s1 := s1) (s2 := s2) (s3 := s3) (g := g) (yc := yc) (w := w) (wr := W') (by rw [← hya]; exact hY.keep k) (hX.keep k) (hZ.keep k) (bX.keep k) (bZ.keep k) (by rw [← hya]; exact bY.keep k) (hB.keep k) (kk.trans k) xg zg n0 n1 n2 n3 hg (i := i) (c := c) hi hc v a b d e)
  have OWN := Lib.hid own
  clear hI fX fZ z1 z2 z3 hX hZ bX bZ hB own bY
  go_upto_if 91 with fail
  go_cut [18] from 91 to 170 (fun _ wx => Sw ⟨mark, llo, lhi, clo, chi, ra, rc, rs⟩ X Z b0 s1 s2 s3 ya yc w wx)
  case first =>
    by_cases hne : rs = []
    · have hz : decide (0 < rs.length) = false := by rw [hne]; rfl
      clear hok hY
      have hz3 : ¬ 0 < rs.length := by rw [hne]; simp
      clear hne
      go_wp2_with fail
      go_meet
      exact HB0.out
    · have hpos := List.length_pos_iff.2 hne
      have hz : decide ((0 : Int) < (rs.length : Int)) = true := decide_eq_true (by omega)
      obtain ⟨g, rfl, hfr, xg, zg, n0, n1, n2, n3, hg⟩ := OWN.out hne
      have g5 := HBY.out.c5
      dsimp only at g5
      have hlb := lt_of_cell g5
      obtain ⟨i, hiw⟩ : ∃ i : Nat, wh % (rs.length : Int) = i := Int.eq_ofNat_of_zero_le (Int.emod_nonneg _ (by omega))
      have hi : i < rs.length := by have := Int.emod_lt_of_pos wh (show (0 : Int) < (rs.length : Int) by omega); omega
      have htm : wh.tmod (rs.length : Int) = (i : Int) := by rw [Int.tmod_eq_emod_of_nonneg h0]; exact hiw
      have hvr := (ok_rs2 hok).2 i hi
      dsimp only at hvr
      have hcc := comp_wrs hY i hi
      have d0 := hcc 0 (by omega)
      have d1 := hcc 1 (by omega)
      have d2 := hcc 2 (by omega)
      have d3 := hcc 3 (by omega)
      have e0 := hfr (i * 4 + 0)
      have e1 := hfr (i * 4 + 1)
      have e2 := hfr (i * 4 + 2)
      have e3 := hfr (i * 4 + 3)
      have STO := Lib.hid (fun (c : Nat) W' k v hc a b d e => STQ.out g i c W' k rfl xg zg n0 n1 n2 n3 hg hi hc v a b d e)
      have hgi : rs[i]?.getD (0, 0, 0, 0) = rs[i]'hi := by rw [List.getElem?_eq_getElem hi, Option.getD_some]
      rw [hgi] at hvr d0 d1 d2 d3
      dsimp only at STO
      obtain ⟨⟨p, q, y, z⟩, hr⟩ : ∃ r : Wr, rs[i]'hi = r := ⟨_, rfl⟩
      rw [hr] at hvr d0 d1 d2 d3 STO
      simp only [compR] at d0 d1 d2 d3
      obtain ⟨v1, v2, v3, v4, v5, v6, v7⟩ := vWr_bd2 hvr
      dsimp only at v1 v2 v3 v4 v5 v6 v7
      rw [Nat.add_zero] at d0 e0
      have hlg := lt_of_cell d0
      have kd := (Keeps.refl wr).drew
      haveI : Nonempty (Since wr.drew) := Since.some _
      clear hok hY hgi hr hvr hcc hiw STQ OWN HBY HYY xg zg n0 n1 n2 n3 hg hfr hne HI HOK HFX HFZ Z1 Z2 Z3
      have j5 : ∀ q : Since wr.drew, q.W.cell? ⟨s2, 5, none⟩ = some (.slice (some ⟨g, 0, none⟩) rs.length yc) := fun q => (kd.trans q.keeps).cell g5
      go_wp2_with fail
      refine (wpIn_wide (n := 3)).1 ?_
      refine region_calm 8 [(0, [0, 1, 2, 3, 4, 5, 6, 7])] (fun _ => trivial) (by kernel_rfl) hmx (by kernel_rfl) (by kernel_rfl) ?_
      show wpQuietIn _ _ _ _ _ _ [_, _, _, _, _, _, _, _] _
      iterate 8 (gi_big_quiet_step (fail))
      refine wpQuietIn_nil ?_
      unfold wpMix
      refine ⟨rfl, ?_⟩
      have htm4 : wt.tmod 4 = wt % 4 := Int.tmod_eq_emod_of_nonneg i0
      obtain ⟨q4, hq4⟩ : ∃ q, wt % 4 = q := ⟨_, rfl⟩
      have hq5 : q4 = 0 ∨ q4 = 1 ∨ q4 = 2 ∨ q4 = 3 := by omega
      have j0 : ∀ q : Since wr.drew, q.W.cell? ⟨g, i * 4, none⟩ = some (.int .i64 p) := fun q => (kd.trans q.keeps).cell d0
      have j1 : ∀ r : Since wr.drew, r.W.cell? ⟨g, i * 4 + 1, none⟩ = some (.int .i64 q) := fun r => (kd.trans r.keeps).cell d1
      have j2 : ∀ q : Since wr.drew, q.W.cell? ⟨g, i * 4 + 2, none⟩ = some (.int .i64 y) := fun q => (kd.trans q.keeps).cell d2
      have j3 : ∀ q : Since wr.drew, q.W.cell? ⟨g, i * 4 + 3, none⟩ = some (.int .i64 z) := fun q => (kd.trans q.keeps).cell d3
      clear j5
      rcases hq5 with rfl | rfl | rfl | rfl
      · have wv : IntKind.i64.wrap (p + 1) = p + 1 := IntWalk.i64_in _ (by constructor <;> omega)
        have HST := Lib.hid (fun W' k v (h1 : (((v, q, y, z) : Wr)).1 ≥ p) (h2 : (((v, q, y, z) : Wr)).2.1 ≤ q) (h3 : (((v, q, y, z) : Wr)).2.2.1 ≥ y) (h4 : (((v, q, y, z) : Wr)).2.2.2 ≤ z) => STO.out 0 W' k v (by omega) h1 h2 h3 h4)
        clear STO
        go_wp2_with fail
        refine (wpIn_wide (n := 3)).1 ?_
        refine region_call (F := Fence.wide) 16 (fun w' => ∃ q : Since wr.drew, w' = q.W) ⟨⟨_, (Keeps.refl _).drew⟩, rfl⟩ (by kernel_rfl) hmx (by kernel_rfl) (by kernel_rfl) ?_
        dsimp only [List.take_succ_cons, List.take_zero, List.drop_succ_cons, List.drop_zero]
        iterate 16 (gi_big_quiet_step (fail))
        refine wpQuietIn_nil ?_
        rintro _ ⟨q4, rfl⟩
        have k4 := kd.trans q4.keeps
        have x0 := k4.cell d0
        have x1 := k4.cell d1
        have x2 := k4.cell d2
        have x3 := k4.cell d3
        have xl := lt_of_cell x0
        have f0' := (k4.cells.2 g (i * 4) hlg).trans e0
        have f1' := (k4.cells.2 g (i * 4 + 1) hlg).trans e1
        have f2' := (k4.cells.2 g (i * 4 + 2) hlg).trans e2
        have f3' := (k4.cells.2 g (i * 4 + 3) hlg).trans e3
        clear j0 j1 j2 j3
        change wpListIn _ _ _ _ _ [_] _ _
        gi_wp2_with fail
        go_wp2_with fail
        go_meet
        first
          | exact HST.out _ k4 (min q (p + 1)) (by omega) (by omega) (by omega) (by omega)
          | exact (HST.out _ k4 (min q (p + 1)) (by omega) (by omega) (by omega) (by omega)).drew
      · have wv : IntKind.i64.wrap (q - 1) = q - 1 := IntWalk.i64_in _ (by constructor <;> omega)
        have HST := Lib.hid (fun W' k v (h1 : (((p, v, y, z) : Wr)).1 ≥ p) (h2 : (((p, v, y, z) : Wr)).2.1 ≤ q) (h3 : (((p, v, y, z) : Wr)).2.2.1 ≥ y) (h4 : (((p, v, y, z) : Wr)).2.2.2 ≤ z) => STO.out 1 W' k v (by omega) h1 h2 h3 h4)
        clear STO
        go_wp2_with fail
        refine (wpIn_wide (n := 3)).1 ?_
        refine region_call (F := Fence.wide) 16 (fun w' => ∃ q : Since wr.drew, w' = q.W) ⟨⟨_, (Keeps.refl _).drew⟩, rfl⟩ (by kernel_rfl) hmx (by kernel_rfl) (by kernel_rfl) ?_
        dsimp only [List.take_succ_cons, List.take_zero, List.drop_succ_cons, List.drop_zero]
        iterate 16 (gi_big_quiet_step (fail))
        refine wpQuietIn_nil ?_
        rintro _ ⟨q4, rfl⟩
        have k4 := kd.trans q4.keeps
        have x0 := k4.cell d0
        have x1 := k4.cell d1
        have x2 := k4.cell d2
        have x3 := k4.cell d3
        have xl := lt_of_cell x0
        have f0' := (k4.cells.2 g (i * 4) hlg).trans e0
        have f1' := (k4.cells.2 g (i * 4 + 1) hlg).trans e1
        have f2' := (k4.cells.2 g (i * 4 + 2) hlg).trans e2
        have f3' := (k4.cells.2 g (i * 4 + 3) hlg).trans e3
        clear j0 j1 j2 j3
        change wpListIn _ _ _ _ _ [_] _ _
        gi_wp2_with fail
        go_wp2_with fail
        go_meet
        first
          | exact HST.out _ k4 (max p (q - 1)) (by omega) (by omega) (by omega) (by omega)
          | exact (HST.out _ k4 (max p (q - 1)) (by omega) (by omega) (by omega) (by omega)).drew
      · have wv : IntKind.i64.wrap (y + 1) = y + 1 := IntWalk.i64_in _ (by constructor <;> omega)
        have HST := Lib.hid (fun W' k v (h1 : (((p, q, v, z) : Wr)).1 ≥ p) (h2 : (((p, q, v, z) : Wr)).2.1 ≤ q) (h3 : (((p, q, v, z) : Wr)).2.2.1 ≥ y) (h4 : (((p, q, v, z) : Wr)).2.2.2 ≤ z) => STO.out 2 W' k v (by omega) h1 h2 h3 h4)
        clear STO
        go_wp2_with fail
        refine (wpIn_wide (n := 3)).1 ?_
        refine region_call (F := Fence.wide) 16 (fun w' => ∃ q : Since wr.drew, w' = q.W) ⟨⟨_, (Keeps.refl _).drew⟩, rfl⟩ (by kernel_rfl) hmx (by kernel_rfl) (by kernel_rfl) ?_
        dsimp only [List.take_succ_cons, List.take_zero, List.drop_succ_cons, List.drop_zero]
        iterate 16 (gi_big_quiet_step (fail))
        refine wpQuietIn_nil ?_
        rintro _ ⟨q4, rfl⟩
        have k4 := kd.trans q4.keeps
        have x0 := k4.cell d0
        have x1 := k4.cell d1
        have x2 := k4.cell d2
        have x3 := k4.cell d3
        have xl := lt_of_cell x0
        have f0' := (k4.cells.2 g (i * 4) hlg).trans e0
        have f1' := (k4.cells.2 g (i * 4 + 1) hlg).trans e1
        have f2' := (k4.cells.2 g (i * 4 + 2) hlg).trans e2
        have f3' := (k4.cells.2 g (i * 4 + 3) hlg).trans e3
        clear j0 j1 j2 j3
        change wpListIn _ _ _ _ _ [_] _ _
        gi_wp2_with fail
        go_wp2_with fail
        go_meet
        first
          | exact HST.out _ k4 (min z (y + 1)) (by omega) (by omega) (by omega) (by omega)
          | exact (HST.out _ k4 (min z (y + 1)) (by omega) (by omega) (by omega) (by omega)).drew
      · have wv : IntKind.i64.wrap (z - 1) = z - 1 := IntWalk.i64_in _ (by constructor <;> omega)
        have HST := Lib.hid (fun W' k v (h1 : (((p, q, y, v) : Wr)).1 ≥ p) (h2 : (((p, q, y, v) : Wr)).2.1 ≤ q) (h3 : (((p, q, y, v) : Wr)).2.2.1 ≥ y) (h4 : (((p, q, y, v) : Wr)).2.2.2 ≤ z) => STO.out 3 W' k v (by omega) h1 h2 h3 h4)
        clear STO
        go_wp2_with fail
        refine (wpIn_wide (n := 3)).1 ?_
        refine region_call (F := Fence.wide) 16 (fun w' => ∃ q : Since wr.drew, w' = q.W) ⟨⟨_, (Keeps.refl _).drew⟩, rfl⟩ (by kernel_rfl) hmx (by kernel_rfl) (by kernel_rfl) ?_
        dsimp only [List.take_succ_cons, List.take_zero, List.drop_succ_cons, List.drop_zero]
        iterate 16 (gi_big_quiet_step (fail))
        refine wpQuietIn_nil ?_
        rintro _ ⟨q4, rfl⟩
        have k4 := kd.trans q4.keeps
        have x0 := k4.cell d0
        have x1 := k4.cell d1
        have x2 := k4.cell d2
        have x3 := k4.cell d3
        have xl := lt_of_cell x0
        have f0' := (k4.cells.2 g (i * 4) hlg).trans e0
        have f1' := (k4.cells.2 g (i * 4 + 1) hlg).trans e1
        have f2' := (k4.cells.2 g (i * 4 + 2) hlg).trans e2
        have f3' := (k4.cells.2 g (i * 4 + 3) hlg).trans e3
        clear j0 j1 j2 j3
        change wpListIn _ _ _ _ _ [_] _ _
        gi_wp2_with fail
        go_wp2_with fail
        go_meet
        first
          | exact HST.out _ k4 (max y (z - 1)) (by omega) (by omega) (by omega) (by omega)
          | exact (HST.out _ k4 (max y (z - 1)) (by omega) (by omega) (by omega) (by omega)).drew
  case rest =>
    obtain ⟨ys, y1, y2, y3, y4, y5, y6, y7, y8, y9, y10⟩ := hcut
    rename_i hK
    refine hK _ _ (wp_mo (c' := more_from 22) (by kernel_rfl) ?_)
    exact more_22 mark llo lhi clo chi ra rc rs b0 s1 s2 s3 at8 of16 X ⟨mark, llo, lhi, clo, chi, ya, yc, ys⟩ Z w _ HOK.out HI.out y10 y9 hl y6 y4 y8 ⟨y2, by dsimp only at y1 ⊢; unfold maxLen; omega⟩ y7 y5 a0 a1 f0 f1 HFX.out (fun _ => y3) HFZ.out Z1.out Z2.out Z3.out _ _ _ _ _ _ _ _ _ _ _ _ _ _ _ _ _ _ _ _ _ _ _ _ _ _ _ _ _ _ _ _ _ _ _ _ _ _ _ _ _ _ _ _ _ _ _ _ _ _ _ _ _ _ _ _ _ _ _ _ _ _ _ _ _ _ _ _ _ _ _ _ _ _ _ _ _ _ _ _ _ _ _ _ _ _ _ _ _ _ _ _ _ _ _ _ _ _ _ _ _ _ _ _ _ _ _ _ _ _ _ _ _ _ _ _ _ _ _ _ _ _ _ _ _ _ _ _ _ _ _ _ _ _ _ _ _ _ _ _ _ _ _ _ _ _ _ _ _ _ _ _ _ _ _ _ _ _ _ _ _ _ _ _ _ _ _ _ _ _ _ _ _ _ _ _ _ _ _ _ _ _ _ _ _ _ _ _ _ _ _ _ _ _ _ _ _ _ _ _ _ _ _ _ _ _ _ _ _ _ _ _ _ _ _ _ _ _ _ _ _ _ _ _ _ _ _ _ _ _ _ _ _ _ _ _ _ _ _ _ _ _ _ _ _ _ _ _ _ _ _ _ _ _ _ _ _ _ _ _ _ _ _ _ _ _ _ _ _ _ _ _ _ _ _ _ _ _ _ _ _ _ _ _ _ _ _ _ _ _ _ _ _ _ _ _ _ _ _ _ _ _ _ _ _ _ _ _ _ _ _ _ _ _ _ _ _ _ _ _ _ _ _ _ _ _ _ _ _ _ _ _ _ _ _ _ _ _ _ _ _ _ _ _ _ _ _ _ _ _ _ _ _ _ _ _ _ _ _ _ _ _ _ _ _ _ _ _ _ _ _ _ _ _ _ _ _ _
end Go.Proofs.Ytmhpgjlegajpeaa
