/-
  FringeMore, from its beginning.
-/
import Derived.Test.YtoidnbpbeblokaaMi
namespace Go.Proofs.Ytoidnbpbeblokaa
open Go.RowKit Go.Shelf

theorem more_idx {n : Nat} {wh : Int} (hpos : 0 < n) (b0 : 0 ≤ wh) : ∃ j : Nat, wh % (n : Int) = j ∧ j < n ∧ wh.tmod (n : Int) = j ∧ ¬ ((n : Int) = 0) ∧ (j : Int) < (n : Int) ∧ j * 3 < n * 3 ∧ j * 3 + 1 < n * 3 ∧ j * 3 + 2 < n * 3 := by
  obtain ⟨j, hj⟩ : ∃ j : Nat, wh % (n : Int) = j := Int.eq_ofNat_of_zero_le (Int.emod_nonneg _ (by omega))
  have := Int.emod_lt_of_pos wh (show (0 : Int) < n by omega)
  exact ⟨j, hj, by omega, by rw [Int.tmod_eq_emod_of_nonneg b0, hj], by omega, by omega, by omega, by omega, by omega⟩
theorem more_hi {lo hi : Int} (hv : vPart lo hi = true) : IntKind.i64.wrap (hi - 1) = hi - 1 := by
  simp only [vPart, decide_eq_true_eq] at hv
  exact IntWalk.i64_in _ (by constructor <;> omega)
theorem nar_cells {rs : List Rd} {j : Nat} {c x y : Int} (hr : rs[j]?.getD (0, 0, 0) = (c, x, y)) (hj : j < rs.length) : (rdCells rs).set (j * 3 + 2) (.int .i64 (max x (y - 1))) = rdCells (rs.set j (nrw (rs[j]?.getD (0, 0, 0)))) := by
  rw [hr]
  induction rs generalizing j with
  | nil => simp at hj
  | cons s l ih =>
    have e : ∀ s l, rdCells (s :: l) = .int .i64 s.1 :: .int .i64 s.2.1 :: .int .i64 s.2.2 :: rdCells l := fun _ _ => rfl
    cases j with
    | zero =>
      simp only [List.getElem?_cons_zero, Option.getD_some] at hr
      subst hr
      simp [e, nrw]
    | succ j =>
      rw [e, show (j + 1) * 3 + 2 = (j * 3 + 2) + 1 + 1 + 1 by omega, List.set_cons_succ, List.set_cons_succ, List.set_cons_succ, ih (by simpa using hr) (by simpa using hj), List.set_cons_succ, e]
theorem Four.put1 {W : World} {b : Nat} {v0 v1 v2 v3 : Value} (h : Four W b v0 v1 v2 v3) (v : Value) : Four (W.setCell ⟨b, 1, none⟩ v) b v0 v v2 v3 :=
  ⟨(cell_set_other (by omega)).trans h.c0, cell_set_same (by rw [h.c1]; rfl), (cell_set_other (by omega)).trans h.c2, (cell_set_other (by omega)).trans h.c3, fun o => by rw [World.frozen?_setCell]; exact h.fr o⟩
theorem more_nums {w w0 b9 b10 b11 b12 : Nat} (h : w < w0) (p9 : w0 ≤ b9) (p10 : w0 ≤ b10) (p11 : w0 ≤ b11) (p12 : w0 ≤ b12) : (w ≠ b10 ∧ w ≠ b11 ∧ w ≠ b12) ∧ w ≤ b9 ∧ w ≤ b10 ∧ w ≤ b11 ∧ w ≤ b12 := by omega
theorem more_wraps {lo wh : Int} (h : 0 ≤ lo) (h2 : lo ≤ 2000) (_b0 : 0 ≤ wh) : IntKind.i64.wrap (lo + 1) = lo + 1 ∧ IntKind.i64.wrap (lo + 1 + wh % 5) = lo + 1 + wh % 5 ∧ 0 ≤ wh % 5 :=
  ⟨IntWalk.i64_in _ (by constructor <;> omega), IntWalk.i64_in _ (by constructor <;> omega), by omega⟩
set_option maxRecDepth 100000 in
set_option maxHeartbeats 40000000 in
theorem more_long (F : Fr) (p q r wh : Int) (w : World) (hI : F.In w) (h : F.long = true) : Calls Try.prog 11 #[F.v, .agg #[.int .i64 p, .int .i64 q, .int .i64 r], .int .u8 wh] w (RetB true w) := by
  have AL := Lib.hid alive_any
  have LG := Lib.hid (fun w1 => long_any F w1 hI.wl hI.rl)
  rw [h] at LG
  obtain ⟨wa, wc, ws, lo, hi, ra, rc, rs⟩ := F
  dsimp only [Fr.v] at *
  clear h hI
  go_enter Try.func11, Try.ntmps11
  go_wp2_with fail
  refine (LG.out _).mono ?_
  rintro e w1 ⟨rfl, k1⟩
  go_wp2_with fail
  refine (AL.out _).mono ?_
  rintro e w2 ⟨rfl, k2⟩
  go_wp2_with fail
  go_ret
  exact ⟨rfl, ((((Keeps.refl w).alloc _).alloc _).trans k1).trans k2⟩
set_option maxRecDepth 100000 in
set_option maxHeartbeats 40000000 in
theorem more_bad (F : Fr) (p q r wh : Int) (w : World) (hI : F.In w) (h : F.long = false) (hok : F.ok = false) : Calls Try.prog 11 #[F.v, .agg #[.int .i64 p, .int .i64 q, .int .i64 r], .int .u8 wh] w (RetB true w) := by
  have AL := Lib.hid alive_any
  have LG := Lib.hid (fun w1 => long_any F w1 hI.wl hI.rl)
  have RF := Lib.hid (fun w1 (k : Keeps w w1) => refFringe_any F w1 (hI.keep k))
  rw [h] at LG
  rw [hok] at RF
  obtain ⟨wa, wc, ws, lo, hi, ra, rc, rs⟩ := F
  dsimp only [Fr.v] at *
  clear h hI hok
  go_enter Try.func11, Try.ntmps11
  go_wp2_with fail
  have k := ((Keeps.refl w).alloc (.cells #[.slice wa ws.length wc, .int .i64 lo, .int .i64 hi, .slice ra rs.length rc] 27)).alloc (.cells #[.int .i64 p, .int .i64 q, .int .i64 r] 41)
  have hB := (Fr.Box.new ⟨wa, wc, ws, lo, hi, ra, rc, rs⟩ w).keep ((Keeps.refl _).alloc (.cells #[.int .i64 p, .int .i64 q, .int .i64 r] 41))
  refine (LG.out _).mono ?_
  rintro e w1 ⟨rfl, k1⟩
  replace hB := hB.keep k1
  replace k := k.trans k1
  clear k1
  obtain ⟨g0, g1, g2, g3⟩ := hB
  dsimp only at g0 g1 g2 g3
  go_wp2_with fail
  refine (RF.out _ k).mono ?_
  rintro e w3 ⟨rfl, k1⟩
  replace k := k.trans k1
  clear k1
  go_wp2_with fail
  refine (AL.out _).mono ?_
  rintro e w5 ⟨rfl, k1⟩
  go_wp2_with fail
  go_ret
  exact ⟨rfl, k.trans k1⟩
/-- After the fringe with a narrower reading has readings of its own. -/
structure Six (wa : Option Addr) (kc : Nat) (ws : List Int) (lo hi : Int) (ra : Option Addr) (rc : Nat) (rs : List Rd) (p q r : Int) (xa : Option Addr) (xc b9 b10 b11 b12 n : Nat) (ya : Option Addr) (yc : Nat) (w W2 : World) : Prop where
  HB : Fr.Box ⟨wa, kc, ws, lo, hi, ra, rc, rs⟩ W2 w.heap.size
  HX : Fr.Box ⟨wa, kc, ws, lo, hi, xa, xc, rs ++ [(p, q, r)]⟩ W2 b9
  HXI : Fr.In ⟨wa, kc, ws, lo, hi, xa, xc, rs ++ [(p, q, r)]⟩ W2
  HY : Four W2 b10 (.slice wa ws.length kc) (.int .i64 lo) (.int .i64 hi) (.slice ya rs.length yc)
  HZ : Four W2 b11 (.slice wa ws.length kc) (.int .i64 lo) (.int .i64 hi) (.slice ra rs.length rc)
  HT : Four W2 b12 (.slice wa ws.length kc) (.int .i64 lo) (.int .i64 hi) (.slice ra rs.length rc)
  HYR : Rds W2 ya rs
  HO2 : W2.ownsRow n 41 3 (.slice ya rs.length yc) rs.length (rdCells rs)
  HYA : ∀ b o, ya = some ⟨b, o, none⟩ → n ≤ b
  k3 : Keeps w W2
  HI : Fr.In ⟨wa, kc, ws, lo, hi, ra, rc, rs⟩ w
  HFR : rs ≠ [] → ∀ b o, ra = some ⟨b, o, none⟩ → b < w.heap.size
  HFW : ∀ b o, wa = some ⟨b, o, none⟩ → b < w.heap.size
  m9 : b9 ≠ b10
  m9b : b9 ≠ b11
  m9c : b9 ≠ b12
  m10 : b10 ≠ b11
  m10c : b10 ≠ b12
  m11 : b11 ≠ b12
  u10 : w.heap.size ≠ b10
  u11 : w.heap.size ≠ b11
  u12 : w.heap.size ≠ b12
  v9 : w.heap.size ≤ b9
  v10 : w.heap.size ≤ b10
  v11 : w.heap.size ≤ b11
  v12 : w.heap.size ≤ b12
  hsz : b10 < n
  hsz9 : b9 < n
  hsz11 : b11 < n
  hsz12 : b12 < n
  hs2 : n ≤ W2.heap.size
  x11 : Away b11 xa
  x12 : Away b12 xa
  xb : ∃ b o, xa = some ⟨b, o, none⟩ ∧ b < n
/-- What follows from a region on that is the first of two. -/
def codeTwo (n : Nat) : Code → Option Code
  | .seq a c => (match a with | .seq (.region i _ _) _ => if i == n then some (.seq a c) else none | _ => codeTwo n a) <|> codeTwo n c
  | .block _ b => codeTwo n b
  | .loop b => codeTwo n b
  | .cond _ a b => codeTwo n a <|> codeTwo n b
  | .scope b => codeTwo n b
  | _ => none
noncomputable def more_seven : Code := ((Try.f11.body).bind (codeTwo 7)).getD .skip
set_option maxRecDepth 100000 in
set_option maxHeartbeats 40000000 in
theorem more_7a (wa : Option Addr) (kc : Nat) (ws : List Int) (lo hi : Int) (ra : Option Addr) (rc : Nat) (p q r wh : Int) (xa : Option Addr) (xc b9 b10 b11 b12 c n : Nat) (ya : Option Addr) (yc : Nat) (w W2 : World) (AL : Hid (∀ w, Calls Try.prog 13 #[] w (RetB true w)))
    (hok : Fr.ok ⟨wa, kc, ws, lo, hi, ra, rc, []⟩ = true) (hcl : c < ws.length) (b0 : 0 ≤ wh) (b1 : wh ≤ 255) (S : Six wa kc ws lo hi ra rc [] p q r xa xc b9 b10 b11 b12 n ya yc w W2)
    (x0 x1 x4 x5 x6 x13 x14 x15 x16 x17 x18 x19 x20 x21 x22 x23 x24 x25 x26 x27 x28 x29 x30 x31 x32 x33 x34 x35 x36 x37 x38 x39 x40 x41 x42 x43 x44 x45 x46 x47 x48 x49 x50 x51 x52 x53 x54 x55 x56 x57 x58 x59 x60 x61 x62 x63 x64 x65 x66 x67 x68 x69 x70 x71 x72 x73 x74 x75 x76 x77 x78 x79 x80 x81 x82 x83 x84 x85 x86 x87 x88 x89 x90 x91 x92 x93 x94 x95 x96 x97 x98 x99 x100 x101 x102 x103 x104 x105 x106 x107 x108 x109 x110 x111 x112 x113 x114 x115 x116 x117 x118 x119 x120 x121 x122 x123 x124 x125 x126 x127 x128 x129 x130 x131 x132 x133 x134 x135 x136 x137 x138 x139 x140 x141 x142 x143 x144 x145 x146 x147 x148 x149 x150 x151 x152 x153 x154 x155 x156 x157 x158 x159 x160 x161 x162 x163 x164 x165 x166 x167 x168 x169 x170 x171 x172 x173 x174 x175 x176 x177 x178 x179 x180 x181 x182 x183 x184 x185 x186 x187 x188 x189 x190 x191 x192 x193 x194 x195 x196 x197 x198 x199 x200 x201 x202 x203 x204 x205 x206 x207 x208 x209 x210 x211 x212 x213 x214 x215 x216 x217 x218 x219 x220 x221 x222 x223 x224 x225 x226 x227 x228 x229 x230 x231 x232 x233 x234 x235 x236 x237 x238 x239 x240 x241 x242 x243 x244 x245 x246 x247 x248 x249 x250 x251 x252 x253 x254 x255 x256 x257 x258 x259 x260 x261 x262 x263 x264 x265 x266 x267 x268 x269 x270 x271 x272 x273 x274 x275 x276 x277 x278 x279 x280 x281 x282 x283 x284 x285 x286 x287 x288 x289 x290 x291 x292 x293 x294 x295 x296 x297 x298 x299 x300 x301 x302 x303 x304 x305 x306 x307 x308 x309 x310 x311 x312 x313 x314 x315 x316 x317 x318 x319 x320 x321 x322 x323 x324 x325 x326 x327 x328 x329 x330 x331 x332 x333 x334 x335 x336 x337 x338 x339 x340 x341 x342 x343 x344 x345 x346 x347 x348 x349 x350 x351 x352 x353 x354 x355 x356 x357 x358 x359 x360 x361 x362 x363 x364 x365 x366 x367 x368 x369 x370 x371 x372 x373 x374 x375 x376 x377 x378 x379 x380 x381 x382 x383 x384 x385 x386 x387 x388 x389 x390 x391 x392 x393 x394 x395 x396 : Value) :
    Code.wp Try.prog more_seven (bodyPost Try.prog Try.f11 (RetB true w)) { tmps := #[x0, x1, .int .u8 wh, .pointer (some ⟨w.heap.size, 0, none⟩), x4, x5, x6, .int .i64 (ws.length : Int), .int .i64 (c : Int), .pointer (some ⟨b9, 0, none⟩), .pointer (some ⟨b10, 0, none⟩), .pointer (some ⟨b11, 0, none⟩), .pointer (some ⟨b12, 0, none⟩), x13, x14, x15, x16, x17, x18, x19, x20, x21, x22, x23, x24, x25, x26, x27, x28, x29, x30, x31, x32, x33, x34, x35, x36, x37, x38, x39, x40, x41, x42, x43, x44, x45, x46, x47, x48, x49, x50, x51, x52, x53, x54, x55, x56, x57, x58, x59, x60, x61, x62, x63, x64, x65, x66, x67, x68, x69, x70, x71, x72, x73, x74, x75, x76, x77, x78, x79, x80, x81, x82, x83, x84, x85, x86, x87, x88, x89, x90, x91, x92, x93, x94, x95, x96, x97, x98, x99, x100, x101, x102, x103, x104, x105, x106, x107, x108, x109, x110, x111, x112, x113, x114, x115, x116, x117, x118, x119, x120, x121, x122, x123, x124, x125, x126, x127, x128, x129, x130, x131, x132, x133, x134, x135, x136, x137, x138, x139, x140, x141, x142, x143, x144, x145, x146, x147, x148, x149, x150, x151, x152, x153, x154, x155, x156, x157, x158, x159, x160, x161, x162, x163, x164, x165, x166, x167, x168, x169, x170, x171, x172, x173, x174, x175, x176, x177, x178, x179, x180, x181, x182, x183, x184, x185, x186, x187, x188, x189, x190, x191, x192, x193, x194, x195, x196, x197, x198, x199, x200, x201, x202, x203, x204, x205, x206, x207, x208, x209, x210, x211, x212, x213, x214, x215, x216, x217, x218, x219, x220, x221, x222, x223, x224, x225, x226, x227, x228, x229, x230, x231, x232, x233, x234, x235, x236, x237, x238, x239, x240, x241, x242, x243, x244, x245, x246, x247, x248, x249, x250, x251, x252, x253, x254, x255, x256, x257, x258, x259, x260, x261, x262, x263, x264, x265, x266, x267, x268, x269, x270, x271, x272, x273, x274, x275, x276, x277, x278, x279, x280, x281, x282, x283, x284, x285, x286, x287, x288, x289, x290, x291, x292, x293, x294, x295, x296, x297, x298, x299, x300, x301, x302, x303, x304, x305, x306, x307, x308, x309, x310, x311, x312, x313, x314, x315, x316, x317, x318, x319, x320, x321, x322, x323, x324, x325, x326, x327, x328, x329, x330, x331, x332, x333, x334, x335, x336, x337, x338, x339, x340, x341, x342, x343, x344, x345, x346, x347, x348, x349, x350, x351, x352, x353, x354, x355, x356, x357, x358, x359, x360, x361, x362, x363, x364, x365, x366, x367, x368, x369, x370, x371, x372, x373, x374, x375, x376, x377, x378, x379, x380, x381, x382, x383, x384, x385, x386, x387, x388, x389, x390, x391, x392, x393, x394, x395, x396], defers := [] } W2 := by
  conv => arg 2; whnf
  have HOK := Lib.hid hok
  have hll := Fr.len_in _ hok
  dsimp only at hll
  have OW := Lib.hid (more_wraps (wh := wh) hll.1 (Int.le_trans hll.2.1 hll.2.2.1) b0)
  have h256 : wh < 256 := by omega
  obtain ⟨hB, hX, hXI, hY, hZ, hT, hYR, hO2, hYA, k3, hI, hFR, hFW, m9, m9b, m9c, m10, m10c, m11, u10, u11, u12, v9, v10, v11, v12, hsz, hsz9, hsz11, hsz12, hs2, x11, x12, bx, ox, hxe, hxl⟩ := S
  have HB := Lib.hid hB
  have HX := Lib.hid hX
  have HXI := Lib.hid hXI
  have HY := Lib.hid hY
  have HZ := Lib.hid hZ
  have HT := Lib.hid hT
  have HYR := Lib.hid hYR
  have HO2 := Lib.hid hO2
  have HYA := Lib.hid hYA
  have HI := Lib.hid hI
  have HFR := Lib.hid hFR
  have AWA := Lib.hid (show ∀ n, w.heap.size ≤ n → ws ≠ [] → Away n wa from fun n hn _ b o e => Nat.ne_of_lt (Nat.lt_of_lt_of_le (hFW b o e) hn))
  have y0 := HY.out.c0
  have y1 := HY.out.c1
  have y2 := HY.out.c2
  have y3 := HY.out.c3
  have yl := HY.out.lt
  clear hok hll hB hX hXI hY hZ hT hYR hO2 hYA hI hFR hFW
  have HYB := Lib.hid (show Fr.Box (Fr.nar ⟨wa, kc, ws, lo, hi, ra, rc, []⟩ 0 ya yc) W2 b10 from ⟨y0, y1, y2, y3⟩)
  have HYI := Lib.hid (show Fr.In (Fr.nar ⟨wa, kc, ws, lo, hi, ra, rc, []⟩ 0 ya yc) W2 from ⟨HI.out.ints.keep k3, HYR.out, HI.out.wl, HI.out.rl⟩)
  have YA := Lib.hid (show ∀ m, m < n → Away m ya from fun m hn b o e => Nat.ne_of_gt (Nat.lt_of_lt_of_le hn (HYA.out b o e)))
  go_upto_region 10 with fail
  have u1 := HZ.out.c1
  have u2 := HZ.out.c2
  have uf := HZ.out.fr 1
  have ul := HZ.out.lt
  obtain ⟨o1, o2, o3⟩ := OW.out
  go_cut [104] (fun _ wx => wx = W2.setCell ⟨b11, 1, none⟩ (.int .i64 (min hi (lo + 1 + wh % 5))))
  case first =>
    go_wp2_with fail
    go_meet
    rfl
  case rest =>
    obtain rfl := hcut
    rename_i hK
    refine hK _ _ (wp_on (c' := more_from 11) (by kernel_rfl) ?_)
    clear hK u1 u2 uf ul o1 o2
    have G11 : W2.grownBy (W2.setCell ⟨b11, 1, none⟩ (.int .i64 (min hi (lo + 1 + wh % 5)))) (some b11) := Lib.grownBy_setCell W2 b11 1 _
    have hZ1 : Four (W2.setCell ⟨b11, 1, none⟩ (.int .i64 (min hi (lo + 1 + wh % 5)))) b11 (.slice wa ws.length kc) (.int .i64 (min hi (lo + 1 + wh % 5))) (.int .i64 hi) (.slice ra 0 rc) := HZ.out.put1 _
    have k4 := k3.of_grown G11 v11
    obtain ⟨V2, hV2⟩ : ∃ V2, W2.setCell ⟨b11, 1, none⟩ (.int .i64 (min hi (lo + 1 + wh % 5))) = V2 := ⟨_, rfl⟩
    rw [hV2] at G11 hZ1 k4 ⊢
    clear hV2
    have fra : ∀ n, w.heap.size ≤ n → [] ≠ [] → Away n ra := fun n hn hne b o e => Nat.ne_of_lt (Nat.lt_of_lt_of_le (HFR.out hne b o e) hn)
    have R : Rest ⟨wa, kc, ws, lo, hi, ra, rc, []⟩ (Fr.more ⟨wa, kc, ws, lo, hi, ra, rc, []⟩ (p, q, r) xa xc) (Fr.nar ⟨wa, kc, ws, lo, hi, ra, rc, []⟩ 0 ya yc) (Fr.cut ⟨wa, kc, ws, lo, hi, ra, rc, []⟩ (wh % 5) ra rc wa kc) w.heap.size b9 b10 b11 b12 V2 :=
      ⟨HB.out.grown G11 u11, HI.out.keep k4, HX.out.grown G11 m9b, HXI.out.grown G11 (AWA.out b11 v11) (fun _ => x11), HYB.out.grown G11 m10, HYI.out.grown G11 (AWA.out b11 v11) (fun _ => YA.out b11 hsz11), ⟨hZ1.c0, hZ1.c1, hZ1.c2, hZ1.c3⟩, ⟨(HI.out.keep k4).ints, (HI.out.keep k4).rds, HI.out.wl, HI.out.rl⟩, u12, m9c, m10c, m11, AWA.out b12 v12, fra b12 v12, AWA.out b12 v12, fun _ => x12, AWA.out b12 v12, fun _ => YA.out b12 hsz12, AWA.out b12 v12, fra b12 v12⟩
    have LX := more_less ⟨wa, kc, ws, lo, hi, ra, rc, []⟩ HOK.out (p, q, r) xa xc hcl True
    have LY := nar_less ⟨wa, kc, ws, lo, hi, ra, rc, []⟩ HOK.out 0 ya yc hcl
    have LZ := cut_less ⟨wa, kc, ws, lo, hi, ra, rc, []⟩ HOK.out (wh % 5) o3 ra rc wa kc hcl
    have T4 := HT.out.kept G11 (by simpa using fun e : b12 = b11 => m11 e.symm)
    exact more_11 wa kc ws lo hi ra rc [] _ _ _ w.heap.size b9 b10 b11 b12 c _ _ w V2 AL HOK.out hcl R LX LY LZ T4 k4 v12 _ _ _ _ _ _ _ _ _ _ _ _ _ _ _ _ _ _ _ _ _ _ _ _ _ _ _ _ _ _ _ _ _ _ _ _ _ _ _ _ _ _ _ _ _ _ _ _ _ _ _ _ _ _ _ _ _ _ _ _ _ _ _ _ _ _ _ _ _ _ _ _ _ _ _ _ _ _ _ _ _ _ _ _ _ _ _ _ _ _ _ _ _ _ _ _ _ _ _ _ _ _ _ _ _ _ _ _ _ _ _ _ _ _ _ _ _ _ _ _ _ _ _ _ _ _ _ _ _ _ _ _ _ _ _ _ _ _ _ _ _ _ _ _ _ _ _ _ _ _ _ _ _ _ _ _ _ _ _ _ _ _ _ _ _ _ _ _ _ _ _ _ _ _ _ _ _ _ _ _ _ _ _ _ _ _ _ _ _ _ _ _ _ _ _ _ _ _ _ _ _ _ _ _ _ _ _ _ _ _ _ _ _ _ _ _ _ _ _ _ _ _ _ _ _ _ _ _ _ _ _ _ _ _ _ _ _ _ _ _ _ _ _ _ _ _ _ _ _ _ _ _ _ _ _ _ _ _ _ _ _ _ _ _ _ _ _ _ _ _ _ _ _ _ _ _ _ _ _ _ _ _ _ _ _ _ _ _ _ _ _ _ _ _ _ _ _ _ _ _ _ _ _ _ _ _ _ _ _ _ _ _ _ _ _ _ _ _ _ _ _ _ _ _ _ _ _ _ _ _ _ _ _ _ _ _ _ _ _ _ _ _ _ _ _ _ _ _ _ _ _ _ _ _ _ _ _ _ _ _ _ _ _ _ _ _ _ _ _ _ _ _ _ _ _ _ _ _ _ _ _ _ _ _ _ _ _ _ _ _
set_option maxRecDepth 100000 in
set_option maxHeartbeats 40000000 in
theorem more_10 (wa : Option Addr) (kc : Nat) (ws : List Int) (lo hi : Int) (ra : Option Addr) (rc : Nat) (rs : List Rd) (p q r wh : Int) (xa : Option Addr) (xc b9 b10 b11 b12 c j : Nat) (ya : Option Addr) (yc : Nat) (w V : World) (AL : Hid (∀ w, Calls Try.prog 13 #[] w (RetB true w)))
    (hok : Fr.ok ⟨wa, kc, ws, lo, hi, ra, rc, rs⟩ = true) (hcl : c < ws.length) (b0 : 0 ≤ wh) (b1 : wh ≤ 255)
    (HB : Hid (Fr.Box ⟨wa, kc, ws, lo, hi, ra, rc, rs⟩ V w.heap.size)) (HX : Hid (Fr.Box ⟨wa, kc, ws, lo, hi, xa, xc, rs ++ [(p, q, r)]⟩ V b9)) (HXI : Hid (Fr.In ⟨wa, kc, ws, lo, hi, xa, xc, rs ++ [(p, q, r)]⟩ V))
    (HYB : Hid (Fr.Box (Fr.nar ⟨wa, kc, ws, lo, hi, ra, rc, rs⟩ j ya yc) V b10)) (HYI : Hid (Fr.In (Fr.nar ⟨wa, kc, ws, lo, hi, ra, rc, rs⟩ j ya yc) V)) (y11 : Away b11 ya) (y12 : Away b12 ya)
    (HZ : Hid (Four V b11 (.slice wa ws.length kc) (.int .i64 lo) (.int .i64 hi) (.slice ra rs.length rc))) (HT : Hid (Four V b12 (.slice wa ws.length kc) (.int .i64 lo) (.int .i64 hi) (.slice ra rs.length rc)))
    (k3 : Keeps w V) (HI : Hid (Fr.In ⟨wa, kc, ws, lo, hi, ra, rc, rs⟩ w)) (HFR : Hid (rs ≠ [] → ∀ b o, ra = some ⟨b, o, none⟩ → b < w.heap.size)) (AWA : Hid (∀ n, w.heap.size ≤ n → ws ≠ [] → Away n wa))
    (m9b : b9 ≠ b11) (m9c : b9 ≠ b12) (m10 : b10 ≠ b11) (m10c : b10 ≠ b12) (m11 : b11 ≠ b12) (u11 : w.heap.size ≠ b11) (u12 : w.heap.size ≠ b12) (v11 : w.heap.size ≤ b11) (v12 : w.heap.size ≤ b12) (x11 : Away b11 xa) (x12 : Away b12 xa)
    (x0 x1 x4 x5 x6 x13 x14 x15 x16 x17 x18 x19 x20 x21 x22 x23 x24 x25 x26 x27 x28 x29 x30 x31 x32 x33 x34 x35 x36 x37 x38 x39 x40 x41 x42 x43 x44 x45 x46 x47 x48 x49 x50 x51 x52 x53 x54 x55 x56 x57 x58 x59 x60 x61 x62 x63 x64 x65 x66 x67 x68 x69 x70 x71 x72 x73 x74 x75 x76 x77 x78 x79 x80 x81 x82 x83 x84 x85 x86 x87 x88 x89 x90 x91 x92 x93 x94 x95 x96 x97 x98 x99 x100 x101 x102 x103 x104 x105 x106 x107 x108 x109 x110 x111 x112 x113 x114 x115 x116 x117 x118 x119 x120 x121 x122 x123 x124 x125 x126 x127 x128 x129 x130 x131 x132 x133 x134 x135 x136 x137 x138 x139 x140 x141 x142 x143 x144 x145 x146 x147 x148 x149 x150 x151 x152 x153 x154 x155 x156 x157 x158 x159 x160 x161 x162 x163 x164 x165 x166 x167 x168 x169 x170 x171 x172 x173 x174 x175 x176 x177 x178 x179 x180 x181 x182 x183 x184 x185 x186 x187 x188 x189 x190 x191 x192 x193 x194 x195 x196 x197 x198 x199 x200 x201 x202 x203 x204 x205 x206 x207 x208 x209 x210 x211 x212 x213 x214 x215 x216 x217 x218 x219 x220 x221 x222 x223 x224 x225 x226 x227 x228 x229 x230 x231 x232 x233 x234 x235 x236 x237 x238 x239 x240 x241 x242 x243 x244 x245 x246 x247 x248 x249 x250 x251 x252 x253 x254 x255 x256 x257 x258 x259 x260 x261 x262 x263 x264 x265 x266 x267 x268 x269 x270 x271 x272 x273 x274 x275 x276 x277 x278 x279 x280 x281 x282 x283 x284 x285 x286 x287 x288 x289 x290 x291 x292 x293 x294 x295 x296 x297 x298 x299 x300 x301 x302 x303 x304 x305 x306 x307 x308 x309 x310 x311 x312 x313 x314 x315 x316 x317 x318 x319 x320 x321 x322 x323 x324 x325 x326 x327 x328 x329 x330 x331 x332 x333 x334 x335 x336 x337 x338 x339 x340 x341 x342 x343 x344 x345 x346 x347 x348 x349 x350 x351 x352 x353 x354 x355 x356 x357 x358 x359 x360 x361 x362 x363 x364 x365 x366 x367 x368 x369 x370 x371 x372 x373 x374 x375 x376 x377 x378 x379 x380 x381 x382 x383 x384 x385 x386 x387 x388 x389 x390 x391 x392 x393 x394 x395 x396 : Value) :
    Code.wp Try.prog (more_from 10) (bodyPost Try.prog Try.f11 (RetB true w)) { tmps := #[x0, x1, .int .u8 wh, .pointer (some ⟨w.heap.size, 0, none⟩), x4, x5, x6, .int .i64 (ws.length : Int), .int .i64 (c : Int), .pointer (some ⟨b9, 0, none⟩), .pointer (some ⟨b10, 0, none⟩), .pointer (some ⟨b11, 0, none⟩), .pointer (some ⟨b12, 0, none⟩), x13, x14, x15, x16, x17, x18, x19, x20, x21, x22, x23, x24, x25, x26, x27, x28, x29, x30, x31, x32, x33, x34, x35, x36, x37, x38, x39, x40, x41, x42, x43, x44, x45, x46, x47, x48, x49, x50, x51, x52, x53, x54, x55, x56, x57, x58, x59, x60, x61, x62, x63, x64, x65, x66, x67, x68, x69, x70, x71, x72, x73, x74, x75, x76, x77, x78, x79, x80, x81, x82, x83, x84, x85, x86, x87, x88, x89, x90, x91, x92, x93, x94, x95, x96, x97, x98, x99, x100, x101, x102, x103, x104, x105, x106, x107, x108, x109, x110, x111, x112, x113, x114, x115, x116, x117, x118, x119, x120, x121, x122, x123, x124, x125, x126, x127, x128, x129, x130, x131, x132, x133, x134, x135, x136, x137, x138, x139, x140, x141, x142, x143, x144, x145, x146, x147, x148, x149, x150, x151, x152, x153, x154, x155, x156, x157, x158, x159, x160, x161, x162, x163, x164, x165, x166, x167, x168, x169, x170, x171, x172, x173, x174, x175, x176, x177, x178, x179, x180, x181, x182, x183, x184, x185, x186, x187, x188, x189, x190, x191, x192, x193, x194, x195, x196, x197, x198, x199, x200, x201, x202, x203, x204, x205, x206, x207, x208, x209, x210, x211, x212, x213, x214, x215, x216, x217, x218, x219, x220, x221, x222, x223, x224, x225, x226, x227, x228, x229, x230, x231, x232, x233, x234, x235, x236, x237, x238, x239, x240, x241, x242, x243, x244, x245, x246, x247, x248, x249, x250, x251, x252, x253, x254, x255, x256, x257, x258, x259, x260, x261, x262, x263, x264, x265, x266, x267, x268, x269, x270, x271, x272, x273, x274, x275, x276, x277, x278, x279, x280, x281, x282, x283, x284, x285, x286, x287, x288, x289, x290, x291, x292, x293, x294, x295, x296, x297, x298, x299, x300, x301, x302, x303, x304, x305, x306, x307, x308, x309, x310, x311, x312, x313, x314, x315, x316, x317, x318, x319, x320, x321, x322, x323, x324, x325, x326, x327, x328, x329, x330, x331, x332, x333, x334, x335, x336, x337, x338, x339, x340, x341, x342, x343, x344, x345, x346, x347, x348, x349, x350, x351, x352, x353, x354, x355, x356, x357, x358, x359, x360, x361, x362, x363, x364, x365, x366, x367, x368, x369, x370, x371, x372, x373, x374, x375, x376, x377, x378, x379, x380, x381, x382, x383, x384, x385, x386, x387, x388, x389, x390, x391, x392, x393, x394, x395, x396], defers := [] } V := by
  conv => arg 2; whnf
  try dsimp only
  have HOK := Lib.hid hok
  have hll := Fr.len_in _ hok
  dsimp only at hll
  have OW := Lib.hid (more_wraps (wh := wh) hll.1 (Int.le_trans hll.2.1 hll.2.2.1) b0)
  have h256 : wh < 256 := by omega
  clear hok hll
  have u1 := HZ.out.c1
  have u2 := HZ.out.c2
  have uf := HZ.out.fr 1
  have ul := HZ.out.lt
  obtain ⟨o1, o2, o3⟩ := OW.out
  go_upto_region 10 with fail
  go_cut [104] (fun _ wx => wx = V.setCell ⟨b11, 1, none⟩ (.int .i64 (min hi (lo + 1 + wh % 5))))
  case first =>
    go_wp2_with fail
    go_meet
    rfl
  case rest =>
    obtain rfl := hcut
    rename_i hK
    refine hK _ _ (wp_on (c' := more_from 11) (by kernel_rfl) ?_)
    clear hK u1 u2 uf ul o1 o2
    have G11 : V.grownBy (V.setCell ⟨b11, 1, none⟩ (.int .i64 (min hi (lo + 1 + wh % 5)))) (some b11) := Lib.grownBy_setCell V b11 1 _
    have hZ1 : Four (V.setCell ⟨b11, 1, none⟩ (.int .i64 (min hi (lo + 1 + wh % 5)))) b11 (.slice wa ws.length kc) (.int .i64 (min hi (lo + 1 + wh % 5))) (.int .i64 hi) (.slice ra rs.length rc) := HZ.out.put1 _
    have k4 := k3.of_grown G11 v11
    obtain ⟨V2, hV2⟩ : ∃ V2, V.setCell ⟨b11, 1, none⟩ (.int .i64 (min hi (lo + 1 + wh % 5))) = V2 := ⟨_, rfl⟩
    rw [hV2] at G11 hZ1 k4 ⊢
    clear hV2
    have fra : ∀ n, w.heap.size ≤ n → rs ≠ [] → Away n ra := fun n hn hne b o e => Nat.ne_of_lt (Nat.lt_of_lt_of_le (HFR.out hne b o e) hn)
    have R : Rest ⟨wa, kc, ws, lo, hi, ra, rc, rs⟩ (Fr.more ⟨wa, kc, ws, lo, hi, ra, rc, rs⟩ (p, q, r) xa xc) (Fr.nar ⟨wa, kc, ws, lo, hi, ra, rc, rs⟩ j ya yc) (Fr.cut ⟨wa, kc, ws, lo, hi, ra, rc, rs⟩ (wh % 5) ra rc wa kc) w.heap.size b9 b10 b11 b12 V2 :=
      ⟨HB.out.grown G11 u11, HI.out.keep k4, HX.out.grown G11 m9b, HXI.out.grown G11 (AWA.out b11 v11) (fun _ => x11), HYB.out.grown G11 m10, HYI.out.grown G11 (AWA.out b11 v11) (fun _ => y11), ⟨hZ1.c0, hZ1.c1, hZ1.c2, hZ1.c3⟩, ⟨(HI.out.keep k4).ints, (HI.out.keep k4).rds, HI.out.wl, HI.out.rl⟩, u12, m9c, m10c, m11, AWA.out b12 v12, fra b12 v12, AWA.out b12 v12, fun _ => x12, AWA.out b12 v12, fun _ => y12, AWA.out b12 v12, fra b12 v12⟩
    have LX := more_less ⟨wa, kc, ws, lo, hi, ra, rc, rs⟩ HOK.out (p, q, r) xa xc hcl True
    have LY := nar_less ⟨wa, kc, ws, lo, hi, ra, rc, rs⟩ HOK.out j ya yc hcl
    have LZ := cut_less ⟨wa, kc, ws, lo, hi, ra, rc, rs⟩ HOK.out (wh % 5) o3 ra rc wa kc hcl
    have T4 := HT.out.kept G11 (by simpa using fun e : b12 = b11 => m11 e.symm)
    exact more_11 wa kc ws lo hi ra rc rs _ _ _ w.heap.size b9 b10 b11 b12 c _ _ w V2 AL HOK.out hcl R LX LY LZ T4 k4 v12 _ _ _ _ _ _ _ _ _ _ _ _ _ _ _ _ _ _ _ _ _ _ _ _ _ _ _ _ _ _ _ _ _ _ _ _ _ _ _ _ _ _ _ _ _ _ _ _ _ _ _ _ _ _ _ _ _ _ _ _ _ _ _ _ _ _ _ _ _ _ _ _ _ _ _ _ _ _ _ _ _ _ _ _ _ _ _ _ _ _ _ _ _ _ _ _ _ _ _ _ _ _ _ _ _ _ _ _ _ _ _ _ _ _ _ _ _ _ _ _ _ _ _ _ _ _ _ _ _ _ _ _ _ _ _ _ _ _ _ _ _ _ _ _ _ _ _ _ _ _ _ _ _ _ _ _ _ _ _ _ _ _ _ _ _ _ _ _ _ _ _ _ _ _ _ _ _ _ _ _ _ _ _ _ _ _ _ _ _ _ _ _ _ _ _ _ _ _ _ _ _ _ _ _ _ _ _ _ _ _ _ _ _ _ _ _ _ _ _ _ _ _ _ _ _ _ _ _ _ _ _ _ _ _ _ _ _ _ _ _ _ _ _ _ _ _ _ _ _ _ _ _ _ _ _ _ _ _ _ _ _ _ _ _ _ _ _ _ _ _ _ _ _ _ _ _ _ _ _ _ _ _ _ _ _ _ _ _ _ _ _ _ _ _ _ _ _ _ _ _ _ _ _ _ _ _ _ _ _ _ _ _ _ _ _ _ _ _ _ _ _ _ _ _ _ _ _ _ _ _ _ _ _ _ _ _ _ _ _ _ _ _ _ _ _ _ _ _ _ _ _ _ _ _ _ _ _ _ _ _ _ _ _ _ _ _ _ _ _ _ _ _ _ _ _ _ _ _ _ _ _ _ _ _ _ _ _ _ _ _
set_option maxRecDepth 100000 in
set_option maxHeartbeats 40000000 in
theorem more_7b (wa : Option Addr) (kc : Nat) (ws : List Int) (lo hi : Int) (ra : Option Addr) (rc : Nat) (rs : List Rd) (p q r wh : Int) (xa : Option Addr) (xc b9 b10 b11 b12 c n : Nat) (ya : Option Addr) (yc : Nat) (w W2 : World) (AL : Hid (∀ w, Calls Try.prog 13 #[] w (RetB true w)))
    (hok : Fr.ok ⟨wa, kc, ws, lo, hi, ra, rc, rs⟩ = true) (hcl : c < ws.length) (b0 : 0 ≤ wh) (b1 : wh ≤ 255) (S : Six wa kc ws lo hi ra rc rs p q r xa xc b9 b10 b11 b12 n ya yc w W2) (hrs : rs ≠ [])
    (x0 x1 x4 x5 x6 x13 x14 x15 x16 x17 x18 x19 x20 x21 x22 x23 x24 x25 x26 x27 x28 x29 x30 x31 x32 x33 x34 x35 x36 x37 x38 x39 x40 x41 x42 x43 x44 x45 x46 x47 x48 x49 x50 x51 x52 x53 x54 x55 x56 x57 x58 x59 x60 x61 x62 x63 x64 x65 x66 x67 x68 x69 x70 x71 x72 x73 x74 x75 x76 x77 x78 x79 x80 x81 x82 x83 x84 x85 x86 x87 x88 x89 x90 x91 x92 x93 x94 x95 x96 x97 x98 x99 x100 x101 x102 x103 x104 x105 x106 x107 x108 x109 x110 x111 x112 x113 x114 x115 x116 x117 x118 x119 x120 x121 x122 x123 x124 x125 x126 x127 x128 x129 x130 x131 x132 x133 x134 x135 x136 x137 x138 x139 x140 x141 x142 x143 x144 x145 x146 x147 x148 x149 x150 x151 x152 x153 x154 x155 x156 x157 x158 x159 x160 x161 x162 x163 x164 x165 x166 x167 x168 x169 x170 x171 x172 x173 x174 x175 x176 x177 x178 x179 x180 x181 x182 x183 x184 x185 x186 x187 x188 x189 x190 x191 x192 x193 x194 x195 x196 x197 x198 x199 x200 x201 x202 x203 x204 x205 x206 x207 x208 x209 x210 x211 x212 x213 x214 x215 x216 x217 x218 x219 x220 x221 x222 x223 x224 x225 x226 x227 x228 x229 x230 x231 x232 x233 x234 x235 x236 x237 x238 x239 x240 x241 x242 x243 x244 x245 x246 x247 x248 x249 x250 x251 x252 x253 x254 x255 x256 x257 x258 x259 x260 x261 x262 x263 x264 x265 x266 x267 x268 x269 x270 x271 x272 x273 x274 x275 x276 x277 x278 x279 x280 x281 x282 x283 x284 x285 x286 x287 x288 x289 x290 x291 x292 x293 x294 x295 x296 x297 x298 x299 x300 x301 x302 x303 x304 x305 x306 x307 x308 x309 x310 x311 x312 x313 x314 x315 x316 x317 x318 x319 x320 x321 x322 x323 x324 x325 x326 x327 x328 x329 x330 x331 x332 x333 x334 x335 x336 x337 x338 x339 x340 x341 x342 x343 x344 x345 x346 x347 x348 x349 x350 x351 x352 x353 x354 x355 x356 x357 x358 x359 x360 x361 x362 x363 x364 x365 x366 x367 x368 x369 x370 x371 x372 x373 x374 x375 x376 x377 x378 x379 x380 x381 x382 x383 x384 x385 x386 x387 x388 x389 x390 x391 x392 x393 x394 x395 x396 : Value) :
    Code.wp Try.prog more_seven (bodyPost Try.prog Try.f11 (RetB true w)) { tmps := #[x0, x1, .int .u8 wh, .pointer (some ⟨w.heap.size, 0, none⟩), x4, x5, x6, .int .i64 (ws.length : Int), .int .i64 (c : Int), .pointer (some ⟨b9, 0, none⟩), .pointer (some ⟨b10, 0, none⟩), .pointer (some ⟨b11, 0, none⟩), .pointer (some ⟨b12, 0, none⟩), x13, x14, x15, x16, x17, x18, x19, x20, x21, x22, x23, x24, x25, x26, x27, x28, x29, x30, x31, x32, x33, x34, x35, x36, x37, x38, x39, x40, x41, x42, x43, x44, x45, x46, x47, x48, x49, x50, x51, x52, x53, x54, x55, x56, x57, x58, x59, x60, x61, x62, x63, x64, x65, x66, x67, x68, x69, x70, x71, x72, x73, x74, x75, x76, x77, x78, x79, x80, x81, x82, x83, x84, x85, x86, x87, x88, x89, x90, x91, x92, x93, x94, x95, x96, x97, x98, x99, x100, x101, x102, x103, x104, x105, x106, x107, x108, x109, x110, x111, x112, x113, x114, x115, x116, x117, x118, x119, x120, x121, x122, x123, x124, x125, x126, x127, x128, x129, x130, x131, x132, x133, x134, x135, x136, x137, x138, x139, x140, x141, x142, x143, x144, x145, x146, x147, x148, x149, x150, x151, x152, x153, x154, x155, x156, x157, x158, x159, x160, x161, x162, x163, x164, x165, x166, x167, x168, x169, x170, x171, x172, x173, x174, x175, x176, x177, x178, x179, x180, x181, x182, x183, x184, x185, x186, x187, x188, x189, x190, x191, x192, x193, x194, x195, x196, x197, x198, x199, x200, x201, x202, x203, x204, x205, x206, x207, x208, x209, x210, x211, x212, x213, x214, x215, x216, x217, x218, x219, x220, x221, x222, x223, x224, x225, x226, x227, x228, x229, x230, x231, x232, x233, x234, x235, x236, x237, x238, x239, x240, x241, x242, x243, x244, x245, x246, x247, x248, x249, x250, x251, x252, x253, x254, x255, x256, x257, x258, x259, x260, x261, x262, x263, x264, x265, x266, x267, x268, x269, x270, x271, x272, x273, x274, x275, x276, x277, x278, x279, x280, x281, x282, x283, x284, x285, x286, x287, x288, x289, x290, x291, x292, x293, x294, x295, x296, x297, x298, x299, x300, x301, x302, x303, x304, x305, x306, x307, x308, x309, x310, x311, x312, x313, x314, x315, x316, x317, x318, x319, x320, x321, x322, x323, x324, x325, x326, x327, x328, x329, x330, x331, x332, x333, x334, x335, x336, x337, x338, x339, x340, x341, x342, x343, x344, x345, x346, x347, x348, x349, x350, x351, x352, x353, x354, x355, x356, x357, x358, x359, x360, x361, x362, x363, x364, x365, x366, x367, x368, x369, x370, x371, x372, x373, x374, x375, x376, x377, x378, x379, x380, x381, x382, x383, x384, x385, x386, x387, x388, x389, x390, x391, x392, x393, x394, x395, x396], defers := [] } W2 := by
  conv => arg 2; whnf
  have HOK := Lib.hid hok
  have hll := Fr.len_in _ hok
  dsimp only at hll
  have OW := Lib.hid (more_wraps (wh := wh) hll.1 (Int.le_trans hll.2.1 hll.2.2.1) b0)
  have h256 : wh < 256 := by omega
  obtain ⟨hB, hX, hXI, hY, hZ, hT, hYR, hO2, hYA, k3, hI, hFR, hFW, m9, m9b, m9c, m10, m10c, m11, u10, u11, u12, v9, v10, v11, v12, hsz, hsz9, hsz11, hsz12, hs2, x11, x12, bx, ox, hxe, hxl⟩ := S
  have HB := Lib.hid hB
  have HX := Lib.hid hX
  have HXI := Lib.hid hXI
  have HY := Lib.hid hY
  have HZ := Lib.hid hZ
  have HT := Lib.hid hT
  have HYR := Lib.hid hYR
  have HO2 := Lib.hid hO2
  have HYA := Lib.hid hYA
  have HI := Lib.hid hI
  have HFR := Lib.hid hFR
  have AWA := Lib.hid (show ∀ n, w.heap.size ≤ n → ws ≠ [] → Away n wa from fun n hn _ b o e => Nat.ne_of_lt (Nat.lt_of_lt_of_le (hFW b o e) hn))
  have y0 := HY.out.c0
  have y1 := HY.out.c1
  have y2 := HY.out.c2
  have y3 := HY.out.c3
  have yl := HY.out.lt
  clear hok hll hB hX hXI hY hZ hT hYR hO2 hYA hI hFR hFW
  have hpos := List.length_pos_iff.2 hrs
  have e7 : decide (0 < rs.length) = true := by simpa using hpos
  obtain ⟨j, hj, hjl, hjn, hln, j1, j2, j3, j4⟩ := more_idx hpos b0
  obtain ⟨g, hya⟩ : ∃ g, ya = some ⟨g, 0, none⟩ := by
    rcases own_cases HO2.out with e | ⟨g, cap', e⟩
    · simp only [Value.slice.injEq] at e
      exact absurd (List.length_eq_zero_iff.1 e.2.1) hrs
    · simp only [Value.slice.injEq] at e
      exact ⟨g, e.1⟩
  subst hya
  have hgb := HYA.out g 0 rfl
  have hri := Fr.rd_in ⟨wa, kc, ws, lo, hi, ra, rc, rs⟩ HOK.out hjl
  obtain ⟨q0, q1, q2⟩ := rdCells_at rs j hjl
  have r0 := (HO2.out.cellAt (j * 3) j2).trans q0
  have r1 := (HO2.out.cellAt (j * 3 + 1) j3).trans q1
  have r2 := (HO2.out.cellAt (j * 3 + 2) j4).trans q2
  have rf := HO2.out.frozenAt (j * 3 + 2)
  have HSt := Lib.hid (fun v => HO2.out.stored (j * 3 + 2) v)
  dsimp only at hri
  obtain ⟨⟨rp, rq, rr⟩, hr⟩ : ∃ x, rs[j]?.getD (0, 0, 0) = x := ⟨_, rfl⟩
  rw [hr] at r0 r1 r2 hri
  dsimp only at r0 r1 r2 hri
  have w5 := more_hi hri.2.2
  have hlg := lt_of_cell r0
  have Hr := Lib.hid hr
  clear q0 q1 q2 hri hr j2 j3 j4
  go_wp2_with fail
  go_big_quiet (fail)
  go_wp2_with fail
  go_cut [103] (fun _ wx => ∃ n : Nat, wx = (W2.drewN n).setCell ⟨g, j * 3 + 1 + 1, none⟩ (.int .i64 (max rq (rr - 1))))
  case first =>
    go_region
    go_wp2
    go_meet
    exact ⟨_, rfl⟩
  case rest =>
    obtain ⟨nd, rfl⟩ := hcut
    clear r0 r1 r2 rf w5 hlg y0 y1 y2 y3 yl e7 hln j1 hj hjn
    have GD : W2.grownBy ((W2.drewN nd).setCell ⟨g, j * 3 + 1 + 1, none⟩ (.int .i64 (max rq (rr - 1)))) (some g) := by
      have h := Lib.grownBy_setCell (W2.drewN nd) g (j * 3 + 1 + 1) (.int .i64 (max rq (rr - 1)))
      exact ⟨h.os, h.tape, h.output, h.size, h.block⟩
    have OS : ((W2.drewN nd).setCell ⟨g, j * 3 + 1 + 1, none⟩ (.int .i64 (max rq (rr - 1)))).ownsRow n 41 3 (.slice (some ⟨g, 0, none⟩) rs.length yc) rs.length ((rdCells rs).set (j * 3 + 2) (.int .i64 (max rq (rr - 1)))) := (World.ownsRow.stored (show (W2.drewN nd).ownsRow n 41 3 _ _ _ from HO2.out) (j * 3 + 2) _).1
    rw [nar_cells Hr.out hjl] at OS
    obtain ⟨V, hV⟩ : ∃ V, (W2.drewN nd).setCell ⟨g, j * 3 + 1 + 1, none⟩ (.int .i64 (max rq (rr - 1))) = V := ⟨_, rfl⟩
    rw [hV] at GD OS ⊢
    clear hV
    obtain ⟨ya, yd, hys, hYR2, hYb⟩ := Rds.of_owns (l := rs.set j (nrw (rs[j]?.getD (0, 0, 0)))) (by rw [List.length_set]; exact OS)
    simp only [Value.slice.injEq] at hys
    obtain ⟨rfl, hys2, rfl⟩ := hys
    have lwg : w.heap.size < g := Nat.lt_of_lt_of_le (Nat.lt_of_le_of_lt v10 hsz) hgb
    have axg : Away g xa := fun b o e => by rw [hxe] at e; cases e; exact Nat.ne_of_lt (Nat.lt_of_lt_of_le hxl hgb)
    replace HB := Lib.hid (HB.out.grown GD (Nat.ne_of_lt lwg))
    replace HX := Lib.hid (HX.out.grown GD (Nat.ne_of_lt (Nat.lt_of_lt_of_le hsz9 hgb)))
    replace HXI := Lib.hid (HXI.out.grown GD (AWA.out g (Nat.le_of_lt lwg)) (fun _ => axg))
    replace HY := Lib.hid (HY.out.kept GD (by simpa using Nat.ne_of_lt (Nat.lt_of_lt_of_le hsz hgb)))
    replace HZ := Lib.hid (HZ.out.kept GD (by simpa using Nat.ne_of_lt (Nat.lt_of_lt_of_le hsz11 hgb)))
    replace HT := Lib.hid (HT.out.kept GD (by simpa using Nat.ne_of_lt (Nat.lt_of_lt_of_le hsz12 hgb)))
    replace k3 := k3.of_grown GD (Nat.le_of_lt lwg)
    have HYB := Lib.hid (show Fr.Box (Fr.nar ⟨wa, kc, ws, lo, hi, ra, rc, rs⟩ j (some ⟨g, 0, none⟩) yc) V b10 from ⟨HY.out.c0, HY.out.c1, HY.out.c2, by simpa [Fr.nar] using HY.out.c3⟩)
    have HYI := Lib.hid (show Fr.In (Fr.nar ⟨wa, kc, ws, lo, hi, ra, rc, rs⟩ j (some ⟨g, 0, none⟩) yc) V from ⟨HI.out.ints.keep k3, hYR2, HI.out.wl, by show (rs.set j _).length ≤ maxLen; rw [List.length_set]; exact HI.out.rl⟩)
    have YA := Lib.hid (show ∀ m, m < n → Away m (some ⟨g, 0, none⟩) from fun m hn b o e => Nat.ne_of_gt (Nat.lt_of_lt_of_le hn (HYA.out b o e)))
    clear hYR2 OS GD HYR HO2 HSt axg lwg hys2 hYb
    rename_i hK
    refine hK _ _ (wp_on (c' := more_from 10) (by kernel_rfl) ?_)
    exact more_10 wa kc ws lo hi ra rc rs p q r wh xa xc b9 b10 b11 b12 c j (some ⟨g, 0, none⟩) yc w V AL HOK.out hcl b0 b1 HB HX HXI HYB HYI (YA.out b11 hsz11) (YA.out b12 hsz12) HZ HT k3 HI HFR AWA m9b m9c m10 m10c m11 u11 u12 v11 v12 x11 x12 _ _ _ _ _ _ _ _ _ _ _ _ _ _ _ _ _ _ _ _ _ _ _ _ _ _ _ _ _ _ _ _ _ _ _ _ _ _ _ _ _ _ _ _ _ _ _ _ _ _ _ _ _ _ _ _ _ _ _ _ _ _ _ _ _ _ _ _ _ _ _ _ _ _ _ _ _ _ _ _ _ _ _ _ _ _ _ _ _ _ _ _ _ _ _ _ _ _ _ _ _ _ _ _ _ _ _ _ _ _ _ _ _ _ _ _ _ _ _ _ _ _ _ _ _ _ _ _ _ _ _ _ _ _ _ _ _ _ _ _ _ _ _ _ _ _ _ _ _ _ _ _ _ _ _ _ _ _ _ _ _ _ _ _ _ _ _ _ _ _ _ _ _ _ _ _ _ _ _ _ _ _ _ _ _ _ _ _ _ _ _ _ _ _ _ _ _ _ _ _ _ _ _ _ _ _ _ _ _ _ _ _ _ _ _ _ _ _ _ _ _ _ _ _ _ _ _ _ _ _ _ _ _ _ _ _ _ _ _ _ _ _ _ _ _ _ _ _ _ _ _ _ _ _ _ _ _ _ _ _ _ _ _ _ _ _ _ _ _ _ _ _ _ _ _ _ _ _ _ _ _ _ _ _ _ _ _ _ _ _ _ _ _ _ _ _ _ _ _ _ _ _ _ _ _ _ _ _ _ _ _ _ _ _ _ _ _ _ _ _ _ _ _ _ _ _ _ _ _ _ _ _ _ _ _ _ _ _ _ _ _ _ _ _ _ _ _ _ _ _ _ _ _ _ _ _ _ _ _ _ _ _ _ _ _ _ _ _ _ _ _ _ _ _ _ _ _ _ _ _ _ _ _ _ _ _ _ _ _
/-- After the four fringes have been made. -/
structure Five (wa : Option Addr) (kc : Nat) (ws : List Int) (lo hi : Int) (ra : Option Addr) (rc : Nat) (rs : List Rd) (p q r : Int) (xa : Option Addr) (xc b9 b10 b11 b12 bx ox : Nat) (w w1 : World) : Prop where
  HB : Fr.Box ⟨wa, kc, ws, lo, hi, ra, rc, rs⟩ w1 w.heap.size
  HX : Fr.Box ⟨wa, kc, ws, lo, hi, xa, xc, rs ++ [(p, q, r)]⟩ w1 b9
  HXI : Fr.In ⟨wa, kc, ws, lo, hi, xa, xc, rs ++ [(p, q, r)]⟩ w1
  HY : Four w1 b10 (.slice wa ws.length kc) (.int .i64 lo) (.int .i64 hi) (.slice ra rs.length rc)
  HZ : Four w1 b11 (.slice wa ws.length kc) (.int .i64 lo) (.int .i64 hi) (.slice ra rs.length rc)
  HT : Four w1 b12 (.slice wa ws.length kc) (.int .i64 lo) (.int .i64 hi) (.slice ra rs.length rc)
  k1 : Keeps w w1
  HI : Fr.In ⟨wa, kc, ws, lo, hi, ra, rc, rs⟩ w
  HFR : rs ≠ [] → ∀ b o, ra = some ⟨b, o, none⟩ → b < w.heap.size
  HFW : ∀ b o, wa = some ⟨b, o, none⟩ → b < w.heap.size
  m9 : b9 ≠ b10
  m9b : b9 ≠ b11
  m9c : b9 ≠ b12
  m10 : b10 ≠ b11
  m10c : b10 ≠ b12
  m11 : b11 ≠ b12
  u10 : w.heap.size ≠ b10
  u11 : w.heap.size ≠ b11
  u12 : w.heap.size ≠ b12
  v9 : w.heap.size ≤ b9
  v10 : w.heap.size ≤ b10
  v11 : w.heap.size ≤ b11
  v12 : w.heap.size ≤ b12
  hsz : b10 < w1.heap.size
  hsz9 : b9 < w1.heap.size
  hsz11 : b11 < w1.heap.size
  hsz12 : b12 < w1.heap.size
  x10 : Away b10 xa
  x11 : Away b11 xa
  x12 : Away b12 xa
  hxe : xa = some ⟨bx, ox, none⟩
  hxl : bx < w1.heap.size
set_option maxRecDepth 100000 in
set_option maxHeartbeats 40000000 in
theorem more_6 (wa : Option Addr) (kc : Nat) (ws : List Int) (lo hi : Int) (ra : Option Addr) (rc : Nat) (rs : List Rd) (p q r wh : Int) (xa : Option Addr) (xc b9 b10 b11 b12 c bx ox : Nat) (w w1 : World) (AL : Hid (∀ w, Calls Try.prog 13 #[] w (RetB true w)))
    (hok : Fr.ok ⟨wa, kc, ws, lo, hi, ra, rc, rs⟩ = true) (hcl : c < ws.length) (b0 : 0 ≤ wh) (b1 : wh ≤ 255) (S : Five wa kc ws lo hi ra rc rs p q r xa xc b9 b10 b11 b12 bx ox w w1)
    (x0 x1 x4 x5 x6 x13 x14 x15 x16 x17 x18 x19 x20 x21 x22 x23 x24 x25 x26 x27 x28 x29 x30 x31 x32 x33 x34 x35 x36 x37 x38 x39 x40 x41 x42 x43 x44 x45 x46 x47 x48 x49 x50 x51 x52 x53 x54 x55 x56 x57 x58 x59 x60 x61 x62 x63 x64 x65 x66 x67 x68 x69 x70 x71 x72 x73 x74 x75 x76 x77 x78 x79 x80 x81 x82 x83 x84 x85 x86 x87 x88 x89 x90 x91 x92 x93 x94 x95 x96 x97 x98 x99 x100 x101 x102 x103 x104 x105 x106 x107 x108 x109 x110 x111 x112 x113 x114 x115 x116 x117 x118 x119 x120 x121 x122 x123 x124 x125 x126 x127 x128 x129 x130 x131 x132 x133 x134 x135 x136 x137 x138 x139 x140 x141 x142 x143 x144 x145 x146 x147 x148 x149 x150 x151 x152 x153 x154 x155 x156 x157 x158 x159 x160 x161 x162 x163 x164 x165 x166 x167 x168 x169 x170 x171 x172 x173 x174 x175 x176 x177 x178 x179 x180 x181 x182 x183 x184 x185 x186 x187 x188 x189 x190 x191 x192 x193 x194 x195 x196 x197 x198 x199 x200 x201 x202 x203 x204 x205 x206 x207 x208 x209 x210 x211 x212 x213 x214 x215 x216 x217 x218 x219 x220 x221 x222 x223 x224 x225 x226 x227 x228 x229 x230 x231 x232 x233 x234 x235 x236 x237 x238 x239 x240 x241 x242 x243 x244 x245 x246 x247 x248 x249 x250 x251 x252 x253 x254 x255 x256 x257 x258 x259 x260 x261 x262 x263 x264 x265 x266 x267 x268 x269 x270 x271 x272 x273 x274 x275 x276 x277 x278 x279 x280 x281 x282 x283 x284 x285 x286 x287 x288 x289 x290 x291 x292 x293 x294 x295 x296 x297 x298 x299 x300 x301 x302 x303 x304 x305 x306 x307 x308 x309 x310 x311 x312 x313 x314 x315 x316 x317 x318 x319 x320 x321 x322 x323 x324 x325 x326 x327 x328 x329 x330 x331 x332 x333 x334 x335 x336 x337 x338 x339 x340 x341 x342 x343 x344 x345 x346 x347 x348 x349 x350 x351 x352 x353 x354 x355 x356 x357 x358 x359 x360 x361 x362 x363 x364 x365 x366 x367 x368 x369 x370 x371 x372 x373 x374 x375 x376 x377 x378 x379 x380 x381 x382 x383 x384 x385 x386 x387 x388 x389 x390 x391 x392 x393 x394 x395 x396 : Value) :
    Code.wp Try.prog (more_from 6) (bodyPost Try.prog Try.f11 (RetB true w)) { tmps := #[x0, x1, .int .u8 wh, .pointer (some ⟨w.heap.size, 0, none⟩), x4, x5, x6, .int .i64 (ws.length : Int), .int .i64 (c : Int), .pointer (some ⟨b9, 0, none⟩), .pointer (some ⟨b10, 0, none⟩), .pointer (some ⟨b11, 0, none⟩), .pointer (some ⟨b12, 0, none⟩), x13, x14, x15, x16, x17, x18, x19, x20, x21, x22, x23, x24, x25, x26, x27, x28, x29, x30, x31, x32, x33, x34, x35, x36, x37, x38, x39, x40, x41, x42, x43, x44, x45, x46, x47, x48, x49, x50, x51, x52, x53, x54, x55, x56, x57, x58, x59, x60, x61, x62, x63, x64, x65, x66, x67, x68, x69, x70, x71, x72, x73, x74, x75, x76, x77, x78, x79, x80, x81, x82, x83, x84, x85, x86, x87, x88, x89, x90, x91, x92, x93, x94, x95, x96, x97, x98, x99, x100, x101, x102, x103, x104, x105, x106, x107, x108, x109, x110, x111, x112, x113, x114, x115, x116, x117, x118, x119, x120, x121, x122, x123, x124, x125, x126, x127, x128, x129, x130, x131, x132, x133, x134, x135, x136, x137, x138, x139, x140, x141, x142, x143, x144, x145, x146, x147, x148, x149, x150, x151, x152, x153, x154, x155, x156, x157, x158, x159, x160, x161, x162, x163, x164, x165, x166, x167, x168, x169, x170, x171, x172, x173, x174, x175, x176, x177, x178, x179, x180, x181, x182, x183, x184, x185, x186, x187, x188, x189, x190, x191, x192, x193, x194, x195, x196, x197, x198, x199, x200, x201, x202, x203, x204, x205, x206, x207, x208, x209, x210, x211, x212, x213, x214, x215, x216, x217, x218, x219, x220, x221, x222, x223, x224, x225, x226, x227, x228, x229, x230, x231, x232, x233, x234, x235, x236, x237, x238, x239, x240, x241, x242, x243, x244, x245, x246, x247, x248, x249, x250, x251, x252, x253, x254, x255, x256, x257, x258, x259, x260, x261, x262, x263, x264, x265, x266, x267, x268, x269, x270, x271, x272, x273, x274, x275, x276, x277, x278, x279, x280, x281, x282, x283, x284, x285, x286, x287, x288, x289, x290, x291, x292, x293, x294, x295, x296, x297, x298, x299, x300, x301, x302, x303, x304, x305, x306, x307, x308, x309, x310, x311, x312, x313, x314, x315, x316, x317, x318, x319, x320, x321, x322, x323, x324, x325, x326, x327, x328, x329, x330, x331, x332, x333, x334, x335, x336, x337, x338, x339, x340, x341, x342, x343, x344, x345, x346, x347, x348, x349, x350, x351, x352, x353, x354, x355, x356, x357, x358, x359, x360, x361, x362, x363, x364, x365, x366, x367, x368, x369, x370, x371, x372, x373, x374, x375, x376, x377, x378, x379, x380, x381, x382, x383, x384, x385, x386, x387, x388, x389, x390, x391, x392, x393, x394, x395, x396], defers := [] } w1 := by
  conv => arg 2; whnf
  try dsimp only
  have HOK := Lib.hid hok
  have hrl := Fr.rl_in _ hok
  dsimp only at hrl
  obtain ⟨hB, hX, hXI, hY, hZ, hT, k1, hI, hFR, hFW, m9, m9b, m9c, m10, m10c, m11, u10, u11, u12, v9, v10, v11, v12, hsz, hsz9, hsz11, hsz12, x10, x11, x12, hxe, hxl⟩ := S
  have HB := Lib.hid hB
  have HX := Lib.hid hX
  have HXI := Lib.hid hXI
  have HY := Lib.hid hY
  have HZ := Lib.hid hZ
  have HT := Lib.hid hT
  have HI := Lib.hid hI
  have HFR := Lib.hid hFR
  have HFW := Lib.hid hFW
  have g0 := HB.out.c0
  have g1 := HB.out.c1
  have g2 := HB.out.c2
  have g3 := HB.out.c3
  dsimp only at g0 g1 g2 g3
  have gl := lt_of_cell g0
  have AQ := Lib.hid (append_reads (w1.alloc (.cells #[] 41)) w1.heap.size 25 (.slice (some ⟨w1.heap.size, 0, none⟩) 0 0) 0 [] (World.ownsRow_made (base := w1.heap.size) (e := 41) (size := 3) w1 #[] 0 (Nat.le_refl _) (Nat.zero_le _) rfl) ra rc rs ((HI.out.rds.keep k1).keep ((Keeps.refl _).alloc _)) (by omega) (by simp))
  clear hok hB hX hXI hY hZ hT hI hFR hFW
  go_upto_region 6 with fail
  go_cut [75] (fun _ wx => ∃ ya yc, Six wa kc ws lo hi ra rc rs p q r xa xc b9 b10 b11 b12 w1.heap.size ya yc w wx)
  case first =>
    go_wp2_with (at_builtin; refine wpList_step ?_; intro K hK6; refine step_append_run (by rfl) (.tmp 72) (.tmp 74) 25 (by rfl) (.slice (some ⟨w1.heap.size, 0, none⟩) 0 0) (.slice ra rs.length rc) (by simp [Act.eval]) (by simp [Act.eval]) _ AQ.out ?_; rintro v2 w2 hgr; have k2 : Keeps w1 w2 := Below.grown ((Keeps.refl w1).alloc (.cells #[] 41)) hgr.2 (by simp) (fun j e => by simp [Value.ownBlock] at e; omega); have ho2 : w2.ownsRow w1.heap.size 41 3 v2 rs.length (rdCells rs) := (by simpa using hgr.1); obtain ⟨ya, yc, rfl, hYR, hya⟩ := Rds.of_owns ho2; have HYR := Lib.hid hYR; have HYA := Lib.hid hya; have HO2 := Lib.hid ho2; have hY2 := HY.out.keep k2; have s0 := hY2.c3; have s1 := hY2.fr 3; have s2 := hY2.lt; clear hYR hya ho2 hgr hY2 AQ; refine hK6 _ _ ?_)
    obtain ⟨W2, hW2⟩ : ∃ W2 : World, w2.setCell ⟨b10, 3, none⟩ (.slice ya rs.length yc) = W2 := ⟨_, rfl⟩
    have GX : w1.grownBy W2 (some b10) := hW2 ▸ grown_set (grown_keeps (grown_refl w1 b10) k2) 3 _
    have GY : w2.grownBy W2 (some b10) := hW2 ▸ Lib.grownBy_setCell w2 b10 3 _
    have aya : Away b10 ya := fun b o e => Nat.ne_of_gt (Nat.lt_of_lt_of_le hsz (HYA.out b o e))
    have awa : ∀ n, w.heap.size ≤ n → ws ≠ [] → Away n wa := fun n hn _ b o e => Nat.ne_of_lt (Nat.lt_of_lt_of_le (HFW.out b o e) hn)
    have AWA := Lib.hid awa
    replace HYR := Lib.hid (HYR.out.grown GY (fun _ => aya))
    replace HO2 := Lib.hid (show W2.ownsRow w1.heap.size 41 3 (.slice ya rs.length yc) rs.length (rdCells rs) from hW2 ▸ ownsRow_setCell_below HO2.out (by show b10 < w1.heap.size; exact hsz) _)
    replace HY := Lib.hid (show Four W2 b10 (.slice wa ws.length kc) (.int .i64 lo) (.int .i64 hi) (.slice ya rs.length yc) from hW2 ▸ (HY.out.keep k2).set3 _)
    replace HB := Lib.hid (HB.out.grown GX u10)
    replace HX := Lib.hid (HX.out.grown GX m9)
    replace HXI := Lib.hid (HXI.out.grown GX (awa b10 v10) (fun _ => x10))
    replace HZ := Lib.hid (HZ.out.kept GX (by simpa using fun e : b11 = b10 => m10 e.symm))
    replace HT := Lib.hid (HT.out.kept GX (by simpa using fun e : b12 = b10 => m10c e.symm))
    have k3 := k1.of_grown GX v10
    have hs2 := GX.size
    rw [hW2]
    go_meet
    exact ⟨_, _, HB.out, HX.out, HXI.out, HY.out, HZ.out, HT.out, HYR.out, HO2.out, HYA.out, k3, HI.out, HFR.out, HFW.out, m9, m9b, m9c, m10, m10c, m11, u10, u11, u12, v9, v10, v11, v12, hsz, hsz9, hsz11, hsz12, hs2, x11, x12, bx, ox, hxe, hxl⟩
  case rest =>
    obtain ⟨ya, yc, S⟩ := hcut
    rename_i hK
    refine hK _ _ (wp_on (c' := more_seven) (by kernel_rfl) ?_)
    by_cases hrs : rs = []
    · subst hrs
      exact more_7a wa kc ws lo hi ra rc p q r wh xa xc b9 b10 b11 b12 c w1.heap.size ya yc w _ AL HOK.out hcl b0 b1 S _ _ _ _ _ _ _ _ _ _ _ _ _ _ _ _ _ _ _ _ _ _ _ _ _ _ _ _ _ _ _ _ _ _ _ _ _ _ _ _ _ _ _ _ _ _ _ _ _ _ _ _ _ _ _ _ _ _ _ _ _ _ _ _ _ _ _ _ _ _ _ _ _ _ _ _ _ _ _ _ _ _ _ _ _ _ _ _ _ _ _ _ _ _ _ _ _ _ _ _ _ _ _ _ _ _ _ _ _ _ _ _ _ _ _ _ _ _ _ _ _ _ _ _ _ _ _ _ _ _ _ _ _ _ _ _ _ _ _ _ _ _ _ _ _ _ _ _ _ _ _ _ _ _ _ _ _ _ _ _ _ _ _ _ _ _ _ _ _ _ _ _ _ _ _ _ _ _ _ _ _ _ _ _ _ _ _ _ _ _ _ _ _ _ _ _ _ _ _ _ _ _ _ _ _ _ _ _ _ _ _ _ _ _ _ _ _ _ _ _ _ _ _ _ _ _ _ _ _ _ _ _ _ _ _ _ _ _ _ _ _ _ _ _ _ _ _ _ _ _ _ _ _ _ _ _ _ _ _ _ _ _ _ _ _ _ _ _ _ _ _ _ _ _ _ _ _ _ _ _ _ _ _ _ _ _ _ _ _ _ _ _ _ _ _ _ _ _ _ _ _ _ _ _ _ _ _ _ _ _ _ _ _ _ _ _ _ _ _ _ _ _ _ _ _ _ _ _ _ _ _ _ _ _ _ _ _ _ _ _ _ _ _ _ _ _ _ _ _ _ _ _ _ _ _ _ _ _ _ _ _ _ _ _ _ _ _ _ _ _ _ _ _ _ _ _ _ _ _ _ _ _ _ _ _ _ _ _ _
    · exact more_7b wa kc ws lo hi ra rc rs p q r wh xa xc b9 b10 b11 b12 c w1.heap.size ya yc w _ AL HOK.out hcl b0 b1 S hrs _ _ _ _ _ _ _ _ _ _ _ _ _ _ _ _ _ _ _ _ _ _ _ _ _ _ _ _ _ _ _ _ _ _ _ _ _ _ _ _ _ _ _ _ _ _ _ _ _ _ _ _ _ _ _ _ _ _ _ _ _ _ _ _ _ _ _ _ _ _ _ _ _ _ _ _ _ _ _ _ _ _ _ _ _ _ _ _ _ _ _ _ _ _ _ _ _ _ _ _ _ _ _ _ _ _ _ _ _ _ _ _ _ _ _ _ _ _ _ _ _ _ _ _ _ _ _ _ _ _ _ _ _ _ _ _ _ _ _ _ _ _ _ _ _ _ _ _ _ _ _ _ _ _ _ _ _ _ _ _ _ _ _ _ _ _ _ _ _ _ _ _ _ _ _ _ _ _ _ _ _ _ _ _ _ _ _ _ _ _ _ _ _ _ _ _ _ _ _ _ _ _ _ _ _ _ _ _ _ _ _ _ _ _ _ _ _ _ _ _ _ _ _ _ _ _ _ _ _ _ _ _ _ _ _ _ _ _ _ _ _ _ _ _ _ _ _ _ _ _ _ _ _ _ _ _ _ _ _ _ _ _ _ _ _ _ _ _ _ _ _ _ _ _ _ _ _ _ _ _ _ _ _ _ _ _ _ _ _ _ _ _ _ _ _ _ _ _ _ _ _ _ _ _ _ _ _ _ _ _ _ _ _ _ _ _ _ _ _ _ _ _ _ _ _ _ _ _ _ _ _ _ _ _ _ _ _ _ _ _ _ _ _ _ _ _ _ _ _ _ _ _ _ _ _ _ _ _ _ _ _ _ _ _ _ _ _ _ _ _ _ _ _ _ _ _ _ _ _ _ _ _ _ _ _ _ _ _ _
set_option maxRecDepth 100000 in
set_option maxHeartbeats 40000000 in
theorem more_right (F : Fr) (p q r wh : Int) (w : World) (hI : F.In w) (hok : F.ok = true) (b0 : 0 ≤ wh) (b1 : wh ≤ 255) : Calls Try.prog 11 #[F.v, .agg #[.int .i64 p, .int .i64 q, .int .i64 r], .int .u8 wh] w (RetB true w) := by
  have AL := Lib.hid alive_any
  have LG := Lib.hid (fun w1 => long_any F w1 hI.wl hI.rl)
  have RF := Lib.hid (fun w1 (k : Keeps w w1) => refFringe_any F w1 (hI.keep k))
  rw [F.short hok] at LG
  rw [hok] at RF
  obtain ⟨hw1, hw4⟩ := F.wl_in hok
  have hrl := F.rl_in hok
  have hll := F.len_in hok
  have OW := Lib.hid (more_wraps (wh := wh) hll.1 (Int.le_trans hll.2.1 hll.2.2.1) b0)
  clear hll
  obtain ⟨c, hc⟩ : ∃ c : Nat, wh % (F.ws.length : Int) = c := Int.eq_ofNat_of_zero_le (Int.emod_nonneg _ (by omega))
  have hcl : c < F.ws.length := by have := Int.emod_lt_of_pos wh (show (0 : Int) < F.ws.length by omega); omega
  have HOK := Lib.hid hok
  have HI := Lib.hid hI
  have HFR := Lib.hid (show F.rs ≠ [] → ∀ b o, F.ra = some ⟨b, o, none⟩ → b < w.heap.size from fun hne b o e => by
    obtain ⟨b', o', e', h⟩ := hI.rds hne
    rw [e] at e'
    cases e'
    exact lt_of_cell (h 0 (List.length_pos_iff.2 hne)).1)
  have HFW := Lib.hid (show ∀ b o, F.wa = some ⟨b, o, none⟩ → b < w.heap.size from fun b o e => by
    obtain ⟨b', o', e', h⟩ := hI.ints (by intro e; rw [e] at hw1; simp at hw1)
    rw [e] at e'
    cases e'
    exact lt_of_cell (h 0 (by omega)))
  obtain ⟨wa, kc, ws, lo, hi, ra, rc, rs⟩ := F
  dsimp only [Fr.v] at *
  have hne : ¬ ((ws.length : Int) = 0) := by omega
  have h256 : wh < 256 := by omega
  clear hI hok
  go_enter Try.func11, Try.ntmps11
  go_wp2_with fail
  have k := ((Keeps.refl w).alloc (.cells #[.slice wa ws.length kc, .int .i64 lo, .int .i64 hi, .slice ra rs.length rc] 27)).alloc (.cells #[.int .i64 p, .int .i64 q, .int .i64 r] 41)
  have hB := (Fr.Box.new ⟨wa, kc, ws, lo, hi, ra, rc, rs⟩ w).keep ((Keeps.refl _).alloc (.cells #[.int .i64 p, .int .i64 q, .int .i64 r] 41))
  have d0 : ((w.alloc (.cells #[.slice wa ws.length kc, .int .i64 lo, .int .i64 hi, .slice ra rs.length rc] 27)).alloc (.cells #[.int .i64 p, .int .i64 q, .int .i64 r] 41)).cell? ⟨w.heap.size + 1, 0, none⟩ = some (.int .i64 p) := by simp [go_sem]
  have d1 : ((w.alloc (.cells #[.slice wa ws.length kc, .int .i64 lo, .int .i64 hi, .slice ra rs.length rc] 27)).alloc (.cells #[.int .i64 p, .int .i64 q, .int .i64 r] 41)).cell? ⟨w.heap.size + 1, 1, none⟩ = some (.int .i64 q) := by simp [go_sem]
  have d2 : ((w.alloc (.cells #[.slice wa ws.length kc, .int .i64 lo, .int .i64 hi, .slice ra rs.length rc] 27)).alloc (.cells #[.int .i64 p, .int .i64 q, .int .i64 r] 41)).cell? ⟨w.heap.size + 1, 2, none⟩ = some (.int .i64 r) := by simp [go_sem]
  refine (LG.out _).mono ?_
  rintro e w1 ⟨rfl, k1⟩
  have HB := Lib.hid (hB.keep k1)
  replace d0 := k1.cell d0
  replace d1 := k1.cell d1
  replace d2 := k1.cell d2
  replace k := k.trans k1
  have g0 := HB.out.c0
  have g1 := HB.out.c1
  have g2 := HB.out.c2
  have g3 := HB.out.c3
  dsimp only at g0 g1 g2 g3
  have gl := lt_of_cell g0
  clear k1 hB LG
  go_wp2_with fail
  refine (RF.out _ k).mono ?_
  rintro e w0 ⟨rfl, k1⟩
  replace HB := Lib.hid (HB.out.keep k1)
  replace d0 := k1.cell d0
  replace d1 := k1.cell d1
  replace d2 := k1.cell d2
  replace k := k.trans k1
  replace g0 := HB.out.c0
  replace g1 := HB.out.c1
  replace g2 := HB.out.c2
  replace g3 := HB.out.c3
  dsimp only at g0 g1 g2 g3
  replace gl := lt_of_cell g0
  clear k1 RF
  go_upto_region 5 with fail
  rw [hc]
  rename_i hK
  refine wp_on (c' := .region 5 more5 true) (by kernel_rfl) ?_
  refine more_5 wa kc ws lo hi ra rc rs p q r w.heap.size (w.heap.size + 1) w0 HB.out (HI.out.keep k) hrl d0 d1 d2 _ _ _ _ _ _ _ _ _ _ _ _ _ _ _ _ _ _ _ _ _ _ _ _ _ _ _ _ _ _ _ _ _ _ _ _ _ _ _ _ _ _ _ _ _ _ _ _ _ _ _ _ _ _ _ _ _ _ _ _ _ _ _ _ _ _ _ _ _ _ _ _ _ _ _ _ _ _ _ _ _ _ _ _ _ _ _ _ _ _ _ _ _ _ _ _ _ _ _ _ _ _ _ _ _ _ _ _ _ _ _ _ _ _ _ _ _ _ _ _ _ _ _ _ _ _ _ _ _ _ _ _ _ _ _ _ _ _ _ _ _ _ _ _ _ _ _ _ _ _ _ _ _ _ _ _ _ _ _ _ _ _ _ _ _ _ _ _ _ _ _ _ _ _ _ _ _ _ _ _ _ _ _ _ _ _ _ _ _ _ _ _ _ _ _ _ _ _ _ _ _ _ _ _ _ _ _ _ _ _ _ _ _ _ _ _ _ _ _ _ _ _ _ _ _ _ _ _ _ _ _ _ _ _ _ _ _ _ _ _ _ _ _ _ _ _ _ _ _ _ _ _ _ _ _ _ _ _ _ _ _ _ _ _ _ _ _ _ _ _ _ _ _ _ _ _ _ _ _ _ _ _ _ _ _ _ _ _ _ _ _ _ _ _ _ _ _ _ _ _ _ _ _ _ _ _ _ _ _ _ _ _ _ _ _ _ _ _ _ _ _ _ _ _ _ _ _ _ _ _ _ _ _ _ _ _ _ _ _ _ _ _ _ _ _ _ _ _ _ _ _ _ _ _ _ _ _ _ _ _ _ _ _ _ _ _ _ _ _ _ _ _ _ _ _ _ _ _ _ _ _ _ _ _ _ _ _ _ _ _ _ _ _ _ _ _ (Lib.hid fun w1 s9 s10 s11 s12 s66 s67 s68 s69 s70 s71 b9 b10 b11 b12 xa xc h => ?_)
  refine hK _ _ (wp_on (c' := more_from 6) (by kernel_rfl) ?_)
  clear hK
  obtain ⟨rfl, p9, _, _, hF9, x9⟩ := h.h6 rfl
  replace hF9 := hF9 rfl
  obtain ⟨rfl, p10, _, _, hF10, x10⟩ := h.h7 rfl
  replace hF10 := hF10 rfl
  obtain ⟨rfl, p11, _, _, hF11, x11⟩ := h.h8 rfl
  replace hF11 := hF11 rfl
  obtain ⟨rfl, p12, _, _, hF12, x12⟩ := h.h9 rfl
  replace hF12 := hF12 rfl
  obtain ⟨_, hXI, _, bx, ox, hxe, hxl⟩ := h.h2 rfl
  replace x9 := x9 rfl
  replace x10 := x10 rfl
  replace x11 := x11 rfl
  replace x12 := x12 rfl
  have m9 := h.n67 rfl rfl
  have m9b := h.n68 rfl rfl
  have m9c := h.n69 rfl rfl
  have m10 := h.n78 rfl rfl
  have m10c := h.n79 rfl rfl
  have m11 := h.n89 rfl rfl
  have hwz := k.size
  have hbz := lt_of_cell HB.out.c0
  obtain ⟨⟨u10, u11, u12⟩, v9, v10, v11, v12⟩ := more_nums hbz p9 p10 p11 p12
  have k1 := k.trans h.k
  replace HB := Lib.hid (HB.out.keep h.k)
  have HX := Lib.hid (show Fr.Box ⟨wa, kc, ws, lo, hi, xa, xc, rs ++ [(p, q, r)]⟩ w1 b9 from ⟨hF9.c0, hF9.c1, hF9.c2, by simpa using hF9.c3⟩)
  have HXI := Lib.hid hXI
  have HY := Lib.hid hF10
  have HZ := Lib.hid hF11
  have HT := Lib.hid hF12
  have hsz := hF10.lt
  have hsz11 := hF11.lt
  have hsz12 := hF12.lt
  have hsz9 := hF9.lt
  replace g0 := HB.out.c0
  replace g1 := HB.out.c1
  replace g2 := HB.out.c2
  replace g3 := HB.out.c3
  dsimp only at g0 g1 g2 g3
  replace gl := lt_of_cell g0
  clear h hF9 hF10 hF11 hF12 hXI d0 d1 d2 k hc p9 p10 p11 p12 hwz hbz g0 g1 g2 g3 gl
  exact more_6 wa kc ws lo hi ra rc rs p q r wh xa xc b9 b10 b11 b12 c bx ox w w1 AL HOK.out hcl b0 b1 ⟨HB.out, HX.out, HXI.out, HY.out, HZ.out, HT.out, k1, HI.out, HFR.out, HFW.out, m9, m9b, m9c, m10, m10c, m11, u10, u11, u12, v9, v10, v11, v12, hsz, hsz9, hsz11, hsz12, x10, x11, x12, hxe, hxl⟩ _ _ _ _ _ _ _ _ _ _ _ _ _ _ _ _ _ _ _ _ _ _ _ _ _ _ _ _ _ _ _ _ _ _ _ _ _ _ _ _ _ _ _ _ _ _ _ _ _ _ _ _ _ _ _ _ _ _ _ _ _ _ _ _ _ _ _ _ _ _ _ _ _ _ _ _ _ _ _ _ _ _ _ _ _ _ _ _ _ _ _ _ _ _ _ _ _ _ _ _ _ _ _ _ _ _ _ _ _ _ _ _ _ _ _ _ _ _ _ _ _ _ _ _ _ _ _ _ _ _ _ _ _ _ _ _ _ _ _ _ _ _ _ _ _ _ _ _ _ _ _ _ _ _ _ _ _ _ _ _ _ _ _ _ _ _ _ _ _ _ _ _ _ _ _ _ _ _ _ _ _ _ _ _ _ _ _ _ _ _ _ _ _ _ _ _ _ _ _ _ _ _ _ _ _ _ _ _ _ _ _ _ _ _ _ _ _ _ _ _ _ _ _ _ _ _ _ _ _ _ _ _ _ _ _ _ _ _ _ _ _ _ _ _ _ _ _ _ _ _ _ _ _ _ _ _ _ _ _ _ _ _ _ _ _ _ _ _ _ _ _ _ _ _ _ _ _ _ _ _ _ _ _ _ _ _ _ _ _ _ _ _ _ _ _ _ _ _ _ _ _ _ _ _ _ _ _ _ _ _ _ _ _ _ _ _ _ _ _ _ _ _ _ _ _ _ _ _ _ _ _ _ _ _ _ _ _ _ _ _ _ _ _ _ _ _ _ _ _ _ _ _ _ _ _ _ _ _ _ _ _ _ _ _ _ _ _ _ _ _ _ _ _ _ _ _ _ _ _ _ _ _ _ _ _ _ _ _ _
end Go.Proofs.Ytoidnbpbeblokaa
