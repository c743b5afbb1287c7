/-
  WarmPairs walked: its loops, of a block with readings.
-/
import Derived.Test.YtdfiebfgmpdceaaPA
import Derived.Deep.DeepCutAuto
import Derived.OwnWalkIn
namespace Go.Proofs.Ytdfiebfgmpdceaa
open Go.RowKit

set_option maxRecDepth 100000 in
set_option maxHeartbeats 40000000 in
theorem pairs_17y (mark llo lhi clo chi : Int) (rb ro : Nat) (rc : Nat) (rs : List Wr) (b0 N num : Nat) (rp rq ry rz : Int) (wh : Int) (w wL : World)
    (hok : Wm.ok ⟨mark, llo, lhi, clo, chi, (some ⟨rb, ro, none⟩), rc, rs⟩ = true) (hI : Wm.In ⟨mark, llo, lhi, clo, chi, (some ⟨rb, ro, none⟩), rc, rs⟩ w) (kk : Keeps w wL) (hB : Wm.Box ⟨mark, llo, lhi, clo, chi, (some ⟨rb, ro, none⟩), rc, rs⟩ wL b0) (hN : N = (Wm.truths ⟨mark, llo, lhi, clo, chi, (some ⟨rb, ro, none⟩), rc, rs⟩).length) (hn : num < rs.length) (hrr : rs[num]?.getD (0, 0, 0, 0) = (rp, rq, ry, rz)) (hnum : wh % (rs.length : Int) = (num : Int)) (w0 : 0 ≤ wh) (w1 : wh ≤ 255) 
    (x0 x3 x6 x7 x8 x9 x10 x11 x12 x13 x14 x15 x16 x17 x18 x19 x20 x26 x27 x28 x29 x30 x31 x32 x33 x34 x35 x36 x37 x38 x39 x40 x41 x42 x43 x44 x45 x46 x47 x48 x49 x50 x51 x52 x53 x54 x55 x56 x57 x58 x59 x60 x61 x62 x63 x64 x65 x66 x67 x68 x69 x70 x71 x72 x73 x74 x75 x76 x77 x78 x79 x80 x81 x82 x83 x84 x85 x86 x87 x88 x89 x90 x91 x92 x93 x94 x95 x96 x97 x98 x99 x100 x101 x102 x103 x104 x105 x106 x107 x108 x109 x110 x111 x112 x113 x114 x115 x116 x117 x118 x119 x120 x121 x122 x123 x124 x125 x126 x127 x128 x129 x130 x131 x132 x133 x134 x135 x136 x137 x138 x139 x140 x141 x142 x143 x144 x145 x146 x147 x148 x149 x150 x151 x152 x153 x154 x155 x156 x157 x158 x159 x160 x161 x162 x163 x164 x165 x166 x167 x168 x169 x170 x171 x172 x173 x174 x175 x176 x177 x178 x179 x180 x181 x182 x183 x184 x185 x186 x187 x188 x189 x190 x191 x192 x193 x194 x195 x196 x197 x198 x199 x200 x201 x202 x203 x204 x205 x206 x207 x208 x209 x210 x211 x212 x213 x214 x215 x216 x217 x218 x219 x220 x221 x222 x223 x224 x225 x226 x227 x228 x229 x230 x231 x232 x233 x234 x235 x236 x237 x238 x239 x240 x241 x242 x243 x244 x245 x246 x247 x248 x249 x250 x251 x252 x253 x254 x255 x256 x257 x258 x259 x260 x261 x262 x263 x264 x265 x266 x267 x268 x269 x270 x271 x272 x273 x274 x275 x276 x277 x278 x279 x280 x281 x282 x283 x284 x285 x286 x287 x288 x289 x290 x291 x292 x293 x294 x295 x296 x297 x298 x299 x300 x301 x302 x303 x304 x305 x306 x307 x308 x309 x310 x311 x312 x313 x314 x315 x316 x317 x318 x319 x320 x321 x322 x323 x324 x325 x326 : Value) :
    Code.wp Try.prog (pairs_two 17) (bodyPost Try.prog Try.f7 (RetB true w)) { tmps := #[x0, .int .u8 wh, .pointer (some ⟨b0, 0, none⟩), x3, .bool false, .int .i64 (N : Int), x6, x7, x8, x9, x10, x11, x12, x13, x14, x15, x16, x17, x18, x19, x20, .int .i64 0, .slice none 0 0, .slice none 0 0, .slice none 0 0, .int .i64 0, x26, x27, x28, x29, x30, x31, x32, x33, x34, x35, x36, x37, x38, x39, x40, x41, x42, x43, x44, x45, x46, x47, x48, x49, x50, x51, x52, x53, x54, x55, x56, x57, x58, x59, x60, x61, x62, x63, x64, x65, x66, x67, x68, x69, x70, x71, x72, x73, x74, x75, x76, x77, x78, x79, x80, x81, x82, x83, x84, x85, x86, x87, x88, x89, x90, x91, x92, x93, x94, x95, x96, x97, x98, x99, x100, x101, x102, x103, x104, x105, x106, x107, x108, x109, x110, x111, x112, x113, x114, x115, x116, x117, x118, x119, x120, x121, x122, x123, x124, x125, x126, x127, x128, x129, x130, x131, x132, x133, x134, x135, x136, x137, x138, x139, x140, x141, x142, x143, x144, x145, x146, x147, x148, x149, x150, x151, x152, x153, x154, x155, x156, x157, x158, x159, x160, x161, x162, x163, x164, x165, x166, x167, x168, x169, x170, x171, x172, x173, x174, x175, x176, x177, x178, x179, x180, x181, x182, x183, x184, x185, x186, x187, x188, x189, x190, x191, x192, x193, x194, x195, x196, x197, x198, x199, x200, x201, x202, x203, x204, x205, x206, x207, x208, x209, x210, x211, x212, x213, x214, x215, x216, x217, x218, x219, x220, x221, x222, x223, x224, x225, x226, x227, x228, x229, x230, x231, x232, x233, x234, x235, x236, x237, x238, x239, x240, x241, x242, x243, x244, x245, x246, x247, x248, x249, x250, x251, x252, x253, x254, x255, x256, x257, x258, x259, x260, x261, x262, x263, x264, x265, x266, x267, x268, x269, x270, x271, x272, x273, x274, x275, x276, x277, x278, x279, x280, x281, x282, x283, x284, x285, x286, x287, x288, x289, x290, x291, x292, x293, x294, x295, x296, x297, x298, x299, x300, x301, x302, x303, x304, x305, x306, x307, x308, x309, x310, x311, x312, x313, x314, x315, x316, x317, x318, x319, x320, x321, x322, x323, x324, x325, x326], defers := [] } wL := by
  conv => arg 2; whnf
  have hmx : Try.prog.follows .mixedOrders = true := by kernel_rfl
  obtain ⟨m1, m2, l1, l2, l3, l4, c1, c2, c3, c4⟩ := Wm.ok_lim hok
  dsimp only at m1 m2 l1 l2 l3 l4 c1 c2 c3 c4
  obtain ⟨i0, hi0, hz0, hz1, hz2⟩ := info_parts info_int
  have HXC := Lib.hid (fun a b ha hb => xB_count (B := ⟨mark, llo, lhi, clo, chi, (some ⟨rb, ro, none⟩), rc, rs⟩) hok (a := a) (b := b) ha hb)
  have HCN := Lib.hid (fun a b w1 (k : Keeps w w1) => Count_any (xB ⟨mark, llo, lhi, clo, chi, (some ⟨rb, ro, none⟩), rc, rs⟩ a b) w1 ⟨(hI.keep k).rds, (hI.keep k).rl⟩)
  have HEX := Lib.hid (fun a b w1 => exact_any ⟨mark, llo, lhi, clo, chi, (some ⟨rb, ro, none⟩), rc, rs⟩ a b w1)
  have HLE := Lib.hid (fun r a b m L1 L2 L3 (h : PA ⟨mark, llo, lhi, clo, chi, (some ⟨rb, ro, none⟩), rc, rs⟩ r a b m L1 L2 L3) => PA.le hok h)
  have HRO := Lib.hid (fun r a b m L1 L2 L3 (h : PA ⟨mark, llo, lhi, clo, chi, (some ⟨rb, ro, none⟩), rc, rs⟩ r a b m L1 L2 L3) hb => PA.row hok h hb)
  have HSTO := Lib.hid (fun r a b m L1 L2 L3 (h : PA ⟨mark, llo, lhi, clo, chi, (some ⟨rb, ro, none⟩), rc, rs⟩ r a b m L1 L2 L3) ha => PA.stop hok h ha)
  have HPS := Lib.hid (PA.start hok (rp, rq, ry, rz))
  have HOK := Lib.hid hok
  have HI := Lib.hid hI
  have HN := Lib.hid hN
  have hrw := (vWrs_at (Wm.ok_reads hok)).2
  have hrl := (vWrs_at (Wm.ok_reads hok)).1
  dsimp only at hrl hrw
  have hrr2 : rs[num]? = some (rp, rq, ry, rz) := by rw [List.getElem?_eq_getElem hn] at hrr ⊢; exact congrArg some hrr
  obtain ⟨⟨v1, v2, v3⟩, v4, v5, v6, v7⟩ := vWr_facts (hrw (rp, rq, ry, rz) (List.mem_of_getElem? hrr2))
  dsimp only at v1 v2 v3 v4 v5 v6 v7
  have hne : rs ≠ [] := fun e => by rw [e] at hn; cases hn
  obtain ⟨b', o', e', hcs⟩ := (hI.rds.keep kk) hne
  cases e'
  have hcn := hcs num hn
  dsimp only at hcn
  rw [hrr] at hcn
  obtain ⟨rc0, rc1, rc2, rc3⟩ := hcn
  dsimp only at rc0 rc1 rc2 rc3
  have HHN := Lib.hid hn
  have hnum2 : wh.tmod (rs.length : Int) = (num : Int) := by rw [Int.tmod_eq_emod_of_nonneg w0]; exact hnum
  have hww : wrap64 wh = wh := by unfold wrap64; omega
  have HRR := Lib.hid hrr
  have IN := Lib.hid (fun n lo hi w1 => inside_any n lo hi w1)
  have SW := Lib.hid (fun x y t w1 => lawShows_any mark x y t w1)
  have hd0 : decide (0 < rs.length) = true := decide_eq_true (by omega)
  clear hcs hrr hrr2 hrw
  obtain ⟨g0, g1, g2, g3, g4, g5⟩ := hB
  dsimp only [xB, Wm.v] at *
  clear hok hI hN
  go_wp2_with fail
  obtain ⟨M, hM⟩ : ∃ x, wL.heap.size = x := ⟨_, rfl⟩
  have hbM : b0 < M := by rw [← hM]; exact lt_of_cell g0
  have R0 := Lib.hid (R3.start wL M)
  go_loopw [21, 22, 23, 24, 26] (fun mv v1 v2 v3 iv wr => ∃ (m : Nat) (L1 L2 L3 : List Int) (x : Int), mv = .int .i64 m ∧ iv = .int .i64 x ∧ (llo ≤ x ∧ x ≤ lhi + 1) ∧ PA ⟨mark, llo, lhi, clo, chi, (some ⟨rb, ro, none⟩), rc, rs⟩ (rp, rq, ry, rz) x clo m L1 L2 L3 ∧ R3 wr M v1 v2 v3 L1 L2 L3 ∧ Keeps wL wr) (fun _ _ _ _ iv _ => (lhi + 1 - intOf iv).toNat)
  case atStart => exact ⟨0, [], [], [], llo, rfl, rfl, ⟨Int.le_refl _, by omega⟩, HPS.out, R0.out, Keeps.refl _⟩
  case round =>
    obtain ⟨m, L1, L2, L3, x, rfl, rfl, ⟨x1, x2⟩, hp, hr, kr⟩ := hrel
    have HP := Lib.hid hp
    have HR := Lib.hid hr
    clear hp hr
    have h0 := kr.cell g0
    have h1 := kr.cell g1
    have h2 := kr.cell g2
    have h3 := kr.cell g3
    have h4 := kr.cell g4
    have h5 := kr.cell g5
    by_cases hx : x ≤ lhi
    · have hd : decide (x ≤ lhi) = true := decide_eq_true hx
      have hwx : IntKind.i64.wrap (x + 1) = x + 1 := IntWalk.i64_in _ (by constructor <;> omega)
      go_wp2_with fail
      go_loopw [21, 22, 23, 24, 27] (fun mv v1 v2 v3 iv wi => ∃ (m : Nat) (L1 L2 L3 : List Int) (y : Int), mv = .int .i64 m ∧ iv = .int .i64 y ∧ (clo ≤ y ∧ y ≤ chi + 1) ∧ PA ⟨mark, llo, lhi, clo, chi, (some ⟨rb, ro, none⟩), rc, rs⟩ (rp, rq, ry, rz) x y m L1 L2 L3 ∧ R3 wi M v1 v2 v3 L1 L2 L3 ∧ Keeps wL wi) (fun _ _ _ _ iv _ => (chi + 1 - intOf iv).toNat)
      case atStart => exact ⟨m, L1, L2, L3, clo, rfl, rfl, ⟨Int.le_refl _, by omega⟩, HP.out, HR.out, kr⟩
      case round =>
        clear HP HR kr h0 h1 h2 h3 h4 h5
        obtain ⟨m, L1, L2, L3, y, rfl, rfl, ⟨y1, y2⟩, hp, hr, ki⟩ := hrel
        have HP := Lib.hid hp
        have HR := Lib.hid hr
        have hm100 := HLE.out _ _ _ _ _ _ _ hp
        have n1 := hp.n1
        have n2 := hp.n2
        have n3 := hp.n3
        clear hp hr
        have h0 := ki.cell g0
        have h1 := ki.cell g1
        have h2 := ki.cell g2
        have h3 := ki.cell g3
        have h4 := ki.cell g4
        have h5 := ki.cell g5
        have kq := kk.trans ki
        by_cases hy : y ≤ chi
        · have hd2 : decide (y ≤ chi) = true := decide_eq_true hy
          have hwy : IntKind.i64.wrap (y + 1) = y + 1 := IntWalk.i64_in _ (by constructor <;> omega)
          rcases HXC.out x y ⟨x1, hx⟩ ⟨y1, hy⟩ with ⟨p, hpt, hpe, hc⟩ | ⟨hno, hc⟩
          · have CX := Lib.hid (fun w1 (k : Keeps w w1) => show Calls Try.prog 25 #[.agg #[.int .i64 mark, .int .i64 x, .int .i64 x, .int .i64 y, .int .i64 y, .slice (some ⟨rb, ro, none⟩) rs.length rc]] w1 (Ret (.tuple #[.int .i64 1, .int .i64 0]) w1) from by have h := HCN.out x y w1 k; rw [hc] at h; exact h)
            have HPT := Lib.hid hpt
            have HPE := Lib.hid hpe
            have hwm : IntKind.i64.wrap ((m : Int) + 1) = ((m + 1 : Nat) : Int) := by rw [IntWalk.i64_in _ (by constructor <;> omega)]; rfl
            clear hc hpt hpe
            go_wp2_with fail
            refine (HEX.out x y _).mono ?_
            rintro e q1 ⟨rfl, a1⟩
            replace h0 := a1.cell h0
            replace h1 := a1.cell h1
            replace h2 := a1.cell h2
            replace h3 := a1.cell h3
            replace h4 := a1.cell h4
            replace h5 := a1.cell h5
            go_wp2_with fail
            refine (CX.out _ (kq.trans a1)).mono ?_
            rintro e q2 ⟨rfl, a2⟩
            replace h0 := a2.cell h0
            replace h1 := a2.cell h1
            replace h2 := a2.cell h2
            replace h3 := a2.cell h3
            replace h4 := a2.cell h4
            replace h5 := a2.cell h5
            have HR2 := Lib.hid ((HR.out.keep a1).keep a2)
            have ki2 := (ki.trans a1).trans a2
            have hsz2 := ki2.size
            clear a1 a2 CX
            obtain ⟨S2, hS2⟩ : ∃ s, q2.heap.size = s := ⟨_, rfl⟩
            have hm2 : M ≤ q2.heap.size := by omega
            have HC2 := Lib.hid (cell_new q2 (.int .i64 x) 3 hS2)
            have HR3 := Lib.hid (HR2.out.keep ((Keeps.refl q2).alloc (.cells #[.int .i64 x] 3)))
            have hm3 : M ≤ (q2.alloc (.cells #[.int .i64 x] 3)).heap.size := by simp; omega
            go_wp2_with (first
              | (at_builtin; refine wpList_append_own_at _ rfl _ _ 35 rfl M 3 i0 (.int .i64 0) 1 8 Try.underlying35 hi0 hz0 hz1 hz2 rfl (by decide) u22 L1.length _ rfl HR3.out.o1 ⟨S2, 0, none⟩ 1 1 [.int .i64 x] rfl rfl HC2.out (by simp [Value.oneCell']) (by unfold maxLen; omega) (by omega) hm3 ?_; intro v1' q3 ho3 hg3 _ ha3; have hg3' : (q2.alloc (.cells #[.int .i64 x] 3)).grownBy q3 u22.ownBlock := hg3; have HR4 := Lib.hid (HR3.out.app ho3 hg3' ha3); have ki3 : Keeps wL q3 := Below.grown (ki2.alloc _) hg3' (by simp; omega) (fun j e => by have := (HR3.out.o1.lt j e).1; omega); clear ho3 hg3 ha3 hg3'; obtain ⟨S3, hS3⟩ : ∃ s, q3.heap.size = s := ⟨_, rfl⟩; have HC3 := Lib.hid (cell_new q3 (.int .i64 y) 3 hS3); have HR5 := Lib.hid (HR4.out.keep ((Keeps.refl q3).alloc (.cells #[.int .i64 y] 3))); have hsz3 := ki3.size; have hm5 : M ≤ (q3.alloc (.cells #[.int .i64 y] 3)).heap.size := by simp; omega)
              | (at_builtin; refine wpList_append_own_at _ rfl _ _ 35 rfl M 3 i0 (.int .i64 0) 1 8 Try.underlying35 hi0 hz0 hz1 hz2 rfl (by decide) u23 L2.length _ rfl HR5.out.o2 ⟨S3, 0, none⟩ 1 1 [.int .i64 y] rfl rfl HC3.out (by simp [Value.oneCell']) (by unfold maxLen; omega) (by omega) hm5 ?_; intro v2' q4 ho4 hg4 _ ha4; have hg4' : (q3.alloc (.cells #[.int .i64 y] 3)).grownBy q4 u23.ownBlock := hg4; have HR6 := Lib.hid (HR5.out.app2 ho4 hg4' ha4); have ki4 : Keeps wL q4 := Below.grown (ki3.alloc _) hg4' (by simp; omega) (fun j e => by have := (HR5.out.o2.lt j e).1; omega); clear ho4 hg4 ha4 hg4'; have g5q := ki4.cell g5; have hlb5 := lt_of_cell g5q; have r0q := ki4.cell rc0; have r1q := ki4.cell rc1; have r2q := ki4.cell rc2; have r3q := ki4.cell rc3; have hlrq := lt_of_cell r0q))
            obtain ⟨S9, hS9⟩ : ∃ s, q4.heap.size = s := ⟨_, rfl⟩
            obtain ⟨q5, hq5⟩ : ∃ q, q4.alloc (.cells #[.int .i64 rp, .int .i64 rq, .int .i64 ry, .int .i64 rz] 53) = q := ⟨_, rfl⟩
            have k5 : Keeps q4 q5 := by rw [← hq5]; exact (Keeps.refl _).alloc _
            have e0 : q5.cell? ⟨S9, 0, none⟩ = some (.int .i64 rp) := by rw [← hq5, ← hS9]; simp [go_sem]
            have e1 : q5.cell? ⟨S9, 1, none⟩ = some (.int .i64 rq) := by rw [← hq5, ← hS9]; simp [go_sem]
            have e2 : q5.cell? ⟨S9, 2, none⟩ = some (.int .i64 ry) := by rw [← hq5, ← hS9]; simp [go_sem]
            have e3 : q5.cell? ⟨S9, 3, none⟩ = some (.int .i64 rz) := by rw [← hq5, ← hS9]; simp [go_sem]
            have HR7 := Lib.hid (HR6.out.keep k5)
            have ki5 := ki4.trans k5
            have hnS : some S9 ≠ u24.ownBlock := fun e => by have := (HR6.out.o3.lt S9 e.symm).2; omega
            have HNS := Lib.hid hnS
            have HE := Lib.hid (And.intro e0 (And.intro e1 (And.intro e2 e3)))
            have WN0 := Lib.hid (Wn.start mark x y (rp, rq, ry, rz) L3)
            rw [hq5, hS9]
            clear hq5 hS9 k5 e0 e1 e2 e3 hnS HC2 HR3 HR4 HC3 HR5 HR2 HR6 r0q r1q r2q r3q g5q hlb5 hlrq ki3 ki2
            go_loopw [24, 31] (fun v3 tv wq => ∃ (L3' : List Int) (t : Int), tv = .int .i64 t ∧ (rp ≤ t ∧ t ≤ rq + 1) ∧ Wn mark x y (rp, rq, ry, rz) t L3 L3' ∧ R3 wq M v1' v2' v3 (L1 ++ [x]) (L2 ++ [y]) L3' ∧ some S9 ≠ v3.ownBlock ∧ (wq.cell? ⟨S9, 0, none⟩ = some (.int .i64 rp) ∧ wq.cell? ⟨S9, 1, none⟩ = some (.int .i64 rq) ∧ wq.cell? ⟨S9, 2, none⟩ = some (.int .i64 ry) ∧ wq.cell? ⟨S9, 3, none⟩ = some (.int .i64 rz)) ∧ Keeps wL wq) (fun _ tv _ => (rq + 1 - intOf tv).toNat)
            case atStart => exact ⟨L3, rp, rfl, ⟨Int.le_refl _, by omega⟩, WN0.out, HR7.out, HNS.out, HE.out, ki5⟩
            case round =>
              obtain ⟨L4, t, rfl, ⟨t1, t2⟩, hwn, hr3, hns, ⟨e0, e1, e2, e3⟩, kq5⟩ := hrel
              have HWN := Lib.hid hwn
              have HR8 := Lib.hid hr3
              have HN8 := Lib.hid hns
              have HE8 := Lib.hid (And.intro e0 (And.intro e1 (And.intro e2 e3)))
              have n4 := hwn.2
              dsimp only at n4
              have g0q := kq5.cell g0
              have hl9 := lt_of_cell e0
              have hl0 := lt_of_cell g0q
              clear hwn hr3 hns HR7 HE WN0
              by_cases ht : t ≤ rq
              · have hd4 : decide (t ≤ rq) = true := decide_eq_true ht
                have hwt : IntKind.i64.wrap (t + 1) = t + 1 := IntWalk.i64_in _ (by constructor <;> omega)
                obtain ⟨sh, hsh⟩ : ∃ z, shI mark x y t = z := ⟨_, rfl⟩
                obtain ⟨hv, hhv⟩ : ∃ v, decide (ry ≤ sh ∧ sh ≤ rz) = v := ⟨_, rfl⟩
                have S1 := Lib.hid (fun w1 => show Calls Try.prog 35 #[.int .i64 mark, .int .i64 x, .int .i64 y, .int .i64 t] w1 (RetI sh w1) from by have h := SW.out x y t w1 m1 m2 (by omega) (by omega) (by omega) (by omega) (by omega) (by omega); rw [hsh] at h; exact h)
                have I1 := Lib.hid (fun w1 => show Calls Try.prog 33 #[.int .i64 sh, .agg #[.int .i64 ry, .int .i64 rz]] w1 (RetB hv w1) from by have h := IN.out sh ry rz w1; rw [hhv] at h; exact h)
                have HSH := Lib.hid hsh
                have HHV := Lib.hid hhv
                clear hsh hhv
                go_wp2_with fail
                have k7d := (Keeps.refl wr).drew
                haveI : Nonempty (Inw (fun w' => Keeps wr w')) := ⟨⟨wr, Keeps.refl _⟩⟩
                have f0 : ∀ q : Inw (fun w' => Keeps wr w'), q.W.cell? ⟨b0, 0, none⟩ = some (.int .i64 mark) := fun q => q.h.cell g0q
                have f2 : ∀ q : Inw (fun w' => Keeps wr w'), q.W.cell? ⟨S9, 2, none⟩ = some (.int .i64 ry) := fun q => q.h.cell e2
                have f3 : ∀ q : Inw (fun w' => Keeps wr w'), q.W.cell? ⟨S9, 3, none⟩ = some (.int .i64 rz) := fun q => q.h.cell e3
                refine (wpIn_wide (n := 3)).1 ?_
                refine cix_start hmx (fun w' => Keeps wr w') ?_
                refine cix_quiet (m := 2) (CixOk.of (fun _ => trivial) (fun _ _ _ _ hd h => ⟨hd.symm.trans h.1, h.2⟩) (by kernel_rfl)) [0, 1, 2, 3, 4, 6, 7] rfl (by kernel_rfl) k7d ?_
                show wpQuietIn _ _ _ _ _ _ [_, _, _, _, _, _, _] _
                iterate 7 (gi_big_quiet_step (fail))
                refine wpQuietIn_nil ?_
                refine cix_one (m := 1) 5 _ rfl rfl (by kernel_rfl) ?_
                show wpListIn _ _ _ _ _ [_] _ _
                gi_wp2_with fail
                rename_i hK
                refine ⟨trivial, ((callsIn_wide (n := 2)).2 (S1.out _)).mono ?_⟩
                rintro e u1 ⟨rfl, k⟩
                replace k7d := k7d.trans k
                refine hK _ _ (.inl ⟨rfl, k7d, ?_⟩)
                clear hK k
                refine cix_one (m := 0) 8 _ rfl rfl (by kernel_rfl) ?_
                show wpListIn _ _ _ _ _ [_] _ _
                gi_wp2_with fail
                rename_i hK
                refine ⟨trivial, ((callsIn_wide (n := 2)).2 (I1.out _)).mono ?_⟩
                rintro e u2 ⟨rfl, k⟩
                replace k7d := k7d.trans k
                refine hK _ _ (.inl ⟨rfl, k7d, ?_⟩)
                clear hK k f0 f2 f3
                refine cix_done (by kernel_rfl) ?_ _
                have k7 := kq5.trans k7d
                have HE9 := Lib.hid (And.intro (k7d.cell e0) (And.intro (k7d.cell e1) (And.intro (k7d.cell e2) (k7d.cell e3))))
                have HR9 := Lib.hid (HR8.out.keep k7d)
                have hl9' := lt_of_cell (k7d.cell e0)
                clear e0 e1 e2 e3 g0q S1 I1 hl0 hl9
                cases hv
                · go_wp2_with fail
                  go_roundw
                  case rel => exact ⟨L4, t + 1, rfl, ⟨by omega, by omega⟩, HWN.out.no t1 (by rw [HSH.out]; exact of_decide_eq_false HHV.out), HR9.out, HN8.out, HE9.out, k7⟩
                  case measure => simp [intOf]; omega
                · obtain ⟨S8, hS8⟩ : ∃ s, u2.heap.size = s := ⟨_, rfl⟩
                  have HC8 := Lib.hid (cell_new u2 (.int .i64 t) 3 hS8)
                  have HRA := Lib.hid (HR9.out.keep ((Keeps.refl u2).alloc (.cells #[.int .i64 t] 3)))
                  have hsz7 := k7.size
                  have hm8 : M ≤ (u2.alloc (.cells #[.int .i64 t] 3)).heap.size := by simp; omega
                  go_wp2_with (at_builtin; refine wpList_append_own_at _ rfl _ _ 35 rfl M 3 i0 (.int .i64 0) 1 8 Try.underlying35 hi0 hz0 hz1 hz2 rfl (by decide) u24 L4.length _ rfl HRA.out.o3 ⟨S8, 0, none⟩ 1 1 [.int .i64 t] rfl rfl HC8.out (by simp [Value.oneCell']) (by unfold maxLen; omega) (by omega) hm8 ?_; intro v3' q6 ho6 hg6 _ ha6)
                  have hg6' : (u2.alloc (.cells #[.int .i64 t] 3)).grownBy q6 u24.ownBlock := hg6
                  have hE9 := HE9.out
                  have kal := (Keeps.refl u2).alloc (.cells #[.int .i64 t] 3)
                  have hlS : S9 < (u2.alloc (.cells #[.int .i64 t] 3)).heap.size := by simp; omega
                  have hblk := hg6'.block S9 hlS HN8.out
                  refine ⟨⟨L4 ++ [t], t + 1, rfl, ⟨by omega, by omega⟩, HWN.out.yes t1 (by rw [HSH.out]; exact of_decide_eq_true HHV.out), HRA.out.app3 ho6 hg6' ha6, ?_, ⟨(World.cell?_of_block hblk).trans (kal.cell hE9.1), (World.cell?_of_block hblk).trans (kal.cell hE9.2.1), (World.cell?_of_block hblk).trans (kal.cell hE9.2.2.1), (World.cell?_of_block hblk).trans (kal.cell hE9.2.2.2)⟩, Below.grown (k7.alloc _) hg6' (by simp; omega) (fun j e => by have := (HRA.out.o3.lt j e).1; omega)⟩, by simp [intOf]; omega⟩
                  rcases ha6 with h | h
                  · rw [h]; exact HN8.out
                  · rw [h]; intro e; have := Option.some.inj e; omega
              · have hd4 : decide (t ≤ rq) = false := decide_eq_false ht
                have HST := Lib.hid (Wn.stop HWN.out (by show t = rq + 1; omega) (by show rq - rp ≤ 4; omega) HPE.out)
                go_wp2_with fail
                go_roundw
                case rel => exact ⟨m + 1, L1 ++ [x], L2 ++ [y], L4, y + 1, by go_num, rfl, ⟨by omega, by omega⟩, PA.yes HP.out HPT.out HPE.out (fun _ => HST.out.1) HST.out.2, HR8.out, kq5⟩
                case measure => simp [intOf]; omega
          · have CX := Lib.hid (fun w1 (k : Keeps w w1) => show Calls Try.prog 25 #[.agg #[.int .i64 mark, .int .i64 x, .int .i64 x, .int .i64 y, .int .i64 y, .slice (some ⟨rb, ro, none⟩) rs.length rc]] w1 (Ret (.tuple #[.int .i64 0, .int .i64 0]) w1) from by have h := HCN.out x y w1 k; rw [hc] at h; exact h)
            have HNO := Lib.hid hno
            clear hc hno
            go_wp2_with fail
            refine (HEX.out x y _).mono ?_
            rintro e q1 ⟨rfl, a1⟩
            go_wp2_with fail
            refine (CX.out _ (kq.trans a1)).mono ?_
            rintro e q2 ⟨rfl, a2⟩
            go_wp2_with fail
            go_roundw
            case rel => exact ⟨m, L1, L2, L3, y + 1, rfl, rfl, ⟨by omega, by omega⟩, PA.no HP.out HNO.out, (HR.out.keep a1).keep a2, (ki.trans a1).trans a2⟩
            case measure => simp [intOf]; omega
        · have hd2 : decide (y ≤ chi) = false := decide_eq_false hy
          go_wp2_with fail
          go_roundw
          case rel => exact ⟨m, L1, L2, L3, x + 1, rfl, rfl, ⟨by omega, by omega⟩, HRO.out _ _ _ _ _ _ _ HP.out (by show chi < y; omega), HR.out, ki⟩
          case measure => simp [intOf]; omega
    · have hd : decide (x ≤ lhi) = false := decide_eq_false hx
      have hpz := HSTO.out _ _ _ _ _ _ _ HP.out (by show lhi < x; omega)
      have hm100 := HLE.out _ _ _ _ _ _ _ HP.out
      obtain rfl : N = m := by rw [HN.out, hpz.cnt]
      obtain ⟨la, lb, ca, cb, ha, hb, er, eh, eL, eC, eS, eH, ee, hcase⟩ := fin_all HOK.out hpz num (fun _ => ⟨HHN.out, HRR.out⟩) (fun h => absurd (show rs.length = 0 from h) (by have := HHN.out; omega))
      have n1 := hpz.n1
      have n2 := hpz.n2
      have n3 := hpz.n3
      have LN := Lib.hid (fun w1 (k : Keeps w w1) => show Calls Try.prog 15 #[.agg #[.int .i64 mark, .int .i64 llo, .int .i64 lhi, .int .i64 clo, .int .i64 chi, .slice (some ⟨rb, ro, none⟩) rs.length rc]] w1 (Ret (.tuple #[.agg #[.int .i64 la, .int .i64 lb], .int .i64 er]) w1) from by have h := Length_any _ w1 (HI.out.keep k); rw [eL] at h; exact h)
      have HPZ := Lib.hid (And.intro n1 (And.intro n2 n3))
      have QC := Lib.hid eC
      have QS := Lib.hid eS
      have QH := Lib.hid eH
      have QE := Lib.hid ee
      have QQ := Lib.hid hcase
      clear hpz n1 n2 n3 eL eC eS eH ee hcase
      go_upto_region 38 with fail
      go_cut [32, 33] (fun a b wx => Tell wr la lb er a b wx)
      case first =>
        go_wp2_with fail
        refine (LN.out _ (kk.trans kr)).mono ?_
        rintro e f1 ⟨rfl, a1⟩
        go_wp2_with fail
        go_meet
        exact ⟨_, rfl, a1.size, ⟨by simp [go_sem], by simp [go_sem], by simp [go_sem], by simp [go_sem]⟩, a1.alloc _, rfl⟩
      case rest =>
        obtain ⟨sA, rfl, hsA, hTA, kc, rfl⟩ := hcut
        rename_i hK
        refine hK _ _ (wp_on (c' := pairs_from 39) (by kernel_rfl) ?_)
        obtain ⟨n1, n2, n3⟩ := HPZ.out
        exact pairs_39 mark llo lhi clo chi (some ⟨rb, ro, none⟩) rc rs b0 N num M sA _ _ _ L1 L2 L3 la lb ca cb ha hb er eh w _ HI.out ((kk.trans kr).trans kc) (Wm.Box.keep ⟨h0, h1, h2, h3, h4, h5⟩ kc) hTA.c0 hTA.c1 (by omega) (by omega) (by omega) (HR.out.keep kc) QC.out QS.out QH.out QE.out QQ.out _ _ _ _ _ _ _ _ _ _ _ _ _ _ _ _ _ _ _ _ _ _ _ _ _ _ _ _ _ _ _ _ _ _ _ _ _ _ _ _ _ _ _ _ _ _ _ _ _ _ _ _ _ _ _ _ _ _ _ _ _ _ _ _ _ _ _ _ _ _ _ _ _ _ _ _ _ _ _ _ _ _ _ _ _ _ _ _ _ _ _ _ _ _ _ _ _ _ _ _ _ _ _ _ _ _ _ _ _ _ _ _ _ _ _ _ _ _ _ _ _ _ _ _ _ _ _ _ _ _ _ _ _ _ _ _ _ _ _ _ _ _ _ _ _ _ _ _ _ _ _ _ _ _ _ _ _ _ _ _ _ _ _ _ _ _ _ _ _ _ _ _ _ _ _ _ _ _ _ _ _ _ _ _ _ _ _ _ _ _ _ _ _ _ _ _ _ _ _ _ _ _ _ _ _ _ _ _ _ _ _ _ _ _ _ _ _ _ _ _ _ _ _ _ _ _ _ _ _ _ _ _ _ _ _ _ _ _ _ _ _ _ _ _ _ _ _ _ _ _ _ _ _ _ _ _ _ _ _ _ _ _ _ _ _ _ _ _ _ _ _ _ _ _ _ _ _ _ _ _ _ _ _ _ _ _ _ _ _ _ _ _ _ _ _ _ _ _ _ _ _ _ _ _ _ _ _ _ _ _ _ _ _ _ _ _ _ _
end Go.Proofs.Ytdfiebfgmpdceaa
