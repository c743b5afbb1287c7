/-
  WarmPairs walked: from where the coefficient is asked, once all pairs are gone through.
-/
import Derived.Test.YtdfiebfgmpdceaaP8
import Derived.Test.YtdfiebfgmpdceaaP9
namespace Go.Proofs.Ytdfiebfgmpdceaa
open Go.RowKit

set_option maxRecDepth 100000 in
set_option maxHeartbeats 40000000 in
theorem pairs_39 (mark llo lhi clo chi : Int) (ra : Option Addr) (rc : Nat) (rs : List Wr) (b0 m n M sA : Nat) (v1 v2 v3 : Value) (L1 L2 L3 : List Int) (la lb ca cb ha hb er eh : Int) (w wr : World)
    (hI : Wm.In ⟨mark, llo, lhi, clo, chi, ra, rc, rs⟩ w) (kk : Keeps w wr) (hB : Wm.Box ⟨mark, llo, lhi, clo, chi, ra, rc, rs⟩ wr b0) (pa0 : wr.cell? ⟨sA, 0, none⟩ = some (.int .i64 la)) (pa1 : wr.cell? ⟨sA, 1, none⟩ = some (.int .i64 lb)) (n1 : L1.length ≤ 100) (n2 : L2.length ≤ 100) (n3 : L3.length ≤ 500) (hR : R3 wr M v1 v2 v3 L1 L2 L3)
    (eC : Wm.coeffA ⟨mark, llo, lhi, clo, chi, ra, rc, rs⟩ = ((ca, cb), er)) (eS : Wm.showsA ⟨mark, llo, lhi, clo, chi, ra, rc, rs⟩ 0 0 = ((la, lb), er)) (eH : Wm.heldA ⟨mark, llo, lhi, clo, chi, ra, rc, rs⟩ n = ((ha, hb), eh)) (ee : 0 < rs.length → eh = er)
    (hcase : (er = 10 ∧ la = 0 ∧ lb = 0 ∧ ca = 0 ∧ cb = 0 ∧ m = 0) ∨ (er = 0 ∧ 0 < m ∧ (∀ u v, EndS L1 L1.length u v → u = la ∧ v = lb) ∧ (∀ u v, EndS L2 L2.length u v → u = ca ∧ v = cb) ∧ (0 < rs.length → ∀ u v, EndS L3 L3.length u v → u = ha ∧ v = hb)))
    (x0 x1 x3 x4 x6 x7 x8 x9 x10 x11 x12 x13 x14 x15 x16 x17 x18 x19 x20 x26 x27 x28 x29 x30 x31 x34 x35 x36 x37 x38 x39 x40 x41 x42 x43 x44 x45 x46 x47 x48 x49 x50 x51 x52 x53 x54 x55 x56 x57 x58 x59 x60 x61 x62 x63 x64 x65 x66 x67 x68 x69 x70 x71 x72 x73 x74 x75 x76 x77 x78 x79 x80 x81 x82 x83 x84 x85 x86 x87 x88 x89 x90 x91 x92 x93 x94 x95 x96 x97 x98 x99 x100 x101 x102 x103 x104 x105 x106 x107 x108 x109 x110 x111 x112 x113 x114 x115 x116 x117 x118 x119 x120 x121 x122 x123 x124 x125 x126 x127 x128 x129 x130 x131 x132 x133 x134 x135 x136 x137 x138 x139 x140 x141 x142 x143 x144 x145 x146 x147 x148 x149 x150 x151 x152 x153 x154 x155 x156 x157 x158 x159 x160 x161 x162 x163 x164 x165 x166 x167 x168 x169 x170 x171 x172 x173 x174 x175 x176 x177 x178 x179 x180 x181 x182 x183 x184 x185 x186 x187 x188 x189 x190 x191 x192 x193 x194 x195 x196 x197 x198 x199 x200 x201 x202 x203 x204 x205 x206 x207 x208 x209 x210 x211 x212 x213 x214 x215 x216 x217 x218 x219 x220 x221 x222 x223 x224 x225 x226 x227 x228 x229 x230 x231 x232 x233 x234 x235 x236 x237 x238 x239 x240 x241 x242 x243 x244 x245 x246 x247 x248 x249 x250 x251 x252 x253 x254 x255 x256 x257 x258 x259 x260 x261 x262 x263 x264 x265 x266 x267 x268 x269 x270 x271 x272 x273 x274 x275 x276 x277 x278 x279 x280 x281 x282 x283 x284 x285 x286 x287 x288 x289 x290 x291 x292 x293 x294 x295 x296 x297 x298 x299 x300 x301 x302 x303 x304 x305 x306 x307 x308 x309 x310 x311 x312 x313 x314 x315 x316 x317 x318 x319 x320 x321 x322 x323 x324 x325 x326 : Value) :
    Code.wp Try.prog (pairs_from 39) (bodyPost Try.prog Try.f7 (RetB true w)) { tmps := #[x0, x1, .pointer (some ⟨b0, 0, none⟩), x3, x4, .int .i64 (m : Int), x6, x7, x8, x9, x10, x11, x12, x13, x14, x15, x16, x17, x18, x19, x20, .int .i64 (m : Int), v1, v2, v3, .int .i64 (n : Int), x26, x27, x28, x29, x30, x31, .pointer (some ⟨sA, 0, none⟩), .int .i64 er, x34, x35, x36, x37, x38, x39, x40, x41, x42, x43, x44, x45, x46, x47, x48, x49, x50, x51, x52, x53, x54, x55, x56, x57, x58, x59, x60, x61, x62, x63, x64, x65, x66, x67, x68, x69, x70, x71, x72, x73, x74, x75, x76, x77, x78, x79, x80, x81, x82, x83, x84, x85, x86, x87, x88, x89, x90, x91, x92, x93, x94, x95, x96, x97, x98, x99, x100, x101, x102, x103, x104, x105, x106, x107, x108, x109, x110, x111, x112, x113, x114, x115, x116, x117, x118, x119, x120, x121, x122, x123, x124, x125, x126, x127, x128, x129, x130, x131, x132, x133, x134, x135, x136, x137, x138, x139, x140, x141, x142, x143, x144, x145, x146, x147, x148, x149, x150, x151, x152, x153, x154, x155, x156, x157, x158, x159, x160, x161, x162, x163, x164, x165, x166, x167, x168, x169, x170, x171, x172, x173, x174, x175, x176, x177, x178, x179, x180, x181, x182, x183, x184, x185, x186, x187, x188, x189, x190, x191, x192, x193, x194, x195, x196, x197, x198, x199, x200, x201, x202, x203, x204, x205, x206, x207, x208, x209, x210, x211, x212, x213, x214, x215, x216, x217, x218, x219, x220, x221, x222, x223, x224, x225, x226, x227, x228, x229, x230, x231, x232, x233, x234, x235, x236, x237, x238, x239, x240, x241, x242, x243, x244, x245, x246, x247, x248, x249, x250, x251, x252, x253, x254, x255, x256, x257, x258, x259, x260, x261, x262, x263, x264, x265, x266, x267, x268, x269, x270, x271, x272, x273, x274, x275, x276, x277, x278, x279, x280, x281, x282, x283, x284, x285, x286, x287, x288, x289, x290, x291, x292, x293, x294, x295, x296, x297, x298, x299, x300, x301, x302, x303, x304, x305, x306, x307, x308, x309, x310, x311, x312, x313, x314, x315, x316, x317, x318, x319, x320, x321, x322, x323, x324, x325, x326], defers := [] } wr := by
  conv => arg 2; whnf
  have hmx : Try.prog.follows .mixedOrders = true := by kernel_rfl
  have AW := Lib.hid (fun w1 => awake_any w1)
  have SP := Lib.hid (fun a b w1 => lawSpan_any a b w1)
  have CF := Lib.hid (fun w1 (k : Keeps w w1) => show Calls Try.prog 17 #[.agg #[.int .i64 mark, .int .i64 llo, .int .i64 lhi, .int .i64 clo, .int .i64 chi, .slice ra rs.length rc]] w1 (Ret (.tuple #[.agg #[.int .i64 ca, .int .i64 cb], .int .i64 er]) w1) from by have h := Coeff_any _ w1 (hI.keep k); rw [eC] at h; exact h)
  have SZ := Lib.hid (fun w1 (k : Keeps w w1) => show Calls Try.prog 21 #[.agg #[.int .i64 mark, .int .i64 llo, .int .i64 lhi, .int .i64 clo, .int .i64 chi, .slice ra rs.length rc], .agg #[.int .i64 0, .int .i64 0]] w1 (Ret (.tuple #[.agg #[.int .i64 la, .int .i64 lb], .int .i64 er]) w1) from by have h := Shows_any _ 0 0 w1 (hI.keep k); rw [eS] at h; exact h)
  have HD := Lib.hid (fun w1 (k : Keeps w w1) => show Calls Try.prog 19 #[.agg #[.int .i64 mark, .int .i64 llo, .int .i64 lhi, .int .i64 clo, .int .i64 chi, .slice ra rs.length rc], .int .i64 n] w1 (Ret (.tuple #[.agg #[.int .i64 ha, .int .i64 hb], .int .i64 eh]) w1) from by have h := Held_any _ n w1 (hI.keep k); rw [eH] at h; exact h)
  have HCS := Lib.hid hcase
  have HEE := Lib.hid ee
  obtain ⟨a1, cp1, rfl, hi1, _⟩ := ints_row hR.o1
  obtain ⟨a2, cp2, rfl, hi2, _⟩ := ints_row hR.o2
  obtain ⟨a3, cp3, rfl, hi3, _⟩ := ints_row hR.o3
  obtain ⟨h0, h1, h2, h3, h4, h5⟩ := hB
  dsimp only at h0 h1 h2 h3 h4 h5
  have kv := Keeps.refl wr
  have hlA := lt_of_cell pa0
  clear eC eS eH hcase hI hR ee
  go_wp2_with fail
  clear hlA
  refine (CF.out _ kk).mono ?_
  rintro e f3 ⟨rfl, a1⟩
  replace h0 := a1.cell h0
  replace h1 := a1.cell h1
  replace h2 := a1.cell h2
  replace h3 := a1.cell h3
  replace h4 := a1.cell h4
  replace h5 := a1.cell h5
  replace kk := kk.trans a1
  replace kv := kv.trans a1
  replace pa0 := a1.cell pa0
  replace pa1 := a1.cell pa1
  obtain ⟨sB, hsB⟩ : ∃ s, f3.heap.size = s := ⟨_, rfl⟩
  obtain ⟨f4, hf4⟩ : ∃ y, f3.alloc (.cells #[.int .i64 ca, .int .i64 cb] 23) = y := ⟨_, rfl⟩
  have a2 : Keeps f3 f4 := by rw [← hf4]; exact (Keeps.refl _).alloc _
  have pb0 : f4.cell? ⟨sB, 0, none⟩ = some (.int .i64 ca) := by rw [← hf4, ← hsB]; simp [go_sem]
  have pb1 : f4.cell? ⟨sB, 1, none⟩ = some (.int .i64 cb) := by rw [← hf4, ← hsB]; simp [go_sem]
  replace h0 := a2.cell h0
  replace h1 := a2.cell h1
  replace h2 := a2.cell h2
  replace h3 := a2.cell h3
  replace h4 := a2.cell h4
  replace h5 := a2.cell h5
  replace kk := kk.trans a2
  replace kv := kv.trans a2
  replace pa0 := a2.cell pa0
  replace pa1 := a2.cell pa1
  go_wp2_with fail
  clear hf4 hsB a1
  refine (HD.out _ kk).mono ?_
  rintro e f5 ⟨rfl, a1⟩
  replace h0 := a1.cell h0
  replace h1 := a1.cell h1
  replace h2 := a1.cell h2
  replace h3 := a1.cell h3
  replace h4 := a1.cell h4
  replace h5 := a1.cell h5
  replace kk := kk.trans a1
  replace kv := kv.trans a1
  replace pa0 := a1.cell pa0
  replace pa1 := a1.cell pa1
  replace pb0 := a1.cell pb0
  replace pb1 := a1.cell pb1
  obtain ⟨sC, hsC⟩ : ∃ s, f5.heap.size = s := ⟨_, rfl⟩
  obtain ⟨f6, hf6⟩ : ∃ y, f5.alloc (.cells #[.int .i64 ha, .int .i64 hb] 23) = y := ⟨_, rfl⟩
  have a2 : Keeps f5 f6 := by rw [← hf6]; exact (Keeps.refl _).alloc _
  have pc0 : f6.cell? ⟨sC, 0, none⟩ = some (.int .i64 ha) := by rw [← hf6, ← hsC]; simp [go_sem]
  have pc1 : f6.cell? ⟨sC, 1, none⟩ = some (.int .i64 hb) := by rw [← hf6, ← hsC]; simp [go_sem]
  replace h0 := a2.cell h0
  replace h1 := a2.cell h1
  replace h2 := a2.cell h2
  replace h3 := a2.cell h3
  replace h4 := a2.cell h4
  replace h5 := a2.cell h5
  replace kk := kk.trans a2
  replace kv := kv.trans a2
  replace pa0 := a2.cell pa0
  replace pa1 := a2.cell pa1
  replace pb0 := a2.cell pb0
  replace pb1 := a2.cell pb1
  go_upto_region 41 with fail
  clear hf6 hsC a1 a2
  go_cut [38, 39] (fun a b wx => Tell f6 la lb er a b wx)
  case first =>
    have k5d := (Keeps.refl f6).drew
    haveI : Nonempty (Inw (fun w' => Keeps f6 w')) := ⟨⟨f6, Keeps.refl _⟩⟩
    have e0 : ∀ q : Inw (fun w' => Keeps f6 w'), q.W.cell? ⟨b0, 0, none⟩ = some (.int .i64 mark) := fun q => q.h.cell h0
    have e1 : ∀ q : Inw (fun w' => Keeps f6 w'), q.W.cell? ⟨b0, 1, none⟩ = some (.int .i64 llo) := fun q => q.h.cell h1
    have e2 : ∀ q : Inw (fun w' => Keeps f6 w'), q.W.cell? ⟨b0, 2, none⟩ = some (.int .i64 lhi) := fun q => q.h.cell h2
    have e3 : ∀ q : Inw (fun w' => Keeps f6 w'), q.W.cell? ⟨b0, 3, none⟩ = some (.int .i64 clo) := fun q => q.h.cell h3
    have e4 : ∀ q : Inw (fun w' => Keeps f6 w'), q.W.cell? ⟨b0, 4, none⟩ = some (.int .i64 chi) := fun q => q.h.cell h4
    have e5 : ∀ q : Inw (fun w' => Keeps f6 w'), q.W.cell? ⟨b0, 5, none⟩ = some (.slice ra rs.length rc) := fun q => q.h.cell h5
    go_wp2_with fail
    refine (wpIn_wide (n := 3)).1 ?_
    refine cix_start hmx (fun w' => Keeps f6 w') ?_
    refine cix_quiet (m := 8) (CixOk.of (fun _ => trivial) (fun _ _ _ _ hd h => ⟨hd.symm.trans h.1, h.2⟩) (by kernel_rfl)) [0] rfl (by kernel_rfl) k5d ?_
    show wpQuietIn _ _ _ _ _ _ [_] _
    iterate 1 (gi_big_quiet_step (fail))
    refine wpQuietIn_nil ?_
    refine cix_two (m := 7) 1 _ 6 _ rfl rfl rfl (by kernel_rfl) ?_ ?_
    · show wpListIn _ _ _ _ _ [_] _ _
      gi_wp2_with fail
      rename_i hK
      refine ⟨trivial, ((callsIn_wide (n := 2)).2 (SP.out (0) (0) _)).mono ?_⟩
      rintro e u1 ⟨rfl, k⟩
      have c1 := k5d.trans k
      refine hK _ _ (.inl ⟨rfl, c1, ?_⟩)
      clear hK k
      refine cix_two (m := 6) 2 _ 6 _ rfl rfl rfl (by kernel_rfl) ?_ ?_
      · show wpListIn _ _ _ _ _ [_] _ _
        gi_wp2_with fail
        rename_i hK
        refine ⟨trivial, ((callsIn_wide (n := 2)).2 (SZ.out _ (kk.trans c1))).mono ?_⟩
        rintro e u2 ⟨rfl, k⟩
        have c2 := c1.trans k
        refine hK _ _ (.inl ⟨rfl, c2, ?_⟩)
        clear hK k
        refine cix_quiet (m := 3) (CixOk.of (fun _ => trivial) (fun _ _ _ _ hd h => ⟨hd.symm.trans h.1, h.2⟩) (by kernel_rfl)) [3, 4, 5] rfl (by kernel_rfl) c2 ?_
        show wpQuietIn _ _ _ _ _ _ [_, _, _] _
        iterate 3 (gi_big_quiet_step (fail))
        refine wpQuietIn_nil ?_
        refine cix_one (m := 2) 6 _ rfl rfl (by kernel_rfl) ?_
        show wpListIn _ _ _ _ _ [_] _ _
        gi_wp2_with fail
        obtain ⟨s, hs⟩ : ∃ s, u2.heap.size = s := ⟨_, rfl⟩
        obtain ⟨u3, hu3⟩ : ∃ v, u2.alloc (.cells #[.int .i64 0, .int .i64 0] 23) = v := ⟨_, rfl⟩
        have c3 : Keeps f6 u3 := by rw [← hu3]; exact c2.alloc _
        have a0 : u3.cell? ⟨s, 0, none⟩ = some (.int .i64 0) := by rw [← hu3, ← hs]; simp [go_sem]
        have a1 : u3.cell? ⟨s, 1, none⟩ = some (.int .i64 0) := by rw [← hu3, ← hs]; simp [go_sem]
        have z0 : u3.frozen? ⟨s, 0, none⟩ = false := by rw [← hu3, ← hs]; simp [go_sem]
        have z1 : u3.frozen? ⟨s, 1, none⟩ = false := by rw [← hu3, ← hs]; simp [go_sem]
        have hsz : f6.heap.size ≤ s := by rw [← hs]; exact c2.size
        rw [hu3, hs]
        clear hu3 hs
        refine ⟨c3, ?_⟩
        refine cix_one (m := 1) 7 _ rfl rfl (by kernel_rfl) ?_
        show wpListIn _ _ _ _ _ [_] _ _
        have hT : TwoI u3 s 0 0 := ⟨a0, a1, z0, z1⟩
        have kY : Keeps f6 ((u3.setCell ⟨s, 0, none⟩ (.int .i64 la)).setCell ⟨s, 1, none⟩ (.int .i64 lb)) := (c3.setCell (p := ⟨s, 0, none⟩) _ hsz).setCell (p := ⟨s, 1, none⟩) _ hsz
        have hT2 := (hT.set0 (la)).set1 (lb)
        gi_wp2_with fail
        refine cix_one (m := 0) 8 _ rfl rfl (by kernel_rfl) ?_
        show wpListIn _ _ _ _ _ [_] _ _
        gi_wp2_with fail
        refine cix_done (by kernel_rfl) ?_ _
        go_wp2_with fail
        go_meet
        exact ⟨s, rfl, hsz, hT2, kY, rfl⟩
      · show wpListIn _ _ _ _ _ [_] _ _
        gi_wp2_with fail
        obtain ⟨s, hs⟩ : ∃ s, u1.heap.size = s := ⟨_, rfl⟩
        obtain ⟨u2, hu2⟩ : ∃ v, u1.alloc (.cells #[.int .i64 0, .int .i64 0] 23) = v := ⟨_, rfl⟩
        have c2 : Keeps f6 u2 := by rw [← hu2]; exact c1.alloc _
        have a0 : u2.cell? ⟨s, 0, none⟩ = some (.int .i64 0) := by rw [← hu2, ← hs]; simp [go_sem]
        have a1 : u2.cell? ⟨s, 1, none⟩ = some (.int .i64 0) := by rw [← hu2, ← hs]; simp [go_sem]
        have z0 : u2.frozen? ⟨s, 0, none⟩ = false := by rw [← hu2, ← hs]; simp [go_sem]
        have z1 : u2.frozen? ⟨s, 1, none⟩ = false := by rw [← hu2, ← hs]; simp [go_sem]
        have hsz : f6.heap.size ≤ s := by rw [← hs]; exact c1.size
        rw [hu2, hs]
        clear hu2 hs
        refine ⟨c2, ?_⟩
        refine cix_one (m := 5) 2 _ rfl rfl (by kernel_rfl) ?_
        show wpListIn _ _ _ _ _ [_] _ _
        gi_wp2_with fail
        rename_i hK
        refine ⟨trivial, ((callsIn_wide (n := 2)).2 (SZ.out _ (kk.trans c2))).mono ?_⟩
        rintro e u3 ⟨rfl, k⟩
        have c3 := c2.trans k
        have hss := lt_of_cell a0
        replace z0 := (k.cells.2 s 0 hss).trans z0
        replace z1 := (k.cells.2 s 1 hss).trans z1
        replace a0 := k.cell a0
        replace a1 := k.cell a1
        refine hK _ _ (.inl ⟨rfl, c3, ?_⟩)
        clear hK k
        refine cix_quiet (m := 2) (CixOk.of (fun _ => trivial) (fun _ _ _ _ hd h => ⟨hd.symm.trans h.1, h.2⟩) (by kernel_rfl)) [3, 4, 5] rfl (by kernel_rfl) c3 ?_
        show wpQuietIn _ _ _ _ _ _ [_, _, _] _
        iterate 3 (gi_big_quiet_step (fail))
        refine wpQuietIn_nil ?_
        refine cix_one (m := 1) 7 _ rfl rfl (by kernel_rfl) ?_
        show wpListIn _ _ _ _ _ [_] _ _
        have hT : TwoI u3 s 0 0 := ⟨a0, a1, z0, z1⟩
        have kY : Keeps f6 ((u3.setCell ⟨s, 0, none⟩ (.int .i64 la)).setCell ⟨s, 1, none⟩ (.int .i64 lb)) := (c3.setCell (p := ⟨s, 0, none⟩) _ hsz).setCell (p := ⟨s, 1, none⟩) _ hsz
        have hT2 := (hT.set0 (la)).set1 (lb)
        gi_wp2_with fail
        refine cix_one (m := 0) 8 _ rfl rfl (by kernel_rfl) ?_
        show wpListIn _ _ _ _ _ [_] _ _
        gi_wp2_with fail
        refine cix_done (by kernel_rfl) ?_ _
        go_wp2_with fail
        go_meet
        exact ⟨s, rfl, hsz, hT2, kY, rfl⟩
    · show wpListIn _ _ _ _ _ [_] _ _
      gi_wp2_with fail
      obtain ⟨s, hs⟩ : ∃ s, f6.heap.size = s := ⟨_, rfl⟩
      obtain ⟨u1, hu1⟩ : ∃ v, (f6.alloc (.cells #[.int .i64 0, .int .i64 0] 23)).drew = v := ⟨_, rfl⟩
      have c1 : Keeps f6 u1 := by rw [← hu1]; exact ((Keeps.refl f6).alloc _).drew
      have a0 : u1.cell? ⟨s, 0, none⟩ = some (.int .i64 0) := by rw [← hu1, ← hs]; simp [go_sem]
      have a1 : u1.cell? ⟨s, 1, none⟩ = some (.int .i64 0) := by rw [← hu1, ← hs]; simp [go_sem]
      have z0 : u1.frozen? ⟨s, 0, none⟩ = false := by rw [← hu1, ← hs]; simp [go_sem]
      have z1 : u1.frozen? ⟨s, 1, none⟩ = false := by rw [← hu1, ← hs]; simp [go_sem]
      have hsz : f6.heap.size ≤ s := by rw [← hs]; exact (Keeps.refl f6).size
      rw [hu1, hs]
      clear hu1 hs
      refine ⟨c1, ?_⟩
      refine cix_one (m := 6) 1 _ rfl rfl (by kernel_rfl) ?_
      show wpListIn _ _ _ _ _ [_] _ _
      gi_wp2_with fail
      rename_i hK
      refine ⟨trivial, ((callsIn_wide (n := 2)).2 (SP.out (0) (0) _)).mono ?_⟩
      rintro e u2 ⟨rfl, k⟩
      have c2 := c1.trans k
      have hss := lt_of_cell a0
      replace z0 := (k.cells.2 s 0 hss).trans z0
      replace z1 := (k.cells.2 s 1 hss).trans z1
      replace a0 := k.cell a0
      replace a1 := k.cell a1
      refine hK _ _ (.inl ⟨rfl, c2, ?_⟩)
      clear hK k
      refine cix_one (m := 5) 2 _ rfl rfl (by kernel_rfl) ?_
      show wpListIn _ _ _ _ _ [_] _ _
      gi_wp2_with fail
      rename_i hK
      refine ⟨trivial, ((callsIn_wide (n := 2)).2 (SZ.out _ (kk.trans c2))).mono ?_⟩
      rintro e u3 ⟨rfl, k⟩
      have c3 := c2.trans k
      have hss := lt_of_cell a0
      replace z0 := (k.cells.2 s 0 hss).trans z0
      replace z1 := (k.cells.2 s 1 hss).trans z1
      replace a0 := k.cell a0
      replace a1 := k.cell a1
      refine hK _ _ (.inl ⟨rfl, c3, ?_⟩)
      clear hK k
      refine cix_quiet (m := 2) (CixOk.of (fun _ => trivial) (fun _ _ _ _ hd h => ⟨hd.symm.trans h.1, h.2⟩) (by kernel_rfl)) [3, 4, 5] rfl (by kernel_rfl) c3 ?_
      show wpQuietIn _ _ _ _ _ _ [_, _, _] _
      iterate 3 (gi_big_quiet_step (fail))
      refine wpQuietIn_nil ?_
      refine cix_one (m := 1) 7 _ rfl rfl (by kernel_rfl) ?_
      show wpListIn _ _ _ _ _ [_] _ _
      have hT : TwoI u3 s 0 0 := ⟨a0, a1, z0, z1⟩
      have kY : Keeps f6 ((u3.setCell ⟨s, 0, none⟩ (.int .i64 la)).setCell ⟨s, 1, none⟩ (.int .i64 lb)) := (c3.setCell (p := ⟨s, 0, none⟩) _ hsz).setCell (p := ⟨s, 1, none⟩) _ hsz
      have hT2 := (hT.set0 (la)).set1 (lb)
      gi_wp2_with fail
      refine cix_one (m := 0) 8 _ rfl rfl (by kernel_rfl) ?_
      show wpListIn _ _ _ _ _ [_] _ _
      gi_wp2_with fail
      refine cix_done (by kernel_rfl) ?_ _
      go_wp2_with fail
      go_meet
      exact ⟨s, rfl, hsz, hT2, kY, rfl⟩
  case rest =>
    obtain ⟨s7, rfl, hs7, hT7, kc, rfl⟩ := hcut
    obtain ⟨z7, hz7⟩ : ∃ W : World, W = wc := ⟨_, rfl⟩
    cases hz7
    rename_i hK
    refine hK _ _ (wp_on (c' := pairs_two 42) (by kernel_rfl) ?_)
    clear hK
    replace kk := kk.trans kc
    replace h0 := kc.cell h0
    replace h1 := kc.cell h1
    replace h2 := kc.cell h2
    replace h3 := kc.cell h3
    replace h4 := kc.cell h4
    replace h5 := kc.cell h5
    replace kv := kv.trans kc
    replace pa0 := kc.cell pa0
    replace pa1 := kc.cell pa1
    replace pb0 := kc.cell pb0
    replace pb1 := kc.cell pb1
    replace pc0 := kc.cell pc0
    replace pc1 := kc.cell pc1
    have pd0 := hT7.c0
    have pd1 := hT7.c1
    clear kc hT7
    replace hi1 := hi1.keep kv
    replace hi2 := hi2.keep kv
    replace hi3 := hi3.keep kv
    rcases HCS.out with ⟨rfl, rfl, rfl, rfl, rfl, hm0⟩ | ⟨rfl, hm0, hE1, hE2, hE3⟩
    · subst hm0
      by_cases hre : 0 < rs.length
      · have heh := HEE.out hre
        subst heh
        exact pairs_42n1 ra rc rs b0 sA sB sC s7 cp1 cp2 cp3 _ _ _ L1 L2 L3 ha hb w _ kk h5 pa0 pa1 pb0 pb1 pc0 pc1 pd0 pd1 hre _ _ _ _ _ _ _ _ _ _ _ _ _ _ _ _ _ _ _ _ _ _ _ _ _ _ _ _ _ _ _ _ _ _ _ _ _ _ _ _ _ _ _ _ _ _ _ _ _ _ _ _ _ _ _ _ _ _ _ _ _ _ _ _ _ _ _ _ _ _ _ _ _ _ _ _ _ _ _ _ _ _ _ _ _ _ _ _ _ _ _ _ _ _ _ _ _ _ _ _ _ _ _ _ _ _ _ _ _ _ _ _ _ _ _ _ _ _ _ _ _ _ _ _ _ _ _ _ _ _ _ _ _ _ _ _ _ _ _ _ _ _ _ _ _ _ _ _ _ _ _ _ _ _ _ _ _ _ _ _ _ _ _ _ _ _ _ _ _ _ _ _ _ _ _ _ _ _ _ _ _ _ _ _ _ _ _ _ _ _ _ _ _ _ _ _ _ _ _ _ _ _ _ _ _ _ _ _ _ _ _ _ _ _ _ _ _ _ _ _ _ _ _ _ _ _ _ _ _ _ _ _ _ _ _ _ _ _ _ _ _ _ _ _ _ _ _ _ _ _ _ _ _ _ _ _ _ _ _ _ _ _ _ _ _ _ _ _ _ _ _ _ _ _ _ _ _ _ _ _ _ _ _ _ _ _ _ _ _ _ _ _ _ _ _ _ _ _ _ _ _ _ _ _ _ _ _ _ _ _ _ _ _
      · exact pairs_42n0 ra rc rs b0 sA sB sC s7 cp1 cp2 cp3 _ _ _ L1 L2 L3 ha hb eh w _ kk h5 pa0 pa1 pb0 pb1 pc0 pc1 pd0 pd1 hre _ _ _ _ _ _ _ _ _ _ _ _ _ _ _ _ _ _ _ _ _ _ _ _ _ _ _ _ _ _ _ _ _ _ _ _ _ _ _ _ _ _ _ _ _ _ _ _ _ _ _ _ _ _ _ _ _ _ _ _ _ _ _ _ _ _ _ _ _ _ _ _ _ _ _ _ _ _ _ _ _ _ _ _ _ _ _ _ _ _ _ _ _ _ _ _ _ _ _ _ _ _ _ _ _ _ _ _ _ _ _ _ _ _ _ _ _ _ _ _ _ _ _ _ _ _ _ _ _ _ _ _ _ _ _ _ _ _ _ _ _ _ _ _ _ _ _ _ _ _ _ _ _ _ _ _ _ _ _ _ _ _ _ _ _ _ _ _ _ _ _ _ _ _ _ _ _ _ _ _ _ _ _ _ _ _ _ _ _ _ _ _ _ _ _ _ _ _ _ _ _ _ _ _ _ _ _ _ _ _ _ _ _ _ _ _ _ _ _ _ _ _ _ _ _ _ _ _ _ _ _ _ _ _ _ _ _ _ _ _ _ _ _ _ _ _ _ _ _ _ _ _ _ _ _ _ _ _ _ _ _ _ _ _ _ _ _ _ _ _ _ _ _ _ _ _ _ _ _ _ _ _ _ _ _ _ _ _ _ _ _ _ _ _ _ _ _ _ _ _ _ _ _ _ _ _ _ _ _ _ _ _ _
    · by_cases hre : 0 < rs.length
      · have heh := HEE.out hre
        subst heh
        exact pairs_42y1 ra rc rs b0 m sA sB sC s7 cp1 cp2 cp3 _ _ _ L1 L2 L3 la lb ca cb ha hb w _ kk h5 pa0 pa1 pb0 pb1 pc0 pc1 pd0 pd1 hi1 hi2 hi3 (by omega) (by omega) (by omega) hm0 hE1 hE2 (hE3 hre) hre _ _ _ _ _ _ _ _ _ _ _ _ _ _ _ _ _ _ _ _ _ _ _ _ _ _ _ _ _ _ _ _ _ _ _ _ _ _ _ _ _ _ _ _ _ _ _ _ _ _ _ _ _ _ _ _ _ _ _ _ _ _ _ _ _ _ _ _ _ _ _ _ _ _ _ _ _ _ _ _ _ _ _ _ _ _ _ _ _ _ _ _ _ _ _ _ _ _ _ _ _ _ _ _ _ _ _ _ _ _ _ _ _ _ _ _ _ _ _ _ _ _ _ _ _ _ _ _ _ _ _ _ _ _ _ _ _ _ _ _ _ _ _ _ _ _ _ _ _ _ _ _ _ _ _ _ _ _ _ _ _ _ _ _ _ _ _ _ _ _ _ _ _ _ _ _ _ _ _ _ _ _ _ _ _ _ _ _ _ _ _ _ _ _ _ _ _ _ _ _ _ _ _ _ _ _ _ _ _ _ _ _ _ _ _ _ _ _ _ _ _ _ _ _ _ _ _ _ _ _ _ _ _ _ _ _ _ _ _ _ _ _ _ _ _ _ _ _ _ _ _ _ _ _ _ _ _ _ _ _ _ _ _ _ _ _ _ _ _ _ _ _ _ _ _ _ _ _ _ _ _ _ _ _ _ _ _ _ _ _ _ _ _ _ _ _ _ _ _ _ _ _ _ _ _ _ _ _ _ _ _ _ _
      · exact pairs_42y0 ra rc rs b0 m sA sB sC s7 cp1 cp2 cp3 _ _ _ L1 L2 L3 la lb ca cb ha hb eh w _ kk h5 pa0 pa1 pb0 pb1 pc0 pc1 pd0 pd1 hi1 hi2 hi3 (by omega) (by omega) (by omega) hm0 hE1 hE2 hre _ _ _ _ _ _ _ _ _ _ _ _ _ _ _ _ _ _ _ _ _ _ _ _ _ _ _ _ _ _ _ _ _ _ _ _ _ _ _ _ _ _ _ _ _ _ _ _ _ _ _ _ _ _ _ _ _ _ _ _ _ _ _ _ _ _ _ _ _ _ _ _ _ _ _ _ _ _ _ _ _ _ _ _ _ _ _ _ _ _ _ _ _ _ _ _ _ _ _ _ _ _ _ _ _ _ _ _ _ _ _ _ _ _ _ _ _ _ _ _ _ _ _ _ _ _ _ _ _ _ _ _ _ _ _ _ _ _ _ _ _ _ _ _ _ _ _ _ _ _ _ _ _ _ _ _ _ _ _ _ _ _ _ _ _ _ _ _ _ _ _ _ _ _ _ _ _ _ _ _ _ _ _ _ _ _ _ _ _ _ _ _ _ _ _ _ _ _ _ _ _ _ _ _ _ _ _ _ _ _ _ _ _ _ _ _ _ _ _ _ _ _ _ _ _ _ _ _ _ _ _ _ _ _ _ _ _ _ _ _ _ _ _ _ _ _ _ _ _ _ _ _ _ _ _ _ _ _ _ _ _ _ _ _ _ _ _ _ _ _ _ _ _ _ _ _ _ _ _ _ _ _ _ _ _ _ _ _ _ _ _ _ _ _ _ _ _ _ _ _ _ _ _ _ _ _ _ _ _ _ _ _ _
end Go.Proofs.Ytdfiebfgmpdceaa
