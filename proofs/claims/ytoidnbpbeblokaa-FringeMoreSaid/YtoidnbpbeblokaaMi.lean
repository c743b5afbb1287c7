/-
  FringeMore, from where the fringe that is turned round is made.
-/
import Derived.Test.YtoidnbpbeblokaaMg
namespace Go.Proofs.Ytoidnbpbeblokaa
open Go.RowKit Go.Shelf

/-- All fringes but the one that is turned round. -/
structure Rest (F X Y Z : Fr) (b3 b9 b10 b11 b12 : Nat) (W : World) : Prop where
  f : F.Box W b3
  fi : F.In W
  x : X.Box W b9
  xi : X.In W
  y : Y.Box W b10
  yi : Y.In W
  z : Z.Box W b11
  zi : Z.In W
  n3 : b3 ≠ b12
  n9 : b9 ≠ b12
  n10 : b10 ≠ b12
  n11 : b11 ≠ b12
  f1 : F.ws ≠ [] → Away b12 F.wa
  f2 : F.rs ≠ [] → Away b12 F.ra
  x1 : X.ws ≠ [] → Away b12 X.wa
  x2 : X.rs ≠ [] → Away b12 X.ra
  y1 : Y.ws ≠ [] → Away b12 Y.wa
  y2 : Y.rs ≠ [] → Away b12 Y.ra
  z1 : Z.ws ≠ [] → Away b12 Z.wa
  z2 : Z.rs ≠ [] → Away b12 Z.ra
theorem Rest.grown {F X Y Z : Fr} {b3 b9 b10 b11 b12 : Nat} {W W' : World} (h : Rest F X Y Z b3 b9 b10 b11 b12 W) (hg : W.grownBy W' (some b12)) : Rest F X Y Z b3 b9 b10 b11 b12 W' :=
  ⟨h.f.grown hg h.n3, h.fi.grown hg h.f1 h.f2, h.x.grown hg h.n9, h.xi.grown hg h.x1 h.x2, h.y.grown hg h.n10, h.yi.grown hg h.y1 h.y2, h.z.grown hg h.n11, h.zi.grown hg h.z1 h.z2, h.n3, h.n9, h.n10, h.n11, h.f1, h.f2, h.x1, h.x2, h.y1, h.y2, h.z1, h.z2⟩
theorem Four.put0 {W : World} {b : Nat} {v0 v1 v2 v3 : Value} (h : Four W b v0 v1 v2 v3) (v : Value) : Four (W.setCell ⟨b, 0, none⟩ v) b v v1 v2 v3 :=
  ⟨cell_set_same (by rw [h.c0]; rfl), (cell_set_other (by omega)).trans h.c1, (cell_set_other (by omega)).trans h.c2, (cell_set_other (by omega)).trans h.c3, fun o => by rw [World.frozen?_setCell]; exact h.fr o⟩
theorem cells_ty {w : World} {base size k : Nat} {e : TypeId} {v : Value} {l : List Value} (h : w.ownsRow base e size v k l) : ∀ j, v.ownBlock = some j → ∃ cur, w.heap[j]? = some (.cells cur e (0, 0)) := by
  intro j hj
  rcases h.2 with ⟨rfl, _⟩ | ⟨g, c, cur, rfl, _, hg, _⟩
  · cases hj
  · obtain rfl : g = j := by simpa [Value.ownBlock] using hj
    exact ⟨cur, hg⟩
/-- Two rows of the call's own that hold other things are two rows. -/
theorem more_apart {w : World} {base base' size size' k k' : Nat} {v v' : Value} {l l' : List Value} (h : w.ownsRow base 3 size v k l) (h' : w.ownsRow base' 41 size' v' k' l') : v.ownBlock = none ∨ v.ownBlock ≠ v'.ownBlock := by
  cases hv : v.ownBlock with
  | none => exact .inl rfl
  | some j =>
    refine .inr fun e => ?_
    obtain ⟨c, h1⟩ := cells_ty h j hv
    obtain ⟨c', h2⟩ := cells_ty h' j e.symm
    rw [h1] at h2
    simp at h2
theorem grown_drew {W W1 : World} {b : Nat} (h : W.grownBy W1 (some b)) : W.grownBy W1.drew (some b) := ⟨h.os, h.tape, h.output, h.size, h.block⟩
theorem lit_int (X : World) (x : Int) : Ints (X.alloc (.cells #[.int .i64 x] 3)) (some ⟨X.heap.size, 0, none⟩) [x] := fun _ => ⟨_, _, rfl, fun i hi => by
  obtain rfl : i = 0 := by simpa using hi
  simp [go_sem]⟩
theorem ints_row {w : World} {base : Nat} {v : Value} {xs : List Int} (h : w.ownsRow base 3 1 v xs.length (xs.map (Value.int .i64))) : ∃ a cap, v = .slice a xs.length cap ∧ Ints w a xs ∧ ∀ b o, a = some ⟨b, o, none⟩ → base ≤ b := by
  rcases own_cases h with rfl | ⟨g, cap, rfl⟩
  · obtain ⟨a, cap, e, h1⟩ := ints_of_owns h
    simp only [Value.slice.injEq] at e
    obtain ⟨rfl, e2, rfl⟩ := e
    exact ⟨none, _, by rw [← e2], h1, fun _ _ e => by cases e⟩
  · obtain ⟨a, cap', e, h1⟩ := ints_of_owns h
    simp only [Value.slice.injEq] at e
    obtain ⟨rfl, _, rfl⟩ := e
    exact ⟨_, _, rfl, h1, fun b o e => by cases e; exact ownsRow_base h⟩
theorem rev_take {ws : List Int} {k : Nat} (hk : k < ws.length) : (ws.reverse.take (k + 1)).map (Value.int .i64) = (ws.reverse.take k).map (Value.int .i64) ++ [.int .i64 (ws[ws.length - 1 - k]?.getD 0)] := by
  rw [List.take_succ_eq_append_getElem (by simpa using hk), List.map_append, List.map_cons, List.map_nil, List.getElem_reverse, List.getElem?_eq_getElem (by omega)]
  rfl
theorem turn_take {n : Nat} {rs : List Rd} {k : Nat} (hk : k < rs.length) : rdCells ((rs.map (turnR n)).reverse.take (k + 1)) = rdCells ((rs.map (turnR n)).reverse.take k) ++ rdCells [turnR n (rs[rs.length - 1 - k]?.getD (0, 0, 0))] := by
  rw [List.take_succ_eq_append_getElem (by simpa using hk), rdCells_append, List.getElem_reverse, List.getElem_map, List.getElem?_eq_getElem (by omega)]
  simp
set_option maxRecDepth 100000 in
set_option maxHeartbeats 40000000 in
theorem more_11 (wa : Option Addr) (wc : Nat) (ws : List Int) (lo hi : Int) (ra : Option Addr) (rc : Nat) (rs : List Rd) (X Y Z : Fr) (b3 b9 b10 b11 b12 c : Nat) (t0 t3 : Value) (w wr : World) (AL : Hid (∀ w, Calls Try.prog 13 #[] w (RetB true w)))
    (hok : Fr.ok ⟨wa, wc, ws, lo, hi, ra, rc, rs⟩ = true) (hc : c < ws.length) (R : Rest ⟨wa, wc, ws, lo, hi, ra, rc, rs⟩ X Y Z b3 b9 b10 b11 b12 wr) (lX : Less ⟨wa, wc, ws, lo, hi, ra, rc, rs⟩ X c True) (lY : Less ⟨wa, wc, ws, lo, hi, ra, rc, rs⟩ Y c False) (lZ : Less ⟨wa, wc, ws, lo, hi, ra, rc, rs⟩ Z c False) (hT : Four wr b12 t0 (.int .i64 lo) (.int .i64 hi) t3) (kr : Keeps w wr) (h12 : w.heap.size ≤ b12)
    (x0 x1 x2 x4 x5 x6 x13 x14 x15 x16 x17 x18 x19 x20 x21 x22 x23 x24 x25 x26 x27 x28 x29 x30 x31 x32 x33 x34 x35 x36 x37 x38 x39 x40 x41 x42 x43 x44 x45 x46 x47 x48 x49 x50 x51 x52 x53 x54 x55 x56 x57 x58 x59 x60 x61 x62 x63 x64 x65 x66 x67 x68 x69 x70 x71 x72 x73 x74 x75 x76 x77 x78 x79 x80 x81 x82 x83 x84 x85 x86 x87 x88 x89 x90 x91 x92 x93 x94 x95 x96 x97 x98 x99 x100 x101 x102 x103 x104 x105 x106 x107 x108 x109 x110 x111 x112 x113 x114 x115 x116 x117 x118 x119 x120 x121 x122 x123 x124 x125 x126 x127 x128 x129 x130 x131 x132 x133 x134 x135 x136 x137 x138 x139 x140 x141 x142 x143 x144 x145 x146 x147 x148 x149 x150 x151 x152 x153 x154 x155 x156 x157 x158 x159 x160 x161 x162 x163 x164 x165 x166 x167 x168 x169 x170 x171 x172 x173 x174 x175 x176 x177 x178 x179 x180 x181 x182 x183 x184 x185 x186 x187 x188 x189 x190 x191 x192 x193 x194 x195 x196 x197 x198 x199 x200 x201 x202 x203 x204 x205 x206 x207 x208 x209 x210 x211 x212 x213 x214 x215 x216 x217 x218 x219 x220 x221 x222 x223 x224 x225 x226 x227 x228 x229 x230 x231 x232 x233 x234 x235 x236 x237 x238 x239 x240 x241 x242 x243 x244 x245 x246 x247 x248 x249 x250 x251 x252 x253 x254 x255 x256 x257 x258 x259 x260 x261 x262 x263 x264 x265 x266 x267 x268 x269 x270 x271 x272 x273 x274 x275 x276 x277 x278 x279 x280 x281 x282 x283 x284 x285 x286 x287 x288 x289 x290 x291 x292 x293 x294 x295 x296 x297 x298 x299 x300 x301 x302 x303 x304 x305 x306 x307 x308 x309 x310 x311 x312 x313 x314 x315 x316 x317 x318 x319 x320 x321 x322 x323 x324 x325 x326 x327 x328 x329 x330 x331 x332 x333 x334 x335 x336 x337 x338 x339 x340 x341 x342 x343 x344 x345 x346 x347 x348 x349 x350 x351 x352 x353 x354 x355 x356 x357 x358 x359 x360 x361 x362 x363 x364 x365 x366 x367 x368 x369 x370 x371 x372 x373 x374 x375 x376 x377 x378 x379 x380 x381 x382 x383 x384 x385 x386 x387 x388 x389 x390 x391 x392 x393 x394 x395 x396 : Value) :
    Code.wp Try.prog (more_from 11) (bodyPost Try.prog Try.f11 (RetB true w)) { tmps := #[x0, x1, x2, .pointer (some ⟨b3, 0, none⟩), x4, x5, x6, .int .i64 (ws.length : Int), .int .i64 (c : Int), .pointer (some ⟨b9, 0, none⟩), .pointer (some ⟨b10, 0, none⟩), .pointer (some ⟨b11, 0, none⟩), .pointer (some ⟨b12, 0, none⟩), x13, x14, x15, x16, x17, x18, x19, x20, x21, x22, x23, x24, x25, x26, x27, x28, x29, x30, x31, x32, x33, x34, x35, x36, x37, x38, x39, x40, x41, x42, x43, x44, x45, x46, x47, x48, x49, x50, x51, x52, x53, x54, x55, x56, x57, x58, x59, x60, x61, x62, x63, x64, x65, x66, x67, x68, x69, x70, x71, x72, x73, x74, x75, x76, x77, x78, x79, x80, x81, x82, x83, x84, x85, x86, x87, x88, x89, x90, x91, x92, x93, x94, x95, x96, x97, x98, x99, x100, x101, x102, x103, x104, x105, x106, x107, x108, x109, x110, x111, x112, x113, x114, x115, x116, x117, x118, x119, x120, x121, x122, x123, x124, x125, x126, x127, x128, x129, x130, x131, x132, x133, x134, x135, x136, x137, x138, x139, x140, x141, x142, x143, x144, x145, x146, x147, x148, x149, x150, x151, x152, x153, x154, x155, x156, x157, x158, x159, x160, x161, x162, x163, x164, x165, x166, x167, x168, x169, x170, x171, x172, x173, x174, x175, x176, x177, x178, x179, x180, x181, x182, x183, x184, x185, x186, x187, x188, x189, x190, x191, x192, x193, x194, x195, x196, x197, x198, x199, x200, x201, x202, x203, x204, x205, x206, x207, x208, x209, x210, x211, x212, x213, x214, x215, x216, x217, x218, x219, x220, x221, x222, x223, x224, x225, x226, x227, x228, x229, x230, x231, x232, x233, x234, x235, x236, x237, x238, x239, x240, x241, x242, x243, x244, x245, x246, x247, x248, x249, x250, x251, x252, x253, x254, x255, x256, x257, x258, x259, x260, x261, x262, x263, x264, x265, x266, x267, x268, x269, x270, x271, x272, x273, x274, x275, x276, x277, x278, x279, x280, x281, x282, x283, x284, x285, x286, x287, x288, x289, x290, x291, x292, x293, x294, x295, x296, x297, x298, x299, x300, x301, x302, x303, x304, x305, x306, x307, x308, x309, x310, x311, x312, x313, x314, x315, x316, x317, x318, x319, x320, x321, x322, x323, x324, x325, x326, x327, x328, x329, x330, x331, x332, x333, x334, x335, x336, x337, x338, x339, x340, x341, x342, x343, x344, x345, x346, x347, x348, x349, x350, x351, x352, x353, x354, x355, x356, x357, x358, x359, x360, x361, x362, x363, x364, x365, x366, x367, x368, x369, x370, x371, x372, x373, x374, x375, x376, x377, x378, x379, x380, x381, x382, x383, x384, x385, x386, x387, x388, x389, x390, x391, x392, x393, x394, x395, x396], defers := [] } wr := by
  conv => arg 2; whnf
  obtain ⟨hw1, hw4⟩ := Fr.wl_in _ hok
  have hrl := Fr.rl_in _ hok
  have HRI := Lib.hid (fun (j : Nat) (hj : j < rs.length) => Fr.rd_in ⟨wa, wc, ws, lo, hi, ra, rc, rs⟩ hok hj)
  dsimp only at hw1 hw4 hrl
  have f0 := hT.c0
  have f3 := hT.c3
  have e0 := hT.fr 0
  have e3 := hT.fr 3
  have fl := hT.lt
  have HT := Lib.hid hT
  have HR := Lib.hid R
  have HOK := Lib.hid hok
  have LX := Lib.hid lX
  have LY := Lib.hid lY
  have LZ := Lib.hid lZ
  clear hT R hok lX lY lZ
  go_upto_region 12 with fail
  obtain ⟨W1, hW1⟩ : ∃ W1 : World, (wr.setCell ⟨b12, 0, none⟩ (.slice none 0 0)).setCell ⟨b12, 3, none⟩ (.slice none 0 0) = W1 := ⟨_, rfl⟩
  have G1 : wr.grownBy W1 (some b12) := hW1 ▸ grown_set (grown_set (grown_refl _ _) 0 _) 3 _
  have T1 := Lib.hid (show Four W1 b12 (.slice none 0 0) (.int .i64 lo) (.int .i64 hi) (.slice none 0 0) from hW1 ▸ ((HT.out.put0 _).set3 _))
  rw [hW1]
  replace HR := Lib.hid (HR.out.grown G1)
  have k1 := kr.of_grown G1 h12
  have hb1 := T1.out.lt
  clear hW1 G1 HT f0 f3 e0 e3 fl kr
  have g0 := HR.out.f.c0
  have g1 := HR.out.f.c1
  have g2 := HR.out.f.c2
  have g3 := HR.out.f.c3
  dsimp only at g0 g1 g2 g3
  have gl := lt_of_cell g0
  go_wp2_with fail
  clear g0 g1 g2 g3 gl
  have AI := Lib.hid (fun w2 v n l ho a cc xs hx hn hb => append_ints w2 W1.heap.size 22 v n l ho a cc xs hx hn hb)
  go_loopw [123] (fun i wx => ∃ (k : Nat) (tv : Value), k ≤ ws.length ∧ i = .int .i64 k ∧ Four wx b12 tv (.int .i64 lo) (.int .i64 hi) (.slice none 0 0) ∧ wx.ownsRow W1.heap.size 3 1 tv k ((ws.reverse.take k).map (Value.int .i64)) ∧ W1.grownBy wx (some b12)) (fun i _ => ws.length - (intOf i).toNat)
  case atStart => exact ⟨0, _, Nat.zero_le _, rfl, T1.out, World.ownsRow_nil _ _ _ _, grown_refl _ _⟩
  case round =>
    obtain ⟨k, tv, hk, rfl, hF, hrow, hg⟩ := hrel
    have HF := Lib.hid hF
    have HW := Lib.hid hrow
    have HG := Lib.hid hg
    have HR2 := Lib.hid (HR.out.grown hg)
    have hsz := hg.size
    clear hF hrow hg
    by_cases hlt : k < ws.length
    · have q0 := HF.out.c0
      have q1 := HF.out.fr 0
      have q2 := HF.out.lt
      have g0 := HR2.out.f.c0
      dsimp only at g0
      have gl := lt_of_cell g0
      obtain ⟨bw, ow, rfl, hws⟩ := HR2.out.fi.ints (by intro e; simp only at e; rw [e] at hlt; simp at hlt)
      have hcc := hws (ws.length - 1 - k) (by show ws.length - 1 - k < ws.length; omega)
      dsimp only at hcc
      have htk := rev_take hlt
      obtain ⟨x, hx⟩ : ∃ x, ws[ws.length - 1 - k]?.getD 0 = x := ⟨_, rfl⟩
      rw [hx] at hcc htk
      have HTK := Lib.hid htk
      have i1 : (k : Int) ≤ (ws.length : Int) - 1 := by omega
      have i2 : (ws.length : Int) - 1 - (k : Int) < (ws.length : Int) := by omega
      have lw := lt_of_cell hcc
      have w1 : IntKind.i64.wrap ((ws.length : Int) - 1) = (ws.length : Int) - 1 := IntWalk.i64_in _ (by constructor <;> omega)
      have w2 : IntKind.i64.wrap ((ws.length : Int) - 1 - (k : Int)) = (ws.length : Int) - 1 - (k : Int) := IntWalk.i64_in _ (by constructor <;> omega)
      clear hws hx htk
      go_wp2_with fail
      go_region_law (first
        | (refine step_append_run (by rfl) (.tmp 127) (.tmp 136) 22 (by rfl) tv (.slice (some ⟨wr.heap.size, 0, none⟩) 1 1) (by simp [Act.eval]) (by simp [Act.eval]) _ (AI.out _ _ _ _ (by exact World.ownsRow.alloc (w := wr.drew) HW.out _) (some ⟨wr.heap.size, 0, none⟩) 1 [x] (by exact lit_int wr.drew x) (by simp; omega) (by simp; omega)) ?_
           rintro v5 w5 ⟨ho5, hg5⟩
           have F5 := Four.kept (HF.out.keep ((Keeps.refl wr).drew.alloc (.cells #[.int .i64 x] 3))) hg5 (fun e => by have := (HW.out.lt b12 e.symm).1; omega)
           have HF5 := Lib.hid F5
           have HO5 := Lib.hid ho5
           have HG5 := Lib.hid (grown_row (grown_alloc (grown_drew HG.out) (.cells #[.int .i64 x] 3)) hg5 (fun j e => .inl (HW.out.lt j e).1))
           obtain ⟨g5, cap5, rfl⟩ := ownsRow_succ ho5
           have s0 := F5.c0
           have s1 := F5.fr 0
           have s2 := F5.lt
           clear F5 ho5 hg5))
      all_goals
        clear AI q0 q1 q2 g0 gl hcc lw s0 s1 s2
        go_wp2
        go_roundw
        case rel => exact ⟨k + 1, _, by omega, by go_num, HF5.out.put0 _, by rw [HTK.out]; exact ownsRow_setCell_below HO5.out (by show b12 < W1.heap.size; omega) _, grown_set HG5.out 0 _⟩
        case measure => simp [intOf]; omega
    · obtain rfl : k = ws.length := by omega
      have hrow := HW.out
      rw [List.take_of_length_le (by simp)] at hrow
      obtain ⟨ta, tc, rfl, hTI, hta⟩ := ints_row (xs := ws.reverse) (by rw [List.length_reverse]; exact hrow)
      have aT : Away b12 ta := fun b' o e => by have := hta b' o e; omega
      have HTI := Lib.hid hTI
      have k2 := k1.of_grown HG.out h12
      replace HF := Lib.hid (show Four wr b12 (.slice ta ws.length tc) (.int .i64 lo) (.int .i64 hi) (.slice none 0 0) from by have h := HF.out; rw [List.length_reverse] at h; exact h)
      obtain ⟨W2, rfl⟩ : ∃ W2 : World, W2 = wr := ⟨_, rfl⟩
      have hb2 := HF.out.lt
      have g0 := HR2.out.f.c0
      have g1 := HR2.out.f.c1
      have g2 := HR2.out.f.c2
      have g3 := HR2.out.f.c3
      dsimp only at g0 g1 g2 g3
      have gl := lt_of_cell g0
      clear hrow hTI hta HW HG T1 HR AI k1
      go_wp2_with fail
      clear g0 g1 g2 g3 gl
      have AR := Lib.hid (fun w2 v n l (ho : w2.ownsRow W2.heap.size 41 3 v n l) b (r : Rd) hr hn hb => append_reads w2 W2.heap.size 25 v n l ho (some ⟨b, 0, none⟩) 1 [r] hr hn hb)
      go_loopw [143] (fun i wx => ∃ (k : Nat) (tv : Value), k ≤ rs.length ∧ i = .int .i64 k ∧ Four wx b12 (.slice ta ws.length tc) (.int .i64 lo) (.int .i64 hi) tv ∧ wx.ownsRow W2.heap.size 41 3 tv k (rdCells ((rs.map (turnR ws.length)).reverse.take k)) ∧ W2.grownBy wx (some b12)) (fun i _ => rs.length - (intOf i).toNat)
      case atStart => exact ⟨0, _, Nat.zero_le _, rfl, HF.out, World.ownsRow_nil _ _ _ _, grown_refl _ _⟩
      case round =>
        obtain ⟨k, tv, hk, rfl, hF, hrow, hg⟩ := hrel
        replace HF := Lib.hid hF
        have HW := Lib.hid hrow
        have HG := Lib.hid hg
        have HR3 := Lib.hid (HR2.out.grown hg)
        have hsz := hg.size
        clear hF hrow hg
        by_cases hlk : k < rs.length
        · have q3 := HF.out.c3
          have q1 := HF.out.fr 3
          have q2 := HF.out.lt
          have g3 := HR3.out.f.c3
          dsimp only at g3
          have gl := lt_of_cell g3
          obtain ⟨br, or_, rfl, hrs⟩ := HR3.out.fi.rds (by intro e; simp only at e; rw [e] at hlk; simp at hlk)
          have hcc := hrs (rs.length - 1 - k) (by show rs.length - 1 - k < rs.length; omega)
          have hri := HRI.out (rs.length - 1 - k) (by omega)
          dsimp only at hcc hri
          have htk := turn_take (n := ws.length) hlk
          obtain ⟨⟨p, x, y⟩, hx⟩ : ∃ r, rs[rs.length - 1 - k]?.getD (0, 0, 0) = r := ⟨_, rfl⟩
          rw [hx] at hcc htk hri
          dsimp only [turnR] at hcc htk hri
          obtain ⟨c0, c1, c2⟩ := hcc
          obtain ⟨p0, p1, _⟩ := hri
          have HTK := Lib.hid htk
          have i1 : (k : Int) ≤ (rs.length : Int) - 1 := by omega
          have i2 : (rs.length : Int) - 1 - (k : Int) < (rs.length : Int) := by omega
          have lw := lt_of_cell c0
          have w1 : IntKind.i64.wrap ((rs.length : Int) - 1) = (rs.length : Int) - 1 := IntWalk.i64_in _ (by constructor <;> omega)
          have w2 : IntKind.i64.wrap ((rs.length : Int) - 1 - (k : Int)) = (rs.length : Int) - 1 - (k : Int) := IntWalk.i64_in _ (by constructor <;> omega)
          have w3 : IntKind.i64.wrap ((ws.length : Int) - 1) = (ws.length : Int) - 1 := IntWalk.i64_in _ (by constructor <;> omega)
          have w4 : IntKind.i64.wrap ((ws.length : Int) - 1 - p) = (ws.length : Int) - 1 - p := IntWalk.i64_in _ (by constructor <;> omega)
          have LIT := Lib.hid (show Rds ((wr.alloc (.cells #[.int .i64 p, .int .i64 x, .int .i64 y] 41)).alloc (.cells #[.int .i64 ((ws.length : Int) - 1 - p), .int .i64 x, .int .i64 y] 41)) (some ⟨wr.heap.size + 1, 0, none⟩) [((ws.length : Int) - 1 - p, x, y)] from by
            have h := lit_rds (wr.alloc (.cells #[.int .i64 p, .int .i64 x, .int .i64 y] 41)) ((ws.length : Int) - 1 - p) x y
            simpa using h)
          clear hrs hx htk
          go_wp2_with (at_builtin; refine wpList_step ?_; intro K hK; refine step_append_run (by rfl) (.tmp 157) (.tmp 166) 25 (by rfl) tv (.slice (some ⟨wr.heap.size + 1, 0, none⟩) 1 1) (by simp [Act.eval]) (by simp [Act.eval]) _ (AR.out _ _ _ _ (by exact (HW.out.alloc _).alloc _) _ _ LIT.out (by simp; omega) (by simp; omega)) ?_; rintro v5 w5 hgr; have F5 := Four.kept ((HF.out.keep ((Keeps.refl wr).alloc (.cells #[.int .i64 p, .int .i64 x, .int .i64 y] 41))).keep ((Keeps.refl _).alloc (.cells #[.int .i64 ((ws.length : Int) - 1 - p), .int .i64 x, .int .i64 y] 41))) hgr.2 (fun e => by have := (HW.out.lt b12 e.symm).1; omega); have HF5 := Lib.hid F5; have HO5 := Lib.hid hgr.1; have HG5 := Lib.hid (grown_row (grown_alloc (grown_alloc HG.out (.cells #[.int .i64 p, .int .i64 x, .int .i64 y] 41)) (.cells #[.int .i64 ((ws.length : Int) - 1 - p), .int .i64 x, .int .i64 y] 41)) hgr.2 (fun j e => .inl (HW.out.lt j e).1)); have ho5 := hgr.1; obtain ⟨g5, cap5, rfl⟩ := ownsRow_succ ho5; have s0 := F5.c3; have s1 := F5.fr 3; have s2 := F5.lt; clear F5 ho5 hgr; refine hK _ _ ?_)
          go_roundw
          case rel => exact ⟨k + 1, _, by omega, by go_num, HF5.out.set3 _, by rw [HTK.out]; exact ownsRow_setCell_below HO5.out (by show b12 < W2.heap.size; omega) _, grown_set HG5.out 3 _⟩
          case measure => simp [intOf]; omega
        · obtain rfl : k = rs.length := by omega
          have hrow := HW.out
          rw [List.take_of_length_le (by simp)] at hrow
          obtain ⟨ua, uc, rfl, hUI, hua⟩ := Rds.of_owns (l := (rs.map (turnR ws.length)).reverse) (by simpa using hrow)
          have hUI := Lib.hid hUI
          have k3 := k2.of_grown HG.out h12
          replace HF := Lib.hid (show Four wr b12 (.slice ta ws.length tc) (.int .i64 lo) (.int .i64 hi) (.slice ua rs.length uc) from by have h := HF.out; simp only [List.length_reverse, List.length_map] at h; exact h)
          obtain ⟨W3, rfl⟩ : ∃ W3 : World, W3 = wr := ⟨_, rfl⟩
          replace HTI := Lib.hid (HTI.out.grown HG.out (fun _ => aT))
          have HTB := Lib.hid (show Fr.Box (Fr.turn ⟨wa, wc, ws, lo, hi, ra, rc, rs⟩ ta tc ua uc) W3 b12 from ⟨by simpa [Fr.turn] using HF.out.c0, HF.out.c1, HF.out.c2, by simpa [Fr.turn] using HF.out.c3⟩)
          have HTF := Lib.hid (show Fr.In (Fr.turn ⟨wa, wc, ws, lo, hi, ra, rc, rs⟩ ta tc ua uc) W3 from ⟨HTI.out, hUI.out, by show ws.reverse.length ≤ maxLen; rw [List.length_reverse]; unfold maxLen; omega, by show (rs.map (turnR ws.length)).reverse.length ≤ maxLen; rw [List.length_reverse, List.length_map]; unfold maxLen; omega⟩)
          have g0 := HR3.out.f.c0
          have g1 := HR3.out.f.c1
          have g2 := HR3.out.f.c2
          have g3 := HR3.out.f.c3
          dsimp only at g0 g1 g2 g3
          have gl := lt_of_cell g0
          have OI := Lib.hid (fun W => World.ownsRow_made (base := W3.heap.size) (e := 3) (size := 1) W #[] 0)
          have OR := Lib.hid (fun W => World.ownsRow_made (base := W3.heap.size) (e := 41) (size := 3) W #[] 0)
          have AI := Lib.hid (fun w2 v (ho : w2.ownsRow W3.heap.size 3 1 v 0 []) (kk : Keeps W3 w2) => append_ints w2 W3.heap.size 22 v 0 [] ho wa wc ws (HR3.out.fi.ints.keep kk) (by omega) kk.size)
          have AQ := Lib.hid (fun w2 v (ho : w2.ownsRow W3.heap.size 41 3 v 0 []) (kk : Keeps W3 w2) => append_reads w2 W3.heap.size 25 v 0 [] ho ra rc rs (HR3.out.fi.rds.keep kk) (by omega) kk.size)
          have OA := Lib.hid (OI.out W3 (Nat.le_refl _) (Nat.zero_le _) rfl)
          have OB := Lib.hid (show ((W3.alloc (.cells #[] 3)).alloc (.cells #[] 41)).ownsRow W3.heap.size 3 1 (.slice (some ⟨W3.heap.size, 0, none⟩) 0 0) 0 [] from OA.out.alloc _)
          have OC := Lib.hid (show ((W3.alloc (.cells #[] 41)).alloc (.cells #[] 3)).ownsRow W3.heap.size 3 1 (.slice (some ⟨W3.heap.size + 1, 0, none⟩) 0 0) 0 [] from by
            have h := OI.out (W3.alloc (.cells #[] 41)) (by simp) (Nat.zero_le _) rfl
            simpa using h)
          have PB := Lib.hid (show ((W3.alloc (.cells #[] 3)).alloc (.cells #[] 41)).ownsRow W3.heap.size 41 3 (.slice (some ⟨W3.heap.size + 1, 0, none⟩) 0 0) 0 [] from by
            have h := OR.out (W3.alloc (.cells #[] 3)) (by simp) (Nat.zero_le _) rfl
            simpa using h)
          have PC := Lib.hid (show ((W3.alloc (.cells #[] 41)).alloc (.cells #[] 3)).ownsRow W3.heap.size 41 3 (.slice (some ⟨W3.heap.size, 0, none⟩) 0 0) 0 [] from (OR.out W3 (Nat.le_refl _) (Nat.zero_le _) rfl).alloc _)
          clear hrow hua HW HR2 HG AR hUI
          go_upto_region 23 with fail
          go_cut [17, 18] (fun a b wx => (∃ aw cw, a = .slice aw ws.length cw ∧ Ints wx aw ws) ∧ (∃ ar cr, b = .slice ar rs.length cr ∧ Rds wx ar rs) ∧ Keeps W3 wx)
          case first =>
            have HS := Lib.hid (fun (w' : World) (kk : Keeps W3 w') => show w'.cell? ⟨b3, 0, none⟩ = some (.slice wa ws.length wc) ∧ w'.cell? ⟨b3, 3, none⟩ = some (.slice ra rs.length rc) from ⟨kk.cell g0, kk.cell g3⟩)
            go_region_held3 (fun w' => w'.cell? ⟨b3, 0, none⟩ = some (.slice wa ws.length wc) ∧ w'.cell? ⟨b3, 3, none⟩ = some (.slice ra rs.length rc))
              (first | exact HS.out _ (by repeat' first | exact Keeps.refl W3 | exact k5 | exact k4 | apply Keeps.alloc | apply Keeps.drew))
              (first
              | (refine step_append_run (by rfl) (.tmp 170) (.tmp 172) 22 (by rfl) (.slice (some ⟨W3.heap.size, 0, none⟩) 0 0) (.slice wa ws.length wc) (by simp [Act.eval]) (by simp [Act.eval]) _ (AI.out _ _ (by exact OA.out) (by repeat' first | exact Keeps.refl W3 | apply Keeps.alloc | apply Keeps.drew)) ?_
                 rintro v1 w1 ⟨ho1, hg1⟩
                 have k4 : Keeps W3 w1 := Below.grown (by repeat' first | exact Keeps.refl W3 | apply Keeps.alloc | apply Keeps.drew) hg1 (by first | (simp; done) | (simp; omega)) (fun j e => by simp [Value.ownBlock] at e; omega)
                 have h3 := k4.cell g3
                 have hl3 := lt_of_cell h3)
              | (refine step_append_run (by rfl) (.tmp 170) (.tmp 172) 22 (by rfl) (.slice (some ⟨W3.heap.size, 0, none⟩) 0 0) (.slice wa ws.length wc) (by simp [Act.eval]) (by simp [Act.eval]) _ (AI.out _ _ (by exact OB.out) (by repeat' first | exact Keeps.refl W3 | apply Keeps.alloc | apply Keeps.drew)) ?_
                 rintro v1 w1 ⟨ho1, hg1⟩
                 have k4 : Keeps W3 w1 := Below.grown (by repeat' first | exact Keeps.refl W3 | apply Keeps.alloc | apply Keeps.drew) hg1 (by first | (simp; done) | (simp; omega)) (fun j e => by simp [Value.ownBlock] at e; omega)
                 have hp1 : w1.ownsRow W3.heap.size 41 3 (.slice (some ⟨W3.heap.size + 1, 0, none⟩) 0 0) 0 [] := World.ownsRow.kept (by exact PB.out) hg1 (.inr (by simp [Value.ownBlock]))
                 have h3 := k4.cell g3
                 have hl3 := lt_of_cell h3)
              | (refine step_append_run (by rfl) (.tmp 170) (.tmp 172) 22 (by rfl) (.slice (some ⟨W3.heap.size + 1, 0, none⟩) 0 0) (.slice wa ws.length wc) (by simp [Act.eval]) (by simp [Act.eval]) _ (AI.out _ _ (by exact OC.out) (by repeat' first | exact Keeps.refl W3 | apply Keeps.alloc | apply Keeps.drew)) ?_
                 rintro v1 w1 ⟨ho1, hg1⟩
                 have k4 : Keeps W3 w1 := Below.grown (by repeat' first | exact Keeps.refl W3 | apply Keeps.alloc | apply Keeps.drew) hg1 (by first | (simp; done) | (simp; omega)) (fun j e => by simp [Value.ownBlock] at e; omega)
                 have hp1 : w1.ownsRow W3.heap.size 41 3 (.slice (some ⟨W3.heap.size, 0, none⟩) 0 0) 0 [] := World.ownsRow.kept (by exact PC.out) hg1 (.inr (by simp [Value.ownBlock]))
                 have h3 := k4.cell g3
                 have hl3 := lt_of_cell h3)
              | (refine step_append_run (by rfl) (.tmp 174) (.tmp 176) 25 (by rfl) (.slice (some ⟨w1.heap.size, 0, none⟩) 0 0) (.slice ra rs.length rc) (by simp [Act.eval]) (by simp [Act.eval]) _ (AQ.out _ _ (by exact OR.out w1 k4.size (Nat.zero_le _) rfl) (by repeat' first | exact k4 | apply Keeps.alloc | apply Keeps.drew)) ?_
                 rintro v2 w2 ⟨ho2, hg2⟩
                 have ho1' : w2.ownsRow W3.heap.size 3 1 v1 (0 + ws.length) ([] ++ ws.map (Value.int .i64)) := World.ownsRow.kept (ho1.alloc (.cells #[] 41)) hg2 (by cases hv : v1.ownBlock with | none => exact .inl rfl | some j => exact .inr (by have := (ho1.lt j hv).2; simp [Value.ownBlock]; omega))
                 have k5 : Keeps W3 w2 := Below.grown (by repeat' first | exact k4 | apply Keeps.alloc | apply Keeps.drew) hg2 (by have := k4.size; simp; omega) (fun j e => by have := k4.size; simp [Value.ownBlock] at e; omega))
              | (refine step_append_run (by rfl) (.tmp 174) (.tmp 176) 25 (by rfl) (.slice (some ⟨W3.heap.size + 1, 0, none⟩) 0 0) (.slice ra rs.length rc) (by simp [Act.eval]) (by simp [Act.eval]) _ (AQ.out _ _ (by exact hp1) (by exact k4)) ?_
                 rintro v2 w2 ⟨ho2, hg2⟩
                 have ho1' : w2.ownsRow W3.heap.size 3 1 v1 (0 + ws.length) ([] ++ ws.map (Value.int .i64)) := World.ownsRow.kept ho1 hg2 (more_apart ho1 hp1)
                 have k5 : Keeps W3 w2 := Below.grown k4 hg2 k4.size (fun j e => by simp [Value.ownBlock] at e; omega))
              | (refine step_append_run (by rfl) (.tmp 174) (.tmp 176) 25 (by rfl) (.slice (some ⟨W3.heap.size, 0, none⟩) 0 0) (.slice ra rs.length rc) (by simp [Act.eval]) (by simp [Act.eval]) _ (AQ.out _ _ (by exact hp1) (by exact k4)) ?_
                 rintro v2 w2 ⟨ho2, hg2⟩
                 have ho1' : w2.ownsRow W3.heap.size 3 1 v1 (0 + ws.length) ([] ++ ws.map (Value.int .i64)) := World.ownsRow.kept ho1 hg2 (more_apart ho1 hp1)
                 have k5 : Keeps W3 w2 := Below.grown k4 hg2 k4.size (fun j e => by simp [Value.ownBlock] at e; omega)))
            all_goals
              rw [Nat.zero_add, List.nil_append] at ho1' ho2
              obtain ⟨aw, cw, rfl, hA, _⟩ := ints_row ho1'
              obtain ⟨ar, cr, rfl, hB, _⟩ := Rds.of_owns ho2
              have HA := Lib.hid hA
              have HB := Lib.hid hB
              clear ho1 ho2 ho1' hA hB
              go_wp2_with fail
              go_meet
              exact ⟨⟨_, _, rfl, HA.out⟩, ⟨_, _, rfl, HB.out⟩, k5⟩
          case rest =>
            obtain ⟨⟨aw, cw, rfl, hA⟩, ⟨ar, cr, rfl, hB⟩, k4⟩ := hcut
            rename_i hK
            refine hK _ _ (wp_on (c' := more_from 24) (by kernel_rfl) ?_)
            exact more_24 wa _ ws lo hi ra rc rs X Y Z b3 b9 b10 b11 b12 c aw cw ar cr ta tc ua uc w _ AL HOK.out hc (HR3.out.f.keep k4) (HR3.out.fi.keep k4) (HR3.out.x.keep k4) (HR3.out.xi.keep k4) LX.out (HR3.out.y.keep k4) (HR3.out.yi.keep k4) LY.out (HR3.out.z.keep k4) (HR3.out.zi.keep k4) LZ.out (HTB.out.keep k4) (HTF.out.keep k4) hA hB (k3.trans k4) _ _ _ _ _ _ _ _ _ _ _ _ _ _ _ _ _ _ _ _ _ _ _ _ _ _ _ _ _ _ _ _ _ _ _ _ _ _ _ _ _ _ _ _ _ _ _ _ _ _ _ _ _ _ _ _ _ _ _ _ _ _ _ _ _ _ _ _ _ _ _ _ _ _ _ _ _ _ _ _ _ _ _ _ _ _ _ _ _ _ _ _ _ _ _ _ _ _ _ _ _ _ _ _ _ _ _ _ _ _ _ _ _ _ _ _ _ _ _ _ _ _ _ _ _ _ _ _ _ _ _ _ _ _ _ _ _ _ _ _ _ _ _ _ _ _ _ _ _ _ _ _ _ _ _ _ _ _ _ _ _ _ _ _ _ _ _ _ _ _ _ _ _ _ _ _ _ _ _ _ _ _ _ _ _ _ _ _ _ _ _ _ _ _ _ _ _ _ _ _ _ _ _ _ _ _ _ _ _ _ _ _ _ _ _ _ _ _ _ _ _ _ _ _ _ _ _ _ _ _ _ _ _ _ _ _ _ _ _ _ _ _ _ _ _ _ _ _ _ _ _ _ _ _ _ _ _ _ _ _ _ _ _ _ _ _ _ _ _ _ _ _ _ _ _ _ _ _ _ _ _ _ _ _ _ _ _ _ _ _ _ _ _ _ _ _ _ _ _ _ _ _ _ _ _ _ _ _ _ _ _ _ _ _ _ _ _ _ _ _ _ _ _ _ _ _ _ _ _ _ _ _ _ _ _ _ _ _ _ _ _ _ _ _ _ _ _ _ _ _ _ _ _ _ _ _ _ _ _ _ _ _ _ _ _ _ _ _ _ _ _ _ _ _ _ _ _ _ _ _ _ _ _ _ _ _ _ _
end Go.Proofs.Ytoidnbpbeblokaa
