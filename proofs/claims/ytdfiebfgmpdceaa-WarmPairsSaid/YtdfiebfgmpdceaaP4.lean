/-
  WarmPairs walked: what is asked at the end, where there is no truth.
-/
import Derived.Test.YtdfiebfgmpdceaaP3
import Derived.Deep.DeepCutAuto
import Derived.OwnWalkIn
namespace Go.Proofs.Ytdfiebfgmpdceaa
open Go.RowKit

/-- A span in a block of its own, and what is said beside it. -/
def Tell (W : World) (u v err : Int) (a b : Value) (wx : World) : Prop := ∃ s, a = .pointer (some ⟨s, 0, none⟩) ∧ W.heap.size ≤ s ∧ TwoI wx s u v ∧ Keeps W wx ∧ b = .int .i64 err
/-- The code from a region on that is the first of a sequence; that is the first of the first of one. -/
def codeOn (n : Nat) : Code → Option Code
  | .seq a c => (match a with | .region i _ _ => if i == n then some (.seq a c) else none | _ => codeOn n a) <|> codeOn n c
  | .block _ b => codeOn n b
  | .loop b => codeOn n b
  | .cond _ a b => codeOn n a <|> codeOn n b
  | .scope b => codeOn n b
  | _ => none
def codeTwo (n : Nat) : Code → Option Code
  | .seq a c => (match a with | .seq (.region i _ _) _ => if i == n then some (.seq a c) else none | _ => codeTwo n a) <|> codeTwo n c
  | .block _ b => codeTwo n b
  | .loop b => codeTwo n b
  | .cond _ a b => codeTwo n a <|> codeTwo n b
  | .scope b => codeTwo n b
  | _ => none
theorem wp_on {P : Program} {c c' : Code} {Q : Exit → Act → World → Prop} {a : Act} {w : World} (h : c' = c) (hh : Code.wp P c' Q a w) : Code.wp P c Q a w := h ▸ hh
noncomputable def pairs_from (n : Nat) : Code := ((Try.f7.body).bind (codeOn n)).getD .skip
noncomputable def pairs_two (n : Nat) : Code := ((Try.f7.body).bind (codeTwo n)).getD .skip
set_option maxRecDepth 100000 in
set_option maxHeartbeats 40000000 in
theorem pairs_42n1 (ra : Option Addr) (rc : Nat) (rs : List Wr) (b0 sA sB sC s7 cp1 cp2 cp3 : Nat) (a1 a2 a3 : Option Addr) (L1 L2 L3 : List Int) (ha hb : Int) (w z7 : World) (kk : Keeps w z7)
    (h5 : z7.cell? ⟨b0, 5, none⟩ = some (.slice ra rs.length rc)) (pa0 : z7.cell? ⟨sA, 0, none⟩ = some (.int .i64 0)) (pa1 : z7.cell? ⟨sA, 1, none⟩ = some (.int .i64 0)) (pb0 : z7.cell? ⟨sB, 0, none⟩ = some (.int .i64 0)) (pb1 : z7.cell? ⟨sB, 1, none⟩ = some (.int .i64 0)) (pc0 : z7.cell? ⟨sC, 0, none⟩ = some (.int .i64 ha)) (_pc1 : z7.cell? ⟨sC, 1, none⟩ = some (.int .i64 hb)) (pd0 : z7.cell? ⟨s7, 0, none⟩ = some (.int .i64 0)) (_pd1 : z7.cell? ⟨s7, 1, none⟩ = some (.int .i64 0))
    (hre : 0 < rs.length)
    (x0 x1 x3 x4 x6 x7 x8 x9 x10 x11 x12 x13 x14 x15 x16 x17 x18 x19 x20 x25 x26 x27 x28 x29 x30 x31 x40 x41 x42 x43 x44 x45 x46 x47 x48 x49 x50 x51 x52 x53 x54 x55 x56 x57 x58 x59 x60 x61 x62 x63 x64 x65 x66 x67 x68 x69 x70 x71 x72 x73 x74 x75 x76 x77 x78 x79 x80 x81 x82 x83 x84 x85 x86 x87 x88 x89 x90 x91 x92 x93 x94 x95 x96 x97 x98 x99 x100 x101 x102 x103 x104 x105 x106 x107 x108 x109 x110 x111 x112 x113 x114 x115 x116 x117 x118 x119 x120 x121 x122 x123 x124 x125 x126 x127 x128 x129 x130 x131 x132 x133 x134 x135 x136 x137 x138 x139 x140 x141 x142 x143 x144 x145 x146 x147 x148 x149 x150 x151 x152 x153 x154 x155 x156 x157 x158 x159 x160 x161 x162 x163 x164 x165 x166 x167 x168 x169 x170 x171 x172 x173 x174 x175 x176 x177 x178 x179 x180 x181 x182 x183 x184 x185 x186 x187 x188 x189 x190 x191 x192 x193 x194 x195 x196 x197 x198 x199 x200 x201 x202 x203 x204 x205 x206 x207 x208 x209 x210 x211 x212 x213 x214 x215 x216 x217 x218 x219 x220 x221 x222 x223 x224 x225 x226 x227 x228 x229 x230 x231 x232 x233 x234 x235 x236 x237 x238 x239 x240 x241 x242 x243 x244 x245 x246 x247 x248 x249 x250 x251 x252 x253 x254 x255 x256 x257 x258 x259 x260 x261 x262 x263 x264 x265 x266 x267 x268 x269 x270 x271 x272 x273 x274 x275 x276 x277 x278 x279 x280 x281 x282 x283 x284 x285 x286 x287 x288 x289 x290 x291 x292 x293 x294 x295 x296 x297 x298 x299 x300 x301 x302 x303 x304 x305 x306 x307 x308 x309 x310 x311 x312 x313 x314 x315 x316 x317 x318 x319 x320 x321 x322 x323 x324 x325 x326 : Value) :
    Code.wp Try.prog (pairs_two 42) (bodyPost Try.prog Try.f7 (RetB true w)) { tmps := #[x0, x1, .pointer (some ⟨b0, 0, none⟩), x3, x4, .int .i64 0, x6, x7, x8, x9, x10, x11, x12, x13, x14, x15, x16, x17, x18, x19, x20, .int .i64 0, .slice a1 L1.length cp1, .slice a2 L2.length cp2, .slice a3 L3.length cp3, x25, x26, x27, x28, x29, x30, x31, .pointer (some ⟨sA, 0, none⟩), .int .i64 10, .pointer (some ⟨sB, 0, none⟩), .int .i64 10, .pointer (some ⟨sC, 0, none⟩), .int .i64 10, .pointer (some ⟨s7, 0, none⟩), .int .i64 10, x40, x41, x42, x43, x44, x45, x46, x47, x48, x49, x50, x51, x52, x53, x54, x55, x56, x57, x58, x59, x60, x61, x62, x63, x64, x65, x66, x67, x68, x69, x70, x71, x72, x73, x74, x75, x76, x77, x78, x79, x80, x81, x82, x83, x84, x85, x86, x87, x88, x89, x90, x91, x92, x93, x94, x95, x96, x97, x98, x99, x100, x101, x102, x103, x104, x105, x106, x107, x108, x109, x110, x111, x112, x113, x114, x115, x116, x117, x118, x119, x120, x121, x122, x123, x124, x125, x126, x127, x128, x129, x130, x131, x132, x133, x134, x135, x136, x137, x138, x139, x140, x141, x142, x143, x144, x145, x146, x147, x148, x149, x150, x151, x152, x153, x154, x155, x156, x157, x158, x159, x160, x161, x162, x163, x164, x165, x166, x167, x168, x169, x170, x171, x172, x173, x174, x175, x176, x177, x178, x179, x180, x181, x182, x183, x184, x185, x186, x187, x188, x189, x190, x191, x192, x193, x194, x195, x196, x197, x198, x199, x200, x201, x202, x203, x204, x205, x206, x207, x208, x209, x210, x211, x212, x213, x214, x215, x216, x217, x218, x219, x220, x221, x222, x223, x224, x225, x226, x227, x228, x229, x230, x231, x232, x233, x234, x235, x236, x237, x238, x239, x240, x241, x242, x243, x244, x245, x246, x247, x248, x249, x250, x251, x252, x253, x254, x255, x256, x257, x258, x259, x260, x261, x262, x263, x264, x265, x266, x267, x268, x269, x270, x271, x272, x273, x274, x275, x276, x277, x278, x279, x280, x281, x282, x283, x284, x285, x286, x287, x288, x289, x290, x291, x292, x293, x294, x295, x296, x297, x298, x299, x300, x301, x302, x303, x304, x305, x306, x307, x308, x309, x310, x311, x312, x313, x314, x315, x316, x317, x318, x319, x320, x321, x322, x323, x324, x325, x326], defers := [] } z7 := by
  conv => arg 2; whnf
  have hmx : Try.prog.follows .mixedOrders = true := by kernel_rfl
  have AW := Lib.hid (fun w1 => awake_any w1)
  have fnA : ∀ w1, (binOp .eql 23 (.agg #[.int .i64 0, .int .i64 0]) (.agg #[.int .i64 0, .int .i64 0])).run Try.prog w1 = .ok (.bool true) w1 := fun w1 => by rw [eql_span]; simp
  have gnA : ∀ (o1 o2 : Operand) (w1 : World), (eqGuard .eql 23 o1 o2 (.agg #[.int .i64 0, .int .i64 0]) (.agg #[.int .i64 0, .int .i64 0])).run Try.prog w1 = .ok () w1 := fun o1 o2 w1 => run_eqGuard_agg w1 .eql _ o1 o2 _ _ guard_span
  have lA := lt_of_cell pa0
  have lB := lt_of_cell pb0
  have lC := lt_of_cell pc0
  have l7 := lt_of_cell pd0
  have l5 := lt_of_cell h5
  have hd0 : decide (0 < rs.length) = true := decide_eq_true hre
  go_wp2_with fail
  refine (AW.out _).mono ?_
  rintro e f9 ⟨rfl, k9⟩
  go_wp2_with fail
  go_ret
  exact RetB.mk rfl (kk.trans k9)
set_option maxRecDepth 100000 in
set_option maxHeartbeats 40000000 in
theorem pairs_42n0 (ra : Option Addr) (rc : Nat) (rs : List Wr) (b0 sA sB sC s7 cp1 cp2 cp3 : Nat) (a1 a2 a3 : Option Addr) (L1 L2 L3 : List Int) (ha hb : Int) (eh : Int) (w z7 : World) (kk : Keeps w z7)
    (h5 : z7.cell? ⟨b0, 5, none⟩ = some (.slice ra rs.length rc)) (pa0 : z7.cell? ⟨sA, 0, none⟩ = some (.int .i64 0)) (pa1 : z7.cell? ⟨sA, 1, none⟩ = some (.int .i64 0)) (pb0 : z7.cell? ⟨sB, 0, none⟩ = some (.int .i64 0)) (pb1 : z7.cell? ⟨sB, 1, none⟩ = some (.int .i64 0)) (pc0 : z7.cell? ⟨sC, 0, none⟩ = some (.int .i64 ha)) (_pc1 : z7.cell? ⟨sC, 1, none⟩ = some (.int .i64 hb)) (pd0 : z7.cell? ⟨s7, 0, none⟩ = some (.int .i64 0)) (_pd1 : z7.cell? ⟨s7, 1, none⟩ = some (.int .i64 0))
    (hre : ¬ 0 < rs.length)
    (x0 x1 x3 x4 x6 x7 x8 x9 x10 x11 x12 x13 x14 x15 x16 x17 x18 x19 x20 x25 x26 x27 x28 x29 x30 x31 x40 x41 x42 x43 x44 x45 x46 x47 x48 x49 x50 x51 x52 x53 x54 x55 x56 x57 x58 x59 x60 x61 x62 x63 x64 x65 x66 x67 x68 x69 x70 x71 x72 x73 x74 x75 x76 x77 x78 x79 x80 x81 x82 x83 x84 x85 x86 x87 x88 x89 x90 x91 x92 x93 x94 x95 x96 x97 x98 x99 x100 x101 x102 x103 x104 x105 x106 x107 x108 x109 x110 x111 x112 x113 x114 x115 x116 x117 x118 x119 x120 x121 x122 x123 x124 x125 x126 x127 x128 x129 x130 x131 x132 x133 x134 x135 x136 x137 x138 x139 x140 x141 x142 x143 x144 x145 x146 x147 x148 x149 x150 x151 x152 x153 x154 x155 x156 x157 x158 x159 x160 x161 x162 x163 x164 x165 x166 x167 x168 x169 x170 x171 x172 x173 x174 x175 x176 x177 x178 x179 x180 x181 x182 x183 x184 x185 x186 x187 x188 x189 x190 x191 x192 x193 x194 x195 x196 x197 x198 x199 x200 x201 x202 x203 x204 x205 x206 x207 x208 x209 x210 x211 x212 x213 x214 x215 x216 x217 x218 x219 x220 x221 x222 x223 x224 x225 x226 x227 x228 x229 x230 x231 x232 x233 x234 x235 x236 x237 x238 x239 x240 x241 x242 x243 x244 x245 x246 x247 x248 x249 x250 x251 x252 x253 x254 x255 x256 x257 x258 x259 x260 x261 x262 x263 x264 x265 x266 x267 x268 x269 x270 x271 x272 x273 x274 x275 x276 x277 x278 x279 x280 x281 x282 x283 x284 x285 x286 x287 x288 x289 x290 x291 x292 x293 x294 x295 x296 x297 x298 x299 x300 x301 x302 x303 x304 x305 x306 x307 x308 x309 x310 x311 x312 x313 x314 x315 x316 x317 x318 x319 x320 x321 x322 x323 x324 x325 x326 : Value) :
    Code.wp Try.prog (pairs_two 42) (bodyPost Try.prog Try.f7 (RetB true w)) { tmps := #[x0, x1, .pointer (some ⟨b0, 0, none⟩), x3, x4, .int .i64 0, x6, x7, x8, x9, x10, x11, x12, x13, x14, x15, x16, x17, x18, x19, x20, .int .i64 0, .slice a1 L1.length cp1, .slice a2 L2.length cp2, .slice a3 L3.length cp3, x25, x26, x27, x28, x29, x30, x31, .pointer (some ⟨sA, 0, none⟩), .int .i64 10, .pointer (some ⟨sB, 0, none⟩), .int .i64 10, .pointer (some ⟨sC, 0, none⟩), .int .i64 eh, .pointer (some ⟨s7, 0, none⟩), .int .i64 10, x40, x41, x42, x43, x44, x45, x46, x47, x48, x49, x50, x51, x52, x53, x54, x55, x56, x57, x58, x59, x60, x61, x62, x63, x64, x65, x66, x67, x68, x69, x70, x71, x72, x73, x74, x75, x76, x77, x78, x79, x80, x81, x82, x83, x84, x85, x86, x87, x88, x89, x90, x91, x92, x93, x94, x95, x96, x97, x98, x99, x100, x101, x102, x103, x104, x105, x106, x107, x108, x109, x110, x111, x112, x113, x114, x115, x116, x117, x118, x119, x120, x121, x122, x123, x124, x125, x126, x127, x128, x129, x130, x131, x132, x133, x134, x135, x136, x137, x138, x139, x140, x141, x142, x143, x144, x145, x146, x147, x148, x149, x150, x151, x152, x153, x154, x155, x156, x157, x158, x159, x160, x161, x162, x163, x164, x165, x166, x167, x168, x169, x170, x171, x172, x173, x174, x175, x176, x177, x178, x179, x180, x181, x182, x183, x184, x185, x186, x187, x188, x189, x190, x191, x192, x193, x194, x195, x196, x197, x198, x199, x200, x201, x202, x203, x204, x205, x206, x207, x208, x209, x210, x211, x212, x213, x214, x215, x216, x217, x218, x219, x220, x221, x222, x223, x224, x225, x226, x227, x228, x229, x230, x231, x232, x233, x234, x235, x236, x237, x238, x239, x240, x241, x242, x243, x244, x245, x246, x247, x248, x249, x250, x251, x252, x253, x254, x255, x256, x257, x258, x259, x260, x261, x262, x263, x264, x265, x266, x267, x268, x269, x270, x271, x272, x273, x274, x275, x276, x277, x278, x279, x280, x281, x282, x283, x284, x285, x286, x287, x288, x289, x290, x291, x292, x293, x294, x295, x296, x297, x298, x299, x300, x301, x302, x303, x304, x305, x306, x307, x308, x309, x310, x311, x312, x313, x314, x315, x316, x317, x318, x319, x320, x321, x322, x323, x324, x325, x326], defers := [] } z7 := by
  conv => arg 2; whnf
  have hmx : Try.prog.follows .mixedOrders = true := by kernel_rfl
  have AW := Lib.hid (fun w1 => awake_any w1)
  have fnA : ∀ w1, (binOp .eql 23 (.agg #[.int .i64 0, .int .i64 0]) (.agg #[.int .i64 0, .int .i64 0])).run Try.prog w1 = .ok (.bool true) w1 := fun w1 => by rw [eql_span]; simp
  have gnA : ∀ (o1 o2 : Operand) (w1 : World), (eqGuard .eql 23 o1 o2 (.agg #[.int .i64 0, .int .i64 0]) (.agg #[.int .i64 0, .int .i64 0])).run Try.prog w1 = .ok () w1 := fun o1 o2 w1 => run_eqGuard_agg w1 .eql _ o1 o2 _ _ guard_span
  have lA := lt_of_cell pa0
  have lB := lt_of_cell pb0
  have lC := lt_of_cell pc0
  have l7 := lt_of_cell pd0
  have l5 := lt_of_cell h5
  have hd0 : decide (0 < rs.length) = false := decide_eq_false hre
  go_wp2_with fail
  refine (AW.out _).mono ?_
  rintro e f9 ⟨rfl, k9⟩
  go_wp2_with fail
  go_ret
  exact RetB.mk rfl (kk.trans k9)
end Go.Proofs.Ytdfiebfgmpdceaa
