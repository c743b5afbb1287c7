/-
  FringeTrue, behind its loop over the colours: what Ask tells.
  FringeTrue's loop over the colours: the whole fringes and the part of the true length are told in each.
-/
import Derived.Test.YtoidnbpbeblokaaVd
import Derived.Test.YtoidnbpbeblokaaTb
import Derived.Test.YtoidnbpbeblokaaZn
import Derived.Deep.DeepCutAuto
import Derived.Test.YtoidnbpbeblokaaZr
namespace Go.Proofs.Ytoidnbpbeblokaa
open Go.RowKit Go.Shelf

/-- What follows in a function's text behind a region. -/
def codeAfter (n : Nat) : Code → Option Code
  | .seq a c => (match a with | .region i _ _ => if i == n then some c else none | _ => codeAfter n a) <|> codeAfter n c
  | .block _ b => codeAfter n b
  | .loop b => codeAfter n b
  | .cond _ a b => codeAfter n a <|> codeAfter n b
  | .scope b => codeAfter n b
  | _ => none
/-- FringeTrue behind its region n. -/
noncomputable def true_after (n : Nat) : Code := ((Try.f5.body).bind (codeAfter n)).getD .skip
set_option maxRecDepth 100000 in
set_option maxHeartbeats 40000000 in
theorem true_end (wa : Option Addr) (wc : Nat) (ws : List Int) (lo hi : Int) (ra : Option Addr) (rc : Nat) (rs : List Rd) (n : Int) (c l cnt b : Nat) (w wr : World) (AL : Hid (∀ w, Calls Try.prog 13 #[] w (RetB true w))) (T : TrueIn ⟨wa, wc, ws, lo, hi, ra, rc, rs⟩ n) (hI : Fr.In ⟨wa, wc, ws, lo, hi, ra, rc, rs⟩ wr) (kr : Keeps w wr) (hB : Fr.Box ⟨wa, wc, ws, lo, hi, ra, rc, rs⟩ wr b)
    (hc : c < ws.length) (h1 : 1 ≤ l) (h2 : l ≤ cnt) (_h3 : cnt ≤ 401) (HP : ∀ p : Nat, 20 * (n % ws[c]?.getD 0) / ws[c]?.getD 0 = p → p < 20 → 1 ≤ cntP (ws[c]?.getD 0) (Fr.truths ⟨wa, wc, ws, lo, hi, ra, rc, rs⟩) p ∧ cntP (ws[c]?.getD 0) (Fr.truths ⟨wa, wc, ws, lo, hi, ra, rc, rs⟩) p ≤ l)
    (x0 x1 x2 x5 x6 x8 x9 x10 x11 x12 x13 x14 x15 x16 x17 x18 x19 x20 x21 x22 x23 x24 x25 x26 x27 x28 x29 x30 x34 x35 x36 x37 x38 x39 x40 x41 x42 x43 x44 x45 x46 x47 x48 x49 x50 x51 x52 x53 x54 x55 x56 x57 x58 x59 x60 x61 x62 x63 x64 x65 x66 x67 x68 x69 x70 x71 x72 x73 x74 x75 x76 x77 x78 x79 x80 x81 x82 x83 x84 x85 x86 x87 x88 x89 x90 x91 x92 x93 x94 x95 x96 x97 x98 x99 x100 x101 x102 x103 x104 x105 x106 x107 x108 x109 x110 x111 x112 x113 x114 x115 x116 x117 x118 x119 x120 x121 x122 x123 x124 x125 x126 x127 x128 x129 x130 x131 x132 x133 x134 x135 x136 x137 x138 x139 x140 x141 x142 x143 x144 x145 x146 x147 x148 x149 x150 x151 x152 x153 x154 x155 x156 x157 x158 x159 x160 x161 x162 x163 x164 x165 x166 x167 x168 x169 x170 x171 x172 x173 x174 x175 x176 x177 x178 x179 x180 x181 x182 x183 x184 x185 x186 x187 x188 x189 x190 x191 x192 x193 x194 x195 x196 x197 x198 x199 x200 x201 x202 x203 x204 x205 x206 x207 x208 x209 x210 x211 x212 x213 x214 x215 x216 x217 x218 x219 x220 x221 x222 x223 x224 x225 x226 x227 x228 x229 x230 x231 x232 x233 x234 x235 x236 x237 x238 x239 x240 x241 x242 x243 x244 x245 x246 x247 x248 x249 x250 x251 x252 x253 x254 x255 x256 x257 x258 x259 x260 x261 x262 x263 x264 x265 x266 x267 x268 x269 x270 x271 x272 x273 x274 x275 : Value) :
    Code.wp Try.prog (true_after 34) (bodyPost Try.prog Try.f5 (RetB true w)) { tmps := #[x0, x1, x2, .pointer (some ⟨b, 0, none⟩), .int .i64 n, x5, x6, .int .i64 cnt, x8, x9, x10, x11, x12, x13, x14, x15, x16, x17, x18, x19, x20, x21, x22, x23, x24, x25, x26, x27, x28, x29, x30, .int .i64 c, .int .i64 l, .int .i64 0, x34, x35, x36, x37, x38, x39, x40, x41, x42, x43, x44, x45, x46, x47, x48, x49, x50, x51, x52, x53, x54, x55, x56, x57, x58, x59, x60, x61, x62, x63, x64, x65, x66, x67, x68, x69, x70, x71, x72, x73, x74, x75, x76, x77, x78, x79, x80, x81, x82, x83, x84, x85, x86, x87, x88, x89, x90, x91, x92, x93, x94, x95, x96, x97, x98, x99, x100, x101, x102, x103, x104, x105, x106, x107, x108, x109, x110, x111, x112, x113, x114, x115, x116, x117, x118, x119, x120, x121, x122, x123, x124, x125, x126, x127, x128, x129, x130, x131, x132, x133, x134, x135, x136, x137, x138, x139, x140, x141, x142, x143, x144, x145, x146, x147, x148, x149, x150, x151, x152, x153, x154, x155, x156, x157, x158, x159, x160, x161, x162, x163, x164, x165, x166, x167, x168, x169, x170, x171, x172, x173, x174, x175, x176, x177, x178, x179, x180, x181, x182, x183, x184, x185, x186, x187, x188, x189, x190, x191, x192, x193, x194, x195, x196, x197, x198, x199, x200, x201, x202, x203, x204, x205, x206, x207, x208, x209, x210, x211, x212, x213, x214, x215, x216, x217, x218, x219, x220, x221, x222, x223, x224, x225, x226, x227, x228, x229, x230, x231, x232, x233, x234, x235, x236, x237, x238, x239, x240, x241, x242, x243, x244, x245, x246, x247, x248, x249, x250, x251, x252, x253, x254, x255, x256, x257, x258, x259, x260, x261, x262, x263, x264, x265, x266, x267, x268, x269, x270, x271, x272, x273, x274, x275], defers := [] } wr := by
  conv => arg 2; whnf
  have hn := T.bd
  have hw := Fr.wave_in _ T.ok hc
  have hrl := Fr.rl_in _ T.ok
  have HI := Lib.hid hI
  have hwl := hI.wl
  have TK := Lib.hid T.ok
  have SHO := Lib.hid (fun (h5 : rs.length ≤ 5) (p : Nat) (hp : p < 20) ra2 rc2 w1 (h : (Fr.more ⟨wa, wc, ws, lo, hi, ra, rc, rs⟩ ((c : Int), (p : Int), (p : Int)) ra2 rc2).In w1) => with_count ⟨wa, wc, ws, lo, hi, ra, rc, rs⟩ T.ok h5 hc p hp ra2 rc2 w1 h)
  obtain ⟨bw, ow, rfl, hcs⟩ := hI.ints (by intro e; simp only at e; rw [e] at hc; simp at hc)
  have hcc := hcs c hc
  dsimp only at hcc hw hrl SHO hwl
  obtain ⟨x, hx⟩ : ∃ x, ws[c]?.getD 0 = x := ⟨_, rfl⟩
  rw [hx] at hcc hw HP SHO
  have LP := Lib.hid (law_part x n wr hw.1 hw.2 hn.1 hn.2)
  obtain ⟨p0, p1⟩ := partI_bd (wv := x) (n := n) (by omega)
  unfold partI at p0 p1
  obtain ⟨p, hp⟩ := Int.eq_ofNat_of_zero_le p0
  rw [hp] at LP p1
  have hp20 : p < 20 := by omega
  obtain ⟨q1, q2⟩ := HP p hp hp20
  have RD := Lib.hid (read_any (c : Int) (p : Int) (p : Int))
  have HN := Lib.hid (fun (h6 : rs.length ≤ 6) w1 (k : Keeps wr w1) => with_any ⟨some ⟨bw, ow, none⟩, wc, ws, lo, hi, ra, rc, rs⟩ ((c : Int), (p : Int), (p : Int)) w1 (HI.out.keep k) h6)
  replace SHO := Lib.hid (fun h5 => SHO.out h5 p hp20)
  have hB' := hB
  obtain ⟨g0, g1, g2, g3⟩ := hB'
  dsimp only [Fr.v, Fr.more] at *
  simp only [List.length_append, List.length_singleton] at HN SHO
  obtain ⟨m, hm⟩ : ∃ m, cntP x (Fr.truths ⟨some ⟨bw, ow, none⟩, wc, ws, lo, hi, ra, rc, rs⟩) p = m := ⟨_, rfl⟩
  rw [hm] at SHO q1 q2
  clear HP hp hm hx p0 T hcs hI TK
  have hbl := lt_of_cell g0
  have hwb := lt_of_cell hcc
  have d2 : decide ((c : Int) < 0) = false := by simp
  have d3 : decide ((ws.length : Int) ≤ (c : Int)) = false := by simp; omega
  have e1 : decide ((1 : Int) ≤ (l : Int)) = true := by simp; omega
  have e2 : decide ((l : Int) ≤ (cnt : Int)) = true := by simp; omega
  have e3 : decide ((1 : Int) ≤ (m : Int)) = true := by simp; omega
  have e4 : decide ((m : Int) ≤ (l : Int)) = true := by simp; omega
  go_wp2_with fail
  refine LP.out.mono ?_
  rintro e w2 ⟨rfl, rfl⟩
  skip
  by_cases h6 : rs.length = 6
  · have e5 : ((rs.length : Int) == 6) = true := by simp; omega
    clear HN SHO RD HI
    go_wp2_with fail
    refine (AL.out _).mono ?_
    rintro e w3 ⟨rfl, k3⟩
    go_wp2_with fail
    go_ret
    exact ⟨rfl, kr.trans k3⟩
  · have h5 : rs.length ≤ 5 := by omega
    have e5 : ((rs.length : Int) == 6) = false := by simp; omega
    have HS := Lib.hid (fun (w' : World) (kk : Keeps wr w') => show w'.cell? ⟨b, 0, none⟩ = some (.slice (some ⟨bw, ow, none⟩) ws.length wc) ∧ w'.cell? ⟨b, 1, none⟩ = some (.int .i64 lo) ∧ w'.cell? ⟨b, 2, none⟩ = some (.int .i64 hi) ∧ w'.cell? ⟨b, 3, none⟩ = some (.slice ra rs.length rc) ∧ Keeps w w' from ⟨kk.cell g0, kk.cell g1, kk.cell g2, kk.cell g3, kr.trans kk⟩)
    replace HN := Lib.hid (HN.out (by omega))
    replace SHO := Lib.hid (SHO.out h5)
    clear h6 hcc hB
    go_wp2_with fail
    skip
    go_region_held3 (fun w' => w'.cell? ⟨b, 0, none⟩ = some (.slice (some ⟨bw, ow, none⟩) ws.length wc) ∧ w'.cell? ⟨b, 1, none⟩ = some (.int .i64 lo) ∧ w'.cell? ⟨b, 2, none⟩ = some (.int .i64 hi) ∧ w'.cell? ⟨b, 3, none⟩ = some (.slice ra rs.length rc) ∧ Keeps w w')
      (first | exact HS.out _ (Keeps.refl _).drew | exact HS.out _ (Keeps.refl _) | exact HS.out _ k4 | exact HS.out _ k4.drew | exact HS.out _ k5 | exact HS.out _ k5.drew | exact HS.out _ k6 | exact HS.out _ k6.drew)
      (first
        | (go_at_call 24; refine (RD.out _).mono ?_; rintro e w4 ⟨rfl, k4⟩; replace k4 : Keeps wr w4 := by first | exact k4 | exact k4.undrew)
        | (go_at_call 32; refine (HN.out _ (by first | exact k4 | exact k4.drew)).mono ?_; rintro e w5 ⟨ra2, rc2, rfl, hI2, k5⟩; replace k5 : Keeps wr w5 := by first | exact k4.trans k5 | exact k4.trans k5.undrew)
        | (go_at_call 23; refine (SHO.out _ _ _ (by first | exact hI2 | exact hI2.keep (Keeps.refl _).drew)).mono ?_; rintro e w6 ⟨rfl, k6⟩; replace k6 : Keeps wr w6 := by first | exact k5.trans k6 | exact k5.trans k6.undrew))
    all_goals
      have kw := kr.trans k6
      clear HS HN SHO RD k4 k5 k6 hI2
      go_wp2_with fail
      refine (AL.out _).mono ?_
      rintro e w7 ⟨rfl, k7⟩
      go_wp2_with fail
      go_ret
      exact ⟨rfl, kw.trans (by first | exact k7 | exact k7.undrew)⟩
end Go.Proofs.Ytoidnbpbeblokaa

namespace Go.Proofs.Ytoidnbpbeblokaa
open Go.RowKit Go.Shelf

theorem part_bit {s p : Nat} (h : s.testBit p = true) (h2 : s < 1048576) : bits .and .i64 ((s : Int) / 2 ^ p) 1 = 1 := by
  have e : (s : Int) / 2 ^ p = ((s / 2 ^ p : Nat) : Int) := by simp
  have h3 : s / 2 ^ p ≤ s := Nat.div_le_self _ _
  rw [Nat.testBit_eq_decide_div_mod_eq, decide_eq_true_eq] at h
  rw [e, show (1 : Int) = ((1 : Nat) : Int) from rfl, (bits_nat .i64 62 (by decide) wraps62 _ 1 (by omega) (by omega)).1, Nat.and_one_is_mod, h]
set_option maxRecDepth 100000 in
set_option maxHeartbeats 40000000 in
theorem true_loop (wa : Option Addr) (wc : Nat) (ws : List Int) (lo hi : Int) (ra : Option Addr) (rc : Nat) (rs : List Rd) (n : Int) (cnt b : Nat) (L0 : List Sp) (al : Option Addr) (cl : Nat) (w wr : World) (AL : Hid (∀ w, Calls Try.prog 13 #[] w (RetB true w))) (T : TrueIn ⟨wa, wc, ws, lo, hi, ra, rc, rs⟩ n) (hI : Fr.In ⟨wa, wc, ws, lo, hi, ra, rc, rs⟩ wr) (kr : Keeps w wr) (hB : Fr.Box ⟨wa, wc, ws, lo, hi, ra, rc, rs⟩ wr b)
    (hcnt : (Fr.truths ⟨wa, wc, ws, lo, hi, ra, rc, rs⟩).length = cnt) (hL : spansOf (Fr.truths ⟨wa, wc, ws, lo, hi, ra, rc, rs⟩) = L0) (HL : Sps wr al L0)
    (x0 x1 x2 x6 x8 x9 x10 x11 x12 x13 x14 x15 x17 x18 x19 x20 x21 x22 x23 x24 x25 x26 x27 x28 x29 x30 x31 x32 x33 x34 x35 x36 x37 x38 x39 x40 x41 x42 x43 x44 x45 x46 x47 x48 x49 x50 x51 x52 x53 x54 x55 x56 x57 x58 x59 x60 x61 x62 x63 x64 x65 x66 x67 x68 x69 x70 x71 x72 x73 x74 x75 x76 x77 x78 x79 x80 x81 x82 x83 x84 x85 x86 x87 x88 x89 x90 x91 x92 x93 x94 x95 x96 x97 x98 x99 x100 x101 x102 x103 x104 x105 x106 x107 x108 x109 x110 x111 x112 x113 x114 x115 x116 x117 x118 x119 x120 x121 x122 x123 x124 x125 x126 x127 x128 x129 x130 x131 x132 x133 x134 x135 x136 x137 x138 x139 x140 x141 x142 x143 x144 x145 x146 x147 x148 x149 x150 x151 x152 x153 x154 x155 x156 x157 x158 x159 x160 x161 x162 x163 x164 x165 x166 x167 x168 x169 x170 x171 x172 x173 x174 x175 x176 x177 x178 x179 x180 x181 x182 x183 x184 x185 x186 x187 x188 x189 x190 x191 x192 x193 x194 x195 x196 x197 x198 x199 x200 x201 x202 x203 x204 x205 x206 x207 x208 x209 x210 x211 x212 x213 x214 x215 x216 x217 x218 x219 x220 x221 x222 x223 x224 x225 x226 x227 x228 x229 x230 x231 x232 x233 x234 x235 x236 x237 x238 x239 x240 x241 x242 x243 x244 x245 x246 x247 x248 x249 x250 x251 x252 x253 x254 x255 x256 x257 x258 x259 x260 x261 x262 x263 x264 x265 x266 x267 x268 x269 x270 x271 x272 x273 x274 x275 : Value) :
    Code.wp Try.prog (true_after 9) (bodyPost Try.prog Try.f5 (RetB true w)) { tmps := #[x0, x1, x2, .pointer (some ⟨b, 0, none⟩), .int .i64 n, .slice al L0.length cl, x6, .int .i64 cnt, x8, x9, x10, x11, x12, x13, x14, x15, .bool false, x17, x18, x19, x20, x21, x22, x23, x24, x25, x26, x27, x28, x29, x30, x31, x32, x33, x34, x35, x36, x37, x38, x39, x40, x41, x42, x43, x44, x45, x46, x47, x48, x49, x50, x51, x52, x53, x54, x55, x56, x57, x58, x59, x60, x61, x62, x63, x64, x65, x66, x67, x68, x69, x70, x71, x72, x73, x74, x75, x76, x77, x78, x79, x80, x81, x82, x83, x84, x85, x86, x87, x88, x89, x90, x91, x92, x93, x94, x95, x96, x97, x98, x99, x100, x101, x102, x103, x104, x105, x106, x107, x108, x109, x110, x111, x112, x113, x114, x115, x116, x117, x118, x119, x120, x121, x122, x123, x124, x125, x126, x127, x128, x129, x130, x131, x132, x133, x134, x135, x136, x137, x138, x139, x140, x141, x142, x143, x144, x145, x146, x147, x148, x149, x150, x151, x152, x153, x154, x155, x156, x157, x158, x159, x160, x161, x162, x163, x164, x165, x166, x167, x168, x169, x170, x171, x172, x173, x174, x175, x176, x177, x178, x179, x180, x181, x182, x183, x184, x185, x186, x187, x188, x189, x190, x191, x192, x193, x194, x195, x196, x197, x198, x199, x200, x201, x202, x203, x204, x205, x206, x207, x208, x209, x210, x211, x212, x213, x214, x215, x216, x217, x218, x219, x220, x221, x222, x223, x224, x225, x226, x227, x228, x229, x230, x231, x232, x233, x234, x235, x236, x237, x238, x239, x240, x241, x242, x243, x244, x245, x246, x247, x248, x249, x250, x251, x252, x253, x254, x255, x256, x257, x258, x259, x260, x261, x262, x263, x264, x265, x266, x267, x268, x269, x270, x271, x272, x273, x274, x275], defers := [] } wr := by
  conv => arg 2; whnf
  have hn := T.bd
  obtain ⟨c0, l0, hask, hc0, h1, h2, HP⟩ := T.is_ask
  have htl := Fr.truths_len _ T.ok
  have AK := Lib.hid (fun w1 (k : Keeps wr w1) => Ask_any _ w1 (hI.keep k))
  rw [hask] at AK
  have PA := Lib.hid (fun (c : Nat) w1 (k : Keeps wr w1) => Part_any _ n c w1 (hI.keep k))
  have WH := Lib.hid (fun (c : Nat) w1 (k : Keeps wr w1) => Whole_at _ c w1 (hI.keep k))
  have PS := Lib.hid (fun (c : Nat) w1 (k : Keeps wr w1) => Parts_any _ c w1 (hI.keep k))
  have TT := Lib.hid T
  have HI := Lib.hid hI
  have HB := Lib.hid hB
  have hq := Lib.hid HP
  have hw4 := Fr.wl_in _ T.ok
  rw [hcnt] at h2 htl
  have hll := spansOf_len (Fr.truths ⟨wa, wc, ws, lo, hi, ra, rc, rs⟩)
  have HF := Lib.hid (found_has T.in_flat)
  have HLS := Lib.hid HL
  rw [hL] at hll HF
  rw [hcnt] at hll
  dsimp only [Fr.v] at *
  clear T hI hB hask HP hcnt hL HL
  go_wp2_with fail
  obtain ⟨wo, rfl⟩ : ∃ wo : World, wo = wr := ⟨_, rfl⟩
  go_loopw [16, 107] (fun s i wx => ∃ k : Nat, k ≤ L0.length ∧ i = .int .i64 k ∧ s = .bool (inFlat L0 n k) ∧ Keeps wo wx) (fun _ i _ => L0.length - (intOf i).toNat)
  case atStart => exact ⟨0, Nat.zero_le _, rfl, by rw [inFlat_zero], Keeps.refl _⟩
  case round =>
    obtain ⟨k, hk, rfl, rfl, hkp⟩ := hrel
    by_cases hlt : k < L0.length
    · obtain ⟨bl, ol, rfl, hcs⟩ := (HLS.out.keep hkp) (by intro e; rw [e] at hlt; simp at hlt)
      obtain ⟨e1, e2⟩ := hcs k hlt
      have hs := inFlat_succ (n := n) hlt
      obtain ⟨⟨p, z⟩, hpz⟩ : ∃ s, L0[k]?.getD (0, 0) = s := ⟨_, rfl⟩
      rw [hpz] at e1 e2 hs
      dsimp only at e1 e2 hs
      obtain ⟨u, hu⟩ : ∃ u, inFlat L0 n k = u := ⟨_, rfl⟩
      rw [hu] at hs ⊢
      have H1 := Lib.hid hs
      have hlz := lt_of_cell e1
      clear hcs hpz hu hs
      cases u
      · by_cases v1 : p ≤ n
        · have Ev := Lib.hid (show (false || decide (p ≤ n ∧ n ≤ z)) = decide (n ≤ z) by rw [Bool.eq_iff_iff]; simp [v1])
          go_wp2
          go_roundw
          case rel => exact ⟨k + 1, by omega, by go_num, by rw [H1.out, Ev.out], hkp.alloc _⟩
          case measure => simp [intOf]; omega
        · have Ev := Lib.hid (show (false || decide (p ≤ n ∧ n ≤ z)) = false by simp [v1])
          have ev1 : decide (p ≤ n) = false := by simp [v1]
          clear v1
          go_wp2
          go_roundw
          case rel => exact ⟨k + 1, by omega, by go_num, by rw [H1.out, Ev.out], hkp.alloc _⟩
          case measure => simp [intOf]; omega
      · go_wp2
        go_roundw
        case rel => exact ⟨k + 1, by omega, by go_num, by rw [H1.out]; rfl, hkp.alloc _⟩
        case measure => simp [intOf]; omega
    · obtain rfl : k = L0.length := by omega
      rw [HF.out]
      have gB := HB.out.keep hkp
      have g0 := gB.c0
      have hg0 := lt_of_cell g0
      dsimp only at g0
      replace HB := Lib.hid gB
      replace HI := Lib.hid (HI.out.keep hkp)
      replace kr := kr.trans hkp
      replace AK := Lib.hid (fun w1 k => AK.out w1 (hkp.trans k))
      replace PA := Lib.hid (fun c w1 k => PA.out c w1 (hkp.trans k))
      replace WH := Lib.hid (fun c w1 k => WH.out c w1 (hkp.trans k))
      replace PS := Lib.hid (fun c w1 k => PS.out c w1 (hkp.trans k))
      clear gB HLS HF hll hkp hk hlt
      go_wp2_with fail
      clear g0 hg0
      go_loopw [130] (fun i wx => ∃ k : Nat, k ≤ ws.length ∧ i = .int .i64 k ∧ Keeps wr wx) (fun i _ => ws.length - (intOf i).toNat)
      case atStart => exact ⟨0, Nat.zero_le _, rfl, Keeps.refl _⟩
      case round =>
        obtain ⟨k, hk, rfl, hkp⟩ := hrel
        by_cases hlt : k < ws.length
        · obtain ⟨bw, ow, rfl, hcs⟩ := (HI.out.keep hkp).ints (by intro e; simp only at e; rw [e] at hlt; simp at hlt)
          have hcc := hcs k hlt
          have hw := Fr.wave_in _ TT.out.ok hlt
          have hpt := TT.out.is_part hlt
          have hce := TT.out.is_colE hlt
          have hin := TT.out.is_whole hlt
          have hll := TT.out.whole_len hlt
          have hps := @TrueIn.is_parts _ _ TT.out k hlt
          have PA1 := Lib.hid (PA.out k)
          have WH1 := Lib.hid (WH.out k)
          have PS1 := Lib.hid (PS.out k)
          rw [hpt] at PA1
          rw [hce] at WH1 PS1
          dsimp only at hcc hw hin PA1 hps
          obtain ⟨x, hx⟩ : ∃ x, ws[k]?.getD 0 = x := ⟨_, rfl⟩
          rw [hx] at hcc hw hin PA1 hps
          obtain ⟨L, hL⟩ : ∃ L, whoL ⟨some ⟨bw, ow, none⟩, wc, ws, lo, hi, ra, rc, rs⟩ (k : Int) = L := ⟨_, rfl⟩
          rw [hL] at WH1 hin hll
          obtain ⟨Sx, hS⟩ : ∃ Sx, parS ⟨some ⟨bw, ow, none⟩, wc, ws, lo, hi, ra, rc, rs⟩ (k : Int) = Sx := ⟨_, rfl⟩
          rw [hS] at PS1 hps
          obtain ⟨p0, p1⟩ := partI_bd (wv := x) (n := n) (by omega)
          unfold partI at p0 p1
          obtain ⟨p, hp⟩ := Int.eq_ofNat_of_zero_le p0
          obtain ⟨s1, s2⟩ := hps hp
          have LP := Lib.hid (fun w1 => law_part x n w1 hw.1 hw.2 hn.1 hn.2)
          rw [hp] at LP PA1 p1
          have hB2 := HB.out.keep hkp
          have g0 := hB2.c0
          have g1 := hB2.c1
          have g2 := hB2.c2
          have g3 := hB2.c3
          dsimp only at g0 g1 g2 g3
          have HIN := Lib.hid hin
          have hlb := lt_of_cell hcc
          have hlx := lt_of_cell g0
          have hx0 : ¬ (x = 0) := by omega
          have b1 := part_bit s1 s2
          have b2 : ((Sx : Int) / 1048576 != 0) = false := by rw [show (Sx : Int) / 1048576 = 0 by omega]; rfl
          clear hp hx hL hS hps hcs hpt hce p0 hin s1 s2 PA WH PS hB2
          go_wp2_with fail
          refine (PA1.out _ hkp).mono ?_
          rintro e w2 ⟨rfl, k2⟩
          replace g0 := k2.cell g0
          replace g1 := k2.cell g1
          replace g2 := k2.cell g2
          replace g3 := k2.cell g3
          replace hlx := lt_of_cell g0
          replace k2 := hkp.trans k2
          go_wp2_with fail
          refine (WH1.out _ k2).mono ?_
          rintro e w3 ⟨aL, cL, rfl, hIL, k3⟩
          replace g0 := k3.cell g0
          replace g1 := k3.cell g1
          replace g2 := k3.cell g2
          replace g3 := k3.cell g3
          replace hlx := lt_of_cell g0
          replace k3 := k2.trans k3
          have HIL := Lib.hid hIL
          clear hIL
          go_wp2_with fail
          refine (PS1.out _ k3).mono ?_
          rintro e w4 ⟨rfl, k4⟩
          replace HIL := Lib.hid (HIL.out.keep k4)
          replace k4 := k3.trans k4
          clear g0 g1 g2 g3 hlx PA1 WH1 PS1 k2 k3 hlb hcc
          go_wp2_with fail
          refine (LP.out _).mono ?_
          rintro e w5 ⟨rfl, rfl⟩
          go_wp2_with fail
          clear b1 b2 LP
          obtain ⟨y, hy⟩ : ∃ y, n / x = y := ⟨_, rfl⟩
          rw [hy] at HIN ⊢
          clear hy
          go_loopw [28, 193] (fun s i wx => ∃ j : Nat, j ≤ L.length ∧ i = .int .i64 j ∧ s = .bool (inL L y j) ∧ Keeps w4 wx) (fun _ i _ => L.length - (intOf i).toNat)
          case atStart => exact ⟨0, Nat.zero_le _, rfl, by rw [inL_zero], Keeps.refl _⟩
          case round =>
            obtain ⟨j, hj, rfl, rfl, hkq⟩ := hrel
            by_cases hlj : j < L.length
            · obtain ⟨bl, ol, rfl, hes⟩ := (HIL.out.keep hkq) (by intro e; rw [e] at hlj; simp at hlj)
              have he := hes j hlj
              have hs := inL_succ (v := y) hlj
              obtain ⟨z, hz⟩ : ∃ z, L[j]?.getD 0 = z := ⟨_, rfl⟩
              rw [hz] at he hs
              obtain ⟨u, hu⟩ : ∃ u, inL L y j = u := ⟨_, rfl⟩
              rw [hu] at hs ⊢
              have H1 := Lib.hid hs
              have hlz := lt_of_cell he
              clear hes hz hu hs
              cases u
              · go_wp2
                go_roundw
                case rel => exact ⟨j + 1, by omega, by go_num, by rw [H1.out]; rfl, hkq⟩
                case measure => simp [intOf]; omega
              · go_wp2
                go_roundw
                case rel => exact ⟨j + 1, by omega, by go_num, by rw [H1.out]; rfl, hkq⟩
                case measure => simp [intOf]; omega
            · obtain rfl : j = L.length := by omega
              rw [inL_all HIN.out]
              go_wp2
              go_roundw
              case rel => exact ⟨k + 1, by omega, by go_num, k4.trans hkq⟩
              case measure => simp [intOf]; omega
        · obtain rfl : k = ws.length := by omega
          have hB2 := HB.out.keep hkp
          have g0 := hB2.c0
          have g1 := hB2.c1
          have g2 := hB2.c2
          have g3 := hB2.c3
          dsimp only at g0 g1 g2 g3
          have hlx := lt_of_cell g0
          have HB3 := Lib.hid hB2
          clear hB2 HB PA WH PS
          go_upto_region 34 with fail
          go_cut [31, 32, 33] (fun a b c wx => a = .int .i64 c0 ∧ b = .int .i64 l0 ∧ c = .int .i64 0 ∧ Keeps wr wx)
          case first =>
            go_wp2_with fail
            refine (AK.out _ hkp).mono ?_
            rintro e w2 ⟨rfl, k2⟩
            go_wp2_with fail
            go_meet
            exact ⟨rfl, rfl, rfl, k2⟩
          case rest =>
            obtain ⟨rfl, rfl, rfl, k2⟩ := hcut
            rename_i hK
            refine hK _ _ (wp_of_code (c' := true_after 34) (by kernel_rfl) ?_)
            exact true_end wa _ ws lo hi ra rc rs n c0 l0 cnt b w _ AL TT.out (HI.out.keep (hkp.trans k2)) (kr.trans (hkp.trans k2)) (HB3.out.keep k2) hc0 h1 h2 htl hq.out _ _ _ _ _ _ _ _ _ _ _ _ _ _ _ _ _ _ _ _ _ _ _ _ _ _ _ _ _ _ _ _ _ _ _ _ _ _ _ _ _ _ _ _ _ _ _ _ _ _ _ _ _ _ _ _ _ _ _ _ _ _ _ _ _ _ _ _ _ _ _ _ _ _ _ _ _ _ _ _ _ _ _ _ _ _ _ _ _ _ _ _ _ _ _ _ _ _ _ _ _ _ _ _ _ _ _ _ _ _ _ _ _ _ _ _ _ _ _ _ _ _ _ _ _ _ _ _ _ _ _ _ _ _ _ _ _ _ _ _ _ _ _ _ _ _ _ _ _ _ _ _ _ _ _ _ _ _ _ _ _ _ _ _ _ _ _ _ _ _ _ _ _ _ _ _ _ _ _ _ _ _ _ _ _ _ _ _ _ _ _ _ _ _ _ _ _ _ _ _ _ _ _ _ _ _ _ _ _ _ _ _ _ _ _ _ _ _ _ _ _ _ _ _ _ _ _ _ _ _ _ _ _ _ _ _ _ _ _ _ _ _ _ _ _ _ _ _ _ _ _ _ _ _ _ _ _ _ _ _ _ _ _ _ _ _ _ _ _ _
end Go.Proofs.Ytoidnbpbeblokaa
