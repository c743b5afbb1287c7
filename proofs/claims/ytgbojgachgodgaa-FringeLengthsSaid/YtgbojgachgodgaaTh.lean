/-
  FringeLengths: what follows on the loop over the readings, where there are lengths: a theorem of its own.
-/
import Derived.Test.YtgbojgachgodgaaTe
import Derived.Deep.DeepCutAuto
import Derived.Deep.QuietTactic
import Derived.BigQuiet
import Derived.IntWalk
namespace Go.Proofs.Ytgbojgachgodgaa
open Go.RowKit Go.Shelf

/-- What follows in a function's text from a region on. -/
def codeFrom (n : Nat) : Code → Option Code
  | .seq a c => (match a with | .region i _ _ => if i == n then some (.seq a c) else none | _ => codeFrom n a) <|> codeFrom n c
  | .block _ b => codeFrom n b
  | .loop b => codeFrom n b
  | .cond _ a b => codeFrom n a <|> codeFrom n b
  | .scope b => codeFrom n b
  | _ => none
theorem wp_of_eq {P : Program} {c c' : Code} {Q : Exit → Act → World → Prop} {a : Act} {w : World} (h : c' = c) (hh : Code.wp P c' Q a w) : Code.wp P c Q a w := h ▸ hh
/-- FringeLengths from its region n on. -/
noncomputable def lens_from (n : Nat) : Code := ((Try.f7.body).bind (codeFrom n)).getD .skip

set_option maxRecDepth 100000 in
set_option maxHeartbeats 40000000 in
theorem lens_rest (w wr : World) (L : List Sp) (m n : Nat) (v N lo hi : Int) (t : Bool) (al : Option Addr) (cl : Nat) (wa : Option Addr) (wc : Nat) (ws : List Int) (ra : Option Addr) (rc : Nat) (rs : List Rd) (AL : Hid (∀ w, Calls Try.prog 13 #[] w (RetB true w)))
    (hm2 : m ≤ 2000) (l1 : 0 ≤ lo) (l3 : hi ≤ 2000) (hv : lo ≤ v ∧ v ≤ hi) (hsl : L.length ≤ n) (htl : n ≤ 401)
    (SB : Hid (∀ i, i < L.length → 0 ≤ (L[i]?.getD (0, 0)).1 ∧ (L[i]?.getD (0, 0)).1 ≤ (L[i]?.getD (0, 0)).2 ∧ (L[i]?.getD (0, 0)).2 ≤ 2000 ∧ (L[i]?.getD (0, 0)).2 - (L[i]?.getD (0, 0)).1 ≤ 400))
    (NF : Hid (∀ x ∈ flat L, dist v m ≤ dist x m ∧ (dist v m = dist x m → v ≤ x))) (N1 : Hid (v ∈ flat L)) (AP : Hid (Apart L)) (VI : Hid (∀ x ∈ flat L, lo ≤ x ∧ x ≤ hi)) (FL : Hid (∀ k, (flat (L.take k)).length ≤ n)) (HN : Hid ((flat L).length = n)) (HT : Hid (decide (N ∈ flat L) = t))
    (g0 : wr.cell? ⟨w.heap.size, 0, none⟩ = some (.slice wa ws.length wc)) (g1 : wr.cell? ⟨w.heap.size, 1, none⟩ = some (.int .i64 lo)) (g2 : wr.cell? ⟨w.heap.size, 2, none⟩ = some (.int .i64 hi)) (g3 : wr.cell? ⟨w.heap.size, 3, none⟩ = some (.slice ra rs.length rc)) (kr : Keeps w wr) (hL : Sps wr al L)
    (x0 x1 x2 x4 x5 x6 x10 x13 x16 x17 x18 x19 x20 x24 x25 x26 x27 x28 x29 x30 x31 x32 x33 x34 x35 x36 x37 x38 x39 x40 x41 x42 x43 x44 x45 x46 x47 x48 x49 x50 x51 x52 x53 x54 x55 x56 x57 x58 x59 x60 x61 x62 x63 x64 x65 x66 x67 x68 x69 x70 x71 x72 x73 x74 x75 x76 x77 x78 x79 x80 x81 x82 x83 x84 x85 x86 x87 x88 x89 x90 x91 x92 x93 x94 x95 x96 x97 x98 x99 x100 x101 x102 x103 x104 x105 x106 x107 x108 x109 x110 x111 x112 x113 x114 x115 x116 x117 x118 x119 x120 x121 x122 x123 x124 x125 x126 x127 x128 x129 x130 x131 x132 x133 x134 x135 x136 x137 x138 x139 x140 x141 x142 x143 x144 x145 x146 x147 x148 x149 x150 x151 x152 x153 x154 x155 x156 x157 x158 x159 x160 x161 x162 x163 x164 x165 x166 x167 x168 x169 x170 x171 x172 x173 x174 x175 x176 x177 x178 x179 x180 x181 x182 x183 x184 x185 x186 x187 x188 x189 x190 x191 x192 x193 x194 x195 x196 x197 x198 x199 x200 x201 x202 x203 x204 x205 x206 x207 x208 x209 x210 x211 x212 x213 x214 x215 x216 x217 x218 x219 x220 x221 x222 x223 x224 x225 x226 x227 x228 x229 x230 x231 x232 x233 x234 x235 x236 x237 x238 x239 x240 x241 x242 x243 x244 x245 x246 x247 x248 x249 x250 x251 x252 x253 x254 x255 x256 x257 x258 x259 x260 x261 x262 x263 x264 x265 x266 x267 x268 x269 x270 x271 x272 x273 x274 x275 x276 x277 x278 x279 x280 x281 x282 x283 x284 x285 x286 x287 x288 x289 x290 x291 x292 x293 : Value) :
    Code.wp Try.prog (lens_from 20) (bodyPost Try.prog Try.f7 (RetB true w)) { tmps := #[x0, x1, x2, .pointer (some ⟨w.heap.size, 0, none⟩), x4, x5, x6, .slice al L.length cl, .int .i64 0, .int .i64 n, x10, .int .i64 m, .int .i64 v, x13, .int .i64 N, .bool t, x16, x17, x18, x19, x20, .int .i64 0, .bool false, .bool false, x24, x25, x26, x27, x28, x29, x30, x31, x32, x33, x34, x35, x36, x37, x38, x39, x40, x41, x42, x43, x44, x45, x46, x47, x48, x49, x50, x51, x52, x53, x54, x55, x56, x57, x58, x59, x60, x61, x62, x63, x64, x65, x66, x67, x68, x69, x70, x71, x72, x73, x74, x75, x76, x77, x78, x79, x80, x81, x82, x83, x84, x85, x86, x87, x88, x89, x90, x91, x92, x93, x94, x95, x96, x97, x98, x99, x100, x101, x102, x103, x104, x105, x106, x107, x108, x109, x110, x111, x112, x113, x114, x115, x116, x117, x118, x119, x120, x121, x122, x123, x124, x125, x126, x127, x128, x129, x130, x131, x132, x133, x134, x135, x136, x137, x138, x139, x140, x141, x142, x143, x144, x145, x146, x147, x148, x149, x150, x151, x152, x153, x154, x155, x156, x157, x158, x159, x160, x161, x162, x163, x164, x165, x166, x167, x168, x169, x170, x171, x172, x173, x174, x175, x176, x177, x178, x179, x180, x181, x182, x183, x184, x185, x186, x187, x188, x189, x190, x191, x192, x193, x194, x195, x196, x197, x198, x199, x200, x201, x202, x203, x204, x205, x206, x207, x208, x209, x210, x211, x212, x213, x214, x215, x216, x217, x218, x219, x220, x221, x222, x223, x224, x225, x226, x227, x228, x229, x230, x231, x232, x233, x234, x235, x236, x237, x238, x239, x240, x241, x242, x243, x244, x245, x246, x247, x248, x249, x250, x251, x252, x253, x254, x255, x256, x257, x258, x259, x260, x261, x262, x263, x264, x265, x266, x267, x268, x269, x270, x271, x272, x273, x274, x275, x276, x277, x278, x279, x280, x281, x282, x283, x284, x285, x286, x287, x288, x289, x290, x291, x292, x293], defers := [] } wr := by
  conv => arg 2; whnf
  have gv : -2000 ≤ v := by omega
  have gv2 : v ≤ 2000 := by omega
  go_wp2_with fail
  rw [dist_max]
  obtain ⟨fa, hfa⟩ : ∃ fa, dist v m = fa := ⟨_, rfl⟩
  rw [hfa] at NF ⊢
  have HFA := Lib.hid hfa
  clear hfa
  obtain ⟨wo, rfl⟩ : ∃ wo : World, wo = wr := ⟨_, rfl⟩
  go_loopw [21, 22, 23, 162] (fun a b c i wx => ∃ q : Nat, q ≤ L.length ∧ i = .int .i64 q ∧ a = .int .i64 ((flat (L.take q)).length : Nat) ∧ b = .bool (inFlat L N q) ∧ c = .bool (inFlat L v q) ∧ Keeps wo wx) (fun _ _ _ i _ => L.length - (intOf i).toNat)
  case atStart => exact ⟨0, Nat.zero_le _, rfl, rfl, by rw [inFlat_zero], by rw [inFlat_zero], Keeps.refl _⟩
  case round =>
    obtain ⟨q, hq, rfl, rfl, rfl, rfl, hkp2⟩ := hrel
    replace g0 := hkp2.cell g0
    replace g1 := hkp2.cell g1
    replace g2 := hkp2.cell g2
    replace g3 := hkp2.cell g3
    by_cases hlt2 : q < L.length
    · obtain ⟨bl, ol, rfl, hcs⟩ := hL.keep hkp2 (by intro e; rw [e] at hlt2; simp at hlt2)
      obtain ⟨h1, h2⟩ := hcs q hlt2
      have hsb := SB.out q hlt2
      have m1 := VI.out _ (span_mem hlt2 (Int.le_refl _) hsb.2.1)
      have m2 := VI.out _ (span_mem hlt2 hsb.2.1 (Int.le_refl _))
      have nf := fun x (a : (L[q]?.getD (0, 0)).1 ≤ x) (b : x ≤ (L[q]?.getD (0, 0)).2) => NF.out x (span_mem hlt2 a b)
      have i1 := inFlat_succ (n := N) hlt2
      have i2 := inFlat_succ (n := v) hlt2
      have i3 := many_succ hlt2 hsb.2.1
      have i4 := FL.out q
      have i5 := FL.out (q + 1)
      have hpr : ∀ r, q = r + 1 → ∃ y : Int, wr.cell? ⟨bl, ol + r * 2 + 1, none⟩ = some (.int .i64 y) ∧ y + 1 < (L[q]?.getD (0, 0)).1 ∧ 0 ≤ y ∧ y ≤ 2000 := by
        intro r hr
        subst hr
        exact ⟨_, (hcs r (by omega)).2, apart_next AP.out hlt2, by have := SB.out r (by omega); omega, by have := SB.out r (by omega); omega⟩
      obtain ⟨⟨p, z⟩, hpz⟩ : ∃ s, L[q]?.getD (0, 0) = s := ⟨_, rfl⟩
      rw [hpz] at h1 h2 hsb m1 m2 nf i1 i2 i3 hpr
      dsimp only at h1 h2 hsb m1 m2 nf i1 i2 i3 hpr
      obtain ⟨s0, s1, s2, s3⟩ := hsb
      have HPR := Lib.hid hpr
      have NFQ := Lib.hid nf
      have I1 := Lib.hid i1
      have I2 := Lib.hid i2
      have I3 := Lib.hid i3
      obtain ⟨u, hu⟩ : ∃ u : Nat, (flat (L.take q)).length = u := ⟨_, rfl⟩
      obtain ⟨b1, hb1⟩ : ∃ b1, inFlat L N q = b1 := ⟨_, rfl⟩
      obtain ⟨b2, hb2⟩ : ∃ b2, inFlat L v q = b2 := ⟨_, rfl⟩
      rw [hu] at i3 i4 I3 ⊢
      rw [hb1] at I1 ⊢
      rw [hb2] at I2 ⊢
      have hlb := lt_of_cell h1
      have hlx := lt_of_cell g0
      clear hcs hpz hpr nf i1 i2 i3 i5 hu hb1 hb2 hL
      have d1 : decide (z < p) = false := by simp; omega
      have d2 : decide (p < lo) = false := by simp; omega
      have d3 : decide (hi < z) = false := by simp; omega
      go_upto_region 24 with fail
      obtain ⟨W, hW⟩ : ∃ W, wr.alloc (.cells #[.int .i64 p, .int .i64 z] 24) = W := ⟨_, rfl⟩
      have hT : TwoBox W wr.heap.size p z := hW ▸ TwoBox.new wr p z
      have hkW : Keeps wr W := hW ▸ (Keeps.refl wr).alloc _
      have hg : ∀ o v, wr.cell? ⟨w.heap.size, o, none⟩ = some v → W.cell? ⟨w.heap.size, o, none⟩ = some v := fun _ _ h => hkW.cell h
      replace g0 := hg _ _ g0
      replace g1 := hg _ _ g1
      replace g2 := hg _ _ g2
      replace g3 := hg _ _ g3
      obtain ⟨bx, hbx⟩ : ∃ bx, wr.heap.size = bx := ⟨_, rfl⟩
      rw [hW]
      rw [hbx] at hT ⊢
      clear hW hbx hg h1 h2
      have t0 := hT.c0
      have t1 := hT.c1
      have hTl := hT.lt
      have hlx2 := lt_of_cell g0
      have kW := hkp2.trans hkW
      go_cut [203] (fun t wx => t = .bool false ∧ TwoBox wx bx p z ∧ Keeps W wx)
      case first =>
        by_cases hq0 : q = 0
        · subst hq0
          rw [show ((0 : Nat) : Int) = 0 from rfl]
          go_wp2_with fail
          go_big_quiet (fail)
          go_wp2
          go_meet
          exact ⟨rfl, hT, (Keeps.refl W).drewN _⟩
        · obtain ⟨r, hr⟩ : ∃ r, q = r + 1 := ⟨q - 1, by omega⟩
          obtain ⟨y, hy, y1, y2, y3⟩ := HPR.out r hr
          replace hy := hkW.cell hy
          have hly := lt_of_cell hy
          have e1 : decide (0 < q) = true := by simp; omega
          have e2 : IntKind.i64.wrap ((q : Int) - 1) = (r : Int) := by rw [hr]; exact (IntWalk.i64_in _ (by constructor <;> omega)).trans (by omega)
          have e3 : IntKind.i64.wrap (y + 1) = y + 1 := IntWalk.i64_in _ (by omega)
          have e4 : decide (p ≤ y + 1) = false := by simp; omega
          have e5 : (r : Int) < (L.length : Int) := by omega
          have e6 : (0 : Int) ≤ (r : Int) := by omega
          clear hq0 hr y1
          go_wp2_with fail
          go_big_quiet (fail)
          go_wp2
          go_meet
          exact ⟨rfl, hT, (Keeps.refl W).drewN _⟩
      case rest =>
        obtain ⟨rfl, hT2, hk2⟩ := hcut
        obtain ⟨W2, rfl⟩ : ∃ W2 : World, W2 = wc := ⟨_, rfl⟩
        replace t0 := hT2.c0
        replace t1 := hT2.c1
        replace hTl := hT2.lt
        replace kW := kW.trans hk2
        replace g0 := hk2.cell g0
        replace g1 := hk2.cell g1
        replace g2 := hk2.cell g2
        replace g3 := hk2.cell g3
        clear HPR hT hk2 hkW d1 d2 d3
        go_upto_region 27 with fail
        go_cut [22, 23] (fun b c wx => b = .bool (b1 || decide (p ≤ N ∧ N ≤ z)) ∧ c = .bool (b2 || decide (p ≤ v ∧ v ≤ z)) ∧ TwoBox wx bx p z ∧ Keeps W2 wx)
        case first =>
          cases b1 with
          | true =>
            cases b2 with
            | true =>
              go_wp2_with fail
              go_big_quiet (fail)
              go_wp2
              go_meet
              exact ⟨rfl, rfl, hT2, (Keeps.refl W2).drewN _⟩
            | false =>
              by_cases v1 : p ≤ v
              · have Ev1 := Lib.hid (show (false || decide (p ≤ v ∧ v ≤ z)) = decide (v ≤ z) by rw [Bool.eq_iff_iff]; simp [v1])
                go_wp2_with fail
                go_big_quiet (fail)
                go_wp2
                go_meet
                exact ⟨rfl, by rw [Ev1.out], hT2, (Keeps.refl W2).drewN _⟩
              · have Ev1 := Lib.hid (show (false || decide (p ≤ v ∧ v ≤ z)) = false by simp [v1])
                have ev1 : decide (p ≤ v) = false := by simp [v1]
                clear v1
                go_wp2_with fail
                go_big_quiet (fail)
                go_wp2
                go_meet
                exact ⟨rfl, by rw [Ev1.out], hT2, (Keeps.refl W2).drewN _⟩
          | false =>
            by_cases n1 : p ≤ N
            · have En1 := Lib.hid (show (false || decide (p ≤ N ∧ N ≤ z)) = decide (N ≤ z) by rw [Bool.eq_iff_iff]; simp [n1])
              cases b2 with
              | true =>
                go_wp2_with fail
                go_big_quiet (fail)
                go_wp2
                go_meet
                exact ⟨by rw [En1.out], rfl, hT2, (Keeps.refl W2).drewN _⟩
              | false =>
                by_cases v1 : p ≤ v
                · have Ev1 := Lib.hid (show (false || decide (p ≤ v ∧ v ≤ z)) = decide (v ≤ z) by rw [Bool.eq_iff_iff]; simp [v1])
                  go_wp2_with fail
                  go_big_quiet (fail)
                  go_wp2
                  go_meet
                  exact ⟨by rw [En1.out], by rw [Ev1.out], hT2, (Keeps.refl W2).drewN _⟩
                · have Ev1 := Lib.hid (show (false || decide (p ≤ v ∧ v ≤ z)) = false by simp [v1])
                  have ev1 : decide (p ≤ v) = false := by simp [v1]
                  clear v1
                  go_wp2_with fail
                  go_big_quiet (fail)
                  go_wp2
                  go_meet
                  exact ⟨by rw [En1.out], by rw [Ev1.out], hT2, (Keeps.refl W2).drewN _⟩
            · have En1 := Lib.hid (show (false || decide (p ≤ N ∧ N ≤ z)) = false by simp [n1])
              have en1 : decide (p ≤ N) = false := by simp [n1]
              clear n1
              cases b2 with
              | true =>
                go_wp2_with fail
                go_big_quiet (fail)
                go_wp2
                go_meet
                exact ⟨by rw [En1.out], rfl, hT2, (Keeps.refl W2).drewN _⟩
              | false =>
                by_cases v1 : p ≤ v
                · have Ev1 := Lib.hid (show (false || decide (p ≤ v ∧ v ≤ z)) = decide (v ≤ z) by rw [Bool.eq_iff_iff]; simp [v1])
                  go_wp2_with fail
                  go_big_quiet (fail)
                  go_wp2
                  go_meet
                  exact ⟨by rw [En1.out], by rw [Ev1.out], hT2, (Keeps.refl W2).drewN _⟩
                · have Ev1 := Lib.hid (show (false || decide (p ≤ v ∧ v ≤ z)) = false by simp [v1])
                  have ev1 : decide (p ≤ v) = false := by simp [v1]
                  clear v1
                  go_wp2_with fail
                  go_big_quiet (fail)
                  go_wp2
                  go_meet
                  exact ⟨by rw [En1.out], by rw [Ev1.out], hT2, (Keeps.refl W2).drewN _⟩
        case rest =>
          obtain ⟨rfl, rfl, hT3, hk3⟩ := hcut
          obtain ⟨W3, rfl⟩ : ∃ W3 : World, W3 = wc := ⟨_, rfl⟩
          replace t0 := hT3.c0
          replace t1 := hT3.c1
          replace hTl := hT3.lt
          replace kW := kW.trans hk3
          clear hT2 hk3
          have i3 := I3.out
          rw [← i3, ← I1.out, ← I2.out]
          obtain ⟨u2, hu2⟩ : ∃ u2 : Nat, (flat (L.take (q + 1))).length = u2 := ⟨_, rfl⟩
          have hu3 := FL.out (q + 1)
          rw [hu2] at hu3 ⊢
          obtain ⟨c1, hc1⟩ : ∃ c1, inFlat L N (q + 1) = c1 := ⟨_, rfl⟩
          obtain ⟨c2, hc2⟩ : ∃ c2, inFlat L v (q + 1) = c2 := ⟨_, rfl⟩
          rw [hc1, hc2]
          have HU := Lib.hid hu2
          have HC1 := Lib.hid hc1
          have HC2 := Lib.hid hc2
          clear hu2 hc1 hc2 i3 I1 I2 I3 g0 g1 g2 g3
          obtain ⟨cx, hcx, hcx1, hcx2⟩ : ∃ cx : Int, max p (min z m) = cx ∧ p ≤ cx ∧ cx ≤ z := ⟨_, rfl, by omega, by omega⟩
          have HX := Lib.hid hcx
          clear hcx
          go_wp2_with fail
          rw [HX.out]
          have hks : Keeps wo (W3.alloc (.cells #[.int .i64 p, .int .i64 z, .int .i64 cx] 3)) := kW.alloc _
          obtain ⟨W4, hW4⟩ : ∃ W4, W3.alloc (.cells #[.int .i64 p, .int .i64 z, .int .i64 cx] 3) = W4 := ⟨_, rfl⟩
          have HE := Lib.hid (show ∀ j, j < 3 → ∃ x : Int, W4.cell? ⟨W3.heap.size, j, none⟩ = some (.int .i64 x) ∧ p ≤ x ∧ x ≤ z from by
            intro j hj
            subst hW4
            rcases j with _ | _ | _ | j
            · exact ⟨p, by simp [go_sem], Int.le_refl _, s1⟩
            · exact ⟨z, by simp [go_sem], s1, Int.le_refl _⟩
            · exact ⟨cx, by simp [go_sem], hcx1, hcx2⟩
            · omega)
          rw [hW4] at hks ⊢
          obtain ⟨b3, hb3⟩ : ∃ b3, W3.heap.size = b3 := ⟨_, rfl⟩
          rw [hb3] at HE ⊢
          clear hW4 hb3 HX t0 t1 hTl hT3 kW
          go_loopw [251] (fun i wx => ∃ j : Nat, j ≤ 3 ∧ i = .int .i64 j ∧ Keeps W4 wx) (fun i _ => 3 - (intOf i).toNat)
          case atStart => exact ⟨0, Nat.zero_le _, rfl, Keeps.refl _⟩
          case round =>
            obtain ⟨j, hj, rfl, hkp3⟩ := hrel
            by_cases hlt3 : j < 3
            · obtain ⟨x, hx, hx1, hx2⟩ := HE.out j hlt3
              replace hx := hkp3.cell hx
              obtain ⟨q1, q2⟩ := NFQ.out x hx1 hx2
              have q3 := dist_max x m
              rw [← q3] at q1 q2
              clear q3
              have hlx3 := lt_of_cell hx
              by_cases hxm : x ≤ m
              · have e0 : max (x - (m : Int)) ((m : Int) - x) = (m : Int) - x := by omega
                rw [e0] at q1 q2
                have f1 : decide ((m : Int) - x < fa) = false := by simp; omega
                by_cases he : (m : Int) - x = fa
                · have q4 := q2 he.symm
                  have e1 : ((m : Int) - x == fa) = true := by simp [he]
                  have e2 : decide (x < v) = false := by simp; omega
                  clear q2 he
                  go_wp2
                  go_roundw
                  case rel => exact ⟨j + 1, by omega, by go_num, hkp3⟩
                  case measure => simp [intOf]; omega
                · have e1 : ((m : Int) - x == fa) = false := by simp [he]
                  clear q2 he
                  go_wp2
                  go_roundw
                  case rel => exact ⟨j + 1, by omega, by go_num, hkp3⟩
                  case measure => simp [intOf]; omega
              · have e0 : max (x - (m : Int)) ((m : Int) - x) = x - (m : Int) := by omega
                rw [e0] at q1 q2
                have f1 : decide (x - (m : Int) < fa) = false := by simp; omega
                by_cases he : x - (m : Int) = fa
                · have q4 := q2 he.symm
                  have e1 : (x - (m : Int) == fa) = true := by simp [he]
                  have e2 : decide (x < v) = false := by simp; omega
                  clear q2 he
                  go_wp2
                  go_roundw
                  case rel => exact ⟨j + 1, by omega, by go_num, hkp3⟩
                  case measure => simp [intOf]; omega
                · have e1 : (x - (m : Int) == fa) = false := by simp [he]
                  clear q2 he
                  go_wp2
                  go_roundw
                  case rel => exact ⟨j + 1, by omega, by go_num, hkp3⟩
                  case measure => simp [intOf]; omega
            · have e0 : decide ((j : Int) < 3) = false := by simp; omega
              go_wp2
              go_roundw
              case rel => exact ⟨q + 1, by omega, by go_num, by rw [HU.out], by rw [HC1.out], by rw [HC2.out], hks.trans hkp3⟩
              case measure => simp [intOf]; omega
    · obtain rfl : q = L.length := by omega
      have a1 : inFlat L N L.length = t := by rw [← HT.out, inFlat, List.take_length]
      have a2 : inFlat L v L.length = true := by rw [inFlat, List.take_length]; exact decide_eq_true N1.out
      rw [a1, a2, List.take_length, HN.out]
      clear a1 a2
      cases t
      all_goals
        go_wp2_with fail
        refine (AL.out _).mono ?_
        rintro e u9 ⟨rfl, k9⟩
        go_wp2_with fail
        go_ret
        exact ⟨rfl, (kr.trans hkp2).trans k9⟩
end Go.Proofs.Ytgbojgachgodgaa
