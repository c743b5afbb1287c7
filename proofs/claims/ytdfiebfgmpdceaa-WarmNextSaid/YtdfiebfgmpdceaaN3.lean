/-
  WarmNext walked: from where all pairs are counted.
-/
import Derived.Test.YtdfiebfgmpdceaaN2
import Derived.Test.YtdfiebfgmpdceaaF4
namespace Go.Proofs.Ytdfiebfgmpdceaa
open Go.RowKit

/-- The code from a region on that is the first of a sequence. -/
def codeNx (n : Nat) : Code → Option Code
  | .seq a c => (match a with | .region i _ _ => if i == n then some (.seq a c) else none | _ => codeNx n a) <|> codeNx n c
  | .block _ b => codeNx n b
  | .loop b => codeNx n b
  | .cond _ a b => codeNx n a <|> codeNx n b
  | .scope b => codeNx n b
  | _ => none
theorem wp_nx {P : Program} {c c' : Code} {Q : Exit → Act → World → Prop} {a : Act} {w : World} (h : c' = c) (hh : Code.wp P c' Q a w) : Code.wp P c Q a w := h ▸ hh
noncomputable def next_from (n : Nat) : Code := ((Try.f10.body).bind (codeNx n)).getD .skip
set_option maxRecDepth 100000 in
set_option maxHeartbeats 40000000 in
theorem next_13n (mark llo lhi clo chi : Int) (ra : Option Addr) (rc : Nat) (rs : List Wr) (b0 ob oo oc : Nat) (xs : List Int) (wh : Int) (w wr : World)
    (hok : Wm.ok ⟨mark, llo, lhi, clo, chi, ra, rc, rs⟩ = true) (ht : (Wm.truths ⟨mark, llo, lhi, clo, chi, ra, rc, rs⟩).isEmpty = true) (hI : Wm.In ⟨mark, llo, lhi, clo, chi, ra, rc, rs⟩ w) (kk : Keeps w wr) (hB : Wm.Box ⟨mark, llo, lhi, clo, chi, ra, rc, rs⟩ wr b0)
    (x0 x1 x4 x5 x6 x8 x9 x13 x14 x15 x16 x17 x18 x19 x20 x21 x22 x23 x24 x25 x26 x27 x28 x29 x30 x31 x32 x33 x34 x35 x36 x37 x38 x39 x40 x41 x42 x43 x44 x45 x46 x47 x48 x49 x50 x51 x52 x53 x54 x55 x56 x57 x58 x59 x60 x61 x62 x63 x64 x65 x66 x67 x68 x69 x70 x71 x72 x73 x74 x75 x76 x77 x78 x79 x80 x81 x82 x83 x84 x85 x86 x87 x88 x89 x90 x91 x92 x93 x94 x95 x96 x97 x98 x99 x100 x101 x102 x103 x104 x105 x106 x107 x108 x109 x110 x111 x112 x113 x114 x115 x116 x117 x118 x119 x120 x121 x122 x123 x124 x125 x126 x127 x128 x129 x130 x131 x132 x133 x134 x135 x136 x137 x138 x139 x140 x141 x142 x143 x144 x145 x146 x147 x148 x149 x150 x151 x152 x153 x154 x155 x156 x157 x158 x159 x160 x161 x162 x163 x164 x165 x166 x167 x168 x169 x170 x171 x172 x173 x174 x175 x176 x177 x178 x179 x180 x181 x182 x183 x184 x185 x186 x187 x188 x189 x190 x191 x192 x193 x194 x195 x196 x197 x198 : Value) :
    Code.wp Try.prog (next_from 13) (bodyPost Try.prog Try.f10 (RetB true w)) { tmps := #[x0, x1, .int .u8 wh, .pointer (some ⟨b0, 0, none⟩), x4, x5, x6, .slice (some ⟨ob, oo, none⟩) xs.length oc, x8, x9, .int .i64 0, .int .i64 0, .int .i64 10, x13, x14, x15, x16, x17, x18, x19, x20, x21, x22, x23, x24, x25, x26, x27, x28, x29, x30, x31, x32, x33, x34, x35, x36, x37, x38, x39, x40, x41, x42, x43, x44, x45, x46, x47, x48, x49, x50, x51, x52, x53, x54, x55, x56, x57, x58, x59, x60, x61, x62, x63, x64, x65, x66, x67, x68, x69, x70, x71, x72, x73, x74, x75, x76, x77, x78, x79, x80, x81, x82, x83, x84, x85, x86, x87, x88, x89, x90, x91, x92, x93, x94, x95, x96, x97, x98, x99, x100, x101, x102, x103, x104, x105, x106, x107, x108, x109, x110, x111, x112, x113, x114, x115, x116, x117, x118, x119, x120, x121, x122, x123, x124, x125, x126, x127, x128, x129, x130, x131, x132, x133, x134, x135, x136, x137, x138, x139, x140, x141, x142, x143, x144, x145, x146, x147, x148, x149, x150, x151, x152, x153, x154, x155, x156, x157, x158, x159, x160, x161, x162, x163, x164, x165, x166, x167, x168, x169, x170, x171, x172, x173, x174, x175, x176, x177, x178, x179, x180, x181, x182, x183, x184, x185, x186, x187, x188, x189, x190, x191, x192, x193, x194, x195, x196, x197, x198], defers := [] } wr := by
  conv => arg 2; whnf
  have AW := Lib.hid (fun w1 => awake_any w1)
  have CN := Lib.hid (fun w1 (k : Keeps w w1) => show Calls Try.prog 25 #[.agg #[.int .i64 mark, .int .i64 llo, .int .i64 lhi, .int .i64 clo, .int .i64 chi, .slice ra rs.length rc]] w1 (Ret (.tuple #[.int .i64 0, .int .i64 0]) w1) from by have h := Count_any _ w1 (hI.keep k); unfold Wm.countA at h; rw [if_pos hok, List.isEmpty_iff.1 ht] at h; exact h)
  obtain ⟨g0, g1, g2, g3, g4, g5⟩ := hB
  dsimp only at g0 g1 g2 g3 g4 g5
  have hlb := lt_of_cell g0
  clear hok ht hI
  go_wp2_with fail
  refine (CN.out _ kk).mono ?_
  rintro e w1 ⟨rfl, k1⟩
  replace kk := kk.trans k1
  go_wp2_with fail
  refine (AW.out _).mono ?_
  rintro e w2 ⟨rfl, k2⟩
  go_wp2_with fail
  go_ret
  exact RetB.mk rfl (kk.trans k2)
set_option maxRecDepth 100000 in
set_option maxHeartbeats 40000000 in
theorem next_13y (mark llo lhi clo chi : Int) (ra : Option Addr) (rc : Nat) (rs : List Wr) (b0 ob oo oc i j A D : Nat) (xs : List Int) (x y : Int) (wh : Int) (w wr : World)
    (hok : Wm.ok ⟨mark, llo, lhi, clo, chi, ra, rc, rs⟩ = true) (h5 : rs.length < 5) (ht : (Wm.truths ⟨mark, llo, lhi, clo, chi, ra, rc, rs⟩).isEmpty = false) (hI : Wm.In ⟨mark, llo, lhi, clo, chi, ra, rc, rs⟩ w) (kk : Keeps w wr) (hB : Wm.Box ⟨mark, llo, lhi, clo, chi, ra, rc, rs⟩ wr b0)
    (hi : i < xs.length) (hj : j < xs.length) (hwj : wh % (xs.length : Int) = (j : Int)) (w0 : 0 ≤ wh) (w1 : wh ≤ 255) (hxl : xs.length ≤ 6)
    (ci : wr.cell? ⟨ob, oo + i, none⟩ = some (.int .i64 x)) (cj : wr.cell? ⟨ob, oo + j, none⟩ = some (.int .i64 y)) (x0 : -100 ≤ x) (x1 : x ≤ 100) (y0 : -100 ≤ y) (y1 : y ≤ 100)
    (hA : alike mark x (Wm.truths ⟨mark, llo, lhi, clo, chi, ra, rc, rs⟩) = A) (hD : alike mark y (Wm.truths ⟨mark, llo, lhi, clo, chi, ra, rc, rs⟩) = D) (hAD : A ≤ D) (hij : D = A → i ≤ j)
    (z0 z1 x4 x5 x6 x8 x9 x13 x14 x15 x16 x17 x18 x19 x20 x21 x22 x23 x24 x25 x26 x27 x28 x29 x30 x31 x32 x33 x34 x35 x36 x37 x38 x39 x40 x41 x42 x43 x44 x45 x46 x47 x48 x49 x50 x51 x52 x53 x54 x55 x56 x57 x58 x59 x60 x61 x62 x63 x64 x65 x66 x67 x68 x69 x70 x71 x72 x73 x74 x75 x76 x77 x78 x79 x80 x81 x82 x83 x84 x85 x86 x87 x88 x89 x90 x91 x92 x93 x94 x95 x96 x97 x98 x99 x100 x101 x102 x103 x104 x105 x106 x107 x108 x109 x110 x111 x112 x113 x114 x115 x116 x117 x118 x119 x120 x121 x122 x123 x124 x125 x126 x127 x128 x129 x130 x131 x132 x133 x134 x135 x136 x137 x138 x139 x140 x141 x142 x143 x144 x145 x146 x147 x148 x149 x150 x151 x152 x153 x154 x155 x156 x157 x158 x159 x160 x161 x162 x163 x164 x165 x166 x167 x168 x169 x170 x171 x172 x173 x174 x175 x176 x177 x178 x179 x180 x181 x182 x183 x184 x185 x186 x187 x188 x189 x190 x191 x192 x193 x194 x195 x196 x197 x198 : Value) :
    Code.wp Try.prog (next_from 13) (bodyPost Try.prog Try.f10 (RetB true w)) { tmps := #[z0, z1, .int .u8 wh, .pointer (some ⟨b0, 0, none⟩), x4, x5, x6, .slice (some ⟨ob, oo, none⟩) xs.length oc, x8, x9, .int .i64 (i : Int), .int .i64 (A : Int), .int .i64 0, x13, x14, x15, x16, x17, x18, x19, x20, x21, x22, x23, x24, x25, x26, x27, x28, x29, x30, x31, x32, x33, x34, x35, x36, x37, x38, x39, x40, x41, x42, x43, x44, x45, x46, x47, x48, x49, x50, x51, x52, x53, x54, x55, x56, x57, x58, x59, x60, x61, x62, x63, x64, x65, x66, x67, x68, x69, x70, x71, x72, x73, x74, x75, x76, x77, x78, x79, x80, x81, x82, x83, x84, x85, x86, x87, x88, x89, x90, x91, x92, x93, x94, x95, x96, x97, x98, x99, x100, x101, x102, x103, x104, x105, x106, x107, x108, x109, x110, x111, x112, x113, x114, x115, x116, x117, x118, x119, x120, x121, x122, x123, x124, x125, x126, x127, x128, x129, x130, x131, x132, x133, x134, x135, x136, x137, x138, x139, x140, x141, x142, x143, x144, x145, x146, x147, x148, x149, x150, x151, x152, x153, x154, x155, x156, x157, x158, x159, x160, x161, x162, x163, x164, x165, x166, x167, x168, x169, x170, x171, x172, x173, x174, x175, x176, x177, x178, x179, x180, x181, x182, x183, x184, x185, x186, x187, x188, x189, x190, x191, x192, x193, x194, x195, x196, x197, x198], defers := [] } wr := by
  conv => arg 2; whnf
  have hmx : Try.prog.follows .mixedOrders = true := by kernel_rfl
  have AW := Lib.hid (fun w1 => awake_any w1)
  have SP := Lib.hid (fun a b w1 => lawSpan_any a b w1)
  obtain ⟨Q, hQ⟩ : ∃ Q : Nat, (Wm.truths ⟨mark, llo, lhi, clo, chi, ra, rc, rs⟩).length = Q := ⟨_, rfl⟩
  have hQ1 : 0 < Q := by
    have h : Wm.truths ⟨mark, llo, lhi, clo, chi, ra, rc, rs⟩ ≠ [] := fun e => by rw [e] at ht; cases ht
    have := List.length_pos_iff.2 h
    omega
  have CN := Lib.hid (fun w1 (k : Keeps w w1) => show Calls Try.prog 25 #[.agg #[.int .i64 mark, .int .i64 llo, .int .i64 lhi, .int .i64 clo, .int .i64 chi, .slice ra rs.length rc]] w1 (Ret (.tuple #[.int .i64 (Q : Int), .int .i64 0]) w1) from by have h := Count_any _ w1 (hI.keep k); unfold Wm.countA at h; rw [if_pos hok, hQ] at h; exact h)
  have MX := Lib.hid (fun w1 (k : Keeps w w1) => show Calls Try.prog 39 #[.agg #[.int .i64 mark, .int .i64 llo, .int .i64 lhi, .int .i64 clo, .int .i64 chi, .slice ra rs.length rc], .int .i64 x] w1 (Ret (.tuple #[.int .i64 (A : Int), .int .i64 (Q : Int), .bool true]) w1) from by have h := most_any _ hok h5 ht x x0 x1 w1 (hI.keep k); rw [hQ] at h; dsimp only at h; rw [hA] at h; exact h)
  have MY := Lib.hid (fun w1 (k : Keeps w w1) => show Calls Try.prog 39 #[.agg #[.int .i64 mark, .int .i64 llo, .int .i64 lhi, .int .i64 clo, .int .i64 chi, .slice ra rs.length rc], .int .i64 y] w1 (Ret (.tuple #[.int .i64 (D : Int), .int .i64 (Q : Int), .bool true]) w1) from by have h := most_any _ hok h5 ht y y0 y1 w1 (hI.keep k); rw [hQ] at h; dsimp only at h; rw [hD] at h; exact h)
  have HSH := Lib.hid (fun t (t0 : -100 ≤ t) (t1 : t ≤ 100) => shows_ends hok ht t0 (Int.le_refl t) t1)
  have HSA := Lib.hid (fun t w1 (k : Keeps w w1) => Shows_any ⟨mark, llo, lhi, clo, chi, ra, rc, rs⟩ t t w1 (hI.keep k))
  obtain ⟨g0, g1, g2, g3, g4, g5⟩ := hB
  dsimp only [Wm.v] at *
  have hlb := lt_of_cell g0
  have hwt : wh.tmod (xs.length : Int) = (j : Int) := by rw [Int.tmod_eq_emod_of_nonneg w0]; exact hwj
  have hww : wrap64 wh = wh := by unfold wrap64; omega
  have hQd : decide (0 < Q) = true := decide_eq_true hQ1
  have hid : decide (xs.length ≤ i) = false := decide_eq_false (by omega)
  have c_i := ci
  have c_j := cj
  have HAD := Lib.hid hAD
  have HIJ := Lib.hid hij
  clear hok ht hI hA hD hAD hij hQ
  go_wp2_with fail
  refine (CN.out _ kk).mono ?_
  rintro e W0 ⟨rfl, k1⟩
  replace kk := kk.trans k1
  replace ci := k1.cell ci
  replace cj := k1.cell cj
  replace g0 := k1.cell g0
  replace g1 := k1.cell g1
  replace g2 := k1.cell g2
  replace g3 := k1.cell g3
  replace g4 := k1.cell g4
  replace g5 := k1.cell g5
  clear k1
  have hlo := lt_of_cell ci
  go_wp2_with fail
  have k7d := (Keeps.refl W0).drew
  haveI : Nonempty (Inw (fun w' => Keeps W0 w')) := ⟨⟨W0, Keeps.refl _⟩⟩
  have e0 : ∀ q : Inw (fun w' => Keeps W0 w'), q.W.cell? ⟨ob, oo + i, none⟩ = some (.int .i64 x) := fun q => q.h.cell ci
  have e1 : ∀ q : Inw (fun w' => Keeps W0 w'), q.W.cell? ⟨ob, oo + j, none⟩ = some (.int .i64 y) := fun q => q.h.cell cj
  refine (wpIn_wide (n := 3)).1 ?_
  refine cix_start hmx (fun w' => Keeps W0 w') ?_
  refine cix_quiet (m := 2) (CixOk.of (fun _ => trivial) (fun _ _ _ _ hd h => ⟨hd.symm.trans h.1, h.2⟩) (by kernel_rfl)) [0, 1, 2, 3, 4, 5, 6, 7, 10] rfl (by kernel_rfl) k7d ?_
  show wpQuietIn _ _ _ _ _ _ [_, _, _, _, _, _, _, _, _] _
  iterate 9 (gi_big_quiet_step (fail))
  refine wpQuietIn_nil ?_
  refine cix_one (m := 1) 8 _ rfl rfl (by kernel_rfl) ?_
  show wpListIn _ _ _ _ _ [_] _ _
  gi_wp2_with fail
  obtain ⟨S, hS⟩ : ∃ s, W0.heap.size = s := ⟨_, rfl⟩
  obtain ⟨X1, hX1⟩ : ∃ w', (W0.alloc (.cells #[.int .i64 x, .int .i64 y] 3)).drew = w' := ⟨_, rfl⟩
  have k8 : Keeps W0 X1 := by rw [← hX1]; exact ((Keeps.refl W0).alloc _).drew
  have a0 : X1.cell? ⟨S, 0, none⟩ = some (.int .i64 x) := by rw [← hX1, ← hS]; simp [go_sem]
  have a1 : X1.cell? ⟨S, 1, none⟩ = some (.int .i64 y) := by rw [← hX1, ← hS]; simp [go_sem]
  rw [hX1, hS]
  clear hX1 hS e0 e1
  refine ⟨k8, ?_⟩
  refine cix_quiet (m := 0) (CixOk.of (fun _ => trivial) (fun _ _ _ _ hd h => ⟨hd.symm.trans h.1, h.2⟩) (by kernel_rfl)) [9] rfl (by kernel_rfl) k8 ?_
  show wpQuietIn _ _ _ _ _ _ [_] _
  iterate 1 (gi_big_quiet_step (fail))
  refine wpQuietIn_nil ?_
  refine cix_done (by kernel_rfl) ?_ _
  replace ci := k8.cell ci
  replace cj := k8.cell cj
  replace g0 := k8.cell g0
  replace g1 := k8.cell g1
  replace g2 := k8.cell g2
  replace g3 := k8.cell g3
  replace g4 := k8.cell g4
  replace g5 := k8.cell g5
  replace kk := kk.trans k8
  have hQQ := Lib.hid hQd
  clear k8 k7d c_i c_j
  go_wp2_with fail
  go_loopw [120] (fun kv wr => ∃ k : Nat, k ≤ 2 ∧ kv = .int .i64 k ∧ Keeps X1 wr) (fun kv _ => 2 - (intOf kv).toNat)
  case atStart => exact ⟨0, by omega, rfl, Keeps.refl _⟩
  case round =>
    obtain ⟨k, hk, rfl, kr⟩ := hrel
    replace g0 := kr.cell g0
    replace g1 := kr.cell g1
    replace g2 := kr.cell g2
    replace g3 := kr.cell g3
    replace g4 := kr.cell g4
    replace g5 := kr.cell g5
    have kq := kk.trans kr
    by_cases hlt : k < 2
    · obtain ⟨tt, t0, t1, hc⟩ : ∃ tt, -100 ≤ tt ∧ tt ≤ 100 ∧ X1.cell? ⟨S, k, none⟩ = some (.int .i64 tt) := by
        rcases (by omega : k = 0 ∨ k = 1) with e | e
        · subst e; exact ⟨x, x0, x1, a0⟩
        · subst e; exact ⟨y, y0, y1, a1⟩
      have hcr := kr.cell hc
      have hlc := lt_of_cell hcr
      obtain ⟨us, vs, eS, hE, hu, hv⟩ := HSH.out tt t0 t1
      have SH := Lib.hid (fun w1 (kx : Keeps w w1) => show Calls Try.prog 21 #[.agg #[.int .i64 mark, .int .i64 llo, .int .i64 lhi, .int .i64 clo, .int .i64 chi, .slice ra rs.length rc], .agg #[.int .i64 tt, .int .i64 tt]] w1 (Ret (.tuple #[.agg #[.int .i64 us, .int .i64 vs], .int .i64 0]) w1) from by have h := HSA.out tt w1 kx; rw [eS] at h; exact h)
      have huv := hE.le
      have hdk : decide ((k : Int) < 2) = true := decide_eq_true (by omega)
      clear eS hE hc a0 a1
      go_upto_region 24 with fail
      go_cut [18, 19] (fun a b wx => Tels wr us vs 0 a b wx)
      case first =>
        have k5d := (Keeps.refl wr).drew
        haveI : Nonempty (Inw (fun w' => Keeps wr w')) := ⟨⟨wr, Keeps.refl _⟩⟩
        have e0 : ∀ q : Inw (fun w' => Keeps wr w'), q.W.cell? ⟨b0, 0, none⟩ = some (.int .i64 mark) := fun q => q.h.cell g0
        have e1 : ∀ q : Inw (fun w' => Keeps wr w'), q.W.cell? ⟨b0, 1, none⟩ = some (.int .i64 llo) := fun q => q.h.cell g1
        have e2 : ∀ q : Inw (fun w' => Keeps wr w'), q.W.cell? ⟨b0, 2, none⟩ = some (.int .i64 lhi) := fun q => q.h.cell g2
        have e3 : ∀ q : Inw (fun w' => Keeps wr w'), q.W.cell? ⟨b0, 3, none⟩ = some (.int .i64 clo) := fun q => q.h.cell g3
        have e4 : ∀ q : Inw (fun w' => Keeps wr w'), q.W.cell? ⟨b0, 4, none⟩ = some (.int .i64 chi) := fun q => q.h.cell g4
        have e5 : ∀ q : Inw (fun w' => Keeps wr w'), q.W.cell? ⟨b0, 5, none⟩ = some (.slice ra rs.length rc) := fun q => q.h.cell g5
        go_wp2_with fail
        refine (wpIn_wide (n := 3)).1 ?_
        refine cix_start hmx (fun w' => Keeps wr w') ?_
        refine cix_quiet (m := 8) (CixOk.of (fun _ => trivial) (fun _ _ _ _ hd h => ⟨hd.symm.trans h.1, h.2⟩) (by kernel_rfl)) [0, 1, 2] rfl (by kernel_rfl) k5d ?_
        show wpQuietIn _ _ _ _ _ _ [_, _, _] _
        iterate 3 (gi_big_quiet_step (fail))
        refine wpQuietIn_nil ?_
        refine cix_two (m := 7) 3 _ 8 _ rfl rfl rfl (by kernel_rfl) ?_ ?_
        · show wpListIn _ _ _ _ _ [_] _ _
          gi_wp2_with fail
          rename_i hK
          refine ⟨trivial, ((callsIn_wide (n := 2)).2 (SP.out (tt) (tt) _)).mono ?_⟩
          rintro e u1 ⟨rfl, k⟩
          have c1 := k5d.trans k
          refine hK _ _ (.inl ⟨rfl, c1, ?_⟩)
          clear hK k
          refine cix_two (m := 6) 4 _ 8 _ rfl rfl rfl (by kernel_rfl) ?_ ?_
          · show wpListIn _ _ _ _ _ [_] _ _
            gi_wp2_with fail
            rename_i hK
            refine ⟨trivial, ((callsIn_wide (n := 2)).2 (SH.out _ (kq.trans c1))).mono ?_⟩
            rintro e u2 ⟨rfl, k⟩
            have c2 := c1.trans k
            refine hK _ _ (.inl ⟨rfl, c2, ?_⟩)
            clear hK k
            refine cix_quiet (m := 3) (CixOk.of (fun _ => trivial) (fun _ _ _ _ hd h => ⟨hd.symm.trans h.1, h.2⟩) (by kernel_rfl)) [5, 6, 7] rfl (by kernel_rfl) c2 ?_
            show wpQuietIn _ _ _ _ _ _ [_, _, _] _
            iterate 3 (gi_big_quiet_step (fail))
            refine wpQuietIn_nil ?_
            refine cix_one (m := 2) 8 _ rfl rfl (by kernel_rfl) ?_
            show wpListIn _ _ _ _ _ [_] _ _
            gi_wp2_with fail
            obtain ⟨s, hs⟩ : ∃ s, u2.heap.size = s := ⟨_, rfl⟩
            obtain ⟨u3, hu3⟩ : ∃ v, u2.alloc (.cells #[.int .i64 0, .int .i64 0] 23) = v := ⟨_, rfl⟩
            have c3 : Keeps wr u3 := by rw [← hu3]; exact c2.alloc _
            have a0 : u3.cell? ⟨s, 0, none⟩ = some (.int .i64 0) := by rw [← hu3, ← hs]; simp [go_sem]
            have a1 : u3.cell? ⟨s, 1, none⟩ = some (.int .i64 0) := by rw [← hu3, ← hs]; simp [go_sem]
            have z0 : u3.frozen? ⟨s, 0, none⟩ = false := by rw [← hu3, ← hs]; simp [go_sem]
            have z1 : u3.frozen? ⟨s, 1, none⟩ = false := by rw [← hu3, ← hs]; simp [go_sem]
            have hsz : wr.heap.size ≤ s := by rw [← hs]; exact c2.size
            rw [hu3, hs]
            clear hu3 hs
            refine ⟨c3, ?_⟩
            refine cix_one (m := 1) 9 _ rfl rfl (by kernel_rfl) ?_
            show wpListIn _ _ _ _ _ [_] _ _
            have hT : TwoI u3 s 0 0 := ⟨a0, a1, z0, z1⟩
            have kY : Keeps wr ((u3.setCell ⟨s, 0, none⟩ (.int .i64 us)).setCell ⟨s, 1, none⟩ (.int .i64 vs)) := (c3.setCell (p := ⟨s, 0, none⟩) _ hsz).setCell (p := ⟨s, 1, none⟩) _ hsz
            have hT2 := (hT.set0 (us)).set1 (vs)
            gi_wp2_with fail
            refine cix_one (m := 0) 10 _ rfl rfl (by kernel_rfl) ?_
            show wpListIn _ _ _ _ _ [_] _ _
            gi_wp2_with fail
            refine cix_done (by kernel_rfl) ?_ _
            go_wp2_with fail
            go_meet
            exact ⟨s, rfl, hsz, hT2, kY, rfl⟩
          · show wpListIn _ _ _ _ _ [_] _ _
            gi_wp2_with fail
            obtain ⟨s, hs⟩ : ∃ s, u1.heap.size = s := ⟨_, rfl⟩
            obtain ⟨u2, hu2⟩ : ∃ v, u1.alloc (.cells #[.int .i64 0, .int .i64 0] 23) = v := ⟨_, rfl⟩
            have c2 : Keeps wr u2 := by rw [← hu2]; exact c1.alloc _
            have a0 : u2.cell? ⟨s, 0, none⟩ = some (.int .i64 0) := by rw [← hu2, ← hs]; simp [go_sem]
            have a1 : u2.cell? ⟨s, 1, none⟩ = some (.int .i64 0) := by rw [← hu2, ← hs]; simp [go_sem]
            have z0 : u2.frozen? ⟨s, 0, none⟩ = false := by rw [← hu2, ← hs]; simp [go_sem]
            have z1 : u2.frozen? ⟨s, 1, none⟩ = false := by rw [← hu2, ← hs]; simp [go_sem]
            have hsz : wr.heap.size ≤ s := by rw [← hs]; exact c1.size
            rw [hu2, hs]
            clear hu2 hs
            refine ⟨c2, ?_⟩
            refine cix_one (m := 5) 4 _ rfl rfl (by kernel_rfl) ?_
            show wpListIn _ _ _ _ _ [_] _ _
            gi_wp2_with fail
            rename_i hK
            refine ⟨trivial, ((callsIn_wide (n := 2)).2 (SH.out _ (kq.trans c2))).mono ?_⟩
            rintro e u3 ⟨rfl, k⟩
            have c3 := c2.trans k
            have hss := lt_of_cell a0
            replace z0 := (k.cells.2 s 0 hss).trans z0
            replace z1 := (k.cells.2 s 1 hss).trans z1
            replace a0 := k.cell a0
            replace a1 := k.cell a1
            refine hK _ _ (.inl ⟨rfl, c3, ?_⟩)
            clear hK k
            refine cix_quiet (m := 2) (CixOk.of (fun _ => trivial) (fun _ _ _ _ hd h => ⟨hd.symm.trans h.1, h.2⟩) (by kernel_rfl)) [5, 6, 7] rfl (by kernel_rfl) c3 ?_
            show wpQuietIn _ _ _ _ _ _ [_, _, _] _
            iterate 3 (gi_big_quiet_step (fail))
            refine wpQuietIn_nil ?_
            refine cix_one (m := 1) 9 _ rfl rfl (by kernel_rfl) ?_
            show wpListIn _ _ _ _ _ [_] _ _
            have hT : TwoI u3 s 0 0 := ⟨a0, a1, z0, z1⟩
            have kY : Keeps wr ((u3.setCell ⟨s, 0, none⟩ (.int .i64 us)).setCell ⟨s, 1, none⟩ (.int .i64 vs)) := (c3.setCell (p := ⟨s, 0, none⟩) _ hsz).setCell (p := ⟨s, 1, none⟩) _ hsz
            have hT2 := (hT.set0 (us)).set1 (vs)
            gi_wp2_with fail
            refine cix_one (m := 0) 10 _ rfl rfl (by kernel_rfl) ?_
            show wpListIn _ _ _ _ _ [_] _ _
            gi_wp2_with fail
            refine cix_done (by kernel_rfl) ?_ _
            go_wp2_with fail
            go_meet
            exact ⟨s, rfl, hsz, hT2, kY, rfl⟩
        · show wpListIn _ _ _ _ _ [_] _ _
          gi_wp2_with fail
          obtain ⟨s, hs⟩ : ∃ s, wr.heap.size = s := ⟨_, rfl⟩
          obtain ⟨u1, hu1⟩ : ∃ v, (wr.alloc (.cells #[.int .i64 0, .int .i64 0] 23)).drew = v := ⟨_, rfl⟩
          have c1 : Keeps wr u1 := by rw [← hu1]; exact ((Keeps.refl wr).alloc _).drew
          have a0 : u1.cell? ⟨s, 0, none⟩ = some (.int .i64 0) := by rw [← hu1, ← hs]; simp [go_sem]
          have a1 : u1.cell? ⟨s, 1, none⟩ = some (.int .i64 0) := by rw [← hu1, ← hs]; simp [go_sem]
          have z0 : u1.frozen? ⟨s, 0, none⟩ = false := by rw [← hu1, ← hs]; simp [go_sem]
          have z1 : u1.frozen? ⟨s, 1, none⟩ = false := by rw [← hu1, ← hs]; simp [go_sem]
          have hsz : wr.heap.size ≤ s := by rw [← hs]; exact (Keeps.refl wr).size
          rw [hu1, hs]
          clear hu1 hs
          refine ⟨c1, ?_⟩
          refine cix_one (m := 6) 3 _ rfl rfl (by kernel_rfl) ?_
          show wpListIn _ _ _ _ _ [_] _ _
          gi_wp2_with fail
          rename_i hK
          refine ⟨trivial, ((callsIn_wide (n := 2)).2 (SP.out (tt) (tt) _)).mono ?_⟩
          rintro e u2 ⟨rfl, k⟩
          have c2 := c1.trans k
          have hss := lt_of_cell a0
          replace z0 := (k.cells.2 s 0 hss).trans z0
          replace z1 := (k.cells.2 s 1 hss).trans z1
          replace a0 := k.cell a0
          replace a1 := k.cell a1
          refine hK _ _ (.inl ⟨rfl, c2, ?_⟩)
          clear hK k
          refine cix_one (m := 5) 4 _ rfl rfl (by kernel_rfl) ?_
          show wpListIn _ _ _ _ _ [_] _ _
          gi_wp2_with fail
          rename_i hK
          refine ⟨trivial, ((callsIn_wide (n := 2)).2 (SH.out _ (kq.trans c2))).mono ?_⟩
          rintro e u3 ⟨rfl, k⟩
          have c3 := c2.trans k
          have hss := lt_of_cell a0
          replace z0 := (k.cells.2 s 0 hss).trans z0
          replace z1 := (k.cells.2 s 1 hss).trans z1
          replace a0 := k.cell a0
          replace a1 := k.cell a1
          refine hK _ _ (.inl ⟨rfl, c3, ?_⟩)
          clear hK k
          refine cix_quiet (m := 2) (CixOk.of (fun _ => trivial) (fun _ _ _ _ hd h => ⟨hd.symm.trans h.1, h.2⟩) (by kernel_rfl)) [5, 6, 7] rfl (by kernel_rfl) c3 ?_
          show wpQuietIn _ _ _ _ _ _ [_, _, _] _
          iterate 3 (gi_big_quiet_step (fail))
          refine wpQuietIn_nil ?_
          refine cix_one (m := 1) 9 _ rfl rfl (by kernel_rfl) ?_
          show wpListIn _ _ _ _ _ [_] _ _
          have hT : TwoI u3 s 0 0 := ⟨a0, a1, z0, z1⟩
          have kY : Keeps wr ((u3.setCell ⟨s, 0, none⟩ (.int .i64 us)).setCell ⟨s, 1, none⟩ (.int .i64 vs)) := (c3.setCell (p := ⟨s, 0, none⟩) _ hsz).setCell (p := ⟨s, 1, none⟩) _ hsz
          have hT2 := (hT.set0 (us)).set1 (vs)
          gi_wp2_with fail
          refine cix_one (m := 0) 10 _ rfl rfl (by kernel_rfl) ?_
          show wpListIn _ _ _ _ _ [_] _ _
          gi_wp2_with fail
          refine cix_done (by kernel_rfl) ?_ _
          go_wp2_with fail
          go_meet
          exact ⟨s, rfl, hsz, hT2, kY, rfl⟩
      case rest =>
        obtain ⟨sS, rfl, hsz, hTS, kc, rfl⟩ := hcut
        obtain ⟨zz, hzz⟩ : ∃ W : World, W = wc := ⟨_, rfl⟩
        cases hzz
        rename_i hK
        refine hK _ _ ?_
        clear hK SH
        have s0 := hTS.c0
        have s1 := hTS.c1
        have ls0 := lt_of_cell s0
        obtain ⟨d, hdd⟩ : ∃ d, vs - us = d := ⟨_, rfl⟩
        have hwd : IntKind.i64.wrap d = d := IntWalk.i64_in _ (by constructor <;> omega)
        by_cases h300 : 300 < d
        · have hd3 : decide (300 < d) = true := decide_eq_true h300
          go_wp2_with fail
          refine (AW.out _).mono ?_
          rintro e w9 ⟨rfl, k9⟩
          go_wp2_with fail
          go_ret
          exact RetB.mk rfl ((kq.trans kc).trans k9)
        · have hd3 : decide (300 < d) = false := decide_eq_false h300
          go_wp2_with fail
          go_roundw
          case rel => exact ⟨k + 1, by omega, by go_num, kr.trans kc⟩
          case measure => simp [intOf]; omega
    · obtain rfl : k = 2 := by omega
      replace ci := kr.cell ci
      replace cj := kr.cell cj
      have hlo2 := lt_of_cell ci
      have hlb2 := lt_of_cell g0
      clear a0 a1
      go_wp2_with fail
      have k7d := (Keeps.refl wr).drew
      haveI : Nonempty (Inw (fun w' => Keeps wr w')) := ⟨⟨wr, Keeps.refl _⟩⟩
      have e0 : ∀ q : Inw (fun w' => Keeps wr w'), q.W.cell? ⟨b0, 0, none⟩ = some (.int .i64 mark) := fun q => q.h.cell g0
      have e1 : ∀ q : Inw (fun w' => Keeps wr w'), q.W.cell? ⟨b0, 1, none⟩ = some (.int .i64 llo) := fun q => q.h.cell g1
      have e2 : ∀ q : Inw (fun w' => Keeps wr w'), q.W.cell? ⟨b0, 2, none⟩ = some (.int .i64 lhi) := fun q => q.h.cell g2
      have e3 : ∀ q : Inw (fun w' => Keeps wr w'), q.W.cell? ⟨b0, 3, none⟩ = some (.int .i64 clo) := fun q => q.h.cell g3
      have e4 : ∀ q : Inw (fun w' => Keeps wr w'), q.W.cell? ⟨b0, 4, none⟩ = some (.int .i64 chi) := fun q => q.h.cell g4
      have e5 : ∀ q : Inw (fun w' => Keeps wr w'), q.W.cell? ⟨b0, 5, none⟩ = some (.slice ra rs.length rc) := fun q => q.h.cell g5
      have e6 : ∀ q : Inw (fun w' => Keeps wr w'), q.W.cell? ⟨ob, oo + i, none⟩ = some (.int .i64 x) := fun q => q.h.cell ci
      refine (wpIn_wide (n := 3)).1 ?_
      refine cix_start hmx (fun w' => Keeps wr w') ?_
      refine cix_quiet (m := 8) (CixOk.of (fun _ => trivial) (fun _ _ _ _ hd h => ⟨hd.symm.trans h.1, h.2⟩) (by kernel_rfl)) [0, 1, 2, 3, 4] rfl (by kernel_rfl) k7d ?_
      show wpQuietIn _ _ _ _ _ _ [_, _, _, _, _] _
      iterate 5 (gi_big_quiet_step (fail))
      refine wpQuietIn_nil ?_
      refine cix_one (m := 7) 5 _ rfl rfl (by kernel_rfl) ?_
      show wpListIn _ _ _ _ _ [_] _ _
      gi_wp2_with fail
      rename_i hK
      refine ⟨trivial, ((callsIn_wide (n := 2)).2 (MX.out _ (kq.trans k7d))).mono ?_⟩
      rintro e u1 ⟨rfl, k⟩
      replace k7d := k7d.trans k
      refine hK _ _ (.inl ⟨rfl, k7d, ?_⟩)
      clear hK k e0 e1 e2 e3 e4 e5 e6
      refine cix_quiet (m := 3) (CixOk.of (fun _ => trivial) (fun _ _ _ _ hd h => ⟨hd.symm.trans h.1, h.2⟩) (by kernel_rfl)) [6, 7, 8, 9] rfl (by kernel_rfl) k7d ?_
      show wpQuietIn _ _ _ _ _ _ [_, _, _, _] _
      iterate 4 (gi_big_quiet_step (fail))
      refine wpQuietIn_nil ?_
      refine cix_one (m := 2) 10 _ rfl rfl (by kernel_rfl) ?_
      show wpListIn _ _ _ _ _ [_] _ _
      gi_wp2_with fail
      refine cix_one (m := 1) 11 _ rfl rfl (by kernel_rfl) ?_
      show wpListIn _ _ _ _ _ [_] _ _
      gi_wp2_with fail
      refine cix_one (m := 0) 12 _ rfl rfl (by kernel_rfl) ?_
      show wpListIn _ _ _ _ _ [_] _ _
      gi_wp2_with fail
      refine cix_done (by kernel_rfl) ?_ _
      replace kq := kq.trans k7d
      replace cj := k7d.cell cj
      replace g0 := k7d.cell g0
      replace g1 := k7d.cell g1
      replace g2 := k7d.cell g2
      replace g3 := k7d.cell g3
      replace g4 := k7d.cell g4
      replace g5 := k7d.cell g5
      have hlo3 := lt_of_cell cj
      have hlb3 := lt_of_cell g0
      clear k7d hlo2 hlb2 ci
      go_wp2_with fail
      have k7d := (Keeps.refl u1).drew
      haveI : Nonempty (Inw (fun w' => Keeps u1 w')) := ⟨⟨u1, Keeps.refl _⟩⟩
      have e0 : ∀ q : Inw (fun w' => Keeps u1 w'), q.W.cell? ⟨b0, 0, none⟩ = some (.int .i64 mark) := fun q => q.h.cell g0
      have e1 : ∀ q : Inw (fun w' => Keeps u1 w'), q.W.cell? ⟨b0, 1, none⟩ = some (.int .i64 llo) := fun q => q.h.cell g1
      have e2 : ∀ q : Inw (fun w' => Keeps u1 w'), q.W.cell? ⟨b0, 2, none⟩ = some (.int .i64 lhi) := fun q => q.h.cell g2
      have e3 : ∀ q : Inw (fun w' => Keeps u1 w'), q.W.cell? ⟨b0, 3, none⟩ = some (.int .i64 clo) := fun q => q.h.cell g3
      have e4 : ∀ q : Inw (fun w' => Keeps u1 w'), q.W.cell? ⟨b0, 4, none⟩ = some (.int .i64 chi) := fun q => q.h.cell g4
      have e5 : ∀ q : Inw (fun w' => Keeps u1 w'), q.W.cell? ⟨b0, 5, none⟩ = some (.slice ra rs.length rc) := fun q => q.h.cell g5
      have e6 : ∀ q : Inw (fun w' => Keeps u1 w'), q.W.cell? ⟨ob, oo + j, none⟩ = some (.int .i64 y) := fun q => q.h.cell cj
      refine (wpIn_wide (n := 3)).1 ?_
      refine cix_start hmx (fun w' => Keeps u1 w') ?_
      refine cix_quiet (m := 8) (CixOk.of (fun _ => trivial) (fun _ _ _ _ hd h => ⟨hd.symm.trans h.1, h.2⟩) (by kernel_rfl)) [0, 1, 2, 3, 4] rfl (by kernel_rfl) k7d ?_
      show wpQuietIn _ _ _ _ _ _ [_, _, _, _, _] _
      iterate 5 (gi_big_quiet_step (fail))
      refine wpQuietIn_nil ?_
      refine cix_one (m := 7) 5 _ rfl rfl (by kernel_rfl) ?_
      show wpListIn _ _ _ _ _ [_] _ _
      gi_wp2_with fail
      rename_i hK
      refine ⟨trivial, ((callsIn_wide (n := 2)).2 (MY.out _ (kq.trans k7d))).mono ?_⟩
      rintro e u2 ⟨rfl, k⟩
      replace k7d := k7d.trans k
      refine hK _ _ (.inl ⟨rfl, k7d, ?_⟩)
      clear hK k e0 e1 e2 e3 e4 e5 e6
      refine cix_quiet (m := 3) (CixOk.of (fun _ => trivial) (fun _ _ _ _ hd h => ⟨hd.symm.trans h.1, h.2⟩) (by kernel_rfl)) [6, 7, 8, 9] rfl (by kernel_rfl) k7d ?_
      show wpQuietIn _ _ _ _ _ _ [_, _, _, _] _
      iterate 4 (gi_big_quiet_step (fail))
      refine wpQuietIn_nil ?_
      refine cix_one (m := 2) 10 _ rfl rfl (by kernel_rfl) ?_
      show wpListIn _ _ _ _ _ [_] _ _
      gi_wp2_with fail
      refine cix_one (m := 1) 11 _ rfl rfl (by kernel_rfl) ?_
      show wpListIn _ _ _ _ _ [_] _ _
      gi_wp2_with fail
      refine cix_one (m := 0) 12 _ rfl rfl (by kernel_rfl) ?_
      show wpListIn _ _ _ _ _ [_] _ _
      gi_wp2_with fail
      refine cix_done (by kernel_rfl) ?_ _
      replace kq := kq.trans k7d
      clear k7d hlo3 hlb3 cj g0 g1 g2 g3 g4 g5
      have hAD := HAD.out
      by_cases hlt : A < D
      · have d1 : decide (A < D) = true := decide_eq_true hlt
        go_wp2_with fail
        refine (AW.out _).mono ?_
        rintro e w9 ⟨rfl, k9⟩
        go_wp2_with fail
        go_ret
        exact RetB.mk rfl (kq.trans k9)
      · obtain rfl : A = D := by omega
        have hij := HIJ.out rfl
        have d1 : decide (A < A) = false := decide_eq_false (by omega)
        have d2 : decide (i ≤ j) = true := decide_eq_true hij
        go_wp2_with fail
        refine (AW.out _).mono ?_
        rintro e w9 ⟨rfl, k9⟩
        go_wp2_with fail
        go_ret
        exact RetB.mk rfl (kq.trans k9)
end Go.Proofs.Ytdfiebfgmpdceaa
