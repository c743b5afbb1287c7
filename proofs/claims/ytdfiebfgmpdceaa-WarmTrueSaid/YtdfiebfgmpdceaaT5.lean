/-
  WarmTrue walked.
-/
import Derived.Test.YtdfiebfgmpdceaaT4
import Derived.Test.YtdfiebfgmpdceaaF4
import Derived.Test.YtdfiebfgmpdceaaG2
import Derived.Deep.DeepCutAuto
namespace Go.Proofs.Ytdfiebfgmpdceaa
open Go.RowKit

/-- A span in a block of its own, and what is said beside it. -/
def Telt (W : World) (u v err : Int) (a b : Value) (wx : World) : Prop := ∃ s, a = .pointer (some ⟨s, 0, none⟩) ∧ W.heap.size ≤ s ∧ TwoI wx s u v ∧ Keeps W wx ∧ b = .int .i64 err
set_option maxRecDepth 100000 in
set_option maxHeartbeats 6400000 in
theorem wt_no (B : Wm) (a : Option Addr) (cap : Nat) (xs : List Int) (at_ off : Int) (w : World) (hI : B.In w) (hf : B.fine = false) : Calls Try.prog 6 #[B.v, .slice a xs.length cap, .int .u8 at_, .int .u16 off] w (RetB true w) := by
  have F1 := Lib.hid (fun w1 (k : Keeps w w1) => fine_any B w1 (hI.keep k))
  rw [hf] at F1
  have AW := Lib.hid (fun w1 => awake_any w1)
  have k0 := (Keeps.refl w).alloc (.cells #[.int .i64 B.mark, .int .i64 B.llo, .int .i64 B.lhi, .int .i64 B.clo, .int .i64 B.chi, .slice B.ra B.rs.length B.rc] 26)
  obtain ⟨mark, llo, lhi, clo, chi, ra, rc, rs⟩ := B
  dsimp only [Wm.v] at *
  clear hI hf
  go_enter Try.func6, Try.ntmps6
  go_wp2_with fail
  refine (F1.out _ k0).mono ?_
  rintro e w1 ⟨rfl, k1⟩
  go_wp2_with fail
  refine (AW.out _).mono ?_
  rintro e w2 ⟨rfl, k2⟩
  go_wp2_with fail
  go_ret
  exact RetB.mk rfl ((k0.trans k1).trans k2)
set_option maxRecDepth 100000 in
set_option maxHeartbeats 12800000 in
theorem wt_yes (B : Wm) (a : Option Addr) (cap : Nat) (xs : List Int) (at_ off : Int) (w : World) (hI : B.In w) (hf : B.fine = true) (hU : U16s w a xs) (hl : xs.length ≤ maxLen) (a0 : 0 ≤ at_) (a1 : at_ ≤ 255) (o0 : 0 ≤ off) (o1 : off ≤ 65535) : Calls Try.prog 6 #[B.v, .slice a xs.length cap, .int .u8 at_, .int .u16 off] w (RetB true w) := by
  have hmx : Try.prog.follows .mixedOrders = true := by kernel_rfl
  have hok := Wm.fine_ok hf
  obtain ⟨m1, m2, l1, l2, l3, l4, c1, c2, c3, c4⟩ := Wm.ok_lim hok
  have hrl := (vWrs_at (Wm.ok_reads hok)).1
  have F1 := Lib.hid (fun w1 (k : Keeps w w1) => fine_any B w1 (hI.keep k))
  rw [hf] at F1
  have AW := Lib.hid (fun w1 => awake_any w1)
  have TR := Lib.hid (fun w1 (k : Keeps w w1) => truly_is B hok a cap xs w1 (hI.keep k) (hU.keep k) hl)
  have HLN := Lib.hid (fun l c ps ra rc w1 h => true_len hok l c ps ra rc w1 h)
  have HCF := Lib.hid (fun l c ps ra rc w1 h => true_coeff hok l c ps ra rc w1 h)
  have HCN := Lib.hid (fun l c ps ra rc w1 h => true_count hok l c ps ra rc w1 h)
  have HCL := Lib.hid (fun l c ps ra rc w1 h => true_clash hok l c ps ra rc w1 h)
  have HHD := Lib.hid (fun l c ps ra rc w1 h => true_held hok l c ps ra rc w1 h)
  have HSH := Lib.hid (fun l c ps ra rc w1 h => true_shows hok l c ps ra rc w1 h)
  have HRM := Lib.hid (fun l c ps ra rc w1 h => true_room hok l c ps ra rc w1 h)
  have SP := Lib.hid (fun a b w1 => lawSpan_any a b w1)
  have SW := Lib.hid (fun x y t w1 => lawShows_any B.mark x y t w1)
  have IN := Lib.hid (fun n lo hi w1 => inside_any n lo hi w1)
  obtain ⟨r1, hr1⟩ : ∃ r, at_ % 201 = r := ⟨_, rfl⟩
  obtain ⟨t, ht⟩ : ∃ r, r1 - 100 = r := ⟨_, rfl⟩
  have t0 : -100 ≤ t := by omega
  have t1 : t ≤ 100 := by omega
  have hwt : IntKind.i64.wrap t = t := IntWalk.i64_in _ (by constructor <;> omega)
  obtain ⟨t2, ht2⟩ : ∃ r, t + 2 = r := ⟨_, rfl⟩
  have hwt2 : IntKind.i64.wrap t2 = t2 := IntWalk.i64_in _ (by constructor <;> omega)
  obtain ⟨t3, ht3⟩ : ∃ r, min 100 t2 = r := ⟨_, rfl⟩
  have t30 : t ≤ t3 := by omega
  have t31 : t3 ≤ 100 := by omega
  obtain ⟨mu, hmu⟩ : ∃ r, off % 30001 = r := ⟨_, rfl⟩
  have mu0 : 0 ≤ mu := by omega
  have mu1 : mu ≤ 30000 := by omega
  have HT2 := Lib.hid ht2
  have HT3 := Lib.hid ht3
  have HWT2 := Lib.hid hwt2
  have HR1 := Lib.hid hr1
  have HT := Lib.hid ht
  have HMU := Lib.hid hmu
  have BX := Wm.Box.new B w
  have k0 := (Keeps.refl w).alloc (.cells #[.int .i64 B.mark, .int .i64 B.llo, .int .i64 B.lhi, .int .i64 B.clo, .int .i64 B.chi, .slice B.ra B.rs.length B.rc] 26)
  have hn5 : ∀ ps : List (Wr × Int), ps.map (·.1) = B.rs → ps.length ≤ 5 := fun ps h => by rw [← h, List.length_map] at hrl; exact hrl
  obtain ⟨mark, llo, lhi, clo, chi, ra, rc, rs⟩ := B
  have g0 := BX.c0
  have gB := BX
  dsimp only [Wm.v, trV] at *
  obtain ⟨W, hW⟩ : ∃ W, w.alloc (.cells #[.int .i64 mark, .int .i64 llo, .int .i64 lhi, .int .i64 clo, .int .i64 chi, .slice ra rs.length rc] 26) = W := ⟨_, rfl⟩
  rw [hW] at k0 g0 gB
  obtain ⟨b0, hb0⟩ : ∃ b0, w.heap.size = b0 := ⟨_, rfl⟩
  rw [hb0] at g0 gB
  obtain ⟨g0', g1, g2, g3, g4, g5⟩ := gB
  try dsimp only at g0 g1 g2 g3 g4 g5
  clear hI hf hU hok BX ht2 ht3 hwt2 hr1 ht hmu g0'
  go_enter Try.func6, Try.ntmps6
  go_wp2_with fail
  refine (F1.out _ k0).mono ?_
  rintro e w1 ⟨rfl, k1⟩
  have kk := k0.trans k1
  replace g0 := k1.cell g0
  replace g1 := k1.cell g1
  replace g2 := k1.cell g2
  replace g3 := k1.cell g3
  replace g4 := k1.cell g4
  replace g5 := k1.cell g5
  clear k1
  go_wp2_with fail
  refine (TR.out _ kk).mono ?_
  rintro e w2 ⟨l, c, ps, ra', rc', ta, tc, rfl, hT, hti, k2⟩
  replace kk := kk.trans k2
  replace g0 := k2.cell g0
  have hl := hT.hl
  have hc := hT.hc
  try dsimp only at hl hc
  obtain ⟨u1, v1, hu1, LN⟩ := HLN.out l c ps ra' rc' w2 hT
  obtain ⟨u2, v2, hu2, CF⟩ := HCF.out l c ps ra' rc' w2 hT
  obtain ⟨n, hn, CN⟩ := HCN.out l c ps ra' rc' w2 hT
  have CL := HCL.out l c ps ra' rc' w2 hT
  have HD : ∀ k : Nat, k < ps.length → ∃ u v, (u ≤ (ps.map (·.2))[k]?.getD 0 ∧ (ps.map (·.2))[k]?.getD 0 ≤ v) ∧ ∀ w1, Keeps w2 w1 → Calls Try.prog 19 #[.agg #[.int .i64 mark, .int .i64 llo, .int .i64 lhi, .int .i64 clo, .int .i64 chi, .slice ra' ps.length rc'], .int .i64 k] w1 (Ret (.tuple #[.agg #[.int .i64 u, .int .i64 v], .int .i64 0]) w1) := fun k hk => by
    obtain ⟨u, v, h1, h2⟩ := HHD.out l c ps ra' rc' w2 hT k hk
    exact ⟨u, v, by rw [List.getElem?_eq_getElem (by simpa using hk), List.getElem_map]; exact h1, h2⟩
  obtain ⟨us, vs, hus, SH⟩ := HSH.out l c ps ra' rc' w2 hT t t3 t0 t30 t31
  obtain ⟨mo, mo0, mo1, hmo, RM⟩ := HRM.out l c ps ra' rc' w2 hT mu mu0 mu1
  have hp5 := hn5 ps hT.hps
  try dsimp only at hus hmo LN CF CN CL HD SH RM
  obtain ⟨nn, hnn⟩ : ∃ n, ps.length = n := ⟨_, rfl⟩
  simp only [hnn] at LN CF CN CL HD SH RM hp5
  rw [hnn]
  have LN1 := Lib.hid LN
  have CF1 := Lib.hid CF
  have CN1 := Lib.hid CN
  have CL1 := Lib.hid CL
  have HD1 := Lib.hid HD
  have SH1 := Lib.hid SH
  have RM1 := Lib.hid RM
  have HMO := Lib.hid hmo
  have HUS := Lib.hid hus
  have HTI := Lib.hid hti
  have HNN := Lib.hid hnn
  clear LN CF CN CL HD SH RM hmo hti k2 hT HLN HCF HCN HCL HHD HSH HRM TR F1 g1 g2 g3 g4 g5 hn5 hnn hus
  have i1 : decide (u1 ≤ l ∧ l ≤ v1) = true := decide_eq_true hu1
  have i2 : decide (u2 ≤ c ∧ c ≤ v2) = true := decide_eq_true hu2
  have i3 : decide (n < 1) = false := decide_eq_false (by omega)
  obtain ⟨bX, hbX⟩ : ∃ s, w2.heap.size = s := ⟨_, rfl⟩
  obtain ⟨y0, hy0⟩ : ∃ y, w2.alloc (.cells #[.int .i64 mark, .int .i64 llo, .int .i64 lhi, .int .i64 clo, .int .i64 chi, .slice ra' nn rc'] 26) = y := ⟨_, rfl⟩
  have qy0 : Keeps w2 y0 := by rw [← hy0]; exact (Keeps.refl _).alloc _
  have x0 : y0.cell? ⟨bX, 0, none⟩ = some (.int .i64 mark) := by rw [← hy0, ← hbX]; simp [go_sem]
  have x1 : y0.cell? ⟨bX, 1, none⟩ = some (.int .i64 llo) := by rw [← hy0, ← hbX]; simp [go_sem]
  have x2 : y0.cell? ⟨bX, 2, none⟩ = some (.int .i64 lhi) := by rw [← hy0, ← hbX]; simp [go_sem]
  have x3 : y0.cell? ⟨bX, 3, none⟩ = some (.int .i64 clo) := by rw [← hy0, ← hbX]; simp [go_sem]
  have x4 : y0.cell? ⟨bX, 4, none⟩ = some (.int .i64 chi) := by rw [← hy0, ← hbX]; simp [go_sem]
  have x5 : y0.cell? ⟨bX, 5, none⟩ = some (.slice ra' nn rc') := by rw [← hy0, ← hbX]; simp [go_sem]
  have kx : Keeps w2 y0 := (Keeps.refl w2).trans qy0
  replace g0 := qy0.cell g0
  go_wp2_with fail
  clear hy0 hbX qy0
  refine (LN1.out _ kx).mono ?_
  rintro e z1 ⟨rfl, k1⟩
  replace x0 := k1.cell x0
  replace x1 := k1.cell x1
  replace x2 := k1.cell x2
  replace x3 := k1.cell x3
  replace x4 := k1.cell x4
  replace x5 := k1.cell x5
  replace g0 := k1.cell g0
  obtain ⟨s1, hs1⟩ : ∃ s, z1.heap.size = s := ⟨_, rfl⟩
  obtain ⟨y1, hy1⟩ : ∃ y, z1.alloc (.cells #[.int .i64 u1, .int .i64 v1] 23) = y := ⟨_, rfl⟩
  have qy1 : Keeps z1 y1 := by rw [← hy1]; exact (Keeps.refl _).alloc _
  have p0 : y1.cell? ⟨s1, 0, none⟩ = some (.int .i64 u1) := by rw [← hy1, ← hs1]; simp [go_sem]
  have p1 : y1.cell? ⟨s1, 1, none⟩ = some (.int .i64 v1) := by rw [← hy1, ← hs1]; simp [go_sem]
  have kx1 : Keeps w2 y1 := (kx.trans k1).trans qy1
  replace x0 := qy1.cell x0
  replace x1 := qy1.cell x1
  replace x2 := qy1.cell x2
  replace x3 := qy1.cell x3
  replace x4 := qy1.cell x4
  replace x5 := qy1.cell x5
  replace g0 := qy1.cell g0
  go_wp2_with fail
  clear hy1 hs1 kx k1 qy1 LN1
  refine (CF1.out _ kx1).mono ?_
  rintro e z2 ⟨rfl, k1⟩
  replace p0 := k1.cell p0
  replace p1 := k1.cell p1
  replace x0 := k1.cell x0
  replace x1 := k1.cell x1
  replace x2 := k1.cell x2
  replace x3 := k1.cell x3
  replace x4 := k1.cell x4
  replace x5 := k1.cell x5
  replace g0 := k1.cell g0
  obtain ⟨s2, hs2⟩ : ∃ s, z2.heap.size = s := ⟨_, rfl⟩
  obtain ⟨y2, hy2⟩ : ∃ y, z2.alloc (.cells #[.int .i64 u2, .int .i64 v2] 23) = y := ⟨_, rfl⟩
  have qy2 : Keeps z2 y2 := by rw [← hy2]; exact (Keeps.refl _).alloc _
  have q0 : y2.cell? ⟨s2, 0, none⟩ = some (.int .i64 u2) := by rw [← hy2, ← hs2]; simp [go_sem]
  have q1 : y2.cell? ⟨s2, 1, none⟩ = some (.int .i64 v2) := by rw [← hy2, ← hs2]; simp [go_sem]
  have kx2 : Keeps w2 y2 := (kx1.trans k1).trans qy2
  replace x0 := qy2.cell x0
  replace x1 := qy2.cell x1
  replace x2 := qy2.cell x2
  replace x3 := qy2.cell x3
  replace x4 := qy2.cell x4
  replace x5 := qy2.cell x5
  replace g0 := qy2.cell g0
  replace p0 := qy2.cell p0
  replace p1 := qy2.cell p1
  go_wp2_with fail
  clear hy2 hs2 kx1 k1 qy2 CF1
  refine (CN1.out _ kx2).mono ?_
  rintro e z3 ⟨rfl, k1⟩
  replace kx2 := kx2.trans k1
  replace p0 := k1.cell p0
  replace p1 := k1.cell p1
  replace q0 := k1.cell q0
  replace q1 := k1.cell q1
  replace x0 := k1.cell x0
  replace x1 := k1.cell x1
  replace x2 := k1.cell x2
  replace x3 := k1.cell x3
  replace x4 := k1.cell x4
  replace x5 := k1.cell x5
  replace g0 := k1.cell g0
  clear k1
  go_wp2_with fail
  refine (CL1.out _ kx2).mono ?_
  rintro e z4 ⟨rfl, k1⟩
  replace kx2 := kx2.trans k1
  replace p0 := k1.cell p0
  replace p1 := k1.cell p1
  replace q0 := k1.cell q0
  replace q1 := k1.cell q1
  replace x0 := k1.cell x0
  replace x1 := k1.cell x1
  replace x2 := k1.cell x2
  replace x3 := k1.cell x3
  replace x4 := k1.cell x4
  replace x5 := k1.cell x5
  replace g0 := k1.cell g0
  clear k1 CN1 CL1
  have I1 := Lib.hid (fun w1 => show Calls Try.prog 33 #[.int .i64 l, .agg #[.int .i64 u1, .int .i64 v1]] w1 (RetB true w1) from by have h := IN.out l u1 v1 w1; rw [i1] at h; exact h)
  have I2 := Lib.hid (fun w1 => show Calls Try.prog 33 #[.int .i64 c, .agg #[.int .i64 u2, .int .i64 v2]] w1 (RetB true w1) from by have h := IN.out c u2 v2 w1; rw [i2] at h; exact h)
  clear i1 i2
  go_wp2_with fail
  refine (I1.out _).mono ?_
  rintro e z5 ⟨rfl, k1⟩
  replace kx2 := kx2.trans k1
  replace q0 := k1.cell q0
  replace q1 := k1.cell q1
  replace x0 := k1.cell x0
  replace x1 := k1.cell x1
  replace x2 := k1.cell x2
  replace x3 := k1.cell x3
  replace x4 := k1.cell x4
  replace x5 := k1.cell x5
  replace g0 := k1.cell g0
  clear k1 p0 p1
  go_wp2_with fail
  refine (I2.out _).mono ?_
  rintro e z6 ⟨rfl, k1⟩
  replace kx2 := kx2.trans k1
  replace x0 := k1.cell x0
  replace x1 := k1.cell x1
  replace x2 := k1.cell x2
  replace x3 := k1.cell x3
  replace x4 := k1.cell x4
  replace x5 := k1.cell x5
  replace g0 := k1.cell g0
  clear k1 q0 q1 I1 I2 i3
  go_wp2_with fail
  have LL : (ps.map (·.2)).length = nn := by rw [List.length_map]; exact HNN.out
  obtain ⟨L, hL⟩ : ∃ L, ps.map (·.2) = L := ⟨_, rfl⟩
  simp only [hL] at HTI HD1
  rw [hL] at LL
  have HLL := Lib.hid LL
  clear LL hL
  go_loopw [97] (fun i wr => ∃ k : Nat, k ≤ nn ∧ i = .int .i64 k ∧ Keeps z6 wr) (fun i _ => nn - (intOf i).toNat)
  case atStart => exact ⟨0, Nat.zero_le _, rfl, Keeps.refl _⟩
  case round =>
    obtain ⟨k, hk, rfl, kr⟩ := hrel
    have kw := kx2.trans kr
    replace x0 := kr.cell x0
    replace x1 := kr.cell x1
    replace x2 := kr.cell x2
    replace x3 := kr.cell x3
    replace x4 := kr.cell x4
    replace x5 := kr.cell x5
    replace g0 := kr.cell g0
    by_cases hlt : k < nn
    · obtain ⟨b, o, rfl, hcs⟩ := (HTI.out.keep kw) (by intro e; have := HLL.out; rw [e] at this; simp at this; omega)
      have h2 := hcs k (by rw [HLL.out]; exact hlt)
      obtain ⟨uk, vk, hkk, HK⟩ := HD1.out k hlt
      obtain ⟨tv, htv⟩ : ∃ t, L[k]?.getD 0 = t := ⟨_, rfl⟩
      rw [htv] at h2 hkk
      have H1 := Lib.hid HK
      have I1 := Lib.hid (fun w1 => show Calls Try.prog 33 #[.int .i64 tv, .agg #[.int .i64 uk, .int .i64 vk]] w1 (RetB true w1) from by have h := IN.out tv uk vk w1; rw [decide_eq_true hkk] at h; exact h)
      have hlb := lt_of_cell h2
      clear HK hkk htv hcs
      go_wp2_with fail
      refine (H1.out _ kw).mono ?_
      rintro e y3 ⟨rfl, k1⟩
      obtain ⟨s4, hs4⟩ : ∃ s, y3.heap.size = s := ⟨_, rfl⟩
      obtain ⟨y4, hy4⟩ : ∃ y, y3.alloc (.cells #[.int .i64 uk, .int .i64 vk] 23) = y := ⟨_, rfl⟩
      have qy4 : Keeps y3 y4 := by rw [← hy4]; exact (Keeps.refl _).alloc _
      have p0 : y4.cell? ⟨s4, 0, none⟩ = some (.int .i64 uk) := by rw [← hy4, ← hs4]; simp [go_sem]
      have p1 : y4.cell? ⟨s4, 1, none⟩ = some (.int .i64 vk) := by rw [← hy4, ← hs4]; simp [go_sem]
      have kw2 : Keeps w2 y4 := (kw.trans k1).trans qy4
      have kr2 := (kr.trans k1).trans qy4
      go_wp2_with fail
      refine (I1.out _).mono ?_
      rintro e y5 ⟨rfl, k2⟩
      go_wp2_with fail
      go_roundw
      case rel => exact ⟨k + 1, by omega, by go_num, kr2.trans k2⟩
      case measure => simp [intOf]; omega
    · obtain rfl : nn = k := by omega
      have hr1 := HR1.out
      have ht := HT.out
      have ht2 := HT2.out
      have hwt2 := HWT2.out
      have ht3 := HT3.out
      clear HTI HD1 HLL
      go_upto_region 18 with fail
      go_cut [26, 27] (fun a b wx => Telt wr us vs 0 a b wx)
      case first =>
        have k5d := (Keeps.refl wr).drew
        haveI : Nonempty (Inw (fun w' => Keeps wr w')) := ⟨⟨wr, Keeps.refl _⟩⟩
        have e0 : ∀ q : Inw (fun w' => Keeps wr w'), q.W.cell? ⟨bX, 0, none⟩ = some (.int .i64 mark) := fun q => q.h.cell x0
        have e1 : ∀ q : Inw (fun w' => Keeps wr w'), q.W.cell? ⟨bX, 1, none⟩ = some (.int .i64 llo) := fun q => q.h.cell x1
        have e2 : ∀ q : Inw (fun w' => Keeps wr w'), q.W.cell? ⟨bX, 2, none⟩ = some (.int .i64 lhi) := fun q => q.h.cell x2
        have e3 : ∀ q : Inw (fun w' => Keeps wr w'), q.W.cell? ⟨bX, 3, none⟩ = some (.int .i64 clo) := fun q => q.h.cell x3
        have e4 : ∀ q : Inw (fun w' => Keeps wr w'), q.W.cell? ⟨bX, 4, none⟩ = some (.int .i64 chi) := fun q => q.h.cell x4
        have e5 : ∀ q : Inw (fun w' => Keeps wr w'), q.W.cell? ⟨bX, 5, none⟩ = some (.slice ra' nn rc') := fun q => q.h.cell x5
        go_wp2_with fail
        refine (wpIn_wide (n := 3)).1 ?_
        refine cix_start hmx (fun w' => Keeps wr w') ?_
        refine cix_quiet (m := 8) (CixOk.of (fun _ => trivial) (fun _ _ _ _ hd h => ⟨hd.symm.trans h.1, h.2⟩) (by kernel_rfl)) [0, 1, 2, 3, 4] rfl (by kernel_rfl) k5d ?_
        show wpQuietIn _ _ _ _ _ _ [_, _, _, _, _] _
        iterate 5 (gi_big_quiet_step (fail))
        refine wpQuietIn_nil ?_
        refine cix_two (m := 7) 5 _ 10 _ rfl rfl rfl (by kernel_rfl) ?_ ?_
        · show wpListIn _ _ _ _ _ [_] _ _
          gi_wp2_with fail
          rename_i hK
          refine ⟨trivial, ((callsIn_wide (n := 2)).2 (SP.out (t) (t3) _)).mono ?_⟩
          rintro e u1 ⟨rfl, k⟩
          have c1 := k5d.trans k
          refine hK _ _ (.inl ⟨rfl, c1, ?_⟩)
          clear hK k
          refine cix_two (m := 6) 6 _ 10 _ rfl rfl rfl (by kernel_rfl) ?_ ?_
          · show wpListIn _ _ _ _ _ [_] _ _
            gi_wp2_with fail
            rename_i hK
            refine ⟨trivial, ((callsIn_wide (n := 2)).2 (SH1.out _ (kw.trans c1))).mono ?_⟩
            rintro e u2 ⟨rfl, k⟩
            have c2 := c1.trans k
            refine hK _ _ (.inl ⟨rfl, c2, ?_⟩)
            clear hK k
            refine cix_quiet (m := 3) (CixOk.of (fun _ => trivial) (fun _ _ _ _ hd h => ⟨hd.symm.trans h.1, h.2⟩) (by kernel_rfl)) [7, 8, 9] rfl (by kernel_rfl) c2 ?_
            show wpQuietIn _ _ _ _ _ _ [_, _, _] _
            iterate 3 (gi_big_quiet_step (fail))
            refine wpQuietIn_nil ?_
            refine cix_one (m := 2) 10 _ rfl rfl (by kernel_rfl) ?_
            show wpListIn _ _ _ _ _ [_] _ _
            gi_wp2_with fail
            obtain ⟨s, hs⟩ : ∃ s, u2.heap.size = s := ⟨_, rfl⟩
            obtain ⟨u3, hu3⟩ : ∃ v, u2.alloc (.cells #[.int .i64 0, .int .i64 0] 23) = v := ⟨_, rfl⟩
            have c3 : Keeps wr u3 := by rw [← hu3]; exact c2.alloc _
            have a0 : u3.cell? ⟨s, 0, none⟩ = some (.int .i64 0) := by rw [← hu3, ← hs]; simp [go_sem]
            have a1 : u3.cell? ⟨s, 1, none⟩ = some (.int .i64 0) := by rw [← hu3, ← hs]; simp [go_sem]
            have z0 : u3.frozen? ⟨s, 0, none⟩ = false := by rw [← hu3, ← hs]; simp [go_sem]
            have z1 : u3.frozen? ⟨s, 1, none⟩ = false := by rw [← hu3, ← hs]; simp [go_sem]
            have hsz : wr.heap.size ≤ s := by rw [← hs]; exact c2.size
            rw [hu3, hs]
            clear hu3 hs
            refine ⟨c3, ?_⟩
            refine cix_one (m := 1) 11 _ rfl rfl (by kernel_rfl) ?_
            show wpListIn _ _ _ _ _ [_] _ _
            have hT : TwoI u3 s 0 0 := ⟨a0, a1, z0, z1⟩
            have kY : Keeps wr ((u3.setCell ⟨s, 0, none⟩ (.int .i64 us)).setCell ⟨s, 1, none⟩ (.int .i64 vs)) := (c3.setCell (p := ⟨s, 0, none⟩) _ hsz).setCell (p := ⟨s, 1, none⟩) _ hsz
            have hT2 := (hT.set0 (us)).set1 (vs)
            gi_wp2_with fail
            refine cix_one (m := 0) 12 _ rfl rfl (by kernel_rfl) ?_
            show wpListIn _ _ _ _ _ [_] _ _
            gi_wp2_with fail
            refine cix_done (by kernel_rfl) ?_ _
            go_wp2_with fail
            go_meet
            exact ⟨s, rfl, hsz, hT2, kY, rfl⟩
          · show wpListIn _ _ _ _ _ [_] _ _
            gi_wp2_with fail
            obtain ⟨s, hs⟩ : ∃ s, u1.heap.size = s := ⟨_, rfl⟩
            obtain ⟨u2, hu2⟩ : ∃ v, u1.alloc (.cells #[.int .i64 0, .int .i64 0] 23) = v := ⟨_, rfl⟩
            have c2 : Keeps wr u2 := by rw [← hu2]; exact c1.alloc _
            have a0 : u2.cell? ⟨s, 0, none⟩ = some (.int .i64 0) := by rw [← hu2, ← hs]; simp [go_sem]
            have a1 : u2.cell? ⟨s, 1, none⟩ = some (.int .i64 0) := by rw [← hu2, ← hs]; simp [go_sem]
            have z0 : u2.frozen? ⟨s, 0, none⟩ = false := by rw [← hu2, ← hs]; simp [go_sem]
            have z1 : u2.frozen? ⟨s, 1, none⟩ = false := by rw [← hu2, ← hs]; simp [go_sem]
            have hsz : wr.heap.size ≤ s := by rw [← hs]; exact c1.size
            rw [hu2, hs]
            clear hu2 hs
            refine ⟨c2, ?_⟩
            refine cix_one (m := 5) 6 _ rfl rfl (by kernel_rfl) ?_
            show wpListIn _ _ _ _ _ [_] _ _
            gi_wp2_with fail
            rename_i hK
            refine ⟨trivial, ((callsIn_wide (n := 2)).2 (SH1.out _ (kw.trans c2))).mono ?_⟩
            rintro e u3 ⟨rfl, k⟩
            have c3 := c2.trans k
            have hss := lt_of_cell a0
            replace z0 := (k.cells.2 s 0 hss).trans z0
            replace z1 := (k.cells.2 s 1 hss).trans z1
            replace a0 := k.cell a0
            replace a1 := k.cell a1
            refine hK _ _ (.inl ⟨rfl, c3, ?_⟩)
            clear hK k
            refine cix_quiet (m := 2) (CixOk.of (fun _ => trivial) (fun _ _ _ _ hd h => ⟨hd.symm.trans h.1, h.2⟩) (by kernel_rfl)) [7, 8, 9] rfl (by kernel_rfl) c3 ?_
            show wpQuietIn _ _ _ _ _ _ [_, _, _] _
            iterate 3 (gi_big_quiet_step (fail))
            refine wpQuietIn_nil ?_
            refine cix_one (m := 1) 11 _ rfl rfl (by kernel_rfl) ?_
            show wpListIn _ _ _ _ _ [_] _ _
            have hT : TwoI u3 s 0 0 := ⟨a0, a1, z0, z1⟩
            have kY : Keeps wr ((u3.setCell ⟨s, 0, none⟩ (.int .i64 us)).setCell ⟨s, 1, none⟩ (.int .i64 vs)) := (c3.setCell (p := ⟨s, 0, none⟩) _ hsz).setCell (p := ⟨s, 1, none⟩) _ hsz
            have hT2 := (hT.set0 (us)).set1 (vs)
            gi_wp2_with fail
            refine cix_one (m := 0) 12 _ rfl rfl (by kernel_rfl) ?_
            show wpListIn _ _ _ _ _ [_] _ _
            gi_wp2_with fail
            refine cix_done (by kernel_rfl) ?_ _
            go_wp2_with fail
            go_meet
            exact ⟨s, rfl, hsz, hT2, kY, rfl⟩
        · show wpListIn _ _ _ _ _ [_] _ _
          gi_wp2_with fail
          obtain ⟨s, hs⟩ : ∃ s, wr.heap.size = s := ⟨_, rfl⟩
          obtain ⟨u1, hu1⟩ : ∃ v, (wr.alloc (.cells #[.int .i64 0, .int .i64 0] 23)).drew = v := ⟨_, rfl⟩
          have c1 : Keeps wr u1 := by rw [← hu1]; exact ((Keeps.refl wr).alloc _).drew
          have a0 : u1.cell? ⟨s, 0, none⟩ = some (.int .i64 0) := by rw [← hu1, ← hs]; simp [go_sem]
          have a1 : u1.cell? ⟨s, 1, none⟩ = some (.int .i64 0) := by rw [← hu1, ← hs]; simp [go_sem]
          have z0 : u1.frozen? ⟨s, 0, none⟩ = false := by rw [← hu1, ← hs]; simp [go_sem]
          have z1 : u1.frozen? ⟨s, 1, none⟩ = false := by rw [← hu1, ← hs]; simp [go_sem]
          have hsz : wr.heap.size ≤ s := by rw [← hs]; exact (Keeps.refl wr).size
          rw [hu1, hs]
          clear hu1 hs
          refine ⟨c1, ?_⟩
          refine cix_one (m := 6) 5 _ rfl rfl (by kernel_rfl) ?_
          show wpListIn _ _ _ _ _ [_] _ _
          gi_wp2_with fail
          rename_i hK
          refine ⟨trivial, ((callsIn_wide (n := 2)).2 (SP.out (t) (t3) _)).mono ?_⟩
          rintro e u2 ⟨rfl, k⟩
          have c2 := c1.trans k
          have hss := lt_of_cell a0
          replace z0 := (k.cells.2 s 0 hss).trans z0
          replace z1 := (k.cells.2 s 1 hss).trans z1
          replace a0 := k.cell a0
          replace a1 := k.cell a1
          refine hK _ _ (.inl ⟨rfl, c2, ?_⟩)
          clear hK k
          refine cix_one (m := 5) 6 _ rfl rfl (by kernel_rfl) ?_
          show wpListIn _ _ _ _ _ [_] _ _
          gi_wp2_with fail
          rename_i hK
          refine ⟨trivial, ((callsIn_wide (n := 2)).2 (SH1.out _ (kw.trans c2))).mono ?_⟩
          rintro e u3 ⟨rfl, k⟩
          have c3 := c2.trans k
          have hss := lt_of_cell a0
          replace z0 := (k.cells.2 s 0 hss).trans z0
          replace z1 := (k.cells.2 s 1 hss).trans z1
          replace a0 := k.cell a0
          replace a1 := k.cell a1
          refine hK _ _ (.inl ⟨rfl, c3, ?_⟩)
          clear hK k
          refine cix_quiet (m := 2) (CixOk.of (fun _ => trivial) (fun _ _ _ _ hd h => ⟨hd.symm.trans h.1, h.2⟩) (by kernel_rfl)) [7, 8, 9] rfl (by kernel_rfl) c3 ?_
          show wpQuietIn _ _ _ _ _ _ [_, _, _] _
          iterate 3 (gi_big_quiet_step (fail))
          refine wpQuietIn_nil ?_
          refine cix_one (m := 1) 11 _ rfl rfl (by kernel_rfl) ?_
          show wpListIn _ _ _ _ _ [_] _ _
          have hT : TwoI u3 s 0 0 := ⟨a0, a1, z0, z1⟩
          have kY : Keeps wr ((u3.setCell ⟨s, 0, none⟩ (.int .i64 us)).setCell ⟨s, 1, none⟩ (.int .i64 vs)) := (c3.setCell (p := ⟨s, 0, none⟩) _ hsz).setCell (p := ⟨s, 1, none⟩) _ hsz
          have hT2 := (hT.set0 (us)).set1 (vs)
          gi_wp2_with fail
          refine cix_one (m := 0) 12 _ rfl rfl (by kernel_rfl) ?_
          show wpListIn _ _ _ _ _ [_] _ _
          gi_wp2_with fail
          refine cix_done (by kernel_rfl) ?_ _
          go_wp2_with fail
          go_meet
          exact ⟨s, rfl, hsz, hT2, kY, rfl⟩
      case rest =>
        obtain ⟨sS, rfl, hsz, hTS, kc, rfl⟩ := hcut
        obtain ⟨wc, hwc⟩ : ∃ W : World, W = wc := ⟨_, rfl⟩
        cases hwc
        rename_i hK
        refine hK _ _ ?_
        clear hK SH1 ht2 hwt2 ht3 hr1 ht
        replace kw := kw.trans kc
        replace x0 := kc.cell x0
        replace x1 := kc.cell x1
        replace x2 := kc.cell x2
        replace x3 := kc.cell x3
        replace x4 := kc.cell x4
        replace x5 := kc.cell x5
        replace g0 := kc.cell g0
        clear kc
        have hmu := HMU.out
        go_wp2_with fail
        refine (RM1.out _ kw).mono ?_
        rintro e z7 ⟨rfl, k1⟩
        replace kw := kw.trans k1
        replace g0 := k1.cell g0
        replace hTS := hTS.keep k1
        clear k1 x0 x1 x2 x3 x4 x5 RM1 hmu
        have s0 := hTS.c0
        have s1 := hTS.c1
        obtain ⟨sh, hsh⟩ : ∃ z, shI mark l c t = z := ⟨_, rfl⟩
        have hus := HUS.out
        rw [hsh] at hus
        have S1 := Lib.hid (fun w1 => show Calls Try.prog 35 #[.int .i64 mark, .int .i64 l, .int .i64 c, .int .i64 t] w1 (RetI sh w1) from by have h := SW.out l c t w1 m1 m2 (by omega) (by omega) (by omega) (by omega) (by omega) (by omega); rw [hsh] at h; exact h)
        have I1 := Lib.hid (fun w1 => show Calls Try.prog 33 #[.int .i64 sh, .agg #[.int .i64 us, .int .i64 vs]] w1 (RetB true w1) from by have h := IN.out sh us vs w1; rw [decide_eq_true hus] at h; exact h)
        have d1 : decide (mo < 0) = false := decide_eq_false (by omega)
        have d2 : decide (100 < mo) = false := decide_eq_false (by omega)
        clear hus hsh
        go_wp2_with fail
        have k7d := (Keeps.refl z7).drew
        haveI : Nonempty (Inw (fun w' => Keeps z7 w')) := ⟨⟨z7, Keeps.refl _⟩⟩
        have e0 : ∀ q : Inw (fun w' => Keeps z7 w'), q.W.cell? ⟨b0, 0, none⟩ = some (.int .i64 mark) := fun q => q.h.cell g0
        have e1 : ∀ q : Inw (fun w' => Keeps z7 w'), q.W.cell? ⟨sS, 0, none⟩ = some (.int .i64 us) := fun q => q.h.cell s0
        have e2 : ∀ q : Inw (fun w' => Keeps z7 w'), q.W.cell? ⟨sS, 1, none⟩ = some (.int .i64 vs) := fun q => q.h.cell s1
        refine (wpIn_wide (n := 3)).1 ?_
        refine cix_start hmx (fun w' => Keeps z7 w') ?_
        refine cix_quiet (m := 16) (CixOk.of (fun _ => trivial) (fun _ _ _ _ hd h => ⟨hd.symm.trans h.1, h.2⟩) (by kernel_rfl)) [0, 1, 2, 3, 4, 5, 6, 7, 9] rfl (by kernel_rfl) k7d ?_
        show wpQuietIn _ _ _ _ _ _ [_, _, _, _, _, _, _, _, _] _
        iterate 9 (gi_big_quiet_step (fail))
        refine wpQuietIn_nil ?_
        refine cix_one (m := 15) 8 _ rfl rfl (by kernel_rfl) ?_
        show wpListIn _ _ _ _ _ [_] _ _
        gi_wp2_with fail
        rename_i hK
        refine ⟨trivial, ((callsIn_wide (n := 2)).2 (S1.out _)).mono ?_⟩
        rintro e u1 ⟨rfl, k⟩
        replace k7d := k7d.trans k
        refine hK _ _ (.inl ⟨rfl, k7d, ?_⟩)
        clear hK k
        refine cix_one (m := 14) 10 _ rfl rfl (by kernel_rfl) ?_
        show wpListIn _ _ _ _ _ [_] _ _
        gi_wp2_with fail
        rename_i hK
        refine ⟨trivial, ((callsIn_wide (n := 2)).2 (I1.out _)).mono ?_⟩
        rintro e u2 ⟨rfl, k⟩
        replace k7d := k7d.trans k
        refine hK _ _ (.inl ⟨rfl, k7d, ?_⟩)
        clear hK k
        refine cix_quiet (m := 0) (CixOk.of (fun _ => trivial) (fun _ _ _ _ hd h => ⟨hd.symm.trans h.1, h.2⟩) (by kernel_rfl)) [11, 12, 13, 14, 15, 16, 17, 18, 19, 20, 21, 22, 23, 24] rfl (by kernel_rfl) k7d ?_
        show wpQuietIn _ _ _ _ _ _ [_, _, _, _, _, _, _, _, _, _, _, _, _, _] _
        iterate 14 (gi_big_quiet_step (fail))
        refine wpQuietIn_nil ?_
        refine cix_done (by kernel_rfl) ?_ _
        clear e0 e1 e2 s0 s1 hTS S1 I1 d1 d2
        replace kw := kw.trans k7d
        replace g0 := k7d.cell g0
        obtain ⟨nm, hnm⟩ : ∃ z, -mo = z := ⟨_, rfl⟩
        have hwnm : IntKind.i64.wrap nm = nm := IntWalk.i64_in _ (by constructor <;> omega)
        go_wp2_with fail
        have HNM := Lib.hid hnm
        obtain ⟨nu, hnu⟩ : ∃ z, -mu = z := ⟨_, rfl⟩
        have hwnu : IntKind.i64.wrap nu = nu := IntWalk.i64_in _ (by constructor <;> omega)
        have nm0 : nm + mo = 0 := by omega
        have nu0 : nu + mu = 0 := by omega
        clear hnm hwnm hwt
        rw [HMU.out]
        go_loopw [31] (fun i wr2 => ∃ z : Int, i = .int .i64 z ∧ nm ≤ z ∧ z ≤ mo + 1 ∧ Keeps u2 wr2) (fun i _ => (mo + 1 - intOf i).toNat)
        case atStart => exact ⟨nm, rfl, Int.le_refl _, by omega, Keeps.refl _⟩
        case round =>
          obtain ⟨z, rfl, z0, z1, kr2⟩ := hrel
          replace g0 := kr2.cell g0
          by_cases hz : z ≤ mo
          · have hd : decide (z ≤ mo) = true := decide_eq_true hz
            have hwz : IntKind.i64.wrap (z + 1) = z + 1 := IntWalk.i64_in _ (by constructor <;> omega)
            obtain ⟨sh, hsh⟩ : ∃ y, shI mark l c z = y := ⟨_, rfl⟩
            have hb := sh_bound (m := mark) (l := l) (c := c) (t := z) m1 m2 (by omega) (by omega) (by omega) (by omega) (by omega) (by omega)
            have hm := HMO.out z (by omega) hz
            rw [hsh] at hb hm
            have S1 := Lib.hid (fun w1 => show Calls Try.prog 35 #[.int .i64 mark, .int .i64 l, .int .i64 c, .int .i64 z] w1 (RetI sh w1) from by have h := SW.out l c z w1 m1 m2 (by omega) (by omega) (by omega) (by omega) (by omega) (by omega); rw [hsh] at h; exact h)
            obtain ⟨d, hdd⟩ : ∃ d, sh - l = d := ⟨_, rfl⟩
            have hwd : IntKind.i64.wrap d = d := IntWalk.i64_in _ (by constructor <;> omega)
            have f1 : decide (d < nu) = false := decide_eq_false (by omega)
            have f2 : decide (mu < d) = false := decide_eq_false (by omega)
            clear hsh hm hb
            go_wp2_with fail
            refine (S1.out _).mono ?_
            rintro e u3 ⟨rfl, k1⟩
            go_wp2_with fail
            go_roundw
            case rel => exact ⟨z + 1, rfl, by omega, by omega, kr2.trans k1⟩
            case measure => simp [intOf]; omega
          · have hd : decide (z ≤ mo) = false := decide_eq_false hz
            go_wp2_with fail
            refine (AW.out _).mono ?_
            rintro e u3 ⟨rfl, k1⟩
            go_wp2_with fail
            go_ret
            exact RetB.mk rfl (kk.trans ((kw.trans kr2).trans k1))
theorem warmTrue_any (B : Wm) (a : Option Addr) (cap : Nat) (xs : List Int) (at_ off : Int) (w : World) (hI : B.In w) (hU : U16s w a xs) (hl : xs.length ≤ maxLen) (a0 : 0 ≤ at_) (a1 : at_ ≤ 255) (o0 : 0 ≤ off) (o1 : off ≤ 65535) : Calls Try.prog 6 #[B.v, .slice a xs.length cap, .int .u8 at_, .int .u16 off] w (RetB true w) := by
  cases hf : B.fine with
  | false => exact wt_no B a cap xs at_ off w hI hf
  | true => exact wt_yes B a cap xs at_ off w hI hf hU hl a0 a1 o0 o1
end Go.Proofs.Ytdfiebfgmpdceaa
