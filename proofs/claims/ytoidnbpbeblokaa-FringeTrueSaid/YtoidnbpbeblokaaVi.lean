/-
  FringeTrue, its head.
-/
import Derived.Test.YtoidnbpbeblokaaVg
import Derived.Test.YtoidnbpbeblokaaVd
namespace Go.Proofs.Ytoidnbpbeblokaa
open Go.RowKit Go.Shelf

set_option maxRecDepth 100000 in
set_option maxHeartbeats 40000000 in
theorem true_any (a : Option Addr) (xs : List Int) (cap : Nat) (w : World) (hU : U16s w a xs) (hl : xs.length ≤ maxLen) : Calls Try.prog 5 #[.slice a xs.length cap] w (RetB true w) := by
  have AL := Lib.hid alive_any
  have DR := Lib.hid (fun w1 => draws_any a cap xs w1)
  have MD := Lib.hid (fun bx bb w1 s hd => made_any w bx bb a xs cap w1 s hd)
  have HU := Lib.hid hU
  have HL := Lib.hid hl
  clear hU hl
  go_enter Try.func5, Try.ntmps5
  go_wp2_with fail
  refine (DR.out _).mono ?_
  rintro e w1 ⟨bx, bb, rfl, cx, cb, cf, z1, z2, k1⟩
  have Sr := Lib.hid (show Src w bx bb a xs from ⟨by omega, z1, by omega, HU.out, HL.out⟩)
  have D0 := Lib.hid (show Draws w bx bb a xs cap 0 w1 from ⟨cx, cf, cb, k1⟩)
  clear cx cb cf z1 z2 k1 DR HU HL
  go_wp2_with fail
  refine (MD.out _ _ _ Sr.out D0.out).mono ?_
  rintro e w2 ⟨F, n, rfl, T, hI, k⟩
  have hn := T.bd
  have hnr := T.is_near
  have hwr := T.is_wrong
  have hcl := T.is_clash
  obtain ⟨hle, hll⟩ := T.is_lens
  obtain ⟨hct, h0, h4⟩ := T.is_count
  have LE := Lib.hid (fun w1 (k : Keeps w2 w1) => Lengths_at F w1 (hI.keep k))
  have CN := Lib.hid (fun w1 (k : Keeps w2 w1) => Count_any F w1 (hI.keep k))
  have NR := Lib.hid (fun w1 (k : Keeps w2 w1) => Near_any F n w1 (hI.keep k))
  have WR := Lib.hid (fun w1 (k : Keeps w2 w1) => Wrong_any F w1 (hI.keep k))
  have CL := Lib.hid (fun w1 (k : Keeps w2 w1) => Clash_any F w1 (hI.keep k))
  rw [hnr] at NR
  rw [hwr, show pop (0, (0 : Int)).1 = 0 from by decide] at WR
  rw [hcl] at CL
  rw [hle, hll] at LE
  rw [hct] at CN
  obtain ⟨cnt, hcnt⟩ : ∃ cnt, F.truths.length = cnt := ⟨_, rfl⟩
  rw [hcnt] at CN h0 h4
  obtain ⟨L, hL⟩ : ∃ L, spansOf F.truths = L := ⟨_, rfl⟩
  rw [hL] at LE
  have HT := Lib.hid T
  have HI := Lib.hid hI
  have HC := Lib.hid hcnt
  have HLL := Lib.hid hL
  obtain ⟨wa, wc, ws, lo, hi, ra, rc, rs⟩ := F
  dsimp only [Fr.v] at *
  clear T hI hnr hwr hcl hle hll hct hcnt hL Sr D0 MD
  go_wp2_with fail
  have hB := Fr.Box.new ⟨wa, wc, ws, lo, hi, ra, rc, rs⟩ w2
  have k2 := (Keeps.refl w2).alloc (.cells #[.slice wa ws.length wc, .int .i64 lo, .int .i64 hi, .slice ra rs.length rc] 27)
  skip
  refine (LE.out _ k2).mono ?_
  rintro e w3 ⟨al, cl, rfl, hSL, k3⟩
  have HB := Lib.hid (hB.keep k3)
  have g0 := HB.out.c0
  have g1 := HB.out.c1
  have g2 := HB.out.c2
  have g3 := HB.out.c3
  dsimp only at g0 g1 g2 g3
  have hgl := lt_of_cell g0
  have HS := Lib.hid hSL
  replace k2 := k2.trans k3
  clear hB hSL k3 LE
  go_wp2_with fail
  refine (CN.out _ k2).mono ?_
  rintro e w4 ⟨rfl, k3⟩
  replace HB := Lib.hid (HB.out.keep k3)
  replace g0 := HB.out.c0
  replace g1 := HB.out.c1
  replace g2 := HB.out.c2
  replace g3 := HB.out.c3
  dsimp only at g0 g1 g2 g3
  replace hgl := lt_of_cell g0
  replace HS := Lib.hid (HS.out.keep k3)
  replace k2 := k2.trans k3
  clear k3
  clear CN
  go_wp2_with fail
  refine (NR.out _ k2).mono ?_
  rintro e w4 ⟨rfl, k3⟩
  replace HB := Lib.hid (HB.out.keep k3)
  replace g0 := HB.out.c0
  replace g1 := HB.out.c1
  replace g2 := HB.out.c2
  replace g3 := HB.out.c3
  dsimp only at g0 g1 g2 g3
  replace hgl := lt_of_cell g0
  replace HS := Lib.hid (HS.out.keep k3)
  replace k2 := k2.trans k3
  clear k3
  clear NR
  go_wp2_with fail
  refine (WR.out _ k2).mono ?_
  rintro e w4 ⟨rfl, k3⟩
  replace HB := Lib.hid (HB.out.keep k3)
  replace g0 := HB.out.c0
  replace g1 := HB.out.c1
  replace g2 := HB.out.c2
  replace g3 := HB.out.c3
  dsimp only at g0 g1 g2 g3
  replace hgl := lt_of_cell g0
  replace HS := Lib.hid (HS.out.keep k3)
  replace k2 := k2.trans k3
  clear k3
  clear WR
  go_wp2_with fail
  refine (CL.out _ k2).mono ?_
  rintro e w4 ⟨rfl, k3⟩
  replace HB := Lib.hid (HB.out.keep k3)
  replace g0 := HB.out.c0
  replace g1 := HB.out.c1
  replace g2 := HB.out.c2
  replace g3 := HB.out.c3
  dsimp only at g0 g1 g2 g3
  replace hgl := lt_of_cell g0
  replace HS := Lib.hid (HS.out.keep k3)
  replace k2 := k2.trans k3
  clear k3
  clear CL
  have e1 : decide ((cnt : Int) < 1) = false := by simp; omega
  have e2 : (n == n) = true := by simp
  go_upto_region 9 with fail
  go_cut [16] (fun s wx => s = .bool false ∧ wx = w4)
  case first =>
    go_wp2_with fail
    go_meet
    exact ⟨rfl, rfl⟩
  case rest =>
    obtain ⟨rfl, rfl⟩ := hcut
    rename_i hK
    refine hK _ _ (wp_of_code (c' := true_after 9) (by kernel_rfl) ?_)
    exact true_loop wa _ ws lo hi ra rc rs n cnt _ L al cl w _ AL HT.out (HI.out.keep k2) (k.trans k2) HB.out HC.out HLL.out HS.out _ _ _ _ _ _ _ _ _ _ _ _ _ _ _ _ _ _ _ _ _ _ _ _ _ _ _ _ _ _ _ _ _ _ _ _ _ _ _ _ _ _ _ _ _ _ _ _ _ _ _ _ _ _ _ _ _ _ _ _ _ _ _ _ _ _ _ _ _ _ _ _ _ _ _ _ _ _ _ _ _ _ _ _ _ _ _ _ _ _ _ _ _ _ _ _ _ _ _ _ _ _ _ _ _ _ _ _ _ _ _ _ _ _ _ _ _ _ _ _ _ _ _ _ _ _ _ _ _ _ _ _ _ _ _ _ _ _ _ _ _ _ _ _ _ _ _ _ _ _ _ _ _ _ _ _ _ _ _ _ _ _ _ _ _ _ _ _ _ _ _ _ _ _ _ _ _ _ _ _ _ _ _ _ _ _ _ _ _ _ _ _ _ _ _ _ _ _ _ _ _ _ _ _ _ _ _ _ _ _ _ _ _ _ _ _ _ _ _ _ _ _ _ _ _ _ _ _ _ _ _ _ _ _ _ _ _ _ _ _ _ _ _ _ _ _ _ _ _ _ _ _ _ _ _ _ _ _ _ _ _ _ _ _ _ _ _ _ _ _ _
end Go.Proofs.Ytoidnbpbeblokaa
