/-
  WARM: WarmRoom walked.
-/
import Derived.Test.YtidiikmpgpnmpaaF4
import Derived.Test.YtidiikmpgpnmpaaG3
namespace Go.Proofs.Ytidiikmpgpnmpaa
open Go.RowKit

set_option maxRecDepth 100000 in
set_option maxHeartbeats 6400000 in
theorem room_no (B : Wm) (o mo : Int) (w : World) (hI : B.In w) (hf : B.fine = false) : Calls Try.prog 9 #[B.v, .int .u16 o, .int .u8 mo] w (RetB true w) := by
  have F1 := Lib.hid (fun w1 (k : Keeps w w1) => fine_any B w1 (hI.keep k))
  rw [hf] at F1
  have AW := Lib.hid (fun w1 => awake_any w1)
  have k0 := (Keeps.refl w).alloc (.cells #[.int .i64 B.mark, .int .i64 B.llo, .int .i64 B.lhi, .int .i64 B.clo, .int .i64 B.chi, .slice B.ra B.rs.length B.rc] 26)
  obtain ⟨mark, llo, lhi, clo, chi, ra, rc, rs⟩ := B
  dsimp only [Wm.v] at *
  clear hI hf
  go_enter Try.func9, Try.ntmps9
  go_wp2_with fail
  refine (F1.out _ k0).mono ?_
  rintro e w1 ⟨rfl, k1⟩
  go_wp2_with fail
  refine (AW.out _).mono ?_
  rintro e w2 ⟨rfl, k2⟩
  go_wp2_with fail
  go_ret
  exact RetB.mk rfl ((k0.trans k1).trans k2)
theorem room_roomA {B : Wm} (hok : B.ok = true) (ht : B.truths.isEmpty = true) (off : Int) (h0 : 0 ≤ off) (h1 : off ≤ 30000) : B.roomA off = (0, 10) := by
  unfold Wm.roomA
  rw [if_pos ⟨h0, h1⟩, say_none hok ht]
theorem room_countA {B : Wm} (hok : B.ok = true) : B.countA = ((B.truths.length : Int), 0) := by
  unfold Wm.countA
  rw [if_pos hok]
set_option maxRecDepth 100000 in
set_option maxHeartbeats 6400000 in
theorem room_none (B : Wm) (o mo : Int) (w : World) (hI : B.In w) (hf : B.fine = true) (ht : B.truths.isEmpty = true) (o0 : 0 ≤ o) (o1 : o ≤ 65535) (p0 : 0 ≤ mo) (p1 : mo ≤ 255) : Calls Try.prog 9 #[B.v, .int .u16 o, .int .u8 mo] w (RetB true w) := by
  have hok := Wm.fine_ok hf
  have F1 := Lib.hid (fun w1 (k : Keeps w w1) => fine_any B w1 (hI.keep k))
  rw [hf] at F1
  have AW := Lib.hid (fun w1 => awake_any w1)
  have RM := Lib.hid (fun off w1 (k : Keeps w w1) (h0 : 0 ≤ off) (h1 : off ≤ 30000) => show Calls Try.prog 23 #[B.v, .int .i64 off] w1 (Ret (.tuple #[.int .i64 0, .int .i64 10]) w1) from by have h := Room_any B off w1 (hI.keep k); rw [room_roomA hok ht off h0 h1] at h; exact h)
  have CN := Lib.hid (fun w1 (k : Keeps w w1) => show Calls Try.prog 25 #[B.v] w1 (Ret (.tuple #[.int .i64 0, .int .i64 0]) w1) from by have h := Count_any B w1 (hI.keep k); rw [room_countA hok, List.isEmpty_iff.1 ht] at h; exact h)
  have k0 := (Keeps.refl w).alloc (.cells #[.int .i64 B.mark, .int .i64 B.llo, .int .i64 B.lhi, .int .i64 B.clo, .int .i64 B.chi, .slice B.ra B.rs.length B.rc] 26)
  have BX := Wm.Box.new B w
  obtain ⟨mark, llo, lhi, clo, chi, ra, rc, rs⟩ := B
  obtain ⟨g0, g1, g2, g3, g4, g5⟩ := BX
  dsimp only [Wm.v] at *
  obtain ⟨W, hW⟩ : ∃ W, w.alloc (.cells #[.int .i64 mark, .int .i64 llo, .int .i64 lhi, .int .i64 clo, .int .i64 chi, .slice ra rs.length rc] 26) = W := ⟨_, rfl⟩
  rw [hW] at k0 g0 g1 g2 g3 g4 g5
  obtain ⟨mu, hmu⟩ : ∃ mu, o % 30001 = mu := ⟨_, rfl⟩
  have mu0 : 0 ≤ mu := by omega
  have mu1 : mu ≤ 30000 := by omega
  have hw5 : IntKind.i64.wrap (mu + mo) = mu + mo := IntWalk.i64_in _ (by constructor <;> omega)
  obtain ⟨mn, hmn⟩ : ∃ mn : Int, min 30000 (mu + mo) = mn := ⟨_, rfl⟩
  have mn0 : 0 ≤ mn := by omega
  have mn1 : mn ≤ 30000 := by omega
  clear hI hf ht hok
  go_enter Try.func9, Try.ntmps9
  go_wp2_with fail
  refine (F1.out _ k0).mono ?_
  rintro e w1 ⟨rfl, k1⟩
  have kk := k0.trans k1
  replace g0 := k1.cell g0
  replace g1 := k1.cell g1
  replace g2 := k1.cell g2
  replace g3 := k1.cell g3
  replace g4 := k1.cell g4
  replace g5 := k1.cell g5
  go_wp2_with fail
  refine (RM.out _ _ kk mu0 mu1).mono ?_
  rintro e w2 ⟨rfl, k2⟩
  replace g0 := k2.cell g0
  replace g1 := k2.cell g1
  replace g2 := k2.cell g2
  replace g3 := k2.cell g3
  replace g4 := k2.cell g4
  replace g5 := k2.cell g5
  replace kk := kk.trans k2
  go_wp2_with fail
  refine (RM.out _ _ kk mn0 mn1).mono ?_
  rintro e w3 ⟨rfl, k3⟩
  replace g0 := k3.cell g0
  replace g1 := k3.cell g1
  replace g2 := k3.cell g2
  replace g3 := k3.cell g3
  replace g4 := k3.cell g4
  replace g5 := k3.cell g5
  replace kk := kk.trans k3
  go_wp2_with fail
  refine (CN.out _ kk).mono ?_
  rintro e w4 ⟨rfl, k4⟩
  replace kk := kk.trans k4
  go_wp2_with fail
  refine (AW.out _).mono ?_
  rintro e w5 ⟨rfl, k5⟩
  go_wp2_with fail
  go_ret
  exact RetB.mk rfl (kk.trans k5)
-- from gen/g4.py
theorem room_roomB {B : Wm} (hok : B.ok = true) (ht : B.truths.isEmpty = false) (off : Int) (h0 : 0 ≤ off) (h1 : off ≤ 30000) : B.roomA off = ((widest B.mark off B.truths : Int), 0) := by
  unfold Wm.roomA
  rw [if_pos ⟨h0, h1⟩, say_yes hok ht]
set_option maxRecDepth 100000 in
set_option maxHeartbeats 6400000 in
theorem warmRoom_yes (B : Wm) (o mo : Int) (w : World) (hI : B.In w) (hf : B.fine = true) (ht : B.truths.isEmpty = false) (o0 : 0 ≤ o) (o1 : o ≤ 65535) (p0 : 0 ≤ mo) (p1 : mo ≤ 255) : Calls Try.prog 9 #[B.v, .int .u16 o, .int .u8 mo] w (RetB true w) := by
  have hok := Wm.fine_ok hf
  obtain ⟨m1, m2, l1, l2, l3, l4, c1, c2, c3, c4⟩ := Wm.ok_lim hok
  have F1 := Lib.hid (fun w1 (k : Keeps w w1) => fine_any B w1 (hI.keep k))
  rw [hf] at F1
  have AW := Lib.hid (fun w1 => awake_any w1)
  obtain ⟨mu, hmu⟩ : ∃ mu, o % 30001 = mu := ⟨_, rfl⟩
  have mu0 : 0 ≤ mu := by omega
  have mu1 : mu ≤ 30000 := by omega
  have hw5 : IntKind.i64.wrap (mu + mo) = mu + mo := IntWalk.i64_in _ (by constructor <;> omega)
  obtain ⟨mn, hmn⟩ : ∃ mn : Int, min 30000 (mu + mo) = mn := ⟨_, rfl⟩
  have mn0 : 0 ≤ mn := by omega
  have mn1 : mn ≤ 30000 := by omega
  have hmm : mu ≤ mn := by omega
  obtain ⟨n, hn⟩ : ∃ n, widest B.mark mu B.truths = n := ⟨_, rfl⟩
  have hn1 : n ≤ 100 := by rw [← hn]; exact widest_le _ _ _
  have hnm : n ≤ widest B.mark mn B.truths := by rw [← hn]; exact widest_more hmm _
  obtain ⟨N, hN⟩ : ∃ N : Int, (n : Int) = N := ⟨_, rfl⟩
  obtain ⟨M, hM⟩ : ∃ M : Int, (widest B.mark mn B.truths : Int) = M := ⟨_, rfl⟩
  obtain ⟨Q, hQ⟩ : ∃ Q : Int, (B.truths.length : Int) = Q := ⟨_, rfl⟩
  have N0 : 0 ≤ N := by omega
  have N1 : N ≤ 100 := by omega
  have NM : N ≤ M := by omega
  have Q1 : 0 < Q := by
    have h : B.truths ≠ [] := fun e => by rw [e] at ht; cases ht
    have := List.length_pos_iff.2 h
    omega
  have RM1 := Lib.hid (fun w1 (k : Keeps w w1) => show Calls Try.prog 23 #[B.v, .int .i64 mu] w1 (Ret (.tuple #[.int .i64 N, .int .i64 0]) w1) from by have h := Room_any B mu w1 (hI.keep k); rw [room_roomB hok ht mu mu0 mu1, hn, hN] at h; exact h)
  have RM2 := Lib.hid (fun w1 (k : Keeps w w1) => show Calls Try.prog 23 #[B.v, .int .i64 mn] w1 (Ret (.tuple #[.int .i64 M, .int .i64 0]) w1) from by have h := Room_any B mn w1 (hI.keep k); rw [room_roomB hok ht mn mn0 mn1, hM] at h; exact h)
  have CN := Lib.hid (fun w1 (k : Keeps w w1) => show Calls Try.prog 25 #[B.v] w1 (Ret (.tuple #[.int .i64 Q, .int .i64 0]) w1) from by have h := Count_any B w1 (hI.keep k); rw [room_countA hok, hQ] at h; exact h)
  obtain ⟨wd, hwd⟩ : ∃ wd, (N == 100) = wd := ⟨_, rfl⟩
  have HW0 := Lib.hid (show WidO B mu n B.llo wd from by rw [← hwd, show (N == 100) = decide (N = 100) from by by_cases h : N = 100 <;> simp [h], ← hN]; exact WidO.start hok mu n)
  have HWI := Lib.hid (fun a t (h : WidO B mu n a t) => Wid.start hok h)
  have HWX := Lib.hid (fun a c t (h : Wid B mu n a c t) (hc : B.chi < c) => Wid.stop hok h hc)
  have HWE := Lib.hid (fun a t (h : WidO B mu n a t) (hc : B.lhi < a) => WidO.stop hok (by rw [hn]; exact h) hc)
  have HIN := Lib.hid (fun (p : Pr) (hp : p ∈ B.truths) (s : Int) (hs : s = N ∨ s = -N) => room_in hp m1 mu0 s (by rw [hn, hN]; exact hs))
  have HXC := Lib.hid (fun a b (ha : B.llo ≤ a ∧ a ≤ B.lhi) (hb : B.clo ≤ b ∧ b ≤ B.chi) => xB_count hok ha hb)
  have HCN := Lib.hid (fun a b w1 (k : Keeps w w1) => Count_any (xB B a b) w1 ⟨(hI.keep k).rds, (hI.keep k).rl⟩)
  have HEX := Lib.hid (fun a b w1 => exact_any B a b w1)
  have k0 := (Keeps.refl w).alloc (.cells #[.int .i64 B.mark, .int .i64 B.llo, .int .i64 B.lhi, .int .i64 B.clo, .int .i64 B.chi, .slice B.ra B.rs.length B.rc] 26)
  have BX := Wm.Box.new B w
  have HNN := Lib.hid hN
  obtain ⟨mark, llo, lhi, clo, chi, ra, rc, rs⟩ := B
  obtain ⟨g0, g1, g2, g3, g4, g5⟩ := BX
  dsimp only [Wm.v, xB] at *
  obtain ⟨W, hW⟩ : ∃ W, w.alloc (.cells #[.int .i64 mark, .int .i64 llo, .int .i64 lhi, .int .i64 clo, .int .i64 chi, .slice ra rs.length rc] 26) = W := ⟨_, rfl⟩
  rw [hW] at k0 g0 g1 g2 g3 g4 g5
  obtain ⟨b0, hb0⟩ : ∃ b0, w.heap.size = b0 := ⟨_, rfl⟩
  rw [hb0] at g0 g1 g2 g3 g4 g5
  clear hI hf ht hok hn hnm hN hM hQ hmm hn1
  go_enter Try.func9, Try.ntmps9
  go_wp2_with fail
  refine (F1.out _ k0).mono ?_
  rintro e w1 ⟨rfl, k1⟩
  have kk := k0.trans k1
  replace g0 := k1.cell g0
  replace g1 := k1.cell g1
  replace g2 := k1.cell g2
  replace g3 := k1.cell g3
  replace g4 := k1.cell g4
  replace g5 := k1.cell g5
  go_wp2_with fail
  refine (RM1.out _ kk).mono ?_
  rintro e w2 ⟨rfl, k2⟩
  replace g0 := k2.cell g0
  replace g1 := k2.cell g1
  replace g2 := k2.cell g2
  replace g3 := k2.cell g3
  replace g4 := k2.cell g4
  replace g5 := k2.cell g5
  replace kk := kk.trans k2
  go_wp2_with fail
  refine (RM2.out _ kk).mono ?_
  rintro e w3 ⟨rfl, k3⟩
  replace g0 := k3.cell g0
  replace g1 := k3.cell g1
  replace g2 := k3.cell g2
  replace g3 := k3.cell g3
  replace g4 := k3.cell g4
  replace g5 := k3.cell g5
  replace kk := kk.trans k3
  go_wp2_with fail
  refine (CN.out _ kk).mono ?_
  rintro e w4 ⟨rfl, k4⟩
  replace g0 := k4.cell g0
  replace g1 := k4.cell g1
  replace g2 := k4.cell g2
  replace g3 := k4.cell g3
  replace g4 := k4.cell g4
  replace g5 := k4.cell g5
  replace kk := kk.trans k4
  go_wp2_with fail
  clear hmu hmn hw5 hwd hW k0 k1 k2 k3 k4
  go_loopw [14, 15] (fun t a wr => ∃ (tb : Bool) (x : Int), t = .bool tb ∧ a = .int .i64 x ∧ (llo ≤ x ∧ x ≤ lhi + 1) ∧ WidO ⟨mark, llo, lhi, clo, chi, ra, rc, rs⟩ mu n x tb ∧ Keeps w4 wr) (fun _ a _ => (lhi + 1 - intOf a).toNat)
  case atStart => exact ⟨_, _, rfl, rfl, ⟨Int.le_refl _, by omega⟩, HW0.out, Keeps.refl _⟩
  case round =>
    obtain ⟨tb, x, rfl, rfl, ⟨x1, x2⟩, hw, kr⟩ := hrel
    have HW := Lib.hid hw
    clear hw
    have h0 := kr.cell g0
    have h1 := kr.cell g1
    have h2 := kr.cell g2
    have h3 := kr.cell g3
    have h4 := kr.cell g4
    have h5 := kr.cell g5
    by_cases hx : x ≤ lhi
    · have hd : decide (x ≤ lhi) = true := decide_eq_true hx
      have hwx : IntKind.i64.wrap (x + 1) = x + 1 := IntWalk.i64_in _ (by constructor <;> omega)
      obtain ⟨wo, hwo⟩ : ∃ wo : World, wo = wr := ⟨_, rfl⟩
      go_wp2_with fail
      go_loopw [14, 16] (fun t c wi => ∃ (tc : Bool) (y : Int), t = .bool tc ∧ c = .int .i64 y ∧ (clo ≤ y ∧ y ≤ chi + 1) ∧ Wid ⟨mark, llo, lhi, clo, chi, ra, rc, rs⟩ mu n x y tc ∧ Keeps wo wi) (fun _ c _ => (chi + 1 - intOf c).toNat)
      case atStart => exact ⟨_, _, rfl, rfl, ⟨Int.le_refl _, by omega⟩, HWI.out _ _ HW.out, by rw [hwo]; exact Keeps.refl _⟩
      case round =>
        cases hwo
        obtain ⟨tc, y, rfl, rfl, ⟨y1, y2⟩, hv, ki⟩ := hrel
        have HV := Lib.hid hv
        clear hv
        replace h0 := ki.cell h0
        replace h1 := ki.cell h1
        replace h2 := ki.cell h2
        replace h3 := ki.cell h3
        replace h4 := ki.cell h4
        replace h5 := ki.cell h5
        have kq := (kk.trans kr).trans ki
        by_cases hy : y ≤ chi
        · have hd2 : decide (y ≤ chi) = true := decide_eq_true hy
          have hwy : IntKind.i64.wrap (y + 1) = y + 1 := IntWalk.i64_in _ (by constructor <;> omega)
          rcases HXC.out x y ⟨x1, hx⟩ ⟨y1, hy⟩ with ⟨p, hp, hpe, hc⟩ | ⟨hno, hc⟩
          · have CX := Lib.hid (fun w1 (k : Keeps w w1) => show Calls Try.prog 25 #[.agg #[.int .i64 mark, .int .i64 x, .int .i64 x, .int .i64 y, .int .i64 y, .slice ra rs.length rc]] w1 (Ret (.tuple #[.int .i64 1, .int .i64 0]) w1) from by have h := HCN.out x y w1 k; rw [hc] at h; exact h)
            have e1 : p.1.1 = x := by rw [hpe]
            have e2 : p.1.2 = y := by rw [hpe]
            have HI1 := HIN.out p hp (-N) (.inr rfl)
            have HI2 := HIN.out p hp N (.inl rfl)
            obtain ⟨nN, hnN⟩ : ∃ a, -N = a := ⟨_, rfl⟩
            obtain ⟨nm, hnm⟩ : ∃ a, -mu = a := ⟨_, rfl⟩
            obtain ⟨s3, hs3⟩ : ∃ a, nN - 1 = a := ⟨_, rfl⟩
            obtain ⟨s4, hs4⟩ : ∃ a, N + 1 = a := ⟨_, rfl⟩
            have B1 := shI_bd p (t := nN) m1 m2 (by omega) (by omega)
            have B2 := shI_bd p (t := N) m1 m2 (by omega) (by omega)
            have B3 := shI_bd p (t := s3) m1 m2 (by omega) (by omega)
            have B4 := shI_bd p (t := s4) m1 m2 (by omega) (by omega)
            rw [e1, e2] at HI1 HI2 B1 B2 B3 B4
            rw [hnN, hnm] at HI1
            rw [hnm] at HI2
            have SH1 := Lib.hid (fun w1 => lawShows_any mark x y nN w1 m1 m2 (by omega) (by omega) (by omega) (by omega) (by omega) (by omega))
            have SH2 := Lib.hid (fun w1 => lawShows_any mark x y N w1 m1 m2 (by omega) (by omega) (by omega) (by omega) (by omega) (by omega))
            have SH3 := Lib.hid (fun w1 => lawShows_any mark x y s3 w1 m1 m2 (by omega) (by omega) (by omega) (by omega) (by omega) (by omega))
            have SH4 := Lib.hid (fun w1 => lawShows_any mark x y s4 w1 m1 m2 (by omega) (by omega) (by omega) (by omega) (by omega) (by omega))
            obtain ⟨n', hn'⟩ : ∃ a : Int, a = (n : Int) := ⟨_, rfl⟩
            have PR := Lib.hid (fun d1 d2 h1 h2 => Wid.pair HV.out d1 d2 h1 h2)
            rw [HNN.out, show -(N + 1) = s3 by omega, hs4] at PR
            dsimp only at PR
            obtain ⟨z1, hz1⟩ : ∃ z, shI mark x y nN = z := ⟨_, rfl⟩
            rw [hz1] at SH1 B1 HI1
            obtain ⟨d1, hd_1⟩ : ∃ d, z1 - x = d := ⟨_, rfl⟩
            have hwd1 : IntKind.i64.wrap d1 = d1 := IntWalk.i64_in _ (by constructor <;> omega)
            obtain ⟨z2, hz2⟩ : ∃ z, shI mark x y N = z := ⟨_, rfl⟩
            rw [hz2] at SH2 B2 HI2
            obtain ⟨d2, hd_2⟩ : ∃ d, z2 - x = d := ⟨_, rfl⟩
            have hwd2 : IntKind.i64.wrap d2 = d2 := IntWalk.i64_in _ (by constructor <;> omega)
            obtain ⟨z3, hz3⟩ : ∃ z, shI mark x y s3 = z := ⟨_, rfl⟩
            rw [hz3] at SH3 B3 PR
            obtain ⟨d3, hd_3⟩ : ∃ d, z3 - x = d := ⟨_, rfl⟩
            have hwd3 : IntKind.i64.wrap d3 = d3 := IntWalk.i64_in _ (by constructor <;> omega)
            obtain ⟨z4, hz4⟩ : ∃ z, shI mark x y s4 = z := ⟨_, rfl⟩
            rw [hz4] at SH4 B4 PR
            obtain ⟨d4, hd_4⟩ : ∃ d, z4 - x = d := ⟨_, rfl⟩
            have hwd4 : IntKind.i64.wrap d4 = d4 := IntWalk.i64_in _ (by constructor <;> omega)
            rw [hd_1] at HI1
            rw [hd_2] at HI2
            rw [hd_3, hd_4] at PR
            have PR2 := Lib.hid (PR.out d3 d4 rfl rfl)
            rw [hnm] at PR2
            have hwN : IntKind.i64.wrap nN = nN := IntWalk.i64_in _ (by constructor <;> omega)
            have hwm : IntKind.i64.wrap nm = nm := IntWalk.i64_in _ (by constructor <;> omega)
            have hw3 : IntKind.i64.wrap s3 = s3 := IntWalk.i64_in _ (by constructor <;> omega)
            have hw4 : IntKind.i64.wrap s4 = s4 := IntWalk.i64_in _ (by constructor <;> omega)
            have t1a : decide (d1 < nm) = false := decide_eq_false (by omega)
            have t1b : decide (mu < d1) = false := decide_eq_false (by omega)
            have t2a : decide (d2 < nm) = false := decide_eq_false (by omega)
            have t2b : decide (mu < d2) = false := decide_eq_false (by omega)
            obtain ⟨q1, hq1⟩ : ∃ q, decide (d3 < nm) = q := ⟨_, rfl⟩
            obtain ⟨q2, hq2⟩ : ∃ q, decide (mu < d3) = q := ⟨_, rfl⟩
            obtain ⟨q3, hq3⟩ : ∃ q, decide (d4 < nm) = q := ⟨_, rfl⟩
            obtain ⟨q4, hq4⟩ : ∃ q, decide (mu < d4) = q := ⟨_, rfl⟩
            rw [hq1, hq2, hq3, hq4] at PR2
            obtain ⟨r1, hr1⟩ : ∃ r, (tc || q1 || q2) = r := ⟨_, rfl⟩
            rw [hr1] at PR2
            obtain ⟨r2, hr2⟩ : ∃ r, (r1 || q3 || q4) = r := ⟨_, rfl⟩
            rw [hr2] at PR2
            clear hz1 hz2 hz3 hz4 HI1 HI2 B1 B2 B3 B4 PR hp hpe e1 e2 hc hn' p
            have HR1 := Lib.hid hr1
            have HR2 := Lib.hid hr2
            clear hr1 hr2
            go_wp2_with fail
            refine (HEX.out x y _).mono ?_
            rintro e v1 ⟨rfl, a1⟩
            replace h0 := a1.cell h0
            replace h1 := a1.cell h1
            replace h2 := a1.cell h2
            replace h3 := a1.cell h3
            replace h4 := a1.cell h4
            replace h5 := a1.cell h5
            go_wp2_with fail
            refine (CX.out _ (kq.trans a1)).mono ?_
            rintro e v2 ⟨rfl, a2⟩
            replace h0 := a2.cell h0
            replace h1 := a2.cell h1
            replace h2 := a2.cell h2
            replace h3 := a2.cell h3
            replace h4 := a2.cell h4
            replace h5 := a2.cell h5
            go_wp2_with fail
            obtain ⟨wS, hwS⟩ : ∃ v, v2.alloc (.cells #[.int .i64 nN, .int .i64 N] 3) = v := ⟨_, rfl⟩
            obtain ⟨bS, hbS⟩ : ∃ b, v2.heap.size = b := ⟨_, rfl⟩
            have c0 : wS.cell? ⟨bS, 0, none⟩ = some (.int .i64 nN) := by rw [← hwS, ← hbS]; simp [go_sem]
            have c9 : wS.cell? ⟨bS, 1, none⟩ = some (.int .i64 N) := by rw [← hwS, ← hbS]; simp [go_sem]
            have a3 : Keeps v2 wS := by rw [← hwS]; exact (Keeps.refl _).alloc _
            replace h0 := a3.cell h0
            replace h1 := a3.cell h1
            replace h2 := a3.cell h2
            replace h3 := a3.cell h3
            replace h4 := a3.cell h4
            replace h5 := a3.cell h5
            rw [hwS, hbS]
            clear hwS hbS
            go_loopw [134] (fun k wq => (k = .int .i64 0 ∨ k = .int .i64 1 ∨ k = .int .i64 2) ∧ Keeps wS wq) (fun k _ => 2 - (intOf k).toNat)
            case atStart => exact ⟨.inl rfl, Keeps.refl _⟩
            case round =>
              obtain ⟨rfl | rfl | rfl, k6⟩ := hrel
              · replace c0 := k6.cell c0
                replace h0 := k6.cell h0
                go_wp2_with fail
                refine (SH1.out _).mono ?_
                rintro e v6 ⟨rfl, k7⟩
                go_wp2_with fail
                go_roundw
                case rel => exact ⟨.inr (.inl (by go_num)), k6.trans k7⟩
                case measure => simp [intOf]
              · replace c9 := k6.cell c9
                replace h0 := k6.cell h0
                go_wp2_with fail
                refine (SH2.out _).mono ?_
                rintro e v6 ⟨rfl, k7⟩
                go_wp2_with fail
                go_roundw
                case rel => exact ⟨.inr (.inr (by go_num)), k6.trans k7⟩
                case measure => simp [intOf]
              · go_wp2_with fail
                obtain ⟨wT, hwT⟩ : ∃ v, wr.alloc (.cells #[.int .i64 s3, .int .i64 s4] 3) = v := ⟨_, rfl⟩
                obtain ⟨bT, hbT⟩ : ∃ b, wr.heap.size = b := ⟨_, rfl⟩
                have j0 : wT.cell? ⟨bT, 0, none⟩ = some (.int .i64 s3) := by rw [← hwT, ← hbT]; simp [go_sem]
                have j9 : wT.cell? ⟨bT, 1, none⟩ = some (.int .i64 s4) := by rw [← hwT, ← hbT]; simp [go_sem]
                have a4 : Keeps wS wT := by rw [← hwT]; exact k6.alloc _
                replace h0 := a4.cell h0
                rw [hwT, hbT]
                clear hwT hbT
                have KE := Lib.hid (ki.trans (a1.trans (a2.trans (a3.trans a4))))
                go_loopw [14, 163] (fun t k wt => ((k = .int .i64 0 ∧ t = .bool tc) ∨ (k = .int .i64 1 ∧ t = .bool r1) ∨ (k = .int .i64 2 ∧ t = .bool r2)) ∧ Keeps wT wt) (fun _ k _ => 2 - (intOf k).toNat)
                case atStart => exact ⟨.inl ⟨rfl, rfl⟩, Keeps.refl _⟩
                case round =>
                  obtain ⟨⟨rfl, rfl⟩ | ⟨rfl, rfl⟩ | ⟨rfl, rfl⟩, k8⟩ := hrel
                  · replace j0 := k8.cell j0
                    replace h0 := k8.cell h0
                    go_wp2_with fail
                    refine (SH3.out _).mono ?_
                    rintro e v6 ⟨rfl, k7⟩
                    cases tc <;> cases q1 <;> cases q2 <;> go_wp2_with fail <;> go_roundw
                    all_goals exact ⟨⟨.inr (.inl ⟨by go_num, congrArg Value.bool HR1.out⟩), k8.trans k7⟩, by simp [intOf]⟩
                  · replace j9 := k8.cell j9
                    replace h0 := k8.cell h0
                    go_wp2_with fail
                    refine (SH4.out _).mono ?_
                    rintro e v6 ⟨rfl, k7⟩
                    cases r1 <;> cases q3 <;> cases q4 <;> go_wp2_with fail <;> go_roundw
                    all_goals exact ⟨⟨.inr (.inr ⟨by go_num, congrArg Value.bool HR2.out⟩), k8.trans k7⟩, by simp [intOf]⟩
                  · go_wp2_with fail
                    go_roundw
                    case rel => exact ⟨_, _, rfl, rfl, ⟨by omega, by omega⟩, PR2.out, KE.out.trans k8⟩
                    case measure => simp [intOf]; omega
          · have CX := Lib.hid (fun w1 (k : Keeps w w1) => show Calls Try.prog 25 #[.agg #[.int .i64 mark, .int .i64 x, .int .i64 x, .int .i64 y, .int .i64 y, .slice ra rs.length rc]] w1 (Ret (.tuple #[.int .i64 0, .int .i64 0]) w1) from by have h := HCN.out x y w1 k; rw [hc] at h; exact h)
            clear hc
            have HNO := Lib.hid hno
            clear hno
            go_wp2_with fail
            refine (HEX.out x y _).mono ?_
            rintro e v1 ⟨rfl, a1⟩
            go_wp2_with fail
            refine (CX.out _ (kq.trans a1)).mono ?_
            rintro e v2 ⟨rfl, a2⟩
            go_wp2_with fail
            go_roundw
            case rel => exact ⟨_, _, rfl, rfl, ⟨by omega, by omega⟩, HV.out.skip HNO.out, ki.trans (a1.trans a2)⟩
            case measure => simp [intOf]; omega
        · have hd2 : decide (y ≤ chi) = false := decide_eq_false hy
          go_wp2_with fail
          go_roundw
          case rel => exact ⟨_, _, rfl, rfl, ⟨by omega, by omega⟩, HWX.out _ _ _ HV.out (by show chi < y; omega), kr.trans ki⟩
          case measure => simp [intOf]; omega
    · have hd : decide (x ≤ lhi) = false := decide_eq_false hx
      have htb : tb = true := HWE.out _ _ HW.out (by show lhi < x; omega)
      subst htb
      go_wp2_with fail
      refine (AW.out _).mono ?_
      rintro e w5 ⟨rfl, k5⟩
      go_wp2_with fail
      go_ret
      exact RetB.mk rfl ((kk.trans kr).trans k5)
end Go.Proofs.Ytidiikmpgpnmpaa
