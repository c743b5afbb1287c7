/-
  WarmPairs: its inner function: the ends of a list.
-/
import Derived.Test.YtdfiebfgmpdceaaP1
namespace Go.Proofs.Ytdfiebfgmpdceaa
open Go.RowKit

set_option maxHeartbeats 3200000 in
theorem ends_any (L : List Int) (a : Option Addr) (cap : Nat) (w : World) (hI : Ints w a L) (hl : L.length ≤ maxLen) : Calls Try.prog 38 #[.slice a L.length cap] w fun e w' => ∃ u v, e = .returned (.agg #[.int .i64 u, .int .i64 v]) ∧ EndS L L.length u v ∧ Keeps w w' := by
  have SP := Lib.hid (fun x y w1 => lawSpan_any x y w1)
  have HI := Lib.hid hI
  unfold maxLen at hl
  obtain ⟨S, hS⟩ : ∃ s, w.heap.size = s := ⟨_, rfl⟩
  obtain ⟨W, hW⟩ : ∃ W, w.alloc (.cells #[.int .i64 0, .int .i64 0] 23) = W := ⟨_, rfl⟩
  have k0 : Keeps w W := by rw [← hW]; exact (Keeps.refl w).alloc _
  have T0 : TwoI W S 0 0 := by rw [← hW, ← hS]; exact ⟨by simp [go_sem], by simp [go_sem], by simp [go_sem], by simp [go_sem]⟩
  have HT0 := Lib.hid T0
  clear hI T0
  go_enter Try.func38, Try.ntmps38
  go_wp2_with fail
  go_loopw [7] (fun i wr => ∃ (k : Nat) (u v : Int), k ≤ L.length ∧ i = .int .i64 k ∧ TwoI wr S u v ∧ EndS L k u v ∧ Keeps w wr) (fun i _ => L.length - (intOf i).toNat)
  case atStart => exact ⟨0, 0, 0, Nat.zero_le _, rfl, HT0.out, .inl ⟨rfl, rfl, rfl⟩, k0⟩
  case round =>
    obtain ⟨k, u, v, hk, rfl, hT, hE, hkw⟩ := hrel
    obtain ⟨c0, c1, z0, z1⟩ := hT
    have HTT := Lib.hid (show TwoI wr S u v from ⟨c0, c1, z0, z1⟩)
    have HE := Lib.hid hE
    have hls := lt_of_cell c0
    have hSw : w.heap.size ≤ S := by omega
    clear hE
    by_cases hlt : k < L.length
    · obtain ⟨b, o, rfl, hcs⟩ := (HI.out.keep hkw) (by intro e; rw [e] at hlt; simp at hlt)
      have h2 := hcs k hlt
      obtain ⟨x, hx⟩ : ∃ x, L[k]? = some x := ⟨L[k], List.getElem?_eq_getElem hlt⟩
      rw [hx, Option.getD_some] at h2
      have hlb := lt_of_cell h2
      have HX := Lib.hid hx
      clear hcs hx hS hW
      by_cases hk0 : k = 0
      · subst hk0
        rw [Nat.add_zero] at h2
        rw [show ((0 : Nat) : Int) = 0 from rfl]
        go_wp2_with fail
        refine (SP.out _ _ _).mono ?_
        rintro e w2 ⟨rfl, k2⟩
        have hT2 := HTT.out.keep k2
        obtain ⟨c0', c1', z0', z1'⟩ := hT2
        have hls' := lt_of_cell c0'
        have hT3 := ((HTT.out.keep k2).set0 x).set1 x
        have kY := ((hkw.trans k2).setCell (p := ⟨S, 0, none⟩) (.int .i64 x) hSw).setCell (p := ⟨S, 1, none⟩) (.int .i64 x) hSw
        obtain ⟨w3, hw3⟩ : ∃ x', (w2.setCell ⟨S, 0, none⟩ (.int .i64 x)).setCell ⟨S, 1, none⟩ (.int .i64 x) = x' := ⟨_, rfl⟩
        rw [hw3] at hT3 kY
        have HT3 := Lib.hid hT3
        obtain ⟨d0, d1, y0, y1⟩ := hT3
        have hl3 := lt_of_cell d0
        have hxx : min x x = x := by omega
        have hxy : max x x = x := by omega
        go_wp2_with fail
        refine (SP.out _ _ _).mono ?_
        rintro e w4 ⟨rfl, k4⟩
        have hT4 := HT3.out.keep k4
        have hT5 := (hT4.set0 x).set1 x
        obtain ⟨d0', d1', y0', y1'⟩ := hT4
        have hl4 := lt_of_cell d0'
        have kZ := ((kY.trans k4).setCell (p := ⟨S, 0, none⟩) (.int .i64 x) hSw).setCell (p := ⟨S, 1, none⟩) (.int .i64 x) hSw
        have H3 := Lib.hid hT5
        have HK := Lib.hid kZ
        clear hT5 kZ hw3
        go_wp2_with fail
        go_roundw
        case rel => exact ⟨1, x, x, by omega, by go_num, H3.out, EndS.first HX.out, HK.out⟩
        case measure => simp [intOf]; omega
      · have he : ((k : Int) == 0) = false := by rw [beq_eq_false_iff_ne]; omega
        obtain ⟨mi, hmi⟩ : ∃ z, min u x = z := ⟨_, rfl⟩
        obtain ⟨ma, hma⟩ : ∃ z, max v x = z := ⟨_, rfl⟩
        go_wp2_with fail
        refine (SP.out _ _ _).mono ?_
        rintro e w2 ⟨rfl, k2⟩
        have hT2 := HTT.out.keep k2
        obtain ⟨c0', c1', z0', z1'⟩ := hT2
        have hls' := lt_of_cell c0'
        have hT3 := ((HTT.out.keep k2).set0 mi).set1 ma
        have kY := ((hkw.trans k2).setCell (p := ⟨S, 0, none⟩) (.int .i64 mi) hSw).setCell (p := ⟨S, 1, none⟩) (.int .i64 ma) hSw
        have H3 := Lib.hid hT3
        have HK := Lib.hid kY
        have HEN := Lib.hid (show EndS L (k + 1) mi ma from by rw [← hmi, ← hma]; exact EndS.next HE.out (by omega) HX.out)
        clear hT3 kY
        go_wp2_with fail
        go_roundw
        case rel => exact ⟨k + 1, mi, ma, by omega, by go_num, H3.out, HEN.out, HK.out⟩
        case measure => simp [intOf]; omega
    · obtain rfl : k = L.length := by omega
      obtain ⟨r0, r1, _, _⟩ := (HTT.out.set0 u).set1 v
      have kY := (hkw.setCell (p := ⟨S, 0, none⟩) (.int .i64 u) hSw).setCell (p := ⟨S, 1, none⟩) (.int .i64 v) hSw
      go_wp2_with fail
      refine bodyPost_ret (v := .agg #[.int .i64 u, .int .i64 v]) ?_ rfl ⟨u, v, rfl, HE.out, kY⟩
      simp [results, Try.results38, go_sem, r0, r1]
end Go.Proofs.Ytdfiebfgmpdceaa
