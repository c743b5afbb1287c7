/-
  WarmNext walked, whole.
-/
import Derived.Test.YtdfiebfgmpdceaaN4
import Derived.Test.YtdfiebfgmpdceaaP3
import Derived.Deep.DeepCutAuto
namespace Go.Proofs.Ytdfiebfgmpdceaa
open Go.RowKit

set_option maxRecDepth 100000 in
set_option maxHeartbeats 12800000 in
theorem wn_yes (B : Wm) (a : Option Addr) (cap : Nat) (zs : List Int) (wh : Int) (w : World) (hI : B.In w) (hf : B.fine = true) (h5 : B.rs.length < 5) (hU : U8s w a zs) (hl : zs.length ≤ maxLen) (w0 : 0 ≤ wh) (w1 : wh ≤ 255) : Calls Try.prog 10 #[B.v, .slice a zs.length cap, .int .u8 wh] w (RetB true w) := by
  have hok := Wm.fine_ok hf
  obtain ⟨i0, hi0, hz0, hz1, hz2⟩ := info_parts info_int
  have F1 := Lib.hid (fun w1 (k : Keeps w w1) => fine_any B w1 (hI.keep k))
  rw [hf] at F1
  have HI := Lib.hid hI
  have HOK := Lib.hid hok
  have HU := Lib.hid hU
  have BX := Wm.Box.new B w
  obtain ⟨mark, llo, lhi, clo, chi, ra, rc, rs⟩ := B
  obtain ⟨g0, g1, g2, g3, g4, g5⟩ := BX
  dsimp only [Wm.v] at *
  obtain ⟨W, hW⟩ : ∃ W, w.alloc (.cells #[.int .i64 mark, .int .i64 llo, .int .i64 lhi, .int .i64 clo, .int .i64 chi, .slice ra rs.length rc] 26) = W := ⟨_, rfl⟩
  have k0 : Keeps w W := by rw [← hW]; exact (Keeps.refl w).alloc _
  rw [hW] at g0 g1 g2 g3 g4 g5
  obtain ⟨b0, hb0⟩ : ∃ b, w.heap.size = b := ⟨_, rfl⟩
  rw [hb0] at g0 g1 g2 g3 g4 g5
  have hd : decide ((5 : Int) ≤ (rs.length : Int)) = false := decide_eq_false (by omega)
  unfold maxLen at hl
  clear hI hf hok hU
  go_enter Try.func10, Try.ntmps10
  go_wp2_with fail
  refine (F1.out _ k0).mono ?_
  rintro e W1 ⟨rfl, k1⟩
  have kk := k0.trans k1
  replace g0 := k1.cell g0
  replace g1 := k1.cell g1
  replace g2 := k1.cell g2
  replace g3 := k1.cell g3
  replace g4 := k1.cell g4
  replace g5 := k1.cell g5
  clear k1 F1
  go_wp2_with fail
  obtain ⟨M, hM⟩ : ∃ M, W1.heap.size = M := ⟨_, rfl⟩
  go_loopw [7, 38] (fun v kv wr => ∃ (k : Nat) (L : List Int), k ≤ zs.length ∧ kv = .int .i64 k ∧ L.length = min k 6 ∧ Ofs L ∧ wr.ownsRow M 3 1 v L.length (L.map (Value.int .i64)) ∧ Keeps W1 wr) (fun _ kv _ => zs.length - (intOf kv).toNat)
  case atStart => exact ⟨0, [], Nat.zero_le _, rfl, rfl, fun x hx => (by cases hx), World.ownsRow_nil _ _ _ _, Keeps.refl _⟩
  case round =>
    obtain ⟨k, L, hk, rfl, hL, hof, hown, kr⟩ := hrel
    have HL := Lib.hid hL
    have HOF := Lib.hid hof
    have HOW := Lib.hid hown
    clear hL hof hown
    replace g0 := kr.cell g0
    replace g1 := kr.cell g1
    replace g2 := kr.cell g2
    replace g3 := kr.cell g3
    replace g4 := kr.cell g4
    replace g5 := kr.cell g5
    have kq := kk.trans kr
    by_cases hlt : k < zs.length
    · obtain ⟨b, o, rfl, hcs⟩ := (HU.out.keep kq) (by intro e; rw [e] at hlt; simp at hlt)
      obtain ⟨h1, h2, h3⟩ := hcs k hlt
      obtain ⟨y, hy⟩ : ∃ y, zs[k]?.getD 0 = y := ⟨_, rfl⟩
      rw [hy] at h1 h2 h3
      have hlb := lt_of_cell h1
      clear hcs hy
      by_cases h6 : k < 6
      · have hd6 : decide ((k : Int) < 6) = true := decide_eq_true (by omega)
        obtain ⟨r, hr⟩ : ∃ r, y % 201 = r := ⟨_, rfl⟩
        obtain ⟨x, hx⟩ : ∃ x, r - 100 = x := ⟨_, rfl⟩
        have hwx : IntKind.i64.wrap x = x := IntWalk.i64_in _ (by constructor <;> omega)
        have hxo : -100 ≤ x ∧ x ≤ 100 := by omega
        obtain ⟨S, hS⟩ : ∃ s, wr.heap.size = s := ⟨_, rfl⟩
        have HC := Lib.hid (cell_new wr (.int .i64 x) 3 hS)
        have HO2 := Lib.hid (HOW.out.kept (((Keeps.refl wr).alloc (.cells #[.int .i64 x] 3)).grown none) (own_none _))
        have hsz := kr.size
        have hm2 : M ≤ (wr.alloc (.cells #[.int .i64 x] 3)).heap.size := by simp; omega
        have hLl : L.length ≤ 6 := by have := HL.out; omega
        have HMM := Lib.hid hM
        clear hM
        go_wp2_with (at_builtin; refine wpList_append_own _ rfl _ _ 35 rfl M 3 i0 (.int .i64 0) 1 8 Try.underlying35 hi0 hz0 hz1 hz2 rfl (by decide) u7 L.length _ rfl HO2.out ⟨S, 0, none⟩ 1 1 [.int .i64 x] rfl rfl HC.out (by simp [Value.oneCell']) (by unfold maxLen; omega) (by omega) hm2 ?_; intro v' W2 ho2 hg2 _)
        have hg2' : (wr.alloc (.cells #[.int .i64 x] 3)).grownBy W2 u7.ownBlock := hg2
        have hMM := HMM.out
        have hL1 := HL.out
        refine ⟨⟨k + 1, L ++ [x], by omega, by go_num, by rw [List.length_append, List.length_singleton]; omega, fun z hz => ?_, by rw [List.length_append, List.map_append]; exact ho2, Below.grown (kr.alloc _) hg2' (by simp; omega) (fun j e => by have := (HO2.out.lt j e).1; omega)⟩, by simp [intOf]; omega⟩
        rcases List.mem_append.1 hz with h | h
        · exact HOF.out z h
        · rw [List.mem_singleton.1 h]; exact hxo
      · have hd6 : decide ((k : Int) < 6) = false := decide_eq_false (by omega)
        go_wp2_with fail
        go_roundw
        case rel => exact ⟨k + 1, L, by omega, by go_num, by have := HL.out; omega, HOF.out, HOW.out, kr⟩
        case measure => simp [intOf]; omega
    · obtain rfl : k = zs.length := by omega
      have hLL := HL.out
      by_cases hz : zs = []
      · subst hz
        obtain rfl : L = [] := List.length_eq_zero_iff.1 (by simpa using hLL)
        have H1F : Ofs [1] := fun z hz => by rw [List.mem_singleton.1 hz]; omega
        have H16 : ([1] : List Int).length ≤ 6 := by decide
        have H10 : ([1] : List Int) ≠ [] := by simp
        obtain ⟨S, hS⟩ : ∃ s, wr.heap.size = s := ⟨_, rfl⟩
        obtain ⟨W3, hW3⟩ : ∃ x, wr.alloc (.cells #[.int .i64 1] 3) = x := ⟨_, rfl⟩
        have k3 : Keeps wr W3 := by rw [← hW3]; exact (Keeps.refl _).alloc _
        have hin : Ints W3 (some ⟨S, 0, none⟩) [1] := fun _ => ⟨S, 0, rfl, fun i hi => by
          obtain rfl : i = 0 := by simpa using hi
          rw [← hW3, ← hS]; simp [go_sem]⟩
        have kw := kq.trans k3
        replace g0 := k3.cell g0
        replace g1 := k3.cell g1
        replace g2 := k3.cell g2
        replace g3 := k3.cell g3
        replace g4 := k3.cell g4
        replace g5 := k3.cell g5
        have HIN := Lib.hid hin
        dsimp only [List.length_nil] at *
        clear hin hLL hl
        rcases own_cases HOW.out with rfl | ⟨g, cp, rfl⟩
        · skip
          have NXT := Lib.hid (fun r (hr : Wm.nextA ⟨mark, llo, lhi, clo, chi, ra, rc, rs⟩ ([(1 : Int)]) = r) => show Calls Try.prog 27 #[.agg #[.int .i64 mark, .int .i64 llo, .int .i64 lhi, .int .i64 clo, .int .i64 chi, .slice ra rs.length rc], .slice (some ⟨S, 0, none⟩) ([(1 : Int)]).length 1] W3 (Ret (.tuple #[.int .i64 r.1.1, .int .i64 r.1.2, .int .i64 r.2]) W3) from by have h := Next_any ⟨mark, llo, lhi, clo, chi, ra, rc, rs⟩ ([(1 : Int)]) (some ⟨S, 0, none⟩) 1 W3 (HI.out.keep kw) HIN.out (by have := H16; unfold maxLen; omega); rw [hr] at h; exact h)
          cases hte : (Wm.truths ⟨mark, llo, lhi, clo, chi, ra, rc, rs⟩).isEmpty with
          | true =>
            have NC := Lib.hid (NXT.out _ (next_no HOK.out hte H10 H16 H1F))
            dsimp only [List.length_cons, List.length_nil] at NC
            go_upto_region 12 with fail
            go_cut [10, 11, 12] (fun p q r wx => p = .int .i64 0 ∧ q = .int .i64 0 ∧ r = .int .i64 10 ∧ Keeps W3 wx)
            case first =>
              go_wp2_with fail
              refine NC.out.mono ?_
              rintro e f1 ⟨rfl, a1⟩
              go_wp2_with fail
              go_meet
              exact ⟨rfl, rfl, rfl, a1⟩
            case rest =>
              obtain ⟨rfl, rfl, rfl, kc⟩ := hcut
              rename_i hK
              refine hK _ _ (wp_nx (c' := next_from 13) (by kernel_rfl) ?_)
              exact next_13n mark llo lhi clo chi ra rc rs b0 S 0 1 ([(1 : Int)]) wh w _ HOK.out hte HI.out (kw.trans kc) (Wm.Box.keep ⟨g0, g1, g2, g3, g4, g5⟩ kc) _ _ _ _ _ _ _ _ _ _ _ _ _ _ _ _ _ _ _ _ _ _ _ _ _ _ _ _ _ _ _ _ _ _ _ _ _ _ _ _ _ _ _ _ _ _ _ _ _ _ _ _ _ _ _ _ _ _ _ _ _ _ _ _ _ _ _ _ _ _ _ _ _ _ _ _ _ _ _ _ _ _ _ _ _ _ _ _ _ _ _ _ _ _ _ _ _ _ _ _ _ _ _ _ _ _ _ _ _ _ _ _ _ _ _ _ _ _ _ _ _ _ _ _ _ _ _ _ _ _ _ _ _ _ _ _ _ _ _ _ _ _ _ _ _ _ _ _ _ _ _ _ _ _ _ _ _ _ _ _ _ _ _ _ _ _ _ _ _ _ _ _ _ _ _ _ _ _ _ _ _ _ _ _ _ _ _ _ _ _ _ _ _
          | false =>
            obtain ⟨i, A, hr, hi, hA, hmin⟩ := next_yes HOK.out hte H10 H16 H1F
            have NC := Lib.hid (NXT.out _ hr)
            have HMN := Lib.hid hmin
            have HA := Lib.hid hA
            have HIL := Lib.hid hi
            dsimp only [List.length_cons, List.length_nil] at NC
            clear hr hmin hA hi
            go_upto_region 12 with fail
            go_cut [10, 11, 12] (fun p q r wx => p = .int .i64 (i : Int) ∧ q = .int .i64 (A : Int) ∧ r = .int .i64 0 ∧ Keeps W3 wx)
            case first =>
              go_wp2_with fail
              refine NC.out.mono ?_
              rintro e f1 ⟨rfl, a1⟩
              go_wp2_with fail
              go_meet
              exact ⟨rfl, rfl, rfl, a1⟩
            case rest =>
              obtain ⟨rfl, rfl, rfl, kc⟩ := hcut
              rename_i hK
              refine hK _ _ (wp_nx (c' := next_from 13) (by kernel_rfl) ?_)
              have hpos : 0 < ([(1 : Int)]).length := List.length_pos_iff.2 H10
              obtain ⟨j, hj⟩ : ∃ j : Nat, wh % ((([(1 : Int)]).length : Nat) : Int) = j := Int.eq_ofNat_of_zero_le (Int.emod_nonneg _ (by omega))
              have hjl : j < ([(1 : Int)]).length := by have := Int.emod_lt_of_pos wh (show (0 : Int) < ((([(1 : Int)]).length : Nat) : Int) by omega); omega
              obtain ⟨b', o', e', hcl⟩ := HIN.out H10
              cases e'
              have ci := kc.cell (hcl i HIL.out)
              have cj := kc.cell (hcl j hjl)
              have ox := H1F (([(1 : Int)])[i]?.getD 0) (by rw [List.getElem?_eq_getElem HIL.out]; exact List.getElem_mem _)
              have oy := H1F (([(1 : Int)])[j]?.getD 0) (by rw [List.getElem?_eq_getElem hjl]; exact List.getElem_mem _)
              exact next_13y mark llo lhi clo chi ra rc rs b0 S 0 1 i j A _ ([(1 : Int)]) _ _ wh w _ HOK.out h5 hte HI.out (kw.trans kc) (Wm.Box.keep ⟨g0, g1, g2, g3, g4, g5⟩ kc) HIL.out hjl hj w0 w1 H16 ci cj ox.1 ox.2 oy.1 oy.2 HA.out rfl (HMN.out j hjl).1 (HMN.out j hjl).2 _ _ _ _ _ _ _ _ _ _ _ _ _ _ _ _ _ _ _ _ _ _ _ _ _ _ _ _ _ _ _ _ _ _ _ _ _ _ _ _ _ _ _ _ _ _ _ _ _ _ _ _ _ _ _ _ _ _ _ _ _ _ _ _ _ _ _ _ _ _ _ _ _ _ _ _ _ _ _ _ _ _ _ _ _ _ _ _ _ _ _ _ _ _ _ _ _ _ _ _ _ _ _ _ _ _ _ _ _ _ _ _ _ _ _ _ _ _ _ _ _ _ _ _ _ _ _ _ _ _ _ _ _ _ _ _ _ _ _ _ _ _ _ _ _ _ _ _ _ _ _ _ _ _ _ _ _ _ _ _ _ _ _ _ _ _ _ _ _ _ _ _ _ _ _ _ _ _ _ _ _ _ _ _ _ _ _ _ _ _ _ _ _
        · skip
          have NXT := Lib.hid (fun r (hr : Wm.nextA ⟨mark, llo, lhi, clo, chi, ra, rc, rs⟩ ([(1 : Int)]) = r) => show Calls Try.prog 27 #[.agg #[.int .i64 mark, .int .i64 llo, .int .i64 lhi, .int .i64 clo, .int .i64 chi, .slice ra rs.length rc], .slice (some ⟨S, 0, none⟩) ([(1 : Int)]).length 1] W3 (Ret (.tuple #[.int .i64 r.1.1, .int .i64 r.1.2, .int .i64 r.2]) W3) from by have h := Next_any ⟨mark, llo, lhi, clo, chi, ra, rc, rs⟩ ([(1 : Int)]) (some ⟨S, 0, none⟩) 1 W3 (HI.out.keep kw) HIN.out (by have := H16; unfold maxLen; omega); rw [hr] at h; exact h)
          cases hte : (Wm.truths ⟨mark, llo, lhi, clo, chi, ra, rc, rs⟩).isEmpty with
          | true =>
            have NC := Lib.hid (NXT.out _ (next_no HOK.out hte H10 H16 H1F))
            dsimp only [List.length_cons, List.length_nil] at NC
            go_upto_region 12 with fail
            go_cut [10, 11, 12] (fun p q r wx => p = .int .i64 0 ∧ q = .int .i64 0 ∧ r = .int .i64 10 ∧ Keeps W3 wx)
            case first =>
              go_wp2_with fail
              refine NC.out.mono ?_
              rintro e f1 ⟨rfl, a1⟩
              go_wp2_with fail
              go_meet
              exact ⟨rfl, rfl, rfl, a1⟩
            case rest =>
              obtain ⟨rfl, rfl, rfl, kc⟩ := hcut
              rename_i hK
              refine hK _ _ (wp_nx (c' := next_from 13) (by kernel_rfl) ?_)
              exact next_13n mark llo lhi clo chi ra rc rs b0 S 0 1 ([(1 : Int)]) wh w _ HOK.out hte HI.out (kw.trans kc) (Wm.Box.keep ⟨g0, g1, g2, g3, g4, g5⟩ kc) _ _ _ _ _ _ _ _ _ _ _ _ _ _ _ _ _ _ _ _ _ _ _ _ _ _ _ _ _ _ _ _ _ _ _ _ _ _ _ _ _ _ _ _ _ _ _ _ _ _ _ _ _ _ _ _ _ _ _ _ _ _ _ _ _ _ _ _ _ _ _ _ _ _ _ _ _ _ _ _ _ _ _ _ _ _ _ _ _ _ _ _ _ _ _ _ _ _ _ _ _ _ _ _ _ _ _ _ _ _ _ _ _ _ _ _ _ _ _ _ _ _ _ _ _ _ _ _ _ _ _ _ _ _ _ _ _ _ _ _ _ _ _ _ _ _ _ _ _ _ _ _ _ _ _ _ _ _ _ _ _ _ _ _ _ _ _ _ _ _ _ _ _ _ _ _ _ _ _ _ _ _ _ _ _ _ _ _ _ _ _ _ _
          | false =>
            obtain ⟨i, A, hr, hi, hA, hmin⟩ := next_yes HOK.out hte H10 H16 H1F
            have NC := Lib.hid (NXT.out _ hr)
            have HMN := Lib.hid hmin
            have HA := Lib.hid hA
            have HIL := Lib.hid hi
            dsimp only [List.length_cons, List.length_nil] at NC
            clear hr hmin hA hi
            go_upto_region 12 with fail
            go_cut [10, 11, 12] (fun p q r wx => p = .int .i64 (i : Int) ∧ q = .int .i64 (A : Int) ∧ r = .int .i64 0 ∧ Keeps W3 wx)
            case first =>
              go_wp2_with fail
              refine NC.out.mono ?_
              rintro e f1 ⟨rfl, a1⟩
              go_wp2_with fail
              go_meet
              exact ⟨rfl, rfl, rfl, a1⟩
            case rest =>
              obtain ⟨rfl, rfl, rfl, kc⟩ := hcut
              rename_i hK
              refine hK _ _ (wp_nx (c' := next_from 13) (by kernel_rfl) ?_)
              have hpos : 0 < ([(1 : Int)]).length := List.length_pos_iff.2 H10
              obtain ⟨j, hj⟩ : ∃ j : Nat, wh % ((([(1 : Int)]).length : Nat) : Int) = j := Int.eq_ofNat_of_zero_le (Int.emod_nonneg _ (by omega))
              have hjl : j < ([(1 : Int)]).length := by have := Int.emod_lt_of_pos wh (show (0 : Int) < ((([(1 : Int)]).length : Nat) : Int) by omega); omega
              obtain ⟨b', o', e', hcl⟩ := HIN.out H10
              cases e'
              have ci := kc.cell (hcl i HIL.out)
              have cj := kc.cell (hcl j hjl)
              have ox := H1F (([(1 : Int)])[i]?.getD 0) (by rw [List.getElem?_eq_getElem HIL.out]; exact List.getElem_mem _)
              have oy := H1F (([(1 : Int)])[j]?.getD 0) (by rw [List.getElem?_eq_getElem hjl]; exact List.getElem_mem _)
              exact next_13y mark llo lhi clo chi ra rc rs b0 S 0 1 i j A _ ([(1 : Int)]) _ _ wh w _ HOK.out h5 hte HI.out (kw.trans kc) (Wm.Box.keep ⟨g0, g1, g2, g3, g4, g5⟩ kc) HIL.out hjl hj w0 w1 H16 ci cj ox.1 ox.2 oy.1 oy.2 HA.out rfl (HMN.out j hjl).1 (HMN.out j hjl).2 _ _ _ _ _ _ _ _ _ _ _ _ _ _ _ _ _ _ _ _ _ _ _ _ _ _ _ _ _ _ _ _ _ _ _ _ _ _ _ _ _ _ _ _ _ _ _ _ _ _ _ _ _ _ _ _ _ _ _ _ _ _ _ _ _ _ _ _ _ _ _ _ _ _ _ _ _ _ _ _ _ _ _ _ _ _ _ _ _ _ _ _ _ _ _ _ _ _ _ _ _ _ _ _ _ _ _ _ _ _ _ _ _ _ _ _ _ _ _ _ _ _ _ _ _ _ _ _ _ _ _ _ _ _ _ _ _ _ _ _ _ _ _ _ _ _ _ _ _ _ _ _ _ _ _ _ _ _ _ _ _ _ _ _ _ _ _ _ _ _ _ _ _ _ _ _ _ _ _ _ _ _ _ _ _ _ _ _ _ _ _ _ _
      · have hzl : 0 < zs.length := List.length_pos_iff.2 hz
        have hne : L ≠ [] := fun e => by rw [e] at hLL; simp at hLL; omega
        have h6 : L.length ≤ 6 := by omega
        have hz0 : ((L.length : Int) == 0) = false := by rw [beq_eq_false_iff_ne]; have := List.length_pos_iff.2 hne; omega
        obtain ⟨a', c', e', hin, _⟩ := ints_row HOW.out
        rcases own_cases HOW.out with e | ⟨g, cp, rfl⟩
        · rw [e] at e'
          injection e' with _ e2 _
          have := List.length_pos_iff.2 hne
          omega
        · cases e'
          have HIN := Lib.hid hin
          have HH6 := Lib.hid h6
          clear hin hLL hl h6
          have NXT := Lib.hid (fun r (hr : Wm.nextA ⟨mark, llo, lhi, clo, chi, ra, rc, rs⟩ (L) = r) => show Calls Try.prog 27 #[.agg #[.int .i64 mark, .int .i64 llo, .int .i64 lhi, .int .i64 clo, .int .i64 chi, .slice ra rs.length rc], .slice (some ⟨g, 0, none⟩) (L).length c'] wr (Ret (.tuple #[.int .i64 r.1.1, .int .i64 r.1.2, .int .i64 r.2]) wr) from by have h := Next_any ⟨mark, llo, lhi, clo, chi, ra, rc, rs⟩ (L) (some ⟨g, 0, none⟩) c' wr (HI.out.keep kq) HIN.out (by have := HH6.out; unfold maxLen; omega); rw [hr] at h; exact h)
          cases hte : (Wm.truths ⟨mark, llo, lhi, clo, chi, ra, rc, rs⟩).isEmpty with
          | true =>
            have NC := Lib.hid (NXT.out _ (next_no HOK.out hte hne HH6.out HOF.out))
            dsimp only [List.length_cons, List.length_nil] at NC
            go_upto_region 12 with fail
            go_cut [10, 11, 12] (fun p q r wx => p = .int .i64 0 ∧ q = .int .i64 0 ∧ r = .int .i64 10 ∧ Keeps wr wx)
            case first =>
              go_wp2_with fail
              refine NC.out.mono ?_
              rintro e f1 ⟨rfl, a1⟩
              go_wp2_with fail
              go_meet
              exact ⟨rfl, rfl, rfl, a1⟩
            case rest =>
              obtain ⟨rfl, rfl, rfl, kc⟩ := hcut
              rename_i hK
              refine hK _ _ (wp_nx (c' := next_from 13) (by kernel_rfl) ?_)
              exact next_13n mark llo lhi clo chi ra rc rs b0 g 0 c' (L) wh w _ HOK.out hte HI.out (kq.trans kc) (Wm.Box.keep ⟨g0, g1, g2, g3, g4, g5⟩ kc) _ _ _ _ _ _ _ _ _ _ _ _ _ _ _ _ _ _ _ _ _ _ _ _ _ _ _ _ _ _ _ _ _ _ _ _ _ _ _ _ _ _ _ _ _ _ _ _ _ _ _ _ _ _ _ _ _ _ _ _ _ _ _ _ _ _ _ _ _ _ _ _ _ _ _ _ _ _ _ _ _ _ _ _ _ _ _ _ _ _ _ _ _ _ _ _ _ _ _ _ _ _ _ _ _ _ _ _ _ _ _ _ _ _ _ _ _ _ _ _ _ _ _ _ _ _ _ _ _ _ _ _ _ _ _ _ _ _ _ _ _ _ _ _ _ _ _ _ _ _ _ _ _ _ _ _ _ _ _ _ _ _ _ _ _ _ _ _ _ _ _ _ _ _ _ _ _ _ _ _ _ _ _ _ _ _ _ _ _ _ _ _ _
          | false =>
            obtain ⟨i, A, hr, hi, hA, hmin⟩ := next_yes HOK.out hte hne HH6.out HOF.out
            have NC := Lib.hid (NXT.out _ hr)
            have HMN := Lib.hid hmin
            have HA := Lib.hid hA
            have HIL := Lib.hid hi
            dsimp only [List.length_cons, List.length_nil] at NC
            clear hr hmin hA hi
            go_upto_region 12 with fail
            go_cut [10, 11, 12] (fun p q r wx => p = .int .i64 (i : Int) ∧ q = .int .i64 (A : Int) ∧ r = .int .i64 0 ∧ Keeps wr wx)
            case first =>
              go_wp2_with fail
              refine NC.out.mono ?_
              rintro e f1 ⟨rfl, a1⟩
              go_wp2_with fail
              go_meet
              exact ⟨rfl, rfl, rfl, a1⟩
            case rest =>
              obtain ⟨rfl, rfl, rfl, kc⟩ := hcut
              rename_i hK
              refine hK _ _ (wp_nx (c' := next_from 13) (by kernel_rfl) ?_)
              have hpos : 0 < (L).length := List.length_pos_iff.2 hne
              obtain ⟨j, hj⟩ : ∃ j : Nat, wh % (((L).length : Nat) : Int) = j := Int.eq_ofNat_of_zero_le (Int.emod_nonneg _ (by omega))
              have hjl : j < (L).length := by have := Int.emod_lt_of_pos wh (show (0 : Int) < (((L).length : Nat) : Int) by omega); omega
              obtain ⟨b', o', e', hcl⟩ := HIN.out hne
              cases e'
              have ci := kc.cell (hcl i HIL.out)
              have cj := kc.cell (hcl j hjl)
              have ox := HOF.out ((L)[i]?.getD 0) (by rw [List.getElem?_eq_getElem HIL.out]; exact List.getElem_mem _)
              have oy := HOF.out ((L)[j]?.getD 0) (by rw [List.getElem?_eq_getElem hjl]; exact List.getElem_mem _)
              exact next_13y mark llo lhi clo chi ra rc rs b0 g 0 c' i j A _ (L) _ _ wh w _ HOK.out h5 hte HI.out (kq.trans kc) (Wm.Box.keep ⟨g0, g1, g2, g3, g4, g5⟩ kc) HIL.out hjl hj w0 w1 HH6.out ci cj ox.1 ox.2 oy.1 oy.2 HA.out rfl (HMN.out j hjl).1 (HMN.out j hjl).2 _ _ _ _ _ _ _ _ _ _ _ _ _ _ _ _ _ _ _ _ _ _ _ _ _ _ _ _ _ _ _ _ _ _ _ _ _ _ _ _ _ _ _ _ _ _ _ _ _ _ _ _ _ _ _ _ _ _ _ _ _ _ _ _ _ _ _ _ _ _ _ _ _ _ _ _ _ _ _ _ _ _ _ _ _ _ _ _ _ _ _ _ _ _ _ _ _ _ _ _ _ _ _ _ _ _ _ _ _ _ _ _ _ _ _ _ _ _ _ _ _ _ _ _ _ _ _ _ _ _ _ _ _ _ _ _ _ _ _ _ _ _ _ _ _ _ _ _ _ _ _ _ _ _ _ _ _ _ _ _ _ _ _ _ _ _ _ _ _ _ _ _ _ _ _ _ _ _ _ _ _ _ _ _ _ _ _ _ _ _ _ _ _
theorem warmNext_any (B : Wm) (a : Option Addr) (cap : Nat) (zs : List Int) (wh : Int) (w : World) (hI : B.In w) (hU : U8s w a zs) (hl : zs.length ≤ maxLen) (w0 : 0 ≤ wh) (w1 : wh ≤ 255) : Calls Try.prog 10 #[B.v, .slice a zs.length cap, .int .u8 wh] w (RetB true w) := by
  cases hf : B.fine with
  | false => exact wn_no B a cap zs wh w hI hf
  | true =>
    by_cases h5 : B.rs.length < 5
    · exact wn_yes B a cap zs wh w hI hf h5 hU hl w0 w1
    · exact wn_five B a cap zs wh w hI hf (by omega)
end Go.Proofs.Ytdfiebfgmpdceaa
