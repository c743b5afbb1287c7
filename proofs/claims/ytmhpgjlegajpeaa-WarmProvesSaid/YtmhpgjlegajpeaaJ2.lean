/-
  The document's own package, of WARM: Room, Count.
-/
import Derived.Test.YtmhpgjlegajpeaaJ1
namespace Go.Proofs.Ytmhpgjlegajpeaa
open Go.RowKit Go.Shelf
attribute [local go_sem] Oper.semAt_some

/-- In a room all that is shown differs from the length by at most so much just if it does at both ends. -/
theorem fine_room {B : Wm} (hok : B.ok = true) {off : Int} (L : List Pr) (n : Nat) : (fineL B.mark ((n : Int) + 1) off L && fineL B.mark (-(n : Int) - 1) off L) = roomB B.mark off L (n + 1) := by
  have hm := (Wm.ok_lim hok).m1
  unfold fineL roomB
  rw [Bool.eq_iff_iff, Bool.and_eq_true, List.all_eq_true, List.all_eq_true, List.all_eq_true]
  have key : ∀ p : Pr, (decide (-off ≤ shI B.mark p.1.1 p.1.2 ((n : Int) + 1) - p.1.1 ∧ shI B.mark p.1.1 p.1.2 ((n : Int) + 1) - p.1.1 ≤ off) = true ∧ decide (-off ≤ shI B.mark p.1.1 p.1.2 (-(n : Int) - 1) - p.1.1 ∧ shI B.mark p.1.1 p.1.2 (-(n : Int) - 1) - p.1.1 ≤ off) = true) ↔ roomP B.mark off (n + 1) p = true := by
    intro p
    have hp := p.2
    have a1 := sh_up (m := B.mark) (L := p.1.1) (c := p.1.2) (t := 0) (t' := (n : Int) + 1) (by omega) (by omega) (by omega)
    have a2 := sh_up (m := B.mark) (L := p.1.1) (c := p.1.2) (t := -(n : Int) - 1) (t' := 0) (by omega) (by omega) (by omega)
    have a3 : shI B.mark p.1.1 p.1.2 0 = p.1.1 := by unfold shI; rw [Int.mul_zero]; omega
    rw [a3] at a1 a2
    unfold roomP
    rw [decide_eq_true_eq, decide_eq_true_eq, decide_eq_true_eq, show (((n + 1 : Nat)) : Int) = (n : Int) + 1 by omega, show -((n : Int) + 1) = -(n : Int) - 1 by omega]
    generalize shI B.mark p.1.1 p.1.2 ((n : Int) + 1) = u at *
    generalize shI B.mark p.1.1 p.1.2 (-(n : Int) - 1) = v at *
    omega
  constructor
  · rintro ⟨h1, h2⟩ p hp
    exact (key p).1 ⟨h1 p hp, h2 p hp⟩
  · intro h
    exact ⟨fun p hp => ((key p).2 (h p hp)).1, fun p hp => ((key p).2 (h p hp)).2⟩
set_option maxRecDepth 100000 in
set_option maxHeartbeats 6400000 in
theorem refRoom_any (B : Wm) (off : Int) (w : World) (hI : B.In w) : Calls Try.prog 24 #[B.v, .int .i64 off] w (Ret (.tuple #[.int .i64 (B.roomA off).1, .int .i64 (B.roomA off).2]) w) := by
  obtain ⟨valid, hvalid⟩ : ∃ v, decide (0 ≤ off ∧ off ≤ 30000) = v := ⟨_, rfl⟩
  have RD := Lib.hid (fun w1 => refIn_any off 0 30000 w1)
  rw [hvalid] at RD
  have TD := Lib.hid (fun w1 (k : Keeps w w1) => refTold_any B 0 valid w1 (hI.keep k))
  have hbad : (if 0 ≤ off ∧ off ≤ 30000 then (0 : Int) else 2) = badA 0 valid := by
    rw [← hvalid]; unfold badA
    by_cases h : 0 ≤ off ∧ off ≤ 30000 <;> simp [h]
  have hA : B.roomA off = if B.errA (badA 0 valid) = 0 then ((widest B.mark off B.truths : Int), 0) else (0, B.errA (badA 0 valid)) := by
    rw [Wm.roomA, hbad]; exact say_err B _ _ _
  have HTF := Lib.hid (told_facts B (badA 0 valid))
  have HNV := Lib.hid (show badA 0 valid = 0 → 0 ≤ off ∧ off ≤ 30000 from fun h => by
    rw [← hbad] at h
    by_cases h' : 0 ≤ off ∧ off ≤ 30000
    · exact h'
    · rw [if_neg h'] at h; cases h)
  have HFR := Lib.hid (fun h L n => fine_room (B := B) h (off := off) L n)
  have HFI := Lib.hid (fun (L : List Pr) a cap t w1 h hP hl t1 t2 o1 o2 => refFine_any B a cap L t off w1 h hP hl t1 t2 o1 o2)
  have BX := Wm.Box.new B w
  rw [hA]
  obtain ⟨T, hT⟩ : ∃ T, B.truths = T := ⟨_, rfl⟩
  obtain ⟨E, hE⟩ : ∃ E, B.errA (badA 0 valid) = E := ⟨_, rfl⟩
  obtain ⟨L, hL⟩ : ∃ L, B.toldL (badA 0 valid) = L := ⟨_, rfl⟩
  rw [hT, hE, hL] at HTF
  rw [hE, hL] at TD
  rw [hT, hE]
  obtain ⟨okb, hokb⟩ : ∃ b, B.ok = b := ⟨_, rfl⟩
  rw [hokb] at HTF HFR HFI
  have hmx : Try.prog.follows .mixedOrders = true := by kernel_rfl
  obtain ⟨mark, llo, lhi, clo, chi, ra, rc, rs⟩ := B
  dsimp only [Wm.v, spV] at *
  clear hI hA hT hE hL hbad hvalid hokb
  obtain ⟨W, hW⟩ : ∃ W, w.alloc (.cells #[.int .i64 mark, .int .i64 llo, .int .i64 lhi, .int .i64 clo, .int .i64 chi, .slice ra rs.length rc] 26) = W := ⟨_, rfl⟩
  rw [hW] at BX
  have kB : Keeps w W := by rw [← hW]; exact (Keeps.refl _).alloc _
  obtain ⟨g0, g1, g2, g3, g4, g5⟩ := BX
  dsimp only at g0 g1 g2 g3 g4 g5
  have hl0 := lt_of_cell g0
  obtain ⟨b0, hb0⟩ : ∃ b, w.heap.size = b := ⟨_, rfl⟩
  rw [hb0] at g0 g1 g2 g3 g4 g5 hl0
  haveI : Nonempty (Since W.drew) := Since.some _
  have kd := (Keeps.refl W).drew
  have j0 : ∀ q : Since W.drew, q.W.cell? ⟨b0, 0, none⟩ = some (.int .i64 mark) := fun q => (kd.trans q.keeps).cell g0
  have j1 : ∀ q : Since W.drew, q.W.cell? ⟨b0, 1, none⟩ = some (.int .i64 llo) := fun q => (kd.trans q.keeps).cell g1
  have j2 : ∀ q : Since W.drew, q.W.cell? ⟨b0, 2, none⟩ = some (.int .i64 lhi) := fun q => (kd.trans q.keeps).cell g2
  have j3 : ∀ q : Since W.drew, q.W.cell? ⟨b0, 3, none⟩ = some (.int .i64 clo) := fun q => (kd.trans q.keeps).cell g3
  have j4 : ∀ q : Since W.drew, q.W.cell? ⟨b0, 4, none⟩ = some (.int .i64 chi) := fun q => (kd.trans q.keeps).cell g4
  have j5 : ∀ q : Since W.drew, q.W.cell? ⟨b0, 5, none⟩ = some (.slice ra rs.length rc) := fun q => (kd.trans q.keeps).cell g5
  by_cases hz : E = 0
  · obtain ⟨rfl, hne, hlen, rfl, hbd⟩ := HTF.out hz
    rw [if_pos hz]
    subst hz
    obtain ⟨n0, n1⟩ := HNV.out hbd
    have HRB := Lib.hid (fun n => HFR.out rfl L n)
    have HIN := Lib.hid (fun k (h : k < widest mark off L) => widest_in (m := mark) (off := off) (ps := L) h)
    have HST := Lib.hid (fun h => widest_stop (m := mark) (off := off) (ps := L) h)
    have hle := widest_le mark off L
    obtain ⟨Wd, hWd⟩ : ∃ n, widest mark off L = n := ⟨_, rfl⟩
    rw [hWd] at HIN HST hle ⊢
    clear HTF HNV HFR hne hbd hWd
    go_enter Try.func24, Try.ntmps24
    go_wp2_with fail
    refine (wpIn_wide (n := 3)).1 ?_
    refine region_calm 9 [(0, [0, 1]), (1, [2]), (1, [3]), (0, [4, 5, 6, 7, 8])] (fun _ => trivial) (by kernel_rfl) hmx (by kernel_rfl) (by kernel_rfl) ?_
    show wpQuietIn _ _ _ _ _ _ [_, _] _
    iterate 2 (gi_big_quiet_step (fail))
    refine wpQuietIn_nil ?_
    clear j0 j1 j2 j3 j4 j5
    show wpListIn _ _ _ _ _ [_] _ _
    gi_wp2_with fail
    rename_i hK
    refine ⟨trivial, ((callsIn_wide (n := 3 - 1)).2 (RD.out _)).mono ?_⟩
    rintro e w0 ⟨rfl, rfl⟩
    refine hK _ _ ⟨rfl, Keeps.refl _, ?_⟩
    clear hK
    show wpListIn _ _ _ _ _ [_] _ _
    gi_wp2_with fail
    rename_i hK
    refine ⟨trivial, ((callsIn_wide (n := 3 - 1)).2 (TD.out _ (kB.trans kd))).mono ?_⟩
    rintro e w1 ⟨⟨a, cap, rfl, hP⟩, k2⟩
    refine hK _ _ ⟨rfl, k2, ?_⟩
    have HP := Lib.hid hP
    clear hK hP TD RD
    haveI : Nonempty (Since w1) := Since.some _
    show wpQuietIn _ _ _ _ _ _ [_, _, _, _, _] _
    iterate 5 (gi_big_quiet_step (fail))
    refine wpQuietIn_nil ?_
    unfold wpMix
    refine ⟨rfl, ?_⟩
    have k3 : Keeps W w1 := kd.trans k2
    have kw := kB.trans k3
    clear k2
    replace g0 := k3.cell g0
    replace g1 := k3.cell g1
    replace g2 := k3.cell g2
    replace g3 := k3.cell g3
    replace g4 := k3.cell g4
    replace g5 := k3.cell g5
    go_wp2_with fail
    go_loopw [8] (fun i wr => ∃ k : Nat, k ≤ Wd ∧ i = .int .i64 k ∧ Keeps w1 wr) (fun i _ => Wd - (intOf i).toNat)
    case atStart => exact ⟨0, Nat.zero_le _, rfl, Keeps.refl _⟩
    case round =>
      obtain ⟨k, hk, rfl, kr⟩ := hrel
      have f0 := kr.cell g0
      have f1 := kr.cell g1
      have f2 := kr.cell g2
      have f3 := kr.cell g3
      have f4 := kr.cell g4
      have f5 := kr.cell g5
      have hlf := lt_of_cell f0
      have hPr := HP.out.keep kr
      have hrb := HRB.out k
      have F1 := Lib.hid (fun w' (kx : Keeps wr w') (h : k < 100) => HFI.out L a cap ((k : Int) + 1) w' (by simp) (hPr.keep kx) hlen (by omega) (by omega) n0 n1)
      have F2 := Lib.hid (fun w' (kx : Keeps wr w') (h : k < 100) => HFI.out L a cap (-(k : Int) - 1) w' (by simp) (hPr.keep kx) hlen (by omega) (by omega) n0 n1)
      obtain ⟨v1, hv1⟩ : ∃ v, fineL mark ((k : Int) + 1) off L = v := ⟨_, rfl⟩
      obtain ⟨v2, hv2⟩ : ∃ v, fineL mark (-(k : Int) - 1) off L = v := ⟨_, rfl⟩
      rw [hv1] at F1 hrb
      rw [hv2] at F2 hrb
      clear hv1 hv2 hPr g0 g1 g2 g3 g4 g5 HRB HFI
      by_cases hlt : k < Wd
      · have hi := HIN.out k hlt
        rw [← hrb, Bool.and_eq_true] at hi
        obtain ⟨rfl, rfl⟩ := hi
        have h100 : decide ((k : Int) < 100) = true := decide_eq_true (by omega)
        have F1 := Lib.hid (fun w' kx => F1.out w' kx (by omega))
        have F2 := Lib.hid (fun w' kx => F2.out w' kx (by omega))
        clear hrb
        go_wp2_with fail
        refine (F1.out _ (Keeps.refl _)).mono ?_
        rintro e w2 ⟨rfl, k4⟩
        replace f0 := k4.cell f0
        replace f1 := k4.cell f1
        replace f2 := k4.cell f2
        replace f3 := k4.cell f3
        replace f4 := k4.cell f4
        replace f5 := k4.cell f5
        replace hlf := lt_of_cell f0
        go_wp2_with fail
        refine (F2.out _ k4).mono ?_
        rintro e w5 ⟨rfl, k5⟩
        go_wp2_with fail
        go_roundw
        case rel => exact ⟨k + 1, by omega, by go_num, (kr.trans k4).trans k5⟩
        case measure => simp [intOf]; omega
      · obtain rfl : k = Wd := by omega
        by_cases h100 : k = 100
        · have h1 : decide ((k : Int) < 100) = false := decide_eq_false (by omega)
          clear hrb
          go_wp2_with fail
          refine bodyPost_ret (v := .tuple #[.int .i64 k, .int .i64 0]) ?_ rfl ⟨rfl, kw.trans kr⟩
          simp [results, Try.results24, go_sem]
        · have hs := HST.out h100
          rw [← hrb] at hs
          have h1 : decide ((k : Int) < 100) = true := decide_eq_true (by omega)
          have F1 := Lib.hid (fun w' kx => F1.out w' kx (by omega))
          have F2 := Lib.hid (fun w' kx => F2.out w' kx (by omega))
          clear hrb
          cases v1 with
          | false =>
            go_wp2_with fail
            refine (F1.out _ (Keeps.refl _)).mono ?_
            rintro e w2 ⟨rfl, k4⟩
            go_wp2_with fail
            refine bodyPost_ret (v := .tuple #[.int .i64 k, .int .i64 0]) ?_ rfl ⟨rfl, (kw.trans kr).trans k4⟩
            simp [results, Try.results24, go_sem]
          | true =>
            obtain rfl : v2 = false := by simpa using hs
            go_wp2_with fail
            refine (F1.out _ (Keeps.refl _)).mono ?_
            rintro e w2 ⟨rfl, k4⟩
            replace f0 := k4.cell f0
            replace f1 := k4.cell f1
            replace f2 := k4.cell f2
            replace f3 := k4.cell f3
            replace f4 := k4.cell f4
            replace f5 := k4.cell f5
            replace hlf := lt_of_cell f0
            go_wp2_with fail
            refine (F2.out _ k4).mono ?_
            rintro e w5 ⟨rfl, k5⟩
            go_wp2_with fail
            refine bodyPost_ret (v := .tuple #[.int .i64 k, .int .i64 0]) ?_ rfl ⟨rfl, ((kw.trans kr).trans k4).trans k5⟩
            simp [results, Try.results24, go_sem]
  · rw [if_neg hz]
    have hzb : (E == 0) = false := by rw [beq_eq_false_iff_ne]; exact hz
    clear HTF HNV HFR HFI
    go_enter Try.func24, Try.ntmps24
    go_wp2_with fail
    refine (wpIn_wide (n := 3)).1 ?_
    refine region_calm 9 [(0, [0, 1]), (1, [2]), (1, [3]), (0, [4, 5, 6, 7, 8])] (fun _ => trivial) (by kernel_rfl) hmx (by kernel_rfl) (by kernel_rfl) ?_
    show wpQuietIn _ _ _ _ _ _ [_, _] _
    iterate 2 (gi_big_quiet_step (fail))
    refine wpQuietIn_nil ?_
    clear j0 j1 j2 j3 j4 j5
    show wpListIn _ _ _ _ _ [_] _ _
    gi_wp2_with fail
    rename_i hK
    refine ⟨trivial, ((callsIn_wide (n := 3 - 1)).2 (RD.out _)).mono ?_⟩
    rintro e w0 ⟨rfl, rfl⟩
    refine hK _ _ ⟨rfl, Keeps.refl _, ?_⟩
    clear hK
    show wpListIn _ _ _ _ _ [_] _ _
    gi_wp2_with fail
    rename_i hK
    refine ⟨trivial, ((callsIn_wide (n := 3 - 1)).2 (TD.out _ (kB.trans kd))).mono ?_⟩
    rintro e w1 ⟨⟨a, cap, rfl, hP⟩, k2⟩
    refine hK _ _ ⟨rfl, k2, ?_⟩
    have HP := Lib.hid hP
    clear hK hP TD RD
    haveI : Nonempty (Since w1) := Since.some _
    show wpQuietIn _ _ _ _ _ _ [_, _, _, _, _] _
    iterate 5 (gi_big_quiet_step (fail))
    refine wpQuietIn_nil ?_
    unfold wpMix
    refine ⟨rfl, ?_⟩
    have k3 : Keeps W w1 := kd.trans k2
    have kw := kB.trans k3
    clear k2
    go_wp2_with fail
    refine bodyPost_ret (v := .tuple #[.int .i64 0, .int .i64 E]) ?_ rfl ⟨rfl, kw⟩
    simp [results, Try.results24, go_sem]

set_option maxHeartbeats 1600000 in
theorem refCount_any (B : Wm) (w : World) (hI : B.In w) : Calls Try.prog 26 #[B.v] w (Ret (.tuple #[.int .i64 (B.countA).1, .int .i64 (B.countA).2]) w) := by
  have WM := Lib.hid (fun w1 (k : Keeps w w1) => refWarm_any B w1 (hI.keep k))
  have AP := Lib.hid (fun w1 (k : Keeps w w1) (hok : B.ok = true) => refAllPairs_any B w1 (hI.keep k) hok)
  have hA : B.countA = if B.ok then ((B.truths.length : Int), 0) else (0, 1) := rfl
  have BX := Wm.Box.new B w
  rw [hA]
  obtain ⟨T, hT⟩ : ∃ T, B.truths = T := ⟨_, rfl⟩
  rw [hT] at AP ⊢
  obtain ⟨ok, hok⟩ : ∃ b, B.ok = b := ⟨_, rfl⟩
  rw [hok] at WM AP ⊢
  obtain ⟨mark, llo, lhi, clo, chi, ra, rc, rs⟩ := B
  dsimp only [Wm.v] at *
  clear hI hok hT hA
  obtain ⟨W, hW⟩ : ∃ W, w.alloc (.cells #[.int .i64 mark, .int .i64 llo, .int .i64 lhi, .int .i64 clo, .int .i64 chi, .slice ra rs.length rc] 26) = W := ⟨_, rfl⟩
  rw [hW] at BX
  have kB : Keeps w W := by rw [← hW]; exact (Keeps.refl _).alloc _
  obtain ⟨g0, g1, g2, g3, g4, g5⟩ := BX
  dsimp only at g0 g1 g2 g3 g4 g5
  cases ok with
  | false =>
    go_enter Try.func26, Try.ntmps26
    go_wp2_with fail
    refine (WM.out _ kB).mono ?_
    rintro e w1 ⟨rfl, k1⟩
    go_wp2_with fail
    refine bodyPost_ret (v := .tuple #[.int .i64 0, .int .i64 1]) ?_ rfl ⟨rfl, kB.trans k1⟩
    simp [results, Try.results26, go_sem]
  | true =>
    go_enter Try.func26, Try.ntmps26
    go_wp2_with fail
    refine (WM.out _ kB).mono ?_
    rintro e w1 ⟨rfl, k1⟩
    replace g0 := k1.cell g0
    replace g1 := k1.cell g1
    replace g2 := k1.cell g2
    replace g3 := k1.cell g3
    replace g4 := k1.cell g4
    replace g5 := k1.cell g5
    have hl1 := lt_of_cell g0
    go_wp2_with fail
    refine (AP.out _ (kB.trans k1) (by simp)).mono ?_
    rintro e w2 ⟨⟨a, cap, rfl, hP⟩, k2⟩
    clear hP
    go_wp2_with fail
    refine bodyPost_ret (v := .tuple #[.int .i64 T.length, .int .i64 0]) ?_ rfl ⟨rfl, (kB.trans k1).trans k2⟩
    simp [results, Try.results26, go_sem]
end Go.Proofs.Ytmhpgjlegajpeaa
