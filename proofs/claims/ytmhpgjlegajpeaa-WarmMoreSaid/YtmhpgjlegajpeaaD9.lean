/-
  WARM: the inner functions of Shows, Held, Room, Count, Next, Clash.
-/
import Derived.Test.YtmhpgjlegajpeaaD8
namespace Go.Proofs.Ytmhpgjlegajpeaa
open Go.RowKit Go.Maps

set_option maxHeartbeats 3200000 in
theorem Shows1_out (B : Wm) (lo hi : Int) (b0 b1 : Nat) (w : World) (hB : B.Box w b0) (hI : B.In w) (c0 : w.cell? ⟨b1, 0, none⟩ = some (.int .i64 lo)) (c1 : w.cell? ⟨b1, 1, none⟩ = some (.int .i64 hi)) : Calls Try.prog 64 #[.pointer (some ⟨b0, 0, none⟩), .pointer (some ⟨b1, 0, none⟩)] w (Out (spV (B.showsA lo hi).1) (B.showsA lo hi).2 w) := by
  cases hok : B.ok with
  | false =>
    have N1 := Lib.hid (fun w1 (k : Keeps w w1) => needBlock_no B w1 (hI.keep k) hok)
    rw [show B.showsA lo hi = ((0, 0), 1) from say_arg hok]
    obtain ⟨mark, llo, lhi, clo, chi, ra, rc, rs⟩ := B
    obtain ⟨g0, g1, g2, g3, g4, g5⟩ := hB
    dsimp only [Wm.v] at *
    have hlb := lt_of_cell g0
    have k0 := (Keeps.refl w).alloc (.cells #[.int .i64 0, .int .i64 0] 23)
    clear hI hok
    go_enter Try.func64, Try.ntmps64
    go_wp2_with fail
    refine (N1.out _ k0).mono ?_
    rintro e w1 ⟨rfl, k1⟩
    exact ⟨rfl, Out.bad (e := 1) (by decide) ⟨rfl, k0.trans k1⟩⟩
  | true =>
    have N1 := Lib.hid (fun w1 (k : Keeps w w1) => needBlock_yes B w1 (hI.keep k) hok)
    have hL := Wm.ok_lim hok
    cases hs : inS lo hi (-100) 100 with
    | false =>
      have N2 := Lib.hid (fun w1 => needWarmth_no lo hi w1 hs)
      rw [show B.showsA lo hi = ((0, 0), 2) from by unfold Wm.showsA; rw [hs]; exact say_bad hok (by decide)]
      obtain ⟨mark, llo, lhi, clo, chi, ra, rc, rs⟩ := B
      obtain ⟨g0, g1, g2, g3, g4, g5⟩ := hB
      dsimp only [Wm.v] at *
      have hlb := lt_of_cell g0
      have k0 := (Keeps.refl w).alloc (.cells #[.int .i64 0, .int .i64 0] 23)
      clear hI hok hL hs
      go_enter Try.func64, Try.ntmps64
      go_wp2_with fail
      refine (N1.out _ k0).mono ?_
      rintro e w1 ⟨rfl, k1⟩
      have k2 := k0.trans k1
      have e0 := k2.cell g0
      have e1 := k2.cell g1
      have e2 := k2.cell g2
      have e3 := k2.cell g3
      have e4 := k2.cell g4
      have e5 := k2.cell g5
      have hle := lt_of_cell e0
      have d0 := k2.cell c0
      have d1 := k2.cell c1
      have hld := lt_of_cell d0
      go_wp2_with fail
      refine (N2.out _).mono ?_
      rintro e w2 ⟨rfl, k3⟩
      exact ⟨rfl, Out.bad (e := 2) (by decide) ⟨rfl, k2.trans k3⟩⟩
    | true =>
      have N2 := Lib.hid (fun w1 => needWarmth_yes lo hi w1 hs)
      obtain ⟨s1, s2, s3⟩ := inS_bd hs
      cases ht : B.truths.isEmpty with
      | true =>
        have T1 := Lib.hid (fun w1 (k : Keeps w w1) => truths_b B w1 (hI.keep k) hok true ht)
        rw [show B.showsA lo hi = ((0, 0), 10) from by unfold Wm.showsA; rw [hs]; exact say_none hok ht]
        obtain ⟨mark, llo, lhi, clo, chi, ra, rc, rs⟩ := B
        obtain ⟨g0, g1, g2, g3, g4, g5⟩ := hB
        dsimp only [Wm.v] at *
        have hlb := lt_of_cell g0
        simp only [if_true] at T1
        have k0 := (Keeps.refl w).alloc (.cells #[.int .i64 0, .int .i64 0] 23)
        clear hI hok hL hs ht
        go_enter Try.func64, Try.ntmps64
        go_wp2_with fail
        refine (N1.out _ k0).mono ?_
        rintro e w1 ⟨rfl, k1⟩
        have k2 := k0.trans k1
        have e0 := k2.cell g0
        have e1 := k2.cell g1
        have e2 := k2.cell g2
        have e3 := k2.cell g3
        have e4 := k2.cell g4
        have e5 := k2.cell g5
        have hle := lt_of_cell e0
        have d0 := k2.cell c0
        have d1 := k2.cell c1
        have hld := lt_of_cell d0
        go_wp2_with fail
        refine (N2.out _).mono ?_
        rintro e w2 ⟨rfl, k3⟩
        have k4 := k2.trans k3
        replace e0 := k4.cell g0
        replace e1 := k4.cell g1
        replace e2 := k4.cell g2
        replace e3 := k4.cell g3
        replace e4 := k4.cell g4
        replace e5 := k4.cell g5
        replace hle := lt_of_cell e0
        have q0 := k4.cell c0
        have lq0 := lt_of_cell q0
        have q1 := k4.cell c1
        have lq1 := lt_of_cell q1
        haveI : Nonempty (Since w2.drew) := Since.some _
        have k4d := k4.drew
        have j0 : ∀ q : Since w2.drew, q.W.cell? ⟨b0, 0, none⟩ = some (.int .i64 mark) := fun q => (k4d.trans q.keeps).cell g0
        have j1 : ∀ q : Since w2.drew, q.W.cell? ⟨b0, 1, none⟩ = some (.int .i64 llo) := fun q => (k4d.trans q.keeps).cell g1
        have j2 : ∀ q : Since w2.drew, q.W.cell? ⟨b0, 2, none⟩ = some (.int .i64 lhi) := fun q => (k4d.trans q.keeps).cell g2
        have j3 : ∀ q : Since w2.drew, q.W.cell? ⟨b0, 3, none⟩ = some (.int .i64 clo) := fun q => (k4d.trans q.keeps).cell g3
        have j4 : ∀ q : Since w2.drew, q.W.cell? ⟨b0, 4, none⟩ = some (.int .i64 chi) := fun q => (k4d.trans q.keeps).cell g4
        have j5 : ∀ q : Since w2.drew, q.W.cell? ⟨b0, 5, none⟩ = some (.slice ra rs.length rc) := fun q => (k4d.trans q.keeps).cell g5
        have jq0 : ∀ q : Since w2.drew, q.W.cell? ⟨b1, 0, none⟩ = some (.int .i64 lo) := fun q => (k4d.trans q.keeps).cell c0
        have jq1 : ∀ q : Since w2.drew, q.W.cell? ⟨b1, 1, none⟩ = some (.int .i64 hi) := fun q => (k4d.trans q.keeps).cell c1
        have hmx : Try.prog.follows .mixedOrders = true := by kernel_rfl
        have hfw : ∀ f, Fence.wide.fn f := fun _ => trivial
        go_wp2_with fail
        refine (wpIn_wide (n := 3)).1 ?_
        refine region_mix 6 [(0, [0, 2]), (3, [1])] (fun _ => trivial) (fun _ _ _ _ hd h => ⟨hd.symm.trans h.1, h.2⟩) (by kernel_rfl) hmx (by kernel_rfl) (by kernel_rfl) ?_
        show wpQuietIn _ _ _ _ _ _ [_, _] _
        iterate 2 (gi_big_quiet_step (fail))
        refine wpQuietIn_nil ?_
        show wpListIn _ _ _ _ _ [_] _ _
        gi_wp2_with fail
        refine ((callsIn_wide (n := 3 - 1)).2 (T1.out _ k4d)).mono ?_
        rintro e w3 ⟨rfl, k5⟩
        exact ⟨rfl, Out.bad (e := 10) (by decide) ⟨rfl, k4d.trans k5⟩⟩
      | false =>
        have T1 := Lib.hid (fun w1 (k : Keeps w w1) => truths_b B w1 (hI.keep k) hok false ht)
        rw [show B.showsA lo hi = ((loI (B.showL lo hi), hiI (B.showL lo hi)), 0) from by unfold Wm.showsA; rw [hs]; exact say_yes hok ht]
        have hm1 := hL.m1
        have hm2 := hL.m2
        unfold Wm.showL
        obtain ⟨ts, hts⟩ : ∃ ts, B.truths = ts := ⟨_, rfl⟩
        rw [hts] at T1 ⊢
        have R1 := Lib.hid (fun b1 b2 b w1 h1 h2 h3 hP => reach_shown b1 b2 b B.mark hm1 hm2 ts lo hi (by omega) (by omega) w1 h1 h2 h3 hP)
        obtain ⟨a, ha⟩ : ∃ x, loI (ts.flatMap (fun p => shTo B.mark lo p (hi + 1 - lo).toNat)) = x := ⟨_, rfl⟩
        obtain ⟨c, hc⟩ : ∃ x, hiI (ts.flatMap (fun p => shTo B.mark lo p (hi + 1 - lo).toNat)) = x := ⟨_, rfl⟩
        rw [ha, hc] at R1 ⊢
        have hmx : Try.prog.follows .mixedOrders = true := by kernel_rfl
        have hfw : ∀ f, Fence.wide.fn f := fun _ => trivial
        obtain ⟨mark, llo, lhi, clo, chi, ra, rc, rs⟩ := B
        obtain ⟨g0, g1, g2, g3, g4, g5⟩ := hB
        dsimp only [Wm.v] at *
        have hlb := lt_of_cell g0
        simp only [Bool.false_eq_true, if_false] at T1
        have k0 := (Keeps.refl w).alloc (.cells #[.int .i64 0, .int .i64 0] 23)
        clear hI hok hL hs ht hts ha hc hm1 hm2 s1 s2 s3
        go_enter Try.func64, Try.ntmps64
        go_wp2_with fail
        refine (N1.out _ k0).mono ?_
        rintro e w1 ⟨rfl, k1⟩
        have k2 := k0.trans k1
        have e0 := k2.cell g0
        have e1 := k2.cell g1
        have e2 := k2.cell g2
        have e3 := k2.cell g3
        have e4 := k2.cell g4
        have e5 := k2.cell g5
        have hle := lt_of_cell e0
        have d0 := k2.cell c0
        have d1 := k2.cell c1
        have hld := lt_of_cell d0
        go_wp2_with fail
        refine (N2.out _).mono ?_
        rintro e w2 ⟨rfl, k3⟩
        have k4 := k2.trans k3
        replace e0 := k4.cell g0
        replace e1 := k4.cell g1
        replace e2 := k4.cell g2
        replace e3 := k4.cell g3
        replace e4 := k4.cell g4
        replace e5 := k4.cell g5
        replace hle := lt_of_cell e0
        have q0 := k4.cell c0
        have lq0 := lt_of_cell q0
        have q1 := k4.cell c1
        have lq1 := lt_of_cell q1
        haveI : Nonempty (Since w2.drew) := Since.some _
        have k4d := k4.drew
        have j0 : ∀ q : Since w2.drew, q.W.cell? ⟨b0, 0, none⟩ = some (.int .i64 mark) := fun q => (k4d.trans q.keeps).cell g0
        have j1 : ∀ q : Since w2.drew, q.W.cell? ⟨b0, 1, none⟩ = some (.int .i64 llo) := fun q => (k4d.trans q.keeps).cell g1
        have j2 : ∀ q : Since w2.drew, q.W.cell? ⟨b0, 2, none⟩ = some (.int .i64 lhi) := fun q => (k4d.trans q.keeps).cell g2
        have j3 : ∀ q : Since w2.drew, q.W.cell? ⟨b0, 3, none⟩ = some (.int .i64 clo) := fun q => (k4d.trans q.keeps).cell g3
        have j4 : ∀ q : Since w2.drew, q.W.cell? ⟨b0, 4, none⟩ = some (.int .i64 chi) := fun q => (k4d.trans q.keeps).cell g4
        have j5 : ∀ q : Since w2.drew, q.W.cell? ⟨b0, 5, none⟩ = some (.slice ra rs.length rc) := fun q => (k4d.trans q.keeps).cell g5
        have jq0 : ∀ q : Since w2.drew, q.W.cell? ⟨b1, 0, none⟩ = some (.int .i64 lo) := fun q => (k4d.trans q.keeps).cell c0
        have jq1 : ∀ q : Since w2.drew, q.W.cell? ⟨b1, 1, none⟩ = some (.int .i64 hi) := fun q => (k4d.trans q.keeps).cell c1
        go_wp2_with fail
        refine (wpIn_wide (n := 3)).1 ?_
        refine region_mix 6 [(0, [0, 2]), (1, [1]), (1, [3]), (1, [4]), (1, [5]), (2, [6])] (fun _ => trivial) (fun _ _ _ _ hd h => ⟨hd.symm.trans h.1, h.2⟩) (by kernel_rfl) hmx (by kernel_rfl) (by kernel_rfl) ?_
        show wpQuietIn _ _ _ _ _ _ [_, _] _
        iterate 2 (gi_big_quiet_step (fail))
        refine wpQuietIn_nil ?_
        clear j0 j1 j2 j3 j4 j5 jq0 jq1
        show wpListIn _ _ _ _ _ [_] _ _
        gi_wp2_with fail
        rename_i hK_k5
        refine ((callsIn_wide (n := 3 - 1)).2 (T1.out _ k4d)).mono ?_
        rintro e w5 ⟨b, rfl, hP, k5, _⟩
        refine hK_k5 _ _ ⟨rfl, k5, ?_⟩
        show wpListIn _ _ _ _ _ [_] _ _
        gi_wp2_with fail
        rename_i hK_k7
        refine ((callsIn_wide (n := 3 - 1)).2 (shown_any b lo hi w5)).mono ?_
        rintro e w6 ⟨rfl, k7, h1, h2, h3⟩
        refine hK_k7 _ _ ⟨rfl, k7, ?_⟩
        have R2 := Lib.hid (R1.out _ _ _ w6 h1 h2 h3 (hP.keep k7))
        show wpListIn _ _ _ _ _ [_] _ _
        gi_wp2_with fail
        rename_i hK_k8
        refine ((callsIn_wide (n := 3 - 1)).2 R2.out).mono ?_
        rintro e w7 ⟨rfl, k8⟩
        refine hK_k8 _ _ ⟨rfl, k8, ?_⟩
        show wpListIn _ _ _ _ _ [_] _ _
        gi_wp2_with fail
        rename_i hK_k9
        refine ((callsIn_wide (n := 3 - 1)).2 (span_any a c w7)).mono ?_
        rintro e w9 ⟨rfl, k9⟩
        refine hK_k9 _ _ ⟨rfl, k9, ?_⟩
        have kk := (k1.trans (k3.drew.trans k5)).trans (k7.trans (k8.trans k9))
        have s0 : w9.cell? ⟨w.heap.size, 0, none⟩ = some (.int .i64 0) := kk.cell (by simp [go_sem])
        have s1 : w9.cell? ⟨w.heap.size, 1, none⟩ = some (.int .i64 0) := kk.cell (by simp [go_sem])
        have f0 : w9.frozen? ⟨w.heap.size, 0, none⟩ = false := by rw [kk.cells.2 _ _ (by simp)]; simp [go_sem]
        have f1 : w9.frozen? ⟨w.heap.size, 1, none⟩ = false := by rw [kk.cells.2 _ _ (by simp)]; simp [go_sem]
        have hls := lt_of_cell s0
        have h2 := (TwoI.set0 ⟨s0, s1, f0, f1⟩ a).set1 c
        show wpListIn _ _ _ _ _ [_] _ _
        gi_wp2_with fail
        unfold wpMix
        gi_wp2_with fail
        go_wp2_with fail
        refine bodyPost_ret (v := spV (a, c)) ?_ rfl (Out.ok ⟨rfl, ((k0.trans kk).setCell (p := ⟨w.heap.size, 0, none⟩) _ (Nat.le_refl _)).setCell (p := ⟨w.heap.size, 1, none⟩) _ (Nat.le_refl _)⟩)
        simp [results, Try.results64, go_sem, h2.c0, h2.c1, spV]
set_option maxHeartbeats 1600000 in
theorem Count1_out (B : Wm) (b0 : Nat) (w : World) (hB : B.Box w b0) (hI : B.In w) : Calls Try.prog 75 #[.pointer (some ⟨b0, 0, none⟩)] w (Out (.int .i64 B.countA.1) B.countA.2 w) := by
  cases hok : B.ok with
  | false =>
    have N1 := Lib.hid (fun w1 (k : Keeps w w1) => needBlock_no B w1 (hI.keep k) hok)
    rw [show B.countA = (0, 1) from by simp [Wm.countA, hok]]
    obtain ⟨mark, llo, lhi, clo, chi, ra, rc, rs⟩ := B
    obtain ⟨g0, g1, g2, g3, g4, g5⟩ := hB
    dsimp only [Wm.v] at *
    have hlb := lt_of_cell g0
    have k0 := Keeps.refl w
    clear hI hok
    go_enter Try.func75, Try.ntmps75
    go_wp2_with fail
    refine (N1.out _ k0).mono ?_
    rintro e w1 ⟨rfl, k1⟩
    exact ⟨rfl, Out.bad (e := 1) (by decide) ⟨rfl, k0.trans k1⟩⟩
  | true =>
    have N1 := Lib.hid (fun w1 (k : Keeps w w1) => needBlock_yes B w1 (hI.keep k) hok)
    have H1 := Lib.hid (fun w1 (k : Keeps w w1) => readings_at B w1 (hI.keep k) hok)
    have H2 := Lib.hid (fun a w1 hg hb => left_at B hok a w1 hg hb)
    rw [show B.countA = ((B.truths.length : Int), 0) from by simp [Wm.countA, hok]]
    obtain ⟨ts, hts⟩ : ∃ ts, B.truths = ts := ⟨_, rfl⟩
    rw [hts] at H2 ⊢
    obtain ⟨mark, llo, lhi, clo, chi, ra, rc, rs⟩ := B
    obtain ⟨g0, g1, g2, g3, g4, g5⟩ := hB
    dsimp only [Wm.v] at *
    have hlb := lt_of_cell g0
    have k0 := Keeps.refl w
    clear hI hok hts
    have hmx : Try.prog.follows .mixedOrders = true := by kernel_rfl
    have hfw : ∀ f, Fence.wide.fn f := fun _ => trivial
    go_enter Try.func75, Try.ntmps75
    go_wp2_with fail
    refine (N1.out _ k0).mono ?_
    rintro e w1 ⟨rfl, k1⟩
    have k2 := k0.trans k1
    have e0 := k2.cell g0
    have e1 := k2.cell g1
    have e2 := k2.cell g2
    have e3 := k2.cell g3
    have e4 := k2.cell g4
    have e5 := k2.cell g5
    have hle := lt_of_cell e0
    haveI : Nonempty (Since w1.drew) := Since.some _
    have k2d := k2.drew
    have j0 : ∀ q : Since w1.drew, q.W.cell? ⟨b0, 0, none⟩ = some (.int .i64 mark) := fun q => (k2d.trans q.keeps).cell g0
    have j1 : ∀ q : Since w1.drew, q.W.cell? ⟨b0, 1, none⟩ = some (.int .i64 llo) := fun q => (k2d.trans q.keeps).cell g1
    have j2 : ∀ q : Since w1.drew, q.W.cell? ⟨b0, 2, none⟩ = some (.int .i64 lhi) := fun q => (k2d.trans q.keeps).cell g2
    have j3 : ∀ q : Since w1.drew, q.W.cell? ⟨b0, 3, none⟩ = some (.int .i64 clo) := fun q => (k2d.trans q.keeps).cell g3
    have j4 : ∀ q : Since w1.drew, q.W.cell? ⟨b0, 4, none⟩ = some (.int .i64 chi) := fun q => (k2d.trans q.keeps).cell g4
    have j5 : ∀ q : Since w1.drew, q.W.cell? ⟨b0, 5, none⟩ = some (.slice ra rs.length rc) := fun q => (k2d.trans q.keeps).cell g5
    go_wp2_with fail
    refine (wpIn_wide (n := 3)).1 ?_
    refine region_mix 5 [(0, [0, 1]), (1, [2]), (1, [3]), (0, [4]), (2, [5])] (fun _ => trivial) (fun _ _ _ _ hd h => ⟨hd.symm.trans h.1, h.2⟩) (by kernel_rfl) hmx (by kernel_rfl) (by kernel_rfl) ?_
    show wpQuietIn _ _ _ _ _ _ [_, _] _
    iterate 2 (gi_big_quiet_step (fail))
    refine wpQuietIn_nil ?_
    clear j0 j1 j2 j3 j4 j5
    show wpListIn _ _ _ _ _ [_] _ _
    gi_wp2_with fail
    rename_i hK_k3
    refine ((callsIn_wide (n := 3 - 1)).2 (H1.out _ k2d)).mono ?_
    rintro e w3 ⟨a, rfl, hg, hb, k3⟩
    refine hK_k3 _ _ ⟨rfl, k3, ?_⟩
    show wpListIn _ _ _ _ _ [_] _ _
    gi_wp2_with fail
    rename_i hK_k5
    refine ((callsIn_wide (n := 3 - 1)).2 (H2.out a w3 hg hb)).mono ?_
    rintro e w5 ⟨b, rfl, hP, k5, _⟩
    refine hK_k5 _ _ ⟨rfl, k5, ?_⟩
    haveI : Nonempty (Since w5) := Since.some _
    have hlen : ∀ q : Since w5, _ := fun q => (hP.keep q.keeps).len
    show wpQuietIn _ _ _ _ _ _ [_] _
    iterate 1 (gi_big_quiet_step (fail))
    refine wpQuietIn_nil ?_
    clear hlen
    show wpListIn _ _ _ _ _ [_] _ _
    gi_wp2_with fail
    unfold wpMix
    gi_wp2_with fail
    go_wp2_with fail
    go_ret
    exact Out.ok ⟨rfl, (k2d.trans k3).trans k5⟩
set_option maxHeartbeats 1600000 in
theorem Clash1_out (B : Wm) (b0 : Nat) (w : World) (hB : B.Box w b0) (hI : B.In w) : Calls Try.prog 86 #[.pointer (some ⟨b0, 0, none⟩)] w (Out (.int .i64 B.clashA.1) B.clashA.2 w) := by
  cases hok : B.ok with
  | false =>
    have N1 := Lib.hid (fun w1 (k : Keeps w w1) => needBlock_no B w1 (hI.keep k) hok)
    rw [show B.clashA = (0, 1) from by simp [Wm.clashA, hok]]
    obtain ⟨mark, llo, lhi, clo, chi, ra, rc, rs⟩ := B
    obtain ⟨g0, g1, g2, g3, g4, g5⟩ := hB
    dsimp only [Wm.v] at *
    have hlb := lt_of_cell g0
    have k0 := Keeps.refl w
    clear hI hok
    go_enter Try.func86, Try.ntmps86
    go_wp2_with fail
    refine (N1.out _ k0).mono ?_
    rintro e w1 ⟨rfl, k1⟩
    exact ⟨rfl, Out.bad (e := 1) (by decide) ⟨rfl, k0.trans k1⟩⟩
  | true =>
    have N1 := Lib.hid (fun w1 (k : Keeps w w1) => needBlock_yes B w1 (hI.keep k) hok)
    have H1 := Lib.hid (fun w1 (k : Keeps w w1) => fewest_any B w1 (hI.keep k) hok)
    cases hf : B.few with
    | none =>
      rw [hf] at H1
      rw [show B.clashA = (0, 4) from by simp [Wm.clashA, hok, hf]]
      obtain ⟨mark, llo, lhi, clo, chi, ra, rc, rs⟩ := B
      obtain ⟨g0, g1, g2, g3, g4, g5⟩ := hB
      dsimp only [Wm.v] at *
      have hlb := lt_of_cell g0
      have k0 := Keeps.refl w
      clear hI hok hf
      go_enter Try.func86, Try.ntmps86
      go_wp2_with fail
      refine (N1.out _ k0).mono ?_
      rintro e w1 ⟨rfl, k1⟩
      have k2 := k0.trans k1
      have e0 := k2.cell g0
      have e1 := k2.cell g1
      have e2 := k2.cell g2
      have e3 := k2.cell g3
      have e4 := k2.cell g4
      have e5 := k2.cell g5
      have hle := lt_of_cell e0
      dsimp only [fewV] at H1
      go_wp2_with fail
      refine (H1.out _ k2).mono ?_
      rintro e w3 ⟨rfl, k3⟩
      go_wp2_with fail
      exact ⟨rfl, Out.bad (e := 4) (by decide) ⟨rfl, k2.trans k3⟩⟩
    | some s =>
      rw [hf] at H1
      rw [show B.clashA = ((s : Int), 0) from by simp [Wm.clashA, hok, hf]]
      obtain ⟨mark, llo, lhi, clo, chi, ra, rc, rs⟩ := B
      obtain ⟨g0, g1, g2, g3, g4, g5⟩ := hB
      dsimp only [Wm.v] at *
      have hlb := lt_of_cell g0
      have k0 := Keeps.refl w
      clear hI hok hf
      go_enter Try.func86, Try.ntmps86
      go_wp2_with fail
      refine (N1.out _ k0).mono ?_
      rintro e w1 ⟨rfl, k1⟩
      have k2 := k0.trans k1
      have e0 := k2.cell g0
      have e1 := k2.cell g1
      have e2 := k2.cell g2
      have e3 := k2.cell g3
      have e4 := k2.cell g4
      have e5 := k2.cell g5
      have hle := lt_of_cell e0
      dsimp only [fewV] at H1
      go_wp2_with fail
      refine (H1.out _ k2).mono ?_
      rintro e w3 ⟨rfl, k3⟩
      go_wp2_with fail
      go_ret
      exact Out.ok ⟨rfl, k2.trans k3⟩
set_option maxHeartbeats 1600000 in
theorem Room1_out (B : Wm) (off : Int) (b0 b1 : Nat) (w : World) (hB : B.Box w b0) (hI : B.In w) (c0 : w.cell? ⟨b1, 0, none⟩ = some (.int .i64 off)) : Calls Try.prog 70 #[.pointer (some ⟨b0, 0, none⟩), .pointer (some ⟨b1, 0, none⟩)] w (Out (.int .i64 (B.roomA off).1) (B.roomA off).2 w) := by
  cases hok : B.ok with
  | false =>
    have N1 := Lib.hid (fun w1 (k : Keeps w w1) => needBlock_no B w1 (hI.keep k) hok)
    rw [show B.roomA off = (0, 1) from say_arg hok]
    obtain ⟨mark, llo, lhi, clo, chi, ra, rc, rs⟩ := B
    obtain ⟨g0, g1, g2, g3, g4, g5⟩ := hB
    dsimp only [Wm.v] at *
    have hlb := lt_of_cell g0
    have k0 := Keeps.refl w
    clear hI hok
    go_enter Try.func70, Try.ntmps70
    go_wp2_with fail
    refine (N1.out _ k0).mono ?_
    rintro e w1 ⟨rfl, k1⟩
    exact ⟨rfl, Out.bad (e := 1) (by decide) ⟨rfl, k0.trans k1⟩⟩
  | true =>
    have N1 := Lib.hid (fun w1 (k : Keeps w w1) => needBlock_yes B w1 (hI.keep k) hok)
    have hL := Wm.ok_lim hok
    by_cases hs : 0 ≤ off ∧ off ≤ 30000
    · have N2 := Lib.hid (fun w1 => needOff_yes off w1 hs.1 hs.2)
      cases ht : B.truths.isEmpty with
      | true =>
        have T1 := Lib.hid (fun w1 (k : Keeps w w1) => truths_b B w1 (hI.keep k) hok true ht)
        rw [show B.roomA off = (0, 10) from by unfold Wm.roomA; rw [if_pos hs]; exact say_none hok ht]
        obtain ⟨mark, llo, lhi, clo, chi, ra, rc, rs⟩ := B
        obtain ⟨g0, g1, g2, g3, g4, g5⟩ := hB
        dsimp only [Wm.v] at *
        have hlb := lt_of_cell g0
        simp only [if_true] at T1
        have k0 := Keeps.refl w
        clear hI hok hL hs ht
        have hmx : Try.prog.follows .mixedOrders = true := by kernel_rfl
        have hfw : ∀ f, Fence.wide.fn f := fun _ => trivial
        go_enter Try.func70, Try.ntmps70
        go_wp2_with fail
        refine (N1.out _ k0).mono ?_
        rintro e w1 ⟨rfl, k1⟩
        have k2 := k0.trans k1
        have e0 := k2.cell g0
        have e1 := k2.cell g1
        have e2 := k2.cell g2
        have e3 := k2.cell g3
        have e4 := k2.cell g4
        have e5 := k2.cell g5
        have hle := lt_of_cell e0
        have d0 := k2.cell c0
        have hld := lt_of_cell d0
        go_wp2_with fail
        refine (N2.out _).mono ?_
        rintro e w2 ⟨rfl, k3⟩
        have k4 := k2.trans k3
        replace e0 := k4.cell g0
        replace e1 := k4.cell g1
        replace e2 := k4.cell g2
        replace e3 := k4.cell g3
        replace e4 := k4.cell g4
        replace e5 := k4.cell g5
        replace hle := lt_of_cell e0
        have q0 := k4.cell c0
        have lq0 := lt_of_cell q0
        haveI : Nonempty (Since w2.drew) := Since.some _
        have k4d := k4.drew
        have j0 : ∀ q : Since w2.drew, q.W.cell? ⟨b0, 0, none⟩ = some (.int .i64 mark) := fun q => (k4d.trans q.keeps).cell g0
        have j1 : ∀ q : Since w2.drew, q.W.cell? ⟨b0, 1, none⟩ = some (.int .i64 llo) := fun q => (k4d.trans q.keeps).cell g1
        have j2 : ∀ q : Since w2.drew, q.W.cell? ⟨b0, 2, none⟩ = some (.int .i64 lhi) := fun q => (k4d.trans q.keeps).cell g2
        have j3 : ∀ q : Since w2.drew, q.W.cell? ⟨b0, 3, none⟩ = some (.int .i64 clo) := fun q => (k4d.trans q.keeps).cell g3
        have j4 : ∀ q : Since w2.drew, q.W.cell? ⟨b0, 4, none⟩ = some (.int .i64 chi) := fun q => (k4d.trans q.keeps).cell g4
        have j5 : ∀ q : Since w2.drew, q.W.cell? ⟨b0, 5, none⟩ = some (.slice ra rs.length rc) := fun q => (k4d.trans q.keeps).cell g5
        have jq0 : ∀ q : Since w2.drew, q.W.cell? ⟨b1, 0, none⟩ = some (.int .i64 off) := fun q => (k4d.trans q.keeps).cell c0
        go_wp2_with fail
        refine (wpIn_wide (n := 3)).1 ?_
        refine region_mix 4 [(0, [0, 2]), (3, [1])] (fun _ => trivial) (fun _ _ _ _ hd h => ⟨hd.symm.trans h.1, h.2⟩) (by kernel_rfl) hmx (by kernel_rfl) (by kernel_rfl) ?_
        show wpQuietIn _ _ _ _ _ _ [_, _] _
        iterate 2 (gi_big_quiet_step (fail))
        refine wpQuietIn_nil ?_
        show wpListIn _ _ _ _ _ [_] _ _
        gi_wp2_with fail
        refine ((callsIn_wide (n := 3 - 1)).2 (T1.out _ k4d)).mono ?_
        rintro e wp ⟨rfl, k5⟩
        exact ⟨rfl, Out.bad (e := 10) (by decide) ⟨rfl, k4d.trans k5⟩⟩
      | false =>
        have T1 := Lib.hid (fun w1 (k : Keeps w w1) => truths_b B w1 (hI.keep k) hok false ht)
        rw [show B.roomA off = ((widest B.mark off B.truths : Int), 0) from by unfold Wm.roomA; rw [if_pos hs]; exact say_yes hok ht]
        have hm1 := hL.m1
        have hm2 := hL.m2
        obtain ⟨ts, hts⟩ : ∃ ts, B.truths = ts := ⟨_, rfl⟩
        rw [hts] at T1 ⊢
        have R1 := Lib.hid (fun b w1 hP => widestRoom_any b B.mark off ts hm1 hm2 hs.1 hs.2 w1 hP)
        obtain ⟨a, ha⟩ : ∃ x, widest B.mark off ts = x := ⟨_, rfl⟩
        rw [ha] at R1 ⊢
        obtain ⟨mark, llo, lhi, clo, chi, ra, rc, rs⟩ := B
        obtain ⟨g0, g1, g2, g3, g4, g5⟩ := hB
        dsimp only [Wm.v] at *
        have hlb := lt_of_cell g0
        simp only [Bool.false_eq_true, if_false] at T1
        have k0 := Keeps.refl w
        clear hI hok hL hs ht hts ha hm1 hm2
        have hmx : Try.prog.follows .mixedOrders = true := by kernel_rfl
        have hfw : ∀ f, Fence.wide.fn f := fun _ => trivial
        go_enter Try.func70, Try.ntmps70
        go_wp2_with fail
        refine (N1.out _ k0).mono ?_
        rintro e w1 ⟨rfl, k1⟩
        have k2 := k0.trans k1
        have e0 := k2.cell g0
        have e1 := k2.cell g1
        have e2 := k2.cell g2
        have e3 := k2.cell g3
        have e4 := k2.cell g4
        have e5 := k2.cell g5
        have hle := lt_of_cell e0
        have d0 := k2.cell c0
        have hld := lt_of_cell d0
        go_wp2_with fail
        refine (N2.out _).mono ?_
        rintro e w2 ⟨rfl, k3⟩
        have k4 := k2.trans k3
        replace e0 := k4.cell g0
        replace e1 := k4.cell g1
        replace e2 := k4.cell g2
        replace e3 := k4.cell g3
        replace e4 := k4.cell g4
        replace e5 := k4.cell g5
        replace hle := lt_of_cell e0
        have q0 := k4.cell c0
        have lq0 := lt_of_cell q0
        haveI : Nonempty (Since w2.drew) := Since.some _
        have k4d := k4.drew
        have j0 : ∀ q : Since w2.drew, q.W.cell? ⟨b0, 0, none⟩ = some (.int .i64 mark) := fun q => (k4d.trans q.keeps).cell g0
        have j1 : ∀ q : Since w2.drew, q.W.cell? ⟨b0, 1, none⟩ = some (.int .i64 llo) := fun q => (k4d.trans q.keeps).cell g1
        have j2 : ∀ q : Since w2.drew, q.W.cell? ⟨b0, 2, none⟩ = some (.int .i64 lhi) := fun q => (k4d.trans q.keeps).cell g2
        have j3 : ∀ q : Since w2.drew, q.W.cell? ⟨b0, 3, none⟩ = some (.int .i64 clo) := fun q => (k4d.trans q.keeps).cell g3
        have j4 : ∀ q : Since w2.drew, q.W.cell? ⟨b0, 4, none⟩ = some (.int .i64 chi) := fun q => (k4d.trans q.keeps).cell g4
        have j5 : ∀ q : Since w2.drew, q.W.cell? ⟨b0, 5, none⟩ = some (.slice ra rs.length rc) := fun q => (k4d.trans q.keeps).cell g5
        have jq0 : ∀ q : Since w2.drew, q.W.cell? ⟨b1, 0, none⟩ = some (.int .i64 off) := fun q => (k4d.trans q.keeps).cell c0
        go_wp2_with fail
        refine (wpIn_wide (n := 3)).1 ?_
        refine region_mix 4 [(0, [0, 2]), (1, [1]), (1, [3]), (2, [4])] (fun _ => trivial) (fun _ _ _ _ hd h => ⟨hd.symm.trans h.1, h.2⟩) (by kernel_rfl) hmx (by kernel_rfl) (by kernel_rfl) ?_
        show wpQuietIn _ _ _ _ _ _ [_, _] _
        iterate 2 (gi_big_quiet_step (fail))
        refine wpQuietIn_nil ?_
        clear j0 j1 j2 j3 j4 j5 jq0
        show wpListIn _ _ _ _ _ [_] _ _
        gi_wp2_with fail
        rename_i hK_k5
        refine ((callsIn_wide (n := 3 - 1)).2 (T1.out _ k4d)).mono ?_
        rintro e w5 ⟨b, rfl, hP, k5, _⟩
        refine hK_k5 _ _ ⟨rfl, k5, ?_⟩
        show wpListIn _ _ _ _ _ [_] _ _
        gi_wp2_with fail
        rename_i hK_k6
        refine ((callsIn_wide (n := 3 - 1)).2 (R1.out b w5 hP)).mono ?_
        rintro e w6 ⟨rfl, k6⟩
        refine hK_k6 _ _ ⟨rfl, k6, ?_⟩
        show wpListIn _ _ _ _ _ [_] _ _
        gi_wp2_with fail
        unfold wpMix
        gi_wp2_with fail
        go_wp2_with fail
        go_ret
        exact Out.ok ⟨rfl, (k4d.trans k5).trans k6⟩
    · have N2 := Lib.hid (fun w1 => needOff_no off w1 (by omega))
      rw [show B.roomA off = (0, 2) from by unfold Wm.roomA; rw [if_neg hs]; exact say_bad hok (by decide)]
      obtain ⟨mark, llo, lhi, clo, chi, ra, rc, rs⟩ := B
      obtain ⟨g0, g1, g2, g3, g4, g5⟩ := hB
      dsimp only [Wm.v] at *
      have hlb := lt_of_cell g0
      have k0 := Keeps.refl w
      clear hI hok hL hs
      go_enter Try.func70, Try.ntmps70
      go_wp2_with fail
      refine (N1.out _ k0).mono ?_
      rintro e w1 ⟨rfl, k1⟩
      have k2 := k0.trans k1
      have e0 := k2.cell g0
      have e1 := k2.cell g1
      have e2 := k2.cell g2
      have e3 := k2.cell g3
      have e4 := k2.cell g4
      have e5 := k2.cell g5
      have hle := lt_of_cell e0
      have d0 := k2.cell c0
      have hld := lt_of_cell d0
      go_wp2_with fail
      refine (N2.out _).mono ?_
      rintro e w2 ⟨rfl, k3⟩
      exact ⟨rfl, Out.bad (e := 2) (by decide) ⟨rfl, k2.trans k3⟩⟩
theorem rdV_iface (r : Wr) : ∃ T c, rdV r = .iface T (.agg c) := by
  unfold rdV
  split
  · exact ⟨_, _, rfl⟩
  · exact ⟨_, _, rfl⟩
set_option maxHeartbeats 3200000 in
theorem Held1_out (B : Wm) (n : Int) (b0 b1 : Nat) (w : World) (hB : B.Box w b0) (hI : B.In w) (c0 : w.cell? ⟨b1, 0, none⟩ = some (.int .i64 n)) : Calls Try.prog 58 #[.pointer (some ⟨b0, 0, none⟩), .pointer (some ⟨b1, 0, none⟩)] w (Out (spV (B.heldA n).1) (B.heldA n).2 w) := by
  cases hok : B.ok with
  | false =>
    have N1 := Lib.hid (fun w1 (k : Keeps w w1) => needBlock_no B w1 (hI.keep k) hok)
    rw [show B.heldA n = ((0, 0), 1) from say_arg hok]
    obtain ⟨mark, llo, lhi, clo, chi, ra, rc, rs⟩ := B
    obtain ⟨g0, g1, g2, g3, g4, g5⟩ := hB
    dsimp only [Wm.v] at *
    have hlb := lt_of_cell g0
    have k0 := (Keeps.refl w).alloc (.cells #[.int .i64 0, .int .i64 0] 23)
    clear hI hok
    go_enter Try.func58, Try.ntmps58
    go_wp2_with fail
    refine (N1.out _ k0).mono ?_
    rintro e w1 ⟨rfl, k1⟩
    exact ⟨rfl, Out.bad (e := 1) (by decide) ⟨rfl, k0.trans k1⟩⟩
  | true =>
    have N1 := Lib.hid (fun w1 (k : Keeps w w1) => needBlock_yes B w1 (hI.keep k) hok)
    have hL := Wm.ok_lim hok
    by_cases hs : 0 ≤ n ∧ n < B.rs.length
    · have N2 := Lib.hid (fun w1 => needReading_yes B n w1 hs.1 hs.2)
      cases ht : B.truths.isEmpty with
      | true =>
        have T1 := Lib.hid (fun w1 (k : Keeps w w1) => truths_b B w1 (hI.keep k) hok true ht)
        rw [show B.heldA n = ((0, 0), 10) from by unfold Wm.heldA; rw [if_pos hs]; exact say_none hok ht]
        obtain ⟨mark, llo, lhi, clo, chi, ra, rc, rs⟩ := B
        obtain ⟨g0, g1, g2, g3, g4, g5⟩ := hB
        dsimp only [Wm.v] at *
        have hlb := lt_of_cell g0
        simp only [if_true] at T1
        have k0 := (Keeps.refl w).alloc (.cells #[.int .i64 0, .int .i64 0] 23)
        clear hI hok hL hs ht
        have hmx : Try.prog.follows .mixedOrders = true := by kernel_rfl
        have hfw : ∀ f, Fence.wide.fn f := fun _ => trivial
        go_enter Try.func58, Try.ntmps58
        go_wp2_with fail
        refine (N1.out _ k0).mono ?_
        rintro e w1 ⟨rfl, k1⟩
        have k2 := k0.trans k1
        have e0 := k2.cell g0
        have e1 := k2.cell g1
        have e2 := k2.cell g2
        have e3 := k2.cell g3
        have e4 := k2.cell g4
        have e5 := k2.cell g5
        have hle := lt_of_cell e0
        have d0 := k2.cell c0
        have hld := lt_of_cell d0
        go_wp2_with fail
        refine (N2.out _).mono ?_
        rintro e w2 ⟨rfl, k3⟩
        have k4 := k2.trans k3
        replace e0 := k4.cell g0
        replace e1 := k4.cell g1
        replace e2 := k4.cell g2
        replace e3 := k4.cell g3
        replace e4 := k4.cell g4
        replace e5 := k4.cell g5
        replace hle := lt_of_cell e0
        have q0 := k4.cell c0
        have lq0 := lt_of_cell q0
        haveI : Nonempty (Since w2.drew) := Since.some _
        have k4d := k4.drew
        have j0 : ∀ q : Since w2.drew, q.W.cell? ⟨b0, 0, none⟩ = some (.int .i64 mark) := fun q => (k4d.trans q.keeps).cell g0
        have j1 : ∀ q : Since w2.drew, q.W.cell? ⟨b0, 1, none⟩ = some (.int .i64 llo) := fun q => (k4d.trans q.keeps).cell g1
        have j2 : ∀ q : Since w2.drew, q.W.cell? ⟨b0, 2, none⟩ = some (.int .i64 lhi) := fun q => (k4d.trans q.keeps).cell g2
        have j3 : ∀ q : Since w2.drew, q.W.cell? ⟨b0, 3, none⟩ = some (.int .i64 clo) := fun q => (k4d.trans q.keeps).cell g3
        have j4 : ∀ q : Since w2.drew, q.W.cell? ⟨b0, 4, none⟩ = some (.int .i64 chi) := fun q => (k4d.trans q.keeps).cell g4
        have j5 : ∀ q : Since w2.drew, q.W.cell? ⟨b0, 5, none⟩ = some (.slice ra rs.length rc) := fun q => (k4d.trans q.keeps).cell g5
        have jq0 : ∀ q : Since w2.drew, q.W.cell? ⟨b1, 0, none⟩ = some (.int .i64 n) := fun q => (k4d.trans q.keeps).cell c0
        go_wp2_with fail
        refine (wpIn_wide (n := 3)).1 ?_
        refine region_mix 10 [(0, [0, 2, 4]), (3, [1])] (fun _ => trivial) (fun _ _ _ _ hd h => ⟨hd.symm.trans h.1, h.2⟩) (by kernel_rfl) hmx (by kernel_rfl) (by kernel_rfl) ?_
        show wpQuietIn _ _ _ _ _ _ [_, _, _] _
        iterate 3 (gi_big_quiet_step (fail))
        refine wpQuietIn_nil ?_
        show wpListIn _ _ _ _ _ [_] _ _
        gi_wp2_with fail
        refine ((callsIn_wide (n := 3 - 1)).2 (T1.out _ k4d)).mono ?_
        rintro e wp ⟨rfl, k5⟩
        exact ⟨rfl, Out.bad (e := 10) (by decide) ⟨rfl, k4d.trans k5⟩⟩
      | false =>
        have T1 := Lib.hid (fun w1 (k : Keeps w w1) => truths_b B w1 (hI.keep k) hok false ht)
        have G1 := Lib.hid (fun w1 (k : Keeps w w1) => readings_at B w1 (hI.keep k) hok)
        rw [show B.heldA n = ((loI (B.heldL n.toNat), hiI (B.heldL n.toNat)), 0) from by unfold Wm.heldA; rw [if_pos hs]; exact say_yes hok ht]
        have hm1 := hL.m1
        have hm2 := hL.m2
        obtain ⟨m, rfl⟩ := Int.eq_ofNat_of_zero_le hs.1
        have hml : m < B.rs.length := by omega
        obtain ⟨r, hr⟩ : ∃ r, B.rs[m]?.getD (0, 0, 0, 0) = r := ⟨_, rfl⟩
        have hrw : okW r := by
          rw [← hr, List.getElem?_eq_getElem hml]
          exact vWr_okW ((vWrs_at (Wm.ok_reads hok)).2 _ (List.getElem_mem hml))
        obtain ⟨T, c, hrd⟩ := rdV_iface r
        unfold Wm.heldL
        rw [Int.toNat_natCast, hr]
        obtain ⟨ts, hts⟩ : ∃ ts, B.truths = ts := ⟨_, rfl⟩
        rw [hts] at T1 ⊢
        have R1 := Lib.hid (fun b1 b2 b w1 h1 h2 hP => reach_held b1 b2 b B.mark hm1 hm2 ts r hrw w1 h1 (by rw [hrd]; exact h2) hP)
        obtain ⟨lo, hlo⟩ : ∃ x, loI (ts.flatMap (fun p => warms B.mark p.1 r)) = x := ⟨_, rfl⟩
        obtain ⟨hi, hhi⟩ : ∃ x, hiI (ts.flatMap (fun p => warms B.mark p.1 r)) = x := ⟨_, rfl⟩
        rw [hlo, hhi] at R1 ⊢
        have HR := Lib.hid hr
        have HRd := Lib.hid hrd
        obtain ⟨mark, llo, lhi, clo, chi, ra, rc, rs⟩ := B
        obtain ⟨g0, g1, g2, g3, g4, g5⟩ := hB
        dsimp only [Wm.v] at *
        have hlb := lt_of_cell g0
        simp only [Bool.false_eq_true, if_false] at T1
        have k0 := (Keeps.refl w).alloc (.cells #[.int .i64 0, .int .i64 0] 23)
        clear hI hok hL hs ht hts hlo hhi hm1 hm2 hr hrd hrw
        have hmx : Try.prog.follows .mixedOrders = true := by kernel_rfl
        have hfw : ∀ f, Fence.wide.fn f := fun _ => trivial
        go_enter Try.func58, Try.ntmps58
        go_wp2_with fail
        refine (N1.out _ k0).mono ?_
        rintro e w1 ⟨rfl, k1⟩
        have k2 := k0.trans k1
        have e0 := k2.cell g0
        have e1 := k2.cell g1
        have e2 := k2.cell g2
        have e3 := k2.cell g3
        have e4 := k2.cell g4
        have e5 := k2.cell g5
        have hle := lt_of_cell e0
        have d0 := k2.cell c0
        have hld := lt_of_cell d0
        go_wp2_with fail
        refine (N2.out _).mono ?_
        rintro e w2 ⟨rfl, k3⟩
        have k4 := k2.trans k3
        replace e0 := k4.cell g0
        replace e1 := k4.cell g1
        replace e2 := k4.cell g2
        replace e3 := k4.cell g3
        replace e4 := k4.cell g4
        replace e5 := k4.cell g5
        replace hle := lt_of_cell e0
        have q0 := k4.cell c0
        have lq0 := lt_of_cell q0
        haveI : Nonempty (Since w2.drew) := Since.some _
        have k4d := k4.drew
        have j0 : ∀ q : Since w2.drew, q.W.cell? ⟨b0, 0, none⟩ = some (.int .i64 mark) := fun q => (k4d.trans q.keeps).cell g0
        have j1 : ∀ q : Since w2.drew, q.W.cell? ⟨b0, 1, none⟩ = some (.int .i64 llo) := fun q => (k4d.trans q.keeps).cell g1
        have j2 : ∀ q : Since w2.drew, q.W.cell? ⟨b0, 2, none⟩ = some (.int .i64 lhi) := fun q => (k4d.trans q.keeps).cell g2
        have j3 : ∀ q : Since w2.drew, q.W.cell? ⟨b0, 3, none⟩ = some (.int .i64 clo) := fun q => (k4d.trans q.keeps).cell g3
        have j4 : ∀ q : Since w2.drew, q.W.cell? ⟨b0, 4, none⟩ = some (.int .i64 chi) := fun q => (k4d.trans q.keeps).cell g4
        have j5 : ∀ q : Since w2.drew, q.W.cell? ⟨b0, 5, none⟩ = some (.slice ra rs.length rc) := fun q => (k4d.trans q.keeps).cell g5
        have jq0 : ∀ q : Since w2.drew, q.W.cell? ⟨b1, 0, none⟩ = some (.int .i64 ((m : Nat) : Int)) := fun q => (k4d.trans q.keeps).cell c0
        go_wp2_with fail
        refine (wpIn_wide (n := 3)).1 ?_
        refine region_mix 10 [(0, [0, 2, 4]), (1, [1]), (1, [3]), (0, [5, 6]), (1, [7]), (1, [8]), (1, [9]), (2, [10])] (fun _ => trivial) (fun _ _ _ _ hd h => ⟨hd.symm.trans h.1, h.2⟩) (by kernel_rfl) hmx (by kernel_rfl) (by kernel_rfl) ?_
        show wpQuietIn _ _ _ _ _ _ [_, _, _] _
        iterate 3 (gi_big_quiet_step (fail))
        refine wpQuietIn_nil ?_
        clear j0 j1 j2 j3 j4 j5 jq0
        show wpListIn _ _ _ _ _ [_] _ _
        gi_wp2_with fail
        rename_i hK_k5
        refine ((callsIn_wide (n := 3 - 1)).2 (T1.out _ k4d)).mono ?_
        rintro e w5 ⟨b, rfl, hP, k5, _⟩
        refine hK_k5 _ _ ⟨rfl, k5, ?_⟩
        show wpListIn _ _ _ _ _ [_] _ _
        gi_wp2_with fail
        rename_i hK_k6
        refine ((callsIn_wide (n := 3 - 1)).2 (G1.out _ (k4d.trans k5))).mono ?_
        rintro e w6 ⟨a, rfl, hg, _, k6⟩
        refine hK_k6 _ _ ⟨rfl, k6, ?_⟩
        obtain ⟨ba, oa, rfl, hci⟩ := hg (by intro e; rw [e] at hml; simp at hml)
        have cr := hci m hml
        rw [HR.out, HRd.out] at cr
        haveI : Nonempty (Since w6) := Since.some _
        have jc : ∀ q : Since w6, q.W.cell? ⟨ba, oa + m, none⟩ = some (.iface T (.agg c)) := fun q => q.keeps.cell cr
        clear hg hci
        show wpQuietIn _ _ _ _ _ _ [_, _] _
        iterate 2 (gi_big_quiet_step (fail))
        refine wpQuietIn_nil ?_
        show wpListIn _ _ _ _ _ [_] _ _
        gi_wp2_with fail
        rename_i hK_k7
        refine ((callsIn_wide (n := 3 - 1)).2 (heldAt_iface b T c w6)).mono ?_
        rintro e w7 ⟨rfl, k7, h1, h2⟩
        refine hK_k7 _ _ ⟨rfl, k7, ?_⟩
        have R2 := Lib.hid (R1.out _ _ _ w7 h1 h2 ((hP.keep k6).keep k7))
        show wpListIn _ _ _ _ _ [_] _ _
        gi_wp2_with fail
        rename_i hK_k8
        refine ((callsIn_wide (n := 3 - 1)).2 R2.out).mono ?_
        rintro e w8 ⟨rfl, k8⟩
        refine hK_k8 _ _ ⟨rfl, k8, ?_⟩
        show wpListIn _ _ _ _ _ [_] _ _
        gi_wp2_with fail
        rename_i hK_k9
        refine ((callsIn_wide (n := 3 - 1)).2 (span_any lo hi w8)).mono ?_
        rintro e w9 ⟨rfl, k9⟩
        refine hK_k9 _ _ ⟨rfl, k9, ?_⟩
        have kk := ((k1.trans (k3.drew.trans k5)).trans (k6.trans k7)).trans (k8.trans k9)
        have s0 : w9.cell? ⟨w.heap.size, 0, none⟩ = some (.int .i64 0) := kk.cell (by simp [go_sem])
        have s1 : w9.cell? ⟨w.heap.size, 1, none⟩ = some (.int .i64 0) := kk.cell (by simp [go_sem])
        have f0 : w9.frozen? ⟨w.heap.size, 0, none⟩ = false := by rw [kk.cells.2 _ _ (by simp)]; simp [go_sem]
        have f1 : w9.frozen? ⟨w.heap.size, 1, none⟩ = false := by rw [kk.cells.2 _ _ (by simp)]; simp [go_sem]
        have hls := lt_of_cell s0
        have h2 := (TwoI.set0 ⟨s0, s1, f0, f1⟩ lo).set1 hi
        show wpListIn _ _ _ _ _ [_] _ _
        gi_wp2_with fail
        unfold wpMix
        gi_wp2_with fail
        go_wp2_with fail
        refine bodyPost_ret (v := spV (lo, hi)) ?_ rfl (Out.ok ⟨rfl, ((k0.trans kk).setCell (p := ⟨w.heap.size, 0, none⟩) _ (Nat.le_refl _)).setCell (p := ⟨w.heap.size, 1, none⟩) _ (Nat.le_refl _)⟩)
        simp [results, Try.results58, go_sem, h2.c0, h2.c1, spV]
    · have N2 := Lib.hid (fun w1 => needReading_no B n w1 (by omega))
      rw [show B.heldA n = ((0, 0), 2) from by unfold Wm.heldA; rw [if_neg hs]; exact say_bad hok (by decide)]
      obtain ⟨mark, llo, lhi, clo, chi, ra, rc, rs⟩ := B
      obtain ⟨g0, g1, g2, g3, g4, g5⟩ := hB
      dsimp only [Wm.v] at *
      have hlb := lt_of_cell g0
      have k0 := (Keeps.refl w).alloc (.cells #[.int .i64 0, .int .i64 0] 23)
      clear hI hok hL hs
      go_enter Try.func58, Try.ntmps58
      go_wp2_with fail
      refine (N1.out _ k0).mono ?_
      rintro e w1 ⟨rfl, k1⟩
      have k2 := k0.trans k1
      have e0 := k2.cell g0
      have e1 := k2.cell g1
      have e2 := k2.cell g2
      have e3 := k2.cell g3
      have e4 := k2.cell g4
      have e5 := k2.cell g5
      have hle := lt_of_cell e0
      have d0 := k2.cell c0
      have hld := lt_of_cell d0
      go_wp2_with fail
      refine (N2.out _).mono ?_
      rintro e w2 ⟨rfl, k3⟩
      exact ⟨rfl, Out.bad (e := 2) (by decide) ⟨rfl, k2.trans k3⟩⟩
end Go.Proofs.Ytmhpgjlegajpeaa
