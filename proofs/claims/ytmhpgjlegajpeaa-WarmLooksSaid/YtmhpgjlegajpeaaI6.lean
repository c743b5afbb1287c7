/-
  The document's own package, of WARM: all pairs; what is told, or why not.
-/
import Derived.Test.YtmhpgjlegajpeaaI5
import Derived.Test.YtmhpgjlegajpeaaH2
import Derived.Test.YtmhpgjlegajpeaaD8
namespace Go.Proofs.Ytmhpgjlegajpeaa
open Go.RowKit Go.Shelf
attribute [local go_sem] Oper.semAt_some

theorem byL_eq (B : Wm) (s : Nat) : B.byL s = B.leftBy (wo B.rs s) := by
  unfold Wm.byL Wm.leftBy
  refine List.filter_congr fun p _ => ?_
  rw [← ptL_wo, okAll, ptL, List.all_map, List.all_filter]
  rfl
theorem byL_all {B : Wm} (h : B.rs.length ≤ 5) : B.byL (2 ^ B.rs.length - 1) = B.truths := by
  rw [byL_eq, wo_full _ (by omega)]; rfl
theorem byL_none {B : Wm} (s : Nat) : ((B.byL s).length == 0) = B.clB s := by
  rw [byL_eq, Wm.clB, Bool.eq_iff_iff, beq_iff_eq, List.isEmpty_iff, List.length_eq_zero_iff]
set_option maxHeartbeats 1600000 in
theorem refAllPairs_any (B : Wm) (w : World) (hI : B.In w) (hok : B.ok = true) : Calls Try.prog 77 #[B.v] w (RetPs B.truths w) := by
  have hrl := (ok_rs hok).1
  have EV := Lib.hid (fun w1 => refEvery_any B hrl w1)
  have PS := Lib.hid (fun w1 (k : Keeps w w1) => refPairs_any B (2 ^ B.rs.length - 1) w1 (hI.keep k) hok (by have := pow_le5 _ hrl; have := Nat.pow_pos (a := 2) (n := B.rs.length) (by omega); omega))
  rw [byL_all hrl] at PS
  obtain ⟨T, hT⟩ : ∃ T, B.truths = T := ⟨_, rfl⟩
  rw [hT] at PS ⊢
  obtain ⟨E, hE⟩ : ∃ E : Nat, 2 ^ B.rs.length - 1 = E := ⟨_, rfl⟩
  rw [hE] at PS EV
  have BX := Wm.Box.new B w
  obtain ⟨mark, llo, lhi, clo, chi, ra, rc, rs⟩ := B
  dsimp only [Wm.v] at *
  clear hI hok hT hE
  have hmx : Try.prog.follows .mixedOrders = true := by kernel_rfl
  obtain ⟨W, hW⟩ : ∃ W, w.alloc (.cells #[.int .i64 mark, .int .i64 llo, .int .i64 lhi, .int .i64 clo, .int .i64 chi, .slice ra rs.length rc] 26) = W := ⟨_, rfl⟩
  rw [hW] at BX
  have kB : Keeps w W := by rw [← hW]; exact (Keeps.refl _).alloc _
  obtain ⟨g0, g1, g2, g3, g4, g5⟩ := BX
  dsimp only at g0 g1 g2 g3 g4 g5
  have kd := (Keeps.refl W).drew
  haveI : Nonempty (Since W.drew) := Since.some _
  have j0 : ∀ q : Since W.drew, q.W.cell? ⟨w.heap.size, 0, none⟩ = some (.int .i64 mark) := fun q => (kd.trans q.keeps).cell g0
  have j1 : ∀ q : Since W.drew, q.W.cell? ⟨w.heap.size, 1, none⟩ = some (.int .i64 llo) := fun q => (kd.trans q.keeps).cell g1
  have j2 : ∀ q : Since W.drew, q.W.cell? ⟨w.heap.size, 2, none⟩ = some (.int .i64 lhi) := fun q => (kd.trans q.keeps).cell g2
  have j3 : ∀ q : Since W.drew, q.W.cell? ⟨w.heap.size, 3, none⟩ = some (.int .i64 clo) := fun q => (kd.trans q.keeps).cell g3
  have j4 : ∀ q : Since W.drew, q.W.cell? ⟨w.heap.size, 4, none⟩ = some (.int .i64 chi) := fun q => (kd.trans q.keeps).cell g4
  have j5 : ∀ q : Since W.drew, q.W.cell? ⟨w.heap.size, 5, none⟩ = some (.slice ra rs.length rc) := fun q => (kd.trans q.keeps).cell g5
  go_enter Try.func77, Try.ntmps77
  go_wp2_with fail
  refine (wpIn_wide (n := 3)).1 ?_
  refine region_calm 5 [(0, [0, 1]), (1, [2]), (1, [3]), (0, [4])] (fun _ => trivial) (by kernel_rfl) hmx (by kernel_rfl) (by kernel_rfl) ?_
  show wpQuietIn _ _ _ _ _ _ [_, _] _
  iterate 2 (gi_big_quiet_step (fail))
  refine wpQuietIn_nil ?_
  clear j0 j1 j2 j3 j4 j5
  show wpListIn _ _ _ _ _ [_] _ _
  gi_wp2_with fail
  rename_i hK
  refine ⟨trivial, ((callsIn_wide (n := 3 - 1)).2 (EV.out _)).mono ?_⟩
  rintro e w3 ⟨rfl, k3⟩
  refine hK _ _ ⟨rfl, k3, ?_⟩
  clear hK
  show wpListIn _ _ _ _ _ [_] _ _
  gi_wp2_with fail
  rename_i hK
  refine ⟨trivial, ((callsIn_wide (n := 3 - 1)).2 (PS.out _ ((kB.trans kd).trans k3))).mono ?_⟩
  rintro e w4 ⟨⟨a, cap, rfl, hP⟩, k4⟩
  refine hK _ _ ⟨rfl, k4, ?_⟩
  clear hK
  have HP := Lib.hid hP
  clear hP
  haveI : Nonempty (Since w4) := Since.some _
  show wpQuietIn _ _ _ _ _ _ [_] _
  iterate 1 (gi_big_quiet_step (fail))
  refine wpQuietIn_nil ?_
  unfold wpMix
  refine ⟨rfl, ?_⟩
  go_wp2_with fail
  go_ret
  exact ⟨⟨a, cap, rfl, HP.out⟩, ((kB.trans kd).trans k3).trans k4⟩

/-- Why nothing is told, or 0. -/
def Wm.errA (B : Wm) (bad : Int) : Int := (B.say bad () ()).2
def Wm.toldL (B : Wm) (bad : Int) : List Pr := if B.errA bad = 0 then B.truths else []
theorem say_err {α : Type} (B : Wm) (bad : Int) (z v : α) : B.say bad z v = if B.errA bad = 0 then (v, 0) else (z, B.errA bad) := by
  unfold Wm.errA Wm.say
  by_cases h1 : B.ok = false
  · simp [h1]
  · rw [if_neg h1, if_neg h1]
    by_cases h2 : bad = 0
    · subst h2
      by_cases h3 : B.truths.isEmpty
      · simp [h3]
      · simp [h3]
    · simp [h2]
theorem errA_ok {B : Wm} {bad : Int} (h : B.errA bad = 0) : B.ok = true ∧ bad = 0 ∧ B.truths.isEmpty = false := by
  unfold Wm.errA Wm.say at h
  by_cases h1 : B.ok = false
  · simp [h1] at h
  · rw [if_neg h1] at h
    by_cases h2 : bad = 0
    · subst h2
      by_cases h3 : B.truths.isEmpty
      · simp [h3] at h
      · exact ⟨by simpa using h1, rfl, by simpa using h3⟩
    · simp [h2] at h
/-- Pairs are returned, and why there are none. -/
def RetTold (L : List Pr) (E : Int) (w : World) (e : Ending) (w' : World) : Prop := (∃ a cap, e = .returned (.tuple #[.slice a L.length cap, .int .i64 E]) ∧ Prs w' a L) ∧ Keeps w w'
theorem RetTold.no {B : Wm} {bad E : Int} {w w' : World} (h : B.errA bad = E) (hE : E ≠ 0) (k : Keeps w w') : RetTold (B.toldL bad) (B.errA bad) w (.returned (.tuple #[.slice none 0 0, .int .i64 E])) w' :=
  ⟨⟨none, 0, by rw [Wm.toldL, h, if_neg hE]; rfl, by rw [Wm.toldL, h, if_neg hE]; exact fun h => absurd rfl h⟩, k⟩
def badA (many : Int) (valid : Bool) : Int := if 6 < many then 3 else if valid then 0 else 2
set_option maxHeartbeats 1600000 in
theorem refTold_any (B : Wm) (many : Int) (valid : Bool) (w : World) (hI : B.In w) : Calls Try.prog 54 #[B.v, .int .i64 many, .bool valid] w (RetTold (B.toldL (badA many valid)) (B.errA (badA many valid)) w) := by
  have WM := Lib.hid (fun w1 (k : Keeps w w1) => refWarm_any B w1 (hI.keep k))
  obtain ⟨bad, hbad⟩ : ∃ b, badA many valid = b := ⟨_, rfl⟩
  have HNO := Lib.hid (fun E w' (h : B.errA bad = E) hE (k : Keeps w w') => RetTold.no h hE k)
  have BX := Wm.Box.new B w
  rw [hbad]
  have h1 : B.ok = false → B.errA bad = 1 := fun h => by rw [Wm.errA, say_arg h]
  have h2 : B.ok = true → bad ≠ 0 → B.errA bad = bad := fun h hb => by rw [Wm.errA, say_bad h hb]
  have h3 : B.ok = true → bad = 0 → B.truths.isEmpty = true → B.errA bad = 10 := fun h hb ht => by subst hb; rw [Wm.errA, say_none h ht]
  have h4 : B.ok = true → bad = 0 → B.truths.isEmpty = false → B.errA bad = 0 ∧ B.toldL bad = B.truths := fun h hb ht => by
    have e : B.errA bad = 0 := by subst hb; rw [Wm.errA, say_yes h ht]
    exact ⟨e, by rw [Wm.toldL, if_pos e]⟩
  have AP := Lib.hid (fun w1 (k : Keeps w w1) (hok : B.ok = true) => refAllPairs_any B w1 (hI.keep k) hok)
  obtain ⟨T, hT⟩ : ∃ T, B.truths = T := ⟨_, rfl⟩
  rw [hT] at h3 h4 AP
  obtain ⟨E, hE⟩ : ∃ E, B.errA bad = E := ⟨_, rfl⟩
  obtain ⟨L, hL⟩ : ∃ L, B.toldL bad = L := ⟨_, rfl⟩
  rw [hE, hL] at HNO h4 ⊢
  rw [hE] at h1 h2 h3
  obtain ⟨ok, hok⟩ : ∃ b, B.ok = b := ⟨_, rfl⟩
  rw [hok] at WM AP h1 h2 h3 h4
  have H1 := Lib.hid h1
  have H2 := Lib.hid h2
  have H3 := Lib.hid h3
  have H4 := Lib.hid h4
  obtain ⟨mark, llo, lhi, clo, chi, ra, rc, rs⟩ := B
  dsimp only [Wm.v] at *
  clear hI hok hT hE hL h1 h2 h3 h4
  obtain ⟨W, hW⟩ : ∃ W, w.alloc (.cells #[.int .i64 mark, .int .i64 llo, .int .i64 lhi, .int .i64 clo, .int .i64 chi, .slice ra rs.length rc] 26) = W := ⟨_, rfl⟩
  rw [hW] at BX
  have kB : Keeps w W := by rw [← hW]; exact (Keeps.refl _).alloc _
  obtain ⟨g0, g1, g2, g3, g4, g5⟩ := BX
  dsimp only at g0 g1 g2 g3 g4 g5
  have HB := Lib.hid hbad
  clear hbad
  cases ok with
  | false =>
    go_enter Try.func54, Try.ntmps54
    go_wp2_with fail
    refine (WM.out _ kB).mono ?_
    rintro e w1 ⟨rfl, k1⟩
    go_wp2_with fail
    refine bodyPost_ret (v := .tuple #[.slice none 0 0, .int .i64 1]) ?_ rfl (HNO.out 1 _ (H1.out (by simp)) (by decide) (kB.trans k1))
    simp [results, Try.results54, go_sem]
  | true =>
    by_cases hm : 6 < many
    · have hbd : bad = 3 := by rw [← HB.out, badA, if_pos hm]
      go_enter Try.func54, Try.ntmps54
      go_wp2_with fail
      refine (WM.out _ kB).mono ?_
      rintro e w1 ⟨rfl, k1⟩
      go_wp2_with fail
      refine bodyPost_ret (v := .tuple #[.slice none 0 0, .int .i64 3]) ?_ rfl (HNO.out 3 _ ((H2.out (by simp) (by omega)).trans hbd) (by decide) (kB.trans k1))
      simp [results, Try.results54, go_sem]
    · cases valid with
      | false =>
        have hbd : bad = 2 := by rw [← HB.out, badA, if_neg hm]; rfl
        go_enter Try.func54, Try.ntmps54
        go_wp2_with fail
        refine (WM.out _ kB).mono ?_
        rintro e w1 ⟨rfl, k1⟩
        go_wp2_with fail
        refine bodyPost_ret (v := .tuple #[.slice none 0 0, .int .i64 2]) ?_ rfl (HNO.out 2 _ ((H2.out (by simp) (by omega)).trans hbd) (by decide) (kB.trans k1))
        simp [results, Try.results54, go_sem]
      | true =>
        have hbd : bad = 0 := by rw [← HB.out, badA, if_neg hm]; rfl
        have HBD := Lib.hid hbd
        clear hbd
        go_enter Try.func54, Try.ntmps54
        go_wp2_with fail
        refine (WM.out _ kB).mono ?_
        rintro e w1 ⟨rfl, k1⟩
        replace g0 := k1.cell g0
        replace g1 := k1.cell g1
        replace g2 := k1.cell g2
        replace g3 := k1.cell g3
        replace g4 := k1.cell g4
        replace g5 := k1.cell g5
        have hl1 := lt_of_cell g0
        go_wp2_with fail
        refine (AP.out _ (kB.trans k1) (by simp)).mono ?_
        rintro e w2 ⟨⟨a, cap, rfl, hP⟩, k2⟩
        have HP := Lib.hid hP
        clear hP
        by_cases hz : T = []
        · subst hz
          go_wp2_with fail
          refine bodyPost_ret (v := .tuple #[.slice none 0 0, .int .i64 10]) ?_ rfl (HNO.out 10 _ (H3.out (by simp) HBD.out (by simp)) (by decide) ((kB.trans k1).trans k2))
          simp [results, Try.results54, go_sem]
        · have hpos := List.length_pos_iff.2 hz
          obtain ⟨e1, e2⟩ := H4.out (by simp) HBD.out (by cases T with | nil => exact absurd rfl hz | cons _ _ => rfl)
          subst e1
          subst e2
          have hne : ((L.length : Int) == 0) = false := by rw [beq_eq_false_iff_ne]; omega
          clear hz
          go_wp2_with fail
          refine bodyPost_ret (v := .tuple #[.slice a L.length cap, .int .i64 0]) ?_ rfl ⟨⟨a, cap, rfl, HP.out⟩, (kB.trans k1).trans k2⟩
          simp [results, Try.results54, go_sem]
end Go.Proofs.Ytmhpgjlegajpeaa
