/-
  WARM: what each exported function tells; the inner functions of Length and Coeff.
-/
import Derived.Test.YtmhpgjlegajpeaaA3
import Derived.Test.YtmhpgjlegajpeaaA6
import Derived.Test.YtmhpgjlegajpeaaC7
import Derived.Test.YtmhpgjlegajpeaaC8
import Derived.Test.YtmhpgjlegajpeaaC9
import Derived.Test.YtmhpgjlegajpeaaD1
import Derived.Test.YtmhpgjlegajpeaaD7
namespace Go.Proofs.Ytmhpgjlegajpeaa
open Go.RowKit Go.Maps

/-- What is told of a block: an error and nothing else, or an answer. -/
def Wm.say {α : Type} (B : Wm) (bad : Int) (z v : α) : α × Int := if B.ok = false then (z, 1) else if bad ≠ 0 then (z, bad) else if B.truths.isEmpty then (z, 10) else (v, 0)
def Wm.lenA (B : Wm) : (Int × Int) × Int := B.say 0 (0, 0) (loI (B.truths.map (fun p => p.1.1)), hiI (B.truths.map (fun p => p.1.1)))
def Wm.coeffA (B : Wm) : (Int × Int) × Int := B.say 0 (0, 0) (loI (B.truths.map (fun p => p.1.2)), hiI (B.truths.map (fun p => p.1.2)))
def Wm.heldL (B : Wm) (n : Nat) : List Int := B.truths.flatMap (fun p => warms B.mark p.1 (B.rs[n]?.getD (0, 0, 0, 0)))
def Wm.heldA (B : Wm) (n : Int) : (Int × Int) × Int := B.say (if 0 ≤ n ∧ n < B.rs.length then 0 else 2) (0, 0) (loI (B.heldL n.toNat), hiI (B.heldL n.toNat))
def Wm.showL (B : Wm) (lo hi : Int) : List Int := B.truths.flatMap (fun p => shTo B.mark lo p (hi + 1 - lo).toNat)
def Wm.showsA (B : Wm) (lo hi : Int) : (Int × Int) × Int := B.say (if inS lo hi (-100) 100 then 0 else 2) (0, 0) (loI (B.showL lo hi), hiI (B.showL lo hi))
def Wm.roomA (B : Wm) (off : Int) : Int × Int := B.say (if 0 ≤ off ∧ off ≤ 30000 then 0 else 2) 0 (widest B.mark off B.truths : Int)
def Wm.countA (B : Wm) : Int × Int := if B.ok then ((B.truths.length : Int), 0) else (0, 1)
def offersE (xs : List Int) : Int := if 6 < xs.length then 3 else if xs ≠ [] ∧ xs.all okOffer = true then 0 else 2
def Wm.nextA (B : Wm) (xs : List Int) : (Int × Int) × Int := B.say (offersE xs) (0, 0) (bestOf (fun t => (alike B.mark t B.truths : Int)) xs)
def Wm.clashA (B : Wm) : Int × Int := if B.ok then (match B.few with | some s => ((s : Int), 0) | none => (0, 4)) else (0, 1)
def spV (s : Int × Int) : Value := .agg #[.int .i64 s.1, .int .i64 s.2]
/-- An inner function returns a value, or panics with an error. -/
def Out (v : Value) (e : Int) (w : World) : Ending → World → Prop := if e = 0 then Ret v w else Pan e w
theorem Out.ok {v : Value} {w : World} {x : Ending} {w' : World} (h : Ret v w x w') : Out v 0 w x w' := by unfold Out; rw [if_pos rfl]; exact h
theorem Out.bad {v : Value} {e : Int} (he : e ≠ 0) {w : World} {x : Ending} {w' : World} (h : Pan e w x w') : Out v e w x w' := by unfold Out; rw [if_neg he]; exact h
theorem say_arg {α : Type} {B : Wm} {bad : Int} {z v : α} (h : B.ok = false) : B.say bad z v = (z, 1) := by simp [Wm.say, h]
theorem say_bad {α : Type} {B : Wm} {bad : Int} {z v : α} (h : B.ok = true) (hb : bad ≠ 0) : B.say bad z v = (z, bad) := by simp [Wm.say, h, hb]
theorem say_none {α : Type} {B : Wm} {z v : α} (h : B.ok = true) (ht : B.truths.isEmpty = true) : B.say 0 z v = (z, 10) := by simp [Wm.say, h, ht]
theorem say_yes {α : Type} {B : Wm} {z v : α} (h : B.ok = true) (ht : B.truths.isEmpty = false) : B.say 0 z v = (v, 0) := by simp [Wm.say, h, ht]

set_option maxHeartbeats 1600000 in
theorem Length1_out (B : Wm) (b0 : Nat) (w : World) (hB : B.Box w b0) (hI : B.In w) : Calls Try.prog 47 #[.pointer (some ⟨b0, 0, none⟩)] w (Out (spV B.lenA.1) B.lenA.2 w) := by
  cases hok : B.ok with
  | false =>
    have N1 := Lib.hid (fun w1 (k : Keeps w w1) => needBlock_no B w1 (hI.keep k) hok)
    rw [show B.lenA = ((0, 0), 1) from say_arg hok]
    obtain ⟨mark, llo, lhi, clo, chi, ra, rc, rs⟩ := B
    obtain ⟨g0, g1, g2, g3, g4, g5⟩ := hB
    dsimp only [Wm.v] at *
    have hlb := lt_of_cell g0
    have k0 := (Keeps.refl w).alloc (.cells #[.int .i64 0, .int .i64 0] 23)
    clear hI hok
    go_enter Try.func47, Try.ntmps47
    go_wp2_with fail
    refine (N1.out _ k0).mono ?_
    rintro e w1 ⟨rfl, k1⟩
    exact ⟨rfl, Out.bad (e := 1) (by decide) ⟨rfl, k0.trans k1⟩⟩
  | true =>
    have N1 := Lib.hid (fun w1 (k : Keeps w w1) => needBlock_yes B w1 (hI.keep k) hok)
    have hL := Wm.ok_lim hok
    cases ht : B.truths.isEmpty with
    | true =>
      have T1 := Lib.hid (fun w1 (k : Keeps w w1) => truths_b B w1 (hI.keep k) hok true ht)
      rw [show B.lenA = ((0, 0), 10) from say_none hok ht]
      obtain ⟨mark, llo, lhi, clo, chi, ra, rc, rs⟩ := B
      obtain ⟨g0, g1, g2, g3, g4, g5⟩ := hB
      dsimp only [Wm.v] at *
      have hlb := lt_of_cell g0
      simp only [if_true] at T1
      have k0 := (Keeps.refl w).alloc (.cells #[.int .i64 0, .int .i64 0] 23)
      clear hI hok ht hL
      go_enter Try.func47, Try.ntmps47
      go_wp2_with fail
      refine (N1.out _ k0).mono ?_
      rintro e w1 ⟨rfl, k1⟩
      have k2 := k0.trans k1
      have e0 := k2.cell g0
      have e1 := k2.cell g1
      have e2 := k2.cell g2
      have e3 := k2.cell g3
      have e4 := k2.cell g4
      have e5 := k2.cell g5
      have hle := lt_of_cell e0
      go_wp2_with fail
      refine (T1.out _ k2).mono ?_
      rintro e w2 ⟨rfl, k3⟩
      exact ⟨rfl, Out.bad (e := 10) (by decide) ⟨rfl, k2.trans k3⟩⟩
    | false =>
      have T1 := Lib.hid (fun w1 (k : Keeps w w1) => truths_b B w1 (hI.keep k) hok false ht)
      rw [show B.lenA = ((loI (B.truths.map (fun p => p.1.1)), hiI (B.truths.map (fun p => p.1.1))), 0) from say_yes hok ht]
      have hm1 := hL.m1
      have hm2 := hL.m2
      obtain ⟨ts, hts⟩ : ∃ ts, B.truths = ts := ⟨_, rfl⟩
      rw [hts] at T1 ⊢
      have R1 := Lib.hid (fun b1 b2 b w1 h1 h2 hP => reach_each b1 b2 b B.mark hm1 hm2 ts 52 (fun p => p.1.1) enter_howLong (fun p w => howLong_any B.mark p w) w1 h1 h2 hP)
      obtain ⟨lo, hlo⟩ : ∃ x, loI (ts.map (fun p => p.1.1)) = x := ⟨_, rfl⟩
      obtain ⟨hi, hhi⟩ : ∃ x, hiI (ts.map (fun p => p.1.1)) = x := ⟨_, rfl⟩
      rw [hlo, hhi] at R1 ⊢
      obtain ⟨mark, llo, lhi, clo, chi, ra, rc, rs⟩ := B
      obtain ⟨g0, g1, g2, g3, g4, g5⟩ := hB
      dsimp only [Wm.v] at *
      have hlb := lt_of_cell g0
      simp only [Bool.false_eq_true, if_false] at T1
      have k0 := (Keeps.refl w).alloc (.cells #[.int .i64 0, .int .i64 0] 23)
      clear hI hok ht hL hts hlo hhi hm1 hm2
      go_enter Try.func47, Try.ntmps47
      go_wp2_with fail
      refine (N1.out _ k0).mono ?_
      rintro e w1 ⟨rfl, k1⟩
      have k2 := k0.trans k1
      have e0 := k2.cell g0
      have e1 := k2.cell g1
      have e2 := k2.cell g2
      have e3 := k2.cell g3
      have e4 := k2.cell g4
      have e5 := k2.cell g5
      have hle := lt_of_cell e0
      go_wp2_with fail
      refine (T1.out _ k2).mono ?_
      rintro e w2 ⟨b, rfl, hP, k3, _⟩
      go_wp2_with fail
      refine (each_any b 52 w2).mono ?_
      rintro e w3 ⟨rfl, k4, h1, h2⟩
      have R2 := Lib.hid (R1.out _ _ _ w3 h1 h2 (hP.keep k4))
      go_wp2_with fail
      refine R2.out.mono ?_
      rintro e w4 ⟨rfl, k5⟩
      go_wp2_with fail
      refine (span_any lo hi w4).mono ?_
      rintro e w9 ⟨rfl, k6⟩
      have kk := ((k1.trans k3).trans k4).trans (k5.trans k6)
      have s0 : w9.cell? ⟨w.heap.size, 0, none⟩ = some (.int .i64 0) := kk.cell (by simp [go_sem])
      have s1 : w9.cell? ⟨w.heap.size, 1, none⟩ = some (.int .i64 0) := kk.cell (by simp [go_sem])
      have f0 : w9.frozen? ⟨w.heap.size, 0, none⟩ = false := by rw [kk.cells.2 _ _ (by simp)]; simp [go_sem]
      have f1 : w9.frozen? ⟨w.heap.size, 1, none⟩ = false := by rw [kk.cells.2 _ _ (by simp)]; simp [go_sem]
      have hls := lt_of_cell s0
      have h2 := (TwoI.set0 ⟨s0, s1, f0, f1⟩ lo).set1 hi
      go_wp2_with fail
      refine bodyPost_ret (v := spV (lo, hi)) ?_ rfl (Out.ok ⟨rfl, ((k0.trans kk).setCell (p := ⟨w.heap.size, 0, none⟩) _ (Nat.le_refl _)).setCell (p := ⟨w.heap.size, 1, none⟩) _ (Nat.le_refl _)⟩)
      simp [results, Try.results47, go_sem, h2.c0, h2.c1, spV]
set_option maxHeartbeats 1600000 in
theorem Coeff1_out (B : Wm) (b0 : Nat) (w : World) (hB : B.Box w b0) (hI : B.In w) : Calls Try.prog 56 #[.pointer (some ⟨b0, 0, none⟩)] w (Out (spV B.coeffA.1) B.coeffA.2 w) := by
  cases hok : B.ok with
  | false =>
    have N1 := Lib.hid (fun w1 (k : Keeps w w1) => needBlock_no B w1 (hI.keep k) hok)
    rw [show B.coeffA = ((0, 0), 1) from say_arg hok]
    obtain ⟨mark, llo, lhi, clo, chi, ra, rc, rs⟩ := B
    obtain ⟨g0, g1, g2, g3, g4, g5⟩ := hB
    dsimp only [Wm.v] at *
    have hlb := lt_of_cell g0
    have k0 := (Keeps.refl w).alloc (.cells #[.int .i64 0, .int .i64 0] 23)
    clear hI hok
    go_enter Try.func56, Try.ntmps56
    go_wp2_with fail
    refine (N1.out _ k0).mono ?_
    rintro e w1 ⟨rfl, k1⟩
    exact ⟨rfl, Out.bad (e := 1) (by decide) ⟨rfl, k0.trans k1⟩⟩
  | true =>
    have N1 := Lib.hid (fun w1 (k : Keeps w w1) => needBlock_yes B w1 (hI.keep k) hok)
    have hL := Wm.ok_lim hok
    cases ht : B.truths.isEmpty with
    | true =>
      have T1 := Lib.hid (fun w1 (k : Keeps w w1) => truths_b B w1 (hI.keep k) hok true ht)
      rw [show B.coeffA = ((0, 0), 10) from say_none hok ht]
      obtain ⟨mark, llo, lhi, clo, chi, ra, rc, rs⟩ := B
      obtain ⟨g0, g1, g2, g3, g4, g5⟩ := hB
      dsimp only [Wm.v] at *
      have hlb := lt_of_cell g0
      simp only [if_true] at T1
      have k0 := (Keeps.refl w).alloc (.cells #[.int .i64 0, .int .i64 0] 23)
      clear hI hok ht hL
      go_enter Try.func56, Try.ntmps56
      go_wp2_with fail
      refine (N1.out _ k0).mono ?_
      rintro e w1 ⟨rfl, k1⟩
      have k2 := k0.trans k1
      have e0 := k2.cell g0
      have e1 := k2.cell g1
      have e2 := k2.cell g2
      have e3 := k2.cell g3
      have e4 := k2.cell g4
      have e5 := k2.cell g5
      have hle := lt_of_cell e0
      go_wp2_with fail
      refine (T1.out _ k2).mono ?_
      rintro e w2 ⟨rfl, k3⟩
      exact ⟨rfl, Out.bad (e := 10) (by decide) ⟨rfl, k2.trans k3⟩⟩
    | false =>
      have T1 := Lib.hid (fun w1 (k : Keeps w w1) => truths_b B w1 (hI.keep k) hok false ht)
      rw [show B.coeffA = ((loI (B.truths.map (fun p => p.1.2)), hiI (B.truths.map (fun p => p.1.2))), 0) from say_yes hok ht]
      have hm1 := hL.m1
      have hm2 := hL.m2
      obtain ⟨ts, hts⟩ : ∃ ts, B.truths = ts := ⟨_, rfl⟩
      rw [hts] at T1 ⊢
      have R1 := Lib.hid (fun b1 b2 b w1 h1 h2 hP => reach_each b1 b2 b B.mark hm1 hm2 ts 57 (fun p => p.1.2) enter_howMuch (fun p w => howMuch_any B.mark p w) w1 h1 h2 hP)
      obtain ⟨lo, hlo⟩ : ∃ x, loI (ts.map (fun p => p.1.2)) = x := ⟨_, rfl⟩
      obtain ⟨hi, hhi⟩ : ∃ x, hiI (ts.map (fun p => p.1.2)) = x := ⟨_, rfl⟩
      rw [hlo, hhi] at R1 ⊢
      obtain ⟨mark, llo, lhi, clo, chi, ra, rc, rs⟩ := B
      obtain ⟨g0, g1, g2, g3, g4, g5⟩ := hB
      dsimp only [Wm.v] at *
      have hlb := lt_of_cell g0
      simp only [Bool.false_eq_true, if_false] at T1
      have k0 := (Keeps.refl w).alloc (.cells #[.int .i64 0, .int .i64 0] 23)
      clear hI hok ht hL hts hlo hhi hm1 hm2
      go_enter Try.func56, Try.ntmps56
      go_wp2_with fail
      refine (N1.out _ k0).mono ?_
      rintro e w1 ⟨rfl, k1⟩
      have k2 := k0.trans k1
      have e0 := k2.cell g0
      have e1 := k2.cell g1
      have e2 := k2.cell g2
      have e3 := k2.cell g3
      have e4 := k2.cell g4
      have e5 := k2.cell g5
      have hle := lt_of_cell e0
      go_wp2_with fail
      refine (T1.out _ k2).mono ?_
      rintro e w2 ⟨b, rfl, hP, k3, _⟩
      go_wp2_with fail
      refine (each_any b 57 w2).mono ?_
      rintro e w3 ⟨rfl, k4, h1, h2⟩
      have R2 := Lib.hid (R1.out _ _ _ w3 h1 h2 (hP.keep k4))
      go_wp2_with fail
      refine R2.out.mono ?_
      rintro e w4 ⟨rfl, k5⟩
      go_wp2_with fail
      refine (span_any lo hi w4).mono ?_
      rintro e w9 ⟨rfl, k6⟩
      have kk := ((k1.trans k3).trans k4).trans (k5.trans k6)
      have s0 : w9.cell? ⟨w.heap.size, 0, none⟩ = some (.int .i64 0) := kk.cell (by simp [go_sem])
      have s1 : w9.cell? ⟨w.heap.size, 1, none⟩ = some (.int .i64 0) := kk.cell (by simp [go_sem])
      have f0 : w9.frozen? ⟨w.heap.size, 0, none⟩ = false := by rw [kk.cells.2 _ _ (by simp)]; simp [go_sem]
      have f1 : w9.frozen? ⟨w.heap.size, 1, none⟩ = false := by rw [kk.cells.2 _ _ (by simp)]; simp [go_sem]
      have hls := lt_of_cell s0
      have h2 := (TwoI.set0 ⟨s0, s1, f0, f1⟩ lo).set1 hi
      go_wp2_with fail
      refine bodyPost_ret (v := spV (lo, hi)) ?_ rfl (Out.ok ⟨rfl, ((k0.trans kk).setCell (p := ⟨w.heap.size, 0, none⟩) _ (Nat.le_refl _)).setCell (p := ⟨w.heap.size, 1, none⟩) _ (Nat.le_refl _)⟩)
      simp [results, Try.results56, go_sem, h2.c0, h2.c1, spV]
end Go.Proofs.Ytmhpgjlegajpeaa
