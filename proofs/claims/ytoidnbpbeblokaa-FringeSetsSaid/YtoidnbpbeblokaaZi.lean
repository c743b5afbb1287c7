/-
  FringeSets answers true for every fringe: Ask, Wrong and Clash return the document's own colours, numbers and readings. No condition.
-/
import Derived.Test.YtoidnbpbeblokaaZk
import Derived.Test.YtoidnbpbeblokaaZo
import Derived.Test.YtoidnbpbeblokaaPg
namespace Go.Proofs.Ytoidnbpbeblokaa
open Go.ChangeShapes Go.WideShapes Go.ChangeAt Go.RowKit

set_option maxRecDepth 100000 in
set_option maxHeartbeats 1600000 in
theorem sets_long (F : Fr) (w : World) (hI : F.In w) (h : F.long = true) : Calls Try.prog 3 #[F.v] w (RetB true w) := by
  have AL := Lib.hid alive_any
  have LG := Lib.hid (fun w1 => long_any F w1 hI.wl hI.rl)
  rw [h] at LG
  obtain ⟨wa, wc, ws, lo, hi, ra, rc, rs⟩ := F
  dsimp only [Fr.v] at *
  clear h hI
  go_enter Try.func3, Try.ntmps3
  go_wp2_with fail
  refine (LG.out _).mono ?_
  rintro e w1 ⟨rfl, k1⟩
  go_wp2_with fail
  refine (AL.out _).mono ?_
  rintro e w2 ⟨rfl, k2⟩
  go_wp2_with fail
  go_ret
  exact ⟨rfl, (((Keeps.refl w).alloc _).trans k1).trans k2⟩
set_option maxRecDepth 100000 in
set_option maxHeartbeats 3200000 in
theorem sets_same (F : Fr) (w : World) (hI : F.In w) (h : F.long = false) : Calls Try.prog 3 #[F.v] w (RetB true w) := by
  have AL := Lib.hid alive_any
  have LG := Lib.hid (fun w1 => long_any F w1 hI.wl hI.rl)
  rw [h] at LG
  have AK := Lib.hid (fun w1 (k : Keeps w w1) => Ask_any F w1 (hI.keep k))
  have RA := Lib.hid (fun w1 (k : Keeps w w1) => refAsk_any F w1 (hI.keep k))
  have WR := Lib.hid (fun w1 (k : Keeps w w1) => Wrong_any F w1 (hI.keep k))
  have RW := Lib.hid (fun w1 (k : Keeps w w1) => refWrong_any F w1 (hI.keep k))
  have CL := Lib.hid (fun w1 (k : Keeps w w1) => Clash_any F w1 (hI.keep k))
  have RC := Lib.hid (fun w1 (k : Keeps w w1) => refClash_any F w1 (hI.keep k))
  obtain ⟨⟨⟨c, l⟩, e1⟩, ha⟩ : ∃ a, askR F = a := ⟨_, rfl⟩
  rw [ha] at AK RA
  obtain ⟨⟨s, e2⟩, hw⟩ : ∃ a, wrongR F = a := ⟨_, rfl⟩
  rw [hw] at WR RW
  obtain ⟨⟨t, e3⟩, hc⟩ : ∃ a, clashR F = a := ⟨_, rfl⟩
  rw [hc] at CL RC
  dsimp only at AK RA WR RW CL RC
  obtain ⟨p, hp⟩ : ∃ p, pop s = p := ⟨_, rfl⟩
  rw [hp] at WR RW
  obtain ⟨wa, wc, ws, lo, hi, ra, rc, rs⟩ := F
  dsimp only [Fr.v] at *
  clear h hI ha hw hc hp
  go_enter Try.func3, Try.ntmps3
  go_wp2_with fail
  have k := (Keeps.refl w).alloc (.cells #[.slice wa ws.length wc, .int .i64 lo, .int .i64 hi, .slice ra rs.length rc] 27)
  have hB := Fr.Box.new ⟨wa, wc, ws, lo, hi, ra, rc, rs⟩ w
  refine (LG.out _).mono ?_
  rintro e w1 ⟨rfl, k1⟩
  have HB := Lib.hid (hB.keep k1)
  have g0 := HB.out.c0
  have g1 := HB.out.c1
  have g2 := HB.out.c2
  have g3 := HB.out.c3
  dsimp only at g0 g1 g2 g3
  have hgl := lt_of_cell g0
  replace k := k.trans k1
  clear k1 hB LG
  go_wp2_with fail
  refine (AK.out _ k).mono ?_
  rintro e w1 ⟨rfl, k1⟩
  replace HB := Lib.hid (HB.out.keep k1)
  replace g0 := HB.out.c0
  replace g1 := HB.out.c1
  replace g2 := HB.out.c2
  replace g3 := HB.out.c3
  dsimp only at g0 g1 g2 g3
  replace hgl := lt_of_cell g0
  replace k := k.trans k1
  clear k1
  clear AK
  go_wp2_with fail
  refine (RA.out _ k).mono ?_
  rintro e w1 ⟨rfl, k1⟩
  replace HB := Lib.hid (HB.out.keep k1)
  replace g0 := HB.out.c0
  replace g1 := HB.out.c1
  replace g2 := HB.out.c2
  replace g3 := HB.out.c3
  dsimp only at g0 g1 g2 g3
  replace hgl := lt_of_cell g0
  replace k := k.trans k1
  clear k1
  clear RA
  go_wp2_with fail
  refine (WR.out _ k).mono ?_
  rintro e w1 ⟨rfl, k1⟩
  replace HB := Lib.hid (HB.out.keep k1)
  replace g0 := HB.out.c0
  replace g1 := HB.out.c1
  replace g2 := HB.out.c2
  replace g3 := HB.out.c3
  dsimp only at g0 g1 g2 g3
  replace hgl := lt_of_cell g0
  replace k := k.trans k1
  clear k1
  clear WR
  go_wp2_with fail
  refine (RW.out _ k).mono ?_
  rintro e w1 ⟨rfl, k1⟩
  replace HB := Lib.hid (HB.out.keep k1)
  replace g0 := HB.out.c0
  replace g1 := HB.out.c1
  replace g2 := HB.out.c2
  replace g3 := HB.out.c3
  dsimp only at g0 g1 g2 g3
  replace hgl := lt_of_cell g0
  replace k := k.trans k1
  clear k1
  clear RW
  go_wp2_with fail
  refine (CL.out _ k).mono ?_
  rintro e w1 ⟨rfl, k1⟩
  replace HB := Lib.hid (HB.out.keep k1)
  replace g0 := HB.out.c0
  replace g1 := HB.out.c1
  replace g2 := HB.out.c2
  replace g3 := HB.out.c3
  dsimp only at g0 g1 g2 g3
  replace hgl := lt_of_cell g0
  replace k := k.trans k1
  clear k1
  clear CL
  go_wp2_with fail
  refine (RC.out _ k).mono ?_
  rintro e w1 ⟨rfl, k1⟩
  replace HB := Lib.hid (HB.out.keep k1)
  replace g0 := HB.out.c0
  replace g1 := HB.out.c1
  replace g2 := HB.out.c2
  replace g3 := HB.out.c3
  dsimp only at g0 g1 g2 g3
  replace hgl := lt_of_cell g0
  replace k := k.trans k1
  clear k1
  clear RC
  go_wp2_with fail
  refine (AL.out _).mono ?_
  rintro e w2 ⟨rfl, k2⟩
  go_wp2_with fail
  go_ret
  exact ⟨rfl, k.trans k2⟩
theorem sets_any (F : Fr) (w : World) (hI : F.In w) : Calls Try.prog 3 #[F.v] w (RetB true w) := by
  cases hl : F.long with
  | true => exact sets_long F w hI hl
  | false => exact sets_same F w hI hl

set_option maxRecDepth 100000 in
theorem sets_lifted (os : Os) (started : os.Started) (H : Type) (enc : TypeId × Value → H) :
    ReturnsInHanded {} Try.checked os 3 .any (Rows.fringeSetsSpec.pre6 enc Try.prog Try.f3 Rows.fringeSetsRow.domain false) (Rows.fringeSetsSpec.post enc Try.prog Try.f3 false true false false) := by
  refine returnsInHanded_of_change (C := Try.checked) own_knob started (by kernel_rfl) Try.func3
    (ChangeSpec.witness6 (enc := enc) (C := Try.checked) false ⟨#[], #[.agg #[.slice none 0 0, .int .i64 0, .int .i64 0, .slice none 0 0]], []⟩ 8 (by kernel_rfl) (by kernel_rfl) (by kernel_rfl) (by kernel_rfl)) ?_
  intro W base args ds gs before hval0 hW _ _
  have hval : ∀ (j : Nat) t v, Try.f3.params[j]? = some t → args[j]? = some v → Value.okWide Try.prog W .any base t v := hval0
  have hW' := hW
  obtain ⟨p, q, hA, hV, rfl, _, _⟩ := hW
  rw [Try.params3] at hA hval
  obtain ⟨v0, d0, rfl, rfl, h0⟩ := trodAll_one hA
  obtain ⟨rfl, rfl⟩ := trodVars_none hV
  obtain ⟨F, rfl, hI⟩ := open_fringe (hval 0 _ _ rfl rfl) h0
  refine (sets_any F W hI).mono fun e W' ⟨he, hk⟩ => ?_
  subst he
  exact ⟨_, rfl, law_post hW' rfl (by kernel_rfl) rfl hk (by
    rw [Try.params3]
    have h : ([27].all fun t => Try.prog.readableRec t && decide (t < Try.prog.types.size)) = true := by kernel_rfl
    intro t ht
    have := List.all_eq_true.1 h t ht
    simpa using this)⟩

theorem FringeSets_holds : Rows.FringeSetsSaid :=
  OpenClaim.holds_of_wide 3 Try.f3 rfl rfl rfl rfl rfl rfl rfl ⟨rfl, rfl, rfl, rfl, rfl⟩ rfl rfl rfl rfl rfl (by kernel_rfl) Try.func3 (by kernel_rfl)
    (of_decide_eq_true (by kernel_rfl)) (by unfold Func.isWrapper; first | (rw [if_pos (by decide +kernel)]; kernel_rfl) | (rw [if_neg (by decide +kernel)]; exact ⟨rfl, rfl⟩))
    (fun os started H enc _ => sets_lifted os started H enc)
#print axioms FringeSets_holds
end Go.Proofs.Ytoidnbpbeblokaa
