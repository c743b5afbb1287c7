/-
  FringeWhole answers true for every fringe and colour: a number of whole fringes, or a part, is told just if some length that is told has it; whole numbers rise; and there are no more of them than lengths. No condition.
-/
import Derived.Test.YtjgbamnejacnhaaZk
import Derived.Test.YtjgbamnejacnhaaZo
import Derived.Test.YtjgbamnejacnhaaZr
namespace Go.Proofs.Ytjgbamnejacnhaa
open Go.ChangeShapes Go.WideShapes Go.ChangeAt Go.RowKit

theorem u8_bd {n : Int} (h : (Lit.int .u8 n).wf = true) : 0 ≤ n ∧ n ≤ 255 := by
  have e1 : IntKind.u8.min = 0 := rfl
  have e2 : IntKind.u8.max = 255 := rfl
  simp only [Lit.wf, Bool.and_eq_true, decide_eq_true_eq] at h
  omega
theorem whole_any (F : Fr) (wh : Int) (w : World) (hI : F.In w) (b0 : 0 ≤ wh) (b1 : wh ≤ 255) : Calls Try.prog 8 #[F.v, .int .u8 wh] w (RetB true w) := by
  cases hl : F.long with
  | true => exact whole_long F wh w hI hl
  | false =>
    cases hok : F.ok with
    | false => exact whole_bad F wh w hI hl hok
    | true =>
      by_cases ht : F.truths = []
      · exact whole_none F wh w hI hok b0 b1 ht
      · exact whole_some F wh w hI hok b0 b1 ht

set_option maxRecDepth 100000 in
theorem whole_lifted (os : Os) (started : os.Started) (H : Type) (enc : TypeId × Value → H) :
    ReturnsInHanded {} Try.checked os 8 .any (Rows.fringeWholeSpec.pre6 enc Try.prog Try.f8 Rows.fringeWholeRow.domain false) (Rows.fringeWholeSpec.post enc Try.prog Try.f8 false true false false) := by
  refine returnsInHanded_of_change (C := Try.checked) own_knob started (by kernel_rfl) Try.func8
    (ChangeSpec.witness6 (enc := enc) (C := Try.checked) false ⟨#[], #[.agg #[.slice none 0 0, .int .i64 0, .int .i64 0, .slice none 0 0], .int .u8 0], []⟩ 8 (by kernel_rfl) (by kernel_rfl) (by kernel_rfl) (by kernel_rfl)) ?_
  intro W base args ds gs before hval0 hW _ _
  have hval : ∀ (j : Nat) t v, Try.f8.params[j]? = some t → args[j]? = some v → Value.okWide Try.prog W .any base t v := hval0
  have hW' := hW
  obtain ⟨p, q, hA, hV, rfl, _, _⟩ := hW
  rw [Try.params8] at hA hval
  obtain ⟨v0, v1, d0, d1, p0, p1, rfl, rfl, rfl, h0, h1⟩ := trodAll_two hA
  obtain ⟨rfl, rfl⟩ := trodVars_none hV
  obtain ⟨F, rfl, hI⟩ := open_fringe (hval 0 _ _ rfl rfl) h0
  obtain ⟨x, rfl, rfl, _, hx⟩ := open_int Try.underlying5 (hval 1 _ _ rfl rfl) h1
  refine (whole_any F x W hI (u8_bd hx).1 (u8_bd hx).2).mono fun e W' ⟨he, hk⟩ => ?_
  subst he
  exact ⟨_, rfl, law_post hW' rfl (by kernel_rfl) rfl hk (by
    rw [Try.params8]
    have h : ([27, 5].all fun t => Try.prog.readableRec t && decide (t < Try.prog.types.size)) = true := by kernel_rfl
    intro t ht
    have := List.all_eq_true.1 h t ht
    simpa using this)⟩

theorem FringeWhole_holds : Rows.FringeWholeSaid :=
  OpenClaim.holds_of_wide 8 Try.f8 rfl rfl rfl rfl rfl rfl rfl ⟨rfl, rfl, rfl, rfl, rfl⟩ rfl rfl rfl rfl rfl (by kernel_rfl) Try.func8 (by kernel_rfl)
    (of_decide_eq_true (by kernel_rfl)) (by unfold Func.isWrapper; first | (rw [if_pos (by decide +kernel)]; kernel_rfl) | (rw [if_neg (by decide +kernel)]; exact ⟨rfl, rfl⟩))
    (fun os started H enc _ => whole_lifted os started H enc)
#print axioms FringeWhole_holds
end Go.Proofs.Ytjgbamnejacnhaa
