/-
  FringeLengths answers true for every fringe, length and wish: the lengths that are told are in order, and as many as are told; one is told just if all readings are right of it; the one that is nearest to a wish is told, and no other one is nearer. No condition.
-/
import Derived.Test.YtgbojgachgodgaaZk
import Derived.Test.YtgbojgachgodgaaZo
import Derived.Test.YtgbojgachgodgaaTg
namespace Go.Proofs.Ytgbojgachgodgaa
open Go.ChangeShapes Go.WideShapes Go.ChangeAt Go.RowKit

theorem u16_bd {n : Int} (h : (Lit.int .u16 n).wf = true) : 0 ≤ n ∧ n ≤ 65535 := by
  have e1 : IntKind.u16.min = 0 := rfl
  have e2 : IntKind.u16.max = 65535 := rfl
  simp only [Lit.wf, Bool.and_eq_true, decide_eq_true_eq] at h
  omega
theorem lens_any (F : Fr) (at_ wh : Int) (w : World) (hI : F.In w) (a0 : 0 ≤ at_) (a1 : at_ ≤ 65535) (b0 : 0 ≤ wh) (b1 : wh ≤ 65535) : Calls Try.prog 7 #[F.v, .int .u16 at_, .int .u16 wh] w (RetB true w) := by
  cases hl : F.long with
  | true => exact lens_long F at_ wh w hI hl
  | false =>
    cases hok : F.ok with
    | false => exact lens_bad F at_ wh w hI hl hok
    | true =>
      by_cases ht : F.truths = []
      · exact lens_none F at_ wh w hI hok a0 a1 b0 b1 ht
      · exact lens_some F at_ wh w hI hok a0 a1 b0 b1 ht

set_option maxRecDepth 100000 in
theorem lens_lifted (os : Os) (started : os.Started) (H : Type) (enc : TypeId × Value → H) :
    ReturnsInHanded {} Try.checked os 7 .any (Rows.fringeLengthsSpec.pre6 enc Try.prog Try.f7 Rows.fringeLengthsRow.domain false) (Rows.fringeLengthsSpec.post enc Try.prog Try.f7 false true false false) := by
  refine returnsInHanded_of_change (C := Try.checked) own_knob started (by kernel_rfl) Try.func7
    (ChangeSpec.witness6 (enc := enc) (C := Try.checked) false ⟨#[], #[.agg #[.slice none 0 0, .int .i64 0, .int .i64 0, .slice none 0 0], .int .u16 0, .int .u16 0], []⟩ 8 (by kernel_rfl) (by kernel_rfl) (by kernel_rfl) (by kernel_rfl)) ?_
  intro W base args ds gs before hval0 hW _ _
  have hval : ∀ (j : Nat) t v, Try.f7.params[j]? = some t → args[j]? = some v → Value.okWide Try.prog W .any base t v := hval0
  have hW' := hW
  obtain ⟨p, q, hA, hV, rfl, _, _⟩ := hW
  rw [Try.params7] at hA hval
  obtain ⟨v0, v1, v2, d0, d1, d2, p0, p1, p2, rfl, rfl, rfl, h0, h1, h2⟩ := trodAll_three hA
  obtain ⟨rfl, rfl⟩ := trodVars_none hV
  obtain ⟨F, rfl, hI⟩ := open_fringe (hval 0 _ _ rfl rfl) h0
  obtain ⟨x, rfl, rfl, _, hx⟩ := open_int Try.underlying58 (hval 1 _ _ rfl rfl) h1
  obtain ⟨y, rfl, rfl, _, hy⟩ := open_int Try.underlying58 (hval 2 _ _ rfl rfl) h2
  refine (lens_any F x y W hI (u16_bd hx).1 (u16_bd hx).2 (u16_bd hy).1 (u16_bd hy).2).mono fun e W' ⟨he, hk⟩ => ?_
  subst he
  exact ⟨_, rfl, law_post hW' rfl (by kernel_rfl) rfl hk (by
    rw [Try.params7]
    have h : ([27, 58, 58].all fun t => Try.prog.readableRec t && decide (t < Try.prog.types.size)) = true := by kernel_rfl
    intro t ht
    have := List.all_eq_true.1 h t ht
    simpa using this)⟩

theorem FringeLengths_holds : Rows.FringeLengthsSaid :=
  OpenClaim.holds_of_wide 7 Try.f7 rfl rfl rfl rfl rfl rfl rfl ⟨rfl, rfl, rfl, rfl, rfl⟩ rfl rfl rfl rfl rfl (by kernel_rfl) Try.func7 (by kernel_rfl)
    (of_decide_eq_true (by kernel_rfl)) (by unfold Func.isWrapper; first | (rw [if_pos (by decide +kernel)]; kernel_rfl) | (rw [if_neg (by decide +kernel)]; exact ⟨rfl, rfl⟩))
    (fun os started H enc _ => lens_lifted os started H enc)
#print axioms FringeLengths_holds
end Go.Proofs.Ytgbojgachgodgaa
