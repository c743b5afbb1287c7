/-
  FringeAsk answers true for every fringe and colour: a reading of any one part in the colour that is told leaves at most so many lengths, and some part just as many; in another colour some part leaves no fewer; and the lengths of all parts together are all. No condition.
-/
import Derived.Test.YtgbojgachgodgaaZk
import Derived.Test.YtgbojgachgodgaaZo
import Derived.Test.YtgbojgachgodgaaTf
namespace Go.Proofs.Ytgbojgachgodgaa
open Go.ChangeShapes Go.WideShapes Go.ChangeAt Go.RowKit

theorem u8_bd {n : Int} (h : (Lit.int .u8 n).wf = true) : 0 ≤ n ∧ n ≤ 255 := by
  have e1 : IntKind.u8.min = 0 := rfl
  have e2 : IntKind.u8.max = 255 := rfl
  simp only [Lit.wf, Bool.and_eq_true, decide_eq_true_eq] at h
  omega
theorem asks_any (F : Fr) (wh : Int) (w : World) (hI : F.In w) (b0 : 0 ≤ wh) (b1 : wh ≤ 255) : Calls Try.prog 9 #[F.v, .int .u8 wh] w (RetB true w) := by
  cases hl : F.long with
  | true => exact ask_long F wh w hI hl
  | false =>
    cases hok : F.ok with
    | false => exact ask_bad F wh w hI hl hok
    | true =>
      have h6 := F.rl_in hok
      by_cases h5 : F.rs.length ≤ 5
      · by_cases ht : F.truths = []
        · exact ask_none F wh w hI hok h5 ht
        · exact ask_some F wh w hI hok h5 ht b0 b1
      · exact ask_full F wh w hI hok (by omega)

set_option maxRecDepth 100000 in
theorem ask_lifted (os : Os) (started : os.Started) (H : Type) (enc : TypeId × Value → H) :
    ReturnsInHanded {} Try.checked os 9 .any (Rows.fringeAskSpec.pre6 enc Try.prog Try.f9 Rows.fringeAskRow.domain false) (Rows.fringeAskSpec.post enc Try.prog Try.f9 false true false false) := by
  refine returnsInHanded_of_change (C := Try.checked) own_knob started (by kernel_rfl) Try.func9
    (ChangeSpec.witness6 (enc := enc) (C := Try.checked) false ⟨#[], #[.agg #[.slice none 0 0, .int .i64 0, .int .i64 0, .slice none 0 0], .int .u8 0], []⟩ 8 (by kernel_rfl) (by kernel_rfl) (by kernel_rfl) (by kernel_rfl)) ?_
  intro W base args ds gs before hval0 hW _ _
  have hval : ∀ (j : Nat) t v, Try.f9.params[j]? = some t → args[j]? = some v → Value.okWide Try.prog W .any base t v := hval0
  have hW' := hW
  obtain ⟨p, q, hA, hV, rfl, _, _⟩ := hW
  rw [Try.params9] at hA hval
  obtain ⟨v0, v1, d0, d1, p0, p1, rfl, rfl, rfl, h0, h1⟩ := trodAll_two hA
  obtain ⟨rfl, rfl⟩ := trodVars_none hV
  obtain ⟨F, rfl, hI⟩ := open_fringe (hval 0 _ _ rfl rfl) h0
  obtain ⟨x, rfl, rfl, _, hx⟩ := open_int Try.underlying5 (hval 1 _ _ rfl rfl) h1
  refine (asks_any F x W hI (u8_bd hx).1 (u8_bd hx).2).mono fun e W' ⟨he, hk⟩ => ?_
  subst he
  exact ⟨_, rfl, law_post hW' rfl (by kernel_rfl) rfl hk (by
    rw [Try.params9]
    have h : ([27, 5].all fun t => Try.prog.readableRec t && decide (t < Try.prog.types.size)) = true := by kernel_rfl
    intro t ht
    have := List.all_eq_true.1 h t ht
    simpa using this)⟩

theorem FringeAsk_holds : Rows.FringeAskSaid :=
  OpenClaim.holds_of_wide 9 Try.f9 rfl rfl rfl rfl rfl rfl rfl ⟨rfl, rfl, rfl, rfl, rfl⟩ rfl rfl rfl rfl rfl (by kernel_rfl) Try.func9 (by kernel_rfl)
    (of_decide_eq_true (by kernel_rfl)) (by unfold Func.isWrapper; first | (rw [if_pos (by decide +kernel)]; kernel_rfl) | (rw [if_neg (by decide +kernel)]; exact ⟨rfl, rfl⟩))
    (fun os started H enc _ => ask_lifted os started H enc)
#print axioms FringeAsk_holds
end Go.Proofs.Ytgbojgachgodgaa
