/-
  WarmLooks answers true for every block, every number and every list of numbers: how warm the room may be, in how many ways a block can be, and at which warmth to read next, are the document's, or why they are not known. No condition.
-/
import Derived.Test.YtmhpgjlegajpeaaZk
import Derived.Test.YtmhpgjlegajpeaaG1
import Derived.Test.YtmhpgjlegajpeaaL1
namespace Go.Proofs.Ytmhpgjlegajpeaa
open Go.ChangeShapes Go.WideShapes Go.ChangeAt Go.RowKit

set_option maxRecDepth 100000 in
theorem warmLooks_lifted (os : Os) (started : os.Started) (H : Type) (enc : TypeId × Value → H) :
    ReturnsInHanded {} Try.checked os 4 .any (Rows.warmLooksSpec.pre6 enc Try.prog Try.f4 Rows.warmLooksRow.domain false) (Rows.warmLooksSpec.post enc Try.prog Try.f4 false true false false) := by
  refine returnsInHanded_of_change (C := Try.checked) own_knob started (by kernel_rfl) Try.func4
    (ChangeSpec.witness6 (enc := enc) (C := Try.checked) false ⟨#[], #[.agg #[.int .i64 0, .int .i64 0, .int .i64 0, .int .i64 0, .int .i64 0, .slice none 0 0], .int .i64 0, .slice none 0 0], []⟩ 8 (by kernel_rfl) (by kernel_rfl) (by kernel_rfl) (by kernel_rfl)) ?_
  intro W base args ds gs before hval0 hW _ _
  have hval : ∀ (j : Nat) t v, Try.f4.params[j]? = some t → args[j]? = some v → Value.okWide Try.prog W .any base t v := hval0
  have hW' := hW
  obtain ⟨p, q, hA, hV, rfl, _, _⟩ := hW
  rw [Try.params4] at hA hval
  obtain ⟨v0, v1, v2, d0, d1, d2, p0, p1, p2, rfl, rfl, rfl, h0, h1, h2⟩ := trodAll_three hA
  obtain ⟨rfl, rfl⟩ := trodVars_none hV
  obtain ⟨B, rfl, hI⟩ := open_warm (hval 0 _ _ rfl rfl) h0
  obtain ⟨y, rfl, rfl, _, hy⟩ := open_int Try.underlying3 (hval 1 _ _ rfl rfl) h1
  obtain ⟨a0, n0, c0, rfl⟩ := okWide_slice Try.underlying35 (hval 2 _ _ rfl rfl)
  obtain ⟨fuel, hfu⟩ := h2
  obtain ⟨a, xs, cap, he, hX, hl⟩ := open_is (show DataW.trod enc Try.prog W 0 (fun _ => true) true fuel 35 [.slice a0 n0 c0] = some (d2, p2) from hfu)
  cases he
  refine (warmLooks_any B y a0 c0 xs W hI hX hl).mono fun e W' ⟨he, hk⟩ => ?_
  subst he
  exact ⟨_, rfl, law_post hW' rfl (by kernel_rfl) rfl hk (by
    rw [Try.params4]
    have h : ([26, 3, 35].all fun t => Try.prog.readableRec t && decide (t < Try.prog.types.size)) = true := by kernel_rfl
    intro t ht
    have := List.all_eq_true.1 h t ht
    simpa using this)⟩

theorem WarmLooks_holds : Rows.WarmLooksSaid :=
  OpenClaim.holds_of_wide 4 Try.f4 rfl rfl rfl rfl rfl rfl rfl ⟨rfl, rfl, rfl, rfl, rfl⟩ rfl rfl rfl rfl rfl (by kernel_rfl) Try.func4 (by kernel_rfl)
    (of_decide_eq_true (by kernel_rfl)) (by unfold Func.isWrapper; first | (rw [if_pos (by decide +kernel)]; kernel_rfl) | (rw [if_neg (by decide +kernel)]; exact ⟨rfl, rfl⟩))
    (fun os started H enc _ => warmLooks_lifted os started H enc)
#print axioms WarmLooks_holds
end Go.Proofs.Ytmhpgjlegajpeaa
