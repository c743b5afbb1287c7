/-
  WarmReads answers true for every block, every number and every span of warmth: how long a block is, how much it grows, how warm it was, and what it will show, are the document's, or why they are not known. No condition.
-/
import Derived.Test.YtmhpgjlegajpeaaZk
import Derived.Test.YtmhpgjlegajpeaaG1
import Derived.Test.YtmhpgjlegajpeaaL1
namespace Go.Proofs.Ytmhpgjlegajpeaa
open Go.ChangeShapes Go.WideShapes Go.ChangeAt Go.RowKit

set_option maxRecDepth 100000 in
theorem open_spanV {H : Type} {enc : TypeId × Value → H} {W : World} {held : Bool} {r : Reach} {b0 : Nat} {v : Value} {d : DataW H} {p : List MemPlace} (hv : Value.okWide Try.prog W r b0 23 v) (h : DataW.Trod enc Try.prog W 0 (fun _ => true) held 23 v d p) : ∃ lo hi : Int, v = .agg #[.int .i64 lo, .int .i64 hi] := by
  obtain ⟨cs, rfl, hsz⟩ := okWide_struct Try.underlying23 hv
  obtain ⟨l⟩ := cs
  obtain ⟨c0, c1, rfl⟩ := list2 (hsz.trans cells_span)
  obtain ⟨fuel, hf⟩ := h
  obtain ⟨lo, hi, rfl, rfl⟩ := open_span (show DataW.trod enc Try.prog W 0 (fun _ => true) held fuel 23 [c0, c1] = some (d, p) from by simpa [Value.cells] using hf)
  exact ⟨lo, hi, rfl⟩
set_option maxRecDepth 100000 in
theorem warmReads_lifted (os : Os) (started : os.Started) (H : Type) (enc : TypeId × Value → H) :
    ReturnsInHanded {} Try.checked os 3 .any (Rows.warmReadsSpec.pre6 enc Try.prog Try.f3 Rows.warmReadsRow.domain false) (Rows.warmReadsSpec.post enc Try.prog Try.f3 false true false false) := by
  refine returnsInHanded_of_change (C := Try.checked) own_knob started (by kernel_rfl) Try.func3
    (ChangeSpec.witness6 (enc := enc) (C := Try.checked) false ⟨#[], #[.agg #[.int .i64 0, .int .i64 0, .int .i64 0, .int .i64 0, .int .i64 0, .slice none 0 0], .int .i64 0, .agg #[.int .i64 0, .int .i64 0]], []⟩ 8 (by kernel_rfl) (by kernel_rfl) (by kernel_rfl) (by kernel_rfl)) ?_
  intro W base args ds gs before hval0 hW _ _
  have hval : ∀ (j : Nat) t v, Try.f3.params[j]? = some t → args[j]? = some v → Value.okWide Try.prog W .any base t v := hval0
  have hW' := hW
  obtain ⟨p, q, hA, hV, rfl, _, _⟩ := hW
  rw [Try.params3] at hA hval
  obtain ⟨v0, v1, v2, d0, d1, d2, p0, p1, p2, rfl, rfl, rfl, h0, h1, h2⟩ := trodAll_three hA
  obtain ⟨rfl, rfl⟩ := trodVars_none hV
  obtain ⟨B, rfl, hI⟩ := open_warm (hval 0 _ _ rfl rfl) h0
  obtain ⟨y, rfl, rfl, _, hy⟩ := open_int Try.underlying3 (hval 1 _ _ rfl rfl) h1
  obtain ⟨lo, hi, rfl⟩ := open_spanV (hval 2 _ _ rfl rfl) h2
  refine (warmReads_any B y lo hi W hI).mono fun e W' ⟨he, hk⟩ => ?_
  subst he
  exact ⟨_, rfl, law_post hW' rfl (by kernel_rfl) rfl hk (by
    rw [Try.params3]
    have h : ([26, 3, 23].all fun t => Try.prog.readableRec t && decide (t < Try.prog.types.size)) = true := by kernel_rfl
    intro t ht
    have := List.all_eq_true.1 h t ht
    simpa using this)⟩

theorem WarmReads_holds : Rows.WarmReadsSaid :=
  OpenClaim.holds_of_wide 3 Try.f3 rfl rfl rfl rfl rfl rfl rfl ⟨rfl, rfl, rfl, rfl, rfl⟩ rfl rfl rfl rfl rfl (by kernel_rfl) Try.func3 (by kernel_rfl)
    (of_decide_eq_true (by kernel_rfl)) (by unfold Func.isWrapper; first | (rw [if_pos (by decide +kernel)]; kernel_rfl) | (rw [if_neg (by decide +kernel)]; exact ⟨rfl, rfl⟩))
    (fun os started H enc _ => warmReads_lifted os started H enc)
#print axioms WarmReads_holds
end Go.Proofs.Ytmhpgjlegajpeaa
