/-
  WarmClash answers true for every block and every byte: of the readings that are told alone there is no truth, without any one of them there is, others that clash are no fewer, and none are told just if there is a truth. No condition.
-/
import Derived.Test.YtdfiebfgmpdceaaZk
import Derived.Test.YtdfiebfgmpdceaaG1
import Derived.Test.YtdfiebfgmpdceaaH4
namespace Go.Proofs.Ytdfiebfgmpdceaa
open Go.ChangeShapes Go.WideShapes Go.ChangeAt Go.RowKit

theorem u8_bd {n : Int} (h : (Lit.int .u8 n).wf = true) : 0 ≤ n ∧ n ≤ 255 := by
  have e1 : IntKind.u8.min = 0 := rfl
  have e2 : IntKind.u8.max = 255 := rfl
  simp only [Lit.wf, Bool.and_eq_true, decide_eq_true_eq] at h
  omega
theorem warmClash_any (B : Wm) (bi : Int) (w : World) (hI : B.In w) (b0 : 0 ≤ bi) (b1 : bi ≤ 255) : Calls Try.prog 11 #[B.v, .int .u8 bi] w (RetB true w) := by
  cases hf : B.fine with
  | false => exact wc_no B bi w hI hf
  | true =>
    cases ht : B.truths.isEmpty with
    | true => exact wc_some B bi w hI hf ht b0 b1
    | false => exact wc_none B bi w hI hf ht

set_option maxRecDepth 100000 in
theorem warmClash_lifted (os : Os) (started : os.Started) (H : Type) (enc : TypeId × Value → H) :
    ReturnsInHanded {} Try.checked os 11 .any (Rows.warmClashSpec.pre6 enc Try.prog Try.f11 Rows.warmClashRow.domain false) (Rows.warmClashSpec.post enc Try.prog Try.f11 false true false false) := by
  refine returnsInHanded_of_change (C := Try.checked) own_knob started (by kernel_rfl) Try.func11
    (ChangeSpec.witness6 (enc := enc) (C := Try.checked) false ⟨#[], #[.agg #[.int .i64 0, .int .i64 0, .int .i64 0, .int .i64 0, .int .i64 0, .slice none 0 0], .int .u8 0], []⟩ 8 (by kernel_rfl) (by kernel_rfl) (by kernel_rfl) (by kernel_rfl)) ?_
  intro W base args ds gs before hval0 hW _ _
  have hval : ∀ (j : Nat) t v, Try.f11.params[j]? = some t → args[j]? = some v → Value.okWide Try.prog W .any base t v := hval0
  have hW' := hW
  obtain ⟨p, q, hA, hV, rfl, _, _⟩ := hW
  rw [Try.params11] at hA hval
  obtain ⟨v0, v1, d0, d1, p0, p1, rfl, rfl, rfl, h0, h1⟩ := trodAll_two hA
  obtain ⟨rfl, rfl⟩ := trodVars_none hV
  obtain ⟨B, rfl, hI⟩ := open_warm (hval 0 _ _ rfl rfl) h0
  obtain ⟨y, rfl, rfl, _, hy⟩ := open_int Try.underlying5 (hval 1 _ _ rfl rfl) h1
  refine (warmClash_any B y W hI (u8_bd hy).1 (u8_bd hy).2).mono fun e W' ⟨he, hk⟩ => ?_
  subst he
  exact ⟨_, rfl, law_post hW' rfl (by kernel_rfl) rfl hk (by
    rw [Try.params11]
    have h : ([26, 5].all fun t => Try.prog.readableRec t && decide (t < Try.prog.types.size)) = true := by kernel_rfl
    intro t ht
    have := List.all_eq_true.1 h t ht
    simpa using this)⟩

theorem WarmClash_holds : Rows.WarmClashSaid :=
  OpenClaim.holds_of_wide 11 Try.f11 rfl rfl rfl rfl rfl rfl rfl ⟨rfl, rfl, rfl, rfl, rfl⟩ rfl rfl rfl rfl rfl (by kernel_rfl) Try.func11 (by kernel_rfl)
    (of_decide_eq_true (by kernel_rfl)) (by unfold Func.isWrapper; first | (rw [if_pos (by decide +kernel)]; kernel_rfl) | (rw [if_neg (by decide +kernel)]; exact ⟨rfl, rfl⟩))
    (fun os started H enc _ => warmClash_lifted os started H enc)
#print axioms WarmClash_holds
end Go.Proofs.Ytdfiebfgmpdceaa
