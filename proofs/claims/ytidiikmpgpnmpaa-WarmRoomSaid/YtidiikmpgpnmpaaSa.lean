/-
  WarmRoom answers true for every block, every off and every more: in the room that is told no truth shows more beside its length, in a wider one some does, and a greater off narrows no room. No condition.
-/
import Derived.Test.YtidiikmpgpnmpaaZk
import Derived.Test.YtidiikmpgpnmpaaG1
import Derived.Test.YtidiikmpgpnmpaaG4
namespace Go.Proofs.Ytidiikmpgpnmpaa
open Go.ChangeShapes Go.WideShapes Go.ChangeAt Go.RowKit

theorem u16_bd {n : Int} (h : (Lit.int .u16 n).wf = true) : 0 ≤ n ∧ n ≤ 65535 := by
  have e1 : IntKind.u16.min = 0 := rfl
  have e2 : IntKind.u16.max = 65535 := rfl
  simp only [Lit.wf, Bool.and_eq_true, decide_eq_true_eq] at h
  omega
theorem u8_bd {n : Int} (h : (Lit.int .u8 n).wf = true) : 0 ≤ n ∧ n ≤ 255 := by
  have e1 : IntKind.u8.min = 0 := rfl
  have e2 : IntKind.u8.max = 255 := rfl
  simp only [Lit.wf, Bool.and_eq_true, decide_eq_true_eq] at h
  omega
theorem warmRoom_any (B : Wm) (o mo : Int) (w : World) (hI : B.In w) (a0 : 0 ≤ o) (a1 : o ≤ 65535) (b0 : 0 ≤ mo) (b1 : mo ≤ 255) : Calls Try.prog 9 #[B.v, .int .u16 o, .int .u8 mo] w (RetB true w) := by
  cases hf : B.fine with
  | false => exact room_no B o mo w hI hf
  | true =>
    cases ht : B.truths.isEmpty with
    | true => exact room_none B o mo w hI hf ht a0 a1 b0 b1
    | false => exact warmRoom_yes B o mo w hI hf ht a0 a1 b0 b1

set_option maxRecDepth 100000 in
theorem warmRoom_lifted (os : Os) (started : os.Started) (H : Type) (enc : TypeId × Value → H) :
    ReturnsInHanded {} Try.checked os 9 .any (Rows.warmRoomSpec.pre6 enc Try.prog Try.f9 Rows.warmRoomRow.domain false) (Rows.warmRoomSpec.post enc Try.prog Try.f9 false true false false) := by
  refine returnsInHanded_of_change (C := Try.checked) own_knob started (by kernel_rfl) Try.func9
    (ChangeSpec.witness6 (enc := enc) (C := Try.checked) false ⟨#[], #[.agg #[.int .i64 0, .int .i64 0, .int .i64 0, .int .i64 0, .int .i64 0, .slice none 0 0], .int .u16 0, .int .u8 0], []⟩ 8 (by kernel_rfl) (by kernel_rfl) (by kernel_rfl) (by kernel_rfl)) ?_
  intro W base args ds gs before hval0 hW _ _
  have hval : ∀ (j : Nat) t v, Try.f9.params[j]? = some t → args[j]? = some v → Value.okWide Try.prog W .any base t v := hval0
  have hW' := hW
  obtain ⟨p, q, hA, hV, rfl, _, _⟩ := hW
  rw [Try.params9] at hA hval
  obtain ⟨v0, v1, v2, d0, d1, d2, p0, p1, p2, rfl, rfl, rfl, h0, h1, h2⟩ := trodAll_three hA
  obtain ⟨rfl, rfl⟩ := trodVars_none hV
  obtain ⟨B, rfl, hI⟩ := open_warm (hval 0 _ _ rfl rfl) h0
  obtain ⟨x, rfl, rfl, _, hx⟩ := open_int Try.underlying44 (hval 1 _ _ rfl rfl) h1
  obtain ⟨y, rfl, rfl, _, hy⟩ := open_int Try.underlying5 (hval 2 _ _ rfl rfl) h2
  refine (warmRoom_any B x y W hI (u16_bd hx).1 (u16_bd hx).2 (u8_bd hy).1 (u8_bd hy).2).mono fun e W' ⟨he, hk⟩ => ?_
  subst he
  exact ⟨_, rfl, law_post hW' rfl (by kernel_rfl) rfl hk (by
    rw [Try.params9]
    have h : ([26, 44, 5].all fun t => Try.prog.readableRec t && decide (t < Try.prog.types.size)) = true := by kernel_rfl
    intro t ht
    have := List.all_eq_true.1 h t ht
    simpa using this)⟩

theorem WarmRoom_holds : Rows.WarmRoomSaid :=
  OpenClaim.holds_of_wide 9 Try.f9 rfl rfl rfl rfl rfl rfl rfl ⟨rfl, rfl, rfl, rfl, rfl⟩ rfl rfl rfl rfl rfl (by kernel_rfl) Try.func9 (by kernel_rfl)
    (of_decide_eq_true (by kernel_rfl)) (by unfold Func.isWrapper; first | (rw [if_pos (by decide +kernel)]; kernel_rfl) | (rw [if_neg (by decide +kernel)]; exact ⟨rfl, rfl⟩))
    (fun os started H enc _ => warmRoom_lifted os started H enc)
#print axioms WarmRoom_holds
end Go.Proofs.Ytidiikmpgpnmpaa
