/-
  FringeMore answers true for every fringe, reading and number: with a reading more, a narrower one, or a narrower Length there are no more lengths, no parts that there were not, and no fewer readings must be wrong, with one more at most one more; turned round nothing changes but numbers; no argument is changed. No condition.
-/
import Derived.Test.YtoidnbpbeblokaaZk
import Derived.Test.YtoidnbpbeblokaaZo
import Derived.Test.YtoidnbpbeblokaaMj
namespace Go.Proofs.Ytoidnbpbeblokaa
open Go.ChangeShapes Go.WideShapes Go.ChangeAt Go.RowKit

section
variable {H : Type} {enc : TypeId × Value → H} {W : World} {base : Nat} {spare : Nat → Bool} {held : Bool}
set_option maxRecDepth 100000 in
theorem open_reading {r : Reach} {b0 : Nat} {v : Value} {d : DataW H} {p : List MemPlace} (hv : Value.okWide Try.prog W r b0 41 v) (h : DataW.Trod enc Try.prog W base spare held 41 v d p) : ∃ c lo hi : Int, v = .agg #[.int .i64 c, .int .i64 lo, .int .i64 hi] := by
  obtain ⟨cs, rfl, hsz⟩ := okWide_struct Try.underlying41 hv
  obtain ⟨l⟩ := cs
  obtain ⟨c0, c1, c2, rfl⟩ := list3 (hsz.trans cells_read)
  obtain ⟨fuel, hf⟩ := h
  obtain ⟨c, lo, hi, rfl, rfl, rfl⟩ := open_rd (by simpa [Value.cells] using hf)
  exact ⟨c, lo, hi, rfl⟩
end
theorem more_u8 {n : Int} (h : (Lit.int .u8 n).wf = true) : 0 ≤ n ∧ n ≤ 255 := by
  have e1 : IntKind.u8.min = 0 := rfl
  have e2 : IntKind.u8.max = 255 := rfl
  simp only [Lit.wf, Bool.and_eq_true, decide_eq_true_eq] at h
  omega
theorem more_any (F : Fr) (p q r wh : Int) (w : World) (hI : F.In w) (b0 : 0 ≤ wh) (b1 : wh ≤ 255) : Calls Try.prog 11 #[F.v, .agg #[.int .i64 p, .int .i64 q, .int .i64 r], .int .u8 wh] w (RetB true w) := by
  cases hl : F.long with
  | true => exact more_long F p q r wh w hI hl
  | false =>
    cases hok : F.ok with
    | true => exact more_right F p q r wh w hI hok b0 b1
    | false => exact more_bad F p q r wh w hI hl hok

set_option maxRecDepth 100000 in
theorem more_lifted (os : Os) (started : os.Started) (H : Type) (enc : TypeId × Value → H) :
    ReturnsInHanded {} Try.checked os 11 .any (Rows.fringeMoreSpec.pre6 enc Try.prog Try.f11 Rows.fringeMoreRow.domain false) (Rows.fringeMoreSpec.post enc Try.prog Try.f11 false true false false) := by
  refine returnsInHanded_of_change (C := Try.checked) own_knob started (by kernel_rfl) Try.func11
    (ChangeSpec.witness6 (enc := enc) (C := Try.checked) false ⟨#[], #[.agg #[.slice none 0 0, .int .i64 0, .int .i64 0, .slice none 0 0], .agg #[.int .i64 0, .int .i64 0, .int .i64 0], .int .u8 0], []⟩ 8 (by kernel_rfl) (by kernel_rfl) (by kernel_rfl) (by kernel_rfl)) ?_
  intro W base args ds gs before hval0 hW _ _
  have hval : ∀ (j : Nat) t v, Try.f11.params[j]? = some t → args[j]? = some v → Value.okWide Try.prog W .any base t v := hval0
  have hW' := hW
  obtain ⟨p, q, hA, hV, rfl, _, _⟩ := hW
  rw [Try.params11] at hA hval
  obtain ⟨v0, v1, v2, d0, d1, d2, p0, p1, p2, rfl, rfl, rfl, h0, h1, h2⟩ := trodAll_three hA
  obtain ⟨rfl, rfl⟩ := trodVars_none hV
  obtain ⟨F, rfl, hI⟩ := open_fringe (hval 0 _ _ rfl rfl) h0
  obtain ⟨rp, rq, rr, rfl⟩ := open_reading (hval 1 _ _ rfl rfl) h1
  obtain ⟨y, rfl, rfl, _, hy⟩ := open_int Try.underlying5 (hval 2 _ _ rfl rfl) h2
  refine (more_any F rp rq rr y W hI (more_u8 hy).1 (more_u8 hy).2).mono fun e W' ⟨he, hk⟩ => ?_
  subst he
  exact ⟨_, rfl, law_post hW' rfl (by kernel_rfl) rfl hk (by
    rw [Try.params11]
    have h : ([27, 41, 5].all fun t => Try.prog.readableRec t && decide (t < Try.prog.types.size)) = true := by kernel_rfl
    intro t ht
    have := List.all_eq_true.1 h t ht
    simpa using this)⟩

theorem FringeMore_holds : Rows.FringeMoreSaid :=
  OpenClaim.holds_of_wide 11 Try.f11 rfl rfl rfl rfl rfl rfl rfl ⟨rfl, rfl, rfl, rfl, rfl⟩ rfl rfl rfl rfl rfl (by kernel_rfl) Try.func11 (by kernel_rfl)
    (of_decide_eq_true (by kernel_rfl)) (by unfold Func.isWrapper; first | (rw [if_pos (by decide +kernel)]; kernel_rfl) | (rw [if_neg (by decide +kernel)]; exact ⟨rfl, rfl⟩))
    (fun os started H enc _ => more_lifted os started H enc)
#print axioms FringeMore_holds
end Go.Proofs.Ytoidnbpbeblokaa
