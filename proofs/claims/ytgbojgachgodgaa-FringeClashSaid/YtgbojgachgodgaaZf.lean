/-
  FringeClash answers true for every fringe and bits: the readings that are told clash alone, and without any one of them the others do not; others that clash are no fewer; without those that are told to be wrong there is a truth; and none clash just if none must be wrong. No condition.
-/
import Derived.Test.YtgbojgachgodgaaZk
import Derived.Test.YtgbojgachgodgaaZo
import Derived.Test.YtgbojgachgodgaaUe
import Derived.Test.YtgbojgachgodgaaUf
import Derived.Test.YtgbojgachgodgaaUg
import Derived.Test.YtgbojgachgodgaaUh
namespace Go.Proofs.Ytgbojgachgodgaa
open Go.ChangeShapes Go.WideShapes Go.ChangeAt Go.RowKit

theorem u8_bd {n : Int} (h : (Lit.int .u8 n).wf = true) : 0 ≤ n ∧ n ≤ 255 := by
  have e1 : IntKind.u8.min = 0 := rfl
  have e2 : IntKind.u8.max = 255 := rfl
  simp only [Lit.wf, Bool.and_eq_true, decide_eq_true_eq] at h
  omega
theorem fc_any (F : Fr) (bi : Int) (w : World) (hI : F.In w) (b0 : 0 ≤ bi) (b1 : bi ≤ 255) : Calls Try.prog 10 #[F.v, .int .u8 bi] w (RetB true w) := by
  cases hl : F.long with
  | true => exact fc_long F bi w hI hl
  | false =>
    cases hok : F.ok with
    | false => exact fc_bad F bi w hI hl hok
    | true =>
      cases hc : F.clash with
      | none => exact fc_none F bi w hI hok b0 b1 hc
      | some x =>
        obtain ⟨S, o, T, e1, e2, e3, t64, s1, sT, oT, po1, cS, cT, co, coT, hand, hrem, hmin, hout⟩ := clash_facts F hok hc
        obtain ⟨own, ho1, ho2⟩ := and_full F.rs.length (F.rl_in hok) bi b0 b1
        have hone : ∀ own' : Nat, bits .and .i64 bi ((2 ^ F.rs.length - 1 : Nat) : Int) = own' → own' = own := fun own' h => Int.ofNat.inj (h.symm.trans ho1)
        cases hcw : F.clB (cm (2 ^ F.rs.length - 1) own) with
        | true => exact fc_some_a F bi w hI hok b0 b1 x hc (fun own' _ h => by rw [hone own' h]; exact hcw)
        | false =>
          have hle : own ≤ T := by rw [← e3]; exact Nat.le_sub_one_of_lt ho2
          have h2 := (hout own hle).2 (by rw [← e3]; exact hcw)
          rcases h2 with h | h
          · exact fc_some_b F bi w hI hok b0 b1 x hc (fun own' _ h' => by rw [hone own' h', e2]; exact ⟨hcw, h⟩)
          · exact fc_some_c F bi w hI hok b0 b1 x hc (fun own' _ h' => by rw [hone own' h', e2]; exact ⟨hcw, h⟩)

set_option maxRecDepth 100000 in
theorem clash_lifted (os : Os) (started : os.Started) (H : Type) (enc : TypeId × Value → H) :
    ReturnsInHanded {} Try.checked os 10 .any (Rows.fringeClashSpec.pre6 enc Try.prog Try.f10 Rows.fringeClashRow.domain false) (Rows.fringeClashSpec.post enc Try.prog Try.f10 false true false false) := by
  refine returnsInHanded_of_change (C := Try.checked) own_knob started (by kernel_rfl) Try.func10
    (ChangeSpec.witness6 (enc := enc) (C := Try.checked) false ⟨#[], #[.agg #[.slice none 0 0, .int .i64 0, .int .i64 0, .slice none 0 0], .int .u8 0], []⟩ 8 (by kernel_rfl) (by kernel_rfl) (by kernel_rfl) (by kernel_rfl)) ?_
  intro W base args ds gs before hval0 hW _ _
  have hval : ∀ (j : Nat) t v, Try.f10.params[j]? = some t → args[j]? = some v → Value.okWide Try.prog W .any base t v := hval0
  have hW' := hW
  obtain ⟨p, q, hA, hV, rfl, _, _⟩ := hW
  rw [Try.params10] at hA hval
  obtain ⟨v0, v1, d0, d1, p0, p1, rfl, rfl, rfl, h0, h1⟩ := trodAll_two hA
  obtain ⟨rfl, rfl⟩ := trodVars_none hV
  obtain ⟨F, rfl, hI⟩ := open_fringe (hval 0 _ _ rfl rfl) h0
  obtain ⟨x, rfl, rfl, _, hx⟩ := open_int Try.underlying5 (hval 1 _ _ rfl rfl) h1
  refine (fc_any F x W hI (u8_bd hx).1 (u8_bd hx).2).mono fun e W' ⟨he, hk⟩ => ?_
  subst he
  exact ⟨_, rfl, law_post hW' rfl (by kernel_rfl) rfl hk (by
    rw [Try.params10]
    have h : ([27, 5].all fun t => Try.prog.readableRec t && decide (t < Try.prog.types.size)) = true := by kernel_rfl
    intro t ht
    have := List.all_eq_true.1 h t ht
    simpa using this)⟩

theorem FringeClash_holds : Rows.FringeClashSaid :=
  OpenClaim.holds_of_wide 10 Try.f10 rfl rfl rfl rfl rfl rfl rfl ⟨rfl, rfl, rfl, rfl, rfl⟩ rfl rfl rfl rfl rfl (by kernel_rfl) Try.func10 (by kernel_rfl)
    (of_decide_eq_true (by kernel_rfl)) (by unfold Func.isWrapper; first | (rw [if_pos (by decide +kernel)]; kernel_rfl) | (rw [if_neg (by decide +kernel)]; exact ⟨rfl, rfl⟩))
    (fun os started H enc _ => clash_lifted os started H enc)
#print axioms FringeClash_holds
end Go.Proofs.Ytgbojgachgodgaa
