/-
  PairTrue answers true for every list of numbers: of a pair that is made by remainders, with readings that are right, none must be wrong and none clash; each deviation, by how much two blocks differ, and what is shown at a minute, is within what is told; whoever is truly longest can be, and who surely is truly is. No condition.
-/
import Derived.Test.YthnhcacoegmdfaaHZk
import Derived.Test.YthnhcacoegmdfaaGj
import Derived.Test.YthnhcacoegmdfaaHH7
namespace Go.Proofs.Ythnhcacoegmdfaa
open Go.ChangeShapes Go.WideShapes Go.ChangeAt Go.RowKit Go.Proofs.Try

theorem cells_u16s : Try.prog.cellsOf 103 = 1 := by kernel_rfl
theorem lit_u16s {n : Int} (h : (Lit.int .u16 n).wf = true) : 0 ≤ n ∧ n ≤ 65535 := by
  have e1 : IntKind.u16.min = 0 := rfl
  have e2 : IntKind.u16.max = 65535 := rfl
  simp only [Lit.wf, Bool.and_eq_true, decide_eq_true_eq] at h
  omega
theorem open_u16s {H : Type} {enc : TypeId × Value → H} {W : World} {held : Bool} {n : Nat} {c : Value} {y : DataW H × List MemPlace} (h : DataW.trod enc Try.prog W 0 (fun _ => true) held n 42 [c] = some y) : ∃ (a : Option Addr) (xs : List Int) (cap : Nat), c = .slice a xs.length cap ∧ RowU W a xs ∧ xs.length ≤ maxLen := by
  rcases open_ints Try.underlying42 Try.underlying103 cells_u16s h with ⟨h0, _⟩ | ⟨a, len, cap, zs, hc, _, hlc, hcm, hz, _, hcell, hwf⟩
  · exact ⟨none, [], 0, by simpa using h0, fun h => absurd rfl h, by simp⟩
  · simp only [if_true] at hz
    refine ⟨some a, zs.take len, cap, by rw [List.length_take, Nat.min_eq_left (by omega)]; simpa using hc, fun hne => ?_, by rw [List.length_take]; omega⟩
    have hpos := List.length_pos_iff.2 hne
    rw [List.length_take] at hpos
    obtain ⟨b, o, spot⟩ := a
    have hspot : spot = none := by simpa [Addr.add] using World.cell?_spot (hcell 0 (by omega))
    subst hspot
    refine ⟨b, o, rfl, fun i hi => ?_⟩
    rw [List.length_take] at hi
    have h1 := hcell i (by omega)
    rw [add_none] at h1
    have e : elU (zs.take len) i = zs[i]'(by omega) := by unfold elU; rw [List.getElem?_take_of_lt (by omega), List.getElem?_eq_getElem (by omega), Option.getD_some]
    have e2 : zs.getD i 0 = zs[i]'(by omega) := by rw [List.getD_eq_getElem?_getD, List.getElem?_eq_getElem (by omega), Option.getD_some]
    rw [e]
    rw [e2] at h1
    exact ⟨h1, lit_u16s (hwf (zs[i]'(by omega)) (List.getElem_mem _))⟩
theorem trodAll_n {H : Type} {enc : TypeId × Value → H} {P : Program} {w : World} {base : Nat} {spare : Nat → Bool} {held : Bool} {t0 : TypeId} {args : Array Value} {ds : List (DataW H)} {ps : List MemPlace} (h : DataW.TrodAll enc P w base spare held [t0] args.toList ds ps) :
    ∃ v0 d0 p0, args = #[v0] ∧ ds = [d0] ∧ ps = p0 ∧ DataW.Trod enc P w base spare held t0 v0 d0 p0 := by
  obtain ⟨v0, vs0, d0, ds0, p0, q0, hargs, rfl, rfl, hd0, hrest0⟩ := trodAll_cons h
  obtain ⟨rfl, rfl, rfl⟩ := trodAll_nil hrest0
  exact ⟨v0, d0, p0, by cases args; simp_all, rfl, by simp, hd0⟩
set_option maxRecDepth 100000 in
theorem pairTrue_lifted (os : Os) (started : os.Started) (H : Type) (enc : TypeId × Value → H) :
    ReturnsInHanded {} Try.checked os 4 .any (Rows.pairTrueSpec.pre6 enc Try.prog Try.f4 Rows.pairTrueRow.domain false) (Rows.pairTrueSpec.post enc Try.prog Try.f4 false true false false) := by
  refine returnsInHanded_of_change (C := Try.checked) own_knob started (by kernel_rfl) Try.func4
    (ChangeSpec.witness6 (enc := enc) (C := Try.checked) false ⟨#[], #[.slice none 0 0], []⟩ 8 (by kernel_rfl) (by kernel_rfl) (by kernel_rfl) (by kernel_rfl)) ?_
  intro W base args ds gs before hval0 hW _ _
  have hval : ∀ (j : Nat) t v, Try.f4.params[j]? = some t → args[j]? = some v → Value.okWide Try.prog W .any base t v := hval0
  have hW' := hW
  obtain ⟨p, q, hA, hV, rfl, _, _⟩ := hW
  rw [Try.params4] at hA hval
  obtain ⟨v0, d0, p0, rfl, rfl, rfl, h0⟩ := trodAll_n hA
  obtain ⟨rfl, rfl⟩ := trodVars_none hV
  obtain ⟨sa0, sn0, sk0, rfl⟩ := okWide_slice Try.underlying42 (hval 0 _ _ rfl rfl)
  obtain ⟨fu0, hfu0⟩ := h0
  obtain ⟨a0, l0, k0, he0, hr0, hl0⟩ := open_u16s (c := .slice sa0 sn0 sk0) (show DataW.trod enc Try.prog W 0 (fun _ => true) true fu0 42 [.slice sa0 sn0 sk0] = some (d0, _) from hfu0)
  cases he0
  refine (pairTrue_any l0 sa0 sk0 W hr0 hl0).mono fun e W' ⟨he, hk⟩ => ?_
  subst he
  exact ⟨_, rfl, law_post hW' rfl (by kernel_rfl) rfl hk (by
    rw [Try.params4]
    have h : ([42].all fun t => Try.prog.readableRec t && decide (t < Try.prog.types.size)) = true := by kernel_rfl
    intro t ht
    have := List.all_eq_true.1 h t ht
    simpa using this)⟩

theorem PairTrue_holds : Rows.PairTrueSaid :=
  OpenClaim.holds_of_wide 4 Try.f4 rfl rfl rfl rfl rfl rfl rfl ⟨rfl, rfl, rfl, rfl, rfl⟩ rfl rfl rfl rfl rfl (by kernel_rfl) Try.func4 (by kernel_rfl)
    (of_decide_eq_true (by kernel_rfl)) (by unfold Func.isWrapper; first | (rw [if_pos (by decide +kernel)]; kernel_rfl) | (rw [if_neg (by decide +kernel)]; exact ⟨rfl, rfl⟩))
    (fun os started H enc _ => pairTrue_lifted os started H enc)
#print axioms PairTrue_holds
end Go.Proofs.Ythnhcacoegmdfaa
