/-
  FringeTrue answers true for every list of numbers: however long a block truly is, if readings are right, the length is among those that are told, nothing is told to be nearer, its whole fringes and its part are told in each colour, there is a truth, no reading must be wrong, none clash, and a reading of the part that it leaves in the colour that is told leaves no more lengths than are told. No condition.
-/
import Derived.Test.YtoidnbpbeblokaaZk
import Derived.Test.YtoidnbpbeblokaaZo
import Derived.Test.YtoidnbpbeblokaaVi
namespace Go.Proofs.Ytoidnbpbeblokaa
open Go.ChangeShapes Go.WideShapes Go.ChangeAt Go.RowKit

theorem cells_u16 : Try.prog.cellsOf 58 = 1 := by kernel_rfl
theorem lit_u16 {n : Int} (h : (Lit.int .u16 n).wf = true) : 0 ≤ n ∧ n ≤ 65535 := by
  have e1 : IntKind.u16.min = 0 := rfl
  have e2 : IntKind.u16.max = 65535 := rfl
  simp only [Lit.wf, Bool.and_eq_true, decide_eq_true_eq] at h
  omega
theorem open_u16s {H : Type} {enc : TypeId × Value → H} {W : World} {held : Bool} {n : Nat} {c : Value} {y : DataW H × List MemPlace} (h : DataW.trod enc Try.prog W 0 (fun _ => true) held n 49 [c] = some y) : ∃ (a : Option Addr) (xs : List Int) (cap : Nat), c = .slice a xs.length cap ∧ U16s W a xs ∧ xs.length ≤ maxLen := by
  rcases open_ints Try.underlying49 Try.underlying58 cells_u16 h with ⟨h0, _⟩ | ⟨a, len, cap, zs, hc, _, hlc, hcm, hz, _, hcell, hwf⟩
  · exact ⟨none, [], 0, by simpa using h0, fun h => absurd rfl h, by simp⟩
  · simp only [if_true] at hz
    refine ⟨some a, zs.take len, cap, by rw [List.length_take, Nat.min_eq_left (by omega)]; simpa using hc, fun hne => ?_, by rw [List.length_take]; omega⟩
    have hpos := List.length_pos_iff.2 hne
    rw [List.length_take] at hpos
    obtain ⟨b, o, spot⟩ := a
    have hspot : spot = none := by simpa [Addr.add] using World.cell?_spot (hcell 0 (by omega))
    subst hspot
    refine ⟨b, o, rfl, fun i hi => ?_⟩
    rw [List.length_take] at hi
    have h1 := hcell i (by omega)
    rw [add_none] at h1
    rw [List.getElem?_take_of_lt (by omega)]
    have h2 := lit_u16 (hwf (zs[i]'(by omega)) (List.getElem_mem _))
    have e : zs[i]?.getD 0 = zs[i]'(by omega) := by rw [List.getElem?_eq_getElem (by omega), Option.getD_some]
    rw [e]
    refine ⟨?_, h2⟩
    rw [h1, List.getD_eq_getElem?_getD, e]

set_option maxRecDepth 100000 in
theorem true_lifted (os : Os) (started : os.Started) (H : Type) (enc : TypeId × Value → H) :
    ReturnsInHanded {} Try.checked os 5 .any (Rows.fringeTrueSpec.pre6 enc Try.prog Try.f5 Rows.fringeTrueRow.domain false) (Rows.fringeTrueSpec.post enc Try.prog Try.f5 false true false false) := by
  refine returnsInHanded_of_change (C := Try.checked) own_knob started (by kernel_rfl) Try.func5
    (ChangeSpec.witness6 (enc := enc) (C := Try.checked) false ⟨#[], #[.slice none 0 0], []⟩ 8 (by kernel_rfl) (by kernel_rfl) (by kernel_rfl) (by kernel_rfl)) ?_
  intro W base args ds gs before hval0 hW _ _
  have hval : ∀ (j : Nat) t v, Try.f5.params[j]? = some t → args[j]? = some v → Value.okWide Try.prog W .any base t v := hval0
  have hW' := hW
  obtain ⟨p, q, hA, hV, rfl, _, _⟩ := hW
  rw [Try.params5] at hA hval
  obtain ⟨v0, d0, rfl, rfl, h0⟩ := trodAll_one hA
  obtain ⟨rfl, rfl⟩ := trodVars_none hV
  obtain ⟨a0, n0, c0, rfl⟩ := okWide_slice Try.underlying49 (hval 0 _ _ rfl rfl)
  obtain ⟨fuel, hf⟩ := h0
  obtain ⟨a, xs, cap, he, hU, hl⟩ := open_u16s (c := .slice a0 n0 c0) (show DataW.trod enc Try.prog W 0 (fun _ => true) true fuel 49 [.slice a0 n0 c0] = some (d0, p) from hf)
  cases he
  refine (true_any a0 xs c0 W hU hl).mono fun e W' ⟨he, hk⟩ => ?_
  subst he
  exact ⟨_, rfl, law_post hW' rfl (by kernel_rfl) rfl hk (by
    rw [Try.params5]
    have h : ([49].all fun t => Try.prog.readableRec t && decide (t < Try.prog.types.size)) = true := by kernel_rfl
    intro t ht
    have := List.all_eq_true.1 h t ht
    simpa using this)⟩

theorem FringeTrue_holds : Rows.FringeTrueSaid :=
  OpenClaim.holds_of_wide 5 Try.f5 rfl rfl rfl rfl rfl rfl rfl ⟨rfl, rfl, rfl, rfl, rfl⟩ rfl rfl rfl rfl rfl (by kernel_rfl) Try.func5 (by kernel_rfl)
    (of_decide_eq_true (by kernel_rfl)) (by unfold Func.isWrapper; first | (rw [if_pos (by decide +kernel)]; kernel_rfl) | (rw [if_neg (by decide +kernel)]; exact ⟨rfl, rfl⟩))
    (fun os started H enc _ => true_lifted os started H enc)
#print axioms FringeTrue_holds
end Go.Proofs.Ytoidnbpbeblokaa
