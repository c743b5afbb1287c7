/-
  WarmNext answers true for every block, every list of bytes and every byte: an exact reading at the offer that is told leaves at most so many pairs, and for some number as many; at another one no fewer, nor as many, if it comes before; what such a reading leaves comes to all pairs together. No condition.
-/
import Derived.Test.YtdfiebfgmpdceaaZk
import Derived.Test.YtdfiebfgmpdceaaG1
import Derived.Test.YtdfiebfgmpdceaaN5
namespace Go.Proofs.Ytdfiebfgmpdceaa
open Go.ChangeShapes Go.WideShapes Go.ChangeAt Go.RowKit

theorem u8_bd {n : Int} (h : (Lit.int .u8 n).wf = true) : 0 ≤ n ∧ n ≤ 255 := by
  have e1 : IntKind.u8.min = 0 := rfl
  have e2 : IntKind.u8.max = 255 := rfl
  simp only [Lit.wf, Bool.and_eq_true, decide_eq_true_eq] at h
  omega
theorem cells_u8 : Try.prog.cellsOf 5 = 1 := by kernel_rfl
theorem lit_u8 {n : Int} (h : (Lit.int .u8 n).wf = true) : 0 ≤ n ∧ n ≤ 255 := by
  have e1 : IntKind.u8.min = 0 := rfl
  have e2 : IntKind.u8.max = 255 := rfl
  simp only [Lit.wf, Bool.and_eq_true, decide_eq_true_eq] at h
  omega
theorem open_u8s {H : Type} {enc : TypeId × Value → H} {W : World} {held : Bool} {n : Nat} {c : Value} {y : DataW H × List MemPlace} (h : DataW.trod enc Try.prog W 0 (fun _ => true) held n 58 [c] = some y) : ∃ (a : Option Addr) (xs : List Int) (cap : Nat), c = .slice a xs.length cap ∧ U8s W a xs ∧ xs.length ≤ maxLen := by
  rcases open_ints Try.underlying58 Try.underlying5 cells_u8 h with ⟨h0, _⟩ | ⟨a, len, cap, zs, hc, _, hlc, hcm, hz, _, hcell, hwf⟩
  · exact ⟨none, [], 0, by simpa using h0, fun h => absurd rfl h, by simp⟩
  · simp only [if_true] at hz
    refine ⟨some a, zs.take len, cap, by rw [List.length_take, Nat.min_eq_left (by omega)]; simpa using hc, fun hne => ?_, by rw [List.length_take]; omega⟩
    have hpos := List.length_pos_iff.2 hne
    rw [List.length_take] at hpos
    obtain ⟨b, o, spot⟩ := a
    have hspot : spot = none := by simpa [Addr.add] using World.cell?_spot (hcell 0 (by omega))
    subst hspot
    refine ⟨b, o, rfl, fun i hi => ?_⟩
    rw [List.length_take] at hi
    have h1 := hcell i (by omega)
    rw [add_none] at h1
    rw [List.getElem?_take_of_lt (by omega)]
    have h2 := lit_u8 (hwf (zs[i]'(by omega)) (List.getElem_mem _))
    have e : zs[i]?.getD 0 = zs[i]'(by omega) := by rw [List.getElem?_eq_getElem (by omega), Option.getD_some]
    rw [e]
    refine ⟨?_, h2⟩
    rw [h1, List.getD_eq_getElem?_getD, e]

set_option maxRecDepth 100000 in
theorem warmNext_lifted (os : Os) (started : os.Started) (H : Type) (enc : TypeId × Value → H) :
    ReturnsInHanded {} Try.checked os 10 .any (Rows.warmNextSpec.pre6 enc Try.prog Try.f10 Rows.warmNextRow.domain false) (Rows.warmNextSpec.post enc Try.prog Try.f10 false true false false) := by
  refine returnsInHanded_of_change (C := Try.checked) own_knob started (by kernel_rfl) Try.func10
    (ChangeSpec.witness6 (enc := enc) (C := Try.checked) false ⟨#[], #[.agg #[.int .i64 0, .int .i64 0, .int .i64 0, .int .i64 0, .int .i64 0, .slice none 0 0], .slice none 0 0, .int .u8 0], []⟩ 8 (by kernel_rfl) (by kernel_rfl) (by kernel_rfl) (by kernel_rfl)) ?_
  intro W base args ds gs before hval0 hW _ _
  have hval : ∀ (j : Nat) t v, Try.f10.params[j]? = some t → args[j]? = some v → Value.okWide Try.prog W .any base t v := hval0
  have hW' := hW
  obtain ⟨p, q, hA, hV, rfl, _, _⟩ := hW
  rw [Try.params10] at hA hval
  obtain ⟨v0, v1, v2, d0, d1, d2, p0, p1, p2, rfl, rfl, rfl, h0, h1, h2⟩ := trodAll_three hA
  obtain ⟨rfl, rfl⟩ := trodVars_none hV
  obtain ⟨B, rfl, hI⟩ := open_warm (hval 0 _ _ rfl rfl) h0
  obtain ⟨a0, n0, c0, rfl⟩ := okWide_slice Try.underlying58 (hval 1 _ _ rfl rfl)
  obtain ⟨fuel, hfu⟩ := h1
  obtain ⟨a, xs, cap, he, hU, hl⟩ := open_u8s (c := .slice a0 n0 c0) (show DataW.trod enc Try.prog W 0 (fun _ => true) true fuel 58 [.slice a0 n0 c0] = some (d1, p1) from hfu)
  cases he
  obtain ⟨y, rfl, rfl, _, hy⟩ := open_int Try.underlying5 (hval 2 _ _ rfl rfl) h2
  refine (warmNext_any B a0 c0 xs y W hI hU hl (u8_bd hy).1 (u8_bd hy).2).mono fun e W' ⟨he, hk⟩ => ?_
  subst he
  exact ⟨_, rfl, law_post hW' rfl (by kernel_rfl) rfl hk (by
    rw [Try.params10]
    have h : ([26, 58, 5].all fun t => Try.prog.readableRec t && decide (t < Try.prog.types.size)) = true := by kernel_rfl
    intro t ht
    have := List.all_eq_true.1 h t ht
    simpa using this)⟩

theorem WarmNext_holds : Rows.WarmNextSaid :=
  OpenClaim.holds_of_wide 10 Try.f10 rfl rfl rfl rfl rfl rfl rfl ⟨rfl, rfl, rfl, rfl, rfl⟩ rfl rfl rfl rfl rfl (by kernel_rfl) Try.func10 (by kernel_rfl)
    (of_decide_eq_true (by kernel_rfl)) (by unfold Func.isWrapper; first | (rw [if_pos (by decide +kernel)]; kernel_rfl) | (rw [if_neg (by decide +kernel)]; exact ⟨rfl, rfl⟩))
    (fun os started H enc _ => warmNext_lifted os started H enc)
#print axioms WarmNext_holds
end Go.Proofs.Ytdfiebfgmpdceaa
