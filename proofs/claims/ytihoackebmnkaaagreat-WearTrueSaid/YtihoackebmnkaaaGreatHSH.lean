/-
  WearTrue answers true for every block and numbers: however much each use and lap truly took off, the length after each event and what is lost are within what is told, it was too short just as told, for as many uses as are told it is not too short, on no day before the one told, and a reading of its true length can fit. No condition.
-/
import Derived.Test.YtihoackebmnkaaaGreatHZk
import Derived.Test.YtihoackebmnkaaaGreatGj
import Derived.Test.YtihoackebmnkaaaGreatHJ5
namespace Go.Proofs.YtihoackebmnkaaaGreat
open Go.ChangeShapes Go.WideShapes Go.ChangeAt Go.RowKit Go.Proofs.Tryz

theorem cells_u16s : Tryz.prog.cellsOf 44 = 1 := by kernel_rfl
theorem lit_u16s {n : Int} (h : (Lit.int .u16 n).wf = true) : 0 ≤ n ∧ n ≤ 65535 := by
  have e1 : IntKind.u16.min = 0 := rfl
  have e2 : IntKind.u16.max = 65535 := rfl
  simp only [Lit.wf, Bool.and_eq_true, decide_eq_true_eq] at h
  omega
theorem open_u16s {H : Type} {enc : TypeId × Value → H} {W : World} {held : Bool} {n : Nat} {c : Value} {y : DataW H × List MemPlace} (h : DataW.trod enc Tryz.prog W 0 (fun _ => true) held n 43 [c] = some y) : ∃ (a : Option Addr) (xs : List Int) (cap : Nat), c = .slice a xs.length cap ∧ RowU W a xs ∧ xs.length ≤ maxLen := by
  rcases open_ints Tryz.underlying43 Tryz.underlying44 cells_u16s h with ⟨h0, _⟩ | ⟨a, len, cap, zs, hc, _, hlc, hcm, hz, _, hcell, hwf⟩
  · exact ⟨none, [], 0, by simpa using h0, fun h => absurd rfl h, by simp⟩
  · simp only [if_true] at hz
    refine ⟨some a, zs.take len, cap, by rw [List.length_take, Nat.min_eq_left (by omega)]; simpa using hc, fun hne => ?_, by rw [List.length_take]; omega⟩
    have hpos := List.length_pos_iff.2 hne
    rw [List.length_take] at hpos
    obtain ⟨b, o, spot⟩ := a
    have hspot : spot = none := by simpa [Addr.add] using World.cell?_spot (hcell 0 (by omega))
    subst hspot
    refine ⟨b, o, rfl, fun i hi => ?_⟩
    rw [List.length_take] at hi
    have h1 := hcell i (by omega)
    rw [add_none] at h1
    have e : elI (zs.take len) i = zs[i]'(by omega) := by unfold elI; rw [List.getElem?_take_of_lt (by omega), List.getElem?_eq_getElem (by omega), Option.getD_some]
    have e2 : zs.getD i 0 = zs[i]'(by omega) := by rw [List.getD_eq_getElem?_getD, List.getElem?_eq_getElem (by omega), Option.getD_some]
    rw [e]
    rw [e2] at h1
    exact ⟨h1, lit_u16s (hwf (zs[i]'(by omega)) (List.getElem_mem _))⟩
theorem cells_u8s : Tryz.prog.cellsOf 5 = 1 := by kernel_rfl
theorem lit_u8s {n : Int} (h : (Lit.int .u8 n).wf = true) : 0 ≤ n ∧ n ≤ 255 := by
  have e1 : IntKind.u8.min = 0 := rfl
  have e2 : IntKind.u8.max = 255 := rfl
  simp only [Lit.wf, Bool.and_eq_true, decide_eq_true_eq] at h
  omega
theorem open_u8s {H : Type} {enc : TypeId × Value → H} {W : World} {held : Bool} {n : Nat} {c : Value} {y : DataW H × List MemPlace} (h : DataW.trod enc Tryz.prog W 0 (fun _ => true) held n 45 [c] = some y) : ∃ (a : Option Addr) (xs : List Int) (cap : Nat), c = .slice a xs.length cap ∧ RowB W a xs ∧ xs.length ≤ maxLen := by
  rcases open_ints Tryz.underlying45 Tryz.underlying5 cells_u8s h with ⟨h0, _⟩ | ⟨a, len, cap, zs, hc, _, hlc, hcm, hz, _, hcell, hwf⟩
  · exact ⟨none, [], 0, by simpa using h0, fun h => absurd rfl h, by simp⟩
  · simp only [if_true] at hz
    refine ⟨some a, zs.take len, cap, by rw [List.length_take, Nat.min_eq_left (by omega)]; simpa using hc, fun hne => ?_, by rw [List.length_take]; omega⟩
    have hpos := List.length_pos_iff.2 hne
    rw [List.length_take] at hpos
    obtain ⟨b, o, spot⟩ := a
    have hspot : spot = none := by simpa [Addr.add] using World.cell?_spot (hcell 0 (by omega))
    subst hspot
    refine ⟨b, o, rfl, fun i hi => ?_⟩
    rw [List.length_take] at hi
    have h1 := hcell i (by omega)
    rw [add_none] at h1
    have e : elI (zs.take len) i = zs[i]'(by omega) := by unfold elI; rw [List.getElem?_take_of_lt (by omega), List.getElem?_eq_getElem (by omega), Option.getD_some]
    have e2 : zs.getD i 0 = zs[i]'(by omega) := by rw [List.getD_eq_getElem?_getD, List.getElem?_eq_getElem (by omega), Option.getD_some]
    rw [e]
    rw [e2] at h1
    exact ⟨h1, lit_u8s (hwf (zs[i]'(by omega)) (List.getElem_mem _))⟩
theorem trodAll_n {H : Type} {enc : TypeId × Value → H} {P : Program} {w : World} {base : Nat} {spare : Nat → Bool} {held : Bool} {t0 t1 t2 t3 : TypeId} {args : Array Value} {ds : List (DataW H)} {ps : List MemPlace} (h : DataW.TrodAll enc P w base spare held [t0, t1, t2, t3] args.toList ds ps) :
    ∃ v0 v1 v2 v3 d0 d1 d2 d3 p0 p1 p2 p3, args = #[v0, v1, v2, v3] ∧ ds = [d0, d1, d2, d3] ∧ ps = p0 ++ p1 ++ p2 ++ p3 ∧ DataW.Trod enc P w base spare held t0 v0 d0 p0 ∧ DataW.Trod enc P w base spare held t1 v1 d1 p1 ∧ DataW.Trod enc P w base spare held t2 v2 d2 p2 ∧ DataW.Trod enc P w base spare held t3 v3 d3 p3 := by
  obtain ⟨v0, vs0, d0, ds0, p0, q0, hargs, rfl, rfl, hd0, hrest0⟩ := trodAll_cons h
  obtain ⟨v1, vs1, d1, ds1, p1, q1, rfl, rfl, rfl, hd1, hrest1⟩ := trodAll_cons hrest0
  obtain ⟨v2, vs2, d2, ds2, p2, q2, rfl, rfl, rfl, hd2, hrest2⟩ := trodAll_cons hrest1
  obtain ⟨v3, vs3, d3, ds3, p3, q3, rfl, rfl, rfl, hd3, hrest3⟩ := trodAll_cons hrest2
  obtain ⟨rfl, rfl, rfl⟩ := trodAll_nil hrest3
  exact ⟨v0, v1, v2, v3, d0, d1, d2, d3, p0, p1, p2, p3, by cases args; simp_all, rfl, by simp, hd0, hd1, hd2, hd3⟩
theorem u16_bd {n : Int} (h : (Lit.int .u16 n).wf = true) : 0 ≤ n ∧ n ≤ 65535 := by
  have e1 : IntKind.u16.min = 0 := rfl
  have e2 : IntKind.u16.max = 65535 := rfl
  simp only [Lit.wf, Bool.and_eq_true, decide_eq_true_eq] at h
  omega
set_option maxRecDepth 100000 in
theorem wearTrue_lifted (os : Os) (started : os.Started) (H : Type) (enc : TypeId × Value → H) :
    ReturnsInHanded {} Tryz.checked os 5 .any (Rows.wearTrueSpec.pre6 enc Tryz.prog Tryz.f5 Rows.wearTrueRow.domain false) (Rows.wearTrueSpec.post enc Tryz.prog Tryz.f5 false true false false) := by
  refine returnsInHanded_of_change (C := Tryz.checked) own_knob started (by kernel_rfl) Tryz.func5
    (ChangeSpec.witness6 (enc := enc) (C := Tryz.checked) false ⟨#[], #[.agg #[.int .i64 0, .int .i64 0, .int .i64 0, .int .i64 0, .slice none 0 0], .slice none 0 0, .int .u16 0, .slice none 0 0], []⟩ 8 (by kernel_rfl) (by kernel_rfl) (by kernel_rfl) (by kernel_rfl)) ?_
  intro W base args ds gs before hval0 hW _ _
  have hval : ∀ (j : Nat) t v, Tryz.f5.params[j]? = some t → args[j]? = some v → Value.okWide Tryz.prog W .any base t v := hval0
  have hW' := hW
  obtain ⟨p, q, hA, hV, rfl, _, _⟩ := hW
  rw [Tryz.params5] at hA hval
  obtain ⟨v0, v1, v2, v3, d0, d1, d2, d3, p0, p1, p2, p3, rfl, rfl, rfl, h0, h1, h2, h3⟩ := trodAll_n hA
  obtain ⟨rfl, rfl⟩ := trodVars_none hV
  obtain ⟨B0, rfl, hI0⟩ := open_wear (hval 0 _ _ rfl rfl) h0
  obtain ⟨sa1, sn1, sk1, rfl⟩ := okWide_slice Tryz.underlying43 (hval 1 _ _ rfl rfl)
  obtain ⟨fu1, hfu1⟩ := h1
  obtain ⟨a1, l1, k1, he1, hr1, hl1⟩ := open_u16s (c := .slice sa1 sn1 sk1) (show DataW.trod enc Tryz.prog W 0 (fun _ => true) true fu1 43 [.slice sa1 sn1 sk1] = some (d1, _) from hfu1)
  cases he1
  obtain ⟨y2, rfl, rfl, _, b2⟩ := open_int Tryz.underlying44 (hval 2 _ _ rfl rfl) h2
  obtain ⟨sa3, sn3, sk3, rfl⟩ := okWide_slice Tryz.underlying45 (hval 3 _ _ rfl rfl)
  obtain ⟨fu3, hfu3⟩ := h3
  obtain ⟨a3, l3, k3, he3, hr3, hl3⟩ := open_u8s (c := .slice sa3 sn3 sk3) (show DataW.trod enc Tryz.prog W 0 (fun _ => true) true fu3 45 [.slice sa3 sn3 sk3] = some (d3, _) from hfu3)
  cases he3
  refine (wearTrue_any B0 l1 sa1 sk1 y2 l3 sa3 sk3 (u16_bd b2).1 (u16_bd b2).2 W hI0 hr1 hl1 hr3 hl3).mono fun e W' ⟨he, hk⟩ => ?_
  subst he
  exact ⟨_, rfl, law_post hW' rfl (by kernel_rfl) rfl hk (by
    rw [Tryz.params5]
    have h : ([26, 43, 44, 45].all fun t => Tryz.prog.readableRec t && decide (t < Tryz.prog.types.size)) = true := by kernel_rfl
    intro t ht
    have := List.all_eq_true.1 h t ht
    simpa using this)⟩

theorem WearTrue_holds : Rows.WearTrueSaid :=
  OpenClaim.holds_of_wide 5 Tryz.f5 rfl rfl rfl rfl rfl rfl rfl ⟨rfl, rfl, rfl, rfl, rfl⟩ rfl rfl rfl rfl rfl (by kernel_rfl) Tryz.func5 (by kernel_rfl)
    (of_decide_eq_true (by kernel_rfl)) (by unfold Func.isWrapper; first | (rw [if_pos (by decide +kernel)]; kernel_rfl) | (rw [if_neg (by decide +kernel)]; exact ⟨rfl, rfl⟩))
    (fun os started H enc _ => wearTrue_lifted os started H enc)
#print axioms WearTrue_holds
end Go.Proofs.YtihoackebmnkaaaGreat
