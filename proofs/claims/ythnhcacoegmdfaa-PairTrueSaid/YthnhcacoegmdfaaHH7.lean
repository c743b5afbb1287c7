/-
  LAW: PairTrue, walked.
-/
import Derived.Test.YthnhcacoegmdfaaHH6
import Derived.Test.YthnhcacoegmdfaaHG3
import Derived.Test.YthnhcacoegmdfaaHF9
namespace Go.Proofs.Ythnhcacoegmdfaa
open Go.RowKit Go.Proofs.Try


theorem has_bit0 (s n : Nat) : (((s >>> n &&& 1 : Nat) : Int) == 0) = !s.testBit n := by
  rw [← has_bit, Nat.and_one_is_mod]
  rcases Nat.mod_two_eq_zero_or_one (s >>> n) with h | h <;> rw [h] <;> rfl
/-- Numbers of 16 bits that came in. -/
def RowU (w : World) (a : Option Addr) (L : List Int) : Prop := L ≠ [] → ∃ b o, a = some ⟨b, o, none⟩ ∧ ∀ i, i < L.length → w.cell? ⟨b, o + i, none⟩ = some (.int .u16 (elU L i)) ∧ 0 ≤ elU L i ∧ elU L i ≤ 65535
theorem RowU.us {w w1 : World} {a : Option Addr} {L : List Int} {ba : Nat} (h : RowU w a L) (k : Keeps w w1) (hb : w.heap.size ≤ ba) : Us w1 a L ba := by
  intro hne
  obtain ⟨b, o, ha, hc⟩ := h hne
  have hl := lt_of_cell (hc 0 (List.length_pos_iff.2 hne)).1
  exact ⟨b, o, ha, by omega, fun i hi => ⟨k.cell (hc i hi).1, (hc i hi).2⟩⟩
theorem own_in {p : Pr} {w : World} {g : Nat} {sp : List Value} {t : TypeId} {fr : Nat × Nat} (hg : w.heap[g]? = some (.cells (p.bs.flatMap spR ++ sp).toArray t fr)) (hb : p.ba = some ⟨g, 0, none⟩) (hF : p.Fine)
    {e : Nat} {cs : List Value} {et : TypeId} {fe : Nat × Nat} (he : w.heap[e]? = some (.cells cs.toArray et fe)) (hr : p.rs = [] ∨ p.ra = some ⟨e, 0, none⟩ ∧ ∃ sr, cs = p.rs.flatMap rdR ++ sr) : p.In w := by
  have h1 := hF.b5
  have h2 := hF.r8
  refine ⟨by rw [hb]; exact Bls.of_flat hg, ?_, by simp only [maxLen]; omega, by simp only [maxLen]; omega⟩
  rcases hr with h | ⟨h, sr, h3⟩
  · rw [h]
    exact fun h => absurd rfl h
  · subst h3
    rw [h]
    exact Rds.of_flat he
theorem spR_at {L : List (Int × Int)} {i : Nat} (h : i < L.length) : (spR L[i])[0]? = some (.int .i64 (elB L i).1) ∧ (spR L[i])[1]? = some (.int .i64 (elB L i).2) := by unfold elB; rw [List.getElem?_eq_getElem h]; exact ⟨rfl, rfl⟩
/-- Is the a-th one no less than the first k? -/
def lonB (ds : List Int) (a k : Nat) : Bool := (List.range k).all fun o => decide (elU ds o ≤ elU ds a)
theorem lonB_next (ds : List Int) (a k : Nat) : lonB ds a (k + 1) = (lonB ds a k && decide (elU ds k ≤ elU ds a)) := by
  unfold lonB
  rw [List.range_succ, List.all_append]
  simp
theorem lonB_yes {ds : List Int} {a k : Nat} (h : lonB ds a k = true) : ∀ o, o < k → elU ds o ≤ elU ds a := fun o ho => of_decide_eq_true (List.all_eq_true.1 h o (List.mem_range.2 ho))
theorem lonB_no {ds : List Int} {a k : Nat} (h : lonB ds a k = false) : ∃ o, o < k ∧ elU ds a < elU ds o := by
  obtain ⟨o, ho, h2⟩ := List.all_eq_false.1 h
  exact ⟨o, List.mem_range.1 ho, by simpa using h2⟩
set_option maxRecDepth 100000 in
set_option maxHeartbeats 4000000 in
theorem pairTrue_any (L : List Int) (aa : Option Addr) (cap : Nat) (w : World) (hR : RowU w aa L) (hlm : L.length ≤ maxLen) : Calls Try.prog 4 #[.slice aa L.length cap] w (RetB true w) := by
  refine calls_run (fn := f4) (c := (f4.body).getD .skip) [.slice aa L.length cap] func4 (by kernel_rfl) (fun _ => False) [] (fun _ h => by cases h) (List.Pairwise.nil) 210 (by kernel_rfl) (by simp) ?_
  refine run_auto [] 7 [] [] [2, 26] [] (st' := ⟨[(2, .bool false), (26, .slice aa L.length cap)], []⟩) (acc := []) (by kernel_rfl) (by kernel_rfl) trivial ?_
  refine run_nwl 21 #[.slice aa L.length cap] (some 27) (α := Nat × Nat) (fun x => .func (.func 57) #[] #[.pointer (some ⟨(x.1), 0, none⟩), .pointer (some ⟨(x.2), 0, none⟩)]) (fun x => [((x.1), aO #[iV 0] 3), ((x.2), aO #[.slice aa L.length cap] 42)]) (fun x => True) (by kernel_rfl) (fun x p hp => by simp only [List.mem_cons, List.not_mem_nil, or_false] at hp; rcases hp with rfl | rfl <;> rfl) (fun w1 k1 h1 => draws_any L aa cap w1) (fun x hI1 hn1 => ?_)
  obtain ⟨a1, b1⟩ := x
  dsimp only at hI1 hn1
  have ha1 := hn1 _ (List.mem_of_getElem? (i := 0) rfl)
  have hb1 := hn1 _ (List.mem_of_getElem? (i := 1) rfl)
  refine run_auto [] 5 [] [] [2, 3, 29] [0, 1] (st' := ⟨[(2, .bool false), (3, .func (.func 57) #[] #[pA a1, pA b1]), (29, .func (.func 57) #[] #[pA a1, pA b1])], [(a1, aO #[iV 0] 3), (b1, aO #[.slice aa L.length cap] 42)]⟩) (acc := []) (by kernel_rfl) (by kernel_rfl) trivial ?_
  refine run_nww 22 #[.func (.func 57) #[] #[pA a1, pA b1]] (some 30) (α := Pr × List Int × Int × Int × Nat × Nat × List Value × Nat × Nat × List Value × Nat × List Value × TypeId) (fun x => match x with | ⟨p, _, z, rt, _, _, _, d, c2, _, _, _, _⟩ => .tuple #[.agg #[.slice p.ba p.bs.length p.bc, iV p.zlo, iV p.zhi, iV p.rlo, iV p.rhi, .slice p.ra p.rs.length p.rc], sV d p.bs.length c2, iV z, iV rt]) (fun x => match x with | ⟨p, ds, _, _, _, g, sp, d, _, sq, e, cs, et⟩ => [(e, .cells (cs).toArray et (0, 0)), (g, cO ((p.bs).flatMap spR ++ sp) 23), (d, cO ((ds).flatMap inR ++ sq) 3)]) 0 a1 (aO #[iV 0] 3) (fun x => match x with | ⟨_, _, _, _, k, _, _, _, _, _, _, _, _⟩ => aO #[iV (k : Int)] 3) (fun x => match x with | ⟨p, ds, z, rt, k, g, _, _, c2, _, e, cs, _⟩ => Made p (z, rt) ds ∧ p.ba = some ⟨g, 0, none⟩ ∧ k ≤ 0 + 100 ∧ p.bs.length ≤ c2 ∧ (p.rs = [] ∨ p.ra = some ⟨e, 0, none⟩ ∧ ∃ sr, cs = p.rs.flatMap rdR ++ sr)) (by kernel_rfl) (by kernel_rfl) (fun x => rfl) (fun x p hp => ?_) (fun w1 k1 h1 => made_any a1 b1 0 cap L aa (by omega) w1 (h1 (a1, aO #[iV 0] 3) (List.mem_of_getElem? (i := 0) (by kernel_rfl))) (h1 (b1, aO #[.slice aa L.length cap] 42) (List.mem_of_getElem? (i := 1) (by kernel_rfl))) (hR.us (k1.keeps (fun _ h => h)) ha1) hlm) (fun x hI2 hn2 => ?_)
  · obtain ⟨p, ds, z, rt, k, g, sp, d, c2, sq, e, cs, (et)⟩ := x
    · simp only [List.mem_cons, List.not_mem_nil, or_false] at hp
      rcases hp with rfl | rfl | rfl <;> rfl
  obtain ⟨p, ds, z, rt, k, g, sp, d, c2, sq, e, cs, (et)⟩ := x
  · skip
    dsimp only at hI2 hn2
    have hI := hI2
    have he := hn2 _ (List.mem_of_getElem? (i := 0) rfl)
    have hg := hn2 _ (List.mem_of_getElem? (i := 1) rfl)
    have hd := hn2 _ (List.mem_of_getElem? (i := 2) rfl)
    obtain ⟨eM, hba, hk, hc2, hrd⟩ := hI
    have hF := eM.fine
    have hok := hF.okB
    have hn0 := eM.known
    have hlen1 := hF.b1
    have hlen5 := hF.b5
    have hr8 := hF.r8
    have hdl := eM.len
    have hz := hF.z
    have hr := hF.r
    have hcz : p.zlo ≤ z ∧ z ≤ p.zhi := (Prn.mem_comps.1 eM.comp).1
    have hcr : p.rlo ≤ rt ∧ rt ≤ p.rhi := (Prn.mem_comps.1 eM.comp).2
    have hmd := dw_bd L k (n := 61) (by omega)
    have hmB : minB (dw L k 61) = true := decide_eq_true (by omega)
    have hsw := eM.shows (dw L k 61)
    have hLA := longA_lt p hF
    have hpw : 2 ^ p.bs.length ≤ 32 := (Nat.pow_le_pow_right (by omega) hlen5 : 2 ^ p.bs.length ≤ 2 ^ 5)
    have hsub := sure_sub hF hn0
    have hsh := shr_zero hLA.2
    refine run_auto [] 5 [] [] [2, 3, 31, 32, 33, 34] [0, 1, 2, 3, 4] (st' := ⟨[(2, .bool false), (3, .func (.func 57) #[] #[pA a1, pA b1]), (31, .agg #[.slice p.ba p.bs.length p.bc, iV p.zlo, iV p.zhi, iV p.rlo, iV p.rhi, .slice p.ra p.rs.length p.rc]), (32, sV d p.bs.length c2), (33, iV z), (34, iV rt)], [(e, .cells (cs).toArray et (0, 0)), (g, cO ((p.bs).flatMap spR ++ sp) 23), (d, cO ((ds).flatMap inR ++ sq) 3), (a1, aO #[iV (k : Int)] 3), (b1, aO #[.slice aa L.length cap] 42)]⟩) (acc := []) (by kernel_rfl) (by kernel_rfl) trivial ?_
    refine run_new (aO #[.slice none 0 0, iV 0, iV 0, iV 0, iV 0, .slice none 0 0] 30) (fun b3 => pA b3) (some 4) (fun _ => by kernel_rfl) (fun b3 hb3 => ?_)
    refine run_auto [] 8 [] [0, 0] [2, 3, 4, 5, 6, 7, 36] [0, 1, 2, 3, 4, 5] (st' := ⟨[(2, .bool false), (3, .func (.func 57) #[] #[pA a1, pA b1]), (4, pA b3), (5, sV d p.bs.length c2), (6, iV z), (7, iV rt), (36, .agg #[.slice p.ba p.bs.length p.bc, iV p.zlo, iV p.zhi, iV p.rlo, iV p.rhi, .slice p.ra p.rs.length p.rc])], [(b3, aO #[.slice p.ba p.bs.length p.bc, iV p.zlo, iV p.zhi, iV p.rlo, iV p.rhi, .slice p.ra p.rs.length p.rc] 30), (e, .cells (cs).toArray et (0, 0)), (g, cO ((p.bs).flatMap spR ++ sp) 23), (d, cO ((ds).flatMap inR ++ sq) 3), (a1, aO #[iV (k : Int)] 3), (b1, aO #[.slice aa L.length cap] 42)]⟩) (acc := [(pA b3, pA b3), (pA b3, pA b3)]) (by kernel_rfl) (by kernel_rfl) ⟨rfl, rfl, trivial⟩ ?_
    refine run_ret1 16 #[.agg #[.slice p.ba p.bs.length p.bc, iV p.zlo, iV p.zhi, iV p.rlo, iV p.rhi, .slice p.ra p.rs.length p.rc]] (some 37) (.tuple #[iV 0, iV 0, iV 0]) (by kernel_rfl) (fun w1 k1 h1 => (by have h := Wrong_any p w1 (own_in (h1 (g, cO ((p.bs).flatMap spR ++ sp) 23) (List.mem_of_getElem? (i := 2) (by kernel_rfl))) hba hF (h1 (e, .cells (cs).toArray et (0, 0)) (List.mem_of_getElem? (i := 1) (by kernel_rfl))) hrd); rw [show wrongR p = .inr 0 from (by unfold wrongR; rw [hok]; show Sum.inr p.n.wrongL = _; rw [eM.none])] at h; exact h)) ?_
    refine run_auto [] 11 [] [0] [2, 3, 4, 5, 6, 7, 8, 9, 10, 42] [0, 1, 2, 3, 4, 5] (st' := ⟨[(2, .bool false), (3, .func (.func 57) #[] #[pA a1, pA b1]), (4, pA b3), (5, sV d p.bs.length c2), (6, iV z), (7, iV rt), (8, iV 0), (9, iV 0), (10, iV 0), (42, .agg #[.slice p.ba p.bs.length p.bc, iV p.zlo, iV p.zhi, iV p.rlo, iV p.rhi, .slice p.ra p.rs.length p.rc])], [(b3, aO #[.slice p.ba p.bs.length p.bc, iV p.zlo, iV p.zhi, iV p.rlo, iV p.rhi, .slice p.ra p.rs.length p.rc] 30), (e, .cells (cs).toArray et (0, 0)), (g, cO ((p.bs).flatMap spR ++ sp) 23), (d, cO ((ds).flatMap inR ++ sq) 3), (a1, aO #[iV (k : Int)] 3), (b1, aO #[.slice aa L.length cap] 42)]⟩) (acc := [(pA b3, pA b3)]) (by kernel_rfl) (by kernel_rfl) ⟨rfl, trivial⟩ ?_
    refine run_ret1 17 #[.agg #[.slice p.ba p.bs.length p.bc, iV p.zlo, iV p.zhi, iV p.rlo, iV p.rhi, .slice p.ra p.rs.length p.rc]] (some 43) (.tuple #[iV 0, iV 4]) (by kernel_rfl) (fun w1 k1 h1 => (by have h := Clash_any p w1 (own_in (h1 (g, cO ((p.bs).flatMap spR ++ sp) 23) (List.mem_of_getElem? (i := 2) (by kernel_rfl))) hba hF (h1 (e, .cells (cs).toArray et (0, 0)) (List.mem_of_getElem? (i := 1) (by kernel_rfl))) hrd); rw [show clashR p = .inl 4 from (by unfold clashR; rw [hok, show p.n.agreeB = true from (by unfold Prn.agreeB; rw [hn0]; rfl)]; rfl)] at h; exact h)) ?_
    refine run_auto [] 9 [] [0] [2, 3, 4, 5, 6, 7, 8, 9, 10, 12, 47] [0, 1, 2, 3, 4, 5] (st' := ⟨[(2, .bool false), (3, .func (.func 57) #[] #[pA a1, pA b1]), (4, pA b3), (5, sV d p.bs.length c2), (6, iV z), (7, iV rt), (8, iV 0), (9, iV 0), (10, iV 0), (12, iV 4), (47, .agg #[.slice p.ba p.bs.length p.bc, iV p.zlo, iV p.zhi, iV p.rlo, iV p.rhi, .slice p.ra p.rs.length p.rc])], [(b3, aO #[.slice p.ba p.bs.length p.bc, iV p.zlo, iV p.zhi, iV p.rlo, iV p.rhi, .slice p.ra p.rs.length p.rc] 30), (e, .cells (cs).toArray et (0, 0)), (g, cO ((p.bs).flatMap spR ++ sp) 23), (d, cO ((ds).flatMap inR ++ sq) 3), (a1, aO #[iV (k : Int)] 3), (b1, aO #[.slice aa L.length cap] 42)]⟩) (acc := [(pA b3, pA b3)]) (by kernel_rfl) (by kernel_rfl) ⟨rfl, trivial⟩ ?_
    refine run_ret1 23 #[.agg #[.slice p.ba p.bs.length p.bc, iV p.zlo, iV p.zhi, iV p.rlo, iV p.rhi, .slice p.ra p.rs.length p.rc]] (some 48) (.tuple #[iV (p.n.longA.1 : Int), iV (p.n.longA.2 : Int), iV 0]) (by kernel_rfl) (fun w1 k1 h1 => (by have h := Longest_any p w1 (own_in (h1 (g, cO ((p.bs).flatMap spR ++ sp) 23) (List.mem_of_getElem? (i := 2) (by kernel_rfl))) hba hF (h1 (e, .cells (cs).toArray et (0, 0)) (List.mem_of_getElem? (i := 1) (by kernel_rfl))) hrd); rw [show longR p = .inr p.n.longA from (by unfold longR; rw [hok, hn0]; rfl)] at h; exact h)) ?_
    refine run_auto [] 11 [] [] [2, 4, 5, 6, 7, 8, 9, 10, 12, 13, 14, 15, 52] [0, 1, 2, 3, 4, 5] (st' := ⟨[(2, .bool false), (4, pA b3), (5, sV d p.bs.length c2), (6, iV z), (7, iV rt), (8, iV 0), (9, iV 0), (10, iV 0), (12, iV 4), (13, iV (p.n.longA.1 : Int)), (14, iV (p.n.longA.2 : Int)), (15, iV 0), (52, .func (.func 57) #[] #[pA a1, pA b1])], [(b3, aO #[.slice p.ba p.bs.length p.bc, iV p.zlo, iV p.zhi, iV p.rlo, iV p.rhi, .slice p.ra p.rs.length p.rc] 30), (e, .cells (cs).toArray et (0, 0)), (g, cO ((p.bs).flatMap spR ++ sp) 23), (d, cO ((ds).flatMap inR ++ sq) 3), (a1, aO #[iV (k : Int)] 3), (b1, aO #[.slice aa L.length cap] 42)]⟩) (acc := []) (by kernel_rfl) (by kernel_rfl) trivial ?_
    refine run_wr 57 #[iV 61, pA a1, pA b1] (some 53) (iV (dw L k 61)) 4 a1 (aO #[iV (k : Int)] 3) (aO #[iV ((k + 1 : Nat) : Int)] 3) (by kernel_rfl) (by kernel_rfl) (by kernel_rfl) (fun w1 k1 h1 => draw_any a1 b1 k cap 61 L aa (by omega) (by omega) (by omega) w1 (h1 (a1, aO #[iV (k : Int)] 3) (List.mem_of_getElem? (i := 4) (by kernel_rfl))) (h1 (b1, aO #[.slice aa L.length cap] 42) (List.mem_of_getElem? (i := 5) (by kernel_rfl))) (hR.us (k1.keeps (fun _ h => h)) ha1) hlm) ?_
    refine run_auto [] 6 [] [0] [2, 4, 5, 6, 7, 8, 9, 10, 12, 13, 14, 15, 16, 55, 56] [0, 1, 2, 3] (st' := ⟨[(2, .bool false), (4, pA b3), (5, sV d p.bs.length c2), (6, iV z), (7, iV rt), (8, iV 0), (9, iV 0), (10, iV 0), (12, iV 4), (13, iV (p.n.longA.1 : Int)), (14, iV (p.n.longA.2 : Int)), (15, iV 0), (16, iV (dw L k 61)), (55, .agg #[.slice p.ba p.bs.length p.bc, iV p.zlo, iV p.zhi, iV p.rlo, iV p.rhi, .slice p.ra p.rs.length p.rc]), (56, iV (dw L k 61))], [(b3, aO #[.slice p.ba p.bs.length p.bc, iV p.zlo, iV p.zhi, iV p.rlo, iV p.rhi, .slice p.ra p.rs.length p.rc] 30), (e, .cells (cs).toArray et (0, 0)), (g, cO ((p.bs).flatMap spR ++ sp) 23), (d, cO ((ds).flatMap inR ++ sq) 3)]⟩) (acc := [(pA b3, pA b3)]) (by kernel_rfl) (by kernel_rfl) ⟨rfl, trivial⟩ ?_
    refine run_ret1 14 #[.agg #[.slice p.ba p.bs.length p.bc, iV p.zlo, iV p.zhi, iV p.rlo, iV p.rhi, .slice p.ra p.rs.length p.rc], iV (dw L k 61)] (some 57) (.tuple #[.agg #[iV ((p.n.showsA (dw L k 61)).1), iV ((p.n.showsA (dw L k 61)).2)], iV 0]) (by kernel_rfl) (fun w1 k1 h1 => (by have h := Shows_any p (dw L k 61) w1 (own_in (h1 (g, cO ((p.bs).flatMap spR ++ sp) 23) (List.mem_of_getElem? (i := 2) (by kernel_rfl))) hba hF (h1 (e, .cells (cs).toArray et (0, 0)) (List.mem_of_getElem? (i := 1) (by kernel_rfl))) hrd); rw [show showsR p (dw L k 61) = .inr (p.n.showsA (dw L k 61)) from (by unfold showsR; rw [hok, hmB, hn0]; rfl)] at h; exact h)) ?_
    refine run_auto [] 3 [] [] [2, 4, 5, 6, 7, 8, 9, 10, 12, 13, 14, 15, 16, 58, 59] [0, 1, 2, 3] (st' := ⟨[(2, .bool false), (4, pA b3), (5, sV d p.bs.length c2), (6, iV z), (7, iV rt), (8, iV 0), (9, iV 0), (10, iV 0), (12, iV 4), (13, iV (p.n.longA.1 : Int)), (14, iV (p.n.longA.2 : Int)), (15, iV 0), (16, iV (dw L k 61)), (58, .agg #[iV ((p.n.showsA (dw L k 61)).1), iV ((p.n.showsA (dw L k 61)).2)]), (59, iV 0)], [(b3, aO #[.slice p.ba p.bs.length p.bc, iV p.zlo, iV p.zhi, iV p.rlo, iV p.rhi, .slice p.ra p.rs.length p.rc] 30), (e, .cells (cs).toArray et (0, 0)), (g, cO ((p.bs).flatMap spR ++ sp) 23), (d, cO ((ds).flatMap inR ++ sq) 3)]⟩) (acc := []) (by kernel_rfl) (by kernel_rfl) trivial ?_
    refine run_new (aO #[iV 0, iV 0] 23) (fun b4 => pA b4) (some 17) (fun _ => by kernel_rfl) (fun b4 hb4 => ?_)
    refine run_auto [] 5 [] [0] [2, 4, 5, 6, 7, 8, 9, 10, 12, 13, 14, 15, 16, 17, 18] [0, 1, 2, 3, 4] (st' := ⟨[(2, .bool false), (4, pA b3), (5, sV d p.bs.length c2), (6, iV z), (7, iV rt), (8, iV 0), (9, iV 0), (10, iV 0), (12, iV 4), (13, iV (p.n.longA.1 : Int)), (14, iV (p.n.longA.2 : Int)), (15, iV 0), (16, iV (dw L k 61)), (17, pA b4), (18, iV 0)], [(b4, aO #[iV ((p.n.showsA (dw L k 61)).1), iV ((p.n.showsA (dw L k 61)).2)] 23), (b3, aO #[.slice p.ba p.bs.length p.bc, iV p.zlo, iV p.zhi, iV p.rlo, iV p.rhi, .slice p.ra p.rs.length p.rc] 30), (e, .cells (cs).toArray et (0, 0)), (g, cO ((p.bs).flatMap spR ++ sp) 23), (d, cO ((ds).flatMap inR ++ sq) 3)]⟩) (acc := [(pA b4, pA b4)]) (by kernel_rfl) (by kernel_rfl) ⟨rfl, trivial⟩ ?_
    cases hd1 : (((p.n.longA.1 ^^^ (p.n.longA.1 &&& p.n.longA.2) : Nat) : Int) != 0) with
    | false =>
      have hp1 : ((p.n.longA.1 ^^^ (p.n.longA.1 &&& p.n.longA.2) : Nat) : Int) = 0 := by simpa using hd1
      cases hd2 : (((p.n.longA.2 >>> p.bs.length : Nat) : Int) != 0) with
      | false =>
        have hp2 : ((p.n.longA.2 >>> p.bs.length : Nat) : Int) = 0 := by simpa using hd2
        cases hd3 : (insB (shw (z, rt) (dw L k 61)) ((p.n.showsA (dw L k 61)).1) ((p.n.showsA (dw L k 61)).2)) with
        | false =>
          exact absurd hd3 (by unfold insB; simp; omega)
        | true =>
          refine drawW 44 [{ val := fun _ => iV 0, slots := [10] },
                      { val := fun _ => .bool false, slots := [60] },
                      { val := fun _ => .bool false, slots := [61] },
                      { val := fun _ => iV 0, slots := [8, 62] },
                      { val := fun _ => .bool false, slots := [62, 63] },
                      { val := fun _ => .bool false, slots := [62, 64] },
                      { val := fun _ => .bool false, slots := [65] },
                      { val := fun _ => iV 0, slots := [9, 66] },
                      { val := fun _ => .bool false, slots := [66, 67] },
                      { val := fun _ => .bool false, slots := [66, 68] },
                      { val := fun _ => .bool false, slots := [69] },
                      { val := fun _ => iV 4, slots := [12, 70] },
                      { val := fun _ => .bool false, slots := [70, 71] },
                      { val := fun _ => .bool false, slots := [70, 72] },
                      { val := fun _ => .bool false, slots := [73] },
                      { val := fun _ => iV 0, slots := [15, 74] },
                      { val := fun _ => .bool false, slots := [74, 75] },
                      { val := fun _ => .bool false, slots := [74, 76] },
                      { val := fun _ => .bool false, slots := [77] },
                      { val := fun _ => iV (p.n.longA.1 : Int), slots := [13, 78] },
                      { val := fun _ => iV (p.n.longA.2 : Int), slots := [14, 78] },
                      { val := fun _ => iV ((p.n.longA.1 ^^^ (p.n.longA.1 &&& p.n.longA.2) : Nat) : Int), slots := [78, 79, 80] },
                      { val := fun _ => .bool false, slots := [78, 81] },
                      { val := fun _ => .bool false, slots := [78, 82] },
                      { val := fun _ => .bool false, slots := [83] },
                      { val := fun _ => iV (p.n.longA.2 : Int), slots := [14, 84] },
                      { val := fun _ => sV d p.bs.length c2, slots := [5, 84] },
                      { val := fun _ => iV (p.bs.length : Int), slots := [84, 86] },
                      { val := fun _ => iV ((p.n.longA.2 >>> p.bs.length : Nat) : Int), slots := [84, 85, 87] },
                      { val := fun _ => .bool false, slots := [84, 88] },
                      { val := fun _ => .bool false, slots := [84, 89] },
                      { val := fun _ => .bool false, slots := [90] },
                      { val := fun _ => iV 0, slots := [18, 91] },
                      { val := fun _ => .bool false, slots := [91, 92] },
                      { val := fun _ => .bool false, slots := [91, 93] },
                      { val := fun _ => .bool false, slots := [94] },
                      { val := fun _ => iV z, slots := [6, 95] },
                      { val := fun _ => iV rt, slots := [7, 95] },
                      { val := fun _ => iV (dw L k 61), slots := [16, 95] },
                      { val := fun _ => iV (shw (z, rt) (dw L k 61)), slots := [95, 96, 97, 98] },
                      { val := fun _ => .agg #[iV ((p.n.showsA (dw L k 61)).1), iV ((p.n.showsA (dw L k 61)).2)], slots := [17, 95], reads := [0] },
                      { val := fun _ => .bool true, slots := [95, 99, 100] },
                      { val := fun _ => .bool false, slots := [95, 101] },
                      { val := fun _ => .bool false, slots := [95, 102] }] [[], [0], [0, 1], [0, 1, 2], [0, 1, 2, 3], [0, 1, 2, 3, 4], [0, 1, 2, 3, 4, 5], [0, 1, 2, 3, 4, 5, 6], [0, 1, 2, 3, 4, 5, 6, 7], [0, 1, 2, 3, 4, 5, 6, 7, 8], [0, 1, 2, 3, 4, 5, 6, 7, 8, 9], [0, 1, 2, 3, 4, 5, 6, 7, 8, 9, 10], [0, 1, 2, 3, 4, 5, 6, 7, 8, 9, 10, 11], [0, 1, 2, 3, 4, 5, 6, 7, 8, 9, 10, 11, 12], [0, 1, 2, 3, 4, 5, 6, 7, 8, 9, 10, 11, 12, 13], [0, 1, 2, 3, 4, 5, 6, 7, 8, 9, 10, 11, 12, 13, 14], [0, 1, 2, 3, 4, 5, 6, 7, 8, 9, 10, 11, 12, 13, 14, 15], [0, 1, 2, 3, 4, 5, 6, 7, 8, 9, 10, 11, 12, 13, 14, 15, 16], [0, 1, 2, 3, 4, 5, 6, 7, 8, 9, 10, 11, 12, 13, 14, 15, 16, 17], [0, 1, 2, 3, 4, 5, 6, 7, 8, 9, 10, 11, 12, 13, 14, 15, 16, 17, 18], [0, 1, 2, 3, 4, 5, 6, 7, 8, 9, 10, 11, 12, 13, 14, 15, 16, 17, 18], [0, 1, 2, 3, 4, 5, 6, 7, 8, 9, 10, 11, 12, 13, 14, 15, 16, 17, 18, 19, 20], [0, 1, 2, 3, 4, 5, 6, 7, 8, 9, 10, 11, 12, 13, 14, 15, 16, 17, 18, 19, 20, 21], [0, 1, 2, 3, 4, 5, 6, 7, 8, 9, 10, 11, 12, 13, 14, 15, 16, 17, 18, 19, 20, 21, 22], [0, 1, 2, 3, 4, 5, 6, 7, 8, 9, 10, 11, 12, 13, 14, 15, 16, 17, 18, 19, 20, 21, 22, 23], [0, 1, 2, 3, 4, 5, 6, 7, 8, 9, 10, 11, 12, 13, 14, 15, 16, 17, 18, 19, 20, 21, 22, 23, 24], [0, 1, 2, 3, 4, 5, 6, 7, 8, 9, 10, 11, 12, 13, 14, 15, 16, 17, 18, 19, 20, 21, 22, 23, 24], [0, 1, 2, 3, 4, 5, 6, 7, 8, 9, 10, 11, 12, 13, 14, 15, 16, 17, 18, 19, 20, 21, 22, 23, 24, 26], [0, 1, 2, 3, 4, 5, 6, 7, 8, 9, 10, 11, 12, 13, 14, 15, 16, 17, 18, 19, 20, 21, 22, 23, 24, 25, 26, 27], [0, 1, 2, 3, 4, 5, 6, 7, 8, 9, 10, 11, 12, 13, 14, 15, 16, 17, 18, 19, 20, 21, 22, 23, 24, 25, 26, 27, 28], [0, 1, 2, 3, 4, 5, 6, 7, 8, 9, 10, 11, 12, 13, 14, 15, 16, 17, 18, 19, 20, 21, 22, 23, 24, 25, 26, 27, 28, 29], [0, 1, 2, 3, 4, 5, 6, 7, 8, 9, 10, 11, 12, 13, 14, 15, 16, 17, 18, 19, 20, 21, 22, 23, 24, 25, 26, 27, 28, 29, 30], [0, 1, 2, 3, 4, 5, 6, 7, 8, 9, 10, 11, 12, 13, 14, 15, 16, 17, 18, 19, 20, 21, 22, 23, 24, 25, 26, 27, 28, 29, 30, 31], [0, 1, 2, 3, 4, 5, 6, 7, 8, 9, 10, 11, 12, 13, 14, 15, 16, 17, 18, 19, 20, 21, 22, 23, 24, 25, 26, 27, 28, 29, 30, 31, 32], [0, 1, 2, 3, 4, 5, 6, 7, 8, 9, 10, 11, 12, 13, 14, 15, 16, 17, 18, 19, 20, 21, 22, 23, 24, 25, 26, 27, 28, 29, 30, 31, 32, 33], [0, 1, 2, 3, 4, 5, 6, 7, 8, 9, 10, 11, 12, 13, 14, 15, 16, 17, 18, 19, 20, 21, 22, 23, 24, 25, 26, 27, 28, 29, 30, 31, 32, 33, 34], [0, 1, 2, 3, 4, 5, 6, 7, 8, 9, 10, 11, 12, 13, 14, 15, 16, 17, 18, 19, 20, 21, 22, 23, 24, 25, 26, 27, 28, 29, 30, 31, 32, 33, 34, 35], [0, 1, 2, 3, 4, 5, 6, 7, 8, 9, 10, 11, 12, 13, 14, 15, 16, 17, 18, 19, 20, 21, 22, 23, 24, 25, 26, 27, 28, 29, 30, 31, 32, 33, 34, 35], [0, 1, 2, 3, 4, 5, 6, 7, 8, 9, 10, 11, 12, 13, 14, 15, 16, 17, 18, 19, 20, 21, 22, 23, 24, 25, 26, 27, 28, 29, 30, 31, 32, 33, 34, 35], [0, 1, 2, 3, 4, 5, 6, 7, 8, 9, 10, 11, 12, 13, 14, 15, 16, 17, 18, 19, 20, 21, 22, 23, 24, 25, 26, 27, 28, 29, 30, 31, 32, 33, 34, 35, 36, 37, 38], [0, 1, 2, 3, 4, 5, 6, 7, 8, 9, 10, 11, 12, 13, 14, 15, 16, 17, 18, 19, 20, 21, 22, 23, 24, 25, 26, 27, 28, 29, 30, 31, 32, 33, 34, 35], [0, 1, 2, 3, 4, 5, 6, 7, 8, 9, 10, 11, 12, 13, 14, 15, 16, 17, 18, 19, 20, 21, 22, 23, 24, 25, 26, 27, 28, 29, 30, 31, 32, 33, 34, 35, 36, 37, 38, 39, 40], [0, 1, 2, 3, 4, 5, 6, 7, 8, 9, 10, 11, 12, 13, 14, 15, 16, 17, 18, 19, 20, 21, 22, 23, 24, 25, 26, 27, 28, 29, 30, 31, 32, 33, 34, 35, 36, 37, 38, 39, 40, 41], [0, 1, 2, 3, 4, 5, 6, 7, 8, 9, 10, 11, 12, 13, 14, 15, 16, 17, 18, 19, 20, 21, 22, 23, 24, 25, 26, 27, 28, 29, 30, 31, 32, 33, 34, 35, 36, 37, 38, 39, 40, 41, 42]] (by kernel_rfl) (by kernel_rfl) (by kernel_rfl) (by kernel_rfl) [2, 4, 5, 13, 14, 103] [1, 2, 3, 4] (by kernel_rfl)
                      ⟨⟨⟨⟨⟨⟨⟨⟨⟨⟨⟨⟨⟨⟨⟨⟨⟨⟨⟨⟨⟨⟨⟨⟨⟨⟨⟨⟨⟨⟨⟨⟨⟨⟨⟨⟨⟨⟨⟨⟨⟨⟨⟨⟨trivial,
                      tri_quietW (fun β => []) [] [] (fun β => []) (by kernel_rfl) (fun β extra => by kernel_rfl) (by kernel_rfl) (fun β => trivial)⟩,
                      tri_quietW (fun β => [(61, .bool false)]) [] [] (fun β => [(.bool false, .bool false)]) (by kernel_rfl) (fun β extra => by kernel_rfl) (by kernel_rfl) (fun β => ⟨rfl, trivial⟩)⟩,
                      tri_quietW (fun β => []) [] [] (fun β => []) (by kernel_rfl) (fun β extra => by kernel_rfl) (by kernel_rfl) (fun β => trivial)⟩,
                      tri_quietW (fun β => []) [] [] (fun β => []) (by kernel_rfl) (fun β extra => by kernel_rfl) (by kernel_rfl) (fun β => trivial)⟩,
                      tri_quietW (fun β => [(64, .bool false)]) [] [] (fun β => [(.bool false, .bool false)]) (by kernel_rfl) (fun β extra => by kernel_rfl) (by kernel_rfl) (fun β => ⟨rfl, trivial⟩)⟩,
                      tri_quietW (fun β => []) [] [] (fun β => []) (by kernel_rfl) (fun β extra => by kernel_rfl) (by kernel_rfl) (fun β => trivial)⟩,
                      tri_quietW (fun β => []) [] [] (fun β => []) (by kernel_rfl) (fun β extra => by kernel_rfl) (by kernel_rfl) (fun β => trivial)⟩,
                      tri_quietW (fun β => []) [] [] (fun β => []) (by kernel_rfl) (fun β extra => by kernel_rfl) (by kernel_rfl) (fun β => trivial)⟩,
                      tri_quietW (fun β => [(68, .bool false)]) [] [] (fun β => [(.bool false, .bool false)]) (by kernel_rfl) (fun β extra => by kernel_rfl) (by kernel_rfl) (fun β => ⟨rfl, trivial⟩)⟩,
                      tri_quietW (fun β => []) [] [] (fun β => []) (by kernel_rfl) (fun β extra => by kernel_rfl) (by kernel_rfl) (fun β => trivial)⟩,
                      tri_quietW (fun β => []) [] [] (fun β => []) (by kernel_rfl) (fun β extra => by kernel_rfl) (by kernel_rfl) (fun β => trivial)⟩,
                      tri_quietW (fun β => []) [] [] (fun β => []) (by kernel_rfl) (fun β extra => by kernel_rfl) (by kernel_rfl) (fun β => trivial)⟩,
                      tri_quietW (fun β => [(72, .bool false)]) [] [] (fun β => [(.bool false, .bool false)]) (by kernel_rfl) (fun β extra => by kernel_rfl) (by kernel_rfl) (fun β => ⟨rfl, trivial⟩)⟩,
                      tri_quietW (fun β => []) [] [] (fun β => []) (by kernel_rfl) (fun β extra => by kernel_rfl) (by kernel_rfl) (fun β => trivial)⟩,
                      tri_quietW (fun β => []) [] [] (fun β => []) (by kernel_rfl) (fun β extra => by kernel_rfl) (by kernel_rfl) (fun β => trivial)⟩,
                      tri_quietW (fun β => []) [] [] (fun β => []) (by kernel_rfl) (fun β extra => by kernel_rfl) (by kernel_rfl) (fun β => trivial)⟩,
                      tri_quietW (fun β => [(76, .bool false)]) [] [] (fun β => [(.bool false, .bool false)]) (by kernel_rfl) (fun β extra => by kernel_rfl) (by kernel_rfl) (fun β => ⟨rfl, trivial⟩)⟩,
                      tri_quietW (fun β => []) [] [] (fun β => []) (by kernel_rfl) (fun β extra => by kernel_rfl) (by kernel_rfl) (fun β => trivial)⟩,
                      tri_quietW (fun β => []) [] [] (fun β => []) (by kernel_rfl) (fun β extra => by kernel_rfl) (by kernel_rfl) (fun β => trivial)⟩,
                      tri_quietW (fun β => []) [] [] (fun β => []) (by kernel_rfl) (fun β extra => by kernel_rfl) (by kernel_rfl) (fun β => trivial)⟩,
                      tri_quietW (fun β => []) [] [] (fun β => []) (by kernel_rfl) (fun β extra => by kernel_rfl) (by kernel_rfl) (fun β => trivial)⟩,
                      tri_quietW (fun β => [(81, iV ((p.n.longA.1 ^^^ (p.n.longA.1 &&& p.n.longA.2) : Nat) : Int))]) [] [] (fun β => [(iV (bits .andNot .i64 (p.n.longA.1 : Int) (p.n.longA.2 : Int)), iV ((p.n.longA.1 ^^^ (p.n.longA.1 &&& p.n.longA.2) : Nat) : Int))]) (by kernel_rfl) (fun β extra => by kernel_rfl) (by kernel_rfl) (fun β => ⟨(andNot_nat p.n.longA.1 p.n.longA.2 (by omega) (by omega)), trivial⟩)⟩,
                      tri_quietW (fun β => [(82, .bool false)]) [] [] (fun β => [(.bool (((p.n.longA.1 ^^^ (p.n.longA.1 &&& p.n.longA.2) : Nat) : Int) != 0), .bool false)]) (by kernel_rfl) (fun β extra => by kernel_rfl) (by kernel_rfl) (fun β => ⟨(bo hd1), trivial⟩)⟩,
                      tri_quietW (fun β => []) [] [] (fun β => []) (by kernel_rfl) (fun β extra => by kernel_rfl) (by kernel_rfl) (fun β => trivial)⟩,
                      tri_quietW (fun β => []) [] [] (fun β => []) (by kernel_rfl) (fun β extra => by kernel_rfl) (by kernel_rfl) (fun β => trivial)⟩,
                      tri_quietW (fun β => []) [] [] (fun β => []) (by kernel_rfl) (fun β extra => by kernel_rfl) (by kernel_rfl) (fun β => trivial)⟩,
                      tri_quietW (fun β => []) [] [] (fun β => []) (by kernel_rfl) (fun β extra => by kernel_rfl) (by kernel_rfl) (fun β => trivial)⟩,
                      tri_quietW (fun β => []) [] [] (fun β => []) (by kernel_rfl) (fun β extra => by kernel_rfl) (by kernel_rfl) (fun β => trivial)⟩,
                      tri_vVW (fun β => iV ((p.n.longA.2 >>> p.bs.length : Nat) : Int)) (fun β => by kernel_rfl) (fun β => (binOp .shr 3 (iV (p.n.longA.2 : Nat)) (iV (p.bs.length : Nat)) >>= fun v => pure (Next.value v))) (by kernel_rfl) (fun β extra => by kernel_rfl) (fun β => by kernel_rfl) (fun β w1 k1 h1 => shr_run p.n.longA.2 p.bs.length (by omega))⟩,
                      tri_quietW (fun β => [(89, .bool false)]) [] [] (fun β => [(.bool (((p.n.longA.2 >>> p.bs.length : Nat) : Int) != 0), .bool false)]) (by kernel_rfl) (fun β extra => by kernel_rfl) (by kernel_rfl) (fun β => ⟨(bo hd2), trivial⟩)⟩,
                      tri_quietW (fun β => []) [] [] (fun β => []) (by kernel_rfl) (fun β extra => by kernel_rfl) (by kernel_rfl) (fun β => trivial)⟩,
                      tri_quietW (fun β => []) [] [] (fun β => []) (by kernel_rfl) (fun β extra => by kernel_rfl) (by kernel_rfl) (fun β => trivial)⟩,
                      tri_quietW (fun β => []) [] [] (fun β => []) (by kernel_rfl) (fun β extra => by kernel_rfl) (by kernel_rfl) (fun β => trivial)⟩,
                      tri_quietW (fun β => [(93, .bool false)]) [] [] (fun β => [(.bool false, .bool false)]) (by kernel_rfl) (fun β extra => by kernel_rfl) (by kernel_rfl) (fun β => ⟨rfl, trivial⟩)⟩,
                      tri_quietW (fun β => []) [] [] (fun β => []) (by kernel_rfl) (fun β extra => by kernel_rfl) (by kernel_rfl) (fun β => trivial)⟩,
                      tri_quietW (fun β => []) [] [] (fun β => []) (by kernel_rfl) (fun β extra => by kernel_rfl) (by kernel_rfl) (fun β => trivial)⟩,
                      tri_quietW (fun β => []) [] [] (fun β => []) (by kernel_rfl) (fun β extra => by kernel_rfl) (by kernel_rfl) (fun β => trivial)⟩,
                      tri_quietW (fun β => []) [] [] (fun β => []) (by kernel_rfl) (fun β extra => by kernel_rfl) (by kernel_rfl) (fun β => trivial)⟩,
                      tri_quietW (fun β => []) [] [] (fun β => []) (by kernel_rfl) (fun β extra => by kernel_rfl) (by kernel_rfl) (fun β => trivial)⟩,
                      tri_callVW (fun β => iV (shw (z, rt) (dw L k 61))) (fun β => by kernel_rfl) 25 (fun β => #[iV z, iV rt, iV (dw L k 61)]) (by kernel_rfl) (fun β extra => by kernel_rfl) (fun β => by kernel_rfl) (fun β w1 k1 h1 => lshows_any z rt (dw L k 61) (by omega) (by omega) (by omega) (by omega) (by omega) (by omega) w1)⟩,
                      tri_quietW (fun β => []) [0] [0] (fun β => [(pA b4, pA b4)]) (by kernel_rfl) (fun β extra => by kernel_rfl) (by kernel_rfl) (fun β => ⟨rfl, trivial⟩)⟩,
                      tri_callVW (fun β => .bool true) (fun β => by kernel_rfl) 24 (fun β => #[iV (shw (z, rt) (dw L k 61)), .agg #[iV ((p.n.showsA (dw L k 61)).1), iV ((p.n.showsA (dw L k 61)).2)]]) (by kernel_rfl) (fun β extra => by kernel_rfl) (fun β => by kernel_rfl) (fun β w1 k1 h1 => (by have h := inside_any (shw (z, rt) (dw L k 61)) ((p.n.showsA (dw L k 61)).1) ((p.n.showsA (dw L k 61)).2) w1; rw [hd3] at h; exact h))⟩,
                      tri_quietW (fun β => [(102, .bool false)]) [] [] (fun β => [(.bool false, .bool false)]) (by kernel_rfl) (fun β extra => by kernel_rfl) (by kernel_rfl) (fun β => ⟨rfl, trivial⟩)⟩,
                      tri_quietW (fun β => []) [] [] (fun β => []) (by kernel_rfl) (fun β extra => by kernel_rfl) (by kernel_rfl) (fun β => trivial)⟩
                      (fun β => ⟨[(2, .bool false), (4, pA b3), (5, sV d p.bs.length c2), (13, iV (p.n.longA.1 : Int)), (14, iV (p.n.longA.2 : Int)), (103, .bool false)], [(b3, aO #[.slice p.ba p.bs.length p.bc, iV p.zlo, iV p.zhi, iV p.rlo, iV p.rhi, .slice p.ra p.rs.length p.rc] 30), (e, .cells (cs).toArray et (0, 0)), (g, cO ((p.bs).flatMap spR ++ sp) 23), (d, cO ((ds).flatMap inR ++ sq) 3)]⟩) (fun β => by kernel_rfl) (fun β5 => ?_)
          refine run_auto [] 10 [false] [] [2, 4, 5, 13, 14, 105, 106] [0, 1, 2, 3] (st' := ⟨[(2, .bool false), (4, pA b3), (5, sV d p.bs.length c2), (13, iV (p.n.longA.1 : Int)), (14, iV (p.n.longA.2 : Int)), (105, iV (p.bs.length : Int)), (106, iV 0)], [(b3, aO #[.slice p.ba p.bs.length p.bc, iV p.zlo, iV p.zhi, iV p.rlo, iV p.rhi, .slice p.ra p.rs.length p.rc] 30), (e, .cells (cs).toArray et (0, 0)), (g, cO ((p.bs).flatMap spR ++ sp) 23), (d, cO ((ds).flatMap inR ++ sq) 3)]⟩) (acc := [(.bool false, .bool false)]) (by kernel_rfl) (by kernel_rfl) ⟨rfl, trivial⟩ ?_
          refine run_auto [] 0 [] [] [2, 4, 5, 13, 14, 105, 106] [0, 1, 2, 3] (st' := ⟨[(2, .bool false), (4, pA b3), (5, sV d p.bs.length c2), (13, iV (p.n.longA.1 : Int)), (14, iV (p.n.longA.2 : Int)), (105, iV (p.bs.length : Int)), (106, iV 0)], [(b3, aO #[.slice p.ba p.bs.length p.bc, iV p.zlo, iV p.zhi, iV p.rlo, iV p.rhi, .slice p.ra p.rs.length p.rc] 30), (e, .cells (cs).toArray et (0, 0)), (g, cO ((p.bs).flatMap spR ++ sp) 23), (d, cO ((ds).flatMap inR ++ sq) 3)]⟩) (acc := []) (by kernel_rfl) (by kernel_rfl) trivial ?_
          refine run_loop (S := fun (a : Nat) => ⟨[(2, .bool false), (4, pA b3), (5, sV d p.bs.length c2), (13, iV (p.n.longA.1 : Int)), (14, iV (p.n.longA.2 : Int)), (105, iV (p.bs.length : Int)), (106, iV (a : Int))], [(b3, aO #[.slice p.ba p.bs.length p.bc, iV p.zlo, iV p.zhi, iV p.rlo, iV p.rhi, .slice p.ra p.rs.length p.rc] 30), (e, .cells (cs).toArray et (0, 0)), (g, cO ((p.bs).flatMap spR ++ sp) 23), (d, cO ((ds).flatMap inR ++ sq) 3)]⟩) (fun a => a ≤ p.bs.length) (fun a => p.bs.length - a) (0) (by kernel_rfl) (Nat.zero_le _) (by kernel_rfl) (fun a hI0 J0 hJ0 => ?_)
          cases hd4 : (decide ((a : Int) < (p.bs.length : Int))) with
          | false =>
            have hp4 := of_decide_eq_false hd4
            refine run_auto [(107, .bool false)] 9 [false] [] [2] [1, 2] (st' := ⟨[(2, .bool false)], [(e, .cells (cs).toArray et (0, 0)), (g, cO ((p.bs).flatMap spR ++ sp) 23)]⟩) (acc := [(.bool false, .bool false), (.bool (decide ((a : Int) < (p.bs.length : Int))), .bool false)]) (by kernel_rfl) (by kernel_rfl) ⟨rfl, (bo hd4), trivial⟩ ?_
            refine run_ret1 19 #[] (some 209) (.bool true) (by kernel_rfl) (fun w1 k1 h1 => alive_any w1) ?_
            refine run_auto [] 2 [] [] [2] [0, 1] (st' := ⟨[(2, .bool true)], [(e, .cells (cs).toArray et (0, 0)), (g, cO ((p.bs).flatMap spR ++ sp) 23)]⟩) (acc := []) (by kernel_rfl) (by kernel_rfl) trivial ?_
            refine run_end (fn := f4) rfl (Nat.le_refl _) (by kernel_rfl) [] [.bool true] (e := []) (by kernel_rfl) trivial (fun w1 k1 h1 => ?_)
            exact ⟨rfl, k1.keeps (fun _ h => h)⟩
          | true =>
            have hp4 := of_decide_eq_true hd4
            have ha : a < p.bs.length := by omega
            have hown := eM.own ha
            have hda := eM.blk a ha
            have hbla := hF.bl a ha
            refine run_auto [(107, .bool true)] 22 [true] [0] [2, 4, 5, 13, 14, 105, 106, 19, 20, 110, 111] [0, 1, 2, 3] (st' := ⟨[(2, .bool false), (4, pA b3), (5, sV d p.bs.length c2), (13, iV (p.n.longA.1 : Int)), (14, iV (p.n.longA.2 : Int)), (105, iV (p.bs.length : Int)), (106, iV (a : Int)), (19, iV (a : Int)), (20, .bool true), (110, .agg #[.slice p.ba p.bs.length p.bc, iV p.zlo, iV p.zhi, iV p.rlo, iV p.rhi, .slice p.ra p.rs.length p.rc]), (111, iV (a : Int))], [(b3, aO #[.slice p.ba p.bs.length p.bc, iV p.zlo, iV p.zhi, iV p.rlo, iV p.rhi, .slice p.ra p.rs.length p.rc] 30), (e, .cells (cs).toArray et (0, 0)), (g, cO ((p.bs).flatMap spR ++ sp) 23), (d, cO ((ds).flatMap inR ++ sq) 3)]⟩) (acc := [(pA b3, pA b3), (.bool true, .bool true), (.bool (decide ((a : Int) < (p.bs.length : Int))), .bool true)]) (by kernel_rfl) (by kernel_rfl) ⟨rfl, rfl, (bo hd4), trivial⟩ ?_
            refine run_ret1 11 #[.agg #[.slice p.ba p.bs.length p.bc, iV p.zlo, iV p.zhi, iV p.rlo, iV p.rhi, .slice p.ra p.rs.length p.rc], iV (a : Int)] (some 112) (.tuple #[.agg #[iV (p.n.differA a 5).1, iV (p.n.differA a 5).2], iV 0]) (by kernel_rfl) (fun w1 k1 h1 => (by have h := Known_any p (a : Int) w1 (own_in (h1 (g, cO ((p.bs).flatMap spR ++ sp) 23) (List.mem_of_getElem? (i := 2) (by kernel_rfl))) hba hF (h1 (e, .cells (cs).toArray et (0, 0)) (List.mem_of_getElem? (i := 1) (by kernel_rfl))) hrd); rw [show knownR p (a : Int) = .inr (p.n.differA a 5) from (by unfold knownR; rw [hok, blk_yes ha, hn0]; rfl)] at h; exact h)) ?_
            refine run_auto [] 3 [] [] [2, 4, 5, 13, 14, 105, 106, 19, 20, 113, 114] [0, 1, 2, 3] (st' := ⟨[(2, .bool false), (4, pA b3), (5, sV d p.bs.length c2), (13, iV (p.n.longA.1 : Int)), (14, iV (p.n.longA.2 : Int)), (105, iV (p.bs.length : Int)), (106, iV (a : Int)), (19, iV (a : Int)), (20, .bool true), (113, .agg #[iV (p.n.differA a 5).1, iV (p.n.differA a 5).2]), (114, iV 0)], [(b3, aO #[.slice p.ba p.bs.length p.bc, iV p.zlo, iV p.zhi, iV p.rlo, iV p.rhi, .slice p.ra p.rs.length p.rc] 30), (e, .cells (cs).toArray et (0, 0)), (g, cO ((p.bs).flatMap spR ++ sp) 23), (d, cO ((ds).flatMap inR ++ sq) 3)]⟩) (acc := []) (by kernel_rfl) (by kernel_rfl) trivial ?_
            refine run_new (aO #[iV 0, iV 0] 23) (fun b6 => pA b6) (some 21) (fun _ => by kernel_rfl) (fun b6 hb6 => ?_)
            refine run_auto [] 5 [] [0] [2, 4, 5, 13, 14, 105, 106, 19, 20, 21, 22] [0, 1, 2, 3, 4] (st' := ⟨[(2, .bool false), (4, pA b3), (5, sV d p.bs.length c2), (13, iV (p.n.longA.1 : Int)), (14, iV (p.n.longA.2 : Int)), (105, iV (p.bs.length : Int)), (106, iV (a : Int)), (19, iV (a : Int)), (20, .bool true), (21, pA b6), (22, iV 0)], [(b6, aO #[iV (p.n.differA a 5).1, iV (p.n.differA a 5).2] 23), (b3, aO #[.slice p.ba p.bs.length p.bc, iV p.zlo, iV p.zhi, iV p.rlo, iV p.rhi, .slice p.ra p.rs.length p.rc] 30), (e, .cells (cs).toArray et (0, 0)), (g, cO ((p.bs).flatMap spR ++ sp) 23), (d, cO ((ds).flatMap inR ++ sq) 3)]⟩) (acc := [(pA b6, pA b6)]) (by kernel_rfl) (by kernel_rfl) ⟨rfl, trivial⟩ ?_
            cases hd5 : (insB (elU ds a) (p.n.differA a 5).1 (p.n.differA a 5).2) with
            | false =>
              exact absurd hd5 (by unfold insB; simp; omega)
            | true =>
              cases hd6 : (decide ((p.n.differA a 5).1 < (elB p.bs a).1)) with
              | false =>
                have hp6 := of_decide_eq_false hd6
                cases hd7 : (decide ((elB p.bs a).2 < (p.n.differA a 5).2)) with
                | false =>
                  have hp7 := of_decide_eq_false hd7
                  refine drawW 33 [{ val := fun _ => iV 0, slots := [22] },
                                      { val := fun _ => .bool false, slots := [115] },
                                      { val := fun _ => .bool false, slots := [116] },
                                      { val := fun _ => sV d p.bs.length c2, slots := [5, 117] },
                                      { val := fun _ => iV (a : Int), slots := [19, 117] },
                                      { val := fun _ => .pointer (some ⟨d, a, none⟩), slots := [117, 118, 119] },
                                      { val := fun _ => iV (elU ds a), slots := [117, 120], reads := [4] },
                                      { val := fun _ => .agg #[iV (p.n.differA a 5).1, iV (p.n.differA a 5).2], slots := [21, 117], reads := [0] },
                                      { val := fun _ => .bool true, slots := [117, 121, 122] },
                                      { val := fun _ => .bool false, slots := [117, 123] },
                                      { val := fun _ => .bool false, slots := [117, 124] },
                                      { val := fun _ => .bool false, slots := [125] },
                                      { val := fun _ => pA b6, slots := [21, 126] },
                                      { val := fun _ => iV (p.n.differA a 5).1, slots := [126, 127], reads := [0] },
                                      { val := fun _ => pA b3, slots := [4, 126] },
                                      { val := fun _ => .slice p.ba p.bs.length p.bc, slots := [126, 129], reads := [1] },
                                      { val := fun _ => iV (a : Int), slots := [19, 126] },
                                      { val := fun _ => .pointer (some ⟨g, 0 + a * 2, none⟩), slots := [126, 130, 131] },
                                      { val := fun _ => .pointer (some ⟨g, 0 + a * 2, none⟩), slots := [126, 132] },
                                      { val := fun _ => iV (elB p.bs a).1, slots := [126, 133], reads := [3] },
                                      { val := fun _ => .bool false, slots := [126, 128, 134] },
                                      { val := fun _ => .bool false, slots := [126, 135] },
                                      { val := fun _ => .bool false, slots := [136] },
                                      { val := fun _ => .pointer (some ⟨b6, 1, none⟩), slots := [21, 137] },
                                      { val := fun _ => iV (p.n.differA a 5).2, slots := [137, 138], reads := [0] },
                                      { val := fun _ => pA b3, slots := [4, 137] },
                                      { val := fun _ => .slice p.ba p.bs.length p.bc, slots := [137, 140], reads := [1] },
                                      { val := fun _ => iV (a : Int), slots := [19, 137] },
                                      { val := fun _ => .pointer (some ⟨g, 0 + a * 2, none⟩), slots := [137, 141, 142] },
                                      { val := fun _ => .pointer (some ⟨g, 0 + a * 2 + 1, none⟩), slots := [137, 143] },
                                      { val := fun _ => iV (elB p.bs a).2, slots := [137, 144], reads := [3] },
                                      { val := fun _ => .bool false, slots := [137, 139, 145] },
                                      { val := fun _ => .bool false, slots := [137, 146] }] [[], [0], [0, 1], [0, 1, 2], [0, 1, 2], [0, 1, 2, 3, 4], [0, 1, 2, 3, 4, 5], [0, 1, 2], [0, 1, 2, 3, 4, 5, 6, 7], [0, 1, 2, 3, 4, 5, 6, 7, 8], [0, 1, 2, 3, 4, 5, 6, 7, 8, 9], [0, 1, 2, 3, 4, 5, 6, 7, 8, 9, 10], [0, 1, 2, 3, 4, 5, 6, 7, 8, 9, 10, 11], [0, 1, 2, 3, 4, 5, 6, 7, 8, 9, 10, 11, 12], [0, 1, 2, 3, 4, 5, 6, 7, 8, 9, 10, 11], [0, 1, 2, 3, 4, 5, 6, 7, 8, 9, 10, 11, 14], [0, 1, 2, 3, 4, 5, 6, 7, 8, 9, 10, 11], [0, 1, 2, 3, 4, 5, 6, 7, 8, 9, 10, 11, 14, 15, 16], [0, 1, 2, 3, 4, 5, 6, 7, 8, 9, 10, 11, 14, 15, 16, 17], [0, 1, 2, 3, 4, 5, 6, 7, 8, 9, 10, 11, 14, 15, 16, 17, 18], [0, 1, 2, 3, 4, 5, 6, 7, 8, 9, 10, 11, 12, 13, 14, 15, 16, 17, 18, 19], [0, 1, 2, 3, 4, 5, 6, 7, 8, 9, 10, 11, 12, 13, 14, 15, 16, 17, 18, 19, 20], [0, 1, 2, 3, 4, 5, 6, 7, 8, 9, 10, 11, 12, 13, 14, 15, 16, 17, 18, 19, 20, 21], [0, 1, 2, 3, 4, 5, 6, 7, 8, 9, 10, 11, 12, 13, 14, 15, 16, 17, 18, 19, 20, 21, 22], [0, 1, 2, 3, 4, 5, 6, 7, 8, 9, 10, 11, 12, 13, 14, 15, 16, 17, 18, 19, 20, 21, 22, 23], [0, 1, 2, 3, 4, 5, 6, 7, 8, 9, 10, 11, 12, 13, 14, 15, 16, 17, 18, 19, 20, 21, 22], [0, 1, 2, 3, 4, 5, 6, 7, 8, 9, 10, 11, 12, 13, 14, 15, 16, 17, 18, 19, 20, 21, 22, 25], [0, 1, 2, 3, 4, 5, 6, 7, 8, 9, 10, 11, 12, 13, 14, 15, 16, 17, 18, 19, 20, 21, 22], [0, 1, 2, 3, 4, 5, 6, 7, 8, 9, 10, 11, 12, 13, 14, 15, 16, 17, 18, 19, 20, 21, 22, 25, 26, 27], [0, 1, 2, 3, 4, 5, 6, 7, 8, 9, 10, 11, 12, 13, 14, 15, 16, 17, 18, 19, 20, 21, 22, 25, 26, 27, 28], [0, 1, 2, 3, 4, 5, 6, 7, 8, 9, 10, 11, 12, 13, 14, 15, 16, 17, 18, 19, 20, 21, 22, 25, 26, 27, 28, 29], [0, 1, 2, 3, 4, 5, 6, 7, 8, 9, 10, 11, 12, 13, 14, 15, 16, 17, 18, 19, 20, 21, 22, 23, 24, 25, 26, 27, 28, 29, 30], [0, 1, 2, 3, 4, 5, 6, 7, 8, 9, 10, 11, 12, 13, 14, 15, 16, 17, 18, 19, 20, 21, 22, 23, 24, 25, 26, 27, 28, 29, 30, 31]] (by kernel_rfl) (by kernel_rfl) (by kernel_rfl) (by kernel_rfl) [2, 4, 5, 13, 14, 105, 106, 19, 20, 147] [1, 2, 3, 4] (by kernel_rfl)
                                      ⟨⟨⟨⟨⟨⟨⟨⟨⟨⟨⟨⟨⟨⟨⟨⟨⟨⟨⟨⟨⟨⟨⟨⟨⟨⟨⟨⟨⟨⟨⟨⟨⟨trivial,
                                      tri_quietW (fun β => []) [] [] (fun β => []) (by kernel_rfl) (fun β extra => by kernel_rfl) (by kernel_rfl) (fun β => trivial)⟩,
                                      tri_quietW (fun β => [(116, .bool false)]) [] [] (fun β => [(.bool false, .bool false)]) (by kernel_rfl) (fun β extra => by kernel_rfl) (by kernel_rfl) (fun β => ⟨rfl, trivial⟩)⟩,
                                      tri_quietW (fun β => []) [] [] (fun β => []) (by kernel_rfl) (fun β extra => by kernel_rfl) (by kernel_rfl) (fun β => trivial)⟩,
                                      tri_quietW (fun β => []) [] [] (fun β => []) (by kernel_rfl) (fun β extra => by kernel_rfl) (by kernel_rfl) (fun β => trivial)⟩,
                                      tri_quietW (fun β => []) [] [] (fun β => []) (by kernel_rfl) (fun β extra => by kernel_rfl) (by kernel_rfl) (fun β => trivial)⟩,
                                      tri_vVW (fun β => .pointer (some ⟨d, a, none⟩)) (fun β => by kernel_rfl) (fun β => (Instr.indexAt 45 (sV d p.bs.length c2) (iV (a : Int)) >>= fun v => pure (Next.value v))) (by kernel_rfl) (fun β extra => by kernel_rfl) (fun β => by kernel_rfl) (fun β w1 k1 h1 => idx_off (e := 3) (n := 1) (by kernel_rfl) (by kernel_rfl) d 0 p.bs.length c2 .i64 a (by omega) a (by omega) w1)⟩,
                                      tri_vVW (fun β => iV (elU ds a)) (fun β => by kernel_rfl) (fun β => (Instr.loadAt 3 (.pointer (some ⟨d, a, none⟩)) >>= fun v => pure (Next.value v))) (by kernel_rfl) (fun β extra => by kernel_rfl) (fun β => by kernel_rfl) (fun β w1 k1 h1 => load_own (e := 3) (fr := (0, 0)) (c := (ds).flatMap inR ++ sq) h1 (List.mem_of_getElem? (i := 0) (by kernel_rfl)) (flat_loadF (c := inR) (n := 1) inR_len (by kernel_rfl) (i := a) (k := 0) (by first | omega | (simp; omega)) (inR_at (by first | omega | (simp; omega))) (by omega)))⟩,
                                      tri_quietW (fun β => []) [0] [0] (fun β => [(pA b6, pA b6)]) (by kernel_rfl) (fun β extra => by kernel_rfl) (by kernel_rfl) (fun β => ⟨rfl, trivial⟩)⟩,
                                      tri_callVW (fun β => .bool true) (fun β => by kernel_rfl) 24 (fun β => #[iV (elU ds a), .agg #[iV (p.n.differA a 5).1, iV (p.n.differA a 5).2]]) (by kernel_rfl) (fun β extra => by kernel_rfl) (fun β => by kernel_rfl) (fun β w1 k1 h1 => (by have h := inside_any (elU ds a) (p.n.differA a 5).1 (p.n.differA a 5).2 w1; rw [hd5] at h; exact h))⟩,
                                      tri_quietW (fun β => [(124, .bool false)]) [] [] (fun β => [(.bool false, .bool false)]) (by kernel_rfl) (fun β extra => by kernel_rfl) (by kernel_rfl) (fun β => ⟨rfl, trivial⟩)⟩,
                                      tri_quietW (fun β => []) [] [] (fun β => []) (by kernel_rfl) (fun β extra => by kernel_rfl) (by kernel_rfl) (fun β => trivial)⟩,
                                      tri_quietW (fun β => []) [] [] (fun β => []) (by kernel_rfl) (fun β extra => by kernel_rfl) (by kernel_rfl) (fun β => trivial)⟩,
                                      tri_quietW (fun β => []) [] [] (fun β => []) (by kernel_rfl) (fun β extra => by kernel_rfl) (by kernel_rfl) (fun β => trivial)⟩,
                                      tri_quietW (fun β => []) [0] [0] (fun β => [(pA b6, pA b6)]) (by kernel_rfl) (fun β extra => by kernel_rfl) (by kernel_rfl) (fun β => ⟨rfl, trivial⟩)⟩,
                                      tri_quietW (fun β => []) [] [] (fun β => []) (by kernel_rfl) (fun β extra => by kernel_rfl) (by kernel_rfl) (fun β => trivial)⟩,
                                      tri_quietW (fun β => []) [0] [0] (fun β => [(pA b3, pA b3)]) (by kernel_rfl) (fun β extra => by kernel_rfl) (by kernel_rfl) (fun β => ⟨rfl, trivial⟩)⟩,
                                      tri_quietW (fun β => []) [] [] (fun β => []) (by kernel_rfl) (fun β extra => by kernel_rfl) (by kernel_rfl) (fun β => trivial)⟩,
                                      tri_vVW (fun β => .pointer (some ⟨g, 0 + a * 2, none⟩)) (fun β => by kernel_rfl) (fun β => (Instr.indexAt 27 (.slice p.ba p.bs.length p.bc) (iV (a : Int)) >>= fun v => pure (Next.value v))) (by kernel_rfl) (fun β extra => by kernel_rfl) (fun β => by kernel_rfl) (fun β w1 k1 h1 => (by rw [hba]; exact idx_run (e := 23) (n := 2) (by kernel_rfl) (by kernel_rfl) g 0 p.bs.length p.bc .i64 a ha w1))⟩,
                                      tri_quietW (fun β => []) [] [] (fun β => []) (by kernel_rfl) (fun β extra => by kernel_rfl) (by kernel_rfl) (fun β => trivial)⟩,
                                      tri_vVW (fun β => iV (elB p.bs a).1) (fun β => by kernel_rfl) (fun β => (Instr.loadAt 3 (.pointer (some ⟨g, 0 + a * 2, none⟩)) >>= fun v => pure (Next.value v))) (by kernel_rfl) (fun β extra => by kernel_rfl) (fun β => by kernel_rfl) (fun β w1 k1 h1 => load_own (e := 23) (fr := (0, 0)) (c := p.bs.flatMap spR ++ sp) h1 (List.mem_of_getElem? (i := 0) (by kernel_rfl)) (flat_loadF (c := spR) (n := 2) spR_len (by kernel_rfl) (i := a) (k := 0) (by omega) (spR_at (by omega)).1 (by omega)))⟩,
                                      tri_quietW (fun β => [(135, .bool false)]) [] [] (fun β => [(.bool (decide ((p.n.differA a 5).1 < (elB p.bs a).1)), .bool false)]) (by kernel_rfl) (fun β extra => by kernel_rfl) (by kernel_rfl) (fun β => ⟨(bo hd6), trivial⟩)⟩,
                                      tri_quietW (fun β => []) [] [] (fun β => []) (by kernel_rfl) (fun β extra => by kernel_rfl) (by kernel_rfl) (fun β => trivial)⟩,
                                      tri_quietW (fun β => []) [] [] (fun β => []) (by kernel_rfl) (fun β extra => by kernel_rfl) (by kernel_rfl) (fun β => trivial)⟩,
                                      tri_quietW (fun β => []) [] [] (fun β => []) (by kernel_rfl) (fun β extra => by kernel_rfl) (by kernel_rfl) (fun β => trivial)⟩,
                                      tri_quietW (fun β => []) [0] [0] (fun β => [(pA b6, pA b6)]) (by kernel_rfl) (fun β extra => by kernel_rfl) (by kernel_rfl) (fun β => ⟨rfl, trivial⟩)⟩,
                                      tri_quietW (fun β => []) [] [] (fun β => []) (by kernel_rfl) (fun β extra => by kernel_rfl) (by kernel_rfl) (fun β => trivial)⟩,
                                      tri_quietW (fun β => []) [0] [0] (fun β => [(pA b3, pA b3)]) (by kernel_rfl) (fun β extra => by kernel_rfl) (by kernel_rfl) (fun β => ⟨rfl, trivial⟩)⟩,
                                      tri_quietW (fun β => []) [] [] (fun β => []) (by kernel_rfl) (fun β extra => by kernel_rfl) (by kernel_rfl) (fun β => trivial)⟩,
                                      tri_vVW (fun β => .pointer (some ⟨g, 0 + a * 2, none⟩)) (fun β => by kernel_rfl) (fun β => (Instr.indexAt 27 (.slice p.ba p.bs.length p.bc) (iV (a : Int)) >>= fun v => pure (Next.value v))) (by kernel_rfl) (fun β extra => by kernel_rfl) (fun β => by kernel_rfl) (fun β w1 k1 h1 => (by rw [hba]; exact idx_run (e := 23) (n := 2) (by kernel_rfl) (by kernel_rfl) g 0 p.bs.length p.bc .i64 a ha w1))⟩,
                                      tri_quietW (fun β => []) [] [] (fun β => []) (by kernel_rfl) (fun β extra => by kernel_rfl) (by kernel_rfl) (fun β => trivial)⟩,
                                      tri_vVW (fun β => iV (elB p.bs a).2) (fun β => by kernel_rfl) (fun β => (Instr.loadAt 3 (.pointer (some ⟨g, 0 + a * 2 + 1, none⟩)) >>= fun v => pure (Next.value v))) (by kernel_rfl) (fun β extra => by kernel_rfl) (fun β => by kernel_rfl) (fun β w1 k1 h1 => load_own (e := 23) (fr := (0, 0)) (c := p.bs.flatMap spR ++ sp) h1 (List.mem_of_getElem? (i := 0) (by kernel_rfl)) (flat_loadF (c := spR) (n := 2) spR_len (by kernel_rfl) (i := a) (k := 1) (by omega) (spR_at (by omega)).2 (by omega)))⟩,
                                      tri_quietW (fun β => [(146, .bool false)]) [] [] (fun β => [(.bool (decide ((elB p.bs a).2 < (p.n.differA a 5).2)), .bool false)]) (by kernel_rfl) (fun β extra => by kernel_rfl) (by kernel_rfl) (fun β => ⟨(bo hd7), trivial⟩)⟩,
                                      tri_quietW (fun β => []) [] [] (fun β => []) (by kernel_rfl) (fun β extra => by kernel_rfl) (by kernel_rfl) (fun β => trivial)⟩
                                      (fun β => ⟨[(2, .bool false), (4, pA b3), (5, sV d p.bs.length c2), (13, iV (p.n.longA.1 : Int)), (14, iV (p.n.longA.2 : Int)), (105, iV (p.bs.length : Int)), (106, iV (a : Int)), (19, iV (a : Int)), (20, .bool true), (147, .bool false)], [(b3, aO #[.slice p.ba p.bs.length p.bc, iV p.zlo, iV p.zhi, iV p.rlo, iV p.rhi, .slice p.ra p.rs.length p.rc] 30), (e, .cells (cs).toArray et (0, 0)), (g, cO ((p.bs).flatMap spR ++ sp) 23), (d, cO ((ds).flatMap inR ++ sq) 3)]⟩) (fun β => by kernel_rfl) (fun β7 => ?_)
                  refine run_auto [] 10 [false] [] [2, 4, 5, 13, 14, 105, 106, 19, 20, 149, 150] [0, 1, 2, 3] (st' := ⟨[(2, .bool false), (4, pA b3), (5, sV d p.bs.length c2), (13, iV (p.n.longA.1 : Int)), (14, iV (p.n.longA.2 : Int)), (105, iV (p.bs.length : Int)), (106, iV (a : Int)), (19, iV (a : Int)), (20, .bool true), (149, iV (p.bs.length : Int)), (150, iV 0)], [(b3, aO #[.slice p.ba p.bs.length p.bc, iV p.zlo, iV p.zhi, iV p.rlo, iV p.rhi, .slice p.ra p.rs.length p.rc] 30), (e, .cells (cs).toArray et (0, 0)), (g, cO ((p.bs).flatMap spR ++ sp) 23), (d, cO ((ds).flatMap inR ++ sq) 3)]⟩) (acc := [(.bool false, .bool false)]) (by kernel_rfl) (by kernel_rfl) ⟨rfl, trivial⟩ ?_
                  refine run_auto [] 0 [] [] [2, 4, 5, 13, 14, 105, 106, 19, 20, 149, 150] [0, 1, 2, 3] (st' := ⟨[(2, .bool false), (4, pA b3), (5, sV d p.bs.length c2), (13, iV (p.n.longA.1 : Int)), (14, iV (p.n.longA.2 : Int)), (105, iV (p.bs.length : Int)), (106, iV (a : Int)), (19, iV (a : Int)), (20, .bool true), (149, iV (p.bs.length : Int)), (150, iV 0)], [(b3, aO #[.slice p.ba p.bs.length p.bc, iV p.zlo, iV p.zhi, iV p.rlo, iV p.rhi, .slice p.ra p.rs.length p.rc] 30), (e, .cells (cs).toArray et (0, 0)), (g, cO ((p.bs).flatMap spR ++ sp) 23), (d, cO ((ds).flatMap inR ++ sq) 3)]⟩) (acc := []) (by kernel_rfl) (by kernel_rfl) trivial ?_
                  refine run_loop (S := fun (b : Nat) => ⟨[(2, .bool false), (4, pA b3), (5, sV d p.bs.length c2), (13, iV (p.n.longA.1 : Int)), (14, iV (p.n.longA.2 : Int)), (105, iV (p.bs.length : Int)), (106, iV (a : Int)), (19, iV (a : Int)), (20, .bool (lonB ds a b)), (149, iV (p.bs.length : Int)), (150, iV (b : Int))], [(b3, aO #[.slice p.ba p.bs.length p.bc, iV p.zlo, iV p.zhi, iV p.rlo, iV p.rhi, .slice p.ra p.rs.length p.rc] 30), (e, .cells (cs).toArray et (0, 0)), (g, cO ((p.bs).flatMap spR ++ sp) 23), (d, cO ((ds).flatMap inR ++ sq) 3)]⟩) (fun b => b ≤ p.bs.length) (fun b => p.bs.length - b) (0) (by kernel_rfl) (Nat.zero_le _) (by kernel_rfl) (fun b hI1 J1 hJ1 => ?_)
                  cases hd8 : (decide ((b : Int) < (p.bs.length : Int))) with
                  | false =>
                    have hp8 := of_decide_eq_false hd8
                    have hbn : b = p.bs.length := by omega
                    cases hd9 : (lonB ds a b) with
                    | false =>
                      refine run_auto [(151, .bool false), (199, .bool true)] 23 [false] [] [2, 4, 5, 13, 14, 105, 106, 197, 200, 201, 202] [0, 1, 2, 3] (st' := ⟨[(2, .bool false), (4, pA b3), (5, sV d p.bs.length c2), (13, iV (p.n.longA.1 : Int)), (14, iV (p.n.longA.2 : Int)), (105, iV (p.bs.length : Int)), (106, iV (a : Int)), (197, .bool false), (200, .bool true), (201, iV (p.n.longA.1 : Int)), (202, iV (a : Int))], [(b3, aO #[.slice p.ba p.bs.length p.bc, iV p.zlo, iV p.zhi, iV p.rlo, iV p.rhi, .slice p.ra p.rs.length p.rc] 30), (e, .cells (cs).toArray et (0, 0)), (g, cO ((p.bs).flatMap spR ++ sp) 23), (d, cO ((ds).flatMap inR ++ sq) 3)]⟩) (acc := [(.bool true, .bool true), (.bool false, .bool false), (.bool (decide ((b : Int) < (p.bs.length : Int))), .bool false)]) (by kernel_rfl) (by kernel_rfl) ⟨rfl, rfl, (bo hd8), trivial⟩ ?_
                      refine run_v (binOp .shr 3 (iV (p.n.longA.1 : Nat)) (iV (a : Nat)) >>= fun v => pure (Next.value v)) (some 203) (iV ((p.n.longA.1 >>> a : Nat) : Int)) (by kernel_rfl) (fun w1 k1 h1 => shr_run p.n.longA.1 a (by omega)) ?_
                      cases hd10 : (p.n.longA.1.testBit a) with
                      | false =>
                        refine run_auto [(204, iV (((p.n.longA.1 >>> a : Nat) &&& 1 : Nat) : Int)), (205, .bool false), (208, iV ((a + 1 : Nat) : Int))] 12 [false] [] [2, 4, 5, 13, 14, 105, 106] [0, 1, 2, 3] (st' := ⟨[(2, .bool false), (4, pA b3), (5, sV d p.bs.length c2), (13, iV (p.n.longA.1 : Int)), (14, iV (p.n.longA.2 : Int)), (105, iV (p.bs.length : Int)), (106, iV ((a + 1 : Nat) : Int))], [(b3, aO #[.slice p.ba p.bs.length p.bc, iV p.zlo, iV p.zhi, iV p.rlo, iV p.rhi, .slice p.ra p.rs.length p.rc] 30), (e, .cells (cs).toArray et (0, 0)), (g, cO ((p.bs).flatMap spR ++ sp) 23), (d, cO ((ds).flatMap inR ++ sq) 3)]⟩) (acc := [(iV (IntKind.i64.wrap ((a : Int) + 1)), iV ((a + 1 : Nat) : Int)), (.bool false, .bool false), (.bool ((((p.n.longA.1 >>> a : Nat) &&& 1 : Nat) : Int) == 1), .bool false), (iV (bits .and .i64 ((p.n.longA.1 >>> a : Nat) : Int) 1), iV (((p.n.longA.1 >>> a : Nat) &&& 1 : Nat) : Int))]) (by kernel_rfl) (by kernel_rfl) ⟨(wr (by omega) (by omega)), rfl, (bo (by rw [has_bit, hd10]; try rfl)), (and_nat (p.n.longA.1 >>> a : Nat) 1 (by have := Nat.shiftRight_le p.n.longA.1 a; omega) (by omega)), trivial⟩ ?_
                        exact run_round (by kernel_rfl) (hJ0 (a + 1) (by omega) (by omega))
                      | true =>
                        obtain ⟨o, ho, hlo⟩ := lonB_no hd9
                        have hsu := eM.sure ha (b := o) (by omega) hlo
                        rw [hd10] at hsu
                        cases hsu
                    | true =>
                      refine run_auto [(151, .bool false)] 13 [false] [] [2, 4, 5, 13, 14, 105, 106, 19, 20, 190, 191, 192] [0, 1, 2, 3] (st' := ⟨[(2, .bool false), (4, pA b3), (5, sV d p.bs.length c2), (13, iV (p.n.longA.1 : Int)), (14, iV (p.n.longA.2 : Int)), (105, iV (p.bs.length : Int)), (106, iV (a : Int)), (19, iV (a : Int)), (20, .bool true), (190, .bool true), (191, iV (p.n.longA.2 : Int)), (192, iV (a : Int))], [(b3, aO #[.slice p.ba p.bs.length p.bc, iV p.zlo, iV p.zhi, iV p.rlo, iV p.rhi, .slice p.ra p.rs.length p.rc] 30), (e, .cells (cs).toArray et (0, 0)), (g, cO ((p.bs).flatMap spR ++ sp) 23), (d, cO ((ds).flatMap inR ++ sq) 3)]⟩) (acc := [(.bool false, .bool false), (.bool (decide ((b : Int) < (p.bs.length : Int))), .bool false)]) (by kernel_rfl) (by kernel_rfl) ⟨rfl, (bo hd8), trivial⟩ ?_
                      refine run_v (binOp .shr 3 (iV (p.n.longA.2 : Nat)) (iV (a : Nat)) >>= fun v => pure (Next.value v)) (some 193) (iV ((p.n.longA.2 >>> a : Nat) : Int)) (by kernel_rfl) (fun w1 k1 h1 => shr_run p.n.longA.2 a (by omega)) ?_
                      cases hd10 : (p.n.longA.2.testBit a) with
                      | false =>
                        have hcan := eM.can ha (fun o ho => lonB_yes hd9 o (by omega))
                        rw [hd10] at hcan
                        cases hcan
                      | true =>
                        refine run_auto [(194, iV (((p.n.longA.2 >>> a : Nat) &&& 1 : Nat) : Int)), (195, .bool false), (199, .bool false), (208, iV ((a + 1 : Nat) : Int))] 22 [false] [] [2, 4, 5, 13, 14, 105, 106] [0, 1, 2, 3] (st' := ⟨[(2, .bool false), (4, pA b3), (5, sV d p.bs.length c2), (13, iV (p.n.longA.1 : Int)), (14, iV (p.n.longA.2 : Int)), (105, iV (p.bs.length : Int)), (106, iV ((a + 1 : Nat) : Int))], [(b3, aO #[.slice p.ba p.bs.length p.bc, iV p.zlo, iV p.zhi, iV p.rlo, iV p.rhi, .slice p.ra p.rs.length p.rc] 30), (e, .cells (cs).toArray et (0, 0)), (g, cO ((p.bs).flatMap spR ++ sp) 23), (d, cO ((ds).flatMap inR ++ sq) 3)]⟩) (acc := [(iV (IntKind.i64.wrap ((a : Int) + 1)), iV ((a + 1 : Nat) : Int)), (.bool false, .bool false), (.bool false, .bool false), (.bool ((((p.n.longA.2 >>> a : Nat) &&& 1 : Nat) : Int) == 0), .bool false), (iV (bits .and .i64 ((p.n.longA.2 >>> a : Nat) : Int) 1), iV (((p.n.longA.2 >>> a : Nat) &&& 1 : Nat) : Int))]) (by kernel_rfl) (by kernel_rfl) ⟨(wr (by omega) (by omega)), rfl, rfl, (bo (by rw [has_bit0, hd10]; try rfl)), (and_nat (p.n.longA.2 >>> a : Nat) 1 (by have := Nat.shiftRight_le p.n.longA.2 a; omega) (by omega)), trivial⟩ ?_
                        exact run_round (by kernel_rfl) (hJ0 (a + 1) (by omega) (by omega))
                  | true =>
                    have hp8 := of_decide_eq_true hd8
                    have hb : b < p.bs.length := by omega
                    have hdb := eM.blk b hb
                    have hblb := hF.bl b hb
                    have hdif := eM.differ ha hb
                    refine run_auto [(151, .bool true)] 15 [true] [] [2, 4, 5, 13, 14, 105, 106, 19, 20, 149, 150, 23] [0, 1, 2, 3] (st' := ⟨[(2, .bool false), (4, pA b3), (5, sV d p.bs.length c2), (13, iV (p.n.longA.1 : Int)), (14, iV (p.n.longA.2 : Int)), (105, iV (p.bs.length : Int)), (106, iV (a : Int)), (19, iV (a : Int)), (20, .bool (lonB ds a b)), (149, iV (p.bs.length : Int)), (150, iV (b : Int)), (23, iV (b : Int))], [(b3, aO #[.slice p.ba p.bs.length p.bc, iV p.zlo, iV p.zhi, iV p.rlo, iV p.rhi, .slice p.ra p.rs.length p.rc] 30), (e, .cells (cs).toArray et (0, 0)), (g, cO ((p.bs).flatMap spR ++ sp) 23), (d, cO ((ds).flatMap inR ++ sq) 3)]⟩) (acc := [(.bool true, .bool true), (.bool (decide ((b : Int) < (p.bs.length : Int))), .bool true)]) (by kernel_rfl) (by kernel_rfl) ⟨rfl, (bo hd8), trivial⟩ ?_
                    cases hd9 : (lonB ds a b) with
                    | false =>
                      refine drawW 13 [{ val := fun _ => .bool false, slots := [20] },
                                              { val := fun _ => .bool false, slots := [153] },
                                              { slots := [154] },
                                              { slots := [154] },
                                              { slots := [154] },
                                              { slots := [154] },
                                              { slots := [154] },
                                              { slots := [154] },
                                              { slots := [154] },
                                              { slots := [154] },
                                              { slots := [154] },
                                              { val := fun _ => .bool false, slots := [154, 163] },
                                              { val := fun _ => .bool false, slots := [164] }] [[], [0], [0, 1], [0, 1], [0, 1, 2, 3], [0, 1, 2, 3, 4], [0, 1], [0, 1], [0, 1, 6, 7], [0, 1, 6, 7, 8], [0, 1, 2, 3, 4, 5, 6, 7, 8, 9], [0, 1, 2, 3, 4, 5, 6, 7, 8, 9, 10], [0, 1, 2, 3, 4, 5, 6, 7, 8, 9, 10, 11]] (by kernel_rfl) (by kernel_rfl) (by kernel_rfl) (by kernel_rfl) [2, 4, 5, 13, 14, 105, 106, 19, 20, 149, 150, 23] [0, 1, 2, 3] (by kernel_rfl)
                                              ⟨⟨⟨⟨⟨⟨⟨⟨⟨⟨⟨⟨⟨trivial,
                                              tri_quietW (fun β => []) [] [] (fun β => []) (by kernel_rfl) (fun β extra => by kernel_rfl) (by kernel_rfl) (fun β => trivial)⟩,
                                              tri_quietW (fun β => []) [] [] (fun β => []) (by kernel_rfl) (fun β extra => by kernel_rfl) (by kernel_rfl) (fun β => trivial)⟩,
                                              tri_quietW (fun β => []) [] [] (fun β => []) (by kernel_rfl) (fun β extra => by kernel_rfl) (by kernel_rfl) (fun β => trivial)⟩,
                                              tri_quietW (fun β => []) [] [] (fun β => []) (by kernel_rfl) (fun β extra => by kernel_rfl) (by kernel_rfl) (fun β => trivial)⟩,
                                              tri_quietW (fun β => []) [] [] (fun β => []) (by kernel_rfl) (fun β extra => by kernel_rfl) (by kernel_rfl) (fun β => trivial)⟩,
                                              tri_quietW (fun β => []) [] [] (fun β => []) (by kernel_rfl) (fun β extra => by kernel_rfl) (by kernel_rfl) (fun β => trivial)⟩,
                                              tri_quietW (fun β => []) [] [] (fun β => []) (by kernel_rfl) (fun β extra => by kernel_rfl) (by kernel_rfl) (fun β => trivial)⟩,
                                              tri_quietW (fun β => []) [] [] (fun β => []) (by kernel_rfl) (fun β extra => by kernel_rfl) (by kernel_rfl) (fun β => trivial)⟩,
                                              tri_quietW (fun β => []) [] [] (fun β => []) (by kernel_rfl) (fun β extra => by kernel_rfl) (by kernel_rfl) (fun β => trivial)⟩,
                                              tri_quietW (fun β => []) [] [] (fun β => []) (by kernel_rfl) (fun β extra => by kernel_rfl) (by kernel_rfl) (fun β => trivial)⟩,
                                              tri_quietW (fun β => []) [] [] (fun β => []) (by kernel_rfl) (fun β extra => by kernel_rfl) (by kernel_rfl) (fun β => trivial)⟩,
                                              tri_quietW (fun β => []) [] [] (fun β => []) (by kernel_rfl) (fun β extra => by kernel_rfl) (by kernel_rfl) (fun β => trivial)⟩,
                                              tri_quietW (fun β => []) [] [] (fun β => []) (by kernel_rfl) (fun β extra => by kernel_rfl) (by kernel_rfl) (fun β => trivial)⟩
                                              (fun β => ⟨[(2, .bool false), (4, pA b3), (5, sV d p.bs.length c2), (13, iV (p.n.longA.1 : Int)), (14, iV (p.n.longA.2 : Int)), (105, iV (p.bs.length : Int)), (106, iV (a : Int)), (19, iV (a : Int)), (20, .bool false), (149, iV (p.bs.length : Int)), (150, iV (b : Int)), (23, iV (b : Int))], [(b3, aO #[.slice p.ba p.bs.length p.bc, iV p.zlo, iV p.zhi, iV p.rlo, iV p.rhi, .slice p.ra p.rs.length p.rc] 30), (e, .cells (cs).toArray et (0, 0)), (g, cO ((p.bs).flatMap spR ++ sp) 23), (d, cO ((ds).flatMap inR ++ sq) 3)]⟩) (fun β => by kernel_rfl) (fun β8 => ?_)
                      refine run_auto [] 5 [] [0] [2, 4, 5, 13, 14, 105, 106, 19, 20, 149, 150, 23, 166, 167, 168] [0, 1, 2, 3] (st' := ⟨[(2, .bool false), (4, pA b3), (5, sV d p.bs.length c2), (13, iV (p.n.longA.1 : Int)), (14, iV (p.n.longA.2 : Int)), (105, iV (p.bs.length : Int)), (106, iV (a : Int)), (19, iV (a : Int)), (20, .bool false), (149, iV (p.bs.length : Int)), (150, iV (b : Int)), (23, iV (b : Int)), (166, .agg #[.slice p.ba p.bs.length p.bc, iV p.zlo, iV p.zhi, iV p.rlo, iV p.rhi, .slice p.ra p.rs.length p.rc]), (167, iV (a : Int)), (168, iV (b : Int))], [(b3, aO #[.slice p.ba p.bs.length p.bc, iV p.zlo, iV p.zhi, iV p.rlo, iV p.rhi, .slice p.ra p.rs.length p.rc] 30), (e, .cells (cs).toArray et (0, 0)), (g, cO ((p.bs).flatMap spR ++ sp) 23), (d, cO ((ds).flatMap inR ++ sq) 3)]⟩) (acc := [(pA b3, pA b3)]) (by kernel_rfl) (by kernel_rfl) ⟨rfl, trivial⟩ ?_
                      refine run_ret1 13 #[.agg #[.slice p.ba p.bs.length p.bc, iV p.zlo, iV p.zhi, iV p.rlo, iV p.rhi, .slice p.ra p.rs.length p.rc], iV (a : Int), iV (b : Int)] (some 169) (.tuple #[.agg #[iV (p.n.differA a b).1, iV (p.n.differA a b).2], iV 0]) (by kernel_rfl) (fun w1 k1 h1 => (by have h := Differ_any p (a : Int) (b : Int) w1 (own_in (h1 (g, cO ((p.bs).flatMap spR ++ sp) 23) (List.mem_of_getElem? (i := 2) (by kernel_rfl))) hba hF (h1 (e, .cells (cs).toArray et (0, 0)) (List.mem_of_getElem? (i := 1) (by kernel_rfl))) hrd); rw [show differR p (a : Int) (b : Int) = .inr (p.n.differA a b) from (by unfold differR; rw [hok, blk_yes ha, blk_yes hb, hn0]; rfl)] at h; exact h)) ?_
                      refine run_auto [] 3 [] [] [2, 4, 5, 13, 14, 105, 106, 19, 20, 149, 150, 23, 170, 171] [0, 1, 2, 3] (st' := ⟨[(2, .bool false), (4, pA b3), (5, sV d p.bs.length c2), (13, iV (p.n.longA.1 : Int)), (14, iV (p.n.longA.2 : Int)), (105, iV (p.bs.length : Int)), (106, iV (a : Int)), (19, iV (a : Int)), (20, .bool false), (149, iV (p.bs.length : Int)), (150, iV (b : Int)), (23, iV (b : Int)), (170, .agg #[iV (p.n.differA a b).1, iV (p.n.differA a b).2]), (171, iV 0)], [(b3, aO #[.slice p.ba p.bs.length p.bc, iV p.zlo, iV p.zhi, iV p.rlo, iV p.rhi, .slice p.ra p.rs.length p.rc] 30), (e, .cells (cs).toArray et (0, 0)), (g, cO ((p.bs).flatMap spR ++ sp) 23), (d, cO ((ds).flatMap inR ++ sq) 3)]⟩) (acc := []) (by kernel_rfl) (by kernel_rfl) trivial ?_
                      refine run_new (aO #[iV 0, iV 0] 23) (fun b9 => pA b9) (some 24) (fun _ => by kernel_rfl) (fun b9 hb9 => ?_)
                      refine run_auto [] 4 [] [0] [2, 4, 5, 13, 14, 105, 106, 19, 20, 149, 150, 23, 24, 25] [0, 1, 2, 3, 4] (st' := ⟨[(2, .bool false), (4, pA b3), (5, sV d p.bs.length c2), (13, iV (p.n.longA.1 : Int)), (14, iV (p.n.longA.2 : Int)), (105, iV (p.bs.length : Int)), (106, iV (a : Int)), (19, iV (a : Int)), (20, .bool false), (149, iV (p.bs.length : Int)), (150, iV (b : Int)), (23, iV (b : Int)), (24, pA b9), (25, iV 0)], [(b9, aO #[iV (p.n.differA a b).1, iV (p.n.differA a b).2] 23), (b3, aO #[.slice p.ba p.bs.length p.bc, iV p.zlo, iV p.zhi, iV p.rlo, iV p.rhi, .slice p.ra p.rs.length p.rc] 30), (e, .cells (cs).toArray et (0, 0)), (g, cO ((p.bs).flatMap spR ++ sp) 23), (d, cO ((ds).flatMap inR ++ sq) 3)]⟩) (acc := [(pA b9, pA b9)]) (by kernel_rfl) (by kernel_rfl) ⟨rfl, trivial⟩ ?_
                      cases hd10 : (insB ((elU ds a) - (elU ds b)) (p.n.differA a b).1 (p.n.differA a b).2) with
                      | false =>
                        exact absurd hd10 (by unfold insB; simp; omega)
                      | true =>
                        refine drawW 16 [{ val := fun _ => iV 0, slots := [25] },
                                                  { val := fun _ => .bool false, slots := [172] },
                                                  { val := fun _ => .bool false, slots := [173] },
                                                  { val := fun _ => sV d p.bs.length c2, slots := [5, 174] },
                                                  { val := fun _ => iV (a : Int), slots := [19, 174] },
                                                  { val := fun _ => .pointer (some ⟨d, a, none⟩), slots := [174, 175, 176] },
                                                  { val := fun _ => iV (elU ds a), slots := [174, 177], reads := [4] },
                                                  { val := fun _ => sV d p.bs.length c2, slots := [5, 174] },
                                                  { val := fun _ => iV (b : Int), slots := [23, 174] },
                                                  { val := fun _ => .pointer (some ⟨d, b, none⟩), slots := [174, 179, 180] },
                                                  { val := fun _ => iV (elU ds b), slots := [174, 181], reads := [4] },
                                                  { val := fun _ => iV ((elU ds a) - (elU ds b)), slots := [174, 178, 182] },
                                                  { val := fun _ => .agg #[iV (p.n.differA a b).1, iV (p.n.differA a b).2], slots := [24, 174], reads := [0] },
                                                  { val := fun _ => .bool true, slots := [174, 183, 184] },
                                                  { val := fun _ => .bool false, slots := [174, 185] },
                                                  { val := fun _ => .bool false, slots := [174, 186] }] [[], [0], [0, 1], [0, 1, 2], [0, 1, 2], [0, 1, 2, 3, 4], [0, 1, 2, 3, 4, 5], [0, 1, 2], [0, 1, 2], [0, 1, 2, 7, 8], [0, 1, 2, 7, 8, 9], [0, 1, 2, 3, 4, 5, 6, 7, 8, 9, 10], [0, 1, 2], [0, 1, 2, 3, 4, 5, 6, 7, 8, 9, 10, 11, 12], [0, 1, 2, 3, 4, 5, 6, 7, 8, 9, 10, 11, 12, 13], [0, 1, 2, 3, 4, 5, 6, 7, 8, 9, 10, 11, 12, 13, 14]] (by kernel_rfl) (by kernel_rfl) (by kernel_rfl) (by kernel_rfl) [2, 4, 5, 13, 14, 105, 106, 19, 20, 149, 150, 187] [1, 2, 3, 4] (by kernel_rfl)
                                                  ⟨⟨⟨⟨⟨⟨⟨⟨⟨⟨⟨⟨⟨⟨⟨⟨trivial,
                                                  tri_quietW (fun β => []) [] [] (fun β => []) (by kernel_rfl) (fun β extra => by kernel_rfl) (by kernel_rfl) (fun β => trivial)⟩,
                                                  tri_quietW (fun β => [(173, .bool false)]) [] [] (fun β => [(.bool false, .bool false)]) (by kernel_rfl) (fun β extra => by kernel_rfl) (by kernel_rfl) (fun β => ⟨rfl, trivial⟩)⟩,
                                                  tri_quietW (fun β => []) [] [] (fun β => []) (by kernel_rfl) (fun β extra => by kernel_rfl) (by kernel_rfl) (fun β => trivial)⟩,
                                                  tri_quietW (fun β => []) [] [] (fun β => []) (by kernel_rfl) (fun β extra => by kernel_rfl) (by kernel_rfl) (fun β => trivial)⟩,
                                                  tri_quietW (fun β => []) [] [] (fun β => []) (by kernel_rfl) (fun β extra => by kernel_rfl) (by kernel_rfl) (fun β => trivial)⟩,
                                                  tri_vVW (fun β => .pointer (some ⟨d, a, none⟩)) (fun β => by kernel_rfl) (fun β => (Instr.indexAt 45 (sV d p.bs.length c2) (iV (a : Int)) >>= fun v => pure (Next.value v))) (by kernel_rfl) (fun β extra => by kernel_rfl) (fun β => by kernel_rfl) (fun β w1 k1 h1 => idx_off (e := 3) (n := 1) (by kernel_rfl) (by kernel_rfl) d 0 p.bs.length c2 .i64 a (by omega) a (by omega) w1)⟩,
                                                  tri_vVW (fun β => iV (elU ds a)) (fun β => by kernel_rfl) (fun β => (Instr.loadAt 3 (.pointer (some ⟨d, a, none⟩)) >>= fun v => pure (Next.value v))) (by kernel_rfl) (fun β extra => by kernel_rfl) (fun β => by kernel_rfl) (fun β w1 k1 h1 => load_own (e := 3) (fr := (0, 0)) (c := (ds).flatMap inR ++ sq) h1 (List.mem_of_getElem? (i := 0) (by kernel_rfl)) (flat_loadF (c := inR) (n := 1) inR_len (by kernel_rfl) (i := a) (k := 0) (by first | omega | (simp; omega)) (inR_at (by first | omega | (simp; omega))) (by omega)))⟩,
                                                  tri_quietW (fun β => []) [] [] (fun β => []) (by kernel_rfl) (fun β extra => by kernel_rfl) (by kernel_rfl) (fun β => trivial)⟩,
                                                  tri_quietW (fun β => []) [] [] (fun β => []) (by kernel_rfl) (fun β extra => by kernel_rfl) (by kernel_rfl) (fun β => trivial)⟩,
                                                  tri_vVW (fun β => .pointer (some ⟨d, b, none⟩)) (fun β => by kernel_rfl) (fun β => (Instr.indexAt 45 (sV d p.bs.length c2) (iV (b : Int)) >>= fun v => pure (Next.value v))) (by kernel_rfl) (fun β extra => by kernel_rfl) (fun β => by kernel_rfl) (fun β w1 k1 h1 => idx_off (e := 3) (n := 1) (by kernel_rfl) (by kernel_rfl) d 0 p.bs.length c2 .i64 b (by omega) b (by omega) w1)⟩,
                                                  tri_vVW (fun β => iV (elU ds b)) (fun β => by kernel_rfl) (fun β => (Instr.loadAt 3 (.pointer (some ⟨d, b, none⟩)) >>= fun v => pure (Next.value v))) (by kernel_rfl) (fun β extra => by kernel_rfl) (fun β => by kernel_rfl) (fun β w1 k1 h1 => load_own (e := 3) (fr := (0, 0)) (c := (ds).flatMap inR ++ sq) h1 (List.mem_of_getElem? (i := 0) (by kernel_rfl)) (flat_loadF (c := inR) (n := 1) inR_len (by kernel_rfl) (i := b) (k := 0) (by first | omega | (simp; omega)) (inR_at (by first | omega | (simp; omega))) (by omega)))⟩,
                                                  tri_quietW (fun β => [(183, iV ((elU ds a) - (elU ds b)))]) [] [] (fun β => [(iV (IntKind.i64.wrap ((elU ds a) - (elU ds b))), iV ((elU ds a) - (elU ds b)))]) (by kernel_rfl) (fun β extra => by kernel_rfl) (by kernel_rfl) (fun β => ⟨(wr (by omega) (by omega)), trivial⟩)⟩,
                                                  tri_quietW (fun β => []) [0] [0] (fun β => [(pA b9, pA b9)]) (by kernel_rfl) (fun β extra => by kernel_rfl) (by kernel_rfl) (fun β => ⟨rfl, trivial⟩)⟩,
                                                  tri_callVW (fun β => .bool true) (fun β => by kernel_rfl) 24 (fun β => #[iV ((elU ds a) - (elU ds b)), .agg #[iV (p.n.differA a b).1, iV (p.n.differA a b).2]]) (by kernel_rfl) (fun β extra => by kernel_rfl) (fun β => by kernel_rfl) (fun β w1 k1 h1 => (by have h := inside_any ((elU ds a) - (elU ds b)) (p.n.differA a b).1 (p.n.differA a b).2 w1; rw [hd10] at h; exact h))⟩,
                                                  tri_quietW (fun β => [(186, .bool false)]) [] [] (fun β => [(.bool false, .bool false)]) (by kernel_rfl) (fun β extra => by kernel_rfl) (by kernel_rfl) (fun β => ⟨rfl, trivial⟩)⟩,
                                                  tri_quietW (fun β => []) [] [] (fun β => []) (by kernel_rfl) (fun β extra => by kernel_rfl) (by kernel_rfl) (fun β => trivial)⟩
                                                  (fun β => ⟨[(2, .bool false), (4, pA b3), (5, sV d p.bs.length c2), (13, iV (p.n.longA.1 : Int)), (14, iV (p.n.longA.2 : Int)), (105, iV (p.bs.length : Int)), (106, iV (a : Int)), (19, iV (a : Int)), (20, .bool false), (149, iV (p.bs.length : Int)), (150, iV (b : Int)), (187, .bool false)], [(b3, aO #[.slice p.ba p.bs.length p.bc, iV p.zlo, iV p.zhi, iV p.rlo, iV p.rhi, .slice p.ra p.rs.length p.rc] 30), (e, .cells (cs).toArray et (0, 0)), (g, cO ((p.bs).flatMap spR ++ sp) 23), (d, cO ((ds).flatMap inR ++ sq) 3)]⟩) (fun β => by kernel_rfl) (fun β10 => ?_)
                        refine run_auto [(188, iV ((b + 1 : Nat) : Int))] 7 [false] [] [2, 4, 5, 13, 14, 105, 106, 19, 20, 149, 150] [0, 1, 2, 3] (st' := ⟨[(2, .bool false), (4, pA b3), (5, sV d p.bs.length c2), (13, iV (p.n.longA.1 : Int)), (14, iV (p.n.longA.2 : Int)), (105, iV (p.bs.length : Int)), (106, iV (a : Int)), (19, iV (a : Int)), (20, .bool false), (149, iV (p.bs.length : Int)), (150, iV ((b + 1 : Nat) : Int))], [(b3, aO #[.slice p.ba p.bs.length p.bc, iV p.zlo, iV p.zhi, iV p.rlo, iV p.rhi, .slice p.ra p.rs.length p.rc] 30), (e, .cells (cs).toArray et (0, 0)), (g, cO ((p.bs).flatMap spR ++ sp) 23), (d, cO ((ds).flatMap inR ++ sq) 3)]⟩) (acc := [(iV (IntKind.i64.wrap ((b : Int) + 1)), iV ((b + 1 : Nat) : Int)), (.bool false, .bool false)]) (by kernel_rfl) (by kernel_rfl) ⟨(wr (by omega) (by omega)), rfl, trivial⟩ ?_
                        have hj := hJ1 (b + 1) (by omega) (by omega)
                        rw [lonB_next, hd9] at hj
                        exact run_round (by kernel_rfl) hj
                    | true =>
                      cases hd10 : (decide ((elU ds b) ≤ (elU ds a))) with
                      | false =>
                        have hp10 := of_decide_eq_false hd10
                        refine drawW 13 [{ val := fun _ => .bool true, slots := [20] },
                                                  { val := fun _ => .bool true, slots := [153] },
                                                  { val := fun _ => sV d p.bs.length c2, slots := [5, 154] },
                                                  { val := fun _ => iV (b : Int), slots := [23, 154] },
                                                  { val := fun _ => .pointer (some ⟨d, b, none⟩), slots := [154, 155, 156] },
                                                  { val := fun _ => iV (elU ds b), slots := [154, 157], reads := [3] },
                                                  { val := fun _ => sV d p.bs.length c2, slots := [5, 154] },
                                                  { val := fun _ => iV (a : Int), slots := [19, 154] },
                                                  { val := fun _ => .pointer (some ⟨d, a, none⟩), slots := [154, 159, 160] },
                                                  { val := fun _ => iV (elU ds a), slots := [154, 161], reads := [3] },
                                                  { val := fun _ => .bool false, slots := [154, 158, 162] },
                                                  { val := fun _ => .bool false, slots := [154, 163] },
                                                  { val := fun _ => .bool false, slots := [164] }] [[], [0], [0, 1], [0, 1], [0, 1, 2, 3], [0, 1, 2, 3, 4], [0, 1], [0, 1], [0, 1, 6, 7], [0, 1, 6, 7, 8], [0, 1, 2, 3, 4, 5, 6, 7, 8, 9], [0, 1, 2, 3, 4, 5, 6, 7, 8, 9, 10], [0, 1, 2, 3, 4, 5, 6, 7, 8, 9, 10, 11]] (by kernel_rfl) (by kernel_rfl) (by kernel_rfl) (by kernel_rfl) [2, 4, 5, 13, 14, 105, 106, 19, 20, 149, 150, 23] [0, 1, 2, 3] (by kernel_rfl)
                                                  ⟨⟨⟨⟨⟨⟨⟨⟨⟨⟨⟨⟨⟨trivial,
                                                  tri_quietW (fun β => []) [] [] (fun β => []) (by kernel_rfl) (fun β extra => by kernel_rfl) (by kernel_rfl) (fun β => trivial)⟩,
                                                  tri_quietW (fun β => []) [] [] (fun β => []) (by kernel_rfl) (fun β extra => by kernel_rfl) (by kernel_rfl) (fun β => trivial)⟩,
                                                  tri_quietW (fun β => []) [] [] (fun β => []) (by kernel_rfl) (fun β extra => by kernel_rfl) (by kernel_rfl) (fun β => trivial)⟩,
                                                  tri_quietW (fun β => []) [] [] (fun β => []) (by kernel_rfl) (fun β extra => by kernel_rfl) (by kernel_rfl) (fun β => trivial)⟩,
                                                  tri_vVW (fun β => .pointer (some ⟨d, b, none⟩)) (fun β => by kernel_rfl) (fun β => (Instr.indexAt 45 (sV d p.bs.length c2) (iV (b : Int)) >>= fun v => pure (Next.value v))) (by kernel_rfl) (fun β extra => by kernel_rfl) (fun β => by kernel_rfl) (fun β w1 k1 h1 => idx_off (e := 3) (n := 1) (by kernel_rfl) (by kernel_rfl) d 0 p.bs.length c2 .i64 b (by omega) b (by omega) w1)⟩,
                                                  tri_vVW (fun β => iV (elU ds b)) (fun β => by kernel_rfl) (fun β => (Instr.loadAt 3 (.pointer (some ⟨d, b, none⟩)) >>= fun v => pure (Next.value v))) (by kernel_rfl) (fun β extra => by kernel_rfl) (fun β => by kernel_rfl) (fun β w1 k1 h1 => load_own (e := 3) (fr := (0, 0)) (c := (ds).flatMap inR ++ sq) h1 (List.mem_of_getElem? (i := 0) (by kernel_rfl)) (flat_loadF (c := inR) (n := 1) inR_len (by kernel_rfl) (i := b) (k := 0) (by first | omega | (simp; omega)) (inR_at (by first | omega | (simp; omega))) (by omega)))⟩,
                                                  tri_quietW (fun β => []) [] [] (fun β => []) (by kernel_rfl) (fun β extra => by kernel_rfl) (by kernel_rfl) (fun β => trivial)⟩,
                                                  tri_quietW (fun β => []) [] [] (fun β => []) (by kernel_rfl) (fun β extra => by kernel_rfl) (by kernel_rfl) (fun β => trivial)⟩,
                                                  tri_vVW (fun β => .pointer (some ⟨d, a, none⟩)) (fun β => by kernel_rfl) (fun β => (Instr.indexAt 45 (sV d p.bs.length c2) (iV (a : Int)) >>= fun v => pure (Next.value v))) (by kernel_rfl) (fun β extra => by kernel_rfl) (fun β => by kernel_rfl) (fun β w1 k1 h1 => idx_off (e := 3) (n := 1) (by kernel_rfl) (by kernel_rfl) d 0 p.bs.length c2 .i64 a (by omega) a (by omega) w1)⟩,
                                                  tri_vVW (fun β => iV (elU ds a)) (fun β => by kernel_rfl) (fun β => (Instr.loadAt 3 (.pointer (some ⟨d, a, none⟩)) >>= fun v => pure (Next.value v))) (by kernel_rfl) (fun β extra => by kernel_rfl) (fun β => by kernel_rfl) (fun β w1 k1 h1 => load_own (e := 3) (fr := (0, 0)) (c := (ds).flatMap inR ++ sq) h1 (List.mem_of_getElem? (i := 0) (by kernel_rfl)) (flat_loadF (c := inR) (n := 1) inR_len (by kernel_rfl) (i := a) (k := 0) (by first | omega | (simp; omega)) (inR_at (by first | omega | (simp; omega))) (by omega)))⟩,
                                                  tri_quietW (fun β => [(163, .bool false)]) [] [] (fun β => [(.bool (decide ((elU ds b) ≤ (elU ds a))), .bool false)]) (by kernel_rfl) (fun β extra => by kernel_rfl) (by kernel_rfl) (fun β => ⟨(bo hd10), trivial⟩)⟩,
                                                  tri_quietW (fun β => []) [] [] (fun β => []) (by kernel_rfl) (fun β extra => by kernel_rfl) (by kernel_rfl) (fun β => trivial)⟩,
                                                  tri_quietW (fun β => []) [] [] (fun β => []) (by kernel_rfl) (fun β extra => by kernel_rfl) (by kernel_rfl) (fun β => trivial)⟩
                                                  (fun β => ⟨[(2, .bool false), (4, pA b3), (5, sV d p.bs.length c2), (13, iV (p.n.longA.1 : Int)), (14, iV (p.n.longA.2 : Int)), (105, iV (p.bs.length : Int)), (106, iV (a : Int)), (19, iV (a : Int)), (20, .bool false), (149, iV (p.bs.length : Int)), (150, iV (b : Int)), (23, iV (b : Int))], [(b3, aO #[.slice p.ba p.bs.length p.bc, iV p.zlo, iV p.zhi, iV p.rlo, iV p.rhi, .slice p.ra p.rs.length p.rc] 30), (e, .cells (cs).toArray et (0, 0)), (g, cO ((p.bs).flatMap spR ++ sp) 23), (d, cO ((ds).flatMap inR ++ sq) 3)]⟩) (fun β => by kernel_rfl) (fun β8 => ?_)
                        refine run_auto [] 5 [] [0] [2, 4, 5, 13, 14, 105, 106, 19, 20, 149, 150, 23, 166, 167, 168] [0, 1, 2, 3] (st' := ⟨[(2, .bool false), (4, pA b3), (5, sV d p.bs.length c2), (13, iV (p.n.longA.1 : Int)), (14, iV (p.n.longA.2 : Int)), (105, iV (p.bs.length : Int)), (106, iV (a : Int)), (19, iV (a : Int)), (20, .bool false), (149, iV (p.bs.length : Int)), (150, iV (b : Int)), (23, iV (b : Int)), (166, .agg #[.slice p.ba p.bs.length p.bc, iV p.zlo, iV p.zhi, iV p.rlo, iV p.rhi, .slice p.ra p.rs.length p.rc]), (167, iV (a : Int)), (168, iV (b : Int))], [(b3, aO #[.slice p.ba p.bs.length p.bc, iV p.zlo, iV p.zhi, iV p.rlo, iV p.rhi, .slice p.ra p.rs.length p.rc] 30), (e, .cells (cs).toArray et (0, 0)), (g, cO ((p.bs).flatMap spR ++ sp) 23), (d, cO ((ds).flatMap inR ++ sq) 3)]⟩) (acc := [(pA b3, pA b3)]) (by kernel_rfl) (by kernel_rfl) ⟨rfl, trivial⟩ ?_
                        refine run_ret1 13 #[.agg #[.slice p.ba p.bs.length p.bc, iV p.zlo, iV p.zhi, iV p.rlo, iV p.rhi, .slice p.ra p.rs.length p.rc], iV (a : Int), iV (b : Int)] (some 169) (.tuple #[.agg #[iV (p.n.differA a b).1, iV (p.n.differA a b).2], iV 0]) (by kernel_rfl) (fun w1 k1 h1 => (by have h := Differ_any p (a : Int) (b : Int) w1 (own_in (h1 (g, cO ((p.bs).flatMap spR ++ sp) 23) (List.mem_of_getElem? (i := 2) (by kernel_rfl))) hba hF (h1 (e, .cells (cs).toArray et (0, 0)) (List.mem_of_getElem? (i := 1) (by kernel_rfl))) hrd); rw [show differR p (a : Int) (b : Int) = .inr (p.n.differA a b) from (by unfold differR; rw [hok, blk_yes ha, blk_yes hb, hn0]; rfl)] at h; exact h)) ?_
                        refine run_auto [] 3 [] [] [2, 4, 5, 13, 14, 105, 106, 19, 20, 149, 150, 23, 170, 171] [0, 1, 2, 3] (st' := ⟨[(2, .bool false), (4, pA b3), (5, sV d p.bs.length c2), (13, iV (p.n.longA.1 : Int)), (14, iV (p.n.longA.2 : Int)), (105, iV (p.bs.length : Int)), (106, iV (a : Int)), (19, iV (a : Int)), (20, .bool false), (149, iV (p.bs.length : Int)), (150, iV (b : Int)), (23, iV (b : Int)), (170, .agg #[iV (p.n.differA a b).1, iV (p.n.differA a b).2]), (171, iV 0)], [(b3, aO #[.slice p.ba p.bs.length p.bc, iV p.zlo, iV p.zhi, iV p.rlo, iV p.rhi, .slice p.ra p.rs.length p.rc] 30), (e, .cells (cs).toArray et (0, 0)), (g, cO ((p.bs).flatMap spR ++ sp) 23), (d, cO ((ds).flatMap inR ++ sq) 3)]⟩) (acc := []) (by kernel_rfl) (by kernel_rfl) trivial ?_
                        refine run_new (aO #[iV 0, iV 0] 23) (fun b9 => pA b9) (some 24) (fun _ => by kernel_rfl) (fun b9 hb9 => ?_)
                        refine run_auto [] 4 [] [0] [2, 4, 5, 13, 14, 105, 106, 19, 20, 149, 150, 23, 24, 25] [0, 1, 2, 3, 4] (st' := ⟨[(2, .bool false), (4, pA b3), (5, sV d p.bs.length c2), (13, iV (p.n.longA.1 : Int)), (14, iV (p.n.longA.2 : Int)), (105, iV (p.bs.length : Int)), (106, iV (a : Int)), (19, iV (a : Int)), (20, .bool false), (149, iV (p.bs.length : Int)), (150, iV (b : Int)), (23, iV (b : Int)), (24, pA b9), (25, iV 0)], [(b9, aO #[iV (p.n.differA a b).1, iV (p.n.differA a b).2] 23), (b3, aO #[.slice p.ba p.bs.length p.bc, iV p.zlo, iV p.zhi, iV p.rlo, iV p.rhi, .slice p.ra p.rs.length p.rc] 30), (e, .cells (cs).toArray et (0, 0)), (g, cO ((p.bs).flatMap spR ++ sp) 23), (d, cO ((ds).flatMap inR ++ sq) 3)]⟩) (acc := [(pA b9, pA b9)]) (by kernel_rfl) (by kernel_rfl) ⟨rfl, trivial⟩ ?_
                        cases hd11 : (insB ((elU ds a) - (elU ds b)) (p.n.differA a b).1 (p.n.differA a b).2) with
                        | false =>
                          exact absurd hd11 (by unfold insB; simp; omega)
                        | true =>
                          refine drawW 16 [{ val := fun _ => iV 0, slots := [25] },
                                                      { val := fun _ => .bool false, slots := [172] },
                                                      { val := fun _ => .bool false, slots := [173] },
                                                      { val := fun _ => sV d p.bs.length c2, slots := [5, 174] },
                                                      { val := fun _ => iV (a : Int), slots := [19, 174] },
                                                      { val := fun _ => .pointer (some ⟨d, a, none⟩), slots := [174, 175, 176] },
                                                      { val := fun _ => iV (elU ds a), slots := [174, 177], reads := [4] },
                                                      { val := fun _ => sV d p.bs.length c2, slots := [5, 174] },
                                                      { val := fun _ => iV (b : Int), slots := [23, 174] },
                                                      { val := fun _ => .pointer (some ⟨d, b, none⟩), slots := [174, 179, 180] },
                                                      { val := fun _ => iV (elU ds b), slots := [174, 181], reads := [4] },
                                                      { val := fun _ => iV ((elU ds a) - (elU ds b)), slots := [174, 178, 182] },
                                                      { val := fun _ => .agg #[iV (p.n.differA a b).1, iV (p.n.differA a b).2], slots := [24, 174], reads := [0] },
                                                      { val := fun _ => .bool true, slots := [174, 183, 184] },
                                                      { val := fun _ => .bool false, slots := [174, 185] },
                                                      { val := fun _ => .bool false, slots := [174, 186] }] [[], [0], [0, 1], [0, 1, 2], [0, 1, 2], [0, 1, 2, 3, 4], [0, 1, 2, 3, 4, 5], [0, 1, 2], [0, 1, 2], [0, 1, 2, 7, 8], [0, 1, 2, 7, 8, 9], [0, 1, 2, 3, 4, 5, 6, 7, 8, 9, 10], [0, 1, 2], [0, 1, 2, 3, 4, 5, 6, 7, 8, 9, 10, 11, 12], [0, 1, 2, 3, 4, 5, 6, 7, 8, 9, 10, 11, 12, 13], [0, 1, 2, 3, 4, 5, 6, 7, 8, 9, 10, 11, 12, 13, 14]] (by kernel_rfl) (by kernel_rfl) (by kernel_rfl) (by kernel_rfl) [2, 4, 5, 13, 14, 105, 106, 19, 20, 149, 150, 187] [1, 2, 3, 4] (by kernel_rfl)
                                                      ⟨⟨⟨⟨⟨⟨⟨⟨⟨⟨⟨⟨⟨⟨⟨⟨trivial,
                                                      tri_quietW (fun β => []) [] [] (fun β => []) (by kernel_rfl) (fun β extra => by kernel_rfl) (by kernel_rfl) (fun β => trivial)⟩,
                                                      tri_quietW (fun β => [(173, .bool false)]) [] [] (fun β => [(.bool false, .bool false)]) (by kernel_rfl) (fun β extra => by kernel_rfl) (by kernel_rfl) (fun β => ⟨rfl, trivial⟩)⟩,
                                                      tri_quietW (fun β => []) [] [] (fun β => []) (by kernel_rfl) (fun β extra => by kernel_rfl) (by kernel_rfl) (fun β => trivial)⟩,
                                                      tri_quietW (fun β => []) [] [] (fun β => []) (by kernel_rfl) (fun β extra => by kernel_rfl) (by kernel_rfl) (fun β => trivial)⟩,
                                                      tri_quietW (fun β => []) [] [] (fun β => []) (by kernel_rfl) (fun β extra => by kernel_rfl) (by kernel_rfl) (fun β => trivial)⟩,
                                                      tri_vVW (fun β => .pointer (some ⟨d, a, none⟩)) (fun β => by kernel_rfl) (fun β => (Instr.indexAt 45 (sV d p.bs.length c2) (iV (a : Int)) >>= fun v => pure (Next.value v))) (by kernel_rfl) (fun β extra => by kernel_rfl) (fun β => by kernel_rfl) (fun β w1 k1 h1 => idx_off (e := 3) (n := 1) (by kernel_rfl) (by kernel_rfl) d 0 p.bs.length c2 .i64 a (by omega) a (by omega) w1)⟩,
                                                      tri_vVW (fun β => iV (elU ds a)) (fun β => by kernel_rfl) (fun β => (Instr.loadAt 3 (.pointer (some ⟨d, a, none⟩)) >>= fun v => pure (Next.value v))) (by kernel_rfl) (fun β extra => by kernel_rfl) (fun β => by kernel_rfl) (fun β w1 k1 h1 => load_own (e := 3) (fr := (0, 0)) (c := (ds).flatMap inR ++ sq) h1 (List.mem_of_getElem? (i := 0) (by kernel_rfl)) (flat_loadF (c := inR) (n := 1) inR_len (by kernel_rfl) (i := a) (k := 0) (by first | omega | (simp; omega)) (inR_at (by first | omega | (simp; omega))) (by omega)))⟩,
                                                      tri_quietW (fun β => []) [] [] (fun β => []) (by kernel_rfl) (fun β extra => by kernel_rfl) (by kernel_rfl) (fun β => trivial)⟩,
                                                      tri_quietW (fun β => []) [] [] (fun β => []) (by kernel_rfl) (fun β extra => by kernel_rfl) (by kernel_rfl) (fun β => trivial)⟩,
                                                      tri_vVW (fun β => .pointer (some ⟨d, b, none⟩)) (fun β => by kernel_rfl) (fun β => (Instr.indexAt 45 (sV d p.bs.length c2) (iV (b : Int)) >>= fun v => pure (Next.value v))) (by kernel_rfl) (fun β extra => by kernel_rfl) (fun β => by kernel_rfl) (fun β w1 k1 h1 => idx_off (e := 3) (n := 1) (by kernel_rfl) (by kernel_rfl) d 0 p.bs.length c2 .i64 b (by omega) b (by omega) w1)⟩,
                                                      tri_vVW (fun β => iV (elU ds b)) (fun β => by kernel_rfl) (fun β => (Instr.loadAt 3 (.pointer (some ⟨d, b, none⟩)) >>= fun v => pure (Next.value v))) (by kernel_rfl) (fun β extra => by kernel_rfl) (fun β => by kernel_rfl) (fun β w1 k1 h1 => load_own (e := 3) (fr := (0, 0)) (c := (ds).flatMap inR ++ sq) h1 (List.mem_of_getElem? (i := 0) (by kernel_rfl)) (flat_loadF (c := inR) (n := 1) inR_len (by kernel_rfl) (i := b) (k := 0) (by first | omega | (simp; omega)) (inR_at (by first | omega | (simp; omega))) (by omega)))⟩,
                                                      tri_quietW (fun β => [(183, iV ((elU ds a) - (elU ds b)))]) [] [] (fun β => [(iV (IntKind.i64.wrap ((elU ds a) - (elU ds b))), iV ((elU ds a) - (elU ds b)))]) (by kernel_rfl) (fun β extra => by kernel_rfl) (by kernel_rfl) (fun β => ⟨(wr (by omega) (by omega)), trivial⟩)⟩,
                                                      tri_quietW (fun β => []) [0] [0] (fun β => [(pA b9, pA b9)]) (by kernel_rfl) (fun β extra => by kernel_rfl) (by kernel_rfl) (fun β => ⟨rfl, trivial⟩)⟩,
                                                      tri_callVW (fun β => .bool true) (fun β => by kernel_rfl) 24 (fun β => #[iV ((elU ds a) - (elU ds b)), .agg #[iV (p.n.differA a b).1, iV (p.n.differA a b).2]]) (by kernel_rfl) (fun β extra => by kernel_rfl) (fun β => by kernel_rfl) (fun β w1 k1 h1 => (by have h := inside_any ((elU ds a) - (elU ds b)) (p.n.differA a b).1 (p.n.differA a b).2 w1; rw [hd11] at h; exact h))⟩,
                                                      tri_quietW (fun β => [(186, .bool false)]) [] [] (fun β => [(.bool false, .bool false)]) (by kernel_rfl) (fun β extra => by kernel_rfl) (by kernel_rfl) (fun β => ⟨rfl, trivial⟩)⟩,
                                                      tri_quietW (fun β => []) [] [] (fun β => []) (by kernel_rfl) (fun β extra => by kernel_rfl) (by kernel_rfl) (fun β => trivial)⟩
                                                      (fun β => ⟨[(2, .bool false), (4, pA b3), (5, sV d p.bs.length c2), (13, iV (p.n.longA.1 : Int)), (14, iV (p.n.longA.2 : Int)), (105, iV (p.bs.length : Int)), (106, iV (a : Int)), (19, iV (a : Int)), (20, .bool false), (149, iV (p.bs.length : Int)), (150, iV (b : Int)), (187, .bool false)], [(b3, aO #[.slice p.ba p.bs.length p.bc, iV p.zlo, iV p.zhi, iV p.rlo, iV p.rhi, .slice p.ra p.rs.length p.rc] 30), (e, .cells (cs).toArray et (0, 0)), (g, cO ((p.bs).flatMap spR ++ sp) 23), (d, cO ((ds).flatMap inR ++ sq) 3)]⟩) (fun β => by kernel_rfl) (fun β10 => ?_)
                          refine run_auto [(188, iV ((b + 1 : Nat) : Int))] 7 [false] [] [2, 4, 5, 13, 14, 105, 106, 19, 20, 149, 150] [0, 1, 2, 3] (st' := ⟨[(2, .bool false), (4, pA b3), (5, sV d p.bs.length c2), (13, iV (p.n.longA.1 : Int)), (14, iV (p.n.longA.2 : Int)), (105, iV (p.bs.length : Int)), (106, iV (a : Int)), (19, iV (a : Int)), (20, .bool false), (149, iV (p.bs.length : Int)), (150, iV ((b + 1 : Nat) : Int))], [(b3, aO #[.slice p.ba p.bs.length p.bc, iV p.zlo, iV p.zhi, iV p.rlo, iV p.rhi, .slice p.ra p.rs.length p.rc] 30), (e, .cells (cs).toArray et (0, 0)), (g, cO ((p.bs).flatMap spR ++ sp) 23), (d, cO ((ds).flatMap inR ++ sq) 3)]⟩) (acc := [(iV (IntKind.i64.wrap ((b : Int) + 1)), iV ((b + 1 : Nat) : Int)), (.bool false, .bool false)]) (by kernel_rfl) (by kernel_rfl) ⟨(wr (by omega) (by omega)), rfl, trivial⟩ ?_
                          have hj := hJ1 (b + 1) (by omega) (by omega)
                          rw [lonB_next, hd9, hd10] at hj
                          exact run_round (by kernel_rfl) hj
                      | true =>
                        have hp10 := of_decide_eq_true hd10
                        refine drawW 13 [{ val := fun _ => .bool true, slots := [20] },
                                                  { val := fun _ => .bool true, slots := [153] },
                                                  { val := fun _ => sV d p.bs.length c2, slots := [5, 154] },
                                                  { val := fun _ => iV (b : Int), slots := [23, 154] },
                                                  { val := fun _ => .pointer (some ⟨d, b, none⟩), slots := [154, 155, 156] },
                                                  { val := fun _ => iV (elU ds b), slots := [154, 157], reads := [3] },
                                                  { val := fun _ => sV d p.bs.length c2, slots := [5, 154] },
                                                  { val := fun _ => iV (a : Int), slots := [19, 154] },
                                                  { val := fun _ => .pointer (some ⟨d, a, none⟩), slots := [154, 159, 160] },
                                                  { val := fun _ => iV (elU ds a), slots := [154, 161], reads := [3] },
                                                  { val := fun _ => .bool true, slots := [154, 158, 162] },
                                                  { val := fun _ => .bool true, slots := [154, 163] },
                                                  { val := fun _ => .bool true, slots := [164] }] [[], [0], [0, 1], [0, 1], [0, 1, 2, 3], [0, 1, 2, 3, 4], [0, 1], [0, 1], [0, 1, 6, 7], [0, 1, 6, 7, 8], [0, 1, 2, 3, 4, 5, 6, 7, 8, 9], [0, 1, 2, 3, 4, 5, 6, 7, 8, 9, 10], [0, 1, 2, 3, 4, 5, 6, 7, 8, 9, 10, 11]] (by kernel_rfl) (by kernel_rfl) (by kernel_rfl) (by kernel_rfl) [2, 4, 5, 13, 14, 105, 106, 19, 20, 149, 150, 23] [0, 1, 2, 3] (by kernel_rfl)
                                                  ⟨⟨⟨⟨⟨⟨⟨⟨⟨⟨⟨⟨⟨trivial,
                                                  tri_quietW (fun β => []) [] [] (fun β => []) (by kernel_rfl) (fun β extra => by kernel_rfl) (by kernel_rfl) (fun β => trivial)⟩,
                                                  tri_quietW (fun β => []) [] [] (fun β => []) (by kernel_rfl) (fun β extra => by kernel_rfl) (by kernel_rfl) (fun β => trivial)⟩,
                                                  tri_quietW (fun β => []) [] [] (fun β => []) (by kernel_rfl) (fun β extra => by kernel_rfl) (by kernel_rfl) (fun β => trivial)⟩,
                                                  tri_quietW (fun β => []) [] [] (fun β => []) (by kernel_rfl) (fun β extra => by kernel_rfl) (by kernel_rfl) (fun β => trivial)⟩,
                                                  tri_vVW (fun β => .pointer (some ⟨d, b, none⟩)) (fun β => by kernel_rfl) (fun β => (Instr.indexAt 45 (sV d p.bs.length c2) (iV (b : Int)) >>= fun v => pure (Next.value v))) (by kernel_rfl) (fun β extra => by kernel_rfl) (fun β => by kernel_rfl) (fun β w1 k1 h1 => idx_off (e := 3) (n := 1) (by kernel_rfl) (by kernel_rfl) d 0 p.bs.length c2 .i64 b (by omega) b (by omega) w1)⟩,
                                                  tri_vVW (fun β => iV (elU ds b)) (fun β => by kernel_rfl) (fun β => (Instr.loadAt 3 (.pointer (some ⟨d, b, none⟩)) >>= fun v => pure (Next.value v))) (by kernel_rfl) (fun β extra => by kernel_rfl) (fun β => by kernel_rfl) (fun β w1 k1 h1 => load_own (e := 3) (fr := (0, 0)) (c := (ds).flatMap inR ++ sq) h1 (List.mem_of_getElem? (i := 0) (by kernel_rfl)) (flat_loadF (c := inR) (n := 1) inR_len (by kernel_rfl) (i := b) (k := 0) (by first | omega | (simp; omega)) (inR_at (by first | omega | (simp; omega))) (by omega)))⟩,
                                                  tri_quietW (fun β => []) [] [] (fun β => []) (by kernel_rfl) (fun β extra => by kernel_rfl) (by kernel_rfl) (fun β => trivial)⟩,
                                                  tri_quietW (fun β => []) [] [] (fun β => []) (by kernel_rfl) (fun β extra => by kernel_rfl) (by kernel_rfl) (fun β => trivial)⟩,
                                                  tri_vVW (fun β => .pointer (some ⟨d, a, none⟩)) (fun β => by kernel_rfl) (fun β => (Instr.indexAt 45 (sV d p.bs.length c2) (iV (a : Int)) >>= fun v => pure (Next.value v))) (by kernel_rfl) (fun β extra => by kernel_rfl) (fun β => by kernel_rfl) (fun β w1 k1 h1 => idx_off (e := 3) (n := 1) (by kernel_rfl) (by kernel_rfl) d 0 p.bs.length c2 .i64 a (by omega) a (by omega) w1)⟩,
                                                  tri_vVW (fun β => iV (elU ds a)) (fun β => by kernel_rfl) (fun β => (Instr.loadAt 3 (.pointer (some ⟨d, a, none⟩)) >>= fun v => pure (Next.value v))) (by kernel_rfl) (fun β extra => by kernel_rfl) (fun β => by kernel_rfl) (fun β w1 k1 h1 => load_own (e := 3) (fr := (0, 0)) (c := (ds).flatMap inR ++ sq) h1 (List.mem_of_getElem? (i := 0) (by kernel_rfl)) (flat_loadF (c := inR) (n := 1) inR_len (by kernel_rfl) (i := a) (k := 0) (by first | omega | (simp; omega)) (inR_at (by first | omega | (simp; omega))) (by omega)))⟩,
                                                  tri_quietW (fun β => [(163, .bool true)]) [] [] (fun β => [(.bool (decide ((elU ds b) ≤ (elU ds a))), .bool true)]) (by kernel_rfl) (fun β extra => by kernel_rfl) (by kernel_rfl) (fun β => ⟨(bo hd10), trivial⟩)⟩,
                                                  tri_quietW (fun β => []) [] [] (fun β => []) (by kernel_rfl) (fun β extra => by kernel_rfl) (by kernel_rfl) (fun β => trivial)⟩,
                                                  tri_quietW (fun β => []) [] [] (fun β => []) (by kernel_rfl) (fun β extra => by kernel_rfl) (by kernel_rfl) (fun β => trivial)⟩
                                                  (fun β => ⟨[(2, .bool false), (4, pA b3), (5, sV d p.bs.length c2), (13, iV (p.n.longA.1 : Int)), (14, iV (p.n.longA.2 : Int)), (105, iV (p.bs.length : Int)), (106, iV (a : Int)), (19, iV (a : Int)), (20, .bool true), (149, iV (p.bs.length : Int)), (150, iV (b : Int)), (23, iV (b : Int))], [(b3, aO #[.slice p.ba p.bs.length p.bc, iV p.zlo, iV p.zhi, iV p.rlo, iV p.rhi, .slice p.ra p.rs.length p.rc] 30), (e, .cells (cs).toArray et (0, 0)), (g, cO ((p.bs).flatMap spR ++ sp) 23), (d, cO ((ds).flatMap inR ++ sq) 3)]⟩) (fun β => by kernel_rfl) (fun β8 => ?_)
                        refine run_auto [] 5 [] [0] [2, 4, 5, 13, 14, 105, 106, 19, 20, 149, 150, 23, 166, 167, 168] [0, 1, 2, 3] (st' := ⟨[(2, .bool false), (4, pA b3), (5, sV d p.bs.length c2), (13, iV (p.n.longA.1 : Int)), (14, iV (p.n.longA.2 : Int)), (105, iV (p.bs.length : Int)), (106, iV (a : Int)), (19, iV (a : Int)), (20, .bool true), (149, iV (p.bs.length : Int)), (150, iV (b : Int)), (23, iV (b : Int)), (166, .agg #[.slice p.ba p.bs.length p.bc, iV p.zlo, iV p.zhi, iV p.rlo, iV p.rhi, .slice p.ra p.rs.length p.rc]), (167, iV (a : Int)), (168, iV (b : Int))], [(b3, aO #[.slice p.ba p.bs.length p.bc, iV p.zlo, iV p.zhi, iV p.rlo, iV p.rhi, .slice p.ra p.rs.length p.rc] 30), (e, .cells (cs).toArray et (0, 0)), (g, cO ((p.bs).flatMap spR ++ sp) 23), (d, cO ((ds).flatMap inR ++ sq) 3)]⟩) (acc := [(pA b3, pA b3)]) (by kernel_rfl) (by kernel_rfl) ⟨rfl, trivial⟩ ?_
                        refine run_ret1 13 #[.agg #[.slice p.ba p.bs.length p.bc, iV p.zlo, iV p.zhi, iV p.rlo, iV p.rhi, .slice p.ra p.rs.length p.rc], iV (a : Int), iV (b : Int)] (some 169) (.tuple #[.agg #[iV (p.n.differA a b).1, iV (p.n.differA a b).2], iV 0]) (by kernel_rfl) (fun w1 k1 h1 => (by have h := Differ_any p (a : Int) (b : Int) w1 (own_in (h1 (g, cO ((p.bs).flatMap spR ++ sp) 23) (List.mem_of_getElem? (i := 2) (by kernel_rfl))) hba hF (h1 (e, .cells (cs).toArray et (0, 0)) (List.mem_of_getElem? (i := 1) (by kernel_rfl))) hrd); rw [show differR p (a : Int) (b : Int) = .inr (p.n.differA a b) from (by unfold differR; rw [hok, blk_yes ha, blk_yes hb, hn0]; rfl)] at h; exact h)) ?_
                        refine run_auto [] 3 [] [] [2, 4, 5, 13, 14, 105, 106, 19, 20, 149, 150, 23, 170, 171] [0, 1, 2, 3] (st' := ⟨[(2, .bool false), (4, pA b3), (5, sV d p.bs.length c2), (13, iV (p.n.longA.1 : Int)), (14, iV (p.n.longA.2 : Int)), (105, iV (p.bs.length : Int)), (106, iV (a : Int)), (19, iV (a : Int)), (20, .bool true), (149, iV (p.bs.length : Int)), (150, iV (b : Int)), (23, iV (b : Int)), (170, .agg #[iV (p.n.differA a b).1, iV (p.n.differA a b).2]), (171, iV 0)], [(b3, aO #[.slice p.ba p.bs.length p.bc, iV p.zlo, iV p.zhi, iV p.rlo, iV p.rhi, .slice p.ra p.rs.length p.rc] 30), (e, .cells (cs).toArray et (0, 0)), (g, cO ((p.bs).flatMap spR ++ sp) 23), (d, cO ((ds).flatMap inR ++ sq) 3)]⟩) (acc := []) (by kernel_rfl) (by kernel_rfl) trivial ?_
                        refine run_new (aO #[iV 0, iV 0] 23) (fun b9 => pA b9) (some 24) (fun _ => by kernel_rfl) (fun b9 hb9 => ?_)
                        refine run_auto [] 4 [] [0] [2, 4, 5, 13, 14, 105, 106, 19, 20, 149, 150, 23, 24, 25] [0, 1, 2, 3, 4] (st' := ⟨[(2, .bool false), (4, pA b3), (5, sV d p.bs.length c2), (13, iV (p.n.longA.1 : Int)), (14, iV (p.n.longA.2 : Int)), (105, iV (p.bs.length : Int)), (106, iV (a : Int)), (19, iV (a : Int)), (20, .bool true), (149, iV (p.bs.length : Int)), (150, iV (b : Int)), (23, iV (b : Int)), (24, pA b9), (25, iV 0)], [(b9, aO #[iV (p.n.differA a b).1, iV (p.n.differA a b).2] 23), (b3, aO #[.slice p.ba p.bs.length p.bc, iV p.zlo, iV p.zhi, iV p.rlo, iV p.rhi, .slice p.ra p.rs.length p.rc] 30), (e, .cells (cs).toArray et (0, 0)), (g, cO ((p.bs).flatMap spR ++ sp) 23), (d, cO ((ds).flatMap inR ++ sq) 3)]⟩) (acc := [(pA b9, pA b9)]) (by kernel_rfl) (by kernel_rfl) ⟨rfl, trivial⟩ ?_
                        cases hd11 : (insB ((elU ds a) - (elU ds b)) (p.n.differA a b).1 (p.n.differA a b).2) with
                        | false =>
                          exact absurd hd11 (by unfold insB; simp; omega)
                        | true =>
                          refine drawW 16 [{ val := fun _ => iV 0, slots := [25] },
                                                      { val := fun _ => .bool false, slots := [172] },
                                                      { val := fun _ => .bool false, slots := [173] },
                                                      { val := fun _ => sV d p.bs.length c2, slots := [5, 174] },
                                                      { val := fun _ => iV (a : Int), slots := [19, 174] },
                                                      { val := fun _ => .pointer (some ⟨d, a, none⟩), slots := [174, 175, 176] },
                                                      { val := fun _ => iV (elU ds a), slots := [174, 177], reads := [4] },
                                                      { val := fun _ => sV d p.bs.length c2, slots := [5, 174] },
                                                      { val := fun _ => iV (b : Int), slots := [23, 174] },
                                                      { val := fun _ => .pointer (some ⟨d, b, none⟩), slots := [174, 179, 180] },
                                                      { val := fun _ => iV (elU ds b), slots := [174, 181], reads := [4] },
                                                      { val := fun _ => iV ((elU ds a) - (elU ds b)), slots := [174, 178, 182] },
                                                      { val := fun _ => .agg #[iV (p.n.differA a b).1, iV (p.n.differA a b).2], slots := [24, 174], reads := [0] },
                                                      { val := fun _ => .bool true, slots := [174, 183, 184] },
                                                      { val := fun _ => .bool false, slots := [174, 185] },
                                                      { val := fun _ => .bool false, slots := [174, 186] }] [[], [0], [0, 1], [0, 1, 2], [0, 1, 2], [0, 1, 2, 3, 4], [0, 1, 2, 3, 4, 5], [0, 1, 2], [0, 1, 2], [0, 1, 2, 7, 8], [0, 1, 2, 7, 8, 9], [0, 1, 2, 3, 4, 5, 6, 7, 8, 9, 10], [0, 1, 2], [0, 1, 2, 3, 4, 5, 6, 7, 8, 9, 10, 11, 12], [0, 1, 2, 3, 4, 5, 6, 7, 8, 9, 10, 11, 12, 13], [0, 1, 2, 3, 4, 5, 6, 7, 8, 9, 10, 11, 12, 13, 14]] (by kernel_rfl) (by kernel_rfl) (by kernel_rfl) (by kernel_rfl) [2, 4, 5, 13, 14, 105, 106, 19, 20, 149, 150, 187] [1, 2, 3, 4] (by kernel_rfl)
                                                      ⟨⟨⟨⟨⟨⟨⟨⟨⟨⟨⟨⟨⟨⟨⟨⟨trivial,
                                                      tri_quietW (fun β => []) [] [] (fun β => []) (by kernel_rfl) (fun β extra => by kernel_rfl) (by kernel_rfl) (fun β => trivial)⟩,
                                                      tri_quietW (fun β => [(173, .bool false)]) [] [] (fun β => [(.bool false, .bool false)]) (by kernel_rfl) (fun β extra => by kernel_rfl) (by kernel_rfl) (fun β => ⟨rfl, trivial⟩)⟩,
                                                      tri_quietW (fun β => []) [] [] (fun β => []) (by kernel_rfl) (fun β extra => by kernel_rfl) (by kernel_rfl) (fun β => trivial)⟩,
                                                      tri_quietW (fun β => []) [] [] (fun β => []) (by kernel_rfl) (fun β extra => by kernel_rfl) (by kernel_rfl) (fun β => trivial)⟩,
                                                      tri_quietW (fun β => []) [] [] (fun β => []) (by kernel_rfl) (fun β extra => by kernel_rfl) (by kernel_rfl) (fun β => trivial)⟩,
                                                      tri_vVW (fun β => .pointer (some ⟨d, a, none⟩)) (fun β => by kernel_rfl) (fun β => (Instr.indexAt 45 (sV d p.bs.length c2) (iV (a : Int)) >>= fun v => pure (Next.value v))) (by kernel_rfl) (fun β extra => by kernel_rfl) (fun β => by kernel_rfl) (fun β w1 k1 h1 => idx_off (e := 3) (n := 1) (by kernel_rfl) (by kernel_rfl) d 0 p.bs.length c2 .i64 a (by omega) a (by omega) w1)⟩,
                                                      tri_vVW (fun β => iV (elU ds a)) (fun β => by kernel_rfl) (fun β => (Instr.loadAt 3 (.pointer (some ⟨d, a, none⟩)) >>= fun v => pure (Next.value v))) (by kernel_rfl) (fun β extra => by kernel_rfl) (fun β => by kernel_rfl) (fun β w1 k1 h1 => load_own (e := 3) (fr := (0, 0)) (c := (ds).flatMap inR ++ sq) h1 (List.mem_of_getElem? (i := 0) (by kernel_rfl)) (flat_loadF (c := inR) (n := 1) inR_len (by kernel_rfl) (i := a) (k := 0) (by first | omega | (simp; omega)) (inR_at (by first | omega | (simp; omega))) (by omega)))⟩,
                                                      tri_quietW (fun β => []) [] [] (fun β => []) (by kernel_rfl) (fun β extra => by kernel_rfl) (by kernel_rfl) (fun β => trivial)⟩,
                                                      tri_quietW (fun β => []) [] [] (fun β => []) (by kernel_rfl) (fun β extra => by kernel_rfl) (by kernel_rfl) (fun β => trivial)⟩,
                                                      tri_vVW (fun β => .pointer (some ⟨d, b, none⟩)) (fun β => by kernel_rfl) (fun β => (Instr.indexAt 45 (sV d p.bs.length c2) (iV (b : Int)) >>= fun v => pure (Next.value v))) (by kernel_rfl) (fun β extra => by kernel_rfl) (fun β => by kernel_rfl) (fun β w1 k1 h1 => idx_off (e := 3) (n := 1) (by kernel_rfl) (by kernel_rfl) d 0 p.bs.length c2 .i64 b (by omega) b (by omega) w1)⟩,
                                                      tri_vVW (fun β => iV (elU ds b)) (fun β => by kernel_rfl) (fun β => (Instr.loadAt 3 (.pointer (some ⟨d, b, none⟩)) >>= fun v => pure (Next.value v))) (by kernel_rfl) (fun β extra => by kernel_rfl) (fun β => by kernel_rfl) (fun β w1 k1 h1 => load_own (e := 3) (fr := (0, 0)) (c := (ds).flatMap inR ++ sq) h1 (List.mem_of_getElem? (i := 0) (by kernel_rfl)) (flat_loadF (c := inR) (n := 1) inR_len (by kernel_rfl) (i := b) (k := 0) (by first | omega | (simp; omega)) (inR_at (by first | omega | (simp; omega))) (by omega)))⟩,
                                                      tri_quietW (fun β => [(183, iV ((elU ds a) - (elU ds b)))]) [] [] (fun β => [(iV (IntKind.i64.wrap ((elU ds a) - (elU ds b))), iV ((elU ds a) - (elU ds b)))]) (by kernel_rfl) (fun β extra => by kernel_rfl) (by kernel_rfl) (fun β => ⟨(wr (by omega) (by omega)), trivial⟩)⟩,
                                                      tri_quietW (fun β => []) [0] [0] (fun β => [(pA b9, pA b9)]) (by kernel_rfl) (fun β extra => by kernel_rfl) (by kernel_rfl) (fun β => ⟨rfl, trivial⟩)⟩,
                                                      tri_callVW (fun β => .bool true) (fun β => by kernel_rfl) 24 (fun β => #[iV ((elU ds a) - (elU ds b)), .agg #[iV (p.n.differA a b).1, iV (p.n.differA a b).2]]) (by kernel_rfl) (fun β extra => by kernel_rfl) (fun β => by kernel_rfl) (fun β w1 k1 h1 => (by have h := inside_any ((elU ds a) - (elU ds b)) (p.n.differA a b).1 (p.n.differA a b).2 w1; rw [hd11] at h; exact h))⟩,
                                                      tri_quietW (fun β => [(186, .bool false)]) [] [] (fun β => [(.bool false, .bool false)]) (by kernel_rfl) (fun β extra => by kernel_rfl) (by kernel_rfl) (fun β => ⟨rfl, trivial⟩)⟩,
                                                      tri_quietW (fun β => []) [] [] (fun β => []) (by kernel_rfl) (fun β extra => by kernel_rfl) (by kernel_rfl) (fun β => trivial)⟩
                                                      (fun β => ⟨[(2, .bool false), (4, pA b3), (5, sV d p.bs.length c2), (13, iV (p.n.longA.1 : Int)), (14, iV (p.n.longA.2 : Int)), (105, iV (p.bs.length : Int)), (106, iV (a : Int)), (19, iV (a : Int)), (20, .bool true), (149, iV (p.bs.length : Int)), (150, iV (b : Int)), (187, .bool false)], [(b3, aO #[.slice p.ba p.bs.length p.bc, iV p.zlo, iV p.zhi, iV p.rlo, iV p.rhi, .slice p.ra p.rs.length p.rc] 30), (e, .cells (cs).toArray et (0, 0)), (g, cO ((p.bs).flatMap spR ++ sp) 23), (d, cO ((ds).flatMap inR ++ sq) 3)]⟩) (fun β => by kernel_rfl) (fun β10 => ?_)
                          refine run_auto [(188, iV ((b + 1 : Nat) : Int))] 7 [false] [] [2, 4, 5, 13, 14, 105, 106, 19, 20, 149, 150] [0, 1, 2, 3] (st' := ⟨[(2, .bool false), (4, pA b3), (5, sV d p.bs.length c2), (13, iV (p.n.longA.1 : Int)), (14, iV (p.n.longA.2 : Int)), (105, iV (p.bs.length : Int)), (106, iV (a : Int)), (19, iV (a : Int)), (20, .bool true), (149, iV (p.bs.length : Int)), (150, iV ((b + 1 : Nat) : Int))], [(b3, aO #[.slice p.ba p.bs.length p.bc, iV p.zlo, iV p.zhi, iV p.rlo, iV p.rhi, .slice p.ra p.rs.length p.rc] 30), (e, .cells (cs).toArray et (0, 0)), (g, cO ((p.bs).flatMap spR ++ sp) 23), (d, cO ((ds).flatMap inR ++ sq) 3)]⟩) (acc := [(iV (IntKind.i64.wrap ((b : Int) + 1)), iV ((b + 1 : Nat) : Int)), (.bool false, .bool false)]) (by kernel_rfl) (by kernel_rfl) ⟨(wr (by omega) (by omega)), rfl, trivial⟩ ?_
                          have hj := hJ1 (b + 1) (by omega) (by omega)
                          rw [lonB_next, hd9, hd10] at hj
                          exact run_round (by kernel_rfl) hj
                | true =>
                  have hp7 := of_decide_eq_true hd7
                  exfalso
                  omega
              | true =>
                have hp6 := of_decide_eq_true hd6
                exfalso
                omega
      | true =>
        have hp2 : ¬ ((p.n.longA.2 >>> p.bs.length : Nat) : Int) = 0 := by simpa using hd2
        rw [hsh] at hd2
        simp at hd2
    | true =>
      have hp1 : ¬ ((p.n.longA.1 ^^^ (p.n.longA.1 &&& p.n.longA.2) : Nat) : Int) = 0 := by simpa using hd1
      rw [hsub] at hd1
      simp at hd1

end Go.Proofs.Ythnhcacoegmdfaa
