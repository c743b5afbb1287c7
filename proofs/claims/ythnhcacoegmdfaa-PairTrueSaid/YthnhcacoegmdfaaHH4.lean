/-
  LAW: PairTrue: draws; a pair that is made.
-/
import Derived.Test.YthnhcacoegmdfaaHH2
import Derived.Test.YthnhcacoegmdfaaHH3
import Derived.Test.YthnhcacoegmdfaaHXQ
namespace Go.Proofs.Ythnhcacoegmdfaa
open Go.RowKit Go.Proofs.Try


/-- The deviations and the blocks that are made, where i have been drawn ahead of them. -/
def dvF (L : List Int) (i j : Nat) : Int := dw L (i + 4 * j) 41 - 20
def wdF (L : List Int) (i j : Nat) : Int := 1 + dw L (i + 4 * j + 1) 20
def blF (L : List Int) (i j : Nat) : Int × Int := (max (-20) (dvF L i j - dw L (i + 4 * j + 2) (wdF L i j)), min 20 (dvF L i j + dw L (i + 4 * j + 3) (wdF L i j)))
def dsL (L : List Int) (i j : Nat) : List Int := (List.range j).map (dvF L i)
def bsL (L : List Int) (i j : Nat) : List (Int × Int) := (List.range j).map (blF L i)
theorem inR_at {L : List Int} {i : Nat} (h : i < L.length) : (inR L[i])[0]? = some (.int .i64 (elU L i)) := by unfold elU; rw [List.getElem?_eq_getElem h]; rfl
theorem elU_map {g : Nat → Int} {n k : Nat} (h : k < n) : elU ((List.range n).map g) k = g k := by
  unfold elU
  rw [List.getElem?_map, List.getElem?_range h]
  rfl
theorem dsL_bd (L : List Int) (i : Nat) {j q : Nat} (h : q < j) : -20 ≤ elU (dsL L i j) q ∧ elU (dsL L i j) q ≤ 20 := by
  unfold dsL
  rw [elU_map h]
  unfold dvF
  have := dw_bd L (i + 4 * q) (n := 41) (by omega)
  omega
theorem dsL_next (L : List Int) (i j : Nat) : dsL L i (j + 1) = dsL L i j ++ [dvF L i j] := by unfold dsL; rw [List.range_succ, List.map_append]; rfl
theorem bsL_next (L : List Int) (i j : Nat) : bsL L i (j + 1) = bsL L i j ++ [blF L i j] := by unfold bsL; rw [List.range_succ, List.map_append]; rfl
@[simp] theorem dsL_len (L : List Int) (i j : Nat) : (dsL L i j).length = j := by unfold dsL; rw [List.length_map, List.length_range]
@[simp] theorem bsL_len (L : List Int) (i j : Nat) : (bsL L i j).length = j := by unfold bsL; rw [List.length_map, List.length_range]

/-- The readings that are made. -/
def mkR (L : List Int) (k : Nat) (n z rt : Int) (ds : List Int) (r : Nat) : Rw :=
  let a := dw L (k + 5 * r) n
  let b := (a + 1 + dw L (k + 5 * r + 1) (n - 1)) % n
  let m := dw L (k + 5 * r + 2) 61
  let d := elU ds a.toNat - elU ds b.toNat + shw (z, rt) m
  (a, b, m, max (-80) (d - dw L (k + 5 * r + 3) 3), min 80 (d + dw L (k + 5 * r + 4) 3))
def rsL (L : List Int) (k : Nat) (n z rt : Int) (ds : List Int) (r : Nat) : List Rw := (List.range r).map (mkR L k n z rt ds)
theorem rsL_next (L : List Int) (k : Nat) (n z rt : Int) (ds : List Int) (r : Nat) : rsL L k n z rt ds (r + 1) = rsL L k n z rt ds r ++ [mkR L k n z rt ds r] := by unfold rsL; rw [List.range_succ, List.map_append]; rfl
@[simp] theorem rsL_len (L : List Int) (k : Nat) (n z rt : Int) (ds : List Int) (r : Nat) : (rsL L k n z rt ds r).length = r := by unfold rsL; rw [List.length_map, List.length_range]
set_option maxRecDepth 100000 in
theorem draws_any (L : List Int) (aa : Option Addr) (cap : Nat) (w : World)  : Calls Try.prog 21 #[.slice aa L.length cap] w (NwL (α := Nat × Nat) (fun x => .func (.func 57) #[] #[.pointer (some ⟨(x.1), 0, none⟩), .pointer (some ⟨(x.2), 0, none⟩)]) (fun x => [((x.1), .cells #[.int .i64 0] 3 (0, 0)), ((x.2), .cells #[.slice aa L.length cap] 42 (0, 0))]) (fun _ => True) w) := by
  refine calls_run (fn := f21) (c := (f21.body).getD .skip) [.slice aa L.length cap] func21 (by kernel_rfl) (fun _ => False) [] (fun _ h => by cases h) (List.Pairwise.nil) 5 (by kernel_rfl) (by simp) ?_
  refine run_auto [] 2 [] [] [0] [] (st' := ⟨[(0, .slice aa L.length cap)], []⟩) (acc := []) (by kernel_rfl) (by kernel_rfl) trivial ?_
  refine run_new (aO #[.slice aa L.length cap] 42) (fun b1 => pA b1) (some 1) (fun _ => by kernel_rfl) (fun b1 hb1 => ?_)
  refine run_auto [] 4 [] [] [1, 2] [0] (st' := ⟨[(1, pA b1), (2, .nilFunc)], [(b1, aO #[.slice aa L.length cap] 42)]⟩) (acc := []) (by kernel_rfl) (by kernel_rfl) trivial ?_
  refine run_new (aO #[iV 0] 3) (fun b2 => pA b2) (some 3) (fun _ => by kernel_rfl) (fun b2 hb2 => ?_)
  refine run_auto [] 7 [] [0] [2] [0, 1] (st' := ⟨[(2, .func (.func 57) #[] #[pA b2, pA b1])], [(b2, aO #[iV 0] 3), (b1, aO #[.slice aa L.length cap] 42)]⟩) (acc := [(pA b2, pA b2)]) (by kernel_rfl) (by kernel_rfl) ⟨rfl, trivial⟩ ?_
  refine run_end (fn := f21) rfl (Nat.le_refl _) (by kernel_rfl) [] [.func (.func 57) #[] #[pA b2, pA b1]] (e := []) (by kernel_rfl) trivial (fun w1 k1 h1 => ?_)
  refine ⟨(b2, b1), trivial, rfl, k1.keeps (fun _ h => h), fun p hp => ?_, List.pairwise_cons.2 ⟨fun p hp => ?_, List.pairwise_singleton _ _⟩⟩
  · simp only [List.mem_cons, List.not_mem_nil, or_false] at hp
    rcases hp with rfl | rfl
    · exact ⟨h1 (b2, _) (List.mem_of_getElem? (i := 0) rfl), hb2⟩
    · exact ⟨h1 (b1, _) (List.mem_of_getElem? (i := 1) rfl), hb1⟩
  · simp only [List.mem_cons, List.not_mem_nil, or_false] at hp
    subst hp
    intro hh
    have q1 := h1 (b2, _) (List.mem_of_getElem? (i := 0) rfl)
    have q2 := h1 (b1, _) (List.mem_of_getElem? (i := 1) rfl)
    dsimp only at hh q1 q2
    rw [hh] at q1
    rw [q1] at q2
    simp at q2

end Go.Proofs.Ythnhcacoegmdfaa
