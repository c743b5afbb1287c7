/-
  REF: Until, Day.
  REF: Size, Clash.
-/
import Derived.Test.YtdjnkdelmmpleaaGreatGl
import Derived.Test.YtdjnkdelmmpleaaGreatGh
namespace Go.Proofs.YtdjnkdelmmpleaaGreat
open Go.RowKit Go.Proofs.Tryz


theorem bits_half : ∀ s : Nat, s < 256 → bitsN s = s % 2 + bitsN (s / 2) ∧ bitsN s ≤ 8 := by decide +kernel
set_option maxRecDepth 100000 in
theorem rsize_any (s : Nat) (hs : s < 256) (w : World)  : Calls Tryz.prog 37 #[.int .i64 (s : Int)] w (RetI (bitsN s : Nat) w) := by
  refine calls_run (fn := f37) (c := (f37.body).getD .skip) [.int .i64 (s : Int)] func37 (by kernel_rfl) (fun _ => False) [] (fun _ h => by cases h) (List.Pairwise.nil) 13 (by kernel_rfl) (by simp) ?_
  refine run_auto [] 10 [] [] [0, 2, 3] [] (st' := ⟨[(0, iV (s : Int)), (2, iV 0), (3, iV 0)], []⟩) (acc := []) (by kernel_rfl) (by kernel_rfl) trivial ?_
  refine run_auto [] 0 [] [] [0, 2, 3] [] (st' := ⟨[(0, iV (s : Int)), (2, iV 0), (3, iV 0)], []⟩) (acc := []) (by kernel_rfl) (by kernel_rfl) trivial ?_
  refine run_loop (S := fun (v : Nat × Nat) => ⟨[(0, iV (v.1 : Int)), (2, iV 0), (3, iV (v.2 : Int))], []⟩) (fun v => v.1 < 256 ∧ v.2 + bitsN v.1 = bitsN s) (fun v => v.1) ((s, 0)) (by kernel_rfl) (⟨hs, Nat.zero_add _⟩) (by kernel_rfl) (fun v hI0 J0 hJ0 => ?_)
  obtain ⟨cur, cnt⟩ := v
  obtain ⟨hI1, hI2⟩ := hI0
  dsimp only at hI1 hI2 hJ0
  have hbh := bits_half cur hI1
  have hb8 := bits_half s hs
  cases hd1 : (decide (0 < (cur : Int))) with
  | false =>
    have hp1 := of_decide_eq_false hd1
    refine run_auto [(5, .bool false)] 13 [false] [] [2] [] (st' := ⟨[(2, iV (cnt : Int))], []⟩) (acc := [(.bool false, .bool false), (.bool (decide (0 < (cur : Int))), .bool false)]) (by kernel_rfl) (by kernel_rfl) ⟨rfl, (bo hd1), trivial⟩ ?_
    refine run_end (fn := f37) rfl (Nat.le_refl _) (by kernel_rfl) [] [iV (cnt : Int)] (e := []) (by kernel_rfl) trivial (fun w1 k1 h1 => ?_)
    obtain rfl : cur = 0 := by omega
    have h0 : bitsN 0 = 0 := by decide +kernel
    rw [h0] at hI2
    exact ⟨by rw [← hI2]; rfl, k1.keeps (fun _ h => h)⟩
  | true =>
    have hp1 := of_decide_eq_true hd1
    refine run_auto [(5, .bool true), (8, iV ((cur : Int) % 2)), (9, iV ((cnt : Int) + ((cur : Int) % 2))), (11, iV ((cur : Int) / 2))] 20 [true] [] [0, 2, 3] [] (st' := ⟨[(0, iV ((cur : Int) / 2)), (2, iV 0), (3, iV ((cnt : Int) + ((cur : Int) % 2)))], []⟩) (acc := [(iV (IntKind.i64.wrap (Int.tdiv (cur : Int) 2)), iV ((cur : Int) / 2)), (iV (IntKind.i64.wrap ((cnt : Int) + ((cur : Int) % 2))), iV ((cnt : Int) + ((cur : Int) % 2))), (iV (Int.tmod (cur : Int) 2), iV ((cur : Int) % 2)), (.bool true, .bool true), (.bool (decide (0 < (cur : Int))), .bool true)]) (by kernel_rfl) (by kernel_rfl) ⟨(qt 2 (by omega) (by omega) (by omega)), (wr (by omega) (by omega)), (rm 2 (by omega)), rfl, (bo hd1), trivial⟩ ?_
    rw [show ((cnt : Int) + (cur : Int) % 2) = ((cnt + cur % 2 : Nat) : Int) by omega, show ((cur : Int) / 2) = ((cur / 2 : Nat) : Int) by omega]
    exact run_round (by kernel_rfl) (hJ0 ((cur / 2, cnt + cur % 2)) (⟨by dsimp only; omega, by dsimp only; omega⟩) (by dsimp only; omega))


theorem ff_sorted (of : Nat) : (ffL of).Pairwise Before := by
  unfold ffL ffP
  rw [List.range_zero, List.filter_nil, List.append_nil, List.pairwise_flatMap]
  refine ⟨fun size _ => ?_, ?_⟩
  · refine List.Pairwise.imp_of_mem ?_ (List.Pairwise.filter _ List.pairwise_lt_range)
    intro a b ha hb hab
    have h1 := (List.mem_filter.1 ha).2
    have h2 := (List.mem_filter.1 hb).2
    unfold ffB at h1 h2
    simp only [Bool.and_eq_true, beq_iff_eq] at h1 h2
    exact .inr ⟨h1.2.trans h2.2.symm, hab⟩
  · refine List.Pairwise.imp ?_ List.pairwise_lt_range
    intro a b hab x hx y hy
    have h1 := (List.mem_filter.1 hx).2
    have h2 := (List.mem_filter.1 hy).2
    unfold ffB at h1 h2
    simp only [Bool.and_eq_true, beq_iff_eq] at h1 h2
    exact .inl (by omega)
theorem sub_le {s t : Nat} (h : subB s t = true) : s ≤ t ∧ bitsN s ≤ bitsN t := by
  have h : s &&& t = s := by unfold subB at h; simpa using h
  refine ⟨by have := Nat.and_le_right (n := s) (m := t); omega, ?_⟩
  unfold bitsN
  refine List.countP_mono_left fun i _ hi => ?_
  rw [← h, Nat.testBit_and, Bool.and_eq_true] at hi
  exact hi.2
end Go.Proofs.YtdjnkdelmmpleaaGreat
