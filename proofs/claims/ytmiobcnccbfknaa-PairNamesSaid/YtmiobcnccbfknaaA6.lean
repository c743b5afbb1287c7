/-
  PAIR: the readings as bounds.
-/
import Derived.Test.YtmiobcnccbfknaaA5
import Derived.Test.YtmiobcnccbfknaaXG
namespace Go.Proofs.Ytmiobcnccbfknaa
open Go.RowKit Go.Proofs.Try


/-- A reading as it lies in the row of bounds. -/
def rdC (r : Rw) : List Value := [.int .i64 r.1, .int .i64 r.2.1, .int .i64 r.2.2.2.1, .int .i64 r.2.2.2.2, .int .i64 r.2.2.1]
def zC : List Value := [.int .i64 0, .int .i64 0, .int .i64 0, .int .i64 0, .int .i64 0]
/-- The row when k of them have been written. -/
def rdF (rs : List Rw) (k i : Nat) : List Value := if i < k then rdC (elR rs i) else zC
theorem rdF_len (rs : List Rw) (k i : Nat) : (rdF rs k i).length = 5 := by unfold rdF; split <;> rfl
theorem rdF_step (rs : List Rw) (k j : Nat) : rdF rs (k + 1) j = if j = k then rdC (elR rs k) else rdF rs k j := by
  unfold rdF
  by_cases h : j = k
  · subst h
    rw [if_pos (by omega), if_pos rfl]
  · rw [if_neg h]
    by_cases h2 : j < k
    · rw [if_pos h2, if_pos (by omega)]
    · rw [if_neg h2, if_neg (by omega)]
def rdRow (rs : List Rw) : List Value := rowL rs.length (fun i => rdC (elR rs i))
theorem rdRow_is (rs : List Rw) : rowL rs.length (rdF rs rs.length) = rdRow rs := rowL_congr fun _ hi => if_pos hi
set_option maxRecDepth 100000 in
theorem readings_any (p : Pr) (w : World) (hr : Rds w p.ra p.rs) (h8 : p.rs.length ≤ 8) : Calls Try.prog 99 #[.agg #[.slice p.ba p.bs.length p.bc, .int .i64 p.zlo, .int .i64 p.zhi, .int .i64 p.rlo, .int .i64 p.rhi, .slice p.ra p.rs.length p.rc]] w (Nw (α := Unit) (fun _ b => .slice (some ⟨b, 0, none⟩) p.rs.length p.rs.length) (fun _ => .cells (rdRow p.rs).toArray 147 (0, 0)) (fun _ => True) w) := by
  refine calls_run (fn := f99) (c := (f99.body).getD .skip) [.agg #[.slice p.ba p.bs.length p.bc, .int .i64 p.zlo, .int .i64 p.zhi, .int .i64 p.rlo, .int .i64 p.rhi, .slice p.ra p.rs.length p.rc]] func99 (by kernel_rfl) (fun _ => False) [] (fun _ h => by cases h) (List.Pairwise.nil) 34 (by kernel_rfl) (by simp) ?_
  refine run_auto [] 2 [] [] [0] [] (st' := ⟨[(0, .agg #[.slice p.ba p.bs.length p.bc, .int .i64 p.zlo, .int .i64 p.zhi, .int .i64 p.rlo, .int .i64 p.rhi, .slice p.ra p.rs.length p.rc])], []⟩) (acc := []) (by kernel_rfl) (by kernel_rfl) trivial ?_
  refine run_new (.cells #[.slice p.ba p.bs.length p.bc, .int .i64 p.zlo, .int .i64 p.zhi, .int .i64 p.rlo, .int .i64 p.rhi, .slice p.ra p.rs.length p.rc] 30 (0, 0)) (fun b1 => .pointer (some ⟨b1, 0, none⟩)) (some 1) (fun _ => by kernel_rfl) (fun b1 hb1 => ?_)
  refine run_auto [] 7 [] [0] [1, 2, 8] [0] (st' := ⟨[(1, .pointer (some ⟨b1, 0, none⟩)), (2, .slice none 0 0), (8, .int .i64 (p.rs.length : Int))], [(b1, .cells #[.slice p.ba p.bs.length p.bc, .int .i64 p.zlo, .int .i64 p.zhi, .int .i64 p.rlo, .int .i64 p.rhi, .slice p.ra p.rs.length p.rc] 30 (0, 0))]⟩) (acc := [(.pointer (some ⟨b1, 0, none⟩), .pointer (some ⟨b1, 0, none⟩))]) (by kernel_rfl) (by kernel_rfl) ⟨rfl, trivial⟩ ?_
  refine run_mk 141 147 5 (.agg #[.int .i64 0, .int .i64 0, .int .i64 0, .int .i64 0, .int .i64 0]) (by kernel_rfl) (by kernel_rfl) (by kernel_rfl) rfl (by omega) (some 9) (p.rs.length) (by simp only [maxLen]; omega) (by omega) (by rw [show tyBytes _ _ = 40 from by kernel_rfl]; omega) (by kernel_rfl) (fun b2 hb2 => ?_)
  refine run_auto [] 11 [] [1] [2, 3, 11, 12, 13] [0] (st' := ⟨[(2, .slice none 0 0), (3, .slice (some ⟨b2, 0, none⟩) p.rs.length p.rs.length), (11, .slice p.ra p.rs.length p.rc), (12, .int .i64 (p.rs.length : Int)), (13, .int .i64 0)], [(b2, .cells (rowL (p.rs.length) fun _ => [.int .i64 0, .int .i64 0, .int .i64 0, .int .i64 0, .int .i64 0]).toArray 147 (0, 0))]⟩) (acc := [(.pointer (some ⟨b1, 0, none⟩), .pointer (some ⟨b1, 0, none⟩))]) (by kernel_rfl) (by kernel_rfl) ⟨rfl, trivial⟩ ?_
  refine run_auto [] 0 [] [] [2, 3, 11, 12, 13] [0] (st' := ⟨[(2, .slice none 0 0), (3, .slice (some ⟨b2, 0, none⟩) p.rs.length p.rs.length), (11, .slice p.ra p.rs.length p.rc), (12, .int .i64 (p.rs.length : Int)), (13, .int .i64 0)], [(b2, .cells (rowL (p.rs.length) fun _ => [.int .i64 0, .int .i64 0, .int .i64 0, .int .i64 0, .int .i64 0]).toArray 147 (0, 0))]⟩) (acc := []) (by kernel_rfl) (by kernel_rfl) trivial ?_
  refine run_loop (S := fun (k : Nat) => ⟨[(2, .slice none 0 0), (3, .slice (some ⟨b2, 0, none⟩) p.rs.length p.rs.length), (11, .slice p.ra p.rs.length p.rc), (12, .int .i64 (p.rs.length : Int)), (13, .int .i64 (k : Int))], [(b2, .cells (rowL p.rs.length (rdF p.rs k)).toArray 147 (0, 0))]⟩) (fun k => k ≤ p.rs.length) (fun k => p.rs.length - k) (0) (by kernel_rfl) (Nat.zero_le _) (by kernel_rfl) (fun k hI0 J0 hJ0 => ?_)
  cases hd1 : (decide ((k : Int) < (p.rs.length : Int))) with
  | false =>
    have hp1 := of_decide_eq_false hd1
    refine run_auto [(14, .bool false)] 12 [false] [] [2] [0] (st' := ⟨[(2, .slice (some ⟨b2, 0, none⟩) p.rs.length p.rs.length)], [(b2, .cells (rowL p.rs.length (rdF p.rs k)).toArray 147 (0, 0))]⟩) (acc := [(.bool false, .bool false), (.bool (decide ((k : Int) < (p.rs.length : Int))), .bool false)]) (by kernel_rfl) (by kernel_rfl) ⟨rfl, (bo hd1), trivial⟩ ?_
    refine run_end (fn := f99) rfl (Nat.le_refl _) (by kernel_rfl) [] [.slice (some ⟨b2, 0, none⟩) p.rs.length p.rs.length] (e := []) (by kernel_rfl) trivial (fun w1 k1 h1 => ?_)
    rw [show rowL p.rs.length (rdF p.rs k) = rdRow p.rs from (by rw [show k = p.rs.length by omega]; exact rdRow_is p.rs)] at h1
    exact ⟨(), b2, trivial, hb2, rfl, k1.keeps (fun _ h => h), h1 (b2, _) (List.mem_of_getElem? (i := 0) rfl)⟩
  | true =>
    have hp1 := of_decide_eq_true hd1
    have hlt : k < p.rs.length := by omega
    obtain ⟨b, o, hba, hc⟩ := hr (by intro h; rw [h] at hlt; cases hlt)
    have hc := hc k hlt
    rw [hba] at hJ0 ⊢
    refine run_auto [(14, .bool true)] 12 [true] [] [2, 3, 11, 12, 13, 15] [0] (st' := ⟨[(2, .slice none 0 0), (3, .slice (some ⟨b2, 0, none⟩) p.rs.length p.rs.length), (11, .slice (some ⟨b, o, none⟩) p.rs.length p.rc), (12, .int .i64 (p.rs.length : Int)), (13, .int .i64 (k : Int)), (15, .int .i64 (k : Int))], [(b2, .cells (rowL p.rs.length (rdF p.rs k)).toArray 147 (0, 0))]⟩) (acc := [(.bool true, .bool true), (.bool (decide ((k : Int) < (p.rs.length : Int))), .bool true)]) (by kernel_rfl) (by kernel_rfl) ⟨rfl, (bo hd1), trivial⟩ ?_
    refine run_v (Instr.indexAt 28 (.slice (some ⟨b, o, none⟩) p.rs.length p.rc) (.int .i64 (k : Int)) >>= fun v => pure (Next.value v)) (some 16) (.pointer (some ⟨b, o + k * 5, none⟩)) (by kernel_rfl) (fun w1 k1 h1 => idx_run (e := 38) (n := 5) (by kernel_rfl) (by kernel_rfl) b o p.rs.length p.rc .i64 k hlt w1) ?_
    refine run_v (Instr.loadAt 38 (.pointer (some ⟨b, o + k * 5, none⟩)) >>= fun v => pure (Next.value v)) (some 17) (.agg #[.int .i64 (elR p.rs k).1, .int .i64 (elR p.rs k).2.1, .int .i64 (elR p.rs k).2.2.1, .int .i64 (elR p.rs k).2.2.2.1, .int .i64 (elR p.rs k).2.2.2.2]) (by kernel_rfl) (fun w1 k1 h1 => load_in (off := 0) k1 (fun h => h) [.int .i64 (elR p.rs k).1, .int .i64 (elR p.rs k).2.1, .int .i64 (elR p.rs k).2.2.1, .int .i64 (elR p.rs k).2.2.2.1, .int .i64 (elR p.rs k).2.2.2.2] (c5 hc.1 hc.2.1 hc.2.2.1 hc.2.2.2.1 hc.2.2.2.2) (by kernel_rfl)) ?_
    refine run_new (.cells #[.int .i64 0, .int .i64 0, .int .i64 0, .int .i64 0, .int .i64 0] 38 (0, 0)) (fun b3 => .pointer (some ⟨b3, 0, none⟩)) (some 5) (fun _ => by kernel_rfl) (fun b3 hb3 => ?_)
    refine run_auto [] 17 [] [0, 0, 0, 0, 0] [2, 3, 11, 12, 13, 18, 19, 30] [1] (st' := ⟨[(2, .slice none 0 0), (3, .slice (some ⟨b2, 0, none⟩) p.rs.length p.rs.length), (11, .slice (some ⟨b, o, none⟩) p.rs.length p.rc), (12, .int .i64 (p.rs.length : Int)), (13, .int .i64 (k : Int)), (18, .slice (some ⟨b2, 0, none⟩) p.rs.length p.rs.length), (19, .int .i64 (k : Int)), (30, .agg #[.int .i64 (elR p.rs k).1, .int .i64 (elR p.rs k).2.1, .int .i64 (elR p.rs k).2.2.2.1, .int .i64 (elR p.rs k).2.2.2.2, .int .i64 (elR p.rs k).2.2.1])], [(b2, .cells (rowL p.rs.length (rdF p.rs k)).toArray 147 (0, 0))]⟩) (acc := [(.pointer (some ⟨b3, 0, none⟩), .pointer (some ⟨b3, 0, none⟩)), (.pointer (some ⟨b3, 0, none⟩), .pointer (some ⟨b3, 0, none⟩)), (.pointer (some ⟨b3, 0, none⟩), .pointer (some ⟨b3, 0, none⟩)), (.pointer (some ⟨b3, 0, none⟩), .pointer (some ⟨b3, 0, none⟩)), (.pointer (some ⟨b3, 0, none⟩), .pointer (some ⟨b3, 0, none⟩))]) (by kernel_rfl) (by kernel_rfl) ⟨rfl, rfl, rfl, rfl, rfl, trivial⟩ ?_
    refine run_v (Instr.indexAt 141 (.slice (some ⟨b2, 0, none⟩) p.rs.length p.rs.length) (.int .i64 (k : Int)) >>= fun v => pure (Next.value v)) (some 31) (.pointer (some ⟨b2, k * 5, none⟩)) (by kernel_rfl) (fun w1 k1 h1 => idx_off (e := 147) (n := 5) (by kernel_rfl) (by kernel_rfl) b2 0 p.rs.length p.rs.length .i64 k (by omega) (k * 5) (by omega) w1) ?_
    refine run_store 0 b2 (k * 5) 147 (.agg #[.int .i64 (elR p.rs k).1, .int .i64 (elR p.rs k).2.1, .int .i64 (elR p.rs k).2.2.2.1, .int .i64 (elR p.rs k).2.2.2.2, .int .i64 (elR p.rs k).2.2.1]) (rowL p.rs.length (rdF p.rs k)) (rowL p.rs.length (rdF p.rs (k + 1))) 147 (by kernel_rfl) (by kernel_rfl) (row_store (n := 5) (c := rdC (elR p.rs k)) (by kernel_rfl) rfl rfl rfl (fun j _ => rdF_len p.rs k j) hlt (fun j _ => rdF_step p.rs k j)) ?_
    refine run_auto [(32, .int .i64 ((k + 1 : Nat) : Int))] 6 [] [] [2, 3, 11, 12, 13] [0] (st' := ⟨[(2, .slice none 0 0), (3, .slice (some ⟨b2, 0, none⟩) p.rs.length p.rs.length), (11, .slice (some ⟨b, o, none⟩) p.rs.length p.rc), (12, .int .i64 (p.rs.length : Int)), (13, .int .i64 ((k + 1 : Nat) : Int))], [(b2, .cells (rowL p.rs.length (rdF p.rs (k + 1))).toArray 147 (0, 0))]⟩) (acc := [(.int .i64 (IntKind.i64.wrap ((k : Int) + 1)), .int .i64 ((k + 1 : Nat) : Int))]) (by kernel_rfl) (by kernel_rfl) ⟨(wr (by omega) (by omega)), trivial⟩ ?_
    exact run_round (by kernel_rfl) (hJ0 (k + 1) (by omega) (by omega))

end Go.Proofs.Ytmiobcnccbfknaa
