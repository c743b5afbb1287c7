/-
  PAIR: sets of readings; a pair without some of its readings.
-/
import Derived.Test.YtmiobcnccbfknaaC1
import Derived.Test.YtmiobcnccbfknaaXJ
import Derived.Test.YtmiobcnccbfknaaQ4
namespace Go.Proofs.Ytmiobcnccbfknaa
open Go.RowKit Go.Proofs.Try


def on1 (s : Nat) : Nat := (s >>> 1 &&& 6148914691236517205) + (s &&& 6148914691236517205)
def on2 (s : Nat) : Nat := (on1 s >>> 2 &&& 3689348814741910323) + (on1 s &&& 3689348814741910323)
def on3 (s : Nat) : Nat := (on2 s >>> 4) + on2 s &&& 1085102592571150095
def on4 (s : Nat) : Nat := on3 s + on3 s >>> 8
def on5 (s : Nat) : Nat := on4 s + on4 s >>> 16
def on6 (s : Nat) : Nat := on5 s + on5 s >>> 32
theorem ones_bd : ∀ s : Nat, s < 256 → ((s >>> 1 &&& 6148914691236517205) < 512 ∧ (s &&& 6148914691236517205) < 512 ∧ s >>> 1 < 512) ∧ ((on1 s >>> 2 &&& 3689348814741910323) < 512 ∧ (on1 s &&& 3689348814741910323) < 512 ∧ on1 s >>> 2 < 512 ∧ on1 s < 512) ∧ (on2 s < 512 ∧ on2 s >>> 4 < 512) ∧ (on3 s < 512 ∧ on3 s >>> 8 < 512) ∧ (on4 s < 512 ∧ on4 s >>> 16 < 512) ∧ (on5 s < 512 ∧ on5 s >>> 32 < 512) ∧ on6 s < 512 ∧ (on6 s &&& 127) = bitsN s := by decide +kernel
set_option maxRecDepth 100000 in
theorem ones64_any (s : Nat) (hs : s < 256) (w : World)  : Calls Try.prog 106 #[.int .u64 (s : Int)] w (RetI (bitsN s : Nat) w) := by
  obtain ⟨⟨a1, a2, a3⟩, ⟨b1, b2, b3, b4⟩, ⟨c1, c2⟩, ⟨d1, d2⟩, ⟨e1, e2⟩, ⟨f1, f2⟩, g1, b7⟩ := ones_bd s hs
  refine calls_run (fn := f106) (c := (f106.body).getD .skip) [.int .u64 (s : Int)] func106 (by kernel_rfl) (fun _ => False) [] (fun _ h => by cases h) (List.Pairwise.nil) 35 (by kernel_rfl) (by simp) ?_
  refine run_auto [] 7 [] [] [0, 2, 3] [] (st' := ⟨[(0, .int .u64 (s : Int)), (2, .int .i64 0), (3, .int .u64 (s : Int))], []⟩) (acc := []) (by kernel_rfl) (by kernel_rfl) trivial ?_
  refine run_v (binOp .shr 156 (.int .u64 (s : Nat)) (.int .u64 (1 : Nat)) >>= fun v => pure (Next.value v)) (some 4) (.int .u64 ((s >>> 1 : Nat) : Int)) (by kernel_rfl) (fun w1 k1 h1 => shr_runu s 1 (by omega)) ?_
  refine run_auto [(5, .int .u64 (((s >>> 1 : Nat) &&& 6148914691236517205 : Nat) : Int)), (7, .int .u64 ((s &&& 6148914691236517205 : Nat) : Int)), (8, .int .u64 ((on1 s : Nat) : Int))] 9 [] [] [0, 2, 9] [] (st' := ⟨[(0, .int .u64 ((on1 s : Nat) : Int)), (2, .int .i64 0), (9, .int .u64 ((on1 s : Nat) : Int))], []⟩) (acc := [(.int .u64 (IntKind.u64.wrap ((((s >>> 1 : Nat) &&& 6148914691236517205 : Nat) : Int) + ((s &&& 6148914691236517205 : Nat) : Int))), .int .u64 ((on1 s : Nat) : Int)), (.int .u64 (bits .and .u64 (s : Int) 6148914691236517205), .int .u64 ((s &&& 6148914691236517205 : Nat) : Int)), (.int .u64 (bits .and .u64 ((s >>> 1 : Nat) : Int) 6148914691236517205), .int .u64 (((s >>> 1 : Nat) &&& 6148914691236517205 : Nat) : Int))]) (by kernel_rfl) (by kernel_rfl) ⟨((((uwr (by omega) (by omega)).trans (io (by omega))) : Value.int .u64 (IntKind.u64.wrap ((((s >>> 1 : Nat) &&& 6148914691236517205 : Nat) : Int) + ((s &&& 6148914691236517205 : Nat) : Int))) = .int .u64 ((((s >>> 1 : Nat) &&& 6148914691236517205 : Nat) + (s &&& 6148914691236517205 : Nat) : Nat) : Int)).trans rfl), (and_natu s 6148914691236517205 (by omega) (by omega)), (and_natu (s >>> 1 : Nat) 6148914691236517205 (by omega) (by omega)), trivial⟩ ?_
  refine run_v (binOp .shr 156 (.int .u64 ((on1 s : Nat) : Nat)) (.int .u64 (2 : Nat)) >>= fun v => pure (Next.value v)) (some 10) (.int .u64 (((on1 s : Nat) >>> 2 : Nat) : Int)) (by kernel_rfl) (fun w1 k1 h1 => shr_runu (on1 s : Nat) 2 (by omega)) ?_
  refine run_auto [(11, .int .u64 ((((on1 s : Nat) >>> 2 : Nat) &&& 3689348814741910323 : Nat) : Int)), (13, .int .u64 (((on1 s : Nat) &&& 3689348814741910323 : Nat) : Int)), (14, .int .u64 ((on2 s : Nat) : Int))] 9 [] [] [0, 2, 15] [] (st' := ⟨[(0, .int .u64 ((on2 s : Nat) : Int)), (2, .int .i64 0), (15, .int .u64 ((on2 s : Nat) : Int))], []⟩) (acc := [(.int .u64 (IntKind.u64.wrap (((((on1 s : Nat) >>> 2 : Nat) &&& 3689348814741910323 : Nat) : Int) + (((on1 s : Nat) &&& 3689348814741910323 : Nat) : Int))), .int .u64 ((on2 s : Nat) : Int)), (.int .u64 (bits .and .u64 ((on1 s : Nat) : Int) 3689348814741910323), .int .u64 (((on1 s : Nat) &&& 3689348814741910323 : Nat) : Int)), (.int .u64 (bits .and .u64 (((on1 s : Nat) >>> 2 : Nat) : Int) 3689348814741910323), .int .u64 ((((on1 s : Nat) >>> 2 : Nat) &&& 3689348814741910323 : Nat) : Int))]) (by kernel_rfl) (by kernel_rfl) ⟨((((uwr (by omega) (by omega)).trans (io (by omega))) : Value.int .u64 (IntKind.u64.wrap (((((on1 s : Nat) >>> 2 : Nat) &&& 3689348814741910323 : Nat) : Int) + (((on1 s : Nat) &&& 3689348814741910323 : Nat) : Int))) = .int .u64 (((((on1 s : Nat) >>> 2 : Nat) &&& 3689348814741910323 : Nat) + ((on1 s : Nat) &&& 3689348814741910323 : Nat) : Nat) : Int)).trans rfl), (and_natu (on1 s : Nat) 3689348814741910323 (by omega) (by omega)), (and_natu ((on1 s : Nat) >>> 2 : Nat) 3689348814741910323 (by omega) (by omega)), trivial⟩ ?_
  refine run_v (binOp .shr 156 (.int .u64 ((on2 s : Nat) : Nat)) (.int .u64 (4 : Nat)) >>= fun v => pure (Next.value v)) (some 16) (.int .u64 (((on2 s : Nat) >>> 4 : Nat) : Int)) (by kernel_rfl) (fun w1 k1 h1 => shr_runu (on2 s : Nat) 4 (by omega)) ?_
  refine run_auto [(18, .int .u64 ((((on2 s : Nat) >>> 4 : Nat) + (on2 s : Nat) : Nat) : Int)), (19, .int .u64 ((on3 s : Nat) : Int))] 9 [] [] [0, 2, 20, 21] [] (st' := ⟨[(0, .int .u64 ((on3 s : Nat) : Int)), (2, .int .i64 0), (20, .int .u64 ((on3 s : Nat) : Int)), (21, .int .u64 ((on3 s : Nat) : Int))], []⟩) (acc := [(.int .u64 (bits .and .u64 ((((on2 s : Nat) >>> 4 : Nat) + (on2 s : Nat) : Nat) : Int) 1085102592571150095), .int .u64 ((on3 s : Nat) : Int)), (.int .u64 (IntKind.u64.wrap ((((on2 s : Nat) >>> 4 : Nat) : Int) + ((on2 s : Nat) : Int))), .int .u64 ((((on2 s : Nat) >>> 4 : Nat) + (on2 s : Nat) : Nat) : Int))]) (by kernel_rfl) (by kernel_rfl) ⟨(((and_natu (((on2 s : Nat) >>> 4 : Nat) + (on2 s : Nat) : Nat) 1085102592571150095 (by omega) (by omega)) : Value.int .u64 (bits .and .u64 ((((on2 s : Nat) >>> 4 : Nat) + (on2 s : Nat) : Nat) : Int) 1085102592571150095) = .int .u64 (((((on2 s : Nat) >>> 4 : Nat) + (on2 s : Nat) : Nat) &&& 1085102592571150095 : Nat) : Int)).trans rfl), ((uwr (by omega) (by omega)).trans (io (by omega))), trivial⟩ ?_
  refine run_v (binOp .shr 156 (.int .u64 ((on3 s : Nat) : Nat)) (.int .u64 (8 : Nat)) >>= fun v => pure (Next.value v)) (some 22) (.int .u64 (((on3 s : Nat) >>> 8 : Nat) : Int)) (by kernel_rfl) (fun w1 k1 h1 => shr_runu (on3 s : Nat) 8 (by omega)) ?_
  refine run_auto [(23, .int .u64 ((on4 s : Nat) : Int))] 7 [] [] [0, 2, 24, 25] [] (st' := ⟨[(0, .int .u64 ((on4 s : Nat) : Int)), (2, .int .i64 0), (24, .int .u64 ((on4 s : Nat) : Int)), (25, .int .u64 ((on4 s : Nat) : Int))], []⟩) (acc := [(.int .u64 (IntKind.u64.wrap (((on3 s : Nat) : Int) + (((on3 s : Nat) >>> 8 : Nat) : Int))), .int .u64 ((on4 s : Nat) : Int))]) (by kernel_rfl) (by kernel_rfl) ⟨((((uwr (by omega) (by omega)).trans (io (by omega))) : Value.int .u64 (IntKind.u64.wrap (((on3 s : Nat) : Int) + (((on3 s : Nat) >>> 8 : Nat) : Int))) = .int .u64 (((on3 s : Nat) + ((on3 s : Nat) >>> 8 : Nat) : Nat) : Int)).trans rfl), trivial⟩ ?_
  refine run_v (binOp .shr 156 (.int .u64 ((on4 s : Nat) : Nat)) (.int .u64 (16 : Nat)) >>= fun v => pure (Next.value v)) (some 26) (.int .u64 (((on4 s : Nat) >>> 16 : Nat) : Int)) (by kernel_rfl) (fun w1 k1 h1 => shr_runu (on4 s : Nat) 16 (by omega)) ?_
  refine run_auto [(27, .int .u64 ((on5 s : Nat) : Int))] 7 [] [] [0, 2, 28, 29] [] (st' := ⟨[(0, .int .u64 ((on5 s : Nat) : Int)), (2, .int .i64 0), (28, .int .u64 ((on5 s : Nat) : Int)), (29, .int .u64 ((on5 s : Nat) : Int))], []⟩) (acc := [(.int .u64 (IntKind.u64.wrap (((on4 s : Nat) : Int) + (((on4 s : Nat) >>> 16 : Nat) : Int))), .int .u64 ((on5 s : Nat) : Int))]) (by kernel_rfl) (by kernel_rfl) ⟨((((uwr (by omega) (by omega)).trans (io (by omega))) : Value.int .u64 (IntKind.u64.wrap (((on4 s : Nat) : Int) + (((on4 s : Nat) >>> 16 : Nat) : Int))) = .int .u64 (((on4 s : Nat) + ((on4 s : Nat) >>> 16 : Nat) : Nat) : Int)).trans rfl), trivial⟩ ?_
  refine run_v (binOp .shr 156 (.int .u64 ((on5 s : Nat) : Nat)) (.int .u64 (32 : Nat)) >>= fun v => pure (Next.value v)) (some 30) (.int .u64 (((on5 s : Nat) >>> 32 : Nat) : Int)) (by kernel_rfl) (fun w1 k1 h1 => shr_runu (on5 s : Nat) 32 (by omega)) ?_
  refine run_auto [(31, .int .u64 ((on6 s : Nat) : Int)), (33, .int .i64 ((on6 s : Nat) : Int)), (34, .int .i64 (((on6 s : Nat) &&& 127 : Nat) : Int))] 10 [] [] [2] [] (st' := ⟨[(2, .int .i64 (((on6 s : Nat) &&& 127 : Nat) : Int))], []⟩) (acc := [(.int .i64 (bits .and .i64 ((on6 s : Nat) : Int) 127), .int .i64 (((on6 s : Nat) &&& 127 : Nat) : Int)), (.int .i64 (IntKind.i64.wrap ((on6 s : Nat) : Int)), .int .i64 ((on6 s : Nat) : Int)), (.int .u64 (IntKind.u64.wrap (((on5 s : Nat) : Int) + (((on5 s : Nat) >>> 32 : Nat) : Int))), .int .u64 ((on6 s : Nat) : Int))]) (by kernel_rfl) (by kernel_rfl) ⟨(and_nat (on6 s : Nat) 127 (by omega) (by omega)), (wr (by omega) (by omega)), ((((uwr (by omega) (by omega)).trans (io (by omega))) : Value.int .u64 (IntKind.u64.wrap (((on5 s : Nat) : Int) + (((on5 s : Nat) >>> 32 : Nat) : Int))) = .int .u64 (((on5 s : Nat) + ((on5 s : Nat) >>> 32 : Nat) : Nat) : Int)).trans rfl), trivial⟩ ?_
  refine run_end (fn := f106) rfl (Nat.le_refl _) (by kernel_rfl) [] [.int .i64 (((on6 s : Nat) &&& 127 : Nat) : Int)] (e := []) (by kernel_rfl) trivial (fun w1 k1 h1 => ?_)
  exact ⟨by rw [b7]; rfl, k1.keeps (fun _ h => h)⟩

set_option maxRecDepth 100000 in
theorem ones_any (s : Nat) (hs : s < 256) (w : World)  : Calls Try.prog 89 #[.int .u64 (s : Int)] w (RetI (bitsN s : Nat) w) := by
  refine calls_run (fn := f89) (c := (f89.body).getD .skip) [.int .u64 (s : Int)] func89 (by kernel_rfl) (fun _ => False) [] (fun _ h => by cases h) (List.Pairwise.nil) 8 (by kernel_rfl) (by simp) ?_
  refine run_auto [] 10 [false] [] [2, 6] [] (st' := ⟨[(2, .int .i64 0), (6, .int .u64 (s : Int))], []⟩) (acc := [(.bool false, .bool false)]) (by kernel_rfl) (by kernel_rfl) ⟨rfl, trivial⟩ ?_
  refine run_ret1 106 #[.int .u64 (s : Int)] (some 7) (.int .i64 ((bitsN s : Nat) : Int)) (by kernel_rfl) (fun w1 k1 h1 => ones64_any s (by omega) w1) ?_
  refine run_auto [] 2 [] [] [2] [] (st' := ⟨[(2, .int .i64 ((bitsN s : Nat) : Int))], []⟩) (acc := []) (by kernel_rfl) (by kernel_rfl) trivial ?_
  refine run_end (fn := f89) rfl (Nat.le_refl _) (by kernel_rfl) [] [.int .i64 ((bitsN s : Nat) : Int)] (e := []) (by kernel_rfl) trivial (fun w1 k1 h1 => ?_)
  exact ⟨rfl, k1.keeps (fun _ h => h)⟩

set_option maxRecDepth 100000 in
theorem size_any (s : Nat) (hs : s < 256) (w : World)  : Calls Try.prog 54 #[.int .i64 (s : Int)] w (RetI (bitsN s : Nat) w) := by
  refine calls_run (fn := f54) (c := (f54.body).getD .skip) [.int .i64 (s : Int)] func54 (by kernel_rfl) (fun _ => False) [] (fun _ h => by cases h) (List.Pairwise.nil) 6 (by kernel_rfl) (by simp) ?_
  refine run_auto [(4, .int .u64 (s : Int))] 8 [] [] [2, 4] [] (st' := ⟨[(2, .int .i64 0), (4, .int .u64 (s : Int))], []⟩) (acc := [(.int .u64 (IntKind.u64.wrap (s : Int)), .int .u64 (s : Int))]) (by kernel_rfl) (by kernel_rfl) ⟨(uwr (by omega) (by omega)), trivial⟩ ?_
  refine run_ret1 89 #[.int .u64 (s : Int)] (some 5) (.int .i64 ((bitsN s : Nat) : Int)) (by kernel_rfl) (fun w1 k1 h1 => ones_any s (by omega) w1) ?_
  refine run_auto [] 2 [] [] [2] [] (st' := ⟨[(2, .int .i64 ((bitsN s : Nat) : Int))], []⟩) (acc := []) (by kernel_rfl) (by kernel_rfl) trivial ?_
  refine run_end (fn := f54) rfl (Nat.le_refl _) (by kernel_rfl) [] [.int .i64 ((bitsN s : Nat) : Int)] (e := []) (by kernel_rfl) trivial (fun w1 k1 h1 => ?_)
  exact ⟨rfl, k1.keeps (fun _ h => h)⟩

set_option maxRecDepth 100000 in
theorem has_any (s n : Nat) (hs : s < 256) (hn : n < 64) (w : World)  : Calls Try.prog 83 #[.int .i64 (s : Int), .int .i64 (n : Int)] w (RetB (s.testBit n) w) := by
  refine calls_run (fn := f83) (c := (f83.body).getD .skip) [.int .i64 (s : Int), .int .i64 (n : Int)] func83 (by kernel_rfl) (fun _ => False) [] (fun _ h => by cases h) (List.Pairwise.nil) 10 (by kernel_rfl) (by simp) ?_
  refine run_auto [] 8 [] [] [4, 5, 6] [] (st' := ⟨[(4, .bool false), (5, .int .i64 (s : Int)), (6, .int .i64 (n : Int))], []⟩) (acc := []) (by kernel_rfl) (by kernel_rfl) trivial ?_
  refine run_v (binOp .shr 98 (.int .i64 (s : Nat)) (.int .i64 (n : Nat)) >>= fun v => pure (Next.value v)) (some 7) (.int .i64 ((s >>> n : Nat) : Int)) (by kernel_rfl) (fun w1 k1 h1 => shr_run s n (by omega)) ?_
  refine run_auto [(8, .int .i64 (((s >>> n : Nat) &&& 1 : Nat) : Int))] 4 [] [] [4] [] (st' := ⟨[(4, .bool ((((s >>> n : Nat) &&& 1 : Nat) : Int) == 1))], []⟩) (acc := [(.int .i64 (bits .and .i64 ((s >>> n : Nat) : Int) 1), .int .i64 (((s >>> n : Nat) &&& 1 : Nat) : Int))]) (by kernel_rfl) (by kernel_rfl) ⟨(and_nat (s >>> n : Nat) 1 (by have := Nat.shiftRight_le s n; omega) (by have := Nat.shiftRight_le s n; omega)), trivial⟩ ?_
  refine run_end (fn := f83) rfl (Nat.le_refl _) (by kernel_rfl) [] [.bool ((((s >>> n : Nat) &&& 1 : Nat) : Int) == 1)] (e := []) (by kernel_rfl) trivial (fun w1 k1 h1 => ?_)
  exact ⟨by rw [← has_bit]; rfl, k1.keeps (fun _ h => h)⟩


def rdR (r : Rw) : List Value := [.int .i64 r.1, .int .i64 r.2.1, .int .i64 r.2.2.1, .int .i64 r.2.2.2.1, .int .i64 r.2.2.2.2]
theorem rdR_len (r : Rw) : (rdR r).length = 5 := rfl
theorem rdR_one (r : Rw) : ∀ u ∈ rdR r, u.oneCell' = true := by
  intro u hu
  simp only [rdR, List.mem_cons, List.not_mem_nil, or_false] at hu
  rcases hu with rfl | rfl | rfl | rfl | rfl <;> rfl
theorem zC_one : ∀ u ∈ zC, u.oneCell' = true := by
  intro u hu
  simp only [zC, List.mem_cons, List.not_mem_nil, or_false] at hu
  rcases hu with rfl | rfl | rfl | rfl | rfl <;> rfl
theorem elR_at {rs : List Rw} {i : Nat} {x : Rw} (h : rs[i]? = some x) : elR rs i = x := by unfold elR; rw [h]; rfl
theorem Rds.flat {w : World} {a : Option Addr} {rs : List Rw} (h : Rds w a rs) : rs ≠ [] → ∃ b o, a = some ⟨b, o, none⟩ ∧ ∀ j u, (rs.flatMap rdR)[j]? = some u → w.cell? ((⟨b, o, none⟩ : Addr).add j) = some u := by
  intro hx
  obtain ⟨b, o, e, hc⟩ := h hx
  refine ⟨b, o, e, flat_cells rdR_len fun i x hi k u hk => ?_⟩
  have hl := (List.getElem?_eq_some_iff.1 hi).1
  have h5 := hc i hl
  rw [elR_at hi] at h5
  exact c5 h5.1 h5.2.1 h5.2.2.1 h5.2.2.2.1 h5.2.2.2.2 k u hk
/-- Rows of readings that lie at the beginning of a block. -/
theorem Rds.of_row {w : World} {b cap : Nat} {rs : List Rw} {fr : Nat × Nat} (h : w.heap[b]? = some (.cells (rowG rdR zC rs cap).toArray 38 fr)) : Rds w (some ⟨b, 0, none⟩) rs := by
  intro _
  refine ⟨b, 0, rfl, fun i hi => ?_⟩
  have key : ∀ k u, (rdR (elR rs i))[k]? = some u → w.cell? ⟨b, 0 + i * 5 + k, none⟩ = some u := by
    intro k u hk
    refine cells_of_heap h _ _ ?_
    have hk5 : k < 5 := (List.getElem?_eq_some_iff.1 hk).1
    have hd := rowG_drop (z := zC) rdR_len (cap := cap) (Nat.le_of_lt hi)
    have e : (rowG rdR zC rs cap)[0 + i * 5 + k]? = ((rowG rdR zC rs cap).drop (i * 5))[k]? := by rw [List.getElem?_drop, Nat.zero_add]
    rw [e, hd, List.drop_eq_getElem_cons hi, List.flatMap_cons, List.append_assoc, List.getElem?_append_left (by show k < 5; exact hk5)]
    rw [← hk, elR, List.getElem?_eq_getElem hi]
    rfl
  exact ⟨key 0 _ rfl, key 1 _ rfl, key 2 _ rfl, key 3 _ rfl, key 4 _ rfl⟩
theorem rowL_zero (n : Nat) : rowL n (fun _ => zC) = rowG rdR zC [] n := by
  unfold rowL rowG
  have : ∀ l : List Nat, l.flatMap (fun _ => zC) = (List.replicate l.length zC).flatten := by
    intro l
    induction l with
    | nil => rfl
    | cons x l ih => rw [List.flatMap_cons, ih, List.length_cons, List.replicate_succ, List.flatten_cons]
  rw [this, List.length_range]
  rfl
set_option maxRecDepth 100000 in
theorem delete_any (b k cap m : Nat) (L : List Rw) (w : World) (hk : k < L.length) (hm : m + 1 = L.length) (hcap : L.length ≤ cap) (_h8 : cap ≤ 100) (hw : w.heap[b]? = some (.cells (rowG rdR zC (L) (cap)).toArray 38 (0, 0))) : Calls Try.prog 104 #[.slice (some ⟨b, 0, none⟩) L.length cap, .int .i64 (k : Int), .int .i64 ((k + 1 : Nat) : Int)] w (Wr b (.slice (some ⟨b, 0, none⟩) (L.eraseIdx k).length cap) (.cells (rowG rdR zC (L.eraseIdx k) (cap)).toArray 38 (0, 0)) w) := by
  have hne : ((k : Int) == ((k + 1 : Nat) : Int)) = false := by rw [beq_eq_false_iff_ne]; omega
  refine calls_run (fn := f104) (c := (f104.body).getD .skip) [.slice (some ⟨b, 0, none⟩) L.length cap, .int .i64 (k : Int), .int .i64 ((k + 1 : Nat) : Int)] func104 (by kernel_rfl) (fun x => x = b) [(b, .cells (rowG rdR zC (L) (cap)).toArray 38 (0, 0))] (fun p hp => by rcases List.mem_singleton.1 hp with rfl; exact ⟨hw, rfl, rfl⟩) (List.pairwise_singleton _ _) 33 (by kernel_rfl) (by simp) ?_
  refine run_auto [] 11 [] [] [0, 1, 2, 6, 8, 9, 10, 12] [0] (st' := ⟨[(0, .slice (some ⟨b, 0, none⟩) L.length cap), (1, .int .i64 (k : Int)), (2, .int .i64 ((k + 1 : Nat) : Int)), (6, .slice none 0 0), (8, .slice (some ⟨b, 0, none⟩) L.length cap), (9, .int .i64 (k : Int)), (10, .int .i64 ((k + 1 : Nat) : Int)), (12, .int .i64 (L.length : Int))], [(b, .cells (rowG rdR zC (L) (cap)).toArray 38 (0, 0))]⟩) (acc := []) (by kernel_rfl) (by kernel_rfl) trivial ?_
  refine run_v (Instr.sliceAt 28 (.slice (some ⟨b, 0, none⟩) L.length cap) (some (.int .i64 (k : Int))) (some (.int .i64 ((k + 1 : Nat) : Int))) (some (.int .i64 (L.length : Int))) >>= fun v => pure (Next.value v)) (some 13) (.slice (some (cutA b 0 k L.length 5)) ((k + 1 : Nat) - k) (L.length - k)) (by kernel_rfl) (fun w1 k1 h1 => cut_lhm (P := Try.prog) (t := 28) (e := 38) (n := 5) (by kernel_rfl) (by kernel_rfl) b (0) L.length cap w1 .i64 .i64 .i64 k (k + 1 : Nat) L.length (by omega) (by omega) (by omega)) ?_
  refine run_auto [(16, .bool false)] 17 [false] [] [0, 1, 2, 6, 7] [0] (st' := ⟨[(0, .slice (some ⟨b, 0, none⟩) L.length cap), (1, .int .i64 (k : Int)), (2, .int .i64 ((k + 1 : Nat) : Int)), (6, .slice none 0 0), (7, .int .i64 (L.length : Int))], [(b, .cells (rowG rdR zC (L) (cap)).toArray 38 (0, 0))]⟩) (acc := [(.bool false, .bool false), (.bool ((k : Int) == ((k + 1 : Nat) : Int)), .bool false)]) (by kernel_rfl) (by kernel_rfl) ⟨rfl, (bo hne), trivial⟩ ?_
  refine draw 8 [{ val := fun _ => .slice (some ⟨b, 0, none⟩) L.length cap, slots := [0] },
      { val := fun _ => .int .i64 (k : Int), slots := [1] },
      { val := fun _ => .slice (some ⟨b, 0, none⟩) k cap, slots := [20, 21] },
      { val := fun _ => .slice (some ⟨b, 0, none⟩) L.length cap, slots := [0] },
      { val := fun _ => .int .i64 ((k + 1 : Nat) : Int), slots := [2] },
      { val := fun _ => .slice (some (cutA b 0 (k + 1 : Nat) cap 5)) (L.length - (k + 1 : Nat)) (cap - (k + 1 : Nat)), slots := [23, 24] },
      { val := fun _ => .slice (some ⟨b, 0, none⟩) m cap, upd := [(0, fun _ => .cells (delG rdR zC L cap k 5).toArray 38 (0, 0))], slots := [22, 25], reads := [0] },
      { val := fun _ => .slice (some ⟨b, 0, none⟩) m cap, slots := [26] }] [[], [], [0, 1], [], [], [3, 4], [0, 1, 2, 3, 4, 5], [0, 1, 2, 3, 4, 5, 6]] (by kernel_rfl) (by kernel_rfl) (by kernel_rfl) (by kernel_rfl) [0, 6, 7] [0] (by kernel_rfl)
      ⟨⟨⟨⟨⟨⟨⟨⟨trivial,
      tri_quiet (fun β => []) [] [] (fun β => []) (by kernel_rfl) (fun β extra => by kernel_rfl) (by kernel_rfl) (fun β => trivial)⟩,
      tri_quiet (fun β => []) [] [] (fun β => []) (by kernel_rfl) (fun β extra => by kernel_rfl) (by kernel_rfl) (fun β => trivial)⟩,
      tri_v (fun β => (Instr.sliceAt 28 (.slice (some ⟨b, 0, none⟩) L.length cap) none (some (.int .i64 (k : Int))) none >>= fun v => pure (Next.value v))) (by kernel_rfl) (fun β extra => by kernel_rfl) (fun β => by kernel_rfl) (fun β w1 k1 h1 => cut_h (P := Try.prog) (t := 28) (e := 38) (n := 5) (by kernel_rfl) (by kernel_rfl) b (0) L.length cap w1 .i64 k (by omega))⟩,
      tri_quiet (fun β => []) [] [] (fun β => []) (by kernel_rfl) (fun β extra => by kernel_rfl) (by kernel_rfl) (fun β => trivial)⟩,
      tri_quiet (fun β => []) [] [] (fun β => []) (by kernel_rfl) (fun β extra => by kernel_rfl) (by kernel_rfl) (fun β => trivial)⟩,
      tri_v (fun β => (Instr.sliceAt 28 (.slice (some ⟨b, 0, none⟩) L.length cap) (some (.int .i64 ((k + 1 : Nat) : Int))) none none >>= fun v => pure (Next.value v))) (by kernel_rfl) (fun β extra => by kernel_rfl) (fun β => by kernel_rfl) (fun β w1 k1 h1 => cut_l (P := Try.prog) (t := 28) (e := 38) (n := 5) (by kernel_rfl) (by kernel_rfl) b (0) L.length cap w1 .i64 (k + 1 : Nat) (by omega))⟩,
      tri_upd (fun β => (appSem 28 28 (.slice (some ⟨b, 0, none⟩) k cap) (.slice (some (cutA b 0 (k + 1 : Nat) cap 5)) (L.length - (k + 1 : Nat)) (cap - (k + 1 : Nat))))) (fun β => b) (rowG rdR zC (L) (cap)) (delG rdR zC L cap k 5) 38 (by kernel_rfl) (fun β extra => by kernel_rfl) (fun β => by kernel_rfl) (fun β => by kernel_rfl) (fun β w1 k1 h1 => del_app (t := 28) (e := 38) (n := 5) rdR_len rdR_one (by kernel_rfl) (by kernel_rfl) hk hm hcap rfl (h1 (b, .cells (rowG rdR zC (L) (cap)).toArray 38 (0, 0)) (List.mem_of_getElem? (i := 0) (by kernel_rfl))))⟩,
      tri_quiet (fun β => []) [] [] (fun β => []) (by kernel_rfl) (fun β extra => by kernel_rfl) (by kernel_rfl) (fun β => trivial)⟩
      (fun β => ⟨[(0, .slice (some ⟨b, 0, none⟩) m cap), (6, .slice none 0 0), (7, .int .i64 (L.length : Int))], [(b, .cells (delG rdR zC L cap k 5).toArray 38 (0, 0))]⟩) (fun β => by kernel_rfl) (fun β1 => ?_)
  refine run_auto [] 6 [] [] [0, 6, 27, 29, 30] [0] (st' := ⟨[(0, .slice (some ⟨b, 0, none⟩) m cap), (6, .slice none 0 0), (27, .slice (some ⟨b, 0, none⟩) m cap), (29, .int .i64 (m : Int)), (30, .int .i64 (L.length : Int))], [(b, .cells (delG rdR zC L cap k 5).toArray 38 (0, 0))]⟩) (acc := []) (by kernel_rfl) (by kernel_rfl) trivial ?_
  refine run_v (Instr.sliceAt 28 (.slice (some ⟨b, 0, none⟩) m cap) (some (.int .i64 (m : Int))) (some (.int .i64 (L.length : Int))) none >>= fun v => pure (Next.value v)) (some 31) (.slice (some ⟨b, m * 5, none⟩) 1 (cap - m)) (by kernel_rfl) (fun w1 k1 h1 => (by have h := cut_lh (P := Try.prog) (t := 28) (e := 38) (n := 5) (by kernel_rfl) (by kernel_rfl) b (0) m cap w1 .i64 .i64 m L.length (by omega) (by omega); rw [show cutA b 0 m cap 5 = ⟨b, m * 5, none⟩ from (by unfold cutA; rw [if_neg (by omega), Nat.zero_add]), show L.length - m = 1 by omega] at h; exact h)) ?_
  refine run_upd (Builtin.clear_ #[28] 0 #[.slice (some ⟨b, m * 5, none⟩) 1 (cap - m)] >>= fun v => pure (Next.value v)) none (.tuple #[]) 0 b (delG rdR zC L cap k 5) (rowG rdR zC (L.eraseIdx k) cap) 38 (by kernel_rfl) (by kernel_rfl) (fun w1 k1 h1 => del_clear (t := 28) (e := 38) (c := rdR) (z := zC) (n := 5) (v := .agg #[.int .i64 0, .int .i64 0, .int .i64 0, .int .i64 0, .int .i64 0]) rdR_len rfl (by kernel_rfl) (fun w => by kernel_rfl) (by kernel_rfl) zC_one hk hm hcap (h1 (b, .cells (delG rdR zC L cap k 5).toArray 38 (0, 0)) (List.mem_of_getElem? (i := 0) (by kernel_rfl)))) ?_
  refine run_auto [] 6 [] [] [6] [0] (st' := ⟨[(6, .slice (some ⟨b, 0, none⟩) m cap)], [(b, .cells (rowG rdR zC (L.eraseIdx k) cap).toArray 38 (0, 0))]⟩) (acc := []) (by kernel_rfl) (by kernel_rfl) trivial ?_
  refine run_end (fn := f104) rfl (Nat.le_refl _) (by kernel_rfl) [] [.slice (some ⟨b, 0, none⟩) m cap] (e := []) (by kernel_rfl) trivial (fun w1 k1 h1 => ?_)
  exact ⟨by rw [List.length_eraseIdx_of_lt hk, show L.length - 1 = m by omega]; rfl, k1, h1 (b, _) (List.mem_of_getElem? (i := 0) rfl)⟩


/-- The pair with those readings alone of which g is so, in a row at b. -/
def Pr.wo (p : Pr) (g : Nat → Bool) (b : Nat) : Pr := { p with ra := some ⟨b, 0, none⟩, rc := p.rs.length, rs := keptTo g p.rs 0 }
def outB (s : Nat) (i : Nat) : Bool := !s.testBit i
theorem keepL_map (L : List Rw) (g : Nat → Bool) : (keptTo g L 0).map Rw.n = keepL (L.map Rw.n) g := by
  rw [keptTo_zero]
  unfold keepL
  rw [List.zipIdx_map, List.filter_map, List.map_map, List.map_map]
  rfl
theorem Pr.wo_n (p : Pr) (g : Nat → Bool) (b : Nat) : (p.wo g b).n = p.n.keep g := by
  unfold Pr.n Prn.keep
  rw [← keepL_map]
  rfl
theorem elR_mem {rs : List Rw} {k : Nat} (h : k < rs.length) : elR rs k ∈ rs := by
  unfold elR
  rw [List.getElem?_eq_getElem h]
  exact List.getElem_mem h
theorem Pr.Fine.wo {p : Pr} (h : p.Fine) (g : Nat → Bool) (b : Nat) : (p.wo g b).Fine :=
  ⟨h.b1, h.b5, h.bl, h.z, h.zw, h.r, h.rw_, Nat.le_trans (keptTo_len g (Nat.zero_le _)).2 h.r8, fun k hk => by
    obtain ⟨j, hj, e⟩ := List.getElem_of_mem (keptTo_mem (elR_mem (rs := keptTo g p.rs 0) hk))
    have := h.rd j hj
    rw [elR_at (List.getElem?_eq_getElem hj), e] at this
    exact this⟩
theorem Pr.In.wo {p : Pr} {w w' : World} (h : p.In w) (k : Keeps w w') (g : Nat → Bool) {b : Nat} {fr : Nat × Nat} (hb : w'.heap[b]? = some (.cells (rowG rdR zC (keptTo g p.rs 0) p.rs.length).toArray 38 fr)) : (p.wo g b).In w' :=
  ⟨h.bl.keep k, Rds.of_row hb, h.ln, Nat.le_trans (keptTo_len g (Nat.zero_le _)).2 h.lr⟩
set_option maxRecDepth 100000 in
theorem without_any (p : Pr) (s : Nat) (hs : s < 256) (w : World) (hp : p.In w) (hF : p.Fine) : Calls Try.prog 88 #[.agg #[.slice p.ba p.bs.length p.bc, .int .i64 p.zlo, .int .i64 p.zhi, .int .i64 p.rlo, .int .i64 p.rhi, .slice p.ra p.rs.length p.rc], .int .i64 (s : Int)] w (Nw (α := Unit) (fun _ b => (p.wo (outB s) b).v) (fun _ => .cells (rowG rdR zC (keptTo (outB s) p.rs 0) (p.rs.length)).toArray 38 (0, 0)) (fun _ => True) w) := by
  have h8 := hF.r8
  refine calls_run (fn := f88) (c := (f88.body).getD .skip) [.agg #[.slice p.ba p.bs.length p.bc, .int .i64 p.zlo, .int .i64 p.zhi, .int .i64 p.rlo, .int .i64 p.rhi, .slice p.ra p.rs.length p.rc], .int .i64 (s : Int)] func88 (by kernel_rfl) (fun _ => False) [] (fun _ h => by cases h) (List.Pairwise.nil) 34 (by kernel_rfl) (by simp) ?_
  refine run_auto [] 2 [] [] [0, 1] [] (st' := ⟨[(0, .agg #[.slice p.ba p.bs.length p.bc, .int .i64 p.zlo, .int .i64 p.zhi, .int .i64 p.rlo, .int .i64 p.rhi, .slice p.ra p.rs.length p.rc]), (1, .int .i64 (s : Int))], []⟩) (acc := []) (by kernel_rfl) (by kernel_rfl) trivial ?_
  refine run_new (.cells #[.slice p.ba p.bs.length p.bc, .int .i64 p.zlo, .int .i64 p.zhi, .int .i64 p.rlo, .int .i64 p.rhi, .slice p.ra p.rs.length p.rc] 30 (0, 0)) (fun b1 => .pointer (some ⟨b1, 0, none⟩)) (some 2) (fun _ => by kernel_rfl) (fun b1 hb1 => ?_)
  refine run_new (.cells #[.slice none 0 0, .int .i64 0, .int .i64 0, .int .i64 0, .int .i64 0, .slice none 0 0] 30 (0, 0)) (fun b2 => .pointer (some ⟨b2, 0, none⟩)) (some 4) (fun _ => by kernel_rfl) (fun b2 hb2 => ?_)
  refine run_auto [] 6 [] [1] [1, 2, 4, 9] [0, 1] (st' := ⟨[(1, .int .i64 (s : Int)), (2, .pointer (some ⟨b1, 0, none⟩)), (4, .pointer (some ⟨b2, 0, none⟩)), (9, .int .i64 (p.rs.length : Int))], [(b2, .cells #[.slice none 0 0, .int .i64 0, .int .i64 0, .int .i64 0, .int .i64 0, .slice none 0 0] 30 (0, 0)), (b1, .cells #[.slice p.ba p.bs.length p.bc, .int .i64 p.zlo, .int .i64 p.zhi, .int .i64 p.rlo, .int .i64 p.rhi, .slice p.ra p.rs.length p.rc] 30 (0, 0))]⟩) (acc := [(.pointer (some ⟨b1, 0, none⟩), .pointer (some ⟨b1, 0, none⟩))]) (by kernel_rfl) (by kernel_rfl) ⟨rfl, trivial⟩ ?_
  refine run_mk 28 38 5 (.agg #[.int .i64 0, .int .i64 0, .int .i64 0, .int .i64 0, .int .i64 0]) (by kernel_rfl) (by kernel_rfl) (by kernel_rfl) rfl (by omega) (some 10) (p.rs.length) (by simp only [maxLen]; omega) (by omega) (by rw [show tyBytes _ _ = 40 from by kernel_rfl]; omega) (by kernel_rfl) (fun b3 hb3 => ?_)
  refine run_auto [] 7 [] [2] [1, 2, 4, 5, 11, 13] [0, 1, 2] (st' := ⟨[(1, .int .i64 (s : Int)), (2, .pointer (some ⟨b1, 0, none⟩)), (4, .pointer (some ⟨b2, 0, none⟩)), (5, .slice (some ⟨b3, 0, none⟩) p.rs.length p.rs.length), (11, .slice (some ⟨b3, 0, none⟩) p.rs.length p.rs.length), (13, .slice p.ra p.rs.length p.rc)], [(b3, .cells (rowL (p.rs.length) fun _ => [.int .i64 0, .int .i64 0, .int .i64 0, .int .i64 0, .int .i64 0]).toArray 38 (0, 0)), (b2, .cells #[.slice none 0 0, .int .i64 0, .int .i64 0, .int .i64 0, .int .i64 0, .slice none 0 0] 30 (0, 0)), (b1, .cells #[.slice p.ba p.bs.length p.bc, .int .i64 p.zlo, .int .i64 p.zhi, .int .i64 p.rlo, .int .i64 p.rhi, .slice p.ra p.rs.length p.rc] 30 (0, 0))]⟩) (acc := [(.pointer (some ⟨b1, 0, none⟩), .pointer (some ⟨b1, 0, none⟩))]) (by kernel_rfl) (by kernel_rfl) ⟨rfl, trivial⟩ ?_
  rw [show (rowL (p.rs.length) fun _ => [.int .i64 0, .int .i64 0, .int .i64 0, .int .i64 0, .int .i64 0]) = rowG rdR zC [] p.rs.length from rowL_zero p.rs.length]
  refine run_upd (Builtin.copy_ #[28, 28] 3 #[.slice (some ⟨b3, 0, none⟩) p.rs.length p.rs.length, .slice p.ra p.rs.length p.rc] >>= fun v => pure (Next.value v)) (some 14) (.int .i64 (p.rs.length : Int)) 0 b3 (rowG rdR zC ([]) (p.rs.length)) (rowG rdR zC (p.rs) (p.rs.length)) 38 (by kernel_rfl) (by kernel_rfl) (fun w1 k1 h1 => copy_run (t := 28) (e := 38) (n := 5) (c := rdR) (z := zC) (by kernel_rfl) rdR_len rdR_one rfl (by kernel_rfl) (h1 (b3, .cells (rowG rdR zC ([]) (p.rs.length)).toArray 38 (0, 0)) (List.mem_of_getElem? (i := 0) (by kernel_rfl))) ((hp.rd.keep (k1.keeps (fun _ h => h))).flat)) ?_
  refine run_auto [(18, .int .i64 ((p.rs.length : Int) - 1))] 11 [] [2] [1, 2, 4, 5, 6] [0, 1, 2] (st' := ⟨[(1, .int .i64 (s : Int)), (2, .pointer (some ⟨b1, 0, none⟩)), (4, .pointer (some ⟨b2, 0, none⟩)), (5, .slice (some ⟨b3, 0, none⟩) p.rs.length p.rs.length), (6, .int .i64 ((p.rs.length : Int) - 1))], [(b3, .cells (rowG rdR zC (p.rs) (p.rs.length)).toArray 38 (0, 0)), (b2, .cells #[.slice none 0 0, .int .i64 0, .int .i64 0, .int .i64 0, .int .i64 0, .slice none 0 0] 30 (0, 0)), (b1, .cells #[.slice p.ba p.bs.length p.bc, .int .i64 p.zlo, .int .i64 p.zhi, .int .i64 p.rlo, .int .i64 p.rhi, .slice p.ra p.rs.length p.rc] 30 (0, 0))]⟩) (acc := [(.int .i64 (IntKind.i64.wrap ((p.rs.length : Int) - 1)), .int .i64 ((p.rs.length : Int) - 1)), (.pointer (some ⟨b1, 0, none⟩), .pointer (some ⟨b1, 0, none⟩))]) (by kernel_rfl) (by kernel_rfl) ⟨(wr (by omega) (by omega)), rfl, trivial⟩ ?_
  refine run_auto [] 0 [] [] [1, 2, 4, 5, 6] [0, 1, 2] (st' := ⟨[(1, .int .i64 (s : Int)), (2, .pointer (some ⟨b1, 0, none⟩)), (4, .pointer (some ⟨b2, 0, none⟩)), (5, .slice (some ⟨b3, 0, none⟩) p.rs.length p.rs.length), (6, .int .i64 ((p.rs.length : Int) - 1))], [(b3, .cells (rowG rdR zC (p.rs) (p.rs.length)).toArray 38 (0, 0)), (b2, .cells #[.slice none 0 0, .int .i64 0, .int .i64 0, .int .i64 0, .int .i64 0, .slice none 0 0] 30 (0, 0)), (b1, .cells #[.slice p.ba p.bs.length p.bc, .int .i64 p.zlo, .int .i64 p.zhi, .int .i64 p.rlo, .int .i64 p.rhi, .slice p.ra p.rs.length p.rc] 30 (0, 0))]⟩) (acc := []) (by kernel_rfl) (by kernel_rfl) trivial ?_
  refine run_loop (S := fun (j : Nat) => ⟨[(1, .int .i64 (s : Int)), (2, .pointer (some ⟨b1, 0, none⟩)), (4, .pointer (some ⟨b2, 0, none⟩)), (5, .slice (some ⟨b3, 0, none⟩) ((keptTo (outB s) p.rs j).length) p.rs.length), (6, .int .i64 ((j : Int) - 1))], [(b3, .cells (rowG rdR zC (keptTo (outB s) p.rs j) (p.rs.length)).toArray 38 (0, 0)), (b2, .cells #[.slice none 0 0, .int .i64 0, .int .i64 0, .int .i64 0, .int .i64 0, .slice none 0 0] 30 (0, 0)), (b1, .cells #[.slice p.ba p.bs.length p.bc, .int .i64 p.zlo, .int .i64 p.zhi, .int .i64 p.rlo, .int .i64 p.rhi, .slice p.ra p.rs.length p.rc] 30 (0, 0))]⟩) (fun j => j ≤ p.rs.length) (fun j => j) (p.rs.length) (by kernel_rfl) (Nat.le_refl _) (by rw [keptTo_all]) (fun j hI0 J0 hJ0 => ?_)
  cases hd1 : (decide (0 ≤ ((j : Int) - 1))) with
  | false =>
    have hp1 := of_decide_eq_false hd1
    refine run_auto [(20, .bool false)] 19 [false] [2, 2, 1] [4] [0, 1] (st' := ⟨[(4, .pointer (some ⟨b2, 0, none⟩))], [(b3, .cells (rowG rdR zC (keptTo (outB s) p.rs j) (p.rs.length)).toArray 38 (0, 0)), (b2, .cells #[.slice p.ba p.bs.length p.bc, .int .i64 p.zlo, .int .i64 p.zhi, .int .i64 p.rlo, .int .i64 p.rhi, .slice (some ⟨b3, 0, none⟩) ((keptTo (outB s) p.rs j).length) p.rs.length] 30 (0, 0))]⟩) (acc := [(.pointer (some ⟨b2, 0, none⟩), .pointer (some ⟨b2, 0, none⟩)), (.pointer (some ⟨b1, 0, none⟩), .pointer (some ⟨b1, 0, none⟩)), (.pointer (some ⟨b1, 0, none⟩), .pointer (some ⟨b1, 0, none⟩)), (.bool false, .bool false), (.bool (decide (0 ≤ ((j : Int) - 1))), .bool false)]) (by kernel_rfl) (by kernel_rfl) ⟨rfl, rfl, rfl, rfl, (bo hd1), trivial⟩ ?_
    refine run_end (fn := f88) rfl (Nat.le_refl _) (by kernel_rfl) [1] [.agg #[.slice p.ba p.bs.length p.bc, .int .i64 p.zlo, .int .i64 p.zhi, .int .i64 p.rlo, .int .i64 p.rhi, .slice (some ⟨b3, 0, none⟩) ((keptTo (outB s) p.rs j).length) p.rs.length]] (e := [(.pointer (some ⟨b2, 0, none⟩), .pointer (some ⟨b2, 0, none⟩))]) (by kernel_rfl) ⟨rfl, trivial⟩ (fun w1 k1 h1 => ?_)
    obtain rfl : j = 0 := by omega
    exact ⟨(), b3, trivial, hb3, rfl, k1.keeps (fun _ h => h), h1 (b3, _) (List.mem_of_getElem? (i := 0) rfl)⟩
  | true =>
    have hp1 := of_decide_eq_true hd1
    obtain ⟨i, rfl⟩ : ∃ i, j = i + 1 := ⟨j - 1, by omega⟩
    have hi : i < p.rs.length := by omega
    have hkl := keptTo_len (outB s) (k := i + 1) hI0
    rw [show (((i + 1 : Nat) : Int) - 1) = (i : Int) by omega]
    have hge : decide (0 ≤ (i : Int)) = true := by simp
    refine run_auto [(20, .bool true)] 14 [true] [] [1, 2, 4, 5, 6, 23, 24] [0, 1, 2] (st' := ⟨[(1, .int .i64 (s : Int)), (2, .pointer (some ⟨b1, 0, none⟩)), (4, .pointer (some ⟨b2, 0, none⟩)), (5, .slice (some ⟨b3, 0, none⟩) ((keptTo (outB s) p.rs (i + 1)).length) p.rs.length), (6, .int .i64 (i : Int)), (23, .int .i64 (s : Int)), (24, .int .i64 (i : Int))], [(b3, .cells (rowG rdR zC (keptTo (outB s) p.rs (i + 1)) (p.rs.length)).toArray 38 (0, 0)), (b2, .cells #[.slice none 0 0, .int .i64 0, .int .i64 0, .int .i64 0, .int .i64 0, .slice none 0 0] 30 (0, 0)), (b1, .cells #[.slice p.ba p.bs.length p.bc, .int .i64 p.zlo, .int .i64 p.zhi, .int .i64 p.rlo, .int .i64 p.rhi, .slice p.ra p.rs.length p.rc] 30 (0, 0))]⟩) (acc := [(.bool true, .bool true), (.bool (decide (0 ≤ (i : Int))), .bool true)]) (by kernel_rfl) (by kernel_rfl) ⟨rfl, (bo hge), trivial⟩ ?_
    cases hd2 : (s.testBit i) with
    | false =>
      refine run_ret1 83 #[.int .i64 (s : Int), .int .i64 (i : Int)] (some 25) (.bool false) (by kernel_rfl) (fun w1 k1 h1 => (by have h := has_any s i (by omega) (by omega) w1; rw [hd2] at h; exact h)) ?_
      refine run_auto [(22, .int .i64 ((i : Int) - 1))] 9 [false] [] [1, 2, 4, 5, 6] [0, 1, 2] (st' := ⟨[(1, .int .i64 (s : Int)), (2, .pointer (some ⟨b1, 0, none⟩)), (4, .pointer (some ⟨b2, 0, none⟩)), (5, .slice (some ⟨b3, 0, none⟩) ((keptTo (outB s) p.rs (i + 1)).length) p.rs.length), (6, .int .i64 ((i : Int) - 1))], [(b3, .cells (rowG rdR zC (keptTo (outB s) p.rs (i + 1)) (p.rs.length)).toArray 38 (0, 0)), (b2, .cells #[.slice none 0 0, .int .i64 0, .int .i64 0, .int .i64 0, .int .i64 0, .slice none 0 0] 30 (0, 0)), (b1, .cells #[.slice p.ba p.bs.length p.bc, .int .i64 p.zlo, .int .i64 p.zhi, .int .i64 p.rlo, .int .i64 p.rhi, .slice p.ra p.rs.length p.rc] 30 (0, 0))]⟩) (acc := [(.int .i64 (IntKind.i64.wrap ((i : Int) - 1)), .int .i64 ((i : Int) - 1)), (.bool false, .bool false)]) (by kernel_rfl) (by kernel_rfl) ⟨(wr (by omega) (by omega)), rfl, trivial⟩ ?_
      rw [show keptTo (outB s) p.rs (i + 1) = keptTo (outB s) p.rs i from keptTo_in hi (by unfold outB; rw [hd2]; rfl)]
      exact run_round (by kernel_rfl) (hJ0 (i) (by omega) (by omega))
    | true =>
      refine run_ret1 83 #[.int .i64 (s : Int), .int .i64 (i : Int)] (some 25) (.bool true) (by kernel_rfl) (fun w1 k1 h1 => (by have h := has_any s i (by omega) (by omega) w1; rw [hd2] at h; exact h)) ?_
      refine run_auto [(29, .int .i64 ((i + 1 : Nat) : Int))] 7 [true] [] [1, 2, 4, 5, 6, 26, 27, 29] [0, 1, 2] (st' := ⟨[(1, .int .i64 (s : Int)), (2, .pointer (some ⟨b1, 0, none⟩)), (4, .pointer (some ⟨b2, 0, none⟩)), (5, .slice (some ⟨b3, 0, none⟩) ((keptTo (outB s) p.rs (i + 1)).length) p.rs.length), (6, .int .i64 (i : Int)), (26, .slice (some ⟨b3, 0, none⟩) ((keptTo (outB s) p.rs (i + 1)).length) p.rs.length), (27, .int .i64 (i : Int)), (29, .int .i64 ((i + 1 : Nat) : Int))], [(b3, .cells (rowG rdR zC (keptTo (outB s) p.rs (i + 1)) (p.rs.length)).toArray 38 (0, 0)), (b2, .cells #[.slice none 0 0, .int .i64 0, .int .i64 0, .int .i64 0, .int .i64 0, .slice none 0 0] 30 (0, 0)), (b1, .cells #[.slice p.ba p.bs.length p.bc, .int .i64 p.zlo, .int .i64 p.zhi, .int .i64 p.rlo, .int .i64 p.rhi, .slice p.ra p.rs.length p.rc] 30 (0, 0))]⟩) (acc := [(.int .i64 (IntKind.i64.wrap ((i : Int) + 1)), .int .i64 ((i + 1 : Nat) : Int)), (.bool true, .bool true)]) (by kernel_rfl) (by kernel_rfl) ⟨(wr (by omega) (by omega)), rfl, trivial⟩ ?_
      refine run_wr 104 #[.slice (some ⟨b3, 0, none⟩) ((keptTo (outB s) p.rs (i + 1)).length) p.rs.length, .int .i64 (i : Int), .int .i64 ((i + 1 : Nat) : Int)] (some 30) (.slice (some ⟨b3, 0, none⟩) (((keptTo (outB s) p.rs (i + 1)).eraseIdx i).length) p.rs.length) 0 b3 (.cells (rowG rdR zC (keptTo (outB s) p.rs (i + 1)) (p.rs.length)).toArray 38 (0, 0)) (.cells (rowG rdR zC ((keptTo (outB s) p.rs (i + 1)).eraseIdx i) (p.rs.length)).toArray 38 (0, 0)) (by kernel_rfl) (by kernel_rfl) (by kernel_rfl) (fun w1 k1 h1 => delete_any b3 i p.rs.length ((keptTo (outB s) p.rs (i + 1)).length - 1) (keptTo (outB s) p.rs (i + 1)) w1 (by omega) (by omega) (by omega) (by omega) (h1 (b3, .cells (rowG rdR zC (keptTo (outB s) p.rs (i + 1)) (p.rs.length)).toArray 38 (0, 0)) (List.mem_of_getElem? (i := 0) (by kernel_rfl)))) ?_
      refine run_auto [(22, .int .i64 ((i : Int) - 1))] 8 [] [] [1, 2, 4, 5, 6] [0, 1, 2] (st' := ⟨[(1, .int .i64 (s : Int)), (2, .pointer (some ⟨b1, 0, none⟩)), (4, .pointer (some ⟨b2, 0, none⟩)), (5, .slice (some ⟨b3, 0, none⟩) (((keptTo (outB s) p.rs (i + 1)).eraseIdx i).length) p.rs.length), (6, .int .i64 ((i : Int) - 1))], [(b3, .cells (rowG rdR zC ((keptTo (outB s) p.rs (i + 1)).eraseIdx i) (p.rs.length)).toArray 38 (0, 0)), (b2, .cells #[.slice none 0 0, .int .i64 0, .int .i64 0, .int .i64 0, .int .i64 0, .slice none 0 0] 30 (0, 0)), (b1, .cells #[.slice p.ba p.bs.length p.bc, .int .i64 p.zlo, .int .i64 p.zhi, .int .i64 p.rlo, .int .i64 p.rhi, .slice p.ra p.rs.length p.rc] 30 (0, 0))]⟩) (acc := [(.int .i64 (IntKind.i64.wrap ((i : Int) - 1)), .int .i64 ((i : Int) - 1))]) (by kernel_rfl) (by kernel_rfl) ⟨(wr (by omega) (by omega)), trivial⟩ ?_
      rw [show (keptTo (outB s) p.rs (i + 1)).eraseIdx i = keptTo (outB s) p.rs i from keptTo_out hi (by unfold outB; rw [hd2]; rfl)]
      exact run_round (by kernel_rfl) (hJ0 (i) (by omega) (by omega))

end Go.Proofs.Ytmiobcnccbfknaa
