/-
  PAIR: sets of readings; a pair without some of its readings.
  PAIR: all sets by size; the fewest readings that suit; Wrong and Clash.
  PAIR: groups of blocks that hang together.
  PAIR: Groups.
-/
import Derived.Test.YthnhcacoegmdfaaGg
import Derived.Test.YthnhcacoegmdfaaGb
import Derived.Test.YthnhcacoegmdfaaGc
namespace Go.Proofs.Ythnhcacoegmdfaa
open Go.RowKit Go.Proofs.Try


def on1 (s : Nat) : Nat := (s >>> 1 &&& 6148914691236517205) + (s &&& 6148914691236517205)
def on2 (s : Nat) : Nat := (on1 s >>> 2 &&& 3689348814741910323) + (on1 s &&& 3689348814741910323)
def on3 (s : Nat) : Nat := (on2 s >>> 4) + on2 s &&& 1085102592571150095
def on4 (s : Nat) : Nat := on3 s + on3 s >>> 8
def on5 (s : Nat) : Nat := on4 s + on4 s >>> 16
def on6 (s : Nat) : Nat := on5 s + on5 s >>> 32
theorem ones_bd : ∀ s : Nat, s < 256 → ((s >>> 1 &&& 6148914691236517205) < 512 ∧ (s &&& 6148914691236517205) < 512 ∧ s >>> 1 < 512) ∧ ((on1 s >>> 2 &&& 3689348814741910323) < 512 ∧ (on1 s &&& 3689348814741910323) < 512 ∧ on1 s >>> 2 < 512 ∧ on1 s < 512) ∧ (on2 s < 512 ∧ on2 s >>> 4 < 512) ∧ (on3 s < 512 ∧ on3 s >>> 8 < 512) ∧ (on4 s < 512 ∧ on4 s >>> 16 < 512) ∧ (on5 s < 512 ∧ on5 s >>> 32 < 512) ∧ on6 s < 512 ∧ (on6 s &&& 127) = bitsN s := by decide +kernel
set_option maxRecDepth 100000 in
theorem ones64_any (s : Nat) (hs : s < 256) (w : World)  : Calls Try.prog 106 #[.int .u64 (s : Int)] w (RetI (bitsN s : Nat) w) := by
  obtain ⟨⟨a1, a2, a3⟩, ⟨b1, b2, b3, b4⟩, ⟨c1, c2⟩, ⟨d1, d2⟩, ⟨e1, e2⟩, ⟨f1, f2⟩, g1, b7⟩ := ones_bd s hs
  refine calls_run (fn := f106) (c := (f106.body).getD .skip) [.int .u64 (s : Int)] func106 (by kernel_rfl) (fun _ => False) [] (fun _ h => by cases h) (List.Pairwise.nil) 35 (by kernel_rfl) (by simp) ?_
  refine run_auto [] 7 [] [] [0, 2, 3] [] (st' := ⟨[(0, .int .u64 (s : Int)), (2, iV 0), (3, .int .u64 (s : Int))], []⟩) (acc := []) (by kernel_rfl) (by kernel_rfl) trivial ?_
  refine run_v (binOp .shr 156 (.int .u64 (s : Nat)) (.int .u64 (1 : Nat)) >>= fun v => pure (Next.value v)) (some 4) (.int .u64 ((s >>> 1 : Nat) : Int)) (by kernel_rfl) (fun w1 k1 h1 => shr_runu s 1 (by omega)) ?_
  refine run_auto [(5, .int .u64 (((s >>> 1 : Nat) &&& 6148914691236517205 : Nat) : Int)), (7, .int .u64 ((s &&& 6148914691236517205 : Nat) : Int)), (8, .int .u64 ((on1 s : Nat) : Int))] 9 [] [] [0, 2, 9] [] (st' := ⟨[(0, .int .u64 ((on1 s : Nat) : Int)), (2, iV 0), (9, .int .u64 ((on1 s : Nat) : Int))], []⟩) (acc := [(.int .u64 (IntKind.u64.wrap ((((s >>> 1 : Nat) &&& 6148914691236517205 : Nat) : Int) + ((s &&& 6148914691236517205 : Nat) : Int))), .int .u64 ((on1 s : Nat) : Int)), (.int .u64 (bits .and .u64 (s : Int) 6148914691236517205), .int .u64 ((s &&& 6148914691236517205 : Nat) : Int)), (.int .u64 (bits .and .u64 ((s >>> 1 : Nat) : Int) 6148914691236517205), .int .u64 (((s >>> 1 : Nat) &&& 6148914691236517205 : Nat) : Int))]) (by kernel_rfl) (by kernel_rfl) ⟨((((uwr (by omega) (by omega)).trans (io (by omega))) : Value.int .u64 (IntKind.u64.wrap ((((s >>> 1 : Nat) &&& 6148914691236517205 : Nat) : Int) + ((s &&& 6148914691236517205 : Nat) : Int))) = .int .u64 ((((s >>> 1 : Nat) &&& 6148914691236517205 : Nat) + (s &&& 6148914691236517205 : Nat) : Nat) : Int)).trans rfl), (and_natu s 6148914691236517205 (by omega) (by omega)), (and_natu (s >>> 1 : Nat) 6148914691236517205 (by omega) (by omega)), trivial⟩ ?_
  refine run_v (binOp .shr 156 (.int .u64 ((on1 s : Nat) : Nat)) (.int .u64 (2 : Nat)) >>= fun v => pure (Next.value v)) (some 10) (.int .u64 (((on1 s : Nat) >>> 2 : Nat) : Int)) (by kernel_rfl) (fun w1 k1 h1 => shr_runu (on1 s : Nat) 2 (by omega)) ?_
  refine run_auto [(11, .int .u64 ((((on1 s : Nat) >>> 2 : Nat) &&& 3689348814741910323 : Nat) : Int)), (13, .int .u64 (((on1 s : Nat) &&& 3689348814741910323 : Nat) : Int)), (14, .int .u64 ((on2 s : Nat) : Int))] 9 [] [] [0, 2, 15] [] (st' := ⟨[(0, .int .u64 ((on2 s : Nat) : Int)), (2, iV 0), (15, .int .u64 ((on2 s : Nat) : Int))], []⟩) (acc := [(.int .u64 (IntKind.u64.wrap (((((on1 s : Nat) >>> 2 : Nat) &&& 3689348814741910323 : Nat) : Int) + (((on1 s : Nat) &&& 3689348814741910323 : Nat) : Int))), .int .u64 ((on2 s : Nat) : Int)), (.int .u64 (bits .and .u64 ((on1 s : Nat) : Int) 3689348814741910323), .int .u64 (((on1 s : Nat) &&& 3689348814741910323 : Nat) : Int)), (.int .u64 (bits .and .u64 (((on1 s : Nat) >>> 2 : Nat) : Int) 3689348814741910323), .int .u64 ((((on1 s : Nat) >>> 2 : Nat) &&& 3689348814741910323 : Nat) : Int))]) (by kernel_rfl) (by kernel_rfl) ⟨((((uwr (by omega) (by omega)).trans (io (by omega))) : Value.int .u64 (IntKind.u64.wrap (((((on1 s : Nat) >>> 2 : Nat) &&& 3689348814741910323 : Nat) : Int) + (((on1 s : Nat) &&& 3689348814741910323 : Nat) : Int))) = .int .u64 (((((on1 s : Nat) >>> 2 : Nat) &&& 3689348814741910323 : Nat) + ((on1 s : Nat) &&& 3689348814741910323 : Nat) : Nat) : Int)).trans rfl), (and_natu (on1 s : Nat) 3689348814741910323 (by omega) (by omega)), (and_natu ((on1 s : Nat) >>> 2 : Nat) 3689348814741910323 (by omega) (by omega)), trivial⟩ ?_
  refine run_v (binOp .shr 156 (.int .u64 ((on2 s : Nat) : Nat)) (.int .u64 (4 : Nat)) >>= fun v => pure (Next.value v)) (some 16) (.int .u64 (((on2 s : Nat) >>> 4 : Nat) : Int)) (by kernel_rfl) (fun w1 k1 h1 => shr_runu (on2 s : Nat) 4 (by omega)) ?_
  refine run_auto [(18, .int .u64 ((((on2 s : Nat) >>> 4 : Nat) + (on2 s : Nat) : Nat) : Int)), (19, .int .u64 ((on3 s : Nat) : Int))] 9 [] [] [0, 2, 20, 21] [] (st' := ⟨[(0, .int .u64 ((on3 s : Nat) : Int)), (2, iV 0), (20, .int .u64 ((on3 s : Nat) : Int)), (21, .int .u64 ((on3 s : Nat) : Int))], []⟩) (acc := [(.int .u64 (bits .and .u64 ((((on2 s : Nat) >>> 4 : Nat) + (on2 s : Nat) : Nat) : Int) 1085102592571150095), .int .u64 ((on3 s : Nat) : Int)), (.int .u64 (IntKind.u64.wrap ((((on2 s : Nat) >>> 4 : Nat) : Int) + ((on2 s : Nat) : Int))), .int .u64 ((((on2 s : Nat) >>> 4 : Nat) + (on2 s : Nat) : Nat) : Int))]) (by kernel_rfl) (by kernel_rfl) ⟨(((and_natu (((on2 s : Nat) >>> 4 : Nat) + (on2 s : Nat) : Nat) 1085102592571150095 (by omega) (by omega)) : Value.int .u64 (bits .and .u64 ((((on2 s : Nat) >>> 4 : Nat) + (on2 s : Nat) : Nat) : Int) 1085102592571150095) = .int .u64 (((((on2 s : Nat) >>> 4 : Nat) + (on2 s : Nat) : Nat) &&& 1085102592571150095 : Nat) : Int)).trans rfl), ((uwr (by omega) (by omega)).trans (io (by omega))), trivial⟩ ?_
  refine run_v (binOp .shr 156 (.int .u64 ((on3 s : Nat) : Nat)) (.int .u64 (8 : Nat)) >>= fun v => pure (Next.value v)) (some 22) (.int .u64 (((on3 s : Nat) >>> 8 : Nat) : Int)) (by kernel_rfl) (fun w1 k1 h1 => shr_runu (on3 s : Nat) 8 (by omega)) ?_
  refine run_auto [(23, .int .u64 ((on4 s : Nat) : Int))] 7 [] [] [0, 2, 24, 25] [] (st' := ⟨[(0, .int .u64 ((on4 s : Nat) : Int)), (2, iV 0), (24, .int .u64 ((on4 s : Nat) : Int)), (25, .int .u64 ((on4 s : Nat) : Int))], []⟩) (acc := [(.int .u64 (IntKind.u64.wrap (((on3 s : Nat) : Int) + (((on3 s : Nat) >>> 8 : Nat) : Int))), .int .u64 ((on4 s : Nat) : Int))]) (by kernel_rfl) (by kernel_rfl) ⟨((((uwr (by omega) (by omega)).trans (io (by omega))) : Value.int .u64 (IntKind.u64.wrap (((on3 s : Nat) : Int) + (((on3 s : Nat) >>> 8 : Nat) : Int))) = .int .u64 (((on3 s : Nat) + ((on3 s : Nat) >>> 8 : Nat) : Nat) : Int)).trans rfl), trivial⟩ ?_
  refine run_v (binOp .shr 156 (.int .u64 ((on4 s : Nat) : Nat)) (.int .u64 (16 : Nat)) >>= fun v => pure (Next.value v)) (some 26) (.int .u64 (((on4 s : Nat) >>> 16 : Nat) : Int)) (by kernel_rfl) (fun w1 k1 h1 => shr_runu (on4 s : Nat) 16 (by omega)) ?_
  refine run_auto [(27, .int .u64 ((on5 s : Nat) : Int))] 7 [] [] [0, 2, 28, 29] [] (st' := ⟨[(0, .int .u64 ((on5 s : Nat) : Int)), (2, iV 0), (28, .int .u64 ((on5 s : Nat) : Int)), (29, .int .u64 ((on5 s : Nat) : Int))], []⟩) (acc := [(.int .u64 (IntKind.u64.wrap (((on4 s : Nat) : Int) + (((on4 s : Nat) >>> 16 : Nat) : Int))), .int .u64 ((on5 s : Nat) : Int))]) (by kernel_rfl) (by kernel_rfl) ⟨((((uwr (by omega) (by omega)).trans (io (by omega))) : Value.int .u64 (IntKind.u64.wrap (((on4 s : Nat) : Int) + (((on4 s : Nat) >>> 16 : Nat) : Int))) = .int .u64 (((on4 s : Nat) + ((on4 s : Nat) >>> 16 : Nat) : Nat) : Int)).trans rfl), trivial⟩ ?_
  refine run_v (binOp .shr 156 (.int .u64 ((on5 s : Nat) : Nat)) (.int .u64 (32 : Nat)) >>= fun v => pure (Next.value v)) (some 30) (.int .u64 (((on5 s : Nat) >>> 32 : Nat) : Int)) (by kernel_rfl) (fun w1 k1 h1 => shr_runu (on5 s : Nat) 32 (by omega)) ?_
  refine run_auto [(31, .int .u64 ((on6 s : Nat) : Int)), (33, iV ((on6 s : Nat) : Int)), (34, iV (((on6 s : Nat) &&& 127 : Nat) : Int))] 10 [] [] [2] [] (st' := ⟨[(2, iV (((on6 s : Nat) &&& 127 : Nat) : Int))], []⟩) (acc := [(iV (bits .and .i64 ((on6 s : Nat) : Int) 127), iV (((on6 s : Nat) &&& 127 : Nat) : Int)), (iV (IntKind.i64.wrap ((on6 s : Nat) : Int)), iV ((on6 s : Nat) : Int)), (.int .u64 (IntKind.u64.wrap (((on5 s : Nat) : Int) + (((on5 s : Nat) >>> 32 : Nat) : Int))), .int .u64 ((on6 s : Nat) : Int))]) (by kernel_rfl) (by kernel_rfl) ⟨(and_nat (on6 s : Nat) 127 (by omega) (by omega)), (wr (by omega) (by omega)), ((((uwr (by omega) (by omega)).trans (io (by omega))) : Value.int .u64 (IntKind.u64.wrap (((on5 s : Nat) : Int) + (((on5 s : Nat) >>> 32 : Nat) : Int))) = .int .u64 (((on5 s : Nat) + ((on5 s : Nat) >>> 32 : Nat) : Nat) : Int)).trans rfl), trivial⟩ ?_
  refine run_end (fn := f106) rfl (Nat.le_refl _) (by kernel_rfl) [] [iV (((on6 s : Nat) &&& 127 : Nat) : Int)] (e := []) (by kernel_rfl) trivial (fun w1 k1 h1 => ?_)
  exact ⟨by rw [b7]; rfl, k1.keeps (fun _ h => h)⟩

set_option maxRecDepth 100000 in
theorem ones_any (s : Nat) (hs : s < 256) (w : World)  : Calls Try.prog 89 #[.int .u64 (s : Int)] w (RetI (bitsN s : Nat) w) := by
  refine calls_run (fn := f89) (c := (f89.body).getD .skip) [.int .u64 (s : Int)] func89 (by kernel_rfl) (fun _ => False) [] (fun _ h => by cases h) (List.Pairwise.nil) 8 (by kernel_rfl) (by simp) ?_
  refine run_auto [] 10 [false] [] [2, 6] [] (st' := ⟨[(2, iV 0), (6, .int .u64 (s : Int))], []⟩) (acc := [(.bool false, .bool false)]) (by kernel_rfl) (by kernel_rfl) ⟨rfl, trivial⟩ ?_
  refine run_ret1 106 #[.int .u64 (s : Int)] (some 7) (iV ((bitsN s : Nat) : Int)) (by kernel_rfl) (fun w1 k1 h1 => ones64_any s (by omega) w1) ?_
  refine run_auto [] 2 [] [] [2] [] (st' := ⟨[(2, iV ((bitsN s : Nat) : Int))], []⟩) (acc := []) (by kernel_rfl) (by kernel_rfl) trivial ?_
  refine run_end (fn := f89) rfl (Nat.le_refl _) (by kernel_rfl) [] [iV ((bitsN s : Nat) : Int)] (e := []) (by kernel_rfl) trivial (fun w1 k1 h1 => ?_)
  exact ⟨rfl, k1.keeps (fun _ h => h)⟩

set_option maxRecDepth 100000 in
theorem size_any (s : Nat) (hs : s < 256) (w : World)  : Calls Try.prog 54 #[.int .i64 (s : Int)] w (RetI (bitsN s : Nat) w) := by
  refine calls_run (fn := f54) (c := (f54.body).getD .skip) [.int .i64 (s : Int)] func54 (by kernel_rfl) (fun _ => False) [] (fun _ h => by cases h) (List.Pairwise.nil) 6 (by kernel_rfl) (by simp) ?_
  refine run_auto [(4, .int .u64 (s : Int))] 8 [] [] [2, 4] [] (st' := ⟨[(2, iV 0), (4, .int .u64 (s : Int))], []⟩) (acc := [(.int .u64 (IntKind.u64.wrap (s : Int)), .int .u64 (s : Int))]) (by kernel_rfl) (by kernel_rfl) ⟨(uwr (by omega) (by omega)), trivial⟩ ?_
  refine run_ret1 89 #[.int .u64 (s : Int)] (some 5) (iV ((bitsN s : Nat) : Int)) (by kernel_rfl) (fun w1 k1 h1 => ones_any s (by omega) w1) ?_
  refine run_auto [] 2 [] [] [2] [] (st' := ⟨[(2, iV ((bitsN s : Nat) : Int))], []⟩) (acc := []) (by kernel_rfl) (by kernel_rfl) trivial ?_
  refine run_end (fn := f54) rfl (Nat.le_refl _) (by kernel_rfl) [] [iV ((bitsN s : Nat) : Int)] (e := []) (by kernel_rfl) trivial (fun w1 k1 h1 => ?_)
  exact ⟨rfl, k1.keeps (fun _ h => h)⟩

set_option maxRecDepth 100000 in
theorem has_any (s n : Nat) (hs : s < 256) (hn : n < 64) (w : World)  : Calls Try.prog 83 #[.int .i64 (s : Int), .int .i64 (n : Int)] w (RetB (s.testBit n) w) := by
  refine calls_run (fn := f83) (c := (f83.body).getD .skip) [.int .i64 (s : Int), .int .i64 (n : Int)] func83 (by kernel_rfl) (fun _ => False) [] (fun _ h => by cases h) (List.Pairwise.nil) 10 (by kernel_rfl) (by simp) ?_
  refine run_auto [] 8 [] [] [4, 5, 6] [] (st' := ⟨[(4, .bool false), (5, iV (s : Int)), (6, iV (n : Int))], []⟩) (acc := []) (by kernel_rfl) (by kernel_rfl) trivial ?_
  refine run_v (binOp .shr 98 (iV (s : Nat)) (iV (n : Nat)) >>= fun v => pure (Next.value v)) (some 7) (iV ((s >>> n : Nat) : Int)) (by kernel_rfl) (fun w1 k1 h1 => shr_run s n (by omega)) ?_
  refine run_auto [(8, iV (((s >>> n : Nat) &&& 1 : Nat) : Int))] 4 [] [] [4] [] (st' := ⟨[(4, .bool ((((s >>> n : Nat) &&& 1 : Nat) : Int) == 1))], []⟩) (acc := [(iV (bits .and .i64 ((s >>> n : Nat) : Int) 1), iV (((s >>> n : Nat) &&& 1 : Nat) : Int))]) (by kernel_rfl) (by kernel_rfl) ⟨(and_nat (s >>> n : Nat) 1 (by have := Nat.shiftRight_le s n; omega) (by have := Nat.shiftRight_le s n; omega)), trivial⟩ ?_
  refine run_end (fn := f83) rfl (Nat.le_refl _) (by kernel_rfl) [] [.bool ((((s >>> n : Nat) &&& 1 : Nat) : Int) == 1)] (e := []) (by kernel_rfl) trivial (fun w1 k1 h1 => ?_)
  exact ⟨by rw [← has_bit]; rfl, k1.keeps (fun _ h => h)⟩


def rdR (r : Rw) : List Value := [.int .i64 r.1, .int .i64 r.2.1, .int .i64 r.2.2.1, .int .i64 r.2.2.2.1, .int .i64 r.2.2.2.2]
theorem rdR_len (r : Rw) : (rdR r).length = 5 := rfl
theorem rdR_one (r : Rw) : ∀ u ∈ rdR r, u.oneCell' = true := by
  intro u hu
  simp only [rdR, List.mem_cons, List.not_mem_nil, or_false] at hu
  rcases hu with rfl | rfl | rfl | rfl | rfl <;> rfl
theorem zC_one : ∀ u ∈ zC, u.oneCell' = true := by
  intro u hu
  simp only [zC, List.mem_cons, List.not_mem_nil, or_false] at hu
  rcases hu with rfl | rfl | rfl | rfl | rfl <;> rfl
theorem elR_at {rs : List Rw} {i : Nat} {x : Rw} (h : rs[i]? = some x) : elR rs i = x := by unfold elR; rw [h]; rfl
theorem Rds.flat {w : World} {a : Option Addr} {rs : List Rw} (h : Rds w a rs) : rs ≠ [] → ∃ b o, a = some ⟨b, o, none⟩ ∧ ∀ j u, (rs.flatMap rdR)[j]? = some u → w.cell? ((⟨b, o, none⟩ : Addr).add j) = some u := by
  intro hx
  obtain ⟨b, o, e, hc⟩ := h hx
  refine ⟨b, o, e, flat_cells rdR_len fun i x hi k u hk => ?_⟩
  have hl := (List.getElem?_eq_some_iff.1 hi).1
  have h5 := hc i hl
  rw [elR_at hi] at h5
  exact c5 h5.1 h5.2.1 h5.2.2.1 h5.2.2.2.1 h5.2.2.2.2 k u hk
/-- Rows of readings that lie at the beginning of a block. -/
theorem Rds.of_row {w : World} {b cap : Nat} {rs : List Rw} {fr : Nat × Nat} (h : w.heap[b]? = some (.cells (rowG rdR zC rs cap).toArray 38 fr)) : Rds w (some ⟨b, 0, none⟩) rs := by
  intro _
  refine ⟨b, 0, rfl, fun i hi => ?_⟩
  have key : ∀ k u, (rdR (elR rs i))[k]? = some u → w.cell? ⟨b, 0 + i * 5 + k, none⟩ = some u := by
    intro k u hk
    refine cells_of_heap h _ _ ?_
    have hk5 : k < 5 := (List.getElem?_eq_some_iff.1 hk).1
    have hd := rowG_drop (z := zC) rdR_len (cap := cap) (Nat.le_of_lt hi)
    have e : (rowG rdR zC rs cap)[0 + i * 5 + k]? = ((rowG rdR zC rs cap).drop (i * 5))[k]? := by rw [List.getElem?_drop, Nat.zero_add]
    rw [e, hd, List.drop_eq_getElem_cons hi, List.flatMap_cons, List.append_assoc, List.getElem?_append_left (by show k < 5; exact hk5)]
    rw [← hk, elR, List.getElem?_eq_getElem hi]
    rfl
  exact ⟨key 0 _ rfl, key 1 _ rfl, key 2 _ rfl, key 3 _ rfl, key 4 _ rfl⟩
theorem rowL_zero (n : Nat) : rowL n (fun _ => zC) = rowG rdR zC [] n := by
  unfold rowL rowG
  have : ∀ l : List Nat, l.flatMap (fun _ => zC) = (List.replicate l.length zC).flatten := by
    intro l
    induction l with
    | nil => rfl
    | cons x l ih => rw [List.flatMap_cons, ih, List.length_cons, List.replicate_succ, List.flatten_cons]
  rw [this, List.length_range]
  rfl
set_option maxRecDepth 100000 in
theorem delete_any (b k cap m : Nat) (L : List Rw) (w : World) (hk : k < L.length) (hm : m + 1 = L.length) (hcap : L.length ≤ cap) (_h8 : cap ≤ 100) (hw : w.heap[b]? = some (.cells (rowG rdR zC (L) (cap)).toArray 38 (0, 0))) : Calls Try.prog 104 #[.slice (some ⟨b, 0, none⟩) L.length cap, .int .i64 (k : Int), .int .i64 ((k + 1 : Nat) : Int)] w (Wr b (.slice (some ⟨b, 0, none⟩) (L.eraseIdx k).length cap) (.cells (rowG rdR zC (L.eraseIdx k) (cap)).toArray 38 (0, 0)) w) := by
  have hne : ((k : Int) == ((k + 1 : Nat) : Int)) = false := by rw [beq_eq_false_iff_ne]; omega
  refine calls_run (fn := f104) (c := (f104.body).getD .skip) [.slice (some ⟨b, 0, none⟩) L.length cap, .int .i64 (k : Int), .int .i64 ((k + 1 : Nat) : Int)] func104 (by kernel_rfl) (fun x => x = b) [(b, .cells (rowG rdR zC (L) (cap)).toArray 38 (0, 0))] (fun p hp => by rcases List.mem_singleton.1 hp with rfl; exact ⟨hw, rfl, rfl⟩) (List.pairwise_singleton _ _) 33 (by kernel_rfl) (by simp) ?_
  refine run_auto [] 11 [] [] [0, 1, 2, 6, 8, 9, 10, 12] [0] (st' := ⟨[(0, sV b L.length cap), (1, iV (k : Int)), (2, iV ((k + 1 : Nat) : Int)), (6, .slice none 0 0), (8, sV b L.length cap), (9, iV (k : Int)), (10, iV ((k + 1 : Nat) : Int)), (12, iV (L.length : Int))], [(b, cO (rowG rdR zC (L) (cap)) 38)]⟩) (acc := []) (by kernel_rfl) (by kernel_rfl) trivial ?_
  refine run_v (Instr.sliceAt 28 (sV b L.length cap) (some (iV (k : Int))) (some (iV ((k + 1 : Nat) : Int))) (some (iV (L.length : Int))) >>= fun v => pure (Next.value v)) (some 13) (.slice (some (cutA b 0 k L.length 5)) ((k + 1 : Nat) - k) (L.length - k)) (by kernel_rfl) (fun w1 k1 h1 => cut_lhm (P := Try.prog) (t := 28) (e := 38) (n := 5) (by kernel_rfl) (by kernel_rfl) b (0) L.length cap w1 .i64 .i64 .i64 k (k + 1 : Nat) L.length (by omega) (by omega) (by omega)) ?_
  refine run_auto [(16, .bool false)] 17 [false] [] [0, 1, 2, 6, 7] [0] (st' := ⟨[(0, sV b L.length cap), (1, iV (k : Int)), (2, iV ((k + 1 : Nat) : Int)), (6, .slice none 0 0), (7, iV (L.length : Int))], [(b, cO (rowG rdR zC (L) (cap)) 38)]⟩) (acc := [(.bool false, .bool false), (.bool ((k : Int) == ((k + 1 : Nat) : Int)), .bool false)]) (by kernel_rfl) (by kernel_rfl) ⟨rfl, (bo hne), trivial⟩ ?_
  refine draw 8 [{ val := fun _ => sV b L.length cap, slots := [0] },
      { val := fun _ => iV (k : Int), slots := [1] },
      { val := fun _ => sV b k cap, slots := [20, 21] },
      { val := fun _ => sV b L.length cap, slots := [0] },
      { val := fun _ => iV ((k + 1 : Nat) : Int), slots := [2] },
      { val := fun _ => .slice (some (cutA b 0 (k + 1 : Nat) cap 5)) (L.length - (k + 1 : Nat)) (cap - (k + 1 : Nat)), slots := [23, 24] },
      { val := fun _ => sV b m cap, upd := [(0, fun _ => cO (delG rdR zC L cap k 5) 38)], slots := [22, 25], reads := [0] },
      { val := fun _ => sV b m cap, slots := [26] }] [[], [], [0, 1], [], [], [3, 4], [0, 1, 2, 3, 4, 5], [0, 1, 2, 3, 4, 5, 6]] (by kernel_rfl) (by kernel_rfl) (by kernel_rfl) (by kernel_rfl) [0, 6, 7] [0] (by kernel_rfl)
      ⟨⟨⟨⟨⟨⟨⟨⟨trivial,
      tri_quiet (fun β => []) [] [] (fun β => []) (by kernel_rfl) (fun β extra => by kernel_rfl) (by kernel_rfl) (fun β => trivial)⟩,
      tri_quiet (fun β => []) [] [] (fun β => []) (by kernel_rfl) (fun β extra => by kernel_rfl) (by kernel_rfl) (fun β => trivial)⟩,
      tri_v (fun β => (Instr.sliceAt 28 (sV b L.length cap) none (some (iV (k : Int))) none >>= fun v => pure (Next.value v))) (by kernel_rfl) (fun β extra => by kernel_rfl) (fun β => by kernel_rfl) (fun β w1 k1 h1 => cut_h (P := Try.prog) (t := 28) (e := 38) (n := 5) (by kernel_rfl) (by kernel_rfl) b (0) L.length cap w1 .i64 k (by omega))⟩,
      tri_quiet (fun β => []) [] [] (fun β => []) (by kernel_rfl) (fun β extra => by kernel_rfl) (by kernel_rfl) (fun β => trivial)⟩,
      tri_quiet (fun β => []) [] [] (fun β => []) (by kernel_rfl) (fun β extra => by kernel_rfl) (by kernel_rfl) (fun β => trivial)⟩,
      tri_v (fun β => (Instr.sliceAt 28 (sV b L.length cap) (some (iV ((k + 1 : Nat) : Int))) none none >>= fun v => pure (Next.value v))) (by kernel_rfl) (fun β extra => by kernel_rfl) (fun β => by kernel_rfl) (fun β w1 k1 h1 => cut_l (P := Try.prog) (t := 28) (e := 38) (n := 5) (by kernel_rfl) (by kernel_rfl) b (0) L.length cap w1 .i64 (k + 1 : Nat) (by omega))⟩,
      tri_upd (fun β => (appSem 28 28 (sV b k cap) (.slice (some (cutA b 0 (k + 1 : Nat) cap 5)) (L.length - (k + 1 : Nat)) (cap - (k + 1 : Nat))))) (fun β => b) (rowG rdR zC (L) (cap)) (delG rdR zC L cap k 5) 38 (by kernel_rfl) (fun β extra => by kernel_rfl) (fun β => by kernel_rfl) (fun β => by kernel_rfl) (fun β w1 k1 h1 => del_app (t := 28) (e := 38) (n := 5) rdR_len rdR_one (by kernel_rfl) (by kernel_rfl) hk hm hcap rfl (h1 (b, cO (rowG rdR zC (L) (cap)) 38) (List.mem_of_getElem? (i := 0) (by kernel_rfl))))⟩,
      tri_quiet (fun β => []) [] [] (fun β => []) (by kernel_rfl) (fun β extra => by kernel_rfl) (by kernel_rfl) (fun β => trivial)⟩
      (fun β => ⟨[(0, sV b m cap), (6, .slice none 0 0), (7, iV (L.length : Int))], [(b, cO (delG rdR zC L cap k 5) 38)]⟩) (fun β => by kernel_rfl) (fun β1 => ?_)
  refine run_auto [] 6 [] [] [0, 6, 27, 29, 30] [0] (st' := ⟨[(0, sV b m cap), (6, .slice none 0 0), (27, sV b m cap), (29, iV (m : Int)), (30, iV (L.length : Int))], [(b, cO (delG rdR zC L cap k 5) 38)]⟩) (acc := []) (by kernel_rfl) (by kernel_rfl) trivial ?_
  refine run_v (Instr.sliceAt 28 (sV b m cap) (some (iV (m : Int))) (some (iV (L.length : Int))) none >>= fun v => pure (Next.value v)) (some 31) (.slice (some ⟨b, m * 5, none⟩) 1 (cap - m)) (by kernel_rfl) (fun w1 k1 h1 => (by have h := cut_lh (P := Try.prog) (t := 28) (e := 38) (n := 5) (by kernel_rfl) (by kernel_rfl) b (0) m cap w1 .i64 .i64 m L.length (by omega) (by omega); rw [show cutA b 0 m cap 5 = ⟨b, m * 5, none⟩ from (by unfold cutA; rw [if_neg (by omega), Nat.zero_add]), show L.length - m = 1 by omega] at h; exact h)) ?_
  refine run_upd (Builtin.clear_ #[28] 0 #[.slice (some ⟨b, m * 5, none⟩) 1 (cap - m)] >>= fun v => pure (Next.value v)) none (.tuple #[]) 0 b (delG rdR zC L cap k 5) (rowG rdR zC (L.eraseIdx k) cap) 38 (by kernel_rfl) (by kernel_rfl) (fun w1 k1 h1 => del_clear (t := 28) (e := 38) (c := rdR) (z := zC) (n := 5) (v := .agg #[iV 0, iV 0, iV 0, iV 0, iV 0]) rdR_len rfl (by kernel_rfl) (fun w => by kernel_rfl) (by kernel_rfl) zC_one hk hm hcap (h1 (b, cO (delG rdR zC L cap k 5) 38) (List.mem_of_getElem? (i := 0) (by kernel_rfl)))) ?_
  refine run_auto [] 6 [] [] [6] [0] (st' := ⟨[(6, sV b m cap)], [(b, cO (rowG rdR zC (L.eraseIdx k) cap) 38)]⟩) (acc := []) (by kernel_rfl) (by kernel_rfl) trivial ?_
  refine run_end (fn := f104) rfl (Nat.le_refl _) (by kernel_rfl) [] [sV b m cap] (e := []) (by kernel_rfl) trivial (fun w1 k1 h1 => ?_)
  exact ⟨by rw [List.length_eraseIdx_of_lt hk, show L.length - 1 = m by omega]; rfl, k1, h1 (b, _) (List.mem_of_getElem? (i := 0) rfl)⟩


/-- The pair with those readings alone of which g is so, in a row at b. -/
def Pr.wo (p : Pr) (g : Nat → Bool) (b : Nat) : Pr := { p with ra := some ⟨b, 0, none⟩, rc := p.rs.length, rs := keptTo g p.rs 0 }
def outB (s : Nat) (i : Nat) : Bool := !s.testBit i
theorem keepL_map (L : List Rw) (g : Nat → Bool) : (keptTo g L 0).map Rw.n = keepL (L.map Rw.n) g := by
  rw [keptTo_zero]
  unfold keepL
  rw [List.zipIdx_map, List.filter_map, List.map_map, List.map_map]
  rfl
theorem Pr.wo_n (p : Pr) (g : Nat → Bool) (b : Nat) : (p.wo g b).n = p.n.keep g := by
  unfold Pr.n Prn.keep
  rw [← keepL_map]
  rfl
theorem elR_mem {rs : List Rw} {k : Nat} (h : k < rs.length) : elR rs k ∈ rs := by
  unfold elR
  rw [List.getElem?_eq_getElem h]
  exact List.getElem_mem h
theorem Pr.Fine.wo {p : Pr} (h : p.Fine) (g : Nat → Bool) (b : Nat) : (p.wo g b).Fine :=
  ⟨h.b1, h.b5, h.bl, h.z, h.zw, h.r, h.rw_, Nat.le_trans (keptTo_len g (Nat.zero_le _)).2 h.r8, fun k hk => by
    obtain ⟨j, hj, e⟩ := List.getElem_of_mem (keptTo_mem (elR_mem (rs := keptTo g p.rs 0) hk))
    have := h.rd j hj
    rw [elR_at (List.getElem?_eq_getElem hj), e] at this
    exact this⟩
theorem Pr.In.wo {p : Pr} {w w' : World} (h : p.In w) (k : Keeps w w') (g : Nat → Bool) {b : Nat} {fr : Nat × Nat} (hb : w'.heap[b]? = some (.cells (rowG rdR zC (keptTo g p.rs 0) p.rs.length).toArray 38 fr)) : (p.wo g b).In w' :=
  ⟨h.bl.keep k, Rds.of_row hb, h.ln, Nat.le_trans (keptTo_len g (Nat.zero_le _)).2 h.lr⟩
set_option maxRecDepth 100000 in
theorem without_any (p : Pr) (s : Nat) (hs : s < 256) (w : World) (hp : p.In w) (hF : p.Fine) : Calls Try.prog 88 #[.agg #[.slice p.ba p.bs.length p.bc, .int .i64 p.zlo, .int .i64 p.zhi, .int .i64 p.rlo, .int .i64 p.rhi, .slice p.ra p.rs.length p.rc], .int .i64 (s : Int)] w (Nw (α := Unit) (fun _ b => (p.wo (outB s) b).v) (fun _ => .cells (rowG rdR zC (keptTo (outB s) p.rs 0) (p.rs.length)).toArray 38 (0, 0)) (fun _ => True) w) := by
  have h8 := hF.r8
  refine calls_run (fn := f88) (c := (f88.body).getD .skip) [.agg #[.slice p.ba p.bs.length p.bc, .int .i64 p.zlo, .int .i64 p.zhi, .int .i64 p.rlo, .int .i64 p.rhi, .slice p.ra p.rs.length p.rc], .int .i64 (s : Int)] func88 (by kernel_rfl) (fun _ => False) [] (fun _ h => by cases h) (List.Pairwise.nil) 34 (by kernel_rfl) (by simp) ?_
  refine run_auto [] 2 [] [] [0, 1] [] (st' := ⟨[(0, .agg #[.slice p.ba p.bs.length p.bc, iV p.zlo, iV p.zhi, iV p.rlo, iV p.rhi, .slice p.ra p.rs.length p.rc]), (1, iV (s : Int))], []⟩) (acc := []) (by kernel_rfl) (by kernel_rfl) trivial ?_
  refine run_new (aO #[.slice p.ba p.bs.length p.bc, iV p.zlo, iV p.zhi, iV p.rlo, iV p.rhi, .slice p.ra p.rs.length p.rc] 30) (fun b1 => pA b1) (some 2) (fun _ => by kernel_rfl) (fun b1 hb1 => ?_)
  refine run_new (aO #[.slice none 0 0, iV 0, iV 0, iV 0, iV 0, .slice none 0 0] 30) (fun b2 => pA b2) (some 4) (fun _ => by kernel_rfl) (fun b2 hb2 => ?_)
  refine run_auto [] 6 [] [1] [1, 2, 4, 9] [0, 1] (st' := ⟨[(1, iV (s : Int)), (2, pA b1), (4, pA b2), (9, iV (p.rs.length : Int))], [(b2, aO #[.slice none 0 0, iV 0, iV 0, iV 0, iV 0, .slice none 0 0] 30), (b1, aO #[.slice p.ba p.bs.length p.bc, iV p.zlo, iV p.zhi, iV p.rlo, iV p.rhi, .slice p.ra p.rs.length p.rc] 30)]⟩) (acc := [(pA b1, pA b1)]) (by kernel_rfl) (by kernel_rfl) ⟨rfl, trivial⟩ ?_
  refine run_mk 28 38 5 (.agg #[iV 0, iV 0, iV 0, iV 0, iV 0]) (by kernel_rfl) (by kernel_rfl) (by kernel_rfl) rfl (by omega) (some 10) (p.rs.length) (by simp only [maxLen]; omega) (by omega) (by rw [show tyBytes _ _ = 40 from by kernel_rfl]; omega) (by kernel_rfl) (fun b3 hb3 => ?_)
  refine run_auto [] 7 [] [2] [1, 2, 4, 5, 11, 13] [0, 1, 2] (st' := ⟨[(1, iV (s : Int)), (2, pA b1), (4, pA b2), (5, sV b3 p.rs.length p.rs.length), (11, sV b3 p.rs.length p.rs.length), (13, .slice p.ra p.rs.length p.rc)], [(b3, cO (rowL (p.rs.length) fun _ => [iV 0, iV 0, iV 0, iV 0, iV 0]) 38), (b2, aO #[.slice none 0 0, iV 0, iV 0, iV 0, iV 0, .slice none 0 0] 30), (b1, aO #[.slice p.ba p.bs.length p.bc, iV p.zlo, iV p.zhi, iV p.rlo, iV p.rhi, .slice p.ra p.rs.length p.rc] 30)]⟩) (acc := [(pA b1, pA b1)]) (by kernel_rfl) (by kernel_rfl) ⟨rfl, trivial⟩ ?_
  rw [show (rowL (p.rs.length) fun _ => [iV 0, iV 0, iV 0, iV 0, iV 0]) = rowG rdR zC [] p.rs.length from rowL_zero p.rs.length]
  refine run_upd (Builtin.copy_ #[28, 28] 3 #[sV b3 p.rs.length p.rs.length, .slice p.ra p.rs.length p.rc] >>= fun v => pure (Next.value v)) (some 14) (iV (p.rs.length : Int)) 0 b3 (rowG rdR zC ([]) (p.rs.length)) (rowG rdR zC (p.rs) (p.rs.length)) 38 (by kernel_rfl) (by kernel_rfl) (fun w1 k1 h1 => copy_run (t := 28) (e := 38) (n := 5) (c := rdR) (z := zC) (by kernel_rfl) rdR_len rdR_one rfl (by kernel_rfl) (h1 (b3, cO (rowG rdR zC ([]) (p.rs.length)) 38) (List.mem_of_getElem? (i := 0) (by kernel_rfl))) ((hp.rd.keep (k1.keeps (fun _ h => h))).flat)) ?_
  refine run_auto [(18, iV ((p.rs.length : Int) - 1))] 11 [] [2] [1, 2, 4, 5, 6] [0, 1, 2] (st' := ⟨[(1, iV (s : Int)), (2, pA b1), (4, pA b2), (5, sV b3 p.rs.length p.rs.length), (6, iV ((p.rs.length : Int) - 1))], [(b3, cO (rowG rdR zC (p.rs) (p.rs.length)) 38), (b2, aO #[.slice none 0 0, iV 0, iV 0, iV 0, iV 0, .slice none 0 0] 30), (b1, aO #[.slice p.ba p.bs.length p.bc, iV p.zlo, iV p.zhi, iV p.rlo, iV p.rhi, .slice p.ra p.rs.length p.rc] 30)]⟩) (acc := [(iV (IntKind.i64.wrap ((p.rs.length : Int) - 1)), iV ((p.rs.length : Int) - 1)), (pA b1, pA b1)]) (by kernel_rfl) (by kernel_rfl) ⟨(wr (by omega) (by omega)), rfl, trivial⟩ ?_
  refine run_auto [] 0 [] [] [1, 2, 4, 5, 6] [0, 1, 2] (st' := ⟨[(1, iV (s : Int)), (2, pA b1), (4, pA b2), (5, sV b3 p.rs.length p.rs.length), (6, iV ((p.rs.length : Int) - 1))], [(b3, cO (rowG rdR zC (p.rs) (p.rs.length)) 38), (b2, aO #[.slice none 0 0, iV 0, iV 0, iV 0, iV 0, .slice none 0 0] 30), (b1, aO #[.slice p.ba p.bs.length p.bc, iV p.zlo, iV p.zhi, iV p.rlo, iV p.rhi, .slice p.ra p.rs.length p.rc] 30)]⟩) (acc := []) (by kernel_rfl) (by kernel_rfl) trivial ?_
  refine run_loop (S := fun (j : Nat) => ⟨[(1, iV (s : Int)), (2, pA b1), (4, pA b2), (5, sV b3 ((keptTo (outB s) p.rs j).length) p.rs.length), (6, iV ((j : Int) - 1))], [(b3, cO (rowG rdR zC (keptTo (outB s) p.rs j) (p.rs.length)) 38), (b2, aO #[.slice none 0 0, iV 0, iV 0, iV 0, iV 0, .slice none 0 0] 30), (b1, aO #[.slice p.ba p.bs.length p.bc, iV p.zlo, iV p.zhi, iV p.rlo, iV p.rhi, .slice p.ra p.rs.length p.rc] 30)]⟩) (fun j => j ≤ p.rs.length) (fun j => j) (p.rs.length) (by kernel_rfl) (Nat.le_refl _) (by rw [keptTo_all]) (fun j hI0 J0 hJ0 => ?_)
  cases hd1 : (decide (0 ≤ ((j : Int) - 1))) with
  | false =>
    have hp1 := of_decide_eq_false hd1
    refine run_auto [(20, .bool false)] 19 [false] [2, 2, 1] [4] [0, 1] (st' := ⟨[(4, pA b2)], [(b3, cO (rowG rdR zC (keptTo (outB s) p.rs j) (p.rs.length)) 38), (b2, aO #[.slice p.ba p.bs.length p.bc, iV p.zlo, iV p.zhi, iV p.rlo, iV p.rhi, sV b3 ((keptTo (outB s) p.rs j).length) p.rs.length] 30)]⟩) (acc := [(pA b2, pA b2), (pA b1, pA b1), (pA b1, pA b1), (.bool false, .bool false), (.bool (decide (0 ≤ ((j : Int) - 1))), .bool false)]) (by kernel_rfl) (by kernel_rfl) ⟨rfl, rfl, rfl, rfl, (bo hd1), trivial⟩ ?_
    refine run_end (fn := f88) rfl (Nat.le_refl _) (by kernel_rfl) [1] [.agg #[.slice p.ba p.bs.length p.bc, iV p.zlo, iV p.zhi, iV p.rlo, iV p.rhi, sV b3 ((keptTo (outB s) p.rs j).length) p.rs.length]] (e := [(pA b2, pA b2)]) (by kernel_rfl) ⟨rfl, trivial⟩ (fun w1 k1 h1 => ?_)
    obtain rfl : j = 0 := by omega
    exact ⟨(), b3, trivial, hb3, rfl, k1.keeps (fun _ h => h), h1 (b3, _) (List.mem_of_getElem? (i := 0) rfl)⟩
  | true =>
    have hp1 := of_decide_eq_true hd1
    obtain ⟨i, rfl⟩ : ∃ i, j = i + 1 := ⟨j - 1, by omega⟩
    have hi : i < p.rs.length := by omega
    have hkl := keptTo_len (outB s) (k := i + 1) hI0
    rw [show (((i + 1 : Nat) : Int) - 1) = (i : Int) by omega]
    have hge : decide (0 ≤ (i : Int)) = true := by simp
    refine run_auto [(20, .bool true)] 14 [true] [] [1, 2, 4, 5, 6, 23, 24] [0, 1, 2] (st' := ⟨[(1, iV (s : Int)), (2, pA b1), (4, pA b2), (5, sV b3 ((keptTo (outB s) p.rs (i + 1)).length) p.rs.length), (6, iV (i : Int)), (23, iV (s : Int)), (24, iV (i : Int))], [(b3, cO (rowG rdR zC (keptTo (outB s) p.rs (i + 1)) (p.rs.length)) 38), (b2, aO #[.slice none 0 0, iV 0, iV 0, iV 0, iV 0, .slice none 0 0] 30), (b1, aO #[.slice p.ba p.bs.length p.bc, iV p.zlo, iV p.zhi, iV p.rlo, iV p.rhi, .slice p.ra p.rs.length p.rc] 30)]⟩) (acc := [(.bool true, .bool true), (.bool (decide (0 ≤ (i : Int))), .bool true)]) (by kernel_rfl) (by kernel_rfl) ⟨rfl, (bo hge), trivial⟩ ?_
    cases hd2 : (s.testBit i) with
    | false =>
      refine run_ret1 83 #[iV (s : Int), iV (i : Int)] (some 25) (.bool false) (by kernel_rfl) (fun w1 k1 h1 => (by have h := has_any s i (by omega) (by omega) w1; rw [hd2] at h; exact h)) ?_
      refine run_auto [(22, iV ((i : Int) - 1))] 9 [false] [] [1, 2, 4, 5, 6] [0, 1, 2] (st' := ⟨[(1, iV (s : Int)), (2, pA b1), (4, pA b2), (5, sV b3 ((keptTo (outB s) p.rs (i + 1)).length) p.rs.length), (6, iV ((i : Int) - 1))], [(b3, cO (rowG rdR zC (keptTo (outB s) p.rs (i + 1)) (p.rs.length)) 38), (b2, aO #[.slice none 0 0, iV 0, iV 0, iV 0, iV 0, .slice none 0 0] 30), (b1, aO #[.slice p.ba p.bs.length p.bc, iV p.zlo, iV p.zhi, iV p.rlo, iV p.rhi, .slice p.ra p.rs.length p.rc] 30)]⟩) (acc := [(iV (IntKind.i64.wrap ((i : Int) - 1)), iV ((i : Int) - 1)), (.bool false, .bool false)]) (by kernel_rfl) (by kernel_rfl) ⟨(wr (by omega) (by omega)), rfl, trivial⟩ ?_
      rw [show keptTo (outB s) p.rs (i + 1) = keptTo (outB s) p.rs i from keptTo_in hi (by unfold outB; rw [hd2]; rfl)]
      exact run_round (by kernel_rfl) (hJ0 (i) (by omega) (by omega))
    | true =>
      refine run_ret1 83 #[iV (s : Int), iV (i : Int)] (some 25) (.bool true) (by kernel_rfl) (fun w1 k1 h1 => (by have h := has_any s i (by omega) (by omega) w1; rw [hd2] at h; exact h)) ?_
      refine run_auto [(29, iV ((i + 1 : Nat) : Int))] 7 [true] [] [1, 2, 4, 5, 6, 26, 27, 29] [0, 1, 2] (st' := ⟨[(1, iV (s : Int)), (2, pA b1), (4, pA b2), (5, sV b3 ((keptTo (outB s) p.rs (i + 1)).length) p.rs.length), (6, iV (i : Int)), (26, sV b3 ((keptTo (outB s) p.rs (i + 1)).length) p.rs.length), (27, iV (i : Int)), (29, iV ((i + 1 : Nat) : Int))], [(b3, cO (rowG rdR zC (keptTo (outB s) p.rs (i + 1)) (p.rs.length)) 38), (b2, aO #[.slice none 0 0, iV 0, iV 0, iV 0, iV 0, .slice none 0 0] 30), (b1, aO #[.slice p.ba p.bs.length p.bc, iV p.zlo, iV p.zhi, iV p.rlo, iV p.rhi, .slice p.ra p.rs.length p.rc] 30)]⟩) (acc := [(iV (IntKind.i64.wrap ((i : Int) + 1)), iV ((i + 1 : Nat) : Int)), (.bool true, .bool true)]) (by kernel_rfl) (by kernel_rfl) ⟨(wr (by omega) (by omega)), rfl, trivial⟩ ?_
      refine run_wr 104 #[sV b3 ((keptTo (outB s) p.rs (i + 1)).length) p.rs.length, iV (i : Int), iV ((i + 1 : Nat) : Int)] (some 30) (sV b3 (((keptTo (outB s) p.rs (i + 1)).eraseIdx i).length) p.rs.length) 0 b3 (cO (rowG rdR zC (keptTo (outB s) p.rs (i + 1)) (p.rs.length)) 38) (cO (rowG rdR zC ((keptTo (outB s) p.rs (i + 1)).eraseIdx i) (p.rs.length)) 38) (by kernel_rfl) (by kernel_rfl) (by kernel_rfl) (fun w1 k1 h1 => delete_any b3 i p.rs.length ((keptTo (outB s) p.rs (i + 1)).length - 1) (keptTo (outB s) p.rs (i + 1)) w1 (by omega) (by omega) (by omega) (by omega) (h1 (b3, cO (rowG rdR zC (keptTo (outB s) p.rs (i + 1)) (p.rs.length)) 38) (List.mem_of_getElem? (i := 0) (by kernel_rfl)))) ?_
      refine run_auto [(22, iV ((i : Int) - 1))] 8 [] [] [1, 2, 4, 5, 6] [0, 1, 2] (st' := ⟨[(1, iV (s : Int)), (2, pA b1), (4, pA b2), (5, sV b3 (((keptTo (outB s) p.rs (i + 1)).eraseIdx i).length) p.rs.length), (6, iV ((i : Int) - 1))], [(b3, cO (rowG rdR zC ((keptTo (outB s) p.rs (i + 1)).eraseIdx i) (p.rs.length)) 38), (b2, aO #[.slice none 0 0, iV 0, iV 0, iV 0, iV 0, .slice none 0 0] 30), (b1, aO #[.slice p.ba p.bs.length p.bc, iV p.zlo, iV p.zhi, iV p.rlo, iV p.rhi, .slice p.ra p.rs.length p.rc] 30)]⟩) (acc := [(iV (IntKind.i64.wrap ((i : Int) - 1)), iV ((i : Int) - 1))]) (by kernel_rfl) (by kernel_rfl) ⟨(wr (by omega) (by omega)), trivial⟩ ?_
      rw [show (keptTo (outB s) p.rs (i + 1)).eraseIdx i = keptTo (outB s) p.rs i from keptTo_out hi (by unfold outB; rw [hd2]; rfl)]
      exact run_round (by kernel_rfl) (hJ0 (i) (by omega) (by omega))

end Go.Proofs.Ythnhcacoegmdfaa

namespace Go.Proofs.Ythnhcacoegmdfaa
open Go.RowKit Go.Proofs.Try


def sv (s : Nat) : List Value := [.int .i64 (s : Int)]
/-- The sets that come before the j-th of size i. -/
def preS (n i j : Nat) : List Nat := (List.range i).flatMap (fun size => (List.range (2 ^ n)).filter fun s => bitsN s == size) ++ (List.range j).filter fun s => bitsN s == i
theorem preS_yes {n i j : Nat} (h : bitsN j = i) : preS n i j ++ [j] = preS n i (j + 1) := by
  unfold preS
  rw [List.append_assoc, List.range_succ, List.filter_append]
  simp [h]
theorem preS_no {n i j : Nat} (h : bitsN j ≠ i) : preS n i j = preS n i (j + 1) := by
  unfold preS
  rw [List.range_succ, List.filter_append]
  simp [h]
theorem preS_row (n i : Nat) : preS n i (2 ^ n) = preS n (i + 1) 0 := by
  unfold preS
  rw [List.range_succ, List.flatMap_append]
  simp
theorem preS_all (n : Nat) : preS n (n + 1) 0 = setsL n := by
  unfold preS setsL
  simp
theorem preS_in {n i j : Nat} (hi : i < n + 1) (hj : j < 2 ^ n) (h : bitsN j = i) : preS n i j ++ [j] <+: setsL n := by
  rw [preS_yes h]
  have e1 : preS n i (2 ^ n) <+: setsL n := by
    rw [preS_row, ← preS_all]
    unfold preS
    simp only [List.range_zero, List.filter_nil, List.append_nil]
    obtain ⟨d, hd⟩ : ∃ d, n + 1 = (i + 1) + d := ⟨n - i, by omega⟩
    have e : List.range (n + 1) = List.range (i + 1) ++ (List.range d).map (i + 1 + ·) := by rw [hd, List.range_add]
    rw [e, List.flatMap_append]
    exact List.prefix_append _ _
  refine List.IsPrefix.trans ?_ e1
  unfold preS
  rw [List.prefix_append_right_inj]
  obtain ⟨d, hd⟩ : ∃ d, 2 ^ n = (j + 1) + d := ⟨2 ^ n - (j + 1), by omega⟩
  have e : List.range (2 ^ n) = List.range (j + 1) ++ (List.range d).map (j + 1 + ·) := by rw [hd, List.range_add]
  rw [e, List.filter_append]
  exact List.prefix_append _ _
set_option maxRecDepth 100000 in
theorem setsBySize_any (n : Nat) (w : World)  : Calls Try.prog 103 #[.int .i64 (n : Int)] w (Nw (α := Unit) (fun _ b => .func (.func 110) #[] #[.pointer (some ⟨b, 0, none⟩)]) (fun _ => .cells #[.int .i64 (n : Int)] 3 (0, 0)) (fun _ => True) w) := by
  refine calls_run (fn := f103) (c := (f103.body).getD .skip) [.int .i64 (n : Int)] func103 (by kernel_rfl) (fun _ => False) [] (fun _ h => by cases h) (List.Pairwise.nil) 4 (by kernel_rfl) (by simp) ?_
  refine run_auto [] 2 [] [] [0] [] (st' := ⟨[(0, iV (n : Int))], []⟩) (acc := []) (by kernel_rfl) (by kernel_rfl) trivial ?_
  refine run_new (aO #[iV (n : Int)] 3) (fun b1 => pA b1) (some 1) (fun _ => by kernel_rfl) (fun b1 hb1 => ?_)
  refine run_auto [] 7 [] [] [2] [0] (st' := ⟨[(2, .func (.func 110) #[] #[pA b1])], [(b1, aO #[iV (n : Int)] 3)]⟩) (acc := []) (by kernel_rfl) (by kernel_rfl) trivial ?_
  refine run_end (fn := f103) rfl (Nat.le_refl _) (by kernel_rfl) [] [.func (.func 110) #[] #[pA b1]] (e := []) (by kernel_rfl) trivial (fun w1 k1 h1 => ?_)
  exact ⟨(), b1, trivial, hb1, rfl, k1.keeps (fun _ h => h), h1 (b1, _) (List.mem_of_getElem? (i := 0) rfl)⟩

set_option maxRecDepth 100000 in
theorem sets_give (n b : Nat) (hn8 : n ≤ 8) : Gives Try.prog 110 #[.pointer (some ⟨b, 0, none⟩)] [(b, .cells #[.int .i64 (n : Int)] 3 (0, 0))] (fun _ _ => True) (fun l => l <+: (setsL n).map sv) (fun l => l = (setsL n).map sv) := by
  intro l J Jx E0 w hE0 hst hJw hown hdis hin hy
  have hb := hown _ (List.mem_singleton.2 rfl)
  have hnd := hdis _ (List.mem_singleton.2 rfl)
  have hp2 := pow_le5 hn8
  have hp1 := Nat.one_le_two_pow (n := n)
  refine calls_runE (fn := f110) (c := (f110.body).getD .skip) [.func (.yield l) #[] #[], .pointer (some ⟨b, 0, none⟩)] func110 (by kernel_rfl) E0 hE0 hJw 27 (by kernel_rfl) (by simp) ?_
  refine run_auto [] 2 [] [] [0, 1] [] (st' := ⟨[(0, .func (.yield l) #[] #[]), (1, .pointer (some ⟨b, 0, none⟩))], []⟩) (acc := []) (by kernel_rfl) (by kernel_rfl) trivial ?_
  refine run_v (Instr.loadAt 3 (.pointer (some ⟨b, 0, none⟩)) >>= fun v => pure (Next.value v)) (some 5) (.int .i64 (n : Int)) (by kernel_rfl) (fun w1 k1 h1 => load_in (base := 0) (off := 0) k1 hnd [.int .i64 (n : Int)] (fun i u hi => by rw [Nat.zero_add]; exact cells_of_heap hb i u hi) (by kernel_rfl)) ?_
  refine run_auto [(6, .int .i64 ((n + 1 : Nat) : Int))] 4 [] [] [0, 1, 6, 7] [] (st' := ⟨[(0, .func (.yield l) #[] #[]), (1, .pointer (some ⟨b, 0, none⟩)), (6, .int .i64 ((n + 1 : Nat) : Int)), (7, .int .i64 0)], []⟩) (acc := [(.int .i64 (IntKind.i64.wrap ((n : Int) + 1)), .int .i64 ((n + 1 : Nat) : Int))]) (by kernel_rfl) (by kernel_rfl) ⟨(wr (by omega) (by omega)), trivial⟩ ?_
  refine run_auto [] 0 [] [] [0, 1, 6, 7] [] (st' := ⟨[(0, .func (.yield l) #[] #[]), (1, .pointer (some ⟨b, 0, none⟩)), (6, .int .i64 ((n + 1 : Nat) : Int)), (7, .int .i64 0)], []⟩) (acc := []) (by kernel_rfl) (by kernel_rfl) trivial ?_
  refine run_loopE (σ := Nat × Ext) (S := fun (x : Nat × Ext) => ⟨[(0, .func (.yield l) #[] #[]), (1, .pointer (some ⟨b, 0, none⟩)), (6, .int .i64 ((n + 1 : Nat) : Int)), (7, .int .i64 (x.1 : Int))], []⟩) (fun (x : Nat × Ext) => x.2) (fun (x : Nat × Ext) => x.1 ≤ n + 1 ∧ J ((preS n x.1 0).map sv) x.2 ∧ x.2.n0 = E0.n0 ∧ (∀ b, b < w.heap.size → x.2.D b → E0.D b)) (fun (x : Nat × Ext) => n + 1 - x.1) ((0, E0)) (by kernel_rfl) (⟨Nat.zero_le _, hst, rfl, (fun _ _ h => h)⟩) (by kernel_rfl) rfl (fun x hI0 J0 hJ0 => ?_)
  obtain ⟨i, Ea⟩ := x
  obtain ⟨hl0, hJEa, hnEa, hsEa⟩ := hI0
  dsimp only at hl0 hJEa hnEa hsEa hJ0
  cases hd1 : (decide ((i : Int) < ((n + 1 : Nat) : Int))) with
  | false =>
    have hp1 := of_decide_eq_false hd1
    refine run_auto [(8, .bool false)] 7 [false] [] [] [] (st' := ⟨[], []⟩) (acc := [(.bool false, .bool false), (.bool (decide ((i : Int) < ((n + 1 : Nat) : Int))), .bool false)]) (by kernel_rfl) (by kernel_rfl) ⟨rfl, (bo hd1), trivial⟩ ?_
    refine run_endE (fn := f110) rfl (Nat.le_refl _) (by kernel_rfl) [] [] (e := []) (by kernel_rfl) trivial (fun w1 k1 h1 hE1 => ?_)
    exact ⟨rfl, Ea, hnEa, hE1, .inl ⟨_, rfl, by have h := hJEa; rw [show i = n + 1 by omega, preS_all] at h; exact h⟩⟩
  | true =>
    have hp1 := of_decide_eq_true hd1
    refine run_auto [(8, .bool true)] 19 [true] [] [0, 1, 6, 7, 3, 4] [] (st' := ⟨[(0, .func (.yield l) #[] #[]), (1, .pointer (some ⟨b, 0, none⟩)), (6, .int .i64 ((n + 1 : Nat) : Int)), (7, .int .i64 (i : Int)), (3, .int .i64 (i : Int)), (4, .int .i64 0)], []⟩) (acc := [(.bool true, .bool true), (.bool (decide ((i : Int) < ((n + 1 : Nat) : Int))), .bool true)]) (by kernel_rfl) (by kernel_rfl) ⟨rfl, (bo hd1), trivial⟩ ?_
    refine run_auto [] 0 [] [] [0, 1, 6, 7, 3, 4] [] (st' := ⟨[(0, .func (.yield l) #[] #[]), (1, .pointer (some ⟨b, 0, none⟩)), (6, .int .i64 ((n + 1 : Nat) : Int)), (7, .int .i64 (i : Int)), (3, .int .i64 (i : Int)), (4, .int .i64 0)], []⟩) (acc := []) (by kernel_rfl) (by kernel_rfl) trivial ?_
    refine run_loopE (σ := Nat × Ext) (S := fun (y : Nat × Ext) => ⟨[(0, .func (.yield l) #[] #[]), (1, .pointer (some ⟨b, 0, none⟩)), (6, .int .i64 ((n + 1 : Nat) : Int)), (7, .int .i64 (i : Int)), (3, .int .i64 (i : Int)), (4, .int .i64 (y.1 : Int))], []⟩) (fun (y : Nat × Ext) => y.2) (fun (y : Nat × Ext) => y.1 ≤ 2 ^ n ∧ J ((preS n i y.1).map sv) y.2 ∧ y.2.n0 = E0.n0 ∧ (∀ b, b < w.heap.size → y.2.D b → E0.D b)) (fun (y : Nat × Ext) => 2 ^ n - y.1) ((0, Ea)) (by kernel_rfl) (⟨Nat.zero_le _, hJEa, hnEa, hsEa⟩) (by kernel_rfl) rfl (fun y hI1 J1 hJ1 => ?_)
    obtain ⟨j, Eb⟩ := y
    obtain ⟨hl1, hJEb, hnEb, hsEb⟩ := hI1
    dsimp only at hl1 hJEb hnEb hsEb hJ1
    refine run_auto [] 4 [] [] [0, 1, 6, 7, 3, 4, 10] [] (st' := ⟨[(0, .func (.yield l) #[] #[]), (1, .pointer (some ⟨b, 0, none⟩)), (6, .int .i64 ((n + 1 : Nat) : Int)), (7, .int .i64 (i : Int)), (3, .int .i64 (i : Int)), (4, .int .i64 (j : Int)), (10, .int .i64 (j : Int))], []⟩) (acc := []) (by kernel_rfl) (by kernel_rfl) trivial ?_
    refine run_v (Instr.loadAt 3 (.pointer (some ⟨b, 0, none⟩)) >>= fun v => pure (Next.value v)) (some 11) (.int .i64 (n : Int)) (by kernel_rfl) (fun w1 k1 h1 => load_in (base := 0) (off := 0) k1 hnd [.int .i64 (n : Int)] (fun i u hi => by rw [Nat.zero_add]; exact cells_of_heap hb i u hi) (by kernel_rfl)) ?_
    refine run_ret1 90 #[.int .i64 (n : Int)] (some 12) (.int .i64 ((2 ^ n - 1 : Nat) : Int)) (by kernel_rfl) (fun w1 k1 h1 => fullSet_any n (by omega) w1) ?_
    cases hd2 : (decide ((j : Int) ≤ ((2 ^ n - 1 : Nat) : Int))) with
    | false =>
      have hp2 := of_decide_eq_false hd2
      have hjn : j = 2 ^ n := by omega
      refine run_auto [(13, .bool false), (26, .int .i64 ((i + 1 : Nat) : Int))] 9 [false] [] [0, 1, 6, 7] [] (st' := ⟨[(0, .func (.yield l) #[] #[]), (1, .pointer (some ⟨b, 0, none⟩)), (6, .int .i64 ((n + 1 : Nat) : Int)), (7, .int .i64 ((i + 1 : Nat) : Int))], []⟩) (acc := [(.int .i64 (IntKind.i64.wrap ((i : Int) + 1)), .int .i64 ((i + 1 : Nat) : Int)), (.bool false, .bool false), (.bool (decide ((j : Int) ≤ ((2 ^ n - 1 : Nat) : Int))), .bool false)]) (by kernel_rfl) (by kernel_rfl) ⟨(wr (by omega) (by omega)), rfl, (bo hd2), trivial⟩ ?_
      exact run_round (by kernel_rfl) (hJ0 ((i + 1, Eb)) (⟨by dsimp only; omega, by have h := hJEb; rw [show j = 2 ^ n by omega, preS_row] at h; exact h, hnEb, hsEb⟩) (by dsimp only; omega))
    | true =>
      have hp2 := of_decide_eq_true hd2
      have hjn : j < 2 ^ n := by omega
      refine run_auto [(13, .bool true)] 9 [true] [] [0, 1, 6, 7, 3, 4, 16] [] (st' := ⟨[(0, .func (.yield l) #[] #[]), (1, .pointer (some ⟨b, 0, none⟩)), (6, .int .i64 ((n + 1 : Nat) : Int)), (7, .int .i64 (i : Int)), (3, .int .i64 (i : Int)), (4, .int .i64 (j : Int)), (16, .int .i64 (j : Int))], []⟩) (acc := [(.bool true, .bool true), (.bool (decide ((j : Int) ≤ ((2 ^ n - 1 : Nat) : Int))), .bool true)]) (by kernel_rfl) (by kernel_rfl) ⟨rfl, (bo hd2), trivial⟩ ?_
      refine run_ret1 54 #[.int .i64 (j : Int)] (some 17) (.int .i64 ((bitsN j : Nat) : Int)) (by kernel_rfl) (fun w1 k1 h1 => size_any j (by omega) w1) ?_
      cases hd3 : (((bitsN j : Nat) : Int) == (i : Int)) with
      | false =>
        have hp3 : ¬ ((bitsN j : Nat) : Int) = (i : Int) := by simpa using hd3
        have hsz : bitsN j ≠ i := by omega
        refine run_auto [(19, .bool false), (15, .int .i64 ((j + 1 : Nat) : Int))] 17 [false] [] [0, 1, 6, 7, 3, 4] [] (st' := ⟨[(0, .func (.yield l) #[] #[]), (1, .pointer (some ⟨b, 0, none⟩)), (6, .int .i64 ((n + 1 : Nat) : Int)), (7, .int .i64 (i : Int)), (3, .int .i64 (i : Int)), (4, .int .i64 ((j + 1 : Nat) : Int))], []⟩) (acc := [(.int .i64 (IntKind.i64.wrap ((j : Int) + 1)), .int .i64 ((j + 1 : Nat) : Int)), (.bool false, .bool false), (.bool (((bitsN j : Nat) : Int) == (i : Int)), .bool false)]) (by kernel_rfl) (by kernel_rfl) ⟨(wr (by omega) (by omega)), rfl, (bo hd3), trivial⟩ ?_
        exact run_round (by kernel_rfl) (hJ1 ((j + 1, Eb)) (⟨by dsimp only; omega, (by have h := hJEb; rw [preS_no hsz] at h; exact h), hnEb, hsEb⟩) (by dsimp only; omega))
      | true =>
        have hp3 : ((bitsN j : Nat) : Int) = (i : Int) := by simpa using hd3
        have hsz : bitsN j = i := by omega
        refine run_auto [(19, .bool true)] 5 [] [] [0, 1, 6, 7, 3, 4, 20, 21, 22] [] (st' := ⟨[(0, .func (.yield l) #[] #[]), (1, .pointer (some ⟨b, 0, none⟩)), (6, .int .i64 ((n + 1 : Nat) : Int)), (7, .int .i64 (i : Int)), (3, .int .i64 (i : Int)), (4, .int .i64 (j : Int)), (20, .bool true), (21, .func (.yield l) #[] #[]), (22, .int .i64 (j : Int))], []⟩) (acc := [(.bool (((bitsN j : Nat) : Int) == (i : Int)), .bool true)]) (by kernel_rfl) (by kernel_rfl) ⟨(bo hd3), trivial⟩ ?_
        have hpre : (preS n i j).map sv ++ [sv j] <+: (setsL n).map sv := by
          have h := List.IsPrefix.map sv (preS_in (n := n) (by omega) hjn hsz)
          rwa [List.map_append] at h
        refine run_yield l #[.int .i64 (j : Int)] (some 23) (by kernel_rfl) hsEb (Yt (J ((preS n i j).map sv ++ [sv j])) Jx) (fun w1 hJ1 k1 => Ygives.out (Ygives.of (E := Eb) (hy _ (sv j) Eb w1 hpre hJEb hnEb hJ1) hnEb)) (fun E3 t hok hn3 hs3 => ?_)
        have hs4 : ∀ b, b < w.heap.size → E3.D b → E0.D b := fun b hb h => (hs3 b h).elim (hsEb b hb) (fun h => absurd hb (Nat.not_lt.2 h))
        cases hd4 : t with
        | false =>
          rw [hd4] at hok
          dsimp only [Yt] at hok
          refine run_auto [(24, .bool true)] 4 [true] [] [0, 1, 6, 7, 3, 4] [] (st' := ⟨[(0, .func (.yield l) #[] #[]), (1, .pointer (some ⟨b, 0, none⟩)), (6, .int .i64 ((n + 1 : Nat) : Int)), (7, .int .i64 (i : Int)), (3, .int .i64 (i : Int)), (4, .int .i64 (j : Int))], []⟩) (acc := [(.bool true, .bool true), (.bool true, .bool true)]) (by kernel_rfl) (by kernel_rfl) ⟨rfl, rfl, trivial⟩ ?_
          refine run_endE (fn := f110) rfl (Nat.le_refl _) (by kernel_rfl) [] [] (e := []) (by kernel_rfl) trivial (fun w1 k1 h1 hE1 => ?_)
          exact ⟨rfl, E3, hn3.trans hnEb, hE1, .inr hok⟩
        | true =>
          rw [hd4] at hok
          dsimp only [Yt] at hok
          refine run_auto [(24, .bool false), (15, .int .i64 ((j + 1 : Nat) : Int))] 11 [false] [] [0, 1, 6, 7, 3, 4] [] (st' := ⟨[(0, .func (.yield l) #[] #[]), (1, .pointer (some ⟨b, 0, none⟩)), (6, .int .i64 ((n + 1 : Nat) : Int)), (7, .int .i64 (i : Int)), (3, .int .i64 (i : Int)), (4, .int .i64 ((j + 1 : Nat) : Int))], []⟩) (acc := [(.int .i64 (IntKind.i64.wrap ((j : Int) + 1)), .int .i64 ((j + 1 : Nat) : Int)), (.bool false, .bool false), (.bool false, .bool false)]) (by kernel_rfl) (by kernel_rfl) ⟨(wr (by omega) (by omega)), rfl, rfl, trivial⟩ ?_
          exact run_round (by kernel_rfl) (hJ1 ((j + 1, E3)) (⟨by dsimp only; omega, (by have h := hok; rw [show (preS n i j).map sv ++ [sv j] = (preS n i (j + 1)).map sv from by rw [← preS_yes hsz, List.map_append]; rfl] at h; exact h), (hn3.trans hnEb), hs4⟩) (by dsimp only; omega))

def inB (s : Nat) (i : Nat) : Bool := s.testBit i
theorem set_in {n : Nat} {s : Nat} (hn : n ≤ 8) (h : s ∈ setsL n) : s < 2 ^ n := (mem_setsL hn).1 h
theorem fewest_stop {n : Nat} {so : Nat → Bool} {P : List Nat} {s : Nat} (hP : ∀ x ∈ P, so x = false) (hs : so s = true) (hpre : P ++ [s] <+: setsL n) : fewestL n so = s := by
  obtain ⟨t, ht⟩ := hpre
  unfold fewestL
  rw [← ht, List.append_assoc, List.find?_append, List.find?_eq_none.2 (fun x hx => by rw [hP x hx]; simp)]
  simp [hs]
theorem fewest_none {n : Nat} {so : Nat → Bool} (hP : ∀ x ∈ setsL n, so x = false) : fewestL n so = 2 ^ n - 1 := by
  unfold fewestL
  rw [List.find?_eq_none.2 (fun x hx => by rw [hP x hx]; simp)]
  rfl
theorem sv_next {n : Nat} {P : List Nat} {x : List Value} (hP : P <+: setsL n) (h : P.map sv ++ [x] <+: (setsL n).map sv) : ∃ s, x = sv s ∧ P ++ [s] <+: setsL n := by
  obtain ⟨r, hr⟩ := hP
  obtain ⟨t, ht⟩ := h
  rw [← hr, List.map_append, List.append_assoc] at ht
  have ht := List.append_cancel_left ht
  cases r with
  | nil => simp at ht
  | cons k r =>
    simp at ht
    exact ⟨k, ht.1, r, by rw [← hr]; simp⟩
theorem sv_done {n : Nat} {P : List Nat} (hP : P <+: setsL n) (h : (setsL n).map sv = P.map sv) : P = setsL n := by
  have hl := congrArg List.length h
  rw [List.length_map, List.length_map] at hl
  exact hP.eq_of_length hl.symm
set_option maxRecDepth 100000 in
theorem wrong1_any (p : Pr) (bp s : Nat) (hs : s < 256) (w : World) (hp : p.In w) (hF : p.Fine) (hbp : w.heap[bp]? = some (.cells #[.slice p.ba p.bs.length p.bc, .int .i64 p.zlo, .int .i64 p.zhi, .int .i64 p.rlo, .int .i64 p.rhi, .slice p.ra p.rs.length p.rc] 30 (0, 0))) : Calls Try.prog 86 #[.int .i64 (s : Int), .pointer (some ⟨bp, 0, none⟩)] w (RetB (p.n.keep (outB s)).agreeB w) := by
  refine calls_run (fn := f86) (c := (f86.body).getD .skip) [.int .i64 (s : Int), .pointer (some ⟨bp, 0, none⟩)] func86 (by kernel_rfl) (fun _ => False) [] (fun _ h => by cases h) (List.Pairwise.nil) 8 (by kernel_rfl) (by simp) ?_
  refine run_auto [] 6 [] [] [0, 1, 3] [] (st' := ⟨[(0, iV (s : Int)), (1, pA bp), (3, .bool false)], []⟩) (acc := []) (by kernel_rfl) (by kernel_rfl) trivial ?_
  refine run_v (Instr.loadAt 30 (pA bp) >>= fun v => pure (Next.value v)) (some 4) (.agg #[.slice p.ba p.bs.length p.bc, iV p.zlo, iV p.zhi, iV p.rlo, iV p.rhi, .slice p.ra p.rs.length p.rc]) (by kernel_rfl) (fun w1 k1 h1 => load_in (base := 0) (off := 0) k1 (fun h => h) [.slice p.ba p.bs.length p.bc, iV p.zlo, iV p.zhi, iV p.rlo, iV p.rhi, .slice p.ra p.rs.length p.rc] (fun i u hi => by rw [Nat.zero_add]; exact cells_of_heap hbp i u hi) (by kernel_rfl)) ?_
  refine run_auto [] 1 [] [] [3, 4, 5] [] (st' := ⟨[(3, .bool false), (4, .agg #[.slice p.ba p.bs.length p.bc, iV p.zlo, iV p.zhi, iV p.rlo, iV p.rhi, .slice p.ra p.rs.length p.rc]), (5, iV (s : Int))], []⟩) (acc := []) (by kernel_rfl) (by kernel_rfl) trivial ?_
  refine run_nw 88 #[.agg #[.slice p.ba p.bs.length p.bc, iV p.zlo, iV p.zhi, iV p.rlo, iV p.rhi, .slice p.ra p.rs.length p.rc], iV (s : Int)] (some 6) (α := Unit) (fun _u b1 => .agg #[.slice p.ba p.bs.length p.bc, iV p.zlo, iV p.zhi, iV p.rlo, iV p.rhi, sV b1 ((keptTo (outB s) p.rs 0).length) p.rs.length]) (fun _u => cO (rowG rdR zC (keptTo (outB s) p.rs 0) (p.rs.length)) 38) (fun _u => True) (by kernel_rfl) (fun _ => rfl) (fun w1 k1 h1 => without_any p s (by omega) w1 (hp.keep (k1.keeps (fun _ h => h))) hF) (fun _u b1 hIb1 hb1 => ?_)
  cases hd1 : ((p.n.keep (outB s)).agreeB) with
  | false =>
    refine run_ret1 87 #[.agg #[.slice p.ba p.bs.length p.bc, iV p.zlo, iV p.zhi, iV p.rlo, iV p.rhi, sV b1 ((keptTo (outB s) p.rs 0).length) p.rs.length]] (some 7) (.bool false) (by kernel_rfl) (fun w1 k1 h1 => (by have h := (by have h := agree_any (p.wo (outB s) b1) w1 (hp.wo (k1.keeps (fun _ h => h)) (outB s) (h1 (b1, cO (rowG rdR zC (keptTo (outB s) p.rs 0) (p.rs.length)) 38) (List.mem_of_getElem? (i := 0) (by kernel_rfl)))) (hF.wo (outB s) b1); rw [Pr.wo_n] at h; exact h); rw [hd1] at h; exact h)) ?_
    refine run_auto [] 2 [] [] [3] [] (st' := ⟨[(3, .bool false)], []⟩) (acc := []) (by kernel_rfl) (by kernel_rfl) trivial ?_
    refine run_end (fn := f86) rfl (Nat.le_refl _) (by kernel_rfl) [] [.bool false] (e := []) (by kernel_rfl) trivial (fun w1 k1 h1 => ?_)
    exact ⟨rfl, k1.keeps (fun _ h => h)⟩
  | true =>
    refine run_ret1 87 #[.agg #[.slice p.ba p.bs.length p.bc, iV p.zlo, iV p.zhi, iV p.rlo, iV p.rhi, sV b1 ((keptTo (outB s) p.rs 0).length) p.rs.length]] (some 7) (.bool true) (by kernel_rfl) (fun w1 k1 h1 => (by have h := (by have h := agree_any (p.wo (outB s) b1) w1 (hp.wo (k1.keeps (fun _ h => h)) (outB s) (h1 (b1, cO (rowG rdR zC (keptTo (outB s) p.rs 0) (p.rs.length)) 38) (List.mem_of_getElem? (i := 0) (by kernel_rfl)))) (hF.wo (outB s) b1); rw [Pr.wo_n] at h; exact h); rw [hd1] at h; exact h)) ?_
    refine run_auto [] 2 [] [] [3] [] (st' := ⟨[(3, .bool true)], []⟩) (acc := []) (by kernel_rfl) (by kernel_rfl) trivial ?_
    refine run_end (fn := f86) rfl (Nat.le_refl _) (by kernel_rfl) [] [.bool true] (e := []) (by kernel_rfl) trivial (fun w1 k1 h1 => ?_)
    exact ⟨rfl, k1.keeps (fun _ h => h)⟩


def compl (n s : Nat) : Nat := (2 ^ n - 1) ^^^ ((2 ^ n - 1) &&& s)
theorem compl_lt {n : Nat} (h : n ≤ 8) (s : Nat) : compl n s < 256 := by
  have h1 := pow_le5 h
  have h2 : 2 ^ n - 1 < 2 ^ 8 := by omega
  exact Nat.xor_lt_two_pow (n := 8) h2 (Nat.lt_of_le_of_lt Nat.and_le_left h2)
theorem keepL_congr {rs : List Rdg} {f g : Nat → Bool} (h : ∀ i, i < rs.length → f i = g i) : keepL rs f = keepL rs g := by
  unfold keepL
  congr 1
  apply List.filter_congr
  intro x hx
  exact h _ (List.mem_zipIdx' hx).1
theorem Prn.keep_congr {p : Prn} {f g : Nat → Bool} (h : ∀ i, i < p.rs.length → f i = g i) : p.keep f = p.keep g := by
  unfold Prn.keep
  rw [keepL_congr h]
theorem compl_keep (p : Pr) (s : Nat) : p.n.keep (outB (compl p.rs.length s)) = p.n.keep (inB s) := Prn.keep_congr fun i hi => by
  have hi : i < p.rs.length := by rwa [show p.n.rs.length = p.rs.length from List.length_map _] at hi
  unfold outB inB compl
  rw [Nat.testBit_xor, Nat.testBit_and, all_bits hi]
  simp
theorem nrs_len (p : Pr) : p.n.rs.length = p.rs.length := List.length_map _
set_option maxRecDepth 100000 in
theorem clash1_any (p : Pr) (bp ba s : Nat) (hs : s < 256) (w : World) (hp : p.In w) (hF : p.Fine) (hbp : w.heap[bp]? = some (.cells #[.slice p.ba p.bs.length p.bc, .int .i64 p.zlo, .int .i64 p.zhi, .int .i64 p.rlo, .int .i64 p.rhi, .slice p.ra p.rs.length p.rc] 30 (0, 0))) (hba : w.heap[ba]? = some (.cells #[.int .i64 ((2 ^ p.rs.length - 1 : Nat) : Int)] 98 (0, 0))) : Calls Try.prog 91 #[.int .i64 (s : Int), .pointer (some ⟨bp, 0, none⟩), .pointer (some ⟨ba, 0, none⟩)] w (RetB (!(p.n.keep (inB s)).agreeB) w) := by
  have h2 := pow_le5 hF.r8
  refine calls_run (fn := f91) (c := (f91.body).getD .skip) [.int .i64 (s : Int), .pointer (some ⟨bp, 0, none⟩), .pointer (some ⟨ba, 0, none⟩)] func91 (by kernel_rfl) (fun _ => False) [] (fun _ h => by cases h) (List.Pairwise.nil) 12 (by kernel_rfl) (by simp) ?_
  refine run_auto [] 6 [] [] [0, 1, 2, 4] [] (st' := ⟨[(0, iV (s : Int)), (1, pA bp), (2, pA ba), (4, .bool false)], []⟩) (acc := []) (by kernel_rfl) (by kernel_rfl) trivial ?_
  refine run_v (Instr.loadAt 30 (pA bp) >>= fun v => pure (Next.value v)) (some 5) (.agg #[.slice p.ba p.bs.length p.bc, iV p.zlo, iV p.zhi, iV p.rlo, iV p.rhi, .slice p.ra p.rs.length p.rc]) (by kernel_rfl) (fun w1 k1 h1 => load_in (base := 0) (off := 0) k1 (fun h => h) [.slice p.ba p.bs.length p.bc, iV p.zlo, iV p.zhi, iV p.rlo, iV p.rhi, .slice p.ra p.rs.length p.rc] (fun i u hi => by rw [Nat.zero_add]; exact cells_of_heap hbp i u hi) (by kernel_rfl)) ?_
  refine run_v (Instr.loadAt 98 (pA ba) >>= fun v => pure (Next.value v)) (some 6) (iV ((2 ^ p.rs.length - 1 : Nat) : Int)) (by kernel_rfl) (fun w1 k1 h1 => load_in (base := 0) (off := 0) k1 (fun h => h) [iV ((2 ^ p.rs.length - 1 : Nat) : Int)] (fun i u hi => by rw [Nat.zero_add]; exact cells_of_heap hba i u hi) (by kernel_rfl)) ?_
  refine run_auto [(8, iV ((compl p.rs.length s : Nat) : Int))] 2 [] [] [4, 5, 8] [] (st' := ⟨[(4, .bool false), (5, .agg #[.slice p.ba p.bs.length p.bc, iV p.zlo, iV p.zhi, iV p.rlo, iV p.rhi, .slice p.ra p.rs.length p.rc]), (8, iV ((compl p.rs.length s : Nat) : Int))], []⟩) (acc := [(iV (bits .andNot .i64 ((2 ^ p.rs.length - 1 : Nat) : Int) (s : Int)), iV ((compl p.rs.length s : Nat) : Int))]) (by kernel_rfl) (by kernel_rfl) ⟨(andNot_nat (2 ^ p.rs.length - 1) s (by omega) (by omega)), trivial⟩ ?_
  refine run_nw 88 #[.agg #[.slice p.ba p.bs.length p.bc, iV p.zlo, iV p.zhi, iV p.rlo, iV p.rhi, .slice p.ra p.rs.length p.rc], iV ((compl p.rs.length s : Nat) : Int)] (some 9) (α := Unit) (fun _u b1 => .agg #[.slice p.ba p.bs.length p.bc, iV p.zlo, iV p.zhi, iV p.rlo, iV p.rhi, sV b1 ((keptTo (outB (compl p.rs.length s : Nat)) p.rs 0).length) p.rs.length]) (fun _u => cO (rowG rdR zC (keptTo (outB (compl p.rs.length s : Nat)) p.rs 0) (p.rs.length)) 38) (fun _u => True) (by kernel_rfl) (fun _ => rfl) (fun w1 k1 h1 => without_any p (compl p.rs.length s : Nat) (by exact compl_lt hF.r8 s) w1 (hp.keep (k1.keeps (fun _ h => h))) hF) (fun _u b1 hIb1 hb1 => ?_)
  cases hd1 : ((p.n.keep (outB (compl p.rs.length s : Nat))).agreeB) with
  | false =>
    refine run_ret1 87 #[.agg #[.slice p.ba p.bs.length p.bc, iV p.zlo, iV p.zhi, iV p.rlo, iV p.rhi, sV b1 ((keptTo (outB (compl p.rs.length s : Nat)) p.rs 0).length) p.rs.length]] (some 10) (.bool false) (by kernel_rfl) (fun w1 k1 h1 => (by have h := (by have h := agree_any (p.wo (outB (compl p.rs.length s : Nat)) b1) w1 (hp.wo (k1.keeps (fun _ h => h)) (outB (compl p.rs.length s : Nat)) (h1 (b1, cO (rowG rdR zC (keptTo (outB (compl p.rs.length s : Nat)) p.rs 0) (p.rs.length)) 38) (List.mem_of_getElem? (i := 0) (by kernel_rfl)))) (hF.wo (outB (compl p.rs.length s : Nat)) b1); rw [Pr.wo_n] at h; exact h); rw [hd1] at h; exact h)) ?_
    refine run_auto [(11, .bool true)] 3 [] [] [4] [] (st' := ⟨[(4, .bool true)], []⟩) (acc := [(.bool true, .bool true)]) (by kernel_rfl) (by kernel_rfl) ⟨rfl, trivial⟩ ?_
    refine run_end (fn := f91) rfl (Nat.le_refl _) (by kernel_rfl) [] [.bool true] (e := []) (by kernel_rfl) trivial (fun w1 k1 h1 => ?_)
    exact ⟨by rw [← compl_keep, hd1]; rfl, k1.keeps (fun _ h => h)⟩
  | true =>
    refine run_ret1 87 #[.agg #[.slice p.ba p.bs.length p.bc, iV p.zlo, iV p.zhi, iV p.rlo, iV p.rhi, sV b1 ((keptTo (outB (compl p.rs.length s : Nat)) p.rs 0).length) p.rs.length]] (some 10) (.bool true) (by kernel_rfl) (fun w1 k1 h1 => (by have h := (by have h := agree_any (p.wo (outB (compl p.rs.length s : Nat)) b1) w1 (hp.wo (k1.keeps (fun _ h => h)) (outB (compl p.rs.length s : Nat)) (h1 (b1, cO (rowG rdR zC (keptTo (outB (compl p.rs.length s : Nat)) p.rs 0) (p.rs.length)) 38) (List.mem_of_getElem? (i := 0) (by kernel_rfl)))) (hF.wo (outB (compl p.rs.length s : Nat)) b1); rw [Pr.wo_n] at h; exact h); rw [hd1] at h; exact h)) ?_
    refine run_auto [(11, .bool false)] 3 [] [] [4] [] (st' := ⟨[(4, .bool false)], []⟩) (acc := [(.bool false, .bool false)]) (by kernel_rfl) (by kernel_rfl) ⟨rfl, trivial⟩ ?_
    refine run_end (fn := f91) rfl (Nat.le_refl _) (by kernel_rfl) [] [.bool false] (e := []) (by kernel_rfl) trivial (fun w1 k1 h1 => ?_)
    exact ⟨by rw [← compl_keep, hd1]; rfl, k1.keeps (fun _ h => h)⟩

set_option maxRecDepth 100000 in
theorem fewest_wrong (p : Pr) (bp : Nat) (w : World) (hp : p.In w) (hF : p.Fine) (hbp : w.heap[bp]? = some (.cells #[.slice p.ba p.bs.length p.bc, .int .i64 p.zlo, .int .i64 p.zhi, .int .i64 p.rlo, .int .i64 p.rhi, .slice p.ra p.rs.length p.rc] 30 (0, 0))) : Calls Try.prog 85 #[.int .i64 (p.rs.length : Int), .func (.func 86) #[] #[.pointer (some ⟨bp, 0, none⟩)]] w (RetI (fewestL p.rs.length (fun x => (p.n.keep (outB x)).agreeB) : Nat) w) := by
  have h2 := pow_le5 hF.r8
  have h8 := hF.r8
  refine calls_run (fn := f85) (c := (f85.body).getD .skip) [.int .i64 (p.rs.length : Int), .func (.func 86) #[] #[.pointer (some ⟨bp, 0, none⟩)]] func85 (by kernel_rfl) (fun _ => False) [] (fun _ h => by cases h) (List.Pairwise.nil) 15 (by kernel_rfl) (by simp) ?_
  refine run_auto [] 2 [] [] [0, 1] [] (st' := ⟨[(0, iV (p.rs.length : Int)), (1, .func (.func 86) #[] #[pA bp])], []⟩) (acc := []) (by kernel_rfl) (by kernel_rfl) trivial ?_
  refine run_new (aO #[.func (.func 86) #[] #[pA bp]] 133) (fun b1 => pA b1) (some 3) (fun _ => by kernel_rfl) (fun b1 hb1 => ?_)
  refine run_new (aO #[iV 0] 98) (fun b2 => pA b2) (some 4) (fun _ => by kernel_rfl) (fun b2 hb2 => ?_)
  refine run_auto [] 5 [] [] [0, 3, 4, 6] [0, 1] (st' := ⟨[(0, iV (p.rs.length : Int)), (3, pA b1), (4, pA b2), (6, iV (p.rs.length : Int))], [(b2, aO #[iV 0] 98), (b1, aO #[.func (.func 86) #[] #[pA bp]] 133)]⟩) (acc := []) (by kernel_rfl) (by kernel_rfl) trivial ?_
  refine run_nw 103 #[iV (p.rs.length : Int)] (some 7) (α := Unit) (fun _u b3 => .func (.func 110) #[] #[pA b3]) (fun _u => aO #[iV (p.rs.length : Int)] 3) (fun _u => True) (by kernel_rfl) (fun _ => rfl) (fun w1 k1 h1 => setsBySize_any p.rs.length w1) (fun _u b3 hIb3 hb3 => ?_)
  refine run_auto [] 2 [] [] [0, 3, 4, 7] [0, 1, 2] (st' := ⟨[(0, iV (p.rs.length : Int)), (3, pA b1), (4, pA b2), (7, .func (.func 110) #[] #[pA b3])], [(b3, aO #[iV (p.rs.length : Int)] 3), (b2, aO #[iV 0] 98), (b1, aO #[.func (.func 86) #[] #[pA bp]] 133)]⟩) (acc := []) (by kernel_rfl) (by kernel_rfl) trivial ?_
  refine run_auto [] 0 [] [] [0, 3, 4, 7] [0, 1, 2] (st' := ⟨[(0, iV (p.rs.length : Int)), (3, pA b1), (4, pA b2), (7, .func (.func 110) #[] #[pA b3])], [(b3, aO #[iV (p.rs.length : Int)] 3), (b2, aO #[iV 0] 98), (b1, aO #[.func (.func 86) #[] #[pA bp]] 133)]⟩) (acc := []) (by kernel_rfl) (by kernel_rfl) trivial ?_
  refine run_range (σ := List Nat) (τ := Nat) 110 #[pA b3] [8] [(b3, aO #[iV (p.rs.length : Int)] 3)] [(b2, aO #[iV 0] 98), (b1, aO #[.func (.func 86) #[] #[pA bp]] 133)] (fun _ _ => True) (fun l => l <+: ((setsL p.rs.length).map sv)) (fun l => l = ((setsL p.rs.length).map sv)) (by kernel_rfl) rfl rfl (fun l => by kernel_rfl) rfl (by kernel_rfl) (fun pre x hx => by obtain ⟨s, _, rfl⟩ := List.mem_map.1 (List.IsPrefix.subset hx (List.mem_append_right _ (List.mem_singleton.2 rfl))); rfl) (sets_give p.rs.length b3 hF.r8) (fun _ _ _ _ => trivial)
    (fun s => [(b2, aO #[iV 0] 98), (b1, aO #[.func (.func 86) #[] #[pA bp]] 133)]) (fun s => Ext.none) (fun pre s => s <+: setsL p.rs.length ∧ pre = s.map sv ∧ ∀ x ∈ s, (fun x => (p.n.keep (outB x)).agreeB) x = false) (fun y => [(b2, aO #[iV (y : Int)] 98), (b1, aO #[.func (.func 86) #[] #[pA bp]] 133)]) (fun y => Ext.none) (fun c y => c = .ret ∧ fewestL p.rs.length (fun x => (p.n.keep (outB x)).agreeB) = y) ([]) (⟨List.nil_prefix, rfl, fun _ h => by cases h⟩) rfl rfl (fun _ _ _ => ⟨rfl, fun _ _ h => h.elim⟩) (fun _ _ _ => rfl)
    (fun pre x s hpre hI l0 ms ro ob w0 Jb Jn Je hkk hll hbeg hnext hexit => ?_) (fun ys s hys hI => ?_) (fun c y hI => ?_)
  · skip
    have hpre : pre ++ [x] <+: ((setsL p.rs.length).map sv) := hpre
    obtain ⟨P, rfl⟩ : ∃ P, P = s := ⟨_, rfl⟩
    obtain ⟨hPp, rfl, hP⟩ := hI
    obtain ⟨s, rfl, hpr2⟩ := sv_next hPp hpre
    have hs : s < 256 := Nat.lt_of_lt_of_le (set_in hF.r8 (hpr2.mem (List.mem_append_right _ (List.mem_singleton.2 rfl)))) (pow_le5 hF.r8)
    refine run_auto [] 3 [] [] [3, 4, 5] [0, 1] (st' := ⟨[(3, pA b1), (4, pA b2), (5, iV (s : Int))], [(b2, aO #[iV 0] 98), (b1, aO #[.func (.func 86) #[] #[pA bp]] 133)]⟩) (acc := []) (by kernel_rfl) (by kernel_rfl) trivial ?_
    refine run_round rfl (hbeg _ ?_)
    refine run_auto [] 5 [] [1] [4, 5, 9, 10] [0, 1] (st' := ⟨[(4, pA b2), (5, iV (s : Int)), (9, .func (.func 86) #[] #[pA bp]), (10, iV (s : Int))], [(b2, aO #[iV 0] 98), (b1, aO #[.func (.func 86) #[] #[pA bp]] 133)]⟩) (acc := [(pA b1, pA b1)]) (by kernel_rfl) (by kernel_rfl) ⟨rfl, trivial⟩ ?_
    cases hd1 : ((p.n.keep (outB s)).agreeB) with
    | false =>
      refine run_ret1 86 #[iV (s : Int), pA bp] (some 11) (.bool false) (by kernel_rfl) (fun w1 k1 h1 => (by have h := wrong1_any p bp s hs w1 (hp.keep ((hkk _ k1).keeps (fun _ h => h))) hF (((hkk _ k1).block _ (Array.getElem?_eq_some_iff.1 hbp).1 (fun h => h)).trans hbp); rw [hd1] at h; exact h)) ?_
      refine run_auto [] 4 [false] [] [] [0, 1] (st' := ⟨[], [(b2, aO #[iV 0] 98), (b1, aO #[.func (.func 86) #[] #[pA bp]] 133)]⟩) (acc := [(.bool false, .bool false)]) (by kernel_rfl) (by kernel_rfl) ⟨rfl, trivial⟩ ?_
      exact run_nil rfl (fun a w1 g => hnext (P ++ [s]) _ ⟨hpr2, by rw [List.map_append]; rfl, fun x hx => (List.mem_append.1 hx).elim (hP x) (fun hx => by rw [List.mem_singleton.1 hx]; exact hd1)⟩ (fun b h => h.elim) a w1 g)
    | true =>
      refine run_ret1 86 #[iV (s : Int), pA bp] (some 11) (.bool true) (by kernel_rfl) (fun w1 k1 h1 => (by have h := wrong1_any p bp s hs w1 (hp.keep ((hkk _ k1).keeps (fun _ h => h))) hF (((hkk _ k1).block _ (Array.getElem?_eq_some_iff.1 hbp).1 (fun h => h)).trans hbp); rw [hd1] at h; exact h)) ?_
      refine run_auto [] 7 [true] [0] [] [0, 1] (st' := ⟨[], [(b2, aO #[iV (s : Int)] 98), (b1, aO #[.func (.func 86) #[] #[pA bp]] 133)]⟩) (acc := [(pA b2, pA b2), (.bool true, .bool true)]) (by kernel_rfl) (by kernel_rfl) ⟨rfl, rfl, trivial⟩ ?_
      exact run_retQ rfl (fun a w1 g => hexit .ret s _ ⟨rfl, fewest_stop hP hd1 hpr2⟩ (.inl rfl) (fun b h => h.elim) a w1 g)
  · skip
    obtain rfl : ys = ((setsL p.rs.length).map sv) := hys
    obtain ⟨hPp, hPm, hP⟩ := hI
    have hPe := sv_done hPp hPm
    rw [hPe] at hP
    have hfew := fewest_none hP
    refine run_auto [] 4 [] [] [4, 13] [0] (st' := ⟨[(4, pA b2), (13, iV (p.rs.length : Int))], [(b2, aO #[iV 0] 98)]⟩) (acc := []) (by kernel_rfl) (by kernel_rfl) trivial ?_
    refine run_ret1 90 #[iV (p.rs.length : Int)] (some 14) (iV ((2 ^ p.rs.length - 1 : Nat) : Int)) (by kernel_rfl) (fun w1 k1 h1 => fullSet_any p.rs.length (by omega) w1) ?_
    refine run_auto [] 2 [] [0] [4] [0] (st' := ⟨[(4, pA b2)], [(b2, aO #[iV ((2 ^ p.rs.length - 1 : Nat) : Int)] 98)]⟩) (acc := [(pA b2, pA b2)]) (by kernel_rfl) (by kernel_rfl) ⟨rfl, trivial⟩ ?_
    refine run_end (fn := f85) rfl (Nat.le_refl _) (by kernel_rfl) [0] [iV ((2 ^ p.rs.length - 1 : Nat) : Int)] (e := [(pA b2, pA b2)]) (by kernel_rfl) ⟨rfl, trivial⟩ (fun w1 k1 h1 => ?_)
    exact ⟨by rw [hfew]; rfl, k1.keeps (fun _ h => h)⟩
  · skip
    obtain ⟨rfl, hfew⟩ := hI
    refine run_end (fn := f85) rfl (Nat.le_refl _) (by kernel_rfl) [0] [iV (y : Int)] (e := [(pA b2, pA b2)]) (by kernel_rfl) ⟨rfl, trivial⟩ (fun w1 k1 h1 => ?_)
    exact ⟨by rw [hfew]; rfl, k1.keeps (fun _ h => h)⟩

set_option maxRecDepth 100000 in
theorem fewest_clash (p : Pr) (bp ba : Nat) (w : World) (hp : p.In w) (hF : p.Fine) (hbp : w.heap[bp]? = some (.cells #[.slice p.ba p.bs.length p.bc, .int .i64 p.zlo, .int .i64 p.zhi, .int .i64 p.rlo, .int .i64 p.rhi, .slice p.ra p.rs.length p.rc] 30 (0, 0))) (hba : w.heap[ba]? = some (.cells #[.int .i64 ((2 ^ p.rs.length - 1 : Nat) : Int)] 98 (0, 0))) : Calls Try.prog 85 #[.int .i64 (p.rs.length : Int), .func (.func 91) #[] #[.pointer (some ⟨bp, 0, none⟩), .pointer (some ⟨ba, 0, none⟩)]] w (RetI (fewestL p.rs.length (fun x => !(p.n.keep (inB x)).agreeB) : Nat) w) := by
  have h2 := pow_le5 hF.r8
  have h8 := hF.r8
  refine calls_run (fn := f85) (c := (f85.body).getD .skip) [.int .i64 (p.rs.length : Int), .func (.func 91) #[] #[.pointer (some ⟨bp, 0, none⟩), .pointer (some ⟨ba, 0, none⟩)]] func85 (by kernel_rfl) (fun _ => False) [] (fun _ h => by cases h) (List.Pairwise.nil) 15 (by kernel_rfl) (by simp) ?_
  refine run_auto [] 2 [] [] [0, 1] [] (st' := ⟨[(0, iV (p.rs.length : Int)), (1, .func (.func 91) #[] #[pA bp, pA ba])], []⟩) (acc := []) (by kernel_rfl) (by kernel_rfl) trivial ?_
  refine run_new (aO #[.func (.func 91) #[] #[pA bp, pA ba]] 133) (fun b1 => pA b1) (some 3) (fun _ => by kernel_rfl) (fun b1 hb1 => ?_)
  refine run_new (aO #[iV 0] 98) (fun b2 => pA b2) (some 4) (fun _ => by kernel_rfl) (fun b2 hb2 => ?_)
  refine run_auto [] 5 [] [] [0, 3, 4, 6] [0, 1] (st' := ⟨[(0, iV (p.rs.length : Int)), (3, pA b1), (4, pA b2), (6, iV (p.rs.length : Int))], [(b2, aO #[iV 0] 98), (b1, aO #[.func (.func 91) #[] #[pA bp, pA ba]] 133)]⟩) (acc := []) (by kernel_rfl) (by kernel_rfl) trivial ?_
  refine run_nw 103 #[iV (p.rs.length : Int)] (some 7) (α := Unit) (fun _u b3 => .func (.func 110) #[] #[pA b3]) (fun _u => aO #[iV (p.rs.length : Int)] 3) (fun _u => True) (by kernel_rfl) (fun _ => rfl) (fun w1 k1 h1 => setsBySize_any p.rs.length w1) (fun _u b3 hIb3 hb3 => ?_)
  refine run_auto [] 2 [] [] [0, 3, 4, 7] [0, 1, 2] (st' := ⟨[(0, iV (p.rs.length : Int)), (3, pA b1), (4, pA b2), (7, .func (.func 110) #[] #[pA b3])], [(b3, aO #[iV (p.rs.length : Int)] 3), (b2, aO #[iV 0] 98), (b1, aO #[.func (.func 91) #[] #[pA bp, pA ba]] 133)]⟩) (acc := []) (by kernel_rfl) (by kernel_rfl) trivial ?_
  refine run_auto [] 0 [] [] [0, 3, 4, 7] [0, 1, 2] (st' := ⟨[(0, iV (p.rs.length : Int)), (3, pA b1), (4, pA b2), (7, .func (.func 110) #[] #[pA b3])], [(b3, aO #[iV (p.rs.length : Int)] 3), (b2, aO #[iV 0] 98), (b1, aO #[.func (.func 91) #[] #[pA bp, pA ba]] 133)]⟩) (acc := []) (by kernel_rfl) (by kernel_rfl) trivial ?_
  refine run_range (σ := List Nat) (τ := Nat) 110 #[pA b3] [8] [(b3, aO #[iV (p.rs.length : Int)] 3)] [(b2, aO #[iV 0] 98), (b1, aO #[.func (.func 91) #[] #[pA bp, pA ba]] 133)] (fun _ _ => True) (fun l => l <+: ((setsL p.rs.length).map sv)) (fun l => l = ((setsL p.rs.length).map sv)) (by kernel_rfl) rfl rfl (fun l => by kernel_rfl) rfl (by kernel_rfl) (fun pre x hx => by obtain ⟨s, _, rfl⟩ := List.mem_map.1 (List.IsPrefix.subset hx (List.mem_append_right _ (List.mem_singleton.2 rfl))); rfl) (sets_give p.rs.length b3 hF.r8) (fun _ _ _ _ => trivial)
    (fun s => [(b2, aO #[iV 0] 98), (b1, aO #[.func (.func 91) #[] #[pA bp, pA ba]] 133)]) (fun s => Ext.none) (fun pre s => s <+: setsL p.rs.length ∧ pre = s.map sv ∧ ∀ x ∈ s, (fun x => !(p.n.keep (inB x)).agreeB) x = false) (fun y => [(b2, aO #[iV (y : Int)] 98), (b1, aO #[.func (.func 91) #[] #[pA bp, pA ba]] 133)]) (fun y => Ext.none) (fun c y => c = .ret ∧ fewestL p.rs.length (fun x => !(p.n.keep (inB x)).agreeB) = y) ([]) (⟨List.nil_prefix, rfl, fun _ h => by cases h⟩) rfl rfl (fun _ _ _ => ⟨rfl, fun _ _ h => h.elim⟩) (fun _ _ _ => rfl)
    (fun pre x s hpre hI l0 ms ro ob w0 Jb Jn Je hkk hll hbeg hnext hexit => ?_) (fun ys s hys hI => ?_) (fun c y hI => ?_)
  · skip
    have hpre : pre ++ [x] <+: ((setsL p.rs.length).map sv) := hpre
    obtain ⟨P, rfl⟩ : ∃ P, P = s := ⟨_, rfl⟩
    obtain ⟨hPp, rfl, hP⟩ := hI
    obtain ⟨s, rfl, hpr2⟩ := sv_next hPp hpre
    have hs : s < 256 := Nat.lt_of_lt_of_le (set_in hF.r8 (hpr2.mem (List.mem_append_right _ (List.mem_singleton.2 rfl)))) (pow_le5 hF.r8)
    refine run_auto [] 3 [] [] [3, 4, 5] [0, 1] (st' := ⟨[(3, pA b1), (4, pA b2), (5, iV (s : Int))], [(b2, aO #[iV 0] 98), (b1, aO #[.func (.func 91) #[] #[pA bp, pA ba]] 133)]⟩) (acc := []) (by kernel_rfl) (by kernel_rfl) trivial ?_
    refine run_round rfl (hbeg _ ?_)
    refine run_auto [] 5 [] [1] [4, 5, 9, 10] [0, 1] (st' := ⟨[(4, pA b2), (5, iV (s : Int)), (9, .func (.func 91) #[] #[pA bp, pA ba]), (10, iV (s : Int))], [(b2, aO #[iV 0] 98), (b1, aO #[.func (.func 91) #[] #[pA bp, pA ba]] 133)]⟩) (acc := [(pA b1, pA b1)]) (by kernel_rfl) (by kernel_rfl) ⟨rfl, trivial⟩ ?_
    cases hd1 : (!(p.n.keep (inB s)).agreeB) with
    | false =>
      refine run_ret1 91 #[iV (s : Int), pA bp, pA ba] (some 11) (.bool false) (by kernel_rfl) (fun w1 k1 h1 => (by have h := clash1_any p bp ba s hs w1 (hp.keep ((hkk _ k1).keeps (fun _ h => h))) hF (((hkk _ k1).block _ (Array.getElem?_eq_some_iff.1 hbp).1 (fun h => h)).trans hbp) (((hkk _ k1).block _ (Array.getElem?_eq_some_iff.1 hba).1 (fun h => h)).trans hba); rw [hd1] at h; exact h)) ?_
      refine run_auto [] 4 [false] [] [] [0, 1] (st' := ⟨[], [(b2, aO #[iV 0] 98), (b1, aO #[.func (.func 91) #[] #[pA bp, pA ba]] 133)]⟩) (acc := [(.bool false, .bool false)]) (by kernel_rfl) (by kernel_rfl) ⟨rfl, trivial⟩ ?_
      exact run_nil rfl (fun a w1 g => hnext (P ++ [s]) _ ⟨hpr2, by rw [List.map_append]; rfl, fun x hx => (List.mem_append.1 hx).elim (hP x) (fun hx => by rw [List.mem_singleton.1 hx]; exact hd1)⟩ (fun b h => h.elim) a w1 g)
    | true =>
      refine run_ret1 91 #[iV (s : Int), pA bp, pA ba] (some 11) (.bool true) (by kernel_rfl) (fun w1 k1 h1 => (by have h := clash1_any p bp ba s hs w1 (hp.keep ((hkk _ k1).keeps (fun _ h => h))) hF (((hkk _ k1).block _ (Array.getElem?_eq_some_iff.1 hbp).1 (fun h => h)).trans hbp) (((hkk _ k1).block _ (Array.getElem?_eq_some_iff.1 hba).1 (fun h => h)).trans hba); rw [hd1] at h; exact h)) ?_
      refine run_auto [] 7 [true] [0] [] [0, 1] (st' := ⟨[], [(b2, aO #[iV (s : Int)] 98), (b1, aO #[.func (.func 91) #[] #[pA bp, pA ba]] 133)]⟩) (acc := [(pA b2, pA b2), (.bool true, .bool true)]) (by kernel_rfl) (by kernel_rfl) ⟨rfl, rfl, trivial⟩ ?_
      exact run_retQ rfl (fun a w1 g => hexit .ret s _ ⟨rfl, fewest_stop hP hd1 hpr2⟩ (.inl rfl) (fun b h => h.elim) a w1 g)
  · skip
    obtain rfl : ys = ((setsL p.rs.length).map sv) := hys
    obtain ⟨hPp, hPm, hP⟩ := hI
    have hPe := sv_done hPp hPm
    rw [hPe] at hP
    have hfew := fewest_none hP
    refine run_auto [] 4 [] [] [4, 13] [0] (st' := ⟨[(4, pA b2), (13, iV (p.rs.length : Int))], [(b2, aO #[iV 0] 98)]⟩) (acc := []) (by kernel_rfl) (by kernel_rfl) trivial ?_
    refine run_ret1 90 #[iV (p.rs.length : Int)] (some 14) (iV ((2 ^ p.rs.length - 1 : Nat) : Int)) (by kernel_rfl) (fun w1 k1 h1 => fullSet_any p.rs.length (by omega) w1) ?_
    refine run_auto [] 2 [] [0] [4] [0] (st' := ⟨[(4, pA b2)], [(b2, aO #[iV ((2 ^ p.rs.length - 1 : Nat) : Int)] 98)]⟩) (acc := [(pA b2, pA b2)]) (by kernel_rfl) (by kernel_rfl) ⟨rfl, trivial⟩ ?_
    refine run_end (fn := f85) rfl (Nat.le_refl _) (by kernel_rfl) [0] [iV ((2 ^ p.rs.length - 1 : Nat) : Int)] (e := [(pA b2, pA b2)]) (by kernel_rfl) ⟨rfl, trivial⟩ (fun w1 k1 h1 => ?_)
    exact ⟨by rw [hfew]; rfl, k1.keeps (fun _ h => h)⟩
  · skip
    obtain ⟨rfl, hfew⟩ := hI
    refine run_end (fn := f85) rfl (Nat.le_refl _) (by kernel_rfl) [0] [iV (y : Int)] (e := [(pA b2, pA b2)]) (by kernel_rfl) ⟨rfl, trivial⟩ (fun w1 k1 h1 => ?_)
    exact ⟨by rw [hfew]; rfl, k1.keeps (fun _ h => h)⟩


theorem wrongL_is (p : Pr) : fewestL p.rs.length (fun x => (p.n.keep (outB x)).agreeB) = p.n.wrongL := by
  unfold Prn.wrongL
  rw [nrs_len]
  rfl
theorem clashL_is (p : Pr) : fewestL p.rs.length (fun x => !(p.n.keep (inB x)).agreeB) = p.n.clashL := by
  unfold Prn.clashL
  rw [nrs_len]
  rfl
theorem fewestL_lt {n : Nat} (hn : n ≤ 8) (so : Nat → Bool) : fewestL n so < 256 := by
  have h2 := pow_le5 hn
  have h3 := Nat.one_le_two_pow (n := n)
  unfold fewestL
  cases h : (setsL n).find? so with
  | none => show 2 ^ n - 1 < 256; omega
  | some s =>
    have := set_in hn (List.mem_of_find?_eq_some h)
    show s < 256
    omega
theorem wrongL_lt {p : Pr} (h : p.Fine) : p.n.wrongL < 256 := by rw [← wrongL_is]; exact fewestL_lt h.r8 _
def WC (r : Sum Int Nat) (w : World) (e : Ending) (w' : World) : Prop := match r with
  | .inl k => Pan k w e w'
  | .inr x => RetI (x : Int) w e w'
def seA (r : Sum Int Nat) : Nat := match r with
  | .inl _ => 0
  | .inr x => x
def clashR0 (p : Pr) : Sum Int Nat := bif p.n.agreeB then .inl 4 else .inr p.n.clashL
set_option maxRecDepth 100000 in
theorem fewestWrong_any (p : Pr) (w : World) (hp : p.In w) (hF : p.Fine) : Calls Try.prog 53 #[.agg #[.slice p.ba p.bs.length p.bc, .int .i64 p.zlo, .int .i64 p.zhi, .int .i64 p.rlo, .int .i64 p.rhi, .slice p.ra p.rs.length p.rc]] w (RetI (p.n.wrongL : Nat) w) := by
  have h8 := hF.r8
  refine calls_run (fn := f53) (c := (f53.body).getD .skip) [.agg #[.slice p.ba p.bs.length p.bc, .int .i64 p.zlo, .int .i64 p.zhi, .int .i64 p.rlo, .int .i64 p.rhi, .slice p.ra p.rs.length p.rc]] func53 (by kernel_rfl) (fun _ => False) [] (fun _ h => by cases h) (List.Pairwise.nil) 8 (by kernel_rfl) (by simp) ?_
  refine run_auto [] 2 [] [] [0] [] (st' := ⟨[(0, .agg #[.slice p.ba p.bs.length p.bc, iV p.zlo, iV p.zhi, iV p.rlo, iV p.rhi, .slice p.ra p.rs.length p.rc])], []⟩) (acc := []) (by kernel_rfl) (by kernel_rfl) trivial ?_
  refine run_new (aO #[.slice p.ba p.bs.length p.bc, iV p.zlo, iV p.zhi, iV p.rlo, iV p.rhi, .slice p.ra p.rs.length p.rc] 30) (fun b1 => pA b1) (some 1) (fun _ => by kernel_rfl) (fun b1 hb1 => ?_)
  refine run_auto [] 8 [] [0] [2, 5, 6] [0] (st' := ⟨[(2, iV 0), (5, iV (p.rs.length : Int)), (6, .func (.func 86) #[] #[pA b1])], [(b1, aO #[.slice p.ba p.bs.length p.bc, iV p.zlo, iV p.zhi, iV p.rlo, iV p.rhi, .slice p.ra p.rs.length p.rc] 30)]⟩) (acc := [(pA b1, pA b1)]) (by kernel_rfl) (by kernel_rfl) ⟨rfl, trivial⟩ ?_
  refine run_ret1 85 #[iV (p.rs.length : Int), .func (.func 86) #[] #[pA b1]] (some 7) (iV ((p.n.wrongL : Nat) : Int)) (by kernel_rfl) (fun w1 k1 h1 => (by have h := fewest_wrong p b1 w1 (hp.keep (k1.keeps (fun _ h => h))) hF (h1 (b1, aO #[.slice p.ba p.bs.length p.bc, iV p.zlo, iV p.zhi, iV p.rlo, iV p.rhi, .slice p.ra p.rs.length p.rc] 30) (List.mem_of_getElem? (i := 0) (by kernel_rfl))); rw [wrongL_is] at h; exact h)) ?_
  refine run_auto [] 2 [] [] [2] [] (st' := ⟨[(2, iV ((p.n.wrongL : Nat) : Int))], []⟩) (acc := []) (by kernel_rfl) (by kernel_rfl) trivial ?_
  refine run_end (fn := f53) rfl (Nat.le_refl _) (by kernel_rfl) [] [iV ((p.n.wrongL : Nat) : Int)] (e := []) (by kernel_rfl) trivial (fun w1 k1 h1 => ?_)
  exact ⟨rfl, k1.keeps (fun _ h => h)⟩

set_option maxRecDepth 100000 in
theorem fewestClashing_any (p : Pr) (w : World) (hp : p.In w) (hF : p.Fine) : Calls Try.prog 56 #[.agg #[.slice p.ba p.bs.length p.bc, .int .i64 p.zlo, .int .i64 p.zhi, .int .i64 p.rlo, .int .i64 p.rhi, .slice p.ra p.rs.length p.rc]] w (WC (clashR0 p) w) := by
  have h8 := hF.r8
  refine calls_run (fn := f56) (c := (f56.body).getD .skip) [.agg #[.slice p.ba p.bs.length p.bc, .int .i64 p.zlo, .int .i64 p.zhi, .int .i64 p.rlo, .int .i64 p.rhi, .slice p.ra p.rs.length p.rc]] func56 (by kernel_rfl) (fun _ => False) [] (fun _ h => by cases h) (List.Pairwise.nil) 16 (by kernel_rfl) (by simp) ?_
  refine run_auto [] 2 [] [] [0] [] (st' := ⟨[(0, .agg #[.slice p.ba p.bs.length p.bc, iV p.zlo, iV p.zhi, iV p.rlo, iV p.rhi, .slice p.ra p.rs.length p.rc])], []⟩) (acc := []) (by kernel_rfl) (by kernel_rfl) trivial ?_
  refine run_new (aO #[.slice p.ba p.bs.length p.bc, iV p.zlo, iV p.zhi, iV p.rlo, iV p.rhi, .slice p.ra p.rs.length p.rc] 30) (fun b1 => pA b1) (some 1) (fun _ => by kernel_rfl) (fun b1 hb1 => ?_)
  refine run_auto [] 6 [] [0] [1, 2, 4] [0] (st' := ⟨[(1, pA b1), (2, iV 0), (4, .agg #[.slice p.ba p.bs.length p.bc, iV p.zlo, iV p.zhi, iV p.rlo, iV p.rhi, .slice p.ra p.rs.length p.rc])], [(b1, aO #[.slice p.ba p.bs.length p.bc, iV p.zlo, iV p.zhi, iV p.rlo, iV p.rhi, .slice p.ra p.rs.length p.rc] 30)]⟩) (acc := [(pA b1, pA b1)]) (by kernel_rfl) (by kernel_rfl) ⟨rfl, trivial⟩ ?_
  cases hd1 : p.n.agreeB with
  | false =>
    refine run_ret1 87 #[.agg #[.slice p.ba p.bs.length p.bc, iV p.zlo, iV p.zhi, iV p.rlo, iV p.rhi, .slice p.ra p.rs.length p.rc]] (some 5) (.bool false) (by kernel_rfl) (fun w1 k1 h1 => (by have h := agree_any p w1 (hp.keep (k1.keeps (fun _ h => h))) hF; rw [hd1] at h; exact h)) ?_
    refine run_auto [] 8 [false] [0] [1, 2, 9] [0] (st' := ⟨[(1, pA b1), (2, iV 0), (9, iV (p.rs.length : Int))], [(b1, aO #[.slice p.ba p.bs.length p.bc, iV p.zlo, iV p.zhi, iV p.rlo, iV p.rhi, .slice p.ra p.rs.length p.rc] 30)]⟩) (acc := [(pA b1, pA b1), (.bool false, .bool false)]) (by kernel_rfl) (by kernel_rfl) ⟨rfl, rfl, trivial⟩ ?_
    refine run_ret1 90 #[iV (p.rs.length : Int)] (some 10) (iV ((2 ^ p.rs.length - 1 : Nat) : Int)) (by kernel_rfl) (fun w1 k1 h1 => fullSet_any p.rs.length (by omega) w1) ?_
    refine run_new (aO #[iV 0] 98) (fun b2 => pA b2) (some 3) (fun _ => by kernel_rfl) (fun b2 hb2 => ?_)
    refine run_auto [] 8 [] [0, 1] [2, 13, 14] [0, 1] (st' := ⟨[(2, iV 0), (13, iV (p.rs.length : Int)), (14, .func (.func 91) #[] #[pA b1, pA b2])], [(b2, aO #[iV ((2 ^ p.rs.length - 1 : Nat) : Int)] 98), (b1, aO #[.slice p.ba p.bs.length p.bc, iV p.zlo, iV p.zhi, iV p.rlo, iV p.rhi, .slice p.ra p.rs.length p.rc] 30)]⟩) (acc := [(pA b1, pA b1), (pA b2, pA b2)]) (by kernel_rfl) (by kernel_rfl) ⟨rfl, rfl, trivial⟩ ?_
    refine run_ret1 85 #[iV (p.rs.length : Int), .func (.func 91) #[] #[pA b1, pA b2]] (some 15) (iV ((p.n.clashL : Nat) : Int)) (by kernel_rfl) (fun w1 k1 h1 => (by have h := fewest_clash p b1 b2 w1 (hp.keep (k1.keeps (fun _ h => h))) hF (h1 (b1, aO #[.slice p.ba p.bs.length p.bc, iV p.zlo, iV p.zhi, iV p.rlo, iV p.rhi, .slice p.ra p.rs.length p.rc] 30) (List.mem_of_getElem? (i := 1) (by kernel_rfl))) (h1 (b2, aO #[iV ((2 ^ p.rs.length - 1 : Nat) : Int)] 98) (List.mem_of_getElem? (i := 0) (by kernel_rfl))); rw [clashL_is] at h; exact h)) ?_
    refine run_auto [] 2 [] [] [2] [] (st' := ⟨[(2, iV ((p.n.clashL : Nat) : Int))], []⟩) (acc := []) (by kernel_rfl) (by kernel_rfl) trivial ?_
    refine run_end (fn := f56) rfl (Nat.le_refl _) (by kernel_rfl) [] [iV ((p.n.clashL : Nat) : Int)] (e := []) (by kernel_rfl) trivial (fun w1 k1 h1 => ?_)
    unfold clashR0
    rw [hd1]
    exact ⟨rfl, k1.keeps (fun _ h => h)⟩
  | true =>
    refine run_ret1 87 #[.agg #[.slice p.ba p.bs.length p.bc, iV p.zlo, iV p.zhi, iV p.rlo, iV p.rhi, .slice p.ra p.rs.length p.rc]] (some 5) (.bool true) (by kernel_rfl) (fun w1 k1 h1 => (by have h := agree_any p w1 (hp.keep (k1.keeps (fun _ h => h))) hF; rw [hd1] at h; exact h)) ?_
    refine run_auto [] 4 [true] [] [1, 2, 6] [0] (st' := ⟨[(1, pA b1), (2, iV 0), (6, .iface 24 (iV 4))], [(b1, aO #[.slice p.ba p.bs.length p.bc, iV p.zlo, iV p.zhi, iV p.rlo, iV p.rhi, .slice p.ra p.rs.length p.rc] 30)]⟩) (acc := [(.bool true, .bool true)]) (by kernel_rfl) (by kernel_rfl) ⟨rfl, trivial⟩ ?_
    exact run_panic rfl (Nat.le_refl _) (Instr.panic (.iface 24 (iV 4)) >>= fun v => pure (Next.value v)) none (.iface 24 (iV 4)) (by kernel_rfl) (fun w => by kernel_rfl) (fun w1 k1 h1 => (by unfold clashR0; rw [hd1]; exact ⟨rfl, k1.keeps (fun _ h => h)⟩))


theorem answer_set (K : Nat) (caps : Array Value) (w : World) (r : Sum Int Nat) (hcf : ∀ w, (callFunc K caps).run Try.prog w = .ok (.enter K caps) w) (h : ∀ w1, Keeps w w1 → Calls Try.prog K caps w1 (WC r w1)) : Calls Try.prog 51 #[.func (.func K) #[] caps] w (Ret (.tuple #[.int .i64 (seA r : Int), .int .i64 (erA r)]) w) := by
  have h1 := h _ ((Keeps.refl w).alloc (.cells #[.int .i64 0] 24))
  cases r with
  | inl k => exact answer_pan_set K caps w k hcf h1
  | inr x =>
    refine (answer_ok_set K caps w (fun v _ => v = .int .i64 (x : Int)) hcf (fun _ _ _ h => h) (h1.mono fun e w' he => ⟨_, he.1, rfl, he.2⟩)).mono ?_
    rintro e w' ⟨v, rfl, rfl, hk⟩
    exact ⟨rfl, hk⟩
theorem answer_int (K : Nat) (caps : Array Value) (w : World) (r : Sum Int Nat) (hcf : ∀ w, (callFunc K caps).run Try.prog w = .ok (.enter K caps) w) (h : ∀ w1, Keeps w w1 → Calls Try.prog K caps w1 (WC r w1)) : Calls Try.prog 48 #[.func (.func K) #[] caps] w (Ret (.tuple #[.int .i64 (seA r : Int), .int .i64 (erA r)]) w) := by
  have h1 := h _ ((Keeps.refl w).alloc (.cells #[.int .i64 0] 24))
  cases r with
  | inl k => exact answer_pan_int K caps w k hcf h1
  | inr x =>
    refine (answer_ok_int K caps w (fun v _ => v = .int .i64 (x : Int)) hcf (fun _ _ _ h => h) (h1.mono fun e w' he => ⟨_, he.1, rfl, he.2⟩)).mono ?_
    rintro e w' ⟨v, rfl, rfl, hk⟩
    exact ⟨rfl, hk⟩
def wrongR (p : Pr) : Sum Int Nat := bif p.ok then .inr p.n.wrongL else .inl 1
def clashR (p : Pr) : Sum Int Nat := bif p.ok then bif p.n.agreeB then .inl 4 else .inr p.n.clashL else .inl 1
theorem wrongR_lt (p : Pr) : seA (wrongR p) < 256 := by
  unfold wrongR
  cases h : p.ok with
  | false => show 0 < 256; omega
  | true => exact wrongL_lt (Pr.fine h)
set_option maxRecDepth 100000 in
theorem wrongW_any (p : Pr) (bp : Nat) (w : World) (hp : p.In w) (hbp : w.heap[bp]? = some (.cells #[.slice p.ba p.bs.length p.bc, .int .i64 p.zlo, .int .i64 p.zhi, .int .i64 p.rlo, .int .i64 p.rhi, .slice p.ra p.rs.length p.rc] 30 (0, 0))) : Calls Try.prog 52 #[.pointer (some ⟨bp, 0, none⟩)] w (WC (wrongR p) w) := by
  refine calls_run (fn := f52) (c := (f52.body).getD .skip) [.pointer (some ⟨bp, 0, none⟩)] func52 (by kernel_rfl) (fun _ => False) [] (fun _ h => by cases h) (List.Pairwise.nil) 6 (by kernel_rfl) (by simp) ?_
  refine run_auto [] 6 [] [] [0, 1] [] (st' := ⟨[(0, pA bp), (1, iV 0)], []⟩) (acc := []) (by kernel_rfl) (by kernel_rfl) trivial ?_
  refine run_v (Instr.loadAt 30 (pA bp) >>= fun v => pure (Next.value v)) (some 2) (.agg #[.slice p.ba p.bs.length p.bc, iV p.zlo, iV p.zhi, iV p.rlo, iV p.rhi, .slice p.ra p.rs.length p.rc]) (by kernel_rfl) (fun w1 k1 h1 => load_in (base := 0) (off := 0) k1 (fun h => h) [.slice p.ba p.bs.length p.bc, iV p.zlo, iV p.zhi, iV p.rlo, iV p.rhi, .slice p.ra p.rs.length p.rc] (fun i u hi => by rw [Nat.zero_add]; exact cells_of_heap hbp i u hi) (by kernel_rfl)) ?_
  cases hd1 : p.ok with
  | false =>
    exact run_panics rfl (Nat.le_refl _) 36 #[.agg #[.slice p.ba p.bs.length p.bc, iV p.zlo, iV p.zhi, iV p.rlo, iV p.rhi, .slice p.ra p.rs.length p.rc]] (some 3) (pe 1) (by kernel_rfl) (fun w1 k1 h1 => (by have h := needPair_any p w1 (hp.keep (k1.keeps (fun _ h => h))); rw [hd1] at h; exact h)) (fun w1 k1 h1 => (by unfold wrongR; rw [hd1]; exact ⟨rfl, k1.keeps (fun _ h => h)⟩))
  | true =>
    have hF := Pr.fine hd1
    refine run_ret1 36 #[.agg #[.slice p.ba p.bs.length p.bc, iV p.zlo, iV p.zhi, iV p.rlo, iV p.rhi, .slice p.ra p.rs.length p.rc]] (some 3) (.tuple #[]) (by kernel_rfl) (fun w1 k1 h1 => (by have h := needPair_any p w1 (hp.keep (k1.keeps (fun _ h => h))); rw [hd1] at h; exact h)) ?_
    refine run_auto [] 3 [] [] [0, 1] [] (st' := ⟨[(0, pA bp), (1, iV 0)], []⟩) (acc := []) (by kernel_rfl) (by kernel_rfl) trivial ?_
    refine run_v (Instr.loadAt 30 (pA bp) >>= fun v => pure (Next.value v)) (some 4) (.agg #[.slice p.ba p.bs.length p.bc, iV p.zlo, iV p.zhi, iV p.rlo, iV p.rhi, .slice p.ra p.rs.length p.rc]) (by kernel_rfl) (fun w1 k1 h1 => load_in (base := 0) (off := 0) k1 (fun h => h) [.slice p.ba p.bs.length p.bc, iV p.zlo, iV p.zhi, iV p.rlo, iV p.rhi, .slice p.ra p.rs.length p.rc] (fun i u hi => by rw [Nat.zero_add]; exact cells_of_heap hbp i u hi) (by kernel_rfl)) ?_
    refine run_ret1 53 #[.agg #[.slice p.ba p.bs.length p.bc, iV p.zlo, iV p.zhi, iV p.rlo, iV p.rhi, .slice p.ra p.rs.length p.rc]] (some 5) (iV ((p.n.wrongL : Nat) : Int)) (by kernel_rfl) (fun w1 k1 h1 => fewestWrong_any p w1 (hp.keep (k1.keeps (fun _ h => h))) hF) ?_
    refine run_auto [] 2 [] [] [1] [] (st' := ⟨[(1, iV ((p.n.wrongL : Nat) : Int))], []⟩) (acc := []) (by kernel_rfl) (by kernel_rfl) trivial ?_
    refine run_end (fn := f52) rfl (Nat.le_refl _) (by kernel_rfl) [] [iV ((p.n.wrongL : Nat) : Int)] (e := []) (by kernel_rfl) trivial (fun w1 k1 h1 => ?_)
    unfold wrongR
    rw [hd1]
    exact ⟨rfl, k1.keeps (fun _ h => h)⟩

set_option maxRecDepth 100000 in
theorem clashW_any (p : Pr) (bp : Nat) (w : World) (hp : p.In w) (hbp : w.heap[bp]? = some (.cells #[.slice p.ba p.bs.length p.bc, .int .i64 p.zlo, .int .i64 p.zhi, .int .i64 p.rlo, .int .i64 p.rhi, .slice p.ra p.rs.length p.rc] 30 (0, 0))) : Calls Try.prog 55 #[.pointer (some ⟨bp, 0, none⟩)] w (WC (clashR p) w) := by
  refine calls_run (fn := f55) (c := (f55.body).getD .skip) [.pointer (some ⟨bp, 0, none⟩)] func55 (by kernel_rfl) (fun _ => False) [] (fun _ h => by cases h) (List.Pairwise.nil) 6 (by kernel_rfl) (by simp) ?_
  refine run_auto [] 6 [] [] [0, 1] [] (st' := ⟨[(0, pA bp), (1, iV 0)], []⟩) (acc := []) (by kernel_rfl) (by kernel_rfl) trivial ?_
  refine run_v (Instr.loadAt 30 (pA bp) >>= fun v => pure (Next.value v)) (some 2) (.agg #[.slice p.ba p.bs.length p.bc, iV p.zlo, iV p.zhi, iV p.rlo, iV p.rhi, .slice p.ra p.rs.length p.rc]) (by kernel_rfl) (fun w1 k1 h1 => load_in (base := 0) (off := 0) k1 (fun h => h) [.slice p.ba p.bs.length p.bc, iV p.zlo, iV p.zhi, iV p.rlo, iV p.rhi, .slice p.ra p.rs.length p.rc] (fun i u hi => by rw [Nat.zero_add]; exact cells_of_heap hbp i u hi) (by kernel_rfl)) ?_
  cases hd1 : p.ok with
  | false =>
    exact run_panics rfl (Nat.le_refl _) 36 #[.agg #[.slice p.ba p.bs.length p.bc, iV p.zlo, iV p.zhi, iV p.rlo, iV p.rhi, .slice p.ra p.rs.length p.rc]] (some 3) (pe 1) (by kernel_rfl) (fun w1 k1 h1 => (by have h := needPair_any p w1 (hp.keep (k1.keeps (fun _ h => h))); rw [hd1] at h; exact h)) (fun w1 k1 h1 => (by unfold clashR; rw [hd1]; exact ⟨rfl, k1.keeps (fun _ h => h)⟩))
  | true =>
    have hF := Pr.fine hd1
    refine run_ret1 36 #[.agg #[.slice p.ba p.bs.length p.bc, iV p.zlo, iV p.zhi, iV p.rlo, iV p.rhi, .slice p.ra p.rs.length p.rc]] (some 3) (.tuple #[]) (by kernel_rfl) (fun w1 k1 h1 => (by have h := needPair_any p w1 (hp.keep (k1.keeps (fun _ h => h))); rw [hd1] at h; exact h)) ?_
    refine run_auto [] 3 [] [] [0, 1] [] (st' := ⟨[(0, pA bp), (1, iV 0)], []⟩) (acc := []) (by kernel_rfl) (by kernel_rfl) trivial ?_
    refine run_v (Instr.loadAt 30 (pA bp) >>= fun v => pure (Next.value v)) (some 4) (.agg #[.slice p.ba p.bs.length p.bc, iV p.zlo, iV p.zhi, iV p.rlo, iV p.rhi, .slice p.ra p.rs.length p.rc]) (by kernel_rfl) (fun w1 k1 h1 => load_in (base := 0) (off := 0) k1 (fun h => h) [.slice p.ba p.bs.length p.bc, iV p.zlo, iV p.zhi, iV p.rlo, iV p.rhi, .slice p.ra p.rs.length p.rc] (fun i u hi => by rw [Nat.zero_add]; exact cells_of_heap hbp i u hi) (by kernel_rfl)) ?_
    cases hd2 : p.n.agreeB with
    | false =>
      refine run_ret1 56 #[.agg #[.slice p.ba p.bs.length p.bc, iV p.zlo, iV p.zhi, iV p.rlo, iV p.rhi, .slice p.ra p.rs.length p.rc]] (some 5) (iV ((p.n.clashL : Nat) : Int)) (by kernel_rfl) (fun w1 k1 h1 => (by have h := fewestClashing_any p w1 (hp.keep (k1.keeps (fun _ h => h))) hF; unfold clashR0 at h; rw [hd2] at h; exact h)) ?_
      refine run_auto [] 2 [] [] [1] [] (st' := ⟨[(1, iV ((p.n.clashL : Nat) : Int))], []⟩) (acc := []) (by kernel_rfl) (by kernel_rfl) trivial ?_
      refine run_end (fn := f55) rfl (Nat.le_refl _) (by kernel_rfl) [] [iV ((p.n.clashL : Nat) : Int)] (e := []) (by kernel_rfl) trivial (fun w1 k1 h1 => ?_)
      unfold clashR
      rw [hd1, hd2]
      exact ⟨rfl, k1.keeps (fun _ h => h)⟩
    | true =>
      exact run_panics rfl (Nat.le_refl _) 56 #[.agg #[.slice p.ba p.bs.length p.bc, iV p.zlo, iV p.zhi, iV p.rlo, iV p.rhi, .slice p.ra p.rs.length p.rc]] (some 5) (pe 4) (by kernel_rfl) (fun w1 k1 h1 => (by have h := fewestClashing_any p w1 (hp.keep (k1.keeps (fun _ h => h))) hF; unfold clashR0 at h; rw [hd2] at h; exact h)) (fun w1 k1 h1 => (by unfold clashR; rw [hd1, hd2]; exact ⟨rfl, k1.keeps (fun _ h => h)⟩))

set_option maxRecDepth 100000 in
theorem Wrong_any (p : Pr) (w : World) (hp : p.In w) : Calls Try.prog 16 #[.agg #[.slice p.ba p.bs.length p.bc, .int .i64 p.zlo, .int .i64 p.zhi, .int .i64 p.rlo, .int .i64 p.rhi, .slice p.ra p.rs.length p.rc]] w (Ret (.tuple #[.int .i64 ((bitsN (seA (wrongR p)) : Nat) : Int), .int .i64 ((seA (wrongR p) : Nat) : Int), .int .i64 (erA (wrongR p))]) w) := by
  have hlt := wrongR_lt p
  refine calls_run (fn := f16) (c := (f16.body).getD .skip) [.agg #[.slice p.ba p.bs.length p.bc, .int .i64 p.zlo, .int .i64 p.zhi, .int .i64 p.rlo, .int .i64 p.rhi, .slice p.ra p.rs.length p.rc]] func16 (by kernel_rfl) (fun _ => False) [] (fun _ h => by cases h) (List.Pairwise.nil) 15 (by kernel_rfl) (by simp) ?_
  refine run_auto [] 2 [] [] [0] [] (st' := ⟨[(0, .agg #[.slice p.ba p.bs.length p.bc, iV p.zlo, iV p.zhi, iV p.rlo, iV p.rhi, .slice p.ra p.rs.length p.rc])], []⟩) (acc := []) (by kernel_rfl) (by kernel_rfl) trivial ?_
  refine run_new (aO #[.slice p.ba p.bs.length p.bc, iV p.zlo, iV p.zhi, iV p.rlo, iV p.rhi, .slice p.ra p.rs.length p.rc] 30) (fun b1 => pA b1) (some 1) (fun _ => by kernel_rfl) (fun b1 hb1 => ?_)
  refine run_auto [] 7 [] [] [2, 3, 4, 7] [0] (st' := ⟨[(2, iV 0), (3, iV 0), (4, iV 0), (7, .func (.func 52) #[] #[pA b1])], [(b1, aO #[.slice p.ba p.bs.length p.bc, iV p.zlo, iV p.zhi, iV p.rlo, iV p.rhi, .slice p.ra p.rs.length p.rc] 30)]⟩) (acc := []) (by kernel_rfl) (by kernel_rfl) trivial ?_
  refine run_ret1 51 #[.func (.func 52) #[] #[pA b1]] (some 8) (.tuple #[iV ((seA (wrongR p) : Nat) : Int), iV (erA (wrongR p))]) (by kernel_rfl) (fun w1 k1 h1 => answer_set 52 #[pA b1] w1 (wrongR p) (fun _ => by kernel_rfl) (fun w2 kk => wrongW_any p b1 w2 ((hp.keep (k1.keeps (fun _ h => h))).keep kk) ((kk.heap (Array.getElem?_eq_some_iff.1 (h1 (b1, aO #[.slice p.ba p.bs.length p.bc, iV p.zlo, iV p.zhi, iV p.rlo, iV p.rhi, .slice p.ra p.rs.length p.rc] 30) (List.mem_of_getElem? (i := 0) (by kernel_rfl)))).1).trans (h1 (b1, aO #[.slice p.ba p.bs.length p.bc, iV p.zlo, iV p.zhi, iV p.rlo, iV p.rhi, .slice p.ra p.rs.length p.rc] 30) (List.mem_of_getElem? (i := 0) (by kernel_rfl)))))) ?_
  refine run_auto [] 9 [] [] [2, 3, 4, 5, 11] [] (st' := ⟨[(2, iV 0), (3, iV 0), (4, iV (erA (wrongR p))), (5, iV ((seA (wrongR p) : Nat) : Int)), (11, iV ((seA (wrongR p) : Nat) : Int))], []⟩) (acc := []) (by kernel_rfl) (by kernel_rfl) trivial ?_
  refine run_ret1 54 #[iV ((seA (wrongR p) : Nat) : Int)] (some 12) (iV ((bitsN (seA (wrongR p) : Nat) : Nat) : Int)) (by kernel_rfl) (fun w1 k1 h1 => size_any (seA (wrongR p) : Nat) (by omega) w1) ?_
  refine run_auto [] 6 [] [] [2, 3, 4] [] (st' := ⟨[(2, iV ((bitsN (seA (wrongR p) : Nat) : Nat) : Int)), (3, iV ((seA (wrongR p) : Nat) : Int)), (4, iV (erA (wrongR p)))], []⟩) (acc := []) (by kernel_rfl) (by kernel_rfl) trivial ?_
  refine run_end (fn := f16) rfl (Nat.le_refl _) (by kernel_rfl) [] [iV ((bitsN (seA (wrongR p) : Nat) : Nat) : Int), iV ((seA (wrongR p) : Nat) : Int), iV (erA (wrongR p))] (e := []) (by kernel_rfl) trivial (fun w1 k1 h1 => ?_)
  exact ⟨rfl, k1.keeps (fun _ h => h)⟩

set_option maxRecDepth 100000 in
theorem Clash_any (p : Pr) (w : World) (hp : p.In w) : Calls Try.prog 17 #[.agg #[.slice p.ba p.bs.length p.bc, .int .i64 p.zlo, .int .i64 p.zhi, .int .i64 p.rlo, .int .i64 p.rhi, .slice p.ra p.rs.length p.rc]] w (Ret (.tuple #[.int .i64 ((seA (clashR p) : Nat) : Int), .int .i64 (erA (clashR p))]) w) := by
  refine calls_run (fn := f17) (c := (f17.body).getD .skip) [.agg #[.slice p.ba p.bs.length p.bc, .int .i64 p.zlo, .int .i64 p.zhi, .int .i64 p.rlo, .int .i64 p.rhi, .slice p.ra p.rs.length p.rc]] func17 (by kernel_rfl) (fun _ => False) [] (fun _ h => by cases h) (List.Pairwise.nil) 8 (by kernel_rfl) (by simp) ?_
  refine run_auto [] 2 [] [] [0] [] (st' := ⟨[(0, .agg #[.slice p.ba p.bs.length p.bc, iV p.zlo, iV p.zhi, iV p.rlo, iV p.rhi, .slice p.ra p.rs.length p.rc])], []⟩) (acc := []) (by kernel_rfl) (by kernel_rfl) trivial ?_
  refine run_new (aO #[.slice p.ba p.bs.length p.bc, iV p.zlo, iV p.zhi, iV p.rlo, iV p.rhi, .slice p.ra p.rs.length p.rc] 30) (fun b1 => pA b1) (some 1) (fun _ => by kernel_rfl) (fun b1 hb1 => ?_)
  refine run_auto [] 6 [] [] [2, 3, 4] [0] (st' := ⟨[(2, iV 0), (3, iV 0), (4, .func (.func 55) #[] #[pA b1])], [(b1, aO #[.slice p.ba p.bs.length p.bc, iV p.zlo, iV p.zhi, iV p.rlo, iV p.rhi, .slice p.ra p.rs.length p.rc] 30)]⟩) (acc := []) (by kernel_rfl) (by kernel_rfl) trivial ?_
  refine run_ret1 48 #[.func (.func 55) #[] #[pA b1]] (some 5) (.tuple #[iV ((seA (clashR p) : Nat) : Int), iV (erA (clashR p))]) (by kernel_rfl) (fun w1 k1 h1 => answer_int 55 #[pA b1] w1 (clashR p) (fun _ => by kernel_rfl) (fun w2 kk => clashW_any p b1 w2 ((hp.keep (k1.keeps (fun _ h => h))).keep kk) ((kk.heap (Array.getElem?_eq_some_iff.1 (h1 (b1, aO #[.slice p.ba p.bs.length p.bc, iV p.zlo, iV p.zhi, iV p.rlo, iV p.rhi, .slice p.ra p.rs.length p.rc] 30) (List.mem_of_getElem? (i := 0) (by kernel_rfl)))).1).trans (h1 (b1, aO #[.slice p.ba p.bs.length p.bc, iV p.zlo, iV p.zhi, iV p.rlo, iV p.rhi, .slice p.ra p.rs.length p.rc] 30) (List.mem_of_getElem? (i := 0) (by kernel_rfl)))))) ?_
  refine run_auto [] 5 [] [] [2, 3] [] (st' := ⟨[(2, iV ((seA (clashR p) : Nat) : Int)), (3, iV (erA (clashR p)))], []⟩) (acc := []) (by kernel_rfl) (by kernel_rfl) trivial ?_
  refine run_end (fn := f17) rfl (Nat.le_refl _) (by kernel_rfl) [] [iV ((seA (clashR p) : Nat) : Int), iV (erA (clashR p))] (e := []) (by kernel_rfl) trivial (fun w1 k1 h1 => ?_)
  exact ⟨rfl, k1.keeps (fun _ h => h)⟩

end Go.Proofs.Ythnhcacoegmdfaa

namespace Go.Proofs.Ythnhcacoegmdfaa
open Go.RowKit Go.Proofs.Try


/-- The blocks that are joined when b has been joined to those of s. -/
def joinF (rs : List Rdg) : Nat → Nat → Nat → Nat
  | 0, s, _ => s
  | n + 1, s, b => if s.testBit b then s else rs.foldl (fun s r => if r.a = b then joinF rs n s r.b else if r.b = b then joinF rs n s r.a else s) (s ||| 1 <<< b)
def joinS (rs : List Rdg) (n b s : Nat) (r : Rdg) : Nat := if r.a = b then joinF rs n s r.b else if r.b = b then joinF rs n s r.a else s
/-- When the first k readings have been gone through. -/
def joinK (rs : List Rdg) (n b s k : Nat) : Nat := (rs.take k).foldl (joinS rs n b) (s ||| 1 <<< b)
theorem joinF_no {rs : List Rdg} {n s b : Nat} (h : s.testBit b = false) : joinF rs (n + 1) s b = joinK rs n b s rs.length := by
  unfold joinK
  rw [joinF, if_neg (by rw [h]; simp), List.take_length]
  rfl
theorem joinF_yes {rs : List Rdg} {n s b : Nat} (h : s.testBit b = true) : joinF rs (n + 1) s b = s := by
  rw [joinF, if_pos h]
theorem joinK_next {rs : List Rdg} {n b s k : Nat} {r : Rdg} (h : rs[k]? = some r) : joinK rs n b s (k + 1) = joinS rs n b (joinK rs n b s k) r := by
  unfold joinK
  rw [List.take_add_one, h, List.foldl_append]
  rfl
/-- What is in one set is in the other. -/
def Sub (s t : Nat) : Prop := ∀ i, s.testBit i = true → t.testBit i = true
theorem Sub.refl (s : Nat) : Sub s s := fun _ h => h
theorem Sub.trans {a b c : Nat} (h : Sub a b) (h' : Sub b c) : Sub a c := fun i hi => h' i (h i hi)
theorem bit_or (s b i : Nat) : (s ||| 1 <<< b).testBit i = (s.testBit i || decide (i = b)) := by
  rw [Nat.testBit_or, Nat.one_shiftLeft, Nat.testBit_two_pow]
  congr 1
  by_cases h : i = b
  · simp [h]
  · simp [h, Ne.symm h]
theorem sub_or (s b : Nat) : Sub s (s ||| 1 <<< b) := fun i h => by rw [bit_or, h]; rfl
theorem joinF_sub (rs : List Rdg) : ∀ (n s b : Nat), Sub s (joinF rs n s b)
  | 0, s, b => Sub.refl s
  | n + 1, s, b => by
    rw [joinF]
    split
    · exact Sub.refl s
    · have key : ∀ (l : List Rdg) (t : Nat), Sub s t → Sub s (l.foldl (fun s r => if r.a = b then joinF rs n s r.b else if r.b = b then joinF rs n s r.a else s) t) := by
        intro l
        induction l with
        | nil => exact fun t h => h
        | cons r l ih =>
          intro t h
          refine ih _ ?_
          dsimp only
          split
          · exact h.trans (joinF_sub rs n t _)
          · split
            · exact h.trans (joinF_sub rs n t _)
            · exact h
      exact key rs _ (sub_or s b)
theorem or_lt {s b : Nat} (hs : s < 32) (hb : b < 5) : s ||| 1 <<< b < 32 := by
  rw [Nat.one_shiftLeft]
  exact Nat.or_lt_two_pow (n := 5) hs (Nat.pow_lt_pow_right (by omega) hb)
theorem joinF_lt {rs : List Rdg} (hr : ∀ r ∈ rs, r.a < 5 ∧ r.b < 5) : ∀ (n s b : Nat), s < 32 → b < 5 → joinF rs n s b < 32
  | 0, s, b, hs, _ => hs
  | n + 1, s, b, hs, hb => by
    rw [joinF]
    split
    · exact hs
    · have key : ∀ (l : List Rdg), (∀ r ∈ l, r ∈ rs) → ∀ (t : Nat), t < 32 → l.foldl (fun s r => if r.a = b then joinF rs n s r.b else if r.b = b then joinF rs n s r.a else s) t < 32 := by
        intro l
        induction l with
        | nil => exact fun _ t h => h
        | cons r l ih =>
          intro hl t h
          refine ih (fun r h => hl r (List.mem_cons_of_mem _ h)) _ ?_
          have := hr r (hl r List.mem_cons_self)
          dsimp only
          split
          · exact joinF_lt hr n t _ h this.2
          · split
            · exact joinF_lt hr n t _ h this.1
            · exact h
      exact key rs (fun _ h => h) _ (or_lt hs hb)
/-- How many blocks are not joined. -/
def muJ (s : Nat) : Nat := (List.range 5).countP fun i => !s.testBit i
theorem muJ_sub {s t : Nat} (h : Sub s t) : muJ t ≤ muJ s := by
  unfold muJ
  refine List.countP_mono_left fun i _ hi => ?_
  cases hs : s.testBit i with
  | false => rfl
  | true => rw [h i hs] at hi; cases hi
theorem count_less {p q : Nat → Bool} {b : Nat} (h : ∀ x, q x = (p x && !decide (x = b))) (hb : p b = true) : ∀ l : List Nat, l.countP q ≤ l.countP p ∧ (b ∈ l → l.countP q < l.countP p)
  | [] => ⟨Nat.le_refl _, fun h => by cases h⟩
  | x :: l => by
    have ih := count_less h hb l
    rw [List.countP_cons, List.countP_cons, h x]
    by_cases e : x = b
    · subst e
      rw [hb]
      have : (true && !decide (x = x)) = false := by simp
      rw [this]
      simp only [Bool.false_eq_true, if_false, if_true]
      exact ⟨by omega, fun _ => by omega⟩
    · have h2 : b ∈ x :: l → b ∈ l := fun h => (List.mem_cons.1 h).resolve_left (Ne.symm e)
      have : (p x && !decide (x = b)) = p x := by simp [e]
      rw [this]
      exact ⟨by omega, fun h3 => by have := ih.2 (h2 h3); omega⟩
theorem muJ_or {s b : Nat} (hb : b < 5) (h : s.testBit b = false) : muJ (s ||| 1 <<< b) < muJ s :=
  (count_less (p := fun i => !s.testBit i) (q := fun i => !(s ||| 1 <<< b).testBit i) (b := b) (fun x => by rw [bit_or]; cases s.testBit x <;> simp) (by rw [h]; rfl) (List.range 5)).2 (List.mem_range.2 hb)
theorem joinK_sub (rs : List Rdg) (n b s k : Nat) : Sub (s ||| 1 <<< b) (joinK rs n b s k) := by
  unfold joinK
  generalize rs.take k = l
  have : ∀ (l : List Rdg) (t : Nat), Sub t (l.foldl (joinS rs n b) t) := by
    intro l
    induction l with
    | nil => exact fun t => Sub.refl t
    | cons r l ih =>
      intro t
      refine Sub.trans ?_ (ih _)
      unfold joinS
      split
      · exact joinF_sub rs n t _
      · split
        · exact joinF_sub rs n t _
        · exact Sub.refl t
  exact this l _
theorem joinK_lt {rs : List Rdg} (hr : ∀ r ∈ rs, r.a < 5 ∧ r.b < 5) (n b : Nat) {s : Nat} (hs : s < 32) (hb : b < 5) : ∀ k, joinK rs n b s k < 32
  | 0 => or_lt hs hb
  | k + 1 => by
    cases h : rs[k]? with
    | none =>
      have := joinK_lt hr n b hs hb k
      unfold joinK at this ⊢
      rwa [List.take_add_one, h, Option.toList_none, List.append_nil]
    | some r =>
      rw [joinK_next h]
      have h1 := hr r (List.mem_of_getElem? h)
      have h2 := joinK_lt hr n b hs hb k
      unfold joinS
      split
      · exact joinF_lt hr n _ _ h2 h1.2
      · split
        · exact joinF_lt hr n _ _ h2 h1.1
        · exact h2
/-- Groups and joined blocks, behind the first k blocks. -/
def grpS (rs : List Rdg) : Nat → Nat × Nat
  | 0 => (0, 0)
  | k + 1 => if (grpS rs k).1.testBit k then grpS rs k else (joinF rs 6 (grpS rs k).1 k, (grpS rs k).2 + 1)
theorem grpS_lt {rs : List Rdg} (hr : ∀ r ∈ rs, r.a < 5 ∧ r.b < 5) : ∀ k, k ≤ 5 → (grpS rs k).1 < 32 ∧ (grpS rs k).2 ≤ k
  | 0, _ => ⟨by show 0 < 32; omega, Nat.le_refl _⟩
  | k + 1, hk => by
    have := grpS_lt hr k (by omega)
    rw [grpS]
    split
    · exact ⟨this.1, by omega⟩
    · exact ⟨joinF_lt hr 6 _ k this.1 (by omega), by dsimp only; omega⟩
theorem muJ_le (s : Nat) : muJ s < 6 := Nat.lt_succ_of_le (List.countP_le_length (l := List.range 5))
theorem Pr.InD.keptD {p : Pr} {D : Nat → Prop} {w w' : World} (h : p.InD D w) (k : Kept D w w') : p.InD D w' := by
  refine ⟨fun hx => ?_, fun hx => ?_⟩
  · obtain ⟨b, o, e, hd, hc⟩ := h.bl hx
    exact ⟨b, o, e, hd, fun i hi => ⟨k.cell (hc i hi).1 hd, k.cell (hc i hi).2 hd⟩⟩
  · obtain ⟨b, o, e, hd, hc⟩ := h.rd hx
    exact ⟨b, o, e, hd, fun i hi => ⟨k.cell (hc i hi).1 hd, k.cell (hc i hi).2.1 hd, k.cell (hc i hi).2.2.1 hd, k.cell (hc i hi).2.2.2.1 hd, k.cell (hc i hi).2.2.2.2 hd⟩⟩
theorem Pr.Fine.rs5 {p : Pr} (h : p.Fine) : ∀ r ∈ p.n.rs, r.a < 5 ∧ r.b < 5 := by
  intro r hr
  have h1 := h.ok.rl r hr
  omega
set_option maxRecDepth 100000 in
theorem join_any (p : Pr) (hF : p.Fine) (bj bp bf : Nat) : ∀ (n s b : Nat) (w : World) (_hm : muJ s < n) (_hs : s < 32) (_hb : b < 5) (_hw : w.heap[bj]? = some (.cells #[.int .i64 ((s : Nat) : Int)] 98 (0, 0))) (_hin : p.InD (fun x => x = bj) w) (_hbp : w.heap[bp]? = some (.cells #[.slice p.ba p.bs.length p.bc, .int .i64 p.zlo, .int .i64 p.zhi, .int .i64 p.rlo, .int .i64 p.rhi, .slice p.ra p.rs.length p.rc] 30 (0, 0))) (_hbf : w.heap[bf]? = some (.cells #[.func (.func 82) #[] #[.pointer (some ⟨bj, 0, none⟩), .pointer (some ⟨bp, 0, none⟩), .pointer (some ⟨bf, 0, none⟩)]] 86 (0, 0))) (_hnp : ¬ bp = bj) (_hnf : ¬ bf = bj), Calls Try.prog 82 #[.int .i64 (b : Int), .pointer (some ⟨bj, 0, none⟩), .pointer (some ⟨bp, 0, none⟩), .pointer (some ⟨bf, 0, none⟩)] w (Wr bj (.tuple #[]) (.cells #[.int .i64 ((joinF p.n.rs n s b : Nat) : Int)] 98 (0, 0)) w)
  | 0, _, _, _, hm, _, _, _, _, _, _, _, _ => absurd hm (Nat.not_lt_zero _)
  | n + 1, s, b, w, hm, hs, hb, hw, hin, hbp, hbf, hnp, hnf => by
    have hr5 := hF.rs5
    have h8 := hF.r8
    have h5 := hF.b5
    refine calls_run (fn := f82) (c := (f82.body).getD .skip) [.int .i64 (b : Int), .pointer (some ⟨bj, 0, none⟩), .pointer (some ⟨bp, 0, none⟩), .pointer (some ⟨bf, 0, none⟩)] func82 (by kernel_rfl) (fun x => x = bj) [(bj, .cells #[.int .i64 ((s : Nat) : Int)] 98 (0, 0))] (fun p hp => by rcases List.mem_singleton.1 hp with rfl; exact ⟨hw, rfl, rfl⟩) (List.pairwise_singleton _ _) 39 (by kernel_rfl) (by simp) ?_
    refine run_auto [] 5 [] [0] [0, 1, 2, 3, 7, 8] [0] (st' := ⟨[(0, .int .i64 (b : Int)), (1, .pointer (some ⟨bj, 0, none⟩)), (2, .pointer (some ⟨bp, 0, none⟩)), (3, .pointer (some ⟨bf, 0, none⟩)), (7, .int .i64 (s : Int)), (8, .int .i64 (b : Int))], [(bj, .cells #[.int .i64 (s : Int)] 98 (0, 0))]⟩) (acc := [(.pointer (some ⟨bj, 0, none⟩), .pointer (some ⟨bj, 0, none⟩))]) (by kernel_rfl) (by kernel_rfl) ⟨rfl, trivial⟩ ?_
    cases hd1 : (s.testBit b) with
    | false =>
      have hmu := muJ_or hb hd1
      refine run_ret1 83 #[.int .i64 (s : Int), .int .i64 (b : Int)] (some 9) (.bool false) (by kernel_rfl) (fun w1 k1 h1 => (by have h := has_any s b (by omega) (by omega) w1; rw [hd1] at h; exact h)) ?_
      refine run_auto [] 4 [false] [] [0, 1, 2, 3] [0] (st' := ⟨[(0, .int .i64 (b : Int)), (1, .pointer (some ⟨bj, 0, none⟩)), (2, .pointer (some ⟨bp, 0, none⟩)), (3, .pointer (some ⟨bf, 0, none⟩))], [(bj, .cells #[.int .i64 (s : Int)] 98 (0, 0))]⟩) (acc := [(.bool false, .bool false)]) (by kernel_rfl) (by kernel_rfl) ⟨rfl, trivial⟩ ?_
      refine draw 5 [{ val := fun _ => .int .i64 (s : Int), slots := [1], reads := [0] },
              { val := fun _ => .int .i64 (b : Int), slots := [0] },
              { val := fun _ => .int .i64 ((1 <<< b : Nat) : Int), slots := [11] },
              { val := fun _ => .int .i64 ((s ||| (1 <<< b : Nat) : Nat) : Int), slots := [10, 12] },
              { upd := [(0, fun l => .cells #[.int .i64 ((s ||| (1 <<< b : Nat) : Nat) : Int)] 98 (0, 0))], slots := [1, 13], reads := [0] }] [[], [], [1], [0, 1, 2], [0, 1, 2, 3]] (by kernel_rfl) (by kernel_rfl) (by kernel_rfl) (by kernel_rfl) [0, 2, 3] [0] (by kernel_rfl)
              ⟨⟨⟨⟨⟨trivial,
              tri_quiet (fun β => []) [0] [0] (fun β => [(.pointer (some ⟨bj, 0, none⟩), .pointer (some ⟨bj, 0, none⟩))]) (by kernel_rfl) (fun β extra => by kernel_rfl) (by kernel_rfl) (fun β => ⟨rfl, trivial⟩)⟩,
              tri_quiet (fun β => []) [] [] (fun β => []) (by kernel_rfl) (fun β extra => by kernel_rfl) (by kernel_rfl) (fun β => trivial)⟩,
              tri_v (fun β => (binOp .shl 98 (.int .i64 (1 : Nat)) (.int .i64 (b : Nat)) >>= fun v => pure (Next.value v))) (by kernel_rfl) (fun β extra => by kernel_rfl) (fun β => by kernel_rfl) (fun β w1 k1 h1 => shl_run 1 b (by omega) (by have := shl_le (k := b) (by omega); omega))⟩,
              tri_quiet (fun β => [(13, .int .i64 ((s ||| (1 <<< b : Nat) : Nat) : Int))]) [] [] (fun β => [(.int .i64 (bits .or .i64 (s : Int) ((1 <<< b : Nat) : Int)), .int .i64 ((s ||| (1 <<< b : Nat) : Nat) : Int))]) (by kernel_rfl) (fun β extra => by kernel_rfl) (by kernel_rfl) (fun β => ⟨(or_nat s (1 <<< b : Nat) (by omega) (by have := shl_le (k := b) (by omega); omega)), trivial⟩)⟩,
              tri_quiet (fun β => []) [0] [0] (fun β => [(.pointer (some ⟨bj, 0, none⟩), .pointer (some ⟨bj, 0, none⟩))]) (by kernel_rfl) (fun β extra => by kernel_rfl) (by kernel_rfl) (fun β => ⟨rfl, trivial⟩)⟩
              (fun β => ⟨[(0, .int .i64 (b : Int)), (2, .pointer (some ⟨bp, 0, none⟩)), (3, .pointer (some ⟨bf, 0, none⟩))], [(bj, .cells #[.int .i64 ((s ||| (1 <<< b : Nat) : Nat) : Int)] 98 (0, 0))]⟩) (fun β => by kernel_rfl) (fun β1 => ?_)
      refine run_auto [] 3 [] [] [0, 3, 14] [0] (st' := ⟨[(0, .int .i64 (b : Int)), (3, .pointer (some ⟨bf, 0, none⟩)), (14, .pointer (some ⟨bp, 5, none⟩))], [(bj, .cells #[.int .i64 ((s ||| (1 <<< b : Nat) : Nat) : Int)] 98 (0, 0))]⟩) (acc := []) (by kernel_rfl) (by kernel_rfl) trivial ?_
      refine run_v (Instr.loadAt 28 (.pointer (some ⟨bp, 5, none⟩)) >>= fun v => pure (Next.value v)) (some 15) (.slice p.ra p.rs.length p.rc) (by kernel_rfl) (fun w1 k1 h1 => load_in (base := 0) (off := 5) k1 hnp [.slice p.ba p.bs.length p.bc, .int .i64 p.zlo, .int .i64 p.zhi, .int .i64 p.rlo, .int .i64 p.rhi, .slice p.ra p.rs.length p.rc] (fun i u hi => by rw [Nat.zero_add]; exact cells_of_heap hbp i u hi) (by kernel_rfl)) ?_
      refine run_auto [] 4 [] [] [0, 3, 15, 16, 17] [0] (st' := ⟨[(0, .int .i64 (b : Int)), (3, .pointer (some ⟨bf, 0, none⟩)), (15, .slice p.ra p.rs.length p.rc), (16, .int .i64 (p.rs.length : Int)), (17, .int .i64 0)], [(bj, .cells #[.int .i64 ((s ||| (1 <<< b : Nat) : Nat) : Int)] 98 (0, 0))]⟩) (acc := []) (by kernel_rfl) (by kernel_rfl) trivial ?_
      refine run_auto [] 0 [] [] [0, 3, 15, 16, 17] [0] (st' := ⟨[(0, .int .i64 (b : Int)), (3, .pointer (some ⟨bf, 0, none⟩)), (15, .slice p.ra p.rs.length p.rc), (16, .int .i64 (p.rs.length : Int)), (17, .int .i64 0)], [(bj, .cells #[.int .i64 ((s ||| (1 <<< b : Nat) : Nat) : Int)] 98 (0, 0))]⟩) (acc := []) (by kernel_rfl) (by kernel_rfl) trivial ?_
      refine run_loop (S := fun (k : Nat) => ⟨[(0, .int .i64 (b : Int)), (3, .pointer (some ⟨bf, 0, none⟩)), (15, .slice p.ra p.rs.length p.rc), (16, .int .i64 (p.rs.length : Int)), (17, .int .i64 (k : Int))], [(bj, .cells #[.int .i64 ((joinK p.n.rs n b s k : Nat) : Int)] 98 (0, 0))]⟩) (fun k => k ≤ p.rs.length) (fun k => p.rs.length - k) (0) (by kernel_rfl) (Nat.zero_le _) (by kernel_rfl) (fun k hI0 J0 hJ0 => ?_)
      cases hd2 : (decide ((k : Int) < (p.rs.length : Int))) with
      | false =>
        have hp2 := of_decide_eq_false hd2
        refine run_auto [(18, .bool false)] 7 [false] [] [] [0] (st' := ⟨[], [(bj, .cells #[.int .i64 ((joinK p.n.rs n b s k : Nat) : Int)] 98 (0, 0))]⟩) (acc := [(.bool false, .bool false), (.bool (decide ((k : Int) < (p.rs.length : Int))), .bool false)]) (by kernel_rfl) (by kernel_rfl) ⟨rfl, (bo hd2), trivial⟩ ?_
        refine run_end (fn := f82) rfl (Nat.le_refl _) (by kernel_rfl) [] [] (e := []) (by kernel_rfl) trivial (fun w1 k1 h1 => ?_)
        rw [joinF_no hd1]
        have hkl : k = p.n.rs.length := by rw [nrs_len]; omega
        rw [← hkl]
        exact ⟨rfl, k1, h1 (bj, _) (List.mem_of_getElem? (i := 0) rfl)⟩
      | true =>
        have hp2 := of_decide_eq_true hd2
        have hlt : k < p.rs.length := by omega
        obtain ⟨b_o, o, hba, hno, hc⟩ := hin.rd (by intro h; rw [h] at hlt; cases hlt)
        have hc := hc k hlt
        rw [hba] at hJ0 ⊢
        have hab := elN_a hF hlt
        have hrk : p.n.rs[k]? = some (elN p k) := rs_at hlt
        have hKlt := joinK_lt hr5 n b hs hb k
        have hKmu := muJ_sub (joinK_sub p.n.rs n b s k)
        refine run_auto [(18, .bool true)] 11 [true] [] [0, 3, 15, 16, 17] [0] (st' := ⟨[(0, .int .i64 (b : Int)), (3, .pointer (some ⟨bf, 0, none⟩)), (15, .slice (some ⟨b_o, o, none⟩) p.rs.length p.rc), (16, .int .i64 (p.rs.length : Int)), (17, .int .i64 (k : Int))], [(bj, .cells #[.int .i64 ((joinK p.n.rs n b s k : Nat) : Int)] 98 (0, 0))]⟩) (acc := [(.bool true, .bool true), (.bool (decide ((k : Int) < (p.rs.length : Int))), .bool true)]) (by kernel_rfl) (by kernel_rfl) ⟨rfl, (bo hd2), trivial⟩ ?_
        refine run_v (Instr.indexAt 28 (.slice (some ⟨b_o, o, none⟩) p.rs.length p.rc) (.int .i64 (k : Int)) >>= fun v => pure (Next.value v)) (some 19) (.pointer (some ⟨b_o, o + k * 5, none⟩)) (by kernel_rfl) (fun w1 k1 h1 => idx_run (e := 38) (n := 5) (by kernel_rfl) (by kernel_rfl) b_o o p.rs.length p.rc .i64 k hlt w1) ?_
        refine run_v (Instr.loadAt 38 (.pointer (some ⟨b_o, o + k * 5, none⟩)) >>= fun v => pure (Next.value v)) (some 20) (.agg #[.int .i64 (elR p.rs k).1, .int .i64 (elR p.rs k).2.1, .int .i64 (elR p.rs k).2.2.1, .int .i64 (elR p.rs k).2.2.2.1, .int .i64 (elR p.rs k).2.2.2.2]) (by kernel_rfl) (fun w1 k1 h1 => load_in (off := 0) k1 hno [.int .i64 (elR p.rs k).1, .int .i64 (elR p.rs k).2.1, .int .i64 (elR p.rs k).2.2.1, .int .i64 (elR p.rs k).2.2.2.1, .int .i64 (elR p.rs k).2.2.2.2] (c5 hc.1 hc.2.1 hc.2.2.1 hc.2.2.2.1 hc.2.2.2.2) (by kernel_rfl)) ?_
        refine run_new (.cells #[.int .i64 0, .int .i64 0, .int .i64 0, .int .i64 0, .int .i64 0] 38 (0, 0)) (fun b2 => .pointer (some ⟨b2, 0, none⟩)) (some 6) (fun _ => by kernel_rfl) (fun b2 hb2 => ?_)
        cases hd3 : ((b : Int) == (elR p.rs k).1) with
        | false =>
          have hp3 : ¬ (b : Int) = (elR p.rs k).1 := by simpa using hd3
          cases hd4 : ((b : Int) == (elR p.rs k).2.1) with
          | false =>
            have hp4 : ¬ (b : Int) = (elR p.rs k).2.1 := by simpa using hd4
            refine run_auto [(25, .bool false), (33, .bool false), (38, .int .i64 ((k + 1 : Nat) : Int))] 30 [false, false] [0, 0, 0] [0, 3, 15, 16, 17] [1] (st' := ⟨[(0, .int .i64 (b : Int)), (3, .pointer (some ⟨bf, 0, none⟩)), (15, .slice (some ⟨b_o, o, none⟩) p.rs.length p.rc), (16, .int .i64 (p.rs.length : Int)), (17, .int .i64 ((k + 1 : Nat) : Int))], [(bj, .cells #[.int .i64 ((joinK p.n.rs n b s k : Nat) : Int)] 98 (0, 0))]⟩) (acc := [(.int .i64 (IntKind.i64.wrap ((k : Int) + 1)), .int .i64 ((k + 1 : Nat) : Int)), (.bool false, .bool false), (.bool ((b : Int) == (elR p.rs k).2.1), .bool false), (.pointer (some ⟨b2, 0, none⟩), .pointer (some ⟨b2, 0, none⟩)), (.bool false, .bool false), (.bool ((b : Int) == (elR p.rs k).1), .bool false), (.pointer (some ⟨b2, 0, none⟩), .pointer (some ⟨b2, 0, none⟩)), (.pointer (some ⟨b2, 0, none⟩), .pointer (some ⟨b2, 0, none⟩))]) (by kernel_rfl) (by kernel_rfl) ⟨(wr (by omega) (by omega)), rfl, (bo hd4), rfl, rfl, (bo hd3), rfl, rfl, trivial⟩ ?_
            have hnext : joinK p.n.rs n b s (k + 1) = (joinK p.n.rs n b s k : Nat) := by
              rw [joinK_next hrk]
              unfold joinS
              rw [if_neg (by omega), if_neg (by omega)]
            rw [← hnext]
            exact run_round (by kernel_rfl) (hJ0 (k + 1) (by omega) (by omega))
          | true =>
            have hp4 : (b : Int) = (elR p.rs k).2.1 := by simpa using hd4
            refine run_auto [(25, .bool false), (33, .bool true)] 24 [false, true] [0, 0, 0] [0, 3, 15, 16, 17, 6] [0, 1] (st' := ⟨[(0, .int .i64 (b : Int)), (3, .pointer (some ⟨bf, 0, none⟩)), (15, .slice (some ⟨b_o, o, none⟩) p.rs.length p.rc), (16, .int .i64 (p.rs.length : Int)), (17, .int .i64 (k : Int)), (6, .pointer (some ⟨b2, 0, none⟩))], [(b2, .cells #[.int .i64 (elR p.rs k).1, .int .i64 (elR p.rs k).2.1, .int .i64 (elR p.rs k).2.2.1, .int .i64 (elR p.rs k).2.2.2.1, .int .i64 (elR p.rs k).2.2.2.2] 38 (0, 0)), (bj, .cells #[.int .i64 ((joinK p.n.rs n b s k : Nat) : Int)] 98 (0, 0))]⟩) (acc := [(.bool true, .bool true), (.bool ((b : Int) == (elR p.rs k).2.1), .bool true), (.pointer (some ⟨b2, 0, none⟩), .pointer (some ⟨b2, 0, none⟩)), (.bool false, .bool false), (.bool ((b : Int) == (elR p.rs k).1), .bool false), (.pointer (some ⟨b2, 0, none⟩), .pointer (some ⟨b2, 0, none⟩)), (.pointer (some ⟨b2, 0, none⟩), .pointer (some ⟨b2, 0, none⟩))]) (by kernel_rfl) (by kernel_rfl) ⟨rfl, (bo hd4), rfl, rfl, (bo hd3), rfl, rfl, trivial⟩ ?_
            refine run_v (Instr.loadAt 86 (.pointer (some ⟨bf, 0, none⟩)) >>= fun v => pure (Next.value v)) (some 34) (.func (.func 82) #[] #[.pointer (some ⟨bj, 0, none⟩), .pointer (some ⟨bp, 0, none⟩), .pointer (some ⟨bf, 0, none⟩)]) (by kernel_rfl) (fun w1 k1 h1 => load_in (base := 0) (off := 0) k1 hnf [.func (.func 82) #[] #[.pointer (some ⟨bj, 0, none⟩), .pointer (some ⟨bp, 0, none⟩), .pointer (some ⟨bf, 0, none⟩)]] (fun i u hi => by rw [Nat.zero_add]; exact cells_of_heap hbf i u hi) (by kernel_rfl)) ?_
            refine run_auto [] 2 [] [0] [0, 3, 15, 16, 17, 34, 36] [1] (st' := ⟨[(0, .int .i64 (b : Int)), (3, .pointer (some ⟨bf, 0, none⟩)), (15, .slice (some ⟨b_o, o, none⟩) p.rs.length p.rc), (16, .int .i64 (p.rs.length : Int)), (17, .int .i64 (k : Int)), (34, .func (.func 82) #[] #[.pointer (some ⟨bj, 0, none⟩), .pointer (some ⟨bp, 0, none⟩), .pointer (some ⟨bf, 0, none⟩)]), (36, .int .i64 (elR p.rs k).1)], [(bj, .cells #[.int .i64 ((joinK p.n.rs n b s k : Nat) : Int)] 98 (0, 0))]⟩) (acc := [(.pointer (some ⟨b2, 0, none⟩), .pointer (some ⟨b2, 0, none⟩))]) (by kernel_rfl) (by kernel_rfl) ⟨rfl, trivial⟩ ?_
            refine run_wr 82 #[.int .i64 (elR p.rs k).1, .pointer (some ⟨bj, 0, none⟩), .pointer (some ⟨bp, 0, none⟩), .pointer (some ⟨bf, 0, none⟩)] (some 37) (.tuple #[]) 0 bj (.cells #[.int .i64 ((joinK p.n.rs n b s k : Nat) : Int)] 98 (0, 0)) (.cells #[.int .i64 (((joinF p.n.rs n (joinK p.n.rs n b s k) (elN p k).a) : Nat) : Int)] 98 (0, 0)) (by kernel_rfl) (by kernel_rfl) (by kernel_rfl) (fun w1 k1 h1 => (by have h := join_any p hF bj bp bf n (joinK p.n.rs n b s k) (elN p k).a w1 (by omega) hKlt (by have := hr5 _ (List.mem_of_getElem? hrk); omega) (h1 (bj, .cells #[.int .i64 ((joinK p.n.rs n b s k : Nat) : Int)] 98 (0, 0)) (List.mem_of_getElem? (i := 0) (by kernel_rfl))) (hin.keptD k1) ((k1.block _ (Array.getElem?_eq_some_iff.1 hbp).1 hnp).trans hbp) ((k1.block _ (Array.getElem?_eq_some_iff.1 hbf).1 hnf).trans hbf) hnp hnf; rw [hab.1] at h; exact h)) ?_
            refine run_auto [(38, .int .i64 ((k + 1 : Nat) : Int))] 7 [] [] [0, 3, 15, 16, 17] [0] (st' := ⟨[(0, .int .i64 (b : Int)), (3, .pointer (some ⟨bf, 0, none⟩)), (15, .slice (some ⟨b_o, o, none⟩) p.rs.length p.rc), (16, .int .i64 (p.rs.length : Int)), (17, .int .i64 ((k + 1 : Nat) : Int))], [(bj, .cells #[.int .i64 (((joinF p.n.rs n (joinK p.n.rs n b s k) (elN p k).a) : Nat) : Int)] 98 (0, 0))]⟩) (acc := [(.int .i64 (IntKind.i64.wrap ((k : Int) + 1)), .int .i64 ((k + 1 : Nat) : Int))]) (by kernel_rfl) (by kernel_rfl) ⟨(wr (by omega) (by omega)), trivial⟩ ?_
            have hnext : joinK p.n.rs n b s (k + 1) = ((joinF p.n.rs n (joinK p.n.rs n b s k) (elN p k).a) : Nat) := by
              rw [joinK_next hrk]
              unfold joinS
              rw [if_neg (by omega), if_pos (by omega)]
            rw [← hnext]
            exact run_round (by kernel_rfl) (hJ0 (k + 1) (by omega) (by omega))
        | true =>
          have hp3 : (b : Int) = (elR p.rs k).1 := by simpa using hd3
          refine run_auto [(25, .bool true)] 16 [true] [0, 0] [0, 3, 15, 16, 17, 6] [0, 1] (st' := ⟨[(0, .int .i64 (b : Int)), (3, .pointer (some ⟨bf, 0, none⟩)), (15, .slice (some ⟨b_o, o, none⟩) p.rs.length p.rc), (16, .int .i64 (p.rs.length : Int)), (17, .int .i64 (k : Int)), (6, .pointer (some ⟨b2, 0, none⟩))], [(b2, .cells #[.int .i64 (elR p.rs k).1, .int .i64 (elR p.rs k).2.1, .int .i64 (elR p.rs k).2.2.1, .int .i64 (elR p.rs k).2.2.2.1, .int .i64 (elR p.rs k).2.2.2.2] 38 (0, 0)), (bj, .cells #[.int .i64 ((joinK p.n.rs n b s k : Nat) : Int)] 98 (0, 0))]⟩) (acc := [(.bool true, .bool true), (.bool ((b : Int) == (elR p.rs k).1), .bool true), (.pointer (some ⟨b2, 0, none⟩), .pointer (some ⟨b2, 0, none⟩)), (.pointer (some ⟨b2, 0, none⟩), .pointer (some ⟨b2, 0, none⟩))]) (by kernel_rfl) (by kernel_rfl) ⟨rfl, (bo hd3), rfl, rfl, trivial⟩ ?_
          refine run_v (Instr.loadAt 86 (.pointer (some ⟨bf, 0, none⟩)) >>= fun v => pure (Next.value v)) (some 26) (.func (.func 82) #[] #[.pointer (some ⟨bj, 0, none⟩), .pointer (some ⟨bp, 0, none⟩), .pointer (some ⟨bf, 0, none⟩)]) (by kernel_rfl) (fun w1 k1 h1 => load_in (base := 0) (off := 0) k1 hnf [.func (.func 82) #[] #[.pointer (some ⟨bj, 0, none⟩), .pointer (some ⟨bp, 0, none⟩), .pointer (some ⟨bf, 0, none⟩)]] (fun i u hi => by rw [Nat.zero_add]; exact cells_of_heap hbf i u hi) (by kernel_rfl)) ?_
          refine run_auto [] 2 [] [0] [0, 3, 15, 16, 17, 26, 28] [1] (st' := ⟨[(0, .int .i64 (b : Int)), (3, .pointer (some ⟨bf, 0, none⟩)), (15, .slice (some ⟨b_o, o, none⟩) p.rs.length p.rc), (16, .int .i64 (p.rs.length : Int)), (17, .int .i64 (k : Int)), (26, .func (.func 82) #[] #[.pointer (some ⟨bj, 0, none⟩), .pointer (some ⟨bp, 0, none⟩), .pointer (some ⟨bf, 0, none⟩)]), (28, .int .i64 (elR p.rs k).2.1)], [(bj, .cells #[.int .i64 ((joinK p.n.rs n b s k : Nat) : Int)] 98 (0, 0))]⟩) (acc := [(.pointer (some ⟨b2, 0, none⟩), .pointer (some ⟨b2, 0, none⟩))]) (by kernel_rfl) (by kernel_rfl) ⟨rfl, trivial⟩ ?_
          refine run_wr 82 #[.int .i64 (elR p.rs k).2.1, .pointer (some ⟨bj, 0, none⟩), .pointer (some ⟨bp, 0, none⟩), .pointer (some ⟨bf, 0, none⟩)] (some 29) (.tuple #[]) 0 bj (.cells #[.int .i64 ((joinK p.n.rs n b s k : Nat) : Int)] 98 (0, 0)) (.cells #[.int .i64 (((joinF p.n.rs n (joinK p.n.rs n b s k) (elN p k).b) : Nat) : Int)] 98 (0, 0)) (by kernel_rfl) (by kernel_rfl) (by kernel_rfl) (fun w1 k1 h1 => (by have h := join_any p hF bj bp bf n (joinK p.n.rs n b s k) (elN p k).b w1 (by omega) hKlt (by have := hr5 _ (List.mem_of_getElem? hrk); omega) (h1 (bj, .cells #[.int .i64 ((joinK p.n.rs n b s k : Nat) : Int)] 98 (0, 0)) (List.mem_of_getElem? (i := 0) (by kernel_rfl))) (hin.keptD k1) ((k1.block _ (Array.getElem?_eq_some_iff.1 hbp).1 hnp).trans hbp) ((k1.block _ (Array.getElem?_eq_some_iff.1 hbf).1 hnf).trans hbf) hnp hnf; rw [hab.2] at h; exact h)) ?_
          refine run_auto [(38, .int .i64 ((k + 1 : Nat) : Int))] 7 [] [] [0, 3, 15, 16, 17] [0] (st' := ⟨[(0, .int .i64 (b : Int)), (3, .pointer (some ⟨bf, 0, none⟩)), (15, .slice (some ⟨b_o, o, none⟩) p.rs.length p.rc), (16, .int .i64 (p.rs.length : Int)), (17, .int .i64 ((k + 1 : Nat) : Int))], [(bj, .cells #[.int .i64 (((joinF p.n.rs n (joinK p.n.rs n b s k) (elN p k).b) : Nat) : Int)] 98 (0, 0))]⟩) (acc := [(.int .i64 (IntKind.i64.wrap ((k : Int) + 1)), .int .i64 ((k + 1 : Nat) : Int))]) (by kernel_rfl) (by kernel_rfl) ⟨(wr (by omega) (by omega)), trivial⟩ ?_
          have hnext : joinK p.n.rs n b s (k + 1) = ((joinF p.n.rs n (joinK p.n.rs n b s k) (elN p k).b) : Nat) := by
            rw [joinK_next hrk]
            unfold joinS
            rw [if_pos (by omega)]
          rw [← hnext]
          exact run_round (by kernel_rfl) (hJ0 (k + 1) (by omega) (by omega))
    | true =>
      refine run_ret1 83 #[.int .i64 (s : Int), .int .i64 (b : Int)] (some 9) (.bool true) (by kernel_rfl) (fun w1 k1 h1 => (by have h := has_any s b (by omega) (by omega) w1; rw [hd1] at h; exact h)) ?_
      refine run_auto [] 2 [true] [] [0, 1, 2, 3] [0] (st' := ⟨[(0, .int .i64 (b : Int)), (1, .pointer (some ⟨bj, 0, none⟩)), (2, .pointer (some ⟨bp, 0, none⟩)), (3, .pointer (some ⟨bf, 0, none⟩))], [(bj, .cells #[.int .i64 (s : Int)] 98 (0, 0))]⟩) (acc := [(.bool true, .bool true)]) (by kernel_rfl) (by kernel_rfl) ⟨rfl, trivial⟩ ?_
      refine run_end (fn := f82) rfl (Nat.le_refl _) (by kernel_rfl) [] [] (e := []) (by kernel_rfl) trivial (fun w1 k1 h1 => ?_)
      rw [joinF_yes hd1]
      exact ⟨rfl, k1, h1 (bj, _) (List.mem_of_getElem? (i := 0) rfl)⟩
end Go.Proofs.Ythnhcacoegmdfaa

namespace Go.Proofs.Ythnhcacoegmdfaa
open Go.RowKit Go.Proofs.Try

set_option maxRecDepth 100000 in
theorem groups_any (p : Pr) (w : World) (hp : p.In w) (hF : p.Fine) : Calls Try.prog 50 #[.agg #[.slice p.ba p.bs.length p.bc, .int .i64 p.zlo, .int .i64 p.zhi, .int .i64 p.rlo, .int .i64 p.rhi, .slice p.ra p.rs.length p.rc]] w (RetI ((grpS p.n.rs p.bs.length).2 : Nat) w) := by
  have hr5 := hF.rs5
  have h5 := hF.b5
  refine calls_run (fn := f50) (c := (f50.body).getD .skip) [.agg #[.slice p.ba p.bs.length p.bc, .int .i64 p.zlo, .int .i64 p.zhi, .int .i64 p.rlo, .int .i64 p.rhi, .slice p.ra p.rs.length p.rc]] func50 (by kernel_rfl) (fun _ => False) [] (fun _ h => by cases h) (List.Pairwise.nil) 25 (by kernel_rfl) (by simp) ?_
  refine run_auto [] 2 [] [] [0] [] (st' := ⟨[(0, .agg #[.slice p.ba p.bs.length p.bc, iV p.zlo, iV p.zhi, iV p.rlo, iV p.rhi, .slice p.ra p.rs.length p.rc])], []⟩) (acc := []) (by kernel_rfl) (by kernel_rfl) trivial ?_
  refine run_new (aO #[.slice p.ba p.bs.length p.bc, iV p.zlo, iV p.zhi, iV p.rlo, iV p.rhi, .slice p.ra p.rs.length p.rc] 30) (fun b1 => pA b1) (some 1) (fun _ => by kernel_rfl) (fun b1 hb1 => ?_)
  refine run_auto [] 4 [] [] [1, 2] [0] (st' := ⟨[(1, pA b1), (2, iV 0)], [(b1, aO #[.slice p.ba p.bs.length p.bc, iV p.zlo, iV p.zhi, iV p.rlo, iV p.rhi, .slice p.ra p.rs.length p.rc] 30)]⟩) (acc := []) (by kernel_rfl) (by kernel_rfl) trivial ?_
  refine run_new (aO #[iV 0] 98) (fun b2 => pA b2) (some 3) (fun _ => by kernel_rfl) (fun b2 hb2 => ?_)
  refine run_auto [] 3 [] [] [1, 2, 3] [0, 1] (st' := ⟨[(1, pA b1), (2, iV 0), (3, pA b2)], [(b2, aO #[iV 0] 98), (b1, aO #[.slice p.ba p.bs.length p.bc, iV p.zlo, iV p.zhi, iV p.rlo, iV p.rhi, .slice p.ra p.rs.length p.rc] 30)]⟩) (acc := []) (by kernel_rfl) (by kernel_rfl) trivial ?_
  refine run_new (aO #[.nilFunc] 86) (fun b3 => pA b3) (some 4) (fun _ => by kernel_rfl) (fun b3 hb3 => ?_)
  refine run_auto [] 19 [] [0, 2] [2, 3, 4, 5, 10, 11] [0, 1, 2] (st' := ⟨[(2, iV 0), (3, pA b2), (4, pA b3), (5, iV 0), (10, iV (p.bs.length : Int)), (11, iV 0)], [(b3, aO #[.func (.func 82) #[] #[pA b2, pA b1, pA b3]] 86), (b2, aO #[iV 0] 98), (b1, aO #[.slice p.ba p.bs.length p.bc, iV p.zlo, iV p.zhi, iV p.rlo, iV p.rhi, .slice p.ra p.rs.length p.rc] 30)]⟩) (acc := [(pA b1, pA b1), (pA b3, pA b3)]) (by kernel_rfl) (by kernel_rfl) ⟨rfl, rfl, trivial⟩ ?_
  refine run_auto [] 0 [] [] [2, 3, 4, 5, 10, 11] [0, 1, 2] (st' := ⟨[(2, iV 0), (3, pA b2), (4, pA b3), (5, iV 0), (10, iV (p.bs.length : Int)), (11, iV 0)], [(b3, aO #[.func (.func 82) #[] #[pA b2, pA b1, pA b3]] 86), (b2, aO #[iV 0] 98), (b1, aO #[.slice p.ba p.bs.length p.bc, iV p.zlo, iV p.zhi, iV p.rlo, iV p.rhi, .slice p.ra p.rs.length p.rc] 30)]⟩) (acc := []) (by kernel_rfl) (by kernel_rfl) trivial ?_
  refine run_loop (S := fun (k : Nat) => ⟨[(2, iV 0), (3, pA b2), (4, pA b3), (5, iV ((grpS p.n.rs k).2 : Int)), (10, iV (p.bs.length : Int)), (11, iV (k : Int))], [(b3, aO #[.func (.func 82) #[] #[pA b2, pA b1, pA b3]] 86), (b2, aO #[iV (((grpS p.n.rs k).1 : Nat) : Int)] 98), (b1, aO #[.slice p.ba p.bs.length p.bc, iV p.zlo, iV p.zhi, iV p.rlo, iV p.rhi, .slice p.ra p.rs.length p.rc] 30)]⟩) (fun k => k ≤ p.bs.length) (fun k => p.bs.length - k) (0) (by kernel_rfl) (Nat.zero_le _) (by kernel_rfl) (fun k hI0 J0 hJ0 => ?_)
  have hG := grpS_lt hr5 k (by omega)
  cases hd1 : (decide ((k : Int) < (p.bs.length : Int))) with
  | false =>
    have hp1 := of_decide_eq_false hd1
    refine run_auto [(12, .bool false)] 12 [false] [] [2] [] (st' := ⟨[(2, iV ((grpS p.n.rs k).2 : Int))], []⟩) (acc := [(.bool false, .bool false), (.bool (decide ((k : Int) < (p.bs.length : Int))), .bool false)]) (by kernel_rfl) (by kernel_rfl) ⟨rfl, (bo hd1), trivial⟩ ?_
    refine run_end (fn := f50) rfl (Nat.le_refl _) (by kernel_rfl) [] [iV ((grpS p.n.rs k).2 : Int)] (e := []) (by kernel_rfl) trivial (fun w1 k1 h1 => ?_)
    exact ⟨by rw [show k = p.bs.length by omega]; rfl, k1.keeps (fun _ h => h)⟩
  | true =>
    have hp1 := of_decide_eq_true hd1
    refine run_auto [(12, .bool true)] 18 [true] [1] [2, 3, 4, 5, 10, 11, 6, 14, 15] [0, 1, 2] (st' := ⟨[(2, iV 0), (3, pA b2), (4, pA b3), (5, iV ((grpS p.n.rs k).2 : Int)), (10, iV (p.bs.length : Int)), (11, iV (k : Int)), (6, iV (k : Int)), (14, iV (((grpS p.n.rs k).1 : Nat) : Int)), (15, iV (k : Int))], [(b3, aO #[.func (.func 82) #[] #[pA b2, pA b1, pA b3]] 86), (b2, aO #[iV (((grpS p.n.rs k).1 : Nat) : Int)] 98), (b1, aO #[.slice p.ba p.bs.length p.bc, iV p.zlo, iV p.zhi, iV p.rlo, iV p.rhi, .slice p.ra p.rs.length p.rc] 30)]⟩) (acc := [(pA b2, pA b2), (.bool true, .bool true), (.bool (decide ((k : Int) < (p.bs.length : Int))), .bool true)]) (by kernel_rfl) (by kernel_rfl) ⟨rfl, rfl, (bo hd1), trivial⟩ ?_
    cases hd2 : (((grpS p.n.rs k).1 : Nat).testBit k) with
    | false =>
      refine run_ret1 83 #[iV (((grpS p.n.rs k).1 : Nat) : Int), iV (k : Int)] (some 16) (.bool false) (by kernel_rfl) (fun w1 k1 h1 => (by have h := has_any ((grpS p.n.rs k).1 : Nat) k (by omega) (by omega) w1; rw [hd2] at h; exact h)) ?_
      refine run_auto [(17, .bool true), (19, iV (((grpS p.n.rs k).2 : Int) + 1))] 12 [true] [0] [2, 3, 4, 5, 10, 11, 20, 21] [0, 1, 2] (st' := ⟨[(2, iV 0), (3, pA b2), (4, pA b3), (5, iV (((grpS p.n.rs k).2 : Int) + 1)), (10, iV (p.bs.length : Int)), (11, iV (k : Int)), (20, .func (.func 82) #[] #[pA b2, pA b1, pA b3]), (21, iV (k : Int))], [(b3, aO #[.func (.func 82) #[] #[pA b2, pA b1, pA b3]] 86), (b2, aO #[iV (((grpS p.n.rs k).1 : Nat) : Int)] 98), (b1, aO #[.slice p.ba p.bs.length p.bc, iV p.zlo, iV p.zhi, iV p.rlo, iV p.rhi, .slice p.ra p.rs.length p.rc] 30)]⟩) (acc := [(pA b3, pA b3), (iV (IntKind.i64.wrap (((grpS p.n.rs k).2 : Int) + 1)), iV (((grpS p.n.rs k).2 : Int) + 1)), (.bool true, .bool true), (.bool true, .bool true)]) (by kernel_rfl) (by kernel_rfl) ⟨rfl, (wr (by omega) (by omega)), rfl, rfl, trivial⟩ ?_
      refine run_wr 82 #[iV (k : Int), pA b2, pA b1, pA b3] (some 22) (.tuple #[]) 1 b2 (aO #[iV (((grpS p.n.rs k).1 : Nat) : Int)] 98) (aO #[iV ((joinF p.n.rs 6 (grpS p.n.rs k).1 k : Nat) : Int)] 98) (by kernel_rfl) (by kernel_rfl) (by kernel_rfl) (fun w1 k1 h1 => join_any p hF b2 b1 b3 6 (grpS p.n.rs k).1 k w1 (muJ_le _) hG.1 (by omega) (h1 (b2, aO #[iV (((grpS p.n.rs k).1 : Nat) : Int)] 98) (List.mem_of_getElem? (i := 1) (by kernel_rfl))) ((Pr.In.inD hp (fun b hb h => by dsimp only at hb2; omega)).kept k1 (fun _ h => h)) (h1 (b1, aO #[.slice p.ba p.bs.length p.bc, iV p.zlo, iV p.zhi, iV p.rlo, iV p.rhi, .slice p.ra p.rs.length p.rc] 30) (List.mem_of_getElem? (i := 2) (by kernel_rfl))) (h1 (b3, aO #[.func (.func 82) #[] #[pA b2, pA b1, pA b3]] 86) (List.mem_of_getElem? (i := 0) (by kernel_rfl))) (fun h => by have q1 := (h1 (b1, aO #[.slice p.ba p.bs.length p.bc, iV p.zlo, iV p.zhi, iV p.rlo, iV p.rhi, .slice p.ra p.rs.length p.rc] 30) (List.mem_of_getElem? (i := 2) (by kernel_rfl))); have q2 := (h1 (b2, aO #[iV (((grpS p.n.rs k).1 : Nat) : Int)] 98) (List.mem_of_getElem? (i := 1) (by kernel_rfl))); rw [h] at q1; rw [q1] at q2; simp at q2) (fun h => by have q1 := (h1 (b3, aO #[.func (.func 82) #[] #[pA b2, pA b1, pA b3]] 86) (List.mem_of_getElem? (i := 0) (by kernel_rfl))); have q2 := (h1 (b2, aO #[iV (((grpS p.n.rs k).1 : Nat) : Int)] 98) (List.mem_of_getElem? (i := 1) (by kernel_rfl))); rw [h] at q1; rw [q1] at q2; simp at q2)) ?_
      refine run_auto [(23, iV ((k + 1 : Nat) : Int))] 6 [] [] [2, 3, 4, 5, 10, 11] [0, 1, 2] (st' := ⟨[(2, iV 0), (3, pA b2), (4, pA b3), (5, iV (((grpS p.n.rs k).2 : Int) + 1)), (10, iV (p.bs.length : Int)), (11, iV ((k + 1 : Nat) : Int))], [(b3, aO #[.func (.func 82) #[] #[pA b2, pA b1, pA b3]] 86), (b2, aO #[iV ((joinF p.n.rs 6 (grpS p.n.rs k).1 k : Nat) : Int)] 98), (b1, aO #[.slice p.ba p.bs.length p.bc, iV p.zlo, iV p.zhi, iV p.rlo, iV p.rhi, .slice p.ra p.rs.length p.rc] 30)]⟩) (acc := [(iV (IntKind.i64.wrap ((k : Int) + 1)), iV ((k + 1 : Nat) : Int))]) (by kernel_rfl) (by kernel_rfl) ⟨(wr (by omega) (by omega)), trivial⟩ ?_
      have hg : grpS p.n.rs (k + 1) = if (grpS p.n.rs k).1.testBit k then (grpS p.n.rs k) else (joinF p.n.rs 6 (grpS p.n.rs k).1 k, (grpS p.n.rs k).2 + 1) := rfl
      rw [hd2] at hg
      simp only [Bool.false_eq_true, if_false] at hg
      have hj := hJ0 (k + 1) (by omega) (by omega)
      rw [hg] at hj
      exact run_round (by kernel_rfl) hj
    | true =>
      refine run_ret1 83 #[iV (((grpS p.n.rs k).1 : Nat) : Int), iV (k : Int)] (some 16) (.bool true) (by kernel_rfl) (fun w1 k1 h1 => (by have h := has_any ((grpS p.n.rs k).1 : Nat) k (by omega) (by omega) w1; rw [hd2] at h; exact h)) ?_
      refine run_auto [(17, .bool false), (23, iV ((k + 1 : Nat) : Int))] 9 [false] [] [2, 3, 4, 5, 10, 11] [0, 1, 2] (st' := ⟨[(2, iV 0), (3, pA b2), (4, pA b3), (5, iV ((grpS p.n.rs k).2 : Int)), (10, iV (p.bs.length : Int)), (11, iV ((k + 1 : Nat) : Int))], [(b3, aO #[.func (.func 82) #[] #[pA b2, pA b1, pA b3]] 86), (b2, aO #[iV (((grpS p.n.rs k).1 : Nat) : Int)] 98), (b1, aO #[.slice p.ba p.bs.length p.bc, iV p.zlo, iV p.zhi, iV p.rlo, iV p.rhi, .slice p.ra p.rs.length p.rc] 30)]⟩) (acc := [(iV (IntKind.i64.wrap ((k : Int) + 1)), iV ((k + 1 : Nat) : Int)), (.bool false, .bool false), (.bool false, .bool false)]) (by kernel_rfl) (by kernel_rfl) ⟨(wr (by omega) (by omega)), rfl, rfl, trivial⟩ ?_
      have hg : grpS p.n.rs (k + 1) = if (grpS p.n.rs k).1.testBit k then (grpS p.n.rs k) else (joinF p.n.rs 6 (grpS p.n.rs k).1 k, (grpS p.n.rs k).2 + 1) := rfl
      rw [hd2] at hg
      simp only [if_true] at hg
      have hj := hJ0 (k + 1) (by omega) (by omega)
      rw [hg] at hj
      exact run_round (by kernel_rfl) hj


def groupsR (p : Pr) : Sum Int Nat := bif p.ok then .inr (grpS p.n.rs p.bs.length).2 else .inl 1
set_option maxRecDepth 100000 in
theorem groupsW_any (p : Pr) (bp : Nat) (w : World) (hp : p.In w) (hbp : w.heap[bp]? = some (.cells #[.slice p.ba p.bs.length p.bc, .int .i64 p.zlo, .int .i64 p.zhi, .int .i64 p.rlo, .int .i64 p.rhi, .slice p.ra p.rs.length p.rc] 30 (0, 0))) : Calls Try.prog 49 #[.pointer (some ⟨bp, 0, none⟩)] w (WC (groupsR p) w) := by
  refine calls_run (fn := f49) (c := (f49.body).getD .skip) [.pointer (some ⟨bp, 0, none⟩)] func49 (by kernel_rfl) (fun _ => False) [] (fun _ h => by cases h) (List.Pairwise.nil) 6 (by kernel_rfl) (by simp) ?_
  refine run_auto [] 6 [] [] [0, 1] [] (st' := ⟨[(0, pA bp), (1, iV 0)], []⟩) (acc := []) (by kernel_rfl) (by kernel_rfl) trivial ?_
  refine run_v (Instr.loadAt 30 (pA bp) >>= fun v => pure (Next.value v)) (some 2) (.agg #[.slice p.ba p.bs.length p.bc, iV p.zlo, iV p.zhi, iV p.rlo, iV p.rhi, .slice p.ra p.rs.length p.rc]) (by kernel_rfl) (fun w1 k1 h1 => load_in (base := 0) (off := 0) k1 (fun h => h) [.slice p.ba p.bs.length p.bc, iV p.zlo, iV p.zhi, iV p.rlo, iV p.rhi, .slice p.ra p.rs.length p.rc] (fun i u hi => by rw [Nat.zero_add]; exact cells_of_heap hbp i u hi) (by kernel_rfl)) ?_
  cases hd1 : p.ok with
  | false =>
    exact run_panics rfl (Nat.le_refl _) 36 #[.agg #[.slice p.ba p.bs.length p.bc, iV p.zlo, iV p.zhi, iV p.rlo, iV p.rhi, .slice p.ra p.rs.length p.rc]] (some 3) (pe 1) (by kernel_rfl) (fun w1 k1 h1 => (by have h := needPair_any p w1 (hp.keep (k1.keeps (fun _ h => h))); rw [hd1] at h; exact h)) (fun w1 k1 h1 => (by unfold groupsR; rw [hd1]; exact ⟨rfl, k1.keeps (fun _ h => h)⟩))
  | true =>
    have hF := Pr.fine hd1
    refine run_ret1 36 #[.agg #[.slice p.ba p.bs.length p.bc, iV p.zlo, iV p.zhi, iV p.rlo, iV p.rhi, .slice p.ra p.rs.length p.rc]] (some 3) (.tuple #[]) (by kernel_rfl) (fun w1 k1 h1 => (by have h := needPair_any p w1 (hp.keep (k1.keeps (fun _ h => h))); rw [hd1] at h; exact h)) ?_
    refine run_auto [] 3 [] [] [0, 1] [] (st' := ⟨[(0, pA bp), (1, iV 0)], []⟩) (acc := []) (by kernel_rfl) (by kernel_rfl) trivial ?_
    refine run_v (Instr.loadAt 30 (pA bp) >>= fun v => pure (Next.value v)) (some 4) (.agg #[.slice p.ba p.bs.length p.bc, iV p.zlo, iV p.zhi, iV p.rlo, iV p.rhi, .slice p.ra p.rs.length p.rc]) (by kernel_rfl) (fun w1 k1 h1 => load_in (base := 0) (off := 0) k1 (fun h => h) [.slice p.ba p.bs.length p.bc, iV p.zlo, iV p.zhi, iV p.rlo, iV p.rhi, .slice p.ra p.rs.length p.rc] (fun i u hi => by rw [Nat.zero_add]; exact cells_of_heap hbp i u hi) (by kernel_rfl)) ?_
    refine run_ret1 50 #[.agg #[.slice p.ba p.bs.length p.bc, iV p.zlo, iV p.zhi, iV p.rlo, iV p.rhi, .slice p.ra p.rs.length p.rc]] (some 5) (iV (((grpS p.n.rs p.bs.length).2 : Nat) : Int)) (by kernel_rfl) (fun w1 k1 h1 => groups_any p w1 (hp.keep (k1.keeps (fun _ h => h))) hF) ?_
    refine run_auto [] 2 [] [] [1] [] (st' := ⟨[(1, iV (((grpS p.n.rs p.bs.length).2 : Nat) : Int))], []⟩) (acc := []) (by kernel_rfl) (by kernel_rfl) trivial ?_
    refine run_end (fn := f49) rfl (Nat.le_refl _) (by kernel_rfl) [] [iV (((grpS p.n.rs p.bs.length).2 : Nat) : Int)] (e := []) (by kernel_rfl) trivial (fun w1 k1 h1 => ?_)
    unfold groupsR
    rw [hd1]
    exact ⟨rfl, k1.keeps (fun _ h => h)⟩

set_option maxRecDepth 100000 in
theorem Groups_any (p : Pr) (w : World) (hp : p.In w) : Calls Try.prog 15 #[.agg #[.slice p.ba p.bs.length p.bc, .int .i64 p.zlo, .int .i64 p.zhi, .int .i64 p.rlo, .int .i64 p.rhi, .slice p.ra p.rs.length p.rc]] w (Ret (.tuple #[.int .i64 ((seA (groupsR p) : Nat) : Int), .int .i64 (erA (groupsR p))]) w) := by
  refine calls_run (fn := f15) (c := (f15.body).getD .skip) [.agg #[.slice p.ba p.bs.length p.bc, .int .i64 p.zlo, .int .i64 p.zhi, .int .i64 p.rlo, .int .i64 p.rhi, .slice p.ra p.rs.length p.rc]] func15 (by kernel_rfl) (fun _ => False) [] (fun _ h => by cases h) (List.Pairwise.nil) 8 (by kernel_rfl) (by simp) ?_
  refine run_auto [] 2 [] [] [0] [] (st' := ⟨[(0, .agg #[.slice p.ba p.bs.length p.bc, iV p.zlo, iV p.zhi, iV p.rlo, iV p.rhi, .slice p.ra p.rs.length p.rc])], []⟩) (acc := []) (by kernel_rfl) (by kernel_rfl) trivial ?_
  refine run_new (aO #[.slice p.ba p.bs.length p.bc, iV p.zlo, iV p.zhi, iV p.rlo, iV p.rhi, .slice p.ra p.rs.length p.rc] 30) (fun b1 => pA b1) (some 1) (fun _ => by kernel_rfl) (fun b1 hb1 => ?_)
  refine run_auto [] 6 [] [] [2, 3, 4] [0] (st' := ⟨[(2, iV 0), (3, iV 0), (4, .func (.func 49) #[] #[pA b1])], [(b1, aO #[.slice p.ba p.bs.length p.bc, iV p.zlo, iV p.zhi, iV p.rlo, iV p.rhi, .slice p.ra p.rs.length p.rc] 30)]⟩) (acc := []) (by kernel_rfl) (by kernel_rfl) trivial ?_
  refine run_ret1 48 #[.func (.func 49) #[] #[pA b1]] (some 5) (.tuple #[iV ((seA (groupsR p) : Nat) : Int), iV (erA (groupsR p))]) (by kernel_rfl) (fun w1 k1 h1 => answer_int 49 #[pA b1] w1 (groupsR p) (fun _ => by kernel_rfl) (fun w2 kk => groupsW_any p b1 w2 ((hp.keep (k1.keeps (fun _ h => h))).keep kk) ((kk.heap (Array.getElem?_eq_some_iff.1 (h1 (b1, aO #[.slice p.ba p.bs.length p.bc, iV p.zlo, iV p.zhi, iV p.rlo, iV p.rhi, .slice p.ra p.rs.length p.rc] 30) (List.mem_of_getElem? (i := 0) (by kernel_rfl)))).1).trans (h1 (b1, aO #[.slice p.ba p.bs.length p.bc, iV p.zlo, iV p.zhi, iV p.rlo, iV p.rhi, .slice p.ra p.rs.length p.rc] 30) (List.mem_of_getElem? (i := 0) (by kernel_rfl)))))) ?_
  refine run_auto [] 5 [] [] [2, 3] [] (st' := ⟨[(2, iV ((seA (groupsR p) : Nat) : Int)), (3, iV (erA (groupsR p)))], []⟩) (acc := []) (by kernel_rfl) (by kernel_rfl) trivial ?_
  refine run_end (fn := f15) rfl (Nat.le_refl _) (by kernel_rfl) [] [iV ((seA (groupsR p) : Nat) : Int), iV (erA (groupsR p))] (e := []) (by kernel_rfl) trivial (fun w1 k1 h1 => ?_)
  exact ⟨rfl, k1.keeps (fun _ h => h)⟩

end Go.Proofs.Ythnhcacoegmdfaa
