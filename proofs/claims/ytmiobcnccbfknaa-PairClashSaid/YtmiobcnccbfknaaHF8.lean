/-
  LAW: PairClash: do the readings of a set clash; how many are in a set.
-/
import Derived.Test.YtmiobcnccbfknaaHF7
namespace Go.Proofs.Ytmiobcnccbfknaa
open Go.RowKit Go.Proofs.Try


/-- The elements of which f is so, of the first j. -/
def keepU {α : Type} (f : Nat → Bool) (L : List α) (j : Nat) : List α := ((L.zipIdx.take j).filter (fun x => f x.2)).map (·.1)
theorem keepU_step {α : Type} {f : Nat → Bool} {L : List α} {j : Nat} (h : j < L.length) : keepU f L (j + 1) = keepU f L j ++ if f j then [L[j]] else [] := by
  unfold keepU
  rw [List.take_add_one, List.filter_append, List.map_append]
  congr 1
  rw [List.getElem?_eq_getElem (by simpa using h)]
  simp
  split <;> simp_all
theorem keepU_all {α : Type} (f : Nat → Bool) (L : List α) : keepU f L L.length = keptTo f L 0 := by
  unfold keepU
  rw [List.take_of_length_le (by simp), keptTo_zero]
theorem keepU_len {α : Type} (f : Nat → Bool) (L : List α) (j : Nat) : (keepU f L j).length ≤ L.length := by
  unfold keepU
  rw [List.length_map]
  refine Nat.le_trans (List.length_filter_le _ _) ?_
  rw [List.length_take, List.length_zipIdx]
  omega
theorem keepU_yes {f : Nat → Bool} {L : List Rw} {j : Nat} (h : j < L.length) (hf : f j = true) : keepU f L (j + 1) = keepU f L j ++ [elR L j] := by
  rw [keepU_step h, hf, if_pos rfl]
  unfold elR
  rw [List.getElem?_eq_getElem h]
  rfl
theorem keepU_no {α : Type} {f : Nat → Bool} {L : List α} {j : Nat} (h : j < L.length) (hf : f j = false) : keepU f L (j + 1) = keepU f L j := by
  rw [keepU_step h, hf]
  simp
/-- The pair without readings. -/
def Pr.bare (p : Pr) : Pr := { p with ra := none, rc := 0, rs := [] }
theorem Pr.In.bare {p : Pr} {w : World} (h : p.In w) : p.bare.In w := ⟨h.bl, fun h => absurd rfl h, h.ln, Nat.zero_le _⟩
theorem Pr.Fine.sub {p q : Pr} (h : p.Fine) (hb : q.bs = p.bs) (hz : q.zlo = p.zlo ∧ q.zhi = p.zhi ∧ q.rlo = p.rlo ∧ q.rhi = p.rhi) (hs : ∀ r ∈ q.rs, r ∈ p.rs) (hl : q.rs.length ≤ 8) : q.Fine := by
  obtain ⟨z1, z2, z3, z4⟩ := hz
  refine ⟨by rw [hb]; exact h.b1, by rw [hb]; exact h.b5, by rw [hb]; exact h.bl, by rw [z1, z2]; exact h.z, by rw [z1, z2]; exact h.zw, by rw [z3, z4]; exact h.r, by rw [z3, z4]; exact h.rw_, hl, fun k hk => ?_⟩
  obtain ⟨j, hj, e⟩ := List.getElem_of_mem (hs _ (elR_mem hk))
  have := h.rd j hj
  rw [elR_at (List.getElem?_eq_getElem hj), e] at this
  rw [hb]
  exact this
theorem keep_is {p q : Pr} {f : Nat → Bool} (hb : q.bs = p.bs) (hz : q.zlo = p.zlo ∧ q.zhi = p.zhi ∧ q.rlo = p.rlo ∧ q.rhi = p.rhi) (hr : q.rs = keptTo f p.rs 0) : q.n = p.n.keep f := by
  obtain ⟨z1, z2, z3, z4⟩ := hz
  unfold Pr.n Prn.keep
  rw [hb, z1, z2, z3, z4, hr, keepL_map]
theorem known_keep {p q : Pr} {f : Nat → Bool} (h : p.Fine) (hb : q.bs = p.bs) (hz : q.zlo = p.zlo ∧ q.zhi = p.zhi ∧ q.rlo = p.rlo ∧ q.rhi = p.rhi) (hr : q.rs = keptTo f p.rs 0) : knownR q 0 = bif (p.n.keep f).known.isEmpty then .inl 10 else .inr ((p.n.keep f).differA 0 5) := by
  have hq : q.Fine := h.sub hb hz (fun r hr' => keptTo_mem (hr ▸ hr')) (by rw [hr]; exact Nat.le_trans (keptTo_len f (Nat.zero_le _)).2 h.r8)
  have h0 : blkB 0 (q.bs.length : Int) = true := by have := hq.b1; exact blk_yes (a := 0) (by omega)
  unfold knownR
  rw [hq.okB, h0, keep_is hb hz hr]
  rfl
def clashB (p : Pr) (s : Nat) : Bool := (p.n.keep (inB s)).known.isEmpty
set_option maxRecDepth 100000 in
set_option maxHeartbeats 4000000 in
theorem clashc_any (p : Pr) (bp s : Nat) (hs : s < 256) (w : World) (hp : p.In w) (hF : p.Fine) (hbp : w.heap[bp]? = some (.cells #[.slice p.ba p.bs.length p.bc, .int .i64 p.zlo, .int .i64 p.zhi, .int .i64 p.rlo, .int .i64 p.rhi, .slice p.ra p.rs.length p.rc] 30 (0, 0))) : Calls Try.prog 31 #[.int .i64 (s : Int), .pointer (some ⟨bp, 0, none⟩)] w (RetB (clashB p s) w) := by
  have hr8 := hF.r8
  refine calls_run (fn := f31) (c := (f31.body).getD .skip) [.int .i64 (s : Int), .pointer (some ⟨bp, 0, none⟩)] func31 (by kernel_rfl) (fun _ => False) [] (fun _ h => by cases h) (List.Pairwise.nil) 38 (by kernel_rfl) (by simp) ?_
  refine run_auto [] 6 [] [] [0, 1, 3] [] (st' := ⟨[(0, .int .i64 (s : Int)), (1, .pointer (some ⟨bp, 0, none⟩)), (3, .bool false)], []⟩) (acc := []) (by kernel_rfl) (by kernel_rfl) trivial ?_
  refine run_v (Instr.loadAt 30 (.pointer (some ⟨bp, 0, none⟩)) >>= fun v => pure (Next.value v)) (some 9) (.agg #[.slice p.ba p.bs.length p.bc, .int .i64 p.zlo, .int .i64 p.zhi, .int .i64 p.rlo, .int .i64 p.rhi, .slice p.ra p.rs.length p.rc]) (by kernel_rfl) (fun w1 k1 h1 => load_in (base := 0) (off := 0) k1 (fun h => h) [.slice p.ba p.bs.length p.bc, .int .i64 p.zlo, .int .i64 p.zhi, .int .i64 p.rlo, .int .i64 p.rhi, .slice p.ra p.rs.length p.rc] (fun i u hi => by rw [Nat.zero_add]; exact cells_of_heap hbp i u hi) (by kernel_rfl)) ?_
  refine run_new (.cells #[.slice none 0 0, .int .i64 0, .int .i64 0, .int .i64 0, .int .i64 0, .slice none 0 0] 30 (0, 0)) (fun b1 => .pointer (some ⟨b1, 0, none⟩)) (some 4) (fun _ => by kernel_rfl) (fun b1 hb1 => ?_)
  refine run_auto [] 11 [] [0, 0] [0, 3, 4, 11] [0] (st' := ⟨[(0, .int .i64 (s : Int)), (3, .bool false), (4, .pointer (some ⟨b1, 0, none⟩)), (11, .pointer (some ⟨bp, 5, none⟩))], [(b1, .cells #[.slice p.ba p.bs.length p.bc, .int .i64 p.zlo, .int .i64 p.zhi, .int .i64 p.rlo, .int .i64 p.rhi, .slice none 0 0] 30 (0, 0))]⟩) (acc := [(.pointer (some ⟨b1, 0, none⟩), .pointer (some ⟨b1, 0, none⟩)), (.pointer (some ⟨b1, 0, none⟩), .pointer (some ⟨b1, 0, none⟩))]) (by kernel_rfl) (by kernel_rfl) ⟨rfl, rfl, trivial⟩ ?_
  refine run_v (Instr.loadAt 28 (.pointer (some ⟨bp, 5, none⟩)) >>= fun v => pure (Next.value v)) (some 12) (.slice p.ra p.rs.length p.rc) (by kernel_rfl) (fun w1 k1 h1 => load_in (base := 0) (off := 5) k1 (fun h => h) [.slice p.ba p.bs.length p.bc, .int .i64 p.zlo, .int .i64 p.zhi, .int .i64 p.rlo, .int .i64 p.rhi, .slice p.ra p.rs.length p.rc] (fun i u hi => by rw [Nat.zero_add]; exact cells_of_heap hbp i u hi) (by kernel_rfl)) ?_
  refine run_auto [] 4 [] [] [0, 3, 4, 12, 13, 14] [0] (st' := ⟨[(0, .int .i64 (s : Int)), (3, .bool false), (4, .pointer (some ⟨b1, 0, none⟩)), (12, .slice p.ra p.rs.length p.rc), (13, .int .i64 (p.rs.length : Int)), (14, .int .i64 0)], [(b1, .cells #[.slice p.ba p.bs.length p.bc, .int .i64 p.zlo, .int .i64 p.zhi, .int .i64 p.rlo, .int .i64 p.rhi, .slice none 0 0] 30 (0, 0))]⟩) (acc := []) (by kernel_rfl) (by kernel_rfl) trivial ?_
  refine run_auto [] 0 [] [] [0, 3, 4, 12, 13, 14] [0] (st' := ⟨[(0, .int .i64 (s : Int)), (3, .bool false), (4, .pointer (some ⟨b1, 0, none⟩)), (12, .slice p.ra p.rs.length p.rc), (13, .int .i64 (p.rs.length : Int)), (14, .int .i64 0)], [(b1, .cells #[.slice p.ba p.bs.length p.bc, .int .i64 p.zlo, .int .i64 p.zhi, .int .i64 p.rlo, .int .i64 p.rhi, .slice none 0 0] 30 (0, 0))]⟩) (acc := []) (by kernel_rfl) (by kernel_rfl) trivial ?_
  refine run_loop (S := fun (v : Nat × Option (Nat × Nat × List Value)) => match v with | (j, none) => ⟨[(0, .int .i64 (s : Int)), (3, .bool false), (4, .pointer (some ⟨b1, 0, none⟩)), (12, .slice p.ra p.rs.length p.rc), (13, .int .i64 (p.rs.length : Int)), (14, .int .i64 (j : Int))], [(b1, .cells #[.slice p.ba p.bs.length p.bc, .int .i64 p.zlo, .int .i64 p.zhi, .int .i64 p.rlo, .int .i64 p.rhi, .slice none 0 0] 30 (0, 0))]⟩ | (j, some (g, cap, sp)) => ⟨[(0, .int .i64 (s : Int)), (3, .bool false), (4, .pointer (some ⟨b1, 0, none⟩)), (12, .slice p.ra p.rs.length p.rc), (13, .int .i64 (p.rs.length : Int)), (14, .int .i64 (j : Int))], [(g, .cells ((keepU (inB s) p.rs j).flatMap rdR ++ sp).toArray 38 (0, 0)), (b1, .cells #[.slice p.ba p.bs.length p.bc, .int .i64 p.zlo, .int .i64 p.zhi, .int .i64 p.rlo, .int .i64 p.rhi, .slice (some ⟨g, 0, none⟩) ((keepU (inB s) p.rs j).length) cap] 30 (0, 0))]⟩) (fun v => v.1 ≤ p.rs.length ∧ match v.2 with | none => keepU (inB s) p.rs v.1 = [] | some (g, cap, sp) => (keepU (inB s) p.rs v.1).length ≤ cap ∧ cap ≤ maxLen ∧ ((keepU (inB s) p.rs v.1).flatMap rdR ++ sp).length = cap * 5 ∧ w.heap.size ≤ g) (fun v => p.rs.length - v.1) ((0, none)) (by kernel_rfl) (⟨Nat.zero_le _, rfl⟩) (by kernel_rfl) (fun v hI0 J0 hJ0 => ?_)
  obtain ⟨j, _ | ⟨g, cap, sp⟩⟩ := v
  · skip
    obtain ⟨hI1, hnil⟩ := hI0
    dsimp only at hI1 hnil
    cases hd1 : (decide ((j : Int) < (p.rs.length : Int))) with
    | false =>
      have hp1 := of_decide_eq_false hd1
      have hjl : j = p.rs.length := by omega
      refine run_auto [(15, .bool false)] 10 [false] [0] [3, 32] [] (st' := ⟨[(3, .bool false), (32, .agg #[.slice p.ba p.bs.length p.bc, .int .i64 p.zlo, .int .i64 p.zhi, .int .i64 p.rlo, .int .i64 p.rhi, .slice none 0 0])], []⟩) (acc := [(.pointer (some ⟨b1, 0, none⟩), .pointer (some ⟨b1, 0, none⟩)), (.bool false, .bool false), (.bool (decide ((j : Int) < (p.rs.length : Int))), .bool false)]) (by kernel_rfl) (by kernel_rfl) ⟨rfl, rfl, (bo hd1), trivial⟩ ?_
      cases hd2 : (clashB p s) with
      | false =>
        refine run_ret1 11 #[.agg #[.slice p.ba p.bs.length p.bc, .int .i64 p.zlo, .int .i64 p.zhi, .int .i64 p.rlo, .int .i64 p.rhi, .slice none 0 0], .int .i64 0] (some 33) (.tuple #[.agg #[.int .i64 (((p.n.keep (inB s)).differA 0 5).1), .int .i64 (((p.n.keep (inB s)).differA 0 5).2)], .int .i64 0]) (by kernel_rfl) (fun w1 k1 h1 => (by have h := Known_any p.bare 0 w1 (hp.keep (k1.keeps (fun _ h => h))).bare; rw [show knownR p.bare 0 = .inr ((p.n.keep (inB s)).differA 0 5) from (by rw [known_keep (q := p.bare) (f := inB s) hF rfl ⟨rfl, rfl, rfl, rfl⟩ (by rw [← keepU_all, ← hjl]; exact hnil.symm), show (p.n.keep (inB s)).known.isEmpty = false from hd2]; rfl)] at h; exact h)) ?_
        refine run_auto [] 3 [] [] [3, 34, 35] [] (st' := ⟨[(3, .bool false), (34, .agg #[.int .i64 (((p.n.keep (inB s)).differA 0 5).1), .int .i64 (((p.n.keep (inB s)).differA 0 5).2)]), (35, .int .i64 0)], []⟩) (acc := []) (by kernel_rfl) (by kernel_rfl) trivial ?_
        refine run_new (.cells #[.int .i64 0, .int .i64 0] 23 (0, 0)) (fun b2 => .pointer (some ⟨b2, 0, none⟩)) (some 7) (fun _ => by kernel_rfl) (fun b2 hb2 => ?_)
        refine run_auto [(37, .bool false)] 9 [] [0] [3] [] (st' := ⟨[(3, .bool false)], []⟩) (acc := [(.bool false, .bool false), (.pointer (some ⟨b2, 0, none⟩), .pointer (some ⟨b2, 0, none⟩))]) (by kernel_rfl) (by kernel_rfl) ⟨rfl, rfl, trivial⟩ ?_
        refine run_end (fn := f31) rfl (Nat.le_refl _) (by kernel_rfl) [] [.bool false] (e := []) (by kernel_rfl) trivial (fun w1 k1 h1 => ?_)
        exact ⟨rfl, k1.keeps (fun _ h => h)⟩
      | true =>
        refine run_ret1 11 #[.agg #[.slice p.ba p.bs.length p.bc, .int .i64 p.zlo, .int .i64 p.zhi, .int .i64 p.rlo, .int .i64 p.rhi, .slice none 0 0], .int .i64 0] (some 33) (.tuple #[.agg #[.int .i64 0, .int .i64 0], .int .i64 10]) (by kernel_rfl) (fun w1 k1 h1 => (by have h := Known_any p.bare 0 w1 (hp.keep (k1.keeps (fun _ h => h))).bare; rw [show knownR p.bare 0 = .inl 10 from (by rw [known_keep (q := p.bare) (f := inB s) hF rfl ⟨rfl, rfl, rfl, rfl⟩ (by rw [← keepU_all, ← hjl]; exact hnil.symm), show (p.n.keep (inB s)).known.isEmpty = true from hd2]; rfl)] at h; exact h)) ?_
        refine run_auto [] 3 [] [] [3, 34, 35] [] (st' := ⟨[(3, .bool false), (34, .agg #[.int .i64 0, .int .i64 0]), (35, .int .i64 10)], []⟩) (acc := []) (by kernel_rfl) (by kernel_rfl) trivial ?_
        refine run_new (.cells #[.int .i64 0, .int .i64 0] 23 (0, 0)) (fun b2 => .pointer (some ⟨b2, 0, none⟩)) (some 7) (fun _ => by kernel_rfl) (fun b2 hb2 => ?_)
        refine run_auto [(37, .bool true)] 9 [] [0] [3] [] (st' := ⟨[(3, .bool true)], []⟩) (acc := [(.bool true, .bool true), (.pointer (some ⟨b2, 0, none⟩), .pointer (some ⟨b2, 0, none⟩))]) (by kernel_rfl) (by kernel_rfl) ⟨rfl, rfl, trivial⟩ ?_
        refine run_end (fn := f31) rfl (Nat.le_refl _) (by kernel_rfl) [] [.bool true] (e := []) (by kernel_rfl) trivial (fun w1 k1 h1 => ?_)
        exact ⟨rfl, k1.keeps (fun _ h => h)⟩
    | true =>
      have hp1 := of_decide_eq_true hd1
      have hlt : j < p.rs.length := by omega
      obtain ⟨b_o, o, hba, hc⟩ := hp.rd (by intro h; rw [h] at hlt; cases hlt)
      have hc := hc j hlt
      refine run_auto [(15, .bool true)] 12 [true] [] [0, 3, 4, 12, 13, 14, 16] [0] (st' := ⟨[(0, .int .i64 (s : Int)), (3, .bool false), (4, .pointer (some ⟨b1, 0, none⟩)), (12, .slice p.ra p.rs.length p.rc), (13, .int .i64 (p.rs.length : Int)), (14, .int .i64 (j : Int)), (16, .int .i64 (j : Int))], [(b1, .cells #[.slice p.ba p.bs.length p.bc, .int .i64 p.zlo, .int .i64 p.zhi, .int .i64 p.rlo, .int .i64 p.rhi, .slice none 0 0] 30 (0, 0))]⟩) (acc := [(.bool true, .bool true), (.bool (decide ((j : Int) < (p.rs.length : Int))), .bool true)]) (by kernel_rfl) (by kernel_rfl) ⟨rfl, (bo hd1), trivial⟩ ?_
      refine run_v (Instr.indexAt 28 (.slice p.ra p.rs.length p.rc) (.int .i64 (j : Int)) >>= fun v => pure (Next.value v)) (some 17) (.pointer (some ⟨b_o, o + j * 5, none⟩)) (by kernel_rfl) (fun w1 k1 h1 => (by rw [hba]; exact idx_run (e := 38) (n := 5) (by kernel_rfl) (by kernel_rfl) b_o o p.rs.length p.rc .i64 j hlt w1)) ?_
      refine run_v (Instr.loadAt 38 (.pointer (some ⟨b_o, o + j * 5, none⟩)) >>= fun v => pure (Next.value v)) (some 18) (.agg #[.int .i64 (elR p.rs j).1, .int .i64 (elR p.rs j).2.1, .int .i64 (elR p.rs j).2.2.1, .int .i64 (elR p.rs j).2.2.2.1, .int .i64 (elR p.rs j).2.2.2.2]) (by kernel_rfl) (fun w1 k1 h1 => load_in (off := 0) k1 (fun h => h) [.int .i64 (elR p.rs j).1, .int .i64 (elR p.rs j).2.1, .int .i64 (elR p.rs j).2.2.1, .int .i64 (elR p.rs j).2.2.2.1, .int .i64 (elR p.rs j).2.2.2.2] (c5 hc.1 hc.2.1 hc.2.2.1 hc.2.2.2.1 hc.2.2.2.2) (by kernel_rfl)) ?_
      refine run_new (.cells #[.int .i64 0, .int .i64 0, .int .i64 0, .int .i64 0, .int .i64 0] 38 (0, 0)) (fun b2 => .pointer (some ⟨b2, 0, none⟩)) (some 6) (fun _ => by kernel_rfl) (fun b2 hb2 => ?_)
      refine run_auto [] 7 [] [0] [0, 3, 4, 12, 13, 14, 6, 19, 20] [0, 1] (st' := ⟨[(0, .int .i64 (s : Int)), (3, .bool false), (4, .pointer (some ⟨b1, 0, none⟩)), (12, .slice p.ra p.rs.length p.rc), (13, .int .i64 (p.rs.length : Int)), (14, .int .i64 (j : Int)), (6, .pointer (some ⟨b2, 0, none⟩)), (19, .int .i64 (s : Int)), (20, .int .i64 (j : Int))], [(b2, .cells #[.int .i64 (elR p.rs j).1, .int .i64 (elR p.rs j).2.1, .int .i64 (elR p.rs j).2.2.1, .int .i64 (elR p.rs j).2.2.2.1, .int .i64 (elR p.rs j).2.2.2.2] 38 (0, 0)), (b1, .cells #[.slice p.ba p.bs.length p.bc, .int .i64 p.zlo, .int .i64 p.zhi, .int .i64 p.rlo, .int .i64 p.rhi, .slice none 0 0] 30 (0, 0))]⟩) (acc := [(.pointer (some ⟨b2, 0, none⟩), .pointer (some ⟨b2, 0, none⟩))]) (by kernel_rfl) (by kernel_rfl) ⟨rfl, trivial⟩ ?_
      refine run_v (binOp .shr 3 (.int .i64 (s : Nat)) (.int .i64 (j : Nat)) >>= fun v => pure (Next.value v)) (some 21) (.int .i64 ((s >>> j : Nat) : Int)) (by kernel_rfl) (fun w1 k1 h1 => shr_run s j (by omega)) ?_
      cases hd2 : (s.testBit j) with
      | false =>
        refine run_auto [(22, .int .i64 (((s >>> j : Nat) &&& 1 : Nat) : Int)), (23, .bool false), (30, .int .i64 ((j + 1 : Nat) : Int))] 10 [false] [] [0, 3, 4, 12, 13, 14] [1] (st' := ⟨[(0, .int .i64 (s : Int)), (3, .bool false), (4, .pointer (some ⟨b1, 0, none⟩)), (12, .slice p.ra p.rs.length p.rc), (13, .int .i64 (p.rs.length : Int)), (14, .int .i64 ((j + 1 : Nat) : Int))], [(b1, .cells #[.slice p.ba p.bs.length p.bc, .int .i64 p.zlo, .int .i64 p.zhi, .int .i64 p.rlo, .int .i64 p.rhi, .slice none 0 0] 30 (0, 0))]⟩) (acc := [(.int .i64 (IntKind.i64.wrap ((j : Int) + 1)), .int .i64 ((j + 1 : Nat) : Int)), (.bool false, .bool false), (.bool ((((s >>> j : Nat) &&& 1 : Nat) : Int) == 1), .bool false), (.int .i64 (bits .and .i64 ((s >>> j : Nat) : Int) 1), .int .i64 (((s >>> j : Nat) &&& 1 : Nat) : Int))]) (by kernel_rfl) (by kernel_rfl) ⟨(wr (by omega) (by omega)), rfl, ((bo (has_bit s j)).trans (bo hd2)), (and_nat (s >>> j : Nat) 1 (by have := Nat.shiftRight_le s j; omega) (by omega)), trivial⟩ ?_
        have hj := hJ0 ((j + 1, none)) (⟨by dsimp only; omega, by rw [keepU_no hlt (show inB s j = false from hd2)]; exact hnil⟩) (by dsimp only; omega)
        dsimp only at hj
        skip
        exact run_round (by kernel_rfl) hj
      | true =>
        refine run_auto [(22, .int .i64 (((s >>> j : Nat) &&& 1 : Nat) : Int)), (23, .bool true)] 8 [true] [1, 0] [0, 3, 4, 12, 13, 14, 25, 26] [1] (st' := ⟨[(0, .int .i64 (s : Int)), (3, .bool false), (4, .pointer (some ⟨b1, 0, none⟩)), (12, .slice p.ra p.rs.length p.rc), (13, .int .i64 (p.rs.length : Int)), (14, .int .i64 (j : Int)), (25, .slice none 0 0), (26, .agg #[.int .i64 (elR p.rs j).1, .int .i64 (elR p.rs j).2.1, .int .i64 (elR p.rs j).2.2.1, .int .i64 (elR p.rs j).2.2.2.1, .int .i64 (elR p.rs j).2.2.2.2])], [(b1, .cells #[.slice p.ba p.bs.length p.bc, .int .i64 p.zlo, .int .i64 p.zhi, .int .i64 p.rlo, .int .i64 p.rhi, .slice none 0 0] 30 (0, 0))]⟩) (acc := [(.pointer (some ⟨b2, 0, none⟩), .pointer (some ⟨b2, 0, none⟩)), (.pointer (some ⟨b1, 0, none⟩), .pointer (some ⟨b1, 0, none⟩)), (.bool true, .bool true), (.bool ((((s >>> j : Nat) &&& 1 : Nat) : Int) == 1), .bool true), (.int .i64 (bits .and .i64 ((s >>> j : Nat) : Int) 1), .int .i64 (((s >>> j : Nat) &&& 1 : Nat) : Int))]) (by kernel_rfl) (by kernel_rfl) ⟨rfl, rfl, rfl, ((bo (has_bit s j)).trans (bo hd2)), (and_nat (s >>> j : Nat) 1 (by have := Nat.shiftRight_le s j; omega) (by omega)), trivial⟩ ?_
        refine run_new (.cells #[.int .i64 (elR p.rs j).1, .int .i64 (elR p.rs j).2.1, .int .i64 (elR p.rs j).2.2.1, .int .i64 (elR p.rs j).2.2.2.1, .int .i64 (elR p.rs j).2.2.2.2] 38 (0, 0)) (fun b3 => .slice (some ⟨b3, 0, none⟩) 1 1) (some 27) (fun _ => by kernel_rfl) (fun b3 hb3 => ?_)
        refine run_app_none (t := 28) (ty := 28) (e := 38) (n := 5) (z := (.agg #[.int .i64 0, .int .i64 0, .int .i64 0, .int .i64 0, .int .i64 0])) (by kernel_rfl) (by kernel_rfl) (by kernel_rfl) rfl (by kernel_rfl) rdR rdR_len (some 28) 1 1 ([((elR p.rs j).1, (elR p.rs j).2.1, (elR p.rs j).2.2.1, (elR p.rs j).2.2.2.1, (elR p.rs j).2.2.2.2)] : List Rw) ⟨b3, 0, none⟩ (by first | rfl | (simp; omega)) (by omega) (by kernel_rfl) (fun w1 k1 h1 jq uq hu => by rw [add_none, Nat.zero_add]; exact cells_of_heap (h1 (b3, .cells #[.int .i64 (elR p.rs j).1, .int .i64 (elR p.rs j).2.1, .int .i64 (elR p.rs j).2.2.1, .int .i64 (elR p.rs j).2.2.2.1, .int .i64 (elR p.rs j).2.2.2.2] 38 (0, 0)) (List.mem_of_getElem? (i := 0) (by kernel_rfl))) jq uq hu) (by omega) (fun b4 cap4 sp4 hb4 hqb4 hmb4 hlb4 => ?_)
        refine run_auto [(30, .int .i64 ((j + 1 : Nat) : Int))] 8 [] [2] [0, 3, 4, 12, 13, 14] [0, 2] (st' := ⟨[(0, .int .i64 (s : Int)), (3, .bool false), (4, .pointer (some ⟨b1, 0, none⟩)), (12, .slice p.ra p.rs.length p.rc), (13, .int .i64 (p.rs.length : Int)), (14, .int .i64 ((j + 1 : Nat) : Int))], [(b4, .cells ((([((elR p.rs j).1, (elR p.rs j).2.1, (elR p.rs j).2.2.1, (elR p.rs j).2.2.2.1, (elR p.rs j).2.2.2.2)] : List Rw)).flatMap rdR ++ sp4).toArray 38 (0, 0)), (b1, .cells #[.slice p.ba p.bs.length p.bc, .int .i64 p.zlo, .int .i64 p.zhi, .int .i64 p.rlo, .int .i64 p.rhi, .slice (some ⟨b4, 0, none⟩) 1 cap4] 30 (0, 0))]⟩) (acc := [(.int .i64 (IntKind.i64.wrap ((j : Int) + 1)), .int .i64 ((j + 1 : Nat) : Int)), (.pointer (some ⟨b1, 0, none⟩), .pointer (some ⟨b1, 0, none⟩))]) (by kernel_rfl) (by kernel_rfl) ⟨(wr (by omega) (by omega)), rfl, trivial⟩ ?_
        have hnx := keepU_yes hlt (show inB s j = true from hd2)
        rw [hnil, List.nil_append] at hnx
        have hj := hJ0 ((j + 1, some (b4, cap4, sp4))) (⟨by dsimp only; omega, by rw [hnx]; exact hqb4, hmb4, by rw [hnx]; exact hlb4, hb4⟩) (by dsimp only; omega)
        dsimp only at hj
        rw [hnx] at hj
        skip
        exact run_round (by kernel_rfl) hj
  · skip
    have hI := hI0
    dsimp only at hI
    have hI1 := hI.1
    have h8 := keepU_len (inB s) p.rs j
    cases hd1 : (decide ((j : Int) < (p.rs.length : Int))) with
    | false =>
      have hp1 := of_decide_eq_false hd1
      have hjl : j = p.rs.length := by omega
      refine run_auto [(15, .bool false)] 10 [false] [1] [3, 32] [0] (st' := ⟨[(3, .bool false), (32, .agg #[.slice p.ba p.bs.length p.bc, .int .i64 p.zlo, .int .i64 p.zhi, .int .i64 p.rlo, .int .i64 p.rhi, .slice (some ⟨g, 0, none⟩) ((keepU (inB s) p.rs j).length) cap])], [(g, .cells ((keepU (inB s) p.rs j).flatMap rdR ++ sp).toArray 38 (0, 0))]⟩) (acc := [(.pointer (some ⟨b1, 0, none⟩), .pointer (some ⟨b1, 0, none⟩)), (.bool false, .bool false), (.bool (decide ((j : Int) < (p.rs.length : Int))), .bool false)]) (by kernel_rfl) (by kernel_rfl) ⟨rfl, rfl, (bo hd1), trivial⟩ ?_
      cases hd2 : (clashB p s) with
      | false =>
        refine run_ret1 11 #[.agg #[.slice p.ba p.bs.length p.bc, .int .i64 p.zlo, .int .i64 p.zhi, .int .i64 p.rlo, .int .i64 p.rhi, .slice (some ⟨g, 0, none⟩) ((keepU (inB s) p.rs j).length) cap], .int .i64 0] (some 33) (.tuple #[.agg #[.int .i64 (((p.n.keep (inB s)).differA 0 5).1), .int .i64 (((p.n.keep (inB s)).differA 0 5).2)], .int .i64 0]) (by kernel_rfl) (fun w1 k1 h1 => (by have h := Known_any (p.rd_ g cap (keepU (inB s) p.rs j)) 0 w1 ((hp.keep (k1.keeps (fun _ h => h))).rd_ cap (sp := sp) (h1 (g, .cells ((keepU (inB s) p.rs j).flatMap rdR ++ sp).toArray 38 (0, 0)) (List.mem_of_getElem? (i := 0) (by kernel_rfl))) (Nat.le_trans (keepU_len _ _ _) hp.lr)); rw [show knownR (p.rd_ g cap (keepU (inB s) p.rs j)) 0 = .inr ((p.n.keep (inB s)).differA 0 5) from (by rw [known_keep (q := (p.rd_ g cap (keepU (inB s) p.rs j))) (f := inB s) hF rfl ⟨rfl, rfl, rfl, rfl⟩ (by rw [← keepU_all, ← hjl]; rfl), show (p.n.keep (inB s)).known.isEmpty = false from hd2]; rfl)] at h; exact h)) ?_
        refine run_auto [] 3 [] [] [3, 34, 35] [] (st' := ⟨[(3, .bool false), (34, .agg #[.int .i64 (((p.n.keep (inB s)).differA 0 5).1), .int .i64 (((p.n.keep (inB s)).differA 0 5).2)]), (35, .int .i64 0)], []⟩) (acc := []) (by kernel_rfl) (by kernel_rfl) trivial ?_
        refine run_new (.cells #[.int .i64 0, .int .i64 0] 23 (0, 0)) (fun b2 => .pointer (some ⟨b2, 0, none⟩)) (some 7) (fun _ => by kernel_rfl) (fun b2 hb2 => ?_)
        refine run_auto [(37, .bool false)] 9 [] [0] [3] [] (st' := ⟨[(3, .bool false)], []⟩) (acc := [(.bool false, .bool false), (.pointer (some ⟨b2, 0, none⟩), .pointer (some ⟨b2, 0, none⟩))]) (by kernel_rfl) (by kernel_rfl) ⟨rfl, rfl, trivial⟩ ?_
        refine run_end (fn := f31) rfl (Nat.le_refl _) (by kernel_rfl) [] [.bool false] (e := []) (by kernel_rfl) trivial (fun w1 k1 h1 => ?_)
        exact ⟨rfl, k1.keeps (fun _ h => h)⟩
      | true =>
        refine run_ret1 11 #[.agg #[.slice p.ba p.bs.length p.bc, .int .i64 p.zlo, .int .i64 p.zhi, .int .i64 p.rlo, .int .i64 p.rhi, .slice (some ⟨g, 0, none⟩) ((keepU (inB s) p.rs j).length) cap], .int .i64 0] (some 33) (.tuple #[.agg #[.int .i64 0, .int .i64 0], .int .i64 10]) (by kernel_rfl) (fun w1 k1 h1 => (by have h := Known_any (p.rd_ g cap (keepU (inB s) p.rs j)) 0 w1 ((hp.keep (k1.keeps (fun _ h => h))).rd_ cap (sp := sp) (h1 (g, .cells ((keepU (inB s) p.rs j).flatMap rdR ++ sp).toArray 38 (0, 0)) (List.mem_of_getElem? (i := 0) (by kernel_rfl))) (Nat.le_trans (keepU_len _ _ _) hp.lr)); rw [show knownR (p.rd_ g cap (keepU (inB s) p.rs j)) 0 = .inl 10 from (by rw [known_keep (q := (p.rd_ g cap (keepU (inB s) p.rs j))) (f := inB s) hF rfl ⟨rfl, rfl, rfl, rfl⟩ (by rw [← keepU_all, ← hjl]; rfl), show (p.n.keep (inB s)).known.isEmpty = true from hd2]; rfl)] at h; exact h)) ?_
        refine run_auto [] 3 [] [] [3, 34, 35] [] (st' := ⟨[(3, .bool false), (34, .agg #[.int .i64 0, .int .i64 0]), (35, .int .i64 10)], []⟩) (acc := []) (by kernel_rfl) (by kernel_rfl) trivial ?_
        refine run_new (.cells #[.int .i64 0, .int .i64 0] 23 (0, 0)) (fun b2 => .pointer (some ⟨b2, 0, none⟩)) (some 7) (fun _ => by kernel_rfl) (fun b2 hb2 => ?_)
        refine run_auto [(37, .bool true)] 9 [] [0] [3] [] (st' := ⟨[(3, .bool true)], []⟩) (acc := [(.bool true, .bool true), (.pointer (some ⟨b2, 0, none⟩), .pointer (some ⟨b2, 0, none⟩))]) (by kernel_rfl) (by kernel_rfl) ⟨rfl, rfl, trivial⟩ ?_
        refine run_end (fn := f31) rfl (Nat.le_refl _) (by kernel_rfl) [] [.bool true] (e := []) (by kernel_rfl) trivial (fun w1 k1 h1 => ?_)
        exact ⟨rfl, k1.keeps (fun _ h => h)⟩
    | true =>
      have hp1 := of_decide_eq_true hd1
      have hlt : j < p.rs.length := by omega
      obtain ⟨b_o, o, hba, hc⟩ := hp.rd (by intro h; rw [h] at hlt; cases hlt)
      have hc := hc j hlt
      refine run_auto [(15, .bool true)] 12 [true] [] [0, 3, 4, 12, 13, 14, 16] [0, 1] (st' := ⟨[(0, .int .i64 (s : Int)), (3, .bool false), (4, .pointer (some ⟨b1, 0, none⟩)), (12, .slice p.ra p.rs.length p.rc), (13, .int .i64 (p.rs.length : Int)), (14, .int .i64 (j : Int)), (16, .int .i64 (j : Int))], [(g, .cells ((keepU (inB s) p.rs j).flatMap rdR ++ sp).toArray 38 (0, 0)), (b1, .cells #[.slice p.ba p.bs.length p.bc, .int .i64 p.zlo, .int .i64 p.zhi, .int .i64 p.rlo, .int .i64 p.rhi, .slice (some ⟨g, 0, none⟩) ((keepU (inB s) p.rs j).length) cap] 30 (0, 0))]⟩) (acc := [(.bool true, .bool true), (.bool (decide ((j : Int) < (p.rs.length : Int))), .bool true)]) (by kernel_rfl) (by kernel_rfl) ⟨rfl, (bo hd1), trivial⟩ ?_
      refine run_v (Instr.indexAt 28 (.slice p.ra p.rs.length p.rc) (.int .i64 (j : Int)) >>= fun v => pure (Next.value v)) (some 17) (.pointer (some ⟨b_o, o + j * 5, none⟩)) (by kernel_rfl) (fun w1 k1 h1 => (by rw [hba]; exact idx_run (e := 38) (n := 5) (by kernel_rfl) (by kernel_rfl) b_o o p.rs.length p.rc .i64 j hlt w1)) ?_
      refine run_v (Instr.loadAt 38 (.pointer (some ⟨b_o, o + j * 5, none⟩)) >>= fun v => pure (Next.value v)) (some 18) (.agg #[.int .i64 (elR p.rs j).1, .int .i64 (elR p.rs j).2.1, .int .i64 (elR p.rs j).2.2.1, .int .i64 (elR p.rs j).2.2.2.1, .int .i64 (elR p.rs j).2.2.2.2]) (by kernel_rfl) (fun w1 k1 h1 => load_in (off := 0) k1 (fun h => h) [.int .i64 (elR p.rs j).1, .int .i64 (elR p.rs j).2.1, .int .i64 (elR p.rs j).2.2.1, .int .i64 (elR p.rs j).2.2.2.1, .int .i64 (elR p.rs j).2.2.2.2] (c5 hc.1 hc.2.1 hc.2.2.1 hc.2.2.2.1 hc.2.2.2.2) (by kernel_rfl)) ?_
      refine run_new (.cells #[.int .i64 0, .int .i64 0, .int .i64 0, .int .i64 0, .int .i64 0] 38 (0, 0)) (fun b2 => .pointer (some ⟨b2, 0, none⟩)) (some 6) (fun _ => by kernel_rfl) (fun b2 hb2 => ?_)
      refine run_auto [] 7 [] [0] [0, 3, 4, 12, 13, 14, 6, 19, 20] [0, 1, 2] (st' := ⟨[(0, .int .i64 (s : Int)), (3, .bool false), (4, .pointer (some ⟨b1, 0, none⟩)), (12, .slice p.ra p.rs.length p.rc), (13, .int .i64 (p.rs.length : Int)), (14, .int .i64 (j : Int)), (6, .pointer (some ⟨b2, 0, none⟩)), (19, .int .i64 (s : Int)), (20, .int .i64 (j : Int))], [(b2, .cells #[.int .i64 (elR p.rs j).1, .int .i64 (elR p.rs j).2.1, .int .i64 (elR p.rs j).2.2.1, .int .i64 (elR p.rs j).2.2.2.1, .int .i64 (elR p.rs j).2.2.2.2] 38 (0, 0)), (g, .cells ((keepU (inB s) p.rs j).flatMap rdR ++ sp).toArray 38 (0, 0)), (b1, .cells #[.slice p.ba p.bs.length p.bc, .int .i64 p.zlo, .int .i64 p.zhi, .int .i64 p.rlo, .int .i64 p.rhi, .slice (some ⟨g, 0, none⟩) ((keepU (inB s) p.rs j).length) cap] 30 (0, 0))]⟩) (acc := [(.pointer (some ⟨b2, 0, none⟩), .pointer (some ⟨b2, 0, none⟩))]) (by kernel_rfl) (by kernel_rfl) ⟨rfl, trivial⟩ ?_
      refine run_v (binOp .shr 3 (.int .i64 (s : Nat)) (.int .i64 (j : Nat)) >>= fun v => pure (Next.value v)) (some 21) (.int .i64 ((s >>> j : Nat) : Int)) (by kernel_rfl) (fun w1 k1 h1 => shr_run s j (by omega)) ?_
      cases hd2 : (s.testBit j) with
      | false =>
        refine run_auto [(22, .int .i64 (((s >>> j : Nat) &&& 1 : Nat) : Int)), (23, .bool false), (30, .int .i64 ((j + 1 : Nat) : Int))] 10 [false] [] [0, 3, 4, 12, 13, 14] [1, 2] (st' := ⟨[(0, .int .i64 (s : Int)), (3, .bool false), (4, .pointer (some ⟨b1, 0, none⟩)), (12, .slice p.ra p.rs.length p.rc), (13, .int .i64 (p.rs.length : Int)), (14, .int .i64 ((j + 1 : Nat) : Int))], [(g, .cells ((keepU (inB s) p.rs j).flatMap rdR ++ sp).toArray 38 (0, 0)), (b1, .cells #[.slice p.ba p.bs.length p.bc, .int .i64 p.zlo, .int .i64 p.zhi, .int .i64 p.rlo, .int .i64 p.rhi, .slice (some ⟨g, 0, none⟩) ((keepU (inB s) p.rs j).length) cap] 30 (0, 0))]⟩) (acc := [(.int .i64 (IntKind.i64.wrap ((j : Int) + 1)), .int .i64 ((j + 1 : Nat) : Int)), (.bool false, .bool false), (.bool ((((s >>> j : Nat) &&& 1 : Nat) : Int) == 1), .bool false), (.int .i64 (bits .and .i64 ((s >>> j : Nat) : Int) 1), .int .i64 (((s >>> j : Nat) &&& 1 : Nat) : Int))]) (by kernel_rfl) (by kernel_rfl) ⟨(wr (by omega) (by omega)), rfl, ((bo (has_bit s j)).trans (bo hd2)), (and_nat (s >>> j : Nat) 1 (by have := Nat.shiftRight_le s j; omega) (by omega)), trivial⟩ ?_
        have hj := hJ0 ((j + 1, some (g, cap, sp))) (⟨by dsimp only; omega, by rw [keepU_no hlt (show inB s j = false from hd2)]; exact hI.2.1, hI.2.2.1, by rw [keepU_no hlt (show inB s j = false from hd2)]; exact hI.2.2.2.1, hI.2.2.2.2⟩) (by dsimp only; omega)
        dsimp only at hj
        rw [keepU_no hlt (show inB s j = false from hd2)] at hj
        exact run_round (by kernel_rfl) hj
      | true =>
        refine run_auto [(22, .int .i64 (((s >>> j : Nat) &&& 1 : Nat) : Int)), (23, .bool true)] 8 [true] [2, 0] [0, 3, 4, 12, 13, 14, 25, 26] [1, 2] (st' := ⟨[(0, .int .i64 (s : Int)), (3, .bool false), (4, .pointer (some ⟨b1, 0, none⟩)), (12, .slice p.ra p.rs.length p.rc), (13, .int .i64 (p.rs.length : Int)), (14, .int .i64 (j : Int)), (25, .slice (some ⟨g, 0, none⟩) ((keepU (inB s) p.rs j).length) cap), (26, .agg #[.int .i64 (elR p.rs j).1, .int .i64 (elR p.rs j).2.1, .int .i64 (elR p.rs j).2.2.1, .int .i64 (elR p.rs j).2.2.2.1, .int .i64 (elR p.rs j).2.2.2.2])], [(g, .cells ((keepU (inB s) p.rs j).flatMap rdR ++ sp).toArray 38 (0, 0)), (b1, .cells #[.slice p.ba p.bs.length p.bc, .int .i64 p.zlo, .int .i64 p.zhi, .int .i64 p.rlo, .int .i64 p.rhi, .slice (some ⟨g, 0, none⟩) ((keepU (inB s) p.rs j).length) cap] 30 (0, 0))]⟩) (acc := [(.pointer (some ⟨b2, 0, none⟩), .pointer (some ⟨b2, 0, none⟩)), (.pointer (some ⟨b1, 0, none⟩), .pointer (some ⟨b1, 0, none⟩)), (.bool true, .bool true), (.bool ((((s >>> j : Nat) &&& 1 : Nat) : Int) == 1), .bool true), (.int .i64 (bits .and .i64 ((s >>> j : Nat) : Int) 1), .int .i64 (((s >>> j : Nat) &&& 1 : Nat) : Int))]) (by kernel_rfl) (by kernel_rfl) ⟨rfl, rfl, rfl, ((bo (has_bit s j)).trans (bo hd2)), (and_nat (s >>> j : Nat) 1 (by have := Nat.shiftRight_le s j; omega) (by omega)), trivial⟩ ?_
        refine run_new (.cells #[.int .i64 (elR p.rs j).1, .int .i64 (elR p.rs j).2.1, .int .i64 (elR p.rs j).2.2.1, .int .i64 (elR p.rs j).2.2.2.1, .int .i64 (elR p.rs j).2.2.2.2] 38 (0, 0)) (fun b3 => .slice (some ⟨b3, 0, none⟩) 1 1) (some 27) (fun _ => by kernel_rfl) (fun b3 hb3 => ?_)
        refine run_app (t := 28) (ty := 28) (e := 38) (n := 5) (z := (.agg #[.int .i64 0, .int .i64 0, .int .i64 0, .int .i64 0, .int .i64 0])) (by kernel_rfl) (by kernel_rfl) (by kernel_rfl) rfl (by kernel_rfl) rdR rdR_len rdR_one (some 28) 1 g ((keepU (inB s) p.rs j).length) 1 cap 1 (keepU (inB s) p.rs j) ([((elR p.rs j).1, (elR p.rs j).2.1, (elR p.rs j).2.2.1, (elR p.rs j).2.2.2.1, (elR p.rs j).2.2.2.2)] : List Rw) sp ⟨b3, 0, none⟩ (by first | rfl | (simp; omega)) (by first | rfl | (simp; omega)) (by kernel_rfl) (by kernel_rfl) hI.2.2.1 hI.2.2.2.1 (fun w1 k1 h1 jq uq hu => by rw [add_none, Nat.zero_add]; exact cells_of_heap (h1 (b3, .cells #[.int .i64 (elR p.rs j).1, .int .i64 (elR p.rs j).2.1, .int .i64 (elR p.rs j).2.2.1, .int .i64 (elR p.rs j).2.2.2.1, .int .i64 (elR p.rs j).2.2.2.2] 38 (0, 0)) (List.mem_of_getElem? (i := 0) (by kernel_rfl))) jq uq hu) (by omega) (show _ ≤ g from hI.2.2.2.2) (fun b4 cap4 sp4 hb4 hqb4 hmb4 hlb4 => ?_)
        refine run_auto [(30, .int .i64 ((j + 1 : Nat) : Int))] 8 [] [2] [0, 3, 4, 12, 13, 14] [0, 2] (st' := ⟨[(0, .int .i64 (s : Int)), (3, .bool false), (4, .pointer (some ⟨b1, 0, none⟩)), (12, .slice p.ra p.rs.length p.rc), (13, .int .i64 (p.rs.length : Int)), (14, .int .i64 ((j + 1 : Nat) : Int))], [(b4, .cells (((keepU (inB s) p.rs j) ++ ([((elR p.rs j).1, (elR p.rs j).2.1, (elR p.rs j).2.2.1, (elR p.rs j).2.2.2.1, (elR p.rs j).2.2.2.2)] : List Rw)).flatMap rdR ++ sp4).toArray 38 (0, 0)), (b1, .cells #[.slice p.ba p.bs.length p.bc, .int .i64 p.zlo, .int .i64 p.zhi, .int .i64 p.rlo, .int .i64 p.rhi, .slice (some ⟨b4, 0, none⟩) ((keepU (inB s) p.rs j).length + 1) cap4] 30 (0, 0))]⟩) (acc := [(.int .i64 (IntKind.i64.wrap ((j : Int) + 1)), .int .i64 ((j + 1 : Nat) : Int)), (.pointer (some ⟨b1, 0, none⟩), .pointer (some ⟨b1, 0, none⟩))]) (by kernel_rfl) (by kernel_rfl) ⟨(wr (by omega) (by omega)), rfl, trivial⟩ ?_
        have hnx := keepU_yes hlt (show inB s j = true from hd2)
        have hj := hJ0 ((j + 1, some (b4, cap4, sp4))) (⟨by dsimp only; omega, by rw [hnx]; rw [List.length_append]; exact hqb4, hmb4, by rw [hnx]; exact hlb4, hb4⟩) (by dsimp only; omega)
        dsimp only at hj
        rw [hnx] at hj
        rw [List.length_append] at hj
        exact run_round (by kernel_rfl) hj


theorem bits_half : ∀ s : Nat, s < 256 → bitsN s = s % 2 + bitsN (s / 2) ∧ bitsN s ≤ 8 := by decide +kernel
set_option maxRecDepth 100000 in
theorem rsize_any (s : Nat) (hs : s < 256) (w : World)  : Calls Try.prog 32 #[.int .i64 (s : Int)] w (RetI (bitsN s : Nat) w) := by
  refine calls_run (fn := f32) (c := (f32.body).getD .skip) [.int .i64 (s : Int)] func32 (by kernel_rfl) (fun _ => False) [] (fun _ h => by cases h) (List.Pairwise.nil) 13 (by kernel_rfl) (by simp) ?_
  refine run_auto [] 10 [] [] [0, 2, 3] [] (st' := ⟨[(0, .int .i64 (s : Int)), (2, .int .i64 0), (3, .int .i64 0)], []⟩) (acc := []) (by kernel_rfl) (by kernel_rfl) trivial ?_
  refine run_auto [] 0 [] [] [0, 2, 3] [] (st' := ⟨[(0, .int .i64 (s : Int)), (2, .int .i64 0), (3, .int .i64 0)], []⟩) (acc := []) (by kernel_rfl) (by kernel_rfl) trivial ?_
  refine run_loop (S := fun (v : Nat × Nat) => ⟨[(0, .int .i64 (v.1 : Int)), (2, .int .i64 0), (3, .int .i64 (v.2 : Int))], []⟩) (fun v => v.1 < 256 ∧ v.2 + bitsN v.1 = bitsN s) (fun v => v.1) ((s, 0)) (by kernel_rfl) (⟨hs, Nat.zero_add _⟩) (by kernel_rfl) (fun v hI0 J0 hJ0 => ?_)
  obtain ⟨cur, cnt⟩ := v
  obtain ⟨hI1, hI2⟩ := hI0
  dsimp only at hI1 hI2 hJ0
  have hbh := bits_half cur hI1
  have hb8 := bits_half s hs
  cases hd1 : (decide (0 < (cur : Int))) with
  | false =>
    have hp1 := of_decide_eq_false hd1
    refine run_auto [(5, .bool false)] 13 [false] [] [2] [] (st' := ⟨[(2, .int .i64 (cnt : Int))], []⟩) (acc := [(.bool false, .bool false), (.bool (decide (0 < (cur : Int))), .bool false)]) (by kernel_rfl) (by kernel_rfl) ⟨rfl, (bo hd1), trivial⟩ ?_
    refine run_end (fn := f32) rfl (Nat.le_refl _) (by kernel_rfl) [] [.int .i64 (cnt : Int)] (e := []) (by kernel_rfl) trivial (fun w1 k1 h1 => ?_)
    obtain rfl : cur = 0 := by omega
    have h0 : bitsN 0 = 0 := by decide +kernel
    rw [h0] at hI2
    exact ⟨by rw [← hI2]; rfl, k1.keeps (fun _ h => h)⟩
  | true =>
    have hp1 := of_decide_eq_true hd1
    refine run_auto [(5, .bool true), (8, .int .i64 ((cur : Int) % 2)), (9, .int .i64 ((cnt : Int) + ((cur : Int) % 2))), (11, .int .i64 ((cur : Int) / 2))] 23 [true] [] [0, 2, 3] [] (st' := ⟨[(0, .int .i64 ((cur : Int) / 2)), (2, .int .i64 0), (3, .int .i64 ((cnt : Int) + ((cur : Int) % 2)))], []⟩) (acc := [(.int .i64 (IntKind.i64.wrap (Int.tdiv (cur : Int) 2)), .int .i64 ((cur : Int) / 2)), (.int .i64 (IntKind.i64.wrap ((cnt : Int) + ((cur : Int) % 2))), .int .i64 ((cnt : Int) + ((cur : Int) % 2))), (.int .i64 (Int.tmod (cur : Int) 2), .int .i64 ((cur : Int) % 2)), (.bool true, .bool true), (.bool (decide (0 < (cur : Int))), .bool true)]) (by kernel_rfl) (by kernel_rfl) ⟨(qt 2 (by omega) (by omega) (by omega)), (wr (by omega) (by omega)), (rm 2 (by omega)), rfl, (bo hd1), trivial⟩ ?_
    rw [show ((cnt : Int) + (cur : Int) % 2) = ((cnt + cur % 2 : Nat) : Int) by omega, show ((cur : Int) / 2) = ((cur / 2 : Nat) : Int) by omega]
    exact run_round (by kernel_rfl) (hJ0 ((cur / 2, cnt + cur % 2)) (⟨by dsimp only; omega, by dsimp only; omega⟩) (by dsimp only; omega))


def less (s i : Nat) : Nat := s ^^^ (s &&& 1 <<< i)
theorem less_bit (s i k : Nat) : (less s i).testBit k = (s.testBit k && !decide (k = i)) := by
  unfold less
  rw [Nat.testBit_xor, Nat.testBit_and, Nat.one_shiftLeft, Nat.testBit_two_pow]
  by_cases h : k = i
  · subst h
    cases s.testBit k <;> simp
  · cases s.testBit k <;> simp [h, Ne.symm h]
theorem less_lt {s n : Nat} (hs : s < 2 ^ n) (i : Nat) : less s i < 2 ^ n := Nat.xor_lt_two_pow hs (Nat.lt_of_le_of_lt Nat.and_le_left hs)
theorem less_fewer {s i : Nat} (hi : i < 8) (h : s.testBit i = true) : bitsN (less s i) < bitsN s :=
  (count_less (p := fun k => s.testBit k) (q := fun k => (less s i).testBit k) (b := i) (fun k => less_bit s i k) h (List.range 8)).2 (List.mem_range.2 hi)
section
variable {p : Pr} (h : p.Fine)
include h
omit h in
theorem clash_n (p : Pr) (s : Nat) : clashB p s = !(p.n.keep (inB s)).agreeB := by unfold clashB Prn.agreeB; simp
omit h in
theorem comp_n (s : Nat) : p.n.keep (inB (compl p.rs.length s)) = p.n.keep (outB s) := Prn.keep_congr fun i hi => by
  have hi : i < p.rs.length := by rwa [nrs_len] at hi
  unfold inB outB compl
  rw [Nat.testBit_xor, Nat.testBit_and, all_bits hi]
  simp
theorem wrong_all : p.n.wrongL < 2 ^ p.rs.length ∧ clashB p (compl p.rs.length p.n.wrongL) = false ∧ ∀ s, s < 2 ^ p.rs.length → clashB p (compl p.rs.length s) = false → s = p.n.wrongL ∨ Before p.n.wrongL s := by
  have h8 := h.r8
  obtain ⟨q1, q2, q3⟩ := Prn.wrong_is h.ok (by rw [nrs_len]; exact h8) (h.z).2.1 (h.r).2.1
  rw [nrs_len] at q1 q3
  refine ⟨q1, ?_, fun s hs hc => q3 s hs ?_⟩
  · rw [clash_n p, comp_n]
    show (!(p.n.keep fun i => !p.n.wrongL.testBit i).agreeB) = false
    rw [q2]
    rfl
  · rw [clash_n p, comp_n] at hc
    have hc : (p.n.keep (outB s)).agreeB = true := by simpa using hc
    exact hc
omit h in
theorem every_n (p : Pr) : clashB p (2 ^ p.rs.length - 1) = !p.n.agreeB := by
  rw [clash_n p, p.n.keep_all (fun i hi => by rw [nrs_len] at hi; exact all_bits hi)]
theorem wrong_zero : p.n.agreeB = decide (bitsN p.n.wrongL = 0) := by
  have h8 := h.r8
  have hp2 := pow_le5 h8
  obtain ⟨q1, q2, q3⟩ := wrong_all h
  have hz : ∀ s : Nat, s < 256 → bitsN s = 0 → s = 0 := by decide +kernel
  have h0 : bitsN 0 = 0 := by decide +kernel
  have e0 : clashB p (compl p.rs.length 0) = !p.n.agreeB := by
    rw [← every_n p]
    congr 1
    unfold compl
    simp
  cases ha : p.n.agreeB with
  | true =>
    rw [ha] at e0
    have := q3 0 (Nat.two_pow_pos _) e0
    have hb : p.n.wrongL = 0 := by
      rcases this with this | this
      · exact this.symm
      · unfold Before at this
        omega
    rw [hb]
    exact (decide_eq_true h0).symm
  | false =>
    refine (decide_eq_false fun hb => ?_).symm
    rw [hz _ (by omega) hb, e0, ha] at q2
    cases q2
theorem clash_all (ha : p.n.agreeB = false) : (1 ≤ p.n.clashL ∧ p.n.clashL < 2 ^ p.rs.length) ∧ clashB p p.n.clashL = true ∧ (∀ s, s < 2 ^ p.rs.length → clashB p s = true → s = p.n.clashL ∨ Before p.n.clashL s) ∧ p.n.clashL &&& p.n.wrongL ≠ 0 := by
  have h8 := h.r8
  obtain ⟨q1, q2, q3⟩ := Prn.clash_is (by rw [nrs_len]; exact h8) ha
  rw [nrs_len] at q1 q3
  have q2' : clashB p p.n.clashL = true := by
    rw [clash_n p]
    show (!(p.n.keep fun i => p.n.clashL.testBit i).agreeB) = true
    rw [q2]
    rfl
  refine ⟨⟨?_, q1⟩, q2', fun s hs hc => q3 s hs (by rw [clash_n p] at hc; have hc : (p.n.keep (inB s)).agreeB = false := (by simpa using hc); exact hc), fun he => ?_⟩
  · rcases Nat.eq_zero_or_pos p.n.clashL with h0 | h0
    · have := Prn.agree_bare h.ok (h.z).2.1 (h.r).2.1 (f := inB 0) (fun i _ => Nat.zero_testBit i)
      rw [h0] at q2
      have q2 : (p.n.keep (inB 0)).agreeB = false := q2
      rw [this] at q2
      cases q2
    · exact h0
  · -- all of its readings are among those that agree
    have hw := (wrong_all h).2.1
    rw [clash_n p, comp_n] at hw
    have hw : (p.n.keep (outB p.n.wrongL)).agreeB = true := by simpa using hw
    obtain ⟨c, hc, x, hx, _⟩ := (Prn.agree_is (h.ok.keep _)).1 hw
    have h3 : (p.n.keep (inB p.n.clashL)).agreeB = true := (Prn.agree_is (h.ok.keep _)).2 ⟨c, hc, x, hx.keep (fun i hi hb => by
      unfold inB at hb
      unfold outB
      have := congrArg (fun s => s.testBit i) he
      rw [Nat.testBit_and, hb, Nat.zero_testBit] at this
      simpa using this), trivial⟩
    rw [clash_n p, h3] at q2'
    cases q2'
theorem less_ok (ha : p.n.agreeB = false) {i : Nat} (hi : i < p.rs.length) (hb : p.n.clashL.testBit i = true) : clashB p (less p.n.clashL i) = false := by
  have h8 := h.r8
  obtain ⟨⟨_, q1⟩, _, q3, _⟩ := clash_all h ha
  cases hc : clashB p (less p.n.clashL i) with
  | false => rfl
  | true =>
    have h1 := less_fewer (show i < 8 by omega) hb
    rcases q3 _ (less_lt q1 i) hc with e | e
    · rw [e] at h1
      omega
    · unfold Before at e
      omega
end
end Go.Proofs.Ytmiobcnccbfknaa
