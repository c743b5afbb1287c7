/-
  WARM: the iterator over all pairs.
-/
import Derived.Test.YtidiikmpgpnmpaaB3
namespace Go.Proofs.Ytidiikmpgpnmpaa
open Go.RowKit Go.Shelf
attribute [local go_sem] Oper.semAt_some

/-- A pair within the limits. -/
abbrev Pr := { p : Int × Int // -1000 ≤ p.1 ∧ p.1 ≤ 1000 ∧ 0 ≤ p.2 ∧ p.2 ≤ 20 }
def mkP (x y : Int) : Option Pr := if h : -1000 ≤ x ∧ x ≤ 1000 ∧ 0 ≤ y ∧ y ≤ 20 then some ⟨(x, y), h⟩ else none
/-- The pairs of a length with j coefficients. -/
def rowTo (x clo : Int) (j : Nat) : List Pr := (List.range j).filterMap (fun k : Nat => mkP x (clo + (k : Int)))
/-- The pairs of i lengths. -/
def rowsTo (llo clo : Int) (nc i : Nat) : List Pr := (List.range i).flatMap (fun k : Nat => rowTo (llo + (k : Int)) clo nc)
theorem rowTo_succ {x clo : Int} {j : Nat} (h : -1000 ≤ x ∧ x ≤ 1000 ∧ 0 ≤ clo + (j : Int) ∧ clo + (j : Int) ≤ 20) : rowTo x clo (j + 1) = rowTo x clo j ++ [⟨(x, clo + (j : Int)), h⟩] := by
  simp only [rowTo, List.range_succ, List.filterMap_append, List.filterMap_cons, List.filterMap_nil, mkP, dif_pos h]
theorem rowsTo_succ (llo clo : Int) (nc i : Nat) : rowsTo llo clo nc (i + 1) = rowsTo llo clo nc i ++ rowTo (llo + (i : Int)) clo nc := by
  simp [rowsTo, List.range_succ]
theorem rowTo_pre (x clo : Int) {j n : Nat} (h : j ≤ n) : rowTo x clo j <+: rowTo x clo n := by
  obtain ⟨d, rfl⟩ := Nat.le.dest h
  clear h
  induction d with
  | zero => exact List.prefix_refl _
  | succ d ih =>
    refine ih.trans ?_
    show _ <+: rowTo x clo (j + d + 1)
    simp only [rowTo, List.range_succ, List.filterMap_append]
    exact List.prefix_append _ _
theorem rowsTo_pre (llo clo : Int) (nc : Nat) {j n : Nat} (h : j ≤ n) : rowsTo llo clo nc j <+: rowsTo llo clo nc n := by
  obtain ⟨d, rfl⟩ := Nat.le.dest h
  clear h
  induction d with
  | zero => exact List.prefix_refl _
  | succ d ih =>
    refine ih.trans ?_
    show _ <+: rowsTo llo clo nc (j + d + 1)
    rw [rowsTo_succ]
    exact List.prefix_append _ _
theorem prs_pre {llo clo : Int} {nc nl i j : Nat} (hi : i < nl) (hj : j ≤ nc) : rowsTo llo clo nc i ++ rowTo (llo + (i : Int)) clo j <+: rowsTo llo clo nc nl := by
  refine List.IsPrefix.trans ?_ (rowsTo_pre llo clo nc (show i + 1 ≤ nl by omega))
  rw [rowsTo_succ]
  exact List.prefix_append_right_inj _ |>.2 (rowTo_pre _ _ hj)
/-- All pairs of a block, whatever was read. -/
def Wm.all (B : Wm) : List Pr := rowsTo B.llo B.clo (B.chi + 1 - B.clo).toNat (B.lhi + 1 - B.llo).toNat
/-- Its numbers are within the limits. -/
structure Wm.Lim (B : Wm) : Prop where
  m1 : 1 ≤ B.mark
  m2 : B.mark ≤ 100
  l1 : -1000 ≤ B.llo
  l2 : B.llo ≤ B.lhi
  l3 : B.lhi ≤ 1000
  l4 : B.lhi - B.llo ≤ 24
  c1 : 0 ≤ B.clo
  c2 : B.clo ≤ B.chi
  c3 : B.chi ≤ 20
  c4 : B.chi - B.clo ≤ 3
theorem Wm.ok_lim {B : Wm} (h : B.ok = true) : B.Lim := by
  simp only [Wm.ok, Bool.and_eq_true, decide_eq_true_eq, inS] at h
  obtain ⟨⟨⟨⟨m1, m2⟩, ⟨l1, l2, l3⟩, l4⟩, ⟨c1, c2, c3⟩, c4⟩, _⟩ := h
  exact ⟨m1, m2, l1, l2, l3, l4, c1, c2, c3, c4⟩
def pV (m : Int) (p : Pr) : Value := .agg #[.int .i64 m, .int .i64 p.1.1, .int .i64 p.1.2]

set_option maxHeartbeats 3200000 in
theorem pairs1_in (n : Nat) (hn : 1 ≤ n) (l b : Nat) (X : Nat → Prop) (B : Wm) (hL : B.Lim) (J Jx : List Pr → World → Prop)
    (hY : ∀ pre x W, J pre W → pre.length < B.all.length → YieldAt Fence.wide (n - 1) Try.prog l #[pV B.mark x] W fun e W' =>
      (e = .returned (.bool true) ∧ J (pre ++ [x]) W' ∧ KeepX X W W') ∨ (e = .returned (.bool false) ∧ Jx (pre ++ [x]) W'))
    (W : World) (hJ : AbidesFrom W.heap.size J) (hx : ¬ X b) (hB : B.Box W b) (h0 : J [] W) :
    CallsIn Fence.wide n Try.prog 113 #[.func (.yield l) #[] #[], .pointer (some ⟨b, 0, none⟩)] W fun e W' => (∃ v, e = .returned v) ∧
      ((∃ ys, ys = B.all ∧ J ys W') ∨ (∃ pre, pre <+: B.all ∧ Jx pre W')) := by
  obtain ⟨mark, llo, lhi, clo, chi, ra, rc, rs⟩ := B
  obtain ⟨m1, m2, l1, l2, l3, l4, c1, c2, c3, c4⟩ := hL
  obtain ⟨g0, g1, g2, g3, g4, g5⟩ := hB
  dsimp only at *
  have hal : Wm.all ⟨mark, llo, lhi, clo, chi, ra, rc, rs⟩ = rowsTo llo clo (chi + 1 - clo).toNat (lhi + 1 - llo).toNat := rfl
  rw [hal] at hY ⊢
  obtain ⟨nc, hnc⟩ : ∃ nc, (chi + 1 - clo).toNat = nc := ⟨_, rfl⟩
  obtain ⟨nl, hnl⟩ : ∃ nl, (lhi + 1 - llo).toNat = nl := ⟨_, rfl⟩
  rw [hnc, hnl] at hY ⊢
  have HY := Lib.hid hY
  have HJ := Lib.hid hJ
  have HX := Lib.hid hx
  have hlb := lt_of_cell g0
  clear hY hJ hx hal
  have hfw : ∀ f, Fence.wide.fn f := fun _ => trivial
  refine callsIn_of_wp Try.func113 rfl trivial ?_
  simp only [Try.ntmps113, List.size_toArray, List.length_cons, List.length_nil, Nat.reduceAdd, Nat.reduceSub, Array.replicate_succ, Array.replicate_zero, List.push_toArray, List.append_toArray, List.nil_append, List.cons_append]
  gi_wp2_with fail
  gi_loopw [3] (fun i wr => ∃ k : Nat, i = .int .i64 (llo + (k : Nat)) ∧ k ≤ nl ∧ J (rowsTo llo clo nc k) wr ∧ KeepX X W wr) (fun i _ => (lhi + 1 - intOf i).toNat)
  case atStart => exact ⟨0, by simp, by omega, h0, KeepX.refl _ _⟩
  case round =>
    obtain ⟨k, rfl, hk, hJm, hB⟩ := hrel
    have d0 := hB.cell g0 HX.out
    have d1 := hB.cell g1 HX.out
    have d2 := hB.cell g2 HX.out
    have d3 := hB.cell g3 HX.out
    have d4 := hB.cell g4 HX.out
    have hlr := lt_of_cell d1
    clear h0
    by_cases hlt : llo + (k : Nat) ≤ lhi
    · gi_wp2_with fail
      obtain ⟨wo, rfl⟩ : ∃ wo : World, wo = wr := ⟨_, rfl⟩
      gi_loopw [4] (fun i wr' => ∃ j : Nat, i = .int .i64 (clo + (j : Nat)) ∧ j ≤ nc ∧ J (rowsTo llo clo nc k ++ rowTo (llo + (k : Nat)) clo j) wr' ∧ KeepX X W wr') (fun i _ => (chi + 1 - intOf i).toNat)
      case atStart => exact ⟨0, by simp, by omega, by simpa [rowTo] using hJm, hB⟩
      case round =>
        obtain ⟨j, rfl, hj, hJm2, hB2⟩ := hrel
        clear d0 d1 d2 d3 d4 hlr hJm hB
        have d0 := hB2.cell g0 HX.out
        have d4 := hB2.cell g4 HX.out
        have hlr := lt_of_cell d0
        by_cases hlj : clo + (j : Nat) ≤ chi
        · have hpb : -1000 ≤ llo + (k : Int) ∧ llo + (k : Int) ≤ 1000 ∧ 0 ≤ clo + (j : Int) ∧ clo + (j : Int) ≤ 20 := by omega
          have hst := rowTo_succ hpb
          have hpp := @prs_pre llo clo nc nl k (j + 1) (by omega) (by omega)
          rw [hst, ← List.append_assoc] at hpp
          have hlen := hpp.length_le
          rw [List.length_append] at hlen
          have hyy := HY.out _ (⟨(llo + (k : Int), clo + (j : Int)), hpb⟩ : Pr) wr hJm2 (Nat.lt_of_lt_of_le (Nat.lt_succ_self _) hlen)
          obtain ⟨fn, tmps, assign, body, hy, hR⟩ := hyy
          have HST := Lib.hid hst
          have HPP := Lib.hid hpp
          have HJ2 := Lib.hid hJm2
          simp only [pV] at hy
          clear hst hpp hlen hJm2
          gi_wp2_with fail
          refine hR.mono ?_
          rintro e W3 (⟨rfl, hJ3, hk3⟩ | ⟨rfl, hJx3⟩)
          · gi_wp2_with fail
            go_roundw
            case rel => exact ⟨j + 1, congrArg (Value.int .i64) (by omega), by omega, by rw [HST.out, ← List.append_assoc]; exact hJ3, hB2.trans hk3⟩
            case measure => simp only [intOf]; omega
          · gi_wp2_with fail
            refine bodyPost_ret (results_none rfl _ _ _) rfl ?_
            exact ⟨⟨_, rfl⟩, .inr ⟨_, HPP.out, hJx3⟩⟩
        · have hjn : j = nc := by omega
          subst hjn
          gi_wp2_with fail
          go_roundw
          case rel => exact ⟨k + 1, congrArg (Value.int .i64) (by omega), by omega, by rw [rowsTo_succ]; exact hJm2, hB2⟩
          case measure => simp only [intOf]; omega
    · gi_wp2_with fail
      refine bodyPost_end (results_none rfl _ _ _) rfl ?_
      have hkn : k = nl := by omega
      subst hkn
      exact ⟨⟨_, rfl⟩, .inl (by first | exact hJm | exact ⟨_, rfl, hJm⟩)⟩
theorem pairs_stops (n : Nat) (hn : 1 ≤ n) (b : Nat) (X : Nat → Prop) (B : Wm) (hL : B.Lim) (w : World) (hx : ¬ X b) (hB : B.Box w b) :
    SeqStopsK Fence.wide n Try.prog 113 #[.pointer (some ⟨b, 0, none⟩)] (fun x : Pr => #[pV B.mark x]) (KeepX X) (fun ys => ys = B.all) (fun pre => pre <+: B.all) B.all.length w := by
  intro l J Jx W hW hJ _ hY h0
  have k : Keeps w W := hW
  exact pairs1_in n hn l b X B hL J Jx hY W hJ hx (hB.keep k) h0
theorem pairs_any (B : Wm) (w : World) : Calls Try.prog 103 #[B.v] w fun e w' => e = .returned (.func (.func 113) #[] #[.pointer (some ⟨w.heap.size, 0, none⟩)]) ∧ Keeps w w' ∧ B.Box w' w.heap.size := by
  have hmf : ∀ (fn : Fn) (first cap : Array Value) (w : World), (Instr.makeFunc fn first cap).run Try.prog w = .ok (.func fn first cap) w := fun _ _ _ _ => rfl
  have HB := Lib.hid (Wm.Box.new B w)
  obtain ⟨mark, llo, lhi, clo, chi, ra, rc, rs⟩ := B
  dsimp only [Wm.v] at *
  go_enter Try.func103, Try.ntmps103
  go_wp2
  go_ret
  exact ⟨rfl, (Keeps.refl _).alloc _, HB.out⟩
end Go.Proofs.Ytidiikmpgpnmpaa
