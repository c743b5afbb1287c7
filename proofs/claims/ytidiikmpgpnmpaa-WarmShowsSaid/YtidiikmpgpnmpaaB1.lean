/-
  WARM: the iterator over the warmths of a vague reading.
-/
import Derived.Test.YtidiikmpgpnmpaaA9
namespace Go.Proofs.Ytidiikmpgpnmpaa
open Go.RowKit Go.Shelf
attribute [local go_sem] Oper.semAt_some

set_option maxHeartbeats 3200000 in
theorem vague1_in (n : Nat) (hn : 1 ≤ n) (l b1 b2 : Nat) (X : Nat → Prop) (m : Int) (p : Int × Int) (r : Wr) (hp : okP m p) (hr : okW r) (J Jx : List Int → World → Prop)
    (hY : ∀ pre x W, J pre W → pre.length < (warms m p r).length → YieldAt Fence.wide (n - 1) Try.prog l #[.int .i64 x] W fun e W' =>
      (e = .returned (.bool true) ∧ J (pre ++ [x]) W' ∧ KeepX X W W') ∨ (e = .returned (.bool false) ∧ Jx (pre ++ [x]) W'))
    (W : World) (hJ : AbidesFrom W.heap.size J) (hx1 : ¬ X b1) (hx2 : ¬ X b2)
    (h1 : W.cell? ⟨b1, 0, none⟩ = some (.int .i64 r.1)) (h2 : W.cell? ⟨b1, 1, none⟩ = some (.int .i64 r.2.2.1)) (h3 : W.cell? ⟨b1, 2, none⟩ = some (.int .i64 r.2.2.2)) (h5 : W.cell? ⟨b1, 3, none⟩ = some (.int .i64 r.2.1)) (h4 : W.cell? ⟨b2, 0, none⟩ = some (shF m p)) (h0 : J [] W) :
    CallsIn Fence.wide n Try.prog 137 #[.func (.yield l) #[] #[], .pointer (some ⟨b1, 0, none⟩), .pointer (some ⟨b2, 0, none⟩)] W fun e W' => (∃ v, e = .returned v) ∧
      ((∃ ys, ys = warms m p r ∧ J ys W') ∨ (∃ pre, pre <+: warms m p r ∧ Jx pre W')) := by
  obtain ⟨t, t', slo, shi⟩ := r
  dsimp only at h1 h2 h3 h5
  obtain ⟨r1, r3, r2⟩ := hr
  dsimp only at r1 r2 r3
  have SH := Lib.hid (fun t w1 ht1 ht2 => (callsIn_wide (n := n - 1)).2 (shows_at m p t w1 hp ht1 ht2))
  have AL := Lib.hid (fun y w1 => (callsIn_wide (n := n - 1)).2 (hit_allows m p t slo shi y (t, t', slo, shi) w1 rfl rfl))
  have HY1 := Lib.hid (fun k (hk : hitB m p (t, t', slo, shi) (t + (k : Nat)) = true) => @warmsTo_yes m p (t, t', slo, shi) k hk)
  have HN1 := Lib.hid (fun k (hk : hitB m p (t, t', slo, shi) (t + (k : Nat)) = false) => @warmsTo_no m p (t, t', slo, shi) k hk)
  have HP := Lib.hid (fun k (hk : k ≤ (t' + 1 - t).toNat) => @warmsTo_pre m p (t, t', slo, shi) k _ hk)
  have HZ := Lib.hid (show warms m p (t, t', slo, shi) = warmsTo m p (t, t', slo, shi) (t' + 1 - t).toNat from rfl)
  obtain ⟨wt, hwt⟩ : ∃ wt : Nat → List Int, warmsTo m p (t, t', slo, shi) = wt := ⟨_, rfl⟩
  have hw0 : wt 0 = [] := by rw [← hwt]; rfl
  rw [hwt] at HY1 HN1 HP HZ
  have HJ := Lib.hid hJ
  have HY := Lib.hid hY
  have HX1 := Lib.hid hx1
  have HX2 := Lib.hid hx2
  have hlb1 := lt_of_cell h1
  unfold shF prV at h4
  clear hY hJ hp hx1 hx2 hwt
  have hmx : Try.prog.follows .mixedOrders = true := by kernel_rfl
  have hfw : ∀ f, Fence.wide.fn f := fun _ => trivial
  refine callsIn_of_wp Try.func137 rfl trivial ?_
  simp only [Try.ntmps137, List.size_toArray, List.length_cons, List.length_nil, Nat.reduceAdd, Nat.reduceSub, Array.replicate_succ, Array.replicate_zero, List.push_toArray, List.append_toArray, List.nil_append, List.cons_append]
  gi_wp2_with fail
  gi_loopw [4] (fun i wr => ∃ k : Nat, i = .int .i64 (t + (k : Nat)) ∧ (k : Int) ≤ t' + 1 - t ∧ J (wt k) wr ∧ KeepX X W wr) (fun i _ => (t' + 1 - intOf i).toNat)
  case atStart => exact ⟨0, by simp, by omega, by rw [hw0]; exact h0, KeepX.refl _ _⟩
  case round =>
    obtain ⟨k, rfl, hk, hJm, hB⟩ := hrel
    have d1 := hB.cell h1 HX1.out
    have d2 := hB.cell h2 HX1.out
    have d3 := hB.cell h3 HX1.out
    have d5 := hB.cell h5 HX1.out
    have d4 := hB.cell h4 HX2.out
    have hlr := lt_of_cell d1
    have hsz := hB.size
    clear h1 h2 h3 h4 h5 h0
    by_cases hlt : t + (k : Nat) ≤ t'
    · have S1 := Lib.hid (fun w1 => SH.out (t + (k : Nat)) w1 (by omega) (by omega))
      have A1 := Lib.hid (fun w1 => AL.out (t + (k : Nat)) w1)
      obtain ⟨z, hz⟩ : ∃ z, shP m p (t + (k : Nat)) = z := ⟨_, rfl⟩
      rw [hz] at S1 A1
      have D1 := Lib.hid (fun w2 (q : Keeps wr w2) => HJ.out _ wr w2 none hJm ⟨q.os, q.tape, q.output, q.size, fun k' hk _ => q.block k' hk⟩ (fun r e => by cases e))
      cases hv : hitB m p (t, t', slo, shi) (t + (k : Nat)) with
      | false =>
        rw [hv] at A1
        have E1 := Lib.hid (HN1.out k hv)
        clear hv hz
        gi_wp2_with fail
        first | (gi_region_with_o (first | (gi_at_call 99; refine (S1.out _).mono ?_; rintro e w1 ⟨rfl, k1⟩; have c1 := k1.undrew.cell d1; have c2 := k1.undrew.cell d2; have c3 := k1.undrew.cell d3; have hl1 : b1 < w1.heap.size := lt_of_cell c1) | (gi_at_call 133; refine (A1.out _).mono ?_; rintro e w2 ⟨rfl, k2⟩))) | fail
        all_goals
          gi_wp2_with fail
          go_roundw
          case rel => exact ⟨k + 1, congrArg (Value.int .i64) (by omega), by omega, by rw [E1.out]; exact D1.out _ (k1.undrew.trans k2), hB.trans (KeepX.of_keeps (k1.undrew.trans k2))⟩
          case measure => simp only [intOf]; omega
      | true =>
        rw [hv] at A1
        have E1 := Lib.hid (HY1.out k hv)
        have hlen : (wt k).length < (warms m p (t, t', slo, shi)).length := by
          have := (HP.out (k + 1) (by omega)).length_le
          rw [E1.out, List.length_append] at this
          rw [HZ.out]
          exact Nat.lt_of_lt_of_le (Nat.lt_succ_self _) this
        have Y1 := Lib.hid (fun w2 (hj : J (wt k) w2) => HY.out (wt k) (t + (k : Nat)) w2 hj hlen)
        have P1 := Lib.hid (HP.out (k + 1) (by omega))
        clear hv hz hlen
        gi_wp2_with fail
        first | (gi_region_with_o (first | (gi_at_call 99; refine (S1.out _).mono ?_; rintro e w1 ⟨rfl, k1⟩; have c1 := k1.undrew.cell d1; have c2 := k1.undrew.cell d2; have c3 := k1.undrew.cell d3; have hl1 : b1 < w1.heap.size := lt_of_cell c1) | (gi_at_call 133; refine (A1.out _).mono ?_; rintro e w2 ⟨rfl, k2⟩; obtain ⟨fn, tmps, assign, body, hy, hR⟩ := Y1.out w2 (D1.out _ (k1.undrew.trans k2))) | (refine hR.mono ?_; intro e W3 h0; obtain ⟨b, rfl, hd⟩ : ∃ b, e = .returned (.bool b) ∧ ((b = true ∧ J (wt k ++ [t + (k : Nat)]) W3 ∧ KeepX X w2 W3) ∨ (b = false ∧ Jx (wt k ++ [t + (k : Nat)]) W3)) := h0.elim (fun h => ⟨true, h.1, .inl ⟨rfl, h.2⟩⟩) (fun h => ⟨false, h.1, .inr ⟨rfl, h.2⟩⟩); clear h0))) | fail
        all_goals
          rcases hd with ⟨rfl, hJ3, hk3⟩ | ⟨rfl, hJx3⟩
          · gi_wp2_with fail
            go_roundw
            case rel => exact ⟨k + 1, congrArg (Value.int .i64) (by omega), by omega, by rw [E1.out]; exact hJ3, (hB.trans (KeepX.of_keeps (k1.undrew.trans k2))).trans hk3⟩
            case measure => simp only [intOf]; omega
          · gi_wp2_with fail
            refine bodyPost_ret (results_none rfl _ _ _) rfl ?_
            exact ⟨⟨_, rfl⟩, .inr ⟨_, by rw [HZ.out, ← E1.out]; exact P1.out, hJx3⟩⟩
    · gi_wp2_with fail
      refine bodyPost_end (results_none rfl _ _ _) rfl ?_
      exact ⟨⟨_, rfl⟩, .inl (by
        rw [HZ.out, show (t' + 1 - t).toNat = k by omega]
        exact hJm)⟩
end Go.Proofs.Ytidiikmpgpnmpaa
