/-
  WARM: the iterators over the warmths of a reading.
-/
import Derived.Stop.RegionWithIn
import Derived.Test.YtidiikmpgpnmpaaA8
namespace Go.Proofs.Ytidiikmpgpnmpaa
open Go.RowKit Go.Shelf
attribute [local go_sem] Oper.semAt_some

/-- The method value that tells what a pair shows. -/
def shF (m : Int) (p : Int × Int) : Value := .func (.func 99) #[prV m p] #[]
theorem shows_at (m : Int) (p : Int × Int) (t : Int) (w : World) (hp : okP m p) (t1 : -101 ≤ t) (t2 : t ≤ 101) : Calls Try.prog 99 #[prV m p, .int .i64 t] w (RetI (shP m p t) w) :=
  shows_any m p.1 p.2 t w hp.1 hp.2.1 hp.2.2.1 hp.2.2.2.1 hp.2.2.2.2.1 hp.2.2.2.2.2 t1 t2
theorem hit_allows (m : Int) (p : Int × Int) (x lo hi t : Int) (r : Wr) (w : World) (h1 : r.2.2.1 = lo) (h2 : r.2.2.2 = hi) : Calls Try.prog 133 #[.agg #[.int .i64 x, .int .i64 lo, .int .i64 hi], .int .i64 (shP m p t)] w (RetB (hitB m p r t) w) := by
  subst h1
  subst h2
  exact allows_any x _ _ _ w

set_option maxHeartbeats 1600000 in
theorem exact1_in (n : Nat) (hn : 1 ≤ n) (l b1 b2 : Nat) (X : Nat → Prop) (m : Int) (p : Int × Int) (r : Wr) (hp : okP m p) (hr : okW r) (he : r.1 = r.2.1) (J Jx : List Int → World → Prop)
    (hY : ∀ pre x W, J pre W → pre.length < (warms m p r).length → YieldAt Fence.wide (n - 1) Try.prog l #[.int .i64 x] W fun e W' =>
      (e = .returned (.bool true) ∧ J (pre ++ [x]) W' ∧ KeepX X W W') ∨ (e = .returned (.bool false) ∧ Jx (pre ++ [x]) W'))
    (W : World) (hJ : AbidesFrom W.heap.size J)
    (h1 : W.cell? ⟨b1, 0, none⟩ = some (.int .i64 r.1)) (h2 : W.cell? ⟨b1, 1, none⟩ = some (.int .i64 r.2.2.1)) (h3 : W.cell? ⟨b1, 2, none⟩ = some (.int .i64 r.2.2.2)) (h4 : W.cell? ⟨b2, 0, none⟩ = some (shF m p)) (h0 : J [] W) :
    CallsIn Fence.wide n Try.prog 135 #[.func (.yield l) #[] #[], .pointer (some ⟨b1, 0, none⟩), .pointer (some ⟨b2, 0, none⟩)] W fun e W' => (∃ v, e = .returned v) ∧
      ((∃ ys, ys = warms m p r ∧ J ys W') ∨ (∃ pre, pre <+: warms m p r ∧ Jx pre W')) := by
  obtain ⟨t, t', slo, shi⟩ := r
  dsimp only at h1 h2 h3 he
  subst he
  obtain ⟨r1, _, r2⟩ := hr
  dsimp only at r1 r2
  have hw1 : warms m p (t, t, slo, shi) = if hitB m p (t, t, slo, shi) t = true then [t] else [] := by
    have e1 : (t + 1 - t).toNat = 1 := by omega
    show warmsTo m p (t, t, slo, shi) (t + 1 - t).toNat = _
    rw [e1]
    simp [warmsTo, List.filter_cons]
  have SH := Lib.hid (fun w1 => (callsIn_wide (n := n - 1)).2 (shows_at m p t w1 hp (by omega) (by omega)))
  have AL := Lib.hid (fun w1 => (callsIn_wide (n := n - 1)).2 (hit_allows m p t slo shi t (t, t, slo, shi) w1 rfl rfl))
  obtain ⟨z, hz⟩ : ∃ z, shP m p t = z := ⟨_, rfl⟩
  obtain ⟨v, hv⟩ : ∃ v, hitB m p (t, t, slo, shi) t = v := ⟨_, rfl⟩
  rw [hz] at SH AL
  rw [hv] at AL hw1
  have HW := Lib.hid hw1
  have HJ := Lib.hid hJ
  have HY := Lib.hid hY
  have hlb1 := lt_of_cell h1
  have hlb2 := lt_of_cell h4
  unfold shF prV at h4
  clear hY hJ hz hv hw1 hp
  refine callsIn_of_wp Try.func135 rfl trivial ?_
  simp only [Try.ntmps135, List.size_toArray, List.length_cons, List.length_nil, Nat.reduceAdd, Nat.reduceSub, Array.replicate_succ, Array.replicate_zero, List.push_toArray, List.append_toArray, List.nil_append, List.cons_append]
  have hfw : ∀ f, Fence.wide.fn f := fun _ => trivial
  have D1 := Lib.hid (fun w2 (k : Keeps W w2) => HJ.out _ W w2 none h0 ⟨k.os, k.tape, k.output, k.size, fun k' hk _ => k.block k' hk⟩ (fun r e => by cases e))
  cases v
  · rw [if_neg (by simp)] at HW
    gi_wp2_with fail
    gi_region_with (first | (gi_at_call 99; refine (SH.out _).mono ?_; rintro e w1 ⟨rfl, k1⟩; have c1 := k1.undrew.cell h1; have c2 := k1.undrew.cell h2; have c3 := k1.undrew.cell h3; have hl1 : b1 < w1.heap.size := lt_of_cell c1) | (gi_at_call 133; refine (AL.out _).mono ?_; rintro e w2 ⟨rfl, k2⟩))
    all_goals
      gi_wp2_with fail
      refine bodyPost_end (results_none rfl _ _ _) rfl ?_
      exact ⟨⟨_, rfl⟩, .inl ⟨_, rfl, by rw [HW.out]; exact D1.out _ (by first | exact k1.undrew.trans k2 | exact k1.undrew.trans k2.undrew)⟩⟩
  · rw [if_pos rfl] at HW
    gi_wp2_with fail
    gi_region_with (first | (gi_at_call 99; refine (SH.out _).mono ?_; rintro e w1 ⟨rfl, k1⟩; have c1 := k1.undrew.cell h1; have c2 := k1.undrew.cell h2; have c3 := k1.undrew.cell h3; have hl1 : b1 < w1.heap.size := lt_of_cell c1) | (gi_at_call 133; refine (AL.out _).mono ?_; rintro e w2 ⟨rfl, k2⟩; have d1 := k2.cell c1; have hl2 : b1 < w2.heap.size := lt_of_cell d1))
    all_goals
      obtain ⟨fn, tmps, assign, body, hy, hR⟩ := HY.out [] t w2 (D1.out _ (by first | exact k1.undrew.trans k2 | exact k1.undrew.trans k2.undrew)) (by rw [HW.out]; exact Nat.one_pos)
      gi_wp2_with fail
      refine hR.mono ?_
      rintro e W3 (⟨rfl, hJ3, _⟩ | ⟨rfl, hJx3⟩)
      all_goals
        gi_wp2_with fail
        refine bodyPost_end (results_none rfl _ _ _) rfl ?_
      · exact ⟨⟨_, rfl⟩, .inl ⟨_, rfl, by rw [HW.out]; exact hJ3⟩⟩
      · exact ⟨⟨_, rfl⟩, .inr ⟨_, by rw [HW.out]; exact List.prefix_refl _, hJx3⟩⟩
end Go.Proofs.Ytidiikmpgpnmpaa
