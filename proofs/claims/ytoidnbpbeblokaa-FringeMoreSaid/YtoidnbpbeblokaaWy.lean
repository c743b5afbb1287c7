/-
  THE ITERATOR OVER SETS OF READINGS, SMALLER ONES FIRST: its contract, for every loop body that keeps what lay below.
-/
import Derived.Test.YtoidnbpbeblokaaWv
import Derived.Test.YtoidnbpbeblokaaWi
namespace Go.Proofs.Ytoidnbpbeblokaa
open Go.RowKit Go.Shelf
attribute [local go_sem] Oper.semAt_some

/-- A set of readings. -/
abbrev St := Fin 64
def stV (x : St) : Value := .int .i64 ((x.val : Nat) : Int)
/-- The sets below k of c readings. -/
def sizeTo (c k : Nat) : List St :=
  (List.range k).filterMap fun s => if h : s < 64 then (if pop s = c then some ⟨s, h⟩ else none) else none
theorem sizeTo_yes {c k : Nat} (h : k < 64) (hp : pop k = c) : sizeTo c (k + 1) = sizeTo c k ++ [⟨k, h⟩] := by
  simp only [sizeTo, List.range_succ, List.filterMap_append, List.filterMap_cons, List.filterMap_nil, dif_pos h, if_pos hp]
theorem sizeTo_no {c k : Nat} (h : k < 64) (hp : ¬ pop k = c) : sizeTo c (k + 1) = sizeTo c k := by
  simp only [sizeTo, List.range_succ, List.filterMap_append, List.filterMap_cons, List.filterMap_nil, dif_pos h, if_neg hp, List.append_nil]
theorem sizeTo_zero (c : Nat) : sizeTo c 0 = [] := by simp only [sizeTo, List.range_zero, List.filterMap_nil]
theorem sizeTo_pre {c k m : Nat} (h : k ≤ m) (hm : m ≤ 64) : sizeTo c k <+: sizeTo c m := by
  induction m with
  | zero => obtain rfl : k = 0 := by omega
            exact List.prefix_refl _
  | succ m ih =>
    by_cases e : k = m + 1
    · subst e; exact List.prefix_refl _
    · refine (ih (by omega) (by omega)).trans ?_
      by_cases hp : pop m = c
      · rw [sizeTo_yes (by omega) hp]; exact List.prefix_append _ _
      · rw [sizeTo_no (by omega) hp]; exact List.prefix_refl _
/-- The sets of the first m readings of fewer than c readings. -/
def setsTo (m c : Nat) : List St := (List.range c).flatMap fun i => sizeTo i (2 ^ m)
theorem setsTo_zero (m : Nat) : setsTo m 0 = [] := by simp only [setsTo, List.range_zero, List.flatMap_nil]
theorem setsTo_succ (m c : Nat) : setsTo m (c + 1) = setsTo m c ++ sizeTo c (2 ^ m) := by
  simp only [setsTo, List.range_succ, List.flatMap_append, List.flatMap_cons, List.flatMap_nil, List.append_nil]
theorem setsTo_pre {m c d : Nat} (h : c ≤ d) : setsTo m c <+: setsTo m d := by
  induction d with
  | zero => obtain rfl : c = 0 := by omega
            exact List.prefix_refl _
  | succ d ih =>
    by_cases e : c = d + 1
    · subst e; exact List.prefix_refl _
    · refine (ih (by omega)).trans ?_
      rw [setsTo_succ]; exact List.prefix_append _ _
/-- All sets of the first m readings. -/
def sets (m : Nat) : List St := setsTo m (m + 1)

set_option maxHeartbeats 1600000 in
theorem setsBySize1_in (n : Nat) (hn : 1 ≤ n) (l b n₀ : Nat) (X : Nat → Prop) (m : Nat) (J Jx : List St → World → Prop) (hm : m ≤ 6)
    (hY : ∀ pre x W, J pre W → pre.length < (sets m).length → YieldAt Fence.wide (n - 1) Try.prog l #[stV x] W fun e W' =>
      (e = .returned (.bool true) ∧ J (pre ++ [x]) W' ∧ KeepEx n₀ X W W') ∨ (e = .returned (.bool false) ∧ Jx (pre ++ [x]) W'))
    (W : World) (hW : n₀ ≤ W.heap.size) (hb : b < n₀ ∧ ¬ X b) (h1 : W.cell? ⟨b, 0, none⟩ = some (.int .i64 m)) (h0 : J [] W) :
    CallsIn Fence.wide n Try.prog 96 #[.func (.yield l) #[] #[], .pointer (some ⟨b, 0, none⟩)] W fun e W' => (∃ v, e = .returned v) ∧
      ((∃ ys, ys = sets m ∧ J ys W') ∨ (∃ pre, pre <+: sets m ∧ Jx pre W')) := by
  refine callsIn_of_wp Try.func96 rfl trivial ?_
  simp only [Try.ntmps96, List.size_toArray, List.length_cons, List.length_nil, Nat.reduceAdd, Nat.reduceSub, Array.replicate_succ, Array.replicate_zero, List.push_toArray, List.append_toArray, List.nil_append, List.cons_append]
  have HY := Lib.hid hY
  have hlb : b < W.heap.size := by omega
  have HX := Lib.hid hb.2
  replace hb := hb.1
  have hpow : 2 ^ m ≤ 64 := by have := Nat.pow_le_pow_right (n := 2) (by omega) hm; simpa using this
  obtain ⟨t, ht⟩ : ∃ t, 2 ^ m = t + 1 := ⟨2 ^ m - 1, by have := Nat.one_le_two_pow (n := m); omega⟩
  have Hf := Lib.hid (fun w => by
    have h := full_any m (by omega) w
    rw [ht] at h
    simpa using (callsIn_wide (n := n - 1)).2 h : ∀ w, CallsIn Fence.wide (n - 1) Try.prog 63 #[.int .i64 m] w fun e w' => e = .returned (.int .i64 (t : Int)) ∧ w = w')
  have Hs := Lib.hid (fun s hs w => (callsIn_wide (n := n - 1)).2 (size_any s hs w))
  have ht64 : t < 64 := by omega
  have Ht := Lib.hid ht
  clear hY ht hpow
  have H0 := Lib.hid h0
  clear h0
  gi_wp2
  gi_loopw [7] (fun i wr => ∃ c : Nat, i = .int .i64 c ∧ c ≤ m + 1 ∧ J (setsTo m c) wr ∧ KeepEx n₀ X W wr) (fun i _ => m + 1 - (intOf i).toNat)
  case atStart => exact ⟨0, rfl, Nat.zero_le _, by rw [setsTo_zero]; exact H0.out, KeepEx.refl _ _ _⟩
  case round =>
    obtain ⟨c, rfl, hc, hJc, hB⟩ := hrel
    have HJc := Lib.hid hJc
    clear hJc
    by_cases hlt : c ≤ m
    · gi_wp2
      rw [show decide ((c : Int) < (m : Int) + 1) = true from by simp; omega]
      obtain ⟨wo, rfl⟩ : ∃ wo : World, wo = wr := ⟨_, rfl⟩
      have HB := Lib.hid hB
      clear hB
      gi_loopw [4] (fun i wr => ∃ k : Nat, i = .int .i64 k ∧ k ≤ t + 1 ∧ J (setsTo m c ++ sizeTo c k) wr ∧ KeepEx n₀ X W wr) (fun i _ => t + 1 - (intOf i).toNat)
      case atStart => exact ⟨0, rfl, Nat.zero_le _, by rw [sizeTo_zero, List.append_nil]; exact HJc.out, HB.out⟩
      case round =>
        obtain ⟨k, rfl, hk, hJk, hB⟩ := hrel
        have HJk := Lib.hid hJk
        clear hJk
        have c1 : wr.cell? ⟨b, 0, none⟩ = some (.int .i64 m) := (hB.cell hb HX.out).trans h1
        have hsz := hB.size
        have HB2 := Lib.hid hB
        clear hB h1
        by_cases hkt : k ≤ t
        · have Hsk := Lib.hid (Hs.out k (by omega))
          obtain ⟨p, hp⟩ : ∃ p, pop k = p := ⟨_, rfl⟩
          rw [hp] at Hsk
          have Hp := Lib.hid hp
          clear hp
          gi_wp2_with fail
          refine ⟨trivial, ?_⟩
          refine (Hf.out _).mono ?_
          rintro e w1 ⟨rfl, rfl⟩
          gi_wp2_with fail
          refine ⟨trivial, ?_⟩
          refine (Hsk.out _).mono ?_
          rintro e w1 ⟨rfl, rfl⟩
          by_cases hpc : p = c
          · subst hpc
            have hst : sizeTo p (k + 1) = sizeTo p k ++ [⟨k, by omega⟩] := sizeTo_yes (by omega) Hp.out
            have hpre : setsTo m p ++ (sizeTo p k ++ [⟨k, by omega⟩]) <+: sets m := by
              rw [← hst]
              refine List.IsPrefix.trans ?_ (setsTo_pre (m := m) (c := p + 1) (d := m + 1) (by omega))
              rw [setsTo_succ]
              exact (List.prefix_append_right_inj _).2 (sizeTo_pre (by have := Ht.out; omega) (by have := Ht.out; omega))
            have Hst := Lib.hid hst
            have Hpre := Lib.hid hpre
            clear hst hpre
            obtain ⟨fn, tmps, assign, body, hy, hR⟩ := HY.out _ (⟨k, by omega⟩ : St) wr HJk.out (by have := Hpre.out.length_le; simp at this ⊢; omega)
            dsimp only [stV] at hy
            gi_wp2_with fail
            refine hR.mono ?_
            rintro e W3 (⟨rfl, hJ3, hk3⟩ | ⟨rfl, hJx3⟩)
            · gi_wp2_with fail
              go_roundw
              case rel => exact ⟨k + 1, by go_num, by omega, by rw [Hst.out, ← List.append_assoc]; exact hJ3, HB2.out.trans hk3⟩
              case measure => simp [intOf]; omega
            · gi_wp2_with fail
              refine bodyPost_ret (results_none rfl _ _ _) rfl ?_
              exact ⟨⟨_, rfl⟩, .inr ⟨_, by rw [List.append_assoc]; exact Hpre.out, hJx3⟩⟩
          · have hst : sizeTo c (k + 1) = sizeTo c k := sizeTo_no (by omega) (by rw [Hp.out]; exact hpc)
            have Hst := Lib.hid hst
            clear hst
            gi_wp2_with fail
            refine ⟨fun _ h => (by cases h), ?_⟩
            gi_wp2_with fail
            go_roundw
            case rel => exact ⟨k + 1, by go_num, by omega, by rw [Hst.out]; exact HJk.out, HB2.out⟩
            case measure => simp [intOf]; omega
        · obtain rfl : k = t + 1 := by omega
          have hst : setsTo m c ++ sizeTo c (t + 1) = setsTo m (c + 1) := by rw [setsTo_succ, Ht.out]
          have Hst := Lib.hid hst
          clear hst
          gi_wp2_with fail
          refine ⟨trivial, ?_⟩
          refine (Hf.out _).mono ?_
          rintro e w1 ⟨rfl, rfl⟩
          gi_wp2_with fail
          go_roundw
          case rel => exact ⟨c + 1, by go_num, by omega, by rw [← Hst.out]; exact HJk.out, HB2.out⟩
          case measure => simp [intOf]; omega
    · obtain rfl : c = m + 1 := by omega
      gi_wp2
      refine bodyPost_end (results_none rfl _ _ _) rfl ?_
      exact ⟨⟨_, rfl⟩, .inl ⟨_, rfl, HJc.out⟩⟩
/-- The iterator's contract, as a loop over it wants it: its body may turn the blocks of X. -/
theorem setsBySize_stops (n : Nat) (hn : 1 ≤ n) (b : Nat) (X : Nat → Prop) (m : Nat) (w : World) (hm : m ≤ 6) (hx : ¬ X b) (h1 : w.cell? ⟨b, 0, none⟩ = some (.int .i64 m)) :
    SeqStopsK Fence.wide n Try.prog 96 #[.pointer (some ⟨b, 0, none⟩)] (fun x : St => #[stV x]) (KeepEx w.heap.size X) (fun ys => ys = sets m) (fun pre => pre <+: sets m) (sets m).length w := by
  intro l J Jx W hW _ _ hY h0
  have k : Keeps w W := hW
  exact setsBySize1_in n hn l b w.heap.size X m J Jx hm hY W k.size ⟨lt_of_cell h1, hx⟩ (k.cell h1) h0
end Go.Proofs.Ytoidnbpbeblokaa
