/-
  THE ITERATOR OVER THE LENGTHS OF WHICH ALL READINGS ARE RIGHT: its contract, for every loop body that keeps what lay below.
-/
import Derived.RangeFuncNested
import Derived.RangeFuncBound
import Derived.RangeFuncCalls
import Derived.RangeFuncLeaves
import Derived.Shelf.Abstract
import Derived.Shelf.RegionOpen
import Derived.WalkKit
import Derived.OwnWalkIn
import Derived.TacticsInMore
import Derived.LoopNIn
import Derived.LoopIn
import Derived.Test.YtoidnbpbeblokaaWf
namespace Go.Proofs.Ytoidnbpbeblokaa
open Go.RowKit Go.Shelf
attribute [local go_sem] Oper.semAt_some

/-- A length. -/
abbrev Ln := Fin 2001
def lnV (x : Ln) : Value := .int .i64 ((x.val : Nat) : Int)
/-- The lengths from lo on, k of them, of which all readings are right. -/
def lensTo (lo : Nat) (gs : List Rg) (k : Nat) : List Ln :=
  (List.range k).filterMap fun i => if h : lo + i < 2001 then (if gs.all (rightB · ((lo + i : Nat) : Int)) then some ⟨lo + i, h⟩ else none) else none
theorem lensTo_yes {lo : Nat} {gs : List Rg} {k : Nat} (h : lo + k < 2001) (ha : gs.all (rightB · ((lo + k : Nat) : Int)) = true) : lensTo lo gs (k + 1) = lensTo lo gs k ++ [⟨lo + k, h⟩] := by
  simp only [lensTo, List.range_succ, List.filterMap_append, List.filterMap_cons, List.filterMap_nil, dif_pos h, ha, if_true]
theorem lensTo_no {lo : Nat} {gs : List Rg} {k : Nat} (h : lo + k < 2001) (ha : gs.all (rightB · ((lo + k : Nat) : Int)) = false) : lensTo lo gs (k + 1) = lensTo lo gs k := by
  simp only [lensTo, List.range_succ, List.filterMap_append, List.filterMap_cons, List.filterMap_nil, dif_pos h, ha]
  simp
theorem lensTo_pre {lo : Nat} {gs : List Rg} {k m : Nat} (h : k ≤ m) : lensTo lo gs k <+: lensTo lo gs m := by
  induction m with
  | zero => obtain rfl : k = 0 := by omega
            exact List.prefix_refl _
  | succ m ih =>
    by_cases e : k = m + 1
    · subst e; exact List.prefix_refl _
    · refine (ih (by omega)).trans ?_
      by_cases hl : lo + m < 2001
      · cases ha : gs.all (rightB · ((lo + m : Nat) : Int)) with
        | true => rw [lensTo_yes hl ha]; exact List.prefix_append _ _
        | false => rw [lensTo_no hl ha]; exact List.prefix_refl _
      · refine ⟨[], ?_⟩
        simp only [lensTo, List.range_succ, List.filterMap_append, List.filterMap_cons, List.filterMap_nil, dif_neg hl]
/-- All lengths of a span of which all readings are right. -/
def lens (lo hi : Nat) (gs : List Rg) : List Ln := lensTo lo gs (hi + 1 - lo)

/-- Below n₀ all blocks but those of X are as they were. -/
structure KeepEx (n₀ : Nat) (X : Nat → Prop) (W W' : World) : Prop where
  size : W.heap.size ≤ W'.heap.size
  same : ∀ k, k < n₀ → ¬ X k → W'.heap[k]? = W.heap[k]?
theorem KeepEx.refl (n₀ : Nat) (X : Nat → Prop) (W : World) : KeepEx n₀ X W W := ⟨Nat.le_refl _, fun _ _ _ => rfl⟩
theorem KeepEx.trans {n₀ : Nat} {X : Nat → Prop} {A B C : World} (h : KeepEx n₀ X A B) (k : KeepEx n₀ X B C) : KeepEx n₀ X A C := ⟨Nat.le_trans h.size k.size, fun i hi hx => (k.same i hi hx).trans (h.same i hi hx)⟩
theorem KeepEx.of_keeps {n₀ : Nat} {X : Nat → Prop} {A B : World} (h : Keeps A B) (hn : n₀ ≤ A.heap.size) : KeepEx n₀ X A B := ⟨h.size, fun k hk _ => h.heap (by omega)⟩
theorem KeepEx.cell {n₀ : Nat} {X : Nat → Prop} {A B : World} (h : KeepEx n₀ X A B) {k o : Nat} (hk : k < n₀) (hx : ¬ X k) : B.cell? ⟨k, o, none⟩ = A.cell? ⟨k, o, none⟩ := World.cell?_of_block (h.same k hk hx)
theorem KeepEx.setCell {n₀ : Nat} {X : Nat → Prop} (A : World) {p : Addr} (v : Value) (hx : X p.block) : KeepEx n₀ X A (A.setCell p v) :=
  ⟨by simp [World.setCell], fun k _ hk => Below.heap_setCell _ _ _ _ (fun e => hk (e ▸ hx))⟩
theorem KeepEx.drew {n₀ : Nat} {X : Nat → Prop} {A B : World} (h : KeepEx n₀ X A B) : KeepEx n₀ X A B.drew := ⟨h.size, h.same⟩

set_option maxHeartbeats 1600000 in
theorem agreeing1_in (n : Nat) (hn : 1 ≤ n) (l b1 b2 n₀ : Nat) (X : Nat → Prop) (lo hi : Nat) (a : Option Addr) (cap : Nat) (gs : List Rg) (J Jx : List Ln → World → Prop) (hh : hi ≤ 2000) (hl : gs.length ≤ maxLen) (hok : ∀ g ∈ gs, okG g)
    (hY : ∀ pre x W, J pre W → pre.length < (lens lo hi gs).length → YieldAt Fence.wide (n - 1) Try.prog l #[lnV x] W fun e W' =>
      (e = .returned (.bool true) ∧ J (pre ++ [x]) W' ∧ KeepEx n₀ X W W') ∨ (e = .returned (.bool false) ∧ Jx (pre ++ [x]) W'))
    (W : World) (hW : n₀ ≤ W.heap.size) (hJ : AbidesFrom W.heap.size J) (hb1 : b1 < n₀ ∧ ¬ X b1) (hb2 : b2 < n₀ ∧ ¬ X b2) (hg0 : ∀ b o, a = some ⟨b, o, none⟩ → gs ≠ [] → b < n₀ ∧ ¬ X b)
    (h1 : W.cell? ⟨b1, 0, none⟩ = some (.int .i64 lo)) (h2 : W.cell? ⟨b1, 1, none⟩ = some (.int .i64 hi)) (h3 : W.cell? ⟨b2, 0, none⟩ = some (.slice a gs.length cap)) (hg : Rgs W a gs) (h0 : J [] W) :
    CallsIn Fence.wide n Try.prog 110 #[.func (.yield l) #[] #[], .pointer (some ⟨b1, 0, none⟩), .pointer (some ⟨b2, 0, none⟩)] W fun e W' => (∃ v, e = .returned v) ∧
      ((∃ ys, ys = lens lo hi gs ∧ J ys W') ∨ (∃ pre, pre <+: lens lo hi gs ∧ Jx pre W')) := by
  refine callsIn_of_wp Try.func110 rfl trivial ?_
  simp only [Try.ntmps110, List.size_toArray, List.length_cons, List.length_nil, Nat.reduceAdd, Nat.reduceSub, Array.replicate_succ, Array.replicate_zero, List.push_toArray, List.append_toArray, List.nil_append, List.cons_append]
  have HY := Lib.hid hY
  have HJ := Lib.hid hJ
  have HG := Lib.hid hg
  have HA := Lib.hid hg0
  have HO := Lib.hid hok
  have hlb1 : b1 < W.heap.size := by omega
  have hlb2 : b2 < W.heap.size := by omega
  have HX1 := Lib.hid hb1.2
  have HX2 := Lib.hid hb2.2
  replace hb1 := hb1.1
  replace hb2 := hb2.1
  clear hY hJ hg hg0 hok
  gi_wp2
  gi_loopw [4] (fun i wr => ∃ m : Nat, i = .int .i64 m ∧ lo ≤ m ∧ (m ≤ hi + 1 ∨ m = lo) ∧ J (lensTo lo gs (m - lo)) wr ∧ KeepEx n₀ X W wr) (fun i _ => hi + 1 - (intOf i).toNat)
  case atStart => exact ⟨lo, rfl, Nat.le_refl _, .inr rfl, by rw [Nat.sub_self]; exact h0, KeepEx.refl _ _ _⟩
  case round =>
    obtain ⟨m, rfl, hm1, hm2, hJm, hB⟩ := hrel
    have c1 : wr.cell? ⟨b1, 1, none⟩ = some (.int .i64 hi) := (hB.cell hb1 HX1.out).trans h2
    have c2 : wr.cell? ⟨b2, 0, none⟩ = some (.slice a gs.length cap) := (hB.cell hb2 HX2.out).trans h3
    have hsz := hB.size
    clear h1 h2 h3
    by_cases hlt : m ≤ hi
    · have hgr : Rgs wr a gs := by
        intro hne
        obtain ⟨b, o, rfl, hc⟩ := HG.out hne
        exact ⟨b, o, rfl, fun i hi => (hB.cell (HA.out b o rfl hne).1 (HA.out b o rfl hne).2).trans (hc i hi)⟩
      have hall := allRight_any a cap gs m wr hgr hl HO.out (by omega) (by omega)
      obtain ⟨v, hv⟩ : ∃ v, gs.all (rightB · (m : Int)) = v := ⟨_, rfl⟩
      rw [hv] at hall
      have Hv := Lib.hid hv
      have Hall := Lib.hid (callsIn_wide (n := n - 1).2 hall)
      clear hv hall hgr
      have hml : lo + (m - lo) = m := by omega
      have hm1' : m + 1 - lo = m - lo + 1 := by omega
      have Hml := Lib.hid hml
      have Hm1 := Lib.hid hm1'
      clear hml hm1'
      cases v
      · have hst : lensTo lo gs (m + 1 - lo) = lensTo lo gs (m - lo) := by rw [Hm1.out]; exact lensTo_no (by rw [Hml.out]; omega) (by rw [Hml.out]; exact Hv.out)
        have Hst := Lib.hid hst
        clear hst
        gi_wp2_with fail
        refine ⟨trivial, ?_⟩
        refine (Hall.out).mono ?_
        rintro e w1 ⟨rfl, k1⟩
        gi_wp2_with fail
        refine ⟨fun _ h => (by cases h), ?_⟩
        gi_wp2_with fail
        go_roundw
        case rel => exact ⟨m + 1, by go_num, by omega, .inl (by omega), by rw [Hst.out]; exact HJ.out _ wr w1 none hJm ⟨k1.os, k1.tape, k1.output, k1.size, fun k hk _ => k1.block k hk⟩ (fun r e => by cases e), hB.trans (KeepEx.of_keeps k1 (by omega))⟩
        case measure => simp [intOf]; omega
      · have hst : lensTo lo gs (m + 1 - lo) = lensTo lo gs (m - lo) ++ [⟨m, by omega⟩] := by
          rw [Hm1.out, lensTo_yes (by rw [Hml.out]; omega) (by rw [Hml.out]; exact Hv.out)]
          congr 2
          exact Fin.ext Hml.out
        have hpre : lensTo lo gs (m - lo) ++ [⟨m, by omega⟩] <+: lens lo hi gs := by rw [← hst]; exact lensTo_pre (by omega)
        have Hst := Lib.hid hst
        have Hpre := Lib.hid hpre
        clear hst hpre
        gi_wp2_with fail
        refine ⟨trivial, ?_⟩
        refine (Hall.out).mono ?_
        rintro e w1 ⟨rfl, k1⟩
        have hJ1 := HJ.out _ wr w1 none hJm ⟨k1.os, k1.tape, k1.output, k1.size, fun k hk _ => k1.block k hk⟩ (fun r e => by cases e)
        obtain ⟨fn, tmps, assign, body, hy, hR⟩ := HY.out _ (⟨m, by omega⟩ : Ln) w1 hJ1 (by have := Hpre.out.length_le; simp at this; omega)
        dsimp only [lnV] at hy
        gi_wp2_with fail
        refine hR.mono ?_
        rintro e W3 (⟨rfl, hJ3, hk3⟩ | ⟨rfl, hJx3⟩)
        · gi_wp2_with fail
          go_roundw
          case rel => exact ⟨m + 1, by go_num, by omega, .inl (by omega), by rw [Hst.out]; exact hJ3, (hB.trans (KeepEx.of_keeps k1 (by omega))).trans hk3⟩
          case measure => simp [intOf]; omega
        · gi_wp2_with fail
          refine bodyPost_ret (results_none rfl _ _ _) rfl ?_
          exact ⟨⟨_, rfl⟩, .inr ⟨_, Hpre.out, hJx3⟩⟩
    · gi_wp2
      refine bodyPost_end (results_none rfl _ _ _) rfl ?_
      exact ⟨⟨_, rfl⟩, .inl ⟨_, rfl, by
        have e : hi + 1 - lo = m - lo := by omega
        rw [lens, e]; exact hJm⟩⟩

/-- The iterator's contract, as a loop over it wants it: its body may turn the blocks of X. -/
theorem agreeing_stops (n : Nat) (hn : 1 ≤ n) (b1 b2 : Nat) (X : Nat → Prop) (lo hi : Nat) (a : Option Addr) (cap : Nat) (gs : List Rg) (w : World) (hh : hi ≤ 2000) (hl : gs.length ≤ maxLen) (hok : ∀ g ∈ gs, okG g)
    (hx1 : ¬ X b1) (hx2 : ¬ X b2) (hx3 : ∀ b o, a = some ⟨b, o, none⟩ → ¬ X b)
    (h1 : w.cell? ⟨b1, 0, none⟩ = some (.int .i64 lo)) (h2 : w.cell? ⟨b1, 1, none⟩ = some (.int .i64 hi)) (h3 : w.cell? ⟨b2, 0, none⟩ = some (.slice a gs.length cap)) (hg : Rgs w a gs) :
    SeqStopsK Fence.wide n Try.prog 110 #[.pointer (some ⟨b1, 0, none⟩), .pointer (some ⟨b2, 0, none⟩)] (fun x : Ln => #[lnV x]) (KeepEx w.heap.size X) (fun ys => ys = lens lo hi gs) (fun pre => pre <+: lens lo hi gs) (lens lo hi gs).length w := by
  intro l J Jx W hW hJ _ hY h0
  have k : Keeps w W := hW
  exact agreeing1_in n hn l b1 b2 w.heap.size X lo hi a cap gs J Jx hh hl hok hY W k.size hJ ⟨lt_of_cell h1, hx1⟩ ⟨lt_of_cell h3, hx2⟩ (fun b o e hne => by
    subst e
    obtain ⟨b', o', e', hc⟩ := hg hne
    cases e'
    exact ⟨lt_of_cell (hc 0 (List.length_pos_iff.2 hne)), hx3 _ _ rfl⟩) (k.cell h1) (k.cell h2) (k.cell h3) (hg.keep k) h0
/-- What the end of a loop does to the block of its deferred calls. -/
theorem keepEx_putObj {w : World} {X : Nat → Prop} : ∀ (W : World) (l : Nat) (o o' : Obj), w.heap.size ≤ l → W.heap[l]? = some o → o.isCells = false → o.isWalk = false → KeepEx w.heap.size X W (W.putObj l o') :=
  fun W l o o' hl _ _ _ => ⟨(grownBy_putObj' W l o').size, fun k hk _ => World.putObj_heap_other (by omega)⟩
theorem keeps_putObj {w W : World} (h : Keeps w W) {l : Nat} (o' : Obj) (hl : w.heap.size ≤ l) : Keeps w (W.putObj l o') :=
  Below.trans h ⟨rfl, rfl, rfl, (grownBy_putObj' W l o').size, fun k hk => World.putObj_heap_other (by omega)⟩
theorem ownFrom_keeps {β : Type} {w0 w : World} (h : w0.heap.size ≤ w.heap.size) : OwnFrom w.heap.size (fun (_ : β) W => Keeps w0 W) :=
  fun _ W W' row hk hg hr => Below.grown hk hg hk.size (fun k e => by have := (hr k e).1; omega)
end Go.Proofs.Ytoidnbpbeblokaa
