/-
  WarmClash: how many are in a set, by the reference; the block with the readings of a set alone, by the law's own part; whether these clash.
-/
import Derived.Test.YtmhpgjlegajpeaaG2
import Derived.Test.YtmhpgjlegajpeaaF1
import Derived.Laws.OwnMore
import Derived.Laws.BitsLemmas
namespace Go.Proofs.Ytmhpgjlegajpeaa
open Go.RowKit Go.Shelf

theorem popW_half : ∀ s : Nat, s < 32 → popW s = s % 2 + popW (s / 2) := by decide +kernel
theorem popW_le : ∀ s : Nat, s < 32 → popW s ≤ 5 := by decide +kernel
set_option maxHeartbeats 400000 in
theorem refSize_any (s : Nat) (hs : s < 32) (w : World) : Calls Try.prog 42 #[.int .i64 s] w fun e w' => e = .returned (.int .i64 (popW s)) ∧ w = w' := by
  have hp6 := popW_le s hs
  go_enter Try.func42, Try.ntmps42
  go_wp2
  go_loop [0, 3] (fun x n => ∃ a b : Nat, b < 32 ∧ a + popW b = popW s ∧ x = .int .i64 b ∧ n = .int .i64 a) (fun x _ => (intOf x).toNat)
  case atStart => exact ⟨0, s, hs, by omega, rfl, rfl⟩
  case round =>
    obtain ⟨a, b, hb, hab, rfl, rfl⟩ := hrel
    by_cases hlt : 0 < b
    · have hh := popW_half b hb
      have HH := Lib.hid (show a + b % 2 + popW (b / 2) = popW s by omega)
      have ha : a ≤ 6 := by omega
      clear hab hh
      go_wp2
      go_round
      case rel => exact ⟨a + b % 2, b / 2, by omega, HH.out, by go_num, by go_num⟩
      case measure => simp [intOf]; omega
    · have HH := Lib.hid (show (a : Int) = (popW s : Nat) by
        obtain rfl : b = 0 := by omega
        have : popW 0 = 0 := rfl
        omega)
      have hz : decide (0 < b) = false := by simpa using hlt
      clear hab hlt
      go_wp2
      go_ret
      exact ⟨by rw [HH.out]; rfl, rfl⟩

/-- Those of the first k readings that are in a set. -/
def ptL (rs : List Wr) (s k : Nat) : List Wr := ((List.range k).filter (fun i => hasB s i)).map (fun i => rs[i]?.getD (0, 0, 0, 0))
theorem ptL_in {rs : List Wr} {s k : Nat} (h : hasB s k = true) : ptL rs s (k + 1) = ptL rs s k ++ [rs[k]?.getD (0, 0, 0, 0)] := by
  unfold ptL
  rw [List.range_succ, List.filter_append, List.map_append]
  simp [h]
theorem ptL_out {rs : List Wr} {s k : Nat} (h : hasB s k = false) : ptL rs s (k + 1) = ptL rs s k := by
  unfold ptL
  rw [List.range_succ, List.filter_append, List.map_append]
  simp [h]
theorem ptL_len (rs : List Wr) (s k : Nat) : (ptL rs s k).length ≤ k := by
  unfold ptL
  rw [List.length_map]
  exact Nat.le_trans (List.length_filter_le _ _) (by simp)
theorem ptL_wo (rs : List Wr) (s : Nat) : ptL rs s rs.length = wo rs s := by
  unfold ptL wo keptTo
  rw [List.take_zero, List.nil_append, Nat.sub_zero, List.range_eq_range']
/-- The block with the readings of a set alone. -/
def ptB (B : Wm) (s : Nat) (ra : Option Addr) (rc : Nat) : Wm := ⟨B.mark, B.llo, B.lhi, B.clo, B.chi, ra, rc, ptL B.rs s B.rs.length⟩
theorem ptB_ok {B : Wm} (hok : B.ok = true) (s : Nat) (ra : Option Addr) (rc : Nat) : (ptB B s ra rc).ok = true := by
  obtain ⟨hl, hw⟩ := vWrs_at (Wm.ok_reads hok)
  have h1 := ptL_len B.rs s B.rs.length
  simp only [Wm.ok, Bool.and_eq_true, decide_eq_true_eq] at hok
  unfold Wm.ok ptB
  dsimp only
  simp only [Bool.and_eq_true, decide_eq_true_eq]
  refine ⟨hok.1, ?_⟩
  unfold vWrs
  simp only [Bool.and_eq_true, decide_eq_true_eq]
  refine ⟨by omega, List.all_eq_true.2 fun r hr => hw r (wo_sub B.rs s r (by rw [← ptL_wo]; exact hr))⟩
theorem ptB_count {B : Wm} (hok : B.ok = true) (s : Nat) (ra : Option Addr) (rc : Nat) : ∃ n : Nat, (ptB B s ra rc).countA = ((n : Int), 0) ∧ (n = 0 ↔ B.clB s = true) ∧ n ≤ 100 := by
  refine ⟨(ptB B s ra rc).truths.length, ?_, ?_, ?_⟩
  · unfold Wm.countA; rw [if_pos (ptB_ok hok s ra rc)]
  · have e : (ptB B s ra rc).truths = B.leftBy (wo B.rs s) := by
      rw [← ptL_wo]; rfl
    rw [e, Wm.clB, List.isEmpty_iff, List.length_eq_zero_iff]
  · exact Nat.le_trans (List.length_filter_le _ _) (Wm.all_len (Wm.ok_lim (ptB_ok hok s ra rc)))

/-- A block of six cells, none of them frozen. -/
structure Six (W : World) (b : Nat) (v0 v1 v2 v3 v4 v5 : Value) : Prop where
  c0 : W.cell? ⟨b, 0, none⟩ = some v0
  c1 : W.cell? ⟨b, 1, none⟩ = some v1
  c2 : W.cell? ⟨b, 2, none⟩ = some v2
  c3 : W.cell? ⟨b, 3, none⟩ = some v3
  c4 : W.cell? ⟨b, 4, none⟩ = some v4
  c5 : W.cell? ⟨b, 5, none⟩ = some v5
  fr : ∀ o, W.frozen? ⟨b, o, none⟩ = false
theorem Six.lt {W : World} {b : Nat} {v0 v1 v2 v3 v4 v5 : Value} (h : Six W b v0 v1 v2 v3 v4 v5) : b < W.heap.size := lt_of_cell h.c0
theorem Six.keep {W W' : World} {b : Nat} {v0 v1 v2 v3 v4 v5 : Value} (h : Six W b v0 v1 v2 v3 v4 v5) (k : Keeps W W') : Six W' b v0 v1 v2 v3 v4 v5 :=
  ⟨k.cell h.c0, k.cell h.c1, k.cell h.c2, k.cell h.c3, k.cell h.c4, k.cell h.c5, fun o => (k.cells.2 _ _ h.lt).trans (h.fr o)⟩
theorem Six.kept {W W' : World} {row : Option Nat} {b : Nat} {v0 v1 v2 v3 v4 v5 : Value} (h : Six W b v0 v1 v2 v3 v4 v5) (hg : W.grownBy W' row) (hne : some b ≠ row) : Six W' b v0 v1 v2 v3 v4 v5 :=
  have hc : ∀ o, W'.cell? ⟨b, o, none⟩ = W.cell? ⟨b, o, none⟩ := fun _ => World.cell?_of_block (hg.block b h.lt hne)
  have hf : ∀ o, W'.frozen? ⟨b, o, none⟩ = W.frozen? ⟨b, o, none⟩ := fun _ => World.frozen?_of_block (hg.block b h.lt hne)
  ⟨(hc _).trans h.c0, (hc _).trans h.c1, (hc _).trans h.c2, (hc _).trans h.c3, (hc _).trans h.c4, (hc _).trans h.c5, fun o => (hf _).trans (h.fr o)⟩
theorem Six.set5 {W : World} {b : Nat} {v0 v1 v2 v3 v4 v5 : Value} (h : Six W b v0 v1 v2 v3 v4 v5) (v : Value) : Six (W.setCell ⟨b, 5, none⟩ v) b v0 v1 v2 v3 v4 v :=
  ⟨(cell_set_other (by omega)).trans h.c0, (cell_set_other (by omega)).trans h.c1, (cell_set_other (by omega)).trans h.c2, (cell_set_other (by omega)).trans h.c3, (cell_set_other (by omega)).trans h.c4, cell_set_same (by rw [h.c5]; rfl), fun o => by rw [World.frozen?_setCell]; exact h.fr o⟩
theorem Six.boxed (w : World) (v0 v1 v2 v3 v4 v5 : Value) (t : TypeId) : Six (w.alloc (.cells #[v0, v1, v2, v3, v4, v5] t)) w.heap.size v0 v1 v2 v3 v4 v5 :=
  ⟨by simp [go_sem], by simp [go_sem], by simp [go_sem], by simp [go_sem], by simp [go_sem], by simp [go_sem], fun o => by simp [go_sem]⟩
theorem four_cells {W : World} {b : Nat} {u0 u1 u2 u3 : Value} (h0 : W.cell? ⟨b, 0, none⟩ = some u0) (h1 : W.cell? ⟨b, 1, none⟩ = some u1) (h2 : W.cell? ⟨b, 2, none⟩ = some u2) (h3 : W.cell? ⟨b, 3, none⟩ = some u3) :
    ∀ (j : Nat) (v : Value), [u0, u1, u2, u3][j]? = some v → W.cell? ((⟨b, 0, none⟩ : Addr).add j) = some v := by
  intro j v hv
  match j, hv with
  | 0, hv => cases hv; exact h0
  | 1, hv => cases hv; exact h1
  | 2, hv => cases hv; exact h2
  | 3, hv => cases hv; exact h3
  | n + 4, hv => simp at hv
end Go.Proofs.Ytmhpgjlegajpeaa
