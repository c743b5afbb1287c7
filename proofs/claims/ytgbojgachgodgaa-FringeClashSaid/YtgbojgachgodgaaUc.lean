/-
  FringeClash's inner function: do the readings of a set clash?
-/
import Derived.Test.YtgbojgachgodgaaUb
namespace Go.Proofs.Ytgbojgachgodgaa
open Go.RowKit Go.Shelf

/-- A block of four cells, none of them frozen. -/
structure Four (W : World) (b : Nat) (v0 v1 v2 v3 : Value) : Prop where
  c0 : W.cell? ⟨b, 0, none⟩ = some v0
  c1 : W.cell? ⟨b, 1, none⟩ = some v1
  c2 : W.cell? ⟨b, 2, none⟩ = some v2
  c3 : W.cell? ⟨b, 3, none⟩ = some v3
  fr : ∀ o, W.frozen? ⟨b, o, none⟩ = false
theorem Four.lt {W : World} {b : Nat} {v0 v1 v2 v3 : Value} (h : Four W b v0 v1 v2 v3) : b < W.heap.size := lt_of_cell h.c0
theorem Four.keep {W W' : World} {b : Nat} {v0 v1 v2 v3 : Value} (h : Four W b v0 v1 v2 v3) (k : Keeps W W') : Four W' b v0 v1 v2 v3 :=
  ⟨k.cell h.c0, k.cell h.c1, k.cell h.c2, k.cell h.c3, fun o => (k.cells.2 _ _ h.lt).trans (h.fr o)⟩
theorem Four.kept {W W' : World} {row : Option Nat} {b : Nat} {v0 v1 v2 v3 : Value} (h : Four W b v0 v1 v2 v3) (hg : W.grownBy W' row) (hne : some b ≠ row) : Four W' b v0 v1 v2 v3 :=
  have hc : ∀ o, W'.cell? ⟨b, o, none⟩ = W.cell? ⟨b, o, none⟩ := fun _ => World.cell?_of_block (hg.block b h.lt hne)
  have hf : ∀ o, W'.frozen? ⟨b, o, none⟩ = W.frozen? ⟨b, o, none⟩ := fun _ => World.frozen?_of_block (hg.block b h.lt hne)
  ⟨(hc _).trans h.c0, (hc _).trans h.c1, (hc _).trans h.c2, (hc _).trans h.c3, fun o => (hf _).trans (h.fr o)⟩
theorem Four.set3 {W : World} {b : Nat} {v0 v1 v2 v3 : Value} (h : Four W b v0 v1 v2 v3) (v : Value) : Four (W.setCell ⟨b, 3, none⟩ v) b v0 v1 v2 v :=
  ⟨(cell_set_other (by omega)).trans h.c0, (cell_set_other (by omega)).trans h.c1, (cell_set_other (by omega)).trans h.c2, cell_set_same (by rw [h.c3]; rfl), fun o => by rw [World.frozen?_setCell]; exact h.fr o⟩
theorem Four.boxed (w : World) (v0 v1 v2 v3 : Value) (t : TypeId) : Four (w.alloc (.cells #[v0, v1, v2, v3] t)) w.heap.size v0 v1 v2 v3 :=
  ⟨by simp [go_sem], by simp [go_sem], by simp [go_sem], by simp [go_sem], fun o => by simp [go_sem]⟩
/-- While the readings of a set are gone through: the new fringe lies in a block of its own, its readings in a row of its own. -/
def Goes (w wr : World) (F : Fr) (s k : Nat) : Prop := ∃ v, Four wr w.heap.size (.slice F.wa F.ws.length F.wc) (.int .i64 F.lo) (.int .i64 F.hi) v ∧ wr.ownsRow (w.heap.size + 1) 41 3 v (selR F.rs s k).length (rdCells (selR F.rs s k)) ∧ Keeps w wr
theorem Goes.out {w wr : World} {F : Fr} {s k : Nat} (h : Goes w wr F s k) (hs : hasB s k = false) {W' : World} (kk : Keeps wr W') : Goes w W' F s (k + 1) := by
  obtain ⟨v, h1, h2, h3⟩ := h
  refine ⟨v, h1.keep kk, ?_, h3.trans kk⟩
  rw [selR_out hs]
  exact h2.kept (kk.grown none) (not_own_none _)
set_option maxRecDepth 100000 in
set_option maxHeartbeats 3200000 in
theorem clash1_any (F : Fr) (hok : F.ok = true) (b s : Nat) (hs : s < 2 ^ F.gs.length) (w : World) (hI : F.In w) (hB : F.Box w b) :
    Calls Try.prog 36 #[.int .i64 s, .pointer (some ⟨b, 0, none⟩)] w (RetB (F.clB s) w) := by
  have hrl := F.rl_in hok
  have h64 := pow_le F hok
  have HBT := Lib.hid (fun n (hn : n < 6) => has_bits s (by omega) n hn)
  have CN := Lib.hid (fun ra rc w1 (h : (F.sub s ra rc).In w1) => Count_any (F.sub s ra rc) w1 h)
  have SC := Lib.hid (fun ra rc => sub_count F hok hs ra rc)
  have HI := Lib.hid hI
  have SL := Lib.hid (fun k => selR_len F.rs s k)
  obtain ⟨i0, hi0, hz0, hz1, hz2⟩ := info_parts info_read
  obtain ⟨cl, hcl⟩ : ∃ cl, F.clB s = cl := ⟨_, rfl⟩
  rw [hcl] at SC ⊢
  obtain ⟨wa, wc, ws, lo, hi, ra, rc, rs⟩ := F
  obtain ⟨g0, g1, g2, g3⟩ := hB
  dsimp only [Fr.v, Fr.sub] at *
  have hlb := lt_of_cell g3
  clear hok hI hs hcl
  go_enter Try.func36, Try.ntmps36
  go_wp2_with fail
  go_loopw [14] (fun i wr => ∃ k : Nat, k ≤ rs.length ∧ i = .int .i64 k ∧ Goes w wr ⟨wa, wc, ws, lo, hi, ra, rc, rs⟩ s k) (fun i _ => rs.length - (intOf i).toNat)
  case atStart => exact ⟨0, Nat.zero_le _, rfl, .slice none 0 0, Four.boxed _ _ _ _ _ _, World.ownsRow_nil _ _ _ _, (Keeps.refl w).alloc _⟩
  case round =>
    obtain ⟨k, hk, rfl, hgo⟩ := hrel
    have HG := Lib.hid hgo
    obtain ⟨v, hF, hown, hkp⟩ := hgo
    dsimp only at hF hown
    by_cases hlt : k < rs.length
    · obtain ⟨rb, ro, rfl, hr⟩ := (HI.out.rds).keep hkp (by intro e; simp only at e; rw [e] at hlt; simp at hlt)
      have h2 := hr k hlt
      dsimp only at h2
      obtain ⟨⟨c, x, y⟩, hrk⟩ : ∃ r : Rd, rs[k]?.getD (0, 0, 0) = r := ⟨_, rfl⟩
      rw [hrk] at h2
      obtain ⟨h2a, h2b, h2c⟩ := h2
      dsimp only at h2a h2b h2c
      have hlr := lt_of_cell h2a
      have hbit := HBT.out k (by omega)
      have f3 := hF.c3
      have f4 := hF.fr 3
      have f5 := hF.lt
      cases hh : hasB s k
      · rw [hh] at hbit
        have HH := Lib.hid hh
        clear hr hrk hh hown hF
        go_wp2
        go_roundw
        case rel => exact ⟨k + 1, by omega, by go_num, Goes.out HG.out HH.out ((Keeps.refl wr).alloc _)⟩
        case measure => simp [intOf]; omega
      · rw [hh] at hbit
        have HH := Lib.hid (selR_in (rs := rs) hh)
        rw [hrk] at HH
        have hl := SL.out k
        try dsimp only at hl
        obtain ⟨l, hle⟩ : ∃ l, selR rs s k = l := ⟨_, rfl⟩
        rw [hle] at HH hl hown
        have Hlt := Lib.hid (fun j e => (hown.lt j e).1)
        have Hown := Lib.hid ((hown.alloc (.cells #[.int .i64 c, .int .i64 x, .int .i64 y] 41)).alloc (.cells #[.int .i64 c, .int .i64 x, .int .i64 y] 41))
        have Hcs := Lib.hid (three_cells (W := (wr.alloc (.cells #[.int .i64 c, .int .i64 x, .int .i64 y] 41)).alloc (.cells #[.int .i64 c, .int .i64 x, .int .i64 y] 41)) (b := wr.heap.size + 1) (u0 := .int .i64 c) (u1 := .int .i64 x) (u2 := .int .i64 y) (by simp [go_sem]) (by simp [go_sem]) (by simp [go_sem]))
        have HFo := Lib.hid (hF.keep (((Keeps.refl wr).alloc (.cells #[.int .i64 c, .int .i64 x, .int .i64 y] 41)).alloc (.cells #[.int .i64 c, .int .i64 x, .int .i64 y] 41)))
        have hsz := hkp.size
        clear hr hrk hh hown hF hle
        go_wp2_with (at_builtin; refine wpList_append_own _ rfl _ _ 25 rfl (w.heap.size + 1) 41 i0 (.agg #[.int .i64 0, .int .i64 0, .int .i64 0]) 3 24 Try.underlying25 hi0 hz0 hz1 hz2 rfl (by decide) v _ _ rfl Hown.out ⟨wr.heap.size + 1, 0, none⟩ 1 1 [.int .i64 c, .int .i64 x, .int .i64 y] rfl rfl Hcs.out (by simp [Value.oneCell']) (by unfold maxLen; omega) (by omega) (by simp; omega) ?_; intro v' u2 hown' hgrow _; obtain ⟨g', cap', rfl⟩ := ownsRow_succ hown'; have hg2 : ((wr.alloc (.cells #[.int .i64 c, .int .i64 x, .int .i64 y] 41)).alloc (.cells #[.int .i64 c, .int .i64 x, .int .i64 y] 41)).grownBy u2 v.ownBlock := hgrow; have F2 := Lib.hid (HFo.out.kept hg2 (fun e => by have := Hlt.out _ e.symm; omega)); have f3' := F2.out.c3; have f4' := F2.out.fr 3; have f5' := F2.out.lt; have k4 : Keeps w u2 := Below.grown ((hkp.alloc _).alloc _) hg2 (by simp; omega) (fun j e => by have := Hlt.out j e; omega); clear hgrow hg2)
        go_wp2
        go_roundw
        case rel => exact ⟨k + 1, by omega, by go_num, _, F2.out.set3 _, by
          dsimp only
          rw [HH.out, List.length_append, rdCells_append]
          exact ownsRow_setCell_below hown' (Nat.lt_succ_self _) _, k4.setCell _ (Nat.le_refl _)⟩
        case measure => simp [intOf]; omega
    · obtain rfl : k = rs.length := by omega
      obtain ⟨a, cap, rfl, hrd, _⟩ := Rds.of_owns hown
      have f0 := hF.c0
      have f1 := hF.c1
      have f2 := hF.c2
      have f3 := hF.c3
      have C1 := Lib.hid (CN.out a cap wr ⟨HI.out.ints.keep hkp, hrd, HI.out.wl, by have := SL.out rs.length; dsimp only at this ⊢; unfold maxLen; omega⟩)
      obtain ⟨s1, s2, s3⟩ := SC.out a cap
      try dsimp only at s1 s2 s3
      rw [s1] at C1
      obtain ⟨n, hn⟩ : ∃ n, (Fr.mk wa wc ws lo hi a cap (selR rs s rs.length)).truths.length = n := ⟨_, rfl⟩
      rw [hn] at C1 s2 s3
      have S2 := Lib.hid s2
      clear s1 s2 hn HG hF hown hrd
      cases cl
      · have hn0 : ¬ (n = 0) := fun h => by have := S2.out.1 h; simp at this
        have hnb : ((n : Int) == 0) = false := by simp; omega
        go_wp2_with fail
        refine C1.out.mono ?_
        rintro e u1 ⟨rfl, k1⟩
        go_wp2
        go_ret
        exact ⟨rfl, hkp.trans k1⟩
      · obtain rfl : n = 0 := S2.out.2 rfl
        rw [show ((0 : Nat) : Int) = 0 from rfl] at C1
        go_wp2_with fail
        refine C1.out.mono ?_
        rintro e u1 ⟨rfl, k1⟩
        go_wp2
        go_ret
        exact ⟨rfl, hkp.trans k1⟩
end Go.Proofs.Ytgbojgachgodgaa
