/-
  WarmClash: the law's own part; do the readings of a set clash?
-/
import Derived.Test.YtdfiebfgmpdceaaH2
import Derived.Test.YtdfiebfgmpdceaaE2
namespace Go.Proofs.Ytdfiebfgmpdceaa
open Go.RowKit Go.Shelf

theorem not_own_none (v : Value) : v.ownBlock = none ∨ v.ownBlock ≠ none := by cases hv : v.ownBlock <;> simp
/-- While the readings of a set are gone through: the new block lies in cells of its own, its readings in a row of its own. -/
def Gone (W wr : World) (x : Nat) (B : Wm) (s k : Nat) : Prop := ∃ v, Six wr x (.int .i64 B.mark) (.int .i64 B.llo) (.int .i64 B.lhi) (.int .i64 B.clo) (.int .i64 B.chi) v ∧ wr.ownsRow (x + 1) 53 4 v (ptL B.rs s k).length (wrCells (ptL B.rs s k)) ∧ Keeps W wr
theorem Gone.out {W wr : World} {x : Nat} {B : Wm} {s k : Nat} (h : Gone W wr x B s k) (hs : hasB s k = false) {W' : World} (kk : Keeps wr W') : Gone W W' x B s (k + 1) := by
  obtain ⟨v, h1, h2, h3⟩ := h
  refine ⟨v, h1.keep kk, ?_, h3.trans kk⟩
  rw [ptL_out hs]
  exact h2.kept (kk.grown none) (not_own_none _)
set_option maxRecDepth 100000 in
set_option maxHeartbeats 3200000 in
theorem part_any (B : Wm) (s : Nat) (hs : s < 32) (hl5 : B.rs.length ≤ 5) (w : World) (hI : B.In w) :
    Calls Try.prog 41 #[B.v, .int .i64 s] w fun e w' => ∃ a c, e = .returned (Wm.v (ptB B s a c)) ∧ (ptB B s a c).In w' ∧ Keeps w w' := by
  have HBT := Lib.hid (fun n (hn : n < 5) => has_bits s hs n hn)
  have HI := Lib.hid hI
  have SL := Lib.hid (fun k => ptL_len B.rs s k)
  obtain ⟨i0, hi0, hz0, hz1, hz2⟩ := info_parts info_read
  have BX := Wm.Box.new B w
  obtain ⟨mark, llo, lhi, clo, chi, ra, rc, rs⟩ := B
  obtain ⟨g0, g1, g2, g3, g4, g5⟩ := BX
  dsimp only [Wm.v, ptB] at *
  obtain ⟨wa, hwa⟩ : ∃ wa, w.alloc (.cells #[.int .i64 mark, .int .i64 llo, .int .i64 lhi, .int .i64 clo, .int .i64 chi, .slice ra rs.length rc] 26) = wa := ⟨_, rfl⟩
  have k0 : Keeps w wa := by rw [← hwa]; exact (Keeps.refl w).alloc _
  have hsa : wa.heap.size = w.heap.size + 1 := by rw [← hwa]; simp
  rw [hwa] at g0 g1 g2 g3 g4 g5
  have RS := Lib.hid (Six.boxed wa (.int .i64 0) (.int .i64 0) (.int .i64 0) (.int .i64 0) (.int .i64 0) (.slice none 0 0) 26)
  clear hI hs
  go_enter Try.func41, Try.ntmps41
  go_wp2_with fail
  obtain ⟨WR, hWR⟩ : ∃ WR, wa.alloc (.cells #[.int .i64 0, .int .i64 0, .int .i64 0, .int .i64 0, .int .i64 0, .slice none 0 0] 26) = WR := ⟨_, rfl⟩
  have k1 : Keeps wa WR := by rw [← hWR]; exact (Keeps.refl _).alloc _
  have hsr : w.heap.size + 1 + 1 = WR.heap.size := by rw [← hWR]; simp; omega
  rw [hWR] at RS
  rw [hsa] at RS
  replace g0 := k1.cell g0
  replace g1 := k1.cell g1
  replace g2 := k1.cell g2
  replace g3 := k1.cell g3
  replace g4 := k1.cell g4
  replace g5 := k1.cell g5
  have SB := Lib.hid (Six.boxed WR (.int .i64 mark) (.int .i64 llo) (.int .i64 lhi) (.int .i64 clo) (.int .i64 chi) (.slice none 0 0) 26)
  have ON := Lib.hid (World.ownsRow_nil (WR.alloc (.cells #[.int .i64 mark, .int .i64 llo, .int .i64 lhi, .int .i64 clo, .int .i64 chi, .slice none 0 0] 26)) (WR.heap.size + 1) 53 4)
  rw [hWR, hsr]
  obtain ⟨x, hx⟩ : ∃ x, WR.heap.size = x := ⟨_, rfl⟩
  rw [hx] at SB ON hsr ⊢
  have kw : Keeps w WR := k0.trans k1
  have hlw : w.heap.size < WR.heap.size := by omega
  clear hwa hWR k0 k1 hsa
  go_loopw [13] (fun i wr => ∃ k : Nat, k ≤ rs.length ∧ i = .int .i64 k ∧ Gone WR wr x ⟨mark, llo, lhi, clo, chi, ra, rc, rs⟩ s k) (fun i _ => rs.length - (intOf i).toNat)
  case atStart => exact ⟨0, Nat.zero_le _, rfl, .slice none 0 0, SB.out, ON.out, (Keeps.refl WR).alloc _⟩
  case round =>
    obtain ⟨k, hk, rfl, hgo⟩ := hrel
    have HG := Lib.hid hgo
    obtain ⟨v, hF, hown, hkp⟩ := hgo
    dsimp only at hF hown
    by_cases hlt : k < rs.length
    · obtain ⟨rb, ro, rfl, hr⟩ := (HI.out.rds).keep (kw.trans hkp) (by intro e; simp only at e; rw [e] at hlt; simp at hlt)
      have h2 := hr k hlt
      dsimp only at h2
      obtain ⟨⟨p, q, y, z⟩, hrk⟩ : ∃ r : Wr, rs[k]?.getD (0, 0, 0, 0) = r := ⟨_, rfl⟩
      rw [hrk] at h2
      obtain ⟨h2a, h2b, h2c, h2d⟩ := h2
      dsimp only at h2a h2b h2c h2d
      have hlr := lt_of_cell h2a
      have hbit := HBT.out k (by omega)
      have f3 := hF.c5
      have f4 := hF.fr 5
      have f5 := hF.lt
      cases hh : hasB s k
      · rw [hh] at hbit
        have HH := Lib.hid hh
        clear hr hrk hh hown hF
        go_wp2_with fail
        go_roundw
        case rel => exact ⟨k + 1, by omega, by go_num, Gone.out HG.out HH.out ((Keeps.refl wr).alloc _)⟩
        case measure => simp [intOf]; omega
      · rw [hh] at hbit
        have HH := Lib.hid (ptL_in (rs := rs) hh)
        rw [hrk] at HH
        have hl := SL.out k
        try dsimp only at hl
        obtain ⟨l, hle⟩ : ∃ l, ptL rs s k = l := ⟨_, rfl⟩
        rw [hle] at HH hl hown
        have Hlt := Lib.hid (fun j e => (hown.lt j e).1)
        have Hown := Lib.hid ((hown.alloc (.cells #[.int .i64 p, .int .i64 q, .int .i64 y, .int .i64 z] 53)).alloc (.cells #[.int .i64 p, .int .i64 q, .int .i64 y, .int .i64 z] 53))
        have Hcs := Lib.hid (four_cells (W := (wr.alloc (.cells #[.int .i64 p, .int .i64 q, .int .i64 y, .int .i64 z] 53)).alloc (.cells #[.int .i64 p, .int .i64 q, .int .i64 y, .int .i64 z] 53)) (b := wr.heap.size + 1) (u0 := .int .i64 p) (u1 := .int .i64 q) (u2 := .int .i64 y) (u3 := .int .i64 z) (by simp [go_sem]) (by simp [go_sem]) (by simp [go_sem]) (by simp [go_sem]))
        have HFo := Lib.hid (hF.keep (((Keeps.refl wr).alloc (.cells #[.int .i64 p, .int .i64 q, .int .i64 y, .int .i64 z] 53)).alloc (.cells #[.int .i64 p, .int .i64 q, .int .i64 y, .int .i64 z] 53)))
        have hsz := hkp.size
        clear hr hrk hh hown hF hle
        go_wp2_with (at_builtin; refine wpList_append_own _ rfl _ _ 24 rfl (x + 1) 53 i0 (.agg #[.int .i64 0, .int .i64 0, .int .i64 0, .int .i64 0]) 4 32 Try.underlying24 hi0 hz0 hz1 hz2 rfl (by decide) v _ _ rfl Hown.out ⟨wr.heap.size + 1, 0, none⟩ 1 1 [.int .i64 p, .int .i64 q, .int .i64 y, .int .i64 z] rfl rfl Hcs.out (by simp [Value.oneCell']) (by unfold maxLen; omega) (by omega) (by simp; omega) ?_; intro v' u2 hown' hgrow _; obtain ⟨g', cap', rfl⟩ := ownsRow_succ hown'; have hg2 : ((wr.alloc (.cells #[.int .i64 p, .int .i64 q, .int .i64 y, .int .i64 z] 53)).alloc (.cells #[.int .i64 p, .int .i64 q, .int .i64 y, .int .i64 z] 53)).grownBy u2 v.ownBlock := hgrow; have F2 := Lib.hid (HFo.out.kept hg2 (fun e => by have := Hlt.out _ e.symm; omega)); have f3' := F2.out.c5; have f4' := F2.out.fr 5; have f5' := F2.out.lt; have k4 : Keeps WR u2 := Below.grown ((hkp.alloc _).alloc _) hg2 (by simp; omega) (fun j e => by have := Hlt.out j e; omega); clear hgrow hg2)
        go_wp2_with fail
        go_roundw
        case rel => exact ⟨k + 1, by omega, by go_num, _, F2.out.set5 _, by
          dsimp only
          rw [HH.out, List.length_append, wrCells_append]
          exact ownsRow_setCell_below hown' (Nat.lt_succ_self _) _, k4.setCell _ (by show WR.heap.size ≤ x; omega)⟩
        case measure => simp [intOf]; omega
    · obtain rfl : k = rs.length := by omega
      obtain ⟨a, cap, rfl, hrd, hab⟩ := Wrs.of_owns hown
      have f0 := hF.c0
      have f1 := hF.c1
      have f2 := hF.c2
      have f3 := hF.c3
      have f4 := hF.c4
      have f5 := hF.c5
      have R := RS.out.keep hkp
      have r0 := R.c0
      have r1 := R.c1
      have r2 := R.c2
      have r3 := R.c3
      have r4 := R.c4
      have r5 := R.c5
      have z0 := R.fr 0
      have z1 := R.fr 1
      have z2 := R.fr 2
      have z3 := R.fr 3
      have z4 := R.fr 4
      have z5 := R.fr 5
      have hsl := SL.out rs.length
      have hlx := lt_of_cell f0
      have hlr := lt_of_cell r0
      obtain ⟨b1, hb1⟩ : ∃ b1, w.heap.size + 1 = b1 := ⟨_, rfl⟩
      rw [hb1] at r0 r1 r2 r3 r4 r5 z0 z1 z2 z3 z4 z5 hlr ⊢
      have hwb : w.heap.size ≤ b1 := by omega
      have kY := kw.trans hkp
      clear HG hF hown R RS SB ON
      go_wp2_with fail
      obtain ⟨e0, e1, e2, e3, e4, e5, eo, _⟩ := six_set (X := wr) (b := b1) (v0 := .int .i64 mark) (v1 := .int .i64 llo) (v2 := .int .i64 lhi) (v3 := .int .i64 clo) (v4 := .int .i64 chi) (v5 := .slice a (ptL rs s rs.length).length cap) (by rw [r0]; rfl) (by rw [r1]; rfl) (by rw [r2]; rfl) (by rw [r3]; rfl) (by rw [r4]; rfl) (by rw [r5]; rfl)
      have kZ := ((((((kY.setCell (p := ⟨b1, 0, none⟩) (.int .i64 mark) hwb).setCell (p := ⟨b1, 1, none⟩) (.int .i64 llo) hwb).setCell (p := ⟨b1, 2, none⟩) (.int .i64 lhi) hwb).setCell (p := ⟨b1, 3, none⟩) (.int .i64 clo) hwb).setCell (p := ⟨b1, 4, none⟩) (.int .i64 chi) hwb).setCell (p := ⟨b1, 5, none⟩) (.slice a (ptL rs s rs.length).length cap) hwb)
      have hrd' := hrd.of_eq (w' := ((((((wr.setCell ⟨b1, 0, none⟩ (.int .i64 mark)).setCell ⟨b1, 1, none⟩ (.int .i64 llo)).setCell ⟨b1, 2, none⟩ (.int .i64 lhi)).setCell ⟨b1, 3, none⟩ (.int .i64 clo)).setCell ⟨b1, 4, none⟩ (.int .i64 chi)).setCell ⟨b1, 5, none⟩ (.slice a (ptL rs s rs.length).length cap))) (fun b o e o' => eo b o' (by have := hab b o e; omega))
      refine bodyPost_ret (v := .agg #[.int .i64 mark, .int .i64 llo, .int .i64 lhi, .int .i64 clo, .int .i64 chi, .slice a (ptL rs s rs.length).length cap]) ?_ rfl ⟨a, cap, rfl, ⟨hrd', by dsimp only; unfold maxLen; omega⟩, kZ⟩
      simp [results, Try.results41, go_sem, e0, e1, e2, e3, e4, e5]
set_option maxRecDepth 100000 in
set_option maxHeartbeats 3200000 in
theorem clash1_is (B : Wm) (hok : B.ok = true) (b s : Nat) (hs : s < 32) (v : Bool) (hv : B.clB s = v) (w : World) (hI : B.In w) (hB : B.Box w b) :
    Calls Try.prog 40 #[.int .i64 s, .pointer (some ⟨b, 0, none⟩)] w (RetB v w) := by
  have hl := (vWrs_at (Wm.ok_reads hok)).1
  have PT := Lib.hid (fun w1 (k : Keeps w w1) => part_any B s hs hl w1 (hI.keep k))
  have CN := Lib.hid (fun ra rc w1 (h : (ptB B s ra rc).In w1) => Count_any (ptB B s ra rc) w1 h)
  have SC := Lib.hid (fun ra rc => ptB_count hok s ra rc)
  rw [hv] at SC
  have TG := Lib.hid hB
  obtain ⟨g0, g1, g2, g3, g4, g5⟩ := hB
  obtain ⟨vB, hvB⟩ : ∃ vB : Option Addr → Nat → Value, (fun a c => (ptB B s a c).v) = vB := ⟨_, rfl⟩
  have hvB2 : ∀ a c, (ptB B s a c).v = vB a c := fun a c => by rw [← hvB]
  simp only [hvB2] at PT CN
  obtain ⟨mark, llo, lhi, clo, chi, ra, rc, rs⟩ := B
  dsimp only [Wm.v] at *
  have k0 := Keeps.refl w
  have hlb := lt_of_cell g0
  clear hI hok hs hl hv hvB hvB2
  go_enter Try.func40, Try.ntmps40
  go_wp2_with fail
  refine (PT.out _ k0).mono ?_
  rintro e w1 ⟨a, c, rfl, hIn, k1⟩
  obtain ⟨n, hc, h0, hn⟩ := SC.out a c
  have C1 := Lib.hid (CN.out a c w1 hIn)
  rw [hc] at C1
  clear hc hIn
  cases v
  · have hn0 : ((n : Int) == 0) = false := by
      have : ¬ (n = 0) := fun h => by have := h0.1 h; cases this
      simp; omega
    clear h0
    go_wp2_with fail
    refine C1.out.mono ?_
    rintro e u1 ⟨rfl, k2⟩
    go_wp2
    go_ret
    exact ⟨rfl, k1.trans k2⟩
  · obtain rfl : n = 0 := h0.2 rfl
    rw [show ((0 : Nat) : Int) = 0 from rfl] at C1
    clear h0
    go_wp2_with fail
    refine C1.out.mono ?_
    rintro e u1 ⟨rfl, k2⟩
    go_wp2
    go_ret
    exact ⟨rfl, k1.trans k2⟩
theorem refSize_is (s : Nat) (hs : s < 32) (p : Nat) (hp : popW s = p) (w : World) : Calls Try.prog 42 #[.int .i64 s] w fun e w' => e = .returned (.int .i64 p) ∧ w = w' := by
  subst hp
  exact refSize_any s hs w
end Go.Proofs.Ytdfiebfgmpdceaa
