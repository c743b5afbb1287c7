/-
  The document's own package, of WARM: at which warmths a reading can have been made of a pair.
-/
import Derived.Test.YtmhpgjlegajpeaaI2
import Derived.Test.YtmhpgjlegajpeaaI3
import Derived.Test.YtmhpgjlegajpeaaB7
namespace Go.Proofs.Ytmhpgjlegajpeaa
open Go.RowKit Go.Shelf
attribute [local go_sem] Oper.semAt_some

theorem info_i : (Try.prog.info? 3).map (fun i => (i.zero, i.size, i.bytes)) = some (some (.int .i64 0), 1, 8) := by kernel_rfl
theorem ownN (v : Value) : v.ownBlock = none ∨ v.ownBlock ≠ none := by cases hv : v.ownBlock <;> simp
theorem ints_rowI {w : World} {base : Nat} {v : Value} {xs : List Int} (h : w.ownsRow base 3 1 v xs.length (xs.map (Value.int .i64))) : ∃ a cap, v = .slice a xs.length cap ∧ Ints w a xs := by
  rcases h.2 with ⟨rfl, h0⟩ | ⟨g, cap, cur, rfl, h2, _⟩
  · obtain rfl : xs = [] := List.length_eq_zero_iff.1 h0
    exact ⟨none, 0, rfl, fun h => absurd rfl h⟩
  · refine ⟨some ⟨g, 0, none⟩, cap, rfl, fun _ => ⟨g, 0, rfl, fun i hi => ?_⟩⟩
    rw [Nat.zero_add, h.cellAt i (by omega)]
    simp [List.getElem?_eq_getElem hi]
theorem warmsTo_len (m : Int) (p : Int × Int) (r : Wr) (k : Nat) : (warmsTo m p r k).length ≤ k := by
  refine Nat.le_trans (List.length_filter_le _ _) ?_
  simp
theorem vWr_bd {r : Wr} (h : vWr r = true) : -100 ≤ r.1 ∧ r.1 ≤ r.2.1 ∧ r.2.1 ≤ 100 ∧ r.2.1 - r.1 ≤ 4 ∧ -30000 ≤ r.2.2.1 ∧ r.2.2.1 ≤ r.2.2.2 ∧ r.2.2.2 ≤ 30000 := by
  simp only [vWr, inS, Bool.and_eq_true, decide_eq_true_eq] at h
  omega
theorem ok_rs {B : Wm} (h : B.ok = true) : B.rs.length ≤ 5 ∧ ∀ i, i < B.rs.length → vWr (B.rs[i]?.getD (0, 0, 0, 0)) = true := by
  simp only [Wm.ok, Bool.and_eq_true, vWrs, decide_eq_true_eq] at h
  refine ⟨h.2.1, fun i hi => ?_⟩
  rw [List.getElem?_eq_getElem hi]
  exact List.all_eq_true.1 h.2.2 _ (List.getElem_mem hi)

/-- Numbers are returned, in a row of their own. -/
def RetIs (xs : List Int) (w : World) (e : Ending) (w' : World) : Prop := (∃ a cap, e = .returned (.slice a xs.length cap) ∧ Ints w' a xs) ∧ Keeps w w'
set_option maxRecDepth 100000 in
set_option maxHeartbeats 3200000 in
theorem refWarms_any (B : Wm) (L c : Int) (i : Nat) (r : Wr) (w : World) (hI : B.In w) (hok : B.ok = true) (l1 : -1000 ≤ L) (l2 : L ≤ 1000) (c1 : 0 ≤ c) (c2 : c ≤ 20) (hi : i < B.rs.length) (hr : B.rs[i]?.getD (0, 0, 0, 0) = r) :
    Calls Try.prog 63 #[B.v, .agg #[.int .i64 L, .int .i64 c], .int .i64 i] w (RetIs (warms B.mark (L, c) r) w) := by
  obtain ⟨i0, hi0, hz0, hz1, hz2⟩ := info_parts info_i
  have hL := Wm.ok_lim hok
  obtain ⟨m1, m2, _, _, _, _, _, _, _, _⟩ := hL
  have hrl := hI.rl
  unfold maxLen at hrl
  have hv := (ok_rs hok).2 i hi
  rw [hr] at hv
  obtain ⟨b1, b2, b3, b4, b5, b6, b7⟩ := vWr_bd hv
  have IN := Lib.hid (fun x w1 => refIn_any x r.2.2.1 r.2.2.2 w1)
  have SH := Lib.hid (fun t (t1 : -101 ≤ t) (t2 : t ≤ 101) w1 => refShow_any B L c t w1 m1 m2 l1 l2 c1 c2 t1 t2)
  obtain ⟨rb, ro, hra, hcs⟩ := hI.rds (by intro e; rw [e] at hi; simp at hi)
  have hrc := hcs i hi
  rw [hr] at hrc
  obtain ⟨d0, d1, d2, d3⟩ := hrc
  have BX := Wm.Box.new B w
  have HWY := Lib.hid (fun k h => warmsTo_yes (m := B.mark) (p := (L, c)) (r := r) (k := k) h)
  have HWN := Lib.hid (fun k h => warmsTo_no (m := B.mark) (p := (L, c)) (r := r) (k := k) h)
  have HLEN := Lib.hid (fun k => warmsTo_len B.mark (L, c) r k)
  have HHIT := Lib.hid (fun t => show hitB B.mark (L, c) r t = decide (r.2.2.1 ≤ shI B.mark L c t ∧ shI B.mark L c t ≤ r.2.2.2) from rfl)
  obtain ⟨mark, llo, lhi, clo, chi, ra, rc, rs⟩ := B
  dsimp only [Wm.v] at *
  subst hra
  obtain ⟨x, y, u, v⟩ := r
  dsimp only at *
  rw [show warms mark (L, c) (x, y, u, v) = warmsTo mark (L, c) (x, y, u, v) (y + 1 - x).toNat from rfl]
  obtain ⟨R, hR⟩ : ∃ R : Nat → List Int, warmsTo mark (L, c) (x, y, u, v) = R := ⟨_, rfl⟩
  rw [hR] at HWY HWN HLEN ⊢
  have HR0 := Lib.hid (show R 0 = [] from by rw [← hR]; rfl)
  obtain ⟨n, hn⟩ : ∃ n, (y + 1 - x).toNat = n := ⟨_, rfl⟩
  rw [hn]
  obtain ⟨hit, hhit⟩ : ∃ h : Int → Bool, hitB mark (L, c) (x, y, u, v) = h := ⟨_, rfl⟩
  rw [hhit] at HHIT HWY HWN
  have hmx : Try.prog.follows .mixedOrders = true := by kernel_rfl
  clear hI hok hr hv hcs hR hhit
  obtain ⟨W, hW⟩ : ∃ W, w.alloc (.cells #[.int .i64 mark, .int .i64 llo, .int .i64 lhi, .int .i64 clo, .int .i64 chi, .slice (some ⟨rb, ro, none⟩) rs.length rc] 26) = W := ⟨_, rfl⟩
  rw [hW] at BX
  have k0 : Keeps w W := by rw [← hW]; exact (Keeps.refl _).alloc _
  have hsz : W.heap.size = w.heap.size + 1 := by rw [← hW]; simp
  obtain ⟨V, hV⟩ : ∃ V, W.alloc (.cells #[.int .i64 L, .int .i64 c] 91) = V := ⟨_, rfl⟩
  have k1 : Keeps W V := by rw [← hV]; exact (Keeps.refl _).alloc _
  have hsz2 : V.heap.size = w.heap.size + 1 + 1 := by rw [← hV, ← hsz]; simp
  have h0 : V.cell? ⟨w.heap.size + 1, 0, none⟩ = some (.int .i64 L) := by rw [← hV, ← hsz]; simp [go_sem]
  have h1 : V.cell? ⟨w.heap.size + 1, 1, none⟩ = some (.int .i64 c) := by rw [← hV, ← hsz]; simp [go_sem]
  obtain ⟨g0, g1, g2, g3, g4, g5⟩ := BX.keep k1
  dsimp only at g0 g1 g2 g3 g4 g5
  have kk := k0.trans k1
  have hl1 := lt_of_cell g0
  have hl2 := lt_of_cell h0
  replace d0 := kk.cell d0
  replace d1 := kk.cell d1
  replace d2 := kk.cell d2
  replace d3 := kk.cell d3
  have hl3 := lt_of_cell d0
  clear BX
  go_enter Try.func63, Try.ntmps63
  go_wp2_with fail
  obtain ⟨s, hs⟩ : ∃ s, w.heap.size + 1 + 1 = s := ⟨_, rfl⟩
  obtain ⟨bp, hbp⟩ : ∃ s, w.heap.size + 1 = s := ⟨_, rfl⟩
  obtain ⟨W3, hW3⟩ : ∃ W3, V.alloc (.cells #[.int .i64 x, .int .i64 y, .int .i64 u, .int .i64 v] 53) = W3 := ⟨_, rfl⟩
  have k2 : Keeps V W3 := by rw [← hW3]; exact (Keeps.refl _).alloc _
  have e0 : W3.cell? ⟨s, 0, none⟩ = some (.int .i64 x) := by rw [← hW3, ← hs, ← hsz2]; simp [go_sem]
  have e1 : W3.cell? ⟨s, 1, none⟩ = some (.int .i64 y) := by rw [← hW3, ← hs, ← hsz2]; simp [go_sem]
  have e2 : W3.cell? ⟨s, 2, none⟩ = some (.int .i64 u) := by rw [← hW3, ← hs, ← hsz2]; simp [go_sem]
  have e3 : W3.cell? ⟨s, 3, none⟩ = some (.int .i64 v) := by rw [← hW3, ← hs, ← hsz2]; simp [go_sem]
  replace g0 := k2.cell g0
  replace g1 := k2.cell g1
  replace g2 := k2.cell g2
  replace g3 := k2.cell g3
  replace g4 := k2.cell g4
  replace g5 := k2.cell g5
  replace h0 := k2.cell h0
  replace h1 := k2.cell h1
  replace kk := kk.trans k2
  rw [hbp] at h0 h1
  rw [hW3, hs, hbp]
  clear hW3 hs hbp hV hsz2 hW hsz hl1 hl2 hl3 d0 d1 d2 d3 k0 k1 k2
  obtain ⟨b0, hb0⟩ : ∃ b0, w.heap.size = b0 := ⟨_, rfl⟩
  rw [hb0] at g0 g1 g2 g3 g4 g5 ⊢
  go_loopw [8, 9] (fun o i wr => ∃ k : Nat, k ≤ n ∧ i = .int .i64 (x + (k : Int)) ∧ wr.ownsRow W3.heap.size 3 1 o (R k).length ((R k).map (Value.int .i64)) ∧ Keeps W3 wr) (fun _ i _ => (y + 1 - intOf i).toNat)
  case atStart => exact ⟨0, Nat.zero_le _, by simp, by rw [HR0.out]; exact World.ownsRow_nil _ _ _ _, Keeps.refl _⟩
  case round =>
    obtain ⟨k, hk, rfl, hown, kr⟩ := hrel
    have f1 := kr.cell e1
    have hlf := lt_of_cell f1
    have hlen := HLEN.out k
    have HO := Lib.hid hown
    clear hown
    by_cases hlt : k < n
    · obtain ⟨t, ht⟩ : ∃ t, x + (k : Int) = t := ⟨_, rfl⟩
      have hty : t ≤ y := by omega
      have ht0 : -101 ≤ t ∧ t ≤ 101 := by omega
      have HY := Lib.hid (HWY.out k)
      have HN := Lib.hid (HWN.out k)
      have HT1 := Lib.hid (show x + ((k + 1 : Nat) : Int) = t + 1 from by omega)
      rw [ht] at HY HN ⊢
      have SHT := Lib.hid (fun w1 => SH.out t (by omega) (by omega) w1)
      obtain ⟨z, hz⟩ : ∃ z, shI mark L c t = z := ⟨_, rfl⟩
      have hht := HHIT.out t
      rw [hz] at SHT hht
      have INZ := Lib.hid (IN.out z)
      rw [← hht] at INZ
      have f2 := kr.cell e2
      have f3 := kr.cell e3
      clear HHIT hht hz ht IN SH
      haveI : Nonempty (Since wr.drew) := Since.some _
      have kd : Keeps W3 wr.drew := kr.drew
      have j0 : ∀ q : Since wr.drew, q.W.cell? ⟨b0, 0, none⟩ = some (.int .i64 mark) := fun q => (kd.trans q.keeps).cell g0
      have j1 : ∀ q : Since wr.drew, q.W.cell? ⟨b0, 1, none⟩ = some (.int .i64 llo) := fun q => (kd.trans q.keeps).cell g1
      have j2 : ∀ q : Since wr.drew, q.W.cell? ⟨b0, 2, none⟩ = some (.int .i64 lhi) := fun q => (kd.trans q.keeps).cell g2
      have j3 : ∀ q : Since wr.drew, q.W.cell? ⟨b0, 3, none⟩ = some (.int .i64 clo) := fun q => (kd.trans q.keeps).cell g3
      have j4 : ∀ q : Since wr.drew, q.W.cell? ⟨b0, 4, none⟩ = some (.int .i64 chi) := fun q => (kd.trans q.keeps).cell g4
      have j5 : ∀ q : Since wr.drew, q.W.cell? ⟨b0, 5, none⟩ = some (.slice (some ⟨rb, ro, none⟩) rs.length rc) := fun q => (kd.trans q.keeps).cell g5
      have j6 : ∀ q : Since wr.drew, q.W.cell? ⟨bp, 0, none⟩ = some (.int .i64 L) := fun q => (kd.trans q.keeps).cell h0
      have j7 : ∀ q : Since wr.drew, q.W.cell? ⟨bp, 1, none⟩ = some (.int .i64 c) := fun q => (kd.trans q.keeps).cell h1
      have j8 : ∀ q : Since wr.drew, q.W.cell? ⟨s, 2, none⟩ = some (.int .i64 u) := fun q => (kd.trans q.keeps).cell e2
      have j9 : ∀ q : Since wr.drew, q.W.cell? ⟨s, 3, none⟩ = some (.int .i64 v) := fun q => (kd.trans q.keeps).cell e3
      obtain ⟨b, hb⟩ : ∃ b, hit t = b := ⟨_, rfl⟩
      rw [hb] at INZ HY HN
      clear hb
      go_wp2_with fail
      refine (wpIn_wide (n := 3)).1 ?_
      refine region_calm 11 [(0, [0, 1, 2, 4, 5, 6, 7, 8, 9]), (1, [3]), (1, [10])] (fun _ => trivial) (by kernel_rfl) hmx (by kernel_rfl) (by kernel_rfl) ?_
      show wpQuietIn _ _ _ _ _ _ [_, _, _, _, _, _, _, _, _] _
      iterate 9 (gi_big_quiet_step (fail))
      refine wpQuietIn_nil ?_
      clear j0 j1 j2 j3 j4 j5 j6 j7 j8 j9
      show wpListIn _ _ _ _ _ [_] _ _
      gi_wp2_with fail
      rename_i hK
      refine ⟨trivial, ((callsIn_wide (n := 3 - 1)).2 (SHT.out _)).mono ?_⟩
      rintro e w3 ⟨rfl, k3⟩
      refine hK _ _ ⟨rfl, k3, ?_⟩
      clear hK
      show wpListIn _ _ _ _ _ [_] _ _
      gi_wp2_with fail
      rename_i hK
      refine ⟨trivial, ((callsIn_wide (n := 3 - 1)).2 (INZ.out _)).mono ?_⟩
      rintro e w4 ⟨rfl, rfl⟩
      refine hK _ _ ⟨rfl, Keeps.refl _, ?_⟩
      clear hK
      unfold wpMix
      refine ⟨rfl, ?_⟩
      have k4 : Keeps wr w3 := Keeps.undrew k3
      have HO3 := Lib.hid (HO.out.kept (k4.grown none) (ownN _))
      have kw := kr.trans k4
      have hszw := kw.size
      cases b with
      | false =>
        have HF := Lib.hid (HN.out rfl)
        clear HY HN
        go_wp2_with fail
        go_roundw
        case rel => exact ⟨k + 1, by omega, by rw [HT1.out], by rw [HF.out]; exact HO3.out, kw⟩
        case measure => simp [intOf]; omega
      | true =>
        have HF := Lib.hid (HY.out rfl)
        clear HY HN
        go_wp2_with (at_builtin; refine wpList_append_own _ rfl _ _ 35 rfl W3.heap.size 3 i0 (.int .i64 0) 1 8 Try.underlying35 hi0 hz0 hz1 hz2 rfl (by decide) _ _ _ rfl (HO3.out.alloc _) ⟨w3.heap.size, 0, none⟩ 1 1 [.int .i64 t] rfl rfl (by simp [go_sem]) (by simp [Value.oneCell']) (by unfold maxLen; omega) (by omega) (by simp; omega) ?_; intro v' w5 hown' hgrow _)
        have hk5 : Keeps W3 w5 := Below.grown (kw.alloc _) hgrow (by simp; omega) (fun j e => (HO3.out.lt j e).1)
        clear hgrow
        have HO5 := Lib.hid hown'
        clear hown'
        go_wp2
        go_roundw
        case rel => exact ⟨k + 1, by omega, by rw [HT1.out], by rw [HF.out, List.length_append, List.map_append]; exact HO5.out, hk5⟩
        case measure => simp [intOf]; omega
    · obtain rfl : k = n := by omega
      obtain ⟨a, cap, rfl, hIL⟩ := ints_rowI (by rw [← List.length_map (f := Value.int .i64)] at *; exact HO.out)
      have e1 : decide (x + (k : Int) ≤ y) = false := decide_eq_false (by omega)
      have HIL := Lib.hid hIL
      clear hIL
      go_wp2_with fail
      go_ret
      exact ⟨⟨a, cap, rfl, HIL.out⟩, kk.trans kr⟩
end Go.Proofs.Ytmhpgjlegajpeaa
