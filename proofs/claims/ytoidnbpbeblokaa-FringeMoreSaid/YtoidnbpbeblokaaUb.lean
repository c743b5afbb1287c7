/-
  FringeClash: how many are in a set, by the reference; whether the readings of a set clash, by the law's own inner function.
  FringeClash's inner function: do the readings of a set clash?
  FringeClash: its sets as the machine reckons them; what it finds clashing.
-/
import Derived.Test.YtoidnbpbeblokaaUa
import Derived.Test.YtoidnbpbeblokaaZl
import Derived.Test.YtoidnbpbeblokaaYi
import Derived.Laws.OwnMore
import Derived.Laws.BitsLemmas
namespace Go.Proofs.Ytoidnbpbeblokaa
open Go.RowKit Go.Shelf

theorem pop_half : ∀ s : Nat, s < 64 → pop s = s % 2 + pop (s / 2) := by decide +kernel
set_option maxHeartbeats 400000 in
theorem refSize_any (s : Nat) (hs : s < 64) (w : World) : Calls Try.prog 37 #[.int .i64 s] w fun e w' => e = .returned (.int .i64 (pop s)) ∧ w = w' := by
  have hp6 := (bits_pop0 s hs).1
  go_enter Try.func37, Try.ntmps37
  go_wp2
  go_loop [0, 3] (fun x n => ∃ a b : Nat, b < 64 ∧ a + pop b = pop s ∧ x = .int .i64 b ∧ n = .int .i64 a) (fun x _ => (intOf x).toNat)
  case atStart => exact ⟨0, s, hs, by omega, rfl, rfl⟩
  case round =>
    obtain ⟨a, b, hb, hab, rfl, rfl⟩ := hrel
    by_cases hlt : 0 < b
    · have hh := pop_half b hb
      have HH := Lib.hid (show a + b % 2 + pop (b / 2) = pop s by omega)
      have ha : a ≤ 6 := by omega
      clear hab hh
      go_wp2
      go_round
      case rel => exact ⟨a + b % 2, b / 2, by omega, HH.out, by go_num, by go_num⟩
      case measure => simp [intOf]; omega
    · have HH := Lib.hid (show (a : Int) = (pop s : Nat) by
        obtain rfl : b = 0 := by omega
        have : pop 0 = 0 := rfl
        omega)
      have hz : decide (0 < b) = false := by simpa using hlt
      clear hab hlt
      go_wp2
      go_ret
      exact ⟨by rw [HH.out]; rfl, rfl⟩

/-- The fringe with the readings of a set alone. -/
def Fr.sub (F : Fr) (s : Nat) (ra : Option Addr) (rc : Nat) : Fr := ⟨F.wa, F.wc, F.ws, F.lo, F.hi, ra, rc, selR F.rs s F.rs.length⟩
theorem sub_ok (F : Fr) (hok : F.ok = true) (s : Nat) (ra : Option Addr) (rc : Nat) : (F.sub s ra rc).ok = true := by
  have hl := selR_len F.rs s F.rs.length
  have hl6 : F.rs.length ≤ 6 := F.rl_in hok
  simp only [Fr.ok, vFringe, vReads, Bool.and_eq_true, decide_eq_true_eq, Fr.sub] at hok ⊢
  refine ⟨hok.1, decide_eq_true (Nat.le_trans hl hl6), List.all_eq_true.2 fun r hr => ?_⟩
  obtain ⟨i, hi, rfl⟩ := List.mem_map.1 hr
  rw [List.mem_filter, List.mem_range] at hi
  rw [List.getElem?_eq_getElem hi.1, Option.getD_some]
  exact List.all_eq_true.1 hok.2.2 _ (List.getElem_mem hi.1)
theorem sub_gs (F : Fr) (hok : F.ok = true) {s : Nat} (hs : s < 2 ^ F.gs.length) (ra : Option Addr) (rc : Nat) : (F.sub s ra rc).gs = wo F.gs (cm (2 ^ F.gs.length - 1) s) := by
  have hl := F.gl_in hok
  have h64 := pow_le F hok
  rw [wo_eq]
  have e : (F.sub s ra rc).gs = ((List.range F.gs.length).filter (hasB s)).map (fun i => rgOf F.ws (F.rs[i]?.getD (0, 0, 0))) := by
    simp [Fr.gs, Fr.sub, selR, List.map_map, Function.comp_def]
  rw [e, List.filter_congr (q := fun i => !hasB (cm (2 ^ F.gs.length - 1) s) i) (fun i hi => by
    rw [List.mem_range] at hi
    rw [bits_cm _ (by omega) s (by omega) hs i (by omega) hi, Bool.not_not])]
  apply List.map_congr_left
  intro i hi
  have hi' := List.mem_range.1 (List.mem_filter.1 hi).1
  have hi2 : i < F.rs.length := by simpa [Fr.gs] using hi'
  simp [Fr.gs, List.getElem?_eq_getElem hi2]
/-- Do the readings of a set clash? -/
def Fr.clB (F : Fr) (s : Nat) : Bool := !F.agreeW (cm (2 ^ F.gs.length - 1) s)
theorem sub_count (F : Fr) (hok : F.ok = true) {s : Nat} (hs : s < 2 ^ F.gs.length) (ra : Option Addr) (rc : Nat) : countR (F.sub s ra rc) = ((((F.sub s ra rc).truths.length : Nat) : Int), 0) ∧ ((F.sub s ra rc).truths.length = 0 ↔ F.clB s = true) ∧ (F.sub s ra rc).truths.length ≤ 401 := by
  refine ⟨by simp [countR, sub_ok F hok s ra rc], ?_, (F.sub s ra rc).truths_len (sub_ok F hok s ra rc)⟩
  unfold Fr.clB Fr.agreeW agreeB
  rw [← sub_gs F hok hs ra rc, Bool.not_not, List.isEmpty_iff, List.length_eq_zero_iff]
  rfl
end Go.Proofs.Ytoidnbpbeblokaa

namespace Go.Proofs.Ytoidnbpbeblokaa
open Go.RowKit Go.Shelf

/-- A block of four cells, none of them frozen. -/
structure Four (W : World) (b : Nat) (v0 v1 v2 v3 : Value) : Prop where
  c0 : W.cell? ⟨b, 0, none⟩ = some v0
  c1 : W.cell? ⟨b, 1, none⟩ = some v1
  c2 : W.cell? ⟨b, 2, none⟩ = some v2
  c3 : W.cell? ⟨b, 3, none⟩ = some v3
  fr : ∀ o, W.frozen? ⟨b, o, none⟩ = false
theorem Four.lt {W : World} {b : Nat} {v0 v1 v2 v3 : Value} (h : Four W b v0 v1 v2 v3) : b < W.heap.size := lt_of_cell h.c0
theorem Four.keep {W W' : World} {b : Nat} {v0 v1 v2 v3 : Value} (h : Four W b v0 v1 v2 v3) (k : Keeps W W') : Four W' b v0 v1 v2 v3 :=
  ⟨k.cell h.c0, k.cell h.c1, k.cell h.c2, k.cell h.c3, fun o => (k.cells.2 _ _ h.lt).trans (h.fr o)⟩
theorem Four.kept {W W' : World} {row : Option Nat} {b : Nat} {v0 v1 v2 v3 : Value} (h : Four W b v0 v1 v2 v3) (hg : W.grownBy W' row) (hne : some b ≠ row) : Four W' b v0 v1 v2 v3 :=
  have hc : ∀ o, W'.cell? ⟨b, o, none⟩ = W.cell? ⟨b, o, none⟩ := fun _ => World.cell?_of_block (hg.block b h.lt hne)
  have hf : ∀ o, W'.frozen? ⟨b, o, none⟩ = W.frozen? ⟨b, o, none⟩ := fun _ => World.frozen?_of_block (hg.block b h.lt hne)
  ⟨(hc _).trans h.c0, (hc _).trans h.c1, (hc _).trans h.c2, (hc _).trans h.c3, fun o => (hf _).trans (h.fr o)⟩
theorem Four.set3 {W : World} {b : Nat} {v0 v1 v2 v3 : Value} (h : Four W b v0 v1 v2 v3) (v : Value) : Four (W.setCell ⟨b, 3, none⟩ v) b v0 v1 v2 v :=
  ⟨(cell_set_other (by omega)).trans h.c0, (cell_set_other (by omega)).trans h.c1, (cell_set_other (by omega)).trans h.c2, cell_set_same (by rw [h.c3]; rfl), fun o => by rw [World.frozen?_setCell]; exact h.fr o⟩
theorem Four.boxed (w : World) (v0 v1 v2 v3 : Value) (t : TypeId) : Four (w.alloc (.cells #[v0, v1, v2, v3] t)) w.heap.size v0 v1 v2 v3 :=
  ⟨by simp [go_sem], by simp [go_sem], by simp [go_sem], by simp [go_sem], fun o => by simp [go_sem]⟩
/-- While the readings of a set are gone through: the new fringe lies in a block of its own, its readings in a row of its own. -/
def Goes (w wr : World) (F : Fr) (s k : Nat) : Prop := ∃ v, Four wr w.heap.size (.slice F.wa F.ws.length F.wc) (.int .i64 F.lo) (.int .i64 F.hi) v ∧ wr.ownsRow (w.heap.size + 1) 41 3 v (selR F.rs s k).length (rdCells (selR F.rs s k)) ∧ Keeps w wr
theorem Goes.out {w wr : World} {F : Fr} {s k : Nat} (h : Goes w wr F s k) (hs : hasB s k = false) {W' : World} (kk : Keeps wr W') : Goes w W' F s (k + 1) := by
  obtain ⟨v, h1, h2, h3⟩ := h
  refine ⟨v, h1.keep kk, ?_, h3.trans kk⟩
  rw [selR_out hs]
  exact h2.kept (kk.grown none) (not_own_none _)
set_option maxRecDepth 100000 in
set_option maxHeartbeats 3200000 in
theorem clash1_any (F : Fr) (hok : F.ok = true) (b s : Nat) (hs : s < 2 ^ F.gs.length) (w : World) (hI : F.In w) (hB : F.Box w b) :
    Calls Try.prog 36 #[.int .i64 s, .pointer (some ⟨b, 0, none⟩)] w (RetB (F.clB s) w) := by
  have hrl := F.rl_in hok
  have h64 := pow_le F hok
  have HBT := Lib.hid (fun n (hn : n < 6) => has_bits s (by omega) n hn)
  have CN := Lib.hid (fun ra rc w1 (h : (F.sub s ra rc).In w1) => Count_any (F.sub s ra rc) w1 h)
  have SC := Lib.hid (fun ra rc => sub_count F hok hs ra rc)
  have HI := Lib.hid hI
  have SL := Lib.hid (fun k => selR_len F.rs s k)
  obtain ⟨i0, hi0, hz0, hz1, hz2⟩ := info_parts info_read
  obtain ⟨cl, hcl⟩ : ∃ cl, F.clB s = cl := ⟨_, rfl⟩
  rw [hcl] at SC ⊢
  obtain ⟨wa, wc, ws, lo, hi, ra, rc, rs⟩ := F
  obtain ⟨g0, g1, g2, g3⟩ := hB
  dsimp only [Fr.v, Fr.sub] at *
  have hlb := lt_of_cell g3
  clear hok hI hs hcl
  go_enter Try.func36, Try.ntmps36
  go_wp2_with fail
  go_loopw [14] (fun i wr => ∃ k : Nat, k ≤ rs.length ∧ i = .int .i64 k ∧ Goes w wr ⟨wa, wc, ws, lo, hi, ra, rc, rs⟩ s k) (fun i _ => rs.length - (intOf i).toNat)
  case atStart => exact ⟨0, Nat.zero_le _, rfl, .slice none 0 0, Four.boxed _ _ _ _ _ _, World.ownsRow_nil _ _ _ _, (Keeps.refl w).alloc _⟩
  case round =>
    obtain ⟨k, hk, rfl, hgo⟩ := hrel
    have HG := Lib.hid hgo
    obtain ⟨v, hF, hown, hkp⟩ := hgo
    dsimp only at hF hown
    by_cases hlt : k < rs.length
    · obtain ⟨rb, ro, rfl, hr⟩ := (HI.out.rds).keep hkp (by intro e; simp only at e; rw [e] at hlt; simp at hlt)
      have h2 := hr k hlt
      dsimp only at h2
      obtain ⟨⟨c, x, y⟩, hrk⟩ : ∃ r : Rd, rs[k]?.getD (0, 0, 0) = r := ⟨_, rfl⟩
      rw [hrk] at h2
      obtain ⟨h2a, h2b, h2c⟩ := h2
      dsimp only at h2a h2b h2c
      have hlr := lt_of_cell h2a
      have hbit := HBT.out k (by omega)
      have f3 := hF.c3
      have f4 := hF.fr 3
      have f5 := hF.lt
      cases hh : hasB s k
      · rw [hh] at hbit
        have HH := Lib.hid hh
        clear hr hrk hh hown hF
        go_wp2
        go_roundw
        case rel => exact ⟨k + 1, by omega, by go_num, Goes.out HG.out HH.out ((Keeps.refl wr).alloc _)⟩
        case measure => simp [intOf]; omega
      · rw [hh] at hbit
        have HH := Lib.hid (selR_in (rs := rs) hh)
        rw [hrk] at HH
        have hl := SL.out k
        try dsimp only at hl
        obtain ⟨l, hle⟩ : ∃ l, selR rs s k = l := ⟨_, rfl⟩
        rw [hle] at HH hl hown
        have Hlt := Lib.hid (fun j e => (hown.lt j e).1)
        have Hown := Lib.hid ((hown.alloc (.cells #[.int .i64 c, .int .i64 x, .int .i64 y] 41)).alloc (.cells #[.int .i64 c, .int .i64 x, .int .i64 y] 41))
        have Hcs := Lib.hid (three_cells (W := (wr.alloc (.cells #[.int .i64 c, .int .i64 x, .int .i64 y] 41)).alloc (.cells #[.int .i64 c, .int .i64 x, .int .i64 y] 41)) (b := wr.heap.size + 1) (u0 := .int .i64 c) (u1 := .int .i64 x) (u2 := .int .i64 y) (by simp [go_sem]) (by simp [go_sem]) (by simp [go_sem]))
        have HFo := Lib.hid (hF.keep (((Keeps.refl wr).alloc (.cells #[.int .i64 c, .int .i64 x, .int .i64 y] 41)).alloc (.cells #[.int .i64 c, .int .i64 x, .int .i64 y] 41)))
        have hsz := hkp.size
        clear hr hrk hh hown hF hle
        go_wp2_with (at_builtin; refine wpList_append_own _ rfl _ _ 25 rfl (w.heap.size + 1) 41 i0 (.agg #[.int .i64 0, .int .i64 0, .int .i64 0]) 3 24 Try.underlying25 hi0 hz0 hz1 hz2 rfl (by decide) v _ _ rfl Hown.out ⟨wr.heap.size + 1, 0, none⟩ 1 1 [.int .i64 c, .int .i64 x, .int .i64 y] rfl rfl Hcs.out (by simp [Value.oneCell']) (by unfold maxLen; omega) (by omega) (by simp; omega) ?_; intro v' u2 hown' hgrow _; obtain ⟨g', cap', rfl⟩ := ownsRow_succ hown'; have hg2 : ((wr.alloc (.cells #[.int .i64 c, .int .i64 x, .int .i64 y] 41)).alloc (.cells #[.int .i64 c, .int .i64 x, .int .i64 y] 41)).grownBy u2 v.ownBlock := hgrow; have F2 := Lib.hid (HFo.out.kept hg2 (fun e => by have := Hlt.out _ e.symm; omega)); have f3' := F2.out.c3; have f4' := F2.out.fr 3; have f5' := F2.out.lt; have k4 : Keeps w u2 := Below.grown ((hkp.alloc _).alloc _) hg2 (by simp; omega) (fun j e => by have := Hlt.out j e; omega); clear hgrow hg2)
        go_wp2
        go_roundw
        case rel => exact ⟨k + 1, by omega, by go_num, _, F2.out.set3 _, by
          dsimp only
          rw [HH.out, List.length_append, rdCells_append]
          exact ownsRow_setCell_below hown' (Nat.lt_succ_self _) _, k4.setCell _ (Nat.le_refl _)⟩
        case measure => simp [intOf]; omega
    · obtain rfl : k = rs.length := by omega
      obtain ⟨a, cap, rfl, hrd, _⟩ := Rds.of_owns hown
      have f0 := hF.c0
      have f1 := hF.c1
      have f2 := hF.c2
      have f3 := hF.c3
      have C1 := Lib.hid (CN.out a cap wr ⟨HI.out.ints.keep hkp, hrd, HI.out.wl, by have := SL.out rs.length; dsimp only at this ⊢; unfold maxLen; omega⟩)
      obtain ⟨s1, s2, s3⟩ := SC.out a cap
      try dsimp only at s1 s2 s3
      rw [s1] at C1
      obtain ⟨n, hn⟩ : ∃ n, (Fr.mk wa wc ws lo hi a cap (selR rs s rs.length)).truths.length = n := ⟨_, rfl⟩
      rw [hn] at C1 s2 s3
      have S2 := Lib.hid s2
      clear s1 s2 hn HG hF hown hrd
      cases cl
      · have hn0 : ¬ (n = 0) := fun h => by have := S2.out.1 h; simp at this
        have hnb : ((n : Int) == 0) = false := by simp; omega
        go_wp2_with fail
        refine C1.out.mono ?_
        rintro e u1 ⟨rfl, k1⟩
        go_wp2
        go_ret
        exact ⟨rfl, hkp.trans k1⟩
      · obtain rfl : n = 0 := S2.out.2 rfl
        rw [show ((0 : Nat) : Int) = 0 from rfl] at C1
        go_wp2_with fail
        refine C1.out.mono ?_
        rintro e u1 ⟨rfl, k1⟩
        go_wp2
        go_ret
        exact ⟨rfl, hkp.trans k1⟩
end Go.Proofs.Ytoidnbpbeblokaa

namespace Go.Proofs.Ytoidnbpbeblokaa
open Go.RowKit Go.Shelf

theorem shl_full (n : Nat) (h : n ≤ 6) : RowKit.wrap64 (RowKit.wrap64 (2 ^ n) - 1) = ((2 ^ n - 1 : Nat) : Int) := by
  have hp := Nat.pow_pos (a := 2) (n := n) (by omega)
  have h64 : 2 ^ n ≤ 64 := by have := Nat.pow_le_pow_right (n := 2) (by omega) h; simpa using this
  rw [show ((2 : Int) ^ n) = ((2 ^ n : Nat) : Int) by simp]
  have e : ∀ m : Int, 0 ≤ m → m ≤ 64 → RowKit.wrap64 m = m := fun m h0 h1 => by unfold RowKit.wrap64; omega
  rw [e ((2 ^ n : Nat) : Int) (by omega) (by omega), e _ (by omega) (by omega), Int.natCast_sub hp]
  rfl
theorem wraps62 (n : Int) (h0 : 0 ≤ n) (h1 : n < 2 ^ 62) : IntKind.i64.wrap n = n := by
  have h62 : (2 : Int) ^ 62 = 4611686018427387904 := by decide
  rw [IntKind.wrap_i64]
  omega
theorem and_nat62 (s o : Nat) (hs : s < 64) (ho : o < 64) : bits .and .i64 (s : Int) (o : Int) = ((s &&& o : Nat) : Int) :=
  (bits_nat .i64 62 (by decide) wraps62 s o (by omega) (by omega)).1
theorem and_full (n : Nat) (h : n ≤ 6) (x : Int) (h0 : 0 ≤ x) (h1 : x ≤ 255) : ∃ own : Nat, bits .and .i64 x ((2 ^ n - 1 : Nat) : Int) = (own : Int) ∧ own < 2 ^ n := by
  have hp := Nat.pow_pos (a := 2) (n := n) (by omega)
  have h62 : (2 : Int) ^ 62 = 4611686018427387904 := by decide
  have hm := bits_mask .i64 62 (by decide) wraps62 n (by omega) x h0 (by omega)
  have e : ((2 ^ n - 1 : Nat) : Int) = 2 ^ n - 1 := by
    rw [Int.natCast_sub hp]; simp
  rw [e, hm]
  have e2 : ((2 : Int) ^ n) = ((2 ^ n : Nat) : Int) := by simp
  rw [e2]
  exact ⟨(x % ((2 ^ n : Nat) : Int)).toNat, (Int.toNat_of_nonneg (Int.emod_nonneg _ (by omega))).symm, by have := Int.emod_lt_of_pos x (show (0 : Int) < ((2 ^ n : Nat) : Int) by omega); have := Int.emod_nonneg x (show ((2 ^ n : Nat) : Int) ≠ 0 by omega); omega⟩
/-- What FringeClash reckons where something clashes. -/
theorem clash_facts (F : Fr) (hok : F.ok = true) {x : St} (hc : F.clash = some x) : ∃ S o T : Nat, x.val = S ∧ setOf F.wrong = o ∧ 2 ^ F.rs.length - 1 = T ∧ T < 64 ∧ 1 ≤ S ∧ S ≤ T ∧ o ≤ T ∧ 1 ≤ pop o ∧ F.clB S = true ∧ F.clB T = true ∧ F.clB (cm T o) = false ∧ cm T o < 2 ^ F.rs.length ∧ (S &&& o) ≠ 0 ∧
    (∀ i, i < F.rs.length → hasB S i = true → F.clB (cm S (2 ^ i)) = false ∧ cm S (2 ^ i) ≤ T) ∧ (∀ y, y ≤ T → F.clB y = true → NoLater S y) ∧ ∀ y, y ≤ T → cm T y ≤ T ∧ (F.clB (cm T y) = false → NoLater o y) := by
  have hl := F.gl_in hok
  have h64 := pow_le F hok
  have hpos : 0 < 2 ^ F.gs.length := Nat.pow_pos (by omega)
  have hgl : F.gs.length = F.rs.length := F.gs_len
  obtain ⟨w1, w2, w3⟩ := wrong_facts F hok
  obtain ⟨c1, c2, c3⟩ := clash_some F hok hc
  have h0 : F.agreeW 0 = false := by
    cases h : F.agreeW 0 with
    | false => rfl
    | true => rw [clash_is_none F hok h] at hc; cases hc
  have hT : ∀ y, y ≤ 2 ^ F.gs.length - 1 → cm (2 ^ F.gs.length - 1) (cm (2 ^ F.gs.length - 1) y) = y ∧ cm (2 ^ F.gs.length - 1) y < 2 ^ F.gs.length := fun y hy =>
    have h := bits_cc _ (by omega) y (by omega) (by omega)
    ⟨h.1, h.2.1⟩
  have hTT := (bits_cc _ (show F.gs.length < 7 by omega) 0 (by omega) hpos).2.2
  rw [← hgl]
  obtain ⟨T, hTe⟩ : ∃ T, 2 ^ F.gs.length - 1 = T := ⟨_, rfl⟩
  have hT2 : 2 ^ F.gs.length = T + 1 := by omega
  have hcl : ∀ y, F.clB y = !F.agreeW (cm T y) := fun y => by rw [Fr.clB, hTe]
  have hfull := agree_full F hok
  rw [hTe] at hT hTT c1 c3 hfull ⊢
  rw [hT2] at w1 w3 c2 c3 hT ⊢
  refine ⟨x.val, setOf F.wrong, T, rfl, rfl, by omega, by omega, ?_, by omega, by omega, ?_, by rw [hcl, c1]; rfl, by rw [hcl, hTT.2, h0]; rfl, by rw [hcl, (hT _ (by omega)).1, w2]; rfl, (hT _ (by omega)).2, ?_, ?_, ?_, ?_⟩
  · rcases Nat.eq_zero_or_pos x.val with h | h
    · rw [h, hTT.1, hfull] at c1; cases c1
    · exact h
  · rcases Nat.eq_zero_or_pos (pop (setOf F.wrong)) with h | h
    · rw [((bits_pop0 _ (by omega)).2).1 h, h0] at w2; cases w2
    · exact h
  · intro h
    have := agree_mono (F := F) hok (x := setOf F.wrong) (y := cm T x.val) (fun i hi hb => by
      rw [← hTe, bits_cm _ (by omega) x.val x.isLt (by omega) i (by omega) hi, bits_apart x.val x.isLt _ (by omega) h i (by omega) hb]
      rfl) w2
    rw [c1] at this
    cases this
  · intro i hi hb
    obtain ⟨b1, b2⟩ := bits_less x.val x.isLt i (by omega) hb
    refine ⟨?_, by omega⟩
    cases h : F.clB (cm x.val (2 ^ i)) with
    | false => rfl
    | true =>
      rw [hcl] at h
      rcases c3 (cm x.val (2 ^ i)) (by omega) (by simpa using h) with h' | h'
      · omega
      · omega
  · intro y hy h
    rw [hcl] at h
    exact c3 y (by omega) (by simpa using h)
  · intro y hy
    refine ⟨by have := (hT y hy).2; omega, fun h => w3 y (by omega) ?_⟩
    rw [hcl, (hT y hy).1] at h
    simpa using h
theorem not_long (F : Fr) (h : F.ok = true) : F.long = false := by
  have h1 := F.rl_in h
  have h2 := F.wl_in h
  simp [Fr.long]; omega
theorem clash1_is (F : Fr) (hok : F.ok = true) (b s : Nat) (hs : s < 2 ^ F.rs.length) (v : Bool) (hv : F.clB s = v) (w : World) (hI : F.In w) (hB : F.Box w b) :
    Calls Try.prog 36 #[.int .i64 s, .pointer (some ⟨b, 0, none⟩)] w (RetB v w) := by
  subst hv
  exact clash1_any F hok b s (by rw [F.gs_len]; exact hs) w hI hB
theorem refSize_is (s : Nat) (hs : s < 64) (p : Nat) (hp : pop s = p) (w : World) : Calls Try.prog 37 #[.int .i64 s] w fun e w' => e = .returned (.int .i64 p) ∧ w = w' := by
  subst hp
  exact refSize_any s hs w
end Go.Proofs.Ytoidnbpbeblokaa
