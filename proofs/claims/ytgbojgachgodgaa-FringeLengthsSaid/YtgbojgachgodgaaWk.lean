/-
  Count: how many truths there are.
-/
import Derived.Test.YtgbojgachgodgaaWj
namespace Go.Proofs.Ytgbojgachgodgaa
open Go.RowKit Go.Shelf
attribute [local go_sem] Oper.semAt_some

theorem lensTo_len (lo : Nat) (gs : List Rg) (k : Nat) : (lensTo lo gs k).length ≤ k := by
  have := List.length_filterMap_le (fun i => if h : lo + i < 2001 then (if gs.all (rightB · ((lo + i : Nat) : Int)) then some (⟨lo + i, h⟩ : Ln) else none) else none) (List.range k)
  simpa [lensTo] using this
theorem Fr.truths_len (F : Fr) (h : F.ok = true) : F.truths.length ≤ 401 := by
  obtain ⟨l1, l2, l3, l4⟩ := F.len_in h
  have := lensTo_len F.lo.toNat F.gs (F.hi.toNat + 1 - F.lo.toNat)
  simp only [Fr.truths, lens]
  omega
/-- truths, with what the loop over it wants. -/
theorem truths_seq (F : Fr) (w : World) (hI : F.In w) (hok : F.ok = true) :
    Calls Try.prog 46 #[F.v] w fun e w' => ∃ b1 b2 a cap, e = .returned (.func (.func 110) #[] #[.pointer (some ⟨b1, 0, none⟩), .pointer (some ⟨b2, 0, none⟩)]) ∧ Keeps w w' ∧ w.heap.size ≤ b1 ∧ w.heap.size ≤ b2 ∧ (∀ b o, a = some ⟨b, o, none⟩ → w.heap.size ≤ b) ∧
      w'.cell? ⟨b1, 0, none⟩ = some (.int .i64 F.lo.toNat) ∧ w'.cell? ⟨b1, 1, none⟩ = some (.int .i64 F.hi.toNat) ∧ w'.cell? ⟨b2, 0, none⟩ = some (.slice a F.gs.length cap) ∧ Rgs w' a F.gs := by
  obtain ⟨l1, l2, l3, _⟩ := F.len_in hok
  refine (truths_any F w hI hok).mono ?_
  rintro e w' ⟨v, a, rfl, ⟨b1, b2, cap, rfl, hm1, hm2, h1, h2, h3, h4⟩, hf, _, hk⟩
  rw [← Int.toNat_of_nonneg l1] at h1
  rw [← Int.toNat_of_nonneg (show 0 ≤ F.hi by omega)] at h2
  exact ⟨b1, b2, a, cap, rfl, hk, hm1, hm2, hf, h1, h2, h3, h4⟩
/-- What the iterator of a fringe has kept, and where it lies. -/
def SeqIn (F : Fr) (w : World) (b1 b2 : Nat) (a : Option Addr) : Prop :=
  ∃ cap, w.cell? ⟨b1, 0, none⟩ = some (.int .i64 F.lo.toNat) ∧ w.cell? ⟨b1, 1, none⟩ = some (.int .i64 F.hi.toNat) ∧ w.cell? ⟨b2, 0, none⟩ = some (.slice a F.gs.length cap) ∧ Rgs w a F.gs
theorem SeqIn.keep {F : Fr} {w w' : World} {b1 b2 : Nat} {a : Option Addr} (h : SeqIn F w b1 b2 a) (k : Keeps w w') : SeqIn F w' b1 b2 a := by
  obtain ⟨cap, h1, h2, h3, h4⟩ := h
  exact ⟨cap, k.cell h1, k.cell h2, k.cell h3, h4.keep k⟩
/-- The contract of the iterator of a fringe. -/
theorem seq_stops (F : Fr) (hok : F.ok = true) (b1 b2 : Nat) (X : Nat → Prop) (a : Option Addr) (w : World) (hx1 : ¬ X b1) (hx2 : ¬ X b2) (hx3 : ∀ b o, a = some ⟨b, o, none⟩ → ¬ X b) (hS : SeqIn F w b1 b2 a) :
    SeqStopsK Fence.wide 3 Try.prog 110 #[.pointer (some ⟨b1, 0, none⟩), .pointer (some ⟨b2, 0, none⟩)] (fun x : Ln => #[lnV x]) (KeepEx w.heap.size X) (fun ys => ys = F.truths) (fun pre => pre <+: F.truths) F.truths.length w := by
  obtain ⟨l1, l2, l3, _⟩ := F.len_in hok
  obtain ⟨cap, h1, h2, h3, hg⟩ := hS
  exact agreeing_stops 3 (by omega) b1 b2 X F.lo.toNat F.hi.toNat a cap F.gs w (by omega) (by rw [F.gs_len]; have := F.rl_in hok; unfold maxLen; omega) (F.gs_ok hok) hx1 hx2 hx3 h1 h2 h3 hg
theorem truths_stops (F : Fr) (hok : F.ok = true) (b1 b2 m : Nat) (X : Nat → Prop) (a : Option Addr) (cap : Nat) (w : World) (hX : ∀ k, X k → k < m) (hm1 : m ≤ b1) (hm2 : m ≤ b2) (hm3 : ∀ b o, a = some ⟨b, o, none⟩ → m ≤ b)
    (h1 : w.cell? ⟨b1, 0, none⟩ = some (.int .i64 F.lo.toNat)) (h2 : w.cell? ⟨b1, 1, none⟩ = some (.int .i64 F.hi.toNat)) (h3 : w.cell? ⟨b2, 0, none⟩ = some (.slice a F.gs.length cap)) (hg : Rgs w a F.gs) :
    SeqStopsK Fence.wide 3 Try.prog 110 #[.pointer (some ⟨b1, 0, none⟩), .pointer (some ⟨b2, 0, none⟩)] (fun x : Ln => #[lnV x]) (KeepEx w.heap.size X) (fun ys => ys = F.truths) (fun pre => pre <+: F.truths) F.truths.length w :=
  seq_stops F hok b1 b2 X a w (fun h => by have := hX _ h; omega) (fun h => by have := hX _ h; omega) (fun b o e h => by have := hX _ h; have := hm3 b o e; omega) ⟨cap, h1, h2, h3, hg⟩

set_option maxHeartbeats 1600000 in
theorem Count1_yes (F : Fr) (b0 : Nat) (w : World) (hI : F.In w) (hB : F.Box w b0) (hok : F.ok = true) :
    Calls Try.prog 73 #[.pointer (some ⟨b0, 0, none⟩)] w (RetI F.truths.length w) := by
  have H1 := Lib.hid (fun w1 (k : Keeps w w1) => (callsIn_wide (n := 3)).2 (needFringe_yes F w1 (hI.keep k) hok))
  have H2 := Lib.hid (fun w1 (k : Keeps w w1) => (callsIn_wide (n := 3)).2 (truths_seq F w1 (hI.keep k) hok))
  have HS := Lib.hid (truths_stops F hok)
  have hlen := F.truths_len hok
  obtain ⟨g0, g1, g2, g3⟩ := hB
  have hlb := lt_of_cell g0
  obtain ⟨gs, hgs⟩ : ∃ gs, F.gs = gs := ⟨_, rfl⟩
  obtain ⟨ts, hts⟩ : ∃ ts, F.truths = ts := ⟨_, rfl⟩
  rw [hts, hgs] at HS
  rw [hgs] at H2
  rw [hts] at hlen ⊢
  obtain ⟨wa, wc, ws, lo, hi, ra, rc, rs⟩ := F
  dsimp only [Fr.v] at *
  clear hok hI hgs hts
  refine (callsIn_wide (n := 4)).1 ?_
  refine callsIn_of_wp_marks Try.func73 rfl trivial ?_ rfl
  simp only [Try.ntmps73, List.size_toArray, List.length_cons, List.length_nil, Nat.reduceAdd, Nat.reduceSub, Array.replicate_succ, Array.replicate_zero, List.push_toArray, List.append_toArray, List.nil_append, List.cons_append]
  gi_wp2_with fail
  refine ⟨trivial, ?_⟩
  refine (H1.out _ (Keeps.refl _)).mono ?_
  rintro e w1 ⟨rfl, k1⟩
  have hc1 := k1.cells
  have hlb1 : b0 < w1.heap.size := by have := k1.size; omega
  gi_wp2_with fail
  refine ⟨trivial, ?_⟩
  have k2 := k1.alloc (.cells #[.int .i64 0] 3)
  refine (H2.out _ k2).mono ?_
  rintro e w2 ⟨b1, b2, a, cap, rfl, k3, hm1, hm2, hm3, h1, h2, h3, h4⟩
  have hr1 : w2.cell? ⟨w1.heap.size, 0, none⟩ = some (.int .i64 0) := k3.cell (by simp [go_sem])
  have hf1 : w2.frozen? ⟨w1.heap.size, 0, none⟩ = false := by rw [k3.cells.2 _ _ (by simp)]; simp [go_sem]
  simp only [World.size_alloc] at hm1 hm2 hm3
  have hsz : w1.heap.size < w2.heap.size := by have := k3.size; simp at this; omega
  have hsz0 := k1.size
  have k4 := k2.trans k3
  have hs4 := k4.size
  gi_wp2_with fail
  refine wpIn_rangeFunc_ownF rfl (by omega) (gf := 110) (lb := #[.pointer (some ⟨b1, 0, none⟩), .pointer (some ⟨b2, 0, none⟩)]) rfl trivial (enters_of Try.func110 (by kernel_rfl) rfl)
    (HS.out b1 b2 (w1.heap.size + 1) (fun k => k = w1.heap.size) a cap w2 (fun k e => by subst e; exact Nat.lt_succ_self _) hm1 hm2 hm3 h1 h2 h3 h4)
    (fun h k => KeepEx.trans h k) keepEx_putObj (Below.refl _ _) (fun _ => rfl)
    (fun pre W => (W.cell? ⟨w1.heap.size, 0, none⟩ = some (.int .i64 pre.length) ∧ W.frozen? ⟨w1.heap.size, 0, none⟩ = false) ∧ Keeps w W)
    (fun _ _ _ => False)
    (OwnFrom.and (Own.from (fun s A B row hs hg hr => ⟨cell_kept hs.1 hg hr, (frozen_kept hs.1 hg hr).trans hs.2⟩) _) (ownFrom_keeps hs4))
    (fun _ _ _ _ _ hs _ _ => hs)
    ⟨⟨hr1, hf1⟩, k4⟩
    (fun x => { tmps := #[.pointer (some ⟨b0, 0, none⟩), .int .i64 0, .pointer (some ⟨w1.heap.size, 0, none⟩), .agg #[.slice wa ws.length wc, .int .i64 lo, .int .i64 hi, .slice ra rs.length rc], .tuple #[], .agg #[.slice wa ws.length wc, .int .i64 lo, .int .i64 hi, .slice ra rs.length rc], .func (.func 110) #[] #[.pointer (some ⟨b1, 0, none⟩), .pointer (some ⟨b2, 0, none⟩)], lnV x, undef, undef, undef], defers := [] }) ?assign ?body ?done ?stop
  case assign =>
    intro l x W K hK
    gi_wp2
    simpa using hK
  case body =>
    rintro l pre x W ⟨⟨hcr, hfr⟩, hB⟩ hN
    have hN' : pre.length < 401 := by omega
    gi_wp2
    refine ⟨KeepsOthers.setCell _ _ _, KeepEx.setCell _ _ rfl, ⟨?_, ?_⟩, hB.setCell _ hsz0⟩
    · rw [List.length_append]
      exact World.cell?_setCell_same' _ _ _ (by rw [hcr]; rfl)
    · rw [World.frozen?_setCell]; exact hfr
  case done =>
    rintro D ys W hD rfl ⟨⟨hcr, hfr⟩, hB⟩ hK
    gi_wp2
    refine ⟨by simp, .inl ⟨_, _, rfl, run_takeDeferred hK, ?_⟩⟩
    exact ⟨_, results_tmp rfl _ _ _, rfl, keeps_putObj hB _ (by omega)⟩
  case stop =>
    rintro D c pre W _ _ h _
    exact h.elim
end Go.Proofs.Ytgbojgachgodgaa
