/-
  agree, needTruth: is there a length of which all readings are right?
  Count: how many truths there are.
-/
import Derived.Test.YtoidnbpbeblokaaWi
namespace Go.Proofs.Ytoidnbpbeblokaa
open Go.RowKit Go.Shelf
attribute [local go_sem] Oper.semAt_some

def agreeB (lo hi : Nat) (gs : List Rg) : Bool := !(lens lo hi gs).isEmpty

set_option maxHeartbeats 1600000 in
theorem agree_any (lo hi : Nat) (a : Option Addr) (cap : Nat) (gs : List Rg) (w : World) (hg : Rgs w a gs) (hgb : ∀ b o, a = some ⟨b, o, none⟩ → b < w.heap.size) (hh : hi ≤ 2000) (hl : gs.length ≤ maxLen) (hok : ∀ g ∈ gs, okG g) :
    Calls Try.prog 55 #[.agg #[.int .i64 lo, .int .i64 hi], .slice a gs.length cap] w (RetB (agreeB lo hi gs) w) := by
  have k0 : Keeps w ((w.alloc (.cells #[.int .i64 lo, .int .i64 hi] 24)).alloc (.cells #[.bool false] 4)) := ((Keeps.refl _).alloc _).alloc _
  have hA := (callsIn_wide (n := 3)).2 (agreeing_seq lo hi a cap gs ((w.alloc (.cells #[.int .i64 lo, .int .i64 hi] 24)).alloc (.cells #[.bool false] 4)) (hg.keep k0))
  have HA := Lib.hid hA
  have HO := Lib.hid hok
  have HB := Lib.hid hgb
  clear hA hok hg hgb
  have K0 := Lib.hid k0
  clear k0
  refine callsIn_wide (n := 4).1 ?_
  refine callsIn_of_wp_marks Try.func55 rfl trivial ?_ rfl
  simp only [Try.ntmps55, List.size_toArray, List.length_cons, List.length_nil, Nat.reduceAdd, Nat.reduceSub, Array.replicate_succ, Array.replicate_zero, List.push_toArray, List.append_toArray, List.nil_append, List.cons_append]
  gi_wp2_with fail
  refine ⟨trivial, ?_⟩
  refine HA.out.mono ?_
  rintro e w1 ⟨v, rfl, ⟨b1, b2, cap2, rfl, hm1, hm2, h1, h2, h3, h4⟩, k1⟩
  have hc1 := k1.cells
  have k2 := K0.out.trans k1
  have hr1 : w1.cell? ⟨w.heap.size + 1, 0, none⟩ = some (.bool false) := by rw [hc1.1 _ _ (by simp)]; simp [go_sem]
  have hf1 : w1.frozen? ⟨w.heap.size + 1, 0, none⟩ = false := by rw [hc1.2 _ _ (by simp)]; simp [go_sem]
  simp only [World.size_alloc] at hm1 hm2
  have hsz : w.heap.size + 1 < w1.heap.size := by have := k1.size; simp at this; omega
  gi_wp2_with fail
  refine wpIn_rangeFunc_ownF rfl (by omega) (gf := 110) (lb := #[.pointer (some ⟨b1, 0, none⟩), .pointer (some ⟨b2, 0, none⟩)]) rfl trivial (enters_of Try.func110 (by kernel_rfl) rfl)
    (agreeing_stops 3 (by omega) b1 b2 (fun k => k = w.heap.size + 1) lo hi a cap2 gs w1 hh hl HO.out (by omega) (by omega) (fun b o e => by have := HB.out b o e; omega) h1 h2 h3 h4)
    (fun h k => KeepEx.trans h k) keepEx_putObj (Below.refl _ _) (fun _ => rfl)
    (fun pre W => (pre = [] ∧ W.cell? ⟨w.heap.size + 1, 0, none⟩ = some (.bool false) ∧ W.frozen? ⟨w.heap.size + 1, 0, none⟩ = false) ∧ Keeps w W)
    (fun c pre W => (c = .ret ∧ pre ≠ [] ∧ W.cell? ⟨w.heap.size + 1, 0, none⟩ = some (.bool true)) ∧ Keeps w W)
    (OwnFrom.and (Own.from (fun s A B row hs hg hr => ⟨hs.1, cell_kept hs.2.1 hg hr, (frozen_kept hs.2.1 hg hr).trans hs.2.2⟩) _) (ownFrom_keeps k2.size))
    (fun c => OwnFrom.and (Own.from (fun s A B row hs hg hr => ⟨hs.1, hs.2.1, cell_kept hs.2.2 hg hr⟩) _) (ownFrom_keeps k2.size))
    ⟨⟨rfl, hr1, hf1⟩, k2⟩
    (fun x => { tmps := #[.agg #[.int .i64 lo, .int .i64 hi], .slice a gs.length cap, .pointer (some ⟨w.heap.size, 0, none⟩), undef, .pointer (some ⟨w.heap.size + 1, 0, none⟩), .agg #[.int .i64 lo, .int .i64 hi], .slice a gs.length cap, .func (.func 110) #[] #[.pointer (some ⟨b1, 0, none⟩), .pointer (some ⟨b2, 0, none⟩)], lnV x], defers := [] }) ?assign ?body ?done ?stop
  case assign =>
    intro l x W K hK
    gi_wp2
    simpa using hK
  case body =>
    rintro l pre x W ⟨⟨hp, hcr, hfr⟩, hB⟩ _
    gi_wp2
    exact ⟨KeepsOthers.setCell _ _ _, ⟨rfl, by simp, World.cell?_setCell_same' _ _ _ (by rw [hcr]; rfl)⟩, hB.setCell _ (by simp)⟩
  case done =>
    rintro D ys W hD rfl ⟨⟨hne, hcr, hfr⟩, hB⟩ hK
    gi_wp2
    have hK' := (KeepsOthers.setCell W ⟨w.heap.size + 1, 0, none⟩ (.bool false)).same D _ hK rfl
    refine ⟨by simp, .inl ⟨_, _, rfl, run_takeDeferred hK', ?_⟩⟩
    have hc5 := cell_kept (World.cell?_setCell_same' W ⟨w.heap.size + 1, 0, none⟩ (.bool false) (by rw [hcr]; rfl)) (grownBy_putObj' _ D (.deferred none)) (fun r e => by cases e; exact ⟨_, hK', rfl⟩)
    refine ⟨.bool false, ?_, by rw [agreeB, hne]; rfl, keeps_putObj (hB.setCell _ (by simp)) _ (by omega)⟩
    simp [results, Try.f55, go_sem, hc5]
  case stop =>
    rintro D c pre W hD hpre ⟨⟨rfl, hne, hcr⟩, hB⟩ hK
    gi_wp2
    refine ⟨by simp, .inl ⟨_, _, rfl, run_takeDeferred hK, ?_⟩⟩
    have hc5 := cell_kept hcr (grownBy_putObj' _ D (.deferred none)) (fun r e => by cases e; exact ⟨_, hK, rfl⟩)
    have hl : lens lo hi gs ≠ [] := fun e => by rw [e] at hpre; exact hne (List.prefix_nil.1 hpre)
    refine ⟨.bool true, ?_, by rw [agreeB]; simp [hl], keeps_putObj hB _ (by omega)⟩
    simp [results, Try.f55, go_sem, hc5]

theorem Fr.gs_ok (F : Fr) (h : F.ok = true) : ∀ g ∈ F.gs, okG g := by
  intro g hg
  obtain ⟨r, hr, rfl⟩ := List.mem_map.1 hg
  obtain ⟨k, hk, rfl⟩ := List.getElem_of_mem hr
  have h1 := F.rd_in h hk
  simp only [List.getElem?_eq_getElem hk, Option.getD_some] at h1
  have h2 := F.wave_in h (c := F.rs[k].1.toNat) (by omega)
  exact ⟨by simp only [rgOf]; omega, by simp only [rgOf]; omega⟩
theorem Fr.len_in (F : Fr) (h : F.ok = true) : 0 ≤ F.lo ∧ F.lo ≤ F.hi ∧ F.hi ≤ 2000 ∧ F.hi - F.lo ≤ 400 := by
  simp only [Fr.ok, vFringe, vLen, Bool.and_eq_true, decide_eq_true_eq] at h
  exact h.1.2
/-- The lengths of all truths. -/
def Fr.truths (F : Fr) : List Ln := lens F.lo.toNat F.hi.toNat F.gs

theorem agree_fr (F : Fr) (a : Option Addr) (w : World) (hg : Rgs w a F.gs) (hgb : ∀ b o, a = some ⟨b, o, none⟩ → b < w.heap.size) (hok : F.ok = true) :
    Calls Try.prog 55 #[.agg #[.int .i64 F.lo, .int .i64 F.hi], .slice a F.rs.length F.rs.length] w (RetB (!F.truths.isEmpty) w) := by
  obtain ⟨l1, l2, l3, _⟩ := F.len_in hok
  have h := agree_any F.lo.toNat F.hi.toNat a F.rs.length F.gs w hg hgb (by omega) (by rw [F.gs_len]; have := F.rl_in hok; unfold maxLen; omega) (F.gs_ok hok)
  rw [F.gs_len, Int.toNat_of_nonneg l1, Int.toNat_of_nonneg (by omega)] at h
  exact h

theorem readings_at (F : Fr) (w : World) (hI : F.In w) (hok : F.ok = true) :
    Calls Try.prog 51 #[F.v] w fun e w' => ∃ a, e = .returned (.slice a F.rs.length F.rs.length) ∧ Rgs w' a F.gs ∧ (∀ b o, a = some ⟨b, o, none⟩ → b < w'.heap.size) ∧ Keeps w w' :=
  (readings_any F w hI hok).mono fun _ _ ⟨he, hg, hk, hz⟩ => ⟨_, he, hg, fun b o e => by cases e; exact hz, hk⟩

set_option maxHeartbeats 800000 in
theorem needTruth_b (F : Fr) (w : World) (hI : F.In w) (hok : F.ok = true) (t : Bool) (ht : F.truths.isEmpty = t) :
    Calls Try.prog 43 #[F.v] w (if t then Pan 10 w else Ret (.tuple #[]) w) := by
  have H1 := Lib.hid (fun w1 (k : Keeps w w1) => readings_at F w1 (hI.keep k) hok)
  have H2 := Lib.hid (fun w1 a hg hb => ht ▸ agree_fr F a w1 hg hb hok)
  obtain ⟨gs, hgs⟩ : ∃ gs, F.gs = gs := ⟨_, rfl⟩
  rw [hgs] at H1 H2
  obtain ⟨wa, wc, ws, lo, hi, ra, rc, rs⟩ := F
  dsimp only [Fr.v] at *
  clear hok hI hgs ht
  cases t
  all_goals
    simp only [if_true, Bool.false_eq_true, if_false]
    go_enter Try.func43, Try.ntmps43
    go_wp2_with fail
    have k0 := (Keeps.refl w).alloc (.cells #[.slice wa ws.length wc, .int .i64 lo, .int .i64 hi, .slice ra rs.length rc] 27)
    go_region_with (first | (go_at_call 51; refine (H1.out _ k0.drew).mono ?_; rintro e w1 ⟨a, rfl, hg, hb, k1⟩; have hc1 := k1.undrew.cells) | (go_at_call 55; refine (H2.out _ _ hg hb).mono ?_; rintro e w2 ⟨rfl, k2⟩))
  all_goals
    go_wp2
    first
    | exact ⟨rfl, rfl, (k0.trans k1.undrew).trans k2⟩
    | (refine bodyPost_end (results_none rfl _ _ _) rfl ?_; exact ⟨rfl, (k0.trans k1.undrew).trans k2⟩)
theorem needTruth_yes (F : Fr) (w : World) (hI : F.In w) (hok : F.ok = true) (ht : F.truths ≠ []) : Calls Try.prog 43 #[F.v] w (Ret (.tuple #[]) w) := by
  have := needTruth_b F w hI hok false (by simpa using ht)
  simpa using this
theorem needTruth_no (F : Fr) (w : World) (hI : F.In w) (hok : F.ok = true) (ht : F.truths = []) : Calls Try.prog 43 #[F.v] w (Pan 10 w) := by
  have := needTruth_b F w hI hok true (by simpa using ht)
  simpa using this
end Go.Proofs.Ytoidnbpbeblokaa

namespace Go.Proofs.Ytoidnbpbeblokaa
open Go.RowKit Go.Shelf
attribute [local go_sem] Oper.semAt_some

theorem lensTo_len (lo : Nat) (gs : List Rg) (k : Nat) : (lensTo lo gs k).length ≤ k := by
  have := List.length_filterMap_le (fun i => if h : lo + i < 2001 then (if gs.all (rightB · ((lo + i : Nat) : Int)) then some (⟨lo + i, h⟩ : Ln) else none) else none) (List.range k)
  simpa [lensTo] using this
theorem Fr.truths_len (F : Fr) (h : F.ok = true) : F.truths.length ≤ 401 := by
  obtain ⟨l1, l2, l3, l4⟩ := F.len_in h
  have := lensTo_len F.lo.toNat F.gs (F.hi.toNat + 1 - F.lo.toNat)
  simp only [Fr.truths, lens]
  omega
/-- truths, with what the loop over it wants. -/
theorem truths_seq (F : Fr) (w : World) (hI : F.In w) (hok : F.ok = true) :
    Calls Try.prog 46 #[F.v] w fun e w' => ∃ b1 b2 a cap, e = .returned (.func (.func 110) #[] #[.pointer (some ⟨b1, 0, none⟩), .pointer (some ⟨b2, 0, none⟩)]) ∧ Keeps w w' ∧ w.heap.size ≤ b1 ∧ w.heap.size ≤ b2 ∧ (∀ b o, a = some ⟨b, o, none⟩ → w.heap.size ≤ b) ∧
      w'.cell? ⟨b1, 0, none⟩ = some (.int .i64 F.lo.toNat) ∧ w'.cell? ⟨b1, 1, none⟩ = some (.int .i64 F.hi.toNat) ∧ w'.cell? ⟨b2, 0, none⟩ = some (.slice a F.gs.length cap) ∧ Rgs w' a F.gs := by
  obtain ⟨l1, l2, l3, _⟩ := F.len_in hok
  refine (truths_any F w hI hok).mono ?_
  rintro e w' ⟨v, a, rfl, ⟨b1, b2, cap, rfl, hm1, hm2, h1, h2, h3, h4⟩, hf, _, hk⟩
  rw [← Int.toNat_of_nonneg l1] at h1
  rw [← Int.toNat_of_nonneg (show 0 ≤ F.hi by omega)] at h2
  exact ⟨b1, b2, a, cap, rfl, hk, hm1, hm2, hf, h1, h2, h3, h4⟩
/-- What the iterator of a fringe has kept, and where it lies. -/
def SeqIn (F : Fr) (w : World) (b1 b2 : Nat) (a : Option Addr) : Prop :=
  ∃ cap, w.cell? ⟨b1, 0, none⟩ = some (.int .i64 F.lo.toNat) ∧ w.cell? ⟨b1, 1, none⟩ = some (.int .i64 F.hi.toNat) ∧ w.cell? ⟨b2, 0, none⟩ = some (.slice a F.gs.length cap) ∧ Rgs w a F.gs
theorem SeqIn.keep {F : Fr} {w w' : World} {b1 b2 : Nat} {a : Option Addr} (h : SeqIn F w b1 b2 a) (k : Keeps w w') : SeqIn F w' b1 b2 a := by
  obtain ⟨cap, h1, h2, h3, h4⟩ := h
  exact ⟨cap, k.cell h1, k.cell h2, k.cell h3, h4.keep k⟩
/-- The contract of the iterator of a fringe. -/
theorem seq_stops (F : Fr) (hok : F.ok = true) (b1 b2 : Nat) (X : Nat → Prop) (a : Option Addr) (w : World) (hx1 : ¬ X b1) (hx2 : ¬ X b2) (hx3 : ∀ b o, a = some ⟨b, o, none⟩ → ¬ X b) (hS : SeqIn F w b1 b2 a) :
    SeqStopsK Fence.wide 3 Try.prog 110 #[.pointer (some ⟨b1, 0, none⟩), .pointer (some ⟨b2, 0, none⟩)] (fun x : Ln => #[lnV x]) (KeepEx w.heap.size X) (fun ys => ys = F.truths) (fun pre => pre <+: F.truths) F.truths.length w := by
  obtain ⟨l1, l2, l3, _⟩ := F.len_in hok
  obtain ⟨cap, h1, h2, h3, hg⟩ := hS
  exact agreeing_stops 3 (by omega) b1 b2 X F.lo.toNat F.hi.toNat a cap F.gs w (by omega) (by rw [F.gs_len]; have := F.rl_in hok; unfold maxLen; omega) (F.gs_ok hok) hx1 hx2 hx3 h1 h2 h3 hg
theorem truths_stops (F : Fr) (hok : F.ok = true) (b1 b2 m : Nat) (X : Nat → Prop) (a : Option Addr) (cap : Nat) (w : World) (hX : ∀ k, X k → k < m) (hm1 : m ≤ b1) (hm2 : m ≤ b2) (hm3 : ∀ b o, a = some ⟨b, o, none⟩ → m ≤ b)
    (h1 : w.cell? ⟨b1, 0, none⟩ = some (.int .i64 F.lo.toNat)) (h2 : w.cell? ⟨b1, 1, none⟩ = some (.int .i64 F.hi.toNat)) (h3 : w.cell? ⟨b2, 0, none⟩ = some (.slice a F.gs.length cap)) (hg : Rgs w a F.gs) :
    SeqStopsK Fence.wide 3 Try.prog 110 #[.pointer (some ⟨b1, 0, none⟩), .pointer (some ⟨b2, 0, none⟩)] (fun x : Ln => #[lnV x]) (KeepEx w.heap.size X) (fun ys => ys = F.truths) (fun pre => pre <+: F.truths) F.truths.length w :=
  seq_stops F hok b1 b2 X a w (fun h => by have := hX _ h; omega) (fun h => by have := hX _ h; omega) (fun b o e h => by have := hX _ h; have := hm3 b o e; omega) ⟨cap, h1, h2, h3, hg⟩

set_option maxHeartbeats 1600000 in
theorem Count1_yes (F : Fr) (b0 : Nat) (w : World) (hI : F.In w) (hB : F.Box w b0) (hok : F.ok = true) :
    Calls Try.prog 73 #[.pointer (some ⟨b0, 0, none⟩)] w (RetI F.truths.length w) := by
  have H1 := Lib.hid (fun w1 (k : Keeps w w1) => (callsIn_wide (n := 3)).2 (needFringe_yes F w1 (hI.keep k) hok))
  have H2 := Lib.hid (fun w1 (k : Keeps w w1) => (callsIn_wide (n := 3)).2 (truths_seq F w1 (hI.keep k) hok))
  have HS := Lib.hid (truths_stops F hok)
  have hlen := F.truths_len hok
  obtain ⟨g0, g1, g2, g3⟩ := hB
  have hlb := lt_of_cell g0
  obtain ⟨gs, hgs⟩ : ∃ gs, F.gs = gs := ⟨_, rfl⟩
  obtain ⟨ts, hts⟩ : ∃ ts, F.truths = ts := ⟨_, rfl⟩
  rw [hts, hgs] at HS
  rw [hgs] at H2
  rw [hts] at hlen ⊢
  obtain ⟨wa, wc, ws, lo, hi, ra, rc, rs⟩ := F
  dsimp only [Fr.v] at *
  clear hok hI hgs hts
  refine (callsIn_wide (n := 4)).1 ?_
  refine callsIn_of_wp_marks Try.func73 rfl trivial ?_ rfl
  simp only [Try.ntmps73, List.size_toArray, List.length_cons, List.length_nil, Nat.reduceAdd, Nat.reduceSub, Array.replicate_succ, Array.replicate_zero, List.push_toArray, List.append_toArray, List.nil_append, List.cons_append]
  gi_wp2_with fail
  refine ⟨trivial, ?_⟩
  refine (H1.out _ (Keeps.refl _)).mono ?_
  rintro e w1 ⟨rfl, k1⟩
  have hc1 := k1.cells
  have hlb1 : b0 < w1.heap.size := by have := k1.size; omega
  gi_wp2_with fail
  refine ⟨trivial, ?_⟩
  have k2 := k1.alloc (.cells #[.int .i64 0] 3)
  refine (H2.out _ k2).mono ?_
  rintro e w2 ⟨b1, b2, a, cap, rfl, k3, hm1, hm2, hm3, h1, h2, h3, h4⟩
  have hr1 : w2.cell? ⟨w1.heap.size, 0, none⟩ = some (.int .i64 0) := k3.cell (by simp [go_sem])
  have hf1 : w2.frozen? ⟨w1.heap.size, 0, none⟩ = false := by rw [k3.cells.2 _ _ (by simp)]; simp [go_sem]
  simp only [World.size_alloc] at hm1 hm2 hm3
  have hsz : w1.heap.size < w2.heap.size := by have := k3.size; simp at this; omega
  have hsz0 := k1.size
  have k4 := k2.trans k3
  have hs4 := k4.size
  gi_wp2_with fail
  refine wpIn_rangeFunc_ownF rfl (by omega) (gf := 110) (lb := #[.pointer (some ⟨b1, 0, none⟩), .pointer (some ⟨b2, 0, none⟩)]) rfl trivial (enters_of Try.func110 (by kernel_rfl) rfl)
    (HS.out b1 b2 (w1.heap.size + 1) (fun k => k = w1.heap.size) a cap w2 (fun k e => by subst e; exact Nat.lt_succ_self _) hm1 hm2 hm3 h1 h2 h3 h4)
    (fun h k => KeepEx.trans h k) keepEx_putObj (Below.refl _ _) (fun _ => rfl)
    (fun pre W => (W.cell? ⟨w1.heap.size, 0, none⟩ = some (.int .i64 pre.length) ∧ W.frozen? ⟨w1.heap.size, 0, none⟩ = false) ∧ Keeps w W)
    (fun _ _ _ => False)
    (OwnFrom.and (Own.from (fun s A B row hs hg hr => ⟨cell_kept hs.1 hg hr, (frozen_kept hs.1 hg hr).trans hs.2⟩) _) (ownFrom_keeps hs4))
    (fun _ _ _ _ _ hs _ _ => hs)
    ⟨⟨hr1, hf1⟩, k4⟩
    (fun x => { tmps := #[.pointer (some ⟨b0, 0, none⟩), .int .i64 0, .pointer (some ⟨w1.heap.size, 0, none⟩), .agg #[.slice wa ws.length wc, .int .i64 lo, .int .i64 hi, .slice ra rs.length rc], .tuple #[], .agg #[.slice wa ws.length wc, .int .i64 lo, .int .i64 hi, .slice ra rs.length rc], .func (.func 110) #[] #[.pointer (some ⟨b1, 0, none⟩), .pointer (some ⟨b2, 0, none⟩)], lnV x, undef, undef, undef], defers := [] }) ?assign ?body ?done ?stop
  case assign =>
    intro l x W K hK
    gi_wp2
    simpa using hK
  case body =>
    rintro l pre x W ⟨⟨hcr, hfr⟩, hB⟩ hN
    have hN' : pre.length < 401 := by omega
    gi_wp2
    refine ⟨KeepsOthers.setCell _ _ _, KeepEx.setCell _ _ rfl, ⟨?_, ?_⟩, hB.setCell _ hsz0⟩
    · rw [List.length_append]
      exact World.cell?_setCell_same' _ _ _ (by rw [hcr]; rfl)
    · rw [World.frozen?_setCell]; exact hfr
  case done =>
    rintro D ys W hD rfl ⟨⟨hcr, hfr⟩, hB⟩ hK
    gi_wp2
    refine ⟨by simp, .inl ⟨_, _, rfl, run_takeDeferred hK, ?_⟩⟩
    exact ⟨_, results_tmp rfl _ _ _, rfl, keeps_putObj hB _ (by omega)⟩
  case stop =>
    rintro D c pre W _ _ h _
    exact h.elim
end Go.Proofs.Ytoidnbpbeblokaa
