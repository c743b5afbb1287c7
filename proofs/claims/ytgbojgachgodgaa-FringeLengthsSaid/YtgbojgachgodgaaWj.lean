/-
  agree, needTruth: is there a length of which all readings are right?
-/
import Derived.Test.YtgbojgachgodgaaWi
namespace Go.Proofs.Ytgbojgachgodgaa
open Go.RowKit Go.Shelf
attribute [local go_sem] Oper.semAt_some

def agreeB (lo hi : Nat) (gs : List Rg) : Bool := !(lens lo hi gs).isEmpty

set_option maxHeartbeats 1600000 in
theorem agree_any (lo hi : Nat) (a : Option Addr) (cap : Nat) (gs : List Rg) (w : World) (hg : Rgs w a gs) (hgb : ∀ b o, a = some ⟨b, o, none⟩ → b < w.heap.size) (hh : hi ≤ 2000) (hl : gs.length ≤ maxLen) (hok : ∀ g ∈ gs, okG g) :
    Calls Try.prog 55 #[.agg #[.int .i64 lo, .int .i64 hi], .slice a gs.length cap] w (RetB (agreeB lo hi gs) w) := by
  have k0 : Keeps w ((w.alloc (.cells #[.int .i64 lo, .int .i64 hi] 24)).alloc (.cells #[.bool false] 4)) := ((Keeps.refl _).alloc _).alloc _
  have hA := (callsIn_wide (n := 3)).2 (agreeing_seq lo hi a cap gs ((w.alloc (.cells #[.int .i64 lo, .int .i64 hi] 24)).alloc (.cells #[.bool false] 4)) (hg.keep k0))
  have HA := Lib.hid hA
  have HO := Lib.hid hok
  have HB := Lib.hid hgb
  clear hA hok hg hgb
  have K0 := Lib.hid k0
  clear k0
  refine callsIn_wide (n := 4).1 ?_
  refine callsIn_of_wp_marks Try.func55 rfl trivial ?_ rfl
  simp only [Try.ntmps55, List.size_toArray, List.length_cons, List.length_nil, Nat.reduceAdd, Nat.reduceSub, Array.replicate_succ, Array.replicate_zero, List.push_toArray, List.append_toArray, List.nil_append, List.cons_append]
  gi_wp2_with fail
  refine ⟨trivial, ?_⟩
  refine HA.out.mono ?_
  rintro e w1 ⟨v, rfl, ⟨b1, b2, cap2, rfl, hm1, hm2, h1, h2, h3, h4⟩, k1⟩
  have hc1 := k1.cells
  have k2 := K0.out.trans k1
  have hr1 : w1.cell? ⟨w.heap.size + 1, 0, none⟩ = some (.bool false) := by rw [hc1.1 _ _ (by simp)]; simp [go_sem]
  have hf1 : w1.frozen? ⟨w.heap.size + 1, 0, none⟩ = false := by rw [hc1.2 _ _ (by simp)]; simp [go_sem]
  simp only [World.size_alloc] at hm1 hm2
  have hsz : w.heap.size + 1 < w1.heap.size := by have := k1.size; simp at this; omega
  gi_wp2_with fail
  refine wpIn_rangeFunc_ownF rfl (by omega) (gf := 110) (lb := #[.pointer (some ⟨b1, 0, none⟩), .pointer (some ⟨b2, 0, none⟩)]) rfl trivial (enters_of Try.func110 (by kernel_rfl) rfl)
    (agreeing_stops 3 (by omega) b1 b2 (fun k => k = w.heap.size + 1) lo hi a cap2 gs w1 hh hl HO.out (by omega) (by omega) (fun b o e => by have := HB.out b o e; omega) h1 h2 h3 h4)
    (fun h k => KeepEx.trans h k) keepEx_putObj (Below.refl _ _) (fun _ => rfl)
    (fun pre W => (pre = [] ∧ W.cell? ⟨w.heap.size + 1, 0, none⟩ = some (.bool false) ∧ W.frozen? ⟨w.heap.size + 1, 0, none⟩ = false) ∧ Keeps w W)
    (fun c pre W => (c = .ret ∧ pre ≠ [] ∧ W.cell? ⟨w.heap.size + 1, 0, none⟩ = some (.bool true)) ∧ Keeps w W)
    (OwnFrom.and (Own.from (fun s A B row hs hg hr => ⟨hs.1, cell_kept hs.2.1 hg hr, (frozen_kept hs.2.1 hg hr).trans hs.2.2⟩) _) (ownFrom_keeps k2.size))
    (fun c => OwnFrom.and (Own.from (fun s A B row hs hg hr => ⟨hs.1, hs.2.1, cell_kept hs.2.2 hg hr⟩) _) (ownFrom_keeps k2.size))
    ⟨⟨rfl, hr1, hf1⟩, k2⟩
    (fun x => { tmps := #[.agg #[.int .i64 lo, .int .i64 hi], .slice a gs.length cap, .pointer (some ⟨w.heap.size, 0, none⟩), undef, .pointer (some ⟨w.heap.size + 1, 0, none⟩), .agg #[.int .i64 lo, .int .i64 hi], .slice a gs.length cap, .func (.func 110) #[] #[.pointer (some ⟨b1, 0, none⟩), .pointer (some ⟨b2, 0, none⟩)], lnV x], defers := [] }) ?assign ?body ?done ?stop
  case assign =>
    intro l x W K hK
    gi_wp2
    simpa using hK
  case body =>
    rintro l pre x W ⟨⟨hp, hcr, hfr⟩, hB⟩ _
    gi_wp2
    exact ⟨KeepsOthers.setCell _ _ _, ⟨rfl, by simp, World.cell?_setCell_same' _ _ _ (by rw [hcr]; rfl)⟩, hB.setCell _ (by simp)⟩
  case done =>
    rintro D ys W hD rfl ⟨⟨hne, hcr, hfr⟩, hB⟩ hK
    gi_wp2
    have hK' := (KeepsOthers.setCell W ⟨w.heap.size + 1, 0, none⟩ (.bool false)).same D _ hK rfl
    refine ⟨by simp, .inl ⟨_, _, rfl, run_takeDeferred hK', ?_⟩⟩
    have hc5 := cell_kept (World.cell?_setCell_same' W ⟨w.heap.size + 1, 0, none⟩ (.bool false) (by rw [hcr]; rfl)) (grownBy_putObj' _ D (.deferred none)) (fun r e => by cases e; exact ⟨_, hK', rfl⟩)
    refine ⟨.bool false, ?_, by rw [agreeB, hne]; rfl, keeps_putObj (hB.setCell _ (by simp)) _ (by omega)⟩
    simp [results, Try.f55, go_sem, hc5]
  case stop =>
    rintro D c pre W hD hpre ⟨⟨rfl, hne, hcr⟩, hB⟩ hK
    gi_wp2
    refine ⟨by simp, .inl ⟨_, _, rfl, run_takeDeferred hK, ?_⟩⟩
    have hc5 := cell_kept hcr (grownBy_putObj' _ D (.deferred none)) (fun r e => by cases e; exact ⟨_, hK, rfl⟩)
    have hl : lens lo hi gs ≠ [] := fun e => by rw [e] at hpre; exact hne (List.prefix_nil.1 hpre)
    refine ⟨.bool true, ?_, by rw [agreeB]; simp [hl], keeps_putObj hB _ (by omega)⟩
    simp [results, Try.f55, go_sem, hc5]

theorem Fr.gs_ok (F : Fr) (h : F.ok = true) : ∀ g ∈ F.gs, okG g := by
  intro g hg
  obtain ⟨r, hr, rfl⟩ := List.mem_map.1 hg
  obtain ⟨k, hk, rfl⟩ := List.getElem_of_mem hr
  have h1 := F.rd_in h hk
  simp only [List.getElem?_eq_getElem hk, Option.getD_some] at h1
  have h2 := F.wave_in h (c := F.rs[k].1.toNat) (by omega)
  exact ⟨by simp only [rgOf]; omega, by simp only [rgOf]; omega⟩
theorem Fr.len_in (F : Fr) (h : F.ok = true) : 0 ≤ F.lo ∧ F.lo ≤ F.hi ∧ F.hi ≤ 2000 ∧ F.hi - F.lo ≤ 400 := by
  simp only [Fr.ok, vFringe, vLen, Bool.and_eq_true, decide_eq_true_eq] at h
  exact h.1.2
/-- The lengths of all truths. -/
def Fr.truths (F : Fr) : List Ln := lens F.lo.toNat F.hi.toNat F.gs

theorem agree_fr (F : Fr) (a : Option Addr) (w : World) (hg : Rgs w a F.gs) (hgb : ∀ b o, a = some ⟨b, o, none⟩ → b < w.heap.size) (hok : F.ok = true) :
    Calls Try.prog 55 #[.agg #[.int .i64 F.lo, .int .i64 F.hi], .slice a F.rs.length F.rs.length] w (RetB (!F.truths.isEmpty) w) := by
  obtain ⟨l1, l2, l3, _⟩ := F.len_in hok
  have h := agree_any F.lo.toNat F.hi.toNat a F.rs.length F.gs w hg hgb (by omega) (by rw [F.gs_len]; have := F.rl_in hok; unfold maxLen; omega) (F.gs_ok hok)
  rw [F.gs_len, Int.toNat_of_nonneg l1, Int.toNat_of_nonneg (by omega)] at h
  exact h

theorem readings_at (F : Fr) (w : World) (hI : F.In w) (hok : F.ok = true) :
    Calls Try.prog 51 #[F.v] w fun e w' => ∃ a, e = .returned (.slice a F.rs.length F.rs.length) ∧ Rgs w' a F.gs ∧ (∀ b o, a = some ⟨b, o, none⟩ → b < w'.heap.size) ∧ Keeps w w' :=
  (readings_any F w hI hok).mono fun _ _ ⟨he, hg, hk, hz⟩ => ⟨_, he, hg, fun b o e => by cases e; exact hz, hk⟩

set_option maxHeartbeats 800000 in
theorem needTruth_b (F : Fr) (w : World) (hI : F.In w) (hok : F.ok = true) (t : Bool) (ht : F.truths.isEmpty = t) :
    Calls Try.prog 43 #[F.v] w (if t then Pan 10 w else Ret (.tuple #[]) w) := by
  have H1 := Lib.hid (fun w1 (k : Keeps w w1) => readings_at F w1 (hI.keep k) hok)
  have H2 := Lib.hid (fun w1 a hg hb => ht ▸ agree_fr F a w1 hg hb hok)
  obtain ⟨gs, hgs⟩ : ∃ gs, F.gs = gs := ⟨_, rfl⟩
  rw [hgs] at H1 H2
  obtain ⟨wa, wc, ws, lo, hi, ra, rc, rs⟩ := F
  dsimp only [Fr.v] at *
  clear hok hI hgs ht
  cases t
  all_goals
    simp only [if_true, Bool.false_eq_true, if_false]
    go_enter Try.func43, Try.ntmps43
    go_wp2_with fail
    have k0 := (Keeps.refl w).alloc (.cells #[.slice wa ws.length wc, .int .i64 lo, .int .i64 hi, .slice ra rs.length rc] 27)
    go_region_with (first | (go_at_call 51; refine (H1.out _ k0.drew).mono ?_; rintro e w1 ⟨a, rfl, hg, hb, k1⟩; have hc1 := k1.undrew.cells) | (go_at_call 55; refine (H2.out _ _ hg hb).mono ?_; rintro e w2 ⟨rfl, k2⟩))
  all_goals
    go_wp2
    first
    | exact ⟨rfl, rfl, (k0.trans k1.undrew).trans k2⟩
    | (refine bodyPost_end (results_none rfl _ _ _) rfl ?_; exact ⟨rfl, (k0.trans k1.undrew).trans k2⟩)
theorem needTruth_yes (F : Fr) (w : World) (hI : F.In w) (hok : F.ok = true) (ht : F.truths ≠ []) : Calls Try.prog 43 #[F.v] w (Ret (.tuple #[]) w) := by
  have := needTruth_b F w hI hok false (by simpa using ht)
  simpa using this
theorem needTruth_no (F : Fr) (w : World) (hI : F.In w) (hok : F.ok = true) (ht : F.truths = []) : Calls Try.prog 43 #[F.v] w (Pan 10 w) := by
  have := needTruth_b F w hI hok true (by simpa using ht)
  simpa using this
end Go.Proofs.Ytgbojgachgodgaa
