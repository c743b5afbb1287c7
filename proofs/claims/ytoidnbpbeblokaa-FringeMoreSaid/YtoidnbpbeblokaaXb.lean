/-
  first: the first set that suits.
  Which sets of readings suit: the questions that Wrong and Clash ask.
-/
import Derived.Test.YtoidnbpbeblokaaXa
import Derived.Test.YtoidnbpbeblokaaWt
import Derived.Test.YtoidnbpbeblokaaWm
namespace Go.Proofs.Ytoidnbpbeblokaa
open Go.RowKit Go.Shelf
attribute [local go_sem] Oper.semAt_some

theorem find_pre {α : Type} {p : α → Bool} {pre l : List α} {x : α} (h : pre ++ [x] <+: l) (hp : p x = true) (hn : ∀ y ∈ pre, p y = false) : l.find? p = some x := by
  obtain ⟨t, rfl⟩ := h
  rw [List.find?_append, List.find?_append, List.find?_eq_none.2 (fun y hy => by simp [hn y hy])]
  simp [hp]
theorem find_none {α : Type} {p : α → Bool} {l : List α} (hn : ∀ y ∈ l, p y = false) : l.find? p = none := List.find?_eq_none.2 (fun y hy => by simp [hn y hy])
/-- What the search hands back. -/
def firstV (o : Option St) : Value := match o with | some x => .tuple #[stV x, .bool true] | none => .tuple #[.int .i64 0, .bool false]

theorem keepsOthers_of {A B : World} (k : Keeps A B) : KeepsOthers A B := ⟨k.size, fun _ _ hi _ => (k.heap (Array.getElem?_eq_some_iff.1 hi).1).trans hi⟩
theorem first_boxes (w : World) (u v : Value) (t1 t2 t3 : TypeId) :
    let W0 := ((w.alloc (.cells #[u, v] t1)).alloc (.cells #[.int .i64 0] t2)).alloc (.cells #[.bool false] t3)
    Keeps w W0 ∧ W0.cell? ⟨w.heap.size, 1, none⟩ = some v ∧ W0.cell? ⟨w.heap.size + 1, 0, none⟩ = some (.int .i64 0) ∧ W0.cell? ⟨w.heap.size + 1 + 1, 0, none⟩ = some (.bool false) ∧
      W0.frozen? ⟨w.heap.size + 1, 0, none⟩ = false ∧ W0.frozen? ⟨w.heap.size + 1 + 1, 0, none⟩ = false ∧ W0.heap.size = w.heap.size + 3 := by
  refine ⟨(((Keeps.refl _).alloc _).alloc _).alloc _, by simp [go_sem], by simp [go_sem], by simp [go_sem], by simp [go_sem], by simp [go_sem], by simp⟩

set_option maxHeartbeats 1600000 in
theorem first_any (b m K : Nat) (caps : Array Value) (p : St → Bool) (w : World) (hm : m ≤ 6) (hb : w.cell? ⟨b, 0, none⟩ = some (.int .i64 m))
    (hcf : ∀ args w, (callFunc K args).run Try.prog w = .ok (.enter K args) w)
    (hsuit : ∀ (x : St) w', Keeps w w' → Calls Try.prog K (#[.int .i64 ((x.val : Nat) : Int)] ++ caps) w' (RetB (p x) w')) :
    Calls Try.prog 52 #[.agg #[.func (.func 96) #[] #[.pointer (some ⟨b, 0, none⟩)], .func (.func K) #[] caps]] w (Ret (firstV ((sets m).find? p)) w) := by
  have HS := Lib.hid hsuit
  have hlb := lt_of_cell hb
  clear hsuit
  refine (callsIn_wide (n := 4)).1 ?_
  refine callsIn_of_wp_marks Try.func52 rfl trivial ?_ rfl
  simp only [Try.ntmps52, List.size_toArray, List.length_cons, List.length_nil, Nat.reduceAdd, Nat.reduceSub, Array.replicate_succ, Array.replicate_zero, List.push_toArray, List.append_toArray, List.nil_append, List.cons_append]
  gi_wp2_with fail
  obtain ⟨k0, c0, c1, c2, f1, f2, hs0⟩ := first_boxes w (.func (.func 96) #[] #[.pointer (some ⟨b, 0, none⟩)]) (.func (.func K) #[] caps) 98 84 4
  obtain ⟨W0, hW0⟩ : ∃ W0, (((w.alloc (.cells #[.func (.func 96) #[] #[.pointer (some ⟨b, 0, none⟩)], .func (.func K) #[] caps] 98)).alloc (.cells #[.int .i64 0] 84)).alloc (.cells #[.bool false] 4)) = W0 := ⟨_, rfl⟩
  rw [hW0] at k0 c0 c1 c2 f1 f2 hs0 ⊢
  clear hW0
  refine wpIn_rangeFunc_ownF rfl (by omega) (gf := 96) (lb := #[.pointer (some ⟨b, 0, none⟩)]) rfl trivial (enters_of Try.func96 (by kernel_rfl) rfl)
    (setsBySize_stops 3 (by omega) b (fun k => w.heap.size ≤ k) m W0 hm (show ¬ w.heap.size ≤ b by omega) (k0.cell hb))
    (fun h k => KeepEx.trans h k) keepEx_putObj (Below.refl _ _) (fun _ => rfl)
    (fun pre W => ((∀ y ∈ pre, p y = false) ∧ W.cell? ⟨w.heap.size, 1, none⟩ = some (.func (.func K) #[] caps) ∧ W.cell? ⟨w.heap.size + 1, 0, none⟩ = some (.int .i64 0) ∧ W.cell? ⟨w.heap.size + 1 + 1, 0, none⟩ = some (.bool false) ∧
      W.frozen? ⟨w.heap.size + 1, 0, none⟩ = false ∧ W.frozen? ⟨w.heap.size + 1 + 1, 0, none⟩ = false) ∧ Keeps w W)
    (fun c pre W => (c = .ret ∧ ∃ pre' x, pre = pre' ++ [x] ∧ p x = true ∧ (∀ y ∈ pre', p y = false) ∧ W.cell? ⟨w.heap.size + 1, 0, none⟩ = some (.int .i64 ((x.val : Nat) : Int)) ∧ W.cell? ⟨w.heap.size + 1 + 1, 0, none⟩ = some (.bool true)) ∧ Keeps w W)
    (OwnFrom.and (Own.from (fun s A B row hs hg hr => ⟨hs.1, cell_kept hs.2.1 hg hr, cell_kept hs.2.2.1 hg hr, cell_kept hs.2.2.2.1 hg hr, (frozen_kept hs.2.2.1 hg hr).trans hs.2.2.2.2.1, (frozen_kept hs.2.2.2.1 hg hr).trans hs.2.2.2.2.2⟩) _) (ownFrom_keeps k0.size))
    (fun c => OwnFrom.and (Own.from (fun s A B row hs hg hr => by
      obtain ⟨h0, pre', x, h1, h2, h3, h4, h5⟩ := hs
      exact ⟨h0, pre', x, h1, h2, h3, cell_kept h4 hg hr, cell_kept h5 hg hr⟩) _) (ownFrom_keeps k0.size))
    ⟨⟨fun y hy => absurd hy List.not_mem_nil, c0, c1, c2, f1, f2⟩, k0⟩
    (fun x => { tmps := #[.agg #[.func (.func 96) #[] #[.pointer (some ⟨b, 0, none⟩)], .func (.func K) #[] caps], .pointer (some ⟨w.heap.size, 0, none⟩), .pointer (some ⟨w.heap.size + 1, 0, none⟩), .pointer (some ⟨w.heap.size + 1 + 1, 0, none⟩), stV x, undef,
      .pointer (some ⟨w.heap.size, 0, none⟩), .func (.func 96) #[] #[.pointer (some ⟨b, 0, none⟩)], stV x, undef, undef, undef, undef, undef, undef], defers := [] }) ?assign ?body ?done ?stop
  case assign =>
    intro l x W K hK
    gi_wp2
    simpa using hK
  case body =>
    rintro l pre x W ⟨⟨hn, d0, d1, d2, g1, g2⟩, hB⟩ hN
    have hn1 : 1 ≤ 4 - 1 - 1 := by omega
    have hmx : Try.prog.follows .mixedOrders = true := by kernel_rfl
    have hfn : Fence.wide.fn K := trivial
    clear c0 c1 c2 f1 f2
    have hsx := HS.out x W hB
    obtain ⟨v, hv⟩ : ∃ v, p x = v := ⟨_, rfl⟩
    rw [hv] at hsx
    have HC := Lib.hid (CallsIn.inRound l ((callsIn_wide (n := 4 - 1 - 1 - 1)).2 hsx))
    have Hv := Lib.hid hv
    have Hn := Lib.hid hn
    clear hv hsx hn
    dsimp only [stV]
    gi_wp2_with fail
    refine HC.out.mono ?_
    rintro e w1 ⟨rfl, k1⟩
    have e0 := k1.cell d0
    have e1 := k1.cell d1
    have e2 := k1.cell d2
    have i1 := (k1.cells.2 _ 0 (lt_of_cell d1)).trans g1
    have i2 := (k1.cells.2 _ 0 (lt_of_cell d2)).trans g2
    have hK1 := Lib.hid (keepsOthers_of k1)
    have hl1 := lt_of_cell d1
    have hl2 := lt_of_cell d2
    have hBs := hB.size
    have hsz1 := k1.size
    clear HC
    cases v
    · gi_wp2_with fail
      exact ⟨hK1.out, ⟨k1.size, fun k _ hx => k1.heap (by omega)⟩, ⟨fun y hy => by
        rcases List.mem_append.1 hy with h | h
        · exact Hn.out y h
        · rw [List.mem_singleton.1 h]; exact Hv.out, e0, e1, e2, i1, i2⟩, hB.trans k1⟩
    · gi_wp2_with fail
      refine ⟨(hK1.out.trans (KeepsOthers.setCell _ _ _)).trans (KeepsOthers.setCell _ _ _), ⟨rfl, pre, x, rfl, Hv.out, Hn.out, ?_, ?_⟩, ((hB.trans k1).setCell _ (by simp)).setCell _ (by simp; omega)⟩
      · exact (cell_set_other (by omega)).trans (cell_set_same (by rw [e1]; rfl))
      · exact cell_set_same (by rw [cell_set_other (by omega), e2]; rfl)
  case done =>
    rintro D ys W hD rfl ⟨⟨hn, d0, d1, d2, g1, g2⟩, hB⟩ hK
    have Hn := Lib.hid hn
    clear hn c0 c1 c2 f1 f2
    have hl2 := lt_of_cell d2
    gi_wp2
    have hK' := (KeepsOthers.setCell (W.setCell ⟨w.heap.size + 1, 0, none⟩ (.int .i64 0)) ⟨w.heap.size + 1 + 1, 0, none⟩ (.bool false)).same D _ ((KeepsOthers.setCell W ⟨w.heap.size + 1, 0, none⟩ (.int .i64 0)).same D _ hK rfl) rfl
    refine ⟨by simp, .inl ⟨_, _, rfl, run_takeDeferred hK', ?_⟩⟩
    have j1 : ((W.setCell ⟨w.heap.size + 1, 0, none⟩ (.int .i64 0)).setCell ⟨w.heap.size + 1 + 1, 0, none⟩ (.bool false)).cell? ⟨w.heap.size + 1, 0, none⟩ = some (.int .i64 0) := (cell_set_other (by omega)).trans (cell_set_same (by rw [d1]; rfl))
    have j2 : ((W.setCell ⟨w.heap.size + 1, 0, none⟩ (.int .i64 0)).setCell ⟨w.heap.size + 1 + 1, 0, none⟩ (.bool false)).cell? ⟨w.heap.size + 1 + 1, 0, none⟩ = some (.bool false) := cell_set_same (by rw [cell_set_other (by omega), d2]; rfl)
    have r1 := cell_kept j1 (grownBy_putObj' _ D (.deferred none)) (fun r e => by cases e; exact ⟨_, hK', rfl⟩)
    have r2 := cell_kept j2 (grownBy_putObj' _ D (.deferred none)) (fun r e => by cases e; exact ⟨_, hK', rfl⟩)
    refine ⟨.tuple #[.int .i64 0, .bool false], ?_, by rw [find_none Hn.out]; rfl, keeps_putObj ((hB.setCell _ (by simp)).setCell _ (by simp; omega)) _ (by omega)⟩
    simp [results, Try.f52, go_sem, r1, r2]
  case stop =>
    rintro D c pre W hD hpre ⟨⟨rfl, pre', x, rfl, hpx, hn, d1, d2⟩, hB⟩ hK
    have Hn := Lib.hid hn
    have Hpx := Lib.hid hpx
    clear hn c0 c1 c2 f1 f2 hpx
    gi_wp2
    refine ⟨by simp, .inl ⟨_, _, rfl, run_takeDeferred hK, ?_⟩⟩
    have r1 := cell_kept d1 (grownBy_putObj' _ D (.deferred none)) (fun r e => by cases e; exact ⟨_, hK, rfl⟩)
    have r2 := cell_kept d2 (grownBy_putObj' _ D (.deferred none)) (fun r e => by cases e; exact ⟨_, hK, rfl⟩)
    refine ⟨.tuple #[stV x, .bool true], ?_, by rw [find_pre hpre Hpx.out Hn.out]; rfl, keeps_putObj hB _ (by omega)⟩
    simp [results, Try.f52, go_sem, r1, r2, stV]
end Go.Proofs.Ytoidnbpbeblokaa

namespace Go.Proofs.Ytoidnbpbeblokaa
open Go.RowKit Go.Shelf

/-- Do the readings but those of x agree? -/
def Fr.agreeW (F : Fr) (x : Nat) : Bool := agreeB F.lo.toNat F.hi.toNat (wo F.gs x)
theorem agree_wo (F : Fr) (hok : F.ok = true) (x : Nat) (a : Option Addr) (cap : Nat) (w : World) (hg : Rgs w a (wo F.gs x)) (hgb : ∀ b o, a = some ⟨b, o, none⟩ → b < w.heap.size) :
    Calls Try.prog 55 #[.agg #[.int .i64 F.lo, .int .i64 F.hi], .slice a (wo F.gs x).length cap] w (RetB (F.agreeW x) w) := by
  obtain ⟨l1, l2, l3, _⟩ := F.len_in hok
  have hlen := (keptTo_len F.gs x 0 (Nat.zero_le _)).2
  have h := agree_any F.lo.toNat F.hi.toNat a cap (wo F.gs x) w hg hgb (by omega) (by have := F.rl_in hok; rw [F.gs_len] at hlen; unfold maxLen; unfold wo; omega) (fun g hgm => F.gs_ok hok g (wo_sub _ _ g hgm))
  rw [Int.toNat_of_nonneg l1, Int.toNat_of_nonneg (by omega)] at h
  exact h

set_option maxHeartbeats 1600000 in
theorem Wrong11_any (F : Fr) (hok : F.ok = true) (b0 b2 x : Nat) (hx : x < 64) (a : Option Addr) (cap : Nat) (w : World) (hB : F.Box w b0) (h2 : w.cell? ⟨b2, 0, none⟩ = some (.slice a F.gs.length cap)) (hg : Rgs w a F.gs) :
    Calls Try.prog 54 #[.int .i64 x, .pointer (some ⟨b0, 0, none⟩), .pointer (some ⟨b2, 0, none⟩)] w (RetB (F.agreeW x) w) := by
  have hgl : F.gs.length ≤ 6 := by rw [F.gs_len]; exact F.rl_in hok
  have H1 := Lib.hid (fun w1 (k : Keeps w w1) => without_any a cap F.gs x w1 (hg.keep k) hgl hx)
  have H2 := Lib.hid (fun a' cap' w1 hg' hgb' => agree_wo F hok x a' cap' w1 hg' hgb')
  obtain ⟨g0, g1, g2, g3⟩ := hB
  obtain ⟨v, hv⟩ : ∃ v, F.agreeW x = v := ⟨_, rfl⟩
  obtain ⟨n, hn⟩ : ∃ n, F.gs.length = n := ⟨_, rfl⟩
  obtain ⟨L, hL⟩ : ∃ L, wo F.gs x = L := ⟨_, rfl⟩
  rw [hv, hL] at H2
  rw [hv]
  rw [hn, hL] at H1
  rw [hn] at h2
  obtain ⟨wa, wc, ws, lo, hi, ra, rc, rs⟩ := F
  dsimp only at *
  have hlb := lt_of_cell g0
  have hl2 := lt_of_cell h2
  clear hok hg hgl hv hn hL hx
  go_enter Try.func54, Try.ntmps54
  go_wp2_with fail
  have k0 := (Keeps.refl w).drew
  have K0 := Lib.hid k0
  clear k0
  go_region_with (first | (go_at_call 56; refine (H1.out _ K0.out).mono ?_; rintro e w1 ⟨⟨B, cap', rfl, hBl, hBs, hg1⟩, k1⟩; have hc1 := k1.undrew.cells) | (go_at_call 55; refine (H2.out _ _ _ hg1 (fun b o e => by cases e; exact hBs)).mono ?_; rintro e w2 ⟨rfl, k2⟩))
  all_goals
    go_wp2
    go_ret
    exact ⟨rfl, k1.undrew.trans k2⟩

/-- What is in t and not in x. -/
def cm (t x : Nat) : Nat := t ^^^ (t &&& x)
theorem andNot_bits : ∀ t : Nat, t < 64 → ∀ x : Nat, x < 64 → bits BinOp.andNot IntKind.i64 (t : Int) (x : Int) = ((cm t x : Nat) : Int) ∧ cm t x < 64 := by decide +kernel

set_option maxHeartbeats 1600000 in
theorem Clash11_any (F : Fr) (hok : F.ok = true) (b0 b2 b3 x t : Nat) (hx : x < 64) (ht : t < 64) (a : Option Addr) (cap : Nat) (w : World) (hB : F.Box w b0) (h2 : w.cell? ⟨b2, 0, none⟩ = some (.slice a F.gs.length cap)) (h3 : w.cell? ⟨b3, 0, none⟩ = some (.int .i64 t)) (hg : Rgs w a F.gs) :
    Calls Try.prog 64 #[.int .i64 x, .pointer (some ⟨b0, 0, none⟩), .pointer (some ⟨b2, 0, none⟩), .pointer (some ⟨b3, 0, none⟩)] w (RetB (!F.agreeW (cm t x)) w) := by
  have hgl : F.gs.length ≤ 6 := by rw [F.gs_len]; exact F.rl_in hok
  obtain ⟨hy, hylt⟩ := andNot_bits t ht x hx
  obtain ⟨y, hyv⟩ : ∃ y, cm t x = y := ⟨_, rfl⟩
  rw [hyv] at hy hylt ⊢
  have H1 := Lib.hid (fun w1 (k : Keeps w w1) => without_any a cap F.gs y w1 (hg.keep k) hgl hylt)
  have H2 := Lib.hid (fun a' cap' w1 hg' hgb' => agree_wo F hok y a' cap' w1 hg' hgb')
  rw [← hy] at H1
  obtain ⟨g0, g1, g2, g3⟩ := hB
  obtain ⟨v, hv⟩ : ∃ v, F.agreeW y = v := ⟨_, rfl⟩
  obtain ⟨n, hn⟩ : ∃ n, F.gs.length = n := ⟨_, rfl⟩
  obtain ⟨L, hL⟩ : ∃ L, wo F.gs y = L := ⟨_, rfl⟩
  rw [hv, hL] at H2
  rw [hv]
  rw [hn, hL] at H1
  rw [hn] at h2
  obtain ⟨wa, wc, ws, lo, hi, ra, rc, rs⟩ := F
  dsimp only at *
  have hlb := lt_of_cell g0
  have hl2 := lt_of_cell h2
  have hl3 := lt_of_cell h3
  clear hok hg hgl hv hn hL hx ht hy hyv hylt
  go_enter Try.func64, Try.ntmps64
  go_wp2_with fail
  have k0 := (Keeps.refl w).drew
  have K0 := Lib.hid k0
  clear k0
  go_region_with (first | (go_at_call 56; refine (H1.out _ K0.out).mono ?_; rintro e w1 ⟨⟨B, cap', rfl, hBl, hBs, hg1⟩, k1⟩; have hc1 := k1.undrew.cells) | (go_at_call 55; refine (H2.out _ _ _ hg1 (fun b o e => by cases e; exact hBs)).mono ?_; rintro e w2 ⟨rfl, k2⟩))
  all_goals
    go_wp2
    go_ret
    exact ⟨rfl, k1.undrew.trans k2⟩
end Go.Proofs.Ytoidnbpbeblokaa
