/-
  WARM: the inner functions of Next.
-/
import Derived.Test.YtmhpgjlegajpeaaD9
namespace Go.Proofs.Ytmhpgjlegajpeaa
open Go.RowKit Go.Maps

set_option maxHeartbeats 400000 in
theorem Next11_any (b b1 : Nat) (m t : Int) (ps : List Pr) (m1 : 1 ≤ m) (m2 : m ≤ 100) (t1 : -101 ≤ t) (t2 : t ≤ 101) (hl : ps.length ≤ 100) (w : World) (c0 : w.cell? ⟨b1, 0, none⟩ = some (.map (some b))) (hP : Pset w b m ps) :
    Calls Try.prog 82 #[.int .i64 t, .pointer (some ⟨b1, 0, none⟩)] w (RetI (alike m t ps) w) := by
  have H := Lib.hid (mostAlike_any b m t ps m1 m2 t1 t2 hl w hP)
  have hlb := lt_of_cell c0
  obtain ⟨z, hz⟩ : ∃ z : Int, (alike m t ps : Int) = z := ⟨_, rfl⟩
  rw [hz] at H ⊢
  clear hP hz
  go_enter Try.func82, Try.ntmps82
  go_wp2_with fail
  refine H.out.mono ?_
  rintro e w1 ⟨rfl, k1⟩
  go_wp2_with fail
  go_ret
  exact RetI.mk rfl k1
theorem enter_Next11 (args : Array Value) (w : World) : (callFunc 82 args).run Try.prog w = .ok (.enter 82 args) w := enters_of Try.func82 (by kernel_rfl) rfl args w
theorem bestTo_congr {f g : Int → Int} {xs : List Int} (h : ∀ x ∈ xs, f x = g x) : ∀ k, k ≤ xs.length → bestTo f xs k = bestTo g xs k
  | 0, _ => rfl
  | k + 1, hk => by
    have e : f (xs[k]?.getD 0) = g (xs[k]?.getD 0) := h _ (by rw [List.getElem?_eq_getElem (by omega)]; exact List.getElem_mem (by omega))
    rw [bestTo, bestTo, bestTo_congr h k (by omega), e]
theorem truths_len {B : Wm} (hL : B.Lim) : B.truths.length ≤ 100 := Nat.le_trans (List.length_filter_le _ _) (B.all_len hL)
set_option maxHeartbeats 3200000 in
theorem Next1_out (B : Wm) (xs : List Int) (a : Option Addr) (cap : Nat) (b0 b1 : Nat) (w : World) (hB : B.Box w b0) (hI : B.In w) (c0 : w.cell? ⟨b1, 0, none⟩ = some (.slice a xs.length cap)) (hX : Ints w a xs) (hxl : xs.length ≤ maxLen) : Calls Try.prog 79 #[.pointer (some ⟨b0, 0, none⟩), .pointer (some ⟨b1, 0, none⟩)] w (Out (spV (B.nextA xs).1) (B.nextA xs).2 w) := by
  cases hok : B.ok with
  | false =>
    have N1 := Lib.hid (fun w1 (k : Keeps w w1) => needBlock_no B w1 (hI.keep k) hok)
    rw [show B.nextA xs = ((0, 0), 1) from say_arg hok]
    obtain ⟨mark, llo, lhi, clo, chi, ra, rc, rs⟩ := B
    obtain ⟨g0, g1, g2, g3, g4, g5⟩ := hB
    dsimp only [Wm.v] at *
    have hlb := lt_of_cell g0
    have k0 := (Keeps.refl w).alloc (.cells #[.int .i64 0, .int .i64 0] 112)
    clear hI hok hX
    go_enter Try.func79, Try.ntmps79
    go_wp2_with fail
    refine (N1.out _ k0).mono ?_
    rintro e w1 ⟨rfl, k1⟩
    exact ⟨rfl, Out.bad (e := 1) (by decide) ⟨rfl, k0.trans k1⟩⟩
  | true =>
    have N1 := Lib.hid (fun w1 (k : Keeps w w1) => needBlock_yes B w1 (hI.keep k) hok)
    have hL := Wm.ok_lim hok
    by_cases hs : offersE xs = 0
    · have hs1 : xs ≠ [] ∧ xs.length ≤ 6 ∧ xs.all okOffer = true := by
        unfold offersE at hs
        split at hs
        · cases hs
        · split at hs
          · rename_i h1 h2; exact ⟨h2.1, by omega, h2.2⟩
          · cases hs
      have N2 := Lib.hid (fun w1 (k : Keeps w w1) => by have := needOffers_any a cap xs w1 (hX.keep k) hs1.1 hs1.2.1; rw [hs1.2.2, if_pos rfl] at this; exact this)
      cases ht : B.truths.isEmpty with
      | true =>
        have T1 := Lib.hid (fun w1 (k : Keeps w w1) => truths_b B w1 (hI.keep k) hok true ht)
        rw [show B.nextA xs = ((0, 0), 10) from by unfold Wm.nextA; rw [hs]; exact say_none hok ht]
        obtain ⟨mark, llo, lhi, clo, chi, ra, rc, rs⟩ := B
        obtain ⟨g0, g1, g2, g3, g4, g5⟩ := hB
        dsimp only [Wm.v] at *
        have hlb := lt_of_cell g0
        simp only [if_true] at T1
        have k0 := (Keeps.refl w).alloc (.cells #[.int .i64 0, .int .i64 0] 112)
        clear hI hok hL hs hs1 ht hX
        go_enter Try.func79, Try.ntmps79
        go_wp2_with fail
        refine (N1.out _ k0).mono ?_
        rintro e w1 ⟨rfl, k1⟩
        have k2 := k0.trans k1
        have e0 := k2.cell g0
        have e1 := k2.cell g1
        have e2 := k2.cell g2
        have e3 := k2.cell g3
        have e4 := k2.cell g4
        have e5 := k2.cell g5
        have hle := lt_of_cell e0
        have d0 := k2.cell c0
        have hld := lt_of_cell d0
        go_wp2_with fail
        refine (N2.out _ k2).mono ?_
        rintro e w2 ⟨rfl, k3⟩
        have k4 := k2.trans k3
        replace e0 := k4.cell g0
        replace e1 := k4.cell g1
        replace e2 := k4.cell g2
        replace e3 := k4.cell g3
        replace e4 := k4.cell g4
        replace e5 := k4.cell g5
        replace hle := lt_of_cell e0
        have q0 := k4.cell c0
        have lq0 := lt_of_cell q0
        go_wp2_with fail
        refine (T1.out _ k4).mono ?_
        rintro e w3 ⟨rfl, k5⟩
        exact ⟨rfl, Out.bad (e := 10) (by decide) ⟨rfl, k4.trans k5⟩⟩
      | false =>
        have T1 := Lib.hid (fun w1 (k : Keeps w w1) => truths_b B w1 (hI.keep k) hok false ht)
        rw [show B.nextA xs = (bestOf (fun t => (alike B.mark t B.truths : Int)) xs, 0) from by unfold Wm.nextA; rw [hs]; exact say_yes hok ht]
        have hm1 := hL.m1
        have hm2 := hL.m2
        have hlen := truths_len hL
        obtain ⟨ts, hts⟩ : ∃ ts, B.truths = ts := ⟨_, rfl⟩
        rw [hts] at T1 hlen ⊢
        have hoff : ∀ x ∈ xs, -101 ≤ x ∧ x ≤ 101 := fun x hx => by
          have := List.all_eq_true.1 hs1.2.2 x hx
          simp only [okOffer, decide_eq_true_eq] at this
          omega
        have R1 := Lib.hid (fun b b3 w1 (k : Keeps w w1) (c : w1.cell? ⟨b3, 0, none⟩ = some (.map (some b))) (hP : Pset w1 b B.mark ts) => best_any a cap xs 82 #[.pointer (some ⟨b3, 0, none⟩)] (fun t => (alike B.mark t ts : Int)) w1 (hX.keep k) hs1.2.1 enter_Next11
          (fun x w2 hx k2 => Next11_any b b3 B.mark x ts hm1 hm2 (hoff x hx).1 (hoff x hx).2 hlen w2 (k2.cell c) (hP.keep k2)))
        obtain ⟨⟨lo, hi⟩, hbo⟩ : ∃ r, bestOf (fun t => (alike B.mark t ts : Int)) xs = r := ⟨_, rfl⟩
        rw [hbo] at R1 ⊢
        dsimp only at R1
        obtain ⟨mark, llo, lhi, clo, chi, ra, rc, rs⟩ := B
        obtain ⟨g0, g1, g2, g3, g4, g5⟩ := hB
        dsimp only [Wm.v] at *
        have hlb := lt_of_cell g0
        simp only [Bool.false_eq_true, if_false] at T1
        have k0 := (Keeps.refl w).alloc (.cells #[.int .i64 0, .int .i64 0] 112)
        clear hI hok hL hs hs1 ht hts hbo hm1 hm2 hX hoff hlen
        have hmf : ∀ (fn : Fn) (first cap : Array Value) (w : World), (Instr.makeFunc fn first cap).run Try.prog w = .ok (.func fn first cap) w := fun _ _ _ _ => rfl
        go_enter Try.func79, Try.ntmps79
        go_wp2_with fail
        refine (N1.out _ k0).mono ?_
        rintro e w1 ⟨rfl, k1⟩
        have k2 := k0.trans k1
        have e0 := k2.cell g0
        have e1 := k2.cell g1
        have e2 := k2.cell g2
        have e3 := k2.cell g3
        have e4 := k2.cell g4
        have e5 := k2.cell g5
        have hle := lt_of_cell e0
        have d0 := k2.cell c0
        have hld := lt_of_cell d0
        go_wp2_with fail
        refine (N2.out _ k2).mono ?_
        rintro e w2 ⟨rfl, k3⟩
        have k4 := k2.trans k3
        replace e0 := k4.cell g0
        replace e1 := k4.cell g1
        replace e2 := k4.cell g2
        replace e3 := k4.cell g3
        replace e4 := k4.cell g4
        replace e5 := k4.cell g5
        replace hle := lt_of_cell e0
        have q0 := k4.cell c0
        have lq0 := lt_of_cell q0
        go_wp2_with fail
        refine (T1.out _ k4).mono ?_
        rintro e w3 ⟨b, rfl, hP, k5, _⟩
        have k6 := k4.trans k5
        have r0 := k6.cell c0
        have hlr := lt_of_cell r0
        have ka := (Keeps.refl w3).alloc (.cells #[.map (some b)] 80)
        have r1 := ka.cell r0
        have R2 := Lib.hid (R1.out b w3.heap.size _ (k6.trans ka) (by simp [go_sem]) (hP.keep ka))
        go_wp2_with fail
        refine R2.out.mono ?_
        rintro e w9 ⟨rfl, k7⟩
        have kk := (k1.trans (k3.trans k5)).trans (ka.trans k7)
        have s0 : w9.cell? ⟨w.heap.size, 0, none⟩ = some (.int .i64 0) := kk.cell (by simp [go_sem])
        have s1 : w9.cell? ⟨w.heap.size, 1, none⟩ = some (.int .i64 0) := kk.cell (by simp [go_sem])
        have f0 : w9.frozen? ⟨w.heap.size, 0, none⟩ = false := by rw [kk.cells.2 _ _ (by simp)]; simp [go_sem]
        have f1 : w9.frozen? ⟨w.heap.size, 1, none⟩ = false := by rw [kk.cells.2 _ _ (by simp)]; simp [go_sem]
        have hls := lt_of_cell s0
        have h2 := (TwoI.set0 ⟨s0, s1, f0, f1⟩ lo).set1 hi
        go_wp2_with fail
        refine bodyPost_ret (v := spV (lo, hi)) ?_ rfl (Out.ok ⟨rfl, ((k0.trans kk).setCell (p := ⟨w.heap.size, 0, none⟩) _ (Nat.le_refl _)).setCell (p := ⟨w.heap.size, 1, none⟩) _ (Nat.le_refl _)⟩)
        simp [results, Try.results79, go_sem, h2.c0, h2.c1, spV]
    · rw [show B.nextA xs = ((0, 0), offersE xs) from say_bad hok hs]
      have N2 : ∀ w1, Keeps w w1 → Calls Try.prog 80 #[.slice a xs.length cap] w1 (Pan (offersE xs) w1) := by
        intro w1 k
        unfold offersE
        by_cases h6 : 6 < xs.length
        · rw [if_pos h6]; exact needOffers_long a cap xs w1 h6 hxl
        · rw [if_neg h6]
          by_cases hn : xs = []
          · subst hn; rw [if_neg (by simp)]; exact needOffers_none a cap w1
          · have := needOffers_any a cap xs w1 (hX.keep k) hn (by omega)
            by_cases ha : xs.all okOffer = true
            · exact absurd (by unfold offersE; rw [if_neg h6, if_pos ⟨hn, ha⟩]) hs
            · rw [if_neg ha] at this
              rw [if_neg (fun h => ha h.2)]
              exact this
      have N2 := Lib.hid N2
      obtain ⟨er, her⟩ : ∃ e, offersE xs = e := ⟨_, rfl⟩
      rw [her] at N2 hs ⊢
      have HS := Lib.hid hs
      obtain ⟨mark, llo, lhi, clo, chi, ra, rc, rs⟩ := B
      obtain ⟨g0, g1, g2, g3, g4, g5⟩ := hB
      dsimp only [Wm.v] at *
      have hlb := lt_of_cell g0
      have k0 := (Keeps.refl w).alloc (.cells #[.int .i64 0, .int .i64 0] 112)
      clear hI hok hL hs her hX
      go_enter Try.func79, Try.ntmps79
      go_wp2_with fail
      refine (N1.out _ k0).mono ?_
      rintro e w1 ⟨rfl, k1⟩
      have k2 := k0.trans k1
      have e0 := k2.cell g0
      have e1 := k2.cell g1
      have e2 := k2.cell g2
      have e3 := k2.cell g3
      have e4 := k2.cell g4
      have e5 := k2.cell g5
      have hle := lt_of_cell e0
      have d0 := k2.cell c0
      have hld := lt_of_cell d0
      go_wp2_with fail
      refine (N2.out _ k2).mono ?_
      rintro e w2 ⟨rfl, k3⟩
      exact ⟨rfl, Out.bad HS.out ⟨rfl, k2.trans k3⟩⟩
end Go.Proofs.Ytmhpgjlegajpeaa
