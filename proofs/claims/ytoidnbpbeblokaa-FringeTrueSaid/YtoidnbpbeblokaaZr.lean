/-
  FringeWhole, walked.
  FringeLengths, its numbers: the nearest length is one of all, and none is nearer; a reading is right of a length by its part; lengths are in spans.
-/
import Derived.Test.YtoidnbpbeblokaaZn
import Derived.Test.YtoidnbpbeblokaaZq
import Derived.Test.YtoidnbpbeblokaaWq
namespace Go.Proofs.Ytoidnbpbeblokaa
open Go.RowKit Go.Shelf

theorem Whole_at (F : Fr) (c : Int) (w : World) (hI : F.In w) : Calls Try.prog 25 #[F.v, .int .i64 c] w fun e w' => ∃ a cap, e = .returned (.tuple #[.slice a (whoL F c).length cap, .int .i64 (colE F c)]) ∧ Ints w' a (whoL F c) ∧ Keeps w w' := by
  refine (Whole_any F c w hI).mono ?_
  rintro e w' ⟨v, k, rfl, ⟨rfl, hs⟩, hk⟩
  obtain ⟨a, cap, rfl, hs, _⟩ := hs
  exact ⟨a, cap, rfl, hs, hk⟩
theorem Lengths_at (F : Fr) (w : World) (hI : F.In w) : Calls Try.prog 27 #[F.v] w fun e w' => ∃ a cap, e = .returned (.tuple #[.slice a (lenL F).length cap, .int .i64 (lenE F)]) ∧ Sps w' a (lenL F) ∧ Keeps w w' := by
  refine (Lengths_any F w hI).mono ?_
  rintro e w' ⟨v, k, rfl, ⟨rfl, hs⟩, hk⟩
  obtain ⟨a, cap, rfl, hs⟩ := hs
  exact ⟨a, cap, rfl, hs, hk⟩

theorem span_in (F : Fr) (hok : F.ok = true) {i : Nat} (hi : i < (spansOf F.truths).length) : 0 ≤ ((spansOf F.truths)[i]?.getD (0, 0)).1 ∧ ((spansOf F.truths)[i]?.getD (0, 0)).1 ≤ ((spansOf F.truths)[i]?.getD (0, 0)).2 ∧ ((spansOf F.truths)[i]?.getD (0, 0)).2 ≤ 2000 ∧ ((spansOf F.truths)[i]?.getD (0, 0)).2 - ((spansOf F.truths)[i]?.getD (0, 0)).1 ≤ 400 := by
  obtain ⟨h1, ⟨_, h3⟩, _⟩ := spansOf_facts F.truths (truths_sorted F)
  have hm := List.getElem_mem hi
  have h4 := h3 _ hm
  have hin : ∀ n, n ∈ spanL (spansOf F.truths)[i] → F.lo ≤ n ∧ n ≤ F.hi := by
    intro n hn
    have : n ∈ flat (spansOf F.truths) := List.mem_flatMap.2 ⟨_, hm, hn⟩
    rw [h1] at this
    obtain ⟨t, ht, rfl⟩ := List.mem_map.1 this
    have := (mem_truths hok).1 ht
    exact ⟨this.1, this.2.1⟩
  have a := hin _ (mem_spanL.2 ⟨Int.le_refl _, h4⟩)
  have b := hin _ (mem_spanL.2 ⟨h4, Int.le_refl _⟩)
  obtain ⟨l1, l2, l3, l4⟩ := F.len_in hok
  rw [List.getElem?_eq_getElem hi, Option.getD_some]
  omega
theorem flat_take {L : List Sp} {k : Nat} (hk : k < L.length) : flat (L.take (k + 1)) = flat (L.take k) ++ spanL (L[k]?.getD (0, 0)) := by
  rw [List.take_succ_eq_append_getElem hk, flat_append, List.getElem?_eq_getElem hk]
  simp [flat]
theorem spanL_none (x : Int) : spanL (x, x - 1) = [] := by
  simp [spanL]
theorem spanL_len (s : Sp) : (spanL s).length = (s.2 + 1 - s.1).toNat := by simp [spanL]
theorem pre_len {L : List Sp} {k : Nat} {p q m : Int} (hk : k < L.length) (hs : L[k]?.getD (0, 0) = (p, q)) (hm : m ≤ q + 1) : (flat (L.take k) ++ spanL (p, m - 1)).length ≤ (flat L).length := by
  have h := flat_take hk
  have h2 : flat L = flat (L.take (k + 1)) ++ flat (L.drop (k + 1)) := by rw [← flat_append, List.take_append_drop]
  rw [h2, h, hs, List.length_append, List.length_append, List.length_append, spanL_len, spanL_len]
  dsimp only
  omega
/-- The whole fringes and the set of the parts, with a number more. -/
theorem cd_more (x : Int) (pre : List Int) {p m : Int} (h : p ≤ m) : cdup ((pre ++ spanL (p, m + 1 - 1)).map (· / x)) = cdStep (cdup ((pre ++ spanL (p, m - 1)).map (· / x))) (m / x) := by
  rw [show m + 1 - 1 = m by omega, spanL_more h, ← List.append_assoc, List.map_append (l₁ := pre ++ spanL (p, m - 1)), List.map_cons, List.map_nil, cdup_snoc]
theorem ps_more (x : Int) (pre : List Int) {p m : Int} (h : p ≤ m) : psOf x (pre ++ spanL (p, m + 1 - 1)) = psOf x (pre ++ spanL (p, m - 1)) ||| 2 ^ (20 * (m % x) / x).toNat := by
  rw [show m + 1 - 1 = m by omega, spanL_more h, ← List.append_assoc, psOf_snoc]
/-- Block b holds a span. -/
def TwoBox (W : World) (b : Nat) (x y : Int) : Prop := W.heap[b]? = some (.cells #[.int .i64 x, .int .i64 y] 24 (0, 0))
theorem TwoBox.lt {W : World} {b : Nat} {x y : Int} (h : TwoBox W b x y) : b < W.heap.size := (Array.getElem?_eq_some_iff.1 h).1
theorem TwoBox.c0 {W : World} {b : Nat} {x y : Int} (h : TwoBox W b x y) : W.cell? ⟨b, 0, none⟩ = some (.int .i64 x) := by simp [World.cell?, show W.heap[b]? = _ from h]
theorem TwoBox.c1 {W : World} {b : Nat} {x y : Int} (h : TwoBox W b x y) : W.cell? ⟨b, 1, none⟩ = some (.int .i64 y) := by simp [World.cell?, show W.heap[b]? = _ from h]
theorem TwoBox.new (W : World) (x y : Int) : TwoBox (W.alloc (.cells #[.int .i64 x, .int .i64 y] 24)) W.heap.size x y := World.alloc_heap_new W _
theorem TwoBox.keep {W W' : World} {b : Nat} {x y : Int} (h : TwoBox W b x y) (k : Keeps W W') : TwoBox W' b x y := (k.heap h.lt).trans h
theorem TwoBox.kept {W W' : World} {row : Option Nat} {b : Nat} {x y : Int} (h : TwoBox W b x y) (hg : W.grownBy W' row) (hne : some b ≠ row) : TwoBox W' b x y := (hg.block b h.lt hne).trans h
theorem TwoBox.alloc {W : World} {b : Nat} {x y : Int} (h : TwoBox W b x y) (o : Obj) : TwoBox (W.alloc o) b x y := h.kept (World.grownBy_alloc W o none) (by simp)
theorem ints_of_owns {w : World} {base : Nat} {v : Value} {xs : List Int} (h : w.ownsRow base 3 1 v xs.length (xs.map (Value.int .i64))) : ∃ a cap, v = .slice a xs.length cap ∧ Ints w a xs := by
  rcases own_cases h with rfl | ⟨g, cap, rfl⟩
  · rcases h.2 with ⟨_, h0⟩ | ⟨g, cap, cur, h1, _⟩
    · obtain rfl : xs = [] := List.length_eq_zero_iff.1 h0
      exact ⟨none, 0, rfl, fun h => absurd rfl h⟩
    · cases h1
  · refine ⟨some ⟨g, 0, none⟩, cap, rfl, fun _ => ⟨g, 0, rfl, fun i hi => ?_⟩⟩
    rw [Nat.zero_add, h.cellAt i (by omega)]
    simp [List.getElem?_eq_getElem hi]
theorem TwoBox.not_row {W : World} {b : Nat} {x y : Int} (h : TwoBox W b x y) {base size k : Nat} {v : Value} {xs : List Value} (hr : W.ownsRow base 3 size v k xs) : some b ≠ v.ownBlock := by
  rcases hr.2 with ⟨rfl, _⟩ | ⟨g, cap, cur, rfl, _, hgb, _⟩
  · simp [Value.ownBlock]
  · intro e'
    obtain rfl : b = g := by simpa [Value.ownBlock] using e'
    have := (show W.heap[b]? = _ from h).symm.trans hgb
    simp at this
set_option maxRecDepth 100000 in
set_option maxHeartbeats 1600000 in
theorem whole_long (F : Fr) (wh : Int) (w : World) (hI : F.In w) (h : F.long = true) : Calls Try.prog 8 #[F.v, .int .u8 wh] w (RetB true w) := by
  have AL := Lib.hid alive_any
  have LG := Lib.hid (fun w1 => long_any F w1 hI.wl hI.rl)
  rw [h] at LG
  obtain ⟨wa, wc, ws, lo, hi, ra, rc, rs⟩ := F
  dsimp only [Fr.v] at *
  clear h hI
  go_enter Try.func8, Try.ntmps8
  go_wp2_with fail
  refine (LG.out _).mono ?_
  rintro e w1 ⟨rfl, k1⟩
  go_wp2_with fail
  refine (AL.out _).mono ?_
  rintro e w2 ⟨rfl, k2⟩
  go_wp2_with fail
  go_ret
  exact ⟨rfl, (((Keeps.refl w).alloc _).trans k1).trans k2⟩
set_option maxRecDepth 100000 in
set_option maxHeartbeats 1600000 in
theorem whole_bad (F : Fr) (wh : Int) (w : World) (hI : F.In w) (h : F.long = false) (hok : F.ok = false) : Calls Try.prog 8 #[F.v, .int .u8 wh] w (RetB true w) := by
  have AL := Lib.hid alive_any
  have LG := Lib.hid (fun w1 => long_any F w1 hI.wl hI.rl)
  have RF := Lib.hid (fun w1 (k : Keeps w w1) => refFringe_any F w1 (hI.keep k))
  rw [h] at LG
  rw [hok] at RF
  obtain ⟨wa, wc, ws, lo, hi, ra, rc, rs⟩ := F
  dsimp only [Fr.v] at *
  clear h hI hok
  go_enter Try.func8, Try.ntmps8
  go_wp2_with fail
  have k := (Keeps.refl w).alloc (.cells #[.slice wa ws.length wc, .int .i64 lo, .int .i64 hi, .slice ra rs.length rc] 27)
  have hB := Fr.Box.new ⟨wa, wc, ws, lo, hi, ra, rc, rs⟩ w
  refine (LG.out _).mono ?_
  rintro e w1 ⟨rfl, k1⟩
  replace hB := hB.keep k1
  replace k := k.trans k1
  clear k1
  obtain ⟨g0, g1, g2, g3⟩ := hB
  dsimp only at g0 g1 g2 g3
  go_wp2_with fail
  refine (RF.out _ k).mono ?_
  rintro e w3 ⟨rfl, k1⟩
  replace k := k.trans k1
  clear k1
  go_wp2_with fail
  refine (AL.out _).mono ?_
  rintro e w5 ⟨rfl, k1⟩
  go_wp2_with fail
  go_ret
  exact ⟨rfl, k.trans k1⟩
set_option maxRecDepth 100000 in
set_option maxHeartbeats 40000000 in
theorem whole_none (F : Fr) (wh : Int) (w : World) (hI : F.In w) (hok : F.ok = true) (b0 : 0 ≤ wh) (b1 : wh ≤ 255) (ht : F.truths = []) : Calls Try.prog 8 #[F.v, .int .u8 wh] w (RetB true w) := by
  have AL := Lib.hid alive_any
  have LG := Lib.hid (fun w1 => long_any F w1 hI.wl hI.rl)
  rw [F.short hok] at LG
  have hwl := F.wl_in hok
  obtain ⟨hw1, hw4⟩ : 1 ≤ F.ws.length ∧ F.ws.length ≤ 4 := by
    simp only [Fr.ok, vFringe, vWaves, Bool.and_eq_true, decide_eq_true_eq] at hok
    exact hok.1.1.1
  obtain ⟨c, hc⟩ : ∃ c : Nat, wh % (F.ws.length : Int) = c := Int.eq_ofNat_of_zero_le (Int.emod_nonneg _ (by omega))
  have hcl : c < F.ws.length := by have := Int.emod_lt_of_pos wh (show (0 : Int) < F.ws.length by omega); omega
  have RF := Lib.hid (fun w1 (k : Keeps w w1) => refFringe_any F w1 (hI.keep k))
  rw [hok] at RF
  have WH := Lib.hid (fun w1 (k : Keeps w w1) => Whole_at F c w1 (hI.keep k))
  have PT := Lib.hid (fun w1 (k : Keeps w w1) => Parts_any F c w1 (hI.keep k))
  have LE := Lib.hid (fun w1 (k : Keeps w w1) => Lengths_at F w1 (hI.keep k))
  have WX := Lib.hid (fun w1 (k : Keeps w w1) => Whole_at F F.ws.length w1 (hI.keep k))
  have PX := Lib.hid (fun w1 (k : Keeps w w1) => Parts_any F (-1) w1 (hI.keep k))
  have x2 : colE F F.ws.length = 2 := colE_2 hok (by omega)
  have x3 : colE F (-1) = 2 := colE_2 hok (by omega)
  rw [x2, show whoL F F.ws.length = [] by rw [whoL, x2]; rfl] at WX
  rw [x3, show parS F (-1) = 0 by rw [parS, x3]; rfl] at PX
  have x1 : colE F c = 10 := colE_10 hok (by omega) ht
  rw [x1, show whoL F c = [] by rw [whoL, x1]; rfl] at WH
  rw [x1, show parS F c = 0 by rw [parS, x1]; rfl] at PT
  rw [show lenE F = 10 by simp [lenE, hok, ht], show lenL F = [] by simp [lenL, ht]] at LE
  obtain ⟨wa, wc, ws, lo, hi, ra, rc, rs⟩ := F
  dsimp only [Fr.v] at *
  have hne : ¬ ((ws.length : Int) = 0) := by omega
  clear hI hok ht hwl x1 x2 x3
  go_enter Try.func8, Try.ntmps8
  go_wp2_with fail
  have k := (Keeps.refl w).alloc (.cells #[.slice wa ws.length wc, .int .i64 lo, .int .i64 hi, .slice ra rs.length rc] 27)
  have hB := Fr.Box.new ⟨wa, wc, ws, lo, hi, ra, rc, rs⟩ w
  refine (LG.out _).mono ?_
  rintro e w1 ⟨rfl, k1⟩
  replace hB := hB.keep k1
  replace k := k.trans k1
  clear k1
  obtain ⟨g0, g1, g2, g3⟩ := hB
  dsimp only at g0 g1 g2 g3
  go_wp2_with fail
  refine (RF.out _ k).mono ?_
  rintro e w2 ⟨rfl, k1⟩
  replace g0 := k1.cell g0
  replace g1 := k1.cell g1
  replace g2 := k1.cell g2
  replace g3 := k1.cell g3
  replace k := k.trans k1
  clear k1
  go_wp2_with fail
  rw [hc]
  clear hc
  refine (WH.out _ k).mono ?_
  rintro e w3 ⟨ah, ch, rfl, hH, k1⟩
  replace g0 := k1.cell g0
  replace g1 := k1.cell g1
  replace g2 := k1.cell g2
  replace g3 := k1.cell g3
  replace k := k.trans k1
  clear k1
  have HH := Lib.hid (fun w' (kk : Keeps w3 w') => hH.keep kk)
  have kH := Keeps.refl w3
  clear hH
  go_wp2_with fail
  refine (PT.out _ k).mono ?_
  rintro e w4 ⟨rfl, k1⟩
  replace kH := kH.trans k1
  replace g0 := k1.cell g0
  replace g1 := k1.cell g1
  replace g2 := k1.cell g2
  replace g3 := k1.cell g3
  replace k := k.trans k1
  clear k1
  go_wp2_with fail
  refine (LE.out _ k).mono ?_
  rintro e w5 ⟨al, cl, rfl, hL, k1⟩
  replace kH := kH.trans k1
  replace g0 := k1.cell g0
  replace g1 := k1.cell g1
  replace g2 := k1.cell g2
  replace g3 := k1.cell g3
  replace k := k.trans k1
  clear k1
  have HL := Lib.hid (fun w' (kk : Keeps w5 w') => hL.keep kk)
  have kL := Keeps.refl w5
  clear hL
  go_wp2_with fail
  refine (WX.out _ k).mono ?_
  rintro e w6 ⟨a6, c6, rfl, _, k1⟩
  replace kH := kH.trans k1
  replace kL := kL.trans k1
  replace g0 := k1.cell g0
  replace g1 := k1.cell g1
  replace g2 := k1.cell g2
  replace g3 := k1.cell g3
  replace k := k.trans k1
  clear k1
  go_wp2_with fail
  refine (PX.out _ k).mono ?_
  rintro e w7 ⟨rfl, k1⟩
  replace kH := kH.trans k1
  replace kL := kL.trans k1
  replace g0 := k1.cell g0
  replace g1 := k1.cell g1
  replace g2 := k1.cell g2
  replace g3 := k1.cell g3
  replace k := k.trans k1
  clear k1
  clear WH PT LE WX PX RF LG
  go_wp2_with fail
  refine (AL.out _).mono ?_
  rintro e w8 ⟨rfl, k1⟩
  go_wp2_with fail
  go_ret
  exact ⟨rfl, k.trans k1⟩
set_option maxRecDepth 100000 in
set_option maxHeartbeats 40000000 in
theorem whole_some (F : Fr) (wh : Int) (w : World) (hI : F.In w) (hok : F.ok = true) (b0 : 0 ≤ wh) (b1 : wh ≤ 255) (ht : F.truths ≠ []) : Calls Try.prog 8 #[F.v, .int .u8 wh] w (RetB true w) := by
  have AL := Lib.hid alive_any
  have LG := Lib.hid (fun w1 => long_any F w1 hI.wl hI.rl)
  rw [F.short hok] at LG
  have hwl := F.wl_in hok
  obtain ⟨hw1, hw4⟩ : 1 ≤ F.ws.length ∧ F.ws.length ≤ 4 := by
    simp only [Fr.ok, vFringe, vWaves, Bool.and_eq_true, decide_eq_true_eq] at hok
    exact hok.1.1.1
  obtain ⟨c, hc⟩ : ∃ c : Nat, wh % (F.ws.length : Int) = c := Int.eq_ofNat_of_zero_le (Int.emod_nonneg _ (by omega))
  have hcl : c < F.ws.length := by have := Int.emod_lt_of_pos wh (show (0 : Int) < F.ws.length by omega); omega
  have RF := Lib.hid (fun w1 (k : Keeps w w1) => refFringe_any F w1 (hI.keep k))
  rw [hok] at RF
  have WH := Lib.hid (fun w1 (k : Keeps w w1) => Whole_at F c w1 (hI.keep k))
  have PT := Lib.hid (fun w1 (k : Keeps w w1) => Parts_any F c w1 (hI.keep k))
  have LE := Lib.hid (fun w1 (k : Keeps w w1) => Lengths_at F w1 (hI.keep k))
  have WX := Lib.hid (fun w1 (k : Keeps w w1) => Whole_at F F.ws.length w1 (hI.keep k))
  have PX := Lib.hid (fun w1 (k : Keeps w w1) => Parts_any F (-1) w1 (hI.keep k))
  have x2 : colE F F.ws.length = 2 := colE_2 hok (by omega)
  have x3 : colE F (-1) = 2 := colE_2 hok (by omega)
  rw [x2, show whoL F F.ws.length = [] by rw [whoL, x2]; rfl] at WX
  rw [x3, show parS F (-1) = 0 by rw [parS, x3]; rfl] at PX
  have x1 : colE F c = 0 := colE_0 hok (by omega) ht
  obtain ⟨x, hx⟩ : ∃ x, F.ws[c]?.getD 0 = x := ⟨_, rfl⟩
  have hx1 := F.wave_in hok hcl
  rw [hx] at hx1
  have hlen := F.truths_len hok
  have hsf := spansOf_facts F.truths (truths_sorted F)
  have hwe := whs_eq (x := x) (by omega) F.truths (truths_sorted F)
  have hpe := parts_eq x F.truths
  have hsl := spansOf_len F.truths
  rw [x1, show whoL F c = whs x F.truths by rw [whoL, x1, Int.toNat_natCast, hx]; rfl, hwe] at WH
  rw [x1, show parS F c = partSet (frs x F.truths) by rw [parS, x1, Int.toNat_natCast, hx]; rfl, hpe] at PT
  rw [show lenE F = 0 by simp [lenE, hok, ht], show lenL F = spansOf F.truths by simp [lenL, hok, ht]] at LE
  have SB := Lib.hid (fun i (hi : i < (spansOf F.truths).length) => span_in F hok hi)
  have P1 := Lib.hid (fun (m : Nat) (hm : m ≤ 2000) w1 (k : Keeps w w1) => Part_at F hok (n := (m : Int)) hcl hx (by omega) (by omega) w1 (hI.keep k))
  obtain ⟨L, hL0⟩ : ∃ L, spansOf F.truths = L := ⟨_, rfl⟩
  rw [hL0] at hsf hsl SB LE
  have hflat := hsf.1
  have hfl : (flat L).length ≤ 401 := by rw [hflat]; simpa using hlen
  have PSL := Lib.hid (fun ns => psOf_lt (x := x) (by omega) ns)
  obtain ⟨i0, hii, hz0, hz1, hz2⟩ := info_parts info_int
  have hmm : (F.truths.map fun t => ((t.val : Nat) : Int) / x) = (flat L).map (· / x) := by rw [hflat, List.map_map]; rfl
  rw [hmm] at WH
  rw [← hflat] at PT
  obtain ⟨wa, wc, ws, lo, hi, ra, rc, rs⟩ := F
  dsimp only [Fr.v] at *
  have hne : ¬ ((ws.length : Int) = 0) := by omega
  clear hI hok ht hwl x1 x2 x3 hsf hwe hpe hx hL0 hflat hmm
  go_enter Try.func8, Try.ntmps8
  go_wp2_with fail
  have k := (Keeps.refl w).alloc (.cells #[.slice wa ws.length wc, .int .i64 lo, .int .i64 hi, .slice ra rs.length rc] 27)
  have hB := Fr.Box.new ⟨wa, wc, ws, lo, hi, ra, rc, rs⟩ w
  refine (LG.out _).mono ?_
  rintro e w1 ⟨rfl, k1⟩
  replace hB := hB.keep k1
  replace k := k.trans k1
  clear k1
  obtain ⟨g0, g1, g2, g3⟩ := hB
  dsimp only at g0 g1 g2 g3
  go_wp2_with fail
  refine (RF.out _ k).mono ?_
  rintro e w2 ⟨rfl, k1⟩
  replace g0 := k1.cell g0
  replace g1 := k1.cell g1
  replace g2 := k1.cell g2
  replace g3 := k1.cell g3
  replace k := k.trans k1
  clear k1
  go_wp2_with fail
  rw [hc]
  clear hc
  refine (WH.out _ k).mono ?_
  rintro e w3 ⟨ah, ch, rfl, hH, k1⟩
  replace g0 := k1.cell g0
  replace g1 := k1.cell g1
  replace g2 := k1.cell g2
  replace g3 := k1.cell g3
  replace k := k.trans k1
  clear k1
  have HH := Lib.hid (fun w' (kk : Keeps w3 w') => hH.keep kk)
  have kH := Keeps.refl w3
  clear hH
  go_wp2_with fail
  refine (PT.out _ k).mono ?_
  rintro e w4 ⟨rfl, k1⟩
  replace kH := kH.trans k1
  replace g0 := k1.cell g0
  replace g1 := k1.cell g1
  replace g2 := k1.cell g2
  replace g3 := k1.cell g3
  replace k := k.trans k1
  clear k1
  go_wp2_with fail
  refine (LE.out _ k).mono ?_
  rintro e w5 ⟨al, cl, rfl, hL, k1⟩
  replace kH := kH.trans k1
  replace g0 := k1.cell g0
  replace g1 := k1.cell g1
  replace g2 := k1.cell g2
  replace g3 := k1.cell g3
  replace k := k.trans k1
  clear k1
  have HL := Lib.hid (fun w' (kk : Keeps w5 w') => hL.keep kk)
  have kL := Keeps.refl w5
  clear hL
  go_wp2_with fail
  refine (WX.out _ k).mono ?_
  rintro e w6 ⟨a6, c6, rfl, _, k1⟩
  replace kH := kH.trans k1
  replace kL := kL.trans k1
  replace g0 := k1.cell g0
  replace g1 := k1.cell g1
  replace g2 := k1.cell g2
  replace g3 := k1.cell g3
  replace k := k.trans k1
  clear k1
  go_wp2_with fail
  refine (PX.out _ k).mono ?_
  rintro e w7 ⟨rfl, k1⟩
  replace kH := kH.trans k1
  replace kL := kL.trans k1
  replace g0 := k1.cell g0
  replace g1 := k1.cell g1
  replace g2 := k1.cell g2
  replace g3 := k1.cell g3
  replace k := k.trans k1
  clear k1
  clear WH PT LE WX PX RF LG
  go_wp2_with fail
  obtain ⟨wB, rfl⟩ : ∃ wB : World, wB = w7 := ⟨_, rfl⟩
  go_loopw [16, 17, 103] (fun u s i wr => ∃ k : Nat, k ≤ L.length ∧ i = .int .i64 k ∧ wr.ownsRow wB.heap.size 3 1 u (cdup ((flat (L.take k)).map (· / x))).length ((cdup ((flat (L.take k)).map (· / x))).map (Value.int .i64)) ∧ s = .int .i64 (psOf x (flat (L.take k))) ∧ Keeps wB wr) (fun _ _ i _ => L.length - (intOf i).toNat)
  case atStart => exact ⟨0, Nat.zero_le _, rfl, World.ownsRow_nil _ _ _ _, rfl, Keeps.refl _⟩
  case round =>
    obtain ⟨j, hj, rfl, hown, rfl, hkp⟩ := hrel
    by_cases hlt : j < L.length
    · obtain ⟨bl, ol, e', hcs⟩ := HL.out _ (kL.trans hkp) (by intro e; rw [e] at hlt; simp at hlt)
      subst e'
      obtain ⟨h1, h2⟩ := hcs j hlt
      have hsb := SB.out j hlt
      have hft := flat_take hlt
      obtain ⟨⟨p, q⟩, hpq⟩ : ∃ s, L[j]?.getD (0, 0) = s := ⟨_, rfl⟩
      have hpl := fun (m : Int) (hm : m ≤ q + 1) => Nat.le_trans (pre_len hlt hpq hm) hfl
      rw [hpq] at h1 h2 hsb hft
      dsimp only at h1 h2 hsb
      obtain ⟨s0, s1, s2, s3⟩ := hsb
      obtain ⟨p, rfl⟩ := Int.eq_ofNat_of_zero_le s0
      obtain ⟨q, rfl⟩ := Int.eq_ofNat_of_zero_le (show 0 ≤ q by omega)
      obtain ⟨pre, hpre⟩ : ∃ pre, flat (L.take j) = pre := ⟨_, rfl⟩
      rw [hpre] at hown hft hpl ⊢
      have HPL := Lib.hid hpl
      have HFT := Lib.hid hft
      have hlb := lt_of_cell h1
      clear hcs hpq hpl hft hpre
      have hs3 : ¬ (400 < (q : Int) - (p : Int)) := by omega
      obtain ⟨wo, rfl⟩ : ∃ wo : World, wo = wr := ⟨_, rfl⟩
      have Hown := Lib.hid hown
      clear hown
      go_wp2_with fail
      go_loopw [16, 17, 20] (fun u s i wr => ∃ m : Nat, p ≤ m ∧ m ≤ q + 1 ∧ i = .int .i64 m ∧ wr.ownsRow wB.heap.size 3 1 u (cdup ((pre ++ spanL ((p : Int), (m : Int) - 1)).map (· / x))).length ((cdup ((pre ++ spanL ((p : Int), (m : Int) - 1)).map (· / x))).map (Value.int .i64)) ∧ s = .int .i64 (psOf x (pre ++ spanL ((p : Int), (m : Int) - 1))) ∧ TwoBox wr wo.heap.size p q ∧ Keeps wB wr) (fun _ _ i _ => q + 1 - (intOf i).toNat)
      case atStart => exact ⟨p, Nat.le_refl _, by omega, rfl, by rw [spanL_none, List.append_nil]; exact Hown.out.alloc _, by rw [spanL_none, List.append_nil], TwoBox.new _ _ _, hkp.alloc _⟩
      case round =>
        obtain ⟨m, hm1, hm2, rfl, hown2, rfl, hT, hkp2⟩ := hrel
        have t0 := hT.c0
        have t1 := hT.c1
        have hTl := hT.lt
        have d0 := hkp2.cell g0
        have d1 := hkp2.cell g1
        have d2 := hkp2.cell g2
        have d3 := hkp2.cell g3
        have hBs := hkp2.size
        by_cases hle : m ≤ q
        · have X1 := Lib.hid (P1.out m (by omega) _ (k.trans hkp2))
          have hbd := partI_bd (wv := x) (n := (m : Int)) (by omega)
          unfold partI at hbd
          have hcm := cd_more x pre (p := (p : Int)) (m := (m : Int)) (by omega)
          have hpm := ps_more x pre (p := (p : Int)) (m := (m : Int)) (by omega)
          have hpl := HPL.out (m : Int) (by omega)
          have hcl2 := cdup_len ((pre ++ spanL ((p : Int), (m : Int) - 1)).map (· / x))
          rw [List.length_map] at hcl2
          have hps := PSL.out (pre ++ spanL ((p : Int), (m : Int) - 1))
          obtain ⟨s, hs⟩ : ∃ s, psOf x (pre ++ spanL ((p : Int), (m : Int) - 1)) = s := ⟨_, rfl⟩
          obtain ⟨cd, hcd⟩ : ∃ cd, cdup ((pre ++ spanL ((p : Int), (m : Int) - 1)).map (· / x)) = cd := ⟨_, rfl⟩
          rw [hs] at hps hpm ⊢
          rw [hcd] at hown2 hcm hcl2
          obtain ⟨a, ha⟩ : ∃ a, (m : Int) / x = a := ⟨_, rfl⟩
          rw [ha] at X1 hcm
          obtain ⟨pp, hpp⟩ := Int.eq_ofNat_of_zero_le hbd.1
          rw [hpp] at X1 hpm hbd
          rw [Int.toNat_natCast] at hpm
          have hor := (or_pow s pp hps (by omega)).1
          rw [← hpm] at hor
          have Hcm := Lib.hid hcm
          have Hor := Lib.hid hor
          clear hcm hpm hor ha hpp hs hcd hps
          go_wp2_with fail
          refine X1.out.mono ?_
          rintro e u1 ⟨rfl, k1⟩
          have hown3 := hown2.kept (k1.grown none) (not_own_none _)
          have hT3 := hT.keep k1
          have k3 := hkp2.trans k1
          have hz3 := k3.size
          clear hown2 hT k1 X1
          rcases List.eq_nil_or_concat cd with rfl | ⟨l', y, rfl⟩
          · have Hst := Lib.hid (show cdup ((pre ++ spanL ((p : Int), (m : Int) + 1 - 1)).map (· / x)) = [a] by rw [Hcm.out, cdStep, if_neg (by simp)]; rfl)
            rcases own_cases hown3 with rfl | ⟨g, cap, rfl⟩
            · go_wp2_with (at_builtin; refine wpList_append_own _ rfl _ _ 22 rfl wB.heap.size 3 i0 (.int .i64 0) 1 8 Try.underlying22 hii hz0 hz1 hz2 rfl (by decide) _ _ _ rfl (hown3.alloc _) ⟨u1.heap.size, 0, none⟩ 1 1 [.int .i64 a] rfl rfl (by simp [go_sem]) (by simp [Value.oneCell']) (by simp [maxLen]) (by simp) (by simp; omega) ?_; intro v' u2 hown' hgrow _; have hg2 : (u1.alloc (.cells #[.int .i64 a] 3)).grownBy u2 none := hgrow; have hT4 := (hT3.alloc _).kept hg2 (by intro e; cases e); have k4 : Keeps wB u2 := Below.grown (k3.alloc _) hg2 (by simp; omega) (fun i e => by cases e); clear hgrow hg2)
              go_wp2
              go_roundw
              case rel => exact ⟨m + 1, by omega, by omega, by go_num, by rw [Int.natCast_add, Int.natCast_one, Hst.out]; exact hown', by rw [Hor.out]; rfl, hT4, k4⟩
              case measure => simp [intOf]; omega
            · go_wp2_with (at_builtin; refine wpList_append_own _ rfl _ _ 22 rfl wB.heap.size 3 i0 (.int .i64 0) 1 8 Try.underlying22 hii hz0 hz1 hz2 rfl (by decide) _ _ _ rfl (hown3.alloc _) ⟨u1.heap.size, 0, none⟩ 1 1 [.int .i64 a] rfl rfl (by simp [go_sem]) (by simp [Value.oneCell']) (by simp [maxLen]) (by simp) (by simp; omega) ?_; intro v' u2 hown' hgrow _; have hg2 : (u1.alloc (.cells #[.int .i64 a] 3)).grownBy u2 (some g) := hgrow; have hT4 := (hT3.alloc _).kept hg2 (hT3.not_row hown3); have k4 : Keeps wB u2 := Below.grown (k3.alloc _) hg2 (by simp; omega) (fun i e => by injection e with e; have := ownsRow_base hown3; omega); clear hgrow hg2)
              go_wp2
              go_roundw
              case rel => exact ⟨m + 1, by omega, by omega, by go_num, by rw [Int.natCast_add, Int.natCast_one, Hst.out]; exact hown', by rw [Hor.out]; rfl, hT4, k4⟩
              case measure => simp [intOf]; omega
          · rw [List.concat_eq_append] at *
            obtain ⟨r, hr⟩ : ∃ r, l'.length = r := ⟨_, rfl⟩
            have hlen1 : (l' ++ [y]).length = r + 1 := by simp [hr]
            rw [hlen1] at hown3 hcl2
            obtain ⟨g, cap, rfl⟩ := ownsRow_succ hown3
            have hly := (hown3.cellAt r (by omega)).trans (show (List.map (Value.int .i64) (l' ++ [y]))[r]? = some (.int .i64 y) by rw [List.map_append, List.getElem?_append_right (by simp [hr])]; simp [hr])
            have hlg := lt_of_cell hly
            have Hlen := Lib.hid hlen1
            clear hr hlen1
            have hr0 : ((r : Int) + 1 == 0) = false := by simp; omega
            by_cases e : ¬ y = a
            · have Hst := Lib.hid (show cdup ((pre ++ spanL ((p : Int), (m : Int) + 1 - 1)).map (· / x)) = l' ++ [y] ++ [a] by rw [Hcm.out, cdStep, if_neg (by simpa using e)])
              have eb : (y != a) = true := by simp [e]
              clear e
              go_wp2_with (at_builtin; refine wpList_append_own _ rfl _ _ 22 rfl wB.heap.size 3 i0 (.int .i64 0) 1 8 Try.underlying22 hii hz0 hz1 hz2 rfl (by decide) _ _ _ rfl (hown3.alloc _) ⟨u1.heap.size, 0, none⟩ 1 1 [.int .i64 a] rfl rfl (by simp [go_sem]) (by simp [Value.oneCell']) (by unfold maxLen; omega) (by omega) (by simp; omega) ?_; intro v' u2 hown' hgrow _; have hg2 : (u1.alloc (.cells #[.int .i64 a] 3)).grownBy u2 (some g) := hgrow; have hT4 := (hT3.alloc _).kept hg2 (hT3.not_row hown3); have k4 : Keeps wB u2 := Below.grown (k3.alloc _) hg2 (by simp; omega) (fun i e => by injection e with e; have := ownsRow_base hown3; omega); clear hgrow hg2)
              go_wp2
              go_roundw
              case rel => exact ⟨m + 1, by omega, by omega, by go_num, by rw [Int.natCast_add, Int.natCast_one, Hst.out, List.length_append, Hlen.out, List.map_append]; exact hown', by rw [Hor.out]; rfl, hT4, k4⟩
              case measure => simp [intOf]; omega
            · replace e := Classical.not_not.1 e
              have Hst := Lib.hid (show cdup ((pre ++ spanL ((p : Int), (m : Int) + 1 - 1)).map (· / x)) = l' ++ [y] by rw [Hcm.out, cdStep, if_pos (by simp [e])])
              have eb : (y != a) = false := by simp [e]
              clear e
              go_wp2
              go_roundw
              case rel => exact ⟨m + 1, by omega, by omega, by go_num, by rw [Int.natCast_add, Int.natCast_one, Hst.out, Hlen.out]; exact hown3, by rw [Hor.out]; rfl, hT3, k3⟩
              case measure => simp [intOf]; omega
        · obtain rfl : m = q + 1 := by omega
          have e1 : ((q + 1 : Nat) : Int) - 1 = (q : Int) := by omega
          rw [e1] at hown2 ⊢
          rw [← HFT.out] at hown2 ⊢
          have Hown2 := Lib.hid hown2
          clear hown2 e1
          go_wp2_with fail
          go_roundw
          case rel => exact ⟨j + 1, by omega, by go_num, Hown2.out, rfl, hkp2⟩
          case measure => simp [intOf]; omega
    · obtain rfl : j = L.length := by omega
      rw [List.take_length] at hown ⊢
      obtain ⟨au, cu, rfl, hIu⟩ := ints_of_owns hown
      have hcl2 := cdup_len ((flat L).map (· / x))
      rw [List.length_map] at hcl2
      obtain ⟨D, hD⟩ : ∃ D, cdup ((flat L).map (· / x)) = D := ⟨_, rfl⟩
      rw [hD] at hIu hcl2 HH ⊢
      have CI := Lib.hid (refInts_any ah au ch cu D D wr (HH.out _ (kH.trans hkp)) hIu (by unfold maxLen; omega))
      clear hown hIu hD
      go_wp2_with fail
      refine CI.out.mono ?_
      rintro e w8 ⟨rfl, k1⟩
      go_wp2_with fail
      refine (AL.out _).mono ?_
      rintro e w9 ⟨rfl, k2⟩
      go_wp2_with fail
      go_ret
      exact ⟨rfl, ((k.trans hkp).trans k1).trans k2⟩
end Go.Proofs.Ytoidnbpbeblokaa

namespace Go.Proofs.Ytoidnbpbeblokaa

theorem nearGo_facts (wish : Int) : ∀ (xs : List Ln) (best : Int), (∀ x ∈ xs, best < ((x.val : Nat) : Int)) → xs.Pairwise (fun a b => a.val < b.val) →
    (nearGo wish best xs = best ∨ ∃ x ∈ xs, nearGo wish best xs = ((x.val : Nat) : Int)) ∧ (dist (nearGo wish best xs) wish ≤ dist best wish ∧ (dist (nearGo wish best xs) wish = dist best wish → nearGo wish best xs ≤ best)) ∧
      ∀ y ∈ xs, dist (nearGo wish best xs) wish ≤ dist ((y.val : Nat) : Int) wish ∧ (dist (nearGo wish best xs) wish = dist ((y.val : Nat) : Int) wish → nearGo wish best xs ≤ ((y.val : Nat) : Int)) := by
  intro xs
  induction xs with
  | nil => intro best _ _; exact ⟨.inl rfl, ⟨Int.le_refl _, fun _ => Int.le_refl _⟩, fun y hy => absurd hy List.not_mem_nil⟩
  | cons x xs ih =>
    intro best hb hs
    have hbx := hb x List.mem_cons_self
    rw [List.pairwise_cons] at hs
    have hx : ∀ y ∈ xs, ((x.val : Nat) : Int) < ((y.val : Nat) : Int) := fun y hy => by have := hs.1 y hy; omega
    by_cases hd : dist ((x.val : Nat) : Int) wish < dist best wish
    · rw [nearGo, if_pos hd]
      obtain ⟨i1, ⟨i2, i3⟩, i4⟩ := ih _ hx hs.2
      refine ⟨.inr ?_, ⟨by omega, fun h => by omega⟩, fun y hy => ?_⟩
      · rcases i1 with h | ⟨y, hy, h⟩
        · exact ⟨x, List.mem_cons_self, h⟩
        · exact ⟨y, List.mem_cons_of_mem _ hy, h⟩
      · rcases List.mem_cons.1 hy with rfl | hy
        · exact ⟨i2, i3⟩
        · exact i4 y hy
    · rw [nearGo, if_neg hd]
      refine ⟨.inl rfl, ⟨Int.le_refl _, fun _ => Int.le_refl _⟩, fun y hy => ?_⟩
      have hby := hb y hy
      have hxy : ((x.val : Nat) : Int) ≤ ((y.val : Nat) : Int) := by
        rcases List.mem_cons.1 hy with rfl | hy
        · exact Int.le_refl _
        · exact Int.le_of_lt (hx y hy)
      refine ⟨?_, fun _ => Int.le_of_lt hby⟩
      unfold dist at hd ⊢
      split <;> split <;> (try split at hd) <;> (try split at hd) <;> omega
theorem near_facts (wish : Int) (ts : List Ln) (hs : ts.Pairwise (fun a b => a.val < b.val)) (hne : ts ≠ []) :
    (∃ x ∈ ts, near wish ts = ((x.val : Nat) : Int)) ∧ ∀ y ∈ ts, dist (near wish ts) wish ≤ dist ((y.val : Nat) : Int) wish ∧ (dist (near wish ts) wish = dist ((y.val : Nat) : Int) wish → near wish ts ≤ ((y.val : Nat) : Int)) := by
  rcases ts with _ | ⟨x, xs⟩
  · exact absurd rfl hne
  · rw [List.pairwise_cons] at hs
    obtain ⟨i1, i2, i3⟩ := nearGo_facts wish xs x.val (fun y hy => by have := hs.1 y hy; omega) hs.2
    refine ⟨?_, fun y hy => ?_⟩
    · rcases i1 with h | ⟨y, hy, h⟩
      · exact ⟨x, List.mem_cons_self, h⟩
      · exact ⟨y, List.mem_cons_of_mem _ hy, h⟩
    · rcases List.mem_cons.1 hy with rfl | hy
      · exact i2
      · exact i3 y hy
theorem dist_max (a b : Int) : max (a - b) (b - a) = dist a b := by unfold dist; split <;> omega

/-- Is a part within a reading's, whichever way round? -/
def okR (lo hi p : Int) : Bool := decide (lo ≤ p ∧ p ≤ hi ∨ lo ≤ p + 20 ∧ p + 20 ≤ hi)
theorem okR_right {wv lo hi n : Int} (hw : 1 ≤ wv) (hv : vPart lo hi = true) : okR lo hi (partI wv n) = rightB (wv, lo, hi) n := by
  have hb := partI_bd (wv := wv) (n := n) hw
  simp only [vPart, decide_eq_true_eq] at hv
  unfold okR rightB plainB roundB
  dsimp only
  split
  · rw [Bool.eq_iff_iff]; simp; omega
  · rw [Bool.eq_iff_iff]; simp; omega
/-- Are the first k readings right of a length? -/
def allR (F : Fr) (n : Int) (k : Nat) : Bool := (F.gs.take k).all (rightB · n)
theorem allR_zero (F : Fr) (n : Int) : allR F n 0 = true := rfl
theorem allR_succ (F : Fr) (hok : F.ok = true) (n : Int) {k : Nat} (hk : k < F.rs.length) : allR F n (k + 1) = (allR F n k && okR (F.rs[k]?.getD (0, 0, 0)).2.1 (F.rs[k]?.getD (0, 0, 0)).2.2 (20 * (n % (F.ws[(F.rs[k]?.getD (0, 0, 0)).1.toNat]?.getD 0)) / (F.ws[(F.rs[k]?.getD (0, 0, 0)).1.toNat]?.getD 0))) := by
  have hr := F.rd_in hok hk
  have hw := F.wave_in hok (c := (F.rs[k]?.getD (0, 0, 0)).1.toNat) (by omega)
  have hk' : k < F.gs.length := by simpa [Fr.gs] using hk
  unfold allR
  rw [List.take_succ_eq_append_getElem hk', List.all_append, List.all_cons, List.all_nil, Bool.and_true]
  congr 1
  have e : F.gs[k] = rgOf F.ws (F.rs[k]?.getD (0, 0, 0)) := by
    simp [Fr.gs, List.getElem?_eq_getElem hk]
  rw [e, rgOf, ← okR_right (by omega) hr.2.2]
  rfl
theorem allR_all (F : Fr) (hok : F.ok = true) {n : Int} (h1 : F.lo ≤ n) (h2 : n ≤ F.hi) : allR F n F.rs.length = decide (n ∈ F.truths.map fun x => ((x.val : Nat) : Int)) := by
  obtain ⟨l1, l2, l3, l4⟩ := F.len_in hok
  obtain ⟨m, rfl⟩ := Int.eq_ofNat_of_zero_le (show 0 ≤ n by omega)
  have e : F.gs.take F.rs.length = F.gs := List.take_of_length_le (by simp [Fr.gs])
  rw [allR, e, Bool.eq_iff_iff, decide_eq_true_eq, List.mem_map]
  constructor
  · intro h
    exact ⟨(⟨m, by omega⟩ : Ln), (mem_truths hok).2 ⟨h1, h2, h⟩, rfl⟩
  · rintro ⟨x, hx, e⟩
    have := ((mem_truths hok).1 hx).2.2
    rw [e] at this
    exact this

/-- Is a number in the first k spans? -/
def inFlat (L : List Sp) (n : Int) (k : Nat) : Bool := decide (n ∈ flat (L.take k))
theorem inFlat_zero (L : List Sp) (n : Int) : inFlat L n 0 = false := by simp [inFlat, flat]
theorem inFlat_succ {L : List Sp} {n : Int} {k : Nat} (hk : k < L.length) : inFlat L n (k + 1) = (inFlat L n k || decide ((L[k]?.getD (0, 0)).1 ≤ n ∧ n ≤ (L[k]?.getD (0, 0)).2)) := by
  unfold inFlat
  rw [flat_take hk, Bool.eq_iff_iff]
  simp [mem_spanL]
theorem many_succ {L : List Sp} {k : Nat} (hk : k < L.length) (h : (L[k]?.getD (0, 0)).1 ≤ (L[k]?.getD (0, 0)).2) : (((flat (L.take (k + 1))).length : Nat) : Int) = ((flat (L.take k)).length : Nat) + ((L[k]?.getD (0, 0)).2 - (L[k]?.getD (0, 0)).1 + 1) := by
  rw [flat_take hk, List.length_append, spanL_len]
  omega
theorem flat_le {L : List Sp} (k : Nat) : (flat (L.take k)).length ≤ (flat L).length := by
  have h2 : flat L = flat (L.take k) ++ flat (L.drop k) := by rw [← flat_append, List.take_append_drop]
  rw [h2, List.length_append]; omega
theorem apart_next {L : List Sp} (h : Apart L) {k : Nat} (hk : k + 1 < L.length) : (L[k]?.getD (0, 0)).2 + 1 < (L[k + 1]?.getD (0, 0)).1 := by
  have := List.pairwise_iff_getElem.1 h.1 k (k + 1) (by omega) hk (by omega)
  rw [List.getElem?_eq_getElem hk, List.getElem?_eq_getElem (show k < L.length by omega)]
  exact this
theorem span_mem {L : List Sp} {k : Nat} (hk : k < L.length) {n : Int} (h1 : (L[k]?.getD (0, 0)).1 ≤ n) (h2 : n ≤ (L[k]?.getD (0, 0)).2) : n ∈ flat L := by
  rw [List.getElem?_eq_getElem hk] at h1 h2
  exact List.mem_flatMap.2 ⟨L[k], List.getElem_mem hk, mem_spanL.2 ⟨h1, h2⟩⟩
/-- The facts of the nearest length, about the numbers of the spans. -/
theorem near_flat (F : Fr) (hne : F.truths ≠ []) (wish : Int) : near wish F.truths ∈ flat (spansOf F.truths) ∧ ∀ n ∈ flat (spansOf F.truths), dist (near wish F.truths) wish ≤ dist n wish ∧ (dist (near wish F.truths) wish = dist n wish → near wish F.truths ≤ n) := by
  obtain ⟨h1, h2⟩ := near_facts wish F.truths (truths_sorted F) hne
  rw [(spansOf_facts F.truths (truths_sorted F)).1]
  constructor
  · obtain ⟨x, hx, e⟩ := h1
    exact List.mem_map.2 ⟨x, hx, e.symm⟩
  · intro n hn
    obtain ⟨x, hx, rfl⟩ := List.mem_map.1 hn
    exact h2 x hx
end Go.Proofs.Ytoidnbpbeblokaa
