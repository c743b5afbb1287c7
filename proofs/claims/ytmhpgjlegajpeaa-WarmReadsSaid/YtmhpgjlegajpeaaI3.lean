/-
  The document's own package, of WARM: hull.
-/
import Derived.Test.YtmhpgjlegajpeaaI1
import Derived.Test.YtmhpgjlegajpeaaB3
import Derived.Test.YtmhpgjlegajpeaaI0
import Derived.Deep.RegionHeld3
namespace Go.Proofs.Ytmhpgjlegajpeaa
open Go.RowKit Go.Shelf
attribute [local go_sem] Oper.semAt_some

theorem min_le_fold : ∀ (xs : List Int) (z : Int), xs.foldl min z ≤ z ∧ (∀ x ∈ xs, xs.foldl min z ≤ x) ∧ (xs.foldl min z = z ∨ xs.foldl min z ∈ xs) := by
  intro xs
  induction xs with
  | nil => intro z; exact ⟨Int.le_refl _, (fun _ h => by cases h), .inl rfl⟩
  | cons y l ih =>
    intro z
    obtain ⟨h1, h2, h3⟩ := ih (min z y)
    refine ⟨by rw [List.foldl_cons]; omega, fun x hx => ?_, ?_⟩
    · rw [List.foldl_cons]
      rcases List.mem_cons.1 hx with rfl | h
      · omega
      · exact h2 x h
    · rw [List.foldl_cons]
      rcases h3 with h | h
      · by_cases e : z ≤ y
        · left; omega
        · right; rw [h, show min z y = y by omega]; exact List.mem_cons_self
      · exact .inr (List.mem_cons_of_mem _ h)
theorem max_le_fold : ∀ (xs : List Int) (z : Int), z ≤ xs.foldl max z ∧ (∀ x ∈ xs, x ≤ xs.foldl max z) ∧ (xs.foldl max z = z ∨ xs.foldl max z ∈ xs) := by
  intro xs
  induction xs with
  | nil => intro z; exact ⟨Int.le_refl _, (fun _ h => by cases h), .inl rfl⟩
  | cons y l ih =>
    intro z
    obtain ⟨h1, h2, h3⟩ := ih (max z y)
    refine ⟨by rw [List.foldl_cons]; omega, fun x hx => ?_, ?_⟩
    · rw [List.foldl_cons]
      rcases List.mem_cons.1 hx with rfl | h
      · omega
      · exact h2 x h
    · rw [List.foldl_cons]
      rcases h3 with h | h
      · by_cases e : y ≤ z
        · left; omega
        · right; rw [h, show max z y = y by omega]; exact List.mem_cons_self
      · exact .inr (List.mem_cons_of_mem _ h)
theorem hull_lo {xs : List Int} {z : Int} (hz : z ∈ xs) (hb : z ≤ 9223372036854775807) : xs.foldl min z = loI xs := by
  obtain ⟨a1, a2, a3⟩ := min_le_fold xs z
  obtain ⟨b1, b2, b3⟩ := min_le_fold xs 9223372036854775807
  unfold loI
  have h1 := b2 z hz
  have h2 : xs.foldl min z ≤ xs.foldl min 9223372036854775807 := by
    rcases b3 with h | h
    · omega
    · exact a2 _ h
  have h3 : xs.foldl min 9223372036854775807 ≤ xs.foldl min z := by
    rcases a3 with h | h
    · omega
    · exact b2 _ h
  omega
theorem hull_hi {xs : List Int} {z : Int} (hz : z ∈ xs) (hb : -9223372036854775808 ≤ z) : xs.foldl max z = hiI xs := by
  obtain ⟨a1, a2, a3⟩ := max_le_fold xs z
  obtain ⟨b1, b2, b3⟩ := max_le_fold xs (-9223372036854775808)
  unfold hiI
  have h1 := b2 z hz
  have h2 : xs.foldl max (-9223372036854775808) ≤ xs.foldl max z := by
    rcases b3 with h | h
    · omega
    · exact a2 _ h
  have h3 : xs.foldl max z ≤ xs.foldl max (-9223372036854775808) := by
    rcases a3 with h | h
    · omega
    · exact b2 _ h
  omega
theorem take_one {α : Type} {xs : List α} {k : Nat} (h : k < xs.length) : xs.take (k + 1) = xs.take k ++ [xs[k]'h] := by
  rw [List.take_add_one, List.getElem?_eq_getElem h]; rfl

set_option maxHeartbeats 3200000 in
theorem refHull_any (a : Option Addr) (cap : Nat) (xs : List Int) (w : World) (hX : Ints w a xs) (hl : xs.length ≤ maxLen) (hne : xs ≠ []) (hb : ∀ x ∈ xs, -30000 ≤ x ∧ x ≤ 30000) :
    Calls Try.prog 55 #[.slice a xs.length cap] w (Ret (.agg #[.int .i64 (loI xs), .int .i64 (hiI xs)]) w) := by
  unfold maxLen at hl
  have hpos := List.length_pos_iff.2 hne
  obtain ⟨b, o, rfl, hcs⟩ := hX hne
  have h0 := hcs 0 hpos
  have hx0 : xs[0]?.getD 0 = xs[0]'hpos := by rw [List.getElem?_eq_getElem hpos, Option.getD_some]
  rw [hx0] at h0
  have hm0 : xs[0]'hpos ∈ xs := List.getElem_mem hpos
  have hb0 := hb _ hm0
  have HLO := Lib.hid (hull_lo hm0 (by omega))
  have HHI := Lib.hid (hull_hi hm0 (by omega))
  obtain ⟨z, hz⟩ : ∃ z, xs[0]'hpos = z := ⟨_, rfl⟩
  rw [hz] at h0 HLO HHI
  rw [Nat.add_zero] at h0
  have HC := Lib.hid hcs
  clear hx0 hm0 hb0 hz hcs hX hb
  have hlb := lt_of_cell h0
  have hmx : Try.prog.follows .mixedOrders = true := by kernel_rfl
  obtain ⟨V, hV⟩ : ∃ V, w.alloc (.cells #[.int .i64 0, .int .i64 0] 23) = V := ⟨_, rfl⟩
  have k0 : Keeps w V := by rw [← hV]; exact (Keeps.refl w).alloc _
  have hszV : V.heap.size = w.heap.size + 1 := by rw [← hV]; simp
  have r0 : V.cell? ⟨w.heap.size, 0, none⟩ = some (.int .i64 0) := by rw [← hV]; simp [go_sem]
  have r1 : V.cell? ⟨w.heap.size, 1, none⟩ = some (.int .i64 0) := by rw [← hV]; simp [go_sem]
  have z0 : V.frozen? ⟨w.heap.size, 0, none⟩ = false := by rw [← hV]; simp [go_sem]
  have z1 : V.frozen? ⟨w.heap.size, 1, none⟩ = false := by rw [← hV]; simp [go_sem]
  have g0 := k0.cell h0
  have HS := Lib.hid (fun (w' : World) (k : Keeps V w') => show w'.cell? ⟨b, o, none⟩ = some (.int .i64 z) ∧ Keeps V w' from ⟨k.cell g0, k⟩)
  go_enter Try.func55, Try.ntmps55
  go_wp2_with fail
  go_region_held3 (fun w' => w'.cell? ⟨b, o, none⟩ = some (.int .i64 z) ∧ Keeps V w')
    (first | exact HS.out _ (Keeps.refl _).drew | exact HS.out _ ((Keeps.refl _).drew.alloc _))
    (fail)
  obtain ⟨s, hs⟩ : ∃ s, w.heap.size + 1 = s := ⟨_, rfl⟩
  obtain ⟨W1, hW1⟩ : ∃ W1, (V.alloc (.cells #[.int .i64 z, .int .i64 z] 23)).drew = W1 := ⟨_, rfl⟩
  have k1 : Keeps V W1 := by rw [← hW1]; exact ((Keeps.refl V).alloc _).drew
  have T1 : TwoI W1 s z z := ⟨by rw [← hW1, ← hs, ← hszV]; simp [go_sem], by rw [← hW1, ← hs, ← hszV]; simp [go_sem], by rw [← hW1, ← hs, ← hszV]; simp [go_sem], by rw [← hW1, ← hs, ← hszV]; simp [go_sem]⟩
  have hsV : V.heap.size ≤ s := by omega
  have hws : w.heap.size ≠ s := by omega
  rw [hW1, hs]
  clear hW1 hs hV hszV HS g0 h0
  obtain ⟨b0, hb0⟩ : ∃ b0, w.heap.size = b0 := ⟨_, rfl⟩
  rw [hb0] at r0 r1 z0 z1 hws ⊢
  go_wp2_with fail
  go_loopw [4] (fun i wr => ∃ k : Nat, k ≤ xs.length ∧ i = .int .i64 k ∧ TwoI wr s ((xs.take k).foldl min z) ((xs.take k).foldl max z) ∧ Keeps V wr) (fun i _ => xs.length - (intOf i).toNat)
  case atStart => exact ⟨0, Nat.zero_le _, rfl, T1, k1⟩
  case round =>
    obtain ⟨k, hk, rfl, hT, kr⟩ := hrel
    have kq := k0.trans kr
    by_cases hlt : k < xs.length
    · have h1 := kq.cell (HC.out k hlt)
      have hy : xs[k]?.getD 0 = xs[k]'hlt := by rw [List.getElem?_eq_getElem hlt, Option.getD_some]
      rw [hy] at h1
      have HTK := Lib.hid (take_one hlt)
      obtain ⟨y, hy⟩ : ∃ y, xs[k]'hlt = y := ⟨_, rfl⟩
      rw [hy] at h1 HTK
      obtain ⟨u, hu⟩ : ∃ u, (xs.take k).foldl min z = u := ⟨_, rfl⟩
      obtain ⟨v, hv⟩ : ∃ v, (xs.take k).foldl max z = v := ⟨_, rfl⟩
      rw [hu, hv] at hT
      have HNU := Lib.hid (show (xs.take (k + 1)).foldl min z = min u y from by rw [HTK.out, List.foldl_append, hu]; rfl)
      have HNV := Lib.hid (show (xs.take (k + 1)).foldl max z = max v y from by rw [HTK.out, List.foldl_append, hv]; rfl)
      obtain ⟨c0, c1, f0, f1⟩ := hT
      have HTT := Lib.hid (show TwoI wr.drew s u v from ⟨c0, c1, f0, f1⟩)
      have hl1 := lt_of_cell c0
      have hl2 := lt_of_cell h1
      clear hy hu hv HTK T1 r0 r1 z0 z1 HC
      haveI : Nonempty (Since wr.drew) := Since.some _
      have j0 : ∀ q : Since wr.drew, q.W.cell? ⟨s, 0, none⟩ = some (.int .i64 u) := fun q => ((Keeps.refl wr).drew.trans q.keeps).cell c0
      have j1 : ∀ q : Since wr.drew, q.W.cell? ⟨s, 1, none⟩ = some (.int .i64 v) := fun q => ((Keeps.refl wr).drew.trans q.keeps).cell c1
      have j2 : ∀ q : Since wr.drew, q.W.cell? ⟨b, o + k, none⟩ = some (.int .i64 y) := fun q => ((Keeps.refl wr).drew.trans q.keeps).cell h1
      go_wp2_with fail
      refine (wpIn_wide (n := 3)).1 ?_
      refine region_calm 15 [(0, [0, 1, 2, 3, 4, 5, 6, 7, 8, 9, 10, 11, 12, 13, 14]), (2, [15])] (fun _ => trivial) (by kernel_rfl) hmx (by kernel_rfl) (by kernel_rfl) ?_
      show wpQuietIn _ _ _ _ _ _ [_, _, _, _, _, _, _, _, _, _, _, _, _, _, _] _
      iterate 15 (gi_big_quiet_step (fail))
      refine wpQuietIn_nil ?_
      show wpListIn _ _ _ _ _ [_] _ _
      clear j0 j1 j2
      gi_wp2_with fail
      all_goals
        unfold wpMix
        refine ⟨rfl, ?_⟩
        go_wp2_with fail
        go_roundw
        case measure => simp [intOf]; omega
        case rel =>
          refine ⟨k + 1, by omega, by go_num, ?_, ((kr.setCell (p := ⟨s, 0, none⟩) _ hsV).setCell (p := ⟨s, 1, none⟩) _ hsV).drew⟩
          rw [HNU.out, HNV.out]
          have h := (HTT.out.set0 (min u y)).set1 (max v y)
          first
            | (rw [show min u y = u by omega, show max v y = v by omega] at h ⊢; exact h)
            | (rw [show min u y = u by omega, show max v y = y by omega] at h ⊢; exact h)
            | (rw [show min u y = y by omega, show max v y = v by omega] at h ⊢; exact h)
            | (rw [show min u y = y by omega, show max v y = y by omega] at h ⊢; exact h)
    · obtain rfl : k = xs.length := by omega
      rw [List.take_length, HLO.out, HHI.out] at hT
      obtain ⟨c0, c1, f0, f1⟩ := hT
      have e0 := kr.cell r0
      have e1 := kr.cell r1
      have y0 := (kr.cells.2 _ _ (lt_of_cell r0)).trans z0
      have y1 := (kr.cells.2 _ _ (lt_of_cell r1)).trans z1
      have hl1 := lt_of_cell c0
      have hl2 := lt_of_cell e0
      have h2 := (TwoI.set0 ⟨e0, e1, y0, y1⟩ (loI xs)).set1 (hiI xs)
      clear r0 r1 z0 z1 T1 HC
      go_wp2_with fail
      refine bodyPost_ret (v := .agg #[.int .i64 (loI xs), .int .i64 (hiI xs)]) ?_ rfl ⟨rfl, (kq.setCell (p := ⟨b0, 0, none⟩) _ (by dsimp only; omega)).setCell (p := ⟨b0, 1, none⟩) _ (by dsimp only; omega)⟩
      simp [results, Try.results55, go_sem, h2.c0, h2.c1]
end Go.Proofs.Ytmhpgjlegajpeaa
