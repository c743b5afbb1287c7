/-
  WARM: best: the offer that costs least, of several the first one.
-/
import Derived.Test.YtmhpgjlegajpeaaA3
import Derived.Test.YtmhpgjlegajpeaaB3
namespace Go.Proofs.Ytmhpgjlegajpeaa
open Go.RowKit Go.Shelf

theorem TwoI.keep {W W' : World} {b : Nat} {x y : Int} (h : TwoI W b x y) (k : Keeps W W') : TwoI W' b x y :=
  ⟨k.cell h.c0, k.cell h.c1, (k.cells.2 _ _ (lt_of_cell h.c0)).trans h.f0, (k.cells.2 _ _ (lt_of_cell h.c1)).trans h.f1⟩
/-- The best of the first k offers: its place, and what it costs. -/
def bestTo (f : Int → Int) (xs : List Int) : Nat → Int × Int
  | 0 => (0, 0)
  | k + 1 => if k = 0 ∨ f (xs[k]?.getD 0) < (bestTo f xs k).2 then ((k : Int), f (xs[k]?.getD 0)) else bestTo f xs k
def bestOf (f : Int → Int) (xs : List Int) : Int × Int := bestTo f xs xs.length
theorem bestTo_yes {f : Int → Int} {xs : List Int} {k : Nat} (h : k = 0 ∨ f (xs[k]?.getD 0) < (bestTo f xs k).2) : bestTo f xs (k + 1) = ((k : Int), f (xs[k]?.getD 0)) := by rw [bestTo, if_pos h]
theorem bestTo_no {f : Int → Int} {xs : List Int} {k : Nat} (h0 : k ≠ 0) (h : ¬ f (xs[k]?.getD 0) < (bestTo f xs k).2) : bestTo f xs (k + 1) = bestTo f xs k := by rw [bestTo, if_neg (fun h' => h'.elim h0 h)]

theorem best_step {w w1 : World} {bp bc p q : Int} {v : Value} (h1 : TwoI w1 (w.heap.size + 1 + 1) bp bc) (h0 : TwoI w1 (w.heap.size + 1) 0 0) (hc : w1.cell? ⟨w.heap.size, 1, none⟩ = some v) (hk : Keeps w w1) :
    let W := (w1.setCell ⟨w.heap.size + 1 + 1, 0, none⟩ (.int .i64 p)).setCell ⟨w.heap.size + 1 + 1, 1, none⟩ (.int .i64 q)
    (TwoI W (w.heap.size + 1 + 1) p q ∧ TwoI W (w.heap.size + 1) 0 0) ∧ W.cell? ⟨w.heap.size, 1, none⟩ = some v ∧ Keeps w W :=
  ⟨⟨(h1.set0 p).set1 q, (h0.setOther _ (by omega)).setOther _ (by omega)⟩, (cell_set_other (.inl (by omega))).trans ((cell_set_other (.inl (by omega))).trans hc), (hk.setCell _ (by simp; omega)).setCell _ (by simp; omega)⟩

set_option maxHeartbeats 3200000 in
theorem best_any (a : Option Addr) (cap : Nat) (xs : List Int) (K : Nat) (caps : Array Value) (f : Int → Int) (w : World) (hI : Ints w a xs) (hl : xs.length ≤ 6)
    (hcf : ∀ args w, (callFunc K args).run Try.prog w = .ok (.enter K args) w)
    (hcost : ∀ (x : Int) w', x ∈ xs → Keeps w w' → Calls Try.prog K (#[.int .i64 x] ++ caps) w' (RetI (f x) w')) :
    Calls Try.prog 81 #[.agg #[.slice a xs.length cap, .func (.func K) #[] caps]] w (Ret (.agg #[.int .i64 (bestOf f xs).1, .int .i64 (bestOf f xs).2]) w) := by
  have HC := Lib.hid hcost
  have HI := Lib.hid hI
  have HB := Lib.hid (show bestOf f xs = bestTo f xs xs.length from rfl)
  clear hI hcost
  go_enter Try.func81, Try.ntmps81
  go_wp2
  go_loopw [10] (fun i wr => ∃ k : Nat, k ≤ xs.length ∧ i = .int .i64 k ∧ (TwoI wr (w.heap.size + 1 + 1) (bestTo f xs k).1 (bestTo f xs k).2 ∧ TwoI wr (w.heap.size + 1) 0 0) ∧ wr.cell? ⟨w.heap.size, 1, none⟩ = some (.func (.func K) #[] caps) ∧ Keeps w wr) (fun i _ => xs.length - (intOf i).toNat)
  case atStart =>
    refine ⟨0, Nat.zero_le _, rfl, ⟨?_, ?_⟩, by simp [go_sem], (((Keeps.refl _).alloc _).alloc _).alloc _⟩ <;> constructor <;> simp [go_sem, bestTo]
  case round =>
    obtain ⟨k, hk, rfl, ⟨t1, t0⟩, hc, hkp⟩ := hrel
    have hlc := lt_of_cell hc
    have T0 := Lib.hid t0
    by_cases hlt : k < xs.length
    · obtain ⟨b, o, rfl, hci⟩ := (HI.out.keep hkp) (by intro e; rw [e] at hlt; simp at hlt)
      have c0 := hci k hlt
      obtain ⟨x, hx⟩ : ∃ x, xs[k]?.getD 0 = x := ⟨_, rfl⟩
      have hm : x ∈ xs := by rw [← hx, List.getElem?_eq_getElem hlt]; exact List.getElem_mem hlt
      rw [hx] at c0
      have lb := lt_of_cell c0
      have HC1 := Lib.hid (HC.out x wr hm hkp)
      have HY := Lib.hid (@bestTo_yes f xs k)
      have HN := Lib.hid (@bestTo_no f xs k)
      rw [hx] at HY HN
      obtain ⟨q, hq⟩ : ∃ q, f x = q := ⟨_, rfl⟩
      rw [hq] at HC1 HY HN
      obtain ⟨⟨bp, bc⟩, hbt⟩ : ∃ r, bestTo f xs k = r := ⟨_, rfl⟩
      rw [hbt] at t1 HY HN
      dsimp only at t1 HY HN
      have T1 := Lib.hid t1
      have HS := Lib.hid hkp
      clear hci hx hm hq hbt t1 t0
      go_wp2_with fail
      refine HC1.out.mono ?_
      rintro e w1 ⟨rfl, k1⟩
      have t1 := T1.out.keep k1
      have d0 := t1.c0
      have d1 := t1.c1
      have f0 := t1.f0
      have f1 := t1.f1
      have hld := lt_of_cell d0
      have hc1 := k1.cell hc
      clear HC1 t1
      by_cases hk0 : k = 0
      · subst hk0
        go_wp2_with fail
        go_roundw
        case rel => exact ⟨1, by omega, by go_num, by rw [HY.out (.inl trivial)]; exact best_step (T1.out.keep k1) (T0.out.keep k1) hc1 (HS.out.trans k1)⟩
        case measure => simp [intOf]; omega
      · have hkb : ((k : Int) == 0) = false := by rw [beq_eq_false_iff_ne]; omega
        by_cases hqb : q < bc
        · have hd : decide (q < bc) = true := by simpa using hqb
          have hq2 := HY.out (.inr hqb)
          have HQ := Lib.hid hq2
          clear hq2
          go_wp2_with fail
          go_roundw
          case rel => exact ⟨k + 1, by omega, by go_num, by rw [HQ.out]; exact best_step (T1.out.keep k1) (T0.out.keep k1) hc1 (HS.out.trans k1)⟩
          case measure => simp [intOf]; omega
        · have hd : decide (q < bc) = false := by simpa using hqb
          have HQ := Lib.hid (HN.out hk0 (by omega))
          go_wp2_with fail
          go_roundw
          case rel => exact ⟨k + 1, by omega, by go_num, by rw [HQ.out]; exact ⟨⟨T1.out.keep k1, T0.out.keep k1⟩, hc1, HS.out.trans k1⟩⟩
          case measure => simp [intOf]; omega
    · have hke : k = xs.length := by omega
      subst hke
      have d0 := t1.c0
      have d1 := t1.c1
      have e0 := t0.c0
      have e1 := t0.c1
      have f0 := t0.f0
      have f1 := t0.f1
      have T1 := Lib.hid t1
      obtain ⟨⟨bp, bc⟩, hbt⟩ : ∃ r, bestTo f xs xs.length = r := ⟨_, rfl⟩
      rw [hbt] at d0 d1
      dsimp only at d0 d1
      have HE := Lib.hid (HB.out.trans hbt)
      clear t1 t0 hbt
      go_wp2
      have h2 := (T0.out.set0 bp).set1 bc
      refine bodyPost_ret (v := .agg #[.int .i64 bp, .int .i64 bc]) ?_ rfl ⟨by rw [HE.out], (hkp.setCell _ (by simp)).setCell _ (by simp)⟩
      simp [results, Try.results81, go_sem, h2.c0, h2.c1]
end Go.Proofs.Ytmhpgjlegajpeaa
