/-
  The document's own answers: Ask.
-/
import Derived.Test.YtoidnbpbeblokaaPd
namespace Go.Proofs.Ytoidnbpbeblokaa
open Go.RowKit Go.Shelf

theorem ask_first (ws : List Int) (ts : List Ln) : (askTo ws ts 1).1 = 0 := by simp [askTo]
theorem ask_next {ws : List Int} {ts : List Ln} {k : Nat} (hk : 1 ≤ k) {b : Nat} (hb : (askTo ws ts k).1 = b) : (askTo ws ts (k + 1)).1 = if mostP (ws[k]?.getD 0) ts < mostP (ws[b]?.getD 0) ts then k else b := by
  obtain ⟨_, h2, _⟩ := askTo_facts ws ts k hk
  rw [hb] at h2
  rw [askTo, h2]
  by_cases h : mostP (ws[k]?.getD 0) ts < mostP (ws[b]?.getD 0) ts
  · rw [if_pos (.inr h), if_pos h]
  · rw [if_neg (by omega), if_neg h, hb]
set_option maxRecDepth 100000 in
set_option maxHeartbeats 3200000 in
theorem refAsk_no (F : Fr) (w : World) (hI : F.In w) (h0 : lenE F ≠ 0) : Calls Try.prog 15 #[F.v] w (Ret (.tuple #[.int .i64 (askR F).1.1, .int .i64 (askR F).1.2, .int .i64 (askR F).2]) w) := by
  have TO := Lib.hid (fun w1 (k : Keeps w w1) => refTold_any F w1 (hI.keep k))
  have hr : askR F = ((0, 0), lenE F) := by
    unfold askR lenE at *
    split
    · rfl
    · split
      · rfl
      · simp_all
  rw [hr]
  have hE : (lenE F != 0) = true := by simp [h0]
  obtain ⟨E, hEq⟩ : ∃ E, lenE F = E := ⟨_, rfl⟩
  rw [hEq] at TO hE ⊢
  obtain ⟨wa, wc, ws, lo, hi, ra, rc, rs⟩ := F
  dsimp only [Fr.v] at *
  clear hI h0 hr hEq
  have kB := (Keeps.refl w).alloc (.cells #[.slice wa ws.length wc, .int .i64 lo, .int .i64 hi, .slice ra rs.length rc] 27)
  go_enter Try.func15, Try.ntmps15
  go_wp2_with fail
  refine (TO.out _ kB).mono ?_
  rintro e w1 ⟨a, cap, rfl, h1, k1⟩
  clear TO h1
  go_wp2_with fail
  refine bodyPost_ret (v := .tuple #[.int .i64 0, .int .i64 0, .int .i64 E]) (by simp [results, Try.results15, go_sem]) rfl ⟨rfl, kB.trans k1⟩
set_option maxRecDepth 100000 in
set_option maxHeartbeats 3200000 in
theorem refAsk_yes (F : Fr) (w : World) (hI : F.In w) (hok : F.ok = true) (ht : F.truths ≠ []) : Calls Try.prog 15 #[F.v] w (Ret (.tuple #[.int .i64 (askR F).1.1, .int .i64 (askR F).1.2, .int .i64 (askR F).2]) w) := by
  have TO := Lib.hid (fun w1 (k : Keeps w w1) => refTold_any F w1 (hI.keep k))
  rw [show toldL F = intsOf F.truths by simp [toldL, lenE_0 hok ht], lenE_0 hok ht] at TO
  have htl := F.truths_len hok
  obtain ⟨hw1, hw4⟩ := F.wl_in hok
  rw [show askR F = (askTo F.ws F.truths F.ws.length, 0) by simp [askR, hok, ht]]
  have LF := Lib.hid (fun (c : Nat) (hc : c < F.ws.length) a cap w1 (k : Keeps w w1) (h : Ints w1 a (intsOf F.truths)) => refLeft_any F c _ F.truths a cap w1 (hI.keep k) hc rfl (F.wave_in hok hc).1 (F.wave_in hok hc).2 htl h)
  obtain ⟨ts, hts⟩ : ∃ ts, F.truths = ts := ⟨_, rfl⟩
  rw [hts] at TO LF htl ⊢
  have AF := Lib.hid (fun k (hk : 0 < k) => askTo_facts F.ws ts k hk)
  have AN := Lib.hid (fun (k : Nat) (hk : 1 ≤ k) b (hb : (askTo F.ws ts k).1 = b) => ask_next hk hb)
  have A1 := Lib.hid (ask_first F.ws ts)
  have MB := Lib.hid (fun x => Nat.le_trans (mostP_bd x ts) htl)
  obtain ⟨⟨cB, lB⟩, hcl⟩ : ∃ cl, askTo F.ws ts F.ws.length = cl := ⟨_, rfl⟩
  rw [hcl]
  have HCL := Lib.hid hcl
  obtain ⟨wa, wc, ws, lo, hi, ra, rc, rs⟩ := F
  dsimp only [Fr.v] at *
  clear hI hok ht hts hcl
  have kB := (Keeps.refl w).alloc (.cells #[.slice wa ws.length wc, .int .i64 lo, .int .i64 hi, .slice ra rs.length rc] 27)
  have hB := Fr.Box.new ⟨wa, wc, ws, lo, hi, ra, rc, rs⟩ w
  go_enter Try.func15, Try.ntmps15
  go_wp2_with fail
  refine (TO.out _ kB).mono ?_
  rintro e w1 ⟨a, cap, rfl, hL, k1⟩
  have HL := Lib.hid hL
  have HB := Lib.hid (hB.keep k1)
  replace kB := kB.trans k1
  clear TO hL hB k1
  go_wp2_with fail
  go_loopw [7, 8] (fun b i wr => ∃ k : Nat, 1 ≤ k ∧ k ≤ ws.length ∧ i = .int .i64 k ∧ b = .int .i64 (((askTo ws ts k).1 : Nat) : Int) ∧ Keeps w1 wr) (fun _ i _ => ws.length - (intOf i).toNat)
  case atStart => exact ⟨1, Nat.le_refl _, hw1, rfl, by rw [A1.out]; rfl, Keeps.refl _⟩
  case round =>
    obtain ⟨k, hk1, hk, rfl, rfl, hkp⟩ := hrel
    have hBx := HB.out.keep hkp
    obtain ⟨b, hb⟩ : ∃ b, (askTo ws ts k).1 = b := ⟨_, rfl⟩
    have hbk : b < k := by rw [← hb]; exact (AF.out k hk1).1
    rw [hb]
    obtain ⟨g0, g1, g2, g3⟩ := hBx
    dsimp only at g0 g1 g2 g3
    have hgl := lt_of_cell g0
    by_cases hlt : k < ws.length
    · have HN := Lib.hid (AN.out k hk1 b hb)
      have LA := Lib.hid (fun w2 (kk : Keeps w w2) (h : Ints w2 a (intsOf ts)) => LF.out k hlt a cap w2 kk h)
      have LB := Lib.hid (fun w2 (kk : Keeps w w2) (h : Ints w2 a (intsOf ts)) => LF.out b (by omega) a cap w2 kk h)
      obtain ⟨x, hx⟩ : ∃ x, mostP (ws[k]?.getD 0) ts = x := ⟨_, rfl⟩
      obtain ⟨y, hy⟩ : ∃ y, mostP (ws[b]?.getD 0) ts = y := ⟨_, rfl⟩
      have hxb := MB.out (ws[k]?.getD 0)
      have hyb := MB.out (ws[b]?.getD 0)
      rw [hx] at HN LA hxb
      rw [hy] at HN LB hyb
      have HS := Lib.hid (fun (w' : World) (kk : Keeps wr w') => show w'.cell? ⟨w.heap.size, 0, none⟩ = some (.slice wa ws.length wc) ∧ w'.cell? ⟨w.heap.size, 1, none⟩ = some (.int .i64 lo) ∧ w'.cell? ⟨w.heap.size, 2, none⟩ = some (.int .i64 hi) ∧ w'.cell? ⟨w.heap.size, 3, none⟩ = some (.slice ra rs.length rc) ∧ Keeps wr w' from ⟨kk.cell g0, kk.cell g1, kk.cell g2, kk.cell g3, kk⟩)
      have HLr := Lib.hid (fun (w' : World) (kk : Keeps wr w') => HL.out.keep (hkp.trans kk))
      have HKr := Lib.hid (fun (w' : World) (kk : Keeps wr w') => kB.trans (hkp.trans kk))
      have kz := Keeps.refl wr
      clear LF AF AN A1 MB HCL hb hx hy
      by_cases hxy : x < y
      · have hd : decide (x < y) = true := by simpa using hxy
        have hd2 : decide ((x : Int) < (y : Int)) = true := by simpa using hxy
        have HN2 := Lib.hid (HN.out.trans (if_pos hxy))
        clear hxy
        go_wp2_with fail
        go_region_held3 (fun w' => w'.cell? ⟨w.heap.size, 0, none⟩ = some (.slice wa ws.length wc) ∧ w'.cell? ⟨w.heap.size, 1, none⟩ = some (.int .i64 lo) ∧ w'.cell? ⟨w.heap.size, 2, none⟩ = some (.int .i64 hi) ∧ w'.cell? ⟨w.heap.size, 3, none⟩ = some (.slice ra rs.length rc) ∧ Keeps wr w')
          (first | exact HS.out _ (Keeps.refl _).drew | exact HS.out _ (Keeps.refl _) | exact HS.out _ kz | exact HS.out _ kz.drew)
          (first
            | (go_at_call 48
               first
                | (with_reducible refine (LA.out _ (HKr.out _ (by first | exact kz | exact kz.drew)) (HLr.out _ (by first | exact kz | exact kz.drew))).mono ?_)
                | (with_reducible refine (LB.out _ (HKr.out _ (by first | exact kz | exact kz.drew)) (HLr.out _ (by first | exact kz | exact kz.drew))).mono ?_)
               rintro e w4 ⟨rfl, k4⟩
               replace kz : Keeps wr w4 := by first | exact kz.trans k4 | exact kz.trans k4.undrew
               clear k4))
        all_goals
          have kf := hkp.trans kz
          clear HS LA LB HLr HKr
          go_wp2
          go_roundw
          case rel => exact ⟨k + 1, by omega, by omega, by go_num, by rw [HN2.out], by first | exact kf | exact kf.drew⟩
          case measure => simp [intOf]; omega
      · have hd : decide (x < y) = false := by simpa using hxy
        have hd2 : decide ((x : Int) < (y : Int)) = false := by simpa using hxy
        have HN2 := Lib.hid (HN.out.trans (if_neg hxy))
        clear hxy
        go_wp2_with fail
        go_region_held3 (fun w' => w'.cell? ⟨w.heap.size, 0, none⟩ = some (.slice wa ws.length wc) ∧ w'.cell? ⟨w.heap.size, 1, none⟩ = some (.int .i64 lo) ∧ w'.cell? ⟨w.heap.size, 2, none⟩ = some (.int .i64 hi) ∧ w'.cell? ⟨w.heap.size, 3, none⟩ = some (.slice ra rs.length rc) ∧ Keeps wr w')
          (first | exact HS.out _ (Keeps.refl _).drew | exact HS.out _ (Keeps.refl _) | exact HS.out _ kz | exact HS.out _ kz.drew)
          (first
            | (go_at_call 48
               first
                | (with_reducible refine (LA.out _ (HKr.out _ (by first | exact kz | exact kz.drew)) (HLr.out _ (by first | exact kz | exact kz.drew))).mono ?_)
                | (with_reducible refine (LB.out _ (HKr.out _ (by first | exact kz | exact kz.drew)) (HLr.out _ (by first | exact kz | exact kz.drew))).mono ?_)
               rintro e w4 ⟨rfl, k4⟩
               replace kz : Keeps wr w4 := by first | exact kz.trans k4 | exact kz.trans k4.undrew
               clear k4))
        all_goals
          have kf := hkp.trans kz
          clear HS LA LB HLr HKr
          go_wp2
          go_roundw
          case rel => exact ⟨k + 1, by omega, by omega, by go_num, by rw [HN2.out], by first | exact kf | exact kf.drew⟩
          case measure => simp [intOf]; omega
    · obtain rfl : k = ws.length := by omega
      obtain ⟨_, h2, _⟩ := AF.out ws.length (by omega)
      rw [HCL.out] at h2 hb
      dsimp only at h2 hb
      obtain rfl : cB = b := hb
      have LB := Lib.hid (LF.out cB (by omega) a cap wr (kB.trans hkp) (HL.out.keep hkp))
      rw [← h2] at LB
      clear LF AF AN A1 MB HCL h2
      go_wp2_with fail
      refine LB.out.mono ?_
      rintro e w5 ⟨rfl, k5⟩
      go_wp2_with fail
      refine bodyPost_ret (v := .tuple #[.int .i64 cB, .int .i64 lB, .int .i64 0]) (by simp [results, Try.results15, go_sem]) rfl ⟨rfl, (kB.trans hkp).trans k5⟩
theorem refAsk_any (F : Fr) (w : World) (hI : F.In w) : Calls Try.prog 15 #[F.v] w (Ret (.tuple #[.int .i64 (askR F).1.1, .int .i64 (askR F).1.2, .int .i64 (askR F).2]) w) := by
  by_cases h0 : lenE F = 0
  · have hok : F.ok = true := by
      cases h : F.ok
      · rw [lenE_1 h] at h0
        exact absurd h0 (by decide)
      · rfl
    have ht : F.truths ≠ [] := fun h => by
      rw [lenE_10 hok h] at h0
      exact absurd h0 (by decide)
    exact refAsk_yes F w hI hok ht
  · exact refAsk_no F w hI h0
end Go.Proofs.Ytoidnbpbeblokaa
