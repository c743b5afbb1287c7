/-
  The document's own package, of WARM: Clash.
-/
import Derived.Test.YtmhpgjlegajpeaaJ3
namespace Go.Proofs.Ytmhpgjlegajpeaa
open Go.RowKit Go.Shelf
attribute [local go_sem] Oper.semAt_some

theorem full_pop : ∀ n, n < 6 → ∀ k, k < 2 ^ n → popW k = popW (2 ^ n - 1) → k = 2 ^ n - 1 := by decide +kernel
/-- While the sets are gone through: the best one so far. -/
structure BestS (cl : Nat → Bool) (T k b : Nat) : Prop where
  le : b ≤ T
  so : cl b = true
  or : b = T ∨ b < k
  no : ∀ y, y < k → cl y = true → NoLater b y
theorem BestS.yes {cl : Nat → Bool} {T k b : Nat} (h : BestS cl T k b) (hk : k ≤ T) (h1 : popW k < popW b) (h2 : cl k = true) : BestS cl T (k + 1) k := by
  refine ⟨hk, h2, .inr (Nat.lt_succ_self k), fun y hy hc => ?_⟩
  by_cases e : y = k
  · subst e; exact .inr ⟨rfl, Nat.le_refl _⟩
  · rcases h.no y (by omega) hc with h' | ⟨h', _⟩
    · exact .inl (by omega)
    · exact .inl (by omega)
theorem BestS.no' {cl : Nat → Bool} {T k b : Nat} (h : BestS cl T k b) (hT : ∀ k, k ≤ T → popW k = popW T → k = T) (hk : k ≤ T) (h1 : popW k < popW b → cl k = false) : BestS cl T (k + 1) b := by
  refine ⟨h.le, h.so, h.or.imp id (fun h => by omega), fun y hy hc => ?_⟩
  by_cases e : y = k
  · subst e
    by_cases hp : popW y < popW b
    · rw [h1 hp] at hc; cases hc
    · by_cases he : popW b = popW y
      · rcases h.or with rfl | h'
        · have := hT y hk he.symm
          exact .inr ⟨he, by omega⟩
        · exact .inr ⟨he, by omega⟩
      · exact .inl (by omega)
  · exact h.no y (by omega) hc
theorem BestS.done {cl : Nat → Bool} {T b S : Nat} (h : BestS cl T (T + 1) b) (hS : S ≤ T) (hc : cl S = true) (hN : ∀ y, y ≤ T → cl y = true → NoLater S y) : b = S := by
  have h1 := hN b h.le h.so
  have h2 := h.no S (by omega) hc
  rcases h1 with h1 | ⟨h1, h1'⟩ <;> rcases h2 with h2 | ⟨h2, h2'⟩ <;> omega
theorem popW_lt (s : Nat) (h : s < 32) : popW s ≤ 5 := popW_le s h

set_option maxRecDepth 100000 in
set_option maxHeartbeats 6400000 in
theorem refClash_any (B : Wm) (w : World) (hI : B.In w) : Calls Try.prog 30 #[B.v] w (Ret (.tuple #[.int .i64 (B.clashA).1, .int .i64 (B.clashA).2]) w) := by
  have WM := Lib.hid (fun w1 (k : Keeps w w1) => refWarm_any B w1 (hI.keep k))
  have AP := Lib.hid (fun w1 (k : Keeps w w1) (hok : B.ok = true) => refAllPairs_any B w1 (hI.keep k) hok)
  have PS := Lib.hid (fun (s : Nat) w1 (k : Keeps w w1) (hok : B.ok = true) hs => refPairs_any B s w1 (hI.keep k) hok hs)
  have EV := Lib.hid (fun w1 (hok : B.ok = true) => refEvery_any B (ok_rs hok).1 w1)
  have SZ := Lib.hid (fun s (hs : s < 32) w1 => refSize_any s hs w1)
  have h1 : B.ok = false → B.clashA = (0, 1) := fun h => by simp [Wm.clashA, h]
  have h2 : B.ok = true → B.truths.isEmpty = false → B.clashA = (0, 4) := fun h ht => by simp [Wm.clashA, h, few_none ht]
  have h3 : B.ok = true → B.truths.isEmpty = true → _ := fun h ht => clash_facts (B := B) h ht
  have h4 : B.ok = true → ∀ k, k ≤ 2 ^ B.rs.length - 1 → popW k = popW (2 ^ B.rs.length - 1) → k = 2 ^ B.rs.length - 1 := fun h k hk e => by
    have hp := Nat.pow_pos (a := 2) (n := B.rs.length) (by omega)
    have hl := (ok_rs h).1
    exact full_pop _ (by omega) k (by omega) e
  have h5 : B.truths.isEmpty = true → B.ok = true → B.clB (2 ^ B.rs.length - 1) = true := fun h hok => by
    have hl := (ok_rs hok).1
    rw [Wm.clB, wo_full _ (by omega)]; exact h
  have HBN := Lib.hid (fun s => byL_none (B := B) s)
  have BX := Wm.Box.new B w
  obtain ⟨CA, hCA⟩ : ∃ c, B.clashA = c := ⟨_, rfl⟩
  obtain ⟨CL, hCL⟩ : ∃ c, B.clB = c := ⟨_, rfl⟩
  obtain ⟨T, hT⟩ : ∃ T, B.truths = T := ⟨_, rfl⟩
  obtain ⟨BL, hBL⟩ : ∃ f, B.byL = f := ⟨_, rfl⟩
  rw [hT] at AP h2 h3 h5
  rw [hCA] at h1 h2 h3 ⊢
  rw [hCL] at h3 h5 HBN
  rw [hBL] at HBN PS
  obtain ⟨ok, hok⟩ : ∃ b, B.ok = b := ⟨_, rfl⟩
  rw [hok] at WM AP PS EV h1 h2 h3 h4 h5
  obtain ⟨mark, llo, lhi, clo, chi, ra, rc, rs⟩ := B
  dsimp only [Wm.v] at *
  clear hI hok hT hCA hCL hBL
  obtain ⟨W, hW⟩ : ∃ W, w.alloc (.cells #[.int .i64 mark, .int .i64 llo, .int .i64 lhi, .int .i64 clo, .int .i64 chi, .slice ra rs.length rc] 26) = W := ⟨_, rfl⟩
  rw [hW] at BX
  have kB : Keeps w W := by rw [← hW]; exact (Keeps.refl _).alloc _
  obtain ⟨g0, g1, g2, g3, g4, g5⟩ := BX
  dsimp only at g0 g1 g2 g3 g4 g5
  obtain ⟨b0, hb0⟩ : ∃ b0, w.heap.size = b0 := ⟨_, rfl⟩
  rw [hb0] at g0 g1 g2 g3 g4 g5
  cases ok with
  | false =>
    obtain rfl := h1 rfl
    clear h1 h2 h3 h4 h5
    go_enter Try.func30, Try.ntmps30
    go_wp2_with fail
    refine (WM.out _ kB).mono ?_
    rintro e w1 ⟨rfl, k1⟩
    go_wp2_with fail
    refine bodyPost_ret (v := .tuple #[.int .i64 0, .int .i64 1]) ?_ rfl ⟨rfl, kB.trans k1⟩
    simp [results, Try.results30, go_sem]
  | true =>
    by_cases hz : T = []
    · obtain ⟨S, E, e1, e2, e3, e4, e5, e6, _, e7⟩ := h3 rfl (by rw [hz]; rfl)
      subst e1
      have h4 := h4 rfl
      have h5 := h5 (by rw [hz]; rfl) rfl
      rw [e2] at h4 h5 EV
      have HT := Lib.hid h4
      have HF := Lib.hid h5
      have HD := Lib.hid (fun b (h : BestS CL E (E + 1) b) => h.done e5 e6 e7)
      subst hz
      clear h1 h2 h3 h4 h5 e2 e6 e7
      go_enter Try.func30, Try.ntmps30
      go_wp2_with fail
      refine (WM.out _ kB).mono ?_
      rintro e w1 ⟨rfl, k1⟩
      replace g0 := k1.cell g0
      replace g1 := k1.cell g1
      replace g2 := k1.cell g2
      replace g3 := k1.cell g3
      replace g4 := k1.cell g4
      replace g5 := k1.cell g5
      have hl1 := lt_of_cell g0
      go_wp2_with fail
      refine (AP.out _ (kB.trans k1) (by simp)).mono ?_
      rintro e w2 ⟨⟨a, cap, rfl, _⟩, k2⟩
      replace g0 := k2.cell g0
      replace g1 := k2.cell g1
      replace g2 := k2.cell g2
      replace g3 := k2.cell g3
      replace g4 := k2.cell g4
      replace g5 := k2.cell g5
      replace hl1 := lt_of_cell g0
      dsimp only [List.length_nil]
      go_wp2_with fail
      refine (EV.out _ (by simp)).mono ?_
      rintro e w3 ⟨rfl, k3⟩
      replace g0 := k3.cell g0
      replace g1 := k3.cell g1
      replace g2 := k3.cell g2
      replace g3 := k3.cell g3
      replace g4 := k3.cell g4
      replace g5 := k3.cell g5
      replace hl1 := lt_of_cell g0
      have kw := ((kB.trans k1).trans k2).trans k3
      go_wp2_with fail
      go_loopw [4, 5] (fun u i wr => ∃ k b : Nat, k ≤ E + 1 ∧ i = .int .i64 k ∧ u = .int .i64 b ∧ BestS CL E k b ∧ Keeps w3 wr) (fun _ i _ => E + 1 - (intOf i).toNat)
      case atStart => exact ⟨0, E, Nat.zero_le _, rfl, rfl, ⟨Nat.le_refl _, HF.out, .inl rfl, fun y hy => absurd hy (Nat.not_lt_zero _)⟩, Keeps.refl _⟩
      case round =>
        obtain ⟨k, b, hk, rfl, rfl, hb, kr⟩ := hrel
        have HB := Lib.hid hb
        have hbl := hb.le
        have f0 := kr.cell g0
        have f1 := kr.cell g1
        have f2 := kr.cell g2
        have f3 := kr.cell g3
        have f4 := kr.cell g4
        have f5 := kr.cell g5
        have hlf := lt_of_cell f0
        clear hb g0 g1 g2 g3 g4 g5 hl1
        by_cases hle : k ≤ E
        · have SB := Lib.hid (fun w1 => SZ.out b (by omega) w1)
          have SK := Lib.hid (fun w1 => SZ.out k (by omega) w1)
          have hcl := HBN.out k
          have PK := Lib.hid (fun w1 kx => PS.out k w1 kx (by simp) (by omega))
          obtain ⟨bl, hbl2⟩ : ∃ l, BL k = l := ⟨_, rfl⟩
          rw [hbl2] at hcl PK
          have HYES := Lib.hid (fun h1 h2 => HB.out.yes hle h1 h2)
          have HNO := Lib.hid (fun h1 => HB.out.no' HT.out hle h1)
          have p1 := popW_lt b (by omega)
          have p2 := popW_lt k (by omega)
          obtain ⟨pb, hpb⟩ : ∃ p, popW b = p := ⟨_, rfl⟩
          obtain ⟨pk, hpk⟩ : ∃ p, popW k = p := ⟨_, rfl⟩
          rw [hpb] at SB HYES HNO p1
          rw [hpk] at SK HYES HNO p2
          obtain ⟨v, hv⟩ : ∃ v, CL k = v := ⟨_, rfl⟩
          rw [hv] at HYES HNO hcl
          clear hbl2 hpb hpk hv
          go_wp2_with fail
          refine (EV.out _ (by simp)).mono ?_
          rintro e w4 ⟨rfl, k4⟩
          replace f0 := k4.cell f0
          replace f1 := k4.cell f1
          replace f2 := k4.cell f2
          replace f3 := k4.cell f3
          replace f4 := k4.cell f4
          replace f5 := k4.cell f5
          replace hlf := lt_of_cell f0
          by_cases hlt : pk < pb
          · have hd : decide ((pk : Int) < (pb : Int)) = true := decide_eq_true (by omega)
            have HYES := Lib.hid (HYES.out hlt)
            have HNO := Lib.hid (fun h => HNO.out (fun _ => h))
            go_wp2_with fail
            refine (SK.out _).mono ?_
            rintro e w5 ⟨rfl, rfl⟩
            go_wp2_with fail
            refine (SB.out _).mono ?_
            rintro e w5 ⟨rfl, rfl⟩
            go_wp2_with fail
            refine (PK.out _ ((kw.trans kr).trans k4)).mono ?_
            rintro e w6 ⟨⟨a', cap', rfl, _⟩, k6⟩
            cases v with
            | true =>
              have hz : ((bl.length : Int) == 0) = true := by rw [beq_iff_eq] at hcl ⊢; omega
              clear hcl
              go_wp2_with fail
              go_roundw
              case rel => exact ⟨k + 1, k, by omega, by go_num, rfl, HYES.out (by simp), (kr.trans k4).trans k6⟩
              case measure => simp [intOf]; omega
            | false =>
              have hz : ((bl.length : Int) == 0) = false := by rw [beq_eq_false_iff_ne] at hcl ⊢; omega
              clear hcl
              go_wp2_with fail
              go_roundw
              case rel => exact ⟨k + 1, b, by omega, by go_num, rfl, HNO.out (by simp), (kr.trans k4).trans k6⟩
              case measure => simp [intOf]; omega
          · have hd : decide ((pk : Int) < (pb : Int)) = false := decide_eq_false (by omega)
            have HNO := Lib.hid (HNO.out (fun h => absurd h hlt))
            clear HYES hcl
            go_wp2_with fail
            refine (SK.out _).mono ?_
            rintro e w5 ⟨rfl, rfl⟩
            go_wp2_with fail
            refine (SB.out _).mono ?_
            rintro e w5 ⟨rfl, rfl⟩
            go_wp2_with fail
            go_roundw
            case rel => exact ⟨k + 1, b, by omega, by go_num, rfl, HNO.out, kr.trans k4⟩
            case measure => simp [intOf]; omega
        · obtain rfl : k = E + 1 := by omega
          have HS := Lib.hid (HD.out b HB.out)
          have hgt : decide (((E + 1 : Nat) : Int) ≤ (E : Int)) = false := decide_eq_false (by omega)
          go_wp2_with fail
          refine (EV.out _ (by simp)).mono ?_
          rintro e w4 ⟨rfl, k4⟩
          go_wp2_with fail
          refine bodyPost_ret (v := .tuple #[.int .i64 b, .int .i64 0]) ?_ rfl ⟨by rw [HS.out], (kw.trans kr).trans k4⟩
          simp [results, Try.results30, go_sem]
    · have ht : T.isEmpty = false := by cases T with | nil => exact absurd rfl hz | cons _ _ => rfl
      obtain rfl := h2 rfl ht
      have hpos := List.length_pos_iff.2 hz
      clear h1 h2 h3 h4 h5 ht hz
      have hd : decide ((0 : Int) < (T.length : Int)) = true := decide_eq_true (by omega)
      go_enter Try.func30, Try.ntmps30
      go_wp2_with fail
      refine (WM.out _ kB).mono ?_
      rintro e w1 ⟨rfl, k1⟩
      replace g0 := k1.cell g0
      replace g1 := k1.cell g1
      replace g2 := k1.cell g2
      replace g3 := k1.cell g3
      replace g4 := k1.cell g4
      replace g5 := k1.cell g5
      have hl1 := lt_of_cell g0
      go_wp2_with fail
      refine (AP.out _ (kB.trans k1) (by simp)).mono ?_
      rintro e w2 ⟨⟨a, cap, rfl, _⟩, k2⟩
      go_wp2_with fail
      refine bodyPost_ret (v := .tuple #[.int .i64 0, .int .i64 4]) ?_ rfl ⟨rfl, (kB.trans k1).trans k2⟩
      simp [results, Try.results30, go_sem]
end Go.Proofs.Ytmhpgjlegajpeaa
