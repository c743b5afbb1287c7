/-
  The document's own answers: Wrong, Clash.
-/
import Derived.Test.YtoidnbpbeblokaaPe
import Derived.Test.YtoidnbpbeblokaaUb
namespace Go.Proofs.Ytoidnbpbeblokaa
open Go.RowKit Go.Shelf

/-- The best one of the sets below k that suit; T, if none has fewer. -/
def bestTo (P : Nat → Bool) (T : Nat) : Nat → Nat
  | 0 => T
  | k + 1 => if pop k < pop (bestTo P T k) ∧ P k = true then k else bestTo P T k
theorem bits_top : ∀ n : Nat, n < 7 → ∀ s : Nat, s < 64 → s < 2 ^ n → pop s = pop (2 ^ n - 1) → s = 2 ^ n - 1 := by decide +kernel
theorem bits_minus : ∀ n : Nat, n < 7 → ∀ s : Nat, s < 64 → s < 2 ^ n → 2 ^ n - 1 - s = cm (2 ^ n - 1) s := by decide +kernel
theorem bestTo_facts {n : Nat} (hn : n ≤ 6) {P : Nat → Bool} (hT : P (2 ^ n - 1) = true) : ∀ k, k ≤ 2 ^ n → P (bestTo P (2 ^ n - 1) k) = true ∧ bestTo P (2 ^ n - 1) k < 2 ^ n ∧ (bestTo P (2 ^ n - 1) k < k ∨ bestTo P (2 ^ n - 1) k = 2 ^ n - 1) ∧ ∀ y, y < k → P y = true → NoLater (bestTo P (2 ^ n - 1) k) y := by
  have hp := Nat.pow_pos (a := 2) (n := n) (by omega)
  have h64 : 2 ^ n ≤ 64 := Nat.le_trans (Nat.pow_le_pow_right (by omega) hn) (by decide)
  intro k
  induction k with
  | zero => intro _; exact ⟨hT, by show 2 ^ n - 1 < 2 ^ n; omega, .inr rfl, fun y hy => absurd hy (by omega)⟩
  | succ k ih =>
    intro hk
    obtain ⟨h1, h2, h3, h4⟩ := ih (by omega)
    obtain ⟨b, hb⟩ : ∃ b, bestTo P (2 ^ n - 1) k = b := ⟨_, rfl⟩
    have hbs : bestTo P (2 ^ n - 1) (k + 1) = if pop k < pop b ∧ P k = true then k else b := by rw [bestTo, hb]
    rw [hb] at h1 h2 h3 h4
    rw [hbs]
    by_cases h : pop k < pop b ∧ P k = true
    · rw [if_pos h]
      refine ⟨h.2, by omega, .inl (by omega), fun y hy hpy => ?_⟩
      by_cases e : y = k
      · subst e
        exact .inr ⟨rfl, Nat.le_refl _⟩
      · have h5 := h4 y (by omega) hpy
        have h6 := h.1
        unfold NoLater at h5 ⊢
        omega
    · rw [if_neg h]
      refine ⟨h1, h2, by omega, fun y hy hpy => ?_⟩
      by_cases e : y = k
      · subst e
        have h6 : ¬ pop y < pop b := fun h' => h ⟨h', hpy⟩
        unfold NoLater
        by_cases h7 : pop b < pop y
        · exact .inl h7
        · refine .inr ⟨by omega, ?_⟩
          rcases h3 with h3 | h3
          · omega
          · have := bits_top n (by omega) y (by omega) (by omega) (by rw [← h3]; omega)
            omega
      · exact h4 y (by omega) hpy
theorem no_later_eq {a b : Nat} (h : NoLater a b) (h' : NoLater b a) : a = b := by
  unfold NoLater at h h'
  omega
theorem best_wrong (F : Fr) (hok : F.ok = true) : bestTo F.agreeW (2 ^ F.rs.length - 1) (2 ^ F.rs.length) = setOf F.wrong := by
  have hl := F.gl_in hok
  have e := F.gs_len
  obtain ⟨w1, w2, w3⟩ := wrong_facts F hok
  have hf := agree_full F hok
  rw [e] at hl w1 w3 hf
  obtain ⟨b1, b2, _, b4⟩ := bestTo_facts hl hf (2 ^ F.rs.length) (Nat.le_refl _)
  exact no_later_eq (b4 _ w1 w2) (w3 _ b2 b1)
theorem best_clash (F : Fr) (hok : F.ok = true) {x : St} (hx : F.clash = some x) : bestTo F.clB (2 ^ F.rs.length - 1) (2 ^ F.rs.length) = x.val := by
  have hl := F.gl_in hok
  have e := F.gs_len
  have hp := Nat.pow_pos (a := 2) (n := F.rs.length) (by omega)
  have h64 := pow_le F hok
  obtain ⟨c1, c2, c3⟩ := clash_some F hok hx
  have hT : F.clB (2 ^ F.rs.length - 1) = true := by
    have h0 : F.agreeW 0 = false := by
      cases h : F.agreeW 0
      · rfl
      · rw [clash_is_none F hok h] at hx
        cases hx
    unfold Fr.clB
    rw [e, (bits_cc F.rs.length (by omega) 0 (by omega) (by omega)).2.2.2, h0]
    rfl
  rw [e] at hl c1 c2 c3
  obtain ⟨b1, b2, _, b4⟩ := bestTo_facts hl hT (2 ^ F.rs.length) (Nat.le_refl _)
  refine no_later_eq (b4 _ c2 ?_) (c3 _ b2 ?_)
  · unfold Fr.clB
    rw [e, c1]
    rfl
  · have b2' : (!F.agreeW (cm (2 ^ F.gs.length - 1) (bestTo F.clB (2 ^ F.rs.length - 1) (2 ^ F.rs.length)))) = true := b1
    rw [e] at b2'
    rw [Bool.not_eq_true'] at b2'
    exact b2'
theorem sel_clash (F : Fr) (hok : F.ok = true) {s : Nat} (hs : s < 2 ^ F.rs.length) : (lens F.lo.toNat F.hi.toNat (F.selG s)).isEmpty = F.clB s := by
  have h := sub_gs F hok (by rw [F.gs_len]; exact hs) none 0
  have e : F.selG s = wo F.gs (cm (2 ^ F.gs.length - 1) s) := h
  rw [e, Fr.clB, Fr.agreeW, agreeB, Bool.not_not]
theorem sel_wrong (F : Fr) (hok : F.ok = true) {s : Nat} (hs : s < 2 ^ F.rs.length) : (lens F.lo.toNat F.hi.toNat (F.selG (2 ^ F.rs.length - 1 - s))).isEmpty = !F.agreeW s := by
  have hl := F.gl_in hok
  have h64 := pow_le F hok
  have e := F.gs_len
  rw [e] at hl h64
  rw [sel_clash F hok (by omega), Fr.clB, e, bits_minus F.rs.length (by omega) s (by omega) hs, (bits_cc F.rs.length (by omega) s (by omega) hs).1]
theorem refSize_same (s : Nat) (hs : s < 64) (p : Nat) (hp : pop s = p) (w : World) : Calls Try.prog 37 #[.int .i64 s] w fun e w' => e = .returned (.int .i64 p) ∧ w' = w := (refSize_is s hs p hp w).mono fun _ _ h => ⟨h.1, h.2.symm⟩
theorem refSel_any (F : Fr) (s : Nat) (hs : s < 64) (b : Bool) (hb : (lens F.lo.toNat F.hi.toNat (F.selG s)).isEmpty = b) (w : World) (hI : F.In w) (hok : F.ok = true) : Calls Try.prog 60 #[F.v, .int .i64 s] w fun e w' => ∃ a n cap, e = .returned (.slice a n cap) ∧ ((n : Int) == 0) = b ∧ decide (0 < n) = !b ∧ decide ((0 : Int) < (n : Int)) = !b ∧ n ≤ 401 ∧ Keeps w w' := by
  refine (refTruths_any F s hs w hI hok).mono ?_
  rintro e w' ⟨a, cap, rfl, _, k⟩
  have hl : (lens F.lo.toNat F.hi.toNat (F.selG s)).length ≤ 401 := by
    obtain ⟨l1, l2, l3, l4⟩ := F.len_in hok
    refine Nat.le_trans (lensTo_len _ _ _) ?_
    omega
  have e : (intsOf (lens F.lo.toNat F.hi.toNat (F.selG s))).length = (lens F.lo.toNat F.hi.toNat (F.selG s)).length := by simp [intsOf]
  refine ⟨a, _, cap, rfl, ?_, ?_, ?_, by omega, k⟩
  all_goals
    rw [e]
    cases hL : lens F.lo.toNat F.hi.toNat (F.selG s) with
    | nil => rw [hL] at hb; subst hb; rfl
    | cons x l => rw [hL] at hb; subst hb; simp <;> omega
set_option maxRecDepth 100000 in
set_option maxHeartbeats 6400000 in
theorem refWrong_no (F : Fr) (w : World) (hI : F.In w) (hok : F.ok = false) : Calls Try.prog 17 #[F.v] w (Ret (.tuple #[.int .i64 (pop (wrongR F).1), .int .i64 (wrongR F).1, .int .i64 (wrongR F).2]) w) := by
  have CH := Lib.hid (fun w1 (k : Keeps w w1) => refCheck_any F w1 (hI.keep k))
  rw [hok] at CH
  rw [show wrongR F = (0, 1) by simp [wrongR, hok]]
  try rw [show pop (0, (1 : Int)).1 = 0 from by decide]
  obtain ⟨wa, wc, ws, lo, hi, ra, rc, rs⟩ := F
  dsimp only [Fr.v] at *
  clear hI hok
  have kB := (Keeps.refl w).alloc (.cells #[.slice wa ws.length wc, .int .i64 lo, .int .i64 hi, .slice ra rs.length rc] 27)
  go_enter Try.func17, Try.ntmps17
  go_wp2_with fail
  refine (CH.out _ kB).mono ?_
  rintro e w1 ⟨rfl, k1⟩
  clear CH
  go_wp2_with fail
  go_ret3
  exact ⟨rfl, kB.trans k1⟩
set_option maxRecDepth 100000 in
set_option maxHeartbeats 6400000 in
theorem refWrong_yes (F : Fr) (w : World) (hI : F.In w) (hok : F.ok = true) : Calls Try.prog 17 #[F.v] w (Ret (.tuple #[.int .i64 (pop (wrongR F).1), .int .i64 (wrongR F).1, .int .i64 (wrongR F).2]) w) := by
  have CH := Lib.hid (fun w1 (k : Keeps w w1) => refCheck_any F w1 (hI.keep k))
  rw [hok] at CH
  have h6 := F.rl_in hok
  have EV := Lib.hid (fun w1 => refEvery_any F h6 w1)
  have h64 := pow_le F hok
  rw [F.gs_len] at h64
  have hp := Nat.pow_pos (a := 2) (n := F.rs.length) (by omega)
  have hBW := best_wrong F hok
  rw [show wrongR F = (setOf F.wrong, 0) by simp [wrongR, hok]]
  dsimp only
  have BF := Lib.hid (fun k hk => bestTo_facts h6 (by have := agree_full F hok; rw [F.gs_len] at this; exact this) k hk)
  have SZ := Lib.hid (fun (s p : Nat) (hs : s < 64) (hp : pop s = p) w1 => refSize_same s hs p hp w1)
  have P6 := Lib.hid (fun (s : Nat) (hs : s < 64) => (bits_pop0 s hs).1)
  have SEL := Lib.hid (fun (s : Nat) (hs : s < 2 ^ F.rs.length) b (hb : (!F.agreeW s) = b) w1 (k : Keeps w w1) => refSel_any F (2 ^ F.rs.length - 1 - s) (by omega) b ((sel_wrong F hok hs).trans hb) w1 (hI.keep k) hok)
  obtain ⟨P, hPe⟩ : ∃ P, F.agreeW = P := ⟨_, rfl⟩
  rw [hPe] at SEL BF hBW
  obtain ⟨T, hT2⟩ : ∃ T, 2 ^ F.rs.length = T + 1 := ⟨2 ^ F.rs.length - 1, by omega⟩
  rw [hT2] at EV BF SEL hBW h64
  rw [Nat.add_sub_cancel] at EV BF SEL hBW
  obtain ⟨R, hR⟩ : ∃ R, setOf F.wrong = R := ⟨_, rfl⟩
  rw [hR] at hBW ⊢
  have hB := Fr.Box.new F w
  have HBW := Lib.hid hBW
  obtain ⟨wa, wc, ws, lo, hi, ra, rc, rs⟩ := F
  dsimp only [Fr.v] at *
  clear hI hok hp hPe hT2 hR hBW h6
  have kB := (Keeps.refl w).alloc (.cells #[.slice wa ws.length wc, .int .i64 lo, .int .i64 hi, .slice ra rs.length rc] 27)
  go_enter Try.func17, Try.ntmps17
  go_wp2_with fail
  refine (CH.out _ kB).mono ?_
  rintro e w1 ⟨rfl, k1⟩
  replace hB := hB.keep k1
  replace kB := kB.trans k1
  have HB := Lib.hid hB
  obtain ⟨g0, g1, g2, g3⟩ := hB
  dsimp only at g0 g1 g2 g3
  have hgl := lt_of_cell g0
  clear CH k1
  go_wp2_with fail
  refine (EV.out _).mono ?_
  rintro e w2 ⟨rfl, k2⟩
  replace HB := Lib.hid (HB.out.keep k2)
  replace kB := kB.trans k2
  clear k2 g0 g1 g2 g3 hgl
  go_wp2_with fail
  go_loopw [6, 7] (fun b i wr => ∃ k : Nat, k ≤ T + 1 ∧ i = .int .i64 k ∧ b = .int .i64 ((bestTo P T k : Nat) : Int) ∧ Keeps w2 wr) (fun _ i _ => T + 1 - (intOf i).toNat)
  case atStart => exact ⟨0, Nat.zero_le _, rfl, rfl, Keeps.refl _⟩
  case round =>
    obtain ⟨k, hk, rfl, rfl, hkp⟩ := hrel
    have hBx := HB.out.keep hkp
    obtain ⟨g0, g1, g2, g3⟩ := hBx
    dsimp only at g0 g1 g2 g3
    have hgl := lt_of_cell g0
    obtain ⟨_, hb2, _, _⟩ := BF.out k hk
    have hbs : bestTo P T (k + 1) = if pop k < pop (bestTo P T k) ∧ P k = true then k else bestTo P T k := rfl
    have HBS := Lib.hid hbs
    obtain ⟨b, hb⟩ : ∃ b, bestTo P T k = b := ⟨_, rfl⟩
    rw [hb] at hb2 HBS ⊢
    have HBb := Lib.hid hb
    clear hbs hb
    go_wp2_with fail
    refine (EV.out _).mono ?_
    rintro e w3 ⟨rfl, k3⟩
    replace g0 := k3.cell g0
    replace g1 := k3.cell g1
    replace g2 := k3.cell g2
    replace g3 := k3.cell g3
    replace hgl := lt_of_cell g0
    replace hkp := hkp.trans k3
    clear k3
    by_cases hlt : k ≤ T
    · obtain ⟨pk, hpk⟩ : ∃ p, pop k = p := ⟨_, rfl⟩
      obtain ⟨pb, hpb⟩ : ∃ p, pop b = p := ⟨_, rfl⟩
      have SK := Lib.hid (fun w1 => SZ.out k pk (by omega) hpk w1)
      have SB := Lib.hid (fun w1 => SZ.out b pb (by omega) hpb w1)
      have hk6 := P6.out k (by omega)
      have hb6 := P6.out b (by omega)
      rw [hpk] at HBS hk6
      rw [hpb] at HBS hb6
      clear hpk hpb
      by_cases hg : pk < pb
      · have hd : decide (pk < pb) = true := by simpa using hg
        have hd2 : decide ((pk : Int) < (pb : Int)) = true := by simpa using hg
        obtain ⟨u, hu⟩ : ∃ u, P k = u := ⟨_, rfl⟩
        rw [hu] at HBS
        have TR := Lib.hid (fun w1 kk => SEL.out k (by omega) _ (by rw [hu]) w1 kk)
        have e1 : IntKind.i64.wrap ((T : Int) - (k : Int)) = ((T - k : Nat) : Int) := (IntWalk.i64_in _ (by constructor <;> omega)).trans (by omega)
        have HS := Lib.hid (fun (w' : World) (kk : Keeps w3 w') => show w'.cell? ⟨w.heap.size, 0, none⟩ = some (.slice wa ws.length wc) ∧ w'.cell? ⟨w.heap.size, 1, none⟩ = some (.int .i64 lo) ∧ w'.cell? ⟨w.heap.size, 2, none⟩ = some (.int .i64 hi) ∧ w'.cell? ⟨w.heap.size, 3, none⟩ = some (.slice ra rs.length rc) ∧ Keeps w3 w' from ⟨kk.cell g0, kk.cell g1, kk.cell g2, kk.cell g3, kk⟩)
        have HK := Lib.hid (fun (w' : World) (kk : Keeps w3 w') => kB.trans (hkp.trans kk))
        have kz := Keeps.refl w3
        have HBT := Lib.hid (fun (h : u = true) => HBS.out.trans (if_pos ⟨hg, h⟩))
        have HBF := Lib.hid (fun (h : u = false) => HBS.out.trans (if_neg (fun h' => by rw [h] at h'; exact absurd h'.2 (by decide))))
        clear hu SEL SZ P6 BF HBW
        cases u
        all_goals
          go_wp2_with fail
          skip
          go_region_held3 (fun w' => w'.cell? ⟨w.heap.size, 0, none⟩ = some (.slice wa ws.length wc) ∧ w'.cell? ⟨w.heap.size, 1, none⟩ = some (.int .i64 lo) ∧ w'.cell? ⟨w.heap.size, 2, none⟩ = some (.int .i64 hi) ∧ w'.cell? ⟨w.heap.size, 3, none⟩ = some (.slice ra rs.length rc) ∧ Keeps w3 w')
            (first | exact HS.out _ (Keeps.refl _).drew | exact HS.out _ (Keeps.refl _) | exact HS.out _ kz | exact HS.out _ kz.drew)
            (first
              | (go_at_call 37
                 first
                  | (with_reducible refine (SK.out _).mono ?_)
                  | (with_reducible refine (SB.out _).mono ?_)
                 rintro e w4 ⟨rfl, rfl⟩)
              | (go_at_call 59; refine (EV.out _).mono ?_; rintro e w5 ⟨rfl, k5⟩; replace kz : Keeps w3 w5 := by (first | exact kz.trans k5 | exact kz.trans k5.undrew))
              | (go_at_call 60; refine (TR.out _ (HK.out _ (by first | exact kz | exact kz.drew))).mono ?_; rintro e w6 ⟨a6, n6, c6, rfl, t1, t2, t3, t4, k6⟩; replace kz : Keeps w3 w6 := by (first | exact kz.trans k6 | exact kz.trans k6.undrew)))
          all_goals
            have kf := hkp.trans kz
            clear HS HK TR SK SB
            go_wp2
            skip
            go_roundw
            case rel => exact ⟨k + 1, by omega, by go_num, by first | rw [HBT.out (by first | rfl | trivial)] | rw [HBF.out (by first | rfl | trivial)], by first | exact kf | exact kf.drew⟩
            case measure => simp [intOf]; omega
      · have hd : decide (pk < pb) = false := by simpa using hg
        have hd2 : decide ((pk : Int) < (pb : Int)) = false := by simpa using hg
        have HBS2 := Lib.hid (HBS.out.trans (if_neg (fun h => hg h.1)))
        clear hg SEL SZ P6 BF HBW
        go_wp2_with fail
        go_big_quiet ((go_at_call 37; first | (with_reducible exact Calls.quiet_of_same (SK.out _)) | (with_reducible exact Calls.quiet_of_same (SB.out _))))
        go_wp2
        go_roundw
        case rel => exact ⟨k + 1, by omega, by go_num, by rw [HBS2.out], by first | exact hkp | exact hkp.drewN _⟩
        case measure => simp [intOf]; omega
    · obtain rfl : k = T + 1 := by omega
      obtain rfl : b = R := HBb.out.symm.trans HBW.out
      have SB := Lib.hid (SZ.out b _ (by omega) rfl w3)
      obtain ⟨pb, hpb⟩ : ∃ p, pop b = p := ⟨_, rfl⟩
      rw [hpb] at SB
      clear SEL SZ P6 BF HBS HBb HBW
      go_wp2_with fail
      refine SB.out.mono ?_
      rintro e w4 ⟨rfl, rfl⟩
      go_wp2_with fail
      skip
      go_ret3
      exact ⟨by rw [hpb]; rfl, kB.trans hkp⟩
end Go.Proofs.Ytoidnbpbeblokaa
