/-
  Parts: the set of the parts that there are in some truth.
-/
import Derived.IntWalk
import Derived.Test.YtgbojgachgodgaaYe
namespace Go.Proofs.Ytgbojgachgodgaa
open Go.RowKit Go.Shelf

theorem or_nat (a b : Nat) (ha : a < 4611686018427387904) (hb : b < 4611686018427387904) : bits .or .i64 (a : Int) (b : Int) = ((a ||| b : Nat) : Int) := by
  have hx : a ||| b < 2 ^ 62 := Nat.or_lt_two_pow (by omega) (by omega)
  have h1 : (BitVec.ofInt 64 (a : Int)).toNat = a := by
    rw [BitVec.ofInt_natCast, BitVec.toNat_ofNat]; exact Nat.mod_eq_of_lt (by omega)
  have h2 : (BitVec.ofInt 64 (b : Int)).toNat = b := by
    rw [BitVec.ofInt_natCast, BitVec.toNat_ofNat]; exact Nat.mod_eq_of_lt (by omega)
  show IntKind.i64.wrap ((BitVec.ofInt 64 (a : Int) ||| BitVec.ofInt 64 (b : Int)).toNat : Int) = _
  rw [BitVec.toNat_or, h1, h2]
  exact IntWalk.i64_in _ (by omega)
theorem pow_lt (q : Nat) (h : q < 20) : 2 ^ q < 1048576 := by
  have := Nat.pow_lt_pow_right (a := 2) (by omega) h
  omega
theorem or_pow (s q : Nat) (hs : s < 1048576) (hq : q < 20) : bits .or .i64 (s : Int) (wrap64 (2 ^ q)) = ((s ||| 2 ^ q : Nat) : Int) ∧ s ||| 2 ^ q < 1048576 := by
  have hp := pow_lt q hq
  have e : ((2 : Int) ^ q) = ((2 ^ q : Nat) : Int) := by simp
  have e2 : ∀ m : Nat, m < 1048576 → wrap64 (m : Int) = (m : Int) := fun m hm => by unfold wrap64; omega
  rw [e, e2 _ hp]
  exact ⟨or_nat s _ (by omega) (by omega), Nat.or_lt_two_pow (n := 20) (by omega) (by omega)⟩
/-- The set of the parts of fractions. -/
def partSet (fs : List (Int × Int)) : Nat := fs.foldl (fun s f => s ||| 2 ^ f.2.toNat) 0
theorem partSet_snoc (fs : List (Int × Int)) (f : Int × Int) : partSet (fs ++ [f]) = partSet fs ||| 2 ^ f.2.toNat := by simp [partSet]
theorem frs_part {x : Int} (hx : 1 ≤ x) (ts : List Ln) : ∀ f ∈ frs x ts, 0 ≤ f.2 ∧ f.2 < 20 := by
  induction ts using snoc_ind with
  | h0 => intro f hf; exact absurd hf List.not_mem_nil
  | h1 ts y ih =>
    intro f hf
    rw [frs_snoc, frStep] at hf
    split at hf
    · exact ih f hf
    · rcases List.mem_append.1 hf with h | h
      · exact ih f h
      · rw [List.mem_singleton.1 h]
        have hp := partI_bd (wv := x) (n := ((y.val : Nat) : Int)) hx
        unfold partI at hp
        exact ⟨hp.1, by show 20 * (((y.val : Nat) : Int) % x) / x < 20; omega⟩

theorem partSet_lt {fs : List (Int × Int)} (h : ∀ f ∈ fs, 0 ≤ f.2 ∧ f.2 < 20) : partSet fs < 1048576 := by
  induction fs using snoc_ind with
  | h0 => decide
  | h1 fs f ih =>
    rw [partSet_snoc]
    have hf := h f (by simp)
    exact (or_pow _ _ (ih fun g hg => h g (by simp [hg])) (by omega)).2
set_option maxRecDepth 100000 in
set_option maxHeartbeats 1600000 in
theorem Parts1_yes (F : Fr) (c : Nat) (b0 b1 : Nat) (x : Int) (w : World) (hI : F.In w) (hB : In2 F c b0 b1 w) (hok : F.ok = true) (hcw : c < F.ws.length) (hx : F.ws[c]?.getD 0 = x) (ht : F.truths ≠ []) :
    Calls Try.prog 78 #[.pointer (some ⟨b0, 0, none⟩), .pointer (some ⟨b1, 0, none⟩)] w (RetI (partSet (frs x F.truths)) w) := by
  have H1 := Lib.hid (possible_yes F c x w hI hok hcw hx ht)
  have hne := frs_ne (x := x) ht
  have hlen := Nat.le_trans (frs_len x F.truths) (F.truths_len hok)
  have hx1 := F.wave_in hok hcw
  rw [hx] at hx1
  have HP := Lib.hid (frs_part (show 1 ≤ x by omega) F.truths)
  obtain ⟨fs, hfs⟩ : ∃ fs, frs x F.truths = fs := ⟨_, rfl⟩
  rw [hfs] at H1 hne hlen HP ⊢
  obtain ⟨⟨g0, g1, g2, g3⟩, hn⟩ := hB
  obtain ⟨wa, wc, ws, lo, hi, ra, rc, rs⟩ := F
  dsimp only [Fr.v] at *
  clear hok hI ht hfs hx hcw hx1
  go_enter Try.func78, Try.ntmps78
  go_wp2_with fail
  refine H1.out.mono ?_
  rintro e w1 ⟨v, rfl, ⟨hrow, hnil⟩, k1⟩
  have hsp := SpansAt.of_frs hrow
  obtain ⟨a, cap, rfl, hcs0⟩ := hsp
  obtain ⟨g, o, rfl, hcs⟩ := hcs0 hne
  have hg := (hcs 0 (List.length_pos_iff.2 hne)).1
  have hlg := lt_of_cell hg
  have Hcs := Lib.hid hcs
  clear hcs hcs0 hrow hnil hg H1 hne
  go_wp2_with fail
  go_loopw [3, 10] (fun u i wr => ∃ k : Nat, k ≤ fs.length ∧ i = .int .i64 k ∧ u = .int .i64 (partSet (fs.take k)) ∧ Keeps w1 wr) (fun _ i _ => fs.length - (intOf i).toNat)
  case atStart => exact ⟨0, Nat.zero_le _, rfl, rfl, Keeps.refl _⟩
  case round =>
    obtain ⟨k, hk, rfl, rfl, hkp⟩ := hrel
    by_cases hlt : k < fs.length
    · obtain ⟨h1, h2⟩ := Hcs.out k hlt
      replace h1 := hkp.cell h1
      replace h2 := hkp.cell h2
      have hlr := lt_of_cell h1
      have hps := partSet_snoc (fs.take k) fs[k]
      rw [← List.take_succ_eq_append_getElem hlt] at hps
      have hq := HP.out fs[k] (List.getElem_mem hlt)
      rw [show fs[k] = fs[k]?.getD (0, 0) by simp [List.getElem?_eq_getElem hlt]] at hps hq
      obtain ⟨⟨p, q⟩, hpq⟩ : ∃ f, fs[k]?.getD (0, 0) = f := ⟨_, rfl⟩
      rw [hpq] at h1 h2 hps hq
      dsimp only at h1 h2 hps hq
      obtain ⟨hq0, hq1⟩ := hq
      obtain ⟨q, rfl⟩ := Int.eq_ofNat_of_zero_le hq0
      rw [Int.toNat_natCast] at hps
      have hlt20 := partSet_lt (fs := fs.take k) (fun f hf => HP.out f (List.mem_of_mem_take hf))
      obtain ⟨s, hs⟩ : ∃ s, partSet (fs.take k) = s := ⟨_, rfl⟩
      rw [hs] at hps hlt20 ⊢
      have hor := (or_pow s q hlt20 (by omega)).1
      rw [← hps] at hor
      have Hor := Lib.hid hor
      clear hor
      have Hps := Lib.hid hps
      clear hps hpq hs
      have hsz := hkp.size
      go_wp2
      go_roundw
      case rel => exact ⟨k + 1, by omega, by go_num, by rw [Hor.out], hkp.alloc _⟩
      case measure => simp [intOf]; omega
    · obtain rfl : k = fs.length := by omega
      go_wp2
      go_ret
      rw [List.take_length]
      exact ⟨rfl, k1.trans hkp⟩

theorem Parts1_no (F : Fr) (c : Int) (b0 b1 : Nat) (j : Int) (w : World) (hB : In2 F c b0 b1 w) (H : Calls Try.prog 76 #[F.v, .int .i64 c] w (Pan j w)) :
    Calls Try.prog 78 #[.pointer (some ⟨b0, 0, none⟩), .pointer (some ⟨b1, 0, none⟩)] w (Pan j w) := by
  obtain ⟨⟨g0, g1, g2, g3⟩, hn⟩ := hB
  have HH := Lib.hid H
  clear H
  obtain ⟨wa, wc, ws, lo, hi, ra, rc, rs⟩ := F
  dsimp only [Fr.v] at *
  go_enter Try.func78, Try.ntmps78
  go_wp2_with fail
  refine HH.out.mono ?_
  rintro e w1 ⟨rfl, k1⟩
  exact ⟨rfl, rfl, k1⟩
def parS (F : Fr) (c : Int) : Nat := if colE F c = 0 then partSet (frs (F.ws[c.toNat]?.getD 0) F.truths) else 0
theorem Parts_any (F : Fr) (c : Int) (w : World) (hI : F.In w) : Calls Try.prog 26 #[F.v, .int .i64 c] w (Ret (.tuple #[.int .i64 (parS F c), .int .i64 (colE F c)]) w) := by
  refine (Parts_by F c (Is (.int .i64 (parS F c)) (colE F c)) w fun w1 b0 b1 k hB hn => ?_).mono fun _ _ h => h.ret
  have kk : Keeps w1 (w1.alloc (.cells #[.int .i64 0] 30)) := (Keeps.refl _).alloc _
  have hI2 := hI.keep (k.trans kk)
  have hB2 : In2 F c b0 b1 _ := ⟨hB.keep kk, kk.cell hn⟩
  have hpan : ∀ j, colE F c = j → j ≠ 0 → Calls Try.prog 76 #[F.v, .int .i64 c] (w1.alloc (.cells #[.int .i64 0] 30)) (Pan j (w1.alloc (.cells #[.int .i64 0] 30))) →
      Calls Try.prog 61 #[.func (.func 78) #[] #[.pointer (some ⟨b0, 0, none⟩), .pointer (some ⟨b1, 0, none⟩)]] w1 (Ans (Is (.int .i64 (parS F c)) (colE F c)) w1) := by
    intro j hj h0 hp
    have hl : parS F c = 0 := by rw [parS, if_neg (by rw [hj]; exact h0)]
    rw [hj, hl]
    exact ans_int_pan _ _ _ _ (fun w => enter_Parts1 _ w) (Parts1_no F c b0 b1 j _ hB2 hp)
  cases hok : F.ok with
  | false => exact hpan 1 (colE_1 hok) (by decide) (possible_no1 F c _ hI2 hok)
  | true =>
    by_cases hc : c < 0 ∨ F.ws.length ≤ c
    · exact hpan 2 (colE_2 hok hc) (by decide) (possible_no2 F c _ hI2 hok hc)
    by_cases ht : F.truths = []
    · exact hpan 10 (colE_10 hok hc ht) (by decide) (possible_no3 F c _ hI2 hok (by omega) (by omega) ht)
    · have h0 := colE_0 hok hc ht
      have hl : parS F c = partSet (frs (F.ws[c.toNat]?.getD 0) F.truths) := by rw [parS, if_pos h0]
      rw [h0, hl]
      obtain ⟨n, rfl⟩ := Int.eq_ofNat_of_zero_le (show 0 ≤ c by omega)
      rw [Int.toNat_natCast]
      exact ans_int _ _ _ _ (fun w => enter_Parts1 _ w) (Parts1_yes F n b0 b1 _ _ hI2 hB2 hok (by omega) rfl ht)
end Go.Proofs.Ytgbojgachgodgaa
