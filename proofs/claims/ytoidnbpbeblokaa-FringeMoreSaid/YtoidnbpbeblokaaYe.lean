/-
  Whole: the whole fringes that there are in some truth, each once.
  Parts: the set of the parts that there are in some truth.
  Ints, Spans: are two lists the same?
-/
import Derived.Lib.LazyBuf
import Derived.Test.YtoidnbpbeblokaaYd
import Derived.Test.YtoidnbpbeblokaaWm
import Derived.IntWalk
import Derived.Laws.StructEq
namespace Go.Proofs.Ytoidnbpbeblokaa
open Go.RowKit Go.Shelf

theorem frs_ne {x : Int} {ts : List Ln} (h : ts ≠ []) : frs x ts ≠ [] := by
  rcases List.eq_nil_or_concat ts with rfl | ⟨l, y, rfl⟩
  · exact absurd rfl h
  · rw [List.concat_eq_append, frs_snoc, frStep]
    split
    · rename_i hm; intro e; rw [e] at hm; exact absurd hm List.not_mem_nil
    · simp
/-- The whole fringes of the truths. -/
def whs (x : Int) (ts : List Ln) : List Int := Lib.compact ((frs x ts).map (·.1))
theorem info_int : (Try.prog.info? 3).map (fun i => (i.zero, i.size, i.bytes)) = some (some (.int .i64 0), 1, 8) := by kernel_rfl
/-- The slice v holds these ints, in a block from m on. -/
def IntsAt (m : Nat) (w : World) (v : Value) (xs : List Int) : Prop := ∃ a cap, v = .slice a xs.length cap ∧ Ints w a xs ∧ ∀ b o, a = some ⟨b, o, none⟩ → m ≤ b
theorem IntsAt.nil (m : Nat) (w : World) : IntsAt m w (.slice none 0 0) [] := ⟨none, 0, rfl, fun h => absurd rfl h, fun _ _ e => by cases e⟩
theorem IntsAt.keep {m : Nat} {w w' : World} {v : Value} {xs : List Int} (h : IntsAt m w v xs) (k : Keeps w w') : IntsAt m w' v xs := by
  obtain ⟨a, cap, h1, h2, h3⟩ := h
  exact ⟨a, cap, h1, h2.keep k, h3⟩
theorem IntsAt.mono {m m' : Nat} {w : World} {v : Value} {xs : List Int} (h : IntsAt m w v xs) (k : m' ≤ m) : IntsAt m' w v xs := by
  obtain ⟨a, cap, h1, h2, h3⟩ := h
  exact ⟨a, cap, h1, h2, fun b o e => Nat.le_trans k (h3 b o e)⟩
theorem IntsAt.set {m B o' : Nat} {w : World} {v u : Value} {xs : List Int} (h : IntsAt m w v xs) (hB : B < m) : IntsAt m (w.setCell ⟨B, o', none⟩ u) v xs := by
  obtain ⟨a, cap, h1, h2, h3⟩ := h
  exact ⟨a, cap, h1, fun hx => by
    obtain ⟨b, o, e, hc⟩ := h2 hx
    exact ⟨b, o, e, fun i hi => (cell_set_other (by have := h3 b o e; omega)).trans (hc i hi)⟩, h3⟩

theorem compact_len (zs : List Int) : (Lib.compact zs).length ≤ zs.length := by
  simp only [Lib.compact, Lib.compactUpTo, List.length_map]
  exact Nat.le_trans (List.length_filter_le _ _) (by simp)
/-- Compact, of a row that is the call's own. -/
theorem compact_own (base g cap n : Nat) (zs : List Int) (w0 w : World) (hn : n = zs.length) (hne : n < 1000) (hb : w0.heap.size ≤ base) (k0 : Keeps w0 w) (h : w.ownsRow base 3 1 (.slice (some ⟨g, 0, none⟩) n cap) n (zs.map (Value.int .i64))) :
    Calls Try.prog 77 #[.slice (some ⟨g, 0, none⟩) n cap] w fun e w' => ∃ v, e = .returned v ∧ IntsAt base w' v (Lib.compact zs) ∧ Keeps w0 w' := by
  have hg := ownsRow_base h
  have hcap : n ≤ cap := by
    rcases h.2 with ⟨h1, _⟩ | ⟨g', c', cur, h1, _, _, h2, _⟩
    · simp at h1
    · simp only [Value.slice.injEq] at h1; omega
  have hcell : ∀ j, j < zs.length → w.cell? ⟨g, 0 + j, none⟩ = some (.int .i64 (zs.getD j 0)) := by
    intro j hj
    rw [Nat.zero_add, h.cellAt j (by omega)]
    simp [List.getElem?_map, List.getElem?_eq_getElem hj, List.getD]
  refine (compact_cells g 0 n cap zs w (by omega) (by omega) hcap hcell (fun j _ => by rw [Nat.zero_add]; exact h.frozenAt j)).mono ?_
  rintro e w' ⟨rfl, q, rfl⟩
  rw [hn, List.take_length]
  have hl := compact_len zs
  refine ⟨_, rfl, ⟨some ⟨g, 0, none⟩, cap, rfl, fun hx => ⟨g, 0, rfl, fun i hi => ?_⟩, fun b o e => by cases e; exact hg⟩, below_setCells (by omega) _ _ _ (k0.drewN q)⟩
  have hset := World.cell?_setCells_in g ((Lib.compact zs ++ List.replicate (zs.length - (Lib.compact zs).length) 0).map (Value.int .i64)) 0 (w.drewN q) (fun j hj => by
    have hj' : j < zs.length := by simp at hj; omega
    show (w.cell? ⟨g, 0 + j, none⟩).isSome = true
    rw [hcell j hj']; rfl) i (by simp; omega)
  rw [hset, List.getElem_map, List.getElem_append_left hi]
  simp [List.getElem?_eq_getElem hi]

theorem SpansAt.of_frs {w : World} {base : Nat} {v : Value} {l : List Sp} (h : w.ownsRow base 110 2 v l.length (spCells l)) : SpansAt w v l := by
  rcases h.2 with ⟨rfl, h0⟩ | ⟨g, cap, cur, rfl, h2, h3, h4, h5, h6, h7⟩
  · obtain rfl : l = [] := List.length_eq_zero_iff.1 h0
    exact SpansAt.nil w
  · refine ⟨some ⟨g, 0, none⟩, cap, rfl, fun _ => ⟨g, 0, rfl, fun i hi => ?_⟩⟩
    have hc := spCells_at l i hi
    rw [Nat.zero_add]
    exact ⟨(h.cellAt (i * 2) (by omega)).trans hc.1, (h.cellAt (i * 2 + 1) (by omega)).trans hc.2⟩

set_option maxRecDepth 100000 in
set_option maxHeartbeats 1600000 in
theorem Whole1_yes (F : Fr) (c : Nat) (b0 b1 : Nat) (x : Int) (w : World) (hI : F.In w) (hB : In2 F c b0 b1 w) (hok : F.ok = true) (hcw : c < F.ws.length) (hx : F.ws[c]?.getD 0 = x) (ht : F.truths ≠ []) :
    Calls Try.prog 75 #[.pointer (some ⟨b0, 0, none⟩), .pointer (some ⟨b1, 0, none⟩)] w fun e w' => ∃ v, e = .returned v ∧ IntsAt w.heap.size w' v (whs x F.truths) ∧ Keeps w w' := by
  have H1 := Lib.hid (possible_yes F c x w hI hok hcw hx ht)
  have hne := frs_ne (x := x) ht
  have hlen := Nat.le_trans (frs_len x F.truths) (F.truths_len hok)
  have hwh : whs x F.truths = Lib.compact ((frs x F.truths).map (·.1)) := rfl
  obtain ⟨fs, hfs⟩ : ∃ fs, frs x F.truths = fs := ⟨_, rfl⟩
  rw [hfs] at H1 hne hlen hwh
  obtain ⟨⟨g0, g1, g2, g3⟩, hn⟩ := hB
  obtain ⟨wa, wc, ws, lo, hi, ra, rc, rs⟩ := F
  dsimp only [Fr.v] at *
  have Hwh := Lib.hid hwh
  clear hok hI ht hfs hx hcw hwh
  obtain ⟨i0, hi, hz0, hz1, hz2⟩ := info_parts info_int
  go_enter Try.func75, Try.ntmps75
  go_wp2_with fail
  refine H1.out.mono ?_
  rintro e w1 ⟨v, rfl, ⟨hrow, hnil⟩, k1⟩
  have hsp := SpansAt.of_frs hrow
  obtain ⟨a, cap, rfl, hcs0⟩ := hsp
  obtain ⟨g, o, rfl, hcs⟩ := hcs0 hne
  have hg := (hcs 0 (List.length_pos_iff.2 hne)).1
  have hlg := lt_of_cell hg
  have Hcs := Lib.hid hcs
  have hpos := List.length_pos_iff.2 hne
  clear hcs hcs0 hrow hnil hg H1 hne
  go_wp2_with fail
  go_loopw [3, 10] (fun u i wr => ∃ k : Nat, k ≤ fs.length ∧ i = .int .i64 k ∧ wr.ownsRow w1.heap.size 3 1 u k (((fs.take k).map (·.1)).map (Value.int .i64)) ∧ Keeps w1 wr) (fun _ i _ => fs.length - (intOf i).toNat)
  case atStart => exact ⟨0, Nat.zero_le _, rfl, World.ownsRow_nil _ _ _ _, Keeps.refl _⟩
  case round =>
    obtain ⟨k, hk, rfl, hown, hkp⟩ := hrel
    by_cases hlt : k < fs.length
    · obtain ⟨h1, h2⟩ := Hcs.out k hlt
      replace h1 := hkp.cell h1
      replace h2 := hkp.cell h2
      have hlr := lt_of_cell h1
      have htk : ((fs.take (k + 1)).map (·.1)).map (Value.int .i64) = ((fs.take k).map (·.1)).map (Value.int .i64) ++ [.int .i64 (fs[k]?.getD (0, 0)).1] := by
        rw [List.take_succ_eq_append_getElem hlt, List.map_append, List.map_append]
        simp only [List.map_cons, List.map_nil, List.getElem?_eq_getElem hlt, Option.getD_some]
      obtain ⟨⟨p, q⟩, hpq⟩ : ∃ f, fs[k]?.getD (0, 0) = f := ⟨_, rfl⟩
      rw [hpq] at h1 h2 htk
      dsimp only at h1 h2 htk
      have Htk := Lib.hid htk
      clear htk hpq
      have hsz := hkp.size
      go_wp2_with (at_builtin; refine wpList_append_own _ rfl _ _ 22 rfl w1.heap.size 3 i0 (.int .i64 0) 1 8 Try.underlying22 hi hz0 hz1 hz2 rfl (by decide) _ _ _ rfl ((hown.alloc _).alloc _) ⟨wr.heap.size + 1, 0, none⟩ 1 1 [.int .i64 p] rfl rfl (by simp [go_sem]) (by simp [Value.oneCell']) (by unfold maxLen; omega) (by omega) (by simp; omega) ?_; intro v' w4 hown' hgrow _)
      have hk4 : Keeps w1 w4 := Below.grown ((hkp.alloc _).alloc _) hgrow (by simp; omega) (fun j e => (hown.lt j e).1)
      rw [← Htk.out] at hown'
      clear hown hkp hgrow
      go_wp2
      go_roundw
      case rel => exact ⟨k + 1, by omega, by go_num, hown', hk4⟩
      case measure => simp [intOf]; omega
    · obtain rfl : k = fs.length := by omega
      rcases own_cases hown with rfl | ⟨g', cap', rfl⟩
      · rcases hown.2 with ⟨_, h0⟩ | ⟨g1, c1, cur, h1, _⟩
        · omega
        · cases h1
      rw [List.take_length] at hown
      have HC := Lib.hid (compact_own w1.heap.size g' cap' fs.length (fs.map (·.1)) w1 wr (by simp) (by omega) (Nat.le_refl _) hkp hown)
      clear hown
      go_wp2_with fail
      refine HC.out.mono ?_
      rintro e w5 ⟨v, rfl, hv, k5⟩
      have hv2 := Lib.hid (hv.mono k1.size)
      clear hv
      go_wp2_with fail
      go_ret
      exact ⟨v, rfl, by rw [Hwh.out]; exact hv2.out, k1.trans k5⟩

/-- What Whole's inner function panics with. -/
theorem Whole1_no (F : Fr) (c : Int) (b0 b1 : Nat) (j : Int) (w : World) (hB : In2 F c b0 b1 w) (H : Calls Try.prog 76 #[F.v, .int .i64 c] w (Pan j w)) :
    Calls Try.prog 75 #[.pointer (some ⟨b0, 0, none⟩), .pointer (some ⟨b1, 0, none⟩)] w (Pan j w) := by
  obtain ⟨⟨g0, g1, g2, g3⟩, hn⟩ := hB
  have HH := Lib.hid H
  clear H
  obtain ⟨wa, wc, ws, lo, hi, ra, rc, rs⟩ := F
  dsimp only [Fr.v] at *
  go_enter Try.func75, Try.ntmps75
  go_wp2_with fail
  refine HH.out.mono ?_
  rintro e w1 ⟨rfl, k1⟩
  exact ⟨rfl, rfl, k1⟩

/-- The error of Whole and of Parts. -/
def colE (F : Fr) (c : Int) : Int := if F.ok = false then 1 else if c < 0 ∨ F.ws.length ≤ c then 2 else if F.truths = [] then 10 else 0
def whoL (F : Fr) (c : Int) : List Int := if colE F c = 0 then whs (F.ws[c.toNat]?.getD 0) F.truths else []
theorem colE_1 {F : Fr} {c : Int} (h : F.ok = false) : colE F c = 1 := by simp [colE, h]
theorem colE_2 {F : Fr} {c : Int} (h : F.ok = true) (hc : c < 0 ∨ F.ws.length ≤ c) : colE F c = 2 := by simp only [colE, h]; rw [if_neg (by simp), if_pos hc]
theorem colE_10 {F : Fr} {c : Int} (h : F.ok = true) (hc : ¬ (c < 0 ∨ F.ws.length ≤ c)) (ht : F.truths = []) : colE F c = 10 := by simp only [colE, h]; rw [if_neg (by simp), if_neg hc, if_pos ht]
theorem colE_0 {F : Fr} {c : Int} (h : F.ok = true) (hc : ¬ (c < 0 ∨ F.ws.length ≤ c)) (ht : F.truths ≠ []) : colE F c = 0 := by simp only [colE, h]; rw [if_neg (by simp), if_neg hc, if_neg ht]
theorem Whole_any (F : Fr) (c : Int) (w : World) (hI : F.In w) : Calls Try.prog 25 #[F.v, .int .i64 c] w (Ans (fun v k w' => k = colE F c ∧ IntsAt w.heap.size w' v (whoL F c)) w) := by
  refine Whole_by F c _ w fun w1 b0 b1 k hB hn => ?_
  have kk : Keeps w1 (w1.alloc (.cells #[.int .i64 0] 30)) := (Keeps.refl _).alloc _
  have hI2 := hI.keep (k.trans kk)
  have hB2 : In2 F c b0 b1 _ := ⟨hB.keep kk, kk.cell hn⟩
  have hpan : ∀ j, colE F c = j → j ≠ 0 → Calls Try.prog 76 #[F.v, .int .i64 c] (w1.alloc (.cells #[.int .i64 0] 30)) (Pan j (w1.alloc (.cells #[.int .i64 0] 30))) →
      Calls Try.prog 74 #[.func (.func 75) #[] #[.pointer (some ⟨b0, 0, none⟩), .pointer (some ⟨b1, 0, none⟩)]] w1 (Ans (fun v k w' => k = colE F c ∧ IntsAt w.heap.size w' v (whoL F c)) w1) := by
    intro j hj h0 hp
    have hl : whoL F c = [] := by rw [whoL, if_neg (by rw [hj]; exact h0)]
    rw [hj, hl]
    refine (answer_pan_ints _ _ _ _ (fun w => enter_Whole1 _ w) (Whole1_no F c b0 b1 j _ hB2 hp)).mono ?_
    rintro e w' ⟨rfl, hk⟩
    exact ⟨_, _, rfl, ⟨rfl, IntsAt.nil _ _⟩, hk⟩
  cases hok : F.ok with
  | false => exact hpan 1 (colE_1 hok) (by decide) (possible_no1 F c _ hI2 hok)
  | true =>
    by_cases hc : c < 0 ∨ F.ws.length ≤ c
    · exact hpan 2 (colE_2 hok hc) (by decide) (possible_no2 F c _ hI2 hok hc)
    by_cases ht : F.truths = []
    · exact hpan 10 (colE_10 hok hc ht) (by decide) (possible_no3 F c _ hI2 hok (by omega) (by omega) ht)
    · have h0 := colE_0 hok hc ht
      have hl : whoL F c = whs (F.ws[c.toNat]?.getD 0) F.truths := by rw [whoL, if_pos h0]
      rw [h0, hl]
      obtain ⟨n, rfl⟩ := Int.eq_ofNat_of_zero_le (show 0 ≤ c by omega)
      rw [Int.toNat_natCast]
      refine (answer_ok_ints _ _ _ (fun v wa => IntsAt (w1.heap.size + 1) wa v (whs (F.ws[n]?.getD 0) F.truths)) (fun w => enter_Whole1 _ w) (fun v wa u h => h.set (Nat.lt_succ_self _)) ?_).mono ?_
      · refine (Whole1_yes F n b0 b1 _ _ hI2 hB2 hok (by omega) rfl ht).mono ?_
        rintro e w' ⟨v, rfl, hv, hk⟩
        exact ⟨v, rfl, hv.mono (by simp), hk⟩
      · rintro e w' ⟨v, rfl, hv, hk⟩
        exact ⟨_, _, rfl, ⟨rfl, hv.mono (by have := k.size; omega)⟩, hk⟩
end Go.Proofs.Ytoidnbpbeblokaa

namespace Go.Proofs.Ytoidnbpbeblokaa
open Go.RowKit Go.Shelf

theorem or_nat (a b : Nat) (ha : a < 4611686018427387904) (hb : b < 4611686018427387904) : bits .or .i64 (a : Int) (b : Int) = ((a ||| b : Nat) : Int) := by
  have hx : a ||| b < 2 ^ 62 := Nat.or_lt_two_pow (by omega) (by omega)
  have h1 : (BitVec.ofInt 64 (a : Int)).toNat = a := by
    rw [BitVec.ofInt_natCast, BitVec.toNat_ofNat]; exact Nat.mod_eq_of_lt (by omega)
  have h2 : (BitVec.ofInt 64 (b : Int)).toNat = b := by
    rw [BitVec.ofInt_natCast, BitVec.toNat_ofNat]; exact Nat.mod_eq_of_lt (by omega)
  show IntKind.i64.wrap ((BitVec.ofInt 64 (a : Int) ||| BitVec.ofInt 64 (b : Int)).toNat : Int) = _
  rw [BitVec.toNat_or, h1, h2]
  exact IntWalk.i64_in _ (by omega)
theorem pow_lt (q : Nat) (h : q < 20) : 2 ^ q < 1048576 := by
  have := Nat.pow_lt_pow_right (a := 2) (by omega) h
  omega
theorem or_pow (s q : Nat) (hs : s < 1048576) (hq : q < 20) : bits .or .i64 (s : Int) (wrap64 (2 ^ q)) = ((s ||| 2 ^ q : Nat) : Int) ∧ s ||| 2 ^ q < 1048576 := by
  have hp := pow_lt q hq
  have e : ((2 : Int) ^ q) = ((2 ^ q : Nat) : Int) := by simp
  have e2 : ∀ m : Nat, m < 1048576 → wrap64 (m : Int) = (m : Int) := fun m hm => by unfold wrap64; omega
  rw [e, e2 _ hp]
  exact ⟨or_nat s _ (by omega) (by omega), Nat.or_lt_two_pow (n := 20) (by omega) (by omega)⟩
/-- The set of the parts of fractions. -/
def partSet (fs : List (Int × Int)) : Nat := fs.foldl (fun s f => s ||| 2 ^ f.2.toNat) 0
theorem partSet_snoc (fs : List (Int × Int)) (f : Int × Int) : partSet (fs ++ [f]) = partSet fs ||| 2 ^ f.2.toNat := by simp [partSet]
theorem frs_part {x : Int} (hx : 1 ≤ x) (ts : List Ln) : ∀ f ∈ frs x ts, 0 ≤ f.2 ∧ f.2 < 20 := by
  induction ts using snoc_ind with
  | h0 => intro f hf; exact absurd hf List.not_mem_nil
  | h1 ts y ih =>
    intro f hf
    rw [frs_snoc, frStep] at hf
    split at hf
    · exact ih f hf
    · rcases List.mem_append.1 hf with h | h
      · exact ih f h
      · rw [List.mem_singleton.1 h]
        have hp := partI_bd (wv := x) (n := ((y.val : Nat) : Int)) hx
        unfold partI at hp
        exact ⟨hp.1, by show 20 * (((y.val : Nat) : Int) % x) / x < 20; omega⟩

theorem partSet_lt {fs : List (Int × Int)} (h : ∀ f ∈ fs, 0 ≤ f.2 ∧ f.2 < 20) : partSet fs < 1048576 := by
  induction fs using snoc_ind with
  | h0 => decide
  | h1 fs f ih =>
    rw [partSet_snoc]
    have hf := h f (by simp)
    exact (or_pow _ _ (ih fun g hg => h g (by simp [hg])) (by omega)).2
set_option maxRecDepth 100000 in
set_option maxHeartbeats 1600000 in
theorem Parts1_yes (F : Fr) (c : Nat) (b0 b1 : Nat) (x : Int) (w : World) (hI : F.In w) (hB : In2 F c b0 b1 w) (hok : F.ok = true) (hcw : c < F.ws.length) (hx : F.ws[c]?.getD 0 = x) (ht : F.truths ≠ []) :
    Calls Try.prog 78 #[.pointer (some ⟨b0, 0, none⟩), .pointer (some ⟨b1, 0, none⟩)] w (RetI (partSet (frs x F.truths)) w) := by
  have H1 := Lib.hid (possible_yes F c x w hI hok hcw hx ht)
  have hne := frs_ne (x := x) ht
  have hlen := Nat.le_trans (frs_len x F.truths) (F.truths_len hok)
  have hx1 := F.wave_in hok hcw
  rw [hx] at hx1
  have HP := Lib.hid (frs_part (show 1 ≤ x by omega) F.truths)
  obtain ⟨fs, hfs⟩ : ∃ fs, frs x F.truths = fs := ⟨_, rfl⟩
  rw [hfs] at H1 hne hlen HP ⊢
  obtain ⟨⟨g0, g1, g2, g3⟩, hn⟩ := hB
  obtain ⟨wa, wc, ws, lo, hi, ra, rc, rs⟩ := F
  dsimp only [Fr.v] at *
  clear hok hI ht hfs hx hcw hx1
  go_enter Try.func78, Try.ntmps78
  go_wp2_with fail
  refine H1.out.mono ?_
  rintro e w1 ⟨v, rfl, ⟨hrow, hnil⟩, k1⟩
  have hsp := SpansAt.of_frs hrow
  obtain ⟨a, cap, rfl, hcs0⟩ := hsp
  obtain ⟨g, o, rfl, hcs⟩ := hcs0 hne
  have hg := (hcs 0 (List.length_pos_iff.2 hne)).1
  have hlg := lt_of_cell hg
  have Hcs := Lib.hid hcs
  clear hcs hcs0 hrow hnil hg H1 hne
  go_wp2_with fail
  go_loopw [3, 10] (fun u i wr => ∃ k : Nat, k ≤ fs.length ∧ i = .int .i64 k ∧ u = .int .i64 (partSet (fs.take k)) ∧ Keeps w1 wr) (fun _ i _ => fs.length - (intOf i).toNat)
  case atStart => exact ⟨0, Nat.zero_le _, rfl, rfl, Keeps.refl _⟩
  case round =>
    obtain ⟨k, hk, rfl, rfl, hkp⟩ := hrel
    by_cases hlt : k < fs.length
    · obtain ⟨h1, h2⟩ := Hcs.out k hlt
      replace h1 := hkp.cell h1
      replace h2 := hkp.cell h2
      have hlr := lt_of_cell h1
      have hps := partSet_snoc (fs.take k) fs[k]
      rw [← List.take_succ_eq_append_getElem hlt] at hps
      have hq := HP.out fs[k] (List.getElem_mem hlt)
      rw [show fs[k] = fs[k]?.getD (0, 0) by simp [List.getElem?_eq_getElem hlt]] at hps hq
      obtain ⟨⟨p, q⟩, hpq⟩ : ∃ f, fs[k]?.getD (0, 0) = f := ⟨_, rfl⟩
      rw [hpq] at h1 h2 hps hq
      dsimp only at h1 h2 hps hq
      obtain ⟨hq0, hq1⟩ := hq
      obtain ⟨q, rfl⟩ := Int.eq_ofNat_of_zero_le hq0
      rw [Int.toNat_natCast] at hps
      have hlt20 := partSet_lt (fs := fs.take k) (fun f hf => HP.out f (List.mem_of_mem_take hf))
      obtain ⟨s, hs⟩ : ∃ s, partSet (fs.take k) = s := ⟨_, rfl⟩
      rw [hs] at hps hlt20 ⊢
      have hor := (or_pow s q hlt20 (by omega)).1
      rw [← hps] at hor
      have Hor := Lib.hid hor
      clear hor
      have Hps := Lib.hid hps
      clear hps hpq hs
      have hsz := hkp.size
      go_wp2
      go_roundw
      case rel => exact ⟨k + 1, by omega, by go_num, by rw [Hor.out], hkp.alloc _⟩
      case measure => simp [intOf]; omega
    · obtain rfl : k = fs.length := by omega
      go_wp2
      go_ret
      rw [List.take_length]
      exact ⟨rfl, k1.trans hkp⟩

theorem Parts1_no (F : Fr) (c : Int) (b0 b1 : Nat) (j : Int) (w : World) (hB : In2 F c b0 b1 w) (H : Calls Try.prog 76 #[F.v, .int .i64 c] w (Pan j w)) :
    Calls Try.prog 78 #[.pointer (some ⟨b0, 0, none⟩), .pointer (some ⟨b1, 0, none⟩)] w (Pan j w) := by
  obtain ⟨⟨g0, g1, g2, g3⟩, hn⟩ := hB
  have HH := Lib.hid H
  clear H
  obtain ⟨wa, wc, ws, lo, hi, ra, rc, rs⟩ := F
  dsimp only [Fr.v] at *
  go_enter Try.func78, Try.ntmps78
  go_wp2_with fail
  refine HH.out.mono ?_
  rintro e w1 ⟨rfl, k1⟩
  exact ⟨rfl, rfl, k1⟩
def parS (F : Fr) (c : Int) : Nat := if colE F c = 0 then partSet (frs (F.ws[c.toNat]?.getD 0) F.truths) else 0
theorem Parts_any (F : Fr) (c : Int) (w : World) (hI : F.In w) : Calls Try.prog 26 #[F.v, .int .i64 c] w (Ret (.tuple #[.int .i64 (parS F c), .int .i64 (colE F c)]) w) := by
  refine (Parts_by F c (Is (.int .i64 (parS F c)) (colE F c)) w fun w1 b0 b1 k hB hn => ?_).mono fun _ _ h => h.ret
  have kk : Keeps w1 (w1.alloc (.cells #[.int .i64 0] 30)) := (Keeps.refl _).alloc _
  have hI2 := hI.keep (k.trans kk)
  have hB2 : In2 F c b0 b1 _ := ⟨hB.keep kk, kk.cell hn⟩
  have hpan : ∀ j, colE F c = j → j ≠ 0 → Calls Try.prog 76 #[F.v, .int .i64 c] (w1.alloc (.cells #[.int .i64 0] 30)) (Pan j (w1.alloc (.cells #[.int .i64 0] 30))) →
      Calls Try.prog 61 #[.func (.func 78) #[] #[.pointer (some ⟨b0, 0, none⟩), .pointer (some ⟨b1, 0, none⟩)]] w1 (Ans (Is (.int .i64 (parS F c)) (colE F c)) w1) := by
    intro j hj h0 hp
    have hl : parS F c = 0 := by rw [parS, if_neg (by rw [hj]; exact h0)]
    rw [hj, hl]
    exact ans_int_pan _ _ _ _ (fun w => enter_Parts1 _ w) (Parts1_no F c b0 b1 j _ hB2 hp)
  cases hok : F.ok with
  | false => exact hpan 1 (colE_1 hok) (by decide) (possible_no1 F c _ hI2 hok)
  | true =>
    by_cases hc : c < 0 ∨ F.ws.length ≤ c
    · exact hpan 2 (colE_2 hok hc) (by decide) (possible_no2 F c _ hI2 hok hc)
    by_cases ht : F.truths = []
    · exact hpan 10 (colE_10 hok hc ht) (by decide) (possible_no3 F c _ hI2 hok (by omega) (by omega) ht)
    · have h0 := colE_0 hok hc ht
      have hl : parS F c = partSet (frs (F.ws[c.toNat]?.getD 0) F.truths) := by rw [parS, if_pos h0]
      rw [h0, hl]
      obtain ⟨n, rfl⟩ := Int.eq_ofNat_of_zero_le (show 0 ≤ c by omega)
      rw [Int.toNat_natCast]
      exact ans_int _ _ _ _ (fun w => enter_Parts1 _ w) (Parts1_yes F n b0 b1 _ _ hI2 hB2 hok (by omega) rfl ht)
end Go.Proofs.Ytoidnbpbeblokaa

namespace Go.Proofs.Ytoidnbpbeblokaa
open Go.RowKit Go.Shelf

theorem list_eq_getD {α : Type} {d : α} {xs ys : List α} (hl : xs.length = ys.length) (h : ∀ j, j < xs.length → xs[j]?.getD d = ys[j]?.getD d) : xs = ys := by
  apply List.ext_getElem hl
  intro j h1 h2
  have := h j h1
  simpa [List.getElem?_eq_getElem h1, List.getElem?_eq_getElem h2] using this
theorem list_ne_getD {α : Type} {d : α} {xs ys : List α} {k : Nat} (h : xs[k]?.getD d ≠ ys[k]?.getD d) : xs ≠ ys := fun e => h (by rw [e])

set_option maxHeartbeats 1600000 in
theorem refInts_any (a b : Option Addr) (ca cb : Nat) (xs ys : List Int) (w : World) (ha : Ints w a xs) (hb : Ints w b ys) (hxl : xs.length ≤ maxLen) :
    Calls Try.prog 28 #[.slice a xs.length ca, .slice b ys.length cb] w (RetB (decide (xs = ys)) w) := by
  unfold maxLen at hxl
  by_cases hl : xs.length = ys.length
  · have hbl : decide (xs.length = ys.length) = true := by simpa using hl
    have HA := Lib.hid ha
    have HB := Lib.hid hb
    rw [← hl]
    obtain ⟨n, hn⟩ : ∃ n, xs.length = n := ⟨_, rfl⟩
    have hyn : ys.length = n := by omega
    have HL := Lib.hid hn
    have HY := Lib.hid hyn
    rw [hn] at hxl ⊢
    clear ha hb hl hbl hn hyn
    go_enter Try.func28, Try.ntmps28
    go_wp2
    go_loopw [5] (fun i wr => ∃ k : Nat, k ≤ n ∧ i = .int .i64 k ∧ (∀ j, j < k → xs[j]?.getD 0 = ys[j]?.getD 0) ∧ Keeps w wr) (fun i _ => n - (intOf i).toNat)
    case atStart => exact ⟨0, Nat.zero_le _, rfl, fun j hj => absurd hj (by omega), Keeps.refl _⟩
    case round =>
      obtain ⟨k, hk, rfl, hall, hkp⟩ := hrel
      have Hall := Lib.hid hall
      clear hall
      by_cases hlt : k < n
      · obtain ⟨b1, o1, rfl, hc1⟩ := (HA.out).keep hkp (by intro e; have := HL.out; rw [e] at this; simp at this; omega)
        obtain ⟨b2, o2, rfl, hc2⟩ := (HB.out).keep hkp (by intro e; have := HY.out; rw [e] at this; simp at this; omega)
        have h1 := hc1 k (by rw [HL.out]; exact hlt)
        have h2 := hc2 k (by rw [HY.out]; exact hlt)
        obtain ⟨x, hx⟩ : ∃ x, xs[k]?.getD 0 = x := ⟨_, rfl⟩
        obtain ⟨y, hy⟩ : ∃ y, ys[k]?.getD 0 = y := ⟨_, rfl⟩
        rw [hx] at h1
        rw [hy] at h2
        have Hx := Lib.hid hx
        have Hy := Lib.hid hy
        clear hx hy hc1 hc2
        have i1 : (0 : Int) ≤ (k : Int) := by omega
        have i2 : (k : Int) < (n : Int) := by omega
        by_cases e : x = y
        · have eb : (x != y) = false := by simp [e]
          have E := Lib.hid e
          clear e
          go_wp2
          go_region
          go_wp2
          go_roundw
          case rel => exact ⟨k + 1, by omega, by go_num, fun j hj => by
            by_cases e : j = k
            · subst e; rw [Hx.out, Hy.out, E.out]
            · exact Hall.out j (by omega), hkp.drew⟩
          case measure => simp [intOf]; omega
        · have eb : (x != y) = true := by simp [e]
          have E := Lib.hid e
          clear e
          go_wp2
          go_region
          go_wp2
          go_ret
          refine RetB.mk ?_ hkp.drew
          symm
          rw [decide_eq_false_iff_not]
          exact list_ne_getD (d := 0) (k := k) (by rw [Hx.out, Hy.out]; exact E.out)
      · go_wp2
        go_ret
        refine RetB.mk ?_ hkp
        symm
        rw [decide_eq_true_eq]
        exact list_eq_getD (d := 0) (by rw [HL.out, HY.out]) (fun j hj => Hall.out j (by have := HL.out; omega))
  · have hbl : ((xs.length : Int) != (ys.length : Int)) = true := by simp; omega
    have hd : decide (xs = ys) = false := by rw [decide_eq_false_iff_not]; exact fun e => hl (by rw [e])
    rw [hd]
    have HL := Lib.hid hl
    clear hl hd
    go_enter Try.func28, Try.ntmps28
    go_wp2
    all_goals first | (exfalso; exact HL.out (by omega)) | (go_ret; exact RetB.mk rfl (Keeps.refl _))
/-- The slice at a holds these spans. -/
def Sps (w : World) (a : Option Addr) (l : List Sp) : Prop := l ≠ [] → ∃ b o, a = some ⟨b, o, none⟩ ∧ ∀ i, i < l.length → w.cell? ⟨b, o + i * 2, none⟩ = some (.int .i64 (l[i]?.getD (0, 0)).1) ∧ w.cell? ⟨b, o + i * 2 + 1, none⟩ = some (.int .i64 (l[i]?.getD (0, 0)).2)
theorem Sps.keep {w w' : World} {a : Option Addr} {l : List Sp} (h : Sps w a l) (k : Keeps w w') : Sps w' a l := by
  intro hne
  obtain ⟨b, o, ha, hc⟩ := h hne
  exact ⟨b, o, ha, fun i hi => ⟨k.cell (hc i hi).1, k.cell (hc i hi).2⟩⟩
theorem fields_span : Try.prog.underlying 24 = some (.struct (Try.prog.fieldsOf 24)) := by kernel_rfl
theorem held_span : Try.prog.stoodInHeld 24 = false := by kernel_rfl
theorem guard_span : Try.prog.eqGuardType Try.prog.depth 24 = false := by kernel_rfl
theorem list_span : (Try.prog.fieldsOf 24).toList.map (fun f => (f.name, f.type, f.offset)) = [("Lo", 3, 0), ("Hi", 3, 1)] := by kernel_rfl
theorem equal_span (x x' y y' : Int) (w : World) : (Op.equalIn 10000 24 (.agg #[.int .i64 x, .int .i64 x']) (.agg #[.int .i64 y, .int .i64 y'])).run Try.prog w = .ok (x == y && x' == y') w := by
  rw [run_equalIn_agg w 9999 _ _ _ fields_span held_span]
  have h := list_span
  match hf : (Try.prog.fieldsOf 24).toList, h with
  | [f, g], h =>
    simp only [List.map_cons, List.map_nil, List.cons.injEq, Prod.mk.injEq, and_true] at h
    obtain ⟨⟨h1, h2, h3⟩, h4, h5, h6⟩ := h
    simp [Op.eqFields, h1, h2, h3, h4, h5, h6, go_sem]
    by_cases e1 : x = y <;> by_cases e2 : x' = y' <;> simp [e1, e2]
  | [], h => simp at h
  | [_], h => simp at h
  | _ :: _ :: _ :: _, h => simp at h
theorem neq_span (x x' y y' : Int) (w : World) : (binOp .neq 24 (.agg #[.int .i64 x, .int .i64 x']) (.agg #[.int .i64 y, .int .i64 y'])).run Try.prog w = .ok (.bool (!(x == y && x' == y'))) w := by
  rw [run_neq_struct, equal_span]
  rfl
theorem agg_ne {x x' y y' : Int} (h : ¬ (x = y ∧ x' = y')) : (x == y && x' == y') = false := by simpa using h
set_option maxHeartbeats 1600000 in
theorem refSpans_any (a b : Option Addr) (ca cb : Nat) (xs ys : List Sp) (w : World) (ha : Sps w a xs) (hb : Sps w b ys) (hxl : xs.length ≤ maxLen) :
    Calls Try.prog 38 #[.slice a xs.length ca, .slice b ys.length cb] w (RetB (decide (xs = ys)) w) := by
  unfold maxLen at hxl
  by_cases hl : xs.length = ys.length
  · have hbl : decide (xs.length = ys.length) = true := by simpa using hl
    have HA := Lib.hid ha
    have HB := Lib.hid hb
    rw [← hl]
    obtain ⟨n, hn⟩ : ∃ n, xs.length = n := ⟨_, rfl⟩
    have hyn : ys.length = n := by omega
    have HL := Lib.hid hn
    have HY := Lib.hid hyn
    rw [hn] at hxl ⊢
    clear ha hb hl hbl hn hyn
    go_enter Try.func38, Try.ntmps38
    go_wp2
    go_loopw [5] (fun i wr => ∃ k : Nat, k ≤ n ∧ i = .int .i64 k ∧ (∀ j, j < k → xs[j]?.getD (0, 0) = ys[j]?.getD (0, 0)) ∧ Keeps w wr) (fun i _ => n - (intOf i).toNat)
    case atStart => exact ⟨0, Nat.zero_le _, rfl, fun j hj => absurd hj (by omega), Keeps.refl _⟩
    case round =>
      obtain ⟨k, hk, rfl, hall, hkp⟩ := hrel
      have Hall := Lib.hid hall
      clear hall
      by_cases hlt : k < n
      · obtain ⟨b1, o1, rfl, hc1⟩ := (HA.out).keep hkp (by intro e; have := HL.out; rw [e] at this; simp at this; omega)
        obtain ⟨b2, o2, rfl, hc2⟩ := (HB.out).keep hkp (by intro e; have := HY.out; rw [e] at this; simp at this; omega)
        have h1 := hc1 k (by rw [HL.out]; exact hlt)
        have h2 := hc2 k (by rw [HY.out]; exact hlt)
        obtain ⟨⟨x, x'⟩, hx⟩ : ∃ x, xs[k]?.getD (0, 0) = x := ⟨_, rfl⟩
        obtain ⟨⟨y, y'⟩, hy⟩ : ∃ y, ys[k]?.getD (0, 0) = y := ⟨_, rfl⟩
        rw [hx] at h1
        rw [hy] at h2
        dsimp only at h1 h2
        obtain ⟨h1, h1'⟩ := h1
        obtain ⟨h2, h2'⟩ := h2
        have Hx := Lib.hid hx
        have Hy := Lib.hid hy
        clear hx hy hc1 hc2
        have i1 : (0 : Int) ≤ (k : Int) := by omega
        have i2 : (k : Int) < (n : Int) := by omega
        by_cases e : x = y ∧ x' = y'
        · have eb : ∀ w, (binOp .neq 24 (.agg #[.int .i64 x, .int .i64 x']) (.agg #[.int .i64 y, .int .i64 y'])).run Try.prog w = .ok (.bool false) w := fun w => by rw [neq_span]; simp [e.1, e.2]
          have gd := fun (o1 o2 : Operand) (w : World) => run_eqGuard_agg w .neq 24 o1 o2 #[.int .i64 x, .int .i64 x'] #[.int .i64 y, .int .i64 y'] guard_span
          have E := Lib.hid e
          clear e
          go_wp2
          go_region
          go_wp2
          go_roundw
          case rel => exact ⟨k + 1, by omega, by go_num, fun j hj => by
            by_cases e : j = k
            · subst e; rw [Hx.out, Hy.out, E.out.1, E.out.2]
            · exact Hall.out j (by omega), hkp.drew⟩
          case measure => simp [intOf]; omega
        · have eb : ∀ w, (binOp .neq 24 (.agg #[.int .i64 x, .int .i64 x']) (.agg #[.int .i64 y, .int .i64 y'])).run Try.prog w = .ok (.bool true) w := fun w => by rw [neq_span, agg_ne e]; rfl
          have gd := fun (o1 o2 : Operand) (w : World) => run_eqGuard_agg w .neq 24 o1 o2 #[.int .i64 x, .int .i64 x'] #[.int .i64 y, .int .i64 y'] guard_span
          have E := Lib.hid e
          clear e
          go_wp2
          go_region
          go_wp2
          go_ret
          refine RetB.mk ?_ hkp.drew
          symm
          rw [decide_eq_false_iff_not]
          exact list_ne_getD (d := (0, 0)) (k := k) (by rw [Hx.out, Hy.out]; exact fun h => E.out (Prod.mk.inj h))
      · go_wp2
        go_ret
        refine RetB.mk ?_ hkp
        symm
        rw [decide_eq_true_eq]
        exact list_eq_getD (d := (0, 0)) (by rw [HL.out, HY.out]) (fun j hj => Hall.out j (by have := HL.out; omega))
  · have hbl : ((xs.length : Int) != (ys.length : Int)) = true := by simp; omega
    have hd : decide (xs = ys) = false := by rw [decide_eq_false_iff_not]; exact fun e => hl (by rw [e])
    rw [hd]
    have HL := Lib.hid hl
    clear hl hd
    go_enter Try.func38, Try.ntmps38
    go_wp2
    all_goals first | (exfalso; exact HL.out (by omega)) | (go_ret; exact RetB.mk rfl (Keeps.refl _))
theorem ints_of_owns {w : World} {base : Nat} {v : Value} {xs : List Int} (h : w.ownsRow base 3 1 v xs.length (xs.map (Value.int .i64))) : ∃ a cap, v = .slice a xs.length cap ∧ Ints w a xs := by
  rcases own_cases h with rfl | ⟨g, cap, rfl⟩
  · rcases h.2 with ⟨_, h0⟩ | ⟨g, cap, cur, h1, _⟩
    · obtain rfl : xs = [] := List.length_eq_zero_iff.1 h0
      exact ⟨none, 0, rfl, fun h => absurd rfl h⟩
    · cases h1
  · refine ⟨some ⟨g, 0, none⟩, cap, rfl, fun _ => ⟨g, 0, rfl, fun i hi => ?_⟩⟩
    rw [Nat.zero_add, h.cellAt i (by omega)]
    simp [List.getElem?_eq_getElem hi]
end Go.Proofs.Ytoidnbpbeblokaa
