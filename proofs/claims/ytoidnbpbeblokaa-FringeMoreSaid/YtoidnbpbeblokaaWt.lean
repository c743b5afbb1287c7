/-
  mostAlike: how many lengths leave the part that most of them leave.
-/
import Derived.Test.YtoidnbpbeblokaaWq
import Derived.Test.YtoidnbpbeblokaaWn
namespace Go.Proofs.Ytoidnbpbeblokaa
open Go.RowKit Go.Shelf
attribute [local go_sem] Oper.semAt_some

/-- How many lengths leave part p of wave wv. -/
def cntP (wv : Int) (ts : List Ln) (p : Int) : Nat := (ts.filter fun x => partI wv (x.val : Nat) == p).length
def maxN (l : List Nat) : Nat := l.foldl max 0
theorem foldl_max_le (l : List Nat) (a m : Nat) : l.foldl max a ≤ m ↔ a ≤ m ∧ ∀ x ∈ l, x ≤ m := by
  induction l generalizing a with
  | nil => simp
  | cons y l ih => rw [List.foldl_cons, ih, Nat.max_le, List.forall_mem_cons, and_assoc]
theorem maxN_le (l : List Nat) (m : Nat) : maxN l ≤ m ↔ ∀ x ∈ l, x ≤ m := by rw [maxN, foldl_max_le]; simp
def mostP (wv : Int) (ts : List Ln) : Nat := maxN ((List.range 20).map fun p => cntP wv ts (p : Nat))
theorem mostP_le (wv : Int) (ts : List Ln) (m : Nat) : mostP wv ts ≤ m ↔ ∀ p : Nat, p < 20 → cntP wv ts p ≤ m := by
  rw [mostP, maxN_le]; simp
theorem cntP_snoc (wv : Int) (ts : List Ln) (x : Ln) (p : Int) : cntP wv (ts ++ [x]) p = cntP wv ts p + if partI wv (x.val : Nat) = p then 1 else 0 := by
  unfold cntP
  rw [List.filter_append, List.length_append]
  by_cases h : partI wv (x.val : Nat) = p
  · simp [h]
  · simp [h]
theorem cntP_le (wv : Int) (ts : List Ln) (p : Int) : cntP wv ts p ≤ ts.length := List.length_filter_le _ _
theorem le_self_iff {a b : Nat} (h : ∀ m, a ≤ m ↔ b ≤ m) : a = b := Nat.le_antisymm ((h b).2 (Nat.le_refl _)) ((h a).1 (Nat.le_refl _))
theorem mostP_snoc (wv : Int) (ts : List Ln) (x : Ln) (p : Nat) (hp : p < 20) (hx : partI wv (x.val : Nat) = p) : mostP wv (ts ++ [x]) = max (mostP wv ts) (cntP wv ts p + 1) := by
  apply le_self_iff
  intro m
  rw [mostP_le, Nat.max_le, mostP_le]
  constructor
  · intro h
    refine ⟨fun q hq => ?_, ?_⟩
    · have := h q hq; rw [cntP_snoc] at this; omega
    · have := h p hp; rw [cntP_snoc, if_pos hx] at this; exact this
  · rintro ⟨h1, h2⟩ q hq
    rw [cntP_snoc]
    have := h1 q hq
    by_cases e : partI wv (x.val : Nat) = q
    · obtain rfl : p = q := by omega
      rw [if_pos e]; exact h2
    · rw [if_neg e]; omega
theorem mostP_bd (wv : Int) (ts : List Ln) : mostP wv ts ≤ ts.length := (mostP_le _ _ _).2 fun _ _ => cntP_le _ _ _
theorem cntP_nil (wv p : Int) : cntP wv [] p = 0 := rfl
theorem mostP_nil (wv : Int) : mostP wv [] = 0 := Nat.le_zero.1 (mostP_bd wv [])

theorem three_boxes (w : World) (wv : Int) (Z : Array Value) (t1 t2 t3 : TypeId) (hZ : Z = Array.replicate 20 (.int .i64 0)) :
    let W0 := ((w.alloc (.cells #[.int .i64 wv] t1)).alloc (.cells Z t2)).alloc (.cells #[.int .i64 0] t3)
    Keeps w W0 ∧ W0.cell? ⟨w.heap.size, 0, none⟩ = some (.int .i64 wv) ∧ (∀ p, p < 20 → W0.cell? ⟨w.heap.size + 1, p, none⟩ = some (.int .i64 0)) ∧ W0.cell? ⟨w.heap.size + 1 + 1, 0, none⟩ = some (.int .i64 0) ∧
      (∀ p, W0.frozen? ⟨w.heap.size + 1, p, none⟩ = false) ∧ W0.frozen? ⟨w.heap.size + 1 + 1, 0, none⟩ = false ∧ W0.heap.size = w.heap.size + 3 := by
  have hz : ∀ p, p < 20 → Z[p]? = some (.int .i64 0) := by intro p hp; rw [hZ]; simp [hp]
  clear hZ
  refine ⟨(((Keeps.refl _).alloc _).alloc _).alloc _, by simp [go_sem], fun p hp => ?_, by simp [go_sem], fun p => by simp [go_sem], by simp [go_sem], by simp⟩
  have := hz p hp
  simp [go_sem, this]

theorem often_step {w W w1 : World} {wv c m : Int} {p q : Nat} {f f' : Nat → Int} {v2 : Value} (hB : Keeps w W) (k1 : Keeps W w1) (hq : w.heap.size + 1 + 1 < W.heap.size)
    (hcs : ∀ j : Nat, j < 20 → W.cell? ⟨w.heap.size + 1, j, none⟩ = some (.int .i64 (f j)) ∧ W.frozen? ⟨w.heap.size + 1, j, none⟩ = false) (hm : W.cell? ⟨w.heap.size + 1 + 1, 0, none⟩ = some v2)
    (hfm : W.frozen? ⟨w.heap.size + 1 + 1, 0, none⟩ = false) (hcw : W.cell? ⟨w.heap.size, 0, none⟩ = some (.int .i64 wv)) (hp : p < 20) (hc : f' p = c) (hf : ∀ j, j ≠ p → f' j = f j) (W2 : World)
    (hW2 : W2 = ((w1.setCell ⟨w.heap.size + 1, p, none⟩ (.int .i64 c)).setCell ⟨w.heap.size + 1 + 1, 0, none⟩ (.int .i64 m)).drew) :
    KeepsOthers W W2 ∧ KeepEx q (fun k => w.heap.size ≤ k) W W2 ∧ (∀ j : Nat, j < 20 → W2.cell? ⟨w.heap.size + 1, j, none⟩ = some (.int .i64 (f' j)) ∧ W2.frozen? ⟨w.heap.size + 1, j, none⟩ = false) ∧
      W2.cell? ⟨w.heap.size + 1 + 1, 0, none⟩ = some (.int .i64 m) ∧ W2.frozen? ⟨w.heap.size + 1 + 1, 0, none⟩ = false ∧ W2.cell? ⟨w.heap.size, 0, none⟩ = some (.int .i64 wv) ∧ Keeps w W2 := by
  subst hW2
  have ho : KeepsOthers W w1 := ⟨k1.size, fun k o h _ => (k1.heap (Array.getElem?_eq_some_iff.1 h).1).trans h⟩
  have hb : Below w.heap.size W ((w1.setCell ⟨w.heap.size + 1, p, none⟩ (.int .i64 c)).setCell ⟨w.heap.size + 1 + 1, 0, none⟩ (.int .i64 m)).drew :=
    (((Below.mono k1 hB.size).setCell (p := ⟨w.heap.size + 1, p, none⟩) (Nat.le_succ _) _).setCell (p := ⟨w.heap.size + 1 + 1, 0, none⟩) (by show w.heap.size ≤ w.heap.size + 1 + 1; omega) _).drew
  have hcell : ∀ b o, ((w1.setCell ⟨w.heap.size + 1, p, none⟩ (.int .i64 c)).setCell ⟨w.heap.size + 1 + 1, 0, none⟩ (.int .i64 m)).drew.cell? ⟨b, o, none⟩ = ((w1.setCell ⟨w.heap.size + 1, p, none⟩ (.int .i64 c)).setCell ⟨w.heap.size + 1 + 1, 0, none⟩ (.int .i64 m)).cell? ⟨b, o, none⟩ := fun _ _ => rfl
  have hfroz : ∀ b o, ((w1.setCell ⟨w.heap.size + 1, p, none⟩ (.int .i64 c)).setCell ⟨w.heap.size + 1 + 1, 0, none⟩ (.int .i64 m)).drew.frozen? ⟨b, o, none⟩ = w1.frozen? ⟨b, o, none⟩ := fun b o => by
    show ((w1.setCell ⟨w.heap.size + 1, p, none⟩ (.int .i64 c)).setCell ⟨w.heap.size + 1 + 1, 0, none⟩ (.int .i64 m)).frozen? ⟨b, o, none⟩ = _
    rw [World.frozen?_setCell, World.frozen?_setCell]
  refine ⟨(ho.trans (KeepsOthers.setCell _ _ _)).trans ((KeepsOthers.setCell _ _ _).trans ⟨Nat.le_refl _, fun _ _ h _ => h⟩), ⟨hb.size, fun k _ hk => hb.block k (by omega)⟩, fun j hj => ⟨?_, ?_⟩, ?_, ?_, ?_, Below.trans hB hb⟩
  · rw [hcell, cell_set_other (by omega)]
    by_cases e : j = p
    · subst e; rw [hc]; exact cell_set_same (by rw [k1.cell (hcs j hj).1]; rfl)
    · rw [cell_set_other (by omega), hf j e]; exact k1.cell (hcs j hj).1
  · rw [hfroz, k1.cells.2 _ _ (by omega)]; exact (hcs j hj).2
  · rw [hcell]; exact cell_set_same (by rw [cell_set_other (by omega), k1.cell hm]; rfl)
  · rw [hfroz, k1.cells.2 _ _ hq]; exact hfm
  · rw [hcell, cell_set_other (by omega), cell_set_other (by omega)]; exact k1.cell hcw

def AtW (W2 : World) (e : Exit) (_ : Act) (w : World) : Prop := e = .normal ∧ w = W2

set_option maxHeartbeats 800000 in
theorem mostAlike_any (F : Fr) (hok : F.ok = true) (b1 b2 : Nat) (a : Option Addr) (wv : Int) (w : World) (hS : SeqIn F w b1 b2 a) (hb1 : b1 < w.heap.size) (hb2 : b2 < w.heap.size) (hb3 : ∀ b o, a = some ⟨b, o, none⟩ → b < w.heap.size) (hw1 : 1 ≤ wv) (hw2 : wv ≤ 60) :
    Calls Try.prog 45 #[.func (.func 110) #[] #[.pointer (some ⟨b1, 0, none⟩), .pointer (some ⟨b2, 0, none⟩)], .int .i64 wv] w (RetI (mostP wv F.truths) w) := by
  have HS := Lib.hid (seq_stops F hok b1 b2 (fun k => w.heap.size ≤ k) a)
  have HB := Lib.hid hb3
  have HQ := Lib.hid hS
  have hlen := F.truths_len hok
  obtain ⟨ts, hts⟩ : ∃ ts, F.truths = ts := ⟨_, rfl⟩
  rw [hts] at HS hlen ⊢
  clear hok hts hS hb3
  refine (callsIn_wide (n := 4)).1 ?_
  refine callsIn_of_wp_marks Try.func45 rfl trivial ?_ rfl
  simp only [Try.ntmps45, List.size_toArray, List.length_cons, List.length_nil, Nat.reduceAdd, Nat.reduceSub, Array.replicate_succ, Array.replicate_zero, List.push_toArray, List.append_toArray, List.nil_append, List.cons_append]
  gi_wp2_with fail
  obtain ⟨k0, c0, c1, c2, f1, f2, hs0⟩ := three_boxes w wv #[.int .i64 0, .int .i64 0, .int .i64 0, .int .i64 0, .int .i64 0, .int .i64 0, .int .i64 0, .int .i64 0, .int .i64 0, .int .i64 0, .int .i64 0, .int .i64 0, .int .i64 0, .int .i64 0, .int .i64 0, .int .i64 0, .int .i64 0, .int .i64 0, .int .i64 0, .int .i64 0] 76 133 3 rfl
  obtain ⟨W0, hW0⟩ : ∃ W0, (((w.alloc (.cells #[.int .i64 wv] 76)).alloc (.cells #[.int .i64 0, .int .i64 0, .int .i64 0, .int .i64 0, .int .i64 0, .int .i64 0, .int .i64 0, .int .i64 0, .int .i64 0, .int .i64 0, .int .i64 0, .int .i64 0, .int .i64 0, .int .i64 0, .int .i64 0, .int .i64 0, .int .i64 0, .int .i64 0, .int .i64 0, .int .i64 0] 133)).alloc (.cells #[.int .i64 0] 3)) = W0 := ⟨_, rfl⟩
  rw [hW0] at k0 c0 c1 c2 f1 f2 hs0 ⊢
  clear hW0
  refine wpIn_rangeFunc_ownF rfl (by omega) (gf := 110) (lb := #[.pointer (some ⟨b1, 0, none⟩), .pointer (some ⟨b2, 0, none⟩)]) rfl trivial (enters_of Try.func110 (by kernel_rfl) rfl)
    (HS.out _ (by omega) (by omega) (fun b o e => by have := HB.out b o e; omega) (HQ.out.keep k0))
    (fun h k => KeepEx.trans h k) keepEx_putObj (Below.refl _ _) (fun _ => rfl)
    (fun pre W => ((∀ p : Nat, p < 20 → W.cell? ⟨w.heap.size + 1, p, none⟩ = some (.int .i64 (cntP wv pre p)) ∧ W.frozen? ⟨w.heap.size + 1, p, none⟩ = false) ∧ W.cell? ⟨w.heap.size + 1 + 1, 0, none⟩ = some (.int .i64 (mostP wv pre)) ∧ W.frozen? ⟨w.heap.size + 1 + 1, 0, none⟩ = false ∧ W.cell? ⟨w.heap.size, 0, none⟩ = some (.int .i64 wv)) ∧ Keeps w W)
    (fun _ _ _ => False)
    (OwnFrom.and (Own.from (fun s A B row hs hg hr => ⟨fun p hp => ⟨cell_kept (hs.1 p hp).1 hg hr, (frozen_kept (hs.1 p hp).1 hg hr).trans (hs.1 p hp).2⟩, cell_kept hs.2.1 hg hr, (frozen_kept hs.2.1 hg hr).trans hs.2.2.1, cell_kept hs.2.2.2 hg hr⟩) _) (ownFrom_keeps k0.size))
    (fun _ _ _ _ _ hs _ _ => hs)
    ⟨⟨fun p hp => ⟨by rw [cntP_nil]; exact c1 p hp, f1 p⟩, by rw [mostP_nil]; exact c2, f2, c0⟩, k0⟩
    (fun x => { tmps := #[.func (.func 110) #[] #[.pointer (some ⟨b1, 0, none⟩), .pointer (some ⟨b2, 0, none⟩)], .int .i64 wv, undef, .pointer (some ⟨w.heap.size, 0, none⟩), .int .i64 0, .pointer (some ⟨w.heap.size + 1, 0, none⟩), .pointer (some ⟨w.heap.size + 1 + 1, 0, none⟩), lnV x, undef,
      .func (.func 110) #[] #[.pointer (some ⟨b1, 0, none⟩), .pointer (some ⟨b2, 0, none⟩)], lnV x, undef, undef, undef, undef, undef, undef, undef, undef, undef, undef, undef, undef, undef, undef, undef], defers := [] }) ?assign ?body ?done ?stop
  case assign =>
    intro l x W K hK
    gi_wp2
    simpa using hK
  case body =>
    rintro l pre x W ⟨⟨hcs, hm, hfm, hcw⟩, hB⟩ hN
    have hn1 : 1 ≤ 4 - 1 - 1 := by omega
    have hmx : Try.prog.follows .mixedOrders = true := by kernel_rfl
    have hfn : Fence.wide.fn 72 := trivial
    clear c0 c1 c2 f1 f2 k0
    have hpb := partI_bd (wv := wv) (n := ((x.val : Nat) : Int)) hw1
    obtain ⟨p, hp⟩ := Int.eq_ofNat_of_zero_le hpb.1
    have hp20 : p < 20 := by omega
    have hms := mostP_snoc wv pre x p hp20 hp
    have hcsn := cntP_snoc wv pre x
    have hcb := cntP_le wv pre p
    have hmb := mostP_bd wv pre
    obtain ⟨hcp, hfp⟩ := hcs p hp20
    obtain ⟨n, hn⟩ := x
    dsimp only [lnV]
    dsimp only at hp hms hcsn
    have hsplit := fun w1 => split_any wv (n : Int) w1 hw1 hw2 (by omega) (by omega)
    rw [show 20 * ((n : Int) % wv) / wv = (p : Int) from hp] at hsplit
    have HC := Lib.hid (fun w1 => CallsIn.inRound l ((callsIn_wide (n := 4 - 1 - 1 - 1)).2 (hsplit w1)))
    have Hp := Lib.hid hp
    have Hms := Lib.hid hms
    have Hcs := Lib.hid hcs
    have Hcn := Lib.hid hcsn
    obtain ⟨c, hc⟩ : ∃ c, cntP wv pre p = c := ⟨_, rfl⟩
    obtain ⟨mo, hmo⟩ : ∃ m, mostP wv pre = m := ⟨_, rfl⟩
    rw [hc] at hcp hcb
    rw [hmo] at hm hmb
    have Hc := Lib.hid hc
    have Hmo := Lib.hid hmo
    clear hc hmo
    have hlb := lt_of_cell hcp
    have hlm := lt_of_cell hm
    have hlw := lt_of_cell hcw
    clear hp hms hcs hcsn hsplit hpb
    have hf := run_part
    gi_wp2_with fail
    refine (HC.out _).mono ?_
    rintro e w1 ⟨rfl, k1⟩
    have hc1 := k1.cells
    have hcp1 := k1.cell hcp
    gi_wp2_with fail
    have l1 : (w1.setCell ⟨w.heap.size + 1, p, none⟩ (.int .i64 ((c : Int) + 1))).cell? ⟨w.heap.size + 1 + 1, 0, none⟩ = some (.int .i64 mo) := (cell_set_other (by omega)).trans (k1.cell hm)
    have l2 : (w1.setCell ⟨w.heap.size + 1, p, none⟩ (.int .i64 ((c : Int) + 1))).cell? ⟨w.heap.size + 1, p, none⟩ = some (.int .i64 ((c : Int) + 1)) := cell_set_same (by rw [hcp1]; rfl)
    have l3 : (w1.setCell ⟨w.heap.size + 1, p, none⟩ (.int .i64 ((c : Int) + 1))).frozen? ⟨w.heap.size + 1 + 1, 0, none⟩ = false := by rw [World.frozen?_setCell, k1.cells.2 _ _ hlm]; exact hfm
    obtain ⟨W3, hW3⟩ : ∃ W3, w1.setCell ⟨w.heap.size + 1, p, none⟩ (.int .i64 ((c : Int) + 1)) = W3 := ⟨_, rfl⟩
    rw [hW3] at l1 l2 l3 ⊢
    have HW3 := Lib.hid hW3
    have K1 := Lib.hid k1
    clear hW3 hc1 hcp1 k1
    have hcs := Hcs.out
    by_cases hmax : (mo : Int) < (c : Int) + 1
    · refine wpIn_mono (Q := AtW ((W3.setCell ⟨w.heap.size + 1 + 1, 0, none⟩ (.int .i64 ((c : Int) + 1))).drew)) ?_ ?_
      · clear hcp hfp hm hfm hcw hB hlb hlm hlw hcb hmb hN hb1 hb2 hs0 hcs
        clear HB HQ HS Hc Hmo Hp Hms Hcs Hcn HC K1 HW3 hf hfn hn1
        gi_region_with_o (fail)
        all_goals exact ⟨rfl, rfl⟩
      · rintro e a W2 ⟨rfl, hW2⟩
        have hres : mostP wv (pre ++ [⟨n, hn⟩]) = c + 1 := by rw [Hms.out, Hmo.out, Hc.out]; omega
        rw [← HW3.out] at hW2
        obtain ⟨q1, q2, q3, q4, q5, q6, q7⟩ := often_step (q := W0.heap.size) (f := fun j => (cntP wv pre j : Nat)) (f' := fun j => (cntP wv (pre ++ [⟨n, hn⟩]) j : Nat)) hB K1.out (by omega) Hcs.out hm hfm hcw hp20 (by rw [Hcn.out, if_pos Hp.out, Hc.out]; rfl) (fun j hj => by rw [Hcn.out, Hp.out, if_neg (by omega)]; rfl) W2 hW2
        exact ⟨q1, q2, ⟨q3, by rw [hres]; exact q4, q5, q6⟩, q7⟩
    · refine wpIn_mono (Q := AtW ((W3.setCell ⟨w.heap.size + 1 + 1, 0, none⟩ (.int .i64 (mo : Int))).drew)) ?_ ?_
      · clear hcp hfp hm hfm hcw hB hlb hlm hlw hcb hmb hN hb1 hb2 hs0 hcs
        clear HB HQ HS Hc Hmo Hp Hms Hcs Hcn HC K1 HW3 hf hfn hn1
        gi_region_with_o (fail)
        all_goals exact ⟨rfl, by rw [if_neg (Int.not_lt.2 hmax)]⟩
      · rintro e a W2 ⟨rfl, hW2⟩
        have hres : mostP wv (pre ++ [⟨n, hn⟩]) = mo := by rw [Hms.out, Hmo.out, Hc.out]; omega
        rw [← HW3.out] at hW2
        obtain ⟨q1, q2, q3, q4, q5, q6, q7⟩ := often_step (q := W0.heap.size) (f := fun j => (cntP wv pre j : Nat)) (f' := fun j => (cntP wv (pre ++ [⟨n, hn⟩]) j : Nat)) hB K1.out (by omega) Hcs.out hm hfm hcw hp20 (by rw [Hcn.out, if_pos Hp.out, Hc.out]; rfl) (fun j hj => by rw [Hcn.out, Hp.out, if_neg (by omega)]; rfl) W2 hW2
        exact ⟨q1, q2, ⟨q3, by rw [hres]; exact q4, q5, q6⟩, q7⟩
  case done =>
    rintro D ys W hD rfl ⟨⟨hcs, hm, hfm, hcw⟩, hB⟩ hK
    gi_wp2
    refine ⟨by simp, .inl ⟨_, _, rfl, run_takeDeferred hK, ?_⟩⟩
    exact ⟨_, results_tmp rfl _ _ _, rfl, keeps_putObj hB _ (by omega)⟩
  case stop =>
    rintro D c pre W _ _ h _
    exact h.elim
end Go.Proofs.Ytoidnbpbeblokaa
