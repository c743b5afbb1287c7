/-
  spans: lengths in order, as the fewest spans.
  Lengths, whole.
  THE LENGTHS OF ALL TRUTHS, as a list in order, and as the fewest spans: plain facts.
-/
import Derived.RangeFuncBox
import Derived.RangeFuncWrites
import Derived.Maps.AppendAt
import Derived.WalkSmall
import Derived.Laws.OwnMore
import Derived.Test.YtoidnbpbeblokaaWq
import Derived.Test.YtoidnbpbeblokaaWj
namespace Go.Proofs.Ytoidnbpbeblokaa
open Go.RowKit Go.Shelf
attribute [local go_sem] Oper.semAt_some

abbrev Sp := Int × Int
def spStep (l : List Sp) (x : Int) : List Sp :=
  match l.getLast? with
  | some s => if s.2 + 1 = x then l.dropLast ++ [(s.1, x)] else l ++ [(x, x)]
  | none => [(x, x)]
def spansOf (ts : List Ln) : List Sp := ts.foldl (fun l x => spStep l (x.val : Nat)) []
theorem spansOf_snoc (ts : List Ln) (x : Ln) : spansOf (ts ++ [x]) = spStep (spansOf ts) (x.val : Nat) := by simp [spansOf]
theorem spStep_nil (x : Int) : spStep [] x = [(x, x)] := rfl
theorem spStep_set {l : List Sp} {lo hi x : Int} (h : hi + 1 = x) : spStep (l ++ [(lo, hi)]) x = l ++ [(lo, x)] := by simp [spStep, h]
theorem spStep_new {l : List Sp} {lo hi x : Int} (h : ¬ hi + 1 = x) : spStep (l ++ [(lo, hi)]) x = l ++ [(lo, hi)] ++ [(x, x)] := by simp [spStep, h]
theorem spStep_len (l : List Sp) (x : Int) : (spStep l x).length ≤ l.length + 1 := by
  unfold spStep
  split
  · split
    · simp
    · simp
  · simp
theorem snoc_ind {α : Type} {P : List α → Prop} (h0 : P []) (h1 : ∀ l x, P l → P (l ++ [x])) (l : List α) : P l := by
  rw [← List.reverse_reverse l]
  induction l.reverse with
  | nil => exact h0
  | cons x l ih => rw [List.reverse_cons]; exact h1 _ _ ih
theorem spansOf_len (ts : List Ln) : (spansOf ts).length ≤ ts.length := by
  induction ts using snoc_ind with
  | h0 => simp [spansOf]
  | h1 ts x ih => rw [spansOf_snoc]; have := spStep_len (spansOf ts) (x.val : Nat); simp; omega
/-- The last span, if there is one, ends at a length. -/
theorem spansOf_last (ts : List Ln) : ∀ l lo hi, spansOf ts = l ++ [(lo, hi)] → 0 ≤ hi ∧ hi ≤ 2000 := by
  induction ts using snoc_ind with
  | h0 => intro l lo hi h; simp [spansOf] at h
  | h1 ts x _ =>
    intro l lo hi h
    rw [spansOf_snoc] at h
    have hx := x.isLt
    rcases List.eq_nil_or_concat (spansOf ts) with e | ⟨l', ⟨a, b⟩, e⟩
    · rw [e, spStep_nil] at h
      have : (((x.val : Nat) : Int), ((x.val : Nat) : Int)) = (lo, hi) := by
        have := congrArg List.getLast? h
        simpa using this
      cases this; omega
    · rw [List.concat_eq_append] at e
      rw [e] at h
      by_cases hb : b + 1 = ((x.val : Nat) : Int)
      · rw [spStep_set hb] at h
        have := congrArg List.getLast? h
        simp at this
        omega
      · rw [spStep_new hb] at h
        have := congrArg List.getLast? h
        simp at this
        omega
def spCells (l : List Sp) : List Value := l.flatMap fun s => [.int .i64 s.1, .int .i64 s.2]
theorem spCells_append (l m : List Sp) : spCells (l ++ m) = spCells l ++ spCells m := by simp [spCells]
theorem spCells_len (l : List Sp) : (spCells l).length = l.length * 2 := by
  induction l with
  | nil => rfl
  | cons s l ih => simp only [spCells, List.flatMap_cons, List.length_append, List.length_cons, List.length_nil] at *; omega
theorem spCells_last (l : List Sp) (lo hi : Int) : (spCells (l ++ [(lo, hi)]))[l.length * 2 + 1]? = some (.int .i64 hi) := by
  rw [spCells_append, List.getElem?_append_right (by rw [spCells_len]; omega), spCells_len]
  have : l.length * 2 + 1 - l.length * 2 = 1 := by omega
  rw [this]; rfl
theorem spCells_set (l : List Sp) (lo hi x : Int) : (spCells (l ++ [(lo, hi)])).set (l.length * 2 + 1) (.int .i64 x) = spCells (l ++ [(lo, x)]) := by
  rw [spCells_append, spCells_append, List.set_append_right _ _ (by rw [spCells_len]; omega), spCells_len]
  have : l.length * 2 + 1 - l.length * 2 = 1 := by omega
  rw [this]; rfl

theorem ownsRow_base {w : World} {base size k g cap : Nat} {e : TypeId} {xs : List Value} (h : w.ownsRow base e size (.slice (some ⟨g, 0, none⟩) k cap) k xs) : base ≤ g := by
  rcases h.2 with ⟨h1, _⟩ | ⟨g1, c1, cur, h1, h2, _⟩
  · simp at h1
  · simp only [Value.slice.injEq, Option.some.injEq, Addr.mk.injEq, and_true, true_and] at h1
    omega
theorem keepEx_of_below {m n₀ : Nat} {W W' : World} (h : Below n₀ W W') : KeepEx m (fun k => n₀ ≤ k) W W' := ⟨h.size, fun k _ hk => h.block k (by omega)⟩
theorem info_span : (Try.prog.info? 24).map (fun i => (i.zero, i.size, i.bytes)) = some (some (.agg #[.int .i64 0, .int .i64 0]), 2, 16) := by kernel_rfl

set_option maxHeartbeats 3200000 in
theorem spans_any (F : Fr) (hok : F.ok = true) (b1 b2 : Nat) (a : Option Addr) (w : World) (hS : SeqIn F w b1 b2 a) (hb1 : b1 < w.heap.size) (hb2 : b2 < w.heap.size) (hb3 : ∀ b o, a = some ⟨b, o, none⟩ → b < w.heap.size) :
    Calls Try.prog 81 #[.func (.func 110) #[] #[.pointer (some ⟨b1, 0, none⟩), .pointer (some ⟨b2, 0, none⟩)]] w fun e w' =>
      ∃ v, e = .returned v ∧ (w'.ownsRow w.heap.size 24 2 v (spansOf F.truths).length (spCells (spansOf F.truths)) ∧ (v = .slice none 0 0 ↔ spansOf F.truths = [])) ∧ Keeps w w' := by
  have HS := Lib.hid (seq_stops F hok b1 b2 (fun k => w.heap.size ≤ k) a)
  have HB := Lib.hid hb3
  have HQ := Lib.hid hS
  have hlen := F.truths_len hok
  obtain ⟨i0, hi, hz0, hz1, hz2⟩ := info_parts info_span
  obtain ⟨ts, hts⟩ : ∃ ts, F.truths = ts := ⟨_, rfl⟩
  rw [hts] at HS hlen ⊢
  clear hok hts hS hb3
  refine (callsIn_wide (n := 4)).1 ?_
  refine callsIn_of_wp_marks Try.func81 rfl trivial ?_ rfl
  simp only [Try.ntmps81, List.size_toArray, List.length_cons, List.length_nil, Nat.reduceAdd, Nat.reduceSub, Array.replicate_succ, Array.replicate_zero, List.push_toArray, List.append_toArray, List.nil_append, List.cons_append]
  gi_wp2_with fail
  have bO := Boxed.new w 45 (.slice none 0 0)
  have k0 : Keeps w (w.alloc (.cells #[.slice none 0 0] 45)) := (Keeps.refl _).alloc _
  refine wpIn_rangeFunc_ownG rfl (by omega) (gf := 110) (lb := #[.pointer (some ⟨b1, 0, none⟩), .pointer (some ⟨b2, 0, none⟩)]) rfl trivial (enters_of Try.func110 (by kernel_rfl) rfl)
    (HS.out _ (by omega) (by omega) (fun b o e => by have := HB.out b o e; omega) (HQ.out.keep k0))
    (fun h k => KeepEx.trans h k) keepEx_putObj (Below.refl _ _) (fun _ => rfl)
    (fun pre W => (∃ v, Boxed W w.heap.size 45 v ∧ W.ownsRow w.heap.size 24 2 v (spansOf pre).length (spCells (spansOf pre)) ∧ (v = .slice none 0 0 ↔ spansOf pre = [])) ∧ Below w.heap.size w W)
    (fun _ _ _ => False)
    (OwnFrom.and (Own.from (holdsRow_own w.heap.size w.heap.size 45 24 2 (fun pre => (spansOf pre).length) (fun pre => spCells (spansOf pre)) (fun pre v => v = .slice none 0 0 ↔ spansOf pre = [])) _) (ownFrom_below (Nat.le_refl _) (by simp)))
    (fun _ _ _ _ _ hs _ _ => hs)
    ⟨⟨_, bO, World.ownsRow_nil _ _ _ _, by simp [spansOf]⟩, k0⟩
    (fun x => { tmps := #[.func (.func 110) #[] #[.pointer (some ⟨b1, 0, none⟩), .pointer (some ⟨b2, 0, none⟩)], undef, .slice none 0 0, .pointer (some ⟨w.heap.size, 0, none⟩), lnV x, undef, .func (.func 110) #[] #[.pointer (some ⟨b1, 0, none⟩), .pointer (some ⟨b2, 0, none⟩)], lnV x,
      undef, undef, undef, undef, undef, undef, undef, undef, undef, undef, undef, undef, undef, undef, undef, undef, undef, undef, undef, undef, undef, undef, undef, undef, undef, undef, undef], defers := [] }) ?assign ?body ?done ?stop
  case assign =>
    intro l x W K hK
    gi_wp2
    simpa using hK
  case body =>
    rintro l pre x W ⟨⟨v, hv, hrow, hnil⟩, hB⟩ hN
    have hn1 : 1 ≤ 4 - 1 - 1 := by omega
    have hpl := spansOf_len pre
    have hc := hv.cell
    have hsz := hB.size
    have hsn := spansOf_snoc pre x
    have hlast := spansOf_last pre
    have HN := Lib.hid hsn
    have HL := Lib.hid hlast
    clear hsn hlast
    obtain ⟨n, hn⟩ := x
    dsimp only [lnV]
    rcases List.eq_nil_or_concat (spansOf pre) with e | ⟨l', ⟨lo, hi'⟩, e⟩
    · rw [e] at hrow hpl
      obtain rfl := hnil.2 e
      have He := Lib.hid e
      clear e hnil
      gi_wp2_with (gi_at_builtin; refine wpListIn_append_own _ rfl _ _ 45 rfl w.heap.size 24 i0 (.agg #[.int .i64 0, .int .i64 0]) 2 16 Try.underlying45 hi hz0 hz1 hz2 rfl (by decide) _ _ _ rfl (hrow.alloc _) ⟨W.heap.size, 0, none⟩ 1 1 [.int .i64 (n : Int), .int .i64 (n : Int)] rfl rfl (cell_two_new _ _ _ _) (by simp [Value.oneCell']) (by simp [maxLen]) (by simp) (by simp; omega) ?_; intro v' w1 hown' hgrow _; obtain ⟨g', cap', rfl⟩ := ownsRow_succ hown'; obtain ⟨hv1, hv2, hr2, hk2, hb2⟩ := hv.appended (by decide) hrow hB.size (Nat.le_refl _) hown' hgrow; have hc1 := hv1.cell; have hf1 := hv1.frozen)
      exact ⟨hk2.from _, keepEx_of_below hb2, ⟨_, hv2, by rw [HN.out, He.out, spStep_nil]; simpa [spCells] using hr2, by rw [HN.out, He.out, spStep_nil]; simp⟩, hB.trans hb2⟩
    · rw [List.concat_eq_append] at e
      obtain ⟨hh0, hh1⟩ := HL.out _ _ _ e
      have hset := spCells_set l' lo hi' (n : Int)
      have hlc := spCells_last l' lo hi'
      rw [e] at hrow hpl
      have hne : v ≠ .slice none 0 0 := fun h => by have := hnil.1 h; rw [e] at this; simp at this
      have He := Lib.hid e
      clear e hnil
      obtain ⟨m, hm⟩ : ∃ m, l'.length = m := ⟨_, rfl⟩
      rw [hm] at hset hlc
      have hlen1 : (l' ++ [(lo, hi')]).length = m + 1 := by simp [hm]
      rw [hlen1] at hrow hpl
      obtain ⟨g, cap, rfl⟩ := ownsRow_succ hrow
      have hcell := (hrow.cellAt (m * 2 + 1) (by omega)).trans hlc
      have hfz := hrow.frozenAt (m * 2 + 1)
      have hgB : g ≠ w.heap.size := fun h => by have := hv.not_row (e := 24) (by decide) hrow; exact this (by rw [h]; rfl)
      have Hm := Lib.hid hm
      clear hm hlen1 hlc hne
      by_cases hx : hi' + 1 = (n : Int)
      · have hb : (hi' + 1 == (n : Int)) = true := by rw [beq_iff_eq]; exact hx
        have Hx := Lib.hid hx
        clear hx
        gi_wp2_with fail
        obtain ⟨hs1, hs2⟩ := hrow.stored (m * 2 + 1) (.int .i64 (n : Int))
        have hb2 : Below w.heap.size W (W.setCell ⟨g, m * 2 + 1, none⟩ (.int .i64 (n : Int))) := (Below.refl _ _).setCell (p := ⟨g, m * 2 + 1, none⟩) (ownsRow_base hrow) _
        rw [hset] at hs1
        exact ⟨(KeepsOthers.setCell _ _ _).from _, keepEx_of_below hb2, ⟨_, hv.kept hs2 (by simpa using hgB.symm), by rw [HN.out, He.out, spStep_set Hx.out]; simpa [Hm.out] using hs1, by rw [HN.out, He.out, spStep_set Hx.out]; simp⟩, hB.trans hb2⟩
      · have hb : (hi' + 1 == (n : Int)) = false := by rw [beq_eq_false_iff_ne]; exact hx
        have Hx := Lib.hid hx
        clear hx
        gi_wp2_with (gi_at_builtin; refine wpListIn_append_own _ rfl _ _ 45 rfl w.heap.size 24 i0 (.agg #[.int .i64 0, .int .i64 0]) 2 16 Try.underlying45 hi hz0 hz1 hz2 rfl (by decide) _ _ _ rfl (hrow.alloc _) ⟨W.heap.size, 0, none⟩ 1 1 [.int .i64 (n : Int), .int .i64 (n : Int)] rfl rfl (cell_two_new _ _ _ _) (by simp [Value.oneCell']) (by unfold maxLen; omega) (by omega) (by simp; omega) ?_; intro v' w1 hown' hgrow _; obtain ⟨g', cap', rfl⟩ := ownsRow_succ hown'; obtain ⟨hv1, hv2, hr2, hk2, hb2⟩ := hv.appended (by decide) hrow hB.size (Nat.le_refl _) hown' hgrow; have hc1 := hv1.cell; have hf1 := hv1.frozen)
        exact ⟨hk2.from _, keepEx_of_below hb2, ⟨_, hv2, by rw [HN.out, He.out, spStep_new Hx.out, spCells_append]; simpa [spCells, Hm.out] using hr2, by rw [HN.out, He.out, spStep_new Hx.out]; simp⟩, hB.trans hb2⟩
  case done =>
    rintro D ys W hD rfl ⟨⟨v, hv, hrow, hnil⟩, hB⟩ hK
    have hc := hv.cell
    gi_wp2
    refine ⟨by simp, .inl ⟨_, _, rfl, run_takeDeferred hK, ?_⟩⟩
    exact ⟨_, results_tmp rfl _ _ _, v, rfl, ⟨ownsRow_putObj hrow _ hK rfl, hnil⟩, keeps_putObj hB _ (Nat.le_trans k0.size hD)⟩
  case stop =>
    rintro D c pre W _ _ h _
    exact h.elim
end Go.Proofs.Ytoidnbpbeblokaa

namespace Go.Proofs.Ytoidnbpbeblokaa
open Go.RowKit

/-- The value is a slice of these spans. -/
def SpansAt (w : World) (v : Value) (l : List Sp) : Prop :=
  ∃ a cap, v = .slice a l.length cap ∧ (l ≠ [] → ∃ b o, a = some ⟨b, o, none⟩ ∧ ∀ i, i < l.length → w.cell? ⟨b, o + i * 2, none⟩ = some (.int .i64 (l[i]?.getD (0, 0)).1) ∧ w.cell? ⟨b, o + i * 2 + 1, none⟩ = some (.int .i64 (l[i]?.getD (0, 0)).2))
theorem SpansAt.keep {w w' : World} {v : Value} {l : List Sp} (h : SpansAt w v l) (k : Keeps w w') : SpansAt w' v l := by
  obtain ⟨a, cap, hv, h⟩ := h
  refine ⟨a, cap, hv, fun hne => ?_⟩
  obtain ⟨b, o, ha, hc⟩ := h hne
  exact ⟨b, o, ha, fun i hi => ⟨k.cell (hc i hi).1, k.cell (hc i hi).2⟩⟩
theorem SpansAt.nil (w : World) : SpansAt w (.slice none 0 0) [] := ⟨none, 0, rfl, fun h => absurd rfl h⟩
theorem spCells_at (l : List Sp) : ∀ i, i < l.length → (spCells l)[i * 2]? = some (.int .i64 (l[i]?.getD (0, 0)).1) ∧ (spCells l)[i * 2 + 1]? = some (.int .i64 (l[i]?.getD (0, 0)).2) := by
  induction l with
  | nil => intro i hi; simp at hi
  | cons s l ih =>
    intro i hi
    have e : spCells (s :: l) = .int .i64 s.1 :: .int .i64 s.2 :: spCells l := rfl
    rw [e]
    cases i with
    | zero => exact ⟨rfl, rfl⟩
    | succ i =>
      have h := ih i (by simpa using hi)
      have e1 : (i + 1) * 2 = i * 2 + 1 + 1 := by omega
      rw [e1]
      exact ⟨by simpa using h.1, by simpa using h.2⟩
theorem SpansAt.of_owns {w : World} {base : Nat} {v : Value} {l : List Sp} (h : w.ownsRow base 24 2 v l.length (spCells l)) : SpansAt w v l := by
  rcases h.2 with ⟨rfl, h0⟩ | ⟨g, cap, cur, rfl, h2, h3, h4, h5, h6, h7⟩
  · obtain rfl : l = [] := List.length_eq_zero_iff.1 h0
    exact SpansAt.nil w
  · refine ⟨some ⟨g, 0, none⟩, cap, rfl, fun _ => ⟨g, 0, rfl, fun i hi => ?_⟩⟩
    have hc := spCells_at l i hi
    rw [Nat.zero_add]
    exact ⟨(h.cellAt (i * 2) (by omega)).trans hc.1, (h.cellAt (i * 2 + 1) (by omega)).trans hc.2⟩
theorem ownsRow_mono {w : World} {base base' size k : Nat} {e : TypeId} {v : Value} {xs : List Value} (h : w.ownsRow base e size v k xs) (hb : base' ≤ base) : w.ownsRow base' e size v k xs := by
  refine ⟨h.1, ?_⟩
  rcases h.2 with h | ⟨g, cap, cur, h1, h2, h3⟩
  · exact .inl h
  · exact .inr ⟨g, cap, cur, h1, Nat.le_trans hb h2, h3⟩

set_option maxHeartbeats 400000 in
theorem Lengths1_no1 (F : Fr) (b0 : Nat) (w : World) (hI : F.In w) (hB : F.Box w b0) (hok : F.ok = false) :
    Calls Try.prog 80 #[.pointer (some ⟨b0, 0, none⟩)] w (Pan 1 w) := by
  have H1 := Lib.hid (fun w1 (k : Keeps w w1) => needFringe_no F w1 (hI.keep k) hok)
  obtain ⟨g0, g1, g2, g3⟩ := hB
  obtain ⟨wa, wc, ws, lo, hi, ra, rc, rs⟩ := F
  dsimp only [Fr.v] at *
  clear hok hI
  go_enter Try.func80, Try.ntmps80
  go_wp2_with fail
  refine (H1.out _ (Keeps.refl _)).mono ?_
  rintro e w1 ⟨rfl, k1⟩
  exact ⟨rfl, rfl, k1⟩
set_option maxHeartbeats 400000 in
theorem Lengths1_no2 (F : Fr) (b0 : Nat) (w : World) (hI : F.In w) (hB : F.Box w b0) (hok : F.ok = true) (ht : F.truths = []) :
    Calls Try.prog 80 #[.pointer (some ⟨b0, 0, none⟩)] w (Pan 10 w) := by
  have H1 := Lib.hid (fun w1 (k : Keeps w w1) => needFringe_yes F w1 (hI.keep k) hok)
  have H3 := Lib.hid (fun w1 (k : Keeps w w1) => needTruth_no F w1 (hI.keep k) hok ht)
  obtain ⟨g0, g1, g2, g3⟩ := hB
  have hlb := lt_of_cell g0
  obtain ⟨wa, wc, ws, lo, hi, ra, rc, rs⟩ := F
  dsimp only [Fr.v] at *
  clear hok hI ht
  go_enter Try.func80, Try.ntmps80
  go_wp2_with fail
  refine (H1.out _ (Keeps.refl _)).mono ?_
  rintro e w1 ⟨rfl, k1⟩
  have hc1 := k1.cells
  go_wp2_with fail
  refine (H3.out _ k1).mono ?_
  rintro e w2 ⟨rfl, k2⟩
  exact ⟨rfl, rfl, k1.trans k2⟩
set_option maxHeartbeats 400000 in
theorem Lengths1_yes (F : Fr) (b0 : Nat) (w : World) (hI : F.In w) (hB : F.Box w b0) (hok : F.ok = true) (ht : F.truths ≠ []) :
    Calls Try.prog 80 #[.pointer (some ⟨b0, 0, none⟩)] w fun e w' => ∃ v, e = .returned v ∧ w'.ownsRow w.heap.size 24 2 v (spansOf F.truths).length (spCells (spansOf F.truths)) ∧ Keeps w w' := by
  have H1 := Lib.hid (fun w1 (k : Keeps w w1) => needFringe_yes F w1 (hI.keep k) hok)
  have H3 := Lib.hid (fun w1 (k : Keeps w w1) => needTruth_yes F w1 (hI.keep k) hok ht)
  have H4 := Lib.hid (fun w1 (k : Keeps w w1) => truths_at F w1 (hI.keep k) hok)
  have H5 := Lib.hid (fun b1 b2 a w1 hS x1 x2 x3 => spans_any F hok b1 b2 a w1 hS x1 x2 x3)
  obtain ⟨g0, g1, g2, g3⟩ := hB
  have hlb := lt_of_cell g0
  obtain ⟨ts, hts⟩ : ∃ ts, F.truths = ts := ⟨_, rfl⟩
  rw [hts] at H5 ⊢
  obtain ⟨wa, wc, ws, lo, hi, ra, rc, rs⟩ := F
  dsimp only [Fr.v] at *
  clear hok hI ht hts
  go_enter Try.func80, Try.ntmps80
  go_wp2_with fail
  refine (H1.out _ (Keeps.refl _)).mono ?_
  rintro e w1 ⟨rfl, k1⟩
  have hc1 := k1.cells
  go_wp2_with fail
  refine (H3.out _ k1).mono ?_
  rintro e w2 ⟨rfl, k2⟩
  replace k2 := k1.trans k2
  clear hc1
  have hc2 := k2.cells
  go_wp2_with fail
  refine (H4.out _ k2).mono ?_
  rintro e w4 ⟨c1, c2, a, rfl, k4, hS, x1, x2, x3, _, _, _⟩
  go_wp2_with fail
  refine (H5.out _ _ _ _ hS x1 x2 x3).mono ?_
  rintro e w5 ⟨v, rfl, ⟨hrow, _⟩, k6⟩
  have hrow' := ownsRow_mono hrow (k2.trans k4).size
  have HR := Lib.hid hrow'
  clear hrow hrow'
  go_wp2_with fail
  go_ret
  exact ⟨v, rfl, HR.out, (k2.trans k4).trans k6⟩

def lenE (F : Fr) : Int := if F.ok = false then 1 else if F.truths = [] then 10 else 0
def lenL (F : Fr) : List Sp := if F.ok = false then [] else if F.truths = [] then [] else spansOf F.truths
theorem Lengths_any (F : Fr) (w : World) (hI : F.In w) : Calls Try.prog 27 #[F.v] w (Ans (fun v k w' => k = lenE F ∧ SpansAt w' v (lenL F)) w) := by
  refine Lengths_by F _ w fun w1 b0 k hB => ?_
  have kk : Keeps w1 (w1.alloc (.cells #[.int .i64 0] 30)) := (Keeps.refl _).alloc _
  have hI2 := hI.keep (k.trans kk)
  have hB2 := hB.keep kk
  cases hok : F.ok with
  | false =>
    rw [show lenE F = 1 by simp [lenE, hok], show lenL F = [] by simp [lenL, hok]]
    refine (answer_pan_spans _ _ _ _ (fun w => enter_Lengths1 _ w) (Lengths1_no1 F b0 _ hI2 hB2 hok)).mono ?_
    rintro e w' ⟨rfl, hk⟩
    exact ⟨_, _, rfl, ⟨rfl, SpansAt.nil _⟩, hk⟩
  | true =>
    by_cases ht : F.truths = []
    · rw [show lenE F = 10 by simp [lenE, hok, ht], show lenL F = [] by simp [lenL, ht]]
      refine (answer_pan_spans _ _ _ _ (fun w => enter_Lengths1 _ w) (Lengths1_no2 F b0 _ hI2 hB2 hok ht)).mono ?_
      rintro e w' ⟨rfl, hk⟩
      exact ⟨_, _, rfl, ⟨rfl, SpansAt.nil _⟩, hk⟩
    · rw [show lenE F = 0 by simp [lenE, hok, ht], show lenL F = spansOf F.truths by simp [lenL, hok, ht]]
      refine (answer_ok_spans _ _ _ (fun v wa => wa.ownsRow (w1.heap.size + 1) 24 2 v (spansOf F.truths).length (spCells (spansOf F.truths))) (fun w => enter_Lengths1 _ w) (fun v wa u h => ownsRow_setCell_below h (Nat.lt_succ_self _) u) ?_).mono ?_
      · refine (Lengths1_yes F b0 _ hI2 hB2 hok ht).mono ?_
        rintro e w' ⟨v, rfl, hrow, hk⟩
        exact ⟨v, rfl, ownsRow_mono hrow (by simp), hk⟩
      · rintro e w' ⟨v, rfl, hrow, hk⟩
        exact ⟨_, _, rfl, ⟨rfl, SpansAt.of_owns hrow⟩, hk⟩
end Go.Proofs.Ytoidnbpbeblokaa

namespace Go.Proofs.Ytoidnbpbeblokaa

theorem mem_lensTo {lo : Nat} {gs : List Rg} {k : Nat} {x : Ln} : x ∈ lensTo lo gs k ↔ lo ≤ x.val ∧ x.val < lo + k ∧ gs.all (rightB · ((x.val : Nat) : Int)) = true := by
  unfold lensTo
  rw [List.mem_filterMap]
  constructor
  · rintro ⟨i, hi, h⟩
    rw [List.mem_range] at hi
    split at h
    · rename_i hl
      split at h
      · rename_i ha
        cases h
        exact ⟨by simp, by simp; omega, ha⟩
      · cases h
    · cases h
  · rintro ⟨h1, h2, h3⟩
    have hx := x.isLt
    refine ⟨x.val - lo, List.mem_range.2 (by omega), ?_⟩
    have e : lo + (x.val - lo) = x.val := by omega
    rw [dif_pos (by omega)]
    simp only [e, h3, if_true]
theorem lensTo_sorted (lo : Nat) (gs : List Rg) (k : Nat) : (lensTo lo gs k).Pairwise (fun a b => a.val < b.val) := by
  induction k with
  | zero => simp [lensTo]
  | succ k ih =>
    by_cases hl : lo + k < 2001
    · cases ha : gs.all (rightB · ((lo + k : Nat) : Int)) with
      | true =>
        rw [lensTo_yes hl ha, List.pairwise_append]
        refine ⟨ih, List.pairwise_singleton _ _, fun a h b hb => ?_⟩
        rw [List.mem_singleton.1 hb]
        have := (mem_lensTo.1 h).2.1
        simpa using this
      | false => rw [lensTo_no hl ha]; exact ih
    · have e : lensTo lo gs (k + 1) = lensTo lo gs k := by
        simp only [lensTo, List.range_succ, List.filterMap_append, List.filterMap_cons, List.filterMap_nil, dif_neg hl, List.append_nil]
      rw [e]; exact ih
theorem mem_truths {F : Fr} (h : F.ok = true) {x : Ln} : x ∈ F.truths ↔ F.lo ≤ ((x.val : Nat) : Int) ∧ ((x.val : Nat) : Int) ≤ F.hi ∧ F.gs.all (rightB · ((x.val : Nat) : Int)) = true := by
  obtain ⟨l1, l2, l3, l4⟩ := F.len_in h
  unfold Fr.truths lens
  rw [mem_lensTo]
  constructor
  · rintro ⟨h1, h2, h3⟩; exact ⟨by omega, by omega, h3⟩
  · rintro ⟨h1, h2, h3⟩; exact ⟨by omega, by omega, h3⟩
theorem truths_sorted (F : Fr) : F.truths.Pairwise (fun a b => a.val < b.val) := lensTo_sorted _ _ _

/-- The numbers of a span. -/
def spanL (s : Sp) : List Int := (List.range (s.2 + 1 - s.1).toNat).map fun (i : Nat) => s.1 + i
theorem mem_spanL {s : Sp} {n : Int} : n ∈ spanL s ↔ s.1 ≤ n ∧ n ≤ s.2 := by
  unfold spanL
  rw [List.mem_map]
  constructor
  · rintro ⟨i, hi, rfl⟩
    rw [List.mem_range] at hi
    omega
  · rintro ⟨h1, h2⟩
    exact ⟨(n - s.1).toNat, List.mem_range.2 (by omega), by omega⟩
theorem spanL_one (x : Int) : spanL (x, x) = [x] := by
  unfold spanL
  have e : (x + 1 - x).toNat = 1 := by omega
  simp [e]
theorem spanL_more {lo x : Int} (h : lo ≤ x) : spanL (lo, x) = spanL (lo, x - 1) ++ [x] := by
  unfold spanL
  have e : (x + 1 - lo).toNat = (x - 1 + 1 - lo).toNat + 1 := by omega
  simp only [e, List.range_succ, List.map_append, List.map_cons, List.map_nil]
  congr 2
  omega
/-- The numbers of spans. -/
def flat (l : List Sp) : List Int := l.flatMap spanL
theorem flat_append (l m : List Sp) : flat (l ++ m) = flat l ++ flat m := by simp [flat]
/-- Spans in order, none of which meets the next one. -/
def Apart (l : List Sp) : Prop := l.Pairwise (fun s t => s.2 + 1 < t.1) ∧ ∀ s ∈ l, s.1 ≤ s.2
theorem spansOf_facts (ts : List Ln) (hs : ts.Pairwise (fun a b => a.val < b.val)) : flat (spansOf ts) = ts.map (fun x => ((x.val : Nat) : Int)) ∧ Apart (spansOf ts) ∧ ∀ l y, ts = l ++ [y] → ∃ l' lo, spansOf ts = l' ++ [(lo, ((y.val : Nat) : Int))] := by
  induction ts using snoc_ind with
  | h0 => exact ⟨rfl, ⟨List.Pairwise.nil, fun s h => absurd h List.not_mem_nil⟩, fun l y h => by simp at h⟩
  | h1 ts x ih =>
    rw [List.pairwise_append] at hs
    obtain ⟨h1, _, h3⟩ := hs
    obtain ⟨i1, ⟨i2, i3⟩, i4⟩ := ih h1
    rw [spansOf_snoc]
    rcases List.eq_nil_or_concat ts with rfl | ⟨l, y, rfl⟩
    · refine ⟨by simp [spansOf, spStep_nil, flat, spanL_one], ⟨?_, ?_⟩, fun l y h => ?_⟩
      · rw [show spansOf [] = [] from rfl, spStep_nil]; exact List.pairwise_singleton _ _
      · rw [show spansOf [] = [] from rfl, spStep_nil]; intro s h; rw [List.mem_singleton.1 h]; exact Int.le_refl _
      · rw [show spansOf [] = [] from rfl, spStep_nil]
        have : y = x := by simpa using (congrArg List.getLast? h).symm
        subst this
        exact ⟨[], _, rfl⟩
    · rw [List.concat_eq_append] at *
      obtain ⟨l', lo, e⟩ := i4 l y rfl
      have hyx := h3 y (by simp) x (by simp)
      rw [e] at i1 i2 i3 ⊢
      rw [List.pairwise_append] at i2
      obtain ⟨j1, _, j3⟩ := i2
      have hly := i3 (lo, ((y.val : Nat) : Int)) (by simp)
      dsimp only at hly
      by_cases hx : ((y.val : Nat) : Int) + 1 = ((x.val : Nat) : Int)
      · rw [spStep_set hx]
        refine ⟨?_, ⟨?_, ?_⟩, fun m z h => ?_⟩
        · have f1 : flat [(lo, ((x.val : Nat) : Int))] = flat [(lo, ((y.val : Nat) : Int))] ++ [((x.val : Nat) : Int)] := by
            simp only [flat, List.flatMap_cons, List.flatMap_nil, List.append_nil]
            rw [spanL_more (x := ((x.val : Nat) : Int)) (by omega), show ((x.val : Nat) : Int) - 1 = ((y.val : Nat) : Int) by omega]
          rw [flat_append, f1, ← List.append_assoc, ← flat_append, i1, List.map_append (l₁ := l ++ [y])]
          rfl
        · rw [List.pairwise_append]
          exact ⟨j1, List.pairwise_singleton _ _, fun a ha b hb => by
            rw [List.mem_singleton.1 hb]
            exact j3 a ha (lo, ((y.val : Nat) : Int)) (List.mem_singleton.2 rfl)⟩
        · intro s hs
          rcases List.mem_append.1 hs with h | h
          · exact i3 s (by simp [h])
          · rw [List.mem_singleton.1 h]; show lo ≤ ((x.val : Nat) : Int); omega
        · have : z = x := by simpa using (congrArg List.getLast? h).symm
          subst this
          exact ⟨l', lo, rfl⟩
      · rw [spStep_new hx]
        refine ⟨?_, ⟨?_, ?_⟩, fun m z h => ?_⟩
        · rw [List.map_append, ← i1, flat_append (l' ++ _)]
          simp [flat, spanL_one]
        · rw [List.pairwise_append]
          refine ⟨by rw [List.pairwise_append]; exact ⟨j1, List.pairwise_singleton _ _, j3⟩, List.pairwise_singleton _ _, fun a ha b hb => ?_⟩
          rw [List.mem_singleton.1 hb]
          rcases List.mem_append.1 ha with h | h
          · have := j3 a h _ (List.mem_singleton.2 rfl)
            dsimp only at this ⊢
            omega
          · rw [List.mem_singleton.1 h]; dsimp only; omega
        · intro s hs
          rcases List.mem_append.1 hs with h | h
          · exact i3 s h
          · rw [List.mem_singleton.1 h]; exact Int.le_refl _
        · have : z = x := by simpa using (congrArg List.getLast? h).symm
          subst this
          exact ⟨_, _, rfl⟩
end Go.Proofs.Ytoidnbpbeblokaa
