/-
  spans: lengths in order, as the fewest spans.
-/
import Derived.RangeFuncBox
import Derived.RangeFuncWrites
import Derived.Maps.AppendAt
import Derived.WalkSmall
import Derived.Laws.OwnMore
import Derived.Test.YtgbojgachgodgaaWq
namespace Go.Proofs.Ytgbojgachgodgaa
open Go.RowKit Go.Shelf
attribute [local go_sem] Oper.semAt_some

abbrev Sp := Int × Int
def spStep (l : List Sp) (x : Int) : List Sp :=
  match l.getLast? with
  | some s => if s.2 + 1 = x then l.dropLast ++ [(s.1, x)] else l ++ [(x, x)]
  | none => [(x, x)]
def spansOf (ts : List Ln) : List Sp := ts.foldl (fun l x => spStep l (x.val : Nat)) []
theorem spansOf_snoc (ts : List Ln) (x : Ln) : spansOf (ts ++ [x]) = spStep (spansOf ts) (x.val : Nat) := by simp [spansOf]
theorem spStep_nil (x : Int) : spStep [] x = [(x, x)] := rfl
theorem spStep_set {l : List Sp} {lo hi x : Int} (h : hi + 1 = x) : spStep (l ++ [(lo, hi)]) x = l ++ [(lo, x)] := by simp [spStep, h]
theorem spStep_new {l : List Sp} {lo hi x : Int} (h : ¬ hi + 1 = x) : spStep (l ++ [(lo, hi)]) x = l ++ [(lo, hi)] ++ [(x, x)] := by simp [spStep, h]
theorem spStep_len (l : List Sp) (x : Int) : (spStep l x).length ≤ l.length + 1 := by
  unfold spStep
  split
  · split
    · simp
    · simp
  · simp
theorem snoc_ind {α : Type} {P : List α → Prop} (h0 : P []) (h1 : ∀ l x, P l → P (l ++ [x])) (l : List α) : P l := by
  rw [← List.reverse_reverse l]
  induction l.reverse with
  | nil => exact h0
  | cons x l ih => rw [List.reverse_cons]; exact h1 _ _ ih
theorem spansOf_len (ts : List Ln) : (spansOf ts).length ≤ ts.length := by
  induction ts using snoc_ind with
  | h0 => simp [spansOf]
  | h1 ts x ih => rw [spansOf_snoc]; have := spStep_len (spansOf ts) (x.val : Nat); simp; omega
/-- The last span, if there is one, ends at a length. -/
theorem spansOf_last (ts : List Ln) : ∀ l lo hi, spansOf ts = l ++ [(lo, hi)] → 0 ≤ hi ∧ hi ≤ 2000 := by
  induction ts using snoc_ind with
  | h0 => intro l lo hi h; simp [spansOf] at h
  | h1 ts x _ =>
    intro l lo hi h
    rw [spansOf_snoc] at h
    have hx := x.isLt
    rcases List.eq_nil_or_concat (spansOf ts) with e | ⟨l', ⟨a, b⟩, e⟩
    · rw [e, spStep_nil] at h
      have : (((x.val : Nat) : Int), ((x.val : Nat) : Int)) = (lo, hi) := by
        have := congrArg List.getLast? h
        simpa using this
      cases this; omega
    · rw [List.concat_eq_append] at e
      rw [e] at h
      by_cases hb : b + 1 = ((x.val : Nat) : Int)
      · rw [spStep_set hb] at h
        have := congrArg List.getLast? h
        simp at this
        omega
      · rw [spStep_new hb] at h
        have := congrArg List.getLast? h
        simp at this
        omega
def spCells (l : List Sp) : List Value := l.flatMap fun s => [.int .i64 s.1, .int .i64 s.2]
theorem spCells_append (l m : List Sp) : spCells (l ++ m) = spCells l ++ spCells m := by simp [spCells]
theorem spCells_len (l : List Sp) : (spCells l).length = l.length * 2 := by
  induction l with
  | nil => rfl
  | cons s l ih => simp only [spCells, List.flatMap_cons, List.length_append, List.length_cons, List.length_nil] at *; omega
theorem spCells_last (l : List Sp) (lo hi : Int) : (spCells (l ++ [(lo, hi)]))[l.length * 2 + 1]? = some (.int .i64 hi) := by
  rw [spCells_append, List.getElem?_append_right (by rw [spCells_len]; omega), spCells_len]
  have : l.length * 2 + 1 - l.length * 2 = 1 := by omega
  rw [this]; rfl
theorem spCells_set (l : List Sp) (lo hi x : Int) : (spCells (l ++ [(lo, hi)])).set (l.length * 2 + 1) (.int .i64 x) = spCells (l ++ [(lo, x)]) := by
  rw [spCells_append, spCells_append, List.set_append_right _ _ (by rw [spCells_len]; omega), spCells_len]
  have : l.length * 2 + 1 - l.length * 2 = 1 := by omega
  rw [this]; rfl

theorem ownsRow_base {w : World} {base size k g cap : Nat} {e : TypeId} {xs : List Value} (h : w.ownsRow base e size (.slice (some ⟨g, 0, none⟩) k cap) k xs) : base ≤ g := by
  rcases h.2 with ⟨h1, _⟩ | ⟨g1, c1, cur, h1, h2, _⟩
  · simp at h1
  · simp only [Value.slice.injEq, Option.some.injEq, Addr.mk.injEq, and_true, true_and] at h1
    omega
theorem keepEx_of_below {m n₀ : Nat} {W W' : World} (h : Below n₀ W W') : KeepEx m (fun k => n₀ ≤ k) W W' := ⟨h.size, fun k _ hk => h.block k (by omega)⟩
theorem info_span : (Try.prog.info? 24).map (fun i => (i.zero, i.size, i.bytes)) = some (some (.agg #[.int .i64 0, .int .i64 0]), 2, 16) := by kernel_rfl

set_option maxHeartbeats 3200000 in
theorem spans_any (F : Fr) (hok : F.ok = true) (b1 b2 : Nat) (a : Option Addr) (w : World) (hS : SeqIn F w b1 b2 a) (hb1 : b1 < w.heap.size) (hb2 : b2 < w.heap.size) (hb3 : ∀ b o, a = some ⟨b, o, none⟩ → b < w.heap.size) :
    Calls Try.prog 81 #[.func (.func 110) #[] #[.pointer (some ⟨b1, 0, none⟩), .pointer (some ⟨b2, 0, none⟩)]] w fun e w' =>
      ∃ v, e = .returned v ∧ (w'.ownsRow w.heap.size 24 2 v (spansOf F.truths).length (spCells (spansOf F.truths)) ∧ (v = .slice none 0 0 ↔ spansOf F.truths = [])) ∧ Keeps w w' := by
  have HS := Lib.hid (seq_stops F hok b1 b2 (fun k => w.heap.size ≤ k) a)
  have HB := Lib.hid hb3
  have HQ := Lib.hid hS
  have hlen := F.truths_len hok
  obtain ⟨i0, hi, hz0, hz1, hz2⟩ := info_parts info_span
  obtain ⟨ts, hts⟩ : ∃ ts, F.truths = ts := ⟨_, rfl⟩
  rw [hts] at HS hlen ⊢
  clear hok hts hS hb3
  refine (callsIn_wide (n := 4)).1 ?_
  refine callsIn_of_wp_marks Try.func81 rfl trivial ?_ rfl
  simp only [Try.ntmps81, List.size_toArray, List.length_cons, List.length_nil, Nat.reduceAdd, Nat.reduceSub, Array.replicate_succ, Array.replicate_zero, List.push_toArray, List.append_toArray, List.nil_append, List.cons_append]
  gi_wp2_with fail
  have bO := Boxed.new w 45 (.slice none 0 0)
  have k0 : Keeps w (w.alloc (.cells #[.slice none 0 0] 45)) := (Keeps.refl _).alloc _
  refine wpIn_rangeFunc_ownG rfl (by omega) (gf := 110) (lb := #[.pointer (some ⟨b1, 0, none⟩), .pointer (some ⟨b2, 0, none⟩)]) rfl trivial (enters_of Try.func110 (by kernel_rfl) rfl)
    (HS.out _ (by omega) (by omega) (fun b o e => by have := HB.out b o e; omega) (HQ.out.keep k0))
    (fun h k => KeepEx.trans h k) keepEx_putObj (Below.refl _ _) (fun _ => rfl)
    (fun pre W => (∃ v, Boxed W w.heap.size 45 v ∧ W.ownsRow w.heap.size 24 2 v (spansOf pre).length (spCells (spansOf pre)) ∧ (v = .slice none 0 0 ↔ spansOf pre = [])) ∧ Below w.heap.size w W)
    (fun _ _ _ => False)
    (OwnFrom.and (Own.from (holdsRow_own w.heap.size w.heap.size 45 24 2 (fun pre => (spansOf pre).length) (fun pre => spCells (spansOf pre)) (fun pre v => v = .slice none 0 0 ↔ spansOf pre = [])) _) (ownFrom_below (Nat.le_refl _) (by simp)))
    (fun _ _ _ _ _ hs _ _ => hs)
    ⟨⟨_, bO, World.ownsRow_nil _ _ _ _, by simp [spansOf]⟩, k0⟩
    (fun x => { tmps := #[.func (.func 110) #[] #[.pointer (some ⟨b1, 0, none⟩), .pointer (some ⟨b2, 0, none⟩)], undef, .slice none 0 0, .pointer (some ⟨w.heap.size, 0, none⟩), lnV x, undef, .func (.func 110) #[] #[.pointer (some ⟨b1, 0, none⟩), .pointer (some ⟨b2, 0, none⟩)], lnV x,
      undef, undef, undef, undef, undef, undef, undef, undef, undef, undef, undef, undef, undef, undef, undef, undef, undef, undef, undef, undef, undef, undef, undef, undef, undef, undef, undef], defers := [] }) ?assign ?body ?done ?stop
  case assign =>
    intro l x W K hK
    gi_wp2
    simpa using hK
  case body =>
    rintro l pre x W ⟨⟨v, hv, hrow, hnil⟩, hB⟩ hN
    have hn1 : 1 ≤ 4 - 1 - 1 := by omega
    have hpl := spansOf_len pre
    have hc := hv.cell
    have hsz := hB.size
    have hsn := spansOf_snoc pre x
    have hlast := spansOf_last pre
    have HN := Lib.hid hsn
    have HL := Lib.hid hlast
    clear hsn hlast
    obtain ⟨n, hn⟩ := x
    dsimp only [lnV]
    rcases List.eq_nil_or_concat (spansOf pre) with e | ⟨l', ⟨lo, hi'⟩, e⟩
    · rw [e] at hrow hpl
      obtain rfl := hnil.2 e
      have He := Lib.hid e
      clear e hnil
      gi_wp2_with (gi_at_builtin; refine wpListIn_append_own _ rfl _ _ 45 rfl w.heap.size 24 i0 (.agg #[.int .i64 0, .int .i64 0]) 2 16 Try.underlying45 hi hz0 hz1 hz2 rfl (by decide) _ _ _ rfl (hrow.alloc _) ⟨W.heap.size, 0, none⟩ 1 1 [.int .i64 (n : Int), .int .i64 (n : Int)] rfl rfl (cell_two_new _ _ _ _) (by simp [Value.oneCell']) (by simp [maxLen]) (by simp) (by simp; omega) ?_; intro v' w1 hown' hgrow _; obtain ⟨g', cap', rfl⟩ := ownsRow_succ hown'; obtain ⟨hv1, hv2, hr2, hk2, hb2⟩ := hv.appended (by decide) hrow hB.size (Nat.le_refl _) hown' hgrow; have hc1 := hv1.cell; have hf1 := hv1.frozen)
      exact ⟨hk2.from _, keepEx_of_below hb2, ⟨_, hv2, by rw [HN.out, He.out, spStep_nil]; simpa [spCells] using hr2, by rw [HN.out, He.out, spStep_nil]; simp⟩, hB.trans hb2⟩
    · rw [List.concat_eq_append] at e
      obtain ⟨hh0, hh1⟩ := HL.out _ _ _ e
      have hset := spCells_set l' lo hi' (n : Int)
      have hlc := spCells_last l' lo hi'
      rw [e] at hrow hpl
      have hne : v ≠ .slice none 0 0 := fun h => by have := hnil.1 h; rw [e] at this; simp at this
      have He := Lib.hid e
      clear e hnil
      obtain ⟨m, hm⟩ : ∃ m, l'.length = m := ⟨_, rfl⟩
      rw [hm] at hset hlc
      have hlen1 : (l' ++ [(lo, hi')]).length = m + 1 := by simp [hm]
      rw [hlen1] at hrow hpl
      obtain ⟨g, cap, rfl⟩ := ownsRow_succ hrow
      have hcell := (hrow.cellAt (m * 2 + 1) (by omega)).trans hlc
      have hfz := hrow.frozenAt (m * 2 + 1)
      have hgB : g ≠ w.heap.size := fun h => by have := hv.not_row (e := 24) (by decide) hrow; exact this (by rw [h]; rfl)
      have Hm := Lib.hid hm
      clear hm hlen1 hlc hne
      by_cases hx : hi' + 1 = (n : Int)
      · have hb : (hi' + 1 == (n : Int)) = true := by rw [beq_iff_eq]; exact hx
        have Hx := Lib.hid hx
        clear hx
        gi_wp2_with fail
        obtain ⟨hs1, hs2⟩ := hrow.stored (m * 2 + 1) (.int .i64 (n : Int))
        have hb2 : Below w.heap.size W (W.setCell ⟨g, m * 2 + 1, none⟩ (.int .i64 (n : Int))) := (Below.refl _ _).setCell (p := ⟨g, m * 2 + 1, none⟩) (ownsRow_base hrow) _
        rw [hset] at hs1
        exact ⟨(KeepsOthers.setCell _ _ _).from _, keepEx_of_below hb2, ⟨_, hv.kept hs2 (by simpa using hgB.symm), by rw [HN.out, He.out, spStep_set Hx.out]; simpa [Hm.out] using hs1, by rw [HN.out, He.out, spStep_set Hx.out]; simp⟩, hB.trans hb2⟩
      · have hb : (hi' + 1 == (n : Int)) = false := by rw [beq_eq_false_iff_ne]; exact hx
        have Hx := Lib.hid hx
        clear hx
        gi_wp2_with (gi_at_builtin; refine wpListIn_append_own _ rfl _ _ 45 rfl w.heap.size 24 i0 (.agg #[.int .i64 0, .int .i64 0]) 2 16 Try.underlying45 hi hz0 hz1 hz2 rfl (by decide) _ _ _ rfl (hrow.alloc _) ⟨W.heap.size, 0, none⟩ 1 1 [.int .i64 (n : Int), .int .i64 (n : Int)] rfl rfl (cell_two_new _ _ _ _) (by simp [Value.oneCell']) (by unfold maxLen; omega) (by omega) (by simp; omega) ?_; intro v' w1 hown' hgrow _; obtain ⟨g', cap', rfl⟩ := ownsRow_succ hown'; obtain ⟨hv1, hv2, hr2, hk2, hb2⟩ := hv.appended (by decide) hrow hB.size (Nat.le_refl _) hown' hgrow; have hc1 := hv1.cell; have hf1 := hv1.frozen)
        exact ⟨hk2.from _, keepEx_of_below hb2, ⟨_, hv2, by rw [HN.out, He.out, spStep_new Hx.out, spCells_append]; simpa [spCells, Hm.out] using hr2, by rw [HN.out, He.out, spStep_new Hx.out]; simp⟩, hB.trans hb2⟩
  case done =>
    rintro D ys W hD rfl ⟨⟨v, hv, hrow, hnil⟩, hB⟩ hK
    have hc := hv.cell
    gi_wp2
    refine ⟨by simp, .inl ⟨_, _, rfl, run_takeDeferred hK, ?_⟩⟩
    exact ⟨_, results_tmp rfl _ _ _, v, rfl, ⟨ownsRow_putObj hrow _ hK rfl, hnil⟩, keeps_putObj hB _ (Nat.le_trans k0.size hD)⟩
  case stop =>
    rintro D c pre W _ _ h _
    exact h.elim
end Go.Proofs.Ytgbojgachgodgaa
