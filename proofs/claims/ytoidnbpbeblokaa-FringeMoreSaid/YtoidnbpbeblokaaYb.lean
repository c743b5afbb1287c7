/-
  fractions: each fraction once, in the order in which lengths have them.
-/
import Derived.Test.YtoidnbpbeblokaaYa
import Derived.Test.YtoidnbpbeblokaaWr
import Derived.Test.YtoidnbpbeblokaaWt
namespace Go.Proofs.Ytoidnbpbeblokaa
open Go.RowKit Go.Shelf Go.Maps
attribute [local go_sem] Oper.semAt_some

def frcOf (wv n : Int) : Int × Int := (n / wv, 20 * (n % wv) / wv)
def frStep (wv : Int) (l : List (Int × Int)) (x : Ln) : List (Int × Int) := if frcOf wv (x.val : Nat) ∈ l then l else l ++ [frcOf wv (x.val : Nat)]
/-- The fractions of lengths, each once. -/
def frs (wv : Int) (ts : List Ln) : List (Int × Int) := ts.foldl (frStep wv) []
theorem frs_snoc (wv : Int) (ts : List Ln) (x : Ln) : frs wv (ts ++ [x]) = frStep wv (frs wv ts) x := by simp [frs]
theorem frs_nil (wv : Int) : frs wv [] = [] := rfl
theorem frs_len (wv : Int) (ts : List Ln) : (frs wv ts).length ≤ ts.length := by
  induction ts using snoc_ind with
  | h0 => simp [frs]
  | h1 ts x ih => rw [frs_snoc, frStep]; split <;> simp <;> omega
theorem okF_of {x : Int × Int} (h1 : 0 ≤ x.1) (h2 : x.1 ≤ 4000) (h3 : 0 ≤ x.2) (h4 : x.2 ≤ 4000) : okF x := by
  obtain ⟨a, b⟩ := x
  dsimp only at h1 h2 h3 h4
  have e1 : IntKind.i64.min = -9223372036854775808 := rfl
  have e2 : IntKind.i64.max = 9223372036854775807 := rfl
  constructor <;> simp only [Lit.wf, Bool.and_eq_true, decide_eq_true_eq] <;> omega
theorem frcOf_ok {wv : Int} (hw1 : 1 ≤ wv) (x : Ln) : okF (frcOf wv (x.val : Nat)) := by
  have hx := x.isLt
  have h0 : 0 ≤ ((x.val : Nat) : Int) / wv := Int.ediv_nonneg (by omega) (by omega)
  have h1 : ((x.val : Nat) : Int) / wv ≤ ((x.val : Nat) : Int) := Int.ediv_le_self _ (by omega)
  have hp := partI_bd (wv := wv) (n := ((x.val : Nat) : Int)) hw1
  unfold partI at hp
  exact okF_of h0 (by show ((x.val : Nat) : Int) / wv ≤ 4000; omega) hp.1 (by show 20 * (((x.val : Nat) : Int) % wv) / wv ≤ 4000; omega)

theorem Seen.of_block {w w' : World} {b : Nat} {l : List (Int × Int)} (h : Seen w b l) (e : w'.heap[b]? = w.heap[b]?) : Seen w' b l := by
  obtain ⟨D, ⟨es, clock, h1, h2⟩, h3⟩ := h
  exact ⟨D, ⟨es, clock, e.trans h1, h2⟩, h3⟩
theorem Seen.lt {w : World} {b : Nat} {l : List (Int × Int)} (h : Seen w b l) : b < w.heap.size := by
  obtain ⟨D, h1, _⟩ := h
  exact h1.lt
theorem Seen.keep {w w' : World} {b : Nat} {l : List (Int × Int)} (h : Seen w b l) (k : Keeps w w') : Seen w' b l := h.of_block (k.heap h.lt)

theorem Seen.others {w w' : World} {b : Nat} {l : List (Int × Int)} (h : Seen w b l) (k : KeepsOthers w w') : Seen w' b l := by
  obtain ⟨D, ⟨es, clock, h1, h2⟩, h3⟩ := h
  exact ⟨D, ⟨es, clock, k.same _ _ h1 rfl, h2⟩, h3⟩
theorem Seen.not_row {w : World} {b : Nat} {l : List (Int × Int)} (h : Seen w b l) {base size k : Nat} {e : TypeId} {v : Value} {xs : List Value} (hr : w.ownsRow base e size v k xs) : v.ownBlock = none ∨ v.ownBlock ≠ some b := by
  rcases hr.2 with ⟨rfl, _⟩ | ⟨g, cap, cur, rfl, _, hgb, _⟩
  · exact .inl rfl
  · refine .inr fun e => ?_
    obtain rfl : g = b := by simpa [Value.ownBlock] using e
    obtain ⟨D, ⟨es, clock, h1, _⟩, _⟩ := h
    rw [h1] at hgb
    cases hgb
theorem Keeps.grown {w w' : World} (k : Keeps w w') (row : Option Nat) : w.grownBy w' row := ⟨k.os, k.tape, k.output, k.size, fun _ hi _ => k.heap hi⟩
theorem boxed_own {β : Type} (B : Nat) (t : TypeId) (v : Value) : Own (fun (_ : β) W => Boxed W B t v) := fun _ A _ _ hs hg hr => hs.kept hg (fun e => by
  obtain ⟨o, ho, hc⟩ := hr _ e.symm
  rw [show A.heap[_]? = _ from hs] at ho
  cases ho
  cases hc)
theorem own_cases {w : World} {base size k : Nat} {e : TypeId} {v : Value} {xs : List Value} (hr : w.ownsRow base e size v k xs) : v = .slice none 0 0 ∨ ∃ g cap, v = .slice (some ⟨g, 0, none⟩) k cap := by
  rcases hr.2 with ⟨rfl, _⟩ | ⟨g, cap, cur, rfl, _⟩
  · exact .inl rfl
  · exact .inr ⟨g, cap, rfl⟩
theorem not_own_none (v : Value) : v.ownBlock = none ∨ v.ownBlock ≠ none := by cases hv : v.ownBlock <;> simp

theorem others_of {A B : World} (k : Keeps A B) : KeepsOthers A B := ⟨k.size, fun _ _ hi _ => (k.heap (Array.getElem?_eq_some_iff.1 hi).1).trans hi⟩

theorem frac_boxes (w : World) (fv : Value) :
    let W0 := (((w.alloc (.cells #[fv] 114)).alloc (.map #[] 0)).alloc (.cells #[.map (some (w.heap.size + 1))] 153)).alloc (.cells #[.slice none 0 0] 117)
    Keeps w W0 ∧ Boxed W0 w.heap.size 114 fv ∧ Seen W0 (w.heap.size + 1) [] ∧ Boxed W0 (w.heap.size + 1 + 1) 153 (.map (some (w.heap.size + 1))) ∧
      Boxed W0 (w.heap.size + 1 + 1 + 1) 117 (.slice none 0 0) ∧ W0.heap.size = w.heap.size + 4 := by
  refine ⟨((((Keeps.refl _).alloc _).alloc _).alloc _).alloc _, ?_, ?_, ?_, ?_, by simp⟩
  · exact (((Boxed.new w _ _).alloc _).alloc _).alloc _
  · have h := Seen.made (w.alloc (.cells #[fv] 114))
    rw [World.size_alloc] at h
    exact (h.keep ((Keeps.refl _).alloc _)).keep ((Keeps.refl _).alloc _)
  · have h := Boxed.new ((w.alloc (.cells #[fv] 114)).alloc (.map #[] 0)) 153 (.map (some (w.heap.size + 1)))
    rw [World.size_alloc, World.size_alloc] at h
    exact h.alloc _
  · have h := Boxed.new (((w.alloc (.cells #[fv] 114)).alloc (.map #[] 0)).alloc (.cells #[.map (some (w.heap.size + 1))] 153)) 117 (.slice none 0 0)
    rw [World.size_alloc, World.size_alloc, World.size_alloc] at h
    exact h
theorem info_frac : (Try.prog.info? 110).map (fun i => (i.zero, i.size, i.bytes)) = some (some (.agg #[.int .i64 0, .int .i64 0]), 2, 16) := by kernel_rfl

set_option maxRecDepth 100000 in
set_option maxHeartbeats 3200000 in
theorem fractions_any (F : Fr) (hok : F.ok = true) (b1 b2 : Nat) (a : Option Addr) (wv : Int) (w : World) (hS : SeqIn F w b1 b2 a) (hb1 : b1 < w.heap.size) (hb2 : b2 < w.heap.size) (hb3 : ∀ b o, a = some ⟨b, o, none⟩ → b < w.heap.size) (hw1 : 1 ≤ wv) (hw2 : wv ≤ 60) :
    Calls Try.prog 107 #[.func (.func 110) #[] #[.pointer (some ⟨b1, 0, none⟩), .pointer (some ⟨b2, 0, none⟩)], .func (.func 72) #[.int .i64 wv] #[]] w fun e w' =>
      ∃ v, e = .returned v ∧ (w'.ownsRow w.heap.size 110 2 v (frs wv F.truths).length (spCells (frs wv F.truths)) ∧ (v = .slice none 0 0 ↔ frs wv F.truths = [])) ∧ Keeps w w' := by
  have HS := Lib.hid (seq_stops F hok b1 b2 (fun k => w.heap.size ≤ k) a)
  have HB := Lib.hid hb3
  have HQ := Lib.hid hS
  have hlen := F.truths_len hok
  obtain ⟨i0, hi, hz0, hz1, hz2⟩ := info_parts info_frac
  obtain ⟨ts, hts⟩ : ∃ ts, F.truths = ts := ⟨_, rfl⟩
  rw [hts] at HS hlen ⊢
  clear hok hts hS hb3
  have hmm := @run_makeMap Try.prog
  refine (callsIn_wide (n := 4)).1 ?_
  refine callsIn_of_wp_marks Try.func107 rfl trivial ?_ rfl
  simp only [Try.ntmps107, List.size_toArray, List.length_cons, List.length_nil, Nat.reduceAdd, Nat.reduceSub, Array.replicate_succ, Array.replicate_zero, List.push_toArray, List.append_toArray, List.nil_append, List.cons_append]
  gi_wp2_with fail
  obtain ⟨k0, c0, c1, c2, bL, hs0⟩ := frac_boxes w (.func (.func 72) #[.int .i64 wv] #[])
  obtain ⟨W0, hW0⟩ : ∃ W0, (((w.alloc (.cells #[.func (.func 72) #[.int .i64 wv] #[]] 114)).alloc (.map #[] 0)).alloc (.cells #[.map (some (w.heap.size + 1))] 153)).alloc (.cells #[.slice none 0 0] 117) = W0 := ⟨_, rfl⟩
  rw [hW0] at k0 c0 c1 c2 bL hs0 ⊢
  clear hW0
  refine wpIn_rangeFunc_ownG rfl (by omega) (gf := 110) (lb := #[.pointer (some ⟨b1, 0, none⟩), .pointer (some ⟨b2, 0, none⟩)]) rfl trivial (enters_of Try.func110 (by kernel_rfl) rfl)
    (HS.out _ (by omega) (by omega) (fun b o e => by have := HB.out b o e; omega) (HQ.out.keep k0))
    (fun h k => KeepEx.trans h k) keepEx_putObj (Below.refl _ _) (fun _ => rfl)
    (fun pre W => (((∃ v, Boxed W (w.heap.size + 1 + 1 + 1) 117 v ∧ W.ownsRow w.heap.size 110 2 v (frs wv pre).length (spCells (frs wv pre)) ∧ (v = .slice none 0 0 ↔ frs wv pre = [])) ∧
      Seen W (w.heap.size + 1) (frs wv pre)) ∧ (Boxed W w.heap.size 114 (.func (.func 72) #[.int .i64 wv] #[]) ∧ Boxed W (w.heap.size + 1 + 1) 153 (.map (some (w.heap.size + 1))))) ∧ Below w.heap.size w W)
    (fun _ _ _ => False)
    (OwnFrom.and (OwnFrom.and (OwnFrom.and (Own.from (holdsRow_own w.heap.size (w.heap.size + 1 + 1 + 1) 117 110 2 (fun pre => (frs wv pre).length) (fun pre => spCells (frs wv pre)) (fun pre v => v = .slice none 0 0 ↔ frs wv pre = [])) _)
      (fun s A B row hs hg hr => Seen.kept hs hg (fun e => by have := (hr _ e.symm).1; omega)))
      (OwnFrom.and (Own.from (boxed_own _ _ _) _) (Own.from (boxed_own _ _ _) _))) (ownFrom_below (Nat.le_refl _) (by omega)))
    (fun _ _ _ _ _ hs _ _ => hs)
    ⟨⟨⟨⟨_, bL, World.ownsRow_nil _ _ _ _, by simp [frs]⟩, c1⟩, c0, c2⟩, k0⟩
    (fun x => { tmps := #[.func (.func 110) #[] #[.pointer (some ⟨b1, 0, none⟩), .pointer (some ⟨b2, 0, none⟩)], .func (.func 72) #[.int .i64 wv] #[], undef, .pointer (some ⟨w.heap.size, 0, none⟩), .slice none 0 0, .pointer (some ⟨w.heap.size + 1 + 1, 0, none⟩), .pointer (some ⟨w.heap.size + 1 + 1 + 1, 0, none⟩), lnV x, undef,
      .map (some (w.heap.size + 1)), .func (.func 110) #[] #[.pointer (some ⟨b1, 0, none⟩), .pointer (some ⟨b2, 0, none⟩)], lnV x,
      undef, undef, undef, undef, undef, undef, undef, undef, undef, undef, undef, undef, undef, undef], defers := [] }) ?assign ?body ?done ?stop
  case assign =>
    intro l x W K hK
    gi_wp2
    simpa using hK
  case body =>
    rintro l pre x W ⟨⟨⟨⟨v, hv, hrow, hnil⟩, hSeen⟩, hfc, hsc⟩, hB⟩ hN
    have hn1 : 1 ≤ 4 - 1 - 1 := by omega
    have hfn : Fence.wide.fn 72 := trivial
    have hcf := enters_of Try.func72 (by kernel_rfl) rfl
    clear c0 c1 c2 bL k0
    have hpl := frs_len wv pre
    have hsn := frs_snoc wv pre x
    have hok := frcOf_ok (wv := wv) hw1 x
    obtain ⟨n, hn⟩ := x
    dsimp only [lnV]
    have hsplit := fun w1 => split_any wv (n : Int) w1 hw1 hw2 (by omega) (by omega)
    unfold frStep at hsn
    dsimp only at hsn hok
    obtain ⟨⟨p, q⟩, hpq⟩ : ∃ x, frcOf wv (n : Nat) = x := ⟨_, rfl⟩
    rw [hpq] at hsn hok
    obtain ⟨hp, hq⟩ := Prod.mk.inj hpq
    simp only [hp, hq] at hsplit
    have HC := Lib.hid (fun w1 => CallsIn.inRound l ((callsIn_wide (n := 4 - 1 - 1 - 1)).2 (hsplit w1)))
    have Hsn := Lib.hid hsn
    clear hp hq hpq hsplit hsn
    have hsz := hB.size
    have hlL := hv.lt
    have hlS := hSeen.lt
    have hcf0 := hfc.cell
    have hcs0 := hsc.cell
    gi_wp2_with fail
    refine (HC.out _).mono ?_
    rintro e w1 ⟨rfl, k1⟩
    have k2 := k1.alloc (.cells #[.int .i64 p, .int .i64 q] 110)
    have hS1 := hSeen.keep k2
    have hlook := hS1.look hok
    simp only [frV] at hlook
    have hcs1 := k1.cell hcs0
    have hs1 := k1.size
    have hl2 : w.heap.size + 1 + 1 < w1.heap.size := by omega
    have hv2 : Boxed _ _ _ _ := (k2.heap hv.lt).trans hv
    have hf2 : Boxed _ _ _ _ := (k2.heap hfc.lt).trans hfc
    have hm2 : Boxed _ _ _ _ := (k2.heap hsc.lt).trans hsc
    have hrow2 := hrow.kept (k2.grown none) (not_own_none v)
    have hb2 : Below w.heap.size W (w1.alloc (.cells #[.int .i64 p, .int .i64 q] 110)) := Below.mono k2 hsz
    by_cases hmem : (p, q) ∈ frs wv pre
    · replace Hsn := Lib.hid (Hsn.out.trans (if_pos hmem))
      simp only [hmem, decide_true] at hlook
      have Hrow := Lib.hid hrow2
      have Hv2 := Lib.hid hv2
      have Hf2 := Lib.hid hf2
      have Hm2 := Lib.hid hm2
      have Hnil := Lib.hid hnil
      have HS1 := Lib.hid hS1
      clear hrow hrow2 hv hv2 hf2 hm2 hnil hSeen hS1 hfc hsc hmem hok
      gi_wp2_with fail
      exact ⟨(others_of k2).from _, keepEx_of_below hb2, by rw [Hsn.out]; exact ⟨⟨⟨v, Hv2.out, Hrow.out, Hnil.out⟩, HS1.out⟩, Hf2.out, Hm2.out⟩, hB.trans hb2⟩
    · replace Hsn := Lib.hid (Hsn.out.trans (if_neg hmem))
      simp only [hmem, decide_false] at hlook
      obtain ⟨w3, hput, hS3, hg3⟩ := hS1.put hok (by unfold maxLen; omega)
      simp only [frV] at hput
      have hv3 : Boxed _ _ _ _ := hv2.kept hg3 (by intro e; injection e; omega)
      have hf3 : Boxed _ _ _ _ := hf2.kept hg3 (by intro e; injection e; omega)
      have hm3 : Boxed _ _ _ _ := hm2.kept hg3 (by intro e; injection e; omega)
      have hrow3 := hrow2.kept hg3 (hS1.not_row hrow2)
      have e8a : w3.cell? ⟨w1.heap.size, 0, none⟩ = some (.int .i64 p) := hg3.cell (by simp [go_sem]) (by intro e; injection e with e; dsimp only at e; omega)
      have e8b : w3.cell? ⟨w1.heap.size, 1, none⟩ = some (.int .i64 q) := hg3.cell (by simp [go_sem]) (by intro e; injection e with e; dsimp only at e; omega)
      have hzw : w1.heap.size + 1 ≤ w3.heap.size := by have := hg3.size; simpa using this
      have hb3 : Below w.heap.size W w3 := Below.grown hb2 hg3 (by simp; omega) (fun k e => by cases e; omega)
      have hk3 : KeepsFrom W0.heap.size W w3 := ((others_of k2).from _).trans (KeepsFrom.of_grownBy hg3 (fun j e => by cases e; omega))
      have hc3 := hv3.cell
      have hl3 := hv3.lt
      have Hv3 := Lib.hid hv3
      have Hf3 := Lib.hid hf3
      have Hm3 := Lib.hid hm3
      have HS3 := Lib.hid hS3
      have Hnil := Lib.hid hnil
      clear hrow hrow2 hv hv2 hf2 hm2 hSeen hS1 hfc hsc hmem hok hv3 hf3 hm3 hS3 hnil
      rcases own_cases hrow3 with rfl | ⟨g, cap, rfl⟩
      all_goals
        gi_wp2_with (gi_at_builtin; refine wpListIn_append_own _ rfl _ _ 117 rfl w.heap.size 110 i0 (.agg #[.int .i64 0, .int .i64 0]) 2 16 Try.underlying117 hi hz0 hz1 hz2 rfl (by decide) _ _ _ rfl (hrow3.alloc _) ⟨w3.heap.size, 0, none⟩ 1 1 [.int .i64 p, .int .i64 q] rfl rfl (cell_two_new _ _ _ _) (by simp [Value.oneCell']) (by unfold maxLen; omega) (by omega) (by simp; omega) ?_; intro v' w4 hown' hgrow _; obtain ⟨g', cap', rfl⟩ := ownsRow_succ hown'; obtain ⟨gv1, gv2, gr, gk, gb⟩ := Hv3.out.appended (by decide) hrow3 (by omega) (by omega) hown' hgrow; have gc1 := gv1.cell; have gf1 := gv1.frozen; have gf := ((Hf3.out.alloc _).kept hgrow (Hf3.out.not_row (by decide) hrow3)).kept (grownBy_setCell' w4 (w.heap.size + 1 + 1 + 1) (.slice (some ⟨g', 0, none⟩) ((frs wv pre).length + 1) cap')) (by intro e; injection e; omega); have gm := ((Hm3.out.alloc _).kept hgrow (Hm3.out.not_row (by decide) hrow3)).kept (grownBy_setCell' w4 (w.heap.size + 1 + 1 + 1) (.slice (some ⟨g', 0, none⟩) ((frs wv pre).length + 1) cap')) (by intro e; injection e; omega))
        exact ⟨hk3.trans (gk.from _), keepEx_of_below (hb3.trans gb), by rw [Hsn.out]; exact ⟨⟨⟨_, gv2, by rw [spCells_append]; simpa [spCells] using gr, by simp⟩, HS3.out.others gk⟩, gf, gm⟩, hB.trans (hb3.trans gb)⟩
  case done =>
    rintro D ys W hD rfl ⟨⟨⟨⟨v, hv, hrow, hnil⟩, hSeen⟩, hfc, hsc⟩, hB⟩ hK
    have hc := hv.cell
    gi_wp2
    refine ⟨by simp, .inl ⟨_, _, rfl, run_takeDeferred hK, ?_⟩⟩
    exact ⟨_, results_tmp rfl _ _ _, v, rfl, ⟨ownsRow_putObj hrow _ hK rfl, hnil⟩, keeps_putObj hB _ (by omega)⟩
  case stop =>
    rintro D c pre W _ _ h _
    exact h.elim
end Go.Proofs.Ytoidnbpbeblokaa
