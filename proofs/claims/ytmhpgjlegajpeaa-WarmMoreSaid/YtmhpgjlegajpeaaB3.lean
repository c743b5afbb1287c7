/-
  WARM: reach: the ends of what an iterator gives.
  WARM: readings: each reading as an interface value.
  WARM: the iterator over all pairs.
  WARM: a map of pairs to bools: its keys; the set that it stands for.
-/
import Derived.RangeFuncWrites
import Derived.Test.YtmhpgjlegajpeaaA7
import Derived.Maps.OwnIn
import Derived.Maps.Views
import Derived.DeepKeys3
import Derived.DeepKeys4
import Derived.Sort.MapsRangeIn
namespace Go.Proofs.Ytmhpgjlegajpeaa
open Go.RowKit Go.Shelf
attribute [local go_sem] Oper.semAt_some

/-- The ends of some numbers, from the greatest and the least int on. -/
def loI (ys : List Int) : Int := ys.foldl min 9223372036854775807
def hiI (ys : List Int) : Int := ys.foldl max (-9223372036854775808)
theorem loI_snoc (ys : List Int) (x : Int) : loI (ys ++ [x]) = min (loI ys) x := by simp [loI]
theorem hiI_snoc (ys : List Int) (x : Int) : hiI (ys ++ [x]) = max (hiI ys) x := by simp [hiI]
/-- What the end of a loop does to the block of its deferred calls. -/
theorem keeps_putObj {w W : World} (h : Keeps w W) {l : Nat} (o' : Obj) (hl : w.heap.size ≤ l) : Keeps w (W.putObj l o') :=
  Below.trans h ⟨rfl, rfl, rfl, (grownBy_putObj' W l o').size, fun k hk => World.putObj_heap_other (by omega)⟩
theorem ownFrom_keeps {β : Type} {w0 w : World} (h : w0.heap.size ≤ w.heap.size) : OwnFrom w.heap.size (fun (_ : β) W => Keeps w0 W) :=
  fun _ W W' row hk hg hr => Below.grown hk hg hk.size (fun k e => by have := (hr k e).1; omega)
/-- A block of two ints of the call's own. -/
structure TwoI (W : World) (b : Nat) (x y : Int) : Prop where
  c0 : W.cell? ⟨b, 0, none⟩ = some (.int .i64 x)
  c1 : W.cell? ⟨b, 1, none⟩ = some (.int .i64 y)
  f0 : W.frozen? ⟨b, 0, none⟩ = false
  f1 : W.frozen? ⟨b, 1, none⟩ = false
theorem TwoI.own {β : Type} (b : Nat) (f g : β → Int) : Own (fun s W => TwoI W b (f s) (g s)) := fun _ _ _ _ hs hg hr =>
  ⟨cell_kept hs.c0 hg hr, cell_kept hs.c1 hg hr, (frozen_kept hs.c0 hg hr).trans hs.f0, (frozen_kept hs.c1 hg hr).trans hs.f1⟩
theorem TwoI.set0 {W : World} {b : Nat} {x y : Int} (h : TwoI W b x y) (z : Int) : TwoI (W.setCell ⟨b, 0, none⟩ (.int .i64 z)) b z y :=
  ⟨cell_set_same (by rw [h.c0]; rfl), (cell_set_other (by omega)).trans h.c1, by rw [World.frozen?_setCell]; exact h.f0, by rw [World.frozen?_setCell]; exact h.f1⟩
theorem TwoI.set1 {W : World} {b : Nat} {x y : Int} (h : TwoI W b x y) (z : Int) : TwoI (W.setCell ⟨b, 1, none⟩ (.int .i64 z)) b x z :=
  ⟨(cell_set_other (by omega)).trans h.c0, cell_set_same (by rw [h.c1]; rfl), by rw [World.frozen?_setCell]; exact h.f0, by rw [World.frozen?_setCell]; exact h.f1⟩
theorem TwoI.setOther {W : World} {b b' o : Nat} {x y : Int} (h : TwoI W b x y) (v : Value) (hb : b' ≠ b) : TwoI (W.setCell ⟨b', o, none⟩ v) b x y :=
  ⟨(cell_set_other (.inl hb)).trans h.c0, (cell_set_other (.inl hb)).trans h.c1, by rw [World.frozen?_setCell]; exact h.f0, by rw [World.frozen?_setCell]; exact h.f1⟩
theorem reach_step {w W : World} {b b0 : Nat} {pre : List Int} {x a c : Int} (h1 : TwoI W b (loI pre) (hiI pre)) (h0 : TwoI W b0 0 0) (hB : Keeps w W) (hb : b ≠ b0) (hw : w.heap.size ≤ b) (ea : a = min (loI pre) x) (ec : c = max (hiI pre) x) :
    let W' := (W.setCell ⟨b, 0, none⟩ (.int .i64 a)).setCell ⟨b, 1, none⟩ (.int .i64 c)
    KeepsOthers W W' ∧ KeepX (fun k => k = b) W W' ∧ (TwoI W' b (loI (pre ++ [x])) (hiI (pre ++ [x])) ∧ TwoI W' b0 0 0) ∧ Keeps w W' := by
  subst ea
  subst ec
  refine ⟨(KeepsOthers.setCell _ _ _).trans (KeepsOthers.setCell _ _ _), (KeepX.setCell (X := fun k => k = b) _ _ rfl).trans (KeepX.setCell (X := fun k => k = b) _ _ rfl), ⟨?_, ?_⟩, (hB.setCell _ hw).setCell _ hw⟩
  · rw [loI_snoc, hiI_snoc]; exact (h1.set0 _).set1 _
  · exact (h0.setOther _ hb).setOther _ hb

set_option maxHeartbeats 3200000 in
theorem reach_any (G : Nat) (lb : Array Value) (S Sp : List Int → Prop) (N : Nat) (lo hi : Int) (w : World) (hG : ∀ args w, (callFunc G args).run Try.prog w = .ok (.enter G args) w)
    (hseq : ∀ w0, Keeps w w0 → SeqStopsK Fence.wide 3 Try.prog G lb (fun x : Int => #[.int .i64 x]) (KeepX (fun k => k = w.heap.size + 1)) S Sp N w0)
    (hS : ∀ ys, S ys → loI ys = lo ∧ hiI ys = hi) :
    Calls Try.prog 49 #[.func (.func G) #[] lb] w (Ret (.agg #[.int .i64 lo, .int .i64 hi]) w) := by
  have HS := Lib.hid hS
  have HQ := Lib.hid hseq
  clear hS hseq
  refine (callsIn_wide (n := 4)).1 ?_
  refine callsIn_of_wp_marks Try.func49 rfl trivial ?_ rfl
  simp only [Try.ntmps49, List.size_toArray, List.length_cons, List.length_nil, Nat.reduceAdd, Nat.reduceSub, Array.replicate_succ, Array.replicate_zero, List.push_toArray, List.append_toArray, List.nil_append, List.cons_append]
  gi_wp2_with fail
  obtain ⟨W0, hW0⟩ : ∃ W0, ((w.alloc (.cells #[.int .i64 0, .int .i64 0] 74)).alloc (.cells #[.int .i64 9223372036854775807, .int .i64 (-9223372036854775808)] 74)) = W0 := ⟨_, rfl⟩
  have k0 : Keeps w W0 := by rw [← hW0]; exact ((Keeps.refl _).alloc _).alloc _
  have hs0 : W0.heap.size = w.heap.size + 2 := by rw [← hW0]; simp
  have t0 : TwoI W0 w.heap.size 0 0 := by rw [← hW0]; constructor <;> simp [go_sem]
  have t1 : TwoI W0 (w.heap.size + 1) 9223372036854775807 (-9223372036854775808) := by rw [← hW0]; constructor <;> simp [go_sem]
  rw [hW0]
  refine wpIn_rangeFunc_ownF rfl (by omega) (gf := G) (lb := lb) rfl trivial hG (HQ.out _ k0) (fun h k => KeepX.trans h k) KeepX.putObj (Below.refl _ _) (fun _ => rfl)
    (fun pre W => (TwoI W (w.heap.size + 1) (loI pre) (hiI pre) ∧ TwoI W w.heap.size 0 0) ∧ Keeps w W)
    (fun _ _ _ => False)
    (OwnFrom.and (OwnFrom.and (Own.from (TwoI.own _ _ _) _) (Own.from (TwoI.own _ _ _) _)) (ownFrom_keeps (by omega)))
    (fun _ _ _ _ _ hs _ _ => hs)
    ⟨⟨t1, t0⟩, k0⟩
    (fun x => { tmps := #[.func (.func G) #[] lb, undef, .pointer (some ⟨w.heap.size, 0, none⟩), .pointer (some ⟨w.heap.size + 1, 0, none⟩), .int .i64 x, .agg #[.int .i64 9223372036854775807, .int .i64 (-9223372036854775808)], .func (.func G) #[] lb, .int .i64 x, undef, undef, undef, undef, undef, undef, undef, undef, undef, undef, undef], defers := [] }) ?assign ?body ?done ?stop
  case assign =>
    intro l x W K hK
    gi_wp2
    simpa using hK
  case body =>
    rintro l pre x W ⟨⟨h1, h0⟩, hB⟩ _
    have c0 := h1.c0
    have c1 := h1.c1
    have f0 := h1.f0
    have f1 := h1.f1
    gi_wp2
    all_goals exact reach_step h1 h0 hB (by omega) (by omega) (by omega) (by omega)
  case done =>
    rintro D ys W hD hys ⟨⟨h1, h0⟩, hB⟩ hK
    obtain ⟨e1, e2⟩ := HS.out ys hys
    rw [e1, e2] at h1
    have c0 := h1.c0
    have c1 := h1.c1
    have d0 := h0.c0
    have d1 := h0.c1
    have g0 := h0.f0
    have g1 := h0.f1
    gi_wp2
    have hK' := ((KeepsOthers.setCell W ⟨w.heap.size, 0, none⟩ (.int .i64 lo)).trans (KeepsOthers.setCell _ ⟨w.heap.size, 1, none⟩ (.int .i64 hi))).same D _ hK rfl
    have h2 := (h0.set0 lo).set1 hi
    have e0 := cell_kept h2.c0 (grownBy_putObj' _ D (.deferred none)) (fun r e => by cases e; exact ⟨_, hK', rfl⟩)
    have e1 := cell_kept h2.c1 (grownBy_putObj' _ D (.deferred none)) (fun r e => by cases e; exact ⟨_, hK', rfl⟩)
    refine ⟨by simp, .inl ⟨_, _, rfl, run_takeDeferred hK', ?_⟩⟩
    refine ⟨.agg #[.int .i64 lo, .int .i64 hi], ?_, rfl, keeps_putObj ((hB.setCell _ (Nat.le_refl _)).setCell _ (Nat.le_refl _)) _ (by omega)⟩
    simp [results, Try.f49, go_sem, e0, e1]
  case stop =>
    rintro D c pre W _ _ h _
    exact h.elim
end Go.Proofs.Ytmhpgjlegajpeaa

namespace Go.Proofs.Ytmhpgjlegajpeaa
open Go.RowKit

/-- The slice at a holds these readings, an interface value each. -/
def Rgs (w : World) (a : Option Addr) (rs : List Wr) : Prop :=
  rs ≠ [] → ∃ b o, a = some ⟨b, o, none⟩ ∧ ∀ i, i < rs.length → w.cell? ⟨b, o + i, none⟩ = some (rdV (rs[i]?.getD (0, 0, 0, 0)))
theorem Rgs.keep {w w' : World} {a : Option Addr} {xs : List Wr} (h : Rgs w a xs) (k : Keeps w w') : Rgs w' a xs := by
  intro hx
  obtain ⟨b, o, e, hc⟩ := h hx
  exact ⟨b, o, e, fun i hi => k.cell (hc i hi)⟩
theorem make_readings (n : Nat) (h : n ≤ 5) (w : World) : (Instr.makeSlice 96 (.int .i64 n) (.int .i64 n)).run Try.prog w = .ok (.slice (some ⟨w.heap.size, 0, none⟩) n n) (w.alloc (.cells (Array.replicate n .nilIface) 95)) := by
  rcases n with _ | _ | _ | _ | _ | _ | n
  · kernel_rfl
  · kernel_rfl
  · kernel_rfl
  · kernel_rfl
  · kernel_rfl
  · kernel_rfl
  · omega
theorem row_step (f : Nat → Value) {w wr W5 : World} {n k : Nat} {V B : Value} (hb : wr.cell? ⟨w.heap.size, 5, none⟩ = some B)
    (hcs : ∀ j, j < n → (wr.cell? ⟨w.heap.size + 1, j, none⟩).isSome = true ∧ wr.frozen? ⟨w.heap.size + 1, j, none⟩ = false)
    (hdone : ∀ j, j < k → wr.cell? ⟨w.heap.size + 1, j, none⟩ = some (f j)) (hkp : Keeps w wr) (hsz : w.heap.size + 1 < wr.heap.size) (hlt : k < n) (hV : V = f k)
    (kS : Keeps (wr.setCell ⟨w.heap.size + 1, k, none⟩ V) W5) :
    W5.cell? ⟨w.heap.size, 5, none⟩ = some B ∧ (∀ j, j < n → (W5.cell? ⟨w.heap.size + 1, j, none⟩).isSome = true ∧ W5.frozen? ⟨w.heap.size + 1, j, none⟩ = false) ∧
      (∀ j, j < k + 1 → W5.cell? ⟨w.heap.size + 1, j, none⟩ = some (f j)) ∧ Keeps w W5 ∧ w.heap.size + 1 < W5.heap.size := by
  have hk1 : W5.cell? ⟨w.heap.size + 1, k, none⟩ = some V := kS.cell (cell_set_same (hcs k hlt).1)
  have hoth : ∀ j v, j ≠ k → wr.cell? ⟨w.heap.size + 1, j, none⟩ = some v → W5.cell? ⟨w.heap.size + 1, j, none⟩ = some v := fun j v hj hv => kS.cell ((cell_set_other (by omega)).trans hv)
  have hsz2 : (wr.setCell ⟨w.heap.size + 1, k, none⟩ V).heap.size = wr.heap.size := by simp [World.setCell]
  refine ⟨kS.cell ((cell_set_other (by omega)).trans hb), fun j hj => ⟨?_, ?_⟩, fun j hj => ?_, (hkp.setCell _ (by simp)).trans kS, by have := kS.size; omega⟩
  · by_cases e : j = k
    · subst e; rw [hk1]; rfl
    · obtain ⟨v, hv⟩ := Option.isSome_iff_exists.1 (hcs j hj).1
      rw [hoth j v e hv]; rfl
  · rw [kS.cells.2 _ _ (by omega), World.frozen?_setCell]; exact (hcs j hj).2
  · by_cases e : j = k
    · subst e; rw [hk1, hV]
    · exact hoth j _ e (hdone j (by omega))
theorem Wm.ok_reads {B : Wm} (h : B.ok = true) : vWrs B.rs = true := by
  simp only [Wm.ok, Bool.and_eq_true] at h
  exact h.2
theorem vWrs_at {rs : List Wr} (h : vWrs rs = true) : rs.length ≤ 5 ∧ ∀ r ∈ rs, vWr r = true := by
  simp only [vWrs, Bool.and_eq_true, decide_eq_true_eq, List.all_eq_true] at h
  exact h
theorem vWr_okW {r : Wr} (h : vWr r = true) : okW r := by
  simp only [vWr, Bool.and_eq_true, decide_eq_true_eq] at h
  exact inS_bd h.1.1

set_option maxHeartbeats 1600000 in
theorem readings_any (B : Wm) (w : World) (hI : B.In w) (hok : B.ok = true) :
    Calls Try.prog 61 #[B.v] w fun e w' => e = .returned (.slice (some ⟨w.heap.size + 1, 0, none⟩) B.rs.length B.rs.length) ∧ Rgs w' (some ⟨w.heap.size + 1, 0, none⟩) B.rs ∧ Keeps w w' ∧ w.heap.size + 1 < w'.heap.size := by
  have hrl := (vWrs_at (Wm.ok_reads hok)).1
  have hmk := make_readings B.rs.length hrl
  have HI := Lib.hid hI
  obtain ⟨mark, llo, lhi, clo, chi, ra, rc, rs⟩ := B
  dsimp only [Wm.v] at *
  clear hok hI
  go_enter Try.func61, Try.ntmps61
  go_wp2
  go_loopw [14] (fun i wr => ∃ k : Nat, k ≤ rs.length ∧ i = .int .i64 k ∧ wr.cell? ⟨w.heap.size, 5, none⟩ = some (.slice ra rs.length rc) ∧ (∀ j, j < rs.length → (wr.cell? ⟨w.heap.size + 1, j, none⟩).isSome = true ∧ wr.frozen? ⟨w.heap.size + 1, j, none⟩ = false) ∧ (∀ j, j < k → wr.cell? ⟨w.heap.size + 1, j, none⟩ = some (rdV (rs[j]?.getD (0, 0, 0, 0)))) ∧ Keeps w wr ∧ w.heap.size + 1 < wr.heap.size) (fun i _ => rs.length - (intOf i).toNat)
  case atStart =>
    refine ⟨0, Nat.zero_le _, rfl, by simp [go_sem], fun j hj => ⟨?_, ?_⟩, fun j hj => absurd hj (by omega), ((Keeps.refl _).alloc _).alloc _, by simp⟩
    · simp [go_sem, hj]
    · simp [go_sem]
  case round =>
    obtain ⟨k, hk, rfl, hb, hcs, hdone, hkp, hsz⟩ := hrel
    by_cases hlt : k < rs.length
    · obtain ⟨rb, ro, rfl, hr⟩ := (HI.out.rds).keep hkp (by intro e; simp only at e; rw [e] at hlt; simp at hlt)
      obtain ⟨⟨t, t', x, y⟩, hrk⟩ : ∃ r : Wr, rs[k]?.getD (0, 0, 0, 0) = r := ⟨_, rfl⟩
      have h2 := hr k hlt
      dsimp only at h2
      rw [hrk] at h2
      dsimp only at h2
      obtain ⟨h2a, h2b, h2c, h2d⟩ := h2
      obtain ⟨hs1, hf1⟩ := hcs k hlt
      obtain ⟨old, hold⟩ := Option.isSome_iff_exists.1 hs1
      have hlb := lt_of_cell h2a
      have hlbx := lt_of_cell hb
      have Hcs := Lib.hid hcs
      have Hd := Lib.hid hdone
      have Hrk := Lib.hid hrk
      clear hr hrk hcs hdone hs1
      by_cases hy : t = t'
      · subst hy
        have hV : Value.iface 135 (.agg #[.int .i64 t, .int .i64 x, .int .i64 y]) = rdV (rs[k]?.getD (0, 0, 0, 0)) := by
          rw [Hrk.out, rdV, if_pos rfl]
        have HV := Lib.hid hV
        clear hV
        go_wp2
        go_roundw
        case rel => exact ⟨k + 1, by omega, by go_num, row_step (fun j => rdV (rs[j]?.getD (0, 0, 0, 0))) hb Hcs.out Hd.out hkp hsz hlt HV.out (by first | exact (((Keeps.refl _).alloc _).alloc _) | exact (((Keeps.refl _).alloc _).alloc _).drew)⟩
        case measure => simp [intOf]; omega
      · have hV : Value.iface 137 (.agg #[.int .i64 t, .int .i64 x, .int .i64 y, .int .i64 t']) = rdV (rs[k]?.getD (0, 0, 0, 0)) := by
          rw [Hrk.out, rdV, if_neg hy]
        have HV := Lib.hid hV
        have hyb : (t == t') = false := by simpa using hy
        clear hV
        go_wp2
        go_roundw
        case rel => exact ⟨k + 1, by omega, by go_num, row_step (fun j => rdV (rs[j]?.getD (0, 0, 0, 0))) hb Hcs.out Hd.out hkp hsz hlt HV.out (by first | exact (((Keeps.refl _).alloc _).alloc _) | exact (((Keeps.refl _).alloc _).alloc _).drew)⟩
        case measure => simp [intOf]; omega
    · go_wp2
      go_ret
      refine ⟨rfl, fun hne => ⟨w.heap.size + 1, 0, rfl, fun i hi => ?_⟩, hkp, hsz⟩
      have h1 := hdone i (by omega)
      rw [Nat.zero_add, h1]
end Go.Proofs.Ytmhpgjlegajpeaa

namespace Go.Proofs.Ytmhpgjlegajpeaa
open Go.RowKit Go.Shelf
attribute [local go_sem] Oper.semAt_some

/-- A pair within the limits. -/
abbrev Pr := { p : Int × Int // -1000 ≤ p.1 ∧ p.1 ≤ 1000 ∧ 0 ≤ p.2 ∧ p.2 ≤ 20 }
def mkP (x y : Int) : Option Pr := if h : -1000 ≤ x ∧ x ≤ 1000 ∧ 0 ≤ y ∧ y ≤ 20 then some ⟨(x, y), h⟩ else none
/-- The pairs of a length with j coefficients. -/
def rowTo (x clo : Int) (j : Nat) : List Pr := (List.range j).filterMap (fun k : Nat => mkP x (clo + (k : Int)))
/-- The pairs of i lengths. -/
def rowsTo (llo clo : Int) (nc i : Nat) : List Pr := (List.range i).flatMap (fun k : Nat => rowTo (llo + (k : Int)) clo nc)
theorem rowTo_succ {x clo : Int} {j : Nat} (h : -1000 ≤ x ∧ x ≤ 1000 ∧ 0 ≤ clo + (j : Int) ∧ clo + (j : Int) ≤ 20) : rowTo x clo (j + 1) = rowTo x clo j ++ [⟨(x, clo + (j : Int)), h⟩] := by
  simp only [rowTo, List.range_succ, List.filterMap_append, List.filterMap_cons, List.filterMap_nil, mkP, dif_pos h]
theorem rowsTo_succ (llo clo : Int) (nc i : Nat) : rowsTo llo clo nc (i + 1) = rowsTo llo clo nc i ++ rowTo (llo + (i : Int)) clo nc := by
  simp [rowsTo, List.range_succ]
theorem rowTo_pre (x clo : Int) {j n : Nat} (h : j ≤ n) : rowTo x clo j <+: rowTo x clo n := by
  obtain ⟨d, rfl⟩ := Nat.le.dest h
  clear h
  induction d with
  | zero => exact List.prefix_refl _
  | succ d ih =>
    refine ih.trans ?_
    show _ <+: rowTo x clo (j + d + 1)
    simp only [rowTo, List.range_succ, List.filterMap_append]
    exact List.prefix_append _ _
theorem rowsTo_pre (llo clo : Int) (nc : Nat) {j n : Nat} (h : j ≤ n) : rowsTo llo clo nc j <+: rowsTo llo clo nc n := by
  obtain ⟨d, rfl⟩ := Nat.le.dest h
  clear h
  induction d with
  | zero => exact List.prefix_refl _
  | succ d ih =>
    refine ih.trans ?_
    show _ <+: rowsTo llo clo nc (j + d + 1)
    rw [rowsTo_succ]
    exact List.prefix_append _ _
theorem prs_pre {llo clo : Int} {nc nl i j : Nat} (hi : i < nl) (hj : j ≤ nc) : rowsTo llo clo nc i ++ rowTo (llo + (i : Int)) clo j <+: rowsTo llo clo nc nl := by
  refine List.IsPrefix.trans ?_ (rowsTo_pre llo clo nc (show i + 1 ≤ nl by omega))
  rw [rowsTo_succ]
  exact List.prefix_append_right_inj _ |>.2 (rowTo_pre _ _ hj)
/-- All pairs of a block, whatever was read. -/
def Wm.all (B : Wm) : List Pr := rowsTo B.llo B.clo (B.chi + 1 - B.clo).toNat (B.lhi + 1 - B.llo).toNat
/-- Its numbers are within the limits. -/
structure Wm.Lim (B : Wm) : Prop where
  m1 : 1 ≤ B.mark
  m2 : B.mark ≤ 100
  l1 : -1000 ≤ B.llo
  l2 : B.llo ≤ B.lhi
  l3 : B.lhi ≤ 1000
  l4 : B.lhi - B.llo ≤ 24
  c1 : 0 ≤ B.clo
  c2 : B.clo ≤ B.chi
  c3 : B.chi ≤ 20
  c4 : B.chi - B.clo ≤ 3
theorem Wm.ok_lim {B : Wm} (h : B.ok = true) : B.Lim := by
  simp only [Wm.ok, Bool.and_eq_true, decide_eq_true_eq, inS] at h
  obtain ⟨⟨⟨⟨m1, m2⟩, ⟨l1, l2, l3⟩, l4⟩, ⟨c1, c2, c3⟩, c4⟩, _⟩ := h
  exact ⟨m1, m2, l1, l2, l3, l4, c1, c2, c3, c4⟩
def pV (m : Int) (p : Pr) : Value := .agg #[.int .i64 m, .int .i64 p.1.1, .int .i64 p.1.2]

set_option maxHeartbeats 3200000 in
theorem pairs1_in (n : Nat) (hn : 1 ≤ n) (l b : Nat) (X : Nat → Prop) (B : Wm) (hL : B.Lim) (J Jx : List Pr → World → Prop)
    (hY : ∀ pre x W, J pre W → pre.length < B.all.length → YieldAt Fence.wide (n - 1) Try.prog l #[pV B.mark x] W fun e W' =>
      (e = .returned (.bool true) ∧ J (pre ++ [x]) W' ∧ KeepX X W W') ∨ (e = .returned (.bool false) ∧ Jx (pre ++ [x]) W'))
    (W : World) (hJ : AbidesFrom W.heap.size J) (hx : ¬ X b) (hB : B.Box W b) (h0 : J [] W) :
    CallsIn Fence.wide n Try.prog 113 #[.func (.yield l) #[] #[], .pointer (some ⟨b, 0, none⟩)] W fun e W' => (∃ v, e = .returned v) ∧
      ((∃ ys, ys = B.all ∧ J ys W') ∨ (∃ pre, pre <+: B.all ∧ Jx pre W')) := by
  obtain ⟨mark, llo, lhi, clo, chi, ra, rc, rs⟩ := B
  obtain ⟨m1, m2, l1, l2, l3, l4, c1, c2, c3, c4⟩ := hL
  obtain ⟨g0, g1, g2, g3, g4, g5⟩ := hB
  dsimp only at *
  have hal : Wm.all ⟨mark, llo, lhi, clo, chi, ra, rc, rs⟩ = rowsTo llo clo (chi + 1 - clo).toNat (lhi + 1 - llo).toNat := rfl
  rw [hal] at hY ⊢
  obtain ⟨nc, hnc⟩ : ∃ nc, (chi + 1 - clo).toNat = nc := ⟨_, rfl⟩
  obtain ⟨nl, hnl⟩ : ∃ nl, (lhi + 1 - llo).toNat = nl := ⟨_, rfl⟩
  rw [hnc, hnl] at hY ⊢
  have HY := Lib.hid hY
  have HJ := Lib.hid hJ
  have HX := Lib.hid hx
  have hlb := lt_of_cell g0
  clear hY hJ hx hal
  have hfw : ∀ f, Fence.wide.fn f := fun _ => trivial
  refine callsIn_of_wp Try.func113 rfl trivial ?_
  simp only [Try.ntmps113, List.size_toArray, List.length_cons, List.length_nil, Nat.reduceAdd, Nat.reduceSub, Array.replicate_succ, Array.replicate_zero, List.push_toArray, List.append_toArray, List.nil_append, List.cons_append]
  gi_wp2_with fail
  gi_loopw [3] (fun i wr => ∃ k : Nat, i = .int .i64 (llo + (k : Nat)) ∧ k ≤ nl ∧ J (rowsTo llo clo nc k) wr ∧ KeepX X W wr) (fun i _ => (lhi + 1 - intOf i).toNat)
  case atStart => exact ⟨0, by simp, by omega, h0, KeepX.refl _ _⟩
  case round =>
    obtain ⟨k, rfl, hk, hJm, hB⟩ := hrel
    have d0 := hB.cell g0 HX.out
    have d1 := hB.cell g1 HX.out
    have d2 := hB.cell g2 HX.out
    have d3 := hB.cell g3 HX.out
    have d4 := hB.cell g4 HX.out
    have hlr := lt_of_cell d1
    clear h0
    by_cases hlt : llo + (k : Nat) ≤ lhi
    · gi_wp2_with fail
      obtain ⟨wo, rfl⟩ : ∃ wo : World, wo = wr := ⟨_, rfl⟩
      gi_loopw [4] (fun i wr' => ∃ j : Nat, i = .int .i64 (clo + (j : Nat)) ∧ j ≤ nc ∧ J (rowsTo llo clo nc k ++ rowTo (llo + (k : Nat)) clo j) wr' ∧ KeepX X W wr') (fun i _ => (chi + 1 - intOf i).toNat)
      case atStart => exact ⟨0, by simp, by omega, by simpa [rowTo] using hJm, hB⟩
      case round =>
        obtain ⟨j, rfl, hj, hJm2, hB2⟩ := hrel
        clear d0 d1 d2 d3 d4 hlr hJm hB
        have d0 := hB2.cell g0 HX.out
        have d4 := hB2.cell g4 HX.out
        have hlr := lt_of_cell d0
        by_cases hlj : clo + (j : Nat) ≤ chi
        · have hpb : -1000 ≤ llo + (k : Int) ∧ llo + (k : Int) ≤ 1000 ∧ 0 ≤ clo + (j : Int) ∧ clo + (j : Int) ≤ 20 := by omega
          have hst := rowTo_succ hpb
          have hpp := @prs_pre llo clo nc nl k (j + 1) (by omega) (by omega)
          rw [hst, ← List.append_assoc] at hpp
          have hlen := hpp.length_le
          rw [List.length_append] at hlen
          have hyy := HY.out _ (⟨(llo + (k : Int), clo + (j : Int)), hpb⟩ : Pr) wr hJm2 (Nat.lt_of_lt_of_le (Nat.lt_succ_self _) hlen)
          obtain ⟨fn, tmps, assign, body, hy, hR⟩ := hyy
          have HST := Lib.hid hst
          have HPP := Lib.hid hpp
          have HJ2 := Lib.hid hJm2
          simp only [pV] at hy
          clear hst hpp hlen hJm2
          gi_wp2_with fail
          refine hR.mono ?_
          rintro e W3 (⟨rfl, hJ3, hk3⟩ | ⟨rfl, hJx3⟩)
          · gi_wp2_with fail
            go_roundw
            case rel => exact ⟨j + 1, congrArg (Value.int .i64) (by omega), by omega, by rw [HST.out, ← List.append_assoc]; exact hJ3, hB2.trans hk3⟩
            case measure => simp only [intOf]; omega
          · gi_wp2_with fail
            refine bodyPost_ret (results_none rfl _ _ _) rfl ?_
            exact ⟨⟨_, rfl⟩, .inr ⟨_, HPP.out, hJx3⟩⟩
        · have hjn : j = nc := by omega
          subst hjn
          gi_wp2_with fail
          go_roundw
          case rel => exact ⟨k + 1, congrArg (Value.int .i64) (by omega), by omega, by rw [rowsTo_succ]; exact hJm2, hB2⟩
          case measure => simp only [intOf]; omega
    · gi_wp2_with fail
      refine bodyPost_end (results_none rfl _ _ _) rfl ?_
      have hkn : k = nl := by omega
      subst hkn
      exact ⟨⟨_, rfl⟩, .inl (by first | exact hJm | exact ⟨_, rfl, hJm⟩)⟩
theorem pairs_stops (n : Nat) (hn : 1 ≤ n) (b : Nat) (X : Nat → Prop) (B : Wm) (hL : B.Lim) (w : World) (hx : ¬ X b) (hB : B.Box w b) :
    SeqStopsK Fence.wide n Try.prog 113 #[.pointer (some ⟨b, 0, none⟩)] (fun x : Pr => #[pV B.mark x]) (KeepX X) (fun ys => ys = B.all) (fun pre => pre <+: B.all) B.all.length w := by
  intro l J Jx W hW hJ _ hY h0
  have k : Keeps w W := hW
  exact pairs1_in n hn l b X B hL J Jx hY W hJ hx (hB.keep k) h0
theorem pairs_any (B : Wm) (w : World) : Calls Try.prog 103 #[B.v] w fun e w' => e = .returned (.func (.func 113) #[] #[.pointer (some ⟨w.heap.size, 0, none⟩)]) ∧ Keeps w w' ∧ B.Box w' w.heap.size := by
  have hmf : ∀ (fn : Fn) (first cap : Array Value) (w : World), (Instr.makeFunc fn first cap).run Try.prog w = .ok (.func fn first cap) w := fun _ _ _ _ => rfl
  have HB := Lib.hid (Wm.Box.new B w)
  obtain ⟨mark, llo, lhi, clo, chi, ra, rc, rs⟩ := B
  dsimp only [Wm.v] at *
  go_enter Try.func103, Try.ntmps103
  go_wp2
  go_ret
  exact ⟨rfl, (Keeps.refl _).alloc _, HB.out⟩
end Go.Proofs.Ytmhpgjlegajpeaa

namespace Go.Proofs.Ytmhpgjlegajpeaa
open Go.RowKit Go.Maps

theorem pair_law : Go.WideMaps.KeyLaw Try.prog 85 := deep_law (m := 3) (by omega) (by kernel_rfl) (by kernel_rfl) (by kernel_rfl)
theorem pair_keyed : Keyed Try.prog 85 := Keyed.of_law pair_law
theorem pair_formed (m x y : Int) : Value.formed Try.prog 85 (.agg #[.int .i64 m, .int .i64 x, .int .i64 y]) = true := by kernel_rfl
theorem pair_keyType : Try.prog.keyType 85 = true := by kernel_rfl
theorem int_cells : Try.prog.cellsOf 3 = 1 := by kernel_rfl
theorem pair_cells : Try.prog.cellsOf 85 = 3 := by kernel_rfl
theorem int_lits (d : Nat) (n : Int) (h : (Lit.int .i64 n).wf = true) : Try.prog.keyLits (d + 1) 3 [.int .i64 n] = some [.int .i64 n] := by
  unfold Program.keyLits
  rw [Try.underlying3]
  simp [h]
theorem pair_lits (d : Nat) (m x y : Int) (h0 : (Lit.int .i64 m).wf = true) (h1 : (Lit.int .i64 x).wf = true) (h2 : (Lit.int .i64 y).wf = true) : Try.prog.keyLits (d + 2) 85 [.int .i64 m, .int .i64 x, .int .i64 y] = some [.int .i64 m, .int .i64 x, .int .i64 y] := by
  unfold Program.keyLits
  rw [Try.underlying85]
  simp [pair_cells, int_cells, int_lits d _ h0, int_lits d _ h1, int_lits d _ h2]
theorem types_size : ∃ d, Try.prog.types.size + 1 = d + 2 := by
  have h : decide (1 ≤ Try.prog.types.size) = true := by kernel_rfl
  have := of_decide_eq_true h
  exact ⟨Try.prog.types.size - 1, by omega⟩
theorem int_wf {x : Int} (h1 : -100000 ≤ x) (h2 : x ≤ 100000) : (Lit.int .i64 x).wf = true := by
  have e1 : IntKind.i64.min = -9223372036854775808 := rfl
  have e2 : IntKind.i64.max = 9223372036854775807 := rfl
  simp only [Lit.wf, Bool.and_eq_true, decide_eq_true_eq]
  omega
/-- A pair, as a key. -/
def prK (m : Int) (p : Pr) : Lit := .string (keyBytes [.int .i64 m, .int .i64 p.1.1, .int .i64 p.1.2])
theorem pair_key {m : Int} (m1 : 1 ≤ m) (m2 : m ≤ 100) (p : Pr) : keyOf Try.prog 85 (pV m p) = some (prK m p) := by
  obtain ⟨⟨x, y⟩, h1, h2, h3, h4⟩ := p
  dsimp only at h1 h2 h3 h4
  obtain ⟨d, hd⟩ := types_size
  unfold keyOf
  rw [Try.underlying85]
  simp only [pair_keyType, pV, pair_formed, Bool.and_self, if_true]
  rw [hd]
  show Option.map _ (Try.prog.keyLits (d + 2) 85 [.int .i64 m, .int .i64 x, .int .i64 y]) = _
  rw [pair_lits d m x y (int_wf (by omega) (by omega)) (int_wf (by omega) (by omega)) (int_wf (by omega) (by omega))]
  rfl
theorem pV_inj {m : Int} {p q : Pr} (h : pV m p = pV m q) : p = q := by
  simp only [pV, Value.agg.injEq] at h
  have h2 := congrArg Array.toList h
  simp only [List.cons.injEq, Value.int.injEq, true_and, and_true] at h2
  exact Subtype.ext (Prod.ext h2.1 h2.2)
theorem prK_inj {m : Int} (m1 : 1 ≤ m) (m2 : m ≤ 100) {p q : Pr} (h : prK m p = prK m q) : p = q :=
  pV_inj (pair_law.inj (pair_key m1 m2 p) (h ▸ pair_key m1 m2 q))
theorem bool_inv {P : Program} {e : TypeId} (he : P.underlying e = some .bool) {v : Value} {x : Bool} {ps : List MemPlace} (h : plainElem (H := Nat) P e v = some (.lit (.bool x), ps)) : v = .bool x := by
  unfold plainElem at h
  rw [he] at h
  cases v <;> simp at h
  rw [h.1]
/-- Block b is a map whose keys are the pairs of l. -/
def Pset (w : World) (b : Nat) (m : Int) (l : List Pr) : Prop :=
  ∃ D : DataW Nat, w.ownsMap Try.prog 85 (plainElem Try.prog 4) b l.length D ∧ l.Nodup ∧ Maps.size D = l.length ∧ ∀ kl, Maps.has D kl = true ↔ ∃ p ∈ l, kl = prK m p
theorem Pset.of_block {w w' : World} {b : Nat} {m : Int} {l : List Pr} (h : Pset w b m l) (e : w'.heap[b]? = w.heap[b]?) : Pset w' b m l := by
  obtain ⟨D, ⟨es, clock, h1, h2⟩, h3⟩ := h
  exact ⟨D, ⟨es, clock, e.trans h1, h2⟩, h3⟩
theorem Pset.lt {w : World} {b : Nat} {m : Int} {l : List Pr} (h : Pset w b m l) : b < w.heap.size := by
  obtain ⟨D, h1, _⟩ := h
  exact h1.lt
theorem Pset.keep {w w' : World} {b : Nat} {m : Int} {l : List Pr} (h : Pset w b m l) (k : Keeps w w') : Pset w' b m l := h.of_block (k.heap h.lt)
theorem Pset.made (w : World) (m : Int) : Pset (w.alloc (.map #[] 0)) w.heap.size m [] :=
  ⟨.map [], World.ownsMap_made w _ _ _, List.nodup_nil, rfl, fun kl => by simp [Maps.has_eq]⟩
theorem Pset.kept {w w' : World} {row : Option Nat} {b : Nat} {m : Int} {l : List Pr} (h : Pset w b m l) (hg : w.grownBy w' row) (hne : some b ≠ row) : Pset w' b m l := by
  obtain ⟨D, h1, h2⟩ := h
  exact ⟨D, h1.kept hg hne, h2⟩
theorem ownsMap_tight {w : World} {P : Program} {k : TypeId} {R : Value → Option (DataW Nat × List MemPlace)} {b n : Nat} {D : DataW Nat} (h : w.ownsMap P k R b n D) : w.ownsMap P k R b (Maps.size D) D := by
  obtain ⟨es, clock, h1, F, hs, hD⟩ := h
  refine ⟨es, clock, h1, F, ?_, hD⟩
  rw [hD, Maps.size_eq, length_read]
  exact Nat.le_refl _
/-- A list, with one more if it is not there yet. -/
def addP (l : List Pr) (p : Pr) : List Pr := if p ∈ l then l else l ++ [p]
theorem Pset.put {w : World} {b : Nat} {m : Int} (m1 : 1 ≤ m) (m2 : m ≤ 100) {l : List Pr} (h : Pset w b m l) (p : Pr) (hl : l.length < maxLen) :
    ∃ w', (Instr.mapUpdate 80 (.map (some b)) (pV m p) (.bool true)).run Try.prog w = .ok () w' ∧ Pset w' b m (addP l p) ∧ w.grownBy w' (some b) := by
  obtain ⟨D, h1, hn, h2, h3⟩ := h
  have ht := h1.tidy pair_keyed
  obtain ⟨w', hrun, ho, hg⟩ := h1.update pair_keyed Try.underlying80 hl (pair_key m1 m2 p) (plainElem_bool Try.underlying4 true)
  replace ho := ownsMap_tight ho
  refine ⟨w', hrun, ?_, hg⟩
  by_cases hp : p ∈ l
  · have hin : Maps.has D (prK m p) = true := (h3 _).2 ⟨p, hp, rfl⟩
    rw [addP, if_pos hp]
    have hsz : Maps.size (D.put (prK m p) (.lit (.bool true))) = l.length := by rw [Maps.size_put ht, hin, h2]; simp
    refine ⟨_, by rw [← hsz]; exact ho, hn, hsz, fun kl => ?_⟩
    by_cases e : kl = prK m p
    · subst e
      rw [Maps.has_put_same ht.isMap (show WideAt.IsKeyLit (prK m p) from trivial), ← h3, hin]
    · rw [Maps.has_put_other e, h3]
  · have hnew : Maps.has D (prK m p) = false := by
      cases e : Maps.has D (prK m p) with
      | false => rfl
      | true =>
        obtain ⟨q, hq, e2⟩ := (h3 _).1 e
        exact absurd (prK_inj m1 m2 e2 ▸ hq) hp
    rw [addP, if_neg hp]
    have hsz : Maps.size (D.put (prK m p) (.lit (.bool true))) = (l ++ [p]).length := by rw [Maps.size_put ht, hnew, h2]; simp
    refine ⟨_, by rw [← hsz]; exact ho, ?_, hsz, ?_⟩
    · rw [List.nodup_append]
      exact ⟨hn, by simp, by
        intro a ha c hc e
        rw [List.mem_singleton] at hc
        exact hp (hc ▸ e ▸ ha)⟩
    · intro kl
      by_cases e : kl = prK m p
      · subst e
        rw [Maps.has_put_same ht.isMap (show WideAt.IsKeyLit (prK m p) from trivial)]
        simp
      · rw [Maps.has_put_other e, h3]
        constructor
        · rintro ⟨q, hq, e2⟩; exact ⟨q, by simp [hq], e2⟩
        · rintro ⟨q, hq, e2⟩
          rcases List.mem_append.1 hq with h | h
          · exact ⟨q, h, e2⟩
          · rw [List.mem_singleton] at h; exact absurd (h ▸ e2) e
theorem Pset.len {w : World} {b : Nat} {m : Int} {l : List Pr} (h : Pset w b m l) (ty : TypeId) : (Builtin.len_ #[80] ty #[.map (some b)]).run Try.prog w = .ok (.int .i64 l.length) w := by
  obtain ⟨D, h1, hn, h2, h3⟩ := h
  rw [h1.len Try.underlying80 ty, h2]
end Go.Proofs.Ytmhpgjlegajpeaa
