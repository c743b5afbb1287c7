/-
  WARM: reach: the ends of what an iterator gives.
-/
import Derived.RangeFuncWrites
import Derived.Test.YtidiikmpgpnmpaaA8
namespace Go.Proofs.Ytidiikmpgpnmpaa
open Go.RowKit Go.Shelf
attribute [local go_sem] Oper.semAt_some

/-- The ends of some numbers, from the greatest and the least int on. -/
def loI (ys : List Int) : Int := ys.foldl min 9223372036854775807
def hiI (ys : List Int) : Int := ys.foldl max (-9223372036854775808)
theorem loI_snoc (ys : List Int) (x : Int) : loI (ys ++ [x]) = min (loI ys) x := by simp [loI]
theorem hiI_snoc (ys : List Int) (x : Int) : hiI (ys ++ [x]) = max (hiI ys) x := by simp [hiI]
/-- What the end of a loop does to the block of its deferred calls. -/
theorem keeps_putObj {w W : World} (h : Keeps w W) {l : Nat} (o' : Obj) (hl : w.heap.size ≤ l) : Keeps w (W.putObj l o') :=
  Below.trans h ⟨rfl, rfl, rfl, (grownBy_putObj' W l o').size, fun k hk => World.putObj_heap_other (by omega)⟩
theorem ownFrom_keeps {β : Type} {w0 w : World} (h : w0.heap.size ≤ w.heap.size) : OwnFrom w.heap.size (fun (_ : β) W => Keeps w0 W) :=
  fun _ W W' row hk hg hr => Below.grown hk hg hk.size (fun k e => by have := (hr k e).1; omega)
/-- A block of two ints of the call's own. -/
structure TwoI (W : World) (b : Nat) (x y : Int) : Prop where
  c0 : W.cell? ⟨b, 0, none⟩ = some (.int .i64 x)
  c1 : W.cell? ⟨b, 1, none⟩ = some (.int .i64 y)
  f0 : W.frozen? ⟨b, 0, none⟩ = false
  f1 : W.frozen? ⟨b, 1, none⟩ = false
theorem TwoI.own {β : Type} (b : Nat) (f g : β → Int) : Own (fun s W => TwoI W b (f s) (g s)) := fun _ _ _ _ hs hg hr =>
  ⟨cell_kept hs.c0 hg hr, cell_kept hs.c1 hg hr, (frozen_kept hs.c0 hg hr).trans hs.f0, (frozen_kept hs.c1 hg hr).trans hs.f1⟩
theorem TwoI.set0 {W : World} {b : Nat} {x y : Int} (h : TwoI W b x y) (z : Int) : TwoI (W.setCell ⟨b, 0, none⟩ (.int .i64 z)) b z y :=
  ⟨cell_set_same (by rw [h.c0]; rfl), (cell_set_other (by omega)).trans h.c1, by rw [World.frozen?_setCell]; exact h.f0, by rw [World.frozen?_setCell]; exact h.f1⟩
theorem TwoI.set1 {W : World} {b : Nat} {x y : Int} (h : TwoI W b x y) (z : Int) : TwoI (W.setCell ⟨b, 1, none⟩ (.int .i64 z)) b x z :=
  ⟨(cell_set_other (by omega)).trans h.c0, cell_set_same (by rw [h.c1]; rfl), by rw [World.frozen?_setCell]; exact h.f0, by rw [World.frozen?_setCell]; exact h.f1⟩
theorem TwoI.setOther {W : World} {b b' o : Nat} {x y : Int} (h : TwoI W b x y) (v : Value) (hb : b' ≠ b) : TwoI (W.setCell ⟨b', o, none⟩ v) b x y :=
  ⟨(cell_set_other (.inl hb)).trans h.c0, (cell_set_other (.inl hb)).trans h.c1, by rw [World.frozen?_setCell]; exact h.f0, by rw [World.frozen?_setCell]; exact h.f1⟩
theorem reach_step {w W : World} {b b0 : Nat} {pre : List Int} {x a c : Int} (h1 : TwoI W b (loI pre) (hiI pre)) (h0 : TwoI W b0 0 0) (hB : Keeps w W) (hb : b ≠ b0) (hw : w.heap.size ≤ b) (ea : a = min (loI pre) x) (ec : c = max (hiI pre) x) :
    let W' := (W.setCell ⟨b, 0, none⟩ (.int .i64 a)).setCell ⟨b, 1, none⟩ (.int .i64 c)
    KeepsOthers W W' ∧ KeepX (fun k => k = b) W W' ∧ (TwoI W' b (loI (pre ++ [x])) (hiI (pre ++ [x])) ∧ TwoI W' b0 0 0) ∧ Keeps w W' := by
  subst ea
  subst ec
  refine ⟨(KeepsOthers.setCell _ _ _).trans (KeepsOthers.setCell _ _ _), (KeepX.setCell (X := fun k => k = b) _ _ rfl).trans (KeepX.setCell (X := fun k => k = b) _ _ rfl), ⟨?_, ?_⟩, (hB.setCell _ hw).setCell _ hw⟩
  · rw [loI_snoc, hiI_snoc]; exact (h1.set0 _).set1 _
  · exact (h0.setOther _ hb).setOther _ hb

set_option maxHeartbeats 3200000 in
theorem reach_any (G : Nat) (lb : Array Value) (S Sp : List Int → Prop) (N : Nat) (lo hi : Int) (w : World) (hG : ∀ args w, (callFunc G args).run Try.prog w = .ok (.enter G args) w)
    (hseq : ∀ w0, Keeps w w0 → SeqStopsK Fence.wide 3 Try.prog G lb (fun x : Int => #[.int .i64 x]) (KeepX (fun k => k = w.heap.size + 1)) S Sp N w0)
    (hS : ∀ ys, S ys → loI ys = lo ∧ hiI ys = hi) :
    Calls Try.prog 49 #[.func (.func G) #[] lb] w (Ret (.agg #[.int .i64 lo, .int .i64 hi]) w) := by
  have HS := Lib.hid hS
  have HQ := Lib.hid hseq
  clear hS hseq
  refine (callsIn_wide (n := 4)).1 ?_
  refine callsIn_of_wp_marks Try.func49 rfl trivial ?_ rfl
  simp only [Try.ntmps49, List.size_toArray, List.length_cons, List.length_nil, Nat.reduceAdd, Nat.reduceSub, Array.replicate_succ, Array.replicate_zero, List.push_toArray, List.append_toArray, List.nil_append, List.cons_append]
  gi_wp2_with fail
  obtain ⟨W0, hW0⟩ : ∃ W0, ((w.alloc (.cells #[.int .i64 0, .int .i64 0] 74)).alloc (.cells #[.int .i64 9223372036854775807, .int .i64 (-9223372036854775808)] 74)) = W0 := ⟨_, rfl⟩
  have k0 : Keeps w W0 := by rw [← hW0]; exact ((Keeps.refl _).alloc _).alloc _
  have hs0 : W0.heap.size = w.heap.size + 2 := by rw [← hW0]; simp
  have t0 : TwoI W0 w.heap.size 0 0 := by rw [← hW0]; constructor <;> simp [go_sem]
  have t1 : TwoI W0 (w.heap.size + 1) 9223372036854775807 (-9223372036854775808) := by rw [← hW0]; constructor <;> simp [go_sem]
  rw [hW0]
  refine wpIn_rangeFunc_ownF rfl (by omega) (gf := G) (lb := lb) rfl trivial hG (HQ.out _ k0) (fun h k => KeepX.trans h k) KeepX.putObj (Below.refl _ _) (fun _ => rfl)
    (fun pre W => (TwoI W (w.heap.size + 1) (loI pre) (hiI pre) ∧ TwoI W w.heap.size 0 0) ∧ Keeps w W)
    (fun _ _ _ => False)
    (OwnFrom.and (OwnFrom.and (Own.from (TwoI.own _ _ _) _) (Own.from (TwoI.own _ _ _) _)) (ownFrom_keeps (by omega)))
    (fun _ _ _ _ _ hs _ _ => hs)
    ⟨⟨t1, t0⟩, k0⟩
    (fun x => { tmps := #[.func (.func G) #[] lb, undef, .pointer (some ⟨w.heap.size, 0, none⟩), .pointer (some ⟨w.heap.size + 1, 0, none⟩), .int .i64 x, .agg #[.int .i64 9223372036854775807, .int .i64 (-9223372036854775808)], .func (.func G) #[] lb, .int .i64 x, undef, undef, undef, undef, undef, undef, undef, undef, undef, undef, undef], defers := [] }) ?assign ?body ?done ?stop
  case assign =>
    intro l x W K hK
    gi_wp2
    simpa using hK
  case body =>
    rintro l pre x W ⟨⟨h1, h0⟩, hB⟩ _
    have c0 := h1.c0
    have c1 := h1.c1
    have f0 := h1.f0
    have f1 := h1.f1
    gi_wp2
    all_goals exact reach_step h1 h0 hB (by omega) (by omega) (by omega) (by omega)
  case done =>
    rintro D ys W hD hys ⟨⟨h1, h0⟩, hB⟩ hK
    obtain ⟨e1, e2⟩ := HS.out ys hys
    rw [e1, e2] at h1
    have c0 := h1.c0
    have c1 := h1.c1
    have d0 := h0.c0
    have d1 := h0.c1
    have g0 := h0.f0
    have g1 := h0.f1
    gi_wp2
    have hK' := ((KeepsOthers.setCell W ⟨w.heap.size, 0, none⟩ (.int .i64 lo)).trans (KeepsOthers.setCell _ ⟨w.heap.size, 1, none⟩ (.int .i64 hi))).same D _ hK rfl
    have h2 := (h0.set0 lo).set1 hi
    have e0 := cell_kept h2.c0 (grownBy_putObj' _ D (.deferred none)) (fun r e => by cases e; exact ⟨_, hK', rfl⟩)
    have e1 := cell_kept h2.c1 (grownBy_putObj' _ D (.deferred none)) (fun r e => by cases e; exact ⟨_, hK', rfl⟩)
    refine ⟨by simp, .inl ⟨_, _, rfl, run_takeDeferred hK', ?_⟩⟩
    refine ⟨.agg #[.int .i64 lo, .int .i64 hi], ?_, rfl, keeps_putObj ((hB.setCell _ (Nat.le_refl _)).setCell _ (Nat.le_refl _)) _ (by omega)⟩
    simp [results, Try.f49, go_sem, e0, e1]
  case stop =>
    rintro D c pre W _ _ h _
    exact h.elim
end Go.Proofs.Ytidiikmpgpnmpaa
