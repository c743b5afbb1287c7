/-
  WARM: can a reading be right with a pair?
-/
import Derived.Test.YtmhpgjlegajpeaaA7
import Derived.Test.YtmhpgjlegajpeaaB3
namespace Go.Proofs.Ytmhpgjlegajpeaa
open Go.RowKit Go.Shelf
attribute [local go_sem] Oper.semAt_some

theorem exact_stops (n : Nat) (hn : 1 ≤ n) (b1 b2 : Nat) (X : Nat → Prop) (m : Int) (p : Int × Int) (r : Wr) (w : World) (hp : okP m p) (hr : okW r) (he : r.1 = r.2.1)
    (h1 : w.cell? ⟨b1, 0, none⟩ = some (.int .i64 r.1)) (h2 : w.cell? ⟨b1, 1, none⟩ = some (.int .i64 r.2.2.1)) (h3 : w.cell? ⟨b1, 2, none⟩ = some (.int .i64 r.2.2.2)) (h4 : w.cell? ⟨b2, 0, none⟩ = some (shF m p)) :
    SeqStopsK Fence.wide n Try.prog 135 #[.pointer (some ⟨b1, 0, none⟩), .pointer (some ⟨b2, 0, none⟩)] (fun x : Int => #[.int .i64 x]) (KeepX X) (fun ys => ys = warms m p r) (fun pre => pre <+: warms m p r) (warms m p r).length w := by
  intro l J Jx W hW hJ _ hY h0
  have k : Keeps w W := hW
  exact exact1_in n hn l b1 b2 X m p r hp hr he J Jx hY W hJ (k.cell h1) (k.cell h2) (k.cell h3) (k.cell h4) h0
theorem vague_stops (n : Nat) (hn : 1 ≤ n) (b1 b2 : Nat) (X : Nat → Prop) (m : Int) (p : Int × Int) (r : Wr) (w : World) (hp : okP m p) (hr : okW r) (hx1 : ¬ X b1) (hx2 : ¬ X b2)
    (h1 : w.cell? ⟨b1, 0, none⟩ = some (.int .i64 r.1)) (h2 : w.cell? ⟨b1, 1, none⟩ = some (.int .i64 r.2.2.1)) (h3 : w.cell? ⟨b1, 2, none⟩ = some (.int .i64 r.2.2.2)) (h5 : w.cell? ⟨b1, 3, none⟩ = some (.int .i64 r.2.1)) (h4 : w.cell? ⟨b2, 0, none⟩ = some (shF m p)) :
    SeqStopsK Fence.wide n Try.prog 137 #[.pointer (some ⟨b1, 0, none⟩), .pointer (some ⟨b2, 0, none⟩)] (fun x : Int => #[.int .i64 x]) (KeepX X) (fun ys => ys = warms m p r) (fun pre => pre <+: warms m p r) (warms m p r).length w := by
  intro l J Jx W hW hJ _ hY h0
  have k : Keeps w W := hW
  exact vague1_in n hn l b1 b2 X m p r hp hr J Jx hY W hJ hx1 hx2 (k.cell h1) (k.cell h2) (k.cell h3) (k.cell h5) (k.cell h4) h0

theorem meth_exact (v : Value) (w : World) : (method 270 135 v "blockworks/warm.warmths").run Try.prog w = .ok (134, v) w := by kernel_rfl
theorem meth_vague (v : Value) (w : World) : (method 270 137 v "blockworks/warm.warmths").run Try.prog w = .ok (136, v) w := by kernel_rfl
/-- Can a reading be right with a pair? -/
def canB (m : Int) (p : Int × Int) (r : Wr) : Bool := !(warms m p r).isEmpty

set_option maxHeartbeats 1600000 in
theorem canBe_exact (m : Int) (p : Int × Int) (r : Wr) (w : World) (hp : okP m p) (hr : okW r) (he : r.1 = r.2.1) :
    Calls Try.prog 104 #[.iface 135 (.agg #[.int .i64 r.1, .int .i64 r.2.2.1, .int .i64 r.2.2.2]), prV m p] w (RetB (canB m p r) w) := by
  have hcm := meth_exact
  have hmf : ∀ (fn : Fn) (first cap : Array Value) (w : World), (Instr.makeFunc fn first cap).run Try.prog w = .ok (.func fn first cap) w := fun _ _ _ _ => rfl
  have WM := Lib.hid (fun w1 => (callsIn_wide (n := 3)).2 (exact_warmths r.1 r.2.2.1 r.2.2.2 99 #[prV m p] w1))
  have ST := Lib.hid (fun b1 b2 X w1 h1 h2 h3 h4 => exact_stops 3 (by omega) b1 b2 X m p r w1 hp hr he h1 h2 h3 h4)
  have CB := Lib.hid (show canB m p r = !(warms m p r).isEmpty from rfl)
  obtain ⟨ws, hws⟩ : ∃ ws, warms m p r = ws := ⟨_, rfl⟩
  rw [hws] at ST CB
  have hfw : ∀ f, Fence.wide.fn f := fun _ => trivial
  clear hws he
  unfold prV at *
  refine (callsIn_wide (n := 4)).1 ?_
  refine callsIn_of_wp_marks Try.func104 rfl trivial ?_ rfl
  simp only [Try.ntmps104, List.size_toArray, List.length_cons, List.length_nil, Nat.reduceAdd, Nat.reduceSub, Array.replicate_succ, Array.replicate_zero, List.push_toArray, List.append_toArray, List.nil_append, List.cons_append]
  gi_wp2_with fail
  refine (WM.out _).mono ?_
  rintro e w1 ⟨rfl, k1, h1, h2, h3, h4⟩
  have k2 : Keeps w w1 := (((Keeps.refl w).alloc _).alloc _).trans k1
  have hr1 : w1.cell? ⟨w.heap.size + 1, 0, none⟩ = some (.bool false) := k1.cell (by simp [go_sem])
  have hf1 : w1.frozen? ⟨w.heap.size + 1, 0, none⟩ = false := by rw [k1.cells.2 _ _ (by simp)]; simp [go_sem]
  have hsz : w.heap.size + 1 < w1.heap.size := lt_of_cell hr1
  simp only [World.size_alloc] at h1 h2 h3 h4
  gi_wp2_with fail
  refine wpIn_rangeFunc_ownF rfl (by omega) (gf := 135) (lb := #[.pointer (some ⟨w.heap.size + 2, 0, none⟩), .pointer (some ⟨w.heap.size + 3, 0, none⟩)]) rfl trivial (enters_of Try.func135 (by kernel_rfl) rfl)
    (ST.out (w.heap.size + 2) (w.heap.size + 3) (fun k => k = w.heap.size + 1) w1 h1 h2 h3 h4)
    (fun h k => KeepX.trans h k) KeepX.putObj (Below.refl _ _) (fun _ => rfl)
    (fun pre W => (pre = [] ∧ W.cell? ⟨w.heap.size + 1, 0, none⟩ = some (.bool false) ∧ W.frozen? ⟨w.heap.size + 1, 0, none⟩ = false) ∧ Keeps w W)
    (fun c pre W => (c = .ret ∧ pre ≠ [] ∧ W.cell? ⟨w.heap.size + 1, 0, none⟩ = some (.bool true)) ∧ Keeps w W)
    (OwnFrom.and (Own.from (fun s A B row hs hg hr => ⟨hs.1, cell_kept hs.2.1 hg hr, (frozen_kept hs.2.1 hg hr).trans hs.2.2⟩) _) (ownFrom_keeps k2.size))
    (fun c => OwnFrom.and (Own.from (fun s A B row hs hg hr => ⟨hs.1, hs.2.1, cell_kept hs.2.2 hg hr⟩) _) (ownFrom_keeps k2.size))
    ⟨⟨rfl, hr1, hf1⟩, k2⟩
    (fun x => { tmps := #[.iface 135 (.agg #[.int .i64 r.1, .int .i64 r.2.2.1, .int .i64 r.2.2.2]), .agg #[.int .i64 m, .int .i64 p.1, .int .i64 p.2], undef, .pointer (some ⟨w.heap.size, 0, none⟩), .pointer (some ⟨w.heap.size + 1, 0, none⟩), .iface 135 (.agg #[.int .i64 r.1, .int .i64 r.2.2.1, .int .i64 r.2.2.2]), .agg #[.int .i64 m, .int .i64 p.1, .int .i64 p.2], .func (.func 99) #[.agg #[.int .i64 m, .int .i64 p.1, .int .i64 p.2]] #[], .func (.func 135) #[] #[.pointer (some ⟨w.heap.size + 2, 0, none⟩), .pointer (some ⟨w.heap.size + 3, 0, none⟩)], .int .i64 x], defers := [] }) ?assign ?body ?done ?stop
  case assign =>
    intro l x W K hK
    gi_wp2
    simpa using hK
  case body =>
    rintro l pre x W ⟨⟨hp, hcr, hfr⟩, hB⟩ _
    gi_wp2
    exact ⟨KeepsOthers.setCell _ _ _, ⟨rfl, by simp, World.cell?_setCell_same' _ _ _ (by rw [hcr]; rfl)⟩, hB.setCell _ (by simp)⟩
  case done =>
    rintro D ys W hD rfl ⟨⟨hne, hcr, hfr⟩, hB⟩ hK
    gi_wp2
    have hK' := (KeepsOthers.setCell W ⟨w.heap.size + 1, 0, none⟩ (.bool false)).same D _ hK rfl
    refine ⟨by simp, .inl ⟨_, _, rfl, run_takeDeferred hK', ?_⟩⟩
    have hc5 := cell_kept (World.cell?_setCell_same' W ⟨w.heap.size + 1, 0, none⟩ (.bool false) (by rw [hcr]; rfl)) (grownBy_putObj' _ D (.deferred none)) (fun r e => by cases e; exact ⟨_, hK', rfl⟩)
    refine ⟨.bool false, ?_, by rw [CB.out, hne]; rfl, keeps_putObj (hB.setCell _ (by simp)) _ (by omega)⟩
    simp [results, Try.f104, go_sem, hc5]
  case stop =>
    rintro D c pre W hD hpre ⟨⟨rfl, hne, hcr⟩, hB⟩ hK
    gi_wp2
    refine ⟨by simp, .inl ⟨_, _, rfl, run_takeDeferred hK, ?_⟩⟩
    have hc5 := cell_kept hcr (grownBy_putObj' _ D (.deferred none)) (fun r e => by cases e; exact ⟨_, hK, rfl⟩)
    have hl : ws ≠ [] := fun e => by rw [e] at hpre; exact hne (List.prefix_nil.1 hpre)
    refine ⟨.bool true, ?_, by rw [CB.out]; simp [hl], keeps_putObj hB _ (by omega)⟩
    simp [results, Try.f104, go_sem, hc5]
set_option maxHeartbeats 1600000 in
theorem canBe_vague (m : Int) (p : Int × Int) (r : Wr) (w : World) (hp : okP m p) (hr : okW r) :
    Calls Try.prog 104 #[.iface 137 (.agg #[.int .i64 r.1, .int .i64 r.2.2.1, .int .i64 r.2.2.2, .int .i64 r.2.1]), prV m p] w (RetB (canB m p r) w) := by
  have hcm := meth_vague
  have hmf : ∀ (fn : Fn) (first cap : Array Value) (w : World), (Instr.makeFunc fn first cap).run Try.prog w = .ok (.func fn first cap) w := fun _ _ _ _ => rfl
  have WM := Lib.hid (fun w1 => (callsIn_wide (n := 3)).2 (vague_warmths r.1 r.2.2.1 r.2.2.2 r.2.1 99 #[prV m p] w1))
  have ST := Lib.hid (fun b1 b2 X w1 hx1 hx2 h1 h2 h3 h5 h4 => vague_stops 3 (by omega) b1 b2 X m p r w1 hp hr hx1 hx2 h1 h2 h3 h5 h4)
  have CB := Lib.hid (show canB m p r = !(warms m p r).isEmpty from rfl)
  obtain ⟨ws, hws⟩ : ∃ ws, warms m p r = ws := ⟨_, rfl⟩
  rw [hws] at ST CB
  have hfw : ∀ f, Fence.wide.fn f := fun _ => trivial
  clear hws
  unfold prV at *
  refine (callsIn_wide (n := 4)).1 ?_
  refine callsIn_of_wp_marks Try.func104 rfl trivial ?_ rfl
  simp only [Try.ntmps104, List.size_toArray, List.length_cons, List.length_nil, Nat.reduceAdd, Nat.reduceSub, Array.replicate_succ, Array.replicate_zero, List.push_toArray, List.append_toArray, List.nil_append, List.cons_append]
  gi_wp2_with fail
  refine (WM.out _).mono ?_
  rintro e w1 ⟨rfl, k1, h1, h2, h3, h5, h4⟩
  have k2 : Keeps w w1 := (((Keeps.refl w).alloc _).alloc _).trans k1
  have hr1 : w1.cell? ⟨w.heap.size + 1, 0, none⟩ = some (.bool false) := k1.cell (by simp [go_sem])
  have hf1 : w1.frozen? ⟨w.heap.size + 1, 0, none⟩ = false := by rw [k1.cells.2 _ _ (by simp)]; simp [go_sem]
  have hsz : w.heap.size + 1 < w1.heap.size := lt_of_cell hr1
  simp only [World.size_alloc] at h1 h2 h3 h5 h4
  gi_wp2_with fail
  refine wpIn_rangeFunc_ownF rfl (by omega) (gf := 137) (lb := #[.pointer (some ⟨w.heap.size + 2, 0, none⟩), .pointer (some ⟨w.heap.size + 3, 0, none⟩)]) rfl trivial (enters_of Try.func137 (by kernel_rfl) rfl)
    (ST.out (w.heap.size + 2) (w.heap.size + 3) (fun k => k = w.heap.size + 1) w1 (by omega) (by omega) h1 h2 h3 h5 h4)
    (fun h k => KeepX.trans h k) KeepX.putObj (Below.refl _ _) (fun _ => rfl)
    (fun pre W => (pre = [] ∧ W.cell? ⟨w.heap.size + 1, 0, none⟩ = some (.bool false) ∧ W.frozen? ⟨w.heap.size + 1, 0, none⟩ = false) ∧ Keeps w W)
    (fun c pre W => (c = .ret ∧ pre ≠ [] ∧ W.cell? ⟨w.heap.size + 1, 0, none⟩ = some (.bool true)) ∧ Keeps w W)
    (OwnFrom.and (Own.from (fun s A B row hs hg hr => ⟨hs.1, cell_kept hs.2.1 hg hr, (frozen_kept hs.2.1 hg hr).trans hs.2.2⟩) _) (ownFrom_keeps k2.size))
    (fun c => OwnFrom.and (Own.from (fun s A B row hs hg hr => ⟨hs.1, hs.2.1, cell_kept hs.2.2 hg hr⟩) _) (ownFrom_keeps k2.size))
    ⟨⟨rfl, hr1, hf1⟩, k2⟩
    (fun x => { tmps := #[.iface 137 (.agg #[.int .i64 r.1, .int .i64 r.2.2.1, .int .i64 r.2.2.2, .int .i64 r.2.1]), .agg #[.int .i64 m, .int .i64 p.1, .int .i64 p.2], undef, .pointer (some ⟨w.heap.size, 0, none⟩), .pointer (some ⟨w.heap.size + 1, 0, none⟩), .iface 137 (.agg #[.int .i64 r.1, .int .i64 r.2.2.1, .int .i64 r.2.2.2, .int .i64 r.2.1]), .agg #[.int .i64 m, .int .i64 p.1, .int .i64 p.2], .func (.func 99) #[.agg #[.int .i64 m, .int .i64 p.1, .int .i64 p.2]] #[], .func (.func 137) #[] #[.pointer (some ⟨w.heap.size + 2, 0, none⟩), .pointer (some ⟨w.heap.size + 3, 0, none⟩)], .int .i64 x], defers := [] }) ?assign ?body ?done ?stop
  case assign =>
    intro l x W K hK
    gi_wp2
    simpa using hK
  case body =>
    rintro l pre x W ⟨⟨hp, hcr, hfr⟩, hB⟩ _
    gi_wp2
    exact ⟨KeepsOthers.setCell _ _ _, ⟨rfl, by simp, World.cell?_setCell_same' _ _ _ (by rw [hcr]; rfl)⟩, hB.setCell _ (by simp)⟩
  case done =>
    rintro D ys W hD rfl ⟨⟨hne, hcr, hfr⟩, hB⟩ hK
    gi_wp2
    have hK' := (KeepsOthers.setCell W ⟨w.heap.size + 1, 0, none⟩ (.bool false)).same D _ hK rfl
    refine ⟨by simp, .inl ⟨_, _, rfl, run_takeDeferred hK', ?_⟩⟩
    have hc5 := cell_kept (World.cell?_setCell_same' W ⟨w.heap.size + 1, 0, none⟩ (.bool false) (by rw [hcr]; rfl)) (grownBy_putObj' _ D (.deferred none)) (fun r e => by cases e; exact ⟨_, hK', rfl⟩)
    refine ⟨.bool false, ?_, by rw [CB.out, hne]; rfl, keeps_putObj (hB.setCell _ (by simp)) _ (by omega)⟩
    simp [results, Try.f104, go_sem, hc5]
  case stop =>
    rintro D c pre W hD hpre ⟨⟨rfl, hne, hcr⟩, hB⟩ hK
    gi_wp2
    refine ⟨by simp, .inl ⟨_, _, rfl, run_takeDeferred hK, ?_⟩⟩
    have hc5 := cell_kept hcr (grownBy_putObj' _ D (.deferred none)) (fun r e => by cases e; exact ⟨_, hK, rfl⟩)
    have hl : ws ≠ [] := fun e => by rw [e] at hpre; exact hne (List.prefix_nil.1 hpre)
    refine ⟨.bool true, ?_, by rw [CB.out]; simp [hl], keeps_putObj hB _ (by omega)⟩
    simp [results, Try.f104, go_sem, hc5]
theorem canBe_any (m : Int) (p : Int × Int) (r : Wr) (w : World) (hp : okP m p) (hr : okW r) : Calls Try.prog 104 #[rdV r, prV m p] w (RetB (canB m p r) w) := by
  unfold rdV
  split
  · rename_i he
    exact canBe_exact m p r w hp hr he
  · exact canBe_vague m p r w hp hr
end Go.Proofs.Ytmhpgjlegajpeaa
