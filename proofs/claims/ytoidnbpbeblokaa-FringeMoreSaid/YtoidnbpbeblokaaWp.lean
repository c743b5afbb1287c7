/-
  nearest: which length differs least from a wish.
-/
import Derived.Test.YtoidnbpbeblokaaWj
import Derived.Test.YtoidnbpbeblokaaR
import Derived.BigQuiet
import Derived.Sort.QuietIn
import Derived.Scope
import Derived.WalkMore
namespace Go.Proofs.Ytoidnbpbeblokaa
open Go.RowKit Go.Shelf
attribute [local go_sem] Oper.semAt_some

def dist (a b : Int) : Int := if a ≤ b then b - a else a - b
set_option maxHeartbeats 400000 in
theorem distance_any (a b : Int) (w : World) (h1 : 0 ≤ a) (h2 : a ≤ 2000) (h3 : 0 ≤ b) (h4 : b ≤ 2000) : Calls Try.prog 104 #[.int .i64 a, .int .i64 b] w fun e w' => e = .returned (.int .i64 (dist a b)) ∧ w = w' := by
  go_enter Try.func104, Try.ntmps104
  go_wp2
  all_goals go_ret
  all_goals exact ⟨congrArg (fun n => Ending.returned (.int .i64 n)) (show _ = dist a b by unfold dist; split <;> omega), rfl⟩

theorem distance_same (a b : Int) (w : World) (h1 : 0 ≤ a) (h2 : a ≤ 2000) (h3 : 0 ≤ b) (h4 : b ≤ 2000) : Calls Try.prog 104 #[.int .i64 a, .int .i64 b] w fun e w' => e = .returned (.int .i64 (dist a b)) ∧ w' = w :=
  (distance_any a b w h1 h2 h3 h4).mono fun _ _ h => ⟨h.1, h.2.symm⟩
def nearGo (wish : Int) : Int → List Ln → Int
  | best, [] => best
  | best, x :: xs => if dist x.val wish < dist best wish then nearGo wish x.val xs else best
def near (wish : Int) : List Ln → Int
  | [] => 0
  | x :: xs => nearGo wish x.val xs

theorem keepsOthers_drewN (W : World) (k : Nat) : KeepsOthers W (W.drewN k) := ⟨Nat.le_refl _, fun _ _ h _ => h⟩
theorem keepEx_drewN (m : Nat) (X : Nat → Prop) (W : World) (k : Nat) : KeepEx m X W (W.drewN k) := ⟨Nat.le_refl _, fun _ _ _ => rfl⟩
theorem near_set {w W : World} {nq m : Nat} {n wish : Int} {v1 v2 : Value} (hB : Keeps w W) (h1 : W.cell? ⟨w.heap.size + 1, 0, none⟩ = some v1) (h2 : W.cell? ⟨w.heap.size + 1 + 1, 0, none⟩ = some v2)
    (hf1 : W.frozen? ⟨w.heap.size + 1, 0, none⟩ = false) (hf2 : W.frozen? ⟨w.heap.size + 1 + 1, 0, none⟩ = false) (hcw : W.cell? ⟨w.heap.size, 0, none⟩ = some (.int .i64 wish)) (W2 : World)
    (hW2 : W2 = ((W.drewN nq).setCell ⟨w.heap.size + 1, 0, none⟩ (.int .i64 n)).setCell ⟨w.heap.size + 1 + 1, 0, none⟩ (.bool true)) :
    KeepsOthers W W2 ∧ KeepEx m (fun k => w.heap.size < k ∧ k < w.heap.size + 3) W W2 ∧ (W2.cell? ⟨w.heap.size + 1, 0, none⟩ = some (.int .i64 n) ∧ W2.cell? ⟨w.heap.size + 1 + 1, 0, none⟩ = some (.bool true)) ∧
      (W2.frozen? ⟨w.heap.size + 1, 0, none⟩ = false ∧ W2.frozen? ⟨w.heap.size + 1 + 1, 0, none⟩ = false ∧ W2.cell? ⟨w.heap.size, 0, none⟩ = some (.int .i64 wish)) ∧ Keeps w W2 := by
  subst hW2
  have a1 : ((W.drewN nq).cell? ⟨w.heap.size + 1, 0, none⟩).isSome = true := by show (W.cell? ⟨w.heap.size + 1, 0, none⟩).isSome = true; rw [h1]; rfl
  have a2 : ((W.drewN nq).cell? ⟨w.heap.size + 1 + 1, 0, none⟩).isSome = true := by show (W.cell? ⟨w.heap.size + 1 + 1, 0, none⟩).isSome = true; rw [h2]; rfl
  refine ⟨((keepsOthers_drewN W nq).trans (KeepsOthers.setCell _ _ _)).trans (KeepsOthers.setCell _ _ _), ((keepEx_drewN _ _ W nq).trans (KeepEx.setCell _ _ ⟨by show w.heap.size < w.heap.size + 1; omega, by show w.heap.size + 1 < w.heap.size + 3; omega⟩)).trans (KeepEx.setCell _ _ ⟨by show w.heap.size < w.heap.size + 1 + 1; omega, by show w.heap.size + 1 + 1 < w.heap.size + 3; omega⟩), ⟨?_, ?_⟩, ⟨?_, ?_, ?_⟩, ?_⟩
  · exact (cell_set_other (by omega)).trans (cell_set_same a1)
  · exact cell_set_same (by rw [cell_set_other (by omega)]; exact a2)
  · rw [World.frozen?_setCell, World.frozen?_setCell]; exact hf1
  · rw [World.frozen?_setCell, World.frozen?_setCell]; exact hf2
  · exact (cell_set_other (by omega)).trans ((cell_set_other (by omega)).trans hcw)
  · exact ((hB.drewN nq).setCell _ (by simp)).setCell _ (by simp; omega)

set_option maxHeartbeats 1600000 in
theorem nearest_any (F : Fr) (hok : F.ok = true) (b1 b2 : Nat) (a : Option Addr) (wish : Int) (w : World) (hS : SeqIn F w b1 b2 a) (hb1 : b1 < w.heap.size) (hb2 : b2 < w.heap.size) (hb3 : ∀ b o, a = some ⟨b, o, none⟩ → b < w.heap.size) (h1 : 0 ≤ wish) (h2 : wish ≤ 2000) :
    Calls Try.prog 68 #[.func (.func 110) #[] #[.pointer (some ⟨b1, 0, none⟩), .pointer (some ⟨b2, 0, none⟩)], .int .i64 wish] w (RetI (near wish F.truths) w) := by
  have HS := Lib.hid (seq_stops F hok b1 b2 (fun k => w.heap.size < k ∧ k < w.heap.size + 3) a)
  have HB := Lib.hid hb3
  have HQ := Lib.hid hS
  obtain ⟨ts, hts⟩ : ∃ ts, F.truths = ts := ⟨_, rfl⟩
  rw [hts] at HS ⊢
  clear hok hts hS hb3
  refine (callsIn_wide (n := 4)).1 ?_
  refine callsIn_of_wp_marks Try.func68 rfl trivial ?_ rfl
  simp only [Try.ntmps68, List.size_toArray, List.length_cons, List.length_nil, Nat.reduceAdd, Nat.reduceSub, Array.replicate_succ, Array.replicate_zero, List.push_toArray, List.append_toArray, List.nil_append, List.cons_append]
  refine (wpIn_wide (n := 4)).2 ?_
  go_wp2_with fail
  go_step3
  go_wp2_with fail
  go_step3
  go_wp2_with fail
  refine (wpIn_wide (n := 4)).1 ?_
  have k0 : Keeps w (((w.alloc (.cells #[.int .i64 wish] 3)).alloc (.cells #[.int .i64 0] 3)).alloc (.cells #[.bool false] 4)) := (((Keeps.refl _).alloc _).alloc _).alloc _
  have c0 : (((w.alloc (.cells #[.int .i64 wish] 3)).alloc (.cells #[.int .i64 0] 3)).alloc (.cells #[.bool false] 4)).cell? ⟨w.heap.size, 0, none⟩ = some (.int .i64 wish) := by simp [go_sem]
  have c1 : (((w.alloc (.cells #[.int .i64 wish] 3)).alloc (.cells #[.int .i64 0] 3)).alloc (.cells #[.bool false] 4)).cell? ⟨w.heap.size + 1, 0, none⟩ = some (.int .i64 0) := by simp [go_sem]
  have c2 : (((w.alloc (.cells #[.int .i64 wish] 3)).alloc (.cells #[.int .i64 0] 3)).alloc (.cells #[.bool false] 4)).cell? ⟨w.heap.size + 1 + 1, 0, none⟩ = some (.bool false) := by simp [go_sem]
  have f1 : (((w.alloc (.cells #[.int .i64 wish] 3)).alloc (.cells #[.int .i64 0] 3)).alloc (.cells #[.bool false] 4)).frozen? ⟨w.heap.size + 1, 0, none⟩ = false := by simp [go_sem]
  have f2 : (((w.alloc (.cells #[.int .i64 wish] 3)).alloc (.cells #[.int .i64 0] 3)).alloc (.cells #[.bool false] 4)).frozen? ⟨w.heap.size + 1 + 1, 0, none⟩ = false := by simp [go_sem]
  refine wpIn_rangeFunc_ownF rfl (by omega) (gf := 110) (lb := #[.pointer (some ⟨b1, 0, none⟩), .pointer (some ⟨b2, 0, none⟩)]) rfl trivial (enters_of Try.func110 (by kernel_rfl) rfl)
    (HS.out _ (by omega) (by omega) (fun b o e => by have := HB.out b o e; omega) (HQ.out.keep k0))
    (fun h k => KeepEx.trans h k) keepEx_putObj (Below.refl _ _) (fun _ => rfl)
    (fun pre W => (((pre = [] ∧ W.cell? ⟨w.heap.size + 1, 0, none⟩ = some (.int .i64 0) ∧ W.cell? ⟨w.heap.size + 1 + 1, 0, none⟩ = some (.bool false)) ∨
        (∃ best : Int, 0 ≤ best ∧ best ≤ 2000 ∧ W.cell? ⟨w.heap.size + 1, 0, none⟩ = some (.int .i64 best) ∧ W.cell? ⟨w.heap.size + 1 + 1, 0, none⟩ = some (.bool true) ∧ ∀ rest, near wish (pre ++ rest) = nearGo wish best rest)) ∧
      W.frozen? ⟨w.heap.size + 1, 0, none⟩ = false ∧ W.frozen? ⟨w.heap.size + 1 + 1, 0, none⟩ = false ∧ W.cell? ⟨w.heap.size, 0, none⟩ = some (.int .i64 wish)) ∧ Keeps w W)
    (fun c pre W => (c = .exit 0 ∧ ∃ best : Int, W.cell? ⟨w.heap.size + 1, 0, none⟩ = some (.int .i64 best) ∧ ∀ rest, near wish (pre ++ rest) = best) ∧ Keeps w W)
    (OwnFrom.and (Own.from (fun s A B row hs hg hr => by
      obtain ⟨h, hf1, hf2, hw⟩ := hs
      rcases h with ⟨e, h1, h2⟩ | ⟨best, b1, b2, h1, h2, h3⟩
      · exact ⟨.inl ⟨e, cell_kept h1 hg hr, cell_kept h2 hg hr⟩, (frozen_kept h1 hg hr).trans hf1, (frozen_kept h2 hg hr).trans hf2, cell_kept hw hg hr⟩
      · exact ⟨.inr ⟨best, b1, b2, cell_kept h1 hg hr, cell_kept h2 hg hr, h3⟩, (frozen_kept h1 hg hr).trans hf1, (frozen_kept h2 hg hr).trans hf2, cell_kept hw hg hr⟩) _) (ownFrom_keeps k0.size))
    (fun c => OwnFrom.and (Own.from (fun s A B row hs hg hr => ⟨hs.1, hs.2.imp fun best h => ⟨cell_kept h.1 hg hr, h.2⟩⟩) _) (ownFrom_keeps k0.size))
    ⟨⟨.inl ⟨rfl, c1, c2⟩, f1, f2, c0⟩, k0⟩
    (fun x => { tmps := #[.func (.func 110) #[] #[.pointer (some ⟨b1, 0, none⟩), .pointer (some ⟨b2, 0, none⟩)], .int .i64 wish, undef, .pointer (some ⟨w.heap.size, 0, none⟩), .int .i64 0, .pointer (some ⟨w.heap.size + 1, 0, none⟩), .pointer (some ⟨w.heap.size + 1 + 1, 0, none⟩), lnV x,
      .func (.func 110) #[] #[.pointer (some ⟨b1, 0, none⟩), .pointer (some ⟨b2, 0, none⟩)], lnV x, undef, undef, undef, undef, undef, undef, undef, undef, undef, undef, undef, undef, undef, undef], defers := [] }) ?assign ?body ?done ?stop
  case assign =>
    intro l x W K hK
    gi_wp2
    simpa using hK
  case body =>
    rintro l pre x W ⟨⟨h, hf1, hf2, hcw⟩, hB⟩ hN
    have hn1 : 1 ≤ 4 - 1 - 1 := by omega
    clear c0 c1 c2 f1 f2 k0
    have hmx : Try.prog.follows .mixedOrders = true := by kernel_rfl
    have hfn : Fence.wide.fn 104 := trivial
    rcases h with ⟨rfl, h1, h2⟩ | ⟨best, hb1, hb2, h1, h2, h3⟩
    · obtain ⟨n, hn⟩ := x
      dsimp only [lnV]
      gi_wp2_with fail
      refine region_quiet_round (by kernel_rfl) hmx (by kernel_rfl) ?_
      repeat (gi_big_quiet_step (fail))
      refine wpQuietIn_nil ?_
      intro _ hw'
      obtain ⟨nq, hw''⟩ := hw'
      subst hw''
      gi_wp2_with fail
      obtain ⟨q1, q2, ⟨q3, q4⟩, q5, q6⟩ := near_set (nq := nq) (n := (n : Int)) hB h1 h2 hf1 hf2 hcw _ rfl
      exact ⟨q1, q2, ⟨.inr ⟨n, by omega, by omega, q3, q4, fun rest => by simp [near]⟩, q5⟩, q6⟩
    · obtain ⟨n, hn⟩ := x
      dsimp only [lnV]
      by_cases hd : dist n wish < dist best wish
      · gi_wp2_with fail
        refine region_quiet_round (by kernel_rfl) hmx (by kernel_rfl) ?_
        repeat (gi_big_quiet_step ((gi_at_call 104; refine CallsIn.quiet_of_same (CallsIn.inRound l (callsIn_wide.2 (distance_same _ _ _ (by omega) (by omega) (by omega) (by omega)))))))
        refine wpQuietIn_nil ?_
        intro _ hw'
        obtain ⟨nq, hw''⟩ := hw'
        subst hw''
        gi_wp2_with fail
        obtain ⟨q1, q2, ⟨q3, q4⟩, q5, q6⟩ := near_set (nq := nq) (n := (n : Int)) hB h1 h2 hf1 hf2 hcw _ rfl
        exact ⟨q1, q2, ⟨.inr ⟨n, by omega, by omega, q3, q4, fun rest => by rw [List.append_assoc, h3, List.singleton_append, nearGo, if_pos hd]⟩, q5⟩, q6⟩
      · gi_wp2_with fail
        refine region_quiet_round (by kernel_rfl) hmx (by kernel_rfl) ?_
        repeat (gi_big_quiet_step ((gi_at_call 104; refine CallsIn.quiet_of_same (CallsIn.inRound l (callsIn_wide.2 (distance_same _ _ _ (by omega) (by omega) (by omega) (by omega)))))))
        refine wpQuietIn_nil ?_
        intro _ hw'
        obtain ⟨nq, hw''⟩ := hw'
        subst hw''
        gi_wp2_with fail
        exact ⟨keepsOthers_drewN W nq, ⟨rfl, best, h1, fun rest => by rw [List.append_assoc, h3, List.singleton_append, nearGo, if_neg (Int.not_lt.2 hd)]⟩, hB.drewN nq⟩
  case done =>
    rintro D ys W hD rfl ⟨⟨h, hf1, hf2, hcw⟩, hB⟩ hK
    obtain ⟨best, hbest, hnear⟩ : ∃ best : Int, W.cell? ⟨w.heap.size + 1, 0, none⟩ = some (.int .i64 best) ∧ best = near wish ys := by
      rcases h with ⟨rfl, h1, _⟩ | ⟨best, _, _, h1, _, h3⟩
      · exact ⟨0, h1, rfl⟩
      · exact ⟨best, h1, by have := h3 []; rw [List.append_nil] at this; rw [this, nearGo]⟩
    have Hn := Lib.hid hnear
    clear h hnear c0 c1 c2 f1 f2
    go_wp2_with fail
    rw [Exit.noGoto_ret]
    refine ⟨by simp, .inl ⟨_, _, rfl, run_takeDeferred hK, ?_⟩⟩
    exact ⟨_, results_tmp rfl _ _ _, by rw [Hn.out]; rfl, keeps_putObj hB _ (Nat.le_trans k0.size hD)⟩
  case stop =>
    rintro D c pre W hD hpre ⟨⟨rfl, best, hc, hn⟩, hB⟩ hK
    obtain ⟨rest, hrest⟩ := hpre
    have hnear : best = near wish ts := by rw [← hrest, hn]
    have Hn := Lib.hid hnear
    clear hn hnear hrest c0 c1 c2 f1 f2
    gi_wp2_with fail
    go_wp2_with fail
    rw [Exit.noGoto_ret]
    refine ⟨by simp, .inl ⟨_, _, rfl, run_takeDeferred hK, ?_⟩⟩
    exact ⟨_, results_tmp rfl _ _ _, by rw [Hn.out]; rfl, keeps_putObj hB _ (Nat.le_trans k0.size hD)⟩
end Go.Proofs.Ytoidnbpbeblokaa
