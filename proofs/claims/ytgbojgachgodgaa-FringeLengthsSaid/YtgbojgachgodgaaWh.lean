/-
  agreeing, truths: they hand back the iterator, which has kept its span and its readings.
-/
import Derived.Test.YtgbojgachgodgaaWg
namespace Go.Proofs.Ytgbojgachgodgaa
open Go.RowKit

set_option maxHeartbeats 400000 in
theorem agreeing_any (lo hi : Int) (a : Option Addr) (n cap : Nat) (w : World) :
    Calls Try.prog 93 #[.agg #[.int .i64 lo, .int .i64 hi], .slice a n cap] w fun e w' =>
      e = .returned (.func (.func 110) #[] #[.pointer (some ⟨w.heap.size, 0, none⟩), .pointer (some ⟨w.heap.size + 1, 0, none⟩)]) ∧ (w.alloc (.cells #[.int .i64 lo, .int .i64 hi] 24)).alloc (.cells #[.slice a n cap] 87) = w' := by
  have hmf : ∀ (fn : Fn) (first cap : Array Value) (w : World), (Instr.makeFunc fn first cap).run Try.prog w = .ok (.func fn first cap) w := fun _ _ _ _ => rfl
  go_enter Try.func93, Try.ntmps93
  go_wp2
  go_ret
  exact ⟨rfl, rfl⟩

/-- The iterator over the lengths of a span of which all readings are right; what it has kept lies from block m on. -/
def SeqAt (m : Nat) (w : World) (v : Value) (lo hi : Int) (a : Option Addr) (gs : List Rg) : Prop :=
  ∃ b1 b2 cap, v = .func (.func 110) #[] #[.pointer (some ⟨b1, 0, none⟩), .pointer (some ⟨b2, 0, none⟩)] ∧ m ≤ b1 ∧ m ≤ b2 ∧ w.cell? ⟨b1, 0, none⟩ = some (.int .i64 lo) ∧ w.cell? ⟨b1, 1, none⟩ = some (.int .i64 hi) ∧
    w.cell? ⟨b2, 0, none⟩ = some (.slice a gs.length cap) ∧ Rgs w a gs
theorem SeqAt.keep {m : Nat} {w w' : World} {v : Value} {lo hi : Int} {a : Option Addr} {gs : List Rg} (h : SeqAt m w v lo hi a gs) (k : Keeps w w') : SeqAt m w' v lo hi a gs := by
  obtain ⟨b1, b2, cap, hv, hm1, hm2, h1, h2, h3, h4⟩ := h
  exact ⟨b1, b2, cap, hv, hm1, hm2, k.cell h1, k.cell h2, k.cell h3, h4.keep k⟩
theorem SeqAt.mono {m m' : Nat} {w : World} {v : Value} {lo hi : Int} {a : Option Addr} {gs : List Rg} (h : SeqAt m w v lo hi a gs) (k : m' ≤ m) : SeqAt m' w v lo hi a gs := by
  obtain ⟨b1, b2, cap, hv, hm1, hm2, h⟩ := h
  exact ⟨b1, b2, cap, hv, Nat.le_trans k hm1, Nat.le_trans k hm2, h⟩
/-- The slice at a, if there is one, lies from block m on. -/
def From (m : Nat) (a : Option Addr) : Prop := ∀ b o, a = some ⟨b, o, none⟩ → m ≤ b

theorem agreeing_seq (lo hi : Int) (a : Option Addr) (cap : Nat) (gs : List Rg) (w : World) (hg : Rgs w a gs) :
    Calls Try.prog 93 #[.agg #[.int .i64 lo, .int .i64 hi], .slice a gs.length cap] w fun e w' => ∃ v, e = .returned v ∧ SeqAt w.heap.size w' v lo hi a gs ∧ Keeps w w' := by
  refine (agreeing_any lo hi a gs.length cap w).mono ?_
  rintro e w' ⟨rfl, rfl⟩
  have k1 : Keeps w ((w.alloc (.cells #[.int .i64 lo, .int .i64 hi] 24)).alloc (.cells #[.slice a gs.length cap] 87)) := ((Keeps.refl _).alloc _).alloc _
  exact ⟨_, rfl, ⟨w.heap.size, w.heap.size + 1, cap, rfl, Nat.le_refl _, Nat.le_succ _, by simp [go_sem], by simp [go_sem], by simp [go_sem], hg.keep k1⟩, k1⟩

theorem Fr.gs_len (F : Fr) : F.gs.length = F.rs.length := by simp [Fr.gs]

theorem readings_ex (F : Fr) (w : World) (hI : F.In w) (hok : F.ok = true) :
    Calls Try.prog 51 #[F.v] w fun e w' => ∃ a, e = .returned (.slice a F.rs.length F.rs.length) ∧ Rgs w' a F.gs ∧ From w.heap.size a ∧ (∀ b o, a = some ⟨b, o, none⟩ → b < w'.heap.size) ∧ Keeps w w' :=
  (readings_any F w hI hok).mono fun _ _ ⟨he, hg, hk, hz⟩ => ⟨_, he, hg, fun b o e => by cases e; omega, fun b o e => by cases e; exact hz, hk⟩

set_option maxHeartbeats 800000 in
theorem truths_any (F : Fr) (w : World) (hI : F.In w) (hok : F.ok = true) :
    Calls Try.prog 46 #[F.v] w fun e w' => ∃ v a, e = .returned v ∧ SeqAt w.heap.size w' v F.lo F.hi a F.gs ∧ From w.heap.size a ∧ (∀ b o, a = some ⟨b, o, none⟩ → b < w'.heap.size) ∧ Keeps w w' := by
  have H1 := Lib.hid (fun w1 (k : Keeps w w1) => readings_ex F w1 (hI.keep k) hok)
  have H2 := Lib.hid (fun w1 a => (F.gs_len ▸ agreeing_seq F.lo F.hi a F.rs.length F.gs w1))
  have HB := Lib.hid (Fr.Box.new F w)
  obtain ⟨gs, hgs⟩ : ∃ gs, F.gs = gs := ⟨_, rfl⟩
  rw [hgs] at H1 H2 ⊢
  obtain ⟨wa, wc, ws, lo, hi, ra, rc, rs⟩ := F
  dsimp only [Fr.v] at *
  clear hok hI hgs
  go_enter Try.func46, Try.ntmps46
  go_wp2_with fail
  have k0 := (Keeps.refl w).alloc (.cells #[.slice wa ws.length wc, .int .i64 lo, .int .i64 hi, .slice ra rs.length rc] 27)
  go_region_with (first | (go_at_call 51; refine (H1.out _ k0.drew).mono ?_; rintro e w1 ⟨a, rfl, hg, hfr, hlt, k1⟩; have hc1 := k1.undrew.cells) | (go_at_call 93; refine (H2.out _ _ hg).mono ?_; rintro e w2 ⟨v, rfl, hsq, k2⟩))
  all_goals
    go_wp2
    go_ret
    exact ⟨v, a, rfl, hsq.mono (k0.trans k1.undrew).size, fun b o e => Nat.le_trans k0.size (hfr b o e), fun b o e => Nat.lt_of_lt_of_le (hlt b o e) k2.size, (k0.trans k1.undrew).trans k2⟩
end Go.Proofs.Ytgbojgachgodgaa
