/-
  WarmNext: numbers below 256; what Next answers; the law where nothing is asked.
-/
import Derived.Test.YtdfiebfgmpdceaaN3
namespace Go.Proofs.Ytdfiebfgmpdceaa
open Go.RowKit

/-- The slice at a holds these numbers below 256. -/
def U8s (w : World) (a : Option Addr) (xs : List Int) : Prop :=
  xs ≠ [] → ∃ b o, a = some ⟨b, o, none⟩ ∧ ∀ i, i < xs.length → w.cell? ⟨b, o + i, none⟩ = some (.int .u8 (xs[i]?.getD 0)) ∧ 0 ≤ xs[i]?.getD 0 ∧ xs[i]?.getD 0 ≤ 255
theorem U8s.keep {w w' : World} {a : Option Addr} {xs : List Int} (h : U8s w a xs) (k : Keeps w w') : U8s w' a xs := by
  intro hx
  obtain ⟨b, o, e, hc⟩ := h hx
  exact ⟨b, o, e, fun i hi => ⟨k.cell (hc i hi).1, (hc i hi).2⟩⟩
/-- Offers that can be. -/
def Ofs (xs : List Int) : Prop := ∀ x ∈ xs, -100 ≤ x ∧ x ≤ 100
theorem offers_ok {xs : List Int} (h0 : xs ≠ []) (h6 : xs.length ≤ 6) (h : Ofs xs) : offersE xs = 0 := by
  have ha : xs.all okOffer = true := List.all_eq_true.2 fun x hx => by unfold okOffer; exact decide_eq_true (h x hx)
  unfold offersE
  rw [if_neg (by omega), if_pos ⟨h0, ha⟩]
theorem next_no {B : Wm} (hok : B.ok = true) (ht : B.truths.isEmpty = true) {xs : List Int} (h0 : xs ≠ []) (h6 : xs.length ≤ 6) (h : Ofs xs) : B.nextA xs = ((0, 0), 10) := by
  unfold Wm.nextA
  rw [offers_ok h0 h6 h, say_none hok ht]
theorem next_yes {B : Wm} (hok : B.ok = true) (ht : B.truths.isEmpty = false) {xs : List Int} (h0 : xs ≠ []) (h6 : xs.length ≤ 6) (h : Ofs xs) : ∃ i A : Nat, B.nextA xs = (((i : Int), (A : Int)), 0) ∧ i < xs.length ∧ alike B.mark (xs[i]?.getD 0) B.truths = A ∧
    ∀ j, j < xs.length → A ≤ alike B.mark (xs[j]?.getD 0) B.truths ∧ (alike B.mark (xs[j]?.getD 0) B.truths = A → i ≤ j) := by
  obtain ⟨i, h1, h2, h3⟩ := bestTo_is (fun t => (alike B.mark t B.truths : Int)) xs xs.length (List.length_pos_iff.2 h0)
  refine ⟨i, alike B.mark (xs[i]?.getD 0) B.truths, ?_, h2, rfl, fun j hj => ?_⟩
  · unfold Wm.nextA
    rw [offers_ok h0 h6 h, say_yes hok ht]
    exact congrArg (·, (0 : Int)) h1
  · have := h3 j hj
    exact ⟨by omega, fun e => this.2 (by rw [e])⟩
set_option maxRecDepth 100000 in
set_option maxHeartbeats 6400000 in
theorem wn_no (B : Wm) (a : Option Addr) (cap : Nat) (zs : List Int) (wh : Int) (w : World) (hI : B.In w) (hf : B.fine = false) : Calls Try.prog 10 #[B.v, .slice a zs.length cap, .int .u8 wh] w (RetB true w) := by
  have F1 := Lib.hid (fun w1 (k : Keeps w w1) => fine_any B w1 (hI.keep k))
  rw [hf] at F1
  have AW := Lib.hid (fun w1 => awake_any w1)
  have k0 := (Keeps.refl w).alloc (.cells #[.int .i64 B.mark, .int .i64 B.llo, .int .i64 B.lhi, .int .i64 B.clo, .int .i64 B.chi, .slice B.ra B.rs.length B.rc] 26)
  obtain ⟨mark, llo, lhi, clo, chi, ra, rc, rs⟩ := B
  dsimp only [Wm.v] at *
  clear hI hf
  go_enter Try.func10, Try.ntmps10
  go_wp2_with fail
  refine (F1.out _ k0).mono ?_
  rintro e w1 ⟨rfl, k1⟩
  go_wp2_with fail
  refine (AW.out _).mono ?_
  rintro e w2 ⟨rfl, k2⟩
  go_wp2_with fail
  go_ret
  exact RetB.mk rfl ((k0.trans k1).trans k2)
set_option maxRecDepth 100000 in
set_option maxHeartbeats 6400000 in
theorem wn_five (B : Wm) (a : Option Addr) (cap : Nat) (zs : List Int) (wh : Int) (w : World) (hI : B.In w) (hf : B.fine = true) (h5 : 5 ≤ B.rs.length) : Calls Try.prog 10 #[B.v, .slice a zs.length cap, .int .u8 wh] w (RetB true w) := by
  have F1 := Lib.hid (fun w1 (k : Keeps w w1) => fine_any B w1 (hI.keep k))
  rw [hf] at F1
  have AW := Lib.hid (fun w1 => awake_any w1)
  have BX := (Wm.Box.new B w).c5
  have k0 := (Keeps.refl w).alloc (.cells #[.int .i64 B.mark, .int .i64 B.llo, .int .i64 B.lhi, .int .i64 B.clo, .int .i64 B.chi, .slice B.ra B.rs.length B.rc] 26)
  obtain ⟨mark, llo, lhi, clo, chi, ra, rc, rs⟩ := B
  dsimp only [Wm.v] at *
  have hd : decide ((5 : Int) ≤ (rs.length : Int)) = true := decide_eq_true (by omega)
  clear hI hf
  go_enter Try.func10, Try.ntmps10
  go_wp2_with fail
  refine (F1.out _ k0).mono ?_
  rintro e w1 ⟨rfl, k1⟩
  replace BX := k1.cell BX
  go_wp2_with fail
  refine (AW.out _).mono ?_
  rintro e w2 ⟨rfl, k2⟩
  go_wp2_with fail
  go_ret
  exact RetB.mk rfl ((k0.trans k1).trans k2)
end Go.Proofs.Ytdfiebfgmpdceaa
