/-
  WARM: each, shown, heldAt; howLong, howMuch; the span of ends; what the iterators promise.
-/
import Derived.Test.YtmhpgjlegajpeaaC1
import Derived.Test.YtmhpgjlegajpeaaC2
import Derived.Test.YtmhpgjlegajpeaaC6
import Derived.Test.YtmhpgjlegajpeaaB7
namespace Go.Proofs.Ytmhpgjlegajpeaa
open Go.RowKit Go.Shelf Go.Maps

theorem each_any (b T : Nat) (w : World) : Calls Try.prog 50 #[.map (some b), .func (.func T) #[] #[]] w fun e w' =>
    e = .returned (.func (.func 97) #[] #[.pointer (some ⟨w.heap.size, 0, none⟩), .pointer (some ⟨w.heap.size + 1, 0, none⟩)]) ∧ Keeps w w' ∧
      w'.cell? ⟨w.heap.size, 0, none⟩ = some (.map (some b)) ∧ w'.cell? ⟨w.heap.size + 1, 0, none⟩ = some (.func (.func T) #[] #[]) := by
  have hmf : ∀ (fn : Fn) (first cap : Array Value) (w : World), (Instr.makeFunc fn first cap).run Try.prog w = .ok (.func fn first cap) w := fun _ _ _ _ => rfl
  have k0 := ((Keeps.refl w).alloc (.cells #[.map (some b)] 80)).alloc (.cells #[.func (.func T) #[] #[]] 82)
  go_enter Try.func50, Try.ntmps50
  go_wp2
  go_ret
  exact ⟨rfl, k0, by simp [go_sem], by simp [go_sem]⟩
theorem shown_any (b : Nat) (lo hi : Int) (w : World) : Calls Try.prog 66 #[.map (some b), .agg #[.int .i64 lo, .int .i64 hi]] w fun e w' =>
    e = .returned (.func (.func 101) #[] #[.pointer (some ⟨w.heap.size, 0, none⟩), .pointer (some ⟨w.heap.size + 1, 0, none⟩)]) ∧ Keeps w w' ∧
      w'.cell? ⟨w.heap.size, 0, none⟩ = some (.map (some b)) ∧ w'.cell? ⟨w.heap.size + 1, 0, none⟩ = some (.int .i64 lo) ∧ w'.cell? ⟨w.heap.size + 1, 1, none⟩ = some (.int .i64 hi) := by
  have hmf : ∀ (fn : Fn) (first cap : Array Value) (w : World), (Instr.makeFunc fn first cap).run Try.prog w = .ok (.func fn first cap) w := fun _ _ _ _ => rfl
  have k0 := ((Keeps.refl w).alloc (.cells #[.map (some b)] 80)).alloc (.cells #[.int .i64 lo, .int .i64 hi] 23)
  go_enter Try.func66, Try.ntmps66
  go_wp2
  go_ret
  exact ⟨rfl, k0, by simp [go_sem], by simp [go_sem], by simp [go_sem]⟩
theorem heldAt_iface (b : Nat) (T : Nat) (c : Array Value) (w : World) : Calls Try.prog 60 #[.map (some b), .iface T (.agg c)] w fun e w' =>
    e = .returned (.func (.func 98) #[] #[.pointer (some ⟨w.heap.size, 0, none⟩), .pointer (some ⟨w.heap.size + 1, 0, none⟩)]) ∧ Keeps w w' ∧
      w'.cell? ⟨w.heap.size, 0, none⟩ = some (.map (some b)) ∧ w'.cell? ⟨w.heap.size + 1, 0, none⟩ = some (.iface T (.agg c)) := by
  have hmf : ∀ (fn : Fn) (first cap : Array Value) (w : World), (Instr.makeFunc fn first cap).run Try.prog w = .ok (.func fn first cap) w := fun _ _ _ _ => rfl
  have k0 := ((Keeps.refl w).alloc (.cells #[.map (some b)] 80)).alloc (.cells #[.iface T (.agg c)] 95)
  go_enter Try.func60, Try.ntmps60
  go_wp2
  go_ret
  exact ⟨rfl, k0, by simp [go_sem], by simp [go_sem]⟩
theorem howLong_any (m : Int) (p : Pr) (w : World) : Calls Try.prog 52 #[pV m p] w (RetI p.1.1 w) := by
  unfold pV
  have k0 := (Keeps.refl w).alloc (.cells #[.int .i64 m, .int .i64 p.1.1, .int .i64 p.1.2] 85)
  go_enter Try.func52, Try.ntmps52
  go_wp2
  go_ret
  exact RetI.mk rfl k0
theorem howMuch_any (m : Int) (p : Pr) (w : World) : Calls Try.prog 57 #[pV m p] w (RetI p.1.2 w) := by
  unfold pV
  have k0 := (Keeps.refl w).alloc (.cells #[.int .i64 m, .int .i64 p.1.1, .int .i64 p.1.2] 85)
  go_enter Try.func57, Try.ntmps57
  go_wp2
  go_ret
  exact RetI.mk rfl k0
theorem span_any (lo hi : Int) (w : World) : Calls Try.prog 53 #[.agg #[.int .i64 lo, .int .i64 hi]] w (Ret (.agg #[.int .i64 lo, .int .i64 hi]) w) := by
  have k0 := ((Keeps.refl w).alloc (.cells #[.int .i64 lo, .int .i64 hi] 74)).alloc (.cells #[.int .i64 lo, .int .i64 hi] 23)
  go_enter Try.func53, Try.ntmps53
  go_wp2
  refine bodyPost_ret (v := .agg #[.int .i64 lo, .int .i64 hi]) ?_ rfl ⟨rfl, k0⟩
  simp [results, Try.results53, go_sem]

theorem foldl_perm (f : Int → Int → Int) (hf : ∀ a x y, f (f a x) y = f (f a y) x) {xs ys : List Int} (h : xs.Perm ys) : ∀ a, xs.foldl f a = ys.foldl f a := by
  induction h with
  | nil => exact fun _ => rfl
  | cons x _ ih => exact fun a => ih (f a x)
  | swap x y l => exact fun a => by simp only [List.foldl_cons]; rw [hf]
  | trans _ _ ih1 ih2 => exact fun a => (ih1 a).trans (ih2 a)
theorem loI_perm {xs ys : List Int} (h : xs.Perm ys) : loI xs = loI ys := foldl_perm min (fun a x y => by omega) h _
theorem hiI_perm {xs ys : List Int} (h : xs.Perm ys) : hiI xs = hiI ys := foldl_perm max (fun a x y => by omega) h _

theorem each_stops (n : Nat) (hn : 1 ≤ n) (b1 b2 b : Nat) (X : Nat → Prop) (m : Int) (m1 : 1 ≤ m) (m2 : m ≤ 100) (ps : List Pr) (T : Nat) (f : Pr → Int) (hT : ∀ args w, (callFunc T args).run Try.prog w = .ok (.enter T args) w) (hf : ∀ p w, Calls Try.prog T #[pV m p] w (RetI (f p) w)) (w : World)
    (hX : ∀ k, X k → k < w.heap.size) (hx1 : ¬ X b1) (hx2 : ¬ X b2) (hxb : ¬ X b) (h1 : w.cell? ⟨b1, 0, none⟩ = some (.map (some b))) (h2 : w.cell? ⟨b2, 0, none⟩ = some (.func (.func T) #[] #[])) (hP : Pset w b m ps) :
    SeqStopsK Fence.wide n Try.prog 97 #[.pointer (some ⟨b1, 0, none⟩), .pointer (some ⟨b2, 0, none⟩)] (fun x : Int => #[.int .i64 x]) (KeepX X) (fun ys => ∃ qs : List Pr, qs.Perm ps ∧ ys = qs.map f) (fun _ => True) ps.length w := by
  intro l J Jx W hW hJ _ hY h0
  have k : Keeps w W := hW
  exact each1_in n hn l b1 b2 b X m m1 m2 ps T f hT hf J Jx hY W hJ (fun q hq => Nat.lt_of_lt_of_le (hX q hq) k.size) hx1 hx2 hxb (k.cell h1) (k.cell h2) (hP.keep k) h0
theorem shown_stops (n : Nat) (hn : 1 ≤ n) (b1 b2 b : Nat) (X : Nat → Prop) (m : Int) (m1 : 1 ≤ m) (m2 : m ≤ 100) (ps : List Pr) (lo hi : Int) (hlo : -101 ≤ lo) (hhi : hi ≤ 101) (w : World)
    (hX : ∀ k, X k → k < w.heap.size) (hx1 : ¬ X b1) (hx2 : ¬ X b2) (hxb : ¬ X b) (h1 : w.cell? ⟨b1, 0, none⟩ = some (.map (some b))) (h2 : w.cell? ⟨b2, 0, none⟩ = some (.int .i64 lo)) (h3 : w.cell? ⟨b2, 1, none⟩ = some (.int .i64 hi)) (hP : Pset w b m ps) :
    SeqStopsK Fence.wide n Try.prog 101 #[.pointer (some ⟨b1, 0, none⟩), .pointer (some ⟨b2, 0, none⟩)] (fun x : Int => #[.int .i64 x]) (KeepX X) (fun ys => ∃ qs : List Pr, qs.Perm ps ∧ ys = qs.flatMap (fun p => shTo m lo p (hi + 1 - lo).toNat)) (fun _ => True) (ps.length * (hi + 1 - lo).toNat) w := by
  intro l J Jx W hW hJ _ hY h0
  have k : Keeps w W := hW
  exact shown1_in n hn l b1 b2 b X m m1 m2 ps lo hi hlo hhi _ rfl J Jx hY W hJ (fun q hq => Nat.lt_of_lt_of_le (hX q hq) k.size) hx1 hx2 hxb (k.cell h1) (k.cell h2) (k.cell h3) (hP.keep k) h0
theorem enter_each1 (args : Array Value) (w : World) : (callFunc 97 args).run Try.prog w = .ok (.enter 97 args) w := enters_of Try.func97 (by kernel_rfl) rfl args w
theorem enter_shown1 (args : Array Value) (w : World) : (callFunc 101 args).run Try.prog w = .ok (.enter 101 args) w := enters_of Try.func101 (by kernel_rfl) rfl args w
theorem enter_held1 (args : Array Value) (w : World) : (callFunc 98 args).run Try.prog w = .ok (.enter 98 args) w := enters_of Try.func98 (by kernel_rfl) rfl args w
theorem enter_howLong (args : Array Value) (w : World) : (callFunc 52 args).run Try.prog w = .ok (.enter 52 args) w := enters_of Try.func52 (by kernel_rfl) rfl args w
theorem enter_howMuch (args : Array Value) (w : World) : (callFunc 57 args).run Try.prog w = .ok (.enter 57 args) w := enters_of Try.func57 (by kernel_rfl) rfl args w
theorem reach_each (b1 b2 b : Nat) (m : Int) (m1 : 1 ≤ m) (m2 : m ≤ 100) (ps : List Pr) (T : Nat) (f : Pr → Int) (hT : ∀ args w, (callFunc T args).run Try.prog w = .ok (.enter T args) w) (hf : ∀ p w, Calls Try.prog T #[pV m p] w (RetI (f p) w)) (w : World)
    (h1 : w.cell? ⟨b1, 0, none⟩ = some (.map (some b))) (h2 : w.cell? ⟨b2, 0, none⟩ = some (.func (.func T) #[] #[])) (hP : Pset w b m ps) :
    Calls Try.prog 49 #[.func (.func 97) #[] #[.pointer (some ⟨b1, 0, none⟩), .pointer (some ⟨b2, 0, none⟩)]] w (Ret (.agg #[.int .i64 (loI (ps.map f)), .int .i64 (hiI (ps.map f))]) w) := by
  have l1 := lt_of_cell h1
  have l2 := lt_of_cell h2
  have l3 := hP.lt
  refine reach_of 97 _ (fun ys => ∃ qs : List Pr, qs.Perm ps ∧ ys = qs.map f) (fun _ => True) ps.length _ _ w enter_each1 ?_ ?_
  · intro w0 k hz
    exact each_stops 3 (by omega) b1 b2 b _ m m1 m2 ps T f hT hf w0 (fun q hq => by omega) (by omega) (by omega) (by omega) (k.cell h1) (k.cell h2) (hP.keep k)
  · rintro ys ⟨qs, hq, rfl⟩
    exact ⟨loI_perm (hq.map f), hiI_perm (hq.map f)⟩
theorem reach_shown (b1 b2 b : Nat) (m : Int) (m1 : 1 ≤ m) (m2 : m ≤ 100) (ps : List Pr) (lo hi : Int) (hlo : -101 ≤ lo) (hhi : hi ≤ 101) (w : World)
    (h1 : w.cell? ⟨b1, 0, none⟩ = some (.map (some b))) (h2 : w.cell? ⟨b2, 0, none⟩ = some (.int .i64 lo)) (h3 : w.cell? ⟨b2, 1, none⟩ = some (.int .i64 hi)) (hP : Pset w b m ps) :
    Calls Try.prog 49 #[.func (.func 101) #[] #[.pointer (some ⟨b1, 0, none⟩), .pointer (some ⟨b2, 0, none⟩)]] w
      (Ret (.agg #[.int .i64 (loI (ps.flatMap (fun p => shTo m lo p (hi + 1 - lo).toNat))), .int .i64 (hiI (ps.flatMap (fun p => shTo m lo p (hi + 1 - lo).toNat)))]) w) := by
  have l1 := lt_of_cell h1
  have l2 := lt_of_cell h2
  have l3 := hP.lt
  refine reach_of 101 _ (fun ys => ∃ qs : List Pr, qs.Perm ps ∧ ys = qs.flatMap (fun p => shTo m lo p (hi + 1 - lo).toNat)) (fun _ => True) (ps.length * (hi + 1 - lo).toNat) _ _ w enter_shown1 ?_ ?_
  · intro w0 k hz
    exact shown_stops 3 (by omega) b1 b2 b _ m m1 m2 ps lo hi hlo hhi w0 (fun q hq => by omega) (by omega) (by omega) (by omega) (k.cell h1) (k.cell h2) (k.cell h3) (hP.keep k)
  · rintro ys ⟨qs, hq, rfl⟩
    exact ⟨loI_perm (hq.flatMap_right _), hiI_perm (hq.flatMap_right _)⟩
theorem reach_held (b1 b2 b : Nat) (m : Int) (m1 : 1 ≤ m) (m2 : m ≤ 100) (ps : List Pr) (r : Wr) (hr : okW r) (w : World)
    (h1 : w.cell? ⟨b1, 0, none⟩ = some (.map (some b))) (h2 : w.cell? ⟨b2, 0, none⟩ = some (rdV r)) (hP : Pset w b m ps) :
    Calls Try.prog 49 #[.func (.func 98) #[] #[.pointer (some ⟨b1, 0, none⟩), .pointer (some ⟨b2, 0, none⟩)]] w
      (Ret (.agg #[.int .i64 (loI (ps.flatMap (fun p => warms m p.1 r))), .int .i64 (hiI (ps.flatMap (fun p => warms m p.1 r)))]) w) := by
  have l1 := lt_of_cell h1
  have l2 := lt_of_cell h2
  have l3 := hP.lt
  refine reach_all 98 _ (fun ys => ∃ qs : List Pr, qs.Perm ps ∧ ys = qs.flatMap (fun p => warms m p.1 r)) (ps.length * (r.2.1 + 1 - r.1).toNat) _ _ w enter_held1 ?_ ?_
  · intro w0 k hz
    have h2' := k.cell h2
    unfold rdV at h2'
    split at h2'
    · rename_i he
      exact held_exact 3 (by omega) b1 b2 b _ m m1 m2 ps r hr he w0 (fun q hq => by omega) (by omega) (by omega) (by omega) (k.cell h1) h2' (hP.keep k)
    · exact held_vague 3 (by omega) b1 b2 b _ m m1 m2 ps r hr w0 (fun q hq => by omega) (by omega) (by omega) (by omega) (k.cell h1) h2' (hP.keep k)
  · rintro ys ⟨qs, hq, rfl⟩
    exact ⟨loI_perm (hq.flatMap_right _), hiI_perm (hq.flatMap_right _)⟩
end Go.Proofs.Ytmhpgjlegajpeaa
