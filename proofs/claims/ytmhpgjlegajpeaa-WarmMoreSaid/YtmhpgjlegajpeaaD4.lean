/-
  WARM: setsOf: the sets of so many of the first readings, in order.
  WARM: setsOf$1$1: the closure that calls itself.
  WARM: setsOf: its iterator's contract.
-/
import Derived.Test.YtmhpgjlegajpeaaA7
import Derived.Test.YtmhpgjlegajpeaaK
import Derived.Stop.RegionWithIn
import Derived.Deep.RegionWith
import Derived.Test.YtmhpgjlegajpeaaB7
import Derived.Test.YtmhpgjlegajpeaaR2
import Derived.Laws.EntriesVeiled
namespace Go.Proofs.Ytmhpgjlegajpeaa
open Go.RowKit Go.Shelf
attribute [local go_sem] Oper.semAt_some

/-- The sets of m more of the readings below b, with those of s, in order. -/
def growL : Nat → Nat → Nat → List Nat
  | 0, s, m => if 0 < m then [] else [s]
  | b + 1, s, m => if b + 1 < m then [] else growL b s m ++ (if m = 0 then [] else growL b (s ||| 2 ^ b) (m - 1))
theorem growL_long {b s m : Nat} (h : b < m) : growL b s m = [] := by
  cases b <;> simp [growL, h]
theorem growL_base (s : Nat) : growL 0 s 0 = [s] := by simp [growL]
theorem growL_step0 (b s : Nat) : growL (b + 1) s 0 = growL b s 0 := by simp [growL]
theorem growL_step {b s m : Nat} (h : m ≤ b) : growL (b + 1) s (m + 1) = growL b s (m + 1) ++ growL b (s ||| 2 ^ b) m := by
  rw [growL, if_neg (by omega), if_neg (by omega), Nat.add_sub_cancel]
theorem growL_lt {b : Nat} (hb : b ≤ 5) : ∀ s m, s < 32 → ∀ x ∈ growL b s m, x < 32 := by
  induction b with
  | zero =>
    intro s m hs x hx
    rw [growL] at hx
    split at hx
    · cases hx
    · rw [List.mem_singleton] at hx; omega
  | succ b ih =>
    intro s m hs x hx
    rw [growL] at hx
    split at hx
    · cases hx
    · rcases List.mem_append.1 hx with h | h
      · exact ih (by omega) s m hs x h
      · split at h
        · cases h
        · refine ih (by omega) _ _ ?_ x h
          have h2 : 2 ^ b < 2 ^ 5 := Nat.pow_lt_pow_right (by omega) (by omega)
          exact Nat.or_lt_two_pow (n := 5) (by omega) h2
/-- How many of the first five readings a set has. -/
def popW (s : Nat) : Nat := (List.range 5).foldl (fun n i => n + s / 2 ^ i % 2) 0
theorem growL_eq : ∀ n, n < 6 → ∀ m, m < 6 → growL n 0 m = (List.range (2 ^ n)).filter (fun x => popW x == m) := by decide +kernel
theorem yieldAt_wide {n m : Nat} {P : Program} {l : Nat} {args : Array Value} {W : World} {R : Ending → World → Prop} (h : YieldAt Fence.wide n P l args W R) : YieldAt Fence.wide m P l args W R :=
  let ⟨fn, tmps, assign, body, e, r⟩ := h
  ⟨fn, tmps, assign, body, e, ⟨r.1, fun c cs _ => r.2 c cs (room_wide _)⟩⟩
end Go.Proofs.Ytmhpgjlegajpeaa

namespace Go.Proofs.Ytmhpgjlegajpeaa
open Go.RowKit Go.Shelf
attribute [local go_sem] Oper.semAt_some

theorem enter_grow (args : Array Value) (w : World) : (callFunc 115 args).run Try.prog w = .ok (.enter 115 args) w := enters_of Try.func115 (by kernel_rfl) rfl args w
theorem or_bits : ∀ s : Nat, s < 32 → ∀ b : Nat, b < 5 → bits BinOp.or IntKind.i64 (s : Int) (wrap64 (2 ^ b)) = ((s ||| 2 ^ b : Nat) : Int) := by decide +kernel
theorem or_lt : ∀ s : Nat, s < 32 → ∀ b : Nat, b < 5 → s ||| 2 ^ b < 32 := by decide +kernel
def grF (by_ bg : Nat) : Value := .func (.func 115) #[] #[.pointer (some ⟨by_, 0, none⟩), .pointer (some ⟨bg, 0, none⟩)]

set_option maxHeartbeats 3200000 in
theorem grow_in (l by_ bg : Nat) (X : Nat → Prop) (N B0 : Nat) (J Jx : List Nat → World → Prop) (hJ : AbidesFrom B0 J)
    (hY : ∀ n pre x W, x < 32 → J pre W → pre.length < N → YieldAt Fence.wide n Try.prog l #[.int .i64 ((x : Nat) : Int)] W fun e W' =>
      (e = .returned (.bool true) ∧ J (pre ++ [x]) W' ∧ KeepX X W W') ∨ (e = .returned (.bool false) ∧ Jx (pre ++ [x]) W')) (hxy : ¬ X by_) (hxg : ¬ X bg) :
    ∀ b : Nat, b ≤ 5 → ∀ (n s m : Nat) (pre : List Nat) (W : World), s < 32 → m ≤ 6 → J pre W → pre.length + (growL b s m).length ≤ N →
      W.cell? ⟨by_, 0, none⟩ = some (.func (.yield l) #[] #[]) → W.cell? ⟨bg, 0, none⟩ = some (grF by_ bg) →
      CallsIn Fence.wide n Try.prog 115 #[.int .i64 ((s : Nat) : Int), .int .i64 ((b : Nat) : Int), .int .i64 ((m : Nat) : Int), .pointer (some ⟨by_, 0, none⟩), .pointer (some ⟨bg, 0, none⟩)] W fun e W' =>
        (e = .returned (.bool true) ∧ J (pre ++ growL b s m) W' ∧ KeepX X W W') ∨ (e = .returned (.bool false) ∧ ∃ q, q <+: growL b s m ∧ Jx (pre ++ q) W') := by
  have HY := Lib.hid hY
  have HJ := Lib.hid hJ
  have HX1 := Lib.hid hxy
  have HX2 := Lib.hid hxg
  clear hY hJ hxy hxg
  have hfw : ∀ f, Fence.wide.fn f := fun _ => trivial
  have hen := enter_grow
  have hmx : Try.prog.follows .mixedOrders = true := by kernel_rfl
  intro b
  induction b with
  | zero =>
    intro hb n s m pre W hs hm h0 hN c1 c2
    unfold grF at c2
    have hl1 := lt_of_cell c1
    have hl2 := lt_of_cell c2
    refine (callsIn_wide (n := 3)).1 ?_ |> (callsIn_wide (n := n)).2
    refine callsIn_of_wp Try.func115 rfl trivial ?_
    simp only [Try.ntmps115, List.size_toArray, List.length_cons, List.length_nil, Nat.reduceAdd, Nat.reduceSub, Array.replicate_succ, Array.replicate_zero, List.push_toArray, List.append_toArray, List.nil_append, List.cons_append]
    rcases Nat.eq_zero_or_pos m with rfl | hm0
    · rw [growL_base] at hN ⊢
      obtain ⟨fn, tmps, assign, body, hy, hR⟩ := HY.out (3 - 1) pre s W hs h0 (by simp at hN; omega)
      clear h0
      gi_wp2_with fail
      refine hR.mono ?_
      rintro e W3 (⟨rfl, hJ3, hk3⟩ | ⟨rfl, hJx3⟩)
      · gi_wp2_with fail
        go_ret
        exact .inl ⟨rfl, hJ3, hk3⟩
      · gi_wp2_with fail
        go_ret
        exact .inr ⟨rfl, _, List.prefix_refl _, hJx3⟩
    · have hd : decide ((0 : Int) < (m : Int)) = true := by simpa using hm0
      rw [growL_long hm0]
      gi_wp2_with fail
      go_ret
      exact .inl ⟨rfl, by rw [List.append_nil]; exact h0, KeepX.refl _ _⟩
  | succ b ih =>
    intro hb n s m pre W hs hm h0 hN c1 c2
    have IH := Lib.hid (fun s m pre W hs hm h0 hN c1 c2 => ih (by omega) 2 s m pre W hs hm h0 hN c1 c2)
    have C2 := Lib.hid c2
    unfold grF at c2
    have hl1 := lt_of_cell c1
    have hl2 := lt_of_cell c2
    clear ih
    refine (callsIn_wide (n := 3)).1 ?_ |> (callsIn_wide (n := n)).2
    refine callsIn_of_wp Try.func115 rfl trivial ?_
    simp only [Try.ntmps115, List.size_toArray, List.length_cons, List.length_nil, Nat.reduceAdd, Nat.reduceSub, Array.replicate_succ, Array.replicate_zero, List.push_toArray, List.append_toArray, List.nil_append, List.cons_append]
    obtain ⟨z, hz⟩ : ∃ z : Int, ((b + 1 : Nat) : Int) = z := ⟨_, rfl⟩
    have hz1 : IntKind.i64.wrap (z - 1) = (b : Int) := by rw [← hz, show ((b + 1 : Nat) : Int) - 1 = b by omega]; exact IntWalk.i64_in _ (by constructor <;> omega)
    have hz0 : (z == 0) = false := by rw [beq_eq_false_iff_ne]; omega
    rw [hz]
    obtain ⟨y, hy⟩ : ∃ y : Int, ((m : Nat) : Int) = y := ⟨_, rfl⟩
    rw [hy]
    by_cases hmb : b + 1 < m
    · have hd : decide (z < y) = true := by simp; omega
      rw [growL_long hmb]
      clear hz hy
      gi_wp2_with fail
      go_ret
      exact .inl ⟨rfl, by rw [List.append_nil]; exact h0, KeepX.refl _ _⟩
    · have hd : decide (z < y) = false := by simp; omega
      clear hz
      cases m with
      | zero =>
        have hy0 : (y == 0) = true := by rw [beq_iff_eq]; omega
        rw [growL_step0] at hN ⊢
        have I1 := Lib.hid (IH.out s 0 pre W hs (by omega) h0 hN c1 C2.out)
        rw [hy] at I1
        clear h0 hy
        gi_wp2_with fail
        refine I1.out.mono ?_
        rintro e W3 (⟨rfl, hJ3, hk3⟩ | ⟨rfl, q, hq, hJx3⟩)
        · have d1 := hk3.cell c1 HX1.out
          have d2 := hk3.cell c2 HX2.out
          have J3 := Lib.hid hJ3
          have k3d := (Keeps.refl W3).drew
          clear hJ3
          gi_wp2_with fail
          haveI : Nonempty (Since W3) := Since.some _
          refine region_keep (F := Fence.wide) (fun w' => ∃ q : Since W3, w' = q.W) ⟨⟨_, k3d⟩, rfl⟩ (by kernel_rfl) hmx (by kernel_rfl) ?_
          repeat (gi_big_quiet_step (fail))
          refine wpQuietIn_nil ?_
          rintro _ ⟨⟨w', k4⟩, rfl⟩
          gi_wp2_with fail
          go_ret
          exact .inl ⟨rfl, HJ.out _ W3 _ none J3.out (k4.grown none) (fun r e => by cases e), hk3.trans (KeepX.of_keeps k4)⟩
        · gi_wp2_with fail
          go_ret
          exact .inr ⟨rfl, q, hq, hJx3⟩
      | succ m =>
        have hy0 : (y == 0) = false := by rw [beq_eq_false_iff_ne]; omega
        have hy1 : IntKind.i64.wrap (y - 1) = (m : Int) := by rw [← hy, show ((m + 1 : Nat) : Int) - 1 = m by omega]; exact IntWalk.i64_in _ (by constructor <;> omega)
        rw [growL_step (by omega)] at hN ⊢
        have I1 := Lib.hid (IH.out s (m + 1) pre W hs (by omega) h0 (by rw [List.length_append] at hN; omega) c1 C2.out)
        rw [hy] at I1
        clear h0 hy
        gi_wp2_with fail
        refine I1.out.mono ?_
        rintro e W3 (⟨rfl, hJ3, hk3⟩ | ⟨rfl, q, hq, hJx3⟩)
        · have d1 := hk3.cell c1 HX1.out
          have d2 := hk3.cell c2 HX2.out
          have hn3 : 1 ≤ 3 := by omega
          have HJ3 := Lib.hid hJ3
          have HK3 := Lib.hid hk3
          haveI : Nonempty (Since W3) := Since.some _
          have e1 : ∀ q : Since W3, q.W.cell? ⟨by_, 0, none⟩ = some (.func (.yield l) #[] #[]) := fun q => q.keeps.cell d1
          have e2 : ∀ q : Since W3, q.W.cell? ⟨bg, 0, none⟩ = some (grF by_ bg) := fun q => q.keeps.cell d2
          unfold grF at e2
          clear hJ3 hk3
          gi_wp2_with fail
          refine region_call (F := Fence.wide) 13 (fun w' => ∃ q : Since W3, w' = q.W) ⟨⟨_, (Keeps.refl _).drew⟩, rfl⟩ (by kernel_rfl) hmx (by kernel_rfl) (by kernel_rfl) ?_
          dsimp only [List.take_succ_cons, List.take_zero, List.drop_succ_cons, List.drop_zero]
          iterate 13 (gi_big_quiet_step (fail))
          refine wpQuietIn_nil ?_
          rintro _ ⟨q4, rfl⟩
          have k4 := q4.keeps
          have I2 := Lib.hid (IH.out (s ||| 2 ^ b) m (pre ++ growL b s (m + 1)) q4.W (or_lt s hs b hb) (by omega) (HJ.out _ W3 _ none HJ3.out (k4.grown none) (fun r e => by cases e)) (by rw [List.length_append] at hN ⊢; omega) (k4.cell d1) (k4.cell d2))
          rw [or_bits s hs b (by omega)]
          have e1 := k4.cell d1
          have e2 := k4.cell d2
          change wpListIn _ _ _ _ _ [_, _, _] _ _
          gi_wp2_with fail
          refine I2.out.mono ?_
          rintro e W5 (⟨rfl, hJ5, hk5⟩ | ⟨rfl, q, hq, hJx5⟩)
          · gi_wp2_with fail
            go_ret
            exact .inl ⟨rfl, by rw [← List.append_assoc]; exact hJ5, (HK3.out.trans (KeepX.of_keeps k4)).trans hk5⟩
          · gi_wp2_with fail
            go_ret
            exact .inr ⟨rfl, _, (List.prefix_append_right_inj _).2 hq, by rw [← List.append_assoc]; exact hJx5⟩
        · gi_wp2_with fail
          go_ret
          exact .inr ⟨rfl, q, hq.trans (List.prefix_append _ _), hJx3⟩
end Go.Proofs.Ytmhpgjlegajpeaa

namespace Go.Proofs.Ytmhpgjlegajpeaa
open Go.RowKit Go.Shelf
attribute [local go_sem] Oper.semAt_some

set_option maxHeartbeats 1600000 in
theorem setsOf_stops (n : Nat) (b1 b2 : Nat) (X : Nat → Prop) (m c : Nat) (hm : m ≤ 5) (hc : c ≤ 6) (w : World) (hX : ∀ k, X k → k < w.heap.size)
    (h1 : w.cell? ⟨b1, 0, none⟩ = some (.int .i64 ((m : Nat) : Int))) (h2 : w.cell? ⟨b2, 0, none⟩ = some (.int .i64 ((c : Nat) : Int))) :
    SeqStopsK Fence.wide n Try.prog 114 #[.pointer (some ⟨b1, 0, none⟩), .pointer (some ⟨b2, 0, none⟩)] (fun x : Fin 32 => #[.int .i64 ((x.val : Nat) : Int)]) (KeepX X) (fun ys => ys.map (·.val) = growL m 0 c) (fun pre => pre.map (·.val) <+: growL m 0 c) (growL m 0 c).length w := by
  intro l J Jx W hW hJ _ hY h0
  have kW : Keeps w W := hW
  have c1 := kW.cell h1
  have c2 := kW.cell h2
  have hWs := kW.size
  have G := Lib.hid (fun W1 h0 c1 c2 => grow_in l W.heap.size (W.heap.size + 1) X (growL m 0 c).length W.heap.size (fun ls W2 => ∃ ys : List (Fin 32), ys.map (·.val) = ls ∧ J ys W2) (fun ls W2 => ∃ ys : List (Fin 32), ys.map (·.val) = ls ∧ Jx ys W2)
    (fun ls A C row hs hg hr => by obtain ⟨ys, e, h⟩ := hs; exact ⟨ys, e, hJ ys A C row h hg hr⟩)
    (fun n' pre x W1 hx hj hl => by
      obtain ⟨ys, rfl, hj⟩ := hj
      obtain ⟨fn, tmps, assign, body, e1, e2⟩ := hY ys ⟨x, hx⟩ W1 hj (by simpa using hl)
      refine yieldAt_wide (n := n - 1) ⟨fn, tmps, assign, body, e1, e2.mono ?_⟩
      rintro e W' (⟨rfl, h1, h2⟩ | ⟨rfl, h1⟩)
      · exact .inl ⟨rfl, ⟨_, by simp, h1⟩, h2⟩
      · exact .inr ⟨rfl, _, by simp, h1⟩) (fun h => by have := hX _ h; omega) (fun h => by have := hX _ h; omega)
    m hm 2 0 c [] W1 (by omega) hc ⟨[], rfl, h0⟩ (by simp) c1 c2)
  have HJ := Lib.hid hJ
  have H0 := Lib.hid h0
  have hl1 := lt_of_cell c1
  have hl2 := lt_of_cell c2
  clear hY hJ h0 hX h1 h2 hW
  have hfw : ∀ f, Fence.wide.fn f := fun _ => trivial
  have hen := enter_grow
  have hmf : ∀ (fn : Fn) (first cap : Array Value) (w : World), (Instr.makeFunc fn first cap).run Try.prog w = .ok (.func fn first cap) w := fun _ _ _ _ => rfl
  refine (callsIn_wide (n := n)).2 ((callsIn_wide (n := 3)).1 ?_)
  refine callsIn_of_wp Try.func114 rfl trivial ?_
  simp only [Try.ntmps114, List.size_toArray, List.length_cons, List.length_nil, Nat.reduceAdd, Nat.reduceSub, Array.replicate_succ, Array.replicate_zero, List.push_toArray, List.append_toArray, List.nil_append, List.cons_append]
  gi_wp2_with fail
  have k0 := ((Keeps.refl W).alloc (.cells #[.func (.yield l) #[] #[]] 151)).alloc (.cells #[.func (.func 115) #[] #[.pointer (some ⟨W.heap.size, 0, none⟩), .pointer (some ⟨W.heap.size + 1, 0, none⟩)]] 152)
  refine (G.out _ (HJ.out _ W _ none H0.out (k0.grown none) (fun r e => by cases e)) (by simp [go_sem]) (by simp [go_sem, grF])).mono ?_
  rintro e W3 (⟨rfl, hJ3, _⟩ | ⟨rfl, q, hq, hJx3⟩)
  · gi_wp2_with fail
    refine bodyPost_end (results_none rfl _ _ _) rfl ?_
    obtain ⟨ys, e, hJ3⟩ := hJ3
    exact ⟨⟨_, rfl⟩, .inl ⟨ys, e, hJ3⟩⟩
  · gi_wp2_with fail
    refine bodyPost_end (results_none rfl _ _ _) rfl ?_
    obtain ⟨ys, e, hJx3⟩ := hJx3
    exact ⟨⟨_, rfl⟩, .inr ⟨ys, by rw [e]; exact hq, hJx3⟩⟩
theorem setsOf_any (s r : Int) (w : World) : Calls Try.prog 106 #[.int .i64 s, .int .i64 r] w fun e w' => e = .returned (.func (.func 114) #[] #[.pointer (some ⟨w.heap.size + 1, 0, none⟩), .pointer (some ⟨w.heap.size, 0, none⟩)]) ∧ Keeps w w' ∧
    w'.cell? ⟨w.heap.size + 1, 0, none⟩ = some (.int .i64 r) ∧ w'.cell? ⟨w.heap.size, 0, none⟩ = some (.int .i64 s) := by
  have hmf : ∀ (fn : Fn) (first cap : Array Value) (w : World), (Instr.makeFunc fn first cap).run Try.prog w = .ok (.func fn first cap) w := fun _ _ _ _ => rfl
  have k0 := ((Keeps.refl w).alloc (.cells #[.int .i64 s] 3)).alloc (.cells #[.int .i64 r] 3)
  go_enter Try.func106, Try.ntmps106
  go_wp2
  go_ret
  exact ⟨rfl, k0, by simp [go_sem], by simp [go_sem]⟩
end Go.Proofs.Ytmhpgjlegajpeaa
