/-
  A PAIR THAT CAME IN, OPENED.
  LAW: is a pair valid; what a comparator shows.
-/
import Derived.Test.YtmiobcnccbfknaaHZk
import Derived.Test.YtmiobcnccbfknaaGb
import Derived.Test.YtmiobcnccbfknaaGd
import Derived.Deep.Slices
import Derived.Deep.Fields
import Derived.Test.YtmiobcnccbfknaaGi
namespace Go.Proofs.Ytmiobcnccbfknaa
open Go.ChangeShapes Go.WideShapes Go.ChangeAt Go.RowKit Go.Proofs.Try

theorem cells_27 : Try.prog.cellsOf 27 = 1 := by kernel_rfl
theorem cells_23 : Try.prog.cellsOf 23 = 2 := by kernel_rfl
theorem cells_3 : Try.prog.cellsOf 3 = 1 := by kernel_rfl
theorem open_f23 {H : Type} {enc : TypeId × Value → H} {W : World} {base : Nat} {spare : Nat → Bool} {held : Bool} {n : Nat} {c0 c1 : Value} {y : DataW H × List MemPlace} (h : DataW.trod enc Try.prog W base spare held n 23 [c0, c1] = some y) : ∃ (x0 : Int) (x1 : Int), c0 = .int .i64 x0 ∧ c1 = .int .i64 x1 := by
  obtain ⟨xs, m, _, _, _, hlen, hg⟩ := DataW.trod_struct Try.underlying23 h
  have g0 := hg 0 _ rfl
  have g1 := hg 1 _ rfl
  match xs, hlen with
  | [y0, y1], _ =>
    simp [cells_3] at g0 g1
    obtain ⟨x0, h0, _, _⟩ := DataW.trod_int Try.underlying3 g0
    obtain ⟨x1, h1, _, _⟩ := DataW.trod_int Try.underlying3 g1
    exact ⟨x0, x1, by simpa using h0, by simpa using h1⟩
theorem listN2 {α : Type} {l : List α} (h : l.length = 2) : ∃ x0 x1, l = [x0, x1] := by
  rcases l with _ | ⟨x0, _ | ⟨x1, _ | ⟨z, l⟩⟩⟩ <;> simp at h
  exact ⟨x0, x1, rfl⟩
set_option maxRecDepth 100000 in
theorem open_r27 {H : Type} {enc : TypeId × Value → H} {W : World} {held : Bool} {n : Nat} {c : Value} {y : DataW H × List MemPlace} (h : DataW.trod enc Try.prog W 0 (fun _ => true) held n 27 [c] = some y) : ∃ (a : Option Addr) (rs : List (Int × Int)) (cap : Nat), c = .slice a rs.length cap ∧ Bls W a rs ∧ rs.length ≤ maxLen := by
  rcases Go.Deep.open_slice Try.underlying27 h with ⟨h0, _⟩ | ⟨a, len, cap, m, n', D, Pl, hc, _, hlc, hcm, hm, _, hi⟩
  · exact ⟨none, [], 0, by simpa using h0, fun h => absurd rfl h, by simp⟩
  · simp only [if_true] at hm
    have hel : ∀ i, i < len → ∃ r : (Int × Int), W.cell? (a.add (i * 2)) = some (.int .i64 r.1) ∧ W.cell? (a.add (i * 2 + 1)) = some (.int .i64 r.2) := by
      intro i hil
      obtain ⟨cs', hc', ht'⟩ := hi i (by omega)
      rw [cells_23] at hc'
      obtain ⟨_, hcl, hat⟩ := World.cells?_some hc'
      obtain ⟨c0, c1, rfl⟩ := listN2 hcl
      obtain ⟨x0, x1, rfl, rfl⟩ := open_f23 ht'
      have e : ∀ k, (a.add (i * 2)).add k = a.add (i * 2 + k) := fun k => Go.Deep.add_add a _ k
      exact ⟨(x0, x1), by have := hat 0 (by omega); rw [e] at this; simpa using this, by have := hat 1 (by omega); rw [e] at this; simpa using this⟩
    have hex : ∀ k, k ≤ len → ∃ rs : List (Int × Int), rs.length = k ∧ ∀ i, i < k → W.cell? (a.add (i * 2)) = some (.int .i64 (rs[i]?.getD (0, 0)).1) ∧ W.cell? (a.add (i * 2 + 1)) = some (.int .i64 (rs[i]?.getD (0, 0)).2) := by
      intro k
      induction k with
      | zero => intro _; exact ⟨[], rfl, fun i hi => absurd hi (by omega)⟩
      | succ k ih =>
        intro hk
        obtain ⟨rs, hl, hr⟩ := ih (by omega)
        obtain ⟨r, h1⟩ := hel k (by omega)
        refine ⟨rs ++ [r], by simp [hl], fun i hi => ?_⟩
        by_cases e : i = k
        · subst e
          rw [List.getElem?_append_right (by omega), hl, Nat.sub_self]
          exact h1
        · rw [List.getElem?_append_left (by omega)]
          exact hr i (by omega)
    obtain ⟨rs, hl, hr⟩ := hex len (Nat.le_refl _)
    refine ⟨some a, rs, cap, by rw [hl]; simpa using hc, fun hne => ?_, by omega⟩
    have hpos := List.length_pos_iff.2 hne
    obtain ⟨b, o, spot⟩ := a
    have hspot : spot = none := by simpa [Addr.add] using World.cell?_spot (hr 0 (by omega)).1
    subst hspot
    exact ⟨b, o, rfl, fun i hi => by
      have := hr i (by omega)
      rw [add_none, add_none] at this
      exact this⟩
theorem cells_28 : Try.prog.cellsOf 28 = 1 := by kernel_rfl
theorem cells_38 : Try.prog.cellsOf 38 = 5 := by kernel_rfl
theorem open_f38 {H : Type} {enc : TypeId × Value → H} {W : World} {base : Nat} {spare : Nat → Bool} {held : Bool} {n : Nat} {c0 c1 c2 c3 c4 : Value} {y : DataW H × List MemPlace} (h : DataW.trod enc Try.prog W base spare held n 38 [c0, c1, c2, c3, c4] = some y) : ∃ (x0 : Int) (x1 : Int) (x2 : Int) (x3 : Int) (x4 : Int), c0 = .int .i64 x0 ∧ c1 = .int .i64 x1 ∧ c2 = .int .i64 x2 ∧ c3 = .int .i64 x3 ∧ c4 = .int .i64 x4 := by
  obtain ⟨xs, m, _, _, _, hlen, hg⟩ := DataW.trod_struct Try.underlying38 h
  have g0 := hg 0 _ rfl
  have g1 := hg 1 _ rfl
  have g2 := hg 2 _ rfl
  have g3 := hg 3 _ rfl
  match xs, hlen with
  | [y0, y1, y2, y3], _ =>
    simp [cells_3, cells_23] at g0 g1 g2 g3
    obtain ⟨x0, h0, _, _⟩ := DataW.trod_int Try.underlying3 g0
    obtain ⟨x1, h1, _, _⟩ := DataW.trod_int Try.underlying3 g1
    obtain ⟨x2, h2, _, _⟩ := DataW.trod_int Try.underlying3 g2
    obtain ⟨x3, x4, rfl, rfl⟩ := open_f23 g3
    exact ⟨x0, x1, x2, x3, x4, by simpa using h0, by simpa using h1, by simpa using h2, rfl, rfl⟩
theorem listN5 {α : Type} {l : List α} (h : l.length = 5) : ∃ x0 x1 x2 x3 x4, l = [x0, x1, x2, x3, x4] := by
  rcases l with _ | ⟨x0, _ | ⟨x1, _ | ⟨x2, _ | ⟨x3, _ | ⟨x4, _ | ⟨z, l⟩⟩⟩⟩⟩⟩ <;> simp at h
  exact ⟨x0, x1, x2, x3, x4, rfl⟩
set_option maxRecDepth 100000 in
theorem open_r28 {H : Type} {enc : TypeId × Value → H} {W : World} {held : Bool} {n : Nat} {c : Value} {y : DataW H × List MemPlace} (h : DataW.trod enc Try.prog W 0 (fun _ => true) held n 28 [c] = some y) : ∃ (a : Option Addr) (rs : List Rw) (cap : Nat), c = .slice a rs.length cap ∧ Rds W a rs ∧ rs.length ≤ maxLen := by
  rcases Go.Deep.open_slice Try.underlying28 h with ⟨h0, _⟩ | ⟨a, len, cap, m, n', D, Pl, hc, _, hlc, hcm, hm, _, hi⟩
  · exact ⟨none, [], 0, by simpa using h0, fun h => absurd rfl h, by simp⟩
  · simp only [if_true] at hm
    have hel : ∀ i, i < len → ∃ r : Rw, W.cell? (a.add (i * 5)) = some (.int .i64 r.1) ∧ W.cell? (a.add (i * 5 + 1)) = some (.int .i64 r.2.1) ∧ W.cell? (a.add (i * 5 + 2)) = some (.int .i64 r.2.2.1) ∧ W.cell? (a.add (i * 5 + 3)) = some (.int .i64 r.2.2.2.1) ∧ W.cell? (a.add (i * 5 + 4)) = some (.int .i64 r.2.2.2.2) := by
      intro i hil
      obtain ⟨cs', hc', ht'⟩ := hi i (by omega)
      rw [cells_38] at hc'
      obtain ⟨_, hcl, hat⟩ := World.cells?_some hc'
      obtain ⟨c0, c1, c2, c3, c4, rfl⟩ := listN5 hcl
      obtain ⟨x0, x1, x2, x3, x4, rfl, rfl, rfl, rfl, rfl⟩ := open_f38 ht'
      have e : ∀ k, (a.add (i * 5)).add k = a.add (i * 5 + k) := fun k => Go.Deep.add_add a _ k
      exact ⟨(x0, x1, x2, x3, x4), by have := hat 0 (by omega); rw [e] at this; simpa using this, by have := hat 1 (by omega); rw [e] at this; simpa using this, by have := hat 2 (by omega); rw [e] at this; simpa using this, by have := hat 3 (by omega); rw [e] at this; simpa using this, by have := hat 4 (by omega); rw [e] at this; simpa using this⟩
    have hex : ∀ k, k ≤ len → ∃ rs : List Rw, rs.length = k ∧ ∀ i, i < k → W.cell? (a.add (i * 5)) = some (.int .i64 (rs[i]?.getD (0, 0, 0, 0, 0)).1) ∧ W.cell? (a.add (i * 5 + 1)) = some (.int .i64 (rs[i]?.getD (0, 0, 0, 0, 0)).2.1) ∧ W.cell? (a.add (i * 5 + 2)) = some (.int .i64 (rs[i]?.getD (0, 0, 0, 0, 0)).2.2.1) ∧ W.cell? (a.add (i * 5 + 3)) = some (.int .i64 (rs[i]?.getD (0, 0, 0, 0, 0)).2.2.2.1) ∧ W.cell? (a.add (i * 5 + 4)) = some (.int .i64 (rs[i]?.getD (0, 0, 0, 0, 0)).2.2.2.2) := by
      intro k
      induction k with
      | zero => intro _; exact ⟨[], rfl, fun i hi => absurd hi (by omega)⟩
      | succ k ih =>
        intro hk
        obtain ⟨rs, hl, hr⟩ := ih (by omega)
        obtain ⟨r, h1⟩ := hel k (by omega)
        refine ⟨rs ++ [r], by simp [hl], fun i hi => ?_⟩
        by_cases e : i = k
        · subst e
          rw [List.getElem?_append_right (by omega), hl, Nat.sub_self]
          exact h1
        · rw [List.getElem?_append_left (by omega)]
          exact hr i (by omega)
    obtain ⟨rs, hl, hr⟩ := hex len (Nat.le_refl _)
    refine ⟨some a, rs, cap, by rw [hl]; simpa using hc, fun hne => ?_, by omega⟩
    have hpos := List.length_pos_iff.2 hne
    obtain ⟨b, o, spot⟩ := a
    have hspot : spot = none := by simpa [Addr.add] using World.cell?_spot (hr 0 (by omega)).1
    subst hspot
    exact ⟨b, o, rfl, fun i hi => by
      have := hr i (by omega)
      rw [add_none, add_none, add_none, add_none, add_none] at this
      exact this⟩
theorem listN6 {α : Type} {l : List α} (h : l.length = 6) : ∃ x0 x1 x2 x3 x4 x5, l = [x0, x1, x2, x3, x4, x5] := by
  rcases l with _ | ⟨x0, _ | ⟨x1, _ | ⟨x2, _ | ⟨x3, _ | ⟨x4, _ | ⟨x5, _ | ⟨z, l⟩⟩⟩⟩⟩⟩⟩ <;> simp at h
  exact ⟨x0, x1, x2, x3, x4, x5, rfl⟩
theorem listN4 {α : Type} {l : List α} (h : l.length = 4) : ∃ x0 x1 x2 x3, l = [x0, x1, x2, x3] := by
  rcases l with _ | ⟨x0, _ | ⟨x1, _ | ⟨x2, _ | ⟨x3, _ | ⟨z, l⟩⟩⟩⟩⟩ <;> simp at h
  exact ⟨x0, x1, x2, x3, rfl⟩
theorem cells_30 : Try.prog.cellsOf 30 = 6 := by kernel_rfl
set_option maxRecDepth 100000 in
theorem open_pair {H : Type} {enc : TypeId × Value → H} {W : World} {held : Bool} {r : Reach} {b0 : Nat} {v : Value} {d : DataW H} {p : List MemPlace} (hv : Value.okWide Try.prog W r b0 30 v) (h : DataW.Trod enc Try.prog W 0 (fun _ => true) held 30 v d p) : ∃ B : Pr, v = B.v ∧ B.In W := by
  obtain ⟨cs, rfl, hsz⟩ := okWide_struct Try.underlying30 hv
  obtain ⟨l⟩ := cs
  obtain ⟨c0, c1, c2, c3, c4, c5, rfl⟩ := listN6 (hsz.trans cells_30)
  obtain ⟨fuel, hf⟩ := h
  obtain ⟨xs, n, _, _, _, hlen, hg⟩ := DataW.trod_struct Try.underlying30 hf
  have g0 := hg 0 _ rfl
  have g1 := hg 1 _ rfl
  have g2 := hg 2 _ rfl
  have g3 := hg 3 _ rfl
  obtain ⟨y0, y1, y2, y3, rfl⟩ := listN4 hlen
  simp [cells_27, cells_23, cells_28, Value.cells] at g0 g1 g2 g3
  obtain ⟨a0, l0, k0, rfl, hr0, hl0⟩ := open_r27 g0
  obtain ⟨x1, x2, rfl, rfl⟩ := open_f23 g1
  obtain ⟨x3, x4, rfl, rfl⟩ := open_f23 g2
  obtain ⟨a3, l3, k3, rfl, hr3, hl3⟩ := open_r28 g3
  exact ⟨⟨a0, k0, l0, x1, x2, x3, x4, a3, k3, l3⟩, rfl, ⟨hr0, hr3, hl0, hl3⟩⟩
end Go.Proofs.Ytmiobcnccbfknaa

namespace Go.Proofs.Ytmiobcnccbfknaa
open Go.RowKit Go.Proofs.Try


def inI (n a b : Int) : Bool := decide (a ≤ n ∧ n ≤ b)
set_option maxRecDepth 100000 in
theorem rin_any (n a b : Int) (w : World)  : Calls Try.prog 62 #[.int .i64 n, .int .i64 a, .int .i64 b] w (RetB (inI n a b) w) := by
  refine calls_run (fn := f62) (c := (f62.body).getD .skip) [.int .i64 n, .int .i64 a, .int .i64 b] func62 (by kernel_rfl) (fun _ => False) [] (fun _ h => by cases h) (List.Pairwise.nil) 15 (by kernel_rfl) (by simp) ?_
  cases hd1 : (decide (a ≤ n)) with
  | false =>
    have hp1 := of_decide_eq_false hd1
    refine run_auto [(9, .bool false)] 16 [] [] [6] [] (st' := ⟨[(6, .bool false)], []⟩) (acc := [(.bool (decide (a ≤ n)), .bool false)]) (by kernel_rfl) (by kernel_rfl) ⟨(bo hd1), trivial⟩ ?_
    refine run_end (fn := f62) rfl (Nat.le_refl _) (by kernel_rfl) [] [.bool false] (e := []) (by kernel_rfl) trivial (fun w1 k1 h1 => ?_)
    exact ⟨by simp only [resVal]; congr 2; simp only [inI]; simp; omega, k1.keeps (fun _ h => h)⟩
  | true =>
    have hp1 := of_decide_eq_true hd1
    cases hd2 : (decide (n ≤ b)) with
    | false =>
      have hp2 := of_decide_eq_false hd2
      refine run_auto [(9, .bool true), (13, .bool false)] 16 [] [] [6] [] (st' := ⟨[(6, .bool false)], []⟩) (acc := [(.bool (decide (n ≤ b)), .bool false), (.bool (decide (a ≤ n)), .bool true)]) (by kernel_rfl) (by kernel_rfl) ⟨(bo hd2), (bo hd1), trivial⟩ ?_
      refine run_end (fn := f62) rfl (Nat.le_refl _) (by kernel_rfl) [] [.bool false] (e := []) (by kernel_rfl) trivial (fun w1 k1 h1 => ?_)
      exact ⟨by simp only [resVal]; congr 2; simp only [inI]; simp; omega, k1.keeps (fun _ h => h)⟩
    | true =>
      have hp2 := of_decide_eq_true hd2
      refine run_auto [(9, .bool true), (13, .bool true)] 16 [] [] [6] [] (st' := ⟨[(6, .bool true)], []⟩) (acc := [(.bool (decide (n ≤ b)), .bool true), (.bool (decide (a ≤ n)), .bool true)]) (by kernel_rfl) (by kernel_rfl) ⟨(bo hd2), (bo hd1), trivial⟩ ?_
      refine run_end (fn := f62) rfl (Nat.le_refl _) (by kernel_rfl) [] [.bool true] (e := []) (by kernel_rfl) trivial (fun w1 k1 h1 => ?_)
      exact ⟨by simp only [resVal]; congr 2; simp only [inI]; simp; omega, k1.keeps (fun _ h => h)⟩

set_option maxRecDepth 100000 in
theorem rspan_any (lo hi m : Int) (h1 : 0 ≤ m) (h2 : m ≤ 1000) (w : World)  : Calls Try.prog 63 #[.agg #[.int .i64 lo, .int .i64 hi], .int .i64 m] w (RetB (inS lo hi (-m) m) w) := by
  refine calls_run (fn := f63) (c := (f63.body).getD .skip) [.agg #[.int .i64 lo, .int .i64 hi], .int .i64 m] func63 (by kernel_rfl) (fun _ => False) [] (fun _ h => by cases h) (List.Pairwise.nil) 23 (by kernel_rfl) (by simp) ?_
  refine run_auto [] 2 [] [] [0, 1] [] (st' := ⟨[(0, .agg #[.int .i64 lo, .int .i64 hi]), (1, .int .i64 m)], []⟩) (acc := []) (by kernel_rfl) (by kernel_rfl) trivial ?_
  refine run_new (.cells #[.int .i64 lo, .int .i64 hi] 23 (0, 0)) (fun b1 => .pointer (some ⟨b1, 0, none⟩)) (some 2) (fun _ => by kernel_rfl) (fun b1 hb1 => ?_)
  cases hd1 : (decide ((-m) ≤ lo)) with
  | false =>
    have hp1 := of_decide_eq_false hd1
    refine run_auto [(6, .int .i64 (-m)), (9, .bool false)] 24 [] [0] [4] [] (st' := ⟨[(4, .bool false)], []⟩) (acc := [(.bool (decide ((-m) ≤ lo)), .bool false), (.pointer (some ⟨b1, 0, none⟩), .pointer (some ⟨b1, 0, none⟩)), (.int .i64 (IntKind.i64.wrap (0 - m)), .int .i64 (-m))]) (by kernel_rfl) (by kernel_rfl) ⟨(bo hd1), rfl, ((wr (by omega) (by omega)).trans (io (by omega))), trivial⟩ ?_
    refine run_end (fn := f63) rfl (Nat.le_refl _) (by kernel_rfl) [] [.bool false] (e := []) (by kernel_rfl) trivial (fun w1 k1 h1 => ?_)
    exact ⟨by simp only [resVal]; congr 2; simp only [inS]; simp; omega, k1.keeps (fun _ h => h)⟩
  | true =>
    have hp1 := of_decide_eq_true hd1
    cases hd2 : (decide (lo ≤ hi)) with
    | false =>
      have hp2 := of_decide_eq_false hd2
      refine run_auto [(6, .int .i64 (-m)), (9, .bool true), (15, .bool false)] 24 [] [0, 0, 0] [4] [] (st' := ⟨[(4, .bool false)], []⟩) (acc := [(.bool (decide (lo ≤ hi)), .bool false), (.pointer (some ⟨b1, 0, none⟩), .pointer (some ⟨b1, 0, none⟩)), (.pointer (some ⟨b1, 0, none⟩), .pointer (some ⟨b1, 0, none⟩)), (.bool (decide ((-m) ≤ lo)), .bool true), (.pointer (some ⟨b1, 0, none⟩), .pointer (some ⟨b1, 0, none⟩)), (.int .i64 (IntKind.i64.wrap (0 - m)), .int .i64 (-m))]) (by kernel_rfl) (by kernel_rfl) ⟨(bo hd2), rfl, rfl, (bo hd1), rfl, ((wr (by omega) (by omega)).trans (io (by omega))), trivial⟩ ?_
      refine run_end (fn := f63) rfl (Nat.le_refl _) (by kernel_rfl) [] [.bool false] (e := []) (by kernel_rfl) trivial (fun w1 k1 h1 => ?_)
      exact ⟨by simp only [resVal]; congr 2; simp only [inS]; simp; omega, k1.keeps (fun _ h => h)⟩
    | true =>
      have hp2 := of_decide_eq_true hd2
      cases hd3 : (decide (hi ≤ m)) with
      | false =>
        have hp3 := of_decide_eq_false hd3
        refine run_auto [(6, .int .i64 (-m)), (9, .bool true), (15, .bool true), (21, .bool false)] 24 [] [0, 0, 0, 0] [4] [] (st' := ⟨[(4, .bool false)], []⟩) (acc := [(.bool (decide (hi ≤ m)), .bool false), (.pointer (some ⟨b1, 0, none⟩), .pointer (some ⟨b1, 0, none⟩)), (.bool (decide (lo ≤ hi)), .bool true), (.pointer (some ⟨b1, 0, none⟩), .pointer (some ⟨b1, 0, none⟩)), (.pointer (some ⟨b1, 0, none⟩), .pointer (some ⟨b1, 0, none⟩)), (.bool (decide ((-m) ≤ lo)), .bool true), (.pointer (some ⟨b1, 0, none⟩), .pointer (some ⟨b1, 0, none⟩)), (.int .i64 (IntKind.i64.wrap (0 - m)), .int .i64 (-m))]) (by kernel_rfl) (by kernel_rfl) ⟨(bo hd3), rfl, (bo hd2), rfl, rfl, (bo hd1), rfl, ((wr (by omega) (by omega)).trans (io (by omega))), trivial⟩ ?_
        refine run_end (fn := f63) rfl (Nat.le_refl _) (by kernel_rfl) [] [.bool false] (e := []) (by kernel_rfl) trivial (fun w1 k1 h1 => ?_)
        exact ⟨by simp only [resVal]; congr 2; simp only [inS]; simp; omega, k1.keeps (fun _ h => h)⟩
      | true =>
        have hp3 := of_decide_eq_true hd3
        refine run_auto [(6, .int .i64 (-m)), (9, .bool true), (15, .bool true), (21, .bool true)] 24 [] [0, 0, 0, 0] [4] [] (st' := ⟨[(4, .bool true)], []⟩) (acc := [(.bool (decide (hi ≤ m)), .bool true), (.pointer (some ⟨b1, 0, none⟩), .pointer (some ⟨b1, 0, none⟩)), (.bool (decide (lo ≤ hi)), .bool true), (.pointer (some ⟨b1, 0, none⟩), .pointer (some ⟨b1, 0, none⟩)), (.pointer (some ⟨b1, 0, none⟩), .pointer (some ⟨b1, 0, none⟩)), (.bool (decide ((-m) ≤ lo)), .bool true), (.pointer (some ⟨b1, 0, none⟩), .pointer (some ⟨b1, 0, none⟩)), (.int .i64 (IntKind.i64.wrap (0 - m)), .int .i64 (-m))]) (by kernel_rfl) (by kernel_rfl) ⟨(bo hd3), rfl, (bo hd2), rfl, rfl, (bo hd1), rfl, ((wr (by omega) (by omega)).trans (io (by omega))), trivial⟩ ?_
        refine run_end (fn := f63) rfl (Nat.le_refl _) (by kernel_rfl) [] [.bool true] (e := []) (by kernel_rfl) trivial (fun w1 k1 h1 => ?_)
        exact ⟨by simp only [resVal]; congr 2; simp only [inS]; simp; omega, k1.keeps (fun _ h => h)⟩


theorem blk_in_ (n : Int) (m : Nat) : inI n 0 ((m : Int) - 1) = blkB n m := by
  unfold inI blkB
  congr 1
  exact propext ⟨fun h => ⟨h.1, by omega⟩, fun h => ⟨h.1, by omega⟩⟩
theorem min_in_ (n : Int) : inI n 0 60 = minB n := rfl
set_option maxRecDepth 100000 in
theorem rblock_any (p : Pr) (n : Int) (w : World) (hl : p.bs.length ≤ maxLen) : Calls Try.prog 64 #[.agg #[.slice p.ba p.bs.length p.bc, .int .i64 p.zlo, .int .i64 p.zhi, .int .i64 p.rlo, .int .i64 p.rhi, .slice p.ra p.rs.length p.rc], .int .i64 n] w (RetB (blkB n p.bs.length) w) := by
  simp only [maxLen] at hl
  refine calls_run (fn := f64) (c := (f64.body).getD .skip) [.agg #[.slice p.ba p.bs.length p.bc, .int .i64 p.zlo, .int .i64 p.zhi, .int .i64 p.rlo, .int .i64 p.rhi, .slice p.ra p.rs.length p.rc], .int .i64 n] func64 (by kernel_rfl) (fun _ => False) [] (fun _ h => by cases h) (List.Pairwise.nil) 11 (by kernel_rfl) (by simp) ?_
  refine run_auto [] 2 [] [] [0, 1] [] (st' := ⟨[(0, .agg #[.slice p.ba p.bs.length p.bc, .int .i64 p.zlo, .int .i64 p.zhi, .int .i64 p.rlo, .int .i64 p.rhi, .slice p.ra p.rs.length p.rc]), (1, .int .i64 n)], []⟩) (acc := []) (by kernel_rfl) (by kernel_rfl) trivial ?_
  refine run_new (.cells #[.slice p.ba p.bs.length p.bc, .int .i64 p.zlo, .int .i64 p.zhi, .int .i64 p.rlo, .int .i64 p.rhi, .slice p.ra p.rs.length p.rc] 30 (0, 0)) (fun b1 => .pointer (some ⟨b1, 0, none⟩)) (some 2) (fun _ => by kernel_rfl) (fun b1 hb1 => ?_)
  refine run_auto [(9, .int .i64 ((p.bs.length : Int) - 1))] 9 [] [0] [4, 5, 9] [] (st' := ⟨[(4, .bool false), (5, .int .i64 n), (9, .int .i64 ((p.bs.length : Int) - 1))], []⟩) (acc := [(.int .i64 (IntKind.i64.wrap ((p.bs.length : Int) - 1)), .int .i64 ((p.bs.length : Int) - 1)), (.pointer (some ⟨b1, 0, none⟩), .pointer (some ⟨b1, 0, none⟩))]) (by kernel_rfl) (by kernel_rfl) ⟨(wr (by omega) (by omega)), rfl, trivial⟩ ?_
  cases hd1 : (inI n 0 ((p.bs.length : Int) - 1)) with
  | false =>
    refine run_ret1 62 #[.int .i64 n, .int .i64 0, .int .i64 ((p.bs.length : Int) - 1)] (some 10) (.bool false) (by kernel_rfl) (fun w1 k1 h1 => (by have h := rin_any n 0 ((p.bs.length : Int) - 1) w1; rw [hd1] at h; exact h)) ?_
    refine run_auto [] 2 [] [] [4] [] (st' := ⟨[(4, .bool false)], []⟩) (acc := []) (by kernel_rfl) (by kernel_rfl) trivial ?_
    refine run_end (fn := f64) rfl (Nat.le_refl _) (by kernel_rfl) [] [.bool false] (e := []) (by kernel_rfl) trivial (fun w1 k1 h1 => ?_)
    exact ⟨by rw [← blk_in_, hd1]; rfl, k1.keeps (fun _ h => h)⟩
  | true =>
    refine run_ret1 62 #[.int .i64 n, .int .i64 0, .int .i64 ((p.bs.length : Int) - 1)] (some 10) (.bool true) (by kernel_rfl) (fun w1 k1 h1 => (by have h := rin_any n 0 ((p.bs.length : Int) - 1) w1; rw [hd1] at h; exact h)) ?_
    refine run_auto [] 2 [] [] [4] [] (st' := ⟨[(4, .bool true)], []⟩) (acc := []) (by kernel_rfl) (by kernel_rfl) trivial ?_
    refine run_end (fn := f64) rfl (Nat.le_refl _) (by kernel_rfl) [] [.bool true] (e := []) (by kernel_rfl) trivial (fun w1 k1 h1 => ?_)
    exact ⟨by rw [← blk_in_, hd1]; rfl, k1.keeps (fun _ h => h)⟩

set_option maxRecDepth 100000 in
theorem rminute_any (n : Int) (w : World)  : Calls Try.prog 65 #[.int .i64 n] w (RetB (minB n) w) := by
  refine calls_run (fn := f65) (c := (f65.body).getD .skip) [.int .i64 n] func65 (by kernel_rfl) (fun _ => False) [] (fun _ h => by cases h) (List.Pairwise.nil) 5 (by kernel_rfl) (by simp) ?_
  refine run_auto [] 7 [] [] [2, 3] [] (st' := ⟨[(2, .bool false), (3, .int .i64 n)], []⟩) (acc := []) (by kernel_rfl) (by kernel_rfl) trivial ?_
  cases hd1 : (inI n 0 60) with
  | false =>
    refine run_ret1 62 #[.int .i64 n, .int .i64 0, .int .i64 60] (some 4) (.bool false) (by kernel_rfl) (fun w1 k1 h1 => (by have h := rin_any n 0 60 w1; rw [hd1] at h; exact h)) ?_
    refine run_auto [] 2 [] [] [2] [] (st' := ⟨[(2, .bool false)], []⟩) (acc := []) (by kernel_rfl) (by kernel_rfl) trivial ?_
    refine run_end (fn := f65) rfl (Nat.le_refl _) (by kernel_rfl) [] [.bool false] (e := []) (by kernel_rfl) trivial (fun w1 k1 h1 => ?_)
    exact ⟨by rw [← min_in_, hd1]; rfl, k1.keeps (fun _ h => h)⟩
  | true =>
    refine run_ret1 62 #[.int .i64 n, .int .i64 0, .int .i64 60] (some 4) (.bool true) (by kernel_rfl) (fun w1 k1 h1 => (by have h := rin_any n 0 60 w1; rw [hd1] at h; exact h)) ?_
    refine run_auto [] 2 [] [] [2] [] (st' := ⟨[(2, .bool true)], []⟩) (acc := []) (by kernel_rfl) (by kernel_rfl) trivial ?_
    refine run_end (fn := f65) rfl (Nat.le_refl _) (by kernel_rfl) [] [.bool true] (e := []) (by kernel_rfl) trivial (fun w1 k1 h1 => ?_)
    exact ⟨by rw [← min_in_, hd1]; rfl, k1.keeps (fun _ h => h)⟩

set_option maxRecDepth 100000 in
theorem rpair_any (p : Pr) (w : World) (hp : p.In w) : Calls Try.prog 27 #[.agg #[.slice p.ba p.bs.length p.bc, .int .i64 p.zlo, .int .i64 p.zhi, .int .i64 p.rlo, .int .i64 p.rhi, .slice p.ra p.rs.length p.rc]] w (RetB p.ok w) := by
  have hl1 := hp.ln
  have hl2 := hp.lr
  simp only [maxLen] at hl1 hl2
  refine calls_run (fn := f27) (c := (f27.body).getD .skip) [.agg #[.slice p.ba p.bs.length p.bc, .int .i64 p.zlo, .int .i64 p.zhi, .int .i64 p.rlo, .int .i64 p.rhi, .slice p.ra p.rs.length p.rc]] func27 (by kernel_rfl) (fun _ => False) [] (fun _ h => by cases h) (List.Pairwise.nil) 104 (by kernel_rfl) (by simp) ?_
  refine run_auto [] 2 [] [] [0] [] (st' := ⟨[(0, .agg #[.slice p.ba p.bs.length p.bc, .int .i64 p.zlo, .int .i64 p.zhi, .int .i64 p.rlo, .int .i64 p.rhi, .slice p.ra p.rs.length p.rc])], []⟩) (acc := []) (by kernel_rfl) (by kernel_rfl) trivial ?_
  refine run_new (.cells #[.slice p.ba p.bs.length p.bc, .int .i64 p.zlo, .int .i64 p.zhi, .int .i64 p.rlo, .int .i64 p.rhi, .slice p.ra p.rs.length p.rc] 30 (0, 0)) (fun b1 => .pointer (some ⟨b1, 0, none⟩)) (some 1) (fun _ => by kernel_rfl) (fun b1 hb1 => ?_)
  refine run_auto [] 8 [] [0] [1, 2, 8] [0] (st' := ⟨[(1, .pointer (some ⟨b1, 0, none⟩)), (2, .bool false), (8, .int .i64 (p.bs.length : Int))], [(b1, .cells #[.slice p.ba p.bs.length p.bc, .int .i64 p.zlo, .int .i64 p.zhi, .int .i64 p.rlo, .int .i64 p.rhi, .slice p.ra p.rs.length p.rc] 30 (0, 0))]⟩) (acc := [(.pointer (some ⟨b1, 0, none⟩), .pointer (some ⟨b1, 0, none⟩))]) (by kernel_rfl) (by kernel_rfl) ⟨rfl, trivial⟩ ?_
  cases hd1 : (inI (p.bs.length : Int) 1 5) with
  | false =>
    refine run_ret1 62 #[.int .i64 (p.bs.length : Int), .int .i64 1, .int .i64 5] (some 9) (.bool false) (by kernel_rfl) (fun w1 k1 h1 => (by have h := rin_any (p.bs.length : Int) 1 5 w1; rw [hd1] at h; exact h)) ?_
    refine run_auto [(10, .bool true)] 13 [true] [] [1, 2] [0] (st' := ⟨[(1, .pointer (some ⟨b1, 0, none⟩)), (2, .bool false)], [(b1, .cells #[.slice p.ba p.bs.length p.bc, .int .i64 p.zlo, .int .i64 p.zhi, .int .i64 p.rlo, .int .i64 p.rhi, .slice p.ra p.rs.length p.rc] 30 (0, 0))]⟩) (acc := [(.bool true, .bool true), (.bool true, .bool true)]) (by kernel_rfl) (by kernel_rfl) ⟨rfl, rfl, trivial⟩ ?_
    refine run_end (fn := f27) rfl (Nat.le_refl _) (by kernel_rfl) [] [.bool false] (e := []) (by kernel_rfl) trivial (fun w1 k1 h1 => ?_)
    have h : p.ok = false := by
      unfold Pr.ok vBls
      have q := of_decide_eq_false hd1
      simp; omega
    exact ⟨by rw [h]; rfl, k1.keeps (fun _ h => h)⟩
  | true =>
    refine run_ret1 62 #[.int .i64 (p.bs.length : Int), .int .i64 1, .int .i64 5] (some 9) (.bool true) (by kernel_rfl) (fun w1 k1 h1 => (by have h := rin_any (p.bs.length : Int) 1 5 w1; rw [hd1] at h; exact h)) ?_
    cases hd2 : (decide (8 < (p.rs.length : Int))) with
    | false =>
      have hp2 := of_decide_eq_false hd2
      refine run_auto [(10, .bool false), (15, .bool false)] 16 [false] [0] [1, 2, 3] [0] (st' := ⟨[(1, .pointer (some ⟨b1, 0, none⟩)), (2, .bool false), (3, .int .i64 0)], [(b1, .cells #[.slice p.ba p.bs.length p.bc, .int .i64 p.zlo, .int .i64 p.zhi, .int .i64 p.rlo, .int .i64 p.rhi, .slice p.ra p.rs.length p.rc] 30 (0, 0))]⟩) (acc := [(.bool false, .bool false), (.bool (decide (8 < (p.rs.length : Int))), .bool false), (.pointer (some ⟨b1, 0, none⟩), .pointer (some ⟨b1, 0, none⟩)), (.bool false, .bool false)]) (by kernel_rfl) (by kernel_rfl) ⟨rfl, (bo hd2), rfl, rfl, trivial⟩ ?_
      refine run_auto [] 0 [] [] [1, 2, 3] [0] (st' := ⟨[(1, .pointer (some ⟨b1, 0, none⟩)), (2, .bool false), (3, .int .i64 0)], [(b1, .cells #[.slice p.ba p.bs.length p.bc, .int .i64 p.zlo, .int .i64 p.zhi, .int .i64 p.rlo, .int .i64 p.rhi, .slice p.ra p.rs.length p.rc] 30 (0, 0))]⟩) (acc := []) (by kernel_rfl) (by kernel_rfl) trivial ?_
      refine run_loop (S := fun (k : Nat) => ⟨[(1, .pointer (some ⟨b1, 0, none⟩)), (2, .bool false), (3, .int .i64 (k : Int))], [(b1, .cells #[.slice p.ba p.bs.length p.bc, .int .i64 p.zlo, .int .i64 p.zhi, .int .i64 p.rlo, .int .i64 p.rhi, .slice p.ra p.rs.length p.rc] 30 (0, 0))]⟩) (fun k => k ≤ p.bs.length ∧ ∀ j, j < k → inS (elB p.bs j).1 (elB p.bs j).2 (-20) 20 = true) (fun k => p.bs.length - k) (0) (by kernel_rfl) (⟨Nat.zero_le _, fun _ h => by cases h⟩) (by kernel_rfl) (fun k hI0 J0 hJ0 => ?_)
      obtain ⟨hI1, hI2⟩ := hI0
      cases hd3 : (decide ((k : Int) < (p.bs.length : Int))) with
      | false =>
        have hp3 := of_decide_eq_false hd3
        refine run_auto [(21, .bool false)] 16 [false] [0, 0] [1, 2, 32] [0] (st' := ⟨[(1, .pointer (some ⟨b1, 0, none⟩)), (2, .bool false), (32, .agg #[.int .i64 p.zlo, .int .i64 p.zhi])], [(b1, .cells #[.slice p.ba p.bs.length p.bc, .int .i64 p.zlo, .int .i64 p.zhi, .int .i64 p.rlo, .int .i64 p.rhi, .slice p.ra p.rs.length p.rc] 30 (0, 0))]⟩) (acc := [(.pointer (some ⟨b1, 0, none⟩), .pointer (some ⟨b1, 0, none⟩)), (.bool false, .bool false), (.bool (decide ((k : Int) < (p.bs.length : Int))), .bool false), (.pointer (some ⟨b1, 0, none⟩), .pointer (some ⟨b1, 0, none⟩))]) (by kernel_rfl) (by kernel_rfl) ⟨rfl, rfl, (bo hd3), rfl, trivial⟩ ?_
        cases hd4 : (inS p.zlo p.zhi (-10) 10) with
        | false =>
          refine run_ret1 63 #[.agg #[.int .i64 p.zlo, .int .i64 p.zhi], .int .i64 10] (some 33) (.bool false) (by kernel_rfl) (fun w1 k1 h1 => (by have h := rspan_any p.zlo p.zhi 10 (by omega) (by omega) w1; rw [hd4] at h; exact h)) ?_
          refine run_auto [(34, .bool true)] 33 [true] [] [1, 2] [0] (st' := ⟨[(1, .pointer (some ⟨b1, 0, none⟩)), (2, .bool false)], [(b1, .cells #[.slice p.ba p.bs.length p.bc, .int .i64 p.zlo, .int .i64 p.zhi, .int .i64 p.rlo, .int .i64 p.rhi, .slice p.ra p.rs.length p.rc] 30 (0, 0))]⟩) (acc := [(.bool true, .bool true), (.bool true, .bool true)]) (by kernel_rfl) (by kernel_rfl) ⟨rfl, rfl, trivial⟩ ?_
          refine run_end (fn := f27) rfl (Nat.le_refl _) (by kernel_rfl) [] [.bool false] (e := []) (by kernel_rfl) trivial (fun w1 k1 h1 => ?_)
          have h : p.ok = false := by
            unfold Pr.ok
            simp [hd4]
          exact ⟨by rw [h]; rfl, k1.keeps (fun _ h => h)⟩
        | true =>
          have hqhd4 := inS_bd hd4
          refine run_ret1 63 #[.agg #[.int .i64 p.zlo, .int .i64 p.zhi], .int .i64 10] (some 33) (.bool true) (by kernel_rfl) (fun w1 k1 h1 => (by have h := rspan_any p.zlo p.zhi 10 (by omega) (by omega) w1; rw [hd4] at h; exact h)) ?_
          refine run_auto [(34, .bool false)] 4 [] [0] [1, 2, 35, 37] [0] (st' := ⟨[(1, .pointer (some ⟨b1, 0, none⟩)), (2, .bool false), (35, .bool false), (37, .agg #[.int .i64 p.rlo, .int .i64 p.rhi])], [(b1, .cells #[.slice p.ba p.bs.length p.bc, .int .i64 p.zlo, .int .i64 p.zhi, .int .i64 p.rlo, .int .i64 p.rhi, .slice p.ra p.rs.length p.rc] 30 (0, 0))]⟩) (acc := [(.pointer (some ⟨b1, 0, none⟩), .pointer (some ⟨b1, 0, none⟩)), (.bool false, .bool false)]) (by kernel_rfl) (by kernel_rfl) ⟨rfl, rfl, trivial⟩ ?_
          cases hd5 : (inS p.rlo p.rhi (-5) 5) with
          | false =>
            refine run_ret1 63 #[.agg #[.int .i64 p.rlo, .int .i64 p.rhi], .int .i64 5] (some 38) (.bool false) (by kernel_rfl) (fun w1 k1 h1 => (by have h := rspan_any p.rlo p.rhi 5 (by omega) (by omega) w1; rw [hd5] at h; exact h)) ?_
            refine run_auto [(39, .bool true)] 28 [true] [] [1, 2] [0] (st' := ⟨[(1, .pointer (some ⟨b1, 0, none⟩)), (2, .bool false)], [(b1, .cells #[.slice p.ba p.bs.length p.bc, .int .i64 p.zlo, .int .i64 p.zhi, .int .i64 p.rlo, .int .i64 p.rhi, .slice p.ra p.rs.length p.rc] 30 (0, 0))]⟩) (acc := [(.bool true, .bool true), (.bool true, .bool true)]) (by kernel_rfl) (by kernel_rfl) ⟨rfl, rfl, trivial⟩ ?_
            refine run_end (fn := f27) rfl (Nat.le_refl _) (by kernel_rfl) [] [.bool false] (e := []) (by kernel_rfl) trivial (fun w1 k1 h1 => ?_)
            have h : p.ok = false := by
              unfold Pr.ok
              simp [hd5]
            exact ⟨by rw [h]; rfl, k1.keeps (fun _ h => h)⟩
          | true =>
            have hqhd5 := inS_bd hd5
            refine run_ret1 63 #[.agg #[.int .i64 p.rlo, .int .i64 p.rhi], .int .i64 5] (some 38) (.bool true) (by kernel_rfl) (fun w1 k1 h1 => (by have h := rspan_any p.rlo p.rhi 5 (by omega) (by omega) w1; rw [hd5] at h; exact h)) ?_
            cases hd6 : (decide (4 < (p.zhi - p.zlo))) with
            | false =>
              have hp6 := of_decide_eq_false hd6
              cases hd7 : (decide (4 < (p.rhi - p.rlo))) with
              | false =>
                have hp7 := of_decide_eq_false hd7
                refine run_auto [(39, .bool false), (48, .int .i64 (p.zhi - p.zlo)), (49, .bool false), (58, .int .i64 (p.rhi - p.rlo)), (59, .bool false)] 31 [false] [0, 0, 0, 0] [1, 2, 4] [0] (st' := ⟨[(1, .pointer (some ⟨b1, 0, none⟩)), (2, .bool false), (4, .int .i64 0)], [(b1, .cells #[.slice p.ba p.bs.length p.bc, .int .i64 p.zlo, .int .i64 p.zhi, .int .i64 p.rlo, .int .i64 p.rhi, .slice p.ra p.rs.length p.rc] 30 (0, 0))]⟩) (acc := [(.bool false, .bool false), (.bool (decide (4 < (p.rhi - p.rlo))), .bool false), (.int .i64 (IntKind.i64.wrap (p.rhi - p.rlo)), .int .i64 (p.rhi - p.rlo)), (.pointer (some ⟨b1, 0, none⟩), .pointer (some ⟨b1, 0, none⟩)), (.pointer (some ⟨b1, 0, none⟩), .pointer (some ⟨b1, 0, none⟩)), (.bool (decide (4 < (p.zhi - p.zlo))), .bool false), (.int .i64 (IntKind.i64.wrap (p.zhi - p.zlo)), .int .i64 (p.zhi - p.zlo)), (.pointer (some ⟨b1, 0, none⟩), .pointer (some ⟨b1, 0, none⟩)), (.pointer (some ⟨b1, 0, none⟩), .pointer (some ⟨b1, 0, none⟩)), (.bool false, .bool false)]) (by kernel_rfl) (by kernel_rfl) ⟨rfl, (bo hd7), (wr (by omega) (by omega)), rfl, rfl, (bo hd6), (wr (by omega) (by omega)), rfl, rfl, rfl, trivial⟩ ?_
                refine run_auto [] 0 [] [] [1, 2, 4] [0] (st' := ⟨[(1, .pointer (some ⟨b1, 0, none⟩)), (2, .bool false), (4, .int .i64 0)], [(b1, .cells #[.slice p.ba p.bs.length p.bc, .int .i64 p.zlo, .int .i64 p.zhi, .int .i64 p.rlo, .int .i64 p.rhi, .slice p.ra p.rs.length p.rc] 30 (0, 0))]⟩) (acc := []) (by kernel_rfl) (by kernel_rfl) trivial ?_
                refine run_loop (S := fun (r : Nat) => ⟨[(1, .pointer (some ⟨b1, 0, none⟩)), (2, .bool false), (4, .int .i64 (r : Int))], [(b1, .cells #[.slice p.ba p.bs.length p.bc, .int .i64 p.zlo, .int .i64 p.zhi, .int .i64 p.rlo, .int .i64 p.rhi, .slice p.ra p.rs.length p.rc] 30 (0, 0))]⟩) (fun r => r ≤ p.rs.length ∧ ∀ j, j < r → vRd p.bs.length (elR p.rs j) = true) (fun r => p.rs.length - r) (0) (by kernel_rfl) (⟨Nat.zero_le _, fun _ h => by cases h⟩) (by kernel_rfl) (fun r hI1 J1 hJ1 => ?_)
                obtain ⟨hI3, hI4⟩ := hI1
                cases hd8 : (decide ((r : Int) < (p.rs.length : Int))) with
                | false =>
                  have hp8 := of_decide_eq_false hd8
                  refine run_auto [(65, .bool false)] 15 [false] [0] [2] [] (st' := ⟨[(2, .bool true)], []⟩) (acc := [(.bool false, .bool false), (.bool (decide ((r : Int) < (p.rs.length : Int))), .bool false), (.pointer (some ⟨b1, 0, none⟩), .pointer (some ⟨b1, 0, none⟩))]) (by kernel_rfl) (by kernel_rfl) ⟨rfl, (bo hd8), rfl, trivial⟩ ?_
                  refine run_end (fn := f27) rfl (Nat.le_refl _) (by kernel_rfl) [] [.bool true] (e := []) (by kernel_rfl) trivial (fun w1 k1 h1 => ?_)
                  have h : p.ok = true := by
                    unfold Pr.ok vBls vRds
                    rw [all_yes (p := fun s => inS s.1 s.2 (-20) 20) (d := (0, 0)) (fun j hj => hI2 j (by omega)), all_yes (p := vRd p.bs.length) (d := (0, 0, 0, 0, 0)) (fun j hj => hI4 j (by omega))]
                    have q := of_decide_eq_true hd1
                    simp [hd4, hd5]; omega
                  exact ⟨by rw [h]; rfl, k1.keeps (fun _ h => h)⟩
                | true =>
                  have hp8 := of_decide_eq_true hd8
                  have hlt : r < p.rs.length := by omega
                  obtain ⟨b, o, hba, hc⟩ := hp.rd (by intro h; rw [h] at hlt; cases hlt)
                  have hc := hc r hlt
                  refine run_auto [(65, .bool true)] 18 [true] [0, 0] [1, 2, 4, 69, 70] [0] (st' := ⟨[(1, .pointer (some ⟨b1, 0, none⟩)), (2, .bool false), (4, .int .i64 (r : Int)), (69, .slice p.ra p.rs.length p.rc), (70, .int .i64 (r : Int))], [(b1, .cells #[.slice p.ba p.bs.length p.bc, .int .i64 p.zlo, .int .i64 p.zhi, .int .i64 p.rlo, .int .i64 p.rhi, .slice p.ra p.rs.length p.rc] 30 (0, 0))]⟩) (acc := [(.pointer (some ⟨b1, 0, none⟩), .pointer (some ⟨b1, 0, none⟩)), (.bool true, .bool true), (.bool (decide ((r : Int) < (p.rs.length : Int))), .bool true), (.pointer (some ⟨b1, 0, none⟩), .pointer (some ⟨b1, 0, none⟩))]) (by kernel_rfl) (by kernel_rfl) ⟨rfl, rfl, (bo hd8), rfl, trivial⟩ ?_
                  refine run_v (Instr.indexAt 28 (.slice p.ra p.rs.length p.rc) (.int .i64 (r : Int)) >>= fun v => pure (Next.value v)) (some 71) (.pointer (some ⟨b, o + r * 5, none⟩)) (by kernel_rfl) (fun w1 k1 h1 => (by rw [hba]; exact idx_run (e := 38) (n := 5) (by kernel_rfl) (by kernel_rfl) b o p.rs.length p.rc .i64 r hlt w1)) ?_
                  refine run_v (Instr.loadAt 38 (.pointer (some ⟨b, o + r * 5, none⟩)) >>= fun v => pure (Next.value v)) (some 72) (.agg #[.int .i64 (elR p.rs r).1, .int .i64 (elR p.rs r).2.1, .int .i64 (elR p.rs r).2.2.1, .int .i64 (elR p.rs r).2.2.2.1, .int .i64 (elR p.rs r).2.2.2.2]) (by kernel_rfl) (fun w1 k1 h1 => load_in (off := 0) k1 (fun h => h) [.int .i64 (elR p.rs r).1, .int .i64 (elR p.rs r).2.1, .int .i64 (elR p.rs r).2.2.1, .int .i64 (elR p.rs r).2.2.2.1, .int .i64 (elR p.rs r).2.2.2.2] (c5 hc.1 hc.2.1 hc.2.2.1 hc.2.2.2.1 hc.2.2.2.2) (by kernel_rfl)) ?_
                  refine run_new (.cells #[.int .i64 0, .int .i64 0, .int .i64 0, .int .i64 0, .int .i64 0] 38 (0, 0)) (fun b2 => .pointer (some ⟨b2, 0, none⟩)) (some 5) (fun _ => by kernel_rfl) (fun b2 hb2 => ?_)
                  refine run_auto [] 7 [] [0, 1, 0] [1, 2, 4, 5, 73, 75] [0, 1] (st' := ⟨[(1, .pointer (some ⟨b1, 0, none⟩)), (2, .bool false), (4, .int .i64 (r : Int)), (5, .pointer (some ⟨b2, 0, none⟩)), (73, .agg #[.slice p.ba p.bs.length p.bc, .int .i64 p.zlo, .int .i64 p.zhi, .int .i64 p.rlo, .int .i64 p.rhi, .slice p.ra p.rs.length p.rc]), (75, .int .i64 (elR p.rs r).1)], [(b2, .cells #[.int .i64 (elR p.rs r).1, .int .i64 (elR p.rs r).2.1, .int .i64 (elR p.rs r).2.2.1, .int .i64 (elR p.rs r).2.2.2.1, .int .i64 (elR p.rs r).2.2.2.2] 38 (0, 0)), (b1, .cells #[.slice p.ba p.bs.length p.bc, .int .i64 p.zlo, .int .i64 p.zhi, .int .i64 p.rlo, .int .i64 p.rhi, .slice p.ra p.rs.length p.rc] 30 (0, 0))]⟩) (acc := [(.pointer (some ⟨b2, 0, none⟩), .pointer (some ⟨b2, 0, none⟩)), (.pointer (some ⟨b1, 0, none⟩), .pointer (some ⟨b1, 0, none⟩)), (.pointer (some ⟨b2, 0, none⟩), .pointer (some ⟨b2, 0, none⟩))]) (by kernel_rfl) (by kernel_rfl) ⟨rfl, rfl, rfl, trivial⟩ ?_
                  cases hd9 : (blkB (elR p.rs r).1 (p.bs.length : Int)) with
                  | false =>
                    refine run_ret1 64 #[.agg #[.slice p.ba p.bs.length p.bc, .int .i64 p.zlo, .int .i64 p.zhi, .int .i64 p.rlo, .int .i64 p.rhi, .slice p.ra p.rs.length p.rc], .int .i64 (elR p.rs r).1] (some 76) (.bool false) (by kernel_rfl) (fun w1 k1 h1 => (by have h := rblock_any p (elR p.rs r).1 w1 hp.ln; rw [hd9] at h; exact h)) ?_
                    refine run_auto [(77, .bool true)] 33 [true] [] [1, 2, 4] [1] (st' := ⟨[(1, .pointer (some ⟨b1, 0, none⟩)), (2, .bool false), (4, .int .i64 (r : Int))], [(b1, .cells #[.slice p.ba p.bs.length p.bc, .int .i64 p.zlo, .int .i64 p.zhi, .int .i64 p.rlo, .int .i64 p.rhi, .slice p.ra p.rs.length p.rc] 30 (0, 0))]⟩) (acc := [(.bool true, .bool true), (.bool true, .bool true)]) (by kernel_rfl) (by kernel_rfl) ⟨rfl, rfl, trivial⟩ ?_
                    refine run_end (fn := f27) rfl (Nat.le_refl _) (by kernel_rfl) [] [.bool false] (e := []) (by kernel_rfl) trivial (fun w1 k1 h1 => ?_)
                    have h : p.ok = false := by
                      unfold Pr.ok vRds
                      rw [all_no (p := vRd p.bs.length) (d := (0, 0, 0, 0, 0)) hlt (show vRd p.bs.length (elR p.rs r) = false by simp [vRd, hd9])]
                      simp
                    exact ⟨by rw [h]; rfl, k1.keeps (fun _ h => h)⟩
                  | true =>
                    refine run_ret1 64 #[.agg #[.slice p.ba p.bs.length p.bc, .int .i64 p.zlo, .int .i64 p.zhi, .int .i64 p.rlo, .int .i64 p.rhi, .slice p.ra p.rs.length p.rc], .int .i64 (elR p.rs r).1] (some 76) (.bool true) (by kernel_rfl) (fun w1 k1 h1 => (by have h := rblock_any p (elR p.rs r).1 w1 hp.ln; rw [hd9] at h; exact h)) ?_
                    refine run_auto [(77, .bool false)] 5 [] [1, 0] [1, 2, 4, 5, 78, 79, 81] [0, 1] (st' := ⟨[(1, .pointer (some ⟨b1, 0, none⟩)), (2, .bool false), (4, .int .i64 (r : Int)), (5, .pointer (some ⟨b2, 0, none⟩)), (78, .bool false), (79, .agg #[.slice p.ba p.bs.length p.bc, .int .i64 p.zlo, .int .i64 p.zhi, .int .i64 p.rlo, .int .i64 p.rhi, .slice p.ra p.rs.length p.rc]), (81, .int .i64 (elR p.rs r).2.1)], [(b2, .cells #[.int .i64 (elR p.rs r).1, .int .i64 (elR p.rs r).2.1, .int .i64 (elR p.rs r).2.2.1, .int .i64 (elR p.rs r).2.2.2.1, .int .i64 (elR p.rs r).2.2.2.2] 38 (0, 0)), (b1, .cells #[.slice p.ba p.bs.length p.bc, .int .i64 p.zlo, .int .i64 p.zhi, .int .i64 p.rlo, .int .i64 p.rhi, .slice p.ra p.rs.length p.rc] 30 (0, 0))]⟩) (acc := [(.pointer (some ⟨b2, 0, none⟩), .pointer (some ⟨b2, 0, none⟩)), (.pointer (some ⟨b1, 0, none⟩), .pointer (some ⟨b1, 0, none⟩)), (.bool false, .bool false)]) (by kernel_rfl) (by kernel_rfl) ⟨rfl, rfl, rfl, trivial⟩ ?_
                    cases hd10 : (blkB (elR p.rs r).2.1 (p.bs.length : Int)) with
                    | false =>
                      refine run_ret1 64 #[.agg #[.slice p.ba p.bs.length p.bc, .int .i64 p.zlo, .int .i64 p.zhi, .int .i64 p.rlo, .int .i64 p.rhi, .slice p.ra p.rs.length p.rc], .int .i64 (elR p.rs r).2.1] (some 82) (.bool false) (by kernel_rfl) (fun w1 k1 h1 => (by have h := rblock_any p (elR p.rs r).2.1 w1 hp.ln; rw [hd10] at h; exact h)) ?_
                      refine run_auto [(83, .bool true)] 27 [true] [] [1, 2, 4] [1] (st' := ⟨[(1, .pointer (some ⟨b1, 0, none⟩)), (2, .bool false), (4, .int .i64 (r : Int))], [(b1, .cells #[.slice p.ba p.bs.length p.bc, .int .i64 p.zlo, .int .i64 p.zhi, .int .i64 p.rlo, .int .i64 p.rhi, .slice p.ra p.rs.length p.rc] 30 (0, 0))]⟩) (acc := [(.bool true, .bool true), (.bool true, .bool true)]) (by kernel_rfl) (by kernel_rfl) ⟨rfl, rfl, trivial⟩ ?_
                      refine run_end (fn := f27) rfl (Nat.le_refl _) (by kernel_rfl) [] [.bool false] (e := []) (by kernel_rfl) trivial (fun w1 k1 h1 => ?_)
                      have h : p.ok = false := by
                        unfold Pr.ok vRds
                        rw [all_no (p := vRd p.bs.length) (d := (0, 0, 0, 0, 0)) hlt (show vRd p.bs.length (elR p.rs r) = false by simp [vRd, hd9, hd10])]
                        simp
                      exact ⟨by rw [h]; rfl, k1.keeps (fun _ h => h)⟩
                    | true =>
                      refine run_ret1 64 #[.agg #[.slice p.ba p.bs.length p.bc, .int .i64 p.zlo, .int .i64 p.zhi, .int .i64 p.rlo, .int .i64 p.rhi, .slice p.ra p.rs.length p.rc], .int .i64 (elR p.rs r).2.1] (some 82) (.bool true) (by kernel_rfl) (fun w1 k1 h1 => (by have h := rblock_any p (elR p.rs r).2.1 w1 hp.ln; rw [hd10] at h; exact h)) ?_
                      cases hd11 : ((elR p.rs r).1 == (elR p.rs r).2.1) with
                      | false =>
                        have hp11 : ¬ (elR p.rs r).1 = (elR p.rs r).2.1 := by simpa using hd11
                        refine run_auto [(83, .bool false), (90, .bool false)] 12 [] [0, 0, 0] [1, 2, 4, 5, 92, 94] [0, 1] (st' := ⟨[(1, .pointer (some ⟨b1, 0, none⟩)), (2, .bool false), (4, .int .i64 (r : Int)), (5, .pointer (some ⟨b2, 0, none⟩)), (92, .bool false), (94, .int .i64 (elR p.rs r).2.2.1)], [(b2, .cells #[.int .i64 (elR p.rs r).1, .int .i64 (elR p.rs r).2.1, .int .i64 (elR p.rs r).2.2.1, .int .i64 (elR p.rs r).2.2.2.1, .int .i64 (elR p.rs r).2.2.2.2] 38 (0, 0)), (b1, .cells #[.slice p.ba p.bs.length p.bc, .int .i64 p.zlo, .int .i64 p.zhi, .int .i64 p.rlo, .int .i64 p.rhi, .slice p.ra p.rs.length p.rc] 30 (0, 0))]⟩) (acc := [(.pointer (some ⟨b2, 0, none⟩), .pointer (some ⟨b2, 0, none⟩)), (.bool ((elR p.rs r).1 == (elR p.rs r).2.1), .bool false), (.pointer (some ⟨b2, 0, none⟩), .pointer (some ⟨b2, 0, none⟩)), (.pointer (some ⟨b2, 0, none⟩), .pointer (some ⟨b2, 0, none⟩)), (.bool false, .bool false)]) (by kernel_rfl) (by kernel_rfl) ⟨rfl, (bo hd11), rfl, rfl, rfl, trivial⟩ ?_
                        cases hd12 : (minB (elR p.rs r).2.2.1) with
                        | false =>
                          refine run_ret1 65 #[.int .i64 (elR p.rs r).2.2.1] (some 95) (.bool false) (by kernel_rfl) (fun w1 k1 h1 => (by have h := rminute_any (elR p.rs r).2.2.1 w1; rw [hd12] at h; exact h)) ?_
                          refine run_auto [(96, .bool true)] 14 [true] [] [1, 2, 4] [1] (st' := ⟨[(1, .pointer (some ⟨b1, 0, none⟩)), (2, .bool false), (4, .int .i64 (r : Int))], [(b1, .cells #[.slice p.ba p.bs.length p.bc, .int .i64 p.zlo, .int .i64 p.zhi, .int .i64 p.rlo, .int .i64 p.rhi, .slice p.ra p.rs.length p.rc] 30 (0, 0))]⟩) (acc := [(.bool true, .bool true), (.bool true, .bool true)]) (by kernel_rfl) (by kernel_rfl) ⟨rfl, rfl, trivial⟩ ?_
                          refine run_end (fn := f27) rfl (Nat.le_refl _) (by kernel_rfl) [] [.bool false] (e := []) (by kernel_rfl) trivial (fun w1 k1 h1 => ?_)
                          have h : p.ok = false := by
                            unfold Pr.ok vRds
                            rw [all_no (p := vRd p.bs.length) (d := (0, 0, 0, 0, 0)) hlt (show vRd p.bs.length (elR p.rs r) = false by simp [vRd, hd9, hd10, hd11, hd12])]
                            simp
                          exact ⟨by rw [h]; rfl, k1.keeps (fun _ h => h)⟩
                        | true =>
                          refine run_ret1 65 #[.int .i64 (elR p.rs r).2.2.1] (some 95) (.bool true) (by kernel_rfl) (fun w1 k1 h1 => (by have h := rminute_any (elR p.rs r).2.2.1 w1; rw [hd12] at h; exact h)) ?_
                          refine run_auto [(96, .bool false)] 5 [] [0] [1, 2, 4, 98, 100] [1] (st' := ⟨[(1, .pointer (some ⟨b1, 0, none⟩)), (2, .bool false), (4, .int .i64 (r : Int)), (98, .bool false), (100, .agg #[.int .i64 (elR p.rs r).2.2.2.1, .int .i64 (elR p.rs r).2.2.2.2])], [(b1, .cells #[.slice p.ba p.bs.length p.bc, .int .i64 p.zlo, .int .i64 p.zhi, .int .i64 p.rlo, .int .i64 p.rhi, .slice p.ra p.rs.length p.rc] 30 (0, 0))]⟩) (acc := [(.pointer (some ⟨b2, 0, none⟩), .pointer (some ⟨b2, 0, none⟩)), (.bool false, .bool false)]) (by kernel_rfl) (by kernel_rfl) ⟨rfl, rfl, trivial⟩ ?_
                          cases hd13 : (inS (elR p.rs r).2.2.2.1 (elR p.rs r).2.2.2.2 (-80) 80) with
                          | false =>
                            refine run_ret1 63 #[.agg #[.int .i64 (elR p.rs r).2.2.2.1, .int .i64 (elR p.rs r).2.2.2.2], .int .i64 80] (some 101) (.bool false) (by kernel_rfl) (fun w1 k1 h1 => (by have h := rspan_any (elR p.rs r).2.2.2.1 (elR p.rs r).2.2.2.2 80 (by omega) (by omega) w1; rw [hd13] at h; exact h)) ?_
                            refine run_auto [(102, .bool true)] 8 [true] [] [1, 2, 4] [0] (st' := ⟨[(1, .pointer (some ⟨b1, 0, none⟩)), (2, .bool false), (4, .int .i64 (r : Int))], [(b1, .cells #[.slice p.ba p.bs.length p.bc, .int .i64 p.zlo, .int .i64 p.zhi, .int .i64 p.rlo, .int .i64 p.rhi, .slice p.ra p.rs.length p.rc] 30 (0, 0))]⟩) (acc := [(.bool true, .bool true), (.bool true, .bool true)]) (by kernel_rfl) (by kernel_rfl) ⟨rfl, rfl, trivial⟩ ?_
                            refine run_end (fn := f27) rfl (Nat.le_refl _) (by kernel_rfl) [] [.bool false] (e := []) (by kernel_rfl) trivial (fun w1 k1 h1 => ?_)
                            have h : p.ok = false := by
                              unfold Pr.ok vRds
                              rw [all_no (p := vRd p.bs.length) (d := (0, 0, 0, 0, 0)) hlt (show vRd p.bs.length (elR p.rs r) = false by simp [vRd, hd9, hd10, hd11, hd12, hd13])]
                              simp
                            exact ⟨by rw [h]; rfl, k1.keeps (fun _ h => h)⟩
                          | true =>
                            refine run_ret1 63 #[.agg #[.int .i64 (elR p.rs r).2.2.2.1, .int .i64 (elR p.rs r).2.2.2.2], .int .i64 80] (some 101) (.bool true) (by kernel_rfl) (fun w1 k1 h1 => (by have h := rspan_any (elR p.rs r).2.2.2.1 (elR p.rs r).2.2.2.2 80 (by omega) (by omega) w1; rw [hd13] at h; exact h)) ?_
                            refine run_auto [(102, .bool false), (67, .int .i64 ((r + 1 : Nat) : Int))] 11 [false] [] [1, 2, 4] [0] (st' := ⟨[(1, .pointer (some ⟨b1, 0, none⟩)), (2, .bool false), (4, .int .i64 ((r + 1 : Nat) : Int))], [(b1, .cells #[.slice p.ba p.bs.length p.bc, .int .i64 p.zlo, .int .i64 p.zhi, .int .i64 p.rlo, .int .i64 p.rhi, .slice p.ra p.rs.length p.rc] 30 (0, 0))]⟩) (acc := [(.int .i64 (IntKind.i64.wrap ((r : Int) + 1)), .int .i64 ((r + 1 : Nat) : Int)), (.bool false, .bool false), (.bool false, .bool false)]) (by kernel_rfl) (by kernel_rfl) ⟨(wr (by omega) (by omega)), rfl, rfl, trivial⟩ ?_
                            exact run_round (by kernel_rfl) (hJ1 (r + 1) (⟨by omega, fun j hj => (Nat.lt_succ_iff_lt_or_eq.1 hj).elim (hI4 j) (fun h => h ▸ (by simp [vRd, hd9, hd10, hd11, hd12, hd13]))⟩) (by omega))
                      | true =>
                        have hp11 : (elR p.rs r).1 = (elR p.rs r).2.1 := by simpa using hd11
                        refine run_auto [(83, .bool false), (90, .bool true)] 27 [true] [0, 0] [1, 2, 4] [1] (st' := ⟨[(1, .pointer (some ⟨b1, 0, none⟩)), (2, .bool false), (4, .int .i64 (r : Int))], [(b1, .cells #[.slice p.ba p.bs.length p.bc, .int .i64 p.zlo, .int .i64 p.zhi, .int .i64 p.rlo, .int .i64 p.rhi, .slice p.ra p.rs.length p.rc] 30 (0, 0))]⟩) (acc := [(.bool true, .bool true), (.bool ((elR p.rs r).1 == (elR p.rs r).2.1), .bool true), (.pointer (some ⟨b2, 0, none⟩), .pointer (some ⟨b2, 0, none⟩)), (.pointer (some ⟨b2, 0, none⟩), .pointer (some ⟨b2, 0, none⟩)), (.bool false, .bool false)]) (by kernel_rfl) (by kernel_rfl) ⟨rfl, (bo hd11), rfl, rfl, rfl, trivial⟩ ?_
                        refine run_end (fn := f27) rfl (Nat.le_refl _) (by kernel_rfl) [] [.bool false] (e := []) (by kernel_rfl) trivial (fun w1 k1 h1 => ?_)
                        have h : p.ok = false := by
                          unfold Pr.ok vRds
                          rw [all_no (p := vRd p.bs.length) (d := (0, 0, 0, 0, 0)) hlt (show vRd p.bs.length (elR p.rs r) = false by simp [vRd, hd9, hd10, hd11])]
                          simp
                        exact ⟨by rw [h]; rfl, k1.keeps (fun _ h => h)⟩
              | true =>
                have hp7 := of_decide_eq_true hd7
                refine run_auto [(39, .bool false), (48, .int .i64 (p.zhi - p.zlo)), (49, .bool false), (58, .int .i64 (p.rhi - p.rlo)), (59, .bool true)] 28 [true] [0, 0, 0, 0] [1, 2] [0] (st' := ⟨[(1, .pointer (some ⟨b1, 0, none⟩)), (2, .bool false)], [(b1, .cells #[.slice p.ba p.bs.length p.bc, .int .i64 p.zlo, .int .i64 p.zhi, .int .i64 p.rlo, .int .i64 p.rhi, .slice p.ra p.rs.length p.rc] 30 (0, 0))]⟩) (acc := [(.bool true, .bool true), (.bool (decide (4 < (p.rhi - p.rlo))), .bool true), (.int .i64 (IntKind.i64.wrap (p.rhi - p.rlo)), .int .i64 (p.rhi - p.rlo)), (.pointer (some ⟨b1, 0, none⟩), .pointer (some ⟨b1, 0, none⟩)), (.pointer (some ⟨b1, 0, none⟩), .pointer (some ⟨b1, 0, none⟩)), (.bool (decide (4 < (p.zhi - p.zlo))), .bool false), (.int .i64 (IntKind.i64.wrap (p.zhi - p.zlo)), .int .i64 (p.zhi - p.zlo)), (.pointer (some ⟨b1, 0, none⟩), .pointer (some ⟨b1, 0, none⟩)), (.pointer (some ⟨b1, 0, none⟩), .pointer (some ⟨b1, 0, none⟩)), (.bool false, .bool false)]) (by kernel_rfl) (by kernel_rfl) ⟨rfl, (bo hd7), (wr (by omega) (by omega)), rfl, rfl, (bo hd6), (wr (by omega) (by omega)), rfl, rfl, rfl, trivial⟩ ?_
                refine run_end (fn := f27) rfl (Nat.le_refl _) (by kernel_rfl) [] [.bool false] (e := []) (by kernel_rfl) trivial (fun w1 k1 h1 => ?_)
                have h : p.ok = false := by
                  unfold Pr.ok
                  simp; omega
                exact ⟨by rw [h]; rfl, k1.keeps (fun _ h => h)⟩
            | true =>
              have hp6 := of_decide_eq_true hd6
              refine run_auto [(39, .bool false), (48, .int .i64 (p.zhi - p.zlo)), (49, .bool true)] 28 [true] [0, 0] [1, 2] [0] (st' := ⟨[(1, .pointer (some ⟨b1, 0, none⟩)), (2, .bool false)], [(b1, .cells #[.slice p.ba p.bs.length p.bc, .int .i64 p.zlo, .int .i64 p.zhi, .int .i64 p.rlo, .int .i64 p.rhi, .slice p.ra p.rs.length p.rc] 30 (0, 0))]⟩) (acc := [(.bool true, .bool true), (.bool (decide (4 < (p.zhi - p.zlo))), .bool true), (.int .i64 (IntKind.i64.wrap (p.zhi - p.zlo)), .int .i64 (p.zhi - p.zlo)), (.pointer (some ⟨b1, 0, none⟩), .pointer (some ⟨b1, 0, none⟩)), (.pointer (some ⟨b1, 0, none⟩), .pointer (some ⟨b1, 0, none⟩)), (.bool false, .bool false)]) (by kernel_rfl) (by kernel_rfl) ⟨rfl, (bo hd6), (wr (by omega) (by omega)), rfl, rfl, rfl, trivial⟩ ?_
              refine run_end (fn := f27) rfl (Nat.le_refl _) (by kernel_rfl) [] [.bool false] (e := []) (by kernel_rfl) trivial (fun w1 k1 h1 => ?_)
              have h : p.ok = false := by
                unfold Pr.ok
                simp; omega
              exact ⟨by rw [h]; rfl, k1.keeps (fun _ h => h)⟩
      | true =>
        have hp3 := of_decide_eq_true hd3
        have hlt : k < p.bs.length := by omega
        obtain ⟨b, o, hba, hc⟩ := hp.bl (by intro h; rw [h] at hlt; cases hlt)
        have hc := hc k hlt
        refine run_auto [(21, .bool true)] 18 [true] [0, 0] [1, 2, 3, 25, 26] [0] (st' := ⟨[(1, .pointer (some ⟨b1, 0, none⟩)), (2, .bool false), (3, .int .i64 (k : Int)), (25, .slice p.ba p.bs.length p.bc), (26, .int .i64 (k : Int))], [(b1, .cells #[.slice p.ba p.bs.length p.bc, .int .i64 p.zlo, .int .i64 p.zhi, .int .i64 p.rlo, .int .i64 p.rhi, .slice p.ra p.rs.length p.rc] 30 (0, 0))]⟩) (acc := [(.pointer (some ⟨b1, 0, none⟩), .pointer (some ⟨b1, 0, none⟩)), (.bool true, .bool true), (.bool (decide ((k : Int) < (p.bs.length : Int))), .bool true), (.pointer (some ⟨b1, 0, none⟩), .pointer (some ⟨b1, 0, none⟩))]) (by kernel_rfl) (by kernel_rfl) ⟨rfl, rfl, (bo hd3), rfl, trivial⟩ ?_
        refine run_v (Instr.indexAt 27 (.slice p.ba p.bs.length p.bc) (.int .i64 (k : Int)) >>= fun v => pure (Next.value v)) (some 27) (.pointer (some ⟨b, o + k * 2, none⟩)) (by kernel_rfl) (fun w1 k1 h1 => (by rw [hba]; exact idx_run (e := 23) (n := 2) (by kernel_rfl) (by kernel_rfl) b o p.bs.length p.bc .i64 k hlt w1)) ?_
        refine run_v (Instr.loadAt 23 (.pointer (some ⟨b, o + k * 2, none⟩)) >>= fun v => pure (Next.value v)) (some 28) (.agg #[.int .i64 (elB p.bs k).1, .int .i64 (elB p.bs k).2]) (by kernel_rfl) (fun w1 k1 h1 => load_in (off := 0) k1 (fun h => h) [.int .i64 (elB p.bs k).1, .int .i64 (elB p.bs k).2] (c2 hc.1 hc.2) (by kernel_rfl)) ?_
        cases hd4 : (inS (elB p.bs k).1 (elB p.bs k).2 (-20) 20) with
        | false =>
          refine run_ret1 63 #[.agg #[.int .i64 (elB p.bs k).1, .int .i64 (elB p.bs k).2], .int .i64 20] (some 29) (.bool false) (by kernel_rfl) (fun w1 k1 h1 => (by have h := rspan_any (elB p.bs k).1 (elB p.bs k).2 20 (by omega) (by omega) w1; rw [hd4] at h; exact h)) ?_
          refine run_auto [(30, .bool true)] 7 [true] [] [1, 2, 3] [0] (st' := ⟨[(1, .pointer (some ⟨b1, 0, none⟩)), (2, .bool false), (3, .int .i64 (k : Int))], [(b1, .cells #[.slice p.ba p.bs.length p.bc, .int .i64 p.zlo, .int .i64 p.zhi, .int .i64 p.rlo, .int .i64 p.rhi, .slice p.ra p.rs.length p.rc] 30 (0, 0))]⟩) (acc := [(.bool true, .bool true), (.bool true, .bool true)]) (by kernel_rfl) (by kernel_rfl) ⟨rfl, rfl, trivial⟩ ?_
          refine run_end (fn := f27) rfl (Nat.le_refl _) (by kernel_rfl) [] [.bool false] (e := []) (by kernel_rfl) trivial (fun w1 k1 h1 => ?_)
          have h : p.ok = false := by
            unfold Pr.ok vBls
            rw [all_no (p := fun s => inS s.1 s.2 (-20) 20) (d := (0, 0)) hlt hd4]
            simp
          exact ⟨by rw [h]; rfl, k1.keeps (fun _ h => h)⟩
        | true =>
          refine run_ret1 63 #[.agg #[.int .i64 (elB p.bs k).1, .int .i64 (elB p.bs k).2], .int .i64 20] (some 29) (.bool true) (by kernel_rfl) (fun w1 k1 h1 => (by have h := rspan_any (elB p.bs k).1 (elB p.bs k).2 20 (by omega) (by omega) w1; rw [hd4] at h; exact h)) ?_
          refine run_auto [(30, .bool false), (23, .int .i64 ((k + 1 : Nat) : Int))] 10 [false] [] [1, 2, 3] [0] (st' := ⟨[(1, .pointer (some ⟨b1, 0, none⟩)), (2, .bool false), (3, .int .i64 ((k + 1 : Nat) : Int))], [(b1, .cells #[.slice p.ba p.bs.length p.bc, .int .i64 p.zlo, .int .i64 p.zhi, .int .i64 p.rlo, .int .i64 p.rhi, .slice p.ra p.rs.length p.rc] 30 (0, 0))]⟩) (acc := [(.int .i64 (IntKind.i64.wrap ((k : Int) + 1)), .int .i64 ((k + 1 : Nat) : Int)), (.bool false, .bool false), (.bool false, .bool false)]) (by kernel_rfl) (by kernel_rfl) ⟨(wr (by omega) (by omega)), rfl, rfl, trivial⟩ ?_
          exact run_round (by kernel_rfl) (hJ0 (k + 1) (⟨by omega, fun j hj => (Nat.lt_succ_iff_lt_or_eq.1 hj).elim (hI2 j) (fun h => h ▸ hd4)⟩) (by omega))
    | true =>
      have hp2 := of_decide_eq_true hd2
      refine run_auto [(10, .bool false), (15, .bool true)] 13 [true] [0] [1, 2] [0] (st' := ⟨[(1, .pointer (some ⟨b1, 0, none⟩)), (2, .bool false)], [(b1, .cells #[.slice p.ba p.bs.length p.bc, .int .i64 p.zlo, .int .i64 p.zhi, .int .i64 p.rlo, .int .i64 p.rhi, .slice p.ra p.rs.length p.rc] 30 (0, 0))]⟩) (acc := [(.bool true, .bool true), (.bool (decide (8 < (p.rs.length : Int))), .bool true), (.pointer (some ⟨b1, 0, none⟩), .pointer (some ⟨b1, 0, none⟩)), (.bool false, .bool false)]) (by kernel_rfl) (by kernel_rfl) ⟨rfl, (bo hd2), rfl, rfl, trivial⟩ ?_
      refine run_end (fn := f27) rfl (Nat.le_refl _) (by kernel_rfl) [] [.bool false] (e := []) (by kernel_rfl) trivial (fun w1 k1 h1 => ?_)
      have h : p.ok = false := by
        unfold Pr.ok vRds
        simp; omega
      exact ⟨by rw [h]; rfl, k1.keeps (fun _ h => h)⟩


def longB (p : Pr) : Bool := decide (40 < max (p.bs.length : Int) (p.rs.length : Int))
set_option maxRecDepth 100000 in
theorem long_any (p : Pr) (w : World)  : Calls Try.prog 26 #[.agg #[.slice p.ba p.bs.length p.bc, .int .i64 p.zlo, .int .i64 p.zhi, .int .i64 p.rlo, .int .i64 p.rhi, .slice p.ra p.rs.length p.rc]] w (RetB (longB p) w) := by
  refine calls_run (fn := f26) (c := (f26.body).getD .skip) [.agg #[.slice p.ba p.bs.length p.bc, .int .i64 p.zlo, .int .i64 p.zhi, .int .i64 p.rlo, .int .i64 p.rhi, .slice p.ra p.rs.length p.rc]] func26 (by kernel_rfl) (fun _ => False) [] (fun _ h => by cases h) (List.Pairwise.nil) 11 (by kernel_rfl) (by simp) ?_
  refine run_auto [] 2 [] [] [0] [] (st' := ⟨[(0, .agg #[.slice p.ba p.bs.length p.bc, .int .i64 p.zlo, .int .i64 p.zhi, .int .i64 p.rlo, .int .i64 p.rhi, .slice p.ra p.rs.length p.rc])], []⟩) (acc := []) (by kernel_rfl) (by kernel_rfl) trivial ?_
  refine run_new (.cells #[.slice p.ba p.bs.length p.bc, .int .i64 p.zlo, .int .i64 p.zhi, .int .i64 p.rlo, .int .i64 p.rhi, .slice p.ra p.rs.length p.rc] 30 (0, 0)) (fun b1 => .pointer (some ⟨b1, 0, none⟩)) (some 1) (fun _ => by kernel_rfl) (fun b1 hb1 => ?_)
  cases hd1 : (decide (40 < (max (p.bs.length : Int) (p.rs.length : Int)))) with
  | false =>
    have hp1 := of_decide_eq_false hd1
    refine run_auto [(9, .int .i64 (max (p.bs.length : Int) (p.rs.length : Int))), (10, .bool false)] 14 [] [0, 0] [2] [] (st' := ⟨[(2, .bool false)], []⟩) (acc := [(.bool (decide (40 < (max (p.bs.length : Int) (p.rs.length : Int)))), .bool false), (.int .i64 (if (p.rs.length : Int) > (p.bs.length : Int) then (p.rs.length : Int) else (p.bs.length : Int)), .int .i64 (max (p.bs.length : Int) (p.rs.length : Int))), (.pointer (some ⟨b1, 0, none⟩), .pointer (some ⟨b1, 0, none⟩)), (.pointer (some ⟨b1, 0, none⟩), .pointer (some ⟨b1, 0, none⟩))]) (by kernel_rfl) (by kernel_rfl) ⟨(bo hd1), (mx _ _ _), rfl, rfl, trivial⟩ ?_
    refine run_end (fn := f26) rfl (Nat.le_refl _) (by kernel_rfl) [] [.bool false] (e := []) (by kernel_rfl) trivial (fun w1 k1 h1 => ?_)
    exact ⟨by unfold longB; rw [hd1]; rfl, k1.keeps (fun _ h => h)⟩
  | true =>
    have hp1 := of_decide_eq_true hd1
    refine run_auto [(9, .int .i64 (max (p.bs.length : Int) (p.rs.length : Int))), (10, .bool true)] 14 [] [0, 0] [2] [] (st' := ⟨[(2, .bool true)], []⟩) (acc := [(.bool (decide (40 < (max (p.bs.length : Int) (p.rs.length : Int)))), .bool true), (.int .i64 (if (p.rs.length : Int) > (p.bs.length : Int) then (p.rs.length : Int) else (p.bs.length : Int)), .int .i64 (max (p.bs.length : Int) (p.rs.length : Int))), (.pointer (some ⟨b1, 0, none⟩), .pointer (some ⟨b1, 0, none⟩)), (.pointer (some ⟨b1, 0, none⟩), .pointer (some ⟨b1, 0, none⟩))]) (by kernel_rfl) (by kernel_rfl) ⟨(bo hd1), (mx _ _ _), rfl, rfl, trivial⟩ ?_
    refine run_end (fn := f26) rfl (Nat.le_refl _) (by kernel_rfl) [] [.bool true] (e := []) (by kernel_rfl) trivial (fun w1 k1 h1 => ?_)
    exact ⟨by unfold longB; rw [hd1]; rfl, k1.keeps (fun _ h => h)⟩


theorem ten_loop {x q : Int} (h1 : q = x / 10 ∨ q = x / 10 + 1) (h2 : ¬ x < q * 10) : q = x / 10 := by omega
set_option maxRecDepth 100000 in
theorem lshows_any (z r m : Int) (z1 : -10 ≤ z) (z2 : z ≤ 10) (r1 : -5 ≤ r) (r2 : r ≤ 5) (m1 : 0 ≤ m) (m2 : m ≤ 60) (w : World)  : Calls Try.prog 25 #[.int .i64 z, .int .i64 r, .int .i64 m] w (RetI (shw (z, r) m) w) := by
  obtain ⟨hb1, hb2, hb3, hb4⟩ := shw_in (c := (z, r)) z1 z2 r1 r2 m1 m2
  dsimp only [shw] at hb1 hb2 hb3 hb4
  have d0 : -1000000 ≤ (r * m).tdiv 10 ∧ (r * m).tdiv 10 ≤ 1000000 := by have h3 := tdiv10 (r * m); split at h3 <;> omega
  refine calls_run (fn := f25) (c := (f25.body).getD .skip) [.int .i64 z, .int .i64 r, .int .i64 m] func25 (by kernel_rfl) (fun _ => False) [] (fun _ h => by cases h) (List.Pairwise.nil) 23 (by kernel_rfl) (by simp) ?_
  refine run_auto [(11, .int .i64 (r * m)), (13, .int .i64 (Int.tdiv (r * m) 10))] 19 [] [] [0, 6, 7, 8] [] (st' := ⟨[(0, .int .i64 z), (6, .int .i64 0), (7, .int .i64 (r * m)), (8, .int .i64 (Int.tdiv (r * m) 10))], []⟩) (acc := [(.int .i64 (IntKind.i64.wrap (Int.tdiv (r * m) 10)), .int .i64 (Int.tdiv (r * m) 10)), (.int .i64 (IntKind.i64.wrap (r * m)), .int .i64 (r * m))]) (by kernel_rfl) (by kernel_rfl) ⟨(tdv (by omega) (by omega)), (wr (by omega) (by omega)), trivial⟩ ?_
  refine run_auto [] 0 [] [] [0, 6, 7, 8] [] (st' := ⟨[(0, .int .i64 z), (6, .int .i64 0), (7, .int .i64 (r * m)), (8, .int .i64 (Int.tdiv (r * m) 10))], []⟩) (acc := []) (by kernel_rfl) (by kernel_rfl) trivial ?_
  refine run_loop (S := fun (q : Int) => ⟨[(0, .int .i64 z), (6, .int .i64 0), (7, .int .i64 (r * m)), (8, .int .i64 q)], []⟩) (fun q => q = r * m / 10 ∨ q = r * m / 10 + 1) (fun q => (q - r * m / 10).toNat) (Int.tdiv (r * m) 10) (by kernel_rfl) ((by have h3 := tdiv10 (r * m); split at h3 <;> omega)) (by kernel_rfl) (fun q hI0 J0 hJ0 => ?_)
  cases hd1 : (decide ((r * m) < (q * 10))) with
  | false =>
    have hp1 := of_decide_eq_false hd1
    refine run_auto [(15, .int .i64 (q * 10)), (17, .bool false), (22, .int .i64 (z + q))] 17 [false] [] [6] [] (st' := ⟨[(6, .int .i64 (z + q))], []⟩) (acc := [(.int .i64 (IntKind.i64.wrap (z + q)), .int .i64 (z + q)), (.bool false, .bool false), (.bool (decide ((r * m) < (q * 10))), .bool false), (.int .i64 (IntKind.i64.wrap (q * 10)), .int .i64 (q * 10))]) (by kernel_rfl) (by kernel_rfl) ⟨(wr (by omega) (by omega)), rfl, (bo hd1), (wr (by omega) (by omega)), trivial⟩ ?_
    refine run_end (fn := f25) rfl (Nat.le_refl _) (by kernel_rfl) [] [.int .i64 (z + q)] (e := []) (by kernel_rfl) trivial (fun w1 k1 h1 => ?_)
    exact ⟨by rw [ten_loop hI0 (by omega)]; rfl, k1.keeps (fun _ h => h)⟩
  | true =>
    have hp1 := of_decide_eq_true hd1
    refine run_auto [(15, .int .i64 (q * 10)), (17, .bool true), (19, .int .i64 (q - 1))] 17 [true] [] [0, 6, 7, 8] [] (st' := ⟨[(0, .int .i64 z), (6, .int .i64 0), (7, .int .i64 (r * m)), (8, .int .i64 (q - 1))], []⟩) (acc := [(.int .i64 (IntKind.i64.wrap (q - 1)), .int .i64 (q - 1)), (.bool true, .bool true), (.bool (decide ((r * m) < (q * 10))), .bool true), (.int .i64 (IntKind.i64.wrap (q * 10)), .int .i64 (q * 10))]) (by kernel_rfl) (by kernel_rfl) ⟨(wr (by omega) (by omega)), rfl, (bo hd1), (wr (by omega) (by omega)), trivial⟩ ?_
    exact run_round (by kernel_rfl) (hJ0 (q - 1) (by omega) (by omega))

end Go.Proofs.Ytmiobcnccbfknaa
