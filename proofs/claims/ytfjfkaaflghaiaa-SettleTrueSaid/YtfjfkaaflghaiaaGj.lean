/-
  A SETTLE THAT CAME IN, OPENED.
-/
import Derived.Test.YtfjfkaaflghaiaaHZk
import Derived.Test.YtfjfkaaflghaiaaGb
import Derived.Test.YtfjfkaaflghaiaaGg
import Derived.Deep.Slices
import Derived.Deep.Fields
namespace Go.Proofs.Ytfjfkaaflghaiaa
open Go.ChangeShapes Go.WideShapes Go.ChangeAt Go.RowKit Go.Proofs.Try
attribute [local irreducible] Run wpK

theorem cells_30 : Try.prog.cellsOf 30 = 1 := by kernel_rfl
theorem cells_54 : Try.prog.cellsOf 54 = 6 := by kernel_rfl
theorem cells_3 : Try.prog.cellsOf 3 = 1 := by kernel_rfl
theorem open_f23 {H : Type} {enc : TypeId × Value → H} {W : World} {base : Nat} {spare : Nat → Bool} {held : Bool} {n : Nat} {c0 c1 : Value} {y : DataW H × List MemPlace} (h : DataW.trod enc Try.prog W base spare held n 23 [c0, c1] = some y) : ∃ (x0 : Int) (x1 : Int), c0 = .int .i64 x0 ∧ c1 = .int .i64 x1 := by
  obtain ⟨xs, m, _, _, _, hlen, hg⟩ := DataW.trod_struct Try.underlying23 h
  have g0 := hg 0 _ rfl
  have g1 := hg 1 _ rfl
  match xs, hlen with
  | [y0, y1], _ =>
    simp [cells_3] at g0 g1
    obtain ⟨x0, h0, _, _⟩ := DataW.trod_int Try.underlying3 g0
    obtain ⟨x1, h1, _, _⟩ := DataW.trod_int Try.underlying3 g1
    exact ⟨x0, x1, by simpa using h0, by simpa using h1⟩
theorem cells_23 : Try.prog.cellsOf 23 = 2 := by kernel_rfl
theorem open_f54 {H : Type} {enc : TypeId × Value → H} {W : World} {base : Nat} {spare : Nat → Bool} {held : Bool} {n : Nat} {c0 c1 c2 c3 c4 c5 : Value} {y : DataW H × List MemPlace} (h : DataW.trod enc Try.prog W base spare held n 54 [c0, c1, c2, c3, c4, c5] = some y) : ∃ (x0 : Int) (x1 : Int) (x2 : Int) (x3 : Int) (x4 : Int) (x5 : Int), c0 = .int .i64 x0 ∧ c1 = .int .i64 x1 ∧ c2 = .int .i64 x2 ∧ c3 = .int .i64 x3 ∧ c4 = .int .i64 x4 ∧ c5 = .int .i64 x5 := by
  obtain ⟨xs, m, _, _, _, hlen, hg⟩ := DataW.trod_struct Try.underlying54 h
  have g0 := hg 0 _ rfl
  have g1 := hg 1 _ rfl
  have g2 := hg 2 _ rfl
  match xs, hlen with
  | [y0, y1, y2], _ =>
    simp [cells_23] at g0 g1 g2
    obtain ⟨x0, x1, rfl, rfl⟩ := open_f23 g0
    obtain ⟨x2, x3, rfl, rfl⟩ := open_f23 g1
    obtain ⟨x4, x5, rfl, rfl⟩ := open_f23 g2
    exact ⟨x0, x1, x2, x3, x4, x5, rfl, rfl, rfl, rfl, rfl, rfl⟩
theorem listN6 {α : Type} {l : List α} (h : l.length = 6) : ∃ x0 x1 x2 x3 x4 x5, l = [x0, x1, x2, x3, x4, x5] := by
  rcases l with _ | ⟨x0, _ | ⟨x1, _ | ⟨x2, _ | ⟨x3, _ | ⟨x4, _ | ⟨x5, _ | ⟨z, l⟩⟩⟩⟩⟩⟩⟩ <;> simp at h
  exact ⟨x0, x1, x2, x3, x4, x5, rfl⟩
set_option maxRecDepth 100000 in
theorem open_r30 {H : Type} {enc : TypeId × Value → H} {W : World} {held : Bool} {n : Nat} {c : Value} {y : DataW H × List MemPlace} (h : DataW.trod enc Try.prog W 0 (fun _ => true) held n 30 [c] = some y) : ∃ (a : Option Addr) (rs : List Bk) (cap : Nat), c = .slice a rs.length cap ∧ Bks W a rs ∧ rs.length ≤ maxLen := by
  rcases Go.Deep.open_slice Try.underlying30 h with ⟨h0, _⟩ | ⟨a, len, cap, m, n', D, Pl, hc, _, hlc, hcm, hm, _, hi⟩
  · exact ⟨none, [], 0, by simpa using h0, fun h => absurd rfl h, by simp⟩
  · simp only [if_true] at hm
    have hel : ∀ i, i < len → ∃ r : Bk, W.cell? (a.add (i * 6)) = some (.int .i64 r.1) ∧ W.cell? (a.add (i * 6 + 1)) = some (.int .i64 r.2.1) ∧ W.cell? (a.add (i * 6 + 2)) = some (.int .i64 r.2.2.1) ∧ W.cell? (a.add (i * 6 + 3)) = some (.int .i64 r.2.2.2.1) ∧ W.cell? (a.add (i * 6 + 4)) = some (.int .i64 r.2.2.2.2.1) ∧ W.cell? (a.add (i * 6 + 5)) = some (.int .i64 r.2.2.2.2.2) := by
      intro i hil
      obtain ⟨cs', hc', ht'⟩ := hi i (by omega)
      rw [cells_54] at hc'
      obtain ⟨_, hcl, hat⟩ := World.cells?_some hc'
      obtain ⟨c0, c1, c2, c3, c4, c5, rfl⟩ := listN6 hcl
      obtain ⟨x0, x1, x2, x3, x4, x5, rfl, rfl, rfl, rfl, rfl, rfl⟩ := open_f54 ht'
      have e : ∀ k, (a.add (i * 6)).add k = a.add (i * 6 + k) := fun k => Go.Deep.add_add a _ k
      exact ⟨(x0, x1, x2, x3, x4, x5), by have := hat 0 (by omega); rw [e] at this; simpa using this, by have := hat 1 (by omega); rw [e] at this; simpa using this, by have := hat 2 (by omega); rw [e] at this; simpa using this, by have := hat 3 (by omega); rw [e] at this; simpa using this, by have := hat 4 (by omega); rw [e] at this; simpa using this, by have := hat 5 (by omega); rw [e] at this; simpa using this⟩
    have hex : ∀ k, k ≤ len → ∃ rs : List Bk, rs.length = k ∧ ∀ i, i < k → W.cell? (a.add (i * 6)) = some (.int .i64 (rs[i]?.getD (0, 0, 0, 0, 0, 0)).1) ∧ W.cell? (a.add (i * 6 + 1)) = some (.int .i64 (rs[i]?.getD (0, 0, 0, 0, 0, 0)).2.1) ∧ W.cell? (a.add (i * 6 + 2)) = some (.int .i64 (rs[i]?.getD (0, 0, 0, 0, 0, 0)).2.2.1) ∧ W.cell? (a.add (i * 6 + 3)) = some (.int .i64 (rs[i]?.getD (0, 0, 0, 0, 0, 0)).2.2.2.1) ∧ W.cell? (a.add (i * 6 + 4)) = some (.int .i64 (rs[i]?.getD (0, 0, 0, 0, 0, 0)).2.2.2.2.1) ∧ W.cell? (a.add (i * 6 + 5)) = some (.int .i64 (rs[i]?.getD (0, 0, 0, 0, 0, 0)).2.2.2.2.2) := by
      intro k
      induction k with
      | zero => intro _; exact ⟨[], rfl, fun i hi => absurd hi (by omega)⟩
      | succ k ih =>
        intro hk
        obtain ⟨rs, hl, hr⟩ := ih (by omega)
        obtain ⟨r, h1⟩ := hel k (by omega)
        refine ⟨rs ++ [r], by simp [hl], fun i hi => ?_⟩
        by_cases e : i = k
        · subst e
          rw [List.getElem?_append_right (by omega), hl, Nat.sub_self]
          exact h1
        · rw [List.getElem?_append_left (by omega)]
          exact hr i (by omega)
    obtain ⟨rs, hl, hr⟩ := hex len (Nat.le_refl _)
    refine ⟨some a, rs, cap, by rw [hl]; simpa using hc, fun hne => ?_, by omega⟩
    have hpos := List.length_pos_iff.2 hne
    obtain ⟨b, o, spot⟩ := a
    have hspot : spot = none := by simpa [Addr.add] using World.cell?_spot (hr 0 (by omega)).1
    subst hspot
    exact ⟨b, o, rfl, fun i hi => by
      have := hr i (by omega)
      rw [add_none, add_none, add_none, add_none, add_none, add_none] at this
      exact this⟩
theorem cells_31 : Try.prog.cellsOf 31 = 1 := by kernel_rfl
theorem cells_61 : Try.prog.cellsOf 61 = 4 := by kernel_rfl
theorem open_f61 {H : Type} {enc : TypeId × Value → H} {W : World} {base : Nat} {spare : Nat → Bool} {held : Bool} {n : Nat} {c0 c1 c2 c3 : Value} {y : DataW H × List MemPlace} (h : DataW.trod enc Try.prog W base spare held n 61 [c0, c1, c2, c3] = some y) : ∃ (x0 : Int) (x1 : Int) (x2 : Int) (x3 : Int), c0 = .int .i64 x0 ∧ c1 = .int .i64 x1 ∧ c2 = .int .i64 x2 ∧ c3 = .int .i64 x3 := by
  obtain ⟨xs, m, _, _, _, hlen, hg⟩ := DataW.trod_struct Try.underlying61 h
  have g0 := hg 0 _ rfl
  have g1 := hg 1 _ rfl
  have g2 := hg 2 _ rfl
  match xs, hlen with
  | [y0, y1, y2], _ =>
    simp [cells_3, cells_23] at g0 g1 g2
    obtain ⟨x0, h0, _, _⟩ := DataW.trod_int Try.underlying3 g0
    obtain ⟨x1, h1, _, _⟩ := DataW.trod_int Try.underlying3 g1
    obtain ⟨x2, x3, rfl, rfl⟩ := open_f23 g2
    exact ⟨x0, x1, x2, x3, by simpa using h0, by simpa using h1, rfl, rfl⟩
theorem listN4 {α : Type} {l : List α} (h : l.length = 4) : ∃ x0 x1 x2 x3, l = [x0, x1, x2, x3] := by
  rcases l with _ | ⟨x0, _ | ⟨x1, _ | ⟨x2, _ | ⟨x3, _ | ⟨z, l⟩⟩⟩⟩⟩ <;> simp at h
  exact ⟨x0, x1, x2, x3, rfl⟩
set_option maxRecDepth 100000 in
theorem open_r31 {H : Type} {enc : TypeId × Value → H} {W : World} {held : Bool} {n : Nat} {c : Value} {y : DataW H × List MemPlace} (h : DataW.trod enc Try.prog W 0 (fun _ => true) held n 31 [c] = some y) : ∃ (a : Option Addr) (rs : List Tc) (cap : Nat), c = .slice a rs.length cap ∧ Tcs W a rs ∧ rs.length ≤ maxLen := by
  rcases Go.Deep.open_slice Try.underlying31 h with ⟨h0, _⟩ | ⟨a, len, cap, m, n', D, Pl, hc, _, hlc, hcm, hm, _, hi⟩
  · exact ⟨none, [], 0, by simpa using h0, fun h => absurd rfl h, by simp⟩
  · simp only [if_true] at hm
    have hel : ∀ i, i < len → ∃ r : Tc, W.cell? (a.add (i * 4)) = some (.int .i64 r.1) ∧ W.cell? (a.add (i * 4 + 1)) = some (.int .i64 r.2.1) ∧ W.cell? (a.add (i * 4 + 2)) = some (.int .i64 r.2.2.1) ∧ W.cell? (a.add (i * 4 + 3)) = some (.int .i64 r.2.2.2) := by
      intro i hil
      obtain ⟨cs', hc', ht'⟩ := hi i (by omega)
      rw [cells_61] at hc'
      obtain ⟨_, hcl, hat⟩ := World.cells?_some hc'
      obtain ⟨c0, c1, c2, c3, rfl⟩ := listN4 hcl
      obtain ⟨x0, x1, x2, x3, rfl, rfl, rfl, rfl⟩ := open_f61 ht'
      have e : ∀ k, (a.add (i * 4)).add k = a.add (i * 4 + k) := fun k => Go.Deep.add_add a _ k
      exact ⟨(x0, x1, x2, x3), by have := hat 0 (by omega); rw [e] at this; simpa using this, by have := hat 1 (by omega); rw [e] at this; simpa using this, by have := hat 2 (by omega); rw [e] at this; simpa using this, by have := hat 3 (by omega); rw [e] at this; simpa using this⟩
    have hex : ∀ k, k ≤ len → ∃ rs : List Tc, rs.length = k ∧ ∀ i, i < k → W.cell? (a.add (i * 4)) = some (.int .i64 (rs[i]?.getD (0, 0, 0, 0)).1) ∧ W.cell? (a.add (i * 4 + 1)) = some (.int .i64 (rs[i]?.getD (0, 0, 0, 0)).2.1) ∧ W.cell? (a.add (i * 4 + 2)) = some (.int .i64 (rs[i]?.getD (0, 0, 0, 0)).2.2.1) ∧ W.cell? (a.add (i * 4 + 3)) = some (.int .i64 (rs[i]?.getD (0, 0, 0, 0)).2.2.2) := by
      intro k
      induction k with
      | zero => intro _; exact ⟨[], rfl, fun i hi => absurd hi (by omega)⟩
      | succ k ih =>
        intro hk
        obtain ⟨rs, hl, hr⟩ := ih (by omega)
        obtain ⟨r, h1⟩ := hel k (by omega)
        refine ⟨rs ++ [r], by simp [hl], fun i hi => ?_⟩
        by_cases e : i = k
        · subst e
          rw [List.getElem?_append_right (by omega), hl, Nat.sub_self]
          exact h1
        · rw [List.getElem?_append_left (by omega)]
          exact hr i (by omega)
    obtain ⟨rs, hl, hr⟩ := hex len (Nat.le_refl _)
    refine ⟨some a, rs, cap, by rw [hl]; simpa using hc, fun hne => ?_, by omega⟩
    have hpos := List.length_pos_iff.2 hne
    obtain ⟨b, o, spot⟩ := a
    have hspot : spot = none := by simpa [Addr.add] using World.cell?_spot (hr 0 (by omega)).1
    subst hspot
    exact ⟨b, o, rfl, fun i hi => by
      have := hr i (by omega)
      rw [add_none, add_none, add_none, add_none] at this
      exact this⟩
theorem cells_33 : Try.prog.cellsOf 33 = 4 := by kernel_rfl
set_option maxRecDepth 100000 in
theorem open_settle {H : Type} {enc : TypeId × Value → H} {W : World} {held : Bool} {r : Reach} {b0 : Nat} {v : Value} {d : DataW H} {p : List MemPlace} (hv : Value.okWide Try.prog W r b0 33 v) (h : DataW.Trod enc Try.prog W 0 (fun _ => true) held 33 v d p) : ∃ B : Sb, v = B.v ∧ B.In W := by
  obtain ⟨cs, rfl, hsz⟩ := okWide_struct Try.underlying33 hv
  obtain ⟨l⟩ := cs
  obtain ⟨c0, c1, c2, c3, rfl⟩ := listN4 (hsz.trans cells_33)
  obtain ⟨fuel, hf⟩ := h
  obtain ⟨xs, n, _, _, _, hlen, hg⟩ := DataW.trod_struct Try.underlying33 hf
  have g0 := hg 0 _ rfl
  have g1 := hg 1 _ rfl
  have g2 := hg 2 _ rfl
  have g3 := hg 3 _ rfl
  obtain ⟨y0, y1, y2, y3, rfl⟩ := listN4 hlen
  simp [cells_30, cells_3, cells_31, Value.cells] at g0 g1 g2 g3
  obtain ⟨a0, l0, k0, rfl, hr0, hl0⟩ := open_r30 g0
  obtain ⟨x1, h1, _, _⟩ := DataW.trod_int Try.underlying3 g1
  obtain rfl : c1 = .int .i64 x1 := by simpa using h1
  obtain ⟨x2, h2, _, _⟩ := DataW.trod_int Try.underlying3 g2
  obtain rfl : c2 = .int .i64 x2 := by simpa using h2
  obtain ⟨a3, l3, k3, rfl, hr3, hl3⟩ := open_r31 g3
  exact ⟨⟨a0, k0, l0, x1, x2, a3, k3, l3⟩, rfl, ⟨hr0, hr3, hl0, hl3⟩⟩
end Go.Proofs.Ytfjfkaaflghaiaa
