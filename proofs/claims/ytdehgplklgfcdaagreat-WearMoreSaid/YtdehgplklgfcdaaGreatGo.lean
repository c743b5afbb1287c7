/-
  A BLOCK THAT CAME IN, OPENED, WITH HOW MUCH ITS ROW CAN HOLD.
-/
import Derived.Test.YtdehgplklgfcdaaGreatHZk
import Derived.Test.YtdehgplklgfcdaaGreatGb
import Derived.Test.YtdehgplklgfcdaaGreatGi
import Derived.Deep.Slices
import Derived.Deep.Fields
namespace Go.Proofs.YtdehgplklgfcdaaGreat
open Go.ChangeShapes Go.WideShapes Go.ChangeAt Go.RowKit Go.Proofs.Tryz

theorem cells_23 : Tryz.prog.cellsOf 23 = 2 := by kernel_rfl
theorem cells_3 : Tryz.prog.cellsOf 3 = 1 := by kernel_rfl
theorem open_f23 {H : Type} {enc : TypeId × Value → H} {W : World} {base : Nat} {spare : Nat → Bool} {held : Bool} {n : Nat} {c0 c1 : Value} {y : DataW H × List MemPlace} (h : DataW.trod enc Tryz.prog W base spare held n 23 [c0, c1] = some y) : ∃ (x0 : Int) (x1 : Int), c0 = .int .i64 x0 ∧ c1 = .int .i64 x1 := by
  obtain ⟨xs, m, _, _, _, hlen, hg⟩ := DataW.trod_struct Tryz.underlying23 h
  have g0 := hg 0 _ rfl
  have g1 := hg 1 _ rfl
  match xs, hlen with
  | [y0, y1], _ =>
    simp [cells_3] at g0 g1
    obtain ⟨x0, h0, _, _⟩ := DataW.trod_int Tryz.underlying3 g0
    obtain ⟨x1, h1, _, _⟩ := DataW.trod_int Tryz.underlying3 g1
    exact ⟨x0, x1, by simpa using h0, by simpa using h1⟩
theorem cells_24 : Tryz.prog.cellsOf 24 = 1 := by kernel_rfl
theorem cells_55 : Tryz.prog.cellsOf 55 = 4 := by kernel_rfl
theorem open_f55 {H : Type} {enc : TypeId × Value → H} {W : World} {base : Nat} {spare : Nat → Bool} {held : Bool} {n : Nat} {c0 c1 c2 c3 : Value} {y : DataW H × List MemPlace} (h : DataW.trod enc Tryz.prog W base spare held n 55 [c0, c1, c2, c3] = some y) : ∃ (x0 : Int) (x1 : Int) (x2 : Int) (x3 : Int), c0 = .int .i64 x0 ∧ c1 = .int .i64 x1 ∧ c2 = .int .i64 x2 ∧ c3 = .int .i64 x3 := by
  obtain ⟨xs, m, _, _, _, hlen, hg⟩ := DataW.trod_struct Tryz.underlying55 h
  have g0 := hg 0 _ rfl
  have g1 := hg 1 _ rfl
  have g2 := hg 2 _ rfl
  match xs, hlen with
  | [y0, y1, y2], _ =>
    simp [cells_3, cells_23] at g0 g1 g2
    obtain ⟨x0, h0, _, _⟩ := DataW.trod_int Tryz.underlying3 g0
    obtain ⟨x1, h1, _, _⟩ := DataW.trod_int Tryz.underlying3 g1
    obtain ⟨x2, x3, rfl, rfl⟩ := open_f23 g2
    exact ⟨x0, x1, x2, x3, by simpa using h0, by simpa using h1, rfl, rfl⟩
theorem listN4 {α : Type} {l : List α} (h : l.length = 4) : ∃ x0 x1 x2 x3, l = [x0, x1, x2, x3] := by
  rcases l with _ | ⟨x0, _ | ⟨x1, _ | ⟨x2, _ | ⟨x3, _ | ⟨z, l⟩⟩⟩⟩⟩ <;> simp at h
  exact ⟨x0, x1, x2, x3, rfl⟩
set_option maxRecDepth 100000 in
theorem open_r24 {H : Type} {enc : TypeId × Value → H} {W : World} {held : Bool} {n : Nat} {c : Value} {y : DataW H × List MemPlace} (h : DataW.trod enc Tryz.prog W 0 (fun _ => true) held n 24 [c] = some y) : ∃ (a : Option Addr) (rs : List Ev) (cap : Nat), c = .slice a rs.length cap ∧ Evs W a rs ∧ rs.length ≤ maxLen ∧ rs.length ≤ cap := by
  rcases Go.Deep.open_slice Tryz.underlying24 h with ⟨h0, _⟩ | ⟨a, len, cap, m, n', D, Pl, hc, _, hlc, hcm, hm, _, hi⟩
  · exact ⟨none, [], 0, by simpa using h0, fun h => absurd rfl h, by simp⟩
  · simp only [if_true] at hm
    have hel : ∀ i, i < len → ∃ r : Ev, W.cell? (a.add (i * 4)) = some (.int .i64 r.1) ∧ W.cell? (a.add (i * 4 + 1)) = some (.int .i64 r.2.1) ∧ W.cell? (a.add (i * 4 + 2)) = some (.int .i64 r.2.2.1) ∧ W.cell? (a.add (i * 4 + 3)) = some (.int .i64 r.2.2.2) := by
      intro i hil
      obtain ⟨cs', hc', ht'⟩ := hi i (by omega)
      rw [cells_55] at hc'
      obtain ⟨_, hcl, hat⟩ := World.cells?_some hc'
      obtain ⟨c0, c1, c2, c3, rfl⟩ := listN4 hcl
      obtain ⟨x0, x1, x2, x3, rfl, rfl, rfl, rfl⟩ := open_f55 ht'
      have e : ∀ k, (a.add (i * 4)).add k = a.add (i * 4 + k) := fun k => Go.Deep.add_add a _ k
      exact ⟨(x0, x1, x2, x3), by have := hat 0 (by omega); rw [e] at this; simpa using this, by have := hat 1 (by omega); rw [e] at this; simpa using this, by have := hat 2 (by omega); rw [e] at this; simpa using this, by have := hat 3 (by omega); rw [e] at this; simpa using this⟩
    have hex : ∀ k, k ≤ len → ∃ rs : List Ev, rs.length = k ∧ ∀ i, i < k → W.cell? (a.add (i * 4)) = some (.int .i64 (rs[i]?.getD (0, 0, 0, 0)).1) ∧ W.cell? (a.add (i * 4 + 1)) = some (.int .i64 (rs[i]?.getD (0, 0, 0, 0)).2.1) ∧ W.cell? (a.add (i * 4 + 2)) = some (.int .i64 (rs[i]?.getD (0, 0, 0, 0)).2.2.1) ∧ W.cell? (a.add (i * 4 + 3)) = some (.int .i64 (rs[i]?.getD (0, 0, 0, 0)).2.2.2) := by
      intro k
      induction k with
      | zero => intro _; exact ⟨[], rfl, fun i hi => absurd hi (by omega)⟩
      | succ k ih =>
        intro hk
        obtain ⟨rs, hl, hr⟩ := ih (by omega)
        obtain ⟨r, h1⟩ := hel k (by omega)
        refine ⟨rs ++ [r], by simp [hl], fun i hi => ?_⟩
        by_cases e : i = k
        · subst e
          rw [List.getElem?_append_right (by omega), hl, Nat.sub_self]
          exact h1
        · rw [List.getElem?_append_left (by omega)]
          exact hr i (by omega)
    obtain ⟨rs, hl, hr⟩ := hex len (Nat.le_refl _)
    refine ⟨some a, rs, cap, by rw [hl]; simpa using hc, fun hne => ?_, by omega⟩
    have hpos := List.length_pos_iff.2 hne
    obtain ⟨b, o, spot⟩ := a
    have hspot : spot = none := by simpa [Addr.add] using World.cell?_spot (hr 0 (by omega)).1
    subst hspot
    exact ⟨b, o, rfl, fun i hi => by
      have := hr i (by omega)
      rw [add_none, add_none, add_none, add_none] at this
      exact this⟩
theorem listN5 {α : Type} {l : List α} (h : l.length = 5) : ∃ x0 x1 x2 x3 x4, l = [x0, x1, x2, x3, x4] := by
  rcases l with _ | ⟨x0, _ | ⟨x1, _ | ⟨x2, _ | ⟨x3, _ | ⟨x4, _ | ⟨z, l⟩⟩⟩⟩⟩⟩ <;> simp at h
  exact ⟨x0, x1, x2, x3, x4, rfl⟩
theorem listN3 {α : Type} {l : List α} (h : l.length = 3) : ∃ x0 x1 x2, l = [x0, x1, x2] := by
  rcases l with _ | ⟨x0, _ | ⟨x1, _ | ⟨x2, _ | ⟨z, l⟩⟩⟩⟩ <;> simp at h
  exact ⟨x0, x1, x2, rfl⟩
theorem cells_26 : Tryz.prog.cellsOf 26 = 5 := by kernel_rfl
set_option maxRecDepth 100000 in
theorem open_wearC {H : Type} {enc : TypeId × Value → H} {W : World} {held : Bool} {r : Reach} {b0 : Nat} {v : Value} {d : DataW H} {p : List MemPlace} (hv : Value.okWide Tryz.prog W r b0 26 v) (h : DataW.Trod enc Tryz.prog W 0 (fun _ => true) held 26 v d p) : ∃ B : Wb, v = B.v ∧ B.In W ∧ B.es.length ≤ B.ec := by
  obtain ⟨cs, rfl, hsz⟩ := okWide_struct Tryz.underlying26 hv
  obtain ⟨l⟩ := cs
  obtain ⟨c0, c1, c2, c3, c4, rfl⟩ := listN5 (hsz.trans cells_26)
  obtain ⟨fuel, hf⟩ := h
  obtain ⟨xs, n, _, _, _, hlen, hg⟩ := DataW.trod_struct Tryz.underlying26 hf
  have g0 := hg 0 _ rfl
  have g1 := hg 1 _ rfl
  have g2 := hg 2 _ rfl
  obtain ⟨y0, y1, y2, rfl⟩ := listN3 hlen
  simp [cells_23, cells_24, Value.cells] at g0 g1 g2
  obtain ⟨x0, x1, rfl, rfl⟩ := open_f23 g0
  obtain ⟨x2, x3, rfl, rfl⟩ := open_f23 g1
  obtain ⟨a2, l2, k2, rfl, hr2, hl2⟩ := open_r24 g2
  exact ⟨⟨x0, x1, x2, x3, a2, k2, l2⟩, rfl, ⟨hr2, hl2.1⟩, hl2.2⟩
end Go.Proofs.YtdehgplklgfcdaaGreat
