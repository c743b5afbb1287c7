/-
  A BLOCK THAT CAME IN, OPENED: what it holds, and where.
-/
import Derived.Test.YtmhpgjlegajpeaaZk
import Derived.Test.YtmhpgjlegajpeaaA3
import Derived.Deep.Slices
import Derived.Deep.Fields
namespace Go.Proofs.Ytmhpgjlegajpeaa
open Go.ChangeShapes Go.WideShapes Go.ChangeAt Go.RowKit

theorem cells_warm : Try.prog.cellsOf 26 = 6 := by kernel_rfl
theorem cells_ints : Try.prog.cellsOf 35 = 1 := by kernel_rfl
theorem cells_int : Try.prog.cellsOf 3 = 1 := by kernel_rfl
theorem cells_span : Try.prog.cellsOf 23 = 2 := by kernel_rfl
theorem cells_reads : Try.prog.cellsOf 24 = 1 := by kernel_rfl
theorem cells_read : Try.prog.cellsOf 53 = 4 := by kernel_rfl
theorem add_none (b o k : Nat) : (⟨b, o, none⟩ : Addr).add k = ⟨b, o + k, none⟩ := by
  unfold Addr.add
  split <;> simp_all
theorem list3 {α : Type} {l : List α} (h : l.length = 3) : ∃ a b c, l = [a, b, c] := by
  rcases l with _ | ⟨a, _ | ⟨b, _ | ⟨c, _ | ⟨d, l⟩⟩⟩⟩ <;> simp at h
  exact ⟨a, b, c, rfl⟩
theorem list4 {α : Type} {l : List α} (h : l.length = 4) : ∃ a b c d, l = [a, b, c, d] := by
  rcases l with _ | ⟨a, _ | ⟨b, _ | ⟨c, _ | ⟨d, _ | ⟨e, l⟩⟩⟩⟩⟩ <;> simp at h
  exact ⟨a, b, c, d, rfl⟩
theorem list2 {α : Type} {l : List α} (h : l.length = 2) : ∃ a b, l = [a, b] := by
  rcases l with _ | ⟨a, _ | ⟨b, _ | ⟨c, l⟩⟩⟩ <;> simp at h
  exact ⟨a, b, rfl⟩
theorem list6 {α : Type} {l : List α} (h : l.length = 6) : ∃ a b c d e f, l = [a, b, c, d, e, f] := by
  rcases l with _ | ⟨a, _ | ⟨b, _ | ⟨c, _ | ⟨d, _ | ⟨e, _ | ⟨f, _ | ⟨g, l⟩⟩⟩⟩⟩⟩⟩ <;> simp at h
  exact ⟨a, b, c, d, e, f, rfl⟩
section
variable {H : Type} {enc : TypeId × Value → H} {W : World} {base : Nat} {spare : Nat → Bool} {held : Bool}
theorem open_span {n : Nat} {c0 c1 : Value} {y : DataW H × List MemPlace} (h : DataW.trod enc Try.prog W base spare held n 23 [c0, c1] = some y) : ∃ lo hi : Int, c0 = .int .i64 lo ∧ c1 = .int .i64 hi := by
  obtain ⟨xs, m, _, _, _, hlen, hg⟩ := DataW.trod_struct Try.underlying23 h
  have g0 := hg 0 _ rfl
  have g1 := hg 1 _ rfl
  match xs, hlen with
  | [y0, y1], _ =>
    simp [cells_int] at g0 g1
    obtain ⟨a, h0, _, _⟩ := DataW.trod_int Try.underlying3 g0
    obtain ⟨b, h1, _, _⟩ := DataW.trod_int Try.underlying3 g1
    exact ⟨a, b, by simpa using h0, by simpa using h1⟩
theorem open_wr {n : Nat} {c0 c1 c2 c3 : Value} {y : DataW H × List MemPlace} (h : DataW.trod enc Try.prog W base spare held n 53 [c0, c1, c2, c3] = some y) : ∃ p q lo hi : Int, c0 = .int .i64 p ∧ c1 = .int .i64 q ∧ c2 = .int .i64 lo ∧ c3 = .int .i64 hi := by
  obtain ⟨xs, m, _, _, _, hlen, hg⟩ := DataW.trod_struct Try.underlying53 h
  have g0 := hg 0 _ rfl
  have g1 := hg 1 _ rfl
  match xs, hlen with
  | [y0, y1], _ =>
    simp [cells_span] at g0 g1
    obtain ⟨a, b, rfl, rfl⟩ := open_span g0
    obtain ⟨c, d, rfl, rfl⟩ := open_span g1
    exact ⟨a, b, c, d, rfl, rfl, rfl, rfl⟩
theorem open_wrs {n : Nat} {c : Value} {y : DataW H × List MemPlace} (h : DataW.trod enc Try.prog W 0 (fun _ => true) held n 24 [c] = some y) : ∃ (a : Option Addr) (rs : List Wr) (cap : Nat), c = .slice a rs.length cap ∧ Wrs W a rs ∧ rs.length ≤ maxLen := by
  rcases Go.Deep.open_slice Try.underlying24 h with ⟨h0, _⟩ | ⟨a, len, cap, m, n', D, Pl, hc, _, hlc, hcm, hm, _, hi⟩
  · exact ⟨none, [], 0, by simpa using h0, fun h => absurd rfl h, by simp⟩
  · simp only [if_true] at hm
    have hel : ∀ i, i < len → ∃ r : Wr, W.cell? (a.add (i * 4)) = some (.int .i64 r.1) ∧ W.cell? (a.add (i * 4 + 1)) = some (.int .i64 r.2.1) ∧ W.cell? (a.add (i * 4 + 2)) = some (.int .i64 r.2.2.1) ∧ W.cell? (a.add (i * 4 + 3)) = some (.int .i64 r.2.2.2) := by
      intro i hil
      obtain ⟨cs', hc', ht'⟩ := hi i (by omega)
      rw [cells_read] at hc'
      obtain ⟨_, hcl, hat⟩ := World.cells?_some hc'
      obtain ⟨c0, c1, c2, c3, rfl⟩ := list4 hcl
      obtain ⟨p, q, lo, hi', rfl, rfl, rfl, rfl⟩ := open_wr ht'
      have e : ∀ k, (a.add (i * 4)).add k = a.add (i * 4 + k) := fun k => Go.Deep.add_add a _ k
      exact ⟨(p, q, lo, hi'), by have := hat 0 (by omega); rw [e] at this; simpa using this, by have := hat 1 (by omega); rw [e] at this; simpa using this, by have := hat 2 (by omega); rw [e] at this; simpa using this, by have := hat 3 (by omega); rw [e] at this; simpa using this⟩
    have hex : ∀ k, k ≤ len → ∃ rs : List Wr, rs.length = k ∧ ∀ i, i < k → W.cell? (a.add (i * 4)) = some (.int .i64 (rs[i]?.getD (0, 0, 0, 0)).1) ∧ W.cell? (a.add (i * 4 + 1)) = some (.int .i64 (rs[i]?.getD (0, 0, 0, 0)).2.1) ∧ W.cell? (a.add (i * 4 + 2)) = some (.int .i64 (rs[i]?.getD (0, 0, 0, 0)).2.2.1) ∧ W.cell? (a.add (i * 4 + 3)) = some (.int .i64 (rs[i]?.getD (0, 0, 0, 0)).2.2.2) := by
      intro k
      induction k with
      | zero => intro _; exact ⟨[], rfl, fun i hi => absurd hi (by omega)⟩
      | succ k ih =>
        intro hk
        obtain ⟨rs, hl, hr⟩ := ih (by omega)
        obtain ⟨r, h1⟩ := hel k (by omega)
        refine ⟨rs ++ [r], by simp [hl], fun i hi => ?_⟩
        by_cases e : i = k
        · subst e
          rw [List.getElem?_append_right (by omega), hl, Nat.sub_self]
          exact h1
        · rw [List.getElem?_append_left (by omega)]
          exact hr i (by omega)
    obtain ⟨rs, hl, hr⟩ := hex len (Nat.le_refl _)
    refine ⟨some a, rs, cap, by rw [hl]; simpa using hc, fun hne => ?_, by omega⟩
    have hpos := List.length_pos_iff.2 hne
    obtain ⟨b, o, spot⟩ := a
    have hspot : spot = none := by simpa [Addr.add] using World.cell?_spot (hr 0 (by omega)).1
    subst hspot
    exact ⟨b, o, rfl, fun i hi => by
      have := hr i (by omega)
      rw [add_none, add_none, add_none, add_none] at this
      exact this⟩
theorem open_is {n : Nat} {c : Value} {y : DataW H × List MemPlace} (h : DataW.trod enc Try.prog W 0 (fun _ => true) held n 35 [c] = some y) : ∃ (a : Option Addr) (xs : List Int) (cap : Nat), c = .slice a xs.length cap ∧ Ints W a xs ∧ xs.length ≤ maxLen := by
  rcases open_ints Try.underlying35 Try.underlying3 cells_int h with ⟨h0, _⟩ | ⟨a, len, cap, zs, hc, _, hlc, hcm, hz, _, hcell, _⟩
  · exact ⟨none, [], 0, by simpa using h0, fun h => absurd rfl h, by simp⟩
  · simp only [if_true] at hz
    refine ⟨some a, zs.take len, cap, by rw [List.length_take, Nat.min_eq_left (by omega)]; simpa using hc, fun hne => ?_, by rw [List.length_take]; omega⟩
    have hpos := List.length_pos_iff.2 hne
    rw [List.length_take] at hpos
    obtain ⟨b, o, spot⟩ := a
    have hspot : spot = none := by simpa [Addr.add] using World.cell?_spot (hcell 0 (by omega))
    subst hspot
    refine ⟨b, o, rfl, fun i hi => ?_⟩
    rw [List.length_take] at hi
    have := hcell i (by omega)
    rw [add_none] at this
    rw [List.getElem?_take_of_lt (by omega)]
    exact this
set_option maxRecDepth 100000 in
theorem open_warm {r : Reach} {b0 : Nat} {v : Value} {d : DataW H} {p : List MemPlace} (hv : Value.okWide Try.prog W r b0 26 v) (h : DataW.Trod enc Try.prog W 0 (fun _ => true) held 26 v d p) : ∃ B : Wm, v = B.v ∧ B.In W := by
  obtain ⟨cs, rfl, hsz⟩ := okWide_struct Try.underlying26 hv
  obtain ⟨l⟩ := cs
  obtain ⟨c0, c1, c2, c3, c4, c5, rfl⟩ := list6 (hsz.trans cells_warm)
  obtain ⟨fuel, hf⟩ := h
  obtain ⟨xs, n, _, _, _, hlen, hg⟩ := DataW.trod_struct Try.underlying26 hf
  have g0 := hg 0 _ rfl
  have g1 := hg 1 _ rfl
  have g2 := hg 2 _ rfl
  have g3 := hg 3 _ rfl
  obtain ⟨y0, y1, y2, y3, rfl⟩ := list4 hlen
  · · simp [cells_int, cells_span, cells_reads, Value.cells] at g0 g1 g2 g3
      obtain ⟨mk, h0, _, _⟩ := DataW.trod_int Try.underlying3 g0
      obtain rfl : c0 = .int .i64 mk := by simpa using h0
      obtain ⟨llo, lhi, rfl, rfl⟩ := open_span g1
      obtain ⟨clo, chi, rfl, rfl⟩ := open_span g2
      obtain ⟨ra, rs, rc, rfl, hr, hrl⟩ := open_wrs g3
      exact ⟨⟨mk, llo, lhi, clo, chi, ra, rc, rs⟩, rfl, ⟨hr, hrl⟩⟩
end
end Go.Proofs.Ytmhpgjlegajpeaa
