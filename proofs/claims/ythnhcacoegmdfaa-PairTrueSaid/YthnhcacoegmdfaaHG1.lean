/-
  LAW: PairGroups: numbers.
-/
import Derived.Test.YthnhcacoegmdfaaHF3
namespace Go.Proofs.Ythnhcacoegmdfaa
open Go.RowKit Go.Proofs.Try


theorem Lnk.more {rs : List Rdg} {i j : Nat} (h : Lnk rs i j) (r : Rdg) : Lnk (rs ++ [r]) i j := by
  obtain ⟨q, hq, h⟩ := h
  exact ⟨q, List.mem_append_left _ hq, h⟩
theorem Hang.more {rs : List Rdg} {i j : Nat} (h : Hang rs i j) (r : Rdg) : Hang (rs ++ [r]) i j := by
  induction h with
  | own => exact .own
  | on _ l ih => exact .on ih (l.more r)
theorem Hang.less {rs : List Rdg} {r : Rdg} {i j : Nat} (h : Hang (rs ++ [r]) i j) : Hang rs i j ∨ (Hang rs i r.a ∧ Hang rs r.b j) ∨ (Hang rs i r.b ∧ Hang rs r.a j) := by
  induction h with
  | own => exact .inl .own
  | on h1 l ih =>
    obtain ⟨q, hq, hl⟩ := l
    rcases List.mem_append.1 hq with hq | hq
    · rcases ih with ih | ⟨i1, i2⟩ | ⟨i1, i2⟩
      · exact .inl (.on ih ⟨q, hq, hl⟩)
      · exact .inr (.inl ⟨i1, .on i2 ⟨q, hq, hl⟩⟩)
      · exact .inr (.inr ⟨i1, .on i2 ⟨q, hq, hl⟩⟩)
    · rw [List.mem_singleton] at hq
      subst hq
      rcases hl with ⟨e1, e2⟩ | ⟨e1, e2⟩
      · subst e1; subst e2
        rcases ih with ih | ⟨i1, i2⟩ | ⟨i1, i2⟩
        · exact .inr (.inl ⟨ih, .own⟩)
        · exact .inr (.inl ⟨i1, .own⟩)
        · exact .inl i1
      · subst e1; subst e2
        rcases ih with ih | ⟨i1, i2⟩ | ⟨i1, i2⟩
        · exact .inr (.inr ⟨ih, .own⟩)
        · exact .inl i1
        · exact .inr (.inr ⟨i1, .own⟩)
end Go.Proofs.Ythnhcacoegmdfaa
