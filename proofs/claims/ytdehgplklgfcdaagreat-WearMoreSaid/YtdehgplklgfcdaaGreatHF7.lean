/-
  LAW: WearLater, from region 18 on, where no uses are joined.
-/
import Derived.Test.YtdehgplklgfcdaaGreatGn
import Derived.Test.YtdehgplklgfcdaaGreatHF6
namespace Go.Proofs.YtdehgplklgfcdaaGreat
open Go.RowKit Go.Proofs.Tryz


theorem take_src {p : Wb} {w : World} (hp : p.In w) {be oe : Nat} (hbe : p.ea = some ⟨be, oe, none⟩) (k : Nat) {w1 : World} (k1 : Kept (fun _ => False) w w1) : ∀ j u, ((p.es.take k).flatMap evR)[j]? = some u → w1.cell? ((⟨be, oe, none⟩ : Addr).add j) = some u := by
  intro j u hu
  have hne : p.es ≠ [] := fun h => by rw [h] at hu; simp at hu
  obtain ⟨b2, o2, h1, h2⟩ := (hp.ev.keep (k1.keeps (fun _ h => h))).flat hne
  rw [hbe] at h1
  injection h1 with h1
  injection h1 with e1 e2
  subst e1; subst e2
  refine h2 j u ?_
  have e : p.es.flatMap evR = (p.es.take k).flatMap evR ++ (p.es.drop k).flatMap evR := by rw [← List.flatMap_append, List.take_append_drop]
  rw [e, List.getElem?_append_left (List.getElem?_eq_some_iff.1 hu).1]
  exact hu
end Go.Proofs.YtdehgplklgfcdaaGreat
