/-
  LAW: WearMore: slices of a row; an append of nothing.
-/
import Derived.Test.YtdehgplklgfcdaaGreatHL1
import Derived.Test.YtdehgplklgfcdaaGreatHF9
namespace Go.Proofs.YtdehgplklgfcdaaGreat
open Go.RowKit Go.Proofs.Tryz
attribute [local irreducible] Run wpK


theorem app_zero {P : Program} {t ty e : TypeId} {n : Nat} (ht : P.underlying t = some (.slice e)) (hs : tySize P e = some n) (b a : Option Addr) (len cap m c : Nat) (hm : m = 0) (h : len ≤ cap) (w : World) : (appSem t ty (.slice b len cap) (.slice a m c)).run P w = .ok (.value (.slice b len cap)) w := by
  subst hm
  exact app_empty ht hs b a len cap c h w
theorem cutH_any {P : Program} {t e : TypeId} {n : Nat} (ht : P.underlying t = some (.slice e)) (hs : tySize P e = some n) (a : Option Addr) (len cap : Nat) (k : IntKind) (h : Nat) (hc : h ≤ cap) : ∃ a', ∀ w, (Instr.sliceAt t (.slice a len cap) none (some (.int k (h : Int))) none >>= fun v => pure (Next.value v)).run P w = .ok (.value (.slice a' h cap)) w := by
  have he := elem_slice ht
  have ht' : P.underlying t = some (.slice (P.elem t)) := by rw [he]; exact ht
  refine ⟨if cap = 0 then a else a.map (·.add (0 * n)), fun w => ?_⟩
  simp only [Sem.run_bind, run_sliceAt_slice w t _ _ _ _ ht', run_slice_h w t a len cap ht' k (h : Int) (by omega) (by omega), he, sizeOf_run hs w, Result.andThen, Sem.run_pure, sliced, Int.toNat_natCast, Nat.sub_zero]
theorem cutL_any {P : Program} {t e : TypeId} {n : Nat} (ht : P.underlying t = some (.slice e)) (hs : tySize P e = some n) (a : Option Addr) (len cap : Nat) (k : IntKind) (l : Nat) (hl : l ≤ len) : ∃ a' c', ∀ w, (Instr.sliceAt t (.slice a len cap) (some (.int k (l : Int))) none none >>= fun v => pure (Next.value v)).run P w = .ok (.value (.slice a' (len - l) c')) w := by
  have he := elem_slice ht
  have ht' : P.underlying t = some (.slice (P.elem t)) := by rw [he]; exact ht
  refine ⟨if cap = l then a else a.map (·.add (l * n)), cap - l, fun w => ?_⟩
  simp only [Sem.run_bind, run_sliceAt_slice w t _ _ _ _ ht', run_slice_l w t a len cap ht' k (l : Int) (by omega) (by omega), he, sizeOf_run hs w, Result.andThen, Sem.run_pure, sliced, Int.toNat_natCast]
theorem drop_src {p : Wb} {w : World} (hp : p.In w) (hcap : p.es.length ≤ p.ec) {be oe : Nat} (hbe : p.ea = some ⟨be, oe, none⟩) (k : Nat) {w1 : World} (k1 : Kept (fun _ => False) w w1) : ∀ j u, ((p.es.drop k).flatMap evR)[j]? = some u → w1.cell? ((cutA be oe k p.ec 4).add j) = some u := by
  intro j u hu
  have hlt : k < p.es.length := by
    rcases Nat.lt_or_ge k p.es.length with h | h
    · exact h
    · rw [List.drop_of_length_le h] at hu
      simp at hu
  have hne : p.es ≠ [] := fun h => by rw [h] at hlt; exact absurd hlt (Nat.not_lt_zero _)
  obtain ⟨b2, o2, h1, h2⟩ := (hp.ev.keep (k1.keeps (fun _ h => h))).flat hne
  rw [hbe] at h1
  injection h1 with h1
  injection h1 with e1 e2
  subst e1; subst e2
  have e : p.es.flatMap evR = (p.es.take k).flatMap evR ++ (p.es.drop k).flatMap evR := by rw [← List.flatMap_append, List.take_append_drop]
  have hl : ((p.es.take k).flatMap evR).length = k * 4 := by rw [flat_len evR_len, List.length_take, Nat.min_eq_left (by omega)]
  have h3 := h2 (k * 4 + j) u (by
    rw [e, List.getElem?_append_right (by omega), hl, show k * 4 + j - k * 4 = j by omega]
    exact hu)
  unfold cutA
  rw [if_neg (by omega)]
  rw [add_none] at h3 ⊢
  rw [Nat.add_assoc]
  exact h3
end Go.Proofs.YtdehgplklgfcdaaGreat
