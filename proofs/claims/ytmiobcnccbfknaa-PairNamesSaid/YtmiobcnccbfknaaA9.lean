/-
  PAIR: whether there is a truth.
-/
import Derived.Test.YtmiobcnccbfknaaA8
import Derived.Test.YtmiobcnccbfknaaQ4
namespace Go.Proofs.Ytmiobcnccbfknaa
open Go.RowKit Go.Proofs.Try


theorem Pr.InD.kept {p : Pr} {D M : Nat → Prop} {w w' : World} (h : p.InD D w) (k : Kept M w w') (hM : ∀ b, ¬ M b) : p.InD D w' := by
  refine ⟨fun hx => ?_, fun hx => ?_⟩
  · obtain ⟨b, o, e, hd, hc⟩ := h.bl hx
    exact ⟨b, o, e, hd, fun i hi => ⟨k.cell (hc i hi).1 (hM b), k.cell (hc i hi).2 (hM b)⟩⟩
  · obtain ⟨b, o, e, hd, hc⟩ := h.rd hx
    exact ⟨b, o, e, hd, fun i hi => ⟨k.cell (hc i hi).1 (hM b), k.cell (hc i hi).2.1 (hM b), k.cell (hc i hi).2.2.1 (hM b), k.cell (hc i hi).2.2.2.1 (hM b), k.cell (hc i hi).2.2.2.2 (hM b)⟩⟩
theorem kn_in {p : Pr} {x : List Value} (h : x ∈ p.knL) : ∃ c g, x = knV (c, g) ∧ p.n.left c = some g ∧ (p.zlo ≤ c.1 ∧ c.1 ≤ p.zhi) ∧ p.rlo ≤ c.2 ∧ c.2 ≤ p.rhi := by
  obtain ⟨k, hk, rfl⟩ := List.mem_map.1 h
  have := Prn.mem_known.1 hk
  exact ⟨k.1, k.2, rfl, this.2, Prn.mem_comps.1 this.1⟩
theorem agree_kn (p : Pr) : p.n.agreeB = !p.knL.isEmpty := by
  unfold Prn.agreeB Pr.knL
  cases p.n.known <;> rfl
set_option maxRecDepth 100000 in
theorem agree_any (p : Pr) (w : World) (hp : p.In w) (hF : p.Fine) : Calls Try.prog 87 #[.agg #[.slice p.ba p.bs.length p.bc, .int .i64 p.zlo, .int .i64 p.zhi, .int .i64 p.rlo, .int .i64 p.rhi, .slice p.ra p.rs.length p.rc]] w (RetB p.n.agreeB w) := by
  refine calls_run (fn := f87) (c := (f87.body).getD .skip) [.agg #[.slice p.ba p.bs.length p.bc, .int .i64 p.zlo, .int .i64 p.zhi, .int .i64 p.rlo, .int .i64 p.rhi, .slice p.ra p.rs.length p.rc]] func87 (by kernel_rfl) (fun _ => False) [] (fun _ h => by cases h) (List.Pairwise.nil) 7 (by kernel_rfl) (by simp) ?_
  refine run_auto [] 2 [] [] [0] [] (st' := ⟨[(0, .agg #[.slice p.ba p.bs.length p.bc, .int .i64 p.zlo, .int .i64 p.zhi, .int .i64 p.rlo, .int .i64 p.rhi, .slice p.ra p.rs.length p.rc])], []⟩) (acc := []) (by kernel_rfl) (by kernel_rfl) trivial ?_
  refine run_new (.cells #[.slice p.ba p.bs.length p.bc, .int .i64 p.zlo, .int .i64 p.zhi, .int .i64 p.rlo, .int .i64 p.rhi, .slice p.ra p.rs.length p.rc] 30 (0, 0)) (fun b1 => .pointer (some ⟨b1, 0, none⟩)) (some 1) (fun _ => by kernel_rfl) (fun b1 hb1 => ?_)
  refine run_new (.cells #[.bool false] 4 (0, 0)) (fun b2 => .pointer (some ⟨b2, 0, none⟩)) (some 2) (fun _ => by kernel_rfl) (fun b2 hb2 => ?_)
  refine run_auto [] 5 [] [1] [2, 3] [0] (st' := ⟨[(2, .pointer (some ⟨b2, 0, none⟩)), (3, .agg #[.slice p.ba p.bs.length p.bc, .int .i64 p.zlo, .int .i64 p.zhi, .int .i64 p.rlo, .int .i64 p.rhi, .slice p.ra p.rs.length p.rc])], [(b2, .cells #[.bool false] 4 (0, 0))]⟩) (acc := [(.pointer (some ⟨b1, 0, none⟩), .pointer (some ⟨b1, 0, none⟩))]) (by kernel_rfl) (by kernel_rfl) ⟨rfl, trivial⟩ ?_
  refine run_nw 77 #[.agg #[.slice p.ba p.bs.length p.bc, .int .i64 p.zlo, .int .i64 p.zhi, .int .i64 p.rlo, .int .i64 p.rhi, .slice p.ra p.rs.length p.rc]] (some 4) (α := Unit) (fun _u b3 => .func (.func 97) #[] #[.pointer (some ⟨b3, 0, none⟩)]) (fun _u => .cells #[.slice p.ba p.bs.length p.bc, .int .i64 p.zlo, .int .i64 p.zhi, .int .i64 p.rlo, .int .i64 p.rhi, .slice p.ra p.rs.length p.rc] 30 (0, 0)) (fun _u => True) (by kernel_rfl) (fun _ => rfl) (fun w1 k1 h1 => possible_any p w1) (fun _u b3 hIb3 hb3 => ?_)
  refine run_auto [] 2 [] [] [2, 4] [0, 1] (st' := ⟨[(2, .pointer (some ⟨b2, 0, none⟩)), (4, .func (.func 97) #[] #[.pointer (some ⟨b3, 0, none⟩)])], [(b3, .cells #[.slice p.ba p.bs.length p.bc, .int .i64 p.zlo, .int .i64 p.zhi, .int .i64 p.rlo, .int .i64 p.rhi, .slice p.ra p.rs.length p.rc] 30 (0, 0)), (b2, .cells #[.bool false] 4 (0, 0))]⟩) (acc := []) (by kernel_rfl) (by kernel_rfl) trivial ?_
  refine run_auto [] 0 [] [] [2, 4] [0, 1] (st' := ⟨[(2, .pointer (some ⟨b2, 0, none⟩)), (4, .func (.func 97) #[] #[.pointer (some ⟨b3, 0, none⟩)])], [(b3, .cells #[.slice p.ba p.bs.length p.bc, .int .i64 p.zlo, .int .i64 p.zhi, .int .i64 p.rlo, .int .i64 p.rhi, .slice p.ra p.rs.length p.rc] 30 (0, 0)), (b2, .cells #[.bool false] 4 (0, 0))]⟩) (acc := []) (by kernel_rfl) (by kernel_rfl) trivial ?_
  refine run_range (σ := Unit) (τ := Unit) 97 #[.pointer (some ⟨b3, 0, none⟩)] [5, 6] [(b3, .cells #[.slice p.ba p.bs.length p.bc, .int .i64 p.zlo, .int .i64 p.zhi, .int .i64 p.rlo, .int .i64 p.rhi, .slice p.ra p.rs.length p.rc] 30 (0, 0))] [(b2, .cells #[.bool false] 4 (0, 0))] p.InD (fun l => l <+: p.knL) (fun l => l = p.knL) (by kernel_rfl) rfl rfl (fun l => by kernel_rfl) rfl (by kernel_rfl) (fun pre x hx => by obtain ⟨c, g, rfl, _⟩ := kn_in (x := x) (List.IsPrefix.subset hx (by simp)); rfl) (possible_give p hF b3) (fun D w1 k1 hD => (Pr.In.inD hp (fun b hb h => hD b hb h)).kept k1 (fun _ h => h))
    (fun s => [(b2, .cells #[.bool false] 4 (0, 0))]) (fun s => Ext.none) (fun pre s => pre = []) (fun y => [(b2, .cells #[.bool true] 4 (0, 0))]) (fun y => Ext.none) (fun c y => c = .ret ∧ p.knL.isEmpty = false) (()) (rfl) rfl rfl (fun _ _ _ => ⟨rfl, fun _ _ h => h.elim⟩) (fun _ _ _ => rfl)
    (fun pre x s hpre hI l0 ms ro ob w0 Jb Jn Je hkk hll hbeg hnext hexit => ?_) (fun ys s hys hI => ?_) (fun c y hI => ?_)
  · skip
    have hpre : pre ++ [x] <+: p.knL := hpre
    obtain ⟨c, g, rfl, _⟩ := kn_in (x := x) (hpre.mem (by simp))
    have hne : p.knL.isEmpty = false := by
      cases hk : p.knL with
      | nil => rw [hk] at hpre; simp at hpre
      | cons _ _ => rfl
    refine run_auto [] 1 [] [] [2] [0] (st' := ⟨[(2, .pointer (some ⟨b2, 0, none⟩))], [(b2, .cells #[.bool false] 4 (0, 0))]⟩) (acc := []) (by kernel_rfl) (by kernel_rfl) trivial ?_
    refine run_round rfl (hbeg _ ?_)
    refine run_auto [] 5 [] [0] [] [0] (st' := ⟨[], [(b2, .cells #[.bool true] 4 (0, 0))]⟩) (acc := [(.pointer (some ⟨b2, 0, none⟩), .pointer (some ⟨b2, 0, none⟩))]) (by kernel_rfl) (by kernel_rfl) ⟨rfl, trivial⟩ ?_
    exact run_retQ rfl (fun a w1 g => hexit .ret () _ ⟨rfl, hne⟩ (.inl rfl) (fun b h => h.elim) a w1 g)
  · skip
    obtain rfl : ys = p.knL := hys
    refine run_auto [] 5 [] [0] [2] [0] (st' := ⟨[(2, .pointer (some ⟨b2, 0, none⟩))], [(b2, .cells #[.bool false] 4 (0, 0))]⟩) (acc := [(.pointer (some ⟨b2, 0, none⟩), .pointer (some ⟨b2, 0, none⟩))]) (by kernel_rfl) (by kernel_rfl) ⟨rfl, trivial⟩ ?_
    refine run_end (fn := f87) rfl (Nat.le_refl _) (by kernel_rfl) [0] [.bool false] (e := [(.pointer (some ⟨b2, 0, none⟩), .pointer (some ⟨b2, 0, none⟩))]) (by kernel_rfl) ⟨rfl, trivial⟩ (fun w1 k1 h1 => ?_)
    exact ⟨by rw [agree_kn, hI]; rfl, k1.keeps (fun _ h => h)⟩
  · skip
    obtain ⟨rfl, hne⟩ := hI
    refine run_end (fn := f87) rfl (Nat.le_refl _) (by kernel_rfl) [0] [.bool true] (e := [(.pointer (some ⟨b2, 0, none⟩), .pointer (some ⟨b2, 0, none⟩))]) (by kernel_rfl) ⟨rfl, trivial⟩ (fun w1 k1 h1 => ?_)
    exact ⟨by rw [agree_kn, hne]; rfl, k1.keeps (fun _ h => h)⟩

end Go.Proofs.Ytmiobcnccbfknaa
