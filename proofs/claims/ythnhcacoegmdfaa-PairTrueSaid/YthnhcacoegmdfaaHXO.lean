/-
  ENGINE: a call that writes to a block of its caller's and gives a value, in a region that draws its order.
-/
import Derived.Test.YthnhcacoegmdfaaGb
namespace Go.Proofs.Ythnhcacoegmdfaa
open Go.RowKit

theorem tri_wr {R : Rg} {X : Cx} {k : List KI} {i : Nat} (b : (Nat → Nat) → Nat) (o o' : (Nat → Nat) → Obj) (r : (Nat → Nat) → List (Nat × Obj)) (V : (Nat → Nat) → Value) (f : FuncId) (args : (Nat → Nat) → Array Value) (hn : (R.p i).news = []) (h : ∀ β extra, headCall X.P X.N [.ops R.ops [i]] ⟨R.ns i β ++ extra, R.nh i β⟩ = some (f, args β, R.dst i))
    (hh : ∀ β, R.nh i β = (b β, o β) :: r β) (ho : ∀ β, R.oh i β = (b β, o' β) :: r β) (hv : ∀ β, R.v i β = V β) (hd : ∀ β, isDef (o' β) = false) (hc : ∀ β w, Kept X.M X.B w → Hp (R.nh i β) w → Calls X.P f (args β) w (Wr (b β) (V β) (o' β) w)) : R.Tri X k i := by
  intro β w J extra hkp hm hJ
  have key : headCall X.P X.N [.ops R.ops [i], .lp J] ⟨R.ns i β ++ extra, R.nh i β⟩ = some (f, args β, R.dst i) := h β extra
  refine run_wr (X := Xw X k w (R.nh i β)) f (args β) (R.dst i) (V β) 0 (b β) (o β) (o' β) key (by rw [hh]; rfl) (hd β) (fun w1 k1 k2 => hc β w1 (hkp.trans k1 fun b hb ⟨o, ho⟩ => hm _ ho hb) k2) (nx_ok (k' := [.lp J]) rfl fun a' w' g => hJ β (fun _ _ => rfl) (fun id hid => by rw [hn] at hid; cases hid) (by rw [hn]; exact List.Pairwise.nil) a' w' ?_)
  rw [putL_put] at g
  rw [ho, hv]
  have g2 := g
  rw [show (⟨R.ns i β ++ extra, R.nh i β⟩ : St).hp.set 0 (b β, o' β) = (b β, o' β) :: r β from by rw [hh]; rfl] at g2
  exact g2
theorem tri_wrW {R : Rg} {X : Cx} {k : List KI} {i : Nat} (b : (Nat → Nat) → Nat) (o o' : (Nat → Nat) → Obj) (r : (Nat → Nat) → List (Nat × Obj)) (V : (Nat → Nat) → Value) (f : FuncId) (args : (Nat → Nat) → Array Value) (hn : (R.p i).news = []) (h : ∀ β extra, headCall X.P X.N [.ops R.ops [i]] ⟨R.ns i β ++ extra, R.nh i β⟩ = some (f, args β, R.dst i))
    (hh : ∀ β, R.nh i β = (b β, o β) :: r β) (ho : ∀ β, R.oh i β = (b β, o' β) :: r β) (hv : ∀ β, R.v i β = V β) (hd : ∀ β, isDef (o' β) = false) (hc : ∀ β w, Kept X.M X.B w → Hp (R.nh i β) w → Calls X.P f (args β) w (Wr (b β) (V β) (o' β) w)) : TriW R X k i := ⟨tri_wr b o o' r V f args hn h hh ho hv hd hc⟩
end Go.Proofs.Ythnhcacoegmdfaa
