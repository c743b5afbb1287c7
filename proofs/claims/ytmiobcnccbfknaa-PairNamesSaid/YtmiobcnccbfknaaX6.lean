/-
  ENGINE, sixth part: a region that draws its order. Each operation is looked at once; what it reads is there whatever the order, and all that it makes is there in the end.
-/
import Derived.Test.YtmiobcnccbfknaaX5
namespace Go.Proofs.Ytmiobcnccbfknaa
open Go.RowKit

/-- What one operation of a region makes: the slot's value, blocks; by which names (numbers of blocks: those of the list that was there, then new ones). -/
structure Stp where
  names : List Nat := []
  val : List Nat → Value := fun _ => undef
  upd : List (Nat × (List Nat → Obj)) := []
  news : List Nat := []
  slots : List Nat := []
  reads : List Nat := []
instance : Inhabited Stp := ⟨{}⟩

/-- A region, the state ahead of it, and the plan. A: for each operation those that surely are done ahead of it. -/
structure Rg where
  ops : Array Oper
  st : St
  pl : List Stp
  A : List (List Nat)
variable (R : Rg)
def Rg.n : Nat := R.ops.size
def Rg.p (i : Nat) : Stp := R.pl.getD i {}
def Rg.an (i : Nat) : List Nat := R.A.getD i []
def Rg.dst (i : Nat) : Option Tmp := (R.ops[i]?).bind (·.dst)
def Rg.deps (i : Nat) : List Nat := ((R.ops[i]?).map fun o => (o.after.toList.filter (Region.binds .any)).map (·.on)).getD []
/-- The block of a name. -/
def Rg.nm (β : Nat → Nat) (id : Nat) : Nat := match R.st.hp[id]? with
  | some p => p.1
  | none => β id
def Rg.v (i : Nat) (β : Nat → Nat) : Value := (R.p i).val ((R.p i).names.map (R.nm β))
/-- Who writes a slot. -/
def Rg.wr (t : Nat) : Option Nat := (List.range R.n).find? fun j => R.dst j == some t
/-- Who writes a block. -/
def Rg.has (j id : Nat) : Bool := (R.p j).upd.any fun q => q.1 == id
def Rg.hwr (id : Nat) : List Nat := (List.range R.n).filter fun j => R.has j id
def Rg.cont (j id : Nat) (β : Nat → Nat) : Option Obj := ((R.p j).upd.find? fun q => q.1 == id).map fun q => q.2 ((R.p j).names.map (R.nm β))
/-- A block, if these operations are done. -/
def Rg.hAt (S : Nat → Bool) (id : Nat) (β : Nat → Nat) : Option Obj := match ((R.hwr id).filter S).getLast? with
  | some j => R.cont j id β
  | none => (R.st.hp[id]?).map (·.2)
/-- A slot, if these operations are done. -/
def Rg.sAt (S : Nat → Bool) (t : Nat) (β : Nat → Nat) : Option Value := match R.wr t with
  | some j => if S j then some (R.v j β) else look R.st.sl t
  | none => look R.st.sl t
def Rg.inA (i : Nat) : Nat → Bool := fun j => (R.an i).contains j
/-- What an operation finds. -/
def Rg.ns (i : Nat) (β : Nat → Nat) : List (Nat × Value) := (R.p i).slots.map fun t => (t, (R.sAt (R.inA i) t β).getD undef)
def Rg.nh (i : Nat) (β : Nat → Nat) : List (Nat × Obj) := (R.p i).reads.map fun id => (R.nm β id, (R.hAt (R.inA i) id β).getD default)
/-- What it leaves. -/
def Rg.oh (i : Nat) (β : Nat → Nat) : List (Nat × Obj) := ((R.p i).upd.map fun q => (R.nm β q.1, q.2 ((R.p i).names.map (R.nm β)))) ++ ((R.p i).reads.filter fun id => !R.has i id).map fun id => (R.nm β id, (R.hAt (R.inA i) id β).getD default)
def putL (d : Option Tmp) (v : Value) (l : List (Nat × Value)) : List (Nat × Value) := match d with
  | some d => (d, v) :: l
  | none => l

def Rg.ok (N : Nat) : Bool := (List.range R.n).all fun i =>
  (R.deps i).all (fun j => Nat.blt j i) &&
  ((R.an i).all fun j => Nat.blt j i && ((R.deps i).contains j || (R.deps i).any fun d => (R.an d).contains j)) &&
  (match R.dst i with
    | some t => R.wr t == some i && Nat.blt t N
    | none => true) &&
  ((R.p i).slots.all fun t => match R.wr t with
    | some j => (R.an i).contains j || ((R.an j).contains i && (look R.st.sl t).isSome)
    | none => (look R.st.sl t).isSome) &&
  ((R.p i).reads.all fun id => ((R.st.hp[id]?).isSome || (R.hwr id).any (R.inA i)) && (R.hwr id).all fun j => (R.an i).contains j || j == i || (R.an j).contains i) &&
  ((R.p i).upd.all fun q => (R.p i).news.contains q.1 || (R.p i).reads.contains q.1) &&
  ((R.p i).news.all fun id => (R.st.hp[id]?).isNone && R.has i id && (R.hwr id).all (fun j => j == i || (R.an j).contains i) && (List.range R.n).all fun j => j == i || !(R.p j).news.contains id) &&
  distinct (R.p i).reads &&
  ((R.p i).names.all fun id => (R.st.hp[id]?).isSome || (R.p i).news.contains id || (R.an i).any fun j => (R.p j).news.contains id)

/-- The context in which one operation is looked at. -/
def Xw (X : Cx) (k : List KI) (w : World) (nh : List (Nat × Obj)) : Cx := { X with B := w, M := fun b => ∃ o, (b, o) ∈ nh, Q := wpK X k }
/-- One operation: what it makes, whatever else there is. -/
def Rg.Tri (X : Cx) (k : List KI) (i : Nat) : Prop := ∀ (β : Nat → Nat) (w : World) (J : Act → World → Prop) (extra : List (Nat × Value)), Kept X.M X.B w → (∀ p ∈ R.nh i β, p.1 < X.B.heap.size → X.M p.1) →
  (∀ β' : Nat → Nat, (∀ id, id ∉ (R.p i).news → β' id = β id) → (∀ id ∈ (R.p i).news, w.heap.size ≤ R.nm β' id) → ((R.p i).news.map (R.nm β')).Pairwise (· ≠ ·) → ∀ a' w', G (Xw X k w (R.nh i β)) ⟨putL (R.dst i) (R.v i β') (R.ns i β ++ extra), R.oh i β'⟩ a' w' → J a' w') →
  Run (Xw X k w (R.nh i β)) [.ops R.ops [i], .lp J] ⟨R.ns i β ++ extra, R.nh i β⟩

theorem wpOpIn_Q {F : Fence} {n : Nat} {P : Program} {ops : Array Oper} {Q Q' : Exit → Act → World → Prop} {i : Nat} {K : Act → World → Prop} {a : Act} {w : World} (hq : ∀ c a w, Q (.panic c) a w → Q' (.panic c) a w) (ho : ∀ a w, Q .outgrown a w → Q' .outgrown a w) (h : wpOpIn F n P ops Q i K a w) : wpOpIn F n P ops Q' i K a w := by
  unfold wpOpIn at *
  cases hi : ops[i]? with
  | none => rw [hi] at h; exact h
  | some o =>
    rw [hi] at h
    dsimp only at h ⊢
    split
    · rename_i hw
      rw [if_pos hw] at h
      refine ⟨h.1, ?_⟩
      have h2 := h.2
      revert h2
      cases (o.semAt F.round a.eval).run P w with
      | ok x w' =>
        cases x <;> simp only [Oper.uponIn] <;> first
          | exact id
          | skip
        · rintro ⟨h1, h2⟩
          exact ⟨h1, h2.mono fun e w'' he => by cases e <;> first | exact he | exact hq _ _ _ he | exact (let ⟨a, w, h⟩ := he; ⟨a, w, ho a w h⟩)⟩
        · rintro ⟨h1, h2⟩
          exact ⟨h1, h2.mono fun e w'' he => by cases e <;> first | exact he | exact hq _ _ _ he | exact (let ⟨a, w, h⟩ := he; ⟨a, w, ho a w h⟩)⟩
      | halt x w' =>
        cases x <;> simp only [Oper.uponIn] <;> first
          | exact id
          | exact hq _ _ _
    · rename_i hw
      rw [if_neg hw] at h
      exact h
end Go.Proofs.Ytmiobcnccbfknaa
