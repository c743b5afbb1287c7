/-
  Count, whole.
-/
import Derived.Test.YtoidnbpbeblokaaWj
import Derived.Test.YtoidnbpbeblokaaWl
namespace Go.Proofs.Ytoidnbpbeblokaa
open Go.RowKit

/-- One value, one error. -/
def Is (x : Value) (y : Int) (v : Value) (k : Int) (_ : World) : Prop := v = x ∧ k = y
theorem Ans.ret {x : Value} {y : Int} {w : World} {e : Ending} {w' : World} (h : Ans (Is x y) w e w') : Ret (.tuple #[x, .int .i64 y]) w e w' := by
  obtain ⟨v, k, rfl, ⟨rfl, rfl⟩, hk⟩ := h
  exact ⟨rfl, hk⟩
/-- answer[int], of a function that returns. -/
theorem ans_int (K : Nat) (caps : Array Value) (n : Int) (w : World) (hcf : ∀ w, (callFunc K caps).run Try.prog w = .ok (.enter K caps) w)
    (h : Calls Try.prog K caps (w.alloc (.cells #[.int .i64 0] 30)) (RetI n (w.alloc (.cells #[.int .i64 0] 30)))) :
    Calls Try.prog 61 #[.func (.func K) #[] caps] w (Ans (Is (.int .i64 n) 0) w) := by
  refine (answer_ok_int K caps w (fun v _ => v = .int .i64 n) hcf (fun _ _ _ h => h) (h.mono ?_)).mono ?_
  · rintro e w' ⟨rfl, k⟩
    exact ⟨_, rfl, rfl, k⟩
  · rintro e w' ⟨v, rfl, rfl, k⟩
    exact ⟨_, _, rfl, ⟨rfl, rfl⟩, k⟩
theorem ans_int_pan (K : Nat) (caps : Array Value) (n : Int) (w : World) (hcf : ∀ w, (callFunc K caps).run Try.prog w = .ok (.enter K caps) w)
    (h : Calls Try.prog K caps (w.alloc (.cells #[.int .i64 0] 30)) (Pan n (w.alloc (.cells #[.int .i64 0] 30)))) :
    Calls Try.prog 61 #[.func (.func K) #[] caps] w (Ans (Is (.int .i64 0) n) w) := by
  refine (answer_pan_int K caps w n hcf h).mono ?_
  rintro e w' ⟨rfl, k⟩
  exact ⟨_, _, rfl, ⟨rfl, rfl⟩, k⟩

set_option maxHeartbeats 400000 in
theorem Count1_no (F : Fr) (b0 : Nat) (w : World) (hI : F.In w) (hB : F.Box w b0) (hok : F.ok = false) :
    Calls Try.prog 73 #[.pointer (some ⟨b0, 0, none⟩)] w (Pan 1 w) := by
  have H1 := Lib.hid (fun w1 (k : Keeps w w1) => needFringe_no F w1 (hI.keep k) hok)
  obtain ⟨g0, g1, g2, g3⟩ := hB
  have hlb := lt_of_cell g0
  obtain ⟨wa, wc, ws, lo, hi, ra, rc, rs⟩ := F
  dsimp only [Fr.v] at *
  clear hok hI
  go_enter Try.func73, Try.ntmps73
  go_wp2_with fail
  refine (H1.out _ (Keeps.refl _)).mono ?_
  rintro e w1 ⟨rfl, k1⟩
  exact ⟨rfl, rfl, k1⟩

def countR (F : Fr) : Int × Int := if F.ok then (F.truths.length, 0) else (0, 1)
theorem Count_any (F : Fr) (w : World) (hI : F.In w) : Calls Try.prog 23 #[F.v] w (Ret (.tuple #[.int .i64 (countR F).1, .int .i64 (countR F).2]) w) := by
  refine (Count_by F (Is (.int .i64 (countR F).1) (countR F).2) w fun w1 b0 k hB => ?_).mono fun _ _ h => h.ret
  have kk : Keeps w1 (w1.alloc (.cells #[.int .i64 0] 30)) := (Keeps.refl _).alloc _
  unfold countR
  cases hok : F.ok with
  | true => exact ans_int _ _ _ _ (fun w => enter_Count1 _ w) (Count1_yes F b0 _ (hI.keep (k.trans kk)) (hB.keep kk) hok)
  | false => exact ans_int_pan _ _ _ _ (fun w => enter_Count1 _ w) (Count1_no F b0 _ (hI.keep (k.trans kk)) (hB.keep kk) hok)
end Go.Proofs.Ytoidnbpbeblokaa
