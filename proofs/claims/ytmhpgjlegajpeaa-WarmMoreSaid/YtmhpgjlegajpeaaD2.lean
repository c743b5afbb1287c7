/-
  WARM: which readings a set has; slices.Delete at readings: the library's contract, laid at this program's numbers.
  WARM: only: the readings of a set.
-/
import Derived.Shelf.SlicesE.Delete
import Derived.Test.YtmhpgjlegajpeaaB3
import Derived.Laws.CopyOwn
namespace Go.Proofs.Ytmhpgjlegajpeaa
open Go.RowKit Go.Shelf Go.Proofs


/-- Is reading n in the set s? -/
def hasB (s n : Nat) : Bool := (s >>> n) % 2 == 1
theorem has_bits : ∀ s : Nat, s < 32 → ∀ n : Nat, n < 5 → (bits BinOp.and IntKind.i64 ((s : Int) / 2 ^ n) 1 == 1) = hasB s n := by decide +kernel
set_option maxHeartbeats 1600000 in
theorem has_any (s n : Nat) (hs : s < 32) (hn : n < 5) (w : World) :
    Calls Try.prog 116 #[.int .i64 s, .int .i64 n] w fun e w' => e = .returned (.bool (hasB s n)) ∧ w = w' := by
  have hb := has_bits s hs n hn
  have Hb := Lib.hid hb
  clear hb
  go_enter Try.func116, Try.ntmps116
  go_wp2
  rw [Hb.out]
  go_ret
  exact ⟨rfl, rfl⟩

def delRen : Go.Shelf.Ren := ⟨fun | 45 => 117 | n => n, fun | 0 => 0 | 3 => 3 | 4 => 4 | 22 => 96 | 23 => 95 | n => n, fun n => n⟩
theorem delLays : SlLaysE.n45 Try.prog delRen :=
  { mixed := by kernel_rfl
    f45 := ⟨Try.f117.name, by decide, Try.func117.trans (congrArg some (by kernel_rfl))⟩
    t0 := by kernel_rfl
    a0 := fun w => by kernel_rfl
    z0 := fun w => by kernel_rfl
    v0 := fun w => by kernel_rfl
    t3 := by kernel_rfl
    a3 := fun w => by kernel_rfl
    z3 := fun w => by kernel_rfl
    v3 := fun w => by kernel_rfl
    t4 := by kernel_rfl
    a4 := fun w => by kernel_rfl
    z4 := fun w => by kernel_rfl
    v4 := fun w => by kernel_rfl
    t22 := by kernel_rfl
    a22 := fun w => by kernel_rfl
    z22 := fun w => by kernel_rfl
    v22 := fun w => by kernel_rfl
    a23 := fun w => by kernel_rfl
    z23 := fun w => by kernel_rfl }

/-- A reading, or none. -/
def encR : Option Wr → Value
  | none => .nilIface
  | some g => rdV g
theorem encR_one : OneCell encR := by
  intro x
  cases x with
  | none => rfl
  | some g => unfold encR rdV; dsimp only; split <;> rfl
theorem keeps_putRow {a b : World} {α : Type} [Inhabited α] {enc : α → Value} {B off : Nat} {d : Array α} (h : Keeps a b) (hB : a.heap.size ≤ B) : Keeps a (Sort.putRow enc b B off d) :=
  Below.trans h ⟨rfl, rfl, rfl, by simp [Sort.putRow, Sort.mapBlock], fun k hk => by
    simp only [Sort.putRow, Sort.mapBlock, Array.getElem?_modify]
    rw [if_neg (by omega)]⟩
theorem size_putRow {b : World} {α : Type} [Inhabited α] {enc : α → Value} {B off : Nat} {d : Array α} : (Sort.putRow enc b B off d).heap.size = b.heap.size := by simp [Sort.putRow, Sort.mapBlock]
theorem delete_any (B cap k : Nat) (xs : List Wr) (w w0 : World) (hH : Sort.Holds encR w B 0 (xs.map some).toArray) (hk : k < xs.length) (hcap : xs.length ≤ cap) (hm : cap ≤ 6) (hB : w0.heap.size ≤ B) (h0 : Keeps w0 w) :
    Calls Try.prog 117 #[.slice (some ⟨B, 0, none⟩) xs.length cap, .int .i64 k, .int .i64 ((k : Int) + 1)] w fun e w' =>
      e = .returned (.slice (some ⟨B, 0, none⟩) (xs.eraseIdx k).length cap) ∧ Sort.Holds encR w' B 0 ((xs.eraseIdx k).map some).toArray ∧ Keeps w0 w' ∧ w'.heap.size = w.heap.size := by
  have hi : (Try.prog.info? 95).map (·.size) = some 1 := by kernel_rfl
  obtain ⟨i0, hi0, hz⟩ := Option.map_eq_some_iff.1 hi
  have h := AnyE.slices_Delete delLays encR encR_one none (fun w => Try.zeroValue95 w) i0 hi0 hz B 0 cap k (k + 1) (xs.map some).toArray w hH (by simpa using hcap) (by omega) (by omega) (by simp; omega)
  have e1 : (xs.map some).toArray.size = xs.length := by simp
  rw [e1] at h
  have e2 : xs.length - (k + 1 - k) = (xs.eraseIdx k).length := by rw [List.length_eraseIdx_of_lt hk]; omega
  rw [e2] at h
  refine Calls.mono h ?_
  rintro e w' ⟨rfl, q, rfl⟩
  refine ⟨rfl, ?_, keeps_putRow (show Keeps w0 (Sort.ahead w q) from ⟨h0.os, h0.tape, h0.output, h0.size, h0.block⟩) hB, by rw [size_putRow]; rfl⟩
  have hp := Sort.holds_putRow encR (Sort.ahead w q) B 0 (xs.map some).toArray ((xs.map some).toArray.toList.take k ++ (xs.map some).toArray.toList.drop (k + 1) ++ List.replicate (k + 1 - k) none).toArray (Sort.holds_ahead encR w q B 0 _ hH) (by simp; omega)
  intro j hj
  have hj' : j < (xs.eraseIdx k).length := by simpa using hj
  have := hp j (by rw [List.length_eraseIdx_of_lt hk] at hj'; simp; omega)
  have e3 : ((xs.map some).toArray.toList.take k ++ (xs.map some).toArray.toList.drop (k + 1)) = (xs.eraseIdx k).map some := by
    rw [List.eraseIdx_eq_take_drop_succ]; simp
  rw [e3] at this ⊢
  have hj2 : j < ((xs.eraseIdx k).map some).length := by simpa using hj'
  have e4 : (((xs.eraseIdx k).map some) ++ List.replicate (k + 1 - k) none).toArray[j]! = ((xs.eraseIdx k).map some).toArray[j]! := by
    rw [getElem!_pos _ j (by simp at hj' ⊢; omega), getElem!_pos _ j (by simpa using hj2)]
    simp only [List.getElem_toArray]
    rw [List.getElem_append_left hj2]
  rw [e4] at this
  exact this
end Go.Proofs.Ytmhpgjlegajpeaa

namespace Go.Proofs.Ytmhpgjlegajpeaa
open Go.RowKit Go.Shelf Go.Proofs

/-- The readings, those from the k-th on that are in the set left out. -/
def keptTo (gs : List Wr) (s k : Nat) : List Wr :=
  gs.take k ++ ((List.range' k (gs.length - k)).filter (fun i => hasB s i)).map (fun i => gs[i]?.getD (0, 0, 0, 0))
/-- The readings but those of a set. -/
def wo (gs : List Wr) (s : Nat) : List Wr := keptTo gs s 0
theorem keptTo_all (gs : List Wr) (s : Nat) : keptTo gs s gs.length = gs := by simp [keptTo]
theorem keptTo_at (gs : List Wr) (s k : Nat) (h : k < gs.length) : keptTo gs s (k + 1) = gs.take k ++ (gs[k] :: ((List.range' (k + 1) (gs.length - (k + 1))).filter (fun i => hasB s i)).map (fun i => gs[i]?.getD (0, 0, 0, 0))) := by
  rw [keptTo, List.take_succ_eq_append_getElem h, List.append_assoc]; rfl
theorem range'_at {k n : Nat} (h : k < n) : List.range' k (n - k) = k :: List.range' (k + 1) (n - (k + 1)) := by
  obtain ⟨m, hm⟩ : ∃ m, n - k = m + 1 := ⟨n - k - 1, by omega⟩
  rw [hm, List.range'_succ, show n - (k + 1) = m by omega]
theorem keptTo_out {gs : List Wr} {s k : Nat} (h : k < gs.length) (hh : hasB s k = false) : keptTo gs s k = (keptTo gs s (k + 1)).eraseIdx k := by
  rw [keptTo_at gs s k h, List.eraseIdx_append_of_length_le (by rw [List.length_take]; omega), keptTo, range'_at h]
  simp [hh, Nat.min_eq_left (Nat.le_of_lt h)]
theorem keptTo_in {gs : List Wr} {s k : Nat} (h : k < gs.length) (hh : hasB s k = true) : keptTo gs s k = keptTo gs s (k + 1) := by
  rw [keptTo_at gs s k h, keptTo, range'_at h]
  simp [hh, List.getElem?_eq_getElem h]
theorem keptTo_len (gs : List Wr) (s k : Nat) (h : k ≤ gs.length) : k ≤ (keptTo gs s k).length ∧ (keptTo gs s k).length ≤ gs.length := by
  have := List.length_filter_le (fun i => hasB s i) (List.range' k (gs.length - k))
  simp [keptTo] at this ⊢
  omega
theorem wo_sub (gs : List Wr) (s : Nat) : ∀ g ∈ wo gs s, g ∈ gs := by
  intro g hg
  simp only [wo, keptTo, List.take_zero, List.nil_append, List.mem_map, List.mem_filter, List.mem_range'] at hg
  obtain ⟨i, ⟨⟨j, hj, rfl⟩, _⟩, rfl⟩ := hg
  have : 0 + 1 * j < gs.length := by omega
  rw [List.getElem?_eq_getElem this]
  exact List.getElem_mem _
theorem rgs_of_holds {w : World} {B : Nat} {gs : List Wr} (h : Sort.Holds encR w B 0 (gs.map some).toArray) : Rgs w (some ⟨B, 0, none⟩) gs := by
  intro _
  refine ⟨B, 0, rfl, fun i hi => ?_⟩
  have := (h i (by simpa using hi)).1
  rw [getElem!_pos _ i (by simpa using hi)] at this
  simpa [encR, List.getElem?_eq_getElem hi] using this
theorem holds_of_row {w : World} {B : Nat} {gs : List Wr} {t : TypeId} (h : w.heap[B]? = some (.cells (gs.map rdV).toArray t (0, 0))) : Sort.Holds encR w B 0 (gs.map some).toArray := by
  intro j hj
  have hj' : j < gs.length := by simpa using hj
  rw [getElem!_pos _ j hj]
  constructor
  · simp [World.cell?, h, hj', encR]
  · simp [World.frozen?, h]
theorem info_reading : (Try.prog.info? 95).map (·.size) = some 1 := by kernel_rfl

set_option maxHeartbeats 1600000 in
theorem only_any (a : Option Addr) (cap : Nat) (gs : List Wr) (s : Nat) (w : World) (hg : Rgs w a gs) (hl : gs.length ≤ 5) (hs : s < 32) :
    Calls Try.prog 107 #[.slice a gs.length cap, .int .i64 s] w fun e w' => (∃ B cap', e = .returned (.slice (some ⟨B, 0, none⟩) (wo gs s).length cap') ∧ w.heap.size ≤ B ∧ B < w'.heap.size ∧ Rgs w' (some ⟨B, 0, none⟩) (wo gs s)) ∧ Keeps w w' := by
  have hmk := make_readings gs.length hl
  have Hh := Lib.hid (fun k hk w => has_any s k hs hk w)
  have Hd := Lib.hid (fun k xs w1 hH hk hcap hB h0 => delete_any w.heap.size gs.length k xs w1 w hH hk hcap (by omega) hB h0)
  have HG := Lib.hid hg
  have hp : 0 < (gs.map rdV).length → ∃ ad, a = some ad ∧ ∀ j v, (gs.map rdV)[j]? = some v → (w.alloc (.cells (Array.replicate gs.length .nilIface) 95)).cell? (ad.add j) = some v := by
    intro h
    obtain ⟨b, o, rfl, hc⟩ := hg (by intro e; subst e; simp at h)
    refine ⟨_, rfl, fun j v hv => ?_⟩
    have hj : j < gs.length := by simpa using (List.getElem?_eq_some_iff.1 hv).1
    have h1 := ((Keeps.refl w).alloc (.cells (Array.replicate gs.length .nilIface) 95)).cell (hc j hj)
    rw [List.getElem?_map, List.getElem?_eq_getElem hj] at hv
    rw [List.getElem?_eq_getElem hj] at h1
    rw [Addr.add_lit, h1]
    simpa using hv
  have ho : ∀ v ∈ gs.map rdV, v.oneCell' = true := by
    intro v hv
    obtain ⟨g, _, rfl⟩ := List.mem_map.1 hv
    exact encR_one (some g)
  have hsp : splice (List.replicate gs.length Value.nilIface) 0 (gs.map rdV) = gs.map rdV := by simp [splice]
  have hgl : (w.alloc (.cells (Array.replicate gs.length .nilIface) 95)).heap[w.heap.size]? = some (.cells (List.replicate gs.length Value.nilIface).toArray 95 (0, 0)) := by rw [List.toArray_replicate]; exact Array.getElem?_push_size
  have hrw : ∀ w2 : World, w2.heap[w.heap.size]? = some (.cells (gs.map rdV).toArray 95 (0, 0)) → Sort.Holds encR w2 w.heap.size 0 (gs.map some).toArray := fun w2 h => holds_of_row h
  have hxl : (gs.map rdV).length = gs.length := by simp
  obtain ⟨X, hX⟩ : ∃ X, X = gs.map rdV := ⟨_, rfl⟩
  rw [← hX] at hp ho hsp hrw hxl
  clear hX
  have Ho := Lib.hid ho
  have Hrw := Lib.hid hrw
  clear ho hrw
  have hall := keptTo_all gs s
  have hlen := keptTo_len gs s
  have hout := fun k h hh => @keptTo_out gs s k h hh
  have hin := fun k h hh => @keptTo_in gs s k h hh
  obtain ⟨n, hn⟩ : ∃ n, n = gs.length := ⟨_, rfl⟩
  rw [← hn] at hmk hp hsp hgl hall hl Hd hlen hout hin hxl ⊢
  have Hxl := Lib.hid hxl
  have Hka := Lib.hid (show Keeps w (w.alloc (.cells (Array.replicate n .nilIface) 95)) from (Keeps.refl _).alloc _)
  clear hxl
  have Hn := Lib.hid hn
  have Hp := Lib.hid hp
  have Hsp := Lib.hid hsp
  have Hgl := Lib.hid hgl
  have Hall := Lib.hid hall
  have Hlen := Lib.hid hlen
  have Hout := Lib.hid hout
  have Hin := Lib.hid hin
  clear hn hg hp hsp hgl hall hlen hout hin
  go_enter Try.func107, Try.ntmps107
  go_wp2_with (with_reducible refine wpList_copy_splice (o := ⟨some 12, _, _, _, _, _⟩) rfl (.tmp 10) (.tmp 11) 96 96 rfl 95 ?hu ?hsz (some ⟨w.heap.size, 0, none⟩) a n n n cap rfl rfl w.heap.size 0 (List.replicate n .nilIface) 95 ?hg X ?hlen ?hpos ?hfit ?h1 w.heap.size w ?hb ?hBg ?next)
  case hu => exact Try.underlying96
  case hsz => exact info_reading
  case hg => exact Hgl.out
  case hlen => rw [Hxl.out]; simp
  case hpos => first | exact Hp.out | exact fun h => ⟨rfl, Hp.out h⟩
  case hfit => rw [Hxl.out]; simp
  case h1 => exact Ho.out
  case hb => exact Hka.out
  case hBg => exact Nat.le_refl _
  case next =>
    intro w2 hrow hB2
    have hrow' := hrow.out
    rw [Hsp.out] at hrow'
    have hlt2 : w.heap.size < w2.heap.size := by
      rcases Nat.lt_or_ge w.heap.size w2.heap.size with h | h
      · exact h
      · rw [Array.getElem?_eq_none h] at hrow'; cases hrow'
    have HH := Lib.hid (Hrw.out _ hrow')
    have HK2 := Lib.hid (show Keeps w w2 from hB2)
    clear hrow hrow' hB2
    rw [Hxl.out]
    go_wp2
    go_loopw [5, 6] (fun v i wr => ∃ (z : Int) (K : Nat), i = .int .i64 z ∧ z = K - 1 ∧ K ≤ n ∧ v = .slice (some ⟨w.heap.size, 0, none⟩) (keptTo gs s K).length n ∧ Sort.Holds encR wr w.heap.size 0 ((keptTo gs s K).map some).toArray ∧ Keeps w wr ∧ w.heap.size < wr.heap.size) (fun _ i _ => (intOf i + 1).toNat)
    case atStart => exact ⟨_, n, rfl, by omega, Nat.le_refl _, by rw [Hall.out, ← Hn.out], by rw [Hall.out]; exact HH.out, HK2.out, hlt2⟩
    case round =>
      obtain ⟨z, K, rfl, hz, hK, rfl, hHo, hkp, hsz⟩ := hrel
      have HHo := Lib.hid hHo
      clear hHo
      rcases Nat.eq_zero_or_pos K with rfl | hpos
      · obtain rfl : z = -1 := by omega
        clear hz
        go_wp2
        go_ret
        exact ⟨⟨_, n, rfl, Nat.le_refl _, hsz, rgs_of_holds HHo.out⟩, hkp⟩
      · obtain ⟨k, rfl⟩ : ∃ k, K = k + 1 := ⟨K - 1, by omega⟩
        obtain rfl : z = (k : Int) := by omega
        clear hz
        have Hhk := Lib.hid (Hh.out k (by omega))
        have hb := Hlen.out (k + 1) hK
        have Hdel := Lib.hid (fun w1 hH h0 => Hd.out k (keptTo gs s (k + 1)) w1 hH (by omega) hb.2 (Nat.le_refl _) h0)
        have hko := Hout.out k (by omega)
        have hki := Hin.out k (by omega)
        obtain ⟨Y, hY⟩ : ∃ Y, Y = keptTo gs s (k + 1) := ⟨_, rfl⟩
        rw [← hY] at hb Hdel HHo hko hki ⊢
        obtain ⟨v, hv⟩ : ∃ v, hasB s k = v := ⟨_, rfl⟩
        rw [hv] at Hhk hko hki
        have HY := Lib.hid hY
        have Hko := Lib.hid hko
        have Hki := Lib.hid hki
        clear hv hY hko hki
        cases v; rotate_left
        · go_wp2_with fail
          refine (Hhk.out _).mono ?_
          rintro e w3 ⟨rfl, rfl⟩
          go_wp2_with fail
          go_roundw
          case rel => exact ⟨_, k, rfl, by omega, by omega, by rw [Hki.out (by trivial)], by rw [Hki.out (by trivial)]; exact HHo.out, hkp, hsz⟩
          case measure => simp [intOf]
        · go_wp2_with fail
          refine (Hhk.out _).mono ?_
          rintro e w3 ⟨rfl, rfl⟩
          go_wp2_with fail
          refine (Hdel.out _ HHo.out hkp).mono ?_
          rintro e w4 ⟨rfl, hH4, hk4, hs4⟩
          have HH4 := Lib.hid hH4
          clear hH4
          go_wp2_with fail
          go_roundw
          case rel => exact ⟨_, k, rfl, by omega, by omega, by rw [Hko.out (by trivial)], by rw [Hko.out (by trivial)]; exact HH4.out, hk4, by omega⟩
          case measure => simp [intOf]
end Go.Proofs.Ytmhpgjlegajpeaa
