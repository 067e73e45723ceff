/-
 The document's own line, whatever it is but a log's: what it does, and tells. Nothing here is claimed by itself.
-/
import Derived.Test.YtllnjiljjodfdacGreatDoorQgE7
import Derived.Test.YtllnjiljjodfdacGreatDoorQE7s
import Derived.Test.YtllnjiljjodfdacGreatDoorQgE7d
import Derived.Test.YtllnjiljjodfdacGreatDoorQE7j
import Derived.Test.YtllnjiljjodfdacGreatDoorQE7k
import Derived.Test.YtllnjiljjodfdacGreatDoorQgE7t
import Derived.Test.YtllnjiljjodfdacGreatDoorQE7v
namespace Go.Proofs.YtllnjiljjodfdacGreatDoor
open Go.RowKit

theorem line_most (W0 : World) (db : Nat) (m : Cm) (s : Gd) (told l : List UInt8) (w : World) (h : Dk7 W0 w db m s told) (hl : l.length ≤ 900000) (ht : told.length ≤ 900000000) (hv : Vars W0) (hlog : ∀ r, wordsL l = wLog :: r → ¬ r.mapM numL = some []) :
  Calls Tryz.prog 19 #[.pointer (some ⟨db, 0, none⟩), .string (strA l)] w fun e w' => e = .returned (.tuple #[]) ∧ ∃ m', Dn7 W0 w db m w' (lineT s l).1 (told ++ (lineT s l).2) m' := by
 cases hw : wordsL l with
 | nil =>
  have e : lineT s l = (s, []) := by unfold lineT; rw [hw]
  rw [e]
  exact line_nil W0 db m s told l w h hl hv hw
 | cons w0 r =>
  by_cases htr : w0 = wTear
  ·subst htr
   match r, hw with
   | [], hw =>
    have e : lineT s l = (s, sayL wWhat) := by unfold lineT; rw [hw]; rfl
    rw [e]
    exact line_tshort W0 db m s told l w h hl ht hv [] hw (by simp)
   | [x], hw =>
    have e : lineT s l = (s, sayL wWhat) := by unfold lineT; rw [hw]; rfl
    rw [e]
    exact line_tshort W0 db m s told l w h hl ht hv [x] hw (by simp)
   | kw :: v :: q, hw =>
    cases hk : numL kw with
    | none =>
     have e : lineT s l = (s, sayL wWhat) := by unfold lineT; rw [hw]; simp [hk]
     rw [e]
     exact line_tkeep W0 db m s told l w h hl ht hv kw v q hw hk
    | some keep =>
     have e : lineT s l = numsT s v q true keep := by unfold lineT; rw [hw]; simp [hk]
     rw [e]
     unfold numsT
     cases hm : q.mapM numL with
     | none => exact line_tbad W0 db m s told l w h hl ht hv kw v q hw keep hk hm
     | some ms =>
      dsimp only
      unfold cmdT
      cases hs : stepW v ms true with
      | none => exact line_tnone W0 db m s told l w h hl ht hv kw v q hw keep hk ms hm hs
      | some x0 =>
       have := line_tstep W0 db m s told l w h hl ht hv kw v q hw keep hk ms hm x0 _ hs rfl
       simpa [tornX] using this
  ·have e : lineT s l = numsT s w0 r false 0 := by unfold lineT; rw [hw]; simp [htr]
   rw [e]
   unfold numsT
   cases hm : r.mapM numL with
   | none => exact line_bad W0 db m s told l w h hl ht hv w0 r hw htr hm
   | some ms =>
    dsimp only
    unfold cmdT
    cases hs : stepW w0 ms false with
    | some x =>
     have := line_step W0 db m s told l w h hl ht hv w0 r hw htr ms hm x hs
     simpa [tornX] using this
    | none =>
     dsimp only
     rw [if_neg (by simp)]
     unfold viewT
     by_cases h8 : w0 = wJob ∧ ms.length = 2
     ·rw [if_pos h8]
      obtain ⟨a, j, rfl⟩ := lnn2 h8.2
      cases hn : nodeG s a with
      | none =>
       have e2 : nodeG s (at0 [a, j] 0) = none := hn
       rw [e2]
       exact line_jobno W0 db m s told l w h hl ht hv w0 r hw htr _ hm h8.1 a j rfl hn
      | some nd =>
       have e2 : nodeG s (at0 [a, j] 0) = some nd := hn
       rw [e2]
       exact line_job W0 db m s told l w h hl ht hv w0 r hw htr _ hm h8.1 a j rfl nd hn
     ·rw [if_neg h8]
      by_cases h9 : w0 = wDisk ∧ ms.length = 0
      ·rw [if_pos h9]
       exact line_disk W0 db m s told l w h hl ht hv w0 r hw htr ms hm h9.1 h9.2
      ·rw [if_neg h9]
       by_cases h10 : w0 = wLog ∧ ms.length = 0
       ·exfalso
        have e3 := List.eq_nil_of_length_eq_zero h10.2
        exact hlog r (by rw [hw, h10.1]) (by rw [hm, e3])
       ·rw [if_neg h10]
        by_cases h11 : w0 = wHolders ∧ ms.length = 1
        ·rw [if_pos h11]
         obtain ⟨j, rfl⟩ := lnn1 h11.2
         exact line_hold W0 db m s told l w h hl ht hv w0 r hw htr _ hm h11.1 j rfl
        ·rw [if_neg h11]
         exact line_none W0 db m s told l w h hl ht hv w0 r hw htr ms hm hs h8 h9 h10 h11
end Go.Proofs.YtllnjiljjodfdacGreatDoor
