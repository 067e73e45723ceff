/-
  What each function of a disk does to it in memory. Nothing here is claimed by itself.
-/
import Derived.Test.YtkkffgojblopjaaK0
namespace Go.Proofs.Ytkkffgojblopjaa
open Go.RowKit

theorem kInfoParts {t : TypeId} {z : Value} {s b : Nat} (h : (Try.prog.info? t).map (fun i => (i.zero, i.size, i.bytes)) = some (some z, s, b)) : ∃ i, Try.prog.info? t = some i ∧ i.zero = some z ∧ i.size = s ∧ i.bytes = b := by
  cases hq : Try.prog.info? t with
  | none => simp [hq] at h
  | some i =>
    simp [hq] at h
    exact ⟨i, rfl, h.1, h.2.1, h.2.2⟩
theorem ku8Info : (Try.prog.info? 5).map (fun i => (i.zero, i.size, i.bytes)) = some (some (.int .u8 0), 1, 1) := by kernel_rfl

theorem dnew_any (w : World) : Calls Try.prog 37 #[] w fun e w' => e = .returned (.pointer (some ⟨w.heap.size, 0, none⟩)) ∧ Dsk 93 5 w' w.heap.size w.heap.size 0 (.slice none 0 0) [] ∧ Chg [] w w' := by
  go_enter Try.func37, Try.ntmps37
  go_wp2
  go_ret
  exact ⟨rfl, ⟨Blk.new w _ _, World.ownsRow_nil _ _ _ _, by simp, okB_nil, by simp [Value.ownBlock]⟩, (Chg.refl _ _).alloc _⟩

theorem depoch_any (b : Nat) (ep : Int) (v : Value) (l : List Int) (base : Nat) (w : World) (h : Dsk 93 5 w base b ep v l) :
    Calls Try.prog 44 #[.pointer (some ⟨b, 0, none⟩)] w fun e w' => e = .returned (.int .i64 ep) ∧ w' = w := by
  obtain ⟨c0, c1, hl, f0, f1⟩ := h.cells
  clear h
  go_enter Try.func44, Try.ntmps44
  go_wp2
  go_ret
  exact ⟨rfl, rfl⟩

theorem dfen_any (b : Nat) (ep : Int) (v : Value) (l : List Int) (base : Nat) (e0 : Int) (w : World) (h : Dsk 93 5 w base b ep v l) :
    Calls Try.prog 57 #[.pointer (some ⟨b, 0, none⟩), .int .i64 e0] w fun e w' => e = .returned (.bool (fenB ep e0)) ∧ w' = w := by
  obtain ⟨c0, c1, hl, f0, f1⟩ := h.cells
  clear h
  have hv : fenB ep e0 = (decide (e0 < 1) || e0 != ep) := rfl
  rw [hv]
  clear hv
  by_cases h1 : e0 < 1
  · have d1 : decide (e0 < 1) = true := by simpa using h1
    rw [d1, Bool.true_or]
    clear h1
    go_enter Try.func57, Try.ntmps57
    go_wp2
    go_ret
    exact ⟨rfl, rfl⟩
  · have d1 : decide (e0 < 1) = false := by simpa using h1
    rw [d1, Bool.false_or]
    clear h1
    go_enter Try.func57, Try.ntmps57
    go_wp2
    go_ret
    exact ⟨rfl, rfl⟩

theorem draise_any (b : Nat) (ep : Int) (v : Value) (l : List Int) (base : Nat) (w : World) (h : Dsk 93 5 w base b ep v l) (h0 : 0 ≤ ep) (h1 : ep ≤ 100) :
    Calls Try.prog 38 #[.pointer (some ⟨b, 0, none⟩)] w fun e w' => e = .returned (.tuple #[.int .i64 (rsA ep), .int .i64 (rsC ep)]) ∧ Dsk 93 5 w' base b (rsE ep) v l ∧ Chg [b] w w' := by
  obtain ⟨c0, c1, hl, f0, f1⟩ := h.cells
  by_cases hq : 100 ≤ ep
  · obtain ⟨e1, e2, e3⟩ := rs_full hq
    rw [e1, e2, e3]
    clear e1 e2 e3
    have H := hide h
    clear h
    go_enter Try.func38, Try.ntmps38
    go_wp2
    go_ret2
    exact ⟨rfl, unhide H, Chg.refl _ _⟩
  · obtain ⟨e1, e2, e3⟩ := rs_more hq
    rw [e1, e2, e3]
    clear e1 e2 e3
    have H := hide h
    clear h
    go_enter Try.func38, Try.ntmps38
    go_wp2
    go_ret2
    obtain ⟨hb, ho, hf, hk, hn⟩ := unhide H
    exact ⟨rfl, ⟨hb.set 0 _, own_keep ho ((Chg.refl [b] w).setCell (p := ⟨b, 0, none⟩) (by simp) _) (by simpa using hn), hf, hk, hn⟩, (Chg.refl _ _).setCell (by simp) _⟩

end Go.Proofs.Ytkkffgojblopjaa
