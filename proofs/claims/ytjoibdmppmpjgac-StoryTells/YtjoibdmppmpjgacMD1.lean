/-
  What the document's own RecordFault, sum and BytesOf do. Nothing here is claimed by itself.
-/
import Derived.Test.YtjoibdmppmpjgacMgC6a
import Derived.Test.YtjoibdmppmpjgacMgR0
namespace Go.Proofs.Ytjoibdmppmpjgac
open Go.RowKit

theorem rf_any (r : Rc) (w : World) :
    Calls Try.prog 52 #[.agg r.cells] w fun e w' => e = .returned (.int .i64 (ckR r)) ∧ Chg [] w w' := by
  obtain ⟨ep, ⟨k, now, jb, tr, wk, tm⟩⟩ := r
  unfold Rc.cells
  by_cases h1 : ep < 1
  · have hc : ckR ⟨ep, ⟨k, now, jb, tr, wk, tm⟩⟩ = 3 := by simp [ckR, h1]
    have HC := hide hc
    clear hc
    go_enter Try.func52, Try.ntmps52
    go_wp2_with fail
    go_ret
    exact ⟨by rw [unhide HC]; rfl, (Chg.refl _ _).alloc _⟩
  · by_cases h2 : 100 < ep
    · have hc : ckR ⟨ep, ⟨k, now, jb, tr, wk, tm⟩⟩ = 3 := by simp [ckR, h2]
      have HC := hide hc
      clear hc
      go_enter Try.func52, Try.ntmps52
      go_wp2_with fail
      go_ret
      exact ⟨by rw [unhide HC]; rfl, (Chg.refl _ _).alloc _⟩
    · have hc : ckR ⟨ep, ⟨k, now, jb, tr, wk, tm⟩⟩ = chk ⟨k, now, jb, tr, wk, tm⟩ := by simp [ckR, h1, h2]
      have HC := hide hc
      clear hc
      go_enter Try.func52, Try.ntmps52
      go_wp2_with fail
      refine (fault_any ⟨k, now, jb, tr, wk, tm⟩ _).mono ?_
      rintro e w1 ⟨rfl, g1⟩
      go_wp2
      go_ret
      exact ⟨by rw [unhide HC]; rfl, ((Chg.refl _ _).alloc _).trans g1 (by simp)⟩

theorem rsum_any (a : Option Addr) (cap : Nat) (f : Nat → Int) (w : World) (h : Byt w a 8 f) :
    Calls Try.prog 51 #[.slice a 8 cap] w fun e w' => e = .returned (.int .u8 (sm f 8 % 251)) ∧ w' = w := by
  obtain ⟨hf, h | ⟨b, off, rfl, hb, hc⟩⟩ := h
  · omega
  have HF := hide hf
  have HC := hide hc
  clear hf hc
  go_enter Try.func51, Try.ntmps51
  go_wp2
  go_loop [3, 4] (fun n i => ∃ k : Nat, k ≤ 8 ∧ i = .int .i64 k ∧ n = .int .i64 (sm f k)) (fun _ i => 8 - (intOf i).toNat)
  case atStart => exact ⟨0, by omega, rfl, rfl⟩
  case round =>
    obtain ⟨k, hk, rfl, rfl⟩ := hrel
    obtain ⟨s0, s1⟩ := sm_bd f (unhide HF) k hk
    by_cases hlt : k < 8
    · obtain ⟨f0, f1⟩ := unhide HF k hlt
      obtain ⟨m0, m1⟩ := sm_step f hlt f0 f1
      rw [Int.mul_comm] at m0 m1
      have hs : sm f (k + 1) = sm f k + ((k : Int) + 1) * f k := by rw [Int.mul_comm]; rfl
      have HS := hide hs
      clear hs
      have c0 := unhide HC k hlt
      go_wp2
      go_round
      case rel => exact ⟨k + 1, by omega, by go_num, by rw [unhide HS]⟩
      case measure => simp [intOf]; omega
    · obtain rfl : k = 8 := by omega
      go_wp2
      go_ret
      exact ⟨rfl, rfl⟩

def intL (r : Rc) : Array Value := #[.int .i64 (by8 r 0), .int .i64 (by8 r 1), .int .i64 (by8 r 2), .int .i64 (by8 r 3), .int .i64 (by8 r 4), .int .i64 (by8 r 5), .int .i64 (by8 r 6), .int .i64 (by8 r 7)]
theorem intL_cell {w : World} {b : Nat} {r : Rc} {t : TypeId} (h : Blk w b (intL r) t) (i : Nat) (hi : i < 8) : w.cell? ⟨b, i, none⟩ = some (.int .i64 (by8 r i)) := by
  rw [h.cell]
  obtain rfl | rfl | rfl | rfl | rfl | rfl | rfl | rfl : i = 0 ∨ i = 1 ∨ i = 2 ∨ i = 3 ∨ i = 4 ∨ i = 5 ∨ i = 6 ∨ i = 7 := by omega
  all_goals rfl
theorem bytL_succ (n : Nat) (f : Nat → Int) : bytL (n + 1) f = bytL n f ++ [.int .u8 (f n)] := by simp [bytL, List.range_succ]
theorem bytL_nine (r : Rc) : bytL 8 (by8 r) ++ [.int .u8 (sm (by8 r) 8 % 251)] = nine r := by rfl


end Go.Proofs.Ytjoibdmppmpjgac

