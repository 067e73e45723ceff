/-
  What the small functions of the codec layer do. Nothing here is claimed by itself.
-/
import Derived.Test.YtdppeddiffjamaaC0
import Derived.Deep.Light
namespace Go.Proofs.Ytdppeddiffjamaa
open Go.RowKit

theorem cck_any (r : Rc) (w : World) :
    Calls Try.prog 30 #[.agg r.cells] w fun e w' => e = .returned (.int .i64 (ckR r)) ∧ Chg [] w w' := by
  obtain ⟨ep, ⟨k, now, jb, tr, wk, tm⟩⟩ := r
  unfold Rc.cells
  by_cases h1 : ep < 1
  · have hc : ckR ⟨ep, ⟨k, now, jb, tr, wk, tm⟩⟩ = 3 := by simp [ckR, h1]
    have HC := hide hc
    clear hc
    go_enter Try.func30, Try.ntmps30
    go_wp2_with fail
    go_ret
    exact ⟨by rw [unhide HC]; rfl, (Chg.refl _ _).alloc _⟩
  · by_cases h2 : 100 < ep
    · have hc : ckR ⟨ep, ⟨k, now, jb, tr, wk, tm⟩⟩ = 3 := by simp [ckR, h2]
      have HC := hide hc
      clear hc
      go_enter Try.func30, Try.ntmps30
      go_wp2_with fail
      go_ret
      exact ⟨by rw [unhide HC]; rfl, (Chg.refl _ _).alloc _⟩
    · have hc : ckR ⟨ep, ⟨k, now, jb, tr, wk, tm⟩⟩ = chk ⟨k, now, jb, tr, wk, tm⟩ := by simp [ckR, h1, h2]
      have HC := hide hc
      clear hc
      go_enter Try.func30, Try.ntmps30
      go_wp2_with fail
      refine (check_any ⟨k, now, jb, tr, wk, tm⟩ _).mono ?_
      rintro e w1 ⟨rfl, g1⟩
      go_wp2
      go_ret
      exact ⟨by rw [unhide HC]; rfl, ((Chg.refl _ _).alloc _).trans g1 (by simp)⟩

theorem csum_any (a : Option Addr) (cap : Nat) (f : Nat → Int) (w : World) (h : Byt w a 8 f) :
    Calls Try.prog 42 #[.slice a 8 cap] w fun e w' => e = .returned (.int .u8 (sm f 8 % 251)) ∧ w' = w := by
  obtain ⟨hf, h | ⟨b, off, rfl, hb, hc⟩⟩ := h
  · omega
  have HF := hide hf
  have HC := hide hc
  clear hf hc
  go_enter Try.func42, Try.ntmps42
  go_wp2
  go_loop [3, 8] (fun n i => ∃ k : Nat, k ≤ 8 ∧ i = .int .i64 k ∧ n = .int .i64 (sm f k)) (fun _ i => 8 - (intOf i).toNat)
  case atStart => exact ⟨0, by omega, rfl, rfl⟩
  case round =>
    obtain ⟨k, hk, rfl, rfl⟩ := hrel
    have sb := sm_bd f (unhide HF) k hk
    obtain ⟨s0, s1⟩ := sb
    by_cases hlt : k < 8
    · obtain ⟨f0, f1⟩ := unhide HF k hlt
      obtain ⟨m0, m1⟩ := sm_step f hlt f0 f1
      have hs : sm f (k + 1) = sm f k + f k * ((k : Int) + 1) := rfl
      have HS := hide hs
      clear hs
      have c0 := unhide HC k hlt
      go_wp2
      go_round
      case rel => exact ⟨k + 1, by omega, by go_num, by rw [unhide HS]⟩
      case measure => simp [intOf]; omega
    · obtain rfl : k = 8 := by omega
      go_wp2
      go_ret
      exact ⟨rfl, rfl⟩

end Go.Proofs.Ytdppeddiffjamaa
