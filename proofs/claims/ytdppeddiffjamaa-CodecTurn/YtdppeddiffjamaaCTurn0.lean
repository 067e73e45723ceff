/-
  One byte turned: the sum is another one. Plain mathematics. Nothing here is claimed by itself.
-/
import Derived.Test.YtdppeddiffjamaaC0
namespace Go.Proofs.Ytdppeddiffjamaa
open Go.RowKit

def upd (f : Nat → Int) (k : Nat) (x : Int) : Nat → Int := fun i => if i = k then x else f i

theorem turn_sm (f : Nat → Int) (k : Nat) (hk : k < 8) (x : Int) : sm (upd f k x) 8 = sm f 8 + (x - f k) * ((k : Int) + 1) := by
  obtain rfl | rfl | rfl | rfl | rfl | rfl | rfl | rfl : k = 0 ∨ k = 1 ∨ k = 2 ∨ k = 3 ∨ k = 4 ∨ k = 5 ∨ k = 6 ∨ k = 7 := by omega
  all_goals (simp [sm, upd]; omega)

theorem turn_mod (S d c inv t : Int) (hc : inv * c = 251 * t + 1) (h : d % 251 ≠ 0) : (S + d * c) % 251 ≠ S % 251 := by
  intro e
  obtain ⟨q, hq⟩ : ∃ q, d * c = 251 * q := ⟨(S + d * c) / 251 - S / 251, by omega⟩
  have e1 : d * (inv * c) = 251 * (inv * q) := by
    rw [Int.mul_left_comm d inv c, hq, Int.mul_left_comm inv 251 q]
  rw [hc, Int.mul_add, Int.mul_one, Int.mul_left_comm d 251 t] at e1
  omega

theorem turn_dec {r : Rc} (k : Nat) (hk : k < 9) (x : Int) (h : (x - by9 r k) % 251 ≠ 0) : dec 9 (upd (by9 r) k x) = (rc0, 2) := by
  have key : upd (by9 r) k x 8 ≠ sm (upd (by9 r) k x) 8 % 251 := by
    have e8 : by9 r 8 = sm (by9 r) 8 % 251 := by rw [sm_by]; simp [by9]
    by_cases h8 : k = 8
    · subst h8
      have e1 : sm (upd (by9 r) 8 x) 8 = sm (by9 r) 8 := sm_congr 8 (fun i hi => by simp only [upd]; rw [if_neg (by omega)])
      rw [e1]
      simp only [upd, if_true]
      omega
    · have e1 : upd (by9 r) k x 8 = by9 r 8 := by simp only [upd]; rw [if_neg (by omega)]
      rw [e1, e8, turn_sm (by9 r) k (by omega) x]
      intro e
      generalize hd : x - by9 r k = d at *
      have hk8 : k < 8 := by omega
      obtain rfl | rfl | rfl | rfl | rfl | rfl | rfl | rfl : k = 0 ∨ k = 1 ∨ k = 2 ∨ k = 3 ∨ k = 4 ∨ k = 5 ∨ k = 6 ∨ k = 7 := by omega
      · exact turn_mod _ d (((0 : Nat) : Int) + 1) 1 0 (by decide) h e.symm
      · exact turn_mod _ d (((1 : Nat) : Int) + 1) 126 1 (by decide) h e.symm
      · exact turn_mod _ d (((2 : Nat) : Int) + 1) 84 1 (by decide) h e.symm
      · exact turn_mod _ d (((3 : Nat) : Int) + 1) 63 1 (by decide) h e.symm
      · exact turn_mod _ d (((4 : Nat) : Int) + 1) 201 4 (by decide) h e.symm
      · exact turn_mod _ d (((5 : Nat) : Int) + 1) 42 1 (by decide) h e.symm
      · exact turn_mod _ d (((6 : Nat) : Int) + 1) 36 1 (by decide) h e.symm
      · exact turn_mod _ d (((7 : Nat) : Int) + 1) 157 5 (by decide) h e.symm
  unfold dec
  rw [if_neg (by omega), if_pos key]

theorem mod_of_tmod {d : Int} (h : d.tmod 251 ≠ 0) : d % 251 ≠ 0 := by
  intro e
  exact h (Int.tmod_eq_zero_of_dvd (Int.dvd_of_emod_eq_zero e))

theorem pick9 (x : Int) : ∃ k : Nat, k < 9 ∧ wrap64 ((IntKind.u64.wrap x).tmod 9) = k := by
  have h0 : 0 ≤ IntKind.u64.wrap x := by simp only [IntKind.wrap, IntKind.bits, IntKind.signed]; simp; omega
  have h1 : 0 ≤ (IntKind.u64.wrap x).tmod 9 := Int.tmod_nonneg _ h0
  have h2 : (IntKind.u64.wrap x).tmod 9 < 9 := Int.tmod_lt_of_pos _ (by omega)
  refine ⟨((IntKind.u64.wrap x).tmod 9).toNat, by omega, ?_⟩
  unfold wrap64
  omega

end Go.Proofs.Ytdppeddiffjamaa
