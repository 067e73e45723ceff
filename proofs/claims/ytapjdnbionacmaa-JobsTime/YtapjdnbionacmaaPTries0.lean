/-
  Plain mathematics: no try is given twice. Nothing here is claimed by itself.
-/
import Derived.Test.YtapjdnbionacmaaLawBase
namespace Go.Proofs.Ytapjdnbionacmaa

/-! ### No try is given twice -/
def TW (T : Tb) (f g : Nat → Int) : Prop := ∀ n, n < 6 → (T.js n).tr = f n ∧ ((T.js n).st = 2 → (T.js n).wk = g n)

theorem ageJ_held {m : Int} {j : Jb} (h : (ageJ m j).st = 2) : ageJ m j = j := by
  unfold ageJ at h ⊢
  by_cases e : j.st = 2 ∧ j.un ≤ m
  · rw [if_pos e, relJ_st] at h; split at h <;> omega
  · rw [if_neg e]
theorem TW.age {T : Tb} {f g : Nat → Int} (h : TW T f g) (m : Int) {n : Nat} (hn : n < 6) : (ageJ m (T.js n)).tr = f n ∧ ((ageJ m (T.js n)).st = 2 → (ageJ m (T.js n)).wk = g n) := by
  refine ⟨by rw [ageJ_tr]; exact (h n hn).1, fun hs => ?_⟩
  have e := ageJ_held hs
  rw [e] at hs ⊢
  exact (h n hn).2 hs
theorem tries_take {T : Tb} {f g : Nat → Int} (hI : Inv T) (h : TW T f g) (o : Od) (hk : o.k = 2) (hz : (doT T o).2.code = 0) :
    ∃ n : Nat, n < 6 ∧ (doT T o).2.jb = (n : Int) ∧ (doT T o).2.tr = f n + 1 ∧ 0 ≤ f n ∧ f n ≤ 2 ∧ TW (doT T o).1 (setI f n (f n + 1)) (setI g n o.wk) := by
  rcases do_step T o with ⟨hc, _⟩ | ⟨_, hc, hnow, n, hn, hoth, _, hst⟩
  · exact absurd hz hc
  have hage := jinv_age (hI.2.2 n hn) (show T.now ≤ max T.now o.now by omega)
  have htw := h.age (max T.now o.now) hn
  rcases hst with ⟨a1, _⟩ | ⟨a1, a2, a3, a4⟩ | ⟨a1, _⟩ | ⟨a1, _⟩ | ⟨a1, _⟩ <;> try omega
  refine ⟨n, hn, by rw [a4], by rw [a4]; simp only; rw [htw.1], ?_, ?_, fun k hk => ?_⟩
  · rw [← htw.1]; unfold JInv at hage; omega
  · rw [← htw.1]; unfold JInv at hage; omega
  · by_cases e : k = n
    · subst e
      rw [a3]
      exact ⟨by simp [setI, htw.1], fun _ => by simp [setI]⟩
    · rw [hoth k hk e]
      simp only [setI, if_neg e]
      exact h.age _ hk
theorem tries_else {T : Tb} {f g : Nat → Int} (hI : Inv T) (h : TW T f g) (o : Od) (hk : ¬ (o.k = 2 ∧ (doT T o).2.code = 0)) : TW (doT T o).1 f g := by
  rcases do_step T o with ⟨_, _, _, e⟩ | ⟨hz, hc, hnow, n, hn, hoth, _, hst⟩
  · rw [e]; exact h
  have hage := jinv_age (hI.2.2 n hn) (show T.now ≤ max T.now o.now by omega)
  have htw := h.age (max T.now o.now) hn
  intro k hk6
  by_cases e : k = n
  · subst e
    rcases hst with ⟨a1, a2, a3, a4, a5⟩ | ⟨a1, a2, a3, a4⟩ | ⟨a1, a2, a3, a4, a5, a6, a7⟩ | ⟨a1, a2, a3, a4, a5, a6, a7⟩ | ⟨a1, a2, a3, a4, a5, a6, a7⟩
    · rw [a4]
      refine ⟨?_, fun h => by simp at h⟩
      rw [← htw.1]; unfold JInv at hage; simp only; omega
    · exact absurd ⟨a1, hz⟩ hk
    · rw [a6]; exact ⟨htw.1, fun _ => htw.2 a3⟩
    · rw [a6]; exact ⟨htw.1, fun h => by simp at h⟩
    · rw [a6]; exact ⟨htw.1, fun h => by rw [relJ_st] at h; split at h <;> omega⟩
  · rw [hoth k hk6 e]; exact h.age _ hk6
theorem Inv.held {T : Tb} (h : Inv T) {n : Nat} (hn : n < 6) (hs : (T.js n).st = 2) : T.now < (T.js n).un := by
  have := h.2.2 n hn; unfold JInv at this; omega

end Go.Proofs.Ytapjdnbionacmaa
