/-
  Plain mathematics: done is done. Nothing here is claimed by itself.
-/
import Derived.Test.YtapjdnbionacmaaPTries0
namespace Go.Proofs.Ytapjdnbionacmaa

def DN (T : Tb) (d : Nat → Int) : Prop := ∀ n, n < 6 → (d n = 0 ∨ d n = 1) ∧ ((T.js n).st = 3 ↔ d n = 1)

theorem ageJ_final {m : Int} {j : Jb} (h : j.st ≠ 2) : ageJ m j = j := by
  unfold ageJ; rw [if_neg (fun e => h e.1)]
theorem ageJ_three {m : Int} {j : Jb} : (ageJ m j).st = 3 ↔ j.st = 3 := by
  unfold ageJ
  by_cases e : j.st = 2 ∧ j.un ≤ m
  · rw [if_pos e, relJ_st]; split <;> omega
  · rw [if_neg e]
theorem do_final (T : Tb) (o : Od) (n : Nat) (hn : n < 6) (h : (T.js n).st = 3 ∨ (T.js n).st = 4) : (doT T o).1.js n = T.js n := by
  rcases do_step T o with ⟨_, _, _, e⟩ | ⟨_, _, _, k, hk, hoth, _, hst⟩
  · rw [e]
  · have ea : ageJ (max T.now o.now) (T.js n) = T.js n := ageJ_final (by omega)
    by_cases e : n = k
    · subst e
      rw [ea] at hst
      rcases hst with ⟨_, _, a3, _, _⟩ | ⟨_, a2, _, _⟩ | ⟨_, _, a3, _⟩ | ⟨_, _, a3, _⟩ | ⟨_, _, a3, _⟩ <;> omega
    · rw [hoth n hn e, ea]
theorem done_done {T : Tb} {d : Nat → Int} (h : DN T d) (o : Od) (hk : o.k = 4) (hz : (doT T o).2.code = 0) :
    ∃ n : Nat, n < 6 ∧ o.jb = (n : Int) ∧ d n = 0 ∧ (doT T o).1.js n = ⟨3, o.wk, o.tr, 0⟩ ∧ (T.js n).wk = o.wk ∧ (T.js n).tr = o.tr ∧ DN (doT T o).1 (setI d n 1) := by
  rcases do_step T o with ⟨hc, _⟩ | ⟨_, hc, hnow, n, hn, hoth, _, hst⟩
  · exact absurd hz hc
  rcases hst with ⟨a1, _⟩ | ⟨a1, _⟩ | ⟨a1, _⟩ | ⟨a1, a2, a3, a4, a5, a6, a7⟩ | ⟨a1, _⟩ <;> try omega
  have ea := ageJ_held a3
  rw [ea] at a3 a4 a5
  rw [ea, a4, a5] at a6
  refine ⟨n, hn, a2, ?_, a6, a4, a5, fun k hk => ?_⟩
  · have := h n hn
    omega
  · by_cases e : k = n
    · subst e
      rw [a6]
      simp [setI]
    · rw [hoth k hk e, ageJ_three]
      simp only [setI, if_neg e]
      exact h k hk
theorem done_else {T : Tb} {d : Nat → Int} (h : DN T d) (o : Od) (hk : ¬ (o.k = 4 ∧ (doT T o).2.code = 0)) : DN (doT T o).1 d := by
  rcases do_step T o with ⟨_, _, _, e⟩ | ⟨hz, hc, hnow, n, hn, hoth, _, hst⟩
  · rw [e]; exact h
  intro k hk6
  refine ⟨(h k hk6).1, ?_⟩
  rw [← (h k hk6).2]
  by_cases e : k = n
  · subst e
    have e3 := @ageJ_three (max T.now o.now) (T.js k)
    rw [← e3]
    rcases hst with ⟨a1, a2, a3, a4, a5⟩ | ⟨a1, a2, a3, a4⟩ | ⟨a1, a2, a3, a4, a5, a6, a7⟩ | ⟨a1, a2, a3, a4, a5, a6, a7⟩ | ⟨a1, a2, a3, a4, a5, a6, a7⟩
    · rw [a4, a3]; decide
    · rw [a3, a2]; simp
    · rw [a6, a3]
    · exact absurd ⟨a1, hz⟩ hk
    · rw [a6, a3, relJ_st]; split <;> omega
  · rw [hoth k hk6 e, ageJ_three]

end Go.Proofs.Ytapjdnbionacmaa
