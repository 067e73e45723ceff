/-
  Plain mathematics: in time or not at all. Nothing here is claimed by itself.
-/
import Derived.Test.YtapjdnbionacmaaPFirst0
import Derived.Test.YtapjdnbionacmaaPDone0
namespace Go.Proofs.Ytapjdnbionacmaa
open Go.RowKit

theorem held_chk {T : Tb} (hI : Inv T) {n : Nat} (hn : n < 6) {jw jt ju : Int} (hj : T.js n = ⟨2, jw, jt, ju⟩) {now : Int} (h1 : T.now ≤ now) (h2 : now ≤ 60000) :
    chk ⟨4, now, n, jt, jw, 0⟩ = 0 ∧ chk ⟨3, now, n, jt, jw, 1⟩ = 0 := by
  have hv := hI.2.2 n hn
  rw [hj] at hv
  unfold JInv at hv
  simp only at hv
  have h0 := hI.1
  have e1 : knownB 4 = true := by decide
  have e2 : knownB 3 = true := by decide
  have e3 : formB ⟨4, now, n, jt, jw, 0⟩ (hJob 4) (hTry 4) (hWrk 4) (hTrm 4) = true := by simp [formB, hJob, hTry, hWrk, hTrm]
  have e4 : formB ⟨3, now, n, jt, jw, 1⟩ (hJob 3) (hTry 3) (hWrk 3) (hTrm 3) = true := by simp [formB, hJob, hTry, hWrk, hTrm]
  have e5 : rangeB ⟨4, now, n, jt, jw, 0⟩ (hTry 4) (hTrm 4) = true := by simp [rangeB, inB, hTry, hTrm]; omega
  have e6 : rangeB ⟨3, now, n, jt, jw, 1⟩ (hTry 3) (hTrm 3) = true := by simp [rangeB, inB, hTry, hTrm]; omega
  exact ⟨by simp [chk, e1, e3, e5], by simp [chk, e2, e4, e6]⟩

theorem do_of {T : Tb} {o : Od} (hc : chk o = 0) (h3 : 3 ≤ o.k) : doT T o = if (heedT (passT T o.now) o).2.code = 0 then heedT (passT T o.now) o else (T, (heedT (passT T o.now) o).2) := by
  have ho : obeyT (passT T o.now) o = heedT (passT T o.now) o := by
    unfold obeyT; rw [if_neg (by omega), if_neg (by omega)]
  unfold doT
  rw [if_neg (by simp [hc]), ho]

theorem time_in {T : Tb} (hI : Inv T) {n : Nat} (hn : n < 6) {jw jt ju : Int} (hj : T.js n = ⟨2, jw, jt, ju⟩) {now : Int} (h1 : T.now ≤ now) (h2 : now ≤ 60000) (h3 : now < ju) :
    (doT T ⟨4, now, n, jt, jw, 0⟩).2.code = 0 ∧ (doT T ⟨4, now, n, jt, jw, 0⟩).1.js n = ⟨3, jw, jt, 0⟩ ∧ (doT T ⟨3, now, n, jt, jw, 1⟩).2.code = 0 ∧ (doT T ⟨3, now, n, jt, jw, 1⟩).1.js n = ⟨2, jw, jt, now + 1⟩ := by
  obtain ⟨c1, c2⟩ := held_chk hI hn hj h1 h2
  have hm : max T.now now = now := by omega
  have hp : (passT T now).js n = ⟨2, jw, jt, ju⟩ := by
    rw [passT_js T now hn, hm, hj]
    unfold ageJ
    rw [if_neg]
    simp only
    omega
  have hd1 := do_of (T := T) c1 (by simp)
  have hd2 := do_of (T := T) c2 (by simp)
  have e1 : heedT (passT T now) ⟨4, now, n, jt, jw, 0⟩ = ((passT T now).set n ⟨3, jw, jt, 0⟩, ⟨0, 0, 0⟩) := by simp [heedT, hp, heedJ]
  have e2 : heedT (passT T now) ⟨3, now, n, jt, jw, 1⟩ = ((passT T now).set n ⟨2, jw, jt, now + 1⟩, ⟨0, 0, 0⟩) := by simp [heedT, hp, heedJ, passT_now, hm]
  simp only at hd1 hd2
  rw [e1, if_pos rfl] at hd1
  rw [e2, if_pos rfl] at hd2
  rw [hd1, hd2]
  exact ⟨rfl, Tb.set_same _ _ _, rfl, Tb.set_same _ _ _⟩

theorem time_out {T : Tb} (hI : Inv T) {n : Nat} (hn : n < 6) {jw jt ju : Int} (hj : T.js n = ⟨2, jw, jt, ju⟩) {now : Int} (h1 : T.now ≤ now) (h2 : now ≤ 60000) (h3 : ju ≤ now) :
    doT T ⟨4, now, n, jt, jw, 0⟩ = (T, ⟨6, 0, 0⟩) ∧ doT T ⟨3, now, n, jt, jw, 1⟩ = (T, ⟨6, 0, 0⟩) := by
  obtain ⟨c1, c2⟩ := held_chk hI hn hj h1 h2
  have hm : max T.now now = now := by omega
  have hp : (passT T now).js n = relJ ⟨2, jw, jt, ju⟩ := by
    rw [passT_js T now hn, hm, hj]
    unfold ageJ
    rw [if_pos ⟨rfl, h3⟩]
  have hs0 : (relJ ⟨2, jw, jt, ju⟩).st ≠ 0 := by rw [relJ_st]; split <;> omega
  have hs2 : (relJ ⟨2, jw, jt, ju⟩).st ≠ 2 := by rw [relJ_st]; split <;> omega
  have hd1 := do_of (T := T) c1 (by simp)
  have hd2 := do_of (T := T) c2 (by simp)
  have e1 : heedT (passT T now) ⟨4, now, n, jt, jw, 0⟩ = (passT T now, ⟨6, 0, 0⟩) := by simp [heedT, hp, hs0, hs2]
  have e2 : heedT (passT T now) ⟨3, now, n, jt, jw, 1⟩ = (passT T now, ⟨6, 0, 0⟩) := by simp [heedT, hp, hs0, hs2]
  simp only at hd1 hd2
  rw [e1, if_neg (by simp)] at hd1
  rw [e2, if_neg (by simp)] at hd2
  exact ⟨hd1, hd2⟩

theorem time_take {T : Tb} {n : Nat} (hn : n < 6) {jw jt ju : Int} (hj : T.js n = ⟨2, jw, jt, ju⟩) {now : Int} (h1 : T.now ≤ now) (h3 : ju ≤ now) :
    (doT T ⟨2, now, 0, 0, 0, 5⟩).1.js n = ⟨2, jw, jt, ju⟩ ∨ (doT T ⟨2, now, 0, 0, 0, 5⟩).1.js n = ⟨1, 0, jt, 0⟩ ∨ (doT T ⟨2, now, 0, 0, 0, 5⟩).1.js n = ⟨4, 0, jt, 0⟩ ∨ ∃ u, (doT T ⟨2, now, 0, 0, 0, 5⟩).1.js n = ⟨2, 0, jt + 1, u⟩ := by
  have hm : max T.now now = now := by omega
  have ha : ageJ now (T.js n) = relJ ⟨2, jw, jt, ju⟩ := by
    rw [hj]; unfold ageJ; rw [if_pos ⟨rfl, h3⟩]
  rcases do_step T ⟨2, now, 0, 0, 0, 5⟩ with ⟨_, _, _, e⟩ | ⟨_, _, _, k, hk, hoth, _, hst⟩
  · rw [e]; exact .inl hj
  · simp only [hm] at hoth hst
    by_cases e : n = k
    · subst e
      rcases hst with ⟨a1, _⟩ | ⟨_, _, a3, _⟩ | ⟨a1, _⟩ | ⟨a1, _⟩ | ⟨a1, _⟩
      · simp at a1
      · right; right; right
        rw [a3, ha]
        exact ⟨_, rfl⟩
      · simp at a1
      · simp at a1
      · simp at a1
    · rw [hoth n hn e, ha]
      by_cases h3 : jt = 3
      · right; right; left; simp [relJ, h3]
      · right; left; simp [relJ, h3]

end Go.Proofs.Ytapjdnbionacmaa
