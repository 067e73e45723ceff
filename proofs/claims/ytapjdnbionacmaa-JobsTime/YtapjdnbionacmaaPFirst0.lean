/-
  Plain mathematics: the first that waits is taken. Nothing here is claimed by itself.
-/
import Derived.Test.YtapjdnbionacmaaPTries0
namespace Go.Proofs.Ytapjdnbionacmaa
open Go.RowKit

def fw (T : Tb) (k : Nat) : Int := match firstW T k (6 - k) with | none => -1 | some n => (n : Int)
theorem fw_here (T : Tb) {j : Nat} (h : j < 6) (hs : (T.js j).st = 1) : fw T j = j := by
  have e : firstW T j (6 - j) = some j := by rw [show 6 - j = (6 - (j + 1)) + 1 by omega]; simp [firstW, hs]
  simp [fw, e]
theorem fw_next (T : Tb) {j : Nat} (h : j < 6) (hs : ¬ (T.js j).st = 1) : fw T j = fw T (j + 1) := by
  have e : firstW T j (6 - j) = firstW T (j + 1) (6 - (j + 1)) := by rw [show 6 - j = (6 - (j + 1)) + 1 by omega]; simp [firstW, hs]
  simp [fw, e]
theorem pass_same {T : Tb} (hI : Inv T) : passT T T.now = T := by
  have hm : max T.now T.now = T.now := by omega
  unfold passT passTo
  rw [hm]
  obtain ⟨js, now⟩ := T
  congr 1
  funext n
  by_cases hn : n < 6
  · simp only [hn, if_true]
    have := hI.2.2 n hn
    unfold JInv at this
    unfold ageJ
    rw [if_neg]
    simp only at this
    omega
  · simp [hn]
theorem take_now {T : Tb} (hI : Inv T) {wk tm : Int} (hw : 0 ≤ wk ∧ wk ≤ 3) (ht : 1 ≤ tm ∧ tm ≤ 20) :
    (fw T 0 = -1 ∧ doT T ⟨2, T.now, 0, 0, wk, tm⟩ = (T, ⟨5, 0, 0⟩)) ∨
    ∃ n : Nat, n < 6 ∧ fw T 0 = (n : Int) ∧ doT T ⟨2, T.now, 0, 0, wk, tm⟩ = (T.set n ⟨2, wk, (T.js n).tr + 1, T.now + tm⟩, ⟨0, n, (T.js n).tr + 1⟩) := by
  have hc : chk ⟨2, T.now, 0, 0, wk, tm⟩ = 0 := by
    have h1 := hI.1
    have h2 := hI.2.1
    have e1 : knownB 2 = true := by decide
    have e2 : formB ⟨2, T.now, 0, 0, wk, tm⟩ (hJob 2) (hTry 2) (hWrk 2) (hTrm 2) = true := by simp [formB, hJob, hTry, hWrk, hTrm]
    have e3 : rangeB ⟨2, T.now, 0, 0, wk, tm⟩ (hTry 2) (hTrm 2) = true := by simp [rangeB, inB, hTry, hTrm]; omega
    simp [chk, e1, e2, e3]
  have ho : obeyT (passT T T.now) ⟨2, T.now, 0, 0, wk, tm⟩ = takeT T wk tm := by rw [pass_same hI]; simp [obeyT]
  have hd : doT T ⟨2, T.now, 0, 0, wk, tm⟩ = if (takeT T wk tm).2.code = 0 then takeT T wk tm else (T, (takeT T wk tm).2) := by
    unfold doT
    rw [if_neg (by simp [hc])]
    simp only
    rw [ho]
  rcases firstW_spec T 6 0 with ⟨f1, _⟩ | ⟨n, f1, _, f3, _, _⟩
  · left
    have e : takeT T wk tm = (T, ⟨5, 0, 0⟩) := by simp [takeT, f1]
    rw [hd, e]
    exact ⟨by simp [fw, f1], by simp⟩
  · right
    have e : takeT T wk tm = (T.set n ⟨2, wk, (T.js n).tr + 1, T.now + tm⟩, ⟨0, n, (T.js n).tr + 1⟩) := by simp [takeT, f1]
    rw [hd, e]
    exact ⟨n, by omega, by simp [fw, f1], by simp⟩

theorem u64_nonneg (x : Int) : 0 ≤ IntKind.u64.wrap x := by rw [IntKind.wrap_u64]; omega
theorem rem_bd (z m : Int) (hz : 0 ≤ z) (hm : 0 < m) : 0 ≤ z.tmod m ∧ z.tmod m < m := ⟨Int.tmod_nonneg _ hz, Int.tmod_lt_of_pos _ hm⟩
theorem wrap64_small {z : Int} (h0 : 0 ≤ z) (h1 : z ≤ 100000) : wrap64 z = z := by unfold wrap64; omega
theorem pick_bd (x m : Int) (h0 : 0 < m) (h1 : m ≤ 1000) : 0 ≤ wrap64 ((IntKind.u64.wrap x).tmod m) ∧ wrap64 ((IntKind.u64.wrap x).tmod m) < m := by
  have := rem_bd _ m (u64_nonneg x) h0
  rw [wrap64_small this.1 (by omega)]
  exact this
theorem pick1_bd (x m : Int) (h0 : 0 < m) (h1 : m ≤ 1000) : 1 ≤ wrap64 (1 + wrap64 ((IntKind.u64.wrap x).tmod m)) ∧ wrap64 (1 + wrap64 ((IntKind.u64.wrap x).tmod m)) ≤ m := by
  have := pick_bd x m h0 h1
  rw [wrap64_small (by omega) (by omega)]
  omega

end Go.Proofs.Ytapjdnbionacmaa
