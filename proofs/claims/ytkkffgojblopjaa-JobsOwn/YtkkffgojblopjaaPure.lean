/-
  Plain mathematics of tables and orders: what an order may do to a table. Nothing here is claimed by itself.
-/
import Derived.Test.YtkkffgojblopjaaBase
namespace Go.Proofs.Ytkkffgojblopjaa

theorem chk_zero {o : Od} (h : chk o = 0) : (1 ≤ o.k ∧ o.k ≤ 5) ∧ (0 ≤ o.now ∧ o.now ≤ 60000) ∧ (0 ≤ o.jb ∧ o.jb ≤ 5) ∧ (0 ≤ o.wk ∧ o.wk ≤ 3) ∧ (0 ≤ o.tr ∧ o.tr ≤ 3) ∧ (0 ≤ o.tm ∧ o.tm ≤ 20) ∧ ((o.k = 2 ∨ o.k = 3) → 1 ≤ o.tm) ∧ ((o.k = 3 ∨ o.k = 4 ∨ o.k = 5) → 1 ≤ o.tr) := by
  unfold chk at h
  by_cases h1 : knownB o.k = false
  · rw [if_pos h1] at h; omega
  rw [if_neg h1] at h
  by_cases h2 : formB o (hJob o.k) (hTry o.k) (hWrk o.k) (hTrm o.k) = false
  · rw [if_pos h2] at h; omega
  rw [if_neg h2] at h
  by_cases h3 : rangeB o (hTry o.k) (hTrm o.k) = false
  · rw [if_pos h3] at h; omega
  simp only [Bool.not_eq_false] at h1 h2 h3
  have k1 : 1 ≤ o.k ∧ o.k ≤ 5 := by simpa [knownB, inB] using h1
  have hk : o.k = 1 ∨ o.k = 2 ∨ o.k = 3 ∨ o.k = 4 ∨ o.k = 5 := by omega
  clear h h1
  rcases hk with e | e | e | e | e <;> simp [e, formB, rangeB, inB, hJob, hTry, hWrk, hTrm] at h2 h3 <;> omega

/-- What every table that was made by orders keeps to, as far as the sums need it. -/
def Fit (T : Tb) : Prop := (0 ≤ T.now ∧ T.now ≤ 60000) ∧ ∀ n, n < 6 → 0 ≤ (T.js n).tr ∧ (T.js n).tr ≤ 3

theorem relJ_tr (j : Jb) : (relJ j).tr = j.tr := rfl
theorem ageJ_tr (m : Int) (j : Jb) : (ageJ m j).tr = j.tr := by unfold ageJ; split <;> rfl
theorem Fit.pass {T : Tb} (h : Fit T) {m : Int} (hm : m ≤ 60000) : Fit (passT T m) := by
  obtain ⟨h1, h2⟩ := h
  refine ⟨?_, fun n hn => ?_⟩
  · show 0 ≤ max T.now m ∧ max T.now m ≤ 60000
    omega
  · have : ((passT T m).js n).tr = (T.js n).tr := by simp [passT, passTo, hn, ageJ_tr]
    rw [this]; exact h2 n hn


/-! ### What every table keeps to -/
def JInv (now : Int) (j : Jb) : Prop :=
  (j.st = 0 ∧ j.wk = 0 ∧ j.tr = 0 ∧ j.un = 0) ∨ (j.st = 1 ∧ j.wk = 0 ∧ 0 ≤ j.tr ∧ j.tr ≤ 2 ∧ j.un = 0) ∨
  (j.st = 2 ∧ 0 ≤ j.wk ∧ j.wk ≤ 3 ∧ 1 ≤ j.tr ∧ j.tr ≤ 3 ∧ now < j.un ∧ j.un ≤ now + 20) ∨
  (j.st = 3 ∧ 0 ≤ j.wk ∧ j.wk ≤ 3 ∧ 1 ≤ j.tr ∧ j.tr ≤ 3 ∧ j.un = 0) ∨ (j.st = 4 ∧ j.wk = 0 ∧ j.tr = 3 ∧ j.un = 0)

def Inv (T : Tb) : Prop := 0 ≤ T.now ∧ T.now ≤ 60000 ∧ ∀ n, n < 6 → JInv T.now (T.js n)

theorem Inv.fit {T : Tb} (h : Inv T) : Fit T := ⟨⟨h.1, h.2.1⟩, fun n hn => by have := h.2.2 n hn; unfold JInv at this; omega⟩
theorem inv_T0 : Inv T0 := ⟨by decide, by decide, fun n _ => .inl ⟨rfl, rfl, rfl, rfl⟩⟩

theorem relJ_st (j : Jb) : (relJ j).st = if j.tr = 3 then 4 else 1 := rfl
theorem jinv_age {now m : Int} {j : Jb} (h : JInv now j) (hm : now ≤ m) : JInv m (ageJ m j) := by
  unfold ageJ
  by_cases e : j.st = 2 ∧ j.un ≤ m
  · rw [if_pos e]
    unfold JInv at h ⊢
    by_cases e3 : j.tr = 3
    · simp [relJ, e3]
    · simp [relJ, e3]; omega
  · rw [if_neg e]
    unfold JInv at h ⊢
    rcases h with h | h | h | h | h
    · exact .inl h
    · exact .inr (.inl h)
    · exact .inr (.inr (.inl (by omega)))
    · exact .inr (.inr (.inr (.inl h)))
    · exact .inr (.inr (.inr (.inr h)))
theorem passT_js (T : Tb) (m : Int) {n : Nat} (hn : n < 6) : (passT T m).js n = ageJ (max T.now m) (T.js n) := by simp [passT, passTo, hn]
theorem passT_now (T : Tb) (m : Int) : (passT T m).now = max T.now m := rfl
theorem Inv.pass {T : Tb} (h : Inv T) {m : Int} (hm : m ≤ 60000) : Inv (passT T m) := by
  obtain ⟨h1, h2, h3⟩ := h
  refine ⟨by rw [passT_now]; omega, by rw [passT_now]; omega, fun n hn => ?_⟩
  rw [passT_js T m hn, passT_now]
  exact jinv_age (h3 n hn) (by omega)
theorem Inv.set {T : Tb} (h : Inv T) {n : Nat} {j : Jb} (hj : JInv T.now j) : Inv (T.set n j) := by
  refine ⟨h.1, h.2.1, fun m hm => ?_⟩
  by_cases e : m = n
  · subst e; rw [Tb.set_same]; exact hj
  · rw [Tb.set_other _ _ _ _ e]; exact h.2.2 m hm

theorem firstW_spec (T : Tb) : ∀ (f k : Nat), (firstW T k f = none ∧ ∀ n, k ≤ n → n < k + f → (T.js n).st ≠ 1) ∨ ∃ n, firstW T k f = some n ∧ k ≤ n ∧ n < k + f ∧ (T.js n).st = 1 ∧ ∀ m, k ≤ m → m < n → (T.js m).st ≠ 1
  | 0, k => .inl ⟨rfl, fun n h1 h2 => by omega⟩
  | f + 1, k => by
    by_cases e : (T.js k).st = 1
    · exact .inr ⟨k, by simp [firstW, e], by omega, by omega, e, fun m h1 h2 => by omega⟩
    · rcases firstW_spec T f (k + 1) with ⟨h1, h2⟩ | ⟨n, h1, h2, h3, h4, h5⟩
      · refine .inl ⟨by simp [firstW, e, h1], fun n g1 g2 => ?_⟩
        by_cases e2 : n = k
        · subst e2; exact e
        · exact h2 n (by omega) (by omega)
      · refine .inr ⟨n, by simp [firstW, e, h1], by omega, by omega, h4, fun m g1 g2 => ?_⟩
        by_cases e2 : m = k
        · subst e2; exact e
        · exact h5 m (by omega) g2

/-- What an order that is done has done to the job of which it speaks: that is as the time made it before, and as it is behind. -/
def Stepped (o : Od) (m : Int) (n : Nat) (p q : Jb) (a : An) : Prop :=
  (o.k = 1 ∧ o.jb = n ∧ p.st = 0 ∧ q = ⟨1, 0, 0, 0⟩ ∧ a = ⟨0, 0, 0⟩) ∨
  (o.k = 2 ∧ p.st = 1 ∧ q = ⟨2, o.wk, p.tr + 1, m + o.tm⟩ ∧ a = ⟨0, n, p.tr + 1⟩) ∨
  (o.k = 3 ∧ o.jb = n ∧ p.st = 2 ∧ p.wk = o.wk ∧ p.tr = o.tr ∧ q = ⟨2, p.wk, p.tr, m + o.tm⟩ ∧ a = ⟨0, 0, 0⟩) ∨
  (o.k = 4 ∧ o.jb = n ∧ p.st = 2 ∧ p.wk = o.wk ∧ p.tr = o.tr ∧ q = ⟨3, p.wk, p.tr, 0⟩ ∧ a = ⟨0, 0, 0⟩) ∨
  (o.k = 5 ∧ o.jb = n ∧ p.st = 2 ∧ p.wk = o.wk ∧ p.tr = o.tr ∧ q = relJ p ∧ a = ⟨0, 0, 0⟩)

theorem do_step (T : Tb) (o : Od) :
    ((doT T o).2.code ≠ 0 ∧ (doT T o).2.jb = 0 ∧ (doT T o).2.tr = 0 ∧ (doT T o).1 = T) ∨
    ((doT T o).2.code = 0 ∧ chk o = 0 ∧ (doT T o).1.now = max T.now o.now ∧ ∃ n, n < 6 ∧ (∀ k, k < 6 → k ≠ n → (doT T o).1.js k = ageJ (max T.now o.now) (T.js k)) ∧
      (o.k = 2 → ∀ k, k < n → (ageJ (max T.now o.now) (T.js k)).st ≠ 1) ∧
      Stepped o (max T.now o.now) n (ageJ (max T.now o.now) (T.js n)) ((doT T o).1.js n) (doT T o).2) := by
  by_cases hc0 : chk o ≠ 0
  · left
    have : doT T o = (T, ⟨chk o, 0, 0⟩) := by simp [doT, hc0]
    rw [this]; exact ⟨hc0, rfl, rfl, rfl⟩
  have hc : chk o = 0 := by omega
  clear hc0
  obtain ⟨k1, k2, k3, k4, k5, k6, k7, k8⟩ := chk_zero hc
  have hd : doT T o = if (obeyT (passT T o.now) o).2.code = 0 then obeyT (passT T o.now) o else (T, (obeyT (passT T o.now) o).2) := by simp [doT, hc]
  obtain ⟨n, hjn⟩ : ∃ n : Nat, o.jb = n := ⟨o.jb.toNat, by omega⟩
  have hn : n < 6 := by omega
  have hjt : o.jb.toNat = n := by omega
  have hjs := fun k (hk : k < 6) => passT_js T o.now hk
  by_cases e1 : o.k = 1
  · have ho : obeyT (passT T o.now) o = addT (passT T o.now) n := by simp [obeyT, e1, hjt]
    by_cases es : ((passT T o.now).js n).st = 0
    · have ha : addT (passT T o.now) n = ((passT T o.now).set n ⟨1, 0, 0, 0⟩, ⟨0, 0, 0⟩) := by simp [addT, es]
      rw [ho, ha, if_pos rfl] at hd
      rw [hd]
      right
      refine ⟨rfl, hc, rfl, n, hn, fun k hk hkn => ?_, fun h => by omega, .inl ⟨e1, hjn, by rw [← hjs n hn]; exact es, Tb.set_same _ _ _, rfl⟩⟩
      rw [Tb.set_other _ _ _ _ hkn, hjs k hk]
    · have ha : addT (passT T o.now) n = (passT T o.now, ⟨4, 0, 0⟩) := by simp [addT, es]
      rw [ho, ha, if_neg (by simp)] at hd
      rw [hd]
      exact .inl ⟨by simp, rfl, rfl, rfl⟩
  by_cases e2 : o.k = 2
  · have ho : obeyT (passT T o.now) o = takeT (passT T o.now) o.wk o.tm := by simp [obeyT, e2]
    rcases firstW_spec (passT T o.now) 6 0 with ⟨f1, f2⟩ | ⟨n, f1, f2, f3, f4, f5⟩
    · have ha : takeT (passT T o.now) o.wk o.tm = (passT T o.now, ⟨5, 0, 0⟩) := by simp [takeT, f1]
      rw [ho, ha, if_neg (by simp)] at hd
      rw [hd]
      exact .inl ⟨by simp, rfl, rfl, rfl⟩
    · have ha : takeT (passT T o.now) o.wk o.tm = ((passT T o.now).set n ⟨2, o.wk, ((passT T o.now).js n).tr + 1, (passT T o.now).now + o.tm⟩, ⟨0, n, ((passT T o.now).js n).tr + 1⟩) := by simp [takeT, f1]
      rw [ho, ha, if_pos rfl] at hd
      rw [hd]
      right
      have hn6 : n < 6 := by omega
      refine ⟨rfl, hc, rfl, n, hn6, fun k hk hkn => ?_, fun _ k hk => ?_, .inr (.inl ⟨e2, by rw [← hjs n hn6]; exact f4, ?_, ?_⟩)⟩
      · rw [Tb.set_other _ _ _ _ hkn, hjs k hk]
      · rw [← hjs k (by omega)]; exact f5 k (Nat.zero_le _) hk
      · rw [Tb.set_same, hjs n hn6]; rfl
      · rw [hjs n hn6]
  have ho : obeyT (passT T o.now) o = heedT (passT T o.now) o := by simp [obeyT, e1, e2]
  by_cases es : ((passT T o.now).js n).st = 0
  · have ha : heedT (passT T o.now) o = (passT T o.now, ⟨5, 0, 0⟩) := by simp [heedT, hjt, es]
    rw [ho, ha, if_neg (by simp)] at hd
    rw [hd]
    exact .inl ⟨by simp, rfl, rfl, rfl⟩
  by_cases et : ((passT T o.now).js n).st ≠ 2 ∨ ((passT T o.now).js n).wk ≠ o.wk ∨ ((passT T o.now).js n).tr ≠ o.tr
  · have ha : heedT (passT T o.now) o = (passT T o.now, ⟨6, 0, 0⟩) := by
      simp only [heedT, hjt]
      rw [if_neg es, if_pos et]
    rw [ho, ha, if_neg (by simp)] at hd
    rw [hd]
    exact .inl ⟨by simp, rfl, rfl, rfl⟩
  have ha : heedT (passT T o.now) o = ((passT T o.now).set n (heedJ (passT T o.now) o ((passT T o.now).js n)), ⟨0, 0, 0⟩) := by
    simp only [heedT, hjt]
    rw [if_neg es, if_neg et]
  have eu : ((passT T o.now).js n).st = 2 ∧ ((passT T o.now).js n).wk = o.wk ∧ ((passT T o.now).js n).tr = o.tr :=
    ⟨Decidable.byContradiction fun h => et (.inl h), Decidable.byContradiction fun h => et (.inr (.inl h)), Decidable.byContradiction fun h => et (.inr (.inr h))⟩
  rw [ho, ha, if_pos rfl] at hd
  rw [hd]
  right
  refine ⟨rfl, hc, rfl, n, hn, fun k hk hkn => by rw [Tb.set_other _ _ _ _ hkn, hjs k hk], fun h => by omega, ?_⟩
  simp only [Tb.set_same]
  rw [hjs n hn] at eu ⊢
  have ek : o.k = 3 ∨ o.k = 4 ∨ o.k = 5 := by omega
  rcases ek with e | e | e
  · refine .inr (.inr (.inl ⟨e, hjn, eu.1, eu.2.1, eu.2.2, ?_, rfl⟩))
    simp [heedJ, e, eu.1, passT_now]
  · refine .inr (.inr (.inr (.inl ⟨e, hjn, eu.1, eu.2.1, eu.2.2, ?_, rfl⟩)))
    simp [heedJ, e]
  · refine .inr (.inr (.inr (.inr ⟨e, hjn, eu.1, eu.2.1, eu.2.2, ?_, rfl⟩)))
    simp [heedJ, e]

theorem Inv.step {T : Tb} (h : Inv T) (o : Od) : Inv (doT T o).1 := by
  rcases do_step T o with ⟨_, _, _, e⟩ | ⟨hz, hc, hnow, n, hn, hoth, _, hst⟩
  · rw [e]; exact h
  obtain ⟨k1, k2, k3, k4, k5, k6, k7, k8⟩ := chk_zero hc
  obtain ⟨h1, h2, h3⟩ := h
  refine ⟨by rw [hnow]; omega, by rw [hnow]; omega, fun k hk => ?_⟩
  rw [hnow]
  by_cases e : k = n
  · subst e
    have hp := jinv_age (h3 k hk) (show T.now ≤ max T.now o.now by omega)
    generalize ageJ (max T.now o.now) (T.js k) = p at *
    generalize (doT T o).1.js k = q at *
    unfold JInv at hp ⊢
    rcases hst with ⟨a1, a2, a3, a4, a5⟩ | ⟨a1, a2, a3, a4⟩ | ⟨a1, a2, a3, a4, a5, a6, a7⟩ | ⟨a1, a2, a3, a4, a5, a6, a7⟩ | ⟨a1, a2, a3, a4, a5, a6, a7⟩
    · subst a4; simp
    · subst a3; refine .inr (.inr (.inl ⟨rfl, ?_, ?_, ?_, ?_, ?_, ?_⟩)) <;> (simp only; omega)
    · subst a6; refine .inr (.inr (.inl ⟨rfl, ?_, ?_, ?_, ?_, ?_, ?_⟩)) <;> (simp only; omega)
    · subst a6; refine .inr (.inr (.inr (.inl ⟨rfl, ?_, ?_, ?_, ?_, rfl⟩))) <;> (simp only; omega)
    · subst a6; by_cases e3 : p.tr = 3
      · simp [relJ, e3]
      · simp [relJ, e3]; omega
  · rw [hoth k hk e]
    exact jinv_age (h3 k hk) (by omega)

/-! ### What is refused changes nothing; the time never goes back; a job never is absent again -/
theorem do_code (T : Tb) (o : Od) (h : (doT T o).2.code ≠ 0) : (doT T o).1 = T := by
  rcases do_step T o with ⟨_, _, _, e⟩ | ⟨hz, _⟩
  · exact e
  · exact absurd hz h
theorem do_now (T : Tb) (o : Od) : T.now ≤ (doT T o).1.now := by
  rcases do_step T o with ⟨_, _, _, e⟩ | ⟨_, _, hn, _⟩
  · rw [e]; exact Int.le_refl _
  · rw [hn]; omega
theorem ageJ_st (m : Int) (j : Jb) (h : j.st ≠ 0) : (ageJ m j).st ≠ 0 := by
  unfold ageJ
  split
  · rw [relJ_st]; split <;> decide
  · exact h
theorem do_there (T : Tb) (o : Od) (n : Nat) (hn : n < 6) (h : (T.js n).st ≠ 0) : ((doT T o).1.js n).st ≠ 0 := by
  rcases do_step T o with ⟨_, _, _, e⟩ | ⟨_, _, _, k, hk, hoth, _, hst⟩
  · rw [e]; exact h
  · by_cases e : n = k
    · subst e
      rcases hst with ⟨_, _, _, a4, _⟩ | ⟨_, _, a3, _⟩ | ⟨_, _, _, _, _, a6, _⟩ | ⟨_, _, _, _, _, a6, _⟩ | ⟨_, _, _, _, _, a6, _⟩
      · rw [a4]; decide
      · rw [a3]; simp
      · rw [a6]; simp
      · rw [a6]; simp
      · rw [a6, relJ_st]; split <;> decide
    · rw [hoth n hn e]; exact ageJ_st _ _ h

end Go.Proofs.Ytkkffgojblopjaa
