/-
  What checking an order does. Nothing here is claimed by itself.
-/
import Derived.Test.YtkkffgojblopjaaW1
namespace Go.Proofs.Ytkkffgojblopjaa
open Go.RowKit

set_option maxHeartbeats 1000000 in
theorem partsOf_any (k : Int) (w : World) :
    Calls Try.prog 48 #[.int .i64 k] w fun e w' => e = .returned (.tuple #[.agg #[.bool (hJob k), .bool (hTry k), .bool (hWrk k), .bool (hTrm k)], .bool (knownB k)]) ∧ Chg [] w w' := by
  by_cases h1 : k = 1
  · subst h1
    go_enter Try.func48, Try.ntmps48
    go_wp2
    go_returns
    exact ⟨rfl, (Chg.refl _ _).alloc _⟩
  by_cases h2 : k = 2
  · subst h2
    go_enter Try.func48, Try.ntmps48
    go_wp2
    go_returns
    exact ⟨rfl, (Chg.refl _ _).alloc _⟩
  by_cases h3 : k = 3
  · subst h3
    go_enter Try.func48, Try.ntmps48
    go_wp2
    go_returns
    exact ⟨rfl, (Chg.refl _ _).alloc _⟩
  by_cases h4 : k = 4
  · subst h4
    go_enter Try.func48, Try.ntmps48
    go_wp2
    go_returns
    exact ⟨rfl, (Chg.refl _ _).alloc _⟩
  by_cases h5 : k = 5
  · subst h5
    go_enter Try.func48, Try.ntmps48
    go_wp2
    go_returns
    exact ⟨rfl, (Chg.refl _ _).alloc _⟩
  have b1 : (k == 1) = false := by simpa using h1
  have b2 : (k == 2) = false := by simpa using h2
  have b3 : (k == 3) = false := by simpa using h3
  have b4 : (k == 4) = false := by simpa using h4
  have b5 : (k == 5) = false := by simpa using h5
  have e1 : hJob k = false := by simp [hJob, b1, b3, b4, b5]
  have e2 : hTry k = false := by simp [hTry, b3, b4, b5]
  have e3 : hWrk k = false := by simp [hWrk, b2, b3, b4, b5]
  have e4 : hTrm k = false := by simp [hTrm, b2, b3]
  have e5 : knownB k = false := by simp [knownB, inB]; omega
  rw [e1, e2, e3, e4, e5]
  clear e1 e2 e3 e4 e5
  go_enter Try.func48, Try.ntmps48
  go_wp2
  go_returns
  exact ⟨rfl, (Chg.refl _ _).alloc _⟩

set_option maxHeartbeats 1000000 in
theorem inForm_any (o : Od) (p q r s : Bool) (w : World) :
    Calls Try.prog 49 #[.agg #[.int .i64 o.k, .int .i64 o.now, .int .i64 o.jb, .int .i64 o.tr, .int .i64 o.wk, .int .i64 o.tm], .agg #[.bool p, .bool q, .bool r, .bool s]] w fun e w' => e = .returned (.bool (formB o p q r s)) ∧ Chg [] w w' := by
  have hv : formB o p q r s = ((p || o.jb == 0) && (q || o.tr == 0) && (r || o.wk == 0) && (s || o.tm == 0)) := rfl
  generalize formB o p q r s = v at hv
  have HV := hide hv
  clear hv
  go_enter Try.func49, Try.ntmps49
  cases p <;> cases q <;> cases r <;> cases s
  all_goals
    go_wp2
  all_goals
    go_ret
    refine ⟨?_, ((Chg.refl _ _).alloc _).alloc _⟩
    rw [unhide HV]
    simp [*]

set_option maxHeartbeats 1000000 in
theorem inRange_any (o : Od) (p q r s : Bool) (w : World) :
    Calls Try.prog 50 #[.agg #[.int .i64 o.k, .int .i64 o.now, .int .i64 o.jb, .int .i64 o.tr, .int .i64 o.wk, .int .i64 o.tm], .agg #[.bool p, .bool q, .bool r, .bool s]] w fun e w' => e = .returned (.bool (rangeB o q s)) ∧ Chg [] w w' := by
  have hv : rangeB o q s = (inB o.now 0 60000 && inB o.jb 0 5 && inB o.wk 0 3 && (!q || inB o.tr 1 3) && (!s || inB o.tm 1 20)) := rfl
  generalize rangeB o q s = v at hv
  have HV := hide hv
  clear hv
  go_enter Try.func50, Try.ntmps50
  cases q <;> cases s
  all_goals
    go_wp2_with (first | (go_at_call 63; refine (within_any _ _ _ _).mono ?_; rintro e w' ⟨rfl, rfl⟩) | (go_at_call 53; refine (isJob_any _ _).mono ?_; rintro e w' ⟨rfl, rfl⟩))
  all_goals
    go_ret
    refine ⟨?_, ((Chg.refl _ _).alloc _).alloc _⟩
    rw [unhide HV]
    simp [*]

end Go.Proofs.Ytkkffgojblopjaa
