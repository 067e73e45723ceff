/-
  What checking an order does. Nothing here is claimed by itself.
-/
import Derived.Test.YtllnjiljjodfdacGreatDoorMgW1
import Derived.Test.YtllnjiljjodfdacGreatDoorMgW3
namespace Go.Proofs.YtllnjiljjodfdacGreatDoor
open Go.RowKit

set_option maxHeartbeats 1000000 in
theorem partsOf_any (k : Int) (w : World) :
    Calls Tryz.prog 130 #[.int .i64 k] w fun e w' => e = .returned (.tuple #[.agg #[.bool (hJob k), .bool (hTry k), .bool (hWrk k), .bool (hTrm k)], .bool (knownB k)]) ∧ Chg [] w w' := by
  by_cases h1 : k = 1
  · subst h1
    go_enter Tryz.func130, Tryz.ntmps130
    go_wp2
    go_returns
    exact ⟨rfl, (Chg.refl _ _).alloc _⟩
  by_cases h2 : k = 2
  · subst h2
    go_enter Tryz.func130, Tryz.ntmps130
    go_wp2
    go_returns
    exact ⟨rfl, (Chg.refl _ _).alloc _⟩
  by_cases h3 : k = 3
  · subst h3
    go_enter Tryz.func130, Tryz.ntmps130
    go_wp2
    go_returns
    exact ⟨rfl, (Chg.refl _ _).alloc _⟩
  by_cases h4 : k = 4
  · subst h4
    go_enter Tryz.func130, Tryz.ntmps130
    go_wp2
    go_returns
    exact ⟨rfl, (Chg.refl _ _).alloc _⟩
  by_cases h5 : k = 5
  · subst h5
    go_enter Tryz.func130, Tryz.ntmps130
    go_wp2
    go_returns
    exact ⟨rfl, (Chg.refl _ _).alloc _⟩
  have b1 : (k == 1) = false := by simpa using h1
  have b2 : (k == 2) = false := by simpa using h2
  have b3 : (k == 3) = false := by simpa using h3
  have b4 : (k == 4) = false := by simpa using h4
  have b5 : (k == 5) = false := by simpa using h5
  have e1 : hJob k = false := by simp [hJob, b1, b3, b4, b5]
  have e2 : hTry k = false := by simp [hTry, b3, b4, b5]
  have e3 : hWrk k = false := by simp [hWrk, b2, b3, b4, b5]
  have e4 : hTrm k = false := by simp [hTrm, b2, b3]
  have e5 : knownB k = false := by simp [knownB, inB]; omega
  rw [e1, e2, e3, e4, e5]
  clear e1 e2 e3 e4 e5
  go_enter Tryz.func130, Tryz.ntmps130
  go_wp2
  go_returns
  exact ⟨rfl, (Chg.refl _ _).alloc _⟩

set_option maxHeartbeats 1000000 in
theorem inForm_any (o : Od) (p q r s : Bool) (w : World) :
    Calls Tryz.prog 131 #[.agg #[.int .i64 o.k, .int .i64 o.now, .int .i64 o.jb, .int .i64 o.tr, .int .i64 o.wk, .int .i64 o.tm], .agg #[.bool p, .bool q, .bool r, .bool s]] w fun e w' => e = .returned (.bool (formB o p q r s)) ∧ Chg [] w w' := by
  have hv : formB o p q r s = ((p || o.jb == 0) && (q || o.tr == 0) && (r || o.wk == 0) && (s || o.tm == 0)) := rfl
  generalize formB o p q r s = v at hv
  have HV := hide hv
  clear hv
  go_enter Tryz.func131, Tryz.ntmps131
  cases p <;> cases q <;> cases r <;> cases s
  all_goals
    go_wp2
  all_goals
    go_ret
    refine ⟨?_, ((Chg.refl _ _).alloc _).alloc _⟩
    rw [unhide HV]
    simp [*]

set_option maxHeartbeats 1000000 in
theorem inRange_any (o : Od) (p q r s : Bool) (w : World) :
    Calls Tryz.prog 132 #[.agg #[.int .i64 o.k, .int .i64 o.now, .int .i64 o.jb, .int .i64 o.tr, .int .i64 o.wk, .int .i64 o.tm], .agg #[.bool p, .bool q, .bool r, .bool s]] w fun e w' => e = .returned (.bool (rangeB o q s)) ∧ Chg [] w w' := by
  have hv : rangeB o q s = (inB o.now 0 60000 && inB o.jb 0 5 && inB o.wk 0 3 && (!q || inB o.tr 1 3) && (!s || inB o.tm 1 20)) := rfl
  generalize rangeB o q s = v at hv
  have HV := hide hv
  clear hv
  go_enter Tryz.func132, Tryz.ntmps132
  cases q <;> cases s
  all_goals
    go_wp2_with (first | (go_at_call 103; refine (within_any _ _ _ _).mono ?_; rintro e w' ⟨rfl, rfl⟩) | (go_at_call 74; refine (isJob_any _ _).mono ?_; rintro e w' ⟨rfl, rfl⟩))
  all_goals
    go_ret
    refine ⟨?_, ((Chg.refl _ _).alloc _).alloc _⟩
    rw [unhide HV]
    simp [*]

end Go.Proofs.YtllnjiljjodfdacGreatDoor

namespace Go.Proofs.YtllnjiljjodfdacGreatDoor
open Go.RowKit

set_option maxHeartbeats 1000000 in
theorem check_any (o : Od) (w : World) :
    Calls Tryz.prog 106 #[.agg #[.int .i64 o.k, .int .i64 o.now, .int .i64 o.jb, .int .i64 o.tr, .int .i64 o.wk, .int .i64 o.tm]] w fun e w' => e = .returned (.int .i64 (chk o)) ∧ Chg [] w w' := by
  have hc : chk o = if knownB o.k = false then 1 else if formB o (hJob o.k) (hTry o.k) (hWrk o.k) (hTrm o.k) = false then 2 else if rangeB o (hTry o.k) (hTrm o.k) = false then 3 else 0 := rfl
  have HC := hide hc
  clear hc
  go_enter Tryz.func106, Tryz.ntmps106
  go_wp2_with fail
  refine (partsOf_any _ _).mono ?_
  rintro e w1 ⟨rfl, hg1⟩
  have o1 := (Blk.new w #[.int .i64 o.k, .int .i64 o.now, .int .i64 o.jb, .int .i64 o.tr, .int .i64 o.wk, .int .i64 o.tm] 83).chg hg1 (by simp)
  have hz1 := o1.lt
  obtain ⟨p0, p1, p2, p3, p4, p5⟩ := o1.six
  cases hk : knownB o.k
  · have hv : chk o = 1 := by rw [unhide HC, if_pos hk]
    have HV := hide hv
    clear hv hk
    go_wp2
    go_ret
    exact ⟨by rw [unhide HV]; rfl, ((((Chg.refl _ _).alloc _).trans hg1 (by simp)).alloc _)⟩
  · have HK := hide hk
    clear hk
    go_wp2_with fail
    refine (inForm_any o _ _ _ _ _).mono ?_
    rintro e w2 ⟨rfl, hg2⟩
    have o2 := (o1.alloc _).chg hg2 (by simp)
    have q2 := (Blk.new w1 _ _).chg hg2 (by simp)
    have hz2 := q2.lt
    clear p0 p1 p2 p3 p4 p5
    obtain ⟨p0, p1, p2, p3, p4, p5⟩ := o2.six
    obtain ⟨a0, a1, a2, a3⟩ := q2.four
    cases hf : formB o (hJob o.k) (hTry o.k) (hWrk o.k) (hTrm o.k)
    · have hv : chk o = 2 := by rw [unhide HC, if_neg (by rw [unhide HK]; simp), if_pos hf]
      have HV := hide hv
      clear hv hf
      go_wp2
      go_ret
      exact ⟨by rw [unhide HV]; rfl, ((((Chg.refl _ _).alloc _).trans hg1 (by simp)).alloc _).trans hg2 (by simp)⟩
    · have HF := hide hf
      clear hf
      go_wp2_with fail
      refine (inRange_any o _ _ _ _ _).mono ?_
      rintro e w3 ⟨rfl, hg3⟩
      cases hr : rangeB o (hTry o.k) (hTrm o.k)
      · have hv : chk o = 3 := by rw [unhide HC, if_neg (by rw [unhide HK]; simp), if_neg (by rw [unhide HF]; simp), if_pos hr]
        have HV := hide hv
        clear hv hr
        go_wp2
        go_ret
        exact ⟨by rw [unhide HV]; rfl, (((((Chg.refl _ _).alloc _).trans hg1 (by simp)).alloc _).trans hg2 (by simp)).trans hg3 (by simp)⟩
      · have hv : chk o = 0 := by rw [unhide HC, if_neg (by rw [unhide HK]; simp), if_neg (by rw [unhide HF]; simp), if_neg (by rw [hr]; simp)]
        have HV := hide hv
        clear hv hr
        go_wp2
        go_ret
        exact ⟨by rw [unhide HV]; rfl, (((((Chg.refl _ _).alloc _).trans hg1 (by simp)).alloc _).trans hg2 (by simp)).trans hg3 (by simp)⟩

end Go.Proofs.YtllnjiljjodfdacGreatDoor

