/-
  What checking and obeying an order do. Nothing here is claimed by itself.
-/
import Derived.Test.YtkkffgojblopjaaW3
import Derived.Test.YtkkffgojblopjaaW4
import Derived.Test.YtkkffgojblopjaaW5
namespace Go.Proofs.Ytkkffgojblopjaa
open Go.RowKit

set_option maxHeartbeats 1000000 in
theorem check_any (o : Od) (w : World) :
    Calls Try.prog 19 #[.agg #[.int .i64 o.k, .int .i64 o.now, .int .i64 o.jb, .int .i64 o.tr, .int .i64 o.wk, .int .i64 o.tm]] w fun e w' => e = .returned (.int .i64 (chk o)) ∧ Chg [] w w' := by
  have hc : chk o = if knownB o.k = false then 1 else if formB o (hJob o.k) (hTry o.k) (hWrk o.k) (hTrm o.k) = false then 2 else if rangeB o (hTry o.k) (hTrm o.k) = false then 3 else 0 := rfl
  have HC := hide hc
  clear hc
  go_enter Try.func19, Try.ntmps19
  go_wp2_with fail
  refine (partsOf_any _ _).mono ?_
  rintro e w1 ⟨rfl, hg1⟩
  have o1 := (Blk.new w #[.int .i64 o.k, .int .i64 o.now, .int .i64 o.jb, .int .i64 o.tr, .int .i64 o.wk, .int .i64 o.tm] 36).chg hg1 (by simp)
  have hz1 := o1.lt
  obtain ⟨p0, p1, p2, p3, p4, p5⟩ := o1.six
  cases hk : knownB o.k
  · have hv : chk o = 1 := by rw [unhide HC, if_pos hk]
    have HV := hide hv
    clear hv hk
    go_wp2
    go_ret
    exact ⟨by rw [unhide HV]; rfl, ((((Chg.refl _ _).alloc _).trans hg1 (by simp)).alloc _)⟩
  · have HK := hide hk
    clear hk
    go_wp2_with fail
    refine (inForm_any o _ _ _ _ _).mono ?_
    rintro e w2 ⟨rfl, hg2⟩
    have o2 := (o1.alloc _).chg hg2 (by simp)
    have q2 := (Blk.new w1 _ _).chg hg2 (by simp)
    have hz2 := q2.lt
    clear p0 p1 p2 p3 p4 p5
    obtain ⟨p0, p1, p2, p3, p4, p5⟩ := o2.six
    obtain ⟨a0, a1, a2, a3⟩ := q2.four
    cases hf : formB o (hJob o.k) (hTry o.k) (hWrk o.k) (hTrm o.k)
    · have hv : chk o = 2 := by rw [unhide HC, if_neg (by rw [unhide HK]; simp), if_pos hf]
      have HV := hide hv
      clear hv hf
      go_wp2
      go_ret
      exact ⟨by rw [unhide HV]; rfl, ((((Chg.refl _ _).alloc _).trans hg1 (by simp)).alloc _).trans hg2 (by simp)⟩
    · have HF := hide hf
      clear hf
      go_wp2_with fail
      refine (inRange_any o _ _ _ _ _).mono ?_
      rintro e w3 ⟨rfl, hg3⟩
      cases hr : rangeB o (hTry o.k) (hTrm o.k)
      · have hv : chk o = 3 := by rw [unhide HC, if_neg (by rw [unhide HK]; simp), if_neg (by rw [unhide HF]; simp), if_pos hr]
        have HV := hide hv
        clear hv hr
        go_wp2
        go_ret
        exact ⟨by rw [unhide HV]; rfl, (((((Chg.refl _ _).alloc _).trans hg1 (by simp)).alloc _).trans hg2 (by simp)).trans hg3 (by simp)⟩
      · have hv : chk o = 0 := by rw [unhide HC, if_neg (by rw [unhide HK]; simp), if_neg (by rw [unhide HF]; simp), if_neg (by rw [hr]; simp)]
        have HV := hide hv
        clear hv hr
        go_wp2
        go_ret
        exact ⟨by rw [unhide HV]; rfl, (((((Chg.refl _ _).alloc _).trans hg1 (by simp)).alloc _).trans hg2 (by simp)).trans hg3 (by simp)⟩

end Go.Proofs.Ytkkffgojblopjaa
