/-
  What obeying an order does. Nothing here is claimed by itself.
-/
import Derived.Test.YtkkffgojblopjaaW6
namespace Go.Proofs.Ytkkffgojblopjaa
open Go.RowKit

set_option maxHeartbeats 1000000 in
theorem obey_any (b n : Nat) (hn : n < 6) (k now tr wk tm : Int) (T : Tb) (w : World) (h : Has 78 w b T) (hnow : 0 ≤ T.now ∧ T.now ≤ 60000) (htm : 0 ≤ tm ∧ tm ≤ 20) (hk : 1 ≤ k ∧ k ≤ 5) (htr : ∀ n, n < 6 → 0 ≤ (T.js n).tr ∧ (T.js n).tr ≤ 3) :
    Calls Try.prog 47 #[.pointer (some ⟨b, 0, none⟩), .agg #[.int .i64 k, .int .i64 now, .int .i64 n, .int .i64 tr, .int .i64 wk, .int .i64 tm]] w fun e w' =>
      e = .returned (.agg #[.int .i64 (obeyT T ⟨k, now, n, tr, wk, tm⟩).2.code, .int .i64 (obeyT T ⟨k, now, n, tr, wk, tm⟩).2.jb, .int .i64 (obeyT T ⟨k, now, n, tr, wk, tm⟩).2.tr]) ∧ Has 78 w' b (obeyT T ⟨k, now, n, tr, wk, tm⟩).1 ∧ Chg [b] w w' := by
  have hl := h.lt
  by_cases e1 : k = 1
  · subst e1
    have e : obeyT T ⟨1, now, n, tr, wk, tm⟩ = addT T n := by simp [obeyT]
    rw [e]
    clear e
    go_enter Try.func47, Try.ntmps47
    go_wp2_with fail
    refine (add_any b n hn T _ ((h.alloc _).alloc _)).mono ?_
    rintro e w1 ⟨rfl, hT1, hg1⟩
    have z1 := hg1.size
    simp only [World.size_alloc] at z1
    have z2 : w.heap.size + 1 < w1.heap.size := by omega
    obtain ⟨r0, r1, r2, g0, g1, g2⟩ := ((Blk.new1 w _ #[.int .i64 0, .int .i64 0, .int .i64 0] 33).chg hg1 (by simp; omega)).three
    go_wp2
    obtain ⟨q0, q1, q2⟩ := set3 r0 r1 r2 (.int .i64 (addT T n).2.code) (.int .i64 (addT T n).2.jb) (.int .i64 (addT T n).2.tr)
    refine bodyPost_ret (v := .agg #[.int .i64 (addT T n).2.code, .int .i64 (addT T n).2.jb, .int .i64 (addT T n).2.tr]) (by simp [results, Try.results47, go_sem, q0, q1, q2]) rfl ?_
    exact ⟨rfl, ((hT1.setOther (by simp; omega) _).setOther (by simp; omega) _).setOther (by simp; omega) _, ((((((Chg.refl [b] w).alloc _).alloc _).trans hg1 (by simp)).setCell (by simp) _).setCell (by simp) _).setCell (by simp) _⟩
  by_cases e2 : k = 2
  · subst e2
    have e : obeyT T ⟨2, now, n, tr, wk, tm⟩ = takeT T wk tm := by simp [obeyT]
    rw [e]
    clear e e1
    go_enter Try.func47, Try.ntmps47
    go_wp2_with fail
    refine (take_any b wk tm T _ ((h.alloc _).alloc _) hnow htm htr).mono ?_
    rintro e w1 ⟨rfl, hT1, hg1⟩
    have z1 := hg1.size
    simp only [World.size_alloc] at z1
    have z2 : w.heap.size + 1 < w1.heap.size := by omega
    obtain ⟨r0, r1, r2, g0, g1, g2⟩ := ((Blk.new1 w _ #[.int .i64 0, .int .i64 0, .int .i64 0] 33).chg hg1 (by simp; omega)).three
    go_wp2
    obtain ⟨q0, q1, q2⟩ := set3 r0 r1 r2 (.int .i64 (takeT T wk tm).2.code) (.int .i64 (takeT T wk tm).2.jb) (.int .i64 (takeT T wk tm).2.tr)
    refine bodyPost_ret (v := .agg #[.int .i64 (takeT T wk tm).2.code, .int .i64 (takeT T wk tm).2.jb, .int .i64 (takeT T wk tm).2.tr]) (by simp [results, Try.results47, go_sem, q0, q1, q2]) rfl ?_
    exact ⟨rfl, ((hT1.setOther (by simp; omega) _).setOther (by simp; omega) _).setOther (by simp; omega) _, ((((((Chg.refl [b] w).alloc _).alloc _).trans hg1 (by simp)).setCell (by simp) _).setCell (by simp) _).setCell (by simp) _⟩
  have e : obeyT T ⟨k, now, n, tr, wk, tm⟩ = heedT T ⟨k, now, n, tr, wk, tm⟩ := by simp [obeyT, e1, e2]
  rw [e]
  have b1 : (k == 1) = false := by simpa using e1
  have b2 : (k == 2) = false := by simpa using e2
  have hk3 : 3 ≤ k ∧ k ≤ 5 := by omega
  clear e e1 e2 hk
  have HK := hide hk3
  clear hk3
  have hca := fun w h => heed_any b n hn k now tr wk tm T w h hnow htm (unhide HK)
  generalize heedT T ⟨k, now, n, tr, wk, tm⟩ = R at *
  have HCA := hide hca
  clear hca
  go_enter Try.func47, Try.ntmps47
  go_wp2_with fail
  refine ((unhide HCA) _ ((h.alloc _).alloc _)).mono ?_
  rintro e w1 ⟨rfl, hT1, hg1⟩
  have z1 := hg1.size
  simp only [World.size_alloc] at z1
  have z2 : w.heap.size + 1 < w1.heap.size := by omega
  obtain ⟨r0, r1, r2, g0, g1, g2⟩ := ((Blk.new1 w _ #[.int .i64 0, .int .i64 0, .int .i64 0] 33).chg hg1 (by simp; omega)).three
  go_wp2
  obtain ⟨q0, q1, q2⟩ := set3 r0 r1 r2 (.int .i64 R.2.code) (.int .i64 R.2.jb) (.int .i64 R.2.tr)
  refine bodyPost_ret (v := .agg #[.int .i64 R.2.code, .int .i64 R.2.jb, .int .i64 R.2.tr]) (by simp [results, Try.results47, go_sem, q0, q1, q2]) rfl ?_
  exact ⟨rfl, ((hT1.setOther (by simp; omega) _).setOther (by simp; omega) _).setOther (by simp; omega) _, ((((((Chg.refl [b] w).alloc _).alloc _).trans hg1 (by simp)).setCell (by simp) _).setCell (by simp) _).setCell (by simp) _⟩

end Go.Proofs.Ytkkffgojblopjaa
