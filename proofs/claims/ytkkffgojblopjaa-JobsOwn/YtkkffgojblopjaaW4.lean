/-
  What the orders of who holds a job do to the world. Nothing here is claimed by itself.
-/
import Derived.Test.YtkkffgojblopjaaW2
namespace Go.Proofs.Ytkkffgojblopjaa
open Go.RowKit

set_option maxHeartbeats 1000000 in
theorem heed_absent (b n : Nat) (hn : n < 6) (k now tr wk tm : Int) (T : Tb) (w : World) (h : Has 78 w b T) (e : (T.js n).st = 0) :
    Calls Try.prog 62 #[.pointer (some ⟨b, 0, none⟩), .agg #[.int .i64 k, .int .i64 now, .int .i64 n, .int .i64 tr, .int .i64 wk, .int .i64 tm]] w fun e w' => e = .returned (.agg #[.int .i64 5, .int .i64 0, .int .i64 0]) ∧ Has 78 w' b T ∧ Chg [b] w w' := by
  have c0 := h.c0 hn
  have c1 := h.c1 hn
  have c2 := h.c2 hn
  have c3 := h.c3 hn
  have hl := h.lt
  have hl1 : b < w.heap.size + 1 := by omega
  have hl2 : b < w.heap.size + 1 + 1 := by omega
  have b1 : ((T.js n).st == 0) = true := by simpa using e
  have hn' : (n : Int) < 6 := by omega
  clear e
  go_enter Try.func62, Try.ntmps62
  go_wp2
  go_region
  go_wp2
  go_returns
  exact ⟨rfl, (((h.alloc _).alloc _).alloc _).drew, ((((Chg.refl _ _).alloc _).alloc _).alloc _).drew⟩

set_option maxHeartbeats 2000000 in
theorem heed_other (b n : Nat) (hn : n < 6) (k now tr wk tm : Int) (T : Tb) (w : World) (h : Has 78 w b T) (e : (T.js n).st ≠ 0) (e2 : (T.js n).st ≠ 2 ∨ (T.js n).wk ≠ wk ∨ (T.js n).tr ≠ tr) :
    Calls Try.prog 62 #[.pointer (some ⟨b, 0, none⟩), .agg #[.int .i64 k, .int .i64 now, .int .i64 n, .int .i64 tr, .int .i64 wk, .int .i64 tm]] w fun e w' => e = .returned (.agg #[.int .i64 6, .int .i64 0, .int .i64 0]) ∧ Has 78 w' b T ∧ Chg [b] w w' := by
  have c0 := h.c0 hn
  have c1 := h.c1 hn
  have c2 := h.c2 hn
  have c3 := h.c3 hn
  have hl := h.lt
  have hl1 : b < w.heap.size + 1 := by omega
  have hl2 : b < w.heap.size + 1 + 1 := by omega
  have b1 : ((T.js n).st == 0) = false := by simpa using e
  have hn' : (n : Int) < 6 := by omega
  clear e
  by_cases d1 : (T.js n).st = 2
  · rw [d1] at c0
    by_cases d2 : (T.js n).wk = wk
    · have b3 : ((T.js n).tr != tr) = true := by
        rw [bne_iff_ne]; intro h3; rcases e2 with e2 | e2 | e2 <;> exact e2 (by assumption)
      rw [d2] at c1
      clear d1 d2 e2 b1
      go_enter Try.func62, Try.ntmps62
      go_wp2
      go_region
      go_wp2
      go_returns
      exact ⟨rfl, (((h.alloc _).alloc _).alloc _).drew, ((((Chg.refl _ _).alloc _).alloc _).alloc _).drew⟩
    · have b3 : ((T.js n).wk != wk) = true := by rw [bne_iff_ne]; exact d2
      clear d1 d2 e2 b1
      go_enter Try.func62, Try.ntmps62
      go_wp2
      go_region
      go_wp2
      go_returns
      exact ⟨rfl, (((h.alloc _).alloc _).alloc _).drew, ((((Chg.refl _ _).alloc _).alloc _).alloc _).drew⟩
  · have b2 : ((T.js n).st != 2) = true := by rw [bne_iff_ne]; exact d1
    clear d1 e2
    go_enter Try.func62, Try.ntmps62
    go_wp2
    go_region
    go_wp2
    go_returns
    exact ⟨rfl, (((h.alloc _).alloc _).alloc _).drew, ((((Chg.refl _ _).alloc _).alloc _).alloc _).drew⟩

set_option maxHeartbeats 2000000 in
theorem heed_renew (b n : Nat) (hn : n < 6) (now tm : Int) (T : Tb) (w : World) (h : Has 78 w b T) (hnow : 0 ≤ T.now ∧ T.now ≤ 60000) (htm : 0 ≤ tm ∧ tm ≤ 20) (e : (T.js n).st = 2) :
    Calls Try.prog 62 #[.pointer (some ⟨b, 0, none⟩), .agg #[.int .i64 3, .int .i64 now, .int .i64 n, .int .i64 (T.js n).tr, .int .i64 (T.js n).wk, .int .i64 tm]] w fun e w' => e = .returned (.agg #[.int .i64 0, .int .i64 0, .int .i64 0]) ∧ Has 78 w' b (T.set n ⟨2, (T.js n).wk, (T.js n).tr, T.now + tm⟩) ∧ Chg [b] w w' := by
  have c0 := h.c0 hn
  have c1 := h.c1 hn
  have c2 := h.c2 hn
  have c3 := h.c3 hn
  have cn := h.cn
  have f0 := h.fz (n * 4)
  have f1 := h.fz (n * 4 + 1)
  have f2 := h.fz (n * 4 + 2)
  have f3 := h.fz (n * 4 + 3)
  have hl := h.lt
  have hl1 : b < w.heap.size + 1 := by omega
  have hl2 : b < w.heap.size + 1 + 1 := by omega
  obtain ⟨n0, n1⟩ := hnow
  obtain ⟨m0, m1⟩ := htm
  rw [e] at c0
  have hn' : (n : Int) < 6 := by omega
  clear e
  go_enter Try.func62, Try.ntmps62
  go_wp2
  go_region
  go_wp2
  go_region
  go_wp2
  go_region
  go_wp2
  go_returns
  exact ⟨rfl, ((((h.set4 hn ⟨2, (T.js n).wk, (T.js n).tr, T.now + tm⟩).alloc _).alloc _).alloc _).drew.drew.drew, ((((((((Chg.refl _ _).setCell (by simp) _).setCell (by simp) _).setCell (by simp) _).setCell (by simp) _).alloc _).alloc _).alloc _).drew.drew.drew⟩

set_option maxHeartbeats 2000000 in
theorem heed_done (b n : Nat) (hn : n < 6) (now tm : Int) (T : Tb) (w : World) (h : Has 78 w b T) (e : (T.js n).st = 2) :
    Calls Try.prog 62 #[.pointer (some ⟨b, 0, none⟩), .agg #[.int .i64 4, .int .i64 now, .int .i64 n, .int .i64 (T.js n).tr, .int .i64 (T.js n).wk, .int .i64 tm]] w fun e w' => e = .returned (.agg #[.int .i64 0, .int .i64 0, .int .i64 0]) ∧ Has 78 w' b (T.set n ⟨3, (T.js n).wk, (T.js n).tr, 0⟩) ∧ Chg [b] w w' := by
  have c0 := h.c0 hn
  have c1 := h.c1 hn
  have c2 := h.c2 hn
  have c3 := h.c3 hn
  have cn := h.cn
  have f0 := h.fz (n * 4)
  have f1 := h.fz (n * 4 + 1)
  have f2 := h.fz (n * 4 + 2)
  have f3 := h.fz (n * 4 + 3)
  have hl := h.lt
  have hl1 : b < w.heap.size + 1 := by omega
  have hl2 : b < w.heap.size + 1 + 1 := by omega
  rw [e] at c0
  have hn' : (n : Int) < 6 := by omega
  clear e
  go_enter Try.func62, Try.ntmps62
  go_wp2
  go_region
  go_wp2
  go_region
  go_wp2
  go_returns
  exact ⟨rfl, ((((h.set4 hn ⟨3, (T.js n).wk, (T.js n).tr, 0⟩).alloc _).alloc _).alloc _).drew.drew, ((((((((Chg.refl _ _).setCell (by simp) _).setCell (by simp) _).setCell (by simp) _).setCell (by simp) _).alloc _).alloc _).alloc _).drew.drew⟩

set_option maxHeartbeats 2000000 in
theorem heed_drop (b n : Nat) (hn : n < 6) (now tm : Int) (T : Tb) (w : World) (h : Has 78 w b T) (e : (T.js n).st = 2) :
    Calls Try.prog 62 #[.pointer (some ⟨b, 0, none⟩), .agg #[.int .i64 5, .int .i64 now, .int .i64 n, .int .i64 (T.js n).tr, .int .i64 (T.js n).wk, .int .i64 tm]] w fun e w' => e = .returned (.agg #[.int .i64 0, .int .i64 0, .int .i64 0]) ∧ Has 78 w' b (T.set n (relJ (T.js n))) ∧ Chg [b] w w' := by
  have c0 := h.c0 hn
  have c1 := h.c1 hn
  have c2 := h.c2 hn
  have c3 := h.c3 hn
  have f0 := h.fz (n * 4)
  have f1 := h.fz (n * 4 + 1)
  have f2 := h.fz (n * 4 + 2)
  have f3 := h.fz (n * 4 + 3)
  have hl := h.lt
  have hl1 : b < w.heap.size + 1 := by omega
  have hl2 : b < w.heap.size + 1 + 1 := by omega
  have hl3 : b < w.heap.size + 1 + 1 + 1 := by omega
  have hl4 : b < w.heap.size + 1 + 1 + 1 + 1 := by omega
  rw [e] at c0
  have hn' : (n : Int) < 6 := by omega
  clear e
  by_cases d : (T.js n).tr = 3
  · have b4 : ((T.js n).tr == 3) = true := by simpa using d
    have hj : relJ (T.js n) = ⟨4, 0, (T.js n).tr, 0⟩ := by simp [relJ, d]
    rw [hj]
    clear d hj
    go_enter Try.func62, Try.ntmps62
    go_wp2
    go_region
    go_wp2
    go_region
    go_wp2
    go_returns
    exact ⟨rfl, ((((((h.set4 hn ⟨4, 0, (T.js n).tr, 0⟩).alloc _).alloc _).alloc _).alloc _).alloc _).drew.drew, ((((((((((Chg.refl _ _).setCell (by simp) _).setCell (by simp) _).setCell (by simp) _).setCell (by simp) _).alloc _).alloc _).alloc _).alloc _).alloc _).drew.drew⟩
  · have b4 : ((T.js n).tr == 3) = false := by simpa using d
    have hj : relJ (T.js n) = ⟨1, 0, (T.js n).tr, 0⟩ := by simp [relJ, d]
    rw [hj]
    clear d hj
    go_enter Try.func62, Try.ntmps62
    go_wp2
    go_region
    go_wp2
    go_region
    go_wp2
    go_returns
    exact ⟨rfl, ((((((h.set4 hn ⟨1, 0, (T.js n).tr, 0⟩).alloc _).alloc _).alloc _).alloc _).alloc _).drew.drew, ((((((((((Chg.refl _ _).setCell (by simp) _).setCell (by simp) _).setCell (by simp) _).setCell (by simp) _).alloc _).alloc _).alloc _).alloc _).alloc _).drew.drew⟩

theorem heed_any (b n : Nat) (hn : n < 6) (k now tr wk tm : Int) (T : Tb) (w : World) (h : Has 78 w b T) (hnow : 0 ≤ T.now ∧ T.now ≤ 60000) (htm : 0 ≤ tm ∧ tm ≤ 20) (hk : 3 ≤ k ∧ k ≤ 5) :
    Calls Try.prog 62 #[.pointer (some ⟨b, 0, none⟩), .agg #[.int .i64 k, .int .i64 now, .int .i64 n, .int .i64 tr, .int .i64 wk, .int .i64 tm]] w fun e w' =>
      e = .returned (.agg #[.int .i64 (heedT T ⟨k, now, n, tr, wk, tm⟩).2.code, .int .i64 (heedT T ⟨k, now, n, tr, wk, tm⟩).2.jb, .int .i64 (heedT T ⟨k, now, n, tr, wk, tm⟩).2.tr]) ∧ Has 78 w' b (heedT T ⟨k, now, n, tr, wk, tm⟩).1 ∧ Chg [b] w w' := by
  by_cases e0 : (T.js n).st = 0
  · have : heedT T ⟨k, now, n, tr, wk, tm⟩ = (T, ⟨5, 0, 0⟩) := by simp [heedT, e0]
    rw [this]
    exact heed_absent b n hn k now tr wk tm T w h e0
  by_cases e1 : (T.js n).st ≠ 2 ∨ (T.js n).wk ≠ wk ∨ (T.js n).tr ≠ tr
  · have : heedT T ⟨k, now, n, tr, wk, tm⟩ = (T, ⟨6, 0, 0⟩) := by
      simp only [heedT, Int.toNat_natCast]
      rw [if_neg e0, if_pos e1]
    rw [this]
    exact heed_other b n hn k now tr wk tm T w h e0 e1
  have e2 : (T.js n).st = 2 ∧ (T.js n).wk = wk ∧ (T.js n).tr = tr := by
    refine ⟨Decidable.byContradiction fun h => e1 (.inl h), Decidable.byContradiction fun h => e1 (.inr (.inl h)), Decidable.byContradiction fun h => e1 (.inr (.inr h))⟩
  obtain ⟨e2, rfl, rfl⟩ := e2
  have : heedT T ⟨k, now, n, (T.js n).tr, (T.js n).wk, tm⟩ = (T.set n (heedJ T ⟨k, now, n, (T.js n).tr, (T.js n).wk, tm⟩ (T.js n)), ⟨0, 0, 0⟩) := by
    simp only [heedT, Int.toNat_natCast]
    rw [if_neg e0, if_neg e1]
  rw [this]
  have hk' : k = 3 ∨ k = 4 ∨ k = 5 := by omega
  rcases hk' with rfl | rfl | rfl
  · have : heedJ T ⟨3, now, n, (T.js n).tr, (T.js n).wk, tm⟩ (T.js n) = ⟨2, (T.js n).wk, (T.js n).tr, T.now + tm⟩ := by simp [heedJ, e2]
    rw [this]
    exact heed_renew b n hn now tm T w h hnow htm e2
  · have : heedJ T ⟨4, now, n, (T.js n).tr, (T.js n).wk, tm⟩ (T.js n) = ⟨3, (T.js n).wk, (T.js n).tr, 0⟩ := by simp [heedJ]
    rw [this]
    exact heed_done b n hn now tm T w h e2
  · have : heedJ T ⟨5, now, n, (T.js n).tr, (T.js n).wk, tm⟩ (T.js n) = relJ (T.js n) := by simp [heedJ]
    rw [this]
    exact heed_drop b n hn now tm T w h e2

end Go.Proofs.Ytkkffgojblopjaa
