/-
  What each small function of the jobs layer does to the world. Nothing here is claimed by itself.
-/
import Derived.Test.YtkkffgojblopjaaLaws
import Derived.Deep.QuietTactic
import Derived.Deep.WholeRow
import Derived.BigQuiet
import Derived.Deep.RegionWith
import Derived.BigRegion
namespace Go.Proofs.Ytkkffgojblopjaa
open Go.RowKit

theorem within_any (n lo hi : Int) (w : World) :
    Calls Try.prog 63 #[.int .i64 n, .int .i64 lo, .int .i64 hi] w fun e w' => e = .returned (.bool (inB n lo hi)) ∧ w' = w := by
  go_enter Try.func63, Try.ntmps63
  go_wp2
  all_goals (go_ret; simp [inB, *]; try omega)

theorem isJob_any (n : Int) (w : World) :
    Calls Try.prog 53 #[.int .i64 n] w fun e w' => e = .returned (.bool (inB n 0 5)) ∧ w' = w := by
  go_enter Try.func53, Try.ntmps53
  go_wp2_with (go_at_call 63; refine (within_any _ _ _ _).mono ?_; rintro e w' ⟨rfl, rfl⟩)
  all_goals (go_ret; exact ⟨rfl, rfl⟩)

theorem now_any (b : Nat) (T : Tb) (w : World) (h : Has 78 w b T) :
    Calls Try.prog 24 #[.pointer (some ⟨b, 0, none⟩)] w fun e w' => e = .returned (.int .i64 T.now) ∧ w' = w := by
  have hc := h.cn
  go_enter Try.func24, Try.ntmps24
  go_wp2
  go_ret
  exact ⟨rfl, rfl⟩

theorem new_any (w : World) :
    Calls Try.prog 16 #[] w fun e w' => e = .returned (.pointer (some ⟨w.heap.size, 0, none⟩)) ∧ Has 78 w' w.heap.size T0 ∧ Chg [] w w' := by
  go_enter Try.func16, Try.ntmps16
  go_wp2
  go_ret
  exact ⟨rfl, heap_alloc_last _ _, (Chg.refl _ _).alloc _⟩

theorem own_any (b : Nat) (T : Tb) (w : World) (h : Has 78 w b T) :
    Calls Try.prog 17 #[.pointer (some ⟨b, 0, none⟩)] w fun e w' => e = .returned (.pointer (some ⟨w.heap.size, 0, none⟩)) ∧ Has 78 w' w.heap.size T ∧ Chg [] w w' := by
  go_enter Try.func17, Try.ntmps17
  go_wp2_with (first | (refine wpList_load_tab 78 tabRow tabInfo rfl _ rfl b rfl 78 T h ?_) | (refine wpList_store_tab 78 tabInfo rfl _ _ rfl w.heap.size rfl T rfl 78 T0 (heap_alloc_last _ _) ?_; intro w1 hw1 hg1 hz1))
  go_ret
  exact ⟨rfl, hw1, ((Chg.refl _ _).alloc _).trans hg1 (by simp)⟩

theorem job_in (b n : Nat) (hn : n < 6) (T : Tb) (w : World) (h : Has 78 w b T) :
    Calls Try.prog 23 #[.pointer (some ⟨b, 0, none⟩), .int .i64 n] w fun e w' => e = .returned (.agg #[.int .i64 (T.js n).st, .int .i64 (T.js n).wk, .int .i64 (T.js n).tr, .int .i64 (T.js n).un]) ∧ Chg [] w w' := by
  have hi : inB n 0 5 = true := by simp [inB]; omega
  have hl := h.lt
  have c0 := h.c0 hn
  have c1 := h.c1 hn
  have c2 := h.c2 hn
  have c3 := h.c3 hn
  go_enter Try.func23, Try.ntmps23
  go_wp2_with (go_at_call 53; refine (isJob_any _ _).mono ?_; rintro e w' ⟨rfl, rfl⟩)
  go_returns
  exact ⟨rfl, (Chg.refl _ _).alloc _⟩

theorem released_any (st wk tr un : Int) (w : World) :
    Calls Try.prog 59 #[.agg #[.int .i64 st, .int .i64 wk, .int .i64 tr, .int .i64 un]] w fun e w' => e = .returned (.agg #[.int .i64 (relJ ⟨st, wk, tr, un⟩).st, .int .i64 0, .int .i64 tr, .int .i64 0]) ∧ Chg [] w w' := by
  by_cases h : tr = 3
  · subst h
    go_enter Try.func59, Try.ntmps59
    go_wp2
    go_returns
    exact ⟨rfl, ((Chg.refl _ _).alloc _).alloc _⟩
  · have h' : (tr == 3) = false := by simpa using h
    have hr : (relJ ⟨st, wk, tr, un⟩).st = 1 := by simp [relJ, h]
    go_enter Try.func59, Try.ntmps59
    go_wp2
    go_returns
    exact ⟨by rw [hr], ((Chg.refl _ _).alloc _).alloc _⟩

end Go.Proofs.Ytkkffgojblopjaa
