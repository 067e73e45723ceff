/-
  A job of a table and of the document's own table, within and beyond the numbers. Nothing here is claimed by itself.
-/
import Derived.Test.YtkkffgojblopjaaR0
namespace Go.Proofs.Ytkkffgojblopjaa
open Go.RowKit

theorem job_out (b : Nat) (n : Int) (hn : n < 0 ∨ 5 < n) (w : World) :
    Calls Try.prog 23 #[.pointer (some ⟨b, 0, none⟩), .int .i64 n] w fun e w' => e = .returned (.agg #[.int .i64 0, .int .i64 0, .int .i64 0, .int .i64 0]) ∧ Chg [] w w' := by
  have hi : inB n 0 5 = false := by simp [inB]; omega
  clear hn
  go_enter Try.func23, Try.ntmps23
  go_wp2_with (go_at_call 53; refine (isJob_any _ _).mono ?_; rintro e w' ⟨rfl, rfl⟩)
  go_returns
  exact ⟨rfl, (Chg.refl _ _).alloc _⟩

theorem bjob_in (b n : Nat) (hn : n < 6) (T : Tb) (w : World) (h : Has 31 w b T) :
    Calls Try.prog 52 #[.pointer (some ⟨b, 0, none⟩), .int .i64 n] w fun e w' => e = .returned (.agg #[.int .i64 (T.js n).st, .int .i64 (T.js n).wk, .int .i64 (T.js n).tr, .int .i64 (T.js n).un]) ∧ Chg [] w w' := by
  have hl := h.lt
  have c0 := h.c0 hn
  have c1 := h.c1 hn
  have c2 := h.c2 hn
  have c3 := h.c3 hn
  have d0 : decide ((n : Int) < 0) = false := by simp
  have d1 : decide ((6 : Int) ≤ (n : Int)) = false := by simp; omega
  have hn' : (n : Int) < 6 := by omega
  go_enter Try.func52, Try.ntmps52
  go_wp2
  go_returns
  exact ⟨rfl, (Chg.refl _ _).alloc _⟩

theorem bjob_out (b : Nat) (n : Int) (hn : n < 0 ∨ 5 < n) (w : World) :
    Calls Try.prog 52 #[.pointer (some ⟨b, 0, none⟩), .int .i64 n] w fun e w' => e = .returned (.agg #[.int .i64 0, .int .i64 0, .int .i64 0, .int .i64 0]) ∧ Chg [] w w' := by
  by_cases h0 : n < 0
  · have d0 : decide (n < 0) = true := by simpa using h0
    clear hn h0
    go_enter Try.func52, Try.ntmps52
    go_wp2
    go_returns
    exact ⟨rfl, (Chg.refl _ _).alloc _⟩
  · have d0 : decide (n < 0) = false := by simp; omega
    have d1 : decide ((6 : Int) ≤ n) = true := by simp; omega
    clear hn h0
    go_enter Try.func52, Try.ntmps52
    go_wp2
    go_returns
    exact ⟨rfl, (Chg.refl _ _).alloc _⟩

end Go.Proofs.Ytkkffgojblopjaa
