/-
  A table and the document's own one tell the same. Nothing here is claimed by itself.
-/
import Derived.Test.YtkkffgojblopjaaR4
import Derived.Test.YtkkffgojblopjaaR5
import Derived.Test.YtkkffgojblopjaaLawBase
import Derived.BigQuiet
namespace Go.Proofs.Ytkkffgojblopjaa
open Go.RowKit

def jobA (T : Tb) (n : Int) : Jb := if 0 ≤ n ∧ n ≤ 5 then T.js n.toNat else ⟨0, 0, 0, 0⟩
theorem job_all (b : Nat) (n : Int) (T : Tb) (w : World) (h : Has 78 w b T) :
    Calls Try.prog 23 #[.pointer (some ⟨b, 0, none⟩), .int .i64 n] w fun e w' => e = .returned (.agg #[.int .i64 (jobA T n).st, .int .i64 (jobA T n).wk, .int .i64 (jobA T n).tr, .int .i64 (jobA T n).un]) ∧ Chg [] w w' := by
  by_cases hn : 0 ≤ n ∧ n ≤ 5
  · obtain ⟨m, rfl⟩ : ∃ m : Nat, n = m := ⟨n.toNat, by omega⟩
    have e : jobA T m = T.js m := by simp [jobA]; omega
    rw [e]
    exact job_in b m (by omega) T w h
  · have e : jobA T n = ⟨0, 0, 0, 0⟩ := by unfold jobA; rw [if_neg hn]
    rw [e]
    exact job_out b n (by omega) w
theorem bjob_all (b : Nat) (n : Int) (T : Tb) (w : World) (h : Has 31 w b T) :
    Calls Try.prog 52 #[.pointer (some ⟨b, 0, none⟩), .int .i64 n] w fun e w' => e = .returned (.agg #[.int .i64 (jobA T n).st, .int .i64 (jobA T n).wk, .int .i64 (jobA T n).tr, .int .i64 (jobA T n).un]) ∧ Chg [] w w' := by
  by_cases hn : 0 ≤ n ∧ n ≤ 5
  · obtain ⟨m, rfl⟩ : ∃ m : Nat, n = m := ⟨n.toNat, by omega⟩
    have e : jobA T m = T.js m := by simp [jobA]; omega
    rw [e]
    exact bjob_in b m (by omega) T w h
  · have e : jobA T n = ⟨0, 0, 0, 0⟩ := by unfold jobA; rw [if_neg hn]
    rw [e]
    exact bjob_out b n (by omega) w
theorem bdo_all (b : Nat) (o : Od) (T : Tb) (w : World) (h : Has 31 w b T) (hI : Inv T) :
    Calls Try.prog 21 #[.pointer (some ⟨b, 0, none⟩), .agg #[.int .i64 o.k, .int .i64 o.now, .int .i64 o.jb, .int .i64 o.tr, .int .i64 o.wk, .int .i64 o.tm]] w fun e w' =>
      e = .returned (.agg #[.int .i64 (doT T o).2.code, .int .i64 (doT T o).2.jb, .int .i64 (doT T o).2.tr]) ∧ Has 31 w' b (doT T o).1 ∧ Chg [b] w w' := bdo_any b o T w h hI

set_option maxRecDepth 100000 in
set_option maxHeartbeats 2000000 in
theorem same_all (t b : Nat) (T : Tb) (w : World) (hT : Has 78 w t T) (hB : Has 31 w b T) :
    Calls Try.prog 22 #[.pointer (some ⟨t, 0, none⟩), .pointer (some ⟨b, 0, none⟩)] w fun e w' => e = .returned (.bool true) ∧ Chg [] w w' := by
  have lt := hT.lt
  have lb := hB.lt
  have bn := hB.cn
  have HT := hide hT
  have HB := hide hB
  clear hT hB
  go_enter Try.func22, Try.ntmps22
  go_wp2_with fail
  go_quiet ((go_at_call 24; exact Calls.quiet_of_same (now_any _ _ _ (unhide HT))))
  go_wp2_with fail
  go_loopw [5] (fun i wr => ∃ k : Nat, k ≤ 8 ∧ i = .int .i64 ((k : Int) - 1) ∧ Chg [] w wr) (fun i _ => 8 - (intOf i + 1).toNat)
  case atStart => exact ⟨0, by omega, rfl, (Chg.refl _ _).drewN _⟩
  case round =>
    obtain ⟨k, hk, rfl, G⟩ := hrel
    by_cases h8 : k < 8
    · have hle : decide ((k : Int) - 1 ≤ 6) = true := by simp; omega
      go_wp2_with (first
        | (go_at_call 23; refine (job_all t _ T _ ((unhide HT).chg G (by simp))).mono ?_; rintro e w2 ⟨rfl, g2⟩; have G2 := G.trans g2 (by simp); clear g2)
        | (go_at_call 52; refine (bjob_all b _ T _ ((unhide HB).chg G2 (by simp))).mono ?_; rintro e w3 ⟨rfl, g3⟩; have G3 := G2.trans g3 (by simp); clear g3))
      go_roundw
      case rel => exact ⟨k + 1, by omega, by go_num, G3⟩
      case measure => go_light; simp [intOf]; omega
    · have hle : decide ((k : Int) - 1 ≤ 6) = false := by simp; omega
      go_wp2
      go_ret
      exact ⟨rfl, G⟩

end Go.Proofs.Ytkkffgojblopjaa
