/-
  What the functions of the jobs layer that change a table do to the world. Nothing here is claimed by itself.
-/
import Derived.Test.YtkkffgojblopjaaW1
import Derived.Deep.Light
namespace Go.Proofs.Ytkkffgojblopjaa
open Go.RowKit

theorem passTo_at (js : Nat → Jb) (m : Int) (k : Nat) : (passTo js m k).js k = js k := by simp [passTo]
theorem passTo_keep (js : Nat → Jb) (m : Int) (k : Nat) (h : ¬ ((js k).st = 2 ∧ (js k).un ≤ m)) : passTo js m (k + 1) = passTo js m k := by
  unfold passTo
  congr 1
  funext n
  by_cases e : n = k
  · subst e; simp [ageJ, h]
  · by_cases e2 : n < k
    · simp [e2, show n < k + 1 by omega]
    · simp [e2, show ¬ n < k + 1 by omega]
theorem passTo_turn (js : Nat → Jb) (m : Int) (k : Nat) (h : (js k).st = 2 ∧ (js k).un ≤ m) : passTo js m (k + 1) = (passTo js m k).set k (relJ (js k)) := by
  unfold passTo Tb.set
  congr 1
  funext n
  by_cases e : n = k
  · subst e; simp [ageJ, h]
  · by_cases e2 : n < k
    · simp [e, e2, show n < k + 1 by omega]
    · simp [e, e2, show ¬ n < k + 1 by omega]

set_option maxHeartbeats 2000000 in
theorem pass_mx (b : Nat) (js : Nat → Jb) (now m mx : Int) (w : World) (h : Has 78 w b ⟨js, now⟩) (hmx : m ≤ now ∧ mx = now ∨ now < m ∧ mx = m) :
    Calls Try.prog 46 #[.pointer (some ⟨b, 0, none⟩), .int .i64 m] w fun e w' => e = .returned (.tuple #[]) ∧ Has 78 w' b (passTo js mx 6) ∧ Chg [b] w w' := by
  have hc := h.cn
  have hf := h.fz 24
  have hl := h.lt
  have hst := h.setNow mx
  have hg0 : Chg [b] w (w.setCell ⟨b, 24, none⟩ (.int .i64 mx)) := (Chg.refl _ _).setCell (by simp) _
  clear h
  rcases hmx with ⟨h1, h2⟩ | ⟨h1, h2⟩
  all_goals
    subst h2
    go_enter Try.func46, Try.ntmps46
    go_wp2
    go_loopw [15] (fun i wr => ∃ k : Nat, k ≤ 6 ∧ i = .int .i64 k ∧ Has 78 wr b (passTo js mx k) ∧ Chg [b] w wr) (fun i _ => 6 - (intOf i).toNat)
    case atStart => exact ⟨0, by omega, rfl, hst, hg0⟩
    case round =>
      obtain ⟨k, hk, rfl, hT, hg⟩ := hrel
      clear hc hf hst hg0
      by_cases hlt : k < 6
      · have c0 := hT.c0 hlt
        have c1 := hT.c1 hlt
        have c2 := hT.c2 hlt
        have c3 := hT.c3 hlt
        have cn := hT.cn
        have hlr := hT.lt
        rw [passTo_at] at c0 c1 c2 c3
        change wr.cell? _ = some (.int .i64 mx) at cn
        by_cases e1 : (js k).st = 2
        · have b1 : ((js k).st == 2) = true := by simpa using e1
          by_cases e2 : (js k).un ≤ mx
          · have ht := passTo_turn js mx k ⟨e1, e2⟩
            have b2 : decide ((js k).un ≤ mx) = true := by simpa using e2
            have HT := hide ht
            clear ht e1 e2
            go_wp2_with fail
            go_quiet (fail)
            go_wp2_with fail
            go_region_with (go_at_call 59; refine (released_any _ _ _ _ _).mono ?_; rintro e w1 ⟨rfl, hg1⟩; have hT1 := ((hT.alloc _).drewN _).chg hg1 (by simp); have d0 := hT1.c0 hlt; have d1 := hT1.c1 hlt; have d2 := hT1.c2 hlt; have d3 := hT1.c3 hlt; have f0 := hT1.fz (k * 4); have f1 := hT1.fz (k * 4 + 1); have f2 := hT1.fz (k * 4 + 2); have f3 := hT1.fz (k * 4 + 3))
            go_wp2
            go_roundw
            case rel => exact ⟨k + 1, by omega, by go_num, by rw [unhide HT]; exact hT1.set4 hlt (relJ (js k)), (((((((hg.alloc _).drewN _).trans hg1 (by simp)).setCell (by simp) _).setCell (by simp) _).setCell (by simp) _).setCell (by simp) _)⟩
            case measure => go_light; simp [intOf]; omega
          · have ht := passTo_keep js mx k (fun h => e2 h.2)
            have b2 : decide ((js k).un ≤ mx) = false := by simpa using e2
            have HT := hide ht
            clear ht
            go_wp2_with fail
            go_quiet (fail)
            go_wp2
            go_roundw
            case rel => exact ⟨k + 1, by omega, by go_num, by rw [unhide HT]; exact (hT.alloc _).drewN _, (hg.alloc _).drewN _⟩
            case measure => go_light; simp [intOf]; omega
        · have b1 : ((js k).st == 2) = false := by simpa using e1
          have ht := passTo_keep js mx k (fun h => e1 h.1)
          have HT := hide ht
          clear ht
          go_wp2_with fail
          go_quiet (fail)
          go_wp2
          go_roundw
          case rel => exact ⟨k + 1, by omega, by go_num, by rw [unhide HT]; exact (hT.alloc _).drewN _, (hg.alloc _).drewN _⟩
          case measure => go_light; simp [intOf]; omega
      · obtain rfl : k = 6 := by omega
        go_wp2
        go_end0
        exact ⟨rfl, hT, hg⟩

theorem pass_any (b : Nat) (T : Tb) (m : Int) (w : World) (h : Has 78 w b T) :
    Calls Try.prog 46 #[.pointer (some ⟨b, 0, none⟩), .int .i64 m] w fun e w' => e = .returned (.tuple #[]) ∧ Has 78 w' b (passT T m) ∧ Chg [b] w w' :=
  pass_mx b T.js T.now m (max T.now m) w h (by omega)

end Go.Proofs.Ytkkffgojblopjaa
