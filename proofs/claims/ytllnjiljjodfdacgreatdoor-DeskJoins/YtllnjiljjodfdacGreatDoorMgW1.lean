/-
  What each small function of the jobs layer does to the world. Nothing here is claimed by itself.
-/
import Derived.Deep.QuietTactic
import Derived.Deep.WholeRow
import Derived.BigQuiet
import Derived.Deep.RegionWith
import Derived.BigRegion
import Derived.Deep.Light
import Derived.Test.YtllnjiljjodfdacGreatDoorMgBase
namespace Go.Proofs.YtllnjiljjodfdacGreatDoor
open Go.RowKit

theorem within_any (n lo hi : Int) (w : World) :
    Calls Tryz.prog 103 #[.int .i64 n, .int .i64 lo, .int .i64 hi] w fun e w' => e = .returned (.bool (inB n lo hi)) ∧ w' = w := by
  go_enter Tryz.func103, Tryz.ntmps103
  go_wp2
  all_goals (go_ret; simp [inB, *]; try omega)

theorem isJob_any (n : Int) (w : World) :
    Calls Tryz.prog 74 #[.int .i64 n] w fun e w' => e = .returned (.bool (inB n 0 5)) ∧ w' = w := by
  go_enter Tryz.func74, Tryz.ntmps74
  go_wp2_with (go_at_call 103; refine (within_any _ _ _ _).mono ?_; rintro e w' ⟨rfl, rfl⟩)
  all_goals (go_ret; exact ⟨rfl, rfl⟩)


theorem new_any (w : World) :
    Calls Tryz.prog 77 #[] w fun e w' => e = .returned (.pointer (some ⟨w.heap.size, 0, none⟩)) ∧ Has 151 w' w.heap.size T0 ∧ Chg [] w w' := by
  go_enter Tryz.func77, Tryz.ntmps77
  go_wp2
  go_ret
  exact ⟨rfl, heap_alloc_last _ _, (Chg.refl _ _).alloc _⟩

theorem own_any (b : Nat) (T : Tb) (w : World) (h : Has 151 w b T) :
    Calls Tryz.prog 107 #[.pointer (some ⟨b, 0, none⟩)] w fun e w' => e = .returned (.pointer (some ⟨w.heap.size, 0, none⟩)) ∧ Has 151 w' w.heap.size T ∧ Chg [] w w' := by
  go_enter Tryz.func107, Tryz.ntmps107
  go_wp2_with (first | (refine wpList_load_tab 151 tabRow tabInfo rfl _ rfl b rfl 151 T h ?_) | (refine wpList_store_tab 151 tabInfo rfl _ _ rfl w.heap.size rfl T rfl 151 T0 (heap_alloc_last _ _) ?_; intro w1 hw1 hg1 hz1))
  go_ret
  exact ⟨rfl, hw1, ((Chg.refl _ _).alloc _).trans hg1 (by simp)⟩

theorem job_in (b n : Nat) (hn : n < 6) (T : Tb) (w : World) (h : Has 151 w b T) :
    Calls Tryz.prog 56 #[.pointer (some ⟨b, 0, none⟩), .int .i64 n] w fun e w' => e = .returned (.agg #[.int .i64 (T.js n).st, .int .i64 (T.js n).wk, .int .i64 (T.js n).tr, .int .i64 (T.js n).un]) ∧ Chg [] w w' := by
  have hi : inB n 0 5 = true := by simp [inB]; omega
  have hl := h.lt
  have c0 := h.c0 hn
  have c1 := h.c1 hn
  have c2 := h.c2 hn
  have c3 := h.c3 hn
  go_enter Tryz.func56, Tryz.ntmps56
  go_wp2_with (go_at_call 74; refine (isJob_any _ _).mono ?_; rintro e w' ⟨rfl, rfl⟩)
  go_returns
  exact ⟨rfl, (Chg.refl _ _).alloc _⟩

theorem released_any (st wk tr un : Int) (w : World) :
    Calls Tryz.prog 133 #[.agg #[.int .i64 st, .int .i64 wk, .int .i64 tr, .int .i64 un]] w fun e w' => e = .returned (.agg #[.int .i64 (relJ ⟨st, wk, tr, un⟩).st, .int .i64 0, .int .i64 tr, .int .i64 0]) ∧ Chg [] w w' := by
  by_cases h : tr = 3
  · subst h
    go_enter Tryz.func133, Tryz.ntmps133
    go_wp2
    go_returns
    exact ⟨rfl, ((Chg.refl _ _).alloc _).alloc _⟩
  · have h' : (tr == 3) = false := by simpa using h
    have hr : (relJ ⟨st, wk, tr, un⟩).st = 1 := by simp [relJ, h]
    go_enter Tryz.func133, Tryz.ntmps133
    go_wp2
    go_returns
    exact ⟨by rw [hr], ((Chg.refl _ _).alloc _).alloc _⟩

end Go.Proofs.YtllnjiljjodfdacGreatDoor

namespace Go.Proofs.YtllnjiljjodfdacGreatDoor
open Go.RowKit

theorem passTo_at (js : Nat → Jb) (m : Int) (k : Nat) : (passTo js m k).js k = js k := by simp [passTo]
theorem passTo_keep (js : Nat → Jb) (m : Int) (k : Nat) (h : ¬ ((js k).st = 2 ∧ (js k).un ≤ m)) : passTo js m (k + 1) = passTo js m k := by
  unfold passTo
  congr 1
  funext n
  by_cases e : n = k
  · subst e; simp [ageJ, h]
  · by_cases e2 : n < k
    · simp [e2, show n < k + 1 by omega]
    · simp [e2, show ¬ n < k + 1 by omega]
theorem passTo_turn (js : Nat → Jb) (m : Int) (k : Nat) (h : (js k).st = 2 ∧ (js k).un ≤ m) : passTo js m (k + 1) = (passTo js m k).set k (relJ (js k)) := by
  unfold passTo Tb.set
  congr 1
  funext n
  by_cases e : n = k
  · subst e; simp [ageJ, h]
  · by_cases e2 : n < k
    · simp [e, e2, show n < k + 1 by omega]
    · simp [e, e2, show ¬ n < k + 1 by omega]

set_option maxHeartbeats 2000000 in
theorem pass_mx (b : Nat) (js : Nat → Jb) (now m mx : Int) (w : World) (h : Has 151 w b ⟨js, now⟩) (hmx : m ≤ now ∧ mx = now ∨ now < m ∧ mx = m) :
    Calls Tryz.prog 108 #[.pointer (some ⟨b, 0, none⟩), .int .i64 m] w fun e w' => e = .returned (.tuple #[]) ∧ Has 151 w' b (passTo js mx 6) ∧ Chg [b] w w' := by
  have hc := h.cn
  have hf := h.fz 24
  have hl := h.lt
  have hst := h.setNow mx
  have hg0 : Chg [b] w (w.setCell ⟨b, 24, none⟩ (.int .i64 mx)) := (Chg.refl _ _).setCell (by simp) _
  clear h
  rcases hmx with ⟨h1, h2⟩ | ⟨h1, h2⟩
  all_goals
    subst h2
    go_enter Tryz.func108, Tryz.ntmps108
    go_wp2
    go_loopw [15] (fun i wr => ∃ k : Nat, k ≤ 6 ∧ i = .int .i64 k ∧ Has 151 wr b (passTo js mx k) ∧ Chg [b] w wr) (fun i _ => 6 - (intOf i).toNat)
    case atStart => exact ⟨0, by omega, rfl, hst, hg0⟩
    case round =>
      obtain ⟨k, hk, rfl, hT, hg⟩ := hrel
      clear hc hf hst hg0
      by_cases hlt : k < 6
      · have c0 := hT.c0 hlt
        have c1 := hT.c1 hlt
        have c2 := hT.c2 hlt
        have c3 := hT.c3 hlt
        have cn := hT.cn
        have hlr := hT.lt
        rw [passTo_at] at c0 c1 c2 c3
        change wr.cell? _ = some (.int .i64 mx) at cn
        by_cases e1 : (js k).st = 2
        · have b1 : ((js k).st == 2) = true := by simpa using e1
          by_cases e2 : (js k).un ≤ mx
          · have ht := passTo_turn js mx k ⟨e1, e2⟩
            have b2 : decide ((js k).un ≤ mx) = true := by simpa using e2
            have HT := hide ht
            clear ht e1 e2
            go_wp2_with fail
            go_quiet (fail)
            go_wp2_with fail
            go_region_with (go_at_call 133; refine (released_any _ _ _ _ _).mono ?_; rintro e w1 ⟨rfl, hg1⟩; have hT1 := ((hT.alloc _).drewN _).chg hg1 (by simp); have d0 := hT1.c0 hlt; have d1 := hT1.c1 hlt; have d2 := hT1.c2 hlt; have d3 := hT1.c3 hlt; have f0 := hT1.fz (k * 4); have f1 := hT1.fz (k * 4 + 1); have f2 := hT1.fz (k * 4 + 2); have f3 := hT1.fz (k * 4 + 3))
            go_wp2
            go_roundw
            case rel => exact ⟨k + 1, by omega, by go_num, by rw [unhide HT]; exact hT1.set4 hlt (relJ (js k)), (((((((hg.alloc _).drewN _).trans hg1 (by simp)).setCell (by simp) _).setCell (by simp) _).setCell (by simp) _).setCell (by simp) _)⟩
            case measure => go_light; simp [intOf]; omega
          · have ht := passTo_keep js mx k (fun h => e2 h.2)
            have b2 : decide ((js k).un ≤ mx) = false := by simpa using e2
            have HT := hide ht
            clear ht
            go_wp2_with fail
            go_quiet (fail)
            go_wp2
            go_roundw
            case rel => exact ⟨k + 1, by omega, by go_num, by rw [unhide HT]; exact (hT.alloc _).drewN _, (hg.alloc _).drewN _⟩
            case measure => go_light; simp [intOf]; omega
        · have b1 : ((js k).st == 2) = false := by simpa using e1
          have ht := passTo_keep js mx k (fun h => e1 h.1)
          have HT := hide ht
          clear ht
          go_wp2_with fail
          go_quiet (fail)
          go_wp2
          go_roundw
          case rel => exact ⟨k + 1, by omega, by go_num, by rw [unhide HT]; exact (hT.alloc _).drewN _, (hg.alloc _).drewN _⟩
          case measure => go_light; simp [intOf]; omega
      · obtain rfl : k = 6 := by omega
        go_wp2
        go_end0
        exact ⟨rfl, hT, hg⟩

theorem pass_any (b : Nat) (T : Tb) (m : Int) (w : World) (h : Has 151 w b T) :
    Calls Tryz.prog 108 #[.pointer (some ⟨b, 0, none⟩), .int .i64 m] w fun e w' => e = .returned (.tuple #[]) ∧ Has 151 w' b (passT T m) ∧ Chg [b] w w' :=
  pass_mx b T.js T.now m (max T.now m) w h (by omega)

end Go.Proofs.YtllnjiljjodfdacGreatDoor

