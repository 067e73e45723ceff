/-
  The document's own table: how the time goes by. Nothing here is claimed by itself.
-/
import Derived.Deep.Light
import Derived.Test.YtllnjiljjodfdacGreatDoorMgR0
import Derived.Test.YtllnjiljjodfdacGreatDoorMgW1
namespace Go.Proofs.YtllnjiljjodfdacGreatDoor
open Go.RowKit

theorem turn_job {j : Jb} {m : Int} (h : j.st = 2 ∧ j.un ≤ m) : ageJ m j = relJ j := by unfold ageJ; rw [if_pos h]

set_option maxRecDepth 100000 in
set_option maxHeartbeats 4000000 in
theorem later_mx (js : Nat → Jb) (now m mx : Int) (w : World) (hmx : m ≤ now ∧ mx = now ∨ now < m ∧ mx = m) (htr : ∀ n, n < 6 → (js n).tr ≤ 3) :
    Calls Tryz.prog 118 #[.agg (Tb.mk js now).cells, .int .i64 m] w fun e w' => e = .returned (.agg (passTo js mx 6).cells) ∧ Chg [] w w' := by
  have hc24 : (Tb.mk js now).cells[24]? = some (.int .i64 now) := rfl
  have Htr := hide htr
  clear htr
  rcases hmx with ⟨h1, h2⟩ | ⟨h1, h2⟩
  all_goals
    subst h2
    go_enter Tryz.func118, Tryz.ntmps118
    go_wp2_with fail
    clear hc24
    go_loopw [5] (fun i wr => ∃ k : Nat, k ≤ 6 ∧ i = .int .i64 k ∧ Has 103 wr w.heap.size (passTo js mx k) ∧ Has 103 wr (w.heap.size + 1) T0 ∧ Chg [] w wr) (fun i _ => 6 - (intOf i).toNat)
    case atStart =>
      refine ⟨0, by omega, rfl, ?_, Blk.new1 w _ _ _, ((Chg.refl _ _).alloc _).alloc _⟩
      exact (Blk.new w _ _).alloc _
    case round =>
      obtain ⟨k, hk, rfl, hT, hR, hg⟩ := hrel
      have hl := hT.lt
      by_cases hlt : k < 6
      · have c0 := hT.c0 hlt
        have c1 := hT.c1 hlt
        have c2 := hT.c2 hlt
        have c3 := hT.c3 hlt
        have cn := hT.cn
        rw [passTo_at] at c0 c1 c2 c3
        change wr.cell? _ = some (.int .i64 mx) at cn
        by_cases e1 : (js k).st = 2 ∧ (js k).un ≤ mx
        · have b1 : ((js k).st == 2) = true := by simpa using e1.1
          have b2 : decide ((js k).un ≤ mx) = true := by simpa using e1.2
          have HT := hide (passTo_turn js mx k e1)
          clear e1
          have f0 := hT.fz (k * 4)
          have f1 := hT.fz (k * 4 + 1)
          have f2 := hT.fz (k * 4 + 2)
          have f3 := hT.fz (k * 4 + 3)
          by_cases e3 : (js k).tr = 3
          · have b3 : decide ((3 : Int) ≤ (js k).tr) = true := by simp; omega
            have er : relJ (js k) = ⟨4, 0, (js k).tr, 0⟩ := by simp [relJ, e3]
            have ER := hide er
            clear e3 er
            go_wp2
            refine ⟨⟨k + 1, by omega, by go_num, by rw [unhide HT, unhide ER]; exact (hT.set5 hlt ⟨1, 0, (js k).tr, 0⟩ 4).alloc _, (((((hR.setOther (by simp) _).setOther (by simp) _).setOther (by simp) _).setOther (by simp) _).setOther (by simp) _).alloc _, (((((hg.setCell (by simp) _).setCell (by simp) _).setCell (by simp) _).setCell (by simp) _).setCell (by simp) _).alloc _⟩, ?_⟩
            simp [intOf]
            omega
          · have b3 : decide ((3 : Int) ≤ (js k).tr) = false := by have := unhide Htr k hlt; simp; omega
            have er : relJ (js k) = ⟨1, 0, (js k).tr, 0⟩ := by simp [relJ, e3]
            have ER := hide er
            clear e3 er
            go_wp2
            go_roundw
            case rel => exact ⟨k + 1, by omega, by go_num, by rw [unhide HT, unhide ER]; exact (hT.set4 hlt ⟨1, 0, (js k).tr, 0⟩).alloc _, ((((hR.setOther (by simp) _).setOther (by simp) _).setOther (by simp) _).setOther (by simp) _).alloc _, ((((hg.setCell (by simp) _).setCell (by simp) _).setCell (by simp) _).setCell (by simp) _).alloc _⟩
            case measure => go_light; simp [intOf]; omega
        · have HT := hide (passTo_keep js mx k e1)
          by_cases e2 : (js k).st = 2
          · have b1 : ((js k).st == 2) = true := by simpa using e2
            have b2 : decide ((js k).un ≤ mx) = false := by
              have : ¬ (js k).un ≤ mx := fun h => e1 ⟨e2, h⟩
              simpa using this
            clear e1 e2
            go_wp2
            go_roundw
            case rel => exact ⟨k + 1, by omega, by go_num, by rw [unhide HT]; exact hT.alloc _, hR.alloc _, hg.alloc _⟩
            case measure => go_light; simp [intOf]; omega
          · have b1 : ((js k).st == 2) = false := by simpa using e2
            clear e1 e2
            go_wp2
            go_roundw
            case rel => exact ⟨k + 1, by omega, by go_num, by rw [unhide HT]; exact hT.alloc _, hR.alloc _, hg.alloc _⟩
            case measure => go_light; simp [intOf]; omega
      · obtain rfl : k = 6 := by omega
        go_wp2_with (first | (refine wpList_load_tab 103 brdRow brdInfo rfl _ rfl w.heap.size rfl 103 (passTo js mx 6) hT ?_) | (refine wpList_store_tab 103 brdInfo rfl _ _ rfl (w.heap.size + 1) rfl (passTo js mx 6) rfl 103 T0 hR ?_; intro w5 hT5 hg5 hz5))
        refine bodyPost_ret (v := .agg (passTo js mx 6).cells) (ret_tab rfl brdRow brdInfo rfl hT5) rfl ?_
        exact ⟨rfl, hg.trans hg5 (by simp)⟩

theorem later_any (T : Tb) (m : Int) (w : World) (htr : ∀ n, n < 6 → (T.js n).tr ≤ 3) :
    Calls Tryz.prog 118 #[.agg T.cells, .int .i64 m] w fun e w' => e = .returned (.agg (passT T m).cells) ∧ Chg [] w w' :=
  later_mx T.js T.now m (max T.now m) w (by omega) htr

end Go.Proofs.YtllnjiljjodfdacGreatDoor

