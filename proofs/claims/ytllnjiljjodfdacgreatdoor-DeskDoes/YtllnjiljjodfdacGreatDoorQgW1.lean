/-
 What each small function of the jobs layer does to the world. Nothing here is claimed by itself.
-/
import Derived.Deep.QuietTactic
import Derived.Deep.WholeRow
import Derived.BigQuiet
import Derived.Deep.RegionWith
import Derived.BigRegion
import Derived.Deep.Light
import Derived.Test.YtllnjiljjodfdacGreatDoorQgBase
namespace Go.Proofs.YtllnjiljjodfdacGreatDoor
open Go.RowKit

theorem within_any (n lo hi : Int) (w : World) :
  Calls Tryz.prog 103 #[.int .i64 n, .int .i64 lo, .int .i64 hi] w fun e w' => e = .returned (.bool (inB n lo hi)) ∧ w' = w := by
 go_enter Tryz.func103, Tryz.ntmps103
 go_wp2
 all_goals (go_ret; simp [inB, *]; try omega)
theorem isJob_any (n : Int) (w : World) :
  Calls Tryz.prog 74 #[.int .i64 n] w fun e w' => e = .returned (.bool (inB n 0 5)) ∧ w' = w := by
 go_enter Tryz.func74, Tryz.ntmps74
 go_wp2_with (go_at_call 103; refine (within_any _ _ _ _).mono ?_; rintro e w' ⟨rfl, rfl⟩)
 all_goals (go_ret; exact ⟨rfl, rfl⟩)
theorem new_any (w : World) :
  Calls Tryz.prog 77 #[] w fun e w' => e = .returned (.pointer (some ⟨w.heap.size, 0, none⟩)) ∧ Has 151 w' w.heap.size T0 ∧ Chg [] w w' := by
 go_enter Tryz.func77, Tryz.ntmps77
 go_wp2
 go_ret
 exact ⟨rfl, heap_alloc_last _ _, (Chg.refl _ _).alloc _⟩
theorem own_any (b : Nat) (T : Tb) (w : World) (h : Has 151 w b T) :
  Calls Tryz.prog 107 #[.pointer (some ⟨b, 0, none⟩)] w fun e w' => e = .returned (.pointer (some ⟨w.heap.size, 0, none⟩)) ∧ Has 151 w' w.heap.size T ∧ Chg [] w w' := by
 go_enter Tryz.func107, Tryz.ntmps107
 go_wp2_with (first | (refine wpList_load_tab 151 tabRow tabInfo rfl _ rfl b rfl 151 T h ?_) | (refine wpList_store_tab 151 tabInfo rfl _ _ rfl w.heap.size rfl T rfl 151 T0 (heap_alloc_last _ _) ?_; intro w1 hw1 hg1 hz1))
 go_ret
 exact ⟨rfl, hw1, ((Chg.refl _ _).alloc _).trans hg1 (by simp)⟩
theorem job_in (b n : Nat) (hn : n < 6) (T : Tb) (w : World) (h : Has 151 w b T) :
  Calls Tryz.prog 56 #[.pointer (some ⟨b, 0, none⟩), .int .i64 n] w fun e w' => e = .returned (.agg #[.int .i64 (T.js n).st, .int .i64 (T.js n).wk, .int .i64 (T.js n).tr, .int .i64 (T.js n).un]) ∧ Chg [] w w' := by
 have hi : inB n 0 5 = true := by simp [inB]; omega
 have hl := h.lt
 have c0 := h.c0 hn
 have c1 := h.c1 hn
 have c2 := h.c2 hn
 have c3 := h.c3 hn
 go_enter Tryz.func56, Tryz.ntmps56
 go_wp2_with (go_at_call 74; refine (isJob_any _ _).mono ?_; rintro e w' ⟨rfl, rfl⟩)
 go_returns
 exact ⟨rfl, (Chg.refl _ _).alloc _⟩
theorem released_any (st wk tr un : Int) (w : World) :
  Calls Tryz.prog 133 #[.agg #[.int .i64 st, .int .i64 wk, .int .i64 tr, .int .i64 un]] w fun e w' => e = .returned (.agg #[.int .i64 (relJ ⟨st, wk, tr, un⟩).st, .int .i64 0, .int .i64 tr, .int .i64 0]) ∧ Chg [] w w' := by
 by_cases h : tr = 3
 ·subst h
  go_enter Tryz.func133, Tryz.ntmps133
  go_wp2
  go_returns
  exact ⟨rfl, ((Chg.refl _ _).alloc _).alloc _⟩
 ·have h' : (tr == 3) = false := by simpa using h
  have hr : (relJ ⟨st, wk, tr, un⟩).st = 1 := by simp [relJ, h]
  go_enter Tryz.func133, Tryz.ntmps133
  go_wp2
  go_returns
  exact ⟨by rw [hr], ((Chg.refl _ _).alloc _).alloc _⟩
theorem passTo_at (js : Nat → Jb) (m : Int) (k : Nat) : (passTo js m k).js k = js k := by simp [passTo]
theorem passTo_keep (js : Nat → Jb) (m : Int) (k : Nat) (h : ¬ ((js k).st = 2 ∧ (js k).un ≤ m)) : passTo js m (k + 1) = passTo js m k := by
 unfold passTo
 congr 1
 funext n
 by_cases e : n = k
 ·subst e; simp [ageJ, h]
 ·by_cases e2 : n < k
  ·simp [e2, show n < k + 1 by omega]
  ·simp [e2, show ¬ n < k + 1 by omega]
theorem passTo_turn (js : Nat → Jb) (m : Int) (k : Nat) (h : (js k).st = 2 ∧ (js k).un ≤ m) : passTo js m (k + 1) = (passTo js m k).set k (relJ (js k)) := by
 unfold passTo Tb.set
 congr 1
 funext n
 by_cases e : n = k
 ·subst e; simp [ageJ, h]
 ·by_cases e2 : n < k
  ·simp [e, e2, show n < k + 1 by omega]
  ·simp [e, e2, show ¬ n < k + 1 by omega]
set_option maxHeartbeats 2000000 in
theorem pass_mx (b : Nat) (js : Nat → Jb) (now m mx : Int) (w : World) (h : Has 151 w b ⟨js, now⟩) (hmx : m ≤ now ∧ mx = now ∨ now < m ∧ mx = m) :
  Calls Tryz.prog 108 #[.pointer (some ⟨b, 0, none⟩), .int .i64 m] w fun e w' => e = .returned (.tuple #[]) ∧ Has 151 w' b (passTo js mx 6) ∧ Chg [b] w w' := by
 have hc := h.cn
 have hf := h.fz 24
 have hl := h.lt
 have hst := h.setNow mx
 have hg0 : Chg [b] w (w.setCell ⟨b, 24, none⟩ (.int .i64 mx)) := (Chg.refl _ _).setCell (by simp) _
 clear h
 rcases hmx with ⟨h1, h2⟩ | ⟨h1, h2⟩
 all_goals
  subst h2
  go_enter Tryz.func108, Tryz.ntmps108
  go_wp2
  go_loopw [15] (fun i wr => ∃ k : Nat, k ≤ 6 ∧ i = .int .i64 k ∧ Has 151 wr b (passTo js mx k) ∧ Chg [b] w wr) (fun i _ => 6 - (intOf i).toNat)
  case atStart => exact ⟨0, by omega, rfl, hst, hg0⟩
  case round =>
   obtain ⟨k, hk, rfl, hT, hg⟩ := hrel
   clear hc hf hst hg0
   by_cases hlt : k < 6
   ·have c0 := hT.c0 hlt
    have c1 := hT.c1 hlt
    have c2 := hT.c2 hlt
    have c3 := hT.c3 hlt
    have cn := hT.cn
    have hlr := hT.lt
    rw [passTo_at] at c0 c1 c2 c3
    change wr.cell? _ = some (.int .i64 mx) at cn
    by_cases e1 : (js k).st = 2
    ·have b1 : ((js k).st == 2) = true := by simpa using e1
     by_cases e2 : (js k).un ≤ mx
     ·have ht := passTo_turn js mx k ⟨e1, e2⟩
      have b2 : decide ((js k).un ≤ mx) = true := by simpa using e2
      have HT := hide ht
      clear ht e1 e2
      go_wp2_with fail
      go_quiet (fail)
      go_wp2_with fail
      go_region_with (go_at_call 133; refine (released_any _ _ _ _ _).mono ?_; rintro e w1 ⟨rfl, hg1⟩; have hT1 := ((hT.alloc _).drewN _).chg hg1 (by simp); have d0 := hT1.c0 hlt; have d1 := hT1.c1 hlt; have d2 := hT1.c2 hlt; have d3 := hT1.c3 hlt; have f0 := hT1.fz (k * 4); have f1 := hT1.fz (k * 4 + 1); have f2 := hT1.fz (k * 4 + 2); have f3 := hT1.fz (k * 4 + 3))
      go_wp2
      go_roundw
      case rel => exact ⟨k + 1, by omega, by go_num, by rw [unhide HT]; exact hT1.set4 hlt (relJ (js k)), (((((((hg.alloc _).drewN _).trans hg1 (by simp)).setCell (by simp) _).setCell (by simp) _).setCell (by simp) _).setCell (by simp) _)⟩
      case measure => go_light; simp [intOf]; omega
     ·have ht := passTo_keep js mx k (fun h => e2 h.2)
      have b2 : decide ((js k).un ≤ mx) = false := by simpa using e2
      have HT := hide ht
      clear ht
      go_wp2_with fail
      go_quiet (fail)
      go_wp2
      go_roundw
      case rel => exact ⟨k + 1, by omega, by go_num, by rw [unhide HT]; exact (hT.alloc _).drewN _, (hg.alloc _).drewN _⟩
      case measure => go_light; simp [intOf]; omega
    ·have b1 : ((js k).st == 2) = false := by simpa using e1
     have ht := passTo_keep js mx k (fun h => e1 h.1)
     have HT := hide ht
     clear ht
     go_wp2_with fail
     go_quiet (fail)
     go_wp2
     go_roundw
     case rel => exact ⟨k + 1, by omega, by go_num, by rw [unhide HT]; exact (hT.alloc _).drewN _, (hg.alloc _).drewN _⟩
     case measure => go_light; simp [intOf]; omega
   ·obtain rfl : k = 6 := by omega
    go_wp2
    go_end0
    exact ⟨rfl, hT, hg⟩
theorem pass_any (b : Nat) (T : Tb) (m : Int) (w : World) (h : Has 151 w b T) :
  Calls Tryz.prog 108 #[.pointer (some ⟨b, 0, none⟩), .int .i64 m] w fun e w' => e = .returned (.tuple #[]) ∧ Has 151 w' b (passT T m) ∧ Chg [b] w w' :=
 pass_mx b T.js T.now m (max T.now m) w h (by omega)
set_option maxHeartbeats 1000000 in
theorem add_any (b n : Nat) (hn : n < 6) (T : Tb) (w : World) (h : Has 151 w b T) :
  Calls Tryz.prog 134 #[.pointer (some ⟨b, 0, none⟩), .int .i64 n] w fun e w' => e = .returned (.agg #[.int .i64 (addT T n).2.code, .int .i64 (addT T n).2.jb, .int .i64 (addT T n).2.tr]) ∧ Has 151 w' b (addT T n).1 ∧ Chg [b] w w' := by
 have c0 := h.c0 hn
 have hl := h.lt
 by_cases e : (T.js n).st = 0
 ·have b1 : ((T.js n).st != 0) = false := by simpa using e
  have c1 := h.c1 hn
  have c2 := h.c2 hn
  have c3 := h.c3 hn
  have f0 := h.fz (n * 4)
  have f1 := h.fz (n * 4 + 1)
  have f2 := h.fz (n * 4 + 2)
  have f3 := h.fz (n * 4 + 3)
  have ha : addT T n = (T.set n ⟨1, 0, 0, 0⟩, ⟨0, 0, 0⟩) := by simp [addT, e]
  rw [ha]
  clear e ha
  go_enter Tryz.func134, Tryz.ntmps134
  go_wp2
  go_returns
  exact ⟨rfl, (h.set4 hn ⟨1, 0, 0, 0⟩).alloc _, ((((((Chg.refl _ _).setCell (by simp) _).setCell (by simp) _).setCell (by simp) _).setCell (by simp) _).alloc _)⟩
 ·have b1 : ((T.js n).st != 0) = true := by simpa using e
  have ha : addT T n = (T, ⟨4, 0, 0⟩) := by simp [addT, e]
  rw [ha]
  clear e ha
  go_enter Tryz.func134, Tryz.ntmps134
  go_wp2
  go_returns
  exact ⟨rfl, h.alloc _, (Chg.refl _ _).alloc _⟩
theorem firstW_next (T : Tb) (k : Nat) (h : k < 6) (hs : ¬ (T.js k).st = 1) : firstW T k (6 - k) = firstW T (k + 1) (6 - (k + 1)) := by
 rw [show 6 - k = (6 - (k + 1)) + 1 by omega]
 simp [firstW, hs]
theorem firstW_here (T : Tb) (k : Nat) (h : k < 6) (hs : (T.js k).st = 1) : firstW T k (6 - k) = some k := by
 rw [show 6 - k = (6 - (k + 1)) + 1 by omega]
 simp [firstW, hs]
set_option maxHeartbeats 2000000 in
theorem take_any (b : Nat) (wk tm : Int) (T : Tb) (w : World) (h : Has 151 w b T) (hnow : 0 ≤ T.now ∧ T.now ≤ 60000) (htm : 0 ≤ tm ∧ tm ≤ 20) (htr : ∀ n, n < 6 → 0 ≤ (T.js n).tr ∧ (T.js n).tr ≤ 3) :
  Calls Tryz.prog 135 #[.pointer (some ⟨b, 0, none⟩), .int .i64 wk, .int .i64 tm] w fun e w' => e = .returned (.agg #[.int .i64 (takeT T wk tm).2.code, .int .i64 (takeT T wk tm).2.jb, .int .i64 (takeT T wk tm).2.tr]) ∧ Has 151 w' b (takeT T wk tm).1 ∧ Chg [b] w w' := by
 have hl := h.lt
 obtain ⟨n0, n1⟩ := hnow
 obtain ⟨m0, m1⟩ := htm
 have Htr := hide htr
 clear htr
 have hrc : ∀ wr : World, Chg [b] (w.alloc (.cells #[.int .i64 0, .int .i64 0, .int .i64 0] 95)) wr → wr.cell? ⟨w.heap.size, 0, none⟩ = some (.int .i64 0) ∧ wr.cell? ⟨w.heap.size, 1, none⟩ = some (.int .i64 0) ∧ wr.cell? ⟨w.heap.size, 2, none⟩ = some (.int .i64 0) ∧ wr.frozen? ⟨w.heap.size, 0, none⟩ = false ∧ wr.frozen? ⟨w.heap.size, 1, none⟩ = false ∧ wr.frozen? ⟨w.heap.size, 2, none⟩ = false := by
  intro wr hg
  have hb := hg.block w.heap.size (by simp) (by simp; omega)
  rw [heap_alloc_last] at hb
  refine ⟨?_, ?_, ?_, ?_, ?_, ?_⟩ <;> simp [World.cell?, World.frozen?, hb]
 have Hrc := hide hrc
 clear hrc
 go_enter Tryz.func135, Tryz.ntmps135
 go_wp2
 go_loopw [9] (fun i wr => ∃ k : Nat, k ≤ 6 ∧ i = .int .i64 k ∧ Hid (firstW T 0 6 = firstW T k (6 - k)) ∧ Has 151 wr b T ∧ Chg [b] (w.alloc (.cells #[.int .i64 0, .int .i64 0, .int .i64 0] 95)) wr) (fun i _ => 6 - (intOf i).toNat)
 case atStart => exact ⟨0, by omega, rfl, rfl, h.alloc _, Chg.refl _ _⟩
 case round =>
  obtain ⟨k, hk, rfl, hF, hT, hg⟩ := hrel
  obtain ⟨r0, r1, r2, g0, g1, g2⟩ := unhide Hrc wr hg
  have hz := hg.size
  simp only [World.size_alloc] at hz
  by_cases hlt : k < 6
  ·have c0 := hT.c0 hlt
   have c1 := hT.c1 hlt
   have c2 := hT.c2 hlt
   have c3 := hT.c3 hlt
   have cn := hT.cn
   have hlr := hT.lt
   by_cases e1 : (T.js k).st = 1
   ·have b1 : ((T.js k).st == 1) = true := by simpa using e1
    have ht : takeT T wk tm = (T.set k ⟨2, wk, (T.js k).tr + 1, T.now + tm⟩, ⟨0, k, (T.js k).tr + 1⟩) := by
     simp [takeT, unhide hF, firstW_here T k hlt e1]
    have HT := hide ht
    obtain ⟨t0, t1⟩ := unhide Htr k hlt
    have f0 := hT.fz (k * 4)
    have f1 := hT.fz (k * 4 + 1)
    have f2 := hT.fz (k * 4 + 2)
    have f3 := hT.fz (k * 4 + 3)
    clear ht e1
    go_wp2_with fail
    go_region
    obtain ⟨W4, hW4⟩ : ∃ W4, W4 = (((wr.setCell ⟨b, k * 4, none⟩ (.int .i64 2)).setCell ⟨b, k * 4 + 1, none⟩ (.int .i64 wk)).setCell ⟨b, k * 4 + 2, none⟩ (.int .i64 ((T.js k).tr + 1))).setCell ⟨b, k * 4 + 3, none⟩ (.int .i64 (T.now + tm)) := ⟨_, rfl⟩
    rw [← hW4]
    have h4 : Has 151 W4 b (T.set k ⟨2, wk, (T.js k).tr + 1, T.now + tm⟩) := by rw [hW4]; exact hT.set4 hlt ⟨2, wk, (T.js k).tr + 1, T.now + tm⟩
    have k4 : Chg [b] (w.alloc (.cells #[.int .i64 0, .int .i64 0, .int .i64 0] 95)) W4 := by rw [hW4]; exact (((hg.setCell (by simp) _).setCell (by simp) _).setCell (by simp) _).setCell (by simp) _
    have z4 : W4.heap.size = wr.heap.size := by rw [hW4]; simp [World.size_setCell]
    clear hW4 r0 r1 r2 g0 g1 g2 f0 f1 f2 f3 c0 c1 c2 c3
    obtain ⟨r0, r1, r2, g0, g1, g2⟩ := unhide Hrc W4 k4
    have hlr4 : w.heap.size < W4.heap.size := by omega
    have Z4 := hide z4
    have zc : (W4.alloc (.cells #[.int .i64 (T.js k).st, .int .i64 (T.js k).wk, .int .i64 (T.js k).tr, .int .i64 (T.js k).un] 99)).cell? ⟨wr.heap.size, 2, none⟩ = some (.int .i64 (T.js k).tr) := by
     rw [← z4]; simp
    clear z4
    go_wp2
    obtain ⟨q0, q1, q2⟩ := set3 r0 r1 r2 (.int .i64 0) (.int .i64 k) (.int .i64 ((T.js k).tr + 1))
    refine bodyPost_ret (v := .agg #[.int .i64 0, .int .i64 k, .int .i64 ((T.js k).tr + 1)]) (by simp [results, Tryz.results135, go_sem, q0, q1, q2, hlr4]) rfl ?_
    rw [unhide HT]
    exact ⟨rfl, ((((h4.setOther (by simp; omega) _).setOther (by simp; omega) _).setOther (by simp; omega) _).alloc _).drew, ((((((Chg.refl [b] w).alloc _).trans k4 (by simp)).setCell (by simp) _).setCell (by simp) _ |>.setCell (by simp) _).alloc _).drew⟩
   ·have b1 : ((T.js k).st == 1) = false := by simpa using e1
    have ht := firstW_next T k hlt e1
    have HT := hide ht
    clear ht
    go_wp2
    go_roundw
    case rel => exact ⟨k + 1, by omega, by go_num, (unhide hF).trans (unhide HT), hT.alloc _, hg.alloc _⟩
    case measure => go_light; simp [intOf]; omega
  ·obtain rfl : k = 6 := by omega
   have ht : takeT T wk tm = (T, ⟨5, 0, 0⟩) := by rw [takeT, unhide hF]; rfl
   have HT := hide ht
   clear ht
   go_wp2
   obtain ⟨q0, q1, q2⟩ := set3 r0 r1 r2 (.int .i64 5) (.int .i64 0) (.int .i64 0)
   refine bodyPost_ret (v := .agg #[.int .i64 5, .int .i64 0, .int .i64 0]) (by simp [results, Tryz.results135, go_sem, q0, q1, q2]) rfl ?_
   rw [unhide HT]
   refine ⟨rfl, ((hT.setOther (by simp; omega) _).setOther (by simp; omega) _).setOther (by simp; omega) _, ((((Chg.refl [b] w).alloc _).trans hg (by simp)).setCell (by simp) _).setCell (by simp) _ |>.setCell (by simp) _⟩
set_option maxHeartbeats 1000000 in
theorem heed_absent (b n : Nat) (hn : n < 6) (k now tr wk tm : Int) (T : Tb) (w : World) (h : Has 151 w b T) (e : (T.js n).st = 0) :
  Calls Tryz.prog 136 #[.pointer (some ⟨b, 0, none⟩), .agg #[.int .i64 k, .int .i64 now, .int .i64 n, .int .i64 tr, .int .i64 wk, .int .i64 tm]] w fun e w' => e = .returned (.agg #[.int .i64 5, .int .i64 0, .int .i64 0]) ∧ Has 151 w' b T ∧ Chg [b] w w' := by
 have c0 := h.c0 hn
 have c1 := h.c1 hn
 have c2 := h.c2 hn
 have c3 := h.c3 hn
 have hl := h.lt
 have hl1 : b < w.heap.size + 1 := by omega
 have hl2 : b < w.heap.size + 1 + 1 := by omega
 have b1 : ((T.js n).st == 0) = true := by simpa using e
 have hn' : (n : Int) < 6 := by omega
 clear e
 go_enter Tryz.func136, Tryz.ntmps136
 go_wp2
 go_region
 go_wp2
 go_returns
 exact ⟨rfl, (((h.alloc _).alloc _).alloc _).drew, ((((Chg.refl _ _).alloc _).alloc _).alloc _).drew⟩
set_option maxHeartbeats 2000000 in
theorem heed_other (b n : Nat) (hn : n < 6) (k now tr wk tm : Int) (T : Tb) (w : World) (h : Has 151 w b T) (e : (T.js n).st ≠ 0) (e2 : (T.js n).st ≠ 2 ∨ (T.js n).wk ≠ wk ∨ (T.js n).tr ≠ tr) :
  Calls Tryz.prog 136 #[.pointer (some ⟨b, 0, none⟩), .agg #[.int .i64 k, .int .i64 now, .int .i64 n, .int .i64 tr, .int .i64 wk, .int .i64 tm]] w fun e w' => e = .returned (.agg #[.int .i64 6, .int .i64 0, .int .i64 0]) ∧ Has 151 w' b T ∧ Chg [b] w w' := by
 have c0 := h.c0 hn
 have c1 := h.c1 hn
 have c2 := h.c2 hn
 have c3 := h.c3 hn
 have hl := h.lt
 have hl1 : b < w.heap.size + 1 := by omega
 have hl2 : b < w.heap.size + 1 + 1 := by omega
 have b1 : ((T.js n).st == 0) = false := by simpa using e
 have hn' : (n : Int) < 6 := by omega
 clear e
 by_cases d1 : (T.js n).st = 2
 ·rw [d1] at c0
  by_cases d2 : (T.js n).wk = wk
  ·have b3 : ((T.js n).tr != tr) = true := by
    rw [bne_iff_ne]; intro h3; rcases e2 with e2 | e2 | e2 <;> exact e2 (by assumption)
   rw [d2] at c1
   clear d1 d2 e2 b1
   go_enter Tryz.func136, Tryz.ntmps136
   go_wp2
   go_region
   go_wp2
   go_returns
   exact ⟨rfl, (((h.alloc _).alloc _).alloc _).drew, ((((Chg.refl _ _).alloc _).alloc _).alloc _).drew⟩
  ·have b3 : ((T.js n).wk != wk) = true := by rw [bne_iff_ne]; exact d2
   clear d1 d2 e2 b1
   go_enter Tryz.func136, Tryz.ntmps136
   go_wp2
   go_region
   go_wp2
   go_returns
   exact ⟨rfl, (((h.alloc _).alloc _).alloc _).drew, ((((Chg.refl _ _).alloc _).alloc _).alloc _).drew⟩
 ·have b2 : ((T.js n).st != 2) = true := by rw [bne_iff_ne]; exact d1
  clear d1 e2
  go_enter Tryz.func136, Tryz.ntmps136
  go_wp2
  go_region
  go_wp2
  go_returns
  exact ⟨rfl, (((h.alloc _).alloc _).alloc _).drew, ((((Chg.refl _ _).alloc _).alloc _).alloc _).drew⟩
set_option maxHeartbeats 2000000 in
theorem heed_renew (b n : Nat) (hn : n < 6) (now tm : Int) (T : Tb) (w : World) (h : Has 151 w b T) (hnow : 0 ≤ T.now ∧ T.now ≤ 60000) (htm : 0 ≤ tm ∧ tm ≤ 20) (e : (T.js n).st = 2) :
  Calls Tryz.prog 136 #[.pointer (some ⟨b, 0, none⟩), .agg #[.int .i64 3, .int .i64 now, .int .i64 n, .int .i64 (T.js n).tr, .int .i64 (T.js n).wk, .int .i64 tm]] w fun e w' => e = .returned (.agg #[.int .i64 0, .int .i64 0, .int .i64 0]) ∧ Has 151 w' b (T.set n ⟨2, (T.js n).wk, (T.js n).tr, T.now + tm⟩) ∧ Chg [b] w w' := by
 have c0 := h.c0 hn
 have c1 := h.c1 hn
 have c2 := h.c2 hn
 have c3 := h.c3 hn
 have cn := h.cn
 have f0 := h.fz (n * 4)
 have f1 := h.fz (n * 4 + 1)
 have f2 := h.fz (n * 4 + 2)
 have f3 := h.fz (n * 4 + 3)
 have hl := h.lt
 have hl1 : b < w.heap.size + 1 := by omega
 have hl2 : b < w.heap.size + 1 + 1 := by omega
 obtain ⟨n0, n1⟩ := hnow
 obtain ⟨m0, m1⟩ := htm
 rw [e] at c0
 have hn' : (n : Int) < 6 := by omega
 clear e
 go_enter Tryz.func136, Tryz.ntmps136
 go_wp2
 go_region
 go_wp2
 go_region
 go_wp2
 go_region
 go_wp2
 go_returns
 exact ⟨rfl, ((((h.set4 hn ⟨2, (T.js n).wk, (T.js n).tr, T.now + tm⟩).alloc _).alloc _).alloc _).drew.drew.drew, ((((((((Chg.refl _ _).setCell (by simp) _).setCell (by simp) _).setCell (by simp) _).setCell (by simp) _).alloc _).alloc _).alloc _).drew.drew.drew⟩
set_option maxHeartbeats 2000000 in
theorem heed_done (b n : Nat) (hn : n < 6) (now tm : Int) (T : Tb) (w : World) (h : Has 151 w b T) (e : (T.js n).st = 2) :
  Calls Tryz.prog 136 #[.pointer (some ⟨b, 0, none⟩), .agg #[.int .i64 4, .int .i64 now, .int .i64 n, .int .i64 (T.js n).tr, .int .i64 (T.js n).wk, .int .i64 tm]] w fun e w' => e = .returned (.agg #[.int .i64 0, .int .i64 0, .int .i64 0]) ∧ Has 151 w' b (T.set n ⟨3, (T.js n).wk, (T.js n).tr, 0⟩) ∧ Chg [b] w w' := by
 have c0 := h.c0 hn
 have c1 := h.c1 hn
 have c2 := h.c2 hn
 have c3 := h.c3 hn
 have cn := h.cn
 have f0 := h.fz (n * 4)
 have f1 := h.fz (n * 4 + 1)
 have f2 := h.fz (n * 4 + 2)
 have f3 := h.fz (n * 4 + 3)
 have hl := h.lt
 have hl1 : b < w.heap.size + 1 := by omega
 have hl2 : b < w.heap.size + 1 + 1 := by omega
 rw [e] at c0
 have hn' : (n : Int) < 6 := by omega
 clear e
 go_enter Tryz.func136, Tryz.ntmps136
 go_wp2
 go_region
 go_wp2
 go_region
 go_wp2
 go_returns
 exact ⟨rfl, ((((h.set4 hn ⟨3, (T.js n).wk, (T.js n).tr, 0⟩).alloc _).alloc _).alloc _).drew.drew, ((((((((Chg.refl _ _).setCell (by simp) _).setCell (by simp) _).setCell (by simp) _).setCell (by simp) _).alloc _).alloc _).alloc _).drew.drew⟩
set_option maxHeartbeats 2000000 in
theorem heed_drop (b n : Nat) (hn : n < 6) (now tm : Int) (T : Tb) (w : World) (h : Has 151 w b T) (e : (T.js n).st = 2) :
  Calls Tryz.prog 136 #[.pointer (some ⟨b, 0, none⟩), .agg #[.int .i64 5, .int .i64 now, .int .i64 n, .int .i64 (T.js n).tr, .int .i64 (T.js n).wk, .int .i64 tm]] w fun e w' => e = .returned (.agg #[.int .i64 0, .int .i64 0, .int .i64 0]) ∧ Has 151 w' b (T.set n (relJ (T.js n))) ∧ Chg [b] w w' := by
 have c0 := h.c0 hn
 have c1 := h.c1 hn
 have c2 := h.c2 hn
 have c3 := h.c3 hn
 have f0 := h.fz (n * 4)
 have f1 := h.fz (n * 4 + 1)
 have f2 := h.fz (n * 4 + 2)
 have f3 := h.fz (n * 4 + 3)
 have hl := h.lt
 have hl1 : b < w.heap.size + 1 := by omega
 have hl2 : b < w.heap.size + 1 + 1 := by omega
 have hl3 : b < w.heap.size + 1 + 1 + 1 := by omega
 have hl4 : b < w.heap.size + 1 + 1 + 1 + 1 := by omega
 rw [e] at c0
 have hn' : (n : Int) < 6 := by omega
 clear e
 by_cases d : (T.js n).tr = 3
 ·have b4 : ((T.js n).tr == 3) = true := by simpa using d
  have hj : relJ (T.js n) = ⟨4, 0, (T.js n).tr, 0⟩ := by simp [relJ, d]
  rw [hj]
  clear d hj
  go_enter Tryz.func136, Tryz.ntmps136
  go_wp2
  go_region
  go_wp2
  go_region
  go_wp2
  go_returns
  exact ⟨rfl, ((((((h.set4 hn ⟨4, 0, (T.js n).tr, 0⟩).alloc _).alloc _).alloc _).alloc _).alloc _).drew.drew, ((((((((((Chg.refl _ _).setCell (by simp) _).setCell (by simp) _).setCell (by simp) _).setCell (by simp) _).alloc _).alloc _).alloc _).alloc _).alloc _).drew.drew⟩
 ·have b4 : ((T.js n).tr == 3) = false := by simpa using d
  have hj : relJ (T.js n) = ⟨1, 0, (T.js n).tr, 0⟩ := by simp [relJ, d]
  rw [hj]
  clear d hj
  go_enter Tryz.func136, Tryz.ntmps136
  go_wp2
  go_region
  go_wp2
  go_region
  go_wp2
  go_returns
  exact ⟨rfl, ((((((h.set4 hn ⟨1, 0, (T.js n).tr, 0⟩).alloc _).alloc _).alloc _).alloc _).alloc _).drew.drew, ((((((((((Chg.refl _ _).setCell (by simp) _).setCell (by simp) _).setCell (by simp) _).setCell (by simp) _).alloc _).alloc _).alloc _).alloc _).alloc _).drew.drew⟩
theorem heed_any (b n : Nat) (hn : n < 6) (k now tr wk tm : Int) (T : Tb) (w : World) (h : Has 151 w b T) (hnow : 0 ≤ T.now ∧ T.now ≤ 60000) (htm : 0 ≤ tm ∧ tm ≤ 20) (hk : 3 ≤ k ∧ k ≤ 5) :
  Calls Tryz.prog 136 #[.pointer (some ⟨b, 0, none⟩), .agg #[.int .i64 k, .int .i64 now, .int .i64 n, .int .i64 tr, .int .i64 wk, .int .i64 tm]] w fun e w' =>
   e = .returned (.agg #[.int .i64 (heedT T ⟨k, now, n, tr, wk, tm⟩).2.code, .int .i64 (heedT T ⟨k, now, n, tr, wk, tm⟩).2.jb, .int .i64 (heedT T ⟨k, now, n, tr, wk, tm⟩).2.tr]) ∧ Has 151 w' b (heedT T ⟨k, now, n, tr, wk, tm⟩).1 ∧ Chg [b] w w' := by
 by_cases e0 : (T.js n).st = 0
 ·have : heedT T ⟨k, now, n, tr, wk, tm⟩ = (T, ⟨5, 0, 0⟩) := by simp [heedT, e0]
  rw [this]
  exact heed_absent b n hn k now tr wk tm T w h e0
 by_cases e1 : (T.js n).st ≠ 2 ∨ (T.js n).wk ≠ wk ∨ (T.js n).tr ≠ tr
 ·have : heedT T ⟨k, now, n, tr, wk, tm⟩ = (T, ⟨6, 0, 0⟩) := by
   simp only [heedT, Int.toNat_natCast]
   rw [if_neg e0, if_pos e1]
  rw [this]
  exact heed_other b n hn k now tr wk tm T w h e0 e1
 have e2 : (T.js n).st = 2 ∧ (T.js n).wk = wk ∧ (T.js n).tr = tr := by
  refine ⟨Decidable.byContradiction fun h => e1 (.inl h), Decidable.byContradiction fun h => e1 (.inr (.inl h)), Decidable.byContradiction fun h => e1 (.inr (.inr h))⟩
 obtain ⟨e2, rfl, rfl⟩ := e2
 have : heedT T ⟨k, now, n, (T.js n).tr, (T.js n).wk, tm⟩ = (T.set n (heedJ T ⟨k, now, n, (T.js n).tr, (T.js n).wk, tm⟩ (T.js n)), ⟨0, 0, 0⟩) := by
  simp only [heedT, Int.toNat_natCast]
  rw [if_neg e0, if_neg e1]
 rw [this]
 have hk' : k = 3 ∨ k = 4 ∨ k = 5 := by omega
 rcases hk' with rfl | rfl | rfl
 ·have : heedJ T ⟨3, now, n, (T.js n).tr, (T.js n).wk, tm⟩ (T.js n) = ⟨2, (T.js n).wk, (T.js n).tr, T.now + tm⟩ := by simp [heedJ, e2]
  rw [this]
  exact heed_renew b n hn now tm T w h hnow htm e2
 ·have : heedJ T ⟨4, now, n, (T.js n).tr, (T.js n).wk, tm⟩ (T.js n) = ⟨3, (T.js n).wk, (T.js n).tr, 0⟩ := by simp [heedJ]
  rw [this]
  exact heed_done b n hn now tm T w h e2
 ·have : heedJ T ⟨5, now, n, (T.js n).tr, (T.js n).wk, tm⟩ (T.js n) = relJ (T.js n) := by simp [heedJ]
  rw [this]
  exact heed_drop b n hn now tm T w h e2
end Go.Proofs.YtllnjiljjodfdacGreatDoor
