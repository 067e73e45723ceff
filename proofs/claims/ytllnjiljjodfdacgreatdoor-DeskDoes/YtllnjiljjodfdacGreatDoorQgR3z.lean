/-
 The document's own table: what an order does to it. Nothing here is claimed by itself.
-/
import Derived.Deep.WholeRow
import Derived.Test.YtllnjiljjodfdacGreatDoorQgR0
import Derived.Test.YtllnjiljjodfdacGreatDoorQgBase
namespace Go.Proofs.YtllnjiljjodfdacGreatDoor
open Go.RowKit

theorem drop_pass {P : Tb} (hI : Inv P) {n : Nat} (hn : n < 6) (hs : (P.js n).st = 2) : passT (P.set n ⟨(P.js n).st, (P.js n).wk, (P.js n).tr, P.now⟩) P.now = P.set n (relJ (P.js n)) := by
 have hm : max P.now P.now = P.now := by omega
 unfold passT
 rw [Tb.set_now, hm]
 unfold passTo Tb.set
 congr 1
 funext k
 by_cases hk : k < 6
 ·simp only [hk, if_true]
  by_cases e : k = n
  ·subst e
   simp only [if_true]
   unfold ageJ
   rw [if_pos ⟨hs, Int.le_refl _⟩]
   rfl
  ·simp only [e, if_false]
   have := hI.2.2 k hk
   unfold JInv at this
   unfold ageJ
   rw [if_neg]
   omega
 ·have e : ¬ k = n := by omega
  simp [hk, e]
theorem Blk.new2 (w : World) (o o' : Obj) (c : Array Value) (t : TypeId) : Blk (((w.alloc o).alloc o').alloc (.cells c t)) (w.heap.size + 1 + 1) c t := by
 have := Blk.new ((w.alloc o).alloc o') c t
 simpa only [World.size_alloc] using this
theorem Blk.new3 (w : World) (o o' o'' : Obj) (c : Array Value) (t : TypeId) : Blk ((((w.alloc o).alloc o').alloc o'').alloc (.cells c t)) (w.heap.size + 1 + 1 + 1) c t := by
 have := Blk.new (((w.alloc o).alloc o').alloc o'') c t
 simpa only [World.size_alloc] using this
set_option maxRecDepth 100000 in
set_option maxHeartbeats 8000000 in
theorem did_code (T : Tb) (k now jb tr wk tm : Int) (w : World) (hc : ¬ chk ⟨k, now, jb, tr, wk, tm⟩ = 0) :
  Calls Tryz.prog 94 #[.agg T.cells, .agg #[.int .i64 k, .int .i64 now, .int .i64 jb, .int .i64 tr, .int .i64 wk, .int .i64 tm]] w fun e w' =>
   e = .returned (.tuple #[.agg (doT T ⟨k, now, jb, tr, wk, tm⟩).1.cells, .agg #[.int .i64 (doT T ⟨k, now, jb, tr, wk, tm⟩).2.code, .int .i64 (doT T ⟨k, now, jb, tr, wk, tm⟩).2.jb, .int .i64 (doT T ⟨k, now, jb, tr, wk, tm⟩).2.tr]]) ∧ Chg [] w w' := by
 have HD := hide (show doT T ⟨k, now, jb, tr, wk, tm⟩ = if chk ⟨k, now, jb, tr, wk, tm⟩ ≠ 0 then (T, ⟨chk ⟨k, now, jb, tr, wk, tm⟩, 0, 0⟩) else if (obeyT (passT T now) ⟨k, now, jb, tr, wk, tm⟩).2.code = 0 then obeyT (passT T now) ⟨k, now, jb, tr, wk, tm⟩ else (T, (obeyT (passT T now) ⟨k, now, jb, tr, wk, tm⟩).2) from rfl)
 generalize hR : doT T ⟨k, now, jb, tr, wk, tm⟩ = RR at *
 clear hR
 go_enter Tryz.func94, Tryz.ntmps94
 go_wp2_with fail
 refine (fault_any ⟨k, now, jb, tr, wk, tm⟩ _).mono ?_
 rintro e w1 ⟨rfl, g1⟩
 have hB := Blk.chg ((((Blk.new w T.cells 103).alloc _).alloc _).alloc _) g1 (by simp)
 have hO := Blk.chg (((Blk.new1 w _ #[.int .i64 k, .int .i64 now, .int .i64 jb, .int .i64 tr, .int .i64 wk, .int .i64 tm] 83).alloc _).alloc _) g1 (by simp)
 have hR := Blk.chg ((Blk.new2 w _ _ T0.cells 103).alloc _) g1 (by simp)
 have hA := Blk.chg (Blk.new3 w _ _ _ #[.int .i64 0, .int .i64 0, .int .i64 0] 95) g1 (by simp)
 have G1 := (((((Chg.refl [] w).alloc _).alloc _).alloc _).alloc _).trans g1 (by simp)
 replace hB : Has 103 w1 w.heap.size T := hB
 replace hR : Has 103 w1 (w.heap.size + 1 + 1) T0 := hR
 clear g1
 have HV := hide (show RR = (T, ⟨chk ⟨k, now, jb, tr, wk, tm⟩, 0, 0⟩) by rw [unhide HD, if_pos hc])
 have b1 : (chk ⟨k, now, jb, tr, wk, tm⟩ != 0) = true := by rw [bne_iff_ne]; exact hc
 clear HD hc
 generalize chk ⟨k, now, jb, tr, wk, tm⟩ = c at *
 go_wp2_with (first | (refine wpList_load_tab 103 brdRow brdInfo rfl _ rfl (w.heap.size) rfl 103 (T) ?hs ?_; (case hs => exact hB)) | (refine wpList_store_tab 103 brdInfo rfl _ _ rfl (w.heap.size + 1 + 1) rfl (T) rfl 103 T0 ?hr ?_; (case hr => exact hR); intro w9 hT9 hg9 hz9; have hA9 := (hA).chg hg9 (by simp); obtain ⟨a0, a1, a2, q0, q1, q2⟩ := hA9.three; clear hz9))
 rw [unhide HV]
 refine bodyPost_ret (v := .tuple #[.agg (T).cells, .agg #[.int .i64 c, .int .i64 0, .int .i64 0]]) (ret_tab_ans rfl brdRow brdInfo rfl rfl (((hT9.setOther (by simp) _).setOther (by simp) _).setOther (by simp) _) (((hA9.set 0 (.int .i64 c)).set 1 (.int .i64 0)).set 2 (.int .i64 0))) rfl ?_
 exact ⟨rfl, ((((G1).trans hg9 (by simp; omega)).setCell (by simp; omega) _).setCell (by simp; omega) _).setCell (by simp; omega) _⟩
end Go.Proofs.YtllnjiljjodfdacGreatDoor
