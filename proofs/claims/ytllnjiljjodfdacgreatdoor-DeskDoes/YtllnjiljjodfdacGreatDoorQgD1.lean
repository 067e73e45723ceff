/-
 What the document's own RecordFault, sum and BytesOf do. Nothing here is claimed by itself.
-/
import Derived.StillTailTactics
import Derived.Test.YtllnjiljjodfdacGreatDoorQgC6a
import Derived.Test.YtllnjiljjodfdacGreatDoorQgR0
namespace Go.Proofs.YtllnjiljjodfdacGreatDoor
open Go.RowKit

theorem rf_any (r : Rc) (w : World) :
  Calls Tryz.prog 120 #[.agg r.cells] w fun e w' => e = .returned (.int .i64 (ckR r)) ∧ Chg [] w w' := by
 obtain ⟨ep, ⟨k, now, jb, tr, wk, tm⟩⟩ := r
 unfold Rc.cells
 by_cases h1 : ep < 1
 ·have hc : ckR ⟨ep, ⟨k, now, jb, tr, wk, tm⟩⟩ = 3 := by simp [ckR, h1]
  have HC := hide hc
  clear hc
  go_enter Tryz.func120, Tryz.ntmps120
  go_wp2_with fail
  go_ret
  exact ⟨by rw [unhide HC]; rfl, (Chg.refl _ _).alloc _⟩
 ·by_cases h2 : 100 < ep
  ·have hc : ckR ⟨ep, ⟨k, now, jb, tr, wk, tm⟩⟩ = 3 := by simp [ckR, h2]
   have HC := hide hc
   clear hc
   go_enter Tryz.func120, Tryz.ntmps120
   go_wp2_with fail
   go_ret
   exact ⟨by rw [unhide HC]; rfl, (Chg.refl _ _).alloc _⟩
  ·have hc : ckR ⟨ep, ⟨k, now, jb, tr, wk, tm⟩⟩ = chk ⟨k, now, jb, tr, wk, tm⟩ := by simp [ckR, h1, h2]
   have HC := hide hc
   clear hc
   go_enter Tryz.func120, Tryz.ntmps120
   go_wp2_with fail
   refine (fault_any ⟨k, now, jb, tr, wk, tm⟩ _).mono ?_
   rintro e w1 ⟨rfl, g1⟩
   go_wp2
   go_ret
   exact ⟨by rw [unhide HC]; rfl, ((Chg.refl _ _).alloc _).trans g1 (by simp)⟩
theorem rsum_any (a : Option Addr) (cap : Nat) (f : Nat → Int) (w : World) (h : Byt w a 8 f) :
  Calls Tryz.prog 119 #[.slice a 8 cap] w fun e w' => e = .returned (.int .u8 (sm f 8 % 251)) ∧ w' = w := by
 obtain ⟨hf, h | ⟨b, off, rfl, hb, hc⟩⟩ := h
 ·omega
 have HF := hide hf
 have HC := hide hc
 clear hf hc
 go_enter Tryz.func119, Tryz.ntmps119
 go_wp2
 go_loop [3, 4] (fun n i => ∃ k : Nat, k ≤ 8 ∧ i = .int .i64 k ∧ n = .int .i64 (sm f k)) (fun _ i => 8 - (intOf i).toNat)
 case atStart => exact ⟨0, by omega, rfl, rfl⟩
 case round =>
  obtain ⟨k, hk, rfl, rfl⟩ := hrel
  obtain ⟨s0, s1⟩ := sm_bd f (unhide HF) k hk
  by_cases hlt : k < 8
  ·obtain ⟨f0, f1⟩ := unhide HF k hlt
   obtain ⟨m0, m1⟩ := sm_step f hlt f0 f1
   rw [Int.mul_comm] at m0 m1
   have hs : sm f (k + 1) = sm f k + ((k : Int) + 1) * f k := by rw [Int.mul_comm]; rfl
   have HS := hide hs
   clear hs
   have c0 := unhide HC k hlt
   go_wp2
   go_round
   case rel => exact ⟨k + 1, by omega, by go_num, by rw [unhide HS]⟩
   case measure => simp [intOf]; omega
  ·obtain rfl : k = 8 := by omega
   go_wp2
   go_ret
   exact ⟨rfl, rfl⟩
def intL (r : Rc) : Array Value := #[.int .i64 (by8 r 0), .int .i64 (by8 r 1), .int .i64 (by8 r 2), .int .i64 (by8 r 3), .int .i64 (by8 r 4), .int .i64 (by8 r 5), .int .i64 (by8 r 6), .int .i64 (by8 r 7)]
theorem intL_cell {w : World} {b : Nat} {r : Rc} {t : TypeId} (h : Blk w b (intL r) t) (i : Nat) (hi : i < 8) : w.cell? ⟨b, i, none⟩ = some (.int .i64 (by8 r i)) := by
 rw [h.cell]
 obtain rfl | rfl | rfl | rfl | rfl | rfl | rfl | rfl : i = 0 ∨ i = 1 ∨ i = 2 ∨ i = 3 ∨ i = 4 ∨ i = 5 ∨ i = 6 ∨ i = 7 := by omega
 all_goals rfl
theorem bytL_succ (n : Nat) (f : Nat → Int) : bytL (n + 1) f = bytL n f ++ [.int .u8 (f n)] := by simp [bytL, List.range_succ]
theorem bytL_nine (r : Rc) : bytL 8 (by8 r) ++ [.int .u8 (sm (by8 r) 8 % 251)] = nine r := by rfl
set_option maxRecDepth 100000 in
set_option maxHeartbeats 4000000 in
theorem bytesof_any (r : Rc) (w : World) (h : ckR r = 0) :
  Calls Tryz.prog 95 #[.agg r.cells] w fun e w' => ∃ g c, e = .returned (.slice (some ⟨g, 0, none⟩) 9 c) ∧ (w.heap.size ≤ g ∧ 9 ≤ c) ∧ Byt w' (some ⟨g, 0, none⟩) 9 (by9 r) ∧ Chg [] w w' := by
 obtain ⟨⟨p0, p1⟩, ho⟩ := ckR_bd h
 obtain ⟨⟨k0, k1⟩, ⟨n0, n1⟩, ⟨j0, j1⟩, ⟨t0, t1⟩, ⟨v0, v1⟩, m0, m1⟩ := chk_bd ho
 obtain ⟨i0, hi, hz0, hz1, hz2⟩ := info_parts u8Info
 clear ho
 have HH := hide h
 clear h
 unfold Rc.cells
 go_enter Tryz.func95, Tryz.ntmps95
 go_wp2_with fail
 have GI : Chg [] w (((w.alloc (.cells r.cells 110)).alloc (.cells #[.int .i64 r.o.k, .int .i64 r.o.now, .int .i64 r.o.jb, .int .i64 r.o.tr, .int .i64 r.o.wk, .int .i64 r.o.tm] 83)).alloc (.cells (intL r) 3)) := (((Chg.refl _ _).alloc _).alloc _).alloc _
 have BI : Blk (((w.alloc (.cells r.cells 110)).alloc (.cells #[.int .i64 r.o.k, .int .i64 r.o.now, .int .i64 r.o.jb, .int .i64 r.o.tr, .int .i64 r.o.wk, .int .i64 r.o.tm] 83)).alloc (.cells (intL r) 3)) (w.heap.size + 2) (intL r) 3 := by
  have := Blk.new ((w.alloc (.cells r.cells 110)).alloc (.cells #[.int .i64 r.o.k, .int .i64 r.o.now, .int .i64 r.o.jb, .int .i64 r.o.tr, .int .i64 r.o.wk, .int .i64 r.o.tm] 83)) (intL r) 3
  simpa only [World.size_alloc] using this
 go_loopw [5, 6] (fun v i wr => ∃ k : Nat, k ≤ 8 ∧ i = .int .i64 k ∧ wr.ownsRow (w.heap.size + 3) 5 1 v k (bytL k (by8 r)) ∧ Blk wr (w.heap.size + 2) (intL r) 3 ∧ Chg [] w wr) (fun _ i _ => 8 - (intOf i).toNat)
 case atStart => exact ⟨0, by omega, rfl, World.ownsRow_nil _ _ _ _, BI, GI⟩
 case round =>
  obtain ⟨k, hk, rfl, own, hB, hG⟩ := hrel
  clear BI GI
  have zB := hB.lt
  by_cases hlt : k < 8
  ·have c0 := intL_cell hB k hlt
   obtain ⟨y0, y1⟩ := by8_bd (unhide HH) k hlt
   have hki : (k : Int) < 8 := by omega
   have HB := hide hB
   clear hB
   obtain ⟨y, hy⟩ : ∃ y, y = by8 r k := ⟨_, rfl⟩
   rw [← hy] at c0 y0 y1
   have HY := hide hy
   clear hy
   go_wp2_with (at_builtin; refine wpList_append_own _ rfl (.tmp 34) (.tmp 40) 42 rfl (w.heap.size + 3) 5 i0 (.int .u8 0) 1 1 Tryz.underlying42 hi hz0 hz1 hz2 rfl (by decide) _ k (bytL k (by8 r)) rfl (own.alloc _) ⟨wr.heap.size, 0, none⟩ 1 1 [.int .u8 y] rfl rfl (Blk.new _ _ _).news (by simp [Value.oneCell']) (by unfold maxLen; omega) (by omega) (by simp; omega) ?_; intro v' w4 own4 gr4 _; have G4 := (hG.alloc _).grown gr4 (fun j hj => .inr (by have := (own.lt j hj).1; omega)); have B4 : Blk w4 (w.heap.size + 2) (intL r) 3 := ((gr4.block _ (by simp; omega) (fun e => by have := (own.lt _ e.symm).1; omega)).trans ((unhide HB).alloc _)); clear own gr4 hG HB c0)
   go_roundw
   case rel => exact ⟨k + 1, by omega, by go_num, by rw [bytL_succ, ← unhide HY]; exact own4, B4, G4⟩
   case measure => go_light; simp [intOf]; omega
  ·obtain rfl : k = 8 := by omega
   obtain ⟨g, c, rfl, hc, hg, -⟩ := own_shape own (by omega)
   have Y := own_byt own (by8_bd (unhide HH)) (bytL_at 8 (by8 r))
   clear hB
   go_wp2_with (first
    | (go_at_call 119; refine (rsum_any _ _ (by8 r) _ Y).mono ?_; rintro e w5 ⟨rfl, rfl⟩)
    | (at_builtin; refine wpList_append_own _ rfl (.tmp 42) (.tmp 45) 42 rfl (w.heap.size + 3) 5 i0 (.int .u8 0) 1 1 Tryz.underlying42 hi hz0 hz1 hz2 rfl (by decide) (.slice (some ⟨g, 0, none⟩) 8 c) 8 (bytL 8 (by8 r)) rfl (own.alloc _) ⟨_, 0, none⟩ 1 1 [.int .u8 (sm (by8 r) 8 % 251)] rfl rfl (Blk.new _ _ _).news (by simp [Value.oneCell']) (by unfold maxLen; omega) (by omega) (by simp; omega) ?_; intro v' w6 own6 gr6 _))
   obtain ⟨g6, c6, rfl, hc6, hg6, -⟩ := own_shape own6 (by omega)
   have G6 := (hG.alloc _).grown gr6 (fun j hj => .inr (by have := (own.lt j hj).1; omega))
   rw [bytL_nine] at own6
   go_ret
   exact ⟨g6, c6, rfl, ⟨by omega, by omega⟩, own_byt own6 (fun i _ => by9_bd (unhide HH) i) (nine_at r), G6⟩
set_option maxRecDepth 100000 in
theorem rof_short (a : Option Addr) (n cap : Nat) (w : World) (hn : n < 9) :
  Calls Tryz.prog 97 #[.slice a n cap] w fun e w' => e = .returned (.tuple #[.agg rc0.cells, .int .i64 7]) ∧ Chg [] w w' := by
 have hd : (n : Int) < 9 := by omega
 have A := hide (Blk.new w rc0.cells 110)
 go_enter Tryz.func97, Tryz.ntmps97
 go_wp2_with (refine wpList_store_rec rfl _ _ rfl w.heap.size rfl rc0 rfl 110 rc0 (unhide A) ?_; intro w2 B2 g2 _)
 exact bodyPost_ret (ret_rec_code Tryz.results97 rfl rfl B2) rfl ⟨rfl, ((Chg.refl [] w).alloc _).trans g2 (by simp)⟩
theorem ordInfoD : (Tryz.prog.info? 83).map (·.size) = some 6 := by kernel_rfl
def ordL (o : Od) : Array Value := #[.int .i64 o.k, .int .i64 o.now, .int .i64 o.jb, .int .i64 o.tr, .int .i64 o.wk, .int .i64 o.tm]
theorem wpList_store_ord {ops : Array Oper} {rest : List Oper} {op : Oper} {a : Act} {w : World} {Q : Exit → Act → World → Prop}
  (hgd : op.guard = none) (x y : Operand) (ho : op.op = .store 83 x y) (b : Nat) (hx : a.eval x = .pointer (some ⟨b, 1, none⟩)) (o : Od) (hy : a.eval y = .agg (ordL o)) (ty' : TypeId) (r : Rc) (h : Blk w b r.cells ty')
  (k : ∀ w', Blk w' b (Rc.cells ⟨r.ep, o⟩) ty' → Chg [b] w w' → w'.heap.size = w.heap.size → wpList Tryz.prog ops Q rest (a.put op.dst undef) w') : wpList Tryz.prog ops Q (op :: rest) a w := by
 refine wpList_store_mid hgd 83 x y ho b 1 (ordL o) hx hy (fun j hj => ⟨?_, ?_⟩) (by rw [ordInfoD]; rfl) (by simp [ordL, Value.oneCell']) (k _ ?_ ((Chg.refl _ _).setAll (by simp) _ _) (setCells_others b _ 1 w).2.2.2.1)
 ·rw [h.cell]
  have hj' : j < 6 := hj
  have : 1 + j < r.cells.size := by rw [Rc.size_cells]; omega
  simp [this]
 ·rw [h.fz]
 ·obtain ⟨c', h1, h2, h3⟩ := setCells_raw b ty' (ordL o).toList 1 w r.cells h
  have : c' = Rc.cells ⟨r.ep, o⟩ := by
   apply Array.ext_getElem?
   intro i
   rw [h3 i]
   by_cases hi : i < 7
   ·obtain rfl | rfl | rfl | rfl | rfl | rfl | rfl : i = 0 ∨ i = 1 ∨ i = 2 ∨ i = 3 ∨ i = 4 ∨ i = 5 ∨ i = 6 := by omega
    all_goals rfl
   ·rw [if_neg (by rw [Rc.size_cells]; omega), Array.getElem?_eq_none (by rw [Rc.size_cells]; omega), Array.getElem?_eq_none (by rw [Rc.size_cells]; omega)]
  rw [← this]
  exact h1
set_option maxRecDepth 100000 in
set_option maxHeartbeats 4000000 in
theorem rof_long (a : Option Addr) (n cap : Nat) (f : Nat → Int) (w : World) (hn : 9 ≤ n) (hcap : n ≤ cap) (h : Byt w a n f) :
  Calls Tryz.prog 97 #[.slice a n cap] w fun e w' => e = .returned (.tuple #[.agg (dec n f).1.cells, .int .i64 (dec n f).2]) ∧ Chg [] w w' := by
 have hB := h
 obtain ⟨hf, h | ⟨b, off, rfl, hb, hc⟩⟩ := h
 ·omega
 have h8 : Byt w (some ⟨b, off, none⟩) 8 f := ⟨fun i hi => hf i (by omega), .inr ⟨b, off, rfl, hb, fun i hi => hc i (by omega)⟩⟩
 have c8 := hc 8 (by omega)
 have b8 := hf 8 (by omega)
 have n9 : (9 : Int) ≤ n := by omega
 have nn : ¬ (n : Int) < 9 := by omega
 have n8 : (8 : Int) < n := by omega
 have n8' : (8 : Int) ≤ n := by omega
 have k8 : (8 : Int) ≤ cap := by omega
 clear hc hf
 have A := hide (Blk.new w rc0.cells 110)
 go_enter Tryz.func97, Tryz.ntmps97
 go_wp2_with fail
 have A' := Blk.new w rc0.cells 110
 have G : Chg [] w (w.alloc (.cells rc0.cells 110)) := (Chg.refl [] w).alloc _
 rw [← G.cell' (p := ⟨b, off + 8, none⟩) hb (by simp)] at c8
 have h8' := h8.chg G
 have hB' := hB.chg G
 have zW : w.heap.size < (w.alloc (.cells rc0.cells 110)).heap.size := A'.lt
 clear A h8 hB
 obtain ⟨W, hW⟩ : ∃ W : World, W = w.alloc (.cells rc0.cells 110) := ⟨_, rfl⟩
 rw [← hW] at c8 h8' hB' G A' zW
 have eW : (w.alloc (.cells #[.int .i64 0, .int .i64 0, .int .i64 0, .int .i64 0, .int .i64 0, .int .i64 0, .int .i64 0] 110)) = W := hW.symm
 rw [eW]
 clear eW hW
 have HA := hide A'
 have HG := hide G
 have HB := hide hB'
 clear A' G hB'
 go_quiet ((go_at_call 119; exact Calls.quiet_of_same (rsum_any _ _ _ _ h8')))
 have A2 : Blk (W.drewN nq) w.heap.size rc0.cells 110 := unhide HA
 have G2 : Chg [] w (W.drewN nq) := (unhide HG).drewN nq
 have B2 : Byt (W.drewN nq) (some ⟨b, off, none⟩) n f := unhide HB
 have z2 : w.heap.size < (W.drewN nq).heap.size := zW
 clear HA HG HB zW c8 h8'
 generalize W.drewN nq = V at *
 by_cases hs : sm f 8 % 251 = f 8
 ·have hne : (sm f 8 % 251 != f 8) = false := by simpa using hs
  rw [hne]
  have HS := hide hs.symm
  clear hs hne
  obtain ⟨hf, h0 | ⟨b', off', e', hb', hc⟩⟩ := B2
  ·omega
  simp at e'
  obtain ⟨rfl, rfl⟩ := e'
  have c0 : V.cell? ⟨b, off, none⟩ = some (.int .u8 (f 0)) := hc 0 (by omega)
  have c1 := hc 1 (by omega)
  have c2 := hc 2 (by omega)
  have c3 := hc 3 (by omega)
  have c4 := hc 4 (by omega)
  have c5 := hc 5 (by omega)
  have c6 := hc 6 (by omega)
  have c7 := hc 7 (by omega)
  obtain ⟨l0, u0⟩ := hf 0 (by omega)
  obtain ⟨l1, u1⟩ := hf 1 (by omega)
  obtain ⟨l2, u2⟩ := hf 2 (by omega)
  obtain ⟨l3, u3⟩ := hf 3 (by omega)
  obtain ⟨l4, u4⟩ := hf 4 (by omega)
  obtain ⟨l5, u5⟩ := hf 5 (by omega)
  obtain ⟨l6, u6⟩ := hf 6 (by omega)
  obtain ⟨l7, u7⟩ := hf 7 (by omega)
  have n0 : 0 < n := by omega
  have n1 : (1 : Int) < n := by omega
  have n2 : (2 : Int) < n := by omega
  have n3 : (3 : Int) < n := by omega
  have n4 : (4 : Int) < n := by omega
  have n5 : (5 : Int) < n := by omega
  have n6 : (6 : Int) < n := by omega
  have n7 : (7 : Int) < n := by omega
  clear hc hf b8
  have hdk : Hid (dec n f = if ckR ⟨f 0, ⟨f 1, f 2 * 256 + f 3, f 4, f 5, f 6, f 7⟩⟩ ≠ 0 then (rc0, ckR ⟨f 0, ⟨f 1, f 2 * 256 + f 3, f 4, f 5, f 6, f 7⟩⟩) else (⟨f 0, ⟨f 1, f 2 * 256 + f 3, f 4, f 5, f 6, f 7⟩⟩, 0)) := hide (by
   unfold dec
   rw [if_neg (by omega), if_neg (by simpa using unhide HS)]
   rfl)
  clear HS
  obtain ⟨D, hDD⟩ : ∃ D, D = dec n f := ⟨_, rfl⟩
  rw [← hDD] at hdk
  have HDD := hide hDD
  clear hDD
  generalize f 0 = f0 at *
  generalize f 1 = f1 at *
  generalize f 2 = f2 at *
  generalize f 3 = f3 at *
  generalize f 4 = f4 at *
  generalize f 5 = f5 at *
  generalize f 6 = f6 at *
  generalize f 7 = f7 at *
  go_wp2_with fail
  have GU := G2.alloc (.cells (Rc.cells ⟨f0, ⟨0, 0, 0, 0, 0, 0⟩⟩) 110)
  have AU := A2.alloc (.cells (Rc.cells ⟨f0, ⟨0, 0, 0, 0, 0, 0⟩⟩) 110)
  have RU := Blk.new V (Rc.cells ⟨f0, ⟨0, 0, 0, 0, 0, 0⟩⟩) 110
  have GV := (Chg.refl [] V).alloc (.cells (Rc.cells ⟨f0, ⟨0, 0, 0, 0, 0, 0⟩⟩) 110)
  rw [← GV.cell' (p := ⟨b, off + 1, none⟩) hb' (by simp)] at c1
  rw [← GV.cell' (p := ⟨b, off + 2, none⟩) hb' (by simp)] at c2
  rw [← GV.cell' (p := ⟨b, off + 3, none⟩) hb' (by simp)] at c3
  rw [← GV.cell' (p := ⟨b, off + 4, none⟩) hb' (by simp)] at c4
  rw [← GV.cell' (p := ⟨b, off + 5, none⟩) hb' (by simp)] at c5
  rw [← GV.cell' (p := ⟨b, off + 6, none⟩) hb' (by simp)] at c6
  rw [← GV.cell' (p := ⟨b, off + 7, none⟩) hb' (by simp)] at c7
  obtain ⟨U, hU⟩ : ∃ U : World, U = V.alloc (.cells (Rc.cells ⟨f0, ⟨0, 0, 0, 0, 0, 0⟩⟩) 110) := ⟨_, rfl⟩
  rw [← hU] at GU AU RU c1 c2 c3 c4 c5 c6 c7
  have eU : (V.alloc (.cells #[.int .i64 f0, .int .i64 0, .int .i64 0, .int .i64 0, .int .i64 0, .int .i64 0, .int .i64 0] 110)) = U := hU.symm
  rw [eU]
  clear eU hU GV c0 G2 A2
  refine wp_region_still_tail 32 (by kernel_rfl) (by kernel_rfl) ?_
  simp only [List.take_succ_cons, List.take_zero, List.drop_succ_cons, List.drop_zero]
  obtain ⟨X, hX⟩ : ∃ X : World, X = { U with drawn := U.drawn + 1 } := ⟨_, rfl⟩
  rw [← hX]
  have GX : Chg [] w X := by rw [hX]; exact GU.drew
  have AX := hide (show Blk X w.heap.size rc0.cells 110 by rw [hX]; exact AU)
  have RX := hide (show Blk X V.heap.size (Rc.cells ⟨f0, ⟨0, 0, 0, 0, 0, 0⟩⟩) 110 by rw [hX]; exact RU)
  have d1 : X.cell? ⟨b, off + 1, none⟩ = some (.int .u8 f1) := by rw [hX]; exact c1
  have d2 : X.cell? ⟨b, off + 2, none⟩ = some (.int .u8 f2) := by rw [hX]; exact c2
  have d3 : X.cell? ⟨b, off + 3, none⟩ = some (.int .u8 f3) := by rw [hX]; exact c3
  have d4 : X.cell? ⟨b, off + 4, none⟩ = some (.int .u8 f4) := by rw [hX]; exact c4
  have d5 : X.cell? ⟨b, off + 5, none⟩ = some (.int .u8 f5) := by rw [hX]; exact c5
  have d6 : X.cell? ⟨b, off + 6, none⟩ = some (.int .u8 f6) := by rw [hX]; exact c6
  have d7 : X.cell? ⟨b, off + 7, none⟩ = some (.int .u8 f7) := by rw [hX]; exact c7
  clear hX GU AU RU c1 c2 c3 c4 c5 c6 c7
  have x1 : IntKind.i64.wrap f1 = f1 := wrap_byte l1 u1
  have x2 : IntKind.i64.wrap f2 = f2 := wrap_byte l2 u2
  have x3 : IntKind.i64.wrap f3 = f3 := wrap_byte l3 u3
  have x4 : IntKind.i64.wrap f4 = f4 := wrap_byte l4 u4
  have x5 : IntKind.i64.wrap f5 = f5 := wrap_byte l5 u5
  have x6 : IntKind.i64.wrap f6 = f6 := wrap_byte l6 u6
  have x7 : IntKind.i64.wrap f7 = f7 := wrap_byte l7 u7
  have y1 : IntKind.i64.wrap (256 * f2) = f2 * 256 := by simp [IntKind.wrap, IntKind.bits, IntKind.signed]; omega
  have y2 : IntKind.i64.wrap (f2 * 256 + f3) = f2 * 256 + f3 := by simp [IntKind.wrap, IntKind.bits, IntKind.signed]; omega
  repeat still_step
  refine wpStill_nil ?_
  refine wpList_store_ord rfl _ _ rfl V.heap.size rfl ⟨f1, f2 * 256 + f3, f4, f5, f6, f7⟩ rfl 110 ⟨f0, ⟨0, 0, 0, 0, 0, 0⟩⟩ (unhide RX) ?_
  intro w3 R3 g3 _
  simp only at R3
  have A3 := (unhide AX).chg g3 (by simp; omega)
  have G3 := GX.trans g3 (by simp; omega)
  clear AX RX GX g3 d1 d2 d3 d4 d5 d6 d7 x1 x2 x3 x4 x5 x6 x7 y1 y2
  obtain ⟨r, hr⟩ : ∃ r : Rc, r = ⟨f0, ⟨f1, f2 * 256 + f3, f4, f5, f6, f7⟩⟩ := ⟨_, rfl⟩
  rw [← hr] at R3 hdk
  clear hr
  obtain ⟨a0, a1, a2, a3, a4, a5, a6⟩ := R3.seven
  have HR3 := hide R3
  have HA3 := hide A3
  clear R3 A3
  go_wp2_with fail
  refine (rf_any r _).mono ?_
  rintro e w5 ⟨rfl, g5⟩
  have A5 := hide ((unhide HA3).chg g5 (by simp))
  have G5 := hide (G3.trans g5 (by simp))
  obtain ⟨e0, e1, e2, e3, e4, e5, e6⟩ := ((unhide HR3).chg g5 (by simp)).seven
  clear a0 a1 a2 a3 a4 a5 a6 HA3 HR3 g5 G3
  by_cases hc : ckR r = 0
  ·have hd : Hid (D = (r, 0)) := hide (by rw [unhide hdk, if_neg (by simpa using hc)])
   rw [hc]
   clear hc hdk
   go_wp2_with (refine wpList_store_rec rfl _ _ rfl w.heap.size rfl r rfl 110 rc0 (unhide A5) ?_; intro w6 B6 g6 _)
   refine bodyPost_ret (ret_rec_code Tryz.results97 rfl rfl B6) rfl ⟨by rw [← unhide HDD, unhide hd]; rfl, (unhide G5).trans g6 (by simp)⟩
  ·have hd : Hid (D = (rc0, ckR r)) := hide (by rw [unhide hdk, if_pos hc])
   have hcb : (ckR r == 0) = false := by simpa using hc
   clear hdk
   go_wp2_with (refine wpList_store_rec rfl _ _ rfl w.heap.size rfl rc0 rfl 110 rc0 (unhide A5) ?_; intro w6 B6 g6 _)
   refine bodyPost_ret (ret_rec_code Tryz.results97 rfl rfl B6) rfl ⟨by rw [← unhide HDD, unhide hd]; rfl, (unhide G5).trans g6 (by simp)⟩
 ·have hne : (sm f 8 % 251 != f 8) = true := by simpa using hs
  have hd : Hid (dec n f = (rc0, 2)) := hide (by
   unfold dec
   rw [if_neg (by omega), if_pos (fun e => hs e.symm)])
  rw [hne]
  clear hne hs
  go_wp2_with (refine wpList_store_rec rfl _ _ rfl w.heap.size rfl rc0 rfl 110 rc0 A2 ?_; intro w6 B6 g6 _)
  refine bodyPost_ret (ret_rec_code Tryz.results97 rfl rfl B6) rfl ⟨by rw [unhide hd]; rfl, G2.trans g6 (by simp)⟩
theorem rof_any (a : Option Addr) (n cap : Nat) (f : Nat → Int) (w : World) (hcap : n ≤ cap) (h : Byt w a n f) :
  Calls Tryz.prog 97 #[.slice a n cap] w fun e w' => e = .returned (.tuple #[.agg (dec n f).1.cells, .int .i64 (dec n f).2]) ∧ Chg [] w w' := by
 by_cases hn : n < 9
 ·have : dec n f = (rc0, 7) := by unfold dec; rw [if_pos hn]
  rw [this]
  exact rof_short a n cap w hn
 ·exact rof_long a n cap f w (by omega) hcap h
theorem lastE_snoc : ∀ (rs : List Rc) (ep : Int) (r : Rc), lastE ep (rs ++ [r]) = r.ep
 | [], _, _ => rfl
 | q :: t, _, r => lastE_snoc t q.ep r
theorem Byt.dropA {w : World} {a : Option Addr} {n j : Nat} {f : Nat → Int} (h : Byt w a n f) :
  Byt w (Option.map (fun x => x.add j) a) (n - j) (fun i => f (i + j)) := by
 obtain ⟨h1, h2⟩ := h
 refine ⟨fun i hi => h1 (i + j) (by omega), ?_⟩
 rcases h2 with h2 | ⟨b, off, rfl, hb, hc⟩
 ·exact .inl (by omega)
 ·have e : ((⟨b, off, none⟩ : Addr).add j) = ⟨b, off + j, none⟩ := by unfold Addr.add; split <;> simp_all
  refine .inr ⟨b, off + j, by simp [e], hb, fun i hi => ?_⟩
  have := hc (i + j) (by omega)
  rw [show off + j + i = off + (i + j) by omega]
  exact this
set_option maxRecDepth 100000 in
set_option maxHeartbeats 4000000 in
theorem rsof_any (a : Option Addr) (n cap : Nat) (f : Nat → Int) (w : World) (hn4 : n ≤ 4000) (hcap : n ≤ cap) (h : Byt w a n f) :
  Calls Tryz.prog 69 #[.slice a n cap] w fun e w' => ∃ v, e = .returned v ∧ w'.ownsRow w.heap.size 110 7 v (allR n f).length (cellsR (allR n f)) ∧ Chg [] w w' := by
 obtain ⟨i0, hi, hz0, hz1, hz2⟩ := info_parts recInfo3
 have HB := hide h
 clear h
 go_enter Tryz.func69, Tryz.ntmps69
 go_wp2_with fail
 go_loopw [3, 4] (fun v i wr => ∃ (k fu : Nat) (rs : List Rc), rs.length = k ∧ k * 9 ≤ n ∧ n - k * 9 < fu * 9 ∧ i = .int .i64 ((k * 9 : Nat) : Int) ∧
   allR n f = rs ++ allF fu (lastE 0 rs) (n - k * 9) (fun i => f (i + k * 9)) ∧ wr.ownsRow w.heap.size 110 7 v k (cellsR rs) ∧ Chg [] w wr) (fun _ i _ => n - (intOf i).toNat)
 case atStart => exact ⟨0, n + 1, [], rfl, by omega, by omega, rfl, rfl, World.ownsRow_nil _ _ _ _, Chg.refl _ _⟩
 case round =>
  obtain ⟨k, fu, rs, hk, hkn, hfu, rfl, hall, hown, hG⟩ := hrel
  have HK := hide hk
  have HALL := hide hall
  clear hk hall
  obtain ⟨fu, rfl⟩ : ∃ x, fu = x + 1 := ⟨fu - 1, by omega⟩
  obtain ⟨av, cv, rfl, hcv, hav, hRv⟩ := own_recs hown (unhide HK).symm
  obtain ⟨j, hj⟩ : ∃ j, j = k * 9 := ⟨_, rfl⟩
  rw [← hj] at hkn hfu HALL ⊢
  have HJ := hide hj
  clear hj
  have hji : (j : Int) ≤ (n : Int) := by omega
  have hjc : (j : Int) ≤ (cap : Int) := by omega
  have hj4 : j ≤ 4000 := by omega
  have hd : Hid (allF (fu + 1) (lastE 0 rs) (n - j) (fun i => f (i + j)) = if (dec (n - j) (fun i => f (i + j))).2 ≠ 0 ∨ (dec (n - j) (fun i => f (i + j))).1.ep < lastE 0 rs then [] else (dec (n - j) (fun i => f (i + j))).1 :: allF fu (dec (n - j) (fun i => f (i + j))).1.ep (n - j - 9) (fun i => f (i + 9 + j))) := hide rfl
  by_cases hcj : cap = j
  ·have hnj : n - j = 0 := by omega
   have hdd := dec_few (k := n - j) (by omega) (fun i => f (i + j))
   have e1 : Hid (allR n f = rs) := hide (by rw [unhide HALL, unhide hd, if_pos (.inl (by rw [hdd]; decide)), List.append_nil])
   clear hd hdd
   go_wp2_with fail
   refine (rof_short a 0 0 _ (by omega)).mono ?_
   rintro e w3 ⟨rfl, g3⟩
   have G3 := hG.trans g3 (by simp)
   have own3 := own_chg hown g3
   clear hG g3 hown
   unfold Rc.cells rc0
   go_wp2_with fail
   go_quiet (fail)
   go_wp2
   go_ret
   refine ⟨_, rfl, ?_, (G3.alloc _).drewN _⟩
   rw [unhide e1, unhide HK]
   exact own3.alloc _
  ·go_wp2_with fail
   refine (rof_any _ (n - j) (cap - j) (fun i => f (i + j)) _ (by omega) ((unhide HB).dropA.chg hG)).mono ?_
   rintro e w3 ⟨rfl, g3⟩
   have G3 := hG.trans g3 (by simp)
   have own3 := own_chg hown g3
   have R3 := hRv.chg g3
   clear hG g3 hown hRv
   by_cases hc : (dec (n - j) (fun i => f (i + j))).2 = 0
   ·obtain ⟨h9, -, hck, hD⟩ := dec_ok hc
    have hep := (ckR_bd hck).1
    have HD := hide hD
    clear hD hc hck
    rw [unhide HD]
    simp only
    generalize rdR (fun i => f (i + j)) = r at *
    have X := Blk.new w3 r.cells 110
    have ownW := own3.alloc (.cells r.cells 110)
    have GW := G3.alloc (.cells r.cells 110)
    have RW := R3.chg ((Chg.refl [] w3).alloc (.cells r.cells 110))
    have zlt := own3.lt
    have HZ := hide zlt
    clear own3 G3 R3 zlt
    unfold Rc.cells
    go_wp2_with fail
    have eW : (w3.alloc (.cells #[.int .i64 r.ep, .int .i64 r.o.k, .int .i64 r.o.now, .int .i64 r.o.jb, .int .i64 r.o.tr, .int .i64 r.o.wk, .int .i64 r.o.tm] 110)) = w3.alloc (.cells r.cells 110) := rfl
    rw [eW]
    clear eW
    have zW : w3.heap.size < (w3.alloc (.cells r.cells 110)).heap.size := X.lt
    obtain ⟨W, hW⟩ : ∃ W : World, W = w3.alloc (.cells r.cells 110) := ⟨_, rfl⟩
    rw [← hW] at X ownW GW RW zW ⊢
    clear hW
    obtain ⟨x0, x1, x2, x3, x4, x5, x6⟩ := X.seven
    have HX := hide X
    clear X
    rcases k with _ | m
    ·have e2 : Hid (rs = []) := hide (List.eq_nil_of_length_eq_zero (unhide HK))
     have hj0 : j = 0 * 9 := unhide HJ
     go_quiet (fail)
     have ownV : (W.drewN nq).ownsRow w.heap.size 110 7 (.slice av 0 cv) 0 (cellsR rs) := ownW
     have GV := GW.drewN nq
     obtain ⟨y0, y1, y2, y3, y4, y5, y6⟩ := (show Blk (W.drewN nq) w3.heap.size r.cells 110 from unhide HX).seven
     have zV := GV.size
     clear ownW GW x0 x1 x2 x3 x4 x5 x6 RW
     generalize W.drewN nq = V at *
     go_wp2_with (at_builtin; refine wpList_append_own _ rfl (.tmp 36) (.tmp 38) 146 rfl w.heap.size 110 i0 _ 7 56 Tryz.underlying146 hi hz0 hz1 hz2 rfl (by decide) (.slice av 0 cv) 0 (cellsR rs) rfl (ownV.alloc _) ⟨V.heap.size, 0, none⟩ 1 1 r.list rfl rfl (Blk.new _ r.cells _).news (by simp [Rc.list, Value.oneCell']) (by unfold maxLen; omega) (by omega) (by simp; omega) ?_; intro v' w4 own4 gr4 _; have G4 := (GV.alloc _).grown gr4 (fun q hq => .inr (ownV.lt q hq).1); clear ownV gr4 GV y0 y1 y2 y3 y4 y5 y6)
     go_roundw
     case rel =>
      refine ⟨0 + 1, fu, rs ++ [r], by simp [unhide HK], by omega, by omega, ?_, ?_, by rw [cellsR_snoc]; exact own4, G4⟩
      ·exact congrArg (Value.int .i64) (by omega)
      ·rw [lastE_snoc, unhide HALL, unhide hd, if_neg (by rw [unhide HD]; simp; rw [unhide e2]; simp only [lastE]; omega), unhide HD]
       simp only [List.append_assoc, List.cons_append, List.nil_append]
       rw [show n - (0 + 1) * 9 = n - j - 9 by omega, show (fun i => f (i + (0 + 1) * 9)) = (fun i => f (i + 9 + j)) from funext fun i => congrArg f (by omega)]
     case measure => go_light; simp [intOf]; omega
    ·rcases RW with h0 | ⟨bi, oi, rfl, hbi, hRi⟩
     ·omega
     have ce := (hRi m (by omega)).1
     rw [← lastE_at rs 0 m (unhide HK)] at ce
     clear hRi
     have hjm : j = (m + 1) * 9 := unhide HJ
     have hwm : IntKind.i64.wrap (m : Int) = m := by simp [IntKind.wrap, IntKind.bits, IntKind.signed]; omega
     have hm0 : (0 : Int) < (m : Int) + 1 := by omega
     by_cases hlt : r.ep < lastE 0 rs
     ·go_quiet (fail)
      go_wp2
      go_ret
      have e1 : allR n f = rs := by
       rw [unhide HALL, unhide hd, if_pos (.inr (by rw [unhide HD]; exact hlt)), List.append_nil]
      refine ⟨_, rfl, ?_, GW.drewN _⟩
      rw [e1, unhide HK]
      exact ownW
     ·have hle : lastE 0 rs ≤ r.ep := by omega
      go_quiet (fail)
      have ownV : (W.drewN nq).ownsRow w.heap.size 110 7 (.slice (some ⟨bi, oi, none⟩) (m + 1) cv) (m + 1) (cellsR rs) := ownW
      have GV := GW.drewN nq
      obtain ⟨y0, y1, y2, y3, y4, y5, y6⟩ := (show Blk (W.drewN nq) w3.heap.size r.cells 110 from unhide HX).seven
      have zV := GV.size
      clear ownW GW x0 x1 x2 x3 x4 x5 x6 ce
      generalize W.drewN nq = V at *
      go_wp2_with (at_builtin; refine wpList_append_own _ rfl (.tmp 36) (.tmp 38) 146 rfl w.heap.size 110 i0 _ 7 56 Tryz.underlying146 hi hz0 hz1 hz2 rfl (by decide) (.slice (some ⟨bi, oi, none⟩) (m + 1) cv) (m + 1) (cellsR rs) rfl (ownV.alloc _) ⟨V.heap.size, 0, none⟩ 1 1 r.list rfl rfl (Blk.new _ r.cells _).news (by simp [Rc.list, Value.oneCell']) (by unfold maxLen; omega) (by omega) (by simp; omega) ?_; intro v' w4 own4 gr4 _; have G4 := (GV.alloc _).grown gr4 (fun q hq => .inr (ownV.lt q hq).1); clear ownV gr4 GV y0 y1 y2 y3 y4 y5 y6)
      go_roundw
      case rel =>
       refine ⟨(m + 1) + 1, fu, rs ++ [r], by simp [unhide HK], by omega, by omega, ?_, ?_, by rw [cellsR_snoc]; exact own4, G4⟩
       ·exact congrArg (Value.int .i64) (by omega)
       ·rw [lastE_snoc, unhide HALL, unhide hd, if_neg (by rw [unhide HD]; simp; omega), unhide HD]
        simp only [List.append_assoc, List.cons_append, List.nil_append]
        rw [show n - ((m + 1) + 1) * 9 = n - j - 9 by omega, show (fun i => f (i + ((m + 1) + 1) * 9)) = (fun i => f (i + 9 + j)) from funext fun i => congrArg f (by omega)]
      case measure => go_light; simp [intOf]; omega
   ·have hcb : ((dec (n - j) (fun i => f (i + j))).2 == 0) = false := by simpa using hc
    have hcn : ((dec (n - j) (fun i => f (i + j))).2 != 0) = true := by simpa using hc
    have e1 : Hid (allR n f = rs) := hide (by
     rw [unhide HALL, unhide hd, if_pos (.inl hc), List.append_nil])
    clear hd
    generalize (dec (n - j) (fun i => f (i + j))).1 = r at *
    generalize (dec (n - j) (fun i => f (i + j))).2 = q at *
    unfold Rc.cells
    go_wp2_with fail
    go_quiet (fail)
    go_wp2
    go_ret
    refine ⟨_, rfl, ?_, (G3.alloc _).drewN _⟩
    rw [unhide e1, unhide HK]
    exact own3.alloc _
end Go.Proofs.YtllnjiljjodfdacGreatDoor
