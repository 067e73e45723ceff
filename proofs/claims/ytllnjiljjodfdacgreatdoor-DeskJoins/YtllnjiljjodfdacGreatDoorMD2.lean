/-
  What the document's own RecordOf does. Nothing here is claimed by itself.
-/
import Derived.StillTailTactics
import Derived.Test.YtllnjiljjodfdacGreatDoorMD1
namespace Go.Proofs.YtllnjiljjodfdacGreatDoor
open Go.RowKit

set_option maxRecDepth 100000 in
theorem rof_short (a : Option Addr) (n cap : Nat) (w : World) (hn : n < 9) :
    Calls Tryz.prog 97 #[.slice a n cap] w fun e w' => e = .returned (.tuple #[.agg rc0.cells, .int .i64 7]) ∧ Chg [] w w' := by
  have hd : (n : Int) < 9 := by omega
  have A := hide (Blk.new w rc0.cells 110)
  go_enter Tryz.func97, Tryz.ntmps97
  go_wp2_with (refine wpList_store_rec rfl _ _ rfl w.heap.size rfl rc0 rfl 110 rc0 (unhide A) ?_; intro w2 B2 g2 _)
  exact bodyPost_ret (ret_rec_code Tryz.results97 rfl rfl B2) rfl ⟨rfl, ((Chg.refl [] w).alloc _).trans g2 (by simp)⟩

theorem ordInfoD : (Tryz.prog.info? 83).map (·.size) = some 6 := by kernel_rfl
def ordL (o : Od) : Array Value := #[.int .i64 o.k, .int .i64 o.now, .int .i64 o.jb, .int .i64 o.tr, .int .i64 o.wk, .int .i64 o.tm]
/-- An order is written into a record, as a law of the walk. -/
theorem wpList_store_ord {ops : Array Oper} {rest : List Oper} {op : Oper} {a : Act} {w : World} {Q : Exit → Act → World → Prop}
    (hgd : op.guard = none) (x y : Operand) (ho : op.op = .store 83 x y) (b : Nat) (hx : a.eval x = .pointer (some ⟨b, 1, none⟩)) (o : Od) (hy : a.eval y = .agg (ordL o)) (ty' : TypeId) (r : Rc) (h : Blk w b r.cells ty')
    (k : ∀ w', Blk w' b (Rc.cells ⟨r.ep, o⟩) ty' → Chg [b] w w' → w'.heap.size = w.heap.size → wpList Tryz.prog ops Q rest (a.put op.dst undef) w') : wpList Tryz.prog ops Q (op :: rest) a w := by
  refine wpList_store_mid hgd 83 x y ho b 1 (ordL o) hx hy (fun j hj => ⟨?_, ?_⟩) (by rw [ordInfoD]; rfl) (by simp [ordL, Value.oneCell']) (k _ ?_ ((Chg.refl _ _).setAll (by simp) _ _) (setCells_others b _ 1 w).2.2.2.1)
  · rw [h.cell]
    have hj' : j < 6 := hj
    have : 1 + j < r.cells.size := by rw [Rc.size_cells]; omega
    simp [this]
  · rw [h.fz]
  · obtain ⟨c', h1, h2, h3⟩ := setCells_raw b ty' (ordL o).toList 1 w r.cells h
    have : c' = Rc.cells ⟨r.ep, o⟩ := by
      apply Array.ext_getElem?
      intro i
      rw [h3 i]
      by_cases hi : i < 7
      · obtain rfl | rfl | rfl | rfl | rfl | rfl | rfl : i = 0 ∨ i = 1 ∨ i = 2 ∨ i = 3 ∨ i = 4 ∨ i = 5 ∨ i = 6 := by omega
        all_goals rfl
      · rw [if_neg (by rw [Rc.size_cells]; omega), Array.getElem?_eq_none (by rw [Rc.size_cells]; omega), Array.getElem?_eq_none (by rw [Rc.size_cells]; omega)]
    rw [← this]
    exact h1
set_option maxRecDepth 100000 in
set_option maxHeartbeats 4000000 in
theorem rof_long (a : Option Addr) (n cap : Nat) (f : Nat → Int) (w : World) (hn : 9 ≤ n) (hcap : n ≤ cap) (h : Byt w a n f) :
    Calls Tryz.prog 97 #[.slice a n cap] w fun e w' => e = .returned (.tuple #[.agg (dec n f).1.cells, .int .i64 (dec n f).2]) ∧ Chg [] w w' := by
  have hB := h
  obtain ⟨hf, h | ⟨b, off, rfl, hb, hc⟩⟩ := h
  · omega
  have h8 : Byt w (some ⟨b, off, none⟩) 8 f := ⟨fun i hi => hf i (by omega), .inr ⟨b, off, rfl, hb, fun i hi => hc i (by omega)⟩⟩
  have c8 := hc 8 (by omega)
  have b8 := hf 8 (by omega)
  have n9 : (9 : Int) ≤ n := by omega
  have nn : ¬ (n : Int) < 9 := by omega
  have n8 : (8 : Int) < n := by omega
  have n8' : (8 : Int) ≤ n := by omega
  have k8 : (8 : Int) ≤ cap := by omega
  clear hc hf
  have A := hide (Blk.new w rc0.cells 110)
  go_enter Tryz.func97, Tryz.ntmps97
  go_wp2_with fail
  have A' := Blk.new w rc0.cells 110
  have G : Chg [] w (w.alloc (.cells rc0.cells 110)) := (Chg.refl [] w).alloc _
  rw [← G.cell' (p := ⟨b, off + 8, none⟩) hb (by simp)] at c8
  have h8' := h8.chg G
  have hB' := hB.chg G
  have zW : w.heap.size < (w.alloc (.cells rc0.cells 110)).heap.size := A'.lt
  clear A h8 hB
  obtain ⟨W, hW⟩ : ∃ W : World, W = w.alloc (.cells rc0.cells 110) := ⟨_, rfl⟩
  rw [← hW] at c8 h8' hB' G A' zW
  have eW : (w.alloc (.cells #[.int .i64 0, .int .i64 0, .int .i64 0, .int .i64 0, .int .i64 0, .int .i64 0, .int .i64 0] 110)) = W := hW.symm
  rw [eW]
  clear eW hW
  have HA := hide A'
  have HG := hide G
  have HB := hide hB'
  clear A' G hB'
  go_quiet ((go_at_call 119; exact Calls.quiet_of_same (rsum_any _ _ _ _ h8')))
  have A2 : Blk (W.drewN nq) w.heap.size rc0.cells 110 := unhide HA
  have G2 : Chg [] w (W.drewN nq) := (unhide HG).drewN nq
  have B2 : Byt (W.drewN nq) (some ⟨b, off, none⟩) n f := unhide HB
  have z2 : w.heap.size < (W.drewN nq).heap.size := zW
  clear HA HG HB zW c8 h8'
  generalize W.drewN nq = V at *
  by_cases hs : sm f 8 % 251 = f 8
  · have hne : (sm f 8 % 251 != f 8) = false := by simpa using hs
    rw [hne]
    have HS := hide hs.symm
    clear hs hne
    obtain ⟨hf, h0 | ⟨b', off', e', hb', hc⟩⟩ := B2
    · omega
    simp at e'
    obtain ⟨rfl, rfl⟩ := e'
    have c0 : V.cell? ⟨b, off, none⟩ = some (.int .u8 (f 0)) := hc 0 (by omega)
    have c1 := hc 1 (by omega)
    have c2 := hc 2 (by omega)
    have c3 := hc 3 (by omega)
    have c4 := hc 4 (by omega)
    have c5 := hc 5 (by omega)
    have c6 := hc 6 (by omega)
    have c7 := hc 7 (by omega)
    obtain ⟨l0, u0⟩ := hf 0 (by omega)
    obtain ⟨l1, u1⟩ := hf 1 (by omega)
    obtain ⟨l2, u2⟩ := hf 2 (by omega)
    obtain ⟨l3, u3⟩ := hf 3 (by omega)
    obtain ⟨l4, u4⟩ := hf 4 (by omega)
    obtain ⟨l5, u5⟩ := hf 5 (by omega)
    obtain ⟨l6, u6⟩ := hf 6 (by omega)
    obtain ⟨l7, u7⟩ := hf 7 (by omega)
    have n0 : 0 < n := by omega
    have n1 : (1 : Int) < n := by omega
    have n2 : (2 : Int) < n := by omega
    have n3 : (3 : Int) < n := by omega
    have n4 : (4 : Int) < n := by omega
    have n5 : (5 : Int) < n := by omega
    have n6 : (6 : Int) < n := by omega
    have n7 : (7 : Int) < n := by omega
    clear hc hf b8
    have hdk : Hid (dec n f = if ckR ⟨f 0, ⟨f 1, f 2 * 256 + f 3, f 4, f 5, f 6, f 7⟩⟩ ≠ 0 then (rc0, ckR ⟨f 0, ⟨f 1, f 2 * 256 + f 3, f 4, f 5, f 6, f 7⟩⟩) else (⟨f 0, ⟨f 1, f 2 * 256 + f 3, f 4, f 5, f 6, f 7⟩⟩, 0)) := hide (by
      unfold dec
      rw [if_neg (by omega), if_neg (by simpa using unhide HS)]
      rfl)
    clear HS
    obtain ⟨D, hDD⟩ : ∃ D, D = dec n f := ⟨_, rfl⟩
    rw [← hDD] at hdk
    have HDD := hide hDD
    clear hDD
    generalize f 0 = f0 at *
    generalize f 1 = f1 at *
    generalize f 2 = f2 at *
    generalize f 3 = f3 at *
    generalize f 4 = f4 at *
    generalize f 5 = f5 at *
    generalize f 6 = f6 at *
    generalize f 7 = f7 at *
    go_wp2_with fail
    have GU := G2.alloc (.cells (Rc.cells ⟨f0, ⟨0, 0, 0, 0, 0, 0⟩⟩) 110)
    have AU := A2.alloc (.cells (Rc.cells ⟨f0, ⟨0, 0, 0, 0, 0, 0⟩⟩) 110)
    have RU := Blk.new V (Rc.cells ⟨f0, ⟨0, 0, 0, 0, 0, 0⟩⟩) 110
    have GV := (Chg.refl [] V).alloc (.cells (Rc.cells ⟨f0, ⟨0, 0, 0, 0, 0, 0⟩⟩) 110)
    rw [← GV.cell' (p := ⟨b, off + 1, none⟩) hb' (by simp)] at c1
    rw [← GV.cell' (p := ⟨b, off + 2, none⟩) hb' (by simp)] at c2
    rw [← GV.cell' (p := ⟨b, off + 3, none⟩) hb' (by simp)] at c3
    rw [← GV.cell' (p := ⟨b, off + 4, none⟩) hb' (by simp)] at c4
    rw [← GV.cell' (p := ⟨b, off + 5, none⟩) hb' (by simp)] at c5
    rw [← GV.cell' (p := ⟨b, off + 6, none⟩) hb' (by simp)] at c6
    rw [← GV.cell' (p := ⟨b, off + 7, none⟩) hb' (by simp)] at c7
    obtain ⟨U, hU⟩ : ∃ U : World, U = V.alloc (.cells (Rc.cells ⟨f0, ⟨0, 0, 0, 0, 0, 0⟩⟩) 110) := ⟨_, rfl⟩
    rw [← hU] at GU AU RU c1 c2 c3 c4 c5 c6 c7
    have eU : (V.alloc (.cells #[.int .i64 f0, .int .i64 0, .int .i64 0, .int .i64 0, .int .i64 0, .int .i64 0, .int .i64 0] 110)) = U := hU.symm
    rw [eU]
    clear eU hU GV c0 G2 A2
    refine wp_region_still_tail 32 (by kernel_rfl) (by kernel_rfl) ?_
    simp only [List.take_succ_cons, List.take_zero, List.drop_succ_cons, List.drop_zero]
    obtain ⟨X, hX⟩ : ∃ X : World, X = { U with drawn := U.drawn + 1 } := ⟨_, rfl⟩
    rw [← hX]
    have GX : Chg [] w X := by rw [hX]; exact GU.drew
    have AX := hide (show Blk X w.heap.size rc0.cells 110 by rw [hX]; exact AU)
    have RX := hide (show Blk X V.heap.size (Rc.cells ⟨f0, ⟨0, 0, 0, 0, 0, 0⟩⟩) 110 by rw [hX]; exact RU)
    have d1 : X.cell? ⟨b, off + 1, none⟩ = some (.int .u8 f1) := by rw [hX]; exact c1
    have d2 : X.cell? ⟨b, off + 2, none⟩ = some (.int .u8 f2) := by rw [hX]; exact c2
    have d3 : X.cell? ⟨b, off + 3, none⟩ = some (.int .u8 f3) := by rw [hX]; exact c3
    have d4 : X.cell? ⟨b, off + 4, none⟩ = some (.int .u8 f4) := by rw [hX]; exact c4
    have d5 : X.cell? ⟨b, off + 5, none⟩ = some (.int .u8 f5) := by rw [hX]; exact c5
    have d6 : X.cell? ⟨b, off + 6, none⟩ = some (.int .u8 f6) := by rw [hX]; exact c6
    have d7 : X.cell? ⟨b, off + 7, none⟩ = some (.int .u8 f7) := by rw [hX]; exact c7
    clear hX GU AU RU c1 c2 c3 c4 c5 c6 c7
    have x1 : IntKind.i64.wrap f1 = f1 := wrap_byte l1 u1
    have x2 : IntKind.i64.wrap f2 = f2 := wrap_byte l2 u2
    have x3 : IntKind.i64.wrap f3 = f3 := wrap_byte l3 u3
    have x4 : IntKind.i64.wrap f4 = f4 := wrap_byte l4 u4
    have x5 : IntKind.i64.wrap f5 = f5 := wrap_byte l5 u5
    have x6 : IntKind.i64.wrap f6 = f6 := wrap_byte l6 u6
    have x7 : IntKind.i64.wrap f7 = f7 := wrap_byte l7 u7
    have y1 : IntKind.i64.wrap (256 * f2) = f2 * 256 := by simp [IntKind.wrap, IntKind.bits, IntKind.signed]; omega
    have y2 : IntKind.i64.wrap (f2 * 256 + f3) = f2 * 256 + f3 := by simp [IntKind.wrap, IntKind.bits, IntKind.signed]; omega
    repeat still_step
    refine wpStill_nil ?_
    refine wpList_store_ord rfl _ _ rfl V.heap.size rfl ⟨f1, f2 * 256 + f3, f4, f5, f6, f7⟩ rfl 110 ⟨f0, ⟨0, 0, 0, 0, 0, 0⟩⟩ (unhide RX) ?_
    intro w3 R3 g3 _
    simp only at R3
    have A3 := (unhide AX).chg g3 (by simp; omega)
    have G3 := GX.trans g3 (by simp; omega)
    clear AX RX GX g3 d1 d2 d3 d4 d5 d6 d7 x1 x2 x3 x4 x5 x6 x7 y1 y2
    obtain ⟨r, hr⟩ : ∃ r : Rc, r = ⟨f0, ⟨f1, f2 * 256 + f3, f4, f5, f6, f7⟩⟩ := ⟨_, rfl⟩
    rw [← hr] at R3 hdk
    clear hr
    obtain ⟨a0, a1, a2, a3, a4, a5, a6⟩ := R3.seven
    have HR3 := hide R3
    have HA3 := hide A3
    clear R3 A3
    go_wp2_with fail
    refine (rf_any r _).mono ?_
    rintro e w5 ⟨rfl, g5⟩
    have A5 := hide ((unhide HA3).chg g5 (by simp))
    have G5 := hide (G3.trans g5 (by simp))
    obtain ⟨e0, e1, e2, e3, e4, e5, e6⟩ := ((unhide HR3).chg g5 (by simp)).seven
    clear a0 a1 a2 a3 a4 a5 a6 HA3 HR3 g5 G3
    by_cases hc : ckR r = 0
    · have hd : Hid (D = (r, 0)) := hide (by rw [unhide hdk, if_neg (by simpa using hc)])
      rw [hc]
      clear hc hdk
      go_wp2_with (refine wpList_store_rec rfl _ _ rfl w.heap.size rfl r rfl 110 rc0 (unhide A5) ?_; intro w6 B6 g6 _)
      refine bodyPost_ret (ret_rec_code Tryz.results97 rfl rfl B6) rfl ⟨by rw [← unhide HDD, unhide hd]; rfl, (unhide G5).trans g6 (by simp)⟩
    · have hd : Hid (D = (rc0, ckR r)) := hide (by rw [unhide hdk, if_pos hc])
      have hcb : (ckR r == 0) = false := by simpa using hc
      clear hdk
      go_wp2_with (refine wpList_store_rec rfl _ _ rfl w.heap.size rfl rc0 rfl 110 rc0 (unhide A5) ?_; intro w6 B6 g6 _)
      refine bodyPost_ret (ret_rec_code Tryz.results97 rfl rfl B6) rfl ⟨by rw [← unhide HDD, unhide hd]; rfl, (unhide G5).trans g6 (by simp)⟩
  · have hne : (sm f 8 % 251 != f 8) = true := by simpa using hs
    have hd : Hid (dec n f = (rc0, 2)) := hide (by
      unfold dec
      rw [if_neg (by omega), if_pos (fun e => hs e.symm)])
    rw [hne]
    clear hne hs
    go_wp2_with (refine wpList_store_rec rfl _ _ rfl w.heap.size rfl rc0 rfl 110 rc0 A2 ?_; intro w6 B6 g6 _)
    refine bodyPost_ret (ret_rec_code Tryz.results97 rfl rfl B6) rfl ⟨by rw [unhide hd]; rfl, G2.trans g6 (by simp)⟩

theorem rof_any (a : Option Addr) (n cap : Nat) (f : Nat → Int) (w : World) (hcap : n ≤ cap) (h : Byt w a n f) :
    Calls Tryz.prog 97 #[.slice a n cap] w fun e w' => e = .returned (.tuple #[.agg (dec n f).1.cells, .int .i64 (dec n f).2]) ∧ Chg [] w w' := by
  by_cases hn : n < 9
  · have : dec n f = (rc0, 7) := by unfold dec; rw [if_pos hn]
    rw [this]
    exact rof_short a n cap w hn
  · exact rof_long a n cap f w (by omega) hcap h

end Go.Proofs.YtllnjiljjodfdacGreatDoor

