/-
  What the document's own RecordFault, sum and BytesOf do. Nothing here is claimed by itself.
-/
import Derived.Test.YtllnjiljjodfdacGreatDoorMgC6a
import Derived.Test.YtllnjiljjodfdacGreatDoorMgR0
namespace Go.Proofs.YtllnjiljjodfdacGreatDoor
open Go.RowKit

theorem rf_any (r : Rc) (w : World) :
    Calls Tryz.prog 120 #[.agg r.cells] w fun e w' => e = .returned (.int .i64 (ckR r)) ∧ Chg [] w w' := by
  obtain ⟨ep, ⟨k, now, jb, tr, wk, tm⟩⟩ := r
  unfold Rc.cells
  by_cases h1 : ep < 1
  · have hc : ckR ⟨ep, ⟨k, now, jb, tr, wk, tm⟩⟩ = 3 := by simp [ckR, h1]
    have HC := hide hc
    clear hc
    go_enter Tryz.func120, Tryz.ntmps120
    go_wp2_with fail
    go_ret
    exact ⟨by rw [unhide HC]; rfl, (Chg.refl _ _).alloc _⟩
  · by_cases h2 : 100 < ep
    · have hc : ckR ⟨ep, ⟨k, now, jb, tr, wk, tm⟩⟩ = 3 := by simp [ckR, h2]
      have HC := hide hc
      clear hc
      go_enter Tryz.func120, Tryz.ntmps120
      go_wp2_with fail
      go_ret
      exact ⟨by rw [unhide HC]; rfl, (Chg.refl _ _).alloc _⟩
    · have hc : ckR ⟨ep, ⟨k, now, jb, tr, wk, tm⟩⟩ = chk ⟨k, now, jb, tr, wk, tm⟩ := by simp [ckR, h1, h2]
      have HC := hide hc
      clear hc
      go_enter Tryz.func120, Tryz.ntmps120
      go_wp2_with fail
      refine (fault_any ⟨k, now, jb, tr, wk, tm⟩ _).mono ?_
      rintro e w1 ⟨rfl, g1⟩
      go_wp2
      go_ret
      exact ⟨by rw [unhide HC]; rfl, ((Chg.refl _ _).alloc _).trans g1 (by simp)⟩

theorem rsum_any (a : Option Addr) (cap : Nat) (f : Nat → Int) (w : World) (h : Byt w a 8 f) :
    Calls Tryz.prog 119 #[.slice a 8 cap] w fun e w' => e = .returned (.int .u8 (sm f 8 % 251)) ∧ w' = w := by
  obtain ⟨hf, h | ⟨b, off, rfl, hb, hc⟩⟩ := h
  · omega
  have HF := hide hf
  have HC := hide hc
  clear hf hc
  go_enter Tryz.func119, Tryz.ntmps119
  go_wp2
  go_loop [3, 4] (fun n i => ∃ k : Nat, k ≤ 8 ∧ i = .int .i64 k ∧ n = .int .i64 (sm f k)) (fun _ i => 8 - (intOf i).toNat)
  case atStart => exact ⟨0, by omega, rfl, rfl⟩
  case round =>
    obtain ⟨k, hk, rfl, rfl⟩ := hrel
    obtain ⟨s0, s1⟩ := sm_bd f (unhide HF) k hk
    by_cases hlt : k < 8
    · obtain ⟨f0, f1⟩ := unhide HF k hlt
      obtain ⟨m0, m1⟩ := sm_step f hlt f0 f1
      rw [Int.mul_comm] at m0 m1
      have hs : sm f (k + 1) = sm f k + ((k : Int) + 1) * f k := by rw [Int.mul_comm]; rfl
      have HS := hide hs
      clear hs
      have c0 := unhide HC k hlt
      go_wp2
      go_round
      case rel => exact ⟨k + 1, by omega, by go_num, by rw [unhide HS]⟩
      case measure => simp [intOf]; omega
    · obtain rfl : k = 8 := by omega
      go_wp2
      go_ret
      exact ⟨rfl, rfl⟩

def intL (r : Rc) : Array Value := #[.int .i64 (by8 r 0), .int .i64 (by8 r 1), .int .i64 (by8 r 2), .int .i64 (by8 r 3), .int .i64 (by8 r 4), .int .i64 (by8 r 5), .int .i64 (by8 r 6), .int .i64 (by8 r 7)]
theorem intL_cell {w : World} {b : Nat} {r : Rc} {t : TypeId} (h : Blk w b (intL r) t) (i : Nat) (hi : i < 8) : w.cell? ⟨b, i, none⟩ = some (.int .i64 (by8 r i)) := by
  rw [h.cell]
  obtain rfl | rfl | rfl | rfl | rfl | rfl | rfl | rfl : i = 0 ∨ i = 1 ∨ i = 2 ∨ i = 3 ∨ i = 4 ∨ i = 5 ∨ i = 6 ∨ i = 7 := by omega
  all_goals rfl
theorem bytL_succ (n : Nat) (f : Nat → Int) : bytL (n + 1) f = bytL n f ++ [.int .u8 (f n)] := by simp [bytL, List.range_succ]
theorem bytL_nine (r : Rc) : bytL 8 (by8 r) ++ [.int .u8 (sm (by8 r) 8 % 251)] = nine r := by rfl

set_option maxRecDepth 100000 in
set_option maxHeartbeats 4000000 in
theorem bytesof_any (r : Rc) (w : World) (h : ckR r = 0) :
    Calls Tryz.prog 95 #[.agg r.cells] w fun e w' => ∃ g c, e = .returned (.slice (some ⟨g, 0, none⟩) 9 c) ∧ (w.heap.size ≤ g ∧ 9 ≤ c) ∧ Byt w' (some ⟨g, 0, none⟩) 9 (by9 r) ∧ Chg [] w w' := by
  obtain ⟨⟨p0, p1⟩, ho⟩ := ckR_bd h
  obtain ⟨⟨k0, k1⟩, ⟨n0, n1⟩, ⟨j0, j1⟩, ⟨t0, t1⟩, ⟨v0, v1⟩, m0, m1⟩ := chk_bd ho
  obtain ⟨i0, hi, hz0, hz1, hz2⟩ := info_parts u8Info
  clear ho
  have HH := hide h
  clear h
  unfold Rc.cells
  go_enter Tryz.func95, Tryz.ntmps95
  go_wp2_with fail
  have GI : Chg [] w (((w.alloc (.cells r.cells 110)).alloc (.cells #[.int .i64 r.o.k, .int .i64 r.o.now, .int .i64 r.o.jb, .int .i64 r.o.tr, .int .i64 r.o.wk, .int .i64 r.o.tm] 83)).alloc (.cells (intL r) 3)) := (((Chg.refl _ _).alloc _).alloc _).alloc _
  have BI : Blk (((w.alloc (.cells r.cells 110)).alloc (.cells #[.int .i64 r.o.k, .int .i64 r.o.now, .int .i64 r.o.jb, .int .i64 r.o.tr, .int .i64 r.o.wk, .int .i64 r.o.tm] 83)).alloc (.cells (intL r) 3)) (w.heap.size + 2) (intL r) 3 := by
    have := Blk.new ((w.alloc (.cells r.cells 110)).alloc (.cells #[.int .i64 r.o.k, .int .i64 r.o.now, .int .i64 r.o.jb, .int .i64 r.o.tr, .int .i64 r.o.wk, .int .i64 r.o.tm] 83)) (intL r) 3
    simpa only [World.size_alloc] using this
  go_loopw [5, 6] (fun v i wr => ∃ k : Nat, k ≤ 8 ∧ i = .int .i64 k ∧ wr.ownsRow (w.heap.size + 3) 5 1 v k (bytL k (by8 r)) ∧ Blk wr (w.heap.size + 2) (intL r) 3 ∧ Chg [] w wr) (fun _ i _ => 8 - (intOf i).toNat)
  case atStart => exact ⟨0, by omega, rfl, World.ownsRow_nil _ _ _ _, BI, GI⟩
  case round =>
    obtain ⟨k, hk, rfl, own, hB, hG⟩ := hrel
    clear BI GI
    have zB := hB.lt
    by_cases hlt : k < 8
    · have c0 := intL_cell hB k hlt
      obtain ⟨y0, y1⟩ := by8_bd (unhide HH) k hlt
      have hki : (k : Int) < 8 := by omega
      have HB := hide hB
      clear hB
      obtain ⟨y, hy⟩ : ∃ y, y = by8 r k := ⟨_, rfl⟩
      rw [← hy] at c0 y0 y1
      have HY := hide hy
      clear hy
      go_wp2_with (at_builtin; refine wpList_append_own _ rfl (.tmp 34) (.tmp 40) 42 rfl (w.heap.size + 3) 5 i0 (.int .u8 0) 1 1 Tryz.underlying42 hi hz0 hz1 hz2 rfl (by decide) _ k (bytL k (by8 r)) rfl (own.alloc _) ⟨wr.heap.size, 0, none⟩ 1 1 [.int .u8 y] rfl rfl (Blk.new _ _ _).news (by simp [Value.oneCell']) (by unfold maxLen; omega) (by omega) (by simp; omega) ?_; intro v' w4 own4 gr4 _; have G4 := (hG.alloc _).grown gr4 (fun j hj => .inr (by have := (own.lt j hj).1; omega)); have B4 : Blk w4 (w.heap.size + 2) (intL r) 3 := ((gr4.block _ (by simp; omega) (fun e => by have := (own.lt _ e.symm).1; omega)).trans ((unhide HB).alloc _)); clear own gr4 hG HB c0)
      go_roundw
      case rel => exact ⟨k + 1, by omega, by go_num, by rw [bytL_succ, ← unhide HY]; exact own4, B4, G4⟩
      case measure => go_light; simp [intOf]; omega
    · obtain rfl : k = 8 := by omega
      obtain ⟨g, c, rfl, hc, hg, -⟩ := own_shape own (by omega)
      have Y := own_byt own (by8_bd (unhide HH)) (bytL_at 8 (by8 r))
      clear hB
      go_wp2_with (first
        | (go_at_call 119; refine (rsum_any _ _ (by8 r) _ Y).mono ?_; rintro e w5 ⟨rfl, rfl⟩)
        | (at_builtin; refine wpList_append_own _ rfl (.tmp 42) (.tmp 45) 42 rfl (w.heap.size + 3) 5 i0 (.int .u8 0) 1 1 Tryz.underlying42 hi hz0 hz1 hz2 rfl (by decide) (.slice (some ⟨g, 0, none⟩) 8 c) 8 (bytL 8 (by8 r)) rfl (own.alloc _) ⟨_, 0, none⟩ 1 1 [.int .u8 (sm (by8 r) 8 % 251)] rfl rfl (Blk.new _ _ _).news (by simp [Value.oneCell']) (by unfold maxLen; omega) (by omega) (by simp; omega) ?_; intro v' w6 own6 gr6 _))
      obtain ⟨g6, c6, rfl, hc6, hg6, -⟩ := own_shape own6 (by omega)
      have G6 := (hG.alloc _).grown gr6 (fun j hj => .inr (by have := (own.lt j hj).1; omega))
      rw [bytL_nine] at own6
      go_ret
      exact ⟨g6, c6, rfl, ⟨by omega, by omega⟩, own_byt own6 (fun i _ => by9_bd (unhide HH) i) (nine_at r), G6⟩

end Go.Proofs.YtllnjiljjodfdacGreatDoor

