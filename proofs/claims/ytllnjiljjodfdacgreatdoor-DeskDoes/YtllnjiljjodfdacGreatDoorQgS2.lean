/-
 Who had a job, by events: the story's Holders. Nothing here is claimed by itself.
-/
import Derived.Test.YtllnjiljjodfdacGreatDoorQgSP
namespace Go.Proofs.YtllnjiljjodfdacGreatDoor
open Go.RowKit

theorem pairInfo : (Tryz.prog.info? 138).map (fun i => (i.zero, i.size, i.bytes)) = some (some (.agg #[.int .i64 0, .int .i64 0]), 2, 16) := by kernel_rfl
set_option maxRecDepth 100000 in
set_option maxHeartbeats 4000000 in
theorem holders_any (a : Option Addr) (n c : Nat) (l : List Ev) (job : Int) (w : World) (hl : l.length = n) (hn : n ≤ 4000) (h : Evs w a n (atE l)) :
  Calls Tryz.prog 61 #[.slice a n c, .int .i64 job] w fun e w' => ∃ v, e = .returned v ∧ w'.ownsRow w.heap.size 138 2 v (holdL l job).length (cellsP (holdL l job)) ∧ Chg [] w w' := by
 obtain ⟨i0, hi, hz0, hz1, hz2⟩ := kInfoParts pairInfo
 have HH := hide h
 have HL := hide hl
 clear h hl
 go_enter Tryz.func61, Tryz.ntmps61
 go_wp2_with fail
 go_loopw [5, 10] (fun v i wr => ∃ k : Nat, k ≤ n ∧ i = .int .i64 k ∧ wr.ownsRow w.heap.size 138 2 v (holdL (l.take k) job).length (cellsP (holdL (l.take k) job)) ∧ Chg [] w wr) (fun _ i _ => n - (intOf i).toNat)
 case atStart => exact ⟨0, by omega, rfl, World.ownsRow_nil _ _ _ _, Chg.refl _ _⟩
 case round =>
  obtain ⟨k, hk, rfl, hown, hG⟩ := hrel
  by_cases hlt : k < n
  ·have hki : (k : Int) < (n : Int) := by omega
   have hk0 : (0 : Int) ≤ (k : Int) := by omega
   rcases unhide HH with h0 | ⟨bl, off, rfl, hbl, hO⟩
   ·omega
   obtain ⟨p0, p1, p2, p3, p4, p5, p6, p7, p8, p9, p10, p11, p12, p13⟩ := ((hO k hlt).chg hG hbl (by simp)).all
   have hbl' := Nat.lt_of_lt_of_le hbl hG.size
   have HT := hide (holdL_take l job (k := k) (by rw [unhide HL]; exact hlt))
   have hpl : (holdL (l.take k) job).length ≤ 4000 := Nat.le_trans (holdL_len _ _) (by simp; omega)
   clear hO
   generalize atE l k = e at *
   generalize hps : holdL (l.take k) job = ps at *
   have HPS := hide hps
   clear hps
   generalize hm : ps.length = m at *
   have HM := hide hm
   clear hm
   go_wp2_with fail
   refine (gave_any e job _).mono ?_
   rintro x w2 ⟨rfl, g2⟩
   have E2 := (Blk.new wr e.cells 134).chg g2 (by simp)
   have G2 : Chg [] w w2 := (hG.alloc _).trans g2 (by simp)
   have own2 := own_chg (hown.alloc _) g2
   have zz := G2.size
   clear p0 p1 p2 p3 p4 p5 p6 p7 p8 p9 p10 p11 p12 p13 g2 hG hown
   cases hg : gaveB e job
   ·have HN := hide (gave_no hg)
    clear hg E2
    go_wp2
    go_roundw
    case rel => exact ⟨k + 1, by omega, by go_num, by rw [unhide HT, unhide HN]; simp only [Option.toList_none, List.append_nil]; rw [unhide HM]; exact own2, G2⟩
    case measure => go_light; simp [intOf]; omega
   ·have HY := hide (gave_yes hg)
    have q5 : w2.cell? ⟨wr.heap.size, 5, none⟩ = some (.int .i64 e.r.o.wk) := E2.cell 5
    have q9 : w2.cell? ⟨wr.heap.size, 9, none⟩ = some (.int .i64 e.a.tr) := E2.cell 9
    have lE := E2.lt
    clear hg E2
    go_wp2_with (at_builtin; refine wpList_append_own _ rfl (.tmp 17) (.tmp 26) 136 rfl w.heap.size 138 i0 _ 2 16 Tryz.underlying136 hi hz0 hz1 hz2 rfl (by decide) u5 m (cellsP ps) rfl (own2.alloc _) ⟨w2.heap.size, 0, none⟩ 1 1 (pairV (e.r.o.wk, e.a.tr)) rfl rfl (Blk.new w2 #[.int .i64 e.r.o.wk, .int .i64 e.a.tr] _).news (by simp [pairV, Value.oneCell']) (by unfold maxLen; omega) (by omega) (by simp; omega) ?_; intro v' w4 own4 gr4 _; have G4 := (G2.alloc _).grown gr4 (fun j hj => .inr (own2.lt j hj).1); clear own2 gr4)
    go_roundw
    case rel => exact ⟨k + 1, by omega, by go_num, by rw [unhide HT, unhide HY]; simp only [Option.toList_some]; rw [cellsP_snoc, List.length_append, unhide HM]; exact own4, G4⟩
    case measure => go_light; simp [intOf]; omega
  ·have hki : ¬ (k : Int) < (n : Int) := by omega
   have hkn : l.take k = l := by rw [show k = l.length by rw [unhide HL]; omega, List.take_length]
   have HK := hide hkn
   clear hkn
   go_wp2
   go_ret
   rw [unhide HK] at hown
   exact ⟨_, rfl, hown, hG⟩
end Go.Proofs.YtllnjiljjodfdacGreatDoor
