/-
  The walk of the law 'one byte turned is seen'. Nothing here is claimed by itself.
-/
import Derived.Test.YtdppeddiffjamaaC6
import Derived.Test.YtdppeddiffjamaaCTurn0
namespace Go.Proofs.Ytdppeddiffjamaa
open Go.RowKit

set_option maxRecDepth 100000 in
set_option maxHeartbeats 4000000 in
theorem turn_no (r : Rc) (at' x : Int) (w : World) (h : ckR r ≠ 0) :
    Calls Try.prog 12 #[.agg r.cells, .int .i64 at', .int .u8 x] w fun e w' => e = .returned (.bool true) ∧ Chg [] w w' := by
  have hb : (ckR r == 0) = false := by simpa using h
  unfold Rc.cells
  go_enter Try.func12, Try.ntmps12
  go_wp2_with fail
  refine (cbegun_any _).mono ?_
  rintro e w1 ⟨rfl, g1⟩
  obtain ⟨a0, a1, a2, a3, a4, a5, a6⟩ := ((Blk.new w r.cells 48).chg g1 (by simp)).seven
  have G1 : Chg [] w w1 := ((Chg.refl _ _).alloc _).trans g1 (by simp)
  clear g1
  go_wp2_with fail
  refine (enc_no r _ h).mono ?_
  rintro e w2 ⟨rfl, g2⟩
  have G2 := G1.trans g2 (by simp)
  generalize ckR r = c at *
  clear a0 a1 a2 a3 a4 a5 a6 G1 g2
  go_wp2
  go_ret
  exact ⟨by simp [h], G2⟩

set_option maxRecDepth 100000 in
set_option maxHeartbeats 4000000 in
theorem turn_yes (r : Rc) (at' x : Int) (w : World) (h : ckR r = 0) (x0 : 0 ≤ x) (x1 : x < 256) :
    Calls Try.prog 12 #[.agg r.cells, .int .i64 at', .int .u8 x] w fun e w' => e = .returned (.bool true) ∧ Chg [] w w' := by
  unfold Rc.cells
  go_enter Try.func12, Try.ntmps12
  go_wp2_with fail
  refine (cbegun_any _).mono ?_
  rintro e w1 ⟨rfl, g1⟩
  obtain ⟨a0, a1, a2, a3, a4, a5, a6⟩ := ((Blk.new w r.cells 48).chg g1 (by simp)).seven
  have G1 : Chg [] w w1 := ((Chg.refl _ _).alloc _).trans g1 (by simp)
  clear g1
  go_wp2_with fail
  refine (enc_yes r _ h).mono ?_
  rintro e w2 ⟨g, rfl, hg, B2, g2⟩
  have G2 := G1.trans g2 (by simp)
  have zg : w.heap.size ≤ g := Nat.le_trans G1.size hg
  clear a0 a1 a2 a3 a4 a5 a6 G1 g2
  have H := hide h
  clear h
  obtain ⟨k, hk, ek⟩ := pick9 at'
  have hk' : (k : Int) < 9 := by omega
  have ck : w2.cell? ⟨g, k, none⟩ = some (.int .u8 (by9 r k)) := by have := nine_cell B2 k hk; rwa [Nat.zero_add] at this
  have fk : w2.frozen? ⟨g, k, none⟩ = false := B2.fz k
  obtain ⟨y0, y1⟩ := by9_bd (unhide H) k
  have ld := hide (turn_dec (r := r) k hk x)
  obtain ⟨y, hy⟩ : ∃ y, y = by9 r k := ⟨_, rfl⟩
  rw [← hy] at ck y0 y1 ld
  have HY := hide hy
  clear hy
  have HB := hide B2
  clear B2
  by_cases ht : (x - y).tmod 251 = 0
  · go_wp2
    go_ret
    exact ⟨rfl, G2⟩
  · have ht' : ((x - y).tmod 251 == 0) = false := by simpa using ht
    go_wp2_with fail
    have hB := unhide HB
    have hY : Byt (w2.setCell ⟨g, k, none⟩ (.int .u8 x)) (some ⟨g, 0, none⟩) 9 (upd (by9 r) k x) := by
      refine ⟨fun i _ => ?_, .inr ⟨g, 0, rfl, (hB.set k (.int .u8 x)).lt, fun i hi => ?_⟩⟩
      · simp only [upd]; split
        · exact ⟨x0, x1⟩
        · exact by9_bd (unhide H) i
      · by_cases e : i = k
        · subst e
          simp only [upd, if_true, Nat.zero_add]
          exact World.cell?_setCell_same w2 _ _ ck
        · simp only [upd, if_neg e, Nat.zero_add]
          rw [World.cell?_setCell_other _ _ _ _ (by simp)]
          have := nine_cell hB i hi
          rwa [Nat.zero_add] at this
    have G3 := G2.setCell (p := ⟨g, k, none⟩) (.inr zg) (.int .u8 x)
    refine (dec_any _ 9 9 _ _ (by omega) hY).mono ?_
    rintro e w3 ⟨rfl, g3⟩
    rw [unhide ld (mod_of_tmod ht)]
    have G4 := G3.trans g3 (by simp)
    clear G3 g3 hY hB HB ck fk
    simp only
    unfold Rc.cells rc0
    go_wp2
    go_ret
    exact ⟨rfl, G4.alloc _⟩

theorem turn_any (r : Rc) (at' x : Int) (w : World) (x0 : 0 ≤ x) (x1 : x < 256) :
    Calls Try.prog 12 #[.agg r.cells, .int .i64 at', .int .u8 x] w fun e w' => e = .returned (.bool true) ∧ Chg [] w w' := by
  by_cases h : ckR r = 0
  · exact turn_yes r at' x w h x0 x1
  · exact turn_no r at' x w h

end Go.Proofs.Ytdppeddiffjamaa
