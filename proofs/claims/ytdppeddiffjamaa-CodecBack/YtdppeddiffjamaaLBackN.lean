/-
  The walk of the law 'there and back', nothing behind the record. Nothing here is claimed by itself.
-/
import Derived.Test.YtdppeddiffjamaaC7
namespace Go.Proofs.Ytdppeddiffjamaa
open Go.RowKit

set_option maxRecDepth 100000 in
set_option maxHeartbeats 4000000 in
theorem back_nil (r q : Rc) (w : World) (h : ckR r = 0) :
    Calls Try.prog 11 #[.agg r.cells, .agg q.cells, .slice none 0 0] w fun e w' => e = .returned (.bool true) ∧ Chg [] w w' := by
  obtain ⟨i0, hi, hz0, hz1, hz2⟩ := info_parts u8Info
  unfold Rc.cells
  go_enter Try.func11, Try.ntmps11
  go_wp2_with fail
  refine (cbegun_any _).mono ?_
  rintro e w1 ⟨rfl, g1⟩
  have R1 := ((Blk.new w r.cells 48).alloc _).chg g1 (by simp)
  obtain ⟨a0, a1, a2, a3, a4, a5, a6⟩ := R1.seven
  have Q1 := hide ((Blk.new1 w _ q.cells 48).chg g1 (by simp))
  have HR1 := hide R1
  clear R1
  have G1 : Chg [] w w1 := (((Chg.refl _ _).alloc _).alloc _).trans g1 (by simp)
  clear g1
  go_wp2_with fail
  refine (enc_yes r _ h).mono ?_
  rintro e w2 ⟨g, rfl, hg, B2, g2⟩
  have G2 := G1.trans g2 (by simp)
  have Q2 := (unhide Q1).chg g2 (by simp)
  obtain ⟨q0, q1, q2, q3, q4, q5, q6⟩ := Q2.seven
  have R2 := (unhide HR1).chg g2 (by simp)
  have HQ2 := hide Q2
  have HR2 := hide R2
  clear a0 a1 a2 a3 a4 a5 a6 Q1 G1 g2 Q2 R2 HR1
  go_wp2_with fail
  refine (enc_both q _).mono ?_
  rintro e w3 ⟨v3, rfl, hv3n, hv3y, g3⟩
  have G3 := G2.trans g3 (by simp)
  have B3 := B2.chg g3 (by simp)
  have Q3 := hide ((unhide HQ2).chg g3 (by simp))
  have R3 := hide ((unhide HR2).chg g3 (by simp))
  have HY := hide hv3y
  have HN := hide hv3n
  clear q0 q1 q2 q3 q4 q5 q6 G2 g3 B2 HQ2 HR2 hv3y hv3n
  generalize hcq : ckR q = d at *
  have HCQ := hide hcq
  clear hcq
  go_wp2_with (first
    | (at_builtin; refine wpList_append_own _ rfl (.const (.slice none 0 0)) (.tmp 35) 49 rfl w3.heap.size 5 i0 (.int .u8 0) 1 1 Try.underlying49 hi hz0 hz1 hz2 rfl (by decide) (.slice none 0 0) 0 [] rfl (World.ownsRow_nil _ _ _ _) ⟨g, 0, none⟩ 9 9 (nine r) rfl rfl B3.news (nine_one r) (by unfold maxLen; omega) (by omega) (Nat.le_refl _) ?_; intro v4 w4 own4 gr4 _; simp only [List.nil_append, Nat.zero_add] at own4; have z4 := gr4.size; have G4 : Chg [] w3 w4 := (Chg.refl [] w3).grown gr4 (by simp [Value.ownBlock]))
    | (at_builtin; refine wpList_append_own_none rfl (.tmp 36) (.tmp 37) 49 rfl w3.heap.size 5 i0 1 Try.underlying49 hi v4 9 _ rfl own4 rfl ?_))
  obtain ⟨g5, c5, rfl, hc5, hg5, -⟩ := own_shape own4 (by omega)
  have Y5 := own_byt own4 (fun i _ => by9_bd h i) (nine_at r)
  clear own4 gr4 z4
  refine (dec_any _ _ c5 _ _ hc5 Y5).mono ?_
  rintro e w6 ⟨rfl, g6⟩
  rw [dec_by h (Nat.le_refl 9) (fun i _ => rfl)]
  have G6 := G4.trans g6 (by simp)
  have X6 := Blk.new w6 r.cells 48
  have G7 := G6.alloc (.cells r.cells 48)
  have GX := G3.trans G7 (by simp)
  obtain ⟨x0, x1, x2, x3, x4, x5, x6⟩ := X6.seven
  have R7 := (unhide R3).chg G7 (by simp)
  obtain ⟨r0, r1, r2, r3, r4, r5, r6⟩ := R7.seven
  have Q7 := (unhide Q3).chg G7 (by simp)
  obtain ⟨q0, q1, q2, q3, q4, q5, q6⟩ := Q7.seven
  have B7 := B3.chg G7 (by simp)
  have cx : ∀ d, (convert 49 9 (.slice (some ⟨g, 0, none⟩) 9 9)).run Try.prog ((w6.alloc (.cells r.cells 48)).drewN d) = .ok (.string (strB 9 (by9 r))) ((w6.alloc (.cells r.cells 48)).drewN d) := fun d => Byt.str (nine_cell (show Blk ((w6.alloc (.cells r.cells 48)).drewN d) g _ _ from B7))
  clear G4 g6 Y5 G6 X6 R3 Q3 R7 Q7 G3 B3
  simp only
  unfold Rc.cells
  go_wp2_with fail
  have eW : (w6.alloc (.cells #[.int .i64 r.ep, .int .i64 r.o.k, .int .i64 r.o.now, .int .i64 r.o.jb, .int .i64 r.o.tr, .int .i64 r.o.wk, .int .i64 r.o.tm] 48)) = w6.alloc (.cells r.cells 48) := rfl
  rw [eW]
  clear eW
  obtain ⟨W, hW⟩ : ∃ W : World, W = w6.alloc (.cells r.cells 48) := ⟨_, rfl⟩
  rw [← hW] at x0 x1 x2 x3 x4 x5 x6 r0 r1 r2 r3 r4 r5 r6 q0 q1 q2 q3 q4 q5 q6 cx GX G7 B7 ⊢
  clear hW
  by_cases hq : d = 0
  · subst hq
    obtain ⟨g3, rfl, hg3, BQ⟩ := unhide HY rfl
    have BQ7 := BQ.chg G7 (by simp)
    have cy : ∀ d, (convert 49 9 (.slice (some ⟨g3, 0, none⟩) 9 9)).run Try.prog (W.drewN d) = .ok (.string (strB 9 (by9 q))) (W.drewN d) := fun d => Byt.str (nine_cell (show Blk (W.drewN d) g3 _ _ from BQ7))
    clear BQ BQ7 B7 G7 HY HN
    by_cases hrq : r = q
    · subst hrq
      go_quiet (fail)
      replace GX := GX.drewN nq
      generalize W.drewN nq = V at *
      clear x0 x1 x2 x3 x4 x5 x6 r0 r1 r2 r3 r4 r5 r6 q0 q1 q2 q3 q4 q5 q6 cx cy
      go_wp2_with fail
      refine (dec_short none 0 0 _ (by omega)).mono ?_
      rintro e wd ⟨rfl, gd⟩
      have Gd := GX.trans gd (by simp)
      clear GX gd
      unfold Rc.cells rc0
      go_wp2
      go_ret
      exact ⟨rfl, Gd.alloc _⟩
    · have hsne := str_ne h (unhide HCQ) hrq
      rcases rec_ne hrq with e0 | ⟨e0, e1⟩ | ⟨e0, e1, e2⟩ | ⟨e0, e1, e2, e3⟩ | ⟨e0, e1, e2, e3, e4⟩ | ⟨e0, e1, e2, e3, e4, e5⟩ | ⟨e0, e1, e2, e3, e4, e5, e6⟩
      all_goals
        go_quiet (fail)
        replace GX := GX.drewN nq
        generalize W.drewN nq = V at *
        clear x0 x1 x2 x3 x4 x5 x6 r0 r1 r2 r3 r4 r5 r6 q0 q1 q2 q3 q4 q5 q6 cx cy hsne
        go_wp2_with fail
        refine (dec_short none 0 0 _ (by omega)).mono ?_
        rintro e wd ⟨rfl, gd⟩
        have Gd := GX.trans gd (by simp)
        clear GX gd
        unfold Rc.cells rc0
        go_wp2
        go_ret
        exact ⟨rfl, Gd.alloc _⟩
  · have hqb : (d == 0) = false := by simpa using hq
    clear HY HN G7 B7
    go_quiet (fail)
    replace GX := GX.drewN nq
    generalize W.drewN nq = V at *
    clear x0 x1 x2 x3 x4 x5 x6 r0 r1 r2 r3 r4 r5 r6 q0 q1 q2 q3 q4 q5 q6 cx
    go_wp2_with fail
    refine (dec_short none 0 0 _ (by omega)).mono ?_
    rintro e wd ⟨rfl, gd⟩
    have Gd := GX.trans gd (by simp)
    clear GX gd
    unfold Rc.cells rc0
    go_wp2
    go_ret
    exact ⟨rfl, Gd.alloc _⟩

end Go.Proofs.Ytdppeddiffjamaa
