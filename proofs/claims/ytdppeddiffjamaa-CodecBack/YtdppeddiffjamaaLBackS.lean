/-
  The walk of the law 'there and back', bytes behind the record. Nothing here is claimed by itself.
-/
import Derived.Test.YtdppeddiffjamaaC7
namespace Go.Proofs.Ytdppeddiffjamaa
open Go.RowKit

set_option maxRecDepth 100000 in
set_option maxHeartbeats 4000000 in
theorem back_some (r q : Rc) (ad : Addr) (n cap : Nat) (f : Nat → Int) (w : World) (h : ckR r = 0) (hn4 : n ≤ 4000) (hcap : n ≤ cap) (hB : Byt w (some ad) n f) :
    Calls Try.prog 11 #[.agg r.cells, .agg q.cells, .slice (some ad) n cap] w fun e w' => e = .returned (.bool true) ∧ Chg [] w w' := by
  obtain ⟨i0, hi, hz0, hz1, hz2⟩ := info_parts u8Info
  have hle : decide ((4000 : Int) < (n : Int)) = false := by simp; omega
  unfold Rc.cells
  go_enter Try.func11, Try.ntmps11
  go_wp2_with fail
  refine (cbegun_any _).mono ?_
  rintro e w1 ⟨rfl, g1⟩
  have R1 := ((Blk.new w r.cells 48).alloc _).chg g1 (by simp)
  obtain ⟨a0, a1, a2, a3, a4, a5, a6⟩ := R1.seven
  have Q1 := hide ((Blk.new1 w _ q.cells 48).chg g1 (by simp))
  have HR1 := hide R1
  clear R1
  have G1 : Chg [] w w1 := (((Chg.refl _ _).alloc _).alloc _).trans g1 (by simp)
  clear g1
  go_wp2_with fail
  refine (enc_yes r _ h).mono ?_
  rintro e w2 ⟨g, rfl, hg, B2, g2⟩
  have G2 := G1.trans g2 (by simp)
  have Q2 := (unhide Q1).chg g2 (by simp)
  obtain ⟨q0, q1, q2, q3, q4, q5, q6⟩ := Q2.seven
  have R2 := (unhide HR1).chg g2 (by simp)
  have HQ2 := hide Q2
  have HR2 := hide R2
  clear a0 a1 a2 a3 a4 a5 a6 Q1 G1 g2 Q2 R2 HR1
  go_wp2_with fail
  refine (enc_both q _).mono ?_
  rintro e w3 ⟨v3, rfl, hv3n, hv3y, g3⟩
  have G3 := G2.trans g3 (by simp)
  have B3 := B2.chg g3 (by simp)
  have Q3 := hide ((unhide HQ2).chg g3 (by simp))
  have R3 := hide ((unhide HR2).chg g3 (by simp))
  have Y3 := hB.chg G3
  have HY := hide hv3y
  have HN := hide hv3n
  clear q0 q1 q2 q3 q4 q5 q6 G2 g3 B2 HQ2 HR2 hv3y hv3n
  generalize hcq : ckR q = d at *
  have HCQ := hide hcq
  clear hcq
  go_wp2_with (first
    | (at_builtin; refine wpList_append_own _ rfl (.const (.slice none 0 0)) (.tmp 35) 49 rfl w3.heap.size 5 i0 (.int .u8 0) 1 1 Try.underlying49 hi hz0 hz1 hz2 rfl (by decide) (.slice none 0 0) 0 [] rfl (World.ownsRow_nil _ _ _ _) ⟨g, 0, none⟩ 9 9 (nine r) rfl rfl B3.news (nine_one r) (by unfold maxLen; omega) (by omega) (Nat.le_refl _) ?_; intro v4 w4 own4 gr4 _; simp only [List.nil_append, Nat.zero_add] at own4; have z4 := gr4.size; have G4 : Chg [] w3 w4 := (Chg.refl [] w3).grown gr4 (by simp [Value.ownBlock]); have Y4 := Y3.chg G4)
    | (at_builtin; refine wpList_append_own _ rfl (.tmp 36) (.tmp 37) 49 rfl w3.heap.size 5 i0 (.int .u8 0) 1 1 Try.underlying49 hi hz0 hz1 hz2 rfl (by decide) v4 9 _ rfl own4 ad n cap (bytL n f) rfl (by rw [bytL_len]; omega) Y4.news (bytL_one n f) (by unfold maxLen; omega) (by omega) (by omega) ?_; intro v5 w5 own5 gr5 _))
  obtain ⟨g5, c5, rfl, hc5, hg5, -⟩ := own_shape own5 (by omega)
  have G5 : Chg [] w3 w5 := G4.grown gr5 (fun j hj => .inr (own4.lt j hj).1)
  have Y5 := own_byt own5 (catB_bd (fun i _ => by9_bd h i) Y3.1) (catB_at (nine_len r) (nine_at r) (bytL_at n f))
  clear own4 own5 gr4 gr5 G4 Y4 z4
  refine (dec_any _ _ c5 _ _ hc5 Y5).mono ?_
  rintro e w6 ⟨rfl, g6⟩
  rw [cat_dec h n f]
  have G6 := G5.trans g6 (by simp)
  have X6 := Blk.new w6 r.cells 48
  have G7 := G6.alloc (.cells r.cells 48)
  have GX := G3.trans G7 (by simp)
  have HBX := hB.chg GX
  obtain ⟨x0, x1, x2, x3, x4, x5, x6⟩ := X6.seven
  have R7 := (unhide R3).chg G7 (by simp)
  obtain ⟨r0, r1, r2, r3, r4, r5, r6⟩ := R7.seven
  have Q7 := (unhide Q3).chg G7 (by simp)
  obtain ⟨q0, q1, q2, q3, q4, q5, q6⟩ := Q7.seven
  have B7 := B3.chg G7 (by simp)
  have cx : ∀ d, (convert 49 9 (.slice (some ⟨g, 0, none⟩) 9 9)).run Try.prog ((w6.alloc (.cells r.cells 48)).drewN d) = .ok (.string (strB 9 (by9 r))) ((w6.alloc (.cells r.cells 48)).drewN d) := fun d => Byt.str (nine_cell (show Blk ((w6.alloc (.cells r.cells 48)).drewN d) g _ _ from B7))
  clear G5 g6 Y5 G6 X6 R3 Q3 R7 Q7 Y3 G3 hB B3
  simp only
  unfold Rc.cells
  go_wp2_with fail
  have eW : (w6.alloc (.cells #[.int .i64 r.ep, .int .i64 r.o.k, .int .i64 r.o.now, .int .i64 r.o.jb, .int .i64 r.o.tr, .int .i64 r.o.wk, .int .i64 r.o.tm] 48)) = w6.alloc (.cells r.cells 48) := rfl
  rw [eW]
  clear eW
  obtain ⟨W, hW⟩ : ∃ W : World, W = w6.alloc (.cells r.cells 48) := ⟨_, rfl⟩
  rw [← hW] at x0 x1 x2 x3 x4 x5 x6 r0 r1 r2 r3 r4 r5 r6 q0 q1 q2 q3 q4 q5 q6 cx GX HBX G7 B7 ⊢
  clear hW
  by_cases hq : d = 0
  · subst hq
    obtain ⟨g3, rfl, hg3, BQ⟩ := unhide HY rfl
    have BQ7 := BQ.chg G7 (by simp)
    have cy : ∀ d, (convert 49 9 (.slice (some ⟨g3, 0, none⟩) 9 9)).run Try.prog (W.drewN d) = .ok (.string (strB 9 (by9 q))) (W.drewN d) := fun d => Byt.str (nine_cell (show Blk (W.drewN d) g3 _ _ from BQ7))
    clear BQ BQ7 B7 G7 HY HN
    by_cases hrq : r = q
    · subst hrq
      go_quiet (fail)
      replace GX := GX.drewN nq
      replace HBX : Byt (W.drewN nq) (some ad) n f := HBX
      generalize W.drewN nq = V at *
      clear x0 x1 x2 x3 x4 x5 x6 r0 r1 r2 r3 r4 r5 r6 q0 q1 q2 q3 q4 q5 q6 cx cy
      go_wp2_with fail
      refine (dec_any (some ad) n cap f _ hcap HBX).mono ?_
      rintro e wd ⟨rfl, gd⟩
      have Gd := GX.trans gd (by simp)
      have HBd := HBX.chg gd
      clear GX gd HBX
      by_cases hd : (dec n f).2 = 0
      · obtain ⟨h9, h8, hck, hD⟩ := dec_ok hd
        rw [hD]
        have hs := strB_congr (by_rd (fun i hi => HBd.1 i (by omega)) h8)
        obtain ⟨hf, h0 | ⟨bb, off, e9, hb, hc⟩⟩ := HBd
        · omega
        simp at e9; subst e9
        have hc9 := hide (fun i (hi : i < 9) => hc i (by omega))
        clear hD hd h8 hf hc
        generalize rdR f = z at *
        have HS := hide hs
        clear hs
        simp only
        unfold Rc.cells
        go_wp2_with fail
        refine (enc_yes z _ hck).mono ?_
        rintro e we ⟨g', rfl, hg', Be, ge⟩
        have Ge := (Gd.alloc _).trans ge (by simp)
        have cv1 : ∀ d, (convert 49 9 (.slice (some ⟨g', 0, none⟩) 9 9)).run Try.prog (we.drewN d) = .ok (.string (strB 9 f)) (we.drewN d) := fun d => by
          rw [← unhide HS]; exact Byt.str (nine_cell (show Blk (we.drewN d) g' _ _ from Be))
        have cv2 : ∀ d, (convert 49 9 (.slice (some ⟨bb, off, none⟩) 9 cap)).run Try.prog (we.drewN d) = .ok (.string (strB 9 f)) (we.drewN d) := fun d => by
          exact Byt.str (fun i hi => by rw [show (we.drewN d).cell? ⟨bb, off + i, none⟩ = we.cell? ⟨bb, off + i, none⟩ from rfl, ge.cell' (by simp; omega) (by simp), World.cell?_of_block (w := wd) (Below.heap_alloc wd _ bb hb)]; exact unhide hc9 i hi)
        have n9 : (9 : Int) ≤ n := by omega
        have k9 : (9 : Int) ≤ cap := by omega
        clear Be ge Gd
        go_wp2_with fail
        go_quiet (fail)
        go_wp2
        go_ret
        exact ⟨rfl, Ge.drewN _⟩
      · rw [dec_not hd]
        have hcb : ((dec n f).2 == 0) = false := by simpa using hd
        generalize (dec n f).2 = c at *
        simp only
        unfold Rc.cells rc0
        go_wp2
        go_ret
        exact ⟨rfl, Gd.alloc _⟩
    · have hsne := str_ne h (unhide HCQ) hrq
      rcases rec_ne hrq with e0 | ⟨e0, e1⟩ | ⟨e0, e1, e2⟩ | ⟨e0, e1, e2, e3⟩ | ⟨e0, e1, e2, e3, e4⟩ | ⟨e0, e1, e2, e3, e4, e5⟩ | ⟨e0, e1, e2, e3, e4, e5, e6⟩
      all_goals
        go_quiet (fail)
        replace GX := GX.drewN nq
        replace HBX : Byt (W.drewN nq) (some ad) n f := HBX
        generalize W.drewN nq = V at *
        clear x0 x1 x2 x3 x4 x5 x6 r0 r1 r2 r3 r4 r5 r6 q0 q1 q2 q3 q4 q5 q6 cx cy hsne
        go_wp2_with fail
        refine (dec_any (some ad) n cap f _ hcap HBX).mono ?_
        rintro e wd ⟨rfl, gd⟩
        have Gd := GX.trans gd (by simp)
        have HBd := HBX.chg gd
        clear GX gd HBX
        by_cases hd : (dec n f).2 = 0
        · obtain ⟨h9, h8, hck, hD⟩ := dec_ok hd
          rw [hD]
          have hs := strB_congr (by_rd (fun i hi => HBd.1 i (by omega)) h8)
          obtain ⟨hf, h0 | ⟨bb, off, e9, hb, hc⟩⟩ := HBd
          · omega
          simp at e9; subst e9
          have hc9 := hide (fun i (hi : i < 9) => hc i (by omega))
          clear hD hd h8 hf hc
          generalize rdR f = z at *
          have HS := hide hs
          clear hs
          simp only
          unfold Rc.cells
          go_wp2_with fail
          refine (enc_yes z _ hck).mono ?_
          rintro e we ⟨g', rfl, hg', Be, ge⟩
          have Ge := (Gd.alloc _).trans ge (by simp)
          have cv1 : ∀ d, (convert 49 9 (.slice (some ⟨g', 0, none⟩) 9 9)).run Try.prog (we.drewN d) = .ok (.string (strB 9 f)) (we.drewN d) := fun d => by
            rw [← unhide HS]; exact Byt.str (nine_cell (show Blk (we.drewN d) g' _ _ from Be))
          have cv2 : ∀ d, (convert 49 9 (.slice (some ⟨bb, off, none⟩) 9 cap)).run Try.prog (we.drewN d) = .ok (.string (strB 9 f)) (we.drewN d) := fun d => by
            exact Byt.str (fun i hi => by rw [show (we.drewN d).cell? ⟨bb, off + i, none⟩ = we.cell? ⟨bb, off + i, none⟩ from rfl, ge.cell' (by simp; omega) (by simp), World.cell?_of_block (w := wd) (Below.heap_alloc wd _ bb hb)]; exact unhide hc9 i hi)
          have n9 : (9 : Int) ≤ n := by omega
          have k9 : (9 : Int) ≤ cap := by omega
          clear Be ge Gd
          go_wp2_with fail
          go_quiet (fail)
          go_wp2
          go_ret
          exact ⟨rfl, Ge.drewN _⟩
        · rw [dec_not hd]
          have hcb : ((dec n f).2 == 0) = false := by simpa using hd
          generalize (dec n f).2 = c at *
          simp only
          unfold Rc.cells rc0
          go_wp2
          go_ret
          exact ⟨rfl, Gd.alloc _⟩
  · have hqb : (d == 0) = false := by simpa using hq
    clear HY HN G7 B7
    go_quiet (fail)
    replace GX := GX.drewN nq
    replace HBX : Byt (W.drewN nq) (some ad) n f := HBX
    generalize W.drewN nq = V at *
    clear x0 x1 x2 x3 x4 x5 x6 r0 r1 r2 r3 r4 r5 r6 q0 q1 q2 q3 q4 q5 q6 cx
    go_wp2_with fail
    refine (dec_any (some ad) n cap f _ hcap HBX).mono ?_
    rintro e wd ⟨rfl, gd⟩
    have Gd := GX.trans gd (by simp)
    have HBd := HBX.chg gd
    clear GX gd HBX
    by_cases hd : (dec n f).2 = 0
    · obtain ⟨h9, h8, hck, hD⟩ := dec_ok hd
      rw [hD]
      have hs := strB_congr (by_rd (fun i hi => HBd.1 i (by omega)) h8)
      obtain ⟨hf, h0 | ⟨bb, off, e9, hb, hc⟩⟩ := HBd
      · omega
      simp at e9; subst e9
      have hc9 := hide (fun i (hi : i < 9) => hc i (by omega))
      clear hD hd h8 hf hc
      generalize rdR f = z at *
      have HS := hide hs
      clear hs
      simp only
      unfold Rc.cells
      go_wp2_with fail
      refine (enc_yes z _ hck).mono ?_
      rintro e we ⟨g', rfl, hg', Be, ge⟩
      have Ge := (Gd.alloc _).trans ge (by simp)
      have cv1 : ∀ d, (convert 49 9 (.slice (some ⟨g', 0, none⟩) 9 9)).run Try.prog (we.drewN d) = .ok (.string (strB 9 f)) (we.drewN d) := fun d => by
        rw [← unhide HS]; exact Byt.str (nine_cell (show Blk (we.drewN d) g' _ _ from Be))
      have cv2 : ∀ d, (convert 49 9 (.slice (some ⟨bb, off, none⟩) 9 cap)).run Try.prog (we.drewN d) = .ok (.string (strB 9 f)) (we.drewN d) := fun d => by
        exact Byt.str (fun i hi => by rw [show (we.drewN d).cell? ⟨bb, off + i, none⟩ = we.cell? ⟨bb, off + i, none⟩ from rfl, ge.cell' (by simp; omega) (by simp), World.cell?_of_block (w := wd) (Below.heap_alloc wd _ bb hb)]; exact unhide hc9 i hi)
      have n9 : (9 : Int) ≤ n := by omega
      have k9 : (9 : Int) ≤ cap := by omega
      clear Be ge Gd
      go_wp2_with fail
      go_quiet (fail)
      go_wp2
      go_ret
      exact ⟨rfl, Ge.drewN _⟩
    · rw [dec_not hd]
      have hcb : ((dec n f).2 == 0) = false := by simpa using hd
      generalize (dec n f).2 = c at *
      simp only
      unfold Rc.cells rc0
      go_wp2
      go_ret
      exact ⟨rfl, Gd.alloc _⟩

end Go.Proofs.Ytdppeddiffjamaa
