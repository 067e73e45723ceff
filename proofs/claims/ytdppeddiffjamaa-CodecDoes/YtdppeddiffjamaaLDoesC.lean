/-
  The walk of the law 'every Check, Encode, Decode and All is as the document says'. Nothing here is claimed by itself.
-/
import Derived.Test.YtdppeddiffjamaaD3
namespace Go.Proofs.Ytdppeddiffjamaa
open Go.RowKit

theorem allF_len : ∀ (fu : Nat) (ep : Int) (n : Nat) (f : Nat → Int), (allF fu ep n f).length ≤ n
  | 0, _, _, _ => by simp [allF]
  | fu + 1, ep, n, f => by
    rw [allF]
    split
    · simp
    · rename_i hc
      have h9 : (dec n f).2 = 0 := by
        by_cases h : (dec n f).2 = 0
        · exact h
        · exact absurd (.inl h) hc
      have := (dec_ok h9).1
      have ih := allF_len fu (dec n f).1.ep (n - 9) (fun i => f (i + 9))
      simp only [List.length_cons]
      omega
theorem all_len {n : Nat} {f : Nat → Int} (h : n ≤ 4000) : (allR n f).length ≤ 4000 := Nat.le_trans (allF_len _ _ _ _) h

set_option maxRecDepth 100000 in
set_option maxHeartbeats 4000000 in
theorem cdoes_no (r : Rc) (a : Option Addr) (n cap : Nat) (f : Nat → Int) (w : World) (h : ckR r ≠ 0) (hn4 : n ≤ 4000) (hcap : n ≤ cap) (hB : Byt w a n f) :
    Calls Try.prog 10 #[.agg r.cells, .slice a n cap] w fun e w' => e = .returned (.bool true) ∧ Chg [] w w' := by
  have hle : decide ((4000 : Int) < (n : Int)) = false := by simp; omega
  have HB := hide hB
  clear hB
  unfold Rc.cells
  go_enter Try.func10, Try.ntmps10
  go_wp2_with fail
  refine (cbegun_any _).mono ?_
  rintro e w1 ⟨rfl, g1⟩
  have R1 := (Blk.new w r.cells 48).chg g1 (by simp)
  have G1 : Chg [] w w1 := ((Chg.refl _ _).alloc _).trans g1 (by simp)
  obtain ⟨a0, a1, a2, a3, a4, a5, a6⟩ := R1.seven
  have HR1 := hide R1
  clear g1 R1
  go_wp2_with fail
  refine (enc_no r _ h).mono ?_
  rintro e w2 ⟨rfl, g2⟩
  clear a0 a1 a2 a3 a4 a5 a6
  have hb : (ckR r == 0) = false := by simpa using h
  have R2 := (unhide HR1).chg g2 (by simp)
  obtain ⟨a0, a1, a2, a3, a4, a5, a6⟩ := R2.seven
  have G2 := G1.trans g2 (by simp)
  have HR2 := hide R2
  clear G1 g2 R2 HR1
  go_wp2_with fail
  refine (rf_any r _).mono ?_
  rintro e w3 ⟨rfl, g3⟩
  clear a0 a1 a2 a3 a4 a5 a6
  have R3 := (unhide HR2).chg g3 (by simp)
  obtain ⟨a0, a1, a2, a3, a4, a5, a6⟩ := R3.seven
  have G3 := G2.trans g3 (by simp)
  have HR3 := hide R3
  clear G2 R3 HR2
  have R4 := unhide HR3
  have G4 := G3
  clear G3 g3 HR3 a0 a1 a2 a3 a4 a5 a6
  go_wp2_with fail
  refine (dec_any a n cap f _ hcap ((unhide HB).chg G4)).mono ?_
  rintro e w5 ⟨rfl, g5⟩
  have G5 := G4.trans g5 (by simp)
  have R5 := R4.chg g5 (by simp)
  clear G4 g5 R4
  have hDq : (dec n f).2 = (dec n f).2 := rfl
  obtain ⟨D, hD⟩ : ∃ D, D = dec n f := ⟨_, rfl⟩
  rw [← hD]
  have HD := hide hD
  clear hD hDq
  unfold Rc.cells
  go_wp2_with fail
  have Y5 := Blk.new w5 D.1.cells 48
  have G5' := G5.alloc (.cells D.1.cells 48)
  have R5' := R5.alloc (.cells D.1.cells 48)
  refine (rof_any a n cap f _ hcap ((unhide HB).chg G5')).mono ?_
  rintro e w6 ⟨rfl, g6⟩
  rw [← unhide HD]
  have G6 := G5'.trans g6 (by simp)
  have R6 := R5'.chg g6 (by simp)
  have Y6 := Y5.chg g6 (by simp)
  clear Y5 G5' R5' g6 R5 G5
  have U7 := Blk.new w6 D.1.cells 48
  have G7 := G6.alloc (.cells D.1.cells 48)
  have R7 := R6.alloc (.cells D.1.cells 48)
  have Y7 := Y6.alloc (.cells D.1.cells 48)
  have zr := R6.lt
  obtain ⟨b0, b1, b2, b3, b4, b5, b6⟩ := R6.seven
  clear G6 R6 Y6
  unfold Rc.cells
  go_wp2_with fail
  refine (cck_any r _).mono ?_
  rintro e w8 ⟨rfl, g8⟩
  clear b0 b1 b2 b3 b4 b5 b6
  have G8 := G7.trans g8 (by simp)
  obtain ⟨y0, y1, y2, y3, y4, y5, y6⟩ := (Y7.chg g8 (by simp)).seven
  obtain ⟨u0, u1, u2, u3, u4, u5, u6⟩ := (U7.chg g8 (by simp)).seven
  have hcv : (convert 49 9 (.slice none 0 0)).run Try.prog w8 = .ok (.string ⟨#[]⟩) w8 := run_convert_bytes_nil w8 49 5 Try.underlying49 Try.underlying5 0 0 9 Try.underlying9
  clear G7 R7 Y7 U7 g8
  generalize ckR r = c at *
  go_wp2_with (first
    | (go_at_call 32; refine (all_any a n cap f _ hn4 hcap ((unhide HB).chg G8)).mono ?_; rintro e w9 ⟨v9, rfl, own9, g9⟩; obtain ⟨a9, c9, rfl, -, -, R9⟩ := own_recs own9 rfl; have G9 := G8.trans g9 (by simp))
    | (go_at_call 33; refine (rsof_any a n cap f _ hn4 hcap ((unhide HB).chg G9)).mono ?_; rintro e w10 ⟨v10, rfl, own10, g10⟩; obtain ⟨a10, c10, rfl, -, -, R10⟩ := own_recs own10 rfl; have R9' := R9.chg g10; have G10 := G9.trans g10 (by simp))
    | (go_at_call 31; refine (same_any a9 a10 _ c9 c10 _ _ (all_len hn4) R9' R10).mono ?_; rintro e w11 ⟨rfl, d11, rfl⟩))
  go_ret
  exact ⟨rfl, G10.drewN _⟩

set_option maxRecDepth 100000 in
set_option maxHeartbeats 4000000 in
theorem cdoes_yes (r : Rc) (a : Option Addr) (n cap : Nat) (f : Nat → Int) (w : World) (h : ckR r = 0) (hn4 : n ≤ 4000) (hcap : n ≤ cap) (hB : Byt w a n f) :
    Calls Try.prog 10 #[.agg r.cells, .slice a n cap] w fun e w' => e = .returned (.bool true) ∧ Chg [] w w' := by
  have hle : decide ((4000 : Int) < (n : Int)) = false := by simp; omega
  have HB := hide hB
  clear hB
  unfold Rc.cells
  go_enter Try.func10, Try.ntmps10
  go_wp2_with fail
  refine (cbegun_any _).mono ?_
  rintro e w1 ⟨rfl, g1⟩
  have R1 := (Blk.new w r.cells 48).chg g1 (by simp)
  have G1 : Chg [] w w1 := ((Chg.refl _ _).alloc _).trans g1 (by simp)
  obtain ⟨a0, a1, a2, a3, a4, a5, a6⟩ := R1.seven
  have HR1 := hide R1
  clear g1 R1
  go_wp2_with fail
  refine (enc_yes r _ h).mono ?_
  rintro e w2 ⟨g, rfl, hg, B2, g2⟩
  clear a0 a1 a2 a3 a4 a5 a6
  have R2 := (unhide HR1).chg g2 (by simp)
  obtain ⟨a0, a1, a2, a3, a4, a5, a6⟩ := R2.seven
  have G2 := G1.trans g2 (by simp)
  have HR2 := hide R2
  clear G1 g2 R2 HR1
  go_wp2_with fail
  refine (rf_any r _).mono ?_
  rintro e w3 ⟨rfl, g3⟩
  clear a0 a1 a2 a3 a4 a5 a6
  have R3 := (unhide HR2).chg g3 (by simp)
  obtain ⟨a0, a1, a2, a3, a4, a5, a6⟩ := R3.seven
  have G3 := G2.trans g3 (by simp)
  have HR3 := hide R3
  have B3 := B2.chg g3 (by simp)
  clear G2 R3 HR2
  rw [h]
  clear g3 B2
  go_wp2_with fail
  refine (bytesof_any r _ h).mono ?_
  rintro e w4 ⟨g4, c4, rfl, hg4, Yb, g4'⟩
  have R4 := (unhide HR3).chg g4' (by simp)
  have G4 := G3.trans g4' (by simp)
  have B4 := B3.chg g4' (by simp)
  have hcb : (convert 49 9 (.slice (some ⟨g4, 0, none⟩) 9 c4)).run Try.prog w4 = .ok (.string (strB 9 (by9 r))) w4 := by
    obtain ⟨_, h0 | ⟨bb, off, e1, _, hc⟩⟩ := Yb
    · omega
    · simp at e1
      obtain ⟨rfl, rfl⟩ := e1
      exact Byt.str hc
  clear G3 g4' HR3 a0 a1 a2 a3 a4 a5 a6 B3 Yb
  go_wp2_with fail
  refine (dec_any a n cap f _ hcap ((unhide HB).chg G4)).mono ?_
  rintro e w5 ⟨rfl, g5⟩
  have G5 := G4.trans g5 (by simp)
  have R5 := R4.chg g5 (by simp)
  have B5 := B4.chg g5 (by simp)
  clear G4 g5 R4 B4 hcb
  have hDq : (dec n f).2 = (dec n f).2 := rfl
  obtain ⟨D, hD⟩ : ∃ D, D = dec n f := ⟨_, rfl⟩
  rw [← hD]
  have HD := hide hD
  clear hD hDq
  unfold Rc.cells
  go_wp2_with fail
  have Y5 := Blk.new w5 D.1.cells 48
  have G5' := G5.alloc (.cells D.1.cells 48)
  have R5' := R5.alloc (.cells D.1.cells 48)
  have B5' := B5.alloc (.cells D.1.cells 48)
  refine (rof_any a n cap f _ hcap ((unhide HB).chg G5')).mono ?_
  rintro e w6 ⟨rfl, g6⟩
  rw [← unhide HD]
  have G6 := G5'.trans g6 (by simp)
  have R6 := R5'.chg g6 (by simp)
  have Y6 := Y5.chg g6 (by simp)
  have B6 := B5'.chg g6 (by simp)
  clear B5 B5'
  clear Y5 G5' R5' g6 R5 G5
  have U7 := Blk.new w6 D.1.cells 48
  have G7 := G6.alloc (.cells D.1.cells 48)
  have R7 := R6.alloc (.cells D.1.cells 48)
  have Y7 := Y6.alloc (.cells D.1.cells 48)
  have B7 := B6.alloc (.cells D.1.cells 48)
  clear B6
  have zr := R6.lt
  obtain ⟨b0, b1, b2, b3, b4, b5, b6⟩ := R6.seven
  clear G6 R6 Y6
  unfold Rc.cells
  go_wp2_with fail
  refine (cck_any r _).mono ?_
  rintro e w8 ⟨rfl, g8⟩
  clear b0 b1 b2 b3 b4 b5 b6
  have G8 := G7.trans g8 (by simp)
  obtain ⟨y0, y1, y2, y3, y4, y5, y6⟩ := (Y7.chg g8 (by simp)).seven
  obtain ⟨u0, u1, u2, u3, u4, u5, u6⟩ := (U7.chg g8 (by simp)).seven
  have hcv : (convert 49 9 (.slice (some ⟨g, 0, none⟩) 9 9)).run Try.prog w8 = .ok (.string (strB 9 (by9 r))) w8 := Byt.str (nine_cell (B7.chg g8 (by simp)))
  clear B7
  clear G7 R7 Y7 U7 g8
  rw [h]
  go_wp2_with (first
    | (go_at_call 32; refine (all_any a n cap f _ hn4 hcap ((unhide HB).chg G8)).mono ?_; rintro e w9 ⟨v9, rfl, own9, g9⟩; obtain ⟨a9, c9, rfl, -, -, R9⟩ := own_recs own9 rfl; have G9 := G8.trans g9 (by simp))
    | (go_at_call 33; refine (rsof_any a n cap f _ hn4 hcap ((unhide HB).chg G9)).mono ?_; rintro e w10 ⟨v10, rfl, own10, g10⟩; obtain ⟨a10, c10, rfl, -, -, R10⟩ := own_recs own10 rfl; have R9' := R9.chg g10; have G10 := G9.trans g10 (by simp))
    | (go_at_call 31; refine (same_any a9 a10 _ c9 c10 _ _ (all_len hn4) R9' R10).mono ?_; rintro e w11 ⟨rfl, d11, rfl⟩))
  go_ret
  exact ⟨rfl, G10.drewN _⟩

end Go.Proofs.Ytdppeddiffjamaa
