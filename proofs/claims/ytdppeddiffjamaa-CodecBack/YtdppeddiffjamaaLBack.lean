/-
  The walk of the law 'there and back', its records with a code. Nothing here is claimed by itself.
-/
import Derived.Test.YtdppeddiffjamaaC7
namespace Go.Proofs.Ytdppeddiffjamaa
open Go.RowKit

set_option maxRecDepth 100000 in
set_option maxHeartbeats 4000000 in
theorem back_no (r q : Rc) (a : Option Addr) (n cap : Nat) (f : Nat → Int) (w : World) (h : ckR r ≠ 0) (hn4 : n ≤ 4000) (hcap : n ≤ cap) (hB : Byt w a n f) :
    Calls Try.prog 11 #[.agg r.cells, .agg q.cells, .slice a n cap] w fun e w' => e = .returned (.bool true) ∧ Chg [] w w' := by
  have hb : (ckR r == 0) = false := by simpa using h
  have hle : decide ((4000 : Int) < (n : Int)) = false := by simp; omega
  unfold Rc.cells
  go_enter Try.func11, Try.ntmps11
  go_wp2_with fail
  refine (cbegun_any _).mono ?_
  rintro e w1 ⟨rfl, g1⟩
  obtain ⟨a0, a1, a2, a3, a4, a5, a6⟩ := (((Blk.new w r.cells 48).alloc _).chg g1 (by simp)).seven
  have Q1 := hide ((Blk.new1 w _ q.cells 48).chg g1 (by simp))
  have G1 : Chg [] w w1 := (((Chg.refl _ _).alloc _).alloc _).trans g1 (by simp)
  clear g1
  go_wp2_with fail
  refine (enc_no r _ h).mono ?_
  rintro e w2 ⟨rfl, g2⟩
  have G2 := G1.trans g2 (by simp)
  obtain ⟨q0, q1, q2, q3, q4, q5, q6⟩ := ((unhide Q1).chg g2 (by simp)).seven
  clear a0 a1 a2 a3 a4 a5 a6 Q1 G1 g2
  generalize ckR r = c at *
  go_wp2_with fail
  refine (enc_both q _).mono ?_
  rintro e w3 ⟨v3, rfl, -, -, g3⟩
  have GX := G2.trans g3 (by simp)
  have HBX := hB.chg GX
  clear q0 q1 q2 q3 q4 q5 q6 G2 g3 hB
  generalize ckR q = d at *
  go_wp2_with fail
  refine (dec_any a n cap f _ hcap HBX).mono ?_
  rintro e wd ⟨rfl, gd⟩
  have Gd := GX.trans gd (by simp)
  have HBd := HBX.chg gd
  clear GX gd HBX
  by_cases hd : (dec n f).2 = 0
  · obtain ⟨h9, h8, hck, hD⟩ := dec_ok hd
    rw [hD]
    have hs := strB_congr (by_rd (fun i hi => HBd.1 i (by omega)) h8)
    obtain ⟨hf, h0 | ⟨bb, off, rfl, hb, hc⟩⟩ := HBd
    · omega
    have hc9 := hide (fun i (hi : i < 9) => hc i (by omega))
    clear hD hd h8 hf hc
    generalize rdR f = z at *
    have HS := hide hs
    clear hs
    simp only
    unfold Rc.cells
    go_wp2_with fail
    refine (enc_yes z _ hck).mono ?_
    rintro e we ⟨g', rfl, hg', Be, ge⟩
    have Ge := (Gd.alloc _).trans ge (by simp)
    have cv1 : ∀ d, (convert 49 9 (.slice (some ⟨g', 0, none⟩) 9 9)).run Try.prog (we.drewN d) = .ok (.string (strB 9 f)) (we.drewN d) := fun d => by
      rw [← unhide HS]; exact Byt.str (nine_cell (show Blk (we.drewN d) g' _ _ from Be))
    have cv2 : ∀ d, (convert 49 9 (.slice (some ⟨bb, off, none⟩) 9 cap)).run Try.prog (we.drewN d) = .ok (.string (strB 9 f)) (we.drewN d) := fun d => by
      exact Byt.str (fun i hi => by rw [show (we.drewN d).cell? ⟨bb, off + i, none⟩ = we.cell? ⟨bb, off + i, none⟩ from rfl, ge.cell' (by simp; omega) (by simp), World.cell?_of_block (w := wd) (Below.heap_alloc wd _ bb hb)]; exact unhide hc9 i hi)
    have n9 : (9 : Int) ≤ n := by omega
    have k9 : (9 : Int) ≤ cap := by omega
    clear Be ge Gd
    go_wp2_with fail
    go_quiet (fail)
    go_wp2
    go_ret
    exact ⟨rfl, Ge.drewN _⟩
  · rw [dec_not hd]
    have hcb : ((dec n f).2 == 0) = false := by simpa using hd
    generalize (dec n f).2 = c at *
    simp only
    unfold Rc.cells rc0
    go_wp2
    go_ret
    exact ⟨rfl, Gd.alloc _⟩

end Go.Proofs.Ytdppeddiffjamaa
