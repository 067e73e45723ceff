/-
  The walk of the law 'every Check, Do, Job, Now and Own is as the document says'. Nothing here is claimed by itself.
-/
import Derived.Test.YtkkffgojblopjaaR6
import Derived.Deep.RegionHeld3
namespace Go.Proofs.Ytkkffgojblopjaa
open Go.RowKit

set_option maxRecDepth 100000 in
set_option maxHeartbeats 4000000 in
theorem does_row (bl off len cap : Nat) (kk : Int) (os : Nat → Od) (w : World) (hlen : len ≤ 300) (hbl : bl < w.heap.size) (hO : ∀ i, i < len → OrdAt w bl (off + i * 6) (os i)) :
    Calls Try.prog 3 #[.slice (some ⟨bl, off, none⟩) len cap, .int .i64 kk] w fun e w' => e = .returned (.bool true) ∧ Chg [] w w' := by
  have hle : decide ((300 : Int) < (len : Int)) = false := by simp; omega
  have HO := hide hO
  clear hO
  go_enter Try.func3, Try.ntmps3
  go_wp2_with fail
  refine (begun_any _).mono ?_
  rintro e w1 ⟨rfl, g1⟩
  go_wp2_with fail
  refine (new_any _).mono ?_
  rintro e w2 ⟨rfl, h2, g2⟩
  have G2 := g1.trans g2 (by simp)
  have z1 := g1.size
  have z2 := h2.lt
  have HG2 := hide G2
  have HT2 := hide h2
  clear g1 g2 h2 G2
  go_wp2_with fail
  go_loopw [5, 7] (fun vt i wr => ∃ (k tb : Nat) (T : Tb), k ≤ len ∧ i = .int .i64 k ∧ vt = .pointer (some ⟨tb, 0, none⟩) ∧ w.heap.size ≤ tb ∧ tb ≠ w2.heap.size ∧ Has 78 wr tb T ∧ Has 31 wr w2.heap.size T ∧ Inv T ∧ Chg [] w wr) (fun _ i _ => len - (intOf i).toNat)
  case atStart => exact ⟨0, w1.heap.size, T0, by omega, rfl, rfl, z1, by omega, (unhide HT2).alloc _, Blk.new w2 _ _, inv_T0, (unhide HG2).alloc _⟩
  case round =>
    obtain ⟨k, tb, T, hk, rfl, rfl, hz, hne, hT, hB, hI, hG⟩ := hrel
    clear HT2 HG2
    generalize hbb : w2.heap.size = bb at *
    have zb : w.heap.size ≤ bb := by omega
    clear hbb
    by_cases hlt : k < len
    · have hki : (k : Int) < (len : Int) := by omega
      have hk0 : (0 : Int) ≤ (k : Int) := by omega
      have hL := unhide HO k hlt
      have HL := hide hL
      generalize os k = o at *
      obtain ⟨p0, p1, p2, p3, p4, p5⟩ := hL.chg hG hbl (by simp)
      clear hL
      by_cases hkk : (k : Int) = kk
      · have heq : ((k : Int) == kk) = true := by simpa using hkk
        clear hkk
        have lT := hT.lt
        have lB := hB.lt
        go_wp2_with (first
          | (go_at_call 17; refine (own_any tb T _ hT).mono ?_; rintro e w3 ⟨rfl, hU3, g3⟩; have hT3 := hT.chg g3 (by simp); have hB3 := hB.chg g3 (by simp); have G3 := hG.trans g3 (by simp); clear p0 p1 p2 p3 p4 p5; obtain ⟨p0, p1, p2, p3, p4, p5⟩ := (unhide HL).chg G3 hbl (by simp); clear g3)
          | (go_at_call 18; refine (do_any tb o T _ hT3 hI.fit).mono ?_; rintro e w4 ⟨rfl, hT4, g4⟩; have hU4 := hU3.chg g4 (by simp; omega); have hB4 := hB3.chg g4 (by simp; omega); have G4 := G3.trans g4 (by simp; omega); clear g4 p0 p1 p2 p3 p4 p5 hT4))
        have Td := hU4.drew
        have Bd := hB4.drew
        have Gd := G4.drew
        go_region_held3 (fun w' => w'.cell? ⟨bl, off + k * 6, none⟩ = some (.int .i64 o.k) ∧ w'.cell? ⟨bl, off + k * 6 + 1, none⟩ = some (.int .i64 o.now) ∧ w'.cell? ⟨bl, off + k * 6 + 2, none⟩ = some (.int .i64 o.jb) ∧ w'.cell? ⟨bl, off + k * 6 + 3, none⟩ = some (.int .i64 o.tr) ∧ w'.cell? ⟨bl, off + k * 6 + 4, none⟩ = some (.int .i64 o.wk) ∧ w'.cell? ⟨bl, off + k * 6 + 5, none⟩ = some (.int .i64 o.tm)) (first | exact (unhide HL).chg (by assumption) hbl (by simp)) (first
          | (go_at_call 19; refine (check_any o _).mono ?_; rintro e wa ⟨rfl, ga⟩; have Ga := Gd.trans ga (by simp); have Ta := Td.chg ga (by simp); have Ba := Bd.chg ga (by simp); clear ga)
          | (go_at_call 20; refine (fault_any o _).mono ?_; rintro e wb ⟨rfl, gb⟩; have Gb := Ga.trans gb (by simp); have Tb := Ta.chg gb (by simp); have Bb := Ba.chg gb (by simp); clear gb)
          | (go_at_call 18; refine (do_any wr.heap.size o T _ Tb hI.fit).mono ?_; rintro e wc ⟨rfl, Tc, gc⟩; have Gc := Gb.trans gc (by simp; omega); have Bc := Bb.chg gc (by simp; omega); clear gc)
          | (go_at_call 21; refine (bdo_all bb o T _ Bc hI).mono ?_; rintro e wd ⟨rfl, Be, gd⟩; have Ge := Gc.trans gd (by simp; omega); have Te := Tc.chg gd (by simp; omega); clear gd)
          | (go_at_call 22; refine (same_all wr.heap.size bb _ _ Te Be).mono ?_; rintro e wf ⟨rfl, gf⟩; have Gf := Ge.trans gf (by simp); have Tf := Te.chg gf (by simp); have Bf := Be.chg gf (by simp); clear gf))
        go_wp2
        go_roundw
        case rel => exact ⟨k + 1, wr.heap.size, (doT T o).1, by omega, by go_num, rfl, by omega, by omega, Tf, Bf, hI.step o, Gf⟩
        case measure => go_light; simp [intOf]; omega
      · have heq : ((k : Int) == kk) = false := by simpa using hkk
        clear hkk p0 p1 p2 p3 p4 p5
        go_wp2_with fail
        have Td := hT.drew
        have Bd := hB.drew
        have Gd := hG.drew
        go_region_held3 (fun w' => w'.cell? ⟨bl, off + k * 6, none⟩ = some (.int .i64 o.k) ∧ w'.cell? ⟨bl, off + k * 6 + 1, none⟩ = some (.int .i64 o.now) ∧ w'.cell? ⟨bl, off + k * 6 + 2, none⟩ = some (.int .i64 o.jb) ∧ w'.cell? ⟨bl, off + k * 6 + 3, none⟩ = some (.int .i64 o.tr) ∧ w'.cell? ⟨bl, off + k * 6 + 4, none⟩ = some (.int .i64 o.wk) ∧ w'.cell? ⟨bl, off + k * 6 + 5, none⟩ = some (.int .i64 o.tm)) (first | exact (unhide HL).chg (by assumption) hbl (by simp)) (first
          | (go_at_call 19; refine (check_any o _).mono ?_; rintro e wa ⟨rfl, ga⟩; have Ga := Gd.trans ga (by simp); have Ta := Td.chg ga (by simp); have Ba := Bd.chg ga (by simp); clear ga)
          | (go_at_call 20; refine (fault_any o _).mono ?_; rintro e wb ⟨rfl, gb⟩; have Gb := Ga.trans gb (by simp); have Tb := Ta.chg gb (by simp); have Bb := Ba.chg gb (by simp); clear gb)
          | (go_at_call 18; refine (do_any tb o T _ Tb hI.fit).mono ?_; rintro e wc ⟨rfl, Tc, gc⟩; have Gc := Gb.trans gc (by simp; omega); have Bc := Bb.chg gc (by simp; omega); clear gc)
          | (go_at_call 21; refine (bdo_all bb o T _ Bc hI).mono ?_; rintro e wd ⟨rfl, Be, gd⟩; have Ge := Gc.trans gd (by simp; omega); have Te := Tc.chg gd (by simp; omega); clear gd)
          | (go_at_call 22; refine (same_all tb bb _ _ Te Be).mono ?_; rintro e wf ⟨rfl, gf⟩; have Gf := Ge.trans gf (by simp); have Tf := Te.chg gf (by simp); have Bf := Be.chg gf (by simp); clear gf))
        go_wp2
        go_roundw
        case rel => exact ⟨k + 1, tb, (doT T o).1, by omega, by go_num, rfl, by omega, by omega, Tf, Bf, hI.step o, Gf⟩
        case measure => go_light; simp [intOf]; omega
    · have hkn : ¬ (k : Int) < (len : Int) := by omega
      go_wp2
      go_ret
      exact ⟨rfl, hG⟩

end Go.Proofs.Ytkkffgojblopjaa
