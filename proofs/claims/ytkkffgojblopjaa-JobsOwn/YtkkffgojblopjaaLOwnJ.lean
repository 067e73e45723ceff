/-
  The walk of the law 'each its own'. Nothing here is claimed by itself.
-/
import Derived.Test.YtkkffgojblopjaaR6
import Derived.Deep.RegionHeld3
namespace Go.Proofs.Ytkkffgojblopjaa
open Go.RowKit

set_option maxRecDepth 100000 in
set_option maxHeartbeats 8000000 in
theorem ownJ_row (a0 a1 a2 : Option Addr) (n0 c0 n1 c1 n2 c2 : Nat) (os0 os1 os2 : Nat → Od) (w : World) (h0 : n0 ≤ 200) (h1 : n1 ≤ 200) (h2 : n2 ≤ 200) (hO0 : Ords w a0 n0 os0) (hO1 : Ords w a1 n1 os1) (hO2 : Ords w a2 n2 os2) :
    Calls Try.prog 9 #[.slice a0 n0 c0, .slice a1 n1 c1, .slice a2 n2 c2] w fun e w' => e = .returned (.bool true) ∧ Chg [] w w' := by
  have hle0 : decide ((200 : Int) < (n0 : Int)) = false := by simp; omega
  have hle1 : decide ((200 : Int) < (n1 : Int)) = false := by simp; omega
  have hle2 : decide ((200 : Int) < (n2 : Int)) = false := by simp; omega
  have HO0 := hide hO0
  have HO1 := hide hO1
  have HO2 := hide hO2
  clear hO0 hO1 hO2
  go_enter Try.func9, Try.ntmps9
  go_wp2_with fail
  refine (begun_any _).mono ?_
  rintro e w1 ⟨rfl, g1⟩
  go_wp2_with fail
  refine (new_any _).mono ?_
  rintro e w2 ⟨rfl, h2', g2⟩
  have z1 := g1.size
  have z2 := h2'.lt
  have HG2 := hide (g1.trans g2 (by simp))
  have HT2 := hide h2'
  clear g1 g2 h2'
  go_wp2_with fail
  go_loopw [9] (fun i wr => ∃ (k : Nat) (T : Tb), k ≤ n0 ∧ i = .int .i64 k ∧ Has 78 wr w1.heap.size T ∧ Has 31 wr w2.heap.size T ∧ Inv T ∧ Chg [] w wr) (fun i _ => n0 - (intOf i).toNat)
  case atStart => exact ⟨0, T0, by omega, rfl, (unhide HT2).alloc _, Blk.new w2 _ _, inv_T0, (unhide HG2).alloc _⟩
  case round =>
    obtain ⟨k, T, hk, rfl, hT, hB, hI, hG⟩ := hrel
    clear HT2 HG2
    generalize hta : w1.heap.size = ta at *
    generalize hba : w2.heap.size = ba at *
    clear hta hba
    by_cases hlt : k < n0
    · have hki : (k : Int) < (n0 : Int) := by omega
      have hk0 : (0 : Int) ≤ (k : Int) := by omega
      rcases unhide HO0 with e0 | ⟨bl, off, rfl, hbl, hO⟩
      · omega
      have hL := hO k hlt
      have HL := hide hL
      clear hO
      generalize os0 k = o at *
      obtain ⟨p0, p1, p2, p3, p4, p5⟩ := hL.chg hG hbl (by simp)
      clear hL
      go_wp2_with (first
        | (go_at_call 18; refine (do_any ta o T _ hT hI.fit).mono ?_; rintro e w3 ⟨rfl, hT3, g3⟩; have hB3 := hB.chg g3 (by simp; omega); have G3 := hG.trans g3 (by simp; omega); clear g3 p0 p1 p2 p3 p4 p5; obtain ⟨p0, p1, p2, p3, p4, p5⟩ := (unhide HL).chg G3 hbl (by simp))
        | (go_at_call 21; refine (bdo_all ba o T _ hB3 hI).mono ?_; rintro e w4 ⟨rfl, hB4, g4⟩; have hT4 := hT3.chg g4 (by simp; omega); have G4 := G3.trans g4 (by simp; omega); clear g4 p0 p1 p2 p3 p4 p5))
      go_roundw
      case rel => exact ⟨k + 1, (doT T o).1, by omega, by go_num, hT4, hB4, hI.step o, G4⟩
      case measure => go_light; simp [intOf]; omega
    · have hkn : ¬ (k : Int) < (n0 : Int) := by omega
      have lT := hT.lt
      have lB := hB.lt
      have tok : True := trivial
      go_wp2_with (first
        | (go_at_call 17; refine (own_any ta T _ hT).mono ?_; rintro e w3 ⟨rfl, hU3, g3⟩; have hT3 := hT.chg g3 (by simp); have hB3 := hB.chg g3 (by simp); have G3 := hG.trans g3 (by simp); have lU := hU3.lt; clear g3)
        | (refine wpList_load_tab 31 brdRow brdInfo rfl _ rfl ba rfl 31 T ?hs ?_; (case hs => first | exact hB3 | exact hB3.alloc _))
        | (have _t := tok; clear tok; refine wpList_store_tab 31 brdInfo rfl _ _ rfl w3.heap.size rfl T rfl 31 T0 (heap_alloc_last _ _) ?_; intro w4 hC4 hg4 hz4; have hT4 := (hT3.alloc _).chg hg4 (by simp; omega); have hB4 := (hB3.alloc _).chg hg4 (by simp; omega); have hU4 := (hU3.alloc _).chg hg4 (by simp; omega); have G4 := (G3.alloc _).trans hg4 (by simp; omega); clear hz4 hg4)
        | (go_at_call 22; refine (same_all wr.heap.size ba T _ hU4 hB4).mono ?_; rintro e w5 ⟨rfl, g5⟩; have hT5 := hT4.chg g5 (by simp); have hB5 := hB4.chg g5 (by simp); have hU5 := hU4.chg g5 (by simp); have hC5 := hC4.chg g5 (by simp); have G5 := G4.trans g5 (by simp); clear g5))
      have d1 : ta ≠ wr.heap.size := by omega
      have d2 : ba ≠ w3.heap.size := by omega
      have d3 : wr.heap.size ≠ w3.heap.size := by omega
      have d4 : ta ≠ w3.heap.size := by omega
      have d5 : ba ≠ wr.heap.size := by omega
      have zG := hG.size
      have zG3 := G3.size
      clear hT3 hB3 hU3 G3 hT4 hB4 hU4 hC4 G4 lT lB lU
      generalize hua : wr.heap.size = ua at *
      generalize hca : w3.heap.size = ca at *
      have KT := hide hT5
      have KB := hide hB5
      have KU := hide hU5
      have KC := hide hC5
      have KG := hide G5
      have KI := hide hI
      clear hT5 hB5 hU5 hC5 G5 hI hT hB hG hua hca
      go_loopw [12] (fun i wq => ∃ (q : Nat) (T U : Tb), (q ≤ n1 ∨ q ≤ n2) ∧ i = .int .i64 q ∧ Has 78 wq ta T ∧ Has 31 wq ba T ∧ Has 78 wq ua U ∧ Has 31 wq ca U ∧ Inv T ∧ Inv U ∧ Chg [] w wq) (fun i _ => 200 - (intOf i).toNat)
      case atStart => exact ⟨0, T, T, by omega, rfl, unhide KT, unhide KB, unhide KU, unhide KC, unhide KI, unhide KI, unhide KG⟩
      case round =>
        obtain ⟨q, T1, U1, hq, rfl, hT, hB, hU, hC, hI, hJ, hG⟩ := hrel
        clear KT KB KU KC KG KI
        have hq0 : (0 : Int) ≤ (q : Int) := by omega
        by_cases hA : q < n1
        · have hAi : (q : Int) < (n1 : Int) := by omega
          rcases unhide HO1 with e0 | ⟨bl, off, rfl, hbl, hO⟩
          · omega
          have hL := hO q hA
          have HL := hide hL
          clear hO hL
          generalize os1 q = o at *
          go_wp2_with fail
          have Td := hT.drew
          have Bd := hB.drew
          have Ud := hU.drew
          have Cd := hC.drew
          have Gd := hG.drew
          go_region_held3 (fun w' => w'.cell? ⟨bl, off + q * 6, none⟩ = some (.int .i64 o.k) ∧ w'.cell? ⟨bl, off + q * 6 + 1, none⟩ = some (.int .i64 o.now) ∧ w'.cell? ⟨bl, off + q * 6 + 2, none⟩ = some (.int .i64 o.jb) ∧ w'.cell? ⟨bl, off + q * 6 + 3, none⟩ = some (.int .i64 o.tr) ∧ w'.cell? ⟨bl, off + q * 6 + 4, none⟩ = some (.int .i64 o.wk) ∧ w'.cell? ⟨bl, off + q * 6 + 5, none⟩ = some (.int .i64 o.tm)) (first | exact (unhide HL).chg (by assumption) hbl (by simp)) (first
            | (go_at_call 18; refine (do_any ta o T1 _ Td hI.fit).mono ?_; rintro e wa ⟨rfl, Ta, ga⟩; have Ga := Gd.trans ga (by simp; omega); have Ba := Bd.chg ga (by simp; omega); have Ua := Ud.chg ga (by simp; omega); have Ca := Cd.chg ga (by simp; omega); clear ga)
            | (go_at_call 21; refine (bdo_all ba o T1 _ Ba hI).mono ?_; rintro e wb ⟨rfl, Be, gb⟩; have Ge := Ga.trans gb (by simp; omega); have Te := Ta.chg gb (by simp; omega); have Ue := Ua.chg gb (by simp; omega); have Ce := Ca.chg gb (by simp; omega); clear gb))
          have hI2 := hI.step o
          generalize (doT T1 o).1 = T2 at *
          clear Td Bd Ud Cd Gd Ga Ba Ua Ca Ta hT hB hU hC hG hI HL
          by_cases hB2 : q < n2
          · have hBi : (q : Int) < (n2 : Int) := by omega
            go_wp2_with fail
            rcases unhide HO2 with e0 | ⟨bl2, off2, rfl, hbl2, hO2⟩
            · omega
            have hL2 := hO2 q hB2
            have HL2 := hide hL2
            clear hO2 hL2
            generalize os2 q = o2 at *
            have Tg := Te.drew
            have Bg := Be.drew
            have Ug := Ue.drew
            have Cg := Ce.drew
            have Gg := Ge.drew
            go_region_held3 (fun w' => w'.cell? ⟨bl2, off2 + q * 6, none⟩ = some (.int .i64 o2.k) ∧ w'.cell? ⟨bl2, off2 + q * 6 + 1, none⟩ = some (.int .i64 o2.now) ∧ w'.cell? ⟨bl2, off2 + q * 6 + 2, none⟩ = some (.int .i64 o2.jb) ∧ w'.cell? ⟨bl2, off2 + q * 6 + 3, none⟩ = some (.int .i64 o2.tr) ∧ w'.cell? ⟨bl2, off2 + q * 6 + 4, none⟩ = some (.int .i64 o2.wk) ∧ w'.cell? ⟨bl2, off2 + q * 6 + 5, none⟩ = some (.int .i64 o2.tm)) (first | exact (unhide HL2).chg (by assumption) hbl2 (by simp)) (first
              | (go_at_call 18; refine (do_any ua o2 U1 _ Ug hJ.fit).mono ?_; rintro e wx ⟨rfl, Ux, gx⟩; have Gx := Gg.trans gx (by simp; omega); have Tx := Tg.chg gx (by simp; omega); have Bx := Bg.chg gx (by simp; omega); have Cx := Cg.chg gx (by simp; omega); clear gx)
              | (go_at_call 21; refine (bdo_all ca o2 U1 _ Cx hJ).mono ?_; rintro e wy ⟨rfl, Cy, gy⟩; have Gy := Gx.trans gy (by simp; omega); have Ty := Tx.chg gy (by simp; omega); have By := Bx.chg gy (by simp; omega); have Uy := Ux.chg gy (by simp; omega); clear gy))
            go_wp2
            go_roundw
            case rel => exact ⟨q + 1, _, (doT U1 o2).1, by omega, by go_num, Ty, By, Uy, Cy, hI2, hJ.step o2, Gy⟩
            case measure => go_light; simp [intOf]; omega
          · have hBi : ¬ (q : Int) < (n2 : Int) := by omega
            go_wp2_with fail
            go_quiet (fail)
            go_wp2
            go_roundw
            case rel => exact ⟨q + 1, _, U1, by omega, by go_num, Te.drewN _, Be.drewN _, Ue.drewN _, Ce.drewN _, hI2, hJ, Ge.drewN _⟩
            case measure => go_light; simp [intOf]; omega
        · have hAi : ¬ (q : Int) < (n1 : Int) := by omega
          by_cases hB2 : q < n2
          · have hBi : (q : Int) < (n2 : Int) := by omega
            go_wp2_with fail
            go_quiet (fail)
            have Te := hT.drewN nq
            have Be := hB.drewN nq
            have Ue := hU.drewN nq
            have Ce := hC.drewN nq
            have Ge := hG.drewN nq
            have hI2 := hI
            clear hT hB hU hC hG
            go_wp2_with fail
            rcases unhide HO2 with e0 | ⟨bl2, off2, rfl, hbl2, hO2⟩
            · omega
            have hL2 := hO2 q hB2
            have HL2 := hide hL2
            clear hO2 hL2
            generalize os2 q = o2 at *
            have Tg := Te.drew
            have Bg := Be.drew
            have Ug := Ue.drew
            have Cg := Ce.drew
            have Gg := Ge.drew
            go_region_held3 (fun w' => w'.cell? ⟨bl2, off2 + q * 6, none⟩ = some (.int .i64 o2.k) ∧ w'.cell? ⟨bl2, off2 + q * 6 + 1, none⟩ = some (.int .i64 o2.now) ∧ w'.cell? ⟨bl2, off2 + q * 6 + 2, none⟩ = some (.int .i64 o2.jb) ∧ w'.cell? ⟨bl2, off2 + q * 6 + 3, none⟩ = some (.int .i64 o2.tr) ∧ w'.cell? ⟨bl2, off2 + q * 6 + 4, none⟩ = some (.int .i64 o2.wk) ∧ w'.cell? ⟨bl2, off2 + q * 6 + 5, none⟩ = some (.int .i64 o2.tm)) (first | exact (unhide HL2).chg (by assumption) hbl2 (by simp)) (first
              | (go_at_call 18; refine (do_any ua o2 U1 _ Ug hJ.fit).mono ?_; rintro e wx ⟨rfl, Ux, gx⟩; have Gx := Gg.trans gx (by simp; omega); have Tx := Tg.chg gx (by simp; omega); have Bx := Bg.chg gx (by simp; omega); have Cx := Cg.chg gx (by simp; omega); clear gx)
              | (go_at_call 21; refine (bdo_all ca o2 U1 _ Cx hJ).mono ?_; rintro e wy ⟨rfl, Cy, gy⟩; have Gy := Gx.trans gy (by simp; omega); have Ty := Tx.chg gy (by simp; omega); have By := Bx.chg gy (by simp; omega); have Uy := Ux.chg gy (by simp; omega); clear gy))
            go_wp2
            go_roundw
            case rel => exact ⟨q + 1, _, (doT U1 o2).1, by omega, by go_num, Ty, By, Uy, Cy, hI2, hJ.step o2, Gy⟩
            case measure => go_light; simp [intOf]; omega
          · have hBi : ¬ (q : Int) < (n2 : Int) := by omega
            have tk : True := trivial
            go_wp2_with (first
              | (have _t := tk; go_at_call 22; refine (same_all ta ba T1 _ hT hB).mono ?_; rintro e w6 ⟨rfl, g6⟩; have hU6 := hU.chg g6 (by simp); have hC6 := hC.chg g6 (by simp); have G6 := hG.trans g6 (by simp); clear g6 tk)
              | (go_at_call 22; refine (same_all ua ca U1 _ hU6 hC6).mono ?_; rintro e w7 ⟨rfl, g7⟩; have G7 := G6.trans g7 (by simp); clear g7))
            go_ret
            exact ⟨rfl, G7⟩

end Go.Proofs.Ytkkffgojblopjaa
