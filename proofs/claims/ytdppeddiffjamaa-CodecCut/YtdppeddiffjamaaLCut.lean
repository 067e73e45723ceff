/-
  The walk of the law 'what is cut is none'. Nothing here is claimed by itself.
-/
import Derived.Test.YtdppeddiffjamaaCCut0
import Derived.Deep.RegionHeld3
namespace Go.Proofs.Ytdppeddiffjamaa
open Go.RowKit

set_option maxRecDepth 100000 in
set_option maxHeartbeats 4000000 in
theorem cut_short (a : Option Addr) (len cap : Nat) (x : Int) (fs : Nat → Rc) (w : World) (hlen : len ≤ 100) (hR : Recs w a len fs) :
    Calls Try.prog 13 #[.slice a len cap, .int .i64 x] w fun e w' => e = .returned (.bool true) ∧ Chg [] w w' := by
  obtain ⟨i0, hi, hz0, hz1, hz2⟩ := info_parts u8Info
  obtain ⟨i1, hj, hy0, hy1, hy2⟩ := info_parts recInfo3
  have hle : decide ((100 : Int) < (len : Int)) = false := by simp; omega
  have HR := hide hR
  clear hR
  go_enter Try.func13, Try.ntmps13
  go_wp2_with fail
  refine (cbegun_any _).mono ?_
  rintro e w1 ⟨rfl, g1⟩
  go_wp2_with fail
  go_loopw [5, 6, 7] (fun vb vi i wr => ∃ (k : Nat) (rs : List Rc), k ≤ len ∧ i = .int .i64 k ∧ rs.length ≤ k ∧ goodF 0 rs ∧ wr.ownsRow w.heap.size 5 1 vb (9 * rs.length) (bysR rs) ∧ wr.ownsRow w.heap.size 48 7 vi rs.length (cellsR rs) ∧ Chg [] w wr) (fun _ _ i _ => len - (intOf i).toNat)
  case atStart => exact ⟨0, [], by omega, rfl, by simp, trivial, World.ownsRow_nil _ _ _ _, World.ownsRow_nil _ _ _ _, g1⟩
  case round =>
    obtain ⟨k, rs, hk, rfl, hrl, hgd, ownB, ownI, hG⟩ := hrel
    have HGD := hide hgd
    clear hgd g1
    generalize hm : rs.length = m at *
    have HM := hide hm
    clear hm
    by_cases hlt : k < len
    · have hki : (k : Int) < (len : Int) := by omega
      rcases unhide HR with h0 | ⟨bl, off, rfl, hbl, hO⟩
      · omega
      have hL := hO k hlt
      obtain ⟨p0, p1, p2, p3, p4, p5, p6⟩ := hL.chg hG hbl
      have HL := hide hL
      clear hL hO
      generalize fs k = r at *
      go_wp2_with fail
      refine (enc_both r _).mono ?_
      rintro e w2 ⟨v2, rfl, hn2, hy, g2⟩
      have G2 := hG.trans g2 (by simp)
      have B2 := own_chg ownB g2
      have I2 := own_chg ownI g2
      obtain ⟨q0, q1, q2, q3, q4, q5, q6⟩ := (unhide HL).chg G2 hbl
      have HY := hide hy
      clear ownB ownI g2 hG hn2 hy p0 p1 p2 p3 p4 p5 p6
      by_cases hc : ckR r = 0
      · obtain ⟨g, rfl, hg, BE⟩ := unhide HY hc
        have hc' := hc
        rw [hc]
        clear hc
        clear HY
        have zz := G2.size
        obtain ⟨ai, ci, rfl, hci, hani, hRi⟩ := own_recs I2 (unhide HM).symm
        rcases m with _ | m
        · go_wp2_with fail
          go_quiet (fail)
          have B3 : (w2.drewN nq).ownsRow w.heap.size 5 1 u5 (9 * 0) (bysR rs) := B2
          have I3 : (w2.drewN nq).ownsRow w.heap.size 48 7 (.slice ai 0 ci) 0 (cellsR rs) := I2
          have BE3 : Blk (w2.drewN nq) g _ _ := BE
          have G3 := G2.drewN nq
          clear B2 I2 BE G2 q0 q1 q2 q3 q4 q5 q6 hRi
          generalize w2.drewN nq = w3 at *
          go_wp2_with (first
            | (at_builtin; refine wpList_append_own _ rfl (.tmp 52) (.tmp 53) 49 rfl w.heap.size 5 i0 (.int .u8 0) 1 1 Try.underlying49 hi hz0 hz1 hz2 rfl (by decide) u5 (9 * 0) (bysR rs) rfl B3 ⟨g, 0, none⟩ 9 9 (nine r) rfl rfl BE3.news (nine_one r) (by unfold maxLen; omega) (by omega) G3.size ?_; intro vb' w4 B4 gr4 _; have I4 := I3.kept gr4 (own_ne I3 B3 (by decide)); have G4 := G3.grown gr4 (fun j hj => .inr (B3.lt j hj).1); obtain ⟨q0, q1, q2, q3, q4, q5, q6⟩ := (unhide HL).chg G4 hbl; clear B3 I3 gr4 G3 BE3)
            | (at_builtin; refine wpList_append_own _ rfl (.tmp 55) (.tmp 60) 57 rfl w.heap.size 48 i1 _ 7 56 Try.underlying57 hj hy0 hy1 hy2 rfl (by decide) (.slice ai 0 ci) 0 (cellsR rs) rfl (I4.alloc _) ⟨w4.heap.size, 0, none⟩ 1 1 r.list rfl rfl (Blk.new _ r.cells _).news (by simp [Rc.list, Value.oneCell']) (by unfold maxLen; omega) (by omega) (by have := G4.size; simp; omega) ?_; intro vi' w5 I5 gr5 _; have B5 := (B4.alloc _).kept gr5 (own_ne B4 I4 (by decide)); have G5 := (G4.alloc _).grown gr5 (fun j hj => .inr (I4.lt j hj).1); clear B4 I4 gr5 G4 q0 q1 q2 q3 q4 q5 q6))
          go_roundw
          case rel => exact ⟨k + 1, rs ++ [r], by omega, by go_num, by simp; rw [unhide HM]; omega, goodF_snoc hc' rs 0 (unhide HGD) (by obtain rfl := List.eq_nil_of_length_eq_zero (unhide HM); have := (ckR_bd hc').1; simp only [lastE]; omega), by rw [bysR_snoc, List.length_append, unhide HM]; exact B5, by rw [cellsR_snoc, List.length_append, unhide HM]; exact I5, G5⟩
          case measure => go_light; simp [intOf]; omega
        · rcases hRi with h0 | ⟨bi, oi, rfl, hbi, hRi⟩
          · omega
          have ce := (hRi m (by omega)).1
          rw [← lastE_at rs 0 m (unhide HM)] at ce
          clear hRi
          have hwm : IntKind.i64.wrap (m : Int) = m := by simp [IntKind.wrap, IntKind.bits, IntKind.signed]; omega
          have hm0 : ((m : Int) + 1 == 0) = false := by simp; omega
          by_cases hep : lastE 0 rs ≤ r.ep
          · go_wp2_with fail
            go_quiet (fail)
            have B3 : (w2.drewN nq).ownsRow w.heap.size 5 1 u5 (9 * (m + 1)) (bysR rs) := B2
            have I3 : (w2.drewN nq).ownsRow w.heap.size 48 7 (.slice (some ⟨bi, oi, none⟩) (m + 1) ci) (m + 1) (cellsR rs) := I2
            have BE3 : Blk (w2.drewN nq) g _ _ := BE
            have G3 := G2.drewN nq
            clear B2 I2 BE G2 q0 q1 q2 q3 q4 q5 q6 ce
            generalize w2.drewN nq = w3 at *
            go_wp2_with (first
              | (at_builtin; refine wpList_append_own _ rfl (.tmp 52) (.tmp 53) 49 rfl w.heap.size 5 i0 (.int .u8 0) 1 1 Try.underlying49 hi hz0 hz1 hz2 rfl (by decide) u5 (9 * (m + 1)) (bysR rs) rfl B3 ⟨g, 0, none⟩ 9 9 (nine r) rfl rfl BE3.news (nine_one r) (by unfold maxLen; omega) (by omega) G3.size ?_; intro vb' w4 B4 gr4 _; have I4 := I3.kept gr4 (own_ne I3 B3 (by decide)); have G4 := G3.grown gr4 (fun j hj => .inr (B3.lt j hj).1); obtain ⟨q0, q1, q2, q3, q4, q5, q6⟩ := (unhide HL).chg G4 hbl; clear B3 I3 gr4 G3 BE3)
              | (at_builtin; refine wpList_append_own _ rfl (.tmp 55) (.tmp 60) 57 rfl w.heap.size 48 i1 _ 7 56 Try.underlying57 hj hy0 hy1 hy2 rfl (by decide) (.slice (some ⟨bi, oi, none⟩) (m + 1) ci) (m + 1) (cellsR rs) rfl (I4.alloc _) ⟨w4.heap.size, 0, none⟩ 1 1 r.list rfl rfl (Blk.new _ r.cells _).news (by simp [Rc.list, Value.oneCell']) (by unfold maxLen; omega) (by omega) (by have := G4.size; simp; omega) ?_; intro vi' w5 I5 gr5 _; have B5 := (B4.alloc _).kept gr5 (own_ne B4 I4 (by decide)); have G5 := (G4.alloc _).grown gr5 (fun j hj => .inr (I4.lt j hj).1); clear B4 I4 gr5 G4 q0 q1 q2 q3 q4 q5 q6))
            go_roundw
            case rel => exact ⟨k + 1, rs ++ [r], by omega, by go_num, by simp; rw [unhide HM]; omega, goodF_snoc hc' rs 0 (unhide HGD) hep, by rw [bysR_snoc, List.length_append, unhide HM]; exact B5, by rw [cellsR_snoc, List.length_append, unhide HM]; exact I5, G5⟩
            case measure => go_light; simp [intOf]; omega
          · go_wp2_with fail
            go_quiet (fail)
            go_wp2
            go_roundw
            case rel => exact ⟨k + 1, rs, by omega, by go_num, by rw [unhide HM]; omega, unhide HGD, by rw [unhide HM]; exact B2, by rw [unhide HM]; exact I2, G2.drewN _⟩
            case measure => go_light; simp [intOf]; omega
      · have hcb : (ckR r == 0) = false := by simpa using hc
        generalize ckR r = c at *
        go_wp2_with fail
        go_quiet (fail)
        go_wp2
        go_roundw
        case rel => exact ⟨k + 1, rs, by omega, by go_num, by rw [unhide HM]; omega, unhide HGD, by rw [unhide HM]; exact B2, by rw [unhide HM]; exact I2, G2.drewN _⟩
        case measure => go_light; simp [intOf]; omega
    · have hkl : ¬ (k : Int) < (len : Int) := by omega
      have hl9 : 9 * m = 9 * rs.length := by rw [unhide HM]
      obtain ⟨ab, cb, rfl, hcb, hYb⟩ := own_byts ownB (f := byF rs) (fun i hi => byF_bd (unhide HGD) i (by omega)) (fun i hi => bysR_at rs i (by omega))
      obtain ⟨ai, ci, rfl, hci, -, hRi⟩ := own_recs ownI (unhide HM).symm
      clear ownB ownI
      obtain ⟨kk, hkk, ekk⟩ := pickN x (9 * m) (by omega)
      have hN : 9 * m ≤ 900 := by omega
      have hk9 : kk / 9 ≤ m := by omega
      have hal := hide (allR_cut (unhide HGD) (show kk ≤ 9 * rs.length by omega))
      have hKC : (kk : Int) ≤ (cb : Int) := by omega
      have hKI : ((kk / 9 : Nat) : Int) ≤ (ci : Int) := by omega
      have hKQ : (kk : Int) / 9 = ((kk / 9 : Nat) : Int) := by omega
      have hl1 : (rs.take (kk / 9)).length = kk / 9 := by rw [List.length_take, unhide HM]; omega
      have HL1 := hide hl1
      clear hl9 hl1
      have hYk := hYb.le hkk
      have hRk := hRi.le hk9
      clear hYb hRi hcb hci
      generalize 9 * m = N at *
      have hNi : (N : Int) ≤ 900 := by omega
      generalize hQ : kk / 9 = qq at *
      have HQ := hide hQ
      clear hQ
      have hTD : (kk : Int).tdiv 9 = (qq : Int) := by rw [Int.tdiv_eq_ediv_of_nonneg (by omega)]; exact hKQ
      have hWQ : IntKind.i64.wrap (qq : Int) = qq := by simp [IntKind.wrap, IntKind.bits, IntKind.signed]; omega
      have hYd := hYk.chg ((Chg.refl [] wr).drew)
      have hRd := hRk.chg ((Chg.refl [] wr).drew)
      have hGd := hG.drew
      clear hYk hRk hG
      go_wp2_with fail
      go_region_held3 (fun _ => True) (trivial) (first
        | (go_at_call 32; refine (all_any ab kk cb (byF rs) _ (by omega) (by omega) hYd).mono ?_; rintro e w3 ⟨v3, rfl, own3, g3⟩; rw [unhide hal, unhide HL1] at own3; obtain ⟨a3, c3, rfl, -, -, R3⟩ := own_recs own3 (unhide HL1).symm; replace R3 := R3.congr (fun i hi => atR_take rs qq i hi); have RI3 := hRd.chg g3; have G3 := hGd.trans g3 (by simp))
        | (go_at_call 31; refine (same_any a3 ai qq c3 ci (atR rs) _ (by omega) R3 RI3).mono ?_; rintro e w4 ⟨rfl, d4, rfl⟩))
      go_wp2
      go_ret
      exact ⟨rfl, G3.drewN _⟩

end Go.Proofs.Ytdppeddiffjamaa
