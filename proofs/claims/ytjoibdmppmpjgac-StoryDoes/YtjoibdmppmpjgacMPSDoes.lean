/- For all bytes, numbers and events the law StoryDoes returns true, and leaves them as they were; no condition. -/
import Derived.BigQuiet
import Derived.Test.YtjoibdmppmpjgacMgS5
import Derived.Test.YtjoibdmppmpjgacMgS2
import Derived.Test.YtjoibdmppmpjgacMgBegun
import Derived.Test.YtjoibdmppmpjgacMgGA
import Derived.Test.YtjoibdmppmpjgacMSFrame
namespace Go.Proofs.Ytjoibdmppmpjgac
open Go.RowKit

theorem Evs.congr {w : World} {a : Option Addr} {n : Nat} {fs gs : Nat → Ev} (h : Evs w a n fs) (e : ∀ i, i < n → fs i = gs i) : Evs w a n gs := by
  rcases h with h | ⟨bl, off, h1, h2, h3⟩
  · exact .inl h
  · exact .inr ⟨bl, off, h1, h2, fun i hi => e i hi ▸ h3 i hi⟩
theorem atE_range (fs : Nat → Ev) {n i : Nat} (h : i < n) : atE ((List.range n).map fs) i = fs i := by
  unfold atE
  simp [List.getD, h]

set_option maxRecDepth 100000 in
set_option maxHeartbeats 8000000 in
theorem sdoes_any (v : Value) (l : List Int) (nn job : Int) (a : Option Addr) (len cap : Nat) (fs : Nat → Ev) (W : World) (hb : Sl W v l) (hk : okB l) (h : Evs W a len fs) :
    Calls Try.prog 3 #[v, .int .i64 nn, .int .i64 job, .slice a len cap] W fun e w' => e = .returned (.bool true) ∧ Chg [] W w' := by
  obtain ⟨a0, c0, rfl, hc0, hB⟩ := sl_byt hb hk
  clear hb hk
  obtain ⟨i0, hi, hz0, hz1, hz2⟩ := kInfoParts intInfoS
  obtain ⟨N, hN⟩ : ∃ N, N = l.length := ⟨_, rfl⟩
  rw [← hN] at hc0 hB ⊢
  have HB := hide hB
  clear hB hN
  obtain ⟨L, hL⟩ : ∃ L, L = (List.range len).map fs := ⟨_, rfl⟩
  have HEL := hide (h.congr (gs := atE L) (fun i hi => by rw [hL, atE_range fs hi]))
  have HL := hide (show L.length = len by rw [hL]; simp)
  clear h hL
  by_cases hbig : 3000 < N
  · have d1 : decide ((3000 : Int) < (N : Int)) = true := by simp; omega
    go_enter Try.func3, Try.ntmps3
    go_wp2_with (go_at_call 7; refine (sbegun_any _).mono ?_; rintro e w1 ⟨rfl, G1⟩)
    go_ret
    exact ⟨rfl, G1⟩
  have d1 : decide ((3000 : Int) < (N : Int)) = false := by simp; omega
  by_cases hbig2 : 200 < len
  · have d2 : decide ((200 : Int) < (len : Int)) = true := by simp; omega
    go_enter Try.func3, Try.ntmps3
    go_wp2_with (go_at_call 7; refine (sbegun_any _).mono ?_; rintro e w1 ⟨rfl, G1⟩)
    go_ret
    exact ⟨rfl, G1⟩
  have d2 : decide ((200 : Int) < (len : Int)) = false := by simp; omega
  obtain ⟨rs, hrs⟩ : ∃ rs, rs = allR N (getB l) := ⟨_, rfl⟩
  have HRS := hide hrs
  have hfew := allR_few N (getB l)
  rw [← hrs] at hfew
  clear hrs
  obtain ⟨n, hn⟩ : ∃ n, n = rs.length := ⟨_, rfl⟩
  rw [← hn] at hfew
  have HN := hide hn
  clear hn
  go_enter Try.func3, Try.ntmps3
  go_wp2_with (first
    | (go_at_call 7; refine (sbegun_any _).mono ?_; rintro e w1 ⟨rfl, G1⟩)
    | (go_at_call 8; refine (of_any a0 N c0 (getB l) _ (by omega) hc0 ((unhide HB).chg G1)).mono ?_; rintro e w3 ⟨v3, rfl, own3, g3⟩; rw [← unhide HRS, ← unhide HN] at own3; obtain ⟨a3, c3, rfl, hc3, E3⟩ := own_evs own3 (by rw [evs_len]; exact unhide HN); have HE3 := hide E3; have G3 := G1.trans g3 (by simp); clear own3 E3 g3)
    | (go_at_call 9; refine (evof_any a0 N c0 (getB l) _ (by omega) hc0 ((unhide HB).chg G3)).mono ?_; rintro e w4 ⟨v4, rfl, own4, g4⟩; rw [← unhide HRS, ← unhide HN] at own4; obtain ⟨a4, c4, rfl, hc4, E4⟩ := own_evs own4 (by rw [evs_len]; exact unhide HN); have HE4 := hide E4; have HE34 := hide ((unhide HE3).chg g4); have G4 := G3.trans g4 (by simp); clear own4 E4 g4))
  go_loopw [11] (fun i wr => ∃ j : Nat, j ≤ n ∧ i = .int .i64 j ∧ Chg [] w4 wr) (fun i _ => n - (intOf i).toNat)
  case atStart => exact ⟨0, by omega, rfl, Chg.refl _ _⟩
  case round =>
    obtain ⟨j, hj, rfl, hG⟩ := hrel
    by_cases hlt : j < n
    · have hji : (j : Int) < (n : Int) := by omega
      have hj0 : (0 : Int) ≤ (j : Int) := by omega
      rcases unhide HE34 with h0 | ⟨be, oe, rfl, hbe, hO⟩
      · omega
      rcases unhide HE4 with h0 | ⟨bf, of, rfl, hbf, hO'⟩
      · omega
      obtain ⟨p0, p1, p2, p3, p4, p5, p6, p7, p8, p9, p10, p11, p12, p13⟩ := ((hO j hlt).chg hG hbe (by simp)).all
      obtain ⟨q0, q1, q2, q3, q4, q5, q6, q7, q8, q9, q10, q11, q12, q13⟩ := ((hO' j hlt).chg hG hbf (by simp)).all
      have hbe' := Nat.lt_of_lt_of_le hbe hG.size
      have hbf' := Nat.lt_of_lt_of_le hbf hG.size
      clear hO hO'
      generalize atE (evs rs) j = e at *
      go_wp2_with fail
      go_quiet (fail)
      go_wp2
      go_roundw
      case rel => exact ⟨j + 1, by omega, by go_num, hG.drewN _⟩
      case measure => go_light; simp [intOf]; omega
    · have hji : ¬ (j : Int) < (n : Int) := by omega
      have Gq := G4.trans hG (by simp)
      clear hG G4 G3 HE34 HE4 HE3
      by_cases h0 : nn < 0
      · have e0 : decide ((0 : Int) ≤ nn) = false := by simp; omega
        have HNO := hide (show nn < 0 ∨ (n : Int) < nn from .inl h0)
        clear h0
        go_wp2_with (first
          | (go_at_call 10; refine (rsof_any a0 N c0 (getB l) _ (by omega) hc0 ((unhide HB).chg Gq)).mono ?_; rintro x w5 ⟨v5, rfl, own5, g5⟩; rw [← unhide HRS, ← unhide HN] at own5; obtain ⟨a5, c5, rfl, hc5, -, R5⟩ := own_recs own5 (unhide HN); have G5 := Gq.trans g5 (by simp); clear own5 R5 g5)
          | (go_at_call 11; refine (table_no a0 N c0 (getB l) nn _ (by omega) hc0 ((unhide HB).chg G5) (by rw [← unhide HRS, ← unhide HN]; exact unhide HNO)).mono ?_; rintro x w6 ⟨rfl, g6⟩; have G6 := G5.trans g6 (by simp); clear g6))
        refine (holders_any a len cap L job _ (unhide HL) (by omega) ((unhide HEL).chg G6)).mono ?_
        rintro x wX ⟨vX, rfl, ownX, gX⟩
        have GX := G6.trans gX (by simp)
        go_wp2_with fail
        refine (events_any a len cap L _ (unhide HL) (by omega) ((unhide HEL).chg GX)).mono ?_
        rintro x wY ⟨vY, rfl, ownY, gY⟩
        obtain ⟨aY, cY, rfl, hcY, EY⟩ := own_evs ownY (unhide HL).symm
        have ownX2 := own_chg ownX gY
        have GY := GX.trans gY (by simp)
        clear ownX gX gY ownY
        go_wp2_with fail
        refine (holdof_any aY len cY L job _ (unhide HL) (by omega) EY).mono ?_
        rintro x wZ ⟨vZ, rfl, ownZ, gZ⟩
        have ownX3 := own_chg ownX2 gZ
        have GZ := GY.trans gZ (by simp)
        have hpl : (holdL L job).length ≤ 200 := Nat.le_trans (holdL_len _ _) (by rw [unhide HL]; omega)
        obtain ⟨ps, hps⟩ : ∃ ps, ps = holdL L job := ⟨_, rfl⟩
        rw [← hps] at ownX3 ownZ hpl
        obtain ⟨p, hp⟩ : ∃ p, p = ps.length := ⟨_, rfl⟩
        rw [← hp] at ownX3 ownZ hpl
        have HP := hide hp
        clear hps hp ownX2 gZ EY
        obtain ⟨aX, cX, rfl, hcX, PX⟩ := own_prs ownX3 (unhide HP)
        obtain ⟨aZ, cZ, rfl, hcZ, NZ⟩ := own_nums ownZ (by rw [unhide HP])
        have HPX := hide PX
        have HNZ := hide NZ
        clear ownX3 ownZ PX NZ
        go_wp2_with fail
        go_loopw [16, 17] (fun g i wr => ∃ j : Nat, j ≤ p ∧ i = .int .i64 j ∧ wr.ownsRow wZ.heap.size 3 1 g (j * 2) (cellsP (ps.take j)) ∧ Chg [] wZ wr) (fun _ i _ => p - (intOf i).toNat)
        case atStart => exact ⟨0, by omega, rfl, World.ownsRow_nil _ _ _ _, Chg.refl _ _⟩
        case round =>
          obtain ⟨i, hi', rfl, hown2, hG2⟩ := hrel
          by_cases hip : i < p
          · have hii : (i : Int) < (p : Int) := by omega
            have hi0 : (0 : Int) ≤ (i : Int) := by omega
            rcases unhide HPX with h0 | ⟨bp, rfl, hbp, hO⟩
            · omega
            obtain ⟨pr, hpr⟩ : ∃ pr, ps[i]? = some pr := ⟨_, List.getElem?_eq_getElem (by rw [← unhide HP]; exact hip)⟩
            have hpt : ps.take (i + 1) = ps.take i ++ [pr] := by
              rw [List.take_add_one, hpr]
              rfl
            have HPT := hide hpt
            have HPR := hide (show ∀ w', Chg [] wZ w' → w'.cell? ⟨bp, i * 2, none⟩ = some (.int .i64 pr.1) ∧ w'.cell? ⟨bp, i * 2 + 1, none⟩ = some (.int .i64 pr.2) from fun w' g => by rw [g.cell' hbp (by simp), g.cell' hbp (by simp)]; exact hO i pr hpr)
            obtain ⟨x1, x2⟩ := (unhide HPR) _ hG2
            clear hO hpr hpt
            go_wp2_with fail
            have Gd := hG2.drew
            have ownd : wr.drew.ownsRow _ _ _ _ _ _ := hown2
            have x1d : wr.drew.cell? ⟨bp, i * 2, none⟩ = some (.int .i64 pr.1) := x1
            have x2d : wr.drew.cell? ⟨bp, i * 2 + 1, none⟩ = some (.int .i64 pr.2) := x2
            refine wp_region_noPanic ?_
            refine wp_region_held_drew (S := (fun w' => w'.cell? ⟨bp, i * 2, none⟩ = some (.int .i64 pr.1) ∧ w'.cell? ⟨bp, i * 2 + 1, none⟩ = some (.int .i64 pr.2))) (by kernel_rfl) ⟨x1d, x2d⟩ (fun hH => ?_)
            refine wpAnyH_take (i := 0) (v := ?_) rfl (by kernel_rfl) (by kernel_rfl) (by kernel_rfl) (fun _ _ _ h => h) (Or.inl ⟨by rfl, ?hzq1⟩) hH ?rzq1
            case hzq1 => (intro W' hSw; (try dsimp only at hSw); go_simp; try with_reducible rfl)
            walk_nrm
            refine wpAnyH_take (i := 1) (v := ?_) rfl (by kernel_rfl) (by kernel_rfl) (by kernel_rfl) (fun _ _ _ h => h) (Or.inl ⟨by rfl, ?hzq2⟩) hH ?rzq2
            case hzq2 => (intro W' hSw; (try dsimp only at hSw); go_simp; try with_reducible rfl)
            walk_nrm
            refine wpAnyH_take (i := 2) (v := ?_) rfl (by kernel_rfl) (by kernel_rfl) (by kernel_rfl) (fun _ _ _ h => h) (Or.inl ⟨by rfl, ?hzq3⟩) hH ?rzq3
            case hzq3 => (intro W' hSw; (try dsimp only at hSw); go_simp; try with_reducible rfl)
            walk_nrm
            refine wpAnyH_take (i := 3) (v := ?_) rfl (by kernel_rfl) (by kernel_rfl) (by kernel_rfl) (fun _ _ _ h => h) (Or.inl ⟨by rfl, ?hzq4⟩) hH ?rzq4
            case hzq4 => (intro W' hSw; (try dsimp only at hSw); go_simp; try with_reducible rfl)
            walk_nrm
            refine wpAnyH_take (i := 4) (v := ?_) rfl (by kernel_rfl) (by kernel_rfl) (by kernel_rfl) (fun _ _ _ h => h) (Or.inl ⟨by rfl, ?hzq5⟩) hH ?rzq5
            case hzq5 => (intro W' hSw; (try dsimp only at hSw); go_simp; try with_reducible rfl)
            walk_nrm
            refine wpAnyH_take (i := 5) (v := ?_) rfl (by kernel_rfl) (by kernel_rfl) (by kernel_rfl) (fun _ _ _ h => h) (Or.inl ⟨by rfl, ?hzq6⟩) hH ?rzq6
            case hzq6 => (intro W' hSw; (try dsimp only at hSw); obtain ⟨s1, s2⟩ := hSw; go_simp; try with_reducible rfl)
            walk_nrm
            refine wpAnyH_take (i := 6) (v := ?_) rfl (by kernel_rfl) (by kernel_rfl) (by kernel_rfl) (fun _ _ _ h => h) (Or.inl ⟨by rfl, ?hzq7⟩) hH ?rzq7
            case hzq7 => (intro W' hSw; (try dsimp only at hSw); go_simp; try with_reducible rfl)
            walk_nrm
            refine wpAnyH_take (i := 7) (v := ?_) rfl (by kernel_rfl) (by kernel_rfl) (by kernel_rfl) (fun _ _ _ h => h) (Or.inl ⟨by rfl, ?hzq8⟩) hH ?rzq8
            case hzq8 => (intro W' hSw; (try dsimp only at hSw); go_simp; try with_reducible rfl)
            walk_nrm
            refine wpAnyH_take (i := 8) (v := ?_) rfl (by kernel_rfl) (by kernel_rfl) (by kernel_rfl) (fun _ _ _ h => h) (Or.inl ⟨by rfl, ?hzq9⟩) hH ?rzq9
            case hzq9 => (intro W' hSw; (try dsimp only at hSw); go_simp; try with_reducible rfl)
            walk_nrm
            refine wpAnyH_take (i := 9) (v := ?_) rfl (by kernel_rfl) (by kernel_rfl) (by kernel_rfl) (fun _ _ _ h => h) (Or.inl ⟨by rfl, ?hzq10⟩) hH ?rzq10
            case hzq10 => (intro W' hSw; (try dsimp only at hSw); go_simp; try with_reducible rfl)
            walk_nrm
            refine wpAnyH_take (i := 10) (v := ?_) rfl (by kernel_rfl) (by kernel_rfl) (by kernel_rfl) (fun _ _ _ h => h) (Or.inl ⟨by rfl, ?hzq11⟩) hH ?rzq11
            case hzq11 => (intro W' hSw; (try dsimp only at hSw); obtain ⟨s1, s2⟩ := hSw; go_simp; try with_reducible rfl)
            walk_nrm
            refine wpAnyH_ready (rs := [11]) (by kernel_rfl) (by simp) ?_
            refine AllReadyH.cons rfl (fun K hK => ?_) AllReadyH.nil
            rw [if_pos (by rfl)]
            go_simp
            have E7 := Blk.new wr.drew #[.int .i64 pr.1, .int .i64 pr.2] 3
            have own7 := ownd.alloc (.cells #[.int .i64 pr.1, .int .i64 pr.2] 3)
            have G7 := Gd.alloc (.cells #[.int .i64 pr.1, .int .i64 pr.2] 3)
            have A7 := (unhide HPR) _ G7
            refine hK.out _ _ A7 (fun hH2 => ?_)
            clear hK K hH
            have hH := hH2
            clear hH2
            walk_nrm
            clear A7
            refine wpAnyH_ready (rs := [12]) (by kernel_rfl) (by simp) ?_
            refine AllReadyH.cons rfl (fun K hK => ?_) AllReadyH.nil
            rw [if_pos (by rfl)]
            refine wp_append_own _ (.tmp 122) (.tmp 133) 48 rfl wZ.heap.size 3 i0 _ 1 8 Try.underlying48 hi hz0 hz1 hz2 rfl (by decide) u16 (i * 2) (cellsP (ps.take i)) rfl own7 ⟨wr.drew.heap.size, 0, none⟩ 2 2 (pairV pr) rfl rfl E7.news (by simp [pairV, Value.oneCell']) (by unfold maxLen; omega) (by omega) G7.size ?_
            intro v9 w9 own9 gr9 _
            have G9 := G7.grown gr9 (fun j hj => .inr (own7.lt j hj).1)
            have A9 := (unhide HPR) _ G9
            refine hK.out _ _ A9 (fun hH2 => ?_)
            clear hK K hH
            have hH := hH2
            clear hH2
            walk_nrm
            clear A9 gr9 own7 G7 E7
            refine wpAnyH_take (i := 13) (v := ?_) rfl (by kernel_rfl) (by kernel_rfl) (by kernel_rfl) (fun _ _ _ h => h) (Or.inl ⟨by rfl, ?hzq12⟩) hH ?rzq12
            case hzq12 => (intro W' hSw; (try dsimp only at hSw); go_simp; try with_reducible rfl)
            walk_nrm
            refine wpAnyH_done (by kernel_rfl) ?_ _
            refine NoPanic.normal ?_
            clear hH
            go_wp2
            go_roundw
            case rel => exact ⟨i + 1, by omega, by go_num, by rw [unhide HPT, cellsP_snoc, Nat.add_mul, Nat.one_mul]; exact own9, G9⟩
            case measure => go_light; simp [intOf]; omega

          · have hii : ¬ (i : Int) < (p : Int) := by omega
            have hie : i = p := by omega
            rw [show ps.take i = ps by rw [hie, unhide HP, List.take_length], hie] at hown2
            obtain ⟨aG, cG, rfl, hcG, NG⟩ := own_nums hown2 (by rw [unhide HP])
            have HIE := hide hie
            have HNG := hide NG
            clear hie hown2 NG
            go_wp2_with (go_at_call 17; refine (sameints_any aG aZ (p * 2) cG cZ (pairF ps) _ (by omega) (unhide HNG) ((unhide HNZ).chg hG2)).mono ?_; rintro x wE ⟨rfl, dE, rfl⟩)
            go_ret
            exact ⟨rfl, (GZ.trans hG2 (by simp)).drewN _⟩

      · by_cases h1 : (n : Int) < nn
        · have e0 : decide ((0 : Int) ≤ nn) = true := by simp; omega
          have e1 : decide (nn ≤ (n : Int)) = false := by simp; omega
          have HNO := hide (show nn < 0 ∨ (n : Int) < nn from .inr h1)
          clear h0 h1
          go_wp2_with (first
            | (go_at_call 10; refine (rsof_any a0 N c0 (getB l) _ (by omega) hc0 ((unhide HB).chg Gq)).mono ?_; rintro x w5 ⟨v5, rfl, own5, g5⟩; rw [← unhide HRS, ← unhide HN] at own5; obtain ⟨a5, c5, rfl, hc5, -, R5⟩ := own_recs own5 (unhide HN); have G5 := Gq.trans g5 (by simp); clear own5 R5 g5)
            | (go_at_call 11; refine (table_no a0 N c0 (getB l) nn _ (by omega) hc0 ((unhide HB).chg G5) (by rw [← unhide HRS, ← unhide HN]; exact unhide HNO)).mono ?_; rintro x w6 ⟨rfl, g6⟩; have G6 := G5.trans g6 (by simp); clear g6))
          refine (holders_any a len cap L job _ (unhide HL) (by omega) ((unhide HEL).chg G6)).mono ?_
          rintro x wX ⟨vX, rfl, ownX, gX⟩
          have GX := G6.trans gX (by simp)
          go_wp2_with fail
          refine (events_any a len cap L _ (unhide HL) (by omega) ((unhide HEL).chg GX)).mono ?_
          rintro x wY ⟨vY, rfl, ownY, gY⟩
          obtain ⟨aY, cY, rfl, hcY, EY⟩ := own_evs ownY (unhide HL).symm
          have ownX2 := own_chg ownX gY
          have GY := GX.trans gY (by simp)
          clear ownX gX gY ownY
          go_wp2_with fail
          refine (holdof_any aY len cY L job _ (unhide HL) (by omega) EY).mono ?_
          rintro x wZ ⟨vZ, rfl, ownZ, gZ⟩
          have ownX3 := own_chg ownX2 gZ
          have GZ := GY.trans gZ (by simp)
          have hpl : (holdL L job).length ≤ 200 := Nat.le_trans (holdL_len _ _) (by rw [unhide HL]; omega)
          obtain ⟨ps, hps⟩ : ∃ ps, ps = holdL L job := ⟨_, rfl⟩
          rw [← hps] at ownX3 ownZ hpl
          obtain ⟨p, hp⟩ : ∃ p, p = ps.length := ⟨_, rfl⟩
          rw [← hp] at ownX3 ownZ hpl
          have HP := hide hp
          clear hps hp ownX2 gZ EY
          obtain ⟨aX, cX, rfl, hcX, PX⟩ := own_prs ownX3 (unhide HP)
          obtain ⟨aZ, cZ, rfl, hcZ, NZ⟩ := own_nums ownZ (by rw [unhide HP])
          have HPX := hide PX
          have HNZ := hide NZ
          clear ownX3 ownZ PX NZ
          go_wp2_with fail
          go_loopw [16, 17] (fun g i wr => ∃ j : Nat, j ≤ p ∧ i = .int .i64 j ∧ wr.ownsRow wZ.heap.size 3 1 g (j * 2) (cellsP (ps.take j)) ∧ Chg [] wZ wr) (fun _ i _ => p - (intOf i).toNat)
          case atStart => exact ⟨0, by omega, rfl, World.ownsRow_nil _ _ _ _, Chg.refl _ _⟩
          case round =>
            obtain ⟨i, hi', rfl, hown2, hG2⟩ := hrel
            by_cases hip : i < p
            · have hii : (i : Int) < (p : Int) := by omega
              have hi0 : (0 : Int) ≤ (i : Int) := by omega
              rcases unhide HPX with h0 | ⟨bp, rfl, hbp, hO⟩
              · omega
              obtain ⟨pr, hpr⟩ : ∃ pr, ps[i]? = some pr := ⟨_, List.getElem?_eq_getElem (by rw [← unhide HP]; exact hip)⟩
              have hpt : ps.take (i + 1) = ps.take i ++ [pr] := by
                rw [List.take_add_one, hpr]
                rfl
              have HPT := hide hpt
              have HPR := hide (show ∀ w', Chg [] wZ w' → w'.cell? ⟨bp, i * 2, none⟩ = some (.int .i64 pr.1) ∧ w'.cell? ⟨bp, i * 2 + 1, none⟩ = some (.int .i64 pr.2) from fun w' g => by rw [g.cell' hbp (by simp), g.cell' hbp (by simp)]; exact hO i pr hpr)
              obtain ⟨x1, x2⟩ := (unhide HPR) _ hG2
              clear hO hpr hpt
              go_wp2_with fail
              have Gd := hG2.drew
              have ownd : wr.drew.ownsRow _ _ _ _ _ _ := hown2
              have x1d : wr.drew.cell? ⟨bp, i * 2, none⟩ = some (.int .i64 pr.1) := x1
              have x2d : wr.drew.cell? ⟨bp, i * 2 + 1, none⟩ = some (.int .i64 pr.2) := x2
              refine wp_region_noPanic ?_
              refine wp_region_held_drew (S := (fun w' => w'.cell? ⟨bp, i * 2, none⟩ = some (.int .i64 pr.1) ∧ w'.cell? ⟨bp, i * 2 + 1, none⟩ = some (.int .i64 pr.2))) (by kernel_rfl) ⟨x1d, x2d⟩ (fun hH => ?_)
              refine wpAnyH_take (i := 0) (v := ?_) rfl (by kernel_rfl) (by kernel_rfl) (by kernel_rfl) (fun _ _ _ h => h) (Or.inl ⟨by rfl, ?hzq13⟩) hH ?rzq13
              case hzq13 => (intro W' hSw; (try dsimp only at hSw); go_simp; try with_reducible rfl)
              walk_nrm
              refine wpAnyH_take (i := 1) (v := ?_) rfl (by kernel_rfl) (by kernel_rfl) (by kernel_rfl) (fun _ _ _ h => h) (Or.inl ⟨by rfl, ?hzq14⟩) hH ?rzq14
              case hzq14 => (intro W' hSw; (try dsimp only at hSw); go_simp; try with_reducible rfl)
              walk_nrm
              refine wpAnyH_take (i := 2) (v := ?_) rfl (by kernel_rfl) (by kernel_rfl) (by kernel_rfl) (fun _ _ _ h => h) (Or.inl ⟨by rfl, ?hzq15⟩) hH ?rzq15
              case hzq15 => (intro W' hSw; (try dsimp only at hSw); go_simp; try with_reducible rfl)
              walk_nrm
              refine wpAnyH_take (i := 3) (v := ?_) rfl (by kernel_rfl) (by kernel_rfl) (by kernel_rfl) (fun _ _ _ h => h) (Or.inl ⟨by rfl, ?hzq16⟩) hH ?rzq16
              case hzq16 => (intro W' hSw; (try dsimp only at hSw); go_simp; try with_reducible rfl)
              walk_nrm
              refine wpAnyH_take (i := 4) (v := ?_) rfl (by kernel_rfl) (by kernel_rfl) (by kernel_rfl) (fun _ _ _ h => h) (Or.inl ⟨by rfl, ?hzq17⟩) hH ?rzq17
              case hzq17 => (intro W' hSw; (try dsimp only at hSw); go_simp; try with_reducible rfl)
              walk_nrm
              refine wpAnyH_take (i := 5) (v := ?_) rfl (by kernel_rfl) (by kernel_rfl) (by kernel_rfl) (fun _ _ _ h => h) (Or.inl ⟨by rfl, ?hzq18⟩) hH ?rzq18
              case hzq18 => (intro W' hSw; (try dsimp only at hSw); obtain ⟨s1, s2⟩ := hSw; go_simp; try with_reducible rfl)
              walk_nrm
              refine wpAnyH_take (i := 6) (v := ?_) rfl (by kernel_rfl) (by kernel_rfl) (by kernel_rfl) (fun _ _ _ h => h) (Or.inl ⟨by rfl, ?hzq19⟩) hH ?rzq19
              case hzq19 => (intro W' hSw; (try dsimp only at hSw); go_simp; try with_reducible rfl)
              walk_nrm
              refine wpAnyH_take (i := 7) (v := ?_) rfl (by kernel_rfl) (by kernel_rfl) (by kernel_rfl) (fun _ _ _ h => h) (Or.inl ⟨by rfl, ?hzq20⟩) hH ?rzq20
              case hzq20 => (intro W' hSw; (try dsimp only at hSw); go_simp; try with_reducible rfl)
              walk_nrm
              refine wpAnyH_take (i := 8) (v := ?_) rfl (by kernel_rfl) (by kernel_rfl) (by kernel_rfl) (fun _ _ _ h => h) (Or.inl ⟨by rfl, ?hzq21⟩) hH ?rzq21
              case hzq21 => (intro W' hSw; (try dsimp only at hSw); go_simp; try with_reducible rfl)
              walk_nrm
              refine wpAnyH_take (i := 9) (v := ?_) rfl (by kernel_rfl) (by kernel_rfl) (by kernel_rfl) (fun _ _ _ h => h) (Or.inl ⟨by rfl, ?hzq22⟩) hH ?rzq22
              case hzq22 => (intro W' hSw; (try dsimp only at hSw); go_simp; try with_reducible rfl)
              walk_nrm
              refine wpAnyH_take (i := 10) (v := ?_) rfl (by kernel_rfl) (by kernel_rfl) (by kernel_rfl) (fun _ _ _ h => h) (Or.inl ⟨by rfl, ?hzq23⟩) hH ?rzq23
              case hzq23 => (intro W' hSw; (try dsimp only at hSw); obtain ⟨s1, s2⟩ := hSw; go_simp; try with_reducible rfl)
              walk_nrm
              refine wpAnyH_ready (rs := [11]) (by kernel_rfl) (by simp) ?_
              refine AllReadyH.cons rfl (fun K hK => ?_) AllReadyH.nil
              rw [if_pos (by rfl)]
              go_simp
              have E7 := Blk.new wr.drew #[.int .i64 pr.1, .int .i64 pr.2] 3
              have own7 := ownd.alloc (.cells #[.int .i64 pr.1, .int .i64 pr.2] 3)
              have G7 := Gd.alloc (.cells #[.int .i64 pr.1, .int .i64 pr.2] 3)
              have A7 := (unhide HPR) _ G7
              refine hK.out _ _ A7 (fun hH2 => ?_)
              clear hK K hH
              have hH := hH2
              clear hH2
              walk_nrm
              clear A7
              refine wpAnyH_ready (rs := [12]) (by kernel_rfl) (by simp) ?_
              refine AllReadyH.cons rfl (fun K hK => ?_) AllReadyH.nil
              rw [if_pos (by rfl)]
              refine wp_append_own _ (.tmp 122) (.tmp 133) 48 rfl wZ.heap.size 3 i0 _ 1 8 Try.underlying48 hi hz0 hz1 hz2 rfl (by decide) u16 (i * 2) (cellsP (ps.take i)) rfl own7 ⟨wr.drew.heap.size, 0, none⟩ 2 2 (pairV pr) rfl rfl E7.news (by simp [pairV, Value.oneCell']) (by unfold maxLen; omega) (by omega) G7.size ?_
              intro v9 w9 own9 gr9 _
              have G9 := G7.grown gr9 (fun j hj => .inr (own7.lt j hj).1)
              have A9 := (unhide HPR) _ G9
              refine hK.out _ _ A9 (fun hH2 => ?_)
              clear hK K hH
              have hH := hH2
              clear hH2
              walk_nrm
              clear A9 gr9 own7 G7 E7
              refine wpAnyH_take (i := 13) (v := ?_) rfl (by kernel_rfl) (by kernel_rfl) (by kernel_rfl) (fun _ _ _ h => h) (Or.inl ⟨by rfl, ?hzq24⟩) hH ?rzq24
              case hzq24 => (intro W' hSw; (try dsimp only at hSw); go_simp; try with_reducible rfl)
              walk_nrm
              refine wpAnyH_done (by kernel_rfl) ?_ _
              refine NoPanic.normal ?_
              clear hH
              go_wp2
              go_roundw
              case rel => exact ⟨i + 1, by omega, by go_num, by rw [unhide HPT, cellsP_snoc, Nat.add_mul, Nat.one_mul]; exact own9, G9⟩
              case measure => go_light; simp [intOf]; omega

            · have hii : ¬ (i : Int) < (p : Int) := by omega
              have hie : i = p := by omega
              rw [show ps.take i = ps by rw [hie, unhide HP, List.take_length], hie] at hown2
              obtain ⟨aG, cG, rfl, hcG, NG⟩ := own_nums hown2 (by rw [unhide HP])
              have HIE := hide hie
              have HNG := hide NG
              clear hie hown2 NG
              go_wp2_with (go_at_call 17; refine (sameints_any aG aZ (p * 2) cG cZ (pairF ps) _ (by omega) (unhide HNG) ((unhide HNZ).chg hG2)).mono ?_; rintro x wE ⟨rfl, dE, rfl⟩)
              go_ret
              exact ⟨rfl, (GZ.trans hG2 (by simp)).drewN _⟩

        · obtain ⟨m, rfl⟩ : ∃ m : Nat, nn = m := ⟨nn.toNat, by omega⟩
          have hm : m ≤ n := by omega
          have e0 : decide ((0 : Int) ≤ (m : Int)) = true := by simp
          have e1 : decide ((m : Int) ≤ (n : Int)) = true := by simp; omega
          have m0 : (0 : Int) ≤ (m : Int) := by omega
          have mn : (m : Int) ≤ (n : Int) := by omega
          clear h0 h1
          go_wp2_with fail
          refine (rsof_any a0 N c0 (getB l) _ (by omega) hc0 ((unhide HB).chg Gq)).mono ?_
          rintro x w5 ⟨v5, rfl, own5, g5⟩
          rw [← unhide HRS, ← unhide HN] at own5
          obtain ⟨a5, c5, rfl, hc5, -, R5⟩ := own_recs own5 (unhide HN)
          have G5 := Gq.trans g5 (by simp)
          have HR5 := hide (show Recs w5 a5 m (atR (rs.take m)) from (R5.le hm).congr' (fun i hi => (atR_take rs m i hi).symm))
          have mc : (m : Int) ≤ (c5 : Int) := by omega
          clear own5 R5 g5
          go_wp2_with fail
          refine (table_yes a0 N c0 (getB l) m _ (by omega) hc0 ((unhide HB).chg G5) (by rw [← unhide HRS, ← unhide HN]; exact hm)).mono ?_
          rintro x w6 ⟨tb, rfl, T6, g6, -⟩
          rw [← unhide HRS] at T6
          have G6 := G5.trans g6 (by simp)
          have HR6 := hide ((unhide HR5).chg g6)
          have HT6 := hide T6
          clear T6 g6
          go_wp2_with fail
          refine (behind_any a5 m c5 (rs.take m) _ (by rw [List.length_take, ← unhide HN]; omega) (by omega) (unhide HR6)).mono ?_
          rintro x w7 ⟨rfl, B7, g7⟩
          have G7 := G6.trans g7 (by simp)
          have HT7 := hide ((unhide HT6).chg g7 (by simp))
          have HB7 := hide B7
          clear B7 g7
          go_wp2_with fail
          refine (same_all tb w6.heap.size (behindT (rs.take m)) _ (unhide HT7) (unhide HB7)).mono ?_
          rintro x w8 ⟨rfl, g8⟩
          have G8 := G7.trans g8 (by simp)
          clear g8 HT6 HR6 HT7 HB7 HR5
          go_wp2_with fail
          refine (holders_any a len cap L job _ (unhide HL) (by omega) ((unhide HEL).chg G8)).mono ?_
          rintro x wX ⟨vX, rfl, ownX, gX⟩
          have GX := G8.trans gX (by simp)
          go_wp2_with fail
          refine (events_any a len cap L _ (unhide HL) (by omega) ((unhide HEL).chg GX)).mono ?_
          rintro x wY ⟨vY, rfl, ownY, gY⟩
          obtain ⟨aY, cY, rfl, hcY, EY⟩ := own_evs ownY (unhide HL).symm
          have ownX2 := own_chg ownX gY
          have GY := GX.trans gY (by simp)
          clear ownX gX gY ownY
          go_wp2_with fail
          refine (holdof_any aY len cY L job _ (unhide HL) (by omega) EY).mono ?_
          rintro x wZ ⟨vZ, rfl, ownZ, gZ⟩
          have ownX3 := own_chg ownX2 gZ
          have GZ := GY.trans gZ (by simp)
          have hpl : (holdL L job).length ≤ 200 := Nat.le_trans (holdL_len _ _) (by rw [unhide HL]; omega)
          obtain ⟨ps, hps⟩ : ∃ ps, ps = holdL L job := ⟨_, rfl⟩
          rw [← hps] at ownX3 ownZ hpl
          obtain ⟨p, hp⟩ : ∃ p, p = ps.length := ⟨_, rfl⟩
          rw [← hp] at ownX3 ownZ hpl
          have HP := hide hp
          clear hps hp ownX2 gZ EY
          obtain ⟨aX, cX, rfl, hcX, PX⟩ := own_prs ownX3 (unhide HP)
          obtain ⟨aZ, cZ, rfl, hcZ, NZ⟩ := own_nums ownZ (by rw [unhide HP])
          have HPX := hide PX
          have HNZ := hide NZ
          clear ownX3 ownZ PX NZ
          go_wp2_with fail
          go_loopw [16, 17] (fun g i wr => ∃ j : Nat, j ≤ p ∧ i = .int .i64 j ∧ wr.ownsRow wZ.heap.size 3 1 g (j * 2) (cellsP (ps.take j)) ∧ Chg [] wZ wr) (fun _ i _ => p - (intOf i).toNat)
          case atStart => exact ⟨0, by omega, rfl, World.ownsRow_nil _ _ _ _, Chg.refl _ _⟩
          case round =>
            obtain ⟨i, hi', rfl, hown2, hG2⟩ := hrel
            by_cases hip : i < p
            · have hii : (i : Int) < (p : Int) := by omega
              have hi0 : (0 : Int) ≤ (i : Int) := by omega
              rcases unhide HPX with h0 | ⟨bp, rfl, hbp, hO⟩
              · omega
              obtain ⟨pr, hpr⟩ : ∃ pr, ps[i]? = some pr := ⟨_, List.getElem?_eq_getElem (by rw [← unhide HP]; exact hip)⟩
              have hpt : ps.take (i + 1) = ps.take i ++ [pr] := by
                rw [List.take_add_one, hpr]
                rfl
              have HPT := hide hpt
              have HPR := hide (show ∀ w', Chg [] wZ w' → w'.cell? ⟨bp, i * 2, none⟩ = some (.int .i64 pr.1) ∧ w'.cell? ⟨bp, i * 2 + 1, none⟩ = some (.int .i64 pr.2) from fun w' g => by rw [g.cell' hbp (by simp), g.cell' hbp (by simp)]; exact hO i pr hpr)
              obtain ⟨x1, x2⟩ := (unhide HPR) _ hG2
              clear hO hpr hpt
              go_wp2_with fail
              have Gd := hG2.drew
              have ownd : wr.drew.ownsRow _ _ _ _ _ _ := hown2
              have x1d : wr.drew.cell? ⟨bp, i * 2, none⟩ = some (.int .i64 pr.1) := x1
              have x2d : wr.drew.cell? ⟨bp, i * 2 + 1, none⟩ = some (.int .i64 pr.2) := x2
              refine wp_region_noPanic ?_
              refine wp_region_held_drew (S := (fun w' => w'.cell? ⟨bp, i * 2, none⟩ = some (.int .i64 pr.1) ∧ w'.cell? ⟨bp, i * 2 + 1, none⟩ = some (.int .i64 pr.2))) (by kernel_rfl) ⟨x1d, x2d⟩ (fun hH => ?_)
              refine wpAnyH_take (i := 0) (v := ?_) rfl (by kernel_rfl) (by kernel_rfl) (by kernel_rfl) (fun _ _ _ h => h) (Or.inl ⟨by rfl, ?hzq25⟩) hH ?rzq25
              case hzq25 => (intro W' hSw; (try dsimp only at hSw); go_simp; try with_reducible rfl)
              walk_nrm
              refine wpAnyH_take (i := 1) (v := ?_) rfl (by kernel_rfl) (by kernel_rfl) (by kernel_rfl) (fun _ _ _ h => h) (Or.inl ⟨by rfl, ?hzq26⟩) hH ?rzq26
              case hzq26 => (intro W' hSw; (try dsimp only at hSw); go_simp; try with_reducible rfl)
              walk_nrm
              refine wpAnyH_take (i := 2) (v := ?_) rfl (by kernel_rfl) (by kernel_rfl) (by kernel_rfl) (fun _ _ _ h => h) (Or.inl ⟨by rfl, ?hzq27⟩) hH ?rzq27
              case hzq27 => (intro W' hSw; (try dsimp only at hSw); go_simp; try with_reducible rfl)
              walk_nrm
              refine wpAnyH_take (i := 3) (v := ?_) rfl (by kernel_rfl) (by kernel_rfl) (by kernel_rfl) (fun _ _ _ h => h) (Or.inl ⟨by rfl, ?hzq28⟩) hH ?rzq28
              case hzq28 => (intro W' hSw; (try dsimp only at hSw); go_simp; try with_reducible rfl)
              walk_nrm
              refine wpAnyH_take (i := 4) (v := ?_) rfl (by kernel_rfl) (by kernel_rfl) (by kernel_rfl) (fun _ _ _ h => h) (Or.inl ⟨by rfl, ?hzq29⟩) hH ?rzq29
              case hzq29 => (intro W' hSw; (try dsimp only at hSw); go_simp; try with_reducible rfl)
              walk_nrm
              refine wpAnyH_take (i := 5) (v := ?_) rfl (by kernel_rfl) (by kernel_rfl) (by kernel_rfl) (fun _ _ _ h => h) (Or.inl ⟨by rfl, ?hzq30⟩) hH ?rzq30
              case hzq30 => (intro W' hSw; (try dsimp only at hSw); obtain ⟨s1, s2⟩ := hSw; go_simp; try with_reducible rfl)
              walk_nrm
              refine wpAnyH_take (i := 6) (v := ?_) rfl (by kernel_rfl) (by kernel_rfl) (by kernel_rfl) (fun _ _ _ h => h) (Or.inl ⟨by rfl, ?hzq31⟩) hH ?rzq31
              case hzq31 => (intro W' hSw; (try dsimp only at hSw); go_simp; try with_reducible rfl)
              walk_nrm
              refine wpAnyH_take (i := 7) (v := ?_) rfl (by kernel_rfl) (by kernel_rfl) (by kernel_rfl) (fun _ _ _ h => h) (Or.inl ⟨by rfl, ?hzq32⟩) hH ?rzq32
              case hzq32 => (intro W' hSw; (try dsimp only at hSw); go_simp; try with_reducible rfl)
              walk_nrm
              refine wpAnyH_take (i := 8) (v := ?_) rfl (by kernel_rfl) (by kernel_rfl) (by kernel_rfl) (fun _ _ _ h => h) (Or.inl ⟨by rfl, ?hzq33⟩) hH ?rzq33
              case hzq33 => (intro W' hSw; (try dsimp only at hSw); go_simp; try with_reducible rfl)
              walk_nrm
              refine wpAnyH_take (i := 9) (v := ?_) rfl (by kernel_rfl) (by kernel_rfl) (by kernel_rfl) (fun _ _ _ h => h) (Or.inl ⟨by rfl, ?hzq34⟩) hH ?rzq34
              case hzq34 => (intro W' hSw; (try dsimp only at hSw); go_simp; try with_reducible rfl)
              walk_nrm
              refine wpAnyH_take (i := 10) (v := ?_) rfl (by kernel_rfl) (by kernel_rfl) (by kernel_rfl) (fun _ _ _ h => h) (Or.inl ⟨by rfl, ?hzq35⟩) hH ?rzq35
              case hzq35 => (intro W' hSw; (try dsimp only at hSw); obtain ⟨s1, s2⟩ := hSw; go_simp; try with_reducible rfl)
              walk_nrm
              refine wpAnyH_ready (rs := [11]) (by kernel_rfl) (by simp) ?_
              refine AllReadyH.cons rfl (fun K hK => ?_) AllReadyH.nil
              rw [if_pos (by rfl)]
              go_simp
              have E7 := Blk.new wr.drew #[.int .i64 pr.1, .int .i64 pr.2] 3
              have own7 := ownd.alloc (.cells #[.int .i64 pr.1, .int .i64 pr.2] 3)
              have G7 := Gd.alloc (.cells #[.int .i64 pr.1, .int .i64 pr.2] 3)
              have A7 := (unhide HPR) _ G7
              refine hK.out _ _ A7 (fun hH2 => ?_)
              clear hK K hH
              have hH := hH2
              clear hH2
              walk_nrm
              clear A7
              refine wpAnyH_ready (rs := [12]) (by kernel_rfl) (by simp) ?_
              refine AllReadyH.cons rfl (fun K hK => ?_) AllReadyH.nil
              rw [if_pos (by rfl)]
              refine wp_append_own _ (.tmp 122) (.tmp 133) 48 rfl wZ.heap.size 3 i0 _ 1 8 Try.underlying48 hi hz0 hz1 hz2 rfl (by decide) u16 (i * 2) (cellsP (ps.take i)) rfl own7 ⟨wr.drew.heap.size, 0, none⟩ 2 2 (pairV pr) rfl rfl E7.news (by simp [pairV, Value.oneCell']) (by unfold maxLen; omega) (by omega) G7.size ?_
              intro v9 w9 own9 gr9 _
              have G9 := G7.grown gr9 (fun j hj => .inr (own7.lt j hj).1)
              have A9 := (unhide HPR) _ G9
              refine hK.out _ _ A9 (fun hH2 => ?_)
              clear hK K hH
              have hH := hH2
              clear hH2
              walk_nrm
              clear A9 gr9 own7 G7 E7
              refine wpAnyH_take (i := 13) (v := ?_) rfl (by kernel_rfl) (by kernel_rfl) (by kernel_rfl) (fun _ _ _ h => h) (Or.inl ⟨by rfl, ?hzq36⟩) hH ?rzq36
              case hzq36 => (intro W' hSw; (try dsimp only at hSw); go_simp; try with_reducible rfl)
              walk_nrm
              refine wpAnyH_done (by kernel_rfl) ?_ _
              refine NoPanic.normal ?_
              clear hH
              go_wp2
              go_roundw
              case rel => exact ⟨i + 1, by omega, by go_num, by rw [unhide HPT, cellsP_snoc, Nat.add_mul, Nat.one_mul]; exact own9, G9⟩
              case measure => go_light; simp [intOf]; omega

            · have hii : ¬ (i : Int) < (p : Int) := by omega
              have hie : i = p := by omega
              rw [show ps.take i = ps by rw [hie, unhide HP, List.take_length], hie] at hown2
              obtain ⟨aG, cG, rfl, hcG, NG⟩ := own_nums hown2 (by rw [unhide HP])
              have HIE := hide hie
              have HNG := hide NG
              clear hie hown2 NG
              go_wp2_with (go_at_call 17; refine (sameints_any aG aZ (p * 2) cG cZ (pairF ps) _ (by omega) (unhide HNG) ((unhide HNZ).chg hG2)).mono ?_; rintro x wE ⟨rfl, dE, rfl⟩)
              go_ret
              exact ⟨rfl, (GZ.trans hG2 (by simp)).drewN _⟩


end Go.Proofs.Ytjoibdmppmpjgac

namespace Go.Proofs.Ytjoibdmppmpjgac
open Go.ChangeShapes Go.WideShapes Go.ChangeAt Go.RowKit

set_option maxRecDepth 100000 in
theorem sdoes_lifted (os : Os) (started : os.Started) (H : Type) (enc : TypeId × Value → H) :
    ReturnsInHanded {} Try.checked os 3 .any (Rows.storyDoesSpec.pre6 enc Try.prog Try.f3 Rows.storyDoesRow.domain false) (Rows.storyDoesSpec.post enc Try.prog Try.f3 false true false false) := by
  refine returnsInHanded_of_change (C := Try.checked) ownK started (by kernel_rfl) Try.func3
    (ChangeSpec.witness6 (enc := enc) (C := Try.checked) false ⟨#[], #[.slice none 0 0, .int .i64 0, .int .i64 0, .slice none 0 0], []⟩ 8 (by kernel_rfl) (by kernel_rfl) (by kernel_rfl) (by kernel_rfl)) ?_
  intro W base args ds gs before hval0 hW hcnd _
  have hval : ∀ (j : Nat) t v, Try.f3.params[j]? = some t → args[j]? = some v → Value.okWide Try.prog W .any base t v := hval0
  have hW' := hW
  obtain ⟨p, q, hA0, hV, rfl, hfz, hnd⟩ := hW
  have hA : DataW.TrodAll enc Try.prog W 0 (fun _ => true) true Try.f3.params.toList args.toList ds p := hA0
  rw [Try.params3] at hA hval
  obtain ⟨v0, vs0, d0, ds0, p0, q0, hargs, rfl, rfl, h0, r0⟩ := trodAll_cons hA
  obtain ⟨v1, vs1, d1, ds1, p1, q1, rfl, rfl, rfl, h1, r1⟩ := trodAll_cons r0
  obtain ⟨v2, vs2, d2, ds2, p2, q2, rfl, rfl, rfl, h2, r2⟩ := trodAll_cons r1
  obtain ⟨v3, vs3, d3, ds3, p3, q3, rfl, rfl, rfl, h3, r3⟩ := trodAll_cons r2
  obtain ⟨rfl, rfl, rfl⟩ := trodAll_nil r3
  obtain rfl : args = #[v0, v1, v2, v3] := by cases args; simp_all
  obtain ⟨rfl, rfl⟩ := trodVars_none hV
  obtain ⟨a0, len0, cap0, rfl⟩ := okWide_slice Try.underlying22 (hval 0 22 v0 rfl rfl)
  have k0 := h0
  have lt0 : ∀ x ∈ p0, x.block < W.heap.size := by obtain ⟨m, hm⟩ := k0; exact DataW.trod_lt m _ _ _ hm
  obtain ⟨z0, w0, y0⟩ : ∃ l, Sl W (.slice a0 len0 cap0) l ∧ okB l := by
    obtain ⟨fuel, hf⟩ := h0
    have hf2 : DataW.trod enc Try.prog W 0 (fun _ => true) true fuel 22 [.slice a0 len0 cap0] = some (d0, p0) := by simpa [Value.cells] using hf
    obtain ⟨v9, l9, e9, h9, g9⟩ := sl_of_trod hf2
    simp at e9
    subst e9
    exact ⟨l9, h9, g9⟩
  obtain ⟨a1, rfl, rfl, rfl, w1⟩ := open_int Try.underlying3 (hval 1 3 v1 rfl rfl) h1
  obtain ⟨a2, rfl, rfl, rfl, w2⟩ := open_int Try.underlying3 (hval 2 3 v2 rfl rfl) h2
  obtain ⟨a3, len3, cap3, rfl⟩ := okWide_slice Try.underlying23 (hval 3 23 v3 rfl rfl)
  have k3 := h3
  have lt3 : ∀ x ∈ p3, x.block < W.heap.size := by obtain ⟨m, hm⟩ := k3; exact DataW.trod_lt m _ _ _ hm
  obtain ⟨z3, w3⟩ : ∃ fs, Evs W a3 len3 fs := by
    obtain ⟨fuel, hf⟩ := h3
    exact evs_of_trod (by simpa [Value.cells] using hf)
  clear hA0 hval0
  refine (sdoes_any (.slice a0 len0 cap0) z0 a1 a2 a3 len3 cap3 z3 W w0 y0 w3).mono fun e W' ⟨he, hch⟩ => ?_
  have bel := hch.below
  subst he
  exact ⟨_, rfl, _, _, _, [], _, [], hW', trodAll_mk1 (shut_bool Try.underlying4 _), (trodAll_cons_mk (Below.trod laidOutK (by kernel_rfl) (of_decide_eq_true (by kernel_rfl)) k0 bel lt0) (trodAll_cons_mk (shut_int Try.underlying3 w1) (trodAll_cons_mk (shut_int Try.underlying3 w2) (trodAll_cons_mk (Below.trod laidOutK (by kernel_rfl) (of_decide_eq_true (by kernel_rfl)) k3 bel lt3) trodAll_mk0)))), rfl, bel.frame _, fun h => by cases h⟩

theorem sdoes_holds : Rows.StoryDoesSaid :=
  OpenClaim.holds_of_wide 3 Try.f3 rfl rfl rfl rfl rfl rfl rfl ⟨rfl, rfl, rfl, rfl, rfl⟩ rfl rfl rfl rfl rfl (by kernel_rfl) Try.func3 (by kernel_rfl)
    (of_decide_eq_true (by kernel_rfl)) (by unfold Func.isWrapper; first | (rw [if_pos (by decide +kernel)]; kernel_rfl) | (rw [if_neg (by decide +kernel)]; exact ⟨rfl, rfl⟩))
    (fun os started H enc _ => sdoes_lifted os started H enc)

end Go.Proofs.Ytjoibdmppmpjgac

