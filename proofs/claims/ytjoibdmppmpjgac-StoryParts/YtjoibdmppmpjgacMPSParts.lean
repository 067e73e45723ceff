/- For all bytes and every number the law StoryParts returns true, and leaves them as they were; no condition. -/
import Derived.BigQuiet
import Derived.Test.YtjoibdmppmpjgacMgS5
import Derived.Test.YtjoibdmppmpjgacMgS2
import Derived.Test.YtjoibdmppmpjgacMgBegun
import Derived.Test.YtjoibdmppmpjgacMgKF0
namespace Go.Proofs.Ytjoibdmppmpjgac
open Go.RowKit

theorem pickM (x : Int) (m : Nat) (hm : m ≤ 4000) : ∃ k : Nat, k ≤ m ∧ wrap64 ((IntKind.u64.wrap x).tmod ((m : Int) + 1)) = k := by
  have h0 : 0 ≤ IntKind.u64.wrap x := by simp only [IntKind.wrap, IntKind.bits, IntKind.signed]; simp; omega
  have h1 : 0 ≤ (IntKind.u64.wrap x).tmod ((m : Int) + 1) := Int.tmod_nonneg _ h0
  have h2 : (IntKind.u64.wrap x).tmod ((m : Int) + 1) < (m : Int) + 1 := Int.tmod_lt_of_pos _ (by omega)
  refine ⟨((IntKind.u64.wrap x).tmod ((m : Int) + 1)).toNat, by omega, ?_⟩
  unfold wrap64
  omega
theorem table_at (a : Option Addr) (n cap : Nat) (f : Nat → Int) (m : Nat) (mi : Int) (w : World) (hmi : mi = m) (hn4 : n ≤ 4000) (hcap : n ≤ cap) (h : Byt w a n f) (hm : m ≤ (allR n f).length) :
    Calls Try.prog 11 #[.slice a n cap, .int .i64 mi] w fun e w' => ∃ b, e = .returned (.pointer (some ⟨b, 0, none⟩)) ∧ Has 93 w' b (behindT ((allR n f).take m)) ∧ Chg [] w w' ∧ w.heap.size ≤ b := by
  subst hmi
  exact table_yes a n cap f m w hn4 hcap h hm
theorem ev_job {rs : List Rc} {k : Nat} (hk : k < rs.length) : ((atE (evs rs) k).a.code = 0 → (atE (evs rs) k).j = jobA (behindT (rs.take (k + 1))) (evK (atE (evs rs) k))) ∧ (¬ (atE (evs rs) k).a.code = 0 → (atE (evs rs) k).j = ⟨0, 0, 0, 0⟩) := by
  rw [atE_of (evs_at rs k hk), take_snocS rs hk, behindT_snoc]
  refine ⟨fun h => ?_, fun h => ?_⟩
  · show evJ _ _ _ = _
    unfold evJ evK
    have h' : (doT (behindT (rs.take k)) (atR rs k).o).2.code = 0 := h
    rw [if_pos h']
    show (if (atR rs k).o.k = 2 then jobA (doT (behindT (rs.take k)) (atR rs k).o).1 (doT (behindT (rs.take k)) (atR rs k).o).2.jb else jobA (doT (behindT (rs.take k)) (atR rs k).o).1 (atR rs k).o.jb) = jobA (doT (behindT (rs.take k)) (atR rs k).o).1 (if (atR rs k).o.k = 2 then (doT (behindT (rs.take k)) (atR rs k).o).2.jb else (atR rs k).o.jb)
    by_cases h2 : (atR rs k).o.k = 2
    · rw [if_pos h2, if_pos h2]
    · rw [if_neg h2, if_neg h2]
  · show evJ _ _ _ = _
    unfold evJ
    have h' : ¬ (doT (behindT (rs.take k)) (atR rs k).o).2.code = 0 := h
    rw [if_neg h']
theorem atE_take (l : List Ev) {d i : Nat} (h : i < d) : atE (l.take d) i = atE l i := by
  unfold atE
  simp [List.getD, List.getElem?_take_of_lt h]

set_option maxRecDepth 100000 in
set_option maxHeartbeats 8000000 in
theorem sparts_any (v : Value) (l : List Int) (x : Int) (W : World) (hb : Sl W v l) (hk : okB l) :
    Calls Try.prog 5 #[v, .int .i64 x] W fun e w' => e = .returned (.bool true) ∧ Chg [] W w' := by
  obtain ⟨a, c, rfl, hc, hB⟩ := sl_byt hb hk
  clear hb hk
  obtain ⟨N, hN⟩ : ∃ N, N = l.length := ⟨_, rfl⟩
  rw [← hN] at hc hB ⊢
  have HB := hide hB
  clear hB hN
  by_cases hbig : 3000 < N
  · have d1 : decide ((3000 : Int) < (N : Int)) = true := by simp; omega
    go_enter Try.func5, Try.ntmps5
    go_wp2_with (go_at_call 7; refine (sbegun_any _).mono ?_; rintro e w1 ⟨rfl, G1⟩)
    go_ret
    exact ⟨rfl, G1⟩
  have d1 : decide ((3000 : Int) < (N : Int)) = false := by simp; omega
  obtain ⟨kk, hkk, ekk⟩ := pickM x N (by omega)
  have hNi : (N : Int) ≤ 3000 := by omega
  obtain ⟨rs, hrs⟩ : ∃ rs, rs = allR N (getB l) := ⟨_, rfl⟩
  have HRS := hide hrs
  have hcut := allR_take N kk (getB l) hkk
  rw [← hrs] at hcut
  have HCUT := hide hcut
  have hfew := allR_few N (getB l)
  rw [← hrs] at hfew
  clear hrs hcut
  obtain ⟨n, hn⟩ : ∃ n, n = rs.length := ⟨_, rfl⟩
  rw [← hn] at hfew
  obtain ⟨q, hq⟩ : ∃ q, q = (rs.take (kk / 9)).length := ⟨_, rfl⟩
  have hq' : q = min (kk / 9) n := by rw [hq, List.length_take, ← hn]
  have HN := hide hn
  have HQ := hide hq
  clear hn hq
  have hqn : q ≤ n := by omega
  have hKC : (kk : Int) ≤ (c : Int) := by omega
  have hTD : (kk : Int).tdiv 9 = ((kk / 9 : Nat) : Int) := by rw [Int.tdiv_eq_ediv_of_nonneg (by omega)]; omega
  have hWQ : IntKind.i64.wrap ((kk / 9 : Nat) : Int) = ((kk / 9 : Nat) : Int) := by simp [IntKind.wrap, IntKind.bits, IntKind.signed]; omega
  have l1 : ¬ n < q := by omega
  have l2 : (if kk / 9 < n then ((kk / 9 : Nat) : Int) else (n : Int)) = (q : Int) := by split <;> omega
  clear hq'
  generalize hdd : kk / 9 = dd at *
  have HDD := hide hdd
  clear hdd
  go_enter Try.func5, Try.ntmps5
  go_wp2_with (go_at_call 7; refine (sbegun_any _).mono ?_; rintro e w1 ⟨rfl, G1⟩)
  have HB1 := hide (((unhide HB).chg G1).chg ((Chg.refl [] w1).drew))
  have Gd1 := G1.drew
  have tok : True := trivial
  go_region_held3 (fun _ => True) (trivial) (first
    | (go_at_call 8; have _t := tok; clear tok _t; refine (of_any a N c (getB l) _ (by omega) hc (unhide HB1)).mono ?_; rintro e w3 ⟨v3, rfl, own3, g3⟩; rw [← unhide HRS, ← unhide HN] at own3; obtain ⟨a3, c3, rfl, hc3, E3⟩ := own_evs own3 (by rw [evs_len]; exact unhide HN); have HE3 := hide E3; have G3 := Gd1.trans g3 (by simp); have HB3 := hide ((unhide HB1).chg g3); clear own3 E3 g3)
    | (go_at_call 8; refine (of_any a kk c (getB l) _ (by omega) (by omega) ((unhide HB3).le hkk)).mono ?_; rintro e w4 ⟨v4, rfl, own4, g4⟩; rw [unhide HCUT, ← unhide HQ] at own4; obtain ⟨a4, c4, rfl, hc4, E4⟩ := own_evs own4 (by rw [evs_len]; exact unhide HQ); have HE4 := hide E4; have HE34 := hide ((unhide HE3).chg g4); have G4 := G3.trans g4 (by simp); have HB4 := hide ((unhide HB3).chg g4); clear own4 E4 g4))
  go_wp2_with fail
  go_loopw [8] (fun i wr => ∃ j : Nat, j ≤ q ∧ i = .int .i64 j ∧ Chg [] w4 wr) (fun i _ => q - (intOf i).toNat)
  case atStart => exact ⟨0, by omega, rfl, Chg.refl _ _⟩
  case round =>
    obtain ⟨j, hj, rfl, hG⟩ := hrel
    by_cases hlt : j < q
    · have hji : (j : Int) < (q : Int) := by omega
      have hjn : (j : Int) < (n : Int) := by omega
      have hj0 : (0 : Int) ≤ (j : Int) := by omega
      rcases unhide HE34 with h0 | ⟨be, oe, rfl, hbe, hO⟩
      · omega
      rcases unhide HE4 with h0 | ⟨bf, of, rfl, hbf, hO'⟩
      · omega
      have HEVJ := hide (ev_job (rs := rs) (k := j) (by rw [← unhide HN]; omega))
      have X := hO j (by omega)
      have Y := hO' j hlt
      rw [evs_take, atE_take _ (show j < dd by have h9 : (rs.take dd).length = q := (unhide HQ).symm; rw [List.length_take] at h9; omega)] at Y
      obtain ⟨p0, p1, p2, p3, p4, p5, p6, p7, p8, p9, p10, p11, p12, p13⟩ := (X.chg hG hbe (by simp)).all
      obtain ⟨q0, q1, q2, q3, q4, q5, q6, q7, q8, q9, q10, q11, q12, q13⟩ := (Y.chg hG hbf (by simp)).all
      have HX := hide X
      have hbe' := Nat.lt_of_lt_of_le hbe hG.size
      have hbf' := Nat.lt_of_lt_of_le hbf hG.size
      have hn4k : n ≤ 4000 := by omega
      clear hO hO' X Y
      generalize atE (evs rs) j = e at *
      by_cases h2 : e.r.o.k = 2
      · skip
        have b2 : (e.r.o.k == 2) = true := by simpa using h2
        have HEK := hide (show evK e = e.a.jb by unfold evK; rw [if_pos h2])
        clear h2
        go_wp2_with fail
        go_quiet (fail)
        go_wp2_with fail
        refine (table_at a N c (getB l) (j + 1) ((j : Int) + 1) _ (by omega) (by omega) hc ((unhide HB4).chg (hG.drewN nq)) (by rw [← unhide HRS, ← unhide HN]; omega)).mono ?_
        rintro x w5 ⟨tb, rfl, T5, g5, zt5⟩
        rw [← unhide HRS] at T5
        have HT5 := hide T5
        have lt5 := T5.lt
        have G5 := (hG.drewN nq).trans g5 (by simp)
        have HX5 := hide ((unhide HX).chg G5 hbe (by simp))
        have lbe5 := Nat.lt_of_lt_of_le hbe G5.size
        have XA := (unhide HX5).all
        obtain ⟨x0, x1, x2, x3, x4, x5, x6, x7, x8, x9, x10, x11, x12, x13⟩ := XA
        clear T5 g5 zt5 p0 p1 p2 p3 p4 p5 p6 p7 p8 p9 p10 p11 p12 p13 q0 q1 q2 q3 q4 q5 q6 q7 q8 q9 q10 q11 q12 q13
        go_wp2_with fail
        clear x0 x1 x2 x3 x4 x5 x6 x7 x8 x9 x10 x11 x12 x13 b2
        by_cases hc0 : e.a.code = 0
        · have hcz := hc0
          have HEJ := hide (show e.j = jobA (behindT (rs.take (j + 1))) e.a.jb by rw [← unhide HEK]; exact (unhide HEVJ).1 hc0)
          clear hc0
          have T5 := unhide HT5
          have Xd : EvAt w5.drew be (oe + j * 14) e := (unhide HX5).chg ((Chg.refl [] w5).drew) lbe5 (by simp)
          have Td : Has 93 w5.drew tb (behindT (rs.take (j + 1))) := T5
          have Gd := G5.drew
          refine wp_region_noPanic ?_
          refine wp_region_held_drew (S := (fun w' => EvAt w' be (oe + j * 14) e)) (by kernel_rfl) Xd (fun hH => ?_)
          refine wpAnyH_take (i := 0) (v := ?_) rfl (by kernel_rfl) (by kernel_rfl) (by kernel_rfl) (fun _ _ _ h => h) (Or.inl ⟨by rfl, ?hzq1⟩) hH ?rzq1
          case hzq1 => (intro W' hSw; (try dsimp only at hSw); go_simp; try with_reducible rfl)
          walk_nrm
          refine wpAnyH_take (i := 1) (v := ?_) rfl (by kernel_rfl) (by kernel_rfl) (by kernel_rfl) (fun _ _ _ h => h) (Or.inl ⟨by rfl, ?hzq2⟩) hH ?rzq2
          case hzq2 => (intro W' hSw; (try dsimp only at hSw); go_simp; try with_reducible rfl)
          walk_nrm
          refine wpAnyH_take (i := 2) (v := ?_) rfl (by kernel_rfl) (by kernel_rfl) (by kernel_rfl) (fun _ _ _ h => h) (Or.inl ⟨by rfl, ?hzq3⟩) hH ?rzq3
          case hzq3 => (intro W' hSw; (try dsimp only at hSw); go_simp; try with_reducible rfl)
          walk_nrm
          refine wpAnyH_take (i := 3) (v := ?_) rfl (by kernel_rfl) (by kernel_rfl) (by kernel_rfl) (fun _ _ _ h => h) (Or.inl ⟨by rfl, ?hzq4⟩) hH ?rzq4
          case hzq4 => (intro W' hSw; (try dsimp only at hSw); go_simp; try with_reducible rfl)
          walk_nrm
          refine wpAnyH_take (i := 4) (v := ?_) rfl (by kernel_rfl) (by kernel_rfl) (by kernel_rfl) (fun _ _ _ h => h) (Or.inl ⟨by rfl, ?hzq5⟩) hH ?rzq5
          case hzq5 => (intro W' hSw; (try dsimp only at hSw); go_simp; try with_reducible rfl)
          walk_nrm
          refine wpAnyH_take (i := 5) (v := ?_) rfl (by kernel_rfl) (by kernel_rfl) (by kernel_rfl) (fun _ _ _ h => h) (Or.inl ⟨by rfl, ?hzq6⟩) hH ?rzq6
          case hzq6 => (intro W' hSw; (try dsimp only at hSw); have s7 := (EvAt.all hSw).2.2.2.2.2.2.2.1; rw [hcz] at s7; go_simp; try with_reducible rfl)
          walk_nrm
          refine wpAnyH_take (i := 6) (v := .bool true) rfl (by kernel_rfl) (by kernel_rfl) (by kernel_rfl) (fun _ _ _ h => h) (Or.inl ⟨by rfl, ?hzq7⟩) hH ?rzq7
          case hzq7 => (intro W' hSw; (try dsimp only at hSw); go_simp; (try simp); try with_reducible rfl)
          walk_nrm
          refine wpAnyH_take (i := 7) (v := ?_) rfl (by kernel_rfl) (by kernel_rfl) (by kernel_rfl) (fun _ _ _ h => h) (Or.inl ⟨by rfl, ?hzq8⟩) hH ?rzq8
          case hzq8 => (intro W' hSw; (try dsimp only at hSw); go_simp; try with_reducible rfl)
          walk_nrm
          refine wpAnyH_take (i := 8) (v := ?_) rfl (by kernel_rfl) (by kernel_rfl) (by kernel_rfl) (fun _ _ _ h => h) (Or.inl ⟨by rfl, ?hzq9⟩) hH ?rzq9
          case hzq9 => (intro W' hSw; (try dsimp only at hSw); go_simp; try with_reducible rfl)
          walk_nrm
          refine wpAnyH_take (i := 9) (v := ?_) rfl (by kernel_rfl) (by kernel_rfl) (by kernel_rfl) (fun _ _ _ h => h) (Or.inl ⟨by rfl, ?hzq10⟩) hH ?rzq10
          case hzq10 => (intro W' hSw; (try dsimp only at hSw); go_simp; try with_reducible rfl)
          walk_nrm
          refine wpAnyH_take (i := 10) (v := ?_) rfl (by kernel_rfl) (by kernel_rfl) (by kernel_rfl) (fun _ _ _ h => h) (Or.inl ⟨by rfl, ?hzq11⟩) hH ?rzq11
          case hzq11 => (intro W' hSw; (try dsimp only at hSw); go_simp; try with_reducible rfl)
          walk_nrm
          refine wpAnyH_take (i := 11) (v := ?_) rfl (by kernel_rfl) (by kernel_rfl) (by kernel_rfl) (fun _ _ _ h => h) (Or.inl ⟨by rfl, ?hzq12⟩) hH ?rzq12
          case hzq12 => (intro W' hSw; (try dsimp only at hSw); go_simp; try with_reducible rfl)
          walk_nrm
          refine wpAnyH_take (i := 12) (v := _) rfl (by kernel_rfl) (by kernel_rfl) (by kernel_rfl) (fun _ _ _ h => h) (yieldsIf_load_mid (P := Try.prog) (by rfl) 35 _ rfl be (oe + j * 14 + 10) rfl [.int .i64 e.j.st, .int .i64 e.j.wk, .int .i64 e.j.tr, .int .i64 e.j.un] _ (fun _ h => ev_range h 10 _ (ev_part10 e)) Try.underlying35 rfl (by rw [jobInfoS]; rfl)) hH ?_
          walk_nrm
          refine wpAnyH_take (i := 13) (v := ?_) rfl (by kernel_rfl) (by kernel_rfl) (by kernel_rfl) (fun _ _ _ h => h) (Or.inl ⟨by rfl, ?hzq13⟩) hH ?rzq13
          case hzq13 => (intro W' hSw; (try dsimp only at hSw); go_simp; try with_reducible rfl)
          walk_nrm
          refine wpAnyH_take (i := 14) (v := ?_) rfl (by kernel_rfl) (by kernel_rfl) (by kernel_rfl) (fun _ _ _ h => h) (Or.inl ⟨by rfl, ?hzq14⟩) hH ?rzq14
          case hzq14 => (intro W' hSw; (try dsimp only at hSw); go_simp; try with_reducible rfl)
          walk_nrm
          refine wpAnyH_ready (rs := [15]) (by kernel_rfl) (by simp) ?_
          refine AllReadyH.cons rfl (fun K hK => ?_) AllReadyH.nil
          rw [if_pos (by rfl)]
          go_simp
          refine (job_all tb e.a.jb _ _ Td).mono ?_
          rintro x w6 ⟨rfl, g6⟩
          rw [← unhide HEJ]
          have G6 := Gd.trans g6 (by simp)
          have lbe6 : be < w5.drew.heap.size := lbe5
          refine hK.out _ _ (hH.chg g6 lbe6 (by simp)) (fun hH2 => ?_)
          clear hK K hH
          have hH := hH2
          clear hH2
          walk_nrm
          clear Td Gd g6
          refine wpAnyH_take (i := 16) (v := .bool false) rfl (by kernel_rfl) (by kernel_rfl) (by kernel_rfl) (fun _ _ _ h => h) (Or.inl ⟨by rfl, ?hzq15⟩) hH ?rzq15
          case hzq15 => (intro W' hSw; (try dsimp only at hSw); go_simp; (try simp); try with_reducible rfl)
          walk_nrm
          refine wpAnyH_take (i := 17) (v := ?_) rfl (by kernel_rfl) (by kernel_rfl) (by kernel_rfl) (fun _ _ _ h => h) (Or.inl ⟨by rfl, ?hzq16⟩) hH ?rzq16
          case hzq16 => (intro W' hSw; (try dsimp only at hSw); go_simp; try with_reducible rfl)
          walk_nrm
          refine wpAnyH_take (i := 18) (v := ?_) rfl (by kernel_rfl) (by kernel_rfl) (by kernel_rfl) (fun _ _ _ h => h) (Or.inl ⟨by rfl, ?hzq17⟩) hH ?rzq17
          case hzq17 => (intro W' hSw; (try dsimp only at hSw); go_simp; try with_reducible rfl)
          walk_nrm
          refine wpAnyH_take (i := 19) (v := ?_) rfl (by kernel_rfl) (by kernel_rfl) (by kernel_rfl) (fun _ _ _ h => h) (Or.inl ⟨by rfl, ?hzq18⟩) hH ?rzq18
          case hzq18 => (intro W' hSw; (try dsimp only at hSw); go_simp; try with_reducible rfl)
          walk_nrm
          refine wpAnyH_take (i := 20) (v := ?_) rfl (by kernel_rfl) (by kernel_rfl) (by kernel_rfl) (fun _ _ _ h => h) (Or.inl ⟨by rfl, ?hzq19⟩) hH ?rzq19
          case hzq19 => (intro W' hSw; (try dsimp only at hSw); go_simp; try with_reducible rfl)
          walk_nrm
          refine wpAnyH_take (i := 21) (v := ?_) rfl (by kernel_rfl) (by kernel_rfl) (by kernel_rfl) (fun _ _ _ h => h) (Or.inl ⟨by rfl, ?hzq20⟩) hH ?rzq20
          case hzq20 => (intro W' hSw; (try dsimp only at hSw); go_simp; try with_reducible rfl)
          walk_nrm
          refine wpAnyH_take (i := 22) (v := ?_) rfl (by kernel_rfl) (by kernel_rfl) (by kernel_rfl) (fun _ _ _ h => h) (Or.inl ⟨by rfl, ?hzq21⟩) hH ?rzq21
          case hzq21 => (intro W' hSw; (try dsimp only at hSw); go_simp; try with_reducible rfl)
          walk_nrm
          refine wpAnyH_take (i := 23) (v := ?_) rfl (by kernel_rfl) (by kernel_rfl) (by kernel_rfl) (fun _ _ _ h => h) (Or.inl ⟨by rfl, ?hzq22⟩) hH ?rzq22
          case hzq22 => (intro W' hSw; (try dsimp only at hSw); go_simp; try with_reducible rfl)
          walk_nrm
          refine wpAnyH_take (i := 24) (v := ?_) rfl (by kernel_rfl) (by kernel_rfl) (by kernel_rfl) (fun _ _ _ h => h) (Or.inl ⟨by rfl, ?hzq23⟩) hH ?rzq23
          case hzq23 => (intro W' hSw; (try dsimp only at hSw); have s7 := (EvAt.all hSw).2.2.2.2.2.2.2.1; rw [hcz] at s7; go_simp; try with_reducible rfl)
          walk_nrm
          refine wpAnyH_take (i := 25) (v := .bool false) rfl (by kernel_rfl) (by kernel_rfl) (by kernel_rfl) (fun _ _ _ h => h) (Or.inl ⟨by rfl, ?hzq24⟩) hH ?rzq24
          case hzq24 => (intro W' hSw; (try dsimp only at hSw); go_simp; (try simp); try with_reducible rfl)
          walk_nrm
          refine wpAnyH_take (i := 26) (v := ?_) rfl (by kernel_rfl) (by kernel_rfl) (by kernel_rfl) (fun _ _ _ h => h) (Or.inl ⟨by rfl, ?hzq25⟩) hH ?rzq25
          case hzq25 => (intro W' hSw; (try dsimp only at hSw); go_simp; try with_reducible rfl)
          walk_nrm
          refine wpAnyH_take (i := 27) (v := _) rfl (by kernel_rfl) (by kernel_rfl) (by kernel_rfl) (fun _ _ _ h => h) (Or.inr ⟨by rfl, rfl⟩) hH ?_
          walk_nrm
          refine wpAnyH_take (i := 28) (v := _) rfl (by kernel_rfl) (by kernel_rfl) (by kernel_rfl) (fun _ _ _ h => h) (Or.inr ⟨by rfl, rfl⟩) hH ?_
          walk_nrm
          refine wpAnyH_take (i := 29) (v := _) rfl (by kernel_rfl) (by kernel_rfl) (by kernel_rfl) (fun _ _ _ h => h) (Or.inr ⟨by rfl, rfl⟩) hH ?_
          walk_nrm
          refine wpAnyH_take (i := 30) (v := _) rfl (by kernel_rfl) (by kernel_rfl) (by kernel_rfl) (fun _ _ _ h => h) (Or.inr ⟨by rfl, rfl⟩) hH ?_
          walk_nrm
          refine wpAnyH_take (i := 31) (v := _) rfl (by kernel_rfl) (by kernel_rfl) (by kernel_rfl) (fun _ _ _ h => h) (Or.inr ⟨by rfl, rfl⟩) hH ?_
          walk_nrm
          refine wpAnyH_take (i := 32) (v := _) rfl (by kernel_rfl) (by kernel_rfl) (by kernel_rfl) (fun _ _ _ h => h) (Or.inr ⟨by rfl, rfl⟩) hH ?_
          walk_nrm
          refine wpAnyH_take (i := 33) (v := _) rfl (by kernel_rfl) (by kernel_rfl) (by kernel_rfl) (fun _ _ _ h => h) (Or.inr ⟨by rfl, rfl⟩) hH ?_
          walk_nrm
          refine wpAnyH_take (i := 34) (v := ?_) rfl (by kernel_rfl) (by kernel_rfl) (by kernel_rfl) (fun _ _ _ h => h) (Or.inl ⟨by rfl, ?hzq26⟩) hH ?rzq26
          case hzq26 => (intro W' hSw; (try dsimp only at hSw); go_simp; try with_reducible rfl)
          walk_nrm
          refine wpAnyH_take (i := 35) (v := ?_) rfl (by kernel_rfl) (by kernel_rfl) (by kernel_rfl) (fun _ _ _ h => h) (Or.inl ⟨by rfl, ?hzq27⟩) hH ?rzq27
          case hzq27 => (intro W' hSw; (try dsimp only at hSw); go_simp; try with_reducible rfl)
          walk_nrm
          refine wpAnyH_done (by kernel_rfl) ?_ _
          refine NoPanic.normal ?_
          clear hH
          go_wp2
          go_roundw
          case rel => exact ⟨j + 1, by omega, by go_num, G6⟩
          case measure => go_light; simp [intOf]; omega

        · have hcb : (e.a.code == 0) = false := by simpa using hc0
          have HEJ := hide ((unhide HEVJ).2 hc0)
          have HNZ := hide hc0
          clear hc0
          have T5 := unhide HT5
          have Xd : EvAt w5.drew be (oe + j * 14) e := (unhide HX5).chg ((Chg.refl [] w5).drew) lbe5 (by simp)
          have Td : Has 93 w5.drew tb (behindT (rs.take (j + 1))) := T5
          have Gd := G5.drew
          refine wp_region_noPanic ?_
          refine wp_region_held_drew (S := (fun w' => EvAt w' be (oe + j * 14) e)) (by kernel_rfl) Xd (fun hH => ?_)
          refine wpAnyH_take (i := 0) (v := ?_) rfl (by kernel_rfl) (by kernel_rfl) (by kernel_rfl) (fun _ _ _ h => h) (Or.inl ⟨by rfl, ?hzq28⟩) hH ?rzq28
          case hzq28 => (intro W' hSw; (try dsimp only at hSw); go_simp; try with_reducible rfl)
          walk_nrm
          refine wpAnyH_take (i := 1) (v := ?_) rfl (by kernel_rfl) (by kernel_rfl) (by kernel_rfl) (fun _ _ _ h => h) (Or.inl ⟨by rfl, ?hzq29⟩) hH ?rzq29
          case hzq29 => (intro W' hSw; (try dsimp only at hSw); go_simp; try with_reducible rfl)
          walk_nrm
          refine wpAnyH_take (i := 2) (v := ?_) rfl (by kernel_rfl) (by kernel_rfl) (by kernel_rfl) (fun _ _ _ h => h) (Or.inl ⟨by rfl, ?hzq30⟩) hH ?rzq30
          case hzq30 => (intro W' hSw; (try dsimp only at hSw); go_simp; try with_reducible rfl)
          walk_nrm
          refine wpAnyH_take (i := 3) (v := ?_) rfl (by kernel_rfl) (by kernel_rfl) (by kernel_rfl) (fun _ _ _ h => h) (Or.inl ⟨by rfl, ?hzq31⟩) hH ?rzq31
          case hzq31 => (intro W' hSw; (try dsimp only at hSw); go_simp; try with_reducible rfl)
          walk_nrm
          refine wpAnyH_take (i := 4) (v := ?_) rfl (by kernel_rfl) (by kernel_rfl) (by kernel_rfl) (fun _ _ _ h => h) (Or.inl ⟨by rfl, ?hzq32⟩) hH ?rzq32
          case hzq32 => (intro W' hSw; (try dsimp only at hSw); go_simp; try with_reducible rfl)
          walk_nrm
          refine wpAnyH_take (i := 5) (v := ?_) rfl (by kernel_rfl) (by kernel_rfl) (by kernel_rfl) (fun _ _ _ h => h) (Or.inl ⟨by rfl, ?hzq33⟩) hH ?rzq33
          case hzq33 => (intro W' hSw; (try dsimp only at hSw); have s7 := (EvAt.all hSw).2.2.2.2.2.2.2.1; go_simp; try with_reducible rfl)
          walk_nrm
          refine wpAnyH_take (i := 6) (v := .bool false) rfl (by kernel_rfl) (by kernel_rfl) (by kernel_rfl) (fun _ _ _ h => h) (Or.inl ⟨by rfl, ?hzq34⟩) hH ?rzq34
          case hzq34 => (intro W' hSw; (try dsimp only at hSw); go_simp; (try simp [hcb]); try with_reducible rfl)
          walk_nrm
          refine wpAnyH_take (i := 7) (v := ?_) rfl (by kernel_rfl) (by kernel_rfl) (by kernel_rfl) (fun _ _ _ h => h) (Or.inl ⟨by rfl, ?hzq35⟩) hH ?rzq35
          case hzq35 => (intro W' hSw; (try dsimp only at hSw); go_simp; try with_reducible rfl)
          walk_nrm
          refine wpAnyH_take (i := 8) (v := _) rfl (by kernel_rfl) (by kernel_rfl) (by kernel_rfl) (fun _ _ _ h => h) (Or.inr ⟨by rfl, rfl⟩) hH ?_
          walk_nrm
          refine wpAnyH_take (i := 9) (v := _) rfl (by kernel_rfl) (by kernel_rfl) (by kernel_rfl) (fun _ _ _ h => h) (Or.inr ⟨by rfl, rfl⟩) hH ?_
          walk_nrm
          refine wpAnyH_take (i := 10) (v := _) rfl (by kernel_rfl) (by kernel_rfl) (by kernel_rfl) (fun _ _ _ h => h) (Or.inr ⟨by rfl, rfl⟩) hH ?_
          walk_nrm
          refine wpAnyH_take (i := 11) (v := _) rfl (by kernel_rfl) (by kernel_rfl) (by kernel_rfl) (fun _ _ _ h => h) (Or.inr ⟨by rfl, rfl⟩) hH ?_
          walk_nrm
          refine wpAnyH_take (i := 12) (v := _) rfl (by kernel_rfl) (by kernel_rfl) (by kernel_rfl) (fun _ _ _ h => h) (Or.inr ⟨by rfl, rfl⟩) hH ?_
          walk_nrm
          refine wpAnyH_take (i := 13) (v := _) rfl (by kernel_rfl) (by kernel_rfl) (by kernel_rfl) (fun _ _ _ h => h) (Or.inr ⟨by rfl, rfl⟩) hH ?_
          walk_nrm
          refine wpAnyH_take (i := 14) (v := _) rfl (by kernel_rfl) (by kernel_rfl) (by kernel_rfl) (fun _ _ _ h => h) (Or.inr ⟨by rfl, rfl⟩) hH ?_
          walk_nrm
          refine wpAnyH_take (i := 15) (v := _) rfl (by kernel_rfl) (by kernel_rfl) (by kernel_rfl) (fun _ _ _ h => h) (Or.inr ⟨by rfl, rfl⟩) hH ?_
          walk_nrm
          refine wpAnyH_take (i := 16) (v := _) rfl (by kernel_rfl) (by kernel_rfl) (by kernel_rfl) (fun _ _ _ h => h) (Or.inr ⟨by rfl, rfl⟩) hH ?_
          walk_nrm
          refine wpAnyH_take (i := 17) (v := ?_) rfl (by kernel_rfl) (by kernel_rfl) (by kernel_rfl) (fun _ _ _ h => h) (Or.inl ⟨by rfl, ?hzq36⟩) hH ?rzq36
          case hzq36 => (intro W' hSw; (try dsimp only at hSw); go_simp; try with_reducible rfl)
          walk_nrm
          refine wpAnyH_take (i := 18) (v := ?_) rfl (by kernel_rfl) (by kernel_rfl) (by kernel_rfl) (fun _ _ _ h => h) (Or.inl ⟨by rfl, ?hzq37⟩) hH ?rzq37
          case hzq37 => (intro W' hSw; (try dsimp only at hSw); go_simp; try with_reducible rfl)
          walk_nrm
          refine wpAnyH_take (i := 19) (v := ?_) rfl (by kernel_rfl) (by kernel_rfl) (by kernel_rfl) (fun _ _ _ h => h) (Or.inl ⟨by rfl, ?hzq38⟩) hH ?rzq38
          case hzq38 => (intro W' hSw; (try dsimp only at hSw); go_simp; try with_reducible rfl)
          walk_nrm
          refine wpAnyH_take (i := 20) (v := ?_) rfl (by kernel_rfl) (by kernel_rfl) (by kernel_rfl) (fun _ _ _ h => h) (Or.inl ⟨by rfl, ?hzq39⟩) hH ?rzq39
          case hzq39 => (intro W' hSw; (try dsimp only at hSw); go_simp; try with_reducible rfl)
          walk_nrm
          refine wpAnyH_take (i := 21) (v := ?_) rfl (by kernel_rfl) (by kernel_rfl) (by kernel_rfl) (fun _ _ _ h => h) (Or.inl ⟨by rfl, ?hzq40⟩) hH ?rzq40
          case hzq40 => (intro W' hSw; (try dsimp only at hSw); go_simp; try with_reducible rfl)
          walk_nrm
          refine wpAnyH_take (i := 22) (v := ?_) rfl (by kernel_rfl) (by kernel_rfl) (by kernel_rfl) (fun _ _ _ h => h) (Or.inl ⟨by rfl, ?hzq41⟩) hH ?rzq41
          case hzq41 => (intro W' hSw; (try dsimp only at hSw); go_simp; try with_reducible rfl)
          walk_nrm
          refine wpAnyH_take (i := 23) (v := ?_) rfl (by kernel_rfl) (by kernel_rfl) (by kernel_rfl) (fun _ _ _ h => h) (Or.inl ⟨by rfl, ?hzq42⟩) hH ?rzq42
          case hzq42 => (intro W' hSw; (try dsimp only at hSw); go_simp; try with_reducible rfl)
          walk_nrm
          refine wpAnyH_take (i := 24) (v := ?_) rfl (by kernel_rfl) (by kernel_rfl) (by kernel_rfl) (fun _ _ _ h => h) (Or.inl ⟨by rfl, ?hzq43⟩) hH ?rzq43
          case hzq43 => (intro W' hSw; (try dsimp only at hSw); have s7 := (EvAt.all hSw).2.2.2.2.2.2.2.1; go_simp; try with_reducible rfl)
          walk_nrm
          refine wpAnyH_take (i := 25) (v := .bool true) rfl (by kernel_rfl) (by kernel_rfl) (by kernel_rfl) (fun _ _ _ h => h) (Or.inl ⟨by rfl, ?hzq44⟩) hH ?rzq44
          case hzq44 => (intro W' hSw; (try dsimp only at hSw); go_simp; (try simp [hcb]); (try exact unhide HNZ); try with_reducible rfl)
          walk_nrm
          refine wpAnyH_take (i := 26) (v := ?_) rfl (by kernel_rfl) (by kernel_rfl) (by kernel_rfl) (fun _ _ _ h => h) (Or.inl ⟨by rfl, ?hzq45⟩) hH ?rzq45
          case hzq45 => (intro W' hSw; (try dsimp only at hSw); go_simp; try with_reducible rfl)
          walk_nrm
          refine wpAnyH_take (i := 27) (v := ?_) rfl (by kernel_rfl) (by kernel_rfl) (by kernel_rfl) (fun _ _ _ h => h) (Or.inl ⟨by rfl, ?hzq46⟩) hH ?rzq46
          case hzq46 => (intro W' hSw; (try dsimp only at hSw); go_simp; try with_reducible rfl)
          walk_nrm
          refine wpAnyH_take (i := 28) (v := ?_) rfl (by kernel_rfl) (by kernel_rfl) (by kernel_rfl) (fun _ _ _ h => h) (Or.inl ⟨by rfl, ?hzq47⟩) hH ?rzq47
          case hzq47 => (intro W' hSw; (try dsimp only at hSw); go_simp; try with_reducible rfl)
          walk_nrm
          refine wpAnyH_take (i := 29) (v := ?_) rfl (by kernel_rfl) (by kernel_rfl) (by kernel_rfl) (fun _ _ _ h => h) (Or.inl ⟨by rfl, ?hzq48⟩) hH ?rzq48
          case hzq48 => (intro W' hSw; (try dsimp only at hSw); go_simp; try with_reducible rfl)
          walk_nrm
          refine wpAnyH_take (i := 30) (v := ?_) rfl (by kernel_rfl) (by kernel_rfl) (by kernel_rfl) (fun _ _ _ h => h) (Or.inl ⟨by rfl, ?hzq49⟩) hH ?rzq49
          case hzq49 => (intro W' hSw; (try dsimp only at hSw); go_simp; try with_reducible rfl)
          walk_nrm
          refine wpAnyH_take (i := 31) (v := _) rfl (by kernel_rfl) (by kernel_rfl) (by kernel_rfl) (fun _ _ _ h => h) (yieldsIf_load_mid (P := Try.prog) (by rfl) 35 _ rfl be (oe + j * 14 + 10) rfl [.int .i64 e.j.st, .int .i64 e.j.wk, .int .i64 e.j.tr, .int .i64 e.j.un] _ (fun _ h => ev_range h 10 _ (ev_part10 e)) Try.underlying35 rfl (by rw [jobInfoS]; rfl)) hH ?_
          walk_nrm
          rw [unhide HEJ]
          refine wpAnyH_take (i := 32) (v := ?_) rfl (by kernel_rfl) (by kernel_rfl) (by kernel_rfl) (fun _ _ _ h => h) (Or.inl ⟨by rfl, ?hzq50⟩) hH ?rzq50
          case hzq50 => (intro W' hSw; (try dsimp only at hSw); go_simp; try with_reducible rfl)
          walk_nrm
          refine wpAnyH_take (i := 33) (v := .bool false) rfl (by kernel_rfl) (by kernel_rfl) (by kernel_rfl) (fun _ _ _ h => h) (Or.inl ⟨by rfl, ?hzq51⟩) hH ?rzq51
          case hzq51 => (intro W' hSw; (try dsimp only at hSw); go_simp; (try simp); try with_reducible rfl)
          walk_nrm
          refine wpAnyH_take (i := 34) (v := ?_) rfl (by kernel_rfl) (by kernel_rfl) (by kernel_rfl) (fun _ _ _ h => h) (Or.inl ⟨by rfl, ?hzq52⟩) hH ?rzq52
          case hzq52 => (intro W' hSw; (try dsimp only at hSw); go_simp; try with_reducible rfl)
          walk_nrm
          refine wpAnyH_take (i := 35) (v := ?_) rfl (by kernel_rfl) (by kernel_rfl) (by kernel_rfl) (fun _ _ _ h => h) (Or.inl ⟨by rfl, ?hzq53⟩) hH ?rzq53
          case hzq53 => (intro W' hSw; (try dsimp only at hSw); go_simp; try with_reducible rfl)
          walk_nrm
          refine wpAnyH_done (by kernel_rfl) ?_ _
          refine NoPanic.normal ?_
          clear hH
          go_wp2
          go_roundw
          case rel => exact ⟨j + 1, by omega, by go_num, Gd⟩
          case measure => go_light; simp [intOf]; omega


      · skip
        have b2 : (e.r.o.k == 2) = false := by simpa using h2
        have HEK := hide (show evK e = e.r.o.jb by unfold evK; rw [if_neg h2])
        clear h2
        go_wp2_with fail
        go_quiet (fail)
        go_wp2_with fail
        refine (table_at a N c (getB l) (j + 1) ((j : Int) + 1) _ (by omega) (by omega) hc ((unhide HB4).chg (hG.drewN nq)) (by rw [← unhide HRS, ← unhide HN]; omega)).mono ?_
        rintro x w5 ⟨tb, rfl, T5, g5, zt5⟩
        rw [← unhide HRS] at T5
        have HT5 := hide T5
        have lt5 := T5.lt
        have G5 := (hG.drewN nq).trans g5 (by simp)
        have HX5 := hide ((unhide HX).chg G5 hbe (by simp))
        have lbe5 := Nat.lt_of_lt_of_le hbe G5.size
        have XA := (unhide HX5).all
        obtain ⟨x0, x1, x2, x3, x4, x5, x6, x7, x8, x9, x10, x11, x12, x13⟩ := XA
        clear T5 g5 zt5 p0 p1 p2 p3 p4 p5 p6 p7 p8 p9 p10 p11 p12 p13 q0 q1 q2 q3 q4 q5 q6 q7 q8 q9 q10 q11 q12 q13
        go_wp2_with fail
        clear x0 x1 x2 x3 x4 x5 x6 x7 x8 x9 x10 x11 x12 x13 b2
        by_cases hc0 : e.a.code = 0
        · have hcz := hc0
          have HEJ := hide (show e.j = jobA (behindT (rs.take (j + 1))) e.r.o.jb by rw [← unhide HEK]; exact (unhide HEVJ).1 hc0)
          clear hc0
          have T5 := unhide HT5
          have Xd : EvAt w5.drew be (oe + j * 14) e := (unhide HX5).chg ((Chg.refl [] w5).drew) lbe5 (by simp)
          have Td : Has 93 w5.drew tb (behindT (rs.take (j + 1))) := T5
          have Gd := G5.drew
          refine wp_region_noPanic ?_
          refine wp_region_held_drew (S := (fun w' => EvAt w' be (oe + j * 14) e)) (by kernel_rfl) Xd (fun hH => ?_)
          refine wpAnyH_take (i := 0) (v := ?_) rfl (by kernel_rfl) (by kernel_rfl) (by kernel_rfl) (fun _ _ _ h => h) (Or.inl ⟨by rfl, ?hzq54⟩) hH ?rzq54
          case hzq54 => (intro W' hSw; (try dsimp only at hSw); go_simp; try with_reducible rfl)
          walk_nrm
          refine wpAnyH_take (i := 1) (v := ?_) rfl (by kernel_rfl) (by kernel_rfl) (by kernel_rfl) (fun _ _ _ h => h) (Or.inl ⟨by rfl, ?hzq55⟩) hH ?rzq55
          case hzq55 => (intro W' hSw; (try dsimp only at hSw); go_simp; try with_reducible rfl)
          walk_nrm
          refine wpAnyH_take (i := 2) (v := ?_) rfl (by kernel_rfl) (by kernel_rfl) (by kernel_rfl) (fun _ _ _ h => h) (Or.inl ⟨by rfl, ?hzq56⟩) hH ?rzq56
          case hzq56 => (intro W' hSw; (try dsimp only at hSw); go_simp; try with_reducible rfl)
          walk_nrm
          refine wpAnyH_take (i := 3) (v := ?_) rfl (by kernel_rfl) (by kernel_rfl) (by kernel_rfl) (fun _ _ _ h => h) (Or.inl ⟨by rfl, ?hzq57⟩) hH ?rzq57
          case hzq57 => (intro W' hSw; (try dsimp only at hSw); go_simp; try with_reducible rfl)
          walk_nrm
          refine wpAnyH_take (i := 4) (v := ?_) rfl (by kernel_rfl) (by kernel_rfl) (by kernel_rfl) (fun _ _ _ h => h) (Or.inl ⟨by rfl, ?hzq58⟩) hH ?rzq58
          case hzq58 => (intro W' hSw; (try dsimp only at hSw); go_simp; try with_reducible rfl)
          walk_nrm
          refine wpAnyH_take (i := 5) (v := ?_) rfl (by kernel_rfl) (by kernel_rfl) (by kernel_rfl) (fun _ _ _ h => h) (Or.inl ⟨by rfl, ?hzq59⟩) hH ?rzq59
          case hzq59 => (intro W' hSw; (try dsimp only at hSw); have s7 := (EvAt.all hSw).2.2.2.2.2.2.2.1; rw [hcz] at s7; go_simp; try with_reducible rfl)
          walk_nrm
          refine wpAnyH_take (i := 6) (v := .bool true) rfl (by kernel_rfl) (by kernel_rfl) (by kernel_rfl) (fun _ _ _ h => h) (Or.inl ⟨by rfl, ?hzq60⟩) hH ?rzq60
          case hzq60 => (intro W' hSw; (try dsimp only at hSw); go_simp; (try simp); try with_reducible rfl)
          walk_nrm
          refine wpAnyH_take (i := 7) (v := ?_) rfl (by kernel_rfl) (by kernel_rfl) (by kernel_rfl) (fun _ _ _ h => h) (Or.inl ⟨by rfl, ?hzq61⟩) hH ?rzq61
          case hzq61 => (intro W' hSw; (try dsimp only at hSw); go_simp; try with_reducible rfl)
          walk_nrm
          refine wpAnyH_take (i := 8) (v := ?_) rfl (by kernel_rfl) (by kernel_rfl) (by kernel_rfl) (fun _ _ _ h => h) (Or.inl ⟨by rfl, ?hzq62⟩) hH ?rzq62
          case hzq62 => (intro W' hSw; (try dsimp only at hSw); go_simp; try with_reducible rfl)
          walk_nrm
          refine wpAnyH_take (i := 9) (v := ?_) rfl (by kernel_rfl) (by kernel_rfl) (by kernel_rfl) (fun _ _ _ h => h) (Or.inl ⟨by rfl, ?hzq63⟩) hH ?rzq63
          case hzq63 => (intro W' hSw; (try dsimp only at hSw); go_simp; try with_reducible rfl)
          walk_nrm
          refine wpAnyH_take (i := 10) (v := ?_) rfl (by kernel_rfl) (by kernel_rfl) (by kernel_rfl) (fun _ _ _ h => h) (Or.inl ⟨by rfl, ?hzq64⟩) hH ?rzq64
          case hzq64 => (intro W' hSw; (try dsimp only at hSw); go_simp; try with_reducible rfl)
          walk_nrm
          refine wpAnyH_take (i := 11) (v := ?_) rfl (by kernel_rfl) (by kernel_rfl) (by kernel_rfl) (fun _ _ _ h => h) (Or.inl ⟨by rfl, ?hzq65⟩) hH ?rzq65
          case hzq65 => (intro W' hSw; (try dsimp only at hSw); go_simp; try with_reducible rfl)
          walk_nrm
          refine wpAnyH_take (i := 12) (v := _) rfl (by kernel_rfl) (by kernel_rfl) (by kernel_rfl) (fun _ _ _ h => h) (yieldsIf_load_mid (P := Try.prog) (by rfl) 35 _ rfl be (oe + j * 14 + 10) rfl [.int .i64 e.j.st, .int .i64 e.j.wk, .int .i64 e.j.tr, .int .i64 e.j.un] _ (fun _ h => ev_range h 10 _ (ev_part10 e)) Try.underlying35 rfl (by rw [jobInfoS]; rfl)) hH ?_
          walk_nrm
          refine wpAnyH_take (i := 13) (v := ?_) rfl (by kernel_rfl) (by kernel_rfl) (by kernel_rfl) (fun _ _ _ h => h) (Or.inl ⟨by rfl, ?hzq66⟩) hH ?rzq66
          case hzq66 => (intro W' hSw; (try dsimp only at hSw); go_simp; try with_reducible rfl)
          walk_nrm
          refine wpAnyH_take (i := 14) (v := ?_) rfl (by kernel_rfl) (by kernel_rfl) (by kernel_rfl) (fun _ _ _ h => h) (Or.inl ⟨by rfl, ?hzq67⟩) hH ?rzq67
          case hzq67 => (intro W' hSw; (try dsimp only at hSw); go_simp; try with_reducible rfl)
          walk_nrm
          refine wpAnyH_ready (rs := [15]) (by kernel_rfl) (by simp) ?_
          refine AllReadyH.cons rfl (fun K hK => ?_) AllReadyH.nil
          rw [if_pos (by rfl)]
          go_simp
          refine (job_all tb e.r.o.jb _ _ Td).mono ?_
          rintro x w6 ⟨rfl, g6⟩
          rw [← unhide HEJ]
          have G6 := Gd.trans g6 (by simp)
          have lbe6 : be < w5.drew.heap.size := lbe5
          refine hK.out _ _ (hH.chg g6 lbe6 (by simp)) (fun hH2 => ?_)
          clear hK K hH
          have hH := hH2
          clear hH2
          walk_nrm
          clear Td Gd g6
          refine wpAnyH_take (i := 16) (v := .bool false) rfl (by kernel_rfl) (by kernel_rfl) (by kernel_rfl) (fun _ _ _ h => h) (Or.inl ⟨by rfl, ?hzq68⟩) hH ?rzq68
          case hzq68 => (intro W' hSw; (try dsimp only at hSw); go_simp; (try simp); try with_reducible rfl)
          walk_nrm
          refine wpAnyH_take (i := 17) (v := ?_) rfl (by kernel_rfl) (by kernel_rfl) (by kernel_rfl) (fun _ _ _ h => h) (Or.inl ⟨by rfl, ?hzq69⟩) hH ?rzq69
          case hzq69 => (intro W' hSw; (try dsimp only at hSw); go_simp; try with_reducible rfl)
          walk_nrm
          refine wpAnyH_take (i := 18) (v := ?_) rfl (by kernel_rfl) (by kernel_rfl) (by kernel_rfl) (fun _ _ _ h => h) (Or.inl ⟨by rfl, ?hzq70⟩) hH ?rzq70
          case hzq70 => (intro W' hSw; (try dsimp only at hSw); go_simp; try with_reducible rfl)
          walk_nrm
          refine wpAnyH_take (i := 19) (v := ?_) rfl (by kernel_rfl) (by kernel_rfl) (by kernel_rfl) (fun _ _ _ h => h) (Or.inl ⟨by rfl, ?hzq71⟩) hH ?rzq71
          case hzq71 => (intro W' hSw; (try dsimp only at hSw); go_simp; try with_reducible rfl)
          walk_nrm
          refine wpAnyH_take (i := 20) (v := ?_) rfl (by kernel_rfl) (by kernel_rfl) (by kernel_rfl) (fun _ _ _ h => h) (Or.inl ⟨by rfl, ?hzq72⟩) hH ?rzq72
          case hzq72 => (intro W' hSw; (try dsimp only at hSw); go_simp; try with_reducible rfl)
          walk_nrm
          refine wpAnyH_take (i := 21) (v := ?_) rfl (by kernel_rfl) (by kernel_rfl) (by kernel_rfl) (fun _ _ _ h => h) (Or.inl ⟨by rfl, ?hzq73⟩) hH ?rzq73
          case hzq73 => (intro W' hSw; (try dsimp only at hSw); go_simp; try with_reducible rfl)
          walk_nrm
          refine wpAnyH_take (i := 22) (v := ?_) rfl (by kernel_rfl) (by kernel_rfl) (by kernel_rfl) (fun _ _ _ h => h) (Or.inl ⟨by rfl, ?hzq74⟩) hH ?rzq74
          case hzq74 => (intro W' hSw; (try dsimp only at hSw); go_simp; try with_reducible rfl)
          walk_nrm
          refine wpAnyH_take (i := 23) (v := ?_) rfl (by kernel_rfl) (by kernel_rfl) (by kernel_rfl) (fun _ _ _ h => h) (Or.inl ⟨by rfl, ?hzq75⟩) hH ?rzq75
          case hzq75 => (intro W' hSw; (try dsimp only at hSw); go_simp; try with_reducible rfl)
          walk_nrm
          refine wpAnyH_take (i := 24) (v := ?_) rfl (by kernel_rfl) (by kernel_rfl) (by kernel_rfl) (fun _ _ _ h => h) (Or.inl ⟨by rfl, ?hzq76⟩) hH ?rzq76
          case hzq76 => (intro W' hSw; (try dsimp only at hSw); have s7 := (EvAt.all hSw).2.2.2.2.2.2.2.1; rw [hcz] at s7; go_simp; try with_reducible rfl)
          walk_nrm
          refine wpAnyH_take (i := 25) (v := .bool false) rfl (by kernel_rfl) (by kernel_rfl) (by kernel_rfl) (fun _ _ _ h => h) (Or.inl ⟨by rfl, ?hzq77⟩) hH ?rzq77
          case hzq77 => (intro W' hSw; (try dsimp only at hSw); go_simp; (try simp); try with_reducible rfl)
          walk_nrm
          refine wpAnyH_take (i := 26) (v := ?_) rfl (by kernel_rfl) (by kernel_rfl) (by kernel_rfl) (fun _ _ _ h => h) (Or.inl ⟨by rfl, ?hzq78⟩) hH ?rzq78
          case hzq78 => (intro W' hSw; (try dsimp only at hSw); go_simp; try with_reducible rfl)
          walk_nrm
          refine wpAnyH_take (i := 27) (v := _) rfl (by kernel_rfl) (by kernel_rfl) (by kernel_rfl) (fun _ _ _ h => h) (Or.inr ⟨by rfl, rfl⟩) hH ?_
          walk_nrm
          refine wpAnyH_take (i := 28) (v := _) rfl (by kernel_rfl) (by kernel_rfl) (by kernel_rfl) (fun _ _ _ h => h) (Or.inr ⟨by rfl, rfl⟩) hH ?_
          walk_nrm
          refine wpAnyH_take (i := 29) (v := _) rfl (by kernel_rfl) (by kernel_rfl) (by kernel_rfl) (fun _ _ _ h => h) (Or.inr ⟨by rfl, rfl⟩) hH ?_
          walk_nrm
          refine wpAnyH_take (i := 30) (v := _) rfl (by kernel_rfl) (by kernel_rfl) (by kernel_rfl) (fun _ _ _ h => h) (Or.inr ⟨by rfl, rfl⟩) hH ?_
          walk_nrm
          refine wpAnyH_take (i := 31) (v := _) rfl (by kernel_rfl) (by kernel_rfl) (by kernel_rfl) (fun _ _ _ h => h) (Or.inr ⟨by rfl, rfl⟩) hH ?_
          walk_nrm
          refine wpAnyH_take (i := 32) (v := _) rfl (by kernel_rfl) (by kernel_rfl) (by kernel_rfl) (fun _ _ _ h => h) (Or.inr ⟨by rfl, rfl⟩) hH ?_
          walk_nrm
          refine wpAnyH_take (i := 33) (v := _) rfl (by kernel_rfl) (by kernel_rfl) (by kernel_rfl) (fun _ _ _ h => h) (Or.inr ⟨by rfl, rfl⟩) hH ?_
          walk_nrm
          refine wpAnyH_take (i := 34) (v := ?_) rfl (by kernel_rfl) (by kernel_rfl) (by kernel_rfl) (fun _ _ _ h => h) (Or.inl ⟨by rfl, ?hzq79⟩) hH ?rzq79
          case hzq79 => (intro W' hSw; (try dsimp only at hSw); go_simp; try with_reducible rfl)
          walk_nrm
          refine wpAnyH_take (i := 35) (v := ?_) rfl (by kernel_rfl) (by kernel_rfl) (by kernel_rfl) (fun _ _ _ h => h) (Or.inl ⟨by rfl, ?hzq80⟩) hH ?rzq80
          case hzq80 => (intro W' hSw; (try dsimp only at hSw); go_simp; try with_reducible rfl)
          walk_nrm
          refine wpAnyH_done (by kernel_rfl) ?_ _
          refine NoPanic.normal ?_
          clear hH
          go_wp2
          go_roundw
          case rel => exact ⟨j + 1, by omega, by go_num, G6⟩
          case measure => go_light; simp [intOf]; omega

        · have hcb : (e.a.code == 0) = false := by simpa using hc0
          have HEJ := hide ((unhide HEVJ).2 hc0)
          have HNZ := hide hc0
          clear hc0
          have T5 := unhide HT5
          have Xd : EvAt w5.drew be (oe + j * 14) e := (unhide HX5).chg ((Chg.refl [] w5).drew) lbe5 (by simp)
          have Td : Has 93 w5.drew tb (behindT (rs.take (j + 1))) := T5
          have Gd := G5.drew
          refine wp_region_noPanic ?_
          refine wp_region_held_drew (S := (fun w' => EvAt w' be (oe + j * 14) e)) (by kernel_rfl) Xd (fun hH => ?_)
          refine wpAnyH_take (i := 0) (v := ?_) rfl (by kernel_rfl) (by kernel_rfl) (by kernel_rfl) (fun _ _ _ h => h) (Or.inl ⟨by rfl, ?hzq81⟩) hH ?rzq81
          case hzq81 => (intro W' hSw; (try dsimp only at hSw); go_simp; try with_reducible rfl)
          walk_nrm
          refine wpAnyH_take (i := 1) (v := ?_) rfl (by kernel_rfl) (by kernel_rfl) (by kernel_rfl) (fun _ _ _ h => h) (Or.inl ⟨by rfl, ?hzq82⟩) hH ?rzq82
          case hzq82 => (intro W' hSw; (try dsimp only at hSw); go_simp; try with_reducible rfl)
          walk_nrm
          refine wpAnyH_take (i := 2) (v := ?_) rfl (by kernel_rfl) (by kernel_rfl) (by kernel_rfl) (fun _ _ _ h => h) (Or.inl ⟨by rfl, ?hzq83⟩) hH ?rzq83
          case hzq83 => (intro W' hSw; (try dsimp only at hSw); go_simp; try with_reducible rfl)
          walk_nrm
          refine wpAnyH_take (i := 3) (v := ?_) rfl (by kernel_rfl) (by kernel_rfl) (by kernel_rfl) (fun _ _ _ h => h) (Or.inl ⟨by rfl, ?hzq84⟩) hH ?rzq84
          case hzq84 => (intro W' hSw; (try dsimp only at hSw); go_simp; try with_reducible rfl)
          walk_nrm
          refine wpAnyH_take (i := 4) (v := ?_) rfl (by kernel_rfl) (by kernel_rfl) (by kernel_rfl) (fun _ _ _ h => h) (Or.inl ⟨by rfl, ?hzq85⟩) hH ?rzq85
          case hzq85 => (intro W' hSw; (try dsimp only at hSw); go_simp; try with_reducible rfl)
          walk_nrm
          refine wpAnyH_take (i := 5) (v := ?_) rfl (by kernel_rfl) (by kernel_rfl) (by kernel_rfl) (fun _ _ _ h => h) (Or.inl ⟨by rfl, ?hzq86⟩) hH ?rzq86
          case hzq86 => (intro W' hSw; (try dsimp only at hSw); have s7 := (EvAt.all hSw).2.2.2.2.2.2.2.1; go_simp; try with_reducible rfl)
          walk_nrm
          refine wpAnyH_take (i := 6) (v := .bool false) rfl (by kernel_rfl) (by kernel_rfl) (by kernel_rfl) (fun _ _ _ h => h) (Or.inl ⟨by rfl, ?hzq87⟩) hH ?rzq87
          case hzq87 => (intro W' hSw; (try dsimp only at hSw); go_simp; (try simp [hcb]); try with_reducible rfl)
          walk_nrm
          refine wpAnyH_take (i := 7) (v := ?_) rfl (by kernel_rfl) (by kernel_rfl) (by kernel_rfl) (fun _ _ _ h => h) (Or.inl ⟨by rfl, ?hzq88⟩) hH ?rzq88
          case hzq88 => (intro W' hSw; (try dsimp only at hSw); go_simp; try with_reducible rfl)
          walk_nrm
          refine wpAnyH_take (i := 8) (v := _) rfl (by kernel_rfl) (by kernel_rfl) (by kernel_rfl) (fun _ _ _ h => h) (Or.inr ⟨by rfl, rfl⟩) hH ?_
          walk_nrm
          refine wpAnyH_take (i := 9) (v := _) rfl (by kernel_rfl) (by kernel_rfl) (by kernel_rfl) (fun _ _ _ h => h) (Or.inr ⟨by rfl, rfl⟩) hH ?_
          walk_nrm
          refine wpAnyH_take (i := 10) (v := _) rfl (by kernel_rfl) (by kernel_rfl) (by kernel_rfl) (fun _ _ _ h => h) (Or.inr ⟨by rfl, rfl⟩) hH ?_
          walk_nrm
          refine wpAnyH_take (i := 11) (v := _) rfl (by kernel_rfl) (by kernel_rfl) (by kernel_rfl) (fun _ _ _ h => h) (Or.inr ⟨by rfl, rfl⟩) hH ?_
          walk_nrm
          refine wpAnyH_take (i := 12) (v := _) rfl (by kernel_rfl) (by kernel_rfl) (by kernel_rfl) (fun _ _ _ h => h) (Or.inr ⟨by rfl, rfl⟩) hH ?_
          walk_nrm
          refine wpAnyH_take (i := 13) (v := _) rfl (by kernel_rfl) (by kernel_rfl) (by kernel_rfl) (fun _ _ _ h => h) (Or.inr ⟨by rfl, rfl⟩) hH ?_
          walk_nrm
          refine wpAnyH_take (i := 14) (v := _) rfl (by kernel_rfl) (by kernel_rfl) (by kernel_rfl) (fun _ _ _ h => h) (Or.inr ⟨by rfl, rfl⟩) hH ?_
          walk_nrm
          refine wpAnyH_take (i := 15) (v := _) rfl (by kernel_rfl) (by kernel_rfl) (by kernel_rfl) (fun _ _ _ h => h) (Or.inr ⟨by rfl, rfl⟩) hH ?_
          walk_nrm
          refine wpAnyH_take (i := 16) (v := _) rfl (by kernel_rfl) (by kernel_rfl) (by kernel_rfl) (fun _ _ _ h => h) (Or.inr ⟨by rfl, rfl⟩) hH ?_
          walk_nrm
          refine wpAnyH_take (i := 17) (v := ?_) rfl (by kernel_rfl) (by kernel_rfl) (by kernel_rfl) (fun _ _ _ h => h) (Or.inl ⟨by rfl, ?hzq89⟩) hH ?rzq89
          case hzq89 => (intro W' hSw; (try dsimp only at hSw); go_simp; try with_reducible rfl)
          walk_nrm
          refine wpAnyH_take (i := 18) (v := ?_) rfl (by kernel_rfl) (by kernel_rfl) (by kernel_rfl) (fun _ _ _ h => h) (Or.inl ⟨by rfl, ?hzq90⟩) hH ?rzq90
          case hzq90 => (intro W' hSw; (try dsimp only at hSw); go_simp; try with_reducible rfl)
          walk_nrm
          refine wpAnyH_take (i := 19) (v := ?_) rfl (by kernel_rfl) (by kernel_rfl) (by kernel_rfl) (fun _ _ _ h => h) (Or.inl ⟨by rfl, ?hzq91⟩) hH ?rzq91
          case hzq91 => (intro W' hSw; (try dsimp only at hSw); go_simp; try with_reducible rfl)
          walk_nrm
          refine wpAnyH_take (i := 20) (v := ?_) rfl (by kernel_rfl) (by kernel_rfl) (by kernel_rfl) (fun _ _ _ h => h) (Or.inl ⟨by rfl, ?hzq92⟩) hH ?rzq92
          case hzq92 => (intro W' hSw; (try dsimp only at hSw); go_simp; try with_reducible rfl)
          walk_nrm
          refine wpAnyH_take (i := 21) (v := ?_) rfl (by kernel_rfl) (by kernel_rfl) (by kernel_rfl) (fun _ _ _ h => h) (Or.inl ⟨by rfl, ?hzq93⟩) hH ?rzq93
          case hzq93 => (intro W' hSw; (try dsimp only at hSw); go_simp; try with_reducible rfl)
          walk_nrm
          refine wpAnyH_take (i := 22) (v := ?_) rfl (by kernel_rfl) (by kernel_rfl) (by kernel_rfl) (fun _ _ _ h => h) (Or.inl ⟨by rfl, ?hzq94⟩) hH ?rzq94
          case hzq94 => (intro W' hSw; (try dsimp only at hSw); go_simp; try with_reducible rfl)
          walk_nrm
          refine wpAnyH_take (i := 23) (v := ?_) rfl (by kernel_rfl) (by kernel_rfl) (by kernel_rfl) (fun _ _ _ h => h) (Or.inl ⟨by rfl, ?hzq95⟩) hH ?rzq95
          case hzq95 => (intro W' hSw; (try dsimp only at hSw); go_simp; try with_reducible rfl)
          walk_nrm
          refine wpAnyH_take (i := 24) (v := ?_) rfl (by kernel_rfl) (by kernel_rfl) (by kernel_rfl) (fun _ _ _ h => h) (Or.inl ⟨by rfl, ?hzq96⟩) hH ?rzq96
          case hzq96 => (intro W' hSw; (try dsimp only at hSw); have s7 := (EvAt.all hSw).2.2.2.2.2.2.2.1; go_simp; try with_reducible rfl)
          walk_nrm
          refine wpAnyH_take (i := 25) (v := .bool true) rfl (by kernel_rfl) (by kernel_rfl) (by kernel_rfl) (fun _ _ _ h => h) (Or.inl ⟨by rfl, ?hzq97⟩) hH ?rzq97
          case hzq97 => (intro W' hSw; (try dsimp only at hSw); go_simp; (try simp [hcb]); (try exact unhide HNZ); try with_reducible rfl)
          walk_nrm
          refine wpAnyH_take (i := 26) (v := ?_) rfl (by kernel_rfl) (by kernel_rfl) (by kernel_rfl) (fun _ _ _ h => h) (Or.inl ⟨by rfl, ?hzq98⟩) hH ?rzq98
          case hzq98 => (intro W' hSw; (try dsimp only at hSw); go_simp; try with_reducible rfl)
          walk_nrm
          refine wpAnyH_take (i := 27) (v := ?_) rfl (by kernel_rfl) (by kernel_rfl) (by kernel_rfl) (fun _ _ _ h => h) (Or.inl ⟨by rfl, ?hzq99⟩) hH ?rzq99
          case hzq99 => (intro W' hSw; (try dsimp only at hSw); go_simp; try with_reducible rfl)
          walk_nrm
          refine wpAnyH_take (i := 28) (v := ?_) rfl (by kernel_rfl) (by kernel_rfl) (by kernel_rfl) (fun _ _ _ h => h) (Or.inl ⟨by rfl, ?hzq100⟩) hH ?rzq100
          case hzq100 => (intro W' hSw; (try dsimp only at hSw); go_simp; try with_reducible rfl)
          walk_nrm
          refine wpAnyH_take (i := 29) (v := ?_) rfl (by kernel_rfl) (by kernel_rfl) (by kernel_rfl) (fun _ _ _ h => h) (Or.inl ⟨by rfl, ?hzq101⟩) hH ?rzq101
          case hzq101 => (intro W' hSw; (try dsimp only at hSw); go_simp; try with_reducible rfl)
          walk_nrm
          refine wpAnyH_take (i := 30) (v := ?_) rfl (by kernel_rfl) (by kernel_rfl) (by kernel_rfl) (fun _ _ _ h => h) (Or.inl ⟨by rfl, ?hzq102⟩) hH ?rzq102
          case hzq102 => (intro W' hSw; (try dsimp only at hSw); go_simp; try with_reducible rfl)
          walk_nrm
          refine wpAnyH_take (i := 31) (v := _) rfl (by kernel_rfl) (by kernel_rfl) (by kernel_rfl) (fun _ _ _ h => h) (yieldsIf_load_mid (P := Try.prog) (by rfl) 35 _ rfl be (oe + j * 14 + 10) rfl [.int .i64 e.j.st, .int .i64 e.j.wk, .int .i64 e.j.tr, .int .i64 e.j.un] _ (fun _ h => ev_range h 10 _ (ev_part10 e)) Try.underlying35 rfl (by rw [jobInfoS]; rfl)) hH ?_
          walk_nrm
          rw [unhide HEJ]
          refine wpAnyH_take (i := 32) (v := ?_) rfl (by kernel_rfl) (by kernel_rfl) (by kernel_rfl) (fun _ _ _ h => h) (Or.inl ⟨by rfl, ?hzq103⟩) hH ?rzq103
          case hzq103 => (intro W' hSw; (try dsimp only at hSw); go_simp; try with_reducible rfl)
          walk_nrm
          refine wpAnyH_take (i := 33) (v := .bool false) rfl (by kernel_rfl) (by kernel_rfl) (by kernel_rfl) (fun _ _ _ h => h) (Or.inl ⟨by rfl, ?hzq104⟩) hH ?rzq104
          case hzq104 => (intro W' hSw; (try dsimp only at hSw); go_simp; (try simp); try with_reducible rfl)
          walk_nrm
          refine wpAnyH_take (i := 34) (v := ?_) rfl (by kernel_rfl) (by kernel_rfl) (by kernel_rfl) (fun _ _ _ h => h) (Or.inl ⟨by rfl, ?hzq105⟩) hH ?rzq105
          case hzq105 => (intro W' hSw; (try dsimp only at hSw); go_simp; try with_reducible rfl)
          walk_nrm
          refine wpAnyH_take (i := 35) (v := ?_) rfl (by kernel_rfl) (by kernel_rfl) (by kernel_rfl) (fun _ _ _ h => h) (Or.inl ⟨by rfl, ?hzq106⟩) hH ?rzq106
          case hzq106 => (intro W' hSw; (try dsimp only at hSw); go_simp; try with_reducible rfl)
          walk_nrm
          refine wpAnyH_done (by kernel_rfl) ?_ _
          refine NoPanic.normal ?_
          clear hH
          go_wp2
          go_roundw
          case rel => exact ⟨j + 1, by omega, by go_num, Gd⟩
          case measure => go_light; simp [intOf]; omega


    · have hji : ¬ (j : Int) < (q : Int) := by omega
      go_wp2
      go_ret
      exact ⟨rfl, G4.trans hG (by simp)⟩

end Go.Proofs.Ytjoibdmppmpjgac

namespace Go.Proofs.Ytjoibdmppmpjgac
open Go.ChangeShapes Go.WideShapes Go.ChangeAt Go.RowKit

set_option maxRecDepth 100000 in
theorem sparts_lifted (os : Os) (started : os.Started) (H : Type) (enc : TypeId × Value → H) :
    ReturnsInHanded {} Try.checked os 5 .any (Rows.storyPartsSpec.pre6 enc Try.prog Try.f5 Rows.storyPartsRow.domain false) (Rows.storyPartsSpec.post enc Try.prog Try.f5 false true false false) := by
  refine returnsInHanded_of_change (C := Try.checked) ownK started (by kernel_rfl) Try.func5
    (ChangeSpec.witness6 (enc := enc) (C := Try.checked) false ⟨#[], #[.slice none 0 0, .int .i64 0], []⟩ 8 (by kernel_rfl) (by kernel_rfl) (by kernel_rfl) (by kernel_rfl)) ?_
  intro W base args ds gs before hval0 hW hcnd _
  have hval : ∀ (j : Nat) t v, Try.f5.params[j]? = some t → args[j]? = some v → Value.okWide Try.prog W .any base t v := hval0
  have hW' := hW
  obtain ⟨p, q, hA0, hV, rfl, hfz, hnd⟩ := hW
  have hA : DataW.TrodAll enc Try.prog W 0 (fun _ => true) true Try.f5.params.toList args.toList ds p := hA0
  rw [Try.params5] at hA hval
  obtain ⟨v0, vs0, d0, ds0, p0, q0, hargs, rfl, rfl, h0, r0⟩ := trodAll_cons hA
  obtain ⟨v1, vs1, d1, ds1, p1, q1, rfl, rfl, rfl, h1, r1⟩ := trodAll_cons r0
  obtain ⟨rfl, rfl, rfl⟩ := trodAll_nil r1
  obtain rfl : args = #[v0, v1] := by cases args; simp_all
  obtain ⟨rfl, rfl⟩ := trodVars_none hV
  obtain ⟨a0, len0, cap0, rfl⟩ := okWide_slice Try.underlying22 (hval 0 22 v0 rfl rfl)
  have k0 := h0
  have lt0 : ∀ x ∈ p0, x.block < W.heap.size := by obtain ⟨m, hm⟩ := k0; exact DataW.trod_lt m _ _ _ hm
  obtain ⟨z0, w0, y0⟩ : ∃ l, Sl W (.slice a0 len0 cap0) l ∧ okB l := by
    obtain ⟨fuel, hf⟩ := h0
    have hf2 : DataW.trod enc Try.prog W 0 (fun _ => true) true fuel 22 [.slice a0 len0 cap0] = some (d0, p0) := by simpa [Value.cells] using hf
    obtain ⟨v9, l9, e9, h9, g9⟩ := sl_of_trod hf2
    simp at e9
    subst e9
    exact ⟨l9, h9, g9⟩
  obtain ⟨a1, rfl, rfl, rfl, w1⟩ := open_int Try.underlying3 (hval 1 3 v1 rfl rfl) h1
  clear hA0 hval0
  refine (sparts_any (.slice a0 len0 cap0) z0 a1 W w0 y0).mono fun e W' ⟨he, hch⟩ => ?_
  have bel := hch.below
  subst he
  exact ⟨_, rfl, _, _, _, [], _, [], hW', trodAll_mk1 (shut_bool Try.underlying4 _), (trodAll_cons_mk (Below.trod laidOutK (by kernel_rfl) (of_decide_eq_true (by kernel_rfl)) k0 bel lt0) (trodAll_cons_mk (shut_int Try.underlying3 w1) trodAll_mk0)), rfl, bel.frame _, fun h => by cases h⟩

theorem sparts_holds : Rows.StoryPartsSaid :=
  OpenClaim.holds_of_wide 5 Try.f5 rfl rfl rfl rfl rfl rfl rfl ⟨rfl, rfl, rfl, rfl, rfl⟩ rfl rfl rfl rfl rfl (by kernel_rfl) Try.func5 (by kernel_rfl)
    (of_decide_eq_true (by kernel_rfl)) (by unfold Func.isWrapper; first | (rw [if_pos (by decide +kernel)]; kernel_rfl) | (rw [if_neg (by decide +kernel)]; exact ⟨rfl, rfl⟩))
    (fun os started H enc _ => sparts_lifted os started H enc)

end Go.Proofs.Ytjoibdmppmpjgac

