/-
  The walk of the law 'what is refused changes nothing'. Nothing here is claimed by itself.
-/
import Derived.Test.YtapjdnbionacmaaLawBase
namespace Go.Proofs.Ytapjdnbionacmaa
open Go.RowKit Go.Sort

set_option maxRecDepth 100000 in
set_option maxHeartbeats 4000000 in
theorem refuses_row (bl off len cap : Nat) (os : Nat → Od) (w : World) (hlen : len ≤ 300) (hbl : bl < w.heap.size) (hO : ∀ i, i < len → OrdAt w bl (off + i * 6) (os i)) :
    Calls Try.prog 6 #[.slice (some ⟨bl, off, none⟩) len cap] w fun e w' => e = .returned (.bool true) ∧ Chg [] w w' := by
  have hle : decide ((300 : Int) < (len : Int)) = false := by simp; omega
  have HO := hide hO
  clear hO
  go_enter Try.func6, Try.ntmps6
  go_wp2_with fail
  refine (begun_any _).mono ?_
  rintro e w1 ⟨rfl, g1⟩
  go_wp2_with fail
  refine (new_any _).mono ?_
  rintro e w2 ⟨rfl, h2, g2⟩
  have G2 := g1.trans g2 (by simp)
  have z1 := g1.size
  go_wp2_with fail
  go_loopw [4] (fun i wr => ∃ k : Nat, k ≤ len ∧ i = .int .i64 k ∧ ∃ T, Inv T ∧ Has 48 wr w1.heap.size T ∧ Chg [] w wr) (fun i _ => len - (intOf i).toNat)
  case atStart => exact ⟨0, by omega, rfl, T0, inv_T0, h2, G2⟩
  case round =>
    obtain ⟨k, hk, rfl, T, hI, hT, hG⟩ := hrel
    by_cases hlt : k < len
    · have hlr := hT.lt
      go_wp2_with fail
      refine (now_any _ _ _ (hT.alloc _)).mono ?_
      rintro e w3 ⟨rfl, rfl⟩
      go_wp2_with fail
      obtain ⟨wo, rfl⟩ : ∃ wo : World, wo = wr := ⟨_, rfl⟩
      go_loopw [7] (fun i wr => ∃ m : Nat, m ≤ 6 ∧ i = .int .i64 m ∧ (∃ f, Jobs6 29 wr wo.heap.size f ∧ Hid (∀ x, x < m → f x = T.js x)) ∧ Chg [] wo wr) (fun i _ => 6 - (intOf i).toNat)
      case atStart => exact ⟨0, by omega, rfl, ⟨_, Jobs6.new _ _ (fun _ => ⟨0, 0, 0, 0⟩), fun x hx => absurd hx (by omega)⟩, (Chg.refl _ _).alloc _⟩
      case round =>
        obtain ⟨m, hm, rfl, ⟨f, hf, hfx⟩, hg⟩ := hrel
        have hTr := hT.chg hg (by simp)
        have zr := hg.size
        by_cases hm6 : m < 6
        · go_wp2_with fail
          refine (job_in _ m hm6 T _ hTr).mono ?_
          rintro e w3 ⟨rfl, g3⟩
          have hf3 := Blk.chg hf g3 (by simp)
          obtain ⟨c0, c1, c2, c3⟩ := Jobs6.c hf3 hm6
          have f0 := Blk.fz hf3 (m * 4)
          have f1 := Blk.fz hf3 (m * 4 + 1)
          have f2 := Blk.fz hf3 (m * 4 + 2)
          have f3 := Blk.fz hf3 (m * 4 + 3)
          go_wp2
          go_roundw
          case rel => exact ⟨m + 1, by omega, by go_num, ⟨_, Jobs6.set hf3 hm6 (T.js m), by
            intro x hx
            by_cases e : x = m
            · subst e; simp [setJ]
            · simp only [setJ, if_neg e]; exact hfx x (by omega)⟩, ((((hg.trans g3 (by simp)).setCell (by simp) _).setCell (by simp) _).setCell (by simp) _).setCell (by simp) _⟩
          case measure => go_light; simp [intOf]; omega
        · obtain rfl : m = 6 := by omega
          have hGr := hG.trans hg (by simp)
          obtain ⟨p0, p1, p2, p3, p4, p5⟩ := (unhide HO k hlt).chg hGr hbl (by simp)
          have hki : (k : Int) < (len : Int) := by omega
          go_wp2_with fail
          refine (do_any _ (os k) T _ hTr hI.fit).mono ?_
          rintro e w4 ⟨rfl, h4, g4⟩
          have hf4 := Blk.chg hf g4 (by simp; omega)
          have G4 := hGr.trans g4 (by simp; omega)
          have I4 := hide (hI.step (os k))
          have R1 := hide (do_code T (os k))
          have R2 := hide (do_now T (os k))
          have R3 := hide (do_there T (os k))
          have z4 := h4.lt
          have z5 := Blk.lt hf4
          clear p0 p1 p2 p3 p4 p5 hTr hGr hg hf g4 hm hm6 zr
          generalize doT T (os k) = R at *
          have h5 := h4.alloc (.cells #[.int .i64 R.2.code, .int .i64 R.2.jb, .int .i64 R.2.tr] 33)
          have A5 := Blk.new w4 #[.int .i64 R.2.code, .int .i64 R.2.jb, .int .i64 R.2.tr] 33
          have f5 := Blk.alloc hf4 (.cells #[.int .i64 R.2.code, .int .i64 R.2.jb, .int .i64 R.2.tr] 33)
          have G5 := G4.alloc (.cells #[.int .i64 R.2.code, .int .i64 R.2.jb, .int .i64 R.2.tr] 33)
          have b0 : decide (R.1.now < T.now) = false := by simp; exact unhide R2
          by_cases hz : R.2.code = 0
          · have b1 : (R.2.code != 0) = false := by simp [hz]
            clear hz
            go_wp2_with fail
            refine (now_any _ R.1 _ h5).mono ?_
            rintro e w6 ⟨rfl, rfl⟩
            go_wp2_with fail
            obtain ⟨W5, hW5⟩ : ∃ W5, W5 = w4.alloc (.cells #[.int .i64 R.2.code, .int .i64 R.2.jb, .int .i64 R.2.tr] 33) := ⟨_, rfl⟩
            rw [← hW5] at h5 A5 f5 G5
            rw [← hW5]
            clear hW5
            go_loopw [9] (fun i wr => ∃ m : Nat, m ≤ 6 ∧ i = .int .i64 m ∧ Chg [] W5 wr) (fun i _ => 6 - (intOf i).toNat)
            case atStart => exact ⟨0, by omega, rfl, Chg.refl _ _⟩
            case round =>
              obtain ⟨m, hm, rfl, hg⟩ := hrel
              have hTr := h5.chg hg (by simp)
              have hAr := A5.chg hg (by simp)
              have hfr := Blk.chg f5 hg (by simp)
              by_cases hm6 : m < 6
              · obtain ⟨a0, a1, a2, _, _, _⟩ := hAr.three
                obtain ⟨c0, c1, c2, c3⟩ := Jobs6.c hfr hm6
                have ef := unhide hfx m hm6
                rw [ef] at c0 c1 c2 c3
                clear ef
                have hm' : (m : Int) < 6 := by omega
                by_cases hs : (T.js m).st = 0
                · have b2 : ((T.js m).st != 0) = false := by simp [hs]
                  clear hs
                  go_wp2_with fail
                  go_quiet (fail)
                  go_wp2
                  go_roundw
                  case rel => exact ⟨m + 1, by omega, by go_num, hg.drewN _⟩
                  case measure => go_light; simp [intOf]; omega
                · have b2 : ((T.js m).st != 0) = true := by rw [bne_iff_ne]; exact hs
                  have b3 : ((R.1.js m).st == 0) = false := by rw [beq_eq_false_iff_ne]; exact unhide R3 m hm6 hs
                  clear hs
                  go_wp2_with fail
                  have cJ := job_quiet hTr hm6
                  have k0 := fun d os => cell_regrown a0 d os
                  have k1 := fun d os => cell_regrown c0 d os
                  have hfl := field_job
                  refine wp_region_quiet_below (by kernel_rfl) (by kernel_rfl) ?_
                  repeat (first | go_big_quiet_step (exact cJ _ _) | quiet_step (exact cJ _ _))
                  refine wpQuiet_nil ?_
                  intro w9 hw9
                  obtain ⟨⟨dq, oq⟩, rfl⟩ := hw9
                  have g9 := hg.trans (Chg.regrown wr dq oq) (by simp)
                  generalize grow (redrawn wr dq) oq = w9 at *
                  clear cJ k0 k1 hfl
                  go_wp2
                  go_roundw
                  case rel => exact ⟨m + 1, by omega, by go_num, g9⟩
                  case measure => go_light; simp [intOf]; omega
              · obtain rfl : m = 6 := by omega
                have GR := G5.trans hg (by simp)
                go_wp2
                go_roundw
                case rel => exact ⟨k + 1, by omega, by go_num, R.1, unhide I4, hTr, GR⟩
                case measure => go_light; simp [intOf]; omega
          · obtain ⟨RT, RA⟩ := R
            obtain rfl : RT = T := unhide R1 hz
            have b1 : (RA.code != 0) = true := by rw [bne_iff_ne]; exact hz
            clear hz R1 R2 R3
            simp only at h4 h5 b0 A5 f5 G5
            go_wp2_with fail
            refine (now_any _ RT _ h5).mono ?_
            rintro e w6 ⟨rfl, rfl⟩
            go_wp2_with fail
            refine (now_any _ RT _ h5).mono ?_
            rintro e w6 ⟨rfl, rfl⟩
            go_wp2_with fail
            obtain ⟨W5, hW5⟩ : ∃ W5, W5 = w4.alloc (.cells #[.int .i64 RA.code, .int .i64 RA.jb, .int .i64 RA.tr] 33) := ⟨_, rfl⟩
            rw [← hW5] at h5 A5 f5 G5
            rw [← hW5]
            clear hW5
            go_loopw [9] (fun i wr => ∃ m : Nat, m ≤ 6 ∧ i = .int .i64 m ∧ Chg [] W5 wr) (fun i _ => 6 - (intOf i).toNat)
            case atStart => exact ⟨0, by omega, rfl, Chg.refl _ _⟩
            case round =>
              obtain ⟨m, hm, rfl, hg⟩ := hrel
              have hTr := h5.chg hg (by simp)
              have hAr := A5.chg hg (by simp)
              have hfr := Blk.chg f5 hg (by simp)
              by_cases hm6 : m < 6
              · obtain ⟨a0, a1, a2, _, _, _⟩ := hAr.three
                obtain ⟨c0, c1, c2, c3⟩ := Jobs6.c hfr hm6
                have ef := unhide hfx m hm6
                rw [ef] at c0 c1 c2 c3
                clear ef
                have hm' : (m : Int) < 6 := by omega
                have cJ := job_quiet hTr hm6
                have k0 := fun d os => cell_regrown a0 d os
                have k1 := fun d os => cell_regrown c0 d os
                have k2 := fun d os => cell_regrown c1 d os
                have k3 := fun d os => cell_regrown c2 d os
                have k4 := fun d os => cell_regrown c3 d os
                have hfl := field_job
                by_cases hs : (RT.js m).st = 0
                · have b2 : ((RT.js m).st != 0) = false := by simp [hs]
                  clear hs
                  go_wp2_with fail
                  refine wp_region_quiet_below (by kernel_rfl) (by kernel_rfl) ?_
                  repeat (first | go_big_quiet_step (exact cJ _ _) | quiet_step (exact cJ _ _))
                  refine wpQuiet_nil ?_
                  intro w9 hw9
                  obtain ⟨⟨dq, oq⟩, rfl⟩ := hw9
                  have g9 := hg.trans (Chg.regrown wr dq oq) (by simp)
                  generalize grow (redrawn wr dq) oq = w9 at *
                  clear cJ k0 k1 k2 k3 k4 hfl
                  go_wp2
                  go_roundw
                  case rel => exact ⟨m + 1, by omega, by go_num, g9⟩
                  case measure => go_light; simp [intOf]; omega
                · have b2 : ((RT.js m).st != 0) = true := by rw [bne_iff_ne]; exact hs
                  have b3 : ((RT.js m).st == 0) = false := by rw [beq_eq_false_iff_ne]; exact hs
                  clear hs
                  go_wp2_with fail
                  refine wp_region_quiet_below (by kernel_rfl) (by kernel_rfl) ?_
                  repeat (first | go_big_quiet_step (exact cJ _ _) | quiet_step (exact cJ _ _))
                  refine wpQuiet_nil ?_
                  intro w9 hw9
                  obtain ⟨⟨dq, oq⟩, rfl⟩ := hw9
                  have g9 := hg.trans (Chg.regrown wr dq oq) (by simp)
                  generalize grow (redrawn wr dq) oq = w9 at *
                  clear cJ k0 k1 k2 k3 k4 hfl
                  go_wp2
                  go_roundw
                  case rel => exact ⟨m + 1, by omega, by go_num, g9⟩
                  case measure => go_light; simp [intOf]; omega
              · obtain rfl : m = 6 := by omega
                have GR := G5.trans hg (by simp)
                go_wp2
                go_roundw
                case rel => exact ⟨k + 1, by omega, by go_num, RT, unhide I4, hTr, GR⟩
                case measure => go_light; simp [intOf]; omega
    · go_wp2
      go_ret
      exact ⟨rfl, hG⟩

set_option maxRecDepth 100000 in
set_option maxHeartbeats 1000000 in
theorem refuses_none (a : Option Addr) (cap : Nat) (w : World) :
    Calls Try.prog 6 #[.slice a 0 cap] w fun e w' => e = .returned (.bool true) ∧ Chg [] w w' := by
  go_enter Try.func6, Try.ntmps6
  go_wp2_with fail
  refine (begun_any _).mono ?_
  rintro e w1 ⟨rfl, g1⟩
  go_wp2_with fail
  refine (new_any _).mono ?_
  rintro e w2 ⟨rfl, h2, g2⟩
  have G2 := g1.trans g2 (by simp)
  go_wp2_with fail
  refine wp_loop_rounds 1 ?_
  rw [rounds_succ]
  go_wp2
  go_ret
  exact ⟨rfl, G2⟩

set_option maxRecDepth 100000 in
set_option maxHeartbeats 1000000 in
theorem refuses_many (a : Option Addr) (len cap : Nat) (w : World) (hlen : 300 < len) :
    Calls Try.prog 6 #[.slice a len cap] w fun e w' => e = .returned (.bool true) ∧ Chg [] w w' := by
  have hle : decide ((300 : Int) < (len : Int)) = true := by simp; omega
  go_enter Try.func6, Try.ntmps6
  go_wp2_with fail
  refine (begun_any _).mono ?_
  rintro e w1 ⟨rfl, g1⟩
  go_wp2
  go_ret
  exact ⟨rfl, g1⟩

theorem refuses_any (a : Option Addr) (len cap : Nat) (os : Nat → Od) (w : World) (h : Ords w a len os) :
    Calls Try.prog 6 #[.slice a len cap] w fun e w' => e = .returned (.bool true) ∧ Chg [] w w' := by
  by_cases hlen : 300 < len
  · exact refuses_many a len cap w hlen
  rcases h with rfl | ⟨bl, off, rfl, hbl, hO⟩
  · exact refuses_none a cap w
  · exact refuses_row bl off len cap os w (by omega) hbl hO

end Go.Proofs.Ytapjdnbionacmaa
