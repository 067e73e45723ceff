/-
  The walk of the law 'the first that waits is taken'. Nothing here is claimed by itself.
-/
import Derived.Test.YtapjdnbionacmaaPFirst0
namespace Go.Proofs.Ytapjdnbionacmaa
open Go.RowKit Go.Sort

set_option maxRecDepth 100000 in
set_option maxHeartbeats 4000000 in
theorem first_row (a : Option Addr) (len cap : Nat) (x y : Int) (os : Nat → Od) (w : World) (hlen : len ≤ 300) (hO : Ords w a len os) :
    Calls Try.prog 8 #[.slice a len cap, .int .i64 x, .int .i64 y] w fun e w' => e = .returned (.bool true) ∧ Chg [] w w' := by
  have hle : decide ((300 : Int) < (len : Int)) = false := by simp; omega
  have HO := hide hO
  clear hO
  go_enter Try.func8, Try.ntmps8
  go_wp2_with fail
  refine (begun_any _).mono ?_
  rintro e w1 ⟨rfl, g1⟩
  go_wp2_with fail
  refine (new_any _).mono ?_
  rintro e w2 ⟨rfl, h2, g2⟩
  have G2 := g1.trans g2 (by simp)
  have z1 := g1.size
  go_wp2_with fail
  go_loopw [8] (fun i wr => ∃ k : Nat, k ≤ len ∧ i = .int .i64 k ∧ (∃ T, Inv T ∧ Has 48 wr w1.heap.size T) ∧ Chg [] w wr) (fun i _ => len - (intOf i).toNat)
  case atStart => exact ⟨0, by omega, rfl, ⟨T0, inv_T0, h2⟩, G2⟩
  case round =>
    obtain ⟨k, hk, rfl, ⟨T, hI, hT⟩, hG⟩ := hrel
    by_cases hlt : k < len
    · have hki : (k : Int) < (len : Int) := by omega
      rcases unhide HO with hz0 | ⟨bl, off, rfl, hbl, hO⟩
      · omega
      obtain ⟨p0, p1, p2, p3, p4, p5⟩ := (hO k hlt).chg hG hbl (by simp)
      clear hO
      go_wp2_with fail
      refine (do_any _ (os k) T _ hT hI.fit).mono ?_
      rintro e w4 ⟨rfl, h4, g4⟩
      have G4 := hG.trans g4 (by simp; omega)
      have I4 := hide (hI.step (os k))
      clear p0 p1 p2 p3 p4 p5
      generalize doT T (os k) = R at *
      go_wp2
      go_roundw
      case rel => exact ⟨k + 1, by omega, by go_num, ⟨R.1, unhide I4, h4⟩, G4⟩
      case measure => go_light; simp [intOf]; omega
    · go_wp2_with fail
      clear h2 g1 g2 G2 hlt hk
      have hwk := pick_bd x 4 (by omega) (by omega)
      have htm := pick1_bd y 20 (by omega) (by omega)
      generalize wrap64 ((IntKind.u64.wrap x).tmod 4) = wk at *
      generalize wrap64 (1 + wrap64 ((IntKind.u64.wrap y).tmod 20)) = tm at *
      obtain ⟨wo, rfl⟩ : ∃ wo : World, wo = wr := ⟨_, rfl⟩
      go_loopw [9, 10] (fun f i wr => ∃ k : Nat, k ≤ 6 ∧ i = .int .i64 ((k : Int) - 1) ∧ f = .int .i64 (fw T k) ∧ Chg [] wo wr) (fun _ i _ => (intOf i + 1).toNat)
      case atStart => exact ⟨6, by omega, rfl, rfl, Chg.refl _ _⟩
      case round =>
        obtain ⟨k2, hk2, rfl, rfl, hg⟩ := hrel
        have hTr := hT.chg hg (by simp)
        have hfl := field_job
        rcases k2 with _ | j
        · have hGr := hG.trans hg (by simp)
          have z5 := hTr.lt
          go_wp2_with fail
          refine (own_any _ T _ hTr).mono ?_
          rintro e w5 ⟨rfl, u5, g5⟩
          have h5 := hTr.chg g5 (by simp)
          have G5 := hGr.trans g5 (by simp)
          have z6 := u5.lt
          clear hG hT hg hTr g5 hGr
          go_wp2_with fail
          refine (now_any _ T _ h5).mono ?_
          rintro e w6 ⟨rfl, rfl⟩
          go_wp2_with fail
          refine (do_any _ ⟨2, T.now, 0, 0, wk, tm⟩ T _ h5 hI.fit).mono ?_
          rintro e w7 ⟨rfl, h7, g7⟩
          have u7 := u5.chg g7 (by simp; omega)
          have G7 := G5.trans g7 (by simp; omega)
          clear h5 u5 G5 g7
          rcases take_now hI ⟨hwk.1, by omega⟩ htm with ⟨e1, e2⟩ | ⟨n, hn, e1, e2⟩
          · rw [e2] at h7 ⊢
            rw [e1]
            clear e1 e2
            go_wp2
            go_ret
            exact ⟨rfl, G7.alloc _⟩
          · rw [e2] at h7 ⊢
            rw [e1]
            clear e1 e2
            have hn0 : ¬ ((n : Int) < 0) := by omega
            have hb0 : decide ((n : Int) < 0) = false := by simp
            have tb := (hI.fit.2 n hn)
            have nb := hI.fit.1
            obtain ⟨t0, t1⟩ := tb
            obtain ⟨n0, n1⟩ := nb
            obtain ⟨m0, m1⟩ := htm
            simp only at h7
            go_wp2_with fail
            have h8 := h7.alloc (.cells #[.int .i64 0, .int .i64 n, .int .i64 ((T.js n).tr + 1)] 33)
            have u8 := u7.alloc (.cells #[.int .i64 0, .int .i64 n, .int .i64 ((T.js n).tr + 1)] 33)
            have A8 := Blk.new w7 #[.int .i64 0, .int .i64 n, .int .i64 ((T.js n).tr + 1)] 33
            have G8 := G7.alloc (.cells #[.int .i64 0, .int .i64 n, .int .i64 ((T.js n).tr + 1)] 33)
            obtain ⟨W8, hW8⟩ : ∃ W8, W8 = w7.alloc (.cells #[.int .i64 0, .int .i64 n, .int .i64 ((T.js n).tr + 1)] 33) := ⟨_, rfl⟩
            rw [← hW8] at h8 u8 A8 G8
            rw [← hW8]
            clear hW8 h7 u7 G7
            obtain ⟨wq, rfl⟩ : ∃ wq : World, wq = wr := ⟨_, rfl⟩
            go_loopw [13] (fun i wr => ∃ m : Nat, m ≤ 6 ∧ i = .int .i64 m ∧ Chg [] W8 wr) (fun i _ => 6 - (intOf i).toNat)
            case atStart => exact ⟨0, by omega, rfl, Chg.refl _ _⟩
            case round =>
              obtain ⟨m, hm, rfl, hg⟩ := hrel
              have hu := u8.chg hg (by simp)
              by_cases hm6 : m < 6
              · have hm' : (m : Int) < 6 := by omega
                go_wp2_with fail
                refine (job_in _ m hm6 T _ hu).mono ?_
                rintro e w9 ⟨rfl, g9⟩
                have g10 := hg.trans g9 (by simp)
                have h10 := h8.chg g10 (by simp)
                have u10 := u8.chg g10 (by simp)
                clear hg g9 hu
                by_cases e : m = n
                · subst e
                  go_wp2_with fail
                  go_region_with (go_at_call 19; refine (now_any _ T _ (by exact u10.alloc _)).mono ?_; rintro e w' ⟨rfl, rfl⟩)
                  all_goals
                    have ew1 : IntKind.i64.wrap ((T.js m).tr + 1) = (T.js m).tr + 1 := by rw [IntKind.wrap_i64]; omega
                    have ew2 : IntKind.i64.wrap (T.now + tm) = T.now + tm := by rw [IntKind.wrap_i64]; omega
                    rw [ew1, ew2]
                    clear ew1 ew2
                    obtain ⟨X, hX⟩ : ∃ X, X = (w9.alloc (.cells #[.int .i64 2, .int .i64 wk, .int .i64 ((T.js m).tr + 1), .int .i64 (T.now + tm)] 28)).drew := ⟨_, rfl⟩
                    rw [← hX]
                    have hX1 : Has 48 X w1.heap.size (T.set m ⟨2, wk, (T.js m).tr + 1, T.now + tm⟩) := by rw [hX]; exact (h10.alloc _).drew
                    have hX2 : Blk X w9.heap.size #[.int .i64 2, .int .i64 wk, .int .i64 ((T.js m).tr + 1), .int .i64 (T.now + tm)] 28 := by rw [hX]; exact (Blk.new w9 _ _).drew
                    have hX3 : Chg [] W8 X := by rw [hX]; exact (g10.alloc _).drew
                    clear hX
                    have cJ := job_quiet hX1 hm6
                    rw [Tb.set_same] at cJ
                    obtain ⟨c0, c1, c2, c3⟩ := hX2.four
                    have k1 := fun d os => cell_regrown c0 d os
                    have k2 := fun d os => cell_regrown c1 d os
                    have k3 := fun d os => cell_regrown c2 d os
                    have k4 := fun d os => cell_regrown c3 d os
                    clear c0 c1 c2 c3
                    go_wp2_with fail
                    refine wp_region_quiet_below (by kernel_rfl) (by kernel_rfl) ?_
                    repeat (first | go_big_quiet_step (exact cJ _ _) | quiet_step (exact cJ _ _))
                    refine wpQuiet_nil ?_
                    intro x9 hx9
                    obtain ⟨⟨dq, oq⟩, rfl⟩ := hx9
                    have g11 := hX3.trans (Chg.regrown X dq oq) (by simp)
                    generalize grow (redrawn X dq) oq = x9 at *
                    clear cJ k1 k2 k3 k4
                    go_wp2
                    go_roundw
                    case rel => exact ⟨m + 1, by omega, by go_num, g11⟩
                    case measure => go_light; simp [intOf]; omega
                · have b1 : ((m : Int) == (n : Int)) = false := by rw [beq_eq_false_iff_ne]; omega
                  have cJ := job_quiet (h10.alloc (.cells #[.int .i64 (T.js m).st, .int .i64 (T.js m).wk, .int .i64 (T.js m).tr, .int .i64 (T.js m).un] 28)) hm6
                  rw [Tb.set_other _ _ _ _ e] at cJ
                  obtain ⟨c0, c1, c2, c3⟩ := (Blk.new w9 #[.int .i64 (T.js m).st, .int .i64 (T.js m).wk, .int .i64 (T.js m).tr, .int .i64 (T.js m).un] 28).four
                  have k1 := fun d os => cell_regrown c0 d os
                  have k2 := fun d os => cell_regrown c1 d os
                  have k3 := fun d os => cell_regrown c2 d os
                  have k4 := fun d os => cell_regrown c3 d os
                  clear c0 c1 c2 c3
                  go_wp2_with fail
                  refine wp_region_quiet_below (by kernel_rfl) (by kernel_rfl) ?_
                  repeat (first | go_big_quiet_step (exact cJ _ _) | quiet_step (exact cJ _ _))
                  refine wpQuiet_nil ?_
                  intro x9 hx9
                  obtain ⟨⟨dq, oq⟩, rfl⟩ := hx9
                  have g11 := (g10.alloc _).trans (Chg.regrown (w9.alloc (.cells #[.int .i64 (T.js m).st, .int .i64 (T.js m).wk, .int .i64 (T.js m).tr, .int .i64 (T.js m).un] 28)) dq oq) (by simp)
                  generalize grow (redrawn (w9.alloc (.cells #[.int .i64 (T.js m).st, .int .i64 (T.js m).wk, .int .i64 (T.js m).tr, .int .i64 (T.js m).un] 28)) dq) oq = x9 at *
                  clear cJ k1 k2 k3 k4
                  go_wp2
                  go_roundw
                  case rel => exact ⟨m + 1, by omega, by go_num, g11⟩
                  case measure => go_light; simp [intOf]; omega
              · obtain rfl : m = 6 := by omega
                have GR := G8.trans hg (by simp)
                have hAr := A8.chg hg (by simp)
                obtain ⟨a0, a1, a2, _, _, _⟩ := hAr.three
                have cJ := job_quiet hu hn
                have hf2 := field_job2
                have k1 := fun d os => cell_regrown a0 d os
                have k2 := fun d os => cell_regrown a1 d os
                have k3 := fun d os => cell_regrown a2 d os
                clear a0 a1 a2
                go_wp2_with fail
                refine wp_region_quiet_below (by kernel_rfl) (by kernel_rfl) ?_
                repeat (first | go_big_quiet_step (exact cJ _ _) | quiet_step (exact cJ _ _))
                refine wpQuiet_nil ?_
                intro x9 hx9
                obtain ⟨⟨dq, oq⟩, rfl⟩ := hx9
                have g11 := GR.trans (Chg.regrown wr dq oq) (by simp)
                generalize grow (redrawn wr dq) oq = x9 at *
                clear cJ k1 k2 k3
                go_wp2
                go_ret
                exact ⟨rfl, g11⟩
        · have ej : (((j + 1 : Nat) : Int) - 1) = (j : Int) := by omega
          rw [ej]
          clear ej
          have hj : j < 6 := by omega
          by_cases hs : (T.js j).st = 1
          · have b1 : ((T.js j).st == 1) = true := by simpa using hs
            have HF := hide (fw_here T hj hs)
            clear hs
            go_wp2_with fail
            refine (job_in _ j hj T _ hTr).mono ?_
            rintro e w3 ⟨rfl, g3⟩
            go_wp2
            go_roundw
            case rel => exact ⟨j, by omega, by go_num, by rw [unhide HF], hg.trans g3 (by simp)⟩
            case measure => go_light; simp [intOf]
          · have b1 : ((T.js j).st == 1) = false := by simpa using hs
            have HF := hide (fw_next T hj hs)
            clear hs
            go_wp2_with fail
            refine (job_in _ j hj T _ hTr).mono ?_
            rintro e w3 ⟨rfl, g3⟩
            go_wp2
            go_roundw
            case rel => exact ⟨j, by omega, by go_num, by rw [unhide HF], hg.trans g3 (by simp)⟩
            case measure => go_light; simp [intOf]

set_option maxRecDepth 100000 in
set_option maxHeartbeats 1000000 in
theorem first_many (a : Option Addr) (len cap : Nat) (x y : Int) (w : World) (hlen : 300 < len) :
    Calls Try.prog 8 #[.slice a len cap, .int .i64 x, .int .i64 y] w fun e w' => e = .returned (.bool true) ∧ Chg [] w w' := by
  have hle : decide ((300 : Int) < (len : Int)) = true := by simp; omega
  go_enter Try.func8, Try.ntmps8
  go_wp2_with fail
  refine (begun_any _).mono ?_
  rintro e w1 ⟨rfl, g1⟩
  go_wp2
  go_ret
  exact ⟨rfl, g1⟩

theorem first_any (a : Option Addr) (len cap : Nat) (x y : Int) (os : Nat → Od) (w : World) (h : Ords w a len os) :
    Calls Try.prog 8 #[.slice a len cap, .int .i64 x, .int .i64 y] w fun e w' => e = .returned (.bool true) ∧ Chg [] w w' := by
  by_cases hlen : 300 < len
  · exact first_many a len cap x y w hlen
  · exact first_row a len cap x y os w (by omega) h

end Go.Proofs.Ytapjdnbionacmaa
