/-
  The walk of the law 'no try is given twice'. Nothing here is claimed by itself.
-/
import Derived.Test.YtapjdnbionacmaaPTries0
namespace Go.Proofs.Ytapjdnbionacmaa
open Go.RowKit Go.Sort

set_option maxRecDepth 100000 in
set_option maxHeartbeats 4000000 in
theorem tries_row (bl off len cap : Nat) (os : Nat → Od) (w : World) (hlen : len ≤ 300) (hbl : bl < w.heap.size) (hO : ∀ i, i < len → OrdAt w bl (off + i * 6) (os i)) :
    Calls Try.prog 4 #[.slice (some ⟨bl, off, none⟩) len cap] w fun e w' => e = .returned (.bool true) ∧ Chg [] w w' := by
  have hle : decide ((300 : Int) < (len : Int)) = false := by simp; omega
  have HO := hide hO
  clear hO
  go_enter Try.func4, Try.ntmps4
  go_wp2_with fail
  refine (begun_any _).mono ?_
  rintro e w1 ⟨rfl, g1⟩
  go_wp2_with fail
  refine (new_any _).mono ?_
  rintro e w2 ⟨rfl, h2, g2⟩
  have G2 := g1.trans g2 (by simp)
  have z1 := g1.size
  have z2 := h2.lt
  go_wp2_with fail
  go_loopw [6] (fun i wr => ∃ k : Nat, k ≤ len ∧ i = .int .i64 k ∧ (∃ T f g, Inv T ∧ TW T f g ∧ Has 48 wr w1.heap.size T ∧ Ints6 40 wr w2.heap.size f ∧ Ints6 40 wr (w2.heap.size + 1) g) ∧ Chg [] w wr) (fun i _ => len - (intOf i).toNat)
  case atStart => exact ⟨0, by omega, rfl, ⟨T0, fun _ => 0, fun _ => 0, inv_T0, fun _ _ => ⟨rfl, fun _ => rfl⟩, (h2.alloc _).alloc _, (Blk.new w2 _ _).alloc _, Blk.new1 w2 _ _ _⟩, (G2.alloc _).alloc _⟩
  case round =>
    obtain ⟨k, hk, rfl, ⟨T, f, g, hI, hW, hT, hf, hgg⟩, hG⟩ := hrel
    by_cases hlt : k < len
    · have hki : (k : Int) < (len : Int) := by omega
      obtain ⟨p0, p1, p2, p3, p4, p5⟩ := (unhide HO k hlt).chg hG hbl (by simp)
      have hlr := hT.lt
      go_wp2_with fail
      refine (do_any _ (os k) T _ hT hI.fit).mono ?_
      rintro e w4 ⟨rfl, h4, g4⟩
      have f4 := Blk.chg hf g4 (by simp; omega)
      have gg4 := Blk.chg hgg g4 (by simp; omega)
      have G4 := hG.trans g4 (by simp; omega)
      have I4 := hide (hI.step (os k))
      have R1 := hide (tries_take hI hW (os k))
      have R2 := hide (tries_else hI hW (os k))
      have z4 := h4.lt
      have zf4 := Blk.lt f4
      have zg4 := Blk.lt gg4
      have hbl4 : bl < w4.heap.size := by omega
      obtain ⟨o0, o1, o2, o3, o4, o5⟩ := (unhide HO k hlt).chg G4 hbl (by simp)
      clear p0 p1 p2 p3 p4 p5 hT hf hgg hG g4 hW hI
      generalize doT T (os k) = R at *
      by_cases hz : (os k).k = 2 ∧ R.2.code = 0
      · obtain ⟨RT, rc, rj, rt⟩ := R
        obtain ⟨hk2, hz⟩ := hz
        obtain ⟨n, hn, e1, e2, e3, e4, e5⟩ := unhide R1 hk2 hz
        simp only at hz e1 e2
        subst hz
        subst e1
        subst e2
        have hT4 := hide e5
        clear e5 R1 R2
        have b0 : ((os k).k == 2) = true := by simpa using hk2
        clear hk2
        have hn' : (n : Int) < 6 := by omega
        have d0 : decide ((n : Int) < 0) = false := by simp
        have d1 : decide ((6 : Int) ≤ (n : Int)) = false := by simp; omega
        have d2 : decide ((3 : Int) < f n + 1) = false := by simp; omega
        have cf := Ints6.c f4 hn
        have cg := Ints6.c gg4 hn
        have ff := Blk.fz f4 n
        have fg := Blk.fz gg4 n
        simp only at h4
        go_wp2_with fail
        go_quiet (fail)
        go_wp2_with fail
        go_region
        obtain ⟨W5, hW5⟩ : ∃ W5, W5 = (((w4.alloc (.cells #[.int .i64 0, .int .i64 n, .int .i64 (f n + 1)] 33)).drewN (nq + 1)).setCell ⟨w2.heap.size, n, none⟩ (.int .i64 (f n + 1))).setCell ⟨w2.heap.size + 1, n, none⟩ (.int .i64 (os k).wk) := ⟨_, rfl⟩
        rw [← hW5]
        have h5 : Has 48 W5 w1.heap.size RT := by rw [hW5]; exact (((h4.alloc _).drewN _).setOther (by simp; omega) _).setOther (by simp; omega) _
        have f5 : Ints6 40 W5 w2.heap.size (setI f n (f n + 1)) := by rw [hW5]; exact Blk.other (Ints6.set (Blk.drewN (Blk.alloc f4 _) _) hn _) (by simp) _
        have gg5 : Ints6 40 W5 (w2.heap.size + 1) (setI g n (os k).wk) := by rw [hW5]; exact Ints6.set (Blk.other (Blk.drewN (Blk.alloc gg4 _) _) (by simp) _) hn _
        have G5 : Chg [] w W5 := by rw [hW5]; exact (((G4.alloc _).drewN _).setCell (by simp; omega) _).setCell (by simp; omega) _
        clear hW5 cf cg ff fg d0 d1 d2
        go_wp2_with fail
        clear g1 g2 h2
        go_loopw [8] (fun i wr => ∃ m : Nat, m ≤ 6 ∧ i = .int .i64 m ∧ Chg [] W5 wr) (fun i _ => 6 - (intOf i).toNat)
        case atStart => exact ⟨0, by omega, rfl, Chg.refl _ _⟩
        case round =>
          obtain ⟨m, hm, rfl, hg⟩ := hrel
          have hTr := h5.chg hg (by simp)
          by_cases hm6 : m < 6
          · have hm' : (m : Int) < 6 := by omega
            go_wp2_with fail
            refine (job_in _ m hm6 RT _ hTr).mono ?_
            rintro e w7 ⟨rfl, g7⟩
            have g8 := hg.trans g7 (by simp)
            have hT7 := h5.chg g8 (by simp)
            have f7 := Blk.chg f5 g8 (by simp)
            have gg7 := Blk.chg gg5 g8 (by simp)
            have zf7 := Blk.lt f7
            have zg7 := Blk.lt gg7
            have c1 := Ints6.c f7 hm6
            have c2 := Ints6.c gg7 hm6
            obtain ⟨e1, e2⟩ := unhide hT4 m hm6
            have b3 : ((RT.js m).tr != (setI f n (f n + 1)) m) = false := by rw [e1]; simp
            by_cases hs : (RT.js m).st = 2
            · have b4 : ((RT.js m).st == 2) = true := by simpa using hs
              have b5 : ((RT.js m).wk != (setI g n (os k).wk) m) = false := by rw [e2 hs]; simp
              have b6 : decide ((RT.js m).un ≤ RT.now) = false := by simp; exact (unhide I4).held hm6 hs
              clear e1 e2 hs
              go_wp2_with fail
              go_quiet ((go_at_call 19; exact Calls.quiet_of_same (now_any _ RT _ ((hT7.alloc _).drewN _))))
              go_wp2
              go_roundw
              case rel => exact ⟨m + 1, by omega, by go_num, (g8.alloc _).drewN _⟩
              case measure => go_light; simp [intOf]; omega
            · have b4 : ((RT.js m).st == 2) = false := by rw [beq_eq_false_iff_ne]; exact hs
              clear e1 e2 hs
              go_wp2_with fail
              go_quiet (fail)
              go_wp2
              go_roundw
              case rel => exact ⟨m + 1, by omega, by go_num, (g8.alloc _).drewN _⟩
              case measure => go_light; simp [intOf]; omega
          · obtain rfl : m = 6 := by omega
            have GR := G5.trans hg (by simp)
            have fR := Blk.chg f5 hg (by simp)
            have ggR := Blk.chg gg5 hg (by simp)
            go_wp2
            go_roundw
            case rel => exact ⟨k + 1, by omega, by go_num, ⟨RT, (setI f n (f n + 1)), (setI g n (os k).wk), unhide I4, unhide hT4, hTr, fR, ggR⟩, GR⟩
            case measure => go_light; simp [intOf]; omega
      · have hT4 := hide (unhide R2 hz)
        by_cases hk2 : (os k).k = 2
        · have b0 : ((os k).k == 2) = true := by simpa using hk2
          have b1 : (R.2.code == 0) = false := by rw [beq_eq_false_iff_ne]; exact fun h => hz ⟨hk2, h⟩
          clear hz hk2 R1 R2
          go_wp2_with fail
          have h5 := h4.alloc (.cells #[.int .i64 R.2.code, .int .i64 R.2.jb, .int .i64 R.2.tr] 33)
          have f5 := Blk.alloc f4 (.cells #[.int .i64 R.2.code, .int .i64 R.2.jb, .int .i64 R.2.tr] 33)
          have gg5 := Blk.alloc gg4 (.cells #[.int .i64 R.2.code, .int .i64 R.2.jb, .int .i64 R.2.tr] 33)
          have G5 := G4.alloc (.cells #[.int .i64 R.2.code, .int .i64 R.2.jb, .int .i64 R.2.tr] 33)
          obtain ⟨W5, hW5⟩ : ∃ W5, W5 = w4.alloc (.cells #[.int .i64 R.2.code, .int .i64 R.2.jb, .int .i64 R.2.tr] 33) := ⟨_, rfl⟩
          rw [← hW5] at h5 f5 gg5 G5
          rw [← hW5]
          clear hW5
          clear g1 g2 h2
          go_loopw [8] (fun i wr => ∃ m : Nat, m ≤ 6 ∧ i = .int .i64 m ∧ Chg [] W5 wr) (fun i _ => 6 - (intOf i).toNat)
          case atStart => exact ⟨0, by omega, rfl, Chg.refl _ _⟩
          case round =>
            obtain ⟨m, hm, rfl, hg⟩ := hrel
            have hTr := h5.chg hg (by simp)
            by_cases hm6 : m < 6
            · have hm' : (m : Int) < 6 := by omega
              go_wp2_with fail
              refine (job_in _ m hm6 R.1 _ hTr).mono ?_
              rintro e w7 ⟨rfl, g7⟩
              have g8 := hg.trans g7 (by simp)
              have hT7 := h5.chg g8 (by simp)
              have f7 := Blk.chg f5 g8 (by simp)
              have gg7 := Blk.chg gg5 g8 (by simp)
              have zf7 := Blk.lt f7
              have zg7 := Blk.lt gg7
              have c1 := Ints6.c f7 hm6
              have c2 := Ints6.c gg7 hm6
              obtain ⟨e1, e2⟩ := unhide hT4 m hm6
              have b3 : ((R.1.js m).tr != f m) = false := by rw [e1]; simp
              by_cases hs : (R.1.js m).st = 2
              · have b4 : ((R.1.js m).st == 2) = true := by simpa using hs
                have b5 : ((R.1.js m).wk != g m) = false := by rw [e2 hs]; simp
                have b6 : decide ((R.1.js m).un ≤ R.1.now) = false := by simp; exact (unhide I4).held hm6 hs
                clear e1 e2 hs
                go_wp2_with fail
                go_quiet ((go_at_call 19; exact Calls.quiet_of_same (now_any _ R.1 _ ((hT7.alloc _).drewN _))))
                go_wp2
                go_roundw
                case rel => exact ⟨m + 1, by omega, by go_num, (g8.alloc _).drewN _⟩
                case measure => go_light; simp [intOf]; omega
              · have b4 : ((R.1.js m).st == 2) = false := by rw [beq_eq_false_iff_ne]; exact hs
                clear e1 e2 hs
                go_wp2_with fail
                go_quiet (fail)
                go_wp2
                go_roundw
                case rel => exact ⟨m + 1, by omega, by go_num, (g8.alloc _).drewN _⟩
                case measure => go_light; simp [intOf]; omega
            · obtain rfl : m = 6 := by omega
              have GR := G5.trans hg (by simp)
              have fR := Blk.chg f5 hg (by simp)
              have ggR := Blk.chg gg5 hg (by simp)
              go_wp2
              go_roundw
              case rel => exact ⟨k + 1, by omega, by go_num, ⟨R.1, f, g, unhide I4, unhide hT4, hTr, fR, ggR⟩, GR⟩
              case measure => go_light; simp [intOf]; omega
        · have b0 : ((os k).k == 2) = false := by rw [beq_eq_false_iff_ne]; exact hk2
          clear hz hk2 R1 R2
          go_wp2_with fail
          have h5 := h4.alloc (.cells #[.int .i64 R.2.code, .int .i64 R.2.jb, .int .i64 R.2.tr] 33)
          have f5 := Blk.alloc f4 (.cells #[.int .i64 R.2.code, .int .i64 R.2.jb, .int .i64 R.2.tr] 33)
          have gg5 := Blk.alloc gg4 (.cells #[.int .i64 R.2.code, .int .i64 R.2.jb, .int .i64 R.2.tr] 33)
          have G5 := G4.alloc (.cells #[.int .i64 R.2.code, .int .i64 R.2.jb, .int .i64 R.2.tr] 33)
          obtain ⟨W5, hW5⟩ : ∃ W5, W5 = w4.alloc (.cells #[.int .i64 R.2.code, .int .i64 R.2.jb, .int .i64 R.2.tr] 33) := ⟨_, rfl⟩
          rw [← hW5] at h5 f5 gg5 G5
          rw [← hW5]
          clear hW5
          clear g1 g2 h2
          go_loopw [8] (fun i wr => ∃ m : Nat, m ≤ 6 ∧ i = .int .i64 m ∧ Chg [] W5 wr) (fun i _ => 6 - (intOf i).toNat)
          case atStart => exact ⟨0, by omega, rfl, Chg.refl _ _⟩
          case round =>
            obtain ⟨m, hm, rfl, hg⟩ := hrel
            have hTr := h5.chg hg (by simp)
            by_cases hm6 : m < 6
            · have hm' : (m : Int) < 6 := by omega
              go_wp2_with fail
              refine (job_in _ m hm6 R.1 _ hTr).mono ?_
              rintro e w7 ⟨rfl, g7⟩
              have g8 := hg.trans g7 (by simp)
              have hT7 := h5.chg g8 (by simp)
              have f7 := Blk.chg f5 g8 (by simp)
              have gg7 := Blk.chg gg5 g8 (by simp)
              have zf7 := Blk.lt f7
              have zg7 := Blk.lt gg7
              have c1 := Ints6.c f7 hm6
              have c2 := Ints6.c gg7 hm6
              obtain ⟨e1, e2⟩ := unhide hT4 m hm6
              have b3 : ((R.1.js m).tr != f m) = false := by rw [e1]; simp
              by_cases hs : (R.1.js m).st = 2
              · have b4 : ((R.1.js m).st == 2) = true := by simpa using hs
                have b5 : ((R.1.js m).wk != g m) = false := by rw [e2 hs]; simp
                have b6 : decide ((R.1.js m).un ≤ R.1.now) = false := by simp; exact (unhide I4).held hm6 hs
                clear e1 e2 hs
                go_wp2_with fail
                go_quiet ((go_at_call 19; exact Calls.quiet_of_same (now_any _ R.1 _ ((hT7.alloc _).drewN _))))
                go_wp2
                go_roundw
                case rel => exact ⟨m + 1, by omega, by go_num, (g8.alloc _).drewN _⟩
                case measure => go_light; simp [intOf]; omega
              · have b4 : ((R.1.js m).st == 2) = false := by rw [beq_eq_false_iff_ne]; exact hs
                clear e1 e2 hs
                go_wp2_with fail
                go_quiet (fail)
                go_wp2
                go_roundw
                case rel => exact ⟨m + 1, by omega, by go_num, (g8.alloc _).drewN _⟩
                case measure => go_light; simp [intOf]; omega
            · obtain rfl : m = 6 := by omega
              have GR := G5.trans hg (by simp)
              have fR := Blk.chg f5 hg (by simp)
              have ggR := Blk.chg gg5 hg (by simp)
              go_wp2
              go_roundw
              case rel => exact ⟨k + 1, by omega, by go_num, ⟨R.1, f, g, unhide I4, unhide hT4, hTr, fR, ggR⟩, GR⟩
              case measure => go_light; simp [intOf]; omega
    · go_wp2
      go_ret
      exact ⟨rfl, hG⟩

set_option maxRecDepth 100000 in
set_option maxHeartbeats 1000000 in
theorem tries_none (a : Option Addr) (cap : Nat) (w : World) :
    Calls Try.prog 4 #[.slice a 0 cap] w fun e w' => e = .returned (.bool true) ∧ Chg [] w w' := by
  go_enter Try.func4, Try.ntmps4
  go_wp2_with fail
  refine (begun_any _).mono ?_
  rintro e w1 ⟨rfl, g1⟩
  go_wp2_with fail
  refine (new_any _).mono ?_
  rintro e w2 ⟨rfl, h2, g2⟩
  have G2 := g1.trans g2 (by simp)
  go_wp2_with fail
  refine wp_loop_rounds 1 ?_
  rw [rounds_succ]
  go_wp2
  go_ret
  exact ⟨rfl, (G2.alloc _).alloc _⟩

set_option maxRecDepth 100000 in
set_option maxHeartbeats 1000000 in
theorem tries_many (a : Option Addr) (len cap : Nat) (w : World) (hlen : 300 < len) :
    Calls Try.prog 4 #[.slice a len cap] w fun e w' => e = .returned (.bool true) ∧ Chg [] w w' := by
  have hle : decide ((300 : Int) < (len : Int)) = true := by simp; omega
  go_enter Try.func4, Try.ntmps4
  go_wp2_with fail
  refine (begun_any _).mono ?_
  rintro e w1 ⟨rfl, g1⟩
  go_wp2
  go_ret
  exact ⟨rfl, g1⟩

theorem tries_any (a : Option Addr) (len cap : Nat) (os : Nat → Od) (w : World) (h : Ords w a len os) :
    Calls Try.prog 4 #[.slice a len cap] w fun e w' => e = .returned (.bool true) ∧ Chg [] w w' := by
  by_cases hlen : 300 < len
  · exact tries_many a len cap w hlen
  rcases h with rfl | ⟨bl, off, rfl, hbl, hO⟩
  · exact tries_none a cap w
  · exact tries_row bl off len cap os w (by omega) hbl hO

end Go.Proofs.Ytapjdnbionacmaa
