/-
  The walk of the law 'done is done'. Nothing here is claimed by itself.
-/
import Derived.Test.YtapjdnbionacmaaPDone0
namespace Go.Proofs.Ytapjdnbionacmaa
open Go.RowKit Go.Sort

set_option maxRecDepth 100000 in
set_option maxHeartbeats 8000000 in
theorem done_row (bl off len cap : Nat) (os : Nat → Od) (w : World) (hlen : len ≤ 300) (hbl : bl < w.heap.size) (hO : ∀ i, i < len → OrdAt w bl (off + i * 6) (os i)) :
    Calls Try.prog 5 #[.slice (some ⟨bl, off, none⟩) len cap] w fun e w' => e = .returned (.bool true) ∧ Chg [] w w' := by
  have hle : decide ((300 : Int) < (len : Int)) = false := by simp; omega
  have HO := hide hO
  clear hO
  go_enter Try.func5, Try.ntmps5
  go_wp2_with fail
  refine (begun_any _).mono ?_
  rintro e w1 ⟨rfl, g1⟩
  go_wp2_with fail
  refine (new_any _).mono ?_
  rintro e w2 ⟨rfl, h2, g2⟩
  have G2 := g1.trans g2 (by simp)
  have z1 := g1.size
  have z2 := h2.lt
  go_wp2_with fail
  go_loopw [5] (fun i wr => ∃ k : Nat, k ≤ len ∧ i = .int .i64 k ∧ (∃ T d, Inv T ∧ DN T d ∧ Has 48 wr w1.heap.size T ∧ Ints6 40 wr w2.heap.size d) ∧ Chg [] w wr) (fun i _ => len - (intOf i).toNat)
  case atStart => exact ⟨0, by omega, rfl, ⟨T0, fun _ => 0, inv_T0, fun _ _ => ⟨.inl rfl, by simp [T0]⟩, h2.alloc _, Blk.new w2 _ _⟩, G2.alloc _⟩
  case round =>
    obtain ⟨k, hk, rfl, ⟨T, d, hI, hD, hT, hd⟩, hG⟩ := hrel
    by_cases hlt : k < len
    · have hki : (k : Int) < (len : Int) := by omega
      obtain ⟨p0, p1, p2, p3, p4, p5⟩ := (unhide HO k hlt).chg hG hbl (by simp)
      have hlr := hT.lt
      have hld := Blk.lt hd
      clear g1 g2 h2 G2
      go_wp2_with fail
      obtain ⟨wo, rfl⟩ : ∃ wo : World, wo = wr := ⟨_, rfl⟩
      obtain ⟨Wx, hWx⟩ : ∃ Wx, Wx = wo.alloc (.cells #[.int .i64 (os k).k, .int .i64 (os k).now, .int .i64 (os k).jb, .int .i64 (os k).tr, .int .i64 (os k).wk, .int .i64 (os k).tm] 36) := ⟨_, rfl⟩
      have OX : Blk Wx wo.heap.size #[.int .i64 (os k).k, .int .i64 (os k).now, .int .i64 (os k).jb, .int .i64 (os k).tr, .int .i64 (os k).wk, .int .i64 (os k).tm] 36 := by rw [hWx]; exact Blk.new _ _ _
      have TX : Has 48 Wx w1.heap.size T := by rw [hWx]; exact hT.alloc _
      have DX : Ints6 40 Wx w2.heap.size d := by rw [hWx]; exact Blk.alloc hd _
      have GX : Chg [] w Wx := by rw [hWx]; exact hG.alloc _
      have zx : Wx.heap.size = wo.heap.size + 1 := by rw [hWx]; simp
      rw [← hWx, ← zx]
      have ZX := hide zx
      have z6 : wo.heap.size < Wx.heap.size := by omega
      clear hWx hT hd hG p0 p1 p2 p3 p4 p5 zx
      go_loopw [8] (fun i wr => ∃ m : Nat, m ≤ 6 ∧ i = .int .i64 m ∧ (∃ f, Jobs6 29 wr Wx.heap.size f ∧ Hid (∀ x, x < m → f x = T.js x)) ∧ Chg [] Wx wr) (fun i _ => 6 - (intOf i).toNat)
      case atStart => exact ⟨0, by omega, rfl, ⟨_, Jobs6.new _ _ (fun _ => ⟨0, 0, 0, 0⟩), fun x hx => absurd hx (by omega)⟩, (Chg.refl _ _).alloc _⟩
      case round =>
        obtain ⟨m, hm, rfl, ⟨f, hf, hfx⟩, hg⟩ := hrel
        have hTr := TX.chg hg (by simp)
        have zr := hg.size
        by_cases hm6 : m < 6
        · go_wp2_with fail
          refine (job_in _ m hm6 T _ hTr).mono ?_
          rintro e w3 ⟨rfl, g3⟩
          have hf3 := Blk.chg hf g3 (by simp)
          obtain ⟨c0, c1, c2, c3⟩ := Jobs6.c hf3 hm6
          have f0 := Blk.fz hf3 (m * 4)
          have f1 := Blk.fz hf3 (m * 4 + 1)
          have f2 := Blk.fz hf3 (m * 4 + 2)
          have f3 := Blk.fz hf3 (m * 4 + 3)
          go_wp2
          go_roundw
          case rel => exact ⟨m + 1, by omega, by go_num, ⟨_, Jobs6.set hf3 hm6 (T.js m), by
            intro x hx
            by_cases e : x = m
            · subst e; simp [setJ]
            · simp only [setJ, if_neg e]; exact hfx x (by omega)⟩, ((((hg.trans g3 (by simp)).setCell (by simp) _).setCell (by simp) _).setCell (by simp) _).setCell (by simp) _⟩
          case measure => go_light; simp [intOf]; omega
        · obtain rfl : m = 6 := by omega
          have hGr := GX.trans hg (by simp)
          have hOr := OX.chg hg (by simp)
          have hDr := Blk.chg DX hg (by simp)
          obtain ⟨p0, p1, p2, p3, p4, p5⟩ := hOr.six
          go_wp2_with fail
          refine (do_any _ (os k) T _ hTr hI.fit).mono ?_
          rintro e w4 ⟨rfl, h4, g4⟩
          have hf4 := Blk.chg hf g4 (by simp; omega)
          have d4 := Blk.chg hDr g4 (by simp; omega)
          have O4 := hOr.chg g4 (by simp; omega)
          have G4 := hGr.trans g4 (by simp; omega)
          have I4 := hide (hI.step (os k))
          have R1 := hide (done_done hD (os k))
          have R2 := hide (done_else hD (os k))
          have R3 := hide (do_final T (os k))
          have z4 := h4.lt
          have z7 := O4.lt
          have z8 := Blk.lt hf4
          have z9 := Blk.lt d4
          clear p0 p1 p2 p3 p4 p5 hTr hGr hg hf g4 hm hm6 zr hD hI hDr hOr TX DX OX GX
          obtain ⟨p0, p1, p2, p3, p4, p5⟩ := O4.six
          generalize doT T (os k) = R at *
          by_cases hz : (os k).k = 4 ∧ R.2.code = 0
          · obtain ⟨hk2, hz⟩ := hz
            obtain ⟨n, hn, e1, e2, e3, e4, e5, e6⟩ := unhide R1 hk2 hz
            have hD4 := hide e6
            clear e6 R1 R2
            have b0 : ((os k).k == 4) = true := by simpa using hk2
            have b1 : (R.2.code == 0) = true := by simpa using hz
            clear hk2 hz
            rw [e1] at p2
            have hn' : (n : Int) < 6 := by omega
            have d0 : decide ((n : Int) < 0) = false := by simp
            have d1 : decide ((6 : Int) ≤ (n : Int)) = false := by simp; omega
            have cf := Ints6.c d4 hn
            rw [e2] at cf
            have ff := Blk.fz d4 n
            have E1 := hide e1
            have E3 := hide e3
            have E4 := hide e4
            have E5 := hide e5
            clear e1 e2 e3 e4 e5
            go_wp2_with fail
            obtain ⟨W5, hW5⟩ : ∃ W5, W5 = (w4.setCell ⟨w2.heap.size, n, none⟩ (.int .i64 1)).alloc (.cells #[.int .i64 R.2.code, .int .i64 R.2.jb, .int .i64 R.2.tr] 33) := ⟨_, rfl⟩
            rw [← hW5]
            have h5 : Has 48 W5 w1.heap.size R.1 := by rw [hW5]; exact (h4.setOther (by simp; omega) _).alloc _
            have d5 : Ints6 40 W5 w2.heap.size (setI d n 1) := by rw [hW5]; exact Blk.alloc (Ints6.set d4 hn _) _
            have f5 : Jobs6 29 W5 Wx.heap.size f := by rw [hW5]; exact Blk.alloc (Blk.other hf4 (by simp; omega) _) _
            have O5 : Blk W5 wo.heap.size #[.int .i64 (os k).k, .int .i64 (os k).now, .int .i64 (os k).jb, .int .i64 (os k).tr, .int .i64 (os k).wk, .int .i64 (os k).tm] 36 := by rw [hW5]; exact Blk.alloc (Blk.other O4 (by simp; omega) _) _
            have G5 : Chg [] w W5 := by rw [hW5]; exact (G4.setCell (by simp; omega) _).alloc _
            clear hW5 p0 p1 p2 p3 p4 p5 cf ff d0 d1
            obtain ⟨p0, p1, p2, p3, p4, p5⟩ := O5.six
            rw [unhide E1] at p2
            have cJ := job_quiet h5 hn
            rw [unhide E3] at cJ
            have cd := Ints6.c d5 hn
            have ed : setI d n 1 n = 1 := by simp [setI]
            rw [ed] at cd
            clear ed
            obtain ⟨c0, c1, c2, c3⟩ := Jobs6.c f5 hn
            have ef := unhide hfx n hn
            rw [ef, unhide E4] at c1
            rw [ef, unhide E5] at c2
            clear ef c0 c3
            have k0 := fun d os => cell_regrown cd d os
            have k1 := fun d os => cell_regrown c1 d os
            have k2 := fun d os => cell_regrown c2 d os
            have k3 := fun d os => cell_regrown p2 d os
            have k4 := fun d os => cell_regrown p3 d os
            have k5 := fun d os => cell_regrown p4 d os
            refine wp_region_quiet_below (by kernel_rfl) (by kernel_rfl) ?_
            repeat (first | go_big_quiet_step (exact cJ _ _) | quiet_step (exact cJ _ _))
            refine wpQuiet_nil ?_
            intro w9 hw9
            obtain ⟨⟨dq, oq⟩, rfl⟩ := hw9
            have g9 := Chg.regrown W5 dq oq
            generalize grow (redrawn W5 dq) oq = w9 at *
            replace h5 := h5.chg g9 (by simp)
            replace d5 := Blk.chg d5 g9 (by simp)
            replace f5 := Blk.chg f5 g9 (by simp)
            replace G5 := G5.trans g9 (by simp)
            clear cJ k0 k1 k2 k3 k4 k5 p0 p1 p2 p3 p4 p5 O5 cd c1 c2 g9 E1 E3 E4 E5
            go_wp2_with fail
            go_loopw [10] (fun i wr => ∃ m : Nat, m ≤ 6 ∧ i = .int .i64 m ∧ Chg [] w9 wr) (fun i _ => 6 - (intOf i).toNat)
            case atStart => exact ⟨0, by omega, rfl, Chg.refl _ _⟩
            case round =>
              obtain ⟨m, hm, rfl, hg⟩ := hrel
              have hTr := h5.chg hg (by simp)
              have hdr := Blk.chg d5 hg (by simp)
              have hfr := Blk.chg f5 hg (by simp)
              by_cases hm6 : m < 6
              · have hm' : (m : Int) < 6 := by omega
                obtain ⟨c0, c1, c2, c3⟩ := Jobs6.c hfr hm6
                have ef := unhide hfx m hm6
                rw [ef] at c0 c1 c2 c3
                clear ef
                have cd := Ints6.c hdr hm6
                have cJ := job_quiet hTr hm6
                have k0 := fun d os => cell_regrown cd d os
                have k1 := fun d os => cell_regrown c0 d os
                have k2 := fun d os => cell_regrown c1 d os
                have k3 := fun d os => cell_regrown c2 d os
                have k4 := fun d os => cell_regrown c3 d os
                have hfl := field_job
                obtain ⟨e1, e2⟩ := unhide hD4 m hm6
                obtain ⟨x, hx⟩ : ∃ x : Bool, x = ((R.1.js m).st == 3) := ⟨_, rfl⟩
                have b8 : ((R.1.js m).st == 3) = x := hx.symm
                have b9 : ((setI d n 1) m == 1) = x := by
                  rw [hx, Bool.eq_iff_iff, beq_iff_eq, beq_iff_eq]; exact e2.symm
                clear hx e1 e2
                by_cases hs : (T.js m).st = 3 ∨ (T.js m).st = 4
                · have eR := unhide R3 m hm6 hs
                  rw [eR] at cJ b8
                  have ER := hide eR
                  clear eR
                  rcases hs with hs | hs
                  · rw [hs] at cJ b8 k1
                    have HS := hide hs
                    clear hs
                    obtain rfl : x = true := by rw [← b8]; rfl
                    clear b8
                    go_wp2_with fail
                    refine wp_region_quiet_below (by kernel_rfl) (by kernel_rfl) ?_
                    repeat (first | go_big_quiet_step (exact cJ _ _) | quiet_step (exact cJ _ _))
                    refine wpQuiet_nil ?_
                    intro x9 hx9
                    obtain ⟨⟨dq, oq⟩, rfl⟩ := hx9
                    have g9 := hg.trans (Chg.regrown wr dq oq) (by simp)
                    have h9 := hTr.chg (Chg.regrown wr dq oq) (by simp)
                    have d9 := Ints6.c (Blk.chg hdr (Chg.regrown wr dq oq) (by simp)) hm6
                    generalize grow (redrawn wr dq) oq = x9 at *
                    have cJ9 := job_quiet h9 hm6
                    rw [unhide ER, unhide HS] at cJ9
                    have k9 := fun d os => cell_regrown d9 d os
                    clear cJ k0 k1 k2 k3 k4
                    go_wp2_with fail
                    refine wp_region_quiet_below (by kernel_rfl) (by kernel_rfl) ?_
                    repeat (first | go_big_quiet_step (exact cJ9 _ _) | quiet_step (exact cJ9 _ _))
                    refine wpQuiet_nil ?_
                    intro w10 hw10
                    obtain ⟨⟨dr, or⟩, rfl⟩ := hw10
                    have g10 := g9.trans (Chg.regrown x9 dr or) (by simp)
                    generalize grow (redrawn x9 dr) or = w10 at *
                    clear cJ9 k9 hfl
                    go_wp2
                    go_roundw
                    case rel => exact ⟨m + 1, by omega, by go_num, g10⟩
                    case measure => go_light; simp [intOf]; omega
                  · rw [hs] at cJ b8 k1
                    have HS := hide hs
                    clear hs
                    obtain rfl : x = false := by rw [← b8]; rfl
                    clear b8
                    go_wp2_with fail
                    refine wp_region_quiet_below (by kernel_rfl) (by kernel_rfl) ?_
                    repeat (first | go_big_quiet_step (exact cJ _ _) | quiet_step (exact cJ _ _))
                    refine wpQuiet_nil ?_
                    intro x9 hx9
                    obtain ⟨⟨dq, oq⟩, rfl⟩ := hx9
                    have g9 := hg.trans (Chg.regrown wr dq oq) (by simp)
                    have h9 := hTr.chg (Chg.regrown wr dq oq) (by simp)
                    have d9 := Ints6.c (Blk.chg hdr (Chg.regrown wr dq oq) (by simp)) hm6
                    generalize grow (redrawn wr dq) oq = x9 at *
                    have cJ9 := job_quiet h9 hm6
                    rw [unhide ER, unhide HS] at cJ9
                    have k9 := fun d os => cell_regrown d9 d os
                    clear cJ k0 k1 k2 k3 k4
                    go_wp2_with fail
                    refine wp_region_quiet_below (by kernel_rfl) (by kernel_rfl) ?_
                    repeat (first | go_big_quiet_step (exact cJ9 _ _) | quiet_step (exact cJ9 _ _))
                    refine wpQuiet_nil ?_
                    intro w10 hw10
                    obtain ⟨⟨dr, or⟩, rfl⟩ := hw10
                    have g10 := g9.trans (Chg.regrown x9 dr or) (by simp)
                    generalize grow (redrawn x9 dr) or = w10 at *
                    clear cJ9 k9 hfl
                    go_wp2
                    go_roundw
                    case rel => exact ⟨m + 1, by omega, by go_num, g10⟩
                    case measure => go_light; simp [intOf]; omega
                · have b6 : ((T.js m).st == 3) = false := by rw [beq_eq_false_iff_ne]; exact fun h => hs (.inl h)
                  have b7 : ((T.js m).st == 4) = false := by rw [beq_eq_false_iff_ne]; exact fun h => hs (.inr h)
                  clear hs
                  go_wp2_with fail
                  refine wp_region_quiet_below (by kernel_rfl) (by kernel_rfl) ?_
                  repeat (first | go_big_quiet_step (exact cJ _ _) | quiet_step (exact cJ _ _))
                  refine wpQuiet_nil ?_
                  intro x9 hx9
                  obtain ⟨⟨dq, oq⟩, rfl⟩ := hx9
                  have g9 := hg.trans (Chg.regrown wr dq oq) (by simp)
                  have h9 := hTr.chg (Chg.regrown wr dq oq) (by simp)
                  have d9 := Ints6.c (Blk.chg hdr (Chg.regrown wr dq oq) (by simp)) hm6
                  generalize grow (redrawn wr dq) oq = x9 at *
                  have cJ9 := job_quiet h9 hm6
                  have k9 := fun d os => cell_regrown d9 d os
                  clear cJ k0 k1 k2 k3 k4
                  go_wp2_with fail
                  refine wp_region_quiet_below (by kernel_rfl) (by kernel_rfl) ?_
                  repeat (first | go_big_quiet_step (exact cJ9 _ _) | quiet_step (exact cJ9 _ _))
                  refine wpQuiet_nil ?_
                  intro w10 hw10
                  obtain ⟨⟨dr, or⟩, rfl⟩ := hw10
                  have g10 := g9.trans (Chg.regrown x9 dr or) (by simp)
                  generalize grow (redrawn x9 dr) or = w10 at *
                  clear cJ9 k9 hfl
                  go_wp2
                  go_roundw
                  case rel => exact ⟨m + 1, by omega, by go_num, g10⟩
                  case measure => go_light; simp [intOf]; omega
              · obtain rfl : m = 6 := by omega
                have GR := G5.trans hg (by simp)
                go_wp2
                go_roundw
                case rel => exact ⟨k + 1, by omega, by go_num, ⟨R.1, (setI d n 1), unhide I4, unhide hD4, hTr, hdr⟩, GR⟩
                case measure => go_light; simp [intOf]; omega
          · have hD4 := hide (unhide R2 hz)
            by_cases hk2 : (os k).k = 4
            · have b0 : ((os k).k == 4) = true := by simpa using hk2
              have b1 : (R.2.code == 0) = false := by rw [beq_eq_false_iff_ne]; exact fun h => hz ⟨hk2, h⟩
              clear hz hk2 R1 R2
              go_wp2_with fail
              have h5 := h4.alloc (.cells #[.int .i64 R.2.code, .int .i64 R.2.jb, .int .i64 R.2.tr] 33)
              have f5 := Blk.alloc hf4 (.cells #[.int .i64 R.2.code, .int .i64 R.2.jb, .int .i64 R.2.tr] 33)
              have d5 := Blk.alloc d4 (.cells #[.int .i64 R.2.code, .int .i64 R.2.jb, .int .i64 R.2.tr] 33)
              have G5 := G4.alloc (.cells #[.int .i64 R.2.code, .int .i64 R.2.jb, .int .i64 R.2.tr] 33)
              obtain ⟨W5, hW5⟩ : ∃ W5, W5 = w4.alloc (.cells #[.int .i64 R.2.code, .int .i64 R.2.jb, .int .i64 R.2.tr] 33) := ⟨_, rfl⟩
              rw [← hW5] at h5 f5 d5 G5
              rw [← hW5]
              clear hW5
              go_loopw [10] (fun i wr => ∃ m : Nat, m ≤ 6 ∧ i = .int .i64 m ∧ Chg [] W5 wr) (fun i _ => 6 - (intOf i).toNat)
              case atStart => exact ⟨0, by omega, rfl, Chg.refl _ _⟩
              case round =>
                obtain ⟨m, hm, rfl, hg⟩ := hrel
                have hTr := h5.chg hg (by simp)
                have hdr := Blk.chg d5 hg (by simp)
                have hfr := Blk.chg f5 hg (by simp)
                by_cases hm6 : m < 6
                · have hm' : (m : Int) < 6 := by omega
                  obtain ⟨c0, c1, c2, c3⟩ := Jobs6.c hfr hm6
                  have ef := unhide hfx m hm6
                  rw [ef] at c0 c1 c2 c3
                  clear ef
                  have cd := Ints6.c hdr hm6
                  have cJ := job_quiet hTr hm6
                  have k0 := fun d os => cell_regrown cd d os
                  have k1 := fun d os => cell_regrown c0 d os
                  have k2 := fun d os => cell_regrown c1 d os
                  have k3 := fun d os => cell_regrown c2 d os
                  have k4 := fun d os => cell_regrown c3 d os
                  have hfl := field_job
                  obtain ⟨e1, e2⟩ := unhide hD4 m hm6
                  obtain ⟨x, hx⟩ : ∃ x : Bool, x = ((R.1.js m).st == 3) := ⟨_, rfl⟩
                  have b8 : ((R.1.js m).st == 3) = x := hx.symm
                  have b9 : (d m == 1) = x := by
                    rw [hx, Bool.eq_iff_iff, beq_iff_eq, beq_iff_eq]; exact e2.symm
                  clear hx e1 e2
                  by_cases hs : (T.js m).st = 3 ∨ (T.js m).st = 4
                  · have eR := unhide R3 m hm6 hs
                    rw [eR] at cJ b8
                    have ER := hide eR
                    clear eR
                    rcases hs with hs | hs
                    · rw [hs] at cJ b8 k1
                      have HS := hide hs
                      clear hs
                      obtain rfl : x = true := by rw [← b8]; rfl
                      clear b8
                      go_wp2_with fail
                      refine wp_region_quiet_below (by kernel_rfl) (by kernel_rfl) ?_
                      repeat (first | go_big_quiet_step (exact cJ _ _) | quiet_step (exact cJ _ _))
                      refine wpQuiet_nil ?_
                      intro w9 hw9
                      obtain ⟨⟨dq, oq⟩, rfl⟩ := hw9
                      have g9 := hg.trans (Chg.regrown wr dq oq) (by simp)
                      have h9 := hTr.chg (Chg.regrown wr dq oq) (by simp)
                      have d9 := Ints6.c (Blk.chg hdr (Chg.regrown wr dq oq) (by simp)) hm6
                      generalize grow (redrawn wr dq) oq = w9 at *
                      have cJ9 := job_quiet h9 hm6
                      rw [unhide ER, unhide HS] at cJ9
                      have k9 := fun d os => cell_regrown d9 d os
                      clear cJ k0 k1 k2 k3 k4
                      go_wp2_with fail
                      refine wp_region_quiet_below (by kernel_rfl) (by kernel_rfl) ?_
                      repeat (first | go_big_quiet_step (exact cJ9 _ _) | quiet_step (exact cJ9 _ _))
                      refine wpQuiet_nil ?_
                      intro w10 hw10
                      obtain ⟨⟨dr, or⟩, rfl⟩ := hw10
                      have g10 := g9.trans (Chg.regrown w9 dr or) (by simp)
                      generalize grow (redrawn w9 dr) or = w10 at *
                      clear cJ9 k9 hfl
                      go_wp2
                      go_roundw
                      case rel => exact ⟨m + 1, by omega, by go_num, g10⟩
                      case measure => go_light; simp [intOf]; omega
                    · rw [hs] at cJ b8 k1
                      have HS := hide hs
                      clear hs
                      obtain rfl : x = false := by rw [← b8]; rfl
                      clear b8
                      go_wp2_with fail
                      refine wp_region_quiet_below (by kernel_rfl) (by kernel_rfl) ?_
                      repeat (first | go_big_quiet_step (exact cJ _ _) | quiet_step (exact cJ _ _))
                      refine wpQuiet_nil ?_
                      intro w9 hw9
                      obtain ⟨⟨dq, oq⟩, rfl⟩ := hw9
                      have g9 := hg.trans (Chg.regrown wr dq oq) (by simp)
                      have h9 := hTr.chg (Chg.regrown wr dq oq) (by simp)
                      have d9 := Ints6.c (Blk.chg hdr (Chg.regrown wr dq oq) (by simp)) hm6
                      generalize grow (redrawn wr dq) oq = w9 at *
                      have cJ9 := job_quiet h9 hm6
                      rw [unhide ER, unhide HS] at cJ9
                      have k9 := fun d os => cell_regrown d9 d os
                      clear cJ k0 k1 k2 k3 k4
                      go_wp2_with fail
                      refine wp_region_quiet_below (by kernel_rfl) (by kernel_rfl) ?_
                      repeat (first | go_big_quiet_step (exact cJ9 _ _) | quiet_step (exact cJ9 _ _))
                      refine wpQuiet_nil ?_
                      intro w10 hw10
                      obtain ⟨⟨dr, or⟩, rfl⟩ := hw10
                      have g10 := g9.trans (Chg.regrown w9 dr or) (by simp)
                      generalize grow (redrawn w9 dr) or = w10 at *
                      clear cJ9 k9 hfl
                      go_wp2
                      go_roundw
                      case rel => exact ⟨m + 1, by omega, by go_num, g10⟩
                      case measure => go_light; simp [intOf]; omega
                  · have b6 : ((T.js m).st == 3) = false := by rw [beq_eq_false_iff_ne]; exact fun h => hs (.inl h)
                    have b7 : ((T.js m).st == 4) = false := by rw [beq_eq_false_iff_ne]; exact fun h => hs (.inr h)
                    clear hs
                    go_wp2_with fail
                    refine wp_region_quiet_below (by kernel_rfl) (by kernel_rfl) ?_
                    repeat (first | go_big_quiet_step (exact cJ _ _) | quiet_step (exact cJ _ _))
                    refine wpQuiet_nil ?_
                    intro w9 hw9
                    obtain ⟨⟨dq, oq⟩, rfl⟩ := hw9
                    have g9 := hg.trans (Chg.regrown wr dq oq) (by simp)
                    have h9 := hTr.chg (Chg.regrown wr dq oq) (by simp)
                    have d9 := Ints6.c (Blk.chg hdr (Chg.regrown wr dq oq) (by simp)) hm6
                    generalize grow (redrawn wr dq) oq = w9 at *
                    have cJ9 := job_quiet h9 hm6
                    have k9 := fun d os => cell_regrown d9 d os
                    clear cJ k0 k1 k2 k3 k4
                    go_wp2_with fail
                    refine wp_region_quiet_below (by kernel_rfl) (by kernel_rfl) ?_
                    repeat (first | go_big_quiet_step (exact cJ9 _ _) | quiet_step (exact cJ9 _ _))
                    refine wpQuiet_nil ?_
                    intro w10 hw10
                    obtain ⟨⟨dr, or⟩, rfl⟩ := hw10
                    have g10 := g9.trans (Chg.regrown w9 dr or) (by simp)
                    generalize grow (redrawn w9 dr) or = w10 at *
                    clear cJ9 k9 hfl
                    go_wp2
                    go_roundw
                    case rel => exact ⟨m + 1, by omega, by go_num, g10⟩
                    case measure => go_light; simp [intOf]; omega
                · obtain rfl : m = 6 := by omega
                  have GR := G5.trans hg (by simp)
                  go_wp2
                  go_roundw
                  case rel => exact ⟨k + 1, by omega, by go_num, ⟨R.1, d, unhide I4, unhide hD4, hTr, hdr⟩, GR⟩
                  case measure => go_light; simp [intOf]; omega
            · have b0 : ((os k).k == 4) = false := by rw [beq_eq_false_iff_ne]; exact hk2
              clear hz hk2 R1 R2
              go_wp2_with fail
              have h5 := h4.alloc (.cells #[.int .i64 R.2.code, .int .i64 R.2.jb, .int .i64 R.2.tr] 33)
              have f5 := Blk.alloc hf4 (.cells #[.int .i64 R.2.code, .int .i64 R.2.jb, .int .i64 R.2.tr] 33)
              have d5 := Blk.alloc d4 (.cells #[.int .i64 R.2.code, .int .i64 R.2.jb, .int .i64 R.2.tr] 33)
              have G5 := G4.alloc (.cells #[.int .i64 R.2.code, .int .i64 R.2.jb, .int .i64 R.2.tr] 33)
              obtain ⟨W5, hW5⟩ : ∃ W5, W5 = w4.alloc (.cells #[.int .i64 R.2.code, .int .i64 R.2.jb, .int .i64 R.2.tr] 33) := ⟨_, rfl⟩
              rw [← hW5] at h5 f5 d5 G5
              rw [← hW5]
              clear hW5
              go_loopw [10] (fun i wr => ∃ m : Nat, m ≤ 6 ∧ i = .int .i64 m ∧ Chg [] W5 wr) (fun i _ => 6 - (intOf i).toNat)
              case atStart => exact ⟨0, by omega, rfl, Chg.refl _ _⟩
              case round =>
                obtain ⟨m, hm, rfl, hg⟩ := hrel
                have hTr := h5.chg hg (by simp)
                have hdr := Blk.chg d5 hg (by simp)
                have hfr := Blk.chg f5 hg (by simp)
                by_cases hm6 : m < 6
                · have hm' : (m : Int) < 6 := by omega
                  obtain ⟨c0, c1, c2, c3⟩ := Jobs6.c hfr hm6
                  have ef := unhide hfx m hm6
                  rw [ef] at c0 c1 c2 c3
                  clear ef
                  have cd := Ints6.c hdr hm6
                  have cJ := job_quiet hTr hm6
                  have k0 := fun d os => cell_regrown cd d os
                  have k1 := fun d os => cell_regrown c0 d os
                  have k2 := fun d os => cell_regrown c1 d os
                  have k3 := fun d os => cell_regrown c2 d os
                  have k4 := fun d os => cell_regrown c3 d os
                  have hfl := field_job
                  obtain ⟨e1, e2⟩ := unhide hD4 m hm6
                  obtain ⟨x, hx⟩ : ∃ x : Bool, x = ((R.1.js m).st == 3) := ⟨_, rfl⟩
                  have b8 : ((R.1.js m).st == 3) = x := hx.symm
                  have b9 : (d m == 1) = x := by
                    rw [hx, Bool.eq_iff_iff, beq_iff_eq, beq_iff_eq]; exact e2.symm
                  clear hx e1 e2
                  by_cases hs : (T.js m).st = 3 ∨ (T.js m).st = 4
                  · have eR := unhide R3 m hm6 hs
                    rw [eR] at cJ b8
                    have ER := hide eR
                    clear eR
                    rcases hs with hs | hs
                    · rw [hs] at cJ b8 k1
                      have HS := hide hs
                      clear hs
                      obtain rfl : x = true := by rw [← b8]; rfl
                      clear b8
                      go_wp2_with fail
                      refine wp_region_quiet_below (by kernel_rfl) (by kernel_rfl) ?_
                      repeat (first | go_big_quiet_step (exact cJ _ _) | quiet_step (exact cJ _ _))
                      refine wpQuiet_nil ?_
                      intro w9 hw9
                      obtain ⟨⟨dq, oq⟩, rfl⟩ := hw9
                      have g9 := hg.trans (Chg.regrown wr dq oq) (by simp)
                      have h9 := hTr.chg (Chg.regrown wr dq oq) (by simp)
                      have d9 := Ints6.c (Blk.chg hdr (Chg.regrown wr dq oq) (by simp)) hm6
                      generalize grow (redrawn wr dq) oq = w9 at *
                      have cJ9 := job_quiet h9 hm6
                      rw [unhide ER, unhide HS] at cJ9
                      have k9 := fun d os => cell_regrown d9 d os
                      clear cJ k0 k1 k2 k3 k4
                      go_wp2_with fail
                      refine wp_region_quiet_below (by kernel_rfl) (by kernel_rfl) ?_
                      repeat (first | go_big_quiet_step (exact cJ9 _ _) | quiet_step (exact cJ9 _ _))
                      refine wpQuiet_nil ?_
                      intro w10 hw10
                      obtain ⟨⟨dr, or⟩, rfl⟩ := hw10
                      have g10 := g9.trans (Chg.regrown w9 dr or) (by simp)
                      generalize grow (redrawn w9 dr) or = w10 at *
                      clear cJ9 k9 hfl
                      go_wp2
                      go_roundw
                      case rel => exact ⟨m + 1, by omega, by go_num, g10⟩
                      case measure => go_light; simp [intOf]; omega
                    · rw [hs] at cJ b8 k1
                      have HS := hide hs
                      clear hs
                      obtain rfl : x = false := by rw [← b8]; rfl
                      clear b8
                      go_wp2_with fail
                      refine wp_region_quiet_below (by kernel_rfl) (by kernel_rfl) ?_
                      repeat (first | go_big_quiet_step (exact cJ _ _) | quiet_step (exact cJ _ _))
                      refine wpQuiet_nil ?_
                      intro w9 hw9
                      obtain ⟨⟨dq, oq⟩, rfl⟩ := hw9
                      have g9 := hg.trans (Chg.regrown wr dq oq) (by simp)
                      have h9 := hTr.chg (Chg.regrown wr dq oq) (by simp)
                      have d9 := Ints6.c (Blk.chg hdr (Chg.regrown wr dq oq) (by simp)) hm6
                      generalize grow (redrawn wr dq) oq = w9 at *
                      have cJ9 := job_quiet h9 hm6
                      rw [unhide ER, unhide HS] at cJ9
                      have k9 := fun d os => cell_regrown d9 d os
                      clear cJ k0 k1 k2 k3 k4
                      go_wp2_with fail
                      refine wp_region_quiet_below (by kernel_rfl) (by kernel_rfl) ?_
                      repeat (first | go_big_quiet_step (exact cJ9 _ _) | quiet_step (exact cJ9 _ _))
                      refine wpQuiet_nil ?_
                      intro w10 hw10
                      obtain ⟨⟨dr, or⟩, rfl⟩ := hw10
                      have g10 := g9.trans (Chg.regrown w9 dr or) (by simp)
                      generalize grow (redrawn w9 dr) or = w10 at *
                      clear cJ9 k9 hfl
                      go_wp2
                      go_roundw
                      case rel => exact ⟨m + 1, by omega, by go_num, g10⟩
                      case measure => go_light; simp [intOf]; omega
                  · have b6 : ((T.js m).st == 3) = false := by rw [beq_eq_false_iff_ne]; exact fun h => hs (.inl h)
                    have b7 : ((T.js m).st == 4) = false := by rw [beq_eq_false_iff_ne]; exact fun h => hs (.inr h)
                    clear hs
                    go_wp2_with fail
                    refine wp_region_quiet_below (by kernel_rfl) (by kernel_rfl) ?_
                    repeat (first | go_big_quiet_step (exact cJ _ _) | quiet_step (exact cJ _ _))
                    refine wpQuiet_nil ?_
                    intro w9 hw9
                    obtain ⟨⟨dq, oq⟩, rfl⟩ := hw9
                    have g9 := hg.trans (Chg.regrown wr dq oq) (by simp)
                    have h9 := hTr.chg (Chg.regrown wr dq oq) (by simp)
                    have d9 := Ints6.c (Blk.chg hdr (Chg.regrown wr dq oq) (by simp)) hm6
                    generalize grow (redrawn wr dq) oq = w9 at *
                    have cJ9 := job_quiet h9 hm6
                    have k9 := fun d os => cell_regrown d9 d os
                    clear cJ k0 k1 k2 k3 k4
                    go_wp2_with fail
                    refine wp_region_quiet_below (by kernel_rfl) (by kernel_rfl) ?_
                    repeat (first | go_big_quiet_step (exact cJ9 _ _) | quiet_step (exact cJ9 _ _))
                    refine wpQuiet_nil ?_
                    intro w10 hw10
                    obtain ⟨⟨dr, or⟩, rfl⟩ := hw10
                    have g10 := g9.trans (Chg.regrown w9 dr or) (by simp)
                    generalize grow (redrawn w9 dr) or = w10 at *
                    clear cJ9 k9 hfl
                    go_wp2
                    go_roundw
                    case rel => exact ⟨m + 1, by omega, by go_num, g10⟩
                    case measure => go_light; simp [intOf]; omega
                · obtain rfl : m = 6 := by omega
                  have GR := G5.trans hg (by simp)
                  go_wp2
                  go_roundw
                  case rel => exact ⟨k + 1, by omega, by go_num, ⟨R.1, d, unhide I4, unhide hD4, hTr, hdr⟩, GR⟩
                  case measure => go_light; simp [intOf]; omega
    · go_wp2
      go_ret
      exact ⟨rfl, hG⟩

set_option maxRecDepth 100000 in
set_option maxHeartbeats 1000000 in
theorem done_none (a : Option Addr) (cap : Nat) (w : World) :
    Calls Try.prog 5 #[.slice a 0 cap] w fun e w' => e = .returned (.bool true) ∧ Chg [] w w' := by
  go_enter Try.func5, Try.ntmps5
  go_wp2_with fail
  refine (begun_any _).mono ?_
  rintro e w1 ⟨rfl, g1⟩
  go_wp2_with fail
  refine (new_any _).mono ?_
  rintro e w2 ⟨rfl, h2, g2⟩
  have G2 := g1.trans g2 (by simp)
  go_wp2_with fail
  refine wp_loop_rounds 1 ?_
  rw [rounds_succ]
  go_wp2
  go_ret
  exact ⟨rfl, G2.alloc _⟩

set_option maxRecDepth 100000 in
set_option maxHeartbeats 1000000 in
theorem done_many (a : Option Addr) (len cap : Nat) (w : World) (hlen : 300 < len) :
    Calls Try.prog 5 #[.slice a len cap] w fun e w' => e = .returned (.bool true) ∧ Chg [] w w' := by
  have hle : decide ((300 : Int) < (len : Int)) = true := by simp; omega
  go_enter Try.func5, Try.ntmps5
  go_wp2_with fail
  refine (begun_any _).mono ?_
  rintro e w1 ⟨rfl, g1⟩
  go_wp2
  go_ret
  exact ⟨rfl, g1⟩

theorem done_any (a : Option Addr) (len cap : Nat) (os : Nat → Od) (w : World) (h : Ords w a len os) :
    Calls Try.prog 5 #[.slice a len cap] w fun e w' => e = .returned (.bool true) ∧ Chg [] w w' := by
  by_cases hlen : 300 < len
  · exact done_many a len cap w hlen
  rcases h with rfl | ⟨bl, off, rfl, hbl, hO⟩
  · exact done_none a cap w
  · exact done_row bl off len cap os w (by omega) hbl hO

end Go.Proofs.Ytapjdnbionacmaa
