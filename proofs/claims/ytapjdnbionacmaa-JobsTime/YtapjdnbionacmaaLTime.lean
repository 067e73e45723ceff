/-
  The walk of the law 'in time or not at all'. Nothing here is claimed by itself.
-/
import Derived.Test.YtapjdnbionacmaaPTime0
namespace Go.Proofs.Ytapjdnbionacmaa
open Go.RowKit Go.Sort

set_option maxRecDepth 100000 in
set_option maxHeartbeats 4000000 in
theorem time_row (a : Option Addr) (len cap : Nat) (x y : Int) (os : Nat → Od) (w : World) (hlen : len ≤ 300) (hO : Ords w a len os) :
    Calls Try.prog 7 #[.slice a len cap, .int .i64 x, .int .i64 y] w fun e w' => e = .returned (.bool true) ∧ Chg [] w w' := by
  have hle : decide ((300 : Int) < (len : Int)) = false := by simp; omega
  have HO := hide hO
  clear hO
  go_enter Try.func7, Try.ntmps7
  go_wp2_with fail
  refine (begun_any _).mono ?_
  rintro e w1 ⟨rfl, g1⟩
  go_wp2_with fail
  refine (new_any _).mono ?_
  rintro e w2 ⟨rfl, h2, g2⟩
  have G2 := g1.trans g2 (by simp)
  have z1 := g1.size
  go_wp2_with fail
  go_loopw [8] (fun i wr => ∃ k : Nat, k ≤ len ∧ i = .int .i64 k ∧ (∃ T, Inv T ∧ Has 48 wr w1.heap.size T) ∧ Chg [] w wr) (fun i _ => len - (intOf i).toNat)
  case atStart => exact ⟨0, by omega, rfl, ⟨T0, inv_T0, h2⟩, G2⟩
  case round =>
    obtain ⟨k, hk, rfl, ⟨T, hI, hT⟩, hG⟩ := hrel
    by_cases hlt : k < len
    · have hki : (k : Int) < (len : Int) := by omega
      rcases unhide HO with hz0 | ⟨bl, off, rfl, hbl, hO⟩
      · omega
      obtain ⟨p0, p1, p2, p3, p4, p5⟩ := (hO k hlt).chg hG hbl (by simp)
      clear hO
      go_wp2_with fail
      refine (do_any _ (os k) T _ hT hI.fit).mono ?_
      rintro e w4 ⟨rfl, h4, g4⟩
      have G4 := hG.trans g4 (by simp; omega)
      have I4 := hide (hI.step (os k))
      clear p0 p1 p2 p3 p4 p5
      generalize doT T (os k) = R at *
      go_wp2
      go_roundw
      case rel => exact ⟨k + 1, by omega, by go_num, ⟨R.1, unhide I4, h4⟩, G4⟩
      case measure => go_light; simp [intOf]; omega
    · go_wp2_with fail
      clear h2 g1 g2 G2 hlt hk
      have hnb := pick_bd x 6 (by omega) (by omega)
      generalize wrap64 ((IntKind.u64.wrap x).tmod 6) = nn at *
      obtain ⟨n, rfl⟩ : ∃ n : Nat, nn = n := ⟨nn.toNat, by omega⟩
      have hn : n < 6 := by omega
      clear hnb
      refine (job_in _ n hn T _ hT).mono ?_
      rintro e w5 ⟨rfl, g5⟩
      have h5 := hT.chg g5 (by simp)
      have G5 := hG.trans g5 (by simp)
      have z5 := h5.lt
      clear hT hG g5
      by_cases hs : (T.js n).st = 2
      · obtain ⟨jw, jt, ju, hj⟩ : ∃ jw jt ju, T.js n = ⟨2, jw, jt, ju⟩ := ⟨(T.js n).wk, (T.js n).tr, (T.js n).un, Jb.ext' hs rfl rfl rfl⟩
        have hv := hI.2.2 n hn
        rw [hj] at hv ⊢
        unfold JInv at hv
        simp only at hv
        have hjb : 0 ≤ jw ∧ jw ≤ 3 ∧ 1 ≤ jt ∧ jt ≤ 3 ∧ T.now < ju ∧ ju ≤ T.now + 20 := by omega
        have HJ := hide hj
        clear hj hs hv
        obtain ⟨j1, j2, j3, j4, j5, j6⟩ := hjb
        have J5 := hide j5
        have J6 := hide j6
        clear j5 j6
        obtain ⟨n0, n1⟩ := hI.fit.1
        go_wp2_with fail
        have hlb := pick_bd y 30 (by omega) (by omega)
        generalize wrap64 ((IntKind.u64.wrap y).tmod 30) = lt at *
        obtain ⟨l0, l1⟩ := hlb
        have h6 := h5.alloc (.cells #[.int .i64 2, .int .i64 jw, .int .i64 jt, .int .i64 ju] 28)
        refine (now_any _ T _ h6).mono ?_
        rintro e w6 ⟨rfl, rfl⟩
        by_cases hmx : 60000 < T.now + lt
        · go_wp2
          go_ret
          exact ⟨rfl, G5.alloc _⟩
        · have hmx' : T.now + lt ≤ 60000 := by omega
          have hT0 : T.now ≤ T.now + lt := by omega
          go_wp2_with fail
          generalize T.now + lt = nw at *
          have nw0 : 0 ≤ nw := by omega
          clear hmx
          have J6' := Blk.new w5 #[.int .i64 2, .int .i64 jw, .int .i64 jt, .int .i64 ju] 28
          have G6 := G5.alloc (.cells #[.int .i64 2, .int .i64 jw, .int .i64 jt, .int .i64 ju] 28)
          refine (own_any _ T _ h6).mono ?_
          rintro e w7 ⟨rfl, u7, g7⟩
          simp only [World.size_alloc] at u7
          have h7 := h6.chg g7 (by simp)
          have J7 := J6'.chg g7 (by simp)
          have G7 := G6.trans g7 (by simp)
          obtain ⟨c0, c1, c2, c3⟩ := J7.four
          have z7 := u7.lt
          clear h6 J6' G6 g7 h5 G5
          go_wp2_with fail
          refine (do_any _ ⟨4, nw, n, jt, jw, 0⟩ T _ h7 hI.fit).mono ?_
          rintro e w8 ⟨rfl, h8, g8⟩
          have u8 := u7.chg g8 (by simp; omega)
          have J8 := J7.chg g8 (by simp; omega)
          have G8 := G7.trans g8 (by simp; omega)
          have z8 := J8.lt
          have zt8 := h8.lt
          have zu8 := u8.lt
          clear c0 c1 c2 c3 h7 u7 J7 G7 g8
          obtain ⟨c0, c1, c2, c3⟩ := J8.four
          by_cases hin : nw < ju
          · obtain ⟨e1, e2, e3, e4⟩ := time_in hI hn (unhide HJ) hT0 hmx' hin
            rw [e1]
            have E2 := hide e2
            clear e1 e2
            generalize doT T ⟨4, nw, n, jt, jw, 0⟩ = R at *
            go_wp2_with fail
            refine (do_any _ ⟨3, nw, n, jt, jw, 1⟩ T _ (u8.alloc _) hI.fit).mono ?_
            rintro e w9 ⟨rfl, u9, g9⟩
            have A9 := (Blk.new w8 _ _).chg g9 (by simp; omega)
            have h9 := (h8.alloc _).chg g9 (by simp; omega)
            have J9 := (J8.alloc _).chg g9 (by simp)
            have G9 := (G8.alloc _).trans g9 (by simp; omega)
            have z9 := J9.lt
            have zA := A9.lt
            rw [e3]
            have E4 := hide e4
            clear e3 e4 c0 c1 c2 c3 u8 h8 J8 G8 g9
            generalize doT T ⟨3, nw, n, jt, jw, 1⟩ = R2 at *
            obtain ⟨c0, c1, c2, c3⟩ := J9.four
            obtain ⟨W, hW⟩ : ∃ W, W = w9.alloc (.cells #[.int .i64 0, .int .i64 R2.2.jb, .int .i64 R2.2.tr] 33) := ⟨_, rfl⟩
            have hA : Blk W w8.heap.size #[.int .i64 0, .int .i64 R.2.jb, .int .i64 R.2.tr] 33 := by rw [hW]; exact A9.alloc _
            have hB : Blk W w9.heap.size #[.int .i64 0, .int .i64 R2.2.jb, .int .i64 R2.2.tr] 33 := by rw [hW]; exact Blk.new _ _ _
            have hJ : Blk W w5.heap.size #[.int .i64 2, .int .i64 jw, .int .i64 jt, .int .i64 ju] 28 := by rw [hW]; exact J9.alloc _
            have hT' : Has 48 W w1.heap.size R.1 := by rw [hW]; exact h9.alloc _
            have hU' : Has 48 W (w5.heap.size + 1) R2.1 := by rw [hW]; exact u9.alloc _
            have hGW : Chg [] w W := by rw [hW]; exact G9.alloc _
            have cJ := job_quiet hT' hn
            rw [unhide E2] at cJ
            have cU := job_quiet hU' hn
            rw [unhide E4] at cU
            have a0 := hA.three.1
            have b0 := hB.three.1
            obtain ⟨_, d1, d2, _⟩ := hJ.four
            have k1 := fun d os => cell_regrown a0 d os
            have k2 := fun d os => cell_regrown b0 d os
            have k3 := fun d os => cell_regrown d1 d os
            have k4 := fun d os => cell_regrown d2 d os
            have hfl := field_job
            go_wp2_with fail
            rw [← hW]
            clear hW c0 c1 c2 c3 a0 b0 d1 d2
            refine wp_region_quiet_below (by kernel_rfl) (by kernel_rfl) ?_
            repeat (first | go_big_quiet_step (first | (go_at_call_of 18 (Value.pointer (some ({ block := w1.heap.size, off := 0 } : Addr))); exact cJ _ _) | (go_at_call_of 18 (Value.pointer (some ({ block := w5.heap.size + 1, off := 0 } : Addr))); exact cU _ _)))
            refine wpQuiet_nil ?_
            intro x9 hx9
            obtain ⟨⟨dq, oq⟩, rfl⟩ := hx9
            have g11 := hGW.trans (Chg.regrown W dq oq) (by simp)
            generalize grow (redrawn W dq) oq = x9 at *
            clear cJ cU k1 k2 k3 k4
            go_wp2
            go_ret
            exact ⟨rfl, g11⟩
          · have hout : ju ≤ nw := by omega
            obtain ⟨e1, e2⟩ := time_out hI hn (unhide HJ) hT0 hmx' hout
            rw [e1] at h8 ⊢
            clear e1
            simp only at h8
            go_wp2_with fail
            refine (do_any _ ⟨3, nw, n, jt, jw, 1⟩ T _ (u8.alloc _) hI.fit).mono ?_
            rintro e w9 ⟨rfl, u9, g9⟩
            have A9 := (Blk.new w8 _ _).chg g9 (by simp; omega)
            have h9 := (h8.alloc _).chg g9 (by simp; omega)
            have J9 := (J8.alloc _).chg g9 (by simp)
            have G9 := (G8.alloc _).trans g9 (by simp; omega)
            have z9 := J9.lt
            have zA := A9.lt
            rw [e2] at u9 ⊢
            simp only at u9
            clear e2 c0 c1 c2 c3 u8 h8 J8 G8 g9
            obtain ⟨c0, c1, c2, c3⟩ := J9.four
            obtain ⟨W, hW⟩ : ∃ W, W = w9.alloc (.cells #[.int .i64 6, .int .i64 0, .int .i64 0] 33) := ⟨_, rfl⟩
            have hA : Blk W w8.heap.size #[.int .i64 6, .int .i64 0, .int .i64 0] 33 := by rw [hW]; exact A9.alloc _
            have hB : Blk W w9.heap.size #[.int .i64 6, .int .i64 0, .int .i64 0] 33 := by rw [hW]; exact Blk.new _ _ _
            have hJ : Blk W w5.heap.size #[.int .i64 2, .int .i64 jw, .int .i64 jt, .int .i64 ju] 28 := by rw [hW]; exact J9.alloc _
            have hT' : Has 48 W w1.heap.size T := by rw [hW]; exact h9.alloc _
            have hU' : Has 48 W (w5.heap.size + 1) T := by rw [hW]; exact u9.alloc _
            have hGW : Chg [] w W := by rw [hW]; exact G9.alloc _
            have cJ := job_quiet hT' hn
            rw [unhide HJ] at cJ
            have a0 := hA.three.1
            have b0 := hB.three.1
            obtain ⟨d0, d1, d2, d3⟩ := hJ.four
            have k1 := fun d os => cell_regrown a0 d os
            have k2 := fun d os => cell_regrown b0 d os
            have k3 := fun d os => cell_regrown d0 d os
            have k4 := fun d os => cell_regrown d1 d os
            have k5 := fun d os => cell_regrown d2 d os
            have k6 := fun d os => cell_regrown d3 d os
            go_wp2_with fail
            rw [← hW]
            clear hW c0 c1 c2 c3 a0 b0 d0 d1 d2 d3
            refine wp_region_quiet_below (by kernel_rfl) (by kernel_rfl) ?_
            repeat (first | go_big_quiet_step (exact cJ _ _) | quiet_step (exact cJ _ _))
            refine wpQuiet_nil ?_
            intro x9 hx9
            obtain ⟨⟨dq, oq⟩, rfl⟩ := hx9
            have gx := Chg.regrown W dq oq
            have g11 := hGW.trans gx (by simp)
            have hJ11 := hJ.chg gx (by simp)
            have hU11 := hU'.chg gx (by simp)
            generalize grow (redrawn W dq) oq = x9 at *
            clear cJ k1 k2 k3 k4 k5 k6 gx
            go_wp2_with fail
            refine (do_any _ ⟨2, nw, 0, 0, 0, 5⟩ T _ hU11 hI.fit).mono ?_
            rintro e w12 ⟨rfl, u12, g12⟩
            have J12 := hJ11.chg g12 (by simp)
            have G12 := g11.trans g12 (by simp; omega)
            have tk := time_take hn (unhide HJ) hT0 hout
            generalize doT T ⟨2, nw, 0, 0, 0, 5⟩ = R3 at *
            go_wp2_with fail
            refine (job_in _ n hn R3.1 _ u12).mono ?_
            rintro e w13 ⟨rfl, g13⟩
            have J13 := J12.chg g13 (by simp)
            have G13 := G12.trans g13 (by simp)
            have z13 := J13.lt
            obtain ⟨c0, c1, c2, c3⟩ := J13.four
            clear g12 g13 J12 G12 hU11 hJ11
            rcases tk with tk | tk | tk | ⟨uu, tk⟩
            · rw [tk]
              clear tk
              go_wp2
              go_ret
              exact ⟨rfl, G13.alloc _⟩
            · rw [tk]
              clear tk
              go_wp2
              go_ret
              exact ⟨rfl, G13.alloc _⟩
            · rw [tk]
              clear tk
              go_wp2
              go_ret
              exact ⟨rfl, G13.alloc _⟩
            · rw [tk]
              clear tk
              have bt : (jt + 1 == jt) = false := by rw [beq_eq_false_iff_ne]; omega
              go_wp2
              go_ret
              exact ⟨rfl, G13.alloc _⟩
      · have b1 : ((T.js n).st != 2) = true := by rw [bne_iff_ne]; exact hs
        clear hs
        go_wp2
        go_ret
        exact ⟨rfl, G5.alloc _⟩

set_option maxRecDepth 100000 in
set_option maxHeartbeats 1000000 in
theorem time_many (a : Option Addr) (len cap : Nat) (x y : Int) (w : World) (hlen : 300 < len) :
    Calls Try.prog 7 #[.slice a len cap, .int .i64 x, .int .i64 y] w fun e w' => e = .returned (.bool true) ∧ Chg [] w w' := by
  have hle : decide ((300 : Int) < (len : Int)) = true := by simp; omega
  go_enter Try.func7, Try.ntmps7
  go_wp2_with fail
  refine (begun_any _).mono ?_
  rintro e w1 ⟨rfl, g1⟩
  go_wp2
  go_ret
  exact ⟨rfl, g1⟩

theorem time_any (a : Option Addr) (len cap : Nat) (x y : Int) (os : Nat → Od) (w : World) (h : Ords w a len os) :
    Calls Try.prog 7 #[.slice a len cap, .int .i64 x, .int .i64 y] w fun e w' => e = .returned (.bool true) ∧ Chg [] w w' := by
  by_cases hlen : 300 < len
  · exact time_many a len cap x y w hlen
  · exact time_row a len cap x y os w (by omega) h

end Go.Proofs.Ytapjdnbionacmaa
