/-
  A step of the document's own guild, whatever it is. Nothing here is claimed by itself.
-/
import Derived.Test.YtgcikokfgcpkfabMG6
namespace Go.Proofs.Ytgcikokfgcpkfab
open Go.RowKit

set_option maxRecDepth 100000 in
set_option maxHeartbeats 4000000 in
theorem cstep_open_lo (W0 : World) (m : Cm) (s : Gd) (x : Sp) (w : World) (h : Chp W0 w m s) (k1 : x.k = 1) (hx : x.n < 0) :
    Calls Try.prog 43 #[.pointer (some ⟨m.cb, 0, none⟩), spV x] w fun e w' => e = .returned (ansV ⟨3, 0, 0⟩) ∧ ∃ m', Cnx W0 w m w' m' s := by
  have lg := h.plt.blk.lt
  have zw := h.ch.size
  obtain ⟨c0, c1, c2, c3, c4, c5, -⟩ := h.cells
  obtain ⟨rs, t, pl⟩ := h.pl
  have n0 := pl.n0
  have n1 := pl.n1
  have e0 := pl.e0
  have e1 := pl.e1
  have HPL := hide pl
  have HG := hide h
  clear h pl
  have b1 : (x.k == 1) = true := by simp [k1]
  have d0 : decide (x.n < 0) = true := by simp; omega
  have d3 : decide ((3 : Int) ≤ x.n) = false := by simp; omega
  clear k1 hx c0 c1 c2 c3 c4 c5 n0 n1 e0 e1
  unfold spV spC
  go_enter Try.func43, Try.ntmps43
  go_wp2
  have R7 := Blk.new1 w (.cells #[.int .i64 x.k, .int .i64 x.n, .int .i64 x.keep, .int .i64 x.o.k, .int .i64 x.o.now, .int .i64 x.o.jb, .int .i64 x.o.tr, .int .i64 x.o.wk, .int .i64 x.o.tm] 90) #[.int .i64 3, .int .i64 0, .int .i64 0] 56
  refine bodyPost_ret (v := ansV ⟨3, 0, 0⟩) (ret_ans rfl rfl R7) rfl ?_
  have k7 := ((Chg.refl [] w).alloc (.cells #[.int .i64 x.k, .int .i64 x.n, .int .i64 x.keep, .int .i64 x.o.k, .int .i64 x.o.now, .int .i64 x.o.jb, .int .i64 x.o.tr, .int .i64 x.o.wk, .int .i64 x.o.tm] 90)).alloc (.cells #[.int .i64 3, .int .i64 0, .int .i64 0] 56)
  exact ⟨rfl, _, Cnx.pre k7 (Cnx.refl ((unhide HG).fresh k7))⟩

set_option maxRecDepth 100000 in
set_option maxHeartbeats 4000000 in
theorem cstep_open_hi (W0 : World) (m : Cm) (s : Gd) (x : Sp) (w : World) (h : Chp W0 w m s) (k1 : x.k = 1) (hx : 3 ≤ x.n) :
    Calls Try.prog 43 #[.pointer (some ⟨m.cb, 0, none⟩), spV x] w fun e w' => e = .returned (ansV ⟨3, 0, 0⟩) ∧ ∃ m', Cnx W0 w m w' m' s := by
  have lg := h.plt.blk.lt
  have zw := h.ch.size
  obtain ⟨c0, c1, c2, c3, c4, c5, -⟩ := h.cells
  obtain ⟨rs, t, pl⟩ := h.pl
  have n0 := pl.n0
  have n1 := pl.n1
  have e0 := pl.e0
  have e1 := pl.e1
  have HPL := hide pl
  have HG := hide h
  clear h pl
  have b1 : (x.k == 1) = true := by simp [k1]
  have d0 : decide (x.n < 0) = false := by simp; omega
  have d3 : decide ((3 : Int) ≤ x.n) = true := by simp; omega
  clear k1 hx c0 c1 c2 c3 c4 c5 n0 n1 e0 e1
  unfold spV spC
  go_enter Try.func43, Try.ntmps43
  go_wp2
  have R7 := Blk.new1 w (.cells #[.int .i64 x.k, .int .i64 x.n, .int .i64 x.keep, .int .i64 x.o.k, .int .i64 x.o.now, .int .i64 x.o.jb, .int .i64 x.o.tr, .int .i64 x.o.wk, .int .i64 x.o.tm] 90) #[.int .i64 3, .int .i64 0, .int .i64 0] 56
  refine bodyPost_ret (v := ansV ⟨3, 0, 0⟩) (ret_ans rfl rfl R7) rfl ?_
  have k7 := ((Chg.refl [] w).alloc (.cells #[.int .i64 x.k, .int .i64 x.n, .int .i64 x.keep, .int .i64 x.o.k, .int .i64 x.o.now, .int .i64 x.o.jb, .int .i64 x.o.tr, .int .i64 x.o.wk, .int .i64 x.o.tm] 90)).alloc (.cells #[.int .i64 3, .int .i64 0, .int .i64 0] 56)
  exact ⟨rfl, _, Cnx.pre k7 (Cnx.refl ((unhide HG).fresh k7))⟩

set_option maxRecDepth 100000 in
set_option maxHeartbeats 4000000 in
theorem cstep_open_full (W0 : World) (m : Cm) (s : Gd) (x : Sp) (w : World) (h : Chp W0 w m s) (k1 : x.k = 1) (hx : 0 ≤ x.n ∧ x.n < 3) (hf : s.d.ep = 100) :
    Calls Try.prog 43 #[.pointer (some ⟨m.cb, 0, none⟩), spV x] w fun e w' => e = .returned (ansV ⟨8, 0, 0⟩) ∧ ∃ m', Cnx W0 w m w' m' s := by
  have lg := h.plt.blk.lt
  have zw := h.ch.size
  obtain ⟨c0, c1, c2, c3, c4, c5, -⟩ := h.cells
  obtain ⟨rs, t, pl⟩ := h.pl
  have n0 := pl.n0
  have n1 := pl.n1
  have e0 := pl.e0
  have e1 := pl.e1
  have HPL := hide pl
  have HG := hide h
  clear h pl
  have b1 : (x.k == 1) = true := by simp [k1]
  have d0 : decide (x.n < 0) = false := by simp; omega
  have d3 : decide ((3 : Int) ≤ x.n) = false := by simp; omega
  have HF := hide hf
  clear k1 hx c0 c1 c2 c3 c4 c5 n0 n1 e0 e1 hf
  unfold spV spC
  go_enter Try.func43, Try.ntmps43
  go_wp2_with fail
  have k : Chg [] w ((w.alloc (.cells #[.int .i64 x.k, .int .i64 x.n, .int .i64 x.keep, .int .i64 x.o.k, .int .i64 x.o.now, .int .i64 x.o.jb, .int .i64 x.o.tr, .int .i64 x.o.wk, .int .i64 x.o.tm] 90)).alloc (.cells #[.int .i64 0, .int .i64 0, .int .i64 0] 56)) := ((Chg.refl [] w).alloc _).alloc _
  have h3 := (unhide HG).fresh k
  have R3 := Blk.new1 w (.cells #[.int .i64 x.k, .int .i64 x.n, .int .i64 x.keep, .int .i64 x.o.k, .int .i64 x.o.now, .int .i64 x.o.jb, .int .i64 x.o.tr, .int .i64 x.o.wk, .int .i64 x.o.tm] 90) #[.int .i64 0, .int .i64 0, .int .i64 0] 56
  generalize hW : (w.alloc (.cells #[.int .i64 x.k, .int .i64 x.n, .int .i64 x.keep, .int .i64 x.o.k, .int .i64 x.o.now, .int .i64 x.o.jb, .int .i64 x.o.tr, .int .i64 x.o.wk, .int .i64 x.o.tm] 90)).alloc (.cells #[.int .i64 0, .int .i64 0, .int .i64 0] 56) = W at *
  clear hW
  have z3 := R3.lt
  have P3 := h3.plt
  rw [unhide HF] at P3
  refine (opened_full m.cb m.u s.d.l W P3).mono ?_
  rintro e w4 ⟨rfl, P4, g4⟩
  rw [← unhide HF] at P4
  have X4 := h3.fullOp P4 g4
  have R4 := X4.blk R3 (crw_at m w.heap.size (by omega))
  obtain ⟨r0, r1, r2, t0, t1, t2⟩ := R4.three
  have l4 := R4.lt
  have HX := hide X4
  have HR := hide R4
  have HK3 := hide k
  clear X4 R4 P3 P4 g4 R3 k h3
  go_wp2
  have R7 := (((unhide HR).set 0 (.int .i64 8)).set 1 (.int .i64 0)).set 2 (.int .i64 0)
  refine bodyPost_ret (v := ansV ⟨8, 0, 0⟩) (ret_ans rfl rfl R7) rfl ?_
  have k7 := (((Chg.refl [w.heap.size + 1] w4).setCell (p := ⟨w.heap.size + 1, 0, none⟩) (by simp) (.int .i64 8)).setCell (p := ⟨w.heap.size + 1, 1, none⟩) (by simp) (.int .i64 0)).setCell (p := ⟨w.heap.size + 1, 2, none⟩) (by simp) (.int .i64 0)
  exact ⟨rfl, _, (Cnx.pre (unhide HK3) (unhide HX)).post k7 (by intro y hy; simp at hy; subst hy; exact ⟨crw_at m w.heap.size (by omega), by omega⟩) zw⟩

set_option maxRecDepth 100000 in
set_option maxHeartbeats 4000000 in
theorem cstep_open0 (W0 : World) (m : Cm) (s : Gd) (x : Sp) (w : World) (h : Chp W0 w m s) (k1 : x.k = 1) (hx : x.n = 0) (hf : ¬ s.d.ep = 100) :
    Calls Try.prog 43 #[.pointer (some ⟨m.cb, 0, none⟩), spV x] w fun e w' => e = .returned (ansV ⟨0, 0, 0⟩) ∧ ∃ m', Cnx W0 w m w' m' ⟨s.now, openD s.d, upG s.ns 0 (openN s.d)⟩ := by
  have lg := h.plt.blk.lt
  have zw := h.ch.size
  obtain ⟨c0, c1, c2, c3, c4, c5, -⟩ := h.cells
  obtain ⟨rs, t, pl⟩ := h.pl
  have n0 := pl.n0
  have n1 := pl.n1
  have e0 := pl.e0
  have e1 := pl.e1
  have HPL := hide pl
  have HG := hide h
  clear h pl
  have b1 : (x.k == 1) = true := by simp [k1]
  have HF := hide hf
  have hlt : s.d.ep < 100 := by omega
  have hnot : Hid (w.heap.size ∉ [m.cb] ∧ w.heap.size + 1 ∉ [m.cb]) := hide ⟨by simp; omega, by simp; omega⟩
  clear k1 c0 c1 c2 c3 c4 c5 n0 n1 e1 hf
  obtain ⟨xk, xn, xkeep, xo⟩ := x
  dsimp only at b1 hx
  subst hx
  unfold spV spC
  dsimp only
  go_enter Try.func43, Try.ntmps43
  go_wp2_with fail
  have k : Chg [] w ((w.alloc (.cells #[.int .i64 xk, .int .i64 0, .int .i64 xkeep, .int .i64 xo.k, .int .i64 xo.now, .int .i64 xo.jb, .int .i64 xo.tr, .int .i64 xo.wk, .int .i64 xo.tm] 90)).alloc (.cells #[.int .i64 0, .int .i64 0, .int .i64 0] 56)) := ((Chg.refl [] w).alloc _).alloc _
  have h3 := (unhide HG).fresh k
  have R3 := Blk.new1 w (.cells #[.int .i64 xk, .int .i64 0, .int .i64 xkeep, .int .i64 xo.k, .int .i64 xo.now, .int .i64 xo.jb, .int .i64 xo.tr, .int .i64 xo.wk, .int .i64 xo.tm] 90) #[.int .i64 0, .int .i64 0, .int .i64 0] 56
  have BX := (Blk.new w #[.int .i64 xk, .int .i64 0, .int .i64 xkeep, .int .i64 xo.k, .int .i64 xo.now, .int .i64 xo.jb, .int .i64 xo.tr, .int .i64 xo.wk, .int .i64 xo.tm] 90).alloc (.cells #[.int .i64 0, .int .i64 0, .int .i64 0] 56)
  generalize hW : (w.alloc (.cells #[.int .i64 xk, .int .i64 0, .int .i64 xkeep, .int .i64 xo.k, .int .i64 xo.now, .int .i64 xo.jb, .int .i64 xo.tr, .int .i64 xo.wk, .int .i64 xo.tm] 90)).alloc (.cells #[.int .i64 0, .int .i64 0, .int .i64 0] 56) = W at *
  clear hW
  have z3 := R3.lt
  refine (opened_nw m.cb s.d.ep m.u s.d.l W h3.plt e0 (by omega)).mono ?_
  rintro e w4 ⟨vb4, u4, rfl, q1, q2, V4, P4, g4, nx4⟩
  have R4 := R3.chg g4 (unhide hnot).2
  have BX4 := BX.chg g4 (unhide hnot).1
  have x1 : w4.cell? ⟨w.heap.size, 1, none⟩ = some (.int .i64 0) := BX4.cell 1
  have lx := BX4.lt
  have cc : w4.cell? ⟨m.cb, 2, none⟩ = some (slotV (s.ns 0) (m.vb 0)) := (P4.blk.cell (2 + 0)).trans (two_atN _ _ _ 0)
  have cf := P4.blk.fz 2
  have lc4 := P4.blk.lt
  have X4 := h3.openOp (i := 0) (by decide) (unhide HF) V4 P4 g4 nx4 q2 q1
  have HX := hide X4
  have HR := hide R4
  have HK3 := hide k
  obtain ⟨r0, r1, r2, t0, t1, t2⟩ := R4.three
  have l4 := R4.lt
  have ncb : m.cb ≠ w.heap.size + 1 := by omega
  clear X4 R4 P4 V4 g4 R3 k h3 BX4 BX
  go_wp2_with fail
  go_region
  have R5 := (show Blk (w4.setCell ⟨m.cb, 2, none⟩ (.pointer (some ⟨vb4, 0, none⟩))).drew (w.heap.size + 1) _ _ from (unhide HR).other (by simpa using ncb) _)
  have X5 := (unhide HX).post (w2 := (w4.setCell ⟨m.cb, 2, none⟩ (.pointer (some ⟨vb4, 0, none⟩))).drew) ((Chg.refl [] _).drew) (by simp) (by omega)
  have o5 := X5.ow (w.heap.size + 1) z3 (crw_at m w.heap.size (by omega))
  clear HX HR r0 r1 r2 t0 t1 t2 l4 cc cf lc4 x1 lx
  generalize hW5 : (w4.setCell ⟨m.cb, 2, none⟩ (.pointer (some ⟨vb4, 0, none⟩))).drew = w5 at *
  clear hW5
  obtain ⟨r0, r1, r2, t0, t1, t2⟩ := R5.three
  have l5 := R5.lt
  have HX := hide X5
  have HR := hide R5
  clear X5 R5
  go_wp2
  have R7 := (((unhide HR).set 0 (.int .i64 0)).set 1 (.int .i64 0)).set 2 (.int .i64 0)
  refine bodyPost_ret (v := ansV ⟨0, 0, 0⟩) (ret_ans rfl rfl R7) rfl ?_
  have k7 := (((Chg.refl [w.heap.size + 1] w5).setCell (p := ⟨w.heap.size + 1, 0, none⟩) (by simp) (.int .i64 0)).setCell (p := ⟨w.heap.size + 1, 1, none⟩) (by simp) (.int .i64 0)).setCell (p := ⟨w.heap.size + 1, 2, none⟩) (by simp) (.int .i64 0)
  exact ⟨rfl, _, (Cnx.pre (unhide HK3) (unhide HX)).post k7 (by intro y hy; simp at hy; subst hy; exact ⟨o5, by omega⟩) zw⟩

set_option maxRecDepth 100000 in
set_option maxHeartbeats 4000000 in
theorem cstep_open1 (W0 : World) (m : Cm) (s : Gd) (x : Sp) (w : World) (h : Chp W0 w m s) (k1 : x.k = 1) (hx : x.n = 1) (hf : ¬ s.d.ep = 100) :
    Calls Try.prog 43 #[.pointer (some ⟨m.cb, 0, none⟩), spV x] w fun e w' => e = .returned (ansV ⟨0, 0, 0⟩) ∧ ∃ m', Cnx W0 w m w' m' ⟨s.now, openD s.d, upG s.ns 1 (openN s.d)⟩ := by
  have lg := h.plt.blk.lt
  have zw := h.ch.size
  obtain ⟨c0, c1, c2, c3, c4, c5, -⟩ := h.cells
  obtain ⟨rs, t, pl⟩ := h.pl
  have n0 := pl.n0
  have n1 := pl.n1
  have e0 := pl.e0
  have e1 := pl.e1
  have HPL := hide pl
  have HG := hide h
  clear h pl
  have b1 : (x.k == 1) = true := by simp [k1]
  have HF := hide hf
  have hlt : s.d.ep < 100 := by omega
  have hnot : Hid (w.heap.size ∉ [m.cb] ∧ w.heap.size + 1 ∉ [m.cb]) := hide ⟨by simp; omega, by simp; omega⟩
  clear k1 c0 c1 c2 c3 c4 c5 n0 n1 e1 hf
  obtain ⟨xk, xn, xkeep, xo⟩ := x
  dsimp only at b1 hx
  subst hx
  unfold spV spC
  dsimp only
  go_enter Try.func43, Try.ntmps43
  go_wp2_with fail
  have k : Chg [] w ((w.alloc (.cells #[.int .i64 xk, .int .i64 1, .int .i64 xkeep, .int .i64 xo.k, .int .i64 xo.now, .int .i64 xo.jb, .int .i64 xo.tr, .int .i64 xo.wk, .int .i64 xo.tm] 90)).alloc (.cells #[.int .i64 0, .int .i64 0, .int .i64 0] 56)) := ((Chg.refl [] w).alloc _).alloc _
  have h3 := (unhide HG).fresh k
  have R3 := Blk.new1 w (.cells #[.int .i64 xk, .int .i64 1, .int .i64 xkeep, .int .i64 xo.k, .int .i64 xo.now, .int .i64 xo.jb, .int .i64 xo.tr, .int .i64 xo.wk, .int .i64 xo.tm] 90) #[.int .i64 0, .int .i64 0, .int .i64 0] 56
  have BX := (Blk.new w #[.int .i64 xk, .int .i64 1, .int .i64 xkeep, .int .i64 xo.k, .int .i64 xo.now, .int .i64 xo.jb, .int .i64 xo.tr, .int .i64 xo.wk, .int .i64 xo.tm] 90).alloc (.cells #[.int .i64 0, .int .i64 0, .int .i64 0] 56)
  generalize hW : (w.alloc (.cells #[.int .i64 xk, .int .i64 1, .int .i64 xkeep, .int .i64 xo.k, .int .i64 xo.now, .int .i64 xo.jb, .int .i64 xo.tr, .int .i64 xo.wk, .int .i64 xo.tm] 90)).alloc (.cells #[.int .i64 0, .int .i64 0, .int .i64 0] 56) = W at *
  clear hW
  have z3 := R3.lt
  refine (opened_nw m.cb s.d.ep m.u s.d.l W h3.plt e0 (by omega)).mono ?_
  rintro e w4 ⟨vb4, u4, rfl, q1, q2, V4, P4, g4, nx4⟩
  have R4 := R3.chg g4 (unhide hnot).2
  have BX4 := BX.chg g4 (unhide hnot).1
  have x1 : w4.cell? ⟨w.heap.size, 1, none⟩ = some (.int .i64 1) := BX4.cell 1
  have lx := BX4.lt
  have cc : w4.cell? ⟨m.cb, 3, none⟩ = some (slotV (s.ns 1) (m.vb 1)) := (P4.blk.cell (2 + 1)).trans (two_atN _ _ _ 1)
  have cf := P4.blk.fz 3
  have lc4 := P4.blk.lt
  have X4 := h3.openOp (i := 1) (by decide) (unhide HF) V4 P4 g4 nx4 q2 q1
  have HX := hide X4
  have HR := hide R4
  have HK3 := hide k
  obtain ⟨r0, r1, r2, t0, t1, t2⟩ := R4.three
  have l4 := R4.lt
  have ncb : m.cb ≠ w.heap.size + 1 := by omega
  clear X4 R4 P4 V4 g4 R3 k h3 BX4 BX
  go_wp2_with fail
  go_region
  have R5 := (show Blk (w4.setCell ⟨m.cb, 3, none⟩ (.pointer (some ⟨vb4, 0, none⟩))).drew (w.heap.size + 1) _ _ from (unhide HR).other (by simpa using ncb) _)
  have X5 := (unhide HX).post (w2 := (w4.setCell ⟨m.cb, 3, none⟩ (.pointer (some ⟨vb4, 0, none⟩))).drew) ((Chg.refl [] _).drew) (by simp) (by omega)
  have o5 := X5.ow (w.heap.size + 1) z3 (crw_at m w.heap.size (by omega))
  clear HX HR r0 r1 r2 t0 t1 t2 l4 cc cf lc4 x1 lx
  generalize hW5 : (w4.setCell ⟨m.cb, 3, none⟩ (.pointer (some ⟨vb4, 0, none⟩))).drew = w5 at *
  clear hW5
  obtain ⟨r0, r1, r2, t0, t1, t2⟩ := R5.three
  have l5 := R5.lt
  have HX := hide X5
  have HR := hide R5
  clear X5 R5
  go_wp2
  have R7 := (((unhide HR).set 0 (.int .i64 0)).set 1 (.int .i64 0)).set 2 (.int .i64 0)
  refine bodyPost_ret (v := ansV ⟨0, 0, 0⟩) (ret_ans rfl rfl R7) rfl ?_
  have k7 := (((Chg.refl [w.heap.size + 1] w5).setCell (p := ⟨w.heap.size + 1, 0, none⟩) (by simp) (.int .i64 0)).setCell (p := ⟨w.heap.size + 1, 1, none⟩) (by simp) (.int .i64 0)).setCell (p := ⟨w.heap.size + 1, 2, none⟩) (by simp) (.int .i64 0)
  exact ⟨rfl, _, (Cnx.pre (unhide HK3) (unhide HX)).post k7 (by intro y hy; simp at hy; subst hy; exact ⟨o5, by omega⟩) zw⟩

set_option maxRecDepth 100000 in
set_option maxHeartbeats 4000000 in
theorem cstep_open2 (W0 : World) (m : Cm) (s : Gd) (x : Sp) (w : World) (h : Chp W0 w m s) (k1 : x.k = 1) (hx : x.n = 2) (hf : ¬ s.d.ep = 100) :
    Calls Try.prog 43 #[.pointer (some ⟨m.cb, 0, none⟩), spV x] w fun e w' => e = .returned (ansV ⟨0, 0, 0⟩) ∧ ∃ m', Cnx W0 w m w' m' ⟨s.now, openD s.d, upG s.ns 2 (openN s.d)⟩ := by
  have lg := h.plt.blk.lt
  have zw := h.ch.size
  obtain ⟨c0, c1, c2, c3, c4, c5, -⟩ := h.cells
  obtain ⟨rs, t, pl⟩ := h.pl
  have n0 := pl.n0
  have n1 := pl.n1
  have e0 := pl.e0
  have e1 := pl.e1
  have HPL := hide pl
  have HG := hide h
  clear h pl
  have b1 : (x.k == 1) = true := by simp [k1]
  have HF := hide hf
  have hlt : s.d.ep < 100 := by omega
  have hnot : Hid (w.heap.size ∉ [m.cb] ∧ w.heap.size + 1 ∉ [m.cb]) := hide ⟨by simp; omega, by simp; omega⟩
  clear k1 c0 c1 c2 c3 c4 c5 n0 n1 e1 hf
  obtain ⟨xk, xn, xkeep, xo⟩ := x
  dsimp only at b1 hx
  subst hx
  unfold spV spC
  dsimp only
  go_enter Try.func43, Try.ntmps43
  go_wp2_with fail
  have k : Chg [] w ((w.alloc (.cells #[.int .i64 xk, .int .i64 2, .int .i64 xkeep, .int .i64 xo.k, .int .i64 xo.now, .int .i64 xo.jb, .int .i64 xo.tr, .int .i64 xo.wk, .int .i64 xo.tm] 90)).alloc (.cells #[.int .i64 0, .int .i64 0, .int .i64 0] 56)) := ((Chg.refl [] w).alloc _).alloc _
  have h3 := (unhide HG).fresh k
  have R3 := Blk.new1 w (.cells #[.int .i64 xk, .int .i64 2, .int .i64 xkeep, .int .i64 xo.k, .int .i64 xo.now, .int .i64 xo.jb, .int .i64 xo.tr, .int .i64 xo.wk, .int .i64 xo.tm] 90) #[.int .i64 0, .int .i64 0, .int .i64 0] 56
  have BX := (Blk.new w #[.int .i64 xk, .int .i64 2, .int .i64 xkeep, .int .i64 xo.k, .int .i64 xo.now, .int .i64 xo.jb, .int .i64 xo.tr, .int .i64 xo.wk, .int .i64 xo.tm] 90).alloc (.cells #[.int .i64 0, .int .i64 0, .int .i64 0] 56)
  generalize hW : (w.alloc (.cells #[.int .i64 xk, .int .i64 2, .int .i64 xkeep, .int .i64 xo.k, .int .i64 xo.now, .int .i64 xo.jb, .int .i64 xo.tr, .int .i64 xo.wk, .int .i64 xo.tm] 90)).alloc (.cells #[.int .i64 0, .int .i64 0, .int .i64 0] 56) = W at *
  clear hW
  have z3 := R3.lt
  refine (opened_nw m.cb s.d.ep m.u s.d.l W h3.plt e0 (by omega)).mono ?_
  rintro e w4 ⟨vb4, u4, rfl, q1, q2, V4, P4, g4, nx4⟩
  have R4 := R3.chg g4 (unhide hnot).2
  have BX4 := BX.chg g4 (unhide hnot).1
  have x1 : w4.cell? ⟨w.heap.size, 1, none⟩ = some (.int .i64 2) := BX4.cell 1
  have lx := BX4.lt
  have cc : w4.cell? ⟨m.cb, 4, none⟩ = some (slotV (s.ns 2) (m.vb 2)) := (P4.blk.cell (2 + 2)).trans (two_atN _ _ _ 2)
  have cf := P4.blk.fz 4
  have lc4 := P4.blk.lt
  have X4 := h3.openOp (i := 2) (by decide) (unhide HF) V4 P4 g4 nx4 q2 q1
  have HX := hide X4
  have HR := hide R4
  have HK3 := hide k
  obtain ⟨r0, r1, r2, t0, t1, t2⟩ := R4.three
  have l4 := R4.lt
  have ncb : m.cb ≠ w.heap.size + 1 := by omega
  clear X4 R4 P4 V4 g4 R3 k h3 BX4 BX
  go_wp2_with fail
  go_region
  have R5 := (show Blk (w4.setCell ⟨m.cb, 4, none⟩ (.pointer (some ⟨vb4, 0, none⟩))).drew (w.heap.size + 1) _ _ from (unhide HR).other (by simpa using ncb) _)
  have X5 := (unhide HX).post (w2 := (w4.setCell ⟨m.cb, 4, none⟩ (.pointer (some ⟨vb4, 0, none⟩))).drew) ((Chg.refl [] _).drew) (by simp) (by omega)
  have o5 := X5.ow (w.heap.size + 1) z3 (crw_at m w.heap.size (by omega))
  clear HX HR r0 r1 r2 t0 t1 t2 l4 cc cf lc4 x1 lx
  generalize hW5 : (w4.setCell ⟨m.cb, 4, none⟩ (.pointer (some ⟨vb4, 0, none⟩))).drew = w5 at *
  clear hW5
  obtain ⟨r0, r1, r2, t0, t1, t2⟩ := R5.three
  have l5 := R5.lt
  have HX := hide X5
  have HR := hide R5
  clear X5 R5
  go_wp2
  have R7 := (((unhide HR).set 0 (.int .i64 0)).set 1 (.int .i64 0)).set 2 (.int .i64 0)
  refine bodyPost_ret (v := ansV ⟨0, 0, 0⟩) (ret_ans rfl rfl R7) rfl ?_
  have k7 := (((Chg.refl [w.heap.size + 1] w5).setCell (p := ⟨w.heap.size + 1, 0, none⟩) (by simp) (.int .i64 0)).setCell (p := ⟨w.heap.size + 1, 1, none⟩) (by simp) (.int .i64 0)).setCell (p := ⟨w.heap.size + 1, 2, none⟩) (by simp) (.int .i64 0)
  exact ⟨rfl, _, (Cnx.pre (unhide HK3) (unhide HX)).post k7 (by intro y hy; simp at hy; subst hy; exact ⟨o5, by omega⟩) zw⟩

set_option maxRecDepth 100000 in
set_option maxHeartbeats 4000000 in
theorem cstep_tick_lo (W0 : World) (m : Cm) (s : Gd) (x : Sp) (w : World) (h : Chp W0 w m s) (k1 : x.k = 5) (hx : x.n < 0) :
    Calls Try.prog 43 #[.pointer (some ⟨m.cb, 0, none⟩), spV x] w fun e w' => e = .returned (ansV ⟨3, 0, 0⟩) ∧ ∃ m', Cnx W0 w m w' m' s := by
  have lg := h.plt.blk.lt
  have zw := h.ch.size
  obtain ⟨c0, c1, c2, c3, c4, c5, -⟩ := h.cells
  obtain ⟨rs, t, pl⟩ := h.pl
  have n0 := pl.n0
  have n1 := pl.n1
  have e0 := pl.e0
  have e1 := pl.e1
  have HPL := hide pl
  have HG := hide h
  clear h pl
  have b1 : (x.k == 1) = false := by simp [k1]
  have b5 : (x.k == 5) = true := by simp [k1]
  have d0 : decide (x.n < 0) = true := by simp; omega
  have d3 : decide ((60000 : Int) < x.n) = false := by simp; omega
  skip
  skip
  skip
  clear k1 hx c0 c1 c2 c3 c4 e0 e1
  unfold spV spC
  go_enter Try.func43, Try.ntmps43
  go_wp2_with fail
  go_quiet (fail)
  go_wp2
  have R0 := show Blk (((w.alloc (.cells #[.int .i64 x.k, .int .i64 x.n, .int .i64 x.keep, .int .i64 x.o.k, .int .i64 x.o.now, .int .i64 x.o.jb, .int .i64 x.o.tr, .int .i64 x.o.wk, .int .i64 x.o.tm] 90)).alloc (.cells #[.int .i64 0, .int .i64 0, .int .i64 0] 56)).drewN nq) (w.heap.size + 1) _ _ from Blk.new1 w (.cells #[.int .i64 x.k, .int .i64 x.n, .int .i64 x.keep, .int .i64 x.o.k, .int .i64 x.o.now, .int .i64 x.o.jb, .int .i64 x.o.tr, .int .i64 x.o.wk, .int .i64 x.o.tm] 90) #[.int .i64 0, .int .i64 0, .int .i64 0] 56
  have R7 := ((R0.set 0 (.int .i64 3)).set 1 (.int .i64 0)).set 2 (.int .i64 0)
  refine bodyPost_ret (v := ansV ⟨3, 0, 0⟩) (ret_ans rfl rfl R7) rfl ?_
  have k7 := ((((((Chg.refl [] w).alloc (.cells #[.int .i64 x.k, .int .i64 x.n, .int .i64 x.keep, .int .i64 x.o.k, .int .i64 x.o.now, .int .i64 x.o.jb, .int .i64 x.o.tr, .int .i64 x.o.wk, .int .i64 x.o.tm] 90)).alloc (.cells #[.int .i64 0, .int .i64 0, .int .i64 0] 56)).drewN nq).setCell (p := ⟨w.heap.size + 1, 0, none⟩) (by simp) (.int .i64 3)).setCell (p := ⟨w.heap.size + 1, 1, none⟩) (by simp) (.int .i64 0)).setCell (p := ⟨w.heap.size + 1, 2, none⟩) (by simp) (.int .i64 0)
  exact ⟨rfl, _, Cnx.pre k7 (Cnx.refl ((unhide HG).fresh k7))⟩

set_option maxRecDepth 100000 in
set_option maxHeartbeats 4000000 in
theorem cstep_tick_big (W0 : World) (m : Cm) (s : Gd) (x : Sp) (w : World) (h : Chp W0 w m s) (k1 : x.k = 5) (hx : 60000 < x.n) :
    Calls Try.prog 43 #[.pointer (some ⟨m.cb, 0, none⟩), spV x] w fun e w' => e = .returned (ansV ⟨3, 0, 0⟩) ∧ ∃ m', Cnx W0 w m w' m' s := by
  have lg := h.plt.blk.lt
  have zw := h.ch.size
  obtain ⟨c0, c1, c2, c3, c4, c5, -⟩ := h.cells
  obtain ⟨rs, t, pl⟩ := h.pl
  have n0 := pl.n0
  have n1 := pl.n1
  have e0 := pl.e0
  have e1 := pl.e1
  have HPL := hide pl
  have HG := hide h
  clear h pl
  have b1 : (x.k == 1) = false := by simp [k1]
  have b5 : (x.k == 5) = true := by simp [k1]
  have d0 : decide (x.n < 0) = false := by simp; omega
  have d3 : decide ((60000 : Int) < x.n) = true := by simp; omega
  skip
  skip
  skip
  clear k1 hx c0 c1 c2 c3 c4 e0 e1
  unfold spV spC
  go_enter Try.func43, Try.ntmps43
  go_wp2_with fail
  go_quiet (fail)
  go_wp2
  have R0 := show Blk (((w.alloc (.cells #[.int .i64 x.k, .int .i64 x.n, .int .i64 x.keep, .int .i64 x.o.k, .int .i64 x.o.now, .int .i64 x.o.jb, .int .i64 x.o.tr, .int .i64 x.o.wk, .int .i64 x.o.tm] 90)).alloc (.cells #[.int .i64 0, .int .i64 0, .int .i64 0] 56)).drewN nq) (w.heap.size + 1) _ _ from Blk.new1 w (.cells #[.int .i64 x.k, .int .i64 x.n, .int .i64 x.keep, .int .i64 x.o.k, .int .i64 x.o.now, .int .i64 x.o.jb, .int .i64 x.o.tr, .int .i64 x.o.wk, .int .i64 x.o.tm] 90) #[.int .i64 0, .int .i64 0, .int .i64 0] 56
  have R7 := ((R0.set 0 (.int .i64 3)).set 1 (.int .i64 0)).set 2 (.int .i64 0)
  refine bodyPost_ret (v := ansV ⟨3, 0, 0⟩) (ret_ans rfl rfl R7) rfl ?_
  have k7 := ((((((Chg.refl [] w).alloc (.cells #[.int .i64 x.k, .int .i64 x.n, .int .i64 x.keep, .int .i64 x.o.k, .int .i64 x.o.now, .int .i64 x.o.jb, .int .i64 x.o.tr, .int .i64 x.o.wk, .int .i64 x.o.tm] 90)).alloc (.cells #[.int .i64 0, .int .i64 0, .int .i64 0] 56)).drewN nq).setCell (p := ⟨w.heap.size + 1, 0, none⟩) (by simp) (.int .i64 3)).setCell (p := ⟨w.heap.size + 1, 1, none⟩) (by simp) (.int .i64 0)).setCell (p := ⟨w.heap.size + 1, 2, none⟩) (by simp) (.int .i64 0)
  exact ⟨rfl, _, Cnx.pre k7 (Cnx.refl ((unhide HG).fresh k7))⟩

set_option maxRecDepth 100000 in
set_option maxHeartbeats 4000000 in
theorem cstep_tick_hi (W0 : World) (m : Cm) (s : Gd) (x : Sp) (w : World) (h : Chp W0 w m s) (k1 : x.k = 5) (hx : 0 ≤ x.n ∧ x.n ≤ 60000 ∧ 60000 < s.now + x.n) :
    Calls Try.prog 43 #[.pointer (some ⟨m.cb, 0, none⟩), spV x] w fun e w' => e = .returned (ansV ⟨3, 0, 0⟩) ∧ ∃ m', Cnx W0 w m w' m' s := by
  have lg := h.plt.blk.lt
  have zw := h.ch.size
  obtain ⟨c0, c1, c2, c3, c4, c5, -⟩ := h.cells
  obtain ⟨rs, t, pl⟩ := h.pl
  have n0 := pl.n0
  have n1 := pl.n1
  have e0 := pl.e0
  have e1 := pl.e1
  have HPL := hide pl
  have HG := hide h
  clear h pl
  have b1 : (x.k == 1) = false := by simp [k1]
  have b5 : (x.k == 5) = true := by simp [k1]
  have d0 : decide (x.n < 0) = false := by simp; omega
  have d3 : decide ((60000 : Int) < x.n) = false := by simp; omega
  have d4 : decide ((60000 : Int) < s.now + x.n) = true := by simp; omega
  have bx0 : 0 ≤ x.n := by omega
  have bx1 : x.n ≤ 60000 := by omega
  clear k1 hx c0 c1 c2 c3 c4 e0 e1
  unfold spV spC
  go_enter Try.func43, Try.ntmps43
  go_wp2_with fail
  go_quiet (fail)
  go_wp2
  have R0 := show Blk (((w.alloc (.cells #[.int .i64 x.k, .int .i64 x.n, .int .i64 x.keep, .int .i64 x.o.k, .int .i64 x.o.now, .int .i64 x.o.jb, .int .i64 x.o.tr, .int .i64 x.o.wk, .int .i64 x.o.tm] 90)).alloc (.cells #[.int .i64 0, .int .i64 0, .int .i64 0] 56)).drewN nq) (w.heap.size + 1) _ _ from Blk.new1 w (.cells #[.int .i64 x.k, .int .i64 x.n, .int .i64 x.keep, .int .i64 x.o.k, .int .i64 x.o.now, .int .i64 x.o.jb, .int .i64 x.o.tr, .int .i64 x.o.wk, .int .i64 x.o.tm] 90) #[.int .i64 0, .int .i64 0, .int .i64 0] 56
  have R7 := ((R0.set 0 (.int .i64 3)).set 1 (.int .i64 0)).set 2 (.int .i64 0)
  refine bodyPost_ret (v := ansV ⟨3, 0, 0⟩) (ret_ans rfl rfl R7) rfl ?_
  have k7 := ((((((Chg.refl [] w).alloc (.cells #[.int .i64 x.k, .int .i64 x.n, .int .i64 x.keep, .int .i64 x.o.k, .int .i64 x.o.now, .int .i64 x.o.jb, .int .i64 x.o.tr, .int .i64 x.o.wk, .int .i64 x.o.tm] 90)).alloc (.cells #[.int .i64 0, .int .i64 0, .int .i64 0] 56)).drewN nq).setCell (p := ⟨w.heap.size + 1, 0, none⟩) (by simp) (.int .i64 3)).setCell (p := ⟨w.heap.size + 1, 1, none⟩) (by simp) (.int .i64 0)).setCell (p := ⟨w.heap.size + 1, 2, none⟩) (by simp) (.int .i64 0)
  exact ⟨rfl, _, Cnx.pre k7 (Cnx.refl ((unhide HG).fresh k7))⟩

set_option maxRecDepth 100000 in
set_option maxHeartbeats 4000000 in
theorem cstep_tick_yes (W0 : World) (m : Cm) (s : Gd) (x : Sp) (w : World) (h : Chp W0 w m s) (k1 : x.k = 5) (hx : 0 ≤ x.n ∧ x.n ≤ 60000 - s.now) :
    Calls Try.prog 43 #[.pointer (some ⟨m.cb, 0, none⟩), spV x] w fun e w' => e = .returned (ansV ⟨0, 0, 0⟩) ∧ ∃ m', Cnx W0 w m w' m' ⟨s.now + x.n, s.d, s.ns⟩ := by
  have lg := h.plt.blk.lt
  have zw := h.ch.size
  obtain ⟨c0, c1, c2, c3, c4, c5, -⟩ := h.cells
  obtain ⟨rs, t, pl⟩ := h.pl
  have n0 := pl.n0
  have n1 := pl.n1
  have e0 := pl.e0
  have e1 := pl.e1
  have HPL := hide pl
  have HG := hide h
  clear h pl
  have b1 : (x.k == 1) = false := by simp [k1]
  have b5 : (x.k == 5) = true := by simp [k1]
  have d0 : decide (x.n < 0) = false := by simp; omega
  have d3 : decide ((60000 : Int) < x.n) = false := by simp; omega
  have d4 : decide ((60000 : Int) < s.now + x.n) = false := by simp; omega
  have bx0 : 0 ≤ x.n := by omega
  have bx1 : x.n ≤ 60000 := by omega
  have bx2 : s.now + x.n ≤ 60000 := by omega
  clear k1 hx c0 c1 c2 c3 c4 e0 e1
  unfold spV spC
  go_enter Try.func43, Try.ntmps43
  go_wp2_with fail
  go_quiet (fail)
  have k : Chg [] w (((w.alloc (.cells #[.int .i64 x.k, .int .i64 x.n, .int .i64 x.keep, .int .i64 x.o.k, .int .i64 x.o.now, .int .i64 x.o.jb, .int .i64 x.o.tr, .int .i64 x.o.wk, .int .i64 x.o.tm] 90)).alloc (.cells #[.int .i64 0, .int .i64 0, .int .i64 0] 56)).drewN nq) := (((Chg.refl [] w).alloc _).alloc _).drewN nq
  have h3 := (unhide HG).fresh k
  have R3 := show Blk (((w.alloc (.cells #[.int .i64 x.k, .int .i64 x.n, .int .i64 x.keep, .int .i64 x.o.k, .int .i64 x.o.now, .int .i64 x.o.jb, .int .i64 x.o.tr, .int .i64 x.o.wk, .int .i64 x.o.tm] 90)).alloc (.cells #[.int .i64 0, .int .i64 0, .int .i64 0] 56)).drewN nq) (w.heap.size + 1) _ _ from Blk.new1 w (.cells #[.int .i64 x.k, .int .i64 x.n, .int .i64 x.keep, .int .i64 x.o.k, .int .i64 x.o.now, .int .i64 x.o.jb, .int .i64 x.o.tr, .int .i64 x.o.wk, .int .i64 x.o.tm] 90) #[.int .i64 0, .int .i64 0, .int .i64 0] 56
  have BX := show Blk (((w.alloc (.cells #[.int .i64 x.k, .int .i64 x.n, .int .i64 x.keep, .int .i64 x.o.k, .int .i64 x.o.now, .int .i64 x.o.jb, .int .i64 x.o.tr, .int .i64 x.o.wk, .int .i64 x.o.tm] 90)).alloc (.cells #[.int .i64 0, .int .i64 0, .int .i64 0] 56)).drewN nq) w.heap.size _ _ from (Blk.new w #[.int .i64 x.k, .int .i64 x.n, .int .i64 x.keep, .int .i64 x.o.k, .int .i64 x.o.now, .int .i64 x.o.jb, .int .i64 x.o.tr, .int .i64 x.o.wk, .int .i64 x.o.tm] 90).alloc (.cells #[.int .i64 0, .int .i64 0, .int .i64 0] 56)
  generalize hW : World.drewN _ nq = W at *
  clear hW
  have z3 := R3.lt
  have x1 : W.cell? ⟨w.heap.size, 1, none⟩ = some (.int .i64 x.n) := BX.cell 1
  have lx := BX.lt
  obtain ⟨-, -, -, -, -, cc, lc⟩ := h3.cells
  have cf := h3.plt.blk.fz 5
  have p := unhide HPL
  have X4 := h3.tickOp (now' := s.now + x.n) ⟨rs, t, ⟨by show 0 ≤ s.now + x.n; omega, by show s.now + x.n ≤ 60000; omega, p.e0, p.e1, p.inv, p.le, p.one, p.srv, p.dl, p.good, p.rle, p.tl, p.acc⟩⟩
  have HX := hide X4
  have HR := hide R3
  have HK3 := hide k
  have ncb : m.cb ≠ w.heap.size + 1 := by omega
  clear X4 R3 k h3 BX p c5
  go_wp2_with fail
  go_region
  have R5 := (show Blk (W.setCell ⟨m.cb, 5, none⟩ (.int .i64 (s.now + x.n))).drew (w.heap.size + 1) _ _ from (unhide HR).other (by simpa using ncb) _)
  have X5 := (unhide HX).post (w2 := (W.setCell ⟨m.cb, 5, none⟩ (.int .i64 (s.now + x.n))).drew) ((Chg.refl [] _).drew) (by simp) (by omega)
  have o5 := X5.ow (w.heap.size + 1) z3 (crw_at m w.heap.size (by omega))
  clear HX HR cc cf lc x1 lx
  generalize hW5 : (W.setCell ⟨m.cb, 5, none⟩ (.int .i64 (s.now + x.n))).drew = w5 at *
  clear hW5
  obtain ⟨r0, r1, r2, t0, t1, t2⟩ := R5.three
  have l5 := R5.lt
  have HX := hide X5
  have HR := hide R5
  clear X5 R5
  go_wp2
  have R7 := (((unhide HR).set 0 (.int .i64 0)).set 1 (.int .i64 0)).set 2 (.int .i64 0)
  refine bodyPost_ret (v := ansV ⟨0, 0, 0⟩) (ret_ans rfl rfl R7) rfl ?_
  have k7 := (((Chg.refl [w.heap.size + 1] w5).setCell (p := ⟨w.heap.size + 1, 0, none⟩) (by simp) (.int .i64 0)).setCell (p := ⟨w.heap.size + 1, 1, none⟩) (by simp) (.int .i64 0)).setCell (p := ⟨w.heap.size + 1, 2, none⟩) (by simp) (.int .i64 0)
  exact ⟨rfl, _, (Cnx.pre (unhide HK3) (unhide HX)).post k7 (by intro y hy; simp at hy; subst hy; exact ⟨o5, by omega⟩) zw⟩

set_option maxRecDepth 100000 in
set_option maxHeartbeats 4000000 in
theorem cstep_ask2_lo (W0 : World) (m : Cm) (s : Gd) (x : Sp) (w : World) (h : Chp W0 w m s) (k1 : x.k = 2) (hx : x.n < 0) :
    Calls Try.prog 43 #[.pointer (some ⟨m.cb, 0, none⟩), spV x] w fun e w' => e = .returned (ansV ⟨5, 0, 0⟩) ∧ ∃ m', Cnx W0 w m w' m' s := by
  have lg := h.plt.blk.lt
  have zw := h.ch.size
  obtain ⟨c0, c1, c2, c3, c4, c5, -⟩ := h.cells
  obtain ⟨rs, t, pl⟩ := h.pl
  have n0 := pl.n0
  have n1 := pl.n1
  have e0 := pl.e0
  have e1 := pl.e1
  have HPL := hide pl
  have HG := hide h
  clear h pl
  have b1 : (x.k == 1) = false := by simp [k1]
  have b5 : (x.k == 5) = false := by simp [k1]
  have b2 : (x.k == 2) = true := by simp [k1]
  have d0 : decide (x.n < 0) = true := by simp; omega
  have d3 : decide ((3 : Int) ≤ x.n) = false := by simp; omega
  clear k1 hx c0 c1 c2 c3 c4 c5 n0 n1 e0 e1
  unfold spV spC
  go_enter Try.func43, Try.ntmps43
  go_wp2_with fail
  go_quiet (fail)
  go_wp2
  have R0 := show Blk (((w.alloc (.cells #[.int .i64 x.k, .int .i64 x.n, .int .i64 x.keep, .int .i64 x.o.k, .int .i64 x.o.now, .int .i64 x.o.jb, .int .i64 x.o.tr, .int .i64 x.o.wk, .int .i64 x.o.tm] 90)).alloc (.cells #[.int .i64 0, .int .i64 0, .int .i64 0] 56)).drewN nq) (w.heap.size + 1) _ _ from Blk.new1 w (.cells #[.int .i64 x.k, .int .i64 x.n, .int .i64 x.keep, .int .i64 x.o.k, .int .i64 x.o.now, .int .i64 x.o.jb, .int .i64 x.o.tr, .int .i64 x.o.wk, .int .i64 x.o.tm] 90) #[.int .i64 0, .int .i64 0, .int .i64 0] 56
  have R7 := ((R0.set 0 (.int .i64 5)).set 1 (.int .i64 0)).set 2 (.int .i64 0)
  refine bodyPost_ret (v := ansV ⟨5, 0, 0⟩) (ret_ans rfl rfl R7) rfl ?_
  have k7 := ((((((Chg.refl [] w).alloc (.cells #[.int .i64 x.k, .int .i64 x.n, .int .i64 x.keep, .int .i64 x.o.k, .int .i64 x.o.now, .int .i64 x.o.jb, .int .i64 x.o.tr, .int .i64 x.o.wk, .int .i64 x.o.tm] 90)).alloc (.cells #[.int .i64 0, .int .i64 0, .int .i64 0] 56)).drewN nq).setCell (p := ⟨w.heap.size + 1, 0, none⟩) (by simp) (.int .i64 5)).setCell (p := ⟨w.heap.size + 1, 1, none⟩) (by simp) (.int .i64 0)).setCell (p := ⟨w.heap.size + 1, 2, none⟩) (by simp) (.int .i64 0)
  exact ⟨rfl, _, Cnx.pre k7 (Cnx.refl ((unhide HG).fresh k7))⟩

set_option maxRecDepth 100000 in
set_option maxHeartbeats 4000000 in
theorem cstep_ask2_hi (W0 : World) (m : Cm) (s : Gd) (x : Sp) (w : World) (h : Chp W0 w m s) (k1 : x.k = 2) (hx : 3 ≤ x.n) :
    Calls Try.prog 43 #[.pointer (some ⟨m.cb, 0, none⟩), spV x] w fun e w' => e = .returned (ansV ⟨5, 0, 0⟩) ∧ ∃ m', Cnx W0 w m w' m' s := by
  have lg := h.plt.blk.lt
  have zw := h.ch.size
  obtain ⟨c0, c1, c2, c3, c4, c5, -⟩ := h.cells
  obtain ⟨rs, t, pl⟩ := h.pl
  have n0 := pl.n0
  have n1 := pl.n1
  have e0 := pl.e0
  have e1 := pl.e1
  have HPL := hide pl
  have HG := hide h
  clear h pl
  have b1 : (x.k == 1) = false := by simp [k1]
  have b5 : (x.k == 5) = false := by simp [k1]
  have b2 : (x.k == 2) = true := by simp [k1]
  have d0 : decide (x.n < 0) = false := by simp; omega
  have d3 : decide ((3 : Int) ≤ x.n) = true := by simp; omega
  clear k1 hx c0 c1 c2 c3 c4 c5 n0 n1 e0 e1
  unfold spV spC
  go_enter Try.func43, Try.ntmps43
  go_wp2_with fail
  go_quiet (fail)
  go_wp2
  have R0 := show Blk (((w.alloc (.cells #[.int .i64 x.k, .int .i64 x.n, .int .i64 x.keep, .int .i64 x.o.k, .int .i64 x.o.now, .int .i64 x.o.jb, .int .i64 x.o.tr, .int .i64 x.o.wk, .int .i64 x.o.tm] 90)).alloc (.cells #[.int .i64 0, .int .i64 0, .int .i64 0] 56)).drewN nq) (w.heap.size + 1) _ _ from Blk.new1 w (.cells #[.int .i64 x.k, .int .i64 x.n, .int .i64 x.keep, .int .i64 x.o.k, .int .i64 x.o.now, .int .i64 x.o.jb, .int .i64 x.o.tr, .int .i64 x.o.wk, .int .i64 x.o.tm] 90) #[.int .i64 0, .int .i64 0, .int .i64 0] 56
  have R7 := ((R0.set 0 (.int .i64 5)).set 1 (.int .i64 0)).set 2 (.int .i64 0)
  refine bodyPost_ret (v := ansV ⟨5, 0, 0⟩) (ret_ans rfl rfl R7) rfl ?_
  have k7 := ((((((Chg.refl [] w).alloc (.cells #[.int .i64 x.k, .int .i64 x.n, .int .i64 x.keep, .int .i64 x.o.k, .int .i64 x.o.now, .int .i64 x.o.jb, .int .i64 x.o.tr, .int .i64 x.o.wk, .int .i64 x.o.tm] 90)).alloc (.cells #[.int .i64 0, .int .i64 0, .int .i64 0] 56)).drewN nq).setCell (p := ⟨w.heap.size + 1, 0, none⟩) (by simp) (.int .i64 5)).setCell (p := ⟨w.heap.size + 1, 1, none⟩) (by simp) (.int .i64 0)).setCell (p := ⟨w.heap.size + 1, 2, none⟩) (by simp) (.int .i64 0)
  exact ⟨rfl, _, Cnx.pre k7 (Cnx.refl ((unhide HG).fresh k7))⟩

set_option maxRecDepth 100000 in
set_option maxHeartbeats 4000000 in
theorem cstep_ask3_lo (W0 : World) (m : Cm) (s : Gd) (x : Sp) (w : World) (h : Chp W0 w m s) (k1 : x.k = 3) (hx : x.n < 0) :
    Calls Try.prog 43 #[.pointer (some ⟨m.cb, 0, none⟩), spV x] w fun e w' => e = .returned (ansV ⟨5, 0, 0⟩) ∧ ∃ m', Cnx W0 w m w' m' s := by
  have lg := h.plt.blk.lt
  have zw := h.ch.size
  obtain ⟨c0, c1, c2, c3, c4, c5, -⟩ := h.cells
  obtain ⟨rs, t, pl⟩ := h.pl
  have n0 := pl.n0
  have n1 := pl.n1
  have e0 := pl.e0
  have e1 := pl.e1
  have HPL := hide pl
  have HG := hide h
  clear h pl
  have b1 : (x.k == 1) = false := by simp [k1]
  have b5 : (x.k == 5) = false := by simp [k1]
  have b2 : (x.k == 2) = false := by simp [k1]
  have b3 : (x.k == 3) = true := by simp [k1]
  have d0 : decide (x.n < 0) = true := by simp; omega
  have d3 : decide ((3 : Int) ≤ x.n) = false := by simp; omega
  clear k1 hx c0 c1 c2 c3 c4 c5 n0 n1 e0 e1
  unfold spV spC
  go_enter Try.func43, Try.ntmps43
  go_wp2_with fail
  go_quiet (fail)
  go_wp2
  have R0 := show Blk (((w.alloc (.cells #[.int .i64 x.k, .int .i64 x.n, .int .i64 x.keep, .int .i64 x.o.k, .int .i64 x.o.now, .int .i64 x.o.jb, .int .i64 x.o.tr, .int .i64 x.o.wk, .int .i64 x.o.tm] 90)).alloc (.cells #[.int .i64 0, .int .i64 0, .int .i64 0] 56)).drewN nq) (w.heap.size + 1) _ _ from Blk.new1 w (.cells #[.int .i64 x.k, .int .i64 x.n, .int .i64 x.keep, .int .i64 x.o.k, .int .i64 x.o.now, .int .i64 x.o.jb, .int .i64 x.o.tr, .int .i64 x.o.wk, .int .i64 x.o.tm] 90) #[.int .i64 0, .int .i64 0, .int .i64 0] 56
  have R7 := ((R0.set 0 (.int .i64 5)).set 1 (.int .i64 0)).set 2 (.int .i64 0)
  refine bodyPost_ret (v := ansV ⟨5, 0, 0⟩) (ret_ans rfl rfl R7) rfl ?_
  have k7 := ((((((Chg.refl [] w).alloc (.cells #[.int .i64 x.k, .int .i64 x.n, .int .i64 x.keep, .int .i64 x.o.k, .int .i64 x.o.now, .int .i64 x.o.jb, .int .i64 x.o.tr, .int .i64 x.o.wk, .int .i64 x.o.tm] 90)).alloc (.cells #[.int .i64 0, .int .i64 0, .int .i64 0] 56)).drewN nq).setCell (p := ⟨w.heap.size + 1, 0, none⟩) (by simp) (.int .i64 5)).setCell (p := ⟨w.heap.size + 1, 1, none⟩) (by simp) (.int .i64 0)).setCell (p := ⟨w.heap.size + 1, 2, none⟩) (by simp) (.int .i64 0)
  exact ⟨rfl, _, Cnx.pre k7 (Cnx.refl ((unhide HG).fresh k7))⟩

set_option maxRecDepth 100000 in
set_option maxHeartbeats 4000000 in
theorem cstep_ask3_hi (W0 : World) (m : Cm) (s : Gd) (x : Sp) (w : World) (h : Chp W0 w m s) (k1 : x.k = 3) (hx : 3 ≤ x.n) :
    Calls Try.prog 43 #[.pointer (some ⟨m.cb, 0, none⟩), spV x] w fun e w' => e = .returned (ansV ⟨5, 0, 0⟩) ∧ ∃ m', Cnx W0 w m w' m' s := by
  have lg := h.plt.blk.lt
  have zw := h.ch.size
  obtain ⟨c0, c1, c2, c3, c4, c5, -⟩ := h.cells
  obtain ⟨rs, t, pl⟩ := h.pl
  have n0 := pl.n0
  have n1 := pl.n1
  have e0 := pl.e0
  have e1 := pl.e1
  have HPL := hide pl
  have HG := hide h
  clear h pl
  have b1 : (x.k == 1) = false := by simp [k1]
  have b5 : (x.k == 5) = false := by simp [k1]
  have b2 : (x.k == 2) = false := by simp [k1]
  have b3 : (x.k == 3) = true := by simp [k1]
  have d0 : decide (x.n < 0) = false := by simp; omega
  have d3 : decide ((3 : Int) ≤ x.n) = true := by simp; omega
  clear k1 hx c0 c1 c2 c3 c4 c5 n0 n1 e0 e1
  unfold spV spC
  go_enter Try.func43, Try.ntmps43
  go_wp2_with fail
  go_quiet (fail)
  go_wp2
  have R0 := show Blk (((w.alloc (.cells #[.int .i64 x.k, .int .i64 x.n, .int .i64 x.keep, .int .i64 x.o.k, .int .i64 x.o.now, .int .i64 x.o.jb, .int .i64 x.o.tr, .int .i64 x.o.wk, .int .i64 x.o.tm] 90)).alloc (.cells #[.int .i64 0, .int .i64 0, .int .i64 0] 56)).drewN nq) (w.heap.size + 1) _ _ from Blk.new1 w (.cells #[.int .i64 x.k, .int .i64 x.n, .int .i64 x.keep, .int .i64 x.o.k, .int .i64 x.o.now, .int .i64 x.o.jb, .int .i64 x.o.tr, .int .i64 x.o.wk, .int .i64 x.o.tm] 90) #[.int .i64 0, .int .i64 0, .int .i64 0] 56
  have R7 := ((R0.set 0 (.int .i64 5)).set 1 (.int .i64 0)).set 2 (.int .i64 0)
  refine bodyPost_ret (v := ansV ⟨5, 0, 0⟩) (ret_ans rfl rfl R7) rfl ?_
  have k7 := ((((((Chg.refl [] w).alloc (.cells #[.int .i64 x.k, .int .i64 x.n, .int .i64 x.keep, .int .i64 x.o.k, .int .i64 x.o.now, .int .i64 x.o.jb, .int .i64 x.o.tr, .int .i64 x.o.wk, .int .i64 x.o.tm] 90)).alloc (.cells #[.int .i64 0, .int .i64 0, .int .i64 0] 56)).drewN nq).setCell (p := ⟨w.heap.size + 1, 0, none⟩) (by simp) (.int .i64 5)).setCell (p := ⟨w.heap.size + 1, 1, none⟩) (by simp) (.int .i64 0)).setCell (p := ⟨w.heap.size + 1, 2, none⟩) (by simp) (.int .i64 0)
  exact ⟨rfl, _, Cnx.pre k7 (Cnx.refl ((unhide HG).fresh k7))⟩

set_option maxRecDepth 100000 in
set_option maxHeartbeats 4000000 in
theorem cstep_ask4_lo (W0 : World) (m : Cm) (s : Gd) (x : Sp) (w : World) (h : Chp W0 w m s) (k1 : x.k = 4) (hx : x.n < 0) :
    Calls Try.prog 43 #[.pointer (some ⟨m.cb, 0, none⟩), spV x] w fun e w' => e = .returned (ansV ⟨5, 0, 0⟩) ∧ ∃ m', Cnx W0 w m w' m' s := by
  have lg := h.plt.blk.lt
  have zw := h.ch.size
  obtain ⟨c0, c1, c2, c3, c4, c5, -⟩ := h.cells
  obtain ⟨rs, t, pl⟩ := h.pl
  have n0 := pl.n0
  have n1 := pl.n1
  have e0 := pl.e0
  have e1 := pl.e1
  have HPL := hide pl
  have HG := hide h
  clear h pl
  have b1 : (x.k == 1) = false := by simp [k1]
  have b5 : (x.k == 5) = false := by simp [k1]
  have b2 : (x.k == 2) = false := by simp [k1]
  have b3 : (x.k == 3) = false := by simp [k1]
  have b4 : (x.k == 4) = true := by simp [k1]
  have d0 : decide (x.n < 0) = true := by simp; omega
  have d3 : decide ((3 : Int) ≤ x.n) = false := by simp; omega
  clear k1 hx c0 c1 c2 c3 c4 c5 n0 n1 e0 e1
  unfold spV spC
  go_enter Try.func43, Try.ntmps43
  go_wp2_with fail
  go_quiet (fail)
  go_wp2
  have R0 := show Blk (((w.alloc (.cells #[.int .i64 x.k, .int .i64 x.n, .int .i64 x.keep, .int .i64 x.o.k, .int .i64 x.o.now, .int .i64 x.o.jb, .int .i64 x.o.tr, .int .i64 x.o.wk, .int .i64 x.o.tm] 90)).alloc (.cells #[.int .i64 0, .int .i64 0, .int .i64 0] 56)).drewN nq) (w.heap.size + 1) _ _ from Blk.new1 w (.cells #[.int .i64 x.k, .int .i64 x.n, .int .i64 x.keep, .int .i64 x.o.k, .int .i64 x.o.now, .int .i64 x.o.jb, .int .i64 x.o.tr, .int .i64 x.o.wk, .int .i64 x.o.tm] 90) #[.int .i64 0, .int .i64 0, .int .i64 0] 56
  have R7 := ((R0.set 0 (.int .i64 5)).set 1 (.int .i64 0)).set 2 (.int .i64 0)
  refine bodyPost_ret (v := ansV ⟨5, 0, 0⟩) (ret_ans rfl rfl R7) rfl ?_
  have k7 := ((((((Chg.refl [] w).alloc (.cells #[.int .i64 x.k, .int .i64 x.n, .int .i64 x.keep, .int .i64 x.o.k, .int .i64 x.o.now, .int .i64 x.o.jb, .int .i64 x.o.tr, .int .i64 x.o.wk, .int .i64 x.o.tm] 90)).alloc (.cells #[.int .i64 0, .int .i64 0, .int .i64 0] 56)).drewN nq).setCell (p := ⟨w.heap.size + 1, 0, none⟩) (by simp) (.int .i64 5)).setCell (p := ⟨w.heap.size + 1, 1, none⟩) (by simp) (.int .i64 0)).setCell (p := ⟨w.heap.size + 1, 2, none⟩) (by simp) (.int .i64 0)
  exact ⟨rfl, _, Cnx.pre k7 (Cnx.refl ((unhide HG).fresh k7))⟩

set_option maxRecDepth 100000 in
set_option maxHeartbeats 4000000 in
theorem cstep_ask4_hi (W0 : World) (m : Cm) (s : Gd) (x : Sp) (w : World) (h : Chp W0 w m s) (k1 : x.k = 4) (hx : 3 ≤ x.n) :
    Calls Try.prog 43 #[.pointer (some ⟨m.cb, 0, none⟩), spV x] w fun e w' => e = .returned (ansV ⟨5, 0, 0⟩) ∧ ∃ m', Cnx W0 w m w' m' s := by
  have lg := h.plt.blk.lt
  have zw := h.ch.size
  obtain ⟨c0, c1, c2, c3, c4, c5, -⟩ := h.cells
  obtain ⟨rs, t, pl⟩ := h.pl
  have n0 := pl.n0
  have n1 := pl.n1
  have e0 := pl.e0
  have e1 := pl.e1
  have HPL := hide pl
  have HG := hide h
  clear h pl
  have b1 : (x.k == 1) = false := by simp [k1]
  have b5 : (x.k == 5) = false := by simp [k1]
  have b2 : (x.k == 2) = false := by simp [k1]
  have b3 : (x.k == 3) = false := by simp [k1]
  have b4 : (x.k == 4) = true := by simp [k1]
  have d0 : decide (x.n < 0) = false := by simp; omega
  have d3 : decide ((3 : Int) ≤ x.n) = true := by simp; omega
  clear k1 hx c0 c1 c2 c3 c4 c5 n0 n1 e0 e1
  unfold spV spC
  go_enter Try.func43, Try.ntmps43
  go_wp2_with fail
  go_quiet (fail)
  go_wp2
  have R0 := show Blk (((w.alloc (.cells #[.int .i64 x.k, .int .i64 x.n, .int .i64 x.keep, .int .i64 x.o.k, .int .i64 x.o.now, .int .i64 x.o.jb, .int .i64 x.o.tr, .int .i64 x.o.wk, .int .i64 x.o.tm] 90)).alloc (.cells #[.int .i64 0, .int .i64 0, .int .i64 0] 56)).drewN nq) (w.heap.size + 1) _ _ from Blk.new1 w (.cells #[.int .i64 x.k, .int .i64 x.n, .int .i64 x.keep, .int .i64 x.o.k, .int .i64 x.o.now, .int .i64 x.o.jb, .int .i64 x.o.tr, .int .i64 x.o.wk, .int .i64 x.o.tm] 90) #[.int .i64 0, .int .i64 0, .int .i64 0] 56
  have R7 := ((R0.set 0 (.int .i64 5)).set 1 (.int .i64 0)).set 2 (.int .i64 0)
  refine bodyPost_ret (v := ansV ⟨5, 0, 0⟩) (ret_ans rfl rfl R7) rfl ?_
  have k7 := ((((((Chg.refl [] w).alloc (.cells #[.int .i64 x.k, .int .i64 x.n, .int .i64 x.keep, .int .i64 x.o.k, .int .i64 x.o.now, .int .i64 x.o.jb, .int .i64 x.o.tr, .int .i64 x.o.wk, .int .i64 x.o.tm] 90)).alloc (.cells #[.int .i64 0, .int .i64 0, .int .i64 0] 56)).drewN nq).setCell (p := ⟨w.heap.size + 1, 0, none⟩) (by simp) (.int .i64 5)).setCell (p := ⟨w.heap.size + 1, 1, none⟩) (by simp) (.int .i64 0)).setCell (p := ⟨w.heap.size + 1, 2, none⟩) (by simp) (.int .i64 0)
  exact ⟨rfl, _, Cnx.pre k7 (Cnx.refl ((unhide HG).fresh k7))⟩

end Go.Proofs.Ytgcikokfgcpkfab

