/-
 A step of the document's own guild: a node is asked; whatever it is. Nothing here is claimed by itself.
-/
import Derived.Test.YtllnjiljjodfdacGreatDoorQgG6
namespace Go.Proofs.YtllnjiljjodfdacGreatDoor
open Go.RowKit

set_option maxRecDepth 100000 in
set_option maxHeartbeats 4000000 in
theorem cstep_ask2_nil0 (W0 : World) (m : Cm) (s : Gd) (x : Sp) (w : World) (h : Chp W0 w m s) (k1 : x.k = 2) (hx : x.n = 0) (hn : s.ns 0 = none) :
  Calls Tryz.prog 43 #[.pointer (some ⟨m.cb, 0, none⟩), spV x] w fun e w' => e = .returned (ansV ⟨5, 0, 0⟩) ∧ ∃ m', Cnx W0 w m w' m' s := by
 have lg := h.plt.blk.lt
 have zw := h.ch.size
 obtain ⟨c0, c1, c2, c3, c4, c5, -⟩ := h.cells
 obtain ⟨rs, t, pl⟩ := h.pl
 have n0 := pl.n0
 have n1 := pl.n1
 have e0 := pl.e0
 have e1 := pl.e1
 have HPL := hide pl
 have HG := hide h
 clear h pl
 obtain ⟨xk, xn, xkeep, xo⟩ := x
 dsimp only at k1 hx ⊢
 subst hx
 have b1 : (xk == 1) = false := by simp [k1]
 have b5 : (xk == 5) = false := by simp [k1]
 have b2 : (xk == 2) = true := by simp [k1]
 rw [hn] at c2
 have cc : w.cell? ⟨m.cb, 2, none⟩ = some (.pointer none) := c2
 clear k1 c0 c1 c2 c3 c4 c5 n0 n1 e0 e1 hn
 unfold spV spC
 dsimp only
 go_enter Tryz.func43, Tryz.ntmps43
 go_wp2_with fail
 go_quiet (fail)
 go_wp2
 have R0 := show Blk (((w.alloc (.cells #[.int .i64 xk, .int .i64 0, .int .i64 xkeep, .int .i64 xo.k, .int .i64 xo.now, .int .i64 xo.jb, .int .i64 xo.tr, .int .i64 xo.wk, .int .i64 xo.tm] 85)).alloc (.cells #[.int .i64 0, .int .i64 0, .int .i64 0] 95)).drewN nq) (w.heap.size + 1) _ _ from Blk.new1 w (.cells #[.int .i64 xk, .int .i64 0, .int .i64 xkeep, .int .i64 xo.k, .int .i64 xo.now, .int .i64 xo.jb, .int .i64 xo.tr, .int .i64 xo.wk, .int .i64 xo.tm] 85) #[.int .i64 0, .int .i64 0, .int .i64 0] 95
 have R7 := ((R0.set 0 (.int .i64 5)).set 1 (.int .i64 0)).set 2 (.int .i64 0)
 refine bodyPost_ret (v := ansV ⟨5, 0, 0⟩) (ret_ans rfl rfl R7) rfl ?_
 have k7 := ((((((Chg.refl [] w).alloc (.cells #[.int .i64 xk, .int .i64 0, .int .i64 xkeep, .int .i64 xo.k, .int .i64 xo.now, .int .i64 xo.jb, .int .i64 xo.tr, .int .i64 xo.wk, .int .i64 xo.tm] 85)).alloc (.cells #[.int .i64 0, .int .i64 0, .int .i64 0] 95)).drewN nq).setCell (p := ⟨w.heap.size + 1, 0, none⟩) (by simp) (.int .i64 5)).setCell (p := ⟨w.heap.size + 1, 1, none⟩) (by simp) (.int .i64 0)).setCell (p := ⟨w.heap.size + 1, 2, none⟩) (by simp) (.int .i64 0)
 exact ⟨rfl, _, Cnx.pre k7 (Cnx.refl ((unhide HG).fresh k7))⟩
set_option maxRecDepth 100000 in
set_option maxHeartbeats 4000000 in
theorem cstep_ask2_some0 (W0 : World) (m : Cm) (s : Gd) (x : Sp) (w : World) (h : Chp W0 w m s) (n : Nd) (k1 : x.k = 2) (hx : x.n = 0) (hn : s.ns 0 = some n) :
  Calls Tryz.prog 43 #[.pointer (some ⟨m.cb, 0, none⟩), spV x] w fun e w' => e = .returned (ansV (ordA s.d n (atO x.o s.now))) ∧ ∃ m', Cnx W0 w m w' m' ⟨s.now, wrD s.d n (atO x.o s.now) 9, upG s.ns 0 (ordN s.d n (atO x.o s.now))⟩ := by
 have lg := h.plt.blk.lt
 have zw := h.ch.size
 obtain ⟨c0, c1, c2, c3, c4, c5, -⟩ := h.cells
 obtain ⟨rs, t, pl⟩ := h.pl
 have n0 := pl.n0
 have n1 := pl.n1
 have e0 := pl.e0
 have e1 := pl.e1
 have HPL := hide pl
 have HG := hide h
 clear h pl
 have PLX : Hid (∃ rs t, PlG ⟨s.now, wrD s.d n (atO x.o s.now) 9, upG s.ns 0 (ordN s.d n (atO x.o s.now))⟩ rs t) := hide (by
  obtain ⟨rs', t', pl', -⟩ := (unhide HPL).step x
  have e : stepG s x = askG s x 0 n := by
   unfold stepG
   rw [if_neg (by omega), if_neg (by omega), if_pos (by omega)]
   have e2 : nodeG s x.n = some n := by rw [hx]; exact hn
   unfold orderG
   rw [e2, hx]
   rfl
  rw [e] at pl'
  unfold askG at pl'
  rw [if_pos k1] at pl'
  exact ⟨rs', t', pl'⟩)
 obtain ⟨p1, p2, p3⟩ := (unhide HG).pos (by decide) hn
 have HI := hide p3
 have hov := (unhide HG).ov 0 n (by decide) hn
 have hbp : Hid (m.vb 0 ∉ fp m.cb m.u) := hide (fun hf => by have := (unhide HG).op _ hf; rw [hov] at this; omega)
 have HNS := hide hn
 rw [hn] at c2
 have cc : w.cell? ⟨m.cb, 2, none⟩ = some (.pointer (some ⟨m.vb 0, 0, none⟩)) := c2
 have cn := c5
 clear p3 hov hn
 obtain ⟨xk, xn, xkeep, xo⟩ := x
 dsimp only at k1 hx ⊢
 subst hx
 have b1 : (xk == 1) = false := by simp [k1]
 have b5 : (xk == 5) = false := by simp [k1]
 have b2 : (xk == 2) = true := by simp [k1]
 clear k1 c0 c1 c2 c3 c4 c5 n0 n1 e0 e1
 unfold spV spC
 dsimp only
 go_enter Tryz.func43, Tryz.ntmps43
 go_wp2_with fail
 go_quiet (fail)
 have k : Chg [] w (((w.alloc (.cells #[.int .i64 xk, .int .i64 0, .int .i64 xkeep, .int .i64 xo.k, .int .i64 xo.now, .int .i64 xo.jb, .int .i64 xo.tr, .int .i64 xo.wk, .int .i64 xo.tm] 85)).alloc (.cells #[.int .i64 0, .int .i64 0, .int .i64 0] 95)).drewN nq) := (((Chg.refl [] w).alloc _).alloc _).drewN nq
 have h3 := (unhide HG).fresh k
 have R3 := show Blk (((w.alloc (.cells #[.int .i64 xk, .int .i64 0, .int .i64 xkeep, .int .i64 xo.k, .int .i64 xo.now, .int .i64 xo.jb, .int .i64 xo.tr, .int .i64 xo.wk, .int .i64 xo.tm] 85)).alloc (.cells #[.int .i64 0, .int .i64 0, .int .i64 0] 95)).drewN nq) (w.heap.size + 1) _ _ from Blk.new1 w (.cells #[.int .i64 xk, .int .i64 0, .int .i64 xkeep, .int .i64 xo.k, .int .i64 xo.now, .int .i64 xo.jb, .int .i64 xo.tr, .int .i64 xo.wk, .int .i64 xo.tm] 85) #[.int .i64 0, .int .i64 0, .int .i64 0] 95
 have BX := show Blk (((w.alloc (.cells #[.int .i64 xk, .int .i64 0, .int .i64 xkeep, .int .i64 xo.k, .int .i64 xo.now, .int .i64 xo.jb, .int .i64 xo.tr, .int .i64 xo.wk, .int .i64 xo.tm] 85)).alloc (.cells #[.int .i64 0, .int .i64 0, .int .i64 0] 95)).drewN nq) w.heap.size _ _ from (Blk.new w #[.int .i64 xk, .int .i64 0, .int .i64 xkeep, .int .i64 xo.k, .int .i64 xo.now, .int .i64 xo.jb, .int .i64 xo.tr, .int .i64 xo.wk, .int .i64 xo.tm] 85).alloc (.cells #[.int .i64 0, .int .i64 0, .int .i64 0] 95)
 clear cc cn
 generalize hW : World.drewN _ nq = W at *
 clear hW nq
 have x1 : W.cell? ⟨w.heap.size, 1, none⟩ = some (.int .i64 0) := BX.cell 1
 have lx := BX.lt
 have cc : W.cell? ⟨m.cb, 2, none⟩ = some (.pointer (some ⟨m.vb 0, 0, none⟩)) := by
  have hq := h3.cells.2.2.1
  rw [unhide HNS] at hq
  exact hq
 have lc := h3.plt.blk.lt
 have H3 := hide h3
 have HR3 := hide R3
 have HBX := hide BX
 have HK := hide k
 clear h3 R3 BX k
 go_wp2_with fail
 go_quiet (fail)
 have k := (unhide HK).drewN nq
 have h3 := (unhide HG).fresh k
 have R3 := show Blk (W.drewN nq) (w.heap.size + 1) _ _ from unhide HR3
 have BX := show Blk (W.drewN nq) w.heap.size _ _ from unhide HBX
 clear H3 HR3 HBX HK x1 lx cc lc
 generalize hW : World.drewN _ nq = W1 at *
 clear hW nq
 obtain ⟨x0, x1, x2, x3, x4, x5, x6, x7, x8⟩ : W1.cell? ⟨w.heap.size, 0, none⟩ = some (.int .i64 xk) ∧ W1.cell? ⟨w.heap.size, 1, none⟩ = some (.int .i64 0) ∧ W1.cell? ⟨w.heap.size, 2, none⟩ = some (.int .i64 xkeep) ∧ W1.cell? ⟨w.heap.size, 3, none⟩ = some (.int .i64 xo.k) ∧ W1.cell? ⟨w.heap.size, 4, none⟩ = some (.int .i64 xo.now) ∧ W1.cell? ⟨w.heap.size, 5, none⟩ = some (.int .i64 xo.jb) ∧ W1.cell? ⟨w.heap.size, 6, none⟩ = some (.int .i64 xo.tr) ∧ W1.cell? ⟨w.heap.size, 7, none⟩ = some (.int .i64 xo.wk) ∧ W1.cell? ⟨w.heap.size, 8, none⟩ = some (.int .i64 xo.tm) := ⟨BX.cell 0, BX.cell 1, BX.cell 2, BX.cell 3, BX.cell 4, BX.cell 5, BX.cell 6, BX.cell 7, BX.cell 8⟩
 have lx := BX.lt
 have fx := BX.fz 4
 have cn : W1.cell? ⟨m.cb, 5, none⟩ = some (.int .i64 s.now) := h3.cells.2.2.2.2.2.1
 have lc := h3.plt.blk.lt
 have ncx : m.cb ≠ w.heap.size := by omega
 have z1 := R3.lt
 have k2 := k.setCell (p := ⟨w.heap.size, 4, none⟩) (by simp) (.int .i64 s.now)
 have h4 := (unhide HG).fresh k2
 have R4 := R3.other (p := ⟨w.heap.size, 4, none⟩) (by simp) (.int .i64 s.now)
 have H4 := hide h4
 have HR4 := hide R4
 have HK3 := hide k2
 have zz : (W1.setCell ⟨w.heap.size, 4, none⟩ (.int .i64 s.now)).heap.size = W1.heap.size := by simp
 clear h3 R3 BX k k2 h4 R4
 go_wp2_with fail
 clear x0 x1 x2 x3 x4 x5 x6 x7 x8 lx fx cn lc
 generalize hW : W1.setCell ⟨w.heap.size, 4, none⟩ (.int .i64 s.now) = W2 at *
 clear hW
 refine (vord_all (m.vb 0) m.cb n s.d m.u (atO xo s.now) W2 ((unhide H4).vgr 0 n (by decide) (unhide HNS)) (unhide H4).plt (unhide hbp) (unhide HI) p1 p2).mono ?_
 rintro e w5 ⟨rfl, u5, V5, P5, g5, nx5⟩
 have X5 := (unhide H4).verOp (i := 0) (d' := wrD s.d n (atO xo s.now) 9) (by decide) (unhide HNS) rfl V5 P5 g5 nx5 (unhide PLX)
 have R5 := X5.blk (unhide HR4) (crw_at m w.heap.size (by omega))
 have o5 := X5.ow (w.heap.size + 1) (by omega) (crw_at m w.heap.size (by omega))
 clear V5 P5 g5 nx5 H4 HR4
 obtain ⟨r0, r1, r2, t0, t1, t2⟩ := R5.three
 have l5 := R5.lt
 have HX := hide X5
 have HR := hide R5
 clear X5 R5
 unfold ansV
 go_wp2
 have R7 := (((unhide HR).set 0 (.int .i64 (ordA s.d n (atO xo s.now)).code)).set 1 (.int .i64 (ordA s.d n (atO xo s.now)).jb)).set 2 (.int .i64 (ordA s.d n (atO xo s.now)).tr)
 refine bodyPost_ret (v := ansV (ordA s.d n (atO xo s.now))) (ret_ans rfl rfl R7) rfl ?_
 have k7 := (((Chg.refl [w.heap.size + 1] w5).setCell (p := ⟨w.heap.size + 1, 0, none⟩) (by simp) (.int .i64 (ordA s.d n (atO xo s.now)).code)).setCell (p := ⟨w.heap.size + 1, 1, none⟩) (by simp) (.int .i64 (ordA s.d n (atO xo s.now)).jb)).setCell (p := ⟨w.heap.size + 1, 2, none⟩) (by simp) (.int .i64 (ordA s.d n (atO xo s.now)).tr)
 exact ⟨rfl, _, (Cnx.pre (unhide HK3) (unhide HX)).post k7 (by intro y hy; simp at hy; subst hy; exact ⟨o5, by omega⟩) zw⟩
set_option maxRecDepth 100000 in
set_option maxHeartbeats 4000000 in
theorem cstep_ask2_nil1 (W0 : World) (m : Cm) (s : Gd) (x : Sp) (w : World) (h : Chp W0 w m s) (k1 : x.k = 2) (hx : x.n = 1) (hn : s.ns 1 = none) :
  Calls Tryz.prog 43 #[.pointer (some ⟨m.cb, 0, none⟩), spV x] w fun e w' => e = .returned (ansV ⟨5, 0, 0⟩) ∧ ∃ m', Cnx W0 w m w' m' s := by
 have lg := h.plt.blk.lt
 have zw := h.ch.size
 obtain ⟨c0, c1, c2, c3, c4, c5, -⟩ := h.cells
 obtain ⟨rs, t, pl⟩ := h.pl
 have n0 := pl.n0
 have n1 := pl.n1
 have e0 := pl.e0
 have e1 := pl.e1
 have HPL := hide pl
 have HG := hide h
 clear h pl
 obtain ⟨xk, xn, xkeep, xo⟩ := x
 dsimp only at k1 hx ⊢
 subst hx
 have b1 : (xk == 1) = false := by simp [k1]
 have b5 : (xk == 5) = false := by simp [k1]
 have b2 : (xk == 2) = true := by simp [k1]
 rw [hn] at c3
 have cc : w.cell? ⟨m.cb, 3, none⟩ = some (.pointer none) := c3
 clear k1 c0 c1 c2 c3 c4 c5 n0 n1 e0 e1 hn
 unfold spV spC
 dsimp only
 go_enter Tryz.func43, Tryz.ntmps43
 go_wp2_with fail
 go_quiet (fail)
 go_wp2
 have R0 := show Blk (((w.alloc (.cells #[.int .i64 xk, .int .i64 1, .int .i64 xkeep, .int .i64 xo.k, .int .i64 xo.now, .int .i64 xo.jb, .int .i64 xo.tr, .int .i64 xo.wk, .int .i64 xo.tm] 85)).alloc (.cells #[.int .i64 0, .int .i64 0, .int .i64 0] 95)).drewN nq) (w.heap.size + 1) _ _ from Blk.new1 w (.cells #[.int .i64 xk, .int .i64 1, .int .i64 xkeep, .int .i64 xo.k, .int .i64 xo.now, .int .i64 xo.jb, .int .i64 xo.tr, .int .i64 xo.wk, .int .i64 xo.tm] 85) #[.int .i64 0, .int .i64 0, .int .i64 0] 95
 have R7 := ((R0.set 0 (.int .i64 5)).set 1 (.int .i64 0)).set 2 (.int .i64 0)
 refine bodyPost_ret (v := ansV ⟨5, 0, 0⟩) (ret_ans rfl rfl R7) rfl ?_
 have k7 := ((((((Chg.refl [] w).alloc (.cells #[.int .i64 xk, .int .i64 1, .int .i64 xkeep, .int .i64 xo.k, .int .i64 xo.now, .int .i64 xo.jb, .int .i64 xo.tr, .int .i64 xo.wk, .int .i64 xo.tm] 85)).alloc (.cells #[.int .i64 0, .int .i64 0, .int .i64 0] 95)).drewN nq).setCell (p := ⟨w.heap.size + 1, 0, none⟩) (by simp) (.int .i64 5)).setCell (p := ⟨w.heap.size + 1, 1, none⟩) (by simp) (.int .i64 0)).setCell (p := ⟨w.heap.size + 1, 2, none⟩) (by simp) (.int .i64 0)
 exact ⟨rfl, _, Cnx.pre k7 (Cnx.refl ((unhide HG).fresh k7))⟩
set_option maxRecDepth 100000 in
set_option maxHeartbeats 4000000 in
theorem cstep_ask2_some1 (W0 : World) (m : Cm) (s : Gd) (x : Sp) (w : World) (h : Chp W0 w m s) (n : Nd) (k1 : x.k = 2) (hx : x.n = 1) (hn : s.ns 1 = some n) :
  Calls Tryz.prog 43 #[.pointer (some ⟨m.cb, 0, none⟩), spV x] w fun e w' => e = .returned (ansV (ordA s.d n (atO x.o s.now))) ∧ ∃ m', Cnx W0 w m w' m' ⟨s.now, wrD s.d n (atO x.o s.now) 9, upG s.ns 1 (ordN s.d n (atO x.o s.now))⟩ := by
 have lg := h.plt.blk.lt
 have zw := h.ch.size
 obtain ⟨c0, c1, c2, c3, c4, c5, -⟩ := h.cells
 obtain ⟨rs, t, pl⟩ := h.pl
 have n0 := pl.n0
 have n1 := pl.n1
 have e0 := pl.e0
 have e1 := pl.e1
 have HPL := hide pl
 have HG := hide h
 clear h pl
 have PLX : Hid (∃ rs t, PlG ⟨s.now, wrD s.d n (atO x.o s.now) 9, upG s.ns 1 (ordN s.d n (atO x.o s.now))⟩ rs t) := hide (by
  obtain ⟨rs', t', pl', -⟩ := (unhide HPL).step x
  have e : stepG s x = askG s x 1 n := by
   unfold stepG
   rw [if_neg (by omega), if_neg (by omega), if_pos (by omega)]
   have e2 : nodeG s x.n = some n := by rw [hx]; exact hn
   unfold orderG
   rw [e2, hx]
   rfl
  rw [e] at pl'
  unfold askG at pl'
  rw [if_pos k1] at pl'
  exact ⟨rs', t', pl'⟩)
 obtain ⟨p1, p2, p3⟩ := (unhide HG).pos (by decide) hn
 have HI := hide p3
 have hov := (unhide HG).ov 1 n (by decide) hn
 have hbp : Hid (m.vb 1 ∉ fp m.cb m.u) := hide (fun hf => by have := (unhide HG).op _ hf; rw [hov] at this; omega)
 have HNS := hide hn
 rw [hn] at c3
 have cc : w.cell? ⟨m.cb, 3, none⟩ = some (.pointer (some ⟨m.vb 1, 0, none⟩)) := c3
 have cn := c5
 clear p3 hov hn
 obtain ⟨xk, xn, xkeep, xo⟩ := x
 dsimp only at k1 hx ⊢
 subst hx
 have b1 : (xk == 1) = false := by simp [k1]
 have b5 : (xk == 5) = false := by simp [k1]
 have b2 : (xk == 2) = true := by simp [k1]
 clear k1 c0 c1 c2 c3 c4 c5 n0 n1 e0 e1
 unfold spV spC
 dsimp only
 go_enter Tryz.func43, Tryz.ntmps43
 go_wp2_with fail
 go_quiet (fail)
 have k : Chg [] w (((w.alloc (.cells #[.int .i64 xk, .int .i64 1, .int .i64 xkeep, .int .i64 xo.k, .int .i64 xo.now, .int .i64 xo.jb, .int .i64 xo.tr, .int .i64 xo.wk, .int .i64 xo.tm] 85)).alloc (.cells #[.int .i64 0, .int .i64 0, .int .i64 0] 95)).drewN nq) := (((Chg.refl [] w).alloc _).alloc _).drewN nq
 have h3 := (unhide HG).fresh k
 have R3 := show Blk (((w.alloc (.cells #[.int .i64 xk, .int .i64 1, .int .i64 xkeep, .int .i64 xo.k, .int .i64 xo.now, .int .i64 xo.jb, .int .i64 xo.tr, .int .i64 xo.wk, .int .i64 xo.tm] 85)).alloc (.cells #[.int .i64 0, .int .i64 0, .int .i64 0] 95)).drewN nq) (w.heap.size + 1) _ _ from Blk.new1 w (.cells #[.int .i64 xk, .int .i64 1, .int .i64 xkeep, .int .i64 xo.k, .int .i64 xo.now, .int .i64 xo.jb, .int .i64 xo.tr, .int .i64 xo.wk, .int .i64 xo.tm] 85) #[.int .i64 0, .int .i64 0, .int .i64 0] 95
 have BX := show Blk (((w.alloc (.cells #[.int .i64 xk, .int .i64 1, .int .i64 xkeep, .int .i64 xo.k, .int .i64 xo.now, .int .i64 xo.jb, .int .i64 xo.tr, .int .i64 xo.wk, .int .i64 xo.tm] 85)).alloc (.cells #[.int .i64 0, .int .i64 0, .int .i64 0] 95)).drewN nq) w.heap.size _ _ from (Blk.new w #[.int .i64 xk, .int .i64 1, .int .i64 xkeep, .int .i64 xo.k, .int .i64 xo.now, .int .i64 xo.jb, .int .i64 xo.tr, .int .i64 xo.wk, .int .i64 xo.tm] 85).alloc (.cells #[.int .i64 0, .int .i64 0, .int .i64 0] 95)
 clear cc cn
 generalize hW : World.drewN _ nq = W at *
 clear hW nq
 have x1 : W.cell? ⟨w.heap.size, 1, none⟩ = some (.int .i64 1) := BX.cell 1
 have lx := BX.lt
 have cc : W.cell? ⟨m.cb, 3, none⟩ = some (.pointer (some ⟨m.vb 1, 0, none⟩)) := by
  have hq := h3.cells.2.2.2.1
  rw [unhide HNS] at hq
  exact hq
 have lc := h3.plt.blk.lt
 have H3 := hide h3
 have HR3 := hide R3
 have HBX := hide BX
 have HK := hide k
 clear h3 R3 BX k
 go_wp2_with fail
 go_quiet (fail)
 have k := (unhide HK).drewN nq
 have h3 := (unhide HG).fresh k
 have R3 := show Blk (W.drewN nq) (w.heap.size + 1) _ _ from unhide HR3
 have BX := show Blk (W.drewN nq) w.heap.size _ _ from unhide HBX
 clear H3 HR3 HBX HK x1 lx cc lc
 generalize hW : World.drewN _ nq = W1 at *
 clear hW nq
 obtain ⟨x0, x1, x2, x3, x4, x5, x6, x7, x8⟩ : W1.cell? ⟨w.heap.size, 0, none⟩ = some (.int .i64 xk) ∧ W1.cell? ⟨w.heap.size, 1, none⟩ = some (.int .i64 1) ∧ W1.cell? ⟨w.heap.size, 2, none⟩ = some (.int .i64 xkeep) ∧ W1.cell? ⟨w.heap.size, 3, none⟩ = some (.int .i64 xo.k) ∧ W1.cell? ⟨w.heap.size, 4, none⟩ = some (.int .i64 xo.now) ∧ W1.cell? ⟨w.heap.size, 5, none⟩ = some (.int .i64 xo.jb) ∧ W1.cell? ⟨w.heap.size, 6, none⟩ = some (.int .i64 xo.tr) ∧ W1.cell? ⟨w.heap.size, 7, none⟩ = some (.int .i64 xo.wk) ∧ W1.cell? ⟨w.heap.size, 8, none⟩ = some (.int .i64 xo.tm) := ⟨BX.cell 0, BX.cell 1, BX.cell 2, BX.cell 3, BX.cell 4, BX.cell 5, BX.cell 6, BX.cell 7, BX.cell 8⟩
 have lx := BX.lt
 have fx := BX.fz 4
 have cn : W1.cell? ⟨m.cb, 5, none⟩ = some (.int .i64 s.now) := h3.cells.2.2.2.2.2.1
 have lc := h3.plt.blk.lt
 have ncx : m.cb ≠ w.heap.size := by omega
 have z1 := R3.lt
 have k2 := k.setCell (p := ⟨w.heap.size, 4, none⟩) (by simp) (.int .i64 s.now)
 have h4 := (unhide HG).fresh k2
 have R4 := R3.other (p := ⟨w.heap.size, 4, none⟩) (by simp) (.int .i64 s.now)
 have H4 := hide h4
 have HR4 := hide R4
 have HK3 := hide k2
 have zz : (W1.setCell ⟨w.heap.size, 4, none⟩ (.int .i64 s.now)).heap.size = W1.heap.size := by simp
 clear h3 R3 BX k k2 h4 R4
 go_wp2_with fail
 clear x0 x1 x2 x3 x4 x5 x6 x7 x8 lx fx cn lc
 generalize hW : W1.setCell ⟨w.heap.size, 4, none⟩ (.int .i64 s.now) = W2 at *
 clear hW
 refine (vord_all (m.vb 1) m.cb n s.d m.u (atO xo s.now) W2 ((unhide H4).vgr 1 n (by decide) (unhide HNS)) (unhide H4).plt (unhide hbp) (unhide HI) p1 p2).mono ?_
 rintro e w5 ⟨rfl, u5, V5, P5, g5, nx5⟩
 have X5 := (unhide H4).verOp (i := 1) (d' := wrD s.d n (atO xo s.now) 9) (by decide) (unhide HNS) rfl V5 P5 g5 nx5 (unhide PLX)
 have R5 := X5.blk (unhide HR4) (crw_at m w.heap.size (by omega))
 have o5 := X5.ow (w.heap.size + 1) (by omega) (crw_at m w.heap.size (by omega))
 clear V5 P5 g5 nx5 H4 HR4
 obtain ⟨r0, r1, r2, t0, t1, t2⟩ := R5.three
 have l5 := R5.lt
 have HX := hide X5
 have HR := hide R5
 clear X5 R5
 unfold ansV
 go_wp2
 have R7 := (((unhide HR).set 0 (.int .i64 (ordA s.d n (atO xo s.now)).code)).set 1 (.int .i64 (ordA s.d n (atO xo s.now)).jb)).set 2 (.int .i64 (ordA s.d n (atO xo s.now)).tr)
 refine bodyPost_ret (v := ansV (ordA s.d n (atO xo s.now))) (ret_ans rfl rfl R7) rfl ?_
 have k7 := (((Chg.refl [w.heap.size + 1] w5).setCell (p := ⟨w.heap.size + 1, 0, none⟩) (by simp) (.int .i64 (ordA s.d n (atO xo s.now)).code)).setCell (p := ⟨w.heap.size + 1, 1, none⟩) (by simp) (.int .i64 (ordA s.d n (atO xo s.now)).jb)).setCell (p := ⟨w.heap.size + 1, 2, none⟩) (by simp) (.int .i64 (ordA s.d n (atO xo s.now)).tr)
 exact ⟨rfl, _, (Cnx.pre (unhide HK3) (unhide HX)).post k7 (by intro y hy; simp at hy; subst hy; exact ⟨o5, by omega⟩) zw⟩
set_option maxRecDepth 100000 in
set_option maxHeartbeats 4000000 in
theorem cstep_ask2_nil2 (W0 : World) (m : Cm) (s : Gd) (x : Sp) (w : World) (h : Chp W0 w m s) (k1 : x.k = 2) (hx : x.n = 2) (hn : s.ns 2 = none) :
  Calls Tryz.prog 43 #[.pointer (some ⟨m.cb, 0, none⟩), spV x] w fun e w' => e = .returned (ansV ⟨5, 0, 0⟩) ∧ ∃ m', Cnx W0 w m w' m' s := by
 have lg := h.plt.blk.lt
 have zw := h.ch.size
 obtain ⟨c0, c1, c2, c3, c4, c5, -⟩ := h.cells
 obtain ⟨rs, t, pl⟩ := h.pl
 have n0 := pl.n0
 have n1 := pl.n1
 have e0 := pl.e0
 have e1 := pl.e1
 have HPL := hide pl
 have HG := hide h
 clear h pl
 obtain ⟨xk, xn, xkeep, xo⟩ := x
 dsimp only at k1 hx ⊢
 subst hx
 have b1 : (xk == 1) = false := by simp [k1]
 have b5 : (xk == 5) = false := by simp [k1]
 have b2 : (xk == 2) = true := by simp [k1]
 rw [hn] at c4
 have cc : w.cell? ⟨m.cb, 4, none⟩ = some (.pointer none) := c4
 clear k1 c0 c1 c2 c3 c4 c5 n0 n1 e0 e1 hn
 unfold spV spC
 dsimp only
 go_enter Tryz.func43, Tryz.ntmps43
 go_wp2_with fail
 go_quiet (fail)
 go_wp2
 have R0 := show Blk (((w.alloc (.cells #[.int .i64 xk, .int .i64 2, .int .i64 xkeep, .int .i64 xo.k, .int .i64 xo.now, .int .i64 xo.jb, .int .i64 xo.tr, .int .i64 xo.wk, .int .i64 xo.tm] 85)).alloc (.cells #[.int .i64 0, .int .i64 0, .int .i64 0] 95)).drewN nq) (w.heap.size + 1) _ _ from Blk.new1 w (.cells #[.int .i64 xk, .int .i64 2, .int .i64 xkeep, .int .i64 xo.k, .int .i64 xo.now, .int .i64 xo.jb, .int .i64 xo.tr, .int .i64 xo.wk, .int .i64 xo.tm] 85) #[.int .i64 0, .int .i64 0, .int .i64 0] 95
 have R7 := ((R0.set 0 (.int .i64 5)).set 1 (.int .i64 0)).set 2 (.int .i64 0)
 refine bodyPost_ret (v := ansV ⟨5, 0, 0⟩) (ret_ans rfl rfl R7) rfl ?_
 have k7 := ((((((Chg.refl [] w).alloc (.cells #[.int .i64 xk, .int .i64 2, .int .i64 xkeep, .int .i64 xo.k, .int .i64 xo.now, .int .i64 xo.jb, .int .i64 xo.tr, .int .i64 xo.wk, .int .i64 xo.tm] 85)).alloc (.cells #[.int .i64 0, .int .i64 0, .int .i64 0] 95)).drewN nq).setCell (p := ⟨w.heap.size + 1, 0, none⟩) (by simp) (.int .i64 5)).setCell (p := ⟨w.heap.size + 1, 1, none⟩) (by simp) (.int .i64 0)).setCell (p := ⟨w.heap.size + 1, 2, none⟩) (by simp) (.int .i64 0)
 exact ⟨rfl, _, Cnx.pre k7 (Cnx.refl ((unhide HG).fresh k7))⟩
set_option maxRecDepth 100000 in
set_option maxHeartbeats 4000000 in
theorem cstep_ask2_some2 (W0 : World) (m : Cm) (s : Gd) (x : Sp) (w : World) (h : Chp W0 w m s) (n : Nd) (k1 : x.k = 2) (hx : x.n = 2) (hn : s.ns 2 = some n) :
  Calls Tryz.prog 43 #[.pointer (some ⟨m.cb, 0, none⟩), spV x] w fun e w' => e = .returned (ansV (ordA s.d n (atO x.o s.now))) ∧ ∃ m', Cnx W0 w m w' m' ⟨s.now, wrD s.d n (atO x.o s.now) 9, upG s.ns 2 (ordN s.d n (atO x.o s.now))⟩ := by
 have lg := h.plt.blk.lt
 have zw := h.ch.size
 obtain ⟨c0, c1, c2, c3, c4, c5, -⟩ := h.cells
 obtain ⟨rs, t, pl⟩ := h.pl
 have n0 := pl.n0
 have n1 := pl.n1
 have e0 := pl.e0
 have e1 := pl.e1
 have HPL := hide pl
 have HG := hide h
 clear h pl
 have PLX : Hid (∃ rs t, PlG ⟨s.now, wrD s.d n (atO x.o s.now) 9, upG s.ns 2 (ordN s.d n (atO x.o s.now))⟩ rs t) := hide (by
  obtain ⟨rs', t', pl', -⟩ := (unhide HPL).step x
  have e : stepG s x = askG s x 2 n := by
   unfold stepG
   rw [if_neg (by omega), if_neg (by omega), if_pos (by omega)]
   have e2 : nodeG s x.n = some n := by rw [hx]; exact hn
   unfold orderG
   rw [e2, hx]
   rfl
  rw [e] at pl'
  unfold askG at pl'
  rw [if_pos k1] at pl'
  exact ⟨rs', t', pl'⟩)
 obtain ⟨p1, p2, p3⟩ := (unhide HG).pos (by decide) hn
 have HI := hide p3
 have hov := (unhide HG).ov 2 n (by decide) hn
 have hbp : Hid (m.vb 2 ∉ fp m.cb m.u) := hide (fun hf => by have := (unhide HG).op _ hf; rw [hov] at this; omega)
 have HNS := hide hn
 rw [hn] at c4
 have cc : w.cell? ⟨m.cb, 4, none⟩ = some (.pointer (some ⟨m.vb 2, 0, none⟩)) := c4
 have cn := c5
 clear p3 hov hn
 obtain ⟨xk, xn, xkeep, xo⟩ := x
 dsimp only at k1 hx ⊢
 subst hx
 have b1 : (xk == 1) = false := by simp [k1]
 have b5 : (xk == 5) = false := by simp [k1]
 have b2 : (xk == 2) = true := by simp [k1]
 clear k1 c0 c1 c2 c3 c4 c5 n0 n1 e0 e1
 unfold spV spC
 dsimp only
 go_enter Tryz.func43, Tryz.ntmps43
 go_wp2_with fail
 go_quiet (fail)
 have k : Chg [] w (((w.alloc (.cells #[.int .i64 xk, .int .i64 2, .int .i64 xkeep, .int .i64 xo.k, .int .i64 xo.now, .int .i64 xo.jb, .int .i64 xo.tr, .int .i64 xo.wk, .int .i64 xo.tm] 85)).alloc (.cells #[.int .i64 0, .int .i64 0, .int .i64 0] 95)).drewN nq) := (((Chg.refl [] w).alloc _).alloc _).drewN nq
 have h3 := (unhide HG).fresh k
 have R3 := show Blk (((w.alloc (.cells #[.int .i64 xk, .int .i64 2, .int .i64 xkeep, .int .i64 xo.k, .int .i64 xo.now, .int .i64 xo.jb, .int .i64 xo.tr, .int .i64 xo.wk, .int .i64 xo.tm] 85)).alloc (.cells #[.int .i64 0, .int .i64 0, .int .i64 0] 95)).drewN nq) (w.heap.size + 1) _ _ from Blk.new1 w (.cells #[.int .i64 xk, .int .i64 2, .int .i64 xkeep, .int .i64 xo.k, .int .i64 xo.now, .int .i64 xo.jb, .int .i64 xo.tr, .int .i64 xo.wk, .int .i64 xo.tm] 85) #[.int .i64 0, .int .i64 0, .int .i64 0] 95
 have BX := show Blk (((w.alloc (.cells #[.int .i64 xk, .int .i64 2, .int .i64 xkeep, .int .i64 xo.k, .int .i64 xo.now, .int .i64 xo.jb, .int .i64 xo.tr, .int .i64 xo.wk, .int .i64 xo.tm] 85)).alloc (.cells #[.int .i64 0, .int .i64 0, .int .i64 0] 95)).drewN nq) w.heap.size _ _ from (Blk.new w #[.int .i64 xk, .int .i64 2, .int .i64 xkeep, .int .i64 xo.k, .int .i64 xo.now, .int .i64 xo.jb, .int .i64 xo.tr, .int .i64 xo.wk, .int .i64 xo.tm] 85).alloc (.cells #[.int .i64 0, .int .i64 0, .int .i64 0] 95)
 clear cc cn
 generalize hW : World.drewN _ nq = W at *
 clear hW nq
 have x1 : W.cell? ⟨w.heap.size, 1, none⟩ = some (.int .i64 2) := BX.cell 1
 have lx := BX.lt
 have cc : W.cell? ⟨m.cb, 4, none⟩ = some (.pointer (some ⟨m.vb 2, 0, none⟩)) := by
  have hq := h3.cells.2.2.2.2.1
  rw [unhide HNS] at hq
  exact hq
 have lc := h3.plt.blk.lt
 have H3 := hide h3
 have HR3 := hide R3
 have HBX := hide BX
 have HK := hide k
 clear h3 R3 BX k
 go_wp2_with fail
 go_quiet (fail)
 have k := (unhide HK).drewN nq
 have h3 := (unhide HG).fresh k
 have R3 := show Blk (W.drewN nq) (w.heap.size + 1) _ _ from unhide HR3
 have BX := show Blk (W.drewN nq) w.heap.size _ _ from unhide HBX
 clear H3 HR3 HBX HK x1 lx cc lc
 generalize hW : World.drewN _ nq = W1 at *
 clear hW nq
 obtain ⟨x0, x1, x2, x3, x4, x5, x6, x7, x8⟩ : W1.cell? ⟨w.heap.size, 0, none⟩ = some (.int .i64 xk) ∧ W1.cell? ⟨w.heap.size, 1, none⟩ = some (.int .i64 2) ∧ W1.cell? ⟨w.heap.size, 2, none⟩ = some (.int .i64 xkeep) ∧ W1.cell? ⟨w.heap.size, 3, none⟩ = some (.int .i64 xo.k) ∧ W1.cell? ⟨w.heap.size, 4, none⟩ = some (.int .i64 xo.now) ∧ W1.cell? ⟨w.heap.size, 5, none⟩ = some (.int .i64 xo.jb) ∧ W1.cell? ⟨w.heap.size, 6, none⟩ = some (.int .i64 xo.tr) ∧ W1.cell? ⟨w.heap.size, 7, none⟩ = some (.int .i64 xo.wk) ∧ W1.cell? ⟨w.heap.size, 8, none⟩ = some (.int .i64 xo.tm) := ⟨BX.cell 0, BX.cell 1, BX.cell 2, BX.cell 3, BX.cell 4, BX.cell 5, BX.cell 6, BX.cell 7, BX.cell 8⟩
 have lx := BX.lt
 have fx := BX.fz 4
 have cn : W1.cell? ⟨m.cb, 5, none⟩ = some (.int .i64 s.now) := h3.cells.2.2.2.2.2.1
 have lc := h3.plt.blk.lt
 have ncx : m.cb ≠ w.heap.size := by omega
 have z1 := R3.lt
 have k2 := k.setCell (p := ⟨w.heap.size, 4, none⟩) (by simp) (.int .i64 s.now)
 have h4 := (unhide HG).fresh k2
 have R4 := R3.other (p := ⟨w.heap.size, 4, none⟩) (by simp) (.int .i64 s.now)
 have H4 := hide h4
 have HR4 := hide R4
 have HK3 := hide k2
 have zz : (W1.setCell ⟨w.heap.size, 4, none⟩ (.int .i64 s.now)).heap.size = W1.heap.size := by simp
 clear h3 R3 BX k k2 h4 R4
 go_wp2_with fail
 clear x0 x1 x2 x3 x4 x5 x6 x7 x8 lx fx cn lc
 generalize hW : W1.setCell ⟨w.heap.size, 4, none⟩ (.int .i64 s.now) = W2 at *
 clear hW
 refine (vord_all (m.vb 2) m.cb n s.d m.u (atO xo s.now) W2 ((unhide H4).vgr 2 n (by decide) (unhide HNS)) (unhide H4).plt (unhide hbp) (unhide HI) p1 p2).mono ?_
 rintro e w5 ⟨rfl, u5, V5, P5, g5, nx5⟩
 have X5 := (unhide H4).verOp (i := 2) (d' := wrD s.d n (atO xo s.now) 9) (by decide) (unhide HNS) rfl V5 P5 g5 nx5 (unhide PLX)
 have R5 := X5.blk (unhide HR4) (crw_at m w.heap.size (by omega))
 have o5 := X5.ow (w.heap.size + 1) (by omega) (crw_at m w.heap.size (by omega))
 clear V5 P5 g5 nx5 H4 HR4
 obtain ⟨r0, r1, r2, t0, t1, t2⟩ := R5.three
 have l5 := R5.lt
 have HX := hide X5
 have HR := hide R5
 clear X5 R5
 unfold ansV
 go_wp2
 have R7 := (((unhide HR).set 0 (.int .i64 (ordA s.d n (atO xo s.now)).code)).set 1 (.int .i64 (ordA s.d n (atO xo s.now)).jb)).set 2 (.int .i64 (ordA s.d n (atO xo s.now)).tr)
 refine bodyPost_ret (v := ansV (ordA s.d n (atO xo s.now))) (ret_ans rfl rfl R7) rfl ?_
 have k7 := (((Chg.refl [w.heap.size + 1] w5).setCell (p := ⟨w.heap.size + 1, 0, none⟩) (by simp) (.int .i64 (ordA s.d n (atO xo s.now)).code)).setCell (p := ⟨w.heap.size + 1, 1, none⟩) (by simp) (.int .i64 (ordA s.d n (atO xo s.now)).jb)).setCell (p := ⟨w.heap.size + 1, 2, none⟩) (by simp) (.int .i64 (ordA s.d n (atO xo s.now)).tr)
 exact ⟨rfl, _, (Cnx.pre (unhide HK3) (unhide HX)).post k7 (by intro y hy; simp at hy; subst hy; exact ⟨o5, by omega⟩) zw⟩
set_option maxRecDepth 100000 in
set_option maxHeartbeats 4000000 in
theorem cstep_ask3_nil0 (W0 : World) (m : Cm) (s : Gd) (x : Sp) (w : World) (h : Chp W0 w m s) (k1 : x.k = 3) (hx : x.n = 0) (hn : s.ns 0 = none) :
  Calls Tryz.prog 43 #[.pointer (some ⟨m.cb, 0, none⟩), spV x] w fun e w' => e = .returned (ansV ⟨5, 0, 0⟩) ∧ ∃ m', Cnx W0 w m w' m' s := by
 have lg := h.plt.blk.lt
 have zw := h.ch.size
 obtain ⟨c0, c1, c2, c3, c4, c5, -⟩ := h.cells
 obtain ⟨rs, t, pl⟩ := h.pl
 have n0 := pl.n0
 have n1 := pl.n1
 have e0 := pl.e0
 have e1 := pl.e1
 have HPL := hide pl
 have HG := hide h
 clear h pl
 obtain ⟨xk, xn, xkeep, xo⟩ := x
 dsimp only at k1 hx ⊢
 subst hx
 have b1 : (xk == 1) = false := by simp [k1]
 have b5 : (xk == 5) = false := by simp [k1]
 have b2 : (xk == 2) = false := by simp [k1]
 have b3 : (xk == 3) = true := by simp [k1]
 rw [hn] at c2
 have cc : w.cell? ⟨m.cb, 2, none⟩ = some (.pointer none) := c2
 clear k1 c0 c1 c2 c3 c4 c5 n0 n1 e0 e1 hn
 unfold spV spC
 dsimp only
 go_enter Tryz.func43, Tryz.ntmps43
 go_wp2_with fail
 go_quiet (fail)
 go_wp2
 have R0 := show Blk (((w.alloc (.cells #[.int .i64 xk, .int .i64 0, .int .i64 xkeep, .int .i64 xo.k, .int .i64 xo.now, .int .i64 xo.jb, .int .i64 xo.tr, .int .i64 xo.wk, .int .i64 xo.tm] 85)).alloc (.cells #[.int .i64 0, .int .i64 0, .int .i64 0] 95)).drewN nq) (w.heap.size + 1) _ _ from Blk.new1 w (.cells #[.int .i64 xk, .int .i64 0, .int .i64 xkeep, .int .i64 xo.k, .int .i64 xo.now, .int .i64 xo.jb, .int .i64 xo.tr, .int .i64 xo.wk, .int .i64 xo.tm] 85) #[.int .i64 0, .int .i64 0, .int .i64 0] 95
 have R7 := ((R0.set 0 (.int .i64 5)).set 1 (.int .i64 0)).set 2 (.int .i64 0)
 refine bodyPost_ret (v := ansV ⟨5, 0, 0⟩) (ret_ans rfl rfl R7) rfl ?_
 have k7 := ((((((Chg.refl [] w).alloc (.cells #[.int .i64 xk, .int .i64 0, .int .i64 xkeep, .int .i64 xo.k, .int .i64 xo.now, .int .i64 xo.jb, .int .i64 xo.tr, .int .i64 xo.wk, .int .i64 xo.tm] 85)).alloc (.cells #[.int .i64 0, .int .i64 0, .int .i64 0] 95)).drewN nq).setCell (p := ⟨w.heap.size + 1, 0, none⟩) (by simp) (.int .i64 5)).setCell (p := ⟨w.heap.size + 1, 1, none⟩) (by simp) (.int .i64 0)).setCell (p := ⟨w.heap.size + 1, 2, none⟩) (by simp) (.int .i64 0)
 exact ⟨rfl, _, Cnx.pre k7 (Cnx.refl ((unhide HG).fresh k7))⟩
set_option maxRecDepth 100000 in
set_option maxHeartbeats 4000000 in
theorem cstep_ask3_some0 (W0 : World) (m : Cm) (s : Gd) (x : Sp) (w : World) (h : Chp W0 w m s) (n : Nd) (k1 : x.k = 3) (hx : x.n = 0) (hn : s.ns 0 = some n) :
  Calls Tryz.prog 43 #[.pointer (some ⟨m.cb, 0, none⟩), spV x] w fun e w' => e = .returned (ansV ⟨wrC s.d n (atO x.o s.now) x.keep, 0, 0⟩) ∧ ∃ m', Cnx W0 w m w' m' ⟨s.now, wrD s.d n (atO x.o s.now) x.keep, upG s.ns 0 (tearN s.d n (atO x.o s.now) x.keep)⟩ := by
 have lg := h.plt.blk.lt
 have zw := h.ch.size
 obtain ⟨c0, c1, c2, c3, c4, c5, -⟩ := h.cells
 obtain ⟨rs, t, pl⟩ := h.pl
 have n0 := pl.n0
 have n1 := pl.n1
 have e0 := pl.e0
 have e1 := pl.e1
 have HPL := hide pl
 have HG := hide h
 clear h pl
 have PLX : Hid (∃ rs t, PlG ⟨s.now, wrD s.d n (atO x.o s.now) x.keep, upG s.ns 0 (tearN s.d n (atO x.o s.now) x.keep)⟩ rs t) := hide (by
  obtain ⟨rs', t', pl', -⟩ := (unhide HPL).step x
  have e : stepG s x = askG s x 0 n := by
   unfold stepG
   rw [if_neg (by omega), if_neg (by omega), if_pos (by omega)]
   have e2 : nodeG s x.n = some n := by rw [hx]; exact hn
   unfold orderG
   rw [e2, hx]
   rfl
  rw [e] at pl'
  unfold askG at pl'
  rw [if_neg (by omega), if_pos k1] at pl'
  exact ⟨rs', t', pl'⟩)
 obtain ⟨p1, p2, p3⟩ := (unhide HG).pos (by decide) hn
 have HI := hide p3
 have hov := (unhide HG).ov 0 n (by decide) hn
 have hbp : Hid (m.vb 0 ∉ fp m.cb m.u) := hide (fun hf => by have := (unhide HG).op _ hf; rw [hov] at this; omega)
 have HNS := hide hn
 rw [hn] at c2
 have cc : w.cell? ⟨m.cb, 2, none⟩ = some (.pointer (some ⟨m.vb 0, 0, none⟩)) := c2
 have cn := c5
 clear p3 hov hn
 obtain ⟨xk, xn, xkeep, xo⟩ := x
 dsimp only at k1 hx ⊢
 subst hx
 have b1 : (xk == 1) = false := by simp [k1]
 have b5 : (xk == 5) = false := by simp [k1]
 have b2 : (xk == 2) = false := by simp [k1]
 have b3 : (xk == 3) = true := by simp [k1]
 clear k1 c0 c1 c2 c3 c4 c5 n0 n1 e0 e1
 unfold spV spC
 dsimp only
 go_enter Tryz.func43, Tryz.ntmps43
 go_wp2_with fail
 go_quiet (fail)
 have k : Chg [] w (((w.alloc (.cells #[.int .i64 xk, .int .i64 0, .int .i64 xkeep, .int .i64 xo.k, .int .i64 xo.now, .int .i64 xo.jb, .int .i64 xo.tr, .int .i64 xo.wk, .int .i64 xo.tm] 85)).alloc (.cells #[.int .i64 0, .int .i64 0, .int .i64 0] 95)).drewN nq) := (((Chg.refl [] w).alloc _).alloc _).drewN nq
 have h3 := (unhide HG).fresh k
 have R3 := show Blk (((w.alloc (.cells #[.int .i64 xk, .int .i64 0, .int .i64 xkeep, .int .i64 xo.k, .int .i64 xo.now, .int .i64 xo.jb, .int .i64 xo.tr, .int .i64 xo.wk, .int .i64 xo.tm] 85)).alloc (.cells #[.int .i64 0, .int .i64 0, .int .i64 0] 95)).drewN nq) (w.heap.size + 1) _ _ from Blk.new1 w (.cells #[.int .i64 xk, .int .i64 0, .int .i64 xkeep, .int .i64 xo.k, .int .i64 xo.now, .int .i64 xo.jb, .int .i64 xo.tr, .int .i64 xo.wk, .int .i64 xo.tm] 85) #[.int .i64 0, .int .i64 0, .int .i64 0] 95
 have BX := show Blk (((w.alloc (.cells #[.int .i64 xk, .int .i64 0, .int .i64 xkeep, .int .i64 xo.k, .int .i64 xo.now, .int .i64 xo.jb, .int .i64 xo.tr, .int .i64 xo.wk, .int .i64 xo.tm] 85)).alloc (.cells #[.int .i64 0, .int .i64 0, .int .i64 0] 95)).drewN nq) w.heap.size _ _ from (Blk.new w #[.int .i64 xk, .int .i64 0, .int .i64 xkeep, .int .i64 xo.k, .int .i64 xo.now, .int .i64 xo.jb, .int .i64 xo.tr, .int .i64 xo.wk, .int .i64 xo.tm] 85).alloc (.cells #[.int .i64 0, .int .i64 0, .int .i64 0] 95)
 clear cc cn
 generalize hW : World.drewN _ nq = W at *
 clear hW nq
 have x1 : W.cell? ⟨w.heap.size, 1, none⟩ = some (.int .i64 0) := BX.cell 1
 have lx := BX.lt
 have cc : W.cell? ⟨m.cb, 2, none⟩ = some (.pointer (some ⟨m.vb 0, 0, none⟩)) := by
  have hq := h3.cells.2.2.1
  rw [unhide HNS] at hq
  exact hq
 have lc := h3.plt.blk.lt
 have H3 := hide h3
 have HR3 := hide R3
 have HBX := hide BX
 have HK := hide k
 clear h3 R3 BX k
 go_wp2_with fail
 go_quiet (fail)
 have k := (unhide HK).drewN nq
 have h3 := (unhide HG).fresh k
 have R3 := show Blk (W.drewN nq) (w.heap.size + 1) _ _ from unhide HR3
 have BX := show Blk (W.drewN nq) w.heap.size _ _ from unhide HBX
 clear H3 HR3 HBX HK x1 lx cc lc
 generalize hW : World.drewN _ nq = W1 at *
 clear hW nq
 obtain ⟨x0, x1, x2, x3, x4, x5, x6, x7, x8⟩ : W1.cell? ⟨w.heap.size, 0, none⟩ = some (.int .i64 xk) ∧ W1.cell? ⟨w.heap.size, 1, none⟩ = some (.int .i64 0) ∧ W1.cell? ⟨w.heap.size, 2, none⟩ = some (.int .i64 xkeep) ∧ W1.cell? ⟨w.heap.size, 3, none⟩ = some (.int .i64 xo.k) ∧ W1.cell? ⟨w.heap.size, 4, none⟩ = some (.int .i64 xo.now) ∧ W1.cell? ⟨w.heap.size, 5, none⟩ = some (.int .i64 xo.jb) ∧ W1.cell? ⟨w.heap.size, 6, none⟩ = some (.int .i64 xo.tr) ∧ W1.cell? ⟨w.heap.size, 7, none⟩ = some (.int .i64 xo.wk) ∧ W1.cell? ⟨w.heap.size, 8, none⟩ = some (.int .i64 xo.tm) := ⟨BX.cell 0, BX.cell 1, BX.cell 2, BX.cell 3, BX.cell 4, BX.cell 5, BX.cell 6, BX.cell 7, BX.cell 8⟩
 have lx := BX.lt
 have fx := BX.fz 4
 have cn : W1.cell? ⟨m.cb, 5, none⟩ = some (.int .i64 s.now) := h3.cells.2.2.2.2.2.1
 have lc := h3.plt.blk.lt
 have ncx : m.cb ≠ w.heap.size := by omega
 have z1 := R3.lt
 have k2 := k.setCell (p := ⟨w.heap.size, 4, none⟩) (by simp) (.int .i64 s.now)
 have h4 := (unhide HG).fresh k2
 have R4 := R3.other (p := ⟨w.heap.size, 4, none⟩) (by simp) (.int .i64 s.now)
 have H4 := hide h4
 have HR4 := hide R4
 have HK3 := hide k2
 have zz : (W1.setCell ⟨w.heap.size, 4, none⟩ (.int .i64 s.now)).heap.size = W1.heap.size := by simp
 clear h3 R3 BX k k2 h4 R4
 go_wp2_with fail
 clear x0 x1 x2 x3 x4 x5 x6 x7 x8 lx fx cn lc
 generalize hW : W1.setCell ⟨w.heap.size, 4, none⟩ (.int .i64 s.now) = W2 at *
 clear hW
 refine (vtear_all (m.vb 0) m.cb n s.d m.u (atO xo s.now) xkeep W2 ((unhide H4).vgr 0 n (by decide) (unhide HNS)) (unhide H4).plt (unhide hbp) (unhide HI) p1 p2).mono ?_
 rintro e w5 ⟨rfl, u5, V5, P5, g5, nx5⟩
 have X5 := (unhide H4).verOp (i := 0) (d' := wrD s.d n (atO xo s.now) xkeep) (by decide) (unhide HNS) rfl V5 P5 g5 nx5 (unhide PLX)
 have R5 := X5.blk (unhide HR4) (crw_at m w.heap.size (by omega))
 have o5 := X5.ow (w.heap.size + 1) (by omega) (crw_at m w.heap.size (by omega))
 clear V5 P5 g5 nx5 H4 HR4
 obtain ⟨r0, r1, r2, t0, t1, t2⟩ := R5.three
 have l5 := R5.lt
 have HX := hide X5
 have HR := hide R5
 clear X5 R5
 go_wp2
 have R7 := (((unhide HR).set 0 (.int .i64 (wrC s.d n (atO xo s.now) xkeep))).set 1 (.int .i64 0)).set 2 (.int .i64 0)
 refine bodyPost_ret (v := ansV ⟨wrC s.d n (atO xo s.now) xkeep, 0, 0⟩) (ret_ans rfl rfl R7) rfl ?_
 have k7 := (((Chg.refl [w.heap.size + 1] w5).setCell (p := ⟨w.heap.size + 1, 0, none⟩) (by simp) (.int .i64 (wrC s.d n (atO xo s.now) xkeep))).setCell (p := ⟨w.heap.size + 1, 1, none⟩) (by simp) (.int .i64 0)).setCell (p := ⟨w.heap.size + 1, 2, none⟩) (by simp) (.int .i64 0)
 exact ⟨rfl, _, (Cnx.pre (unhide HK3) (unhide HX)).post k7 (by intro y hy; simp at hy; subst hy; exact ⟨o5, by omega⟩) zw⟩
set_option maxRecDepth 100000 in
set_option maxHeartbeats 4000000 in
theorem cstep_ask3_nil1 (W0 : World) (m : Cm) (s : Gd) (x : Sp) (w : World) (h : Chp W0 w m s) (k1 : x.k = 3) (hx : x.n = 1) (hn : s.ns 1 = none) :
  Calls Tryz.prog 43 #[.pointer (some ⟨m.cb, 0, none⟩), spV x] w fun e w' => e = .returned (ansV ⟨5, 0, 0⟩) ∧ ∃ m', Cnx W0 w m w' m' s := by
 have lg := h.plt.blk.lt
 have zw := h.ch.size
 obtain ⟨c0, c1, c2, c3, c4, c5, -⟩ := h.cells
 obtain ⟨rs, t, pl⟩ := h.pl
 have n0 := pl.n0
 have n1 := pl.n1
 have e0 := pl.e0
 have e1 := pl.e1
 have HPL := hide pl
 have HG := hide h
 clear h pl
 obtain ⟨xk, xn, xkeep, xo⟩ := x
 dsimp only at k1 hx ⊢
 subst hx
 have b1 : (xk == 1) = false := by simp [k1]
 have b5 : (xk == 5) = false := by simp [k1]
 have b2 : (xk == 2) = false := by simp [k1]
 have b3 : (xk == 3) = true := by simp [k1]
 rw [hn] at c3
 have cc : w.cell? ⟨m.cb, 3, none⟩ = some (.pointer none) := c3
 clear k1 c0 c1 c2 c3 c4 c5 n0 n1 e0 e1 hn
 unfold spV spC
 dsimp only
 go_enter Tryz.func43, Tryz.ntmps43
 go_wp2_with fail
 go_quiet (fail)
 go_wp2
 have R0 := show Blk (((w.alloc (.cells #[.int .i64 xk, .int .i64 1, .int .i64 xkeep, .int .i64 xo.k, .int .i64 xo.now, .int .i64 xo.jb, .int .i64 xo.tr, .int .i64 xo.wk, .int .i64 xo.tm] 85)).alloc (.cells #[.int .i64 0, .int .i64 0, .int .i64 0] 95)).drewN nq) (w.heap.size + 1) _ _ from Blk.new1 w (.cells #[.int .i64 xk, .int .i64 1, .int .i64 xkeep, .int .i64 xo.k, .int .i64 xo.now, .int .i64 xo.jb, .int .i64 xo.tr, .int .i64 xo.wk, .int .i64 xo.tm] 85) #[.int .i64 0, .int .i64 0, .int .i64 0] 95
 have R7 := ((R0.set 0 (.int .i64 5)).set 1 (.int .i64 0)).set 2 (.int .i64 0)
 refine bodyPost_ret (v := ansV ⟨5, 0, 0⟩) (ret_ans rfl rfl R7) rfl ?_
 have k7 := ((((((Chg.refl [] w).alloc (.cells #[.int .i64 xk, .int .i64 1, .int .i64 xkeep, .int .i64 xo.k, .int .i64 xo.now, .int .i64 xo.jb, .int .i64 xo.tr, .int .i64 xo.wk, .int .i64 xo.tm] 85)).alloc (.cells #[.int .i64 0, .int .i64 0, .int .i64 0] 95)).drewN nq).setCell (p := ⟨w.heap.size + 1, 0, none⟩) (by simp) (.int .i64 5)).setCell (p := ⟨w.heap.size + 1, 1, none⟩) (by simp) (.int .i64 0)).setCell (p := ⟨w.heap.size + 1, 2, none⟩) (by simp) (.int .i64 0)
 exact ⟨rfl, _, Cnx.pre k7 (Cnx.refl ((unhide HG).fresh k7))⟩
set_option maxRecDepth 100000 in
set_option maxHeartbeats 4000000 in
theorem cstep_ask3_some1 (W0 : World) (m : Cm) (s : Gd) (x : Sp) (w : World) (h : Chp W0 w m s) (n : Nd) (k1 : x.k = 3) (hx : x.n = 1) (hn : s.ns 1 = some n) :
  Calls Tryz.prog 43 #[.pointer (some ⟨m.cb, 0, none⟩), spV x] w fun e w' => e = .returned (ansV ⟨wrC s.d n (atO x.o s.now) x.keep, 0, 0⟩) ∧ ∃ m', Cnx W0 w m w' m' ⟨s.now, wrD s.d n (atO x.o s.now) x.keep, upG s.ns 1 (tearN s.d n (atO x.o s.now) x.keep)⟩ := by
 have lg := h.plt.blk.lt
 have zw := h.ch.size
 obtain ⟨c0, c1, c2, c3, c4, c5, -⟩ := h.cells
 obtain ⟨rs, t, pl⟩ := h.pl
 have n0 := pl.n0
 have n1 := pl.n1
 have e0 := pl.e0
 have e1 := pl.e1
 have HPL := hide pl
 have HG := hide h
 clear h pl
 have PLX : Hid (∃ rs t, PlG ⟨s.now, wrD s.d n (atO x.o s.now) x.keep, upG s.ns 1 (tearN s.d n (atO x.o s.now) x.keep)⟩ rs t) := hide (by
  obtain ⟨rs', t', pl', -⟩ := (unhide HPL).step x
  have e : stepG s x = askG s x 1 n := by
   unfold stepG
   rw [if_neg (by omega), if_neg (by omega), if_pos (by omega)]
   have e2 : nodeG s x.n = some n := by rw [hx]; exact hn
   unfold orderG
   rw [e2, hx]
   rfl
  rw [e] at pl'
  unfold askG at pl'
  rw [if_neg (by omega), if_pos k1] at pl'
  exact ⟨rs', t', pl'⟩)
 obtain ⟨p1, p2, p3⟩ := (unhide HG).pos (by decide) hn
 have HI := hide p3
 have hov := (unhide HG).ov 1 n (by decide) hn
 have hbp : Hid (m.vb 1 ∉ fp m.cb m.u) := hide (fun hf => by have := (unhide HG).op _ hf; rw [hov] at this; omega)
 have HNS := hide hn
 rw [hn] at c3
 have cc : w.cell? ⟨m.cb, 3, none⟩ = some (.pointer (some ⟨m.vb 1, 0, none⟩)) := c3
 have cn := c5
 clear p3 hov hn
 obtain ⟨xk, xn, xkeep, xo⟩ := x
 dsimp only at k1 hx ⊢
 subst hx
 have b1 : (xk == 1) = false := by simp [k1]
 have b5 : (xk == 5) = false := by simp [k1]
 have b2 : (xk == 2) = false := by simp [k1]
 have b3 : (xk == 3) = true := by simp [k1]
 clear k1 c0 c1 c2 c3 c4 c5 n0 n1 e0 e1
 unfold spV spC
 dsimp only
 go_enter Tryz.func43, Tryz.ntmps43
 go_wp2_with fail
 go_quiet (fail)
 have k : Chg [] w (((w.alloc (.cells #[.int .i64 xk, .int .i64 1, .int .i64 xkeep, .int .i64 xo.k, .int .i64 xo.now, .int .i64 xo.jb, .int .i64 xo.tr, .int .i64 xo.wk, .int .i64 xo.tm] 85)).alloc (.cells #[.int .i64 0, .int .i64 0, .int .i64 0] 95)).drewN nq) := (((Chg.refl [] w).alloc _).alloc _).drewN nq
 have h3 := (unhide HG).fresh k
 have R3 := show Blk (((w.alloc (.cells #[.int .i64 xk, .int .i64 1, .int .i64 xkeep, .int .i64 xo.k, .int .i64 xo.now, .int .i64 xo.jb, .int .i64 xo.tr, .int .i64 xo.wk, .int .i64 xo.tm] 85)).alloc (.cells #[.int .i64 0, .int .i64 0, .int .i64 0] 95)).drewN nq) (w.heap.size + 1) _ _ from Blk.new1 w (.cells #[.int .i64 xk, .int .i64 1, .int .i64 xkeep, .int .i64 xo.k, .int .i64 xo.now, .int .i64 xo.jb, .int .i64 xo.tr, .int .i64 xo.wk, .int .i64 xo.tm] 85) #[.int .i64 0, .int .i64 0, .int .i64 0] 95
 have BX := show Blk (((w.alloc (.cells #[.int .i64 xk, .int .i64 1, .int .i64 xkeep, .int .i64 xo.k, .int .i64 xo.now, .int .i64 xo.jb, .int .i64 xo.tr, .int .i64 xo.wk, .int .i64 xo.tm] 85)).alloc (.cells #[.int .i64 0, .int .i64 0, .int .i64 0] 95)).drewN nq) w.heap.size _ _ from (Blk.new w #[.int .i64 xk, .int .i64 1, .int .i64 xkeep, .int .i64 xo.k, .int .i64 xo.now, .int .i64 xo.jb, .int .i64 xo.tr, .int .i64 xo.wk, .int .i64 xo.tm] 85).alloc (.cells #[.int .i64 0, .int .i64 0, .int .i64 0] 95)
 clear cc cn
 generalize hW : World.drewN _ nq = W at *
 clear hW nq
 have x1 : W.cell? ⟨w.heap.size, 1, none⟩ = some (.int .i64 1) := BX.cell 1
 have lx := BX.lt
 have cc : W.cell? ⟨m.cb, 3, none⟩ = some (.pointer (some ⟨m.vb 1, 0, none⟩)) := by
  have hq := h3.cells.2.2.2.1
  rw [unhide HNS] at hq
  exact hq
 have lc := h3.plt.blk.lt
 have H3 := hide h3
 have HR3 := hide R3
 have HBX := hide BX
 have HK := hide k
 clear h3 R3 BX k
 go_wp2_with fail
 go_quiet (fail)
 have k := (unhide HK).drewN nq
 have h3 := (unhide HG).fresh k
 have R3 := show Blk (W.drewN nq) (w.heap.size + 1) _ _ from unhide HR3
 have BX := show Blk (W.drewN nq) w.heap.size _ _ from unhide HBX
 clear H3 HR3 HBX HK x1 lx cc lc
 generalize hW : World.drewN _ nq = W1 at *
 clear hW nq
 obtain ⟨x0, x1, x2, x3, x4, x5, x6, x7, x8⟩ : W1.cell? ⟨w.heap.size, 0, none⟩ = some (.int .i64 xk) ∧ W1.cell? ⟨w.heap.size, 1, none⟩ = some (.int .i64 1) ∧ W1.cell? ⟨w.heap.size, 2, none⟩ = some (.int .i64 xkeep) ∧ W1.cell? ⟨w.heap.size, 3, none⟩ = some (.int .i64 xo.k) ∧ W1.cell? ⟨w.heap.size, 4, none⟩ = some (.int .i64 xo.now) ∧ W1.cell? ⟨w.heap.size, 5, none⟩ = some (.int .i64 xo.jb) ∧ W1.cell? ⟨w.heap.size, 6, none⟩ = some (.int .i64 xo.tr) ∧ W1.cell? ⟨w.heap.size, 7, none⟩ = some (.int .i64 xo.wk) ∧ W1.cell? ⟨w.heap.size, 8, none⟩ = some (.int .i64 xo.tm) := ⟨BX.cell 0, BX.cell 1, BX.cell 2, BX.cell 3, BX.cell 4, BX.cell 5, BX.cell 6, BX.cell 7, BX.cell 8⟩
 have lx := BX.lt
 have fx := BX.fz 4
 have cn : W1.cell? ⟨m.cb, 5, none⟩ = some (.int .i64 s.now) := h3.cells.2.2.2.2.2.1
 have lc := h3.plt.blk.lt
 have ncx : m.cb ≠ w.heap.size := by omega
 have z1 := R3.lt
 have k2 := k.setCell (p := ⟨w.heap.size, 4, none⟩) (by simp) (.int .i64 s.now)
 have h4 := (unhide HG).fresh k2
 have R4 := R3.other (p := ⟨w.heap.size, 4, none⟩) (by simp) (.int .i64 s.now)
 have H4 := hide h4
 have HR4 := hide R4
 have HK3 := hide k2
 have zz : (W1.setCell ⟨w.heap.size, 4, none⟩ (.int .i64 s.now)).heap.size = W1.heap.size := by simp
 clear h3 R3 BX k k2 h4 R4
 go_wp2_with fail
 clear x0 x1 x2 x3 x4 x5 x6 x7 x8 lx fx cn lc
 generalize hW : W1.setCell ⟨w.heap.size, 4, none⟩ (.int .i64 s.now) = W2 at *
 clear hW
 refine (vtear_all (m.vb 1) m.cb n s.d m.u (atO xo s.now) xkeep W2 ((unhide H4).vgr 1 n (by decide) (unhide HNS)) (unhide H4).plt (unhide hbp) (unhide HI) p1 p2).mono ?_
 rintro e w5 ⟨rfl, u5, V5, P5, g5, nx5⟩
 have X5 := (unhide H4).verOp (i := 1) (d' := wrD s.d n (atO xo s.now) xkeep) (by decide) (unhide HNS) rfl V5 P5 g5 nx5 (unhide PLX)
 have R5 := X5.blk (unhide HR4) (crw_at m w.heap.size (by omega))
 have o5 := X5.ow (w.heap.size + 1) (by omega) (crw_at m w.heap.size (by omega))
 clear V5 P5 g5 nx5 H4 HR4
 obtain ⟨r0, r1, r2, t0, t1, t2⟩ := R5.three
 have l5 := R5.lt
 have HX := hide X5
 have HR := hide R5
 clear X5 R5
 go_wp2
 have R7 := (((unhide HR).set 0 (.int .i64 (wrC s.d n (atO xo s.now) xkeep))).set 1 (.int .i64 0)).set 2 (.int .i64 0)
 refine bodyPost_ret (v := ansV ⟨wrC s.d n (atO xo s.now) xkeep, 0, 0⟩) (ret_ans rfl rfl R7) rfl ?_
 have k7 := (((Chg.refl [w.heap.size + 1] w5).setCell (p := ⟨w.heap.size + 1, 0, none⟩) (by simp) (.int .i64 (wrC s.d n (atO xo s.now) xkeep))).setCell (p := ⟨w.heap.size + 1, 1, none⟩) (by simp) (.int .i64 0)).setCell (p := ⟨w.heap.size + 1, 2, none⟩) (by simp) (.int .i64 0)
 exact ⟨rfl, _, (Cnx.pre (unhide HK3) (unhide HX)).post k7 (by intro y hy; simp at hy; subst hy; exact ⟨o5, by omega⟩) zw⟩
set_option maxRecDepth 100000 in
set_option maxHeartbeats 4000000 in
theorem cstep_ask3_nil2 (W0 : World) (m : Cm) (s : Gd) (x : Sp) (w : World) (h : Chp W0 w m s) (k1 : x.k = 3) (hx : x.n = 2) (hn : s.ns 2 = none) :
  Calls Tryz.prog 43 #[.pointer (some ⟨m.cb, 0, none⟩), spV x] w fun e w' => e = .returned (ansV ⟨5, 0, 0⟩) ∧ ∃ m', Cnx W0 w m w' m' s := by
 have lg := h.plt.blk.lt
 have zw := h.ch.size
 obtain ⟨c0, c1, c2, c3, c4, c5, -⟩ := h.cells
 obtain ⟨rs, t, pl⟩ := h.pl
 have n0 := pl.n0
 have n1 := pl.n1
 have e0 := pl.e0
 have e1 := pl.e1
 have HPL := hide pl
 have HG := hide h
 clear h pl
 obtain ⟨xk, xn, xkeep, xo⟩ := x
 dsimp only at k1 hx ⊢
 subst hx
 have b1 : (xk == 1) = false := by simp [k1]
 have b5 : (xk == 5) = false := by simp [k1]
 have b2 : (xk == 2) = false := by simp [k1]
 have b3 : (xk == 3) = true := by simp [k1]
 rw [hn] at c4
 have cc : w.cell? ⟨m.cb, 4, none⟩ = some (.pointer none) := c4
 clear k1 c0 c1 c2 c3 c4 c5 n0 n1 e0 e1 hn
 unfold spV spC
 dsimp only
 go_enter Tryz.func43, Tryz.ntmps43
 go_wp2_with fail
 go_quiet (fail)
 go_wp2
 have R0 := show Blk (((w.alloc (.cells #[.int .i64 xk, .int .i64 2, .int .i64 xkeep, .int .i64 xo.k, .int .i64 xo.now, .int .i64 xo.jb, .int .i64 xo.tr, .int .i64 xo.wk, .int .i64 xo.tm] 85)).alloc (.cells #[.int .i64 0, .int .i64 0, .int .i64 0] 95)).drewN nq) (w.heap.size + 1) _ _ from Blk.new1 w (.cells #[.int .i64 xk, .int .i64 2, .int .i64 xkeep, .int .i64 xo.k, .int .i64 xo.now, .int .i64 xo.jb, .int .i64 xo.tr, .int .i64 xo.wk, .int .i64 xo.tm] 85) #[.int .i64 0, .int .i64 0, .int .i64 0] 95
 have R7 := ((R0.set 0 (.int .i64 5)).set 1 (.int .i64 0)).set 2 (.int .i64 0)
 refine bodyPost_ret (v := ansV ⟨5, 0, 0⟩) (ret_ans rfl rfl R7) rfl ?_
 have k7 := ((((((Chg.refl [] w).alloc (.cells #[.int .i64 xk, .int .i64 2, .int .i64 xkeep, .int .i64 xo.k, .int .i64 xo.now, .int .i64 xo.jb, .int .i64 xo.tr, .int .i64 xo.wk, .int .i64 xo.tm] 85)).alloc (.cells #[.int .i64 0, .int .i64 0, .int .i64 0] 95)).drewN nq).setCell (p := ⟨w.heap.size + 1, 0, none⟩) (by simp) (.int .i64 5)).setCell (p := ⟨w.heap.size + 1, 1, none⟩) (by simp) (.int .i64 0)).setCell (p := ⟨w.heap.size + 1, 2, none⟩) (by simp) (.int .i64 0)
 exact ⟨rfl, _, Cnx.pre k7 (Cnx.refl ((unhide HG).fresh k7))⟩
set_option maxRecDepth 100000 in
set_option maxHeartbeats 4000000 in
theorem cstep_ask3_some2 (W0 : World) (m : Cm) (s : Gd) (x : Sp) (w : World) (h : Chp W0 w m s) (n : Nd) (k1 : x.k = 3) (hx : x.n = 2) (hn : s.ns 2 = some n) :
  Calls Tryz.prog 43 #[.pointer (some ⟨m.cb, 0, none⟩), spV x] w fun e w' => e = .returned (ansV ⟨wrC s.d n (atO x.o s.now) x.keep, 0, 0⟩) ∧ ∃ m', Cnx W0 w m w' m' ⟨s.now, wrD s.d n (atO x.o s.now) x.keep, upG s.ns 2 (tearN s.d n (atO x.o s.now) x.keep)⟩ := by
 have lg := h.plt.blk.lt
 have zw := h.ch.size
 obtain ⟨c0, c1, c2, c3, c4, c5, -⟩ := h.cells
 obtain ⟨rs, t, pl⟩ := h.pl
 have n0 := pl.n0
 have n1 := pl.n1
 have e0 := pl.e0
 have e1 := pl.e1
 have HPL := hide pl
 have HG := hide h
 clear h pl
 have PLX : Hid (∃ rs t, PlG ⟨s.now, wrD s.d n (atO x.o s.now) x.keep, upG s.ns 2 (tearN s.d n (atO x.o s.now) x.keep)⟩ rs t) := hide (by
  obtain ⟨rs', t', pl', -⟩ := (unhide HPL).step x
  have e : stepG s x = askG s x 2 n := by
   unfold stepG
   rw [if_neg (by omega), if_neg (by omega), if_pos (by omega)]
   have e2 : nodeG s x.n = some n := by rw [hx]; exact hn
   unfold orderG
   rw [e2, hx]
   rfl
  rw [e] at pl'
  unfold askG at pl'
  rw [if_neg (by omega), if_pos k1] at pl'
  exact ⟨rs', t', pl'⟩)
 obtain ⟨p1, p2, p3⟩ := (unhide HG).pos (by decide) hn
 have HI := hide p3
 have hov := (unhide HG).ov 2 n (by decide) hn
 have hbp : Hid (m.vb 2 ∉ fp m.cb m.u) := hide (fun hf => by have := (unhide HG).op _ hf; rw [hov] at this; omega)
 have HNS := hide hn
 rw [hn] at c4
 have cc : w.cell? ⟨m.cb, 4, none⟩ = some (.pointer (some ⟨m.vb 2, 0, none⟩)) := c4
 have cn := c5
 clear p3 hov hn
 obtain ⟨xk, xn, xkeep, xo⟩ := x
 dsimp only at k1 hx ⊢
 subst hx
 have b1 : (xk == 1) = false := by simp [k1]
 have b5 : (xk == 5) = false := by simp [k1]
 have b2 : (xk == 2) = false := by simp [k1]
 have b3 : (xk == 3) = true := by simp [k1]
 clear k1 c0 c1 c2 c3 c4 c5 n0 n1 e0 e1
 unfold spV spC
 dsimp only
 go_enter Tryz.func43, Tryz.ntmps43
 go_wp2_with fail
 go_quiet (fail)
 have k : Chg [] w (((w.alloc (.cells #[.int .i64 xk, .int .i64 2, .int .i64 xkeep, .int .i64 xo.k, .int .i64 xo.now, .int .i64 xo.jb, .int .i64 xo.tr, .int .i64 xo.wk, .int .i64 xo.tm] 85)).alloc (.cells #[.int .i64 0, .int .i64 0, .int .i64 0] 95)).drewN nq) := (((Chg.refl [] w).alloc _).alloc _).drewN nq
 have h3 := (unhide HG).fresh k
 have R3 := show Blk (((w.alloc (.cells #[.int .i64 xk, .int .i64 2, .int .i64 xkeep, .int .i64 xo.k, .int .i64 xo.now, .int .i64 xo.jb, .int .i64 xo.tr, .int .i64 xo.wk, .int .i64 xo.tm] 85)).alloc (.cells #[.int .i64 0, .int .i64 0, .int .i64 0] 95)).drewN nq) (w.heap.size + 1) _ _ from Blk.new1 w (.cells #[.int .i64 xk, .int .i64 2, .int .i64 xkeep, .int .i64 xo.k, .int .i64 xo.now, .int .i64 xo.jb, .int .i64 xo.tr, .int .i64 xo.wk, .int .i64 xo.tm] 85) #[.int .i64 0, .int .i64 0, .int .i64 0] 95
 have BX := show Blk (((w.alloc (.cells #[.int .i64 xk, .int .i64 2, .int .i64 xkeep, .int .i64 xo.k, .int .i64 xo.now, .int .i64 xo.jb, .int .i64 xo.tr, .int .i64 xo.wk, .int .i64 xo.tm] 85)).alloc (.cells #[.int .i64 0, .int .i64 0, .int .i64 0] 95)).drewN nq) w.heap.size _ _ from (Blk.new w #[.int .i64 xk, .int .i64 2, .int .i64 xkeep, .int .i64 xo.k, .int .i64 xo.now, .int .i64 xo.jb, .int .i64 xo.tr, .int .i64 xo.wk, .int .i64 xo.tm] 85).alloc (.cells #[.int .i64 0, .int .i64 0, .int .i64 0] 95)
 clear cc cn
 generalize hW : World.drewN _ nq = W at *
 clear hW nq
 have x1 : W.cell? ⟨w.heap.size, 1, none⟩ = some (.int .i64 2) := BX.cell 1
 have lx := BX.lt
 have cc : W.cell? ⟨m.cb, 4, none⟩ = some (.pointer (some ⟨m.vb 2, 0, none⟩)) := by
  have hq := h3.cells.2.2.2.2.1
  rw [unhide HNS] at hq
  exact hq
 have lc := h3.plt.blk.lt
 have H3 := hide h3
 have HR3 := hide R3
 have HBX := hide BX
 have HK := hide k
 clear h3 R3 BX k
 go_wp2_with fail
 go_quiet (fail)
 have k := (unhide HK).drewN nq
 have h3 := (unhide HG).fresh k
 have R3 := show Blk (W.drewN nq) (w.heap.size + 1) _ _ from unhide HR3
 have BX := show Blk (W.drewN nq) w.heap.size _ _ from unhide HBX
 clear H3 HR3 HBX HK x1 lx cc lc
 generalize hW : World.drewN _ nq = W1 at *
 clear hW nq
 obtain ⟨x0, x1, x2, x3, x4, x5, x6, x7, x8⟩ : W1.cell? ⟨w.heap.size, 0, none⟩ = some (.int .i64 xk) ∧ W1.cell? ⟨w.heap.size, 1, none⟩ = some (.int .i64 2) ∧ W1.cell? ⟨w.heap.size, 2, none⟩ = some (.int .i64 xkeep) ∧ W1.cell? ⟨w.heap.size, 3, none⟩ = some (.int .i64 xo.k) ∧ W1.cell? ⟨w.heap.size, 4, none⟩ = some (.int .i64 xo.now) ∧ W1.cell? ⟨w.heap.size, 5, none⟩ = some (.int .i64 xo.jb) ∧ W1.cell? ⟨w.heap.size, 6, none⟩ = some (.int .i64 xo.tr) ∧ W1.cell? ⟨w.heap.size, 7, none⟩ = some (.int .i64 xo.wk) ∧ W1.cell? ⟨w.heap.size, 8, none⟩ = some (.int .i64 xo.tm) := ⟨BX.cell 0, BX.cell 1, BX.cell 2, BX.cell 3, BX.cell 4, BX.cell 5, BX.cell 6, BX.cell 7, BX.cell 8⟩
 have lx := BX.lt
 have fx := BX.fz 4
 have cn : W1.cell? ⟨m.cb, 5, none⟩ = some (.int .i64 s.now) := h3.cells.2.2.2.2.2.1
 have lc := h3.plt.blk.lt
 have ncx : m.cb ≠ w.heap.size := by omega
 have z1 := R3.lt
 have k2 := k.setCell (p := ⟨w.heap.size, 4, none⟩) (by simp) (.int .i64 s.now)
 have h4 := (unhide HG).fresh k2
 have R4 := R3.other (p := ⟨w.heap.size, 4, none⟩) (by simp) (.int .i64 s.now)
 have H4 := hide h4
 have HR4 := hide R4
 have HK3 := hide k2
 have zz : (W1.setCell ⟨w.heap.size, 4, none⟩ (.int .i64 s.now)).heap.size = W1.heap.size := by simp
 clear h3 R3 BX k k2 h4 R4
 go_wp2_with fail
 clear x0 x1 x2 x3 x4 x5 x6 x7 x8 lx fx cn lc
 generalize hW : W1.setCell ⟨w.heap.size, 4, none⟩ (.int .i64 s.now) = W2 at *
 clear hW
 refine (vtear_all (m.vb 2) m.cb n s.d m.u (atO xo s.now) xkeep W2 ((unhide H4).vgr 2 n (by decide) (unhide HNS)) (unhide H4).plt (unhide hbp) (unhide HI) p1 p2).mono ?_
 rintro e w5 ⟨rfl, u5, V5, P5, g5, nx5⟩
 have X5 := (unhide H4).verOp (i := 2) (d' := wrD s.d n (atO xo s.now) xkeep) (by decide) (unhide HNS) rfl V5 P5 g5 nx5 (unhide PLX)
 have R5 := X5.blk (unhide HR4) (crw_at m w.heap.size (by omega))
 have o5 := X5.ow (w.heap.size + 1) (by omega) (crw_at m w.heap.size (by omega))
 clear V5 P5 g5 nx5 H4 HR4
 obtain ⟨r0, r1, r2, t0, t1, t2⟩ := R5.three
 have l5 := R5.lt
 have HX := hide X5
 have HR := hide R5
 clear X5 R5
 go_wp2
 have R7 := (((unhide HR).set 0 (.int .i64 (wrC s.d n (atO xo s.now) xkeep))).set 1 (.int .i64 0)).set 2 (.int .i64 0)
 refine bodyPost_ret (v := ansV ⟨wrC s.d n (atO xo s.now) xkeep, 0, 0⟩) (ret_ans rfl rfl R7) rfl ?_
 have k7 := (((Chg.refl [w.heap.size + 1] w5).setCell (p := ⟨w.heap.size + 1, 0, none⟩) (by simp) (.int .i64 (wrC s.d n (atO xo s.now) xkeep))).setCell (p := ⟨w.heap.size + 1, 1, none⟩) (by simp) (.int .i64 0)).setCell (p := ⟨w.heap.size + 1, 2, none⟩) (by simp) (.int .i64 0)
 exact ⟨rfl, _, (Cnx.pre (unhide HK3) (unhide HX)).post k7 (by intro y hy; simp at hy; subst hy; exact ⟨o5, by omega⟩) zw⟩
set_option maxRecDepth 100000 in
set_option maxHeartbeats 4000000 in
theorem cstep_ask4_nil0 (W0 : World) (m : Cm) (s : Gd) (x : Sp) (w : World) (h : Chp W0 w m s) (k1 : x.k = 4) (hx : x.n = 0) (hn : s.ns 0 = none) :
  Calls Tryz.prog 43 #[.pointer (some ⟨m.cb, 0, none⟩), spV x] w fun e w' => e = .returned (ansV ⟨5, 0, 0⟩) ∧ ∃ m', Cnx W0 w m w' m' s := by
 have lg := h.plt.blk.lt
 have zw := h.ch.size
 obtain ⟨c0, c1, c2, c3, c4, c5, -⟩ := h.cells
 obtain ⟨rs, t, pl⟩ := h.pl
 have n0 := pl.n0
 have n1 := pl.n1
 have e0 := pl.e0
 have e1 := pl.e1
 have HPL := hide pl
 have HG := hide h
 clear h pl
 obtain ⟨xk, xn, xkeep, xo⟩ := x
 dsimp only at k1 hx ⊢
 subst hx
 have b1 : (xk == 1) = false := by simp [k1]
 have b5 : (xk == 5) = false := by simp [k1]
 have b2 : (xk == 2) = false := by simp [k1]
 have b3 : (xk == 3) = false := by simp [k1]
 have b4 : (xk == 4) = true := by simp [k1]
 rw [hn] at c2
 have cc : w.cell? ⟨m.cb, 2, none⟩ = some (.pointer none) := c2
 clear k1 c0 c1 c2 c3 c4 c5 n0 n1 e0 e1 hn
 unfold spV spC
 dsimp only
 go_enter Tryz.func43, Tryz.ntmps43
 go_wp2_with fail
 go_quiet (fail)
 go_wp2
 have R0 := show Blk (((w.alloc (.cells #[.int .i64 xk, .int .i64 0, .int .i64 xkeep, .int .i64 xo.k, .int .i64 xo.now, .int .i64 xo.jb, .int .i64 xo.tr, .int .i64 xo.wk, .int .i64 xo.tm] 85)).alloc (.cells #[.int .i64 0, .int .i64 0, .int .i64 0] 95)).drewN nq) (w.heap.size + 1) _ _ from Blk.new1 w (.cells #[.int .i64 xk, .int .i64 0, .int .i64 xkeep, .int .i64 xo.k, .int .i64 xo.now, .int .i64 xo.jb, .int .i64 xo.tr, .int .i64 xo.wk, .int .i64 xo.tm] 85) #[.int .i64 0, .int .i64 0, .int .i64 0] 95
 have R7 := ((R0.set 0 (.int .i64 5)).set 1 (.int .i64 0)).set 2 (.int .i64 0)
 refine bodyPost_ret (v := ansV ⟨5, 0, 0⟩) (ret_ans rfl rfl R7) rfl ?_
 have k7 := ((((((Chg.refl [] w).alloc (.cells #[.int .i64 xk, .int .i64 0, .int .i64 xkeep, .int .i64 xo.k, .int .i64 xo.now, .int .i64 xo.jb, .int .i64 xo.tr, .int .i64 xo.wk, .int .i64 xo.tm] 85)).alloc (.cells #[.int .i64 0, .int .i64 0, .int .i64 0] 95)).drewN nq).setCell (p := ⟨w.heap.size + 1, 0, none⟩) (by simp) (.int .i64 5)).setCell (p := ⟨w.heap.size + 1, 1, none⟩) (by simp) (.int .i64 0)).setCell (p := ⟨w.heap.size + 1, 2, none⟩) (by simp) (.int .i64 0)
 exact ⟨rfl, _, Cnx.pre k7 (Cnx.refl ((unhide HG).fresh k7))⟩
set_option maxRecDepth 100000 in
set_option maxHeartbeats 4000000 in
theorem cstep_ask4_some0 (W0 : World) (m : Cm) (s : Gd) (x : Sp) (w : World) (h : Chp W0 w m s) (n : Nd) (k1 : x.k = 4) (hx : x.n = 0) (hn : s.ns 0 = some n) :
  Calls Tryz.prog 43 #[.pointer (some ⟨m.cb, 0, none⟩), spV x] w fun e w' => e = .returned (ansV ⟨0, 0, 0⟩) ∧ ∃ m', Cnx W0 w m w' m' ⟨s.now, s.d, upG s.ns 0 (stopN n)⟩ := by
 have lg := h.plt.blk.lt
 have zw := h.ch.size
 obtain ⟨c0, c1, c2, c3, c4, c5, -⟩ := h.cells
 obtain ⟨rs, t, pl⟩ := h.pl
 have n0 := pl.n0
 have n1 := pl.n1
 have e0 := pl.e0
 have e1 := pl.e1
 have HPL := hide pl
 have HG := hide h
 clear h pl
 have PLX : Hid (∃ rs t, PlG ⟨s.now, s.d, upG s.ns 0 (stopN n)⟩ rs t) := hide (by
  obtain ⟨rs', t', pl', -⟩ := (unhide HPL).step x
  have e : stepG s x = askG s x 0 n := by
   unfold stepG
   rw [if_neg (by omega), if_neg (by omega), if_pos (by omega)]
   have e2 : nodeG s x.n = some n := by rw [hx]; exact hn
   unfold orderG
   rw [e2, hx]
   rfl
  rw [e] at pl'
  unfold askG at pl'
  rw [if_neg (by omega), if_neg (by omega)] at pl'
  exact ⟨rs', t', pl'⟩)
 obtain ⟨p1, p2, p3⟩ := (unhide HG).pos (by decide) hn
 have HI := hide p3
 have hov := (unhide HG).ov 0 n (by decide) hn
 have hbp : Hid (m.vb 0 ∉ fp m.cb m.u) := hide (fun hf => by have := (unhide HG).op _ hf; rw [hov] at this; omega)
 have HNS := hide hn
 rw [hn] at c2
 have cc : w.cell? ⟨m.cb, 2, none⟩ = some (.pointer (some ⟨m.vb 0, 0, none⟩)) := c2
 have cn := c5
 clear p3 hov hn
 obtain ⟨xk, xn, xkeep, xo⟩ := x
 dsimp only at k1 hx ⊢
 subst hx
 have b1 : (xk == 1) = false := by simp [k1]
 have b5 : (xk == 5) = false := by simp [k1]
 have b2 : (xk == 2) = false := by simp [k1]
 have b3 : (xk == 3) = false := by simp [k1]
 have b4 : (xk == 4) = true := by simp [k1]
 clear k1 c0 c1 c2 c3 c4 c5 n0 n1 e0 e1
 unfold spV spC
 dsimp only
 go_enter Tryz.func43, Tryz.ntmps43
 go_wp2_with fail
 go_quiet (fail)
 have k : Chg [] w (((w.alloc (.cells #[.int .i64 xk, .int .i64 0, .int .i64 xkeep, .int .i64 xo.k, .int .i64 xo.now, .int .i64 xo.jb, .int .i64 xo.tr, .int .i64 xo.wk, .int .i64 xo.tm] 85)).alloc (.cells #[.int .i64 0, .int .i64 0, .int .i64 0] 95)).drewN nq) := (((Chg.refl [] w).alloc _).alloc _).drewN nq
 have h3 := (unhide HG).fresh k
 have R3 := show Blk (((w.alloc (.cells #[.int .i64 xk, .int .i64 0, .int .i64 xkeep, .int .i64 xo.k, .int .i64 xo.now, .int .i64 xo.jb, .int .i64 xo.tr, .int .i64 xo.wk, .int .i64 xo.tm] 85)).alloc (.cells #[.int .i64 0, .int .i64 0, .int .i64 0] 95)).drewN nq) (w.heap.size + 1) _ _ from Blk.new1 w (.cells #[.int .i64 xk, .int .i64 0, .int .i64 xkeep, .int .i64 xo.k, .int .i64 xo.now, .int .i64 xo.jb, .int .i64 xo.tr, .int .i64 xo.wk, .int .i64 xo.tm] 85) #[.int .i64 0, .int .i64 0, .int .i64 0] 95
 have BX := show Blk (((w.alloc (.cells #[.int .i64 xk, .int .i64 0, .int .i64 xkeep, .int .i64 xo.k, .int .i64 xo.now, .int .i64 xo.jb, .int .i64 xo.tr, .int .i64 xo.wk, .int .i64 xo.tm] 85)).alloc (.cells #[.int .i64 0, .int .i64 0, .int .i64 0] 95)).drewN nq) w.heap.size _ _ from (Blk.new w #[.int .i64 xk, .int .i64 0, .int .i64 xkeep, .int .i64 xo.k, .int .i64 xo.now, .int .i64 xo.jb, .int .i64 xo.tr, .int .i64 xo.wk, .int .i64 xo.tm] 85).alloc (.cells #[.int .i64 0, .int .i64 0, .int .i64 0] 95)
 clear cc cn
 generalize hW : World.drewN _ nq = W at *
 clear hW nq
 have x1 : W.cell? ⟨w.heap.size, 1, none⟩ = some (.int .i64 0) := BX.cell 1
 have lx := BX.lt
 have cc : W.cell? ⟨m.cb, 2, none⟩ = some (.pointer (some ⟨m.vb 0, 0, none⟩)) := by
  have hq := h3.cells.2.2.1
  rw [unhide HNS] at hq
  exact hq
 have lc := h3.plt.blk.lt
 have H3 := hide h3
 have HR3 := hide R3
 have HBX := hide BX
 have HK := hide k
 clear h3 R3 BX k
 go_wp2_with fail
 go_quiet (fail)
 have k := (unhide HK).drewN nq
 have h3 := (unhide HG).fresh k
 have R3 := show Blk (W.drewN nq) (w.heap.size + 1) _ _ from unhide HR3
 have BX := show Blk (W.drewN nq) w.heap.size _ _ from unhide HBX
 clear H3 HR3 HBX HK x1 lx cc lc
 generalize hW : World.drewN _ nq = W1 at *
 clear hW nq
 obtain ⟨x0, x1, x2, x3, x4, x5, x6, x7, x8⟩ : W1.cell? ⟨w.heap.size, 0, none⟩ = some (.int .i64 xk) ∧ W1.cell? ⟨w.heap.size, 1, none⟩ = some (.int .i64 0) ∧ W1.cell? ⟨w.heap.size, 2, none⟩ = some (.int .i64 xkeep) ∧ W1.cell? ⟨w.heap.size, 3, none⟩ = some (.int .i64 xo.k) ∧ W1.cell? ⟨w.heap.size, 4, none⟩ = some (.int .i64 xo.now) ∧ W1.cell? ⟨w.heap.size, 5, none⟩ = some (.int .i64 xo.jb) ∧ W1.cell? ⟨w.heap.size, 6, none⟩ = some (.int .i64 xo.tr) ∧ W1.cell? ⟨w.heap.size, 7, none⟩ = some (.int .i64 xo.wk) ∧ W1.cell? ⟨w.heap.size, 8, none⟩ = some (.int .i64 xo.tm) := ⟨BX.cell 0, BX.cell 1, BX.cell 2, BX.cell 3, BX.cell 4, BX.cell 5, BX.cell 6, BX.cell 7, BX.cell 8⟩
 have lx := BX.lt
 have fx := BX.fz 4
 have cn : W1.cell? ⟨m.cb, 5, none⟩ = some (.int .i64 s.now) := h3.cells.2.2.2.2.2.1
 have lc := h3.plt.blk.lt
 have ncx : m.cb ≠ w.heap.size := by omega
 have z1 := R3.lt
 have k2 := k.setCell (p := ⟨w.heap.size, 4, none⟩) (by simp) (.int .i64 s.now)
 have h4 := (unhide HG).fresh k2
 have R4 := R3.other (p := ⟨w.heap.size, 4, none⟩) (by simp) (.int .i64 s.now)
 have H4 := hide h4
 have HR4 := hide R4
 have HK3 := hide k2
 have zz : (W1.setCell ⟨w.heap.size, 4, none⟩ (.int .i64 s.now)).heap.size = W1.heap.size := by simp
 obtain ⟨v0, v1, v2, vf, lb⟩ := Vgr.tail (h3.vgr 0 n (by decide) (unhide HNS))
 obtain ⟨r0, r1, r2, t0, t1, t2⟩ := R3.three
 have lb0 : m.vb 0 < w.heap.size := ((unhide HG).vgr 0 n (by decide) (unhide HNS)).lt
 clear h3 R3 BX k k2 h4 R4
 go_wp2
 have V5 : Vn ((W1.setCell ⟨w.heap.size, 4, none⟩ (.int .i64 s.now)).setCell ⟨m.vb 0, 27, none⟩ (.bool true)) (m.vb 0) m.cb (stopN n) := Vgr.setDown ((unhide H4).vgr 0 n (by decide) (unhide HNS)) true
 have g5 : Chg [m.vb 0, m.cb] (W1.setCell ⟨w.heap.size, 4, none⟩ (.int .i64 s.now)) ((W1.setCell ⟨w.heap.size, 4, none⟩ (.int .i64 s.now)).setCell ⟨m.vb 0, 27, none⟩ (.bool true)) := (Chg.refl _ _).setCell (by simp) _
 have P5 := (unhide H4).plt.chg ((Chg.refl [m.vb 0] (W1.setCell ⟨w.heap.size, 4, none⟩ (.int .i64 s.now))).setCell (p := ⟨m.vb 0, 27, none⟩) (by simp) (.bool true)) (by intro y hy; simp at hy; subst hy; exact unhide hbp)
 have X5 := (unhide H4).verOp (i := 0) (d' := s.d) (by decide) (unhide HNS) rfl V5 P5 g5 (Pnx.same _ _) (unhide PLX)
 have R5 := X5.blk (unhide HR4) (crw_at m w.heap.size (by omega))
 have o5 := X5.ow (w.heap.size + 1) (by omega) (crw_at m w.heap.size (by omega))
 have R7 := ((R5.set 0 (.int .i64 0)).set 1 (.int .i64 0)).set 2 (.int .i64 0)
 refine bodyPost_ret (v := ansV ⟨0, 0, 0⟩) (ret_ans rfl rfl R7) rfl ?_
 have k7 := (((Chg.refl [w.heap.size + 1] ((W1.setCell ⟨w.heap.size, 4, none⟩ (.int .i64 s.now)).setCell ⟨m.vb 0, 27, none⟩ (.bool true))).setCell (p := ⟨w.heap.size + 1, 0, none⟩) (by simp) (.int .i64 0)).setCell (p := ⟨w.heap.size + 1, 1, none⟩) (by simp) (.int .i64 0)).setCell (p := ⟨w.heap.size + 1, 2, none⟩) (by simp) (.int .i64 0)
 exact ⟨rfl, _, (Cnx.pre (unhide HK3) X5).post k7 (by intro y hy; simp at hy; subst hy; exact ⟨o5, by omega⟩) zw⟩
set_option maxRecDepth 100000 in
set_option maxHeartbeats 4000000 in
theorem cstep_ask4_nil1 (W0 : World) (m : Cm) (s : Gd) (x : Sp) (w : World) (h : Chp W0 w m s) (k1 : x.k = 4) (hx : x.n = 1) (hn : s.ns 1 = none) :
  Calls Tryz.prog 43 #[.pointer (some ⟨m.cb, 0, none⟩), spV x] w fun e w' => e = .returned (ansV ⟨5, 0, 0⟩) ∧ ∃ m', Cnx W0 w m w' m' s := by
 have lg := h.plt.blk.lt
 have zw := h.ch.size
 obtain ⟨c0, c1, c2, c3, c4, c5, -⟩ := h.cells
 obtain ⟨rs, t, pl⟩ := h.pl
 have n0 := pl.n0
 have n1 := pl.n1
 have e0 := pl.e0
 have e1 := pl.e1
 have HPL := hide pl
 have HG := hide h
 clear h pl
 obtain ⟨xk, xn, xkeep, xo⟩ := x
 dsimp only at k1 hx ⊢
 subst hx
 have b1 : (xk == 1) = false := by simp [k1]
 have b5 : (xk == 5) = false := by simp [k1]
 have b2 : (xk == 2) = false := by simp [k1]
 have b3 : (xk == 3) = false := by simp [k1]
 have b4 : (xk == 4) = true := by simp [k1]
 rw [hn] at c3
 have cc : w.cell? ⟨m.cb, 3, none⟩ = some (.pointer none) := c3
 clear k1 c0 c1 c2 c3 c4 c5 n0 n1 e0 e1 hn
 unfold spV spC
 dsimp only
 go_enter Tryz.func43, Tryz.ntmps43
 go_wp2_with fail
 go_quiet (fail)
 go_wp2
 have R0 := show Blk (((w.alloc (.cells #[.int .i64 xk, .int .i64 1, .int .i64 xkeep, .int .i64 xo.k, .int .i64 xo.now, .int .i64 xo.jb, .int .i64 xo.tr, .int .i64 xo.wk, .int .i64 xo.tm] 85)).alloc (.cells #[.int .i64 0, .int .i64 0, .int .i64 0] 95)).drewN nq) (w.heap.size + 1) _ _ from Blk.new1 w (.cells #[.int .i64 xk, .int .i64 1, .int .i64 xkeep, .int .i64 xo.k, .int .i64 xo.now, .int .i64 xo.jb, .int .i64 xo.tr, .int .i64 xo.wk, .int .i64 xo.tm] 85) #[.int .i64 0, .int .i64 0, .int .i64 0] 95
 have R7 := ((R0.set 0 (.int .i64 5)).set 1 (.int .i64 0)).set 2 (.int .i64 0)
 refine bodyPost_ret (v := ansV ⟨5, 0, 0⟩) (ret_ans rfl rfl R7) rfl ?_
 have k7 := ((((((Chg.refl [] w).alloc (.cells #[.int .i64 xk, .int .i64 1, .int .i64 xkeep, .int .i64 xo.k, .int .i64 xo.now, .int .i64 xo.jb, .int .i64 xo.tr, .int .i64 xo.wk, .int .i64 xo.tm] 85)).alloc (.cells #[.int .i64 0, .int .i64 0, .int .i64 0] 95)).drewN nq).setCell (p := ⟨w.heap.size + 1, 0, none⟩) (by simp) (.int .i64 5)).setCell (p := ⟨w.heap.size + 1, 1, none⟩) (by simp) (.int .i64 0)).setCell (p := ⟨w.heap.size + 1, 2, none⟩) (by simp) (.int .i64 0)
 exact ⟨rfl, _, Cnx.pre k7 (Cnx.refl ((unhide HG).fresh k7))⟩
set_option maxRecDepth 100000 in
set_option maxHeartbeats 4000000 in
theorem cstep_ask4_some1 (W0 : World) (m : Cm) (s : Gd) (x : Sp) (w : World) (h : Chp W0 w m s) (n : Nd) (k1 : x.k = 4) (hx : x.n = 1) (hn : s.ns 1 = some n) :
  Calls Tryz.prog 43 #[.pointer (some ⟨m.cb, 0, none⟩), spV x] w fun e w' => e = .returned (ansV ⟨0, 0, 0⟩) ∧ ∃ m', Cnx W0 w m w' m' ⟨s.now, s.d, upG s.ns 1 (stopN n)⟩ := by
 have lg := h.plt.blk.lt
 have zw := h.ch.size
 obtain ⟨c0, c1, c2, c3, c4, c5, -⟩ := h.cells
 obtain ⟨rs, t, pl⟩ := h.pl
 have n0 := pl.n0
 have n1 := pl.n1
 have e0 := pl.e0
 have e1 := pl.e1
 have HPL := hide pl
 have HG := hide h
 clear h pl
 have PLX : Hid (∃ rs t, PlG ⟨s.now, s.d, upG s.ns 1 (stopN n)⟩ rs t) := hide (by
  obtain ⟨rs', t', pl', -⟩ := (unhide HPL).step x
  have e : stepG s x = askG s x 1 n := by
   unfold stepG
   rw [if_neg (by omega), if_neg (by omega), if_pos (by omega)]
   have e2 : nodeG s x.n = some n := by rw [hx]; exact hn
   unfold orderG
   rw [e2, hx]
   rfl
  rw [e] at pl'
  unfold askG at pl'
  rw [if_neg (by omega), if_neg (by omega)] at pl'
  exact ⟨rs', t', pl'⟩)
 obtain ⟨p1, p2, p3⟩ := (unhide HG).pos (by decide) hn
 have HI := hide p3
 have hov := (unhide HG).ov 1 n (by decide) hn
 have hbp : Hid (m.vb 1 ∉ fp m.cb m.u) := hide (fun hf => by have := (unhide HG).op _ hf; rw [hov] at this; omega)
 have HNS := hide hn
 rw [hn] at c3
 have cc : w.cell? ⟨m.cb, 3, none⟩ = some (.pointer (some ⟨m.vb 1, 0, none⟩)) := c3
 have cn := c5
 clear p3 hov hn
 obtain ⟨xk, xn, xkeep, xo⟩ := x
 dsimp only at k1 hx ⊢
 subst hx
 have b1 : (xk == 1) = false := by simp [k1]
 have b5 : (xk == 5) = false := by simp [k1]
 have b2 : (xk == 2) = false := by simp [k1]
 have b3 : (xk == 3) = false := by simp [k1]
 have b4 : (xk == 4) = true := by simp [k1]
 clear k1 c0 c1 c2 c3 c4 c5 n0 n1 e0 e1
 unfold spV spC
 dsimp only
 go_enter Tryz.func43, Tryz.ntmps43
 go_wp2_with fail
 go_quiet (fail)
 have k : Chg [] w (((w.alloc (.cells #[.int .i64 xk, .int .i64 1, .int .i64 xkeep, .int .i64 xo.k, .int .i64 xo.now, .int .i64 xo.jb, .int .i64 xo.tr, .int .i64 xo.wk, .int .i64 xo.tm] 85)).alloc (.cells #[.int .i64 0, .int .i64 0, .int .i64 0] 95)).drewN nq) := (((Chg.refl [] w).alloc _).alloc _).drewN nq
 have h3 := (unhide HG).fresh k
 have R3 := show Blk (((w.alloc (.cells #[.int .i64 xk, .int .i64 1, .int .i64 xkeep, .int .i64 xo.k, .int .i64 xo.now, .int .i64 xo.jb, .int .i64 xo.tr, .int .i64 xo.wk, .int .i64 xo.tm] 85)).alloc (.cells #[.int .i64 0, .int .i64 0, .int .i64 0] 95)).drewN nq) (w.heap.size + 1) _ _ from Blk.new1 w (.cells #[.int .i64 xk, .int .i64 1, .int .i64 xkeep, .int .i64 xo.k, .int .i64 xo.now, .int .i64 xo.jb, .int .i64 xo.tr, .int .i64 xo.wk, .int .i64 xo.tm] 85) #[.int .i64 0, .int .i64 0, .int .i64 0] 95
 have BX := show Blk (((w.alloc (.cells #[.int .i64 xk, .int .i64 1, .int .i64 xkeep, .int .i64 xo.k, .int .i64 xo.now, .int .i64 xo.jb, .int .i64 xo.tr, .int .i64 xo.wk, .int .i64 xo.tm] 85)).alloc (.cells #[.int .i64 0, .int .i64 0, .int .i64 0] 95)).drewN nq) w.heap.size _ _ from (Blk.new w #[.int .i64 xk, .int .i64 1, .int .i64 xkeep, .int .i64 xo.k, .int .i64 xo.now, .int .i64 xo.jb, .int .i64 xo.tr, .int .i64 xo.wk, .int .i64 xo.tm] 85).alloc (.cells #[.int .i64 0, .int .i64 0, .int .i64 0] 95)
 clear cc cn
 generalize hW : World.drewN _ nq = W at *
 clear hW nq
 have x1 : W.cell? ⟨w.heap.size, 1, none⟩ = some (.int .i64 1) := BX.cell 1
 have lx := BX.lt
 have cc : W.cell? ⟨m.cb, 3, none⟩ = some (.pointer (some ⟨m.vb 1, 0, none⟩)) := by
  have hq := h3.cells.2.2.2.1
  rw [unhide HNS] at hq
  exact hq
 have lc := h3.plt.blk.lt
 have H3 := hide h3
 have HR3 := hide R3
 have HBX := hide BX
 have HK := hide k
 clear h3 R3 BX k
 go_wp2_with fail
 go_quiet (fail)
 have k := (unhide HK).drewN nq
 have h3 := (unhide HG).fresh k
 have R3 := show Blk (W.drewN nq) (w.heap.size + 1) _ _ from unhide HR3
 have BX := show Blk (W.drewN nq) w.heap.size _ _ from unhide HBX
 clear H3 HR3 HBX HK x1 lx cc lc
 generalize hW : World.drewN _ nq = W1 at *
 clear hW nq
 obtain ⟨x0, x1, x2, x3, x4, x5, x6, x7, x8⟩ : W1.cell? ⟨w.heap.size, 0, none⟩ = some (.int .i64 xk) ∧ W1.cell? ⟨w.heap.size, 1, none⟩ = some (.int .i64 1) ∧ W1.cell? ⟨w.heap.size, 2, none⟩ = some (.int .i64 xkeep) ∧ W1.cell? ⟨w.heap.size, 3, none⟩ = some (.int .i64 xo.k) ∧ W1.cell? ⟨w.heap.size, 4, none⟩ = some (.int .i64 xo.now) ∧ W1.cell? ⟨w.heap.size, 5, none⟩ = some (.int .i64 xo.jb) ∧ W1.cell? ⟨w.heap.size, 6, none⟩ = some (.int .i64 xo.tr) ∧ W1.cell? ⟨w.heap.size, 7, none⟩ = some (.int .i64 xo.wk) ∧ W1.cell? ⟨w.heap.size, 8, none⟩ = some (.int .i64 xo.tm) := ⟨BX.cell 0, BX.cell 1, BX.cell 2, BX.cell 3, BX.cell 4, BX.cell 5, BX.cell 6, BX.cell 7, BX.cell 8⟩
 have lx := BX.lt
 have fx := BX.fz 4
 have cn : W1.cell? ⟨m.cb, 5, none⟩ = some (.int .i64 s.now) := h3.cells.2.2.2.2.2.1
 have lc := h3.plt.blk.lt
 have ncx : m.cb ≠ w.heap.size := by omega
 have z1 := R3.lt
 have k2 := k.setCell (p := ⟨w.heap.size, 4, none⟩) (by simp) (.int .i64 s.now)
 have h4 := (unhide HG).fresh k2
 have R4 := R3.other (p := ⟨w.heap.size, 4, none⟩) (by simp) (.int .i64 s.now)
 have H4 := hide h4
 have HR4 := hide R4
 have HK3 := hide k2
 have zz : (W1.setCell ⟨w.heap.size, 4, none⟩ (.int .i64 s.now)).heap.size = W1.heap.size := by simp
 obtain ⟨v0, v1, v2, vf, lb⟩ := Vgr.tail (h3.vgr 1 n (by decide) (unhide HNS))
 obtain ⟨r0, r1, r2, t0, t1, t2⟩ := R3.three
 have lb0 : m.vb 1 < w.heap.size := ((unhide HG).vgr 1 n (by decide) (unhide HNS)).lt
 clear h3 R3 BX k k2 h4 R4
 go_wp2
 have V5 : Vn ((W1.setCell ⟨w.heap.size, 4, none⟩ (.int .i64 s.now)).setCell ⟨m.vb 1, 27, none⟩ (.bool true)) (m.vb 1) m.cb (stopN n) := Vgr.setDown ((unhide H4).vgr 1 n (by decide) (unhide HNS)) true
 have g5 : Chg [m.vb 1, m.cb] (W1.setCell ⟨w.heap.size, 4, none⟩ (.int .i64 s.now)) ((W1.setCell ⟨w.heap.size, 4, none⟩ (.int .i64 s.now)).setCell ⟨m.vb 1, 27, none⟩ (.bool true)) := (Chg.refl _ _).setCell (by simp) _
 have P5 := (unhide H4).plt.chg ((Chg.refl [m.vb 1] (W1.setCell ⟨w.heap.size, 4, none⟩ (.int .i64 s.now))).setCell (p := ⟨m.vb 1, 27, none⟩) (by simp) (.bool true)) (by intro y hy; simp at hy; subst hy; exact unhide hbp)
 have X5 := (unhide H4).verOp (i := 1) (d' := s.d) (by decide) (unhide HNS) rfl V5 P5 g5 (Pnx.same _ _) (unhide PLX)
 have R5 := X5.blk (unhide HR4) (crw_at m w.heap.size (by omega))
 have o5 := X5.ow (w.heap.size + 1) (by omega) (crw_at m w.heap.size (by omega))
 have R7 := ((R5.set 0 (.int .i64 0)).set 1 (.int .i64 0)).set 2 (.int .i64 0)
 refine bodyPost_ret (v := ansV ⟨0, 0, 0⟩) (ret_ans rfl rfl R7) rfl ?_
 have k7 := (((Chg.refl [w.heap.size + 1] ((W1.setCell ⟨w.heap.size, 4, none⟩ (.int .i64 s.now)).setCell ⟨m.vb 1, 27, none⟩ (.bool true))).setCell (p := ⟨w.heap.size + 1, 0, none⟩) (by simp) (.int .i64 0)).setCell (p := ⟨w.heap.size + 1, 1, none⟩) (by simp) (.int .i64 0)).setCell (p := ⟨w.heap.size + 1, 2, none⟩) (by simp) (.int .i64 0)
 exact ⟨rfl, _, (Cnx.pre (unhide HK3) X5).post k7 (by intro y hy; simp at hy; subst hy; exact ⟨o5, by omega⟩) zw⟩
set_option maxRecDepth 100000 in
set_option maxHeartbeats 4000000 in
theorem cstep_ask4_nil2 (W0 : World) (m : Cm) (s : Gd) (x : Sp) (w : World) (h : Chp W0 w m s) (k1 : x.k = 4) (hx : x.n = 2) (hn : s.ns 2 = none) :
  Calls Tryz.prog 43 #[.pointer (some ⟨m.cb, 0, none⟩), spV x] w fun e w' => e = .returned (ansV ⟨5, 0, 0⟩) ∧ ∃ m', Cnx W0 w m w' m' s := by
 have lg := h.plt.blk.lt
 have zw := h.ch.size
 obtain ⟨c0, c1, c2, c3, c4, c5, -⟩ := h.cells
 obtain ⟨rs, t, pl⟩ := h.pl
 have n0 := pl.n0
 have n1 := pl.n1
 have e0 := pl.e0
 have e1 := pl.e1
 have HPL := hide pl
 have HG := hide h
 clear h pl
 obtain ⟨xk, xn, xkeep, xo⟩ := x
 dsimp only at k1 hx ⊢
 subst hx
 have b1 : (xk == 1) = false := by simp [k1]
 have b5 : (xk == 5) = false := by simp [k1]
 have b2 : (xk == 2) = false := by simp [k1]
 have b3 : (xk == 3) = false := by simp [k1]
 have b4 : (xk == 4) = true := by simp [k1]
 rw [hn] at c4
 have cc : w.cell? ⟨m.cb, 4, none⟩ = some (.pointer none) := c4
 clear k1 c0 c1 c2 c3 c4 c5 n0 n1 e0 e1 hn
 unfold spV spC
 dsimp only
 go_enter Tryz.func43, Tryz.ntmps43
 go_wp2_with fail
 go_quiet (fail)
 go_wp2
 have R0 := show Blk (((w.alloc (.cells #[.int .i64 xk, .int .i64 2, .int .i64 xkeep, .int .i64 xo.k, .int .i64 xo.now, .int .i64 xo.jb, .int .i64 xo.tr, .int .i64 xo.wk, .int .i64 xo.tm] 85)).alloc (.cells #[.int .i64 0, .int .i64 0, .int .i64 0] 95)).drewN nq) (w.heap.size + 1) _ _ from Blk.new1 w (.cells #[.int .i64 xk, .int .i64 2, .int .i64 xkeep, .int .i64 xo.k, .int .i64 xo.now, .int .i64 xo.jb, .int .i64 xo.tr, .int .i64 xo.wk, .int .i64 xo.tm] 85) #[.int .i64 0, .int .i64 0, .int .i64 0] 95
 have R7 := ((R0.set 0 (.int .i64 5)).set 1 (.int .i64 0)).set 2 (.int .i64 0)
 refine bodyPost_ret (v := ansV ⟨5, 0, 0⟩) (ret_ans rfl rfl R7) rfl ?_
 have k7 := ((((((Chg.refl [] w).alloc (.cells #[.int .i64 xk, .int .i64 2, .int .i64 xkeep, .int .i64 xo.k, .int .i64 xo.now, .int .i64 xo.jb, .int .i64 xo.tr, .int .i64 xo.wk, .int .i64 xo.tm] 85)).alloc (.cells #[.int .i64 0, .int .i64 0, .int .i64 0] 95)).drewN nq).setCell (p := ⟨w.heap.size + 1, 0, none⟩) (by simp) (.int .i64 5)).setCell (p := ⟨w.heap.size + 1, 1, none⟩) (by simp) (.int .i64 0)).setCell (p := ⟨w.heap.size + 1, 2, none⟩) (by simp) (.int .i64 0)
 exact ⟨rfl, _, Cnx.pre k7 (Cnx.refl ((unhide HG).fresh k7))⟩
set_option maxRecDepth 100000 in
set_option maxHeartbeats 4000000 in
theorem cstep_ask4_some2 (W0 : World) (m : Cm) (s : Gd) (x : Sp) (w : World) (h : Chp W0 w m s) (n : Nd) (k1 : x.k = 4) (hx : x.n = 2) (hn : s.ns 2 = some n) :
  Calls Tryz.prog 43 #[.pointer (some ⟨m.cb, 0, none⟩), spV x] w fun e w' => e = .returned (ansV ⟨0, 0, 0⟩) ∧ ∃ m', Cnx W0 w m w' m' ⟨s.now, s.d, upG s.ns 2 (stopN n)⟩ := by
 have lg := h.plt.blk.lt
 have zw := h.ch.size
 obtain ⟨c0, c1, c2, c3, c4, c5, -⟩ := h.cells
 obtain ⟨rs, t, pl⟩ := h.pl
 have n0 := pl.n0
 have n1 := pl.n1
 have e0 := pl.e0
 have e1 := pl.e1
 have HPL := hide pl
 have HG := hide h
 clear h pl
 have PLX : Hid (∃ rs t, PlG ⟨s.now, s.d, upG s.ns 2 (stopN n)⟩ rs t) := hide (by
  obtain ⟨rs', t', pl', -⟩ := (unhide HPL).step x
  have e : stepG s x = askG s x 2 n := by
   unfold stepG
   rw [if_neg (by omega), if_neg (by omega), if_pos (by omega)]
   have e2 : nodeG s x.n = some n := by rw [hx]; exact hn
   unfold orderG
   rw [e2, hx]
   rfl
  rw [e] at pl'
  unfold askG at pl'
  rw [if_neg (by omega), if_neg (by omega)] at pl'
  exact ⟨rs', t', pl'⟩)
 obtain ⟨p1, p2, p3⟩ := (unhide HG).pos (by decide) hn
 have HI := hide p3
 have hov := (unhide HG).ov 2 n (by decide) hn
 have hbp : Hid (m.vb 2 ∉ fp m.cb m.u) := hide (fun hf => by have := (unhide HG).op _ hf; rw [hov] at this; omega)
 have HNS := hide hn
 rw [hn] at c4
 have cc : w.cell? ⟨m.cb, 4, none⟩ = some (.pointer (some ⟨m.vb 2, 0, none⟩)) := c4
 have cn := c5
 clear p3 hov hn
 obtain ⟨xk, xn, xkeep, xo⟩ := x
 dsimp only at k1 hx ⊢
 subst hx
 have b1 : (xk == 1) = false := by simp [k1]
 have b5 : (xk == 5) = false := by simp [k1]
 have b2 : (xk == 2) = false := by simp [k1]
 have b3 : (xk == 3) = false := by simp [k1]
 have b4 : (xk == 4) = true := by simp [k1]
 clear k1 c0 c1 c2 c3 c4 c5 n0 n1 e0 e1
 unfold spV spC
 dsimp only
 go_enter Tryz.func43, Tryz.ntmps43
 go_wp2_with fail
 go_quiet (fail)
 have k : Chg [] w (((w.alloc (.cells #[.int .i64 xk, .int .i64 2, .int .i64 xkeep, .int .i64 xo.k, .int .i64 xo.now, .int .i64 xo.jb, .int .i64 xo.tr, .int .i64 xo.wk, .int .i64 xo.tm] 85)).alloc (.cells #[.int .i64 0, .int .i64 0, .int .i64 0] 95)).drewN nq) := (((Chg.refl [] w).alloc _).alloc _).drewN nq
 have h3 := (unhide HG).fresh k
 have R3 := show Blk (((w.alloc (.cells #[.int .i64 xk, .int .i64 2, .int .i64 xkeep, .int .i64 xo.k, .int .i64 xo.now, .int .i64 xo.jb, .int .i64 xo.tr, .int .i64 xo.wk, .int .i64 xo.tm] 85)).alloc (.cells #[.int .i64 0, .int .i64 0, .int .i64 0] 95)).drewN nq) (w.heap.size + 1) _ _ from Blk.new1 w (.cells #[.int .i64 xk, .int .i64 2, .int .i64 xkeep, .int .i64 xo.k, .int .i64 xo.now, .int .i64 xo.jb, .int .i64 xo.tr, .int .i64 xo.wk, .int .i64 xo.tm] 85) #[.int .i64 0, .int .i64 0, .int .i64 0] 95
 have BX := show Blk (((w.alloc (.cells #[.int .i64 xk, .int .i64 2, .int .i64 xkeep, .int .i64 xo.k, .int .i64 xo.now, .int .i64 xo.jb, .int .i64 xo.tr, .int .i64 xo.wk, .int .i64 xo.tm] 85)).alloc (.cells #[.int .i64 0, .int .i64 0, .int .i64 0] 95)).drewN nq) w.heap.size _ _ from (Blk.new w #[.int .i64 xk, .int .i64 2, .int .i64 xkeep, .int .i64 xo.k, .int .i64 xo.now, .int .i64 xo.jb, .int .i64 xo.tr, .int .i64 xo.wk, .int .i64 xo.tm] 85).alloc (.cells #[.int .i64 0, .int .i64 0, .int .i64 0] 95)
 clear cc cn
 generalize hW : World.drewN _ nq = W at *
 clear hW nq
 have x1 : W.cell? ⟨w.heap.size, 1, none⟩ = some (.int .i64 2) := BX.cell 1
 have lx := BX.lt
 have cc : W.cell? ⟨m.cb, 4, none⟩ = some (.pointer (some ⟨m.vb 2, 0, none⟩)) := by
  have hq := h3.cells.2.2.2.2.1
  rw [unhide HNS] at hq
  exact hq
 have lc := h3.plt.blk.lt
 have H3 := hide h3
 have HR3 := hide R3
 have HBX := hide BX
 have HK := hide k
 clear h3 R3 BX k
 go_wp2_with fail
 go_quiet (fail)
 have k := (unhide HK).drewN nq
 have h3 := (unhide HG).fresh k
 have R3 := show Blk (W.drewN nq) (w.heap.size + 1) _ _ from unhide HR3
 have BX := show Blk (W.drewN nq) w.heap.size _ _ from unhide HBX
 clear H3 HR3 HBX HK x1 lx cc lc
 generalize hW : World.drewN _ nq = W1 at *
 clear hW nq
 obtain ⟨x0, x1, x2, x3, x4, x5, x6, x7, x8⟩ : W1.cell? ⟨w.heap.size, 0, none⟩ = some (.int .i64 xk) ∧ W1.cell? ⟨w.heap.size, 1, none⟩ = some (.int .i64 2) ∧ W1.cell? ⟨w.heap.size, 2, none⟩ = some (.int .i64 xkeep) ∧ W1.cell? ⟨w.heap.size, 3, none⟩ = some (.int .i64 xo.k) ∧ W1.cell? ⟨w.heap.size, 4, none⟩ = some (.int .i64 xo.now) ∧ W1.cell? ⟨w.heap.size, 5, none⟩ = some (.int .i64 xo.jb) ∧ W1.cell? ⟨w.heap.size, 6, none⟩ = some (.int .i64 xo.tr) ∧ W1.cell? ⟨w.heap.size, 7, none⟩ = some (.int .i64 xo.wk) ∧ W1.cell? ⟨w.heap.size, 8, none⟩ = some (.int .i64 xo.tm) := ⟨BX.cell 0, BX.cell 1, BX.cell 2, BX.cell 3, BX.cell 4, BX.cell 5, BX.cell 6, BX.cell 7, BX.cell 8⟩
 have lx := BX.lt
 have fx := BX.fz 4
 have cn : W1.cell? ⟨m.cb, 5, none⟩ = some (.int .i64 s.now) := h3.cells.2.2.2.2.2.1
 have lc := h3.plt.blk.lt
 have ncx : m.cb ≠ w.heap.size := by omega
 have z1 := R3.lt
 have k2 := k.setCell (p := ⟨w.heap.size, 4, none⟩) (by simp) (.int .i64 s.now)
 have h4 := (unhide HG).fresh k2
 have R4 := R3.other (p := ⟨w.heap.size, 4, none⟩) (by simp) (.int .i64 s.now)
 have H4 := hide h4
 have HR4 := hide R4
 have HK3 := hide k2
 have zz : (W1.setCell ⟨w.heap.size, 4, none⟩ (.int .i64 s.now)).heap.size = W1.heap.size := by simp
 obtain ⟨v0, v1, v2, vf, lb⟩ := Vgr.tail (h3.vgr 2 n (by decide) (unhide HNS))
 obtain ⟨r0, r1, r2, t0, t1, t2⟩ := R3.three
 have lb0 : m.vb 2 < w.heap.size := ((unhide HG).vgr 2 n (by decide) (unhide HNS)).lt
 clear h3 R3 BX k k2 h4 R4
 go_wp2
 have V5 : Vn ((W1.setCell ⟨w.heap.size, 4, none⟩ (.int .i64 s.now)).setCell ⟨m.vb 2, 27, none⟩ (.bool true)) (m.vb 2) m.cb (stopN n) := Vgr.setDown ((unhide H4).vgr 2 n (by decide) (unhide HNS)) true
 have g5 : Chg [m.vb 2, m.cb] (W1.setCell ⟨w.heap.size, 4, none⟩ (.int .i64 s.now)) ((W1.setCell ⟨w.heap.size, 4, none⟩ (.int .i64 s.now)).setCell ⟨m.vb 2, 27, none⟩ (.bool true)) := (Chg.refl _ _).setCell (by simp) _
 have P5 := (unhide H4).plt.chg ((Chg.refl [m.vb 2] (W1.setCell ⟨w.heap.size, 4, none⟩ (.int .i64 s.now))).setCell (p := ⟨m.vb 2, 27, none⟩) (by simp) (.bool true)) (by intro y hy; simp at hy; subst hy; exact unhide hbp)
 have X5 := (unhide H4).verOp (i := 2) (d' := s.d) (by decide) (unhide HNS) rfl V5 P5 g5 (Pnx.same _ _) (unhide PLX)
 have R5 := X5.blk (unhide HR4) (crw_at m w.heap.size (by omega))
 have o5 := X5.ow (w.heap.size + 1) (by omega) (crw_at m w.heap.size (by omega))
 have R7 := ((R5.set 0 (.int .i64 0)).set 1 (.int .i64 0)).set 2 (.int .i64 0)
 refine bodyPost_ret (v := ansV ⟨0, 0, 0⟩) (ret_ans rfl rfl R7) rfl ?_
 have k7 := (((Chg.refl [w.heap.size + 1] ((W1.setCell ⟨w.heap.size, 4, none⟩ (.int .i64 s.now)).setCell ⟨m.vb 2, 27, none⟩ (.bool true))).setCell (p := ⟨w.heap.size + 1, 0, none⟩) (by simp) (.int .i64 0)).setCell (p := ⟨w.heap.size + 1, 1, none⟩) (by simp) (.int .i64 0)).setCell (p := ⟨w.heap.size + 1, 2, none⟩) (by simp) (.int .i64 0)
 exact ⟨rfl, _, (Cnx.pre (unhide HK3) X5).post k7 (by intro y hy; simp at hy; subst hy; exact ⟨o5, by omega⟩) zw⟩
set_option maxRecDepth 100000 in
set_option maxHeartbeats 4000000 in
theorem cstep_else (W0 : World) (m : Cm) (s : Gd) (x : Sp) (w : World) (h : Chp W0 w m s) (k1 : ¬ x.k = 1 ∧ ¬ x.k = 2 ∧ ¬ x.k = 3 ∧ ¬ x.k = 4 ∧ ¬ x.k = 5) :
  Calls Tryz.prog 43 #[.pointer (some ⟨m.cb, 0, none⟩), spV x] w fun e w' => e = .returned (ansV ⟨1, 0, 0⟩) ∧ ∃ m', Cnx W0 w m w' m' s := by
 have lg := h.plt.blk.lt
 have zw := h.ch.size
 obtain ⟨c0, c1, c2, c3, c4, c5, -⟩ := h.cells
 obtain ⟨rs, t, pl⟩ := h.pl
 have n0 := pl.n0
 have n1 := pl.n1
 have e0 := pl.e0
 have e1 := pl.e1
 have HPL := hide pl
 have HG := hide h
 clear h pl
 obtain ⟨q1, q2, q3, q4, q5⟩ := k1
 have b1 : (x.k == 1) = false := by simpa using q1
 have b5 : (x.k == 5) = false := by simpa using q5
 have b2 : (x.k == 2) = false := by simpa using q2
 have b3 : (x.k == 3) = false := by simpa using q3
 have b4 : (x.k == 4) = false := by simpa using q4
 clear q1 q2 q3 q4 q5 c0 c1 c2 c3 c4 c5 n0 n1 e0 e1
 unfold spV spC
 go_enter Tryz.func43, Tryz.ntmps43
 go_wp2
 have R7 := Blk.new1 w (.cells #[.int .i64 x.k, .int .i64 x.n, .int .i64 x.keep, .int .i64 x.o.k, .int .i64 x.o.now, .int .i64 x.o.jb, .int .i64 x.o.tr, .int .i64 x.o.wk, .int .i64 x.o.tm] 85) #[.int .i64 1, .int .i64 0, .int .i64 0] 95
 refine bodyPost_ret (v := ansV ⟨1, 0, 0⟩) (ret_ans rfl rfl R7) rfl ?_
 have k7 := ((Chg.refl [] w).alloc (.cells #[.int .i64 x.k, .int .i64 x.n, .int .i64 x.keep, .int .i64 x.o.k, .int .i64 x.o.now, .int .i64 x.o.jb, .int .i64 x.o.tr, .int .i64 x.o.wk, .int .i64 x.o.tm] 85)).alloc (.cells #[.int .i64 1, .int .i64 0, .int .i64 0] 95)
 exact ⟨rfl, _, Cnx.pre k7 (Cnx.refl ((unhide HG).fresh k7))⟩
theorem cstep_ask2 (W0 : World) (m : Cm) (s : Gd) (x : Sp) (w : World) (h : Chp W0 w m s) (k1 : x.k = 2) :
  Calls Tryz.prog 43 #[.pointer (some ⟨m.cb, 0, none⟩), spV x] w fun e w' => e = .returned (ansV (orderG s x).2) ∧ ∃ m', Cnx W0 w m w' m' (orderG s x).1 := by
 unfold orderG
 cases hn : inN x.n
 ·have e : nodeG s x.n = none := by unfold nodeG; rw [if_neg (by rw [hn]; simp)]
  rw [e]
  rcases inN_no hn with q | q
  ·exact cstep_ask2_lo W0 m s x w h k1 q
  ·exact cstep_ask2_hi W0 m s x w h k1 q
 ·obtain ⟨q0, q1⟩ := inN_yes hn
  have en : nodeG s x.n = s.ns x.n.toNat := by unfold nodeG; rw [if_pos hn]
  rw [en]
  obtain q | q | q : x.n = 0 ∨ x.n = 1 ∨ x.n = 2 := by omega
  ·have et : x.n.toNat = 0 := by rw [q]; rfl
   rw [et]
   cases hs : s.ns 0 with
   | none => exact cstep_ask2_nil0 W0 m s x w h k1 q hs
   | some n =>
    show Calls _ _ _ _ fun e w' => e = .returned (ansV (askG s x 0 n).2) ∧ ∃ m', Cnx W0 w m w' m' (askG s x 0 n).1
    unfold askG
    rw [if_pos k1]
    exact cstep_ask2_some0 W0 m s x w h n k1 q hs
  ·have et : x.n.toNat = 1 := by rw [q]; rfl
   rw [et]
   cases hs : s.ns 1 with
   | none => exact cstep_ask2_nil1 W0 m s x w h k1 q hs
   | some n =>
    show Calls _ _ _ _ fun e w' => e = .returned (ansV (askG s x 1 n).2) ∧ ∃ m', Cnx W0 w m w' m' (askG s x 1 n).1
    unfold askG
    rw [if_pos k1]
    exact cstep_ask2_some1 W0 m s x w h n k1 q hs
  ·have et : x.n.toNat = 2 := by rw [q]; rfl
   rw [et]
   cases hs : s.ns 2 with
   | none => exact cstep_ask2_nil2 W0 m s x w h k1 q hs
   | some n =>
    show Calls _ _ _ _ fun e w' => e = .returned (ansV (askG s x 2 n).2) ∧ ∃ m', Cnx W0 w m w' m' (askG s x 2 n).1
    unfold askG
    rw [if_pos k1]
    exact cstep_ask2_some2 W0 m s x w h n k1 q hs
theorem cstep_ask3 (W0 : World) (m : Cm) (s : Gd) (x : Sp) (w : World) (h : Chp W0 w m s) (k1 : x.k = 3) :
  Calls Tryz.prog 43 #[.pointer (some ⟨m.cb, 0, none⟩), spV x] w fun e w' => e = .returned (ansV (orderG s x).2) ∧ ∃ m', Cnx W0 w m w' m' (orderG s x).1 := by
 unfold orderG
 cases hn : inN x.n
 ·have e : nodeG s x.n = none := by unfold nodeG; rw [if_neg (by rw [hn]; simp)]
  rw [e]
  rcases inN_no hn with q | q
  ·exact cstep_ask3_lo W0 m s x w h k1 q
  ·exact cstep_ask3_hi W0 m s x w h k1 q
 ·obtain ⟨q0, q1⟩ := inN_yes hn
  have en : nodeG s x.n = s.ns x.n.toNat := by unfold nodeG; rw [if_pos hn]
  rw [en]
  obtain q | q | q : x.n = 0 ∨ x.n = 1 ∨ x.n = 2 := by omega
  ·have et : x.n.toNat = 0 := by rw [q]; rfl
   rw [et]
   cases hs : s.ns 0 with
   | none => exact cstep_ask3_nil0 W0 m s x w h k1 q hs
   | some n =>
    show Calls _ _ _ _ fun e w' => e = .returned (ansV (askG s x 0 n).2) ∧ ∃ m', Cnx W0 w m w' m' (askG s x 0 n).1
    unfold askG
    rw [if_neg (by omega), if_pos k1]
    exact cstep_ask3_some0 W0 m s x w h n k1 q hs
  ·have et : x.n.toNat = 1 := by rw [q]; rfl
   rw [et]
   cases hs : s.ns 1 with
   | none => exact cstep_ask3_nil1 W0 m s x w h k1 q hs
   | some n =>
    show Calls _ _ _ _ fun e w' => e = .returned (ansV (askG s x 1 n).2) ∧ ∃ m', Cnx W0 w m w' m' (askG s x 1 n).1
    unfold askG
    rw [if_neg (by omega), if_pos k1]
    exact cstep_ask3_some1 W0 m s x w h n k1 q hs
  ·have et : x.n.toNat = 2 := by rw [q]; rfl
   rw [et]
   cases hs : s.ns 2 with
   | none => exact cstep_ask3_nil2 W0 m s x w h k1 q hs
   | some n =>
    show Calls _ _ _ _ fun e w' => e = .returned (ansV (askG s x 2 n).2) ∧ ∃ m', Cnx W0 w m w' m' (askG s x 2 n).1
    unfold askG
    rw [if_neg (by omega), if_pos k1]
    exact cstep_ask3_some2 W0 m s x w h n k1 q hs
theorem cstep_ask4 (W0 : World) (m : Cm) (s : Gd) (x : Sp) (w : World) (h : Chp W0 w m s) (k1 : x.k = 4) :
  Calls Tryz.prog 43 #[.pointer (some ⟨m.cb, 0, none⟩), spV x] w fun e w' => e = .returned (ansV (orderG s x).2) ∧ ∃ m', Cnx W0 w m w' m' (orderG s x).1 := by
 unfold orderG
 cases hn : inN x.n
 ·have e : nodeG s x.n = none := by unfold nodeG; rw [if_neg (by rw [hn]; simp)]
  rw [e]
  rcases inN_no hn with q | q
  ·exact cstep_ask4_lo W0 m s x w h k1 q
  ·exact cstep_ask4_hi W0 m s x w h k1 q
 ·obtain ⟨q0, q1⟩ := inN_yes hn
  have en : nodeG s x.n = s.ns x.n.toNat := by unfold nodeG; rw [if_pos hn]
  rw [en]
  obtain q | q | q : x.n = 0 ∨ x.n = 1 ∨ x.n = 2 := by omega
  ·have et : x.n.toNat = 0 := by rw [q]; rfl
   rw [et]
   cases hs : s.ns 0 with
   | none => exact cstep_ask4_nil0 W0 m s x w h k1 q hs
   | some n =>
    show Calls _ _ _ _ fun e w' => e = .returned (ansV (askG s x 0 n).2) ∧ ∃ m', Cnx W0 w m w' m' (askG s x 0 n).1
    unfold askG
    rw [if_neg (by omega), if_neg (by omega)]
    exact cstep_ask4_some0 W0 m s x w h n k1 q hs
  ·have et : x.n.toNat = 1 := by rw [q]; rfl
   rw [et]
   cases hs : s.ns 1 with
   | none => exact cstep_ask4_nil1 W0 m s x w h k1 q hs
   | some n =>
    show Calls _ _ _ _ fun e w' => e = .returned (ansV (askG s x 1 n).2) ∧ ∃ m', Cnx W0 w m w' m' (askG s x 1 n).1
    unfold askG
    rw [if_neg (by omega), if_neg (by omega)]
    exact cstep_ask4_some1 W0 m s x w h n k1 q hs
  ·have et : x.n.toNat = 2 := by rw [q]; rfl
   rw [et]
   cases hs : s.ns 2 with
   | none => exact cstep_ask4_nil2 W0 m s x w h k1 q hs
   | some n =>
    show Calls _ _ _ _ fun e w' => e = .returned (ansV (askG s x 2 n).2) ∧ ∃ m', Cnx W0 w m w' m' (askG s x 2 n).1
    unfold askG
    rw [if_neg (by omega), if_neg (by omega)]
    exact cstep_ask4_some2 W0 m s x w h n k1 q hs
theorem cstep_any (W0 : World) (m : Cm) (s : Gd) (x : Sp) (w : World) (h : Chp W0 w m s) :
  Calls Tryz.prog 43 #[.pointer (some ⟨m.cb, 0, none⟩), spV x] w fun e w' => e = .returned (ansV (stepG s x).2) ∧ ∃ m', Cnx W0 w m w' m' (stepG s x).1 := by
 unfold stepG
 by_cases h1 : x.k = 1
 ·rw [if_pos h1]
  unfold openG
  cases hn : inN x.n
  ·rw [if_neg (by simp)]
   rcases inN_no hn with q | q
   ·exact cstep_open_lo W0 m s x w h h1 q
   ·exact cstep_open_hi W0 m s x w h h1 q
  ·rw [if_pos rfl]
   have q := inN_yes hn
   by_cases hf : s.d.ep = 100
   ·rw [if_pos hf]
    exact cstep_open_full W0 m s x w h h1 q hf
   ·rw [if_neg hf]
    obtain q | q | q : x.n = 0 ∨ x.n = 1 ∨ x.n = 2 := by omega
    ·have et : x.n.toNat = 0 := by rw [q]; rfl
     rw [et]
     exact cstep_open0 W0 m s x w h h1 q hf
    ·have et : x.n.toNat = 1 := by rw [q]; rfl
     rw [et]
     exact cstep_open1 W0 m s x w h h1 q hf
    ·have et : x.n.toNat = 2 := by rw [q]; rfl
     rw [et]
     exact cstep_open2 W0 m s x w h h1 q hf
 ·rw [if_neg h1]
  by_cases h5 : x.k = 5
  ·rw [if_pos h5]
   unfold tickG
   obtain ⟨rs, t, pl⟩ := h.pl
   have n0 := pl.n0
   by_cases hx : 0 ≤ x.n ∧ x.n ≤ 60000 - s.now
   ·rw [if_pos hx]
    exact cstep_tick_yes W0 m s x w h h5 hx
   ·rw [if_neg hx]
    by_cases q : x.n < 0
    ·exact cstep_tick_lo W0 m s x w h h5 q
    ·by_cases q2 : 60000 < x.n
     ·exact cstep_tick_big W0 m s x w h h5 q2
     ·exact cstep_tick_hi W0 m s x w h h5 (by omega)
  ·rw [if_neg h5]
   by_cases h2 : x.k = 2
   ·rw [if_pos (.inl h2)]
    exact cstep_ask2 W0 m s x w h h2
   ·by_cases h3 : x.k = 3
    ·rw [if_pos (.inr (.inl h3))]
     exact cstep_ask3 W0 m s x w h h3
    ·by_cases h4 : x.k = 4
     ·rw [if_pos (.inr (.inr h4))]
      exact cstep_ask4 W0 m s x w h h4
     ·rw [if_neg (by omega)]
      exact cstep_else W0 m s x w h ⟨h1, h2, h3, h4, h5⟩
end Go.Proofs.YtllnjiljjodfdacGreatDoor
