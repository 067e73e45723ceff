/-
 A guild opens a node; a guild asks a node. Nothing here is claimed by itself.
-/
import Derived.Test.YtllnjiljjodfdacGreatDoorQgGP
namespace Go.Proofs.YtllnjiljjodfdacGreatDoor
open Go.RowKit

def spC (x : Sp) : Array Value := #[.int .i64 x.k, .int .i64 x.n, .int .i64 x.keep, .int .i64 x.o.k, .int .i64 x.o.now, .int .i64 x.o.jb, .int .i64 x.o.tr, .int .i64 x.o.wk, .int .i64 x.o.tm]
def spV (x : Sp) : Value := .agg (spC x)
set_option maxRecDepth 100000 in
set_option maxHeartbeats 2000000 in
theorem gopen_any (W0 : World) (m : Gm) (s : Gd) (n : Int) (w : World) (h : Gld W0 w m s) : Calls Tryz.prog 82 #[.pointer (some ⟨m.gb, 0, none⟩), .int .i64 n] w fun e w' => e = .returned (.int .i64 (openG s n).2) ∧ ∃ m', Gnx W0 w m w' m' (openG s n).1 := by
 obtain ⟨c0, c1, c2, c3, c4, lg⟩ := h.cells
 obtain ⟨rs, t, pl⟩ := h.pl
 have e0 := pl.e0
 have e1 := pl.e1
 have HG := hide h
 have HN := hide (show m.gb ∉ fp m.db m.v from fun hx => by have := h.od _ hx; rw [h.ogb] at this; omega)
 clear h pl c1 c2 c3 c4
 cases hn : inN n
 ·have e : openG s n = (s, 3) := by unfold openG; rw [hn]; rfl
  rw [e]
  clear e
  go_enter Tryz.func82, Tryz.ntmps82
  go_wp2_with (go_at_call 73; refine (gisnode_any _ _).mono ?_; rintro e w ⟨rfl, rfl⟩; rw [hn])
  go_ret
  exact ⟨rfl, m, Gnx.refl (unhide HG)⟩
 ·by_cases hf : s.d.ep = 100
  ·have e : openG s n = (s, 8) := by unfold openG; rw [if_pos hn, if_pos hf]
   rw [e]
   have HF := hide hf
   clear e hf
   go_enter Tryz.func82, Tryz.ntmps82
   go_wp2_with (first
    | (go_at_call 73; refine (gisnode_any _ _).mono ?_; rintro e w ⟨rfl, rfl⟩; rw [hn])
    | (go_at_call 110; refine (nopen_full m.db W0.heap.size s.d m.v _ (unhide HG).dsk (unhide HF)).mono ?_; rintro e w2 ⟨rfl, D2, g2⟩))
   go_ret
   exact ⟨rfl, m, (unhide HG).fullOp D2 g2⟩
  ·have e : openG s n = (⟨s.now, openD s.d, upG s.ns n.toNat (openN s.d)⟩, 0) := by unfold openG; rw [if_pos hn, if_neg hf]
   rw [e]
   obtain ⟨h0, h3⟩ := inN_yes hn
   have hlt : s.d.ep < 100 := by omega
   have HF := hide hf
   clear e hf
   obtain rfl | rfl | rfl : n = 0 ∨ n = 1 ∨ n = 2 := by omega
   all_goals
    clear h0 h3
    go_enter Tryz.func82, Tryz.ntmps82
    go_wp2_with (first
     | (go_at_call 73; refine (gisnode_any _ _).mono ?_; rintro e w ⟨rfl, rfl⟩; rw [hn])
     | (go_at_call 110; refine (nopen_more m.db W0.heap.size s.d m.v _ (unhide HG).dsk e0 hlt).mono ?_; rintro e w2 ⟨nb, tb, v2, rfl, q1, q2, N2, D2, q3, q4, g2, nx⟩; have B2 := (unhide HG).blk.chg g2 (unhide HN); have k0 : w2.cell? ⟨m.gb, 1, none⟩ = some _ := B2.cell 1; have k1 : w2.cell? ⟨m.gb, 2, none⟩ = some _ := B2.cell 2; have k2 : w2.cell? ⟨m.gb, 3, none⟩ = some _ := B2.cell 3; have f0 := B2.fz 1; have f1 := B2.fz 2; have f2 := B2.fz 3; have l2 := B2.lt; have HD := hide D2; have HNN := hide N2; have HGG := hide g2; clear B2 D2 N2 g2))
    go_ret
    first
     | exact ⟨rfl, _, (unhide HG).openOp (i := 0) (by decide) (unhide HF) (unhide HNN) (unhide HD) (unhide HGG) nx q3 q4 q1 q2⟩
     | exact ⟨rfl, _, (unhide HG).openOp (i := 1) (by decide) (unhide HF) (unhide HNN) (unhide HD) (unhide HGG) nx q3 q4 q1 q2⟩
     | exact ⟨rfl, _, (unhide HG).openOp (i := 2) (by decide) (unhide HF) (unhide HNN) (unhide HD) (unhide HGG) nx q3 q4 q1 q2⟩
set_option maxRecDepth 100000 in
set_option maxHeartbeats 4000000 in
theorem gask_none (W0 : World) (m : Gm) (s : Gd) (x : Sp) (w : World) (h : Gld W0 w m s) (hn : nodeG s x.n = none) :
  Calls Tryz.prog 84 #[.pointer (some ⟨m.gb, 0, none⟩), spV x] w fun e w' => e = .returned (ansV ⟨5, 0, 0⟩) ∧ ∃ m', Gnx W0 w m w' m' s := by
 have lg := h.blk.lt
 have HG := hide h
 have HN : Hid (nodeV { m with own := grw w.heap.size m.own (fun _ => 100) } s x.n = .pointer none) := hide (by unfold nodeV; rw [hn]; rfl)
 clear h hn
 unfold spV spC
 go_enter Tryz.func84, Tryz.ntmps84
 go_wp2_with fail
 have k : Chg [] w ((w.alloc (.cells #[.int .i64 x.k, .int .i64 x.n, .int .i64 x.keep, .int .i64 x.o.k, .int .i64 x.o.now, .int .i64 x.o.jb, .int .i64 x.o.tr, .int .i64 x.o.wk, .int .i64 x.o.tm] 85)).alloc (.cells #[.int .i64 0, .int .i64 0, .int .i64 0] 95)) := ((Chg.refl [] w).alloc _).alloc _
 have h2 := (unhide HG).fresh k
 refine (gnode_any W0 _ s x.n _ h2).mono ?_
 rintro e w2 ⟨rfl, rfl⟩
 rw [unhide HN]
 have R2 := Blk.new1 w (.cells #[.int .i64 x.k, .int .i64 x.n, .int .i64 x.keep, .int .i64 x.o.k, .int .i64 x.o.now, .int .i64 x.o.jb, .int .i64 x.o.tr, .int .i64 x.o.wk, .int .i64 x.o.tm] 85) #[.int .i64 0, .int .i64 0, .int .i64 0] 95
 have H2 := hide h2
 have HR := hide R2
 have HK := hide k
 clear h2 R2 k
 go_wp2
 have R7 := Blk.new1 w (.cells #[.int .i64 x.k, .int .i64 x.n, .int .i64 x.keep, .int .i64 x.o.k, .int .i64 x.o.now, .int .i64 x.o.jb, .int .i64 x.o.tr, .int .i64 x.o.wk, .int .i64 x.o.tm] 85) #[.int .i64 5, .int .i64 0, .int .i64 0] 95
 refine bodyPost_ret (v := ansV ⟨5, 0, 0⟩) (ret_ans rfl rfl R7) rfl ?_
 have k7 := ((Chg.refl [] w).alloc (.cells #[.int .i64 x.k, .int .i64 x.n, .int .i64 x.keep, .int .i64 x.o.k, .int .i64 x.o.now, .int .i64 x.o.jb, .int .i64 x.o.tr, .int .i64 x.o.wk, .int .i64 x.o.tm] 85)).alloc (.cells #[.int .i64 5, .int .i64 0, .int .i64 0] 95)
 exact ⟨rfl, _, Gnx.pre k7 (Gnx.refl ((unhide HG).fresh k7))⟩
theorem Gld.asked {W0 w : World} {m : Gm} {s : Gd} (h : Gld W0 w m s) {x : Sp} {n : Nd} (hn : nodeG s x.n = some n) : ∃ i : Nat, i < 3 ∧ x.n.toNat = i ∧ s.ns i = some n ∧ nodeV m s x.n = .pointer (some ⟨m.nb i, 0, none⟩) ∧ m.nb i ∉ fp m.db m.v ∧ m.tb i ∉ fp m.db m.v := by
 obtain ⟨i, hi, hx, hxt, hs⟩ := nodeG_some hn
 refine ⟨i, hi, hxt, hs, ?_, fun hf => ?_, fun hf => ?_⟩
 ·unfold nodeV; rw [hn, hxt]; rfl
 ·have := h.od _ hf; rw [(h.on i n hi hs).1] at this; omega
 ·have := h.od _ hf; rw [(h.on i n hi hs).2] at this; omega
set_option maxRecDepth 100000 in
set_option maxHeartbeats 4000000 in
theorem gask_some (W0 : World) (m : Gm) (s : Gd) (x : Sp) (n : Nd) (w : World) (h : Gld W0 w m s) (hn : nodeG s x.n = some n) (hk : x.k = 2 ∨ x.k = 3 ∨ x.k = 4) :
  Calls Tryz.prog 84 #[.pointer (some ⟨m.gb, 0, none⟩), spV x] w fun e w' => e = .returned (ansV (askG s x x.n.toNat n).2) ∧ ∃ m', Gnx W0 w m w' m' (askG s x x.n.toNat n).1 := by
 have lg := h.blk.lt
 have c4 := h.blk.cell 4
 have PLX : Hid (∃ rs t, PlG (askG s x x.n.toNat n).1 rs t) := hide (by
  obtain ⟨rs, t, pl⟩ := h.pl
  obtain ⟨rs', t', pl', -⟩ := pl.step x
  have e : stepG s x = askG s x x.n.toNat n := by
   unfold stepG orderG
   rw [if_neg (by omega), if_neg (by omega), if_pos hk, hn]
  rw [e] at pl'
  exact ⟨rs', t', pl'⟩)
 obtain ⟨i, hi, hxt, hs, hv, f1, f2⟩ := h.asked hn
 rw [hxt] at PLX ⊢
 have HV : Hid (nodeV { m with own := grw w.heap.size m.own (fun _ => 100) } s x.n = .pointer (some ⟨m.nb i, 0, none⟩)) := hide hv
 have HG := hide h
 have HS := hide hs
 have HF1 := hide f1
 have HF2 := hide f2
 obtain ⟨p1, p2, p3⟩ := h.pos hi hs
 have HI := hide p3
 have C4 : w.cell? ⟨m.gb, 4, none⟩ = some (.int .i64 s.now) := c4
 clear h hn hs hv f1 f2 c4 p3 hxt
 rcases hk with k2 | k2 | k2
 ·have e : askG s x i n = (⟨s.now, wrD s.d n (atO x.o s.now) 9, upG s.ns i (ordN s.d n (atO x.o s.now))⟩, ordA s.d n (atO x.o s.now)) := by unfold askG; rw [if_pos k2]
  rw [e] at PLX ⊢
  have b2 : (x.k == 2) = true := by simp [k2]
  clear e k2
  unfold spV spC
  go_enter Tryz.func84, Tryz.ntmps84
  go_wp2_with fail
  have k : Chg [] w ((w.alloc (.cells #[.int .i64 x.k, .int .i64 x.n, .int .i64 x.keep, .int .i64 x.o.k, .int .i64 x.o.now, .int .i64 x.o.jb, .int .i64 x.o.tr, .int .i64 x.o.wk, .int .i64 x.o.tm] 85)).alloc (.cells #[.int .i64 0, .int .i64 0, .int .i64 0] 95)) := ((Chg.refl [] w).alloc _).alloc _
  refine (gnode_any W0 _ s x.n _ ((unhide HG).fresh k)).mono ?_
  rintro e w2 ⟨rfl, rfl⟩
  rw [unhide HV]
  clear k
  go_wp2_with fail
  have k3 : Chg [] w ((w.alloc (.cells #[.int .i64 x.k, .int .i64 x.n, .int .i64 x.keep, .int .i64 x.o.k, .int .i64 s.now, .int .i64 x.o.jb, .int .i64 x.o.tr, .int .i64 x.o.wk, .int .i64 x.o.tm] 85)).alloc (.cells #[.int .i64 0, .int .i64 0, .int .i64 0] 95)) := ((Chg.refl [] w).alloc _).alloc _
  have h3 := (unhide HG).fresh k3
  have R3 := Blk.new1 w (.cells #[.int .i64 x.k, .int .i64 x.n, .int .i64 x.keep, .int .i64 x.o.k, .int .i64 s.now, .int .i64 x.o.jb, .int .i64 x.o.tr, .int .i64 x.o.wk, .int .i64 x.o.tm] 85) #[.int .i64 0, .int .i64 0, .int .i64 0] 95
  generalize hW : (w.alloc (.cells #[.int .i64 x.k, .int .i64 x.n, .int .i64 x.keep, .int .i64 x.o.k, .int .i64 s.now, .int .i64 x.o.jb, .int .i64 x.o.tr, .int .i64 x.o.wk, .int .i64 x.o.tm] 85)).alloc (.cells #[.int .i64 0, .int .i64 0, .int .i64 0] 95) = W at *
  clear hW
  have z3 := R3.lt
  have zw := (unhide HG).ch.size
  refine (nord_all (m.nb i) (m.tb i) m.db W0.heap.size n s.d m.v (atO x.o s.now) W (h3.nod i n hi (unhide HS)) h3.dsk (unhide HI) (by omega) p1 p2 (unhide HF1) (unhide HF2)).mono ?_
  rintro e w4 ⟨rfl, v4, N4, D4, g4, nx4⟩
  have X4 := h3.nodeOp (d' := wrD s.d n (atO x.o s.now) 9) hi (unhide HS) rfl N4 D4 g4 nx4 (unhide PLX)
  have R4 := X4.blk R3 (grw_at m w.heap.size (by omega))
  have o4 := X4.ow (w.heap.size + 1) z3 (grw_at m w.heap.size (by omega))
  obtain ⟨r0, r1, r2, t0, t1, t2⟩ := R4.three
  have l4 := R4.lt
  have HX := hide X4
  have HR := hide R4
  have HK3 := hide k3
  clear X4 R4 N4 D4 g4 nx4 h3 R3 k3
  unfold ansV
  go_wp2
  have R7 := (((unhide HR).set 0 (.int .i64 (ordA s.d n (atO x.o s.now)).code)).set 1 (.int .i64 (ordA s.d n (atO x.o s.now)).jb)).set 2 (.int .i64 (ordA s.d n (atO x.o s.now)).tr)
  refine bodyPost_ret (v := ansV (ordA s.d n (atO x.o s.now))) (ret_ans rfl rfl R7) rfl ?_
  have k7 := (((Chg.refl [w.heap.size + 1] w4).setCell (p := ⟨w.heap.size + 1, 0, none⟩) (by simp) (.int .i64 (ordA s.d n (atO x.o s.now)).code)).setCell (p := ⟨w.heap.size + 1, 1, none⟩) (by simp) (.int .i64 (ordA s.d n (atO x.o s.now)).jb)).setCell (p := ⟨w.heap.size + 1, 2, none⟩) (by simp) (.int .i64 (ordA s.d n (atO x.o s.now)).tr)
  exact ⟨rfl, _, (Gnx.pre (unhide HK3) (unhide HX)).post k7 (by intro y hy; simp at hy; subst hy; exact ⟨o4, by omega⟩) zw⟩
 ·have e : askG s x i n = (⟨s.now, wrD s.d n (atO x.o s.now) x.keep, upG s.ns i (tearN s.d n (atO x.o s.now) x.keep)⟩, ⟨wrC s.d n (atO x.o s.now) x.keep, 0, 0⟩) := by unfold askG; rw [if_neg (by omega), if_pos k2]
  rw [e] at PLX ⊢
  have b2 : (x.k == 2) = false := by simp [k2]
  have b3 : (x.k == 3) = true := by simp [k2]
  clear e k2
  unfold spV spC
  go_enter Tryz.func84, Tryz.ntmps84
  go_wp2_with fail
  have k : Chg [] w ((w.alloc (.cells #[.int .i64 x.k, .int .i64 x.n, .int .i64 x.keep, .int .i64 x.o.k, .int .i64 x.o.now, .int .i64 x.o.jb, .int .i64 x.o.tr, .int .i64 x.o.wk, .int .i64 x.o.tm] 85)).alloc (.cells #[.int .i64 0, .int .i64 0, .int .i64 0] 95)) := ((Chg.refl [] w).alloc _).alloc _
  refine (gnode_any W0 _ s x.n _ ((unhide HG).fresh k)).mono ?_
  rintro e w2 ⟨rfl, rfl⟩
  rw [unhide HV]
  clear k
  go_wp2_with fail
  have k3 : Chg [] w ((w.alloc (.cells #[.int .i64 x.k, .int .i64 x.n, .int .i64 x.keep, .int .i64 x.o.k, .int .i64 s.now, .int .i64 x.o.jb, .int .i64 x.o.tr, .int .i64 x.o.wk, .int .i64 x.o.tm] 85)).alloc (.cells #[.int .i64 0, .int .i64 0, .int .i64 0] 95)) := ((Chg.refl [] w).alloc _).alloc _
  have h3 := (unhide HG).fresh k3
  have R3 := Blk.new1 w (.cells #[.int .i64 x.k, .int .i64 x.n, .int .i64 x.keep, .int .i64 x.o.k, .int .i64 s.now, .int .i64 x.o.jb, .int .i64 x.o.tr, .int .i64 x.o.wk, .int .i64 x.o.tm] 85) #[.int .i64 0, .int .i64 0, .int .i64 0] 95
  generalize hW : (w.alloc (.cells #[.int .i64 x.k, .int .i64 x.n, .int .i64 x.keep, .int .i64 x.o.k, .int .i64 s.now, .int .i64 x.o.jb, .int .i64 x.o.tr, .int .i64 x.o.wk, .int .i64 x.o.tm] 85)).alloc (.cells #[.int .i64 0, .int .i64 0, .int .i64 0] 95) = W at *
  clear hW
  have z3 := R3.lt
  have zw := (unhide HG).ch.size
  refine (ntear_all (m.nb i) (m.tb i) m.db W0.heap.size n s.d m.v (atO x.o s.now) x.keep W (h3.nod i n hi (unhide HS)) h3.dsk (unhide HI) (by omega) p1 p2 (unhide HF1) (unhide HF2)).mono ?_
  rintro e w4 ⟨rfl, v4, N4, D4, g4, nx4⟩
  have X4 := h3.nodeOp (d' := wrD s.d n (atO x.o s.now) x.keep) hi (unhide HS) rfl N4 D4 g4 nx4 (unhide PLX)
  have R4 := X4.blk R3 (grw_at m w.heap.size (by omega))
  have o4 := X4.ow (w.heap.size + 1) z3 (grw_at m w.heap.size (by omega))
  obtain ⟨r0, r1, r2, t0, t1, t2⟩ := R4.three
  have l4 := R4.lt
  have HX := hide X4
  have HR := hide R4
  have HK3 := hide k3
  clear X4 R4 N4 D4 g4 nx4 h3 R3 k3
  go_wp2
  have R7 := (((unhide HR).set 0 (.int .i64 (wrC s.d n (atO x.o s.now) x.keep))).set 1 (.int .i64 0)).set 2 (.int .i64 0)
  refine bodyPost_ret (v := ansV ⟨wrC s.d n (atO x.o s.now) x.keep, 0, 0⟩) (ret_ans rfl rfl R7) rfl ?_
  have k7 := (((Chg.refl [w.heap.size + 1] w4).setCell (p := ⟨w.heap.size + 1, 0, none⟩) (by simp) (.int .i64 (wrC s.d n (atO x.o s.now) x.keep))).setCell (p := ⟨w.heap.size + 1, 1, none⟩) (by simp) (.int .i64 0)).setCell (p := ⟨w.heap.size + 1, 2, none⟩) (by simp) (.int .i64 0)
  exact ⟨rfl, _, (Gnx.pre (unhide HK3) (unhide HX)).post k7 (by intro y hy; simp at hy; subst hy; exact ⟨o4, by omega⟩) zw⟩
 ·have e : askG s x i n = (⟨s.now, s.d, upG s.ns i (stopN n)⟩, ⟨0, 0, 0⟩) := by unfold askG; rw [if_neg (by omega), if_neg (by omega)]
  rw [e] at PLX ⊢
  have b2 : (x.k == 2) = false := by simp [k2]
  have b3 : (x.k == 3) = false := by simp [k2]
  clear e k2
  unfold spV spC
  go_enter Tryz.func84, Tryz.ntmps84
  go_wp2_with fail
  have k : Chg [] w ((w.alloc (.cells #[.int .i64 x.k, .int .i64 x.n, .int .i64 x.keep, .int .i64 x.o.k, .int .i64 x.o.now, .int .i64 x.o.jb, .int .i64 x.o.tr, .int .i64 x.o.wk, .int .i64 x.o.tm] 85)).alloc (.cells #[.int .i64 0, .int .i64 0, .int .i64 0] 95)) := ((Chg.refl [] w).alloc _).alloc _
  refine (gnode_any W0 _ s x.n _ ((unhide HG).fresh k)).mono ?_
  rintro e w2 ⟨rfl, rfl⟩
  rw [unhide HV]
  clear k
  go_wp2_with fail
  have k3 : Chg [] w ((w.alloc (.cells #[.int .i64 x.k, .int .i64 x.n, .int .i64 x.keep, .int .i64 x.o.k, .int .i64 s.now, .int .i64 x.o.jb, .int .i64 x.o.tr, .int .i64 x.o.wk, .int .i64 x.o.tm] 85)).alloc (.cells #[.int .i64 0, .int .i64 0, .int .i64 0] 95)) := ((Chg.refl [] w).alloc _).alloc _
  have h3 := (unhide HG).fresh k3
  have R3 := Blk.new1 w (.cells #[.int .i64 x.k, .int .i64 x.n, .int .i64 x.keep, .int .i64 x.o.k, .int .i64 s.now, .int .i64 x.o.jb, .int .i64 x.o.tr, .int .i64 x.o.wk, .int .i64 x.o.tm] 85) #[.int .i64 0, .int .i64 0, .int .i64 0] 95
  generalize hW : (w.alloc (.cells #[.int .i64 x.k, .int .i64 x.n, .int .i64 x.keep, .int .i64 x.o.k, .int .i64 s.now, .int .i64 x.o.jb, .int .i64 x.o.tr, .int .i64 x.o.wk, .int .i64 x.o.tm] 85)).alloc (.cells #[.int .i64 0, .int .i64 0, .int .i64 0] 95) = W at *
  clear hW
  have z3 := R3.lt
  have zw := (unhide HG).ch.size
  refine (nstop_any (m.nb i) (m.tb i) m.db n W (h3.nod i n hi (unhide HS))).mono ?_
  rintro e w4 ⟨rfl, N4, g4⟩
  have D4 := h3.dsk.chg g4 (by intro y hy; simp at hy; subst hy; exact unhide HF1)
  have nx4 := Nxt.same W m.v
  replace g4 := g4.wide (cs := m.nb i :: m.tb i :: fp m.db m.v) (by intro y hy; simp at hy; simp [hy])
  have X4 := h3.nodeOp (d' := s.d) hi (unhide HS) rfl N4 D4 g4 nx4 (unhide PLX)
  have R4 := X4.blk R3 (grw_at m w.heap.size (by omega))
  have o4 := X4.ow (w.heap.size + 1) z3 (grw_at m w.heap.size (by omega))
  obtain ⟨r0, r1, r2, t0, t1, t2⟩ := R4.three
  have l4 := R4.lt
  have HX := hide X4
  have HR := hide R4
  have HK3 := hide k3
  clear X4 R4 N4 D4 g4 nx4 h3 R3 k3
  go_wp2
  have R7 := (((unhide HR).set 0 (.int .i64 0)).set 1 (.int .i64 0)).set 2 (.int .i64 0)
  refine bodyPost_ret (v := ansV ⟨0, 0, 0⟩) (ret_ans rfl rfl R7) rfl ?_
  have k7 := (((Chg.refl [w.heap.size + 1] w4).setCell (p := ⟨w.heap.size + 1, 0, none⟩) (by simp) (.int .i64 0)).setCell (p := ⟨w.heap.size + 1, 1, none⟩) (by simp) (.int .i64 0)).setCell (p := ⟨w.heap.size + 1, 2, none⟩) (by simp) (.int .i64 0)
  exact ⟨rfl, _, (Gnx.pre (unhide HK3) (unhide HX)).post k7 (by intro y hy; simp at hy; subst hy; exact ⟨o4, by omega⟩) zw⟩
theorem gask_any (W0 : World) (m : Gm) (s : Gd) (x : Sp) (hk : x.k = 2 ∨ x.k = 3 ∨ x.k = 4) (w : World) (h : Gld W0 w m s) :
  Calls Tryz.prog 84 #[.pointer (some ⟨m.gb, 0, none⟩), spV x] w fun e w' => e = .returned (ansV (orderG s x).2) ∧ ∃ m', Gnx W0 w m w' m' (orderG s x).1 := by
 unfold orderG
 cases hn : nodeG s x.n with
 | none => exact gask_none W0 m s x w h hn
 | some n => exact gask_some W0 m s x n w h hn hk
set_option maxRecDepth 100000 in
set_option maxHeartbeats 4000000 in
theorem gstep_open (W0 : World) (m : Gm) (s : Gd) (x : Sp) (w : World) (h : Gld W0 w m s) (k1 : x.k = 1) :
  Calls Tryz.prog 62 #[.pointer (some ⟨m.gb, 0, none⟩), spV x] w fun e w' => e = .returned (ansV ⟨(openG s x.n).2, 0, 0⟩) ∧ ∃ m', Gnx W0 w m w' m' (openG s x.n).1 := by
 have lg := h.blk.lt
 have zw := h.ch.size
 have HG := hide h
 clear h
 have b1 : (x.k == 1) = true := by simp [k1]
 clear k1
 unfold spV spC
 go_enter Tryz.func62, Tryz.ntmps62
 go_wp2_with fail
 have k : Chg [] w ((w.alloc (.cells #[.int .i64 x.k, .int .i64 x.n, .int .i64 x.keep, .int .i64 x.o.k, .int .i64 x.o.now, .int .i64 x.o.jb, .int .i64 x.o.tr, .int .i64 x.o.wk, .int .i64 x.o.tm] 85)).alloc (.cells #[.int .i64 0, .int .i64 0, .int .i64 0] 95)) := ((Chg.refl [] w).alloc _).alloc _
 have h3 := (unhide HG).fresh k
 have R3 := Blk.new1 w (.cells #[.int .i64 x.k, .int .i64 x.n, .int .i64 x.keep, .int .i64 x.o.k, .int .i64 x.o.now, .int .i64 x.o.jb, .int .i64 x.o.tr, .int .i64 x.o.wk, .int .i64 x.o.tm] 85) #[.int .i64 0, .int .i64 0, .int .i64 0] 95
 generalize hW : (w.alloc (.cells #[.int .i64 x.k, .int .i64 x.n, .int .i64 x.keep, .int .i64 x.o.k, .int .i64 x.o.now, .int .i64 x.o.jb, .int .i64 x.o.tr, .int .i64 x.o.wk, .int .i64 x.o.tm] 85)).alloc (.cells #[.int .i64 0, .int .i64 0, .int .i64 0] 95) = W at *
 clear hW
 have z3 := R3.lt
 refine (gopen_any W0 _ s x.n W h3).mono ?_
 rintro e w4 ⟨rfl, m4, X4⟩
 have R4 := X4.blk R3 (grw_at m w.heap.size (by omega))
 have o4 := X4.ow (w.heap.size + 1) z3 (grw_at m w.heap.size (by omega))
 obtain ⟨r0, r1, r2, t0, t1, t2⟩ := R4.three
 have l4 := R4.lt
 have HX := hide X4
 have HR := hide R4
 have HK3 := hide k
 clear X4 R4 h3 R3 k
 try unfold ansV
 go_wp2
 have R7 := (((unhide HR).set 0 (.int .i64 (openG s x.n).2)).set 1 (.int .i64 0)).set 2 (.int .i64 0)
 refine bodyPost_ret (v := ansV ⟨(openG s x.n).2, 0, 0⟩) (ret_ans rfl rfl R7) rfl ?_
 have k7 := (((Chg.refl [w.heap.size + 1] w4).setCell (p := ⟨w.heap.size + 1, 0, none⟩) (by simp) (.int .i64 (openG s x.n).2)).setCell (p := ⟨w.heap.size + 1, 1, none⟩) (by simp) (.int .i64 0)).setCell (p := ⟨w.heap.size + 1, 2, none⟩) (by simp) (.int .i64 0)
 exact ⟨rfl, _, (Gnx.pre (unhide HK3) (unhide HX)).post k7 (by intro y hy; simp at hy; subst hy; exact ⟨o4, by omega⟩) zw⟩
set_option maxRecDepth 100000 in
set_option maxHeartbeats 4000000 in
theorem gstep_tick (W0 : World) (m : Gm) (s : Gd) (x : Sp) (w : World) (h : Gld W0 w m s) (k1 : x.k = 5) :
  Calls Tryz.prog 62 #[.pointer (some ⟨m.gb, 0, none⟩), spV x] w fun e w' => e = .returned (ansV ⟨(tickG s x.n).2, 0, 0⟩) ∧ ∃ m', Gnx W0 w m w' m' (tickG s x.n).1 := by
 have lg := h.blk.lt
 have zw := h.ch.size
 have HG := hide h
 clear h
 have b1 : (x.k == 1) = false := by simp [k1]
 have b5 : (x.k == 5) = true := by simp [k1]
 clear k1
 unfold spV spC
 go_enter Tryz.func62, Tryz.ntmps62
 go_wp2_with fail
 have k : Chg [] w ((w.alloc (.cells #[.int .i64 x.k, .int .i64 x.n, .int .i64 x.keep, .int .i64 x.o.k, .int .i64 x.o.now, .int .i64 x.o.jb, .int .i64 x.o.tr, .int .i64 x.o.wk, .int .i64 x.o.tm] 85)).alloc (.cells #[.int .i64 0, .int .i64 0, .int .i64 0] 95)) := ((Chg.refl [] w).alloc _).alloc _
 have h3 := (unhide HG).fresh k
 have R3 := Blk.new1 w (.cells #[.int .i64 x.k, .int .i64 x.n, .int .i64 x.keep, .int .i64 x.o.k, .int .i64 x.o.now, .int .i64 x.o.jb, .int .i64 x.o.tr, .int .i64 x.o.wk, .int .i64 x.o.tm] 85) #[.int .i64 0, .int .i64 0, .int .i64 0] 95
 generalize hW : (w.alloc (.cells #[.int .i64 x.k, .int .i64 x.n, .int .i64 x.keep, .int .i64 x.o.k, .int .i64 x.o.now, .int .i64 x.o.jb, .int .i64 x.o.tr, .int .i64 x.o.wk, .int .i64 x.o.tm] 85)).alloc (.cells #[.int .i64 0, .int .i64 0, .int .i64 0] 95) = W at *
 clear hW
 have z3 := R3.lt
 refine (gtick_any W0 _ s x.n W h3).mono ?_
 rintro e w4 ⟨rfl, X4⟩
 have R4 := X4.blk R3 (grw_at m w.heap.size (by omega))
 have o4 := X4.ow (w.heap.size + 1) z3 (grw_at m w.heap.size (by omega))
 obtain ⟨r0, r1, r2, t0, t1, t2⟩ := R4.three
 have l4 := R4.lt
 have HX := hide X4
 have HR := hide R4
 have HK3 := hide k
 clear X4 R4 h3 R3 k
 try unfold ansV
 go_wp2
 have R7 := (((unhide HR).set 0 (.int .i64 (tickG s x.n).2)).set 1 (.int .i64 0)).set 2 (.int .i64 0)
 refine bodyPost_ret (v := ansV ⟨(tickG s x.n).2, 0, 0⟩) (ret_ans rfl rfl R7) rfl ?_
 have k7 := (((Chg.refl [w.heap.size + 1] w4).setCell (p := ⟨w.heap.size + 1, 0, none⟩) (by simp) (.int .i64 (tickG s x.n).2)).setCell (p := ⟨w.heap.size + 1, 1, none⟩) (by simp) (.int .i64 0)).setCell (p := ⟨w.heap.size + 1, 2, none⟩) (by simp) (.int .i64 0)
 exact ⟨rfl, _, (Gnx.pre (unhide HK3) (unhide HX)).post k7 (by intro y hy; simp at hy; subst hy; exact ⟨o4, by omega⟩) zw⟩
set_option maxRecDepth 100000 in
set_option maxHeartbeats 4000000 in
theorem gstep_ask2 (W0 : World) (m : Gm) (s : Gd) (x : Sp) (w : World) (h : Gld W0 w m s) (k1 : x.k = 2) :
  Calls Tryz.prog 62 #[.pointer (some ⟨m.gb, 0, none⟩), spV x] w fun e w' => e = .returned (ansV (orderG s x).2) ∧ ∃ m', Gnx W0 w m w' m' (orderG s x).1 := by
 have lg := h.blk.lt
 have zw := h.ch.size
 have HG := hide h
 clear h
 have K := hide (show x.k = 2 ∨ x.k = 3 ∨ x.k = 4 by omega)
 have b1 : (x.k == 1) = false := by simp [k1]
 have b5 : (x.k == 5) = false := by simp [k1]
 have b2 : (x.k == 2) = true := by simp [k1]
 clear k1
 unfold spV spC
 go_enter Tryz.func62, Tryz.ntmps62
 go_wp2_with fail
 have k : Chg [] w ((w.alloc (.cells #[.int .i64 x.k, .int .i64 x.n, .int .i64 x.keep, .int .i64 x.o.k, .int .i64 x.o.now, .int .i64 x.o.jb, .int .i64 x.o.tr, .int .i64 x.o.wk, .int .i64 x.o.tm] 85)).alloc (.cells #[.int .i64 0, .int .i64 0, .int .i64 0] 95)) := ((Chg.refl [] w).alloc _).alloc _
 have h3 := (unhide HG).fresh k
 have R3 := Blk.new1 w (.cells #[.int .i64 x.k, .int .i64 x.n, .int .i64 x.keep, .int .i64 x.o.k, .int .i64 x.o.now, .int .i64 x.o.jb, .int .i64 x.o.tr, .int .i64 x.o.wk, .int .i64 x.o.tm] 85) #[.int .i64 0, .int .i64 0, .int .i64 0] 95
 generalize hW : (w.alloc (.cells #[.int .i64 x.k, .int .i64 x.n, .int .i64 x.keep, .int .i64 x.o.k, .int .i64 x.o.now, .int .i64 x.o.jb, .int .i64 x.o.tr, .int .i64 x.o.wk, .int .i64 x.o.tm] 85)).alloc (.cells #[.int .i64 0, .int .i64 0, .int .i64 0] 95) = W at *
 clear hW
 have z3 := R3.lt
 refine (gask_any W0 _ s x (unhide K) W h3).mono ?_
 rintro e w4 ⟨rfl, m4, X4⟩
 have R4 := X4.blk R3 (grw_at m w.heap.size (by omega))
 have o4 := X4.ow (w.heap.size + 1) z3 (grw_at m w.heap.size (by omega))
 obtain ⟨r0, r1, r2, t0, t1, t2⟩ := R4.three
 have l4 := R4.lt
 have HX := hide X4
 have HR := hide R4
 have HK3 := hide k
 clear X4 R4 h3 R3 k
 try unfold ansV
 go_wp2
 have R7 := (((unhide HR).set 0 (.int .i64 (orderG s x).2.code)).set 1 (.int .i64 (orderG s x).2.jb)).set 2 (.int .i64 (orderG s x).2.tr)
 refine bodyPost_ret (v := ansV (orderG s x).2) (ret_ans rfl rfl R7) rfl ?_
 have k7 := (((Chg.refl [w.heap.size + 1] w4).setCell (p := ⟨w.heap.size + 1, 0, none⟩) (by simp) (.int .i64 (orderG s x).2.code)).setCell (p := ⟨w.heap.size + 1, 1, none⟩) (by simp) (.int .i64 (orderG s x).2.jb)).setCell (p := ⟨w.heap.size + 1, 2, none⟩) (by simp) (.int .i64 (orderG s x).2.tr)
 exact ⟨rfl, _, (Gnx.pre (unhide HK3) (unhide HX)).post k7 (by intro y hy; simp at hy; subst hy; exact ⟨o4, by omega⟩) zw⟩
set_option maxRecDepth 100000 in
set_option maxHeartbeats 4000000 in
theorem gstep_ask3 (W0 : World) (m : Gm) (s : Gd) (x : Sp) (w : World) (h : Gld W0 w m s) (k1 : x.k = 3) :
  Calls Tryz.prog 62 #[.pointer (some ⟨m.gb, 0, none⟩), spV x] w fun e w' => e = .returned (ansV (orderG s x).2) ∧ ∃ m', Gnx W0 w m w' m' (orderG s x).1 := by
 have lg := h.blk.lt
 have zw := h.ch.size
 have HG := hide h
 clear h
 have K := hide (show x.k = 2 ∨ x.k = 3 ∨ x.k = 4 by omega)
 have b1 : (x.k == 1) = false := by simp [k1]
 have b5 : (x.k == 5) = false := by simp [k1]
 have b2 : (x.k == 2) = false := by simp [k1]
 have b3 : (x.k == 3) = true := by simp [k1]
 clear k1
 unfold spV spC
 go_enter Tryz.func62, Tryz.ntmps62
 go_wp2_with fail
 have k : Chg [] w ((w.alloc (.cells #[.int .i64 x.k, .int .i64 x.n, .int .i64 x.keep, .int .i64 x.o.k, .int .i64 x.o.now, .int .i64 x.o.jb, .int .i64 x.o.tr, .int .i64 x.o.wk, .int .i64 x.o.tm] 85)).alloc (.cells #[.int .i64 0, .int .i64 0, .int .i64 0] 95)) := ((Chg.refl [] w).alloc _).alloc _
 have h3 := (unhide HG).fresh k
 have R3 := Blk.new1 w (.cells #[.int .i64 x.k, .int .i64 x.n, .int .i64 x.keep, .int .i64 x.o.k, .int .i64 x.o.now, .int .i64 x.o.jb, .int .i64 x.o.tr, .int .i64 x.o.wk, .int .i64 x.o.tm] 85) #[.int .i64 0, .int .i64 0, .int .i64 0] 95
 generalize hW : (w.alloc (.cells #[.int .i64 x.k, .int .i64 x.n, .int .i64 x.keep, .int .i64 x.o.k, .int .i64 x.o.now, .int .i64 x.o.jb, .int .i64 x.o.tr, .int .i64 x.o.wk, .int .i64 x.o.tm] 85)).alloc (.cells #[.int .i64 0, .int .i64 0, .int .i64 0] 95) = W at *
 clear hW
 have z3 := R3.lt
 refine (gask_any W0 _ s x (unhide K) W h3).mono ?_
 rintro e w4 ⟨rfl, m4, X4⟩
 have R4 := X4.blk R3 (grw_at m w.heap.size (by omega))
 have o4 := X4.ow (w.heap.size + 1) z3 (grw_at m w.heap.size (by omega))
 obtain ⟨r0, r1, r2, t0, t1, t2⟩ := R4.three
 have l4 := R4.lt
 have HX := hide X4
 have HR := hide R4
 have HK3 := hide k
 clear X4 R4 h3 R3 k
 try unfold ansV
 go_wp2
 have R7 := (((unhide HR).set 0 (.int .i64 (orderG s x).2.code)).set 1 (.int .i64 (orderG s x).2.jb)).set 2 (.int .i64 (orderG s x).2.tr)
 refine bodyPost_ret (v := ansV (orderG s x).2) (ret_ans rfl rfl R7) rfl ?_
 have k7 := (((Chg.refl [w.heap.size + 1] w4).setCell (p := ⟨w.heap.size + 1, 0, none⟩) (by simp) (.int .i64 (orderG s x).2.code)).setCell (p := ⟨w.heap.size + 1, 1, none⟩) (by simp) (.int .i64 (orderG s x).2.jb)).setCell (p := ⟨w.heap.size + 1, 2, none⟩) (by simp) (.int .i64 (orderG s x).2.tr)
 exact ⟨rfl, _, (Gnx.pre (unhide HK3) (unhide HX)).post k7 (by intro y hy; simp at hy; subst hy; exact ⟨o4, by omega⟩) zw⟩
set_option maxRecDepth 100000 in
set_option maxHeartbeats 4000000 in
theorem gstep_ask4 (W0 : World) (m : Gm) (s : Gd) (x : Sp) (w : World) (h : Gld W0 w m s) (k1 : x.k = 4) :
  Calls Tryz.prog 62 #[.pointer (some ⟨m.gb, 0, none⟩), spV x] w fun e w' => e = .returned (ansV (orderG s x).2) ∧ ∃ m', Gnx W0 w m w' m' (orderG s x).1 := by
 have lg := h.blk.lt
 have zw := h.ch.size
 have HG := hide h
 clear h
 have K := hide (show x.k = 2 ∨ x.k = 3 ∨ x.k = 4 by omega)
 have b1 : (x.k == 1) = false := by simp [k1]
 have b5 : (x.k == 5) = false := by simp [k1]
 have b2 : (x.k == 2) = false := by simp [k1]
 have b3 : (x.k == 3) = false := by simp [k1]
 have b4 : (x.k == 4) = true := by simp [k1]
 clear k1
 unfold spV spC
 go_enter Tryz.func62, Tryz.ntmps62
 go_wp2_with fail
 have k : Chg [] w ((w.alloc (.cells #[.int .i64 x.k, .int .i64 x.n, .int .i64 x.keep, .int .i64 x.o.k, .int .i64 x.o.now, .int .i64 x.o.jb, .int .i64 x.o.tr, .int .i64 x.o.wk, .int .i64 x.o.tm] 85)).alloc (.cells #[.int .i64 0, .int .i64 0, .int .i64 0] 95)) := ((Chg.refl [] w).alloc _).alloc _
 have h3 := (unhide HG).fresh k
 have R3 := Blk.new1 w (.cells #[.int .i64 x.k, .int .i64 x.n, .int .i64 x.keep, .int .i64 x.o.k, .int .i64 x.o.now, .int .i64 x.o.jb, .int .i64 x.o.tr, .int .i64 x.o.wk, .int .i64 x.o.tm] 85) #[.int .i64 0, .int .i64 0, .int .i64 0] 95
 generalize hW : (w.alloc (.cells #[.int .i64 x.k, .int .i64 x.n, .int .i64 x.keep, .int .i64 x.o.k, .int .i64 x.o.now, .int .i64 x.o.jb, .int .i64 x.o.tr, .int .i64 x.o.wk, .int .i64 x.o.tm] 85)).alloc (.cells #[.int .i64 0, .int .i64 0, .int .i64 0] 95) = W at *
 clear hW
 have z3 := R3.lt
 refine (gask_any W0 _ s x (unhide K) W h3).mono ?_
 rintro e w4 ⟨rfl, m4, X4⟩
 have R4 := X4.blk R3 (grw_at m w.heap.size (by omega))
 have o4 := X4.ow (w.heap.size + 1) z3 (grw_at m w.heap.size (by omega))
 obtain ⟨r0, r1, r2, t0, t1, t2⟩ := R4.three
 have l4 := R4.lt
 have HX := hide X4
 have HR := hide R4
 have HK3 := hide k
 clear X4 R4 h3 R3 k
 try unfold ansV
 go_wp2
 have R7 := (((unhide HR).set 0 (.int .i64 (orderG s x).2.code)).set 1 (.int .i64 (orderG s x).2.jb)).set 2 (.int .i64 (orderG s x).2.tr)
 refine bodyPost_ret (v := ansV (orderG s x).2) (ret_ans rfl rfl R7) rfl ?_
 have k7 := (((Chg.refl [w.heap.size + 1] w4).setCell (p := ⟨w.heap.size + 1, 0, none⟩) (by simp) (.int .i64 (orderG s x).2.code)).setCell (p := ⟨w.heap.size + 1, 1, none⟩) (by simp) (.int .i64 (orderG s x).2.jb)).setCell (p := ⟨w.heap.size + 1, 2, none⟩) (by simp) (.int .i64 (orderG s x).2.tr)
 exact ⟨rfl, _, (Gnx.pre (unhide HK3) (unhide HX)).post k7 (by intro y hy; simp at hy; subst hy; exact ⟨o4, by omega⟩) zw⟩
set_option maxRecDepth 100000 in
set_option maxHeartbeats 4000000 in
theorem gstep_else (W0 : World) (m : Gm) (s : Gd) (x : Sp) (w : World) (h : Gld W0 w m s) (k1 : ¬ x.k = 1 ∧ ¬ x.k = 2 ∧ ¬ x.k = 3 ∧ ¬ x.k = 4 ∧ ¬ x.k = 5) :
  Calls Tryz.prog 62 #[.pointer (some ⟨m.gb, 0, none⟩), spV x] w fun e w' => e = .returned (ansV ⟨1, 0, 0⟩) ∧ ∃ m', Gnx W0 w m w' m' s := by
 have lg := h.blk.lt
 have HG := hide h
 obtain ⟨q1, q2, q3, q4, q5⟩ := k1
 have b1 : (x.k == 1) = false := by simpa using q1
 have b5 : (x.k == 5) = false := by simpa using q5
 have b2 : (x.k == 2) = false := by simpa using q2
 have b3 : (x.k == 3) = false := by simpa using q3
 have b4 : (x.k == 4) = false := by simpa using q4
 clear h q1 q2 q3 q4 q5
 unfold spV spC
 go_enter Tryz.func62, Tryz.ntmps62
 go_wp2
 have R7 := Blk.new1 w (.cells #[.int .i64 x.k, .int .i64 x.n, .int .i64 x.keep, .int .i64 x.o.k, .int .i64 x.o.now, .int .i64 x.o.jb, .int .i64 x.o.tr, .int .i64 x.o.wk, .int .i64 x.o.tm] 85) #[.int .i64 1, .int .i64 0, .int .i64 0] 95
 refine bodyPost_ret (v := ansV ⟨1, 0, 0⟩) (ret_ans rfl rfl R7) rfl ?_
 have k7 := ((Chg.refl [] w).alloc (.cells #[.int .i64 x.k, .int .i64 x.n, .int .i64 x.keep, .int .i64 x.o.k, .int .i64 x.o.now, .int .i64 x.o.jb, .int .i64 x.o.tr, .int .i64 x.o.wk, .int .i64 x.o.tm] 85)).alloc (.cells #[.int .i64 1, .int .i64 0, .int .i64 0] 95)
 exact ⟨rfl, _, Gnx.pre k7 (Gnx.refl ((unhide HG).fresh k7))⟩
theorem gstep_any (W0 : World) (m : Gm) (s : Gd) (x : Sp) (w : World) (h : Gld W0 w m s) :
  Calls Tryz.prog 62 #[.pointer (some ⟨m.gb, 0, none⟩), spV x] w fun e w' => e = .returned (ansV (stepG s x).2) ∧ ∃ m', Gnx W0 w m w' m' (stepG s x).1 := by
 unfold stepG
 by_cases h1 : x.k = 1
 ·rw [if_pos h1]
  exact gstep_open W0 m s x w h h1
 ·rw [if_neg h1]
  by_cases h5 : x.k = 5
  ·rw [if_pos h5]
   exact gstep_tick W0 m s x w h h5
  ·rw [if_neg h5]
   by_cases h2 : x.k = 2
   ·rw [if_pos (.inl h2)]
    exact gstep_ask2 W0 m s x w h h2
   ·by_cases h3 : x.k = 3
    ·rw [if_pos (.inr (.inl h3))]
     exact gstep_ask3 W0 m s x w h h3
    ·by_cases h4 : x.k = 4
     ·rw [if_pos (.inr (.inr h4))]
      exact gstep_ask4 W0 m s x w h h4
     ·rw [if_neg (by omega)]
      exact gstep_else W0 m s x w h ⟨h1, h2, h3, h4, h5⟩
end Go.Proofs.YtllnjiljjodfdacGreatDoor
