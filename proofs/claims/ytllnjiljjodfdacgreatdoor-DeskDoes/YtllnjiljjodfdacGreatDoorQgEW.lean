/-
 The program's step of a desk. Nothing here is claimed by itself.
-/
import Derived.Deep.CutBlock
import Derived.Deep.DeepCutAuto
import Derived.Deep.RegionHeld3
import Derived.Conc.WalkWords
import Derived.Test.YtllnjiljjodfdacGreatDoorQgEQ
import Derived.Test.YtllnjiljjodfdacGreatDoorQgE4
import Derived.Test.YtllnjiljjodfdacGreatDoorQgED
namespace Go.Proofs.YtllnjiljjodfdacGreatDoor
open Go.RowKit

theorem Dq.cg {W0 w : World} {M : Dm} {s : Gd} {told : List UInt8} (D : Dq W0 w M s told) : w.cell? ⟨M.db, 2, none⟩ = some (.pointer (some ⟨M.g.gb, 0, none⟩)) := by
 obtain ⟨p, hB⟩ := D.d
 exact hB.blk.cell 2
theorem spb_yield {S : World → Prop} {b : Nat} {x : Sp} {t : TypeId} (hS : ∀ W, S W → Blk W b (spC x) t) {ops : Array Oper} {op : Oper} {a : Act} {y : Operand} (hw : Region.wanted op (yielded ops a.tmps) = true) (ho : op.op = .load 85 y) (hx : a.eval y = .pointer (some ⟨b, 0, none⟩)) :
  YieldsIf Tryz.prog ops S op (spV x) a :=
 yieldsIf_load_mid (P := Tryz.prog) hw 85 y ho b 0 hx [.int .i64 x.k, .int .i64 x.n, .int .i64 x.keep, .int .i64 x.o.k, .int .i64 x.o.now, .int .i64 x.o.jb, .int .i64 x.o.tr, .int .i64 x.o.wk, .int .i64 x.o.tm] _ (fun w' hw' j v hv => by rw [Nat.zero_add, (hS _ hw').cell]; simpa [spC] using hv) Tryz.underlying85 rfl (by rw [spInfoD]; rfl)
theorem ansInfoD : (Tryz.prog.info? 95).map (·.size) = some 3 := by kernel_rfl
theorem dgstep {W0 w : World} {M : Dm} {s : Gd} {told : List UInt8} (D : Dq W0 w M s told) (x : Sp) :
  Calls Tryz.prog 62 #[.pointer (some ⟨M.g.gb, 0, none⟩), spV x] w fun e w' => e = .returned (ansV (stepG s x).2) ∧ ∃ M', Dqn W0 w M w' M' (stepG s x).1 told ∧ M'.g.gb = M.g.gb := by
 refine (gstep_any W0 M.g s x w D.c).mono ?_
 rintro e w' ⟨rfl, m', X⟩
 exact ⟨rfl, _, D.gop X, X.gb⟩
theorem dwith {W0 w : World} {M : Dm} {s : Gd} {told : List UInt8} (D : Dq W0 w M s told) (hv : Vars W0) (s0 : List UInt8) (a : Option Addr) (n c : Nat) (l : List Int) (hl : l.length = n) (hn : n ≤ 100000) (h : Nms w a l) :
  Calls Tryz.prog 30 #[.string (strA s0), .slice a n c] w fun e w' => ∃ av cv, e = .returned (.slice av (n + 1) cv) ∧ StrsF w' M av (s0 :: l.map Lib.itoa) ∧ Chg [] w w' := by
 refine (with_any s0 a n c l w hl hn h (hv.chg D.c.ch)).mono ?_
 rintro e w' ⟨v, rfl, own, g⟩
 have e1 : (s0 :: l.map Lib.itoa).length = n + 1 := by simp [hl]
 rw [← e1] at own
 obtain ⟨av, cv, rfl, -, hS⟩ := own_strsF D (Nat.le_refl _) own
 rw [e1]
 exact ⟨av, cv, rfl, hS, g⟩
theorem dsay {W0 w : World} {M : Dm} {s : Gd} {told : List UInt8} (D : Dq W0 w M s told) (db : Nat) (hdb : M.db = db) (a : Option Addr) (n c : Nat) (ws : List (List UInt8)) (x : List UInt8) (hS : StrsF w M a ws) (hl : ws.length = n) (hn : n ≤ 1000000) (hx : joinW ws = x) (hb : told.length + x.length ≤ 999999999) :
  Calls Tryz.prog 28 #[.pointer (some ⟨db, 0, none⟩), .slice a n c] w fun e w' => e = .returned (.tuple #[]) ∧ ∃ M', Dqn W0 w M w' M' s (told ++ sayL x) := by
 subst hdb
 subst hx
 exact say_all W0 M s told a n c ws w D hS hl hn hb
theorem nms_one {w : World} {b : Nat} {x : Int} {t : TypeId} (hx : I64 x) (h : Blk w b #[.int .i64 x] t) : Nms w (some ⟨b, 0, none⟩) [x] := by
 refine ⟨fun y hy => by simp at hy; subst hy; exact hx, .inr ⟨b, 0, rfl, h.lt, fun i y hy => ?_⟩⟩
 rw [h.cell, Nat.zero_add]
 match i, hy with
 | 0, hy => simpa using hy
theorem nms_two {w : World} {b : Nat} {x y : Int} {t : TypeId} (hx : I64 x) (hy : I64 y) (h : Blk w b #[.int .i64 x, .int .i64 y] t) : Nms w (some ⟨b, 0, none⟩) [x, y] := by
 refine ⟨fun z hz => by simp at hz; rcases hz with rfl | rfl <;> assumption, .inr ⟨b, 0, rfl, h.lt, fun i z hz => ?_⟩⟩
 rw [h.cell, Nat.zero_add]
 match i, hz with
 | 0, hz => simpa using hz
 | 1, hz => simpa using hz
theorem strs_one {w : World} {M : Dm} {b : Nat} {x : List UInt8} {t : TypeId} (hn : ¬ M.mine b) (h : Blk w b #[.string (strA x)] t) : StrsF w M (some ⟨b, 0, none⟩) [x] := by
 refine .inr ⟨b, 0, rfl, h.lt, hn, fun i z hz => ?_⟩
 rw [h.cell, Nat.zero_add]
 match i, hz with
 | 0, hz => cases hz; rfl
def stepS (W0 w : World) (M : Dm) (s' : Gd) (told : List UInt8) (x : Sp) (u : An) (v : Value) (wx : World) : Prop :=
 ∃ (b : Nat) (M' : Dm), v = .pointer (some ⟨b, 0, none⟩) ∧ Blk wx b #[.int .i64 u.code, .int .i64 u.jb, .int .i64 u.tr] 95 ∧ Blk wx w.heap.size (spC x) 85 ∧ Dqn W0 w M wx M' s' told
set_option maxRecDepth 100000 in
set_option maxHeartbeats 8000000 in
theorem dstep_any (W0 : World) (M : Dm) (s : Gd) (told : List UInt8) (x : Sp) (w : World) (D : Dq W0 w M s told) (hv : Vars W0) (hb : told.length ≤ 900000000) :
  Calls Tryz.prog 36 #[.pointer (some ⟨M.db, 0, none⟩), spV x] w fun e w' => e = .returned (.tuple #[]) ∧ ∃ M', Dqn W0 w M w' M' (stepG s x).1 (told ++ sayL (ansT (stepG s x).2 (decide (x.k = 2) && decide (x.o.k = 2)))) := by
 have HV := hide hv
 have HD := hide D
 have hA : AnOk (stepG s x).2 := by
  obtain ⟨rs, t, pl⟩ := D.c.pl
  exact step_ok pl x
 have lb := D.lt
 clear D hv
 unfold spV spC
 go_enter Tryz.func36, Tryz.ntmps36
 go_upto_region 1 with fail
 have k1 : Chg [] w (w.alloc (.cells (spC x) 85)) := (Chg.refl [] w).alloc _
 have B1 := Blk.new w (spC x) 85
 have HD1 := hide ((unhide HD).new k1)
 have HK1 := hide k1
 have cg1 := (unhide HD1).cg
 have nm1 : ¬ M.mine w.heap.size := (unhide HD).free (Nat.le_refl _)
 change Code.wp _ _ _ _ (w.alloc (.cells (spC x) 85))
 obtain ⟨u, hu⟩ : ∃ u, u = (stepG s x).2 := ⟨_, rfl⟩
 obtain ⟨s', hs'⟩ : ∃ s', s' = (stepG s x).1 := ⟨_, rfl⟩
 rw [← hu] at hA
 have HU := hide hu
 have HS' := hide hs'
 clear hu hs'
 generalize w.alloc (.cells (spC x) 85) = w1 at *
 have l1 := B1.lt
 clear k1
 go_cut [4] from 5 to 10 (fun v wx => stepS W0 w M s' told x u v wx)
 case first =>
  have nz := (unhide HD1).free (Nat.le_refl w1.heap.size)
  refine wp_region_noPanic ?_
  refine wp_region_held_drew (S := (fun w' => w'.cell? ⟨M.db, 2, none⟩ = some (.pointer (some ⟨M.g.gb, 0, none⟩)) ∧ Blk w' w.heap.size (spC x) 85)) (by kernel_rfl) (show _ ∧ _ from ⟨cg1, B1⟩) (fun hH => ?_)
  refine tk 0 rfl hH ?_
  walk_nrm
  refine tk 1 rfl hH ?_
  walk_nrm
  refine tk 2 rfl hH ?_
  walk_nrm
  refine tk 3 rfl hH ?_
  walk_nrm
  refine wpAnyH_take (i := 4) (v := _) rfl (by kernel_rfl) (by kernel_rfl) (by kernel_rfl) (fun _ _ _ h => h) (spb_yield (x := x) (fun _ h => h.2) (by rfl) rfl rfl) hH ?_
  walk_nrm
  refine wpAnyH_ready (rs := [5, 6]) (by kernel_rfl) (by simp) ?_
  refine AllReadyH.cons rfl (fun K hK => ?_) ?_
  ·skip
   rw [if_pos (by rfl)]
   go_simp
   refine (dgstep ((unhide HD1).new ((Chg.refl [] w1).drew)) x).mono ?_
   rintro e w6 ⟨rfl, M6, X6, gb6⟩
   rw [← unhide HU]
   have X6' : Dqn W0 w M w6 M6 s' told := ((unhide HD).quiet ((unhide HK1).drew)).trans (by rw [unhide HS']; exact X6)
   have B6 := X6.blk (show Blk w1.drew _ _ _ from B1) nm1
   have S6 : w6.cell? ⟨M.db, 2, none⟩ = some (.pointer (some ⟨M.g.gb, 0, none⟩)) := by have := X6.k.cg; rw [X6.db, gb6] at this; exact this
   have z6 := X6'.size
   have y6 := B6.lt
   clear X6 gb6
   refine hK.out _ _ ⟨S6, B6⟩ (fun hH2 => ?_)
   clear hK K hH
   have hH := hH2
   clear hH2
   walk_nrm
   unfold ansV
   refine rd 6 rfl (fun K hK => ?_)
   go_simp
   have A7 := Blk.new w6 #[.int .i64 0, .int .i64 0, .int .i64 0] 95
   have B7 := B6.alloc (.cells #[.int .i64 0, .int .i64 0, .int .i64 0] 95)
   have X7 := X6'.trans (X6'.k.quiet ((Chg.refl [] w6).alloc (.cells #[.int .i64 0, .int .i64 0, .int .i64 0] 95)))
   have S7 : (w6.alloc (.cells #[.int .i64 0, .int .i64 0, .int .i64 0] 95)).cell? ⟨M.db, 2, none⟩ = some (.pointer (some ⟨M.g.gb, 0, none⟩)) := (((Chg.refl [] w6).alloc (.cells #[.int .i64 0, .int .i64 0, .int .i64 0] 95)).cell' (p := ⟨M.db, 2, none⟩) (by show M.db < w6.heap.size; omega) (by simp)).trans S6
   have NM := X6'.k.free (Nat.le_refl w6.heap.size)
   clear B6 X6' S6
   generalize w6.alloc (.cells #[.int .i64 0, .int .i64 0, .int .i64 0] 95) = w7 at *
   refine hK.out _ _ ⟨S7, B7⟩ (fun hH2 => ?_)
   clear hK K hH
   have hH := hH2
   clear hH2
   walk_nrm
   refine rd 7 rfl (fun K hK => ?_)
   refine wp_store_mid 95 _ _ rfl w6.heap.size 0 #[.int .i64 u.code, .int .i64 u.jb, .int .i64 u.tr] rfl rfl (A7.thereD (Nat.le_of_eq rfl)) (by rw [ansInfoD]; rfl) (by simp [Value.oneCell']) ?_
   have A8 := A7.wholeD #[.int .i64 u.code, .int .i64 u.jb, .int .i64 u.tr] rfl
   have k8 := (Chg.refl [w6.heap.size] w7).setAll (b := w6.heap.size) (.inl (by simp)) 0 (#[.int .i64 u.code, .int .i64 u.jb, .int .i64 u.tr] : Array Value).toList
   have B8 := Blk.chg (show Blk w7 w.heap.size _ _ from B7) k8 (by simp; omega)
   have X8 := X7.later k8 (by intro y hy; simp at hy; subst hy; exact ⟨NM, by omega⟩) (unhide HD).c.ch.size
   have S8 : (w7.setCells w6.heap.size 0 (#[.int .i64 u.code, .int .i64 u.jb, .int .i64 u.tr] : Array Value).toList).cell? ⟨M.db, 2, none⟩ = some (.pointer (some ⟨M.g.gb, 0, none⟩)) := (k8.cell' (p := ⟨M.db, 2, none⟩) (by have := X7.size; show M.db < w7.heap.size; omega) (by simp; omega)).trans S7
   clear A7 k8 S7 B7 X7
   generalize w7.setCells w6.heap.size 0 (#[.int .i64 u.code, .int .i64 u.jb, .int .i64 u.tr] : Array Value).toList = w8 at A8 B8 X8 S8 ⊢
   refine hK.out _ _ ⟨S8, B8⟩ (fun hH2 => ?_)
   clear hK K hH
   have hH := hH2
   clear hH2
   walk_nrm
   refine wpAnyH_done (by kernel_rfl) ?_ _
   refine NoPanic.normal ?_
   clear hH
   go_wp2_with fail
   go_meet
   case rel => exact ⟨_, _, rfl, A8, B8, X8⟩
  refine AllReadyH.cons rfl (fun K hK => ?_) AllReadyH.nil
  rw [if_pos (by rfl)]
  go_simp
  have A5 : Blk ((w1.alloc (.cells #[.int .i64 0, .int .i64 0, .int .i64 0] 95)).drew) w1.heap.size #[.int .i64 0, .int .i64 0, .int .i64 0] 95 := Blk.new w1 #[.int .i64 0, .int .i64 0, .int .i64 0] 95
  have k5 : Chg [] w1 ((w1.alloc (.cells #[.int .i64 0, .int .i64 0, .int .i64 0] 95)).drew) := ((Chg.refl [] w1).alloc _).drew
  have B5 := B1.chg k5 (by simp)
  have D5 := (unhide HD1).new k5
  have S5 := D5.cg
  have K5 := (unhide HK1).trans k5 (by simp)
  clear k5
  generalize (w1.alloc (.cells #[.int .i64 0, .int .i64 0, .int .i64 0] 95)).drew = w5 at *
  refine hK.out _ _ ⟨S5, B5⟩ (fun hH2 => ?_)
  clear hK K hH
  have hH := hH2
  clear hH2
  walk_nrm
  refine rd 5 rfl (fun K hK => ?_)
  go_simp
  refine (dgstep D5 x).mono ?_
  rintro e w6 ⟨rfl, M6, X6, gb6⟩
  rw [← unhide HU]
  have X7 : Dqn W0 w M w6 M6 s' told := ((unhide HD).quiet K5).trans (by rw [unhide HS']; exact X6)
  have B7 := X6.blk B5 nm1
  have A7 := X6.blk A5 nz
  have NM := X6.other A5.lt nz
  have S7 : w6.cell? ⟨M.db, 2, none⟩ = some (.pointer (some ⟨M.g.gb, 0, none⟩)) := by have := X6.k.cg; rw [X6.db, gb6] at this; exact this
  have z6 := X7.size
  have y6 := B7.lt
  have z1 := (unhide HK1).size
  clear X6 gb6 A5 B5 D5 S5 K5
  refine hK.out _ _ ⟨S7, B7⟩ (fun hH2 => ?_)
  clear hK K hH
  have hH := hH2
  clear hH2
  walk_nrm
  unfold ansV
  refine rd 7 rfl (fun K hK => ?_)
  refine wp_store_mid 95 _ _ rfl w1.heap.size 0 #[.int .i64 u.code, .int .i64 u.jb, .int .i64 u.tr] rfl rfl (A7.thereD (Nat.le_of_eq rfl)) (by rw [ansInfoD]; rfl) (by simp [Value.oneCell']) ?_
  have A8 := A7.wholeD #[.int .i64 u.code, .int .i64 u.jb, .int .i64 u.tr] rfl
  have k8 := (Chg.refl [w1.heap.size] w6).setAll (b := w1.heap.size) (.inl (by simp)) 0 (#[.int .i64 u.code, .int .i64 u.jb, .int .i64 u.tr] : Array Value).toList
  have B8 := Blk.chg (show Blk w6 w.heap.size _ _ from B7) k8 (by simp; omega)
  have X8 := X7.later k8 (by intro y hy; simp at hy; subst hy; exact ⟨NM, by omega⟩) (unhide HD).c.ch.size
  have S8 : (w6.setCells w1.heap.size 0 (#[.int .i64 u.code, .int .i64 u.jb, .int .i64 u.tr] : Array Value).toList).cell? ⟨M.db, 2, none⟩ = some (.pointer (some ⟨M.g.gb, 0, none⟩)) := (k8.cell' (p := ⟨M.db, 2, none⟩) (by have := X7.size; show M.db < w6.heap.size; omega) (by simp; omega)).trans S7
  clear A7 k8 S7 B7 X7
  generalize w6.setCells w1.heap.size 0 (#[.int .i64 u.code, .int .i64 u.jb, .int .i64 u.tr] : Array Value).toList = w8 at A8 B8 X8 S8 ⊢
  refine hK.out _ _ ⟨S8, B8⟩ (fun hH2 => ?_)
  clear hK K hH
  have hH := hH2
  clear hH2
  walk_nrm
  refine wpAnyH_done (by kernel_rfl) ?_ _
  refine NoPanic.normal ?_
  clear hH
  go_wp2_with fail
  go_meet
  case rel => exact ⟨_, _, rfl, A8, B8, X8⟩
 case rest =>
  obtain ⟨b, M', rfl, A, B, X⟩ := hcut
  have a0 : wc.cell? ⟨b, 0, none⟩ = some (.int .i64 u.code) := A.cell 0
  have a1 : wc.cell? ⟨b, 1, none⟩ = some (.int .i64 u.jb) := A.cell 1
  have a2 : wc.cell? ⟨b, 2, none⟩ = some (.int .i64 u.tr) := A.cell 2
  have b0 : wc.cell? ⟨w.heap.size, 0, none⟩ = some (.int .i64 x.k) := B.cell 0
  have b3 : wc.cell? ⟨w.heap.size, 3, none⟩ = some (.int .i64 x.o.k) := B.cell 3
  have lA := A.lt
  have lB := B.lt
  have HX := hide X
  have HAL := hide (ans_len hA (decide (x.k = 2) && decide (x.o.k = 2)))
  clear A B X cg1 B1 HD1 HK1 nm1 l1
  by_cases hc : u.code = 0
  ·have c0 : (u.code != 0) = false := by simpa using hc
   have kX := (Chg.refl [] wc).alloc (.cells #[.string (strA wOk)] 9)
   by_cases h2 : x.k = 2 ∧ x.o.k = 2
   ·have c1 : (x.k == 2) = true := by simpa using h2.1
    have c2 : (x.o.k == 2) = true := by simpa using h2.2
    have HT := hide (show ansT u (decide (x.k = 2) && decide (x.o.k = 2)) = listL wOk [u.jb, u.tr] by unfold ansT; rw [if_pos hc]; simp [h2.1, h2.2])
    have N1 := nms_two hA.2.1.i64 hA.2.2.i64 (Blk.new wc #[.int .i64 u.jb, .int .i64 u.tr] 3)
    have D1 := (unhide HX).k.new ((Chg.refl [] wc).alloc (.cells #[.int .i64 u.jb, .int .i64 u.tr] 3))
    have HQ := hide ((unhide HX).trans ((unhide HX).k.quiet ((Chg.refl [] wc).alloc (.cells #[.int .i64 u.jb, .int .i64 u.tr] 3))))
    clear hc h2 kX
    go_wp2_with fail
    refine (dwith D1 (unhide HV) wOk _ 2 2 [u.jb, u.tr] rfl (by omega) N1).mono ?_
    rintro e w2 ⟨av, cv, rfl, S2, g2⟩
    have D2 := D1.new g2
    have HQ2 := hide ((unhide HQ).trans (D1.quiet g2))
    clear a0 a1 a2 b0 b3 D1 N1 g2
    go_wp2_with fail
    refine (dsay D2 M.db (unhide HQ2).db av _ cv _ _ S2 rfl (by simp) (joinW_list _ _) (by have := unhide HAL; rw [unhide HT] at this; omega)).mono ?_
    rintro e w3 ⟨rfl, M3, X3⟩
    have HQ3 := hide ((unhide HQ2).trans X3)
    clear X3 D2 S2
    go_wp2
    go_end0
    rw [← unhide HU, ← unhide HS', unhide HT]
    exact ⟨rfl, M3, unhide HQ3⟩
   ·have HT := hide (show ansT u (decide (x.k = 2) && decide (x.o.k = 2)) = wOk by unfold ansT; rw [if_pos hc, if_neg (by simp; exact fun a b => h2 ⟨a, b⟩)])
    have D1 := (unhide HX).k.new kX
    have S1 := strs_one ((unhide HX).k.free (Nat.le_refl _)) (Blk.new wc #[.string (strA wOk)] 9)
    have HQ := hide ((unhide HX).trans ((unhide HX).k.quiet kX))
    clear hc kX
    by_cases hk : x.k = 2
    ·have c1 : (x.k == 2) = true := by simpa using hk
     have c2 : (x.o.k == 2) = false := by simpa using (fun e => h2 ⟨hk, e⟩)
     clear h2 hk
     go_wp2_with fail
     refine (dsay D1 M.db (unhide HQ).db _ 1 1 [wOk] wOk S1 rfl (by omega) (joinW_one _) (by have := unhide HAL; rw [unhide HT] at this; omega)).mono ?_
     rintro e w3 ⟨rfl, M3, X3⟩
     have HQ3 := hide ((unhide HQ).trans X3)
     clear X3 D1 S1
     go_wp2
     go_end0
     rw [← unhide HU, ← unhide HS', unhide HT]
     exact ⟨rfl, M3, unhide HQ3⟩
    ·have c1 : (x.k == 2) = false := by simpa using hk
     clear h2 hk
     go_wp2_with fail
     refine (dsay D1 M.db (unhide HQ).db _ 1 1 [wOk] wOk S1 rfl (by omega) (joinW_one _) (by have := unhide HAL; rw [unhide HT] at this; omega)).mono ?_
     rintro e w3 ⟨rfl, M3, X3⟩
     have HQ3 := hide ((unhide HQ).trans X3)
     clear X3 D1 S1
     go_wp2
     go_end0
     rw [← unhide HU, ← unhide HS', unhide HT]
     exact ⟨rfl, M3, unhide HQ3⟩
  ·have c0 : (u.code != 0) = true := by simpa using hc
   have HT := hide (show ansT u (decide (x.k = 2) && decide (x.o.k = 2)) = listL wNo [u.code] by unfold ansT; rw [if_neg hc])
   have N1 := nms_one hA.1.i64 (Blk.new wc #[.int .i64 u.code] 3)
   have D1 := (unhide HX).k.new ((Chg.refl [] wc).alloc (.cells #[.int .i64 u.code] 3))
   have HQ := hide ((unhide HX).trans ((unhide HX).k.quiet ((Chg.refl [] wc).alloc (.cells #[.int .i64 u.code] 3))))
   clear hc
   go_wp2_with fail
   refine (dwith D1 (unhide HV) wNo _ 1 1 [u.code] rfl (by omega) N1).mono ?_
   rintro e w2 ⟨av, cv, rfl, S2, g2⟩
   have D2 := D1.new g2
   have HQ2 := hide ((unhide HQ).trans (D1.quiet g2))
   clear a0 a1 a2 b0 b3 D1 N1 g2
   go_wp2_with fail
   refine (dsay D2 M.db (unhide HQ2).db av _ cv _ _ S2 rfl (by simp) (joinW_list _ _) (by have := unhide HAL; rw [unhide HT] at this; omega)).mono ?_
   rintro e w3 ⟨rfl, M3, X3⟩
   have HQ3 := hide ((unhide HQ2).trans X3)
   clear X3 D2 S2
   go_wp2
   go_end0
   rw [← unhide HU, ← unhide HS', unhide HT]
   exact ⟨rfl, M3, unhide HQ3⟩
def jobT (s : Gd) (n j : Int) : List UInt8 := match nodeG s n with
 | none => sayL (listL wNo [5])
 | some nd => sayL (listL wJob [(jobA nd.T j).st, (jobA nd.T j).wk, (jobA nd.T j).tr, (jobA nd.T j).un])
set_option maxRecDepth 100000 in
set_option maxHeartbeats 4000000 in
theorem djob_any (W0 : World) (M : Dm) (s : Gd) (told : List UInt8) (n j : Int) (w : World) (D : Dq W0 w M s told) (hv : Vars W0) (hb : told.length ≤ 900000000) :
  Calls Tryz.prog 29 #[.pointer (some ⟨M.db, 0, none⟩), .int .i64 n, .int .i64 j] w fun e w' => e = .returned (.tuple #[]) ∧ ∃ M', Dqn W0 w M w' M' s (told ++ jobT s n j) := by
 have HV := hide hv
 have HD := hide D
 have cg := D.cg
 have lb := D.lt
 cases hn : nodeG s n with
 | none =>
  have HN := hide (show nodeV M.g s n = .pointer none by unfold nodeV; rw [hn]; rfl)
  have HT := hide (show jobT s n j = sayL (listL wNo [5]) by unfold jobT; rw [hn])
  clear D hv hn
  go_enter Tryz.func29, Tryz.ntmps29
  go_wp2_with fail
  refine (gnode_any W0 M.g s n _ (unhide HD).c).mono ?_
  rintro e w ⟨rfl, rfl⟩
  rw [unhide HN]
  have N1 := nms_one (x := 5) (by unfold I64; omega) (Blk.new w #[.int .i64 5] 3)
  have k1 := (Chg.refl [] w).alloc (.cells #[.int .i64 5] 3)
  have D1 := (unhide HD).new k1
  have HQ := hide ((unhide HD).quiet k1)
  clear k1
  go_wp2_with fail
  refine (dwith D1 (unhide HV) wNo _ 1 1 [5] rfl (by omega) N1).mono ?_
  rintro e w2 ⟨av, cv, rfl, S2, g2⟩
  have D2 := D1.new g2
  have HQ2 := hide ((unhide HQ).trans (D1.quiet g2))
  clear D1 N1 g2
  go_wp2_with fail
  refine (dsay D2 M.db (unhide HQ2).db av _ cv _ _ S2 rfl (by simp) (joinW_list _ _) (by have := list_len wNo [5] (by intro x hx; simp at hx; subst hx; simp [Sm]); simp only [List.length_cons, List.length_nil, show wNo.length = 2 from rfl] at this; omega)).mono ?_
  rintro e w3 ⟨rfl, M3, X3⟩
  have HQ3 := hide ((unhide HQ2).trans X3)
  clear X3 D2 S2
  go_wp2
  (try simp only [Exit.inBlock, Exit.then])
  refine bodyPost_ret (results_none rfl _ _ _) rfl ?_
  rw [unhide HT]
  exact ⟨rfl, M3, unhide HQ3⟩
 | some nd =>
  obtain ⟨i, hi, hni, hnt, hs⟩ := nodeG_some hn
  have HN := hide (show nodeV M.g s n = .pointer (some ⟨M.g.nb i, 0, none⟩) by unfold nodeV; rw [hn, hnt]; rfl)
  have HT := hide (show jobT s n j = sayL (listL wJob [(jobA nd.T j).st, (jobA nd.T j).wk, (jobA nd.T j).tr, (jobA nd.T j).un]) by unfold jobT; rw [hn])
  have N := D.c.nod i nd hi hs
  have n0 : w.cell? ⟨M.g.nb i, 0, none⟩ = some (.pointer (some ⟨M.g.tb i, 0, none⟩)) := N.1.cell 0
  have ln := N.1.lt
  have HH := hide N.2
  have hJ : JbOk (jobA nd.T j) := by
   obtain ⟨rs, t, pl⟩ := D.c.pl
   exact jobA_ok (pl.inv i nd hi hs) j
  clear D hv hn hni hnt hs N hi
  go_enter Tryz.func29, Tryz.ntmps29
  go_wp2_with fail
  refine (gnode_any W0 M.g s n _ (unhide HD).c).mono ?_
  rintro e w ⟨rfl, rfl⟩
  rw [unhide HN]
  go_wp2_with fail
  refine (job_all (M.g.tb i) j nd.T _ (unhide HH)).mono ?_
  rintro e w1 ⟨rfl, g1⟩
  generalize jobA nd.T j = jj at *
  have D1 := (unhide HD).new g1
  have HQ := hide ((unhide HD).quiet g1)
  clear g1 n0 ln HH cg
  go_wp2_with fail
  refine (jobwords_any jj _ ⟨hJ.1.i64, hJ.2.1.i64, hJ.2.2.1.i64, hJ.2.2.2.i64⟩ ((unhide HV).chg D1.c.ch)).mono ?_
  rintro e w2 ⟨v, rfl, own, g2⟩
  obtain ⟨av, cv, rfl, -, S2⟩ := own_strsF (ls := wJob :: [jj.st, jj.wk, jj.tr, jj.un].map Lib.itoa) D1 (Nat.le_refl _) own
  have D2 := D1.new g2
  have HQ2 := hide ((unhide HQ).trans (D1.quiet g2))
  clear D1 own g2
  go_wp2_with fail
  refine (dsay D2 M.db (unhide HQ2).db av _ cv _ _ S2 rfl (by simp) (joinW_list _ _) (by have := list_len wJob [jj.st, jj.wk, jj.tr, jj.un] (by intro x hx; simp at hx; obtain ⟨a0, a1, a2, a3⟩ := hJ; rcases hx with rfl | rfl | rfl | rfl <;> assumption); simp only [List.length_cons, List.length_nil, show wJob.length = 3 from rfl] at this; omega)).mono ?_
  rintro e w3 ⟨rfl, M3, X3⟩
  have HQ3 := hide ((unhide HQ2).trans X3)
  clear X3 D2 S2
  go_wp2
  go_end0
  rw [unhide HT]
  exact ⟨rfl, M3, unhide HQ3⟩
def tearT (s : Gd) (ws : List (List UInt8)) : Gd × List UInt8 := match tornP ws with
 | none => (s, sayL wWhat)
 | some x => ((stepG s x).1, sayL (ansT (stepG s x).2 (decide (x.k = 2) && decide (x.o.k = 2))))
set_option maxRecDepth 100000 in
set_option maxHeartbeats 4000000 in
theorem dtear_any (W0 : World) (M : Dm) (s : Gd) (told : List UInt8) (a : Option Addr) (m c : Nat) (ws : List (List UInt8)) (w : World) (D : Dq W0 w M s told) (hv : Vars W0) (hb : told.length ≤ 900000000) (hm : ws.length = m) (hc : m ≤ c) (hb2 : m ≤ 1000000) (hl : ∀ y ∈ ws, y.length ≤ 1000000) (h : Strs w a ws) :
  Calls Tryz.prog 26 #[.pointer (some ⟨M.db, 0, none⟩), .slice a m c] w fun e w' => e = .returned (.tuple #[]) ∧ ∃ M', Dqn W0 w M w' M' (tearT s ws).1 (told ++ (tearT s ws).2) := by
 have HV := hide hv
 have HD := hide D
 have HS := hide h
 have HL := hide hl
 have HM := hide hm
 have lb := D.lt
 clear D hv h hl hm
 go_enter Tryz.func26, Tryz.ntmps26
 go_wp2_with fail
 refine (torn_any a m c ws _ (unhide HM) hc hb2 (unhide HL) (unhide HS) ((unhide HV).chg (unhide HD).c.ch)).mono ?_
 rintro e w1 ⟨sx, rfl, hsx, g1⟩
 have D1 := (unhide HD).new g1
 have HQ := hide ((unhide HD).quiet g1)
 clear g1 HS HL HM
 cases ht : tornP ws with
 | none =>
  have HT := hide (show tearT s ws = (s, sayL wWhat) by unfold tearT; rw [ht])
  clear ht hsx
  simp only [Option.isSome_none]
  obtain ⟨sk, sn, skeep, ok, onow, ojb, otr, owk, otm⟩ := sx
  simp only [spV, spC]
  have kA := (Chg.refl [] w1).alloc (.cells #[.int .i64 sk, .int .i64 sn, .int .i64 skeep, .int .i64 ok, .int .i64 onow, .int .i64 ojb, .int .i64 otr, .int .i64 owk, .int .i64 otm] 85)
  have kB := kA.alloc (.cells #[.string (strA wWhat)] 9)
  have S1 := strs_one (t := 9) (x := wWhat) (D1.free (Nat.le_succ _)) (Blk.new1 w1 (.cells #[.int .i64 sk, .int .i64 sn, .int .i64 skeep, .int .i64 ok, .int .i64 onow, .int .i64 ojb, .int .i64 otr, .int .i64 owk, .int .i64 otm] 85) #[.string (strA wWhat)] 9)
  have D2 := D1.new kB
  have HQ2 := hide ((unhide HQ).trans (D1.quiet kB))
  clear kA kB D1
  go_wp2_with fail
  refine (dsay D2 M.db (unhide HQ2).db _ 1 1 [wWhat] wWhat S1 rfl (by omega) (joinW_one _) (by simp [wWhat]; omega)).mono ?_
  rintro e w3 ⟨rfl, M3, X3⟩
  have HQ3 := hide ((unhide HQ2).trans X3)
  clear X3 D2 S1
  go_wp2
  (try simp only [Exit.inBlock, Exit.then])
  refine bodyPost_ret (results_none rfl _ _ _) rfl ?_
  rw [unhide HT]
  exact ⟨rfl, M3, unhide HQ3⟩
 | some x =>
  obtain rfl := hsx x ht
  have HT := hide (show tearT s ws = ((stepG s x).1, sayL (ansT (stepG s x).2 (decide (x.k = 2) && decide (x.o.k = 2)))) by unfold tearT; rw [ht])
  clear ht hsx
  simp only [Option.isSome_some]
  have kA := (Chg.refl [] w1).alloc (.cells (spC x) 85)
  have D2 := D1.new kA
  have HQ2 := hide ((unhide HQ).trans (D1.quiet kA))
  clear kA D1
  simp only [spV, spC] at D2 HQ2 ⊢
  go_wp2_with fail
  refine (dstep_any W0 M s told x _ D2 (unhide HV) hb).mono ?_
  rintro e w3 ⟨rfl, M3, X3⟩
  have HQ3 := hide ((unhide HQ2).trans X3)
  clear X3 D2
  go_wp2
  go_end0
  rw [unhide HT]
  exact ⟨rfl, M3, unhide HQ3⟩
end Go.Proofs.YtllnjiljjodfdacGreatDoor
