/-
 The document's own table: what an order does to it, in whatever case. Nothing here is claimed by itself.
-/
import Derived.Deep.RegionHeld3
import Derived.Test.YtllnjiljjodfdacGreatDoorQgR3z
import Derived.Test.YtllnjiljjodfdacGreatDoorQgR3b1
import Derived.Test.YtllnjiljjodfdacGreatDoorQgR3d
import Derived.Test.YtllnjiljjodfdacGreatDoorQgR3f
import Derived.Test.YtllnjiljjodfdacGreatDoorQgR0
import Derived.Test.YtllnjiljjodfdacGreatDoorQNP
namespace Go.Proofs.YtllnjiljjodfdacGreatDoor
open Go.RowKit

def ansV (a : An) : Value := .agg #[.int .i64 a.code, .int .i64 a.jb, .int .i64 a.tr]
def odV (o : Od) : Value := .agg #[.int .i64 o.k, .int .i64 o.now, .int .i64 o.jb, .int .i64 o.tr, .int .i64 o.wk, .int .i64 o.tm]
theorem did_any (T : Tb) (o : Od) (w : World) (hI : Inv T) :
  Calls Tryz.prog 94 #[.agg T.cells, odV o] w fun e w' => e = .returned (.tuple #[.agg (doT T o).1.cells, ansV (doT T o).2]) ∧ Chg [] w w' := by
 obtain ⟨k, now, jb, tr, wk, tm⟩ := o
 by_cases hc : chk ⟨k, now, jb, tr, wk, tm⟩ = 0
 ·by_cases e1 : k = 1
  ·by_cases es : ((passT T now).js jb.toNat).st = 0
   ·exact did_add1 T k now jb tr wk tm w hI hc e1 es
   ·exact did_add2 T k now jb tr wk tm w hI hc e1 es
  by_cases e2 : k = 2
  ·exact did_take T k now jb tr wk tm w hI hc e2
  by_cases es : ((passT T now).js jb.toNat).st = 0
  ·exact did_absent T k now jb tr wk tm w hI hc e1 e2 es
  by_cases f1 : ((passT T now).js jb.toNat).st = 2
  ·by_cases f2 : ((passT T now).js jb.toNat).wk = wk
   ·by_cases f3 : ((passT T now).js jb.toNat).tr = tr
    ·have hk := (chk_zero hc).1
     simp only at hk
     by_cases e3 : k = 3
     ·exact did_renew T k now jb tr wk tm w hI hc e3 f1 f2 f3
     by_cases e4 : k = 4
     ·exact did_done T k now jb tr wk tm w hI hc e4 f1 f2 f3
     exact did_drop T k now jb tr wk tm w hI hc (by omega) f1 f2 f3
    ·exact did_other3 T k now jb tr wk tm w hI hc e1 e2 es f1 f2 f3
   ·exact did_other2 T k now jb tr wk tm w hI hc e1 e2 es f1 f2
  ·exact did_other1 T k now jb tr wk tm w hI hc e1 e2 es f1
 ·exact did_code T k now jb tr wk tm w hc
def Zed (ty : TypeId) (w : World) (g : Nat) : Prop := ∃ T, Has ty w g T
def Zan (ty : TypeId) (w : World) (g : Nat) : Prop := ∃ x y z, Blk w g #[x, y, z] ty
def Rds (ty : TypeId) (b : Nat) (T : Tb) (wo : Nat) (c : Array Value) (t : TypeId) (w : World) : Prop := Has ty w b T ∧ Blk w wo c t
theorem zed_ne {ty t : TypeId} (ht : ty ≠ t) {w : World} {g g' : Nat} (h : Zed ty w g) (h' : Zan t w g') : g ≠ g' := by
 rintro rfl
 obtain ⟨T, h⟩ := h
 obtain ⟨x, y, z, h'⟩ := h'
 unfold Has at h
 unfold Blk at h'
 rw [h] at h'
 simp only [Option.some.injEq, Obj.cells.injEq] at h'
 exact ht h'.2.1
theorem ordInfo : (Tryz.prog.info? 83).map (·.size) = some 6 := by kernel_rfl
theorem wp_store_tab {op : Oper} {a : Act} {w : World} {K : Act → World → Prop} {Q : Exit → Act → World → Prop} {x y : Operand} (ho : op.op = .store 103 x y) {g : Nat} (hx : a.eval x = .pointer (some ⟨g, 0, none⟩)) {T' : Tb} (hy : a.eval y = .agg T'.cells) {ty' : TypeId} {T : Tb} (h : Has ty' w g T)
  (k : ∀ w', Has ty' w' g T' → Chg [g] w w' → K (a.put op.dst undef) w') : op.wp Tryz.prog a w K Q := by
 refine wp_store_mid (P := Tryz.prog) 103 x y ho g 0 T'.cells hx hy (fun j hj => ⟨?_, ?_⟩) (by rw [brdInfo]; rfl) T'.one_cells (k _ (h.setAll T') ((Chg.refl _ _).setAll (by simp) _ _))
 ·rw [Nat.zero_add, h.cellAt]; simpa [Tb.size_cells] using hj
 ·rw [h.fz]
theorem setThree {w : World} {g : Nat} {x y z : Value} {t : TypeId} (h : Blk w g #[x, y, z] t) (a b c : Value) : Blk (w.setCells g 0 [a, b, c]) g #[a, b, c] t := ((h.set 0 a).set 1 b).set 2 c
theorem wp_store_ans {op : Oper} {a : Act} {w : World} {K : Act → World → Prop} {Q : Exit → Act → World → Prop} {x y : Operand} (ho : op.op = .store 95 x y) {g : Nat} (hx : a.eval x = .pointer (some ⟨g, 0, none⟩)) {u : An} (hy : a.eval y = ansV u) {t : TypeId} {p q r : Value} (h : Blk w g #[p, q, r] t)
  (k : ∀ w', Blk w' g #[.int .i64 u.code, .int .i64 u.jb, .int .i64 u.tr] t → Chg [g] w w' → K (a.put op.dst undef) w') : op.wp Tryz.prog a w K Q := by
 refine wp_store_mid (P := Tryz.prog) 95 x y ho g 0 #[.int .i64 u.code, .int .i64 u.jb, .int .i64 u.tr] hx hy (fun j hj => ⟨?_, ?_⟩) (by rw [ansInfo]; rfl) (by simp [Value.oneCell']) (k _ (setThree h _ _ _) ((Chg.refl _ _).setAll (by simp) _ _))
 ·rw [Nat.zero_add, h.cell]; simpa using hj
 ·rw [h.fz]
theorem Chg.chgB {b : Nat} {a w w' : World} (h : Chg [] a w) (k : Chg [b] w w') : Chg [b] a w' := (show Chg [b] a w from ⟨h.os, h.tape, h.output, h.size, fun k hk _ => h.block k hk (by simp)⟩).trans k (fun x hx => .inl hx)
theorem rds_yield1 {ops : Array Oper} {op : Oper} {a : Act} {x : Operand} {b : Nat} {T : Tb} {wo : Nat} {c : Array Value} {t : TypeId} (hw : Region.wanted op (yielded ops a.tmps) = true) (ho : op.op = .load 103 x) (hx : a.eval x = .pointer (some ⟨b, 0, none⟩)) :
  YieldsIf Tryz.prog ops (Rds 103 b T wo c t) op (.agg T.cells) a := by
 obtain ⟨d, hu, hd⟩ := brdRow
 have := yieldsIf_load_mid (P := Tryz.prog) (S := Rds 103 b T wo c t) hw 103 x ho b 0 hx T.cells.toList d (fun w hw' j v hv => by rw [Nat.zero_add, hw'.1.cellAt]; simpa using hv) hu hd (by rw [brdInfo]; rfl)
 simpa using this
theorem rds_yield2 {ops : Array Oper} {op : Oper} {a : Act} {x : Operand} {b : Nat} {T : Tb} {wo : Nat} {o : Od} {ty : TypeId} (hw : Region.wanted op (yielded ops a.tmps) = true) (ho : op.op = .load 83 x) (hx : a.eval x = .pointer (some ⟨wo, 0, none⟩)) :
  YieldsIf Tryz.prog ops (Rds ty b T wo #[.int .i64 o.k, .int .i64 o.now, .int .i64 o.jb, .int .i64 o.tr, .int .i64 o.wk, .int .i64 o.tm] 83) op (odV o) a :=
 yieldsIf_load_mid (P := Tryz.prog) hw 83 x ho wo 0 hx [.int .i64 o.k, .int .i64 o.now, .int .i64 o.jb, .int .i64 o.tr, .int .i64 o.wk, .int .i64 o.tm] _ (fun w hw' j v hv => by rw [Nat.zero_add, hw'.2.cell]; simpa using hv) Tryz.underlying83 rfl (by rw [ordInfo]; rfl)
set_option maxRecDepth 100000 in
set_option maxHeartbeats 4000000 in
theorem bdo_any (b : Nat) (o : Od) (T : Tb) (w : World) (h : Has 103 w b T) (hI : Inv T) :
  Calls Tryz.prog 70 #[.pointer (some ⟨b, 0, none⟩), odV o] w fun e w' =>
   e = .returned (ansV (doT T o).2) ∧ Has 103 w' b (doT T o).1 ∧ Chg [b] w w' := by
 have hl := h.lt
 have HH := hide h
 clear h
 go_enter Tryz.func70, Tryz.ntmps70
 unfold odV
 go_wp2_with fail
 have hR0 : Rds 103 b T w.heap.size #[.int .i64 o.k, .int .i64 o.now, .int .i64 o.jb, .int .i64 o.tr, .int .i64 o.wk, .int .i64 o.tm] 83 ((w.alloc (.cells #[.int .i64 o.k, .int .i64 o.now, .int .i64 o.jb, .int .i64 o.tr, .int .i64 o.wk, .int .i64 o.tm] 83)).alloc (.cells #[.int .i64 0, .int .i64 0, .int .i64 0] 95)) := ⟨((unhide HH).alloc _).alloc _, (Blk.new w _ _).alloc _⟩
 refine wp_region_noPanic ?_
 refine wp_region_held_drew (S := (Rds 103 b T w.heap.size #[.int .i64 o.k, .int .i64 o.now, .int .i64 o.jb, .int .i64 o.tr, .int .i64 o.wk, .int .i64 o.tm] 83)) (by kernel_rfl) hR0 (fun hH => ?_)
 refine wpAnyH_take (i := 0) (v := ?_) rfl (by kernel_rfl) (by kernel_rfl) (by kernel_rfl) (fun _ _ _ h => h) (Or.inl ⟨by rfl, ?hy1⟩) hH ?rs1
 case hy1 => (intro W hSw; go_simp; try with_reducible rfl)
 refine wpAnyH_take (i := 1) (v := ?_) rfl (by kernel_rfl) (by kernel_rfl) (by kernel_rfl) (fun _ _ _ h => h) (Or.inl ⟨by rfl, ?hy2⟩) hH ?rs2
 case hy2 => (intro W hSw; go_simp; try with_reducible rfl)
 refine wpAnyH_take (i := 2) (v := _) rfl (by kernel_rfl) (by kernel_rfl) (by kernel_rfl) (fun _ _ _ h => h) (rds_yield1 (by rfl) rfl rfl) hH ?_
 refine wpAnyH_take (i := 3) (v := _) rfl (by kernel_rfl) (by kernel_rfl) (by kernel_rfl) (fun _ _ _ h => h) (rds_yield2 (by rfl) rfl rfl) hH ?_
 have G : Chg [] w (((w.alloc (.cells #[.int .i64 o.k, .int .i64 o.now, .int .i64 o.jb, .int .i64 o.tr, .int .i64 o.wk, .int .i64 o.tm] 83)).alloc (.cells #[.int .i64 0, .int .i64 0, .int .i64 0] 95)).drew) := (((Chg.refl _ _).alloc _).alloc _).drew
 have R : Blk (((w.alloc (.cells #[.int .i64 o.k, .int .i64 o.now, .int .i64 o.jb, .int .i64 o.tr, .int .i64 o.wk, .int .i64 o.tm] 83)).alloc (.cells #[.int .i64 0, .int .i64 0, .int .i64 0] 95)).drew) _ _ _ := (Blk.new1 w (.cells #[.int .i64 o.k, .int .i64 o.now, .int .i64 o.jb, .int .i64 o.tr, .int .i64 o.wk, .int .i64 o.tm] 83) #[.int .i64 0, .int .i64 0, .int .i64 0] 95)
 clear hR0 HH
 generalize hW0 : World.drew _ = W0 at *
 clear hW0
 refine wpAnyH_ready (rs := [4, 8, 9]) (by kernel_rfl) (by simp) ?_
 refine AllReadyH.cons rfl (fun K hK => ?_) ?_
 ·rw [if_pos (by rfl)]
  go_simp
  refine (did_any T o _ hI).mono ?_
  rintro e w2 ⟨rfl, g2⟩
  refine hK.out _ _ ⟨hH.1.chg g2 (by simp), hH.2.chg g2 (by simp)⟩ (fun hH2 => ?_)
  clear hK K
  replace G := G.trans g2 (by simp)
  replace R := R.chg g2 (by simp)
  clear hH g2
  have hH := hH2
  clear hH2
  refine wpAnyH_take (i := 5) (v := ?_) rfl (by kernel_rfl) (by kernel_rfl) (by kernel_rfl) (fun _ _ _ h => h) (Or.inl ⟨by rfl, ?hz1⟩) hH ?rz1
  case hz1 => (intro W hSw; go_simp; try with_reducible rfl)
  refine wpAnyH_take (i := 6) (v := ?_) rfl (by kernel_rfl) (by kernel_rfl) (by kernel_rfl) (fun _ _ _ h => h) (Or.inl ⟨by rfl, ?hz2⟩) hH ?rz2
  case hz2 => (intro W hSw; go_simp; try with_reducible rfl)
  refine wpAnyH_take (i := 7) (v := ?_) rfl (by kernel_rfl) (by kernel_rfl) (by kernel_rfl) (fun _ _ _ h => h) (Or.inl ⟨by rfl, ?hz3⟩) hH ?rz3
  case hz3 => (intro W hSw; go_simp; try with_reducible rfl)
  refine wpAnyH_ready (rs := [8, 9]) (by kernel_rfl) (by simp) ?_
  refine AllReadyH.cons rfl (fun K hK => ?_) ?_
  ·rw [if_pos (by rfl)]
   have z8 := R.lt
   go_simp
   refine hK.out _ _ ⟨hH.1.alloc _, hH.2.alloc _⟩ (fun hH2 => ?_)
   clear hK K
   replace G := G.alloc (.cells #[.int .i64 0, .int .i64 0, .int .i64 0, .int .i64 0, .int .i64 0, .int .i64 0, .int .i64 0, .int .i64 0, .int .i64 0, .int .i64 0, .int .i64 0, .int .i64 0, .int .i64 0, .int .i64 0, .int .i64 0, .int .i64 0, .int .i64 0, .int .i64 0, .int .i64 0, .int .i64 0, .int .i64 0, .int .i64 0, .int .i64 0, .int .i64 0, .int .i64 0] 103)
   replace R := R.alloc (.cells #[.int .i64 0, .int .i64 0, .int .i64 0, .int .i64 0, .int .i64 0, .int .i64 0, .int .i64 0, .int .i64 0, .int .i64 0, .int .i64 0, .int .i64 0, .int .i64 0, .int .i64 0, .int .i64 0, .int .i64 0, .int .i64 0, .int .i64 0, .int .i64 0, .int .i64 0, .int .i64 0, .int .i64 0, .int .i64 0, .int .i64 0, .int .i64 0, .int .i64 0] 103)
   have X := Blk.new w2 #[.int .i64 0, .int .i64 0, .int .i64 0, .int .i64 0, .int .i64 0, .int .i64 0, .int .i64 0, .int .i64 0, .int .i64 0, .int .i64 0, .int .i64 0, .int .i64 0, .int .i64 0, .int .i64 0, .int .i64 0, .int .i64 0, .int .i64 0, .int .i64 0, .int .i64 0, .int .i64 0, .int .i64 0, .int .i64 0, .int .i64 0, .int .i64 0, .int .i64 0] 103
   replace X : Has 103 (w2.alloc (.cells #[.int .i64 0, .int .i64 0, .int .i64 0, .int .i64 0, .int .i64 0, .int .i64 0, .int .i64 0, .int .i64 0, .int .i64 0, .int .i64 0, .int .i64 0, .int .i64 0, .int .i64 0, .int .i64 0, .int .i64 0, .int .i64 0, .int .i64 0, .int .i64 0, .int .i64 0, .int .i64 0, .int .i64 0, .int .i64 0, .int .i64 0, .int .i64 0, .int .i64 0] 103)) w2.heap.size T0 := X
   clear hH
   have hH := hH2
   clear hH2
   generalize hW2 : w2.alloc _ = W2 at *
   clear hW2
   refine wpAnyH_ready (rs := [9]) (by kernel_rfl) (by simp) ?_
   refine AllReadyH.cons rfl (fun K hK => ?_) ?_
   ·rw [if_pos (by rfl)]
    have z9 := R.lt
    go_simp
    refine hK.out _ _ ⟨hH.1.alloc _, hH.2.alloc _⟩ (fun hH2 => ?_)
    clear hK K
    replace G := G.alloc (.cells #[.int .i64 0, .int .i64 0, .int .i64 0] 95)
    replace R := R.alloc (.cells #[.int .i64 0, .int .i64 0, .int .i64 0] 95)
    replace X := X.alloc (.cells #[.int .i64 0, .int .i64 0, .int .i64 0] 95)
    have Y := Blk.new W2 #[.int .i64 0, .int .i64 0, .int .i64 0] 95
    clear hH
    have hH := hH2
    clear hH2
    generalize hW3 : W2.alloc _ = W3 at *
    clear hW3
    refine rd 10 rfl (fun K hK => ?_)
    have n1 := zed_ne (by decide) ⟨_, X⟩ ⟨_, _, _, Y⟩
    have n2 := zed_ne (by decide) ⟨_, X⟩ ⟨_, _, _, R⟩
    have n3 := zed_ne (by decide) ⟨_, hH.1⟩ ⟨_, _, _, Y⟩
    have n4 := zed_ne (by decide) ⟨_, hH.1⟩ ⟨_, _, _, R⟩
    refine wp_store_tab rfl rfl rfl X (fun w8 X8 g8 => ?_)
    have n5 : b ≠ w2.heap.size := by omega
    refine hK.out _ _ ⟨hH.1.chg g8 (by simpa using n5), hH.2.chg g8 (by simp; omega)⟩ (fun hH8 => ?_)
    clear hK K
    replace Y := Y.chg g8 (by simpa using n1.symm)
    replace R := R.chg g8 (by simpa using n2.symm)
    replace G := G.trans g8 (by simp; omega)
    clear hH X g8
    refine rd 11 rfl (fun K hK => ?_)
    refine wp_store_ans rfl rfl rfl Y (fun w9 Y9 g9 => ?_)
    refine hK.out _ _ ⟨hH8.1.chg g9 (by simpa using n3), hH8.2.chg g9 (by simp; omega)⟩ (fun hH9 => ?_)
    clear hK K
    have X9 := X8.chg g9 (by simpa using n1)
    have R9 := R.chg g9 (by simp; omega)
    have G9 := G.trans g9 (by simp; omega)
    have B9 := hH9.1
    clear hH9 hH8 g9 X8 Y R G
    refine wpAnyH_done (by kernel_rfl) ?_ _
    refine NoPanic.normal ?_
    generalize w2.heap.size = p5 at *
    generalize W2.heap.size = p6 at *
    have l5 := X9.lt
    have l6 := Y9.lt
    have lb := B9.lt
    have lr := R9.lt
    go_wp2_with (first | (refine wpList_load_tab 103 brdRow brdInfo rfl _ rfl p5 rfl 103 (doT T o).1 ?hs ?_; (case hs => exact X9)) | (refine wpList_store_tab 103 brdInfo rfl _ _ rfl b rfl (doT T o).1 rfl 103 T ?hr ?_; (case hr => exact B9); intro wA BA gA zA; have YA := Y9.chg gA (by simp; omega); have RA := R9.chg gA (by simp; omega); have GA := G9.chgB gA; obtain ⟨y0, y1, y2, _, _, _⟩ := YA.three; obtain ⟨r0, r1, r2, f0, f1, f2⟩ := RA.three; have lA := YA.lt; have lR := RA.lt; clear zA gA))
    obtain ⟨c0, c1, c2⟩ := set3 r0 r1 r2 (.int .i64 (doT T o).2.code) (.int .i64 (doT T o).2.jb) (.int .i64 (doT T o).2.tr)
    refine bodyPost_ret (v := ansV (doT T o).2) (by simp [results, ansV, Tryz.results70, go_sem, c0, c1, c2]) rfl ?_
    exact ⟨rfl, ((BA.setOther (by simp; omega) _).setOther (by simp; omega) _).setOther (by simp; omega) _, ((GA.setCell (by simp) _).setCell (by simp) _).setCell (by simp) _⟩
   exact AllReadyH.nil
  refine AllReadyH.cons rfl (fun K hK => ?_) ?_
  ·rw [if_pos (by rfl)]
   have z9 := R.lt
   go_simp
   refine hK.out _ _ ⟨hH.1.alloc _, hH.2.alloc _⟩ (fun hH2 => ?_)
   clear hK K
   replace G := G.alloc (.cells #[.int .i64 0, .int .i64 0, .int .i64 0] 95)
   replace R := R.alloc (.cells #[.int .i64 0, .int .i64 0, .int .i64 0] 95)
   have Y := Blk.new w2 #[.int .i64 0, .int .i64 0, .int .i64 0] 95
   clear hH
   have hH := hH2
   clear hH2
   generalize hW4 : w2.alloc _ = W4 at *
   clear hW4
   refine wpAnyH_ready (rs := [8]) (by kernel_rfl) (by simp) ?_
   refine AllReadyH.cons rfl (fun K hK => ?_) ?_
   ·rw [if_pos (by rfl)]
    have z8 := R.lt
    go_simp
    refine hK.out _ _ ⟨hH.1.alloc _, hH.2.alloc _⟩ (fun hH2 => ?_)
    clear hK K
    replace G := G.alloc (.cells #[.int .i64 0, .int .i64 0, .int .i64 0, .int .i64 0, .int .i64 0, .int .i64 0, .int .i64 0, .int .i64 0, .int .i64 0, .int .i64 0, .int .i64 0, .int .i64 0, .int .i64 0, .int .i64 0, .int .i64 0, .int .i64 0, .int .i64 0, .int .i64 0, .int .i64 0, .int .i64 0, .int .i64 0, .int .i64 0, .int .i64 0, .int .i64 0, .int .i64 0] 103)
    replace R := R.alloc (.cells #[.int .i64 0, .int .i64 0, .int .i64 0, .int .i64 0, .int .i64 0, .int .i64 0, .int .i64 0, .int .i64 0, .int .i64 0, .int .i64 0, .int .i64 0, .int .i64 0, .int .i64 0, .int .i64 0, .int .i64 0, .int .i64 0, .int .i64 0, .int .i64 0, .int .i64 0, .int .i64 0, .int .i64 0, .int .i64 0, .int .i64 0, .int .i64 0, .int .i64 0] 103)
    replace Y := Y.alloc (.cells #[.int .i64 0, .int .i64 0, .int .i64 0, .int .i64 0, .int .i64 0, .int .i64 0, .int .i64 0, .int .i64 0, .int .i64 0, .int .i64 0, .int .i64 0, .int .i64 0, .int .i64 0, .int .i64 0, .int .i64 0, .int .i64 0, .int .i64 0, .int .i64 0, .int .i64 0, .int .i64 0, .int .i64 0, .int .i64 0, .int .i64 0, .int .i64 0, .int .i64 0] 103)
    have X := Blk.new W4 #[.int .i64 0, .int .i64 0, .int .i64 0, .int .i64 0, .int .i64 0, .int .i64 0, .int .i64 0, .int .i64 0, .int .i64 0, .int .i64 0, .int .i64 0, .int .i64 0, .int .i64 0, .int .i64 0, .int .i64 0, .int .i64 0, .int .i64 0, .int .i64 0, .int .i64 0, .int .i64 0, .int .i64 0, .int .i64 0, .int .i64 0, .int .i64 0, .int .i64 0] 103
    replace X : Has 103 (W4.alloc (.cells #[.int .i64 0, .int .i64 0, .int .i64 0, .int .i64 0, .int .i64 0, .int .i64 0, .int .i64 0, .int .i64 0, .int .i64 0, .int .i64 0, .int .i64 0, .int .i64 0, .int .i64 0, .int .i64 0, .int .i64 0, .int .i64 0, .int .i64 0, .int .i64 0, .int .i64 0, .int .i64 0, .int .i64 0, .int .i64 0, .int .i64 0, .int .i64 0, .int .i64 0] 103)) W4.heap.size T0 := X
    clear hH
    have hH := hH2
    clear hH2
    generalize hW5 : W4.alloc _ = W5 at *
    clear hW5
    refine rd 10 rfl (fun K hK => ?_)
    have n1 := zed_ne (by decide) ⟨_, X⟩ ⟨_, _, _, Y⟩
    have n2 := zed_ne (by decide) ⟨_, X⟩ ⟨_, _, _, R⟩
    have n3 := zed_ne (by decide) ⟨_, hH.1⟩ ⟨_, _, _, Y⟩
    have n4 := zed_ne (by decide) ⟨_, hH.1⟩ ⟨_, _, _, R⟩
    refine wp_store_tab rfl rfl rfl X (fun w8 X8 g8 => ?_)
    have n5 : b ≠ W4.heap.size := by omega
    refine hK.out _ _ ⟨hH.1.chg g8 (by simpa using n5), hH.2.chg g8 (by simp; omega)⟩ (fun hH8 => ?_)
    clear hK K
    replace Y := Y.chg g8 (by simpa using n1.symm)
    replace R := R.chg g8 (by simpa using n2.symm)
    replace G := G.trans g8 (by simp; omega)
    clear hH X g8
    refine rd 11 rfl (fun K hK => ?_)
    refine wp_store_ans rfl rfl rfl Y (fun w9 Y9 g9 => ?_)
    refine hK.out _ _ ⟨hH8.1.chg g9 (by simpa using n3), hH8.2.chg g9 (by simp; omega)⟩ (fun hH9 => ?_)
    clear hK K
    have X9 := X8.chg g9 (by simpa using n1)
    have R9 := R.chg g9 (by simp; omega)
    have G9 := G.trans g9 (by simp; omega)
    have B9 := hH9.1
    clear hH9 hH8 g9 X8 Y R G
    refine wpAnyH_done (by kernel_rfl) ?_ _
    refine NoPanic.normal ?_
    generalize W4.heap.size = p5 at *
    generalize w2.heap.size = p6 at *
    have l5 := X9.lt
    have l6 := Y9.lt
    have lb := B9.lt
    have lr := R9.lt
    go_wp2_with (first | (refine wpList_load_tab 103 brdRow brdInfo rfl _ rfl p5 rfl 103 (doT T o).1 ?hs ?_; (case hs => exact X9)) | (refine wpList_store_tab 103 brdInfo rfl _ _ rfl b rfl (doT T o).1 rfl 103 T ?hr ?_; (case hr => exact B9); intro wA BA gA zA; have YA := Y9.chg gA (by simp; omega); have RA := R9.chg gA (by simp; omega); have GA := G9.chgB gA; obtain ⟨y0, y1, y2, _, _, _⟩ := YA.three; obtain ⟨r0, r1, r2, f0, f1, f2⟩ := RA.three; have lA := YA.lt; have lR := RA.lt; clear zA gA))
    obtain ⟨c0, c1, c2⟩ := set3 r0 r1 r2 (.int .i64 (doT T o).2.code) (.int .i64 (doT T o).2.jb) (.int .i64 (doT T o).2.tr)
    refine bodyPost_ret (v := ansV (doT T o).2) (by simp [results, ansV, Tryz.results70, go_sem, c0, c1, c2]) rfl ?_
    exact ⟨rfl, ((BA.setOther (by simp; omega) _).setOther (by simp; omega) _).setOther (by simp; omega) _, ((GA.setCell (by simp) _).setCell (by simp) _).setCell (by simp) _⟩
   exact AllReadyH.nil
  exact AllReadyH.nil
 refine AllReadyH.cons rfl (fun K hK => ?_) ?_
 ·rw [if_pos (by rfl)]
  have z8 := R.lt
  go_simp
  refine hK.out _ _ ⟨hH.1.alloc _, hH.2.alloc _⟩ (fun hH2 => ?_)
  clear hK K
  replace G := G.alloc (.cells #[.int .i64 0, .int .i64 0, .int .i64 0, .int .i64 0, .int .i64 0, .int .i64 0, .int .i64 0, .int .i64 0, .int .i64 0, .int .i64 0, .int .i64 0, .int .i64 0, .int .i64 0, .int .i64 0, .int .i64 0, .int .i64 0, .int .i64 0, .int .i64 0, .int .i64 0, .int .i64 0, .int .i64 0, .int .i64 0, .int .i64 0, .int .i64 0, .int .i64 0] 103)
  replace R := R.alloc (.cells #[.int .i64 0, .int .i64 0, .int .i64 0, .int .i64 0, .int .i64 0, .int .i64 0, .int .i64 0, .int .i64 0, .int .i64 0, .int .i64 0, .int .i64 0, .int .i64 0, .int .i64 0, .int .i64 0, .int .i64 0, .int .i64 0, .int .i64 0, .int .i64 0, .int .i64 0, .int .i64 0, .int .i64 0, .int .i64 0, .int .i64 0, .int .i64 0, .int .i64 0] 103)
  have X := Blk.new W0 #[.int .i64 0, .int .i64 0, .int .i64 0, .int .i64 0, .int .i64 0, .int .i64 0, .int .i64 0, .int .i64 0, .int .i64 0, .int .i64 0, .int .i64 0, .int .i64 0, .int .i64 0, .int .i64 0, .int .i64 0, .int .i64 0, .int .i64 0, .int .i64 0, .int .i64 0, .int .i64 0, .int .i64 0, .int .i64 0, .int .i64 0, .int .i64 0, .int .i64 0] 103
  replace X : Has 103 (W0.alloc (.cells #[.int .i64 0, .int .i64 0, .int .i64 0, .int .i64 0, .int .i64 0, .int .i64 0, .int .i64 0, .int .i64 0, .int .i64 0, .int .i64 0, .int .i64 0, .int .i64 0, .int .i64 0, .int .i64 0, .int .i64 0, .int .i64 0, .int .i64 0, .int .i64 0, .int .i64 0, .int .i64 0, .int .i64 0, .int .i64 0, .int .i64 0, .int .i64 0, .int .i64 0] 103)) W0.heap.size T0 := X
  clear hH
  have hH := hH2
  clear hH2
  generalize hW6 : W0.alloc _ = W6 at *
  clear hW6
  refine wpAnyH_ready (rs := [4, 9]) (by kernel_rfl) (by simp) ?_
  refine AllReadyH.cons rfl (fun K hK => ?_) ?_
  ·rw [if_pos (by rfl)]
   go_simp
   refine (did_any T o _ hI).mono ?_
   rintro e w2 ⟨rfl, g2⟩
   refine hK.out _ _ ⟨hH.1.chg g2 (by simp), hH.2.chg g2 (by simp)⟩ (fun hH2 => ?_)
   clear hK K
   replace G := G.trans g2 (by simp)
   replace R := R.chg g2 (by simp)
   replace X := X.chg g2 (by simp)
   clear hH g2
   have hH := hH2
   clear hH2
   refine wpAnyH_take (i := 5) (v := ?_) rfl (by kernel_rfl) (by kernel_rfl) (by kernel_rfl) (fun _ _ _ h => h) (Or.inl ⟨by rfl, ?hz4⟩) hH ?rz4
   case hz4 => (intro W hSw; go_simp; try with_reducible rfl)
   refine wpAnyH_take (i := 6) (v := ?_) rfl (by kernel_rfl) (by kernel_rfl) (by kernel_rfl) (fun _ _ _ h => h) (Or.inl ⟨by rfl, ?hz5⟩) hH ?rz5
   case hz5 => (intro W hSw; go_simp; try with_reducible rfl)
   refine wpAnyH_take (i := 7) (v := ?_) rfl (by kernel_rfl) (by kernel_rfl) (by kernel_rfl) (fun _ _ _ h => h) (Or.inl ⟨by rfl, ?hz6⟩) hH ?rz6
   case hz6 => (intro W hSw; go_simp; try with_reducible rfl)
   refine wpAnyH_ready (rs := [9]) (by kernel_rfl) (by simp) ?_
   refine AllReadyH.cons rfl (fun K hK => ?_) ?_
   ·rw [if_pos (by rfl)]
    have z9 := R.lt
    go_simp
    refine hK.out _ _ ⟨hH.1.alloc _, hH.2.alloc _⟩ (fun hH2 => ?_)
    clear hK K
    replace G := G.alloc (.cells #[.int .i64 0, .int .i64 0, .int .i64 0] 95)
    replace R := R.alloc (.cells #[.int .i64 0, .int .i64 0, .int .i64 0] 95)
    replace X := X.alloc (.cells #[.int .i64 0, .int .i64 0, .int .i64 0] 95)
    have Y := Blk.new w2 #[.int .i64 0, .int .i64 0, .int .i64 0] 95
    clear hH
    have hH := hH2
    clear hH2
    generalize hW8 : w2.alloc _ = W8 at *
    clear hW8
    refine rd 10 rfl (fun K hK => ?_)
    have n1 := zed_ne (by decide) ⟨_, X⟩ ⟨_, _, _, Y⟩
    have n2 := zed_ne (by decide) ⟨_, X⟩ ⟨_, _, _, R⟩
    have n3 := zed_ne (by decide) ⟨_, hH.1⟩ ⟨_, _, _, Y⟩
    have n4 := zed_ne (by decide) ⟨_, hH.1⟩ ⟨_, _, _, R⟩
    refine wp_store_tab rfl rfl rfl X (fun w8 X8 g8 => ?_)
    have n5 : b ≠ W0.heap.size := by omega
    refine hK.out _ _ ⟨hH.1.chg g8 (by simpa using n5), hH.2.chg g8 (by simp; omega)⟩ (fun hH8 => ?_)
    clear hK K
    replace Y := Y.chg g8 (by simpa using n1.symm)
    replace R := R.chg g8 (by simpa using n2.symm)
    replace G := G.trans g8 (by simp; omega)
    clear hH X g8
    refine rd 11 rfl (fun K hK => ?_)
    refine wp_store_ans rfl rfl rfl Y (fun w9 Y9 g9 => ?_)
    refine hK.out _ _ ⟨hH8.1.chg g9 (by simpa using n3), hH8.2.chg g9 (by simp; omega)⟩ (fun hH9 => ?_)
    clear hK K
    have X9 := X8.chg g9 (by simpa using n1)
    have R9 := R.chg g9 (by simp; omega)
    have G9 := G.trans g9 (by simp; omega)
    have B9 := hH9.1
    clear hH9 hH8 g9 X8 Y R G
    refine wpAnyH_done (by kernel_rfl) ?_ _
    refine NoPanic.normal ?_
    generalize W0.heap.size = p5 at *
    generalize w2.heap.size = p6 at *
    have l5 := X9.lt
    have l6 := Y9.lt
    have lb := B9.lt
    have lr := R9.lt
    go_wp2_with (first | (refine wpList_load_tab 103 brdRow brdInfo rfl _ rfl p5 rfl 103 (doT T o).1 ?hs ?_; (case hs => exact X9)) | (refine wpList_store_tab 103 brdInfo rfl _ _ rfl b rfl (doT T o).1 rfl 103 T ?hr ?_; (case hr => exact B9); intro wA BA gA zA; have YA := Y9.chg gA (by simp; omega); have RA := R9.chg gA (by simp; omega); have GA := G9.chgB gA; obtain ⟨y0, y1, y2, _, _, _⟩ := YA.three; obtain ⟨r0, r1, r2, f0, f1, f2⟩ := RA.three; have lA := YA.lt; have lR := RA.lt; clear zA gA))
    obtain ⟨c0, c1, c2⟩ := set3 r0 r1 r2 (.int .i64 (doT T o).2.code) (.int .i64 (doT T o).2.jb) (.int .i64 (doT T o).2.tr)
    refine bodyPost_ret (v := ansV (doT T o).2) (by simp [results, ansV, Tryz.results70, go_sem, c0, c1, c2]) rfl ?_
    exact ⟨rfl, ((BA.setOther (by simp; omega) _).setOther (by simp; omega) _).setOther (by simp; omega) _, ((GA.setCell (by simp) _).setCell (by simp) _).setCell (by simp) _⟩
   exact AllReadyH.nil
  refine AllReadyH.cons rfl (fun K hK => ?_) ?_
  ·rw [if_pos (by rfl)]
   have z9 := R.lt
   go_simp
   refine hK.out _ _ ⟨hH.1.alloc _, hH.2.alloc _⟩ (fun hH2 => ?_)
   clear hK K
   replace G := G.alloc (.cells #[.int .i64 0, .int .i64 0, .int .i64 0] 95)
   replace R := R.alloc (.cells #[.int .i64 0, .int .i64 0, .int .i64 0] 95)
   replace X := X.alloc (.cells #[.int .i64 0, .int .i64 0, .int .i64 0] 95)
   have Y := Blk.new W6 #[.int .i64 0, .int .i64 0, .int .i64 0] 95
   clear hH
   have hH := hH2
   clear hH2
   generalize hW9 : W6.alloc _ = W9 at *
   clear hW9
   refine wpAnyH_ready (rs := [4]) (by kernel_rfl) (by simp) ?_
   refine AllReadyH.cons rfl (fun K hK => ?_) ?_
   ·rw [if_pos (by rfl)]
    go_simp
    refine (did_any T o _ hI).mono ?_
    rintro e w2 ⟨rfl, g2⟩
    refine hK.out _ _ ⟨hH.1.chg g2 (by simp), hH.2.chg g2 (by simp)⟩ (fun hH2 => ?_)
    clear hK K
    replace G := G.trans g2 (by simp)
    replace R := R.chg g2 (by simp)
    replace X := X.chg g2 (by simp)
    replace Y := Y.chg g2 (by simp)
    clear hH g2
    have hH := hH2
    clear hH2
    refine wpAnyH_take (i := 5) (v := ?_) rfl (by kernel_rfl) (by kernel_rfl) (by kernel_rfl) (fun _ _ _ h => h) (Or.inl ⟨by rfl, ?hz7⟩) hH ?rz7
    case hz7 => (intro W hSw; go_simp; try with_reducible rfl)
    refine wpAnyH_take (i := 6) (v := ?_) rfl (by kernel_rfl) (by kernel_rfl) (by kernel_rfl) (fun _ _ _ h => h) (Or.inl ⟨by rfl, ?hz8⟩) hH ?rz8
    case hz8 => (intro W hSw; go_simp; try with_reducible rfl)
    refine wpAnyH_take (i := 7) (v := ?_) rfl (by kernel_rfl) (by kernel_rfl) (by kernel_rfl) (fun _ _ _ h => h) (Or.inl ⟨by rfl, ?hz9⟩) hH ?rz9
    case hz9 => (intro W hSw; go_simp; try with_reducible rfl)
    refine rd 10 rfl (fun K hK => ?_)
    have n1 := zed_ne (by decide) ⟨_, X⟩ ⟨_, _, _, Y⟩
    have n2 := zed_ne (by decide) ⟨_, X⟩ ⟨_, _, _, R⟩
    have n3 := zed_ne (by decide) ⟨_, hH.1⟩ ⟨_, _, _, Y⟩
    have n4 := zed_ne (by decide) ⟨_, hH.1⟩ ⟨_, _, _, R⟩
    refine wp_store_tab rfl rfl rfl X (fun w8 X8 g8 => ?_)
    have n5 : b ≠ W0.heap.size := by omega
    refine hK.out _ _ ⟨hH.1.chg g8 (by simpa using n5), hH.2.chg g8 (by simp; omega)⟩ (fun hH8 => ?_)
    clear hK K
    replace Y := Y.chg g8 (by simpa using n1.symm)
    replace R := R.chg g8 (by simpa using n2.symm)
    replace G := G.trans g8 (by simp; omega)
    clear hH X g8
    refine rd 11 rfl (fun K hK => ?_)
    refine wp_store_ans rfl rfl rfl Y (fun w9 Y9 g9 => ?_)
    refine hK.out _ _ ⟨hH8.1.chg g9 (by simpa using n3), hH8.2.chg g9 (by simp; omega)⟩ (fun hH9 => ?_)
    clear hK K
    have X9 := X8.chg g9 (by simpa using n1)
    have R9 := R.chg g9 (by simp; omega)
    have G9 := G.trans g9 (by simp; omega)
    have B9 := hH9.1
    clear hH9 hH8 g9 X8 Y R G
    refine wpAnyH_done (by kernel_rfl) ?_ _
    refine NoPanic.normal ?_
    generalize W0.heap.size = p5 at *
    generalize W6.heap.size = p6 at *
    have l5 := X9.lt
    have l6 := Y9.lt
    have lb := B9.lt
    have lr := R9.lt
    go_wp2_with (first | (refine wpList_load_tab 103 brdRow brdInfo rfl _ rfl p5 rfl 103 (doT T o).1 ?hs ?_; (case hs => exact X9)) | (refine wpList_store_tab 103 brdInfo rfl _ _ rfl b rfl (doT T o).1 rfl 103 T ?hr ?_; (case hr => exact B9); intro wA BA gA zA; have YA := Y9.chg gA (by simp; omega); have RA := R9.chg gA (by simp; omega); have GA := G9.chgB gA; obtain ⟨y0, y1, y2, _, _, _⟩ := YA.three; obtain ⟨r0, r1, r2, f0, f1, f2⟩ := RA.three; have lA := YA.lt; have lR := RA.lt; clear zA gA))
    obtain ⟨c0, c1, c2⟩ := set3 r0 r1 r2 (.int .i64 (doT T o).2.code) (.int .i64 (doT T o).2.jb) (.int .i64 (doT T o).2.tr)
    refine bodyPost_ret (v := ansV (doT T o).2) (by simp [results, ansV, Tryz.results70, go_sem, c0, c1, c2]) rfl ?_
    exact ⟨rfl, ((BA.setOther (by simp; omega) _).setOther (by simp; omega) _).setOther (by simp; omega) _, ((GA.setCell (by simp) _).setCell (by simp) _).setCell (by simp) _⟩
   exact AllReadyH.nil
  exact AllReadyH.nil
 refine AllReadyH.cons rfl (fun K hK => ?_) ?_
 ·rw [if_pos (by rfl)]
  have z9 := R.lt
  go_simp
  refine hK.out _ _ ⟨hH.1.alloc _, hH.2.alloc _⟩ (fun hH2 => ?_)
  clear hK K
  replace G := G.alloc (.cells #[.int .i64 0, .int .i64 0, .int .i64 0] 95)
  replace R := R.alloc (.cells #[.int .i64 0, .int .i64 0, .int .i64 0] 95)
  have Y := Blk.new W0 #[.int .i64 0, .int .i64 0, .int .i64 0] 95
  clear hH
  have hH := hH2
  clear hH2
  generalize hW11 : W0.alloc _ = W11 at *
  clear hW11
  refine wpAnyH_ready (rs := [4, 8]) (by kernel_rfl) (by simp) ?_
  refine AllReadyH.cons rfl (fun K hK => ?_) ?_
  ·rw [if_pos (by rfl)]
   go_simp
   refine (did_any T o _ hI).mono ?_
   rintro e w2 ⟨rfl, g2⟩
   refine hK.out _ _ ⟨hH.1.chg g2 (by simp), hH.2.chg g2 (by simp)⟩ (fun hH2 => ?_)
   clear hK K
   replace G := G.trans g2 (by simp)
   replace R := R.chg g2 (by simp)
   replace Y := Y.chg g2 (by simp)
   clear hH g2
   have hH := hH2
   clear hH2
   refine wpAnyH_take (i := 5) (v := ?_) rfl (by kernel_rfl) (by kernel_rfl) (by kernel_rfl) (fun _ _ _ h => h) (Or.inl ⟨by rfl, ?hz10⟩) hH ?rz10
   case hz10 => (intro W hSw; go_simp; try with_reducible rfl)
   refine wpAnyH_take (i := 6) (v := ?_) rfl (by kernel_rfl) (by kernel_rfl) (by kernel_rfl) (fun _ _ _ h => h) (Or.inl ⟨by rfl, ?hz11⟩) hH ?rz11
   case hz11 => (intro W hSw; go_simp; try with_reducible rfl)
   refine wpAnyH_take (i := 7) (v := ?_) rfl (by kernel_rfl) (by kernel_rfl) (by kernel_rfl) (fun _ _ _ h => h) (Or.inl ⟨by rfl, ?hz12⟩) hH ?rz12
   case hz12 => (intro W hSw; go_simp; try with_reducible rfl)
   refine wpAnyH_ready (rs := [8]) (by kernel_rfl) (by simp) ?_
   refine AllReadyH.cons rfl (fun K hK => ?_) ?_
   ·rw [if_pos (by rfl)]
    have z8 := R.lt
    go_simp
    refine hK.out _ _ ⟨hH.1.alloc _, hH.2.alloc _⟩ (fun hH2 => ?_)
    clear hK K
    replace G := G.alloc (.cells #[.int .i64 0, .int .i64 0, .int .i64 0, .int .i64 0, .int .i64 0, .int .i64 0, .int .i64 0, .int .i64 0, .int .i64 0, .int .i64 0, .int .i64 0, .int .i64 0, .int .i64 0, .int .i64 0, .int .i64 0, .int .i64 0, .int .i64 0, .int .i64 0, .int .i64 0, .int .i64 0, .int .i64 0, .int .i64 0, .int .i64 0, .int .i64 0, .int .i64 0] 103)
    replace R := R.alloc (.cells #[.int .i64 0, .int .i64 0, .int .i64 0, .int .i64 0, .int .i64 0, .int .i64 0, .int .i64 0, .int .i64 0, .int .i64 0, .int .i64 0, .int .i64 0, .int .i64 0, .int .i64 0, .int .i64 0, .int .i64 0, .int .i64 0, .int .i64 0, .int .i64 0, .int .i64 0, .int .i64 0, .int .i64 0, .int .i64 0, .int .i64 0, .int .i64 0, .int .i64 0] 103)
    replace Y := Y.alloc (.cells #[.int .i64 0, .int .i64 0, .int .i64 0, .int .i64 0, .int .i64 0, .int .i64 0, .int .i64 0, .int .i64 0, .int .i64 0, .int .i64 0, .int .i64 0, .int .i64 0, .int .i64 0, .int .i64 0, .int .i64 0, .int .i64 0, .int .i64 0, .int .i64 0, .int .i64 0, .int .i64 0, .int .i64 0, .int .i64 0, .int .i64 0, .int .i64 0, .int .i64 0] 103)
    have X := Blk.new w2 #[.int .i64 0, .int .i64 0, .int .i64 0, .int .i64 0, .int .i64 0, .int .i64 0, .int .i64 0, .int .i64 0, .int .i64 0, .int .i64 0, .int .i64 0, .int .i64 0, .int .i64 0, .int .i64 0, .int .i64 0, .int .i64 0, .int .i64 0, .int .i64 0, .int .i64 0, .int .i64 0, .int .i64 0, .int .i64 0, .int .i64 0, .int .i64 0, .int .i64 0] 103
    replace X : Has 103 (w2.alloc (.cells #[.int .i64 0, .int .i64 0, .int .i64 0, .int .i64 0, .int .i64 0, .int .i64 0, .int .i64 0, .int .i64 0, .int .i64 0, .int .i64 0, .int .i64 0, .int .i64 0, .int .i64 0, .int .i64 0, .int .i64 0, .int .i64 0, .int .i64 0, .int .i64 0, .int .i64 0, .int .i64 0, .int .i64 0, .int .i64 0, .int .i64 0, .int .i64 0, .int .i64 0] 103)) w2.heap.size T0 := X
    clear hH
    have hH := hH2
    clear hH2
    generalize hW13 : w2.alloc _ = W13 at *
    clear hW13
    refine rd 10 rfl (fun K hK => ?_)
    have n1 := zed_ne (by decide) ⟨_, X⟩ ⟨_, _, _, Y⟩
    have n2 := zed_ne (by decide) ⟨_, X⟩ ⟨_, _, _, R⟩
    have n3 := zed_ne (by decide) ⟨_, hH.1⟩ ⟨_, _, _, Y⟩
    have n4 := zed_ne (by decide) ⟨_, hH.1⟩ ⟨_, _, _, R⟩
    refine wp_store_tab rfl rfl rfl X (fun w8 X8 g8 => ?_)
    have n5 : b ≠ w2.heap.size := by omega
    refine hK.out _ _ ⟨hH.1.chg g8 (by simpa using n5), hH.2.chg g8 (by simp; omega)⟩ (fun hH8 => ?_)
    clear hK K
    replace Y := Y.chg g8 (by simpa using n1.symm)
    replace R := R.chg g8 (by simpa using n2.symm)
    replace G := G.trans g8 (by simp; omega)
    clear hH X g8
    refine rd 11 rfl (fun K hK => ?_)
    refine wp_store_ans rfl rfl rfl Y (fun w9 Y9 g9 => ?_)
    refine hK.out _ _ ⟨hH8.1.chg g9 (by simpa using n3), hH8.2.chg g9 (by simp; omega)⟩ (fun hH9 => ?_)
    clear hK K
    have X9 := X8.chg g9 (by simpa using n1)
    have R9 := R.chg g9 (by simp; omega)
    have G9 := G.trans g9 (by simp; omega)
    have B9 := hH9.1
    clear hH9 hH8 g9 X8 Y R G
    refine wpAnyH_done (by kernel_rfl) ?_ _
    refine NoPanic.normal ?_
    generalize w2.heap.size = p5 at *
    generalize W0.heap.size = p6 at *
    have l5 := X9.lt
    have l6 := Y9.lt
    have lb := B9.lt
    have lr := R9.lt
    go_wp2_with (first | (refine wpList_load_tab 103 brdRow brdInfo rfl _ rfl p5 rfl 103 (doT T o).1 ?hs ?_; (case hs => exact X9)) | (refine wpList_store_tab 103 brdInfo rfl _ _ rfl b rfl (doT T o).1 rfl 103 T ?hr ?_; (case hr => exact B9); intro wA BA gA zA; have YA := Y9.chg gA (by simp; omega); have RA := R9.chg gA (by simp; omega); have GA := G9.chgB gA; obtain ⟨y0, y1, y2, _, _, _⟩ := YA.three; obtain ⟨r0, r1, r2, f0, f1, f2⟩ := RA.three; have lA := YA.lt; have lR := RA.lt; clear zA gA))
    obtain ⟨c0, c1, c2⟩ := set3 r0 r1 r2 (.int .i64 (doT T o).2.code) (.int .i64 (doT T o).2.jb) (.int .i64 (doT T o).2.tr)
    refine bodyPost_ret (v := ansV (doT T o).2) (by simp [results, ansV, Tryz.results70, go_sem, c0, c1, c2]) rfl ?_
    exact ⟨rfl, ((BA.setOther (by simp; omega) _).setOther (by simp; omega) _).setOther (by simp; omega) _, ((GA.setCell (by simp) _).setCell (by simp) _).setCell (by simp) _⟩
   exact AllReadyH.nil
  refine AllReadyH.cons rfl (fun K hK => ?_) ?_
  ·rw [if_pos (by rfl)]
   have z8 := R.lt
   go_simp
   refine hK.out _ _ ⟨hH.1.alloc _, hH.2.alloc _⟩ (fun hH2 => ?_)
   clear hK K
   replace G := G.alloc (.cells #[.int .i64 0, .int .i64 0, .int .i64 0, .int .i64 0, .int .i64 0, .int .i64 0, .int .i64 0, .int .i64 0, .int .i64 0, .int .i64 0, .int .i64 0, .int .i64 0, .int .i64 0, .int .i64 0, .int .i64 0, .int .i64 0, .int .i64 0, .int .i64 0, .int .i64 0, .int .i64 0, .int .i64 0, .int .i64 0, .int .i64 0, .int .i64 0, .int .i64 0] 103)
   replace R := R.alloc (.cells #[.int .i64 0, .int .i64 0, .int .i64 0, .int .i64 0, .int .i64 0, .int .i64 0, .int .i64 0, .int .i64 0, .int .i64 0, .int .i64 0, .int .i64 0, .int .i64 0, .int .i64 0, .int .i64 0, .int .i64 0, .int .i64 0, .int .i64 0, .int .i64 0, .int .i64 0, .int .i64 0, .int .i64 0, .int .i64 0, .int .i64 0, .int .i64 0, .int .i64 0] 103)
   replace Y := Y.alloc (.cells #[.int .i64 0, .int .i64 0, .int .i64 0, .int .i64 0, .int .i64 0, .int .i64 0, .int .i64 0, .int .i64 0, .int .i64 0, .int .i64 0, .int .i64 0, .int .i64 0, .int .i64 0, .int .i64 0, .int .i64 0, .int .i64 0, .int .i64 0, .int .i64 0, .int .i64 0, .int .i64 0, .int .i64 0, .int .i64 0, .int .i64 0, .int .i64 0, .int .i64 0] 103)
   have X := Blk.new W11 #[.int .i64 0, .int .i64 0, .int .i64 0, .int .i64 0, .int .i64 0, .int .i64 0, .int .i64 0, .int .i64 0, .int .i64 0, .int .i64 0, .int .i64 0, .int .i64 0, .int .i64 0, .int .i64 0, .int .i64 0, .int .i64 0, .int .i64 0, .int .i64 0, .int .i64 0, .int .i64 0, .int .i64 0, .int .i64 0, .int .i64 0, .int .i64 0, .int .i64 0] 103
   replace X : Has 103 (W11.alloc (.cells #[.int .i64 0, .int .i64 0, .int .i64 0, .int .i64 0, .int .i64 0, .int .i64 0, .int .i64 0, .int .i64 0, .int .i64 0, .int .i64 0, .int .i64 0, .int .i64 0, .int .i64 0, .int .i64 0, .int .i64 0, .int .i64 0, .int .i64 0, .int .i64 0, .int .i64 0, .int .i64 0, .int .i64 0, .int .i64 0, .int .i64 0, .int .i64 0, .int .i64 0] 103)) W11.heap.size T0 := X
   clear hH
   have hH := hH2
   clear hH2
   generalize hW14 : W11.alloc _ = W14 at *
   clear hW14
   refine wpAnyH_ready (rs := [4]) (by kernel_rfl) (by simp) ?_
   refine AllReadyH.cons rfl (fun K hK => ?_) ?_
   ·rw [if_pos (by rfl)]
    go_simp
    refine (did_any T o _ hI).mono ?_
    rintro e w2 ⟨rfl, g2⟩
    refine hK.out _ _ ⟨hH.1.chg g2 (by simp), hH.2.chg g2 (by simp)⟩ (fun hH2 => ?_)
    clear hK K
    replace G := G.trans g2 (by simp)
    replace R := R.chg g2 (by simp)
    replace X := X.chg g2 (by simp)
    replace Y := Y.chg g2 (by simp)
    clear hH g2
    have hH := hH2
    clear hH2
    refine wpAnyH_take (i := 5) (v := ?_) rfl (by kernel_rfl) (by kernel_rfl) (by kernel_rfl) (fun _ _ _ h => h) (Or.inl ⟨by rfl, ?hz13⟩) hH ?rz13
    case hz13 => (intro W hSw; go_simp; try with_reducible rfl)
    refine wpAnyH_take (i := 6) (v := ?_) rfl (by kernel_rfl) (by kernel_rfl) (by kernel_rfl) (fun _ _ _ h => h) (Or.inl ⟨by rfl, ?hz14⟩) hH ?rz14
    case hz14 => (intro W hSw; go_simp; try with_reducible rfl)
    refine wpAnyH_take (i := 7) (v := ?_) rfl (by kernel_rfl) (by kernel_rfl) (by kernel_rfl) (fun _ _ _ h => h) (Or.inl ⟨by rfl, ?hz15⟩) hH ?rz15
    case hz15 => (intro W hSw; go_simp; try with_reducible rfl)
    refine rd 10 rfl (fun K hK => ?_)
    have n1 := zed_ne (by decide) ⟨_, X⟩ ⟨_, _, _, Y⟩
    have n2 := zed_ne (by decide) ⟨_, X⟩ ⟨_, _, _, R⟩
    have n3 := zed_ne (by decide) ⟨_, hH.1⟩ ⟨_, _, _, Y⟩
    have n4 := zed_ne (by decide) ⟨_, hH.1⟩ ⟨_, _, _, R⟩
    refine wp_store_tab rfl rfl rfl X (fun w8 X8 g8 => ?_)
    have n5 : b ≠ W11.heap.size := by omega
    refine hK.out _ _ ⟨hH.1.chg g8 (by simpa using n5), hH.2.chg g8 (by simp; omega)⟩ (fun hH8 => ?_)
    clear hK K
    replace Y := Y.chg g8 (by simpa using n1.symm)
    replace R := R.chg g8 (by simpa using n2.symm)
    replace G := G.trans g8 (by simp; omega)
    clear hH X g8
    refine rd 11 rfl (fun K hK => ?_)
    refine wp_store_ans rfl rfl rfl Y (fun w9 Y9 g9 => ?_)
    refine hK.out _ _ ⟨hH8.1.chg g9 (by simpa using n3), hH8.2.chg g9 (by simp; omega)⟩ (fun hH9 => ?_)
    clear hK K
    have X9 := X8.chg g9 (by simpa using n1)
    have R9 := R.chg g9 (by simp; omega)
    have G9 := G.trans g9 (by simp; omega)
    have B9 := hH9.1
    clear hH9 hH8 g9 X8 Y R G
    refine wpAnyH_done (by kernel_rfl) ?_ _
    refine NoPanic.normal ?_
    generalize W11.heap.size = p5 at *
    generalize W0.heap.size = p6 at *
    have l5 := X9.lt
    have l6 := Y9.lt
    have lb := B9.lt
    have lr := R9.lt
    go_wp2_with (first | (refine wpList_load_tab 103 brdRow brdInfo rfl _ rfl p5 rfl 103 (doT T o).1 ?hs ?_; (case hs => exact X9)) | (refine wpList_store_tab 103 brdInfo rfl _ _ rfl b rfl (doT T o).1 rfl 103 T ?hr ?_; (case hr => exact B9); intro wA BA gA zA; have YA := Y9.chg gA (by simp; omega); have RA := R9.chg gA (by simp; omega); have GA := G9.chgB gA; obtain ⟨y0, y1, y2, _, _, _⟩ := YA.three; obtain ⟨r0, r1, r2, f0, f1, f2⟩ := RA.three; have lA := YA.lt; have lR := RA.lt; clear zA gA))
    obtain ⟨c0, c1, c2⟩ := set3 r0 r1 r2 (.int .i64 (doT T o).2.code) (.int .i64 (doT T o).2.jb) (.int .i64 (doT T o).2.tr)
    refine bodyPost_ret (v := ansV (doT T o).2) (by simp [results, ansV, Tryz.results70, go_sem, c0, c1, c2]) rfl ?_
    exact ⟨rfl, ((BA.setOther (by simp; omega) _).setOther (by simp; omega) _).setOther (by simp; omega) _, ((GA.setCell (by simp) _).setCell (by simp) _).setCell (by simp) _⟩
   exact AllReadyH.nil
  exact AllReadyH.nil
 exact AllReadyH.nil
def jobA (T : Tb) (n : Int) : Jb := if 0 ≤ n ∧ n ≤ 5 then T.js n.toNat else ⟨0, 0, 0, 0⟩
theorem job_all (b : Nat) (n : Int) (T : Tb) (w : World) (h : Has 151 w b T) :
  Calls Tryz.prog 56 #[.pointer (some ⟨b, 0, none⟩), .int .i64 n] w fun e w' => e = .returned (.agg #[.int .i64 (jobA T n).st, .int .i64 (jobA T n).wk, .int .i64 (jobA T n).tr, .int .i64 (jobA T n).un]) ∧ Chg [] w w' := by
 by_cases hn : 0 ≤ n ∧ n ≤ 5
 ·obtain ⟨m, rfl⟩ : ∃ m : Nat, n = m := ⟨n.toNat, by omega⟩
  have e : jobA T m = T.js m := by simp [jobA]; omega
  rw [e]
  exact job_in b m (by omega) T w h
 ·have e : jobA T n = ⟨0, 0, 0, 0⟩ := by unfold jobA; rw [if_neg hn]
  rw [e]
  exact job_out b n (by omega) w
theorem bjob_all (b : Nat) (n : Int) (T : Tb) (w : World) (h : Has 103 w b T) :
  Calls Tryz.prog 45 #[.pointer (some ⟨b, 0, none⟩), .int .i64 n] w fun e w' => e = .returned (.agg #[.int .i64 (jobA T n).st, .int .i64 (jobA T n).wk, .int .i64 (jobA T n).tr, .int .i64 (jobA T n).un]) ∧ Chg [] w w' := by
 by_cases hn : 0 ≤ n ∧ n ≤ 5
 ·obtain ⟨m, rfl⟩ : ∃ m : Nat, n = m := ⟨n.toNat, by omega⟩
  have e : jobA T m = T.js m := by simp [jobA]; omega
  rw [e]
  exact bjob_in b m (by omega) T w h
 ·have e : jobA T n = ⟨0, 0, 0, 0⟩ := by unfold jobA; rw [if_neg hn]
  rw [e]
  exact bjob_out b n (by omega) w
theorem bdo_all (b : Nat) (o : Od) (T : Tb) (w : World) (h : Has 103 w b T) (hI : Inv T) :
  Calls Tryz.prog 70 #[.pointer (some ⟨b, 0, none⟩), .agg #[.int .i64 o.k, .int .i64 o.now, .int .i64 o.jb, .int .i64 o.tr, .int .i64 o.wk, .int .i64 o.tm]] w fun e w' =>
   e = .returned (.agg #[.int .i64 (doT T o).2.code, .int .i64 (doT T o).2.jb, .int .i64 (doT T o).2.tr]) ∧ Has 103 w' b (doT T o).1 ∧ Chg [b] w w' := bdo_any b o T w h hI
theorem untilR_stop : ∀ (rs : List Rc) (e : Int) (k : Nat), (∀ j, j < k → (atR rs j).ep ≤ e) → k < rs.length → ¬ (atR rs k).ep ≤ e → (untilR rs e).length = k
 | [], _, _, _, h, _ => by simp at h
 | r :: rs, e, 0, _, _, h => by
  have h0 : ¬ r.ep ≤ e := h
  unfold untilR
  rw [List.takeWhile_cons, if_neg (by simpa using h0)]
  rfl
 | r :: rs, e, k + 1, hj, hk, h => by
  have h0 : r.ep ≤ e := hj 0 (by omega)
  have ih := untilR_stop rs e k (fun j hjk => hj (j + 1) (by omega)) (by simpa using hk) h
  unfold untilR at ih ⊢
  rw [List.takeWhile_cons, if_pos (by simpa using h0), List.length_cons, ih]
theorem untilR_whole (rs : List Rc) (e : Int) (h : ∀ j, j < rs.length → (atR rs j).ep ≤ e) : (untilR rs e).length = rs.length := by
 rw [untilR_all]
 intro r hr
 obtain ⟨i, hi⟩ := List.getElem?_of_mem hr
 have hl : i < rs.length := by
  rcases Nat.lt_or_ge i rs.length with h1 | h1
  ·exact h1
  ·rw [List.getElem?_eq_none h1] at hi; cases hi
 have := h i hl
 have e1 : atR rs i = r := by simp [atR, List.getD, hi]
 rw [e1] at this
 exact this
set_option maxRecDepth 100000 in
set_option maxHeartbeats 2000000 in
theorem until_any (a : Option Addr) (c : Nat) (rs : List Rc) (e : Int) (w : World) (hc : rs.length ≤ c) (hn : rs.length ≤ 4000) (h : Recs w a rs.length (atR rs)) :
  Calls Tryz.prog 91 #[.slice a rs.length c, .int .i64 e] w fun e' w' => e' = .returned (.slice a (untilR rs e).length c) ∧ w' = w := by
 have HH := hide h
 clear h
 go_enter Tryz.func91, Tryz.ntmps91
 go_wp2_with fail
 go_loop [5] (fun i => ∃ k : Nat, k ≤ rs.length ∧ i = .int .i64 k ∧ Hid (∀ j, j < k → (atR rs j).ep ≤ e)) (fun i => rs.length - (intOf i).toNat)
 case atStart => exact ⟨0, by omega, rfl, hide (fun j hj => by omega)⟩
 case round =>
  obtain ⟨k, hk, rfl, hS⟩ := hrel
  by_cases hlt : k < rs.length
  ·have hki : (k : Int) < (rs.length : Int) := by omega
   have hk0 : (0 : Int) ≤ (k : Int) := by omega
   have hkc : (k : Int) ≤ (c : Int) := by omega
   rcases unhide HH with h0 | ⟨bl, off, rfl, hbl, hO⟩
   ·omega
   have p0 := (hO k hlt).1
   clear hO
   by_cases hx : (atR rs k).ep ≤ e
   ·have hd : decide (e < (atR rs k).ep) = false := by simp; omega
    have HX := hide hx
    clear hx
    go_wp2
    go_round
    case rel => exact ⟨k + 1, by omega, by go_num, hide (fun j hj => by
     by_cases e1 : j = k
     ·subst e1; exact unhide HX
     ·exact unhide hS j (by omega))⟩
    case measure => simp [intOf]; omega
   ·have hd : decide (e < (atR rs k).ep) = true := by simp; omega
    have HL := hide (untilR_stop rs e k (unhide hS) hlt hx)
    clear hx
    go_wp2
    go_ret
    rw [unhide HL]
    exact ⟨rfl, rfl⟩
  ·have hki : ¬ (k : Int) < (rs.length : Int) := by omega
   have HL := hide (untilR_whole rs e (fun j hj => unhide hS j (by omega)))
   go_wp2
   go_ret
   rw [unhide HL]
   exact ⟨rfl, rfl⟩
theorem take_snocR (rs : List Rc) {k : Nat} (hk : k < rs.length) : rs.take (k + 1) = rs.take k ++ [atR rs k] := by
 rw [List.take_succ_eq_append_getElem hk]
 simp [atR, List.getD, List.getElem?_eq_getElem hk]
set_option maxRecDepth 100000 in
set_option maxHeartbeats 2000000 in
theorem behind_any (a : Option Addr) (n c : Nat) (rs : List Rc) (w : World) (hl : rs.length = n) (hn : n ≤ 4000) (h : Recs w a n (atR rs)) :
  Calls Tryz.prog 93 #[.slice a n c] w fun e' w' => e' = .returned (.pointer (some ⟨w.heap.size, 0, none⟩)) ∧ Has 103 w' w.heap.size (behindT rs) ∧ Chg [] w w' := by
 have HH := hide h
 have HLn := hide hl
 clear h hl
 go_enter Tryz.func93, Tryz.ntmps93
 go_wp2_with fail
 go_loopw [4] (fun i wr => ∃ k : Nat, k ≤ n ∧ i = .int .i64 k ∧ Has 103 wr w.heap.size (behindT (rs.take k)) ∧ Chg [] w wr) (fun i _ => n - (intOf i).toNat)
 case atStart => exact ⟨0, by omega, rfl, Blk.new w _ _, (Chg.refl _ _).alloc _⟩
 case round =>
  obtain ⟨k, hk, rfl, hB, hG⟩ := hrel
  by_cases hlt : k < n
  ·have hki : (k : Int) < (n : Int) := by omega
   have hk0 : (0 : Int) ≤ (k : Int) := by omega
   rcases unhide HH with h0 | ⟨bl, off, rfl, hbl, hO⟩
   ·omega
   obtain ⟨-, p1, p2, p3, p4, p5, p6⟩ := (hO k hlt).chg hG hbl
   have HT := hide (take_snocR rs (k := k) (by rw [unhide HLn]; exact hlt))
   clear hO
   generalize atR rs k = r at *
   generalize hT : behindT (rs.take k) = T at *
   have HI : Inv T := hT ▸ behindT_inv _
   have HE := hide hT
   clear hT
   go_wp2_with (go_at_call 70; refine (bdo_all w.heap.size r.o T _ hB HI).mono ?_; rintro e w3 ⟨rfl, hB3, g3⟩; have G3 := hG.trans g3 (by simp); clear g3)
   go_roundw
   case rel => exact ⟨k + 1, by omega, by go_num, by rw [unhide HT, behindT_snoc, unhide HE]; exact hB3, G3⟩
   case measure => go_light; simp [intOf]; omega
  ·have hki : ¬ (k : Int) < (n : Int) := by omega
   have hkn : k = n := by omega
   have HT := hide (show rs.take k = rs by rw [hkn, ← unhide HLn, List.take_length])
   clear hkn
   go_wp2
   go_ret
   rw [unhide HT] at hB
   exact ⟨rfl, hB, hG⟩
end Go.Proofs.YtllnjiljjodfdacGreatDoor
