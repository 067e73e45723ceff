/-
 The document's own node (vergersref.Verger) in memory, and how it is opened. Nothing here is claimed by itself.
-/
import Derived.Conc.WalkWords
import Derived.Deep.CutRange
import Derived.Deep.RegionHeld3
import Derived.BigQuiet
import Derived.Test.YtllnjiljjodfdacGreatDoorQgR3
import Derived.Test.YtllnjiljjodfdacGreatDoorQgD1
import Derived.Test.YtllnjiljjodfdacGreatDoorQgK3a
namespace Go.Proofs.YtllnjiljjodfdacGreatDoor
open Go.RowKit

theorem sl_byt {w : World} {v : Value} {l : List Int} (h : Sl w v l) (hk : okB l) : ∃ a c, v = .slice a l.length c ∧ l.length ≤ c ∧ Byt w a l.length (getB l) := by
 rcases h with ⟨rfl, rfl⟩ | ⟨p, c, rfl, hc, h⟩
 ·exact ⟨none, 0, rfl, Nat.le_refl _, fun i hi => by simp at hi, .inl rfl⟩
 ·refine ⟨some p, c, rfl, hc, getB_ok hk, ?_⟩
  by_cases h0 : l.length = 0
  ·exact .inl h0
  ·refine .inr ?_
   obtain ⟨b, off, sp⟩ := p
   have c0 := h 0 _ (List.getElem?_eq_getElem (by omega))
   have hsp : sp = none := by simpa [Addr.add] using World.cell?_spot c0
   subst hsp
   have ad : ∀ j, ((⟨b, off, none⟩ : Addr).add j) = ⟨b, off + j, none⟩ := by
    intro j; unfold Addr.add; split <;> simp_all
   rw [ad] at c0
   refine ⟨b, off, rfl, World.block_lt_of_cell? w _ c0, fun i hi => ?_⟩
   have ci := h i _ (List.getElem?_eq_getElem hi)
   rw [ad] at ci
   rw [getB_at (List.getElem?_eq_getElem hi)]
   exact ci
def vcells (T : Tb) (pp : Nat) (e : Int) (dn : Bool) : Array Value :=
 #[.int .i64 (T.js 0).st, .int .i64 (T.js 0).wk, .int .i64 (T.js 0).tr, .int .i64 (T.js 0).un,
  .int .i64 (T.js 1).st, .int .i64 (T.js 1).wk, .int .i64 (T.js 1).tr, .int .i64 (T.js 1).un,
  .int .i64 (T.js 2).st, .int .i64 (T.js 2).wk, .int .i64 (T.js 2).tr, .int .i64 (T.js 2).un,
  .int .i64 (T.js 3).st, .int .i64 (T.js 3).wk, .int .i64 (T.js 3).tr, .int .i64 (T.js 3).un,
  .int .i64 (T.js 4).st, .int .i64 (T.js 4).wk, .int .i64 (T.js 4).tr, .int .i64 (T.js 4).un,
  .int .i64 (T.js 5).st, .int .i64 (T.js 5).wk, .int .i64 (T.js 5).tr, .int .i64 (T.js 5).un,
  .int .i64 T.now, .pointer (some ⟨pp, 0, none⟩), .int .i64 e, .bool dn]
def Vgr (ty : TypeId) (w : World) (b : Nat) (T : Tb) (pp : Nat) (e : Int) (dn : Bool) : Prop := Blk w b (vcells T pp e dn) ty
theorem Pnx.mono {w w' : World} {v v' : Value} (h : Pnx w' v v') (hs : w.heap.size ≤ w'.heap.size) : Pnx w v v' := fun g hg => (h g hg).imp id (fun e => Nat.le_trans hs e)
theorem praise_full {tp : TypeId} {rest : Array Value} (b : Nat) (v : Value) (l : List Int) (w : World) (h : Plt tp rest w b 100 v l) :
  Calls Tryz.prog 90 #[.pointer (some ⟨b, 0, none⟩)] w fun e w' => e = .returned (.tuple #[.int .i64 0, .int .i64 8]) ∧ Plt tp rest w' b 100 v l ∧ Chg [b] w w' :=
 praise_any b 100 v l w h (by omega) (by omega)
theorem praise_more {tp : TypeId} {rest : Array Value} (b : Nat) (ep : Int) (v : Value) (l : List Int) (w : World) (h : Plt tp rest w b ep v l) (h0 : 0 ≤ ep) (h1 : ¬ 100 ≤ ep) :
  Calls Tryz.prog 90 #[.pointer (some ⟨b, 0, none⟩)] w fun e w' => e = .returned (.tuple #[.int .i64 (ep + 1), .int .i64 0]) ∧ Plt tp rest w' b (ep + 1) v l ∧ Chg [b] w w' := by
 have := praise_any b ep v l w h h0 (by omega)
 obtain ⟨e1, e2, e3⟩ := rs_more h1
 rw [e1, e2, e3] at this
 exact this
theorem pcut_yes {tp : TypeId} {rest : Array Value} (b : Nat) (ep : Int) (v : Value) (l : List Int) (m : Nat) (w : World) (h : Plt tp rest w b ep v l) (h1 : 1 ≤ ep) (hm : m ≤ l.length) :
  Calls Tryz.prog 92 #[.pointer (some ⟨b, 0, none⟩), .int .i64 ep, .int .i64 (m : Int)] w fun e w' => e = .returned (.int .i64 0) ∧ ∃ v', Plt tp rest w' b ep v' (l.take m) ∧ Chg [b] w w' ∧ Pnx w v v' := by
 have := pcut_any b ep v l ep m w h
 obtain ⟨e1, e2⟩ := ct_yes (fen_self h1) (l := l) (k := m) (by omega)
 rw [e1, e2, Int.toNat_natCast] at this
 exact this
set_option maxRecDepth 100000 in
set_option maxHeartbeats 2000000 in
theorem opened_full {tp : TypeId} {rest : Array Value} (pb : Nat) (u : Value) (l : List Int) (w : World) (P : Plt tp rest w pb 100 u l) :
  Calls Tryz.prog 66 #[.pointer (some ⟨pb, 0, none⟩)] w fun e w' => e = .returned (.tuple #[.pointer none, .int .i64 8]) ∧ Plt tp rest w' pb 100 u l ∧ Chg [pb] w w' := by
 obtain ⟨c0, c1, hl, f0, f1⟩ := P.cells
 have HP := hide P
 clear P
 go_enter Tryz.func66, Tryz.ntmps66
 go_wp2_with (go_at_call 90; refine (praise_full pb u l _ (unhide HP)).mono ?_; rintro e w2 ⟨rfl, P2, g2⟩)
 go_ret2
 exact ⟨rfl, P2, g2⟩
theorem pcut_nine {tp : TypeId} {rest : Array Value} (b : Nat) (ep : Int) (v : Value) (l : List Int) (m : Nat) (w : World) (h : Plt tp rest w b ep v l) (h1 : 1 ≤ ep) (hm : 9 * m ≤ l.length) :
  Calls Tryz.prog 92 #[.pointer (some ⟨b, 0, none⟩), .int .i64 ep, .int .i64 (9 * (m : Int))] w fun e w' => e = .returned (.int .i64 0) ∧ ∃ v', Plt tp rest w' b ep v' (l.take (9 * m)) ∧ Chg [b] w w' ∧ Pnx w v v' := by
 have e : 9 * (m : Int) = ((9 * m : Nat) : Int) := by omega
 rw [e]
 exact pcut_yes b ep v l (9 * m) w h h1 hm
theorem Recs.own {w : World} {base : Nat} {e : TypeId} {a : Option Addr} {n c : Nat} {l : List Rc} (h : w.ownsRow base e 7 (.slice a n c) n (cellsR l)) (hn : n = l.length) : Recs w a n (atR l) := by
 obtain ⟨a', c', e', -, -, R⟩ := own_recs h hn
 cases e'
 exact R
theorem vcells_app (T : Tb) (pp : Nat) (e : Int) (dn : Bool) : vcells T pp e dn = T.cells ++ #[.pointer (some ⟨pp, 0, none⟩), .int .i64 e, .bool dn] := by simp [vcells, Tb.cells]
theorem vcells_at (T : Tb) (pp : Nat) (e : Int) (dn : Bool) {j : Nat} (hj : j < 25) : (vcells T pp e dn)[j]? = T.cells[j]? := by
 rw [vcells_app, Array.getElem?_append_left (by rw [Tb.size_cells]; exact hj)]
theorem vcells_size (T : Tb) (pp : Nat) (e : Int) (dn : Bool) : (vcells T pp e dn).size = 28 := rfl
theorem Vgr.lt {ty : TypeId} {w : World} {b : Nat} {T : Tb} {pp : Nat} {e : Int} {dn : Bool} (h : Vgr ty w b T pp e dn) : b < w.heap.size := Blk.lt h
theorem Vgr.tail {ty : TypeId} {w : World} {b : Nat} {T : Tb} {pp : Nat} {e : Int} {dn : Bool} (h : Vgr ty w b T pp e dn) :
  w.cell? ⟨b, 25, none⟩ = some (.pointer (some ⟨pp, 0, none⟩)) ∧ w.cell? ⟨b, 26, none⟩ = some (.int .i64 e) ∧ w.cell? ⟨b, 27, none⟩ = some (.bool dn) ∧ w.frozen? ⟨b, 27, none⟩ = false ∧ b < w.heap.size :=
 ⟨Blk.cell h 25, Blk.cell h 26, Blk.cell h 27, Blk.fz h 27, Blk.lt h⟩
theorem Vgr.chg {ty : TypeId} {w w' : World} {b : Nat} {T : Tb} {pp : Nat} {e : Int} {dn : Bool} (h : Vgr ty w b T pp e dn) {bs : List Nat} (k : Chg bs w w') (hb : b ∉ bs) : Vgr ty w' b T pp e dn := Blk.chg h k hb
theorem Vgr.alloc {ty : TypeId} {w : World} {b : Nat} {T : Tb} {pp : Nat} {e : Int} {dn : Bool} (h : Vgr ty w b T pp e dn) (o : Obj) : Vgr ty (w.alloc o) b T pp e dn := Blk.alloc h o
theorem Vgr.range {ty : TypeId} {w : World} {b : Nat} {T : Tb} {pp : Nat} {e : Int} {dn : Bool} (h : Vgr ty w b T pp e dn) : w.rangeAt b 0 T.cells.toList := fun j v hv => by
 have hj : j < 25 := by
  rcases Nat.lt_or_ge j 25 with h1 | h1
  ·exact h1
  ·rw [List.getElem?_eq_none (by simpa [Tb.size_cells] using h1)] at hv; cases hv
 rw [Nat.zero_add, Blk.cell h, vcells_at _ _ _ _ hj]
 simpa using hv
theorem Vgr.setDown {ty : TypeId} {w : World} {b : Nat} {T : Tb} {pp : Nat} {e : Int} {dn : Bool} (h : Vgr ty w b T pp e dn) (d : Bool) : Vgr ty (w.setCell ⟨b, 27, none⟩ (.bool d)) b T pp e d := Blk.set h 27 (.bool d)
theorem Vgr.setAll {ty : TypeId} {w : World} {b : Nat} {T : Tb} {pp : Nat} {e : Int} {dn : Bool} (h : Vgr ty w b T pp e dn) (T' : Tb) : Vgr ty (w.setCells b 0 T'.cells.toList) b T' pp e dn := by
 obtain ⟨c', h1, h2, h3⟩ := setCells_raw b ty T'.cells.toList 0 w (vcells T pp e dn) h
 have : c' = vcells T' pp e dn := by
  apply Array.ext_getElem?
  intro i
  rw [h3 i]
  by_cases hi : i < 25
  ·rw [if_pos ⟨Nat.zero_le _, by simpa [Tb.size_cells] using hi, by rw [vcells_size]; omega⟩, vcells_at _ _ _ _ hi]
   simp
  ·rw [if_neg (by simp [Tb.size_cells]; omega), vcells_app, vcells_app, Array.getElem?_append_right (by rw [Tb.size_cells]; omega), Array.getElem?_append_right (by rw [Tb.size_cells]; omega), Tb.size_cells, Tb.size_cells]
 subst this
 exact h1
theorem wpList_load_vgr {ops : Array Oper} {rest : List Oper} {op : Oper} {a : Act} {w : World} {Q : Exit → Act → World → Prop} (hgd : op.guard = none) (x : Operand) (ho : op.op = .load 103 x) (b : Nat) (hx : a.eval x = .pointer (some ⟨b, 0, none⟩)) {ty' : TypeId} {T : Tb} {pp : Nat} {e : Int} {dn : Bool} (h : Vgr ty' w b T pp e dn)
  (k : wpList Tryz.prog ops Q rest (a.put op.dst (.agg T.cells)) w) : wpList Tryz.prog ops Q (op :: rest) a w := by
 obtain ⟨d, hu, hd⟩ := brdRow
 exact wpList_load_mid hgd 103 x ho b 0 hx T.cells.toList d h.range hu hd (by rw [brdInfo]; rfl) (by simpa using k)
theorem wpList_store_vgr {ops : Array Oper} {rest : List Oper} {op : Oper} {a : Act} {w : World} {Q : Exit → Act → World → Prop} (hgd : op.guard = none) (x y : Operand) (ho : op.op = .store 103 x y) (b : Nat) (hx : a.eval x = .pointer (some ⟨b, 0, none⟩)) (T' : Tb) (hy : a.eval y = .agg T'.cells) {ty' : TypeId} {T : Tb} {pp : Nat} {e : Int} {dn : Bool} (h : Vgr ty' w b T pp e dn)
  (k : ∀ w', Vgr ty' w' b T' pp e dn → Chg [b] w w' → w'.heap.size = w.heap.size → wpList Tryz.prog ops Q rest (a.put op.dst undef) w') : wpList Tryz.prog ops Q (op :: rest) a w := by
 refine wpList_store_mid hgd 103 x y ho b 0 T'.cells hx hy (fun j hj => ⟨?_, ?_⟩) (by rw [brdInfo]; rfl) T'.one_cells (k _ (h.setAll T') ((Chg.refl _ _).setAll (by simp) _ _) (setCells_others b _ 0 w).2.2.2.1)
 ·rw [Nat.zero_add, Blk.cell h, vcells_at _ _ _ _ (by simpa [Tb.size_cells] using hj)]; simpa [Tb.size_cells] using hj
 ·rw [Blk.fz h]
theorem byt_sl {w : World} {g c : Nat} {r : Rc} (h : Byt w (some ⟨g, 0, none⟩) 9 (by9 r)) (hc : 9 ≤ c) : Sl w (.slice (some ⟨g, 0, none⟩) 9 c) (nineL r) := by
 refine .inr ⟨⟨g, 0, none⟩, c, rfl, hc, fun j x hj => ?_⟩
 obtain ⟨-, h0 | ⟨b, off, e, -, h⟩⟩ := h
 ·omega
 ·cases e
  have hj9 : j < 9 := by
   rcases Nat.lt_or_ge j 9 with h1 | h1
   ·exact h1
   ·rw [List.getElem?_eq_none (by rw [nineL_len]; omega)] at hj; cases hj
  rw [nineL_at r hj9] at hj
  cases hj
  have e2 : ((⟨g, 0, none⟩ : Addr).add j) = ⟨g, 0 + j, none⟩ := by simp [Addr.add]; omega
  rw [e2]
  exact h j hj9
theorem papp_yes {tp : TypeId} {rest : Array Value} (b : Nat) (ep : Int) (v : Value) (l : List Int) (vx : Value) (x : List Int) (w : World) (h : Plt tp rest w b ep v l) (h1 : 1 ≤ ep) (hx : Sl w vx x) (hk : okB x) (hn : l.length + x.length ≤ 1500) :
  Calls Tryz.prog 96 #[.pointer (some ⟨b, 0, none⟩), .int .i64 ep, vx] w fun e w' => e = .returned (.int .i64 0) ∧ ∃ v', Plt tp rest w' b ep v' (l ++ x) ∧ Chg [b] w w' ∧ Pnx w v v' := by
 have := papp_any b ep v l ep vx x w h hx hk (by omega)
 obtain ⟨e1, e2⟩ := ap_yes (fen_self h1) (l := l) (x := x) (by omega)
 rw [e1, e2] at this
 exact this
theorem papp_full {tp : TypeId} {rest : Array Value} (b : Nat) (ep : Int) (v : Value) (l : List Int) (vx : Value) (x : List Int) (w : World) (h : Plt tp rest w b ep v l) (h1 : 1 ≤ ep) (hx : Sl w vx x) (hk : okB x) (hxn : x.length ≤ 100000) (hn : 1500 < l.length + x.length) :
  Calls Tryz.prog 96 #[.pointer (some ⟨b, 0, none⟩), .int .i64 ep, vx] w fun e w' => e = .returned (.int .i64 8) ∧ ∃ v', Plt tp rest w' b ep v' l ∧ Chg [b] w w' ∧ Pnx w v v' := by
 have := papp_any b ep v l ep vx x w h hx hk hxn
 obtain ⟨e1, e2⟩ := ap_full (fen_self h1) (l := l) (x := x) hn
 rw [e1, e2] at this
 exact this
theorem do_chk {T : Tb} {o : Od} (h : (doT T o).2.code = 0) : chk o = 0 := by
 rcases do_step T o with ⟨h1, _⟩ | ⟨_, h1, _⟩
 ·exact absurd h h1
 ·exact h1
def keepN (keep : Int) : Nat := if keep < 0 then 0 else if keep < 9 then keep.toNat else 9
theorem keepN_le (keep : Int) : keepN keep ≤ 9 := by unfold keepN; split <;> (try split) <;> omega
def tornL (e : Int) (o : Od) (keep : Int) : List Int := (nineL ⟨e, o⟩).take (keepN keep)
theorem tornL_len (e : Int) (o : Od) (keep : Int) : (tornL e o keep).length = keepN keep := by
 unfold tornL
 rw [List.length_take, nineL_len]
 have := keepN_le keep
 omega
def Rdv (b : Nat) (T : Tb) (pp : Nat) (e : Int) (dn : Bool) (wo : Nat) (c : Array Value) (t : TypeId) (w : World) : Prop := Vgr 106 w b T pp e dn ∧ Blk w wo c t
theorem rdv_yield1 {ops : Array Oper} {op : Oper} {a : Act} {x : Operand} {b : Nat} {T : Tb} {pp : Nat} {e : Int} {dn : Bool} {wo : Nat} {c : Array Value} {t : TypeId} (hw : Region.wanted op (yielded ops a.tmps) = true) (ho : op.op = .load 103 x) (hx : a.eval x = .pointer (some ⟨b, 0, none⟩)) :
  YieldsIf Tryz.prog ops (Rdv b T pp e dn wo c t) op (.agg T.cells) a := by
 obtain ⟨d, hu, hd⟩ := brdRow
 have := yieldsIf_load_mid (P := Tryz.prog) (S := Rdv b T pp e dn wo c t) hw 103 x ho b 0 hx T.cells.toList d (fun w hw' => hw'.1.range) hu hd (by rw [brdInfo]; rfl)
 simpa using this
theorem rdv_yield2 {ops : Array Oper} {op : Oper} {a : Act} {x : Operand} {b : Nat} {T : Tb} {pp : Nat} {e : Int} {dn : Bool} {wo : Nat} {o : Od} (hw : Region.wanted op (yielded ops a.tmps) = true) (ho : op.op = .load 83 x) (hx : a.eval x = .pointer (some ⟨wo, 0, none⟩)) :
  YieldsIf Tryz.prog ops (Rdv b T pp e dn wo #[.int .i64 o.k, .int .i64 o.now, .int .i64 o.jb, .int .i64 o.tr, .int .i64 o.wk, .int .i64 o.tm] 83) op (odV o) a :=
 yieldsIf_load_mid (P := Tryz.prog) hw 83 x ho wo 0 hx [.int .i64 o.k, .int .i64 o.now, .int .i64 o.jb, .int .i64 o.tr, .int .i64 o.wk, .int .i64 o.tm] _ (fun w hw' j v hv => by rw [Nat.zero_add, hw'.2.cell]; simpa using hv) Tryz.underlying83 rfl (by rw [ordInfo]; rfl)
theorem ret_ans {fn : Func} {q : Tmp} (h : fn.results = #[.cell q 95]) {tmps : Array Value} {w : World} {c : Nat}
  (hq : tmps.getD q undef = .pointer (some ⟨c, 0, none⟩)) {ty'' : TypeId} {x y z : Value} (hA : Blk w c #[x, y, z] ty'') :
  (results fn tmps).run Tryz.prog w = .ok (.agg #[x, y, z]) w := by
 have ha := load_ans hA
 have hq' : tmps[q]?.getD undef = .pointer (some ⟨c, 0, none⟩) := by simpa using hq
 simp only [results, h]
 simp [hq', asAddr, ha]
set_option maxRecDepth 100000 in
set_option maxHeartbeats 2000000 in
theorem vord_down (b : Nat) (T : Tb) (pp : Nat) (e : Int) (o : Od) (keep : Int) (w : World) (V : Vgr 106 w b T pp e true) :
  Calls Tryz.prog 67 #[.pointer (some ⟨b, 0, none⟩), odV o, .int .i64 keep] w fun e w' => e = .returned (ansV ⟨10, 0, 0⟩) ∧ Chg [] w w' := by
 obtain ⟨-, -, t2, -, lb⟩ := V.tail
 clear V
 unfold odV
 go_enter Tryz.func67, Tryz.ntmps67
 go_wp2
 refine bodyPost_ret (v := ansV ⟨10, 0, 0⟩) (by simp [results, ansV, Tryz.results67, go_sem]) rfl ?_
 exact ⟨rfl, ((Chg.refl _ _).alloc _).alloc _⟩
set_option maxRecDepth 100000 in
set_option maxHeartbeats 2000000 in
theorem vord_fenced {tp : TypeId} {rest : Array Value} (b : Nat) (T : Tb) (pp : Nat) (e ep : Int) (u : Value) (l : List Int) (o : Od) (keep : Int) (w : World) (V : Vgr 106 w b T pp e false) (P : Plt tp rest w pp ep u l) (hne : ¬ ep = e) :
  Calls Tryz.prog 67 #[.pointer (some ⟨b, 0, none⟩), odV o, .int .i64 keep] w fun x w' => x = .returned (ansV ⟨9, 0, 0⟩) ∧ Vgr 106 w' b T pp e true ∧ Chg [b] w w' := by
 obtain ⟨t0, t1, t2, tf, lb⟩ := V.tail
 obtain ⟨y0, -, ly, -, -⟩ := P.cells
 have hb : (ep != e) = true := by rw [bne_iff_ne]; exact hne
 have HV := hide V
 clear V P hne
 unfold odV
 go_enter Tryz.func67, Tryz.ntmps67
 go_wp2_with fail
 go_quiet (fail)
 go_wp2
 have R := ((((Blk.new1 w (.cells #[.int .i64 o.k, .int .i64 o.now, .int .i64 o.jb, .int .i64 o.tr, .int .i64 o.wk, .int .i64 o.tm] 83) #[.int .i64 0, .int .i64 0, .int .i64 0] 95).other (p := ⟨b, 27, none⟩) (by simp; omega) (.bool true)).set 0 (.int .i64 9)).set 1 (.int .i64 0)).set 2 (.int .i64 0)
 refine bodyPost_ret (v := ansV ⟨9, 0, 0⟩) (ret_ans rfl rfl R) rfl ?_
 refine ⟨rfl, ?_, ?_⟩
 ·exact ((((((unhide HV).alloc _).alloc _).setDown true).other (by simp; omega) _).other (by simp; omega) _).other (by simp; omega) _
 ·exact ((((((((Chg.refl [b] w).alloc _).alloc _).drewN nq).setCell (by simp) _).setCell (by simp) _).setCell (by simp) _).setCell (by simp) _)
theorem Vgr.cellT {ty : TypeId} {w : World} {b : Nat} {T : Tb} {pp : Nat} {e : Int} {dn : Bool} (h : Vgr ty w b T pp e dn) {j : Nat} (hj : j < 25) : w.cell? ⟨b, j, none⟩ = T.cells[j]? := by
 rw [Blk.cell h, vcells_at _ _ _ _ hj]
theorem Vgr.job {ty : TypeId} {w : World} {b : Nat} {T : Tb} {pp : Nat} {e : Int} {dn : Bool} (h : Vgr ty w b T pp e dn) {n : Nat} (hn : n < 6) :
  w.cell? ⟨b, n * 4, none⟩ = some (.int .i64 (T.js n).st) ∧ w.cell? ⟨b, n * 4 + 1, none⟩ = some (.int .i64 (T.js n).wk) ∧ w.cell? ⟨b, n * 4 + 2, none⟩ = some (.int .i64 (T.js n).tr) ∧ w.cell? ⟨b, n * 4 + 3, none⟩ = some (.int .i64 (T.js n).un) := by
 refine ⟨?_, ?_, ?_, ?_⟩ <;> rw [h.cellT (by omega)] <;> rcases six hn with rfl | rfl | rfl | rfl | rfl | rfl <;> rfl
theorem vjob_all (b : Nat) (n : Int) (T : Tb) (pp : Nat) (e : Int) (dn : Bool) (w : World) (h : Vgr 106 w b T pp e dn) :
  Calls Tryz.prog 45 #[.pointer (some ⟨b, 0, none⟩), .int .i64 n] w fun x w' => x = .returned (.agg #[.int .i64 (jobA T n).st, .int .i64 (jobA T n).wk, .int .i64 (jobA T n).tr, .int .i64 (jobA T n).un]) ∧ Chg [] w w' := by
 by_cases hn : 0 ≤ n ∧ n ≤ 5
 ·obtain ⟨m, rfl⟩ : ∃ m : Nat, n = m := ⟨n.toNat, by omega⟩
  have e : jobA T m = T.js m := by simp [jobA]; omega
  rw [e]
  have hm : m < 6 := by omega
  have hl := h.lt
  obtain ⟨c0, c1, c2, c3⟩ := h.job hm
  have d0 : decide ((m : Int) < 0) = false := by simp
  have d1 : decide ((6 : Int) ≤ (m : Int)) = false := by simp; omega
  have hn' : (m : Int) < 6 := by omega
  clear hn e h
  go_enter Tryz.func45, Tryz.ntmps45
  go_wp2
  go_returns
  exact ⟨rfl, (Chg.refl _ _).alloc _⟩
 ·have e : jobA T n = ⟨0, 0, 0, 0⟩ := by unfold jobA; rw [if_neg hn]
  rw [e]
  exact bjob_out b n (by omega) w
def Serves (ep : Int) (l : List Int) (T : Tb) : Prop := ∃ rs : List Rc, l = bytesL rs ∧ goodF 0 rs ∧ (∀ r ∈ rs, r.ep ≤ ep) ∧ T = behindT rs
theorem Serves.inv {ep : Int} {l : List Int} {T : Tb} (h : Serves ep l T) : Inv T := by
 obtain ⟨rs, _, _, _, rfl⟩ := h
 exact behindT_inv rs
theorem serves_open {l : List Int} (h : okB l) {ep : Int} : Serves (ep + 1) (bytesL (keptL l ep)) (behindT (keptL l ep)) :=
 ⟨keptL l ep, rfl, keptL_good h ep, fun r hr => by have := untilR_le r hr; omega, rfl⟩
theorem Serves.done {ep : Int} {l : List Int} {T : Tb} (h : Serves ep l T) (e0 : 1 ≤ ep) (e1 : ep ≤ 100) {o : Od} (hc : (doT T o).2.code = 0) : Serves ep (l ++ nineL ⟨ep, o⟩) (doT T o).1 := by
 obtain ⟨rs, rfl, h2, h3, rfl⟩ := h
 have hck : ckR ⟨ep, o⟩ = 0 := by
  unfold ckR
  rw [if_neg (by simp; omega)]
  exact do_chk hc
 refine ⟨rs ++ [⟨ep, o⟩], by simp [bytesL], goodF_snoc hck rs 0 h2 (lastE_le (e := ep) (by omega) h3), fun r hr => ?_, by rw [behindT_snoc]⟩
 rcases List.mem_append.1 hr with hr | hr
 ·exact h3 r hr
 ·simp at hr
  subst hr
  exact Int.le_refl _
theorem Serves.recs {ep : Int} {l : List Int} {T : Tb} (h : Serves ep l T) : keptL l ep = recsL l ∧ l.length = 9 * (recsL l).length ∧ T = behindT (recsL l) := by
 obtain ⟨rs, rfl, h2, h3, rfl⟩ := h
 have e : recsL (bytesL rs) = rs := recsL_bytes h2
 refine ⟨?_, by rw [e, bytesL_len], by rw [e]⟩
 unfold keptL
 rw [e, untilR_all h3]
structure Nd where
 T : Tb
 e : Int
 dn : Bool
structure Dk where
 ep : Int
 l : List Int
def wrC (d : Dk) (n : Nd) (o : Od) (keep : Int) : Int :=
 if n.dn = true then 10 else if ¬ d.ep = n.e then 9 else if ¬ (doT n.T o).2.code = 0 then (doT n.T o).2.code else if 1500 < d.l.length + keepN keep then 8 else 0
def dnx (d : Dk) (n : Nd) : Bool := n.dn || d.ep != n.e
def wrD (d : Dk) (n : Nd) (o : Od) (keep : Int) : Dk := ⟨d.ep, if wrC d n o keep = 0 then d.l ++ tornL d.ep o keep else d.l⟩
def ordN (d : Dk) (n : Nd) (o : Od) : Nd := ⟨if wrC d n o 9 = 0 then (doT n.T o).1 else n.T, n.e, dnx d n⟩
def ordA (d : Dk) (n : Nd) (o : Od) : An := if wrC d n o 9 = 0 then (doT n.T o).2 else ⟨wrC d n o 9, 0, 0⟩
def tearN (d : Dk) (n : Nd) (o : Od) (keep : Int) : Nd := ⟨n.T, n.e, dnx d n || decide (wrC d n o keep = 0)⟩
def stopN (n : Nd) : Nd := ⟨n.T, n.e, true⟩
def openD (d : Dk) : Dk := ⟨d.ep + 1, bytesL (keptL d.l d.ep)⟩
def openN (d : Dk) : Nd := ⟨behindT (keptL d.l d.ep), d.ep + 1, false⟩
theorem doT_ref {T : Tb} {o : Od} (h : ¬ (doT T o).2.code = 0) : (doT T o).2 = ⟨(doT T o).2.code, 0, 0⟩ ∧ (doT T o).1 = T := by
 unfold doT at h ⊢
 split
 ·exact ⟨rfl, rfl⟩
 ·split
  ·rename_i h1 h2
   rw [if_neg h1, if_pos h2] at h
   exact absurd h2 h
  ·rename_i h1 h2
   refine ⟨?_, rfl⟩
   show (obeyT (passT T o.now) o).2 = ⟨(obeyT (passT T o.now) o).2.code, 0, 0⟩
   revert h2
   generalize passT T o.now = P
   intro h2
   unfold obeyT at h2 ⊢
   split
   ·unfold addT; split <;> rfl
   ·split
    ·rename_i k1 k2
     rw [if_neg k1, if_pos k2] at h2
     unfold takeT at h2 ⊢
     split
     ·rfl
     ·rename_i n hn
      rw [hn] at h2
      exact absurd rfl h2
    ·unfold heedT
     split
     ·rfl
     ·split <;> rfl
section
variable {d : Dk} {n : Nd} {o : Od} {keep : Int}
theorem wr_down (h : n.dn = true) : wrC d n o keep = 10 := by unfold wrC; rw [if_pos h]
theorem wr_fenced (h : n.dn = false) (he : ¬ d.ep = n.e) : wrC d n o keep = 9 := by unfold wrC; rw [if_neg (by simp [h]), if_pos he]
theorem wr_ref (h : n.dn = false) (he : d.ep = n.e) (hc : ¬ (doT n.T o).2.code = 0) : wrC d n o keep = (doT n.T o).2.code := by
 unfold wrC; rw [if_neg (by simp [h]), if_neg (by simp [he]), if_pos hc]
theorem wr_full (h : n.dn = false) (he : d.ep = n.e) (hc : (doT n.T o).2.code = 0) (hf : 1500 < d.l.length + keepN keep) : wrC d n o keep = 8 := by
 unfold wrC; rw [if_neg (by simp [h]), if_neg (by simp [he]), if_neg (by simp [hc]), if_pos hf]
theorem wr_yes (h : n.dn = false) (he : d.ep = n.e) (hc : (doT n.T o).2.code = 0) (hf : ¬ 1500 < d.l.length + keepN keep) : wrC d n o keep = 0 := by
 unfold wrC; rw [if_neg (by simp [h]), if_neg (by simp [he]), if_neg (by simp [hc]), if_neg hf]
theorem wr_zero (h : wrC d n o keep = 0) : n.dn = false ∧ d.ep = n.e ∧ (doT n.T o).2.code = 0 ∧ ¬ 1500 < d.l.length + keepN keep := by
 cases hd : n.dn
 ·by_cases he : d.ep = n.e
  ·by_cases hc : (doT n.T o).2.code = 0
   ·by_cases hf : 1500 < d.l.length + keepN keep
    ·rw [wr_full hd he hc hf] at h; omega
    ·exact ⟨rfl, he, hc, hf⟩
   ·rw [wr_ref hd he hc] at h; exact absurd h hc
  ·rw [wr_fenced hd he] at h; omega
 ·rw [wr_down hd] at h; omega
theorem wrD_no (h : ¬ wrC d n o keep = 0) : wrD d n o keep = d := by unfold wrD; rw [if_neg h]
theorem wrD_yes (h : wrC d n o keep = 0) : wrD d n o keep = ⟨d.ep, d.l ++ tornL d.ep o keep⟩ := by unfold wrD; rw [if_pos h]
theorem ord_no (h : ¬ wrC d n o 9 = 0) : ordN d n o = ⟨n.T, n.e, dnx d n⟩ ∧ ordA d n o = ⟨wrC d n o 9, 0, 0⟩ := by unfold ordN ordA; rw [if_neg h, if_neg h]; exact ⟨rfl, rfl⟩
theorem ord_yes (h : wrC d n o 9 = 0) : ordN d n o = ⟨(doT n.T o).1, n.e, dnx d n⟩ ∧ ordA d n o = (doT n.T o).2 := by unfold ordN ordA; rw [if_pos h, if_pos h]; exact ⟨rfl, rfl⟩
theorem dnx_serves (h : n.dn = false) (he : d.ep = n.e) : dnx d n = false := by unfold dnx; simp [h, he]
theorem dnx_down (h : n.dn = true) : dnx d n = true := by unfold dnx; simp [h]
theorem dnx_fenced (he : ¬ d.ep = n.e) : dnx d n = true := by unfold dnx; simp [he]
theorem dnx_false (h : dnx d n = false) : n.dn = false ∧ d.ep = n.e := by unfold dnx at h; simpa using h
end
theorem tornL_nine (e : Int) (o : Od) : tornL e o 9 = nineL ⟨e, o⟩ := rfl
theorem tornL_whole {keep : Int} (h : 9 ≤ keep) (e : Int) (o : Od) : tornL e o keep = nineL ⟨e, o⟩ := by
 unfold tornL keepN
 rw [if_neg (by omega), if_neg (by omega)]
 rfl
theorem keepN_part {keep : Int} (h : keep < 9) : keepN keep < 9 := by unfold keepN; split <;> (try split) <;> omega
theorem nine_ck {ep : Int} (e0 : 1 ≤ ep) (e1 : ep ≤ 100) {T : Tb} {o : Od} (hc : (doT T o).2.code = 0) : ckR ⟨ep, o⟩ = 0 := by
 unfold ckR
 rw [if_neg (by simp; omega)]
 exact do_chk hc
theorem tornL_ok {ep : Int} (e0 : 1 ≤ ep) (e1 : ep ≤ 100) {T : Tb} {o : Od} (hc : (doT T o).2.code = 0) (keep : Int) : okB (tornL ep o keep) := (nineL_ok (nine_ck e0 e1 hc)).take _
def upN (ns : Nat → Nd) (i : Nat) (n : Nd) : Nat → Nd := fun j => if j = i then n else ns j
theorem upN_same (ns : Nat → Nd) (i : Nat) (n : Nd) : upN ns i n i = n := by simp [upN]
theorem upN_other (ns : Nat → Nd) {i j : Nat} (n : Nd) (h : j ≠ i) : upN ns i n j = ns j := by simp [upN, h]
structure Pl (d : Dk) (k : Nat) (ns : Nat → Nd) : Prop where
 e1 : 1 ≤ d.ep
 e2 : d.ep ≤ 100
 inv : ∀ i, i < k → Inv (ns i).T
 le : ∀ i, i < k → (ns i).e ≤ d.ep
 one : ∀ i j, i < k → j < k → (ns i).e = d.ep → (ns j).e = d.ep → i = j
 srv : ∀ i, i < k → (ns i).e = d.ep → (ns i).dn = false → Serves d.ep d.l (ns i).T
theorem Pl.order {d : Dk} {k : Nat} {ns : Nat → Nd} (h : Pl d k ns) {i : Nat} (hi : i < k) (o : Od) : Pl (wrD d (ns i) o 9) k (upN ns i (ordN d (ns i) o)) := by
 have hep : (wrD d (ns i) o 9).ep = d.ep := rfl
 refine ⟨h.e1, h.e2, fun j hj => ?_, fun j hj => ?_, fun a b ha hb h1 h2 => ?_, fun j hj h1 h2 => ?_⟩
 ·by_cases e : j = i
  ·subst e
   rw [upN_same]
   show Inv (if _ then _ else _)
   split
   ·exact (h.inv j hj).step o
   ·exact h.inv j hj
  ·rw [upN_other _ _ e]; exact h.inv j hj
 ·rw [hep]
  by_cases e : j = i
  ·subst e; rw [upN_same]; exact h.le j hj
  ·rw [upN_other _ _ e]; exact h.le j hj
 ·rw [hep] at h1 h2
  have q : ∀ c, c < k → (upN ns i (ordN d (ns i) o) c).e = d.ep → (ns c).e = d.ep := fun c _ hc => by
   by_cases e : c = i
   ·subst e; rw [upN_same] at hc; exact hc
   ·rw [upN_other _ _ e] at hc; exact hc
  exact h.one a b ha hb (q a ha h1) (q b hb h2)
 ·rw [hep] at h1 ⊢
  by_cases e : j = i
  ·subst e
   rw [upN_same] at h1 h2 ⊢
   obtain ⟨hd, he⟩ := dnx_false (d := d) (n := ns j) h2
   have hs := h.srv j hj he.symm hd
   by_cases hw : wrC d (ns j) o 9 = 0
   ·obtain ⟨_, _, hc, _⟩ := wr_zero hw
    rw [wrD_yes hw, (ord_yes hw).1, tornL_nine]
    exact hs.done h.e1 h.e2 hc
   ·rw [wrD_no hw, (ord_no hw).1]
    exact hs
  ·rw [upN_other _ _ e] at h1 h2 ⊢
   have hne : ¬ wrC d (ns i) o 9 = 0 := fun hw => e (h.one j i hj hi h1 (wr_zero hw).2.1.symm)
   rw [wrD_no hne]
   exact h.srv j hj h1 h2
theorem Pl.tear {d : Dk} {k : Nat} {ns : Nat → Nd} (h : Pl d k ns) {i : Nat} (hi : i < k) (o : Od) (keep : Int) : Pl (wrD d (ns i) o keep) k (upN ns i (tearN d (ns i) o keep)) := by
 have hep : (wrD d (ns i) o keep).ep = d.ep := rfl
 refine ⟨h.e1, h.e2, fun j hj => ?_, fun j hj => ?_, fun a b ha hb h1 h2 => ?_, fun j hj h1 h2 => ?_⟩
 ·by_cases e : j = i
  ·subst e
   rw [upN_same]
   exact h.inv j hj
  ·rw [upN_other _ _ e]; exact h.inv j hj
 ·rw [hep]
  by_cases e : j = i
  ·subst e; rw [upN_same]; exact h.le j hj
  ·rw [upN_other _ _ e]; exact h.le j hj
 ·rw [hep] at h1 h2
  have q : ∀ c, c < k → (upN ns i (tearN d (ns i) o keep) c).e = d.ep → (ns c).e = d.ep := fun c _ hc => by
   by_cases e : c = i
   ·subst e; rw [upN_same] at hc; exact hc
   ·rw [upN_other _ _ e] at hc; exact hc
  exact h.one a b ha hb (q a ha h1) (q b hb h2)
 ·rw [hep] at h1 ⊢
  by_cases e : j = i
  ·subst e
   rw [upN_same] at h1 h2 ⊢
   have h2' : (dnx d (ns j) || decide (wrC d (ns j) o keep = 0)) = false := h2
   rw [Bool.or_eq_false_iff] at h2'
   obtain ⟨hd, he⟩ := dnx_false h2'.1
   have hw : ¬ wrC d (ns j) o keep = 0 := by simpa using h2'.2
   rw [wrD_no hw]
   exact h.srv j hj he.symm hd
  ·rw [upN_other _ _ e] at h1 h2 ⊢
   have hne : ¬ wrC d (ns i) o keep = 0 := fun hw => e (h.one j i hj hi h1 (wr_zero hw).2.1.symm)
   rw [wrD_no hne]
   exact h.srv j hj h1 h2
theorem Pl.opens {d : Dk} {k : Nat} {ns : Nat → Nd} (h : Pl d k ns) (hok : okB d.l) (hlt : d.ep < 100) : Pl (openD d) (k + 1) (upN ns k (openN d)) := by
 have h1 := h.e1
 refine ⟨by show 1 ≤ d.ep + 1; omega, by show d.ep + 1 ≤ 100; omega, fun j hj => ?_, fun j hj => ?_, fun a b ha hb h1 h2 => ?_, fun j hj h1 h2 => ?_⟩
 ·by_cases e : j = k
  ·subst e; rw [upN_same]; exact behindT_inv _
  ·rw [upN_other _ _ e]; exact h.inv j (by omega)
 ·show _ ≤ d.ep + 1
  by_cases e : j = k
  ·subst e; rw [upN_same]; exact Int.le_refl _
  ·rw [upN_other _ _ e]; have := h.le j (by omega); omega
 ·have q : ∀ c, c < k + 1 → (upN ns k (openN d) c).e = d.ep + 1 → c = k := fun c hc he => by
   by_cases e : c = k
   ·exact e
   ·rw [upN_other _ _ e] at he; have := h.le c (by omega); omega
  rw [q a ha h1, q b hb h2]
 ·by_cases e : j = k
  ·subst e; rw [upN_same]; exact serves_open hok
  ·rw [upN_other _ _ e] at h1
   have h1' : (ns j).e = d.ep + 1 := h1
   have := h.le j (by omega); omega
end Go.Proofs.YtllnjiljjodfdacGreatDoor
