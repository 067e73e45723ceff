/-
  What a node writes to its disk. Nothing here is claimed by itself.
-/
import Derived.Test.YtllnjiljjodfdacGreatDoorMgO1
namespace Go.Proofs.YtllnjiljjodfdacGreatDoor
open Go.RowKit

/-- What stands while an order is tried. -/
def Wr (nb tb db base : Nat) (n : Nd) (d : Dk) (v : Value) (o : Od) (w W : World) : Prop :=
  Nod W nb tb db n ∧ Dsk 115 5 W base db d.ep v d.l ∧ Blk W w.heap.size #[.int .i64 o.k, .int .i64 o.now, .int .i64 o.jb, .int .i64 o.tr, .int .i64 o.wk, .int .i64 o.tm] 83 ∧ Chg [] w W
section
variable {nb tb db base : Nat} {n : Nd} {d : Dk} {v : Value} {o : Od} {w W : World}
theorem Wr.chg {W' : World} (h : Wr nb tb db base n d v o w W) (l1 : nb < w.heap.size) (l2 : tb < w.heap.size) (l3 : ∀ x ∈ fp db v, x < w.heap.size) {bs : List Nat} (k : Chg bs W W') (hb : ∀ x ∈ bs, w.heap.size < x) : Wr nb tb db base n d v o w W' :=
  ⟨h.1.chg k (fun hx => by have := hb _ hx; omega) (fun hx => by have := hb _ hx; omega), h.2.1.chg k (fun x hx hf => by have := hb _ hx; have := l3 _ hf; omega), h.2.2.1.chg k (fun hx => by have := hb _ hx; omega), h.2.2.2.trans k (fun x hx => .inr (by have := hb _ hx; omega))⟩
theorem wr_start (N : Nod w nb tb db n) (D : Dsk 115 5 w base db d.ep v d.l) : Wr nb tb db base n d v o w (w.alloc (.cells #[.int .i64 o.k, .int .i64 o.now, .int .i64 o.jb, .int .i64 o.tr, .int .i64 o.wk, .int .i64 o.tm] 83)) := ⟨N.alloc _, D.alloc _, Blk.new w _ _, (Chg.refl _ _).alloc _⟩
theorem Wr.drew (h : Wr nb tb db base n d v o w W) : Wr nb tb db base n d v o w W.drew := ⟨⟨h.1.1, h.1.2⟩, h.2.1.drew, h.2.2.1, h.2.2.2.drew⟩
theorem Wr.alloc (h : Wr nb tb db base n d v o w W) (x : Obj) : Wr nb tb db base n d v o w (W.alloc x) := ⟨h.1.alloc x, h.2.1.alloc x, h.2.2.1.alloc x, h.2.2.2.alloc x⟩
theorem Wr.size (h : Wr nb tb db base n d v o w W) : w.heap.size < W.heap.size := h.2.2.1.lt
theorem wr_yield {ops : Array Oper} {op : Oper} {a : Act} {x : Operand} (hw : Region.wanted op (yielded ops a.tmps) = true) (ho : op.op = .load 83 x) (hx : a.eval x = .pointer (some ⟨w.heap.size, 0, none⟩)) :
    YieldsIf Tryz.prog ops (Wr nb tb db base n d v o w) op (odV o) a :=
  yieldsIf_load_mid (P := Tryz.prog) hw 83 x ho w.heap.size 0 hx [.int .i64 o.k, .int .i64 o.now, .int .i64 o.jb, .int .i64 o.tr, .int .i64 o.wk, .int .i64 o.tm] _ (fun w' hw' j v hv => by rw [Nat.zero_add, hw'.2.2.1.cell]; simpa using hv) Tryz.underlying83 rfl (by rw [ordInfo]; rfl)
end

theorem nine_sl {w : World} {g : Nat} {r : Rc} {t : TypeId} (h : Blk w g #[.int .u8 (by9 r 0), .int .u8 (by9 r 1), .int .u8 (by9 r 2), .int .u8 (by9 r 3), .int .u8 (by9 r 4), .int .u8 (by9 r 5), .int .u8 (by9 r 6), .int .u8 (by9 r 7), .int .u8 (by9 r 8)] t) : Sl w (.slice (some ⟨g, 0, none⟩) 9 9) (nineL r) := by
  refine .inr ⟨⟨g, 0, none⟩, 9, rfl, Nat.le_refl _, fun j u hj => ?_⟩
  have hj9 : j < 9 := by
    rcases Nat.lt_or_ge j 9 with h1 | h1
    · exact h1
    · rw [List.getElem?_eq_none (by rw [nineL_len]; exact h1)] at hj; cases hj
  have e : ((⟨g, 0, none⟩ : Addr).add j) = ⟨g, j, none⟩ := by simp [Addr.add]; omega
  rw [e, h.cell]
  rw [nineL_at r hj9] at hj
  cases hj
  obtain rfl | rfl | rfl | rfl | rfl | rfl | rfl | rfl | rfl : j = 0 ∨ j = 1 ∨ j = 2 ∨ j = 3 ∨ j = 4 ∨ j = 5 ∨ j = 6 ∨ j = 7 ∨ j = 8 := by omega
  all_goals rfl

set_option maxRecDepth 100000 in
set_option maxHeartbeats 2000000 in
theorem nwr_down (nb tb db : Nat) (n : Nd) (o : Od) (keep : Int) (w : World) (N : Nod w nb tb db n) (hd : n.dn = true) :
    Calls Tryz.prog 141 #[.pointer (some ⟨nb, 0, none⟩), odV o, .int .i64 keep] w fun x w' => x = .returned (.int .i64 10) ∧ Chg [] w w' := by
  obtain ⟨c0, c1, c2, c3, lb, -⟩ := N.cells
  rw [hd] at c3
  clear N hd
  unfold odV
  go_enter Tryz.func141, Tryz.ntmps141
  go_wp2
  go_ret
  exact ⟨rfl, (Chg.refl _ _).alloc _⟩

set_option maxRecDepth 100000 in
set_option maxHeartbeats 2000000 in
theorem nwr_fenced (nb tb db base : Nat) (n : Nd) (d : Dk) (v : Value) (o : Od) (keep : Int) (w : World) (N : Nod w nb tb db n) (D : Dsk 115 5 w base db d.ep v d.l) (hd : n.dn = false) (he : ¬ d.ep = n.e) :
    Calls Tryz.prog 141 #[.pointer (some ⟨nb, 0, none⟩), odV o, .int .i64 keep] w fun x w' => x = .returned (.int .i64 9) ∧ Nod w' nb tb db (stopN n) ∧ Chg [nb] w w' := by
  obtain ⟨c0, c1, c2, c3, lb, -⟩ := N.cells
  rw [hd] at c3
  have hne : (d.ep != n.e) = true := by simpa using he
  have HS := hide (wr_start (o := o) N D).drew
  clear N D hd he
  unfold odV
  go_enter Tryz.func141, Tryz.ntmps141
  go_wp2_with fail
  obtain ⟨x0, x1, x2, x3, lx, -⟩ := (unhide HS).1.cells
  go_region_held3 (fun w' => w'.cell? ⟨nb, 1, none⟩ = some (.pointer (some ⟨db, 0, none⟩)) ∧ w'.cell? ⟨nb, 2, none⟩ = some (.int .i64 n.e)) (first | exact ⟨x1, x2⟩) (first | (go_at_call 31; refine (depoch_any db d.ep v d.l base _ (unhide HS).2.1).mono ?_; rintro e w' ⟨rfl, rfl⟩))
  go_wp2_with (go_at_call 113; refine (nstop_any nb tb db n _ (unhide HS).1).mono ?_; rintro e w2 ⟨rfl, N2, g2⟩)
  go_ret
  exact ⟨rfl, N2, ((unhide HS).2.2.2.wide (cs := [nb]) (by simp)).trans g2 (fun x hx => .inl hx)⟩

set_option maxRecDepth 100000 in
set_option maxHeartbeats 4000000 in
theorem nwr_go (nb tb db base : Nat) (n : Nd) (d : Dk) (v : Value) (o : Od) (keep : Int) (w : World) (N : Nod w nb tb db n) (D : Dsk 115 5 w base db d.ep v d.l) (hI : Inv n.T) (hbase : base ≤ w.heap.size) (e0 : 1 ≤ d.ep) (e1 : d.ep ≤ 100) (hnb : nb ∉ fp db v) (htb : tb ∉ fp db v) (hd : n.dn = false) (he : d.ep = n.e) :
    Calls Tryz.prog 141 #[.pointer (some ⟨nb, 0, none⟩), odV o, .int .i64 keep] w fun x w' =>
      ((doT n.T o).2.code ≠ 0 ∧ x = .returned (.int .i64 (doT n.T o).2.code) ∧ Chg [] w w') ∨
      ((doT n.T o).2.code = 0 ∧ 1500 < d.l.length + keepN keep ∧ x = .returned (.int .i64 8) ∧ ∃ v', Nod w' nb tb db n ∧ Dsk 115 5 w' base db d.ep v' d.l ∧ Chg (fp db v) w w' ∧ Nxt w v v') ∨
      ((doT n.T o).2.code = 0 ∧ ¬ 1500 < d.l.length + keepN keep ∧ x = .returned (.int .i64 0) ∧ ∃ v', Nod w' nb tb db n ∧ Dsk 115 5 w' base db d.ep v' (d.l ++ tornL d.ep o keep) ∧ Chg (fp db v) w w' ∧ Nxt w v v') := by
  obtain ⟨c0, c1, c2, c3, lb, -⟩ := N.cells
  rw [hd] at c3
  have ltb := N.2.lt
  have hne : (d.ep != n.e) = false := by simpa using he
  have HS := hide (wr_start (o := o) N D).drew
  have lf := hide D.fp_lt
  clear N D hd
  unfold odV
  go_enter Tryz.func141, Tryz.ntmps141
  go_wp2_with fail
  obtain ⟨x0, x1, x2, x3, lx, -⟩ := (unhide HS).1.cells
  go_region_held3 (fun w' => w'.cell? ⟨nb, 1, none⟩ = some (.pointer (some ⟨db, 0, none⟩)) ∧ w'.cell? ⟨nb, 2, none⟩ = some (.int .i64 n.e)) (first | exact ⟨x1, x2⟩) (first | (go_at_call 31; refine (depoch_any db d.ep v d.l base _ (unhide HS).2.1).mono ?_; rintro e w' ⟨rfl, rfl⟩))
  clear x0 x1 x2 x3 lx
  go_upto_region 6 with fail
  go_cut [7] from 26 to 32 (fun s7 wx => ∃ py : Nat, s7 = .pointer (some ⟨py, 0, none⟩) ∧ w.heap.size < py ∧ Blk wx py #[.int .i64 (doT n.T o).2.code, .int .i64 (doT n.T o).2.jb, .int .i64 (doT n.T o).2.tr] 95 ∧ Wr nb tb db base n d v o w wx)
  case first =>
    refine wp_region_noPanic ?_
    refine wp_region_held_drew (S := Wr nb tb db base n d v o w) (by kernel_rfl) (unhide HS).drew (fun hH => ?_)
    refine wpAnyH_take (i := 0) (v := ?_) rfl (by kernel_rfl) (by kernel_rfl) (by kernel_rfl) (fun _ _ _ h => h) (Or.inl ⟨by rfl, ?hzq1⟩) hH ?rzq1
    case hzq1 => (intro W' hSw; (try dsimp only at hSw); go_simp; try with_reducible rfl)
    walk_nrm
    refine wpAnyH_take (i := 1) (v := ?_) rfl (by kernel_rfl) (by kernel_rfl) (by kernel_rfl) (fun _ _ _ h => h) (Or.inl ⟨by rfl, ?hzq2⟩) hH ?rzq2
    case hzq2 => (intro W' hSw; (try dsimp only at hSw); go_simp; try with_reducible rfl)
    walk_nrm
    refine wpAnyH_take (i := 2) (v := ?_) rfl (by kernel_rfl) (by kernel_rfl) (by kernel_rfl) (fun _ _ _ h => h) (Or.inl ⟨by rfl, ?hzq3⟩) hH ?rzq3
    case hzq3 => (intro W' hSw; (try dsimp only at hSw); go_simp; try with_reducible rfl)
    walk_nrm
    refine wpAnyH_take (i := 3) (v := ?_) rfl (by kernel_rfl) (by kernel_rfl) (by kernel_rfl) (fun _ _ _ h => h) (Or.inl ⟨by rfl, ?hzq4⟩) hH ?rzq4
    case hzq4 => (intro W' hSw; (try dsimp only at hSw); obtain ⟨x0, x1, x2, x3, lx, -⟩ := hSw.1.cells; go_simp; try with_reducible rfl)
    walk_nrm
    refine wpAnyH_take (i := 5) (v := _) rfl (by kernel_rfl) (by kernel_rfl) (by kernel_rfl) (fun _ _ _ h => h) (wr_yield (by rfl) rfl rfl) hH ?_
    walk_nrm
    generalize hW0 : World.drew (World.drew _) = W0 at *
    clear hW0
    refine wpAnyH_ready (rs := [4, 7]) (by kernel_rfl) (by simp) ?_
    refine AllReadyH.cons rfl (fun K hK => ?_) (AllReadyH.cons rfl (fun K hK => ?_) AllReadyH.nil)
    · rw [if_pos (by rfl)]
      have zW := hH.size
      go_simp
      refine (own_any tb n.T _ hH.1.2).mono ?_
      rintro x w2 ⟨rfl, U, g2⟩
      refine hK.out _ _ (hH.chg lb ltb (unhide lf) g2 (by simp)) (fun hH2 => ?_)
      clear hK K
      walk_nrm
      have zU := U.lt
      clear hH
      have hH := hH2
      clear hH2
      clear g2
      refine wpAnyH_ready (rs := [6, 7]) (by kernel_rfl) (by simp) ?_
      refine AllReadyH.cons rfl (fun K hK => ?_) (AllReadyH.cons rfl (fun K hK => ?_) AllReadyH.nil)
      · rw [if_pos (by rfl)]
        go_simp
        refine (do_any W0.heap.size o n.T _ U hI.fit).mono ?_
        rintro x w3 ⟨rfl, U3, g3⟩
        refine hK.out _ _ (hH.chg lb ltb (unhide lf) g3 (by simp; omega)) (fun hH2 => ?_)
        clear hK K
        walk_nrm
        clear hH
        have hH := hH2
        clear hH2
        clear g3
        refine wpAnyH_ready (rs := [7]) (by kernel_rfl) (by simp) ?_
        refine AllReadyH.cons rfl (fun K hK => ?_) AllReadyH.nil
        rw [if_pos (by rfl)]
        have z7 := hH.size
        go_simp
        refine hK.out _ _ (hH.alloc _) (fun hH2 => ?_)
        clear hK K
        walk_nrm
        have Y := Blk.new w3 #[.int .i64 0, .int .i64 0, .int .i64 0] 95
        clear hH
        have hH := hH2
        clear hH2
        generalize hW4 : w3.alloc _ = W4 at *
        clear hW4
        refine wpAnyH_ready (rs := [8]) (by kernel_rfl) (by simp) ?_
        refine AllReadyH.cons rfl (fun K hK => ?_) AllReadyH.nil
        rw [if_pos (by rfl)]
        refine wp_store_ans rfl rfl rfl Y (fun w9 Y9 g9 => ?_)
        refine hK.out _ _ (hH.chg lb ltb (unhide lf) g9 (by simp; omega)) (fun hH9 => ?_)
        clear hK K
        walk_nrm
        refine wpAnyH_done (by kernel_rfl) ?_ _
        refine NoPanic.normal ?_
        go_wp2_with fail
        go_meet
        exact ⟨_, rfl, by omega, Y9, hH9⟩
      · rw [if_pos (by rfl)]
        have z7 := hH.size
        go_simp
        refine hK.out _ _ (hH.alloc _) (fun hH2 => ?_)
        clear hK K
        walk_nrm
        have Y := Blk.new w2 #[.int .i64 0, .int .i64 0, .int .i64 0] 95
        replace U := U.alloc (.cells #[.int .i64 0, .int .i64 0, .int .i64 0] 95)
        clear hH
        have hH := hH2
        clear hH2
        generalize hW4 : w2.alloc _ = W4 at *
        clear hW4
        refine wpAnyH_ready (rs := [6]) (by kernel_rfl) (by simp) ?_
        refine AllReadyH.cons rfl (fun K hK => ?_) AllReadyH.nil
        rw [if_pos (by rfl)]
        go_simp
        refine (do_any W0.heap.size o n.T _ U hI.fit).mono ?_
        rintro x w3 ⟨rfl, U3, g3⟩
        refine hK.out _ _ (hH.chg lb ltb (unhide lf) g3 (by simp; omega)) (fun hH2 => ?_)
        clear hK K
        walk_nrm
        replace Y := Y.chg g3 (by simp; omega)
        clear g3
        clear hH
        have hH := hH2
        clear hH2
        refine wpAnyH_ready (rs := [8]) (by kernel_rfl) (by simp) ?_
        refine AllReadyH.cons rfl (fun K hK => ?_) AllReadyH.nil
        rw [if_pos (by rfl)]
        refine wp_store_ans rfl rfl rfl Y (fun w9 Y9 g9 => ?_)
        refine hK.out _ _ (hH.chg lb ltb (unhide lf) g9 (by simp; omega)) (fun hH9 => ?_)
        clear hK K
        walk_nrm
        refine wpAnyH_done (by kernel_rfl) ?_ _
        refine NoPanic.normal ?_
        go_wp2_with fail
        go_meet
        exact ⟨_, rfl, by omega, Y9, hH9⟩
    · rw [if_pos (by rfl)]
      have z7 := hH.size
      go_simp
      refine hK.out _ _ (hH.alloc _) (fun hH2 => ?_)
      clear hK K
      walk_nrm
      have Y := Blk.new W0 #[.int .i64 0, .int .i64 0, .int .i64 0] 95
      clear hH
      have hH := hH2
      clear hH2
      generalize hW4 : W0.alloc _ = W4 at *
      clear hW4
      refine wpAnyH_ready (rs := [4]) (by kernel_rfl) (by simp) ?_
      refine AllReadyH.cons rfl (fun K hK => ?_) AllReadyH.nil
      rw [if_pos (by rfl)]
      have zW := hH.size
      go_simp
      refine (own_any tb n.T _ hH.1.2).mono ?_
      rintro x w2 ⟨rfl, U, g2⟩
      refine hK.out _ _ (hH.chg lb ltb (unhide lf) g2 (by simp)) (fun hH2 => ?_)
      clear hK K
      walk_nrm
      have zU := U.lt
      clear hH
      have hH := hH2
      clear hH2
      have lY4 := Y.lt
      replace Y := Y.chg g2 (by simp)
      clear g2
      refine wpAnyH_ready (rs := [6]) (by kernel_rfl) (by simp) ?_
      refine AllReadyH.cons rfl (fun K hK => ?_) AllReadyH.nil
      rw [if_pos (by rfl)]
      go_simp
      refine (do_any W4.heap.size o n.T _ U hI.fit).mono ?_
      rintro x w3 ⟨rfl, U3, g3⟩
      refine hK.out _ _ (hH.chg lb ltb (unhide lf) g3 (by simp; omega)) (fun hH2 => ?_)
      clear hK K
      walk_nrm
      replace Y := Y.chg g3 (by simp; omega)
      clear g3
      clear hH
      have hH := hH2
      clear hH2
      refine wpAnyH_ready (rs := [8]) (by kernel_rfl) (by simp) ?_
      refine AllReadyH.cons rfl (fun K hK => ?_) AllReadyH.nil
      rw [if_pos (by rfl)]
      refine wp_store_ans rfl rfl rfl Y (fun w9 Y9 g9 => ?_)
      refine hK.out _ _ (hH.chg lb ltb (unhide lf) g9 (by simp; omega)) (fun hH9 => ?_)
      clear hK K
      walk_nrm
      refine wpAnyH_done (by kernel_rfl) ?_ _
      refine NoPanic.normal ?_
      go_wp2_with fail
      go_meet
      exact ⟨_, rfl, by omega, Y9, hH9⟩
  case rest =>
    obtain ⟨py, rfl, hpy, Y, HW⟩ := hcut
    clear HS
    obtain ⟨y0, y1, y2, -, -, -⟩ := Y.three
    have ly := Y.lt
    by_cases hc : (doT n.T o).2.code = 0
    · have hcb : ((doT n.T o).2.code != 0) = false := by simpa using hc
      have HC := hide hc
      have CK : Hid (ckR ⟨n.e, o⟩ = 0) := hide (nine_ck (he ▸ e0) (he ▸ e1) hc)
      clear hc
      go_wp2_with fail
      refine wp_region_noPanic ?_
      refine wp_region_held_drew (S := Wr nb tb db base n d v o w) (by kernel_rfl) HW.drew (fun hH => ?_)
      clear HW
      refine wpAnyH_take (i := 0) (v := ?_) rfl (by kernel_rfl) (by kernel_rfl) (by kernel_rfl) (fun _ _ _ h => h) (Or.inl ⟨by rfl, ?hzq5⟩) hH ?rzq5
      case hzq5 => (intro W' hSw; (try dsimp only at hSw); go_simp; try with_reducible rfl)
      walk_nrm
      refine wpAnyH_take (i := 1) (v := ?_) rfl (by kernel_rfl) (by kernel_rfl) (by kernel_rfl) (fun _ _ _ h => h) (Or.inl ⟨by rfl, ?hzq6⟩) hH ?rzq6
      case hzq6 => (intro W' hSw; (try dsimp only at hSw); go_simp; try with_reducible rfl)
      walk_nrm
      refine wpAnyH_take (i := 2) (v := ?_) rfl (by kernel_rfl) (by kernel_rfl) (by kernel_rfl) (fun _ _ _ h => h) (Or.inl ⟨by rfl, ?hzq7⟩) hH ?rzq7
      case hzq7 => (intro W' hSw; (try dsimp only at hSw); go_simp; try with_reducible rfl)
      walk_nrm
      refine wpAnyH_take (i := 3) (v := ?_) rfl (by kernel_rfl) (by kernel_rfl) (by kernel_rfl) (fun _ _ _ h => h) (Or.inl ⟨by rfl, ?hzq8⟩) hH ?rzq8
      case hzq8 => (intro W' hSw; (try dsimp only at hSw); obtain ⟨x0, x1, x2, x3, lx, -⟩ := hSw.1.cells; go_simp; try with_reducible rfl)
      walk_nrm
      refine wpAnyH_take (i := 4) (v := _) rfl (by kernel_rfl) (by kernel_rfl) (by kernel_rfl) (fun _ _ _ h => h) (wr_yield (by rfl) rfl rfl) hH ?_
      walk_nrm
      unfold odV
      refine wpAnyH_take (i := 5) (v := ?_) rfl (by kernel_rfl) (by kernel_rfl) (by kernel_rfl) (fun _ _ _ h => h) (Or.inl ⟨by rfl, ?hzq9⟩) hH ?rzq9
      case hzq9 => (intro W' hSw; (try dsimp only at hSw); go_simp; try with_reducible rfl)
      walk_nrm
      generalize hW1 : World.drew wc = W1 at *
      clear hW1
      refine wpAnyH_ready (rs := [6]) (by kernel_rfl) (by simp) ?_
      refine AllReadyH.cons rfl (fun K hK => ?_) AllReadyH.nil
      rw [if_pos (by rfl)]
      go_simp
      refine (enc_both ⟨n.e, o⟩ _).mono ?_
      rintro x w2 ⟨v2, rfl, -, hv2, g2⟩
      rw [unhide CK]
      obtain ⟨g, rfl, hg, B2⟩ := hv2 (unhide CK)
      have zg := hH.size
      refine hK.out _ _ (hH.chg lb ltb (unhide lf) g2 (by simp)) (fun hH2 => ?_)
      clear hK K hv2 g2 hH
      have hH := hH2
      clear hH2
      walk_nrm
      refine wpAnyH_take (i := 7) (v := ?_) rfl (by kernel_rfl) (by kernel_rfl) (by kernel_rfl) (fun _ _ _ h => h) (Or.inl ⟨by rfl, ?hzq10⟩) hH ?rzq10
      case hzq10 => (intro W' hSw; (try dsimp only at hSw); go_simp; try with_reducible rfl)
      walk_nrm
      refine wpAnyH_take (i := 8) (v := ?_) rfl (by kernel_rfl) (by kernel_rfl) (by kernel_rfl) (fun _ _ _ h => h) (Or.inl ⟨by rfl, ?hzq11⟩) hH ?rzq11
      case hzq11 => (intro W' hSw; (try dsimp only at hSw); go_simp; try with_reducible rfl)
      walk_nrm
      refine wpAnyH_take (i := 9) (v := ?_) rfl (by kernel_rfl) (by kernel_rfl) (by kernel_rfl) (fun _ _ _ h => h) (Or.inl ⟨by rfl, ?hzq12⟩) hH ?rzq12
      case hzq12 => (intro W' hSw; (try dsimp only at hSw); go_simp; try with_reducible rfl)
      walk_nrm
      refine wpAnyH_take (i := 10) (v := ?_) rfl (by kernel_rfl) (by kernel_rfl) (by kernel_rfl) (fun _ _ _ h => h) (Or.inl ⟨by rfl, ?hzq13⟩) hH ?rzq13
      case hzq13 => (intro W' hSw; (try dsimp only at hSw); go_simp; try with_reducible rfl)
      walk_nrm
      refine wpAnyH_take (i := 11) (v := ?_) rfl (by kernel_rfl) (by kernel_rfl) (by kernel_rfl) (fun _ _ _ h => h) (Or.inl ⟨by rfl, ?hzq14⟩) hH ?rzq14
      case hzq14 => (intro W' hSw; (try dsimp only at hSw); go_simp; try with_reducible rfl)
      walk_nrm
      refine wpAnyH_done (by kernel_rfl) ?_ _
      refine NoPanic.normal ?_
      go_wp2_with fail
      refine wp_region_noPanic ?_
      refine wp_region_held_drew (S := fun W => Nod W nb tb db n) (by kernel_rfl) hH.drew.1 (fun hN => ?_)
      have HW2 := hH.drew
      have B3 : Blk w2.drew g _ _ := B2
      clear hH B2
      have hH := hN
      clear hN
      refine wpAnyH_take (i := 0) (v := ?_) rfl (by kernel_rfl) (by kernel_rfl) (by kernel_rfl) (fun _ _ _ h => h) (Or.inl ⟨by rfl, ?hzq15⟩) hH ?rzq15
      case hzq15 => (intro W' hSw; (try dsimp only at hSw); go_simp; try with_reducible rfl)
      walk_nrm
      refine wpAnyH_take (i := 1) (v := ?_) rfl (by kernel_rfl) (by kernel_rfl) (by kernel_rfl) (fun _ _ _ h => h) (Or.inl ⟨by rfl, ?hzq16⟩) hH ?rzq16
      case hzq16 => (intro W' hSw; (try dsimp only at hSw); go_simp; try with_reducible rfl)
      walk_nrm
      refine wpAnyH_take (i := 2) (v := ?_) rfl (by kernel_rfl) (by kernel_rfl) (by kernel_rfl) (fun _ _ _ h => h) (Or.inl ⟨by rfl, ?hzq17⟩) hH ?rzq17
      case hzq17 => (intro W' hSw; (try dsimp only at hSw); go_simp; try with_reducible rfl)
      walk_nrm
      refine wpAnyH_take (i := 3) (v := ?_) rfl (by kernel_rfl) (by kernel_rfl) (by kernel_rfl) (fun _ _ _ h => h) (Or.inl ⟨by rfl, ?hzq18⟩) hH ?rzq18
      case hzq18 => (intro W' hSw; (try dsimp only at hSw); obtain ⟨x0, x1, x2, x3, lx, -⟩ := hSw.cells; go_simp; try with_reducible rfl)
      walk_nrm
      refine wpAnyH_take (i := 4) (v := ?_) rfl (by kernel_rfl) (by kernel_rfl) (by kernel_rfl) (fun _ _ _ h => h) (Or.inl ⟨by rfl, ?hzq19⟩) hH ?rzq19
      case hzq19 => (intro W' hSw; (try dsimp only at hSw); go_simp; try with_reducible rfl)
      walk_nrm
      refine wpAnyH_take (i := 5) (v := ?_) rfl (by kernel_rfl) (by kernel_rfl) (by kernel_rfl) (fun _ _ _ h => h) (Or.inl ⟨by rfl, ?hzq20⟩) hH ?rzq20
      case hzq20 => (intro W' hSw; (try dsimp only at hSw); go_simp; try with_reducible rfl)
      walk_nrm
      refine wpAnyH_take (i := 6) (v := ?_) rfl (by kernel_rfl) (by kernel_rfl) (by kernel_rfl) (fun _ _ _ h => h) (Or.inl ⟨by rfl, ?hzq21⟩) hH ?rzq21
      case hzq21 => (intro W' hSw; (try dsimp only at hSw); go_simp; try with_reducible rfl)
      walk_nrm
      refine wpAnyH_take (i := 7) (v := ?_) rfl (by kernel_rfl) (by kernel_rfl) (by kernel_rfl) (fun _ _ _ h => h) (Or.inl ⟨by rfl, ?hzq22⟩) hH ?rzq22
      case hzq22 => (intro W' hSw; (try dsimp only at hSw); obtain ⟨x0, x1, x2, x3, lx, -⟩ := hSw.cells; go_simp; try with_reducible rfl)
      walk_nrm
      refine wpAnyH_take (i := 8) (v := ?_) rfl (by kernel_rfl) (by kernel_rfl) (by kernel_rfl) (fun _ _ _ h => h) (Or.inl ⟨by rfl, ?hzq23⟩) hH ?rzq23
      case hzq23 => (intro W' hSw; (try dsimp only at hSw); go_simp; try with_reducible rfl)
      walk_nrm
      refine wpAnyH_take (i := 9) (v := ?_) rfl (by kernel_rfl) (by kernel_rfl) (by kernel_rfl) (fun _ _ _ h => h) (Or.inl ⟨by rfl, ?hzq24⟩) hH ?rzq24
      case hzq24 => (intro W' hSw; (try dsimp only at hSw); go_simp; try with_reducible rfl)
      walk_nrm
      refine wpAnyH_take (i := 10) (v := ?_) rfl (by kernel_rfl) (by kernel_rfl) (by kernel_rfl) (fun _ _ _ h => h) (Or.inl ⟨by rfl, ?hzq25⟩) hH ?rzq25
      case hzq25 => (intro W' hSw; (try dsimp only at hSw); go_simp; try with_reducible rfl)
      walk_nrm
      obtain ⟨mx, hmx⟩ : ∃ mx, mx = (if keep < 0 then (0 : Int) else keep) := ⟨_, rfl⟩
      rw [← hmx]
      have HMX := hide hmx
      clear hmx
      refine wpAnyH_take (i := 11) (v := ?_) rfl (by kernel_rfl) (by kernel_rfl) (by kernel_rfl) (fun _ _ _ h => h) (Or.inl ⟨by rfl, ?hzq26⟩) hH ?rzq26
      case hzq26 => (intro W' hSw; (try dsimp only at hSw); go_simp; try with_reducible rfl)
      walk_nrm
      refine wpAnyH_take (i := 12) (v := ?_) rfl (by kernel_rfl) (by kernel_rfl) (by kernel_rfl) (fun _ _ _ h => h) (Or.inl ⟨by rfl, ?hzq27⟩) hH ?rzq27
      case hzq27 => (intro W' hSw; (try dsimp only at hSw); go_simp; try with_reducible rfl)
      walk_nrm
      refine wpAnyH_take (i := 13) (v := ?_) rfl (by kernel_rfl) (by kernel_rfl) (by kernel_rfl) (fun _ _ _ h => h) (Or.inl ⟨by rfl, ?hzq28⟩) hH ?rzq28
      case hzq28 => (intro W' hSw; (try dsimp only at hSw); go_simp; try with_reducible rfl)
      walk_nrm
      have hkm : (if (9 : Int) < mx then 9 else mx) = ((keepN keep : Nat) : Int) := by
        rw [unhide HMX]
        unfold keepN
        split <;> split <;> (try split) <;> omega
      rw [hkm]
      clear hkm
      obtain ⟨km, hkm⟩ : ∃ km, km = keepN keep := ⟨_, rfl⟩
      have hk9 : km ≤ 9 := by rw [hkm]; exact keepN_le keep
      have SL : Sl w2.drew (.slice (some ⟨g, 0, none⟩) km 9) (tornL n.e o keep) := by unfold tornL; rw [← hkm]; exact Sl.take (nineL_len _) (nine_sl B3) (by rw [nineL_len]; exact hk9) 9 hk9
      have OKT : okB (tornL n.e o keep) := tornL_ok (he ▸ e0) (he ▸ e1) (unhide HC) keep
      have D3 : Dsk 115 5 w2.drew base db n.e v d.l := he ▸ HW2.2.1
      rw [← hkm]
      have HKM := hide hkm
      clear hkm
      have hki0 : (0 : Int) ≤ (km : Int) := by omega
      have hki9 : (km : Int) ≤ 9 := by omega
      refine wpAnyH_take (i := 14) (v := ?_) rfl (by kernel_rfl) (by kernel_rfl) (by kernel_rfl) (fun _ _ _ h => h) (Or.inl ⟨by rfl, ?hzq29⟩) hH ?rzq29
      case hzq29 => (intro W' hSw; (try dsimp only at hSw); go_simp; try with_reducible rfl)
      walk_nrm
      by_cases hfl : 1500 < d.l.length + km
      · refine wpAnyH_ready (rs := [15]) (by kernel_rfl) (by simp) ?_
        refine AllReadyH.cons rfl (fun K hK => ?_) AllReadyH.nil
        rw [if_pos (by rfl)]
        go_simp
        refine (dapp_full db n.e v d.l base _ (tornL n.e o keep) _ D3 (he ▸ e0) SL OKT (Nat.le_trans hbase HW2.2.2.2.size) (by rw [tornL_len, ← unhide HKM]; omega)).mono ?_
        rintro x w4 ⟨rfl, v4, D4, g4, n4⟩
        have N4 := HW2.1.chg g4 hnb htb
        have G4 : Chg (fp db v) w w4 := (HW2.2.2.2.wide (cs := fp db v) (by simp)).trans g4 (fun x hx => .inl hx)
        have n4' := n4.mono HW2.2.2.2.size
        refine hK.out _ _ N4 (fun hH2 => ?_)
        clear hK K g4 n4 hH
        have hH := hH2
        clear hH2
        walk_nrm
        refine wpAnyH_take (i := 16) (v := ?_) rfl (by kernel_rfl) (by kernel_rfl) (by kernel_rfl) (fun _ _ _ h => h) (Or.inl ⟨by rfl, ?hzq30⟩) hH ?rzq30
        case hzq30 => (intro W' hSw; (try dsimp only at hSw); go_simp; try with_reducible rfl)
        walk_nrm
        refine wpAnyH_done (by kernel_rfl) ?_ _
        refine NoPanic.normal ?_
        rw [← he] at D4
        have HE := hide he
        clear he hne
        go_wp2
        go_ret
        first
          | exact .inr (.inl ⟨unhide HC, by rw [← unhide HKM]; exact hfl, rfl, v4, N4, D4, G4, n4'⟩)
          | exact .inr (.inl ⟨unhide HC, by rw [← unhide HKM]; exact hfl, rfl, N4, v4, D4, G4, n4'⟩)
      · refine wpAnyH_ready (rs := [15]) (by kernel_rfl) (by simp) ?_
        refine AllReadyH.cons rfl (fun K hK => ?_) AllReadyH.nil
        rw [if_pos (by rfl)]
        go_simp
        refine (dapp_yes db n.e v d.l base _ (tornL n.e o keep) _ D3 (he ▸ e0) SL OKT (Nat.le_trans hbase HW2.2.2.2.size) (by rw [tornL_len, ← unhide HKM]; omega)).mono ?_
        rintro x w4 ⟨rfl, v4, D4, g4, n4⟩
        have N4 := HW2.1.chg g4 hnb htb
        have G4 : Chg (fp db v) w w4 := (HW2.2.2.2.wide (cs := fp db v) (by simp)).trans g4 (fun x hx => .inl hx)
        have n4' := n4.mono HW2.2.2.2.size
        refine hK.out _ _ N4 (fun hH2 => ?_)
        clear hK K g4 n4 hH
        have hH := hH2
        clear hH2
        walk_nrm
        refine wpAnyH_take (i := 16) (v := ?_) rfl (by kernel_rfl) (by kernel_rfl) (by kernel_rfl) (fun _ _ _ h => h) (Or.inl ⟨by rfl, ?hzq31⟩) hH ?rzq31
        case hzq31 => (intro W' hSw; (try dsimp only at hSw); go_simp; try with_reducible rfl)
        walk_nrm
        refine wpAnyH_done (by kernel_rfl) ?_ _
        refine NoPanic.normal ?_
        rw [← he] at D4
        have HE := hide he
        clear he hne
        go_wp2
        go_ret
        first
          | exact .inr (.inr ⟨unhide HC, by rw [← unhide HKM]; exact hfl, rfl, v4, N4, by rw [unhide HE]; rw [unhide HE] at D4; exact D4, G4, n4'⟩)
          | exact .inr (.inr ⟨unhide HC, by rw [← unhide HKM]; exact hfl, rfl, N4, v4, by rw [unhide HE]; rw [unhide HE] at D4; exact D4, G4, n4'⟩)
    · have hcb : ((doT n.T o).2.code != 0) = true := by simpa using hc
      have HC := hide hc
      clear hc
      go_wp2
      go_ret
      exact .inl ⟨unhide HC, rfl, HW.2.2.2⟩

end Go.Proofs.YtllnjiljjodfdacGreatDoor

