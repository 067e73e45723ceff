/-
 The document's own node is ordered. Nothing here is claimed by itself.
-/
import Derived.Test.YtllnjiljjodfdacGreatDoorQgN2
namespace Go.Proofs.YtllnjiljjodfdacGreatDoor
open Go.RowKit

set_option maxRecDepth 100000 in
set_option maxHeartbeats 4000000 in
theorem vord_go {tp : TypeId} {rest : Array Value} (b : Nat) (T : Tb) (pp : Nat) (ep : Int) (u : Value) (l : List Int) (o : Od) (keep : Int) (w : World) (V : Vgr 106 w b T pp ep false) (P : Plt tp rest w pp ep u l) (hbp : b ∉ fp pp u) (hI : Inv T) (e0 : 1 ≤ ep) (e1 : ep ≤ 100) :
  Calls Tryz.prog 67 #[.pointer (some ⟨b, 0, none⟩), odV o, .int .i64 keep] w fun x w' =>
   ((doT T o).2.code ≠ 0 ∧ x = .returned (ansV (doT T o).2) ∧ Chg [] w w') ∨
   ((doT T o).2.code = 0 ∧ 1500 < l.length + keepN keep ∧ x = .returned (ansV ⟨8, 0, 0⟩) ∧ ∃ u', Vgr 106 w' b T pp ep false ∧ Plt tp rest w' pp ep u' l ∧ Chg [b, pp] w w' ∧ Pnx w u u') ∨
   ((doT T o).2.code = 0 ∧ ¬ 1500 < l.length + keepN keep ∧ x = .returned (ansV (doT T o).2) ∧ ∃ u', Vgr 106 w' b (doT T o).1 pp ep false ∧ Plt tp rest w' pp ep u' (l ++ tornL ep o keep) ∧ Chg [b, pp] w w' ∧ Pnx w u u') := by
 obtain ⟨t0, t1, t2, tf, lb⟩ := V.tail
 obtain ⟨y0, -, ly, -, -⟩ := P.cells
 have hb : (ep != ep) = false := by simp
 have HV := hide V
 have HP := hide P
 clear V P
 unfold odV
 go_enter Tryz.func67, Tryz.ntmps67
 go_wp2_with fail
 go_quiet (fail)
 go_upto_region 6 with fail
 go_cut [7, 8] from 32 to 40 (fun s7 s8 wx => ∃ p7 p8 : Nat, s7 = .pointer (some ⟨p7, 0, none⟩) ∧ s8 = .pointer (some ⟨p8, 0, none⟩) ∧ w.heap.size + 1 < p7 ∧ w.heap.size + 1 < p8 ∧ p7 ≠ p8 ∧ Has 103 wx p7 (doT T o).1 ∧ Blk wx p8 #[.int .i64 (doT T o).2.code, .int .i64 (doT T o).2.jb, .int .i64 (doT T o).2.tr] 95 ∧ Vgr 106 wx b T pp ep false ∧ Plt tp rest wx pp ep u l ∧ Blk wx w.heap.size #[.int .i64 o.k, .int .i64 o.now, .int .i64 o.jb, .int .i64 o.tr, .int .i64 o.wk, .int .i64 o.tm] 83 ∧ Blk wx (w.heap.size + 1) #[.int .i64 0, .int .i64 0, .int .i64 0] 95 ∧ Chg [] w wx)
 case first =>
  have hS0 : Rdv b T pp ep false w.heap.size #[.int .i64 o.k, .int .i64 o.now, .int .i64 o.jb, .int .i64 o.tr, .int .i64 o.wk, .int .i64 o.tm] 83 (((w.alloc (.cells #[.int .i64 o.k, .int .i64 o.now, .int .i64 o.jb, .int .i64 o.tr, .int .i64 o.wk, .int .i64 o.tm] 83)).alloc (.cells #[.int .i64 0, .int .i64 0, .int .i64 0] 95)).drewN nq) := ⟨((unhide HV).alloc _).alloc _, (Blk.new w _ _).alloc _⟩
  have R : Blk (((w.alloc (.cells #[.int .i64 o.k, .int .i64 o.now, .int .i64 o.jb, .int .i64 o.tr, .int .i64 o.wk, .int .i64 o.tm] 83)).alloc (.cells #[.int .i64 0, .int .i64 0, .int .i64 0] 95)).drewN nq).drew (w.heap.size + 1) #[.int .i64 0, .int .i64 0, .int .i64 0] 95 := Blk.new1 w _ _ _
  have G : Chg [] w (((w.alloc (.cells #[.int .i64 o.k, .int .i64 o.now, .int .i64 o.jb, .int .i64 o.tr, .int .i64 o.wk, .int .i64 o.tm] 83)).alloc (.cells #[.int .i64 0, .int .i64 0, .int .i64 0] 95)).drewN nq).drew := ((((Chg.refl _ _).alloc _).alloc _).drewN nq).drew
  have P : Plt tp rest (((w.alloc (.cells #[.int .i64 o.k, .int .i64 o.now, .int .i64 o.jb, .int .i64 o.tr, .int .i64 o.wk, .int .i64 o.tm] 83)).alloc (.cells #[.int .i64 0, .int .i64 0, .int .i64 0] 95)).drewN nq).drew pp ep u l := (unhide HP).chg G (by simp)
  have hlP := (unhide HP).fp_lt
  refine wp_region_noPanic ?_
  refine wp_region_held_drew (S := Rdv b T pp ep false w.heap.size #[.int .i64 o.k, .int .i64 o.now, .int .i64 o.jb, .int .i64 o.tr, .int .i64 o.wk, .int .i64 o.tm] 83) (by kernel_rfl) hS0 (fun hH => ?_)
  clear hS0
  refine wpAnyH_take (i := 0) (v := ?_) rfl (by kernel_rfl) (by kernel_rfl) (by kernel_rfl) (fun _ _ _ h => h) (Or.inl ⟨by rfl, ?hz1⟩) hH ?rz1
  case hz1 => (intro W' hSw; go_simp; try with_reducible rfl)
  walk_nrm
  refine wpAnyH_take (i := 1) (v := ?_) rfl (by kernel_rfl) (by kernel_rfl) (by kernel_rfl) (fun _ _ _ h => h) (Or.inl ⟨by rfl, ?hz2⟩) hH ?rz2
  case hz2 => (intro W' hSw; go_simp; try with_reducible rfl)
  walk_nrm
  refine wpAnyH_take (i := 2) (v := ?_) rfl (by kernel_rfl) (by kernel_rfl) (by kernel_rfl) (fun _ _ _ h => h) (Or.inl ⟨by rfl, ?hz3⟩) hH ?rz3
  case hz3 => (intro W' hSw; go_simp; try with_reducible rfl)
  walk_nrm
  refine wpAnyH_take (i := 3) (v := _) rfl (by kernel_rfl) (by kernel_rfl) (by kernel_rfl) (fun _ _ _ h => h) (rdv_yield1 (by rfl) rfl rfl) hH ?_
  walk_nrm
  refine wpAnyH_take (i := 4) (v := _) rfl (by kernel_rfl) (by kernel_rfl) (by kernel_rfl) (fun _ _ _ h => h) (rdv_yield2 (by rfl) rfl rfl) hH ?_
  walk_nrm
  generalize hW0 : World.drew _ = W0 at *
  clear hW0
  refine wpAnyH_ready (rs := [5, 9, 10]) (by kernel_rfl) (by simp) ?_
  refine AllReadyH.cons rfl (fun K hK => ?_) ?_
  ·rw [if_pos (by rfl)]
   go_simp
   refine (did_any T o _ hI).mono ?_
   rintro x w2 ⟨rfl, g2⟩
   refine hK.out _ _ ⟨hH.1.chg g2 (by simp), hH.2.chg g2 (by simp)⟩ (fun hH2 => ?_)
   clear hK K
   walk_nrm
   replace G := G.trans g2 (by simp)
   replace P := P.chg g2 (by simp)
   replace R := R.chg g2 (by simp)
   clear hH g2
   have hH := hH2
   clear hH2
   refine wpAnyH_take (i := 6) (v := ?_) rfl (by kernel_rfl) (by kernel_rfl) (by kernel_rfl) (fun _ _ _ h => h) (Or.inl ⟨by rfl, ?hz4⟩) hH ?rz4
   case hz4 => (intro W' hSw; go_simp; try with_reducible rfl)
   walk_nrm
   refine wpAnyH_take (i := 7) (v := ?_) rfl (by kernel_rfl) (by kernel_rfl) (by kernel_rfl) (fun _ _ _ h => h) (Or.inl ⟨by rfl, ?hz5⟩) hH ?rz5
   case hz5 => (intro W' hSw; go_simp; try with_reducible rfl)
   walk_nrm
   refine wpAnyH_take (i := 8) (v := ?_) rfl (by kernel_rfl) (by kernel_rfl) (by kernel_rfl) (fun _ _ _ h => h) (Or.inl ⟨by rfl, ?hz6⟩) hH ?rz6
   case hz6 => (intro W' hSw; go_simp; try with_reducible rfl)
   walk_nrm
   refine wpAnyH_ready (rs := [9, 10]) (by kernel_rfl) (by simp) ?_
   refine AllReadyH.cons rfl (fun K hK => ?_) ?_
   ·rw [if_pos (by rfl)]
    have z9 := R.lt
    go_simp
    refine hK.out _ _ ⟨hH.1.alloc _, hH.2.alloc _⟩ (fun hH2 => ?_)
    clear hK K
    walk_nrm
    replace G := G.alloc (.cells #[.int .i64 0, .int .i64 0, .int .i64 0, .int .i64 0, .int .i64 0, .int .i64 0, .int .i64 0, .int .i64 0, .int .i64 0, .int .i64 0, .int .i64 0, .int .i64 0, .int .i64 0, .int .i64 0, .int .i64 0, .int .i64 0, .int .i64 0, .int .i64 0, .int .i64 0, .int .i64 0, .int .i64 0, .int .i64 0, .int .i64 0, .int .i64 0, .int .i64 0] 103)
    replace P := P.alloc (.cells #[.int .i64 0, .int .i64 0, .int .i64 0, .int .i64 0, .int .i64 0, .int .i64 0, .int .i64 0, .int .i64 0, .int .i64 0, .int .i64 0, .int .i64 0, .int .i64 0, .int .i64 0, .int .i64 0, .int .i64 0, .int .i64 0, .int .i64 0, .int .i64 0, .int .i64 0, .int .i64 0, .int .i64 0, .int .i64 0, .int .i64 0, .int .i64 0, .int .i64 0] 103)
    replace R := R.alloc (.cells #[.int .i64 0, .int .i64 0, .int .i64 0, .int .i64 0, .int .i64 0, .int .i64 0, .int .i64 0, .int .i64 0, .int .i64 0, .int .i64 0, .int .i64 0, .int .i64 0, .int .i64 0, .int .i64 0, .int .i64 0, .int .i64 0, .int .i64 0, .int .i64 0, .int .i64 0, .int .i64 0, .int .i64 0, .int .i64 0, .int .i64 0, .int .i64 0, .int .i64 0] 103)
    have X0 := Blk.new w2 #[.int .i64 0, .int .i64 0, .int .i64 0, .int .i64 0, .int .i64 0, .int .i64 0, .int .i64 0, .int .i64 0, .int .i64 0, .int .i64 0, .int .i64 0, .int .i64 0, .int .i64 0, .int .i64 0, .int .i64 0, .int .i64 0, .int .i64 0, .int .i64 0, .int .i64 0, .int .i64 0, .int .i64 0, .int .i64 0, .int .i64 0, .int .i64 0, .int .i64 0] 103
    have X : Has 103 (w2.alloc (.cells #[.int .i64 0, .int .i64 0, .int .i64 0, .int .i64 0, .int .i64 0, .int .i64 0, .int .i64 0, .int .i64 0, .int .i64 0, .int .i64 0, .int .i64 0, .int .i64 0, .int .i64 0, .int .i64 0, .int .i64 0, .int .i64 0, .int .i64 0, .int .i64 0, .int .i64 0, .int .i64 0, .int .i64 0, .int .i64 0, .int .i64 0, .int .i64 0, .int .i64 0] 103)) w2.heap.size T0 := X0
    clear X0
    clear hH
    have hH := hH2
    clear hH2
    generalize hW2 : w2.alloc _ = W2 at *
    clear hW2
    refine wpAnyH_ready (rs := [10]) (by kernel_rfl) (by simp) ?_
    refine AllReadyH.cons rfl (fun K hK => ?_) ?_
    ·rw [if_pos (by rfl)]
     have z10 := R.lt
     go_simp
     refine hK.out _ _ ⟨hH.1.alloc _, hH.2.alloc _⟩ (fun hH2 => ?_)
     clear hK K
     walk_nrm
     replace G := G.alloc (.cells #[.int .i64 0, .int .i64 0, .int .i64 0] 95)
     replace P := P.alloc (.cells #[.int .i64 0, .int .i64 0, .int .i64 0] 95)
     replace R := R.alloc (.cells #[.int .i64 0, .int .i64 0, .int .i64 0] 95)
     replace X := X.alloc (.cells #[.int .i64 0, .int .i64 0, .int .i64 0] 95)
     have Y := Blk.new W2 #[.int .i64 0, .int .i64 0, .int .i64 0] 95
     clear hH
     have hH := hH2
     clear hH2
     generalize hW3 : W2.alloc _ = W3 at *
     clear hW3
     have n1 := zed_ne (by decide) ⟨_, X⟩ ⟨_, _, _, Y⟩
     have n2 := zed_ne (by decide) ⟨_, X⟩ ⟨_, _, _, R⟩
     have lP := P.fp_lt
     have gW := G.size
     refine rd 11 rfl (fun K hK => ?_)
     refine wp_store_tab rfl rfl rfl X (fun w8 X8 g8 => ?_)
     refine hK.out _ _ ⟨hH.1.chg g8 (by simp; omega), hH.2.chg g8 (by simp; omega)⟩ (fun hH8 => ?_)
     clear hK K
     walk_nrm
     replace Y := Y.chg g8 (by simpa using n1.symm)
     replace R := R.chg g8 (by simpa using n2.symm)
     replace P := P.chg g8 (by intro x hx hf; simp at hx; have := hlP x hf; omega)
     replace G := G.trans g8 (by simp; omega)
     clear hH X g8
     refine rd 12 rfl (fun K hK => ?_)
     refine wp_store_ans rfl rfl rfl Y (fun w9 Y9 g9 => ?_)
     refine hK.out _ _ ⟨hH8.1.chg g9 (by simp; omega), hH8.2.chg g9 (by simp; omega)⟩ (fun hH9 => ?_)
     clear hK K
     walk_nrm
     have X9 := X8.chg g9 (by simpa using n1)
     have R9 := R.chg g9 (by simp; omega)
     have P9 := P.chg g9 (by intro x hx hf; simp at hx; have := hlP x hf; omega)
     have G9 := G.trans g9 (by simp; omega)
     refine wpAnyH_done (by kernel_rfl) ?_ _
     refine NoPanic.normal ?_
     go_wp2_with fail
     go_meet
     exact ⟨w2.heap.size, W2.heap.size, rfl, rfl, by omega, by omega, n1, X9, Y9, hH9.1, P9, hH9.2, R9, G9⟩
    exact AllReadyH.nil
   refine AllReadyH.cons rfl (fun K hK => ?_) ?_
   ·rw [if_pos (by rfl)]
    have z10 := R.lt
    go_simp
    refine hK.out _ _ ⟨hH.1.alloc _, hH.2.alloc _⟩ (fun hH2 => ?_)
    clear hK K
    walk_nrm
    replace G := G.alloc (.cells #[.int .i64 0, .int .i64 0, .int .i64 0] 95)
    replace P := P.alloc (.cells #[.int .i64 0, .int .i64 0, .int .i64 0] 95)
    replace R := R.alloc (.cells #[.int .i64 0, .int .i64 0, .int .i64 0] 95)
    have Y := Blk.new w2 #[.int .i64 0, .int .i64 0, .int .i64 0] 95
    clear hH
    have hH := hH2
    clear hH2
    generalize hW4 : w2.alloc _ = W4 at *
    clear hW4
    refine wpAnyH_ready (rs := [9]) (by kernel_rfl) (by simp) ?_
    refine AllReadyH.cons rfl (fun K hK => ?_) ?_
    ·rw [if_pos (by rfl)]
     have z9 := R.lt
     go_simp
     refine hK.out _ _ ⟨hH.1.alloc _, hH.2.alloc _⟩ (fun hH2 => ?_)
     clear hK K
     walk_nrm
     replace G := G.alloc (.cells #[.int .i64 0, .int .i64 0, .int .i64 0, .int .i64 0, .int .i64 0, .int .i64 0, .int .i64 0, .int .i64 0, .int .i64 0, .int .i64 0, .int .i64 0, .int .i64 0, .int .i64 0, .int .i64 0, .int .i64 0, .int .i64 0, .int .i64 0, .int .i64 0, .int .i64 0, .int .i64 0, .int .i64 0, .int .i64 0, .int .i64 0, .int .i64 0, .int .i64 0] 103)
     replace P := P.alloc (.cells #[.int .i64 0, .int .i64 0, .int .i64 0, .int .i64 0, .int .i64 0, .int .i64 0, .int .i64 0, .int .i64 0, .int .i64 0, .int .i64 0, .int .i64 0, .int .i64 0, .int .i64 0, .int .i64 0, .int .i64 0, .int .i64 0, .int .i64 0, .int .i64 0, .int .i64 0, .int .i64 0, .int .i64 0, .int .i64 0, .int .i64 0, .int .i64 0, .int .i64 0] 103)
     replace R := R.alloc (.cells #[.int .i64 0, .int .i64 0, .int .i64 0, .int .i64 0, .int .i64 0, .int .i64 0, .int .i64 0, .int .i64 0, .int .i64 0, .int .i64 0, .int .i64 0, .int .i64 0, .int .i64 0, .int .i64 0, .int .i64 0, .int .i64 0, .int .i64 0, .int .i64 0, .int .i64 0, .int .i64 0, .int .i64 0, .int .i64 0, .int .i64 0, .int .i64 0, .int .i64 0] 103)
     replace Y := Y.alloc (.cells #[.int .i64 0, .int .i64 0, .int .i64 0, .int .i64 0, .int .i64 0, .int .i64 0, .int .i64 0, .int .i64 0, .int .i64 0, .int .i64 0, .int .i64 0, .int .i64 0, .int .i64 0, .int .i64 0, .int .i64 0, .int .i64 0, .int .i64 0, .int .i64 0, .int .i64 0, .int .i64 0, .int .i64 0, .int .i64 0, .int .i64 0, .int .i64 0, .int .i64 0] 103)
     have X0 := Blk.new W4 #[.int .i64 0, .int .i64 0, .int .i64 0, .int .i64 0, .int .i64 0, .int .i64 0, .int .i64 0, .int .i64 0, .int .i64 0, .int .i64 0, .int .i64 0, .int .i64 0, .int .i64 0, .int .i64 0, .int .i64 0, .int .i64 0, .int .i64 0, .int .i64 0, .int .i64 0, .int .i64 0, .int .i64 0, .int .i64 0, .int .i64 0, .int .i64 0, .int .i64 0] 103
     have X : Has 103 (W4.alloc (.cells #[.int .i64 0, .int .i64 0, .int .i64 0, .int .i64 0, .int .i64 0, .int .i64 0, .int .i64 0, .int .i64 0, .int .i64 0, .int .i64 0, .int .i64 0, .int .i64 0, .int .i64 0, .int .i64 0, .int .i64 0, .int .i64 0, .int .i64 0, .int .i64 0, .int .i64 0, .int .i64 0, .int .i64 0, .int .i64 0, .int .i64 0, .int .i64 0, .int .i64 0] 103)) W4.heap.size T0 := X0
     clear X0
     clear hH
     have hH := hH2
     clear hH2
     generalize hW5 : W4.alloc _ = W5 at *
     clear hW5
     have n1 := zed_ne (by decide) ⟨_, X⟩ ⟨_, _, _, Y⟩
     have n2 := zed_ne (by decide) ⟨_, X⟩ ⟨_, _, _, R⟩
     have lP := P.fp_lt
     have gW := G.size
     refine rd 11 rfl (fun K hK => ?_)
     refine wp_store_tab rfl rfl rfl X (fun w8 X8 g8 => ?_)
     refine hK.out _ _ ⟨hH.1.chg g8 (by simp; omega), hH.2.chg g8 (by simp; omega)⟩ (fun hH8 => ?_)
     clear hK K
     walk_nrm
     replace Y := Y.chg g8 (by simpa using n1.symm)
     replace R := R.chg g8 (by simpa using n2.symm)
     replace P := P.chg g8 (by intro x hx hf; simp at hx; have := hlP x hf; omega)
     replace G := G.trans g8 (by simp; omega)
     clear hH X g8
     refine rd 12 rfl (fun K hK => ?_)
     refine wp_store_ans rfl rfl rfl Y (fun w9 Y9 g9 => ?_)
     refine hK.out _ _ ⟨hH8.1.chg g9 (by simp; omega), hH8.2.chg g9 (by simp; omega)⟩ (fun hH9 => ?_)
     clear hK K
     walk_nrm
     have X9 := X8.chg g9 (by simpa using n1)
     have R9 := R.chg g9 (by simp; omega)
     have P9 := P.chg g9 (by intro x hx hf; simp at hx; have := hlP x hf; omega)
     have G9 := G.trans g9 (by simp; omega)
     refine wpAnyH_done (by kernel_rfl) ?_ _
     refine NoPanic.normal ?_
     go_wp2_with fail
     go_meet
     exact ⟨W4.heap.size, w2.heap.size, rfl, rfl, by omega, by omega, n1, X9, Y9, hH9.1, P9, hH9.2, R9, G9⟩
    exact AllReadyH.nil
   exact AllReadyH.nil
  refine AllReadyH.cons rfl (fun K hK => ?_) ?_
  ·rw [if_pos (by rfl)]
   have z9 := R.lt
   go_simp
   refine hK.out _ _ ⟨hH.1.alloc _, hH.2.alloc _⟩ (fun hH2 => ?_)
   clear hK K
   walk_nrm
   replace G := G.alloc (.cells #[.int .i64 0, .int .i64 0, .int .i64 0, .int .i64 0, .int .i64 0, .int .i64 0, .int .i64 0, .int .i64 0, .int .i64 0, .int .i64 0, .int .i64 0, .int .i64 0, .int .i64 0, .int .i64 0, .int .i64 0, .int .i64 0, .int .i64 0, .int .i64 0, .int .i64 0, .int .i64 0, .int .i64 0, .int .i64 0, .int .i64 0, .int .i64 0, .int .i64 0] 103)
   replace P := P.alloc (.cells #[.int .i64 0, .int .i64 0, .int .i64 0, .int .i64 0, .int .i64 0, .int .i64 0, .int .i64 0, .int .i64 0, .int .i64 0, .int .i64 0, .int .i64 0, .int .i64 0, .int .i64 0, .int .i64 0, .int .i64 0, .int .i64 0, .int .i64 0, .int .i64 0, .int .i64 0, .int .i64 0, .int .i64 0, .int .i64 0, .int .i64 0, .int .i64 0, .int .i64 0] 103)
   replace R := R.alloc (.cells #[.int .i64 0, .int .i64 0, .int .i64 0, .int .i64 0, .int .i64 0, .int .i64 0, .int .i64 0, .int .i64 0, .int .i64 0, .int .i64 0, .int .i64 0, .int .i64 0, .int .i64 0, .int .i64 0, .int .i64 0, .int .i64 0, .int .i64 0, .int .i64 0, .int .i64 0, .int .i64 0, .int .i64 0, .int .i64 0, .int .i64 0, .int .i64 0, .int .i64 0] 103)
   have X0 := Blk.new W0 #[.int .i64 0, .int .i64 0, .int .i64 0, .int .i64 0, .int .i64 0, .int .i64 0, .int .i64 0, .int .i64 0, .int .i64 0, .int .i64 0, .int .i64 0, .int .i64 0, .int .i64 0, .int .i64 0, .int .i64 0, .int .i64 0, .int .i64 0, .int .i64 0, .int .i64 0, .int .i64 0, .int .i64 0, .int .i64 0, .int .i64 0, .int .i64 0, .int .i64 0] 103
   have X : Has 103 (W0.alloc (.cells #[.int .i64 0, .int .i64 0, .int .i64 0, .int .i64 0, .int .i64 0, .int .i64 0, .int .i64 0, .int .i64 0, .int .i64 0, .int .i64 0, .int .i64 0, .int .i64 0, .int .i64 0, .int .i64 0, .int .i64 0, .int .i64 0, .int .i64 0, .int .i64 0, .int .i64 0, .int .i64 0, .int .i64 0, .int .i64 0, .int .i64 0, .int .i64 0, .int .i64 0] 103)) W0.heap.size T0 := X0
   clear X0
   clear hH
   have hH := hH2
   clear hH2
   generalize hW6 : W0.alloc _ = W6 at *
   clear hW6
   refine wpAnyH_ready (rs := [5, 10]) (by kernel_rfl) (by simp) ?_
   refine AllReadyH.cons rfl (fun K hK => ?_) ?_
   ·rw [if_pos (by rfl)]
    go_simp
    refine (did_any T o _ hI).mono ?_
    rintro x w2 ⟨rfl, g2⟩
    refine hK.out _ _ ⟨hH.1.chg g2 (by simp), hH.2.chg g2 (by simp)⟩ (fun hH2 => ?_)
    clear hK K
    walk_nrm
    replace G := G.trans g2 (by simp)
    replace P := P.chg g2 (by simp)
    replace R := R.chg g2 (by simp)
    replace X := X.chg g2 (by simp)
    clear hH g2
    have hH := hH2
    clear hH2
    refine wpAnyH_take (i := 6) (v := ?_) rfl (by kernel_rfl) (by kernel_rfl) (by kernel_rfl) (fun _ _ _ h => h) (Or.inl ⟨by rfl, ?hz7⟩) hH ?rz7
    case hz7 => (intro W' hSw; go_simp; try with_reducible rfl)
    walk_nrm
    refine wpAnyH_take (i := 7) (v := ?_) rfl (by kernel_rfl) (by kernel_rfl) (by kernel_rfl) (fun _ _ _ h => h) (Or.inl ⟨by rfl, ?hz8⟩) hH ?rz8
    case hz8 => (intro W' hSw; go_simp; try with_reducible rfl)
    walk_nrm
    refine wpAnyH_take (i := 8) (v := ?_) rfl (by kernel_rfl) (by kernel_rfl) (by kernel_rfl) (fun _ _ _ h => h) (Or.inl ⟨by rfl, ?hz9⟩) hH ?rz9
    case hz9 => (intro W' hSw; go_simp; try with_reducible rfl)
    walk_nrm
    refine wpAnyH_ready (rs := [10]) (by kernel_rfl) (by simp) ?_
    refine AllReadyH.cons rfl (fun K hK => ?_) ?_
    ·rw [if_pos (by rfl)]
     have z10 := R.lt
     go_simp
     refine hK.out _ _ ⟨hH.1.alloc _, hH.2.alloc _⟩ (fun hH2 => ?_)
     clear hK K
     walk_nrm
     replace G := G.alloc (.cells #[.int .i64 0, .int .i64 0, .int .i64 0] 95)
     replace P := P.alloc (.cells #[.int .i64 0, .int .i64 0, .int .i64 0] 95)
     replace R := R.alloc (.cells #[.int .i64 0, .int .i64 0, .int .i64 0] 95)
     replace X := X.alloc (.cells #[.int .i64 0, .int .i64 0, .int .i64 0] 95)
     have Y := Blk.new w2 #[.int .i64 0, .int .i64 0, .int .i64 0] 95
     clear hH
     have hH := hH2
     clear hH2
     generalize hW8 : w2.alloc _ = W8 at *
     clear hW8
     have n1 := zed_ne (by decide) ⟨_, X⟩ ⟨_, _, _, Y⟩
     have n2 := zed_ne (by decide) ⟨_, X⟩ ⟨_, _, _, R⟩
     have lP := P.fp_lt
     have gW := G.size
     refine rd 11 rfl (fun K hK => ?_)
     refine wp_store_tab rfl rfl rfl X (fun w8 X8 g8 => ?_)
     refine hK.out _ _ ⟨hH.1.chg g8 (by simp; omega), hH.2.chg g8 (by simp; omega)⟩ (fun hH8 => ?_)
     clear hK K
     walk_nrm
     replace Y := Y.chg g8 (by simpa using n1.symm)
     replace R := R.chg g8 (by simpa using n2.symm)
     replace P := P.chg g8 (by intro x hx hf; simp at hx; have := hlP x hf; omega)
     replace G := G.trans g8 (by simp; omega)
     clear hH X g8
     refine rd 12 rfl (fun K hK => ?_)
     refine wp_store_ans rfl rfl rfl Y (fun w9 Y9 g9 => ?_)
     refine hK.out _ _ ⟨hH8.1.chg g9 (by simp; omega), hH8.2.chg g9 (by simp; omega)⟩ (fun hH9 => ?_)
     clear hK K
     walk_nrm
     have X9 := X8.chg g9 (by simpa using n1)
     have R9 := R.chg g9 (by simp; omega)
     have P9 := P.chg g9 (by intro x hx hf; simp at hx; have := hlP x hf; omega)
     have G9 := G.trans g9 (by simp; omega)
     refine wpAnyH_done (by kernel_rfl) ?_ _
     refine NoPanic.normal ?_
     go_wp2_with fail
     go_meet
     exact ⟨W0.heap.size, w2.heap.size, rfl, rfl, by omega, by omega, n1, X9, Y9, hH9.1, P9, hH9.2, R9, G9⟩
    exact AllReadyH.nil
   refine AllReadyH.cons rfl (fun K hK => ?_) ?_
   ·rw [if_pos (by rfl)]
    have z10 := R.lt
    go_simp
    refine hK.out _ _ ⟨hH.1.alloc _, hH.2.alloc _⟩ (fun hH2 => ?_)
    clear hK K
    walk_nrm
    replace G := G.alloc (.cells #[.int .i64 0, .int .i64 0, .int .i64 0] 95)
    replace P := P.alloc (.cells #[.int .i64 0, .int .i64 0, .int .i64 0] 95)
    replace R := R.alloc (.cells #[.int .i64 0, .int .i64 0, .int .i64 0] 95)
    replace X := X.alloc (.cells #[.int .i64 0, .int .i64 0, .int .i64 0] 95)
    have Y := Blk.new W6 #[.int .i64 0, .int .i64 0, .int .i64 0] 95
    clear hH
    have hH := hH2
    clear hH2
    generalize hW9 : W6.alloc _ = W9 at *
    clear hW9
    refine wpAnyH_ready (rs := [5]) (by kernel_rfl) (by simp) ?_
    refine AllReadyH.cons rfl (fun K hK => ?_) ?_
    ·rw [if_pos (by rfl)]
     go_simp
     refine (did_any T o _ hI).mono ?_
     rintro x w2 ⟨rfl, g2⟩
     refine hK.out _ _ ⟨hH.1.chg g2 (by simp), hH.2.chg g2 (by simp)⟩ (fun hH2 => ?_)
     clear hK K
     walk_nrm
     replace G := G.trans g2 (by simp)
     replace P := P.chg g2 (by simp)
     replace R := R.chg g2 (by simp)
     replace X := X.chg g2 (by simp)
     replace Y := Y.chg g2 (by simp)
     clear hH g2
     have hH := hH2
     clear hH2
     refine wpAnyH_take (i := 6) (v := ?_) rfl (by kernel_rfl) (by kernel_rfl) (by kernel_rfl) (fun _ _ _ h => h) (Or.inl ⟨by rfl, ?hz10⟩) hH ?rz10
     case hz10 => (intro W' hSw; go_simp; try with_reducible rfl)
     walk_nrm
     refine wpAnyH_take (i := 7) (v := ?_) rfl (by kernel_rfl) (by kernel_rfl) (by kernel_rfl) (fun _ _ _ h => h) (Or.inl ⟨by rfl, ?hz11⟩) hH ?rz11
     case hz11 => (intro W' hSw; go_simp; try with_reducible rfl)
     walk_nrm
     refine wpAnyH_take (i := 8) (v := ?_) rfl (by kernel_rfl) (by kernel_rfl) (by kernel_rfl) (fun _ _ _ h => h) (Or.inl ⟨by rfl, ?hz12⟩) hH ?rz12
     case hz12 => (intro W' hSw; go_simp; try with_reducible rfl)
     walk_nrm
     have n1 := zed_ne (by decide) ⟨_, X⟩ ⟨_, _, _, Y⟩
     have n2 := zed_ne (by decide) ⟨_, X⟩ ⟨_, _, _, R⟩
     have lP := P.fp_lt
     have gW := G.size
     refine rd 11 rfl (fun K hK => ?_)
     refine wp_store_tab rfl rfl rfl X (fun w8 X8 g8 => ?_)
     refine hK.out _ _ ⟨hH.1.chg g8 (by simp; omega), hH.2.chg g8 (by simp; omega)⟩ (fun hH8 => ?_)
     clear hK K
     walk_nrm
     replace Y := Y.chg g8 (by simpa using n1.symm)
     replace R := R.chg g8 (by simpa using n2.symm)
     replace P := P.chg g8 (by intro x hx hf; simp at hx; have := hlP x hf; omega)
     replace G := G.trans g8 (by simp; omega)
     clear hH X g8
     refine rd 12 rfl (fun K hK => ?_)
     refine wp_store_ans rfl rfl rfl Y (fun w9 Y9 g9 => ?_)
     refine hK.out _ _ ⟨hH8.1.chg g9 (by simp; omega), hH8.2.chg g9 (by simp; omega)⟩ (fun hH9 => ?_)
     clear hK K
     walk_nrm
     have X9 := X8.chg g9 (by simpa using n1)
     have R9 := R.chg g9 (by simp; omega)
     have P9 := P.chg g9 (by intro x hx hf; simp at hx; have := hlP x hf; omega)
     have G9 := G.trans g9 (by simp; omega)
     refine wpAnyH_done (by kernel_rfl) ?_ _
     refine NoPanic.normal ?_
     go_wp2_with fail
     go_meet
     exact ⟨W0.heap.size, W6.heap.size, rfl, rfl, by omega, by omega, n1, X9, Y9, hH9.1, P9, hH9.2, R9, G9⟩
    exact AllReadyH.nil
   exact AllReadyH.nil
  refine AllReadyH.cons rfl (fun K hK => ?_) ?_
  ·rw [if_pos (by rfl)]
   have z10 := R.lt
   go_simp
   refine hK.out _ _ ⟨hH.1.alloc _, hH.2.alloc _⟩ (fun hH2 => ?_)
   clear hK K
   walk_nrm
   replace G := G.alloc (.cells #[.int .i64 0, .int .i64 0, .int .i64 0] 95)
   replace P := P.alloc (.cells #[.int .i64 0, .int .i64 0, .int .i64 0] 95)
   replace R := R.alloc (.cells #[.int .i64 0, .int .i64 0, .int .i64 0] 95)
   have Y := Blk.new W0 #[.int .i64 0, .int .i64 0, .int .i64 0] 95
   clear hH
   have hH := hH2
   clear hH2
   generalize hW11 : W0.alloc _ = W11 at *
   clear hW11
   refine wpAnyH_ready (rs := [5, 9]) (by kernel_rfl) (by simp) ?_
   refine AllReadyH.cons rfl (fun K hK => ?_) ?_
   ·rw [if_pos (by rfl)]
    go_simp
    refine (did_any T o _ hI).mono ?_
    rintro x w2 ⟨rfl, g2⟩
    refine hK.out _ _ ⟨hH.1.chg g2 (by simp), hH.2.chg g2 (by simp)⟩ (fun hH2 => ?_)
    clear hK K
    walk_nrm
    replace G := G.trans g2 (by simp)
    replace P := P.chg g2 (by simp)
    replace R := R.chg g2 (by simp)
    replace Y := Y.chg g2 (by simp)
    clear hH g2
    have hH := hH2
    clear hH2
    refine wpAnyH_take (i := 6) (v := ?_) rfl (by kernel_rfl) (by kernel_rfl) (by kernel_rfl) (fun _ _ _ h => h) (Or.inl ⟨by rfl, ?hz13⟩) hH ?rz13
    case hz13 => (intro W' hSw; go_simp; try with_reducible rfl)
    walk_nrm
    refine wpAnyH_take (i := 7) (v := ?_) rfl (by kernel_rfl) (by kernel_rfl) (by kernel_rfl) (fun _ _ _ h => h) (Or.inl ⟨by rfl, ?hz14⟩) hH ?rz14
    case hz14 => (intro W' hSw; go_simp; try with_reducible rfl)
    walk_nrm
    refine wpAnyH_take (i := 8) (v := ?_) rfl (by kernel_rfl) (by kernel_rfl) (by kernel_rfl) (fun _ _ _ h => h) (Or.inl ⟨by rfl, ?hz15⟩) hH ?rz15
    case hz15 => (intro W' hSw; go_simp; try with_reducible rfl)
    walk_nrm
    refine wpAnyH_ready (rs := [9]) (by kernel_rfl) (by simp) ?_
    refine AllReadyH.cons rfl (fun K hK => ?_) ?_
    ·rw [if_pos (by rfl)]
     have z9 := R.lt
     go_simp
     refine hK.out _ _ ⟨hH.1.alloc _, hH.2.alloc _⟩ (fun hH2 => ?_)
     clear hK K
     walk_nrm
     replace G := G.alloc (.cells #[.int .i64 0, .int .i64 0, .int .i64 0, .int .i64 0, .int .i64 0, .int .i64 0, .int .i64 0, .int .i64 0, .int .i64 0, .int .i64 0, .int .i64 0, .int .i64 0, .int .i64 0, .int .i64 0, .int .i64 0, .int .i64 0, .int .i64 0, .int .i64 0, .int .i64 0, .int .i64 0, .int .i64 0, .int .i64 0, .int .i64 0, .int .i64 0, .int .i64 0] 103)
     replace P := P.alloc (.cells #[.int .i64 0, .int .i64 0, .int .i64 0, .int .i64 0, .int .i64 0, .int .i64 0, .int .i64 0, .int .i64 0, .int .i64 0, .int .i64 0, .int .i64 0, .int .i64 0, .int .i64 0, .int .i64 0, .int .i64 0, .int .i64 0, .int .i64 0, .int .i64 0, .int .i64 0, .int .i64 0, .int .i64 0, .int .i64 0, .int .i64 0, .int .i64 0, .int .i64 0] 103)
     replace R := R.alloc (.cells #[.int .i64 0, .int .i64 0, .int .i64 0, .int .i64 0, .int .i64 0, .int .i64 0, .int .i64 0, .int .i64 0, .int .i64 0, .int .i64 0, .int .i64 0, .int .i64 0, .int .i64 0, .int .i64 0, .int .i64 0, .int .i64 0, .int .i64 0, .int .i64 0, .int .i64 0, .int .i64 0, .int .i64 0, .int .i64 0, .int .i64 0, .int .i64 0, .int .i64 0] 103)
     replace Y := Y.alloc (.cells #[.int .i64 0, .int .i64 0, .int .i64 0, .int .i64 0, .int .i64 0, .int .i64 0, .int .i64 0, .int .i64 0, .int .i64 0, .int .i64 0, .int .i64 0, .int .i64 0, .int .i64 0, .int .i64 0, .int .i64 0, .int .i64 0, .int .i64 0, .int .i64 0, .int .i64 0, .int .i64 0, .int .i64 0, .int .i64 0, .int .i64 0, .int .i64 0, .int .i64 0] 103)
     have X0 := Blk.new w2 #[.int .i64 0, .int .i64 0, .int .i64 0, .int .i64 0, .int .i64 0, .int .i64 0, .int .i64 0, .int .i64 0, .int .i64 0, .int .i64 0, .int .i64 0, .int .i64 0, .int .i64 0, .int .i64 0, .int .i64 0, .int .i64 0, .int .i64 0, .int .i64 0, .int .i64 0, .int .i64 0, .int .i64 0, .int .i64 0, .int .i64 0, .int .i64 0, .int .i64 0] 103
     have X : Has 103 (w2.alloc (.cells #[.int .i64 0, .int .i64 0, .int .i64 0, .int .i64 0, .int .i64 0, .int .i64 0, .int .i64 0, .int .i64 0, .int .i64 0, .int .i64 0, .int .i64 0, .int .i64 0, .int .i64 0, .int .i64 0, .int .i64 0, .int .i64 0, .int .i64 0, .int .i64 0, .int .i64 0, .int .i64 0, .int .i64 0, .int .i64 0, .int .i64 0, .int .i64 0, .int .i64 0] 103)) w2.heap.size T0 := X0
     clear X0
     clear hH
     have hH := hH2
     clear hH2
     generalize hW13 : w2.alloc _ = W13 at *
     clear hW13
     have n1 := zed_ne (by decide) ⟨_, X⟩ ⟨_, _, _, Y⟩
     have n2 := zed_ne (by decide) ⟨_, X⟩ ⟨_, _, _, R⟩
     have lP := P.fp_lt
     have gW := G.size
     refine rd 11 rfl (fun K hK => ?_)
     refine wp_store_tab rfl rfl rfl X (fun w8 X8 g8 => ?_)
     refine hK.out _ _ ⟨hH.1.chg g8 (by simp; omega), hH.2.chg g8 (by simp; omega)⟩ (fun hH8 => ?_)
     clear hK K
     walk_nrm
     replace Y := Y.chg g8 (by simpa using n1.symm)
     replace R := R.chg g8 (by simpa using n2.symm)
     replace P := P.chg g8 (by intro x hx hf; simp at hx; have := hlP x hf; omega)
     replace G := G.trans g8 (by simp; omega)
     clear hH X g8
     refine rd 12 rfl (fun K hK => ?_)
     refine wp_store_ans rfl rfl rfl Y (fun w9 Y9 g9 => ?_)
     refine hK.out _ _ ⟨hH8.1.chg g9 (by simp; omega), hH8.2.chg g9 (by simp; omega)⟩ (fun hH9 => ?_)
     clear hK K
     walk_nrm
     have X9 := X8.chg g9 (by simpa using n1)
     have R9 := R.chg g9 (by simp; omega)
     have P9 := P.chg g9 (by intro x hx hf; simp at hx; have := hlP x hf; omega)
     have G9 := G.trans g9 (by simp; omega)
     refine wpAnyH_done (by kernel_rfl) ?_ _
     refine NoPanic.normal ?_
     go_wp2_with fail
     go_meet
     exact ⟨w2.heap.size, W0.heap.size, rfl, rfl, by omega, by omega, n1, X9, Y9, hH9.1, P9, hH9.2, R9, G9⟩
    exact AllReadyH.nil
   refine AllReadyH.cons rfl (fun K hK => ?_) ?_
   ·rw [if_pos (by rfl)]
    have z9 := R.lt
    go_simp
    refine hK.out _ _ ⟨hH.1.alloc _, hH.2.alloc _⟩ (fun hH2 => ?_)
    clear hK K
    walk_nrm
    replace G := G.alloc (.cells #[.int .i64 0, .int .i64 0, .int .i64 0, .int .i64 0, .int .i64 0, .int .i64 0, .int .i64 0, .int .i64 0, .int .i64 0, .int .i64 0, .int .i64 0, .int .i64 0, .int .i64 0, .int .i64 0, .int .i64 0, .int .i64 0, .int .i64 0, .int .i64 0, .int .i64 0, .int .i64 0, .int .i64 0, .int .i64 0, .int .i64 0, .int .i64 0, .int .i64 0] 103)
    replace P := P.alloc (.cells #[.int .i64 0, .int .i64 0, .int .i64 0, .int .i64 0, .int .i64 0, .int .i64 0, .int .i64 0, .int .i64 0, .int .i64 0, .int .i64 0, .int .i64 0, .int .i64 0, .int .i64 0, .int .i64 0, .int .i64 0, .int .i64 0, .int .i64 0, .int .i64 0, .int .i64 0, .int .i64 0, .int .i64 0, .int .i64 0, .int .i64 0, .int .i64 0, .int .i64 0] 103)
    replace R := R.alloc (.cells #[.int .i64 0, .int .i64 0, .int .i64 0, .int .i64 0, .int .i64 0, .int .i64 0, .int .i64 0, .int .i64 0, .int .i64 0, .int .i64 0, .int .i64 0, .int .i64 0, .int .i64 0, .int .i64 0, .int .i64 0, .int .i64 0, .int .i64 0, .int .i64 0, .int .i64 0, .int .i64 0, .int .i64 0, .int .i64 0, .int .i64 0, .int .i64 0, .int .i64 0] 103)
    replace Y := Y.alloc (.cells #[.int .i64 0, .int .i64 0, .int .i64 0, .int .i64 0, .int .i64 0, .int .i64 0, .int .i64 0, .int .i64 0, .int .i64 0, .int .i64 0, .int .i64 0, .int .i64 0, .int .i64 0, .int .i64 0, .int .i64 0, .int .i64 0, .int .i64 0, .int .i64 0, .int .i64 0, .int .i64 0, .int .i64 0, .int .i64 0, .int .i64 0, .int .i64 0, .int .i64 0] 103)
    have X0 := Blk.new W11 #[.int .i64 0, .int .i64 0, .int .i64 0, .int .i64 0, .int .i64 0, .int .i64 0, .int .i64 0, .int .i64 0, .int .i64 0, .int .i64 0, .int .i64 0, .int .i64 0, .int .i64 0, .int .i64 0, .int .i64 0, .int .i64 0, .int .i64 0, .int .i64 0, .int .i64 0, .int .i64 0, .int .i64 0, .int .i64 0, .int .i64 0, .int .i64 0, .int .i64 0] 103
    have X : Has 103 (W11.alloc (.cells #[.int .i64 0, .int .i64 0, .int .i64 0, .int .i64 0, .int .i64 0, .int .i64 0, .int .i64 0, .int .i64 0, .int .i64 0, .int .i64 0, .int .i64 0, .int .i64 0, .int .i64 0, .int .i64 0, .int .i64 0, .int .i64 0, .int .i64 0, .int .i64 0, .int .i64 0, .int .i64 0, .int .i64 0, .int .i64 0, .int .i64 0, .int .i64 0, .int .i64 0] 103)) W11.heap.size T0 := X0
    clear X0
    clear hH
    have hH := hH2
    clear hH2
    generalize hW14 : W11.alloc _ = W14 at *
    clear hW14
    refine wpAnyH_ready (rs := [5]) (by kernel_rfl) (by simp) ?_
    refine AllReadyH.cons rfl (fun K hK => ?_) ?_
    ·rw [if_pos (by rfl)]
     go_simp
     refine (did_any T o _ hI).mono ?_
     rintro x w2 ⟨rfl, g2⟩
     refine hK.out _ _ ⟨hH.1.chg g2 (by simp), hH.2.chg g2 (by simp)⟩ (fun hH2 => ?_)
     clear hK K
     walk_nrm
     replace G := G.trans g2 (by simp)
     replace P := P.chg g2 (by simp)
     replace R := R.chg g2 (by simp)
     replace X := X.chg g2 (by simp)
     replace Y := Y.chg g2 (by simp)
     clear hH g2
     have hH := hH2
     clear hH2
     refine wpAnyH_take (i := 6) (v := ?_) rfl (by kernel_rfl) (by kernel_rfl) (by kernel_rfl) (fun _ _ _ h => h) (Or.inl ⟨by rfl, ?hz16⟩) hH ?rz16
     case hz16 => (intro W' hSw; go_simp; try with_reducible rfl)
     walk_nrm
     refine wpAnyH_take (i := 7) (v := ?_) rfl (by kernel_rfl) (by kernel_rfl) (by kernel_rfl) (fun _ _ _ h => h) (Or.inl ⟨by rfl, ?hz17⟩) hH ?rz17
     case hz17 => (intro W' hSw; go_simp; try with_reducible rfl)
     walk_nrm
     refine wpAnyH_take (i := 8) (v := ?_) rfl (by kernel_rfl) (by kernel_rfl) (by kernel_rfl) (fun _ _ _ h => h) (Or.inl ⟨by rfl, ?hz18⟩) hH ?rz18
     case hz18 => (intro W' hSw; go_simp; try with_reducible rfl)
     walk_nrm
     have n1 := zed_ne (by decide) ⟨_, X⟩ ⟨_, _, _, Y⟩
     have n2 := zed_ne (by decide) ⟨_, X⟩ ⟨_, _, _, R⟩
     have lP := P.fp_lt
     have gW := G.size
     refine rd 11 rfl (fun K hK => ?_)
     refine wp_store_tab rfl rfl rfl X (fun w8 X8 g8 => ?_)
     refine hK.out _ _ ⟨hH.1.chg g8 (by simp; omega), hH.2.chg g8 (by simp; omega)⟩ (fun hH8 => ?_)
     clear hK K
     walk_nrm
     replace Y := Y.chg g8 (by simpa using n1.symm)
     replace R := R.chg g8 (by simpa using n2.symm)
     replace P := P.chg g8 (by intro x hx hf; simp at hx; have := hlP x hf; omega)
     replace G := G.trans g8 (by simp; omega)
     clear hH X g8
     refine rd 12 rfl (fun K hK => ?_)
     refine wp_store_ans rfl rfl rfl Y (fun w9 Y9 g9 => ?_)
     refine hK.out _ _ ⟨hH8.1.chg g9 (by simp; omega), hH8.2.chg g9 (by simp; omega)⟩ (fun hH9 => ?_)
     clear hK K
     walk_nrm
     have X9 := X8.chg g9 (by simpa using n1)
     have R9 := R.chg g9 (by simp; omega)
     have P9 := P.chg g9 (by intro x hx hf; simp at hx; have := hlP x hf; omega)
     have G9 := G.trans g9 (by simp; omega)
     refine wpAnyH_done (by kernel_rfl) ?_ _
     refine NoPanic.normal ?_
     go_wp2_with fail
     go_meet
     exact ⟨W11.heap.size, W0.heap.size, rfl, rfl, by omega, by omega, n1, X9, Y9, hH9.1, P9, hH9.2, R9, G9⟩
    exact AllReadyH.nil
   exact AllReadyH.nil
  exact AllReadyH.nil
 case rest =>
 obtain ⟨p7, p8, rfl, rfl, q7, q8, n78, X, Y, V, P, O, R, G⟩ := hcut
 clear t0 t1 t2 tf y0 ly hb
 obtain ⟨y0, y1, y2, -, -, -⟩ := Y.three
 obtain ⟨r0, r1, r2, f0, f1, f2⟩ := R.three
 have l7 := X.lt
 have l8 := Y.lt
 have lR := R.lt
 have lV := V.lt
 by_cases hc : (doT T o).2.code = 0
 ·have hcb : ((doT T o).2.code != 0) = false := by simp [hc]
  have hck : ckR ⟨ep, o⟩ = 0 := by
   unfold ckR
   rw [if_neg (by simp; omega)]
   exact do_chk hc
  have HC := hide hc
  have HCK := hide hck
  clear hc hck
  have hnp : b ≠ pp := fun e => hbp (mem_fp.2 (.inl e))
  have hlP := (unhide HP).fp_lt
  have hpl : pp < w.heap.size := hlP pp (mem_fp.2 (.inl rfl))
  obtain ⟨t0, t1, t2, tf, lb'⟩ := V.tail
  obtain ⟨o0, o1, o2, o3, o4, o5⟩ := O.six
  go_wp2_with fail
  go_region_held3 (fun w' => w'.cell? ⟨b, 26, none⟩ = some (.int .i64 ep) ∧ w'.cell? ⟨w.heap.size, 0, none⟩ = some (.int .i64 o.k) ∧ w'.cell? ⟨w.heap.size, 1, none⟩ = some (.int .i64 o.now) ∧ w'.cell? ⟨w.heap.size, 2, none⟩ = some (.int .i64 o.jb) ∧ w'.cell? ⟨w.heap.size, 3, none⟩ = some (.int .i64 o.tr) ∧ w'.cell? ⟨w.heap.size, 4, none⟩ = some (.int .i64 o.wk) ∧ w'.cell? ⟨w.heap.size, 5, none⟩ = some (.int .i64 o.tm)) (first | exact ⟨t1, o0, o1, o2, o3, o4, o5⟩ | exact ⟨s1, i0, i1, i2, i3, i4, i5⟩) (first
   | (go_at_call 95; refine (bytesof_any ⟨ep, o⟩ _ (unhide HCK)).mono ?_; rintro x w3 ⟨g, c, rfl, ⟨hg, hgc⟩, Yb, g3⟩; have V3 := (show Vgr 106 wc.drew b T pp ep false from V).chg g3 (by simp); have P3 := P.drew.chg g3 (by simp); have O3 := (show Blk wc.drew w.heap.size _ 83 from O).chg g3 (by simp); have R3 := (show Blk wc.drew (w.heap.size + 1) _ 95 from R).chg g3 (by simp); have X3 := (show Has 103 wc.drew p7 _ from X).chg g3 (by simp); have Y3 := (show Blk wc.drew p8 _ 95 from Y).chg g3 (by simp); have G3 := G.drew.trans g3 (by simp); obtain ⟨s0, s1, s2, sf, sb⟩ := V3.tail; obtain ⟨i0, i1, i2, i3, i4, i5⟩ := O3.six; have SLB := hide (byt_sl Yb hgc); clear Yb g3))
  clear t0 t1 t2 tf lb' o0 o1 o2 o3 o4 o5 y0 y1 y2 r0 r1 r2 f0 f1 f2 V P O R X Y G i0 i1 i2 i3 i4 i5 l7 l8 lR lV
  have NOK := hide (nineL_ok (unhide HCK))
  have zG := G3.size
  obtain ⟨y0, y1, y2, -, -, -⟩ := Y3.three
  obtain ⟨r0, r1, r2, f0, f1, f2⟩ := R3.three
  have l7 := X3.lt
  have l8 := Y3.lt
  have lR := R3.lt
  have kl := keepN_le keep
  have hTL := tornL_len ep o keep
  have hokT : okB (tornL ep o keep) := (unhide NOK).take _
  by_cases hk0 : keep < 0
  ·have d0 : decide (keep < 0) = true := by simpa using hk0
   have eN : keepN keep = 0 := by unfold keepN; rw [if_pos hk0]
   have SLT : Hid (Sl w3 (.slice (some ⟨g, 0, none⟩) 0 c) (tornL ep o keep)) := hide (by unfold tornL; rw [eN]; exact (unhide SLB).take (by rw [nineL_len]) (by omega) c (by omega))
   clear eN hk0
   by_cases hfull : 1500 < l.length + keepN keep
   ·have hf2 : 1500 < l.length + (tornL ep o keep).length := by rw [hTL]; exact hfull
    go_wp2_with fail
    go_region_held3 (fun w' => w'.cell? ⟨b, 25, none⟩ = some (.pointer (some ⟨pp, 0, none⟩)) ∧ w'.cell? ⟨b, 26, none⟩ = some (.int .i64 ep)) (first | exact ⟨s0, s1⟩ | exact ⟨j0, j1⟩) (first
     | (go_at_call 96; refine (papp_full pp ep u l _ (tornL ep o keep) _ P3.drew e0 ((unhide SLT).chg ((Chg.refl [] w3).drew) (by simp)) hokT (by omega) hf2).mono ?_; rintro x w5 ⟨rfl, u5, P5, g5, n5⟩; have V5 := (show Vgr 106 w3.drew b T pp ep false from V3).chg g5 (by simpa using hnp); have R5 := (show Blk w3.drew (w.heap.size + 1) _ 95 from R3).chg g5 (by simp; omega); have X5 := (show Has 103 w3.drew p7 _ from X3).chg g5 (by simp; omega); have Y5 := (show Blk w3.drew p8 _ 95 from Y3).chg g5 (by simp; omega); have G5 : Chg [b, pp] w w5 := (show Chg [b, pp] w w3.drew from (G3.drew).wide (by simp)).trans g5 (by intro x hx; simp at hx; subst hx; exact .inl (by simp)); obtain ⟨j0, j1, j2, jf, jb⟩ := V5.tail; obtain ⟨y0, y1, y2, -, -, -⟩ := Y5.three; obtain ⟨r0, r1, r2, f0, f1, f2⟩ := R5.three; have l7 := X5.lt; have l8 := Y5.lt; have lR := R5.lt; clear g5))
    have hx1 : w.heap.size + 1 ∉ fp pp u5 := fun hf => by
     rcases mem_fp.1 hf with e | e
     ·omega
     ·rcases n5 _ e with e2 | e2
      ·have := hlP _ (mem_fp.2 (.inr e2)); omega
      ·have : w3.drew.heap.size = w3.heap.size := rfl
       omega
    go_wp2
    have R7 := ((R5.set 0 (.int .i64 8)).set 1 (.int .i64 0)).set 2 (.int .i64 0)
    have g7 := (((Chg.refl [w.heap.size + 1] w5).setCell (p := ⟨w.heap.size + 1, 0, none⟩) (by simp) (.int .i64 8)).setCell (p := ⟨w.heap.size + 1, 1, none⟩) (by simp) (.int .i64 0)).setCell (p := ⟨w.heap.size + 1, 2, none⟩) (by simp) (.int .i64 0)
    refine bodyPost_ret (v := ansV ⟨8, 0, 0⟩) (ret_ans rfl rfl R7) rfl (.inr (.inl ⟨unhide HC, hfull, rfl, u5, V5.chg g7 (by simp; omega), P5.chg g7 (by intro x hx hf; simp at hx; subst hx; exact hx1 hf), G5.trans g7 (by intro x hx; simp at hx; omega), n5.mono (show w.heap.size ≤ w3.heap.size by omega)⟩))
   ·have hf2 : l.length + (tornL ep o keep).length ≤ 1500 := by rw [hTL]; omega
    go_wp2_with fail
    go_region_held3 (fun w' => w'.cell? ⟨b, 25, none⟩ = some (.pointer (some ⟨pp, 0, none⟩)) ∧ w'.cell? ⟨b, 26, none⟩ = some (.int .i64 ep)) (first | exact ⟨s0, s1⟩ | exact ⟨j0, j1⟩) (first
     | (go_at_call 96; refine (papp_yes pp ep u l _ (tornL ep o keep) _ P3.drew e0 ((unhide SLT).chg ((Chg.refl [] w3).drew) (by simp)) hokT hf2).mono ?_; rintro x w5 ⟨rfl, u5, P5, g5, n5⟩; have V5 := (show Vgr 106 w3.drew b T pp ep false from V3).chg g5 (by simpa using hnp); have R5 := (show Blk w3.drew (w.heap.size + 1) _ 95 from R3).chg g5 (by simp; omega); have X5 := (show Has 103 w3.drew p7 _ from X3).chg g5 (by simp; omega); have Y5 := (show Blk w3.drew p8 _ 95 from Y3).chg g5 (by simp; omega); have G5 : Chg [b, pp] w w5 := (show Chg [b, pp] w w3.drew from (G3.drew).wide (by simp)).trans g5 (by intro x hx; simp at hx; subst hx; exact .inl (by simp)); obtain ⟨j0, j1, j2, jf, jb⟩ := V5.tail; obtain ⟨y0, y1, y2, -, -, -⟩ := Y5.three; obtain ⟨r0, r1, r2, f0, f1, f2⟩ := R5.three; have l7 := X5.lt; have l8 := Y5.lt; have lR := R5.lt; clear g5))
    have hx1 : w.heap.size + 1 ∉ fp pp u5 := fun hf => by
     rcases mem_fp.1 hf with e | e
     ·omega
     ·rcases n5 _ e with e2 | e2
      ·have := hlP _ (mem_fp.2 (.inr e2)); omega
      ·have : w3.drew.heap.size = w3.heap.size := rfl
       omega
    have tok : True := trivial
    go_wp2_with (first
     | (refine wpList_load_tab 103 brdRow brdInfo rfl _ rfl p7 rfl 103 (doT T o).1 ?hs ?_; (case hs => exact X5))
     | (have _t := tok; clear tok; refine wpList_store_vgr rfl _ _ rfl b rfl (doT T o).1 rfl V5 ?_; intro w6 V6 g6 z6; have P6 := P5.chg g6 (by intro x hx hf; simp at hx; subst hx; rcases mem_fp.1 hf with e | e <;> first | exact hnp e | (rcases n5 _ e with e2 | e2; exact hbp (mem_fp.2 (.inr e2)); have : w3.drew.heap.size = w3.heap.size := rfl; omega)); have R6 := R5.chg g6 (by simp; omega); have Y6 := Y5.chg g6 (by simp; omega); have G6 := G5.trans g6 (by intro x hx; simp at hx; subst hx; exact .inl (by simp)); clear y0 y1 y2 r0 r1 r2 f0 f1 f2; obtain ⟨y0, y1, y2, -, -, -⟩ := Y6.three; obtain ⟨r0, r1, r2, f0, f1, f2⟩ := R6.three; have m8 := Y6.lt; have mR := R6.lt; clear g6 z6))
    have R7 := ((R6.set 0 (.int .i64 (doT T o).2.code)).set 1 (.int .i64 (doT T o).2.jb)).set 2 (.int .i64 (doT T o).2.tr)
    have g7 := (((Chg.refl [w.heap.size + 1] w6).setCell (p := ⟨w.heap.size + 1, 0, none⟩) (by simp) (.int .i64 (doT T o).2.code)).setCell (p := ⟨w.heap.size + 1, 1, none⟩) (by simp) (.int .i64 (doT T o).2.jb)).setCell (p := ⟨w.heap.size + 1, 2, none⟩) (by simp) (.int .i64 (doT T o).2.tr)
    refine bodyPost_ret (v := ansV (doT T o).2) (ret_ans rfl rfl R7) rfl (.inr (.inr ⟨unhide HC, hfull, rfl, u5, V6.chg g7 (by simp; omega), P6.chg g7 (by intro x hx hf; simp at hx; subst hx; exact hx1 hf), G6.trans g7 (by intro x hx; simp at hx; omega), n5.mono (show w.heap.size ≤ w3.heap.size by omega)⟩))
  have d0 : decide (keep < 0) = false := by simpa using hk0
  by_cases hk9 : keep < 9
  ·have d1 : decide (keep < 9) = true := by simpa using hk9
   have eN : keepN keep = keep.toNat := by unfold keepN; rw [if_neg hk0, if_pos hk9]
   obtain ⟨m, rfl⟩ : ∃ m : Nat, keep = m := ⟨keep.toNat, by omega⟩
   have hmc : (m : Int) ≤ (c : Int) := by omega
   have hm0 : (0 : Int) ≤ (m : Int) := by omega
   have SLT : Hid (Sl w3 (.slice (some ⟨g, 0, none⟩) m c) (tornL ep o m)) := hide (by unfold tornL; rw [eN, Int.toNat_natCast]; exact (unhide SLB).take (by rw [nineL_len]) (by rw [nineL_len]; omega) c (by omega))
   clear eN hk0
   by_cases hfull : 1500 < l.length + keepN m
   ·have hf2 : 1500 < l.length + (tornL ep o m).length := by rw [hTL]; exact hfull
    go_wp2_with fail
    go_region_held3 (fun w' => w'.cell? ⟨b, 25, none⟩ = some (.pointer (some ⟨pp, 0, none⟩)) ∧ w'.cell? ⟨b, 26, none⟩ = some (.int .i64 ep)) (first | exact ⟨s0, s1⟩ | exact ⟨j0, j1⟩) (first
     | (go_at_call 96; refine (papp_full pp ep u l _ (tornL ep o m) _ P3.drew e0 ((unhide SLT).chg ((Chg.refl [] w3).drew) (by simp)) hokT (by omega) hf2).mono ?_; rintro x w5 ⟨rfl, u5, P5, g5, n5⟩; have V5 := (show Vgr 106 w3.drew b T pp ep false from V3).chg g5 (by simpa using hnp); have R5 := (show Blk w3.drew (w.heap.size + 1) _ 95 from R3).chg g5 (by simp; omega); have X5 := (show Has 103 w3.drew p7 _ from X3).chg g5 (by simp; omega); have Y5 := (show Blk w3.drew p8 _ 95 from Y3).chg g5 (by simp; omega); have G5 : Chg [b, pp] w w5 := (show Chg [b, pp] w w3.drew from (G3.drew).wide (by simp)).trans g5 (by intro x hx; simp at hx; subst hx; exact .inl (by simp)); obtain ⟨j0, j1, j2, jf, jb⟩ := V5.tail; obtain ⟨y0, y1, y2, -, -, -⟩ := Y5.three; obtain ⟨r0, r1, r2, f0, f1, f2⟩ := R5.three; have l7 := X5.lt; have l8 := Y5.lt; have lR := R5.lt; clear g5))
    have hx1 : w.heap.size + 1 ∉ fp pp u5 := fun hf => by
     rcases mem_fp.1 hf with e | e
     ·omega
     ·rcases n5 _ e with e2 | e2
      ·have := hlP _ (mem_fp.2 (.inr e2)); omega
      ·have : w3.drew.heap.size = w3.heap.size := rfl
       omega
    go_wp2
    have R7 := ((R5.set 0 (.int .i64 8)).set 1 (.int .i64 0)).set 2 (.int .i64 0)
    have g7 := (((Chg.refl [w.heap.size + 1] w5).setCell (p := ⟨w.heap.size + 1, 0, none⟩) (by simp) (.int .i64 8)).setCell (p := ⟨w.heap.size + 1, 1, none⟩) (by simp) (.int .i64 0)).setCell (p := ⟨w.heap.size + 1, 2, none⟩) (by simp) (.int .i64 0)
    refine bodyPost_ret (v := ansV ⟨8, 0, 0⟩) (ret_ans rfl rfl R7) rfl (.inr (.inl ⟨unhide HC, hfull, rfl, u5, V5.chg g7 (by simp; omega), P5.chg g7 (by intro x hx hf; simp at hx; subst hx; exact hx1 hf), G5.trans g7 (by intro x hx; simp at hx; omega), n5.mono (show w.heap.size ≤ w3.heap.size by omega)⟩))
   ·have hf2 : l.length + (tornL ep o m).length ≤ 1500 := by rw [hTL]; omega
    go_wp2_with fail
    go_region_held3 (fun w' => w'.cell? ⟨b, 25, none⟩ = some (.pointer (some ⟨pp, 0, none⟩)) ∧ w'.cell? ⟨b, 26, none⟩ = some (.int .i64 ep)) (first | exact ⟨s0, s1⟩ | exact ⟨j0, j1⟩) (first
     | (go_at_call 96; refine (papp_yes pp ep u l _ (tornL ep o m) _ P3.drew e0 ((unhide SLT).chg ((Chg.refl [] w3).drew) (by simp)) hokT hf2).mono ?_; rintro x w5 ⟨rfl, u5, P5, g5, n5⟩; have V5 := (show Vgr 106 w3.drew b T pp ep false from V3).chg g5 (by simpa using hnp); have R5 := (show Blk w3.drew (w.heap.size + 1) _ 95 from R3).chg g5 (by simp; omega); have X5 := (show Has 103 w3.drew p7 _ from X3).chg g5 (by simp; omega); have Y5 := (show Blk w3.drew p8 _ 95 from Y3).chg g5 (by simp; omega); have G5 : Chg [b, pp] w w5 := (show Chg [b, pp] w w3.drew from (G3.drew).wide (by simp)).trans g5 (by intro x hx; simp at hx; subst hx; exact .inl (by simp)); obtain ⟨j0, j1, j2, jf, jb⟩ := V5.tail; obtain ⟨y0, y1, y2, -, -, -⟩ := Y5.three; obtain ⟨r0, r1, r2, f0, f1, f2⟩ := R5.three; have l7 := X5.lt; have l8 := Y5.lt; have lR := R5.lt; clear g5))
    have hx1 : w.heap.size + 1 ∉ fp pp u5 := fun hf => by
     rcases mem_fp.1 hf with e | e
     ·omega
     ·rcases n5 _ e with e2 | e2
      ·have := hlP _ (mem_fp.2 (.inr e2)); omega
      ·have : w3.drew.heap.size = w3.heap.size := rfl
       omega
    have tok : True := trivial
    go_wp2_with (first
     | (refine wpList_load_tab 103 brdRow brdInfo rfl _ rfl p7 rfl 103 (doT T o).1 ?hs ?_; (case hs => exact X5))
     | (have _t := tok; clear tok; refine wpList_store_vgr rfl _ _ rfl b rfl (doT T o).1 rfl V5 ?_; intro w6 V6 g6 z6; have P6 := P5.chg g6 (by intro x hx hf; simp at hx; subst hx; rcases mem_fp.1 hf with e | e <;> first | exact hnp e | (rcases n5 _ e with e2 | e2; exact hbp (mem_fp.2 (.inr e2)); have : w3.drew.heap.size = w3.heap.size := rfl; omega)); have R6 := R5.chg g6 (by simp; omega); have Y6 := Y5.chg g6 (by simp; omega); have G6 := G5.trans g6 (by intro x hx; simp at hx; subst hx; exact .inl (by simp)); clear y0 y1 y2 r0 r1 r2 f0 f1 f2; obtain ⟨y0, y1, y2, -, -, -⟩ := Y6.three; obtain ⟨r0, r1, r2, f0, f1, f2⟩ := R6.three; have m8 := Y6.lt; have mR := R6.lt; clear g6 z6))
    have R7 := ((R6.set 0 (.int .i64 (doT T o).2.code)).set 1 (.int .i64 (doT T o).2.jb)).set 2 (.int .i64 (doT T o).2.tr)
    have g7 := (((Chg.refl [w.heap.size + 1] w6).setCell (p := ⟨w.heap.size + 1, 0, none⟩) (by simp) (.int .i64 (doT T o).2.code)).setCell (p := ⟨w.heap.size + 1, 1, none⟩) (by simp) (.int .i64 (doT T o).2.jb)).setCell (p := ⟨w.heap.size + 1, 2, none⟩) (by simp) (.int .i64 (doT T o).2.tr)
    refine bodyPost_ret (v := ansV (doT T o).2) (ret_ans rfl rfl R7) rfl (.inr (.inr ⟨unhide HC, hfull, rfl, u5, V6.chg g7 (by simp; omega), P6.chg g7 (by intro x hx hf; simp at hx; subst hx; exact hx1 hf), G6.trans g7 (by intro x hx; simp at hx; omega), n5.mono (show w.heap.size ≤ w3.heap.size by omega)⟩))
  have d1 : decide (keep < 9) = false := by simpa using hk9
  have eN : keepN keep = 9 := by unfold keepN; rw [if_neg hk0, if_neg hk9]
  have SLT : Hid (Sl w3 (.slice (some ⟨g, 0, none⟩) 9 c) (tornL ep o keep)) := hide (by unfold tornL; rw [eN, List.take_of_length_le (by rw [nineL_len]; omega)]; exact unhide SLB)
  clear eN
  by_cases hfull : 1500 < l.length + keepN keep
  ·have hf2 : 1500 < l.length + (tornL ep o keep).length := by rw [hTL]; exact hfull
   go_wp2_with fail
   go_region_held3 (fun w' => w'.cell? ⟨b, 25, none⟩ = some (.pointer (some ⟨pp, 0, none⟩)) ∧ w'.cell? ⟨b, 26, none⟩ = some (.int .i64 ep)) (first | exact ⟨s0, s1⟩ | exact ⟨j0, j1⟩) (first
    | (go_at_call 96; refine (papp_full pp ep u l _ (tornL ep o keep) _ P3.drew e0 ((unhide SLT).chg ((Chg.refl [] w3).drew) (by simp)) hokT (by omega) hf2).mono ?_; rintro x w5 ⟨rfl, u5, P5, g5, n5⟩; have V5 := (show Vgr 106 w3.drew b T pp ep false from V3).chg g5 (by simpa using hnp); have R5 := (show Blk w3.drew (w.heap.size + 1) _ 95 from R3).chg g5 (by simp; omega); have X5 := (show Has 103 w3.drew p7 _ from X3).chg g5 (by simp; omega); have Y5 := (show Blk w3.drew p8 _ 95 from Y3).chg g5 (by simp; omega); have G5 : Chg [b, pp] w w5 := (show Chg [b, pp] w w3.drew from (G3.drew).wide (by simp)).trans g5 (by intro x hx; simp at hx; subst hx; exact .inl (by simp)); obtain ⟨j0, j1, j2, jf, jb⟩ := V5.tail; obtain ⟨y0, y1, y2, -, -, -⟩ := Y5.three; obtain ⟨r0, r1, r2, f0, f1, f2⟩ := R5.three; have l7 := X5.lt; have l8 := Y5.lt; have lR := R5.lt; clear g5))
   have hx1 : w.heap.size + 1 ∉ fp pp u5 := fun hf => by
    rcases mem_fp.1 hf with e | e
    ·omega
    ·rcases n5 _ e with e2 | e2
     ·have := hlP _ (mem_fp.2 (.inr e2)); omega
     ·have : w3.drew.heap.size = w3.heap.size := rfl
      omega
   go_wp2
   have R7 := ((R5.set 0 (.int .i64 8)).set 1 (.int .i64 0)).set 2 (.int .i64 0)
   have g7 := (((Chg.refl [w.heap.size + 1] w5).setCell (p := ⟨w.heap.size + 1, 0, none⟩) (by simp) (.int .i64 8)).setCell (p := ⟨w.heap.size + 1, 1, none⟩) (by simp) (.int .i64 0)).setCell (p := ⟨w.heap.size + 1, 2, none⟩) (by simp) (.int .i64 0)
   refine bodyPost_ret (v := ansV ⟨8, 0, 0⟩) (ret_ans rfl rfl R7) rfl (.inr (.inl ⟨unhide HC, hfull, rfl, u5, V5.chg g7 (by simp; omega), P5.chg g7 (by intro x hx hf; simp at hx; subst hx; exact hx1 hf), G5.trans g7 (by intro x hx; simp at hx; omega), n5.mono (show w.heap.size ≤ w3.heap.size by omega)⟩))
  ·have hf2 : l.length + (tornL ep o keep).length ≤ 1500 := by rw [hTL]; omega
   go_wp2_with fail
   go_region_held3 (fun w' => w'.cell? ⟨b, 25, none⟩ = some (.pointer (some ⟨pp, 0, none⟩)) ∧ w'.cell? ⟨b, 26, none⟩ = some (.int .i64 ep)) (first | exact ⟨s0, s1⟩ | exact ⟨j0, j1⟩) (first
    | (go_at_call 96; refine (papp_yes pp ep u l _ (tornL ep o keep) _ P3.drew e0 ((unhide SLT).chg ((Chg.refl [] w3).drew) (by simp)) hokT hf2).mono ?_; rintro x w5 ⟨rfl, u5, P5, g5, n5⟩; have V5 := (show Vgr 106 w3.drew b T pp ep false from V3).chg g5 (by simpa using hnp); have R5 := (show Blk w3.drew (w.heap.size + 1) _ 95 from R3).chg g5 (by simp; omega); have X5 := (show Has 103 w3.drew p7 _ from X3).chg g5 (by simp; omega); have Y5 := (show Blk w3.drew p8 _ 95 from Y3).chg g5 (by simp; omega); have G5 : Chg [b, pp] w w5 := (show Chg [b, pp] w w3.drew from (G3.drew).wide (by simp)).trans g5 (by intro x hx; simp at hx; subst hx; exact .inl (by simp)); obtain ⟨j0, j1, j2, jf, jb⟩ := V5.tail; obtain ⟨y0, y1, y2, -, -, -⟩ := Y5.three; obtain ⟨r0, r1, r2, f0, f1, f2⟩ := R5.three; have l7 := X5.lt; have l8 := Y5.lt; have lR := R5.lt; clear g5))
   have hx1 : w.heap.size + 1 ∉ fp pp u5 := fun hf => by
    rcases mem_fp.1 hf with e | e
    ·omega
    ·rcases n5 _ e with e2 | e2
     ·have := hlP _ (mem_fp.2 (.inr e2)); omega
     ·have : w3.drew.heap.size = w3.heap.size := rfl
      omega
   have tok : True := trivial
   go_wp2_with (first
    | (refine wpList_load_tab 103 brdRow brdInfo rfl _ rfl p7 rfl 103 (doT T o).1 ?hs ?_; (case hs => exact X5))
    | (have _t := tok; clear tok; refine wpList_store_vgr rfl _ _ rfl b rfl (doT T o).1 rfl V5 ?_; intro w6 V6 g6 z6; have P6 := P5.chg g6 (by intro x hx hf; simp at hx; subst hx; rcases mem_fp.1 hf with e | e <;> first | exact hnp e | (rcases n5 _ e with e2 | e2; exact hbp (mem_fp.2 (.inr e2)); have : w3.drew.heap.size = w3.heap.size := rfl; omega)); have R6 := R5.chg g6 (by simp; omega); have Y6 := Y5.chg g6 (by simp; omega); have G6 := G5.trans g6 (by intro x hx; simp at hx; subst hx; exact .inl (by simp)); clear y0 y1 y2 r0 r1 r2 f0 f1 f2; obtain ⟨y0, y1, y2, -, -, -⟩ := Y6.three; obtain ⟨r0, r1, r2, f0, f1, f2⟩ := R6.three; have m8 := Y6.lt; have mR := R6.lt; clear g6 z6))
   have R7 := ((R6.set 0 (.int .i64 (doT T o).2.code)).set 1 (.int .i64 (doT T o).2.jb)).set 2 (.int .i64 (doT T o).2.tr)
   have g7 := (((Chg.refl [w.heap.size + 1] w6).setCell (p := ⟨w.heap.size + 1, 0, none⟩) (by simp) (.int .i64 (doT T o).2.code)).setCell (p := ⟨w.heap.size + 1, 1, none⟩) (by simp) (.int .i64 (doT T o).2.jb)).setCell (p := ⟨w.heap.size + 1, 2, none⟩) (by simp) (.int .i64 (doT T o).2.tr)
   refine bodyPost_ret (v := ansV (doT T o).2) (ret_ans rfl rfl R7) rfl (.inr (.inr ⟨unhide HC, hfull, rfl, u5, V6.chg g7 (by simp; omega), P6.chg g7 (by intro x hx hf; simp at hx; subst hx; exact hx1 hf), G6.trans g7 (by intro x hx; simp at hx; omega), n5.mono (show w.heap.size ≤ w3.heap.size by omega)⟩))
 ·have hcb : ((doT T o).2.code != 0) = true := by rw [bne_iff_ne]; exact hc
  have HC := hide hc
  clear hc
  go_wp2
  have R3 := ((R.set 0 (.int .i64 (doT T o).2.code)).set 1 (.int .i64 (doT T o).2.jb)).set 2 (.int .i64 (doT T o).2.tr)
  refine bodyPost_ret (v := ansV (doT T o).2) (ret_ans rfl rfl R3) rfl (.inl ⟨unhide HC, rfl, ?_⟩)
  exact ((G.setCell (by simp) _).setCell (by simp) _).setCell (by simp) _
set_option maxRecDepth 100000 in
set_option maxHeartbeats 2000000 in
theorem vtear_down (b : Nat) (T : Tb) (pp : Nat) (e : Int) (o : Od) (keep : Int) (w : World) (V : Vgr 106 w b T pp e true) :
  Calls Tryz.prog 68 #[.pointer (some ⟨b, 0, none⟩), odV o, .int .i64 keep] w fun e w' => e = .returned (.int .i64 10) ∧ Chg [] w w' := by
 have HV := hide V
 have lb := V.lt
 clear V
 unfold odV
 go_enter Tryz.func68, Tryz.ntmps68
 have tok : True := trivial
 go_wp2_with (first
  | (have _t := tok; refine wpList_load_vgr rfl _ rfl b rfl (ty' := 106) (T := T) (pp := pp) (e := e) (dn := true) ?hs ?_; (case hs => exact (unhide HV).alloc _))
  | (have _t := tok; clear tok; refine wpList_store_tab 103 brdInfo rfl _ _ rfl (w.heap.size + 1) rfl T rfl 103 T0 ?hr ?_; (case hr => exact Blk.new1 w _ _ _); intro w2 X2 g2 z2; have V2 := (((unhide HV).alloc _).alloc _).chg g2 (by simp; omega); have O2 := ((Blk.new w #[.int .i64 o.k, .int .i64 o.now, .int .i64 o.jb, .int .i64 o.tr, .int .i64 o.wk, .int .i64 o.tm] 83).alloc (.cells T0.cells 103)).chg g2 (by simp); have G2 : Chg [] w w2 := (((Chg.refl [] w).alloc _).alloc _).trans g2 (by simp); obtain ⟨o0, o1, o2, o3, o4, o5⟩ := O2.six; have lO := O2.lt; clear g2 z2)
  | (go_at_call 67; refine (vord_down b T pp e o keep _ V2).mono ?_; rintro x w3 ⟨rfl, g3⟩; have G3 := G2.trans g3 (by simp); unfold ansV; clear g3))
 go_ret
 exact ⟨rfl, G3.alloc _⟩
set_option maxRecDepth 100000 in
set_option maxHeartbeats 2000000 in
theorem vtear_fenced {tp : TypeId} {rest : Array Value} (b : Nat) (T : Tb) (pp : Nat) (e ep : Int) (u : Value) (l : List Int) (o : Od) (keep : Int) (w : World) (V : Vgr 106 w b T pp e false) (P : Plt tp rest w pp ep u l) (hne : ¬ ep = e) :
  Calls Tryz.prog 68 #[.pointer (some ⟨b, 0, none⟩), odV o, .int .i64 keep] w fun x w' => x = .returned (.int .i64 9) ∧ Vgr 106 w' b T pp e true ∧ Chg [b] w w' := by
 have HV := hide V
 have HP := hide P
 have HN := hide hne
 have lb := V.lt
 have lP := hide P.fp_lt
 clear V P hne
 unfold odV
 go_enter Tryz.func68, Tryz.ntmps68
 have tok : True := trivial
 go_wp2_with (first
  | (have _t := tok; refine wpList_load_vgr rfl _ rfl b rfl (ty' := 106) (T := T) (pp := pp) (e := e) (dn := false) ?hs ?_; (case hs => exact (unhide HV).alloc _))
  | (have _t := tok; clear tok; refine wpList_store_tab 103 brdInfo rfl _ _ rfl (w.heap.size + 1) rfl T rfl 103 T0 ?hr ?_; (case hr => exact Blk.new1 w _ _ _); intro w2 X2 g2 z2; have V2 := (((unhide HV).alloc _).alloc _).chg g2 (by simp; omega); have P2 := (((unhide HP).alloc _).alloc _).chg g2 (by intro x hx hf; simp at hx; have := unhide lP x hf; omega); have O2 := ((Blk.new w #[.int .i64 o.k, .int .i64 o.now, .int .i64 o.jb, .int .i64 o.tr, .int .i64 o.wk, .int .i64 o.tm] 83).alloc (.cells T0.cells 103)).chg g2 (by simp); have G2 : Chg [b] w w2 := (((Chg.refl [b] w).alloc _).alloc _).trans g2 (by simp); obtain ⟨o0, o1, o2, o3, o4, o5⟩ := O2.six; have lO := O2.lt; clear g2 z2)
  | (go_at_call 67; refine (vord_fenced b T pp e ep u l o keep _ V2 P2 (unhide HN)).mono ?_; rintro x w3 ⟨rfl, V3, g3⟩; have G3 := G2.trans g3 (by simp); unfold ansV; clear g3))
 go_ret
 exact ⟨rfl, V3.alloc _, G3.alloc _⟩
set_option maxRecDepth 100000 in
set_option maxHeartbeats 4000000 in
theorem vtear_go {tp : TypeId} {rest : Array Value} (b : Nat) (T : Tb) (pp : Nat) (ep : Int) (u : Value) (l : List Int) (o : Od) (keep : Int) (w : World) (V : Vgr 106 w b T pp ep false) (P : Plt tp rest w pp ep u l) (hbp : b ∉ fp pp u) (hI : Inv T) (e0 : 1 ≤ ep) (e1 : ep ≤ 100) :
  Calls Tryz.prog 68 #[.pointer (some ⟨b, 0, none⟩), odV o, .int .i64 keep] w fun x w' =>
   ((doT T o).2.code ≠ 0 ∧ x = .returned (.int .i64 (doT T o).2.code) ∧ Chg [] w w') ∨
   ((doT T o).2.code = 0 ∧ 1500 < l.length + keepN keep ∧ x = .returned (.int .i64 8) ∧ ∃ u', Vgr 106 w' b T pp ep false ∧ Plt tp rest w' pp ep u' l ∧ Chg [b, pp] w w' ∧ Pnx w u u') ∨
   ((doT T o).2.code = 0 ∧ ¬ 1500 < l.length + keepN keep ∧ x = .returned (.int .i64 0) ∧ ∃ u', Vgr 106 w' b T pp ep true ∧ Plt tp rest w' pp ep u' (l ++ tornL ep o keep) ∧ Chg [b, pp] w w' ∧ Pnx w u u') := by
 have HV := hide V
 have HP := hide P
 have HB := hide hbp
 have HI := hide hI
 have lb := V.lt
 have lP := hide P.fp_lt
 have lpp : pp < w.heap.size := P.fp_lt pp (mem_fp.2 (.inl rfl))
 clear V P hbp hI
 unfold odV
 go_enter Tryz.func68, Tryz.ntmps68
 have tok : True := trivial
 go_wp2_with (first
  | (have _t := tok; refine wpList_load_vgr rfl _ rfl b rfl (ty' := 106) (T := T) (pp := pp) (e := ep) (dn := false) ?hs ?_; (case hs => exact (unhide HV).alloc _))
  | (have _t := tok; clear tok; refine wpList_store_tab 103 brdInfo rfl _ _ rfl (w.heap.size + 1) rfl T rfl 103 T0 ?hr ?_; (case hr => exact Blk.new1 w _ _ _); intro w2 X2 g2 z2; have V2 := (((unhide HV).alloc _).alloc _).chg g2 (by simp; omega); have P2 := (((unhide HP).alloc _).alloc _).chg g2 (by intro x hx hf; simp at hx; have := unhide lP x hf; omega); have O2 := ((Blk.new w #[.int .i64 o.k, .int .i64 o.now, .int .i64 o.jb, .int .i64 o.tr, .int .i64 o.wk, .int .i64 o.tm] 83).alloc (.cells T0.cells 103)).chg g2 (by simp); have G2 : Chg [] w w2 := (((Chg.refl [] w).alloc _).alloc _).trans g2 (by simp); obtain ⟨o0, o1, o2, o3, o4, o5⟩ := O2.six; have lO := O2.lt; clear g2 z2))
 refine (vord_go b T pp ep u l o keep _ V2 P2 (unhide HB) (unhide HI) e0 e1).mono ?_
 have z2 := G2.size
 have lx2 := X2.lt
 rintro x w3 (⟨hc, rfl, g3⟩ | ⟨hc, hf, rfl, u3, V3, P3, g3, n3⟩ | ⟨hc, hf, rfl, u3, V3, P3, g3, n3⟩)
 ·have hcb : ((doT T o).2.code == 0) = false := by simpa using hc
  have HC := hide hc
  have G3 := G2.trans g3 (by simp)
  clear hc g3 o0 o1 o2 o3 o4 o5
  unfold ansV
  go_wp2
  go_ret
  exact .inl ⟨unhide HC, rfl, G3.alloc _⟩
 ·have G3 : Chg [b, pp] w w3 := (G2.wide (cs := [b, pp]) (by simp)).trans g3 (fun x hx => .inl hx)
  have HC := hide hc
  clear hc g3 o0 o1 o2 o3 o4 o5
  unfold ansV
  go_wp2
  go_ret
  exact .inr (.inl ⟨unhide HC, hf, rfl, u3, V3.alloc _, P3.alloc _, G3.alloc _, n3.mono z2⟩)
 ·have G3 : Chg [b, pp] w w3 := (G2.wide (cs := [b, pp]) (by simp)).trans g3 (fun x hx => .inl hx)
  have X3 := X2.chg g3 (by simp; omega)
  have HC := hide hc
  have hcb : ((doT T o).2.code == 0) = true := by simpa using hc
  clear hc g3 o0 o1 o2 o3 o4 o5
  have lV := V3.lt
  have lX := X3.lt
  have tok : True := trivial
  unfold ansV
  go_wp2_with (first
   | (have _t := tok; refine wpList_load_tab 103 brdRow brdInfo rfl _ rfl (w.heap.size + 1) rfl 103 T ?hs ?_; (case hs => exact X3.alloc _))
   | (have _t := tok; clear tok; refine wpList_store_vgr rfl _ _ rfl b rfl T rfl (V3.alloc _) ?_; intro w6 V6 g6 z6; have Y6 := (Blk.new w3 #[.int .i64 (doT T o).2.code, .int .i64 (doT T o).2.jb, .int .i64 (doT T o).2.tr] 95).chg g6 (by simp; omega); obtain ⟨y0, y1, y2, -, -, -⟩ := Y6.three; have P6 := (P3.alloc _).chg g6 (by intro x hx hf; simp at hx; subst hx; rcases mem_fp.1 hf with e | e <;> first | exact unhide HB (mem_fp.2 (.inl e)) | (rcases n3 _ e with e2 | e2; exact unhide HB (mem_fp.2 (.inr e2)); omega)); have G6 := (G3.alloc _).trans g6 (by intro x hx; simp at hx; subst hx; exact .inl (by simp)); obtain ⟨t0, t1, t2, tf, tb⟩ := V6.tail; have lY := Y6.lt; clear g6 z6))
  go_ret
  have hx3 : b ∉ fp pp u3 := fun hf => by
   rcases mem_fp.1 hf with e | e
   ·exact unhide HB (mem_fp.2 (.inl e))
   ·rcases n3 _ e with e2 | e2
    ·exact unhide HB (mem_fp.2 (.inr e2))
    ·omega
  exact .inr (.inr ⟨unhide HC, hf, ret_int (unhide HC), u3, V6.setDown true, P6.chg ((Chg.refl [b] w6).setCell (p := ⟨b, 27, none⟩) (by simp) _) (by simpa using hx3), G6.setCell (by simp) _, n3.mono z2⟩)
def Vn (w : World) (b pp : Nat) (n : Nd) : Prop := Vgr 106 w b n.T pp n.e n.dn
theorem Vn.chg {w w' : World} {b pp : Nat} {n : Nd} (h : Vn w b pp n) {bs : List Nat} (k : Chg bs w w') (hb : b ∉ bs) : Vn w' b pp n := Vgr.chg h k hb
theorem Vn.lt {w : World} {b pp : Nat} {n : Nd} (h : Vn w b pp n) : b < w.heap.size := Vgr.lt h
theorem vord_all {tp : TypeId} {rest : Array Value} (b pp : Nat) (n : Nd) (d : Dk) (u : Value) (o : Od) (w : World) (V : Vn w b pp n) (P : Plt tp rest w pp d.ep u d.l) (hbp : b ∉ fp pp u) (hI : Inv n.T) (e0 : 1 ≤ d.ep) (e1 : d.ep ≤ 100) :
  Calls Tryz.prog 67 #[.pointer (some ⟨b, 0, none⟩), odV o, .int .i64 9] w fun x w' =>
   x = .returned (ansV (ordA d n o)) ∧ ∃ u', Vn w' b pp (ordN d n o) ∧ Plt tp rest w' pp d.ep u' (wrD d n o 9).l ∧ Chg [b, pp] w w' ∧ Pnx w u u' := by
 cases hd : n.dn
 ·by_cases he : d.ep = n.e
  ·have V' : Vgr 106 w b n.T pp d.ep false := by unfold Vn at V; rw [hd, ← he] at V; exact V
   refine (vord_go b n.T pp d.ep u d.l o 9 w V' P hbp hI e0 e1).mono ?_
   rintro x w' (⟨hc, rfl, g⟩ | ⟨hc, hf, rfl, u', V2, P2, g, nx⟩ | ⟨hc, hf, rfl, u', V2, P2, g, nx⟩)
   ·have hw : ¬ wrC d n o 9 = 0 := by rw [wr_ref hd he hc]; exact hc
    obtain ⟨o1, o2⟩ := ord_no hw
    rw [o2, wr_ref hd he hc, ← (doT_ref hc).1]
    refine ⟨rfl, u, ?_, ?_, g.wide (by simp), Pnx.same _ _⟩
    ·rw [o1, dnx_serves hd he, ← hd]; exact V.chg g (by simp)
    ·rw [wrD_no hw]; exact P.chg g (by simp)
   ·have hw8 := wr_full (keep := 9) hd he hc hf
    have hw : ¬ wrC d n o 9 = 0 := by rw [hw8]; decide
    obtain ⟨o1, o2⟩ := ord_no hw
    rw [o2, hw8]
    refine ⟨rfl, u', ?_, ?_, g, nx⟩
    ·rw [o1, dnx_serves hd he]; show Vgr _ _ _ n.T pp n.e false; rw [← he]; exact V2
    ·rw [wrD_no hw]; exact P2
   ·have hw := wr_yes (keep := 9) hd he hc hf
    obtain ⟨o1, o2⟩ := ord_yes hw
    rw [o2]
    refine ⟨rfl, u', ?_, ?_, g, nx⟩
    ·rw [o1, dnx_serves hd he]; show Vgr _ _ _ (doT n.T o).1 pp n.e false; rw [← he]; exact V2
    ·rw [wrD_yes hw]; exact P2
  ·have V' : Vgr 106 w b n.T pp n.e false := by unfold Vn at V; rw [hd] at V; exact V
   refine (vord_fenced b n.T pp n.e d.ep u d.l o 9 w V' P he).mono ?_
   rintro x w' ⟨rfl, V2, g⟩
   have hw9 := wr_fenced (o := o) (keep := 9) hd he
   have hw : ¬ wrC d n o 9 = 0 := by rw [hw9]; decide
   obtain ⟨o1, o2⟩ := ord_no hw
   rw [o2, hw9]
   refine ⟨rfl, u, ?_, ?_, g.wide (by simp), Pnx.same _ _⟩
   ·rw [o1, dnx_fenced he]; exact V2
   ·rw [wrD_no hw]; exact P.chg g (by intro x hx; simp at hx; subst hx; exact hbp)
 ·have V' : Vgr 106 w b n.T pp n.e true := by unfold Vn at V; rw [hd] at V; exact V
  refine (vord_down b n.T pp n.e o 9 w V').mono ?_
  rintro x w' ⟨rfl, g⟩
  have hw9 := wr_down (d := d) (o := o) (keep := 9) hd
  have hw : ¬ wrC d n o 9 = 0 := by rw [hw9]; decide
  obtain ⟨o1, o2⟩ := ord_no hw
  rw [o2, hw9]
  refine ⟨rfl, u, ?_, ?_, g.wide (by simp), Pnx.same _ _⟩
  ·rw [o1, dnx_down hd, ← hd]; exact V.chg g (by simp)
  ·rw [wrD_no hw]; exact P.chg g (by simp)
theorem vtear_all {tp : TypeId} {rest : Array Value} (b pp : Nat) (n : Nd) (d : Dk) (u : Value) (o : Od) (keep : Int) (w : World) (V : Vn w b pp n) (P : Plt tp rest w pp d.ep u d.l) (hbp : b ∉ fp pp u) (hI : Inv n.T) (e0 : 1 ≤ d.ep) (e1 : d.ep ≤ 100) :
  Calls Tryz.prog 68 #[.pointer (some ⟨b, 0, none⟩), odV o, .int .i64 keep] w fun x w' =>
   x = .returned (.int .i64 (wrC d n o keep)) ∧ ∃ u', Vn w' b pp (tearN d n o keep) ∧ Plt tp rest w' pp d.ep u' (wrD d n o keep).l ∧ Chg [b, pp] w w' ∧ Pnx w u u' := by
 have tn : ¬ wrC d n o keep = 0 → tearN d n o keep = ⟨n.T, n.e, dnx d n⟩ := fun h => by unfold tearN; simp [h]
 have ty : wrC d n o keep = 0 → tearN d n o keep = ⟨n.T, n.e, true⟩ := fun h => by unfold tearN; simp [h]
 cases hd : n.dn
 ·by_cases he : d.ep = n.e
  ·have V' : Vgr 106 w b n.T pp d.ep false := by unfold Vn at V; rw [hd, ← he] at V; exact V
   refine (vtear_go b n.T pp d.ep u d.l o keep w V' P hbp hI e0 e1).mono ?_
   rintro x w' (⟨hc, rfl, g⟩ | ⟨hc, hf, rfl, u', V2, P2, g, nx⟩ | ⟨hc, hf, rfl, u', V2, P2, g, nx⟩)
   ·have hw : ¬ wrC d n o keep = 0 := by rw [wr_ref hd he hc]; exact hc
    rw [tn hw, wrD_no hw, wr_ref hd he hc]
    exact ⟨rfl, u, by rw [dnx_serves hd he, ← hd]; exact V.chg g (by simp), P.chg g (by simp), g.wide (by simp), Pnx.same _ _⟩
   ·have hw8 := wr_full (keep := keep) hd he hc hf
    have hw : ¬ wrC d n o keep = 0 := by rw [hw8]; decide
    rw [tn hw, wrD_no hw, hw8]
    exact ⟨rfl, u', by rw [dnx_serves hd he]; show Vgr _ _ _ n.T pp n.e false; rw [← he]; exact V2, P2, g, nx⟩
   ·have hw := wr_yes (keep := keep) hd he hc hf
    rw [ty hw, wrD_yes hw, hw]
    exact ⟨rfl, u', by show Vgr _ _ _ n.T pp n.e true; rw [← he]; exact V2, P2, g, nx⟩
  ·have V' : Vgr 106 w b n.T pp n.e false := by unfold Vn at V; rw [hd] at V; exact V
   refine (vtear_fenced b n.T pp n.e d.ep u d.l o keep w V' P he).mono ?_
   rintro x w' ⟨rfl, V2, g⟩
   have hw9 := wr_fenced (o := o) (keep := keep) hd he
   have hw : ¬ wrC d n o keep = 0 := by rw [hw9]; decide
   rw [tn hw, wrD_no hw, hw9]
   exact ⟨rfl, u, by rw [dnx_fenced he]; exact V2, P.chg g (by intro x hx; simp at hx; subst hx; exact hbp), g.wide (by simp), Pnx.same _ _⟩
 ·have V' : Vgr 106 w b n.T pp n.e true := by unfold Vn at V; rw [hd] at V; exact V
  refine (vtear_down b n.T pp n.e o keep w V').mono ?_
  rintro x w' ⟨rfl, g⟩
  have hw9 := wr_down (d := d) (o := o) (keep := keep) hd
  have hw : ¬ wrC d n o keep = 0 := by rw [hw9]; decide
  rw [tn hw, wrD_no hw, hw9]
  exact ⟨rfl, u, by rw [dnx_down hd, ← hd]; exact V.chg g (by simp), P.chg g (by simp), g.wide (by simp), Pnx.same _ _⟩
end Go.Proofs.YtllnjiljjodfdacGreatDoor
