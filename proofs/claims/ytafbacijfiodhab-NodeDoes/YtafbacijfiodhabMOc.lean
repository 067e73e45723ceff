/-
  Do both sides of a crew tell the same? Nothing here is claimed by itself.
-/
import Derived.Test.YtafbacijfiodhabMgOa
namespace Go.Proofs.Ytafbacijfiodhab
open Go.RowKit

set_option maxRecDepth 100000 in
set_option maxHeartbeats 8000000 in
theorem csame_any (W0 : World) (m : Mm) (s : St) (w : World) (C : Crw W0 w m s) (hS : Same s) :
    Calls Try.prog 21 #[.pointer (some ⟨m.cb, 0, none⟩)] w fun e w' => e = .returned (.bool true) ∧ Chg [] w w' := by
  have lcb := C.blk.lt
  have Cd : Crw W0 w.drew m s := C.same ((Chg.refl [] w).drew)
  have Pd : Plt 83 w.drew m.pb s.d.ep m.u s.d.l := by have := Cd.plt; rw [hS.1] at this; exact this
  have lpb := Pd.blk.lt
  obtain ⟨au, cu, eu⟩ := sl_slice Pd.sl
  have HEU := hide eu
  clear eu
  go_enter Try.func21, Try.ntmps21
  go_wp2_with fail
  refine wp_region_noPanic ?_
  refine wp_region_held_drew (S := (fun W => W.cell? ⟨m.cb, 0, none⟩ = some (.pointer (some ⟨m.db, 0, none⟩)) ∧ W.cell? ⟨m.cb, 1, none⟩ = some (.pointer (some ⟨m.pb, 0, none⟩)) ∧ W.cell? ⟨m.pb, 0, none⟩ = some (.int .i64 s.d.ep) ∧ W.cell? ⟨m.pb, 1, none⟩ = some m.u ∧ (convert 27 9 m.u).run Try.prog W = .ok (.string (strOfNums s.d.l)) W)) (by kernel_rfl) ⟨C.blk.cell 0, C.blk.cell 1, Pd.blk.cell 0, Pd.blk.cell 1, kStr _ _ _ Pd.sl⟩ (fun hH => ?_)
  refine wpAnyH_take (i := 0) (v := ?_) rfl (by kernel_rfl) (by kernel_rfl) (by kernel_rfl) (fun _ _ _ h => h) (Or.inl ⟨by rfl, ?hzq1⟩) hH ?rzq1
  case hzq1 => (intro W' hSw; (try dsimp only at hSw); go_simp; try with_reducible rfl)
  walk_nrm
  refine wpAnyH_take (i := 1) (v := ?_) rfl (by kernel_rfl) (by kernel_rfl) (by kernel_rfl) (fun _ _ _ h => h) (Or.inl ⟨by rfl, ?hzq2⟩) hH ?rzq2
  case hzq2 => (intro W' hSw; (try dsimp only at hSw); go_simp; try with_reducible rfl)
  walk_nrm
  refine wpAnyH_take (i := 2) (v := ?_) rfl (by kernel_rfl) (by kernel_rfl) (by kernel_rfl) (fun _ _ _ h => h) (Or.inl ⟨by rfl, ?hzq3⟩) hH ?rzq3
  case hzq3 => (intro W' hSw; (try dsimp only at hSw); go_simp; try with_reducible rfl)
  walk_nrm
  refine wpAnyH_take (i := 3) (v := ?_) rfl (by kernel_rfl) (by kernel_rfl) (by kernel_rfl) (fun _ _ _ h => h) (Or.inl ⟨by rfl, ?hzq4⟩) hH ?rzq4
  case hzq4 => (intro W' hSw; (try dsimp only at hSw); obtain ⟨s1, s2, s3, s4, s5⟩ := hSw; go_simp; try with_reducible rfl)
  walk_nrm
  refine wpAnyH_take (i := 5) (v := ?_) rfl (by kernel_rfl) (by kernel_rfl) (by kernel_rfl) (fun _ _ _ h => h) (Or.inl ⟨by rfl, ?hzq5⟩) hH ?rzq5
  case hzq5 => (intro W' hSw; (try dsimp only at hSw); go_simp; try with_reducible rfl)
  walk_nrm
  refine wpAnyH_take (i := 6) (v := ?_) rfl (by kernel_rfl) (by kernel_rfl) (by kernel_rfl) (fun _ _ _ h => h) (Or.inl ⟨by rfl, ?hzq6⟩) hH ?rzq6
  case hzq6 => (intro W' hSw; (try dsimp only at hSw); go_simp; try with_reducible rfl)
  walk_nrm
  refine wpAnyH_take (i := 7) (v := ?_) rfl (by kernel_rfl) (by kernel_rfl) (by kernel_rfl) (fun _ _ _ h => h) (Or.inl ⟨by rfl, ?hzq7⟩) hH ?rzq7
  case hzq7 => (intro W' hSw; (try dsimp only at hSw); go_simp; try with_reducible rfl)
  walk_nrm
  refine wpAnyH_take (i := 8) (v := ?_) rfl (by kernel_rfl) (by kernel_rfl) (by kernel_rfl) (fun _ _ _ h => h) (Or.inl ⟨by rfl, ?hzq8⟩) hH ?rzq8
  case hzq8 => (intro W' hSw; (try dsimp only at hSw); obtain ⟨s1, s2, s3, s4, s5⟩ := hSw; go_simp; try with_reducible rfl)
  walk_nrm
  refine wpAnyH_take (i := 9) (v := ?_) rfl (by kernel_rfl) (by kernel_rfl) (by kernel_rfl) (fun _ _ _ h => h) (Or.inl ⟨by rfl, ?hzq9⟩) hH ?rzq9
  case hzq9 => (intro W' hSw; (try dsimp only at hSw); go_simp; try with_reducible rfl)
  walk_nrm
  refine wpAnyH_take (i := 10) (v := ?_) rfl (by kernel_rfl) (by kernel_rfl) (by kernel_rfl) (fun _ _ _ h => h) (Or.inl ⟨by rfl, ?hzq10⟩) hH ?rzq10
  case hzq10 => (intro W' hSw; (try dsimp only at hSw); go_simp; try with_reducible rfl)
  walk_nrm
  refine wpAnyH_take (i := 11) (v := ?_) rfl (by kernel_rfl) (by kernel_rfl) (by kernel_rfl) (fun _ _ _ h => h) (Or.inl ⟨by rfl, ?hzq11⟩) hH ?rzq11
  case hzq11 => (intro W' hSw; (try dsimp only at hSw); obtain ⟨s1, s2, s3, s4, s5⟩ := hSw; go_simp; try with_reducible rfl)
  walk_nrm
  refine wpAnyH_ready (rs := [4]) (by kernel_rfl) (by simp) ?_
  refine AllReadyH.cons rfl (fun K hK => ?_) AllReadyH.nil
  rw [if_pos (by rfl)]
  go_simp
  refine (depoch_any m.db s.d.ep m.v s.d.l W0.heap.size _ Cd.dsk).mono ?_
  rintro e w' ⟨rfl, rfl⟩
  refine hK.out _ _ hH (fun hH2 => ?_)
  clear hK K hH
  have hH := hH2
  clear hH2
  walk_nrm
  refine wpAnyH_take (i := 12) (v := .bool false) rfl (by kernel_rfl) (by kernel_rfl) (by kernel_rfl) (fun _ _ _ h => h) (Or.inl ⟨by rfl, ?hzq12⟩) hH ?rzq12
  case hzq12 => (intro W' hSw; (try dsimp only at hSw); go_simp; (try simp); try with_reducible rfl)
  walk_nrm
  refine wpAnyH_take (i := 13) (v := ?_) rfl (by kernel_rfl) (by kernel_rfl) (by kernel_rfl) (fun _ _ _ h => h) (Or.inl ⟨by rfl, ?hzq13⟩) hH ?rzq13
  case hzq13 => (intro W' hSw; (try dsimp only at hSw); go_simp; try with_reducible rfl)
  walk_nrm
  refine wpAnyH_take (i := 14) (v := ?_) rfl (by kernel_rfl) (by kernel_rfl) (by kernel_rfl) (fun _ _ _ h => h) (Or.inl ⟨by rfl, ?hzq14⟩) hH ?rzq14
  case hzq14 => (intro W' hSw; (try dsimp only at hSw); go_simp; try with_reducible rfl)
  walk_nrm
  refine wpAnyH_take (i := 15) (v := ?_) rfl (by kernel_rfl) (by kernel_rfl) (by kernel_rfl) (fun _ _ _ h => h) (Or.inl ⟨by rfl, ?hzq15⟩) hH ?rzq15
  case hzq15 => (intro W' hSw; (try dsimp only at hSw); go_simp; try with_reducible rfl)
  walk_nrm
  refine wpAnyH_take (i := 16) (v := ?_) rfl (by kernel_rfl) (by kernel_rfl) (by kernel_rfl) (fun _ _ _ h => h) (Or.inl ⟨by rfl, ?hzq16⟩) hH ?rzq16
  case hzq16 => (intro W' hSw; (try dsimp only at hSw); go_simp; try with_reducible rfl)
  walk_nrm
  refine wpAnyH_take (i := 17) (v := ?_) rfl (by kernel_rfl) (by kernel_rfl) (by kernel_rfl) (fun _ _ _ h => h) (Or.inl ⟨by rfl, ?hzq17⟩) hH ?rzq17
  case hzq17 => (intro W' hSw; (try dsimp only at hSw); obtain ⟨s1, s2, s3, s4, s5⟩ := hSw; go_simp; try with_reducible rfl)
  walk_nrm
  refine wpAnyH_take (i := 20) (v := ?_) rfl (by kernel_rfl) (by kernel_rfl) (by kernel_rfl) (fun _ _ _ h => h) (Or.inl ⟨by rfl, ?hzq18⟩) hH ?rzq18
  case hzq18 => (intro W' hSw; (try dsimp only at hSw); go_simp; try with_reducible rfl)
  walk_nrm
  refine wpAnyH_take (i := 21) (v := ?_) rfl (by kernel_rfl) (by kernel_rfl) (by kernel_rfl) (fun _ _ _ h => h) (Or.inl ⟨by rfl, ?hzq19⟩) hH ?rzq19
  case hzq19 => (intro W' hSw; (try dsimp only at hSw); go_simp; try with_reducible rfl)
  walk_nrm
  refine wpAnyH_take (i := 22) (v := ?_) rfl (by kernel_rfl) (by kernel_rfl) (by kernel_rfl) (fun _ _ _ h => h) (Or.inl ⟨by rfl, ?hzq20⟩) hH ?rzq20
  case hzq20 => (intro W' hSw; (try dsimp only at hSw); go_simp; try with_reducible rfl)
  walk_nrm
  refine wpAnyH_take (i := 23) (v := ?_) rfl (by kernel_rfl) (by kernel_rfl) (by kernel_rfl) (fun _ _ _ h => h) (Or.inl ⟨by rfl, ?hzq21⟩) hH ?rzq21
  case hzq21 => (intro W' hSw; (try dsimp only at hSw); obtain ⟨s1, s2, s3, s4, s5⟩ := hSw; go_simp; try with_reducible rfl)
  walk_nrm
  refine wpAnyH_take (i := 24) (v := ?_) rfl (by kernel_rfl) (by kernel_rfl) (by kernel_rfl) (fun _ _ _ h => h) (Or.inl ⟨by rfl, ?hzq22⟩) hH ?rzq22
  case hzq22 => (intro W' hSw; (try dsimp only at hSw); go_simp; try with_reducible rfl)
  walk_nrm
  refine wpAnyH_take (i := 25) (v := ?_) rfl (by kernel_rfl) (by kernel_rfl) (by kernel_rfl) (fun _ _ _ h => h) (Or.inl ⟨by rfl, ?hzq23⟩) hH ?rzq23
  case hzq23 => (intro W' hSw; (try dsimp only at hSw); go_simp; try with_reducible rfl)
  walk_nrm
  refine wpAnyH_take (i := 26) (v := ?_) rfl (by kernel_rfl) (by kernel_rfl) (by kernel_rfl) (fun _ _ _ h => h) (Or.inl ⟨by rfl, ?hzq24⟩) hH ?rzq24
  case hzq24 => (intro W' hSw; (try dsimp only at hSw); obtain ⟨s1, s2, s3, s4, s5⟩ := hSw; go_simp; try with_reducible rfl)
  walk_nrm
  refine wpAnyH_take (i := 27) (v := ?_) rfl (by kernel_rfl) (by kernel_rfl) (by kernel_rfl) (fun _ _ _ h => h) (Or.inl ⟨by rfl, ?hzq25⟩) hH ?rzq25
  case hzq25 => (intro W' hSw; (try dsimp only at hSw); obtain ⟨s1, s2, s3, s4, s5⟩ := hSw; go_simp; try with_reducible rfl)
  walk_nrm
  refine wpAnyH_ready (rs := [18]) (by kernel_rfl) (by simp) ?_
  refine AllReadyH.cons rfl (fun K hK => ?_) AllReadyH.nil
  rw [if_pos (by rfl)]
  go_simp
  refine (dbytes_any m.db s.d.ep m.v s.d.l W0.heap.size _ Cd.dsk).mono ?_
  rintro e w8 ⟨v8, rfl, own8, g8⟩
  have hc8 := kStr _ w8 v8 (own_sl own8)
  have C8 := Cd.same g8
  have P8 : Plt 83 w8 m.pb s.d.ep m.u s.d.l := by have := C8.plt; rw [hS.1] at this; exact this
  have G8 : Chg [] w w8 := ((Chg.refl [] w).drew).trans g8 (by simp)
  clear g8 own8
  refine hK.out _ _ ⟨C8.blk.cell 0, C8.blk.cell 1, P8.blk.cell 0, P8.blk.cell 1, kStr _ _ _ P8.sl⟩ (fun hH2 => ?_)
  clear hK K hH
  have hH := hH2
  clear hH2
  walk_nrm
  refine wpAnyH_ready (rs := [19]) (by kernel_rfl) (by simp) ?_
  refine AllReadyH.cons rfl (fun K hK => ?_) AllReadyH.nil
  rw [if_pos (by rfl)]
  go_simp
  refine hK.out _ _ hH (fun hH2 => ?_)
  clear hK K hH
  have hH := hH2
  clear hH2
  walk_nrm
  refine wpAnyH_take (i := 28) (v := .bool false) rfl (by kernel_rfl) (by kernel_rfl) (by kernel_rfl) (fun _ _ _ h => h) (Or.inl ⟨by rfl, ?hzq26⟩) hH ?rzq26
  case hzq26 => (intro W' hSw; (try dsimp only at hSw); go_simp; (try simp); try with_reducible rfl)
  walk_nrm
  refine wpAnyH_take (i := 29) (v := ?_) rfl (by kernel_rfl) (by kernel_rfl) (by kernel_rfl) (fun _ _ _ h => h) (Or.inl ⟨by rfl, ?hzq27⟩) hH ?rzq27
  case hzq27 => (intro W' hSw; (try dsimp only at hSw); go_simp; try with_reducible rfl)
  walk_nrm
  refine wpAnyH_done (by kernel_rfl) ?_ _
  refine NoPanic.normal ?_
  clear hH hc8 P8 Pd Cd lpb
  have hk8 := C8.few
  go_wp2_with fail
  go_loopw [3] (fun i wr => ∃ k : Nat, k ≤ s.k ∧ i = .int .i64 k ∧ Crw W0 wr m s ∧ Chg [] w wr) (fun i _ => s.k - (intOf i).toNat)
  case atStart => exact ⟨0, by omega, rfl, C8, G8⟩
  case round =>
    clear C8 G8
    obtain ⟨i, hi, rfl, C, G⟩ := hrel
    by_cases hlt : i < s.k
    · have hki : (i : Int) < (s.k : Int) := by omega
      have hi0 : (0 : Int) ≤ (i : Int) := by omega
      obtain ⟨gn, cn, en, hcn, ogn, lgn, wgn, cgn⟩ := C.rcell hlt
      obtain ⟨gv, cv, ev, hcv, ogv, lgv, wgv, cgv⟩ := C.vcell hlt
      have c2 : wr.cell? ⟨m.cb, 2, none⟩ = some (.slice (some ⟨gn, 0, none⟩) s.k cn) := (C.blk.cell 2).trans (congrArg some en)
      have c3 : wr.cell? ⟨m.cb, 3, none⟩ = some (.slice (some ⟨gv, 0, none⟩) s.k cv) := (C.blk.cell 3).trans (congrArg some ev)
      have lcb := C.blk.lt
      have N := C.nod i hlt
      have V := C.vgr i hlt
      rw [hS.2 i hlt] at V
      obtain ⟨n0, -, -, -, ln, -⟩ := N.cells
      obtain ⟨t0, t1, t2, -, lv⟩ := Vgr.tail V
      have vn := Vgr.nowC V
      have HN := hide N
      have HC := hide C
      have HG := hide G
      clear N V C G en ev hcn hcv ogn ogv wgn wgv
      go_wp2_with fail
      go_quiet ((first
        | (go_at_call 26; exact Calls.quiet_of_same (nepoch_any (m.nb i) (m.tb i) m.db (s.ns i) _ ⟨(unhide HN).1, (unhide HN).2⟩))
        | (go_at_call 25; exact Calls.quiet_of_same (ndown_any (m.nb i) (m.tb i) m.db (s.ns i) _ ⟨(unhide HN).1, (unhide HN).2⟩))
        | (go_at_call 33; exact Calls.quiet_of_same (now_any (m.tb i) (s.ns i).T _ (unhide HN).2))))
      have C9 : Crw W0 (wr.drewN nq) m s := (unhide HC).same ((Chg.refl [] wr).drewN nq)
      have G9 : Chg [] w (wr.drewN nq) := (unhide HG).drewN nq
      clear HN HC HG c2 c3 cgn cgv n0 t0 t1 t2 vn ln lv lgn lgv lcb
      generalize hW9 : World.drewN wr nq = w9 at *
      clear hW9
      go_wp2_with fail
      go_loopw [4] (fun jx wr => ∃ j : Nat, j ≤ 6 ∧ jx = .int .i64 j ∧ Crw W0 wr m s ∧ Chg [] w wr) (fun jx _ => 6 - (intOf jx).toNat)
      case atStart => exact ⟨0, by omega, rfl, C9, G9⟩
      case round =>
        clear C9 G9
        obtain ⟨j, hj, rfl, C, G⟩ := hrel
        by_cases hj6 : j < 6
        · have hji : decide ((j : Int) < 6) = true := by simp; omega
          have hi := hlt
          have Cd : Crw W0 wr.drew m s := C.same ((Chg.refl [] wr).drew)
          obtain ⟨gn, cn, en, hcn, ogn, lgn, wgn, cgn⟩ := C.rcell hlt
          obtain ⟨gv, cv, ev, hcv, ogv, lgv, wgv, cgv⟩ := C.vcell hlt
          have c2 : wr.cell? ⟨m.cb, 2, none⟩ = some (.slice (some ⟨gn, 0, none⟩) s.k cn) := (C.blk.cell 2).trans (congrArg some en)
          have c3 : wr.cell? ⟨m.cb, 3, none⟩ = some (.slice (some ⟨gv, 0, none⟩) s.k cv) := (C.blk.cell 3).trans (congrArg some ev)
          have lcb := C.blk.lt
          clear en ev hcn hcv ogn ogv wgn wgv
          go_wp2_with fail
          refine wp_region_noPanic ?_
          refine wp_region_held_drew (S := (fun W => W.cell? ⟨m.cb, 2, none⟩ = some (.slice (some ⟨gn, 0, none⟩) s.k cn) ∧ W.cell? ⟨m.cb, 3, none⟩ = some (.slice (some ⟨gv, 0, none⟩) s.k cv) ∧ W.cell? ⟨gn, i, none⟩ = some (.pointer (some ⟨m.nb i, 0, none⟩)) ∧ W.cell? ⟨gv, i, none⟩ = some (.pointer (some ⟨m.vb i, 0, none⟩)) ∧ W.cell? ⟨m.nb i, 0, none⟩ = some (.pointer (some ⟨m.tb i, 0, none⟩)))) (by kernel_rfl) ⟨c2, c3, cgn, cgv, (C.nod i hi).1.cell 0⟩ (fun hH => ?_)
          refine wpAnyH_take (i := 0) (v := ?_) rfl (by kernel_rfl) (by kernel_rfl) (by kernel_rfl) (fun _ _ _ h => h) (Or.inl ⟨by rfl, ?hzq28⟩) hH ?rzq28
          case hzq28 => (intro W' hSw; (try dsimp only at hSw); go_simp; try with_reducible rfl)
          walk_nrm
          refine wpAnyH_take (i := 1) (v := ?_) rfl (by kernel_rfl) (by kernel_rfl) (by kernel_rfl) (fun _ _ _ h => h) (Or.inl ⟨by rfl, ?hzq29⟩) hH ?rzq29
          case hzq29 => (intro W' hSw; (try dsimp only at hSw); go_simp; try with_reducible rfl)
          walk_nrm
          refine wpAnyH_take (i := 2) (v := ?_) rfl (by kernel_rfl) (by kernel_rfl) (by kernel_rfl) (fun _ _ _ h => h) (Or.inl ⟨by rfl, ?hzq30⟩) hH ?rzq30
          case hzq30 => (intro W' hSw; (try dsimp only at hSw); go_simp; try with_reducible rfl)
          walk_nrm
          refine wpAnyH_take (i := 3) (v := ?_) rfl (by kernel_rfl) (by kernel_rfl) (by kernel_rfl) (fun _ _ _ h => h) (Or.inl ⟨by rfl, ?hzq31⟩) hH ?rzq31
          case hzq31 => (intro W' hSw; (try dsimp only at hSw); obtain ⟨s1, s2, s3, s4, s5⟩ := hSw; go_simp; try with_reducible rfl)
          walk_nrm
          refine wpAnyH_take (i := 4) (v := ?_) rfl (by kernel_rfl) (by kernel_rfl) (by kernel_rfl) (fun _ _ _ h => h) (Or.inl ⟨by rfl, ?hzq32⟩) hH ?rzq32
          case hzq32 => (intro W' hSw; (try dsimp only at hSw); go_simp; try with_reducible rfl)
          walk_nrm
          refine wpAnyH_take (i := 5) (v := ?_) rfl (by kernel_rfl) (by kernel_rfl) (by kernel_rfl) (fun _ _ _ h => h) (Or.inl ⟨by rfl, ?hzq33⟩) hH ?rzq33
          case hzq33 => (intro W' hSw; (try dsimp only at hSw); go_simp; try with_reducible rfl)
          walk_nrm
          refine wpAnyH_take (i := 6) (v := ?_) rfl (by kernel_rfl) (by kernel_rfl) (by kernel_rfl) (fun _ _ _ h => h) (Or.inl ⟨by rfl, ?hzq34⟩) hH ?rzq34
          case hzq34 => (intro W' hSw; (try dsimp only at hSw); obtain ⟨s1, s2, s3, s4, s5⟩ := hSw; go_simp; try with_reducible rfl)
          walk_nrm
          refine wpAnyH_take (i := 7) (v := ?_) rfl (by kernel_rfl) (by kernel_rfl) (by kernel_rfl) (fun _ _ _ h => h) (Or.inl ⟨by rfl, ?hzq35⟩) hH ?rzq35
          case hzq35 => (intro W' hSw; (try dsimp only at hSw); go_simp; try with_reducible rfl)
          walk_nrm
          refine wpAnyH_take (i := 8) (v := ?_) rfl (by kernel_rfl) (by kernel_rfl) (by kernel_rfl) (fun _ _ _ h => h) (Or.inl ⟨by rfl, ?hzq36⟩) hH ?rzq36
          case hzq36 => (intro W' hSw; (try dsimp only at hSw); go_simp; try with_reducible rfl)
          walk_nrm
          refine wpAnyH_take (i := 9) (v := ?_) rfl (by kernel_rfl) (by kernel_rfl) (by kernel_rfl) (fun _ _ _ h => h) (Or.inl ⟨by rfl, ?hzq37⟩) hH ?rzq37
          case hzq37 => (intro W' hSw; (try dsimp only at hSw); obtain ⟨s1, s2, s3, s4, s5⟩ := hSw; go_simp; try with_reducible rfl)
          walk_nrm
          refine wpAnyH_take (i := 10) (v := ?_) rfl (by kernel_rfl) (by kernel_rfl) (by kernel_rfl) (fun _ _ _ h => h) (Or.inl ⟨by rfl, ?hzq38⟩) hH ?rzq38
          case hzq38 => (intro W' hSw; (try dsimp only at hSw); go_simp; try with_reducible rfl)
          walk_nrm
          refine wpAnyH_take (i := 12) (v := ?_) rfl (by kernel_rfl) (by kernel_rfl) (by kernel_rfl) (fun _ _ _ h => h) (Or.inl ⟨by rfl, ?hzq39⟩) hH ?rzq39
          case hzq39 => (intro W' hSw; (try dsimp only at hSw); go_simp; try with_reducible rfl)
          walk_nrm
          refine wpAnyH_take (i := 13) (v := ?_) rfl (by kernel_rfl) (by kernel_rfl) (by kernel_rfl) (fun _ _ _ h => h) (Or.inl ⟨by rfl, ?hzq40⟩) hH ?rzq40
          case hzq40 => (intro W' hSw; (try dsimp only at hSw); go_simp; try with_reducible rfl)
          walk_nrm
          refine wpAnyH_take (i := 14) (v := ?_) rfl (by kernel_rfl) (by kernel_rfl) (by kernel_rfl) (fun _ _ _ h => h) (Or.inl ⟨by rfl, ?hzq41⟩) hH ?rzq41
          case hzq41 => (intro W' hSw; (try dsimp only at hSw); go_simp; try with_reducible rfl)
          walk_nrm
          refine wpAnyH_take (i := 15) (v := ?_) rfl (by kernel_rfl) (by kernel_rfl) (by kernel_rfl) (fun _ _ _ h => h) (Or.inl ⟨by rfl, ?hzq42⟩) hH ?rzq42
          case hzq42 => (intro W' hSw; (try dsimp only at hSw); obtain ⟨s1, s2, s3, s4, s5⟩ := hSw; go_simp; try with_reducible rfl)
          walk_nrm
          refine wpAnyH_take (i := 16) (v := ?_) rfl (by kernel_rfl) (by kernel_rfl) (by kernel_rfl) (fun _ _ _ h => h) (Or.inl ⟨by rfl, ?hzq43⟩) hH ?rzq43
          case hzq43 => (intro W' hSw; (try dsimp only at hSw); go_simp; try with_reducible rfl)
          walk_nrm
          refine wpAnyH_take (i := 17) (v := ?_) rfl (by kernel_rfl) (by kernel_rfl) (by kernel_rfl) (fun _ _ _ h => h) (Or.inl ⟨by rfl, ?hzq44⟩) hH ?rzq44
          case hzq44 => (intro W' hSw; (try dsimp only at hSw); go_simp; try with_reducible rfl)
          walk_nrm
          refine wpAnyH_take (i := 18) (v := ?_) rfl (by kernel_rfl) (by kernel_rfl) (by kernel_rfl) (fun _ _ _ h => h) (Or.inl ⟨by rfl, ?hzq45⟩) hH ?rzq45
          case hzq45 => (intro W' hSw; (try dsimp only at hSw); obtain ⟨s1, s2, s3, s4, s5⟩ := hSw; go_simp; try with_reducible rfl)
          walk_nrm
          refine wpAnyH_take (i := 19) (v := ?_) rfl (by kernel_rfl) (by kernel_rfl) (by kernel_rfl) (fun _ _ _ h => h) (Or.inl ⟨by rfl, ?hzq46⟩) hH ?rzq46
          case hzq46 => (intro W' hSw; (try dsimp only at hSw); go_simp; try with_reducible rfl)
          walk_nrm
          refine wpAnyH_take (i := 20) (v := ?_) rfl (by kernel_rfl) (by kernel_rfl) (by kernel_rfl) (fun _ _ _ h => h) (Or.inl ⟨by rfl, ?hzq47⟩) hH ?rzq47
          case hzq47 => (intro W' hSw; (try dsimp only at hSw); go_simp; try with_reducible rfl)
          walk_nrm
          refine wpAnyH_take (i := 21) (v := ?_) rfl (by kernel_rfl) (by kernel_rfl) (by kernel_rfl) (fun _ _ _ h => h) (Or.inl ⟨by rfl, ?hzq48⟩) hH ?rzq48
          case hzq48 => (intro W' hSw; (try dsimp only at hSw); go_simp; try with_reducible rfl)
          walk_nrm
          refine wpAnyH_ready (rs := [11]) (by kernel_rfl) (by simp) ?_
          refine AllReadyH.cons rfl (fun K hK => ?_) AllReadyH.nil
          rw [if_pos (by rfl)]
          go_simp
          refine (job_all (m.tb i) j (s.ns i).T _ (Cd.nod i hi).2).mono ?_
          rintro e wa ⟨rfl, ga⟩
          have Ca := Cd.same ga
          have Ga : Chg [] w wa := (G.drew).trans ga (by simp)
          have ka : ∀ b jj, b < wr.heap.size → wa.cell? ⟨b, jj, none⟩ = wr.cell? ⟨b, jj, none⟩ := fun b jj hb => kCell ga (by exact hb) (by simp)
          have Va := Ca.vgr i hi
          rw [hS.2 i hi] at Va
          refine hK.out _ _ ⟨(ka _ _ lcb).trans hH.1, (ka _ _ lcb).trans hH.2.1, (ka _ _ lgn).trans hH.2.2.1, (ka _ _ lgv).trans hH.2.2.2.1, (Ca.nod i hi).1.cell 0⟩ (fun hH2 => ?_)
          clear hK K hH
          have hH := hH2
          clear hH2
          walk_nrm
          refine wpAnyH_ready (rs := [22]) (by kernel_rfl) (by simp) ?_
          refine AllReadyH.cons rfl (fun K hK => ?_) AllReadyH.nil
          rw [if_pos (by rfl)]
          go_simp
          refine (vjob_all (m.vb i) j (s.ns i).T m.pb (s.ns i).e (s.ns i).dn _ Va).mono ?_
          rintro e wb ⟨rfl, gb⟩
          have Cb := Ca.same gb
          have Gb : Chg [] w wb := Ga.trans gb (by simp)
          have za := Ga.size
          have kb : ∀ b jj, b < wa.heap.size → wb.cell? ⟨b, jj, none⟩ = wa.cell? ⟨b, jj, none⟩ := fun b jj hb => kCell gb (by exact hb) (by simp)
          have zga := ga.size
          have zg2 : wr.drew.heap.size = wr.heap.size := rfl
          refine hK.out _ _ ⟨(kb _ _ (by omega)).trans hH.1, (kb _ _ (by omega)).trans hH.2.1, (kb _ _ (by omega)).trans hH.2.2.1, (kb _ _ (by omega)).trans hH.2.2.2.1, (Cb.nod i hi).1.cell 0⟩ (fun hH2 => ?_)
          clear hK K hH
          have hH := hH2
          clear hH2
          walk_nrm
          refine wpAnyH_take (i := 23) (v := .bool false) rfl (by kernel_rfl) (by kernel_rfl) (by kernel_rfl) (fun _ _ _ h => h) (Or.inl ⟨by rfl, ?hzq49⟩) hH ?rzq49
          case hzq49 => (intro W' hSw; (try dsimp only at hSw); go_simp; (try simp); try with_reducible rfl)
          walk_nrm
          refine wpAnyH_done (by kernel_rfl) ?_ _
          refine NoPanic.normal ?_
          go_wp2
          go_roundw
          case rel => exact ⟨j + 1, by omega, by go_num, Cb, Gb⟩
          case measure => go_light; simp [intOf]; omega
        · have hji : decide ((j : Int) < 6) = false := by simp; omega
          go_wp2
          go_roundw
          case rel => exact ⟨i + 1, by omega, by go_num, C, G⟩
          case measure => go_light; simp [intOf]; omega
    · have hki : ¬ (i : Int) < (s.k : Int) := by omega
      obtain ⟨an, cn, ern, -, -⟩ := row_form C.rown
      have c2 : wr.cell? ⟨m.cb, 2, none⟩ = some (.slice an s.k cn) := (C.blk.cell 2).trans (congrArg some ern)
      have lcb := C.blk.lt
      clear C ern
      go_wp2
      go_ret
      exact ⟨rfl, G⟩

end Go.Proofs.Ytafbacijfiodhab

