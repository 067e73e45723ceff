/-
  A step of a crew: a tear. Nothing here is claimed by itself.
-/
import Derived.Test.YtafbacijfiodhabMO6
namespace Go.Proofs.Ytafbacijfiodhab
open Go.RowKit

set_option maxRecDepth 100000 in
set_option maxHeartbeats 4000000 in
theorem step_tear (W0 : World) (m : Mm) (s : St) (x : Ns) (w : World) (h : Crw W0 w m s) (he : s.p.ep = s.d.ep) (hx : x.d = 2) (hk : 0 < s.k) :
    Calls Try.prog 20 #[.pointer (some ⟨m.cb, 0, none⟩), nsV x] w fun e w' => StepPost W0 m s e w' := by
  obtain ⟨xd, xk, xkeep, o⟩ := x
  obtain ⟨an, cn, ern, hcn, hrn⟩ := row_form h.rown
  have c2 := h.blk.cell 2
  have lcb := h.blk.lt
  have C2 : w.cell? ⟨m.cb, 2, none⟩ = some (.slice an s.k cn) := by rw [← ern]; exact c2
  have hk8 := h.few
  have hkb : ((s.k : Int) == 0) = false := by simp; omega
  have hx0 : (xd == 0) = false := by simp at hx; simp [hx]
  have hx1 : (xd == 1) = false := by simp at hx; simp [hx]
  have hx2 : (xd == 2) = true := by simpa using hx
  clear hx c2
  have HC := hide h
  clear h hrn ern
  unfold nsV nsC
  go_enter Try.func20, Try.ntmps20
  go_wp2_with fail
  go_quiet (fail)
  obtain ⟨i, hi, hpick⟩ := pickK xk hk hk8
  rw [hpick]
  clear hpick C2
  have h1 : Crw W0 ((w.alloc (.cells #[.int .i64 xd, .int .i64 xk, .int .i64 xkeep, .int .i64 o.k, .int .i64 o.now, .int .i64 o.jb, .int .i64 o.tr, .int .i64 o.wk, .int .i64 o.tm] 45)).drewN nq) m s := (unhide HC).same (((Chg.refl [] w).alloc _).drewN nq)
  have X1 : Blk ((w.alloc (.cells #[.int .i64 xd, .int .i64 xk, .int .i64 xkeep, .int .i64 o.k, .int .i64 o.now, .int .i64 o.jb, .int .i64 o.tr, .int .i64 o.wk, .int .i64 o.tm] 45)).drewN nq) w.heap.size #[.int .i64 xd, .int .i64 xk, .int .i64 xkeep, .int .i64 o.k, .int .i64 o.now, .int .i64 o.jb, .int .i64 o.tr, .int .i64 o.wk, .int .i64 o.tm] 45 := Blk.new w _ _
  have hsz : w.heap.size < ((w.alloc (.cells #[.int .i64 xd, .int .i64 xk, .int .i64 xkeep, .int .i64 o.k, .int .i64 o.now, .int .i64 o.jb, .int .i64 o.tr, .int .i64 o.wk, .int .i64 o.tm] 45)).drewN nq).heap.size := X1.lt
  have xd1 := X1.cell 0
  have lN := ((unhide HC).nod i hi).lt
  have lV := ((unhide HC).vgr i hi).lt
  have lD := hide (unhide HC).dsk.fp_lt
  have lP := hide (unhide HC).plt.fp_lt
  clear HC
  generalize hW1 : World.drewN _ nq = W1 at *
  clear hW1 hcn
  obtain ⟨gn, cn', en, hcn, ogn, lgn, wgn, cgn⟩ := h1.rcell hi
  obtain ⟨gv, cv, ev, hcv, ogv, lgv, wgv, cgv⟩ := h1.vcell hi
  have hi0 : (0 : Int) ≤ (i : Int) := by omega
  have hik : (i : Int) < (s.k : Int) := by omega
  obtain ⟨f1, f2, f3⟩ := h1.apart hi
  have lc1 := h1.blk.lt
  go_wp2_with fail
  have h2 : Crw W0 W1.drew m s := h1.same ((Chg.refl [] W1).drew)
  have b2 : W1.drew.cell? ⟨m.cb, 2, none⟩ = some (.slice (some ⟨gn, 0, none⟩) s.k cn') := by rw [← en]; exact h2.blk.cell 2
  have b3 : W1.drew.cell? ⟨m.cb, 3, none⟩ = some (.slice (some ⟨gv, 0, none⟩) s.k cv) := by rw [← ev]; exact h2.blk.cell 3
  refine wp_region_noPanic ?_
  refine wp_region_held_drew (S := (fun W => W.cell? ⟨m.cb, 2, none⟩ = some (.slice (some ⟨gn, 0, none⟩) s.k cn') ∧ W.cell? ⟨m.cb, 3, none⟩ = some (.slice (some ⟨gv, 0, none⟩) s.k cv) ∧ W.cell? ⟨gn, i, none⟩ = some (.pointer (some ⟨m.nb i, 0, none⟩)) ∧ W.cell? ⟨gv, i, none⟩ = some (.pointer (some ⟨m.vb i, 0, none⟩)) ∧ Blk W w.heap.size #[.int .i64 xd, .int .i64 xk, .int .i64 xkeep, .int .i64 o.k, .int .i64 o.now, .int .i64 o.jb, .int .i64 o.tr, .int .i64 o.wk, .int .i64 o.tm] 45)) (by kernel_rfl) ⟨b2, b3, cgn, cgv, X1⟩ (fun hH => ?_)
  clear b2 b3 h1
  have l2 : W1.drew.heap.size = W1.heap.size := rfl
  refine wpAnyH_take (i := 0) (v := ?_) rfl (by kernel_rfl) (by kernel_rfl) (by kernel_rfl) (fun _ _ _ h => h) (Or.inl ⟨by rfl, ?hzq19⟩) hH ?rzq19
  case hzq19 => (intro W' hSw; (try dsimp only at hSw); go_simp; try with_reducible rfl)
  walk_nrm
  refine wpAnyH_take (i := 1) (v := ?_) rfl (by kernel_rfl) (by kernel_rfl) (by kernel_rfl) (fun _ _ _ h => h) (Or.inl ⟨by rfl, ?hzq20⟩) hH ?rzq20
  case hzq20 => (intro W' hSw; (try dsimp only at hSw); go_simp; try with_reducible rfl)
  walk_nrm
  refine wpAnyH_take (i := 2) (v := ?_) rfl (by kernel_rfl) (by kernel_rfl) (by kernel_rfl) (fun _ _ _ h => h) (Or.inl ⟨by rfl, ?hzq21⟩) hH ?rzq21
  case hzq21 => (intro W' hSw; (try dsimp only at hSw); go_simp; try with_reducible rfl)
  walk_nrm
  refine wpAnyH_take (i := 3) (v := ?_) rfl (by kernel_rfl) (by kernel_rfl) (by kernel_rfl) (fun _ _ _ h => h) (Or.inl ⟨by rfl, ?hzq22⟩) hH ?rzq22
  case hzq22 => (intro W' hSw; (try dsimp only at hSw); obtain ⟨s1, s2, s3, s4, s5⟩ := hSw; go_simp; try with_reducible rfl)
  walk_nrm
  refine wpAnyH_take (i := 4) (v := ?_) rfl (by kernel_rfl) (by kernel_rfl) (by kernel_rfl) (fun _ _ _ h => h) (Or.inl ⟨by rfl, ?hzq23⟩) hH ?rzq23
  case hzq23 => (intro W' hSw; (try dsimp only at hSw); go_simp; try with_reducible rfl)
  walk_nrm
  refine wpAnyH_take (i := 5) (v := ?_) rfl (by kernel_rfl) (by kernel_rfl) (by kernel_rfl) (fun _ _ _ h => h) (Or.inl ⟨by rfl, ?hzq24⟩) hH ?rzq24
  case hzq24 => (intro W' hSw; (try dsimp only at hSw); go_simp; try with_reducible rfl)
  walk_nrm
  refine wpAnyH_take (i := 6) (v := ?_) rfl (by kernel_rfl) (by kernel_rfl) (by kernel_rfl) (fun _ _ _ h => h) (Or.inl ⟨by rfl, ?hzq25⟩) hH ?rzq25
  case hzq25 => (intro W' hSw; (try dsimp only at hSw); obtain ⟨s1, s2, s3, s4, s5⟩ := hSw; go_simp; try with_reducible rfl)
  walk_nrm
  refine wpAnyH_take (i := 7) (v := ?_) rfl (by kernel_rfl) (by kernel_rfl) (by kernel_rfl) (fun _ _ _ h => h) (Or.inl ⟨by rfl, ?hzq26⟩) hH ?rzq26
  case hzq26 => (intro W' hSw; (try dsimp only at hSw); go_simp; try with_reducible rfl)
  walk_nrm
  refine wpAnyH_take (i := 8) (v := _) rfl (by kernel_rfl) (by kernel_rfl) (by kernel_rfl) (fun _ _ _ h => h) (ns_yield (fun _ h => h.2.2.2.2) (by rfl) rfl rfl) hH ?_
  walk_nrm
  unfold odV
  refine wpAnyH_take (i := 9) (v := ?_) rfl (by kernel_rfl) (by kernel_rfl) (by kernel_rfl) (fun _ _ _ h => h) (Or.inl ⟨by rfl, ?hzq27⟩) hH ?rzq27
  case hzq27 => (intro W' hSw; (try dsimp only at hSw); go_simp; try with_reducible rfl)
  walk_nrm
  refine wpAnyH_take (i := 10) (v := ?_) rfl (by kernel_rfl) (by kernel_rfl) (by kernel_rfl) (fun _ _ _ h => h) (Or.inl ⟨by rfl, ?hzq28⟩) hH ?rzq28
  case hzq28 => (intro W' hSw; (try dsimp only at hSw); obtain ⟨s1, s2, s3, s4, s5⟩ := hSw; have s6 := s5.cell 2; go_simp; try with_reducible rfl)
  walk_nrm
  refine wpAnyH_take (i := 12) (v := ?_) rfl (by kernel_rfl) (by kernel_rfl) (by kernel_rfl) (fun _ _ _ h => h) (Or.inl ⟨by rfl, ?hzq29⟩) hH ?rzq29
  case hzq29 => (intro W' hSw; (try dsimp only at hSw); go_simp; try with_reducible rfl)
  walk_nrm
  refine wpAnyH_take (i := 13) (v := ?_) rfl (by kernel_rfl) (by kernel_rfl) (by kernel_rfl) (fun _ _ _ h => h) (Or.inl ⟨by rfl, ?hzq30⟩) hH ?rzq30
  case hzq30 => (intro W' hSw; (try dsimp only at hSw); go_simp; try with_reducible rfl)
  walk_nrm
  refine wpAnyH_take (i := 14) (v := ?_) rfl (by kernel_rfl) (by kernel_rfl) (by kernel_rfl) (fun _ _ _ h => h) (Or.inl ⟨by rfl, ?hzq31⟩) hH ?rzq31
  case hzq31 => (intro W' hSw; (try dsimp only at hSw); go_simp; try with_reducible rfl)
  walk_nrm
  refine wpAnyH_take (i := 15) (v := ?_) rfl (by kernel_rfl) (by kernel_rfl) (by kernel_rfl) (fun _ _ _ h => h) (Or.inl ⟨by rfl, ?hzq32⟩) hH ?rzq32
  case hzq32 => (intro W' hSw; (try dsimp only at hSw); obtain ⟨s1, s2, s3, s4, s5⟩ := hSw; go_simp; try with_reducible rfl)
  walk_nrm
  refine wpAnyH_take (i := 16) (v := ?_) rfl (by kernel_rfl) (by kernel_rfl) (by kernel_rfl) (fun _ _ _ h => h) (Or.inl ⟨by rfl, ?hzq33⟩) hH ?rzq33
  case hzq33 => (intro W' hSw; (try dsimp only at hSw); go_simp; try with_reducible rfl)
  walk_nrm
  refine wpAnyH_take (i := 17) (v := ?_) rfl (by kernel_rfl) (by kernel_rfl) (by kernel_rfl) (fun _ _ _ h => h) (Or.inl ⟨by rfl, ?hzq34⟩) hH ?rzq34
  case hzq34 => (intro W' hSw; (try dsimp only at hSw); go_simp; try with_reducible rfl)
  walk_nrm
  refine wpAnyH_take (i := 18) (v := ?_) rfl (by kernel_rfl) (by kernel_rfl) (by kernel_rfl) (fun _ _ _ h => h) (Or.inl ⟨by rfl, ?hzq35⟩) hH ?rzq35
  case hzq35 => (intro W' hSw; (try dsimp only at hSw); obtain ⟨s1, s2, s3, s4, s5⟩ := hSw; go_simp; try with_reducible rfl)
  walk_nrm
  refine wpAnyH_take (i := 19) (v := ?_) rfl (by kernel_rfl) (by kernel_rfl) (by kernel_rfl) (fun _ _ _ h => h) (Or.inl ⟨by rfl, ?hzq36⟩) hH ?rzq36
  case hzq36 => (intro W' hSw; (try dsimp only at hSw); go_simp; try with_reducible rfl)
  walk_nrm
  refine wpAnyH_take (i := 20) (v := _) rfl (by kernel_rfl) (by kernel_rfl) (by kernel_rfl) (fun _ _ _ h => h) (ns_yield (fun _ h => h.2.2.2.2) (by rfl) rfl rfl) hH ?_
  walk_nrm
  unfold odV
  refine wpAnyH_take (i := 21) (v := ?_) rfl (by kernel_rfl) (by kernel_rfl) (by kernel_rfl) (fun _ _ _ h => h) (Or.inl ⟨by rfl, ?hzq37⟩) hH ?rzq37
  case hzq37 => (intro W' hSw; (try dsimp only at hSw); go_simp; try with_reducible rfl)
  walk_nrm
  refine wpAnyH_take (i := 22) (v := ?_) rfl (by kernel_rfl) (by kernel_rfl) (by kernel_rfl) (fun _ _ _ h => h) (Or.inl ⟨by rfl, ?hzq38⟩) hH ?rzq38
  case hzq38 => (intro W' hSw; (try dsimp only at hSw); obtain ⟨s1, s2, s3, s4, s5⟩ := hSw; have s6 := s5.cell 2; go_simp; try with_reducible rfl)
  walk_nrm
  generalize hW2 : World.drew W1 = W2 at *
  clear hW2
  refine wpAnyH_ready (rs := [11]) (by kernel_rfl) (by simp) ?_
  refine AllReadyH.cons rfl (fun K hK => ?_) AllReadyH.nil
  rw [if_pos (by rfl)]
  go_simp
  refine (ntear_all (m.nb i) (m.tb i) m.db W0.heap.size (s.ns i) s.d m.v o xkeep _ (h2.nod i hi) h2.dsk (h2.pd.inv i hi) h2.ch.size h2.pd.e1 h2.pd.e2 f1 f2).mono ?_
  rintro y w3 ⟨rfl, v3, N3, D3, g3, n3⟩
  have h3 := h2.nodeOp (d' := wrD s.d (s.ns i) o xkeep) hi rfl N3 D3 g3 n3 (h2.pd.tear hi o xkeep)
  have q1 : ∀ b, b < W2.heap.size → b ≠ m.nb i → b ≠ m.tb i → b ∉ fp m.db m.v → ∀ j, w3.cell? ⟨b, j, none⟩ = W2.cell? ⟨b, j, none⟩ := fun b hb e1 e2 e3 j => kCell g3 hb (by simp only [List.mem_cons, not_or]; exact ⟨e1, e2, e3⟩)
  have on1 := h2.on i hi
  have q2 := q1 m.cb (by omega) (fun e => by have := h2.ocb; rw [e] at this; omega) (fun e => by have := h2.ocb; rw [e] at this; omega) (fun e => by have := h2.od _ e; have := h2.ocb; omega)
  have q3 := q1 gn (by omega) (fun e => by rw [e] at wgn; omega) (fun e => by rw [e] at wgn; omega) (fun e => by have := h2.od _ e; omega)
  have q4 := q1 gv (by omega) (fun e => by rw [e] at wgv; omega) (fun e => by rw [e] at wgv; omega) (fun e => by have := h2.od _ e; omega)
  have X3 := hH.2.2.2.2.chg g3 (by simp only [List.mem_cons, not_or]; exact ⟨by omega, by omega, fun e => by have := unhide lD _ e; omega⟩)
  refine hK.out _ _ ⟨(q2 2).trans hH.1, (q2 3).trans hH.2.1, (q3 i).trans hH.2.2.1, (q4 i).trans hH.2.2.2.1, X3⟩ (fun hH2 => ?_)
  have z3 := g3.size
  clear hK K hH q1 q2 q3 q4 g3
  have hH := hH2
  clear hH2
  walk_nrm
  refine wpAnyH_ready (rs := [23]) (by kernel_rfl) (by simp) ?_
  refine AllReadyH.cons rfl (fun K hK => ?_) AllReadyH.nil
  rw [if_pos (by rfl)]
  go_simp
  refine (vtear_all (m.vb i) m.pb (s.vs i) s.p m.u o xkeep _ (h3.vgr i hi) h3.plt f3 (h2.pp.inv i hi) h2.pp.e1 h2.pp.e2).mono ?_
  rintro y w4 ⟨rfl, u4, V4, P4, g4, n4⟩
  have h4 := h3.verOp (p' := wrD s.p (s.vs i) o xkeep) hi rfl V4 P4 g4 n4 (h2.pp.tear hi o xkeep)
  have q1 : ∀ b, b < w3.heap.size → b ≠ m.vb i → b ≠ m.pb → ∀ j, w4.cell? ⟨b, j, none⟩ = w3.cell? ⟨b, j, none⟩ := fun b hb e1 e2 j => kCell g4 hb (by simp only [List.mem_cons, not_or, List.not_mem_nil]; exact ⟨e1, e2, fun h => h⟩)
  have ov1 := h2.ov i hi
  have op1 := h2.op m.pb (mem_fp.2 (.inl rfl))
  have q2 := q1 m.cb (by omega) (fun e => by have := h2.ocb; rw [e] at this; omega) (fun e => by have := h2.ocb; rw [e] at this; omega)
  have q3 := q1 gn (by omega) (fun e => by rw [e] at wgn; omega) (fun e => by rw [e] at wgn; omega)
  have q4 := q1 gv (by omega) (fun e => by rw [e] at wgv; omega) (fun e => by rw [e] at wgv; omega)
  have X4 := hH.2.2.2.2.chg g4 (by simp only [List.mem_cons, not_or, List.not_mem_nil]; exact ⟨by omega, fun e => by have := unhide lP _ (mem_fp.2 (.inl rfl)); omega, fun h => h⟩)
  refine hK.out _ _ ⟨(q2 2).trans hH.1, (q2 3).trans hH.2.1, (q3 i).trans hH.2.2.1, (q4 i).trans hH.2.2.2.1, X4⟩ (fun hH2 => ?_)
  clear hK K hH q1 q2 q3 q4 g4
  have hH := hH2
  clear hH2
  walk_nrm
  generalize ha : wrC s.d (s.ns i) o xkeep = A at *
  generalize hb : wrC s.p (s.vs i) o xkeep = B at *
  refine wpAnyH_take (i := 24) (v := ?_) rfl (by kernel_rfl) (by kernel_rfl) (by kernel_rfl) (fun _ _ _ h => h) (Or.inl ⟨by rfl, ?hzq39⟩) hH ?rzq39
  case hzq39 => (intro W' hSw; (try dsimp only at hSw); go_simp; try with_reducible rfl)
  walk_nrm
  refine wpAnyH_take (i := 25) (v := ?_) rfl (by kernel_rfl) (by kernel_rfl) (by kernel_rfl) (fun _ _ _ h => h) (Or.inl ⟨by rfl, ?hzq40⟩) hH ?rzq40
  case hzq40 => (intro W' hSw; (try dsimp only at hSw); go_simp; try with_reducible rfl)
  walk_nrm
  refine wpAnyH_done (by kernel_rfl) ?_ _
  refine NoPanic.normal ?_
  go_wp2_with fail
  go_ret
  refine step_mk (bo := A == B) h4 rfl rfl he (fun hs => ⟨?_, hs.op hi (fun d n => wrD d n o xkeep) (fun d n => tearN d n o xkeep)⟩)
  rw [hs.1, hs.2 i hi, ha] at hb
  simp [hb]


end Go.Proofs.Ytafbacijfiodhab

namespace Go.Proofs.Ytafbacijfiodhab
open Go.RowKit

set_option maxRecDepth 100000 in
set_option maxHeartbeats 4000000 in
theorem step_none (W0 : World) (m : Mm) (s : St) (x : Ns) (w : World) (h : Crw W0 w m s) (he : s.p.ep = s.d.ep) (hx : ¬ x.d = 0) (hk : s.k = 0) :
    Calls Try.prog 20 #[.pointer (some ⟨m.cb, 0, none⟩), nsV x] w fun e w' => StepPost W0 m s e w' := by
  obtain ⟨xd, xk, xkeep, o⟩ := x
  obtain ⟨an, cn, ern, hcn, hrn⟩ := row_form h.rown
  have c2 := h.blk.cell 2
  have lcb := h.blk.lt
  have C2 : w.cell? ⟨m.cb, 2, none⟩ = some (.slice an s.k cn) := by rw [← ern]; exact c2
  have hk8 := h.few
  have hx0 : (xd == 0) = false := by simpa using hx
  rw [hk] at C2
  clear hx c2
  have HC := hide h
  clear h hrn ern
  unfold nsV nsC
  go_enter Try.func20, Try.ntmps20
  go_wp2
  go_ret
  exact step_mk ((unhide HC).same ((Chg.refl [] w).alloc _)) rfl rfl he (fun hs => ⟨rfl, hs⟩)

set_option maxRecDepth 100000 in
set_option maxHeartbeats 4000000 in
theorem step_else (W0 : World) (m : Mm) (s : St) (x : Ns) (w : World) (h : Crw W0 w m s) (he : s.p.ep = s.d.ep) (hx : ¬ x.d = 0 ∧ ¬ x.d = 1 ∧ ¬ x.d = 2 ∧ ¬ x.d = 3) (hk : 0 < s.k) :
    Calls Try.prog 20 #[.pointer (some ⟨m.cb, 0, none⟩), nsV x] w fun e w' => StepPost W0 m s e w' := by
  obtain ⟨xd, xk, xkeep, o⟩ := x
  obtain ⟨an, cn, ern, hcn, hrn⟩ := row_form h.rown
  have c2 := h.blk.cell 2
  have lcb := h.blk.lt
  have C2 : w.cell? ⟨m.cb, 2, none⟩ = some (.slice an s.k cn) := by rw [← ern]; exact c2
  have hk8 := h.few
  have hkb : ((s.k : Int) == 0) = false := by simp; omega
  have hx0 : (xd == 0) = false := by simpa using hx.1
  have hx1 : (xd == 1) = false := by simpa using hx.2.1
  have hx2 : (xd == 2) = false := by simpa using hx.2.2.1
  have hx3 : (xd == 3) = false := by simpa using hx.2.2.2
  clear hx c2
  have HC := hide h
  clear h hrn ern
  unfold nsV nsC
  go_enter Try.func20, Try.ntmps20
  go_wp2_with fail
  go_quiet (fail)
  obtain ⟨i, hi, hpick⟩ := pickK xk hk hk8
  rw [hpick]
  clear hpick C2
  have h1 : Crw W0 ((w.alloc (.cells #[.int .i64 xd, .int .i64 xk, .int .i64 xkeep, .int .i64 o.k, .int .i64 o.now, .int .i64 o.jb, .int .i64 o.tr, .int .i64 o.wk, .int .i64 o.tm] 45)).drewN nq) m s := (unhide HC).same (((Chg.refl [] w).alloc _).drewN nq)
  have X1 : Blk ((w.alloc (.cells #[.int .i64 xd, .int .i64 xk, .int .i64 xkeep, .int .i64 o.k, .int .i64 o.now, .int .i64 o.jb, .int .i64 o.tr, .int .i64 o.wk, .int .i64 o.tm] 45)).drewN nq) w.heap.size #[.int .i64 xd, .int .i64 xk, .int .i64 xkeep, .int .i64 o.k, .int .i64 o.now, .int .i64 o.jb, .int .i64 o.tr, .int .i64 o.wk, .int .i64 o.tm] 45 := Blk.new w _ _
  have xd1 := X1.cell 0
  clear HC X1
  generalize hW1 : World.drewN _ nq = W1 at *
  clear hW1 hcn
  go_wp2
  go_ret
  exact step_mk h1 rfl rfl he (fun hs => ⟨rfl, hs⟩)

theorem Same.stop {s : St} (h : Same s) (i : Nat) (hi : i < s.k) : Same { s with ns := upN s.ns i (stopN (s.ns i)), vs := upN s.vs i (stopN (s.vs i)) } := h.op hi (fun d _ => d) (fun _ n => stopN n)

set_option maxRecDepth 100000 in
set_option maxHeartbeats 4000000 in
theorem step_stop (W0 : World) (m : Mm) (s : St) (x : Ns) (w : World) (h : Crw W0 w m s) (he : s.p.ep = s.d.ep) (hx : x.d = 3) (hk : 0 < s.k) :
    Calls Try.prog 20 #[.pointer (some ⟨m.cb, 0, none⟩), nsV x] w fun e w' => StepPost W0 m s e w' := by
  obtain ⟨xd, xk, xkeep, o⟩ := x
  obtain ⟨an, cn, ern, hcn, hrn⟩ := row_form h.rown
  have c2 := h.blk.cell 2
  have lcb := h.blk.lt
  have C2 : w.cell? ⟨m.cb, 2, none⟩ = some (.slice an s.k cn) := by rw [← ern]; exact c2
  have hk8 := h.few
  have hkb : ((s.k : Int) == 0) = false := by simp; omega
  have hx0 : (xd == 0) = false := by simp at hx; simp [hx]
  have hx1 : (xd == 1) = false := by simp at hx; simp [hx]
  have hx2 : (xd == 2) = false := by simp at hx; simp [hx]
  have hx3 : (xd == 3) = true := by simpa using hx
  clear hx c2
  have HC := hide h
  clear h hrn ern
  unfold nsV nsC
  go_enter Try.func20, Try.ntmps20
  go_wp2_with fail
  go_quiet (fail)
  obtain ⟨i, hi, hpick⟩ := pickK xk hk hk8
  rw [hpick]
  clear hpick C2
  have h1 : Crw W0 ((w.alloc (.cells #[.int .i64 xd, .int .i64 xk, .int .i64 xkeep, .int .i64 o.k, .int .i64 o.now, .int .i64 o.jb, .int .i64 o.tr, .int .i64 o.wk, .int .i64 o.tm] 45)).drewN nq) m s := (unhide HC).same (((Chg.refl [] w).alloc _).drewN nq)
  have X1 : Blk ((w.alloc (.cells #[.int .i64 xd, .int .i64 xk, .int .i64 xkeep, .int .i64 o.k, .int .i64 o.now, .int .i64 o.jb, .int .i64 o.tr, .int .i64 o.wk, .int .i64 o.tm] 45)).drewN nq) w.heap.size #[.int .i64 xd, .int .i64 xk, .int .i64 xkeep, .int .i64 o.k, .int .i64 o.now, .int .i64 o.jb, .int .i64 o.tr, .int .i64 o.wk, .int .i64 o.tm] 45 := Blk.new w _ _
  have xd1 := X1.cell 0
  clear HC X1
  generalize hW1 : World.drewN _ nq = W1 at *
  clear hW1 hcn
  obtain ⟨gn, cn', en, hcn, ogn, lgn, wgn, cgn⟩ := h1.rcell hi
  have b2 : W1.cell? ⟨m.cb, 2, none⟩ = some (.slice (some ⟨gn, 0, none⟩) s.k cn') := by rw [← en]; exact h1.blk.cell 2
  have hi0 : (0 : Int) ≤ (i : Int) := by omega
  have hik : (i : Int) < (s.k : Int) := by omega
  have hikn : i < cn' := by omega
  have lc1 := h1.blk.lt
  have H1 := hide h1
  clear h1 en ogn wgn hcn
  go_wp2_with (first
    | (go_at_call 42; refine (nstop_any (m.nb i) (m.tb i) m.db (s.ns i) _ ((unhide H1).nod i hi)).mono ?_; rintro y w3 ⟨rfl, N3, g3⟩; have D3 := (unhide H1).k_dsk g3 (by intro x hx e; simp at hx; subst hx; have := ((unhide H1).on i hi).1; omega); have h3 := (unhide H1).nodeOp (d' := s.d) hi rfl N3 D3 (g3.wide (by intro x hx; simp at hx; simp [hx])) (Nxt.same _ _) ((unhide H1).pd.stop i); clear b2 cgn lc1 D3 N3 g3 lgn; obtain ⟨gv, cv, ev, hcv, ogv, lgv, wgv, cgv⟩ := h3.vcell hi; have b3 : w3.cell? ⟨m.cb, 3, none⟩ = some (.slice (some ⟨gv, 0, none⟩) s.k cv) := (h3.blk.cell 3).trans (congrArg some ev); have lc3 : m.cb < w3.heap.size := h3.blk.lt; obtain ⟨t0, t1, t2, tf, lb⟩ := Vgr.tail (h3.vgr i hi); have H3 := hide h3; clear h3 ev ogv wgv hcv))
  go_ret
  have V4 : Vn (w3.setCell ⟨m.vb i, 27, none⟩ (.bool true)) (m.vb i) m.pb (stopN (s.vs i)) := Vgr.setDown ((unhide H3).vgr i hi) true
  have g4 : Chg [m.vb i, m.pb] w3 (w3.setCell ⟨m.vb i, 27, none⟩ (.bool true)) := (Chg.refl _ _).setCell (by simp) _
  have P4 := (unhide H3).k_plt ((Chg.refl [m.vb i] w3).setCell (p := ⟨m.vb i, 27, none⟩) (by simp) (.bool true)) (by intro x hx e; simp at hx; subst hx; exact absurd (e.symm.trans ((unhide H3).ov i hi)) (by omega))
  have h4 := (unhide H3).verOp (p' := s.p) hi rfl V4 P4 g4 (Pnx.same _ _) ((unhide H3).pp.stop i)
  exact step_mk h4 rfl rfl he (fun hs => ⟨rfl, hs.stop i hi⟩)

end Go.Proofs.Ytafbacijfiodhab

