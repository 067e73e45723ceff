/-
  A step of a crew: an order. Nothing here is claimed by itself.
-/
import Derived.Test.YtafbacijfiodhabMgO4
namespace Go.Proofs.Ytafbacijfiodhab
open Go.RowKit

def nsC (x : Ns) : Array Value := #[.int .i64 x.d, .int .i64 x.k, .int .i64 x.keep, .int .i64 x.o.k, .int .i64 x.o.now, .int .i64 x.o.jb, .int .i64 x.o.tr, .int .i64 x.o.wk, .int .i64 x.o.tm]
def nsV (x : Ns) : Value := .agg (nsC x)
/-- What a step leaves. -/
def StepPost (W0 : World) (m : Mm) (s : St) (e : Ending) (w' : World) : Prop := ∃ bo m' s', e = .returned (.bool bo) ∧ Crw W0 w' m' s' ∧ m'.cb = m.cb ∧ m'.db = m.db ∧ s'.p.ep = s'.d.ep ∧ (Same s → bo = true ∧ Same s')
theorem step_mk {W0 w' : World} {m m' : Mm} {s s' : St} {bo : Bool} (h : Crw W0 w' m' s') (h1 : m'.cb = m.cb) (h2 : m'.db = m.db) (h3 : s'.p.ep = s'.d.ep) (h4 : Same s → bo = true ∧ Same s') : StepPost W0 m s (.returned (.bool bo)) w' := ⟨bo, m', s', rfl, h, h1, h2, h3, h4⟩
theorem ns_yield {S : World → Prop} {ob : Nat} {xd xk xkeep : Int} {o : Od} {t : TypeId} (hS : ∀ W, S W → Blk W ob #[.int .i64 xd, .int .i64 xk, .int .i64 xkeep, .int .i64 o.k, .int .i64 o.now, .int .i64 o.jb, .int .i64 o.tr, .int .i64 o.wk, .int .i64 o.tm] t) {ops : Array Oper} {op : Oper} {a : Act} {x : Operand} (hw : Region.wanted op (yielded ops a.tmps) = true) (ho : op.op = .load 43 x) (hx : a.eval x = .pointer (some ⟨ob, 3, none⟩)) :
    YieldsIf Try.prog ops S op (odV o) a :=
  yieldsIf_load_mid (P := Try.prog) hw 43 x ho ob 3 hx [.int .i64 o.k, .int .i64 o.now, .int .i64 o.jb, .int .i64 o.tr, .int .i64 o.wk, .int .i64 o.tm] _ (fun w' hw' j v hv => by
    have hj : j < 6 := by
      rcases Nat.lt_or_ge j 6 with h | h
      · exact h
      · rw [List.getElem?_eq_none (by simpa using h)] at hv; cases hv
    rw [(hS _ hw').cell]
    obtain rfl | rfl | rfl | rfl | rfl | rfl : j = 0 ∨ j = 1 ∨ j = 2 ∨ j = 3 ∨ j = 4 ∨ j = 5 := by omega
    all_goals exact hv) Try.underlying43 rfl (by rw [ordInfo]; rfl)
theorem pickK (x : Int) {k : Nat} (hk : 0 < k) (hk8 : k ≤ 8) : ∃ i : Nat, i < k ∧ wrap64 ((IntKind.u64.wrap x).tmod (k : Int)) = i := by
  have h0 : 0 ≤ IntKind.u64.wrap x := by simp only [IntKind.wrap, IntKind.bits, IntKind.signed]; simp; omega
  have h1 : 0 ≤ (IntKind.u64.wrap x).tmod (k : Int) := Int.tmod_nonneg _ h0
  have h2 : (IntKind.u64.wrap x).tmod (k : Int) < (k : Int) := Int.tmod_lt_of_pos _ (by omega)
  refine ⟨((IntKind.u64.wrap x).tmod (k : Int)).toNat, by omega, ?_⟩
  unfold wrap64
  omega
theorem Crw.rcell {W0 w : World} {m : Mm} {s : St} (h : Crw W0 w m s) {i : Nat} (hi : i < s.k) : ∃ g c, m.rn = .slice (some ⟨g, 0, none⟩) s.k c ∧ s.k ≤ c ∧ m.rn.ownBlock = some g ∧ g < w.heap.size ∧ m.own g = 1 ∧ w.cell? ⟨g, i, none⟩ = some (.pointer (some ⟨m.nb i, 0, none⟩)) := by
  obtain ⟨a, c, e, hc, hr⟩ := row_form h.rown
  obtain ⟨g, rfl, hg, ho, hcell⟩ := hr i hi
  exact ⟨g, c, e, hc, ho, hg, h.orn g ho, hcell⟩
theorem Crw.vcell {W0 w : World} {m : Mm} {s : St} (h : Crw W0 w m s) {i : Nat} (hi : i < s.k) : ∃ g c, m.rv = .slice (some ⟨g, 0, none⟩) s.k c ∧ s.k ≤ c ∧ m.rv.ownBlock = some g ∧ g < w.heap.size ∧ m.own g = 2 ∧ w.cell? ⟨g, i, none⟩ = some (.pointer (some ⟨m.vb i, 0, none⟩)) := by
  obtain ⟨a, c, e, hc, hr⟩ := row_form h.rowv
  obtain ⟨g, rfl, hg, ho, hcell⟩ := hr i hi
  exact ⟨g, c, e, hc, ho, hg, h.orv g ho, hcell⟩
theorem Crw.apart {W0 w : World} {m : Mm} {s : St} (h : Crw W0 w m s) {i : Nat} (hi : i < s.k) : m.nb i ∉ fp m.db m.v ∧ m.tb i ∉ fp m.db m.v ∧ m.vb i ∉ fp m.pb m.u :=
  ⟨fun hf => by have := h.od _ hf; have := (h.on i hi).1; omega, fun hf => by have := h.od _ hf; have := (h.on i hi).2; omega, fun hf => by have := h.op _ hf; have := h.ov i hi; omega⟩
theorem Same.op {s : St} (h : Same s) {i : Nat} (hi : i < s.k) (F : Dk → Nd → Dk) (G : Dk → Nd → Nd) : Same { s with d := F s.d (s.ns i), ns := upN s.ns i (G s.d (s.ns i)), p := F s.p (s.vs i), vs := upN s.vs i (G s.p (s.vs i)) } := by
  obtain ⟨h1, h2⟩ := h
  refine ⟨?_, fun j hj => ?_⟩
  · show F s.p (s.vs i) = F s.d (s.ns i)
    rw [h1, h2 i hi]
  · show upN s.vs i (G s.p (s.vs i)) j = upN s.ns i (G s.d (s.ns i)) j
    rw [h1, h2 i hi]
    by_cases e : j = i
    · subst e; rw [upN_same, upN_same]
    · rw [upN_other _ _ e, upN_other _ _ e]; exact h2 j hj

set_option maxRecDepth 100000 in
set_option maxHeartbeats 4000000 in
theorem step_order (W0 : World) (m : Mm) (s : St) (x : Ns) (w : World) (h : Crw W0 w m s) (he : s.p.ep = s.d.ep) (hx : x.d = 1) (hk : 0 < s.k) :
    Calls Try.prog 20 #[.pointer (some ⟨m.cb, 0, none⟩), nsV x] w fun e w' => StepPost W0 m s e w' := by
  obtain ⟨xd, xk, xkeep, o⟩ := x
  obtain ⟨an, cn, ern, hcn, hrn⟩ := row_form h.rown
  have c2 := h.blk.cell 2
  have lcb := h.blk.lt
  have C2 : w.cell? ⟨m.cb, 2, none⟩ = some (.slice an s.k cn) := by rw [← ern]; exact c2
  have hk8 := h.few
  have hkb : ((s.k : Int) == 0) = false := by simp; omega
  have hx0 : (xd == 0) = false := by simp at hx; simp [hx]
  have hx1 : (xd == 1) = true := by simpa using hx
  clear hx c2
  have HC := hide h
  clear h hrn ern
  unfold nsV nsC
  go_enter Try.func20, Try.ntmps20
  go_wp2_with fail
  go_quiet (fail)
  obtain ⟨i, hi, hpick⟩ := pickK xk hk hk8
  rw [hpick]
  clear hpick C2
  have h1 : Crw W0 ((w.alloc (.cells #[.int .i64 xd, .int .i64 xk, .int .i64 xkeep, .int .i64 o.k, .int .i64 o.now, .int .i64 o.jb, .int .i64 o.tr, .int .i64 o.wk, .int .i64 o.tm] 45)).drewN nq) m s := (unhide HC).same (((Chg.refl [] w).alloc _).drewN nq)
  have X1 : Blk ((w.alloc (.cells #[.int .i64 xd, .int .i64 xk, .int .i64 xkeep, .int .i64 o.k, .int .i64 o.now, .int .i64 o.jb, .int .i64 o.tr, .int .i64 o.wk, .int .i64 o.tm] 45)).drewN nq) w.heap.size #[.int .i64 xd, .int .i64 xk, .int .i64 xkeep, .int .i64 o.k, .int .i64 o.now, .int .i64 o.jb, .int .i64 o.tr, .int .i64 o.wk, .int .i64 o.tm] 45 := Blk.new w _ _
  have hsz : w.heap.size < ((w.alloc (.cells #[.int .i64 xd, .int .i64 xk, .int .i64 xkeep, .int .i64 o.k, .int .i64 o.now, .int .i64 o.jb, .int .i64 o.tr, .int .i64 o.wk, .int .i64 o.tm] 45)).drewN nq).heap.size := X1.lt
  have xd1 := X1.cell 0
  have lN := ((unhide HC).nod i hi).lt
  have lV := ((unhide HC).vgr i hi).lt
  have lD := hide (unhide HC).dsk.fp_lt
  have lP := hide (unhide HC).plt.fp_lt
  clear HC
  generalize hW1 : World.drewN _ nq = W1 at *
  clear hW1 hcn
  obtain ⟨gn, cn', en, hcn, ogn, lgn, wgn, cgn⟩ := h1.rcell hi
  obtain ⟨gv, cv, ev, hcv, ogv, lgv, wgv, cgv⟩ := h1.vcell hi
  have hi0 : (0 : Int) ≤ (i : Int) := by omega
  have hik : (i : Int) < (s.k : Int) := by omega
  obtain ⟨f1, f2, f3⟩ := h1.apart hi
  have lc1 := h1.blk.lt
  go_wp2_with fail
  have h2 : Crw W0 W1.drew m s := h1.same ((Chg.refl [] W1).drew)
  have b2 : W1.drew.cell? ⟨m.cb, 2, none⟩ = some (.slice (some ⟨gn, 0, none⟩) s.k cn') := by rw [← en]; exact h2.blk.cell 2
  have b3 : W1.drew.cell? ⟨m.cb, 3, none⟩ = some (.slice (some ⟨gv, 0, none⟩) s.k cv) := by rw [← ev]; exact h2.blk.cell 3
  refine wp_region_noPanic ?_
  refine wp_region_held_drew (S := (fun W => W.cell? ⟨m.cb, 2, none⟩ = some (.slice (some ⟨gn, 0, none⟩) s.k cn') ∧ W.cell? ⟨m.cb, 3, none⟩ = some (.slice (some ⟨gv, 0, none⟩) s.k cv) ∧ W.cell? ⟨gn, i, none⟩ = some (.pointer (some ⟨m.nb i, 0, none⟩)) ∧ W.cell? ⟨gv, i, none⟩ = some (.pointer (some ⟨m.vb i, 0, none⟩)) ∧ Blk W w.heap.size #[.int .i64 xd, .int .i64 xk, .int .i64 xkeep, .int .i64 o.k, .int .i64 o.now, .int .i64 o.jb, .int .i64 o.tr, .int .i64 o.wk, .int .i64 o.tm] 45)) (by kernel_rfl) ⟨b2, b3, cgn, cgv, X1⟩ (fun hH => ?_)
  clear b2 b3 h1
  have l2 : W1.drew.heap.size = W1.heap.size := rfl
  refine wpAnyH_take (i := 0) (v := ?_) rfl (by kernel_rfl) (by kernel_rfl) (by kernel_rfl) (fun _ _ _ h => h) (Or.inl ⟨by rfl, ?hzq1⟩) hH ?rzq1
  case hzq1 => (intro W' hSw; (try dsimp only at hSw); go_simp; try with_reducible rfl)
  walk_nrm
  refine wpAnyH_take (i := 1) (v := ?_) rfl (by kernel_rfl) (by kernel_rfl) (by kernel_rfl) (fun _ _ _ h => h) (Or.inl ⟨by rfl, ?hzq2⟩) hH ?rzq2
  case hzq2 => (intro W' hSw; (try dsimp only at hSw); go_simp; try with_reducible rfl)
  walk_nrm
  refine wpAnyH_take (i := 2) (v := ?_) rfl (by kernel_rfl) (by kernel_rfl) (by kernel_rfl) (fun _ _ _ h => h) (Or.inl ⟨by rfl, ?hzq3⟩) hH ?rzq3
  case hzq3 => (intro W' hSw; (try dsimp only at hSw); go_simp; try with_reducible rfl)
  walk_nrm
  refine wpAnyH_take (i := 3) (v := ?_) rfl (by kernel_rfl) (by kernel_rfl) (by kernel_rfl) (fun _ _ _ h => h) (Or.inl ⟨by rfl, ?hzq4⟩) hH ?rzq4
  case hzq4 => (intro W' hSw; (try dsimp only at hSw); obtain ⟨s1, s2, s3, s4, s5⟩ := hSw; go_simp; try with_reducible rfl)
  walk_nrm
  refine wpAnyH_take (i := 4) (v := ?_) rfl (by kernel_rfl) (by kernel_rfl) (by kernel_rfl) (fun _ _ _ h => h) (Or.inl ⟨by rfl, ?hzq5⟩) hH ?rzq5
  case hzq5 => (intro W' hSw; (try dsimp only at hSw); go_simp; try with_reducible rfl)
  walk_nrm
  refine wpAnyH_take (i := 5) (v := ?_) rfl (by kernel_rfl) (by kernel_rfl) (by kernel_rfl) (fun _ _ _ h => h) (Or.inl ⟨by rfl, ?hzq6⟩) hH ?rzq6
  case hzq6 => (intro W' hSw; (try dsimp only at hSw); go_simp; try with_reducible rfl)
  walk_nrm
  refine wpAnyH_take (i := 6) (v := ?_) rfl (by kernel_rfl) (by kernel_rfl) (by kernel_rfl) (fun _ _ _ h => h) (Or.inl ⟨by rfl, ?hzq7⟩) hH ?rzq7
  case hzq7 => (intro W' hSw; (try dsimp only at hSw); obtain ⟨s1, s2, s3, s4, s5⟩ := hSw; go_simp; try with_reducible rfl)
  walk_nrm
  refine wpAnyH_take (i := 7) (v := ?_) rfl (by kernel_rfl) (by kernel_rfl) (by kernel_rfl) (fun _ _ _ h => h) (Or.inl ⟨by rfl, ?hzq8⟩) hH ?rzq8
  case hzq8 => (intro W' hSw; (try dsimp only at hSw); go_simp; try with_reducible rfl)
  walk_nrm
  refine wpAnyH_take (i := 8) (v := _) rfl (by kernel_rfl) (by kernel_rfl) (by kernel_rfl) (fun _ _ _ h => h) (ns_yield (fun _ h => h.2.2.2.2) (by rfl) rfl rfl) hH ?_
  walk_nrm
  unfold odV
  refine wpAnyH_take (i := 10) (v := ?_) rfl (by kernel_rfl) (by kernel_rfl) (by kernel_rfl) (fun _ _ _ h => h) (Or.inl ⟨by rfl, ?hzq9⟩) hH ?rzq9
  case hzq9 => (intro W' hSw; (try dsimp only at hSw); go_simp; try with_reducible rfl)
  walk_nrm
  refine wpAnyH_take (i := 11) (v := ?_) rfl (by kernel_rfl) (by kernel_rfl) (by kernel_rfl) (fun _ _ _ h => h) (Or.inl ⟨by rfl, ?hzq10⟩) hH ?rzq10
  case hzq10 => (intro W' hSw; (try dsimp only at hSw); go_simp; try with_reducible rfl)
  walk_nrm
  refine wpAnyH_take (i := 12) (v := ?_) rfl (by kernel_rfl) (by kernel_rfl) (by kernel_rfl) (fun _ _ _ h => h) (Or.inl ⟨by rfl, ?hzq11⟩) hH ?rzq11
  case hzq11 => (intro W' hSw; (try dsimp only at hSw); go_simp; try with_reducible rfl)
  walk_nrm
  refine wpAnyH_take (i := 13) (v := ?_) rfl (by kernel_rfl) (by kernel_rfl) (by kernel_rfl) (fun _ _ _ h => h) (Or.inl ⟨by rfl, ?hzq12⟩) hH ?rzq12
  case hzq12 => (intro W' hSw; (try dsimp only at hSw); obtain ⟨s1, s2, s3, s4, s5⟩ := hSw; go_simp; try with_reducible rfl)
  walk_nrm
  refine wpAnyH_take (i := 14) (v := ?_) rfl (by kernel_rfl) (by kernel_rfl) (by kernel_rfl) (fun _ _ _ h => h) (Or.inl ⟨by rfl, ?hzq13⟩) hH ?rzq13
  case hzq13 => (intro W' hSw; (try dsimp only at hSw); go_simp; try with_reducible rfl)
  walk_nrm
  refine wpAnyH_take (i := 15) (v := ?_) rfl (by kernel_rfl) (by kernel_rfl) (by kernel_rfl) (fun _ _ _ h => h) (Or.inl ⟨by rfl, ?hzq14⟩) hH ?rzq14
  case hzq14 => (intro W' hSw; (try dsimp only at hSw); go_simp; try with_reducible rfl)
  walk_nrm
  refine wpAnyH_take (i := 16) (v := ?_) rfl (by kernel_rfl) (by kernel_rfl) (by kernel_rfl) (fun _ _ _ h => h) (Or.inl ⟨by rfl, ?hzq15⟩) hH ?rzq15
  case hzq15 => (intro W' hSw; (try dsimp only at hSw); obtain ⟨s1, s2, s3, s4, s5⟩ := hSw; go_simp; try with_reducible rfl)
  walk_nrm
  refine wpAnyH_take (i := 17) (v := ?_) rfl (by kernel_rfl) (by kernel_rfl) (by kernel_rfl) (fun _ _ _ h => h) (Or.inl ⟨by rfl, ?hzq16⟩) hH ?rzq16
  case hzq16 => (intro W' hSw; (try dsimp only at hSw); go_simp; try with_reducible rfl)
  walk_nrm
  refine wpAnyH_take (i := 18) (v := _) rfl (by kernel_rfl) (by kernel_rfl) (by kernel_rfl) (fun _ _ _ h => h) (ns_yield (fun _ h => h.2.2.2.2) (by rfl) rfl rfl) hH ?_
  walk_nrm
  unfold odV
  generalize hW2 : World.drew W1 = W2 at *
  clear hW2
  refine wpAnyH_ready (rs := [9]) (by kernel_rfl) (by simp) ?_
  refine AllReadyH.cons rfl (fun K hK => ?_) AllReadyH.nil
  rw [if_pos (by rfl)]
  go_simp
  refine (nord_all (m.nb i) (m.tb i) m.db W0.heap.size (s.ns i) s.d m.v o _ (h2.nod i hi) h2.dsk (h2.pd.inv i hi) h2.ch.size h2.pd.e1 h2.pd.e2 f1 f2).mono ?_
  rintro y w3 ⟨rfl, v3, N3, D3, g3, n3⟩
  have h3 := h2.nodeOp (d' := wrD s.d (s.ns i) o 9) hi rfl N3 D3 g3 n3 (h2.pd.order hi o)
  have q1 : ∀ b, b < W2.heap.size → b ≠ m.nb i → b ≠ m.tb i → b ∉ fp m.db m.v → ∀ j, w3.cell? ⟨b, j, none⟩ = W2.cell? ⟨b, j, none⟩ := fun b hb e1 e2 e3 j => kCell g3 hb (by simp only [List.mem_cons, not_or]; exact ⟨e1, e2, e3⟩)
  have on1 := h2.on i hi
  have q2 := q1 m.cb (by omega) (fun e => by have := h2.ocb; rw [e] at this; omega) (fun e => by have := h2.ocb; rw [e] at this; omega) (fun e => by have := h2.od _ e; have := h2.ocb; omega)
  have q3 := q1 gn (by omega) (fun e => by rw [e] at wgn; omega) (fun e => by rw [e] at wgn; omega) (fun e => by have := h2.od _ e; omega)
  have q4 := q1 gv (by omega) (fun e => by rw [e] at wgv; omega) (fun e => by rw [e] at wgv; omega) (fun e => by have := h2.od _ e; omega)
  have X3 := hH.2.2.2.2.chg g3 (by simp only [List.mem_cons, not_or]; exact ⟨by omega, by omega, fun e => by have := unhide lD _ e; omega⟩)
  refine hK.out _ _ ⟨(q2 2).trans hH.1, (q2 3).trans hH.2.1, (q3 i).trans hH.2.2.1, (q4 i).trans hH.2.2.2.1, X3⟩ (fun hH2 => ?_)
  have z3 := g3.size
  clear hK K hH q1 q2 q3 q4 g3
  have hH := hH2
  clear hH2
  walk_nrm
  refine wpAnyH_ready (rs := [19]) (by kernel_rfl) (by simp) ?_
  refine AllReadyH.cons rfl (fun K hK => ?_) AllReadyH.nil
  rw [if_pos (by rfl)]
  go_simp
  refine (vord_all (m.vb i) m.pb (s.vs i) s.p m.u o _ (h3.vgr i hi) h3.plt f3 (h2.pp.inv i hi) h2.pp.e1 h2.pp.e2).mono ?_
  rintro y w4 ⟨rfl, u4, V4, P4, g4, n4⟩
  have h4 := h3.verOp (p' := wrD s.p (s.vs i) o 9) hi rfl V4 P4 g4 n4 (h2.pp.order hi o)
  have q1 : ∀ b, b < w3.heap.size → b ≠ m.vb i → b ≠ m.pb → ∀ j, w4.cell? ⟨b, j, none⟩ = w3.cell? ⟨b, j, none⟩ := fun b hb e1 e2 j => kCell g4 hb (by simp only [List.mem_cons, not_or, List.not_mem_nil]; exact ⟨e1, e2, fun h => h⟩)
  have ov1 := h2.ov i hi
  have op1 := h2.op m.pb (mem_fp.2 (.inl rfl))
  have q2 := q1 m.cb (by omega) (fun e => by have := h2.ocb; rw [e] at this; omega) (fun e => by have := h2.ocb; rw [e] at this; omega)
  have q3 := q1 gn (by omega) (fun e => by rw [e] at wgn; omega) (fun e => by rw [e] at wgn; omega)
  have q4 := q1 gv (by omega) (fun e => by rw [e] at wgv; omega) (fun e => by rw [e] at wgv; omega)
  have X4 := hH.2.2.2.2.chg g4 (by simp only [List.mem_cons, not_or, List.not_mem_nil]; exact ⟨by omega, fun e => by have := unhide lP _ (mem_fp.2 (.inl rfl)); omega, fun h => h⟩)
  refine hK.out _ _ ⟨(q2 2).trans hH.1, (q2 3).trans hH.2.1, (q3 i).trans hH.2.2.1, (q4 i).trans hH.2.2.2.1, X4⟩ (fun hH2 => ?_)
  clear hK K hH q1 q2 q3 q4 g4
  have hH := hH2
  clear hH2
  walk_nrm
  generalize ha : ordA s.d (s.ns i) o = A at *
  generalize hb : ordA s.p (s.vs i) o = B at *
  obtain ⟨a1, a2, a3⟩ := A
  obtain ⟨b1, b2, b3⟩ := B
  unfold ansV
  refine wpAnyH_take (i := 20) (v := .bool (decide (a1 = b1 ∧ a2 = b2 ∧ a3 = b3))) rfl (by kernel_rfl) (by kernel_rfl) (by kernel_rfl) (fun _ _ _ h => h) (Or.inl ⟨by rfl, ?hzq17⟩) hH ?rzq17
  case hzq17 => (intro W' hSw; (try dsimp only at hSw); go_simp; by_cases e1 : a1 = b1 <;> by_cases e2 : a2 = b2 <;> by_cases e3 : a3 = b3 <;> simp [e1, e2, e3]; try with_reducible rfl)
  walk_nrm
  refine wpAnyH_take (i := 21) (v := ?_) rfl (by kernel_rfl) (by kernel_rfl) (by kernel_rfl) (fun _ _ _ h => h) (Or.inl ⟨by rfl, ?hzq18⟩) hH ?rzq18
  case hzq18 => (intro W' hSw; (try dsimp only at hSw); go_simp; try with_reducible rfl)
  walk_nrm
  refine wpAnyH_done (by kernel_rfl) ?_ _
  refine NoPanic.normal ?_
  go_wp2_with fail
  go_ret
  refine step_mk (bo := decide (a1 = b1) && (decide (a2 = b2) && decide (a3 = b3))) h4 rfl rfl he (fun hs => ⟨?_, hs.op hi (fun d n => wrD d n o 9) (fun d n => ordN d n o)⟩)
  rw [hs.1, hs.2 i hi, ha] at hb
  injection hb with e1 e2 e3
  simp [e1, e2, e3]


end Go.Proofs.Ytafbacijfiodhab

