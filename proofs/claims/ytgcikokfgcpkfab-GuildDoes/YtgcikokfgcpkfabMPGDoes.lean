/- For all steps the law GuildDoes returns true, and leaves them as they were; no condition. -/
import Derived.Test.YtgcikokfgcpkfabMgG4
import Derived.Test.YtgcikokfgcpkfabMG8
import Derived.Test.YtgcikokfgcpkfabMGFrame
namespace Go.Proofs.Ytgcikokfgcpkfab
open Go.RowKit

/-- What holds behind every operation may be more, from some operation on. -/
theorem wpAnyH_more {P : Program} {md : Region.Mode} {ops : Array Oper} {Q : Exit → Act → World → Prop} {S S' : World → Prop} (hS : ∀ w, S' w → S w) : ∀ (fuel : Nat) (listed : Array Bool) (a : Act) (w : World), wpAnyH P md ops Q S' fuel listed a w → wpAnyH P md ops Q S fuel listed a w
  | 0, _, _, _, h => h
  | fuel + 1, _, _, _, h => ⟨h.1, fun i hi => wpOp_mono (fun a' w' h' => ⟨hS _ h'.1, wpAnyH_more hS fuel _ a' w' h'.2⟩) (h.2 i hi)⟩
/-- A step lies in a row of steps. -/
theorem sp_yield {S : World → Prop} {bl of : Nat} {x : Sp} (hS : ∀ W, S W → SpAt W bl of x) {ops : Array Oper} {op : Oper} {a : Act} {y : Operand} (hw : Region.wanted op (yielded ops a.tmps) = true) (ho : op.op = .load 90 y) (hx : a.eval y = .pointer (some ⟨bl, of, none⟩)) :
    YieldsIf Try.prog ops S op (spV x) a :=
  yieldsIf_load_mid (P := Try.prog) hw 90 y ho bl of hx [.int .i64 x.k, .int .i64 x.n, .int .i64 x.keep, .int .i64 x.o.k, .int .i64 x.o.now, .int .i64 x.o.jb, .int .i64 x.o.tr, .int .i64 x.o.wk, .int .i64 x.o.tm] _ (fun w' hw' j v hv => by
    obtain ⟨h0, h1, h2, h3, h4, h5, h6, h7, h8⟩ := hS _ hw'
    have hj : j < 9 := by
      rcases Nat.lt_or_ge j 9 with h | h
      · exact h
      · rw [List.getElem?_eq_none (by simpa using h)] at hv; cases hv
    obtain rfl | rfl | rfl | rfl | rfl | rfl | rfl | rfl | rfl : j = 0 ∨ j = 1 ∨ j = 2 ∨ j = 3 ∨ j = 4 ∨ j = 5 ∨ j = 6 ∨ j = 7 ∨ j = 8 := by omega
    · exact h0.trans (by simpa using hv)
    · exact h1.trans (by simpa using hv)
    · exact h2.trans (by simpa using hv)
    · exact h3.trans (by simpa using hv)
    · exact h4.trans (by simpa using hv)
    · exact h5.trans (by simpa using hv)
    · exact h6.trans (by simpa using hv)
    · exact h7.trans (by simpa using hv)
    · exact h8.trans (by simpa using hv)) Try.underlying90 rfl (by kernel_rfl)
theorem Sps.at {W : World} {bl off len : Nat} {fs : Nat → Sp} (h : Sps W (some ⟨bl, off, none⟩) len fs) {k : Nat} (hk : k < len) : SpAt W bl (off + k * 9) (fs k) := by
  rcases h with h0 | ⟨bl', off', e, -, hO⟩
  · omega
  · cases e
    exact hO k hk
/-- Both guilds, apart from each other. -/
structure Both (W0 w : World) (g : Gm) (c : Cm) (s s' : Gd) : Prop where
  gl : Gld W0 w g s
  cl : Chp W0 w c s'
  ap : ∀ x, x < w.heap.size → g.own x = 100 ∨ c.own x = 100
theorem Both.quiet {W0 w w' : World} {g : Gm} {c : Cm} {s s' : Gd} (h : Both W0 w g c s s') (k : Chg [] w w') (hz : w'.heap.size = w.heap.size) : Both W0 w' g c s s' := ⟨h.gl.keep k (by simp), h.cl.keep k (by simp), fun x hx => h.ap x (by omega)⟩
theorem Both.same {W0 w w' : World} {g : Gm} {c : Cm} {s s' : Gd} (h : Both W0 w g c s s') (k : Chg [] w w') : ∃ g' c', Both W0 w' g' c' s s' ∧ g'.gb = g.gb ∧ c'.cb = c.cb := by
  refine ⟨_, _, ⟨h.gl.fresh k, h.cl.fresh k, fun x hx => ?_⟩, rfl, rfl⟩
  rcases Nat.lt_or_ge x w.heap.size with h1 | h1
  · rcases h.ap x h1 with e | e
    · exact .inl (grw_as g _ h1 e)
    · exact .inr (crw_as c _ h1 e)
  · exact .inl (grw_at g _ h1)
theorem Both.gstep {W0 w w' : World} {g g' : Gm} {c : Cm} {s s' s2 : Gd} (h : Both W0 w g c s s2) (X : Gnx W0 w g w' g' s') : ∃ c', Both W0 w' g' c' s' s2 ∧ g'.gb = g.gb ∧ c'.cb = c.cb := by
  obtain ⟨bs, k, hbs⟩ := X.ch
  have hc : ∀ x ∈ bs, ({ c with own := grw w.heap.size c.own (fun _ => 100) } : Cm).own x = 100 ∧ W0.heap.size ≤ x := fun x hx => by
    refine ⟨crw_as c _ (hbs x hx).2 ?_, h.gl.base (hbs x hx).1⟩
    rcases h.ap x (hbs x hx).2 with e | e
    · exact absurd e (hbs x hx).1
    · exact e
  refine ⟨_, ⟨X.g, (h.cl.tell (fun _ => 100)).keep k hc, fun x hx => ?_⟩, X.gb, rfl⟩
  rcases Nat.lt_or_ge x w.heap.size with h1 | h1
  · rcases h.ap x h1 with e | e
    · exact .inl (X.ow x h1 e)
    · exact .inr (crw_as c _ h1 e)
  · exact .inr (crw_at c _ h1)
theorem Both.cstep {W0 w w' : World} {g : Gm} {c c' : Cm} {s s' s2 : Gd} (h : Both W0 w g c s s2) (X : Cnx W0 w c w' c' s') : ∃ g', Both W0 w' g' c' s s' ∧ g'.gb = g.gb ∧ c'.cb = c.cb := by
  obtain ⟨bs, k, hbs⟩ := X.ch
  have hc : ∀ x ∈ bs, ({ g with own := grw w.heap.size g.own (fun _ => 100) } : Gm).own x = 100 ∧ W0.heap.size ≤ x := fun x hx => by
    refine ⟨grw_as g _ (hbs x hx).2 ?_, h.cl.base (hbs x hx).1⟩
    rcases h.ap x (hbs x hx).2 with e | e
    · exact e
    · exact absurd e (hbs x hx).1
  refine ⟨_, ⟨(h.gl.tell (fun _ => 100)).keep k hc, X.c, fun x hx => ?_⟩, rfl, X.cb⟩
  rcases Nat.lt_or_ge x w.heap.size with h1 | h1
  · rcases h.ap x h1 with e | e
    · exact .inl (grw_as g _ h1 e)
    · exact .inr (X.ow x h1 e)
  · exact .inl (grw_at g _ h1)
theorem cstep_at (W0 : World) (m : Cm) (s : Gd) (x : Sp) (cb : Nat) (w : World) (h : Chp W0 w m s) (hc : m.cb = cb) :
    Calls Try.prog 43 #[.pointer (some ⟨cb, 0, none⟩), spV x] w fun e w' => e = .returned (ansV (stepG s x).2) ∧ ∃ m', Cnx W0 w m w' m' (stepG s x).1 := by
  subst hc
  exact cstep_any W0 m s x w h

set_option maxRecDepth 100000 in
set_option maxHeartbeats 8000000 in
theorem gdoes_any (a : Option Addr) (len cap : Nat) (fs : Nat → Sp) (W : World) (h : Sps W a len fs) :
    Calls Try.prog 10 #[.slice a len cap] W fun e w' => e = .returned (.bool true) ∧ Chg [] W w' := by
  have HH := hide h
  clear h
  by_cases hbig : 300 < len
  · have d1 : decide ((300 : Int) < (len : Int)) = true := by simp; omega
    go_enter Try.func10, Try.ntmps10
    go_wp2_with (go_at_call 40; refine (gbegun_any _).mono ?_; rintro e w1 ⟨rfl, G1⟩)
    go_ret
    exact ⟨rfl, G1⟩
  have d1 : decide ((300 : Int) < (len : Int)) = false := by simp; omega
  go_enter Try.func10, Try.ntmps10
  go_wp2_with (first
    | (go_at_call 40; refine (gbegun_any _).mono ?_; rintro e w1 ⟨rfl, G1⟩)
    | (go_at_call 41; refine (gnew_any _).mono ?_; rintro e w2 ⟨m0, rfl, C0⟩))
  obtain ⟨gb, hgb0⟩ : ∃ gb, m0.gb = gb := ⟨_, rfl⟩
  rw [hgb0]
  have k0 : Chg [] w2 (w2.alloc (.cells #[.int .i64 0, .slice none 0 0, .pointer none, .pointer none, .pointer none, .int .i64 0] 87)) := (Chg.refl [] w2).alloc _
  have z12 : w1.heap.size ≤ w2.heap.size := C0.ch.size
  have P0 : Plt 87 #[.pointer none, .pointer none, .pointer none, .int .i64 0] (w2.alloc (.cells #[.int .i64 0, .slice none 0 0, .pointer none, .pointer none, .pointer none, .int .i64 0] 87)) w2.heap.size 0 (.slice none 0 0) [] := ⟨Blk.new w2 _ _, .inl ⟨rfl, rfl⟩, by simp, okB_nil, by simp [Value.ownBlock], by simp [Value.ownBlock]⟩
  have CC : Chp w1 (w2.alloc (.cells #[.int .i64 0, .slice none 0 0, .pointer none, .pointer none, .pointer none, .int .i64 0] 87)) ⟨w2.heap.size, .slice none 0 0, fun _ => 0, fun x => if x = w2.heap.size then 4 else 100⟩ G0 := ⟨P0, (fun i n hi hn => by cases hn), ⟨[], [], plG_0⟩, (fun x hx => (mem_fp.1 hx).elim (fun e => if_pos e) (fun e => by simp [Value.ownBlock] at e)), (fun i n hi hn => by cases hn), (fun x hx => if_neg (by omega)), C0.ch.trans k0 (by simp)⟩
  have BO : ∃ g c, Both w1 (w2.alloc (.cells #[.int .i64 0, .slice none 0 0, .pointer none, .pointer none, .pointer none, .int .i64 0] 87)) g c G0 G0 ∧ g.gb = gb ∧ c.cb = w2.heap.size := by
    refine ⟨_, _, ⟨C0.fresh k0, CC, fun x hx => ?_⟩, hgb0, rfl⟩
    by_cases e : x = w2.heap.size
    · exact .inl (grw_at m0 _ (by omega))
    · exact .inr (if_neg e)
  have HBO := hide BO
  clear CC P0 k0 BO
  have HC0 := hide C0
  clear C0
  go_loopw [5] (fun i wr => ∃ (k : Nat) (g : Gm) (c : Cm) (s : Gd), k ≤ len ∧ i = .int .i64 k ∧ Both w1 wr g c s s ∧ g.gb = gb ∧ c.cb = w2.heap.size) (fun i _ => len - (intOf i).toNat)
  case atStart =>
    obtain ⟨g, c, B, h1, h2⟩ := unhide HBO
    exact ⟨0, g, c, G0, by omega, rfl, B, h1, h2⟩
  case round =>
    obtain ⟨k, g, c, s, hkl, rfl, B, hgb, hcb⟩ := hrel
    have C := B.gl
    clear HC0 HBO hgb0
    by_cases hlt : k < len
    · have hki : (k : Int) < (len : Int) := by omega
      have hk0 : (0 : Int) ≤ (k : Int) := by omega
      rcases unhide HH with h0 | ⟨bl, off, rfl, hbl, hO⟩
      · omega
      have GW := G1.trans C.ch (by simp)
      obtain ⟨p0, p1, p2, p3, p4, p5, p6, p7, p8⟩ := (hO k hlt).chg GW hbl
      have lbl := Nat.lt_of_lt_of_le hbl GW.size
      clear hO
      have hX : ∀ W', Chg [] W W' → SpAt W' bl (off + k * 9) (fs k) := fun W' ch => ((unhide HH).at hlt).chg ch hbl
      have HX0 := hide hX
      have B0 := B.quiet (w' := wr.drew) ((Chg.refl [] wr).drew) rfl
      have GWd : Chg [] W wr.drew := GW.drew
      have lgb : gb < wr.heap.size := by rw [← hgb]; exact B.gl.blk.lt
      have lcbb : w2.heap.size < wr.heap.size := by rw [← hcb]; exact B.cl.plt.blk.lt
      clear hX C p0 p1 p2 p3 p4 p5 p6 p7 p8
      generalize fs k = x at *
      go_wp2_with fail
      refine wp_region_noPanic ?_
      refine wp_region_held_drew (S := (fun W' => SpAt W' bl (off + k * 9) x)) (by kernel_rfl) (unhide HX0 wr.drew GWd) (fun hH => ?_)
      refine wpAnyH_take (i := 0) (v := ?_) rfl (by kernel_rfl) (by kernel_rfl) (by kernel_rfl) (fun _ _ _ h => h) (Or.inl ⟨by rfl, ?hzq1⟩) hH ?rzq1
      case hzq1 => (intro W' hSw; (try dsimp only at hSw); go_simp; try with_reducible rfl)
      walk_nrm
      refine wpAnyH_take (i := 1) (v := ?_) rfl (by kernel_rfl) (by kernel_rfl) (by kernel_rfl) (fun _ _ _ h => h) (Or.inl ⟨by rfl, ?hzq2⟩) hH ?rzq2
      case hzq2 => (intro W' hSw; (try dsimp only at hSw); go_simp; try with_reducible rfl)
      walk_nrm
      refine wpAnyH_take (i := 2) (v := ?_) rfl (by kernel_rfl) (by kernel_rfl) (by kernel_rfl) (fun _ _ _ h => h) (Or.inl ⟨by rfl, ?hzq3⟩) hH ?rzq3
      case hzq3 => (intro W' hSw; (try dsimp only at hSw); go_simp; try with_reducible rfl)
      walk_nrm
      refine wpAnyH_take (i := 3) (v := ?_) rfl (by kernel_rfl) (by kernel_rfl) (by kernel_rfl) (fun _ _ _ h => h) (Or.inl ⟨by rfl, ?hzq4⟩) hH ?rzq4
      case hzq4 => (intro W' hSw; (try dsimp only at hSw); go_simp; try with_reducible rfl)
      walk_nrm
      refine wpAnyH_take (i := 4) (v := _) rfl (by kernel_rfl) (by kernel_rfl) (by kernel_rfl) (fun _ _ _ h => h) (sp_yield (x := x) (fun _ h => h) (by rfl) rfl rfl) hH ?_
      walk_nrm
      refine wpAnyH_take (i := 6) (v := ?_) rfl (by kernel_rfl) (by kernel_rfl) (by kernel_rfl) (fun _ _ _ h => h) (Or.inl ⟨by rfl, ?hzq5⟩) hH ?rzq5
      case hzq5 => (intro W' hSw; (try dsimp only at hSw); go_simp; try with_reducible rfl)
      walk_nrm
      refine wpAnyH_take (i := 7) (v := ?_) rfl (by kernel_rfl) (by kernel_rfl) (by kernel_rfl) (fun _ _ _ h => h) (Or.inl ⟨by rfl, ?hzq6⟩) hH ?rzq6
      case hzq6 => (intro W' hSw; (try dsimp only at hSw); go_simp; try with_reducible rfl)
      walk_nrm
      refine wpAnyH_take (i := 8) (v := ?_) rfl (by kernel_rfl) (by kernel_rfl) (by kernel_rfl) (fun _ _ _ h => h) (Or.inl ⟨by rfl, ?hzq7⟩) hH ?rzq7
      case hzq7 => (intro W' hSw; (try dsimp only at hSw); go_simp; try with_reducible rfl)
      walk_nrm
      refine wpAnyH_take (i := 9) (v := ?_) rfl (by kernel_rfl) (by kernel_rfl) (by kernel_rfl) (fun _ _ _ h => h) (Or.inl ⟨by rfl, ?hzq8⟩) hH ?rzq8
      case hzq8 => (intro W' hSw; (try dsimp only at hSw); go_simp; try with_reducible rfl)
      walk_nrm
      refine wpAnyH_take (i := 10) (v := _) rfl (by kernel_rfl) (by kernel_rfl) (by kernel_rfl) (fun _ _ _ h => h) (sp_yield (x := x) (fun _ h => h) (by rfl) rfl rfl) hH ?_
      walk_nrm
      refine wpAnyH_ready (rs := [5]) (by kernel_rfl) (by simp) ?_
      refine AllReadyH.cons rfl (fun K hK => ?_) AllReadyH.nil
      rw [if_pos (by rfl)]
      go_simp
      refine (gstep_at w1 g s x gb _ B0.gl hgb).mono ?_
      rintro e v2 ⟨rfl, g2, X2⟩
      obtain ⟨c2, B2, hg2, hc2⟩ := B0.gstep X2
      replace hg2 := hg2.trans hgb
      replace hc2 := hc2.trans hcb
      clear X2
      refine hK.out _ _ (unhide HX0 v2 (G1.trans B2.gl.ch (by simp))) (fun hH2 => ?_)
      clear hK K hH
      have hH := hH2
      clear hH2
      walk_nrm
      refine wpAnyH_ready (rs := [11]) (by kernel_rfl) (by simp) ?_
      refine AllReadyH.cons rfl (fun K hK => ?_) AllReadyH.nil
      rw [if_pos (by rfl)]
      go_simp
      refine (cstep_at w1 c2 s x w2.heap.size _ B2.cl hc2).mono ?_
      rintro e v3 ⟨rfl, c3, X3⟩
      obtain ⟨g3, B3, hg3, hc3⟩ := B2.cstep X3
      replace hg3 := hg3.trans hg2
      replace hc3 := hc3.trans hc2
      clear X3 B2 hg2 hc2
      refine hK.out _ _ (unhide HX0 v3 (G1.trans B3.gl.ch (by simp))) (fun hH2 => ?_)
      clear hK K hH
      have hH := hH2
      clear hH2
      walk_nrm
      refine wpAnyH_take (i := 12) (v := .bool false) rfl (by kernel_rfl) (by kernel_rfl) (by kernel_rfl) (fun _ _ _ h => h) (Or.inl ⟨by rfl, ?hzq9⟩) hH ?rzq9
      case hzq9 => (intro W' hSw; (try dsimp only at hSw); unfold ansV; go_simp; (try simp); try with_reducible rfl)
      walk_nrm
      refine wpAnyH_take (i := 13) (v := ?_) rfl (by kernel_rfl) (by kernel_rfl) (by kernel_rfl) (fun _ _ _ h => h) (Or.inl ⟨by rfl, ?hzq10⟩) hH ?rzq10
      case hzq10 => (intro W' hSw; (try dsimp only at hSw); go_simp; try with_reducible rfl)
      walk_nrm
      obtain ⟨s', es'⟩ : ∃ s', s' = (stepG s x).1 := ⟨_, rfl⟩
      rw [← es'] at B3
      clear es'
      obtain ⟨q0, q1, q2, q3, q4, q5, lq⟩ := B3.cl.cells
      rw [hc3] at q0 q1 q5 lq
      obtain ⟨qd, lqg⟩ := B3.gl.disk hg3
      have P3 := B3.cl.plt
      refine wpAnyH_more (S' := (fun W' => SpAt W' bl (off + k * 9) x ∧ W'.cell? ⟨w2.heap.size, 5, none⟩ = some (.int .i64 s'.now) ∧ W'.cell? ⟨w2.heap.size, 0, none⟩ = some (.int .i64 s'.d.ep) ∧ W'.cell? ⟨w2.heap.size, 1, none⟩ = some c3.u ∧ W'.cell? ⟨gb, 0, none⟩ = some (.pointer (some ⟨g3.db, 0, none⟩)) ∧ (convert 27 9 c3.u).run Try.prog W' = .ok (.string (strOfNums s'.d.l)) W')) (fun _ h => h.1) _ _ _ _ ?_
      have hH' : (fun W' => SpAt W' bl (off + k * 9) x ∧ W'.cell? ⟨w2.heap.size, 5, none⟩ = some (.int .i64 s'.now) ∧ W'.cell? ⟨w2.heap.size, 0, none⟩ = some (.int .i64 s'.d.ep) ∧ W'.cell? ⟨w2.heap.size, 1, none⟩ = some c3.u ∧ W'.cell? ⟨gb, 0, none⟩ = some (.pointer (some ⟨g3.db, 0, none⟩)) ∧ (convert 27 9 c3.u).run Try.prog W' = .ok (.string (strOfNums s'.d.l)) W') v3 := ⟨hH, q5, q0, q1, qd, kStr _ _ _ P3.sl⟩
      clear hH
      have hH := hH'
      clear hH'
      refine wpAnyH_take (i := 14) (v := ?_) rfl (by kernel_rfl) (by kernel_rfl) (by kernel_rfl) (fun _ _ _ h => h) (Or.inl ⟨by rfl, ?hzq11⟩) hH ?rzq11
      case hzq11 => (intro W' hSw; (try dsimp only at hSw); go_simp; try with_reducible rfl)
      walk_nrm
      refine wpAnyH_take (i := 16) (v := ?_) rfl (by kernel_rfl) (by kernel_rfl) (by kernel_rfl) (fun _ _ _ h => h) (Or.inl ⟨by rfl, ?hzq12⟩) hH ?rzq12
      case hzq12 => (intro W' hSw; (try dsimp only at hSw); go_simp; try with_reducible rfl)
      walk_nrm
      refine wpAnyH_take (i := 17) (v := ?_) rfl (by kernel_rfl) (by kernel_rfl) (by kernel_rfl) (fun _ _ _ h => h) (Or.inl ⟨by rfl, ?hzq13⟩) hH ?rzq13
      case hzq13 => (intro W' hSw; (try dsimp only at hSw); go_simp; try with_reducible rfl)
      walk_nrm
      refine wpAnyH_take (i := 18) (v := ?_) rfl (by kernel_rfl) (by kernel_rfl) (by kernel_rfl) (fun _ _ _ h => h) (Or.inl ⟨by rfl, ?hzq14⟩) hH ?rzq14
      case hzq14 => (intro W' hSw; (try dsimp only at hSw); go_simp; try with_reducible rfl)
      walk_nrm
      refine wpAnyH_take (i := 19) (v := ?_) rfl (by kernel_rfl) (by kernel_rfl) (by kernel_rfl) (fun _ _ _ h => h) (Or.inl ⟨by rfl, ?hzq15⟩) hH ?rzq15
      case hzq15 => (intro W' hSw; (try dsimp only at hSw); obtain ⟨s1, s2, s3, s4, s5, s6⟩ := hSw; go_simp; try with_reducible rfl)
      walk_nrm
      refine wpAnyH_ready (rs := [15]) (by kernel_rfl) (by simp) ?_
      refine AllReadyH.cons rfl (fun K hK => ?_) AllReadyH.nil
      rw [if_pos (by rfl)]
      go_simp
      refine (gnow_at w1 g3 s' gb _ B3.gl hg3).mono ?_
      rintro e v3 ⟨rfl, rfl⟩
      refine hK.out _ _ hH (fun hH2 => ?_)
      clear hK K hH
      have hH := hH2
      clear hH2
      walk_nrm
      refine wpAnyH_take (i := 20) (v := .bool false) rfl (by kernel_rfl) (by kernel_rfl) (by kernel_rfl) (fun _ _ _ h => h) (Or.inl ⟨by rfl, ?hzq16⟩) hH ?rzq16
      case hzq16 => (intro W' hSw; (try dsimp only at hSw); go_simp; (try simp); try with_reducible rfl)
      walk_nrm
      refine wpAnyH_take (i := 21) (v := ?_) rfl (by kernel_rfl) (by kernel_rfl) (by kernel_rfl) (fun _ _ _ h => h) (Or.inl ⟨by rfl, ?hzq17⟩) hH ?rzq17
      case hzq17 => (intro W' hSw; (try dsimp only at hSw); go_simp; try with_reducible rfl)
      walk_nrm
      refine wpAnyH_take (i := 22) (v := ?_) rfl (by kernel_rfl) (by kernel_rfl) (by kernel_rfl) (fun _ _ _ h => h) (Or.inl ⟨by rfl, ?hzq18⟩) hH ?rzq18
      case hzq18 => (intro W' hSw; (try dsimp only at hSw); go_simp; try with_reducible rfl)
      walk_nrm
      refine wpAnyH_take (i := 23) (v := ?_) rfl (by kernel_rfl) (by kernel_rfl) (by kernel_rfl) (fun _ _ _ h => h) (Or.inl ⟨by rfl, ?hzq19⟩) hH ?rzq19
      case hzq19 => (intro W' hSw; (try dsimp only at hSw); go_simp; try with_reducible rfl)
      walk_nrm
      refine wpAnyH_take (i := 24) (v := ?_) rfl (by kernel_rfl) (by kernel_rfl) (by kernel_rfl) (fun _ _ _ h => h) (Or.inl ⟨by rfl, ?hzq20⟩) hH ?rzq20
      case hzq20 => (intro W' hSw; (try dsimp only at hSw); go_simp; try with_reducible rfl)
      walk_nrm
      refine wpAnyH_take (i := 25) (v := ?_) rfl (by kernel_rfl) (by kernel_rfl) (by kernel_rfl) (fun _ _ _ h => h) (Or.inl ⟨by rfl, ?hzq21⟩) hH ?rzq21
      case hzq21 => (intro W' hSw; (try dsimp only at hSw); go_simp; try with_reducible rfl)
      walk_nrm
      refine wpAnyH_take (i := 26) (v := ?_) rfl (by kernel_rfl) (by kernel_rfl) (by kernel_rfl) (fun _ _ _ h => h) (Or.inl ⟨by rfl, ?hzq22⟩) hH ?rzq22
      case hzq22 => (intro W' hSw; (try dsimp only at hSw); obtain ⟨s1, s2, s3, s4, s5, s6⟩ := hSw; go_simp; try with_reducible rfl)
      walk_nrm
      refine wpAnyH_take (i := 28) (v := ?_) rfl (by kernel_rfl) (by kernel_rfl) (by kernel_rfl) (fun _ _ _ h => h) (Or.inl ⟨by rfl, ?hzq23⟩) hH ?rzq23
      case hzq23 => (intro W' hSw; (try dsimp only at hSw); go_simp; try with_reducible rfl)
      walk_nrm
      refine wpAnyH_take (i := 29) (v := ?_) rfl (by kernel_rfl) (by kernel_rfl) (by kernel_rfl) (fun _ _ _ h => h) (Or.inl ⟨by rfl, ?hzq24⟩) hH ?rzq24
      case hzq24 => (intro W' hSw; (try dsimp only at hSw); go_simp; try with_reducible rfl)
      walk_nrm
      refine wpAnyH_take (i := 30) (v := ?_) rfl (by kernel_rfl) (by kernel_rfl) (by kernel_rfl) (fun _ _ _ h => h) (Or.inl ⟨by rfl, ?hzq25⟩) hH ?rzq25
      case hzq25 => (intro W' hSw; (try dsimp only at hSw); go_simp; try with_reducible rfl)
      walk_nrm
      refine wpAnyH_take (i := 31) (v := ?_) rfl (by kernel_rfl) (by kernel_rfl) (by kernel_rfl) (fun _ _ _ h => h) (Or.inl ⟨by rfl, ?hzq26⟩) hH ?rzq26
      case hzq26 => (intro W' hSw; (try dsimp only at hSw); go_simp; try with_reducible rfl)
      walk_nrm
      refine wpAnyH_take (i := 32) (v := ?_) rfl (by kernel_rfl) (by kernel_rfl) (by kernel_rfl) (fun _ _ _ h => h) (Or.inl ⟨by rfl, ?hzq27⟩) hH ?rzq27
      case hzq27 => (intro W' hSw; (try dsimp only at hSw); obtain ⟨s1, s2, s3, s4, s5, s6⟩ := hSw; go_simp; try with_reducible rfl)
      walk_nrm
      refine wpAnyH_ready (rs := [27]) (by kernel_rfl) (by simp) ?_
      refine AllReadyH.cons rfl (fun K hK => ?_) AllReadyH.nil
      rw [if_pos (by rfl)]
      go_simp
      refine (depoch_any g3.db s'.d.ep g3.v s'.d.l w1.heap.size _ B3.gl.dsk).mono ?_
      rintro e v3 ⟨rfl, rfl⟩
      refine hK.out _ _ hH (fun hH2 => ?_)
      clear hK K hH
      have hH := hH2
      clear hH2
      walk_nrm
      refine wpAnyH_take (i := 33) (v := .bool false) rfl (by kernel_rfl) (by kernel_rfl) (by kernel_rfl) (fun _ _ _ h => h) (Or.inl ⟨by rfl, ?hzq28⟩) hH ?rzq28
      case hzq28 => (intro W' hSw; (try dsimp only at hSw); go_simp; (try simp); try with_reducible rfl)
      walk_nrm
      refine wpAnyH_take (i := 34) (v := ?_) rfl (by kernel_rfl) (by kernel_rfl) (by kernel_rfl) (fun _ _ _ h => h) (Or.inl ⟨by rfl, ?hzq29⟩) hH ?rzq29
      case hzq29 => (intro W' hSw; (try dsimp only at hSw); go_simp; try with_reducible rfl)
      walk_nrm
      refine wpAnyH_take (i := 35) (v := ?_) rfl (by kernel_rfl) (by kernel_rfl) (by kernel_rfl) (fun _ _ _ h => h) (Or.inl ⟨by rfl, ?hzq30⟩) hH ?rzq30
      case hzq30 => (intro W' hSw; (try dsimp only at hSw); go_simp; try with_reducible rfl)
      walk_nrm
      refine wpAnyH_take (i := 36) (v := ?_) rfl (by kernel_rfl) (by kernel_rfl) (by kernel_rfl) (fun _ _ _ h => h) (Or.inl ⟨by rfl, ?hzq31⟩) hH ?rzq31
      case hzq31 => (intro W' hSw; (try dsimp only at hSw); go_simp; try with_reducible rfl)
      walk_nrm
      refine wpAnyH_take (i := 37) (v := ?_) rfl (by kernel_rfl) (by kernel_rfl) (by kernel_rfl) (fun _ _ _ h => h) (Or.inl ⟨by rfl, ?hzq32⟩) hH ?rzq32
      case hzq32 => (intro W' hSw; (try dsimp only at hSw); go_simp; try with_reducible rfl)
      walk_nrm
      refine wpAnyH_take (i := 38) (v := ?_) rfl (by kernel_rfl) (by kernel_rfl) (by kernel_rfl) (fun _ _ _ h => h) (Or.inl ⟨by rfl, ?hzq33⟩) hH ?rzq33
      case hzq33 => (intro W' hSw; (try dsimp only at hSw); go_simp; try with_reducible rfl)
      walk_nrm
      refine wpAnyH_take (i := 39) (v := ?_) rfl (by kernel_rfl) (by kernel_rfl) (by kernel_rfl) (fun _ _ _ h => h) (Or.inl ⟨by rfl, ?hzq34⟩) hH ?rzq34
      case hzq34 => (intro W' hSw; (try dsimp only at hSw); obtain ⟨s1, s2, s3, s4, s5, s6⟩ := hSw; go_simp; try with_reducible rfl)
      walk_nrm
      refine wpAnyH_take (i := 42) (v := ?_) rfl (by kernel_rfl) (by kernel_rfl) (by kernel_rfl) (fun _ _ _ h => h) (Or.inl ⟨by rfl, ?hzq35⟩) hH ?rzq35
      case hzq35 => (intro W' hSw; (try dsimp only at hSw); go_simp; try with_reducible rfl)
      walk_nrm
      refine wpAnyH_take (i := 43) (v := ?_) rfl (by kernel_rfl) (by kernel_rfl) (by kernel_rfl) (fun _ _ _ h => h) (Or.inl ⟨by rfl, ?hzq36⟩) hH ?rzq36
      case hzq36 => (intro W' hSw; (try dsimp only at hSw); go_simp; try with_reducible rfl)
      walk_nrm
      refine wpAnyH_take (i := 44) (v := ?_) rfl (by kernel_rfl) (by kernel_rfl) (by kernel_rfl) (fun _ _ _ h => h) (Or.inl ⟨by rfl, ?hzq37⟩) hH ?rzq37
      case hzq37 => (intro W' hSw; (try dsimp only at hSw); go_simp; try with_reducible rfl)
      walk_nrm
      refine wpAnyH_take (i := 45) (v := ?_) rfl (by kernel_rfl) (by kernel_rfl) (by kernel_rfl) (fun _ _ _ h => h) (Or.inl ⟨by rfl, ?hzq38⟩) hH ?rzq38
      case hzq38 => (intro W' hSw; (try dsimp only at hSw); go_simp; try with_reducible rfl)
      walk_nrm
      refine wpAnyH_take (i := 46) (v := ?_) rfl (by kernel_rfl) (by kernel_rfl) (by kernel_rfl) (fun _ _ _ h => h) (Or.inl ⟨by rfl, ?hzq39⟩) hH ?rzq39
      case hzq39 => (intro W' hSw; (try dsimp only at hSw); obtain ⟨s1, s2, s3, s4, s5, s6⟩ := hSw; go_simp; try with_reducible rfl)
      walk_nrm
      refine wpAnyH_take (i := 47) (v := ?_) rfl (by kernel_rfl) (by kernel_rfl) (by kernel_rfl) (fun _ _ _ h => h) (Or.inl ⟨by rfl, ?hzq40⟩) hH ?rzq40
      case hzq40 => (intro W' hSw; (try dsimp only at hSw); obtain ⟨s1, s2, s3, s4, s5, s6⟩ := hSw; go_simp; try with_reducible rfl)
      walk_nrm
      refine wpAnyH_ready (rs := [40]) (by kernel_rfl) (by simp) ?_
      refine AllReadyH.cons rfl (fun K hK => ?_) AllReadyH.nil
      rw [if_pos (by rfl)]
      go_simp
      refine (dbytes_any g3.db s'.d.ep g3.v s'.d.l w1.heap.size _ B3.gl.dsk).mono ?_
      rintro e v4 ⟨u4, rfl, own4, g4⟩
      have hc4 := kStr _ v4 u4 (own_sl own4)
      have P4 := P3.chg g4 (by simp)
      obtain ⟨gg, cc, B4, hg4, hcc4⟩ := B3.same g4
      have GL4 := B4.gl.ch
      replace hg4 := hg4.trans hg3
      replace hcc4 := hcc4.trans hc3
      have kc : ∀ b jj, b < v3.heap.size → v4.cell? ⟨b, jj, none⟩ = v3.cell? ⟨b, jj, none⟩ := fun b jj hb => kCell g4 hb (by simp)
      clear g4 own4
      refine hK.out _ _ ⟨unhide HX0 v4 (G1.trans GL4 (by simp)), (kc _ _ lq).trans hH.2.1, (kc _ _ lq).trans hH.2.2.1, (kc _ _ lq).trans hH.2.2.2.1, (kc _ _ lqg).trans hH.2.2.2.2.1, kStr _ _ _ P4.sl⟩ (fun hH2 => ?_)
      clear hK K hH
      have hH := hH2
      clear hH2
      walk_nrm
      refine wpAnyH_ready (rs := [41]) (by kernel_rfl) (by simp) ?_
      refine AllReadyH.cons rfl (fun K hK => ?_) AllReadyH.nil
      rw [if_pos (by rfl)]
      go_simp
      refine hK.out _ _ hH (fun hH2 => ?_)
      clear hK K hH
      have hH := hH2
      clear hH2
      walk_nrm
      refine wpAnyH_take (i := 48) (v := .bool false) rfl (by kernel_rfl) (by kernel_rfl) (by kernel_rfl) (fun _ _ _ h => h) (Or.inl ⟨by rfl, ?hzq41⟩) hH ?rzq41
      case hzq41 => (intro W' hSw; (try dsimp only at hSw); go_simp; (try simp); try with_reducible rfl)
      walk_nrm
      refine wpAnyH_take (i := 49) (v := ?_) rfl (by kernel_rfl) (by kernel_rfl) (by kernel_rfl) (fun _ _ _ h => h) (Or.inl ⟨by rfl, ?hzq42⟩) hH ?rzq42
      case hzq42 => (intro W' hSw; (try dsimp only at hSw); go_simp; try with_reducible rfl)
      walk_nrm
      refine wpAnyH_done (by kernel_rfl) ?_ _
      refine NoPanic.normal ?_
      clear hH hc4 P4 P3 B3 q0 q1 q2 q3 q4 q5 qd kc B0 B lq lqg GL4
      have HB4 := hide B4
      clear B4
      go_wp2_with fail
      go_loopw [6] (fun nx wr => ∃ (n : Int) (g : Gm) (c : Cm), -1 ≤ n ∧ n ≤ 4 ∧ nx = .int .i64 n ∧ Both w1 wr g c s' s' ∧ g.gb = gb ∧ c.cb = w2.heap.size) (fun nx _ => (4 - intOf nx).toNat)
      case atStart => exact ⟨-1, gg, cc, by omega, by omega, rfl, unhide HB4, hg4, hcc4⟩
      case round =>
        clear HB4 hg4 hcc4
        obtain ⟨n, gg, cc, hn1, hn2, rfl, B, hg, hc⟩ := hrel
        have lgb' : gb < wr.heap.size := by rw [← hg]; exact B.gl.blk.lt
        by_cases hn : n ≤ 3
        · have hD : decide (n ≤ 3) = true := by simpa using hn
          have NODE := fun (q : Int) => gnode_at w1 gg s' q gb wr B.gl hg
          obtain rfl | rfl | rfl | rfl | rfl : n = -1 ∨ n = 0 ∨ n = 1 ∨ n = 2 ∨ n = 3 := by omega
          · clear hn hD hn1 hn2
            go_wp2_with fail
            refine (NODE (-1)).mono ?_
            rintro e wr ⟨rfl, rfl⟩
            clear NODE
            have hv : nodeV gg s' (-1) = .pointer none := by unfold nodeV nodeG; rw [if_neg (by decide)]; rfl
            rw [hv]
            clear hv
            go_wp2
            go_roundw
            case rel => exact ⟨(-1 : Int) + 1, gg, cc, by omega, by omega, by go_num, B, hg, hc⟩
            case measure => go_light; simp [intOf]
          · clear hn hD hn1 hn2
            go_wp2_with fail
            refine (NODE (0)).mono ?_
            rintro e wr ⟨rfl, rfl⟩
            clear NODE
            cases hs : s'.ns 0 with
            | none =>
              have hv : nodeV gg s' 0 = .pointer none := by unfold nodeV; rw [show nodeG s' 0 = none from hs]; rfl
              rw [hv]
              obtain ⟨-, -, c2, c3, c4, -, lcb⟩ := B.cl.cells
              rw [hs] at c2
              have cv : wr.cell? ⟨cc.cb, 2, none⟩ = some (.pointer none) := c2
              rw [hc] at cv lcb
              clear hv c2 c3 c4 hs
              go_wp2
              go_roundw
              case rel => exact ⟨(0 : Int) + 1, gg, cc, by omega, by omega, by go_num, B, hg, hc⟩
              case measure => go_light; simp [intOf]
            | some nd =>
              have hs' := hs
              have N := B.gl.nod 0 nd (by decide) hs
              have V := B.cl.vgr 0 nd (by decide) hs
              have hv : nodeV gg s' 0 = .pointer (some ⟨gg.nb 0, 0, none⟩) := by unfold nodeV; rw [show nodeG s' 0 = some nd from hs]; rfl
              rw [hv]
              obtain ⟨-, -, c2, c3, c4, -, lcb⟩ := B.cl.cells
              rw [hs] at c2
              have cv : wr.cell? ⟨cc.cb, 2, none⟩ = some (.pointer (some ⟨cc.vb 0, 0, none⟩)) := c2
              rw [hc] at cv lcb
              obtain ⟨n0, -, -, -, ln, -⟩ := N.cells
              obtain ⟨t0, t1, t2, -, lv⟩ := Vgr.tail V
              have vn := Vgr.nowC V
              have HN := hide N
              have HV := hide V
              have HB := hide B
              clear N V B hs hs' hv c2 c3 c4
              go_wp2_with fail
              go_quiet ((first
                | (go_at_call 31; exact Calls.quiet_of_same (nepoch_any (gg.nb 0) (gg.tb 0) gg.db nd _ ⟨(unhide HN).1, (unhide HN).2⟩))
                | (go_at_call 30; exact Calls.quiet_of_same (ndown_any (gg.nb 0) (gg.tb 0) gg.db nd _ ⟨(unhide HN).1, (unhide HN).2⟩))
                | (go_at_call 38; exact Calls.quiet_of_same (now_any (gg.tb 0) nd.T _ (unhide HN).2))))
              have B9 := (unhide HB).quiet ((Chg.refl [] wr).drewN nq) rfl
              have N9 : Nod (wr.drewN nq) (gg.nb 0) (gg.tb 0) gg.db nd := (unhide HN).chg ((Chg.refl [] wr).drewN nq) (by simp) (by simp)
              have V9 : Vn (wr.drewN nq) (cc.vb 0) cc.cb nd := (unhide HV).chg ((Chg.refl [] wr).drewN nq) (by simp)
              clear HN HV HB cv n0 t0 t1 t2 vn ln lv lcb
              generalize hW9 : World.drewN wr nq = w9 at *
              clear hW9
              have HB9 := hide B9
              have HN9 := hide N9
              have HV9 := hide V9
              clear B9 N9 V9
              go_wp2_with fail
              go_loopw [9] (fun jx wr => ∃ j : Nat, j ≤ 6 ∧ jx = .int .i64 j ∧ Chg [] w9 wr) (fun jx _ => 6 - (intOf jx).toNat)
              case atStart => exact ⟨0, by omega, rfl, Chg.refl _ _⟩
              case round =>
                obtain ⟨j, hj, rfl, G5⟩ := hrel
                by_cases hj6 : j < 6
                · have hji : decide ((j : Int) < 6) = true := by simp; omega
                  have N5 := (unhide HN9).chg G5.drew (by simp) (by simp)
                  have V5 := (unhide HV9).chg G5.drew (by simp)
                  have lnb := N5.lt.1
                  have lvb := V5.lt
                  go_wp2_with fail
                  refine wp_region_noPanic ?_
                  refine wp_region_held_drew (S := (fun W' => W'.cell? ⟨gg.nb 0, 0, none⟩ = some (.pointer (some ⟨gg.tb 0, 0, none⟩)))) (by kernel_rfl) (N5.1.cell 0) (fun hH => ?_)
                  refine wpAnyH_take (i := 0) (v := ?_) rfl (by kernel_rfl) (by kernel_rfl) (by kernel_rfl) (fun _ _ _ h => h) (Or.inl ⟨by rfl, ?hzq43⟩) hH ?rzq43
                  case hzq43 => (intro W' hSw; (try dsimp only at hSw); go_simp; try with_reducible rfl)
                  walk_nrm
                  refine wpAnyH_take (i := 1) (v := ?_) rfl (by kernel_rfl) (by kernel_rfl) (by kernel_rfl) (fun _ _ _ h => h) (Or.inl ⟨by rfl, ?hzq44⟩) hH ?rzq44
                  case hzq44 => (intro W' hSw; (try dsimp only at hSw); go_simp; try with_reducible rfl)
                  walk_nrm
                  refine wpAnyH_take (i := 2) (v := ?_) rfl (by kernel_rfl) (by kernel_rfl) (by kernel_rfl) (fun _ _ _ h => h) (Or.inl ⟨by rfl, ?hzq45⟩) hH ?rzq45
                  case hzq45 => (intro W' hSw; (try dsimp only at hSw); go_simp; try with_reducible rfl)
                  walk_nrm
                  refine wpAnyH_take (i := 3) (v := ?_) rfl (by kernel_rfl) (by kernel_rfl) (by kernel_rfl) (fun _ _ _ h => h) (Or.inl ⟨by rfl, ?hzq46⟩) hH ?rzq46
                  case hzq46 => (intro W' hSw; (try dsimp only at hSw); go_simp; try with_reducible rfl)
                  walk_nrm
                  refine wpAnyH_take (i := 4) (v := ?_) rfl (by kernel_rfl) (by kernel_rfl) (by kernel_rfl) (fun _ _ _ h => h) (Or.inl ⟨by rfl, ?hzq47⟩) hH ?rzq47
                  case hzq47 => (intro W' hSw; (try dsimp only at hSw); go_simp; try with_reducible rfl)
                  walk_nrm
                  refine wpAnyH_take (i := 6) (v := ?_) rfl (by kernel_rfl) (by kernel_rfl) (by kernel_rfl) (fun _ _ _ h => h) (Or.inl ⟨by rfl, ?hzq48⟩) hH ?rzq48
                  case hzq48 => (intro W' hSw; (try dsimp only at hSw); go_simp; try with_reducible rfl)
                  walk_nrm
                  refine wpAnyH_take (i := 7) (v := ?_) rfl (by kernel_rfl) (by kernel_rfl) (by kernel_rfl) (fun _ _ _ h => h) (Or.inl ⟨by rfl, ?hzq49⟩) hH ?rzq49
                  case hzq49 => (intro W' hSw; (try dsimp only at hSw); go_simp; try with_reducible rfl)
                  walk_nrm
                  refine wpAnyH_take (i := 8) (v := ?_) rfl (by kernel_rfl) (by kernel_rfl) (by kernel_rfl) (fun _ _ _ h => h) (Or.inl ⟨by rfl, ?hzq50⟩) hH ?rzq50
                  case hzq50 => (intro W' hSw; (try dsimp only at hSw); go_simp; try with_reducible rfl)
                  walk_nrm
                  refine wpAnyH_take (i := 9) (v := ?_) rfl (by kernel_rfl) (by kernel_rfl) (by kernel_rfl) (fun _ _ _ h => h) (Or.inl ⟨by rfl, ?hzq51⟩) hH ?rzq51
                  case hzq51 => (intro W' hSw; (try dsimp only at hSw); go_simp; try with_reducible rfl)
                  walk_nrm
                  refine wpAnyH_ready (rs := [5]) (by kernel_rfl) (by simp) ?_
                  refine AllReadyH.cons rfl (fun K hK => ?_) AllReadyH.nil
                  rw [if_pos (by rfl)]
                  go_simp
                  refine (job_all (gg.tb 0) j nd.T _ N5.2).mono ?_
                  rintro e wa ⟨rfl, ga⟩
                  have Na := N5.chg ga (by simp) (by simp)
                  have Va := V5.chg ga (by simp)
                  have Ga : Chg [] w9 wa := (G5.drew).trans ga (by simp)
                  clear ga
                  refine hK.out _ _ (Na.1.cell 0) (fun hH2 => ?_)
                  clear hK K hH
                  have hH := hH2
                  clear hH2
                  walk_nrm
                  refine wpAnyH_ready (rs := [10]) (by kernel_rfl) (by simp) ?_
                  refine AllReadyH.cons rfl (fun K hK => ?_) AllReadyH.nil
                  rw [if_pos (by rfl)]
                  go_simp
                  refine (vjob_all (cc.vb 0) j nd.T cc.cb nd.e nd.dn _ Va).mono ?_
                  rintro e wb ⟨rfl, gb'⟩
                  have Nb := Na.chg gb' (by simp) (by simp)
                  have Gb : Chg [] w9 wb := Ga.trans gb' (by simp)
                  clear gb'
                  refine hK.out _ _ (Nb.1.cell 0) (fun hH2 => ?_)
                  clear hK K hH
                  have hH := hH2
                  clear hH2
                  walk_nrm
                  refine wpAnyH_take (i := 11) (v := .bool false) rfl (by kernel_rfl) (by kernel_rfl) (by kernel_rfl) (fun _ _ _ h => h) (Or.inl ⟨by rfl, ?hzq52⟩) hH ?rzq52
                  case hzq52 => (intro W' hSw; (try dsimp only at hSw); go_simp; (try simp); try with_reducible rfl)
                  walk_nrm
                  refine wpAnyH_done (by kernel_rfl) ?_ _
                  refine NoPanic.normal ?_
                  go_wp2
                  go_roundw
                  case rel => exact ⟨j + 1, by omega, by go_num, Gb⟩
                  case measure => go_light; simp [intOf]; omega
                · have hji : decide ((j : Int) < 6) = false := by simp; omega
                  obtain ⟨g6, c6, B6, hg6, hc6⟩ := (unhide HB9).same G5
                  have HB6 := hide B6
                  clear B6
                  go_wp2
                  go_roundw
                  case rel => exact ⟨0 + 1, g6, c6, by omega, by omega, by go_num, unhide HB6, hg6.trans hg, hc6.trans hc⟩
                  case measure => go_light; simp [intOf]
          · clear hn hD hn1 hn2
            go_wp2_with fail
            refine (NODE (1)).mono ?_
            rintro e wr ⟨rfl, rfl⟩
            clear NODE
            cases hs : s'.ns 1 with
            | none =>
              have hv : nodeV gg s' 1 = .pointer none := by unfold nodeV; rw [show nodeG s' 1 = none from hs]; rfl
              rw [hv]
              obtain ⟨-, -, c2, c3, c4, -, lcb⟩ := B.cl.cells
              rw [hs] at c3
              have cv : wr.cell? ⟨cc.cb, 3, none⟩ = some (.pointer none) := c3
              rw [hc] at cv lcb
              clear hv c2 c3 c4 hs
              go_wp2
              go_roundw
              case rel => exact ⟨(1 : Int) + 1, gg, cc, by omega, by omega, by go_num, B, hg, hc⟩
              case measure => go_light; simp [intOf]
            | some nd =>
              have hs' := hs
              have N := B.gl.nod 1 nd (by decide) hs
              have V := B.cl.vgr 1 nd (by decide) hs
              have hv : nodeV gg s' 1 = .pointer (some ⟨gg.nb 1, 0, none⟩) := by unfold nodeV; rw [show nodeG s' 1 = some nd from hs]; rfl
              rw [hv]
              obtain ⟨-, -, c2, c3, c4, -, lcb⟩ := B.cl.cells
              rw [hs] at c3
              have cv : wr.cell? ⟨cc.cb, 3, none⟩ = some (.pointer (some ⟨cc.vb 1, 0, none⟩)) := c3
              rw [hc] at cv lcb
              obtain ⟨n0, -, -, -, ln, -⟩ := N.cells
              obtain ⟨t0, t1, t2, -, lv⟩ := Vgr.tail V
              have vn := Vgr.nowC V
              have HN := hide N
              have HV := hide V
              have HB := hide B
              clear N V B hs hs' hv c2 c3 c4
              go_wp2_with fail
              go_quiet ((first
                | (go_at_call 31; exact Calls.quiet_of_same (nepoch_any (gg.nb 1) (gg.tb 1) gg.db nd _ ⟨(unhide HN).1, (unhide HN).2⟩))
                | (go_at_call 30; exact Calls.quiet_of_same (ndown_any (gg.nb 1) (gg.tb 1) gg.db nd _ ⟨(unhide HN).1, (unhide HN).2⟩))
                | (go_at_call 38; exact Calls.quiet_of_same (now_any (gg.tb 1) nd.T _ (unhide HN).2))))
              have B9 := (unhide HB).quiet ((Chg.refl [] wr).drewN nq) rfl
              have N9 : Nod (wr.drewN nq) (gg.nb 1) (gg.tb 1) gg.db nd := (unhide HN).chg ((Chg.refl [] wr).drewN nq) (by simp) (by simp)
              have V9 : Vn (wr.drewN nq) (cc.vb 1) cc.cb nd := (unhide HV).chg ((Chg.refl [] wr).drewN nq) (by simp)
              clear HN HV HB cv n0 t0 t1 t2 vn ln lv lcb
              generalize hW9 : World.drewN wr nq = w9 at *
              clear hW9
              have HB9 := hide B9
              have HN9 := hide N9
              have HV9 := hide V9
              clear B9 N9 V9
              go_wp2_with fail
              go_loopw [9] (fun jx wr => ∃ j : Nat, j ≤ 6 ∧ jx = .int .i64 j ∧ Chg [] w9 wr) (fun jx _ => 6 - (intOf jx).toNat)
              case atStart => exact ⟨0, by omega, rfl, Chg.refl _ _⟩
              case round =>
                obtain ⟨j, hj, rfl, G5⟩ := hrel
                by_cases hj6 : j < 6
                · have hji : decide ((j : Int) < 6) = true := by simp; omega
                  have N5 := (unhide HN9).chg G5.drew (by simp) (by simp)
                  have V5 := (unhide HV9).chg G5.drew (by simp)
                  have lnb := N5.lt.1
                  have lvb := V5.lt
                  go_wp2_with fail
                  refine wp_region_noPanic ?_
                  refine wp_region_held_drew (S := (fun W' => W'.cell? ⟨gg.nb 1, 0, none⟩ = some (.pointer (some ⟨gg.tb 1, 0, none⟩)))) (by kernel_rfl) (N5.1.cell 0) (fun hH => ?_)
                  refine wpAnyH_take (i := 0) (v := ?_) rfl (by kernel_rfl) (by kernel_rfl) (by kernel_rfl) (fun _ _ _ h => h) (Or.inl ⟨by rfl, ?hzq53⟩) hH ?rzq53
                  case hzq53 => (intro W' hSw; (try dsimp only at hSw); go_simp; try with_reducible rfl)
                  walk_nrm
                  refine wpAnyH_take (i := 1) (v := ?_) rfl (by kernel_rfl) (by kernel_rfl) (by kernel_rfl) (fun _ _ _ h => h) (Or.inl ⟨by rfl, ?hzq54⟩) hH ?rzq54
                  case hzq54 => (intro W' hSw; (try dsimp only at hSw); go_simp; try with_reducible rfl)
                  walk_nrm
                  refine wpAnyH_take (i := 2) (v := ?_) rfl (by kernel_rfl) (by kernel_rfl) (by kernel_rfl) (fun _ _ _ h => h) (Or.inl ⟨by rfl, ?hzq55⟩) hH ?rzq55
                  case hzq55 => (intro W' hSw; (try dsimp only at hSw); go_simp; try with_reducible rfl)
                  walk_nrm
                  refine wpAnyH_take (i := 3) (v := ?_) rfl (by kernel_rfl) (by kernel_rfl) (by kernel_rfl) (fun _ _ _ h => h) (Or.inl ⟨by rfl, ?hzq56⟩) hH ?rzq56
                  case hzq56 => (intro W' hSw; (try dsimp only at hSw); go_simp; try with_reducible rfl)
                  walk_nrm
                  refine wpAnyH_take (i := 4) (v := ?_) rfl (by kernel_rfl) (by kernel_rfl) (by kernel_rfl) (fun _ _ _ h => h) (Or.inl ⟨by rfl, ?hzq57⟩) hH ?rzq57
                  case hzq57 => (intro W' hSw; (try dsimp only at hSw); go_simp; try with_reducible rfl)
                  walk_nrm
                  refine wpAnyH_take (i := 6) (v := ?_) rfl (by kernel_rfl) (by kernel_rfl) (by kernel_rfl) (fun _ _ _ h => h) (Or.inl ⟨by rfl, ?hzq58⟩) hH ?rzq58
                  case hzq58 => (intro W' hSw; (try dsimp only at hSw); go_simp; try with_reducible rfl)
                  walk_nrm
                  refine wpAnyH_take (i := 7) (v := ?_) rfl (by kernel_rfl) (by kernel_rfl) (by kernel_rfl) (fun _ _ _ h => h) (Or.inl ⟨by rfl, ?hzq59⟩) hH ?rzq59
                  case hzq59 => (intro W' hSw; (try dsimp only at hSw); go_simp; try with_reducible rfl)
                  walk_nrm
                  refine wpAnyH_take (i := 8) (v := ?_) rfl (by kernel_rfl) (by kernel_rfl) (by kernel_rfl) (fun _ _ _ h => h) (Or.inl ⟨by rfl, ?hzq60⟩) hH ?rzq60
                  case hzq60 => (intro W' hSw; (try dsimp only at hSw); go_simp; try with_reducible rfl)
                  walk_nrm
                  refine wpAnyH_take (i := 9) (v := ?_) rfl (by kernel_rfl) (by kernel_rfl) (by kernel_rfl) (fun _ _ _ h => h) (Or.inl ⟨by rfl, ?hzq61⟩) hH ?rzq61
                  case hzq61 => (intro W' hSw; (try dsimp only at hSw); go_simp; try with_reducible rfl)
                  walk_nrm
                  refine wpAnyH_ready (rs := [5]) (by kernel_rfl) (by simp) ?_
                  refine AllReadyH.cons rfl (fun K hK => ?_) AllReadyH.nil
                  rw [if_pos (by rfl)]
                  go_simp
                  refine (job_all (gg.tb 1) j nd.T _ N5.2).mono ?_
                  rintro e wa ⟨rfl, ga⟩
                  have Na := N5.chg ga (by simp) (by simp)
                  have Va := V5.chg ga (by simp)
                  have Ga : Chg [] w9 wa := (G5.drew).trans ga (by simp)
                  clear ga
                  refine hK.out _ _ (Na.1.cell 0) (fun hH2 => ?_)
                  clear hK K hH
                  have hH := hH2
                  clear hH2
                  walk_nrm
                  refine wpAnyH_ready (rs := [10]) (by kernel_rfl) (by simp) ?_
                  refine AllReadyH.cons rfl (fun K hK => ?_) AllReadyH.nil
                  rw [if_pos (by rfl)]
                  go_simp
                  refine (vjob_all (cc.vb 1) j nd.T cc.cb nd.e nd.dn _ Va).mono ?_
                  rintro e wb ⟨rfl, gb'⟩
                  have Nb := Na.chg gb' (by simp) (by simp)
                  have Gb : Chg [] w9 wb := Ga.trans gb' (by simp)
                  clear gb'
                  refine hK.out _ _ (Nb.1.cell 0) (fun hH2 => ?_)
                  clear hK K hH
                  have hH := hH2
                  clear hH2
                  walk_nrm
                  refine wpAnyH_take (i := 11) (v := .bool false) rfl (by kernel_rfl) (by kernel_rfl) (by kernel_rfl) (fun _ _ _ h => h) (Or.inl ⟨by rfl, ?hzq62⟩) hH ?rzq62
                  case hzq62 => (intro W' hSw; (try dsimp only at hSw); go_simp; (try simp); try with_reducible rfl)
                  walk_nrm
                  refine wpAnyH_done (by kernel_rfl) ?_ _
                  refine NoPanic.normal ?_
                  go_wp2
                  go_roundw
                  case rel => exact ⟨j + 1, by omega, by go_num, Gb⟩
                  case measure => go_light; simp [intOf]; omega
                · have hji : decide ((j : Int) < 6) = false := by simp; omega
                  obtain ⟨g6, c6, B6, hg6, hc6⟩ := (unhide HB9).same G5
                  have HB6 := hide B6
                  clear B6
                  go_wp2
                  go_roundw
                  case rel => exact ⟨1 + 1, g6, c6, by omega, by omega, by go_num, unhide HB6, hg6.trans hg, hc6.trans hc⟩
                  case measure => go_light; simp [intOf]
          · clear hn hD hn1 hn2
            go_wp2_with fail
            refine (NODE (2)).mono ?_
            rintro e wr ⟨rfl, rfl⟩
            clear NODE
            cases hs : s'.ns 2 with
            | none =>
              have hv : nodeV gg s' 2 = .pointer none := by unfold nodeV; rw [show nodeG s' 2 = none from hs]; rfl
              rw [hv]
              obtain ⟨-, -, c2, c3, c4, -, lcb⟩ := B.cl.cells
              rw [hs] at c4
              have cv : wr.cell? ⟨cc.cb, 4, none⟩ = some (.pointer none) := c4
              rw [hc] at cv lcb
              clear hv c2 c3 c4 hs
              go_wp2
              go_roundw
              case rel => exact ⟨(2 : Int) + 1, gg, cc, by omega, by omega, by go_num, B, hg, hc⟩
              case measure => go_light; simp [intOf]
            | some nd =>
              have hs' := hs
              have N := B.gl.nod 2 nd (by decide) hs
              have V := B.cl.vgr 2 nd (by decide) hs
              have hv : nodeV gg s' 2 = .pointer (some ⟨gg.nb 2, 0, none⟩) := by unfold nodeV; rw [show nodeG s' 2 = some nd from hs]; rfl
              rw [hv]
              obtain ⟨-, -, c2, c3, c4, -, lcb⟩ := B.cl.cells
              rw [hs] at c4
              have cv : wr.cell? ⟨cc.cb, 4, none⟩ = some (.pointer (some ⟨cc.vb 2, 0, none⟩)) := c4
              rw [hc] at cv lcb
              obtain ⟨n0, -, -, -, ln, -⟩ := N.cells
              obtain ⟨t0, t1, t2, -, lv⟩ := Vgr.tail V
              have vn := Vgr.nowC V
              have HN := hide N
              have HV := hide V
              have HB := hide B
              clear N V B hs hs' hv c2 c3 c4
              go_wp2_with fail
              go_quiet ((first
                | (go_at_call 31; exact Calls.quiet_of_same (nepoch_any (gg.nb 2) (gg.tb 2) gg.db nd _ ⟨(unhide HN).1, (unhide HN).2⟩))
                | (go_at_call 30; exact Calls.quiet_of_same (ndown_any (gg.nb 2) (gg.tb 2) gg.db nd _ ⟨(unhide HN).1, (unhide HN).2⟩))
                | (go_at_call 38; exact Calls.quiet_of_same (now_any (gg.tb 2) nd.T _ (unhide HN).2))))
              have B9 := (unhide HB).quiet ((Chg.refl [] wr).drewN nq) rfl
              have N9 : Nod (wr.drewN nq) (gg.nb 2) (gg.tb 2) gg.db nd := (unhide HN).chg ((Chg.refl [] wr).drewN nq) (by simp) (by simp)
              have V9 : Vn (wr.drewN nq) (cc.vb 2) cc.cb nd := (unhide HV).chg ((Chg.refl [] wr).drewN nq) (by simp)
              clear HN HV HB cv n0 t0 t1 t2 vn ln lv lcb
              generalize hW9 : World.drewN wr nq = w9 at *
              clear hW9
              have HB9 := hide B9
              have HN9 := hide N9
              have HV9 := hide V9
              clear B9 N9 V9
              go_wp2_with fail
              go_loopw [9] (fun jx wr => ∃ j : Nat, j ≤ 6 ∧ jx = .int .i64 j ∧ Chg [] w9 wr) (fun jx _ => 6 - (intOf jx).toNat)
              case atStart => exact ⟨0, by omega, rfl, Chg.refl _ _⟩
              case round =>
                obtain ⟨j, hj, rfl, G5⟩ := hrel
                by_cases hj6 : j < 6
                · have hji : decide ((j : Int) < 6) = true := by simp; omega
                  have N5 := (unhide HN9).chg G5.drew (by simp) (by simp)
                  have V5 := (unhide HV9).chg G5.drew (by simp)
                  have lnb := N5.lt.1
                  have lvb := V5.lt
                  go_wp2_with fail
                  refine wp_region_noPanic ?_
                  refine wp_region_held_drew (S := (fun W' => W'.cell? ⟨gg.nb 2, 0, none⟩ = some (.pointer (some ⟨gg.tb 2, 0, none⟩)))) (by kernel_rfl) (N5.1.cell 0) (fun hH => ?_)
                  refine wpAnyH_take (i := 0) (v := ?_) rfl (by kernel_rfl) (by kernel_rfl) (by kernel_rfl) (fun _ _ _ h => h) (Or.inl ⟨by rfl, ?hzq63⟩) hH ?rzq63
                  case hzq63 => (intro W' hSw; (try dsimp only at hSw); go_simp; try with_reducible rfl)
                  walk_nrm
                  refine wpAnyH_take (i := 1) (v := ?_) rfl (by kernel_rfl) (by kernel_rfl) (by kernel_rfl) (fun _ _ _ h => h) (Or.inl ⟨by rfl, ?hzq64⟩) hH ?rzq64
                  case hzq64 => (intro W' hSw; (try dsimp only at hSw); go_simp; try with_reducible rfl)
                  walk_nrm
                  refine wpAnyH_take (i := 2) (v := ?_) rfl (by kernel_rfl) (by kernel_rfl) (by kernel_rfl) (fun _ _ _ h => h) (Or.inl ⟨by rfl, ?hzq65⟩) hH ?rzq65
                  case hzq65 => (intro W' hSw; (try dsimp only at hSw); go_simp; try with_reducible rfl)
                  walk_nrm
                  refine wpAnyH_take (i := 3) (v := ?_) rfl (by kernel_rfl) (by kernel_rfl) (by kernel_rfl) (fun _ _ _ h => h) (Or.inl ⟨by rfl, ?hzq66⟩) hH ?rzq66
                  case hzq66 => (intro W' hSw; (try dsimp only at hSw); go_simp; try with_reducible rfl)
                  walk_nrm
                  refine wpAnyH_take (i := 4) (v := ?_) rfl (by kernel_rfl) (by kernel_rfl) (by kernel_rfl) (fun _ _ _ h => h) (Or.inl ⟨by rfl, ?hzq67⟩) hH ?rzq67
                  case hzq67 => (intro W' hSw; (try dsimp only at hSw); go_simp; try with_reducible rfl)
                  walk_nrm
                  refine wpAnyH_take (i := 6) (v := ?_) rfl (by kernel_rfl) (by kernel_rfl) (by kernel_rfl) (fun _ _ _ h => h) (Or.inl ⟨by rfl, ?hzq68⟩) hH ?rzq68
                  case hzq68 => (intro W' hSw; (try dsimp only at hSw); go_simp; try with_reducible rfl)
                  walk_nrm
                  refine wpAnyH_take (i := 7) (v := ?_) rfl (by kernel_rfl) (by kernel_rfl) (by kernel_rfl) (fun _ _ _ h => h) (Or.inl ⟨by rfl, ?hzq69⟩) hH ?rzq69
                  case hzq69 => (intro W' hSw; (try dsimp only at hSw); go_simp; try with_reducible rfl)
                  walk_nrm
                  refine wpAnyH_take (i := 8) (v := ?_) rfl (by kernel_rfl) (by kernel_rfl) (by kernel_rfl) (fun _ _ _ h => h) (Or.inl ⟨by rfl, ?hzq70⟩) hH ?rzq70
                  case hzq70 => (intro W' hSw; (try dsimp only at hSw); go_simp; try with_reducible rfl)
                  walk_nrm
                  refine wpAnyH_take (i := 9) (v := ?_) rfl (by kernel_rfl) (by kernel_rfl) (by kernel_rfl) (fun _ _ _ h => h) (Or.inl ⟨by rfl, ?hzq71⟩) hH ?rzq71
                  case hzq71 => (intro W' hSw; (try dsimp only at hSw); go_simp; try with_reducible rfl)
                  walk_nrm
                  refine wpAnyH_ready (rs := [5]) (by kernel_rfl) (by simp) ?_
                  refine AllReadyH.cons rfl (fun K hK => ?_) AllReadyH.nil
                  rw [if_pos (by rfl)]
                  go_simp
                  refine (job_all (gg.tb 2) j nd.T _ N5.2).mono ?_
                  rintro e wa ⟨rfl, ga⟩
                  have Na := N5.chg ga (by simp) (by simp)
                  have Va := V5.chg ga (by simp)
                  have Ga : Chg [] w9 wa := (G5.drew).trans ga (by simp)
                  clear ga
                  refine hK.out _ _ (Na.1.cell 0) (fun hH2 => ?_)
                  clear hK K hH
                  have hH := hH2
                  clear hH2
                  walk_nrm
                  refine wpAnyH_ready (rs := [10]) (by kernel_rfl) (by simp) ?_
                  refine AllReadyH.cons rfl (fun K hK => ?_) AllReadyH.nil
                  rw [if_pos (by rfl)]
                  go_simp
                  refine (vjob_all (cc.vb 2) j nd.T cc.cb nd.e nd.dn _ Va).mono ?_
                  rintro e wb ⟨rfl, gb'⟩
                  have Nb := Na.chg gb' (by simp) (by simp)
                  have Gb : Chg [] w9 wb := Ga.trans gb' (by simp)
                  clear gb'
                  refine hK.out _ _ (Nb.1.cell 0) (fun hH2 => ?_)
                  clear hK K hH
                  have hH := hH2
                  clear hH2
                  walk_nrm
                  refine wpAnyH_take (i := 11) (v := .bool false) rfl (by kernel_rfl) (by kernel_rfl) (by kernel_rfl) (fun _ _ _ h => h) (Or.inl ⟨by rfl, ?hzq72⟩) hH ?rzq72
                  case hzq72 => (intro W' hSw; (try dsimp only at hSw); go_simp; (try simp); try with_reducible rfl)
                  walk_nrm
                  refine wpAnyH_done (by kernel_rfl) ?_ _
                  refine NoPanic.normal ?_
                  go_wp2
                  go_roundw
                  case rel => exact ⟨j + 1, by omega, by go_num, Gb⟩
                  case measure => go_light; simp [intOf]; omega
                · have hji : decide ((j : Int) < 6) = false := by simp; omega
                  obtain ⟨g6, c6, B6, hg6, hc6⟩ := (unhide HB9).same G5
                  have HB6 := hide B6
                  clear B6
                  go_wp2
                  go_roundw
                  case rel => exact ⟨2 + 1, g6, c6, by omega, by omega, by go_num, unhide HB6, hg6.trans hg, hc6.trans hc⟩
                  case measure => go_light; simp [intOf]
          · clear hn hD hn1 hn2
            go_wp2_with fail
            refine (NODE (3)).mono ?_
            rintro e wr ⟨rfl, rfl⟩
            clear NODE
            have hv : nodeV gg s' (3) = .pointer none := by unfold nodeV nodeG; rw [if_neg (by decide)]; rfl
            rw [hv]
            clear hv
            go_wp2
            go_roundw
            case rel => exact ⟨(3 : Int) + 1, gg, cc, by omega, by omega, by go_num, B, hg, hc⟩
            case measure => go_light; simp [intOf]
        · have hD : decide (n ≤ 3) = false := by simpa using hn
          go_wp2
          go_roundw
          case rel => exact ⟨k + 1, gg, cc, s', by omega, by go_num, B, hg, hc⟩
          case measure => go_light; simp [intOf]; omega
    · have hki : ¬ (k : Int) < (len : Int) := by omega
      have GG := G1.trans C.ch (by simp)
      clear C B
      go_wp2
      go_ret
      exact ⟨rfl, GG⟩
end Go.Proofs.Ytgcikokfgcpkfab

namespace Go.Proofs.Ytgcikokfgcpkfab
open Go.ChangeShapes Go.WideShapes Go.ChangeAt Go.RowKit

set_option maxRecDepth 100000 in
theorem gdoes_lifted (os : Os) (started : os.Started) (H : Type) (enc : TypeId × Value → H) :
    ReturnsInHanded {} Try.checked os 10 .any (Rows.guildDoesSpec.pre6 enc Try.prog Try.f10 Rows.guildDoesRow.domain false) (Rows.guildDoesSpec.post enc Try.prog Try.f10 false true false false) := by
  refine returnsInHanded_of_change (C := Try.checked) ownK started (by kernel_rfl) Try.func10
    (ChangeSpec.witness6 (enc := enc) (C := Try.checked) false ⟨#[], #[.slice none 0 0], []⟩ 8 (by kernel_rfl) (by kernel_rfl) (by kernel_rfl) (by kernel_rfl)) ?_
  intro W base args ds gs before hval0 hW hcnd _
  have hval : ∀ (j : Nat) t v, Try.f10.params[j]? = some t → args[j]? = some v → Value.okWide Try.prog W .any base t v := hval0
  have hW' := hW
  obtain ⟨p, q, hA0, hV, rfl, hfz, hnd⟩ := hW
  have hA : DataW.TrodAll enc Try.prog W 0 (fun _ => true) true Try.f10.params.toList args.toList ds p := hA0
  rw [Try.params10] at hA hval
  obtain ⟨v0, vs0, d0, ds0, p0, q0, hargs, rfl, rfl, h0, r0⟩ := trodAll_cons hA
  obtain ⟨rfl, rfl, rfl⟩ := trodAll_nil r0
  obtain rfl : args = #[v0] := by cases args; simp_all
  obtain ⟨rfl, rfl⟩ := trodVars_none hV
  obtain ⟨a0, len0, cap0, rfl⟩ := okWide_slice Try.underlying78 (hval 0 78 v0 rfl rfl)
  have k0 := h0
  have lt0 : ∀ x ∈ p0, x.block < W.heap.size := by obtain ⟨m, hm⟩ := k0; exact DataW.trod_lt m _ _ _ hm
  obtain ⟨z0, w0⟩ : ∃ fs, Sps W a0 len0 fs := by
    obtain ⟨fuel, hf⟩ := h0
    exact sps_of_trod (by simpa [Value.cells] using hf)
  clear hA0 hval0
  refine (gdoes_any a0 len0 cap0 z0 W w0).mono fun e W' ⟨he, hch⟩ => ?_
  have bel := hch.below
  subst he
  exact ⟨_, rfl, _, _, _, [], _, [], hW', trodAll_mk1 (shut_bool Try.underlying4 _), (trodAll_cons_mk (Below.trod laidOutK (by kernel_rfl) (of_decide_eq_true (by kernel_rfl)) k0 bel lt0) trodAll_mk0), rfl, bel.frame _, fun h => by cases h⟩

theorem gdoes_holds : Rows.GuildDoesSaid :=
  OpenClaim.holds_of_wide 10 Try.f10 rfl rfl rfl rfl rfl rfl rfl ⟨rfl, rfl, rfl, rfl, rfl⟩ rfl rfl rfl rfl rfl (by kernel_rfl) Try.func10 (by kernel_rfl)
    (of_decide_eq_true (by kernel_rfl)) (by unfold Func.isWrapper; first | (rw [if_pos (by decide +kernel)]; kernel_rfl) | (rw [if_neg (by decide +kernel)]; exact ⟨rfl, rfl⟩))
    (fun os started H enc _ => gdoes_lifted os started H enc)

end Go.Proofs.Ytgcikokfgcpkfab

