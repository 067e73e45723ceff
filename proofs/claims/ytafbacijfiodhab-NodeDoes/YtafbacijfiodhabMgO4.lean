/-
  A node of the program is ordered, and torn: in one word each. Nothing here is claimed by itself.
-/
import Derived.Test.YtafbacijfiodhabMO3
import Derived.Test.YtafbacijfiodhabMgN4
namespace Go.Proofs.Ytafbacijfiodhab
open Go.RowKit

theorem nwr_all (nb tb db base : Nat) (n : Nd) (d : Dk) (v : Value) (o : Od) (keep : Int) (w : World) (N : Nod w nb tb db n) (D : Dsk 79 5 w base db d.ep v d.l) (hI : Inv n.T) (hbase : base ≤ w.heap.size) (e0 : 1 ≤ d.ep) (e1 : d.ep ≤ 100) (hnb : nb ∉ fp db v) (htb : tb ∉ fp db v) :
    Calls Try.prog 45 #[.pointer (some ⟨nb, 0, none⟩), odV o, .int .i64 keep] w fun x w' =>
      x = .returned (.int .i64 (wrC d n o keep)) ∧ ∃ v', Nod w' nb tb db ⟨n.T, n.e, dnx d n⟩ ∧ Dsk 79 5 w' base db d.ep v' (wrD d n o keep).l ∧ Chg (nb :: fp db v) w w' ∧ Nxt w v v' := by
  cases hd : n.dn
  · by_cases he : d.ep = n.e
    · have hn : n = ⟨n.T, n.e, dnx d n⟩ := by rw [dnx_serves hd he, ← hd]
      refine (nwr_go nb tb db base n d v o keep w N D hI hbase e0 e1 hnb htb hd he).mono ?_
      rintro x w' (⟨hc, rfl, g⟩ | ⟨hc, hf, rfl, v', N2, D2, g, nx⟩ | ⟨hc, hf, rfl, v', N2, D2, g, nx⟩)
      · have hw : ¬ wrC d n o keep = 0 := by rw [wr_ref hd he hc]; exact hc
        rw [wrD_no hw, wr_ref hd he hc, ← hn]
        exact ⟨rfl, v, N.chg g (by simp) (by simp), D.chg g (by simp), g.wide (by simp), Nxt.same _ _⟩
      · have hw8 := wr_full (keep := keep) hd he hc hf
        have hw : ¬ wrC d n o keep = 0 := by rw [hw8]; decide
        rw [wrD_no hw, hw8, ← hn]
        exact ⟨rfl, v', N2, D2, g.wide (fun x hx => List.mem_cons_of_mem _ hx), nx⟩
      · have hw := wr_yes (keep := keep) hd he hc hf
        rw [wrD_yes hw, hw, ← hn]
        exact ⟨rfl, v', N2, D2, g.wide (fun x hx => List.mem_cons_of_mem _ hx), nx⟩
    · have hw9 := wr_fenced (o := o) (keep := keep) hd he
      have hw : ¬ wrC d n o keep = 0 := by rw [hw9]; decide
      refine (nwr_fenced nb tb db base n d v o keep w N D hd he).mono ?_
      rintro x w' ⟨rfl, N2, g⟩
      rw [wrD_no hw, hw9, dnx_fenced he]
      exact ⟨rfl, v, N2, D.chg g (by intro x hx; simp at hx; subst hx; exact hnb), g.wide (by simp), Nxt.same _ _⟩
  · have hw9 := wr_down (d := d) (o := o) (keep := keep) hd
    have hw : ¬ wrC d n o keep = 0 := by rw [hw9]; decide
    have hn : n = ⟨n.T, n.e, dnx d n⟩ := by rw [dnx_down hd, ← hd]
    refine (nwr_down nb tb db n o keep w N hd).mono ?_
    rintro x w' ⟨rfl, g⟩
    rw [wrD_no hw, hw9, ← hn]
    exact ⟨rfl, v, N.chg g (by simp) (by simp), D.chg g (by simp), g.wide (by simp), Nxt.same _ _⟩

theorem ord_yield {S : World → Prop} {ob : Nat} {o : Od} {t : TypeId} (hS : ∀ W, S W → Blk W ob #[.int .i64 o.k, .int .i64 o.now, .int .i64 o.jb, .int .i64 o.tr, .int .i64 o.wk, .int .i64 o.tm] t) {ops : Array Oper} {op : Oper} {a : Act} {x : Operand} (hw : Region.wanted op (yielded ops a.tmps) = true) (ho : op.op = .load 43 x) (hx : a.eval x = .pointer (some ⟨ob, 0, none⟩)) :
    YieldsIf Try.prog ops S op (odV o) a :=
  yieldsIf_load_mid (P := Try.prog) hw 43 x ho ob 0 hx [.int .i64 o.k, .int .i64 o.now, .int .i64 o.jb, .int .i64 o.tr, .int .i64 o.wk, .int .i64 o.tm] _ (fun w' hw' j v hv => by rw [Nat.zero_add, (hS _ hw').cell]; simpa using hv) Try.underlying43 rfl (by rw [ordInfo]; rfl)

set_option maxRecDepth 100000 in
set_option maxHeartbeats 4000000 in
theorem nord_all (nb tb db base : Nat) (n : Nd) (d : Dk) (v : Value) (o : Od) (w : World) (N : Nod w nb tb db n) (D : Dsk 79 5 w base db d.ep v d.l) (hI : Inv n.T) (hbase : base ≤ w.heap.size) (e0 : 1 ≤ d.ep) (e1 : d.ep ≤ 100) (hnb : nb ∉ fp db v) (htb : tb ∉ fp db v) :
    Calls Try.prog 23 #[.pointer (some ⟨nb, 0, none⟩), odV o] w fun x w' =>
      x = .returned (ansV (ordA d n o)) ∧ ∃ v', Nod w' nb tb db (ordN d n o) ∧ Dsk 79 5 w' base db d.ep v' (wrD d n o 9).l ∧ Chg (nb :: tb :: fp db v) w w' ∧ Nxt w v v' := by
  have lb := N.lt.1
  have ltb := N.lt.2
  have hne := N.ne
  have lf := hide D.fp_lt
  have HN := hide ((N.alloc (.cells #[.int .i64 o.k, .int .i64 o.now, .int .i64 o.jb, .int .i64 o.tr, .int .i64 o.wk, .int .i64 o.tm] 43)).alloc (.cells #[.int .i64 0, .int .i64 0, .int .i64 0] 56))
  have HD := hide ((D.alloc (.cells #[.int .i64 o.k, .int .i64 o.now, .int .i64 o.jb, .int .i64 o.tr, .int .i64 o.wk, .int .i64 o.tm] 43)).alloc (.cells #[.int .i64 0, .int .i64 0, .int .i64 0] 56))
  have HI := hide hI
  have HB := hide hnb
  have HT := hide htb
  clear N D hI hnb htb
  unfold odV
  by_cases hw : wrC d n o 9 = 0
  · obtain ⟨on, oa⟩ := ord_yes hw
    rw [on, oa]
    clear on oa
    have hcb : (wrC d n o 9 != 0) = false := by simpa using hw
    have HW := hide hw
    clear hw
    go_enter Try.func23, Try.ntmps23
    go_wp2_with (first
      | (go_at_call 45; refine (nwr_all nb tb db base n d v o 9 _ (unhide HN) (unhide HD) (unhide HI) (by simp; omega) e0 e1 (unhide HB) (unhide HT)).mono ?_; rintro x w2 ⟨rfl, v2, N2, D2, g2, n2⟩; have FF : ∀ x, x < w.heap.size → x ∉ fp db v → x ∉ fp db v2 := (fun x hx hf hf2 => by rcases mem_fp.1 hf2 with e | e; exact hf (mem_fp.2 (.inl e)); rcases n2.pnx x e with e1 | e1; exact hf (mem_fp.2 (.inr e1)); simp at e1; omega); have fb2 := FF nb lb (unhide HB); have ft2 := FF tb ltb (unhide HT); have fr2 : w.heap.size + 1 ∉ fp db v2 := (fun hf2 => by rcases mem_fp.1 hf2 with e | e; exact absurd (unhide lf db (mem_fp.2 (.inl rfl))) (by omega); rcases n2.pnx _ e with e1 | e1; exact absurd (unhide lf _ (mem_fp.2 (.inr e1))) (by omega); simp at e1; omega); have hni : ∀ y, w.heap.size ≤ y → y ∉ nb :: fp db v := (fun y hy hm => by rcases List.mem_cons.1 hm with e | e; omega; have := unhide lf y e; omega); have R2 := (Blk.new1 w (.cells #[.int .i64 o.k, .int .i64 o.now, .int .i64 o.jb, .int .i64 o.tr, .int .i64 o.wk, .int .i64 o.tm] 43) #[.int .i64 0, .int .i64 0, .int .i64 0] 56).chg g2 (hni _ (by omega)); have O2 := ((Blk.new w #[.int .i64 o.k, .int .i64 o.now, .int .i64 o.jb, .int .i64 o.tr, .int .i64 o.wk, .int .i64 o.tm] 43).alloc (.cells #[.int .i64 0, .int .i64 0, .int .i64 0] 56)).chg g2 (hni _ (by omega)); have G2 : Chg (nb :: tb :: fp db v) w w2 := (((Chg.refl _ w).alloc _).alloc _).trans g2 (by intro x hx; rcases List.mem_cons.1 hx with e | e; exact .inl (by simp [e]); exact .inl (by simp [e])); obtain ⟨r0, r1, r2, rf0, rf1, rf2⟩ := R2.three; obtain ⟨o0, o1, o2, o3, o4, o5⟩ := O2.six; have z2 := R2.lt; clear g2 FF hni))
    have N2d := (show Nod w2.drew nb tb db ⟨n.T, n.e, dnx d n⟩ from N2)
    refine wp_region_noPanic ?_
    refine wp_region_held_drew (S := fun W => Blk W nb #[.pointer (some ⟨tb, 0, none⟩), .pointer (some ⟨db, 0, none⟩), .int .i64 n.e, .bool (dnx d n)] 71 ∧ Blk W w.heap.size #[.int .i64 o.k, .int .i64 o.now, .int .i64 o.jb, .int .i64 o.tr, .int .i64 o.wk, .int .i64 o.tm] 43) (by kernel_rfl) ⟨N2d.1, O2⟩ (fun hH => ?_)
    refine wpAnyH_take (i := 0) (v := ?_) rfl (by kernel_rfl) (by kernel_rfl) (by kernel_rfl) (fun _ _ _ h => h) (Or.inl ⟨by rfl, ?hzq1⟩) hH ?rzq1
    case hzq1 => (intro W' hSw; (try dsimp only at hSw); go_simp; try with_reducible rfl)
    walk_nrm
    refine wpAnyH_take (i := 1) (v := ?_) rfl (by kernel_rfl) (by kernel_rfl) (by kernel_rfl) (fun _ _ _ h => h) (Or.inl ⟨by rfl, ?hzq2⟩) hH ?rzq2
    case hzq2 => (intro W' hSw; (try dsimp only at hSw); go_simp; try with_reducible rfl)
    walk_nrm
    refine wpAnyH_take (i := 2) (v := ?_) rfl (by kernel_rfl) (by kernel_rfl) (by kernel_rfl) (fun _ _ _ h => h) (Or.inl ⟨by rfl, ?hzq3⟩) hH ?rzq3
    case hzq3 => (intro W' hSw; (try dsimp only at hSw); go_simp; try with_reducible rfl)
    walk_nrm
    refine wpAnyH_take (i := 3) (v := ?_) rfl (by kernel_rfl) (by kernel_rfl) (by kernel_rfl) (fun _ _ _ h => h) (Or.inl ⟨by rfl, ?hzq4⟩) hH ?rzq4
    case hzq4 => (intro W' hSw; (try dsimp only at hSw); have x0 := hSw.1.cell 0; go_simp; try with_reducible rfl)
    walk_nrm
    refine wpAnyH_take (i := 4) (v := _) rfl (by kernel_rfl) (by kernel_rfl) (by kernel_rfl) (fun _ _ _ h => h) (ord_yield (fun _ h => h.2) (by rfl) rfl rfl) hH ?_
    walk_nrm
    unfold odV
    refine wpAnyH_ready (rs := [5]) (by kernel_rfl) (by simp) ?_
    refine AllReadyH.cons rfl (fun K hK => ?_) AllReadyH.nil
    rw [if_pos (by rfl)]
    go_simp
    refine (do_any tb o n.T _ N2d.2 (unhide HI).fit).mono ?_
    rintro x w3 ⟨rfl, T3, g3⟩
    have R3 := (show Blk w2.drew (w.heap.size + 1) #[.int .i64 0, .int .i64 0, .int .i64 0] 56 from R2).chg g3 (by simp; omega)
    have D3 := D2.drew.chg g3 (by intro x hx; simp at hx; subst hx; exact ft2)
    have G3 := (show Chg (nb :: tb :: fp db v) w w2.drew from G2.drew).trans g3 (by intro x hx; simp at hx; subst hx; exact .inl (by simp))
    have z3 := g3.size
    have z2' : w2.drew.heap.size = w2.heap.size := rfl
    refine hK.out _ _ ⟨hH.1.chg g3 (by simpa using hne), hH.2.chg g3 (by simp; omega)⟩ (fun hH2 => ?_)
    clear hK K g3 hH
    have hH := hH2
    clear hH2
    walk_nrm
    refine wpAnyH_ready (rs := [6]) (by kernel_rfl) (by simp) ?_
    refine AllReadyH.cons rfl (fun K hK => ?_) AllReadyH.nil
    rw [if_pos (by rfl)]
    refine wp_store_ans (u := (doT n.T o).2) rfl rfl rfl R3 (fun w4 R4 g4 => ?_)
    have B4 := hH.1.chg g4 (by simp; omega)
    have O4 := hH.2.chg g4 (by simp)
    have T4 := T3.chg g4 (by simp; omega)
    have D4 := D3.chg g4 (by intro x hx; simp at hx; subst hx; exact fr2)
    have G4 := G3.trans g4 (by intro x hx; simp at hx; subst hx; exact .inr (by omega))
    refine hK.out _ _ ⟨B4, O4⟩ (fun _ => ?_)
    clear hK K g4 hH
    walk_nrm
    refine wpAnyH_done (by kernel_rfl) ?_ _
    refine NoPanic.normal ?_
    go_wp2_with fail
    refine bodyPost_ret (v := ansV (doT n.T o).2) (ret_ans rfl rfl R4) rfl ?_
    exact ⟨rfl, v2, ⟨B4, T4⟩, D4, G4, n2.mono (by simp; omega)⟩
  · obtain ⟨on, oa⟩ := ord_no hw
    rw [on, oa]
    clear on oa
    have hcb : (wrC d n o 9 != 0) = true := by simpa using hw
    have HW := hide hw
    clear hw
    go_enter Try.func23, Try.ntmps23
    go_wp2_with (first
      | (go_at_call 45; refine (nwr_all nb tb db base n d v o 9 _ (unhide HN) (unhide HD) (unhide HI) (by simp; omega) e0 e1 (unhide HB) (unhide HT)).mono ?_; rintro x w2 ⟨rfl, v2, N2, D2, g2, n2⟩; have FF : ∀ x, x < w.heap.size → x ∉ fp db v → x ∉ fp db v2 := (fun x hx hf hf2 => by rcases mem_fp.1 hf2 with e | e; exact hf (mem_fp.2 (.inl e)); rcases n2.pnx x e with e1 | e1; exact hf (mem_fp.2 (.inr e1)); simp at e1; omega); have fb2 := FF nb lb (unhide HB); have ft2 := FF tb ltb (unhide HT); have fr2 : w.heap.size + 1 ∉ fp db v2 := (fun hf2 => by rcases mem_fp.1 hf2 with e | e; exact absurd (unhide lf db (mem_fp.2 (.inl rfl))) (by omega); rcases n2.pnx _ e with e1 | e1; exact absurd (unhide lf _ (mem_fp.2 (.inr e1))) (by omega); simp at e1; omega); have hni : ∀ y, w.heap.size ≤ y → y ∉ nb :: fp db v := (fun y hy hm => by rcases List.mem_cons.1 hm with e | e; omega; have := unhide lf y e; omega); have R2 := (Blk.new1 w (.cells #[.int .i64 o.k, .int .i64 o.now, .int .i64 o.jb, .int .i64 o.tr, .int .i64 o.wk, .int .i64 o.tm] 43) #[.int .i64 0, .int .i64 0, .int .i64 0] 56).chg g2 (hni _ (by omega)); have O2 := ((Blk.new w #[.int .i64 o.k, .int .i64 o.now, .int .i64 o.jb, .int .i64 o.tr, .int .i64 o.wk, .int .i64 o.tm] 43).alloc (.cells #[.int .i64 0, .int .i64 0, .int .i64 0] 56)).chg g2 (hni _ (by omega)); have G2 : Chg (nb :: tb :: fp db v) w w2 := (((Chg.refl _ w).alloc _).alloc _).trans g2 (by intro x hx; rcases List.mem_cons.1 hx with e | e; exact .inl (by simp [e]); exact .inl (by simp [e])); obtain ⟨r0, r1, r2, rf0, rf1, rf2⟩ := R2.three; obtain ⟨o0, o1, o2, o3, o4, o5⟩ := O2.six; have z2 := R2.lt; clear g2 FF hni))
    have R7 := ((R2.set 0 (.int .i64 (wrC d n o 9))).set 1 (.int .i64 0)).set 2 (.int .i64 0)
    have g7 := (((Chg.refl [w.heap.size + 1] w2).setCell (p := ⟨w.heap.size + 1, 0, none⟩) (by simp) (.int .i64 (wrC d n o 9))).setCell (p := ⟨w.heap.size + 1, 1, none⟩) (by simp) (.int .i64 0)).setCell (p := ⟨w.heap.size + 1, 2, none⟩) (by simp) (.int .i64 0)
    refine bodyPost_ret (v := ansV ⟨wrC d n o 9, 0, 0⟩) (ret_ans rfl rfl R7) rfl ?_
    exact ⟨rfl, v2, N2.chg g7 (by simp; omega) (by simp; omega), D2.chg g7 (by intro x hx; simp at hx; subst hx; exact fr2), G2.trans g7 (by intro x hx; simp at hx; subst hx; exact .inr (by omega)), n2.mono (by simp; omega)⟩

set_option maxRecDepth 100000 in
set_option maxHeartbeats 4000000 in
theorem ntear_all (nb tb db base : Nat) (n : Nd) (d : Dk) (v : Value) (o : Od) (keep : Int) (w : World) (N : Nod w nb tb db n) (D : Dsk 79 5 w base db d.ep v d.l) (hI : Inv n.T) (hbase : base ≤ w.heap.size) (e0 : 1 ≤ d.ep) (e1 : d.ep ≤ 100) (hnb : nb ∉ fp db v) (htb : tb ∉ fp db v) :
    Calls Try.prog 24 #[.pointer (some ⟨nb, 0, none⟩), odV o, .int .i64 keep] w fun x w' =>
      x = .returned (.int .i64 (wrC d n o keep)) ∧ ∃ v', Nod w' nb tb db (tearN d n o keep) ∧ Dsk 79 5 w' base db d.ep v' (wrD d n o keep).l ∧ Chg (nb :: tb :: fp db v) w w' ∧ Nxt w v v' := by
  have lb := N.lt.1
  have ltb := N.lt.2
  have hne := N.ne
  have lf := hide D.fp_lt
  have HN := hide (N.alloc (.cells #[.int .i64 o.k, .int .i64 o.now, .int .i64 o.jb, .int .i64 o.tr, .int .i64 o.wk, .int .i64 o.tm] 43))
  have HD := hide (D.alloc (.cells #[.int .i64 o.k, .int .i64 o.now, .int .i64 o.jb, .int .i64 o.tr, .int .i64 o.wk, .int .i64 o.tm] 43))
  have HI := hide hI
  have HB := hide hnb
  have HT := hide htb
  clear N D hI hnb htb
  unfold odV
  by_cases hw : wrC d n o keep = 0
  · have on : tearN d n o keep = ⟨n.T, n.e, true⟩ := by unfold tearN; simp [hw]
    rw [on]
    clear on
    have hcb : (wrC d n o keep == 0) = true := by simpa using hw
    clear hw
    go_enter Try.func24, Try.ntmps24
    go_wp2_with (first
      | (go_at_call 45; refine (nwr_all nb tb db base n d v o keep _ (unhide HN) (unhide HD) (unhide HI) (by simp; omega) e0 e1 (unhide HB) (unhide HT)).mono ?_; rintro x w2 ⟨rfl, v2, N2, D2, g2, n2⟩; have FF : ∀ x, x < w.heap.size → x ∉ fp db v → x ∉ fp db v2 := (fun x hx hf hf2 => by rcases mem_fp.1 hf2 with e | e; exact hf (mem_fp.2 (.inl e)); rcases n2.pnx x e with e1 | e1; exact hf (mem_fp.2 (.inr e1)); simp at e1; omega); have fb2 := FF nb lb (unhide HB); have ft2 := FF tb ltb (unhide HT); have G2 : Chg (nb :: tb :: fp db v) w w2 := ((Chg.refl _ w).alloc _).trans g2 (by intro x hx; rcases List.mem_cons.1 hx with e | e; exact .inl (by simp [e]); exact .inl (by simp [e])); clear g2 FF)
      | (go_at_call 42; refine (nstop_any nb tb db _ _ N2).mono ?_; rintro x w3 ⟨rfl, N3, g3⟩; have D3 := D2.chg g3 (by intro x hx; simp at hx; subst hx; exact fb2); have G3 := G2.trans g3 (by intro x hx; simp at hx; subst hx; exact .inl (by simp)); clear g3))
    go_ret
    exact ⟨rfl, v2, N3, D3, G3, n2.mono (by simp)⟩
  · have on : tearN d n o keep = ⟨n.T, n.e, dnx d n⟩ := by unfold tearN; simp [hw]
    rw [on]
    clear on
    have hcb : (wrC d n o keep == 0) = false := by simpa using hw
    clear hw
    go_enter Try.func24, Try.ntmps24
    go_wp2_with (first
      | (go_at_call 45; refine (nwr_all nb tb db base n d v o keep _ (unhide HN) (unhide HD) (unhide HI) (by simp; omega) e0 e1 (unhide HB) (unhide HT)).mono ?_; rintro x w2 ⟨rfl, v2, N2, D2, g2, n2⟩; have FF : ∀ x, x < w.heap.size → x ∉ fp db v → x ∉ fp db v2 := (fun x hx hf hf2 => by rcases mem_fp.1 hf2 with e | e; exact hf (mem_fp.2 (.inl e)); rcases n2.pnx x e with e1 | e1; exact hf (mem_fp.2 (.inr e1)); simp at e1; omega); have fb2 := FF nb lb (unhide HB); have ft2 := FF tb ltb (unhide HT); have G2 : Chg (nb :: tb :: fp db v) w w2 := ((Chg.refl _ w).alloc _).trans g2 (by intro x hx; rcases List.mem_cons.1 hx with e | e; exact .inl (by simp [e]); exact .inl (by simp [e])); clear g2 FF))
    go_ret
    exact ⟨rfl, v2, N2, D2, G2, n2.mono (by simp)⟩

end Go.Proofs.Ytafbacijfiodhab

namespace Go.Proofs.Ytafbacijfiodhab
open Go.RowKit

def ptrs (f : Nat → Nat) (k : Nat) : List Value := (List.range k).map fun i => .pointer (some ⟨f i, 0, none⟩)
theorem ptrs_len (f : Nat → Nat) (k : Nat) : (ptrs f k).length = k := by simp [ptrs]
theorem ptrs_at (f : Nat → Nat) {k i : Nat} (h : i < k) : (ptrs f k)[i]? = some (.pointer (some ⟨f i, 0, none⟩)) := by simp [ptrs, h]
theorem ptrs_snoc (f : Nat → Nat) (k : Nat) : ptrs f (k + 1) = ptrs f k ++ [.pointer (some ⟨f k, 0, none⟩)] := by simp [ptrs, List.range_succ]
theorem ptrs_congr {f g : Nat → Nat} {k : Nat} (h : ∀ i, i < k → f i = g i) : ptrs f k = ptrs g k := by
  unfold ptrs
  refine List.map_congr_left fun i hi => ?_
  rw [h i (by simpa using hi)]

/-- A row of pointers. -/
theorem row_form {w : World} {base : Nat} {e : TypeId} {v : Value} {f : Nat → Nat} {k : Nat} (h : w.ownsRow base e 1 v k (ptrs f k)) :
    ∃ a c, v = .slice a k c ∧ k ≤ c ∧ ∀ i, i < k → ∃ g, a = some ⟨g, 0, none⟩ ∧ g < w.heap.size ∧ v.ownBlock = some g ∧ w.cell? ⟨g, i, none⟩ = some (.pointer (some ⟨f i, 0, none⟩)) := by
  have hcs := fun g hg => h.cells (g := g) hg
  have hlt := fun g hg => h.lt g hg
  obtain ⟨_, ⟨rfl, h0⟩ | ⟨g, c, cur, rfl, _, _, hc, _⟩⟩ := h
  · exact ⟨none, 0, by rw [h0], by omega, fun i hi => by omega⟩
  · refine ⟨_, c, rfl, hc, fun i hi => ⟨g, rfl, (hlt g rfl).2, rfl, ?_⟩⟩
    have := hcs g rfl i _ (ptrs_at f hi)
    have e : ((⟨g, 0, none⟩ : Addr).add i) = ⟨g, i, none⟩ := by simp [Addr.add]; omega
    rw [e] at this
    exact this

structure Mm where
  cb : Nat
  db : Nat
  pb : Nat
  rn : Value
  rv : Value
  v : Value
  u : Value
  nb : Nat → Nat
  tb : Nat → Nat
  vb : Nat → Nat
  own : Nat → Nat
structure St where
  k : Nat
  d : Dk
  p : Dk
  ns : Nat → Nd
  vs : Nat → Nd
/-- Both sides are the same. -/
def Same (s : St) : Prop := s.p = s.d ∧ ∀ i, i < s.k → s.vs i = s.ns i

structure Crw (W0 w : World) (m : Mm) (s : St) : Prop where
  blk : Blk w m.cb #[.pointer (some ⟨m.db, 0, none⟩), .pointer (some ⟨m.pb, 0, none⟩), m.rn, m.rv] 51
  few : s.k ≤ 8
  rown : w.ownsRow W0.heap.size 52 1 m.rn s.k (ptrs m.nb s.k)
  rowv : w.ownsRow W0.heap.size 84 1 m.rv s.k (ptrs m.vb s.k)
  dsk : Dsk 79 5 w W0.heap.size m.db s.d.ep m.v s.d.l
  plt : Plt 83 w m.pb s.p.ep m.u s.p.l
  nod : ∀ i, i < s.k → Nod w (m.nb i) (m.tb i) m.db (s.ns i)
  vgr : ∀ i, i < s.k → Vn w (m.vb i) m.pb (s.vs i)
  pd : Pl s.d s.k s.ns
  pp : Pl s.p s.k s.vs
  ocb : m.own m.cb = 0
  orn : ∀ g, m.rn.ownBlock = some g → m.own g = 1
  orv : ∀ g, m.rv.ownBlock = some g → m.own g = 2
  od : ∀ x ∈ fp m.db m.v, m.own x = 3
  op : ∀ x ∈ fp m.pb m.u, m.own x = 4
  on : ∀ i, i < s.k → m.own (m.nb i) = 5 + 2 * i ∧ m.own (m.tb i) = 5 + 2 * i
  ov : ∀ i, i < s.k → m.own (m.vb i) = 6 + 2 * i
  lo : ∀ x, x < W0.heap.size → m.own x = 100
  ch : Chg [] W0 w

section
variable {W0 w w' : World} {m : Mm} {s : St}
/-- What only turned blocks of owners in I. -/
theorem Crw.base (h : Crw W0 w m s) {x : Nat} (hx : m.own x < 100) : W0.heap.size ≤ x := by
  rcases Nat.lt_or_ge x W0.heap.size with h1 | h1
  · have := h.lo x h1; omega
  · exact h1
theorem Crw.chs (h : Crw W0 w m s) {bs : List Nat} (k : Chg bs w w') (hI : ∀ x ∈ bs, x < w.heap.size → m.own x < 100) : Chg [] W0 w' :=
  h.ch.trans k (fun x hx => .inr (by
    rcases Nat.lt_or_ge x w.heap.size with h1 | h1
    · exact h.base (hI x hx h1)
    · exact Nat.le_trans h.ch.size h1))
theorem Crw.k_blk (h : Crw W0 w m s) {bs : List Nat} (k : Chg bs w w') (hI : ∀ x ∈ bs, m.own x ≠ 0) : Blk w' m.cb #[.pointer (some ⟨m.db, 0, none⟩), .pointer (some ⟨m.pb, 0, none⟩), m.rn, m.rv] 51 := h.blk.chg k (fun hx => hI _ hx h.ocb)
theorem Crw.k_rown (h : Crw W0 w m s) {bs : List Nat} (k : Chg bs w w') (hI : ∀ x ∈ bs, m.own x ≠ 1) : w'.ownsRow W0.heap.size 52 1 m.rn s.k (ptrs m.nb s.k) := own_keep h.rown k (fun x hx e => hI x hx (h.orn x e))
theorem Crw.k_rowv (h : Crw W0 w m s) {bs : List Nat} (k : Chg bs w w') (hI : ∀ x ∈ bs, m.own x ≠ 2) : w'.ownsRow W0.heap.size 84 1 m.rv s.k (ptrs m.vb s.k) := own_keep h.rowv k (fun x hx e => hI x hx (h.orv x e))
theorem Crw.k_dsk (h : Crw W0 w m s) {bs : List Nat} (k : Chg bs w w') (hI : ∀ x ∈ bs, m.own x ≠ 3) : Dsk 79 5 w' W0.heap.size m.db s.d.ep m.v s.d.l := h.dsk.chg k (fun x hx hf => hI x hx (h.od x hf))
theorem Crw.k_plt (h : Crw W0 w m s) {bs : List Nat} (k : Chg bs w w') (hI : ∀ x ∈ bs, m.own x ≠ 4) : Plt 83 w' m.pb s.p.ep m.u s.p.l := h.plt.chg k (fun x hx hf => hI x hx (h.op x hf))
theorem Crw.k_nod (h : Crw W0 w m s) {bs : List Nat} (k : Chg bs w w') {i : Nat} (hi : i < s.k) (hI : ∀ x ∈ bs, m.own x ≠ 5 + 2 * i) : Nod w' (m.nb i) (m.tb i) m.db (s.ns i) := (h.nod i hi).chg k (fun hx => hI _ hx (h.on i hi).1) (fun hx => hI _ hx (h.on i hi).2)
theorem Crw.k_vgr (h : Crw W0 w m s) {bs : List Nat} (k : Chg bs w w') {i : Nat} (hi : i < s.k) (hI : ∀ x ∈ bs, m.own x ≠ 6 + 2 * i) : Vn w' (m.vb i) m.pb (s.vs i) := (h.vgr i hi).chg k (fun hx => hI _ hx (h.ov i hi))
/-- The owners, as new blocks come. -/
def grow (n : Nat) (own f : Nat → Nat) : Nat → Nat := fun x => if x < n then own x else f x
theorem grow_old {n : Nat} {own f : Nat → Nat} {x : Nat} (h : x < n) : grow n own f x = own x := by simp [grow, h]
theorem grow_new {n : Nat} {own f : Nat → Nat} {x : Nat} (h : n ≤ x) : grow n own f x = f x := by unfold grow; rw [if_neg (by omega)]
theorem Crw.g_cb (h : Crw W0 w m s) (f : Nat → Nat) : grow w.heap.size m.own f m.cb = 0 := (grow_old h.blk.lt).trans h.ocb
theorem Crw.g_rn (h : Crw W0 w m s) (f : Nat → Nat) : ∀ g, m.rn.ownBlock = some g → grow w.heap.size m.own f g = 1 := fun g hg => (grow_old (h.rown.lt g hg).2).trans (h.orn g hg)
theorem Crw.g_rv (h : Crw W0 w m s) (f : Nat → Nat) : ∀ g, m.rv.ownBlock = some g → grow w.heap.size m.own f g = 2 := fun g hg => (grow_old (h.rowv.lt g hg).2).trans (h.orv g hg)
theorem Crw.g_d (h : Crw W0 w m s) (f : Nat → Nat) : ∀ x ∈ fp m.db m.v, grow w.heap.size m.own f x = 3 := fun x hx => (grow_old (h.dsk.fp_lt x hx)).trans (h.od x hx)
theorem Crw.g_p (h : Crw W0 w m s) (f : Nat → Nat) : ∀ x ∈ fp m.pb m.u, grow w.heap.size m.own f x = 4 := fun x hx => (grow_old (h.plt.fp_lt x hx)).trans (h.op x hx)
theorem Crw.g_n (h : Crw W0 w m s) (f : Nat → Nat) : ∀ i, i < s.k → grow w.heap.size m.own f (m.nb i) = 5 + 2 * i ∧ grow w.heap.size m.own f (m.tb i) = 5 + 2 * i := fun i hi => ⟨(grow_old (h.nod i hi).lt.1).trans (h.on i hi).1, (grow_old (h.nod i hi).lt.2).trans (h.on i hi).2⟩
theorem Crw.g_v (h : Crw W0 w m s) (f : Nat → Nat) : ∀ i, i < s.k → grow w.heap.size m.own f (m.vb i) = 6 + 2 * i := fun i hi => (grow_old (h.vgr i hi).lt).trans (h.ov i hi)
theorem Crw.g_lo (h : Crw W0 w m s) (f : Nat → Nat) : ∀ x, x < W0.heap.size → grow w.heap.size m.own f x = 100 := fun x hx => (grow_old (Nat.lt_of_lt_of_le hx h.ch.size)).trans (h.lo x hx)
theorem Crw.g_d' (h : Crw W0 w m s) {f : Nat → Nat} {v' : Value} (nx : Nxt w m.v v') (hf : ∀ x, v'.ownBlock = some x → w.heap.size ≤ x → f x = 3) : ∀ x ∈ fp m.db v', grow w.heap.size m.own f x = 3 := fun x hx => by
  rcases mem_fp.1 hx with e | e
  · exact h.g_d f x (mem_fp.2 (.inl e))
  · rcases nx.pnx x e with e1 | e1
    · exact h.g_d f x (mem_fp.2 (.inr e1))
    · rw [grow_new e1]; exact hf x e e1
theorem Crw.g_p' (h : Crw W0 w m s) {f : Nat → Nat} {u' : Value} (nx : Pnx w m.u u') (hf : ∀ x, u'.ownBlock = some x → w.heap.size ≤ x → f x = 4) : ∀ x ∈ fp m.pb u', grow w.heap.size m.own f x = 4 := fun x hx => by
  rcases mem_fp.1 hx with e | e
  · exact h.g_p f x (mem_fp.2 (.inl e))
  · rcases nx x e with e1 | e1
    · exact h.g_p f x (mem_fp.2 (.inr e1))
    · rw [grow_new e1]; exact hf x e e1

/-- New memory alone. -/
theorem Crw.same (h : Crw W0 w m s) (k : Chg [] w w') : Crw W0 w' m s :=
  ⟨h.k_blk k (by simp), h.few, h.k_rown k (by simp), h.k_rowv k (by simp), h.k_dsk k (by simp), h.k_plt k (by simp), fun i hi => h.k_nod k hi (by simp), fun i hi => h.k_vgr k hi (by simp), h.pd, h.pp, h.ocb, h.orn, h.orv, h.od, h.op, h.on, h.ov, h.lo, h.chs k (by simp)⟩

/-- A node was ordered, or torn, or stopped. -/
theorem Crw.nodeOp (h : Crw W0 w m s) {i : Nat} (hi : i < s.k) {v' : Value} {n' : Nd} {d' : Dk} (hd : d'.ep = s.d.ep) (N : Nod w' (m.nb i) (m.tb i) m.db n') (D : Dsk 79 5 w' W0.heap.size m.db s.d.ep v' d'.l)
    (g : Chg (m.nb i :: m.tb i :: fp m.db m.v) w w') (nx : Nxt w m.v v') (pl : Pl d' s.k (upN s.ns i n')) :
    Crw W0 w' { m with v := v', own := grow w.heap.size m.own (fun _ => 3) } { s with d := d', ns := upN s.ns i n' } := by
  have hb : ∀ x ∈ m.nb i :: m.tb i :: fp m.db m.v, m.own x = 3 ∨ m.own x = 5 + 2 * i := fun x hx => by
    rcases List.mem_cons.1 hx with rfl | hx
    · exact .inr (h.on i hi).1
    · rcases List.mem_cons.1 hx with rfl | hx
      · exact .inr (h.on i hi).2
      · exact .inl (h.od x hx)
  have hi8 := h.few
  have ne : ∀ c, c ≠ 3 → c ≠ 5 + 2 * i → ∀ x ∈ m.nb i :: m.tb i :: fp m.db m.v, m.own x ≠ c := fun c h1 h2 x hx e => by rcases hb x hx with e1 | e1 <;> omega
  refine ⟨h.k_blk g (ne 0 (by omega) (by omega)), h.few, h.k_rown g (ne 1 (by omega) (by omega)), h.k_rowv g (ne 2 (by omega) (by omega)), by rw [hd]; exact D, h.k_plt g (ne 4 (by omega) (by omega)), fun j hj => ?_, fun j hj => h.k_vgr g hj (ne _ (by omega) (by omega)), pl, h.pp, h.g_cb (fun _ => 3), h.g_rn (fun _ => 3), h.g_rv (fun _ => 3), h.g_d' (f := (fun _ => 3)) nx (fun _ _ _ => rfl), h.g_p (fun _ => 3), h.g_n (fun _ => 3), h.g_v (fun _ => 3), h.g_lo (fun _ => 3), h.chs g (fun x hx _ => by rcases hb x hx with e | e <;> omega)⟩
  by_cases e : j = i
  · subst e; show Nod w' _ _ _ (upN s.ns j n' j); rw [upN_same]; exact N
  · show Nod w' _ _ _ (upN s.ns i n' j); rw [upN_other _ _ e]; exact h.k_nod g hj (ne _ (by omega) (by omega))

/-- The document's own node was. -/
theorem Crw.verOp (h : Crw W0 w m s) {i : Nat} (hi : i < s.k) {u' : Value} {n' : Nd} {p' : Dk} (hd : p'.ep = s.p.ep) (V : Vn w' (m.vb i) m.pb n') (P : Plt 83 w' m.pb s.p.ep u' p'.l)
    (g : Chg [m.vb i, m.pb] w w') (nx : Pnx w m.u u') (pl : Pl p' s.k (upN s.vs i n')) :
    Crw W0 w' { m with u := u', own := grow w.heap.size m.own (fun _ => 4) } { s with p := p', vs := upN s.vs i n' } := by
  have hb : ∀ x ∈ [m.vb i, m.pb], m.own x = 4 ∨ m.own x = 6 + 2 * i := fun x hx => by
    rcases List.mem_cons.1 hx with rfl | hx
    · exact .inr (h.ov i hi)
    · simp at hx
      subst hx
      exact .inl (h.op _ (mem_fp.2 (.inl rfl)))
  have hi8 := h.few
  have ne : ∀ c, c ≠ 4 → c ≠ 6 + 2 * i → ∀ x ∈ [m.vb i, m.pb], m.own x ≠ c := fun c h1 h2 x hx e => by rcases hb x hx with e1 | e1 <;> omega
  refine ⟨h.k_blk g (ne 0 (by omega) (by omega)), h.few, h.k_rown g (ne 1 (by omega) (by omega)), h.k_rowv g (ne 2 (by omega) (by omega)), h.k_dsk g (ne 3 (by omega) (by omega)), by rw [hd]; exact P, fun j hj => h.k_nod g hj (ne _ (by omega) (by omega)), fun j hj => ?_, h.pd, pl, h.g_cb (fun _ => 4), h.g_rn (fun _ => 4), h.g_rv (fun _ => 4), h.g_d (fun _ => 4), h.g_p' (f := (fun _ => 4)) nx (fun _ _ _ => rfl), h.g_n (fun _ => 4), h.g_v (fun _ => 4), h.g_lo (fun _ => 4), h.chs g (fun x hx _ => by rcases hb x hx with e | e <;> omega)⟩
  by_cases e : j = i
  · subst e; show Vn w' _ _ (upN s.vs j n' j); rw [upN_same]; exact V
  · show Vn w' _ _ (upN s.vs i n' j); rw [upN_other _ _ e]; exact h.k_vgr g hj (ne _ (by omega) (by omega))

/-- A node was opened that is none of the crew as yet: its blocks are of the owner whose turn is next. -/
theorem Crw.nodeOpen (h : Crw W0 w m s) {nb' tb' : Nat} {v' : Value} (he : s.d.ep < 100) (D : Dsk 79 5 w' W0.heap.size m.db (openD s.d).ep v' (openD s.d).l) (g : Chg (fp m.db m.v) w w') (nx : Nxt w m.v v') (h1 : nb' ∉ fp m.db v') (h2 : tb' ∉ fp m.db v') :
    Crw W0 w' { m with v := v', own := grow w.heap.size m.own (fun x => if x = nb' ∨ x = tb' then 5 + 2 * s.k else 3) } { s with d := openD s.d } := by
  have hb : ∀ x ∈ fp m.db m.v, m.own x = 3 := h.od
  have hi8 := h.few
  have ne : ∀ c, c ≠ 3 → ∀ x ∈ fp m.db m.v, m.own x ≠ c := fun c h1 x hx e => by have e1 := hb x hx; omega
  exact ⟨h.k_blk g (ne 0 (by omega)), h.few, h.k_rown g (ne 1 (by omega)), h.k_rowv g (ne 2 (by omega)), D, h.k_plt g (ne 4 (by omega)), fun j hj => h.k_nod g hj (ne _ (by omega)), fun j hj => h.k_vgr g hj (ne _ (by omega)), h.pd.openx he, h.pp, h.g_cb (fun x => if x = nb' ∨ x = tb' then 5 + 2 * s.k else 3), h.g_rn (fun x => if x = nb' ∨ x = tb' then 5 + 2 * s.k else 3), h.g_rv (fun x => if x = nb' ∨ x = tb' then 5 + 2 * s.k else 3), h.g_d' (f := (fun x => if x = nb' ∨ x = tb' then 5 + 2 * s.k else 3)) nx (fun x hx _ => if_neg (fun e => e.elim (fun e => h1 (mem_fp.2 (.inr (e ▸ hx)))) (fun e => h2 (mem_fp.2 (.inr (e ▸ hx)))))), h.g_p (fun x => if x = nb' ∨ x = tb' then 5 + 2 * s.k else 3), h.g_n (fun x => if x = nb' ∨ x = tb' then 5 + 2 * s.k else 3), h.g_v (fun x => if x = nb' ∨ x = tb' then 5 + 2 * s.k else 3), h.g_lo (fun x => if x = nb' ∨ x = tb' then 5 + 2 * s.k else 3), h.chs g (fun x hx _ => by have := hb x hx; omega)⟩
/-- The disk cannot be opened any more. -/
theorem Crw.nodeFull (h : Crw W0 w m s) (D : Dsk 79 5 w' W0.heap.size m.db s.d.ep m.v s.d.l) (g : Chg [m.db] w w') : Crw W0 w' m s := by
  have hb : ∀ x ∈ [m.db], m.own x = 3 := fun x hx => by simp at hx; subst hx; exact h.od _ (mem_fp.2 (.inl rfl))
  have ne : ∀ c, c ≠ 3 → ∀ x ∈ [m.db], m.own x ≠ c := fun c h1 x hx e => by have e1 := hb x hx; omega
  exact ⟨h.k_blk g (ne 0 (by omega)), h.few, h.k_rown g (ne 1 (by omega)), h.k_rowv g (ne 2 (by omega)), D, h.k_plt g (ne 4 (by omega)), fun j hj => h.k_nod g hj (ne _ (by omega)), fun j hj => h.k_vgr g hj (ne _ (by omega)), h.pd, h.pp, h.ocb, h.orn, h.orv, h.od, h.op, h.on, h.ov, h.lo, h.chs g (fun x hx _ => by have := hb x hx; omega)⟩
theorem Crw.verOpen (h : Crw W0 w m s) {vb' : Nat} {u' : Value} (he : s.p.ep < 100) (P : Plt 83 w' m.pb (openD s.p).ep u' (openD s.p).l) (g : Chg [m.pb] w w') (nx : Pnx w m.u u') (h1 : vb' ∉ fp m.pb u') :
    Crw W0 w' { m with u := u', own := grow w.heap.size m.own (fun x => if x = vb' then 6 + 2 * s.k else 4) } { s with p := openD s.p } := by
  have hb : ∀ x ∈ [m.pb], m.own x = 4 := fun x hx => by simp at hx; subst hx; exact h.op _ (mem_fp.2 (.inl rfl))
  have ne : ∀ c, c ≠ 4 → ∀ x ∈ [m.pb], m.own x ≠ c := fun c h1 x hx e => by have e1 := hb x hx; omega
  exact ⟨h.k_blk g (ne 0 (by omega)), h.few, h.k_rown g (ne 1 (by omega)), h.k_rowv g (ne 2 (by omega)), h.k_dsk g (ne 3 (by omega)), P, fun j hj => h.k_nod g hj (ne _ (by omega)), fun j hj => h.k_vgr g hj (ne _ (by omega)), h.pd, h.pp.openx he, h.g_cb (fun x => if x = vb' then 6 + 2 * s.k else 4), h.g_rn (fun x => if x = vb' then 6 + 2 * s.k else 4), h.g_rv (fun x => if x = vb' then 6 + 2 * s.k else 4), h.g_d (fun x => if x = vb' then 6 + 2 * s.k else 4), h.g_p' (f := (fun x => if x = vb' then 6 + 2 * s.k else 4)) nx (fun x hx _ => if_neg (fun e => by subst e; exact h1 (mem_fp.2 (.inr hx)))), h.g_n (fun x => if x = vb' then 6 + 2 * s.k else 4), h.g_v (fun x => if x = vb' then 6 + 2 * s.k else 4), h.g_lo (fun x => if x = vb' then 6 + 2 * s.k else 4), h.chs g (fun x hx _ => by have := hb x hx; omega)⟩
theorem Crw.verFull (h : Crw W0 w m s) (P : Plt 83 w' m.pb s.p.ep m.u s.p.l) (g : Chg [m.pb] w w') : Crw W0 w' m s := by
  have hb : ∀ x ∈ [m.pb], m.own x = 4 := fun x hx => by simp at hx; subst hx; exact h.op _ (mem_fp.2 (.inl rfl))
  have ne : ∀ c, c ≠ 4 → ∀ x ∈ [m.pb], m.own x ≠ c := fun c h1 x hx e => by have e1 := hb x hx; omega
  exact ⟨h.k_blk g (ne 0 (by omega)), h.few, h.k_rown g (ne 1 (by omega)), h.k_rowv g (ne 2 (by omega)), h.k_dsk g (ne 3 (by omega)), P, fun j hj => h.k_nod g hj (ne _ (by omega)), fun j hj => h.k_vgr g hj (ne _ (by omega)), h.pd, h.pp, h.ocb, h.orn, h.orv, h.od, h.op, h.on, h.ov, h.lo, h.chs g (fun x hx _ => by have := hb x hx; omega)⟩

/-- Both that were opened come to the crew. -/
theorem Crw.stash (h : Crw W0 w m s) {nb' tb' vb' : Nat} {nn vn : Nd} {rn' rv' : Value} {bs : List Nat} (hk : s.k < 8) (N : Nod w nb' tb' m.db nn) (V : Vn w vb' m.pb vn) (on : m.own nb' = 5 + 2 * s.k) (ot : m.own tb' = 5 + 2 * s.k) (ov : m.own vb' = 6 + 2 * s.k)
    (pd : Pl s.d (s.k + 1) (upN s.ns s.k nn)) (pp : Pl s.p (s.k + 1) (upN s.vs s.k vn))
    (B : Blk w' m.cb #[.pointer (some ⟨m.db, 0, none⟩), .pointer (some ⟨m.pb, 0, none⟩), rn', rv'] 51) (R : w'.ownsRow W0.heap.size 52 1 rn' (s.k + 1) (ptrs m.nb s.k ++ [.pointer (some ⟨nb', 0, none⟩)])) (R2 : w'.ownsRow W0.heap.size 84 1 rv' (s.k + 1) (ptrs m.vb s.k ++ [.pointer (some ⟨vb', 0, none⟩)]))
    (g : Chg bs w w') (hbs : ∀ x ∈ bs, m.own x ≤ 2) (x1 : ∀ y, rn'.ownBlock = some y → m.rn.ownBlock = some y ∨ w.heap.size ≤ y) (x2 : ∀ y, rv'.ownBlock = some y → m.rv.ownBlock = some y ∨ (w.heap.size ≤ y ∧ rn'.ownBlock ≠ some y)) :
    Crw W0 w' { m with rn := rn', rv := rv', nb := fun j => if j = s.k then nb' else m.nb j, tb := fun j => if j = s.k then tb' else m.tb j, vb := fun j => if j = s.k then vb' else m.vb j, own := grow w.heap.size m.own (fun x => if rn'.ownBlock = some x then 1 else 2) } { s with k := s.k + 1, ns := upN s.ns s.k nn, vs := upN s.vs s.k vn } := by
  have ne : ∀ c, 2 < c → ∀ x ∈ bs, m.own x ≠ c := fun c h1 x hx e => by have e1 := hbs x hx; omega
  have f1 : ∀ (f : Nat → Nat) (y : Nat), ptrs (fun j => if j = s.k then y else f j) (s.k + 1) = ptrs f s.k ++ [.pointer (some ⟨y, 0, none⟩)] := fun f y => by
    rw [ptrs_snoc, ptrs_congr (g := f) (fun i hi => by rw [if_neg (by omega)])]
    simp
  refine ⟨B, by show s.k + 1 ≤ 8; omega, ?_, ?_, h.k_dsk g (ne 3 (by omega)), h.k_plt g (ne 4 (by omega)), fun j hj => ?_, fun j hj => ?_, pd, pp, h.g_cb (fun x => if rn'.ownBlock = some x then 1 else 2), fun y hy => ?_, fun y hy => ?_, h.g_d (fun x => if rn'.ownBlock = some x then 1 else 2), h.g_p (fun x => if rn'.ownBlock = some x then 1 else 2), fun j hj => ?_, fun j hj => ?_, h.g_lo (fun x => if rn'.ownBlock = some x then 1 else 2), h.chs g (fun x hx _ => by have := hbs x hx; omega)⟩
  · show w'.ownsRow _ _ 1 rn' (s.k + 1) (ptrs _ (s.k + 1)); rw [f1]; exact R
  · show w'.ownsRow _ _ 1 rv' (s.k + 1) (ptrs _ (s.k + 1)); rw [f1]; exact R2
  · by_cases e : j = s.k
    · subst e; simp only [if_pos, upN_same]; exact N.chg g (fun hx => ne _ (by omega) _ hx on) (fun hx => ne _ (by omega) _ hx ot)
    · have hj' : j < s.k + 1 := hj
      simp only [if_neg e, upN_other _ _ e]; exact h.k_nod g (by omega) (ne _ (by omega))
  · by_cases e : j = s.k
    · subst e; simp only [if_pos, upN_same]; exact V.chg g (fun hx => ne _ (by omega) _ hx ov)
    · have hj' : j < s.k + 1 := hj
      simp only [if_neg e, upN_other _ _ e]; exact h.k_vgr g (by omega) (ne _ (by omega))
  · rcases x1 y hy with e | e
    · exact h.g_rn (fun x => if rn'.ownBlock = some x then 1 else 2) y e
    · show grow w.heap.size m.own (fun x => if rn'.ownBlock = some x then 1 else 2) y = 1
      rw [grow_new e]
      exact if_pos hy
  · rcases x2 y hy with e | ⟨e, e2⟩
    · exact h.g_rv (fun x => if rn'.ownBlock = some x then 1 else 2) y e
    · show grow w.heap.size m.own (fun x => if rn'.ownBlock = some x then 1 else 2) y = 2
      rw [grow_new e]
      exact if_neg e2
  · by_cases e : j = s.k
    · subst e; simp only [if_pos]; exact ⟨(grow_old N.lt.1).trans on, (grow_old N.lt.2).trans ot⟩
    · have hj' : j < s.k + 1 := hj
      simp only [if_neg e]; exact h.g_n (fun x => if rn'.ownBlock = some x then 1 else 2) j (by omega)
  · by_cases e : j = s.k
    · subst e; simp only [if_pos]; exact (grow_old V.lt).trans ov
    · have hj' : j < s.k + 1 := hj
      simp only [if_neg e]; exact h.g_v (fun x => if rn'.ownBlock = some x then 1 else 2) j (by omega)
end

end Go.Proofs.Ytafbacijfiodhab

