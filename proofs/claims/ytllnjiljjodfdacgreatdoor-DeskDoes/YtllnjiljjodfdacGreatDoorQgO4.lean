/-
 A node of the program is ordered, and torn: in one word each. Nothing here is claimed by itself.
-/
import Derived.Test.YtllnjiljjodfdacGreatDoorQgO1
namespace Go.Proofs.YtllnjiljjodfdacGreatDoor
open Go.RowKit

theorem nwr_all (nb tb db base : Nat) (n : Nd) (d : Dk) (v : Value) (o : Od) (keep : Int) (w : World) (N : Nod w nb tb db n) (D : Dsk 115 5 w base db d.ep v d.l) (hI : Inv n.T) (hbase : base ≤ w.heap.size) (e0 : 1 ≤ d.ep) (e1 : d.ep ≤ 100) (hnb : nb ∉ fp db v) (htb : tb ∉ fp db v) :
  Calls Tryz.prog 141 #[.pointer (some ⟨nb, 0, none⟩), odV o, .int .i64 keep] w fun x w' =>
   x = .returned (.int .i64 (wrC d n o keep)) ∧ ∃ v', Nod w' nb tb db ⟨n.T, n.e, dnx d n⟩ ∧ Dsk 115 5 w' base db d.ep v' (wrD d n o keep).l ∧ Chg (nb :: fp db v) w w' ∧ Nxt w v v' := by
 cases hd : n.dn
 ·by_cases he : d.ep = n.e
  ·have hn : n = ⟨n.T, n.e, dnx d n⟩ := by rw [dnx_serves hd he, ← hd]
   refine (nwr_go nb tb db base n d v o keep w N D hI hbase e0 e1 hnb htb hd he).mono ?_
   rintro x w' (⟨hc, rfl, g⟩ | ⟨hc, hf, rfl, v', N2, D2, g, nx⟩ | ⟨hc, hf, rfl, v', N2, D2, g, nx⟩)
   ·have hw : ¬ wrC d n o keep = 0 := by rw [wr_ref hd he hc]; exact hc
    rw [wrD_no hw, wr_ref hd he hc, ← hn]
    exact ⟨rfl, v, N.chg g (by simp) (by simp), D.chg g (by simp), g.wide (by simp), Nxt.same _ _⟩
   ·have hw8 := wr_full (keep := keep) hd he hc hf
    have hw : ¬ wrC d n o keep = 0 := by rw [hw8]; decide
    rw [wrD_no hw, hw8, ← hn]
    exact ⟨rfl, v', N2, D2, g.wide (fun x hx => List.mem_cons_of_mem _ hx), nx⟩
   ·have hw := wr_yes (keep := keep) hd he hc hf
    rw [wrD_yes hw, hw, ← hn]
    exact ⟨rfl, v', N2, D2, g.wide (fun x hx => List.mem_cons_of_mem _ hx), nx⟩
  ·have hw9 := wr_fenced (o := o) (keep := keep) hd he
   have hw : ¬ wrC d n o keep = 0 := by rw [hw9]; decide
   refine (nwr_fenced nb tb db base n d v o keep w N D hd he).mono ?_
   rintro x w' ⟨rfl, N2, g⟩
   rw [wrD_no hw, hw9, dnx_fenced he]
   exact ⟨rfl, v, N2, D.chg g (by intro x hx; simp at hx; subst hx; exact hnb), g.wide (by simp), Nxt.same _ _⟩
 ·have hw9 := wr_down (d := d) (o := o) (keep := keep) hd
  have hw : ¬ wrC d n o keep = 0 := by rw [hw9]; decide
  have hn : n = ⟨n.T, n.e, dnx d n⟩ := by rw [dnx_down hd, ← hd]
  refine (nwr_down nb tb db n o keep w N hd).mono ?_
  rintro x w' ⟨rfl, g⟩
  rw [wrD_no hw, hw9, ← hn]
  exact ⟨rfl, v, N.chg g (by simp) (by simp), D.chg g (by simp), g.wide (by simp), Nxt.same _ _⟩
theorem ord_yield {S : World → Prop} {ob : Nat} {o : Od} {t : TypeId} (hS : ∀ W, S W → Blk W ob #[.int .i64 o.k, .int .i64 o.now, .int .i64 o.jb, .int .i64 o.tr, .int .i64 o.wk, .int .i64 o.tm] t) {ops : Array Oper} {op : Oper} {a : Act} {x : Operand} (hw : Region.wanted op (yielded ops a.tmps) = true) (ho : op.op = .load 83 x) (hx : a.eval x = .pointer (some ⟨ob, 0, none⟩)) :
  YieldsIf Tryz.prog ops S op (odV o) a :=
 yieldsIf_load_mid (P := Tryz.prog) hw 83 x ho ob 0 hx [.int .i64 o.k, .int .i64 o.now, .int .i64 o.jb, .int .i64 o.tr, .int .i64 o.wk, .int .i64 o.tm] _ (fun w' hw' j v hv => by rw [Nat.zero_add, (hS _ hw').cell]; simpa using hv) Tryz.underlying83 rfl (by rw [ordInfo]; rfl)
set_option maxRecDepth 100000 in
set_option maxHeartbeats 4000000 in
theorem nord_all (nb tb db base : Nat) (n : Nd) (d : Dk) (v : Value) (o : Od) (w : World) (N : Nod w nb tb db n) (D : Dsk 115 5 w base db d.ep v d.l) (hI : Inv n.T) (hbase : base ≤ w.heap.size) (e0 : 1 ≤ d.ep) (e1 : d.ep ≤ 100) (hnb : nb ∉ fp db v) (htb : tb ∉ fp db v) :
  Calls Tryz.prog 111 #[.pointer (some ⟨nb, 0, none⟩), odV o] w fun x w' =>
   x = .returned (ansV (ordA d n o)) ∧ ∃ v', Nod w' nb tb db (ordN d n o) ∧ Dsk 115 5 w' base db d.ep v' (wrD d n o 9).l ∧ Chg (nb :: tb :: fp db v) w w' ∧ Nxt w v v' := by
 have lb := N.lt.1
 have ltb := N.lt.2
 have hne := N.ne
 have lf := hide D.fp_lt
 have HN := hide ((N.alloc (.cells #[.int .i64 o.k, .int .i64 o.now, .int .i64 o.jb, .int .i64 o.tr, .int .i64 o.wk, .int .i64 o.tm] 83)).alloc (.cells #[.int .i64 0, .int .i64 0, .int .i64 0] 95))
 have HD := hide ((D.alloc (.cells #[.int .i64 o.k, .int .i64 o.now, .int .i64 o.jb, .int .i64 o.tr, .int .i64 o.wk, .int .i64 o.tm] 83)).alloc (.cells #[.int .i64 0, .int .i64 0, .int .i64 0] 95))
 have HI := hide hI
 have HB := hide hnb
 have HT := hide htb
 clear N D hI hnb htb
 unfold odV
 by_cases hw : wrC d n o 9 = 0
 ·obtain ⟨on, oa⟩ := ord_yes hw
  rw [on, oa]
  clear on oa
  have hcb : (wrC d n o 9 != 0) = false := by simpa using hw
  have HW := hide hw
  clear hw
  go_enter Tryz.func111, Tryz.ntmps111
  go_wp2_with (first
   | (go_at_call 141; refine (nwr_all nb tb db base n d v o 9 _ (unhide HN) (unhide HD) (unhide HI) (by simp; omega) e0 e1 (unhide HB) (unhide HT)).mono ?_; rintro x w2 ⟨rfl, v2, N2, D2, g2, n2⟩; have FF : ∀ x, x < w.heap.size → x ∉ fp db v → x ∉ fp db v2 := (fun x hx hf hf2 => by rcases mem_fp.1 hf2 with e | e; exact hf (mem_fp.2 (.inl e)); rcases n2.pnx x e with e1 | e1; exact hf (mem_fp.2 (.inr e1)); simp at e1; omega); have fb2 := FF nb lb (unhide HB); have ft2 := FF tb ltb (unhide HT); have fr2 : w.heap.size + 1 ∉ fp db v2 := (fun hf2 => by rcases mem_fp.1 hf2 with e | e; exact absurd (unhide lf db (mem_fp.2 (.inl rfl))) (by omega); rcases n2.pnx _ e with e1 | e1; exact absurd (unhide lf _ (mem_fp.2 (.inr e1))) (by omega); simp at e1; omega); have hni : ∀ y, w.heap.size ≤ y → y ∉ nb :: fp db v := (fun y hy hm => by rcases List.mem_cons.1 hm with e | e; omega; have := unhide lf y e; omega); have R2 := (Blk.new1 w (.cells #[.int .i64 o.k, .int .i64 o.now, .int .i64 o.jb, .int .i64 o.tr, .int .i64 o.wk, .int .i64 o.tm] 83) #[.int .i64 0, .int .i64 0, .int .i64 0] 95).chg g2 (hni _ (by omega)); have O2 := ((Blk.new w #[.int .i64 o.k, .int .i64 o.now, .int .i64 o.jb, .int .i64 o.tr, .int .i64 o.wk, .int .i64 o.tm] 83).alloc (.cells #[.int .i64 0, .int .i64 0, .int .i64 0] 95)).chg g2 (hni _ (by omega)); have G2 : Chg (nb :: tb :: fp db v) w w2 := (((Chg.refl _ w).alloc _).alloc _).trans g2 (by intro x hx; rcases List.mem_cons.1 hx with e | e; exact .inl (by simp [e]); exact .inl (by simp [e])); obtain ⟨r0, r1, r2, rf0, rf1, rf2⟩ := R2.three; obtain ⟨o0, o1, o2, o3, o4, o5⟩ := O2.six; have z2 := R2.lt; clear g2 FF hni))
  have N2d := (show Nod w2.drew nb tb db ⟨n.T, n.e, dnx d n⟩ from N2)
  refine wp_region_noPanic ?_
  refine wp_region_held_drew (S := fun W => Blk W nb #[.pointer (some ⟨tb, 0, none⟩), .pointer (some ⟨db, 0, none⟩), .int .i64 n.e, .bool (dnx d n)] 130 ∧ Blk W w.heap.size #[.int .i64 o.k, .int .i64 o.now, .int .i64 o.jb, .int .i64 o.tr, .int .i64 o.wk, .int .i64 o.tm] 83) (by kernel_rfl) ⟨N2d.1, O2⟩ (fun hH => ?_)
  refine tk 0 rfl hH ?_
  walk_nrm
  refine tk 1 rfl hH ?_
  walk_nrm
  refine tk 2 rfl hH ?_
  walk_nrm
  refine tk 3 rfl hH ?_ (hz := by intro W' hSw; (try dsimp only at hSw); have x0 := hSw.1.cell 0; go_simp; try with_reducible rfl)
  walk_nrm
  refine wpAnyH_take (i := 4) (v := _) rfl (by kernel_rfl) (by kernel_rfl) (by kernel_rfl) (fun _ _ _ h => h) (ord_yield (fun _ h => h.2) (by rfl) rfl rfl) hH ?_
  walk_nrm
  unfold odV
  refine rd 5 rfl (fun K hK => ?_)
  go_simp
  refine (do_any tb o n.T _ N2d.2 (unhide HI).fit).mono ?_
  rintro x w3 ⟨rfl, T3, g3⟩
  have R3 := (show Blk w2.drew (w.heap.size + 1) #[.int .i64 0, .int .i64 0, .int .i64 0] 95 from R2).chg g3 (by simp; omega)
  have D3 := D2.drew.chg g3 (by intro x hx; simp at hx; subst hx; exact ft2)
  have G3 := (show Chg (nb :: tb :: fp db v) w w2.drew from G2.drew).trans g3 (by intro x hx; simp at hx; subst hx; exact .inl (by simp))
  have z3 := g3.size
  have z2' : w2.drew.heap.size = w2.heap.size := rfl
  refine hK.out _ _ ⟨hH.1.chg g3 (by simpa using hne), hH.2.chg g3 (by simp; omega)⟩ (fun hH2 => ?_)
  clear hK K g3 hH
  have hH := hH2
  clear hH2
  walk_nrm
  refine rd 6 rfl (fun K hK => ?_)
  refine wp_store_ans (u := (doT n.T o).2) rfl rfl rfl R3 (fun w4 R4 g4 => ?_)
  have B4 := hH.1.chg g4 (by simp; omega)
  have O4 := hH.2.chg g4 (by simp)
  have T4 := T3.chg g4 (by simp; omega)
  have D4 := D3.chg g4 (by intro x hx; simp at hx; subst hx; exact fr2)
  have G4 := G3.trans g4 (by intro x hx; simp at hx; subst hx; exact .inr (by omega))
  refine hK.out _ _ ⟨B4, O4⟩ (fun _ => ?_)
  clear hK K g4 hH
  walk_nrm
  refine wpAnyH_done (by kernel_rfl) ?_ _
  refine NoPanic.normal ?_
  go_wp2_with fail
  refine bodyPost_ret (v := ansV (doT n.T o).2) (ret_ans rfl rfl R4) rfl ?_
  exact ⟨rfl, v2, ⟨B4, T4⟩, D4, G4, n2.mono (by simp; omega)⟩
 ·obtain ⟨on, oa⟩ := ord_no hw
  rw [on, oa]
  clear on oa
  have hcb : (wrC d n o 9 != 0) = true := by simpa using hw
  have HW := hide hw
  clear hw
  go_enter Tryz.func111, Tryz.ntmps111
  go_wp2_with (first
   | (go_at_call 141; refine (nwr_all nb tb db base n d v o 9 _ (unhide HN) (unhide HD) (unhide HI) (by simp; omega) e0 e1 (unhide HB) (unhide HT)).mono ?_; rintro x w2 ⟨rfl, v2, N2, D2, g2, n2⟩; have FF : ∀ x, x < w.heap.size → x ∉ fp db v → x ∉ fp db v2 := (fun x hx hf hf2 => by rcases mem_fp.1 hf2 with e | e; exact hf (mem_fp.2 (.inl e)); rcases n2.pnx x e with e1 | e1; exact hf (mem_fp.2 (.inr e1)); simp at e1; omega); have fb2 := FF nb lb (unhide HB); have ft2 := FF tb ltb (unhide HT); have fr2 : w.heap.size + 1 ∉ fp db v2 := (fun hf2 => by rcases mem_fp.1 hf2 with e | e; exact absurd (unhide lf db (mem_fp.2 (.inl rfl))) (by omega); rcases n2.pnx _ e with e1 | e1; exact absurd (unhide lf _ (mem_fp.2 (.inr e1))) (by omega); simp at e1; omega); have hni : ∀ y, w.heap.size ≤ y → y ∉ nb :: fp db v := (fun y hy hm => by rcases List.mem_cons.1 hm with e | e; omega; have := unhide lf y e; omega); have R2 := (Blk.new1 w (.cells #[.int .i64 o.k, .int .i64 o.now, .int .i64 o.jb, .int .i64 o.tr, .int .i64 o.wk, .int .i64 o.tm] 83) #[.int .i64 0, .int .i64 0, .int .i64 0] 95).chg g2 (hni _ (by omega)); have O2 := ((Blk.new w #[.int .i64 o.k, .int .i64 o.now, .int .i64 o.jb, .int .i64 o.tr, .int .i64 o.wk, .int .i64 o.tm] 83).alloc (.cells #[.int .i64 0, .int .i64 0, .int .i64 0] 95)).chg g2 (hni _ (by omega)); have G2 : Chg (nb :: tb :: fp db v) w w2 := (((Chg.refl _ w).alloc _).alloc _).trans g2 (by intro x hx; rcases List.mem_cons.1 hx with e | e; exact .inl (by simp [e]); exact .inl (by simp [e])); obtain ⟨r0, r1, r2, rf0, rf1, rf2⟩ := R2.three; obtain ⟨o0, o1, o2, o3, o4, o5⟩ := O2.six; have z2 := R2.lt; clear g2 FF hni))
  have R7 := ((R2.set 0 (.int .i64 (wrC d n o 9))).set 1 (.int .i64 0)).set 2 (.int .i64 0)
  have g7 := (((Chg.refl [w.heap.size + 1] w2).setCell (p := ⟨w.heap.size + 1, 0, none⟩) (by simp) (.int .i64 (wrC d n o 9))).setCell (p := ⟨w.heap.size + 1, 1, none⟩) (by simp) (.int .i64 0)).setCell (p := ⟨w.heap.size + 1, 2, none⟩) (by simp) (.int .i64 0)
  refine bodyPost_ret (v := ansV ⟨wrC d n o 9, 0, 0⟩) (ret_ans rfl rfl R7) rfl ?_
  exact ⟨rfl, v2, N2.chg g7 (by simp; omega) (by simp; omega), D2.chg g7 (by intro x hx; simp at hx; subst hx; exact fr2), G2.trans g7 (by intro x hx; simp at hx; subst hx; exact .inr (by omega)), n2.mono (by simp; omega)⟩
set_option maxRecDepth 100000 in
set_option maxHeartbeats 4000000 in
theorem ntear_all (nb tb db base : Nat) (n : Nd) (d : Dk) (v : Value) (o : Od) (keep : Int) (w : World) (N : Nod w nb tb db n) (D : Dsk 115 5 w base db d.ep v d.l) (hI : Inv n.T) (hbase : base ≤ w.heap.size) (e0 : 1 ≤ d.ep) (e1 : d.ep ≤ 100) (hnb : nb ∉ fp db v) (htb : tb ∉ fp db v) :
  Calls Tryz.prog 112 #[.pointer (some ⟨nb, 0, none⟩), odV o, .int .i64 keep] w fun x w' =>
   x = .returned (.int .i64 (wrC d n o keep)) ∧ ∃ v', Nod w' nb tb db (tearN d n o keep) ∧ Dsk 115 5 w' base db d.ep v' (wrD d n o keep).l ∧ Chg (nb :: tb :: fp db v) w w' ∧ Nxt w v v' := by
 have lb := N.lt.1
 have ltb := N.lt.2
 have hne := N.ne
 have lf := hide D.fp_lt
 have HN := hide (N.alloc (.cells #[.int .i64 o.k, .int .i64 o.now, .int .i64 o.jb, .int .i64 o.tr, .int .i64 o.wk, .int .i64 o.tm] 83))
 have HD := hide (D.alloc (.cells #[.int .i64 o.k, .int .i64 o.now, .int .i64 o.jb, .int .i64 o.tr, .int .i64 o.wk, .int .i64 o.tm] 83))
 have HI := hide hI
 have HB := hide hnb
 have HT := hide htb
 clear N D hI hnb htb
 unfold odV
 by_cases hw : wrC d n o keep = 0
 ·have on : tearN d n o keep = ⟨n.T, n.e, true⟩ := by unfold tearN; simp [hw]
  rw [on]
  clear on
  have hcb : (wrC d n o keep == 0) = true := by simpa using hw
  clear hw
  go_enter Tryz.func112, Tryz.ntmps112
  go_wp2_with (first
   | (go_at_call 141; refine (nwr_all nb tb db base n d v o keep _ (unhide HN) (unhide HD) (unhide HI) (by simp; omega) e0 e1 (unhide HB) (unhide HT)).mono ?_; rintro x w2 ⟨rfl, v2, N2, D2, g2, n2⟩; have FF : ∀ x, x < w.heap.size → x ∉ fp db v → x ∉ fp db v2 := (fun x hx hf hf2 => by rcases mem_fp.1 hf2 with e | e; exact hf (mem_fp.2 (.inl e)); rcases n2.pnx x e with e1 | e1; exact hf (mem_fp.2 (.inr e1)); simp at e1; omega); have fb2 := FF nb lb (unhide HB); have ft2 := FF tb ltb (unhide HT); have G2 : Chg (nb :: tb :: fp db v) w w2 := ((Chg.refl _ w).alloc _).trans g2 (by intro x hx; rcases List.mem_cons.1 hx with e | e; exact .inl (by simp [e]); exact .inl (by simp [e])); clear g2 FF)
   | (go_at_call 113; refine (nstop_any nb tb db _ _ N2).mono ?_; rintro x w3 ⟨rfl, N3, g3⟩; have D3 := D2.chg g3 (by intro x hx; simp at hx; subst hx; exact fb2); have G3 := G2.trans g3 (by intro x hx; simp at hx; subst hx; exact .inl (by simp)); clear g3))
  go_ret
  exact ⟨rfl, v2, N3, D3, G3, n2.mono (by simp)⟩
 ·have on : tearN d n o keep = ⟨n.T, n.e, dnx d n⟩ := by unfold tearN; simp [hw]
  rw [on]
  clear on
  have hcb : (wrC d n o keep == 0) = false := by simpa using hw
  clear hw
  go_enter Tryz.func112, Tryz.ntmps112
  go_wp2_with (first
   | (go_at_call 141; refine (nwr_all nb tb db base n d v o keep _ (unhide HN) (unhide HD) (unhide HI) (by simp; omega) e0 e1 (unhide HB) (unhide HT)).mono ?_; rintro x w2 ⟨rfl, v2, N2, D2, g2, n2⟩; have FF : ∀ x, x < w.heap.size → x ∉ fp db v → x ∉ fp db v2 := (fun x hx hf hf2 => by rcases mem_fp.1 hf2 with e | e; exact hf (mem_fp.2 (.inl e)); rcases n2.pnx x e with e1 | e1; exact hf (mem_fp.2 (.inr e1)); simp at e1; omega); have fb2 := FF nb lb (unhide HB); have ft2 := FF tb ltb (unhide HT); have G2 : Chg (nb :: tb :: fp db v) w w2 := ((Chg.refl _ w).alloc _).trans g2 (by intro x hx; rcases List.mem_cons.1 hx with e | e; exact .inl (by simp [e]); exact .inl (by simp [e])); clear g2 FF))
  go_ret
  exact ⟨rfl, v2, N2, D2, G2, n2.mono (by simp)⟩
end Go.Proofs.YtllnjiljjodfdacGreatDoor
