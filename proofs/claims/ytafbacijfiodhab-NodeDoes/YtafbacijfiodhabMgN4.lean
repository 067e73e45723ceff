/-
  The document's own node is torn. Nothing here is claimed by itself.
-/
import Derived.Test.YtafbacijfiodhabMN3
import Derived.Test.YtafbacijfiodhabMgN2
namespace Go.Proofs.Ytafbacijfiodhab
open Go.RowKit

set_option maxRecDepth 100000 in
set_option maxHeartbeats 2000000 in
theorem vtear_down (b : Nat) (T : Tb) (pp : Nat) (e : Int) (o : Od) (keep : Int) (w : World) (V : Vgr 89 w b T pp e true) :
    Calls Try.prog 41 #[.pointer (some ⟨b, 0, none⟩), odV o, .int .i64 keep] w fun e w' => e = .returned (.int .i64 10) ∧ Chg [] w w' := by
  have HV := hide V
  have lb := V.lt
  clear V
  unfold odV
  go_enter Try.func41, Try.ntmps41
  have tok : True := trivial
  go_wp2_with (first
    | (have _t := tok; refine wpList_load_vgr rfl _ rfl b rfl (ty' := 89) (T := T) (pp := pp) (e := e) (dn := true) ?hs ?_; (case hs => exact (unhide HV).alloc _))
    | (have _t := tok; clear tok; refine wpList_store_tab 74 brdInfo rfl _ _ rfl (w.heap.size + 1) rfl T rfl 74 T0 ?hr ?_; (case hr => exact Blk.new1 w _ _ _); intro w2 X2 g2 z2; have V2 := (((unhide HV).alloc _).alloc _).chg g2 (by simp; omega); have O2 := ((Blk.new w #[.int .i64 o.k, .int .i64 o.now, .int .i64 o.jb, .int .i64 o.tr, .int .i64 o.wk, .int .i64 o.tm] 43).alloc (.cells T0.cells 74)).chg g2 (by simp); have G2 : Chg [] w w2 := (((Chg.refl [] w).alloc _).alloc _).trans g2 (by simp); obtain ⟨o0, o1, o2, o3, o4, o5⟩ := O2.six; have lO := O2.lt; clear g2 z2)
    | (go_at_call 40; refine (vord_down b T pp e o keep _ V2).mono ?_; rintro x w3 ⟨rfl, g3⟩; have G3 := G2.trans g3 (by simp); unfold ansV; clear g3))
  go_ret
  exact ⟨rfl, G3.alloc _⟩

set_option maxRecDepth 100000 in
set_option maxHeartbeats 2000000 in
theorem vtear_fenced (b : Nat) (T : Tb) (pp : Nat) (e ep : Int) (u : Value) (l : List Int) (o : Od) (keep : Int) (w : World) (V : Vgr 89 w b T pp e false) (P : Plt 83 w pp ep u l) (hne : ¬ ep = e) :
    Calls Try.prog 41 #[.pointer (some ⟨b, 0, none⟩), odV o, .int .i64 keep] w fun x w' => x = .returned (.int .i64 9) ∧ Vgr 89 w' b T pp e true ∧ Chg [b] w w' := by
  have HV := hide V
  have HP := hide P
  have HN := hide hne
  have lb := V.lt
  have lP := hide P.fp_lt
  clear V P hne
  unfold odV
  go_enter Try.func41, Try.ntmps41
  have tok : True := trivial
  go_wp2_with (first
    | (have _t := tok; refine wpList_load_vgr rfl _ rfl b rfl (ty' := 89) (T := T) (pp := pp) (e := e) (dn := false) ?hs ?_; (case hs => exact (unhide HV).alloc _))
    | (have _t := tok; clear tok; refine wpList_store_tab 74 brdInfo rfl _ _ rfl (w.heap.size + 1) rfl T rfl 74 T0 ?hr ?_; (case hr => exact Blk.new1 w _ _ _); intro w2 X2 g2 z2; have V2 := (((unhide HV).alloc _).alloc _).chg g2 (by simp; omega); have P2 := (((unhide HP).alloc _).alloc _).chg g2 (by intro x hx hf; simp at hx; have := unhide lP x hf; omega); have O2 := ((Blk.new w #[.int .i64 o.k, .int .i64 o.now, .int .i64 o.jb, .int .i64 o.tr, .int .i64 o.wk, .int .i64 o.tm] 43).alloc (.cells T0.cells 74)).chg g2 (by simp); have G2 : Chg [b] w w2 := (((Chg.refl [b] w).alloc _).alloc _).trans g2 (by simp); obtain ⟨o0, o1, o2, o3, o4, o5⟩ := O2.six; have lO := O2.lt; clear g2 z2)
    | (go_at_call 40; refine (vord_fenced b T pp e ep u l o keep _ V2 P2 (unhide HN)).mono ?_; rintro x w3 ⟨rfl, V3, g3⟩; have G3 := G2.trans g3 (by simp); unfold ansV; clear g3))
  go_ret
  exact ⟨rfl, V3.alloc _, G3.alloc _⟩

set_option maxRecDepth 100000 in
set_option maxHeartbeats 4000000 in
theorem vtear_go (b : Nat) (T : Tb) (pp : Nat) (ep : Int) (u : Value) (l : List Int) (o : Od) (keep : Int) (w : World) (V : Vgr 89 w b T pp ep false) (P : Plt 83 w pp ep u l) (hbp : b ∉ fp pp u) (hI : Inv T) (e0 : 1 ≤ ep) (e1 : ep ≤ 100) :
    Calls Try.prog 41 #[.pointer (some ⟨b, 0, none⟩), odV o, .int .i64 keep] w fun x w' =>
      ((doT T o).2.code ≠ 0 ∧ x = .returned (.int .i64 (doT T o).2.code) ∧ Chg [] w w') ∨
      ((doT T o).2.code = 0 ∧ 1500 < l.length + keepN keep ∧ x = .returned (.int .i64 8) ∧ ∃ u', Vgr 89 w' b T pp ep false ∧ Plt 83 w' pp ep u' l ∧ Chg [b, pp] w w' ∧ Pnx w u u') ∨
      ((doT T o).2.code = 0 ∧ ¬ 1500 < l.length + keepN keep ∧ x = .returned (.int .i64 0) ∧ ∃ u', Vgr 89 w' b T pp ep true ∧ Plt 83 w' pp ep u' (l ++ tornL ep o keep) ∧ Chg [b, pp] w w' ∧ Pnx w u u') := by
  have HV := hide V
  have HP := hide P
  have HB := hide hbp
  have HI := hide hI
  have lb := V.lt
  have lP := hide P.fp_lt
  have lpp : pp < w.heap.size := P.fp_lt pp (mem_fp.2 (.inl rfl))
  clear V P hbp hI
  unfold odV
  go_enter Try.func41, Try.ntmps41
  have tok : True := trivial
  go_wp2_with (first
    | (have _t := tok; refine wpList_load_vgr rfl _ rfl b rfl (ty' := 89) (T := T) (pp := pp) (e := ep) (dn := false) ?hs ?_; (case hs => exact (unhide HV).alloc _))
    | (have _t := tok; clear tok; refine wpList_store_tab 74 brdInfo rfl _ _ rfl (w.heap.size + 1) rfl T rfl 74 T0 ?hr ?_; (case hr => exact Blk.new1 w _ _ _); intro w2 X2 g2 z2; have V2 := (((unhide HV).alloc _).alloc _).chg g2 (by simp; omega); have P2 := (((unhide HP).alloc _).alloc _).chg g2 (by intro x hx hf; simp at hx; have := unhide lP x hf; omega); have O2 := ((Blk.new w #[.int .i64 o.k, .int .i64 o.now, .int .i64 o.jb, .int .i64 o.tr, .int .i64 o.wk, .int .i64 o.tm] 43).alloc (.cells T0.cells 74)).chg g2 (by simp); have G2 : Chg [] w w2 := (((Chg.refl [] w).alloc _).alloc _).trans g2 (by simp); obtain ⟨o0, o1, o2, o3, o4, o5⟩ := O2.six; have lO := O2.lt; clear g2 z2))
  refine (vord_go b T pp ep u l o keep _ V2 P2 (unhide HB) (unhide HI) e0 e1).mono ?_
  have z2 := G2.size
  have lx2 := X2.lt
  rintro x w3 (⟨hc, rfl, g3⟩ | ⟨hc, hf, rfl, u3, V3, P3, g3, n3⟩ | ⟨hc, hf, rfl, u3, V3, P3, g3, n3⟩)
  · have hcb : ((doT T o).2.code == 0) = false := by simpa using hc
    have HC := hide hc
    have G3 := G2.trans g3 (by simp)
    clear hc g3 o0 o1 o2 o3 o4 o5
    unfold ansV
    go_wp2
    go_ret
    exact .inl ⟨unhide HC, rfl, G3.alloc _⟩
  · have G3 : Chg [b, pp] w w3 := (G2.wide (cs := [b, pp]) (by simp)).trans g3 (fun x hx => .inl hx)
    have HC := hide hc
    clear hc g3 o0 o1 o2 o3 o4 o5
    unfold ansV
    go_wp2
    go_ret
    exact .inr (.inl ⟨unhide HC, hf, rfl, u3, V3.alloc _, P3.alloc _, G3.alloc _, n3.mono z2⟩)
  · have G3 : Chg [b, pp] w w3 := (G2.wide (cs := [b, pp]) (by simp)).trans g3 (fun x hx => .inl hx)
    have X3 := X2.chg g3 (by simp; omega)
    have HC := hide hc
    have hcb : ((doT T o).2.code == 0) = true := by simpa using hc
    clear hc g3 o0 o1 o2 o3 o4 o5
    have lV := V3.lt
    have lX := X3.lt
    have tok : True := trivial
    unfold ansV
    go_wp2_with (first
      | (have _t := tok; refine wpList_load_tab 74 brdRow brdInfo rfl _ rfl (w.heap.size + 1) rfl 74 T ?hs ?_; (case hs => exact X3.alloc _))
      | (have _t := tok; clear tok; refine wpList_store_vgr rfl _ _ rfl b rfl T rfl (V3.alloc _) ?_; intro w6 V6 g6 z6; have Y6 := (Blk.new w3 #[.int .i64 (doT T o).2.code, .int .i64 (doT T o).2.jb, .int .i64 (doT T o).2.tr] 56).chg g6 (by simp; omega); obtain ⟨y0, y1, y2, -, -, -⟩ := Y6.three; have P6 := (P3.alloc _).chg g6 (by intro x hx hf; simp at hx; subst hx; rcases mem_fp.1 hf with e | e <;> first | exact unhide HB (mem_fp.2 (.inl e)) | (rcases n3 _ e with e2 | e2; exact unhide HB (mem_fp.2 (.inr e2)); omega)); have G6 := (G3.alloc _).trans g6 (by intro x hx; simp at hx; subst hx; exact .inl (by simp)); obtain ⟨t0, t1, t2, tf, tb⟩ := V6.tail; have lY := Y6.lt; clear g6 z6))
    go_ret
    have hx3 : b ∉ fp pp u3 := fun hf => by
      rcases mem_fp.1 hf with e | e
      · exact unhide HB (mem_fp.2 (.inl e))
      · rcases n3 _ e with e2 | e2
        · exact unhide HB (mem_fp.2 (.inr e2))
        · omega
    exact .inr (.inr ⟨unhide HC, hf, ret_int (unhide HC), u3, V6.setDown true, P6.chg ((Chg.refl [b] w6).setCell (p := ⟨b, 27, none⟩) (by simp) _) (by simpa using hx3), G6.setCell (by simp) _, n3.mono z2⟩)

end Go.Proofs.Ytafbacijfiodhab

namespace Go.Proofs.Ytafbacijfiodhab
open Go.RowKit

/-- The document's own node n in block b, of the disk in block pp. -/
def Vn (w : World) (b pp : Nat) (n : Nd) : Prop := Vgr 89 w b n.T pp n.e n.dn
theorem Vn.chg {w w' : World} {b pp : Nat} {n : Nd} (h : Vn w b pp n) {bs : List Nat} (k : Chg bs w w') (hb : b ∉ bs) : Vn w' b pp n := Vgr.chg h k hb
theorem Vn.lt {w : World} {b pp : Nat} {n : Nd} (h : Vn w b pp n) : b < w.heap.size := Vgr.lt h

theorem vord_all (b pp : Nat) (n : Nd) (d : Dk) (u : Value) (o : Od) (w : World) (V : Vn w b pp n) (P : Plt 83 w pp d.ep u d.l) (hbp : b ∉ fp pp u) (hI : Inv n.T) (e0 : 1 ≤ d.ep) (e1 : d.ep ≤ 100) :
    Calls Try.prog 40 #[.pointer (some ⟨b, 0, none⟩), odV o, .int .i64 9] w fun x w' =>
      x = .returned (ansV (ordA d n o)) ∧ ∃ u', Vn w' b pp (ordN d n o) ∧ Plt 83 w' pp d.ep u' (wrD d n o 9).l ∧ Chg [b, pp] w w' ∧ Pnx w u u' := by
  cases hd : n.dn
  · by_cases he : d.ep = n.e
    · have V' : Vgr 89 w b n.T pp d.ep false := by unfold Vn at V; rw [hd, ← he] at V; exact V
      refine (vord_go b n.T pp d.ep u d.l o 9 w V' P hbp hI e0 e1).mono ?_
      rintro x w' (⟨hc, rfl, g⟩ | ⟨hc, hf, rfl, u', V2, P2, g, nx⟩ | ⟨hc, hf, rfl, u', V2, P2, g, nx⟩)
      · have hw : ¬ wrC d n o 9 = 0 := by rw [wr_ref hd he hc]; exact hc
        obtain ⟨o1, o2⟩ := ord_no hw
        rw [o2, wr_ref hd he hc, ← (doT_ref hc).1]
        refine ⟨rfl, u, ?_, ?_, g.wide (by simp), Pnx.same _ _⟩
        · rw [o1, dnx_serves hd he, ← hd]; exact V.chg g (by simp)
        · rw [wrD_no hw]; exact P.chg g (by simp)
      · have hw8 := wr_full (keep := 9) hd he hc hf
        have hw : ¬ wrC d n o 9 = 0 := by rw [hw8]; decide
        obtain ⟨o1, o2⟩ := ord_no hw
        rw [o2, hw8]
        refine ⟨rfl, u', ?_, ?_, g, nx⟩
        · rw [o1, dnx_serves hd he]; show Vgr _ _ _ n.T pp n.e false; rw [← he]; exact V2
        · rw [wrD_no hw]; exact P2
      · have hw := wr_yes (keep := 9) hd he hc hf
        obtain ⟨o1, o2⟩ := ord_yes hw
        rw [o2]
        refine ⟨rfl, u', ?_, ?_, g, nx⟩
        · rw [o1, dnx_serves hd he]; show Vgr _ _ _ (doT n.T o).1 pp n.e false; rw [← he]; exact V2
        · rw [wrD_yes hw]; exact P2
    · have V' : Vgr 89 w b n.T pp n.e false := by unfold Vn at V; rw [hd] at V; exact V
      refine (vord_fenced b n.T pp n.e d.ep u d.l o 9 w V' P he).mono ?_
      rintro x w' ⟨rfl, V2, g⟩
      have hw9 := wr_fenced (o := o) (keep := 9) hd he
      have hw : ¬ wrC d n o 9 = 0 := by rw [hw9]; decide
      obtain ⟨o1, o2⟩ := ord_no hw
      rw [o2, hw9]
      refine ⟨rfl, u, ?_, ?_, g.wide (by simp), Pnx.same _ _⟩
      · rw [o1, dnx_fenced he]; exact V2
      · rw [wrD_no hw]; exact P.chg g (by intro x hx; simp at hx; subst hx; exact hbp)
  · have V' : Vgr 89 w b n.T pp n.e true := by unfold Vn at V; rw [hd] at V; exact V
    refine (vord_down b n.T pp n.e o 9 w V').mono ?_
    rintro x w' ⟨rfl, g⟩
    have hw9 := wr_down (d := d) (o := o) (keep := 9) hd
    have hw : ¬ wrC d n o 9 = 0 := by rw [hw9]; decide
    obtain ⟨o1, o2⟩ := ord_no hw
    rw [o2, hw9]
    refine ⟨rfl, u, ?_, ?_, g.wide (by simp), Pnx.same _ _⟩
    · rw [o1, dnx_down hd, ← hd]; exact V.chg g (by simp)
    · rw [wrD_no hw]; exact P.chg g (by simp)

theorem vtear_all (b pp : Nat) (n : Nd) (d : Dk) (u : Value) (o : Od) (keep : Int) (w : World) (V : Vn w b pp n) (P : Plt 83 w pp d.ep u d.l) (hbp : b ∉ fp pp u) (hI : Inv n.T) (e0 : 1 ≤ d.ep) (e1 : d.ep ≤ 100) :
    Calls Try.prog 41 #[.pointer (some ⟨b, 0, none⟩), odV o, .int .i64 keep] w fun x w' =>
      x = .returned (.int .i64 (wrC d n o keep)) ∧ ∃ u', Vn w' b pp (tearN d n o keep) ∧ Plt 83 w' pp d.ep u' (wrD d n o keep).l ∧ Chg [b, pp] w w' ∧ Pnx w u u' := by
  have tn : ¬ wrC d n o keep = 0 → tearN d n o keep = ⟨n.T, n.e, dnx d n⟩ := fun h => by unfold tearN; simp [h]
  have ty : wrC d n o keep = 0 → tearN d n o keep = ⟨n.T, n.e, true⟩ := fun h => by unfold tearN; simp [h]
  cases hd : n.dn
  · by_cases he : d.ep = n.e
    · have V' : Vgr 89 w b n.T pp d.ep false := by unfold Vn at V; rw [hd, ← he] at V; exact V
      refine (vtear_go b n.T pp d.ep u d.l o keep w V' P hbp hI e0 e1).mono ?_
      rintro x w' (⟨hc, rfl, g⟩ | ⟨hc, hf, rfl, u', V2, P2, g, nx⟩ | ⟨hc, hf, rfl, u', V2, P2, g, nx⟩)
      · have hw : ¬ wrC d n o keep = 0 := by rw [wr_ref hd he hc]; exact hc
        rw [tn hw, wrD_no hw, wr_ref hd he hc]
        exact ⟨rfl, u, by rw [dnx_serves hd he, ← hd]; exact V.chg g (by simp), P.chg g (by simp), g.wide (by simp), Pnx.same _ _⟩
      · have hw8 := wr_full (keep := keep) hd he hc hf
        have hw : ¬ wrC d n o keep = 0 := by rw [hw8]; decide
        rw [tn hw, wrD_no hw, hw8]
        exact ⟨rfl, u', by rw [dnx_serves hd he]; show Vgr _ _ _ n.T pp n.e false; rw [← he]; exact V2, P2, g, nx⟩
      · have hw := wr_yes (keep := keep) hd he hc hf
        rw [ty hw, wrD_yes hw, hw]
        exact ⟨rfl, u', by show Vgr _ _ _ n.T pp n.e true; rw [← he]; exact V2, P2, g, nx⟩
    · have V' : Vgr 89 w b n.T pp n.e false := by unfold Vn at V; rw [hd] at V; exact V
      refine (vtear_fenced b n.T pp n.e d.ep u d.l o keep w V' P he).mono ?_
      rintro x w' ⟨rfl, V2, g⟩
      have hw9 := wr_fenced (o := o) (keep := keep) hd he
      have hw : ¬ wrC d n o keep = 0 := by rw [hw9]; decide
      rw [tn hw, wrD_no hw, hw9]
      exact ⟨rfl, u, by rw [dnx_fenced he]; exact V2, P.chg g (by intro x hx; simp at hx; subst hx; exact hbp), g.wide (by simp), Pnx.same _ _⟩
  · have V' : Vgr 89 w b n.T pp n.e true := by unfold Vn at V; rw [hd] at V; exact V
    refine (vtear_down b n.T pp n.e o keep w V').mono ?_
    rintro x w' ⟨rfl, g⟩
    have hw9 := wr_down (d := d) (o := o) (keep := keep) hd
    have hw : ¬ wrC d n o keep = 0 := by rw [hw9]; decide
    rw [tn hw, wrD_no hw, hw9]
    exact ⟨rfl, u, by rw [dnx_down hd, ← hd]; exact V.chg g (by simp), P.chg g (by simp), g.wide (by simp), Pnx.same _ _⟩

end Go.Proofs.Ytafbacijfiodhab

namespace Go.Proofs.Ytafbacijfiodhab
open Go.RowKit

set_option maxRecDepth 100000 in
set_option maxHeartbeats 4000000 in
theorem newcrew_any (vb : Value) (bs : List Int) (w : World) (h : Sl w vb bs) (hk : okB bs) (hn : bs.length ≤ 1500) :
    Calls Try.prog 19 #[vb] w fun e w' => ∃ (cb db pb : Nat) (v u : Value), e = .returned (.pointer (some ⟨cb, 0, none⟩)) ∧ w.heap.size ≤ cb ∧ w.heap.size ≤ db ∧
      Blk w' cb #[.pointer (some ⟨db, 0, none⟩), .pointer (some ⟨pb, 0, none⟩), .slice none 0 0, .slice none 0 0] 51 ∧
      Dsk 79 5 w' w.heap.size db 1 v bs ∧ Plt 83 w' pb 1 u bs ∧ Apart (fp pb u) (fp db v) ∧ (∀ x ∈ fp pb u, w.heap.size ≤ x) ∧ cb ∉ fp db v ∧ cb ∉ fp pb u ∧ Chg [] w w' := by
  have HH := hide h
  have HK := hide hk
  obtain ⟨ab, nb, rfl⟩ := sl_slice h
  clear h hk
  go_enter Try.func19, Try.ntmps19
  go_wp2_with fail
  refine (dnew_any _).mono ?_
  rintro e w1 ⟨rfl, D1, G1⟩
  have z1 := D1.blk.lt
  have D2 := (D1.alloc (.cells #[.int .i64 0, .slice none 0 0] 83)).alloc (.cells #[.pointer (some ⟨w.heap.size, 0, none⟩), .pointer (some ⟨w1.heap.size, 0, none⟩), .slice none 0 0, .slice none 0 0] 51)
  have P2 : Plt 83 ((w1.alloc (.cells #[.int .i64 0, .slice none 0 0] 83)).alloc (.cells #[.pointer (some ⟨w.heap.size, 0, none⟩), .pointer (some ⟨w1.heap.size, 0, none⟩), .slice none 0 0, .slice none 0 0] 51)) w1.heap.size 0 (.slice none 0 0) [] := Plt.alloc ⟨Blk.new w1 _ _, .inl ⟨rfl, rfl⟩, by simp, okB_nil, by simp [Value.ownBlock], by simp [Value.ownBlock]⟩ _
  have C2 := Blk.new1 w1 (.cells #[.int .i64 0, .slice none 0 0] 83) #[.pointer (some ⟨w.heap.size, 0, none⟩), .pointer (some ⟨w1.heap.size, 0, none⟩), .slice none 0 0, .slice none 0 0] 51
  have G2 := (G1.alloc (.cells #[.int .i64 0, .slice none 0 0] 83)).alloc (.cells #[.pointer (some ⟨w.heap.size, 0, none⟩), .pointer (some ⟨w1.heap.size, 0, none⟩), .slice none 0 0, .slice none 0 0] 51)
  clear D1 G1
  go_wp2_with fail
  refine (draise_more w.heap.size 0 _ [] _ _ D2 (by omega) (by omega)).mono ?_
  rintro e w3 ⟨rfl, D3, g3⟩
  have P3 := P2.chg g3 (by intro x hx; simp at hx; simp [fp, Value.ownBlock]; omega)
  have C3 := C2.chg g3 (by simp; omega)
  have G3 := G2.trans g3 (by simp)
  have z3 := C3.lt
  obtain ⟨c0, c1, -, -, -⟩ := C3.cells4
  clear g3 D2 P2 C2 G2
  go_wp2_with fail
  refine (dapp_yes w.heap.size (0 + 1) _ [] _ _ bs _ D3 (by omega) ((unhide HH).chg G3 (by simp)) (unhide HK) G3.size (by simpa using hn)).mono ?_
  rintro e w4 ⟨rfl, v4, D4, g4, n4⟩
  have P4 := P3.chg g4 (by intro x hx hf; simp [fp, Value.ownBlock] at hx hf; omega)
  have C4 := C3.chg g4 (by simp [fp, Value.ownBlock]; omega)
  have G4 := G3.trans g4 (by intro x hx; simp [fp, Value.ownBlock] at hx; exact .inr (by omega))
  have z4 := g4.size
  have l4 := C4.lt
  clear c0 c1
  obtain ⟨c0, c1, -, -, -⟩ := C4.cells4
  have hv4 : ∀ g, v4.ownBlock = some g → w3.heap.size ≤ g := fun g hg => by
    rcases n4 with e | ⟨g', e, hg'⟩
    · rw [e] at hg; simp [Value.ownBlock] at hg
    · rw [e] at hg; cases hg; exact hg'
  have lD4 := D4.fp_lt
  clear g4 D3 P3 C3 G3 n4
  go_wp2_with fail
  refine (praise_more w1.heap.size 0 _ [] _ P4 (by omega) (by omega)).mono ?_
  rintro e w5 ⟨rfl, P5, g5⟩
  have hD5 : w1.heap.size ∉ fp w.heap.size v4 := fun hf => by
    rcases mem_fp.1 hf with e | e
    · omega
    · have := hv4 _ e; omega
  have D5 := D4.chg g5 (by intro x hx; simp at hx; subst hx; exact hD5)
  have C5 := C4.chg g5 (by simp)
  have G5 := G4.trans g5 (by intro x hx; simp at hx; exact .inr (by omega))
  have z5 := g5.size
  clear c0 c1
  obtain ⟨c0, c1, -, -, -⟩ := C5.cells4
  clear g5 D4 P4 C4 G4
  go_wp2_with fail
  refine (papp_yes w1.heap.size (0 + 1) _ [] _ bs _ P5 (by omega) ((unhide HH).chg G5 (by simp)) (unhide HK) (by simpa using hn)).mono ?_
  rintro e w6 ⟨rfl, u6, P6, g6, n6⟩
  have D6 := D5.chg g6 (by intro x hx; simp at hx; subst hx; exact hD5)
  have C6 := C5.chg g6 (by simp)
  have G6 := G5.trans g6 (by intro x hx; simp at hx; exact .inr (by omega))
  have hu6 : ∀ g, u6.ownBlock = some g → w5.heap.size ≤ g := fun g hg => by
    rcases n6 g hg with e | e
    · simp [Value.ownBlock] at e
    · exact e
  have hAp : Apart (fp w1.heap.size u6) (fp w.heap.size v4) := fun x hx hy => by
    have hy4 := lD4 x hy
    rcases mem_fp.1 hx with e | e
    · subst e; exact hD5 hy
    · have := hu6 x e; omega
  have hge : ∀ x ∈ fp w1.heap.size u6, w.heap.size ≤ x := fun x hx => by
    rcases mem_fp.1 hx with e | e
    · omega
    · have := hu6 x e; omega
  have hc1 : w1.heap.size + 1 ∉ fp w.heap.size v4 := fun hf => by
    rcases mem_fp.1 hf with e | e
    · omega
    · have := hv4 _ e; omega
  have hc2 : w1.heap.size + 1 ∉ fp w1.heap.size u6 := fun hf => by
    rcases mem_fp.1 hf with e | e
    · omega
    · have := hu6 _ e; omega
  clear c0 c1
  go_wp2
  go_ret
  exact ⟨w1.heap.size + 1, w.heap.size, w1.heap.size, v4, u6, rfl, by omega, by omega, C6, D6, P6, hAp, hge, hc1, hc2, G6⟩

/-! ### The steps that came in -/
structure Ns where
  d : Int
  k : Int
  keep : Int
  o : Od
def ns0 : Ns := ⟨0, 0, 0, ⟨0, 0, 0, 0, 0, 0⟩⟩
def NsAt (w : World) (bl off : Nat) (s : Ns) : Prop :=
  w.cell? ⟨bl, off, none⟩ = some (.int .i64 s.d) ∧ w.cell? ⟨bl, off + 1, none⟩ = some (.int .i64 s.k) ∧ w.cell? ⟨bl, off + 2, none⟩ = some (.int .i64 s.keep) ∧ w.cell? ⟨bl, off + 3, none⟩ = some (.int .i64 s.o.k) ∧ w.cell? ⟨bl, off + 4, none⟩ = some (.int .i64 s.o.now) ∧
  w.cell? ⟨bl, off + 5, none⟩ = some (.int .i64 s.o.jb) ∧ w.cell? ⟨bl, off + 6, none⟩ = some (.int .i64 s.o.tr) ∧ w.cell? ⟨bl, off + 7, none⟩ = some (.int .i64 s.o.wk) ∧ w.cell? ⟨bl, off + 8, none⟩ = some (.int .i64 s.o.tm)
def Nss (w : World) (a : Option Addr) (len : Nat) (fs : Nat → Ns) : Prop :=
  len = 0 ∨ ∃ bl off, a = some ⟨bl, off, none⟩ ∧ bl < w.heap.size ∧ ∀ i, i < len → NsAt w bl (off + i * 9) (fs i)
theorem NsAt.chg {w w' : World} {bl off : Nat} {s : Ns} (h : NsAt w bl off s) (k : Chg [] w w') (hl : bl < w.heap.size) : NsAt w' bl off s := by
  obtain ⟨h0, h1, h2, h3, h4, h5, h6, h7, h8⟩ := h
  exact ⟨by rw [kCell k hl (by simp)]; exact h0, by rw [kCell k hl (by simp)]; exact h1, by rw [kCell k hl (by simp)]; exact h2, by rw [kCell k hl (by simp)]; exact h3, by rw [kCell k hl (by simp)]; exact h4, by rw [kCell k hl (by simp)]; exact h5, by rw [kCell k hl (by simp)]; exact h6, by rw [kCell k hl (by simp)]; exact h7, by rw [kCell k hl (by simp)]; exact h8⟩

end Go.Proofs.Ytafbacijfiodhab

