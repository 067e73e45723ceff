/-
  The document's own node is torn. Nothing here is claimed by itself.
-/
import Derived.Test.YtgcikokfgcpkfabMN3
import Derived.Test.YtgcikokfgcpkfabMgN2
namespace Go.Proofs.Ytgcikokfgcpkfab
open Go.RowKit

set_option maxRecDepth 100000 in
set_option maxHeartbeats 2000000 in
theorem vtear_down (b : Nat) (T : Tb) (pp : Nat) (e : Int) (o : Od) (keep : Int) (w : World) (V : Vgr 96 w b T pp e true) :
    Calls Try.prog 53 #[.pointer (some ⟨b, 0, none⟩), odV o, .int .i64 keep] w fun e w' => e = .returned (.int .i64 10) ∧ Chg [] w w' := by
  have HV := hide V
  have lb := V.lt
  clear V
  unfold odV
  go_enter Try.func53, Try.ntmps53
  have tok : True := trivial
  go_wp2_with (first
    | (have _t := tok; refine wpList_load_vgr rfl _ rfl b rfl (ty' := 96) (T := T) (pp := pp) (e := e) (dn := true) ?hs ?_; (case hs => exact (unhide HV).alloc _))
    | (have _t := tok; clear tok; refine wpList_store_tab 74 brdInfo rfl _ _ rfl (w.heap.size + 1) rfl T rfl 74 T0 ?hr ?_; (case hr => exact Blk.new1 w _ _ _); intro w2 X2 g2 z2; have V2 := (((unhide HV).alloc _).alloc _).chg g2 (by simp; omega); have O2 := ((Blk.new w #[.int .i64 o.k, .int .i64 o.now, .int .i64 o.jb, .int .i64 o.tr, .int .i64 o.wk, .int .i64 o.tm] 43).alloc (.cells T0.cells 74)).chg g2 (by simp); have G2 : Chg [] w w2 := (((Chg.refl [] w).alloc _).alloc _).trans g2 (by simp); obtain ⟨o0, o1, o2, o3, o4, o5⟩ := O2.six; have lO := O2.lt; clear g2 z2)
    | (go_at_call 52; refine (vord_down b T pp e o keep _ V2).mono ?_; rintro x w3 ⟨rfl, g3⟩; have G3 := G2.trans g3 (by simp); unfold ansV; clear g3))
  go_ret
  exact ⟨rfl, G3.alloc _⟩

set_option maxRecDepth 100000 in
set_option maxHeartbeats 2000000 in
theorem vtear_fenced {tp : TypeId} {rest : Array Value} (b : Nat) (T : Tb) (pp : Nat) (e ep : Int) (u : Value) (l : List Int) (o : Od) (keep : Int) (w : World) (V : Vgr 96 w b T pp e false) (P : Plt tp rest w pp ep u l) (hne : ¬ ep = e) :
    Calls Try.prog 53 #[.pointer (some ⟨b, 0, none⟩), odV o, .int .i64 keep] w fun x w' => x = .returned (.int .i64 9) ∧ Vgr 96 w' b T pp e true ∧ Chg [b] w w' := by
  have HV := hide V
  have HP := hide P
  have HN := hide hne
  have lb := V.lt
  have lP := hide P.fp_lt
  clear V P hne
  unfold odV
  go_enter Try.func53, Try.ntmps53
  have tok : True := trivial
  go_wp2_with (first
    | (have _t := tok; refine wpList_load_vgr rfl _ rfl b rfl (ty' := 96) (T := T) (pp := pp) (e := e) (dn := false) ?hs ?_; (case hs => exact (unhide HV).alloc _))
    | (have _t := tok; clear tok; refine wpList_store_tab 74 brdInfo rfl _ _ rfl (w.heap.size + 1) rfl T rfl 74 T0 ?hr ?_; (case hr => exact Blk.new1 w _ _ _); intro w2 X2 g2 z2; have V2 := (((unhide HV).alloc _).alloc _).chg g2 (by simp; omega); have P2 := (((unhide HP).alloc _).alloc _).chg g2 (by intro x hx hf; simp at hx; have := unhide lP x hf; omega); have O2 := ((Blk.new w #[.int .i64 o.k, .int .i64 o.now, .int .i64 o.jb, .int .i64 o.tr, .int .i64 o.wk, .int .i64 o.tm] 43).alloc (.cells T0.cells 74)).chg g2 (by simp); have G2 : Chg [b] w w2 := (((Chg.refl [b] w).alloc _).alloc _).trans g2 (by simp); obtain ⟨o0, o1, o2, o3, o4, o5⟩ := O2.six; have lO := O2.lt; clear g2 z2)
    | (go_at_call 52; refine (vord_fenced b T pp e ep u l o keep _ V2 P2 (unhide HN)).mono ?_; rintro x w3 ⟨rfl, V3, g3⟩; have G3 := G2.trans g3 (by simp); unfold ansV; clear g3))
  go_ret
  exact ⟨rfl, V3.alloc _, G3.alloc _⟩

set_option maxRecDepth 100000 in
set_option maxHeartbeats 4000000 in
theorem vtear_go {tp : TypeId} {rest : Array Value} (b : Nat) (T : Tb) (pp : Nat) (ep : Int) (u : Value) (l : List Int) (o : Od) (keep : Int) (w : World) (V : Vgr 96 w b T pp ep false) (P : Plt tp rest w pp ep u l) (hbp : b ∉ fp pp u) (hI : Inv T) (e0 : 1 ≤ ep) (e1 : ep ≤ 100) :
    Calls Try.prog 53 #[.pointer (some ⟨b, 0, none⟩), odV o, .int .i64 keep] w fun x w' =>
      ((doT T o).2.code ≠ 0 ∧ x = .returned (.int .i64 (doT T o).2.code) ∧ Chg [] w w') ∨
      ((doT T o).2.code = 0 ∧ 1500 < l.length + keepN keep ∧ x = .returned (.int .i64 8) ∧ ∃ u', Vgr 96 w' b T pp ep false ∧ Plt tp rest w' pp ep u' l ∧ Chg [b, pp] w w' ∧ Pnx w u u') ∨
      ((doT T o).2.code = 0 ∧ ¬ 1500 < l.length + keepN keep ∧ x = .returned (.int .i64 0) ∧ ∃ u', Vgr 96 w' b T pp ep true ∧ Plt tp rest w' pp ep u' (l ++ tornL ep o keep) ∧ Chg [b, pp] w w' ∧ Pnx w u u') := by
  have HV := hide V
  have HP := hide P
  have HB := hide hbp
  have HI := hide hI
  have lb := V.lt
  have lP := hide P.fp_lt
  have lpp : pp < w.heap.size := P.fp_lt pp (mem_fp.2 (.inl rfl))
  clear V P hbp hI
  unfold odV
  go_enter Try.func53, Try.ntmps53
  have tok : True := trivial
  go_wp2_with (first
    | (have _t := tok; refine wpList_load_vgr rfl _ rfl b rfl (ty' := 96) (T := T) (pp := pp) (e := ep) (dn := false) ?hs ?_; (case hs => exact (unhide HV).alloc _))
    | (have _t := tok; clear tok; refine wpList_store_tab 74 brdInfo rfl _ _ rfl (w.heap.size + 1) rfl T rfl 74 T0 ?hr ?_; (case hr => exact Blk.new1 w _ _ _); intro w2 X2 g2 z2; have V2 := (((unhide HV).alloc _).alloc _).chg g2 (by simp; omega); have P2 := (((unhide HP).alloc _).alloc _).chg g2 (by intro x hx hf; simp at hx; have := unhide lP x hf; omega); have O2 := ((Blk.new w #[.int .i64 o.k, .int .i64 o.now, .int .i64 o.jb, .int .i64 o.tr, .int .i64 o.wk, .int .i64 o.tm] 43).alloc (.cells T0.cells 74)).chg g2 (by simp); have G2 : Chg [] w w2 := (((Chg.refl [] w).alloc _).alloc _).trans g2 (by simp); obtain ⟨o0, o1, o2, o3, o4, o5⟩ := O2.six; have lO := O2.lt; clear g2 z2))
  refine (vord_go b T pp ep u l o keep _ V2 P2 (unhide HB) (unhide HI) e0 e1).mono ?_
  have z2 := G2.size
  have lx2 := X2.lt
  rintro x w3 (⟨hc, rfl, g3⟩ | ⟨hc, hf, rfl, u3, V3, P3, g3, n3⟩ | ⟨hc, hf, rfl, u3, V3, P3, g3, n3⟩)
  · have hcb : ((doT T o).2.code == 0) = false := by simpa using hc
    have HC := hide hc
    have G3 := G2.trans g3 (by simp)
    clear hc g3 o0 o1 o2 o3 o4 o5
    unfold ansV
    go_wp2
    go_ret
    exact .inl ⟨unhide HC, rfl, G3.alloc _⟩
  · have G3 : Chg [b, pp] w w3 := (G2.wide (cs := [b, pp]) (by simp)).trans g3 (fun x hx => .inl hx)
    have HC := hide hc
    clear hc g3 o0 o1 o2 o3 o4 o5
    unfold ansV
    go_wp2
    go_ret
    exact .inr (.inl ⟨unhide HC, hf, rfl, u3, V3.alloc _, P3.alloc _, G3.alloc _, n3.mono z2⟩)
  · have G3 : Chg [b, pp] w w3 := (G2.wide (cs := [b, pp]) (by simp)).trans g3 (fun x hx => .inl hx)
    have X3 := X2.chg g3 (by simp; omega)
    have HC := hide hc
    have hcb : ((doT T o).2.code == 0) = true := by simpa using hc
    clear hc g3 o0 o1 o2 o3 o4 o5
    have lV := V3.lt
    have lX := X3.lt
    have tok : True := trivial
    unfold ansV
    go_wp2_with (first
      | (have _t := tok; refine wpList_load_tab 74 brdRow brdInfo rfl _ rfl (w.heap.size + 1) rfl 74 T ?hs ?_; (case hs => exact X3.alloc _))
      | (have _t := tok; clear tok; refine wpList_store_vgr rfl _ _ rfl b rfl T rfl (V3.alloc _) ?_; intro w6 V6 g6 z6; have Y6 := (Blk.new w3 #[.int .i64 (doT T o).2.code, .int .i64 (doT T o).2.jb, .int .i64 (doT T o).2.tr] 56).chg g6 (by simp; omega); obtain ⟨y0, y1, y2, -, -, -⟩ := Y6.three; have P6 := (P3.alloc _).chg g6 (by intro x hx hf; simp at hx; subst hx; rcases mem_fp.1 hf with e | e <;> first | exact unhide HB (mem_fp.2 (.inl e)) | (rcases n3 _ e with e2 | e2; exact unhide HB (mem_fp.2 (.inr e2)); omega)); have G6 := (G3.alloc _).trans g6 (by intro x hx; simp at hx; subst hx; exact .inl (by simp)); obtain ⟨t0, t1, t2, tf, tb⟩ := V6.tail; have lY := Y6.lt; clear g6 z6))
    go_ret
    have hx3 : b ∉ fp pp u3 := fun hf => by
      rcases mem_fp.1 hf with e | e
      · exact unhide HB (mem_fp.2 (.inl e))
      · rcases n3 _ e with e2 | e2
        · exact unhide HB (mem_fp.2 (.inr e2))
        · omega
    exact .inr (.inr ⟨unhide HC, hf, ret_int (unhide HC), u3, V6.setDown true, P6.chg ((Chg.refl [b] w6).setCell (p := ⟨b, 27, none⟩) (by simp) _) (by simpa using hx3), G6.setCell (by simp) _, n3.mono z2⟩)

end Go.Proofs.Ytgcikokfgcpkfab

namespace Go.Proofs.Ytgcikokfgcpkfab
open Go.RowKit

/-- The document's own node n in block b, of the disk in block pp. -/
def Vn (w : World) (b pp : Nat) (n : Nd) : Prop := Vgr 96 w b n.T pp n.e n.dn
theorem Vn.chg {w w' : World} {b pp : Nat} {n : Nd} (h : Vn w b pp n) {bs : List Nat} (k : Chg bs w w') (hb : b ∉ bs) : Vn w' b pp n := Vgr.chg h k hb
theorem Vn.lt {w : World} {b pp : Nat} {n : Nd} (h : Vn w b pp n) : b < w.heap.size := Vgr.lt h

theorem vord_all {tp : TypeId} {rest : Array Value} (b pp : Nat) (n : Nd) (d : Dk) (u : Value) (o : Od) (w : World) (V : Vn w b pp n) (P : Plt tp rest w pp d.ep u d.l) (hbp : b ∉ fp pp u) (hI : Inv n.T) (e0 : 1 ≤ d.ep) (e1 : d.ep ≤ 100) :
    Calls Try.prog 52 #[.pointer (some ⟨b, 0, none⟩), odV o, .int .i64 9] w fun x w' =>
      x = .returned (ansV (ordA d n o)) ∧ ∃ u', Vn w' b pp (ordN d n o) ∧ Plt tp rest w' pp d.ep u' (wrD d n o 9).l ∧ Chg [b, pp] w w' ∧ Pnx w u u' := by
  cases hd : n.dn
  · by_cases he : d.ep = n.e
    · have V' : Vgr 96 w b n.T pp d.ep false := by unfold Vn at V; rw [hd, ← he] at V; exact V
      refine (vord_go b n.T pp d.ep u d.l o 9 w V' P hbp hI e0 e1).mono ?_
      rintro x w' (⟨hc, rfl, g⟩ | ⟨hc, hf, rfl, u', V2, P2, g, nx⟩ | ⟨hc, hf, rfl, u', V2, P2, g, nx⟩)
      · have hw : ¬ wrC d n o 9 = 0 := by rw [wr_ref hd he hc]; exact hc
        obtain ⟨o1, o2⟩ := ord_no hw
        rw [o2, wr_ref hd he hc, ← (doT_ref hc).1]
        refine ⟨rfl, u, ?_, ?_, g.wide (by simp), Pnx.same _ _⟩
        · rw [o1, dnx_serves hd he, ← hd]; exact V.chg g (by simp)
        · rw [wrD_no hw]; exact P.chg g (by simp)
      · have hw8 := wr_full (keep := 9) hd he hc hf
        have hw : ¬ wrC d n o 9 = 0 := by rw [hw8]; decide
        obtain ⟨o1, o2⟩ := ord_no hw
        rw [o2, hw8]
        refine ⟨rfl, u', ?_, ?_, g, nx⟩
        · rw [o1, dnx_serves hd he]; show Vgr _ _ _ n.T pp n.e false; rw [← he]; exact V2
        · rw [wrD_no hw]; exact P2
      · have hw := wr_yes (keep := 9) hd he hc hf
        obtain ⟨o1, o2⟩ := ord_yes hw
        rw [o2]
        refine ⟨rfl, u', ?_, ?_, g, nx⟩
        · rw [o1, dnx_serves hd he]; show Vgr _ _ _ (doT n.T o).1 pp n.e false; rw [← he]; exact V2
        · rw [wrD_yes hw]; exact P2
    · have V' : Vgr 96 w b n.T pp n.e false := by unfold Vn at V; rw [hd] at V; exact V
      refine (vord_fenced b n.T pp n.e d.ep u d.l o 9 w V' P he).mono ?_
      rintro x w' ⟨rfl, V2, g⟩
      have hw9 := wr_fenced (o := o) (keep := 9) hd he
      have hw : ¬ wrC d n o 9 = 0 := by rw [hw9]; decide
      obtain ⟨o1, o2⟩ := ord_no hw
      rw [o2, hw9]
      refine ⟨rfl, u, ?_, ?_, g.wide (by simp), Pnx.same _ _⟩
      · rw [o1, dnx_fenced he]; exact V2
      · rw [wrD_no hw]; exact P.chg g (by intro x hx; simp at hx; subst hx; exact hbp)
  · have V' : Vgr 96 w b n.T pp n.e true := by unfold Vn at V; rw [hd] at V; exact V
    refine (vord_down b n.T pp n.e o 9 w V').mono ?_
    rintro x w' ⟨rfl, g⟩
    have hw9 := wr_down (d := d) (o := o) (keep := 9) hd
    have hw : ¬ wrC d n o 9 = 0 := by rw [hw9]; decide
    obtain ⟨o1, o2⟩ := ord_no hw
    rw [o2, hw9]
    refine ⟨rfl, u, ?_, ?_, g.wide (by simp), Pnx.same _ _⟩
    · rw [o1, dnx_down hd, ← hd]; exact V.chg g (by simp)
    · rw [wrD_no hw]; exact P.chg g (by simp)

theorem vtear_all {tp : TypeId} {rest : Array Value} (b pp : Nat) (n : Nd) (d : Dk) (u : Value) (o : Od) (keep : Int) (w : World) (V : Vn w b pp n) (P : Plt tp rest w pp d.ep u d.l) (hbp : b ∉ fp pp u) (hI : Inv n.T) (e0 : 1 ≤ d.ep) (e1 : d.ep ≤ 100) :
    Calls Try.prog 53 #[.pointer (some ⟨b, 0, none⟩), odV o, .int .i64 keep] w fun x w' =>
      x = .returned (.int .i64 (wrC d n o keep)) ∧ ∃ u', Vn w' b pp (tearN d n o keep) ∧ Plt tp rest w' pp d.ep u' (wrD d n o keep).l ∧ Chg [b, pp] w w' ∧ Pnx w u u' := by
  have tn : ¬ wrC d n o keep = 0 → tearN d n o keep = ⟨n.T, n.e, dnx d n⟩ := fun h => by unfold tearN; simp [h]
  have ty : wrC d n o keep = 0 → tearN d n o keep = ⟨n.T, n.e, true⟩ := fun h => by unfold tearN; simp [h]
  cases hd : n.dn
  · by_cases he : d.ep = n.e
    · have V' : Vgr 96 w b n.T pp d.ep false := by unfold Vn at V; rw [hd, ← he] at V; exact V
      refine (vtear_go b n.T pp d.ep u d.l o keep w V' P hbp hI e0 e1).mono ?_
      rintro x w' (⟨hc, rfl, g⟩ | ⟨hc, hf, rfl, u', V2, P2, g, nx⟩ | ⟨hc, hf, rfl, u', V2, P2, g, nx⟩)
      · have hw : ¬ wrC d n o keep = 0 := by rw [wr_ref hd he hc]; exact hc
        rw [tn hw, wrD_no hw, wr_ref hd he hc]
        exact ⟨rfl, u, by rw [dnx_serves hd he, ← hd]; exact V.chg g (by simp), P.chg g (by simp), g.wide (by simp), Pnx.same _ _⟩
      · have hw8 := wr_full (keep := keep) hd he hc hf
        have hw : ¬ wrC d n o keep = 0 := by rw [hw8]; decide
        rw [tn hw, wrD_no hw, hw8]
        exact ⟨rfl, u', by rw [dnx_serves hd he]; show Vgr _ _ _ n.T pp n.e false; rw [← he]; exact V2, P2, g, nx⟩
      · have hw := wr_yes (keep := keep) hd he hc hf
        rw [ty hw, wrD_yes hw, hw]
        exact ⟨rfl, u', by show Vgr _ _ _ n.T pp n.e true; rw [← he]; exact V2, P2, g, nx⟩
    · have V' : Vgr 96 w b n.T pp n.e false := by unfold Vn at V; rw [hd] at V; exact V
      refine (vtear_fenced b n.T pp n.e d.ep u d.l o keep w V' P he).mono ?_
      rintro x w' ⟨rfl, V2, g⟩
      have hw9 := wr_fenced (o := o) (keep := keep) hd he
      have hw : ¬ wrC d n o keep = 0 := by rw [hw9]; decide
      rw [tn hw, wrD_no hw, hw9]
      exact ⟨rfl, u, by rw [dnx_fenced he]; exact V2, P.chg g (by intro x hx; simp at hx; subst hx; exact hbp), g.wide (by simp), Pnx.same _ _⟩
  · have V' : Vgr 96 w b n.T pp n.e true := by unfold Vn at V; rw [hd] at V; exact V
    refine (vtear_down b n.T pp n.e o keep w V').mono ?_
    rintro x w' ⟨rfl, g⟩
    have hw9 := wr_down (d := d) (o := o) (keep := keep) hd
    have hw : ¬ wrC d n o keep = 0 := by rw [hw9]; decide
    rw [tn hw, wrD_no hw, hw9]
    exact ⟨rfl, u, by rw [dnx_down hd, ← hd]; exact V.chg g (by simp), P.chg g (by simp), g.wide (by simp), Pnx.same _ _⟩

end Go.Proofs.Ytgcikokfgcpkfab

