/-
 The document's own line: log. Nothing here is claimed by itself.
-/
import Derived.Test.YtllnjiljjodfdacGreatDoorQgE7d
import Derived.Test.YtllnjiljjodfdacGreatDoorQgEZ
namespace Go.Proofs.YtllnjiljjodfdacGreatDoor
open Go.RowKit

abbrev oZ : Array Value := #[.int .i64 0, .int .i64 0, .int .i64 0, .int .i64 0, .int .i64 0, .int .i64 0]
abbrev jZ : Array Value := #[.int .i64 0, .int .i64 0, .int .i64 0, .int .i64 0]
abbrev oC (x : Ev) : Array Value := #[.int .i64 x.r.o.k, .int .i64 x.r.o.now, .int .i64 x.r.o.jb, .int .i64 x.r.o.tr, .int .i64 x.r.o.wk, .int .i64 x.r.o.tm]
abbrev jC (x : Ev) : Array Value := #[.int .i64 x.j.st, .int .i64 x.j.wk, .int .i64 x.j.tr, .int .i64 x.j.un]
abbrev rC (x : Ev) : Array Value := #[.int .i64 x.r.ep, .int .i64 x.r.o.k, .int .i64 x.r.o.now, .int .i64 x.r.o.jb, .int .i64 x.r.o.tr, .int .i64 x.r.o.wk, .int .i64 x.r.o.tm]
abbrev S65 (bl o po pj : Nat) (x : Ev) (w' : World) : Prop := w'.cell? ⟨bl, o, none⟩ = some (.int .i64 x.r.ep) ∧ w'.cell? ⟨po, 0, none⟩ = some (.int .i64 x.r.o.k) ∧ w'.cell? ⟨po, 1, none⟩ = some (.int .i64 x.r.o.now) ∧ w'.cell? ⟨po, 2, none⟩ = some (.int .i64 x.r.o.jb) ∧ w'.cell? ⟨po, 3, none⟩ = some (.int .i64 x.r.o.tr) ∧ w'.cell? ⟨po, 4, none⟩ = some (.int .i64 x.r.o.wk) ∧ w'.cell? ⟨po, 5, none⟩ = some (.int .i64 x.r.o.tm) ∧ w'.cell? ⟨pj, 0, none⟩ = some (.int .i64 x.j.st) ∧ w'.cell? ⟨pj, 1, none⟩ = some (.int .i64 x.j.wk) ∧ w'.cell? ⟨pj, 2, none⟩ = some (.int .i64 x.j.tr) ∧ w'.cell? ⟨pj, 3, none⟩ = some (.int .i64 x.j.un)
theorem s65_keep {bl o po pj db : Nat} {x : Ev} {w w' : World} (h : S65 bl o po pj x w) (g : Chg [db] w w') (l0 : bl < w.heap.size) (l1 : po < w.heap.size) (l2 : pj < w.heap.size) (n0 : bl ≠ db) (n1 : po ≠ db) (n2 : pj ≠ db) : S65 bl o po pj x w' := by
 obtain ⟨s0, s1, s2, s3, s4, s5, s6, s7, s8, s9, s10⟩ := h
 exact ⟨(g.cell' (p := ⟨bl, o, none⟩) l0 (by simpa using n0)).trans s0, (g.cell' (p := ⟨po, 0, none⟩) l1 (by simpa using n1)).trans s1, (g.cell' (p := ⟨po, 1, none⟩) l1 (by simpa using n1)).trans s2, (g.cell' (p := ⟨po, 2, none⟩) l1 (by simpa using n1)).trans s3, (g.cell' (p := ⟨po, 3, none⟩) l1 (by simpa using n1)).trans s4, (g.cell' (p := ⟨po, 4, none⟩) l1 (by simpa using n1)).trans s5, (g.cell' (p := ⟨po, 5, none⟩) l1 (by simpa using n1)).trans s6, (g.cell' (p := ⟨pj, 0, none⟩) l2 (by simpa using n2)).trans s7, (g.cell' (p := ⟨pj, 1, none⟩) l2 (by simpa using n2)).trans s8, (g.cell' (p := ⟨pj, 2, none⟩) l2 (by simpa using n2)).trans s9, (g.cell' (p := ⟨pj, 3, none⟩) l2 (by simpa using n2)).trans s10⟩
theorem jobInfoL : (Tryz.prog.info? 99).map (·.size) = some 4 := by kernel_rfl
theorem evord_yield {S : World → Prop} {b o : Nat} {e : Ev} (hS : ∀ W, S W → EvAt W b o e) {ops : Array Oper} {op : Oper} {a : Act} {x : Operand} (hw : Region.wanted op (yielded ops a.tmps) = true) (ho : op.op = .load 83 x) (hx : a.eval x = .pointer (some ⟨b, o + 1, none⟩)) :
  YieldsIf Tryz.prog ops S op (odV e.r.o) a :=
 yieldsIf_load_mid (P := Tryz.prog) hw 83 x ho b (o + 1) hx [.int .i64 e.r.o.k, .int .i64 e.r.o.now, .int .i64 e.r.o.jb, .int .i64 e.r.o.tr, .int .i64 e.r.o.wk, .int .i64 e.r.o.tm] _ (fun w' hw' j v hv => by
  have hj : j < 6 := (List.getElem?_eq_some_iff.1 hv).1
  have := hS _ hw' (1 + j) v (by
   rw [← hv]
   obtain rfl | rfl | rfl | rfl | rfl | rfl : j = 0 ∨ j = 1 ∨ j = 2 ∨ j = 3 ∨ j = 4 ∨ j = 5 := by omega
   all_goals rfl)
  rw [Nat.add_assoc]
  exact this) Tryz.underlying83 rfl (by rw [ordInfoS]; rfl)
theorem evjob_yield {S : World → Prop} {b o : Nat} {e : Ev} (hS : ∀ W, S W → EvAt W b o e) {ops : Array Oper} {op : Oper} {a : Act} {x : Operand} (hw : Region.wanted op (yielded ops a.tmps) = true) (ho : op.op = .load 99 x) (hx : a.eval x = .pointer (some ⟨b, o + 10, none⟩)) :
  YieldsIf Tryz.prog ops S op (.agg #[.int .i64 e.j.st, .int .i64 e.j.wk, .int .i64 e.j.tr, .int .i64 e.j.un]) a :=
 yieldsIf_load_mid (P := Tryz.prog) hw 99 x ho b (o + 10) hx [.int .i64 e.j.st, .int .i64 e.j.wk, .int .i64 e.j.tr, .int .i64 e.j.un] _ (fun w' hw' j v hv => by
  have hj : j < 4 := (List.getElem?_eq_some_iff.1 hv).1
  have := hS _ hw' (10 + j) v (by
   rw [← hv]
   obtain rfl | rfl | rfl | rfl : j = 0 ∨ j = 1 ∨ j = 2 ∨ j = 3 := by omega
   all_goals rfl)
  rw [Nat.add_assoc]
  exact this) Tryz.underlying99 rfl (by rw [jobInfoL]; rfl)
set_option maxRecDepth 100000 in
set_option maxHeartbeats 8000000 in
theorem line_log (W0 : World) (db : Nat) (m : Cm) (s : Gd) (told l : List UInt8) (w : World) (h : Dk7 W0 w db m s told) (hl : l.length ≤ 900000) (ht : told.length ≤ 900000000) (hv : Vars W0) (w0 : List UInt8) (r : List (List UInt8)) (hw : wordsL l = w0 :: r) (hne : ¬ w0 = wTear) (ms : List Int) (hm : r.mapM numL = some ms) (ew : w0 = wLog) (hm0 : ms = []) :
  Calls Tryz.prog 19 #[.pointer (some ⟨db, 0, none⟩), .string (strA l)] w fun e w' => e = .returned (.tuple #[]) ∧ ∃ m', Dn7 W0 w db m w' (s, logT s).1 (told ++ (s, logT s).2) m' := by
 have HD := hide h
 have HV := hide (hv.chg h.c.ch)
 have HV0 := hide hv
 have zdb := h.lt
 clear h hv
 have HMR := hide hm
 have HEW := hide ew
 have HM0 := hide hm0
 clear hm ew hm0
 have HW := hide hw
 have HWL := hide (show ∀ x ∈ w0 :: r, x.length ≤ 1000000 from fun x hx => by have := wordsF_wordE l [] x (by rw [← hw] at hx; exact hx); simp at this; omega)
 have hn6 : (w0 :: r).length ≤ 900001 := by rw [← hw]; exact Nat.le_trans (wordsF_len l []) (by omega)
 have ctear := neqw (l := [116, 101, 97, 114]) hne
 clear hne hw
 go_enter Tryz.func19, Tryz.ntmps19
 go_wp2_with fail
 refine (words_at l _ (by omega)).mono ?_
 rintro e w1 ⟨a, c, rfl, hc, hS, g1⟩
 rw [unhide HW] at hc hS ⊢
 obtain ⟨n, hn⟩ : ∃ n, n = (w0 :: r).length := ⟨_, rfl⟩
 rw [← hn] at hc hn6 ⊢
 have HN := hide hn
 have hn1 : 1 ≤ n := by rw [hn]; simp
 clear hn
 rcases hS with h0 | ⟨gs, os, rfl, hgs, hcell⟩
 ·cases h0
 have p0 : w1.cell? ⟨gs, os, none⟩ = some (.string (strA w0)) := hcell 0 w0 rfl
 have HCELL := hide hcell
 clear hcell
 have n0 : ((n : Int) == 0) = false := by simp; omega
 have n0' : (0 : Int) < (n : Int) := by omega
 have n0'' : 0 < n := by omega
 go_wp2_with fail
 clear ctear p0 n0 n0' n0''
 have k2 : Chg [] w1 ((w1.alloc (.cells #[.slice (some ⟨gs, os, none⟩) n c] 22)).alloc (.cells #[.slice none 0 0] 72)) := ((Chg.refl [] w1).alloc _).alloc _
 have L0 : Ln0 w ((w1.alloc (.cells #[.slice (some ⟨gs, os, none⟩) n c] 22)).alloc (.cells #[.slice none 0 0] 72)) w1.heap.size (w1.heap.size + 1) gs os n c w0 r := ⟨(Blk.new w1 _ _).alloc _, Blk.new1 w1 _ _ _, unhide HN, by simp; omega, by omega, by omega, by omega, g1.size, by have := g1.size; omega, fun i x hx => (k2.cell' (p := ⟨gs, os + i, none⟩) hgs (by simp)).trans (unhide HCELL i x hx), g1.trans k2 (by simp)⟩
 clear g1 k2 HCELL hgs
 generalize (w1.alloc (.cells #[.slice (some ⟨gs, os, none⟩) n c] 22)).alloc (.cells #[.slice none 0 0] 72) = w2 at *
 obtain ⟨lb, hlb⟩ : ∃ lb, lb = w1.heap.size := ⟨_, rfl⟩
 obtain ⟨nb, hnb⟩ : ∃ nb, nb = w1.heap.size + 1 := ⟨_, rfl⟩
 rw [← hnb] at L0 ⊢
 rw [← hlb] at L0 ⊢
 have HL0 := hide L0
 clear L0
 clear hlb hnb
 obtain ⟨i0, hi, hz0, hz1, hz2⟩ := kInfoParts intInfoC
 obtain ⟨B2, N2, -, hg, gl, gn, ln, zl, zn, -, -⟩ := unhide HL0
 go_loopw [10] (fun i wr => LI17 r w2 nb n i wr) (fun i _ => n - (intOf i).toNat)
 case atStart => exact ⟨1, [], _, by omega, hn1, rfl, hide rfl, hide (by simp), hide rfl, N2, World.ownsRow_nil _ _ _ _, Chg.refl _ _⟩
 case round =>
  have lnb2 := N2.lt
  clear N2
  obtain ⟨k, ns, v, hk1, hkn, rfl, HM, HI, HNL, BN, hown, hG⟩ := hrel
  have hnbd : ns.length ≤ 1000001 := by have := unhide HNL; omega
  have BL := B2.chg hG (by simp; exact ln)
  have lL : wr.cell? ⟨lb, 0, none⟩ = some (.slice (some ⟨gs, os, none⟩) n c) := BL.cell 0
  have llb := BL.lt
  have lnb := BN.lt
  have zG := hG.size
  have Gw : Chg [] w wr := (unhide HL0).G.trans hG (by intro x hx; simp at hx; subst hx; exact .inr zn)
  have lgs : gs < wr.heap.size := by omega
  by_cases hlt : k < n
  ·have hki : (k : Int) < (n : Int) := by omega
   have hk0 : (0 : Int) ≤ (k : Int) := by omega
   obtain ⟨x, hx⟩ : ∃ x, (w0 :: r)[k]? = some x := ⟨_, List.getElem?_eq_getElem (by rw [← unhide HN]; exact hlt)⟩
   have hxr : r[k - 1]? = some x := by obtain ⟨q, rfl⟩ : ∃ q, k = q + 1 := ⟨k - 1, by omega⟩; simpa using hx
   have cx : wr.cell? ⟨gs, os + k, none⟩ = some (.string (strA x)) := by rw [hG.cell' (p := ⟨gs, os + k, none⟩) hg (by simp; exact gn)]; exact (unhide HL0).C k x hx
   have hxl : x.length ≤ 1000000 := unhide HWL x (List.mem_of_getElem? hx)
   have HX := hide hxr
   clear hx hxr
   go_wp2_with fail
   refine (atoi_any x _ (by omega) ((unhide HV).chg Gw)).mono ?_
   rintro e w3 ⟨v3, ev, rfl, g3, hres⟩
   have Gw3 := Gw.trans g3 (by simp)
   have HV3 := hide ((unhide HV).chg Gw3)
   have BL3 := BL.chg g3 (by simp)
   have BN3 := BN.chg g3 (by simp)
   have own3 := own_chg hown g3
   have G3 := hG.trans (g3.wide (cs := [nb]) (by simp)) (fun y hy => .inl hy)
   have cx3 : w3.cell? ⟨gs, os + k, none⟩ = some (.string (strA x)) := by rw [g3.cell' lgs (by simp)]; exact cx
   have lgs3 := Nat.lt_of_lt_of_le lgs g3.size
   clear lL cx BL BN hown g3 Gw hG
   have hS0 : S17 lb gs os n c k x w3.drew := ⟨BL3.cell 0, cx3⟩
   have HSN := hide (show ∀ w', Chg [] w3.drew w' → S17 lb gs os n c k x w' from fun w' g => ⟨by rw [g.cell' (p := ⟨lb, 0, none⟩) BL3.lt (by simp)]; exact hS0.1, by rw [g.cell' (p := ⟨gs, os + k, none⟩) lgs3 (by simp)]; exact hS0.2⟩)
   have HVd := hide ((unhide HV3).chg ((Chg.refl [] w3).drew))
   rcases hres with ⟨hat, rfl⟩ | ⟨hat, t, p, rfl⟩
   ·have hv64 := atoi_bd hat
    by_cases hit : Lib.itoa v3 = x
    ·have hcmp : ((strA (Lib.itoa v3)).toList == (strA x).toList) = true := by rw [strA_toL, strA_toL, hit]; simp
     have HNUM := hide (numL_some hat hit)
     clear hat hit
     go_wp2_with fail
     refine wp_region_noPanic ?_
     refine wp_region_held_drew (S := (fun w' => S17 lb gs os n c k x w')) (by kernel_rfl) hS0 (fun hH => ?_)
     refine tk 0 rfl hH ?_
     walk_nrm
     refine tk (v := .bool false) 1 rfl hH ?_ (hz := by intro W' hSw; (try dsimp only at hSw); go_simp; (try simp); try with_reducible rfl)
     walk_nrm
     refine tk 2 rfl hH ?_
     walk_nrm
     refine tk 3 rfl hH ?_
     walk_nrm
     refine tk 5 rfl hH ?_
     walk_nrm
     refine tk 6 rfl hH ?_
     walk_nrm
     refine tk 7 rfl hH ?_
     walk_nrm
     refine tk 8 rfl hH ?_
     walk_nrm
     refine rd 4 rfl (fun K hK => ?_)
     go_simp
     refine (num_any v3 _ hv64 (unhide HVd)).mono ?_
     rintro e w6 ⟨rfl, g6⟩
     refine hK.out _ _ (unhide HSN w6 g6) (fun hH2 => ?_)
     clear hK K hH
     have hH := hH2
     clear hH2
     walk_nrm
     refine tk (v := .bool false) 9 rfl hH ?_ (hz := by intro W' hSw; (try dsimp only at hSw); go_simp; (try simp [hcmp]); try with_reducible rfl)
     walk_nrm
     refine tk 10 rfl hH ?_
     walk_nrm
     refine wpAnyH_done (by kernel_rfl) ?_ _
     refine NoPanic.normal ?_
     clear hH
     have GV6 := Gw3.drew.trans g6 (by simp)
     have BN6 := Blk.chg (show Blk w3.drew nb #[v] 72 from BN3) g6 (by simp)
     have own6 := own_chg (show w3.drew.ownsRow _ _ _ _ _ _ from own3) g6
     have G6 := (G3.drew).trans (g6.wide (cs := [nb]) (by simp)) (fun y hy => .inl hy)
     have cv6 : w6.cell? ⟨nb, 0, none⟩ = some v := BN6.cell 0
     have lb6 := BN6.lt
     have HCH := hide (mapM_snoc (unhide HM) (unhide HNUM))
     have HTK := hide (show r.take (k - 1) ++ [x] = r.take (k + 1 - 1) by rw [show k + 1 - 1 = (k - 1) + 1 by omega, List.take_add_one, unhide HX]; rfl)
     have hI := unhide HI
     have HI2 := hide (show ∀ y ∈ ns ++ [v3], I64 y from fun y hy => by rcases List.mem_append.1 hy with hy | hy; exact hI y hy; simp at hy; subst hy; exact hv64)
     clear hI BN3 own3 G3 g6 hS0
     go_wp2_with (at_builtin; refine wpList_append_own _ rfl (.tmp 86) (.tmp 88) 72 rfl w2.heap.size 3 i0 _ 1 8 Tryz.underlying72 hi hz0 hz1 hz2 rfl (by decide) v ns.length (ns.map (.int .i64)) rfl (own6.alloc _) ⟨w6.heap.size, 0, none⟩ 1 1 [.int .i64 v3] rfl rfl (Blk.new w6 #[.int .i64 v3] _).news (by simp [Value.oneCell']) (by unfold maxLen; omega) (by omega) (by have := G6.size; simp; omega) ?_; intro v7 w7 own7 gr7 _; obtain ⟨g7, cc7, rfl, -, -, -⟩ := own_shape own7 (by omega); have nb7 : v.ownBlock ≠ some nb := (fun e => by have := (own6.lt _ e).1; omega); have BN7 : Blk w7 nb #[v] 72 := grown_heap gr7 (BN6.alloc _) nb7; have cv7 : w7.cell? ⟨nb, 0, none⟩ = some v := BN7.cell 0; have fz7 := BN7.fz 0; have lb7 := BN7.lt; have G7 := (G6.alloc _).grown gr7 (fun y hy => .inr (own6.lt y hy).1); clear gr7 cv6 BN6)
     have kS := (Chg.refl [nb] w7).setCell (p := ⟨nb, 0, none⟩) (by simp) (.slice (some ⟨g7, 0, none⟩) (ns.length + 1) cc7)
     have BN8 := BN7.set 0 (.slice (some ⟨g7, 0, none⟩) (ns.length + 1) cc7)
     have own8 := own_keep own7 kS (by intro y hy e; simp at hy; subst hy; have := (own7.lt _ e).1; omega)
     have G8 := G7.trans kS (fun y hy => .inl hy)
     clear own7 kS G7 own6 G6 BN7
     go_roundw
     case rel => exact ⟨k + 1, ns ++ [v3], _, by omega, by omega, by go_num, hide (by rw [← unhide HTK]; exact unhide HCH), HI2, hide (by rw [List.length_append, unhide HNL]; simp; omega), BN8, by rw [List.map_append, List.length_append]; exact own8, G8⟩
     case measure => go_light; simp [intOf]; omega
    ·obtain ⟨v', -, hv'⟩ := mapM_each (unhide HMR) (unhide HX)
     rw [numL_long hat hit] at hv'
     cases hv'
   ·obtain ⟨v', -, hv'⟩ := mapM_each (unhide HMR) (unhide HX)
    rw [numL_none hat] at hv'
    cases hv'
  ·have hki : ¬ (k : Int) < (n : Int) := by omega
   have hke : k = n := by omega
   have hrl : r.length = n - 1 := by have := unhide HN; simp at this; omega
   have hns : ns = ms := by
    have h1 := unhide HM
    rw [hke, List.take_of_length_le (by omega), unhide HMR] at h1
    exact (Option.some.inj h1).symm
   subst hns
   obtain ⟨av, cv, rfl, hcv, hN⟩ := own_nmsD hown (unhide HI)
   have lN : wr.cell? ⟨nb, 0, none⟩ = some (.slice av ns.length cv) := BN.cell 0
   have HL1 := hide (show Ln1 w wr lb nb gs os n c w0 ns av cv from ⟨lL, (hG.cell' (p := ⟨gs, os, none⟩) hg (by simp; exact gn)).trans ((unhide HL0).C 0 w0 rfl), lN, hN, llb, lnb, lgs, by omega, Gw⟩)
   have HZN := hide (show w.heap.size ≤ nb ∧ ∀ g o, av = some ⟨g, o, none⟩ → w.heap.size ≤ g from ⟨zn, fun g o e => Nat.le_trans (unhide HL0).G.size (hown.lt g (by rw [e]; rfl)).1⟩)
   clear hke hrl HM HNL hown hG BN BL B2 HL0 HWL HW HN HI hcv hN Gw lN zG
   have ew := unhide HEW
   obtain rfl := unhide HM0
   have HLT := hide (show logT s = ((evs (recsL s.d.l)).flatMap (fun e => sayL (recT e))) ++ sayL wEnd from rfl)
   have B0 := hide (isg (W := wAdd) (t := ⟨#[97, 100, 100]⟩) (many := 2) (q := ([] : List Int).length) ew)
   have B1 := hide (isg (W := wTake) (t := ⟨#[116, 97, 107, 101]⟩) (many := 3) (q := ([] : List Int).length) ew)
   have B2 := hide (isg (W := wRenew) (t := ⟨#[114, 101, 110, 101, 119]⟩) (many := 5) (q := ([] : List Int).length) ew)
   have B3 := hide (isg (W := wDone) (t := ⟨#[100, 111, 110, 101]⟩) (many := 4) (q := ([] : List Int).length) ew)
   have B4 := hide (isg (W := wDrop) (t := ⟨#[100, 114, 111, 112]⟩) (many := 4) (q := ([] : List Int).length) ew)
   have B5 := hide (isg (W := wOpen) (t := ⟨#[111, 112, 101, 110]⟩) (many := 1) (q := ([] : List Int).length) ew)
   have B6 := hide (isg (W := wDown) (t := ⟨#[100, 111, 119, 110]⟩) (many := 1) (q := ([] : List Int).length) ew)
   have B7 := hide (isg (W := wTick) (t := ⟨#[116, 105, 99, 107]⟩) (many := 1) (q := ([] : List Int).length) ew)
   have B8 := hide (isg (W := wJob) (t := ⟨#[106, 111, 98]⟩) (many := 2) (q := ([] : List Int).length) ew)
   have B9 := hide (isg (W := wDisk) (t := ⟨#[100, 105, 115, 107]⟩) (many := 0) (q := ([] : List Int).length) ew)
   have B10 := hide (isb_true (t := { data := #[108, 111, 103] }) (many := 0) (q := (([] : List Int).length : Int)) (ew.trans (strA_toL wLog).symm) (by rfl))
   clear ew
   go_upto_block 2 with fail
   have kA : Chg [] wr (wr.alloc (.cells #[.int .i64 0, .int .i64 0, .int .i64 0, .int .i64 0, .int .i64 0, .int .i64 0, .int .i64 0, .int .i64 0, .int .i64 0] 85)) := (Chg.refl [] wr).alloc _
   have HLA := hide ((unhide HL1).chg kA)
   have BX := Blk.new wr #[.int .i64 0, .int .i64 0, .int .i64 0, .int .i64 0, .int .i64 0, .int .i64 0, .int .i64 0, .int .i64 0, .int .i64 0] 85
   have zx : w.heap.size ≤ wr.heap.size := (unhide HL1).G.size
   clear HL1 kA lL
   generalize wr.alloc (.cells #[.int .i64 0, .int .i64 0, .int .i64 0, .int .i64 0, .int .i64 0, .int .i64 0, .int .i64 0, .int .i64 0, .int .i64 0] 85) = wa at *
   generalize wr.heap.size = xb at *
   have cx0 : wa.cell? ⟨xb, 0, none⟩ = some (.int .i64 0) := BX.cell 0
   have lx := BX.lt
   have HG := hide (unhide HLA).G
   obtain ⟨rs, t, pl⟩ := (unhide HD).c.pl
   have hd := (unhide HD).c.plt.few
   have hfew := pl.few hd
   have HE := hide pl.evOk
   obtain ⟨ua, uc, hu, huc, hby⟩ := sl_byt (unhide HD).c.plt.sl (unhide HD).c.plt.ok
   have HUU := hide hu
   have HBY := hide hby
   obtain ⟨cd, -, cu, -⟩ := see_new (unhide HD) (unhide HUU) (unhide HG)
   clear pl hu hby
   go_wp2_with (go_at_call 42; (first | with_reducible refine ((unhide HLA).is B0).mono ?_ | with_reducible refine ((unhide HLA).is B1).mono ?_ | with_reducible refine ((unhide HLA).is B2).mono ?_ | with_reducible refine ((unhide HLA).is B3).mono ?_ | with_reducible refine ((unhide HLA).is B4).mono ?_ | with_reducible refine ((unhide HLA).is B5).mono ?_ | with_reducible refine ((unhide HLA).is B6).mono ?_ | with_reducible refine ((unhide HLA).is B7).mono ?_ | with_reducible refine ((unhide HLA).is B8).mono ?_ | with_reducible refine ((unhide HLA).is B9).mono ?_ | with_reducible refine ((unhide HLA).is B10).mono ?_); rintro e w' ⟨rfl, hw'⟩; subst w')
   refine (evof_any ua s.d.l.length uc (getB s.d.l) _ (by omega) huc ((unhide HBY).chg (unhide HG))).mono ?_
   rintro e w5 ⟨v5, rfl, own5, g5⟩
   have e0 : (allR s.d.l.length (getB s.d.l)).length = (evs (recsL s.d.l)).length := by rw [evs_len]; rfl
   rw [e0, show evs (allR s.d.l.length (getB s.d.l)) = evs (recsL s.d.l) from rfl] at own5
   generalize hes : evs (recsL s.d.l) = es at *
   clear hes
   have hlow := fun g h => (own5.lt g h).1
   obtain ⟨ae, ce, rfl, -, hF⟩ := own_evs own5 rfl
   have zla : w.heap.size ≤ wa.heap.size := (unhide HG).size
   have HLW := hide (show ∀ b, ae.map (·.block) = some b → w.heap.size ≤ b from fun b hb => by
    refine Nat.le_trans zla (hlow b ?_)
    cases ae with
    | none => cases hb
    | some p => simpa [Value.ownBlock] using hb)
   have HQ5 := hide ((unhide HD).quiet ((unhide HG).trans g5 (by simp)))
   obtain ⟨n2, hn2⟩ : ∃ n2, n2 = es.length := ⟨_, rfl⟩
   rw [← hn2] at hfew hF ⊢
   have HN2 := hide hn2
   have HF := hide hF
   clear hn2 own5 g5 e0 hlow hF
   go_wp2_with fail
   go_loopw [19] (fun i wr => ∃ (k : Nat) (m1 : Cm), k ≤ n2 ∧ i = .int .i64 k ∧ Dn7 W0 w db m wr s (told ++ (es.take k).flatMap (fun e => sayL (recT e))) m1 ∧ Chg [db] w5 wr) (fun i _ => n2 - (intOf i).toNat)
   case atStart => exact ⟨0, _, by omega, rfl, by simpa using unhide HQ5, Chg.refl _ _⟩
   case round =>
    obtain ⟨k, m1, hk, rfl, X, G5⟩ := hrel
    have HX := hide X
    have HG5 := hide G5
    have hzdb := X.k.lt
    by_cases hlt : k < n2
    ·have hki : (k : Int) < (n2 : Int) := by omega
     have hk0 : (0 : Int) ≤ (k : Int) := by omega
     rcases unhide HF with h0 | ⟨bl, off, rfl, hbl, hO⟩
     ·omega
     have nbl : bl ≠ db := by have h9 : w.heap.size ≤ bl := unhide HLW bl rfl; omega
     have lbl : bl < wr.heap.size := Nat.lt_of_lt_of_le hbl G5.size
     have hEv : EvAt wr bl (off + k * 14) (atE es k) := (hO k hlt).chg G5 hbl (by simp; exact nbl)
     have HT := hide (log_take (l := es) (k := k) (by rw [← unhide HN2]; exact hlt))
     have hEk : EvOk (atE es k) := unhide HE _ (List.mem_of_getElem? (atE_some (l := es) (i := k) (by rw [← unhide HN2]; exact hlt)))
     have HTL := hide (show (told ++ (es.take k).flatMap (fun e => sayL (recT e))).length ≤ 950000000 by
      have h1 := log_len (es.take k) (fun e he => unhide HE e (List.mem_of_mem_take he))
      have h2 : (es.take k).length ≤ k := by rw [List.length_take]; omega
      rw [List.length_append]
      omega)
     have HRL := hide (rec_len hEk)
     generalize htk : told ++ (es.take k).flatMap (fun e => sayL (recT e)) = tq at *
     clear hO X G5
     have HTK := hide htk
     clear htk
     generalize atE es k = x at *
     have HEV6 := hide (show ∀ w', Chg [] wr w' → EvAt w' bl (off + k * 14) x from fun w' kk => hEv.chg kk lbl (by simp))
     clear hEv
     go_upto_region 64 with fail
     go_cut [20, 21] from 341 to 351 (fun v u wx => ∃ po pj, v = .pointer (some ⟨po, 0, none⟩) ∧ u = .pointer (some ⟨pj, 0, none⟩) ∧ Blk wx po (oC x) 83 ∧ Blk wx pj (jC x) 99 ∧ Chg [] wr wx ∧ wr.heap.size ≤ po ∧ wr.heap.size ≤ pj)
     case first =>
      refine wp_region_noPanic ?_
      refine wp_region_held_drew (S := (fun w' => EvAt w' bl (off + k * 14) x)) (by kernel_rfl) (unhide HEV6 _ ((Chg.refl [] wr).drew)) (fun hH => ?_)
      refine tk 0 rfl hH ?_
      walk_nrm
      refine tk 1 rfl hH ?_
      walk_nrm
      refine tk 2 rfl hH ?_
      walk_nrm
      refine tk 3 rfl hH ?_
      walk_nrm
      refine tk 4 rfl hH ?_
      walk_nrm
      refine wpAnyH_take (i := 5) (v := _) rfl (by kernel_rfl) (by kernel_rfl) (by kernel_rfl) (fun _ _ _ h => h) (evord_yield (e := x) (fun _ h => h) (by rfl) rfl rfl) hH ?_
      walk_nrm
      refine tk 6 rfl hH ?_
      walk_nrm
      refine tk 7 rfl hH ?_
      walk_nrm
      refine tk 8 rfl hH ?_
      walk_nrm
      refine tk 9 rfl hH ?_
      walk_nrm
      refine wpAnyH_take (i := 10) (v := _) rfl (by kernel_rfl) (by kernel_rfl) (by kernel_rfl) (fun _ _ _ h => h) (evjob_yield (e := x) (fun _ h => h) (by rfl) rfl rfl) hH ?_
      walk_nrm
      have kC : Chg [] wr wr.drew := (Chg.refl [] wr).drew
      generalize wr.drew = wd at *
      refine wpAnyH_ready (rs := [11, 12]) (by kernel_rfl) (by simp) ?_
      refine AllReadyH.cons rfl (fun K hK => ?_) ?_
      ·skip
       rw [if_pos (by rfl)]
       go_simp
       have A := Blk.new wd oZ 83
       have k0 := kC.alloc (.cells oZ 83)
       have zA := kC.size
       obtain ⟨pA, hpA⟩ : ∃ p, p = wd.heap.size := ⟨_, rfl⟩
       rw [← hpA] at A zA ⊢
       clear hpA
       generalize wd.alloc _ = w60 at *
       refine hK.out _ _ ((unhide HEV6 _ k0)) (fun hH2 => ?_)
       clear hK K hH
       have hH := hH2
       clear hH2
       walk_nrm
       clear kC
       have kC := k0
       clear k0
       refine rd 12 rfl (fun K hK => ?_)
       go_simp
       have B := Blk.new w60 jZ 99
       have lo := A.lt
       replace A := A.alloc (.cells jZ 99)
       have k1 := kC.alloc (.cells jZ 99)
       have zB := kC.size
       obtain ⟨pB, hpB⟩ : ∃ p, p = w60.heap.size := ⟨_, rfl⟩
       rw [← hpB] at B zB ⊢
       have nAB : pA ≠ pB := by omega
       clear hpB lo
       generalize w60.alloc _ = w61 at *
       refine hK.out _ _ ((unhide HEV6 _ k1)) (fun hH2 => ?_)
       clear hK K hH
       have hH := hH2
       clear hH2
       walk_nrm
       clear kC
       have kC := k1
       clear k1
       refine rd 13 rfl (fun K hK => ?_)
       refine wp_store_mid 83 _ _ rfl pA 0 (oC x) rfl rfl (A.thereD (Nat.le_of_eq rfl)) (by rw [ordInfoS]; rfl) (by simp [Value.oneCell']) ?_
       have g2 := (Chg.refl [pA] w61).setAll (b := pA) (.inl (by simp)) 0 ((oC x) : Array Value).toList
       replace B := B.chg g2 (by simp; omega)
       replace A := A.wholeD (oC x) rfl
       have k2 := kC.trans g2 (by intro y hy; simp at hy; subst hy; exact .inr zA)
       clear g2
       generalize w61.setCells pA 0 ((oC x) : Array Value).toList = w62 at *
       refine hK.out _ _ ((unhide HEV6 _ k2)) (fun hH2 => ?_)
       clear hK K hH
       have hH := hH2
       clear hH2
       walk_nrm
       clear kC
       have kC := k2
       clear k2
       refine rd 14 rfl (fun K hK => ?_)
       refine wp_store_mid 99 _ _ rfl pB 0 (jC x) rfl rfl (B.thereD (Nat.le_of_eq rfl)) (by rw [jobInfoL]; rfl) (by simp [Value.oneCell']) ?_
       have g3 := (Chg.refl [pB] w62).setAll (b := pB) (.inl (by simp)) 0 ((jC x) : Array Value).toList
       replace A := A.chg g3 (by simp; omega)
       replace B := B.wholeD (jC x) rfl
       have k3 := kC.trans g3 (by intro y hy; simp at hy; subst hy; exact .inr zB)
       clear g3
       generalize w62.setCells pB 0 ((jC x) : Array Value).toList = w63 at *
       refine hK.out _ _ ((unhide HEV6 _ k3)) (fun hH2 => ?_)
       clear hK K hH
       have hH := hH2
       clear hH2
       walk_nrm
       clear kC
       have kC := k3
       clear k3
       refine wpAnyH_done (by kernel_rfl) ?_ _
       refine NoPanic.normal ?_
       clear hH
       go_wp2_with fail
       go_meet
       case rel => exact ⟨_, _, rfl, rfl, A, B, kC, zA, zB⟩
      refine AllReadyH.cons rfl (fun K hK => ?_) AllReadyH.nil
      rw [if_pos (by rfl)]
      go_simp
      have B := Blk.new wd jZ 99
      have k0 := kC.alloc (.cells jZ 99)
      have zB := kC.size
      obtain ⟨pB, hpB⟩ : ∃ p, p = wd.heap.size := ⟨_, rfl⟩
      rw [← hpB] at B zB ⊢
      clear hpB
      generalize wd.alloc _ = w60 at *
      refine hK.out _ _ ((unhide HEV6 _ k0)) (fun hH2 => ?_)
      clear hK K hH
      have hH := hH2
      clear hH2
      walk_nrm
      clear kC
      have kC := k0
      clear k0
      refine rd 11 rfl (fun K hK => ?_)
      go_simp
      have A := Blk.new w60 oZ 83
      have lo := B.lt
      replace B := B.alloc (.cells oZ 83)
      have k1 := kC.alloc (.cells oZ 83)
      have zA := kC.size
      obtain ⟨pA, hpA⟩ : ∃ p, p = w60.heap.size := ⟨_, rfl⟩
      rw [← hpA] at A zA ⊢
      have nAB : pA ≠ pB := by omega
      clear hpA lo
      generalize w60.alloc _ = w61 at *
      refine hK.out _ _ ((unhide HEV6 _ k1)) (fun hH2 => ?_)
      clear hK K hH
      have hH := hH2
      clear hH2
      walk_nrm
      clear kC
      have kC := k1
      clear k1
      refine rd 13 rfl (fun K hK => ?_)
      refine wp_store_mid 83 _ _ rfl pA 0 (oC x) rfl rfl (A.thereD (Nat.le_of_eq rfl)) (by rw [ordInfoS]; rfl) (by simp [Value.oneCell']) ?_
      have g2 := (Chg.refl [pA] w61).setAll (b := pA) (.inl (by simp)) 0 ((oC x) : Array Value).toList
      replace B := B.chg g2 (by simp; omega)
      replace A := A.wholeD (oC x) rfl
      have k2 := kC.trans g2 (by intro y hy; simp at hy; subst hy; exact .inr zA)
      clear g2
      generalize w61.setCells pA 0 ((oC x) : Array Value).toList = w62 at *
      refine hK.out _ _ ((unhide HEV6 _ k2)) (fun hH2 => ?_)
      clear hK K hH
      have hH := hH2
      clear hH2
      walk_nrm
      clear kC
      have kC := k2
      clear k2
      refine rd 14 rfl (fun K hK => ?_)
      refine wp_store_mid 99 _ _ rfl pB 0 (jC x) rfl rfl (B.thereD (Nat.le_of_eq rfl)) (by rw [jobInfoL]; rfl) (by simp [Value.oneCell']) ?_
      have g3 := (Chg.refl [pB] w62).setAll (b := pB) (.inl (by simp)) 0 ((jC x) : Array Value).toList
      replace A := A.chg g3 (by simp; omega)
      replace B := B.wholeD (jC x) rfl
      have k3 := kC.trans g3 (by intro y hy; simp at hy; subst hy; exact .inr zB)
      clear g3
      generalize w62.setCells pB 0 ((jC x) : Array Value).toList = w63 at *
      refine hK.out _ _ ((unhide HEV6 _ k3)) (fun hH2 => ?_)
      clear hK K hH
      have hH := hH2
      clear hH2
      walk_nrm
      clear kC
      have kC := k3
      clear k3
      refine wpAnyH_done (by kernel_rfl) ?_ _
      refine NoPanic.normal ?_
      clear hH
      go_wp2_with fail
      go_meet
      case rel => exact ⟨_, _, rfl, rfl, A, B, kC, zA, zB⟩
     case rest =>
      obtain ⟨po, pj, rfl, rfl, A, B, KC, zpo, zpj⟩ := hcut
      have lpo := A.lt
      have lpj := B.lt
      have HS65 := hide (show ∀ w', Chg [] wc w' → (S65 bl (off + k * 14) po pj x) w' from fun w' kk => by
       have A' := A.chg kk (by simp)
       have B' := B.chg kk (by simp)
       exact ⟨unhide HEV6 _ (KC.trans kk (by simp)) 0 _ rfl, A'.cell 0, A'.cell 1, A'.cell 2, A'.cell 3, A'.cell 4, A'.cell 5, B'.cell 0, B'.cell 1, B'.cell 2, B'.cell 3⟩)
      obtain ⟨l1, hl1⟩ : ∃ l, l = listL wRecord [x.r.ep, x.r.o.k, x.r.o.now, x.r.o.jb, x.r.o.tr, x.r.o.wk, x.r.o.tm] := ⟨_, rfl⟩
      obtain ⟨l2, hl2⟩ : ∃ l, l = listL (32 :: wJob) [x.j.st, x.j.wk, x.j.tr, x.j.un] := ⟨_, rfl⟩
      have hre : recT x = l1 ++ l2 := by rw [hl1, hl2]; rfl
      have z1 := strA_size l1
      have z2 := strA_size l2
      have hadd : strA l1 ++ strA l2 = strA (recT x) := by rw [strA_app, hre]
      have hb1 : ¬ 9223372036854775807 < l1.length + l2.length := by have := unhide HRL; rw [hre, List.length_append] at this; omega
      have HQ1 := hide hl1
      have HQ2 := hide hl2
      clear hre A B hl1 hl2
      go_upto_region 65 with fail
      refine wp_region_noPanic ?_
      refine wp_region_held_drew (S := (S65 bl (off + k * 14) po pj x)) (by kernel_rfl) (unhide HS65 _ ((Chg.refl [] wc).drew)) (fun hH => ?_)
      refine tk 0 rfl hH ?_
      walk_nrm
      refine tk 1 rfl hH ?_
      walk_nrm
      refine tk 2 rfl hH ?_
      walk_nrm
      refine tk 3 rfl hH ?_
      walk_nrm
      refine tk 4 rfl hH ?_
      walk_nrm
      refine tk 5 rfl hH ?_
      walk_nrm
      refine tk 6 rfl hH ?_
      walk_nrm
      refine tk 7 rfl hH ?_
      walk_nrm
      refine tk 8 rfl hH ?_
      walk_nrm
      refine tk 9 rfl hH ?_
      walk_nrm
      refine tk 10 rfl hH ?_
      walk_nrm
      refine tk 11 rfl hH ?_
      walk_nrm
      refine tk 12 rfl hH ?_
      walk_nrm
      refine tk 13 rfl hH ?_
      walk_nrm
      refine tk 14 rfl hH ?_
      walk_nrm
      refine tk 15 rfl hH ?_
      walk_nrm
      refine tk 16 rfl hH ?_
      walk_nrm
      refine tk 17 rfl hH ?_
      walk_nrm
      refine tk 18 rfl hH ?_
      walk_nrm
      refine tk 21 rfl hH ?_
      walk_nrm
      refine tk 22 rfl hH ?_
      walk_nrm
      refine tk 23 rfl hH ?_
      walk_nrm
      refine tk 24 rfl hH ?_
      walk_nrm
      refine tk 25 rfl hH ?_
      walk_nrm
      refine tk 26 rfl hH ?_
      walk_nrm
      refine tk 27 rfl hH ?_
      walk_nrm
      refine tk 28 rfl hH ?_
      walk_nrm
      have kC : Chg [] wc wc.drew := (Chg.refl [] wc).drew
      generalize wc.drew = wd at *
      refine wpAnyH_ready (rs := [19, 29]) (by kernel_rfl) (by simp) ?_
      refine AllReadyH.cons rfl (fun K hK => ?_) ?_
      ·skip
       rw [if_pos (by rfl)]
       go_simp
       have N7 := nms_seven hEk (Blk.new wd (rC x) 3)
       have k0 := kC.alloc (.cells (rC x) 3)
       obtain ⟨qN7, hq⟩ : ∃ q, q = wd.heap.size := ⟨_, rfl⟩
       rw [← hq] at N7 ⊢
       clear hq
       generalize wd.alloc _ = w70 at *
       refine hK.out _ _ (unhide HS65 _ k0) (fun hH2 => ?_)
       clear hK K hH
       have hH := hH2
       clear hH2
       walk_nrm
       clear kC
       have kC := k0
       clear k0
       refine wpAnyH_ready (rs := [20, 29]) (by kernel_rfl) (by simp) ?_
       refine AllReadyH.cons rfl (fun K hK => ?_) ?_
       ·skip
        rw [if_pos (by rfl)]
        go_simp
        refine (list_any wRecord _ 7 7 [x.r.ep, x.r.o.k, x.r.o.now, x.r.o.jb, x.r.o.tr, x.r.o.wk, x.r.o.tm] _ rfl (by omega) (by decide) N7 ((unhide HV0).chg ((unhide HX).k.c.ch.trans (KC.trans kC (by simp)) (by simp)))).mono ?_
        rintro e w71 ⟨rfl, g1⟩
        have k1 := kC.trans g1 (by simp)
        clear N7
        clear g1
        rw [← unhide HQ1]
        refine hK.out _ _ (unhide HS65 _ k1) (fun hH2 => ?_)
        clear hK K hH
        have hH := hH2
        clear hH2
        walk_nrm
        clear kC
        have kC := k1
        clear k1
        refine rd 29 rfl (fun K hK => ?_)
        go_simp
        have N4 := nms_blk (j := x.j) ⟨hEk.2.2.1.i64, hEk.2.2.2.1.i64, hEk.2.2.2.2.1.i64, hEk.2.2.2.2.2.i64⟩ (Blk.new w71 (jC x) 3)
        have k2 := kC.alloc (.cells (jC x) 3)
        obtain ⟨qN4, hq⟩ : ∃ q, q = w71.heap.size := ⟨_, rfl⟩
        rw [← hq] at N4 ⊢
        clear hq
        generalize w71.alloc _ = w72 at *
        refine hK.out _ _ (unhide HS65 _ k2) (fun hH2 => ?_)
        clear hK K hH
        have hH := hH2
        clear hH2
        walk_nrm
        clear kC
        have kC := k2
        clear k2
        refine rd 30 rfl (fun K hK => ?_)
        go_simp
        refine (list_any (32 :: wJob) _ 4 4 [x.j.st, x.j.wk, x.j.tr, x.j.un] _ rfl (by omega) (by decide) N4 ((unhide HV0).chg ((unhide HX).k.c.ch.trans (KC.trans kC (by simp)) (by simp)))).mono ?_
        rintro e w73 ⟨rfl, g3⟩
        have k3 := kC.trans g3 (by simp)
        clear N4
        clear g3
        rw [← unhide HQ2]
        refine hK.out _ _ (unhide HS65 _ k3) (fun hH2 => ?_)
        clear hK K hH
        have hH := hH2
        clear hH2
        walk_nrm
        clear kC
        have kC := k3
        clear k3
        refine tk (v := .string (strA (recT x))) 31 rfl hH ?_ (hz := by intro W' hSw; (try dsimp only at hSw); go_simp; (try rw [hadd]); (try simp [z1, z2, hb1]); try with_reducible rfl)
        walk_nrm
        refine rd 32 rfl (fun K hK => ?_)
        go_simp
        refine (say_any db m.cb tq (recT x) _ (by have := Blk.chg (unhide HX).k.d (KC.trans kC (by simp)) (by simp); rw [(unhide HX).cb] at this; exact this) (by have h1 := unhide HTL; have h2 := unhide HRL; omega)).mono ?_
        rintro e w9 ⟨rfl, dE, gE⟩
        refine hK.out _ _ (s65_keep hH gE (Nat.lt_of_lt_of_le lbl (KC.trans kC (by simp)).size) (Nat.lt_of_lt_of_le lpo kC.size) (Nat.lt_of_lt_of_le lpj kC.size) nbl (by omega) (by omega)) (fun hH2 => ?_)
        clear hK K hH
        have hH := hH2
        clear hH2
        walk_nrm
        refine wpAnyH_done (by kernel_rfl) ?_ _
        refine NoPanic.normal ?_
        clear hH
        go_wp2
        go_roundw
        case rel => exact ⟨k + 1, _, by omega, by go_num, by rw [unhide HT, ← List.append_assoc, unhide HTK]; exact (unhide HX).tells (KC.trans kC (by simp)) dE gE, ((unhide HG5).trans ((KC.trans kC (by simp)).wide (cs := [db]) (by simp)) (fun y hy => .inl hy)).trans gE (fun y hy => .inl hy)⟩
        case measure => go_light; simp [intOf]; omega
       refine AllReadyH.cons rfl (fun K hK => ?_) AllReadyH.nil
       rw [if_pos (by rfl)]
       go_simp
       have N4 := nms_blk (j := x.j) ⟨hEk.2.2.1.i64, hEk.2.2.2.1.i64, hEk.2.2.2.2.1.i64, hEk.2.2.2.2.2.i64⟩ (Blk.new w70 (jC x) 3)
       have k1 := kC.alloc (.cells (jC x) 3)
       replace N7 := N7.chg ((Chg.refl [] w70).alloc (.cells (jC x) 3))
       obtain ⟨qN4, hq⟩ : ∃ q, q = w70.heap.size := ⟨_, rfl⟩
       rw [← hq] at N4 ⊢
       clear hq
       generalize w70.alloc _ = w71 at *
       refine hK.out _ _ (unhide HS65 _ k1) (fun hH2 => ?_)
       clear hK K hH
       have hH := hH2
       clear hH2
       walk_nrm
       clear kC
       have kC := k1
       clear k1
       refine rd 20 rfl (fun K hK => ?_)
       go_simp
       refine (list_any wRecord _ 7 7 [x.r.ep, x.r.o.k, x.r.o.now, x.r.o.jb, x.r.o.tr, x.r.o.wk, x.r.o.tm] _ rfl (by omega) (by decide) N7 ((unhide HV0).chg ((unhide HX).k.c.ch.trans (KC.trans kC (by simp)) (by simp)))).mono ?_
       rintro e w72 ⟨rfl, g2⟩
       have k2 := kC.trans g2 (by simp)
       clear N7
       replace N4 := N4.chg g2
       clear g2
       rw [← unhide HQ1]
       refine hK.out _ _ (unhide HS65 _ k2) (fun hH2 => ?_)
       clear hK K hH
       have hH := hH2
       clear hH2
       walk_nrm
       clear kC
       have kC := k2
       clear k2
       refine rd 30 rfl (fun K hK => ?_)
       go_simp
       refine (list_any (32 :: wJob) _ 4 4 [x.j.st, x.j.wk, x.j.tr, x.j.un] _ rfl (by omega) (by decide) N4 ((unhide HV0).chg ((unhide HX).k.c.ch.trans (KC.trans kC (by simp)) (by simp)))).mono ?_
       rintro e w73 ⟨rfl, g3⟩
       have k3 := kC.trans g3 (by simp)
       clear N4
       clear g3
       rw [← unhide HQ2]
       refine hK.out _ _ (unhide HS65 _ k3) (fun hH2 => ?_)
       clear hK K hH
       have hH := hH2
       clear hH2
       walk_nrm
       clear kC
       have kC := k3
       clear k3
       refine tk (v := .string (strA (recT x))) 31 rfl hH ?_ (hz := by intro W' hSw; (try dsimp only at hSw); go_simp; (try rw [hadd]); (try simp [z1, z2, hb1]); try with_reducible rfl)
       walk_nrm
       refine rd 32 rfl (fun K hK => ?_)
       go_simp
       refine (say_any db m.cb tq (recT x) _ (by have := Blk.chg (unhide HX).k.d (KC.trans kC (by simp)) (by simp); rw [(unhide HX).cb] at this; exact this) (by have h1 := unhide HTL; have h2 := unhide HRL; omega)).mono ?_
       rintro e w9 ⟨rfl, dE, gE⟩
       refine hK.out _ _ (s65_keep hH gE (Nat.lt_of_lt_of_le lbl (KC.trans kC (by simp)).size) (Nat.lt_of_lt_of_le lpo kC.size) (Nat.lt_of_lt_of_le lpj kC.size) nbl (by omega) (by omega)) (fun hH2 => ?_)
       clear hK K hH
       have hH := hH2
       clear hH2
       walk_nrm
       refine wpAnyH_done (by kernel_rfl) ?_ _
       refine NoPanic.normal ?_
       clear hH
       go_wp2
       go_roundw
       case rel => exact ⟨k + 1, _, by omega, by go_num, by rw [unhide HT, ← List.append_assoc, unhide HTK]; exact (unhide HX).tells (KC.trans kC (by simp)) dE gE, ((unhide HG5).trans ((KC.trans kC (by simp)).wide (cs := [db]) (by simp)) (fun y hy => .inl hy)).trans gE (fun y hy => .inl hy)⟩
       case measure => go_light; simp [intOf]; omega
      refine AllReadyH.cons rfl (fun K hK => ?_) AllReadyH.nil
      rw [if_pos (by rfl)]
      go_simp
      have N4 := nms_blk (j := x.j) ⟨hEk.2.2.1.i64, hEk.2.2.2.1.i64, hEk.2.2.2.2.1.i64, hEk.2.2.2.2.2.i64⟩ (Blk.new wd (jC x) 3)
      have k0 := kC.alloc (.cells (jC x) 3)
      obtain ⟨qN4, hq⟩ : ∃ q, q = wd.heap.size := ⟨_, rfl⟩
      rw [← hq] at N4 ⊢
      clear hq
      generalize wd.alloc _ = w70 at *
      refine hK.out _ _ (unhide HS65 _ k0) (fun hH2 => ?_)
      clear hK K hH
      have hH := hH2
      clear hH2
      walk_nrm
      clear kC
      have kC := k0
      clear k0
      refine rd 19 rfl (fun K hK => ?_)
      go_simp
      have N7 := nms_seven hEk (Blk.new w70 (rC x) 3)
      have k1 := kC.alloc (.cells (rC x) 3)
      replace N4 := N4.chg ((Chg.refl [] w70).alloc (.cells (rC x) 3))
      obtain ⟨qN7, hq⟩ : ∃ q, q = w70.heap.size := ⟨_, rfl⟩
      rw [← hq] at N7 ⊢
      clear hq
      generalize w70.alloc _ = w71 at *
      refine hK.out _ _ (unhide HS65 _ k1) (fun hH2 => ?_)
      clear hK K hH
      have hH := hH2
      clear hH2
      walk_nrm
      clear kC
      have kC := k1
      clear k1
      refine rd 20 rfl (fun K hK => ?_)
      go_simp
      refine (list_any wRecord _ 7 7 [x.r.ep, x.r.o.k, x.r.o.now, x.r.o.jb, x.r.o.tr, x.r.o.wk, x.r.o.tm] _ rfl (by omega) (by decide) N7 ((unhide HV0).chg ((unhide HX).k.c.ch.trans (KC.trans kC (by simp)) (by simp)))).mono ?_
      rintro e w72 ⟨rfl, g2⟩
      have k2 := kC.trans g2 (by simp)
      clear N7
      replace N4 := N4.chg g2
      clear g2
      rw [← unhide HQ1]
      refine hK.out _ _ (unhide HS65 _ k2) (fun hH2 => ?_)
      clear hK K hH
      have hH := hH2
      clear hH2
      walk_nrm
      clear kC
      have kC := k2
      clear k2
      refine rd 30 rfl (fun K hK => ?_)
      go_simp
      refine (list_any (32 :: wJob) _ 4 4 [x.j.st, x.j.wk, x.j.tr, x.j.un] _ rfl (by omega) (by decide) N4 ((unhide HV0).chg ((unhide HX).k.c.ch.trans (KC.trans kC (by simp)) (by simp)))).mono ?_
      rintro e w73 ⟨rfl, g3⟩
      have k3 := kC.trans g3 (by simp)
      clear N4
      clear g3
      rw [← unhide HQ2]
      refine hK.out _ _ (unhide HS65 _ k3) (fun hH2 => ?_)
      clear hK K hH
      have hH := hH2
      clear hH2
      walk_nrm
      clear kC
      have kC := k3
      clear k3
      refine tk (v := .string (strA (recT x))) 31 rfl hH ?_ (hz := by intro W' hSw; (try dsimp only at hSw); go_simp; (try rw [hadd]); (try simp [z1, z2, hb1]); try with_reducible rfl)
      walk_nrm
      refine rd 32 rfl (fun K hK => ?_)
      go_simp
      refine (say_any db m.cb tq (recT x) _ (by have := Blk.chg (unhide HX).k.d (KC.trans kC (by simp)) (by simp); rw [(unhide HX).cb] at this; exact this) (by have h1 := unhide HTL; have h2 := unhide HRL; omega)).mono ?_
      rintro e w9 ⟨rfl, dE, gE⟩
      refine hK.out _ _ (s65_keep hH gE (Nat.lt_of_lt_of_le lbl (KC.trans kC (by simp)).size) (Nat.lt_of_lt_of_le lpo kC.size) (Nat.lt_of_lt_of_le lpj kC.size) nbl (by omega) (by omega)) (fun hH2 => ?_)
      clear hK K hH
      have hH := hH2
      clear hH2
      walk_nrm
      refine wpAnyH_done (by kernel_rfl) ?_ _
      refine NoPanic.normal ?_
      clear hH
      go_wp2
      go_roundw
      case rel => exact ⟨k + 1, _, by omega, by go_num, by rw [unhide HT, ← List.append_assoc, unhide HTK]; exact (unhide HX).tells (KC.trans kC (by simp)) dE gE, ((unhide HG5).trans ((KC.trans kC (by simp)).wide (cs := [db]) (by simp)) (fun y hy => .inl hy)).trans gE (fun y hy => .inl hy)⟩
      case measure => go_light; simp [intOf]; omega
    ·have hki : ¬ (k : Int) < (n2 : Int) := by omega
     have HT := hide (show es.take k = es by rw [show k = es.length by rw [← unhide HN2]; omega, List.take_length])
     have HTL := hide (show (told ++ (es.take k).flatMap (fun e => sayL (recT e))).length ≤ 950000000 by
      have h1 := log_len (es.take k) (fun e he => unhide HE e (List.mem_of_mem_take he))
      have h2 : (es.take k).length ≤ k := by rw [List.length_take]; omega
      rw [List.length_append]
      omega)
     clear X G5
     go_wp2_with fail
     refine (say_any db m.cb (told ++ (es.take k).flatMap (fun e => sayL (recT e))) wEnd _ (by have := (unhide HX).k.d; rw [(unhide HX).cb] at this; exact this) (by have := unhide HTL; simp [wEnd]; simp at this; omega)).mono ?_
     rintro e w9 ⟨rfl, dE, gE⟩
     go_wp2
     (try simp only [Exit.inBlock, Exit.then])
     (first
      | refine bodyPost_end (results_none rfl _ _ _) rfl ?_
      | refine bodyPost_ret (results_none rfl _ _ _) rfl ?_)
     have Y := (unhide HX).tells (Chg.refl [] wr) dE gE
     rw [unhide HT, List.append_assoc] at Y
     rw [unhide HLT]
     exact ⟨rfl, _, Y⟩
end Go.Proofs.YtllnjiljjodfdacGreatDoor
