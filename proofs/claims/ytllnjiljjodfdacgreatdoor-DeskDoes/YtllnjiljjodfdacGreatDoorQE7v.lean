/-
 The document's own line: a torn order. Nothing here is claimed by itself.
-/
import Derived.Test.YtllnjiljjodfdacGreatDoorQE7s
import Derived.Test.YtllnjiljjodfdacGreatDoorQgE7t
namespace Go.Proofs.YtllnjiljjodfdacGreatDoor
open Go.RowKit

set_option maxRecDepth 100000 in
set_option maxHeartbeats 8000000 in
theorem line_tstep (W0 : World) (db : Nat) (m : Cm) (s : Gd) (told l : List UInt8) (w : World) (h : Dk7 W0 w db m s told) (hl : l.length ≤ 900000) (ht : told.length ≤ 900000000) (hv : Vars W0) (kw w0 : List UInt8) (r : List (List UInt8)) (hw : wordsL l = wTear :: kw :: w0 :: r) (keep : Int) (hk : numL kw = some keep) (ms : List Int) (hm : r.mapM numL = some ms) (x0 x : Sp) (hs : stepW w0 ms true = some x0) (hx : x = ⟨3, x0.n, keep, x0.o⟩) :
  Calls Tryz.prog 19 #[.pointer (some ⟨db, 0, none⟩), .string (strA l)] w fun e w' => e = .returned (.tuple #[]) ∧ ∃ m', Dn7 W0 w db m w' ((stepG s x).1, sayL (ansT (stepG s x).2 false)).1 (told ++ ((stepG s x).1, sayL (ansT (stepG s x).2 false)).2) m' := by
 have HD := hide h
 have HV := hide (hv.chg h.c.ch)
 have zdb := h.lt
 have HV0 := hide hv
 clear h hv
 have HK := hide hk
 have HMR := hide hm
 have HXX := hide hx
 clear hk hm hx
 have HW := hide hw
 have HWL := hide (show ∀ x ∈ w0 :: r, x.length ≤ 1000000 from fun x hx => by have := wordsF_wordE l [] x (by have e : wordsF [] l = _ := hw; rw [e]; exact List.mem_cons_of_mem _ (List.mem_cons_of_mem _ hx)); simp at this; omega)
 have hkl : kw.length ≤ 1000000 := by have := wordsF_wordE l [] kw (by have e : wordsF [] l = _ := hw; rw [e]; simp); simp at this; omega
 have hn6 : (wTear :: kw :: w0 :: r).length ≤ 900001 := by rw [← hw]; exact Nat.le_trans (wordsF_len l []) (by omega)
 have ctear : ((strA wTear).toList == [116, 101, 97, 114]) = true := by rw [strA_toL]; rfl
 clear hw
 go_enter Tryz.func19, Tryz.ntmps19
 go_wp2_with fail
 refine (words_at l _ (by omega)).mono ?_
 rintro e w1 ⟨a, c, rfl, hc, hS, g1⟩
 rw [unhide HW] at hc hS ⊢
 obtain ⟨q, hq⟩ : ∃ q, q = r.length := ⟨_, rfl⟩
 have hq3 : (wTear :: kw :: w0 :: r).length = q + 3 := by rw [hq]; rfl
 rw [hq3] at hc hn6 ⊢
 obtain ⟨d, rfl⟩ : ∃ d, c = d + 3 := ⟨c - 3, by omega⟩
 have HQ := hide hq
 clear hq hq3
 rcases hS with h0 | ⟨gs, os, rfl, hgs, hcell⟩
 ·cases h0
 have p0 : w1.cell? ⟨gs, os, none⟩ = some (.string (strA wTear)) := hcell 0 wTear rfl
 have p1 : w1.cell? ⟨gs, os + 1, none⟩ = some (.string (strA kw)) := hcell 1 kw rfl
 have HCELL := hide hcell
 clear hcell
 have n0 : ((q : Int) + 3 == 0) = false := by simp; omega
 have n0' : (0 : Int) < (q : Int) + 3 := by omega
 have d3 : decide ((q : Int) + 3 < 3) = false := by simp; omega
 have n1' : (1 : Int) < (q : Int) + 3 := by omega
 go_wp2_with fail
 clear ctear p0 p1 n0 n0' d3 n1'
 have kl : Chg [] w (w1.alloc (.cells #[.slice (some ⟨gs, os, none⟩) (q + 3) (d + 3)] 22)) := g1.alloc _
 refine (atoi_any kw _ (by omega) ((unhide HV).chg kl)).mono ?_
 rintro e w3 ⟨v3, ev, rfl, g3, hres⟩
 have Gw3 := kl.trans g3 (by simp)
 have BL3 : Blk w3 w1.heap.size #[.slice (some ⟨gs, os, none⟩) (q + 3) (d + 3)] 22 := (Blk.new w1 _ _).chg g3 (by simp)
 have k13 : Chg [] w1 w3 := ((Chg.refl [] w1).alloc _).trans g3 (by simp)
 have HC3 := hide (show ∀ i x, (wTear :: kw :: w0 :: r)[i]? = some x → w3.cell? ⟨gs, os + i, none⟩ = some (.string (strA x)) from fun i x hx => (k13.cell' (p := ⟨gs, os + i, none⟩) hgs (by simp)).trans (unhide HCELL i x hx))
 have lgs3 := Nat.lt_of_lt_of_le hgs k13.size
 have zl : w.heap.size ≤ w1.heap.size := g1.size
 have gl : gs ≠ w1.heap.size := by omega
 clear g1 g3 k13 HCELL kl hgs
 obtain ⟨lb, hlb⟩ : ∃ lb, lb = w1.heap.size := ⟨_, rfl⟩
 rw [← hlb] at BL3 zl gl ⊢
 clear hlb
 have cx3 := unhide HC3 1 kw rfl
 have hS0 : w3.drew.cell? ⟨lb, 0, none⟩ = some (.slice (some ⟨gs, os, none⟩) (q + 3) (d + 3)) ∧ w3.drew.cell? ⟨gs, os + 1, none⟩ = some (.string (strA kw)) := ⟨BL3.cell 0, cx3⟩
 have HSN := hide (show ∀ w', Chg [] w3.drew w' → w'.cell? ⟨lb, 0, none⟩ = some (.slice (some ⟨gs, os, none⟩) (q + 3) (d + 3)) ∧ w'.cell? ⟨gs, os + 1, none⟩ = some (.string (strA kw)) from fun w' g => ⟨by rw [g.cell' (p := ⟨lb, 0, none⟩) BL3.lt (by simp)]; exact hS0.1, by rw [g.cell' (p := ⟨gs, os + 1, none⟩) lgs3 (by simp)]; exact hS0.2⟩)
 have HVd := hide ((unhide HV).chg (Gw3.drew))
 have n1' : (1 : Int) < (q : Int) + 3 := by omega
 have n1'' : 1 < q + 3 := by omega
 rcases hres with ⟨hat, rfl⟩ | ⟨hat, t, p, rfl⟩
 ·have hv64 := atoi_bd hat
  by_cases hit : Lib.itoa v3 = kw
  ·have hcmp : ((strA (Lib.itoa v3)).toList == (strA kw).toList) = true := by rw [strA_toL, strA_toL, hit]; simp
   obtain rfl : v3 = keep := by have := numL_some hat hit; rw [unhide HK] at this; exact (Option.some.inj this).symm
   clear hat hit
   go_wp2_with fail
   refine wp_region_noPanic ?_
   refine wp_region_held_drew (S := (fun w' => w'.cell? ⟨lb, 0, none⟩ = some (.slice (some ⟨gs, os, none⟩) (q + 3) (d + 3)) ∧ w'.cell? ⟨gs, os + 1, none⟩ = some (.string (strA kw)))) (by kernel_rfl) hS0 (fun hH => ?_)
   refine tk 0 rfl hH ?_
   walk_nrm
   refine tk (v := .bool false) 1 rfl hH ?_ (hz := by intro W' hSw; (try dsimp only at hSw); go_simp; (try simp); try with_reducible rfl)
   walk_nrm
   refine tk 2 rfl hH ?_
   walk_nrm
   refine tk 3 rfl hH ?_
   walk_nrm
   refine tk 5 rfl hH ?_
   walk_nrm
   refine tk 6 rfl hH ?_
   walk_nrm
   refine tk 7 rfl hH ?_
   walk_nrm
   refine rd 4 rfl (fun K hK => ?_)
   go_simp
   refine (num_any v3 _ hv64 (unhide HVd)).mono ?_
   rintro e w6 ⟨rfl, g6⟩
   refine hK.out _ _ (unhide HSN w6 g6) (fun hH2 => ?_)
   clear hK K hH
   have hH := hH2
   clear hH2
   walk_nrm
   refine tk (v := .bool false) 8 rfl hH ?_ (hz := by intro W' hSw; (try dsimp only at hSw); go_simp; (try simp [hcmp]); try with_reducible rfl)
   walk_nrm
   refine tk 9 rfl hH ?_
   walk_nrm
   refine wpAnyH_done (by kernel_rfl) ?_ _
   refine NoPanic.normal ?_
   clear hH
   have BL6 := BL3.chg (((Chg.refl [] w3).drew).trans g6 (by simp)) (by simp)
   have G6 := Gw3.drew.trans g6 (by simp)
   have cl6 : w6.cell? ⟨lb, 0, none⟩ = some (.slice (some ⟨gs, os, none⟩) (q + 3) (d + 3)) := BL6.cell 0
   have f6 := BL6.fz 0
   have l6 := BL6.lt
   clear hS0 cx3 hcmp
   go_upto_region 12 with fail
   have k7 := (Chg.refl [lb] w6).setCell (p := ⟨lb, 0, none⟩) (by simp) (.slice (some ⟨gs, os + 2, none⟩) (q + 1) (d + 1))
   have BL7 := BL6.set 0 (.slice (some ⟨gs, os + 2, none⟩) (q + 1) (d + 1))
   have G7 := G6.trans k7 (by intro y hy; simp at hy; subst hy; exact .inr zl)
   have k36 : Chg [] w3 w6 := ((Chg.refl [] w3).drew).trans g6 (by simp)
   have lgs6 := Nat.lt_of_lt_of_le lgs3 k36.size
   have HC7 := hide (show ∀ i x, (w0 :: r)[i]? = some x → (w6.setCell ⟨lb, 0, none⟩ (.slice (some ⟨gs, os + 2, none⟩) (q + 1) (d + 1))).cell? ⟨gs, os + 2 + i, none⟩ = some (.string (strA x)) from fun i x hx => (k7.cell' (p := ⟨gs, os + 2 + i, none⟩) lgs6 (by simp; exact gl)).trans ((k36.cell' (p := ⟨gs, os + 2 + i, none⟩) lgs3 (by simp)).trans (by rw [Nat.add_assoc, Nat.add_comm 2 i]; exact unhide HC3 (i + 2) x (by simpa using hx))))
   have lgs7 := Nat.lt_of_lt_of_le lgs6 k7.size
   clear k7 k36 G6 BL6 cl6 f6 l6 BL3 Gw3 g6 HSN HVd HC3 lgs3 lgs6 hv64
   change Code.wp _ _ _ _ (w6.setCell ⟨lb, 0, none⟩ (.slice (some ⟨gs, os + 2, none⟩) (q + 1) (d + 1)))
   generalize w6.setCell ⟨lb, 0, none⟩ (.slice (some ⟨gs, os + 2, none⟩) (q + 1) (d + 1)) = w7 at *
   go_wp2_with fail
   have k8 := (Chg.refl [] w7).alloc (.cells #[.slice none 0 0] 72)
   have z7 := G7.size
   have lb7 := BL7.lt
   have L0 : Ln0 w (w7.alloc (.cells #[.slice none 0 0] 72)) lb w7.heap.size gs (os + 2) (q + 1) (d + 1) w0 r := ⟨BL7.alloc _, Blk.new w7 _ _, by rw [unhide HQ]; rfl, by simp; omega, gl, by omega, by omega, zl, z7, fun i x hx => (k8.cell' (p := ⟨gs, os + 2 + i, none⟩) lgs7 (by simp)).trans (unhide HC7 i x hx), G7.trans k8 (by simp)⟩
   clear k8 z7 lb7 BL7 G7 lgs7 HC7 zl gl
   generalize w7.alloc (.cells #[.slice none 0 0] 72) = w2 at *
   obtain ⟨nb, hnb⟩ : ∃ nb, nb = w7.heap.size := ⟨_, rfl⟩
   obtain ⟨n, hn⟩ : ∃ n, n = q + 1 := ⟨_, rfl⟩
   obtain ⟨c, hcc⟩ : ∃ c, c = d + 1 := ⟨_, rfl⟩
   obtain ⟨os, hos⟩ : ∃ os', os' = os + 2 := ⟨_, rfl⟩
   rw [← hnb] at L0 ⊢
   rw [← hn, ← hcc, ← hos] at L0
   have hn1 : 1 ≤ n := by omega
   have hn6 : n ≤ 900001 := by omega
   have HN := hide L0.hn
   have HL0 := hide L0
   clear L0 hnb hn hcc hos hc
   obtain ⟨i0, hi, hz0, hz1, hz2⟩ := kInfoParts intInfoC
   obtain ⟨B2, N2, -, hg, gl, gn, ln, zl, zn, -, -⟩ := unhide HL0
   go_loopw [10] (fun i wr => LI17 r w2 nb n i wr) (fun i _ => n - (intOf i).toNat)
   case atStart => exact ⟨1, [], _, by omega, hn1, rfl, hide rfl, hide (by simp), hide rfl, N2, World.ownsRow_nil _ _ _ _, Chg.refl _ _⟩
   case round =>
    have lnb2 := N2.lt
    clear N2
    obtain ⟨k, ns, v, hk1, hkn, rfl, HM, HI, HNL, BN, hown, hG⟩ := hrel
    have hnbd : ns.length ≤ 1000001 := by have := unhide HNL; omega
    have BL := B2.chg hG (by simp; exact ln)
    have lL : wr.cell? ⟨lb, 0, none⟩ = some (.slice (some ⟨gs, os, none⟩) n c) := BL.cell 0
    have llb := BL.lt
    have lnb := BN.lt
    have zG := hG.size
    have Gw : Chg [] w wr := (unhide HL0).G.trans hG (by intro x hx; simp at hx; subst hx; exact .inr zn)
    have lgs : gs < wr.heap.size := by omega
    by_cases hlt : k < n
    ·have hki : (k : Int) < (n : Int) := by omega
     have hk0 : (0 : Int) ≤ (k : Int) := by omega
     obtain ⟨x, hx⟩ : ∃ x, (w0 :: r)[k]? = some x := ⟨_, List.getElem?_eq_getElem (by rw [← unhide HN]; exact hlt)⟩
     have hxr : r[k - 1]? = some x := by obtain ⟨q, rfl⟩ : ∃ q, k = q + 1 := ⟨k - 1, by omega⟩; simpa using hx
     have cx : wr.cell? ⟨gs, os + k, none⟩ = some (.string (strA x)) := by rw [hG.cell' (p := ⟨gs, os + k, none⟩) hg (by simp; exact gn)]; exact (unhide HL0).C k x hx
     have hxl : x.length ≤ 1000000 := unhide HWL x (List.mem_of_getElem? hx)
     have HX := hide hxr
     clear hx hxr
     go_wp2_with fail
     refine (atoi_any x _ (by omega) ((unhide HV).chg Gw)).mono ?_
     rintro e w3 ⟨v3, ev, rfl, g3, hres⟩
     have Gw3 := Gw.trans g3 (by simp)
     have HV3 := hide ((unhide HV).chg Gw3)
     have BL3 := BL.chg g3 (by simp)
     have BN3 := BN.chg g3 (by simp)
     have own3 := own_chg hown g3
     have G3 := hG.trans (g3.wide (cs := [nb]) (by simp)) (fun y hy => .inl hy)
     have cx3 : w3.cell? ⟨gs, os + k, none⟩ = some (.string (strA x)) := by rw [g3.cell' lgs (by simp)]; exact cx
     have lgs3 := Nat.lt_of_lt_of_le lgs g3.size
     clear lL cx BL BN hown g3 Gw hG
     have hS0 : S17 lb gs os n c k x w3.drew := ⟨BL3.cell 0, cx3⟩
     have HSN := hide (show ∀ w', Chg [] w3.drew w' → S17 lb gs os n c k x w' from fun w' g => ⟨by rw [g.cell' (p := ⟨lb, 0, none⟩) BL3.lt (by simp)]; exact hS0.1, by rw [g.cell' (p := ⟨gs, os + k, none⟩) lgs3 (by simp)]; exact hS0.2⟩)
     have HVd := hide ((unhide HV3).chg ((Chg.refl [] w3).drew))
     rcases hres with ⟨hat, rfl⟩ | ⟨hat, t, p, rfl⟩
     ·have hv64 := atoi_bd hat
      by_cases hit : Lib.itoa v3 = x
      ·have hcmp : ((strA (Lib.itoa v3)).toList == (strA x).toList) = true := by rw [strA_toL, strA_toL, hit]; simp
       have HNUM := hide (numL_some hat hit)
       clear hat hit
       go_wp2_with fail
       refine wp_region_noPanic ?_
       refine wp_region_held_drew (S := (fun w' => S17 lb gs os n c k x w')) (by kernel_rfl) hS0 (fun hH => ?_)
       refine tk 0 rfl hH ?_
       walk_nrm
       refine tk (v := .bool false) 1 rfl hH ?_ (hz := by intro W' hSw; (try dsimp only at hSw); go_simp; (try simp); try with_reducible rfl)
       walk_nrm
       refine tk 2 rfl hH ?_
       walk_nrm
       refine tk 3 rfl hH ?_
       walk_nrm
       refine tk 5 rfl hH ?_
       walk_nrm
       refine tk 6 rfl hH ?_
       walk_nrm
       refine tk 7 rfl hH ?_
       walk_nrm
       refine tk 8 rfl hH ?_
       walk_nrm
       refine rd 4 rfl (fun K hK => ?_)
       go_simp
       refine (num_any v3 _ hv64 (unhide HVd)).mono ?_
       rintro e w6 ⟨rfl, g6⟩
       refine hK.out _ _ (unhide HSN w6 g6) (fun hH2 => ?_)
       clear hK K hH
       have hH := hH2
       clear hH2
       walk_nrm
       refine tk (v := .bool false) 9 rfl hH ?_ (hz := by intro W' hSw; (try dsimp only at hSw); go_simp; (try simp [hcmp]); try with_reducible rfl)
       walk_nrm
       refine tk 10 rfl hH ?_
       walk_nrm
       refine wpAnyH_done (by kernel_rfl) ?_ _
       refine NoPanic.normal ?_
       clear hH
       have GV6 := Gw3.drew.trans g6 (by simp)
       have BN6 := Blk.chg (show Blk w3.drew nb #[v] 72 from BN3) g6 (by simp)
       have own6 := own_chg (show w3.drew.ownsRow _ _ _ _ _ _ from own3) g6
       have G6 := (G3.drew).trans (g6.wide (cs := [nb]) (by simp)) (fun y hy => .inl hy)
       have cv6 : w6.cell? ⟨nb, 0, none⟩ = some v := BN6.cell 0
       have lb6 := BN6.lt
       have HCH := hide (mapM_snoc (unhide HM) (unhide HNUM))
       have HTK := hide (show r.take (k - 1) ++ [x] = r.take (k + 1 - 1) by rw [show k + 1 - 1 = (k - 1) + 1 by omega, List.take_add_one, unhide HX]; rfl)
       have hI := unhide HI
       have HI2 := hide (show ∀ y ∈ ns ++ [v3], I64 y from fun y hy => by rcases List.mem_append.1 hy with hy | hy; exact hI y hy; simp at hy; subst hy; exact hv64)
       clear hI BN3 own3 G3 g6 hS0
       go_wp2_with (at_builtin; refine wpList_append_own _ rfl (.tmp 86) (.tmp 88) 72 rfl w2.heap.size 3 i0 _ 1 8 Tryz.underlying72 hi hz0 hz1 hz2 rfl (by decide) v ns.length (ns.map (.int .i64)) rfl (own6.alloc _) ⟨w6.heap.size, 0, none⟩ 1 1 [.int .i64 v3] rfl rfl (Blk.new w6 #[.int .i64 v3] _).news (by simp [Value.oneCell']) (by unfold maxLen; omega) (by omega) (by have := G6.size; simp; omega) ?_; intro v7 w7 own7 gr7 _; obtain ⟨g7, cc7, rfl, -, -, -⟩ := own_shape own7 (by omega); have nb7 : v.ownBlock ≠ some nb := (fun e => by have := (own6.lt _ e).1; omega); have BN7 : Blk w7 nb #[v] 72 := grown_heap gr7 (BN6.alloc _) nb7; have cv7 : w7.cell? ⟨nb, 0, none⟩ = some v := BN7.cell 0; have fz7 := BN7.fz 0; have lb7 := BN7.lt; have G7 := (G6.alloc _).grown gr7 (fun y hy => .inr (own6.lt y hy).1); clear gr7 cv6 BN6)
       have kS := (Chg.refl [nb] w7).setCell (p := ⟨nb, 0, none⟩) (by simp) (.slice (some ⟨g7, 0, none⟩) (ns.length + 1) cc7)
       have BN8 := BN7.set 0 (.slice (some ⟨g7, 0, none⟩) (ns.length + 1) cc7)
       have own8 := own_keep own7 kS (by intro y hy e; simp at hy; subst hy; have := (own7.lt _ e).1; omega)
       have G8 := G7.trans kS (fun y hy => .inl hy)
       clear own7 kS G7 own6 G6 BN7
       go_roundw
       case rel => exact ⟨k + 1, ns ++ [v3], _, by omega, by omega, by go_num, hide (by rw [← unhide HTK]; exact unhide HCH), HI2, hide (by rw [List.length_append, unhide HNL]; simp; omega), BN8, by rw [List.map_append, List.length_append]; exact own8, G8⟩
       case measure => go_light; simp [intOf]; omega
      ·obtain ⟨v', -, hv'⟩ := mapM_each (unhide HMR) (unhide HX)
       rw [numL_long hat hit] at hv'
       cases hv'
     ·obtain ⟨v', -, hv'⟩ := mapM_each (unhide HMR) (unhide HX)
      rw [numL_none hat] at hv'
      cases hv'
    ·have hki : ¬ (k : Int) < (n : Int) := by omega
     have hke : k = n := by omega
     have hrl : r.length = n - 1 := by have := unhide HN; simp at this; omega
     have hns : ns = ms := by
      have h1 := unhide HM
      rw [hke, List.take_of_length_le (by omega), unhide HMR] at h1
      exact (Option.some.inj h1).symm
     subst hns
     obtain ⟨av, cv, rfl, hcv, hN⟩ := own_nmsD hown (unhide HI)
     have lN : wr.cell? ⟨nb, 0, none⟩ = some (.slice av ns.length cv) := BN.cell 0
     have HL1 := hide (show Ln1 w wr lb nb gs os n c w0 ns av cv from ⟨lL, (hG.cell' (p := ⟨gs, os, none⟩) hg (by simp; exact gn)).trans ((unhide HL0).C 0 w0 rfl), lN, hN, llb, lnb, lgs, by omega, Gw⟩)
     clear hke hrl HM HNL hown hG BN BL B2 HL0 HWL HW HN HI hcv hN Gw lN zG
     go_upto_block 2 with fail
     have kA : Chg [] wr (wr.alloc (.cells #[.int .i64 0, .int .i64 0, .int .i64 0, .int .i64 0, .int .i64 0, .int .i64 0, .int .i64 0, .int .i64 0, .int .i64 0] 85)) := (Chg.refl [] wr).alloc _
     have HLA := hide ((unhide HL1).chg kA)
     have BX := Blk.new wr #[.int .i64 0, .int .i64 0, .int .i64 0, .int .i64 0, .int .i64 0, .int .i64 0, .int .i64 0, .int .i64 0, .int .i64 0] 85
     have HKA := hide kA
     obtain ⟨xb, hxb⟩ : ∃ xb, xb = wr.heap.size := ⟨_, rfl⟩
     have zx : w.heap.size ≤ xb := by rw [hxb]; exact (unhide HL1).G.size
     rw [← hxb] at BX ⊢
     have HXB := hide hxb
     clear kA lL hxb
     generalize wr.alloc (.cells #[.int .i64 0, .int .i64 0, .int .i64 0, .int .i64 0, .int .i64 0, .int .i64 0, .int .i64 0, .int .i64 0, .int .i64 0] 85) = wa at *
     have lx := BX.lt
     go_cut [] from 92 to 179 (fun wx => Blk wx xb #[.int .i64 x0.k, .int .i64 0, .int .i64 0, .int .i64 x0.o.k, .int .i64 x0.o.now, .int .i64 x0.o.jb, .int .i64 x0.o.tr, .int .i64 x0.o.wk, .int .i64 x0.o.tm] 85 ∧ Ln1 w wx lb nb gs os n c w0 ns av cv)
     case first =>
      rcases stepW_some hs with ⟨ew, y0, y1, rfl, rfl⟩ | ⟨ew, y0, y1, y2, rfl, rfl⟩ | ⟨ew, y0, y1, y2, y3, y4, rfl, rfl⟩ | ⟨ew, y0, y1, y2, y3, rfl, rfl⟩ | ⟨ew, y0, y1, y2, y3, rfl, rfl⟩ | ⟨-, ht, -⟩ | ⟨-, ht, -⟩ | ⟨-, ht, -⟩
      ·clear hs
       have B0 := hide (isb_true (t := { data := #[97, 100, 100] }) (many := 2) (q := (([y0, y1].length : Nat) : Int)) (ew.trans (strA_toL wAdd).symm) (by rfl))
       obtain ⟨-, h0 | ⟨g, off, rfl, hg, hc⟩⟩ := (unhide HLA).nm
       ·cases h0
       have e0 := hc 0 y0 rfl
       have e1 := hc 1 y1 rfl
       have vN : wa.cell? ⟨nb, 0, none⟩ = some (.slice (some ⟨g, off, none⟩) 2 cv) := (unhide HLA).V
       clear hc ew
       go_wp2_with (first | (go_at_call 42; (first | with_reducible refine ((unhide HLA).is B0).mono ?_); rintro e w' ⟨rfl, hw'⟩; subst w') | (refine wpList_store_mid rfl 85 (.tmp 14) (.tmp 99) rfl xb 0 #[.int .i64 2, .int .i64 0, .int .i64 0, .int .i64 1, .int .i64 0, .int .i64 y1, .int .i64 0, .int .i64 0, .int .i64 0] rfl rfl ?ht (by rw [spInfoD]; rfl) (by simp [Value.oneCell']) ?_; (case ht => exact BX.thereD (Nat.le_of_eq rfl)); have B9 := BX.wholeD #[.int .i64 2, .int .i64 0, .int .i64 0, .int .i64 1, .int .i64 0, .int .i64 y1, .int .i64 0, .int .i64 0, .int .i64 0] rfl; have K9 := (Chg.refl [xb] wa).setAll (b := xb) (.inl (by simp)) 0 (#[.int .i64 2, .int .i64 0, .int .i64 0, .int .i64 1, .int .i64 0, .int .i64 y1, .int .i64 0, .int .i64 0, .int .i64 0] : Array Value).toList; generalize wa.setCells xb 0 (#[.int .i64 2, .int .i64 0, .int .i64 0, .int .i64 1, .int .i64 0, .int .i64 y1, .int .i64 0, .int .i64 0, .int .i64 0] : Array Value).toList = w9 at B9 K9 ⊢))
       have HG9 := (unhide HKA).trans K9 (by intro y hy; simp at hy; subst hy; exact .inr (Nat.le_of_eq (unhide HXB).symm))
       clear K9
       go_meet
       case rel => exact ⟨B9, (unhide HL1).chg HG9⟩
      ·clear hs
       have B0 := hide (isg (W := wAdd) (t := ⟨#[97, 100, 100]⟩) (many := 2) (q := [y0, y1, y2].length) ew)
       have B1 := hide (isb_true (t := { data := #[116, 97, 107, 101] }) (many := 3) (q := (([y0, y1, y2].length : Nat) : Int)) (ew.trans (strA_toL wTake).symm) (by rfl))
       obtain ⟨-, h0 | ⟨g, off, rfl, hg, hc⟩⟩ := (unhide HLA).nm
       ·cases h0
       have e0 := hc 0 y0 rfl
       have e1 := hc 1 y1 rfl
       have e2 := hc 2 y2 rfl
       have vN : wa.cell? ⟨nb, 0, none⟩ = some (.slice (some ⟨g, off, none⟩) 3 cv) := (unhide HLA).V
       clear hc ew
       go_upto_region 25 with (go_at_call 42; (first | with_reducible refine ((unhide HLA).is B0).mono ?_ | with_reducible refine ((unhide HLA).is B1).mono ?_); rintro e w' ⟨rfl, hw'⟩; subst w')
       refine wp_region_noPanic ?_
       refine wp_region_held_drew (S := (fun w' => w'.cell? ⟨nb, 0, none⟩ = some (.slice (some ⟨g, off, none⟩) 3 cv) ∧ w'.cell? ⟨g, off + 1, none⟩ = some (.int .i64 y1) ∧ w'.cell? ⟨g, off + 2, none⟩ = some (.int .i64 y2))) (by kernel_rfl) (show _ ∧ _ ∧ _ from ⟨vN, e1, e2⟩) (fun hH => ?_)
       refine tk 0 rfl hH ?_
       walk_nrm
       refine tk 1 rfl hH ?_
       walk_nrm
       refine tk 2 rfl hH ?_
       walk_nrm
       refine tk 3 rfl hH ?_
       walk_nrm
       refine tk 4 rfl hH ?_
       walk_nrm
       refine tk 5 rfl hH ?_
       walk_nrm
       refine tk 6 rfl hH ?_
       walk_nrm
       refine tk 7 rfl hH ?_
       walk_nrm
       refine rd 8 rfl (fun K hK => ?_)
       refine wp_store_mid 85 _ _ rfl xb 0 #[.int .i64 2, .int .i64 0, .int .i64 0, .int .i64 2, .int .i64 0, .int .i64 0, .int .i64 0, .int .i64 y1, .int .i64 y2] rfl rfl (Blk.thereD (show Blk wa.drew _ _ _ from BX) (Nat.le_of_eq rfl)) (by rw [spInfoD]; rfl) (by simp [Value.oneCell']) ?_
       have BXd : Blk wa.drew xb _ 85 := BX
       have KAd : Chg [] wr wa.drew := (unhide HKA).drew
       have B9 := BXd.wholeD #[.int .i64 2, .int .i64 0, .int .i64 0, .int .i64 2, .int .i64 0, .int .i64 0, .int .i64 0, .int .i64 y1, .int .i64 y2] rfl
       have K9 := (Chg.refl [xb] wa.drew).setAll (b := xb) (.inl (by simp)) 0 (#[.int .i64 2, .int .i64 0, .int .i64 0, .int .i64 2, .int .i64 0, .int .i64 0, .int .i64 0, .int .i64 y1, .int .i64 y2] : Array Value).toList
       have HG9 := KAd.trans K9 (by intro y hy; simp at hy; subst hy; exact .inr (Nat.le_of_eq (unhide HXB).symm))
       clear K9
       generalize wa.drew.setCells xb 0 (#[.int .i64 2, .int .i64 0, .int .i64 0, .int .i64 2, .int .i64 0, .int .i64 0, .int .i64 0, .int .i64 y1, .int .i64 y2] : Array Value).toList = w9 at B9 HG9 ⊢
       have L9 := (unhide HL1).chg HG9
       obtain ⟨-, h0 | ⟨g', off', eg, -, hc'⟩⟩ := L9.nm
       ·cases h0
       cases eg
       refine hK.out _ _ ⟨L9.V, hc' 1 y1 rfl, hc' 2 y2 rfl⟩ (fun hH2 => ?_)
       clear hK K hH
       have hH := hH2
       clear hH2
       walk_nrm
       refine wpAnyH_done (by kernel_rfl) ?_ _
       refine NoPanic.normal ?_
       clear hH
       go_wp2_with fail
       go_meet
       case rel => exact ⟨B9, (unhide HL1).chg HG9⟩
      ·clear hs
       have B0 := hide (isg (W := wAdd) (t := ⟨#[97, 100, 100]⟩) (many := 2) (q := [y0, y1, y2, y3, y4].length) ew)
       have B1 := hide (isg (W := wTake) (t := ⟨#[116, 97, 107, 101]⟩) (many := 3) (q := [y0, y1, y2, y3, y4].length) ew)
       have B2 := hide (isb_true (t := { data := #[114, 101, 110, 101, 119] }) (many := 5) (q := (([y0, y1, y2, y3, y4].length : Nat) : Int)) (ew.trans (strA_toL wRenew).symm) (by rfl))
       obtain ⟨-, h0 | ⟨g, off, rfl, hg, hc⟩⟩ := (unhide HLA).nm
       ·cases h0
       have e0 := hc 0 y0 rfl
       have e1 := hc 1 y1 rfl
       have e2 := hc 2 y2 rfl
       have e3 := hc 3 y3 rfl
       have e4 := hc 4 y4 rfl
       have vN : wa.cell? ⟨nb, 0, none⟩ = some (.slice (some ⟨g, off, none⟩) 5 cv) := (unhide HLA).V
       clear hc ew
       go_upto_region 27 with (go_at_call 42; (first | with_reducible refine ((unhide HLA).is B0).mono ?_ | with_reducible refine ((unhide HLA).is B1).mono ?_ | with_reducible refine ((unhide HLA).is B2).mono ?_); rintro e w' ⟨rfl, hw'⟩; subst w')
       refine wp_region_noPanic ?_
       refine wp_region_held_drew (S := (fun w' => w'.cell? ⟨nb, 0, none⟩ = some (.slice (some ⟨g, off, none⟩) 5 cv) ∧ w'.cell? ⟨g, off + 1, none⟩ = some (.int .i64 y1) ∧ w'.cell? ⟨g, off + 2, none⟩ = some (.int .i64 y2) ∧ w'.cell? ⟨g, off + 3, none⟩ = some (.int .i64 y3) ∧ w'.cell? ⟨g, off + 4, none⟩ = some (.int .i64 y4))) (by kernel_rfl) (show _ ∧ _ ∧ _ ∧ _ ∧ _ from ⟨vN, e1, e2, e3, e4⟩) (fun hH => ?_)
       refine tk 0 rfl hH ?_
       walk_nrm
       refine tk 1 rfl hH ?_
       walk_nrm
       refine tk 2 rfl hH ?_
       walk_nrm
       refine tk 3 rfl hH ?_
       walk_nrm
       refine tk 4 rfl hH ?_
       walk_nrm
       refine tk 5 rfl hH ?_
       walk_nrm
       refine tk 6 rfl hH ?_
       walk_nrm
       refine tk 7 rfl hH ?_
       walk_nrm
       refine tk 8 rfl hH ?_
       walk_nrm
       refine tk 9 rfl hH ?_
       walk_nrm
       refine tk 10 rfl hH ?_
       walk_nrm
       refine tk 11 rfl hH ?_
       walk_nrm
       refine tk 12 rfl hH ?_
       walk_nrm
       refine tk 13 rfl hH ?_
       walk_nrm
       refine rd 14 rfl (fun K hK => ?_)
       refine wp_store_mid 85 _ _ rfl xb 0 #[.int .i64 2, .int .i64 0, .int .i64 0, .int .i64 3, .int .i64 0, .int .i64 y1, .int .i64 y2, .int .i64 y3, .int .i64 y4] rfl rfl (Blk.thereD (show Blk wa.drew _ _ _ from BX) (Nat.le_of_eq rfl)) (by rw [spInfoD]; rfl) (by simp [Value.oneCell']) ?_
       have BXd : Blk wa.drew xb _ 85 := BX
       have KAd : Chg [] wr wa.drew := (unhide HKA).drew
       have B9 := BXd.wholeD #[.int .i64 2, .int .i64 0, .int .i64 0, .int .i64 3, .int .i64 0, .int .i64 y1, .int .i64 y2, .int .i64 y3, .int .i64 y4] rfl
       have K9 := (Chg.refl [xb] wa.drew).setAll (b := xb) (.inl (by simp)) 0 (#[.int .i64 2, .int .i64 0, .int .i64 0, .int .i64 3, .int .i64 0, .int .i64 y1, .int .i64 y2, .int .i64 y3, .int .i64 y4] : Array Value).toList
       have HG9 := KAd.trans K9 (by intro y hy; simp at hy; subst hy; exact .inr (Nat.le_of_eq (unhide HXB).symm))
       clear K9
       generalize wa.drew.setCells xb 0 (#[.int .i64 2, .int .i64 0, .int .i64 0, .int .i64 3, .int .i64 0, .int .i64 y1, .int .i64 y2, .int .i64 y3, .int .i64 y4] : Array Value).toList = w9 at B9 HG9 ⊢
       have L9 := (unhide HL1).chg HG9
       obtain ⟨-, h0 | ⟨g', off', eg, -, hc'⟩⟩ := L9.nm
       ·cases h0
       cases eg
       refine hK.out _ _ ⟨L9.V, hc' 1 y1 rfl, hc' 2 y2 rfl, hc' 3 y3 rfl, hc' 4 y4 rfl⟩ (fun hH2 => ?_)
       clear hK K hH
       have hH := hH2
       clear hH2
       walk_nrm
       refine wpAnyH_done (by kernel_rfl) ?_ _
       refine NoPanic.normal ?_
       clear hH
       go_wp2_with fail
       go_meet
       case rel => exact ⟨B9, (unhide HL1).chg HG9⟩
      ·clear hs
       have B0 := hide (isg (W := wAdd) (t := ⟨#[97, 100, 100]⟩) (many := 2) (q := [y0, y1, y2, y3].length) ew)
       have B1 := hide (isg (W := wTake) (t := ⟨#[116, 97, 107, 101]⟩) (many := 3) (q := [y0, y1, y2, y3].length) ew)
       have B2 := hide (isg (W := wRenew) (t := ⟨#[114, 101, 110, 101, 119]⟩) (many := 5) (q := [y0, y1, y2, y3].length) ew)
       have B3 := hide (isb_true (t := { data := #[100, 111, 110, 101] }) (many := 4) (q := (([y0, y1, y2, y3].length : Nat) : Int)) (ew.trans (strA_toL wDone).symm) (by rfl))
       obtain ⟨-, h0 | ⟨g, off, rfl, hg, hc⟩⟩ := (unhide HLA).nm
       ·cases h0
       have e0 := hc 0 y0 rfl
       have e1 := hc 1 y1 rfl
       have e2 := hc 2 y2 rfl
       have e3 := hc 3 y3 rfl
       have vN : wa.cell? ⟨nb, 0, none⟩ = some (.slice (some ⟨g, off, none⟩) 4 cv) := (unhide HLA).V
       clear hc ew
       go_upto_region 29 with (go_at_call 42; (first | with_reducible refine ((unhide HLA).is B0).mono ?_ | with_reducible refine ((unhide HLA).is B1).mono ?_ | with_reducible refine ((unhide HLA).is B2).mono ?_ | with_reducible refine ((unhide HLA).is B3).mono ?_); rintro e w' ⟨rfl, hw'⟩; subst w')
       refine wp_region_noPanic ?_
       refine wp_region_held_drew (S := (fun w' => w'.cell? ⟨nb, 0, none⟩ = some (.slice (some ⟨g, off, none⟩) 4 cv) ∧ w'.cell? ⟨g, off + 1, none⟩ = some (.int .i64 y1) ∧ w'.cell? ⟨g, off + 2, none⟩ = some (.int .i64 y2) ∧ w'.cell? ⟨g, off + 3, none⟩ = some (.int .i64 y3))) (by kernel_rfl) (show _ ∧ _ ∧ _ ∧ _ from ⟨vN, e1, e2, e3⟩) (fun hH => ?_)
       refine tk 0 rfl hH ?_
       walk_nrm
       refine tk 1 rfl hH ?_
       walk_nrm
       refine tk 2 rfl hH ?_
       walk_nrm
       refine tk 3 rfl hH ?_
       walk_nrm
       refine tk 4 rfl hH ?_
       walk_nrm
       refine tk 5 rfl hH ?_
       walk_nrm
       refine tk 6 rfl hH ?_
       walk_nrm
       refine tk 7 rfl hH ?_
       walk_nrm
       refine tk 8 rfl hH ?_
       walk_nrm
       refine tk 9 rfl hH ?_
       walk_nrm
       refine tk 10 rfl hH ?_
       walk_nrm
       refine rd 11 rfl (fun K hK => ?_)
       refine wp_store_mid 85 _ _ rfl xb 0 #[.int .i64 2, .int .i64 0, .int .i64 0, .int .i64 4, .int .i64 0, .int .i64 y1, .int .i64 y2, .int .i64 y3, .int .i64 0] rfl rfl (Blk.thereD (show Blk wa.drew _ _ _ from BX) (Nat.le_of_eq rfl)) (by rw [spInfoD]; rfl) (by simp [Value.oneCell']) ?_
       have BXd : Blk wa.drew xb _ 85 := BX
       have KAd : Chg [] wr wa.drew := (unhide HKA).drew
       have B9 := BXd.wholeD #[.int .i64 2, .int .i64 0, .int .i64 0, .int .i64 4, .int .i64 0, .int .i64 y1, .int .i64 y2, .int .i64 y3, .int .i64 0] rfl
       have K9 := (Chg.refl [xb] wa.drew).setAll (b := xb) (.inl (by simp)) 0 (#[.int .i64 2, .int .i64 0, .int .i64 0, .int .i64 4, .int .i64 0, .int .i64 y1, .int .i64 y2, .int .i64 y3, .int .i64 0] : Array Value).toList
       have HG9 := KAd.trans K9 (by intro y hy; simp at hy; subst hy; exact .inr (Nat.le_of_eq (unhide HXB).symm))
       clear K9
       generalize wa.drew.setCells xb 0 (#[.int .i64 2, .int .i64 0, .int .i64 0, .int .i64 4, .int .i64 0, .int .i64 y1, .int .i64 y2, .int .i64 y3, .int .i64 0] : Array Value).toList = w9 at B9 HG9 ⊢
       have L9 := (unhide HL1).chg HG9
       obtain ⟨-, h0 | ⟨g', off', eg, -, hc'⟩⟩ := L9.nm
       ·cases h0
       cases eg
       refine hK.out _ _ ⟨L9.V, hc' 1 y1 rfl, hc' 2 y2 rfl, hc' 3 y3 rfl⟩ (fun hH2 => ?_)
       clear hK K hH
       have hH := hH2
       clear hH2
       walk_nrm
       refine wpAnyH_done (by kernel_rfl) ?_ _
       refine NoPanic.normal ?_
       clear hH
       go_wp2_with fail
       go_meet
       case rel => exact ⟨B9, (unhide HL1).chg HG9⟩
      ·clear hs
       have B0 := hide (isg (W := wAdd) (t := ⟨#[97, 100, 100]⟩) (many := 2) (q := [y0, y1, y2, y3].length) ew)
       have B1 := hide (isg (W := wTake) (t := ⟨#[116, 97, 107, 101]⟩) (many := 3) (q := [y0, y1, y2, y3].length) ew)
       have B2 := hide (isg (W := wRenew) (t := ⟨#[114, 101, 110, 101, 119]⟩) (many := 5) (q := [y0, y1, y2, y3].length) ew)
       have B3 := hide (isg (W := wDone) (t := ⟨#[100, 111, 110, 101]⟩) (many := 4) (q := [y0, y1, y2, y3].length) ew)
       have B4 := hide (isb_true (t := { data := #[100, 114, 111, 112] }) (many := 4) (q := (([y0, y1, y2, y3].length : Nat) : Int)) (ew.trans (strA_toL wDrop).symm) (by rfl))
       obtain ⟨-, h0 | ⟨g, off, rfl, hg, hc⟩⟩ := (unhide HLA).nm
       ·cases h0
       have e0 := hc 0 y0 rfl
       have e1 := hc 1 y1 rfl
       have e2 := hc 2 y2 rfl
       have e3 := hc 3 y3 rfl
       have vN : wa.cell? ⟨nb, 0, none⟩ = some (.slice (some ⟨g, off, none⟩) 4 cv) := (unhide HLA).V
       clear hc ew
       go_upto_region 31 with (go_at_call 42; (first | with_reducible refine ((unhide HLA).is B0).mono ?_ | with_reducible refine ((unhide HLA).is B1).mono ?_ | with_reducible refine ((unhide HLA).is B2).mono ?_ | with_reducible refine ((unhide HLA).is B3).mono ?_ | with_reducible refine ((unhide HLA).is B4).mono ?_); rintro e w' ⟨rfl, hw'⟩; subst w')
       refine wp_region_noPanic ?_
       refine wp_region_held_drew (S := (fun w' => w'.cell? ⟨nb, 0, none⟩ = some (.slice (some ⟨g, off, none⟩) 4 cv) ∧ w'.cell? ⟨g, off + 1, none⟩ = some (.int .i64 y1) ∧ w'.cell? ⟨g, off + 2, none⟩ = some (.int .i64 y2) ∧ w'.cell? ⟨g, off + 3, none⟩ = some (.int .i64 y3))) (by kernel_rfl) (show _ ∧ _ ∧ _ ∧ _ from ⟨vN, e1, e2, e3⟩) (fun hH => ?_)
       refine tk 0 rfl hH ?_
       walk_nrm
       refine tk 1 rfl hH ?_
       walk_nrm
       refine tk 2 rfl hH ?_
       walk_nrm
       refine tk 3 rfl hH ?_
       walk_nrm
       refine tk 4 rfl hH ?_
       walk_nrm
       refine tk 5 rfl hH ?_
       walk_nrm
       refine tk 6 rfl hH ?_
       walk_nrm
       refine tk 7 rfl hH ?_
       walk_nrm
       refine tk 8 rfl hH ?_
       walk_nrm
       refine tk 9 rfl hH ?_
       walk_nrm
       refine tk 10 rfl hH ?_
       walk_nrm
       refine rd 11 rfl (fun K hK => ?_)
       refine wp_store_mid 85 _ _ rfl xb 0 #[.int .i64 2, .int .i64 0, .int .i64 0, .int .i64 5, .int .i64 0, .int .i64 y1, .int .i64 y2, .int .i64 y3, .int .i64 0] rfl rfl (Blk.thereD (show Blk wa.drew _ _ _ from BX) (Nat.le_of_eq rfl)) (by rw [spInfoD]; rfl) (by simp [Value.oneCell']) ?_
       have BXd : Blk wa.drew xb _ 85 := BX
       have KAd : Chg [] wr wa.drew := (unhide HKA).drew
       have B9 := BXd.wholeD #[.int .i64 2, .int .i64 0, .int .i64 0, .int .i64 5, .int .i64 0, .int .i64 y1, .int .i64 y2, .int .i64 y3, .int .i64 0] rfl
       have K9 := (Chg.refl [xb] wa.drew).setAll (b := xb) (.inl (by simp)) 0 (#[.int .i64 2, .int .i64 0, .int .i64 0, .int .i64 5, .int .i64 0, .int .i64 y1, .int .i64 y2, .int .i64 y3, .int .i64 0] : Array Value).toList
       have HG9 := KAd.trans K9 (by intro y hy; simp at hy; subst hy; exact .inr (Nat.le_of_eq (unhide HXB).symm))
       clear K9
       generalize wa.drew.setCells xb 0 (#[.int .i64 2, .int .i64 0, .int .i64 0, .int .i64 5, .int .i64 0, .int .i64 y1, .int .i64 y2, .int .i64 y3, .int .i64 0] : Array Value).toList = w9 at B9 HG9 ⊢
       have L9 := (unhide HL1).chg HG9
       obtain ⟨-, h0 | ⟨g', off', eg, -, hc'⟩⟩ := L9.nm
       ·cases h0
       cases eg
       refine hK.out _ _ ⟨L9.V, hc' 1 y1 rfl, hc' 2 y2 rfl, hc' 3 y3 rfl⟩ (fun hH2 => ?_)
       clear hK K hH
       have hH := hH2
       clear hH2
       walk_nrm
       refine wpAnyH_done (by kernel_rfl) ?_ _
       refine NoPanic.normal ?_
       clear hH
       go_wp2_with fail
       go_meet
       case rel => exact ⟨B9, (unhide HL1).chg HG9⟩
      ·cases ht
      ·cases ht
      ·cases ht
     case rest =>
      obtain ⟨BC, L9⟩ := hcut
      obtain ⟨hk0, hkeep, rr, hns⟩ := stepW_head hs
      obtain ⟨-, h0 | ⟨g, off, rfl, hg, hc⟩⟩ := L9.nm
      ·rw [hns] at h0; cases h0
      have e0 : wc.cell? ⟨g, off, none⟩ = some (.int .i64 x0.n) := hc 0 x0.n (by rw [hns]; rfl)
      have vN : wc.cell? ⟨nb, 0, none⟩ = some (.slice (some ⟨g, off, none⟩) ns.length cv) := L9.V
      obtain ⟨q, hq⟩ : ∃ q, q = ns.length := ⟨_, rfl⟩
      rw [← hq] at vN
      have q1 : 0 < ns.length := by rw [hns]; simp
      have q0 : (0 : Int) < (q : Int) := by omega
      have q0' : 0 < q := by omega
      have b0 : wc.cell? ⟨xb, 0, none⟩ = some (.int .i64 x0.k) := BC.cell 0
      have b1 : wc.cell? ⟨xb, 1, none⟩ = some (.int .i64 0) := BC.cell 1
      have b3 : wc.cell? ⟨xb, 3, none⟩ = some (.int .i64 x0.o.k) := BC.cell 3
      have f1 := BC.fz 1
      have lxc := BC.lt
      have c0 : (x0.k != 0) = true := by simpa using hk0
      have kD : Chg [] w (wc.setCell ⟨xb, 1, none⟩ (.int .i64 x0.n)) := L9.G.trans ((Chg.refl [xb] wc).setCell (p := ⟨xb, 1, none⟩) (by simp) (.int .i64 x0.n)) (by intro y hy; simp at hy; subst hy; exact .inr zx)
      have BD : Blk (wc.setCell ⟨xb, 1, none⟩ (.int .i64 x0.n)) xb (spC x0) 85 := by
       have := BC.set 1 (.int .i64 x0.n)
       unfold spC
       rw [hkeep]
       exact this
      have hA : AnOk (stepG s x).2 := by
       obtain ⟨rs, t, pl⟩ := (unhide HD).c.pl
       exact step_ok pl x
      clear hc hg hns hq q1 hkeep hk0 L9 BC HLA HL1 BX HKA HXB lx hs
      go_upto_region 40 with fail
      have b3' : (wc.setCell ⟨xb, 1, none⟩ (.int .i64 x0.n)).cell? ⟨xb, 3, none⟩ = some (.int .i64 x0.o.k) := BD.cell 3
      generalize wc.setCell ⟨xb, 1, none⟩ (.int .i64 x0.n) = wd at *
      clear e0 vN q0 q0' b0 b1 b3 f1 lxc c0
      have lD := BD.lt
      have c00 : wd.cell? ⟨xb, 0, none⟩ = some (.int .i64 x0.k) := BD.cell 0
      have c02 : wd.cell? ⟨xb, 2, none⟩ = some (.int .i64 x0.keep) := BD.cell 2
      have f00 := BD.fz 0
      have f02 := BD.fz 2
      go_cut [15] from 187 to 194 (fun v wx => v = .bool false ∧ wx = wd)
      case first =>
       by_cases h2 : x0.o.k = 2
       ·have c2 : (x0.o.k == 2) = true := by simpa using h2
        clear h2
        go_wp2_with fail
        go_meet
        case rel => exact ⟨rfl, rfl⟩
       ·have c2 : (x0.o.k == 2) = false := by simpa using h2
        clear h2
        go_wp2_with fail
        go_meet
        case rel => exact ⟨rfl, rfl⟩
      case rest =>
       obtain ⟨rfl, hwd⟩ := hcut
       rw [hwd]
       clear hwd
       go_upto_region 43 with fail
       have kD2 : Chg [] w ((wd.setCell ⟨xb, 0, none⟩ (.int .i64 3)).setCell ⟨xb, 2, none⟩ (.int .i64 v3)) := kD.trans (((Chg.refl [xb] wd).setCell (p := ⟨xb, 0, none⟩) (by simp) (.int .i64 3)).setCell (p := ⟨xb, 2, none⟩) (by simp) (.int .i64 v3)) (by intro y hy; simp at hy; subst hy; exact .inr zx)
       have BD2 : Blk ((wd.setCell ⟨xb, 0, none⟩ (.int .i64 3)).setCell ⟨xb, 2, none⟩ (.int .i64 v3)) xb (spC x) 85 := by
        rw [unhide HXX]
        exact (BD.set 0 (.int .i64 3)).set 2 (.int .i64 v3)
       clear BD kD b3' c00 c02 f00 f02
       generalize (wd.setCell ⟨xb, 0, none⟩ (.int .i64 3)).setCell ⟨xb, 2, none⟩ (.int .i64 v3) = wd2 at *
       have BD := BD2
       have kD := kD2
       clear BD2 kD2 lD
       have lD := BD.lt
       obtain ⟨u, hu⟩ : ∃ u, u = (stepG s x).2 := ⟨_, rfl⟩
       obtain ⟨s', hs'⟩ : ∃ s', s' = (stepG s x).1 := ⟨_, rfl⟩
       rw [← hu] at hA
       have HU := hide hu
       have HS' := hide hs'
       clear hu hs'
       obtain ⟨m1, hm1⟩ : ∃ m1 : Cm, m1 = { m with own := grw w.heap.size m.own (fun _ => 100) } := ⟨_, rfl⟩
       have hcb : m1.cb = m.cb := by rw [hm1]
       have o1 : m1.own xb = 100 := by rw [hm1]; exact crw_at m w.heap.size zx
       have HM1 := hide hm1
       have cd : wd2.cell? ⟨db, 1, none⟩ = some (.pointer (some ⟨m.cb, 0, none⟩)) := Blk.cell (Blk.chg (unhide HD).d kD (by simp)) 1
       have HKD := hide kD
       have HZW := hide (unhide HD).c.ch.size
       clear hm1 kD
       go_cut [16] from 199 to 204 (fun v wx => stepS7 W0 w db m s' told u v wx)
       case first =>
        refine wp_region_noPanic ?_
        refine wp_region_held_drew (S := (fun w' => w'.cell? ⟨db, 1, none⟩ = some (.pointer (some ⟨m.cb, 0, none⟩)) ∧ Blk w' xb (spC x) 85)) (by kernel_rfl) (show _ ∧ _ from ⟨cd, BD⟩) (fun hH => ?_)
        refine tk 0 rfl hH ?_
        walk_nrm
        refine tk 1 rfl hH ?_
        walk_nrm
        refine tk 2 rfl hH ?_
        walk_nrm
        refine tk 3 rfl hH ?_
        walk_nrm
        refine wpAnyH_take (i := 4) (v := _) rfl (by kernel_rfl) (by kernel_rfl) (by kernel_rfl) (fun _ _ _ h => h) (spb_yield (x := x) (fun _ h => h.2) (by rfl) rfl rfl) hH ?_
        walk_nrm
        refine wpAnyH_ready (rs := [5, 6]) (by kernel_rfl) (by simp) ?_
        refine AllReadyH.cons rfl (fun K hK => ?_) ?_
        ·skip
         rw [if_pos (by rfl)]
         go_simp
         have X5 : Dn7 W0 w db m wd2.drew s told m1 := by rw [unhide HM1]; exact (unhide HD).quiet ((unhide HKD).drew)
         have C6 := cstep_any W0 m1 s x _ X5.k.c
         rw [hcb] at C6
         refine C6.mono ?_
         rintro e w6 ⟨rfl, m6, X6⟩
         rw [← unhide HU]
         have X6' : Dn7 W0 w db m w6 s' told m6 := X5.trans (X5.k.step (by rw [unhide HS']; exact X6))
         have S6 : w6.cell? ⟨db, 1, none⟩ = some (.pointer (some ⟨m.cb, 0, none⟩)) := by have := Blk.cell X6'.k.d 1; rw [X6'.cb] at this; exact this
         have z6 := X6'.size
         have B6 := Cnx.blk X6 (show Blk wd2.drew xb _ _ from BD) o1
         have y6 := B6.lt
         clear X6 C6
         refine hK.out _ _ ⟨S6, B6⟩ (fun hH2 => ?_)
         clear hK K hH
         have hH := hH2
         clear hH2
         walk_nrm
         unfold ansV
         refine rd 6 rfl (fun K hK => ?_)
         go_simp
         have A7 := Blk.new w6 #[.int .i64 0, .int .i64 0, .int .i64 0] 95
         have B7 := B6.alloc (.cells #[.int .i64 0, .int .i64 0, .int .i64 0] 95)
         have X7 := X6'.trans (X6'.k.quiet ((Chg.refl [] w6).alloc (.cells #[.int .i64 0, .int .i64 0, .int .i64 0] 95)))
         have O7 := crw_at m6 w6.heap.size (Nat.le_refl _)
         have S7 : (w6.alloc (.cells #[.int .i64 0, .int .i64 0, .int .i64 0] 95)).cell? ⟨db, 1, none⟩ = some (.pointer (some ⟨m.cb, 0, none⟩)) := (((Chg.refl [] w6).alloc (.cells #[.int .i64 0, .int .i64 0, .int .i64 0] 95)).cell' (p := ⟨db, 1, none⟩) (by show db < w6.heap.size; omega) (by simp)).trans S6
         have nxp : ¬ xb = w6.heap.size := by omega
         have ndp : w6.heap.size ≠ db := by omega
         have nzp : w.heap.size ≤ w6.heap.size := z6
         clear B6 X6' S6
         generalize w6.alloc (.cells #[.int .i64 0, .int .i64 0, .int .i64 0] 95) = w7 at *
         refine hK.out _ _ ⟨S7, B7⟩ (fun hH2 => ?_)
         clear hK K hH
         have hH := hH2
         clear hH2
         walk_nrm
         refine rd 7 rfl (fun K hK => ?_)
         refine wp_store_mid 95 _ _ rfl w6.heap.size 0 #[.int .i64 u.code, .int .i64 u.jb, .int .i64 u.tr] rfl rfl (A7.thereD (Nat.le_of_eq rfl)) (by rw [ansInfoD]; rfl) (by simp [Value.oneCell']) ?_
         have A8 := A7.wholeD #[.int .i64 u.code, .int .i64 u.jb, .int .i64 u.tr] rfl
         have k8 := (Chg.refl [w6.heap.size] w7).setAll (b := w6.heap.size) (.inl (by simp)) 0 (#[.int .i64 u.code, .int .i64 u.jb, .int .i64 u.tr] : Array Value).toList
         have B8 := Blk.chg (show Blk w7 xb _ _ from B7) k8 (by simp; exact nxp)
         have X8 := X7.wrote k8 O7 ndp nzp (unhide HZW)
         have S8 : (w7.setCells w6.heap.size 0 (#[.int .i64 u.code, .int .i64 u.jb, .int .i64 u.tr] : Array Value).toList).cell? ⟨db, 1, none⟩ = some (.pointer (some ⟨m.cb, 0, none⟩)) := (k8.cell' (p := ⟨db, 1, none⟩) (by have := X7.size; show db < w7.heap.size; omega) (by simp; exact fun e => ndp e.symm)).trans S7
         clear A7 k8 S7 B7 X7
         generalize w7.setCells w6.heap.size 0 (#[.int .i64 u.code, .int .i64 u.jb, .int .i64 u.tr] : Array Value).toList = w8 at A8 B8 X8 S8 ⊢
         refine hK.out _ _ ⟨S8, B8⟩ (fun hH2 => ?_)
         clear hK K hH
         have hH := hH2
         clear hH2
         walk_nrm
         refine wpAnyH_done (by kernel_rfl) ?_ _
         refine NoPanic.normal ?_
         clear hH
         go_wp2_with fail
         go_meet
         case rel => exact ⟨_, _, rfl, A8, X8⟩
        refine AllReadyH.cons rfl (fun K hK => ?_) AllReadyH.nil
        rw [if_pos (by rfl)]
        go_simp
        have A5 : Blk ((wd2.alloc (.cells #[.int .i64 0, .int .i64 0, .int .i64 0] 95)).drew) wd2.heap.size #[.int .i64 0, .int .i64 0, .int .i64 0] 95 := Blk.new wd2 #[.int .i64 0, .int .i64 0, .int .i64 0] 95
        have k5 : Chg [] wd2 ((wd2.alloc (.cells #[.int .i64 0, .int .i64 0, .int .i64 0] 95)).drew) := ((Chg.refl [] wd2).alloc _).drew
        have B5 := BD.chg k5 (by simp)
        have X5 : Dn7 W0 w db m ((wd2.alloc (.cells #[.int .i64 0, .int .i64 0, .int .i64 0] 95)).drew) s told m1 := by rw [unhide HM1]; exact (unhide HD).quiet ((unhide HKD).trans k5 (by simp))
        have S5 : ((wd2.alloc (.cells #[.int .i64 0, .int .i64 0, .int .i64 0] 95)).drew).cell? ⟨db, 1, none⟩ = some (.pointer (some ⟨m.cb, 0, none⟩)) := by have := Blk.cell X5.k.d 1; rw [hcb] at this; exact this
        have zd := (unhide HKD).size
        have o5 : m1.own wd2.heap.size = 100 := by rw [unhide HM1]; exact crw_at m w.heap.size zd
        have y5 := A5.lt
        have lBD := BD.lt
        clear k5
        generalize (wd2.alloc (.cells #[.int .i64 0, .int .i64 0, .int .i64 0] 95)).drew = w5 at *
        refine hK.out _ _ ⟨S5, B5⟩ (fun hH2 => ?_)
        clear hK K hH
        have hH := hH2
        clear hH2
        walk_nrm
        refine rd 5 rfl (fun K hK => ?_)
        go_simp
        have C6 := cstep_any W0 m1 s x _ X5.k.c
        rw [hcb] at C6
        refine C6.mono ?_
        rintro e w6 ⟨rfl, m6, X6⟩
        rw [← unhide HU]
        have X6' : Dn7 W0 w db m w6 s' told m6 := X5.trans (X5.k.step (by rw [unhide HS']; exact X6))
        have S6 : w6.cell? ⟨db, 1, none⟩ = some (.pointer (some ⟨m.cb, 0, none⟩)) := by have := Blk.cell X6'.k.d 1; rw [X6'.cb] at this; exact this
        have z6 := X6'.size
        have B7 := Cnx.blk X6 B5 o1
        have A7 := Cnx.blk X6 A5 o5
        have O7 := X6.ow _ y5 o5
        have X7 := X6'
        have S7 := S6
        have nxp : ¬ xb = wd2.heap.size := by omega
        have ndp : wd2.heap.size ≠ db := by omega
        have nzp : w.heap.size ≤ wd2.heap.size := zd
        clear X6 C6 A5 B5 X5 S5 X6' S6
        refine hK.out _ _ ⟨S7, B7⟩ (fun hH2 => ?_)
        clear hK K hH
        have hH := hH2
        clear hH2
        walk_nrm
        unfold ansV
        refine rd 7 rfl (fun K hK => ?_)
        refine wp_store_mid 95 _ _ rfl wd2.heap.size 0 #[.int .i64 u.code, .int .i64 u.jb, .int .i64 u.tr] rfl rfl (A7.thereD (Nat.le_of_eq rfl)) (by rw [ansInfoD]; rfl) (by simp [Value.oneCell']) ?_
        have A8 := A7.wholeD #[.int .i64 u.code, .int .i64 u.jb, .int .i64 u.tr] rfl
        have k8 := (Chg.refl [wd2.heap.size] w6).setAll (b := wd2.heap.size) (.inl (by simp)) 0 (#[.int .i64 u.code, .int .i64 u.jb, .int .i64 u.tr] : Array Value).toList
        have B8 := Blk.chg (show Blk w6 xb _ _ from B7) k8 (by simp; exact nxp)
        have X8 := X7.wrote k8 O7 ndp nzp (unhide HZW)
        have S8 : (w6.setCells wd2.heap.size 0 (#[.int .i64 u.code, .int .i64 u.jb, .int .i64 u.tr] : Array Value).toList).cell? ⟨db, 1, none⟩ = some (.pointer (some ⟨m.cb, 0, none⟩)) := (k8.cell' (p := ⟨db, 1, none⟩) (by have := X7.size; show db < w6.heap.size; omega) (by simp; exact fun e => ndp e.symm)).trans S7
        clear A7 k8 S7 B7 X7
        generalize w6.setCells wd2.heap.size 0 (#[.int .i64 u.code, .int .i64 u.jb, .int .i64 u.tr] : Array Value).toList = w8 at A8 B8 X8 S8 ⊢
        refine hK.out _ _ ⟨S8, B8⟩ (fun hH2 => ?_)
        clear hK K hH
        have hH := hH2
        clear hH2
        walk_nrm
        refine wpAnyH_done (by kernel_rfl) ?_ _
        refine NoPanic.normal ?_
        clear hH
        go_wp2_with fail
        go_meet
        case rel => exact ⟨_, _, rfl, A8, X8⟩
       case rest =>
        obtain ⟨b, m', rfl, A, X⟩ := hcut
        have a0 : wc.cell? ⟨b, 0, none⟩ = some (.int .i64 u.code) := A.cell 0
        have a1 : wc.cell? ⟨b, 1, none⟩ = some (.int .i64 u.jb) := A.cell 1
        have a2 : wc.cell? ⟨b, 2, none⟩ = some (.int .i64 u.tr) := A.cell 2
        have lA := A.lt
        have HX := hide X
        have HAL := hide (ans_len hA false)
        have HVC := hide ((unhide HV0).chg X.k.c.ch)
        clear A X BD cd HKD HM1 hcb o1 lD
        by_cases hc : u.code = 0
        ·have c0 : (u.code != 0) = false := by simpa using hc
         have HT := hide (show ansT u false = wOk by unfold ansT; rw [if_pos hc]; rfl)
         have D4 : Dsk7 wc db m.cb told := by have := (unhide HX).k.d; rw [(unhide HX).cb] at this; exact this
         clear hc
         go_wp2_with fail
         refine (say_any db m.cb told wOk _ D4 (by have := unhide HAL; rw [unhide HT] at this; omega)).mono ?_
         rintro e wE ⟨rfl, dE, gE⟩
         go_wp2
         (try simp only [Exit.inBlock, Exit.then])
         refine bodyPost_ret (results_none rfl _ _ _) rfl ?_
         rw [← unhide HU, ← unhide HS', unhide HT]
         exact ⟨rfl, _, (unhide HX).tells (Chg.refl [] wc) dE gE⟩
        ·have c0 : (u.code != 0) = true := by simpa using hc
         have HT := hide (show ansT u false = listL wNo [u.code] by unfold ansT; rw [if_neg hc])
         have kL := (Chg.refl [] wc).alloc (.cells #[.int .i64 u.code] 3)
         have N1 := nms_one hA.1.i64 (Blk.new wc #[.int .i64 u.code] 3)
         have HVL := hide ((unhide HVC).chg kL)
         have DC := Blk.chg (unhide HX).k.d kL (by simp)
         rw [(unhide HX).cb] at DC
         have HDC := hide DC
         have HKL := hide kL
         clear hc kL DC
         go_wp2_with fail
         refine (list_any wNo _ 1 1 [u.code] _ rfl (by omega) (by decide) N1 (unhide HVL)).mono ?_
         rintro e w4 ⟨rfl, g4⟩
         have D4 : Dsk7 w4 db m.cb told := Blk.chg (unhide HDC) g4 (by simp)
         have k4 := (unhide HKL).trans g4 (by simp)
         clear g4 N1 a0 a1 a2
         go_wp2_with fail
         refine (say_any db m.cb told (listL wNo [u.code]) _ D4 (by have := unhide HAL; rw [unhide HT] at this; omega)).mono ?_
         rintro e wE ⟨rfl, dE, gE⟩
         go_wp2
         (try simp only [Exit.inBlock, Exit.then])
         refine bodyPost_ret (results_none rfl _ _ _) rfl ?_
         rw [← unhide HU, ← unhide HS', unhide HT]
         exact ⟨rfl, _, (unhide HX).tells (k4) dE gE⟩
  ·have := numL_long hat hit
   rw [unhide HK] at this
   cases this
 ·have := numL_none hat
  rw [unhide HK] at this
  cases this
end Go.Proofs.YtllnjiljjodfdacGreatDoor
