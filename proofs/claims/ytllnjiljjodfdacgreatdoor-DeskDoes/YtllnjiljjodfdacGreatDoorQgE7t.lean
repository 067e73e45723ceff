/-
 The document's own line: a torn one. Nothing here is claimed by itself.
-/
import Derived.Test.YtllnjiljjodfdacGreatDoorQgE7
namespace Go.Proofs.YtllnjiljjodfdacGreatDoor
open Go.RowKit

set_option maxRecDepth 100000 in
set_option maxHeartbeats 8000000 in
theorem line_tshort (W0 : World) (db : Nat) (m : Cm) (s : Gd) (told l : List UInt8) (w : World) (h : Dk7 W0 w db m s told) (hl : l.length ≤ 900000) (ht : told.length ≤ 900000000) (hv : Vars W0) (r : List (List UInt8)) (hw : wordsL l = wTear :: r) (hr : r.length < 2) :
  Calls Tryz.prog 19 #[.pointer (some ⟨db, 0, none⟩), .string (strA l)] w fun e w' => e = .returned (.tuple #[]) ∧ ∃ m', Dn7 W0 w db m w' (s, sayL wWhat).1 (told ++ (s, sayL wWhat).2) m' := by
 have HD := hide h
 have HV := hide (hv.chg h.c.ch)
 have zdb := h.lt
 clear h hv
 have HW := hide hw
 clear hw
 have ctear : ((strA wTear).toList == [116, 101, 97, 114]) = true := by rw [strA_toL]; rfl
 go_enter Tryz.func19, Tryz.ntmps19
 go_wp2_with fail
 refine (words_at l _ (by omega)).mono ?_
 rintro e w1 ⟨a, c, rfl, hc, hS, g1⟩
 rw [unhide HW] at hc hS ⊢
 obtain ⟨n, hn⟩ : ∃ n, n = (wTear :: r).length := ⟨_, rfl⟩
 rw [← hn] at hc ⊢
 have hn1 : 1 ≤ n ∧ n < 3 := by rw [hn]; simp; omega
 clear hn hr
 rcases hS with h0 | ⟨gs, os, rfl, hgs, hcell⟩
 ·cases h0
 have p0 : w1.cell? ⟨gs, os, none⟩ = some (.string (strA wTear)) := hcell 0 wTear rfl
 clear hcell
 have n0 : ((n : Int) == 0) = false := by simp; omega
 have n0' : (0 : Int) < (n : Int) := by omega
 have n0'' : 0 < n := by omega
 have d3 : decide ((n : Int) < 3) = true := by simp; omega
 have G := hide (g1.alloc (.cells #[.slice (some ⟨gs, os, none⟩) n c] 22))
 go_wp2_with (go_at_call 39; refine (say_any db m.cb told wWhat _ (Blk.chg (unhide HD).d (unhide G) (by simp)) (by unfold wWhat; simp; omega)).mono ?_; rintro e wE ⟨rfl, dE, gE⟩)
 (try simp only [Exit.inBlock, Exit.then])
 refine bodyPost_ret (results_none rfl _ _ _) rfl ?_
 exact ⟨rfl, _, (unhide HD).tells (unhide G) dE gE⟩
set_option maxRecDepth 100000 in
set_option maxHeartbeats 8000000 in
theorem line_tkeep (W0 : World) (db : Nat) (m : Cm) (s : Gd) (told l : List UInt8) (w : World) (h : Dk7 W0 w db m s told) (hl : l.length ≤ 900000) (ht : told.length ≤ 900000000) (hv : Vars W0) (kw w0 : List UInt8) (r : List (List UInt8)) (hw : wordsL l = wTear :: kw :: w0 :: r) (hk : numL kw = none) :
  Calls Tryz.prog 19 #[.pointer (some ⟨db, 0, none⟩), .string (strA l)] w fun e w' => e = .returned (.tuple #[]) ∧ ∃ m', Dn7 W0 w db m w' (s, sayL wWhat).1 (told ++ (s, sayL wWhat).2) m' := by
 have HD := hide h
 have HV := hide (hv.chg h.c.ch)
 have zdb := h.lt
 clear h hv
 have HK := hide hk
 clear hk
 have HW := hide hw
 have HWL := hide (show ∀ x ∈ w0 :: r, x.length ≤ 1000000 from fun x hx => by have := wordsF_wordE l [] x (by have e : wordsF [] l = _ := hw; rw [e]; exact List.mem_cons_of_mem _ (List.mem_cons_of_mem _ hx)); simp at this; omega)
 have hkl : kw.length ≤ 1000000 := by have := wordsF_wordE l [] kw (by have e : wordsF [] l = _ := hw; rw [e]; simp); simp at this; omega
 have hn6 : (wTear :: kw :: w0 :: r).length ≤ 900001 := by rw [← hw]; exact Nat.le_trans (wordsF_len l []) (by omega)
 have ctear : ((strA wTear).toList == [116, 101, 97, 114]) = true := by rw [strA_toL]; rfl
 clear hw
 go_enter Tryz.func19, Tryz.ntmps19
 go_wp2_with fail
 refine (words_at l _ (by omega)).mono ?_
 rintro e w1 ⟨a, c, rfl, hc, hS, g1⟩
 rw [unhide HW] at hc hS ⊢
 obtain ⟨q, hq⟩ : ∃ q, q = r.length := ⟨_, rfl⟩
 have hq3 : (wTear :: kw :: w0 :: r).length = q + 3 := by rw [hq]; rfl
 rw [hq3] at hc hn6 ⊢
 obtain ⟨d, rfl⟩ : ∃ d, c = d + 3 := ⟨c - 3, by omega⟩
 have HQ := hide hq
 clear hq hq3
 rcases hS with h0 | ⟨gs, os, rfl, hgs, hcell⟩
 ·cases h0
 have p0 : w1.cell? ⟨gs, os, none⟩ = some (.string (strA wTear)) := hcell 0 wTear rfl
 have p1 : w1.cell? ⟨gs, os + 1, none⟩ = some (.string (strA kw)) := hcell 1 kw rfl
 have HCELL := hide hcell
 clear hcell
 have n0 : ((q : Int) + 3 == 0) = false := by simp; omega
 have n0' : (0 : Int) < (q : Int) + 3 := by omega
 have d3 : decide ((q : Int) + 3 < 3) = false := by simp; omega
 have n1' : (1 : Int) < (q : Int) + 3 := by omega
 go_wp2_with fail
 clear ctear p0 p1 n0 n0' d3 n1'
 have kl : Chg [] w (w1.alloc (.cells #[.slice (some ⟨gs, os, none⟩) (q + 3) (d + 3)] 22)) := g1.alloc _
 refine (atoi_any kw _ (by omega) ((unhide HV).chg kl)).mono ?_
 rintro e w3 ⟨v3, ev, rfl, g3, hres⟩
 have Gw3 := kl.trans g3 (by simp)
 have BL3 : Blk w3 w1.heap.size #[.slice (some ⟨gs, os, none⟩) (q + 3) (d + 3)] 22 := (Blk.new w1 _ _).chg g3 (by simp)
 have k13 : Chg [] w1 w3 := ((Chg.refl [] w1).alloc _).trans g3 (by simp)
 have HC3 := hide (show ∀ i x, (wTear :: kw :: w0 :: r)[i]? = some x → w3.cell? ⟨gs, os + i, none⟩ = some (.string (strA x)) from fun i x hx => (k13.cell' (p := ⟨gs, os + i, none⟩) hgs (by simp)).trans (unhide HCELL i x hx))
 have lgs3 := Nat.lt_of_lt_of_le hgs k13.size
 have zl : w.heap.size ≤ w1.heap.size := g1.size
 have gl : gs ≠ w1.heap.size := by omega
 clear g1 g3 k13 HCELL kl hgs
 obtain ⟨lb, hlb⟩ : ∃ lb, lb = w1.heap.size := ⟨_, rfl⟩
 rw [← hlb] at BL3 zl gl ⊢
 clear hlb
 have cx3 := unhide HC3 1 kw rfl
 have hS0 : w3.drew.cell? ⟨lb, 0, none⟩ = some (.slice (some ⟨gs, os, none⟩) (q + 3) (d + 3)) ∧ w3.drew.cell? ⟨gs, os + 1, none⟩ = some (.string (strA kw)) := ⟨BL3.cell 0, cx3⟩
 have HSN := hide (show ∀ w', Chg [] w3.drew w' → w'.cell? ⟨lb, 0, none⟩ = some (.slice (some ⟨gs, os, none⟩) (q + 3) (d + 3)) ∧ w'.cell? ⟨gs, os + 1, none⟩ = some (.string (strA kw)) from fun w' g => ⟨by rw [g.cell' (p := ⟨lb, 0, none⟩) BL3.lt (by simp)]; exact hS0.1, by rw [g.cell' (p := ⟨gs, os + 1, none⟩) lgs3 (by simp)]; exact hS0.2⟩)
 have HVd := hide ((unhide HV).chg (Gw3.drew))
 have n1' : (1 : Int) < (q : Int) + 3 := by omega
 have n1'' : 1 < q + 3 := by omega
 rcases hres with ⟨hat, rfl⟩ | ⟨hat, t, p, rfl⟩
 ·have hv64 := atoi_bd hat
  have hit : ¬ Lib.itoa v3 = kw := fun hit => by have := numL_some hat hit; rw [unhide HK] at this; cases this
  have hcmp : ((strA (Lib.itoa v3)).toList == (strA kw).toList) = false := by rw [strA_toL, strA_toL]; exact beq_false_of_ne hit
  clear hat hit
  go_wp2_with fail
  refine wp_region_noPanic ?_
  refine wp_region_held_drew (S := (fun w' => w'.cell? ⟨lb, 0, none⟩ = some (.slice (some ⟨gs, os, none⟩) (q + 3) (d + 3)) ∧ w'.cell? ⟨gs, os + 1, none⟩ = some (.string (strA kw)))) (by kernel_rfl) hS0 (fun hH => ?_)
  refine tk 0 rfl hH ?_
  walk_nrm
  refine tk (v := .bool false) 1 rfl hH ?_ (hz := by intro W' hSw; (try dsimp only at hSw); go_simp; (try simp); try with_reducible rfl)
  walk_nrm
  refine tk 2 rfl hH ?_
  walk_nrm
  refine tk 3 rfl hH ?_
  walk_nrm
  refine tk 5 rfl hH ?_
  walk_nrm
  refine tk 6 rfl hH ?_
  walk_nrm
  refine tk 7 rfl hH ?_
  walk_nrm
  refine rd 4 rfl (fun K hK => ?_)
  go_simp
  refine (num_any v3 _ hv64 (unhide HVd)).mono ?_
  rintro e w6 ⟨rfl, g6⟩
  refine hK.out _ _ (unhide HSN w6 g6) (fun hH2 => ?_)
  clear hK K hH
  have hH := hH2
  clear hH2
  walk_nrm
  refine tk (v := .bool true) 8 rfl hH ?_ (hz := by intro W' hSw; (try dsimp only at hSw); go_simp; (try simp [hcmp]); try with_reducible rfl)
  walk_nrm
  refine tk 9 rfl hH ?_
  walk_nrm
  refine wpAnyH_done (by kernel_rfl) ?_ _
  refine NoPanic.normal ?_
  clear hH
  go_wp2_with (go_at_call 39; refine (say_any db m.cb told wWhat _ (Blk.chg (unhide HD).d (Gw3.drew.trans g6 (by simp)) (by simp)) (by unfold wWhat; simp; omega)).mono ?_; rintro e wE ⟨rfl, dE, gE⟩)
  (try simp only [Exit.inBlock, Exit.then])
  refine bodyPost_ret (results_none rfl _ _ _) rfl ?_
  (try rw [unhide HB])
  exact ⟨rfl, _, (unhide HD).tells (Gw3.drew.trans g6 (by simp)) dE gE⟩
 ·clear hat
  go_wp2_with fail
  refine wp_region_noPanic ?_
  refine wp_region_held_drew (S := (fun w' => w'.cell? ⟨lb, 0, none⟩ = some (.slice (some ⟨gs, os, none⟩) (q + 3) (d + 3)) ∧ w'.cell? ⟨gs, os + 1, none⟩ = some (.string (strA kw)))) (by kernel_rfl) hS0 (fun hH => ?_)
  refine tk 0 rfl hH ?_
  walk_nrm
  refine tk (v := .bool true) 1 rfl hH ?_ (hz := by intro W' hSw; (try dsimp only at hSw); go_simp; (try simp); try with_reducible rfl)
  walk_nrm
  refine tk 2 rfl hH ?_
  walk_nrm
  refine tn 3 rfl hH ?_
  walk_nrm
  refine tn 4 rfl hH ?_
  walk_nrm
  refine tn 5 rfl hH ?_
  walk_nrm
  refine tn 6 rfl hH ?_
  walk_nrm
  refine tn 7 rfl hH ?_
  walk_nrm
  refine tn 8 rfl hH ?_
  walk_nrm
  refine tk 9 rfl hH ?_
  walk_nrm
  refine wpAnyH_done (by kernel_rfl) ?_ _
  refine NoPanic.normal ?_
  clear hH
  go_wp2_with (go_at_call 39; refine (say_any db m.cb told wWhat _ (Blk.chg (unhide HD).d (Gw3.drew) (by simp)) (by unfold wWhat; simp; omega)).mono ?_; rintro e wE ⟨rfl, dE, gE⟩)
  (try simp only [Exit.inBlock, Exit.then])
  refine bodyPost_ret (results_none rfl _ _ _) rfl ?_
  (try rw [unhide HB])
  exact ⟨rfl, _, (unhide HD).tells (Gw3.drew) dE gE⟩
set_option maxRecDepth 100000 in
set_option maxHeartbeats 8000000 in
theorem line_tbad (W0 : World) (db : Nat) (m : Cm) (s : Gd) (told l : List UInt8) (w : World) (h : Dk7 W0 w db m s told) (hl : l.length ≤ 900000) (ht : told.length ≤ 900000000) (hv : Vars W0) (kw w0 : List UInt8) (r : List (List UInt8)) (hw : wordsL l = wTear :: kw :: w0 :: r) (keep : Int) (hk : numL kw = some keep) (hm : r.mapM numL = none) :
  Calls Tryz.prog 19 #[.pointer (some ⟨db, 0, none⟩), .string (strA l)] w fun e w' => e = .returned (.tuple #[]) ∧ ∃ m', Dn7 W0 w db m w' (s, sayL wWhat).1 (told ++ (s, sayL wWhat).2) m' := by
 have HD := hide h
 have HV := hide (hv.chg h.c.ch)
 have zdb := h.lt
 clear h hv
 have HK := hide hk
 have HMR := hide hm
 clear hk hm
 have HW := hide hw
 have HWL := hide (show ∀ x ∈ w0 :: r, x.length ≤ 1000000 from fun x hx => by have := wordsF_wordE l [] x (by have e : wordsF [] l = _ := hw; rw [e]; exact List.mem_cons_of_mem _ (List.mem_cons_of_mem _ hx)); simp at this; omega)
 have hkl : kw.length ≤ 1000000 := by have := wordsF_wordE l [] kw (by have e : wordsF [] l = _ := hw; rw [e]; simp); simp at this; omega
 have hn6 : (wTear :: kw :: w0 :: r).length ≤ 900001 := by rw [← hw]; exact Nat.le_trans (wordsF_len l []) (by omega)
 have ctear : ((strA wTear).toList == [116, 101, 97, 114]) = true := by rw [strA_toL]; rfl
 clear hw
 go_enter Tryz.func19, Tryz.ntmps19
 go_wp2_with fail
 refine (words_at l _ (by omega)).mono ?_
 rintro e w1 ⟨a, c, rfl, hc, hS, g1⟩
 rw [unhide HW] at hc hS ⊢
 obtain ⟨q, hq⟩ : ∃ q, q = r.length := ⟨_, rfl⟩
 have hq3 : (wTear :: kw :: w0 :: r).length = q + 3 := by rw [hq]; rfl
 rw [hq3] at hc hn6 ⊢
 obtain ⟨d, rfl⟩ : ∃ d, c = d + 3 := ⟨c - 3, by omega⟩
 have HQ := hide hq
 clear hq hq3
 rcases hS with h0 | ⟨gs, os, rfl, hgs, hcell⟩
 ·cases h0
 have p0 : w1.cell? ⟨gs, os, none⟩ = some (.string (strA wTear)) := hcell 0 wTear rfl
 have p1 : w1.cell? ⟨gs, os + 1, none⟩ = some (.string (strA kw)) := hcell 1 kw rfl
 have HCELL := hide hcell
 clear hcell
 have n0 : ((q : Int) + 3 == 0) = false := by simp; omega
 have n0' : (0 : Int) < (q : Int) + 3 := by omega
 have d3 : decide ((q : Int) + 3 < 3) = false := by simp; omega
 have n1' : (1 : Int) < (q : Int) + 3 := by omega
 go_wp2_with fail
 clear ctear p0 p1 n0 n0' d3 n1'
 have kl : Chg [] w (w1.alloc (.cells #[.slice (some ⟨gs, os, none⟩) (q + 3) (d + 3)] 22)) := g1.alloc _
 refine (atoi_any kw _ (by omega) ((unhide HV).chg kl)).mono ?_
 rintro e w3 ⟨v3, ev, rfl, g3, hres⟩
 have Gw3 := kl.trans g3 (by simp)
 have BL3 : Blk w3 w1.heap.size #[.slice (some ⟨gs, os, none⟩) (q + 3) (d + 3)] 22 := (Blk.new w1 _ _).chg g3 (by simp)
 have k13 : Chg [] w1 w3 := ((Chg.refl [] w1).alloc _).trans g3 (by simp)
 have HC3 := hide (show ∀ i x, (wTear :: kw :: w0 :: r)[i]? = some x → w3.cell? ⟨gs, os + i, none⟩ = some (.string (strA x)) from fun i x hx => (k13.cell' (p := ⟨gs, os + i, none⟩) hgs (by simp)).trans (unhide HCELL i x hx))
 have lgs3 := Nat.lt_of_lt_of_le hgs k13.size
 have zl : w.heap.size ≤ w1.heap.size := g1.size
 have gl : gs ≠ w1.heap.size := by omega
 clear g1 g3 k13 HCELL kl hgs
 obtain ⟨lb, hlb⟩ : ∃ lb, lb = w1.heap.size := ⟨_, rfl⟩
 rw [← hlb] at BL3 zl gl ⊢
 clear hlb
 have cx3 := unhide HC3 1 kw rfl
 have hS0 : w3.drew.cell? ⟨lb, 0, none⟩ = some (.slice (some ⟨gs, os, none⟩) (q + 3) (d + 3)) ∧ w3.drew.cell? ⟨gs, os + 1, none⟩ = some (.string (strA kw)) := ⟨BL3.cell 0, cx3⟩
 have HSN := hide (show ∀ w', Chg [] w3.drew w' → w'.cell? ⟨lb, 0, none⟩ = some (.slice (some ⟨gs, os, none⟩) (q + 3) (d + 3)) ∧ w'.cell? ⟨gs, os + 1, none⟩ = some (.string (strA kw)) from fun w' g => ⟨by rw [g.cell' (p := ⟨lb, 0, none⟩) BL3.lt (by simp)]; exact hS0.1, by rw [g.cell' (p := ⟨gs, os + 1, none⟩) lgs3 (by simp)]; exact hS0.2⟩)
 have HVd := hide ((unhide HV).chg (Gw3.drew))
 have n1' : (1 : Int) < (q : Int) + 3 := by omega
 have n1'' : 1 < q + 3 := by omega
 rcases hres with ⟨hat, rfl⟩ | ⟨hat, t, p, rfl⟩
 ·have hv64 := atoi_bd hat
  by_cases hit : Lib.itoa v3 = kw
  ·have hcmp : ((strA (Lib.itoa v3)).toList == (strA kw).toList) = true := by rw [strA_toL, strA_toL, hit]; simp
   obtain rfl : v3 = keep := by have := numL_some hat hit; rw [unhide HK] at this; exact (Option.some.inj this).symm
   clear hat hit
   go_wp2_with fail
   refine wp_region_noPanic ?_
   refine wp_region_held_drew (S := (fun w' => w'.cell? ⟨lb, 0, none⟩ = some (.slice (some ⟨gs, os, none⟩) (q + 3) (d + 3)) ∧ w'.cell? ⟨gs, os + 1, none⟩ = some (.string (strA kw)))) (by kernel_rfl) hS0 (fun hH => ?_)
   refine tk 0 rfl hH ?_
   walk_nrm
   refine tk (v := .bool false) 1 rfl hH ?_ (hz := by intro W' hSw; (try dsimp only at hSw); go_simp; (try simp); try with_reducible rfl)
   walk_nrm
   refine tk 2 rfl hH ?_
   walk_nrm
   refine tk 3 rfl hH ?_
   walk_nrm
   refine tk 5 rfl hH ?_
   walk_nrm
   refine tk 6 rfl hH ?_
   walk_nrm
   refine tk 7 rfl hH ?_
   walk_nrm
   refine rd 4 rfl (fun K hK => ?_)
   go_simp
   refine (num_any v3 _ hv64 (unhide HVd)).mono ?_
   rintro e w6 ⟨rfl, g6⟩
   refine hK.out _ _ (unhide HSN w6 g6) (fun hH2 => ?_)
   clear hK K hH
   have hH := hH2
   clear hH2
   walk_nrm
   refine tk (v := .bool false) 8 rfl hH ?_ (hz := by intro W' hSw; (try dsimp only at hSw); go_simp; (try simp [hcmp]); try with_reducible rfl)
   walk_nrm
   refine tk 9 rfl hH ?_
   walk_nrm
   refine wpAnyH_done (by kernel_rfl) ?_ _
   refine NoPanic.normal ?_
   clear hH
   have BL6 := BL3.chg (((Chg.refl [] w3).drew).trans g6 (by simp)) (by simp)
   have G6 := Gw3.drew.trans g6 (by simp)
   have cl6 : w6.cell? ⟨lb, 0, none⟩ = some (.slice (some ⟨gs, os, none⟩) (q + 3) (d + 3)) := BL6.cell 0
   have f6 := BL6.fz 0
   have l6 := BL6.lt
   clear hS0 cx3 hcmp
   go_upto_region 12 with fail
   have k7 := (Chg.refl [lb] w6).setCell (p := ⟨lb, 0, none⟩) (by simp) (.slice (some ⟨gs, os + 2, none⟩) (q + 1) (d + 1))
   have BL7 := BL6.set 0 (.slice (some ⟨gs, os + 2, none⟩) (q + 1) (d + 1))
   have G7 := G6.trans k7 (by intro y hy; simp at hy; subst hy; exact .inr zl)
   have k36 : Chg [] w3 w6 := ((Chg.refl [] w3).drew).trans g6 (by simp)
   have lgs6 := Nat.lt_of_lt_of_le lgs3 k36.size
   have HC7 := hide (show ∀ i x, (w0 :: r)[i]? = some x → (w6.setCell ⟨lb, 0, none⟩ (.slice (some ⟨gs, os + 2, none⟩) (q + 1) (d + 1))).cell? ⟨gs, os + 2 + i, none⟩ = some (.string (strA x)) from fun i x hx => (k7.cell' (p := ⟨gs, os + 2 + i, none⟩) lgs6 (by simp; exact gl)).trans ((k36.cell' (p := ⟨gs, os + 2 + i, none⟩) lgs3 (by simp)).trans (by rw [Nat.add_assoc, Nat.add_comm 2 i]; exact unhide HC3 (i + 2) x (by simpa using hx))))
   have lgs7 := Nat.lt_of_lt_of_le lgs6 k7.size
   clear k7 k36 G6 BL6 cl6 f6 l6 BL3 Gw3 g6 HSN HVd HC3 lgs3 lgs6 hv64
   change Code.wp _ _ _ _ (w6.setCell ⟨lb, 0, none⟩ (.slice (some ⟨gs, os + 2, none⟩) (q + 1) (d + 1)))
   generalize w6.setCell ⟨lb, 0, none⟩ (.slice (some ⟨gs, os + 2, none⟩) (q + 1) (d + 1)) = w7 at *
   go_wp2_with fail
   have k8 := (Chg.refl [] w7).alloc (.cells #[.slice none 0 0] 72)
   have z7 := G7.size
   have lb7 := BL7.lt
   have L0 : Ln0 w (w7.alloc (.cells #[.slice none 0 0] 72)) lb w7.heap.size gs (os + 2) (q + 1) (d + 1) w0 r := ⟨BL7.alloc _, Blk.new w7 _ _, by rw [unhide HQ]; rfl, by simp; omega, gl, by omega, by omega, zl, z7, fun i x hx => (k8.cell' (p := ⟨gs, os + 2 + i, none⟩) lgs7 (by simp)).trans (unhide HC7 i x hx), G7.trans k8 (by simp)⟩
   clear k8 z7 lb7 BL7 G7 lgs7 HC7 zl gl
   generalize w7.alloc (.cells #[.slice none 0 0] 72) = w2 at *
   obtain ⟨nb, hnb⟩ : ∃ nb, nb = w7.heap.size := ⟨_, rfl⟩
   obtain ⟨n, hn⟩ : ∃ n, n = q + 1 := ⟨_, rfl⟩
   obtain ⟨c, hcc⟩ : ∃ c, c = d + 1 := ⟨_, rfl⟩
   obtain ⟨os, hos⟩ : ∃ os', os' = os + 2 := ⟨_, rfl⟩
   rw [← hnb] at L0 ⊢
   rw [← hn, ← hcc, ← hos] at L0
   have hn1 : 1 ≤ n := by omega
   have hn6 : n ≤ 900001 := by omega
   have HN := hide L0.hn
   have HL0 := hide L0
   clear L0 hnb hn hcc hos hc
   obtain ⟨i0, hi, hz0, hz1, hz2⟩ := kInfoParts intInfoC
   obtain ⟨B2, N2, -, hg, gl, gn, ln, zl, zn, -, -⟩ := unhide HL0
   go_loopw [10] (fun i wr => LI17 r w2 nb n i wr) (fun i _ => n - (intOf i).toNat)
   case atStart => exact ⟨1, [], _, by omega, hn1, rfl, hide rfl, hide (by simp), hide rfl, N2, World.ownsRow_nil _ _ _ _, Chg.refl _ _⟩
   case round =>
    have lnb2 := N2.lt
    clear N2
    obtain ⟨k, ns, v, hk1, hkn, rfl, HM, HI, HNL, BN, hown, hG⟩ := hrel
    have hnbd : ns.length ≤ 1000001 := by have := unhide HNL; omega
    have BL := B2.chg hG (by simp; exact ln)
    have lL : wr.cell? ⟨lb, 0, none⟩ = some (.slice (some ⟨gs, os, none⟩) n c) := BL.cell 0
    have llb := BL.lt
    have lnb := BN.lt
    have zG := hG.size
    have Gw : Chg [] w wr := (unhide HL0).G.trans hG (by intro x hx; simp at hx; subst hx; exact .inr zn)
    have lgs : gs < wr.heap.size := by omega
    by_cases hlt : k < n
    ·have hki : (k : Int) < (n : Int) := by omega
     have hk0 : (0 : Int) ≤ (k : Int) := by omega
     obtain ⟨x, hx⟩ : ∃ x, (w0 :: r)[k]? = some x := ⟨_, List.getElem?_eq_getElem (by rw [← unhide HN]; exact hlt)⟩
     have hxr : r[k - 1]? = some x := by obtain ⟨q, rfl⟩ : ∃ q, k = q + 1 := ⟨k - 1, by omega⟩; simpa using hx
     have cx : wr.cell? ⟨gs, os + k, none⟩ = some (.string (strA x)) := by rw [hG.cell' (p := ⟨gs, os + k, none⟩) hg (by simp; exact gn)]; exact (unhide HL0).C k x hx
     have hxl : x.length ≤ 1000000 := unhide HWL x (List.mem_of_getElem? hx)
     have HX := hide hxr
     clear hx hxr
     go_wp2_with fail
     refine (atoi_any x _ (by omega) ((unhide HV).chg Gw)).mono ?_
     rintro e w3 ⟨v3, ev, rfl, g3, hres⟩
     have Gw3 := Gw.trans g3 (by simp)
     have HV3 := hide ((unhide HV).chg Gw3)
     have BL3 := BL.chg g3 (by simp)
     have BN3 := BN.chg g3 (by simp)
     have own3 := own_chg hown g3
     have G3 := hG.trans (g3.wide (cs := [nb]) (by simp)) (fun y hy => .inl hy)
     have cx3 : w3.cell? ⟨gs, os + k, none⟩ = some (.string (strA x)) := by rw [g3.cell' lgs (by simp)]; exact cx
     have lgs3 := Nat.lt_of_lt_of_le lgs g3.size
     clear lL cx BL BN hown g3 Gw hG
     have hS0 : S17 lb gs os n c k x w3.drew := ⟨BL3.cell 0, cx3⟩
     have HSN := hide (show ∀ w', Chg [] w3.drew w' → S17 lb gs os n c k x w' from fun w' g => ⟨by rw [g.cell' (p := ⟨lb, 0, none⟩) BL3.lt (by simp)]; exact hS0.1, by rw [g.cell' (p := ⟨gs, os + k, none⟩) lgs3 (by simp)]; exact hS0.2⟩)
     have HVd := hide ((unhide HV3).chg ((Chg.refl [] w3).drew))
     rcases hres with ⟨hat, rfl⟩ | ⟨hat, t, p, rfl⟩
     ·have hv64 := atoi_bd hat
      by_cases hit : Lib.itoa v3 = x
      ·have hcmp : ((strA (Lib.itoa v3)).toList == (strA x).toList) = true := by rw [strA_toL, strA_toL, hit]; simp
       have HNUM := hide (numL_some hat hit)
       clear hat hit
       go_wp2_with fail
       refine wp_region_noPanic ?_
       refine wp_region_held_drew (S := (fun w' => S17 lb gs os n c k x w')) (by kernel_rfl) hS0 (fun hH => ?_)
       refine tk 0 rfl hH ?_
       walk_nrm
       refine tk (v := .bool false) 1 rfl hH ?_ (hz := by intro W' hSw; (try dsimp only at hSw); go_simp; (try simp); try with_reducible rfl)
       walk_nrm
       refine tk 2 rfl hH ?_
       walk_nrm
       refine tk 3 rfl hH ?_
       walk_nrm
       refine tk 5 rfl hH ?_
       walk_nrm
       refine tk 6 rfl hH ?_
       walk_nrm
       refine tk 7 rfl hH ?_
       walk_nrm
       refine tk 8 rfl hH ?_
       walk_nrm
       refine rd 4 rfl (fun K hK => ?_)
       go_simp
       refine (num_any v3 _ hv64 (unhide HVd)).mono ?_
       rintro e w6 ⟨rfl, g6⟩
       refine hK.out _ _ (unhide HSN w6 g6) (fun hH2 => ?_)
       clear hK K hH
       have hH := hH2
       clear hH2
       walk_nrm
       refine tk (v := .bool false) 9 rfl hH ?_ (hz := by intro W' hSw; (try dsimp only at hSw); go_simp; (try simp [hcmp]); try with_reducible rfl)
       walk_nrm
       refine tk 10 rfl hH ?_
       walk_nrm
       refine wpAnyH_done (by kernel_rfl) ?_ _
       refine NoPanic.normal ?_
       clear hH
       have GV6 := Gw3.drew.trans g6 (by simp)
       have BN6 := Blk.chg (show Blk w3.drew nb #[v] 72 from BN3) g6 (by simp)
       have own6 := own_chg (show w3.drew.ownsRow _ _ _ _ _ _ from own3) g6
       have G6 := (G3.drew).trans (g6.wide (cs := [nb]) (by simp)) (fun y hy => .inl hy)
       have cv6 : w6.cell? ⟨nb, 0, none⟩ = some v := BN6.cell 0
       have lb6 := BN6.lt
       have HCH := hide (mapM_snoc (unhide HM) (unhide HNUM))
       have HTK := hide (show r.take (k - 1) ++ [x] = r.take (k + 1 - 1) by rw [show k + 1 - 1 = (k - 1) + 1 by omega, List.take_add_one, unhide HX]; rfl)
       have hI := unhide HI
       have HI2 := hide (show ∀ y ∈ ns ++ [v3], I64 y from fun y hy => by rcases List.mem_append.1 hy with hy | hy; exact hI y hy; simp at hy; subst hy; exact hv64)
       clear hI BN3 own3 G3 g6 hS0
       go_wp2_with (at_builtin; refine wpList_append_own _ rfl (.tmp 86) (.tmp 88) 72 rfl w2.heap.size 3 i0 _ 1 8 Tryz.underlying72 hi hz0 hz1 hz2 rfl (by decide) v ns.length (ns.map (.int .i64)) rfl (own6.alloc _) ⟨w6.heap.size, 0, none⟩ 1 1 [.int .i64 v3] rfl rfl (Blk.new w6 #[.int .i64 v3] _).news (by simp [Value.oneCell']) (by unfold maxLen; omega) (by omega) (by have := G6.size; simp; omega) ?_; intro v7 w7 own7 gr7 _; obtain ⟨g7, cc7, rfl, -, -, -⟩ := own_shape own7 (by omega); have nb7 : v.ownBlock ≠ some nb := (fun e => by have := (own6.lt _ e).1; omega); have BN7 : Blk w7 nb #[v] 72 := grown_heap gr7 (BN6.alloc _) nb7; have cv7 : w7.cell? ⟨nb, 0, none⟩ = some v := BN7.cell 0; have fz7 := BN7.fz 0; have lb7 := BN7.lt; have G7 := (G6.alloc _).grown gr7 (fun y hy => .inr (own6.lt y hy).1); clear gr7 cv6 BN6)
       have kS := (Chg.refl [nb] w7).setCell (p := ⟨nb, 0, none⟩) (by simp) (.slice (some ⟨g7, 0, none⟩) (ns.length + 1) cc7)
       have BN8 := BN7.set 0 (.slice (some ⟨g7, 0, none⟩) (ns.length + 1) cc7)
       have own8 := own_keep own7 kS (by intro y hy e; simp at hy; subst hy; have := (own7.lt _ e).1; omega)
       have G8 := G7.trans kS (fun y hy => .inl hy)
       clear own7 kS G7 own6 G6 BN7
       go_roundw
       case rel => exact ⟨k + 1, ns ++ [v3], _, by omega, by omega, by go_num, hide (by rw [← unhide HTK]; exact unhide HCH), HI2, hide (by rw [List.length_append, unhide HNL]; simp; omega), BN8, by rw [List.map_append, List.length_append]; exact own8, G8⟩
       case measure => go_light; simp [intOf]; omega
      ·have hcmp : ((strA (Lib.itoa v3)).toList == (strA x).toList) = false := by rw [strA_toL, strA_toL]; exact beq_false_of_ne hit
       clear hat hit
       go_wp2_with fail
       refine wp_region_noPanic ?_
       refine wp_region_held_drew (S := (fun w' => S17 lb gs os n c k x w')) (by kernel_rfl) hS0 (fun hH => ?_)
       refine tk 0 rfl hH ?_
       walk_nrm
       refine tk (v := .bool false) 1 rfl hH ?_ (hz := by intro W' hSw; (try dsimp only at hSw); go_simp; (try simp); try with_reducible rfl)
       walk_nrm
       refine tk 2 rfl hH ?_
       walk_nrm
       refine tk 3 rfl hH ?_
       walk_nrm
       refine tk 5 rfl hH ?_
       walk_nrm
       refine tk 6 rfl hH ?_
       walk_nrm
       refine tk 7 rfl hH ?_
       walk_nrm
       refine tk 8 rfl hH ?_
       walk_nrm
       refine rd 4 rfl (fun K hK => ?_)
       go_simp
       refine (num_any v3 _ hv64 (unhide HVd)).mono ?_
       rintro e w6 ⟨rfl, g6⟩
       refine hK.out _ _ (unhide HSN w6 g6) (fun hH2 => ?_)
       clear hK K hH
       have hH := hH2
       clear hH2
       walk_nrm
       refine tk (v := .bool true) 9 rfl hH ?_ (hz := by intro W' hSw; (try dsimp only at hSw); go_simp; (try simp [hcmp]); try with_reducible rfl)
       walk_nrm
       refine tk 10 rfl hH ?_
       walk_nrm
       refine wpAnyH_done (by kernel_rfl) ?_ _
       refine NoPanic.normal ?_
       clear hH
       go_wp2_with (go_at_call 39; refine (say_any db m.cb told wWhat _ (Blk.chg (unhide HD).d (Gw3.drew.trans g6 (by simp)) (by simp)) (by unfold wWhat; simp; omega)).mono ?_; rintro e wE ⟨rfl, dE, gE⟩)
       (try simp only [Exit.inBlock, Exit.then])
       refine bodyPost_ret (results_none rfl _ _ _) rfl ?_
       (try rw [unhide HB])
       exact ⟨rfl, _, (unhide HD).tells (Gw3.drew.trans g6 (by simp)) dE gE⟩
     ·clear hat
      go_wp2_with fail
      refine wp_region_noPanic ?_
      refine wp_region_held_drew (S := (fun w' => S17 lb gs os n c k x w')) (by kernel_rfl) hS0 (fun hH => ?_)
      refine tk 0 rfl hH ?_
      walk_nrm
      refine tk (v := .bool true) 1 rfl hH ?_ (hz := by intro W' hSw; (try dsimp only at hSw); go_simp; (try simp); try with_reducible rfl)
      walk_nrm
      refine tk 2 rfl hH ?_
      walk_nrm
      refine tn 3 rfl hH ?_
      walk_nrm
      refine tn 4 rfl hH ?_
      walk_nrm
      refine tn 5 rfl hH ?_
      walk_nrm
      refine tn 6 rfl hH ?_
      walk_nrm
      refine tn 7 rfl hH ?_
      walk_nrm
      refine tn 8 rfl hH ?_
      walk_nrm
      refine tn 9 rfl hH ?_
      walk_nrm
      refine tk 10 rfl hH ?_
      walk_nrm
      refine wpAnyH_done (by kernel_rfl) ?_ _
      refine NoPanic.normal ?_
      clear hH
      go_wp2_with (go_at_call 39; refine (say_any db m.cb told wWhat _ (Blk.chg (unhide HD).d (Gw3.drew) (by simp)) (by unfold wWhat; simp; omega)).mono ?_; rintro e wE ⟨rfl, dE, gE⟩)
      (try simp only [Exit.inBlock, Exit.then])
      refine bodyPost_ret (results_none rfl _ _ _) rfl ?_
      (try rw [unhide HB])
      exact ⟨rfl, _, (unhide HD).tells (Gw3.drew) dE gE⟩
    ·exfalso
     have hke : k = n := by omega
     have hrl : r.length = n - 1 := by have := unhide HN; simp at this; omega
     have h1 := unhide HM
     rw [hke, List.take_of_length_le (by omega), unhide HMR] at h1
     cases h1
  ·have := numL_long hat hit
   rw [unhide HK] at this
   cases this
 ·have := numL_none hat
  rw [unhide HK] at this
  cases this
theorem stepW_tnone {w : List UInt8} {ns : List Int} (h : stepW w ns true = none) : ¬ (w = wAdd ∧ ns.length = 2) ∧ ¬ (w = wTake ∧ ns.length = 3) ∧ ¬ (w = wRenew ∧ ns.length = 5) ∧ ¬ (w = wDone ∧ ns.length = 4) ∧ ¬ (w = wDrop ∧ ns.length = 4) := by
 unfold stepW at h
 refine ⟨?_, ?_, ?_, ?_, ?_⟩ <;> (intro hh; simp [hh.1, hh.2, wAdd, wTake, wRenew, wDone, wDrop] at h)
set_option maxRecDepth 100000 in
set_option maxHeartbeats 8000000 in
theorem line_tnone (W0 : World) (db : Nat) (m : Cm) (s : Gd) (told l : List UInt8) (w : World) (h : Dk7 W0 w db m s told) (hl : l.length ≤ 900000) (ht : told.length ≤ 900000000) (hv : Vars W0) (kw w0 : List UInt8) (r : List (List UInt8)) (hw : wordsL l = wTear :: kw :: w0 :: r) (keep : Int) (hk : numL kw = some keep) (ms : List Int) (hm : r.mapM numL = some ms) (hs : stepW w0 ms true = none) :
  Calls Tryz.prog 19 #[.pointer (some ⟨db, 0, none⟩), .string (strA l)] w fun e w' => e = .returned (.tuple #[]) ∧ ∃ m', Dn7 W0 w db m w' (s, sayL wWhat).1 (told ++ (s, sayL wWhat).2) m' := by
 have HD := hide h
 have HV := hide (hv.chg h.c.ch)
 have zdb := h.lt
 clear h hv
 have HK := hide hk
 have HMR := hide hm
 clear hk hm
 have HW := hide hw
 have HWL := hide (show ∀ x ∈ w0 :: r, x.length ≤ 1000000 from fun x hx => by have := wordsF_wordE l [] x (by have e : wordsF [] l = _ := hw; rw [e]; exact List.mem_cons_of_mem _ (List.mem_cons_of_mem _ hx)); simp at this; omega)
 have hkl : kw.length ≤ 1000000 := by have := wordsF_wordE l [] kw (by have e : wordsF [] l = _ := hw; rw [e]; simp); simp at this; omega
 have hn6 : (wTear :: kw :: w0 :: r).length ≤ 900001 := by rw [← hw]; exact Nat.le_trans (wordsF_len l []) (by omega)
 have ctear : ((strA wTear).toList == [116, 101, 97, 114]) = true := by rw [strA_toL]; rfl
 clear hw
 go_enter Tryz.func19, Tryz.ntmps19
 go_wp2_with fail
 refine (words_at l _ (by omega)).mono ?_
 rintro e w1 ⟨a, c, rfl, hc, hS, g1⟩
 rw [unhide HW] at hc hS ⊢
 obtain ⟨q, hq⟩ : ∃ q, q = r.length := ⟨_, rfl⟩
 have hq3 : (wTear :: kw :: w0 :: r).length = q + 3 := by rw [hq]; rfl
 rw [hq3] at hc hn6 ⊢
 obtain ⟨d, rfl⟩ : ∃ d, c = d + 3 := ⟨c - 3, by omega⟩
 have HQ := hide hq
 clear hq hq3
 rcases hS with h0 | ⟨gs, os, rfl, hgs, hcell⟩
 ·cases h0
 have p0 : w1.cell? ⟨gs, os, none⟩ = some (.string (strA wTear)) := hcell 0 wTear rfl
 have p1 : w1.cell? ⟨gs, os + 1, none⟩ = some (.string (strA kw)) := hcell 1 kw rfl
 have HCELL := hide hcell
 clear hcell
 have n0 : ((q : Int) + 3 == 0) = false := by simp; omega
 have n0' : (0 : Int) < (q : Int) + 3 := by omega
 have d3 : decide ((q : Int) + 3 < 3) = false := by simp; omega
 have n1' : (1 : Int) < (q : Int) + 3 := by omega
 go_wp2_with fail
 clear ctear p0 p1 n0 n0' d3 n1'
 have kl : Chg [] w (w1.alloc (.cells #[.slice (some ⟨gs, os, none⟩) (q + 3) (d + 3)] 22)) := g1.alloc _
 refine (atoi_any kw _ (by omega) ((unhide HV).chg kl)).mono ?_
 rintro e w3 ⟨v3, ev, rfl, g3, hres⟩
 have Gw3 := kl.trans g3 (by simp)
 have BL3 : Blk w3 w1.heap.size #[.slice (some ⟨gs, os, none⟩) (q + 3) (d + 3)] 22 := (Blk.new w1 _ _).chg g3 (by simp)
 have k13 : Chg [] w1 w3 := ((Chg.refl [] w1).alloc _).trans g3 (by simp)
 have HC3 := hide (show ∀ i x, (wTear :: kw :: w0 :: r)[i]? = some x → w3.cell? ⟨gs, os + i, none⟩ = some (.string (strA x)) from fun i x hx => (k13.cell' (p := ⟨gs, os + i, none⟩) hgs (by simp)).trans (unhide HCELL i x hx))
 have lgs3 := Nat.lt_of_lt_of_le hgs k13.size
 have zl : w.heap.size ≤ w1.heap.size := g1.size
 have gl : gs ≠ w1.heap.size := by omega
 clear g1 g3 k13 HCELL kl hgs
 obtain ⟨lb, hlb⟩ : ∃ lb, lb = w1.heap.size := ⟨_, rfl⟩
 rw [← hlb] at BL3 zl gl ⊢
 clear hlb
 have cx3 := unhide HC3 1 kw rfl
 have hS0 : w3.drew.cell? ⟨lb, 0, none⟩ = some (.slice (some ⟨gs, os, none⟩) (q + 3) (d + 3)) ∧ w3.drew.cell? ⟨gs, os + 1, none⟩ = some (.string (strA kw)) := ⟨BL3.cell 0, cx3⟩
 have HSN := hide (show ∀ w', Chg [] w3.drew w' → w'.cell? ⟨lb, 0, none⟩ = some (.slice (some ⟨gs, os, none⟩) (q + 3) (d + 3)) ∧ w'.cell? ⟨gs, os + 1, none⟩ = some (.string (strA kw)) from fun w' g => ⟨by rw [g.cell' (p := ⟨lb, 0, none⟩) BL3.lt (by simp)]; exact hS0.1, by rw [g.cell' (p := ⟨gs, os + 1, none⟩) lgs3 (by simp)]; exact hS0.2⟩)
 have HVd := hide ((unhide HV).chg (Gw3.drew))
 have n1' : (1 : Int) < (q : Int) + 3 := by omega
 have n1'' : 1 < q + 3 := by omega
 rcases hres with ⟨hat, rfl⟩ | ⟨hat, t, p, rfl⟩
 ·have hv64 := atoi_bd hat
  by_cases hit : Lib.itoa v3 = kw
  ·have hcmp : ((strA (Lib.itoa v3)).toList == (strA kw).toList) = true := by rw [strA_toL, strA_toL, hit]; simp
   obtain rfl : v3 = keep := by have := numL_some hat hit; rw [unhide HK] at this; exact (Option.some.inj this).symm
   clear hat hit
   go_wp2_with fail
   refine wp_region_noPanic ?_
   refine wp_region_held_drew (S := (fun w' => w'.cell? ⟨lb, 0, none⟩ = some (.slice (some ⟨gs, os, none⟩) (q + 3) (d + 3)) ∧ w'.cell? ⟨gs, os + 1, none⟩ = some (.string (strA kw)))) (by kernel_rfl) hS0 (fun hH => ?_)
   refine tk 0 rfl hH ?_
   walk_nrm
   refine tk (v := .bool false) 1 rfl hH ?_ (hz := by intro W' hSw; (try dsimp only at hSw); go_simp; (try simp); try with_reducible rfl)
   walk_nrm
   refine tk 2 rfl hH ?_
   walk_nrm
   refine tk 3 rfl hH ?_
   walk_nrm
   refine tk 5 rfl hH ?_
   walk_nrm
   refine tk 6 rfl hH ?_
   walk_nrm
   refine tk 7 rfl hH ?_
   walk_nrm
   refine rd 4 rfl (fun K hK => ?_)
   go_simp
   refine (num_any v3 _ hv64 (unhide HVd)).mono ?_
   rintro e w6 ⟨rfl, g6⟩
   refine hK.out _ _ (unhide HSN w6 g6) (fun hH2 => ?_)
   clear hK K hH
   have hH := hH2
   clear hH2
   walk_nrm
   refine tk (v := .bool false) 8 rfl hH ?_ (hz := by intro W' hSw; (try dsimp only at hSw); go_simp; (try simp [hcmp]); try with_reducible rfl)
   walk_nrm
   refine tk 9 rfl hH ?_
   walk_nrm
   refine wpAnyH_done (by kernel_rfl) ?_ _
   refine NoPanic.normal ?_
   clear hH
   have BL6 := BL3.chg (((Chg.refl [] w3).drew).trans g6 (by simp)) (by simp)
   have G6 := Gw3.drew.trans g6 (by simp)
   have cl6 : w6.cell? ⟨lb, 0, none⟩ = some (.slice (some ⟨gs, os, none⟩) (q + 3) (d + 3)) := BL6.cell 0
   have f6 := BL6.fz 0
   have l6 := BL6.lt
   clear hS0 cx3 hcmp
   go_upto_region 12 with fail
   have k7 := (Chg.refl [lb] w6).setCell (p := ⟨lb, 0, none⟩) (by simp) (.slice (some ⟨gs, os + 2, none⟩) (q + 1) (d + 1))
   have BL7 := BL6.set 0 (.slice (some ⟨gs, os + 2, none⟩) (q + 1) (d + 1))
   have G7 := G6.trans k7 (by intro y hy; simp at hy; subst hy; exact .inr zl)
   have k36 : Chg [] w3 w6 := ((Chg.refl [] w3).drew).trans g6 (by simp)
   have lgs6 := Nat.lt_of_lt_of_le lgs3 k36.size
   have HC7 := hide (show ∀ i x, (w0 :: r)[i]? = some x → (w6.setCell ⟨lb, 0, none⟩ (.slice (some ⟨gs, os + 2, none⟩) (q + 1) (d + 1))).cell? ⟨gs, os + 2 + i, none⟩ = some (.string (strA x)) from fun i x hx => (k7.cell' (p := ⟨gs, os + 2 + i, none⟩) lgs6 (by simp; exact gl)).trans ((k36.cell' (p := ⟨gs, os + 2 + i, none⟩) lgs3 (by simp)).trans (by rw [Nat.add_assoc, Nat.add_comm 2 i]; exact unhide HC3 (i + 2) x (by simpa using hx))))
   have lgs7 := Nat.lt_of_lt_of_le lgs6 k7.size
   clear k7 k36 G6 BL6 cl6 f6 l6 BL3 Gw3 g6 HSN HVd HC3 lgs3 lgs6 hv64
   change Code.wp _ _ _ _ (w6.setCell ⟨lb, 0, none⟩ (.slice (some ⟨gs, os + 2, none⟩) (q + 1) (d + 1)))
   generalize w6.setCell ⟨lb, 0, none⟩ (.slice (some ⟨gs, os + 2, none⟩) (q + 1) (d + 1)) = w7 at *
   go_wp2_with fail
   have k8 := (Chg.refl [] w7).alloc (.cells #[.slice none 0 0] 72)
   have z7 := G7.size
   have lb7 := BL7.lt
   have L0 : Ln0 w (w7.alloc (.cells #[.slice none 0 0] 72)) lb w7.heap.size gs (os + 2) (q + 1) (d + 1) w0 r := ⟨BL7.alloc _, Blk.new w7 _ _, by rw [unhide HQ]; rfl, by simp; omega, gl, by omega, by omega, zl, z7, fun i x hx => (k8.cell' (p := ⟨gs, os + 2 + i, none⟩) lgs7 (by simp)).trans (unhide HC7 i x hx), G7.trans k8 (by simp)⟩
   clear k8 z7 lb7 BL7 G7 lgs7 HC7 zl gl
   generalize w7.alloc (.cells #[.slice none 0 0] 72) = w2 at *
   obtain ⟨nb, hnb⟩ : ∃ nb, nb = w7.heap.size := ⟨_, rfl⟩
   obtain ⟨n, hn⟩ : ∃ n, n = q + 1 := ⟨_, rfl⟩
   obtain ⟨c, hcc⟩ : ∃ c, c = d + 1 := ⟨_, rfl⟩
   obtain ⟨os, hos⟩ : ∃ os', os' = os + 2 := ⟨_, rfl⟩
   rw [← hnb] at L0 ⊢
   rw [← hn, ← hcc, ← hos] at L0
   have hn1 : 1 ≤ n := by omega
   have hn6 : n ≤ 900001 := by omega
   have HN := hide L0.hn
   have HL0 := hide L0
   clear L0 hnb hn hcc hos hc
   obtain ⟨i0, hi, hz0, hz1, hz2⟩ := kInfoParts intInfoC
   obtain ⟨B2, N2, -, hg, gl, gn, ln, zl, zn, -, -⟩ := unhide HL0
   go_loopw [10] (fun i wr => LI17 r w2 nb n i wr) (fun i _ => n - (intOf i).toNat)
   case atStart => exact ⟨1, [], _, by omega, hn1, rfl, hide rfl, hide (by simp), hide rfl, N2, World.ownsRow_nil _ _ _ _, Chg.refl _ _⟩
   case round =>
    have lnb2 := N2.lt
    clear N2
    obtain ⟨k, ns, v, hk1, hkn, rfl, HM, HI, HNL, BN, hown, hG⟩ := hrel
    have hnbd : ns.length ≤ 1000001 := by have := unhide HNL; omega
    have BL := B2.chg hG (by simp; exact ln)
    have lL : wr.cell? ⟨lb, 0, none⟩ = some (.slice (some ⟨gs, os, none⟩) n c) := BL.cell 0
    have llb := BL.lt
    have lnb := BN.lt
    have zG := hG.size
    have Gw : Chg [] w wr := (unhide HL0).G.trans hG (by intro x hx; simp at hx; subst hx; exact .inr zn)
    have lgs : gs < wr.heap.size := by omega
    by_cases hlt : k < n
    ·have hki : (k : Int) < (n : Int) := by omega
     have hk0 : (0 : Int) ≤ (k : Int) := by omega
     obtain ⟨x, hx⟩ : ∃ x, (w0 :: r)[k]? = some x := ⟨_, List.getElem?_eq_getElem (by rw [← unhide HN]; exact hlt)⟩
     have hxr : r[k - 1]? = some x := by obtain ⟨q, rfl⟩ : ∃ q, k = q + 1 := ⟨k - 1, by omega⟩; simpa using hx
     have cx : wr.cell? ⟨gs, os + k, none⟩ = some (.string (strA x)) := by rw [hG.cell' (p := ⟨gs, os + k, none⟩) hg (by simp; exact gn)]; exact (unhide HL0).C k x hx
     have hxl : x.length ≤ 1000000 := unhide HWL x (List.mem_of_getElem? hx)
     have HX := hide hxr
     clear hx hxr
     go_wp2_with fail
     refine (atoi_any x _ (by omega) ((unhide HV).chg Gw)).mono ?_
     rintro e w3 ⟨v3, ev, rfl, g3, hres⟩
     have Gw3 := Gw.trans g3 (by simp)
     have HV3 := hide ((unhide HV).chg Gw3)
     have BL3 := BL.chg g3 (by simp)
     have BN3 := BN.chg g3 (by simp)
     have own3 := own_chg hown g3
     have G3 := hG.trans (g3.wide (cs := [nb]) (by simp)) (fun y hy => .inl hy)
     have cx3 : w3.cell? ⟨gs, os + k, none⟩ = some (.string (strA x)) := by rw [g3.cell' lgs (by simp)]; exact cx
     have lgs3 := Nat.lt_of_lt_of_le lgs g3.size
     clear lL cx BL BN hown g3 Gw hG
     have hS0 : S17 lb gs os n c k x w3.drew := ⟨BL3.cell 0, cx3⟩
     have HSN := hide (show ∀ w', Chg [] w3.drew w' → S17 lb gs os n c k x w' from fun w' g => ⟨by rw [g.cell' (p := ⟨lb, 0, none⟩) BL3.lt (by simp)]; exact hS0.1, by rw [g.cell' (p := ⟨gs, os + k, none⟩) lgs3 (by simp)]; exact hS0.2⟩)
     have HVd := hide ((unhide HV3).chg ((Chg.refl [] w3).drew))
     rcases hres with ⟨hat, rfl⟩ | ⟨hat, t, p, rfl⟩
     ·have hv64 := atoi_bd hat
      by_cases hit : Lib.itoa v3 = x
      ·have hcmp : ((strA (Lib.itoa v3)).toList == (strA x).toList) = true := by rw [strA_toL, strA_toL, hit]; simp
       have HNUM := hide (numL_some hat hit)
       clear hat hit
       go_wp2_with fail
       refine wp_region_noPanic ?_
       refine wp_region_held_drew (S := (fun w' => S17 lb gs os n c k x w')) (by kernel_rfl) hS0 (fun hH => ?_)
       refine tk 0 rfl hH ?_
       walk_nrm
       refine tk (v := .bool false) 1 rfl hH ?_ (hz := by intro W' hSw; (try dsimp only at hSw); go_simp; (try simp); try with_reducible rfl)
       walk_nrm
       refine tk 2 rfl hH ?_
       walk_nrm
       refine tk 3 rfl hH ?_
       walk_nrm
       refine tk 5 rfl hH ?_
       walk_nrm
       refine tk 6 rfl hH ?_
       walk_nrm
       refine tk 7 rfl hH ?_
       walk_nrm
       refine tk 8 rfl hH ?_
       walk_nrm
       refine rd 4 rfl (fun K hK => ?_)
       go_simp
       refine (num_any v3 _ hv64 (unhide HVd)).mono ?_
       rintro e w6 ⟨rfl, g6⟩
       refine hK.out _ _ (unhide HSN w6 g6) (fun hH2 => ?_)
       clear hK K hH
       have hH := hH2
       clear hH2
       walk_nrm
       refine tk (v := .bool false) 9 rfl hH ?_ (hz := by intro W' hSw; (try dsimp only at hSw); go_simp; (try simp [hcmp]); try with_reducible rfl)
       walk_nrm
       refine tk 10 rfl hH ?_
       walk_nrm
       refine wpAnyH_done (by kernel_rfl) ?_ _
       refine NoPanic.normal ?_
       clear hH
       have GV6 := Gw3.drew.trans g6 (by simp)
       have BN6 := Blk.chg (show Blk w3.drew nb #[v] 72 from BN3) g6 (by simp)
       have own6 := own_chg (show w3.drew.ownsRow _ _ _ _ _ _ from own3) g6
       have G6 := (G3.drew).trans (g6.wide (cs := [nb]) (by simp)) (fun y hy => .inl hy)
       have cv6 : w6.cell? ⟨nb, 0, none⟩ = some v := BN6.cell 0
       have lb6 := BN6.lt
       have HCH := hide (mapM_snoc (unhide HM) (unhide HNUM))
       have HTK := hide (show r.take (k - 1) ++ [x] = r.take (k + 1 - 1) by rw [show k + 1 - 1 = (k - 1) + 1 by omega, List.take_add_one, unhide HX]; rfl)
       have hI := unhide HI
       have HI2 := hide (show ∀ y ∈ ns ++ [v3], I64 y from fun y hy => by rcases List.mem_append.1 hy with hy | hy; exact hI y hy; simp at hy; subst hy; exact hv64)
       clear hI BN3 own3 G3 g6 hS0
       go_wp2_with (at_builtin; refine wpList_append_own _ rfl (.tmp 86) (.tmp 88) 72 rfl w2.heap.size 3 i0 _ 1 8 Tryz.underlying72 hi hz0 hz1 hz2 rfl (by decide) v ns.length (ns.map (.int .i64)) rfl (own6.alloc _) ⟨w6.heap.size, 0, none⟩ 1 1 [.int .i64 v3] rfl rfl (Blk.new w6 #[.int .i64 v3] _).news (by simp [Value.oneCell']) (by unfold maxLen; omega) (by omega) (by have := G6.size; simp; omega) ?_; intro v7 w7 own7 gr7 _; obtain ⟨g7, cc7, rfl, -, -, -⟩ := own_shape own7 (by omega); have nb7 : v.ownBlock ≠ some nb := (fun e => by have := (own6.lt _ e).1; omega); have BN7 : Blk w7 nb #[v] 72 := grown_heap gr7 (BN6.alloc _) nb7; have cv7 : w7.cell? ⟨nb, 0, none⟩ = some v := BN7.cell 0; have fz7 := BN7.fz 0; have lb7 := BN7.lt; have G7 := (G6.alloc _).grown gr7 (fun y hy => .inr (own6.lt y hy).1); clear gr7 cv6 BN6)
       have kS := (Chg.refl [nb] w7).setCell (p := ⟨nb, 0, none⟩) (by simp) (.slice (some ⟨g7, 0, none⟩) (ns.length + 1) cc7)
       have BN8 := BN7.set 0 (.slice (some ⟨g7, 0, none⟩) (ns.length + 1) cc7)
       have own8 := own_keep own7 kS (by intro y hy e; simp at hy; subst hy; have := (own7.lt _ e).1; omega)
       have G8 := G7.trans kS (fun y hy => .inl hy)
       clear own7 kS G7 own6 G6 BN7
       go_roundw
       case rel => exact ⟨k + 1, ns ++ [v3], _, by omega, by omega, by go_num, hide (by rw [← unhide HTK]; exact unhide HCH), HI2, hide (by rw [List.length_append, unhide HNL]; simp; omega), BN8, by rw [List.map_append, List.length_append]; exact own8, G8⟩
       case measure => go_light; simp [intOf]; omega
      ·obtain ⟨v', -, hv'⟩ := mapM_each (unhide HMR) (unhide HX)
       rw [numL_long hat hit] at hv'
       cases hv'
     ·obtain ⟨v', -, hv'⟩ := mapM_each (unhide HMR) (unhide HX)
      rw [numL_none hat] at hv'
      cases hv'
    ·have hki : ¬ (k : Int) < (n : Int) := by omega
     have hke : k = n := by omega
     have hrl : r.length = n - 1 := by have := unhide HN; simp at this; omega
     have hns : ns = ms := by
      have h1 := unhide HM
      rw [hke, List.take_of_length_le (by omega), unhide HMR] at h1
      exact (Option.some.inj h1).symm
     subst hns
     obtain ⟨av, cv, rfl, hcv, hN⟩ := own_nmsD hown (unhide HI)
     have lN : wr.cell? ⟨nb, 0, none⟩ = some (.slice av ns.length cv) := BN.cell 0
     have HL1 := hide (show Ln1 w wr lb nb gs os n c w0 ns av cv from ⟨lL, (hG.cell' (p := ⟨gs, os, none⟩) hg (by simp; exact gn)).trans ((unhide HL0).C 0 w0 rfl), lN, hN, llb, lnb, lgs, by omega, Gw⟩)
     clear hke hrl HM HNL hown hG BN BL B2 HL0 HWL HW HN HI hcv hN Gw lN zG
     obtain ⟨n0, n1, n2, n3, n4⟩ := stepW_tnone hs
     have B0 := hide (isf (t := ⟨#[97, 100, 100]⟩) (many := 2) (q := ns.length) n0)
     have B1 := hide (isf (t := ⟨#[116, 97, 107, 101]⟩) (many := 3) (q := ns.length) n1)
     have B2 := hide (isf (t := ⟨#[114, 101, 110, 101, 119]⟩) (many := 5) (q := ns.length) n2)
     have B3 := hide (isf (t := ⟨#[100, 111, 110, 101]⟩) (many := 4) (q := ns.length) n3)
     have B4 := hide (isf (t := ⟨#[100, 114, 111, 112]⟩) (many := 4) (q := ns.length) n4)
     clear hs n0 n1 n2 n3 n4
     go_upto_block 2 with fail
     have kA : Chg [] wr (wr.alloc (.cells #[.int .i64 0, .int .i64 0, .int .i64 0, .int .i64 0, .int .i64 0, .int .i64 0, .int .i64 0, .int .i64 0, .int .i64 0] 85)) := (Chg.refl [] wr).alloc _
     have HLA := hide ((unhide HL1).chg kA)
     have BX := Blk.new wr #[.int .i64 0, .int .i64 0, .int .i64 0, .int .i64 0, .int .i64 0, .int .i64 0, .int .i64 0, .int .i64 0, .int .i64 0] 85
     have zx : w.heap.size ≤ wr.heap.size := (unhide HL1).G.size
     clear HL1 kA lL
     generalize wr.alloc (.cells #[.int .i64 0, .int .i64 0, .int .i64 0, .int .i64 0, .int .i64 0, .int .i64 0, .int .i64 0, .int .i64 0, .int .i64 0] 85) = wa at *
     generalize wr.heap.size = xb at *
     have cx0 : wa.cell? ⟨xb, 0, none⟩ = some (.int .i64 0) := BX.cell 0
     have lx := BX.lt
     have HG := hide (unhide HLA).G
     by_cases hh : w0 = wOpen ∧ ns.length = 1
     ·have B5 := hide (isb_true (t := { data := #[111, 112, 101, 110] }) (many := 1) (q := (ns.length : Int)) (hh.1.trans (strA_toL wOpen).symm) (by have := hh.2; omega))
      have B6 := hide (isb_false (t := { data := #[100, 111, 119, 110] }) (many := 1) (w0 := w0) (q := ns.length) (by intro h; exact (fun h2 : w0 = wDown ∧ ns.length = 1 => by have := h2.1; rw [hh.1] at this; revert this; decide) ⟨h.1.trans (strA_toL wDown), by have := h.2; omega⟩))
      have B7 := hide (isb_false (t := { data := #[116, 105, 99, 107] }) (many := 1) (w0 := w0) (q := ns.length) (by intro h; exact (fun h2 : w0 = wTick ∧ ns.length = 1 => by have := h2.1; rw [hh.1] at this; revert this; decide) ⟨h.1.trans (strA_toL wTick), by have := h.2; omega⟩))
      clear hh
      go_wp2_with (first
       | (go_at_call 42; (first | with_reducible refine ((unhide HLA).is B0).mono ?_ | with_reducible refine ((unhide HLA).is B1).mono ?_ | with_reducible refine ((unhide HLA).is B2).mono ?_ | with_reducible refine ((unhide HLA).is B3).mono ?_ | with_reducible refine ((unhide HLA).is B4).mono ?_ | with_reducible refine ((unhide HLA).is B5).mono ?_ | with_reducible refine ((unhide HLA).is B6).mono ?_ | with_reducible refine ((unhide HLA).is B7).mono ?_); rintro e w' ⟨rfl, hw'⟩; subst w')
       | (go_at_call 39; refine (say_any db m.cb told wWhat _ (Blk.chg (unhide HD).d (unhide HG) (by simp)) (by unfold wWhat; simp; omega)).mono ?_; rintro e wE ⟨rfl, dE, gE⟩))
      (try simp only [Exit.inBlock, Exit.then])
      refine bodyPost_ret (results_none rfl _ _ _) rfl ?_
      exact ⟨rfl, _, (unhide HD).tells (unhide HG) dE gE⟩
     have B5 := hide (isf (t := ⟨#[111, 112, 101, 110]⟩) (many := 1) (q := ns.length) hh)
     clear hh
     by_cases hh : w0 = wDown ∧ ns.length = 1
     ·have B6 := hide (isb_true (t := { data := #[100, 111, 119, 110] }) (many := 1) (q := (ns.length : Int)) (hh.1.trans (strA_toL wDown).symm) (by have := hh.2; omega))
      have B7 := hide (isb_false (t := { data := #[116, 105, 99, 107] }) (many := 1) (w0 := w0) (q := ns.length) (by intro h; exact (fun h2 : w0 = wTick ∧ ns.length = 1 => by have := h2.1; rw [hh.1] at this; revert this; decide) ⟨h.1.trans (strA_toL wTick), by have := h.2; omega⟩))
      clear hh
      go_wp2_with (first
       | (go_at_call 42; (first | with_reducible refine ((unhide HLA).is B0).mono ?_ | with_reducible refine ((unhide HLA).is B1).mono ?_ | with_reducible refine ((unhide HLA).is B2).mono ?_ | with_reducible refine ((unhide HLA).is B3).mono ?_ | with_reducible refine ((unhide HLA).is B4).mono ?_ | with_reducible refine ((unhide HLA).is B5).mono ?_ | with_reducible refine ((unhide HLA).is B6).mono ?_ | with_reducible refine ((unhide HLA).is B7).mono ?_); rintro e w' ⟨rfl, hw'⟩; subst w')
       | (go_at_call 39; refine (say_any db m.cb told wWhat _ (Blk.chg (unhide HD).d (unhide HG) (by simp)) (by unfold wWhat; simp; omega)).mono ?_; rintro e wE ⟨rfl, dE, gE⟩))
      (try simp only [Exit.inBlock, Exit.then])
      refine bodyPost_ret (results_none rfl _ _ _) rfl ?_
      exact ⟨rfl, _, (unhide HD).tells (unhide HG) dE gE⟩
     have B6 := hide (isf (t := ⟨#[100, 111, 119, 110]⟩) (many := 1) (q := ns.length) hh)
     clear hh
     by_cases hh : w0 = wTick ∧ ns.length = 1
     ·have B7 := hide (isb_true (t := { data := #[116, 105, 99, 107] }) (many := 1) (q := (ns.length : Int)) (hh.1.trans (strA_toL wTick).symm) (by have := hh.2; omega))
      clear hh
      go_wp2_with (first
       | (go_at_call 42; (first | with_reducible refine ((unhide HLA).is B0).mono ?_ | with_reducible refine ((unhide HLA).is B1).mono ?_ | with_reducible refine ((unhide HLA).is B2).mono ?_ | with_reducible refine ((unhide HLA).is B3).mono ?_ | with_reducible refine ((unhide HLA).is B4).mono ?_ | with_reducible refine ((unhide HLA).is B5).mono ?_ | with_reducible refine ((unhide HLA).is B6).mono ?_ | with_reducible refine ((unhide HLA).is B7).mono ?_); rintro e w' ⟨rfl, hw'⟩; subst w')
       | (go_at_call 39; refine (say_any db m.cb told wWhat _ (Blk.chg (unhide HD).d (unhide HG) (by simp)) (by unfold wWhat; simp; omega)).mono ?_; rintro e wE ⟨rfl, dE, gE⟩))
      (try simp only [Exit.inBlock, Exit.then])
      refine bodyPost_ret (results_none rfl _ _ _) rfl ?_
      exact ⟨rfl, _, (unhide HD).tells (unhide HG) dE gE⟩
     have B7 := hide (isf (t := ⟨#[116, 105, 99, 107]⟩) (many := 1) (q := ns.length) hh)
     clear hh
     go_wp2_with (first
      | (go_at_call 42; (first | with_reducible refine ((unhide HLA).is B0).mono ?_ | with_reducible refine ((unhide HLA).is B1).mono ?_ | with_reducible refine ((unhide HLA).is B2).mono ?_ | with_reducible refine ((unhide HLA).is B3).mono ?_ | with_reducible refine ((unhide HLA).is B4).mono ?_ | with_reducible refine ((unhide HLA).is B5).mono ?_ | with_reducible refine ((unhide HLA).is B6).mono ?_ | with_reducible refine ((unhide HLA).is B7).mono ?_); rintro e w' ⟨rfl, hw'⟩; subst w')
      | (go_at_call 39; refine (say_any db m.cb told wWhat _ (Blk.chg (unhide HD).d (unhide HG) (by simp)) (by unfold wWhat; simp; omega)).mono ?_; rintro e wE ⟨rfl, dE, gE⟩))
     (try simp only [Exit.inBlock, Exit.then])
     refine bodyPost_ret (results_none rfl _ _ _) rfl ?_
     exact ⟨rfl, _, (unhide HD).tells (unhide HG) dE gE⟩
  ·have := numL_long hat hit
   rw [unhide HK] at this
   cases this
 ·have := numL_none hat
  rw [unhide HK] at this
  cases this
end Go.Proofs.YtllnjiljjodfdacGreatDoor
