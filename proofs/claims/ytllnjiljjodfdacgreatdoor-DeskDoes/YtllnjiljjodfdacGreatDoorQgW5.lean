/-
 What checking an order does. Nothing here is claimed by itself.
-/
import Derived.Test.YtllnjiljjodfdacGreatDoorQgW1
import Derived.Test.YtllnjiljjodfdacGreatDoorQgBase
namespace Go.Proofs.YtllnjiljjodfdacGreatDoor
open Go.RowKit

set_option maxHeartbeats 1000000 in
theorem partsOf_any (k : Int) (w : World) :
  Calls Tryz.prog 130 #[.int .i64 k] w fun e w' => e = .returned (.tuple #[.agg #[.bool (hJob k), .bool (hTry k), .bool (hWrk k), .bool (hTrm k)], .bool (knownB k)]) ∧ Chg [] w w' := by
 by_cases h1 : k = 1
 ·subst h1
  go_enter Tryz.func130, Tryz.ntmps130
  go_wp2
  go_returns
  exact ⟨rfl, (Chg.refl _ _).alloc _⟩
 by_cases h2 : k = 2
 ·subst h2
  go_enter Tryz.func130, Tryz.ntmps130
  go_wp2
  go_returns
  exact ⟨rfl, (Chg.refl _ _).alloc _⟩
 by_cases h3 : k = 3
 ·subst h3
  go_enter Tryz.func130, Tryz.ntmps130
  go_wp2
  go_returns
  exact ⟨rfl, (Chg.refl _ _).alloc _⟩
 by_cases h4 : k = 4
 ·subst h4
  go_enter Tryz.func130, Tryz.ntmps130
  go_wp2
  go_returns
  exact ⟨rfl, (Chg.refl _ _).alloc _⟩
 by_cases h5 : k = 5
 ·subst h5
  go_enter Tryz.func130, Tryz.ntmps130
  go_wp2
  go_returns
  exact ⟨rfl, (Chg.refl _ _).alloc _⟩
 have b1 : (k == 1) = false := by simpa using h1
 have b2 : (k == 2) = false := by simpa using h2
 have b3 : (k == 3) = false := by simpa using h3
 have b4 : (k == 4) = false := by simpa using h4
 have b5 : (k == 5) = false := by simpa using h5
 have e1 : hJob k = false := by simp [hJob, b1, b3, b4, b5]
 have e2 : hTry k = false := by simp [hTry, b3, b4, b5]
 have e3 : hWrk k = false := by simp [hWrk, b2, b3, b4, b5]
 have e4 : hTrm k = false := by simp [hTrm, b2, b3]
 have e5 : knownB k = false := by simp [knownB, inB]; omega
 rw [e1, e2, e3, e4, e5]
 clear e1 e2 e3 e4 e5
 go_enter Tryz.func130, Tryz.ntmps130
 go_wp2
 go_returns
 exact ⟨rfl, (Chg.refl _ _).alloc _⟩
set_option maxHeartbeats 1000000 in
theorem inForm_any (o : Od) (p q r s : Bool) (w : World) :
  Calls Tryz.prog 131 #[.agg #[.int .i64 o.k, .int .i64 o.now, .int .i64 o.jb, .int .i64 o.tr, .int .i64 o.wk, .int .i64 o.tm], .agg #[.bool p, .bool q, .bool r, .bool s]] w fun e w' => e = .returned (.bool (formB o p q r s)) ∧ Chg [] w w' := by
 have hv : formB o p q r s = ((p || o.jb == 0) && (q || o.tr == 0) && (r || o.wk == 0) && (s || o.tm == 0)) := rfl
 generalize formB o p q r s = v at hv
 have HV := hide hv
 clear hv
 go_enter Tryz.func131, Tryz.ntmps131
 cases p <;> cases q <;> cases r <;> cases s
 all_goals
  go_wp2
 all_goals
  go_ret
  refine ⟨?_, ((Chg.refl _ _).alloc _).alloc _⟩
  rw [unhide HV]
  simp [*]
set_option maxHeartbeats 1000000 in
theorem inRange_any (o : Od) (p q r s : Bool) (w : World) :
  Calls Tryz.prog 132 #[.agg #[.int .i64 o.k, .int .i64 o.now, .int .i64 o.jb, .int .i64 o.tr, .int .i64 o.wk, .int .i64 o.tm], .agg #[.bool p, .bool q, .bool r, .bool s]] w fun e w' => e = .returned (.bool (rangeB o q s)) ∧ Chg [] w w' := by
 have hv : rangeB o q s = (inB o.now 0 60000 && inB o.jb 0 5 && inB o.wk 0 3 && (!q || inB o.tr 1 3) && (!s || inB o.tm 1 20)) := rfl
 generalize rangeB o q s = v at hv
 have HV := hide hv
 clear hv
 go_enter Tryz.func132, Tryz.ntmps132
 cases q <;> cases s
 all_goals
  go_wp2_with (first | (go_at_call 103; refine (within_any _ _ _ _).mono ?_; rintro e w' ⟨rfl, rfl⟩) | (go_at_call 74; refine (isJob_any _ _).mono ?_; rintro e w' ⟨rfl, rfl⟩))
 all_goals
  go_ret
  refine ⟨?_, ((Chg.refl _ _).alloc _).alloc _⟩
  rw [unhide HV]
  simp [*]
set_option maxHeartbeats 1000000 in
theorem check_any (o : Od) (w : World) :
  Calls Tryz.prog 106 #[.agg #[.int .i64 o.k, .int .i64 o.now, .int .i64 o.jb, .int .i64 o.tr, .int .i64 o.wk, .int .i64 o.tm]] w fun e w' => e = .returned (.int .i64 (chk o)) ∧ Chg [] w w' := by
 have hc : chk o = if knownB o.k = false then 1 else if formB o (hJob o.k) (hTry o.k) (hWrk o.k) (hTrm o.k) = false then 2 else if rangeB o (hTry o.k) (hTrm o.k) = false then 3 else 0 := rfl
 have HC := hide hc
 clear hc
 go_enter Tryz.func106, Tryz.ntmps106
 go_wp2_with fail
 refine (partsOf_any _ _).mono ?_
 rintro e w1 ⟨rfl, hg1⟩
 have o1 := (Blk.new w #[.int .i64 o.k, .int .i64 o.now, .int .i64 o.jb, .int .i64 o.tr, .int .i64 o.wk, .int .i64 o.tm] 83).chg hg1 (by simp)
 have hz1 := o1.lt
 obtain ⟨p0, p1, p2, p3, p4, p5⟩ := o1.six
 cases hk : knownB o.k
 ·have hv : chk o = 1 := by rw [unhide HC, if_pos hk]
  have HV := hide hv
  clear hv hk
  go_wp2
  go_ret
  exact ⟨by rw [unhide HV]; rfl, ((((Chg.refl _ _).alloc _).trans hg1 (by simp)).alloc _)⟩
 ·have HK := hide hk
  clear hk
  go_wp2_with fail
  refine (inForm_any o _ _ _ _ _).mono ?_
  rintro e w2 ⟨rfl, hg2⟩
  have o2 := (o1.alloc _).chg hg2 (by simp)
  have q2 := (Blk.new w1 _ _).chg hg2 (by simp)
  have hz2 := q2.lt
  clear p0 p1 p2 p3 p4 p5
  obtain ⟨p0, p1, p2, p3, p4, p5⟩ := o2.six
  obtain ⟨a0, a1, a2, a3⟩ := q2.four
  cases hf : formB o (hJob o.k) (hTry o.k) (hWrk o.k) (hTrm o.k)
  ·have hv : chk o = 2 := by rw [unhide HC, if_neg (by rw [unhide HK]; simp), if_pos hf]
   have HV := hide hv
   clear hv hf
   go_wp2
   go_ret
   exact ⟨by rw [unhide HV]; rfl, ((((Chg.refl _ _).alloc _).trans hg1 (by simp)).alloc _).trans hg2 (by simp)⟩
  ·have HF := hide hf
   clear hf
   go_wp2_with fail
   refine (inRange_any o _ _ _ _ _).mono ?_
   rintro e w3 ⟨rfl, hg3⟩
   cases hr : rangeB o (hTry o.k) (hTrm o.k)
   ·have hv : chk o = 3 := by rw [unhide HC, if_neg (by rw [unhide HK]; simp), if_neg (by rw [unhide HF]; simp), if_pos hr]
    have HV := hide hv
    clear hv hr
    go_wp2
    go_ret
    exact ⟨by rw [unhide HV]; rfl, (((((Chg.refl _ _).alloc _).trans hg1 (by simp)).alloc _).trans hg2 (by simp)).trans hg3 (by simp)⟩
   ·have hv : chk o = 0 := by rw [unhide HC, if_neg (by rw [unhide HK]; simp), if_neg (by rw [unhide HF]; simp), if_neg (by rw [hr]; simp)]
    have HV := hide hv
    clear hv hr
    go_wp2
    go_ret
    exact ⟨by rw [unhide HV]; rfl, (((((Chg.refl _ _).alloc _).trans hg1 (by simp)).alloc _).trans hg2 (by simp)).trans hg3 (by simp)⟩
set_option maxHeartbeats 1000000 in
theorem obey_any (b n : Nat) (hn : n < 6) (k now tr wk tm : Int) (T : Tb) (w : World) (h : Has 151 w b T) (hnow : 0 ≤ T.now ∧ T.now ≤ 60000) (htm : 0 ≤ tm ∧ tm ≤ 20) (hk : 1 ≤ k ∧ k ≤ 5) (htr : ∀ n, n < 6 → 0 ≤ (T.js n).tr ∧ (T.js n).tr ≤ 3) :
  Calls Tryz.prog 109 #[.pointer (some ⟨b, 0, none⟩), .agg #[.int .i64 k, .int .i64 now, .int .i64 n, .int .i64 tr, .int .i64 wk, .int .i64 tm]] w fun e w' =>
   e = .returned (.agg #[.int .i64 (obeyT T ⟨k, now, n, tr, wk, tm⟩).2.code, .int .i64 (obeyT T ⟨k, now, n, tr, wk, tm⟩).2.jb, .int .i64 (obeyT T ⟨k, now, n, tr, wk, tm⟩).2.tr]) ∧ Has 151 w' b (obeyT T ⟨k, now, n, tr, wk, tm⟩).1 ∧ Chg [b] w w' := by
 have hl := h.lt
 by_cases e1 : k = 1
 ·subst e1
  have e : obeyT T ⟨1, now, n, tr, wk, tm⟩ = addT T n := by simp [obeyT]
  rw [e]
  clear e
  go_enter Tryz.func109, Tryz.ntmps109
  go_wp2_with fail
  refine (add_any b n hn T _ ((h.alloc _).alloc _)).mono ?_
  rintro e w1 ⟨rfl, hT1, hg1⟩
  have z1 := hg1.size
  simp only [World.size_alloc] at z1
  have z2 : w.heap.size + 1 < w1.heap.size := by omega
  obtain ⟨r0, r1, r2, g0, g1, g2⟩ := ((Blk.new1 w _ #[.int .i64 0, .int .i64 0, .int .i64 0] 95).chg hg1 (by simp; omega)).three
  go_wp2
  obtain ⟨q0, q1, q2⟩ := set3 r0 r1 r2 (.int .i64 (addT T n).2.code) (.int .i64 (addT T n).2.jb) (.int .i64 (addT T n).2.tr)
  refine bodyPost_ret (v := .agg #[.int .i64 (addT T n).2.code, .int .i64 (addT T n).2.jb, .int .i64 (addT T n).2.tr]) (by simp [results, Tryz.results109, go_sem, q0, q1, q2]) rfl ?_
  exact ⟨rfl, ((hT1.setOther (by simp; omega) _).setOther (by simp; omega) _).setOther (by simp; omega) _, ((((((Chg.refl [b] w).alloc _).alloc _).trans hg1 (by simp)).setCell (by simp) _).setCell (by simp) _).setCell (by simp) _⟩
 by_cases e2 : k = 2
 ·subst e2
  have e : obeyT T ⟨2, now, n, tr, wk, tm⟩ = takeT T wk tm := by simp [obeyT]
  rw [e]
  clear e e1
  go_enter Tryz.func109, Tryz.ntmps109
  go_wp2_with fail
  refine (take_any b wk tm T _ ((h.alloc _).alloc _) hnow htm htr).mono ?_
  rintro e w1 ⟨rfl, hT1, hg1⟩
  have z1 := hg1.size
  simp only [World.size_alloc] at z1
  have z2 : w.heap.size + 1 < w1.heap.size := by omega
  obtain ⟨r0, r1, r2, g0, g1, g2⟩ := ((Blk.new1 w _ #[.int .i64 0, .int .i64 0, .int .i64 0] 95).chg hg1 (by simp; omega)).three
  go_wp2
  obtain ⟨q0, q1, q2⟩ := set3 r0 r1 r2 (.int .i64 (takeT T wk tm).2.code) (.int .i64 (takeT T wk tm).2.jb) (.int .i64 (takeT T wk tm).2.tr)
  refine bodyPost_ret (v := .agg #[.int .i64 (takeT T wk tm).2.code, .int .i64 (takeT T wk tm).2.jb, .int .i64 (takeT T wk tm).2.tr]) (by simp [results, Tryz.results109, go_sem, q0, q1, q2]) rfl ?_
  exact ⟨rfl, ((hT1.setOther (by simp; omega) _).setOther (by simp; omega) _).setOther (by simp; omega) _, ((((((Chg.refl [b] w).alloc _).alloc _).trans hg1 (by simp)).setCell (by simp) _).setCell (by simp) _).setCell (by simp) _⟩
 have e : obeyT T ⟨k, now, n, tr, wk, tm⟩ = heedT T ⟨k, now, n, tr, wk, tm⟩ := by simp [obeyT, e1, e2]
 rw [e]
 have b1 : (k == 1) = false := by simpa using e1
 have b2 : (k == 2) = false := by simpa using e2
 have hk3 : 3 ≤ k ∧ k ≤ 5 := by omega
 clear e e1 e2 hk
 have HK := hide hk3
 clear hk3
 have hca := fun w h => heed_any b n hn k now tr wk tm T w h hnow htm (unhide HK)
 generalize heedT T ⟨k, now, n, tr, wk, tm⟩ = R at *
 have HCA := hide hca
 clear hca
 go_enter Tryz.func109, Tryz.ntmps109
 go_wp2_with fail
 refine ((unhide HCA) _ ((h.alloc _).alloc _)).mono ?_
 rintro e w1 ⟨rfl, hT1, hg1⟩
 have z1 := hg1.size
 simp only [World.size_alloc] at z1
 have z2 : w.heap.size + 1 < w1.heap.size := by omega
 obtain ⟨r0, r1, r2, g0, g1, g2⟩ := ((Blk.new1 w _ #[.int .i64 0, .int .i64 0, .int .i64 0] 95).chg hg1 (by simp; omega)).three
 go_wp2
 obtain ⟨q0, q1, q2⟩ := set3 r0 r1 r2 (.int .i64 R.2.code) (.int .i64 R.2.jb) (.int .i64 R.2.tr)
 refine bodyPost_ret (v := .agg #[.int .i64 R.2.code, .int .i64 R.2.jb, .int .i64 R.2.tr]) (by simp [results, Tryz.results109, go_sem, q0, q1, q2]) rfl ?_
 exact ⟨rfl, ((hT1.setOther (by simp; omega) _).setOther (by simp; omega) _).setOther (by simp; omega) _, ((((((Chg.refl [b] w).alloc _).alloc _).trans hg1 (by simp)).setCell (by simp) _).setCell (by simp) _).setCell (by simp) _⟩
set_option maxHeartbeats 2000000 in
theorem do_any (b : Nat) (o : Od) (T : Tb) (w : World) (h : Has 151 w b T) (hF : Fit T) :
  Calls Tryz.prog 78 #[.pointer (some ⟨b, 0, none⟩), .agg #[.int .i64 o.k, .int .i64 o.now, .int .i64 o.jb, .int .i64 o.tr, .int .i64 o.wk, .int .i64 o.tm]] w fun e w' =>
   e = .returned (.agg #[.int .i64 (doT T o).2.code, .int .i64 (doT T o).2.jb, .int .i64 (doT T o).2.tr]) ∧ Has 151 w' b (doT T o).1 ∧ Chg [b] w w' := by
 have hl := h.lt
 have hd : doT T o = if chk o ≠ 0 then (T, ⟨chk o, 0, 0⟩) else if (obeyT (passT T o.now) o).2.code = 0 then obeyT (passT T o.now) o else (T, (obeyT (passT T o.now) o).2) := rfl
 have HD := hide hd
 clear hd
 go_enter Tryz.func78, Tryz.ntmps78
 go_wp2_with fail
 refine (check_any o _).mono ?_
 rintro e w1 ⟨rfl, hg1⟩
 have z1 := hg1.size
 simp only [World.size_alloc] at z1
 have z2 : w.heap.size + 1 < w1.heap.size := by omega
 have hT1 := ((h.alloc _).alloc _).chg hg1 (by simp)
 have B1 := (Blk.new1 w _ #[.int .i64 0, .int .i64 0, .int .i64 0] 95).chg hg1 (by simp)
 have O1 := ((Blk.new w _ _).alloc _).chg hg1 (by simp)
 have G1 := ((((Chg.refl [b] w).alloc _).alloc _).trans hg1 (by simp))
 clear hg1 z1
 by_cases hc : chk o = 0
 ·obtain ⟨k1, k2, k3, k4, k5, k6, k7, k8⟩ := chk_zero hc
  have b1 : (chk o != 0) = false := by simp [hc]
  have hv : doT T o = if (obeyT (passT T o.now) o).2.code = 0 then obeyT (passT T o.now) o else (T, (obeyT (passT T o.now) o).2) := by rw [unhide HD, if_neg (by simp [hc])]
  have HV := hide hv
  obtain ⟨ok, onow, ojb, otr, owk, otm⟩ := o
  simp only at k1 k2 k3 k4 k5 k6 k7 k8
  obtain ⟨n, rfl⟩ : ∃ n : Nat, ojb = n := ⟨ojb.toNat, by omega⟩
  have hn : n < 6 := by omega
  have FP : Fit (passT T onow) := hF.pass k2.2
  clear hv hc HD k3 k4 k5 k7 k8
  go_wp2_with fail
  refine (own_any b T _ hT1).mono ?_
  rintro e w2 ⟨rfl, hN2, hg2⟩
  have hT2 := hT1.chg hg2 (by simp)
  have B2 := B1.chg hg2 (by simp)
  have O2 := O1.chg hg2 (by simp)
  have G2 := G1.trans hg2 (by simp)
  have z3 := hN2.lt
  obtain ⟨p0, p1, p2, p3, p4, p5⟩ := O2.six
  clear hg2
  go_wp2_with fail
  refine (pass_any w1.heap.size T onow _ hN2).mono ?_
  rintro e w3 ⟨rfl, hN3, hg3⟩
  have hT3 := hT2.chg hg3 (by simp; omega)
  have B3 := B2.chg hg3 (by simp; omega)
  have O3 := O2.chg hg3 (by simp; omega)
  have G3 := G2.trans hg3 (by simp; omega)
  have z4 := hN3.lt
  clear hg3 p0 p1 p2 p3 p4 p5
  obtain ⟨p0, p1, p2, p3, p4, p5⟩ := O3.six
  go_wp2_with fail
  refine (obey_any w1.heap.size n hn ok onow otr owk otm (passT T onow) _ hN3 FP.1 k6 k1 FP.2).mono ?_
  rintro e w4 ⟨rfl, hN4, hg4⟩
  have hT4 := hT3.chg hg4 (by simp; omega)
  have B4 := B3.chg hg4 (by simp; omega)
  have G4 := G3.trans hg4 (by simp; omega)
  have z5 := hN4.lt
  have z6 := hT4.lt
  clear hg4 p0 p1 p2 p3 p4 p5 O1 O2 O3 hT1 hT2 hT3 hN2 hN3 B1 B2 B3 G1 G2 G3
  generalize obeyT (passT T onow) ⟨ok, onow, n, otr, owk, otm⟩ = R at *
  by_cases hz : R.2.code = 0
  ·have b2 : (R.2.code == 0) = true := by simpa using hz
   have hv2 : doT T ⟨ok, onow, n, otr, owk, otm⟩ = R := by rw [unhide HV, if_pos hz]
   have HV2 := hide hv2
   clear hv2 HV hz
   go_wp2_with (first | (refine wpList_load_tab 151 tabRow tabInfo rfl _ rfl w1.heap.size rfl 151 R.1 (hN4.alloc _) ?_) | (refine wpList_store_tab 151 tabInfo rfl _ _ rfl b rfl R.1 rfl 151 T (hT4.alloc _) ?_; intro w5 hT5 hg5 hz5; obtain ⟨a0, a1, a2, _, _, _⟩ := ((Blk.new w4 _ _).chg hg5 (by simp; omega)).three; have B5 := (B4.alloc _).chg hg5 (by simp; omega); obtain ⟨r0, r1, r2, g0, g1, g2⟩ := B5.three; have G5 := (G4.alloc _).trans hg5 (by simp); clear hz5 hg5))
   obtain ⟨q0, q1, q2⟩ := set3 r0 r1 r2 (.int .i64 R.2.code) (.int .i64 R.2.jb) (.int .i64 R.2.tr)
   refine bodyPost_ret (v := .agg #[.int .i64 R.2.code, .int .i64 R.2.jb, .int .i64 R.2.tr]) (by simp [results, Tryz.results78, go_sem, q0, q1, q2]) rfl ?_
   rw [unhide HV2]
   exact ⟨rfl, ((hT5.setOther (by simp; omega) _).setOther (by simp; omega) _).setOther (by simp; omega) _, ((G5.setCell (by simp) _).setCell (by simp) _).setCell (by simp) _⟩
  ·have b2 : (R.2.code == 0) = false := by simpa using hz
   have hv2 : doT T ⟨ok, onow, n, otr, owk, otm⟩ = (T, R.2) := by rw [unhide HV, if_neg hz]
   have HV2 := hide hv2
   clear hv2 HV hz
   have z7 : w.heap.size + 1 < w4.heap.size := by omega
   obtain ⟨r0, r1, r2, g0, g1, g2⟩ := B4.three
   go_wp2
   obtain ⟨q0, q1, q2⟩ := set3 r0 r1 r2 (.int .i64 R.2.code) (.int .i64 R.2.jb) (.int .i64 R.2.tr)
   refine bodyPost_ret (v := .agg #[.int .i64 R.2.code, .int .i64 R.2.jb, .int .i64 R.2.tr]) (by simp [results, Tryz.results78, go_sem, q0, q1, q2, z7]) rfl ?_
   rw [unhide HV2]
   exact ⟨rfl, (((hT4.setOther (by simp; omega) _).setOther (by simp; omega) _).setOther (by simp; omega) _).alloc _, (((G4.setCell (by simp) _).setCell (by simp) _).setCell (by simp) _).alloc _⟩
 ·have hv : doT T o = (T, ⟨chk o, 0, 0⟩) := by rw [unhide HD, if_pos hc]
  have HV := hide hv
  have b1 : (chk o != 0) = true := by rw [bne_iff_ne]; exact hc
  clear hv hc
  obtain ⟨r0, r1, r2, g0, g1, g2⟩ := B1.three
  generalize chk o = c at *
  go_wp2
  obtain ⟨q0, q1, q2⟩ := set3 r0 r1 r2 (.int .i64 c) (.int .i64 0) (.int .i64 0)
  refine bodyPost_ret (v := .agg #[.int .i64 c, .int .i64 0, .int .i64 0]) (by simp [results, Tryz.results78, go_sem, q0, q1, q2]) rfl ?_
  rw [unhide HV]
  exact ⟨rfl, ((hT1.setOther (by simp; omega) _).setOther (by simp; omega) _).setOther (by simp; omega) _, ((G1.setCell (by simp) _).setCell (by simp) _).setCell (by simp) _⟩
end Go.Proofs.YtllnjiljjodfdacGreatDoor
