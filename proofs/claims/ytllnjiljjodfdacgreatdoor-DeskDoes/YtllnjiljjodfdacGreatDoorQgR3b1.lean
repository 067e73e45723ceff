/-
 The document's own table: what an order does to it. Nothing here is claimed by itself.
-/
import Derived.Deep.WholeRow
import Derived.Test.YtllnjiljjodfdacGreatDoorQgR3z
namespace Go.Proofs.YtllnjiljjodfdacGreatDoor
open Go.RowKit

set_option maxRecDepth 100000 in
set_option maxHeartbeats 8000000 in
theorem did_add1 (T : Tb) (k now jb tr wk tm : Int) (w : World) (hI : Inv T) (hc : chk ⟨k, now, jb, tr, wk, tm⟩ = 0) (e1 : k = 1) (es : ((passT T now).js jb.toNat).st = 0) :
  Calls Tryz.prog 94 #[.agg T.cells, .agg #[.int .i64 k, .int .i64 now, .int .i64 jb, .int .i64 tr, .int .i64 wk, .int .i64 tm]] w fun e w' =>
   e = .returned (.tuple #[.agg (doT T ⟨k, now, jb, tr, wk, tm⟩).1.cells, .agg #[.int .i64 (doT T ⟨k, now, jb, tr, wk, tm⟩).2.code, .int .i64 (doT T ⟨k, now, jb, tr, wk, tm⟩).2.jb, .int .i64 (doT T ⟨k, now, jb, tr, wk, tm⟩).2.tr]]) ∧ Chg [] w w' := by
 have HD := hide (show doT T ⟨k, now, jb, tr, wk, tm⟩ = if chk ⟨k, now, jb, tr, wk, tm⟩ ≠ 0 then (T, ⟨chk ⟨k, now, jb, tr, wk, tm⟩, 0, 0⟩) else if (obeyT (passT T now) ⟨k, now, jb, tr, wk, tm⟩).2.code = 0 then obeyT (passT T now) ⟨k, now, jb, tr, wk, tm⟩ else (T, (obeyT (passT T now) ⟨k, now, jb, tr, wk, tm⟩).2) from rfl)
 generalize hR : doT T ⟨k, now, jb, tr, wk, tm⟩ = RR at *
 clear hR
 have HE1 := hide e1
 have HC0 := hide hc
 have HS0 := hide es
 have HI0 := hide hI
 clear e1 hc es hI
 go_enter Tryz.func94, Tryz.ntmps94
 go_wp2_with fail
 refine (fault_any ⟨k, now, jb, tr, wk, tm⟩ _).mono ?_
 rintro e w1 ⟨rfl, g1⟩
 have hB := Blk.chg ((((Blk.new w T.cells 103).alloc _).alloc _).alloc _) g1 (by simp)
 have hO := Blk.chg (((Blk.new1 w _ #[.int .i64 k, .int .i64 now, .int .i64 jb, .int .i64 tr, .int .i64 wk, .int .i64 tm] 83).alloc _).alloc _) g1 (by simp)
 have hR := Blk.chg ((Blk.new2 w _ _ T0.cells 103).alloc _) g1 (by simp)
 have hA := Blk.chg (Blk.new3 w _ _ _ #[.int .i64 0, .int .i64 0, .int .i64 0] 95) g1 (by simp)
 have G1 := (((((Chg.refl [] w).alloc _).alloc _).alloc _).alloc _).trans g1 (by simp)
 replace hB : Has 103 w1 w.heap.size T := hB
 replace hR : Has 103 w1 (w.heap.size + 1 + 1) T0 := hR
 clear g1
 have e1 := unhide HE1
 have hc := unhide HC0
 have es := unhide HS0
 have hI := unhide HI0
 clear HC0 HS0 HI0 HE1
 have b1 : (chk ⟨k, now, jb, tr, wk, tm⟩ != 0) = false := by simp [hc]
 obtain ⟨k1, k2, k3, k4, k5, k6, k7, k8⟩ := chk_zero hc
 have HV := hide (show RR = if (obeyT (passT T now) ⟨k, now, jb, tr, wk, tm⟩).2.code = 0 then obeyT (passT T now) ⟨k, now, jb, tr, wk, tm⟩ else (T, (obeyT (passT T now) ⟨k, now, jb, tr, wk, tm⟩).2) by rw [unhide HD, if_neg (by simp [hc])])
 simp only at k1 k2 k3 k4 k5 k6
 obtain ⟨n, rfl⟩ : ∃ n : Nat, jb = n := ⟨jb.toNat, by omega⟩
 rw [Int.toNat_natCast] at es
 have hn : n < 6 := by omega
 have hn' : (n : Int) < 6 := by omega
 have IP : Inv (passT T now) := hI.pass k2.2
 clear hc HD k3 k5 k7 k8
 obtain ⟨p0, p1, p2, p3, p4, p5⟩ := hO.six
 have zb := hB.lt
 have zo := hO.lt
 have zr := hR.lt
 have za := hA.lt
 have HBX := hide hB
 have HI := hide hI
 have HIP := hide IP
 have HES := hide es
 have HEE := hide e1
 have HO6 := hide hO
 have HR6 := hide hR
 have HA6 := hide hA
 have HG6 := hide G1
 clear hB hI IP es hO hR hA G1 e1
 go_wp2_with (refine wpList_load_tab 103 brdRow brdInfo rfl _ rfl w.heap.size rfl 103 T ?hs ?_; (case hs => exact unhide HBX))
 have hB := unhide HBX
 have hI := unhide HI
 have IP := unhide HIP
 have es := unhide HES
 have e1 := unhide HEE
 have hO := unhide HO6
 have hR := unhide HR6
 have hA := unhide HA6
 have G1 := unhide HG6
 clear HBX HI HIP HES HEE HO6 HR6 HA6 HG6
 refine (later_any T now _ (fun m hm => (hI.fit.2 m hm).2)).mono ?_
 rintro e w2 ⟨rfl, g2⟩
 replace hB := hB.chg g2 (by simp)
 replace hO := hO.chg g2 (by simp)
 replace hR := hR.chg g2 (by simp)
 replace hA := hA.chg g2 (by simp)
 have G2 := G1.trans g2 (by simp)
 clear G1 g2 p0 p1 p2 p3 p4 p5 zb zo zr za
 obtain ⟨n0, n1⟩ := IP.fit.1
 obtain ⟨m0, m1⟩ := k6
 have TF := hide IP.fit.2
 have DP := hide (fun m (hm : m < 6) (hs : ((passT T now).js m).st = 2) => drop_pass IP hm hs)
 generalize passT T now = P at *
 have zb := hB.lt
 have zo := hO.lt
 have zr := hR.lt
 have za := hA.lt
 have tok : True := trivial
 subst e1
 have HW := hide (show RR = (P.set n ⟨1, 0, 0, 0⟩, ⟨0, 0, 0⟩) by rw [unhide HV]; simp [obeyT, addT, es])
 have c1 : ((P.js n).st != 0) = false := by simp [es]
 clear es HV
 go_wp2_with (first | (have _t := tok; clear tok; refine wpList_store_tab 103 brdInfo rfl _ _ rfl w2.heap.size rfl P rfl 103 T0 (heap_alloc_last _ _) ?_; intro w3 hX3 hg3 hz3; have hB3 := (hB.alloc _).chg hg3 (by simp; omega); have hO3 := (hO.alloc _).chg hg3 (by simp; omega); have hR3 := (hR.alloc _).chg hg3 (by simp; omega); have hA3 := (hA.alloc _).chg hg3 (by simp; omega); have G3 := (G2.alloc _).trans hg3 (by simp; omega); obtain ⟨p0, p1, p2, p3, p4, p5⟩ := hO3.six; have zx := hX3.lt; have zb3 := hB3.lt; have zr3 := hR3.lt; have za3 := hA3.lt; have zo3 := hO3.lt; clear hz3 hg3; have x0 := hX3.c0 hn; have x1 := hX3.c1 hn; have x2 := hX3.c2 hn; have x3 := hX3.c3 hn; have xn := hX3.cn; have y0 := hX3.fz (n * 4); have y1 := hX3.fz (n * 4 + 1); have y2 := hX3.fz (n * 4 + 2); have y3 := hX3.fz (n * 4 + 3)) | (refine wpList_load_tab 103 brdRow brdInfo rfl _ rfl (w2.heap.size) rfl 103 (P.set n ⟨1, 0, 0, 0⟩) ?hs ?_; (case hs => exact (hX3.set4 hn ⟨1, 0, 0, 0⟩).alloc _)) | (refine wpList_store_tab 103 brdInfo rfl _ _ rfl (w.heap.size + 1 + 1) rfl (P.set n ⟨1, 0, 0, 0⟩) rfl 103 T0 ?hr ?_; (case hr => exact (((((hR3).setOther (by simp; omega) _).setOther (by simp; omega) _).setOther (by simp; omega) _).setOther (by simp; omega) _).alloc _); intro w9 hT9 hg9 hz9; have hA9 := ((((((hA3).other (by simp; omega) _).other (by simp; omega) _).other (by simp; omega) _).other (by simp; omega) _).alloc _).chg hg9 (by simp); obtain ⟨a0, a1, a2, q0, q1, q2⟩ := hA9.three; have G9 := ((((((G3).setCell (by simp; omega) _).setCell (by simp; omega) _).setCell (by simp; omega) _).setCell (by simp; omega) _).alloc _).trans hg9 (by simp; omega); clear hz9 hg9))
 rw [unhide HW]
 refine bodyPost_ret (v := .tuple #[.agg (P.set n ⟨1, 0, 0, 0⟩).cells, .agg #[.int .i64 0, .int .i64 0, .int .i64 0]]) (ret_tab_ans rfl brdRow brdInfo rfl rfl (((hT9.setOther (by simp) _).setOther (by simp) _).setOther (by simp) _) (((hA9.set 0 (.int .i64 0)).set 1 (.int .i64 0)).set 2 (.int .i64 0))) rfl ?_
 exact ⟨rfl, ((G9.setCell (by simp; omega) _).setCell (by simp; omega) _).setCell (by simp; omega) _⟩
set_option maxRecDepth 100000 in
set_option maxHeartbeats 8000000 in
theorem did_add2 (T : Tb) (k now jb tr wk tm : Int) (w : World) (hI : Inv T) (hc : chk ⟨k, now, jb, tr, wk, tm⟩ = 0) (e1 : k = 1) (es : ¬ ((passT T now).js jb.toNat).st = 0) :
  Calls Tryz.prog 94 #[.agg T.cells, .agg #[.int .i64 k, .int .i64 now, .int .i64 jb, .int .i64 tr, .int .i64 wk, .int .i64 tm]] w fun e w' =>
   e = .returned (.tuple #[.agg (doT T ⟨k, now, jb, tr, wk, tm⟩).1.cells, .agg #[.int .i64 (doT T ⟨k, now, jb, tr, wk, tm⟩).2.code, .int .i64 (doT T ⟨k, now, jb, tr, wk, tm⟩).2.jb, .int .i64 (doT T ⟨k, now, jb, tr, wk, tm⟩).2.tr]]) ∧ Chg [] w w' := by
 have HD := hide (show doT T ⟨k, now, jb, tr, wk, tm⟩ = if chk ⟨k, now, jb, tr, wk, tm⟩ ≠ 0 then (T, ⟨chk ⟨k, now, jb, tr, wk, tm⟩, 0, 0⟩) else if (obeyT (passT T now) ⟨k, now, jb, tr, wk, tm⟩).2.code = 0 then obeyT (passT T now) ⟨k, now, jb, tr, wk, tm⟩ else (T, (obeyT (passT T now) ⟨k, now, jb, tr, wk, tm⟩).2) from rfl)
 generalize hR : doT T ⟨k, now, jb, tr, wk, tm⟩ = RR at *
 clear hR
 have HE1 := hide e1
 have HC0 := hide hc
 have HS0 := hide es
 have HI0 := hide hI
 clear e1 hc es hI
 go_enter Tryz.func94, Tryz.ntmps94
 go_wp2_with fail
 refine (fault_any ⟨k, now, jb, tr, wk, tm⟩ _).mono ?_
 rintro e w1 ⟨rfl, g1⟩
 have hB := Blk.chg ((((Blk.new w T.cells 103).alloc _).alloc _).alloc _) g1 (by simp)
 have hO := Blk.chg (((Blk.new1 w _ #[.int .i64 k, .int .i64 now, .int .i64 jb, .int .i64 tr, .int .i64 wk, .int .i64 tm] 83).alloc _).alloc _) g1 (by simp)
 have hR := Blk.chg ((Blk.new2 w _ _ T0.cells 103).alloc _) g1 (by simp)
 have hA := Blk.chg (Blk.new3 w _ _ _ #[.int .i64 0, .int .i64 0, .int .i64 0] 95) g1 (by simp)
 have G1 := (((((Chg.refl [] w).alloc _).alloc _).alloc _).alloc _).trans g1 (by simp)
 replace hB : Has 103 w1 w.heap.size T := hB
 replace hR : Has 103 w1 (w.heap.size + 1 + 1) T0 := hR
 clear g1
 have e1 := unhide HE1
 have hc := unhide HC0
 have es := unhide HS0
 have hI := unhide HI0
 clear HC0 HS0 HI0 HE1
 have b1 : (chk ⟨k, now, jb, tr, wk, tm⟩ != 0) = false := by simp [hc]
 obtain ⟨k1, k2, k3, k4, k5, k6, k7, k8⟩ := chk_zero hc
 have HV := hide (show RR = if (obeyT (passT T now) ⟨k, now, jb, tr, wk, tm⟩).2.code = 0 then obeyT (passT T now) ⟨k, now, jb, tr, wk, tm⟩ else (T, (obeyT (passT T now) ⟨k, now, jb, tr, wk, tm⟩).2) by rw [unhide HD, if_neg (by simp [hc])])
 simp only at k1 k2 k3 k4 k5 k6
 obtain ⟨n, rfl⟩ : ∃ n : Nat, jb = n := ⟨jb.toNat, by omega⟩
 rw [Int.toNat_natCast] at es
 have hn : n < 6 := by omega
 have hn' : (n : Int) < 6 := by omega
 have IP : Inv (passT T now) := hI.pass k2.2
 clear hc HD k3 k5 k7 k8
 obtain ⟨p0, p1, p2, p3, p4, p5⟩ := hO.six
 have zb := hB.lt
 have zo := hO.lt
 have zr := hR.lt
 have za := hA.lt
 have HBX := hide hB
 have HI := hide hI
 have HIP := hide IP
 have HES := hide es
 have HEE := hide e1
 have HO6 := hide hO
 have HR6 := hide hR
 have HA6 := hide hA
 have HG6 := hide G1
 clear hB hI IP es hO hR hA G1 e1
 go_wp2_with (refine wpList_load_tab 103 brdRow brdInfo rfl _ rfl w.heap.size rfl 103 T ?hs ?_; (case hs => exact unhide HBX))
 have hB := unhide HBX
 have hI := unhide HI
 have IP := unhide HIP
 have es := unhide HES
 have e1 := unhide HEE
 have hO := unhide HO6
 have hR := unhide HR6
 have hA := unhide HA6
 have G1 := unhide HG6
 clear HBX HI HIP HES HEE HO6 HR6 HA6 HG6
 refine (later_any T now _ (fun m hm => (hI.fit.2 m hm).2)).mono ?_
 rintro e w2 ⟨rfl, g2⟩
 replace hB := hB.chg g2 (by simp)
 replace hO := hO.chg g2 (by simp)
 replace hR := hR.chg g2 (by simp)
 replace hA := hA.chg g2 (by simp)
 have G2 := G1.trans g2 (by simp)
 clear G1 g2 p0 p1 p2 p3 p4 p5 zb zo zr za
 obtain ⟨n0, n1⟩ := IP.fit.1
 obtain ⟨m0, m1⟩ := k6
 have TF := hide IP.fit.2
 have DP := hide (fun m (hm : m < 6) (hs : ((passT T now).js m).st = 2) => drop_pass IP hm hs)
 generalize passT T now = P at *
 have zb := hB.lt
 have zo := hO.lt
 have zr := hR.lt
 have za := hA.lt
 have tok : True := trivial
 subst e1
 have HW := hide (show RR = (T, ⟨4, 0, 0⟩) by rw [unhide HV]; simp [obeyT, addT, es])
 have c1 : ((P.js n).st != 0) = true := by rw [bne_iff_ne]; exact es
 clear es HV
 go_wp2_with (first | (have _t := tok; clear tok; refine wpList_store_tab 103 brdInfo rfl _ _ rfl w2.heap.size rfl P rfl 103 T0 (heap_alloc_last _ _) ?_; intro w3 hX3 hg3 hz3; have hB3 := (hB.alloc _).chg hg3 (by simp; omega); have hO3 := (hO.alloc _).chg hg3 (by simp; omega); have hR3 := (hR.alloc _).chg hg3 (by simp; omega); have hA3 := (hA.alloc _).chg hg3 (by simp; omega); have G3 := (G2.alloc _).trans hg3 (by simp; omega); obtain ⟨p0, p1, p2, p3, p4, p5⟩ := hO3.six; have zx := hX3.lt; have zb3 := hB3.lt; have zr3 := hR3.lt; have za3 := hA3.lt; have zo3 := hO3.lt; clear hz3 hg3; have x0 := hX3.c0 hn; have x1 := hX3.c1 hn; have x2 := hX3.c2 hn; have x3 := hX3.c3 hn; have xn := hX3.cn; have y0 := hX3.fz (n * 4); have y1 := hX3.fz (n * 4 + 1); have y2 := hX3.fz (n * 4 + 2); have y3 := hX3.fz (n * 4 + 3)) | (refine wpList_load_tab 103 brdRow brdInfo rfl _ rfl (w.heap.size) rfl 103 (T) ?hs ?_; (case hs => exact hB3.alloc _)) | (refine wpList_store_tab 103 brdInfo rfl _ _ rfl (w.heap.size + 1 + 1) rfl (T) rfl 103 T0 ?hr ?_; (case hr => exact hR3.alloc _); intro w9 hT9 hg9 hz9; have hA9 := (hA3.alloc _).chg hg9 (by simp); obtain ⟨a0, a1, a2, q0, q1, q2⟩ := hA9.three; have G9 := (G3.alloc _).trans hg9 (by simp; omega); clear hz9 hg9))
 rw [unhide HW]
 refine bodyPost_ret (v := .tuple #[.agg (T).cells, .agg #[.int .i64 4, .int .i64 0, .int .i64 0]]) (ret_tab_ans rfl brdRow brdInfo rfl rfl (((hT9.setOther (by simp) _).setOther (by simp) _).setOther (by simp) _) (((hA9.set 0 (.int .i64 4)).set 1 (.int .i64 0)).set 2 (.int .i64 0))) rfl ?_
 exact ⟨rfl, ((G9.setCell (by simp; omega) _).setCell (by simp; omega) _).setCell (by simp; omega) _⟩
set_option maxRecDepth 100000 in
set_option maxHeartbeats 8000000 in
theorem did_take (T : Tb) (k now jb tr wk tm : Int) (w : World) (hI : Inv T) (hc : chk ⟨k, now, jb, tr, wk, tm⟩ = 0) (e2 : k = 2) :
  Calls Tryz.prog 94 #[.agg T.cells, .agg #[.int .i64 k, .int .i64 now, .int .i64 jb, .int .i64 tr, .int .i64 wk, .int .i64 tm]] w fun e w' =>
   e = .returned (.tuple #[.agg (doT T ⟨k, now, jb, tr, wk, tm⟩).1.cells, .agg #[.int .i64 (doT T ⟨k, now, jb, tr, wk, tm⟩).2.code, .int .i64 (doT T ⟨k, now, jb, tr, wk, tm⟩).2.jb, .int .i64 (doT T ⟨k, now, jb, tr, wk, tm⟩).2.tr]]) ∧ Chg [] w w' := by
 have HD := hide (show doT T ⟨k, now, jb, tr, wk, tm⟩ = if chk ⟨k, now, jb, tr, wk, tm⟩ ≠ 0 then (T, ⟨chk ⟨k, now, jb, tr, wk, tm⟩, 0, 0⟩) else if (obeyT (passT T now) ⟨k, now, jb, tr, wk, tm⟩).2.code = 0 then obeyT (passT T now) ⟨k, now, jb, tr, wk, tm⟩ else (T, (obeyT (passT T now) ⟨k, now, jb, tr, wk, tm⟩).2) from rfl)
 generalize hR : doT T ⟨k, now, jb, tr, wk, tm⟩ = RR at *
 clear hR
 have HC0 := hide hc
 have HI0 := hide hI
 have H_e2 := hide e2
 clear hc hI e2
 go_enter Tryz.func94, Tryz.ntmps94
 go_wp2_with fail
 refine (fault_any ⟨k, now, jb, tr, wk, tm⟩ _).mono ?_
 rintro e w1 ⟨rfl, g1⟩
 have hB := Blk.chg ((((Blk.new w T.cells 103).alloc _).alloc _).alloc _) g1 (by simp)
 have hO := Blk.chg (((Blk.new1 w _ #[.int .i64 k, .int .i64 now, .int .i64 jb, .int .i64 tr, .int .i64 wk, .int .i64 tm] 83).alloc _).alloc _) g1 (by simp)
 have hR := Blk.chg ((Blk.new2 w _ _ T0.cells 103).alloc _) g1 (by simp)
 have hA := Blk.chg (Blk.new3 w _ _ _ #[.int .i64 0, .int .i64 0, .int .i64 0] 95) g1 (by simp)
 have G1 := (((((Chg.refl [] w).alloc _).alloc _).alloc _).alloc _).trans g1 (by simp)
 replace hB : Has 103 w1 w.heap.size T := hB
 replace hR : Has 103 w1 (w.heap.size + 1 + 1) T0 := hR
 clear g1
 have hc := unhide HC0
 have hI := unhide HI0
 clear HC0 HI0
 have b1 : (chk ⟨k, now, jb, tr, wk, tm⟩ != 0) = false := by simp [hc]
 obtain ⟨k1, k2, k3, k4, k5, k6, k7, k8⟩ := chk_zero hc
 have HV := hide (show RR = if (obeyT (passT T now) ⟨k, now, jb, tr, wk, tm⟩).2.code = 0 then obeyT (passT T now) ⟨k, now, jb, tr, wk, tm⟩ else (T, (obeyT (passT T now) ⟨k, now, jb, tr, wk, tm⟩).2) by rw [unhide HD, if_neg (by simp [hc])])
 simp only at k1 k2 k3 k4 k5 k6
 obtain ⟨n, rfl⟩ : ∃ n : Nat, jb = n := ⟨jb.toNat, by omega⟩
 have hn : n < 6 := by omega
 have hn' : (n : Int) < 6 := by omega
 have IP : Inv (passT T now) := hI.pass k2.2
 clear hc HD k3 k5 k7 k8
 obtain ⟨p0, p1, p2, p3, p4, p5⟩ := hO.six
 have zb := hB.lt
 have zo := hO.lt
 have zr := hR.lt
 have za := hA.lt
 have HBX := hide hB
 have HI := hide hI
 have HIP := hide IP
 have HO6 := hide hO
 have HR6 := hide hR
 have HA6 := hide hA
 have HG6 := hide G1
 clear hB hI IP hO hR hA G1
 go_wp2_with (refine wpList_load_tab 103 brdRow brdInfo rfl _ rfl w.heap.size rfl 103 T ?hs ?_; (case hs => exact unhide HBX))
 have hB := unhide HBX
 have hI := unhide HI
 have IP := unhide HIP
 have hO := unhide HO6
 have hR := unhide HR6
 have hA := unhide HA6
 have G1 := unhide HG6
 clear HBX HI HIP HO6 HR6 HA6 HG6
 refine (later_any T now _ (fun m hm => (hI.fit.2 m hm).2)).mono ?_
 rintro e w2 ⟨rfl, g2⟩
 replace hB := hB.chg g2 (by simp)
 replace hO := hO.chg g2 (by simp)
 replace hR := hR.chg g2 (by simp)
 replace hA := hA.chg g2 (by simp)
 have G2 := G1.trans g2 (by simp)
 clear G1 g2 p0 p1 p2 p3 p4 p5 zb zo zr za
 obtain ⟨n0, n1⟩ := IP.fit.1
 obtain ⟨m0, m1⟩ := k6
 have TF := hide IP.fit.2
 have DP := hide (fun m (hm : m < 6) (hs : ((passT T now).js m).st = 2) => drop_pass IP hm hs)
 have e2 := unhide H_e2
 clear H_e2
 generalize passT T now = P at *
 have zb := hB.lt
 have zo := hO.lt
 have zr := hR.lt
 have za := hA.lt
 have tok : True := trivial
 subst e2
 have HW := hide (show RR = if (takeT P wk tm).2.code = 0 then takeT P wk tm else (T, (takeT P wk tm).2) by rw [unhide HV]; simp [obeyT])
 clear HV
 go_wp2_with (have _t := tok; clear tok; refine wpList_store_tab 103 brdInfo rfl _ _ rfl w2.heap.size rfl P rfl 103 T0 (heap_alloc_last _ _) ?_; intro w3 hX3 hg3 hz3; have hB3 := (hB.alloc _).chg hg3 (by simp; omega); have hO3 := (hO.alloc _).chg hg3 (by simp; omega); have hR3 := (hR.alloc _).chg hg3 (by simp; omega); have hA3 := (hA.alloc _).chg hg3 (by simp; omega); have G3 := (G2.alloc _).trans hg3 (by simp; omega); obtain ⟨p0, p1, p2, p3, p4, p5⟩ := hO3.six; have zx := hX3.lt; have zb3 := hB3.lt; have zr3 := hR3.lt; have za3 := hA3.lt; have zo3 := hO3.lt; clear hz3 hg3)
 go_loopw [8] (fun i wr => ∃ j : Nat, j ≤ 6 ∧ i = .int .i64 j ∧ Hid (firstW P 0 6 = firstW P j (6 - j)) ∧ Chg [] w3 wr) (fun i _ => 6 - (intOf i).toNat)
 case atStart => exact ⟨0, by omega, rfl, rfl, Chg.refl _ _⟩
 case round =>
  obtain ⟨j, hj, rfl, hF, hg⟩ := hrel
  have hXr := hX3.chg hg (by simp)
  have hBr := hB3.chg hg (by simp)
  have hRr := hR3.chg hg (by simp)
  have hAr := hA3.chg hg (by simp)
  have hOr := hO3.chg hg (by simp)
  have Gr := G3.trans hg (by simp)
  have z1 := hXr.lt
  have z2 := hBr.lt
  have z3 := hRr.lt
  have z4 := hAr.lt
  have z5 := hOr.lt
  clear p0 p1 p2 p3 p4 p5
  obtain ⟨p0, p1, p2, p3, p4, p5⟩ := hOr.six
  by_cases hj6 : j < 6
  ·have x0 := hXr.c0 hj6
   have x1 := hXr.c1 hj6
   have x2 := hXr.c2 hj6
   have x3 := hXr.c3 hj6
   have xn := hXr.cn
   have y0 := hXr.fz (j * 4)
   have y1 := hXr.fz (j * 4 + 1)
   have y2 := hXr.fz (j * 4 + 2)
   have y3 := hXr.fz (j * 4 + 3)
   by_cases es : (P.js j).st = 1
   ·have c1 : ((P.js j).st == 1) = true := by simpa using es
    have HX := hide (show RR = (P.set j ⟨2, wk, (P.js j).tr + 1, P.now + tm⟩, ⟨0, j, (P.js j).tr + 1⟩) by rw [unhide HW]; simp [takeT, unhide hF, firstW_here P j hj6 es])
    obtain ⟨t0, t1⟩ := unhide TF j hj6
    clear es
    go_wp2_with (first | (refine wpList_load_tab 103 brdRow brdInfo rfl _ rfl (w2.heap.size) rfl 103 (P.set j ⟨2, wk, (P.js j).tr + 1, P.now + tm⟩) ?hs ?_; (case hs => exact hXr.set4 hj6 ⟨2, wk, (P.js j).tr + 1, P.now + tm⟩)) | (refine wpList_store_tab 103 brdInfo rfl _ _ rfl (w.heap.size + 1 + 1) rfl (P.set j ⟨2, wk, (P.js j).tr + 1, P.now + tm⟩) rfl 103 T0 ?hr ?_; (case hr => exact ((((hRr).setOther (by simp; omega) _).setOther (by simp; omega) _).setOther (by simp; omega) _).setOther (by simp; omega) _); intro w9 hT9 hg9 hz9; have hA9 := (((((hAr).other (by simp; omega) _).other (by simp; omega) _).other (by simp; omega) _).other (by simp; omega) _).chg hg9 (by simp); obtain ⟨a0, a1, a2, q0, q1, q2⟩ := hA9.three; have G9 := (((((Gr).setCell (by simp; omega) _).setCell (by simp; omega) _).setCell (by simp; omega) _).setCell (by simp; omega) _).trans hg9 (by simp; omega); clear hz9 hg9))
    rw [unhide HX]
    refine bodyPost_ret (v := .tuple #[.agg (P.set j ⟨2, wk, (P.js j).tr + 1, P.now + tm⟩).cells, .agg #[.int .i64 0, .int .i64 j, .int .i64 ((P.js j).tr + 1)]]) (ret_tab_ans rfl brdRow brdInfo rfl rfl (((hT9.setOther (by simp) _).setOther (by simp) _).setOther (by simp) _) (((hA9.set 0 (.int .i64 0)).set 1 (.int .i64 j)).set 2 (.int .i64 ((P.js j).tr + 1)))) rfl ?_
    exact ⟨rfl, ((G9.setCell (by simp; omega) _).setCell (by simp; omega) _).setCell (by simp; omega) _⟩
   ·have c1 : ((P.js j).st == 1) = false := by simpa using es
    have HX := hide (firstW_next P j hj6 es)
    clear es
    go_wp2
    go_roundw
    case rel => exact ⟨j + 1, by omega, by go_num, (unhide hF).trans (unhide HX), hg⟩
    case measure => go_light; simp [intOf]; omega
  ·obtain rfl : j = 6 := by omega
   have HX := hide (show RR = (T, ⟨5, 0, 0⟩) by rw [unhide HW, takeT, unhide hF]; rfl)
   go_wp2_with (first | (refine wpList_load_tab 103 brdRow brdInfo rfl _ rfl (w.heap.size) rfl 103 (T) ?hs ?_; (case hs => exact hBr)) | (refine wpList_store_tab 103 brdInfo rfl _ _ rfl (w.heap.size + 1 + 1) rfl (T) rfl 103 T0 ?hr ?_; (case hr => exact hRr); intro w9 hT9 hg9 hz9; have hA9 := (hAr).chg hg9 (by simp); obtain ⟨a0, a1, a2, q0, q1, q2⟩ := hA9.three; have G9 := (Gr).trans hg9 (by simp; omega); clear hz9 hg9))
   rw [unhide HX]
   refine bodyPost_ret (v := .tuple #[.agg (T).cells, .agg #[.int .i64 5, .int .i64 0, .int .i64 0]]) (ret_tab_ans rfl brdRow brdInfo rfl rfl (((hT9.setOther (by simp) _).setOther (by simp) _).setOther (by simp) _) (((hA9.set 0 (.int .i64 5)).set 1 (.int .i64 0)).set 2 (.int .i64 0))) rfl ?_
   exact ⟨rfl, ((G9.setCell (by simp; omega) _).setCell (by simp; omega) _).setCell (by simp; omega) _⟩
end Go.Proofs.YtllnjiljjodfdacGreatDoor
