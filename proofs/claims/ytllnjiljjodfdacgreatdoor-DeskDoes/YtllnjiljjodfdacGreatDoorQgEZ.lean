/-
 The program's log of a desk. Nothing here is claimed by itself.
-/
import Derived.Test.YtllnjiljjodfdacGreatDoorQgEW
import Derived.Test.YtllnjiljjodfdacGreatDoorQgEC
import Derived.Test.YtllnjiljjodfdacGreatDoorQgS2
namespace Go.Proofs.YtllnjiljjodfdacGreatDoor
open Go.RowKit

theorem Dq.dk {W0 w : World} {M : Dm} {s : Gd} {told : List UInt8} (D : Dq W0 w M s told) : w.cell? ⟨M.g.gb, 0, none⟩ = some (.pointer (some ⟨M.g.db, 0, none⟩)) ∧ M.g.gb < w.heap.size := ⟨D.c.blk.cell 0, D.c.blk.lt⟩
theorem dbyt {W0 w : World} {M : Dm} {s : Gd} {told : List UInt8} (D : Dq W0 w M s told) :
  Calls Tryz.prog 32 #[.pointer (some ⟨M.g.db, 0, none⟩)] w fun e w' => ∃ a c, e = .returned (.slice a s.d.l.length c) ∧ s.d.l.length ≤ c ∧ Byt w' a s.d.l.length (getB s.d.l) ∧ Chg [] w w' := by
 refine (dbytes_any M.g.db s.d.ep M.g.v s.d.l W0.heap.size w D.c.dsk).mono ?_
 rintro e w' ⟨v, rfl, own, g⟩
 obtain ⟨a, c, rfl, hc, hB⟩ := sl_byt (own_sl own) D.c.dsk.ok
 exact ⟨a, c, rfl, hc, hB, g⟩
def EvsF (w : World) (M : Dm) (a : Option Addr) (n : Nat) (l : List Ev) : Prop := n = 0 ∨ ∃ bl off, a = some ⟨bl, off, none⟩ ∧ bl < w.heap.size ∧ ¬ M.mine bl ∧ ∀ i, i < n → EvAt w bl (off + i * 14) (atE l i)
theorem own_evsF {W0 w w' : World} {M : Dm} {s : Gd} {told : List UInt8} {base : Nat} {e : TypeId} {v : Value} {l : List Ev} (D : Dq W0 w M s told) (hb : w.heap.size ≤ base) (h : w'.ownsRow base e 14 v l.length (cellsE l)) : ∃ a c, v = .slice a l.length c ∧ EvsF w' M a l.length l ∧ Evs w' a l.length (atE l) := by
 have hl := h.lt
 obtain ⟨a, c, rfl, -, hE⟩ := own_evs h rfl
 refine ⟨a, c, rfl, ?_, hE⟩
 rcases hE with h0 | ⟨bl, off, rfl, hlt, hO⟩
 ·exact .inl h0
 ·by_cases h0 : l.length = 0
  ·exact .inl h0
  ·refine .inr ⟨bl, off, rfl, hlt, ?_, hO⟩
   have := (hl bl (by
    obtain ⟨_, ⟨h1, h2⟩ | ⟨g', c', cur, h1, _⟩⟩ := h
    ·cases h1
    ·injection h1 with h1 _ _
     injection h1 with h1
     injection h1 with h1 h2 _
     subst h1
     subst h2
     rfl)).1
   exact D.free (Nat.le_trans hb this)
theorem EvsF.next {W0 w w' : World} {M M' : Dm} {s' : Gd} {t' : List UInt8} {a : Option Addr} {n : Nat} {l : List Ev} (h : EvsF w M a n l) (k : Dqn W0 w M w' M' s' t') : EvsF w' M' a n l := by
 rcases h with h | ⟨bl, off, e, hb, hn, hc⟩
 ·exact .inl h
 ·refine .inr ⟨bl, off, e, Nat.lt_of_lt_of_le hb k.size, k.other hb hn, fun i hi j u hu => ?_⟩
  rw [k.cell (p := ⟨bl, off + i * 14 + j, none⟩) hb hn]
  exact hc i hi j u hu
def recW (e : Ev) : List (List UInt8) := wRecord :: [e.r.ep, e.r.o.k, e.r.o.now, e.r.o.jb, e.r.o.tr, e.r.o.wk, e.r.o.tm].map Lib.itoa
def jobW (e : Ev) : List (List UInt8) := wJob :: [e.j.st, e.j.wk, e.j.tr, e.j.un].map Lib.itoa
theorem joinW_rec (e : Ev) : joinW (recW e ++ jobW e) = recT e := by
 unfold recW jobW recT
 rw [joinW_app (by simp), joinW_list, joinW_list]
def logT (s : Gd) : List UInt8 := ((evs (recsL s.d.l)).flatMap (fun e => sayL (recT e))) ++ sayL wEnd
theorem log_take {l : List Ev} {k : Nat} (h : k < l.length) : (l.take (k + 1)).flatMap (fun e => sayL (recT e)) = (l.take k).flatMap (fun e => sayL (recT e)) ++ sayL (recT (atE l k)) := by
 rw [List.take_add_one, atE_some h, Option.toList_some, List.flatMap_append]
 simp
theorem nms_seven {w : World} {b : Nat} {e : Ev} {t : TypeId} (hE : EvOk e) (h : Blk w b #[.int .i64 e.r.ep, .int .i64 e.r.o.k, .int .i64 e.r.o.now, .int .i64 e.r.o.jb, .int .i64 e.r.o.tr, .int .i64 e.r.o.wk, .int .i64 e.r.o.tm] t) : Nms w (some ⟨b, 0, none⟩) [e.r.ep, e.r.o.k, e.r.o.now, e.r.o.jb, e.r.o.tr, e.r.o.wk, e.r.o.tm] := by
 obtain ⟨⟨a0, a1, a2, a3, a4, a5, a6⟩, _⟩ := hE
 refine ⟨fun z hz => by simp at hz; rcases hz with rfl | rfl | rfl | rfl | rfl | rfl | rfl <;> exact Sm.i64 (by assumption), .inr ⟨b, 0, rfl, h.lt, fun i z hz => ?_⟩⟩
 rw [h.cell, Nat.zero_add]
 match i, hz with
 | 0, hz => simpa using hz
 | 1, hz => simpa using hz
 | 2, hz => simpa using hz
 | 3, hz => simpa using hz
 | 4, hz => simpa using hz
 | 5, hz => simpa using hz
 | 6, hz => simpa using hz
set_option maxRecDepth 100000 in
set_option maxHeartbeats 8000000 in
theorem dlog_any (W0 : World) (M : Dm) (s : Gd) (told : List UInt8) (w : World) (D : Dq W0 w M s told) (hv : Vars W0) (hb : told.length ≤ 900000000) :
  Calls Tryz.prog 34 #[.pointer (some ⟨M.db, 0, none⟩)] w fun e w' => e = .returned (.tuple #[]) ∧ ∃ M', Dqn W0 w M w' M' s (told ++ logT s) := by
 have HV := hide hv
 have HD := hide D
 have cg := D.cg
 have lb := D.lt
 obtain ⟨ck, lg⟩ := D.dk
 have hd := D.c.dsk.few
 obtain ⟨rs, t, pl⟩ := D.c.pl
 have hfew := pl.few hd
 have HE := hide pl.evOk
 have HLT := hide (show logT s = ((evs (recsL s.d.l)).flatMap (fun e => sayL (recT e))) ++ sayL wEnd from rfl)
 clear D hv pl
 go_enter Tryz.func34, Tryz.ntmps34
 go_wp2_with fail
 refine (dbyt (unhide HD)).mono ?_
 rintro e w1 ⟨a1, c1, rfl, hc1, hB1, g1⟩
 have D1 := (unhide HD).new g1
 have HQ1 := hide ((unhide HD).quiet g1)
 clear g1
 go_wp2_with fail
 refine (of_any a1 s.d.l.length c1 (getB s.d.l) _ (by omega) hc1 hB1).mono ?_
 rintro e w2 ⟨v, rfl, own2, g2⟩
 have e0 : (allR s.d.l.length (getB s.d.l)).length = (evs (recsL s.d.l)).length := by rw [evs_len]; rfl
 rw [e0, show evs (allR s.d.l.length (getB s.d.l)) = evs (recsL s.d.l) from rfl] at own2
 generalize evs (recsL s.d.l) = es at *
 obtain ⟨ae, ce, rfl, HF, -⟩ := own_evsF D1 (Nat.le_refl _) own2
 have HQ2 := hide ((unhide HQ1).trans (D1.quiet g2))
 have HEV := hide HF
 clear own2 g2 HF D1 hB1 hc1 e0 cg ck
 obtain ⟨n, hn⟩ : ∃ n, n = es.length := ⟨_, rfl⟩
 rw [← hn] at hfew ⊢
 have HN := hide hn
 clear hn
 go_wp2_with fail
 go_loopw [16] (fun i wr => ∃ (k : Nat) (M1 : Dm), k ≤ n ∧ i = .int .i64 k ∧ Dqn W0 w2 M wr M1 s (told ++ (es.take k).flatMap (fun e => sayL (recT e)))) (fun i _ => n - (intOf i).toNat)
 case atStart => exact ⟨0, M, by omega, rfl, by simpa using Dqn.refl (unhide HQ2).k⟩
 case round =>
  obtain ⟨k, M1, hk, rfl, X⟩ := hrel
  have HX := hide X
  by_cases hlt : k < n
  ·have hki : (k : Int) < (n : Int) := by omega
   have hk0 : (0 : Int) ≤ (k : Int) := by omega
   rcases (show EvsF wr M1 ae n es by rw [unhide HN]; exact (unhide HEV).next X) with h0 | ⟨bl, off, rfl, hbl, hnm, hO⟩
   ·omega
   obtain ⟨p0, p1, p2, p3, p4, p5, p6, p7, p8, p9, p10, p11, p12, p13⟩ := (hO k hlt).all
   have HT := hide (log_take (l := es) (k := k) (by rw [← unhide HN]; exact hlt))
   have hEk : EvOk (atE es k) := unhide HE _ (by have := atE_some (l := es) (i := k) (by rw [← unhide HN]; exact hlt); exact List.mem_of_getElem? this)
   have HTL := hide (show (told ++ (es.take k).flatMap (fun e => sayL (recT e))).length ≤ 950000000 by
    have h1 := log_len (es.take k) (fun e he => unhide HE e (List.mem_of_mem_take he))
    have h2 : (es.take k).length ≤ k := by rw [List.length_take]; omega
    rw [List.length_append]
    omega)
   have HRL := hide (rec_len hEk)
   generalize htk : told ++ (es.take k).flatMap (fun e => sayL (recT e)) = tk at *
   have HTK := hide htk
   clear hO X htk
   generalize atE es k = e at *
   have N7 := nms_seven hEk (Blk.new2 wr (.cells e.cells 134) (.cells #[.int .i64 e.r.o.k, .int .i64 e.r.o.now, .int .i64 e.r.o.jb, .int .i64 e.r.o.tr, .int .i64 e.r.o.wk, .int .i64 e.r.o.tm] 83) #[.int .i64 e.r.ep, .int .i64 e.r.o.k, .int .i64 e.r.o.now, .int .i64 e.r.o.jb, .int .i64 e.r.o.tr, .int .i64 e.r.o.wk, .int .i64 e.r.o.tm] 3)
   have k3 := (((Chg.refl [] wr).alloc (.cells e.cells 134)).alloc (.cells #[.int .i64 e.r.o.k, .int .i64 e.r.o.now, .int .i64 e.r.o.jb, .int .i64 e.r.o.tr, .int .i64 e.r.o.wk, .int .i64 e.r.o.tm] 83)).alloc (.cells #[.int .i64 e.r.ep, .int .i64 e.r.o.k, .int .i64 e.r.o.now, .int .i64 e.r.o.jb, .int .i64 e.r.o.tr, .int .i64 e.r.o.wk, .int .i64 e.r.o.tm] 3)
   have E3 := ((Blk.new wr e.cells 134).alloc (.cells #[.int .i64 e.r.o.k, .int .i64 e.r.o.now, .int .i64 e.r.o.jb, .int .i64 e.r.o.tr, .int .i64 e.r.o.wk, .int .i64 e.r.o.tm] 83)).alloc (.cells #[.int .i64 e.r.ep, .int .i64 e.r.o.k, .int .i64 e.r.o.now, .int .i64 e.r.o.jb, .int .i64 e.r.o.tr, .int .i64 e.r.o.wk, .int .i64 e.r.o.tm] 3)
   have HN7 := hide N7
   have HD3 := hide ((unhide HX).k.new k3)
   have HQ3 := hide ((unhide HX).trans ((unhide HX).k.quiet k3))
   have HE3 := hide E3
   clear N7 k3 E3
   go_wp2_with fail
   refine (dwith (unhide HD3) (unhide HV) wRecord _ 7 7 _ rfl (by omega) (unhide HN7)).mono ?_
   rintro e' w4 ⟨av, cv, rfl, S4, g4⟩
   have E4 := (unhide HE3).chg g4 (by simp)
   have D4 := (unhide HD3).new g4
   have HQ4 := hide ((unhide HQ3).trans ((unhide HD3).quiet g4))
   have q10 : w4.cell? ⟨wr.heap.size, 10, none⟩ = some (.int .i64 e.j.st) := E4.cell 10
   have q11 : w4.cell? ⟨wr.heap.size, 11, none⟩ = some (.int .i64 e.j.wk) := E4.cell 11
   have q12 : w4.cell? ⟨wr.heap.size, 12, none⟩ = some (.int .i64 e.j.tr) := E4.cell 12
   have q13 : w4.cell? ⟨wr.heap.size, 13, none⟩ = some (.int .i64 e.j.un) := E4.cell 13
   have l4 := E4.lt
   clear g4 E4 HE3 HN7 HD3 HQ3 p0 p1 p2 p3 p4 p5 p6 p7 p8 p9 p10 p11 p12 p13
   go_wp2_with fail
   refine (jobwords_any e.j _ ⟨hEk.2.2.1.i64, hEk.2.2.2.1.i64, hEk.2.2.2.2.1.i64, hEk.2.2.2.2.2.i64⟩ ((unhide HV).chg D4.c.ch)).mono ?_
   rintro e' w5 ⟨v5, rfl, own5, g5⟩
   obtain ⟨bv, cv5, rfl, -, S5⟩ := own_strsF (ls := jobW e) D4 (Nat.le_refl _) own5
   have D5 := D4.new g5
   have HQ5 := hide ((unhide HQ4).trans (D4.quiet g5))
   rcases S4.new g5 with h0 | ⟨g1, o1, rfl, l1, n1, q1⟩
   ·cases h0
   rcases S5 with h0 | ⟨g2, o2, rfl, l2, n2, q2⟩
   ·cases h0
   have L5 : (jobW e).length = 5 := rfl
   rw [L5]
   clear L5 own5 g5 D4 q10 q11 q12 q13 S4 HQ4
   have k6 := (Chg.refl [] w5).alloc (.cells #[.slice (some ⟨g1, o1, none⟩) 8 cv, .slice (some ⟨g2, o2, none⟩) 5 cv5] 22)
   have B6 := Blk.new w5 #[.slice (some ⟨g1, o1, none⟩) 8 cv, .slice (some ⟨g2, o2, none⟩) 5 cv5] 22
   have D6 := D5.new k6
   have HQ6 := hide ((unhide HQ5).trans (D5.quiet k6))
   have HCC := hide (concat_any w5.heap.size g1 o1 8 cv g2 o2 5 cv5 (recW e) (jobW e) _ rfl rfl (by omega) (by omega) (by omega) (B6.cell 0) (B6.cell 1) B6.lt (Nat.lt_of_lt_of_le l1 k6.size) (Nat.lt_of_lt_of_le l2 k6.size) (fun i x hx => (k6.cell' (p := ⟨g1, o1 + i, none⟩) l1 (by simp)).trans (q1 i x hx)) (fun i x hx => (k6.cell' (p := ⟨g2, o2 + i, none⟩) l2 (by simp)).trans (q2 i x hx)))
   clear k6 B6 D5 HQ5 q1 q2 n1 n2
   go_wp2_with fail
   refine (unhide HCC).mono ?_
   rintro e' w7 ⟨v7, rfl, own7, g7⟩
   obtain ⟨av7, cv7, rfl, -, S7⟩ := own_strsF (ls := recW e ++ jobW e) D6 (Nat.le_refl _) own7
   have D7 := D6.new g7
   have HQ7 := hide ((unhide HQ6).trans (D6.quiet g7))
   clear own7 g7 D6 HQ6 HCC
   go_wp2_with fail
   refine (dsay D7 M.db (by rw [(unhide HQ7).db]) av7 _ cv7 (recW e ++ jobW e) (recT e) S7 rfl (by rw [show (recW e ++ jobW e).length = 13 from rfl]; omega) (joinW_rec e) (by have h1 := unhide HTL; have h2 := unhide HRL; omega)).mono ?_
   rintro e' w8 ⟨rfl, M8, X8⟩
   have HX8 := hide ((unhide HQ7).trans X8)
   clear X8 D7 S7
   go_wp2
   go_roundw
   case rel => exact ⟨k + 1, M8, by omega, by go_num, by rw [unhide HT, ← List.append_assoc, unhide HTK]; exact unhide HX8⟩
   case measure => go_light; simp [intOf]; omega
  ·have hki : ¬ (k : Int) < (n : Int) := by omega
   have HT := hide (show es.take k = es by rw [show k = es.length by rw [← unhide HN]; omega, List.take_length])
   have HTL := hide (show (told ++ (es.take k).flatMap (fun e => sayL (recT e))).length ≤ 950000000 by
    have h1 := log_len (es.take k) (fun e he => unhide HE e (List.mem_of_mem_take he))
    have h2 : (es.take k).length ≤ k := by rw [List.length_take]; omega
    rw [List.length_append]
    omega)
   clear X
   have k1 := (Chg.refl [] wr).alloc (.cells #[.string (strA wEnd)] 9)
   have S1 := strs_one ((unhide HX).k.free (Nat.le_refl _)) (Blk.new wr #[.string (strA wEnd)] 9)
   have D1 := (unhide HX).k.new k1
   have HQ := hide ((unhide HX).trans ((unhide HX).k.quiet k1))
   clear k1
   go_wp2_with fail
   refine (dsay D1 M.db (unhide HQ).db _ 1 1 [wEnd] wEnd S1 rfl (by omega) (joinW_one _) (by have := unhide HTL; simp [wEnd]; simp at this; omega)).mono ?_
   rintro e' w3 ⟨rfl, M3, X3⟩
   have HQ3 := hide ((unhide HQ2).trans ((unhide HQ).trans X3))
   clear X3 D1 S1
   go_wp2
   go_end0
   rw [unhide HLT]
   exact ⟨rfl, M3, by have := unhide HQ3; rw [unhide HT, List.append_assoc] at this; exact this⟩
theorem pairs_take {l : List (Int × Int)} {k : Nat} {p : Int × Int} (h : l[k]? = some p) : pairsT (l.take (k + 1)) = pairsT (l.take k) ++ [p.1, p.2] := by
 unfold pairsT
 rw [List.take_add_one, h, Option.toList_some, List.flatMap_append]
 simp
def holdT (s : Gd) (j : Int) : List UInt8 := sayL (listL wHolders (pairsT (holdL (evs (recsL s.d.l)) j)))
set_option maxRecDepth 100000 in
set_option maxHeartbeats 8000000 in
theorem dhold_any (W0 : World) (M : Dm) (s : Gd) (told : List UInt8) (j : Int) (w : World) (D : Dq W0 w M s told) (hv : Vars W0) (hb : told.length ≤ 900000000) :
  Calls Tryz.prog 35 #[.pointer (some ⟨M.db, 0, none⟩), .int .i64 j] w fun e w' => e = .returned (.tuple #[]) ∧ ∃ M', Dqn W0 w M w' M' s (told ++ holdT s j) := by
 obtain ⟨i0, hi, hz0, hz1, hz2⟩ := kInfoParts intInfoC
 have HV := hide hv
 have HD := hide D
 have cg := D.cg
 have lb := D.lt
 obtain ⟨ck, lg⟩ := D.dk
 have hd := D.c.dsk.few
 obtain ⟨rs, t, pl⟩ := D.c.pl
 have hfew := pl.few hd
 have HE := hide pl.evOk
 have HLT := hide (show holdT s j = sayL (listL wHolders (pairsT (holdL (evs (recsL s.d.l)) j))) from rfl)
 clear D hv pl
 go_enter Tryz.func35, Tryz.ntmps35
 go_wp2_with fail
 refine (dbyt (unhide HD)).mono ?_
 rintro e w1 ⟨a1, c1, rfl, hc1, hB1, g1⟩
 have D1 := (unhide HD).new g1
 have HQ1 := hide ((unhide HD).quiet g1)
 clear g1
 go_wp2_with fail
 refine (of_any a1 s.d.l.length c1 (getB s.d.l) _ (by omega) hc1 hB1).mono ?_
 rintro e w2 ⟨v, rfl, own2, g2⟩
 have e0 : (allR s.d.l.length (getB s.d.l)).length = (evs (recsL s.d.l)).length := by rw [evs_len]; rfl
 rw [e0, show evs (allR s.d.l.length (getB s.d.l)) = evs (recsL s.d.l) from rfl] at own2
 generalize evs (recsL s.d.l) = es at *
 obtain ⟨ae, ce, rfl, -, HF⟩ := own_evsF D1 (Nat.le_refl _) own2
 have D2 := D1.new g2
 have HQ2 := hide ((unhide HQ1).trans (D1.quiet g2))
 clear own2 g2 D1 hB1 hc1 e0 cg ck
 go_wp2_with fail
 refine (holders_any ae es.length ce es j _ rfl (by omega) HF).mono ?_
 rintro e w3 ⟨v3, rfl, own3, g3⟩
 have hps := hold_len es j
 have HOK := hide (hold_ok (unhide HE) j)
 generalize holdL es j = ps at *
 obtain ⟨ap, cp, rfl, -, HP⟩ := own_prs own3 rfl
 have HQ3 := hide ((unhide HQ2).trans (D2.quiet g3))
 have HPR := hide HP
 clear own3 g3 D2 HF HP
 obtain ⟨n, hn⟩ : ∃ n, n = ps.length := ⟨_, rfl⟩
 rw [← hn] at hps ⊢
 have HN := hide hn
 clear hn
 go_wp2_with fail
 go_loopw [4, 19] (fun v i wr => ∃ k : Nat, k ≤ n ∧ i = .int .i64 k ∧ wr.ownsRow w3.heap.size 3 1 v (pairsT (ps.take k)).length ((pairsT (ps.take k)).map (.int .i64)) ∧ Chg [] w3 wr) (fun _ i _ => n - (intOf i).toNat)
 case atStart => exact ⟨0, by omega, rfl, World.ownsRow_nil _ _ _ _, Chg.refl _ _⟩
 case round =>
  obtain ⟨k, hk, rfl, hown, hG⟩ := hrel
  have OW := hide hown
  have HG := hide hG
  have zG := hG.size
  by_cases hlt : k < n
  ·have hki : (k : Int) < (n : Int) := by omega
   have hk0 : (0 : Int) ≤ (k : Int) := by omega
   obtain ⟨p, hp⟩ : ∃ p, ps[k]? = some p := ⟨_, List.getElem?_eq_getElem (by rw [← unhide HN]; exact hlt)⟩
   rcases unhide HPR with h0 | ⟨g, rfl, hg, hc⟩
   ·exfalso; have := unhide HN; omega
   have c0 := (hG.cell' (p := ⟨g, k * 2, none⟩) hg (by simp)).trans (hc k p hp).1
   have c1 := (hG.cell' (p := ⟨g, k * 2 + 1, none⟩) hg (by simp)).trans (hc k p hp).2
   have HT := hide (pairs_take hp)
   have hpl : (pairsT (ps.take k)).length ≤ 1000 := by rw [pairs_len, List.length_take]; omega
   clear hc hp hown hG
   generalize pairsT (ps.take k) = xs at *
   obtain ⟨q, hq⟩ : ∃ q, q = xs.length := ⟨_, rfl⟩
   have HQL := hide hq
   rw [← hq] at hpl
   have OWq := hide (show wr.ownsRow w3.heap.size 3 1 u4 q (xs.map (.int .i64)) by rw [hq]; exact unhide OW)
   clear hq OW
   obtain ⟨y0, y1⟩ := p
   simp only at c0 c1 HT
   go_wp2_with (at_builtin; refine wpList_append_own _ rfl (.tmp 23) (.tmp 24) 72 rfl w3.heap.size 3 i0 _ 1 8 Tryz.underlying72 hi hz0 hz1 hz2 rfl (by decide) u4 q (xs.map (.int .i64)) rfl ((unhide OWq).alloc _) ⟨wr.heap.size, 0, none⟩ 2 2 [.int .i64 y0, .int .i64 y1] rfl rfl (Blk.new wr #[.int .i64 y0, .int .i64 y1] _).news (by simp [Value.oneCell']) (by unfold maxLen; omega) (by omega) (by simp; omega) ?_; intro v7 w7 own7 gr7 _; have G7 := ((unhide HG).alloc (.cells #[.int .i64 y0, .int .i64 y1] 138)).grown gr7 (fun y hy => .inr ((unhide OWq).lt y hy).1); clear gr7)
   go_roundw
   case rel => exact ⟨k + 1, by omega, by go_num, by rw [unhide HT, List.map_append, List.length_append, ← unhide HQL]; exact own7, G7⟩
   case measure => go_light; simp [intOf]; omega
  ·have hki : ¬ (k : Int) < (n : Int) := by omega
   have HT := hide (show ps.take k = ps by rw [show k = ps.length by rw [← unhide HN]; omega, List.take_length])
   have OW2 := unhide OW
   rw [unhide HT] at OW2
   obtain ⟨an, cn, rfl, -, hN⟩ := own_nmsD OW2 (fun x hx => (unhide HOK x hx).i64)
   have D4 := (unhide HQ3).k.new hG
   have HQ4 := hide ((unhide HQ3).trans ((unhide HQ3).k.quiet hG))
   have hpl : (pairsT ps).length ≤ 1000 := by rw [pairs_len, ← unhide HN]; omega
   have HNM := hide hN
   clear hown hG OW2 hN
   go_wp2_with fail
   refine (dwith D4 (unhide HV) wHolders an _ cn (pairsT ps) rfl (by omega) (unhide HNM)).mono ?_
   rintro e' w5 ⟨av, cv, rfl, S5, g5⟩
   have D5 := D4.new g5
   have HQ5 := hide ((unhide HQ4).trans (D4.quiet g5))
   clear D4 g5 HQ4
   go_wp2_with fail
   refine (dsay D5 M.db (unhide HQ5).db av _ cv _ _ S5 (by simp) (by omega) (joinW_list _ _) (by have := list_len wHolders (pairsT ps) (unhide HOK); simp only [show wHolders.length = 7 from rfl] at this; omega)).mono ?_
   rintro e' w6 ⟨rfl, M6, X6⟩
   have HQ6 := hide ((unhide HQ5).trans X6)
   clear X6 D5 S5
   go_wp2
   go_end0
   rw [unhide HLT]
   exact ⟨rfl, M6, unhide HQ6⟩
end Go.Proofs.YtllnjiljjodfdacGreatDoor
