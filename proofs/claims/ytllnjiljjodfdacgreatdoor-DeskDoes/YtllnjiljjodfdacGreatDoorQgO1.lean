/-
 A node of the program in memory; its small functions; the records that it keeps, and its table behind them. Nothing here is claimed by itself.
-/
import Derived.Test.YtllnjiljjodfdacGreatDoorQgN2
namespace Go.Proofs.YtllnjiljjodfdacGreatDoor
open Go.RowKit

def Nod (w : World) (nb tb db : Nat) (n : Nd) : Prop :=
 Blk w nb #[.pointer (some ⟨tb, 0, none⟩), .pointer (some ⟨db, 0, none⟩), .int .i64 n.e, .bool n.dn] 130 ∧ Has 151 w tb n.T
theorem Nod.chg {w w' : World} {nb tb db : Nat} {n : Nd} (h : Nod w nb tb db n) {bs : List Nat} (k : Chg bs w w') (h1 : nb ∉ bs) (h2 : tb ∉ bs) : Nod w' nb tb db n := ⟨h.1.chg k h1, h.2.chg k h2⟩
theorem Nod.alloc {w : World} {nb tb db : Nat} {n : Nd} (h : Nod w nb tb db n) (o : Obj) : Nod (w.alloc o) nb tb db n := ⟨h.1.alloc o, h.2.alloc o⟩
theorem Nod.lt {w : World} {nb tb db : Nat} {n : Nd} (h : Nod w nb tb db n) : nb < w.heap.size ∧ tb < w.heap.size := ⟨h.1.lt, h.2.lt⟩
theorem Nod.ne {w : World} {nb tb db : Nat} {n : Nd} (h : Nod w nb tb db n) : nb ≠ tb := fun e => by
 obtain ⟨h1, h2⟩ := h
 subst e
 unfold Blk at h1
 unfold Has at h2
 rw [h1] at h2
 simp at h2
theorem Nod.cells {w : World} {nb tb db : Nat} {n : Nd} (h : Nod w nb tb db n) : w.cell? ⟨nb, 0, none⟩ = some (.pointer (some ⟨tb, 0, none⟩)) ∧ w.cell? ⟨nb, 1, none⟩ = some (.pointer (some ⟨db, 0, none⟩)) ∧ w.cell? ⟨nb, 2, none⟩ = some (.int .i64 n.e) ∧ w.cell? ⟨nb, 3, none⟩ = some (.bool n.dn) ∧ nb < w.heap.size ∧ w.frozen? ⟨nb, 3, none⟩ = false :=
 ⟨h.1.cell 0, h.1.cell 1, h.1.cell 2, h.1.cell 3, h.1.lt, h.1.fz 3⟩
theorem nstop_any (nb tb db : Nat) (n : Nd) (w : World) (h : Nod w nb tb db n) :
  Calls Tryz.prog 113 #[.pointer (some ⟨nb, 0, none⟩)] w fun e w' => e = .returned (.tuple #[]) ∧ Nod w' nb tb db (stopN n) ∧ Chg [nb] w w' := by
 obtain ⟨c0, c1, c2, c3, lb, hf⟩ := h.cells
 have H := hide h
 clear h
 go_enter Tryz.func113, Tryz.ntmps113
 go_wp2
 go_end0
 obtain ⟨h1, h2⟩ := unhide H
 have hne := Nod.ne ⟨h1, h2⟩
 exact ⟨rfl, ⟨h1.set 3 (.bool true), h2.setOther (p := ⟨nb, 3, none⟩) hne _⟩, (Chg.refl _ _).setCell (by simp) _⟩
set_option maxRecDepth 100000 in
set_option maxHeartbeats 2000000 in
theorem upto_any (a : Option Addr) (c : Nat) (rs : List Rc) (e : Int) (w : World) (hc : rs.length ≤ c) (hn : rs.length ≤ 4000) (h : Recs w a rs.length (atR rs)) :
  Calls Tryz.prog 138 #[.int .i64 e, .slice a rs.length c] w fun e' w' => e' = .returned (.slice a (untilR rs e).length c) ∧ Chg [] w w' := by
 have HH := hide h
 clear h
 go_enter Tryz.func138, Tryz.ntmps138
 go_wp2_with fail
 go_loopw [9] (fun i wr => ∃ k : Nat, k ≤ rs.length ∧ i = .int .i64 k ∧ Hid (∀ j, j < k → (atR rs j).ep ≤ e) ∧ Chg [] w wr) (fun i _ => rs.length - (intOf i).toNat)
 case atStart => exact ⟨0, by omega, rfl, hide (fun j hj => by omega), Chg.refl _ _⟩
 case round =>
  obtain ⟨k, hk, rfl, hS, hG⟩ := hrel
  by_cases hlt : k < rs.length
  ·have hki : (k : Int) < (rs.length : Int) := by omega
   have hk0 : (0 : Int) ≤ (k : Int) := by omega
   have hkc : (k : Int) ≤ (c : Int) := by omega
   rcases unhide HH with h0 | ⟨bl, off, rfl, hbl, hO⟩
   ·omega
   obtain ⟨p0, p1, p2, p3, p4, p5, p6⟩ := (hO k hlt).chg hG hbl
   have hbl' := Nat.lt_of_lt_of_le hbl hG.size
   clear hO
   by_cases hx : (atR rs k).ep ≤ e
   ·have hd : decide (e < (atR rs k).ep) = false := by simp; omega
    have HX := hide hx
    clear hx
    go_wp2
    go_roundw
    case rel => exact ⟨k + 1, by omega, by go_num, hide (fun j hj => by
     by_cases e1 : j = k
     ·subst e1; exact unhide HX
     ·exact unhide hS j (by omega)), hG.alloc _⟩
    case measure => go_light; simp [intOf]; omega
   ·have hd : decide (e < (atR rs k).ep) = true := by simp; omega
    have HL := hide (untilR_stop rs e k (unhide hS) hlt hx)
    clear hx
    go_wp2
    go_ret
    rw [unhide HL]
    exact ⟨rfl, hG.alloc _⟩
  ·have hki : ¬ (k : Int) < (rs.length : Int) := by omega
   have HL := hide (untilR_whole rs e (fun j hj => unhide hS j (by omega)))
   go_wp2
   go_ret
   rw [unhide HL]
   exact ⟨rfl, hG⟩
set_option maxRecDepth 100000 in
set_option maxHeartbeats 2000000 in
theorem replay_any (a : Option Addr) (n c : Nat) (rs : List Rc) (w : World) (hl : rs.length = n) (hn : n ≤ 4000) (h : Recs w a n (atR rs)) :
  Calls Tryz.prog 140 #[.slice a n c] w fun e' w' => e' = .returned (.pointer (some ⟨w.heap.size, 0, none⟩)) ∧ Has 151 w' w.heap.size (behindT rs) ∧ Chg [] w w' := by
 have HH := hide h
 have HLn := hide hl
 clear h hl
 go_enter Tryz.func140, Tryz.ntmps140
 go_wp2_with (go_at_call 77; refine (new_any _).mono ?_; rintro e w1 ⟨rfl, hB0, hG0⟩)
 go_loopw [9] (fun i wr => ∃ k : Nat, k ≤ n ∧ i = .int .i64 k ∧ Has 151 wr w.heap.size (behindT (rs.take k)) ∧ Chg [] w wr) (fun i _ => n - (intOf i).toNat)
 case atStart => exact ⟨0, by omega, rfl, hB0, hG0⟩
 case round =>
  clear hB0 hG0
  obtain ⟨k, hk, rfl, hB, hG⟩ := hrel
  by_cases hlt : k < n
  ·have hki : (k : Int) < (n : Int) := by omega
   have hk0 : (0 : Int) ≤ (k : Int) := by omega
   rcases unhide HH with h0 | ⟨bl, off, rfl, hbl, hO⟩
   ·omega
   obtain ⟨p0, p1, p2, p3, p4, p5, p6⟩ := (hO k hlt).chg hG hbl
   have hbl' := Nat.lt_of_lt_of_le hbl hG.size
   have HT := hide (take_snocR rs (k := k) (by rw [unhide HLn]; exact hlt))
   clear hO
   generalize atR rs k = r at *
   generalize hT : behindT (rs.take k) = T at *
   have HI : Inv T := hT ▸ behindT_inv _
   have HE := hide hT
   have lB := hB.lt
   clear hT
   go_wp2_with (go_at_call 78; refine (do_any w.heap.size r.o T _ (hB.alloc _) HI.fit).mono ?_; rintro e w3 ⟨rfl, hB3, g3⟩; have G3 := (hG.alloc _).trans g3 (by simp); clear g3)
   go_roundw
   case rel => exact ⟨k + 1, by omega, by go_num, by rw [unhide HT, behindT_snoc, unhide HE]; exact hB3, G3⟩
   case measure => go_light; simp [intOf]; omega
  ·have hki : ¬ (k : Int) < (n : Int) := by omega
   have hkn : k = n := by omega
   have HT := hide (show rs.take k = rs by rw [hkn, ← unhide HLn, List.take_length])
   clear hkn
   go_wp2
   go_ret
   rw [unhide HT] at hB
   exact ⟨rfl, hB, hG⟩
set_option maxRecDepth 100000 in
set_option maxHeartbeats 2000000 in
theorem nopen_full (db base : Nat) (d : Dk) (v : Value) (w : World) (D : Dsk 115 5 w base db d.ep v d.l) (hf : d.ep = 100) :
  Calls Tryz.prog 110 #[.pointer (some ⟨db, 0, none⟩)] w fun e w' => e = .returned (.tuple #[.pointer none, .int .i64 8]) ∧ Dsk 115 5 w' base db d.ep v d.l ∧ Chg [db] w w' := by
 have HP : Hid (Dsk 115 5 w base db 100 v d.l) := hide (hf ▸ D)
 have HF := hide hf
 have lD := D.blk.lt
 clear D hf
 go_enter Tryz.func110, Tryz.ntmps110
 go_wp2_with (first
  | (go_at_call 31; refine (depoch_any db 100 v d.l base _ (unhide HP)).mono ?_; rintro e w' ⟨rfl, rfl⟩)
  | (go_at_call 137; refine (draise_full db v d.l base _ (unhide HP)).mono ?_; rintro e w2 ⟨rfl, P2, g2⟩))
 go_ret2
 rw [unhide HF]
 exact ⟨rfl, P2, g2⟩
theorem dcut_nine (b : Nat) (ep : Int) (v : Value) (l : List Int) (base : Nat) (m : Nat) (w : World) (h : Dsk 115 5 w base b ep v l) (h1 : 1 ≤ ep) (hm : 9 * m ≤ l.length) :
  Calls Tryz.prog 139 #[.pointer (some ⟨b, 0, none⟩), .int .i64 ep, .int .i64 ((m : Int) * 9)] w fun e w' => e = .returned (.int .i64 0) ∧ ∃ v', Dsk 115 5 w' base b ep v' (l.take (9 * m)) ∧ Chg (fp b v) w w' ∧ Nxt w v v' := by
 have e : (m : Int) * 9 = ((9 * m : Nat) : Int) := by omega
 rw [e]
 exact dcut_yes b ep v l base (9 * m) w h h1 hm
theorem Nxt.mono {w w' : World} {v v' : Value} (h : Nxt w' v v') (hs : w.heap.size ≤ w'.heap.size) : Nxt w v v' := by
 rcases h with h | ⟨g, e, hg⟩
 ·exact .inl h
 ·exact .inr ⟨g, e, Nat.le_trans hs hg⟩
set_option maxRecDepth 100000 in
set_option maxHeartbeats 4000000 in
theorem nopen_more (db base : Nat) (d : Dk) (v : Value) (w : World) (D : Dsk 115 5 w base db d.ep v d.l) (h0 : 0 ≤ d.ep) (h1 : d.ep < 100) :
  Calls Tryz.prog 110 #[.pointer (some ⟨db, 0, none⟩)] w fun e w' => ∃ nb tb v', e = .returned (.tuple #[.pointer (some ⟨nb, 0, none⟩), .int .i64 0]) ∧ w.heap.size ≤ nb ∧ w.heap.size ≤ tb ∧
   Nod w' nb tb db (openN d) ∧ Dsk 115 5 w' base db (openD d).ep v' (openD d).l ∧ nb ∉ fp db v' ∧ tb ∉ fp db v' ∧ Chg (fp db v) w w' ∧ Nxt w v v' := by
 obtain ⟨ep, l⟩ := d
 unfold openN openD
 dsimp only at D h0 h1 ⊢
 obtain ⟨c0, c1, hl, f0, f1⟩ := D.cells
 have hfew := D.few
 obtain ⟨kb1, kb2⟩ := keptL_bytes D.ok ep
 have KB := hide kb1
 have hok := hide D.ok
 have HQ : Hid ((allR l.length (getB l)).length ≤ 4000) := hide (by have := (recsL_back D.ok).2.1; unfold recsL at this; omega)
 have fD := hide D.fp_lt
 clear kb1
 have HP := hide D
 clear D
 obtain ⟨m, hm⟩ : ∃ m, m = (keptL l ep).length := ⟨_, rfl⟩
 have HM := hide hm
 have HU : Hid ((untilR (allR l.length (getB l)) ep).length = m) := hide hm.symm
 have hm9 : 9 * m ≤ l.length := by rw [hm]; exact kb2
 clear c0 c1 f0 f1 hm kb2
 go_enter Tryz.func110, Tryz.ntmps110
 go_wp2_with (first
  | (go_at_call 31; refine (depoch_any db ep v l base _ (unhide HP)).mono ?_; rintro e w ⟨rfl, rfl⟩)
  | (go_at_call 137; refine (draise_more db ep v l base _ (unhide HP) h0 (by omega)).mono ?_; rintro e w2 ⟨rfl, D2, g2⟩; have G2 : Chg (fp db v) w w2 := g2.wide (by intro x hx; simp at hx; subst hx; exact mem_fp.2 (.inl rfl)); have z2 := g2.size; clear g2)
  | (go_at_call 32; refine (dbytes_any db (ep + 1) v l base _ D2).mono ?_; rintro e w3 ⟨v3, rfl, own3, g3⟩; have D3 := D2.chg g3 (by simp); have G3 := G2.trans g3 (by simp); have z3 := g3.size; obtain ⟨a3, c3, rfl, hc3, hB3⟩ := sl_byt (own_sl own3) (unhide hok); clear own3 g3)
  | (go_at_call 76; refine (all_any a3 l.length c3 (getB l) _ (by omega) hc3 hB3).mono ?_; rintro e w4 ⟨v4, rfl, own4, g4⟩; obtain ⟨a4, c4, rfl, hc4, -, R4⟩ := own_recs own4 rfl; have HO4 := hide own4; have HR4 := hide R4; have D4 := D3.chg g4 (by simp); have G4 := G3.trans g4 (by simp); have z4 := g4.size; clear own4 g4 R4)
  | (go_at_call 138; refine (upto_any a4 c4 (allR l.length (getB l)) ep _ hc4 (unhide HQ) (unhide HR4)).mono ?_; rintro e w5 ⟨rfl, g5⟩; rw [unhide HU]; have D5 := D4.chg g5 (by simp); have G5 := G4.trans g5 (by simp); have z5 := g5.size; have HO5 := hide (own_keep (unhide HO4) g5 (by simp)); clear g5)
  | (go_at_call 139; refine (dcut_nine db (ep + 1) _ l base m _ D5 (by omega) hm9).mono ?_; rintro e w6 ⟨rfl, v6, D6, g6, n6⟩; have G6 := G5.trans g6 (fun x hx => .inl hx); have z6 := g6.size; have HO6 := hide (own_keep (unhide HO5) g6 (by intro x hx e; have h7 := ((unhide HO5).lt _ e).1; have h8 := unhide fD x hx; omega)); clear g6)
  | (go_at_call 140; refine (replay_any a4 m c4 (keptL l ep) _ (unhide HM).symm (by omega) (((Recs.own (unhide HO6) rfl).le (by rw [← unhide HU]; exact untilR_len _ _)).congr (fun i hi => by unfold keptL recsL; rw [untilR_pre, unhide HU, atR_take _ _ _ hi]))).mono ?_; rintro e w7 ⟨rfl, hB7, g7⟩; have D7 := D6.chg g7 (by simp); have G7 := G6.trans g7 (by simp); have z7 := hB7.lt; clear g7))
 go_ret2
 have hD : Dsk 115 5 w7 base db (ep + 1) v6 (bytesL (keptL l ep)) := by rw [← unhide KB, ← unhide HM]; exact D7
 have l6 := D6.fp_lt
 exact ⟨w7.heap.size, w6.heap.size, v6, rfl, by omega, by omega, ⟨Blk.new w7 _ _, hB7.alloc _⟩, hD.alloc _, fun hf => by have := D7.fp_lt _ hf; omega, fun hf => by have := l6 _ hf; omega, G7.alloc _, n6.mono (by omega)⟩
def Wr (nb tb db base : Nat) (n : Nd) (d : Dk) (v : Value) (o : Od) (w W : World) : Prop :=
 Nod W nb tb db n ∧ Dsk 115 5 W base db d.ep v d.l ∧ Blk W w.heap.size #[.int .i64 o.k, .int .i64 o.now, .int .i64 o.jb, .int .i64 o.tr, .int .i64 o.wk, .int .i64 o.tm] 83 ∧ Chg [] w W
section
variable {nb tb db base : Nat} {n : Nd} {d : Dk} {v : Value} {o : Od} {w W : World}
theorem Wr.chg {W' : World} (h : Wr nb tb db base n d v o w W) (l1 : nb < w.heap.size) (l2 : tb < w.heap.size) (l3 : ∀ x ∈ fp db v, x < w.heap.size) {bs : List Nat} (k : Chg bs W W') (hb : ∀ x ∈ bs, w.heap.size < x) : Wr nb tb db base n d v o w W' :=
 ⟨h.1.chg k (fun hx => by have := hb _ hx; omega) (fun hx => by have := hb _ hx; omega), h.2.1.chg k (fun x hx hf => by have := hb _ hx; have := l3 _ hf; omega), h.2.2.1.chg k (fun hx => by have := hb _ hx; omega), h.2.2.2.trans k (fun x hx => .inr (by have := hb _ hx; omega))⟩
theorem wr_start (N : Nod w nb tb db n) (D : Dsk 115 5 w base db d.ep v d.l) : Wr nb tb db base n d v o w (w.alloc (.cells #[.int .i64 o.k, .int .i64 o.now, .int .i64 o.jb, .int .i64 o.tr, .int .i64 o.wk, .int .i64 o.tm] 83)) := ⟨N.alloc _, D.alloc _, Blk.new w _ _, (Chg.refl _ _).alloc _⟩
theorem Wr.drew (h : Wr nb tb db base n d v o w W) : Wr nb tb db base n d v o w W.drew := ⟨⟨h.1.1, h.1.2⟩, h.2.1.drew, h.2.2.1, h.2.2.2.drew⟩
theorem Wr.alloc (h : Wr nb tb db base n d v o w W) (x : Obj) : Wr nb tb db base n d v o w (W.alloc x) := ⟨h.1.alloc x, h.2.1.alloc x, h.2.2.1.alloc x, h.2.2.2.alloc x⟩
theorem Wr.size (h : Wr nb tb db base n d v o w W) : w.heap.size < W.heap.size := h.2.2.1.lt
theorem wr_yield {ops : Array Oper} {op : Oper} {a : Act} {x : Operand} (hw : Region.wanted op (yielded ops a.tmps) = true) (ho : op.op = .load 83 x) (hx : a.eval x = .pointer (some ⟨w.heap.size, 0, none⟩)) :
  YieldsIf Tryz.prog ops (Wr nb tb db base n d v o w) op (odV o) a :=
 yieldsIf_load_mid (P := Tryz.prog) hw 83 x ho w.heap.size 0 hx [.int .i64 o.k, .int .i64 o.now, .int .i64 o.jb, .int .i64 o.tr, .int .i64 o.wk, .int .i64 o.tm] _ (fun w' hw' j v hv => by rw [Nat.zero_add, hw'.2.2.1.cell]; simpa using hv) Tryz.underlying83 rfl (by rw [ordInfo]; rfl)
end
theorem nine_sl {w : World} {g : Nat} {r : Rc} {t : TypeId} (h : Blk w g #[.int .u8 (by9 r 0), .int .u8 (by9 r 1), .int .u8 (by9 r 2), .int .u8 (by9 r 3), .int .u8 (by9 r 4), .int .u8 (by9 r 5), .int .u8 (by9 r 6), .int .u8 (by9 r 7), .int .u8 (by9 r 8)] t) : Sl w (.slice (some ⟨g, 0, none⟩) 9 9) (nineL r) := by
 refine .inr ⟨⟨g, 0, none⟩, 9, rfl, Nat.le_refl _, fun j u hj => ?_⟩
 have hj9 : j < 9 := by
  rcases Nat.lt_or_ge j 9 with h1 | h1
  ·exact h1
  ·rw [List.getElem?_eq_none (by rw [nineL_len]; exact h1)] at hj; cases hj
 have e : ((⟨g, 0, none⟩ : Addr).add j) = ⟨g, j, none⟩ := by simp [Addr.add]; omega
 rw [e, h.cell]
 rw [nineL_at r hj9] at hj
 cases hj
 obtain rfl | rfl | rfl | rfl | rfl | rfl | rfl | rfl | rfl : j = 0 ∨ j = 1 ∨ j = 2 ∨ j = 3 ∨ j = 4 ∨ j = 5 ∨ j = 6 ∨ j = 7 ∨ j = 8 := by omega
 all_goals rfl
set_option maxRecDepth 100000 in
set_option maxHeartbeats 2000000 in
theorem nwr_down (nb tb db : Nat) (n : Nd) (o : Od) (keep : Int) (w : World) (N : Nod w nb tb db n) (hd : n.dn = true) :
  Calls Tryz.prog 141 #[.pointer (some ⟨nb, 0, none⟩), odV o, .int .i64 keep] w fun x w' => x = .returned (.int .i64 10) ∧ Chg [] w w' := by
 obtain ⟨c0, c1, c2, c3, lb, -⟩ := N.cells
 rw [hd] at c3
 clear N hd
 unfold odV
 go_enter Tryz.func141, Tryz.ntmps141
 go_wp2
 go_ret
 exact ⟨rfl, (Chg.refl _ _).alloc _⟩
set_option maxRecDepth 100000 in
set_option maxHeartbeats 2000000 in
theorem nwr_fenced (nb tb db base : Nat) (n : Nd) (d : Dk) (v : Value) (o : Od) (keep : Int) (w : World) (N : Nod w nb tb db n) (D : Dsk 115 5 w base db d.ep v d.l) (hd : n.dn = false) (he : ¬ d.ep = n.e) :
  Calls Tryz.prog 141 #[.pointer (some ⟨nb, 0, none⟩), odV o, .int .i64 keep] w fun x w' => x = .returned (.int .i64 9) ∧ Nod w' nb tb db (stopN n) ∧ Chg [nb] w w' := by
 obtain ⟨c0, c1, c2, c3, lb, -⟩ := N.cells
 rw [hd] at c3
 have hne : (d.ep != n.e) = true := by simpa using he
 have HS := hide (wr_start (o := o) N D).drew
 clear N D hd he
 unfold odV
 go_enter Tryz.func141, Tryz.ntmps141
 go_wp2_with fail
 obtain ⟨x0, x1, x2, x3, lx, -⟩ := (unhide HS).1.cells
 go_region_held3 (fun w' => w'.cell? ⟨nb, 1, none⟩ = some (.pointer (some ⟨db, 0, none⟩)) ∧ w'.cell? ⟨nb, 2, none⟩ = some (.int .i64 n.e)) (first | exact ⟨x1, x2⟩) (first | (go_at_call 31; refine (depoch_any db d.ep v d.l base _ (unhide HS).2.1).mono ?_; rintro e w' ⟨rfl, rfl⟩))
 go_wp2_with (go_at_call 113; refine (nstop_any nb tb db n _ (unhide HS).1).mono ?_; rintro e w2 ⟨rfl, N2, g2⟩)
 go_ret
 exact ⟨rfl, N2, ((unhide HS).2.2.2.wide (cs := [nb]) (by simp)).trans g2 (fun x hx => .inl hx)⟩
set_option maxRecDepth 100000 in
set_option maxHeartbeats 4000000 in
theorem nwr_go (nb tb db base : Nat) (n : Nd) (d : Dk) (v : Value) (o : Od) (keep : Int) (w : World) (N : Nod w nb tb db n) (D : Dsk 115 5 w base db d.ep v d.l) (hI : Inv n.T) (hbase : base ≤ w.heap.size) (e0 : 1 ≤ d.ep) (e1 : d.ep ≤ 100) (hnb : nb ∉ fp db v) (htb : tb ∉ fp db v) (hd : n.dn = false) (he : d.ep = n.e) :
  Calls Tryz.prog 141 #[.pointer (some ⟨nb, 0, none⟩), odV o, .int .i64 keep] w fun x w' =>
   ((doT n.T o).2.code ≠ 0 ∧ x = .returned (.int .i64 (doT n.T o).2.code) ∧ Chg [] w w') ∨
   ((doT n.T o).2.code = 0 ∧ 1500 < d.l.length + keepN keep ∧ x = .returned (.int .i64 8) ∧ ∃ v', Nod w' nb tb db n ∧ Dsk 115 5 w' base db d.ep v' d.l ∧ Chg (fp db v) w w' ∧ Nxt w v v') ∨
   ((doT n.T o).2.code = 0 ∧ ¬ 1500 < d.l.length + keepN keep ∧ x = .returned (.int .i64 0) ∧ ∃ v', Nod w' nb tb db n ∧ Dsk 115 5 w' base db d.ep v' (d.l ++ tornL d.ep o keep) ∧ Chg (fp db v) w w' ∧ Nxt w v v') := by
 obtain ⟨c0, c1, c2, c3, lb, -⟩ := N.cells
 rw [hd] at c3
 have ltb := N.2.lt
 have hne : (d.ep != n.e) = false := by simpa using he
 have HS := hide (wr_start (o := o) N D).drew
 have lf := hide D.fp_lt
 clear N D hd
 unfold odV
 go_enter Tryz.func141, Tryz.ntmps141
 go_wp2_with fail
 obtain ⟨x0, x1, x2, x3, lx, -⟩ := (unhide HS).1.cells
 go_region_held3 (fun w' => w'.cell? ⟨nb, 1, none⟩ = some (.pointer (some ⟨db, 0, none⟩)) ∧ w'.cell? ⟨nb, 2, none⟩ = some (.int .i64 n.e)) (first | exact ⟨x1, x2⟩) (first | (go_at_call 31; refine (depoch_any db d.ep v d.l base _ (unhide HS).2.1).mono ?_; rintro e w' ⟨rfl, rfl⟩))
 clear x0 x1 x2 x3 lx
 go_upto_region 6 with fail
 go_cut [7] from 26 to 32 (fun s7 wx => ∃ py : Nat, s7 = .pointer (some ⟨py, 0, none⟩) ∧ w.heap.size < py ∧ Blk wx py #[.int .i64 (doT n.T o).2.code, .int .i64 (doT n.T o).2.jb, .int .i64 (doT n.T o).2.tr] 95 ∧ Wr nb tb db base n d v o w wx)
 case first =>
  refine wp_region_noPanic ?_
  refine wp_region_held_drew (S := Wr nb tb db base n d v o w) (by kernel_rfl) (unhide HS).drew (fun hH => ?_)
  refine tk 0 rfl hH ?_
  walk_nrm
  refine tk 1 rfl hH ?_
  walk_nrm
  refine tk 2 rfl hH ?_
  walk_nrm
  refine tk 3 rfl hH ?_ (hz := by intro W' hSw; (try dsimp only at hSw); obtain ⟨x0, x1, x2, x3, lx, -⟩ := hSw.1.cells; go_simp; try with_reducible rfl)
  walk_nrm
  refine wpAnyH_take (i := 5) (v := _) rfl (by kernel_rfl) (by kernel_rfl) (by kernel_rfl) (fun _ _ _ h => h) (wr_yield (by rfl) rfl rfl) hH ?_
  walk_nrm
  generalize hW0 : World.drew (World.drew _) = W0 at *
  clear hW0
  refine wpAnyH_ready (rs := [4, 7]) (by kernel_rfl) (by simp) ?_
  refine AllReadyH.cons rfl (fun K hK => ?_) (AllReadyH.cons rfl (fun K hK => ?_) AllReadyH.nil)
  ·rw [if_pos (by rfl)]
   have zW := hH.size
   go_simp
   refine (own_any tb n.T _ hH.1.2).mono ?_
   rintro x w2 ⟨rfl, U, g2⟩
   refine hK.out _ _ (hH.chg lb ltb (unhide lf) g2 (by simp)) (fun hH2 => ?_)
   clear hK K
   walk_nrm
   have zU := U.lt
   clear hH
   have hH := hH2
   clear hH2
   clear g2
   refine wpAnyH_ready (rs := [6, 7]) (by kernel_rfl) (by simp) ?_
   refine AllReadyH.cons rfl (fun K hK => ?_) (AllReadyH.cons rfl (fun K hK => ?_) AllReadyH.nil)
   ·rw [if_pos (by rfl)]
    go_simp
    refine (do_any W0.heap.size o n.T _ U hI.fit).mono ?_
    rintro x w3 ⟨rfl, U3, g3⟩
    refine hK.out _ _ (hH.chg lb ltb (unhide lf) g3 (by simp; omega)) (fun hH2 => ?_)
    clear hK K
    walk_nrm
    clear hH
    have hH := hH2
    clear hH2
    clear g3
    refine rd 7 rfl (fun K hK => ?_)
    have z7 := hH.size
    go_simp
    refine hK.out _ _ (hH.alloc _) (fun hH2 => ?_)
    clear hK K
    walk_nrm
    have Y := Blk.new w3 #[.int .i64 0, .int .i64 0, .int .i64 0] 95
    clear hH
    have hH := hH2
    clear hH2
    generalize hW4 : w3.alloc _ = W4 at *
    clear hW4
    refine rd 8 rfl (fun K hK => ?_)
    refine wp_store_ans rfl rfl rfl Y (fun w9 Y9 g9 => ?_)
    refine hK.out _ _ (hH.chg lb ltb (unhide lf) g9 (by simp; omega)) (fun hH9 => ?_)
    clear hK K
    walk_nrm
    refine wpAnyH_done (by kernel_rfl) ?_ _
    refine NoPanic.normal ?_
    go_wp2_with fail
    go_meet
    exact ⟨_, rfl, by omega, Y9, hH9⟩
   ·rw [if_pos (by rfl)]
    have z7 := hH.size
    go_simp
    refine hK.out _ _ (hH.alloc _) (fun hH2 => ?_)
    clear hK K
    walk_nrm
    have Y := Blk.new w2 #[.int .i64 0, .int .i64 0, .int .i64 0] 95
    replace U := U.alloc (.cells #[.int .i64 0, .int .i64 0, .int .i64 0] 95)
    clear hH
    have hH := hH2
    clear hH2
    generalize hW4 : w2.alloc _ = W4 at *
    clear hW4
    refine rd 6 rfl (fun K hK => ?_)
    go_simp
    refine (do_any W0.heap.size o n.T _ U hI.fit).mono ?_
    rintro x w3 ⟨rfl, U3, g3⟩
    refine hK.out _ _ (hH.chg lb ltb (unhide lf) g3 (by simp; omega)) (fun hH2 => ?_)
    clear hK K
    walk_nrm
    replace Y := Y.chg g3 (by simp; omega)
    clear g3
    clear hH
    have hH := hH2
    clear hH2
    refine rd 8 rfl (fun K hK => ?_)
    refine wp_store_ans rfl rfl rfl Y (fun w9 Y9 g9 => ?_)
    refine hK.out _ _ (hH.chg lb ltb (unhide lf) g9 (by simp; omega)) (fun hH9 => ?_)
    clear hK K
    walk_nrm
    refine wpAnyH_done (by kernel_rfl) ?_ _
    refine NoPanic.normal ?_
    go_wp2_with fail
    go_meet
    exact ⟨_, rfl, by omega, Y9, hH9⟩
  ·rw [if_pos (by rfl)]
   have z7 := hH.size
   go_simp
   refine hK.out _ _ (hH.alloc _) (fun hH2 => ?_)
   clear hK K
   walk_nrm
   have Y := Blk.new W0 #[.int .i64 0, .int .i64 0, .int .i64 0] 95
   clear hH
   have hH := hH2
   clear hH2
   generalize hW4 : W0.alloc _ = W4 at *
   clear hW4
   refine rd 4 rfl (fun K hK => ?_)
   have zW := hH.size
   go_simp
   refine (own_any tb n.T _ hH.1.2).mono ?_
   rintro x w2 ⟨rfl, U, g2⟩
   refine hK.out _ _ (hH.chg lb ltb (unhide lf) g2 (by simp)) (fun hH2 => ?_)
   clear hK K
   walk_nrm
   have zU := U.lt
   clear hH
   have hH := hH2
   clear hH2
   have lY4 := Y.lt
   replace Y := Y.chg g2 (by simp)
   clear g2
   refine rd 6 rfl (fun K hK => ?_)
   go_simp
   refine (do_any W4.heap.size o n.T _ U hI.fit).mono ?_
   rintro x w3 ⟨rfl, U3, g3⟩
   refine hK.out _ _ (hH.chg lb ltb (unhide lf) g3 (by simp; omega)) (fun hH2 => ?_)
   clear hK K
   walk_nrm
   replace Y := Y.chg g3 (by simp; omega)
   clear g3
   clear hH
   have hH := hH2
   clear hH2
   refine rd 8 rfl (fun K hK => ?_)
   refine wp_store_ans rfl rfl rfl Y (fun w9 Y9 g9 => ?_)
   refine hK.out _ _ (hH.chg lb ltb (unhide lf) g9 (by simp; omega)) (fun hH9 => ?_)
   clear hK K
   walk_nrm
   refine wpAnyH_done (by kernel_rfl) ?_ _
   refine NoPanic.normal ?_
   go_wp2_with fail
   go_meet
   exact ⟨_, rfl, by omega, Y9, hH9⟩
 case rest =>
  obtain ⟨py, rfl, hpy, Y, HW⟩ := hcut
  clear HS
  obtain ⟨y0, y1, y2, -, -, -⟩ := Y.three
  have ly := Y.lt
  by_cases hc : (doT n.T o).2.code = 0
  ·have hcb : ((doT n.T o).2.code != 0) = false := by simpa using hc
   have HC := hide hc
   have CK : Hid (ckR ⟨n.e, o⟩ = 0) := hide (nine_ck (he ▸ e0) (he ▸ e1) hc)
   clear hc
   go_wp2_with fail
   refine wp_region_noPanic ?_
   refine wp_region_held_drew (S := Wr nb tb db base n d v o w) (by kernel_rfl) HW.drew (fun hH => ?_)
   clear HW
   refine tk 0 rfl hH ?_
   walk_nrm
   refine tk 1 rfl hH ?_
   walk_nrm
   refine tk 2 rfl hH ?_
   walk_nrm
   refine tk 3 rfl hH ?_ (hz := by intro W' hSw; (try dsimp only at hSw); obtain ⟨x0, x1, x2, x3, lx, -⟩ := hSw.1.cells; go_simp; try with_reducible rfl)
   walk_nrm
   refine wpAnyH_take (i := 4) (v := _) rfl (by kernel_rfl) (by kernel_rfl) (by kernel_rfl) (fun _ _ _ h => h) (wr_yield (by rfl) rfl rfl) hH ?_
   walk_nrm
   unfold odV
   refine tk 5 rfl hH ?_
   walk_nrm
   generalize hW1 : World.drew wc = W1 at *
   clear hW1
   refine rd 6 rfl (fun K hK => ?_)
   go_simp
   refine (enc_both ⟨n.e, o⟩ _).mono ?_
   rintro x w2 ⟨v2, rfl, -, hv2, g2⟩
   rw [unhide CK]
   obtain ⟨g, rfl, hg, B2⟩ := hv2 (unhide CK)
   have zg := hH.size
   refine hK.out _ _ (hH.chg lb ltb (unhide lf) g2 (by simp)) (fun hH2 => ?_)
   clear hK K hv2 g2 hH
   have hH := hH2
   clear hH2
   walk_nrm
   refine tk 7 rfl hH ?_
   walk_nrm
   refine tk 8 rfl hH ?_
   walk_nrm
   refine tk 9 rfl hH ?_
   walk_nrm
   refine tk 10 rfl hH ?_
   walk_nrm
   refine tk 11 rfl hH ?_
   walk_nrm
   refine wpAnyH_done (by kernel_rfl) ?_ _
   refine NoPanic.normal ?_
   go_wp2_with fail
   refine wp_region_noPanic ?_
   refine wp_region_held_drew (S := fun W => Nod W nb tb db n) (by kernel_rfl) hH.drew.1 (fun hN => ?_)
   have HW2 := hH.drew
   have B3 : Blk w2.drew g _ _ := B2
   clear hH B2
   have hH := hN
   clear hN
   refine tk 0 rfl hH ?_
   walk_nrm
   refine tk 1 rfl hH ?_
   walk_nrm
   refine tk 2 rfl hH ?_
   walk_nrm
   refine tk 3 rfl hH ?_ (hz := by intro W' hSw; (try dsimp only at hSw); obtain ⟨x0, x1, x2, x3, lx, -⟩ := hSw.cells; go_simp; try with_reducible rfl)
   walk_nrm
   refine tk 4 rfl hH ?_
   walk_nrm
   refine tk 5 rfl hH ?_
   walk_nrm
   refine tk 6 rfl hH ?_
   walk_nrm
   refine tk 7 rfl hH ?_ (hz := by intro W' hSw; (try dsimp only at hSw); obtain ⟨x0, x1, x2, x3, lx, -⟩ := hSw.cells; go_simp; try with_reducible rfl)
   walk_nrm
   refine tk 8 rfl hH ?_
   walk_nrm
   refine tk 9 rfl hH ?_
   walk_nrm
   refine tk 10 rfl hH ?_
   walk_nrm
   obtain ⟨mx, hmx⟩ : ∃ mx, mx = (if keep < 0 then (0 : Int) else keep) := ⟨_, rfl⟩
   rw [← hmx]
   have HMX := hide hmx
   clear hmx
   refine tk 11 rfl hH ?_
   walk_nrm
   refine tk 12 rfl hH ?_
   walk_nrm
   refine tk 13 rfl hH ?_
   walk_nrm
   have hkm : (if (9 : Int) < mx then 9 else mx) = ((keepN keep : Nat) : Int) := by
    rw [unhide HMX]
    unfold keepN
    split <;> split <;> (try split) <;> omega
   rw [hkm]
   clear hkm
   obtain ⟨km, hkm⟩ : ∃ km, km = keepN keep := ⟨_, rfl⟩
   have hk9 : km ≤ 9 := by rw [hkm]; exact keepN_le keep
   have SL : Sl w2.drew (.slice (some ⟨g, 0, none⟩) km 9) (tornL n.e o keep) := by unfold tornL; rw [← hkm]; exact Sl.take (nineL_len _) (nine_sl B3) (by rw [nineL_len]; exact hk9) 9 hk9
   have OKT : okB (tornL n.e o keep) := tornL_ok (he ▸ e0) (he ▸ e1) (unhide HC) keep
   have D3 : Dsk 115 5 w2.drew base db n.e v d.l := he ▸ HW2.2.1
   rw [← hkm]
   have HKM := hide hkm
   clear hkm
   have hki0 : (0 : Int) ≤ (km : Int) := by omega
   have hki9 : (km : Int) ≤ 9 := by omega
   refine tk 14 rfl hH ?_
   walk_nrm
   by_cases hfl : 1500 < d.l.length + km
   ·refine rd 15 rfl (fun K hK => ?_)
    go_simp
    refine (dapp_full db n.e v d.l base _ (tornL n.e o keep) _ D3 (he ▸ e0) SL OKT (Nat.le_trans hbase HW2.2.2.2.size) (by rw [tornL_len, ← unhide HKM]; omega)).mono ?_
    rintro x w4 ⟨rfl, v4, D4, g4, n4⟩
    have N4 := HW2.1.chg g4 hnb htb
    have G4 : Chg (fp db v) w w4 := (HW2.2.2.2.wide (cs := fp db v) (by simp)).trans g4 (fun x hx => .inl hx)
    have n4' := n4.mono HW2.2.2.2.size
    refine hK.out _ _ N4 (fun hH2 => ?_)
    clear hK K g4 n4 hH
    have hH := hH2
    clear hH2
    walk_nrm
    refine tk 16 rfl hH ?_
    walk_nrm
    refine wpAnyH_done (by kernel_rfl) ?_ _
    refine NoPanic.normal ?_
    rw [← he] at D4
    have HE := hide he
    clear he hne
    go_wp2
    go_ret
    first
     | exact .inr (.inl ⟨unhide HC, by rw [← unhide HKM]; exact hfl, rfl, v4, N4, D4, G4, n4'⟩)
     | exact .inr (.inl ⟨unhide HC, by rw [← unhide HKM]; exact hfl, rfl, N4, v4, D4, G4, n4'⟩)
   ·refine rd 15 rfl (fun K hK => ?_)
    go_simp
    refine (dapp_yes db n.e v d.l base _ (tornL n.e o keep) _ D3 (he ▸ e0) SL OKT (Nat.le_trans hbase HW2.2.2.2.size) (by rw [tornL_len, ← unhide HKM]; omega)).mono ?_
    rintro x w4 ⟨rfl, v4, D4, g4, n4⟩
    have N4 := HW2.1.chg g4 hnb htb
    have G4 : Chg (fp db v) w w4 := (HW2.2.2.2.wide (cs := fp db v) (by simp)).trans g4 (fun x hx => .inl hx)
    have n4' := n4.mono HW2.2.2.2.size
    refine hK.out _ _ N4 (fun hH2 => ?_)
    clear hK K g4 n4 hH
    have hH := hH2
    clear hH2
    walk_nrm
    refine tk 16 rfl hH ?_
    walk_nrm
    refine wpAnyH_done (by kernel_rfl) ?_ _
    refine NoPanic.normal ?_
    rw [← he] at D4
    have HE := hide he
    clear he hne
    go_wp2
    go_ret
    first
     | exact .inr (.inr ⟨unhide HC, by rw [← unhide HKM]; exact hfl, rfl, v4, N4, by rw [unhide HE]; rw [unhide HE] at D4; exact D4, G4, n4'⟩)
     | exact .inr (.inr ⟨unhide HC, by rw [← unhide HKM]; exact hfl, rfl, N4, v4, by rw [unhide HE]; rw [unhide HE] at D4; exact D4, G4, n4'⟩)
  ·have hcb : ((doT n.T o).2.code != 0) = true := by simpa using hc
   have HC := hide hc
   clear hc
   go_wp2
   go_ret
   exact .inl ⟨unhide HC, rfl, HW.2.2.2⟩
end Go.Proofs.YtllnjiljjodfdacGreatDoor
