/-
  A node of the program in memory; its small functions; the records that it keeps, and its table behind them. Nothing here is claimed by itself.
-/
import Derived.Test.YtllnjiljjodfdacGreatDoorMgN2
namespace Go.Proofs.YtllnjiljjodfdacGreatDoor
open Go.RowKit

/-- The node n of the disk in block db lies in block nb, its table in block tb. -/
def Nod (w : World) (nb tb db : Nat) (n : Nd) : Prop :=
  Blk w nb #[.pointer (some ⟨tb, 0, none⟩), .pointer (some ⟨db, 0, none⟩), .int .i64 n.e, .bool n.dn] 130 ∧ Has 151 w tb n.T
theorem Nod.chg {w w' : World} {nb tb db : Nat} {n : Nd} (h : Nod w nb tb db n) {bs : List Nat} (k : Chg bs w w') (h1 : nb ∉ bs) (h2 : tb ∉ bs) : Nod w' nb tb db n := ⟨h.1.chg k h1, h.2.chg k h2⟩
theorem Nod.alloc {w : World} {nb tb db : Nat} {n : Nd} (h : Nod w nb tb db n) (o : Obj) : Nod (w.alloc o) nb tb db n := ⟨h.1.alloc o, h.2.alloc o⟩
theorem Nod.lt {w : World} {nb tb db : Nat} {n : Nd} (h : Nod w nb tb db n) : nb < w.heap.size ∧ tb < w.heap.size := ⟨h.1.lt, h.2.lt⟩
theorem Nod.ne {w : World} {nb tb db : Nat} {n : Nd} (h : Nod w nb tb db n) : nb ≠ tb := fun e => by
  obtain ⟨h1, h2⟩ := h
  subst e
  unfold Blk at h1
  unfold Has at h2
  rw [h1] at h2
  simp at h2
theorem Nod.cells {w : World} {nb tb db : Nat} {n : Nd} (h : Nod w nb tb db n) : w.cell? ⟨nb, 0, none⟩ = some (.pointer (some ⟨tb, 0, none⟩)) ∧ w.cell? ⟨nb, 1, none⟩ = some (.pointer (some ⟨db, 0, none⟩)) ∧ w.cell? ⟨nb, 2, none⟩ = some (.int .i64 n.e) ∧ w.cell? ⟨nb, 3, none⟩ = some (.bool n.dn) ∧ nb < w.heap.size ∧ w.frozen? ⟨nb, 3, none⟩ = false :=
  ⟨h.1.cell 0, h.1.cell 1, h.1.cell 2, h.1.cell 3, h.1.lt, h.1.fz 3⟩

theorem nstop_any (nb tb db : Nat) (n : Nd) (w : World) (h : Nod w nb tb db n) :
    Calls Tryz.prog 113 #[.pointer (some ⟨nb, 0, none⟩)] w fun e w' => e = .returned (.tuple #[]) ∧ Nod w' nb tb db (stopN n) ∧ Chg [nb] w w' := by
  obtain ⟨c0, c1, c2, c3, lb, hf⟩ := h.cells
  have H := hide h
  clear h
  go_enter Tryz.func113, Tryz.ntmps113
  go_wp2
  go_end0
  obtain ⟨h1, h2⟩ := unhide H
  have hne := Nod.ne ⟨h1, h2⟩
  exact ⟨rfl, ⟨h1.set 3 (.bool true), h2.setOther (p := ⟨nb, 3, none⟩) hne _⟩, (Chg.refl _ _).setCell (by simp) _⟩

set_option maxRecDepth 100000 in
set_option maxHeartbeats 2000000 in
theorem upto_any (a : Option Addr) (c : Nat) (rs : List Rc) (e : Int) (w : World) (hc : rs.length ≤ c) (hn : rs.length ≤ 4000) (h : Recs w a rs.length (atR rs)) :
    Calls Tryz.prog 138 #[.int .i64 e, .slice a rs.length c] w fun e' w' => e' = .returned (.slice a (untilR rs e).length c) ∧ Chg [] w w' := by
  have HH := hide h
  clear h
  go_enter Tryz.func138, Tryz.ntmps138
  go_wp2_with fail
  go_loopw [9] (fun i wr => ∃ k : Nat, k ≤ rs.length ∧ i = .int .i64 k ∧ Hid (∀ j, j < k → (atR rs j).ep ≤ e) ∧ Chg [] w wr) (fun i _ => rs.length - (intOf i).toNat)
  case atStart => exact ⟨0, by omega, rfl, hide (fun j hj => by omega), Chg.refl _ _⟩
  case round =>
    obtain ⟨k, hk, rfl, hS, hG⟩ := hrel
    by_cases hlt : k < rs.length
    · have hki : (k : Int) < (rs.length : Int) := by omega
      have hk0 : (0 : Int) ≤ (k : Int) := by omega
      have hkc : (k : Int) ≤ (c : Int) := by omega
      rcases unhide HH with h0 | ⟨bl, off, rfl, hbl, hO⟩
      · omega
      obtain ⟨p0, p1, p2, p3, p4, p5, p6⟩ := (hO k hlt).chg hG hbl
      have hbl' := Nat.lt_of_lt_of_le hbl hG.size
      clear hO
      by_cases hx : (atR rs k).ep ≤ e
      · have hd : decide (e < (atR rs k).ep) = false := by simp; omega
        have HX := hide hx
        clear hx
        go_wp2
        go_roundw
        case rel => exact ⟨k + 1, by omega, by go_num, hide (fun j hj => by
          by_cases e1 : j = k
          · subst e1; exact unhide HX
          · exact unhide hS j (by omega)), hG.alloc _⟩
        case measure => go_light; simp [intOf]; omega
      · have hd : decide (e < (atR rs k).ep) = true := by simp; omega
        have HL := hide (untilR_stop rs e k (unhide hS) hlt hx)
        clear hx
        go_wp2
        go_ret
        rw [unhide HL]
        exact ⟨rfl, hG.alloc _⟩
    · have hki : ¬ (k : Int) < (rs.length : Int) := by omega
      have HL := hide (untilR_whole rs e (fun j hj => unhide hS j (by omega)))
      go_wp2
      go_ret
      rw [unhide HL]
      exact ⟨rfl, hG⟩

set_option maxRecDepth 100000 in
set_option maxHeartbeats 2000000 in
theorem replay_any (a : Option Addr) (n c : Nat) (rs : List Rc) (w : World) (hl : rs.length = n) (hn : n ≤ 4000) (h : Recs w a n (atR rs)) :
    Calls Tryz.prog 140 #[.slice a n c] w fun e' w' => e' = .returned (.pointer (some ⟨w.heap.size, 0, none⟩)) ∧ Has 151 w' w.heap.size (behindT rs) ∧ Chg [] w w' := by
  have HH := hide h
  have HLn := hide hl
  clear h hl
  go_enter Tryz.func140, Tryz.ntmps140
  go_wp2_with (go_at_call 77; refine (new_any _).mono ?_; rintro e w1 ⟨rfl, hB0, hG0⟩)
  go_loopw [9] (fun i wr => ∃ k : Nat, k ≤ n ∧ i = .int .i64 k ∧ Has 151 wr w.heap.size (behindT (rs.take k)) ∧ Chg [] w wr) (fun i _ => n - (intOf i).toNat)
  case atStart => exact ⟨0, by omega, rfl, hB0, hG0⟩
  case round =>
    clear hB0 hG0
    obtain ⟨k, hk, rfl, hB, hG⟩ := hrel
    by_cases hlt : k < n
    · have hki : (k : Int) < (n : Int) := by omega
      have hk0 : (0 : Int) ≤ (k : Int) := by omega
      rcases unhide HH with h0 | ⟨bl, off, rfl, hbl, hO⟩
      · omega
      obtain ⟨p0, p1, p2, p3, p4, p5, p6⟩ := (hO k hlt).chg hG hbl
      have hbl' := Nat.lt_of_lt_of_le hbl hG.size
      have HT := hide (take_snocR rs (k := k) (by rw [unhide HLn]; exact hlt))
      clear hO
      generalize atR rs k = r at *
      generalize hT : behindT (rs.take k) = T at *
      have HI : Inv T := hT ▸ behindT_inv _
      have HE := hide hT
      have lB := hB.lt
      clear hT
      go_wp2_with (go_at_call 78; refine (do_any w.heap.size r.o T _ (hB.alloc _) HI.fit).mono ?_; rintro e w3 ⟨rfl, hB3, g3⟩; have G3 := (hG.alloc _).trans g3 (by simp); clear g3)
      go_roundw
      case rel => exact ⟨k + 1, by omega, by go_num, by rw [unhide HT, behindT_snoc, unhide HE]; exact hB3, G3⟩
      case measure => go_light; simp [intOf]; omega
    · have hki : ¬ (k : Int) < (n : Int) := by omega
      have hkn : k = n := by omega
      have HT := hide (show rs.take k = rs by rw [hkn, ← unhide HLn, List.take_length])
      clear hkn
      go_wp2
      go_ret
      rw [unhide HT] at hB
      exact ⟨rfl, hB, hG⟩

end Go.Proofs.YtllnjiljjodfdacGreatDoor

namespace Go.Proofs.YtllnjiljjodfdacGreatDoor
open Go.RowKit

theorem nopen_nil (w : World) : Calls Tryz.prog 110 #[.pointer none] w fun e w' => e = .returned (.tuple #[.pointer none, .int .i64 5]) ∧ w' = w := by
  go_enter Tryz.func110, Tryz.ntmps110
  go_wp2
  go_ret2
  exact ⟨rfl, rfl⟩

set_option maxRecDepth 100000 in
set_option maxHeartbeats 2000000 in
theorem nopen_full (db base : Nat) (d : Dk) (v : Value) (w : World) (D : Dsk 115 5 w base db d.ep v d.l) (hf : d.ep = 100) :
    Calls Tryz.prog 110 #[.pointer (some ⟨db, 0, none⟩)] w fun e w' => e = .returned (.tuple #[.pointer none, .int .i64 8]) ∧ Dsk 115 5 w' base db d.ep v d.l ∧ Chg [db] w w' := by
  have HP : Hid (Dsk 115 5 w base db 100 v d.l) := hide (hf ▸ D)
  have HF := hide hf
  have lD := D.blk.lt
  clear D hf
  go_enter Tryz.func110, Tryz.ntmps110
  go_wp2_with (first
    | (go_at_call 31; refine (depoch_any db 100 v d.l base _ (unhide HP)).mono ?_; rintro e w' ⟨rfl, rfl⟩)
    | (go_at_call 137; refine (draise_full db v d.l base _ (unhide HP)).mono ?_; rintro e w2 ⟨rfl, P2, g2⟩))
  go_ret2
  rw [unhide HF]
  exact ⟨rfl, P2, g2⟩

theorem dcut_nine (b : Nat) (ep : Int) (v : Value) (l : List Int) (base : Nat) (m : Nat) (w : World) (h : Dsk 115 5 w base b ep v l) (h1 : 1 ≤ ep) (hm : 9 * m ≤ l.length) :
    Calls Tryz.prog 139 #[.pointer (some ⟨b, 0, none⟩), .int .i64 ep, .int .i64 ((m : Int) * 9)] w fun e w' => e = .returned (.int .i64 0) ∧ ∃ v', Dsk 115 5 w' base b ep v' (l.take (9 * m)) ∧ Chg (fp b v) w w' ∧ Nxt w v v' := by
  have e : (m : Int) * 9 = ((9 * m : Nat) : Int) := by omega
  rw [e]
  exact dcut_yes b ep v l base (9 * m) w h h1 hm
theorem Nxt.mono {w w' : World} {v v' : Value} (h : Nxt w' v v') (hs : w.heap.size ≤ w'.heap.size) : Nxt w v v' := by
  rcases h with h | ⟨g, e, hg⟩
  · exact .inl h
  · exact .inr ⟨g, e, Nat.le_trans hs hg⟩

set_option maxRecDepth 100000 in
set_option maxHeartbeats 4000000 in
theorem nopen_more (db base : Nat) (d : Dk) (v : Value) (w : World) (D : Dsk 115 5 w base db d.ep v d.l) (h0 : 0 ≤ d.ep) (h1 : d.ep < 100) :
    Calls Tryz.prog 110 #[.pointer (some ⟨db, 0, none⟩)] w fun e w' => ∃ nb tb v', e = .returned (.tuple #[.pointer (some ⟨nb, 0, none⟩), .int .i64 0]) ∧ w.heap.size ≤ nb ∧ w.heap.size ≤ tb ∧
      Nod w' nb tb db (openN d) ∧ Dsk 115 5 w' base db (openD d).ep v' (openD d).l ∧ nb ∉ fp db v' ∧ tb ∉ fp db v' ∧ Chg (fp db v) w w' ∧ Nxt w v v' := by
  obtain ⟨ep, l⟩ := d
  unfold openN openD
  dsimp only at D h0 h1 ⊢
  obtain ⟨c0, c1, hl, f0, f1⟩ := D.cells
  have hfew := D.few
  obtain ⟨kb1, kb2⟩ := keptL_bytes D.ok ep
  have KB := hide kb1
  have hok := hide D.ok
  have HQ : Hid ((allR l.length (getB l)).length ≤ 4000) := hide (by have := (recsL_back D.ok).2.1; unfold recsL at this; omega)
  have fD := hide D.fp_lt
  clear kb1
  have HP := hide D
  clear D
  obtain ⟨m, hm⟩ : ∃ m, m = (keptL l ep).length := ⟨_, rfl⟩
  have HM := hide hm
  have HU : Hid ((untilR (allR l.length (getB l)) ep).length = m) := hide hm.symm
  have hm9 : 9 * m ≤ l.length := by rw [hm]; exact kb2
  clear c0 c1 f0 f1 hm kb2
  go_enter Tryz.func110, Tryz.ntmps110
  go_wp2_with (first
    | (go_at_call 31; refine (depoch_any db ep v l base _ (unhide HP)).mono ?_; rintro e w ⟨rfl, rfl⟩)
    | (go_at_call 137; refine (draise_more db ep v l base _ (unhide HP) h0 (by omega)).mono ?_; rintro e w2 ⟨rfl, D2, g2⟩; have G2 : Chg (fp db v) w w2 := g2.wide (by intro x hx; simp at hx; subst hx; exact mem_fp.2 (.inl rfl)); have z2 := g2.size; clear g2)
    | (go_at_call 32; refine (dbytes_any db (ep + 1) v l base _ D2).mono ?_; rintro e w3 ⟨v3, rfl, own3, g3⟩; have D3 := D2.chg g3 (by simp); have G3 := G2.trans g3 (by simp); have z3 := g3.size; obtain ⟨a3, c3, rfl, hc3, hB3⟩ := sl_byt (own_sl own3) (unhide hok); clear own3 g3)
    | (go_at_call 76; refine (all_any a3 l.length c3 (getB l) _ (by omega) hc3 hB3).mono ?_; rintro e w4 ⟨v4, rfl, own4, g4⟩; obtain ⟨a4, c4, rfl, hc4, -, R4⟩ := own_recs own4 rfl; have HO4 := hide own4; have HR4 := hide R4; have D4 := D3.chg g4 (by simp); have G4 := G3.trans g4 (by simp); have z4 := g4.size; clear own4 g4 R4)
    | (go_at_call 138; refine (upto_any a4 c4 (allR l.length (getB l)) ep _ hc4 (unhide HQ) (unhide HR4)).mono ?_; rintro e w5 ⟨rfl, g5⟩; rw [unhide HU]; have D5 := D4.chg g5 (by simp); have G5 := G4.trans g5 (by simp); have z5 := g5.size; have HO5 := hide (own_keep (unhide HO4) g5 (by simp)); clear g5)
    | (go_at_call 139; refine (dcut_nine db (ep + 1) _ l base m _ D5 (by omega) hm9).mono ?_; rintro e w6 ⟨rfl, v6, D6, g6, n6⟩; have G6 := G5.trans g6 (fun x hx => .inl hx); have z6 := g6.size; have HO6 := hide (own_keep (unhide HO5) g6 (by intro x hx e; have h7 := ((unhide HO5).lt _ e).1; have h8 := unhide fD x hx; omega)); clear g6)
    | (go_at_call 140; refine (replay_any a4 m c4 (keptL l ep) _ (unhide HM).symm (by omega) (((Recs.own (unhide HO6) rfl).le (by rw [← unhide HU]; exact untilR_len _ _)).congr (fun i hi => by unfold keptL recsL; rw [untilR_pre, unhide HU, atR_take _ _ _ hi]))).mono ?_; rintro e w7 ⟨rfl, hB7, g7⟩; have D7 := D6.chg g7 (by simp); have G7 := G6.trans g7 (by simp); have z7 := hB7.lt; clear g7))
  go_ret2
  have hD : Dsk 115 5 w7 base db (ep + 1) v6 (bytesL (keptL l ep)) := by rw [← unhide KB, ← unhide HM]; exact D7
  have l6 := D6.fp_lt
  exact ⟨w7.heap.size, w6.heap.size, v6, rfl, by omega, by omega, ⟨Blk.new w7 _ _, hB7.alloc _⟩, hD.alloc _, fun hf => by have := D7.fp_lt _ hf; omega, fun hf => by have := l6 _ hf; omega, G7.alloc _, n6.mono (by omega)⟩

end Go.Proofs.YtllnjiljjodfdacGreatDoor

