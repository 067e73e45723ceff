/-
 What codec.Decode does. Nothing here is claimed by itself.
-/
import Derived.Test.YtllnjiljjodfdacGreatDoorQgC0
namespace Go.Proofs.YtllnjiljjodfdacGreatDoor
open Go.RowKit

theorem ret_rec_code {fn : Func} {p q : Tmp} (h : fn.results = #[.cell p 110, .tmp q]) {tmps : Array Value} {w : World} {b : Nat} {c : Value}
  (hp : tmps.getD p undef = .pointer (some ⟨b, 0, none⟩)) (hq : tmps.getD q undef = c) {ty' : TypeId} {r : Rc} (hT : Blk w b r.cells ty') : (results fn tmps).run Tryz.prog w = .ok (.tuple #[.agg r.cells, c]) w := by
 have hl := load_rec hT
 have hp' : tmps[p]?.getD undef = .pointer (some ⟨b, 0, none⟩) := by simpa using hp
 have hq' : tmps[q]?.getD undef = c := by simpa using hq
 simp only [results, h]
 simp [hp', hq', asAddr, hl]
set_option maxRecDepth 100000 in
theorem dec_short (a : Option Addr) (n cap : Nat) (w : World) (hn : n < 9) :
  Calls Tryz.prog 105 #[.slice a n cap] w fun e w' => e = .returned (.tuple #[.agg rc0.cells, .int .i64 7]) ∧ Chg [] w w' := by
 have hd : (n : Int) < 9 := by omega
 have A := hide (Blk.new w rc0.cells 110)
 go_enter Tryz.func105, Tryz.ntmps105
 go_wp2_with (refine wpList_store_rec rfl _ _ rfl w.heap.size rfl rc0 rfl 110 rc0 (unhide A) ?_; intro w2 B2 g2 _)
 exact bodyPost_ret (ret_rec_code Tryz.results105 rfl rfl B2) rfl ⟨rfl, ((Chg.refl [] w).alloc _).trans g2 (by simp)⟩
set_option maxRecDepth 100000 in
set_option maxHeartbeats 4000000 in
theorem dec_long (a : Option Addr) (n cap : Nat) (f : Nat → Int) (w : World) (hn : 9 ≤ n) (hcap : n ≤ cap) (h : Byt w a n f) :
  Calls Tryz.prog 105 #[.slice a n cap] w fun e w' => e = .returned (.tuple #[.agg (dec n f).1.cells, .int .i64 (dec n f).2]) ∧ Chg [] w w' := by
 have hB := h
 obtain ⟨hf, h | ⟨b, off, rfl, hb, hc⟩⟩ := h
 ·omega
 have h8 : Byt w (some ⟨b, off, none⟩) 8 f := ⟨fun i hi => hf i (by omega), .inr ⟨b, off, rfl, hb, fun i hi => hc i (by omega)⟩⟩
 have c8 := hc 8 (by omega)
 have b8 := hf 8 (by omega)
 have n9 : (9 : Int) ≤ n := by omega
 have nn : ¬ (n : Int) < 9 := by omega
 have n8 : (8 : Int) < n := by omega
 have n8' : (8 : Int) ≤ n := by omega
 have k8 : (8 : Int) ≤ cap := by omega
 clear hc hf
 have A := hide (Blk.new w rc0.cells 110)
 go_enter Tryz.func105, Tryz.ntmps105
 go_wp2_with fail
 have A' := Blk.new w rc0.cells 110
 have G : Chg [] w (w.alloc (.cells rc0.cells 110)) := (Chg.refl [] w).alloc _
 rw [← G.cell' (p := ⟨b, off + 8, none⟩) hb (by simp)] at c8
 have h8' := h8.chg G
 have hB' := hB.chg G
 have zW : w.heap.size < (w.alloc (.cells rc0.cells 110)).heap.size := A'.lt
 clear A h8 hB
 obtain ⟨W, hW⟩ : ∃ W : World, W = w.alloc (.cells rc0.cells 110) := ⟨_, rfl⟩
 rw [← hW] at c8 h8' hB' G A' zW
 have eW : (w.alloc (.cells #[.int .i64 0, .int .i64 0, .int .i64 0, .int .i64 0, .int .i64 0, .int .i64 0, .int .i64 0] 110)) = W := hW.symm
 rw [eW]
 clear eW hW
 have HA := hide A'
 have HG := hide G
 have HB := hide hB'
 clear A' G hB'
 go_quiet ((go_at_call 127; exact Calls.quiet_of_same (csum_any _ _ _ _ h8')))
 have A2 : Blk (W.drewN nq) w.heap.size rc0.cells 110 := unhide HA
 have G2 : Chg [] w (W.drewN nq) := (unhide HG).drewN nq
 have B2 : Byt (W.drewN nq) (some ⟨b, off, none⟩) n f := unhide HB
 have z2 : w.heap.size < (W.drewN nq).heap.size := zW
 clear HA HG HB zW c8 h8'
 generalize W.drewN nq = V at *
 by_cases hs : f 8 = sm f 8 % 251
 ·have hne : (f 8 != sm f 8 % 251) = false := by simpa using hs
  rw [hne]
  have HS := hide hs
  clear hs hne
  go_wp2_with fail
  refine (read_any _ n cap f _ hn B2).mono ?_
  rintro e w3 ⟨rfl, g3⟩
  have A3 := A2.chg g3 (by simp)
  have G3 := G2.trans g3 (by simp)
  have z3 := A3.lt
  clear A2 G2 g3 B2 z2
  generalize hr : rdR f = r at *
  have HR := hide hr
  clear hr
  unfold Rc.cells
  go_wp2_with fail
  have A4 := A3.alloc (.cells r.cells 110)
  have R4 := Blk.new w3 r.cells 110
  have G4 := G3.alloc (.cells r.cells 110)
  refine (cck_any r _).mono ?_
  rintro e w5 ⟨rfl, g5⟩
  have A5 := hide (A4.chg g5 (by simp))
  have R5 := R4.chg g5 (by simp)
  have G5 := hide (G4.trans g5 (by simp))
  obtain ⟨a0, a1, a2, a3, a4, a5, a6⟩ : w5.cell? ⟨w3.heap.size, 0, none⟩ = some (.int .i64 r.ep) ∧ w5.cell? ⟨w3.heap.size, 1, none⟩ = some (.int .i64 r.o.k) ∧ w5.cell? ⟨w3.heap.size, 2, none⟩ = some (.int .i64 r.o.now) ∧ w5.cell? ⟨w3.heap.size, 3, none⟩ = some (.int .i64 r.o.jb) ∧ w5.cell? ⟨w3.heap.size, 4, none⟩ = some (.int .i64 r.o.tr) ∧ w5.cell? ⟨w3.heap.size, 5, none⟩ = some (.int .i64 r.o.wk) ∧ w5.cell? ⟨w3.heap.size, 6, none⟩ = some (.int .i64 r.o.tm) :=
   ⟨R5.cell 0, R5.cell 1, R5.cell 2, R5.cell 3, R5.cell 4, R5.cell 5, R5.cell 6⟩
  clear A4 R4 G4 g5 R5 A3 G3
  by_cases hc : ckR r = 0
  ·have hd : Hid (dec n f = (r, 0)) := hide (by
    unfold dec
    rw [if_neg (by omega), if_neg (by simpa using unhide HS), unhide HR, if_neg (by simpa using hc)])
   rw [hc]
   clear hc
   go_wp2_with (refine wpList_store_rec rfl _ _ rfl w.heap.size rfl r rfl 110 rc0 (unhide A5) ?_; intro w6 B6 g6 _)
   refine bodyPost_ret (ret_rec_code Tryz.results105 rfl rfl B6) rfl ⟨by rw [unhide hd]; rfl, (unhide G5).trans g6 (by simp)⟩
  ·have hd : Hid (dec n f = (rc0, ckR r)) := hide (by
    unfold dec
    rw [if_neg (by omega), if_neg (by simpa using unhide HS), unhide HR, if_pos hc])
   have hcb : (ckR r == 0) = false := by simpa using hc
   go_wp2_with (refine wpList_store_rec rfl _ _ rfl w.heap.size rfl rc0 rfl 110 rc0 (unhide A5) ?_; intro w6 B6 g6 _)
   refine bodyPost_ret (ret_rec_code Tryz.results105 rfl rfl B6) rfl ⟨by rw [unhide hd]; rfl, (unhide G5).trans g6 (by simp)⟩
 ·have hne : (f 8 != sm f 8 % 251) = true := by simpa using hs
  have hd : Hid (dec n f = (rc0, 2)) := hide (by
   unfold dec
   rw [if_neg (by omega), if_pos hs])
  rw [hne]
  clear hne hs
  go_wp2_with (refine wpList_store_rec rfl _ _ rfl w.heap.size rfl rc0 rfl 110 rc0 A2 ?_; intro w6 B6 g6 _)
  refine bodyPost_ret (ret_rec_code Tryz.results105 rfl rfl B6) rfl ⟨by rw [unhide hd]; rfl, G2.trans g6 (by simp)⟩
theorem dec_any (a : Option Addr) (n cap : Nat) (f : Nat → Int) (w : World) (hcap : n ≤ cap) (h : Byt w a n f) :
  Calls Tryz.prog 105 #[.slice a n cap] w fun e w' => e = .returned (.tuple #[.agg (dec n f).1.cells, .int .i64 (dec n f).2]) ∧ Chg [] w w' := by
 by_cases hn : n < 9
 ·have : dec n f = (rc0, 7) := by unfold dec; rw [if_pos hn]
  rw [this]
  exact dec_short a n cap w hn
 ·exact dec_long a n cap f w (by omega) hcap h
def allF : Nat → Int → Nat → (Nat → Int) → List Rc
 | 0, _, _, _ => []
 | k + 1, ep, n, f => if (dec n f).2 ≠ 0 ∨ (dec n f).1.ep < ep then [] else (dec n f).1 :: allF k (dec n f).1.ep (n - 9) (fun i => f (i + 9))
def allR (n : Nat) (f : Nat → Int) : List Rc := allF (n + 1) 0 n f
def cellsR (l : List Rc) : List Value := l.flatMap Rc.list
theorem cellsR_snoc (l : List Rc) (r : Rc) : cellsR (l ++ [r]) = cellsR l ++ r.list := by simp [cellsR]
def lenOf : Value → Nat | .slice _ n _ => n | _ => 0
theorem dec_ok {n : Nat} {f : Nat → Int} (h : (dec n f).2 = 0) : 9 ≤ n ∧ f 8 = sm f 8 % 251 ∧ ckR (rdR f) = 0 ∧ dec n f = (rdR f, 0) := by
 unfold dec at h ⊢
 split at h
 ·simp at h
 split at h
 ·simp at h
 split at h
 ·rename_i h1 h2 h3; exact absurd h h3
 ·rename_i h1 h2 h3
  simp only [Decidable.not_not] at h2 h3
  exact ⟨by omega, h2, h3, by rw [if_neg h1, if_neg (by simpa using h2), if_neg (by simpa using h3)]⟩
theorem recInfo3 : (Tryz.prog.info? 110).map (fun i => (i.zero, i.size, i.bytes)) = some (some (.agg #[.int .i64 0, .int .i64 0, .int .i64 0, .int .i64 0, .int .i64 0, .int .i64 0, .int .i64 0]), 7, 56) := by kernel_rfl
theorem Byt.drop9 {w : World} {a : Option Addr} {m c : Nat} {g : Nat → Int} (h : Byt w a m g) (h9 : 9 ≤ m) (hmc : m ≤ c) :
  Byt w (if c = 9 then a else Option.map (fun x => ({ block := x.block, off := x.off + 9 } : Addr)) a) (m - 9) (fun i => g (i + 9)) := by
 obtain ⟨h1, h2⟩ := h
 refine ⟨fun i hi => h1 (i + 9) (by omega), ?_⟩
 by_cases hm : m = 9
 ·exact .inl (by omega)
 ·rcases h2 with h2 | ⟨b, off, rfl, hb, hc⟩
  ·omega
  ·rw [if_neg (by omega)]
   exact .inr ⟨b, off + 9, rfl, hb, fun i hi => by have := hc (i + 9) (by omega); rw [show off + 9 + i = off + (i + 9) by omega]; exact this⟩
theorem own_chg {w w' : World} {base : Nat} {e : TypeId} {size : Nat} {v : Value} {n : Nat} {xs : List Value} (h : w.ownsRow base e size v n xs) (g : Chg [] w w') : w'.ownsRow base e size v n xs := by
 refine h.kept (row := none) ⟨g.os, g.tape, g.output, g.size, fun k hk _ => g.block k hk (by simp)⟩ ?_
 by_cases hv : v.ownBlock = none
 ·exact .inl hv
 ·exact .inr hv
theorem app_cell {w3 w4 : World} {base : Nat} {e : TypeId} {size : Nat} {v : Value} {n : Nat} {xs : List Value} (h : w3.ownsRow base e size v n xs) {c : Array Value} {t : TypeId} {o : Obj} (gr : ((w3.alloc (.cells c t)).alloc o).grownBy w4 v.ownBlock) {i : Nat} {u : Value} (hc : c[i]? = some u) :
  w4.cell? ⟨w3.heap.size, i, none⟩ = some u := by
 refine gr.cell (a := ⟨w3.heap.size, i, none⟩) ?_ ?_
 ·rw [((Blk.new w3 c t).alloc o).cell]; exact hc
 ·intro e1
  have := (h.lt _ e1.symm).2
  simp at this
set_option maxRecDepth 100000 in
set_option maxHeartbeats 4000000 in
theorem all_any (a : Option Addr) (n cap : Nat) (f : Nat → Int) (w : World) (hn4 : n ≤ 4000) (hcap : n ≤ cap) (h : Byt w a n f) :
  Calls Tryz.prog 76 #[.slice a n cap] w fun e w' => ∃ v, e = .returned v ∧ w'.ownsRow w.heap.size 110 7 v (allR n f).length (cellsR (allR n f)) ∧ Chg [] w w' := by
 obtain ⟨i0, hi, hz0, hz1, hz2⟩ := info_parts recInfo3
 go_enter Tryz.func76, Tryz.ntmps76
 go_wp2_with fail
 go_loopw [0, 3, 4] (fun b v e wr => ∃ (a' : Option Addr) (k m c : Nat) (fu : Nat) (ep : Int) (g : Nat → Int) (rs : List Rc), k = rs.length ∧ k * 9 + m = n ∧ m ≤ c ∧ m < fu * 9 ∧ b = .slice a' m c ∧ e = .int .i64 ep ∧ Byt w a' m g ∧
   allR n f = rs ++ allF fu ep m g ∧ wr.ownsRow w.heap.size 110 7 v k (cellsR rs) ∧ Chg [] w wr) (fun b _ _ _ => lenOf b)
 case atStart => exact ⟨a, 0, n, cap, n + 1, 0, f, [], rfl, by omega, hcap, by omega, rfl, rfl, h, rfl, World.ownsRow_nil _ _ _ _, Chg.refl _ _⟩
 case round =>
  obtain ⟨a', k, m, c, fu, ep, g, rs, hk, hm, hmc, hfu, rfl, rfl, hB, hall, hown, hG⟩ := hrel
  have HK := hide hk
  have HALL := hide hall
  have HB := hide hB
  have HG := hide hG
  have HM := hide hm
  clear hk hall hB hm h
  obtain ⟨fu, rfl⟩ : ∃ x, fu = x + 1 := ⟨fu - 1, by omega⟩
  go_wp2_with fail
  refine (dec_any a' m c g _ hmc ((unhide HB).chg hG)).mono ?_
  rintro e w3 ⟨rfl, g3⟩
  have G3 := hG.trans g3 (by simp)
  have own3 := own_chg hown g3
  clear hG HG g3 hown
  have hd : Hid (allF (fu + 1) ep m g = if (dec m g).2 ≠ 0 ∨ (dec m g).1.ep < ep then [] else (dec m g).1 :: allF fu (dec m g).1.ep (m - 9) (fun i => g (i + 9))) := hide rfl
  by_cases hc : (dec m g).2 = 0
  ·obtain ⟨h9, -, -, hD⟩ := dec_ok hc
   have HD := hide hD
   clear hD hc
   rw [unhide HD]
   simp only
   generalize hr : rdR g = r at *
   have HR := hide hr
   clear hr
   unfold Rc.cells
   by_cases hlt : r.ep < ep
   ·go_wp2
    go_ret
    have e1 : allR n f = rs := by
     rw [unhide HALL, unhide hd, if_pos (.inr (by rw [unhide HD]; exact hlt)), List.append_nil]
    refine ⟨_, rfl, ?_, G3.alloc _⟩
    rw [e1, ← unhide HK]
    exact own3.alloc _
   ·have hle : ep ≤ r.ep := by omega
    have h9' : (9 : Int) ≤ m := by omega
    have c9 : (9 : Int) ≤ c := by omega
    have hk4 : k * 9 + m = n := unhide HM
    have z3 : w.heap.size ≤ w3.heap.size := G3.size
    go_wp2_with (at_builtin; refine wpList_append_own _ rfl (.tmp 21) (.tmp 23) 146 rfl w.heap.size 110 i0 _ 7 56 Tryz.underlying146 hi hz0 hz1 hz2 rfl (by decide) _ k (cellsR rs) rfl ((own3.alloc _).alloc _) ⟨w3.heap.size + 1, 0, none⟩ 1 1 r.list rfl rfl (Blk.new1 _ _ r.cells _).news (by simp [Rc.list, Value.oneCell']) (by unfold maxLen; omega) (by omega) (by simp; omega) ?_; intro v' w4 own4 gr4 _; have e4 := app_cell own3 gr4 (i := 0) (u := .int .i64 r.ep) rfl; have G4 := ((G3.alloc _).alloc _).grown gr4 (fun j hj => .inr (own3.lt j hj).1); clear own3 gr4)
    refine ⟨⟨_, k + 1, m - 9, c - 9, fu, r.ep, fun i => g (i + 9), rs ++ [r], ?_, by omega, by omega, by omega, rfl, rfl, (unhide HB).drop9 h9 hmc, ?_, ?_, G4⟩, ?_⟩
    ·rw [unhide HK]; simp
    ·rw [unhide HALL, unhide hd, if_neg (by rw [unhide HD]; simp; omega), unhide HD]
     simp
    ·rw [cellsR_snoc]; exact own4
    ·simp [lenOf]; omega
  ·have hcb : ((dec m g).2 == 0) = false := by simpa using hc
   have e1 : Hid (allR n f = rs) := hide (by
    rw [unhide HALL, unhide hd, if_pos (.inl hc), List.append_nil])
   clear hd
   generalize (dec m g).1 = r at *
   generalize (dec m g).2 = q at *
   unfold Rc.cells
   go_wp2
   go_ret
   refine ⟨_, rfl, ?_, G3.alloc _⟩
   rw [unhide e1, ← unhide HK]
   exact own3.alloc _
end Go.Proofs.YtllnjiljjodfdacGreatDoor
