/-
  What codec.Decode does. Nothing here is claimed by itself.
-/
import Derived.Test.YtdppeddiffjamaaC2
namespace Go.Proofs.Ytdppeddiffjamaa
open Go.RowKit

theorem ret_rec_code {fn : Func} {p q : Tmp} (h : fn.results = #[.cell p 48, .tmp q]) {tmps : Array Value} {w : World} {b : Nat} {c : Value}
    (hp : tmps.getD p undef = .pointer (some ⟨b, 0, none⟩)) (hq : tmps.getD q undef = c) {ty' : TypeId} {r : Rc} (hT : Blk w b r.cells ty') : (results fn tmps).run Try.prog w = .ok (.tuple #[.agg r.cells, c]) w := by
  have hl := load_rec hT
  have hp' : tmps[p]?.getD undef = .pointer (some ⟨b, 0, none⟩) := by simpa using hp
  have hq' : tmps[q]?.getD undef = c := by simpa using hq
  simp only [results, h]
  simp [hp', hq', asAddr, hl]

set_option maxRecDepth 100000 in
theorem dec_short (a : Option Addr) (n cap : Nat) (w : World) (hn : n < 9) :
    Calls Try.prog 28 #[.slice a n cap] w fun e w' => e = .returned (.tuple #[.agg rc0.cells, .int .i64 7]) ∧ Chg [] w w' := by
  have hd : (n : Int) < 9 := by omega
  have A := hide (Blk.new w rc0.cells 48)
  go_enter Try.func28, Try.ntmps28
  go_wp2_with (refine wpList_store_rec rfl _ _ rfl w.heap.size rfl rc0 rfl 48 rc0 (unhide A) ?_; intro w2 B2 g2 _)
  exact bodyPost_ret (ret_rec_code Try.results28 rfl rfl B2) rfl ⟨rfl, ((Chg.refl [] w).alloc _).trans g2 (by simp)⟩

set_option maxRecDepth 100000 in
set_option maxHeartbeats 4000000 in
theorem dec_long (a : Option Addr) (n cap : Nat) (f : Nat → Int) (w : World) (hn : 9 ≤ n) (hcap : n ≤ cap) (h : Byt w a n f) :
    Calls Try.prog 28 #[.slice a n cap] w fun e w' => e = .returned (.tuple #[.agg (dec n f).1.cells, .int .i64 (dec n f).2]) ∧ Chg [] w w' := by
  have hB := h
  obtain ⟨hf, h | ⟨b, off, rfl, hb, hc⟩⟩ := h
  · omega
  have h8 : Byt w (some ⟨b, off, none⟩) 8 f := ⟨fun i hi => hf i (by omega), .inr ⟨b, off, rfl, hb, fun i hi => hc i (by omega)⟩⟩
  have c8 := hc 8 (by omega)
  have b8 := hf 8 (by omega)
  have n9 : (9 : Int) ≤ n := by omega
  have nn : ¬ (n : Int) < 9 := by omega
  have n8 : (8 : Int) < n := by omega
  have n8' : (8 : Int) ≤ n := by omega
  have k8 : (8 : Int) ≤ cap := by omega
  clear hc hf
  have A := hide (Blk.new w rc0.cells 48)
  go_enter Try.func28, Try.ntmps28
  go_wp2_with fail
  have A' := Blk.new w rc0.cells 48
  have G : Chg [] w (w.alloc (.cells rc0.cells 48)) := (Chg.refl [] w).alloc _
  rw [← G.cell' (p := ⟨b, off + 8, none⟩) hb (by simp)] at c8
  have h8' := h8.chg G
  have hB' := hB.chg G
  have zW : w.heap.size < (w.alloc (.cells rc0.cells 48)).heap.size := A'.lt
  clear A h8 hB
  obtain ⟨W, hW⟩ : ∃ W : World, W = w.alloc (.cells rc0.cells 48) := ⟨_, rfl⟩
  rw [← hW] at c8 h8' hB' G A' zW
  have eW : (w.alloc (.cells #[.int .i64 0, .int .i64 0, .int .i64 0, .int .i64 0, .int .i64 0, .int .i64 0, .int .i64 0] 48)) = W := hW.symm
  rw [eW]
  clear eW hW
  have HA := hide A'
  have HG := hide G
  have HB := hide hB'
  clear A' G hB'
  go_quiet ((go_at_call 42; exact Calls.quiet_of_same (csum_any _ _ _ _ h8')))
  have A2 : Blk (W.drewN nq) w.heap.size rc0.cells 48 := unhide HA
  have G2 : Chg [] w (W.drewN nq) := (unhide HG).drewN nq
  have B2 : Byt (W.drewN nq) (some ⟨b, off, none⟩) n f := unhide HB
  have z2 : w.heap.size < (W.drewN nq).heap.size := zW
  clear HA HG HB zW c8 h8'
  generalize W.drewN nq = V at *
  by_cases hs : f 8 = sm f 8 % 251
  · have hne : (f 8 != sm f 8 % 251) = false := by simpa using hs
    rw [hne]
    have HS := hide hs
    clear hs hne
    go_wp2_with fail
    refine (read_any _ n cap f _ hn B2).mono ?_
    rintro e w3 ⟨rfl, g3⟩
    have A3 := A2.chg g3 (by simp)
    have G3 := G2.trans g3 (by simp)
    have z3 := A3.lt
    clear A2 G2 g3 B2 z2
    generalize hr : rdR f = r at *
    have HR := hide hr
    clear hr
    unfold Rc.cells
    go_wp2_with fail
    have A4 := A3.alloc (.cells r.cells 48)
    have R4 := Blk.new w3 r.cells 48
    have G4 := G3.alloc (.cells r.cells 48)
    refine (cck_any r _).mono ?_
    rintro e w5 ⟨rfl, g5⟩
    have A5 := hide (A4.chg g5 (by simp))
    have R5 := R4.chg g5 (by simp)
    have G5 := hide (G4.trans g5 (by simp))
    obtain ⟨a0, a1, a2, a3, a4, a5, a6⟩ : w5.cell? ⟨w3.heap.size, 0, none⟩ = some (.int .i64 r.ep) ∧ w5.cell? ⟨w3.heap.size, 1, none⟩ = some (.int .i64 r.o.k) ∧ w5.cell? ⟨w3.heap.size, 2, none⟩ = some (.int .i64 r.o.now) ∧ w5.cell? ⟨w3.heap.size, 3, none⟩ = some (.int .i64 r.o.jb) ∧ w5.cell? ⟨w3.heap.size, 4, none⟩ = some (.int .i64 r.o.tr) ∧ w5.cell? ⟨w3.heap.size, 5, none⟩ = some (.int .i64 r.o.wk) ∧ w5.cell? ⟨w3.heap.size, 6, none⟩ = some (.int .i64 r.o.tm) :=
      ⟨R5.cell 0, R5.cell 1, R5.cell 2, R5.cell 3, R5.cell 4, R5.cell 5, R5.cell 6⟩
    clear A4 R4 G4 g5 R5 A3 G3
    by_cases hc : ckR r = 0
    · have hd : Hid (dec n f = (r, 0)) := hide (by
        unfold dec
        rw [if_neg (by omega), if_neg (by simpa using unhide HS), unhide HR, if_neg (by simpa using hc)])
      rw [hc]
      clear hc
      go_wp2_with (refine wpList_store_rec rfl _ _ rfl w.heap.size rfl r rfl 48 rc0 (unhide A5) ?_; intro w6 B6 g6 _)
      refine bodyPost_ret (ret_rec_code Try.results28 rfl rfl B6) rfl ⟨by rw [unhide hd]; rfl, (unhide G5).trans g6 (by simp)⟩
    · have hd : Hid (dec n f = (rc0, ckR r)) := hide (by
        unfold dec
        rw [if_neg (by omega), if_neg (by simpa using unhide HS), unhide HR, if_pos hc])
      have hcb : (ckR r == 0) = false := by simpa using hc
      go_wp2_with (refine wpList_store_rec rfl _ _ rfl w.heap.size rfl rc0 rfl 48 rc0 (unhide A5) ?_; intro w6 B6 g6 _)
      refine bodyPost_ret (ret_rec_code Try.results28 rfl rfl B6) rfl ⟨by rw [unhide hd]; rfl, (unhide G5).trans g6 (by simp)⟩
  · have hne : (f 8 != sm f 8 % 251) = true := by simpa using hs
    have hd : Hid (dec n f = (rc0, 2)) := hide (by
      unfold dec
      rw [if_neg (by omega), if_pos hs])
    rw [hne]
    clear hne hs
    go_wp2_with (refine wpList_store_rec rfl _ _ rfl w.heap.size rfl rc0 rfl 48 rc0 A2 ?_; intro w6 B6 g6 _)
    refine bodyPost_ret (ret_rec_code Try.results28 rfl rfl B6) rfl ⟨by rw [unhide hd]; rfl, G2.trans g6 (by simp)⟩

theorem dec_any (a : Option Addr) (n cap : Nat) (f : Nat → Int) (w : World) (hcap : n ≤ cap) (h : Byt w a n f) :
    Calls Try.prog 28 #[.slice a n cap] w fun e w' => e = .returned (.tuple #[.agg (dec n f).1.cells, .int .i64 (dec n f).2]) ∧ Chg [] w w' := by
  by_cases hn : n < 9
  · have : dec n f = (rc0, 7) := by unfold dec; rw [if_pos hn]
    rw [this]
    exact dec_short a n cap w hn
  · exact dec_long a n cap f w (by omega) hcap h

end Go.Proofs.Ytdppeddiffjamaa
