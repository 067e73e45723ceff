/-
  The story's table behind the first records. Nothing here is claimed by itself.
-/
import Derived.Test.YtjoibdmppmpjgacMgSP
import Derived.Test.YtjoibdmppmpjgacMgR3
import Derived.Test.YtjoibdmppmpjgacMgO1
import Derived.Test.YtjoibdmppmpjgacMS4
namespace Go.Proofs.Ytjoibdmppmpjgac
open Go.RowKit

set_option maxRecDepth 100000 in
set_option maxHeartbeats 4000000 in
theorem table_no (a : Option Addr) (n cap : Nat) (f : Nat → Int) (m : Int) (w : World) (hn4 : n ≤ 4000) (hcap : n ≤ cap) (h : Byt w a n f) (hm : m < 0 ∨ ((allR n f).length : Int) < m) :
    Calls Try.prog 11 #[.slice a n cap, .int .i64 m] w fun e w' => e = .returned (.pointer none) ∧ Chg [] w w' := by
  have HB := hide h
  clear h
  obtain ⟨k, hk⟩ : ∃ k, k = (allR n f).length := ⟨_, rfl⟩
  rw [← hk] at hm
  have HK := hide hk
  clear hk
  by_cases h0 : m < 0
  · have d0 : decide (m < 0) = true := by simpa using h0
    clear hm h0
    go_enter Try.func11, Try.ntmps11
    go_wp2_with (go_at_call 27; refine (all_any a n cap f _ hn4 hcap (unhide HB)).mono ?_; rintro e w1 ⟨v, rfl, own1, g1⟩; rw [← unhide HK] at own1; obtain ⟨ar, c1, rfl, hc1, -, R1⟩ := own_recs own1 (unhide HK))
    go_ret
    exact ⟨rfl, g1⟩
  · have d0 : decide (m < 0) = false := by simpa using h0
    have d1 : decide ((k : Int) < m) = true := by simp; omega
    clear hm h0
    go_enter Try.func11, Try.ntmps11
    go_wp2_with (go_at_call 27; refine (all_any a n cap f _ hn4 hcap (unhide HB)).mono ?_; rintro e w1 ⟨v, rfl, own1, g1⟩; rw [← unhide HK] at own1; obtain ⟨ar, c1, rfl, hc1, -, R1⟩ := own_recs own1 (unhide HK))
    go_ret
    exact ⟨rfl, g1⟩

set_option maxRecDepth 100000 in
set_option maxHeartbeats 4000000 in
theorem table_yes (a : Option Addr) (n cap : Nat) (f : Nat → Int) (m : Nat) (w : World) (hn4 : n ≤ 4000) (hcap : n ≤ cap) (h : Byt w a n f) (hm : m ≤ (allR n f).length) :
    Calls Try.prog 11 #[.slice a n cap, .int .i64 m] w fun e w' => ∃ b, e = .returned (.pointer (some ⟨b, 0, none⟩)) ∧ Has 93 w' b (behindT ((allR n f).take m)) ∧ Chg [] w w' ∧ w.heap.size ≤ b := by
  have HB := hide h
  clear h
  have hfew := allR_few n f
  obtain ⟨rs, hrs⟩ : ∃ rs, rs = allR n f := ⟨_, rfl⟩
  rw [← hrs] at hm hfew ⊢
  have HRS := hide hrs
  clear hrs
  obtain ⟨k, hk⟩ : ∃ k, k = rs.length := ⟨_, rfl⟩
  rw [← hk] at hm hfew
  have HK := hide hk
  clear hk
  have d0 : decide ((m : Int) < 0) = false := by simp
  have d1 : decide ((k : Int) < (m : Int)) = false := by simp; omega
  go_enter Try.func11, Try.ntmps11
  go_wp2_with fail
  refine (all_any a n cap f _ hn4 hcap (unhide HB)).mono ?_
  rintro e w1 ⟨v, rfl, own1, g1⟩
  rw [← unhide HRS, ← unhide HK] at own1
  obtain ⟨ar, c1, rfl, hc1, -, R1⟩ := own_recs own1 (unhide HK)
  have HR1 := hide (R1.le hm)
  have mc : (m : Int) ≤ (c1 : Int) := by omega
  have m0 : (0 : Int) ≤ (m : Int) := by omega
  clear own1 R1
  go_wp2_with fail
  refine (new_any _).mono ?_
  rintro e w2 ⟨rfl, hB0, hG0⟩
  go_wp2_with fail
  go_loopw [24] (fun i wr => ∃ j : Nat, j ≤ m ∧ i = .int .i64 j ∧ Has 93 wr w1.heap.size (behindT (rs.take j)) ∧ Chg [] w1 wr) (fun i _ => m - (intOf i).toNat)
  case atStart => exact ⟨0, by omega, rfl, hB0, hG0⟩
  case round =>
    clear hB0 hG0
    obtain ⟨j, hj, rfl, hB, hG⟩ := hrel
    by_cases hlt : j < m
    · have hki : (j : Int) < (m : Int) := by omega
      have hk0 : (0 : Int) ≤ (j : Int) := by omega
      rcases unhide HR1 with h0 | ⟨bl, off, rfl, hbl, hO⟩
      · omega
      obtain ⟨p0, p1, p2, p3, p4, p5, p6⟩ := (hO j hlt).chg hG hbl
      have hbl' := Nat.lt_of_lt_of_le hbl hG.size
      have HT := hide (take_snocR rs (k := j) (by rw [← unhide HK]; omega))
      clear hO
      generalize atR rs j = r at *
      generalize hT : behindT (rs.take j) = T at *
      have HI : Inv T := hT ▸ behindT_inv _
      have HE := hide hT
      clear hT
      have lT := hB.lt
      go_wp2_with (go_at_call 29; refine (do_any w1.heap.size r.o T _ (hB.alloc _) HI.fit).mono ?_; rintro e w3 ⟨rfl, hB3, g3⟩; have G3 := (hG.alloc _).trans g3 (by simp); clear g3)
      go_roundw
      case rel => exact ⟨j + 1, by omega, by go_num, by rw [unhide HT, behindT_snoc, unhide HE]; exact hB3, G3⟩
      case measure => go_light; simp [intOf]; omega
    · have hki : ¬ (j : Int) < (m : Int) := by omega
      have hjm : j = m := by omega
      have HJ := hide hjm
      clear hjm
      go_wp2
      go_ret
      rw [unhide HJ] at hB
      exact ⟨_, rfl, hB, g1.trans hG (by simp), g1.size⟩

end Go.Proofs.Ytjoibdmppmpjgac

namespace Go.Proofs.Ytjoibdmppmpjgac
open Go.RowKit

theorem pairInfo : (Try.prog.info? 51).map (fun i => (i.zero, i.size, i.bytes)) = some (some (.agg #[.int .i64 0, .int .i64 0]), 2, 16) := by kernel_rfl

set_option maxRecDepth 100000 in
set_option maxHeartbeats 4000000 in
theorem holders_any (a : Option Addr) (n c : Nat) (l : List Ev) (job : Int) (w : World) (hl : l.length = n) (hn : n ≤ 4000) (h : Evs w a n (atE l)) :
    Calls Try.prog 14 #[.slice a n c, .int .i64 job] w fun e w' => ∃ v, e = .returned v ∧ w'.ownsRow w.heap.size 51 2 v (holdL l job).length (cellsP (holdL l job)) ∧ Chg [] w w' := by
  obtain ⟨i0, hi, hz0, hz1, hz2⟩ := kInfoParts pairInfo
  have HH := hide h
  have HL := hide hl
  clear h hl
  go_enter Try.func14, Try.ntmps14
  go_wp2_with fail
  go_loopw [5, 10] (fun v i wr => ∃ k : Nat, k ≤ n ∧ i = .int .i64 k ∧ wr.ownsRow w.heap.size 51 2 v (holdL (l.take k) job).length (cellsP (holdL (l.take k) job)) ∧ Chg [] w wr) (fun _ i _ => n - (intOf i).toNat)
  case atStart => exact ⟨0, by omega, rfl, World.ownsRow_nil _ _ _ _, Chg.refl _ _⟩
  case round =>
    obtain ⟨k, hk, rfl, hown, hG⟩ := hrel
    by_cases hlt : k < n
    · have hki : (k : Int) < (n : Int) := by omega
      have hk0 : (0 : Int) ≤ (k : Int) := by omega
      rcases unhide HH with h0 | ⟨bl, off, rfl, hbl, hO⟩
      · omega
      obtain ⟨p0, p1, p2, p3, p4, p5, p6, p7, p8, p9, p10, p11, p12, p13⟩ := ((hO k hlt).chg hG hbl (by simp)).all
      have hbl' := Nat.lt_of_lt_of_le hbl hG.size
      have HT := hide (holdL_take l job (k := k) (by rw [unhide HL]; exact hlt))
      have hpl : (holdL (l.take k) job).length ≤ 4000 := Nat.le_trans (holdL_len _ _) (by simp; omega)
      clear hO
      generalize atE l k = e at *
      generalize hps : holdL (l.take k) job = ps at *
      have HPS := hide hps
      clear hps
      generalize hm : ps.length = m at *
      have HM := hide hm
      clear hm
      go_wp2_with fail
      refine (gave_any e job _).mono ?_
      rintro x w2 ⟨rfl, g2⟩
      have E2 := (Blk.new wr e.cells 37).chg g2 (by simp)
      have G2 : Chg [] w w2 := (hG.alloc _).trans g2 (by simp)
      have own2 := own_chg (hown.alloc _) g2
      have zz := G2.size
      clear p0 p1 p2 p3 p4 p5 p6 p7 p8 p9 p10 p11 p12 p13 g2 hG hown
      cases hg : gaveB e job
      · have HN := hide (gave_no hg)
        clear hg E2
        go_wp2
        go_roundw
        case rel => exact ⟨k + 1, by omega, by go_num, by rw [unhide HT, unhide HN]; simp only [Option.toList_none, List.append_nil]; rw [unhide HM]; exact own2, G2⟩
        case measure => go_light; simp [intOf]; omega
      · have HY := hide (gave_yes hg)
        have q5 : w2.cell? ⟨wr.heap.size, 5, none⟩ = some (.int .i64 e.r.o.wk) := E2.cell 5
        have q9 : w2.cell? ⟨wr.heap.size, 9, none⟩ = some (.int .i64 e.a.tr) := E2.cell 9
        have lE := E2.lt
        clear hg E2
        go_wp2_with (at_builtin; refine wpList_append_own _ rfl (.tmp 17) (.tmp 26) 46 rfl w.heap.size 51 i0 _ 2 16 Try.underlying46 hi hz0 hz1 hz2 rfl (by decide) u5 m (cellsP ps) rfl (own2.alloc _) ⟨w2.heap.size, 0, none⟩ 1 1 (pairV (e.r.o.wk, e.a.tr)) rfl rfl (Blk.new w2 #[.int .i64 e.r.o.wk, .int .i64 e.a.tr] _).news (by simp [pairV, Value.oneCell']) (by unfold maxLen; omega) (by omega) (by simp; omega) ?_; intro v' w4 own4 gr4 _; have G4 := (G2.alloc _).grown gr4 (fun j hj => .inr (own2.lt j hj).1); clear own2 gr4)
        go_roundw
        case rel => exact ⟨k + 1, by omega, by go_num, by rw [unhide HT, unhide HY]; simp only [Option.toList_some]; rw [cellsP_snoc, List.length_append, unhide HM]; exact own4, G4⟩
        case measure => go_light; simp [intOf]; omega
    · have hki : ¬ (k : Int) < (n : Int) := by omega
      have hkn : l.take k = l := by rw [show k = l.length by rw [unhide HL]; omega, List.take_length]
      have HK := hide hkn
      clear hkn
      go_wp2
      go_ret
      rw [unhide HK] at hown
      exact ⟨_, rfl, hown, hG⟩

end Go.Proofs.Ytjoibdmppmpjgac

namespace Go.Proofs.Ytjoibdmppmpjgac
open Go.RowKit

def rS1 : Rc := ⟨1, ⟨1, 0, 2, 0, 0, 0⟩⟩
def rS2 : Rc := ⟨1, ⟨2, 0, 0, 0, 3, 4⟩⟩
theorem rS1_ck : ckR rS1 = 0 := by decide
theorem rS2_ck : ckR rS2 = 0 := by decide
theorem rS_good : goodF 0 [rS1, rS2] := ⟨rS1_ck, by decide, rS2_ck, by decide, trivial⟩
theorem rS_all : allR 18 (byF [rS1, rS2]) = [rS1, rS2] := allR_cut rS_good (k := 18) (by decide)
theorem rS_evs : evs [rS1, rS2] = [⟨rS1, ⟨0, 0, 0⟩, ⟨1, 0, 0, 0⟩⟩, ⟨rS2, ⟨0, 2, 1⟩, ⟨2, 3, 1, 4⟩⟩] := by kernel_rfl
theorem rS_hold : holdL (evs [rS1, rS2]) 2 = [(3, 1)] := by kernel_rfl
theorem rS_T : (jobA (behindT ([rS1, rS2].take 1)) 2).st = 1 := by kernel_rfl

set_option maxRecDepth 100000 in
set_option maxHeartbeats 4000000 in
theorem sbegun_any (w : World) : Calls Try.prog 7 #[] w fun e w' => e = .returned (.bool true) ∧ Chg [] w w' := by
  obtain ⟨i0, hi, hz0, hz1, hz2⟩ := info_parts u8Info
  have hfld : ∀ (W : World) (a b c d : Value), (Instr.field 35 (.agg #[a, b, c, d]) 0).run Try.prog W = .ok a W := fun W a b c d => by kernel_rfl
  have heq2 : ∀ W : World, (Op.equalIn 10000 51 (.agg #[.int .i64 3, .int .i64 1]) (.agg #[.int .i64 3, .int .i64 1])).run Try.prog W = .ok true W := fun W => by kernel_rfl
  go_enter Try.func7, Try.ntmps7
  go_wp2_with fail
  refine (enc_yes rS1 _ rS1_ck).mono ?_
  rintro e w1 ⟨g, rfl, hg, B1, g1⟩
  go_wp2_with fail
  refine (enc_yes rS2 _ rS2_ck).mono ?_
  rintro e w2 ⟨g', rfl, hg', B2, g2⟩
  have B1' := B1.chg g2 (by simp)
  have G2 : Chg [] w w2 := g1.trans g2 (by simp)
  clear B1 g1 g2 hg hg'
  go_wp2_with (first
    | (at_builtin; refine wpList_append_own _ rfl (.const (.slice none 0 0)) (.tmp 21) 22 rfl w2.heap.size 5 i0 (.int .u8 0) 1 1 Try.underlying22 hi hz0 hz1 hz2 rfl (by decide) (.slice none 0 0) 0 [] rfl (World.ownsRow_nil _ _ _ _) ⟨g, 0, none⟩ 9 9 (nine rS1) rfl rfl B1'.news (nine_one rS1) (by unfold maxLen; omega) (by omega) (Nat.le_refl _) ?_; intro v3 w3 own3 gr3 _; simp only [List.nil_append, Nat.zero_add] at own3; have G3 : Chg [] w2 w3 := (Chg.refl [] w2).grown gr3 (by simp [Value.ownBlock]); have B3 := B2.chg G3 (by simp); have z3 := G3.size; clear gr3 B2 B1')
    | (at_builtin; refine wpList_append_own _ rfl (.tmp 22) (.tmp 23) 22 rfl w2.heap.size 5 i0 (.int .u8 0) 1 1 Try.underlying22 hi hz0 hz1 hz2 rfl (by decide) v3 9 (nine rS1) rfl own3 ⟨g', 0, none⟩ 9 9 (nine rS2) rfl rfl B3.news (nine_one rS2) (by unfold maxLen; omega) (by omega) z3 ?_; intro v4 w4 own4 gr4 _; have G4 := G3.grown gr4 (fun j hj => .inr (own3.lt j hj).1); clear gr4 own3 B3 G3))
  replace own4 : w4.ownsRow w2.heap.size 5 1 v4 18 (bysR [rS1, rS2]) := own4
  obtain ⟨a4, c4, rfl, hc4, Y4⟩ := own_byts own4 (f := byF [rS1, rS2]) (fun i hi => byF_bd rS_good i hi) (fun i hi => bysR_at [rS1, rS2] i hi)
  have GG4 := G2.trans G4 (by simp)
  have HY4 := hide Y4
  clear own4 G4 G2 Y4 z3
  refine (of_any a4 18 c4 (byF [rS1, rS2]) _ (by omega) hc4 (unhide HY4)).mono ?_
  rintro e w5 ⟨v5, rfl, own5, g5⟩
  rw [rS_all] at own5
  replace own5 : w5.ownsRow w4.heap.size 37 14 v5 2 (cellsE (evs [rS1, rS2])) := own5
  obtain ⟨a5, c5, rfl, hc5, E5⟩ := own_evs own5 rfl
  have HE5 := hide E5
  clear own5 E5
  go_wp2_with fail
  refine (holders_any a5 2 c5 (evs [rS1, rS2]) 2 _ rfl (by omega) (unhide HE5)).mono ?_
  rintro e w6 ⟨v6, rfl, own6, g6⟩
  rw [rS_hold] at own6
  replace own6 : w6.ownsRow w5.heap.size 51 2 v6 1 (cellsP [(3, 1)]) := own6
  obtain ⟨a6, c6, rfl, hc6, P6⟩ := own_prs own6 rfl
  have HP6 := hide P6
  have G56 := g5.trans g6 (by simp)
  clear own6 P6
  have HY6 := hide ((unhide HY4).chg G56)
  go_wp2_with fail
  refine (table_yes a4 18 c4 (byF [rS1, rS2]) 1 _ (by omega) hc4 (unhide HY6) (by rw [rS_all]; decide)).mono ?_
  rintro e w7 ⟨tb, rfl, hT7, g7, zt⟩
  rw [rS_all] at hT7
  have HT7 := hide hT7
  have HY7 := hide ((unhide HY6).chg g7)
  have G7 := GG4.trans (G56.trans g7 (by simp)) (by simp)
  have E7 := (unhide HE5).chg (g6.trans g7 (by simp))
  have P7 := (unhide HP6).chg g7
  rcases E7 with h0 | ⟨be, oe, rfl, le7, E7⟩
  · omega
  rcases P7 with h0 | ⟨bp, rfl, lp7, P7⟩
  · omega
  have p7 := P7 0 (3, 1) rfl
  have x7 := E7 1 (by omega)
  rw [rS_evs] at x7
  obtain ⟨-, -, -, -, -, -, -, e7, e8, e9, e10, e11, e12, e13⟩ := EvAt.all (e := ⟨rS2, ⟨0, 2, 1⟩, ⟨2, 3, 1, 4⟩⟩) x7
  obtain ⟨q0, q1⟩ := p7
  have HG7 := hide G7
  have lt7 := hT7.lt
  clear E7 P7 x7 HE5 HP6 HY4 HY6 g5 g6 g7 G56 GG4 G7 hT7
  simp only [Nat.one_mul, Nat.zero_mul, Nat.zero_add] at q0 q1 e7 e8 e9 e10 e11 e12 e13
  go_wp2_with (first
    | (go_at_call 25; refine (job_all tb 2 _ _ (unhide HT7)).mono ?_; rintro e w8 ⟨rfl, g8⟩; rw [rS_T]; have HY8 := hide ((unhide HY7).chg g8); have HG8 := hide ((unhide HG7).trans g8 (by simp)); clear g8)
    | (go_at_call 11; refine (table_no a4 18 c4 (byF [rS1, rS2]) 3 _ (by omega) hc4 (unhide HY8) (by rw [rS_all]; decide)).mono ?_; rintro e w9 ⟨rfl, g9⟩))
  go_ret
  exact ⟨rfl, (unhide HG8).trans g9 (by simp)⟩

end Go.Proofs.Ytjoibdmppmpjgac

