/-
  The walk of the law 'who was fenced writes nothing'. Nothing here is claimed by itself.
-/
import Derived.Test.YtkkffgojblopjabK4
namespace Go.Proofs.Ytkkffgojblopjab
open Go.RowKit

set_option maxRecDepth 100000 in
set_option maxHeartbeats 4000000 in
theorem fence_row (a1 a2 : Option Addr) (n1 c1 n2 c2 : Nat) (fs gs : Nat → Ds) (w : World) (hF : Stps w a1 n1 fs) (hH : Stps w a2 n2 gs) :
    Calls Try.prog 3 #[.slice a1 n1 c1, .slice a2 n2 c2] w fun e w' => e = .returned (.bool true) ∧ Chg [] w w' := by
  have hcc : ∀ (W : World) (C : Array Value) (n c : Nat), (convert 27 27 (.slice (some ⟨W.heap.size, 0, none⟩) n c)).run Try.prog (W.alloc (.cells C 5)) = .ok (.slice (some ⟨W.heap.size, 0, none⟩) n c) (W.alloc (.cells C 5 (C.size, C.size + 1))) := fun W C n c => Lib.run_convert_bytes_const W _ _ C n c Try.underlying27 Try.underlying5
  have HF := hide hF
  have HH := hide hH
  clear hF hH
  go_enter Try.func3, Try.ntmps3
  go_wp2_with fail
  refine (dbegun_any _).mono ?_
  rintro e w1 ⟨rfl, g1⟩
  have stp1 : ∀ {a : Option Addr} {n : Nat} {f : Nat → Ds}, Stps w a n f → Stps w1 a n f := fun h => h.imp id (fun ⟨bl, off, e1, hb, hc⟩ => ⟨bl, off, e1, Nat.lt_of_lt_of_le hb g1.size, fun i hi => (hc i hi).chg g1 hb⟩)
  have S1 := hide (stp1 (unhide HF))
  have S2 := hide (stp1 (unhide HH))
  clear stp1
  go_wp2_with fail
  refine (great_any a1 n1 c1 fs _ (unhide S1)).mono ?_
  rintro e w2 ⟨⟨b1, rfl, hb1⟩, rfl⟩
  cases b1
  case true =>
    go_wp2
    go_ret
    exact ⟨rfl, g1⟩
  case false =>
  have q1 := (hb1 rfl).1
  clear hb1
  go_wp2_with fail
  refine (great_any a2 n2 c2 gs _ (unhide S2)).mono ?_
  rintro e w3 ⟨⟨b2, rfl, hb2⟩, rfl⟩
  cases b2
  case true =>
    go_wp2
    go_ret
    exact ⟨rfl, g1⟩
  case false =>
  have q2 := (hb2 rfl).1
  clear hb2 S1 S2
  go_wp2_with fail
  refine (dnew_any _).mono ?_
  rintro e w4 ⟨rfl, D4, g4⟩
  have z1 := g1.size
  have HD := hide (D4.low z1)
  have HG := hide (g1.trans g4 (by simp))
  clear D4 g4 g1
  generalize hdb : w3.heap.size = db at *
  clear hdb
  go_wp2_with fail
  go_loopw [6] (fun i wr => ∃ (k : Nat) (ep : Int) (v : Value) (l : List Int), k ≤ n1 ∧ i = .int .i64 k ∧ 0 ≤ ep ∧ ep ≤ 100 ∧ Dsk 39 5 wr w.heap.size db ep v l ∧ Chg [] w wr) (fun i _ => n1 - (intOf i).toNat)
  case atStart => exact ⟨0, 0, _, [], by omega, rfl, by omega, by omega, unhide HD, unhide HG⟩
  case round =>
    obtain ⟨k, ep, v, l, hk, rfl, e0, e1, D, G⟩ := hrel
    clear HD HG
    by_cases hlt : k < n1
    · have hki : (k : Int) < (n1 : Int) := by omega
      have hk0 : (0 : Int) ≤ (k : Int) := by omega
      rcases unhide HF with h0 | ⟨bl, off, rfl, hbl, hO⟩
      · omega
      have hL := hO k hlt
      have HL := hide hL
      clear hO
      generalize fs k = s at *
      clear hL
      obtain ⟨sd, se, sn, sv, sx⟩ := s
      obtain ⟨-, -, -, -, hsl, hok, -⟩ := unhide HL
      simp only at hsl hok
      obtain ⟨av, cv, rfl⟩ := sl_slice hsl
      have HS := hide hsl
      have HK := hide hok
      clear hsl hok
      obtain ⟨p0, p1, p2, p3, -⟩ := (unhide HL).chg G hbl
      simp only at p0 p1 p2 p3
      have zr := G.size
      have DD := D.alloc (.cells #[.int .i64 sd, .int .i64 se, .int .i64 sn, .slice av sx.length cv] 29)
      have GG := G.alloc (.cells #[.int .i64 sd, .int .i64 se, .int .i64 sn, .slice av sx.length cv] 29)
      have XX := Blk.new wr #[.int .i64 sd, .int .i64 se, .int .i64 sn, .slice av sx.length cv] 29
      have Dd := DD.drew
      have Gd := GG.drew
      have Xd : Blk (wr.alloc (.cells #[.int .i64 sd, .int .i64 se, .int .i64 sn, .slice av sx.length cv] 29)).drew wr.heap.size #[.int .i64 sd, .int .i64 se, .int .i64 sn, .slice av sx.length cv] 29 := XX
      obtain ⟨-, x1, x2, x3, -⟩ := Xd.cells4
      by_cases h0 : sd = 0
      · have b0 : (sd == 0) = true := by simpa using h0
        clear h0 Dd Gd Xd x1 x2 x3
        go_wp2_with (go_at_call 8; refine (draise_any db ep v l _ _ DD e0 e1).mono ?_; rintro e w5 ⟨rfl, D5, g5⟩; have G5 := GG.trans g5 (fun x hx => .inr (by simp at hx; omega)); clear g5)
        go_roundw
        case rel => exact ⟨k + 1, rsE ep, v, l, by omega, by go_num, (rsE_bd e0 e1).1, (rsE_bd e0 e1).2, D5, G5⟩
        case measure => go_light; simp [intOf]; omega
      have b0 : (sd == 0) = false := by simpa using h0
      by_cases h1 : sd = 1
      · have b1 : (sd == 1) = true := by simpa using h1
        clear h0 h1
        go_wp2_with fail
        go_region_held3 (fun w' => w'.cell? ⟨wr.heap.size, 1, none⟩ = some (.int .i64 se) ∧ w'.cell? ⟨wr.heap.size, 3, none⟩ = some (.slice av sx.length cv)) (first | exact ⟨x1, x3⟩ | exact ⟨y1, y3⟩) (first
          | (go_at_call 10; refine (depoch_any db ep v l _ _ Dd).mono ?_; rintro e w' ⟨rfl, rfl⟩)
          | (go_at_call 9; refine (dapp_any db ep v l _ _ _ sx _ Dd ((unhide HS).chg Gd (by simp)) (unhide HK) Gd.size).mono ?_; rintro e w5 ⟨rfl, v5, D5, g5, -⟩; have G5 := Gd.trans g5 (fun x hx => .inr (D.fp_ge z1 x hx)); obtain ⟨-, y1, y2, y3, -⟩ := (Xd.chg g5 (fun hx => absurd (D.fp_lt _ hx) (by omega))).cells4; clear g5))
        go_wp2
        go_roundw
        case rel => exact ⟨k + 1, ep, v5, _, by omega, by go_num, e0, e1, D5, G5⟩
        case measure => go_light; simp [intOf]; omega
      have b1 : (sd == 1) = false := by simpa using h1
      by_cases h2 : sd = 2
      · have b2 : (sd == 2) = true := by simpa using h2
        clear h0 h1 h2
        go_wp2_with fail
        go_region_held3 (fun w' => w'.cell? ⟨wr.heap.size, 1, none⟩ = some (.int .i64 se) ∧ w'.cell? ⟨wr.heap.size, 2, none⟩ = some (.int .i64 sn)) (first | exact ⟨x1, x2⟩ | exact ⟨y1, y2⟩) (first
          | (go_at_call 10; refine (depoch_any db ep v l _ _ Dd).mono ?_; rintro e w' ⟨rfl, rfl⟩)
          | (go_at_call 11; refine (dcut_any db ep v l _ _ _ _ Dd).mono ?_; rintro e w5 ⟨rfl, v5, D5, g5, -⟩; have G5 := Gd.trans g5 (fun x hx => .inr (D.fp_ge z1 x hx)); obtain ⟨-, y1, y2, y3, -⟩ := (Xd.chg g5 (fun hx => absurd (D.fp_lt _ hx) (by omega))).cells4; clear g5))
        go_wp2
        go_roundw
        case rel => exact ⟨k + 1, ep, v5, _, by omega, by go_num, e0, e1, D5, G5⟩
        case measure => go_light; simp [intOf]; omega
      have b2 : (sd == 2) = false := by simpa using h2
      clear h0 h1 h2 Dd Gd Xd x1 x2 x3
      go_wp2
      go_roundw
      case rel => exact ⟨k + 1, ep, v, l, by omega, by go_num, e0, e1, DD, GG⟩
      case measure => go_light; simp [intOf]; omega
    · have hkn : ¬ (k : Int) < (n1 : Int) := by omega
      by_cases hq : 100 ≤ ep
      · obtain rfl : ep = 100 := by omega
        clear hq e0 e1
        go_wp2_with (first
          | (go_at_call 8; refine (draise_full db v l _ _ D).mono ?_; rintro e w5 ⟨rfl, D5, g5⟩; have G5 := G.trans g5 (fun x hx => .inr (by simp at hx; omega)); clear g5)
          | (go_at_call 10; refine (depoch_any db 100 v l _ _ D5).mono ?_; rintro e w' ⟨rfl, rfl⟩))
        go_ret
        exact ⟨rfl, G5⟩
      · go_wp2_with (first
          | (go_at_call 8; refine (draise_more db ep v l _ _ D e0 hq).mono ?_; rintro e w5 ⟨rfl, D5, g5⟩; have G5 := G.trans g5 (fun x hx => .inr (by simp at hx; omega)); clear g5)
          | (go_at_call 12; refine (dbytes_any db (ep + 1) v l _ _ D5).mono ?_; rintro e w6 ⟨v6, rfl, own6, g6⟩; have hcv := kStr l w6 v6 (own_sl own6); have D6 := D5.chg g6 (by simp); have G6 := G5.trans g6 (by simp); clear g6 own6))
        have HD := hide D6
        have HG := hide G6
        clear D6 G6 D5 G5 D G hcv HF
        have e2 : ep ≤ 99 := by omega
        go_loopw [11] (fun i wr => ∃ (k : Nat) (v : Value), k ≤ n2 ∧ i = .int .i64 k ∧ Dsk 39 5 wr w.heap.size db (ep + 1) v l ∧ Chg [] w wr) (fun i _ => n2 - (intOf i).toNat)
        case atStart => exact ⟨0, _, by omega, rfl, unhide HD, unhide HG⟩
        case round =>
          obtain ⟨q, v, hq2, rfl, D, G⟩ := hrel
          clear HD HG
          by_cases hlt2 : q < n2
          · have hki : (q : Int) < (n2 : Int) := by omega
            have hk0 : (0 : Int) ≤ (q : Int) := by omega
            rcases unhide HH with h0 | ⟨bl, off, rfl, hbl, hO⟩
            · omega
            have hL := hO q hlt2
            have HL := hide hL
            clear hO
            generalize gs q = s at *
            clear hL
            obtain ⟨sd, se, sn, sv, sx⟩ := s
            obtain ⟨-, -, -, -, hsl, hok, -⟩ := unhide HL
            simp only at hsl hok
            obtain ⟨av, cv, rfl⟩ := sl_slice hsl
            have HS := hide hsl
            have HK := hide hok
            clear hsl hok
            obtain ⟨p0, p1, p2, p3, -⟩ := (unhide HL).chg G hbl
            simp only at p0 p1 p2 p3
            have zr := G.size
            have DD := D.alloc (.cells #[.int .i64 sd, .int .i64 se, .int .i64 sn, .slice av sx.length cv] 29)
            have GG := G.alloc (.cells #[.int .i64 sd, .int .i64 se, .int .i64 sn, .slice av sx.length cv] 29)
            have XX := Blk.new wr #[.int .i64 sd, .int .i64 se, .int .i64 sn, .slice av sx.length cv] 29
            have Dd := DD.drew
            have Gd := GG.drew
            have Xd : Blk (wr.alloc (.cells #[.int .i64 sd, .int .i64 se, .int .i64 sn, .slice av sx.length cv] 29)).drew wr.heap.size #[.int .i64 sd, .int .i64 se, .int .i64 sn, .slice av sx.length cv] 29 := XX
            obtain ⟨-, x1, x2, x3, -⟩ := Xd.cells4
            obtain ⟨j, hj, ej⟩ := pickE se
            have hj' : (j : Int) ≤ 99 := by omega
            have hj0 : (0 : Int) ≤ (j : Int) := by omega
            go_wp2_with fail
            go_region_held3 (fun w' => w'.cell? ⟨wr.heap.size, 2, none⟩ = some (.int .i64 sn) ∧ w'.cell? ⟨wr.heap.size, 3, none⟩ = some (.slice av sx.length cv)) (exact ⟨x2, x3⟩) (first
              | (go_at_call 9; refine (dapp_no db (ep + 1) v l _ _ _ _ Dd (fen_below (by omega))).mono ?_; rintro e w' ⟨rfl, rfl⟩)
              | (go_at_call 11; refine (dcut_no db (ep + 1) v l _ _ _ _ Dd (fen_below (by omega))).mono ?_; rintro e w' ⟨rfl, rfl⟩))
            go_wp2_with (first
              | (go_at_call 12; refine (dbytes_any db (ep + 1) v l _ _ Dd).mono ?_; rintro e w6 ⟨v6, rfl, own6, g6⟩; have hcv := kStr l w6 v6 (own_sl own6); have D6 := Dd.chg g6 (by simp); have G6 := Gd.trans g6 (by simp); clear g6 own6)
              | (go_at_call 10; refine (depoch_any db (ep + 1) v l _ _ D6).mono ?_; rintro e w' ⟨rfl, rfl⟩))
            go_roundw
            case rel => exact ⟨q + 1, v, by omega, by go_num, D6, G6⟩
            case measure => go_light; simp [intOf]; omega
          · have hkn2 : ¬ (q : Int) < (n2 : Int) := by omega
            have zr := G.size
            go_wp2_with (first
              | (go_at_call 11; refine (dcut_zero db (ep + 1) v l _ _ D (by omega)).mono ?_; rintro e w7 ⟨rfl, v7, D7, g7, -⟩; have G7 := G.trans g7 (fun x hx => .inr (D.fp_ge z1 x hx)); have z7 := G7.size; clear g7)
              | (go_at_call 9; refine (dapp_yes db (ep + 1) v7 [] _ _ [120] _ (D7.alloc _) (by omega) (sl_new w7 [120] _ rfl _ _) (okB_lit rfl) (by simp; omega) (by decide)).mono ?_; rintro e w8 ⟨rfl, v8, D8, g8, -⟩; have G8 := (G7.alloc _).trans g8 (fun x hx => .inr (D7.fp_ge z1 x hx)); clear g8)
              | (go_at_call 12; refine (dbytes_any db (ep + 1) v8 ([] ++ [120]) _ _ D8).mono ?_; rintro e w9 ⟨v9, rfl, own9, g9⟩; have hcv : (convert 27 9 v9).run Try.prog w9 = .ok (.string ⟨#[120]⟩) w9 := kStr [120] w9 v9 (own_sl own9); have G9 := G8.trans g9 (by simp); clear g9 own9))
            go_ret
            exact ⟨rfl, G9⟩

end Go.Proofs.Ytkkffgojblopjab
