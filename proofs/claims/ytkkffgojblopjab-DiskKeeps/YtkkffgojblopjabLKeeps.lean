/-
  The walk of the law 'all that was written stands'. Nothing here is claimed by itself.
-/
import Derived.Test.YtkkffgojblopjabK5
namespace Go.Proofs.Ytkkffgojblopjab
open Go.RowKit

set_option maxRecDepth 100000 in
set_option maxHeartbeats 8000000 in
theorem keeps_row (a1 : Option Addr) (n1 c1 : Nat) (fs : Nat → Ds) (w : World) (hF : Stps w a1 n1 fs) :
    Calls Try.prog 4 #[.slice a1 n1 c1] w fun e w' => e = .returned (.bool true) ∧ Chg [] w w' := by
  have HF := hide hF
  clear hF
  go_enter Try.func4, Try.ntmps4
  go_wp2_with fail
  refine (dbegun_any _).mono ?_
  rintro e w1 ⟨rfl, g1⟩
  have stp1 : ∀ {a : Option Addr} {n : Nat} {f : Nat → Ds}, Stps w a n f → Stps w1 a n f := fun h => h.imp id (fun ⟨bl, off, e1, hb, hc⟩ => ⟨bl, off, e1, Nat.lt_of_lt_of_le hb g1.size, fun i hi => (hc i hi).chg g1 hb⟩)
  have S1 := hide (stp1 (unhide HF))
  clear stp1
  go_wp2_with fail
  refine (great_any a1 n1 c1 fs _ (unhide S1)).mono ?_
  rintro e w2 ⟨⟨b1, rfl, hb1⟩, rfl⟩
  cases b1
  case true =>
    go_wp2
    go_ret
    exact ⟨rfl, g1⟩
  case false =>
  have q1 := (hb1 rfl).1
  clear hb1 S1
  go_wp2_with fail
  refine (dnew_any _).mono ?_
  rintro e w4 ⟨rfl, D4, g4⟩
  have z1 := g1.size
  have HD := hide (D4.low z1)
  have HG := hide (g1.trans g4 (by simp))
  clear D4 g4 g1
  generalize hdb : w2.heap.size = db at *
  clear hdb
  go_wp2_with fail
  go_loopw [4] (fun i wr => ∃ (k : Nat) (ep : Int) (v : Value) (l : List Int), k ≤ n1 ∧ i = .int .i64 k ∧ 0 ≤ ep ∧ ep ≤ 100 ∧ Dsk 39 5 wr w.heap.size db ep v l ∧ Chg [] w wr) (fun i _ => n1 - (intOf i).toNat)
  case atStart => exact ⟨0, 0, _, [], by omega, rfl, by omega, by omega, unhide HD, unhide HG⟩
  case round =>
    obtain ⟨k, ep, v, l, hk, rfl, e0, e1, D, G⟩ := hrel
    clear HD HG
    by_cases hlt : k < n1
    · have hki : (k : Int) < (n1 : Int) := by omega
      have hk0 : (0 : Int) ≤ (k : Int) := by omega
      rcases unhide HF with h0 | ⟨bl, off, rfl, hbl, hO⟩
      · omega
      have hL := hO k hlt
      have HL := hide hL
      clear hO
      generalize fs k = s at *
      clear hL
      obtain ⟨sd, se, sn, sv, sx⟩ := s
      obtain ⟨-, -, -, -, hsl, hok, r0, r1⟩ := unhide HL
      simp only at hsl hok r0 r1
      obtain ⟨av, cv, rfl⟩ := sl_slice hsl
      have HS := hide hsl
      have HK := hide hok
      clear hsl hok
      obtain ⟨p0, p1, p2, p3, -⟩ := (unhide HL).chg G hbl
      simp only at p0 p1 p2 p3
      have zr := G.size
      have DD := D.alloc (.cells #[.int .i64 sd, .int .i64 se, .int .i64 sn, .slice av sx.length cv] 29)
      have GG := G.alloc (.cells #[.int .i64 sd, .int .i64 se, .int .i64 sn, .slice av sx.length cv] 29)
      have XX := Blk.new wr #[.int .i64 sd, .int .i64 se, .int .i64 sn, .slice av sx.length cv] 29
      go_wp2_with (first
        | (go_at_call 12; refine (dbytes_any db ep v l _ _ DD).mono ?_; rintro e w6 ⟨v6, rfl, own6, g6⟩; have hcv := kStr l w6 v6 (own_sl own6); have D6 := DD.chg g6 (by simp); have X6 := XX.chg g6 (by simp); have G6 := GG.trans g6 (by simp); have O6 := hide own6; obtain ⟨a6, m6, c6, rfl⟩ := own_slice own6; clear g6 own6 p0 p1 p2 p3)
        | (go_at_call 10; refine (depoch_any db ep v l _ _ D6).mono ?_; rintro e w' ⟨rfl, rfl⟩))
      obtain rfl := own_m (unhide O6)
      have HD6 := hide D6
      have HX6 := hide X6
      have HG6 := hide G6
      have lfp := D.fp_lt
      have hdx : db < wr.heap.size := lfp db (mem_fp.2 (.inl rfl))
      have hfew := D.few
      clear hcv DD GG XX D6 X6 G6 D G
      have O7 := hide (own_base (unhide O6) (base' := wr.heap.size + 1) (by simp))
      clear O6
      generalize hxb : wr.heap.size = xb at *
      clear hxb
      go_loopw [9] (fun i wq => ∃ (q : Nat) (xs : List Value), q ≤ l.length ∧ i = .int .i64 q ∧ Hid (wq.ownsRow (xb + 1) 5 1 (.slice a6 l.length c6) l.length xs) ∧ Dsk 39 5 wq w.heap.size db ep v l ∧ Blk wq xb #[.int .i64 sd, .int .i64 se, .int .i64 sn, .slice av sx.length cv] 29 ∧ Chg [] w wq) (fun i _ => l.length - (intOf i).toNat)
      case atStart => exact ⟨0, _, by omega, rfl, O7, unhide HD6, unhide HX6, unhide HG6⟩
      case round =>
        obtain ⟨q, xs, hq, rfl, hown, D, X, G⟩ := hrel
        clear HD6 HX6 HG6 O7
        by_cases hql : q < l.length
        · have hqi : (q : Int) < (l.length : Int) := by omega
          have hq0 : (0 : Int) ≤ (q : Int) := by omega
          obtain ⟨g, rfl, hgb⟩ := own_some (unhide hown) (by omega)
          obtain ⟨u, hu⟩ : ∃ u, xs[q]? = some u := ⟨xs[q]'(by have := (unhide hown).1; omega), List.getElem?_eq_getElem _⟩
          have hcell : wr.cell? ⟨g, q, none⟩ = some u := by rw [(unhide hown).cellAt q (by omega), hu]
          clear hu
          have hfz := (unhide hown).frozenAt q
          have hglt := ((unhide hown).lt g rfl).2
          go_wp2
          go_roundw
          case rel => exact ⟨q + 1, _, by omega, by go_num, hide ((unhide hown).stored q _).1, D.chg ((Chg.refl [g] _).setCell (p := ⟨g, q, none⟩) (by simp) _) (by intro x hx hf; simp at hx; have := lfp x hf; omega), X.other (by simp; omega) _, G.setCell (by simp; omega) _⟩
          case measure => go_light; simp [intOf]; omega
        · have hqn : ¬ (q : Int) < (l.length : Int) := by omega
          have zq := G.size
          have lX := X.lt
          obtain ⟨x0, x1, x2, x3, -⟩ := X.cells4
          clear hown
          by_cases h0 : sd = 0
          · have b0 : (sd == 0) = true := by simpa using h0
            clear h0
            by_cases hq1 : 100 ≤ ep
            · obtain rfl : ep = 100 := by omega
              clear hq1
              go_wp2_with (first
                | (go_at_call 8; refine (draise_full db v l _ _ D).mono ?_; rintro e w7 ⟨rfl, D7, g7⟩; have G7 := G.trans g7 (fun x hx => .inr (by simp at hx; omega)); have X7 := X.chg g7 (by simp; omega); clear g7)
                | (go_at_call 10; refine (depoch_any db 100 _ l _ _ D7).mono ?_; rintro e w' ⟨rfl, rfl⟩)
                | (go_at_call 12; refine (dbytes_any db 100 _ l _ _ D7).mono ?_; rintro e w8 ⟨v8, rfl, own8, g8⟩; have hcv := kStr l w8 v8 (own_sl own8); have D8 := D7.chg g8 (by simp); have G8 := G7.trans g8 (by simp); obtain ⟨y0, y1, y2, y3, ly⟩ := (X7.chg g8 (by simp)).cells4; clear g8 own8))
              go_roundw
              case rel => exact ⟨k + 1, 100, _, l, by omega, by go_num, e0, e1, D8, G8⟩
              case measure => go_light; simp [intOf]; omega
            · go_wp2_with (first
                | (go_at_call 8; refine (draise_more db ep v l _ _ D e0 hq1).mono ?_; rintro e w7 ⟨rfl, D7, g7⟩; have G7 := G.trans g7 (fun x hx => .inr (by simp at hx; omega)); have X7 := X.chg g7 (by simp; omega); clear g7)
                | (go_at_call 10; refine (depoch_any db (ep + 1) _ l _ _ D7).mono ?_; rintro e w' ⟨rfl, rfl⟩)
                | (go_at_call 12; refine (dbytes_any db (ep + 1) _ l _ _ D7).mono ?_; rintro e w8 ⟨v8, rfl, own8, g8⟩; have hcv := kStr l w8 v8 (own_sl own8); have D8 := D7.chg g8 (by simp); have G8 := G7.trans g8 (by simp); obtain ⟨y0, y1, y2, y3, ly⟩ := (X7.chg g8 (by simp)).cells4; clear g8 own8))
              go_roundw
              case rel => exact ⟨k + 1, (ep + 1), _, l, by omega, by go_num, by omega, by omega, D8, G8⟩
              case measure => go_light; simp [intOf]; omega
          have b0 : (sd == 0) = false := by simpa using h0
          by_cases h1 : sd = 1
          · have b1 : (sd == 1) = true := by simpa using h1
            clear h0 h1
            by_cases hse : se = 0
            · subst hse
              by_cases hep : ep = 0
              · subst hep
                go_wp2_with (first
                  | (go_at_call 9; refine (dapp_no db 0 v l _ _ _ _ D (by decide)).mono ?_; rintro e w7 ⟨rfl, rfl⟩; have D7 := D; have G7 := G; have X7 := X)
                  | (go_at_call 10; refine (depoch_any db 0 _ l _ _ D7).mono ?_; rintro e w' ⟨rfl, rfl⟩)
                  | (go_at_call 12; refine (dbytes_any db 0 _ l _ _ D7).mono ?_; rintro e w8 ⟨v8, rfl, own8, g8⟩; have hcv := kStr l w8 v8 (own_sl own8); have D8 := D7.chg g8 (by simp); have G8 := G7.trans g8 (by simp); obtain ⟨y0, y1, y2, y3, ly⟩ := (X7.chg g8 (by simp)).cells4; clear g8 own8))
                go_roundw
                case rel => exact ⟨k + 1, 0, _, l, by omega, by go_num, e0, e1, D8, G8⟩
                case measure => go_light; simp [intOf]; omega
              · have hp1 : 1 ≤ ep := by omega
                by_cases hn : 1500 < l.length + sx.length
                · go_wp2_with (first
                    | (go_at_call 9; refine (dapp_full db ep v l _ _ sx _ D hp1 ((unhide HS).chg G (by simp)) (unhide HK) zq hn).mono ?_; rintro e w7 ⟨rfl, v7, D7, g7, -⟩; have G7 := G.trans g7 (fun x hx => .inr (D.fp_ge z1 x hx)); have X7 := X.chg g7 (fun hx => absurd (lfp _ hx) (by omega)); obtain ⟨x0, x1, x2, x3, -⟩ := X7.cells4; clear g7)
                    | (go_at_call 10; refine (depoch_any db ep _ l _ _ D7).mono ?_; rintro e w' ⟨rfl, rfl⟩)
                    | (go_at_call 12; refine (dbytes_any db ep _ l _ _ D7).mono ?_; rintro e w8 ⟨v8, rfl, own8, g8⟩; have hcv := kStr l w8 v8 (own_sl own8); have D8 := D7.chg g8 (by simp); have G8 := G7.trans g8 (by simp); obtain ⟨y0, y1, y2, y3, ly⟩ := (X7.chg g8 (by simp)).cells4; clear g8 own8))
                  go_roundw
                  case rel => exact ⟨k + 1, ep, _, l, by omega, by go_num, e0, e1, D8, G8⟩
                  case measure => go_light; simp [intOf]; omega
                · have hsa := str_app l sx
                  have hz1 := strOfNums_size l
                  have hz2 := strOfNums_size sx
                  have hn2 : l.length + sx.length ≤ 1500 := by omega
                  have hn3 : ¬ (9223372036854775807 : Int) < (l.length : Int) + (sx.length : Int) := by omega
                  clear hn
                  go_wp2_with (first
                    | (go_at_call 9; refine (dapp_yes db ep v l _ _ sx _ D hp1 ((unhide HS).chg G (by simp)) (unhide HK) zq (by omega)).mono ?_; rintro e w7 ⟨rfl, v7, D7, g7, -⟩; have G7 := G.trans g7 (fun x hx => .inr (D.fp_ge z1 x hx)); have X7 := X.chg g7 (fun hx => absurd (lfp _ hx) (by omega)); obtain ⟨x0, x1, x2, x3, -⟩ := X7.cells4; clear g7; have hcx := kStr sx w7 _ ((unhide HS).chg G7 (by simp)))
                    | (go_at_call 10; refine (depoch_any db ep _ (l ++ sx) _ _ D7).mono ?_; rintro e w' ⟨rfl, rfl⟩)
                    | (go_at_call 12; refine (dbytes_any db ep _ (l ++ sx) _ _ D7).mono ?_; rintro e w8 ⟨v8, rfl, own8, g8⟩; have hcv := kStr (l ++ sx) w8 v8 (own_sl own8); have D8 := D7.chg g8 (by simp); have G8 := G7.trans g8 (by simp); obtain ⟨y0, y1, y2, y3, ly⟩ := (X7.chg g8 (by simp)).cells4; clear g8 own8))
                  go_roundw
                  case rel => exact ⟨k + 1, ep, _, (l ++ sx), by omega, by go_num, e0, e1, D8, G8⟩
                  case measure => go_light; simp [intOf]; omega
            · have bse : (se != 0) = true := by rw [bne_iff_ne]; exact hse
              go_wp2_with (first
                | (go_at_call 9; refine (dapp_no db ep v l _ _ _ _ D (fen_wrap r0 r1 hse)).mono ?_; rintro e w7 ⟨rfl, rfl⟩; have D7 := D; have G7 := G; have X7 := X)
                | (go_at_call 10; refine (depoch_any db ep _ l _ _ D7).mono ?_; rintro e w' ⟨rfl, rfl⟩)
                | (go_at_call 12; refine (dbytes_any db ep _ l _ _ D7).mono ?_; rintro e w8 ⟨v8, rfl, own8, g8⟩; have hcv := kStr l w8 v8 (own_sl own8); have D8 := D7.chg g8 (by simp); have G8 := G7.trans g8 (by simp); obtain ⟨y0, y1, y2, y3, ly⟩ := (X7.chg g8 (by simp)).cells4; clear g8 own8))
              go_roundw
              case rel => exact ⟨k + 1, ep, _, l, by omega, by go_num, e0, e1, D8, G8⟩
              case measure => go_light; simp [intOf]; omega
          have b1 : (sd == 1) = false := by simpa using h1
          by_cases h2 : sd = 2
          · have b2 : (sd == 2) = true := by simpa using h2
            clear h0 h1 h2
            by_cases hse : se = 0
            · subst hse
              by_cases hep : ep = 0
              · subst hep
                go_wp2_with (first
                  | (go_at_call 11; refine (dcut_no db 0 v l _ _ _ _ D (by decide)).mono ?_; rintro e w7 ⟨rfl, rfl⟩; have D7 := D; have G7 := G; have X7 := X)
                  | (go_at_call 10; refine (depoch_any db 0 _ l _ _ D7).mono ?_; rintro e w' ⟨rfl, rfl⟩)
                  | (go_at_call 12; refine (dbytes_any db 0 _ l _ _ D7).mono ?_; rintro e w8 ⟨v8, rfl, own8, g8⟩; have hcv := kStr l w8 v8 (own_sl own8); have D8 := D7.chg g8 (by simp); have G8 := G7.trans g8 (by simp); obtain ⟨y0, y1, y2, y3, ly⟩ := (X7.chg g8 (by simp)).cells4; clear g8 own8))
                go_roundw
                case rel => exact ⟨k + 1, 0, _, l, by omega, by go_num, e0, e1, D8, G8⟩
                case measure => go_light; simp [intOf]; omega
              · have hp1 : 1 ≤ ep := by omega
                by_cases hn : sn < 0 ∨ (l.length : Int) < sn
                · go_wp2_with (first
                    | (go_at_call 11; refine (dcut_rng db ep v l _ sn _ D hp1 hn).mono ?_; rintro e w7 ⟨rfl, v7, D7, g7, -⟩; have G7 := G.trans g7 (fun x hx => .inr (D.fp_ge z1 x hx)); have X7 := X.chg g7 (fun hx => absurd (lfp _ hx) (by omega)); obtain ⟨x0, x1, x2, x3, -⟩ := X7.cells4; clear g7)
                    | (go_at_call 10; refine (depoch_any db ep _ l _ _ D7).mono ?_; rintro e w' ⟨rfl, rfl⟩)
                    | (go_at_call 12; refine (dbytes_any db ep _ l _ _ D7).mono ?_; rintro e w8 ⟨v8, rfl, own8, g8⟩; have hcv := kStr l w8 v8 (own_sl own8); have D8 := D7.chg g8 (by simp); have G8 := G7.trans g8 (by simp); obtain ⟨y0, y1, y2, y3, ly⟩ := (X7.chg g8 (by simp)).cells4; clear g8 own8))
                  go_roundw
                  case rel => exact ⟨k + 1, ep, _, l, by omega, by go_num, e0, e1, D8, G8⟩
                  case measure => go_light; simp [intOf]; omega
                · obtain ⟨m, rfl⟩ : ∃ m : Nat, sn = m := ⟨sn.toNat, by omega⟩
                  have hm : m ≤ l.length := by omega
                  have hm0 : decide ((m : Int) < 0) = false := by simp
                  have hm1 : decide ((l.length : Int) < (m : Int)) = false := by simp; omega
                  have hsz := strOfNums_size l
                  have hst := str_take l m
                  have hmi : (m : Int) ≤ (l.length : Int) := by omega
                  go_wp2_with (first
                    | (go_at_call 11; refine (dcut_yes db ep v l _ m _ D hp1 hm).mono ?_; rintro e w7 ⟨rfl, v7, D7, g7, -⟩; have G7 := G.trans g7 (fun x hx => .inr (D.fp_ge z1 x hx)); have X7 := X.chg g7 (fun hx => absurd (lfp _ hx) (by omega)); obtain ⟨x0, x1, x2, x3, -⟩ := X7.cells4; clear g7)
                    | (go_at_call 10; refine (depoch_any db ep _ (l.take m) _ _ D7).mono ?_; rintro e w' ⟨rfl, rfl⟩)
                    | (go_at_call 12; refine (dbytes_any db ep _ (l.take m) _ _ D7).mono ?_; rintro e w8 ⟨v8, rfl, own8, g8⟩; have hcv := kStr (l.take m) w8 v8 (own_sl own8); have D8 := D7.chg g8 (by simp); have G8 := G7.trans g8 (by simp); obtain ⟨y0, y1, y2, y3, ly⟩ := (X7.chg g8 (by simp)).cells4; clear g8 own8))
                  go_roundw
                  case rel => exact ⟨k + 1, ep, _, (l.take m), by omega, by go_num, e0, e1, D8, G8⟩
                  case measure => go_light; simp [intOf]; omega
            · have bse : (se != 0) = true := by rw [bne_iff_ne]; exact hse
              go_wp2_with (first
                | (go_at_call 11; refine (dcut_no db ep v l _ _ _ _ D (fen_wrap r0 r1 hse)).mono ?_; rintro e w7 ⟨rfl, rfl⟩; have D7 := D; have G7 := G; have X7 := X)
                | (go_at_call 10; refine (depoch_any db ep _ l _ _ D7).mono ?_; rintro e w' ⟨rfl, rfl⟩)
                | (go_at_call 12; refine (dbytes_any db ep _ l _ _ D7).mono ?_; rintro e w8 ⟨v8, rfl, own8, g8⟩; have hcv := kStr l w8 v8 (own_sl own8); have D8 := D7.chg g8 (by simp); have G8 := G7.trans g8 (by simp); obtain ⟨y0, y1, y2, y3, ly⟩ := (X7.chg g8 (by simp)).cells4; clear g8 own8))
              go_roundw
              case rel => exact ⟨k + 1, ep, _, l, by omega, by go_num, e0, e1, D8, G8⟩
              case measure => go_light; simp [intOf]; omega
          have b2 : (sd == 2) = false := by simpa using h2
          clear h0 h1 h2
          go_wp2
          go_roundw
          case rel => exact ⟨k + 1, ep, v, l, by omega, by go_num, e0, e1, D, G⟩
          case measure => go_light; simp [intOf]; omega
    · have hkn : ¬ (k : Int) < (n1 : Int) := by omega
      go_wp2
      go_ret
      exact ⟨rfl, G⟩

end Go.Proofs.Ytkkffgojblopjab
